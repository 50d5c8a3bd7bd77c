/- Several texts in one file: EnSymG. -/
import Derived.Test.YtlimajgmdhhggaaGreatDoorEnaP5
namespace Go.Proofs.YtlimajgmdhhggaaGreatDoor
open Go.RowKit
set_option linter.unusedVariables false
set_option linter.unusedSimpArgs false

set_option maxRecDepth 100000 in
set_option maxHeartbeats 16000000 in
theorem sym_step1 (X Y : List PT) (B g n cap : Nat) (hl : n ≤ 1000000) (hX : sortedG X) (hY : sortedG Y) (hx2 : 2 ≤ X.length) (hy2 : 2 ≤ Y.length) (hcase : (X.length + Y.length) / 2 < X.length) (IH : ∀ X' Y' : List PT, X'.length + Y'.length < X.length + Y.length → 0 < X'.length → 0 < Y'.length → sortedG X' → sortedG Y' → SymC B g n cap X' Y') : SymC B g n cap X Y := by
  intro A C a m b w hn ha hm hb h hv
  have hn0 := hn
  simp only [List.length_append] at hn
  obtain ⟨nx, hnx⟩ : ∃ k, k = X.length := ⟨_, rfl⟩
  obtain ⟨ny, hny⟩ : ∃ k, k = Y.length := ⟨_, rfl⟩
  obtain ⟨hf, hhf⟩ : ∃ k, k = (nx + ny) / 2 := ⟨_, rfl⟩
  obtain ⟨mid, hmid⟩ : ∃ k, k = a + hf := ⟨_, rfl⟩
  obtain ⟨nn, hnn⟩ : ∃ k, k = mid + m := ⟨_, rfl⟩
  obtain ⟨pp, hpp⟩ : ∃ k, k = nn - 1 := ⟨_, rfl⟩
  obtain ⟨s0, hs0⟩ : ∃ k, k = hf + nx - (nx + ny) := ⟨_, rfl⟩
  obtain ⟨r0, hr0⟩ : ∃ k, k = hf := ⟨_, rfl⟩
  obtain ⟨st0, hst0⟩ : ∃ k, k = a + s0 := ⟨_, rfl⟩
  obtain ⟨rr0, hrr0⟩ : ∃ k, k = a + r0 := ⟨_, rfl⟩
  have hcase' : hf < nx := by rw [hnx, hny] at hhf; omega
  have q1 : IntKind.i64.wrap ((m : Int) - (a : Int)) = (nx : Int) := wrapS (by omega) (by omega)
  have q1b : ((nx : Int) == 1) = false := by simp; omega
  have q1c : decide ((nx : Int) = 1) = false := by simp; omega
  have q2 : IntKind.i64.wrap ((b : Int) - (m : Int)) = (ny : Int) := wrapS (by omega) (by omega)
  have q2b : ((ny : Int) == 1) = false := by simp; omega
  have q2c : decide ((ny : Int) = 1) = false := by simp; omega
  have q3 : IntKind.i64.wrap ((a : Int) + (b : Int)) = (a : Int) + (b : Int) := wrapI (by omega) (by omega)
  have q4 : ((a : Int) + (b : Int)) / 2 = (mid : Int) := by omega
  have q5 : IntKind.i64.wrap ((mid : Int) + (m : Int)) = (nn : Int) := wrapS (by omega) (by omega)
  have q6 : decide ((mid : Int) < (m : Int)) = true := by simp; omega
  have q6' : decide (mid < m) = true := by simp; omega
  have q7 : IntKind.i64.wrap ((nn : Int) - (b : Int)) = (st0 : Int) := wrapS (by omega) (by omega)
  have q8 : IntKind.i64.wrap ((nn : Int) - 1) = (pp : Int) := wrapS (by omega) (by omega)
  have hk1 : hf ≤ nx + ny := by omega
  have HQ := Lib.hid (And.intro (show m = a + nx by omega) (And.intro (show b = m + ny by omega) (And.intro hmid (And.intro hpp (And.intro hnn (And.intro hhf (And.intro hs0 (And.intro hr0 (And.intro hst0 hrr0)))))))))
  have HN := Lib.hid (And.intro hnx (And.intro hny (And.intro hn0 (And.intro ha (And.intro hm hb)))))
  have HCs := Lib.hid hcase'
  have hbn : b ≤ n := by omega
  have hab : a ≤ m := by omega
  have hmb : m ≤ b := by omega
  have HR := Lib.hid h
  have HV := Lib.hid hv
  have HXY := Lib.hid (And.intro hX hY)
  have HIH := Lib.hid IH
  have H22 := Lib.hid (And.intro (show 2 ≤ nx by omega) (show 2 ≤ ny by omega))
  clear h hv hX hY IH hn ha hm hb hn0 hnx hny hhf hmid hnn hpp hs0 hr0 hst0 hrr0 hx2 hy2 hcase hcase'
  go_enter Tryz.func122, Tryz.ntmps122
  go_upto_region 32 with (fail)
  go_wp2
  go_loopw [20, 21, 23] (fun x y z wr => ∃ s r st rr : Nat, Hid (st = a + s ∧ rr = a + r) ∧ st ≤ rr ∧ rr ≤ b ∧ x = .int .i64 (st : Int) ∧ y = .int .i64 (rr : Int) ∧ Hid (SymQ X Y s0 r0 (hf - 1) s r) ∧ Hid (wr.ownsRow B 54 2 (.slice (some ⟨g, 0, none⟩) n cap) n (cellsP (A ++ X ++ Y ++ C))) ∧ Hid (w.grownBy wr (some g))) (fun x y z wr => (intOf y).toNat - (intOf x).toNat)
  case atStart => exact ⟨s0, r0, st0, rr0, Lib.hid (by obtain ⟨a1, a2, a3, a4, a5, a6, a7, a8, a9, a10⟩ := HQ.out; exact ⟨a9, a10⟩), by obtain ⟨a1, a2, a3, a4, a5, a6, a7, a8, a9, a10⟩ := HQ.out; have := HCs.out; have := H22.out; omega, by obtain ⟨a1, a2, a3, a4, a5, a6, a7, a8, a9, a10⟩ := HQ.out; have := HCs.out; have := H22.out; omega, rfl, by rw [show (rr0 : Int) = (mid : Int) from by obtain ⟨a1, a2, a3, a4, a5, a6, a7, a8, a9, a10⟩ := HQ.out; omega], Lib.hid ⟨Nat.le_refl _, by obtain ⟨a1, a2, a3, a4, a5, a6, a7, a8, a9, a10⟩ := HQ.out; have := HCs.out; have := H22.out; omega, Nat.le_refl _, fun c _ _ h1 h2 => absurd h2 (by omega), fun c _ _ h1 h2 => absurd h2 (by omega)⟩, HR, Lib.hid (grown_refl _ _)⟩
  case round =>
    obtain ⟨s, r, st, rr, HSt, hsr, hrb, rfl, rfl, HSy, HRr, HGr⟩ := hrel
    by_cases hlt : st < rr
    · obtain ⟨c, hc⟩ : ∃ k, k = (st + rr) / 2 := ⟨_, rfl⟩
      obtain ⟨pc, hpc⟩ : ∃ k, k = pp - c := ⟨_, rfl⟩
      obtain ⟨ci, hci⟩ : ∃ k, k = c - a := ⟨_, rfl⟩
      have hfacts : s ≤ ci ∧ ci < r ∧ c = a + ci ∧ ci < nx ∧ hf - 1 - ci < ny ∧ pc = m + (hf - 1 - ci) ∧ c < n ∧ pc < n ∧ c ≤ pp ∧ r0 ≤ nx ∧ r0 ≤ hf - 1 + 1 ∧ hf - 1 < ny + s0 := by
        obtain ⟨a1, a2, a3, a4, a5, a6, a7, a8, a9, a10⟩ := HQ.out
        have := HSt.out
        have := HSy.out.lo
        have := HSy.out.hi
        have := HCs.out
        have := H22.out
        omega
      obtain ⟨f1, f2, f3, f4, f5, f6, f7, f8, f9, f10, f11, f12⟩ := hfacts
      have t1 : decide ((st : Int) < (rr : Int)) = true := by simp; omega
      have t1' : decide (st < rr) = true := by simpa using hlt
      have r1 : IntKind.i64.wrap ((st : Int) + (rr : Int)) = (st : Int) + (rr : Int) := wrapI (by omega) (by omega)
      have r2 : ((st : Int) + (rr : Int)) / 2 = (c : Int) := by omega
      have r3 : IntKind.i64.wrap ((pp : Int) - (c : Int)) = (pc : Int) := wrapS (by omega) (by omega)
      have hb1 : st ≤ c := by omega
      have hb2 : c < rr := by omega
      obtain ⟨XX, YY, xa, xn, xc, ya, yn, yc, hri, hrj, hst, hcg⟩ := row_pair (ri := Y[hf - 1 - ci]'(by rw [← HN.out.2.1]; exact f5)) (rj := X[ci]'(by rw [← HN.out.1]; exact f4)) HN.out.2.2.1 (get_Y (A := A) (X := X) (C := C) (i := pc) (by rw [← HN.out.2.1]; exact f5) (by have := HN.out.2.2.2; have := HN.out.1; omega)) (get_X (A := A) (Y := Y) (C := C) (i := c) (by rw [← HN.out.1]; exact f4) (by have := HN.out.2.2.2.1; omega)) HRr.out HV.out
      obtain ⟨I, hI⟩ : ∃ I, I = Extern.BytealgCompare.cmp XX YY := ⟨_, rfl⟩
      have hcm := fun W => typesCmp_any XX YY (.slice xa xn xc) (.slice ya yn yc) W
      simp only [← hI] at hcm
      rw [← hI] at hcg
      have HCm := Lib.hid hcm
      have k0 : (0 : Int) ≤ (c : Int) := by omega
      have k1 : (c : Int) < (n : Int) := by omega
      have k2 : (0 : Int) ≤ (pc : Int) := by omega
      have k3 : (pc : Int) < (n : Int) := by omega
      obtain ⟨gg, hgg⟩ : ∃ b, decide (I < 0) = b := ⟨_, rfl⟩
      have HG : Hid (∀ (h1 : ci < X.length) (h2 : hf - 1 - ci < Y.length), gtB (X[ci]'h1).1 (Y[hf - 1 - ci]'h2).1 = gg) := Lib.hid (fun _ _ => hcg.symm.trans hgg)
      have HF := Lib.hid (And.intro f1 (And.intro f2 (And.intro (show r0 ≤ X.length by rw [← HN.out.1]; exact f10) (And.intro f11 (And.intro (show hf - 1 < Y.length + s0 by rw [← HN.out.2.1]; exact f12) f3)))))
      clear hri hrj hcm hI hcg hc hpc hci f1 f2 f3 f4 f5 f6 f9 f10 f11 f12
      cases gg with
      | true =>
        go_upto_region 35 with (fail)
        refine region_det (by kernel_rfl) (PairAt wr g (pc * 2) (c * 2) XX YY (.slice xa xn xc) (.slice ya yn yc)) (hst) (by kernel_rfl) ?_
        simp only [List.toList_toArray]
        repeat' (first
          | (refine det_shut (by rfl) ?_; (simp only [Act.put, List.setIfInBounds_toArray, List.set_cons_zero, List.set_cons_succ]))
          | (apply det_val; (case hw => rfl); (case hv => (intro w' hS; ((obtain ⟨s0, s1, s2, s3, s4, s5⟩ := hS); go_simp); first | done | with_reducible exact rfl)); (simp only [Act.put, List.setIfInBounds_toArray, List.set_cons_zero, List.set_cons_succ]))
          | (apply det_call; (case hw => rfl); (case hv => (intro w' hS; ((obtain ⟨s0, s1, s2, s3, s4, s5⟩ := hS); go_simp); first | done | with_reducible exact rfl | with_reducible exact ⟨rfl, rfl⟩)); (case hc => (intro w' hS; (first | (go_at_call 46; with_reducible exact (HCm.out w').mono (fun e w'' h => ⟨h.1, (PairAt.go hS h.2).2.2.2.2⟩))))); (simp only [Act.put, List.setIfInBounds_toArray, List.set_cons_zero, List.set_cons_succ]))
          | fail)
        intro w9 hS9
        have HR9 := Lib.hid (row_below HRr.out hS9.2.2.2.2.2)
        have HG9 := Lib.hid (grown_trans HGr.out (below_grownR hS9.2.2.2.2.2))
        clear hS9 hst
        go_wp2
        go_roundw
        case rel => exact ⟨s, ci, st, c, Lib.hid (by have := HSt.out; have := HF.out.2.2.2.2.2; omega), hb1, by omega, rfl, rfl, Lib.hid (HSy.out.down HXY.out.1 HXY.out.2 HF.out.1 HF.out.2.1 HF.out.2.2.1 HF.out.2.2.2.1 HF.out.2.2.2.2.1 HG.out), HR9, HG9⟩
        case measure => simp [intOf]; omega
      | false =>
        go_upto_region 35 with (fail)
        refine region_det (by kernel_rfl) (PairAt wr g (pc * 2) (c * 2) XX YY (.slice xa xn xc) (.slice ya yn yc)) (hst) (by kernel_rfl) ?_
        simp only [List.toList_toArray]
        repeat' (first
          | (refine det_shut (by rfl) ?_; (simp only [Act.put, List.setIfInBounds_toArray, List.set_cons_zero, List.set_cons_succ]))
          | (apply det_val; (case hw => rfl); (case hv => (intro w' hS; ((obtain ⟨s0, s1, s2, s3, s4, s5⟩ := hS); go_simp); first | done | with_reducible exact rfl)); (simp only [Act.put, List.setIfInBounds_toArray, List.set_cons_zero, List.set_cons_succ]))
          | (apply det_call; (case hw => rfl); (case hv => (intro w' hS; ((obtain ⟨s0, s1, s2, s3, s4, s5⟩ := hS); go_simp); first | done | with_reducible exact rfl | with_reducible exact ⟨rfl, rfl⟩)); (case hc => (intro w' hS; (first | (go_at_call 46; with_reducible exact (HCm.out w').mono (fun e w'' h => ⟨h.1, (PairAt.go hS h.2).2.2.2.2⟩))))); (simp only [Act.put, List.setIfInBounds_toArray, List.set_cons_zero, List.set_cons_succ]))
          | fail)
        intro w9 hS9
        have HR9 := Lib.hid (row_below HRr.out hS9.2.2.2.2.2)
        have HG9 := Lib.hid (grown_trans HGr.out (below_grownR hS9.2.2.2.2.2))
        clear hS9 hst
        go_wp2
        go_roundw
        case rel => exact ⟨ci + 1, r, c + 1, rr, Lib.hid (by have := HSt.out; have := HF.out.2.2.2.2.2; omega), by omega, hrb, by go_num, rfl, Lib.hid (HSy.out.up HXY.out.1 HXY.out.2 HF.out.1 HF.out.2.1 HF.out.2.2.1 HF.out.2.2.2.1 HF.out.2.2.2.2.1 HG.out), HR9, HG9⟩
        case measure => simp [intOf]; omega
    · have hrs : r = s := by have := HSt.out; omega
      subst hrs
      have hrr : rr = st := by omega
      subst hrr
      have t1 : decide ((rr : Int) < (rr : Int)) = false := by simp
      obtain ⟨u, hu⟩ : ∃ k, k = hf - r := ⟨_, rfl⟩
      obtain ⟨e, he⟩ : ∃ k, k = m + u := ⟨_, rfl⟩
      have hfacts : r ≤ nx ∧ u ≤ ny ∧ rr = a + r ∧ mid = rr + u ∧ r + u < nx + ny ∧ 0 < r + u ∧ m = a + nx ∧ b = m + ny ∧ nn = rr + e ∧ u = hf - 1 + 1 - r := by
        obtain ⟨a1, a2, a3, a4, a5, a6, a7, a8, a9, a10⟩ := HQ.out
        have := HSt.out
        have := HSy.out.lo
        have := HSy.out.hi
        have := HCs.out
        have := H22.out
        omega
      obtain ⟨f1, f2, f3, f4, f5, f6, f7, f8, f9, f10⟩ := hfacts
      have r5 : IntKind.i64.wrap ((nn : Int) - (rr : Int)) = (e : Int) := wrapS (by omega) (by omega)
      have hcut := HSy.out.cut HXY.out.1 HXY.out.2 (by rw [← HN.out.1]; obtain ⟨a1, a2, a3, a4, a5, a6, a7, a8, a9, a10⟩ := HQ.out; have := HCs.out; omega) (by obtain ⟨a1, a2, a3, a4, a5, a6, a7, a8, a9, a10⟩ := HQ.out; have := HCs.out; have := H22.out; omega) (by rw [← HN.out.2.1]; obtain ⟨a1, a2, a3, a4, a5, a6, a7, a8, a9, a10⟩ := HQ.out; have := HCs.out; have := H22.out; omega) (by rw [← HN.out.2.1]; obtain ⟨a1, a2, a3, a4, a5, a6, a7, a8, a9, a10⟩ := HQ.out; have := HCs.out; have := H22.out; omega) (by rw [← HN.out.1]; obtain ⟨a1, a2, a3, a4, a5, a6, a7, a8, a9, a10⟩ := HQ.out; have := HCs.out; have := H22.out; omega)
      rw [← f10] at hcut
      have hse := symE_of hl HXY.out.1 HXY.out.2 HIH.out (by rw [HN.out.2.2.1]; simp only [List.length_append]) HN.out.2.2.2.1 (show m = a + X.length by rw [← HN.out.1]; exact f7) (show b = m + Y.length by rw [← HN.out.2.1]; exact f8) (show r ≤ X.length by rw [← HN.out.1]; exact f1) (show u ≤ Y.length by rw [← HN.out.2.1]; exact f2) f3 f4 he (by rw [← HN.out.1, ← HN.out.2.1]; exact f5) f6 HV.out hcut
      have HSE := Lib.hid hse
      have hX' := HN.out.1
      have hY' := HN.out.2.1
      clear hcut hse HSy HSt HXY HIH HV HCs hu f10
      have g1 : rr ≤ a + r ∧ a + r ≤ rr := by omega
      have g2 : mid ≤ rr + u ∧ rr + u ≤ mid := by omega
      have g3 : m ≤ a + nx ∧ a + nx ≤ m := by omega
      have g4 : b ≤ m + ny ∧ m + ny ≤ b := by omega
      have g5 : e ≤ m + u ∧ m + u ≤ e := by omega
      have g6 : X.length ≤ nx ∧ nx ≤ X.length := by omega
      have g7 : Y.length ≤ ny ∧ ny ≤ Y.length := by omega
      have g8 := H22.out
      obtain ⟨st, hst⟩ : ∃ k, k = rr := ⟨_, rfl⟩
      clear f3 f4 f7 f8 f9 he hX' hY'
      subst hst
      rcases (show (r = 0 ∧ (0 < u ∧ u < ny)) ∨ (r = 0 ∧ u = ny) ∨ ((0 < r ∧ r < nx) ∧ u = 0) ∨ ((0 < r ∧ r < nx) ∧ (0 < u ∧ u < ny)) ∨ ((0 < r ∧ r < nx) ∧ u = ny) ∨ (r = nx ∧ u = 0) ∨ (r = nx ∧ (0 < u ∧ u < ny)) by omega) with hq | hq | hq | hq | hq | hq | hq
      · skip
        have d1 : decide ((st : Int) < (m : Int)) = true := by simp; omega
        have d1' : decide (st < m) = true := by simp; omega
        have d2 : decide ((m : Int) < (e : Int)) = true := by simp; omega
        have d2' : decide (m < e) = true := by simp; omega
        have d3 : decide ((a : Int) < (st : Int)) = false := by simp; omega
        have d3' : decide (a < st) = false := by simp; omega
        have d4 : decide ((st : Int) < (mid : Int)) = true := by simp; omega
        have d4' : decide (st < mid) = true := by simp; omega
        have d5 : decide ((mid : Int) < (e : Int)) = true := by simp; omega
        have d5' : decide (mid < e) = true := by simp; omega
        have d6 : decide ((e : Int) < (b : Int)) = true := by simp; omega
        have d6' : decide (e < b) = true := by simp; omega
        have HC1 := Lib.hid (HSE.out.rot (by omega) (by omega) wr HRr.out)
        go_wp2_with (first | (go_at_call 152; (with_reducible refine (HC1.out).mono ?_); rintro e w2 ⟨rfl, hr2, hg2⟩; have HR2 := Lib.hid hr2; have HG2 := Lib.hid (grown_trans HGr.out hg2); clear hr2 hg2) | (go_at_call 122; (with_reducible refine (HSE.out.two (by omega) (by omega) w2 (HSE.out.noone (by omega) w2 HR2.out)).mono ?_); rintro e w4 ⟨rfl, hr4, hg4⟩; have HR4 := Lib.hid hr4; have HG4 := Lib.hid (grown_trans HG2.out hg4); clear hr4 hg4))
        go_end0
        exact ⟨rfl, HR4.out, HG4.out⟩
      · skip
        have d1 : decide ((st : Int) < (m : Int)) = true := by simp; omega
        have d1' : decide (st < m) = true := by simp; omega
        have d2 : decide ((m : Int) < (e : Int)) = true := by simp; omega
        have d2' : decide (m < e) = true := by simp; omega
        have d3 : decide ((a : Int) < (st : Int)) = false := by simp; omega
        have d3' : decide (a < st) = false := by simp; omega
        have d4 : decide ((st : Int) < (mid : Int)) = true := by simp; omega
        have d4' : decide (st < mid) = true := by simp; omega
        have d5 : decide ((mid : Int) < (e : Int)) = true := by simp; omega
        have d5' : decide (mid < e) = true := by simp; omega
        have d6 : decide ((e : Int) < (b : Int)) = false := by simp; omega
        have d6' : decide (e < b) = false := by simp; omega
        have HC1 := Lib.hid (HSE.out.rot (by omega) (by omega) wr HRr.out)
        go_wp2_with (first | (go_at_call 152; (with_reducible refine (HC1.out).mono ?_); rintro e w2 ⟨rfl, hr2, hg2⟩; have HR2 := Lib.hid hr2; have HG2 := Lib.hid (grown_trans HGr.out hg2); clear hr2 hg2))
        go_end0
        exact ⟨rfl, (HSE.out.notwo (by omega) w2 (HSE.out.noone (by omega) w2 HR2.out)), HG2.out⟩
      · skip
        have d1 : decide ((st : Int) < (m : Int)) = true := by simp; omega
        have d1' : decide (st < m) = true := by simp; omega
        have d2 : decide ((m : Int) < (e : Int)) = false := by simp; omega
        have d2' : decide (m < e) = false := by simp; omega
        have d3 : decide ((a : Int) < (st : Int)) = true := by simp; omega
        have d3' : decide (a < st) = true := by simp; omega
        have d4 : decide ((st : Int) < (mid : Int)) = false := by simp; omega
        have d4' : decide (st < mid) = false := by simp; omega
        have d5 : decide ((mid : Int) < (e : Int)) = true := by simp; omega
        have d5' : decide (mid < e) = true := by simp; omega
        have d6 : decide ((e : Int) < (b : Int)) = true := by simp; omega
        have d6' : decide (e < b) = true := by simp; omega
        have HR2 := Lib.hid (HSE.out.norot (by omega) wr HRr.out)
        have HG2 := HGr
        go_wp2_with (first | (go_at_call 122; (with_reducible refine (HSE.out.two (by omega) (by omega) wr (HSE.out.noone (by omega) wr HR2.out)).mono ?_); rintro e w4 ⟨rfl, hr4, hg4⟩; have HR4 := Lib.hid hr4; have HG4 := Lib.hid (grown_trans HG2.out hg4); clear hr4 hg4))
        go_end0
        exact ⟨rfl, HR4.out, HG4.out⟩
      · skip
        have d1 : decide ((st : Int) < (m : Int)) = true := by simp; omega
        have d1' : decide (st < m) = true := by simp; omega
        have d2 : decide ((m : Int) < (e : Int)) = true := by simp; omega
        have d2' : decide (m < e) = true := by simp; omega
        have d3 : decide ((a : Int) < (st : Int)) = true := by simp; omega
        have d3' : decide (a < st) = true := by simp; omega
        have d4 : decide ((st : Int) < (mid : Int)) = true := by simp; omega
        have d4' : decide (st < mid) = true := by simp; omega
        have d5 : decide ((mid : Int) < (e : Int)) = true := by simp; omega
        have d5' : decide (mid < e) = true := by simp; omega
        have d6 : decide ((e : Int) < (b : Int)) = true := by simp; omega
        have d6' : decide (e < b) = true := by simp; omega
        have HC1 := Lib.hid (HSE.out.rot (by omega) (by omega) wr HRr.out)
        go_wp2_with (first | (go_at_call 152; (with_reducible refine (HC1.out).mono ?_); rintro e w2 ⟨rfl, hr2, hg2⟩; have HR2 := Lib.hid hr2; have HG2 := Lib.hid (grown_trans HGr.out hg2); clear hr2 hg2) | (go_at_call 122; (with_reducible refine (HSE.out.one (by omega) (by omega) w2 HR2.out).mono ?_); rintro e w3 ⟨rfl, hr3, hg3⟩; have HR3 := Lib.hid hr3; have HG3 := Lib.hid (grown_trans HG2.out hg3); clear hr3 hg3) | (go_at_call 122; (with_reducible refine (HSE.out.two (by omega) (by omega) w3 HR3.out).mono ?_); rintro e w4 ⟨rfl, hr4, hg4⟩; have HR4 := Lib.hid hr4; have HG4 := Lib.hid (grown_trans HG3.out hg4); clear hr4 hg4))
        go_end0
        exact ⟨rfl, HR4.out, HG4.out⟩
      · skip
        have d1 : decide ((st : Int) < (m : Int)) = true := by simp; omega
        have d1' : decide (st < m) = true := by simp; omega
        have d2 : decide ((m : Int) < (e : Int)) = true := by simp; omega
        have d2' : decide (m < e) = true := by simp; omega
        have d3 : decide ((a : Int) < (st : Int)) = true := by simp; omega
        have d3' : decide (a < st) = true := by simp; omega
        have d4 : decide ((st : Int) < (mid : Int)) = true := by simp; omega
        have d4' : decide (st < mid) = true := by simp; omega
        have d5 : decide ((mid : Int) < (e : Int)) = true := by simp; omega
        have d5' : decide (mid < e) = true := by simp; omega
        have d6 : decide ((e : Int) < (b : Int)) = false := by simp; omega
        have d6' : decide (e < b) = false := by simp; omega
        have HC1 := Lib.hid (HSE.out.rot (by omega) (by omega) wr HRr.out)
        go_wp2_with (first | (go_at_call 152; (with_reducible refine (HC1.out).mono ?_); rintro e w2 ⟨rfl, hr2, hg2⟩; have HR2 := Lib.hid hr2; have HG2 := Lib.hid (grown_trans HGr.out hg2); clear hr2 hg2) | (go_at_call 122; (with_reducible refine (HSE.out.one (by omega) (by omega) w2 HR2.out).mono ?_); rintro e w3 ⟨rfl, hr3, hg3⟩; have HR3 := Lib.hid hr3; have HG3 := Lib.hid (grown_trans HG2.out hg3); clear hr3 hg3))
        go_end0
        exact ⟨rfl, (HSE.out.notwo (by omega) w3 HR3.out), HG3.out⟩
      · skip
        have d1 : decide ((st : Int) < (m : Int)) = false := by simp; omega
        have d1' : decide (st < m) = false := by simp; omega
        have d2 : decide ((m : Int) < (e : Int)) = false := by simp; omega
        have d2' : decide (m < e) = false := by simp; omega
        have d3 : decide ((a : Int) < (st : Int)) = true := by simp; omega
        have d3' : decide (a < st) = true := by simp; omega
        have d4 : decide ((st : Int) < (mid : Int)) = false := by simp; omega
        have d4' : decide (st < mid) = false := by simp; omega
        have d5 : decide ((mid : Int) < (e : Int)) = false := by simp; omega
        have d5' : decide (mid < e) = false := by simp; omega
        have d6 : decide ((e : Int) < (b : Int)) = true := by simp; omega
        have d6' : decide (e < b) = true := by simp; omega
        have HR2 := Lib.hid (HSE.out.norot (by omega) wr HRr.out)
        have HG2 := HGr
        go_wp2
        go_end0
        exact ⟨rfl, (HSE.out.notwo (by omega) wr (HSE.out.noone (by omega) wr HR2.out)), HG2.out⟩
      · skip
        have d1 : decide ((st : Int) < (m : Int)) = false := by simp; omega
        have d1' : decide (st < m) = false := by simp; omega
        have d2 : decide ((m : Int) < (e : Int)) = true := by simp; omega
        have d2' : decide (m < e) = true := by simp; omega
        have d3 : decide ((a : Int) < (st : Int)) = true := by simp; omega
        have d3' : decide (a < st) = true := by simp; omega
        have d4 : decide ((st : Int) < (mid : Int)) = true := by simp; omega
        have d4' : decide (st < mid) = true := by simp; omega
        have d5 : decide ((mid : Int) < (e : Int)) = false := by simp; omega
        have d5' : decide (mid < e) = false := by simp; omega
        have d6 : decide ((e : Int) < (b : Int)) = true := by simp; omega
        have d6' : decide (e < b) = true := by simp; omega
        have HR2 := Lib.hid (HSE.out.norot (by omega) wr HRr.out)
        have HG2 := HGr
        go_wp2_with (first | (go_at_call 122; (with_reducible refine (HSE.out.one (by omega) (by omega) wr HR2.out).mono ?_); rintro e w3 ⟨rfl, hr3, hg3⟩; have HR3 := Lib.hid hr3; have HG3 := Lib.hid (grown_trans HG2.out hg3); clear hr3 hg3))
        go_end0
        exact ⟨rfl, (HSE.out.notwo (by omega) w3 HR3.out), HG3.out⟩
end Go.Proofs.YtlimajgmdhhggaaGreatDoor

