/- Several texts in one file: EnSymH, EnSymK, EnStbW, EnNrmL, ScGreat. -/
import Derived.Test.YtlimajgmdhhggaaGreatDoorEnaP5
import Derived.Test.YtlimajgmdhhggaaGreatDoorEnaP6
import Derived.Test.YtlimajgmdhhggaaGreatDoorEnaP2
import Derived.Deep.Cut
namespace Go.Proofs.YtlimajgmdhhggaaGreatDoor
open Go.RowKit
set_option linter.unusedVariables false
set_option linter.unusedSimpArgs false

set_option maxRecDepth 100000 in
set_option maxHeartbeats 16000000 in
theorem sym_step2 (X Y : List PT) (B g n cap : Nat) (hl : n ≤ 1000000) (hX : sortedG X) (hY : sortedG Y) (hx2 : 2 ≤ X.length) (hy2 : 2 ≤ Y.length) (hcase : X.length ≤ (X.length + Y.length) / 2) (IH : ∀ X' Y' : List PT, X'.length + Y'.length < X.length + Y.length → 0 < X'.length → 0 < Y'.length → sortedG X' → sortedG Y' → SymC B g n cap X' Y') : SymC B g n cap X Y := by
  intro A C a m b w hn ha hm hb h hv
  have hn0 := hn
  simp only [List.length_append] at hn
  obtain ⟨nx, hnx⟩ : ∃ k, k = X.length := ⟨_, rfl⟩
  obtain ⟨ny, hny⟩ : ∃ k, k = Y.length := ⟨_, rfl⟩
  obtain ⟨hf, hhf⟩ : ∃ k, k = (nx + ny) / 2 := ⟨_, rfl⟩
  obtain ⟨mid, hmid⟩ : ∃ k, k = a + hf := ⟨_, rfl⟩
  obtain ⟨nn, hnn⟩ : ∃ k, k = mid + m := ⟨_, rfl⟩
  obtain ⟨pp, hpp⟩ : ∃ k, k = nn - 1 := ⟨_, rfl⟩
  obtain ⟨s0, hs0⟩ : ∃ k, k = 0 := ⟨_, rfl⟩
  obtain ⟨r0, hr0⟩ : ∃ k, k = nx := ⟨_, rfl⟩
  obtain ⟨st0, hst0⟩ : ∃ k, k = a + s0 := ⟨_, rfl⟩
  obtain ⟨rr0, hrr0⟩ : ∃ k, k = a + r0 := ⟨_, rfl⟩
  have hcase' : nx ≤ hf := by rw [hnx, hny] at hhf; omega
  have q1 : IntKind.i64.wrap ((m : Int) - (a : Int)) = (nx : Int) := wrapS (by omega) (by omega)
  have q1b : ((nx : Int) == 1) = false := by simp; omega
  have q1c : decide ((nx : Int) = 1) = false := by simp; omega
  have q2 : IntKind.i64.wrap ((b : Int) - (m : Int)) = (ny : Int) := wrapS (by omega) (by omega)
  have q2b : ((ny : Int) == 1) = false := by simp; omega
  have q2c : decide ((ny : Int) = 1) = false := by simp; omega
  have q3 : IntKind.i64.wrap ((a : Int) + (b : Int)) = (a : Int) + (b : Int) := wrapI (by omega) (by omega)
  have q4 : ((a : Int) + (b : Int)) / 2 = (mid : Int) := by omega
  have q5 : IntKind.i64.wrap ((mid : Int) + (m : Int)) = (nn : Int) := wrapS (by omega) (by omega)
  have q6 : decide ((mid : Int) < (m : Int)) = false := by simp; omega
  have q6' : decide (mid < m) = false := by simp; omega
  have q7 := hl
  have q8 : IntKind.i64.wrap ((nn : Int) - 1) = (pp : Int) := wrapS (by omega) (by omega)
  have hk1 : hf ≤ nx + ny := by omega
  have HQ := Lib.hid (And.intro (show m = a + nx by omega) (And.intro (show b = m + ny by omega) (And.intro hmid (And.intro hpp (And.intro hnn (And.intro hhf (And.intro hs0 (And.intro hr0 (And.intro hst0 hrr0)))))))))
  have HN := Lib.hid (And.intro hnx (And.intro hny (And.intro hn0 (And.intro ha (And.intro hm hb)))))
  have HCs := Lib.hid hcase'
  have hbn : b ≤ n := by omega
  have hab : a ≤ m := by omega
  have hmb : m ≤ b := by omega
  have HR := Lib.hid h
  have HV := Lib.hid hv
  have HXY := Lib.hid (And.intro hX hY)
  have HIH := Lib.hid IH
  have H22 := Lib.hid (And.intro (show 2 ≤ nx by omega) (show 2 ≤ ny by omega))
  clear h hv hX hY IH hn ha hm hb hn0 hnx hny hhf hmid hnn hpp hs0 hr0 hst0 hrr0 hx2 hy2 hcase hcase'
  go_enter Tryz.func122, Tryz.ntmps122
  go_upto_region 32 with (fail)
  go_wp2
  go_loopw [20, 21, 23] (fun x y z wr => ∃ s r st rr : Nat, Hid (st = a + s ∧ rr = a + r) ∧ st ≤ rr ∧ rr ≤ b ∧ x = .int .i64 (st : Int) ∧ y = .int .i64 (rr : Int) ∧ Hid (SymQ X Y s0 r0 (hf - 1) s r) ∧ Hid (wr.ownsRow B 54 2 (.slice (some ⟨g, 0, none⟩) n cap) n (cellsP (A ++ X ++ Y ++ C))) ∧ Hid (w.grownBy wr (some g))) (fun x y z wr => (intOf y).toNat - (intOf x).toNat)
  case atStart => exact ⟨s0, r0, st0, rr0, Lib.hid (by obtain ⟨a1, a2, a3, a4, a5, a6, a7, a8, a9, a10⟩ := HQ.out; exact ⟨a9, a10⟩), by obtain ⟨a1, a2, a3, a4, a5, a6, a7, a8, a9, a10⟩ := HQ.out; have := HCs.out; have := H22.out; omega, by obtain ⟨a1, a2, a3, a4, a5, a6, a7, a8, a9, a10⟩ := HQ.out; have := HCs.out; have := H22.out; omega, by rw [show (st0 : Int) = (a : Int) from by obtain ⟨a1, a2, a3, a4, a5, a6, a7, a8, a9, a10⟩ := HQ.out; omega], by rw [show (rr0 : Int) = (m : Int) from by obtain ⟨a1, a2, a3, a4, a5, a6, a7, a8, a9, a10⟩ := HQ.out; omega], Lib.hid ⟨Nat.le_refl _, by obtain ⟨a1, a2, a3, a4, a5, a6, a7, a8, a9, a10⟩ := HQ.out; have := HCs.out; have := H22.out; omega, Nat.le_refl _, fun c _ _ h1 h2 => absurd h2 (by omega), fun c _ _ h1 h2 => absurd h2 (by omega)⟩, HR, Lib.hid (grown_refl _ _)⟩
  case round =>
    obtain ⟨s, r, st, rr, HSt, hsr, hrb, rfl, rfl, HSy, HRr, HGr⟩ := hrel
    by_cases hlt : st < rr
    · obtain ⟨c, hc⟩ : ∃ k, k = (st + rr) / 2 := ⟨_, rfl⟩
      obtain ⟨pc, hpc⟩ : ∃ k, k = pp - c := ⟨_, rfl⟩
      obtain ⟨ci, hci⟩ : ∃ k, k = c - a := ⟨_, rfl⟩
      have hfacts : s ≤ ci ∧ ci < r ∧ c = a + ci ∧ ci < nx ∧ hf - 1 - ci < ny ∧ pc = m + (hf - 1 - ci) ∧ c < n ∧ pc < n ∧ c ≤ pp ∧ r0 ≤ nx ∧ r0 ≤ hf - 1 + 1 ∧ hf - 1 < ny + s0 := by
        obtain ⟨a1, a2, a3, a4, a5, a6, a7, a8, a9, a10⟩ := HQ.out
        have := HSt.out
        have := HSy.out.lo
        have := HSy.out.hi
        have := HCs.out
        have := H22.out
        omega
      obtain ⟨f1, f2, f3, f4, f5, f6, f7, f8, f9, f10, f11, f12⟩ := hfacts
      have t1 : decide ((st : Int) < (rr : Int)) = true := by simp; omega
      have t1' : decide (st < rr) = true := by simpa using hlt
      have r1 : IntKind.i64.wrap ((st : Int) + (rr : Int)) = (st : Int) + (rr : Int) := wrapI (by omega) (by omega)
      have r2 : ((st : Int) + (rr : Int)) / 2 = (c : Int) := by omega
      have r3 : IntKind.i64.wrap ((pp : Int) - (c : Int)) = (pc : Int) := wrapS (by omega) (by omega)
      have hb1 : st ≤ c := by omega
      have hb2 : c < rr := by omega
      obtain ⟨XX, YY, xa, xn, xc, ya, yn, yc, hri, hrj, hst, hcg⟩ := row_pair (ri := Y[hf - 1 - ci]'(by rw [← HN.out.2.1]; exact f5)) (rj := X[ci]'(by rw [← HN.out.1]; exact f4)) HN.out.2.2.1 (get_Y (A := A) (X := X) (C := C) (i := pc) (by rw [← HN.out.2.1]; exact f5) (by have := HN.out.2.2.2; have := HN.out.1; omega)) (get_X (A := A) (Y := Y) (C := C) (i := c) (by rw [← HN.out.1]; exact f4) (by have := HN.out.2.2.2.1; omega)) HRr.out HV.out
      obtain ⟨I, hI⟩ : ∃ I, I = Extern.BytealgCompare.cmp XX YY := ⟨_, rfl⟩
      have hcm := fun W => typesCmp_any XX YY (.slice xa xn xc) (.slice ya yn yc) W
      simp only [← hI] at hcm
      rw [← hI] at hcg
      have HCm := Lib.hid hcm
      have k0 : (0 : Int) ≤ (c : Int) := by omega
      have k1 : (c : Int) < (n : Int) := by omega
      have k2 : (0 : Int) ≤ (pc : Int) := by omega
      have k3 : (pc : Int) < (n : Int) := by omega
      obtain ⟨gg, hgg⟩ : ∃ b, decide (I < 0) = b := ⟨_, rfl⟩
      have HG : Hid (∀ (h1 : ci < X.length) (h2 : hf - 1 - ci < Y.length), gtB (X[ci]'h1).1 (Y[hf - 1 - ci]'h2).1 = gg) := Lib.hid (fun _ _ => hcg.symm.trans hgg)
      have HF := Lib.hid (And.intro f1 (And.intro f2 (And.intro (show r0 ≤ X.length by rw [← HN.out.1]; exact f10) (And.intro f11 (And.intro (show hf - 1 < Y.length + s0 by rw [← HN.out.2.1]; exact f12) f3)))))
      clear hri hrj hcm hI hcg hc hpc hci f1 f2 f3 f4 f5 f6 f9 f10 f11 f12
      cases gg with
      | true =>
        go_upto_region 35 with (fail)
        refine region_det (by kernel_rfl) (PairAt wr g (pc * 2) (c * 2) XX YY (.slice xa xn xc) (.slice ya yn yc)) (hst) (by kernel_rfl) ?_
        simp only [List.toList_toArray]
        repeat' (first
          | (refine det_shut (by rfl) ?_; (simp only [Act.put, List.setIfInBounds_toArray, List.set_cons_zero, List.set_cons_succ]))
          | (apply det_val; (case hw => rfl); (case hv => (intro w' hS; ((obtain ⟨s0, s1, s2, s3, s4, s5⟩ := hS); go_simp); first | done | with_reducible exact rfl)); (simp only [Act.put, List.setIfInBounds_toArray, List.set_cons_zero, List.set_cons_succ]))
          | (apply det_call; (case hw => rfl); (case hv => (intro w' hS; ((obtain ⟨s0, s1, s2, s3, s4, s5⟩ := hS); go_simp); first | done | with_reducible exact rfl | with_reducible exact ⟨rfl, rfl⟩)); (case hc => (intro w' hS; (first | (go_at_call 46; with_reducible exact (HCm.out w').mono (fun e w'' h => ⟨h.1, (PairAt.go hS h.2).2.2.2.2⟩))))); (simp only [Act.put, List.setIfInBounds_toArray, List.set_cons_zero, List.set_cons_succ]))
          | fail)
        intro w9 hS9
        have HR9 := Lib.hid (row_below HRr.out hS9.2.2.2.2.2)
        have HG9 := Lib.hid (grown_trans HGr.out (below_grownR hS9.2.2.2.2.2))
        clear hS9 hst
        go_wp2
        go_roundw
        case rel => exact ⟨s, ci, st, c, Lib.hid (by have := HSt.out; have := HF.out.2.2.2.2.2; omega), hb1, by omega, rfl, rfl, Lib.hid (HSy.out.down HXY.out.1 HXY.out.2 HF.out.1 HF.out.2.1 HF.out.2.2.1 HF.out.2.2.2.1 HF.out.2.2.2.2.1 HG.out), HR9, HG9⟩
        case measure => simp [intOf]; omega
      | false =>
        go_upto_region 35 with (fail)
        refine region_det (by kernel_rfl) (PairAt wr g (pc * 2) (c * 2) XX YY (.slice xa xn xc) (.slice ya yn yc)) (hst) (by kernel_rfl) ?_
        simp only [List.toList_toArray]
        repeat' (first
          | (refine det_shut (by rfl) ?_; (simp only [Act.put, List.setIfInBounds_toArray, List.set_cons_zero, List.set_cons_succ]))
          | (apply det_val; (case hw => rfl); (case hv => (intro w' hS; ((obtain ⟨s0, s1, s2, s3, s4, s5⟩ := hS); go_simp); first | done | with_reducible exact rfl)); (simp only [Act.put, List.setIfInBounds_toArray, List.set_cons_zero, List.set_cons_succ]))
          | (apply det_call; (case hw => rfl); (case hv => (intro w' hS; ((obtain ⟨s0, s1, s2, s3, s4, s5⟩ := hS); go_simp); first | done | with_reducible exact rfl | with_reducible exact ⟨rfl, rfl⟩)); (case hc => (intro w' hS; (first | (go_at_call 46; with_reducible exact (HCm.out w').mono (fun e w'' h => ⟨h.1, (PairAt.go hS h.2).2.2.2.2⟩))))); (simp only [Act.put, List.setIfInBounds_toArray, List.set_cons_zero, List.set_cons_succ]))
          | fail)
        intro w9 hS9
        have HR9 := Lib.hid (row_below HRr.out hS9.2.2.2.2.2)
        have HG9 := Lib.hid (grown_trans HGr.out (below_grownR hS9.2.2.2.2.2))
        clear hS9 hst
        go_wp2
        go_roundw
        case rel => exact ⟨ci + 1, r, c + 1, rr, Lib.hid (by have := HSt.out; have := HF.out.2.2.2.2.2; omega), by omega, hrb, by go_num, rfl, Lib.hid (HSy.out.up HXY.out.1 HXY.out.2 HF.out.1 HF.out.2.1 HF.out.2.2.1 HF.out.2.2.2.1 HF.out.2.2.2.2.1 HG.out), HR9, HG9⟩
        case measure => simp [intOf]; omega
    · have hrs : r = s := by have := HSt.out; omega
      subst hrs
      have hrr : rr = st := by omega
      subst hrr
      have t1 : decide ((rr : Int) < (rr : Int)) = false := by simp
      obtain ⟨u, hu⟩ : ∃ k, k = hf - r := ⟨_, rfl⟩
      obtain ⟨e, he⟩ : ∃ k, k = m + u := ⟨_, rfl⟩
      have hfacts : r ≤ nx ∧ u ≤ ny ∧ rr = a + r ∧ mid = rr + u ∧ r + u < nx + ny ∧ 0 < r + u ∧ m = a + nx ∧ b = m + ny ∧ nn = rr + e ∧ u = hf - 1 + 1 - r := by
        obtain ⟨a1, a2, a3, a4, a5, a6, a7, a8, a9, a10⟩ := HQ.out
        have := HSt.out
        have := HSy.out.lo
        have := HSy.out.hi
        have := HCs.out
        have := H22.out
        omega
      obtain ⟨f1, f2, f3, f4, f5, f6, f7, f8, f9, f10⟩ := hfacts
      have r5 : IntKind.i64.wrap ((nn : Int) - (rr : Int)) = (e : Int) := wrapS (by omega) (by omega)
      have hcut := HSy.out.cut HXY.out.1 HXY.out.2 (by rw [← HN.out.1]; obtain ⟨a1, a2, a3, a4, a5, a6, a7, a8, a9, a10⟩ := HQ.out; have := HCs.out; omega) (by obtain ⟨a1, a2, a3, a4, a5, a6, a7, a8, a9, a10⟩ := HQ.out; have := HCs.out; have := H22.out; omega) (by rw [← HN.out.2.1]; obtain ⟨a1, a2, a3, a4, a5, a6, a7, a8, a9, a10⟩ := HQ.out; have := HCs.out; have := H22.out; omega) (by rw [← HN.out.2.1]; obtain ⟨a1, a2, a3, a4, a5, a6, a7, a8, a9, a10⟩ := HQ.out; have := HCs.out; have := H22.out; omega) (by rw [← HN.out.1]; obtain ⟨a1, a2, a3, a4, a5, a6, a7, a8, a9, a10⟩ := HQ.out; have := HCs.out; have := H22.out; omega)
      rw [← f10] at hcut
      have hse := symE_of hl HXY.out.1 HXY.out.2 HIH.out (by rw [HN.out.2.2.1]; simp only [List.length_append]) HN.out.2.2.2.1 (show m = a + X.length by rw [← HN.out.1]; exact f7) (show b = m + Y.length by rw [← HN.out.2.1]; exact f8) (show r ≤ X.length by rw [← HN.out.1]; exact f1) (show u ≤ Y.length by rw [← HN.out.2.1]; exact f2) f3 f4 he (by rw [← HN.out.1, ← HN.out.2.1]; exact f5) f6 HV.out hcut
      have HSE := Lib.hid hse
      have hX' := HN.out.1
      have hY' := HN.out.2.1
      clear hcut hse HSy HSt HXY HIH HV HCs hu f10
      have g1 : rr ≤ a + r ∧ a + r ≤ rr := by omega
      have g2 : mid ≤ rr + u ∧ rr + u ≤ mid := by omega
      have g3 : m ≤ a + nx ∧ a + nx ≤ m := by omega
      have g4 : b ≤ m + ny ∧ m + ny ≤ b := by omega
      have g5 : e ≤ m + u ∧ m + u ≤ e := by omega
      have g6 : X.length ≤ nx ∧ nx ≤ X.length := by omega
      have g7 : Y.length ≤ ny ∧ ny ≤ Y.length := by omega
      have g8 := H22.out
      obtain ⟨st, hst⟩ : ∃ k, k = rr := ⟨_, rfl⟩
      clear f3 f4 f7 f8 f9 he hX' hY'
      subst hst
      rcases (show (r = 0 ∧ (0 < u ∧ u < ny)) ∨ (r = 0 ∧ u = ny) ∨ ((0 < r ∧ r < nx) ∧ u = 0) ∨ ((0 < r ∧ r < nx) ∧ (0 < u ∧ u < ny)) ∨ ((0 < r ∧ r < nx) ∧ u = ny) ∨ (r = nx ∧ u = 0) ∨ (r = nx ∧ (0 < u ∧ u < ny)) by omega) with hq | hq | hq | hq | hq | hq | hq
      · skip
        have d1 : decide ((st : Int) < (m : Int)) = true := by simp; omega
        have d1' : decide (st < m) = true := by simp; omega
        have d2 : decide ((m : Int) < (e : Int)) = true := by simp; omega
        have d2' : decide (m < e) = true := by simp; omega
        have d3 : decide ((a : Int) < (st : Int)) = false := by simp; omega
        have d3' : decide (a < st) = false := by simp; omega
        have d4 : decide ((st : Int) < (mid : Int)) = true := by simp; omega
        have d4' : decide (st < mid) = true := by simp; omega
        have d5 : decide ((mid : Int) < (e : Int)) = true := by simp; omega
        have d5' : decide (mid < e) = true := by simp; omega
        have d6 : decide ((e : Int) < (b : Int)) = true := by simp; omega
        have d6' : decide (e < b) = true := by simp; omega
        have HC1 := Lib.hid (HSE.out.rot (by omega) (by omega) wr HRr.out)
        go_wp2_with (first | (go_at_call 152; (with_reducible refine (HC1.out).mono ?_); rintro e w2 ⟨rfl, hr2, hg2⟩; have HR2 := Lib.hid hr2; have HG2 := Lib.hid (grown_trans HGr.out hg2); clear hr2 hg2) | (go_at_call 122; (with_reducible refine (HSE.out.two (by omega) (by omega) w2 (HSE.out.noone (by omega) w2 HR2.out)).mono ?_); rintro e w4 ⟨rfl, hr4, hg4⟩; have HR4 := Lib.hid hr4; have HG4 := Lib.hid (grown_trans HG2.out hg4); clear hr4 hg4))
        go_end0
        exact ⟨rfl, HR4.out, HG4.out⟩
      · skip
        have d1 : decide ((st : Int) < (m : Int)) = true := by simp; omega
        have d1' : decide (st < m) = true := by simp; omega
        have d2 : decide ((m : Int) < (e : Int)) = true := by simp; omega
        have d2' : decide (m < e) = true := by simp; omega
        have d3 : decide ((a : Int) < (st : Int)) = false := by simp; omega
        have d3' : decide (a < st) = false := by simp; omega
        have d4 : decide ((st : Int) < (mid : Int)) = true := by simp; omega
        have d4' : decide (st < mid) = true := by simp; omega
        have d5 : decide ((mid : Int) < (e : Int)) = true := by simp; omega
        have d5' : decide (mid < e) = true := by simp; omega
        have d6 : decide ((e : Int) < (b : Int)) = false := by simp; omega
        have d6' : decide (e < b) = false := by simp; omega
        have HC1 := Lib.hid (HSE.out.rot (by omega) (by omega) wr HRr.out)
        go_wp2_with (first | (go_at_call 152; (with_reducible refine (HC1.out).mono ?_); rintro e w2 ⟨rfl, hr2, hg2⟩; have HR2 := Lib.hid hr2; have HG2 := Lib.hid (grown_trans HGr.out hg2); clear hr2 hg2))
        go_end0
        exact ⟨rfl, (HSE.out.notwo (by omega) w2 (HSE.out.noone (by omega) w2 HR2.out)), HG2.out⟩
      · skip
        have d1 : decide ((st : Int) < (m : Int)) = true := by simp; omega
        have d1' : decide (st < m) = true := by simp; omega
        have d2 : decide ((m : Int) < (e : Int)) = false := by simp; omega
        have d2' : decide (m < e) = false := by simp; omega
        have d3 : decide ((a : Int) < (st : Int)) = true := by simp; omega
        have d3' : decide (a < st) = true := by simp; omega
        have d4 : decide ((st : Int) < (mid : Int)) = false := by simp; omega
        have d4' : decide (st < mid) = false := by simp; omega
        have d5 : decide ((mid : Int) < (e : Int)) = true := by simp; omega
        have d5' : decide (mid < e) = true := by simp; omega
        have d6 : decide ((e : Int) < (b : Int)) = true := by simp; omega
        have d6' : decide (e < b) = true := by simp; omega
        have HR2 := Lib.hid (HSE.out.norot (by omega) wr HRr.out)
        have HG2 := HGr
        go_wp2_with (first | (go_at_call 122; (with_reducible refine (HSE.out.two (by omega) (by omega) wr (HSE.out.noone (by omega) wr HR2.out)).mono ?_); rintro e w4 ⟨rfl, hr4, hg4⟩; have HR4 := Lib.hid hr4; have HG4 := Lib.hid (grown_trans HG2.out hg4); clear hr4 hg4))
        go_end0
        exact ⟨rfl, HR4.out, HG4.out⟩
      · skip
        have d1 : decide ((st : Int) < (m : Int)) = true := by simp; omega
        have d1' : decide (st < m) = true := by simp; omega
        have d2 : decide ((m : Int) < (e : Int)) = true := by simp; omega
        have d2' : decide (m < e) = true := by simp; omega
        have d3 : decide ((a : Int) < (st : Int)) = true := by simp; omega
        have d3' : decide (a < st) = true := by simp; omega
        have d4 : decide ((st : Int) < (mid : Int)) = true := by simp; omega
        have d4' : decide (st < mid) = true := by simp; omega
        have d5 : decide ((mid : Int) < (e : Int)) = true := by simp; omega
        have d5' : decide (mid < e) = true := by simp; omega
        have d6 : decide ((e : Int) < (b : Int)) = true := by simp; omega
        have d6' : decide (e < b) = true := by simp; omega
        have HC1 := Lib.hid (HSE.out.rot (by omega) (by omega) wr HRr.out)
        go_wp2_with (first | (go_at_call 152; (with_reducible refine (HC1.out).mono ?_); rintro e w2 ⟨rfl, hr2, hg2⟩; have HR2 := Lib.hid hr2; have HG2 := Lib.hid (grown_trans HGr.out hg2); clear hr2 hg2) | (go_at_call 122; (with_reducible refine (HSE.out.one (by omega) (by omega) w2 HR2.out).mono ?_); rintro e w3 ⟨rfl, hr3, hg3⟩; have HR3 := Lib.hid hr3; have HG3 := Lib.hid (grown_trans HG2.out hg3); clear hr3 hg3) | (go_at_call 122; (with_reducible refine (HSE.out.two (by omega) (by omega) w3 HR3.out).mono ?_); rintro e w4 ⟨rfl, hr4, hg4⟩; have HR4 := Lib.hid hr4; have HG4 := Lib.hid (grown_trans HG3.out hg4); clear hr4 hg4))
        go_end0
        exact ⟨rfl, HR4.out, HG4.out⟩
      · skip
        have d1 : decide ((st : Int) < (m : Int)) = true := by simp; omega
        have d1' : decide (st < m) = true := by simp; omega
        have d2 : decide ((m : Int) < (e : Int)) = true := by simp; omega
        have d2' : decide (m < e) = true := by simp; omega
        have d3 : decide ((a : Int) < (st : Int)) = true := by simp; omega
        have d3' : decide (a < st) = true := by simp; omega
        have d4 : decide ((st : Int) < (mid : Int)) = true := by simp; omega
        have d4' : decide (st < mid) = true := by simp; omega
        have d5 : decide ((mid : Int) < (e : Int)) = true := by simp; omega
        have d5' : decide (mid < e) = true := by simp; omega
        have d6 : decide ((e : Int) < (b : Int)) = false := by simp; omega
        have d6' : decide (e < b) = false := by simp; omega
        have HC1 := Lib.hid (HSE.out.rot (by omega) (by omega) wr HRr.out)
        go_wp2_with (first | (go_at_call 152; (with_reducible refine (HC1.out).mono ?_); rintro e w2 ⟨rfl, hr2, hg2⟩; have HR2 := Lib.hid hr2; have HG2 := Lib.hid (grown_trans HGr.out hg2); clear hr2 hg2) | (go_at_call 122; (with_reducible refine (HSE.out.one (by omega) (by omega) w2 HR2.out).mono ?_); rintro e w3 ⟨rfl, hr3, hg3⟩; have HR3 := Lib.hid hr3; have HG3 := Lib.hid (grown_trans HG2.out hg3); clear hr3 hg3))
        go_end0
        exact ⟨rfl, (HSE.out.notwo (by omega) w3 HR3.out), HG3.out⟩
      · skip
        have d1 : decide ((st : Int) < (m : Int)) = false := by simp; omega
        have d1' : decide (st < m) = false := by simp; omega
        have d2 : decide ((m : Int) < (e : Int)) = false := by simp; omega
        have d2' : decide (m < e) = false := by simp; omega
        have d3 : decide ((a : Int) < (st : Int)) = true := by simp; omega
        have d3' : decide (a < st) = true := by simp; omega
        have d4 : decide ((st : Int) < (mid : Int)) = false := by simp; omega
        have d4' : decide (st < mid) = false := by simp; omega
        have d5 : decide ((mid : Int) < (e : Int)) = false := by simp; omega
        have d5' : decide (mid < e) = false := by simp; omega
        have d6 : decide ((e : Int) < (b : Int)) = true := by simp; omega
        have d6' : decide (e < b) = true := by simp; omega
        have HR2 := Lib.hid (HSE.out.norot (by omega) wr HRr.out)
        have HG2 := HGr
        go_wp2
        go_end0
        exact ⟨rfl, (HSE.out.notwo (by omega) wr (HSE.out.noone (by omega) wr HR2.out)), HG2.out⟩
      · skip
        have d1 : decide ((st : Int) < (m : Int)) = false := by simp; omega
        have d1' : decide (st < m) = false := by simp; omega
        have d2 : decide ((m : Int) < (e : Int)) = true := by simp; omega
        have d2' : decide (m < e) = true := by simp; omega
        have d3 : decide ((a : Int) < (st : Int)) = true := by simp; omega
        have d3' : decide (a < st) = true := by simp; omega
        have d4 : decide ((st : Int) < (mid : Int)) = true := by simp; omega
        have d4' : decide (st < mid) = true := by simp; omega
        have d5 : decide ((mid : Int) < (e : Int)) = false := by simp; omega
        have d5' : decide (mid < e) = false := by simp; omega
        have d6 : decide ((e : Int) < (b : Int)) = true := by simp; omega
        have d6' : decide (e < b) = true := by simp; omega
        have HR2 := Lib.hid (HSE.out.norot (by omega) wr HRr.out)
        have HG2 := HGr
        go_wp2_with (first | (go_at_call 122; (with_reducible refine (HSE.out.one (by omega) (by omega) wr HR2.out).mono ?_); rintro e w3 ⟨rfl, hr3, hg3⟩; have HR3 := Lib.hid hr3; have HG3 := Lib.hid (grown_trans HG2.out hg3); clear hr3 hg3))
        go_end0
        exact ⟨rfl, (HSE.out.notwo (by omega) w3 HR3.out), HG3.out⟩
end Go.Proofs.YtlimajgmdhhggaaGreatDoor


namespace Go.Proofs.YtlimajgmdhhggaaGreatDoor
open Go.RowKit
set_option linter.unusedVariables false
set_option linter.unusedSimpArgs false

theorem sym_any (B g n cap : Nat) (hl : n ≤ 1000000) : ∀ (N : Nat) (X Y : List PT), X.length + Y.length ≤ N → 0 < X.length → 0 < Y.length → sortedG X → sortedG Y → SymC B g n cap X Y
  | 0, X, Y, h, hx, _, _, _ => by omega
  | N + 1, X, Y, h, hx, hy, hX, hY => by
    by_cases h1 : X.length = 1
    · obtain ⟨x, rfl⟩ := List.length_eq_one_iff.1 h1
      exact sym_one x Y B g n cap hl hY
    · by_cases h2 : Y.length = 1
      · obtain ⟨y, rfl⟩ := List.length_eq_one_iff.1 h2
        exact sym_last y X B g n cap hl hX (by omega)
      · by_cases h3 : (X.length + Y.length) / 2 < X.length
        · exact sym_step1 X Y B g n cap hl hX hY (by omega) (by omega) h3 (fun X' Y' h' a1 a2 a3 a4 => sym_any B g n cap hl N X' Y' (by omega) a1 a2 a3 a4)
        · exact sym_step2 X Y B g n cap hl hX hY (by omega) (by omega) (by omega) (fun X' Y' h' a1 a2 a3 a4 => sym_any B g n cap hl N X' Y' (by omega) a1 a2 a3 a4)
end Go.Proofs.YtlimajgmdhhggaaGreatDoor


namespace Go.Proofs.YtlimajgmdhhggaaGreatDoor
open Go.RowKit
set_option linter.unusedVariables false
set_option linter.unusedSimpArgs false

set_option maxRecDepth 100000 in
set_option maxHeartbeats 4000000 in
theorem stableL_any (P : List PT) (B g n cap : Nat) (w : World) (hn : n = P.length) (h20 : 20 ≤ n) (h40 : n < 40) (h : w.ownsRow B 54 2 (.slice (some ⟨g, 0, none⟩) n cap) n (cellsP (P))) (hv : slV P) :
    Calls Tryz.prog 85 #[.slice (some ⟨g, 0, none⟩) n cap, .int .i64 n, .func (.func 46) #[] #[]] w fun e w' => e = .returned (.tuple #[]) ∧ w'.ownsRow B 54 2 (.slice (some ⟨g, 0, none⟩) n cap) n (cellsP (srtG (fun r => r.1) (n - 1) P)) ∧ w.grownBy w' (some g) := by
  obtain ⟨P1, hP1⟩ : ∃ L, L = P.take 20 := ⟨_, rfl⟩
  obtain ⟨P2, hP2⟩ : ∃ L, L = P.drop 20 := ⟨_, rfl⟩
  have hP : P = P1 ++ P2 := by rw [hP1, hP2, List.take_append_drop]
  have l1 : P1.length = 20 := by rw [hP1, List.length_take]; omega
  have l2 : P2.length = n - 20 := by rw [hP2, List.length_drop]; omega
  have ls1 := sortG_length P1
  have ls2 := sortG_length P2
  have hv2 : slV (sortG P1 ++ P2) := slV_perm hv (fun r hr => by
    rw [hP]
    rcases List.mem_append.1 hr with hr | hr
    · exact List.mem_append.2 (.inl (srtG_mem _ hr))
    · exact List.mem_append.2 (.inr hr))
  have hv3 : slV (sortG P1 ++ sortG P2) := slV_perm hv (fun r hr => by
    rw [hP]
    rcases List.mem_append.1 hr with hr | hr
    · exact List.mem_append.2 (.inl (srtG_mem _ hr))
    · exact List.mem_append.2 (.inr (srtG_mem _ hr)))
  have hs1 := fun (wr : World) (hr : wr.ownsRow B 54 2 (.slice (some ⟨g, 0, none⟩) n cap) n (cellsP (P))) => insertO_any [] P1 P2 B g n cap 0 20 wr (by simp; omega) (by omega) rfl (by simp; omega) (by rw [hP] at hr; simpa using hr) (by rw [hP] at hv; simpa using hv)
  have hs2 := fun (wr : World) (hr : wr.ownsRow B 54 2 (.slice (some ⟨g, 0, none⟩) n cap) n (cellsP (sortG P1 ++ P2))) => insertO_any (sortG P1) P2 [] B g n cap 20 n wr (by simp; omega) (by omega) (by omega) (by omega) (by simpa using hr) (by simpa using hv2)
  have hs3 := fun (hgt : 20 < n) (wx : World) (hr : wx.ownsRow B 54 2 (.slice (some ⟨g, 0, none⟩) n cap) n (cellsP (sortG P1 ++ sortG P2))) => sym_any B g n cap (by omega) _ (sortG P1) (sortG P2) (Nat.le_refl _) (by omega) (by omega) (sortG_sorted P1) (sortG_sorted P2) [] [] 0 20 n wx (by simp; omega) rfl (by simp; omega) (by simp; omega) (by simpa using hr) (by simpa using hv3)
  have he : mrgG (sortG P1) (sortG P2) = sortG P := by rw [hP, sortG_app]
  simp only [List.nil_append, List.append_nil] at hs1 hs2 hs3
  simp only [he] at hs3
  have hno : n = 20 → sortG P1 ++ sortG P2 = sortG P := fun e => by
    have : P2 = [] := List.eq_nil_of_length_eq_zero (by omega)
    rw [hP, this, List.append_nil]
    show sortG P1 ++ [] = _
    rw [List.append_nil]
  have hend : sortG P = srtG (fun r => r.1) (n - 1) P := by rw [hn]; rfl
  have HS1 := Lib.hid hs1
  have HS2 := Lib.hid hs2
  have HS3 := Lib.hid hs3
  have HNo := Lib.hid hno
  have HEn := Lib.hid hend
  have HR := Lib.hid h
  have t1 : decide ((20 : Int) ≤ (n : Int)) = true := by simp; omega
  have t1' : decide (20 ≤ n) = true := by simp; omega
  have t2 : decide ((40 : Int) ≤ (n : Int)) = false := by simp; omega
  have t2' : decide (40 ≤ n) = false := by simp; omega
  have t3 : decide ((40 : Int) < (n : Int)) = false := by simp; omega
  have t3' : decide (40 < n) = false := by simp; omega
  clear h hv hv2 hv3 hs1 hs2 hs3 he hno hend hP1 hP2 hP l1 l2 ls1 ls2 hn
  go_enter Tryz.func85, Tryz.ntmps85
  go_wp2
  go_loopw [7, 8] (fun a b wr => (a = .int .i64 0 ∧ b = .int .i64 20 ∧ Hid (wr.ownsRow B 54 2 (.slice (some ⟨g, 0, none⟩) n cap) n (cellsP (P))) ∧ Hid (w.grownBy wr (some g))) ∨ (a = .int .i64 20 ∧ b = .int .i64 40 ∧ Hid (wr.ownsRow B 54 2 (.slice (some ⟨g, 0, none⟩) n cap) n (cellsP (sortG P1 ++ P2))) ∧ Hid (w.grownBy wr (some g)))) (fun a b wr => 40 - (intOf b).toNat)
  case atStart => exact .inl ⟨rfl, rfl, HR, Lib.hid (grown_refl _ _)⟩
  case round =>
    rcases hrel with ⟨rfl, rfl, HRr, HGr⟩ | ⟨rfl, rfl, HRr, HGr⟩
    · have HC := Lib.hid (HS1.out wr HRr.out)
      go_wp2_with (go_at_call 121; refine (HC.out).mono ?_; rintro e w2 ⟨rfl, hr2, hg2⟩; have HR2 := Lib.hid hr2; have HG2 := Lib.hid (grown_trans HGr.out hg2); clear hr2 hg2)
      go_roundw
      case rel => exact .inr ⟨rfl, rfl, HR2, HG2⟩
      case measure => simp [intOf]
    · have HC := Lib.hid (HS2.out wr HRr.out)
      go_wp2_with (go_at_call 121; refine (HC.out).mono ?_; rintro e w2 ⟨rfl, hr2, hg2⟩; have HR2 := Lib.hid hr2; have HG2 := Lib.hid (grown_trans HGr.out hg2); clear hr2 hg2)
      go_loopw [6] (fun bs wx => (bs = .int .i64 20 ∧ Hid (wx.ownsRow B 54 2 (.slice (some ⟨g, 0, none⟩) n cap) n (cellsP (sortG P1 ++ sortG P2))) ∧ Hid (w.grownBy wx (some g))) ∨ (bs = .int .i64 40 ∧ Hid (wx.ownsRow B 54 2 (.slice (some ⟨g, 0, none⟩) n cap) n (cellsP (sortG P))) ∧ Hid (w.grownBy wx (some g)))) (fun bs wx => 40 - (intOf bs).toNat)
      case atStart => exact .inl ⟨rfl, HR2, HG2⟩
      case round =>
        clear HR2 HG2
        rcases hrel with ⟨rfl, HRx, HGx⟩ | ⟨rfl, HRx, HGx⟩
        · by_cases hgt : 20 < n
          · have t4 : decide ((20 : Int) < (n : Int)) = true := by simp; omega
            have t4' : decide (20 < n) = true := by simp; omega
            have HC3 := Lib.hid (HS3.out hgt)
            go_wp2
            go_loopw [7, 8] (fun a b wz => a = .int .i64 0 ∧ b = .int .i64 40 ∧ Hid (wz.ownsRow B 54 2 (.slice (some ⟨g, 0, none⟩) n cap) n (cellsP (sortG P1 ++ sortG P2))) ∧ Hid (w.grownBy wz (some g))) (fun a b wz => 1)
            case atStart => exact ⟨rfl, rfl, HRx, HGx⟩
            case round =>
              clear HRx HGx
              obtain ⟨rfl, rfl, HRz, HGz⟩ := hrel
              have HC4 := Lib.hid (HC3.out _ HRz.out)
              go_wp2_with (go_at_call 122; refine (HC4.out).mono ?_; rintro e w3 ⟨rfl, hr3, hg3⟩; have HR3 := Lib.hid hr3; have HG3 := Lib.hid (grown_trans HGz.out hg3); clear hr3 hg3)
              go_roundw
              case rel => exact .inr ⟨rfl, HR3, HG3⟩
              case measure => simp [intOf]
          · have t4 : decide ((20 : Int) < (n : Int)) = false := by simp; omega
            have t4' : decide (20 < n) = false := by simp; omega
            have hn20 : n = 20 := by omega
            have HF := Lib.hid (by have := HRx.out; rw [HNo.out hn20, HEn.out] at this; exact this)
            clear hn20
            go_wp2
            go_end0
            exact ⟨rfl, HF.out, HGx.out⟩
        · have HF := Lib.hid (by have := HRx.out; rw [HEn.out] at this; exact this)
          go_wp2
          go_end0
          exact ⟨rfl, HF.out, HGx.out⟩
end Go.Proofs.YtlimajgmdhhggaaGreatDoor


namespace Go.Proofs.YtlimajgmdhhggaaGreatDoor
open Go.RowKit
set_option linter.unusedVariables false
set_option linter.unusedSimpArgs false

set_option maxRecDepth 100000 in
set_option maxHeartbeats 1000000 in
theorem sortedL_any (n : Nat) (sa : Option Addr) (sc : Nat) (w : World) (Q : World → Prop) (hi : Calls Tryz.prog 85 #[.slice sa n sc, .int .i64 n, .func (.func 46) #[] #[]] w fun e w' => e = .returned (.tuple #[]) ∧ Q w') :
    Calls Tryz.prog 45 #[.slice sa n sc, .func (.func 46) #[] #[]] w fun e w' => e = .returned (.tuple #[]) ∧ Q w' := by
  have HI := Lib.hid hi
  clear hi
  go_enter Tryz.func45, Tryz.ntmps45
  go_wp2_with (go_at_call 85; refine (HI.out).mono ?_; rintro e w2 ⟨rfl, hb2⟩; have HB2 := Lib.hid hb2; clear hb2)
  go_end0
  exact ⟨rfl, HB2.out⟩
theorem sorted_ownL (B : Nat) (L : List AT) (hl : L.length < 40) (v : Value) (w : World) (hB : B ≤ w.heap.size) (h : OwnA B w v L) :
    Calls Tryz.prog 45 #[v, .func (.func 46) #[] #[]] w fun e w' => e = .returned (.tuple #[]) ∧ OwnA B w' v (sortA L) ∧ Below B w w' := by
  by_cases h20 : L.length < 20
  · exact sorted_own B L h20 v w hB h
  · obtain ⟨P, hP, hs⟩ := id h
    have hne : P ≠ [] := by intro e; have := hs.1; rw [e] at this; simp at this; omega
    obtain ⟨g, cap, rfl, hBg, hgl, _⟩ := rowP_at hP hne
    obtain ⟨n, hnn⟩ : ∃ n, n = P.length := ⟨_, rfl⟩
    have hn : n < 40 := by rw [hnn, hs.1]; exact hl
    have hn20 : 20 ≤ n := by rw [hnn, hs.1]; omega
    rw [← hnn] at hP hs ⊢
    have hrow : w.ownsRow B 54 2 (.slice (some ⟨g, 0, none⟩) n cap) n (cellsP P) := by
      have hP' : w.ownsRow B 54 2 (.slice (some ⟨g, 0, none⟩) n cap) P.length (cellsP P) := hP
      rw [← hnn] at hP'
      exact hP'
    have hv : slV P := fun r hr => by
      obtain ⟨j, hj, rfl⟩ := List.getElem_of_mem hr
      obtain ⟨a, c, e, _⟩ := (hs.2 j (by rw [← hs.1]; exact hj) hj).2
      exact ⟨a, _, c, e⟩
    exact (sortedL_any n (some ⟨g, 0, none⟩) cap w _ (stableL_any P B g n cap w hnn hn20 hn hrow hv)).mono fun e w' ⟨he, hr, hg⟩ => ⟨he, ownA_sort hP hs hnn hr hg, ⟨hg.os, hg.tape, hg.output, hg.size, fun k hk => hg.block k (Nat.lt_of_lt_of_le hk hB) (fun e => by have := Option.some.inj e; omega)⟩⟩

set_option maxRecDepth 100000 in
set_option maxHeartbeats 4000000 in
theorem normT_entry (d : ByteArray) (hd : d.size ≤ 140737488351232) (L : List AT) (hs : smallA L) (hl : L.length < 40) (v : Value) (w : World) (h : IsA w.heap.size w L v) :
    Calls Tryz.prog 13 #[.agg #[.string d, v]] w fun e w' => ∃ v', e = .returned (.agg #[strV (nameN d.data.toList), v']) ∧ OwnA w.heap.size w' v' (sortA (normL L)) ∧ Below w.heap.size w w' := by
  obtain ⟨sa, sc, hv, _⟩ := id h
  obtain ⟨n, hn⟩ : ∃ n, n = L.length := ⟨_, rfl⟩
  rw [← hn] at hv
  subst hv
  have HI := Lib.hid h
  have HS := Lib.hid hs
  have HN := Lib.hid hn
  have hl5 : n < 40 := by omega
  have HSt := Lib.hid (norm_start w d (.slice sa n sc))
  obtain ⟨T, hT⟩ : ∃ T : ByteArray, strV (nameN d.data.toList) = .string T := ⟨_, rfl⟩
  have hnt := fun w => nameText_any d hd w
  simp only [hT] at hnt
  rw [hT]
  have HNt := Lib.hid hnt
  clear h hs hn hnt hT hl
  go_enter Tryz.func13, Tryz.ntmps13
  go_wp2
  rw [show w.heap.size + 1 + 1 = w.heap.size + 2 from rfl]
  have HSt2 := HSt
  generalize (((w.alloc (.cells #[.string d, .slice sa n sc] 24)).alloc (.cells #[.string ⟨#[]⟩, .slice none 0 0] 24)).alloc (.cells #[.slice sa n sc, .int .i64 0] 65)) = W3 at HSt2 ⊢
  clear HSt
  go_loopw [4] (fun l wr => ∃ j : Nat, j ≤ n ∧ lenOf l = j ∧ NormAt w.heap.size d w wr (.slice sa n sc) l j (normL (L.take j))) (fun l wr => n - lenOf l)
  case atStart => exact ⟨0, by omega, rfl, HSt2.out⟩
  case round =>
    obtain ⟨j, hj, hlj, hat⟩ := hrel
    obtain ⟨la, ln, lc, rfl⟩ := ownA_sl hat.own
    simp only [lenOf] at hlj
    subst hlj
    have HAt := Lib.hid hat
    have hmo := more_any (w.heap.size + 2) sa n sc ln wr hat.m0 hat.m1
    have HMo := Lib.hid hmo
    clear hmo hat
    by_cases hlt : ln < n
    · have t1 : decide ((ln : Int) < (n : Int)) = true := by simp; omega
      have hjl : ln < L.length := by rw [← HN.out]; exact hlt
      rw [t1] at HMo
      have htk := normL_take L ln hjl
      have HTk := Lib.hid htk
      have hwl : (normL (L.take ln)).length ≤ 1000 := by unfold normL; rw [List.length_map, List.length_take]; omega
      clear htk t1
      go_wp2_with (first
        | (go_at_call 43; refine (HMo.out).mono ?_; rintro e w2 ⟨rfl, m, hw2⟩; have hb2 : Below wr.heap.size wr w2 := (by { rw [hw2]; exact below_drewN (Below.refl _ _) m }); have HAt2 := Lib.hid (HAt.out.go hb2); clear hw2 hb2)
        | (go_at_call 44; refine (next_any L HS.out (w.heap.size + 2) ln (.slice sa n sc) _ (by have := HAt2.out.size; omega) ((HI.out.below HAt2.out.bel (by omega)).below (Below.refl _ _) (Nat.le_refl _)) hjl HAt2.out.m0 HAt2.out.m1 HAt2.out.mz).mono ?_; rintro e w5 ⟨u5, rfl, hu5, hg5, h50, h51, h5z⟩; have HAt5 := Lib.hid (HAt2.out.next hg5 h50 h51 h5z); (obtain ⟨ya, yc, hye, _⟩ := id hu5); subst hye; have HU5 := Lib.hid hu5; have HO2 := Lib.hid HAt2.out.own; have hz2 := HAt2.out.size; clear hu5 hg5 h50 h51 h5z)
        | (at_builtin; refine wpList_append_attr rfl (.tmp 11) (.tmp 14) rfl (w.heap.size + 3) (.slice la ln lc) (normL (L.take ln)) rfl (ofL (nameA L[ln].1)) (.slice ya L[ln].2.length yc) L[ln].2 HAt5.out.own (HU5.out.imp (fun b hb => ⟨by have := hb.1; omega, hb.2, fun e => absurd (ownA_lt HO2.out b e.symm) (by have := hb.1; omega)⟩) (fun _ _ _ => rfl)) rfl rfl (by omega) HAt5.out.size ?_; intro v6 w6 hown6 hb6; have HAt6 := Lib.hid (HAt5.out.app hb6 hown6); clear hown6 hb6))
      obtain ⟨ra, rn, rc, rfl⟩ := ownA_sl HAt6.out.own
      have hrn : rn = ln + 1 := by
        obtain ⟨_, _, h⟩ := ownA_slice HAt6.out.own
        simp only [Value.slice.injEq] at h
        rw [h.2.1]
        unfold normL
        simp; omega
      subst hrn
      go_roundw
      case rel => exact ⟨ln + 1, by omega, rfl, by rw [HTk.out]; have := HAt6.out; rw [ofL_list] at this; exact this⟩
      case measure => simp [lenOf]; omega
    · obtain rfl : ln = n := by omega
      have t1 : decide ((ln : Int) < (ln : Int)) = false := by simp
      rw [t1] at HMo
      have hall : normL (L.take ln) = normL L := by rw [List.take_of_length_le (by rw [← HN.out]; exact Nat.le_refl _)]
      have HAll := Lib.hid hall
      clear t1 hall
      go_wp2_with (first
        | (go_at_call 43; refine (HMo.out).mono ?_; rintro e w2 ⟨rfl, m, hw2⟩; have hb2 : Below wr.heap.size wr w2 := (by { rw [hw2]; exact below_drewN (Below.refl _ _) m }); have HAt2 := Lib.hid (HAt.out.go hb2); clear hw2 hb2)
        | (go_at_call 45; refine (sorted_ownL (w.heap.size + 3) (normL L) (by unfold normL; rw [List.length_map, ← HN.out]; exact hl5) _ _ HAt2.out.size (by have := HAt2.out.own; rwa [HAll.out] at this)).mono ?_; rintro e w3 ⟨rfl, ho3, hb3⟩; have HAt3 := Lib.hid (HAt2.out.app hb3 ho3); have f0 := HAt3.out.box.1; clear hb3 ho3)
        | (go_at_call 48; refine (HNt.out _).mono ?_; rintro e w4 ⟨rfl, hb4⟩; have HAt4 := Lib.hid (HAt3.out.go hb4); (obtain ⟨_, p0, p1, q0, q1⟩ := HAt4.out.box); clear hb4))
      refine bodyPost_ret (v := .agg #[.string T, .slice la ln lc]) (by simp [results, Tryz.results13, go_sem, p0, p1]) rfl ⟨_, rfl, ?_, (HAt4.out.bel.setCell (p := ⟨w.heap.size + 1, 0, none⟩) (show w.heap.size ≤ w.heap.size + 1 by omega) _).setCell (p := ⟨w.heap.size + 1, 1, none⟩) (show w.heap.size ≤ w.heap.size + 1 by omega) _⟩
      have ho := ownA_set (ownA_set HAt4.out.own ⟨w.heap.size + 1, 0, none⟩ (.string T) (show w.heap.size + 1 < w.heap.size + 3 by omega)) ⟨w.heap.size + 1, 1, none⟩ (.slice la ln lc) (show w.heap.size + 1 < w.heap.size + 3 by omega)
      have ho2 := ownA_lower (B' := w.heap.size) ho (by omega)
      exact ho2
end Go.Proofs.YtlimajgmdhhggaaGreatDoor


namespace Go.Proofs.YtlimajgmdhhggaaGreatDoor
open Go.RowKit
set_option linter.unusedVariables false

def badG (a : AT) : Bool := decide (100 < a.1.length) || decide (50 < a.2.length) || a.2.any (fun s => decide (300 < s.length))
def greatD (d : List UInt8) (L : List AT) : Bool := (L.take 30).any badG || (decide (25 < L.length) || decide (600 < d.length))
theorem great_no {d : List UInt8} {L : List AT} (h : greatD d L = false) : L.length ≤ 25 ∧ d.length ≤ 600 ∧ ∀ a ∈ L, a.1.length ≤ 100 ∧ a.2.length ≤ 50 ∧ ∀ s ∈ a.2, s.length ≤ 300 := by
  unfold greatD at h
  simp only [Bool.or_eq_false_iff, decide_eq_false_iff_not] at h
  obtain ⟨h1, h2, h3⟩ := h
  rw [List.take_of_length_le (by omega), List.any_eq_false] at h1
  refine ⟨by omega, by omega, fun a ha => ?_⟩
  have := h1 a ha
  simp only [badG, Bool.or_eq_true, decide_eq_true_eq, List.any_eq_true, not_or, not_exists, not_and] at this
  exact ⟨by omega, by omega, fun s hs => by have := this.2 s hs; omega⟩
theorem great_bad {d : List UInt8} {L : List AT} {j : Nat} (hj : j < L.length) (h30 : j < 30) (h : badG L[j] = true) : greatD d L = true := by
  unfold greatD
  rw [List.any_eq_true.2 ⟨L[j], List.mem_take_iff_getElem.2 ⟨j, by omega, rfl⟩, h⟩]
  rfl
theorem great_rest {d : List UInt8} {L : List AT} (h : ∀ k (hk : k < L.length), k < 30 → badG L[k] = false) : greatD d L = (decide (25 < L.length) || decide (600 < d.length)) := by
  unfold greatD
  have : (L.take 30).any badG = false := by
    rw [List.any_eq_false]
    intro a ha
    obtain ⟨i, hi, rfl⟩ := List.mem_take_iff_getElem.1 ha
    rw [h i (by omega) (by omega)]
    simp
  rw [this, Bool.false_or]

set_option maxRecDepth 100000 in
set_option maxHeartbeats 8000000 in
theorem great_any (D : ByteArray) (L : List AT) (v : Value) (w : World) (h : IsA w.heap.size w L v) :
    Calls Tryz.prog 9 #[.agg #[.string D, v]] w fun e w' => e = .returned (.bool (greatD D.data.toList L)) ∧ Below w.heap.size w w' := by
  obtain ⟨a, c, hv, hm, hcell⟩ := id h
  obtain ⟨n, hn⟩ : ∃ n, n = L.length := ⟨_, rfl⟩
  rw [← hn] at hv hm
  subst hv
  unfold maxLen at hm
  obtain ⟨R, hR⟩ : ∃ R, R = greatD D.data.toList L := ⟨_, rfl⟩
  rw [← hR]
  obtain ⟨W0, hW0⟩ : ∃ W0, W0 = w.alloc (.cells #[.string D, .slice a n c] 24) := ⟨_, rfl⟩
  have hB0 : Below w.heap.size w W0 := by rw [hW0]; exact (Below.refl _ _).alloc (Nat.le_refl _) _
  have hbx : BoxN W0 w.heap.size D (.slice a n c) := by rw [hW0]; exact boxN_new _ _ _
  obtain ⟨x0, x1⟩ := hbx.cells
  have HN := Lib.hid hn
  have HC := Lib.hid hcell
  have HB0 := Lib.hid hB0
  have HW0 := Lib.hid hW0.symm
  have HR := Lib.hid hR
  clear hcell hn hB0 hbx hW0 h hR
  go_enter Tryz.func9, Tryz.ntmps9
  go_upto_region 1 with (fail)
  rw [HW0.out]
  go_wp2
  go_loopw [3] (fun i wr => ∃ j : Nat, j ≤ n ∧ j ≤ 30 ∧ i = .int .i64 j ∧ Hid (∀ k (hk : k < L.length), k < j → badG L[k] = false) ∧ W0 = wr) (fun i wr => n - (intOf i).toNat)
  case atStart => exact ⟨0, by omega, by omega, rfl, Lib.hid (fun k _ h => absurd h (by omega)), rfl⟩
  case round =>
    obtain ⟨j, hj, hj3, rfl, HNo, rfl⟩ := hrel
    have tail : ∀ (h : ∀ k (hk : k < L.length), k < 30 → badG L[k] = false), R = (decide (25 < n) || decide (600 < D.size)) := fun h => by rw [HR.out, great_rest h, ← HN.out, bytes_len]
    by_cases hlt : j < n
    · have t1 : decide ((j : Int) < (n : Int)) = true := by simp; omega
      have t1' : decide (j < n) = true := by simpa using hlt
      have hlL : j < L.length := by rw [← HN.out]; exact hlt
      by_cases h30 : j < 30
      · have t2 : decide ((j : Int) < 30) = true := by simp; omega
        obtain ⟨b, off, u, rfl, hb0, c0, c1, hit⟩ := HC.out j hlL
        obtain ⟨V, hV⟩ : ∃ V, V = L[j].2 := ⟨_, rfl⟩
        rw [← hV] at hit
        obtain ⟨ua, uc, hu, hum, huc⟩ := hit
        obtain ⟨m, hml⟩ : ∃ m, m = V.length := ⟨_, rfl⟩
        rw [← hml] at hu hum
        subst hu
        unfold maxLen at hum
        obtain ⟨X, hX⟩ : ∃ X : ByteArray, ⟨L[j].1.toArray⟩ = X := ⟨_, rfl⟩
        have hXl : X.size = L[j].1.length := by rw [← bytes_len, ← hX]
        have d0 : (W0.cell? ⟨b, off + j * 2, none⟩) = some (.string X) := by
          rw [HB0.out.cell (p := ⟨b, off + j * 2, none⟩) hb0, c0, ← hX]; rfl
        have d1 : (W0.cell? ⟨b, off + j * 2 + 1, none⟩) = some (.slice ua m uc) := by
          rw [HB0.out.cell (p := ⟨b, off + j * 2 + 1, none⟩) hb0, c1]
        have HUc : Hid (∀ k (hk : k < V.length), ∃ vb vo, ua = some ⟨vb, vo, none⟩ ∧ ∃ Y : ByteArray, Y.size = V[k].length ∧ W0.cell? ⟨vb, vo + k, none⟩ = some (.string Y)) := Lib.hid (fun k hk => by
          obtain ⟨vb, vo, e, hvb, hc⟩ := huc k hk
          refine ⟨vb, vo, e, ⟨V[k].toArray⟩, by rw [← bytes_len], ?_⟩
          rw [HB0.out.cell (p := ⟨vb, _, none⟩) hvb, hc]
          rfl)
        have HXl := Lib.hid hXl
        have HV := Lib.hid hV
        have HMl := Lib.hid hml
        clear hX hXl hV hml huc c0 c1 tail
        by_cases h100 : 100 < X.size
        · have t3 : decide ((100 : Int) < (X.size : Int)) = true := by simp; omega
          have HE : Hid (R = true) := Lib.hid (by rw [HR.out]; refine great_bad hlL h30 ?_; unfold badG; rw [show decide (100 < L[j].1.length) = true from by simp; rw [← HXl.out]; exact h100]; rfl)
          clear h100
          go_wp2
          go_ret
          exact ⟨by rw [HE.out]; rfl, HB0.out⟩
        · have t3 : decide ((100 : Int) < (X.size : Int)) = false := by simp; omega
          by_cases h50 : 50 < m
          · have t4 : decide ((50 : Int) < (m : Int)) = true := by simp; omega
            have HE : Hid (R = true) := Lib.hid (by rw [HR.out]; refine great_bad hlL h30 ?_; unfold badG; rw [show decide (50 < L[j].2.length) = true from by simp; rw [← HV.out, ← HMl.out]; exact h50]; simp)
            clear h100 h50
            go_wp2
            go_ret
            exact ⟨by rw [HE.out]; rfl, HB0.out⟩
          · have t4 : decide ((50 : Int) < (m : Int)) = false := by simp; omega
            have HB1 : Hid (decide (100 < L[j].1.length) = false ∧ decide (50 < L[j].2.length) = false) := Lib.hid ⟨by simp; rw [← HXl.out]; omega, by simp; rw [← HV.out, ← HMl.out]; omega⟩
            have ti0 : (0 : Int) ≤ (j : Int) := by omega
            have ti1 : (j : Int) < (n : Int) := by omega
            clear h100 h50
            go_wp2
            clear t3 t4
            go_loopw [4] (fun i wr => ∃ k : Nat, k ≤ m ∧ i = .int .i64 k ∧ Hid (∀ q (hq : q < V.length), q < k → V[q].length ≤ 300) ∧ W0 = wr) (fun i wr => m - (intOf i).toNat)
            case atStart => exact ⟨0, by omega, rfl, Lib.hid (fun k _ h => absurd h (by omega)), rfl⟩
            case round =>
              obtain ⟨k, hk, rfl, HAl, rfl⟩ := hrel
              by_cases hkm : k < m
              · have r1 : decide ((k : Int) < (m : Int)) = true := by simp; omega
                have r1' : decide (k < m) = true := by simpa using hkm
                have r2 : (0 : Int) ≤ (k : Int) := by omega
                have r3 : (k : Int) < (m : Int) := by omega
                have hkV : k < V.length := by rw [← HMl.out]; exact hkm
                obtain ⟨vb, vo, rfl, Y, hY, hyc⟩ := HUc.out k hkV
                have HY := Lib.hid hY
                clear hY
                by_cases h300 : 300 < Y.size
                · have r4 : decide ((300 : Int) < (Y.size : Int)) = true := by simp; omega
                  have HE : Hid (R = true) := Lib.hid (by
                    rw [HR.out]
                    refine great_bad hlL h30 ?_
                    unfold badG
                    have : L[j].2.any (fun s => decide (300 < s.length)) = true := List.any_eq_true.2 ⟨V[k], by rw [← HV.out]; exact List.getElem_mem _, by simp; rw [← HY.out]; exact h300⟩
                    rw [this]
                    simp)
                  clear h300
                  go_wp2
                  go_ret
                  exact ⟨by rw [HE.out]; rfl, HB0.out⟩
                · have r4 : decide ((300 : Int) < (Y.size : Int)) = false := by simp; omega
                  have HA2 : Hid (∀ q (hq : q < V.length), q < k + 1 → V[q].length ≤ 300) := Lib.hid (fun q h1 h3 => by
                    by_cases hk : q < k
                    · exact HAl.out q h1 hk
                    · obtain rfl : q = k := by omega
                      rw [← HY.out]
                      omega)
                  clear h300 HAl
                  go_wp2
                  go_roundw
                  case rel => exact ⟨k + 1, by omega, by go_num, HA2, by first | rfl | trivial⟩
                  case measure => simp [intOf]; omega
              · obtain rfl : k = m := by omega
                have r1 : decide ((k : Int) < (k : Int)) = false := by simp
                have r1' : decide (k < k) = false := by simp
                have HA2 : Hid (∀ q (hq : q < L.length), q < j + 1 → badG L[q] = false) := Lib.hid (fun q h1 h3 => by
                  by_cases hk : q < j
                  · exact HNo.out q h1 hk
                  · obtain rfl : q = j := by omega
                    unfold badG
                    rw [HB1.out.1, HB1.out.2]
                    have : L[q].2.any (fun s => decide (300 < s.length)) = false := by
                      rw [← HV.out, List.any_eq_false]
                      intro s hs
                      obtain ⟨x, hx, rfl⟩ := List.getElem_of_mem hs
                      have := HAl.out x hx (by rw [HMl.out]; exact hx)
                      simp
                      omega
                    rw [this]
                    rfl)
                clear HAl HNo
                go_wp2
                go_roundw
                case rel => exact ⟨j + 1, by omega, by omega, by go_num, HA2, by first | rfl | trivial⟩
                case measure => simp [intOf]; omega
      · have t2 : decide ((j : Int) < 30) = false := by simp; omega
        have HT := Lib.hid (tail (fun k hk h3 => HNo.out k hk (by omega)))
        have t5 : decide ((25 : Int) < (n : Int)) = true := by simp; omega
        have HE : Hid (R = true) := Lib.hid (by rw [HT.out, show decide (25 < n) = true from by simp; omega]; rfl)
        clear tail
        go_wp2
        go_ret
        exact ⟨by rw [HE.out]; rfl, HB0.out⟩
    · obtain rfl : j = n := by omega
      have t1 : decide ((j : Int) < (j : Int)) = false := by simp
      have t1' : decide (j < j) = false := by simp
      have HT := Lib.hid (tail (fun k hk h3 => HNo.out k hk (by rw [HN.out]; exact hk)))
      clear tail
      by_cases h25 : 25 < j
      · have t5 : decide ((25 : Int) < (j : Int)) = true := by simp; omega
        have HE : Hid (R = true) := Lib.hid (by rw [HT.out, show decide (25 < j) = true from by simp; omega]; rfl)
        clear h25
        go_wp2
        go_ret
        exact ⟨by rw [HE.out]; rfl, HB0.out⟩
      · have t5 : decide ((25 : Int) < (j : Int)) = false := by simp; omega
        have HE : Hid (R = decide (600 < D.size)) := Lib.hid (by rw [HT.out, show decide (25 < j) = false from by simp; omega]; rfl)
        clear h25
        by_cases h6 : 600 < D.size
        · have t6 : decide ((600 : Int) < (D.size : Int)) = true := by simp; omega
          have HE2 : Hid (R = true) := Lib.hid (by rw [HE.out]; simpa using h6)
          clear h6
          go_wp2
          go_ret
          exact ⟨by rw [HE2.out]; rfl, HB0.out⟩
        · have t6 : decide ((600 : Int) < (D.size : Int)) = false := by simp; omega
          have HE2 : Hid (R = false) := Lib.hid (by rw [HE.out]; simpa using h6)
          clear h6
          go_wp2
          go_ret
          exact ⟨by rw [HE2.out]; rfl, HB0.out⟩
end Go.Proofs.YtlimajgmdhhggaaGreatDoor

