/- Several texts in one file: EvEval, EvREv, ScPer, EvOrdP, EvAwk, MaUp, MaAwake, MaCasesW, ScFst, ScFstW, RegInv, RegFact, RegTwo, ScNedA, RegJ, MkA, MkP, MkG, TuA, MkS, EvMkP, FiMkP, FiHold, FiHead, FiParse, FiTextW, FiAwake, FiDeep. -/
import Derived.Test.YtdgnefcpeocbjaaGreatDoorEvcP2
import Derived.Test.YtdgnefcpeocbjaaGreatDoorFiRMay
import Derived.Test.YtdgnefcpeocbjaaGreatDoorEvcP3
import Derived.Deep.Cut
import Derived.Test.YtdgnefcpeocbjaaGreatDoorEvcP1
import Derived.Test.YtdgnefcpeocbjaaGreatDoorDnLow
import Derived.Test.YtdgnefcpeocbjaaGreatDoorOfL
import Derived.Test.YtdgnefcpeocbjaaGreatDoorMaPure
import Derived.Deep.CutRange
import Derived.RegionTactic
import Derived.Below
import Derived.Deep.AppendSrc
import Derived.Deep.Onto
import Derived.Test.YtdgnefcpeocbjaaGreatDoorFiRead
import Derived.Test.YtdgnefcpeocbjaaGreatDoorFiWrite
import Derived.Test.YtdgnefcpeocbjaaGreatDoorFiSamR
import Derived.Laws.MakeOwn
import Derived.Laws.Rows
namespace Go.Proofs.YtdgnefcpeocbjaaGreatDoor
open Go.RowKit
set_option linter.unusedVariables false
set_option linter.unusedSimpArgs false

theorem okLeaf_parts {k : Int} {t x : List UInt8} {p : List (List UInt8)} {m : Nat} (h : okLeaf k t x p m = true) : (k = 5 → 2 ≤ p.length) ∧ p.length ≤ 8 ∧ (∀ y ∈ p, y.length ≤ 100) ∧ x.length ≤ 100 := by
  unfold okLeaf at h
  simp only [Bool.and_eq_true] at h
  obtain ⟨_, h⟩ := h
  split at h
  · rename_i hk
    simp only [Bool.and_eq_true, decide_eq_true_eq, List.isEmpty_iff] at h
    obtain ⟨h1, rfl⟩ := h
    exact ⟨fun e => by omega, by simp, by simp, h1⟩
  · split at h
    · simp only [Bool.and_eq_true, List.isEmpty_iff] at h
      obtain ⟨rfl, h1⟩ := h
      obtain ⟨⟨h2, h3⟩, h4, _⟩ := (okParts_iff p).1 h1
      exact ⟨fun _ => h2, h3, fun y hy => by obtain ⟨i, hi, rfl⟩ := List.getElem_of_mem hy; exact (h4 i hi).1, by simp⟩
    · split at h
      · rename_i h5 _
        simp only [Bool.and_eq_true, List.isEmpty_iff] at h
        obtain ⟨rfl, rfl⟩ := h
        exact ⟨fun e => absurd e h5, by simp, by simp, by simp⟩
      · cases h
theorem mayEv_kids {d : Nat} {k : Int} {t x : List UInt8} {p : List (List UInt8)} {l : List FT} (h : mayF (d + 1) (.mk k t x p l) = true) (hk : holdsC k = true) : l.all (mayF d) = true ∧ l.length ≤ 40 ∧ (k = 3 → l.length = 1) := by
  rw [mayFl_hold hk] at h
  simp only [Bool.and_eq_true] at h
  obtain ⟨⟨_, hc⟩, ha⟩ := h
  refine ⟨ha, ?_, ?_⟩
  · unfold kidsC at hc
    split at hc <;> simp at hc <;> omega
  · intro h3
    unfold kidsC at hc
    rw [if_pos h3] at hc
    simpa using hc
theorem mayEv_leaf {d : Nat} {k : Int} {t x : List UInt8} {p : List (List UInt8)} {l : List FT} (h : mayF (d + 1) (.mk k t x p l) = true) (hk : ¬ holdsC k = true) : okLeaf k t x p l.length = true := by
  have h' : (if holdsC k then t.isEmpty && x.isEmpty && p.isEmpty && kidsC k l.length && l.all (mayF d) else okLeaf k t x p l.length) = true := h
  rwa [if_neg hk] at h'
set_option maxRecDepth 100000 in
set_option maxHeartbeats 8000000 in
theorem truth_all : ∀ d : Nat, TruthIs d := by
  intro d
  induction d with
  | zero => intro f v L D va vn vc w hm; cases f; cases hm
  | succ d ih =>
    intro f v L D va vn vc w hm h hs hw hx hA
    obtain ⟨k, t, x, p, l⟩ := f
    obtain ⟨pa, pc, ka, kc, rfl, hwf, ht, hxl, hp, hl, hkids⟩ := h.parts
    obtain ⟨T, hT, hTl⟩ := strV_text t
    obtain ⟨X, hX, hXl⟩ := strV_text x
    rw [hT, hX]
    obtain ⟨n, hn⟩ : ∃ n, n = l.length := ⟨_, rfl⟩
    obtain ⟨m, hmm⟩ : ∃ m, m = p.length := ⟨_, rfl⟩
    rw [← hn, ← hmm]
    obtain ⟨W0, hW0⟩ : ∃ W, W = w.alloc (.cells #[.int .i64 k, .string T, .string X, .slice pa m pc, .slice ka n kc] 25) := ⟨_, rfl⟩
    obtain ⟨W1, hW1⟩ : ∃ W, W = W0.alloc (.cells #[.string D, .slice va vn vc] 28) := ⟨_, rfl⟩
    have hb0 : Below w.heap.size w W0 := by rw [hW0]; exact box5 w _ _ _ _ _
    have hb01 : Below W0.heap.size W0 W1 := by rw [hW1]; exact (Below.refl _ _).alloc (Nat.le_refl _) _
    have hb1 : Below w.heap.size w W1 := bthen hb0 hb01
    have hf0 : FlAt W0 w.heap.size (.int .i64 k) (.string T) (.string X) (.slice pa m pc) (.slice ka n kc) := by rw [hW0]; exact heap_alloc_new w _
    have hf : FlAt W1 w.heap.size (.int .i64 k) (.string T) (.string X) (.slice pa m pc) (.slice ka n kc) := fl_below hf0 hb01 (fl_lt hf0)
    obtain ⟨eb, heb⟩ : ∃ b, b = w.heap.size + 1 := ⟨_, rfl⟩
    have hsz : W0.heap.size = eb := by rw [heb, hW0]; simp only [World.alloc, Array.size_push]
    have he : EnAt W1 eb D (.slice va vn vc) := by rw [← hsz, hW1]; exact heap_alloc_new W0 _
    have HW0 := Lib.hid hW0.symm
    have HW1 := Lib.hid hW1.symm
    have HEb := Lib.hid heb.symm
    have HB1 := Lib.hid hb1
    have hw1 := hw.below hb1
    have hx1 := hx.below hb1
    have hA1 : IsA W1.heap.size W1 L (.slice va vn vc) := hA.below hb1 hb1.size
    have hk1 : IsFls (Lt W1) W1 l ka 0 := hkids.below hb1
    have hp1 : IsTo (Lt W1) W1 p (.slice pa m pc) := by rw [hmm]; exact hp.imp (fun b h => Nat.lt_of_lt_of_le h hb1.size) (fun b o h => hb1.cell (p := ⟨b, o, none⟩) h)
    obtain ⟨d0, d1, d2, d3, d4⟩ := fl_cells hf
    obtain ⟨e0, e1⟩ := en_cells he
    obtain ⟨R, hR⟩ : ∃ R, R = evF L (.mk k t x p l) := ⟨_, rfl⟩
    rw [← hR]
    rw [evF] at hR
    by_cases k1 : k = 1
    · have t1 : ((k : Int) == 1) = true := by simp [k1]
      obtain ⟨ha, h40, _⟩ := mayEv_kids hm (by rw [k1]; rfl)
      have hta := tallied_any d ih l ha (by omega) L D ka va n kc vn vc hn hs W1 hw1 hx1 hk1 hA1
      have HR2 : Hid (R = firstE 0 2 1 (evFs L l)) := Lib.hid (by rw [hR, if_pos k1])
      have hfi : ∀ (W : World) (b c0 c1 c2 : Nat), TaAt W b c0 c1 c2 → CntAt (evFs L l) c0 c1 c2 → Calls Tryz.prog 34 #[.pointer (some ⟨b, 0, none⟩), .int .i64 0, .int .i64 2, .int .i64 1] W fun e w' => e = .returned (.int .i64 (R : Nat)) ∧ Below W.heap.size W w' := fun W b c0 c1 c2 hTA hC => by
        have hh := firstEv_any b c0 c1 c2 0 2 1 (by omega) (by omega) W hTA
        rw [cnt_first hC 0 2 1 (by omega) (by omega), ← HR2.out] at hh
        exact hh
      have HTa := Lib.hid hta
      have HFi := Lib.hid hfi
      clear hW0 hW1 hb0 hb01 hb1 hf0 hf heb hsz he hR hs hw hx hp h hp1 hA hA1 hw1 hx1 hk1 hkids hm ha h40 hta hfi hT hX hTl hXl hn hmm ht hxl hl ih k1 hwf
      go_enter Tryz.func25, Tryz.ntmps25
      go_upto_region 1 with (fail)
      rw [HW0.out, HW1.out, HEb.out]
      go_wp2_with (first
        | (go_at_call 33; refine (HTa.out).mono ?_; rintro e w2 ⟨c0, c1, c2, rfl, hta, hcn⟩; have HTA := Lib.hid hta; have HCn := Lib.hid hcn; clear hta hcn)
        | (go_at_call 34; refine (HFi.out _ _ c0 c1 c2 HTA.out.ta HCn.out).mono ?_; rintro e w3 ⟨rfl, hb3⟩; have HB3 := Lib.hid (bthen (bthen HB1.out HTA.out.bel) hb3); clear hb3))
      go_ret
      exact ⟨rfl, HB3.out⟩
    · have t1 : ((k : Int) == 1) = false := by simp; omega
      by_cases k2 : k = 2
      · have t2 : ((k : Int) == 2) = true := by simp [k2]
        obtain ⟨ha, h40, _⟩ := mayEv_kids hm (by rw [k2]; rfl)
        have hta := tallied_any d ih l ha (by omega) L D ka va n kc vn vc hn hs W1 hw1 hx1 hk1 hA1
        have HR2 : Hid (R = firstE 1 2 0 (evFs L l)) := Lib.hid (by rw [hR, if_neg k1, if_pos k2])
        have hfi : ∀ (W : World) (b c0 c1 c2 : Nat), TaAt W b c0 c1 c2 → CntAt (evFs L l) c0 c1 c2 → Calls Tryz.prog 34 #[.pointer (some ⟨b, 0, none⟩), .int .i64 1, .int .i64 2, .int .i64 0] W fun e w' => e = .returned (.int .i64 (R : Nat)) ∧ Below W.heap.size W w' := fun W b c0 c1 c2 hTA hC => by
          have hh := firstEv_any b c0 c1 c2 1 2 0 (by omega) (by omega) W hTA
          rw [cnt_first hC 1 2 0 (by omega) (by omega), ← HR2.out] at hh
          exact hh
        have HTa := Lib.hid hta
        have HFi := Lib.hid hfi
        clear hW0 hW1 hb0 hb01 hb1 hf0 hf heb hsz he hR hs hw hx hp h hp1 hA hA1 hw1 hx1 hk1 hkids hm ha h40 hta hfi hT hX hTl hXl hn hmm ht hxl hl ih k1 k2 hwf
        go_enter Tryz.func25, Tryz.ntmps25
        go_upto_region 1 with (fail)
        rw [HW0.out, HW1.out, HEb.out]
        go_wp2_with (first
          | (go_at_call 33; refine (HTa.out).mono ?_; rintro e w2 ⟨c0, c1, c2, rfl, hta, hcn⟩; have HTA := Lib.hid hta; have HCn := Lib.hid hcn; clear hta hcn)
          | (go_at_call 34; refine (HFi.out _ _ c0 c1 c2 HTA.out.ta HCn.out).mono ?_; rintro e w3 ⟨rfl, hb3⟩; have HB3 := Lib.hid (bthen (bthen HB1.out HTA.out.bel) hb3); clear hb3))
        go_ret
        exact ⟨rfl, HB3.out⟩
      · have t2 : ((k : Int) == 2) = false := by simp; omega
        by_cases k3 : k = 3
        · have t3 : ((k : Int) == 3) = true := by simp [k3]
          obtain ⟨ha, _, hl1⟩ := mayEv_kids hm (by rw [k3]; rfl)
          obtain ⟨g, rfl⟩ : ∃ g, l = [g] := List.length_eq_one_iff.1 (hl1 k3)
          obtain rfl : n = 1 := by rw [hn]; rfl
          obtain ⟨b, off, v0, v1, v2, v3, v4, rfl, hb, q0, q1, q2, q3, q4, hg⟩ := hk1.get [g] _ 0 0 g rfl
          rw [show off + (0 + 0) * 5 = off from by omega] at q0 q1 q2 q3 q4
          obtain ⟨k', T', X', pa', pn', pc', ka', kn', kc', e⟩ := hg.shape
          simp only [Value.agg.injEq, Array.mk.injEq, List.cons.injEq, and_true] at e
          obtain ⟨rfl, rfl, rfl, rfl, rfl⟩ := e
          have hgm : mayF d g = true := by simpa using ha
          have hr := evF_lt L g
          obtain ⟨r, hrr⟩ : ∃ r, r = evF L g := ⟨_, rfl⟩
          have hcall : ∀ W, SamB W1 W → Calls Tryz.prog 25 #[.agg #[.int .i64 k', .string T', .string X', .slice pa' pn' pc', .slice ka' kn' kc'], .agg #[.string D, .slice va vn vc]] W fun e w' => e = .returned (.int .i64 (r : Int)) ∧ Below W.heap.size W w' := fun W hW => by
            rw [hrr]
            exact ih g _ L D va vn vc W hgm (hg.below hW) hs (hw1.below hW) (hx1.below hW) (hA1.below hW (Below.size hW))
          have hnot : ∀ W, SamB W1 W → Calls Tryz.prog 35 #[.int .i64 (r : Int)] W fun e w' => e = .returned (.int .i64 (flipE r : Nat)) ∧ Below W.heap.size W w' := fun W _ => (notEv_any r (by rw [hrr]; exact hr) W).mono (fun e w' h => ⟨h.1, by rw [← h.2]; exact Below.refl _ _⟩)
          have hE : ∀ W, SamB W1 W → W.cell? ⟨w.heap.size, 4, none⟩ = some (.slice (some ⟨b, off, none⟩) 1 kc) ∧ W.cell? ⟨eb, 0, none⟩ = some (.string D) ∧ W.cell? ⟨eb, 1, none⟩ = some (.slice va vn vc) ∧ W.cell? ⟨b, off, none⟩ = some (.int .i64 k') ∧ W.cell? ⟨b, off + 1, none⟩ = some (.string T') ∧ W.cell? ⟨b, off + 2, none⟩ = some (.string X') ∧ W.cell? ⟨b, off + 3, none⟩ = some (.slice pa' pn' pc') ∧ W.cell? ⟨b, off + 4, none⟩ = some (.slice ka' kn' kc') ∧ SamB W1 W := fun W hW => by
            have a4 := (fl_cells (fl_below hf hW (fl_lt hf))).2.2.2.2
            obtain ⟨z0, z1⟩ := en_cells (en_below he hW (en_lt he))
            exact ⟨a4, z0, z1, (Below.cell hW (p := ⟨b, off, none⟩) hb).trans q0, (Below.cell hW (p := ⟨b, off + 1, none⟩) hb).trans q1, (Below.cell hW (p := ⟨b, off + 2, none⟩) hb).trans q2, (Below.cell hW (p := ⟨b, off + 3, none⟩) hb).trans q3, (Below.cell hW (p := ⟨b, off + 4, none⟩) hb).trans q4, hW⟩
          have HE := Lib.hid hE
          have HCl := Lib.hid hcall
          have HNt := Lib.hid hnot
          have HR2 : Hid (R = flipE r) := Lib.hid (by rw [hR, if_neg k1, if_neg k2, if_pos k3, hrr]; rfl)
          have hst5 := hE W1 (Below.refl _ _)
          have hst6 := hE W1.drew (Below.drew (Below.refl _ _))
          clear hW0 hW1 hb0 hb01 hb1 hf0 hf heb hsz he hR hs hw hx hp h hp1 hA hA1 hw1 hx1 hk1 hkids hm ha hl1 hT hX hTl hXl hn hmm ht hxl hl ih k1 k2 k3 hwf hE hcall hnot hgm hr hrr hg hb
          go_enter Tryz.func25, Tryz.ntmps25
          go_upto_region 1 with (fail)
          rw [HW0.out, HW1.out, HEb.out]
          go_upto_region 7 with (fail)
          go_region_held3 (fun W => W.cell? ⟨w.heap.size, 4, none⟩ = some (.slice (some ⟨b, off, none⟩) 1 kc) ∧ W.cell? ⟨eb, 0, none⟩ = some (.string D) ∧ W.cell? ⟨eb, 1, none⟩ = some (.slice va vn vc) ∧ W.cell? ⟨b, off, none⟩ = some (.int .i64 k') ∧ W.cell? ⟨b, off + 1, none⟩ = some (.string T') ∧ W.cell? ⟨b, off + 2, none⟩ = some (.string X') ∧ W.cell? ⟨b, off + 3, none⟩ = some (.slice pa' pn' pc') ∧ W.cell? ⟨b, off + 4, none⟩ = some (.slice ka' kn' kc') ∧ SamB W1 W)
            (first | (with_reducible exact hst5) | (with_reducible exact hst6) | (go_split_ands; exact HE.out _ (SamB.go (by assumption) hbx)))
            (first
              | (go_at_call 25; go_split_ands; (with_reducible refine (HCl.out _ (by assumption)).mono ?_); rintro e wx ⟨rfl, hbx⟩)
              | (go_at_call 35; go_split_ands; (with_reducible refine (HNt.out _ (by assumption)).mono ?_); rintro e wy ⟨rfl, hbx⟩))
          all_goals
            go_split_ands
            have hT : SamB W1 wy := by assumption
            go_wp2
            go_ret
            exact ⟨by rw [HR2.out]; rfl, bthen HB1.out hT⟩
        · have t3 : ((k : Int) == 3) = false := by simp; omega
          have hnh : ¬ holdsC k = true := by unfold holdsC; simp [k1, k2, k3]
          obtain ⟨h5, h8, hpl, hx100⟩ := okLeaf_parts (mayEv_leaf hm hnh)
          have hlf := leafEv_any k T X D p L pa ka va m pc n kc vn vc (by rw [← bytes_len, hXl]; omega) hmm h5 (by omega) (fun y hy => by have := hpl y hy; omega) hs W1 hw1 hx1 hp1 hA1
          rw [hTl, hXl] at hlf
          have HLf := Lib.hid hlf
          have HR2 : Hid (leafE L k t x p = R) := Lib.hid (by rw [hR, if_neg k1, if_neg k2, if_neg k3])
          rw [HR2.out] at HLf
          clear hW0 hW1 hb0 hb01 hb1 hf0 hf heb hsz he hR hs hw hx hp h hp1 hA hA1 hw1 hx1 hk1 hkids hm hT hX hTl hXl hn hmm ht hxl hl ih k1 k2 k3 hwf h5 h8 hpl hx100 hlf hnh
          go_enter Tryz.func25, Tryz.ntmps25
          go_upto_region 1 with (fail)
          rw [HW0.out, HW1.out, HEb.out]
          go_wp2_with (go_at_call 36; refine (HLf.out).mono ?_; rintro e w2 ⟨rfl, hb2⟩; have HB2 := Lib.hid (bthen HB1.out hb2); clear hb2)
          go_ret
          exact ⟨rfl, HB2.out⟩
set_option maxRecDepth 100000 in
set_option maxHeartbeats 4000000 in
theorem evalP_any (f : FT) (v : Value) (L : List AT) (D : ByteArray) (va : Option Addr) (vn vc : Nat) (w : World) (h : IsFl (Lt w) w f v) (hs : smallA L) (hw : LaidW w) (hx : LaidX w) (hA : IsA w.heap.size w L (.slice va vn vc)) :
    Calls Tryz.prog 12 #[v, .agg #[.string D, .slice va vn vc]] w fun e w' => e = .returned (.int .i64 (evalD L f : Nat)) ∧ Below w.heap.size w w' := by
  obtain ⟨k, T, X, pa, m, pc, ka, n, kc, rfl⟩ := h.shape
  obtain ⟨W0, hW0⟩ : ∃ W, W = w.alloc (.cells #[.int .i64 k, .string T, .string X, .slice pa m pc, .slice ka n kc] 25) := ⟨_, rfl⟩
  obtain ⟨W1, hW1⟩ : ∃ W, W = W0.alloc (.cells #[.string D, .slice va vn vc] 28) := ⟨_, rfl⟩
  have hb0 : Below w.heap.size w W0 := by rw [hW0]; exact box5 w _ _ _ _ _
  have hb01 : Below W0.heap.size W0 W1 := by rw [hW1]; exact (Below.refl _ _).alloc (Nat.le_refl _) _
  have hb1 : Below w.heap.size w W1 := bthen hb0 hb01
  have hf0 : FlAt W0 w.heap.size (.int .i64 k) (.string T) (.string X) (.slice pa m pc) (.slice ka n kc) := by rw [hW0]; exact heap_alloc_new w _
  have hf : FlAt W1 w.heap.size (.int .i64 k) (.string T) (.string X) (.slice pa m pc) (.slice ka n kc) := fl_below hf0 hb01 (fl_lt hf0)
  obtain ⟨eb, heb⟩ : ∃ b, b = w.heap.size + 1 := ⟨_, rfl⟩
  have hsz : W0.heap.size = eb := by rw [heb, hW0]; simp only [World.alloc, Array.size_push]
  have he : EnAt W1 eb D (.slice va vn vc) := by rw [← hsz, hW1]; exact heap_alloc_new W0 _
  have HW0 := Lib.hid hW0.symm
  have HW1 := Lib.hid hW1.symm
  have HEb := Lib.hid heb.symm
  have HB1 := Lib.hid hb1
  have hfl1 : IsFl (Lt W1) W1 f (.agg #[.int .i64 k, .string T, .string X, .slice pa m pc, .slice ka n kc]) := h.below hb1
  have hmy := mayTop_any f _ W1 hfl1
  obtain ⟨q, hq⟩ : ∃ q, q = mayF 13 f := ⟨_, rfl⟩
  rw [← hq] at hmy
  have HMy := Lib.hid hmy
  have HTr := Lib.hid (fun (hm : mayF 13 f = true) (W : World) (hW : Below W1.heap.size W1 W) => truth_all 13 f _ L D va vn vc W hm (hfl1.below hW) hs (hw.below (bthen hb1 hW)) (hx.below (bthen hb1 hW)) (hA.below (bthen hb1 hW) (bthen hb1 hW).size))
  have HFl := Lib.hid hf
  have HEn := Lib.hid he
  obtain ⟨d0, d1, d2, d3, d4⟩ := fl_cells hf
  obtain ⟨R, hR⟩ : ∃ R, R = evalD L f := ⟨_, rfl⟩
  rw [← hR]
  unfold evalD at hR
  rw [← hq] at hR
  have HR := Lib.hid hR
  have HQ := Lib.hid hq
  clear hW0 hW1 hb0 hb01 hb1 hf0 hf heb hsz he hfl1 hmy hq hR h hs hw hx hA
  cases q with
  | false =>
    go_enter Tryz.func12, Tryz.ntmps12
    go_upto_region 1 with (fail)
    rw [HW0.out, HW1.out, HEb.out]
    go_wp2_with (go_at_call 24; refine (HMy.out).mono ?_; rintro e w2 ⟨rfl, hb2⟩; have HB2 := Lib.hid (bthen HB1.out hb2); clear hb2)
    go_ret
    exact ⟨by rw [HR.out]; rfl, HB2.out⟩
  | true =>
    have HR2 : Hid (evF L f = R) := Lib.hid (by rw [HR.out, if_pos rfl])
    go_enter Tryz.func12, Tryz.ntmps12
    go_upto_region 1 with (fail)
    rw [HW0.out, HW1.out, HEb.out]
    go_wp2_with (first
      | (go_at_call 24; refine (HMy.out).mono ?_; rintro e w2 ⟨rfl, hb2⟩; have HX2 := Lib.hid hb2; have HB2 := Lib.hid (bthen HB1.out hb2); (obtain ⟨g0, g1, g2, g3, g4⟩ := fl_cells (fl_below HFl.out hb2 (fl_lt HFl.out))); (obtain ⟨e0, e1⟩ := en_cells (en_below HEn.out hb2 (en_lt HEn.out))); clear hb2)
      | (go_at_call 25; refine (HTr.out HQ.out.symm _ HX2.out).mono ?_; rintro e w3 ⟨rfl, hb3⟩; have HB3 := Lib.hid (bthen HB2.out hb3); clear hb3))
    go_ret
    exact ⟨by rw [← HR2.out]; rfl, HB3.out⟩
end Go.Proofs.YtdgnefcpeocbjaaGreatDoor


namespace Go.Proofs.YtdgnefcpeocbjaaGreatDoor
open Go.RowKit
set_option linter.unusedVariables false
set_option linter.unusedSimpArgs false

theorem okTypeR_len {t : List UInt8} (h : okType t = true) : t.length ≤ 30 := by
  unfold okType at h
  simp only [Bool.and_eq_true, decide_eq_true_eq] at h
  exact h.1.1.2
theorem okLeafR_kind {k : Int} {t x : List UInt8} {p : List (List UInt8)} {m : Nat} (h : okLeaf k t x p m = true) : (k = 4 ∨ k = 6 ∨ k = 7) ∨ (k = 5 ∧ okParts p = true) ∨ k = 8 := by
  unfold okLeaf at h
  simp only [Bool.and_eq_true] at h
  obtain ⟨_, h⟩ := h
  split at h
  · rename_i hk; exact .inl hk
  · split at h
    · rename_i h5
      simp only [Bool.and_eq_true] at h
      exact .inr (.inl ⟨h5, h.2⟩)
    · split at h
      · rename_i h8; exact .inr (.inr h8)
      · cases h
set_option maxHeartbeats 4000000 in
theorem evR_all : ∀ d : Nat, EvRIs d := by
  intro d
  induction d with
  | zero => intro f v L D va vn vc w hm; cases f; cases hm
  | succ d ih =>
    intro f v L D va vn vc w hm h hs hA
    obtain ⟨k, t, x, p, l⟩ := f
    obtain ⟨pa, pc, ka, kc, rfl, hwf, ht, hxl, hp, hl, hkids⟩ := h.parts
    obtain ⟨T, hT, hTl⟩ := strV_text t
    obtain ⟨X, hX, hXl⟩ := strV_text x
    rw [hT, hX]
    obtain ⟨n, hn⟩ : ∃ n, n = l.length := ⟨_, rfl⟩
    obtain ⟨m, hmm⟩ : ∃ m, m = p.length := ⟨_, rfl⟩
    rw [← hn, ← hmm, evF]
    by_cases k1 : k = 1
    · obtain ⟨ha, h40, _⟩ := mayEv_kids hm (by rw [k1]; rfl)
      rw [if_pos k1]
      exact kids1R_any d ih k T X D l L pa ka va n m pc kc vn vc hn (by omega) hs w hA ha hkids k1
    · rw [if_neg k1]
      by_cases k2 : k = 2
      · obtain ⟨ha, h40, _⟩ := mayEv_kids hm (by rw [k2]; rfl)
        rw [if_pos k2]
        exact kids2R_any d ih k T X D l L pa ka va n m pc kc vn vc hn (by omega) hs w hA ha hkids k2
      · rw [if_neg k2]
        by_cases k3 : k = 3
        · obtain ⟨ha, h40, hl1⟩ := mayEv_kids hm (by rw [k3]; rfl)
          rw [if_pos k3]
          exact notR_any d ih k T X D l L pa ka va n m pc kc vn vc hn (by omega) hs w hA ha hkids k3 (by rw [hn]; exact hl1 k3)
        · rw [if_neg k3]
          have hnh : ¬ holdsC k = true := by unfold holdsC; simp [k1, k2, k3]
          have hlf := mayEv_leaf hm hnh
          have hT30 := okTypeR_len (okLeaf_type hlf).1
          obtain ⟨h5, h8, hpl, hx100⟩ := okLeaf_parts hlf
          have hTs : T.size ≤ 1000000 := by rw [← bytes_len, hTl]; omega
          have hXs : X.size ≤ 1000000 := by rw [← bytes_len, hXl]; omega
          rw [← hTl, ← hXl]
          by_cases h0 : ruleD T.data.toList = 0
          · exact zeroR_any k T X D p L pa ka va m pc n kc vn vc hTs hXs hs w hA ⟨k1, k2, k3⟩ h0
          · rcases okLeafR_kind hlf with (hk | hk | hk) | ⟨hk, hpp⟩ | hk
            · exact eqR_any k T X D p L pa ka va m pc n kc vn vc hTs hXs hs w hA hk h0
            · exact ord6R_any k T X D p L pa ka va m pc n kc vn vc hTs hXs hs w hA hk h0
            · exact ord7R_any k T X D p L pa ka va m pc n kc vn vc hTs hXs hs w hA hk h0
            · obtain ⟨⟨p1, p2⟩, p3, _⟩ := (okParts_iff p).1 hpp
              exact subR_any k T X D p L pa ka va m pc n kc vn vc hTs hXs hs w hA hmm (by omega) (by omega) (fun y hy => by have := hpl y hy; omega) (fun i hi => (p3 i hi).2) (by rw [hmm]; exact hp) hk h0
            · exact hasR_any k T X D p L pa ka va m pc n kc vn vc hTs hXs hs w hA hk h0
set_option maxRecDepth 100000 in
set_option maxHeartbeats 4000000 in
theorem evalR_any (f : FT) (v : Value) (L : List AT) (D : ByteArray) (va : Option Addr) (vn vc : Nat) (w : World) (h : IsFl (Lt w) w f v) (hs : smallA L) (hA : IsA w.heap.size w L (.slice va vn vc)) :
    Calls Tryz.prog 13 #[v, .agg #[.string D, .slice va vn vc]] w fun e w' => e = .returned (.int .i64 (evalD L f : Nat)) ∧ Below w.heap.size w w' := by
  obtain ⟨k, T, X, pa, m, pc, ka, n, kc, rfl⟩ := h.shape
  obtain ⟨W0, hW0⟩ : ∃ W, W = w.alloc (.cells #[.int .i64 k, .string T, .string X, .slice pa m pc, .slice ka n kc] 25) := ⟨_, rfl⟩
  obtain ⟨W1, hW1⟩ : ∃ W, W = W0.alloc (.cells #[.string D, .slice va vn vc] 28) := ⟨_, rfl⟩
  have hb0 : Below w.heap.size w W0 := by rw [hW0]; exact box5 w _ _ _ _ _
  have hb01 : Below W0.heap.size W0 W1 := by rw [hW1]; exact (Below.refl _ _).alloc (Nat.le_refl _) _
  have hb1 : Below w.heap.size w W1 := bthen hb0 hb01
  have hf0 : FlAt W0 w.heap.size (.int .i64 k) (.string T) (.string X) (.slice pa m pc) (.slice ka n kc) := by rw [hW0]; exact heap_alloc_new w _
  have hf : FlAt W1 w.heap.size (.int .i64 k) (.string T) (.string X) (.slice pa m pc) (.slice ka n kc) := fl_below hf0 hb01 (fl_lt hf0)
  obtain ⟨eb, heb⟩ : ∃ b, b = w.heap.size + 1 := ⟨_, rfl⟩
  have hsz : W0.heap.size = eb := by rw [heb, hW0]; simp only [World.alloc, Array.size_push]
  have he : EnAt W1 eb D (.slice va vn vc) := by rw [← hsz, hW1]; exact heap_alloc_new W0 _
  have HW0 := Lib.hid hW0.symm
  have HW1 := Lib.hid hW1.symm
  have HEb := Lib.hid heb.symm
  have HB1 := Lib.hid hb1
  have hfl1 : IsFl (Lt W1) W1 f (.agg #[.int .i64 k, .string T, .string X, .slice pa m pc, .slice ka n kc]) := h.below hb1
  have hmy := mayFilter_any f _ W1 hfl1
  obtain ⟨q, hq⟩ : ∃ q, q = mayF 13 f := ⟨_, rfl⟩
  rw [← hq] at hmy
  have HMy := Lib.hid hmy
  have HTr := Lib.hid (fun (hm : mayF 13 f = true) (W : World) (hW : Below W1.heap.size W1 W) => evR_all 13 f _ L D va vn vc W hm (hfl1.below hW) hs (hA.below (bthen hb1 hW) (bthen hb1 hW).size))
  have HFl := Lib.hid hf
  have HEn := Lib.hid he
  obtain ⟨d0, d1, d2, d3, d4⟩ := fl_cells hf
  obtain ⟨R, hR⟩ : ∃ R, R = evalD L f := ⟨_, rfl⟩
  rw [← hR]
  unfold evalD at hR
  rw [← hq] at hR
  have HR := Lib.hid hR
  have HQ := Lib.hid hq
  clear hW0 hW1 hb0 hb01 hb1 hf0 hf heb hsz he hfl1 hmy hq hR h hs hA
  cases q with
  | false =>
    go_enter Tryz.func13, Tryz.ntmps13
    go_upto_region 1 with (fail)
    rw [HW0.out, HW1.out, HEb.out]
    go_wp2_with (go_at_call 18; refine (HMy.out).mono ?_; rintro e w2 ⟨rfl, hb2⟩; have HB2 := Lib.hid (bthen HB1.out hb2); clear hb2)
    go_ret
    exact ⟨by rw [HR.out]; rfl, HB2.out⟩
  | true =>
    have HR2 : Hid (evF L f = R) := Lib.hid (by rw [HR.out, if_pos rfl])
    go_enter Tryz.func13, Tryz.ntmps13
    go_upto_region 1 with (fail)
    rw [HW0.out, HW1.out, HEb.out]
    go_wp2_with (first
      | (go_at_call 18; refine (HMy.out).mono ?_; rintro e w2 ⟨rfl, hb2⟩; have HX2 := Lib.hid hb2; have HB2 := Lib.hid (bthen HB1.out hb2); (obtain ⟨g0, g1, g2, g3, g4⟩ := fl_cells (fl_below HFl.out hb2 (fl_lt HFl.out))); (obtain ⟨e0, e1⟩ := en_cells (en_below HEn.out hb2 (en_lt HEn.out))); clear hb2)
      | (go_at_call 26; refine (HTr.out HQ.out.symm _ HX2.out).mono ?_; rintro e w3 ⟨rfl, hb3⟩; have HB3 := Lib.hid (bthen HB2.out hb3); clear hb3))
    go_ret
    exact ⟨by rw [← HR2.out]; rfl, HB3.out⟩
end Go.Proofs.YtdgnefcpeocbjaaGreatDoor


namespace Go.Proofs.YtdgnefcpeocbjaaGreatDoor
open Go.RowKit
set_option linter.unusedVariables false

def perL (n : List UInt8) : List AT := [([99, 110], [n]), ([111, 98, 106, 101, 99, 116, 99, 108, 97, 115, 115], [[112, 101, 114, 115, 111, 110]]), ([115, 110], [[115]])]
def perD (n : List UInt8) : List UInt8 := [99, 110, 61] ++ n ++ [44, 111, 61, 120]

structure PerAt (w : World) (g : Nat) (N : ByteArray) : Prop where
  b1 : w.heap[g - 3]? = some (.cells #[.string N] 9 (0, 0))
  b2 : w.heap[g - 2]? = some (.cells #[.string ⟨#[112, 101, 114, 115, 111, 110]⟩] 9 (0, 0))
  b3 : w.heap[g - 1]? = some (.cells #[.string ⟨#[115]⟩] 9 (0, 0))
  b4 : w.heap[g]? = some (.cells #[.string ⟨#[99, 110]⟩, .slice (some ⟨g - 3, 0, none⟩) 1 1, .string ⟨#[111, 98, 106, 101, 99, 116, 99, 108, 97, 115, 115]⟩, .slice (some ⟨g - 2, 0, none⟩) 1 1, .string ⟨#[115, 110]⟩, .slice (some ⟨g - 1, 0, none⟩) 1 1] 45 (0, 0))
  lt : g < w.heap.size
theorem PerAt.below {w w' : World} {g n : Nat} {N : ByteArray} (h : PerAt w g N) (hb : Below n w w') (hn : g < n) : PerAt w' g N :=
  ⟨(hb.block _ (by omega)).trans h.b1, (hb.block _ (by omega)).trans h.b2, (hb.block _ (by omega)).trans h.b3, (hb.block _ hn).trans h.b4, Nat.lt_of_lt_of_le h.lt hb.size⟩
theorem isT_block {w : World} {b n0 : Nat} {X : ByteArray} {e : TypeId} (h : w.heap[b]? = some (.cells #[.string X] e (0, 0))) (hn : b < n0) : IsT n0 w [X.data.toList] (.slice (some ⟨b, 0, none⟩) 1 1) :=
  ⟨_, _, rfl, by unfold maxLen; simp, fun j hj => by
    have : j = 0 := by simp at hj; omega
    subst this
    refine ⟨b, 0, rfl, hn, ?_⟩
    rw [show [X.data.toList][0] = X.data.toList from rfl, strV_whole]
    simp only [World.cell?, h]; rfl⟩
theorem PerAt.isA {w : World} {g : Nat} {N : ByteArray} (h : PerAt w g N) : IsA w.heap.size w (perL N.data.toList) (.slice (some ⟨g, 0, none⟩) 3 3) := by
  have hg := h.lt
  refine ⟨_, _, rfl, by unfold maxLen perL; simp, fun j hj => ?_⟩
  match j, hj with
  | 0, _ => exact ⟨g, 0, _, rfl, hg, by simp only [World.cell?, h.b4]; rfl, by simp only [World.cell?, h.b4]; rfl, isT_block h.b1 (by omega)⟩
  | 1, _ => exact ⟨g, 0, _, rfl, hg, by simp only [World.cell?, h.b4]; rfl, by simp only [World.cell?, h.b4]; rfl, isT_block h.b2 (by omega)⟩
  | 2, _ => exact ⟨g, 0, _, rfl, hg, by simp only [World.cell?, h.b4]; rfl, by simp only [World.cell?, h.b4]; rfl, isT_block h.b3 (by omega)⟩

theorem PerAt.cells {w : World} {g : Nat} {N : ByteArray} (h : PerAt w g N) : w.cell? ⟨g, 2, none⟩ = some (.string ⟨#[111, 98, 106, 101, 99, 116, 99, 108, 97, 115, 115]⟩) ∧ w.cell? ⟨g, 3, none⟩ = some (.slice (some ⟨g - 2, 0, none⟩) 1 1) ∧ w.cell? ⟨g, 4, none⟩ = some (.string ⟨#[115, 110]⟩) ∧ w.cell? ⟨g, 5, none⟩ = some (.slice (some ⟨g - 1, 0, none⟩) 1 1) :=
  ⟨by simp only [World.cell?, h.b4]; rfl, by simp only [World.cell?, h.b4]; rfl, by simp only [World.cell?, h.b4]; rfl, by simp only [World.cell?, h.b4]; rfl⟩
theorem per_blocks (w : World) (N : ByteArray) (o : Obj) : PerAt (((((w.alloc o).alloc (.cells #[.string N] 9)).alloc (.cells #[.string ⟨#[112, 101, 114, 115, 111, 110]⟩] 9)).alloc (.cells #[.string ⟨#[115]⟩] 9)).alloc (.cells #[.string ⟨#[99, 110]⟩, .slice (some ⟨w.heap.size + 1, 0, none⟩) 1 1, .string ⟨#[111, 98, 106, 101, 99, 116, 99, 108, 97, 115, 115]⟩, .slice (some ⟨w.heap.size + 1 + 1, 0, none⟩) 1 1, .string ⟨#[115, 110]⟩, .slice (some ⟨w.heap.size + 1 + 1 + 1, 0, none⟩) 1 1] 45)) (w.heap.size + 4) N := by
  have s1 : (w.alloc o).heap.size = w.heap.size + 1 := by simp
  have e1 := heap_alloc_new (w.alloc o) (.cells #[.string N] 9)
  rw [s1] at e1
  generalize w.alloc o = W1 at s1 e1 ⊢
  have s2 : (W1.alloc (.cells #[.string N] 9)).heap.size = w.heap.size + 2 := by simp; omega
  have e2 := heap_alloc_new (W1.alloc (.cells #[.string N] 9)) (.cells #[.string ⟨#[112, 101, 114, 115, 111, 110]⟩] 9)
  rw [s2] at e2
  generalize W1.alloc (.cells #[.string N] 9) = W2 at s2 e1 e2 ⊢
  have s3 : (W2.alloc (.cells #[.string ⟨#[112, 101, 114, 115, 111, 110]⟩] 9)).heap.size = w.heap.size + 3 := by simp; omega
  have f1 := (heap_alloc_old W2 (.cells #[.string ⟨#[112, 101, 114, 115, 111, 110]⟩] 9) (show w.heap.size + 1 < W2.heap.size by omega)).trans e1
  have e3 := heap_alloc_new (W2.alloc (.cells #[.string ⟨#[112, 101, 114, 115, 111, 110]⟩] 9)) (.cells #[.string ⟨#[115]⟩] 9)
  rw [s3] at e3
  generalize W2.alloc (.cells #[.string ⟨#[112, 101, 114, 115, 111, 110]⟩] 9) = W3 at s3 e2 e3 f1 ⊢
  have s4 : (W3.alloc (.cells #[.string ⟨#[115]⟩] 9)).heap.size = w.heap.size + 4 := by simp; omega
  have g1 := (heap_alloc_old W3 (.cells #[.string ⟨#[115]⟩] 9) (show w.heap.size + 1 < W3.heap.size by omega)).trans f1
  have g2 := (heap_alloc_old W3 (.cells #[.string ⟨#[115]⟩] 9) (show w.heap.size + 2 < W3.heap.size by omega)).trans e2
  generalize W3.alloc (.cells #[.string ⟨#[115]⟩] 9) = W4 at s4 e3 g1 g2 ⊢
  generalize hO : Obj.cells #[.string ⟨#[99, 110]⟩, .slice (some ⟨w.heap.size + 1, 0, none⟩) 1 1, .string ⟨#[111, 98, 106, 101, 99, 116, 99, 108, 97, 115, 115]⟩, .slice (some ⟨w.heap.size + 1 + 1, 0, none⟩) 1 1, .string ⟨#[115, 110]⟩, .slice (some ⟨w.heap.size + 1 + 1 + 1, 0, none⟩) 1 1] 45 = O
  have e4 := heap_alloc_new W4 O
  rw [s4] at e4
  have k1 := (heap_alloc_old W4 O (show w.heap.size + 1 < W4.heap.size by omega)).trans g1
  have k2 := (heap_alloc_old W4 O (show w.heap.size + 2 < W4.heap.size by omega)).trans g2
  have k3 := (heap_alloc_old W4 O (show w.heap.size + 3 < W4.heap.size by omega)).trans e3
  exact ⟨k1, k2, k3, by rw [e4, ← hO]; rfl, by simp; omega⟩

set_option maxRecDepth 100000 in
set_option maxHeartbeats 4000000 in
theorem person_any (N : ByteArray) (hN : N.size ≤ 1000) (w : World) : Calls Tryz.prog 27 #[.string N] w fun e w' => ∃ D g, e = .returned (.agg #[.string D, .slice (some ⟨g, 0, none⟩) 3 3]) ∧ D.data.toList = perD N.data.toList ∧ PerAt w' g N ∧ w.heap.size + 4 = g ∧ Below w.heap.size w w' := by
  obtain ⟨T, hT⟩ : ∃ T, (⟨#[99, 110, 61]⟩ : ByteArray) ++ N = T := ⟨_, rfl⟩
  obtain ⟨D, hD⟩ : ∃ D, T ++ (⟨#[44, 111, 61, 120]⟩ : ByteArray) = D := ⟨_, rfl⟩
  have hTs : T.size = 3 + N.size := by rw [← hT, ← bytes_len, app_list, List.length_append, bytes_len, bytes_len]; rfl
  have hDl : D.data.toList = perD N.data.toList := by rw [← hD, ← hT, app_list, app_list]; rfl
  have q1 : 3 + N.size ≤ 9223372036854775807 := by omega
  have q2 : T.size + 4 ≤ 9223372036854775807 := by omega
  have HDl := Lib.hid hDl
  have HP := Lib.hid (fun o => per_blocks w N o)
  have HB := Lib.hid (fun o => ((((((Below.refl w.heap.size w).alloc (Nat.le_refl _) o).alloc (by simp) (.cells #[.string N] 9)).alloc (by simp; omega) (.cells #[.string ⟨#[112, 101, 114, 115, 111, 110]⟩] 9)).alloc (by simp; omega) (.cells #[.string ⟨#[115]⟩] 9)).alloc (by simp; omega) (.cells #[.string ⟨#[99, 110]⟩, .slice (some ⟨w.heap.size + 1, 0, none⟩) 1 1, .string ⟨#[111, 98, 106, 101, 99, 116, 99, 108, 97, 115, 115]⟩, .slice (some ⟨w.heap.size + 1 + 1, 0, none⟩) 1 1, .string ⟨#[115, 110]⟩, .slice (some ⟨w.heap.size + 1 + 1 + 1, 0, none⟩) 1 1] 45)))
  clear hTs hDl
  go_enter Tryz.func27, Tryz.ntmps27
  go_wp2
  refine bodyPost_ret (v := .agg #[.string D, .slice (some ⟨w.heap.size + 4, 0, none⟩) 3 3]) (by simp [results, Tryz.results27, go_sem]) rfl ⟨D, w.heap.size + 4, rfl, HDl.out, ?_, rfl, ?_⟩
  · exact HP.out _
  · exact HB.out _

end Go.Proofs.YtdgnefcpeocbjaaGreatDoor


namespace Go.Proofs.YtdgnefcpeocbjaaGreatDoor
set_option linter.unusedVariables false
set_option linter.unusedSimpArgs false

def numOk (c : UInt8) : Bool := !(c == 45 || (decide (48 ≤ c.toNat) && decide (c.toNat ≤ 57))) || (lowC c == c && decide (c.toNat ≠ 32))
def ordL (m : Int) : List AT := [([117, 105, 100, 110, 117, 109, 98, 101, 114], [Lib.itoa m]), ([99, 110], [99 :: Lib.itoa m])]
abbrev uidN : List UInt8 := [117, 105, 100, 78, 117, 109, 98, 101, 114]
def bN (b : Bool) : Nat := if b then 1 else 0
theorem awE_1 : evalD [] (.mk 1 [] [] [] []) = 1 := by decide +kernel
theorem awE_2 : evalD (perL [97, 110, 110]) (.mk 4 [99, 110] [65, 78, 78] [] []) = 1 := by decide +kernel
end Go.Proofs.YtdgnefcpeocbjaaGreatDoor


namespace Go.Proofs.YtdgnefcpeocbjaaGreatDoor
open Go.RowKit
set_option linter.unusedVariables false
set_option linter.unusedSimpArgs false

theorem isFl_leafE (ok : Nat → Prop) (w : World) (k : Int) (T X : ByteArray) (hk : (Lit.int .i64 k).wf = true) (hT : T.size ≤ 1000000) (hX : X.size ≤ 1000000) : IsFl ok w (.mk k T.data.toList X.data.toList [] []) (.agg #[.int .i64 k, .string T, .string X, .slice none 0 0, .slice none 0 0]) := by
  have hs : ∀ A : ByteArray, Value.string A = strV A.data.toList := fun A => congrArg Value.string (bytes_ext (ofL_list _).symm)
  rw [hs T, hs X]
  exact ⟨.slice none 0 0, none, 0, rfl, hk, by rw [bytes_len]; unfold maxLen; omega, by rw [bytes_len]; unfold maxLen; omega, ⟨none, 0, rfl, Nat.zero_le _, fun j h => absurd h (Nat.not_lt_zero _)⟩, Nat.zero_le _, trivial⟩
theorem per_small : smallA (perL [97, 110, 110]) := by
  refine ⟨by decide, fun a ha => ?_⟩
  simp only [perL, List.mem_cons, List.not_mem_nil, or_false] at ha
  rcases ha with rfl | rfl | rfl <;> exact ⟨by decide, by decide, fun s hs => by simp only [List.mem_singleton] at hs; subst hs; decide⟩
set_option maxRecDepth 100000 in
set_option maxHeartbeats 4000000 in
theorem awake7_any (w : World) (hw : LaidW w) (hx : LaidX w) : Calls Tryz.prog 14 #[] w fun e w' => e = .returned (.bool true) ∧ Below w.heap.size w w' := by
  have h1 := evalP_any (.mk 1 [] [] [] []) (.agg #[.int .i64 1, .string ⟨#[]⟩, .string ⟨#[]⟩, .slice none 0 0, .slice none 0 0]) [] ⟨#[]⟩ none 0 0 w (isFl_leafE _ _ 1 ⟨#[]⟩ ⟨#[]⟩ (by decide) (by decide) (by decide)) ⟨by simp, by simp⟩ hw hx (isA_nil _ _ _ _)
  rw [awE_1, show ((1 : Nat) : Int) = 1 from rfl] at h1
  have h2 := fun (W : World) (D : ByteArray) (g : Nat) (hW : LaidW W) (hX : LaidX W) (hA : IsA W.heap.size W (perL [97, 110, 110]) (.slice (some ⟨g, 0, none⟩) 3 3)) => evalP_any (.mk 4 [99, 110] [65, 78, 78] [] []) (.agg #[.int .i64 4, .string ⟨#[99, 110]⟩, .string ⟨#[65, 78, 78]⟩, .slice none 0 0, .slice none 0 0]) (perL [97, 110, 110]) D (some ⟨g, 0, none⟩) 3 3 W (isFl_leafE _ _ 4 ⟨#[99, 110]⟩ ⟨#[65, 78, 78]⟩ (by decide) (by decide) (by decide)) per_small hW hX hA
  rw [awE_2, show ((1 : Nat) : Int) = 1 from rfl] at h2
  have H1 := Lib.hid h1
  have H2 := Lib.hid h2
  have HW := Lib.hid hw
  have HX := Lib.hid hx
  have HPe := Lib.hid (fun W => person_any ⟨#[97, 110, 110]⟩ (by decide) W)
  have tok1 : True := trivial
  clear h1 h2 hw hx
  go_enter Tryz.func14, Tryz.ntmps14
  go_wp2_with (first
    | (have _t := tok1; go_at_call 12; ((with_reducible refine (H1.out).mono ?_); rintro e w2 ⟨rfl, hb2⟩); have HB2 := Lib.hid hb2; clear hb2 _t; clear tok1)
    | (go_at_call 27; ((with_reducible refine (HPe.out _).mono ?_); rintro e w3 ⟨D, g, rfl, hD, hp, hg, hb3⟩; have HB3 := Lib.hid (bthen HB2.out hb3); have HP := Lib.hid hp.isA; clear hb3 hp hg hD))
    | (go_at_call 12; ((with_reducible refine (H2.out _ _ _ (HW.out.below HB3.out) (HX.out.below HB3.out) HP.out).mono ?_); rintro e w4 ⟨rfl, hb4⟩); have HB4 := Lib.hid (bthen HB3.out hb4); clear hb4))
  go_ret
  exact ⟨rfl, HB4.out⟩
end Go.Proofs.YtdgnefcpeocbjaaGreatDoor


namespace Go.Proofs.YtdgnefcpeocbjaaGreatDoor
open Go.RowKit
set_option linter.unusedVariables false

def MapAt (f : UInt8 → UInt8) (w : World) (s : ByteArray) (j : Nat) (wr : World) : Prop :=
  Below w.heap.size w wr ∧ ∃ A : Array Value, wr.heap[w.heap.size]? = some (.cells A 5 (A.size, A.size + 1)) ∧ s.size ≤ A.size ∧ ∀ k (h : k < s.size), A[k]? = some (.int .u8 ((if k < j then f s[k] else s[k]).toNat : Int))

theorem MapAt.cell {f : UInt8 → UInt8} {w wr : World} {s : ByteArray} {j : Nat} (h : MapAt f w s j wr) (hj : j < s.size) : wr.cell? ⟨w.heap.size, j, none⟩ = some (.int .u8 (s[j].toNat : Int)) ∧ wr.frozen? ⟨w.heap.size, j, none⟩ = false := by
  obtain ⟨_, A, hA, hs, hc⟩ := h
  have := hc j hj
  rw [if_neg (by omega)] at this
  refine ⟨by simp only [World.cell?, hA]; simpa using this, by simp only [World.frozen?, hA]; simp; omega⟩
theorem MapAt.skip {f : UInt8 → UInt8} {w wr : World} {s : ByteArray} {j : Nat} (h : MapAt f w s j wr) (hj : j < s.size) (he : f s[j] = s[j]) : MapAt f w s (j + 1) wr := by
  obtain ⟨hb, A, hA, hs, hc⟩ := h
  refine ⟨hb, A, hA, hs, fun k hk => ?_⟩
  rw [hc k hk]
  by_cases h1 : k < j
  · rw [if_pos h1, if_pos (by omega)]
  · rw [if_neg h1]
    by_cases h2 : k = j
    · subst h2; rw [if_pos (by omega), he]
    · rw [if_neg (by omega)]
theorem MapAt.store {f : UInt8 → UInt8} {w wr : World} {s : ByteArray} {j : Nat} (h : MapAt f w s j wr) (hj : j < s.size) (n : Int) (hn : n = ((f s[j]).toNat : Int)) : MapAt f w s (j + 1) (wr.setCell ⟨w.heap.size, j, none⟩ (.int .u8 n)) := by
  subst hn
  obtain ⟨hb, A, hA, hs, hc⟩ := h
  refine ⟨hb.setCell (p := ⟨w.heap.size, j, none⟩) (Nat.le_refl _) _, A.setIfInBounds j (.int .u8 (f s[j]).toNat), ?_, by simpa using hs, fun k hk => ?_⟩
  · obtain ⟨hlt, hv⟩ := Array.getElem?_eq_some_iff.1 hA
    show (wr.heap.modify w.heap.size _)[w.heap.size]? = _
    rw [Array.getElem?_eq_getElem (by rw [Array.size_modify]; exact hlt), Array.getElem_modify_self, hv]
    simp
  · rw [Array.getElem?_setIfInBounds]
    by_cases h2 : j = k
    · subst h2; rw [if_pos rfl, if_pos (by omega), if_pos (by omega)]
    · rw [if_neg h2, hc k hk]
      by_cases h1 : k < j
      · rw [if_pos h1, if_pos (by omega)]
      · rw [if_neg h1, if_neg (by omega)]
theorem MapAt.conv {f : UInt8 → UInt8} {w wr : World} {s : ByteArray} {cap : Nat} (h : MapAt f w s s.size wr) :
    (convert 34 9 (.slice (some ⟨w.heap.size, 0, none⟩) s.size cap)).run Tryz.prog wr = .ok (.string ⟨(s.data.toList.map f).toArray⟩) wr := by
  obtain ⟨_, A, hA, hs, hc⟩ := h
  have hl : s.size = (s.data.toList.map f).length := by simp
  conv => lhs; rw [hl]
  refine run_convert_bytes_back wr 34 9 5 _ cap (s.data.toList.map f) Tryz.underlying34 Tryz.underlying5 Tryz.underlying9 fun j hj => ?_
  have hj' : j < s.size := by rw [hl]; exact hj
  have e : ((⟨w.heap.size, 0, none⟩ : Addr).add j) = ⟨w.heap.size, j, none⟩ := by simp [Addr.add]; omega
  have := hc j hj'
  rw [if_pos hj'] at this
  rw [e]
  simp only [World.cell?, hA]
  simp
  exact this


def upC (c : UInt8) : UInt8 := if 97 ≤ c.toNat ∧ c.toNat ≤ 122 then UInt8.ofNat (c.toNat - 32) else c
def upL (l : List UInt8) : List UInt8 := l.map upC
end Go.Proofs.YtdgnefcpeocbjaaGreatDoor


namespace Go.Proofs.YtdgnefcpeocbjaaGreatDoor
open Go.RowKit
set_option linter.unusedVariables false

end Go.Proofs.YtdgnefcpeocbjaaGreatDoor


namespace Go.Proofs.YtdgnefcpeocbjaaGreatDoor
open Go.RowKit
set_option linter.unusedVariables false

end Go.Proofs.YtdgnefcpeocbjaaGreatDoor


namespace Go.Proofs.YtdgnefcpeocbjaaGreatDoor
open Go.RowKit
set_option linter.unusedVariables false

def codeL : List Int := [17, 19, 21, 19, 20, 20]
def badL : List AT := [([110, 111, 110, 101], [[120]]), ([100, 101, 115, 99, 114, 105, 112, 116, 105, 111, 110], []), ([117, 105, 100, 110, 117, 109, 98, 101, 114], [[120]]), ([117, 105, 100, 110, 117, 109, 98, 101, 114], [[49], [50]]), ([109, 97, 105, 108], [[97], [65, 32]]), ([67, 78], [[122]])]
def othD : List UInt8 := [99, 110, 61, 111, 116, 104, 101, 114]
def pName (d : List UInt8) : List UInt8 := 112 :: d
def ouA : AT := ([111, 117], [[97]])
end Go.Proofs.YtdgnefcpeocbjaaGreatDoor


namespace Go.Proofs.YtdgnefcpeocbjaaGreatDoor
open Go.RowKit
set_option linter.unusedVariables false

theorem itoa_short : ∀ n : Fin 256, (Lib.itoa (n.1 : Int)).length ≤ 3 := by decide +kernel
def bA (k : Nat) : AT := badL.getD k ([], [])
def bT (k : Nat) : ByteArray := ofL (bA k).1
def cK (k : Nat) : Int := codeL.getD k 0
def bV (h : Nat) (k : Nat) : Value := [.slice (some ⟨h + 1, 0, none⟩) 1 1, .slice none 0 0, .slice (some ⟨h + 2, 0, none⟩) 1 1, .slice (some ⟨h + 3, 0, none⟩) 2 2, .slice (some ⟨h + 4, 0, none⟩) 2 2, .slice (some ⟨h + 5, 0, none⟩) 1 1].getD k .nilIface
structure FstAt (h : Nat) (W : World) (E : ByteArray) (u : Value) : Prop where
  box : BoxN W h E u
  b1 : W.heap[h + 1]? = some (.cells #[.string ⟨#[120]⟩] 9 (0, 0))
  b2 : W.heap[h + 2]? = some (.cells #[.string ⟨#[120]⟩] 9 (0, 0))
  b3 : W.heap[h + 3]? = some (.cells #[.string ⟨#[49]⟩, .string ⟨#[50]⟩] 9 (0, 0))
  b4 : W.heap[h + 4]? = some (.cells #[.string ⟨#[97]⟩, .string ⟨#[65, 32]⟩] 9 (0, 0))
  b5 : W.heap[h + 5]? = some (.cells #[.string ⟨#[122]⟩] 9 (0, 0))
  b6 : W.heap[h + 6]? = some (.cells #[.string ⟨#[110, 111, 110, 101]⟩, .slice (some ⟨h + 1, 0, none⟩) 1 1, .string ⟨#[100, 101, 115, 99, 114, 105, 112, 116, 105, 111, 110]⟩, .slice none 0 0, .string ⟨#[117, 105, 100, 110, 117, 109, 98, 101, 114]⟩, .slice (some ⟨h + 2, 0, none⟩) 1 1, .string ⟨#[117, 105, 100, 110, 117, 109, 98, 101, 114]⟩, .slice (some ⟨h + 3, 0, none⟩) 2 2, .string ⟨#[109, 97, 105, 108]⟩, .slice (some ⟨h + 4, 0, none⟩) 2 2, .string ⟨#[67, 78]⟩, .slice (some ⟨h + 5, 0, none⟩) 1 1] 45 (0, 0))
  b7 : W.heap[h + 7]? = some (.cells #[.int .i64 17, .int .i64 19, .int .i64 21, .int .i64 19, .int .i64 20, .int .i64 20] 3 (0, 0))
  size : W.heap.size = h + 8

def XAt (W7 : World) (E : ByteArray) (L : List AT) (wx : World) (b : Nat) (u : Value) : Prop := W7.heap.size ≤ b ∧ b < wx.heap.size ∧ BoxN wx b E u ∧ IsA wx.heap.size wx L u ∧ Below W7.heap.size W7 wx
theorem XAt.drew {W7 wx : World} {E : ByteArray} {L : List AT} {b : Nat} {u : Value} (h : XAt W7 E L wx b u) : XAt W7 E L wx.drew b u := ⟨h.1, h.2.1, h.2.2.1, h.2.2.2.1, h.2.2.2.2.drew⟩
theorem XAt.from {W7 wx : World} {E : ByteArray} {L : List AT} {b : Nat} {u : Value} (h : XAt W7.drew E L wx b u) : XAt W7 E L wx b u := ⟨h.1, h.2.1, h.2.2.1, h.2.2.2.1, (Below.refl W7.heap.size W7).drew.trans h.2.2.2.2⟩
def At9 (w9 w : World) : Prop := Below w9.heap.size w9 w
theorem At9.go {w9 w w' : World} (h : At9 w9 w) (hb : Below w.heap.size w w') : At9 w9 w' := bthen h hb
theorem At9.mono {w9 w : World} (h : At9 w9 w) {n : Nat} (hn : n ≤ w9.heap.size) : Below n w9 w := Below.mono h hn
theorem At9.size {w9 w : World} (h : At9 w9 w) : w9.heap.size ≤ w.heap.size := Below.size h
theorem At9.cell {w9 w : World} (h : At9 w9 w) {p : Addr} (hp : p.block < w9.heap.size) : w.cell? p = w9.cell? p := Below.cell h hp
abbrev C6 (N1 N2 N3 : ByteArray) (v1 v2 v3 : Value) : Obj := .cells #[.string N1, v1, .string N2, v2, .string N3, v3] 45
abbrev C8 (g q : Nat) : Array Value := #[.string ⟨#[99, 110]⟩, .slice (some ⟨g - 3, 0, none⟩) 1 1, .string ⟨#[111, 98, 106, 101, 99, 116, 99, 108, 97, 115, 115]⟩, .slice (some ⟨g - 2, 0, none⟩) 1 1, .string ⟨#[115, 110]⟩, .slice (some ⟨g - 1, 0, none⟩) 1 1, .string ⟨#[111, 117]⟩, .slice (some ⟨q, 0, none⟩) 1 1]
end Go.Proofs.YtdgnefcpeocbjaaGreatDoor


namespace Go.Proofs.YtdgnefcpeocbjaaGreatDoor
set_option linter.unusedVariables false

section
variable {P : Program} {ops : Array Oper} {Q : Exit → Act → World → Prop} {md : Region.Mode}

def toCome (l : Array Bool) : Nat := l.toList.count false

theorem toCome_some {l : Array Bool} {i : Nat} (h : l.getD i true = false) : ∃ hi : i < l.size, l[i] = false := by
  rcases Nat.lt_or_ge i l.size with hi | hi
  · refine ⟨hi, ?_⟩
    simpa [hi] using h
  · simp [Array.getElem?_eq_none hi] at h

theorem toCome_set {l : Array Bool} {i : Nat} (h : l.getD i true = false) : toCome (l.setIfInBounds i true) + 1 = toCome l := by
  obtain ⟨hi, he⟩ := toCome_some h
  unfold toCome
  have hi' : i < l.toList.length := by simpa using hi
  have he' : l.toList[i] = false := by simpa using he
  have hpos : 0 < l.toList.count false := List.count_pos_iff.2 (by rw [← he']; exact List.getElem_mem hi')
  rw [Array.toList_setIfInBounds, List.count_set hi', he']
  rw [if_pos (by rfl), if_neg (by decide)]
  omega

theorem toCome_none {l : Array Bool} (h : toCome l = 0) {i : Nat} : l.getD i true ≠ false := fun hf => by
  have := toCome_set hf
  omega

theorem wpAny_inv (Inv : Array Bool → Act → World → Prop)
    (hstep : ∀ listed a w, Inv listed a w → ∀ i ∈ Region.ready md ops listed, wpOp P ops Q i (Inv (listed.setIfInBounds i true)) a w)
    (hend : ∀ listed a w, Inv listed a w → Region.ready md ops listed = [] → Q .normal a w) :
    ∀ (fuel : Nat) (listed : Array Bool) (a : Act) (w : World), toCome listed ≤ fuel → Inv listed a w → wpAny P md ops Q fuel listed a w
  | 0, listed, a, w, hf, hI => by
    have hr : Region.ready md ops listed = [] := by
      cases hc : Region.ready md ops listed with
      | nil => rfl
      | cons j rs => exact absurd (mem_ready.1 (hc ▸ List.mem_cons_self : j ∈ Region.ready md ops listed)).1 (toCome_none (by omega))
    exact ⟨hr, hend _ _ _ hI hr⟩
  | fuel + 1, listed, a, w, hf, hI => by
    refine ⟨fun hr => hend _ _ _ hI hr, fun i hi => wpOp_mono (fun a' w' h => ?_) (hstep _ _ _ hI i hi)⟩
    have := toCome_set (mem_ready.1 hi).1
    exact wpAny_inv Inv hstep hend fuel _ a' w' (by omega) h

theorem all_come {listed : Array Bool} (hb : ∀ (i : Nat) (o : Oper), ops[i]? = some o → ∀ e ∈ o.after, e.on < i) (hs : listed.size = ops.size) (hr : Region.ready md ops listed = []) :
    ∀ (n i : Nat), i < n → i < ops.size → listed.getD i false = true
  | 0, i, h, _ => by omega
  | n + 1, i, h, hi => by
    have ih := all_come hb hs hr n
    cases hc : listed.getD i false with
    | true => rfl
    | false =>
      exfalso
      have hm : i ∈ Region.ready md ops listed := by
        refine mem_ready.2 ⟨?_, ops[i], Array.getElem?_eq_getElem hi, fun e he _ => ?_⟩
        · have hi' : i < listed.size := by omega
          simpa [hi'] using hc
        · have := hb i _ (Array.getElem?_eq_getElem hi) e he
          exact ih e.on (by omega) (by omega)
      rw [hr] at hm
      cases hm

theorem region_inv {id : Nat} {a : Act} {w : World} (hm : P.follows .mixedOrders = true) (Inv : Array Bool → Act → World → Prop)
    (h0 : Inv (Array.replicate ops.size false) a { w with drawn := w.drawn + 1 })
    (hb : ∀ (i : Nat) (o : Oper), ops[i]? = some o → ∀ e ∈ o.after, e.on < i)
    (hsize : ∀ listed a w, Inv listed a w → listed.size = ops.size)
    (hstep : ∀ listed a w, Inv listed a w → ∀ (i : Nat) (o : Oper), ops[i]? = some o → listed.getD i true = false → (∀ e ∈ o.after, Region.binds .any e = true → listed.getD e.on false = true) →
      wpOp P ops Q i (Inv (listed.setIfInBounds i true)) a w)
    (hend : ∀ listed a w, Inv listed a w → (∀ i, i < ops.size → listed.getD i false = true) → Q .normal a w) : (Code.region id ops true).wp P Q a w := by
  refine wp_region_any hm (wpAny_inv Inv (fun listed a w hI i hi => ?_) (fun listed a w hI hr => ?_) _ _ _ _ ?_ h0)
  · obtain ⟨h1, o, h2, h3⟩ := mem_ready.1 hi
    exact hstep listed a w hI i o h2 h1 h3
  · exact hend listed a w hI fun i hi => all_come hb (hsize _ _ _ hI) hr (i + 1) i (by omega) hi
  · unfold toCome
    refine Nat.le_trans List.count_le_length ?_
    simp
end
end Go.Proofs.YtdgnefcpeocbjaaGreatDoor


namespace Go.Proofs.YtdgnefcpeocbjaaGreatDoor
set_option linter.unusedVariables false

section
variable {P : Program} {ops : Array Oper} {Q : Exit → Act → World → Prop}

def Came (listed : Array Bool) (o : Oper) : Prop := ∀ e ∈ o.after, Region.binds .any e = true → listed.getD e.on false = true

structure Kept (ops : Array Oper) (F : Nat → Value → World → Prop) (G : World → World → Prop) (a0 : Act) (w0 : World) (listed : Array Bool) (a : Act) (w : World) : Prop where
  size : listed.size = ops.size
  shut : ∀ (i : Nat) (o : Oper), ops[i]? = some o → listed.getD i false = true → Came listed o
  defers : a.defers = a0.defers
  slots : a.tmps.size = a0.tmps.size
  grown : G w0 w
  other : ∀ t, (∀ (i : Nat) (o : Oper), ops[i]? = some o → o.dst ≠ some t) → a.tmps[t]? = a0.tmps[t]?
  fact : ∀ (i : Nat) (o : Oper) (d : Tmp), ops[i]? = some o → o.dst = some d → listed.getD i false = true → ∃ v, a.tmps[d]? = some v ∧ F i v w

theorem came_more {listed : Array Bool} {i : Nat} {o : Oper} (h : Came listed o) : Came (listed.setIfInBounds i true) o := fun e he hb => getD_set_true (h e he hb)

theorem getD_set_self {listed : Array Bool} {i : Nat} (h : i < listed.size) : (listed.setIfInBounds i true).getD i false = true := by simp [h]

theorem Kept.more {F : Nat → Value → World → Prop} {G : World → World → Prop} {a0 a : Act} {w0 w w' : World} {listed : Array Bool} (hk : Kept ops F G a0 w0 listed a w) {i : Nat} {o : Oper} {d : Tmp} {v : Value}
    (hF : ∀ i v w w', F i v w → G w w' → F i v w') (hG : ∀ w w' w'', G w w' → G w' w'' → G w w'')
    (hd : ∀ (i j : Nat) (o o' : Oper) (d : Tmp), ops[i]? = some o → ops[j]? = some o' → o.dst = some d → o'.dst = some d → i = j)
    (hin : ∀ (i : Nat) (o : Oper) (d : Tmp), ops[i]? = some o → o.dst = some d → d < a0.tmps.size)
    (ho : ops[i]? = some o) (hod : o.dst = some d) (hc : Came listed o) (hg : G w w') (hv : F i v w') : Kept ops F G a0 w0 (listed.setIfInBounds i true) (a.put (some d) v) w' := by
  have hi : i < listed.size := by rw [hk.size]; exact (Array.getElem?_eq_some_iff.1 ho).1
  refine ⟨by simp [hk.size], fun j o' ho' hl => ?_, hk.defers, by simp [Act.put, hk.slots], hG _ _ _ hk.grown hg, fun t ht => ?_, fun j o' d' ho' hd' hl => ?_⟩
  · by_cases hij : i = j
    · subst hij
      rw [ho] at ho'; cases ho'
      exact came_more hc
    · rw [getD_set_ne false hij] at hl
      exact came_more (hk.shut j o' ho' hl)
  · have : d ≠ t := fun h => ht i o ho (by rw [hod, h])
    simp only [Act.put]
    rw [Array.getElem?_setIfInBounds_ne this]
    exact hk.other t ht
  · by_cases hij : i = j
    · subst hij
      rw [ho] at ho'; cases ho'
      rw [hod] at hd'; cases hd'
      refine ⟨v, ?_, hv⟩
      have : d < a.tmps.size := by rw [hk.slots]; exact hin i o d ho hod
      simp [Act.put, this]
    · rw [getD_set_ne false hij] at hl
      obtain ⟨u, hu, hf⟩ := hk.fact j o' d' ho' hd' hl
      have : d ≠ d' := fun h => hij (hd i j o o' d ho ho' hod (by rw [hd', h]))
      refine ⟨u, ?_, hF _ _ _ _ hf hg⟩
      simp only [Act.put]
      rw [Array.getElem?_setIfInBounds_ne this]
      exact hu

theorem rest_came {listed : Array Bool} (hs : ∀ (i : Nat) (o : Oper), ops[i]? = some o → listed.getD i false = true → Came listed o)
    (hw : ∀ i, i + 1 < ops.size → ∃ (j : Nat) (o : Oper), i < j ∧ ops[j]? = some o ∧ ∃ e ∈ o.after, Region.binds .any e = true ∧ e.on = i)
    {l : Oper} (hl : ops[ops.size - 1]? = some l) (hc : Came listed l) : ∀ (n i : Nat), ops.size ≤ i + 1 + n → i + 1 < ops.size → listed.getD i false = true
  | 0, i, h, hi => by omega
  | n + 1, i, h, hi => by
    obtain ⟨j, o, hij, ho, e, he, hb, rfl⟩ := hw i hi
    have hj : j < ops.size := (Array.getElem?_eq_some_iff.1 ho).1
    by_cases hlast : j = ops.size - 1
    · subst hlast
      rw [ho] at hl; cases hl
      exact hc e he hb
    · exact hs j o ho (rest_came hs hw hl hc n j (by omega) (by omega)) e he hb

def regOk (ops : Array Oper) (n : Nat) : Bool := (List.range ops.size).all fun i => match ops[i]? with
  | none => true
  | some o => (o.after.all fun e => decide (e.on < i)) && (match o.dst with
      | none => true
      | some d => decide (d < n) && (List.range ops.size).all fun j => match ops[j]? with
        | none => true
        | some o' => decide (o'.dst ≠ some d) || decide (i = j)) &&
    (decide (ops.size ≤ i + 1) || (List.range ops.size).any fun j => match ops[j]? with
        | none => false
        | some o' => decide (i < j) && o'.after.any fun e => Region.binds .any e && decide (e.on = i))

theorem regOk_at {n : Nat} (h : regOk ops n = true) {i : Nat} {o : Oper} (ho : ops[i]? = some o) :
    (∀ e ∈ o.after, e.on < i) ∧ (∀ d, o.dst = some d → d < n ∧ ∀ (j : Nat) (o' : Oper), ops[j]? = some o' → o'.dst = some d → i = j) ∧
      (i + 1 < ops.size → ∃ (j : Nat) (o' : Oper), i < j ∧ ops[j]? = some o' ∧ ∃ e ∈ o'.after, Region.binds .any e = true ∧ e.on = i) := by
  have hi : i < ops.size := (Array.getElem?_eq_some_iff.1 ho).1
  have h1 := List.all_eq_true.1 h i (List.mem_range.2 hi)
  rw [ho] at h1
  simp only [Bool.and_eq_true, Bool.or_eq_true, decide_eq_true_eq] at h1
  obtain ⟨⟨ha, hb⟩, hc⟩ := h1
  refine ⟨fun e he => ?_, fun d hd => ?_, fun hlt => ?_⟩
  · have := Array.all_eq_true_iff_forall_mem.1 ha e he
    simpa using this
  · rw [hd] at hb
    simp only [Bool.and_eq_true, decide_eq_true_eq] at hb
    refine ⟨hb.1, fun j o' ho' hd' => ?_⟩
    have h2 := List.all_eq_true.1 hb.2 j (List.mem_range.2 (Array.getElem?_eq_some_iff.1 ho').1)
    rw [ho'] at h2
    simp only [Bool.or_eq_true, decide_eq_true_eq] at h2
    rcases h2 with h2 | h2
    · exact absurd hd' h2
    · exact h2
  · rcases hc with hc | hc
    · omega
    · obtain ⟨j, _, hj⟩ := List.any_eq_true.1 hc
      cases ho' : ops[j]? with
      | none => rw [ho'] at hj; cases hj
      | some o' =>
        rw [ho'] at hj
        simp only [Bool.and_eq_true, decide_eq_true_eq] at hj
        obtain ⟨e, he, hbe⟩ := Array.any_eq_true'.1 hj.2
        simp only [Bool.and_eq_true, decide_eq_true_eq] at hbe
        exact ⟨j, o', hj.1, ho', e, he, hbe.1, hbe.2⟩

theorem wpOp_val {i : Nat} {o : Oper} {a : Act} {w w' : World} {v : Value} {K : Act → World → Prop} (ho : ops[i]? = some o) (hg : o.guard = none) (hr : (execOp a.eval o).run P w = .ok (.value v) w') (hk : K (a.put o.dst v) w') : wpOp P ops Q i K a w := by
  unfold wpOp
  rw [ho]
  show if Region.wanted o (yielded ops a.tmps) = true then _ else _
  rw [if_pos (by unfold Region.wanted; rw [hg])]
  refine .inl ?_
  unfold Oper.wp
  rw [hr]
  exact hk

def noDst (ops : Array Oper) (t : Nat) : Bool := (List.range ops.size).all fun i => match ops[i]? with
  | none => true
  | some o => decide (o.dst ≠ some t)

theorem Kept.read {F : Nat → Value → World → Prop} {G : World → World → Prop} {a0 a : Act} {w0 w : World} {listed : Array Bool} (hk : Kept ops F G a0 w0 listed a w) {t : Nat} {v : Value} (hn : noDst ops t = true) (h : a0.tmps[t]? = some v) : a.tmps[t]?.getD undef = v := by
  have h1 := hk.other t fun i o ho => by
    have h2 := List.all_eq_true.1 hn i (List.mem_range.2 (Array.getElem?_eq_some_iff.1 ho).1)
    rw [ho] at h2
    simpa using h2
  rw [h1, h]
  rfl

theorem Kept.got {F : Nat → Value → World → Prop} {G : World → World → Prop} {a0 a : Act} {w0 w : World} {listed : Array Bool} (hk : Kept ops F G a0 w0 listed a w) {j : Nat} {o : Oper} {d : Tmp} (ho : ops[j]? = some o) (hd : o.dst = some d) (hl : listed.getD j false = true) :
    ∃ v, a.tmps[d]?.getD undef = v ∧ F j v w := by
  obtain ⟨v, h, hf⟩ := hk.fact j o d ho hd hl
  refine ⟨v, ?_, hf⟩
  rw [h]
  rfl
end
end Go.Proofs.YtdgnefcpeocbjaaGreatDoor


namespace Go.Proofs.YtdgnefcpeocbjaaGreatDoor
open Go.RowKit
set_option linter.unusedVariables false

section
variable {P : Program} {ops : Array Oper} {Q : Exit → Act → World → Prop}

theorem Kept.more2 {F F' : Nat → Value → World → Prop} {G : World → World → Prop} {a0 a : Act} {w0 w w' : World} {listed : Array Bool} (hk : Kept ops F G a0 w0 listed a w) {i : Nat} {o : Oper} {d : Tmp} {v : Value}
    (hF : ∀ j u, j ≠ i → F j u w → F' j u w') (hgr : G w0 w')
    (hd : ∀ (i j : Nat) (o o' : Oper) (d : Tmp), ops[i]? = some o → ops[j]? = some o' → o.dst = some d → o'.dst = some d → i = j)
    (hin : ∀ (i : Nat) (o : Oper) (d : Tmp), ops[i]? = some o → o.dst = some d → d < a0.tmps.size)
    (ho : ops[i]? = some o) (hod : o.dst = some d) (hc : Came listed o) (hv : F' i v w') : Kept ops F' G a0 w0 (listed.setIfInBounds i true) (a.put (some d) v) w' := by
  have hi : i < listed.size := by rw [hk.size]; exact (Array.getElem?_eq_some_iff.1 ho).1
  refine ⟨by simp [hk.size], fun j o' ho' hl => ?_, hk.defers, by simp [Act.put, hk.slots], hgr, fun t ht => ?_, fun j o' d' ho' hd' hl => ?_⟩
  · by_cases hij : i = j
    · subst hij
      rw [ho] at ho'; cases ho'
      exact came_more hc
    · rw [getD_set_ne false hij] at hl
      exact came_more (hk.shut j o' ho' hl)
  · have : d ≠ t := fun h => ht i o ho (by rw [hod, h])
    simp only [Act.put]
    rw [Array.getElem?_setIfInBounds_ne this]
    exact hk.other t ht
  · by_cases hij : i = j
    · subst hij
      rw [ho] at ho'; cases ho'
      rw [hod] at hd'; cases hd'
      refine ⟨v, ?_, hv⟩
      have : d < a.tmps.size := by rw [hk.slots]; exact hin i o d ho hod
      simp [Act.put, this]
    · rw [getD_set_ne false hij] at hl
      obtain ⟨u, hu, hf⟩ := hk.fact j o' d' ho' hd' hl
      have : d ≠ d' := fun h => hij (hd i j o o' d ho ho' hod (by rw [hd', h]))
      refine ⟨u, ?_, hF _ _ (fun h => hij h.symm) hf⟩
      simp only [Act.put]
      rw [Array.getElem?_setIfInBounds_ne this]
      exact hu

def depOn (ops : Array Oper) (l2 l1 : Nat) : Bool := match ops[l2]? with
  | none => false
  | some o => o.after.any fun e => Region.binds .any e && decide (e.on = l1)

def laidT (a : Array Value) : List Oper → Array Value → Array Value
  | [], r => r
  | o :: l, r => laidT a l (match o.dst with | none => r | some d => r.setIfInBounds d (a[d]?.getD undef))
theorem laidT_at (a : Array Value) (t : Nat) : ∀ (l : List Oper) (r : Array Value), r[t]? = a[t]? ∨ (∃ o ∈ l, o.dst = some t) → a.size = r.size → (laidT a l r)[t]? = a[t]?
  | [], r, h, _ => by
    rcases h with h | ⟨o, ho, _⟩
    · exact h
    · simp at ho
  | o :: l, r, h, hs => by
    rw [laidT]
    cases e : o.dst with
    | none =>
      refine laidT_at a t l r ?_ hs
      rcases h with h | ⟨o', ho', he⟩
      · exact .inl h
      · rcases List.mem_cons.1 ho' with rfl | ho'
        · rw [e] at he; cases he
        · exact .inr ⟨o', ho', he⟩
    | some d =>
      simp only
      refine laidT_at a t l _ ?_ (by simpa using hs)
      by_cases hdt : d = t
      · subst hdt
        left
        rcases Nat.lt_or_ge d a.size with hlt | hge
        · rw [Array.getElem?_setIfInBounds_self_of_lt (by omega), Array.getElem?_eq_getElem hlt]
          rfl
        · rw [Array.getElem?_eq_none hge, Array.getElem?_eq_none (by simp; omega)]
      · rcases h with h | ⟨o', ho', he⟩
        · left
          rw [Array.getElem?_setIfInBounds_ne hdt]
          exact h
        · rcases List.mem_cons.1 ho' with rfl | ho'
          · rw [e] at he; cases he; exact absurd rfl hdt
          · exact .inr ⟨o', ho', he⟩
theorem Kept.frame {F : Nat → Value → World → Prop} {G : World → World → Prop} {a0 a : Act} {w0 w : World} {listed : Array Bool} (hk : Kept ops F G a0 w0 listed a w) : a = { a0 with tmps := laidT a.tmps ops.toList a0.tmps } := by
  have h1 : a.tmps = laidT a.tmps ops.toList a0.tmps := by
    refine Array.ext_getElem? fun t => ?_
    symm
    refine laidT_at a.tmps t _ _ ?_ hk.slots
    by_cases h : ∃ o ∈ ops.toList, o.dst = some t
    · exact .inr h
    · left
      refine (hk.other t fun i o ho hd => h ⟨o, ?_, hd⟩).symm
      exact List.mem_of_getElem? (i := i) (by simpa using ho)
  cases a
  cases a0
  have h2 := hk.defers
  simp only at h1 h2
  simp only [← h1, h2]
def putT (t : Array Value) : List Oper → Act → Act
  | [], r => r
  | o :: l, r => putT t l (r.put o.dst (match o.dst with | none => undef | some d => t[d]?.getD undef))
theorem putT_eq (t : Array Value) : ∀ (l : List Oper) (r : Act), putT t l r = { r with tmps := laidT t l r.tmps }
  | [], r => rfl
  | o :: l, r => by
    rw [putT, putT_eq t l, laidT]
    cases o.dst <;> rfl
theorem Kept.puts {F : Nat → Value → World → Prop} {G : World → World → Prop} {a0 a : Act} {w0 w : World} {listed : Array Bool} (hk : Kept ops F G a0 w0 listed a w) : a = putT a.tmps ops.toList a0 := by
  rw [putT_eq]
  exact hk.frame
end
end Go.Proofs.YtdgnefcpeocbjaaGreatDoor


namespace Go.Proofs.YtdgnefcpeocbjaaGreatDoor
open Go.RowKit
set_option linter.unusedVariables false

def StrB (w : World) (b : Nat) : Prop := ∃ cs fr, w.heap[b]? = some (.cells cs 9 fr)
def SaysM (w : World) (P : List PT) (L : List AT) : Prop := P.length = L.length ∧ ∀ j (h : j < L.length) (h' : j < P.length), P[j].1 = L[j].1 ∧ IsTo (StrB w) w L[j].2 P[j].2
def OwnM (B : Nat) (w : World) (v : Value) (L : List AT) : Prop := ∃ P, RowP B w v P ∧ SaysM w P L

theorem strB_at {w : World} {b : Nat} {cs : Array Value} (h : w.heap[b]? = some (.cells cs 9 (0, 0))) : StrB w b := ⟨cs, _, h⟩
theorem StrB.lt {w : World} {b : Nat} (h : StrB w b) : b < w.heap.size := by
  obtain ⟨_, _, h⟩ := h
  exact (Array.getElem?_eq_some_iff.1 h).1
theorem saysM_to {w w' : World} {P : List PT} {L : List AT} (h : SaysM w P L) (hk : ∀ b, StrB w b → w'.heap[b]? = w.heap[b]?) : SaysM w' P L :=
  ⟨h.1, fun j h1 h2 => ⟨(h.2 j h1 h2).1, (h.2 j h1 h2).2.imp (fun b hb => by obtain ⟨cs, fr, e⟩ := hb; exact ⟨cs, fr, (hk b ⟨cs, fr, e⟩).trans e⟩) (fun b o hb => by simp only [World.cell?, hk b hb])⟩⟩
theorem saysM_below {w w' : World} {P : List PT} {L : List AT} (h : SaysM w P L) (hb : Below w.heap.size w w') : SaysM w' P L := saysM_to h fun b hs => hb.block b hs.lt
theorem ownM_below {B : Nat} {w w' : World} {v : Value} {L : List AT} (h : OwnM B w v L) (hb : Below w.heap.size w w') : OwnM B w' v L := by
  obtain ⟨P, h1, h2⟩ := h
  exact ⟨P, rowP_below h1 hb, saysM_below h2 hb⟩
theorem row_keep {B : Nat} {w w' : World} {v : Value} {P : List PT} (hr : RowP B w v P) (hg : w.grownBy w' v.ownBlock) {b : Nat} {cs : Array Value} {e : TypeId} {fr : Nat × Nat} (hb : w.heap[b]? = some (.cells cs e fr)) (hne : e ≠ 45) : w'.heap[b]? = w.heap[b]? := by
  refine hg.block b (Array.getElem?_eq_some_iff.1 hb).1 fun he => hne ?_
  rcases hr.2 with ⟨rfl, _⟩ | ⟨g, cap, cur, rfl, _, hc, _⟩
  · cases he
  · have : b = g := by simpa [Value.ownBlock] using he
    subst this
    rw [hb] at hc
    cases hc
    rfl
theorem saysM_grown {B : Nat} {w w' : World} {v : Value} {P P' : List PT} {L : List AT} (hr : RowP B w v P') (hg : w.grownBy w' v.ownBlock) (h : SaysM w P L) : SaysM w' P L :=
  saysM_to h fun b hs => by obtain ⟨cs, fr, e⟩ := hs; exact row_keep hr hg e (by decide)
theorem saysM_app {w : World} {P PM : List PT} {L M : List AT} (h : SaysM w P L) (hm : SaysM w PM M) : SaysM w (P ++ PM) (L ++ M) := by
  refine ⟨by simp [h.1, hm.1], fun j h1 h2 => ?_⟩
  by_cases hj : j < L.length
  · have hj' : j < P.length := by rw [h.1]; exact hj
    rw [List.getElem_append_left hj', List.getElem_append_left hj]
    exact h.2 j hj hj'
  · have e := h.1
    have hm1 : j - L.length < M.length := by simp at h1; omega
    have hm2 : j - L.length < PM.length := by rw [hm.1]; exact hm1
    have g1 : (P ++ PM)[j] = PM[j - L.length] := by
      rw [List.getElem_append_right (by omega)]
      simp only [e]
    have g2 : (L ++ M)[j] = M[j - L.length] := List.getElem_append_right (by omega)
    rw [g1, g2]
    exact hm.2 _ hm1 hm2
theorem one_isTo {ok : Nat → Prop} {w : World} {L : List (List UInt8)} {v : Value} (h : IsTo ok w L v) : v.oneCell' = true := by
  obtain ⟨_, _, rfl, _⟩ := h
  rfl

theorem exec_append {P : Program} {o : Oper} {a : Act} {w w' : World} {s x : Operand} {t : TypeId} {v u v' : Value} (ho : o.op = .call { callee := .builtin .append, args := #[s, x], argTypes := #[t, t] }) (hs : a.eval s = v) (hx : a.eval x = u)
    (hr : (Builtin.append_ #[t, t] o.type #[v, u]).run P w = .ok v' w') : (execOp a.eval o).run P w = .ok (.value v') w' := by
  unfold execOp
  simp only [ho, resolve, invoke, builtin, Sem.run_bind, Sem.run_pure, Result.andThen_ok, List.map_toArray, List.map_cons, List.map_nil, hs, hx, hr]

theorem wpOp_skip {P : Program} {ops : Array Oper} {Q : Exit → Act → World → Prop} {i : Nat} {o : Oper} {a : Act} {w w' : World} {K : Act → World → Prop} (ho : ops[i]? = some o) (hg : o.guard = none) (hr : (execOp a.eval o).run P w = .ok .skip w') (hk : K (a.put o.dst undef) w') : wpOp P ops Q i K a w := by
  unfold wpOp
  rw [ho]
  show if Region.wanted o (yielded ops a.tmps) = true then _ else _
  rw [if_pos (by unfold Region.wanted; rw [hg])]
  refine .inl ?_
  unfold Oper.wp
  rw [hr]
  exact hk

theorem saysM_one {w : World} {b : Nat} {X Y : ByteArray} (h : w.heap[b]? = some (.cells #[.string Y] 9 (0, 0))) : SaysM w [(X.data.toList, .slice (some ⟨b, 0, none⟩) 1 1)] [(X.data.toList, [Y.data.toList])] :=
  ⟨rfl, fun j hj hj' => by
    have : j = 0 := by simp at hj; omega
    subst this
    refine ⟨rfl, _, _, rfl, by unfold maxLen; simp, fun k hk => ?_⟩
    have : k = 0 := by simp at hk; omega
    subst this
    refine ⟨b, 0, rfl, strB_at h, ?_⟩
    rw [show ([(X.data.toList, [Y.data.toList])] : List AT)[0].2[0] = Y.data.toList from rfl, strV_whole]
    simp only [World.cell?, h]
    rfl⟩
theorem cells_one {w : World} {c : Nat} {X : ByteArray} {u : Value} (h : w.heap[c]? = some (.cells #[.string X, u] 45 (0, 0))) : ∀ j x, (cellsP [(X.data.toList, u)])[j]? = some x → w.cell? ((⟨c, 0, none⟩ : Addr).add j) = some x := by
  intro j x hx
  have hadd : (⟨c, 0, none⟩ : Addr).add j = ⟨c, j, none⟩ := by simp [Addr.add]; omega
  rw [hadd]
  simp only [World.cell?, h]
  have e : cellsP [(X.data.toList, u)] = [.string X, u] := by
    show [strV X.data.toList, u] = _
    rw [strV_whole]
  rw [e] at hx
  simpa using hx
def perRow (g : Nat) : List PT := [([99, 110], .slice (some ⟨g - 3, 0, none⟩) 1 1), ([111, 98, 106, 101, 99, 116, 99, 108, 97, 115, 115], .slice (some ⟨g - 2, 0, none⟩) 1 1), ([115, 110], .slice (some ⟨g - 1, 0, none⟩) 1 1)]
theorem isTo_one {w : World} {b : Nat} {X : ByteArray} (h : w.heap[b]? = some (.cells #[.string X] 9 (0, 0))) : IsTo (StrB w) w [X.data.toList] (.slice (some ⟨b, 0, none⟩) 1 1) :=
  (saysM_one (X := X) h).2 0 (by simp) (by simp) |>.2
theorem per_says {w : World} {g : Nat} {N : ByteArray} (h : PerAt w g N) : SaysM w (perRow g) (perL N.data.toList) :=
  ⟨rfl, fun j hj hj' => by
    match j, hj with
    | 0, _ => exact ⟨rfl, isTo_one h.b1⟩
    | 1, _ => exact ⟨rfl, isTo_one h.b2⟩
    | 2, _ => exact ⟨rfl, isTo_one h.b3⟩⟩
theorem list_cells {w : World} {b : Nat} {P : List PT} (h : w.heap[b]? = some (.cells (cellsP P).toArray 45 (0, 0))) : ∀ j u, (cellsP P)[j]? = some u → w.cell? ⟨b, j, none⟩ = some u := by
  intro j u hu
  simp only [World.cell?, h]
  simpa using hu
theorem ownM_isA {B : Nat} {w : World} {v : Value} {L : List AT} (h : OwnM B w v L) (hl : L.length ≤ maxLen) : IsA w.heap.size w L v := by
  obtain ⟨P, h1, h2⟩ := h
  by_cases hne : P = []
  · subst hne
    obtain ⟨a, c, hv⟩ := rowP_slice h1
    have : L = [] := List.eq_nil_of_length_eq_zero (by have := h2.1; simpa using this.symm)
    subst this
    exact ⟨a, c, hv, hl, fun j hj => absurd hj (by simp)⟩
  · obtain ⟨g, c, hv, _, hg, hc⟩ := rowP_at h1 hne
    refine ⟨_, c, by rw [hv, h2.1], hl, fun j hj => ?_⟩
    have hj' : j < P.length := by rw [h2.1]; exact hj
    obtain ⟨e1, e2⟩ := h2.2 j hj hj'
    refine ⟨g, 0, P[j].2, rfl, hg, ?_, ?_, e2.to (fun b hb => hb.lt)⟩
    · rw [Nat.zero_add, ← e1]; exact (hc j hj').1
    · rw [Nat.zero_add]; exact (hc j hj').2

structure MAt (n1 : Nat) (W0 : World) (D : ByteArray) (L : List AT) (wx : World) (b : Nat) (u : Value) : Prop where
  lo : n1 ≤ b
  box : BoxN wx b D u
  own : OwnM n1 wx u L
  below : Below n1 W0 wx
theorem mAt_store {n1 b : Nat} {W0 W : World} {D : ByteArray} {L : List AT} {s : Value} (hb : Below n1 W0 W) (hc : W.heap[b]? = some (.cells #[.string ⟨#[]⟩, .slice none 0 0] 28 (0, 0))) (hn : n1 ≤ b) (hown : OwnM n1 W s L) :
    MAt n1 W0 D L ((W.setCell ⟨b, 0, none⟩ (.string D)).setCell ⟨b, 1, none⟩ s) b s := by
  have hbl := (Array.getElem?_eq_some_iff.1 hc).1
  have hother : ∀ k, k ≠ b → ((W.setCell ⟨b, 0, none⟩ (.string D)).setCell ⟨b, 1, none⟩ s).heap[k]? = W.heap[k]? := fun k hk => by
    rw [block_ne _ ⟨b, 1, none⟩ _ hk, block_ne _ ⟨b, 0, none⟩ _ hk]
  obtain ⟨P, hr, hs⟩ := hown
  refine ⟨hn, ?_, ⟨P, ?_, ?_⟩, ?_⟩
  · unfold BoxN
    simp [World.setCell, Array.getElem?_modify, hc]
  · have hg : W.grownBy ((W.setCell ⟨b, 0, none⟩ (.string D)).setCell ⟨b, 1, none⟩ s) (some b) := ⟨rfl, rfl, rfl, by simp [World.setCell], fun k hk hne => hother k (fun e => hne (by rw [e]))⟩
    refine World.ownsRow.kept hr hg ?_
    right
    intro he
    rcases hr.2 with ⟨rfl, _⟩ | ⟨g, cap, cur, rfl, _, hgc, _⟩
    · cases he
    · have : g = b := by simpa [Value.ownBlock] using he
      subst this
      rw [hgc] at hc
      cases hc
  · refine saysM_to hs fun k hk => hother k fun e => ?_
    obtain ⟨cs, fr, hk⟩ := hk
    rw [e, hc] at hk
    cases hk
  · exact (hb.setCell hn _).setCell hn _

theorem entry_new {W : World} {b : Nat} (h : W.heap[b]? = some (.cells #[.string ⟨#[]⟩, .slice none 0 0] 28 (0, 0))) (x : Value) : W.cell? ⟨b, 0, none⟩ = some (.string ⟨#[]⟩) ∧ W.frozen? ⟨b, 0, none⟩ = false ∧ (W.setCell ⟨b, 0, none⟩ x).cell? ⟨b, 1, none⟩ = some (.slice none 0 0) ∧ (W.setCell ⟨b, 0, none⟩ x).frozen? ⟨b, 1, none⟩ = false := by
  refine ⟨?_, ?_, ?_, ?_⟩ <;> simp [World.cell?, World.frozen?, World.setCell, Array.getElem?_modify, h]

theorem boxN_set {W : World} {g i b : Nat} {x u : Value} {D : ByteArray} {cs : Array Value} {fr : Nat × Nat} (h : BoxN W b D u) (hg : W.heap[g]? = some (.cells cs 45 fr)) : BoxN (W.setCell ⟨g, i, none⟩ x) b D u := by
  refine (block_ne W ⟨g, i, none⟩ x fun e => ?_).trans h
  unfold BoxN at h
  rw [show b = g from e, hg] at h
  cases h
theorem ownM_form {B : Nat} {w : World} {v : Value} {L : List AT} (h : OwnM B w v L) (hL : 0 < L.length) : ∃ g cap, v = .slice (some ⟨g, 0, none⟩) L.length cap := by
  obtain ⟨P, hr, hs⟩ := h
  obtain ⟨g, c, hv, _⟩ := rowP_at hr (fun e => by have := hs.1; rw [e] at this; simp at this; omega)
  exact ⟨g, c, by rw [hv, hs.1]⟩

def NC6 : Array Value := #[.string ⟨#[109, 97, 105, 108]⟩, .string ⟨#[117, 105, 100]⟩, .string ⟨#[111, 117]⟩, .string ⟨#[109, 101, 109, 98, 101, 114]⟩, .string ⟨#[117, 105, 100, 110, 117, 109, 98, 101, 114]⟩, .string ⟨#[111]⟩]
def NC2 : Array Value := #[.string ⟨#[100, 101, 115, 99, 114, 105, 112, 116, 105, 111, 110]⟩, .string ⟨#[117, 115, 101, 114, 112, 97, 115, 115, 119, 111, 114, 100]⟩]
def nmB (l : Array Value) (q : Nat) : ByteArray := match l.getD q undef with
  | .string x => x
  | _ => ⟨#[]⟩
def FLess (n1 h0 b6 k : Nat) (D : ByteArray) (L1 L2 : List AT) (p q : Bool) (i : Nat) (v : Value) (w : World) : Prop := match i with
  | 0 => v = .pointer (some ⟨h0, 0, none⟩)
  | 1 => v = .string D
  | 2 => p = true ∨ ∃ b, v = .slice (some ⟨b, 0, none⟩) 0 0 ∧ n1 ≤ b ∧ w.heap[b]? = some (.cells #[] 45 (0, 0))
  | 3 => v = .slice (some ⟨b6, 0, none⟩) 3 3
  | 4 => v = .int .i64 (k : Int)
  | 5 => v = .slice (some ⟨b6, 0, none⟩) k 3
  | 6 => q = true ∨ OwnM n1 w v L1
  | 7 => v = .slice (some ⟨b6, 0, none⟩) 3 3
  | 8 => v = .int .i64 (k : Int)
  | 9 => v = .int .i64 ((k : Int) + 1)
  | 10 => v = .slice (some (if k = 2 then ⟨b6, 0, none⟩ else ⟨b6, (k + 1) * 2, none⟩)) (2 - k) (2 - k)
  | 11 => q = true ∧ OwnM n1 w v L2
  | 12 => q = true ∧ ∃ s, v = .agg #[.string D, s] ∧ OwnM n1 w s L2
  | 13 => ∃ b, v = .pointer (some ⟨b, 0, none⟩) ∧ n1 ≤ b ∧ w.heap[b]? = some (.cells #[.string ⟨#[]⟩, .slice none 0 0] 28 (0, 0))
  | _ => True
theorem FLess.go {n1 h0 b6 k : Nat} {D : ByteArray} {L1 L2 : List AT} {p q : Bool} {i : Nat} {v : Value} {w w' : World} (h : FLess n1 h0 b6 k D L1 L2 p q i v w) (hb : Below w.heap.size w w') : FLess n1 h0 b6 k D L1 L2 p q i v w' := by
  have hk : ∀ {b : Nat} {o : Obj}, w.heap[b]? = some o → w'.heap[b]? = some o := fun e => (hb.block _ (Array.getElem?_eq_some_iff.1 e).1).trans e
  match i, h with
  | 0, h => exact h
  | 1, h => exact h
  | 2, h => exact h.imp id fun ⟨b, e, hn, hc⟩ => ⟨b, e, hn, hk hc⟩
  | 3, h => exact h
  | 4, h => exact h
  | 5, h => exact h
  | 6, h => exact h.imp id fun x => ownM_below x hb
  | 7, h => exact h
  | 8, h => exact h
  | 9, h => exact h
  | 10, h => exact h
  | 11, h => exact ⟨h.1, ownM_below h.2 hb⟩
  | 12, h => obtain ⟨hq, s, e, x⟩ := h; exact ⟨hq, s, e, ownM_below x hb⟩
  | 13, h => obtain ⟨b, e, hn, hc⟩ := h; exact ⟨b, e, hn, hk hc⟩
  | _ + 14, h => exact trivial
theorem FLess.loud {n1 h0 b6 k : Nat} {D : ByteArray} {L1 L2 : List AT} {p q q' : Bool} {i : Nat} {v : Value} {w w' : World} (h : FLess n1 h0 b6 k D L1 L2 p q i v w) (hp : q = false) (hi : i ≠ 6 ∨ q' = true)
    (hk : ∀ (b : Nat) (cs : Array Value) (e : TypeId), w.heap[b]? = some (.cells cs e (0, 0)) → e ≠ 45 → w'.heap[b]? = w.heap[b]?) : FLess n1 h0 b6 k D L1 L2 true q' i v w' := by
  subst hp
  match i, h, hi with
  | 0, h, _ => exact h
  | 1, h, _ => exact h
  | 2, h, _ => exact .inl rfl
  | 3, h, _ => exact h
  | 4, h, _ => exact h
  | 5, h, _ => exact h
  | 6, h, hi => exact .inl (hi.resolve_left (fun x => x rfl))
  | 7, h, _ => exact h
  | 8, h, _ => exact h
  | 9, h, _ => exact h
  | 10, h, _ => exact h
  | 11, h, _ => cases h.1
  | 12, h, _ => cases h.1
  | 13, h, _ => obtain ⟨b, e, hn, hc⟩ := h; exact ⟨b, e, hn, (hk _ _ _ hc (by decide)).trans hc⟩
  | _ + 14, h, _ => exact trivial

def FMore (n1 h0 b6 wh q6 : Nat) (D : ByteArray) (NC : Array Value) (NA VT : ByteArray) (L1 L2 : List AT) (p q : Bool) (i : Nat) (v : Value) (w : World) : Prop := match i with
  | 0 => v = .pointer (some ⟨h0, 0, none⟩)
  | 1 => v = .string D
  | 2 => p = true ∨ ∃ b, v = .slice (some ⟨b, 0, none⟩) 0 0 ∧ n1 ≤ b ∧ w.heap[b]? = some (.cells #[] 45 (0, 0))
  | 3 => v = .slice (some ⟨b6, 0, none⟩) 3 3
  | 4 => q = true ∨ OwnM n1 w v L1
  | 5 => ∃ b, v = .slice (some ⟨b, 0, none⟩) NC.size NC.size ∧ w.heap[b]? = some (.cells NC 9 (0, 0))
  | 6 => v = .int .u8 (wh : Int)
  | 7 => v = .int .u8 (q6 : Int)
  | 8 => ∃ b, v = .pointer (some ⟨b, q6, none⟩) ∧ w.heap[b]? = some (.cells NC 9 (0, 0))
  | 9 => v = .string NA
  | 10 => ∃ b, v = .slice (some ⟨b, 0, none⟩) 1 1 ∧ w.heap[b]? = some (.cells #[.string VT] 9 (0, 0))
  | 11 => ∃ b, v = .agg #[.string NA, .slice (some ⟨b, 0, none⟩) 1 1] ∧ w.heap[b]? = some (.cells #[.string VT] 9 (0, 0))
  | 12 => q = true ∨ ∃ c b, v = .slice (some ⟨c, 0, none⟩) 1 1 ∧ w.heap[c]? = some (.cells #[.string NA, .slice (some ⟨b, 0, none⟩) 1 1] 45 (0, 0)) ∧ w.heap[b]? = some (.cells #[.string VT] 9 (0, 0))
  | 13 => q = true ∧ OwnM n1 w v L2
  | 14 => q = true ∧ ∃ s, v = .agg #[.string D, s] ∧ OwnM n1 w s L2
  | 15 => ∃ b, v = .pointer (some ⟨b, 0, none⟩) ∧ n1 ≤ b ∧ w.heap[b]? = some (.cells #[.string ⟨#[]⟩, .slice none 0 0] 28 (0, 0))
  | _ => True
theorem FMore.go {n1 h0 b6 wh q6 : Nat} {D : ByteArray} {NC : Array Value} {NA VT : ByteArray} {L1 L2 : List AT} {p q : Bool} {i : Nat} {v : Value} {w w' : World} (h : FMore n1 h0 b6 wh q6 D NC NA VT L1 L2 p q i v w) (hb : Below w.heap.size w w') : FMore n1 h0 b6 wh q6 D NC NA VT L1 L2 p q i v w' := by
  have hk : ∀ {b : Nat} {o : Obj}, w.heap[b]? = some o → w'.heap[b]? = some o := fun e => (hb.block _ (Array.getElem?_eq_some_iff.1 e).1).trans e
  match i, h with
  | 0, h => exact h
  | 1, h => exact h
  | 2, h => exact h.imp id fun ⟨b, e, hn, hc⟩ => ⟨b, e, hn, hk hc⟩
  | 3, h => exact h
  | 4, h => exact h.imp id fun x => ownM_below x hb
  | 5, h => obtain ⟨b, e, hc⟩ := h; exact ⟨b, e, hk hc⟩
  | 6, h => exact h
  | 7, h => exact h
  | 8, h => obtain ⟨b, e, hc⟩ := h; exact ⟨b, e, hk hc⟩
  | 9, h => exact h
  | 10, h => obtain ⟨b, e, hc⟩ := h; exact ⟨b, e, hk hc⟩
  | 11, h => obtain ⟨b, e, hc⟩ := h; exact ⟨b, e, hk hc⟩
  | 12, h => exact h.imp id fun ⟨c, b, e, h1, h2⟩ => ⟨c, b, e, hk h1, hk h2⟩
  | 13, h => exact ⟨h.1, ownM_below h.2 hb⟩
  | 14, h => obtain ⟨hq, s, e, x⟩ := h; exact ⟨hq, s, e, ownM_below x hb⟩
  | 15, h => obtain ⟨b, e, hn, hc⟩ := h; exact ⟨b, e, hn, hk hc⟩
  | _ + 16, h => exact trivial
end Go.Proofs.YtdgnefcpeocbjaaGreatDoor


namespace Go.Proofs.YtdgnefcpeocbjaaGreatDoor
open Go.RowKit
set_option linter.unusedVariables false

section
variable {P : Program} {ops : Array Oper} {Q : Exit → Act → World → Prop}

theorem region_J {id : Nat} {a0 : Act} {w0 : World} (hm : P.follows .mixedOrders = true) (n0 l1 l2 : Nat) (F : Bool → Bool → Nat → Value → World → Prop) (J : Bool → Bool → World → Prop)
    (hJ : ∀ p q w w', n0 ≤ w.heap.size → J p q w → Below w.heap.size w w' → J p q w') (hJ0 : J false false w0)
    (hF : ∀ p q i v w w', n0 ≤ w.heap.size → F p q i v w → Below w.heap.size w w' → F p q i v w') (hn : n0 ≤ w0.heap.size)
    (hok : regOk ops a0.tmps.size = true) (h12 : depOn ops l2 l1 = true) (h2 : decide (l1 < l2 ∧ l2 + 1 < ops.size) = true) {l : Oper} (hl : ops[ops.size - 1]? = some l)
    (hstep : ∀ listed a w p q, n0 ≤ w.heap.size → J p q w → Kept ops (F p q) (Below n0) a0 w0 listed a w → ∀ (i : Nat) (o : Oper), ops[i]? = some o → i + 1 < ops.size → i ≠ l1 → i ≠ l2 → Came listed o →
      wpOp P ops Q i (fun a' w' => ∃ d v, o.dst = some d ∧ a' = a.put (some d) v ∧ Below w.heap.size w w' ∧ F p q i v w') a w)
    (hloud1 : ∀ listed a w, n0 ≤ w.heap.size → J false false w → Kept ops (F false false) (Below n0) a0 w0 listed a w → ∀ o, ops[l1]? = some o → Came listed o →
      wpOp P ops Q l1 (fun a' w' => ∃ d v, o.dst = some d ∧ a' = a.put (some d) v ∧ Below n0 w w' ∧ F true false l1 v w' ∧ J true false w' ∧ ∀ j u, j ≠ l1 → F false false j u w → F true false j u w') a w)
    (hloud2 : ∀ listed a w, n0 ≤ w.heap.size → J true false w → Kept ops (F true false) (Below n0) a0 w0 listed a w → ∀ o, ops[l2]? = some o → Came listed o →
      wpOp P ops Q l2 (fun a' w' => ∃ d v, o.dst = some d ∧ a' = a.put (some d) v ∧ Below n0 w w' ∧ F true true l2 v w' ∧ J true true w' ∧ ∀ j u, j ≠ l2 → F true false j u w → F true true j u w') a w)
    (hlast : ∀ listed a w, n0 ≤ w.heap.size → J true true w → Kept ops (F true true) (Below n0) a0 w0 listed a w → (∀ i, i + 1 < ops.size → listed.getD i false = true) → wpOp P ops Q (ops.size - 1) (fun a' w' => Q .normal a' w') a w) :
    (Code.region id ops true).wp P Q a0 w0 := by
  have hne : 0 < ops.size := by
    have := (Array.getElem?_eq_some_iff.1 hl).1
    omega
  obtain ⟨hlt12, h2⟩ := of_decide_eq_true h2
  have hb := fun (i : Nat) (o : Oper) (ho : ops[i]? = some o) => (regOk_at hok ho).1
  have hd := fun (i j : Nat) (o o' : Oper) (d : Tmp) (ho : ops[i]? = some o) (ho' : ops[j]? = some o') (hd : o.dst = some d) (hd' : o'.dst = some d) => ((regOk_at hok ho).2.1 d hd).2 j o' ho' hd'
  have hin := fun (i : Nat) (o : Oper) (d : Tmp) (ho : ops[i]? = some o) (hd : o.dst = some d) => ((regOk_at hok ho).2.1 d hd).1
  have hw := fun i (hi : i + 1 < ops.size) => (regOk_at hok (Array.getElem?_eq_getElem (show i < ops.size by omega))).2.2 hi
  have hno : ∀ i, (Array.replicate ops.size false).getD i false = false := fun i => by
    rcases Nat.lt_or_ge i ops.size with h | h <;> simp [h]
  refine region_inv hm (fun listed a w => (Kept ops (F (listed.getD l1 false) (listed.getD l2 false)) (Below n0) a0 w0 listed a w ∧ J (listed.getD l1 false) (listed.getD l2 false) w ∧ listed.getD (ops.size - 1) false = false) ∨ (listed.size = ops.size ∧ (∀ i, i < ops.size → listed.getD i false = true) ∧ Q .normal a w)) ?_ hb ?_ ?_ ?_
  · exact .inl ⟨⟨by simp, fun i o _ h => (by rw [hno] at h; cases h), rfl, rfl, (Below.refl n0 w0).drew, fun _ _ => rfl, fun i o d _ _ h => (by rw [hno] at h; cases h)⟩, by rw [hno, hno]; exact hJ _ _ _ _ hn hJ0 (Below.refl _ _).drew, hno _⟩
  · rintro listed a w (⟨h, _⟩ | ⟨h, _⟩)
    · exact h.size
    · exact h
  · rintro listed a w (⟨hk, hjw, hnl⟩ | ⟨hs, ha, _⟩) i o ho hi hc
    · have hio : i < ops.size := (Array.getElem?_eq_some_iff.1 ho).1
      have hsz : n0 ≤ w.heap.size := Nat.le_trans hn hk.grown.size
      have hpi : listed.getD i false = false := by
        have hi' : i < listed.size := by rw [hk.size]; exact hio
        simpa [hi'] using hi
      have hsl : (listed.setIfInBounds i true).getD i false = true := getD_set_self (by rw [hk.size]; exact hio)
      by_cases hlst : i = ops.size - 1
      · subst hlst
        rw [ho] at hl; cases hl
        have hall := fun j => rest_came hk.shut hw ho hc ops.size j (by omega)
        rw [hall l2 h2, hall l1 (by omega)] at hk hjw
        refine wpOp_mono (fun a' w' hq => .inr ⟨by simp [hk.size], fun j hj => ?_, hq⟩) (hlast listed a w hsz hjw hk hall)
        by_cases hjl : j = ops.size - 1
        · subst hjl; exact hsl
        · exact getD_set_true (hall j (by omega))
      · by_cases hi1 : i = l1
        · subst hi1
          have hp2 : listed.getD l2 false = false := by
            cases e : listed.getD l2 false with
            | false => rfl
            | true =>
              exfalso
              unfold depOn at h12
              cases eo : ops[l2]? with
              | none => rw [eo] at h12; cases h12
              | some o2 =>
                rw [eo] at h12
                obtain ⟨x, hx, hxe⟩ := Array.any_eq_true'.1 h12
                simp only [Bool.and_eq_true, decide_eq_true_eq] at hxe
                have := hk.shut l2 o2 eo e x hx hxe.1
                rw [hxe.2, hpi] at this
                cases this
          rw [hpi, hp2] at hk hjw
          refine wpOp_mono (fun a' w' hq => ?_) (hloud1 listed a w hsz hjw hk o ho hc)
          obtain ⟨d, v, hod, rfl, hg, hv, hj2, hj⟩ := hq
          refine .inl ⟨?_, by rw [hsl, getD_set_ne false (show i ≠ l2 by omega), hp2]; exact hj2, by rw [getD_set_ne false hlst]; exact hnl⟩
          rw [hsl, getD_set_ne false (show i ≠ l2 by omega), hp2]
          exact hk.more2 hj (hk.grown.trans hg) hd hin ho hod hc hv
        · by_cases hi2 : i = l2
          · subst hi2
            have hp1 : listed.getD l1 false = true := by
              unfold depOn at h12
              rw [ho] at h12
              obtain ⟨x, hx, hxe⟩ := Array.any_eq_true'.1 h12
              simp only [Bool.and_eq_true, decide_eq_true_eq] at hxe
              have := hc x hx hxe.1
              rwa [hxe.2] at this
            rw [hp1, hpi] at hk hjw
            refine wpOp_mono (fun a' w' hq => ?_) (hloud2 listed a w hsz hjw hk o ho hc)
            obtain ⟨d, v, hod, rfl, hg, hv, hj2, hj⟩ := hq
            refine .inl ⟨?_, by rw [hsl, getD_set_ne false (show i ≠ l1 by omega), hp1]; exact hj2, by rw [getD_set_ne false hlst]; exact hnl⟩
            rw [hsl, getD_set_ne false (show i ≠ l1 by omega), hp1]
            exact hk.more2 hj (hk.grown.trans hg) hd hin ho hod hc hv
          · refine wpOp_mono (fun a' w' hq => ?_) (hstep listed a w _ _ hsz hjw hk i o ho (by omega) hi1 hi2 hc)
            obtain ⟨d, v, hod, rfl, hg, hv⟩ := hq
            refine .inl ⟨?_, by rw [getD_set_ne false hi1, getD_set_ne false hi2]; exact hJ _ _ _ _ hsz hjw hg, by rw [getD_set_ne false hlst]; exact hnl⟩
            rw [getD_set_ne false hi1, getD_set_ne false hi2]
            exact hk.more2 (fun j u _ h => hF _ _ _ _ _ _ hsz h hg) (hk.grown.trans (hg.mono hsz)) hd hin ho hod hc hv
    · exfalso
      have hio : i < ops.size := (Array.getElem?_eq_some_iff.1 ho).1
      have := ha i hio
      have hi' : i < listed.size := by omega
      simp [hi'] at this hi
      rw [this] at hi; cases hi
  · rintro listed a w (⟨hk, _, hnl⟩ | ⟨_, _, hq⟩) ha
    · rw [ha _ (by omega)] at hnl; cases hnl
    · exact hq


theorem wpOp_call {i : Nat} {o : Oper} {a : Act} {w : World} {f : FuncId} {args : Array Value} {K : Act → World → Prop} (ho : ops[i]? = some o) (hg : o.guard = none) (hr : (execOp a.eval o).run P w = .ok (.enter f args) w)
    (hc : Calls P f args w fun e w' => ∃ v, e = .returned v ∧ K (a.put o.dst v) w') : wpOp P ops Q i K a w := by
  unfold wpOp
  rw [ho]
  show if Region.wanted o (yielded ops a.tmps) = true then _ else _
  rw [if_pos (by unfold Region.wanted; rw [hg])]
  refine .inl ?_
  unfold Oper.wp
  rw [hr]
  exact Calls.mono hc (fun e w' h => by obtain ⟨v, rfl, h⟩ := h; exact h)
end
end Go.Proofs.YtdgnefcpeocbjaaGreatDoor


namespace Go.Proofs.YtdgnefcpeocbjaaGreatDoor
open Go.RowKit
set_option linter.unusedVariables false

inductive Fk where
  | is (v : Value)
  | val (VB : Array Value) (g : Nat → Value)
  | att (M : List AT)
  | row (P : List PT) (L : List AT)
  | txt (L : List (List UInt8))
  | any
def FK (B : Nat) (T : List Fk) (q : Bool) (i : Nat) (v : Value) (w : World) : Prop := match T.getD i .any with
  | .is x => v = x
  | .val VB g => ∃ b, v = g b ∧ w.heap[b]? = some (.cells VB 9 (0, 0))
  | .att M => q = true ∨ ∃ c PM, v = .slice (some ⟨c, 0, none⟩) M.length M.length ∧ w.heap[c]? = some (.cells (cellsP PM).toArray 45 (0, 0)) ∧ SaysM w PM M
  | .row P L => q = true ∧ ∃ PM, RowP B w v (P ++ PM) ∧ SaysM w (P ++ PM) L
  | .txt L => IsTo (StrB w) w L v
  | .any => True
theorem FK.go {B : Nat} {T : List Fk} {q : Bool} {i : Nat} {v : Value} {w w' : World} (h : FK B T q i v w) (hb : Below w.heap.size w w') : FK B T q i v w' := by
  have hk : ∀ {b : Nat} {o : Obj}, w.heap[b]? = some o → w'.heap[b]? = some o := fun e => (hb.block _ (Array.getElem?_eq_some_iff.1 e).1).trans e
  unfold FK at h ⊢
  cases e : T.getD i .any with
  | is x => rw [e] at h; exact h
  | val VB g => rw [e] at h; obtain ⟨b, h1, h2⟩ := h; exact ⟨b, h1, hk h2⟩
  | att M => rw [e] at h; exact h.imp id fun ⟨c, PM, h1, h2, h3⟩ => ⟨c, PM, h1, hk h2, saysM_below h3 hb⟩
  | row P L => rw [e] at h; obtain ⟨hq, PM, h1, h2⟩ := h; exact ⟨hq, PM, rowP_below h1 hb, saysM_below h2 hb⟩
  | txt L => rw [e] at h; exact h.imp (fun b ⟨cs, fr, hc⟩ => ⟨cs, fr, hk hc⟩) (fun b o hs => hb.cell (p := ⟨b, o, none⟩) hs.lt)
  | any => exact trivial
theorem FK.loud {B : Nat} {T : List Fk} {i : Nat} {v : Value} {w w' : World} (h : FK B T false i v w) (hks : ∀ (b : Nat) (cs : Array Value) (fr : Nat × Nat), w.heap[b]? = some (.cells cs 9 fr) → w'.heap[b]? = w.heap[b]?) (hk : ∀ (b : Nat) (cs : Array Value) (e : TypeId), w.heap[b]? = some (.cells cs e (0, 0)) → e ≠ 45 → w'.heap[b]? = w.heap[b]?) : FK B T true i v w' := by
  unfold FK at h ⊢
  cases e : T.getD i .any with
  | is x => rw [e] at h; exact h
  | val VB g => rw [e] at h; obtain ⟨b, h1, h2⟩ := h; exact ⟨b, h1, (hk _ _ _ h2 (by decide)).trans h2⟩
  | att M => exact .inl rfl
  | row P L => rw [e] at h; cases h.1
  | txt L =>
    rw [e] at h
    have hs : ∀ b, StrB w b → w'.heap[b]? = w.heap[b]? := fun b ⟨cs, fr, hc⟩ => hks b cs fr hc
    exact h.imp (fun b hb => by obtain ⟨cs, fr, hc⟩ := hb; exact ⟨cs, fr, (hs b ⟨cs, fr, hc⟩).trans hc⟩) (fun b o hb => by simp only [World.cell?, hs b hb])
  | any => exact trivial

def kOf (ns : List UInt8) (i : Nat) : Nat := (ns.getD i 0).toNat
structure MkAt (B : Nat) (W : World) (ge : Nat) (D : ByteArray) (u : Value) (P : List PT) (L : List AT) (kb : Nat) (KC : Array Value) : Prop where
  box : BoxN W ge D u
  row : RowP B W u P
  says : SaysM W P L
  nums : W.heap[kb]? = some (.cells KC 3 (0, 0))
  lo : B ≤ ge
theorem MkAt.own {B ge kb : Nat} {D : ByteArray} {u : Value} {P : List PT} {L : List AT} {KC : Array Value} {W : World} (h : MkAt B W ge D u P L kb KC) : OwnM B W u L := ⟨P, h.row, h.says⟩
theorem MkAt.go {B ge kb : Nat} {D : ByteArray} {u : Value} {P : List PT} {L : List AT} {KC : Array Value} {W W' : World} (h : MkAt B W ge D u P L kb KC) (hb : Below W.heap.size W W') : MkAt B W' ge D u P L kb KC :=
  ⟨h.box.below hb (Array.getElem?_eq_some_iff.1 h.box).1, rowP_below h.row hb, saysM_below h.says hb, (hb.block _ (Array.getElem?_eq_some_iff.1 h.nums).1).trans h.nums, h.lo⟩
def MkJ (B ge kb : Nat) (D : ByteArray) (u : Value) (P : List PT) (L : List AT) (KC : Array Value) (q : Bool) (W : World) : Prop := BoxN W ge D u ∧ W.heap[kb]? = some (.cells KC 3 (0, 0)) ∧ (q = false → RowP B W u P ∧ SaysM W P L)
theorem MkJ.go {B ge kb : Nat} {D : ByteArray} {u : Value} {P : List PT} {L : List AT} {KC : Array Value} {q : Bool} {W W' : World} (h : MkJ B ge kb D u P L KC q W) (hb : Below W.heap.size W W') : MkJ B ge kb D u P L KC q W' :=
  ⟨h.1.below hb (Array.getElem?_eq_some_iff.1 h.1).1, (hb.block _ (Array.getElem?_eq_some_iff.1 h.2.1).1).trans h.2.1, fun e => ⟨rowP_below (h.2.2 e).1 hb, saysM_below (h.2.2 e).2 hb⟩⟩
theorem MkJ.loud {B ge kb : Nat} {D : ByteArray} {u : Value} {P : List PT} {L : List AT} {KC : Array Value} {q : Bool} {W W' : World} (h : MkJ B ge kb D u P L KC q W) (hk : ∀ (b : Nat) (cs : Array Value) (e : TypeId), W.heap[b]? = some (.cells cs e (0, 0)) → e ≠ 45 → W'.heap[b]? = W.heap[b]?) : MkJ B ge kb D u P L KC true W' :=
  ⟨(hk _ _ _ h.1 (by decide)).trans h.1, (hk _ _ _ h.2.1 (by decide)).trans h.2.1, fun e => by cases e⟩
theorem MkAt.j {B ge kb : Nat} {D : ByteArray} {u : Value} {P : List PT} {L : List AT} {KC : Array Value} {W : World} (h : MkAt B W ge D u P L kb KC) : MkJ B ge kb D u P L KC false W := ⟨h.box, h.nums, fun _ => ⟨h.row, h.says⟩⟩
theorem run_append_P {B : Nat} {w : World} {v : Value} {P : List PT} {L : List AT} (hr : RowP B w v P) (hsay : SaysM w P L) (hB : B ≤ w.heap.size) {PM : List PT} {M : List AT} (hs : SaysM w PM M) (ad : Addr) (c : Nat)
    (hc : ∀ j u, (cellsP PM)[j]? = some u → w.cell? (ad.add j) = some u) (hlen : L.length + M.length ≤ 1000) (ty : TypeId) :
    ∃ v' w', (Builtin.append_ #[26, 26] ty #[v, .slice (some ad) M.length c]).run Tryz.prog w = .ok v' w' ∧ RowP B w' v' (P ++ PM) ∧ SaysM w' (P ++ PM) (L ++ M) ∧ Below B w w' ∧
      (∀ (k : Nat) (cs : Array Value) (fr : Nat × Nat), w.heap[k]? = some (.cells cs 9 fr) → w'.heap[k]? = w.heap[k]?) ∧ (∀ (k : Nat) (cs : Array Value) (e : TypeId), w.heap[k]? = some (.cells cs e (0, 0)) → e ≠ 45 → w'.heap[k]? = w.heap[k]?) := by
  obtain ⟨i0, hi, hz0, hz1, hz2⟩ := info_parts infoA
  have e1 := hsay.1
  have e2 := hs.1
  have h1 : ∀ u ∈ cellsP PM, u.oneCell' = true := by
    intro u hu
    have : ∀ (l : List PT), (∀ j (h : j < l.length), l[j].2.oneCell' = true) → ∀ u ∈ cellsP l, u.oneCell' = true := by
      intro l
      induction l with
      | nil => intro _ u hu; simp [cellsP] at hu
      | cons r l ih =>
        intro h u hu
        simp only [cellsP, List.mem_cons] at hu
        rcases hu with rfl | rfl | hu
        · rfl
        · exact h 0 (by simp)
        · exact ih (fun j hj => h (j + 1) (by simpa using hj)) u hu
    exact this PM (fun j hj => one_isTo (hs.2 j (by omega) hj).2) u hu
  obtain ⟨v', w', hrun, hown', hgrow, _, hat⟩ := run_append_own_at (P := Tryz.prog) w B 26 ty 45 i0 (.agg #[.string ⟨#[]⟩, .slice none 0 0]) 2 40 Tryz.underlying26 hi hz0 hz1 hz2 rfl (by decide) v P.length (cellsP P) hr ad PM.length c (cellsP PM) (cellsP_length PM) hc h1 (by unfold maxLen; omega) (by omega) hB
  rw [e2] at hrun
  refine ⟨v', w', hrun, ?_, saysM_app (saysM_grown hr hgrow hsay) (saysM_grown hr hgrow hs), (Below.refl B w).grown hgrow hB (fun k e => (World.ownsRow.lt hr k e).1), fun k cs fr hk => row_keep hr hgrow hk (by decide), fun k cs e hk hne => row_keep hr hgrow hk hne⟩
  unfold RowP
  rw [List.length_append, cellsP_append]
  exact hown'

theorem rowP_setE {B b i : Nat} {w : World} {v x : Value} {P : List PT} {L : List AT} {cs : Array Value} {fr : Nat × Nat} (hr : RowP B w v P) (hs : SaysM w P L) (hb : w.heap[b]? = some (.cells cs 28 fr)) : RowP B (w.setCell ⟨b, i, none⟩ x) v P ∧ SaysM (w.setCell ⟨b, i, none⟩ x) P L := by
  have hgr : w.grownBy (w.setCell ⟨b, i, none⟩ x) (some b) := ⟨rfl, rfl, rfl, by simp [World.setCell], fun k hk hn => block_ne w ⟨b, i, none⟩ x (fun e => hn (by rw [e]))⟩
  refine ⟨World.ownsRow.kept hr hgr (.inr fun he => ?_), saysM_to hs fun k hk => block_ne w ⟨b, i, none⟩ x fun e => ?_⟩
  · rcases hr.2 with ⟨rfl, _⟩ | ⟨g, cap, cur, rfl, _, hgc, _⟩
    · cases he
    · have : g = b := by simpa [Value.ownBlock] using he
      subst this
      rw [hgc] at hb
      cases hb
  · obtain ⟨cs', fr', hk⟩ := hk
    rw [show k = b from e, hb] at hk
    cases hk
theorem mkAt_store {B ge kb : Nat} {D : ByteArray} {u s : Value} {P P2 : List PT} {L L2 : List AT} {KC : Array Value} {W : World} {q : Bool} (h : MkJ B ge kb D u P L KC q W) (hr : RowP B W s P2) (hs : SaysM W P2 L2) (hlo : B ≤ ge) : MkAt B (W.setCell ⟨ge, 1, none⟩ s) ge D s P2 L2 kb KC ∧ W.cell? ⟨ge, 1, none⟩ = some u ∧ W.frozen? ⟨ge, 1, none⟩ = false := by
  obtain ⟨hb, hk, _⟩ := h
  have hne : kb ≠ ge := fun e => by
    unfold BoxN at hb
    rw [e, hb] at hk
    cases hk
  refine ⟨⟨?_, (rowP_setE hr hs hb).1, (rowP_setE hr hs hb).2, (block_ne W ⟨ge, 1, none⟩ s hne).trans hk, hlo⟩, hb.cells.2, ?_⟩
  · unfold BoxN at hb ⊢
    simp [World.setCell, Array.getElem?_modify, hb]
  · unfold BoxN at hb
    simp [World.frozen?, hb]
theorem mkAt_name {B ge kb : Nat} {D D2 : ByteArray} {u : Value} {P : List PT} {L : List AT} {KC : Array Value} {W : World} (h : MkAt B W ge D u P L kb KC) : MkAt B (W.setCell ⟨ge, 0, none⟩ (.string D2)) ge D2 u P L kb KC ∧ W.cell? ⟨ge, 0, none⟩ = some (.string D) ∧ W.frozen? ⟨ge, 0, none⟩ = false := by
  obtain ⟨hb, hr, hs, hk, hlo⟩ := h
  have hne : kb ≠ ge := fun e => by
    unfold BoxN at hb
    rw [e, hb] at hk
    cases hk
  refine ⟨⟨?_, (rowP_setE hr hs hb).1, (rowP_setE hr hs hb).2, (block_ne W ⟨ge, 0, none⟩ _ hne).trans hk, hlo⟩, hb.cells.1, ?_⟩
  · unfold BoxN at hb ⊢
    simp [World.setCell, Array.getElem?_modify, hb]
  · unfold BoxN at hb
    simp [World.frozen?, hb]

theorem cellsP_set : ∀ (P : List PT) (j : Nat) (h : j < P.length) (u : Value), (cellsP P).set (j * 2 + 1) u = cellsP (P.set j (P[j].1, u))
  | r :: l, 0, _, u => rfl
  | r :: l, j + 1, h, u => by
    rw [show (j + 1) * 2 + 1 = (j * 2 + 1) + 2 from by omega]
    show strV r.1 :: r.2 :: (cellsP l).set (j * 2 + 1) u = strV r.1 :: r.2 :: cellsP (l.set j _)
    rw [cellsP_set l j (by simpa using h) u]
    rfl
theorem rowP_set {B g n cap : Nat} {w : World} {P : List PT} {L : List AT} {j : Nat} (hj : j < L.length) (hjP : j < P.length) {A' : List (List UInt8)} {u : Value} (hr : RowP B w (.slice (some ⟨g, 0, none⟩) n cap) P) (hs : SaysM w P L) (hu : IsTo (StrB w) w A' u) :
    RowP B (w.setCell ⟨g, j * 2 + 1, none⟩ u) (.slice (some ⟨g, 0, none⟩) n cap) (P.set j (P[j].1, u)) ∧ SaysM (w.setCell ⟨g, j * 2 + 1, none⟩ u) (P.set j (P[j].1, u)) (L.set j (L[j].1, A')) ∧ w.cell? ⟨g, j * 2 + 1, none⟩ = some P[j].2 ∧ w.frozen? ⟨g, j * 2 + 1, none⟩ = false ∧ (∃ cs, w.heap[g]? = some (.cells cs 45 (0, 0))) ∧ B ≤ g ∧ n = P.length := by
  have hPl := hs.1
  unfold RowP at hr
  have hg : ∃ cs, w.heap[g]? = some (.cells cs 45 (0, 0)) ∧ B ≤ g ∧ n = P.length := by
    rcases hr.2 with ⟨h', _⟩ | ⟨g', cap', cur, h', hb, hg, _⟩
    · simp at h'
    · simp only [Value.slice.injEq, Option.some.injEq, Addr.mk.injEq, and_true] at h'
      obtain ⟨rfl, rfl, _⟩ := h'
      exact ⟨cur, hg, hb, rfl⟩
  obtain ⟨cs, hg, hB, rfl⟩ := hg
  have hst := (World.ownsRow.stored hr (j * 2 + 1) u).1
  have hcl := World.ownsRow.cellAt hr (j * 2 + 1) (by omega)
  rw [cellsP_set P j hjP u] at hst
  have hot : ∀ k, StrB w k → (w.setCell ⟨g, j * 2 + 1, none⟩ u).heap[k]? = w.heap[k]? := fun k hk => block_ne w ⟨g, _, none⟩ u fun e => by
    obtain ⟨cs', fr', hk⟩ := hk
    rw [show k = g from e, hg] at hk
    cases hk
  refine ⟨?_, ?_, by rw [hcl]; exact (cellsP_get P j hjP).2, World.ownsRow.frozenAt hr _, ⟨cs, hg⟩, hB, rfl⟩
  · unfold RowP
    rw [List.length_set]
    exact hst
  · refine ⟨by simp [hPl], fun i hi hi' => ?_⟩
    have hi1 : i < L.length := by simpa using hi
    have hi2 : i < P.length := by simpa using hi'
    have base := hs.2 i hi1 hi2
    by_cases hij : j = i
    · subst hij
      rw [List.getElem_set_self, List.getElem_set_self]
      exact ⟨base.1, hu.imp (fun b hb => by obtain ⟨cs', fr', e⟩ := hb; exact ⟨cs', fr', (hot b ⟨cs', fr', e⟩).trans e⟩) (fun b o hb => by simp only [World.cell?, hot b hb])⟩
    · rw [List.getElem_set_ne hij, List.getElem_set_ne hij]
      exact ⟨base.1, base.2.imp (fun b hb => by obtain ⟨cs', fr', e⟩ := hb; exact ⟨cs', fr', (hot b ⟨cs', fr', e⟩).trans e⟩) (fun b o hb => by simp only [World.cell?, hot b hb])⟩
end Go.Proofs.YtdgnefcpeocbjaaGreatDoor


namespace Go.Proofs.YtdgnefcpeocbjaaGreatDoor
open Go.RowKit
set_option linter.unusedVariables false

def mkN (ns : List UInt8) : List UInt8 := 110 :: Lib.itoa ((kOf ns 0 % 6 : Nat) : Int)
def mkLa (ns : List UInt8) : List AT := if kOf ns 1 % 3 = 0 then [([99, 110], [mkN ns]), (objB, [[105, 110, 101, 116, 79, 114, 103, 80, 101, 114, 115, 111, 110]]), ([115, 110], [[115]]), ([109, 97, 105, 108], [[97, 64] ++ Lib.itoa (kOf ns 2 : Int)])] else perL (mkN ns)
def mkLb (ns : List UInt8) : List AT := if kOf ns 1 % 3 = 1 then mkLa ns ++ [([68, 101, 115, 99, 114, 105, 112, 116, 105, 111, 110], [[100, 32] ++ Lib.itoa ((kOf ns 2 % 9 : Nat) : Int), [101]])] else mkLa ns
def mkLc (ns : List UInt8) : List AT := if kOf ns 3 % 4 = 0 then (mkLb ns).set 1 (objB, ((mkLb ns).getD 1 ([], [])).2 ++ [[112, 111, 115, 105, 120]]) ++ [([117, 105, 100], [[117] ++ Lib.itoa ((kOf ns 4 % 9 : Nat) : Int)]), ([117, 105, 100, 78, 117, 109, 98, 101, 114], [Lib.itoa ((kOf ns 4 : Int) - 100)])] else mkLb ns
def mkLd (ns : List UInt8) : List AT := if kOf ns 3 % 4 = 1 then mkLc ns ++ [([117, 115, 101, 114, 80, 97, 115, 115, 119, 111, 114, 100], [[115, 101, 99, 114, 101, 116]])] else mkLc ns
def mkD (ns : List UInt8) : List UInt8 := if kOf ns 5 % 5 = 0 then [99, 110, 61] ++ mkN ns else if kOf ns 5 % 5 = 1 then [67, 78, 61] ++ mkN ns ++ [44, 111, 117, 61, 97, 44, 111, 61, 120] else perD (mkN ns)
end Go.Proofs.YtdgnefcpeocbjaaGreatDoor


namespace Go.Proofs.YtdgnefcpeocbjaaGreatDoor
open Go.RowKit
set_option linter.unusedVariables false

theorem run_grow_one {w : World} {vb c : Nat} {X : List UInt8} (h : IsTo (StrB w) w [X] (.slice (some ⟨vb, 0, none⟩) 1 1)) {Z : ByteArray} (hc : w.heap[c]? = some (.cells #[.string Z] 9 (0, 0))) (ty : TypeId) :
    ∃ v' w', (Builtin.append_ #[22, 22] ty #[.slice (some ⟨vb, 0, none⟩) 1 1, .slice (some ⟨c, 0, none⟩) 1 1]).run Tryz.prog w = .ok v' w' ∧ Below w.heap.size w w' ∧ IsTo (StrB w') w' ([X] ++ [Z.data.toList]) v' := by
  obtain ⟨i0, hi, hz0, hz1, hz2⟩ := info_parts infoS
  obtain ⟨a, cc, e, _, hh⟩ := h
  obtain ⟨b, off, e2, hb, hcell⟩ := hh 0 (by simp)
  subst e2
  simp only [Value.slice.injEq, Option.some.injEq, Addr.mk.injEq, and_true] at e
  obtain ⟨⟨rfl, rfl⟩, _, _⟩ := e
  have hcell : w.cell? ⟨vb, 0, none⟩ = some (strV X) := hcell
  have hsrc : Src Tryz.prog i0.size 22 (.slice (some ⟨c, 0, none⟩) 1 1) 1 [.string Z] w := by
    rw [hz1]
    refine Src.ofSlice w Tryz.underlying22 ⟨c, 0, none⟩ 1 1 [.string Z] (by simp) ?_ (by simp [Value.oneCell'])
    intro j u hu
    match j, hu with
    | 0, hu =>
      have : u = .string Z := by simpa using hu.symm
      subst this
      simp [World.cell?, Addr.add, hc]
  have hold : (Builtin.firstCells i0.size 1 (.slice (some ⟨vb, 0, none⟩) 1 1)).run Tryz.prog w.drew = .ok [strV X].toArray w.drew := by
    rw [hz1]
    refine run_firstCells_some w.drew 1 1 ⟨vb, 0, none⟩ 1 1 [strV X] (by simp) ?_
    intro j u hu
    match j, hu with
    | 0, hu =>
      have : u = strV X := by simpa using hu.symm
      subst this
      exact hcell
  have hrun := run_append_grow_src (P := Tryz.prog) w 22 22 ty 9 i0 (.string ⟨#[]⟩) Tryz.underlying22 hi hz0 (some ⟨vb, 0, none⟩) 1 1 [strV X] hold (.slice (some ⟨c, 0, none⟩) 1 1) 1 [.string Z] hsrc (by omega) (by omega) (by rw [hz2]; decide)
  refine ⟨_, _, hrun, (Below.refl _ _).drew.alloc (Nat.le_refl _) _, ?_⟩
  have hnew := heap_alloc_new w.drew (.cells (([strV X] ++ [Value.string Z]).toArray ++ Builtin.zeroCells (Value.string ⟨#[]⟩).cells (grownCap w (1 + 1) 1 9 - (1 + 1))) 9)
  have hds : w.drew.heap.size = w.heap.size := rfl
  rw [hds] at hnew
  refine ⟨_, _, rfl, by unfold maxLen; simp, fun j hj => ?_⟩
  match j, hj with
  | 0, _ =>
    refine ⟨w.heap.size, 0, rfl, strB_at hnew, ?_⟩
    simp only [World.cell?, hnew]
    rw [Array.getElem?_append_left (by simp)]
    rfl
  | 1, _ =>
    refine ⟨w.heap.size, 0, rfl, strB_at hnew, ?_⟩
    show _ = some (strV Z.data.toList)
    rw [strV_whole]
    simp only [World.cell?, hnew]
    rw [Array.getElem?_append_left (by simp)]
    rfl

theorem row_second {B g n cap : Nat} {w : World} {P : List PT} {L : List AT} {T : List UInt8} {V : Value} {A : List (List UInt8)} (hr : RowP B w (.slice (some ⟨g, 0, none⟩) n cap) P) (hs : SaysM w P L) (hP : ∃ t, P[1]? = some (t, V)) (hL : L[1]? = some (T, A)) :
    w.cell? ⟨g, 3, none⟩ = some V ∧ w.frozen? ⟨g, 3, none⟩ = false ∧ IsTo (StrB w) w A V := by
  obtain ⟨t, hP⟩ := hP
  obtain ⟨h1, e1⟩ := List.getElem?_eq_some_iff.1 hP
  obtain ⟨h2, e2⟩ := List.getElem?_eq_some_iff.1 hL
  obtain ⟨_, _, c3, f3, _⟩ := rowP_set (j := 1) (A' := []) (u := .slice none 0 0) h2 h1 hr hs ⟨_, _, rfl, by unfold maxLen; simp, fun j hj => absurd hj (by simp)⟩
  have := (hs.2 1 h2 h1).2
  rw [e1] at c3 this
  rw [e2] at this
  exact ⟨c3, f3, this⟩
theorem row_some {B : Nat} {w : World} {u : Value} {P : List PT} (hr : RowP B w u P) (h : 1 < P.length) : ∃ g n cap, u = .slice (some ⟨g, 0, none⟩) n cap ∧ 1 < n := by
  unfold RowP at hr
  rcases hr.2 with ⟨_, hz⟩ | ⟨g, cap, cur, rfl, _⟩
  · omega
  · exact ⟨g, _, cap, rfl, h⟩
theorem mkLb_one (ns : List UInt8) : ∃ x, (mkLb ns)[1]? = some (objB, [x]) := by
  unfold mkLb mkLa
  split <;> split <;> exact ⟨_, rfl⟩
theorem addr0 (c j : Nat) : (⟨c, 0, none⟩ : Addr).add j = ⟨c, j, none⟩ := by simp [Addr.add]; omega
theorem saysM_two {w : World} {b : Nat} {X Y Z : ByteArray} (h : w.heap[b]? = some (.cells #[.string Y, .string Z] 9 (0, 0))) : SaysM w [(X.data.toList, .slice (some ⟨b, 0, none⟩) 2 2)] [(X.data.toList, [Y.data.toList, Z.data.toList])] :=
  ⟨rfl, fun j hj hj' => by
    have : j = 0 := by simp at hj; omega
    subst this
    refine ⟨rfl, _, _, rfl, by unfold maxLen; simp, fun k hk => ?_⟩
    match k, hk with
    | 0, _ =>
      refine ⟨b, 0, rfl, strB_at h, ?_⟩
      show _ = some (strV Y.data.toList)
      rw [strV_whole]
      simp only [World.cell?, h]
      rfl
    | 1, _ =>
      refine ⟨b, 0, rfl, strB_at h, ?_⟩
      show _ = some (strV Z.data.toList)
      rw [strV_whole]
      simp only [World.cell?, h]
      rfl⟩
end Go.Proofs.YtdgnefcpeocbjaaGreatDoor


namespace Go.Proofs.YtdgnefcpeocbjaaGreatDoor
open Go.RowKit
set_option linter.unusedVariables false

def tinyT (k : Nat) (A : List (List UInt8)) : Prop := A.length ≤ k ∧ ∀ t ∈ A, t.length ≤ 1000
def tinyA (k : Nat) (L : List AT) : Prop := L.length ≤ k ∧ ∀ a ∈ L, a.1.length ≤ 1000 ∧ tinyT k a.2
theorem tinyT.mono {k m : Nat} {A : List (List UInt8)} (h : tinyT k A) (hk : k ≤ m) : tinyT m A := ⟨Nat.le_trans h.1 hk, h.2⟩
theorem tinyA.mono {k m : Nat} {L : List AT} (h : tinyA k L) (hk : k ≤ m) : tinyA m L := ⟨Nat.le_trans h.1 hk, fun a ha => ⟨(h.2 a ha).1, (h.2 a ha).2.mono hk⟩⟩
theorem tinyA.set {k j : Nat} {L : List AT} {x : AT} (h : tinyA k L) (h1 : x.1.length ≤ 1000) (h2 : tinyT k x.2) : tinyA k (L.set j x) :=
  ⟨by simpa using h.1, fun a ha => by
    rcases List.mem_or_eq_of_mem_set ha with h' | rfl
    · exact h.2 _ h'
    · exact ⟨h1, h2⟩⟩
theorem tinyA.app {k : Nat} {L M : List AT} (h : tinyA k L) (hm : tinyA k M) (hl : L.length + M.length ≤ k) : tinyA k (L ++ M) :=
  ⟨by rw [List.length_append]; exact hl, fun a ha => by
    rcases List.mem_append.1 ha with h' | h'
    · exact h.2 _ h'
    · exact hm.2 _ h'⟩
theorem tinyT.app {k : Nat} {L M : List (List UInt8)} (h : tinyT k L) (hm : tinyT k M) (hl : L.length + M.length ≤ k) : tinyT k (L ++ M) :=
  ⟨by rw [List.length_append]; exact hl, fun a ha => by
    rcases List.mem_append.1 ha with h' | h'
    · exact h.2 _ h'
    · exact hm.2 _ h'⟩
theorem tinyA.small {k : Nat} {L : List AT} (h : tinyA k L) (hk : k ≤ 1000) : smallA L :=
  ⟨Nat.le_trans h.1 hk, fun a ha => ⟨Nat.le_trans (h.2 a ha).1 (by omega), Nat.le_trans (h.2 a ha).2.1 hk, fun s hs => Nat.le_trans ((h.2 a ha).2.2 s hs) (by omega)⟩⟩
theorem tinyA.at {k j : Nat} {L : List AT} (h : tinyA k L) (hj : j < L.length) : L[j].1.length ≤ 1000 ∧ tinyT k L[j].2 := h.2 _ (List.getElem_mem hj)

end Go.Proofs.YtdgnefcpeocbjaaGreatDoor


namespace Go.Proofs.YtdgnefcpeocbjaaGreatDoor
open Go.RowKit
set_option linter.unusedVariables false

theorem len_one {x : List UInt8} (h : x.length ≤ 1000) : tinyT 1 [x] := ⟨by simp, fun t ht => by rw [List.mem_singleton.1 ht]; exact h⟩
theorem mkN_len (ns : List UInt8) : (mkN ns).length ≤ 4 := by
  unfold mkN
  have := itoa_short ⟨kOf ns 0 % 6, by omega⟩
  simp only [List.length_cons]
  exact Nat.succ_le_succ this
theorem itoa_kOf (ns : List UInt8) (i : Nat) : (Lib.itoa (kOf ns i : Int)).length ≤ 3 := itoa_short ⟨kOf ns i, by have : kOf ns i < 256 := (ns.getD i 0).toNat_lt; omega⟩
theorem itoa_mod (n : Nat) : (Lib.itoa ((n % 9 : Nat) : Int)).length ≤ 3 := itoa_short ⟨n % 9, by omega⟩
def nonA (L : List AT) : Prop := ∀ a ∈ L, a.2 ≠ []
theorem tiny_one {k : Nat} (hk : 1 ≤ k) {T : List UInt8} {A : List (List UInt8)} (hT : T.length ≤ 1000) (hA : tinyT k A) : tinyA k [(T, A)] := ⟨by simpa using hk, fun a ha => by rw [List.mem_singleton.1 ha]; exact ⟨hT, hA⟩⟩
theorem perL_tiny {n : List UInt8} (h : n.length ≤ 1000) : tinyA 3 (perL n) ∧ nonA (perL n) :=
  ⟨⟨by simp [perL], fun a ha => by
    simp only [perL, List.mem_cons, List.not_mem_nil, or_false] at ha
    rcases ha with rfl | rfl | rfl
    · exact ⟨by simp, (len_one h).mono (by omega)⟩
    · exact ⟨by decide, (len_one (by decide)).mono (by omega)⟩
    · exact ⟨by decide, (len_one (by decide)).mono (by omega)⟩⟩, fun a ha => by
    simp only [perL, List.mem_cons, List.not_mem_nil, or_false] at ha
    rcases ha with rfl | rfl | rfl <;> simp⟩
theorem nonA.app {L M : List AT} (h : nonA L) (hm : nonA M) : nonA (L ++ M) := fun a ha => (List.mem_append.1 ha).elim (h a) (hm a)
theorem mkLa_tiny (ns : List UInt8) : tinyA 4 (mkLa ns) ∧ nonA (mkLa ns) := by
  unfold mkLa
  have hn := mkN_len ns
  split
  · refine ⟨⟨by simp, fun a ha => ?_⟩, fun a ha => ?_⟩
    · simp only [List.mem_cons, List.not_mem_nil, or_false] at ha
      rcases ha with rfl | rfl | rfl | rfl
      · exact ⟨by simp, (len_one (by omega)).mono (by omega)⟩
      · exact ⟨by decide, (len_one (by decide)).mono (by omega)⟩
      · exact ⟨by simp, (len_one (by decide)).mono (by omega)⟩
      · exact ⟨by simp, (len_one (by have := itoa_kOf ns 2; simp only [List.length_append]; simp; omega)).mono (by omega)⟩
    · simp only [List.mem_cons, List.not_mem_nil, or_false] at ha
      rcases ha with rfl | rfl | rfl | rfl <;> simp
  · obtain ⟨h1, h2⟩ := perL_tiny (n := mkN ns) (by omega)
    exact ⟨h1.mono (by omega), h2⟩
theorem mkLb_tiny (ns : List UInt8) : tinyA 5 (mkLb ns) ∧ nonA (mkLb ns) := by
  unfold mkLb
  obtain ⟨h1, h2⟩ := mkLa_tiny ns
  split
  · refine ⟨(h1.mono (by omega)).app (tiny_one (by omega) (by decide) ⟨by simp, fun t ht => ?_⟩) (by have := h1.1; simp; omega), h2.app fun a ha => by rw [List.mem_singleton.1 ha]; simp⟩
    simp only [List.mem_cons, List.not_mem_nil, or_false] at ht
    rcases ht with rfl | rfl
    · have := itoa_mod (kOf ns 2)
      simp only [List.length_append]
      simp at this ⊢
      omega
    · decide
  · exact ⟨h1.mono (by omega), h2⟩
theorem mkLc_tiny (ns : List UInt8) : tinyA 7 (mkLc ns) ∧ nonA (mkLc ns) := by
  unfold mkLc
  obtain ⟨h1, h2⟩ := mkLb_tiny ns
  split
  · have ht : tinyA 7 ((mkLb ns).set 1 (objB, ((mkLb ns).getD 1 ([], [])).2 ++ [[112, 111, 115, 105, 120]])) := (h1.mono (by omega)).set (by simp [objB]) (by
      refine tinyT.app ?_ ((len_one (by decide)).mono (by omega)) ?_
      · obtain ⟨x, hx⟩ := mkLb_one ns
        rw [List.getD_eq_getElem?_getD, hx]
        exact ((h1.2 _ (List.mem_of_getElem? hx)).2).mono (by omega)
      · obtain ⟨x, hx⟩ := mkLb_one ns
        rw [List.getD_eq_getElem?_getD, hx]
        simp)
    have hn : nonA ((mkLb ns).set 1 (objB, ((mkLb ns).getD 1 ([], [])).2 ++ [[112, 111, 115, 105, 120]])) := fun a ha => by
      rcases List.mem_or_eq_of_mem_set ha with h' | rfl
      · exact h2 _ h'
      · simp
    have hl : ((mkLb ns).set 1 (objB, ((mkLb ns).getD 1 ([], [])).2 ++ [[112, 111, 115, 105, 120]])).length ≤ 5 := by rw [List.length_set]; exact h1.1
    generalize (mkLb ns).set 1 (objB, ((mkLb ns).getD 1 ([], [])).2 ++ [[112, 111, 115, 105, 120]]) = M at ht hn hl ⊢
    refine ⟨ht.app ⟨by simp, fun a ha => ?_⟩ (by simp; omega), hn.app fun a ha => ?_⟩
    · simp only [List.mem_cons, List.not_mem_nil, or_false] at ha
      rcases ha with rfl | rfl
      · exact ⟨by simp, (len_one (by have := itoa_mod (kOf ns 4); simp only [List.length_append]; simp at this ⊢; omega)).mono (by omega)⟩
      · refine ⟨by simp, (len_one ?_).mono (by omega)⟩
        have hk : kOf ns 4 < 256 := (ns.getD 4 0).toNat_lt
        have := itoa_len ((kOf ns 4 : Int) - 100) (by omega)
        omega
    · simp only [List.mem_cons, List.not_mem_nil, or_false] at ha
      rcases ha with rfl | rfl <;> simp
  · exact ⟨h1.mono (by omega), h2⟩
theorem mkLd_tiny (ns : List UInt8) : tinyA 8 (mkLd ns) ∧ nonA (mkLd ns) := by
  unfold mkLd
  obtain ⟨h1, h2⟩ := mkLc_tiny ns
  split
  · exact ⟨(h1.mono (by omega)).app (tiny_one (by omega) (by decide) ((len_one (by decide)).mono (by omega))) (by have := h1.1; simp; omega), h2.app fun a ha => by rw [List.mem_singleton.1 ha]; simp⟩
  · exact ⟨h1.mono (by omega), h2⟩
theorem mkLd_pos (ns : List UInt8) : 0 < (mkLd ns).length := by
  unfold mkLd mkLc mkLb mkLa
  split <;> split <;> split <;> split <;> simp [perL]
theorem mkD_len (ns : List UInt8) : (mkD ns).length ≤ 30 := by
  have := mkN_len ns
  unfold mkD perD
  split
  · simp only [List.length_append]; simp; omega
  · split
    · simp only [List.length_append]; simp; omega
    · simp only [List.length_append]; simp; omega
end Go.Proofs.YtdgnefcpeocbjaaGreatDoor


namespace Go.Proofs.YtdgnefcpeocbjaaGreatDoor
set_option linter.unusedVariables false
set_option linter.unusedSimpArgs false

def mkTypes : List (List UInt8) := [[99, 110], [111, 98, 106, 101, 99, 116, 99, 108, 97, 115, 115], [115, 110], [109, 97, 105, 108], [68, 101, 115, 99, 114, 105, 112, 116, 105, 111, 110], [117, 105, 100], [117, 105, 100, 78, 117, 109, 98, 101, 114], [117, 115, 101, 114, 80, 97, 115, 115, 119, 111, 114, 100]]
structure MkIs (ns : List UInt8) (L : List AT) : Prop where
  first : ∃ r, L = ([99, 110], [mkN ns]) :: r
  types : ∀ a ∈ L, a.1 ∈ mkTypes
theorem MkIs.app {ns : List UInt8} {L M : List AT} (h : MkIs ns L) (hM : ∀ a ∈ M, a.1 ∈ mkTypes) : MkIs ns (L ++ M) := by
  obtain ⟨⟨r, rfl⟩, h2⟩ := h
  refine ⟨⟨r ++ M, rfl⟩, fun a ha => ?_⟩
  rcases List.mem_append.1 ha with h | h
  · exact h2 a h
  · exact hM a h
theorem MkIs.set {ns : List UInt8} {L : List AT} (h : MkIs ns L) (v : List (List UInt8)) : MkIs ns (L.set 1 (objB, v)) := by
  obtain ⟨⟨r, rfl⟩, h2⟩ := h
  refine ⟨⟨r.set 0 (objB, v), rfl⟩, fun a ha => ?_⟩
  rcases List.mem_or_eq_of_mem_set ha with h | h
  · exact h2 a h
  · rw [h]; show objB ∈ mkTypes; decide
theorem mkLa_is (ns : List UInt8) : MkIs ns (mkLa ns) := by
  unfold mkLa
  split
  · refine ⟨⟨_, rfl⟩, ?_⟩
    intro a ha
    simp only [List.mem_cons, List.not_mem_nil, or_false] at ha
    rcases ha with rfl | rfl | rfl | rfl <;> simp [mkTypes, objB]
  · refine ⟨⟨_, rfl⟩, ?_⟩
    intro a ha
    simp only [perL, List.mem_cons, List.not_mem_nil, or_false] at ha
    rcases ha with rfl | rfl | rfl <;> simp [mkTypes]
theorem mkLb_is (ns : List UInt8) : MkIs ns (mkLb ns) := by
  unfold mkLb
  split
  · refine (mkLa_is ns).app ?_
    intro a ha
    simp only [List.mem_cons, List.not_mem_nil, or_false] at ha
    rw [ha]; simp [mkTypes]
  · exact mkLa_is ns
theorem mkLc_is (ns : List UInt8) : MkIs ns (mkLc ns) := by
  unfold mkLc
  split
  · refine ((mkLb_is ns).set _).app ?_
    intro a ha
    simp only [List.mem_cons, List.not_mem_nil, or_false] at ha
    rcases ha with rfl | rfl <;> simp [mkTypes]
  · exact mkLb_is ns
theorem mkLd_is (ns : List UInt8) : MkIs ns (mkLd ns) := by
  unfold mkLd
  split
  · refine (mkLc_is ns).app ?_
    intro a ha
    simp only [List.mem_cons, List.not_mem_nil, or_false] at ha
    rw [ha]; simp [mkTypes]
  · exact mkLc_is ns
theorem find_CN (ns : List UInt8) : findA (mkLd ns) [67, 78] = [mkN ns] := by
  obtain ⟨r, hr⟩ := (mkLd_is ns).first
  rw [hr]
  unfold findA
  rw [List.find?_cons_of_pos (by show (low [99, 110] == low [67, 78]) = true; decide)]
theorem find_member (ns : List UInt8) : findA (mkLd ns) [109, 101, 109, 98, 101, 114] = [] := by
  have h : (mkLd ns).find? (fun a => low a.1 == low [109, 101, 109, 98, 101, 114]) = none := by
    rw [List.find?_eq_none]
    intro a ha
    have h1 := (mkLd_is ns).types a ha
    have h2 : ∀ t ∈ mkTypes, ¬ (low t == low [109, 101, 109, 98, 101, 114]) = true := by decide
    exact h2 a.1 h1
  unfold findA
  rw [h]

theorem evalD_lone {L : List AT} {k : Int} {t x : List UInt8} {p : List (List UInt8)} (h1 : k ≠ 1) (h2 : k ≠ 2) (h3 : k ≠ 3) : evalD L (.mk k t x p []) = if mayF 13 (.mk k t x p []) then leafE L k t x p else 2 := by
  unfold evalD
  rw [evF, if_neg h1, if_neg h2, if_neg h3]
theorem evalD_none {L : List AT} {k : Int} {t x : List UInt8} {p : List (List UInt8)} (h1 : k ≠ 1) (h2 : k ≠ 2) (h3 : k ≠ 3) (h : mayF 13 (.mk k t x p []) = true → askE k t x = false) : evalD L (.mk k t x p []) = 2 := by
  rw [evalD_lone h1 h2 h3]
  split
  · rename_i hm
    unfold leafE
    rw [h hm]
    rfl
  · rfl
theorem evalD_bad {L : List AT} {f : FT} (h : mayF 13 f = false) : evalD L f = 2 := by
  unfold evalD
  rw [if_neg (by rw [h]; decide)]
def hasTypes : List (List UInt8) := [[99, 110], [115, 110], [109, 97, 105, 108], [100, 101, 115, 99, 114, 105, 112, 116, 105, 111, 110], [117, 105, 100], [117, 105, 100, 110, 117, 109, 98, 101, 114], [111, 98, 106, 101, 99, 116, 99, 108, 97, 115, 115], [111]]
theorem has_may : ∀ t ∈ hasTypes, mayF 13 (.mk 8 t [] [] []) = true ∧ (canonD t).isSome = true := by decide +kernel
theorem evalD_has {L : List AT} {t : List UInt8} (ht : t ∈ hasTypes) : evalD L (.mk 8 t [] [] []) = if 0 < (findA L t).length then 1 else 0 := by
  obtain ⟨h1, h2⟩ := has_may t ht
  rw [evalD_lone (by decide) (by decide) (by decide), if_pos h1]
  unfold leafE
  rw [show askE 8 t [] = (canonD t).isSome from rfl, h2, show fitE L 8 t [] [] = decide (0 < (findA L t).length) from rfl]
  by_cases h : 0 < (findA L t).length
  · simp [h]
  · simp [h]
theorem any_pos {l : List (List UInt8)} {q : List UInt8 → Bool} (h : l.any q = true) : 0 < l.length := by
  cases l with
  | nil => simp at h
  | cons a r => simp
theorem evalD_fit {L : List AT} {k : Int} {t x : List UInt8} {p : List (List UInt8)} (hk : k = 4 ∨ k = 5 ∨ k = 6 ∨ k = 7) (h : evalD L (.mk k t x p []) = 1) : 0 < (findA L t).length := by
  rw [evalD_lone (by omega) (by omega) (by omega)] at h
  split at h
  · unfold leafE at h
    split at h
    · split at h
      · rename_i hf
        unfold fitE at hf
        rcases hk with rfl | rfl | rfl | rfl
        · exact any_pos hf
        · exact any_pos hf
        · exact any_pos hf
        · exact any_pos hf
      · omega
    · omega
  · omega
theorem evalD_CN (ns : List UInt8) : evalD (mkLd ns) (.mk 8 [67, 78] [] [] []) = 1 := by
  have h : mayF 13 (.mk 8 [67, 78] [] [] []) = true ∧ (canonD [67, 78]).isSome = true := by decide +kernel
  rw [evalD_lone (by decide) (by decide) (by decide), if_pos h.1]
  unfold leafE
  rw [show askE 8 [67, 78] [] = (canonD [67, 78]).isSome from rfl, h.2, show fitE (mkLd ns) 8 [67, 78] [] [] = decide (0 < (findA (mkLd ns) [67, 78]).length) from rfl, find_CN]
  rfl
theorem evalD_member (ns : List UInt8) : evalD (mkLd ns) (.mk 8 [109, 101, 109, 98, 101, 114] [] [] []) = 0 := by
  have h : mayF 13 (.mk 8 [109, 101, 109, 98, 101, 114] [] [] []) = true ∧ (canonD [109, 101, 109, 98, 101, 114]).isSome = true := by decide +kernel
  rw [evalD_lone (by decide) (by decide) (by decide), if_pos h.1]
  unfold leafE
  rw [show askE 8 [109, 101, 109, 98, 101, 114] [] = (canonD [109, 101, 109, 98, 101, 114]).isSome from rfl, h.2, show fitE (mkLd ns) 8 [109, 101, 109, 98, 101, 114] [] [] = decide (0 < (findA (mkLd ns) [109, 101, 109, 98, 101, 114]).length) from rfl, find_member]
  rfl

def nameF : Nat → List UInt8
  | 0 => [110, 111, 110, 101]
  | 1 => [110, 111, 116, 104, 105, 110, 103]
  | 2 => [117, 115, 101, 114, 112, 97, 115, 115, 119, 111, 114, 100]
  | 3 => [109, 101, 109, 98, 101, 114]
  | 4 => [117, 105, 100, 110, 117, 109, 98, 101, 114]
  | 5 => [117, 105, 100, 78, 117, 109, 98, 101, 114]
  | _ => [99, 110]
def undF (v : List UInt8) : Nat → FT
  | 0 => .mk 8 (nameF 0) [] [] []
  | 1 => .mk 4 (nameF 1) v [] []
  | 2 => .mk 6 (nameF 2) [120] [] []
  | 3 => .mk 7 (nameF 3) [111, 61, 120] [] []
  | 4 => .mk 5 (nameF 4) [] [[49], []] []
  | 5 => .mk 5 (nameF 3) [] [[], [120]] []
  | 6 => .mk 4 (nameF 4) (120 :: v) [] []
  | 7 => .mk 6 (nameF 5) [48, 120] [] []
  | 8 => .mk 4 (nameF 6) [] [] []
  | 9 => .mk 4 (nameF 6) [] [] []
  | 10 => .mk 0 [] [] [] []
  | _ => .mk 3 [] [] [] []
theorem rules_und : ruleD (nameF 0) = 0 ∧ ruleD (nameF 1) = 0 ∧ ruleD (nameF 4) = 2 ∧ ruleD (nameF 5) = 2 ∧ ruleD (nameF 6) = 1 ∧ canonD (nameF 0) = none ∧ decide (ruleD (nameF 3) = 1) = false ∧ (ruleD (nameF 2) ≠ 1 ∧ ruleD (nameF 2) ≠ 2) ∧ (ruleD (nameF 3) ≠ 1 ∧ ruleD (nameF 3) ≠ 2) := by decide +kernel
theorem less_other {r : Nat} (h : r ≠ 1 ∧ r ≠ 2) (a b : List UInt8) : lessD r a b = none := by
  unfold lessD
  cases normD r a with
  | none => rfl
  | some x =>
    cases normD r b with
    | none => rfl
    | some y =>
      show (if r = 1 then _ else if r = 2 then _ else none) = none
      rw [if_neg h.1, if_neg h.2]
theorem less_bad {r : Nat} {a b : List UInt8} (h : normD r a = none) : lessD r a b = none := by
  unfold lessD
  rw [h]
theorem und_two (L : List AT) (v : List UInt8) (k : Nat) (hk : k < 12) : evalD L (undF v k) = 2 := by
  obtain ⟨r0, r1, r4, r5, r6, c0, r3, r2n, r3n⟩ := rules_und
  rcases (show k = 0 ∨ k = 1 ∨ k = 2 ∨ k = 3 ∨ k = 4 ∨ k = 5 ∨ k = 6 ∨ k = 7 ∨ k = 8 ∨ k = 9 ∨ k = 10 ∨ k = 11 from by omega) with rfl | rfl | rfl | rfl | rfl | rfl | rfl | rfl | rfl | rfl | rfl | rfl
  · refine evalD_none (by decide) (by decide) (by decide) fun _ => ?_
    show (canonD (nameF 0)).isSome = false
    rw [c0]; rfl
  · refine evalD_none (by decide) (by decide) (by decide) fun _ => ?_
    show (normD (ruleD (nameF 1)) v).isSome = false
    rw [r1]
    unfold normD
    split
    · rfl
    · rfl
  · refine evalD_none (by decide) (by decide) (by decide) fun _ => ?_
    show (lessD (ruleD (nameF 2)) [120] [120]).isSome = false
    rw [less_other r2n]; rfl
  · refine evalD_none (by decide) (by decide) (by decide) fun _ => ?_
    show (lessD (ruleD (nameF 3)) [111, 61, 120] [111, 61, 120]).isSome = false
    rw [less_other r3n]; rfl
  · refine evalD_none (by decide) (by decide) (by decide) fun _ => ?_
    show decide (ruleD (nameF 4) = 1) = false
    rw [r4]; rfl
  · refine evalD_none (by decide) (by decide) (by decide) fun _ => r3
  · refine evalD_none (by decide) (by decide) (by decide) fun _ => ?_
    show (normD (ruleD (nameF 4)) (120 :: v)).isSome = false
    rw [r4, normD_num (numD_char (c := 120) (by simp) (by decide))]; rfl
  · refine evalD_none (by decide) (by decide) (by decide) fun _ => ?_
    show (lessD (ruleD (nameF 5)) [48, 120] [48, 120]).isSome = false
    rw [r5, less_bad (normD_num (numD_char (c := 120) (by simp) (by decide)))]; rfl
  · refine evalD_none (by decide) (by decide) (by decide) fun _ => ?_
    show (normD (ruleD (nameF 6)) []).isSome = false
    rw [r6]; rfl
  · refine evalD_none (by decide) (by decide) (by decide) fun _ => ?_
    show (normD (ruleD (nameF 6)) []).isSome = false
    rw [r6]; rfl
  · exact evalD_bad (f := .mk 0 [] [] [] []) (by decide +kernel)
  · exact evalD_bad (f := .mk 3 [] [] [] []) (by decide +kernel)
end Go.Proofs.YtdgnefcpeocbjaaGreatDoor


namespace Go.Proofs.YtdgnefcpeocbjaaGreatDoor
set_option linter.unusedVariables false
set_option linter.unnecessarySimpa false
set_option linter.unusedSimpArgs false

def mkTy (n : Nat) : List UInt8 := match n / 8 % 6 with
  | 0 => [99, 110]
  | 1 => [115, 110]
  | 2 => [100, 101, 115, 99, 114, 105, 112, 116, 105, 111, 110]
  | 3 => [117, 105, 100, 78, 117, 109, 98, 101, 114]
  | 4 => [109, 97, 105, 108]
  | _ => [111, 98, 106, 101, 99, 116, 67, 108, 97, 115, 115]
def mkVl (s : List UInt8) (n : Nat) : List UInt8 := match n / 16 % 6 with
  | 0 => [110, 49]
  | 1 => [78, 50]
  | 2 => s
  | 3 => [53]
  | 4 => [100]
  | _ => [112, 101, 114, 115, 111, 110]
def mkPa (s : List UInt8) (n : Nat) : List (List UInt8) := match n / 48 % 4 with
  | 0 => [[110], []]
  | 1 => [[], [49]]
  | 2 => [[], s ++ [101], []]
  | _ => [[68], [32], [53]]
def mkCn : FT := .mk 8 [99, 110] [] [] []
def kidsM (f : List UInt8 → FT) (l : List UInt8) (q : Nat) : Nat → List FT
  | 0 => []
  | j + 1 => kidsM f l q j ++ [f ((l.drop (j + 1)).take (q + 1))]
theorem kidsM_len (f : List UInt8 → FT) (l : List UInt8) (q : Nat) : ∀ j, (kidsM f l q j).length = j
  | 0 => rfl
  | j + 1 => by rw [kidsM, List.length_append, kidsM_len f l q j]; rfl
def makeFu (s : List UInt8) : Nat → List UInt8 → FT
  | 0, _ => mkCn
  | fu + 1, [] => mkCn
  | fu + 1, c :: r =>
    if c.toNat % 8 = 0 then .mk 1 [] [] [] (kidsM (makeFu s fu) (c :: r) (c.toNat / 60) (min r.length (c.toNat / 24 % 4)))
    else if c.toNat % 8 = 1 then .mk 2 [] [] [] (kidsM (makeFu s fu) (c :: r) (c.toNat / 60) (min r.length (c.toNat / 24 % 4)))
    else if c.toNat % 8 = 2 then .mk 3 [] [] [] [makeFu s fu r]
    else if c.toNat % 8 = 7 then .mk 8 (mkTy c.toNat) [] [] []
    else if c.toNat % 8 = 4 then .mk 5 (mkTy c.toNat) [] (mkPa s c.toNat) []
    else .mk (1 + c.toNat % 8 : Nat) (mkTy c.toNat) (mkVl s c.toNat) [] []
theorem mkTy_len (n : Nat) : (mkTy n).length ≤ 11 := by unfold mkTy; split <;> simp
theorem mkVl_len (s : List UInt8) (n : Nat) : (mkVl s n).length ≤ s.length + 6 := by unfold mkVl; split <;> simp
end Go.Proofs.YtdgnefcpeocbjaaGreatDoor


namespace Go.Proofs.YtdgnefcpeocbjaaGreatDoor
open Go.RowKit
set_option linter.unusedVariables false
set_option linter.unusedSimpArgs false

def KidsInv (D : List UInt8 → Option (FT × List UInt8)) (k : Int) (s : List UInt8) (L : List FT) (q : List UInt8) : Prop :=
  ∃ fu, q.length < fu ∧ kidsD D k (s.length + 1) 0 s = (kidsD D k fu L.length q).map fun x => (L ++ x.1, x.2)
def rdLen (w : World) (g : Nat) : Nat := match w.cell? ⟨g, 0, none⟩ with
  | some (.string r) => r.size
  | _ => 0
end Go.Proofs.YtdgnefcpeocbjaaGreatDoor


namespace Go.Proofs.YtdgnefcpeocbjaaGreatDoor
open Go.RowKit
set_option linter.unusedVariables false
set_option linter.unusedSimpArgs false

def sgH : Nat → UInt8
  | 0 => 38
  | 1 => 124
  | _ => 33
def kdH : Nat → Int
  | 0 => 1
  | 1 => 2
  | _ => 3
end Go.Proofs.YtdgnefcpeocbjaaGreatDoor


namespace Go.Proofs.YtdgnefcpeocbjaaGreatDoor
open Go.RowKit
set_option linter.unusedVariables false
set_option linter.unusedSimpArgs false

def pOf : Option (FT × List UInt8) → Option FT
  | some (f, []) => some f
  | _ => none
end Go.Proofs.YtdgnefcpeocbjaaGreatDoor


namespace Go.Proofs.YtdgnefcpeocbjaaGreatDoor
open Go.RowKit
set_option linter.unusedVariables false
set_option linter.unusedSimpArgs false

def textTop (f : FT) : List UInt8 := if mayF 13 f then textF f else []
end Go.Proofs.YtdgnefcpeocbjaaGreatDoor


namespace Go.Proofs.YtdgnefcpeocbjaaGreatDoor
open Go.RowKit
set_option linter.unusedVariables false
set_option linter.unusedSimpArgs false

def sAw : ByteArray := ⟨#[40, 38, 40, 99, 110, 61, 97, 42, 41, 40, 33, 40, 115, 110, 62, 61, 98, 41, 41, 41]⟩
def fAw : FT := .mk 1 [] [] [] [.mk 5 [99, 110] [] [[97], []] [], .mk 3 [] [] [] [.mk 6 [115, 110] [98] [] []]]
end Go.Proofs.YtdgnefcpeocbjaaGreatDoor


namespace Go.Proofs.YtdgnefcpeocbjaaGreatDoor
open Go.RowKit
set_option linter.unusedVariables false
set_option linter.unusedSimpArgs false

def deepF : Nat → FT
  | 0 => .mk 8 [99, 110] [] [] []
  | k + 1 => .mk 3 [] [] [] [deepF k]
def deepS : Nat → List UInt8
  | 0 => [40, 99, 110, 61, 42, 41]
  | k + 1 => 40 :: 33 :: (deepS k ++ [41])
def DeepAt (B j : Nat) (w wr : World) : Prop := ∃ x0 x1 x2 x3 x4, FlAt wr B x0 x1 x2 x3 x4 ∧ IsFl (fun b => b < wr.heap.size ∧ b ≠ B) wr (deepF j) (.agg #[x0, x1, x2, x3, x4]) ∧ Below B w wr
theorem mkHold {ok : Nat → Prop} {w : World} {k : Int} {l : List FT} {a : Option Addr} {c : Nat} (hk : (Lit.int .i64 k).wf = true) (hl : l.length ≤ maxLen) (h : IsFls ok w l a 0) :
    IsFl ok w (.mk k [] [] [] l) (.agg #[.int .i64 k, .string ⟨#[]⟩, .string ⟨#[]⟩, .slice none 0 0, .slice a l.length c]) :=
  ⟨.slice none 0 0, a, c, rfl, hk, Nat.zero_le _, Nat.zero_le _, ⟨none, 0, rfl, Nat.zero_le _, fun j h => absurd h (Nat.not_lt_zero _)⟩, hl, h⟩

def RowAt (W : World) (H n q : Nat) : Prop := ∃ C, W.heap[H]? = some (.cells C 25 (0, 0)) ∧ C.size = n * 5 ∧ ∀ k, k < q → C[k * 5]? = some (.int .i64 8) ∧ C[k * 5 + 1]? = some (.string ⟨#[115, 110]⟩) ∧ C[k * 5 + 2]? = some (.string ⟨#[]⟩) ∧ C[k * 5 + 3]? = some (.slice none 0 0) ∧ C[k * 5 + 4]? = some (.slice none 0 0)
theorem RowAt.cells {W : World} {H n q : Nat} (h : RowAt W H n q) (hq : q < n) : ∃ y0 y1 y2 y3 y4, W.cell? ⟨H, q * 5, none⟩ = some y0 ∧ W.cell? ⟨H, q * 5 + 1, none⟩ = some y1 ∧ W.cell? ⟨H, q * 5 + 2, none⟩ = some y2 ∧ W.cell? ⟨H, q * 5 + 3, none⟩ = some y3 ∧ W.cell? ⟨H, q * 5 + 4, none⟩ = some y4 := by
  obtain ⟨C, hC, hz, _⟩ := h
  refine ⟨C[q * 5]'(by omega), C[q * 5 + 1]'(by omega), C[q * 5 + 2]'(by omega), C[q * 5 + 3]'(by omega), C[q * 5 + 4]'(by omega), ?_, ?_, ?_, ?_, ?_⟩ <;> simp [World.cell?, hC, hz] <;> omega
theorem RowAt.frozen {W : World} {H n q : Nat} (h : RowAt W H n q) (k : Nat) : W.frozen? ⟨H, k * 5, none⟩ = false ∧ W.frozen? ⟨H, k * 5 + 1, none⟩ = false ∧ W.frozen? ⟨H, k * 5 + 2, none⟩ = false ∧ W.frozen? ⟨H, k * 5 + 3, none⟩ = false ∧ W.frozen? ⟨H, k * 5 + 4, none⟩ = false := by
  obtain ⟨C, hC, hz, _⟩ := h
  refine ⟨?_, ?_, ?_, ?_, ?_⟩ <;> simp [World.frozen?, hC]
def setR (W : World) (H o : Nat) (x0 x1 x2 x3 x4 : Value) : World := ((((W.setCell ⟨H, o, none⟩ x0).setCell ⟨H, o + 1, none⟩ x1).setCell ⟨H, o + 2, none⟩ x2).setCell ⟨H, o + 3, none⟩ x3).setCell ⟨H, o + 4, none⟩ x4
theorem RowAt.store {W : World} {H n q : Nat} (h : RowAt W H n q) (hq : q < n) : RowAt (setR W H (q * 5) (.int .i64 8) (.string ⟨#[115, 110]⟩) (.string ⟨#[]⟩) (.slice none 0 0) (.slice none 0 0)) H n (q + 1) := by
  obtain ⟨C, hC, hz, hk⟩ := h
  refine ⟨_, heap_setCell_same _ H _ _ _ _ (heap_setCell_same _ H _ _ _ _ (heap_setCell_same _ H _ _ _ _ (heap_setCell_same _ H _ _ _ _ (heap_setCell_same _ H _ _ _ _ hC)))), by simp [hz], fun k hk' => ?_⟩
  by_cases hkq : k = q
  · subst hkq
    refine ⟨?_, ?_, ?_, ?_, ?_⟩
    · rw [Array.getElem?_setIfInBounds_ne (by omega), Array.getElem?_setIfInBounds_ne (by omega), Array.getElem?_setIfInBounds_ne (by omega), Array.getElem?_setIfInBounds_ne (by omega), Array.getElem?_setIfInBounds_self_of_lt (by simp [hz]; omega)]
    · rw [Array.getElem?_setIfInBounds_ne (by omega), Array.getElem?_setIfInBounds_ne (by omega), Array.getElem?_setIfInBounds_ne (by omega), Array.getElem?_setIfInBounds_self_of_lt (by simp [hz]; omega)]
    · rw [Array.getElem?_setIfInBounds_ne (by omega), Array.getElem?_setIfInBounds_ne (by omega), Array.getElem?_setIfInBounds_self_of_lt (by simp [hz]; omega)]
    · rw [Array.getElem?_setIfInBounds_ne (by omega), Array.getElem?_setIfInBounds_self_of_lt (by simp [hz]; omega)]
    · rw [Array.getElem?_setIfInBounds_self_of_lt (by simp [hz]; omega)]
  · have := hk k (by omega)
    obtain ⟨h0, h1, h2, h3, h4⟩ := this
    refine ⟨?_, ?_, ?_, ?_, ?_⟩
    · rw [Array.getElem?_setIfInBounds_ne (by omega), Array.getElem?_setIfInBounds_ne (by omega), Array.getElem?_setIfInBounds_ne (by omega), Array.getElem?_setIfInBounds_ne (by omega), Array.getElem?_setIfInBounds_ne (by omega), h0]
    · rw [Array.getElem?_setIfInBounds_ne (by omega), Array.getElem?_setIfInBounds_ne (by omega), Array.getElem?_setIfInBounds_ne (by omega), Array.getElem?_setIfInBounds_ne (by omega), Array.getElem?_setIfInBounds_ne (by omega), h1]
    · rw [Array.getElem?_setIfInBounds_ne (by omega), Array.getElem?_setIfInBounds_ne (by omega), Array.getElem?_setIfInBounds_ne (by omega), Array.getElem?_setIfInBounds_ne (by omega), Array.getElem?_setIfInBounds_ne (by omega), h2]
    · rw [Array.getElem?_setIfInBounds_ne (by omega), Array.getElem?_setIfInBounds_ne (by omega), Array.getElem?_setIfInBounds_ne (by omega), Array.getElem?_setIfInBounds_ne (by omega), Array.getElem?_setIfInBounds_ne (by omega), h3]
    · rw [Array.getElem?_setIfInBounds_ne (by omega), Array.getElem?_setIfInBounds_ne (by omega), Array.getElem?_setIfInBounds_ne (by omega), Array.getElem?_setIfInBounds_ne (by omega), Array.getElem?_setIfInBounds_ne (by omega), h4]
theorem isFls_mk {ok : Nat → Prop} {w : World} : ∀ (l : List FT) (a : Option Addr) (i : Nat), (∀ k (h : k < l.length), ∃ b off v0 v1 v2 v3 v4, a = some ⟨b, off, none⟩ ∧ ok b ∧ w.cell? ⟨b, off + (i + k) * 5, none⟩ = some v0 ∧ w.cell? ⟨b, off + (i + k) * 5 + 1, none⟩ = some v1 ∧ w.cell? ⟨b, off + (i + k) * 5 + 2, none⟩ = some v2 ∧ w.cell? ⟨b, off + (i + k) * 5 + 3, none⟩ = some v3 ∧ w.cell? ⟨b, off + (i + k) * 5 + 4, none⟩ = some v4 ∧ IsFl ok w l[k] (.agg #[v0, v1, v2, v3, v4])) → IsFls ok w l a i
  | [], _, _, _ => trivial
  | f :: l, a, i, h => ⟨h 0 (by simp), isFls_mk l a (i + 1) fun k hk => by
      have := h (k + 1) (by simpa using hk)
      rw [show i + (k + 1) = i + 1 + k from by omega] at this
      exact this⟩
theorem RowAt.isFls {ok : Nat → Prop} {W : World} {H n : Nat} (h : RowAt W H n n) (hH : ok H) : IsFls ok W (List.replicate n (.mk 8 [115, 110] [] [] [])) (some ⟨H, 0, none⟩) 0 := by
  obtain ⟨C, hC, hz, hk⟩ := h
  refine isFls_mk _ _ _ fun k hkl => ?_
  rw [List.length_replicate] at hkl
  obtain ⟨h0, h1, h2, h3, h4⟩ := hk k hkl
  refine ⟨H, 0, _, _, _, _, _, rfl, hH, ?_, ?_, ?_, ?_, ?_, by rw [List.getElem_replicate]; exact mkFl (k := 8) (t := [115, 110]) (x := []) (p := []) (u := .slice none 0 0) (by decide) (by show 2 ≤ maxLen; decide) (Nat.zero_le _) ⟨none, 0, rfl, Nat.zero_le _, fun j h => absurd h (Nat.not_lt_zero _)⟩⟩
  all_goals simp only [World.cell?, hC, Nat.zero_add, Option.isSome_none, Bool.false_eq_true, if_false]
  · exact h0
  · exact h1
  · exact h2
  · exact h3
  · exact h4
theorem set1_grown (W : World) (H o : Nat) (x : Value) : W.grownBy (W.setCell ⟨H, o, none⟩ x) (some H) :=
  ⟨rfl, rfl, rfl, by rw [World.size_setCell]; exact Nat.le_refl _, fun k hk hne => heap_setCell_other _ _ _ _ (fun e => hne (by rw [e]))⟩
end Go.Proofs.YtdgnefcpeocbjaaGreatDoor

