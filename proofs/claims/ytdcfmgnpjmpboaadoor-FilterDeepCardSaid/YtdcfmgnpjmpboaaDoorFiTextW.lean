/- filter.Text: the walk. -/
import Derived.Test.YtdcfmgnpjmpboaaDoorFiWrite
namespace Go.Proofs.YtdcfmgnpjmpboaaDoor
open Go.RowKit
set_option linter.unusedVariables false
set_option linter.unusedSimpArgs false

def textTop (f : FT) : List UInt8 := if mayF 13 f then textF f else []
set_option maxRecDepth 100000 in
set_option maxHeartbeats 4000000 in
theorem textTop_any (f : FT) (v : Value) (w : World) (h : IsFl (Lt w) w f v) (hlen : mayF 13 f = true → (textF f).length ≤ 900000000000) :
    Calls Tryd.prog 14 #[v] w fun e w' => e = .returned (.string (ofL (textTop f))) ∧ Below w.heap.size w w' := by
  have hmay := fun W (hW : Below w.heap.size w W) => mayTop_any f v W (h.imp (fun b h => Nat.lt_of_lt_of_le h hW.size) (fun b o h => hW.cell (p := ⟨b, o, none⟩) h))
  have hfl := fun W (hW : Below w.heap.size w W) => (h.imp (ok' := fun q => q < W.heap.size) (w' := W) (fun b h => Nat.lt_of_lt_of_le h hW.size) (fun b o h => hW.cell (p := ⟨b, o, none⟩) h) : IsFl (fun q => q < W.heap.size) W f v)
  obtain ⟨k, T, X, pa, pn, pc, ka, kn, kc, rfl⟩ := h.shape
  have hb := box5 w (.int .i64 k) (.string T) (.string X) (.slice pa pn pc) (.slice ka kn kc)
  have hbx := heap_alloc_new w (.cells #[.int .i64 k, .string T, .string X, .slice pa pn pc, .slice ka kn kc] 25)
  obtain ⟨W0, hW0⟩ : ∃ W, W = w.alloc (.cells #[.int .i64 k, .string T, .string X, .slice pa pn pc, .slice ka kn kc] 25) := ⟨_, rfl⟩
  rw [← hW0] at hb hbx
  have hm := hmay W0 hb
  obtain ⟨c0, c1, c2, c3, c4⟩ := cells5 hbx
  have HFl := Lib.hid hfl
  have HB := Lib.hid hb
  have HBx := Lib.hid hbx
  have HW0 := Lib.hid hW0.symm
  have HLen := Lib.hid hlen
  clear hmay hfl hb hbx hW0 h hlen
  obtain ⟨q, hq⟩ : ∃ q, q = mayF 13 f := ⟨_, rfl⟩
  rw [← hq] at hm
  have HM := Lib.hid hm
  clear hm
  cases q with
  | false =>
    have hr : textTop f = [] := by unfold textTop; rw [if_neg (by rw [← hq]; decide)]
    rw [hr]
    clear hr hq
    go_enter Tryd.func14, Tryd.ntmps14
    go_upto_region 1 with (fail)
    rw [HW0.out]
    go_wp2_with (go_at_call 12; refine (HM.out).mono ?_; rintro e w1 ⟨rfl, hb1⟩; have HB1 := Lib.hid (bthen HB.out hb1); clear hb1)
    go_ret
    exact ⟨rfl, HB1.out⟩
  | true =>
    have hr : textTop f = textF f := by unfold textTop; rw [if_pos hq.symm]
    rw [hr]
    have HQ := Lib.hid hq.symm
    clear hr hq
    go_enter Tryd.func14, Tryd.ntmps14
    go_upto_region 1 with (fail)
    rw [HW0.out]
    go_upto_region 4 with (go_at_call 12; refine (HM.out).mono ?_; rintro e w1 ⟨rfl, hb1⟩; have HB1 := Lib.hid hb1; clear hb1)
    have hbl := Lib.fresh_isBuilder 52 5 w1
    have hal : Below w1.heap.size w1 (w1.alloc (.cells #[.pointer none, .slice none 0 0] 52)) := (Below.refl _ _).alloc (Nat.le_refl _) _
    have hf1 := HFl.out w1 (bthen HB.out HB1.out)
    have hf2 : IsFl (fun q => q < w1.heap.size) (w1.alloc (.cells #[.pointer none, .slice none 0 0] 52)) f (.agg #[.int .i64 k, .string T, .string X, .slice pa pn pc, .slice ka kn kc]) := hf1.imp (fun _ h => h) (fun b o h => hal.cell (p := ⟨b, o, none⟩) h)
    have hx2 := (((HB1.out).trans (hal.mono HB1.out.size)).block _ (Array.getElem?_eq_some_iff.1 HBx.out).1).trans HBx.out
    have hwr := write_all 13 f w1.heap.size w1.heap.size [] _ _ HQ.out hbl hf2 (by have := HLen.out HQ.out; simp; omega) (by simp)
    rw [List.nil_append] at hwr
    have HBs := Lib.hid (bthen (bthen HB.out HB1.out) hal)
    have HZ : Hid (w1.heap.size ≤ (w1.alloc (.cells #[.pointer none, .slice none 0 0] 52)).heap.size ∧ w.heap.size ≤ w1.heap.size) := Lib.hid ⟨by simp, (bthen HB.out HB1.out).size⟩
    generalize w1.alloc (.cells #[.pointer none, .slice none 0 0] 52) = W2 at hwr hx2 HBs HZ ⊢
    clear c0 c1 c2 c3 c4
    obtain ⟨c0, c1, c2, c3, c4⟩ := cells5 hx2
    have HWr := Lib.hid hwr
    clear hwr hf1 hf2 hal hbl hx2
    go_wp2_with (first
      | (go_at_call 24; refine (HWr.out).mono ?_; rintro e w3 ⟨rfl, h3, f3⟩; have H3 := Lib.hid h3; have F3 := Lib.hid f3; clear h3 f3)
      | (go_at_call 25; refine (bldString_any w1.heap.size w1.heap.size (textF f) w3 H3.out.bld (Nat.le_trans HZ.out.1 F3.out.1.size)).mono ?_; rintro e w4 ⟨rfl, hb4⟩; have HB4 := Lib.hid ((HBs.out.trans (F3.out.1.mono HZ.out.2)).trans (hb4.mono HZ.out.2)); clear hb4))
    go_ret
    exact ⟨rfl, HB4.out⟩
end Go.Proofs.YtdcfmgnpjmpboaaDoor
