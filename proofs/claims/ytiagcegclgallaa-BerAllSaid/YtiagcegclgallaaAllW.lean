/- What BerAll asks: the walk. -/
import Derived.Test.YtiagcegclgallaaRefPut
import Derived.Test.YtiagcegclgallaaSameRef
import Derived.Test.YtiagcegclgallaaAwake
import Derived.Deep.RegionHeld3
import Derived.Deep.DeepCutAuto
namespace Go.Proofs.Ytiagcegclgallaa
open Go.RowKit
set_option linter.unusedVariables false

mutual
theorem sameT_same : ∀ t : T, sameT t t = true
  | .mk tag s l => by simp only [sameT, sameTs_same l, beq_self_eq_true, Bool.and_self]
theorem sameTs_same : ∀ l : List T, sameTs l l = true
  | [] => by simp [sameTs]
  | t :: l => by simp only [sameTs, sameT_same t, sameTs_same l, Bool.and_self]
end

/-- What stays of the two that were handed in. -/
def BothAt (W0 : World) (b1 b2 : Nat) (x0 x1 x2 y0 y1 y2 : Value) (w' : World) : Prop := W0.heap[b1]? = some (.cells #[x0, x1, x2] 24 (0, 0)) ∧ W0.heap[b2]? = some (.cells #[y0, y1, y2] 24 (0, 0)) ∧ Below W0.heap.size W0 w'
theorem BothAt.go {W0 wa wb : World} {b1 b2 : Nat} {x0 x1 x2 y0 y1 y2 : Value} (h : BothAt W0 b1 b2 x0 x1 x2 y0 y1 y2 wa) (hb : Below wa.heap.size wa wb) :
    wb.cell? ⟨b1, 0, none⟩ = some x0 ∧ wb.cell? ⟨b1, 1, none⟩ = some x1 ∧ wb.cell? ⟨b1, 2, none⟩ = some x2 ∧ wb.cell? ⟨b2, 0, none⟩ = some y0 ∧ wb.cell? ⟨b2, 1, none⟩ = some y1 ∧ wb.cell? ⟨b2, 2, none⟩ = some y2 ∧ BothAt W0 b1 b2 x0 x1 x2 y0 y1 y2 wb := by
  have hbb := h.2.2.then hb
  obtain ⟨c0, c1, c2, _⟩ := box3 ((hbb.block b1 (Array.getElem?_eq_some_iff.1 h.1).1).trans h.1)
  obtain ⟨d0, d1, d2, _⟩ := box3 ((hbb.block b2 (Array.getElem?_eq_some_iff.1 h.2.1).1).trans h.2.1)
  exact ⟨c0, c1, c2, d0, d1, d2, h.1, h.2.1, hbb⟩

set_option maxRecDepth 100000 in
set_option maxHeartbeats 4000000 in
theorem all_walk (ta tb : T) (va vb : Value) (w : World) (ha : IsT w.heap.size w ta va) (hb : IsT w.heap.size w tb vb) :
    Calls Try.prog 3 #[va, vb] w fun e w' => e = .returned (.bool true) ∧ Below w.heap.size w w' := by
  obtain ⟨tg1, s1, a1, n1, k1, rfl⟩ := ha.shape
  obtain ⟨tg2, s2, a2, n2, k2, rfl⟩ := hb.shape
  obtain ⟨W0, hW0⟩ : ∃ W0, W0 = (w.alloc (.cells #[.int .i64 tg1, .string s1, .slice a1 n1 k1] 24)).alloc (.cells #[.int .i64 tg2, .string s2, .slice a2 n2 k2] 24) := ⟨_, rfl⟩
  have hbw : Below w.heap.size w W0 := by rw [hW0]; exact ((Below.refl _ _).alloc' _).alloc' _
  have hsz : W0.heap.size = w.heap.size + 2 := by rw [hW0]; simp
  have hba : W0.heap[w.heap.size]? = some (.cells #[.int .i64 tg1, .string s1, .slice a1 n1 k1] 24) := by rw [hW0]; exact (Below.heap_alloc _ _ _ (by simp)).trans (World.alloc_heap_new w _)
  have hbb : W0.heap[w.heap.size + 1]? = some (.cells #[.int .i64 tg2, .string s2, .slice a2 n2 k2] 24) := by
    have := World.alloc_heap_new (w.alloc (.cells #[.int .i64 tg1, .string s1, .slice a1 n1 k1] 24)) (.cells #[.int .i64 tg2, .string s2, .slice a2 n2 k2] 24)
    rw [World.size_alloc] at this; rw [hW0]; exact this
  have ia := ha.below hbw hbw.size
  have ib := hb.below hbw hbw.size
  have hga := great_any ta _ W0 ia
  have hgb := fun w2 (h : Below W0.heap.size W0 w2) => great_any tb _ w2 (ib.below h h.size)
  have HGa := Lib.hid hga
  have HGb := Lib.hid hgb
  have HW0 := Lib.hid hW0
  have HBW := Lib.hid hbw
  have HBA := Lib.hid hba
  have HBB := Lib.hid hbb
  have HIa := Lib.hid ia
  have HIb := Lib.hid ib
  obtain ⟨ca0, ca1, ca2, _⟩ := box3 hba
  obtain ⟨cb0, cb1, cb2, _⟩ := box3 hbb
  clear hga hgb hW0 hbw hba hbb ia ib ha hb
  by_cases q1 : 300 < mny ta 0
  · have d1 : decide ((300 : Int) < mny ta 0) = true := by simpa using q1
    rw [d1] at HGa
    clear d1 q1
    go_enter Try.func3, Try.ntmps3
    go_upto_region 1 with (fail)
    rw [← HW0.out]
    go_wp2_with (first
      | (go_at_call 11; refine HGa.out.mono ?_; rintro e w2 ⟨rfl, hb2⟩)
      | (go_at_call 12; refine (awake_any _).mono ?_; rintro e w10 ⟨rfl, hb10⟩))
    go_ret
    exact ⟨rfl, (HBW.out.then hb2).then hb10⟩
  · have d1 : decide ((300 : Int) < mny ta 0) = false := by simpa using q1
    rw [d1] at HGa
    by_cases q2 : 300 < mny tb 0
    · have d2 : decide ((300 : Int) < mny tb 0) = true := by simpa using q2
      rw [d2] at HGb
      clear d1 d2 q1 q2
      go_enter Try.func3, Try.ntmps3
      go_upto_region 1 with (fail)
      rw [← HW0.out]
      go_wp2_with (first
        | (go_at_call 11; (with_reducible refine (HGa.out).mono ?_); rintro e w2 ⟨rfl, hb2⟩; obtain ⟨cc0, cc1, cc2, _⟩ := box3 ((hb2.block (w.heap.size + 1) (by omega)).trans HBB.out); have HB2 := Lib.hid hb2; clear hb2)
        | (go_at_call 11; (with_reducible refine (HGb.out _ HB2.out).mono ?_); rintro e w3 ⟨rfl, hb3⟩; have HB3 := Lib.hid hb3; clear hb3)
        | (go_at_call 12; refine (awake_any _).mono ?_; rintro e w10 ⟨rfl, hb10⟩))
      go_ret
      exact ⟨rfl, ((HBW.out.then HB2.out).then HB3.out).then hb10⟩
    · have d2 : decide ((300 : Int) < mny tb 0) = false := by simpa using q2
      rw [d2] at HGb
      have hwa : wt ta ≤ 300000 := by have := mny_wt ta 0 (by omega); omega
      clear d1 d2 q1 q2
      have hm := fun wx (h : BothAt W0 w.heap.size (w.heap.size + 1) (.int .i64 tg1) (.string s1) (.slice a1 n1 k1) (.int .i64 tg2) (.string s2) (.slice a2 n2 k2) wx) => may_any ta _ wx (HIa.out.below h.2.2 h.2.2.size)
      have hmr := fun wx (h : BothAt W0 w.heap.size (w.heap.size + 1) (.int .i64 tg1) (.string s1) (.slice a1 n1 k1) (.int .i64 tg2) (.string s2) (.slice a2 n2 k2) wx) => mayRef_any ta _ wx hwa (HIa.out.below h.2.2 h.2.2.size)
      have hp := fun wx (h : BothAt W0 w.heap.size (w.heap.size + 1) (.int .i64 tg1) (.string s1) (.slice a1 n1 k1) (.int .i64 tg2) (.string s2) (.slice a2 n2 k2) wx) => put_any ta _ wx (HIa.out.below h.2.2 h.2.2.size)
      have hpr := fun wx (h : BothAt W0 w.heap.size (w.heap.size + 1) (.int .i64 tg1) (.string s1) (.slice a1 n1 k1) (.int .i64 tg2) (.string s2) (.slice a2 n2 k2) wx) => putRef_any ta _ wx hwa (HIa.out.below h.2.2 h.2.2.size)
      have hs := fun wx (h : BothAt W0 w.heap.size (w.heap.size + 1) (.int .i64 tg1) (.string s1) (.slice a1 n1 k1) (.int .i64 tg2) (.string s2) (.slice a2 n2 k2) wx) => same_any ta tb wx _ _ (HIa.out.below h.2.2 h.2.2.size) (HIb.out.below h.2.2 h.2.2.size)
      have hsr := fun wx (h : BothAt W0 w.heap.size (w.heap.size + 1) (.int .i64 tg1) (.string s1) (.slice a1 n1 k1) (.int .i64 tg2) (.string s2) (.slice a2 n2 k2) wx) => sameRef_any ta tb wx _ _ (HIa.out.below h.2.2 h.2.2.size) (HIb.out.below h.2.2 h.2.2.size)
      have hss := fun wx (h : BothAt W0 w.heap.size (w.heap.size + 1) (.int .i64 tg1) (.string s1) (.slice a1 n1 k1) (.int .i64 tg2) (.string s2) (.slice a2 n2 k2) wx) => same_any ta ta wx _ _ (HIa.out.below h.2.2 h.2.2.size) (HIa.out.below h.2.2 h.2.2.size)
      rw [sameT_same] at hss
      generalize okT 12 ta = b1 at hm hmr
      generalize putB ta = p1 at hp hpr
      generalize sameT ta tb = r1 at hs hsr
      have HM := Lib.hid hm
      have HMr := Lib.hid hmr
      have HP := Lib.hid hp
      have HPr := Lib.hid hpr
      have HS := Lib.hid hs
      have HSr := Lib.hid hsr
      have HSs := Lib.hid hss
      clear hm hmr hp hpr hs hsr hss hwa
      go_enter Try.func3, Try.ntmps3
      go_upto_region 1 with (fail)
      rw [← HW0.out]
      go_wp2_with (first
        | (go_at_call 11; (with_reducible refine (HGa.out).mono ?_); rintro e w2 ⟨rfl, hb2⟩; obtain ⟨cc0, cc1, cc2, _⟩ := box3 ((hb2.block (w.heap.size + 1) (by omega)).trans HBB.out); have HB2 := Lib.hid hb2; clear hb2)
        | (go_at_call 11; (with_reducible refine (HGb.out _ HB2.out).mono ?_); rintro e w3 ⟨rfl, hb3⟩; have HB3 := Lib.hid hb3; clear hb3))
      have hst0 : BothAt W0 w.heap.size (w.heap.size + 1) (.int .i64 tg1) (.string s1) (.slice a1 n1 k1) (.int .i64 tg2) (.string s2) (.slice a2 n2 k2) w3 := ⟨HBA.out, HBB.out, HB2.out.then HB3.out⟩
      have hst := hst0.go (Below.refl _ _)
      clear ca0 ca1 ca2 cb0 cb1 cb2 cc0 cc1 cc2 hst0
      have HW3 := Lib.hid ((HBW.out.then HB2.out).then HB3.out)
      go_region_held3 (fun w' => w'.cell? ⟨w.heap.size, 0, none⟩ = some (.int .i64 tg1) ∧ w'.cell? ⟨w.heap.size, 1, none⟩ = some (.string s1) ∧ w'.cell? ⟨w.heap.size, 2, none⟩ = some (.slice a1 n1 k1) ∧ w'.cell? ⟨w.heap.size + 1, 0, none⟩ = some (.int .i64 tg2) ∧ w'.cell? ⟨w.heap.size + 1, 1, none⟩ = some (.string s2) ∧ w'.cell? ⟨w.heap.size + 1, 2, none⟩ = some (.slice a2 n2 k2) ∧ BothAt W0 w.heap.size (w.heap.size + 1) (.int .i64 tg1) (.string s1) (.slice a1 n1 k1) (.int .i64 tg2) (.string s2) (.slice a2 n2 k2) w')
        (first | exact hst | (go_split_ands; exact BothAt.go (by assumption) hbx) | (go_split_ands; exact BothAt.go (by assumption) (Below.refl _ _).drew) | (go_split_ands; exact BothAt.go (by assumption) (Below.refl _ _)))
        (first
          | (go_at_call 13; go_split_ands; refine (HM.out _ (by assumption)).mono ?_; rintro e wx ⟨rfl, hbx⟩)
          | (go_at_call 14; go_split_ands; refine (HMr.out _ (by assumption)).mono ?_; rintro e wx ⟨rfl, hbx⟩)
          | (go_at_call 15; go_split_ands; refine (HP.out _ (by assumption)).mono ?_; rintro e wx ⟨rfl, hbx⟩)
          | (go_at_call 16; go_split_ands; refine (HPr.out _ (by assumption)).mono ?_; rintro e wx ⟨rfl, hbx⟩)
          | (go_at_call 17; go_split_ands; (with_reducible refine (HS.out _ (by assumption)).mono ?_); rintro e wx ⟨rfl, hbx⟩)
          | (go_at_call 17; go_split_ands; (with_reducible refine (HSs.out _ (by assumption)).mono ?_); rintro e wx ⟨rfl, hbx⟩)
          | (go_at_call 18; go_split_ands; refine (HSr.out _ (by assumption)).mono ?_; rintro e wx ⟨rfl, hbx⟩)
          | (go_at_call 12; refine (awake_any _).mono ?_; rintro e wx ⟨rfl, hbx⟩))
      go_split_ands
      have hT : BothAt W0 w.heap.size (w.heap.size + 1) (.int .i64 tg1) (.string s1) (.slice a1 n1 k1) (.int .i64 tg2) (.string s2) (.slice a2 n2 k2) wx := by assumption
      have HT := Lib.hid hT.2.2
      clear hT
      go_wp2
      go_ret
      exact ⟨rfl, HBW.out.then HT.out⟩
end Go.Proofs.Ytiagcegclgallaa
