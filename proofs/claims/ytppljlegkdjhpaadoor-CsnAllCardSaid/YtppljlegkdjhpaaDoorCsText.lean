/- The text of a number of a change: the walks. The world must hold strconv's table of powers of ten. -/
import Derived.Test.YtppljlegkdjhpaaDoorCsMay
import Derived.Test.YtppljlegkdjhpaaDoorMaDig
import Derived.Test.YtppljlegkdjhpaaDoorShelf
import Derived.Lib.SmallJoins
import Derived.Lib.AppendIntMem
import Derived.Deep.RegionHeld3
import Derived.Deep.RegionLaw
import Derived.Deep.Cut
import Derived.RegionTactic
namespace Go.Proofs.YtppljlegkdjhpaaDoor
open Go.RowKit
set_option linter.unusedVariables false
set_option linter.unusedSimpArgs false

def LaidT (w : World) : Prop := Lib.TabIs Tryd.prog w "internal/strconv.uint64pow10" .u64 Lib.pow10Tab
theorem LaidT.below {w w' : World} (h : LaidT w) (hb : Below w.heap.size w w') : LaidT w' := Joins.tab_stays (g := 3) (by kernel_rfl) h hb (Nat.le_refl _)
theorem itoaT_any (v : Int) (h0 : -9223372036854775808 ≤ v) (h1 : v ≤ 9223372036854775807) (w : World) (hw : LaidT w) :
    Calls Tryd.prog 23 #[.int .i64 v] w fun e w' => e = .returned (.string (ofL (Lib.itoa v))) ∧ Below w.heap.size w w' :=
  (Tryd.strconv_Itoa v h0 h1 w hw).mono fun e w' ⟨he, k, os, hw⟩ => ⟨he, by subst hw; exact Lib.below_grow _ _ (Nat.le_refl _) k os⟩

set_option maxRecDepth 100000 in
set_option maxHeartbeats 4000000 in
theorem textP_any (e n : Int) (he : -9223372036854775808 ≤ e ∧ e ≤ 9223372036854775807) (hn : -9223372036854775808 ≤ n ∧ n ≤ 9223372036854775807) (w : World) (hw : LaidT w) :
    Calls Tryd.prog 13 #[.agg #[.int .i64 e, .int .i64 n]] w fun x w' => x = .returned (.string (ofL (textC e n))) ∧ Below w.heap.size w w' := by
  obtain ⟨W0, hW0⟩ : ∃ W, W = w.alloc (.cells #[.int .i64 e, .int .i64 n] 23) := ⟨_, rfl⟩
  have hb0 : Below w.heap.size w W0 := by rw [hW0]; exact box2C w e n
  have c0 : W0.cell? ⟨w.heap.size, 0, none⟩ = some (.int .i64 e) := by rw [hW0]; go_simp
  have c1 : W0.cell? ⟨w.heap.size, 1, none⟩ = some (.int .i64 n) := by rw [hW0]; go_simp
  have hs0 : W0.heap.size = w.heap.size + 1 := by rw [hW0]; go_simp
  have hl : w.heap.size < W0.heap.size := by omega
  obtain ⟨A, hA⟩ : ∃ A, A = ofL (Lib.itoa e) := ⟨_, rfl⟩
  obtain ⟨C, hC⟩ : ∃ C, C = ofL (Lib.itoa n) := ⟨_, rfl⟩
  have hAs : A.size ≤ 21 := by rw [hA, ofL_size]; exact Lib.itoa_length_le e he.1 he.2
  have hCs : C.size ≤ 21 := by rw [hC, ofL_size]; exact Lib.itoa_length_le n hn.1 hn.2
  have h1 := fun W (hb : Below W0.heap.size W0 W) => itoaT_any e he.1 he.2 W (hw.below (bthen hb0 hb))
  have h2 := fun W (hb : Below W0.heap.size W0 W) => itoaT_any n hn.1 hn.2 W (hw.below (bthen hb0 hb))
  have hT : ofL (textC e n) = A ++ ⟨#[46]⟩ ++ C := by
    rw [hA, hC]
    show _ = ofL (Lib.itoa e) ++ ofL [46] ++ ofL (Lib.itoa n)
    rw [ofL_app, ofL_app]
    rfl
  rw [← hA] at h1
  rw [← hC] at h2
  obtain ⟨M, hM⟩ : ∃ M, M = A ++ (⟨#[46]⟩ : ByteArray) := ⟨_, rfl⟩
  obtain ⟨R, hR⟩ : ∃ R, R = M ++ C := ⟨_, rfl⟩
  rw [hT, ← hM, ← hR]
  have hMs : M.size ≤ 22 := by rw [hM, ByteArray.size_append]; show A.size + 1 ≤ 22; omega
  have hM' := hM.symm
  have hR' := hR.symm
  have s1 : (9223372036854775807 < A.size + (⟨#[46]⟩ : ByteArray).size) = False := by
    exact eq_false (by show ¬ 9223372036854775807 < A.size + 1; omega)
  have s1' : (9223372036854775807 < A.size + 1) = False := eq_false (by omega)
  have s2 : (9223372036854775807 < M.size + C.size) = False := eq_false (by omega)
  have hst : W0.drew.cell? ⟨w.heap.size, 0, none⟩ = some (.int .i64 e) ∧ W0.drew.cell? ⟨w.heap.size, 1, none⟩ = some (.int .i64 n) ∧ Below W0.heap.size W0 W0.drew := ⟨c0, c1, (Below.refl _ _).drew⟩
  have hk : ∀ W, Below W0.heap.size W0 W → W.cell? ⟨w.heap.size, 0, none⟩ = some (.int .i64 e) ∧ W.cell? ⟨w.heap.size, 1, none⟩ = some (.int .i64 n) ∧ Below W0.heap.size W0 W := fun W hb => ⟨(hb.cell (p := ⟨w.heap.size, 0, none⟩) hl).trans c0, (hb.cell (p := ⟨w.heap.size, 1, none⟩) hl).trans c1, hb⟩
  have HK := Lib.hid hk
  have H1 := Lib.hid h1
  have H2 := Lib.hid h2
  have HW0 := Lib.hid hW0.symm
  have HB := Lib.hid hb0
  clear hk h1 h2 hW0 hb0 c0 c1 hl hs0 hA hC hT hM hR hAs hCs hMs he hn hw
  go_enter Tryd.func13, Tryd.ntmps13
  go_upto_region 1 with (fail)
  rw [HW0.out]
  go_region_held3 (fun w' => w'.cell? ⟨w.heap.size, 0, none⟩ = some (.int .i64 e) ∧ w'.cell? ⟨w.heap.size, 1, none⟩ = some (.int .i64 n) ∧ Below W0.heap.size W0 w') (first | (with_reducible exact hst) | (go_split_ands; exact HK.out _ (bthen (by assumption) hbx)))
    (first
      | (go_at_call 23; go_split_ands; (with_reducible refine (H1.out _ (by assumption)).mono ?_); rintro x wx ⟨rfl, hbx⟩)
      | (go_at_call 23; go_split_ands; (with_reducible refine (H2.out _ (by assumption)).mono ?_); rintro x wx ⟨rfl, hbx⟩))
  all_goals
    go_split_ands
    have hT : Below W0.heap.size W0 wx := by assumption
    have HT := Lib.hid (bthen HB.out hT)
    go_wp2
    go_ret
    exact ⟨rfl, HT.out⟩
end Go.Proofs.YtppljlegkdjhpaaDoor
