/- row.class: the walk. -/
import Derived.Test.YtofmpaphafhdpaaGreatDoorScRow
import Derived.BigQuiet
import Derived.Deep.RegionLaw
import Derived.Deep.RegionHeld3
namespace Go.Proofs.YtofmpaphafhdpaaGreatDoor
open Go.RowKit
set_option linter.unusedVariables false

set_option maxRecDepth 100000 in
set_option maxHeartbeats 4000000 in
theorem class_any (N S M Y : ByteArray) (st : Bool) (w : World) (hl : LaidF w) (hM : plainB M.data.toList = true) (hY : plainB Y.data.toList = true) :
    Calls Tryz.prog 68 #[.agg #[.string N, .string S, .bool st, .string M, .string Y]] w fun e w' => ∃ u1 u2, e = .returned (.agg #[.string N, .string S, .bool st, u1, u2]) ∧ IsTo (New w.heap.size w') w' (Lib.fields M.data.toList) u1 ∧ IsTo (New w.heap.size w') w' (Lib.fields Y.data.toList) u2 ∧ Below w.heap.size w w' := by
  obtain ⟨W2, hW2⟩ : ∃ W2, W2 = (w.alloc (.cells #[.string N, .string S, .bool st, .string M, .string Y] 103)).alloc (.cells #[.string ⟨#[]⟩, .string ⟨#[]⟩, .bool false, .slice none 0 0, .slice none 0 0] 29) := ⟨_, rfl⟩
  have hB : Below w.heap.size w W2 := by rw [hW2]; exact ((Below.refl _ _).alloc (Nat.le_refl _) _).alloc (by simp) _
  have hz : W2.heap.size = w.heap.size + 2 := by rw [hW2]; simp
  have hLF : LaidF W2 := hl.below hB
  have a0 : W2.cell? ⟨w.heap.size, 0, none⟩ = some (.string N) := by rw [hW2]; simp
  have a1 : W2.cell? ⟨w.heap.size, 1, none⟩ = some (.string S) := by rw [hW2]; simp
  have a2 : W2.cell? ⟨w.heap.size, 2, none⟩ = some (.bool st) := by rw [hW2]; simp
  have a3 : W2.cell? ⟨w.heap.size, 3, none⟩ = some (.string M) := by rw [hW2]; simp
  have a4 : W2.cell? ⟨w.heap.size, 4, none⟩ = some (.string Y) := by rw [hW2]; simp
  have hbx : BoxC W2 (w.heap.size + 1) (.string ⟨#[]⟩) (.string ⟨#[]⟩) (.bool false) (.slice none 0 0) (.slice none 0 0) := by
    have := boxC_new (w.alloc (.cells #[.string N, .string S, .bool st, .string M, .string Y] 103)) (.string ⟨#[]⟩) (.string ⟨#[]⟩) (.bool false) (.slice none 0 0) (.slice none 0 0)
    rw [hW2]; simpa using this
  have HLF := Lib.hid (hLF.below (Below.refl _ _).drew)
  have HB := Lib.hid hB
  have HBx := Lib.hid hbx
  have HFM := Lib.hid (fun (W : World) (h : LaidF W) => fields_any M W h hM)
  have HFY := Lib.hid (fun (W : World) (h : LaidF W) => fields_any Y W h hY)
  have HW2 := Lib.hid hW2.symm
  clear hl hM hY hB hLF hW2 hbx
  go_enter Tryz.func68, Tryz.ntmps68
  go_upto_region 1 with (fail)
  rw [HW2.out]
  have hst : W2.cell? ⟨w.heap.size, 0, none⟩ = some (.string N) ∧ W2.cell? ⟨w.heap.size, 1, none⟩ = some (.string S) ∧ W2.cell? ⟨w.heap.size, 2, none⟩ = some (.bool st) ∧ W2.cell? ⟨w.heap.size, 3, none⟩ = some (.string M) ∧ W2.cell? ⟨w.heap.size, 4, none⟩ = some (.string Y) := ⟨a0, a1, a2, a3, a4⟩
  have HA := Lib.hid hst
  have hst0 : W2.drew.cell? ⟨w.heap.size, 0, none⟩ = some (.string N) ∧ W2.drew.cell? ⟨w.heap.size, 1, none⟩ = some (.string S) ∧ W2.drew.cell? ⟨w.heap.size, 2, none⟩ = some (.bool st) ∧ W2.drew.cell? ⟨w.heap.size, 3, none⟩ = some (.string M) ∧ W2.drew.cell? ⟨w.heap.size, 4, none⟩ = some (.string Y) := hst
  clear hst
  clear a0 a1 a2 a3 a4
  go_region_held3 (fun w' => w'.cell? ⟨w.heap.size, 0, none⟩ = some (.string N) ∧ w'.cell? ⟨w.heap.size, 1, none⟩ = some (.string S) ∧ w'.cell? ⟨w.heap.size, 2, none⟩ = some (.bool st) ∧ w'.cell? ⟨w.heap.size, 3, none⟩ = some (.string M) ∧ w'.cell? ⟨w.heap.size, 4, none⟩ = some (.string Y))
    (first | (with_reducible exact hst0) | (with_reducible exact hst3) | (with_reducible exact hst4) | exact ⟨(set5_cell _ _ _ _ _ _ _ 0 (by omega)).trans hst4.1, (set5_cell _ _ _ _ _ _ _ 1 (by omega)).trans hst4.2.1, (set5_cell _ _ _ _ _ _ _ 2 (by omega)).trans hst4.2.2.1, (set5_cell _ _ _ _ _ _ _ 3 (by omega)).trans hst4.2.2.2.1, (set5_cell _ _ _ _ _ _ _ 4 (by omega)).trans hst4.2.2.2.2⟩)
    (first
      | (go_at_call 102; (with_reducible refine (HFM.out _ HLF.out).mono ?_); rintro e w3 ⟨v1, rfl, hv1, hb3⟩; (obtain ⟨xa, xn, xc, hx1⟩ := isTo_slice hv1); subst hx1; have hz3 : w.heap.size + 2 ≤ w3.heap.size := by { have := hb3.size; simpa [hz] using this }; have hst3 : w3.cell? ⟨w.heap.size, 0, none⟩ = some (.string N) ∧ w3.cell? ⟨w.heap.size, 1, none⟩ = some (.string S) ∧ w3.cell? ⟨w.heap.size, 2, none⟩ = some (.bool st) ∧ w3.cell? ⟨w.heap.size, 3, none⟩ = some (.string M) ∧ w3.cell? ⟨w.heap.size, 4, none⟩ = some (.string Y) := ⟨(hb3.cell (p := ⟨w.heap.size, 0, none⟩) (by simp; omega)).trans HA.out.1, (hb3.cell (p := ⟨w.heap.size, 1, none⟩) (by simp; omega)).trans HA.out.2.1, (hb3.cell (p := ⟨w.heap.size, 2, none⟩) (by simp; omega)).trans HA.out.2.2.1, (hb3.cell (p := ⟨w.heap.size, 3, none⟩) (by simp; omega)).trans HA.out.2.2.2.1, (hb3.cell (p := ⟨w.heap.size, 4, none⟩) (by simp; omega)).trans HA.out.2.2.2.2⟩; have HX3 := Lib.hid ((HBx.out.below (n := W2.heap.size) (Below.refl _ _).drew (by omega)).below hb3 (by simp; omega)); have HLF3 := Lib.hid (HLF.out.below hb3); have HB3 := Lib.hid ((HB.out.trans ((Below.refl W2.heap.size W2).drew.mono (by omega))).trans (hb3.mono (by simp; omega))); have HV1 := Lib.hid hv1; clear hv1 hb3)
      | (go_at_call 102; (with_reducible refine (HFY.out _ HLF3.out).mono ?_); rintro e w4 ⟨v2, rfl, hv2, hb4⟩; (obtain ⟨ya, yn, yc, hx2⟩ := isTo_slice hv2); subst hx2; have hz4 := hb4.size; have hst4 : w4.cell? ⟨w.heap.size, 0, none⟩ = some (.string N) ∧ w4.cell? ⟨w.heap.size, 1, none⟩ = some (.string S) ∧ w4.cell? ⟨w.heap.size, 2, none⟩ = some (.bool st) ∧ w4.cell? ⟨w.heap.size, 3, none⟩ = some (.string M) ∧ w4.cell? ⟨w.heap.size, 4, none⟩ = some (.string Y) := ⟨(hb4.cell (p := ⟨w.heap.size, 0, none⟩) (show w.heap.size < w3.heap.size by omega)).trans hst3.1, (hb4.cell (p := ⟨w.heap.size, 1, none⟩) (show w.heap.size < w3.heap.size by omega)).trans hst3.2.1, (hb4.cell (p := ⟨w.heap.size, 2, none⟩) (show w.heap.size < w3.heap.size by omega)).trans hst3.2.2.1, (hb4.cell (p := ⟨w.heap.size, 3, none⟩) (show w.heap.size < w3.heap.size by omega)).trans hst3.2.2.2.1, (hb4.cell (p := ⟨w.heap.size, 4, none⟩) (show w.heap.size < w3.heap.size by omega)).trans hst3.2.2.2.2⟩; have HX4 := Lib.hid (HX3.out.below hb4 (by omega)); (obtain ⟨m0, m1, m2, m3, m4⟩ := HX4.out.cells); (obtain ⟨n0, n1, n2, n3, n4⟩ := HX4.out.frozen); have HB4 := Lib.hid (bthen HB3.out hb4); have HV1' := Lib.hid (isTo_go HV1.out hb4 (Nat.le_refl _)); have HV2 := Lib.hid hv2; clear hv2 hb4))
  all_goals
    go_split_ands
    go_wp2
    refine bodyPost_ret (v := .agg #[.string N, .string S, .bool st, .slice xa xn xc, .slice ya yn yc]) (by
      have hbx := (HX4.out.store (.string N) (.string S) (.bool st) (.slice xa xn xc) (.slice ya yn yc)).cells
      obtain ⟨p0, p1, p2, p3, p4⟩ := hbx
      simp [results, Tryz.results68, go_sem, p0, p1, p2, p3, p4]) rfl ⟨.slice xa xn xc, .slice ya yn yc, rfl, ?_, ?_, ?_⟩
    · exact isTo_set5 HV1'.out (by simp; omega) (by simp; omega) _ _ _ _ _
    · exact isTo_set5 HV2.out (by omega) (by omega) _ _ _ _ _
    · exact set5_below HB4.out (by omega) _ _ _ _ _
end Go.Proofs.YtofmpaphafhdpaaGreatDoor
