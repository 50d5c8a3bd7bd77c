/- schema.Find: the walk. -/
import Derived.Test.YtjffidegmonkfaaGreatDoorScFind
import Derived.Test.YtjffidegmonkfaaGreatDoorMaNorm
namespace Go.Proofs.YtjffidegmonkfaaGreatDoor
open Go.RowKit
set_option linter.unusedVariables false

def findE (n : List UInt8) : Option CT := if 18 < n.length then none else if 0 ≤ Lib.indexByte n 32 then none else findC (fold n)
set_option maxHeartbeats 1000000 in
theorem blankIdx_any (s : ByteArray) (w : World) : Calls Tryz.prog 70 #[.string s, .string ⟨#[32]⟩] w fun e w' => e = .returned (.int .i64 (Lib.indexByte s.data.toList 32)) ∧ w' = w := by
  go_enter Tryz.func70, Tryz.ntmps70
  go_wp2_with (go_at_call 106; refine (Tryz.stringslite_Index_one s 32 _).mono ?_; rintro e w2 ⟨rfl, rfl⟩)
  go_ret
  exact ⟨rfl, rfl⟩
set_option maxHeartbeats 1000000 in
theorem hasBlank_any (s : ByteArray) (w : World) : Calls Tryz.prog 37 #[.string s, .string ⟨#[32]⟩] w fun e w' => e = .returned (.bool (decide (0 ≤ Lib.indexByte s.data.toList 32))) ∧ w' = w := by
  have hb := fun w => blankIdx_any s w
  generalize Lib.indexByte s.data.toList 32 = I at hb ⊢
  have HB := Lib.hid hb
  clear hb
  go_enter Tryz.func37, Tryz.ntmps37
  go_wp2_with (go_at_call 70; refine (HB.out _).mono ?_; rintro e w2 ⟨rfl, rfl⟩)
  go_ret
  exact ⟨rfl, rfl⟩

set_option maxRecDepth 100000 in
set_option maxHeartbeats 4000000 in
theorem findE_any (n : ByteArray) (w : World) (hl : LaidF w) : Calls Tryz.prog 14 #[.string n] w (FindW w (findE n.data.toList)) := by
  obtain ⟨R, hR⟩ : ∃ R, R = findE n.data.toList := ⟨_, rfl⟩
  rw [← hR]
  unfold findE at hR
  rw [bytes_len] at hR
  obtain ⟨W0, hW0⟩ : ∃ W0, W0 = w.alloc (.cells #[.string ⟨#[]⟩, .string ⟨#[]⟩, .bool false, .slice none 0 0, .slice none 0 0] 29) := ⟨_, rfl⟩
  have hB0 : Below w.heap.size w W0 := by rw [hW0]; exact (Below.refl _ _).alloc (Nat.le_refl _) _
  have hbx : BoxC W0 w.heap.size (.string ⟨#[]⟩) (.string ⟨#[]⟩) (.bool false) (.slice none 0 0) (.slice none 0 0) := by rw [hW0]; exact boxC_new _ _ _ _ _ _
  have hz0 : W0.heap.size = w.heap.size + 1 := by rw [hW0]; simp
  have HB0 := Lib.hid hB0
  have HBx := Lib.hid hbx
  have HLF := Lib.hid (hl.below hB0)
  have HW0 := Lib.hid hW0.symm
  have hnone : ∀ (W : World), BoxC W w.heap.size (.string ⟨#[]⟩) (.string ⟨#[]⟩) (.bool false) (.slice none 0 0) (.slice none 0 0) → (set5 W w.heap.size (.string ⟨#[]⟩) (.string ⟨#[]⟩) (.bool false) (.slice none 0 0) (.slice none 0 0)).cell? ⟨w.heap.size, 0, none⟩ = some (.string ⟨#[]⟩) := fun W h => (h.store _ _ _ _ _).cells.1
  clear hW0 hB0 hbx hl hnone
  by_cases h18 : 18 < n.size
  · rw [if_pos h18] at hR
    subst hR
    have t1 : decide ((18 : Int) < (n.size : Int)) = true := by simp; omega
    obtain ⟨m0, m1, m2, m3, m4⟩ := HBx.out.cells
    obtain ⟨n0, n1, n2, n3, n4⟩ := HBx.out.frozen
    go_enter Tryz.func14, Tryz.ntmps14
    go_upto_region 1 with (fail)
    rw [HW0.out]
    go_wp2
    refine bodyPost_ret (v := .tuple #[noC, .bool false]) (by
      obtain ⟨p0, p1, p2, p3, p4⟩ := (HBx.out.store (.string ⟨#[]⟩) (.string ⟨#[]⟩) (.bool false) (.slice none 0 0) (.slice none 0 0)).cells
      simp [results, Tryz.results14, go_sem, p0, p1, p2, p3, p4, noC]) rfl ⟨?_, rfl⟩
    exact set5_below HB0.out (Nat.le_refl _) _ _ _ _ _
  · rw [if_neg h18] at hR
    have t1 : decide ((18 : Int) < (n.size : Int)) = false := by simp; omega
    have hco := fun w => hasBlank_any n w
    obtain ⟨b, hb⟩ : ∃ b, b = decide (0 ≤ Lib.indexByte n.data.toList 32) := ⟨_, rfl⟩
    rw [← hb] at hco
    cases b with
    | true =>
      rw [if_pos (of_decide_eq_true hb.symm)] at hR
      subst hR
      have HCo := Lib.hid hco
      obtain ⟨m0, m1, m2, m3, m4⟩ := HBx.out.cells
      obtain ⟨n0, n1, n2, n3, n4⟩ := HBx.out.frozen
      clear hco hb
      go_enter Tryz.func14, Tryz.ntmps14
      go_upto_region 1 with (fail)
      rw [HW0.out]
      go_wp2_with (go_at_call 37; refine (HCo.out _).mono ?_; rintro e w2 ⟨rfl, rfl⟩)
      refine bodyPost_ret (v := .tuple #[noC, .bool false]) (by
        obtain ⟨p0, p1, p2, p3, p4⟩ := (HBx.out.store (.string ⟨#[]⟩) (.string ⟨#[]⟩) (.bool false) (.slice none 0 0) (.slice none 0 0)).cells
        simp [results, Tryz.results14, go_sem, p0, p1, p2, p3, p4, noC]) rfl ⟨?_, rfl⟩
      exact set5_below HB0.out (Nat.le_refl _) _ _ _ _ _
    | false =>
      rw [if_neg (of_decide_eq_false hb.symm)] at hR
      have HCo := Lib.hid hco
      have hfo := fun w => fold_any trim_any n w (by omega)
      obtain ⟨F, hF⟩ : ∃ F, F = foldB n := ⟨_, rfl⟩
      have hFl : F.data.toList = fold n.data.toList := by rw [hF]; simp [foldB]
      rw [← hF] at hfo
      have hfi := fun W h => findC_any F W h
      rw [hFl, ← hR] at hfi
      have HFo := Lib.hid hfo
      clear hco hb hfo hF hFl hR
      cases R with
      | none =>
        have HFi := Lib.hid hfi
        clear hfi
        go_enter Tryz.func14, Tryz.ntmps14
        go_upto_region 1 with (fail)
        rw [HW0.out]
        go_wp2_with (first
          | (go_at_call 37; refine (HCo.out _).mono ?_; rintro e w2 ⟨rfl, rfl⟩)
          | (go_at_call 39; refine (HFo.out _).mono ?_; rintro e w3 ⟨rfl, hb3⟩; have hz3 := hb3.size; have HX3 := Lib.hid (HBx.out.below hb3 (by omega)); have HB3 := Lib.hid (HB0.out.trans (hb3.mono HB0.out.size)); have HL3 := Lib.hid (HLF.out.below hb3); clear hb3)
          | (go_at_call 38; refine (HFi.out _ HL3.out).mono ?_; rintro e w4 hfw; (simp only [FindW, noC] at hfw); (obtain ⟨hb4, rfl⟩ := hfw); have HX4 := Lib.hid (HX3.out.below hb4 (by omega)); (obtain ⟨m0, m1, m2, m3, m4⟩ := HX4.out.cells); (obtain ⟨n0, n1, n2, n3, n4⟩ := HX4.out.frozen); have HB4 := Lib.hid (bthen HB3.out hb4); clear hb4))
        refine bodyPost_ret (v := .tuple #[noC, .bool false]) (by
          obtain ⟨p0, p1, p2, p3, p4⟩ := (HX4.out.store (.string ⟨#[]⟩) (.string ⟨#[]⟩) (.bool false) (.slice none 0 0) (.slice none 0 0)).cells
          simp [results, Tryz.results14, go_sem, p0, p1, p2, p3, p4, noC]) rfl ⟨?_, rfl⟩
        exact set5_below HB4.out (Nat.le_refl _) _ _ _ _ _
      | some c =>
        obtain ⟨N, hN⟩ : ∃ X : ByteArray, X = ⟨c.name.toArray⟩ := ⟨_, rfl⟩
        obtain ⟨S, hS⟩ : ∃ X : ByteArray, X = ⟨c.sup.toArray⟩ := ⟨_, rfl⟩
        have HNe := Lib.hid hN
        have HSe := Lib.hid hS
        have HFi := Lib.hid hfi
        clear hfi hN hS
        go_enter Tryz.func14, Tryz.ntmps14
        go_upto_region 1 with (fail)
        rw [HW0.out]
        go_wp2_with (first
          | (go_at_call 37; refine (HCo.out _).mono ?_; rintro e w2 ⟨rfl, rfl⟩)
          | (go_at_call 39; refine (HFo.out _).mono ?_; rintro e w3 ⟨rfl, hb3⟩; have hz3 := hb3.size; have HX3 := Lib.hid (HBx.out.below hb3 (by omega)); have HB3 := Lib.hid (HB0.out.trans (hb3.mono HB0.out.size)); have HL3 := Lib.hid (HLF.out.below hb3); clear hb3)
          | (go_at_call 38; refine (HFi.out _ HL3.out).mono ?_; rintro e w4 hfw; (simp only [FindW, strV, ← HNe.out, ← HSe.out] at hfw); (obtain ⟨hb4, u1, u2, rfl, h1, h2⟩ := hfw); (obtain ⟨xa, xn, xc, hx1⟩ := isTo_slice h1); subst hx1; (obtain ⟨ya, yn, yc, hx2⟩ := isTo_slice h2); subst hx2; have HX4 := Lib.hid (HX3.out.below hb4 (by omega)); (obtain ⟨m0, m1, m2, m3, m4⟩ := HX4.out.cells); (obtain ⟨n0, n1, n2, n3, n4⟩ := HX4.out.frozen); have HB4 := Lib.hid (bthen HB3.out hb4); have H1 := Lib.hid h1; have H2 := Lib.hid h2; clear hb4 h1 h2))
        refine bodyPost_ret (v := .tuple #[.agg #[.string N, .string S, .bool c.st, .slice xa xn xc, .slice ya yn yc], .bool true]) (by
          obtain ⟨p0, p1, p2, p3, p4⟩ := (HX4.out.store (.string N) (.string S) (.bool c.st) (.slice xa xn xc) (.slice ya yn yc)).cells
          simp [results, Tryz.results14, go_sem, p0, p1, p2, p3, p4]) rfl ⟨?_, .slice xa xn xc, .slice ya yn yc, ?_, ?_, ?_⟩
        · exact set5_below HB4.out (Nat.le_refl _) _ _ _ _ _
        · rw [HNe.out, HSe.out]; rfl
        · exact isTo_set5 H1.out (by omega) (by omega) _ _ _ _ _
        · exact isTo_set5 H2.out (by omega) (by omega) _ _ _ _ _
end Go.Proofs.YtjffidegmonkfaaGreatDoor
