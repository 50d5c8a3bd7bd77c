/- schema.find: the walk. -/
import Derived.Test.YtofmpaphafhdpaaGreatDoorScClass
namespace Go.Proofs.YtofmpaphafhdpaaGreatDoor
open Go.RowKit
set_option linter.unusedVariables false

def FindW (w : World) (o : Option CT) (e : Ending) (w' : World) : Prop := Below w.heap.size w w' ∧ match o with
  | none => e = .returned (.tuple #[noC, .bool false])
  | some c => ∃ u1 u2, e = .returned (.tuple #[.agg #[strV c.name, strV c.sup, .bool c.st, u1, u2], .bool true]) ∧ IsTo (New w.heap.size w') w' c.mustL u1 ∧ IsTo (New w.heap.size w') w' c.mayL u2

set_option maxRecDepth 100000 in
set_option maxHeartbeats 4000000 in
theorem findC_any (n : ByteArray) (w : World) (hl : LaidF w) : Calls Tryz.prog 33 #[.string n] w (FindW w (findC n.data.toList)) := by
  obtain ⟨R, hR⟩ : ∃ R, R = findC n.data.toList := ⟨_, rfl⟩
  rw [← hR]
  have HR := Lib.hid hR
  obtain ⟨W0, hW0⟩ : ∃ W0, W0 = w.alloc (.cells #[.string ⟨#[]⟩, .string ⟨#[]⟩, .bool false, .slice none 0 0, .slice none 0 0] 29) := ⟨_, rfl⟩
  have hB0 : Below w.heap.size w W0 := by rw [hW0]; exact (Below.refl _ _).alloc (Nat.le_refl _) _
  have hbx : BoxC W0 w.heap.size (.string ⟨#[]⟩) (.string ⟨#[]⟩) (.bool false) (.slice none 0 0) (.slice none 0 0) := by rw [hW0]; exact boxC_new _ _ _ _ _ _
  have hz0 : W0.heap.size = w.heap.size + 1 := by rw [hW0]; simp
  have HB0 := Lib.hid hB0
  have HBx := Lib.hid hbx
  have HLF := Lib.hid (hl.below hB0)
  have HW0 := Lib.hid hW0.symm
  clear hR hW0 hB0 hbx hl
  go_enter Tryz.func33, Tryz.ntmps33
  go_upto_region 1 with (fail)
  rw [HW0.out]
  go_wp2_with (go_at_call 67; refine (rows_any _).mono ?_; rintro e w2 ⟨rfl, hb2⟩; have HB2 := Lib.hid hb2; clear hb2)
  go_loopw [7] (fun i wr => ∃ k : Nat, k ≤ 7 ∧ i = .int .i64 k ∧ Hid (∀ i, (h : i < classL.length) → i < k → classL[i].name ≠ n.data.toList) ∧ Below W0.heap.size W0 wr) (fun i _ => 7 - (intOf i).toNat)
  case atStart => exact ⟨0, by omega, rfl, Lib.hid (fun i _ h => absurd h (by omega)), HB2.out⟩
  case round =>
    obtain ⟨k, hk, rfl, HN, hb⟩ := hrel
    have HB := Lib.hid hb
    have hsz := hb.size
    have HX := Lib.hid (HBx.out.below hb (by omega))
    clear hb
    by_cases hlt : k < 7
    · have t1 : decide ((k : Int) < 7) = true := by simp; omega
      have hkl : k < classL.length := hlt
      have hix := row_at k hkl
      obtain ⟨X, hX⟩ : ∃ X : ByteArray, X = ⟨classL[k].name.toArray⟩ := ⟨_, rfl⟩
      obtain ⟨S, hS⟩ : ∃ X : ByteArray, X = ⟨classL[k].sup.toArray⟩ := ⟨_, rfl⟩
      obtain ⟨M, hM⟩ : ∃ X : ByteArray, X = ⟨classL[k].must.toArray⟩ := ⟨_, rfl⟩
      obtain ⟨Y, hY⟩ : ∃ X : ByteArray, X = ⟨classL[k].may.toArray⟩ := ⟨_, rfl⟩
      obtain ⟨st, hst⟩ : ∃ b, b = classL[k].st := ⟨_, rfl⟩
      have hpl := class_plain classL[k] (List.getElem_mem _)
      have hMl : M.data.toList = classL[k].must := by rw [hM]
      have hYl : Y.data.toList = classL[k].may := by rw [hY]
      simp only [rowV, strV, ← hX, ← hS, ← hM, ← hY, ← hst] at hix
      have hcl := fun W (h : LaidF W) => class_any X S M Y st W h (by rw [hMl]; exact hpl.1) (by rw [hYl]; exact hpl.2)
      have HCl := Lib.hid hcl
      by_cases he : X = n
      · have hf : R = some classL[k] := by rw [HR.out]; exact findC_at hkl HN.out (by rw [← he, hX])
        subst he
        subst hf
        have HMl := Lib.hid hMl
        have HYl := Lib.hid hYl
        have HXX := Lib.hid hX
        have HSS := Lib.hid hS
        have HST := Lib.hid hst
        clear hpl hMl hYl hcl HN hX hS hM hY hst HR
        have HA := Lib.hid (HB.out.alloc hsz (.cells #[.string X, .string S, .bool st, .string M, .string Y] 103))
        go_wp2_with (go_at_call 68; refine (HCl.out _ (HLF.out.below HA.out)).mono ?_; rintro e w3 ⟨u1, u2, rfl, h1, h2, hb3⟩; (obtain ⟨xa, xn, xc, hx1⟩ := isTo_slice h1); subst hx1; (obtain ⟨ya, yn, yc, hx2⟩ := isTo_slice h2); subst hx2; have HX3 := Lib.hid (HX.out.below (((Below.refl wr.heap.size wr).alloc (Nat.le_refl _) (.cells #[.string X, .string S, .bool st, .string M, .string Y] 103)).trans (hb3.mono (by simp))) (by omega)); (obtain ⟨m0, m1, m2, m3, m4⟩ := HX3.out.cells); (obtain ⟨n0, n1, n2, n3, n4⟩ := HX3.out.frozen); have hz3 := hb3.size; (simp only [World.size_alloc] at hz3); have HB3 := Lib.hid (HA.out.trans (hb3.mono (by simp; omega))); have H1 := Lib.hid h1; have H2 := Lib.hid h2; clear hb3 h1 h2)
        refine bodyPost_ret (v := .tuple #[.agg #[.string X, .string S, .bool st, .slice xa xn xc, .slice ya yn yc], .bool true]) (by
          have hbx := (HX3.out.store (.string X) (.string S) (.bool st) (.slice xa xn xc) (.slice ya yn yc)).cells
          obtain ⟨p0, p1, p2, p3, p4⟩ := hbx
          simp [results, Tryz.results33, go_sem, p0, p1, p2, p3, p4]) rfl ⟨?_, .slice xa xn xc, .slice ya yn yc, ?_, ?_, ?_⟩
        · exact set5_below (HB0.out.trans (HB3.out.mono HB0.out.size)) (Nat.le_refl _) _ _ _ _ _
        · rw [HXX.out, HSS.out, HST.out]; rfl
        · have := isTo_set5 (b := w.heap.size) H1.out (by simp; omega) (B' := w.heap.size) (by simp; omega) (.string X) (.string S) (.bool st) (.slice xa xn xc) (.slice ya yn yc)
          rw [HMl.out] at this
          exact this
        · have := isTo_set5 (b := w.heap.size) H2.out (by simp; omega) (B' := w.heap.size) (by simp; omega) (.string X) (.string S) (.bool st) (.slice xa xn xc) (.slice ya yn yc)
          rw [HYl.out] at this
          exact this
      · have hne : classL[k].name ≠ n.data.toList := fun e => he (by rw [hX, e])
        have HN2 := Lib.hid (fun i (h : i < classL.length) (hi : i < k + 1) => (show classL[i].name ≠ n.data.toList from if e : i = k then by subst e; exact hne else HN.out i h (by omega)))
        have t2 := str_ne he
        clear hne hX hS hM hY hst HN hpl hMl hYl hcl HR
        go_wp2
        exact ⟨⟨k + 1, by omega, by go_num, HN2, HB.out.alloc (by omega) _⟩, by simp [intOf]; omega⟩
    · obtain rfl : k = 7 := by omega
      have hf : R = none := by rw [HR.out]; exact findC_no (fun i h => HN.out i h (by simpa [classL] using h))
      subst hf
      obtain ⟨m0, m1, m2, m3, m4⟩ := HX.out.cells
      obtain ⟨n0, n1, n2, n3, n4⟩ := HX.out.frozen
      clear HN HR
      go_wp2
      refine bodyPost_ret (v := .tuple #[noC, .bool false]) (by
        have hbx := (HX.out.store (.string ⟨#[]⟩) (.string ⟨#[]⟩) (.bool false) (.slice none 0 0) (.slice none 0 0)).cells
        obtain ⟨p0, p1, p2, p3, p4⟩ := hbx
        simp [results, Tryz.results33, go_sem, p0, p1, p2, p3, p4, noC]) rfl ⟨?_, rfl⟩
      exact set5_below (HB0.out.trans (HB.out.mono HB0.out.size)) (Nat.le_refl _) _ _ _ _ _
end Go.Proofs.YtofmpaphafhdpaaGreatDoor
