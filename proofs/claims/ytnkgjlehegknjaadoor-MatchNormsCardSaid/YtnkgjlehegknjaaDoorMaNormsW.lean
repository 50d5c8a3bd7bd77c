/- What is like another value has its norm; the norm of a norm is that: the walk. -/
import Derived.Test.YtnkgjlehegknjaaDoorMaAwake
import Derived.Test.YtnkgjlehegknjaaDoorMaKeyP
namespace Go.Proofs.YtnkgjlehegknjaaDoor
open Go.RowKit
set_option linter.unusedVariables false

/-- The twelve texts of the statement's list. -/
def tyL : List (List UInt8) := kindsL.map (·.1) ++ [[110, 111, 110, 101]]
def tyB (k : Nat) : ByteArray := ⟨(tyL.getD k []).toArray⟩
set_option maxRecDepth 100000 in
set_option maxHeartbeats 1000000 in
theorem types_any (w : World) : Calls Tryd.prog 8 #[] w fun e w' => e = .returned (.slice (some ⟨w.heap.size, 0, none⟩) 12 12) ∧ (∀ k, k < 12 → w'.cell? ⟨w.heap.size, k, none⟩ = some (.string (tyB k))) ∧ w.heap.size < w'.heap.size ∧ Below w.heap.size w w' := by
  go_enter Tryd.func8, Tryd.ntmps8
  go_wp2
  go_ret
  refine ⟨rfl, fun k hk => ?_, by simp, (Below.refl _ _).alloc (Nat.le_refl _) _⟩
  rcases (show k = 0 ∨ k = 1 ∨ k = 2 ∨ k = 3 ∨ k = 4 ∨ k = 5 ∨ k = 6 ∨ k = 7 ∨ k = 8 ∨ k = 9 ∨ k = 10 ∨ k = 11 from by omega) with rfl | rfl | rfl | rfl | rfl | rfl | rfl | rfl | rfl | rfl | rfl | rfl <;> simp <;> rfl

theorem sameO_symm (p q : Option (List UInt8)) : sameO p q = sameO q p := by
  cases p <;> cases q <;> simp [sameO]
  exact Bool.eq_iff_iff.2 ⟨fun h => by simpa using (by simpa using h : _ = _).symm, fun h => by simpa using (by simpa using h : _ = _).symm⟩

theorem normD_nil (r : Nat) : normD r [] = none := by unfold normD; rw [if_pos (.inl rfl)]
theorem norm_at (T s : ByteArray) (r : Nat) (hr : ruleD T.data.toList = r) (o : Option (List UInt8)) (h : normD r s.data.toList = o) (v : Value) (hv : saidP o = v) (w : World) (hw : LaidW w) :
    Calls Tryd.prog 9 #[.string T, .string s] w fun e w' => e = .returned v ∧ Below w.heap.size w w' := by
  have := norm_any T s w hw
  rw [hr, h, hv] at this
  exact this
theorem same_at (T s t : ByteArray) (r : Nat) (hr : ruleD T.data.toList = r) (o q : Option (List UInt8)) (h : normD r s.data.toList = o) (k : normD r t.data.toList = q) (v : Bool) (hv : sameO o q = v) (w : World) (hw : LaidW w) :
    Calls Tryd.prog 10 #[.string T, .string s, .string t] w fun e w' => e = .returned (.bool v) ∧ Below w.heap.size w w' := by
  have := same_any T s t w hw
  rw [hr, h, k, hv] at this
  exact this

set_option maxRecDepth 100000 in
set_option maxHeartbeats 8000000 in
theorem norms_walk (n : Nat) (hn : n ≤ 255) (a b : ByteArray) (w : World) (hw : LaidW w) :
    Calls Tryd.prog 3 #[.int .u8 n, .string a, .string b] w fun e w' => e = .returned (.bool true) ∧ Below w.heap.size w w' := by
  have HW := Lib.hid hw
  clear hw
  by_cases hla : 150 < a.size
  · have t0 : decide ((150 : Int) < (a.size : Int)) = true := by simp; omega
    go_enter Tryd.func3, Tryd.ntmps3
    go_wp2_with (go_at_call 7; refine (awake3_any _ HW.out).mono ?_; rintro e w2 ⟨rfl, hb2⟩; have HB := Lib.hid hb2; clear hb2)
    go_ret
    exact ⟨rfl, HB.out⟩
  have t0 : decide ((150 : Int) < (a.size : Int)) = false := by simp; omega
  by_cases hlb : 150 < b.size
  · have t1 : decide ((150 : Int) < (b.size : Int)) = true := by simp; omega
    go_enter Tryd.func3, Tryd.ntmps3
    go_wp2_with (go_at_call 7; refine (awake3_any _ HW.out).mono ?_; rintro e w2 ⟨rfl, hb2⟩; have HB := Lib.hid hb2; clear hb2)
    go_ret
    exact ⟨rfl, HB.out⟩
  have t1 : decide ((150 : Int) < (b.size : Int)) = false := by simp; omega
  obtain ⟨T, hT⟩ : ∃ T, T = tyB (n % 12) := ⟨_, rfl⟩
  have HT := Lib.hid hT
  clear hT
  obtain ⟨r, hr⟩ : ∃ r, ruleD T.data.toList = r := ⟨_, rfl⟩
  obtain ⟨p, hp⟩ : ∃ p, normD r a.data.toList = p := ⟨_, rfl⟩
  obtain ⟨q, hq⟩ : ∃ q, normD r b.data.toList = q := ⟨_, rfl⟩
  have hnil : normD r (⟨#[]⟩ : ByteArray).data.toList = none := normD_nil r
  cases p with
  | none =>
    have NA := Lib.hid (norm_at T a r hr none hp _ rfl)
    have NX := Lib.hid (norm_at T ⟨#[]⟩ r hr none hnil _ rfl)
    have SAB := Lib.hid (same_at T a b r hr none q hp hq false (by cases q <;> rfl))
    have SBA := Lib.hid (same_at T b a r hr q none hq hp false (by cases q <;> rfl))
    have SAX := Lib.hid True.intro
    cases q with
    | none =>
      have NB := Lib.hid (norm_at T b r hr none hq _ rfl)
      simp only [saidP] at NA NB NX
      clear hr hp hq hnil
      go_enter Tryd.func3, Tryd.ntmps3
      go_wp2_with (first
        | (go_at_call 8; refine (types_any _).mono ?_; rintro e w1 ⟨rfl, hcell, hlt1, hb1⟩; have c0 := hcell (n % 12) (by omega); rw [← HT.out] at c0; have HB := Lib.hid hb1; clear hb1 hcell)
        | (go_at_call 9; first | ((with_reducible refine (NA.out _ (HW.out.below HB.out)).mono ?_); rintro e w2 ⟨rfl, hb2⟩; have HB := Lib.hid (bthen HB.out hb2); clear hb2) | ((with_reducible refine (NB.out _ (HW.out.below HB.out)).mono ?_); rintro e w2 ⟨rfl, hb2⟩; have HB := Lib.hid (bthen HB.out hb2); clear hb2) | ((with_reducible refine (NX.out _ (HW.out.below HB.out)).mono ?_); rintro e w2 ⟨rfl, hb2⟩; have HB := Lib.hid (bthen HB.out hb2); clear hb2))
        | (go_at_call 10; first | ((with_reducible refine (SAB.out _ (HW.out.below HB.out)).mono ?_); rintro e w2 ⟨rfl, hb2⟩; have HB := Lib.hid (bthen HB.out hb2); clear hb2) | ((with_reducible refine (SBA.out _ (HW.out.below HB.out)).mono ?_); rintro e w2 ⟨rfl, hb2⟩; have HB := Lib.hid (bthen HB.out hb2); clear hb2) | ((with_reducible refine (SAX.out _ (HW.out.below HB.out)).mono ?_); rintro e w2 ⟨rfl, hb2⟩; have HB := Lib.hid (bthen HB.out hb2); clear hb2))
        | (go_at_call 7; refine (awake3_any _ (HW.out.below HB.out)).mono ?_; rintro e w2 ⟨rfl, hb2⟩; have HB := Lib.hid (bthen HB.out hb2); clear hb2))
      go_ret
      exact ⟨rfl, HB.out⟩
    | some y =>
      obtain ⟨Y, hY⟩ : ∃ Y : ByteArray, Y = ⟨y.toArray⟩ := ⟨_, rfl⟩
      have NB := Lib.hid (norm_at T b r hr (some y) hq _ (saidP_some hY))
      simp only [saidP] at NA NX
      clear hr hp hq hnil hY
      go_enter Tryd.func3, Tryd.ntmps3
      go_wp2_with (first
        | (go_at_call 8; refine (types_any _).mono ?_; rintro e w1 ⟨rfl, hcell, hlt1, hb1⟩; have c0 := hcell (n % 12) (by omega); rw [← HT.out] at c0; have HB := Lib.hid hb1; clear hb1 hcell)
        | (go_at_call 9; first | ((with_reducible refine (NA.out _ (HW.out.below HB.out)).mono ?_); rintro e w2 ⟨rfl, hb2⟩; have HB := Lib.hid (bthen HB.out hb2); clear hb2) | ((with_reducible refine (NB.out _ (HW.out.below HB.out)).mono ?_); rintro e w2 ⟨rfl, hb2⟩; have HB := Lib.hid (bthen HB.out hb2); clear hb2) | ((with_reducible refine (NX.out _ (HW.out.below HB.out)).mono ?_); rintro e w2 ⟨rfl, hb2⟩; have HB := Lib.hid (bthen HB.out hb2); clear hb2))
        | (go_at_call 10; first | ((with_reducible refine (SAB.out _ (HW.out.below HB.out)).mono ?_); rintro e w2 ⟨rfl, hb2⟩; have HB := Lib.hid (bthen HB.out hb2); clear hb2) | ((with_reducible refine (SBA.out _ (HW.out.below HB.out)).mono ?_); rintro e w2 ⟨rfl, hb2⟩; have HB := Lib.hid (bthen HB.out hb2); clear hb2) | ((with_reducible refine (SAX.out _ (HW.out.below HB.out)).mono ?_); rintro e w2 ⟨rfl, hb2⟩; have HB := Lib.hid (bthen HB.out hb2); clear hb2))
        | (go_at_call 7; refine (awake3_any _ (HW.out.below HB.out)).mono ?_; rintro e w2 ⟨rfl, hb2⟩; have HB := Lib.hid (bthen HB.out hb2); clear hb2))
      go_ret
      exact ⟨rfl, HB.out⟩
  | some x =>
    obtain ⟨X, hX⟩ : ∃ X : ByteArray, X = ⟨x.toArray⟩ := ⟨_, rfl⟩
    have hXl : X.data.toList = x := by rw [hX]
    have hxx : normD r X.data.toList = some x := by rw [hXl]; exact norm_norm hp
    have NA := Lib.hid (norm_at T a r hr (some x) hp _ (saidP_some hX))
    have NX := Lib.hid (norm_at T X r hr (some x) hxx _ (saidP_some hX))
    have SAX := Lib.hid (same_at T a X r hr (some x) (some x) hp hxx true (by simp [sameO]))
    cases q with
    | none =>
      have NB := Lib.hid (norm_at T b r hr none hq _ rfl)
      have SAB := Lib.hid (same_at T a b r hr (some x) none hp hq false rfl)
      have SBA := Lib.hid (same_at T b a r hr none (some x) hq hp false rfl)
      simp only [saidP] at NB
      clear hr hp hq hnil hX hXl hxx
      go_enter Tryd.func3, Tryd.ntmps3
      go_wp2_with (first
        | (go_at_call 8; refine (types_any _).mono ?_; rintro e w1 ⟨rfl, hcell, hlt1, hb1⟩; have c0 := hcell (n % 12) (by omega); rw [← HT.out] at c0; have HB := Lib.hid hb1; clear hb1 hcell)
        | (go_at_call 9; first | ((with_reducible refine (NA.out _ (HW.out.below HB.out)).mono ?_); rintro e w2 ⟨rfl, hb2⟩; have HB := Lib.hid (bthen HB.out hb2); clear hb2) | ((with_reducible refine (NB.out _ (HW.out.below HB.out)).mono ?_); rintro e w2 ⟨rfl, hb2⟩; have HB := Lib.hid (bthen HB.out hb2); clear hb2) | ((with_reducible refine (NX.out _ (HW.out.below HB.out)).mono ?_); rintro e w2 ⟨rfl, hb2⟩; have HB := Lib.hid (bthen HB.out hb2); clear hb2))
        | (go_at_call 10; first | ((with_reducible refine (SAB.out _ (HW.out.below HB.out)).mono ?_); rintro e w2 ⟨rfl, hb2⟩; have HB := Lib.hid (bthen HB.out hb2); clear hb2) | ((with_reducible refine (SBA.out _ (HW.out.below HB.out)).mono ?_); rintro e w2 ⟨rfl, hb2⟩; have HB := Lib.hid (bthen HB.out hb2); clear hb2) | ((with_reducible refine (SAX.out _ (HW.out.below HB.out)).mono ?_); rintro e w2 ⟨rfl, hb2⟩; have HB := Lib.hid (bthen HB.out hb2); clear hb2))
        | (go_at_call 7; refine (awake3_any _ (HW.out.below HB.out)).mono ?_; rintro e w2 ⟨rfl, hb2⟩; have HB := Lib.hid (bthen HB.out hb2); clear hb2))
      go_ret
      exact ⟨rfl, HB.out⟩
    | some y =>
      obtain ⟨Y, hY⟩ : ∃ Y : ByteArray, Y = ⟨y.toArray⟩ := ⟨_, rfl⟩
      have hYl : Y.data.toList = y := by rw [hY]
      have NB := Lib.hid (norm_at T b r hr (some y) hq _ (saidP_some hY))
      by_cases he : X = Y
      · have hxy : x = y := by rw [← hXl, ← hYl, he]
        have SAB := Lib.hid (same_at T a b r hr (some x) (some y) hp hq true (by simp [sameO, hxy]))
        have SBA := Lib.hid (same_at T b a r hr (some y) (some x) hq hp true (by simp [sameO, hxy]))
        subst he
        clear hr hp hq hnil hX hXl hxx hY hYl hxy
        go_enter Tryd.func3, Tryd.ntmps3
        go_wp2_with (first
          | (go_at_call 8; refine (types_any _).mono ?_; rintro e w1 ⟨rfl, hcell, hlt1, hb1⟩; have c0 := hcell (n % 12) (by omega); rw [← HT.out] at c0; have HB := Lib.hid hb1; clear hb1 hcell)
          | (go_at_call 9; first | ((with_reducible refine (NA.out _ (HW.out.below HB.out)).mono ?_); rintro e w2 ⟨rfl, hb2⟩; have HB := Lib.hid (bthen HB.out hb2); clear hb2) | ((with_reducible refine (NB.out _ (HW.out.below HB.out)).mono ?_); rintro e w2 ⟨rfl, hb2⟩; have HB := Lib.hid (bthen HB.out hb2); clear hb2) | ((with_reducible refine (NX.out _ (HW.out.below HB.out)).mono ?_); rintro e w2 ⟨rfl, hb2⟩; have HB := Lib.hid (bthen HB.out hb2); clear hb2))
          | (go_at_call 10; first | ((with_reducible refine (SAB.out _ (HW.out.below HB.out)).mono ?_); rintro e w2 ⟨rfl, hb2⟩; have HB := Lib.hid (bthen HB.out hb2); clear hb2) | ((with_reducible refine (SBA.out _ (HW.out.below HB.out)).mono ?_); rintro e w2 ⟨rfl, hb2⟩; have HB := Lib.hid (bthen HB.out hb2); clear hb2) | ((with_reducible refine (SAX.out _ (HW.out.below HB.out)).mono ?_); rintro e w2 ⟨rfl, hb2⟩; have HB := Lib.hid (bthen HB.out hb2); clear hb2))
          | (go_at_call 7; refine (awake3_any _ (HW.out.below HB.out)).mono ?_; rintro e w2 ⟨rfl, hb2⟩; have HB := Lib.hid (bthen HB.out hb2); clear hb2))
        go_ret
        exact ⟨rfl, HB.out⟩
      · have hxy : x ≠ y := fun e => he (by rw [hX, hY, e])
        have SAB := Lib.hid (same_at T a b r hr (some x) (some y) hp hq false (by simp [sameO, hxy]))
        have SBA := Lib.hid (same_at T b a r hr (some y) (some x) hq hp false (by simp [sameO, Ne.symm hxy]))
        have t2 := str_ne he
        clear hr hp hq hnil hX hXl hxx hY hYl hxy he
        go_enter Tryd.func3, Tryd.ntmps3
        go_wp2_with (first
          | (go_at_call 8; refine (types_any _).mono ?_; rintro e w1 ⟨rfl, hcell, hlt1, hb1⟩; have c0 := hcell (n % 12) (by omega); rw [← HT.out] at c0; have HB := Lib.hid hb1; clear hb1 hcell)
          | (go_at_call 9; first | ((with_reducible refine (NA.out _ (HW.out.below HB.out)).mono ?_); rintro e w2 ⟨rfl, hb2⟩; have HB := Lib.hid (bthen HB.out hb2); clear hb2) | ((with_reducible refine (NB.out _ (HW.out.below HB.out)).mono ?_); rintro e w2 ⟨rfl, hb2⟩; have HB := Lib.hid (bthen HB.out hb2); clear hb2) | ((with_reducible refine (NX.out _ (HW.out.below HB.out)).mono ?_); rintro e w2 ⟨rfl, hb2⟩; have HB := Lib.hid (bthen HB.out hb2); clear hb2))
          | (go_at_call 10; first | ((with_reducible refine (SAB.out _ (HW.out.below HB.out)).mono ?_); rintro e w2 ⟨rfl, hb2⟩; have HB := Lib.hid (bthen HB.out hb2); clear hb2) | ((with_reducible refine (SBA.out _ (HW.out.below HB.out)).mono ?_); rintro e w2 ⟨rfl, hb2⟩; have HB := Lib.hid (bthen HB.out hb2); clear hb2) | ((with_reducible refine (SAX.out _ (HW.out.below HB.out)).mono ?_); rintro e w2 ⟨rfl, hb2⟩; have HB := Lib.hid (bthen HB.out hb2); clear hb2))
          | (go_at_call 7; refine (awake3_any _ (HW.out.below HB.out)).mono ?_; rintro e w2 ⟨rfl, hb2⟩; have HB := Lib.hid (bthen HB.out hb2); clear hb2))
        go_ret
        exact ⟨rfl, HB.out⟩
end Go.Proofs.YtnkgjlehegknjaaDoor
