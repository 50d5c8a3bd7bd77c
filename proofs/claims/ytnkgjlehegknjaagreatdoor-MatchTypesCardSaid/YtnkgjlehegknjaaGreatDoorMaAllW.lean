/- Of any type and values all is the document's: the walk. -/
import Derived.Test.YtnkgjlehegknjaaGreatDoorMaRefL
import Derived.Test.YtnkgjlehegknjaaGreatDoorMaAwake
namespace Go.Proofs.YtnkgjlehegknjaaGreatDoor
open Go.RowKit
set_option linter.unusedVariables false

theorem canonV_eq (o : Option (List UInt8)) : canonV o = .tuple #[.string (sB o), .bool o.isSome] := by cases o <;> rfl
theorem saidP_eq (o : Option (List UInt8)) : saidP o = .tuple #[.string (sB o), .bool o.isSome] := by cases o <;> rfl
/-- Both answer alike which is less, and whether that may be asked. -/
theorem less_both (t a b : ByteArray) (ht : t.size ≤ 1000) (ha : a.size ≤ 1000) (hb : b.size ≤ 1000) : ∃ l m : Bool,
    (∀ w, LaidW w → Calls Tryz.prog 10 #[.string t, .string a, .string b] w fun e w' => e = .returned (.tuple #[.bool l, .bool m]) ∧ Below w.heap.size w w') ∧
    (∀ w, Calls Tryz.prog 11 #[.string t, .string a, .string b] w fun e w' => e = .returned (.tuple #[.bool l, .bool m]) ∧ Below w.heap.size w w') := by
  by_cases h : normD (ruleD t.data.toList) a.data.toList = none ∨ normD (ruleD t.data.toList) b.data.toList = none ∨ (ruleD t.data.toList ≠ 1 ∧ ruleD t.data.toList ≠ 2)
  · exact ⟨false, false, fun w hw => less_no t a b w hw h, fun w => lessRef_no t a b (by omega) w h⟩
  · have h1 : normD (ruleD t.data.toList) a.data.toList ≠ none := fun e => h (.inl e)
    have h2 : normD (ruleD t.data.toList) b.data.toList ≠ none := fun e => h (.inr (.inl e))
    have h3 : ruleD t.data.toList = 1 ∨ ruleD t.data.toList = 2 := by
      by_cases e1 : ruleD t.data.toList = 1
      · exact .inl e1
      · by_cases e2 : ruleD t.data.toList = 2
        · exact .inr e2
        · exact absurd (.inr (.inr ⟨e1, e2⟩)) h
    clear h
    rcases h3 with hr | hr
    · rw [hr] at h1 h2
      obtain ⟨x, hx⟩ := Option.ne_none_iff_exists'.1 h1
      obtain ⟨y, hy⟩ := Option.ne_none_iff_exists'.1 h2
      have ex : x = (⟨x.toArray⟩ : ByteArray).data.toList := by simp
      have ey : y = (⟨y.toArray⟩ : ByteArray).data.toList := by simp
      rw [ex] at hx
      rw [ey] at hy
      exact ⟨_, _, fun w hw => less_text t a b _ _ w hw hr hx hy, fun w => lessRef_text t a b _ _ (by omega) w hr hx hy⟩
    · rw [hr] at h1 h2
      have key : ∀ s : List UInt8, normD 2 s ≠ none → normD 2 s = some s ∧ ∃ v, numD s = some v := fun s hs => by
        unfold normD at hs ⊢
        split
        · rename_i h0; rw [if_pos h0] at hs; exact absurd rfl hs
        · rename_i h0
          rw [if_neg h0, if_neg (by decide), if_pos rfl] at hs
          rw [if_neg (by decide), if_pos rfl]
          cases hn : numD s with
          | none => rw [hn] at hs; exact absurd rfl hs
          | some v => exact ⟨by simp, v, rfl⟩
      obtain ⟨ka, m, hm⟩ := key _ h1
      obtain ⟨kb, n, hn⟩ := key _ h2
      exact ⟨_, _, fun w hw => less_int t a b m n w (by omega) (by omega) hw hr ka kb hm hn, fun w => lessRef_int t a b m n (by omega) (by omega) (by omega) w hr ka kb hm hn⟩

set_option maxRecDepth 100000 in
set_option maxHeartbeats 8000000 in
theorem all3_walk (t a b : ByteArray) (w : World) (hw : LaidW w) :
    Calls Tryz.prog 3 #[.string t, .string a, .string b] w fun e w' => e = .returned (.bool true) ∧ Below w.heap.size w w' := by
  have HW := Lib.hid hw
  clear hw
  by_cases h1 : 60 < t.size
  · have t1 : decide ((60 : Int) < (t.size : Int)) = true := by simp; omega
    go_enter Tryz.func3, Tryz.ntmps3
    go_wp2_with (go_at_call 5; refine (awake3_any _ HW.out).mono ?_; rintro e w2 ⟨rfl, hb2⟩; have HB := Lib.hid hb2; clear hb2)
    go_ret
    exact ⟨rfl, HB.out⟩
  have t1 : decide ((60 : Int) < (t.size : Int)) = false := by simp; omega
  by_cases h2 : 300 < a.size
  · have t2 : decide ((300 : Int) < (a.size : Int)) = true := by simp; omega
    go_enter Tryz.func3, Tryz.ntmps3
    go_wp2_with (go_at_call 5; refine (awake3_any _ HW.out).mono ?_; rintro e w2 ⟨rfl, hb2⟩; have HB := Lib.hid hb2; clear hb2)
    go_ret
    exact ⟨rfl, HB.out⟩
  have t2 : decide ((300 : Int) < (a.size : Int)) = false := by simp; omega
  by_cases h3 : 300 < b.size
  · have t3 : decide ((300 : Int) < (b.size : Int)) = true := by simp; omega
    go_enter Tryz.func3, Tryz.ntmps3
    go_wp2_with (go_at_call 5; refine (awake3_any _ HW.out).mono ?_; rintro e w2 ⟨rfl, hb2⟩; have HB := Lib.hid hb2; clear hb2)
    go_ret
    exact ⟨rfl, HB.out⟩
  have t3 : decide ((300 : Int) < (b.size : Int)) = false := by simp; omega
  have c1 := fun w => canon_any t w
  have c2 := fun w => canonRef_any t (by omega) w
  have c3 := fun w hw => norm_any t a w hw
  have c4 := fun w => normRef_any t a (by omega) w
  obtain ⟨l, m, c5, c6⟩ := less_both t a b (by omega) (by omega) (by omega)
  have c7 := fun w => rule_any t w
  have c8 := fun w => ruleRef_any t (by omega) w
  have c9 := fun w hw => same_any t a b w hw
  have c10 := fun w => sameVal_any t a b (by omega) w
  simp only [canonV_eq] at c1
  simp only [saidR_eq] at c2 c4
  simp only [saidP_eq] at c3
  generalize sB (canonD t.data.toList) = C at c1 c2
  generalize (canonD t.data.toList).isSome = cb at c1 c2
  generalize sameO (normD (ruleD t.data.toList) a.data.toList) (normD (ruleD t.data.toList) b.data.toList) = sb at c9 c10
  generalize sB (normD (ruleD t.data.toList) a.data.toList) = X at c3 c4
  generalize (normD (ruleD t.data.toList) a.data.toList).isSome = xb at c3 c4
  generalize ruleD t.data.toList = r at c7 c8
  have C1 := Lib.hid c1
  have C2 := Lib.hid c2
  have C3 := Lib.hid c3
  have C4 := Lib.hid c4
  have C5 := Lib.hid c5
  have C6 := Lib.hid c6
  have C7 := Lib.hid c7
  have C8 := Lib.hid c8
  have C9 := Lib.hid c9
  have C10 := Lib.hid c10
  have q1 : (cb == cb) = true := by simp
  have q2 : (xb == xb) = true := by simp
  have q3 : (sb == sb) = true := by simp
  have q4 : (l == l) = true := by simp
  have q5 : (m == m) = true := by simp
  clear c1 c2 c3 c4 c5 c6 c7 c8 c9 c10
  go_enter Tryz.func3, Tryz.ntmps3
  go_wp2_with (first
    | (go_at_call 6; refine (C1.out _).mono ?_; rintro e w1 ⟨rfl, hb1⟩; have HB := Lib.hid hb1; clear hb1)
    | (go_at_call 7; refine (C2.out _).mono ?_; rintro e w2 ⟨rfl, hb2⟩; have HB := Lib.hid ((bthen HB.out hb2).alloc (Nat.le_trans HB.out.size hb2.size) (.cells #[.string C, .bool cb] 26)); have H1 := Lib.hid (boxS_new w2 C cb); have hz1 : w2.heap.size < (w2.alloc (.cells #[.string C, .bool cb] 26)).heap.size := (by simp); clear hb2)
    | (go_at_call 8; refine (C3.out _ (HW.out.below HB.out)).mono ?_; rintro e w3 ⟨rfl, hb3⟩; have HB := Lib.hid (bthen HB.out hb3); have H1 := Lib.hid (H1.out.below hb3 hz1); have hz1 := Nat.lt_of_lt_of_le hz1 hb3.size; clear hb3)
    | (go_at_call 9; refine (C4.out _).mono ?_; rintro e w4 ⟨rfl, hb4⟩; have HB := Lib.hid ((bthen HB.out hb4).alloc (Nat.le_trans HB.out.size hb4.size) (.cells #[.string X, .bool xb] 26)); have H1 := Lib.hid ((H1.out.below hb4 hz1).below ((Below.refl _ _).alloc (Nat.le_refl _) (.cells #[.string X, .bool xb] 26)) (Nat.lt_of_lt_of_le hz1 hb4.size)); have H2 := Lib.hid (boxS_new w4 X xb); have hz2 : w4.heap.size < (w4.alloc (.cells #[.string X, .bool xb] 26)).heap.size := (by simp); have hz1 : w2.heap.size < (w4.alloc (.cells #[.string X, .bool xb] 26)).heap.size := (by have := Nat.lt_of_lt_of_le hz1 hb4.size; simp; omega); clear hb4)
    | (go_at_call 10; refine (C5.out _ (HW.out.below HB.out)).mono ?_; rintro e w9 ⟨rfl, hb9⟩; have HB := Lib.hid (bthen HB.out hb9); have H1 := Lib.hid (H1.out.below hb9 hz1); have H2 := Lib.hid (H2.out.below hb9 hz2); obtain ⟨k0, k1, _, _⟩ := H1.out.cells; obtain ⟨j0, j1, _, _⟩ := H2.out.cells; have hz1 := Nat.lt_of_lt_of_le hz1 hb9.size; have hz2 := Nat.lt_of_lt_of_le hz2 hb9.size; clear hb9)
    | (go_at_call 11; refine (C6.out _).mono ?_; rintro e w9 ⟨rfl, hb9⟩; have HB := Lib.hid (bthen HB.out hb9); have H1 := Lib.hid (H1.out.below hb9 hz1); have H2 := Lib.hid (H2.out.below hb9 hz2); obtain ⟨k0, k1, _, _⟩ := H1.out.cells; obtain ⟨j0, j1, _, _⟩ := H2.out.cells; have hz1 := Nat.lt_of_lt_of_le hz1 hb9.size; have hz2 := Nat.lt_of_lt_of_le hz2 hb9.size; clear hb9)
    | (go_at_call 12; refine (C7.out _).mono ?_; rintro e w9 ⟨rfl, hb9⟩; have HB := Lib.hid (bthen HB.out hb9); have H1 := Lib.hid (H1.out.below hb9 hz1); have H2 := Lib.hid (H2.out.below hb9 hz2); obtain ⟨k0, k1, _, _⟩ := H1.out.cells; obtain ⟨j0, j1, _, _⟩ := H2.out.cells; have hz1 := Nat.lt_of_lt_of_le hz1 hb9.size; have hz2 := Nat.lt_of_lt_of_le hz2 hb9.size; clear hb9)
    | (go_at_call 13; refine (C8.out _).mono ?_; rintro e w9 ⟨rfl, hb9⟩; have HB := Lib.hid (bthen HB.out hb9); have H1 := Lib.hid (H1.out.below hb9 hz1); have H2 := Lib.hid (H2.out.below hb9 hz2); obtain ⟨k0, k1, _, _⟩ := H1.out.cells; obtain ⟨j0, j1, _, _⟩ := H2.out.cells; have hz1 := Nat.lt_of_lt_of_le hz1 hb9.size; have hz2 := Nat.lt_of_lt_of_le hz2 hb9.size; clear hb9)
    | (go_at_call 14; refine (C9.out _ (HW.out.below HB.out)).mono ?_; rintro e w9 ⟨rfl, hb9⟩; have HB := Lib.hid (bthen HB.out hb9); have H1 := Lib.hid (H1.out.below hb9 hz1); have H2 := Lib.hid (H2.out.below hb9 hz2); obtain ⟨k0, k1, _, _⟩ := H1.out.cells; obtain ⟨j0, j1, _, _⟩ := H2.out.cells; have hz1 := Nat.lt_of_lt_of_le hz1 hb9.size; have hz2 := Nat.lt_of_lt_of_le hz2 hb9.size; clear hb9)
    | (go_at_call 15; refine (C10.out _).mono ?_; rintro e w9 ⟨rfl, hb9⟩; have HB := Lib.hid (bthen HB.out hb9); have H1 := Lib.hid (H1.out.below hb9 hz1); have H2 := Lib.hid (H2.out.below hb9 hz2); obtain ⟨k0, k1, _, _⟩ := H1.out.cells; obtain ⟨j0, j1, _, _⟩ := H2.out.cells; have hz1 := Nat.lt_of_lt_of_le hz1 hb9.size; have hz2 := Nat.lt_of_lt_of_le hz2 hb9.size; clear hb9)
    | (go_at_call 5; refine (awake3_any _ (HW.out.below HB.out)).mono ?_; rintro e w9 ⟨rfl, hb9⟩; have HB := Lib.hid (bthen HB.out hb9); have H1 := Lib.hid (H1.out.below hb9 hz1); have H2 := Lib.hid (H2.out.below hb9 hz2); obtain ⟨k0, k1, _, _⟩ := H1.out.cells; obtain ⟨j0, j1, _, _⟩ := H2.out.cells; have hz1 := Nat.lt_of_lt_of_le hz1 hb9.size; have hz2 := Nat.lt_of_lt_of_le hz2 hb9.size; clear hb9))
  go_ret
  exact ⟨rfl, HB.out⟩
end Go.Proofs.YtnkgjlehegknjaaGreatDoor
