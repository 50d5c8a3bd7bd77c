/- DnAll: the walk. -/
import Derived.Test.YtimkobcclkjdeaaRefKeyW
import Derived.Test.YtimkobcclkjdeaaSame
import Derived.Test.YtimkobcclkjdeaaDnAwake
namespace Go.Proofs.Ytimkobcclkjdeaa
open Go.RowKit
set_option linter.unusedVariables false

/-- What the program and the document tell of a name: one list, in memory, and whether it is one. -/
theorem parse_said (s : ByteArray) (hs : s.size ≤ 100000) : ∃ (l : List R) (ok : Bool),
    (∀ w, Calls Try.prog 12 #[.string s] w fun e w' => ∃ a c, e = .returned (.tuple #[.slice a l.length c, .bool ok]) ∧ IsL w'.heap.size w' l (.slice a l.length c) ∧ Below w.heap.size w w') ∧
    (∀ w, Calls Try.prog 13 #[.string s] w fun e w' => ∃ a c, e = .returned (.agg #[.slice a l.length c, .bool ok]) ∧ IsL w'.heap.size w' l (.slice a l.length c) ∧ Below w.heap.size w w') := by
  have hpa := fun w => parse_any s (by omega) w
  have hpr := fun w => parseRef_any s hs w
  cases ho : parseD s.data.toList with
  | none =>
    rw [ho] at hpa hpr
    refine ⟨[], false, fun w => (hpa w).mono ?_, fun w => (hpr w).mono ?_⟩
    · rintro e w' ⟨hb, he⟩
      exact ⟨none, 0, he, ⟨none, 0, rfl, Nat.zero_le _, fun j hj => absurd hj (by simp)⟩, hb⟩
    · rintro e w' ⟨hb, he⟩
      exact ⟨none, 0, he, ⟨none, 0, rfl, Nat.zero_le _, fun j hj => absurd hj (by simp)⟩, hb⟩
  | some l =>
    rw [ho] at hpa hpr
    have hm := (okL_small (parse_ok ho)).1
    refine ⟨l, true, fun w => (hpa w).mono ?_, fun w => (hpr w).mono ?_⟩
    · rintro e w' ⟨hb, v, he, hown⟩
      obtain ⟨a, c, rfl⟩ := ownR_slice hown
      exact ⟨a, c, he, ownR_isL hown (by unfold maxLen; omega), hb⟩
    · rintro e w' ⟨hb, v, he, hil⟩
      have hil' := hil
      obtain ⟨a, c, rfl, _⟩ := hil'
      exact ⟨a, c, he, hil, hb⟩

/-- A key that is told, or none. -/
theorem keyV_parts (o : Option (List UInt8)) : ∃ K ok, keyV o = .tuple #[.string K, .bool ok] ∧ saidV o = .agg #[.string K, .bool ok] := by
  cases o with
  | none => exact ⟨_, _, rfl, rfl⟩
  | some k => exact ⟨_, _, rfl, rfl⟩

set_option maxRecDepth 100000 in
set_option maxHeartbeats 8000000 in
theorem all_walk (s t : ByteArray) (w : World) : Calls Try.prog 3 #[.string s, .string t] w fun e w' => e = .returned (.bool true) ∧ Below w.heap.size w w' := by
  have HAw := Lib.hid awake_any
  by_cases h1 : s.size ≤ 400
  · have t1 : decide ((400 : Int) < (s.size : Int)) = false := by simp; omega
    by_cases h2 : t.size ≤ 400
    · have t2 : decide ((400 : Int) < (t.size : Int)) = false := by simp; omega
      obtain ⟨l, ok, hpa, hpr⟩ := parse_said s (by omega)
      obtain ⟨K, ko, hk1, hk2⟩ := keyV_parts (keyD s.data.toList)
      have hka := fun w => key_any s (by omega) w
      have hkr := fun w => keyRef_any s (by omega) w
      simp only [hk1] at hka
      simp only [hk2] at hkr
      have hfo := fun w => fold_any trim_any s w (by omega)
      have hfr := fun w => foldRef_any s w (by omega)
      obtain ⟨F, hF⟩ : ∃ F, F = foldB s := ⟨_, rfl⟩
      simp only [← hF] at hfo hfr
      have hup := fun w => dnUp_any clone_any s w (by omega)
      have hur := fun w => upRef_any s w (by omega)
      obtain ⟨U, hU⟩ : ∃ U, U = upB s := ⟨_, rfl⟩
      simp only [← hU] at hup hur
      have hun := fun w => under_any s t w (by omega)
      have hux := fun w => underRef_any s t w (by omega)
      obtain ⟨b, hb⟩ : ∃ b, b = underD s.data.toList t.data.toList := ⟨_, rfl⟩
      simp only [← hb] at hun hux
      have HPa := Lib.hid hpa
      have HPr := Lib.hid hpr
      have HKa := Lib.hid hka
      have HKr := Lib.hid hkr
      have HFo := Lib.hid hfo
      have HFr := Lib.hid hfr
      have HUp := Lib.hid hup
      have HUr := Lib.hid hur
      have HUn := Lib.hid hun
      have HUx := Lib.hid hux
      have bb : (b == b) = true := by cases b <;> rfl
      have kk : (ko == ko) = true := by cases ko <;> rfl
      have oo : (ok == ok) = true := by cases ok <;> rfl
      clear hpa hpr hka hkr hfo hfr hup hur hun hux hk1 hk2 hF hU hb
      go_enter Try.func3, Try.ntmps3
      go_wp2_with (first
        | (go_at_call 12; refine (HPa.out _).mono ?_; rintro e w1 ⟨a1, c1, rfl, hi1, hb1⟩; have HI1 := Lib.hid hi1; have HB := Lib.hid hb1; clear hi1 hb1)
        | (go_at_call 13; refine (HPr.out _).mono ?_; rintro e w2 ⟨a2, c2, rfl, hi2, hb2⟩; have HI2 := Lib.hid hi2; have HI1 := Lib.hid (isL_now HI1.out hb2 (Nat.le_refl _)); have HB := Lib.hid (then_ HB.out hb2); clear hi2 hb2)
        | (go_at_call 14; refine (HKa.out _).mono ?_; rintro e w3 ⟨rfl, hb3⟩; have hx3 := (boxD_new w2 (.slice a2 l.length c2) ok).below hb3 (by simp); have hb23 : Below w2.heap.size w2 w3 := ((Below.refl _ _).alloc (Nat.le_refl _) _).trans (hb3.mono (by simp)); have m23 : w2.heap.size < w3.heap.size := (by have := hb3.size; simp at this; omega); have HI1 := Lib.hid (isL_now HI1.out hb23 (Nat.le_refl _)); have HI2 := Lib.hid (isL_now HI2.out hb23 (Nat.le_refl _)); have HB := Lib.hid (then_ HB.out hb23); have HX := Lib.hid hx3; clear hb3 hx3 hb23)
        | (go_at_call 15; refine (HKr.out _).mono ?_; rintro e w4 ⟨rfl, hb4⟩; have HI1 := Lib.hid (isL_now HI1.out hb4 (Nat.le_refl _)); have HI2 := Lib.hid (isL_now HI2.out hb4 (Nat.le_refl _)); have HX := Lib.hid (HX.out.below hb4 m23); have m24 : w2.heap.size < w4.heap.size := Nat.lt_of_lt_of_le m23 hb4.size; have HB := Lib.hid (then_ HB.out hb4); obtain ⟨k0, k1, _, _⟩ := HX.out.cells; clear hb4)
        | (go_at_call 16; refine Calls.mono (same_any l l (.slice a1 l.length c1) (.slice a2 l.length c2) (w4.alloc (.cells #[.string K, .bool ko] 32)) (isL_now HI1.out ((Below.refl _ _).alloc (Nat.le_refl _) _) (Nat.le_refl _)) (isL_now HI2.out ((Below.refl _ _).alloc (Nat.le_refl _) _) (Nat.le_refl _))) ?_; rintro e w5 ⟨he, hb5⟩; rw [decide_eq_true rfl] at he; subst he; have hb45 : Below w4.heap.size w4 w5 := ((Below.refl _ _).alloc (Nat.le_refl _) _).trans (hb5.mono (by simp)); obtain ⟨p0, p1, _, _⟩ := (HX.out.below hb45 m24).cells; obtain ⟨q0, q1, _, _⟩ := ((boxK_new w4 K ko).below hb5 (by simp)).cells; have HB := Lib.hid (then_ HB.out hb45); clear hb5 hb45)
        | (go_at_call 17; refine (HFo.out _).mono ?_; rintro e w6 ⟨rfl, hb6⟩; have HB := Lib.hid (then_ HB.out hb6); clear hb6)
        | (go_at_call 18; refine (HFr.out _).mono ?_; rintro e w7 ⟨rfl, hb7⟩; have HB := Lib.hid (then_ HB.out hb7); clear hb7)
        | (go_at_call 19; refine (HUp.out _).mono ?_; rintro e w8 ⟨rfl, hb8⟩; have HB := Lib.hid (then_ HB.out hb8); clear hb8)
        | (go_at_call 20; refine (HUr.out _).mono ?_; rintro e w9 ⟨rfl, rfl⟩)
        | (go_at_call 21; refine (HUn.out _).mono ?_; rintro e w10 ⟨rfl, hb10⟩; have HB := Lib.hid (then_ HB.out hb10); clear hb10)
        | (go_at_call 22; refine (HUx.out _).mono ?_; rintro e w11 ⟨rfl, rfl⟩)
        | (go_at_call 11; refine (HAw.out _).mono ?_; rintro e w12 ⟨rfl, hb12⟩; have HB := Lib.hid (then_ HB.out hb12); clear hb12))
      go_ret
      exact ⟨rfl, HB.out⟩
    · have t2 : decide ((400 : Int) < (t.size : Int)) = true := by simp; omega
      go_enter Try.func3, Try.ntmps3
      go_wp2_with (go_at_call 11; refine (HAw.out _).mono ?_; rintro e w12 ⟨rfl, hb12⟩; have HB := Lib.hid hb12; clear hb12)
      go_ret
      exact ⟨rfl, HB.out⟩
  · have t1 : decide ((400 : Int) < (s.size : Int)) = true := by simp; omega
    go_enter Try.func3, Try.ntmps3
    go_wp2_with (go_at_call 11; refine (HAw.out _).mono ?_; rintro e w12 ⟨rfl, hb12⟩; have HB := Lib.hid hb12; clear hb12)
    go_ret
    exact ⟨rfl, HB.out⟩
end Go.Proofs.Ytimkobcclkjdeaa
