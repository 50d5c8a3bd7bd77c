/- match.Same, Less: the walks. -/
import Derived.Test.YtlimajgmdhhggaaGreatDoorMaNorm
namespace Go.Proofs.YtlimajgmdhhggaaGreatDoor
open Go.RowKit
set_option linter.unusedVariables false

def sameO (p q : Option (List UInt8)) : Bool := match p, q with
  | some x, some y => x == y
  | _, _ => false

set_option maxRecDepth 100000 in
set_option maxHeartbeats 4000000 in
theorem same_any (t a b : ByteArray) (w : World) (hw : LaidW w) :
    Calls Tryz.prog 56 #[.string t, .string a, .string b] w fun e w' => e = .returned (.bool (sameO (normD (ruleD t.data.toList) a.data.toList) (normD (ruleD t.data.toList) b.data.toList))) ∧ Below w.heap.size w w' := by
  have hn := norms_any t a b w hw
  generalize normD (ruleD t.data.toList) a.data.toList = p at hn ⊢
  generalize normD (ruleD t.data.toList) b.data.toList = q at hn ⊢
  have key : (∃ x y, p = some x ∧ q = some y) ∨ (normsV p q = .tuple #[.string ⟨#[]⟩, .string ⟨#[]⟩, .bool false] ∧ sameO p q = false) := by
    cases p with
    | none => exact .inr ⟨rfl, rfl⟩
    | some x => cases q with
      | none => exact .inr ⟨rfl, rfl⟩
      | some y => exact .inl ⟨x, y, rfl, rfl⟩
  rcases key with ⟨x, y, rfl, rfl⟩ | ⟨hv, hs⟩
  · obtain ⟨X, hX⟩ : ∃ X : ByteArray, X = ⟨x.toArray⟩ := ⟨_, rfl⟩
    obtain ⟨Y, hY⟩ : ∃ Y : ByteArray, Y = ⟨y.toArray⟩ := ⟨_, rfl⟩
    have hv : normsV (some x) (some y) = .tuple #[.string X, .string Y, .bool true] := by rw [hX, hY]; rfl
    rw [hv] at hn
    have HN := Lib.hid hn
    by_cases he : X = Y
    · have hs : sameO (some x) (some y) = true := by
        have : x = y := by have h2 : X.data.toList = Y.data.toList := by rw [he]
                           rw [hX, hY] at h2; simpa using h2
        simp [sameO, this]
      rw [hs]
      subst he
      clear hn hv hX hY hs
      go_enter Tryz.func56, Tryz.ntmps56
      go_wp2_with (go_at_call 95; refine HN.out.mono ?_; rintro e w1 ⟨rfl, hb1⟩; have HB := Lib.hid hb1; clear hb1)
      go_ret
      exact ⟨rfl, HB.out⟩
    · have hs : sameO (some x) (some y) = false := by
        have : x ≠ y := fun e => he (by rw [hX, hY, e])
        simp [sameO, this]
      rw [hs]
      have t1 := str_ne he
      clear hn hv hX hY hs he
      go_enter Tryz.func56, Tryz.ntmps56
      go_wp2_with (go_at_call 95; refine HN.out.mono ?_; rintro e w1 ⟨rfl, hb1⟩; have HB := Lib.hid hb1; clear hb1)
      go_ret
      exact ⟨rfl, HB.out⟩
  · rw [hv] at hn
    rw [hs]
    have HN := Lib.hid hn
    clear hn hv hs
    go_enter Tryz.func56, Tryz.ntmps56
    go_wp2_with (go_at_call 95; refine HN.out.mono ?_; rintro e w1 ⟨rfl, hb1⟩; have HB := Lib.hid hb1; clear hb1)
    go_ret
    exact ⟨rfl, HB.out⟩

end Go.Proofs.YtlimajgmdhhggaaGreatDoor
