/- match.Same, Less: the walks. -/
import Derived.Test.YtmilgbkkibahlaaGreatDoorMaNorm
namespace Go.Proofs.YtmilgbkkibahlaaGreatDoor
open Go.RowKit
set_option linter.unusedVariables false

def sameO (p q : Option (List UInt8)) : Bool := match p, q with
  | some x, some y => x == y
  | _, _ => false

set_option maxRecDepth 100000 in
set_option maxHeartbeats 4000000 in
theorem same_any (t a b : ByteArray) (w : World) (hw : LaidW w) :
    Calls Tryz.prog 62 #[.string t, .string a, .string b] w fun e w' => e = .returned (.bool (sameO (normD (ruleD t.data.toList) a.data.toList) (normD (ruleD t.data.toList) b.data.toList))) ∧ Below w.heap.size w w' := by
  have hn := norms_any t a b w hw
  generalize normD (ruleD t.data.toList) a.data.toList = p at hn ⊢
  generalize normD (ruleD t.data.toList) b.data.toList = q at hn ⊢
  have key : (∃ x y, p = some x ∧ q = some y) ∨ (normsV p q = .tuple #[.string ⟨#[]⟩, .string ⟨#[]⟩, .bool false] ∧ sameO p q = false) := by
    cases p with
    | none => exact .inr ⟨rfl, rfl⟩
    | some x => cases q with
      | none => exact .inr ⟨rfl, rfl⟩
      | some y => exact .inl ⟨x, y, rfl, rfl⟩
  rcases key with ⟨x, y, rfl, rfl⟩ | ⟨hv, hs⟩
  · obtain ⟨X, hX⟩ : ∃ X : ByteArray, X = ⟨x.toArray⟩ := ⟨_, rfl⟩
    obtain ⟨Y, hY⟩ : ∃ Y : ByteArray, Y = ⟨y.toArray⟩ := ⟨_, rfl⟩
    have hv : normsV (some x) (some y) = .tuple #[.string X, .string Y, .bool true] := by rw [hX, hY]; rfl
    rw [hv] at hn
    have HN := Lib.hid hn
    by_cases he : X = Y
    · have hs : sameO (some x) (some y) = true := by
        have : x = y := by have h2 : X.data.toList = Y.data.toList := by rw [he]
                           rw [hX, hY] at h2; simpa using h2
        simp [sameO, this]
      rw [hs]
      subst he
      clear hn hv hX hY hs
      go_enter Tryz.func62, Tryz.ntmps62
      go_wp2_with (go_at_call 57; refine HN.out.mono ?_; rintro e w1 ⟨rfl, hb1⟩; have HB := Lib.hid hb1; clear hb1)
      go_ret
      exact ⟨rfl, HB.out⟩
    · have hs : sameO (some x) (some y) = false := by
        have : x ≠ y := fun e => he (by rw [hX, hY, e])
        simp [sameO, this]
      rw [hs]
      have t1 := str_ne he
      clear hn hv hX hY hs he
      go_enter Tryz.func62, Tryz.ntmps62
      go_wp2_with (go_at_call 57; refine HN.out.mono ?_; rintro e w1 ⟨rfl, hb1⟩; have HB := Lib.hid hb1; clear hb1)
      go_ret
      exact ⟨rfl, HB.out⟩
  · rw [hv] at hn
    rw [hs]
    have HN := Lib.hid hn
    clear hn hv hs
    go_enter Tryz.func62, Tryz.ntmps62
    go_wp2_with (go_at_call 57; refine HN.out.mono ?_; rintro e w1 ⟨rfl, hb1⟩; have HB := Lib.hid hb1; clear hb1)
    go_ret
    exact ⟨rfl, HB.out⟩

set_option maxRecDepth 100000 in
set_option maxHeartbeats 4000000 in
theorem less_text (t a b X Y : ByteArray) (w : World) (hw : LaidW w) (hr : ruleD t.data.toList = 1) (hp : normD 1 a.data.toList = some X.data.toList) (hq : normD 1 b.data.toList = some Y.data.toList) :
    Calls Tryz.prog 41 #[.string t, .string a, .string b] w fun e w' => e = .returned (.tuple #[.bool (Op.bytesLess X.toList Y.toList), .bool true]) ∧ Below w.heap.size w w' := by
  have hn := norms_any t a b w hw
  have hru := fun w => rule_any t w
  simp only [hr] at hn hru
  rw [hp, hq] at hn
  have hv : normsV (some X.data.toList) (some Y.data.toList) = .tuple #[.string X, .string Y, .bool true] := by simp [normsV]
  rw [hv] at hn
  have HN := Lib.hid hn
  have HR := Lib.hid hru
  clear hn hv hp hq hr hru
  go_enter Tryz.func41, Tryz.ntmps41
  go_wp2_with (first | (go_at_call 57; refine HN.out.mono ?_; rintro e w1 ⟨rfl, hb1⟩; have HB := Lib.hid hb1; clear hb1) | (go_at_call 42; refine (HR.out _).mono ?_; rintro e w2 ⟨rfl, hb2⟩; have HB := Lib.hid (bthen HB.out hb2); clear hb2))
  go_ret2
  exact ⟨rfl, HB.out⟩

set_option maxRecDepth 100000 in
set_option maxHeartbeats 4000000 in
theorem less_int (t a b : ByteArray) (m n : Int) (w : World) (ha : a.size ≤ 281474976710656) (hb : b.size ≤ 281474976710656) (hw : LaidW w) (hr : ruleD t.data.toList = 2) (hp : normD 2 a.data.toList = some a.data.toList) (hq : normD 2 b.data.toList = some b.data.toList)
    (hm : numD a.data.toList = some m) (hn' : numD b.data.toList = some n) :
    Calls Tryz.prog 41 #[.string t, .string a, .string b] w fun e w' => e = .returned (.tuple #[.bool (decide (m < n)), .bool true]) ∧ Below w.heap.size w w' := by
  have hn := norms_any t a b w hw
  have hru := fun w => rule_any t w
  have h1 := fun w hw => number_any a ha w hw
  have h2 := fun w hw => number_any b hb w hw
  simp only [hr] at hn hru
  rw [hp, hq] at hn
  rw [hm] at h1
  rw [hn'] at h2
  have hv : normsV (some a.data.toList) (some b.data.toList) = .tuple #[.string a, .string b, .bool true] := by simp [normsV]
  rw [hv] at hn
  simp only [numV] at h1 h2
  have HN := Lib.hid hn
  have HR := Lib.hid hru
  have H1 := Lib.hid h1
  have H2 := Lib.hid h2
  have HW := Lib.hid hw
  have tok : True := trivial
  clear hn hv hp hq hr hru h1 h2 hm hn' hw
  go_enter Tryz.func41, Tryz.ntmps41
  go_wp2_with (first | (go_at_call 57; refine HN.out.mono ?_; rintro e w1 ⟨rfl, hb1⟩; have HB := Lib.hid hb1; clear hb1) | (go_at_call 42; refine (HR.out _).mono ?_; rintro e w2 ⟨rfl, hb2⟩; have HB := Lib.hid (bthen HB.out hb2); clear hb2) | (go_at_call 54; first | (have _t := tok; refine (H1.out _ (HW.out.below HB.out)).mono ?_; rintro e w3 ⟨rfl, hb3⟩; have HB := Lib.hid (bthen HB.out hb3); clear hb3 tok) | (refine (H2.out _ (HW.out.below HB.out)).mono ?_; rintro e w3 ⟨rfl, hb3⟩; have HB := Lib.hid (bthen HB.out hb3); clear hb3)))
  go_ret2
  exact ⟨rfl, HB.out⟩

set_option maxRecDepth 100000 in
set_option maxHeartbeats 4000000 in
theorem less_no (t a b : ByteArray) (w : World) (hw : LaidW w) (h : normD (ruleD t.data.toList) a.data.toList = none ∨ normD (ruleD t.data.toList) b.data.toList = none ∨ (ruleD t.data.toList ≠ 1 ∧ ruleD t.data.toList ≠ 2)) :
    Calls Tryz.prog 41 #[.string t, .string a, .string b] w fun e w' => e = .returned (.tuple #[.bool false, .bool false]) ∧ Below w.heap.size w w' := by
  have hn := norms_any t a b w hw
  have hru := fun w => rule_any t w
  generalize ruleD t.data.toList = r at hn hru h
  generalize normD r a.data.toList = p at hn h
  generalize normD r b.data.toList = q at hn h
  have key : normsV p q = .tuple #[.string ⟨#[]⟩, .string ⟨#[]⟩, .bool false] ∨ ∃ X Y, normsV p q = .tuple #[.string X, .string Y, .bool true] ∧ r ≠ 1 ∧ r ≠ 2 := by
    cases p with
    | none => exact .inl rfl
    | some x => cases q with
      | none => exact .inl rfl
      | some y =>
        rcases h with h | h | h
        · cases h
        · cases h
        · exact .inr ⟨_, _, rfl, h⟩
  rcases key with hv | ⟨X, Y, hv, h1, h2⟩
  · rw [hv] at hn
    have HN := Lib.hid hn
    clear hn hv hru h
    go_enter Tryz.func41, Tryz.ntmps41
    go_wp2_with (go_at_call 57; refine HN.out.mono ?_; rintro e w1 ⟨rfl, hb1⟩; have HB := Lib.hid hb1; clear hb1)
    go_ret2
    exact ⟨rfl, HB.out⟩
  · rw [hv] at hn
    have HN := Lib.hid hn
    have HR := Lib.hid hru
    have u1 : ((r : Int) == 1) = false := by simp; omega
    have u2 : ((r : Int) == 2) = false := by simp; omega
    clear hn hv hru h h1 h2
    go_enter Tryz.func41, Tryz.ntmps41
    go_wp2_with (first | (go_at_call 57; refine HN.out.mono ?_; rintro e w1 ⟨rfl, hb1⟩; have HB := Lib.hid hb1; clear hb1) | (go_at_call 42; refine (HR.out _).mono ?_; rintro e w2 ⟨rfl, hb2⟩; have HB := Lib.hid (bthen HB.out hb2); clear hb2))
    go_ret2
    exact ⟨rfl, HB.out⟩
end Go.Proofs.YtmilgbkkibahlaaGreatDoor
