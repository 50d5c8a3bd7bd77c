/- filter.one, value: the walks. -/
import Derived.Test.YtmilgbkkibahlaaGreatDoorFiText
import Derived.BigQuiet
import Derived.Deep.QuietTactic
namespace Go.Proofs.YtmilgbkkibahlaaGreatDoor
open Go.RowKit
set_option linter.unusedVariables false
set_option linter.unusedSimpArgs false

/-- The first byte of a value's text, and how many bytes of it say it. -/
def oneQ : List UInt8 → UInt8 × Nat
  | [] => (0, 0)
  | c :: r => if plainC c then (c, 1) else if c = 92 then (match r with
    | x :: y :: _ => match escD x y with
      | some b => (b, 3)
      | none => (0, 0)
    | _ => (0, 0)) else (0, 0)
theorem oneQ_cons (c : UInt8) (r : List UInt8) : oneQ (c :: r) = if plainC c then (c, 1) else if c = 92 then (match r with
    | x :: y :: _ => match escD x y with
      | some b => (b, 3)
      | none => (0, 0)
    | _ => (0, 0)) else (0, 0) := rfl
theorem oneQ_plain {c : UInt8} {r : List UInt8} (h : plainC c = true) : oneQ (c :: r) = (c, 1) := by rw [oneQ_cons, if_pos h]
theorem oneQ_esc {x y : UInt8} {r : List UInt8} : oneQ (92 :: x :: y :: r) = match escD x y with
    | some b => (b, 3)
    | none => (0, 0) := by
  rw [oneQ_cons, if_neg (by rw [plain92]; decide), if_pos rfl]
theorem oneQ_short : ∀ {r : List UInt8}, r.length < 2 → oneQ (92 :: r) = (0, 0)
  | [], _ => by rw [oneQ_cons, if_neg (by rw [plain92]; decide), if_pos rfl]
  | [_], _ => by rw [oneQ_cons, if_neg (by rw [plain92]; decide), if_pos rfl]
  | _ :: _ :: _, h => by simp at h; omega
theorem oneQ_no {c : UInt8} {r : List UInt8} (h : ¬ plainC c = true) (h92 : c ≠ 92) : oneQ (c :: r) = (0, 0) := by
  rw [oneQ_cons, if_neg h, if_neg h92]
def ixD (c : UInt8) : Int := Lib.indexByte digs c
def ixOk (c : UInt8) : Bool := match dgI c with
  | some n => decide (ixD c = (n : Int)) && decide (n < 16)
  | none => decide (ixD c < 0)
theorem ix_ok (c : UInt8) : ixOk c = true := all_bytes ixOk (by decide +kernel) c
theorem ix_some {c : UInt8} {n : Nat} (h : dgI c = some n) : ixD c = (n : Int) ∧ n < 16 := by
  have := ix_ok c
  unfold ixOk at this
  rw [h] at this
  simpa using this
theorem ix_none {c : UInt8} (h : dgI c = none) : ixD c < 0 := by
  have := ix_ok c
  unfold ixOk at this
  rw [h] at this
  simpa using this
theorem esc_none_l {x y : UInt8} (h : dgI x = none) : escD x y = none := by unfold escD; rw [h]
theorem esc_none_r {x y : UInt8} (h : dgI y = none) : escD x y = none := by unfold escD; rw [h]; cases dgI x <;> rfl
theorem hi_lo (a b : Nat) (ha : a < 16) (hb : b < 16) : IntKind.u8.wrap (bits .or .i64 ((a : Int) * 16) (b : Int)) = ((a * 16 + b : Nat) : Int) := by
  have : ∀ a : Nat, a < 16 → ∀ b : Nat, b < 16 → IntKind.u8.wrap (bits .or .i64 ((a : Int) * 16) (b : Int)) = ((a * 16 + b : Nat) : Int) := by decide +kernel
  exact this a ha b hb

theorem list3 (s : ByteArray) (h : 3 ≤ s.size) : ∃ r, s.data.toList = s[0] :: s[1] :: s[2] :: r := by
  obtain ⟨l, hl⟩ : ∃ l, l = s.data.toList := ⟨_, rfl⟩
  have hlen : l.length = s.size := by rw [hl, bytes_len]
  match l, hl, hlen with
  | a :: b :: c :: r, hl, _ =>
    refine ⟨r, ?_⟩
    have e0 : s[0] = s.data.toList[0]'(by rw [bytes_len]; omega) := rfl
    have e1 : s[1] = s.data.toList[1]'(by rw [bytes_len]; omega) := rfl
    have e2 : s[2] = s.data.toList[2]'(by rw [bytes_len]; omega) := rfl
    rw [e0, e1, e2]
    simp only [← hl]
    rfl
  | [], _, h' => simp at h'; omega
  | [_], _, h' => simp at h'; omega
  | [_, _], _, h' => simp at h'; omega
theorem list1 (s : ByteArray) (h : 0 < s.size) : ∃ r, s.data.toList = s[0] :: r ∧ r.length + 1 = s.size := by
  obtain ⟨l, hl⟩ : ∃ l, l = s.data.toList := ⟨_, rfl⟩
  have hlen : l.length = s.size := by rw [hl, bytes_len]
  match l, hl, hlen with
  | a :: r, hl, h' =>
    refine ⟨r, ?_, by simpa using h'⟩
    have e0 : s[0] = s.data.toList[0]'(by rw [bytes_len]; omega) := rfl
    rw [e0]
    simp only [← hl]
    rfl
  | [], _, h' => simp at h'; omega

end Go.Proofs.YtmilgbkkibahlaaGreatDoor
