/- strings.IndexRune, strings.IndexAny on whatever bytes: the walks. -/
import Derived.Test.YtmilgbkkibahlaaGreatDoorFiVal
import Derived.Test.YtmilgbkkibahlaaGreatDoorShelf
import Derived.Lib.IndexAny
import Derived.Lib.OthersKept
import Derived.Deep.LoopGhost
namespace Go.Proofs.YtmilgbkkibahlaaGreatDoor
open Go.RowKit
set_option linter.unusedVariables false
set_option linter.unusedSimpArgs false

theorem ofNat_high {k : Nat} (h : 128 ≤ k) (h2 : k < 256) : 128 ≤ (UInt8.ofNat k).toNat := by simp; omega
theorem encode_cases (r : Nat) (h : 128 ≤ r) (hv : Utf8.valid r = true) : (∃ x y, Utf8.encode r = ⟨#[x, y]⟩ ∧ 128 ≤ y.toNat) ∨ (∃ x y z, Utf8.encode r = ⟨#[x, y, z]⟩ ∧ 128 ≤ z.toNat) ∨ (∃ x y z t, Utf8.encode r = ⟨#[x, y, z, t]⟩ ∧ 128 ≤ t.toNat) := by
  unfold Utf8.encode
  simp only [hv, if_true, Int.toNat_natCast]
  have h0 : ¬ r < 128 := by omega
  rw [if_neg h0]
  by_cases h1 : r < 2048
  · rw [if_pos h1]; exact .inl ⟨_, _, rfl, ofNat_high (by omega) (by omega)⟩
  · rw [if_neg h1]
    by_cases h2 : r < 65536
    · rw [if_pos h2]; exact .inr (.inl ⟨_, _, _, rfl, ofNat_high (by omega) (by omega)⟩)
    · rw [if_neg h2]; exact .inr (.inr ⟨_, _, _, _, rfl, ofNat_high (by omega) (by omega)⟩)
theorem encode_high (r : Nat) (h : 128 ≤ r) (hv : Utf8.valid r = true) (E : ByteArray) (hE : Utf8.encode r = E) : (E.size = 2 ∧ ∃ y : UInt8, (∀ h : 1 < E.size, E[1]'h = y) ∧ 128 ≤ y.toNat) ∨ (E.size = 3 ∧ ∃ y : UInt8, (∀ h : 2 < E.size, E[2]'h = y) ∧ 128 ≤ y.toNat) ∨ E.size = 4 := by
  rcases encode_cases r h hv with ⟨x, y, e, hy⟩ | ⟨x, y, z, e, hy⟩ | ⟨x, y, z, t, e, hy⟩
  · obtain rfl := hE.symm.trans e; exact .inl ⟨rfl, y, fun _ => rfl, hy⟩
  · obtain rfl := hE.symm.trans e; exact .inr (.inl ⟨rfl, z, fun _ => rfl, hy⟩)
  · obtain rfl := hE.symm.trans e; exact .inr (.inr rfl)
theorem ix_high1 {y : UInt8} (h : 128 ≤ y.toNat) : Lib.indexByte [60] y = -1 := by
  have := all_bytes (fun y => decide (y.toNat < 128) || decide (Lib.indexByte [60] y = -1)) (by decide +kernel) y
  simp only [Bool.or_eq_true, decide_eq_true_eq] at this
  omega
theorem op_low : ∀ (i : Nat) (hi : i < (⟨#[61, 62, 60]⟩ : ByteArray).size), ((⟨#[61, 62, 60]⟩ : ByteArray)[i]'hi).toNat < 128
  | 0, _ => (by decide : (61 : UInt8).toNat < 128)
  | 1, _ => (by decide : (62 : UInt8).toNat < 128)
  | 2, _ => (by decide : (60 : UInt8).toNat < 128)
  | n + 3, h => absurd h (by show ¬ n + 3 < 3; omega)
theorem ix_high0 (y : UInt8) : Lib.indexByte [] y = -1 := rfl

/-! ### What a rune's bytes are -/
def contP (s : ByteArray) (i k : Nat) : Prop := i + k < s.size ∧ (s.get! (i + k)).toNat / 64 = 2
theorem get_some (s : ByteArray) (i : Nat) (h : i < s.size) : s.data.toList[i]? = some (s.get! i) := by
  have : s.get! i = s[i]'h := by simpa using get_at s i h
  rw [this]
  exact Lib.data_getElem? s i h
theorem cont_some {s : ByteArray} {i k : Nat} (h : contP s i k) : ∃ b : UInt8, s.data.toList[i + k]? = some b ∧ 128 ≤ b.toNat := ⟨_, get_some s _ h.1, by have := h.2; omega⟩
theorem decode_width (s : ByteArray) (i : Nat) : (Utf8.decode s i).2 = 1 ∨ ((Utf8.decode s i).2 = 2 ∧ contP s i 1) ∨ ((Utf8.decode s i).2 = 3 ∧ contP s i 1 ∧ contP s i 2) ∨ ((Utf8.decode s i).2 = 4 ∧ contP s i 1 ∧ contP s i 2 ∧ contP s i 3) := by
  unfold contP
  simp only [Utf8.decode]
  repeat' split
  all_goals simp_all
theorem decode_span (s : ByteArray) (i : Nat) (h : i < s.size) (ha : 128 ≤ (s[i]'h).toNat) :
    128 ≤ (Utf8.decode s i).1 ∧ (Utf8.decode s i).1 ≤ 2147483647 ∧ 1 ≤ (Utf8.decode s i).2 ∧ i + (Utf8.decode s i).2 ≤ s.size ∧ ∀ k, i ≤ k → k < i + (Utf8.decode s i).2 → ∃ b : UInt8, s.data.toList[k]? = some b ∧ 128 ≤ b.toNat := by
  have hh := decode_high s i h ha
  have h0 : ∃ b : UInt8, s.data.toList[i]? = some b ∧ 128 ≤ b.toNat := ⟨_, Lib.data_getElem? s i h, ha⟩
  refine ⟨hh.1, decode_le s i, hh.2, ?_⟩
  rcases decode_width s i with e | ⟨e, c1⟩ | ⟨e, c1, c2⟩ | ⟨e, c1, c2, c3⟩
  · rw [e]
    exact ⟨by omega, fun k h1 h2 => by obtain rfl : k = i := by omega
                                       exact h0⟩
  · rw [e]
    refine ⟨by have := c1.1; omega, fun k h1 h2 => ?_⟩
    have : k = i ∨ k = i + 1 := by omega
    rcases this with rfl | rfl
    · exact h0
    · exact cont_some c1
  · rw [e]
    refine ⟨by have := c2.1; omega, fun k h1 h2 => ?_⟩
    have : k = i ∨ k = i + 1 ∨ k = i + 2 := by omega
    rcases this with rfl | rfl | rfl
    · exact h0
    · exact cont_some c1
    · exact cont_some c2
  · rw [e]
    refine ⟨by have := c3.1; omega, fun k h1 h2 => ?_⟩
    have : k = i ∨ k = i + 1 ∨ k = i + 2 ∨ k = i + 3 := by omega
    rcases this with rfl | rfl | rfl | rfl
    · exact h0
    · exact cont_some c1
    · exact cont_some c2
    · exact cont_some c3
theorem op_high {b : UInt8} (h : 128 ≤ b.toNat) : ([61, 62, 60] : List UInt8).contains b = false := by
  have := all_bytes (fun b => decide (b.toNat < 128) || !([61, 62, 60] : List UInt8).contains b) (by decide +kernel) b
  simp only [Bool.or_eq_true, decide_eq_true_eq, Bool.not_eq_true'] at this
  rcases this with h1 | h1
  · omega
  · exact h1
theorem noAny_go {s : List UInt8} {i n : Nat} (h : Lib.NoAny s [61, 62, 60] i) (hb : ∀ k, i ≤ k → k < i + n → ∃ b : UInt8, s[k]? = some b ∧ 128 ≤ b.toNat) : Lib.NoAny s [61, 62, 60] (i + n) := fun j b hj hb' => by
  by_cases h1 : j < i
  · exact h j b h1 hb'
  · obtain ⟨b', e, h2⟩ := hb j (by omega) hj
    obtain rfl : b' = b := Option.some.inj (e.symm.trans hb')
    exact op_high h2

/-- A short text. -/
def IterAt (w : World) (s : ByteArray) (i : Nat) (wx : World) : Prop := wx.heap[w.heap.size]? = some (.stringIter s i) ∧ Below w.heap.size w wx
end Go.Proofs.YtmilgbkkibahlaaGreatDoor
