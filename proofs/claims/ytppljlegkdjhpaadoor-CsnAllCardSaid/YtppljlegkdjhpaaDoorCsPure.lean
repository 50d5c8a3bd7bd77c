/- Numbers of changes: which may be, how two stand, their texts, what a text says. No program. -/
import Derived.Test.YtppljlegkdjhpaaDoorMaNumP
import Derived.Test.YtppljlegkdjhpaaDoorOfL
import Derived.Lib.IndexLaws
import Derived.Lib.IndexBytes
import Derived.Lib.IndexMore
import Derived.Lib.AtoiTie
import Derived.Lib.Small
namespace Go.Proofs.YtppljlegkdjhpaaDoor
set_option linter.unusedVariables false
set_option linter.unusedSimpArgs false

def inC (n : Int) : Bool := decide (0 ≤ n) && decide (n ≤ 4503599627370496)
def mayN (e n : Int) : Bool := inC e && inC n
theorem inC_iff (n : Int) : inC n = true ↔ 0 ≤ n ∧ n ≤ 4503599627370496 := by simp [inC]
theorem mayN_iff (e n : Int) : mayN e n = true ↔ (0 ≤ e ∧ e ≤ 4503599627370496) ∧ (0 ≤ n ∧ n ≤ 4503599627370496) := by
  unfold mayN
  rw [Bool.and_eq_true, inC_iff, inC_iff]
def cmpC (e n f m : Int) : Int := if Lib.compareInt e f = 0 then Lib.compareInt n m else Lib.compareInt e f
def textC (e n : Int) : List UInt8 := Lib.itoa e ++ [46] ++ Lib.itoa n

theorem itoa_pos {v : Int} (h0 : 0 ≤ v) : Lib.itoa v = Lib.decDigits v.toNat := by unfold Lib.itoa; rw [if_neg (by omega)]
theorem itoa_dig {v : Int} (h0 : 0 ≤ v) : ∀ c ∈ Lib.itoa v, 48 ≤ c.toNat ∧ c.toNat ≤ 57 := by rw [itoa_pos h0]; exact dec_digits _
theorem itoa_len16 {v : Int} (h0 : 0 ≤ v) (h1 : v ≤ 4503599627370496) : (Lib.itoa v).length ≤ 16 := by
  rw [itoa_pos h0, Lib.decDigits_length]
  exact nDigits_le 15 _ (by have : v.toNat < 10000000000000000 := by omega
                            simpa using this)
theorem itoa_nodot (v : Int) : ∀ c ∈ Lib.itoa v, c ≠ 46 := by
  intro c hc e
  subst e
  rcases itoa_chars v 46 hc with h | h
  · exact absurd h (by decide)
  · exact absurd h (by decide)
theorem itoa_inj2 {m n : Int} (h : Lib.itoa m = Lib.itoa n) : m = n := by
  have h1 := atoi_itoa m
  rw [h, atoi_itoa n] at h1
  exact (Option.some.inj h1).symm

/-! ### Which number a text says -/
/-- What csn.number tells. -/
def numA (s : List UInt8) : Int := match Lib.atoiAll s with
  | .ok v => v
  | .«syntax» => 0
  | .range => Lib.atoiSat s
theorem numA_itoa {v : Int} (h0 : 0 ≤ v) (h1 : v ≤ 4503599627370496) : numA (Lib.itoa v) = v := by
  unfold numA
  rw [Lib.atoiAll_short _ (by have := itoa_len16 h0 h1; omega), atoi_itoa]
  rfl
theorem index_dot : ∀ (a b : List UInt8), (∀ c ∈ a, c ≠ 46) → Lib.indexByte (a ++ 46 :: b) 46 = a.length
  | [], b, _ => by simp [Lib.indexByte]
  | x :: a, b, h => by
    have hx : (x == 46) = false := by simpa using h x (by simp)
    have ih := index_dot a b (fun c hc => h c (by simp [hc]))
    simp only [List.cons_append, Lib.indexByte, hx, ih]
    have : (((a.length : Nat) : Int) == -1) = false := by simp
    rw [this]
    simp
theorem cut_textC (e n : Int) : Lib.cut (textC e n) [46] = (Lib.itoa e, Lib.itoa n, true) := by
  have h := index_dot (Lib.itoa e) (Lib.itoa n) (itoa_nodot e)
  have h2 : textC e n = Lib.itoa e ++ 46 :: Lib.itoa n := by simp [textC]
  unfold Lib.cut
  rw [Lib.index_one, h2, h, if_pos (by omega)]
  simp
theorem text_inj {e n f m : Int} (h : textC e n = textC f m) : e = f ∧ n = m := by
  have h1 := cut_textC e n
  rw [h, cut_textC f m] at h1
  simp only [Prod.mk.injEq, and_true] at h1
  exact ⟨(itoa_inj2 h1.1).symm, (itoa_inj2 h1.2).symm⟩

/-! ### Digits at a text's beginning -/
def isDg (c : UInt8) : Bool := decide (48 ≤ c.toNat) && decide (c.toNat ≤ 57)
theorem isDg_val {c : UInt8} (h : isDg c = true) : Lib.digitVal c = some (c.toNat - 48) := by
  unfold isDg at h
  simp only [Bool.and_eq_true, decide_eq_true_eq] at h
  unfold Lib.digitVal
  rw [if_pos h]
def digsC (s : List UInt8) : List UInt8 := (s.takeWhile isDg).take 17
def decK (s : List UInt8) : Nat := (digsC s).length
def decN (s : List UInt8) : Nat := (Lib.decFrom 0 (digsC s)).getD 0
theorem digsC_at : ∀ (s : List UInt8) (j : Nat), j ≤ s.length → (∀ c ∈ s.take j, isDg c = true) → (∀ h : j < s.length, isDg s[j] = false) → s.takeWhile isDg = s.take j
  | [], j, _, _, _ => by simp
  | x :: s, 0, _, _, h => by
    have := h (by simp)
    simp at this
    simp [this]
  | x :: s, j + 1, hj, h1, h2 => by
    have hx := h1 x (by simp)
    rw [List.takeWhile_cons_of_pos hx, List.take_succ_cons]
    rw [digsC_at s j (by simpa using hj) (fun c hc => h1 c (by simp [hc])) (fun h => by
      have := h2 (by simpa using h)
      simpa using this)]
theorem takeW_len : ∀ (s : List UInt8) (j : Nat), j ≤ s.length → (∀ c ∈ s.take j, isDg c = true) → (s.takeWhile isDg).take j = s.take j
  | [], j, _, _ => by simp
  | x :: s, 0, _, _ => by simp
  | x :: s, j + 1, hj, h1 => by
    have hx := h1 x (by simp)
    rw [List.takeWhile_cons_of_pos hx, List.take_succ_cons, List.take_succ_cons]
    rw [takeW_len s j (by simpa using hj) (fun c hc => h1 c (by simp [hc]))]
/-- The loop's end. -/
theorem digsC_end {s : List UInt8} {j : Nat} (hj : j ≤ s.length) (h17 : j ≤ 17) (h1 : ∀ c ∈ s.take j, isDg c = true) (h2 : j = s.length ∨ j = 17 ∨ ∃ h : j < s.length, isDg s[j] = false) : digsC s = s.take j := by
  unfold digsC
  rcases h2 with h | h | ⟨h, h2⟩
  · have : s.takeWhile isDg = s.take j := digsC_at s j hj h1 (fun h' => by omega)
    rw [this, List.take_take]
    congr 1
    omega
  · subst h
    exact takeW_len s 17 hj h1
  · rw [digsC_at s j hj h1 (fun _ => h2), List.take_take]
    congr 1
    omega
theorem decFrom_lt17 {s : List UInt8} {j n : Nat} (h17 : j ≤ 17) (h : Lib.decFrom 0 (s.take j) = some n) : n < 100000000000000000 := by
  have h1 := Lib.decFrom_lt (s.take j) 0 n h
  have hp : (10 : Nat) ^ (s.take j).length ≤ 10 ^ 17 := Nat.pow_le_pow_right (by decide) (by rw [List.length_take]; omega)
  have e17 : (10 : Nat) ^ 17 = 100000000000000000 := by decide
  omega
theorem decK_le (s : List UInt8) : decK s ≤ s.length := by
  unfold decK digsC
  rw [List.length_take]
  have : (s.takeWhile isDg).length ≤ s.length := (List.takeWhile_prefix isDg).length_le
  omega
theorem decN_le (s : List UInt8) : decN s < 100000000000000000 := by
  unfold decN
  cases h : Lib.decFrom 0 (digsC s) with
  | none => decide
  | some n => exact decFrom_lt17 (s := s.takeWhile isDg) (j := 17) (by omega) h
theorem isDg_of {l : List UInt8} (h : ∀ c ∈ l, 48 ≤ c.toNat ∧ c.toNat ≤ 57) : ∀ c ∈ l, isDg c = true := fun c hc => by
  obtain ⟨h1, h2⟩ := h c hc
  simp [isDg, h1, h2]
theorem digsC_itoa {v : Int} (h0 : 0 ≤ v) (h1 : v ≤ 4503599627370496) (r : List UInt8) (hr : r = [] ∨ ∃ t, r = 46 :: t) : digsC (Lib.itoa v ++ r) = Lib.itoa v := by
  have hl := itoa_len16 h0 h1
  have := digsC_end (s := Lib.itoa v ++ r) (j := (Lib.itoa v).length) (by simp) (by omega) (by rw [List.take_left]; exact isDg_of (itoa_dig h0)) (by
    rcases hr with rfl | ⟨t, rfl⟩
    · left; simp
    · right; right
      refine ⟨by simp, ?_⟩
      simp [isDg])
  rw [this, List.take_left]
theorem dec_itoa {v : Int} (h0 : 0 ≤ v) (h1 : v ≤ 4503599627370496) (r : List UInt8) (hr : r = [] ∨ ∃ t, r = 46 :: t) : decN (Lib.itoa v ++ r) = v.toNat ∧ decK (Lib.itoa v ++ r) = (Lib.itoa v).length := by
  unfold decN decK
  rw [digsC_itoa h0 h1 r hr]
  refine ⟨?_, rfl⟩
  rw [itoa_pos h0, decFrom_dec]
  rfl
theorem text_dec {e n : Int} (h : mayN e n = true) : decN (textC e n) = e.toNat ∧ decK (textC e n) = (Lib.itoa e).length ∧ decN ((textC e n).drop (decK (textC e n) + 1)) = n.toNat := by
  obtain ⟨⟨h1, h2⟩, h3, h4⟩ := (mayN_iff e n).1 h
  have h5 : textC e n = Lib.itoa e ++ 46 :: Lib.itoa n := by simp [textC]
  obtain ⟨a, b⟩ := dec_itoa h1 h2 (46 :: Lib.itoa n) (.inr ⟨_, rfl⟩)
  rw [h5]
  refine ⟨a, b, ?_⟩
  rw [b]
  have h6 : (Lib.itoa e ++ 46 :: Lib.itoa n).drop ((Lib.itoa e).length + 1) = Lib.itoa n ++ [] := by simp
  rw [h6]
  exact (dec_itoa h3 h4 [] (.inl rfl)).1
theorem text_len {e n : Int} (h : mayN e n = true) : (textC e n).length ≤ 33 ∧ (Lib.itoa e).length < (textC e n).length := by
  obtain ⟨⟨h1, h2⟩, h3, h4⟩ := (mayN_iff e n).1 h
  have := itoa_len16 h1 h2
  have := itoa_len16 h3 h4
  simp only [textC, List.length_append, List.length_cons, List.length_nil]
  omega
end Go.Proofs.YtppljlegkdjhpaaDoor
