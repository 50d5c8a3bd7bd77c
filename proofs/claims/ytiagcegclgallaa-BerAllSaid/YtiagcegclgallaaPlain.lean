/- Plain mathematics of numbers as bytes: no program. -/
import Derived.Lib.BitFns
import Derived.Laws.Entries
import Derived.Laws.BitsAllLaws
import Derived.Laws.BitsLemmas
namespace Go.Proofs.Ytiagcegclgallaa

/-- The byte at place j (counted from the back) of n. -/
def byteAt (n : Int) (j : Nat) : UInt8 := UInt8.ofNat (n / 2 ^ (8 * j) % 256).toNat

theorem byteAt_int (n : Int) (j : Nat) : ((byteAt n j).toNat : Int) = n / 2 ^ (8 * j) % 256 := by
  unfold byteAt
  have h1 : 0 ≤ n / 2 ^ (8 * j) % 256 := Int.emod_nonneg _ (by decide)
  have h2 : n / 2 ^ (8 * j) % 256 < 256 := Int.emod_lt_of_pos _ (by decide)
  rw [UInt8.toNat_ofNat']
  omega

/-- The last k bytes of n, the highest first. -/
def nb (n : Int) : Nat → List UInt8
  | 0 => []
  | k + 1 => byteAt n k :: nb n k

theorem nb_length (n : Int) (k : Nat) : (nb n k).length = k := by
  induction k with
  | zero => rfl
  | succ k ih => simp [nb, ih]

theorem nb_get (n : Int) : ∀ (k j : Nat), j < k → (nb n k)[j]? = some (byteAt n (k - 1 - j))
  | 0, j, h => by omega
  | k + 1, 0, _ => by simp [nb]
  | k + 1, j + 1, h => by
    simp only [nb, List.getElem?_cons_succ]
    rw [nb_get n k j (by omega)]
    congr 2
    omega

theorem byteAt_div (n : Int) (j : Nat) : byteAt n (j + 1) = byteAt (n / 256) j := by
  unfold byteAt
  have : n / 2 ^ (8 * (j + 1)) = n / 256 / 2 ^ (8 * j) := by
    rw [Int.ediv_ediv_of_nonneg (by decide)]
    congr 1
    rw [show 8 * (j + 1) = 8 + 8 * j from by omega, Int.pow_add]
    rfl
  rw [this]

theorem nb_snoc (n : Int) : ∀ k : Nat, nb n (k + 1) = nb (n / 256) k ++ [byteAt n 0]
  | 0 => rfl
  | k + 1 => by
    have ih := nb_snoc n k
    rw [nb, ih, nb, byteAt_div]
    rfl

/-- A number's bytes read on from v. -/
def rdFrom (v : Int) (l : List UInt8) : Int := l.foldl (fun v b => v * 256 + b.toNat) v

theorem rdFrom_snoc (v : Int) (l : List UInt8) (b : UInt8) : rdFrom v (l ++ [b]) = rdFrom v l * 256 + b.toNat := by simp [rdFrom]

/-- Reading the last k bytes of n behind what is above them gives n. -/
theorem rdFrom_nb : ∀ (k : Nat) (n : Int), rdFrom (n / 2 ^ (8 * k)) (nb n k) = n
  | 0, n => by simp [rdFrom, nb]
  | k + 1, n => by
    rw [nb_snoc, rdFrom_snoc]
    have e : n / 2 ^ (8 * (k + 1)) = n / 256 / 2 ^ (8 * k) := by
      rw [Int.ediv_ediv_of_nonneg (by decide)]
      congr 1
      rw [show 8 * (k + 1) = 8 + 8 * k from by omega, Int.pow_add]
      rfl
    rw [e, rdFrom_nb k (n / 256), byteAt_int]
    simp
    omega

/-- How many bytes a number has. -/
def mag (n : Int) : Nat := if n < 0 then (-n - 1).toNat else n.toNat
def intK (n : Int) : Nat := Lib.bitLen (mag n) / 8 + 1
/-- The bytes of a number. -/
def intL (n : Int) : List UInt8 := nb n (intK n)

theorem mag_lt {n : Int} (h0 : -9223372036854775808 ≤ n) (h1 : n ≤ 9223372036854775807) : mag n < 2 ^ 63 := by
  unfold mag; split <;> omega

theorem intK_le {n : Int} (h0 : -9223372036854775808 ≤ n) (h1 : n ≤ 9223372036854775807) : 1 ≤ intK n ∧ intK n ≤ 8 := by
  have := Lib.bitLen_le (mag n) 63 (by decide) (mag_lt h0 h1)
  unfold intK; omega

theorem mag_div (n : Int) : mag (n / 256) = mag n / 256 := by
  unfold mag
  by_cases h : n < 0
  · rw [if_pos h, if_pos (by omega)]; omega
  · rw [if_neg h, if_neg (by omega)]; omega

theorem intK_small {n : Int} (h0 : -128 ≤ n) (h1 : n ≤ 127) : intK n = 1 := by
  have : mag n < 2 ^ 7 := by unfold mag; split <;> omega
  have := Lib.bitLen_le (mag n) 7 (by decide) this
  unfold intK; omega

theorem bitLen_zero : Lib.bitLen 0 = 0 := by decide +kernel

theorem bitLen_bounds (x : Nat) (h : x < 2 ^ 64) (h0 : x ≠ 0) : 2 ^ (Lib.bitLen x - 1) ≤ x ∧ x < 2 ^ Lib.bitLen x ∧ 1 ≤ Lib.bitLen x := by
  have step : ∀ k x : Nat, x < 2 ^ k → k ≤ 64 → x ≠ 0 → 2 ^ (Lib.bitLen x - 1) ≤ x ∧ x < 2 ^ Lib.bitLen x ∧ 1 ≤ Lib.bitLen x := by
    intro k
    induction k with
    | zero => intro x hx _ h0; simp at hx; omega
    | succ k ih =>
      intro x hx hk h0
      have hx64 : x < 2 ^ 64 := Nat.lt_of_lt_of_le hx (Nat.pow_le_pow_right (by decide) hk)
      rw [Lib.bitLen_half x h0 hx64]
      by_cases h1 : x / 2 = 0
      · rw [h1, bitLen_zero]
        have : x = 1 := by omega
        subst this; decide
      · obtain ⟨a, b, c⟩ := ih (x / 2) (by rw [Nat.pow_succ] at hx; omega) (by omega) h1
        refine ⟨?_, ?_, by omega⟩
        · have e : 1 + Lib.bitLen (x / 2) - 1 = (Lib.bitLen (x / 2) - 1) + 1 := by omega
          rw [e, Nat.pow_succ]; omega
        · rw [Nat.add_comm, Nat.pow_succ]; omega
  exact step 64 x h (Nat.le_refl _) h0

theorem intK_big {n : Int} (h0 : -9223372036854775808 ≤ n) (h1 : n ≤ 9223372036854775807) (h : n < -128 ∨ 127 < n) : intK n = intK (n / 256) + 1 := by
  have hm := mag_lt h0 h1
  have hm128 : 128 ≤ mag n := by unfold mag; split <;> omega
  unfold intK
  rw [mag_div]
  by_cases h256 : 256 ≤ mag n
  · rw [Lib.bitLen_shift8 (mag n) h256 (by omega)]; omega
  · have : mag n / 256 = 0 := by omega
    rw [this, bitLen_zero]
    have hb := bitLen_bounds (mag n) (by omega) (by omega)
    have hle := Lib.bitLen_le (mag n) 8 (by decide) (by omega)
    have : ¬ Lib.bitLen (mag n) ≤ 7 := by
      intro hle7
      have := Nat.pow_le_pow_right (show 0 < 2 by decide) hle7
      omega
    omega

theorem intL_small {n : Int} (h0 : -128 ≤ n) (h1 : n ≤ 127) : intL n = [byteAt n 0] := by
  unfold intL; rw [intK_small h0 h1]; rfl

theorem intL_big {n : Int} (h0 : -9223372036854775808 ≤ n) (h1 : n ≤ 9223372036854775807) (h : n < -128 ∨ 127 < n) : intL n = intL (n / 256) ++ [byteAt n 0] := by
  unfold intL; rw [intK_big h0 h1 h, nb_snoc]

/-- What a text begins with when it is read. -/
def start (l : List UInt8) : Int := if (128 : Int) ≤ ((l[0]?.getD 0).toNat : Int) then -1 else 0
/-- The number that a text would be. -/
def rd (l : List UInt8) : Int := rdFrom (start l) l

theorem intK_range {n : Int} (h0 : -9223372036854775808 ≤ n) (h1 : n ≤ 9223372036854775807) : -(2 ^ (8 * intK n - 1) : Int) ≤ n ∧ n < 2 ^ (8 * intK n - 1) := by
  have hm := mag_lt h0 h1
  have hlt : mag n < 2 ^ (8 * intK n - 1) := by
    by_cases hz : mag n = 0
    · rw [hz]; exact Nat.two_pow_pos _
    · have hb := bitLen_bounds (mag n) (by omega) hz
      refine Nat.lt_of_lt_of_le hb.2.1 (Nat.pow_le_pow_right (by decide) ?_)
      unfold intK; omega
  have hc : ((mag n : Nat) : Int) < 2 ^ (8 * intK n - 1) := by exact_mod_cast hlt
  unfold mag at hc
  generalize (2 : Int) ^ (8 * intK n - 1) = p at hc ⊢
  split at hc <;> omega

theorem start_nb (n : Int) (k : Nat) (hk : 1 ≤ k) (h0 : -(2 ^ (8 * k - 1) : Int) ≤ n) (h1 : n < 2 ^ (8 * k - 1)) : start (nb n k) = n / 2 ^ (8 * k) := by
  obtain ⟨j, rfl⟩ : ∃ j, k = j + 1 := ⟨k - 1, by omega⟩
  have e : (nb n (j + 1))[0]?.getD 0 = byteAt n j := by simp [nb]
  have p : (2 : Int) ^ (8 * (j + 1) - 1) = 128 * 2 ^ (8 * j) := by
    rw [show 8 * (j + 1) - 1 = 7 + 8 * j from by omega, Int.pow_add]; rfl
  have q : (2 : Int) ^ (8 * (j + 1)) = 256 * 2 ^ (8 * j) := by
    rw [show 8 * (j + 1) = 8 + 8 * j from by omega, Int.pow_add]; rfl
  rw [p] at h0 h1
  unfold start
  rw [e, byteAt_int, q]
  have hp : (0 : Int) < 2 ^ (8 * j) := by exact_mod_cast Nat.two_pow_pos _
  rw [show n / (256 * 2 ^ (8 * j)) = n / 2 ^ (8 * j) / 256 from by rw [Int.ediv_ediv_of_nonneg (Int.le_of_lt hp), Int.mul_comm]]
  have hlo : -128 ≤ n / 2 ^ (8 * j) := by
    rw [Int.le_ediv_iff_mul_le hp]; omega
  have hhi : n / 2 ^ (8 * j) < 128 := by
    rw [Int.ediv_lt_iff_lt_mul hp]; omega
  generalize n / 2 ^ (8 * j) = m at hlo hhi
  split <;> omega

theorem rd_nb (n : Int) (k : Nat) (hk : 1 ≤ k) (h0 : -(2 ^ (8 * k - 1) : Int) ≤ n) (h1 : n < 2 ^ (8 * k - 1)) : rd (nb n k) = n := by
  unfold rd; rw [start_nb n k hk h0 h1, rdFrom_nb]

theorem rd_intL {n : Int} (h0 : -9223372036854775808 ≤ n) (h1 : n ≤ 9223372036854775807) : rd (intL n) = n := by
  have r := intK_range h0 h1
  exact rd_nb n (intK n) (intK_le h0 h1).1 r.1 r.2

theorem intL_length {n : Int} : (intL n).length = intK n := nb_length _ _

/-- With the sign once more ahead it is read as the same number. -/
theorem rd_pad {n : Int} (h0 : -9223372036854775808 ≤ n) (h1 : n ≤ 9223372036854775807) (c : UInt8) (hc : c = if n < 0 then 255 else 0) : rd (c :: intL n) = n := by
  have hr := rd_intL h0 h1
  have hs := start_nb n (intK n) (intK_le h0 h1).1 (intK_range h0 h1).1 (intK_range h0 h1).2
  have hn : start (intL n) = if n < 0 then -1 else 0 := by
    unfold intL; rw [hs]
    have r := intK_range h0 h1
    have q : (2 : Int) ^ (8 * intK n) = 2 * 2 ^ (8 * intK n - 1) := by
      have := (intK_le h0 h1).1
      rw [show 8 * intK n = 1 + (8 * intK n - 1) from by omega, Int.pow_add]
      simp
    have hp : (0 : Int) < 2 ^ (8 * intK n - 1) := by exact_mod_cast Nat.two_pow_pos _
    rw [q]
    generalize (2 : Int) ^ (8 * intK n - 1) = p at *
    have lo : -1 ≤ n / (2 * p) := by rw [Int.le_ediv_iff_mul_le (by omega)]; omega
    have hi : n / (2 * p) < 1 := by rw [Int.ediv_lt_iff_lt_mul (by omega)]; omega
    split
    · have : n / (2 * p) < 0 := by rw [Int.ediv_lt_iff_lt_mul (by omega)]; omega
      omega
    · have : 0 ≤ n / (2 * p) := Int.ediv_nonneg (by omega) (by omega)
      omega
  have : start (c :: intL n) * 256 + c.toNat = start (intL n) := by
    rw [hn, hc]; unfold start; split <;> simp
  unfold rd at hr ⊢
  rw [← this] at hr
  exact hr

/-- '^n' of an int below 0. -/
theorem i64_not_neg {n : Int} (h0 : -9223372036854775808 ≤ n) (h1 : n < 0) : bits .xor .i64 (-1) n = -1 - n := by
  show IntKind.i64.wrap ((BitVec.ofInt 64 (-1) ^^^ BitVec.ofInt 64 n).toNat : Int) = _
  have e : BitVec.ofInt 64 (-1) = BitVec.allOnes 64 := by decide
  rw [e, BitVec.allOnes_xor, BitVec.toNat_not, BitVec.toNat_ofInt]
  have : (n % ((2 ^ 64 : Nat) : Int)).toNat = (n + 18446744073709551616).toNat := by omega
  rw [this, IntKind.wrap_i64]
  omega

/-- 'n << 8 | b': a number whose low byte is 0, and a byte. -/
theorem i64_or_low {x b : Int} (h0 : -9223372036854775808 ≤ x) (h1 : x ≤ 9223372036854775807) (hx : x % 256 = 0) (hb0 : 0 ≤ b) (hb1 : b < 256) : bits .or .i64 x b = x + b := by
  obtain ⟨c, rfl⟩ := Int.eq_ofNat_of_zero_le hb0
  show IntKind.i64.wrap ((BitVec.ofInt 64 x ||| BitVec.ofInt 64 (c : Int)).toNat : Int) = _
  rw [BitVec.toNat_or, BitVec.toNat_ofInt, BitVec.toNat_ofInt]
  obtain ⟨X, hX⟩ : ∃ X : Nat, X = (x % ((2 ^ 64 : Nat) : Int)).toNat := ⟨_, rfl⟩
  have hC : ((c : Int) % ((2 ^ 64 : Nat) : Int)).toNat = c := by omega
  rw [← hX, hC]
  have hq : X = 2 ^ 8 * (X / 256) := by omega
  rw [hq, ← Nat.two_pow_add_eq_or_of_lt (show c < 2 ^ 8 by omega) (X / 256), IntKind.wrap_i64]
  omega

theorem rdFrom_take (v : Int) (l : List UInt8) (k : Nat) (hk : k < l.length) : rdFrom v (l.take (k + 1)) = rdFrom v (l.take k) * 256 + (l[k].toNat : Int) := by
  rw [List.take_succ_eq_append_getElem hk, rdFrom_snoc]

/-- While a text of at most eight bytes is read the number stays small. -/
theorem rd_bounds (l : List UInt8) : ∀ k : Nat, k ≤ l.length → -(2 ^ (8 * k) : Int) ≤ 2 * rdFrom (start l) (l.take k) + (if k = 0 then 1 else 0) ∧ 2 * rdFrom (start l) (l.take k) < 2 ^ (8 * k)
  | 0, _ => by
    simp only [List.take_zero, rdFrom, List.foldl_nil]
    unfold start; split <;> simp
  | 1, h => by
    have h0 := rdFrom_take (start l) l 0 (by omega)
    have e : l[0]?.getD 0 = l[0] := by simp [List.getElem?_eq_getElem (show 0 < l.length by omega)]
    rw [h0]
    have hb := l[0].toNat_lt
    simp only [List.take_zero, rdFrom, List.foldl_nil]
    unfold start; rw [e]
    simp only [Nat.reduceMul]
    rw [if_neg (show ¬ (1 = 0) by decide)]
    split <;> omega
  | k + 2, h => by
    have h0 := rdFrom_take (start l) l (k + 1) (by omega)
    have ih := rd_bounds l (k + 1) (by omega)
    have hb := l[k + 1].toNat_lt
    rw [h0, show (2 : Int) ^ (8 * (k + 2)) = 256 * 2 ^ (8 * (k + 1)) from by rw [show 8 * (k + 2) = 8 + 8 * (k + 1) from by omega, Int.pow_add]; rfl]
    rw [if_neg (by omega)] at ih ⊢
    generalize rdFrom (start l) (l.take (k + 1)) = v at ih ⊢
    generalize (l[k + 1]).toNat = b at hb ⊢
    have hp : ∃ q : Int, (2 : Int) ^ (8 * (k + 1)) = 2 * q := ⟨2 ^ (8 * (k + 1) - 1), by
      rw [show 8 * (k + 1) = 1 + (8 * (k + 1) - 1) from by omega, Int.pow_add]; simp⟩
    obtain ⟨q, hq⟩ := hp
    rw [hq] at ih ⊢
    omega

theorem rd_small (l : List UInt8) (k : Nat) (hk : k ≤ l.length) (h7 : k ≤ 7) : -36028797018963968 ≤ rdFrom (start l) (l.take k) ∧ rdFrom (start l) (l.take k) ≤ 36028797018963967 := by
  have h := rd_bounds l k hk
  have hp : (2 : Int) ^ (8 * k) ≤ 2 ^ 56 := by exact_mod_cast Nat.pow_le_pow_right (show 0 < 2 by decide) (show 8 * k ≤ 56 by omega)
  have hq : (0 : Int) < 2 ^ (8 * k) := by exact_mod_cast Nat.two_pow_pos _
  split at h <;> omega

theorem rd_range (l : List UInt8) (h8 : l.length ≤ 8) : -9223372036854775808 ≤ rd l ∧ rd l ≤ 9223372036854775807 := by
  have h := rd_bounds l l.length (Nat.le_refl _)
  rw [List.take_length] at h
  unfold rd
  have hp : (2 : Int) ^ (8 * l.length) ≤ 2 ^ 64 := by exact_mod_cast Nat.pow_le_pow_right (show 0 < 2 by decide) (show 8 * l.length ≤ 64 by omega)
  split at h
  · next h0 => 
    have : l = [] := List.eq_nil_of_length_eq_zero h0
    subst this; simp [rdFrom, start]
  · omega

end Go.Proofs.Ytiagcegclgallaa
