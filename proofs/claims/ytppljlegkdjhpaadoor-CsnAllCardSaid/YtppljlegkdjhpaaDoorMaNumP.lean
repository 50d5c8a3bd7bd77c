/- Numbers by their texts: no program. -/
import Derived.Test.YtppljlegkdjhpaaDoorMaPure
namespace Go.Proofs.YtppljlegkdjhpaaDoor
set_option linter.unusedVariables false

theorem decFrom_snoc (b : UInt8) : ∀ (l : List UInt8) (acc : Nat), Lib.decFrom acc (l ++ [b]) = (Lib.decFrom acc l).bind fun n => (Lib.digitVal b).map fun d => n * 10 + d
  | [], acc => by
    simp only [List.nil_append, Lib.decFrom, Option.bind_some]
    cases Lib.digitVal b <;> rfl
  | c :: l, acc => by
    simp only [List.cons_append, Lib.decFrom]
    cases Lib.digitVal c with
    | none => rfl
    | some d => exact decFrom_snoc b l _
theorem digitVal_dig (k : Nat) (h : k < 10) : Lib.digitVal (UInt8.ofNat (48 + k)) = some k := by
  have : (UInt8.ofNat (48 + k)).toNat = 48 + k := by simp; omega
  unfold Lib.digitVal
  rw [this, if_pos (by omega)]
  simp
theorem decFrom_dec (u : Nat) : Lib.decFrom 0 (Lib.decDigits u) = some u := by
  induction u using Nat.strongRecOn with
  | _ u ih =>
    by_cases h : u < 10
    · rw [Lib.decDigits_one h]
      simp only [Lib.decFrom, digitVal_dig u h, Nat.zero_mul, Nat.zero_add]
    · rw [Lib.decDigits, dif_neg h, decFrom_snoc, ih (u / 10) (by omega)]
      simp only [Option.bind_some, digitVal_dig _ (Nat.mod_lt u (by decide : 0 < 10)), Option.map_some]
      congr 1
      omega
theorem dec_ne (u : Nat) : Lib.decDigits u ≠ [] := by
  intro e
  have := Lib.decDigits_length u
  have h2 := Lib.nDigits_pos u
  rw [e] at this
  simp at this
  omega
theorem decNat_dec (u : Nat) : Lib.decNat (Lib.decDigits u) = some u := by
  unfold Lib.decNat
  cases h : Lib.decDigits u with
  | nil => exact absurd h (dec_ne u)
  | cons c r =>
    rw [← h]
    have : (Lib.decDigits u).isEmpty = false := by rw [h]; rfl
    rw [this]
    exact decFrom_dec u
/-- All are digits; the first one is none of 0 where there is more than one, or more than 0. -/
theorem dec_digits (u : Nat) : ∀ c ∈ Lib.decDigits u, 48 ≤ c.toNat ∧ c.toNat ≤ 57 := by
  induction u using Nat.strongRecOn with
  | _ u ih =>
    intro c hc
    by_cases h : u < 10
    · rw [Lib.decDigits_one h] at hc
      simp at hc
      subst hc
      simp; omega
    · rw [Lib.decDigits, dif_neg h] at hc
      rcases List.mem_append.1 hc with hc | hc
      · exact ih (u / 10) (by omega) c hc
      · simp at hc
        subst hc
        simp; omega
theorem dec_head (u : Nat) (h0 : 1 ≤ u) : ∀ c r, Lib.decDigits u = c :: r → c.toNat ≠ 48 := by
  induction u using Nat.strongRecOn with
  | _ u ih =>
    intro c r hc
    by_cases h : u < 10
    · rw [Lib.decDigits_one h] at hc
      simp at hc
      rw [← hc.1]
      simp; omega
    · rw [Lib.decDigits, dif_neg h] at hc
      cases hd : Lib.decDigits (u / 10) with
      | nil => exact absurd hd (dec_ne _)
      | cons x y =>
        rw [hd] at hc
        simp at hc
        rw [← hc.1]
        exact ih (u / 10) (by omega) (by omega) x y hd
theorem nDigits_le : ∀ (k u : Nat), u < 10 ^ (k + 1) → Lib.nDigits u ≤ k + 1
  | 0, u, h => by rw [Lib.nDigits_small (by simpa using h)]; exact Nat.le_refl _
  | k + 1, u, h => by
    by_cases h1 : u < 10
    · rw [Lib.nDigits_small h1]; omega
    · rw [Lib.nDigits_big h1]
      have := nDigits_le k (u / 10) (by rw [Nat.pow_succ] at h; omega)
      omega
theorem itoa_ne (v : Int) : Lib.itoa v ≠ [] := by
  unfold Lib.itoa
  split
  · simp
  · exact dec_ne _
theorem itoa_chars (v : Int) : ∀ c ∈ Lib.itoa v, c = 45 ∨ (48 ≤ c.toNat ∧ c.toNat ≤ 57) := by
  intro c hc
  unfold Lib.itoa at hc
  split at hc
  · rcases List.mem_cons.1 hc with h | h
    · exact .inl h
    · exact .inr (dec_digits _ c h)
  · exact .inr (dec_digits _ c hc)
theorem trim_neg (l : List UInt8) : Lib.trimPrefix (45 :: l) [45] = l := by simp [Lib.trimPrefix, Lib.hasPrefix]
theorem trim_not {c : UInt8} {l : List UInt8} (h : c ≠ 45) : Lib.trimPrefix (c :: l) [45] = c :: l := by
  simp [Lib.trimPrefix, Lib.hasPrefix]
  intro e
  exact absurd e.symm h
theorem trim_itoa (v : Int) : Lib.trimPrefix (Lib.itoa v) [45] = Lib.decDigits v.natAbs := by
  unfold Lib.itoa
  split
  · exact trim_neg _
  · rename_i h
    have e : v.toNat = v.natAbs := by omega
    rw [e]
    cases hd : Lib.decDigits v.natAbs with
    | nil => exact absurd hd (dec_ne _)
    | cons c r =>
      refine trim_not ?_
      intro ec
      have := dec_digits v.natAbs c (by rw [hd]; simp)
      rw [ec] at this
      simp at this
theorem atoi_itoa (v : Int) : Lib.atoi (Lib.itoa v) = some v := by
  unfold Lib.itoa
  split
  · rename_i h
    simp only [Lib.atoi, beq_self_eq_true, if_true, decNat_dec, Option.map_some]
    congr 1; omega
  · rename_i h
    cases hd : Lib.decDigits v.toNat with
    | nil => exact absurd hd (dec_ne _)
    | cons c r =>
      have hc := dec_digits v.toNat c (by rw [hd]; simp)
      have h1 : (c == 45) = false := by rw [beq_eq_false_iff_ne]; intro e; rw [e] at hc; simp at hc
      have h2 : (c == 43) = false := by rw [beq_eq_false_iff_ne]; intro e; rw [e] at hc; simp at hc
      have hn := decNat_dec v.toNat
      rw [hd] at hn
      simp only [Lib.atoi, h1, h2, Bool.false_eq_true, if_false, hn, Option.map_some]
      congr 1; omega
theorem numD_itoa (v : Int) (h : v.natAbs < 1000000000000000) : numD (Lib.itoa v) = some v := by
  have h15 : (Lib.decDigits v.natAbs).length ≤ 15 := by rw [Lib.decDigits_length]; exact nDigits_le 14 _ (by simpa using h)
  have hl : (Lib.itoa v).length ≤ 18 := by
    unfold Lib.itoa
    split
    · simp; omega
    · rename_i h; rw [show v.toNat = v.natAbs by omega]; omega
  unfold numD
  rw [trim_itoa, if_pos h15, Lib.parseIntB_64, Lib.atoiAll_short _ hl, atoi_itoa]
  simp [okN, Lib.NumEnd.ofOption]
theorem numD_some {l : List UInt8} {v : Int} (h : numD l = some v) : l = Lib.itoa v ∧ v.natAbs < 1000000000000000 := by
  unfold numD at h
  split at h
  · rename_i h15
    cases hp : Lib.parseIntB 64 l with
    | ok u =>
      rw [hp] at h
      simp only [okN] at h
      split at h
      · rename_i he
        cases h
        refine ⟨he.symm, ?_⟩
        rw [← he, trim_itoa, Lib.decDigits_length] at h15
        have h1 := Lib.lt_pow_nDigits v.natAbs
        have h2 : 10 ^ Lib.nDigits v.natAbs ≤ 10 ^ 15 := Nat.pow_le_pow_right (by decide) h15
        have h3 : (10 : Nat) ^ 15 = 1000000000000000 := by decide
        omega
      · cases h
    | «syntax» => rw [hp] at h; cases h
    | range => rw [hp] at h; cases h
  · cases h
theorem itoa_inj {m n : Int} (hm : m.natAbs < 1000000000000000) (h : Lib.itoa m = Lib.itoa n) : m = n := by
  have h1 := numD_itoa m hm
  rw [h] at h1
  have h2 := (numD_some h1).2
  have h3 := atoi_itoa n
  rw [← h, atoi_itoa] at h3
  exact Option.some.inj h3
theorem itoa_len (v : Int) (h : v.natAbs < 1000000000000000) : (Lib.itoa v).length ≤ 16 := by
  have h15 : (Lib.decDigits v.natAbs).length ≤ 15 := by rw [Lib.decDigits_length]; exact nDigits_le 14 _ (by simpa using h)
  unfold Lib.itoa
  split
  · simp; omega
  · rename_i h; rw [show v.toNat = v.natAbs by omega]; omega

/-- What is written otherwise is no number. -/
theorem numD_char {l : List UInt8} {c : UInt8} (hc : c ∈ l) (h : c ≠ 45 ∧ ¬ (48 ≤ c.toNat ∧ c.toNat ≤ 57)) : numD l = none := by
  cases hn : numD l with
  | none => rfl
  | some v =>
    have := (numD_some hn).1
    subst this
    rcases itoa_chars v c hc with e | e
    · exact absurd e h.1
    · exact absurd e h.2
theorem numD_zero {l : List UInt8} (hl : l ≠ []) : numD (48 :: l) = none := by
  cases hn : numD (48 :: l) with
  | none => rfl
  | some v =>
    have h := (numD_some hn).1
    unfold Lib.itoa at h
    split at h
    · simp at h
    · by_cases h0 : v.toNat = 0
      · rw [h0, Lib.decDigits_one (by decide)] at h
        simp at h
        exact absurd h hl
      · exact absurd rfl (dec_head v.toNat (by omega) 48 l h.symm)
theorem numD_minus : numD [45, 48] = none ∧ numD [45] = none ∧ numD [] = none ∧ numD [49, 50, 51, 52, 53, 54, 55, 56, 57, 48, 49, 50, 51, 52, 53, 54] = none := by
  refine ⟨?_, ?_, ?_, by decide⟩
  · cases hn : numD [45, 48] with
    | none => rfl
    | some v =>
      have h := (numD_some hn).1
      unfold Lib.itoa at h
      split at h
      · simp at h
        exact absurd rfl (dec_head v.natAbs (by omega) 48 [] h.symm)
      · exact absurd rfl ((fun e => by have := dec_digits v.toNat 45 (by rw [← h]; simp); simp at this) : ¬ (45 = 45))
  · cases hn : numD [45] with
    | none => rfl
    | some v =>
      have h := (numD_some hn).1
      unfold Lib.itoa at h
      split at h
      · simp at h
        exact absurd h (dec_ne _)
      · have := dec_digits v.toNat 45 (by rw [← h]; simp); simp at this
  · cases hn : numD [] with
    | none => rfl
    | some v => exact absurd (numD_some hn).1.symm (itoa_ne v)
theorem normD_num {l : List UInt8} (h : numD l = none) : normD 2 l = none := by
  unfold normD
  split
  · rfl
  · rw [if_neg (by decide), if_pos rfl, h]; rfl
theorem normD_itoa (v : Int) (h : v.natAbs < 1000000000000000) : normD 2 (Lib.itoa v) = some (Lib.itoa v) := by
  have := itoa_len v h
  unfold normD
  rw [if_neg (by rintro (e | e); exact itoa_ne v e; omega), if_neg (by decide), if_pos rfl, numD_itoa v h]; rfl
end Go.Proofs.YtppljlegkdjhpaaDoor
