/- Several texts in one file: MaNumP, ScVals, ScPure, ScOwn, ScRow, ScClass, ScFind, ScCls, ScCat, ScIdx, ScVal, ScSound, ScClassed, ScCheck, ScPer, EvOrdP, EvAwk, MaDig. -/
import Derived.Test.YtmjgiaiccmhnfaaGreatDoorMaPure
import Derived.Test.YtmjgiaiccmhnfaaGreatDoorEnFind
import Derived.Test.YtmjgiaiccmhnfaaGreatDoorEvoP1
import Derived.Lib.Fields
import Derived.Lib.SlicesCompact
import Derived.Sort.KeysCollected
import Derived.Test.YtmjgiaiccmhnfaaGreatDoorEnOwn
import Derived.Sort.OwnSorted
import Derived.BigQuiet
import Derived.Deep.RegionLaw
import Derived.Deep.RegionHeld3
import Derived.Test.YtmjgiaiccmhnfaaGreatDoorDnParse
import Derived.Lib.AppendZerosOnto
import Derived.Deep.Upon
import Derived.Deep.Cut
import Derived.Test.YtmjgiaiccmhnfaaGreatDoorEvoP2
import Derived.Test.YtmjgiaiccmhnfaaGreatDoorOfL
import Derived.Test.YtmjgiaiccmhnfaaGreatDoorDnOwn
import Derived.Lib.ItoaLen
import Derived.Lib.ItoaMem
/- Numbers by their texts: no program. -/
namespace Go.Proofs.YtmjgiaiccmhnfaaGreatDoor
set_option linter.unusedVariables false

theorem decFrom_snoc (b : UInt8) : ∀ (l : List UInt8) (acc : Nat), Lib.decFrom acc (l ++ [b]) = (Lib.decFrom acc l).bind fun n => (Lib.digitVal b).map fun d => n * 10 + d
  | [], acc => by
    simp only [List.nil_append, Lib.decFrom, Option.bind_some]
    cases Lib.digitVal b <;> rfl
  | c :: l, acc => by
    simp only [List.cons_append, Lib.decFrom]
    cases Lib.digitVal c with
    | none => rfl
    | some d => exact decFrom_snoc b l _
theorem digitVal_dig (k : Nat) (h : k < 10) : Lib.digitVal (UInt8.ofNat (48 + k)) = some k := by
  have : (UInt8.ofNat (48 + k)).toNat = 48 + k := by simp; omega
  unfold Lib.digitVal
  rw [this, if_pos (by omega)]
  simp
theorem decFrom_dec (u : Nat) : Lib.decFrom 0 (Lib.decDigits u) = some u := by
  induction u using Nat.strongRecOn with
  | _ u ih =>
    by_cases h : u < 10
    · rw [Lib.decDigits_one h]
      simp only [Lib.decFrom, digitVal_dig u h, Nat.zero_mul, Nat.zero_add]
    · rw [Lib.decDigits, dif_neg h, decFrom_snoc, ih (u / 10) (by omega)]
      simp only [Option.bind_some, digitVal_dig _ (Nat.mod_lt u (by decide : 0 < 10)), Option.map_some]
      congr 1
      omega
theorem dec_ne (u : Nat) : Lib.decDigits u ≠ [] := by
  intro e
  have := Lib.decDigits_length u
  have h2 := Lib.nDigits_pos u
  rw [e] at this
  simp at this
  omega
theorem decNat_dec (u : Nat) : Lib.decNat (Lib.decDigits u) = some u := by
  unfold Lib.decNat
  cases h : Lib.decDigits u with
  | nil => exact absurd h (dec_ne u)
  | cons c r =>
    rw [← h]
    have : (Lib.decDigits u).isEmpty = false := by rw [h]; rfl
    rw [this]
    exact decFrom_dec u
/-- All are digits; the first one is none of 0 where there is more than one, or more than 0. -/
theorem dec_digits (u : Nat) : ∀ c ∈ Lib.decDigits u, 48 ≤ c.toNat ∧ c.toNat ≤ 57 := by
  induction u using Nat.strongRecOn with
  | _ u ih =>
    intro c hc
    by_cases h : u < 10
    · rw [Lib.decDigits_one h] at hc
      simp at hc
      subst hc
      simp; omega
    · rw [Lib.decDigits, dif_neg h] at hc
      rcases List.mem_append.1 hc with hc | hc
      · exact ih (u / 10) (by omega) c hc
      · simp at hc
        subst hc
        simp; omega
theorem dec_head (u : Nat) (h0 : 1 ≤ u) : ∀ c r, Lib.decDigits u = c :: r → c.toNat ≠ 48 := by
  induction u using Nat.strongRecOn with
  | _ u ih =>
    intro c r hc
    by_cases h : u < 10
    · rw [Lib.decDigits_one h] at hc
      simp at hc
      rw [← hc.1]
      simp; omega
    · rw [Lib.decDigits, dif_neg h] at hc
      cases hd : Lib.decDigits (u / 10) with
      | nil => exact absurd hd (dec_ne _)
      | cons x y =>
        rw [hd] at hc
        simp at hc
        rw [← hc.1]
        exact ih (u / 10) (by omega) (by omega) x y hd
theorem nDigits_le : ∀ (k u : Nat), u < 10 ^ (k + 1) → Lib.nDigits u ≤ k + 1
  | 0, u, h => by rw [Lib.nDigits_small (by simpa using h)]; exact Nat.le_refl _
  | k + 1, u, h => by
    by_cases h1 : u < 10
    · rw [Lib.nDigits_small h1]; omega
    · rw [Lib.nDigits_big h1]
      have := nDigits_le k (u / 10) (by rw [Nat.pow_succ] at h; omega)
      omega
theorem itoa_ne (v : Int) : Lib.itoa v ≠ [] := by
  unfold Lib.itoa
  split
  · simp
  · exact dec_ne _
theorem itoa_chars (v : Int) : ∀ c ∈ Lib.itoa v, c = 45 ∨ (48 ≤ c.toNat ∧ c.toNat ≤ 57) := by
  intro c hc
  unfold Lib.itoa at hc
  split at hc
  · rcases List.mem_cons.1 hc with h | h
    · exact .inl h
    · exact .inr (dec_digits _ c h)
  · exact .inr (dec_digits _ c hc)
theorem trim_neg (l : List UInt8) : Lib.trimPrefix (45 :: l) [45] = l := by simp [Lib.trimPrefix, Lib.hasPrefix]
theorem trim_not {c : UInt8} {l : List UInt8} (h : c ≠ 45) : Lib.trimPrefix (c :: l) [45] = c :: l := by
  simp [Lib.trimPrefix, Lib.hasPrefix]
  intro e
  exact absurd e.symm h
theorem trim_itoa (v : Int) : Lib.trimPrefix (Lib.itoa v) [45] = Lib.decDigits v.natAbs := by
  unfold Lib.itoa
  split
  · exact trim_neg _
  · rename_i h
    have e : v.toNat = v.natAbs := by omega
    rw [e]
    cases hd : Lib.decDigits v.natAbs with
    | nil => exact absurd hd (dec_ne _)
    | cons c r =>
      refine trim_not ?_
      intro ec
      have := dec_digits v.natAbs c (by rw [hd]; simp)
      rw [ec] at this
      simp at this
theorem atoi_itoa (v : Int) : Lib.atoi (Lib.itoa v) = some v := by
  unfold Lib.itoa
  split
  · rename_i h
    simp only [Lib.atoi, beq_self_eq_true, if_true, decNat_dec, Option.map_some]
    congr 1; omega
  · rename_i h
    cases hd : Lib.decDigits v.toNat with
    | nil => exact absurd hd (dec_ne _)
    | cons c r =>
      have hc := dec_digits v.toNat c (by rw [hd]; simp)
      have h1 : (c == 45) = false := by rw [beq_eq_false_iff_ne]; intro e; rw [e] at hc; simp at hc
      have h2 : (c == 43) = false := by rw [beq_eq_false_iff_ne]; intro e; rw [e] at hc; simp at hc
      have hn := decNat_dec v.toNat
      rw [hd] at hn
      simp only [Lib.atoi, h1, h2, Bool.false_eq_true, if_false, hn, Option.map_some]
      congr 1; omega
theorem numD_itoa (v : Int) (h : v.natAbs < 1000000000000000) : numD (Lib.itoa v) = some v := by
  have h15 : (Lib.decDigits v.natAbs).length ≤ 15 := by rw [Lib.decDigits_length]; exact nDigits_le 14 _ (by simpa using h)
  have hl : (Lib.itoa v).length ≤ 18 := by
    unfold Lib.itoa
    split
    · simp; omega
    · rename_i h; rw [show v.toNat = v.natAbs by omega]; omega
  unfold numD
  rw [trim_itoa, if_pos h15, Lib.parseIntB_64, Lib.atoiAll_short _ hl, atoi_itoa]
  simp [okN, Lib.NumEnd.ofOption]
theorem numD_some {l : List UInt8} {v : Int} (h : numD l = some v) : l = Lib.itoa v ∧ v.natAbs < 1000000000000000 := by
  unfold numD at h
  split at h
  · rename_i h15
    cases hp : Lib.parseIntB 64 l with
    | ok u =>
      rw [hp] at h
      simp only [okN] at h
      split at h
      · rename_i he
        cases h
        refine ⟨he.symm, ?_⟩
        rw [← he, trim_itoa, Lib.decDigits_length] at h15
        have h1 := Lib.lt_pow_nDigits v.natAbs
        have h2 : 10 ^ Lib.nDigits v.natAbs ≤ 10 ^ 15 := Nat.pow_le_pow_right (by decide) h15
        have h3 : (10 : Nat) ^ 15 = 1000000000000000 := by decide
        omega
      · cases h
    | «syntax» => rw [hp] at h; cases h
    | range => rw [hp] at h; cases h
  · cases h
theorem itoa_inj {m n : Int} (hm : m.natAbs < 1000000000000000) (h : Lib.itoa m = Lib.itoa n) : m = n := by
  have h1 := numD_itoa m hm
  rw [h] at h1
  have h2 := (numD_some h1).2
  have h3 := atoi_itoa n
  rw [← h, atoi_itoa] at h3
  exact Option.some.inj h3
theorem itoa_len (v : Int) (h : v.natAbs < 1000000000000000) : (Lib.itoa v).length ≤ 16 := by
  have h15 : (Lib.decDigits v.natAbs).length ≤ 15 := by rw [Lib.decDigits_length]; exact nDigits_le 14 _ (by simpa using h)
  unfold Lib.itoa
  split
  · simp; omega
  · rename_i h; rw [show v.toNat = v.natAbs by omega]; omega

/-- What is written otherwise is no number. -/
theorem numD_char {l : List UInt8} {c : UInt8} (hc : c ∈ l) (h : c ≠ 45 ∧ ¬ (48 ≤ c.toNat ∧ c.toNat ≤ 57)) : numD l = none := by
  cases hn : numD l with
  | none => rfl
  | some v =>
    have := (numD_some hn).1
    subst this
    rcases itoa_chars v c hc with e | e
    · exact absurd e h.1
    · exact absurd e h.2
theorem numD_zero {l : List UInt8} (hl : l ≠ []) : numD (48 :: l) = none := by
  cases hn : numD (48 :: l) with
  | none => rfl
  | some v =>
    have h := (numD_some hn).1
    unfold Lib.itoa at h
    split at h
    · simp at h
    · by_cases h0 : v.toNat = 0
      · rw [h0, Lib.decDigits_one (by decide)] at h
        simp at h
        exact absurd h hl
      · exact absurd rfl (dec_head v.toNat (by omega) 48 l h.symm)
theorem numD_minus : numD [45, 48] = none ∧ numD [45] = none ∧ numD [] = none ∧ numD [49, 50, 51, 52, 53, 54, 55, 56, 57, 48, 49, 50, 51, 52, 53, 54] = none := by
  refine ⟨?_, ?_, ?_, by decide⟩
  · cases hn : numD [45, 48] with
    | none => rfl
    | some v =>
      have h := (numD_some hn).1
      unfold Lib.itoa at h
      split at h
      · simp at h
        exact absurd rfl (dec_head v.natAbs (by omega) 48 [] h.symm)
      · exact absurd rfl ((fun e => by have := dec_digits v.toNat 45 (by rw [← h]; simp); simp at this) : ¬ (45 = 45))
  · cases hn : numD [45] with
    | none => rfl
    | some v =>
      have h := (numD_some hn).1
      unfold Lib.itoa at h
      split at h
      · simp at h
        exact absurd h (dec_ne _)
      · have := dec_digits v.toNat 45 (by rw [← h]; simp); simp at this
  · cases hn : numD [] with
    | none => rfl
    | some v => exact absurd (numD_some hn).1.symm (itoa_ne v)
theorem normD_num {l : List UInt8} (h : numD l = none) : normD 2 l = none := by
  unfold normD
  split
  · rfl
  · rw [if_neg (by decide), if_pos rfl, h]; rfl
theorem normD_itoa (v : Int) (h : v.natAbs < 1000000000000000) : normD 2 (Lib.itoa v) = some (Lib.itoa v) := by
  have := itoa_len v h
  unfold normD
  rw [if_neg (by rintro (e | e); exact itoa_ne v e; omega), if_neg (by decide), if_pos rfl, numD_itoa v h]; rfl
end Go.Proofs.YtmjgiaiccmhnfaaGreatDoor

/- schema.valsOf, has, most: the walks. -/
namespace Go.Proofs.YtmjgiaiccmhnfaaGreatDoor
open Go.RowKit
set_option linter.unusedVariables false

/-- The values of the first attribute of a type, by its very letters. -/
def valsS (L : List AT) (t : List UInt8) : List (List UInt8) := match L.find? (fun a => a.1 == t) with
  | some a => a.2
  | none => []
def hasS (L : List AT) (t : List UInt8) : Bool := decide (0 < (valsS L t).length)
def mostS (t : List UInt8) : Int := if t = [117, 105, 100, 110, 117, 109, 98, 101, 114] then 1 else 40
theorem valsS_at {L : List AT} {t : List UInt8} (j : Nat) (hj : j < L.length) (h : ∀ k (hk : k < L.length), k < j → L[k].1 ≠ t) (he : L[j].1 = t) : valsS L t = L[j].2 := by
  have : L.find? (fun a => a.1 == t) = some L[j] := by
    induction L generalizing j with
    | nil => simp at hj
    | cons x l ih =>
      cases j with
      | zero => rw [List.find?_cons_of_pos (by simpa using he)]; rfl
      | succ j =>
        have h0 := h 0 (by simp) (by omega)
        rw [List.find?_cons_of_neg (by simpa using h0)]
        exact ih j (by simpa using hj) (fun k hk hkj => h (k + 1) (by simpa using hk) (by omega)) he
  unfold valsS; rw [this]
theorem valsS_no {L : List AT} {t : List UInt8} (h : ∀ k (hk : k < L.length), L[k].1 ≠ t) : valsS L t = [] := by
  have : L.find? (fun a => a.1 == t) = none := by
    rw [List.find?_eq_none]
    intro a ha
    obtain ⟨k, hk, rfl⟩ := List.getElem_of_mem ha
    simpa using h k hk
  unfold valsS; rw [this]

end Go.Proofs.YtmjgiaiccmhnfaaGreatDoor

/- The classes; what an entry lacks first: what they are; no program. -/
namespace Go.Proofs.YtmjgiaiccmhnfaaGreatDoor
open Go.RowKit
set_option linter.unusedVariables false

/-- A class: its name, the one above it, whether it is structural, what it must and may have. -/
structure CT where
  name : List UInt8
  sup : List UInt8
  st : Bool
  must : List UInt8
  may : List UInt8
def CT.mustL (c : CT) : List (List UInt8) := Lib.fields c.must
def CT.mayL (c : CT) : List (List UInt8) := Lib.fields c.may
def classL : List CT := [
  ⟨[116, 111, 112], [], false, [111, 98, 106, 101, 99, 116, 99, 108, 97, 115, 115], []⟩,
  ⟨[111, 114, 103, 97, 110, 105, 122, 97, 116, 105, 111, 110], [116, 111, 112], true, [111], [100, 101, 115, 99, 114, 105, 112, 116, 105, 111, 110]⟩,
  ⟨[111, 114, 103, 97, 110, 105, 122, 97, 116, 105, 111, 110, 97, 108, 117, 110, 105, 116], [116, 111, 112], true, [111, 117], [100, 101, 115, 99, 114, 105, 112, 116, 105, 111, 110]⟩,
  ⟨[112, 101, 114, 115, 111, 110], [116, 111, 112], true, [99, 110, 32, 115, 110], [100, 101, 115, 99, 114, 105, 112, 116, 105, 111, 110, 32, 117, 115, 101, 114, 112, 97, 115, 115, 119, 111, 114, 100]⟩,
  ⟨[105, 110, 101, 116, 111, 114, 103, 112, 101, 114, 115, 111, 110], [112, 101, 114, 115, 111, 110], true, [], [117, 105, 100, 32, 109, 97, 105, 108]⟩,
  ⟨[112, 111, 115, 105, 120], [116, 111, 112], false, [117, 105, 100, 32, 117, 105, 100, 110, 117, 109, 98, 101, 114], []⟩,
  ⟨[103, 114, 111, 117, 112, 111, 102, 110, 97, 109, 101, 115], [116, 111, 112], true, [99, 110, 32, 109, 101, 109, 98, 101, 114], [100, 101, 115, 99, 114, 105, 112, 116, 105, 111, 110]⟩]
def findC (n : List UInt8) : Option CT := classL.find? (fun c => c.name == n)
theorem findC_at {n : List UInt8} {k : Nat} (hk : k < classL.length) (h : ∀ i, (h : i < classL.length) → i < k → classL[i].name ≠ n) (he : classL[k].name = n) : findC n = some classL[k] := by
  unfold findC
  rw [List.find?_eq_some_iff_getElem]
  refine ⟨by simpa using he, k, hk, rfl, fun j hj => ?_⟩
  have := h j (by omega) hj
  simpa using this
theorem findC_no {n : List UInt8} (h : ∀ i, (h : i < classL.length) → classL[i].name ≠ n) : findC n = none := by
  unfold findC
  rw [List.find?_eq_none]
  intro a ha
  obtain ⟨k, hk, rfl⟩ := List.getElem_of_mem ha
  simpa using h k hk
theorem findC_mem {n : List UInt8} {c : CT} (h : findC n = some c) : c ∈ classL ∧ c.name = n := ⟨List.mem_of_find?_eq_some h, by simpa using List.find?_some h⟩

/-- A class and those above it: three are the most there are. -/
def chainC : Nat → List UInt8 → List CT
  | 0, _ => []
  | k + 1, n => match findC n with
    | none => []
    | some c => c :: chainC k c.sup
theorem chain_end : ∀ c ∈ classL, chainC 3 c.sup = chainC 2 c.sup := by
  intro c hc
  simp only [classL, List.mem_cons, List.not_mem_nil, or_false] at hc
  rcases hc with rfl | rfl | rfl | rfl | rfl | rfl | rfl <;> rfl
theorem chain_step {n : List UInt8} {c : CT} (h : findC n = some c) : chainC 3 n = c :: chainC 3 c.sup := by
  rw [chain_end c (findC_mem h).1]
  show (match findC n with | none => [] | some c => c :: chainC 2 c.sup) = _
  rw [h]
theorem chain_none {n : List UInt8} (h : findC n = none) : chainC 3 n = [] := by
  show (match findC n with | none => [] | some c => c :: chainC 2 c.sup) = _
  rw [h]

def objB : List UInt8 := [111, 98, 106, 101, 99, 116, 99, 108, 97, 115, 115]
/-- The classes that values name, with those above them; whether one that is named is structural. -/
def allC : List (List UInt8) → Option (List CT × Bool)
  | [] => some ([], false)
  | v :: l => match findC (fold v) with
    | none => none
    | some c => (allC l).map fun p => (chainC 3 (fold v) ++ p.1, c.st || p.2)
/-- What is left of it behind some of the values. -/
def allR (A : List CT) (b : Bool) (l : List (List UInt8)) : Option (List CT × Bool) := (allC l).map fun p => (A ++ p.1, b || p.2)
theorem allR_none {A : List CT} {b : Bool} {v : List UInt8} {l : List (List UInt8)} (h : findC (fold v) = none) : allR A b (v :: l) = none := by
  simp [allR, allC, h]
theorem allR_step {A : List CT} {b : Bool} {v : List UInt8} {l : List (List UInt8)} {c : CT} (h : findC (fold v) = some c) : allR A b (v :: l) = allR (A ++ chainC 3 (fold v)) (b || c.st) l := by
  simp only [allR, allC, h]
  cases allC l with
  | none => rfl
  | some p => simp [List.append_assoc, Bool.or_assoc]
theorem allR_end (A : List CT) (b : Bool) : allR A b [] = some (A, b) := by simp [allR, allC]
theorem allR_start (l : List (List UInt8)) : allR [] false l = allC l := by
  unfold allR
  cases allC l <;> simp

def mayC (A : List CT) : List (List UInt8) := A.flatMap fun c => c.mustL ++ c.mayL
def classedD (L : List AT) : Bool := match allC (valsS L objB) with
  | none => false
  | some (A, s) => s && (A.all (fun c => c.mustL.all (hasS L)) && L.all (fun a => (mayC A).contains a.1))

theorem leB_le {a b : List UInt8} (h : leB a b = true) : a ≤ b := by simpa only [leB, decide_eq_true_eq] using h
theorem compact_len_lt {zs : List (List UInt8)} : (Lib.compact zs).length < zs.length ↔ ∃ j, 0 < j ∧ j < zs.length ∧ zs[j]? = zs[j - 1]? := by
  unfold Lib.compact Lib.compactUpTo
  rw [List.length_map]
  constructor
  · intro h
    have : ¬ ∀ j ∈ List.range zs.length, Lib.keeps zs.toArray j = true := fun e => by
      rw [List.filter_eq_self.2 e, List.length_range] at h
      omega
    obtain ⟨j, hj⟩ := Classical.not_forall.1 this
    obtain ⟨hm, hk⟩ := Classical.not_imp.1 hj
    rw [List.mem_range] at hm
    simp only [Lib.keeps, decide_eq_true_eq, not_or, Decidable.not_not] at hk
    refine ⟨j, by omega, hm, ?_⟩
    have h1 : j < zs.toArray.size := by simpa using hm
    have h2 : j - 1 < zs.toArray.size := by simp; omega
    have e := hk.2
    rw [getElem!_pos _ j h1, getElem!_pos _ (j - 1) h2] at e
    simp only [List.getElem_toArray] at e
    rw [List.getElem?_eq_getElem hm, List.getElem?_eq_getElem (by omega), e]
  · rintro ⟨j, h0, hm, e⟩
    have h1 : j < zs.toArray.size := by simpa using hm
    have h2 : j - 1 < zs.toArray.size := by simp; omega
    have hk : Lib.keeps zs.toArray j = false := by
      refine Lib.keeps_neg h0 ?_
      rw [getElem!_pos _ j h1, getElem!_pos _ (j - 1) h2]
      simp only [List.getElem_toArray]
      rw [List.getElem?_eq_getElem hm, List.getElem?_eq_getElem (by omega)] at e
      exact Option.some.inj e
    have hlt : ((List.range zs.length).filter (Lib.keeps zs.toArray)).length < (List.range zs.length).length := List.length_filter_lt_length_iff_exists.2 ⟨j, List.mem_range.2 hm, by rw [hk]; simp⟩
    rw [List.length_range] at hlt
    exact hlt
theorem dup_iff (l : List (List UInt8)) : (Lib.compact (l.mergeSort leB)).length < l.length ↔ ¬ l.Nodup := by
  have tr : ∀ a b c : List UInt8, leB a b = true → leB b c = true → leB a c = true := fun a b c h1 h2 => by simp only [leB, decide_eq_true_eq] at *; exact List.le_trans h1 h2
  have tot : ∀ a b : List UInt8, (leB a b || leB b a) = true := fun a b => by simp only [leB, Bool.or_eq_true, decide_eq_true_eq]; exact List.le_total a b
  have hp := List.mergeSort_perm l leB
  have hs := List.pairwise_mergeSort tr tot l
  rw [← hp.nodup_iff, ← hp.length_eq, compact_len_lt]
  generalize l.mergeSort leB = m at hs
  rw [List.pairwise_iff_getElem] at hs
  constructor
  · rintro ⟨j, h0, hm, e⟩ hn
    have := List.pairwise_iff_getElem.1 hn (j - 1) j (by omega) hm (by omega)
    rw [List.getElem?_eq_getElem hm, List.getElem?_eq_getElem (by omega)] at e
    exact this (Option.some.inj e).symm
  · intro hn
    refine Classical.byContradiction fun hno => hn (List.pairwise_iff_getElem.2 fun i j hi hj hij e => hno ⟨i + 1, by omega, by omega, ?_⟩)
    have h1 : i + 1 < m.length := by omega
    have a := leB_le (hs i (i + 1) hi h1 (by omega))
    have b : m[i + 1] ≤ m[j] := by
      by_cases q : i + 1 = j
      · subst q; exact List.le_refl _
      · exact leB_le (hs (i + 1) j h1 hj (by omega))
    rw [← e] at b
    rw [List.getElem?_eq_getElem h1, show i + 1 - 1 = i from by omega, List.getElem?_eq_getElem hi, List.le_antisymm b a]

/-- What is wrong of one attribute's values. -/
def normsS (r : Nat) : List (List UInt8) → Option (List (List UInt8))
  | [] => some []
  | v :: l => match normD r v with
    | none => none
    | some x => (normsS r l).map (x :: ·)
def valsC (t : List UInt8) (V : List (List UInt8)) : Int :=
  if V.length = 0 ∨ mostS t < (V.length : Int) then 19 else match normsS (ruleD t) V with
  | none => 21
  | some l => if l.Nodup then 0 else 20
theorem normsS_len {r : Nat} : ∀ {V l : List (List UInt8)}, normsS r V = some l → l.length = V.length
  | [], l, h => by simp only [normsS, Option.some.injEq] at h; subst h; rfl
  | v :: V, l, h => by
    simp only [normsS] at h
    cases e : normD r v with
    | none => rw [e] at h; cases h
    | some x =>
      rw [e] at h
      cases e2 : normsS r V with
      | none => rw [e2] at h; cases h
      | some m =>
        rw [e2] at h
        simp only [Option.map_some, Option.some.injEq] at h
        subst h
        simp [normsS_len e2]
def normsR (r : Nat) (A : List (List UInt8)) (l : List (List UInt8)) : Option (List (List UInt8)) := (normsS r l).map (A ++ ·)
theorem normsR_none {r : Nat} {A l : List (List UInt8)} {v : List UInt8} (h : normD r v = none) : normsR r A (v :: l) = none := by
  simp [normsR, normsS, h]
theorem normsR_step {r : Nat} {A l : List (List UInt8)} {v x : List UInt8} (h : normD r v = some x) : normsR r A (v :: l) = normsR r (A ++ [x]) l := by
  simp only [normsR, normsS, h]
  cases normsS r l <;> simp
theorem normsR_end (r : Nat) (A : List (List UInt8)) : normsR r A [] = some A := by simp [normsR, normsS]
theorem normsR_start (r : Nat) (l : List (List UInt8)) : normsR r [] l = normsS r l := by
  unfold normsR
  cases normsS r l <;> simp

/-- Sound attributes, or what is wrong first. -/
def soundR : List AT → List AT → Except Int (List AT)
  | A, [] => .ok A
  | A, a :: l => match canonD a.1 with
    | none => .error 17
    | some t => if hasS A t then .error 20 else if valsC t a.2 = 0 then soundR (A ++ [(t, a.2)]) l else .error (valsC t a.2)
def namedD (L : List AT) (d : List UInt8) : Bool := match parseD d with
  | some (r :: _) => (valsS L ((canonD r.1).getD [])).any fun v => sameO (normD (ruleD ((canonD r.1).getD [])) v) (normD (ruleD ((canonD r.1).getD [])) r.2)
  | _ => false
def behindD (L : List AT) (d : List UInt8) : Int := if classedD L = false then 65 else if namedD L d = false then 64 else 0
def checkD (d : List UInt8) (L : List AT) : Int := match keyD d with
  | none => 34
  | some k => if k = [] then 34 else if 20 < L.length then 19 else match soundR [] L with
    | .error c => c
    | .ok A => behindD A d
end Go.Proofs.YtmjgiaiccmhnfaaGreatDoor

/- Sound attributes, and classes, in rows of the call's own. -/
namespace Go.Proofs.YtmjgiaiccmhnfaaGreatDoor
open Go.RowKit
set_option linter.unusedVariables false

/-- What the row's attributes are; their values lie below the block B. -/
def SaysV (B : Nat) (w : World) (P : List PT) (L : List AT) : Prop := P.length = L.length ∧ ∀ j (h : j < L.length) (h' : j < P.length), P[j].1 = L[j].1 ∧ IsT B w L[j].2 P[j].2
def OwnV (B : Nat) (w : World) (v : Value) (L : List AT) : Prop := ∃ P, RowP B w v P ∧ SaysV B w P L
theorem saysV_go {B n : Nat} {w w' : World} {P : List PT} {L : List AT} (h : SaysV B w P L) (hb : Below n w w') (hn : B ≤ n) : SaysV B w' P L :=
  ⟨h.1, fun j h1 h2 => ⟨(h.2 j h1 h2).1, (h.2 j h1 h2).2.below (hb.mono hn) (Nat.le_refl _)⟩⟩
theorem ownV_below {B : Nat} {w w' : World} {v : Value} {L : List AT} (h : OwnV B w v L) (hb : Below w.heap.size w w') (hB : B ≤ w.heap.size) : OwnV B w' v L := by
  obtain ⟨P, h1, h2⟩ := h
  exact ⟨P, rowP_below h1 hb, saysV_go h2 hb hB⟩
theorem ownV_slice {B : Nat} {w : World} {v : Value} {L : List AT} (h : OwnV B w v L) : ∃ a c, v = .slice a L.length c := by
  obtain ⟨P, h1, h2⟩ := h
  rw [← h2.1]
  exact rowP_slice h1
theorem ownV_nil (B : Nat) (w : World) : OwnV B w (.slice none 0 0) [] := ⟨[], World.ownsRow_nil _ _ _ _, rfl, fun j h => absurd h (by simp)⟩
theorem ownV_isA {B : Nat} {w : World} {v : Value} {L : List AT} (h : OwnV B w v L) (hl : L.length ≤ maxLen) (hB : B ≤ w.heap.size) : IsA w.heap.size w L v := by
  obtain ⟨P, h1, h2⟩ := h
  by_cases hne : P = []
  · subst hne
    obtain ⟨a, c, hv⟩ := rowP_slice h1
    have : L = [] := List.eq_nil_of_length_eq_zero (by have := h2.1; simpa using this.symm)
    subst this
    exact ⟨a, c, hv, hl, fun j hj => absurd hj (by simp)⟩
  · obtain ⟨g, c, hv, _, hg, hc⟩ := rowP_at h1 hne
    refine ⟨_, c, by rw [hv, h2.1], hl, fun j hj => ?_⟩
    have hj' : j < P.length := by rw [h2.1]; exact hj
    obtain ⟨e1, e2⟩ := h2.2 j hj hj'
    refine ⟨g, 0, P[j].2, rfl, hg, ?_, ?_, e2.below (Below.refl _ _) hB⟩
    · rw [Nat.zero_add, ← e1]; exact (hc j hj').1
    · rw [Nat.zero_add]; exact (hc j hj').2
theorem saysV_more {B : Nat} {w w' : World} {P : List PT} {L : List AT} {X : List UInt8} {u : Value} {A : List (List UInt8)} (h : SaysV B w P L) (hu : IsT B w A u) (hb : Below B w w') : SaysV B w' (P ++ [(X, u)]) (L ++ [(X, A)]) := by
  refine ⟨by simp [h.1], fun j h1 h2 => ?_⟩
  by_cases hj : j < L.length
  · have hj' : j < P.length := by rw [h.1]; exact hj
    rw [List.getElem_append_left hj', List.getElem_append_left hj]
    exact ⟨(h.2 j hj hj').1, (h.2 j hj hj').2.below hb (Nat.le_refl _)⟩
  · have e1 : j = L.length := by simp at h1; omega
    have e2 : j = P.length := by rw [h.1]; exact e1
    have g1 : (P ++ [(X, u)])[j] = (X, u) := by simp [e2]
    have g2 : (L ++ [(X, A)])[j] = (X, A) := by simp [e1]
    rw [g1, g2]
    exact ⟨rfl, hu.below hb (Nat.le_refl _)⟩
theorem ownV_more {B : Nat} {w w' : World} {v' : Value} {P : List PT} {L : List AT} {X : ByteArray} {u : Value} {A : List (List UInt8)} (hs : SaysV B w P L) (hu : IsT B w A u)
    (hr : w'.ownsRow B 45 2 v' (P.length + 1) (cellsP P ++ [.string X, u])) (hb : Below B w w') : OwnV B w' v' (L ++ [(X.data.toList, A)]) := by
  refine ⟨P ++ [(X.data.toList, u)], ?_, saysV_more hs hu hb⟩
  unfold RowP
  rw [List.length_append, cellsP_append]
  show w'.ownsRow B 45 2 v' (P.length + 1) (cellsP P ++ [strV X.data.toList, u])
  rw [strV_whole]
  exact hr
/-- 'append(l, a)' of one attribute whose values came in. -/
theorem wpList_append_attrB {ops : Array Oper} {rest : List Oper} {o : Oper} {a : Act} {w : World} {Q : Exit → Act → World → Prop} (hgd : o.guard = none) (sl x : Operand)
    (ho : o.op = .call { callee := .builtin .append, args := #[sl, x], argTypes := #[26, 26] })
    (base : Nat) (v : Value) (L : List AT) (hs : a.eval sl = v) (X : ByteArray) (u : Value) (A : List (List UInt8)) (hown : OwnV base w v L) (hu : IsT base w A u) (hx : a.eval x = .slice (some ⟨w.heap.size, 0, none⟩) 1 1)
    (h63 : L.length + 1 ≤ 1000000) (hbase : base ≤ w.heap.size)
    (h : ∀ v' w', OwnV base w' v' (L ++ [(X.data.toList, A)]) → Below base w w' → wpList Tryz.prog ops Q rest (a.put o.dst v') w') : wpList Tryz.prog ops Q (o :: rest) a (w.alloc (.cells #[.string X, u] 45)) := by
  obtain ⟨i0, hi, hz0, hz1, hz2⟩ := info_parts infoA
  obtain ⟨P, hr, hsay⟩ := hown
  have hb : Below w.heap.size w (w.alloc (.cells #[.string X, u] 45)) := (Below.refl _ _).alloc (Nat.le_refl _) _
  have hPL := hsay.1
  have hu1 : u.oneCell' = true := by obtain ⟨_, _, rfl, _⟩ := hu; rfl
  refine wpList_append_own_at _ hgd sl x 26 ho base 45 i0 (.agg #[.string ⟨#[]⟩, .slice none 0 0]) 2 40 Tryz.underlying26 hi hz0 hz1 hz2 rfl (by decide) v P.length (cellsP P) hs (World.ownsRow.alloc hr _) ⟨w.heap.size, 0, none⟩ 1 1 [.string X, u] hx rfl (newsA w _ _) (by intro u' hu'; simp at hu'; rcases hu' with rfl | rfl; rfl; exact hu1) (by unfold maxLen; omega) (by omega) (by simp; omega) ?_
  intro v' w' hown' hgrow _ hat
  have hbb : Below base w w' := ((Below.refl base w).alloc hbase _).grown hgrow (by simp; omega) (fun k e => (World.ownsRow.lt hr k e).1)
  exact h v' w' (ownV_more hsay hu hown' hbb) hbb

abbrev KT := CT × Value × Value
def cellsK : List KT → List Value
  | [] => []
  | r :: l => strV r.1.name :: strV r.1.sup :: .bool r.1.st :: r.2.1 :: r.2.2 :: cellsK l
theorem cellsK_append : ∀ a b : List KT, cellsK (a ++ b) = cellsK a ++ cellsK b
  | [], _ => rfl
  | r :: a, b => by show _ :: _ :: _ :: _ :: _ :: cellsK (a ++ b) = _; rw [cellsK_append a b]; rfl
theorem cellsK_get : ∀ (l : List KT) (j : Nat) (h : j < l.length), (cellsK l)[j * 5]? = some (strV l[j].1.name) ∧ (cellsK l)[j * 5 + 1]? = some (strV l[j].1.sup) ∧ (cellsK l)[j * 5 + 2]? = some (.bool l[j].1.st) ∧ (cellsK l)[j * 5 + 3]? = some l[j].2.1 ∧ (cellsK l)[j * 5 + 4]? = some l[j].2.2
  | r :: l, 0, _ => ⟨rfl, rfl, rfl, rfl, rfl⟩
  | r :: l, j + 1, h => by
    have := cellsK_get l j (by simpa using h)
    rw [show (j + 1) * 5 = j * 5 + 5 from by omega]
    exact this
/-- The block b is the call's own, and neither the row's nor g. -/
abbrev Apart (B g : Nat) (w : World) (v : Value) (b : Nat) : Prop := B ≤ b ∧ b < w.heap.size ∧ some b ≠ v.ownBlock ∧ b ≠ g
def SaysK (B g : Nat) (w : World) (v : Value) (P : List KT) : Prop := ∀ j (h : j < P.length), IsTo (Apart B g w v) w P[j].1.mustL P[j].2.1 ∧ IsTo (Apart B g w v) w P[j].1.mayL P[j].2.2
theorem saysK_below {B g : Nat} {w w' : World} {v : Value} {P : List KT} (h : SaysK B g w v P) (hb : Below w.heap.size w w') : SaysK B g w' v P :=
  fun j h1 => ⟨(h j h1).1.imp (fun b hk => ⟨hk.1, Nat.lt_of_lt_of_le hk.2.1 hb.size, hk.2.2⟩) (fun b o hk => hb.cell (p := ⟨b, o, none⟩) hk.2.1), (h j h1).2.imp (fun b hk => ⟨hk.1, Nat.lt_of_lt_of_le hk.2.1 hb.size, hk.2.2⟩) (fun b o hk => hb.cell (p := ⟨b, o, none⟩) hk.2.1)⟩
/-- The value v is the list of these classes, below block n0. -/
def IsK (n0 : Nat) (w : World) (L : List CT) (v : Value) : Prop := ∃ a c, v = .slice a L.length c ∧ L.length ≤ maxLen ∧
  ∀ j, (h : j < L.length) → ∃ b off u1 u2, a = some ⟨b, off, none⟩ ∧ b < n0 ∧ w.cell? ⟨b, off + j * 5, none⟩ = some (strV L[j].name) ∧ w.cell? ⟨b, off + j * 5 + 1, none⟩ = some (strV L[j].sup) ∧ w.cell? ⟨b, off + j * 5 + 2, none⟩ = some (.bool L[j].st) ∧ w.cell? ⟨b, off + j * 5 + 3, none⟩ = some u1 ∧ w.cell? ⟨b, off + j * 5 + 4, none⟩ = some u2 ∧ IsT n0 w L[j].mustL u1 ∧ IsT n0 w L[j].mayL u2
theorem IsK.below {n0 n1 : Nat} {w w' : World} {L : List CT} {v : Value} (h : IsK n0 w L v) (hb : Below n0 w w') (hn : n0 ≤ n1) : IsK n1 w' L v := by
  obtain ⟨a, c, hv, hm, hc⟩ := h
  refine ⟨a, c, hv, hm, fun j hj => ?_⟩
  obtain ⟨b, off, u1, u2, ha, hlt, c0, c1, c2, c3, c4, ht, hu⟩ := hc j hj
  exact ⟨b, off, u1, u2, ha, Nat.lt_of_lt_of_le hlt hn, (hb.cell (p := ⟨b, _, none⟩) hlt).trans c0, (hb.cell (p := ⟨b, _, none⟩) hlt).trans c1, (hb.cell (p := ⟨b, _, none⟩) hlt).trans c2, (hb.cell (p := ⟨b, _, none⟩) hlt).trans c3, (hb.cell (p := ⟨b, _, none⟩) hlt).trans c4, ht.below hb hn, hu.below hb hn⟩
theorem saysK_more {B g : Nat} {w w' : World} {v v' : Value} {P : List KT} {r : KT} (h : SaysK B g w v P) (hu : IsTo (Apart B g w v) w r.1.mustL r.2.1) (hv : IsTo (Apart B g w v) w r.1.mayL r.2.2)
    (hg : w.grownBy w' v.ownBlock) (hat : v'.ownBlock = v.ownBlock ∨ v'.ownBlock = some w.heap.size) : SaysK B g w' v' (P ++ [r]) := by
  have ok : ∀ b, Apart B g w v b → Apart B g w' v' b := fun b hb => ⟨hb.1, Nat.lt_of_lt_of_le hb.2.1 hg.size, by
    rcases hat with e | e
    · rw [e]; exact hb.2.2.1
    · rw [e]; intro h; have := Option.some.inj h; have := hb.2.1; omega, hb.2.2.2⟩
  have hc : ∀ b o, Apart B g w v b → w'.cell? ⟨b, o, none⟩ = w.cell? ⟨b, o, none⟩ := fun b o hb => by
    have := hg.block b hb.2.1 hb.2.2.1
    simp only [World.cell?, this]
  intro j h1
  by_cases hj : j < P.length
  · rw [List.getElem_append_left hj]
    exact ⟨(h j hj).1.imp ok hc, (h j hj).2.imp ok hc⟩
  · have e2 : j = P.length := by simp at h1; omega
    have g1 : (P ++ [r])[j] = r := by simp [e2]
    rw [g1]
    exact ⟨hu.imp ok hc, hv.imp ok hc⟩
end Go.Proofs.YtmjgiaiccmhnfaaGreatDoor

/- schema.rows, row.class, find: the walks. -/
namespace Go.Proofs.YtmjgiaiccmhnfaaGreatDoor
open Go.RowKit
set_option linter.unusedVariables false

/-- The table of white space is as the library lays it. -/
def LaidF (w : World) : Prop := Lib.TabIs Tryz.prog w "strings.asciiSpace" .u8 Lib.asciiSpaceTab
def plainB (l : List UInt8) : Bool := l.all (fun b => decide (b.toNat < 128)) && decide (l.length < 1000)
/-- Own blocks: made since the block B. -/
abbrev New (B : Nat) (w : World) (b : Nat) : Prop := B ≤ b ∧ b < w.heap.size
theorem isTo_new {L : List (List UInt8)} {w : World} {v : Value} {B : Nat} (h : OwnS B w v L) (hl : L.length ≤ maxLen) : IsTo (New B w) w L v := ownS_isTo h hl

def rowCells : Array Value := #[.string { data := #[116, 111, 112] }, .string { data := #[] }, .bool false, .string { data := #[111, 98, 106, 101, 99, 116, 99, 108, 97, 115, 115] }, .string { data := #[] }, .string { data := #[111, 114, 103, 97, 110, 105, 122, 97, 116, 105, 111, 110] }, .string { data := #[116, 111, 112] }, .bool true, .string { data := #[111] }, .string { data := #[100, 101, 115, 99, 114, 105, 112, 116, 105, 111, 110] }, .string { data := #[111, 114, 103, 97, 110, 105, 122, 97, 116, 105, 111, 110, 97, 108, 117, 110, 105, 116] }, .string { data := #[116, 111, 112] }, .bool true, .string { data := #[111, 117] }, .string { data := #[100, 101, 115, 99, 114, 105, 112, 116, 105, 111, 110] }, .string { data := #[112, 101, 114, 115, 111, 110] }, .string { data := #[116, 111, 112] }, .bool true, .string { data := #[99, 110, 32, 115, 110] }, .string { data := #[100, 101, 115, 99, 114, 105, 112, 116, 105, 111, 110, 32, 117, 115, 101, 114, 112, 97, 115, 115, 119, 111, 114, 100] }, .string { data := #[105, 110, 101, 116, 111, 114, 103, 112, 101, 114, 115, 111, 110] }, .string { data := #[112, 101, 114, 115, 111, 110] }, .bool true, .string { data := #[] }, .string { data := #[117, 105, 100, 32, 109, 97, 105, 108] }, .string { data := #[112, 111, 115, 105, 120] }, .string { data := #[116, 111, 112] }, .bool false, .string { data := #[117, 105, 100, 32, 117, 105, 100, 110, 117, 109, 98, 101, 114] }, .string { data := #[] }, .string { data := #[103, 114, 111, 117, 112, 111, 102, 110, 97, 109, 101, 115] }, .string { data := #[116, 111, 112] }, .bool true, .string { data := #[99, 110, 32, 109, 101, 109, 98, 101, 114] }, .string { data := #[100, 101, 115, 99, 114, 105, 112, 116, 105, 111, 110] }]
def rowsV : Value := .agg rowCells
def rowV (c : CT) : Value := .agg #[strV c.name, strV c.sup, .bool c.st, strV c.must, strV c.may]
theorem class_plain : ∀ c ∈ classL, plainB c.must = true ∧ plainB c.may = true := by
  intro c hc
  simp only [classL, List.mem_cons, List.not_mem_nil, or_false] at hc
  rcases hc with rfl | rfl | rfl | rfl | rfl | rfl | rfl <;> decide
theorem fields_len (l : List UInt8) : (Lib.fields l).length ≤ l.length + 1 := by
  have h : ∀ (l cur : List UInt8), (Lib.fieldsGo cur l).length ≤ l.length + 1 := by
    intro l
    induction l with
    | nil => intro cur; unfold Lib.fieldsGo; split <;> simp
    | cons b l ih =>
      intro cur
      unfold Lib.fieldsGo
      split
      · split
        · have := ih []; simp; omega
        · have := ih []; simp; omega
      · have := ih (cur ++ [b]); simp; omega
  exact h l []

theorem isTo_slice {ok : Nat → Prop} {w : World} {L : List (List UInt8)} {v : Value} (h : IsTo ok w L v) : ∃ a n c, v = .slice a n c := by
  obtain ⟨a, c, h, _⟩ := h
  exact ⟨a, _, c, h⟩
/-- The zero class. -/
def noC : Value := .agg #[.string ⟨#[]⟩, .string ⟨#[]⟩, .bool false, .slice none 0 0, .slice none 0 0]

theorem cell_ne (w : World) (a : Addr) (x : Value) {b : Nat} (o : Nat) (h : b ≠ a.block) : (w.setCell a x).cell? ⟨b, o, none⟩ = w.cell? ⟨b, o, none⟩ := by
  have : (w.setCell a x).heap[b]? = w.heap[b]? := by
    unfold World.setCell
    simp [Array.getElem?_modify, Ne.symm h]
  simp only [World.cell?, this]
/-- A block of five cells is written. -/
abbrev set5 (w : World) (b : Nat) (x0 x1 x2 x3 x4 : Value) : World := ((((w.setCell ⟨b, 0, none⟩ x0).setCell ⟨b, 1, none⟩ x1).setCell ⟨b, 2, none⟩ x2).setCell ⟨b, 3, none⟩ x3).setCell ⟨b, 4, none⟩ x4
theorem set5_cell (w : World) (b : Nat) (x0 x1 x2 x3 x4 : Value) {k : Nat} (o : Nat) (h : k ≠ b) : (set5 w b x0 x1 x2 x3 x4).cell? ⟨k, o, none⟩ = w.cell? ⟨k, o, none⟩ := by
  simp only [set5]
  rw [cell_ne _ ⟨b, 4, none⟩ _ o h, cell_ne _ ⟨b, 3, none⟩ _ o h, cell_ne _ ⟨b, 2, none⟩ _ o h, cell_ne _ ⟨b, 1, none⟩ _ o h, cell_ne _ ⟨b, 0, none⟩ _ o h]
theorem set5_below {n b : Nat} {w w' : World} (h : Below n w w') (hb : n ≤ b) (x0 x1 x2 x3 x4 : Value) : Below n w (set5 w' b x0 x1 x2 x3 x4) :=
  ((((h.setCell (p := ⟨b, 0, none⟩) hb _).setCell (p := ⟨b, 1, none⟩) hb _).setCell (p := ⟨b, 2, none⟩) hb _).setCell (p := ⟨b, 3, none⟩) hb _).setCell (p := ⟨b, 4, none⟩) hb _
theorem set5_size (w : World) (b : Nat) (x0 x1 x2 x3 x4 : Value) : (set5 w b x0 x1 x2 x3 x4).heap.size = w.heap.size := by simp [set5, World.setCell]
theorem isTo_set5 {B : Nat} {w : World} {L : List (List UInt8)} {v : Value} (h : IsTo (New B w) w L v) {b : Nat} (hb : b < B) {B' : Nat} (hB : B' ≤ B) (x0 x1 x2 x3 x4 : Value) : IsTo (New B' (set5 w b x0 x1 x2 x3 x4)) (set5 w b x0 x1 x2 x3 x4) L v :=
  h.imp (fun k hk => ⟨Nat.le_trans hB hk.1, by rw [set5_size]; exact hk.2⟩) (fun k o hk => set5_cell w b x0 x1 x2 x3 x4 o (by have := hk.1; omega))
theorem isTo_go {B : Nat} {w w' : World} {L : List (List UInt8)} {v : Value} (h : IsTo (New B w) w L v) (hb : Below w.heap.size w w') {B' : Nat} (hB : B' ≤ B) : IsTo (New B' w') w' L v :=
  h.imp (fun k hk => ⟨Nat.le_trans hB hk.1, Nat.lt_of_lt_of_le hk.2 hb.size⟩) (fun k o hk => hb.cell (p := ⟨k, o, none⟩) hk.2)
end Go.Proofs.YtmjgiaiccmhnfaaGreatDoor

/- row.class: the walk. -/
namespace Go.Proofs.YtmjgiaiccmhnfaaGreatDoor
open Go.RowKit
set_option linter.unusedVariables false

end Go.Proofs.YtmjgiaiccmhnfaaGreatDoor

/- schema.find: the walk. -/
namespace Go.Proofs.YtmjgiaiccmhnfaaGreatDoor
open Go.RowKit
set_option linter.unusedVariables false

def FindW (w : World) (o : Option CT) (e : Ending) (w' : World) : Prop := Below w.heap.size w w' ∧ match o with
  | none => e = .returned (.tuple #[noC, .bool false])
  | some c => ∃ u1 u2, e = .returned (.tuple #[.agg #[strV c.name, strV c.sup, .bool c.st, u1, u2], .bool true]) ∧ IsTo (New w.heap.size w') w' c.mustL u1 ∧ IsTo (New w.heap.size w') w' c.mayL u2

end Go.Proofs.YtmjgiaiccmhnfaaGreatDoor

/- schema.classesOf: the walk. -/
namespace Go.Proofs.YtmjgiaiccmhnfaaGreatDoor
open Go.RowKit
set_option linter.unusedVariables false

theorem chain_len (n : List UInt8) : ∀ k, (chainC k n).length ≤ k := by
  intro k
  induction k generalizing n with
  | zero => simp [chainC]
  | succ k ih =>
    simp only [chainC]
    cases findC n with
    | none => simp
    | some c => have := ih c.sup; simp; omega
def restC : Option CT → List CT
  | none => []
  | some c => c :: chainC 3 c.sup
theorem rest_find (n : List UInt8) : restC (findC n) = chainC 3 n := by
  cases e : findC n with
  | none => rw [chain_none e]; rfl
  | some c => rw [chain_step e]; rfl
theorem lt_set {w : World} {a : Addr} {x : Value} : (w.setCell a x).heap.size = w.heap.size := by simp [World.setCell]
theorem block_ne (w : World) (a : Addr) (x : Value) {b : Nat} (h : b ≠ a.block) : (w.setCell a x).heap[b]? = w.heap[b]? := by
  unfold World.setCell
  simp [Array.getElem?_modify, Ne.symm h]
theorem set5_block (w : World) (g : Nat) (x0 x1 x2 x3 x4 : Value) {b : Nat} (h : b ≠ g) : (set5 w g x0 x1 x2 x3 x4).heap[b]? = w.heap[b]? := by
  simp only [set5]
  rw [block_ne _ ⟨g, 4, none⟩ _ h, block_ne _ ⟨g, 3, none⟩ _ h, block_ne _ ⟨g, 2, none⟩ _ h, block_ne _ ⟨g, 1, none⟩ _ h, block_ne _ ⟨g, 0, none⟩ _ h]
/-- A store into a block that is neither the row's nor one of those that its classes need. -/
theorem grown_set5 (w : World) (g : Nat) (x0 x1 x2 x3 x4 : Value) : w.grownBy (set5 w g x0 x1 x2 x3 x4) (some g) :=
  have hb := set5_below (Below.refl 0 w) (Nat.zero_le g) x0 x1 x2 x3 x4
  ⟨hb.os, hb.tape, hb.output, hb.size, fun k hk hne => set5_block w g x0 x1 x2 x3 x4 (fun e => hne (by rw [e]))⟩
theorem apart_go {B g : Nat} {w w' : World} {l : Value} {v : Value} {A : List (List UInt8)} (h : IsTo (Apart B g w l) w A v) (hb : Below w.heap.size w w') : IsTo (Apart B g w' l) w' A v :=
  h.imp (fun b hk => ⟨hk.1, Nat.lt_of_lt_of_le hk.2.1 hb.size, hk.2.2⟩) (fun b o hk => hb.cell (p := ⟨b, o, none⟩) hk.2.1)
theorem apart_set {B g : Nat} {w : World} {l : Value} {v : Value} {A : List (List UInt8)} (h : IsTo (Apart B g w l) w A v) (x0 x1 x2 x3 x4 : Value) : IsTo (Apart B g (set5 w g x0 x1 x2 x3 x4) l) (set5 w g x0 x1 x2 x3 x4) A v :=
  h.imp (fun b hk => ⟨hk.1, by rw [set5_size]; exact hk.2.1, hk.2.2⟩) (fun b o hk => set5_cell w g x0 x1 x2 x3 x4 o hk.2.2.2)

end Go.Proofs.YtmjgiaiccmhnfaaGreatDoor

/- slices.Grow, Concat, Contains at texts: the walks. -/
namespace Go.Proofs.YtmjgiaiccmhnfaaGreatDoor
open Go.RowKit
set_option linter.unusedVariables false

theorem flat_take {α : Type} (U : List (List α)) (j : Nat) (h : j < U.length) : (U.take (j + 1)).flatten = (U.take j).flatten ++ U[j] := by
  rw [List.take_succ_eq_append_getElem h, List.flatten_append]
  simp
theorem flat_le {α : Type} (U : List (List α)) (j : Nat) : (U.take j).flatten.length ≤ U.flatten.length := by
  have : U.flatten = (U.take j).flatten ++ (U.drop j).flatten := by rw [← List.flatten_append, List.take_append_drop]
  rw [this, List.length_append]
  omega

/-- A list of lists of texts, below block n0. -/
def IsTT (n0 : Nat) (w : World) (U : List (List (List UInt8))) (v : Value) : Prop := ∃ a c, v = .slice a U.length c ∧ ∀ j, (h : j < U.length) → ∃ b off u, a = some ⟨b, off, none⟩ ∧ b < n0 ∧ w.cell? ⟨b, off + j, none⟩ = some u ∧ IsT n0 w U[j] u

end Go.Proofs.YtmjgiaiccmhnfaaGreatDoor

/- slices.Index, Contains at texts; IndexFunc, ContainsFunc with isNamed's question; isNamed: the walks. -/
namespace Go.Proofs.YtmjgiaiccmhnfaaGreatDoor
open Go.RowKit
set_option linter.unusedVariables false

/-- A box of one slice. -/
def Box1 (w : World) (b : Nat) (x : Value) : Prop := w.cell? ⟨b, 0, none⟩ = some x
theorem Box1.below {w w' : World} {b n : Nat} {x : Value} (h : Box1 w b x) (hb : Below n w w') (hn : b < n) : Box1 w' b x := (hb.cell (p := ⟨b, 0, none⟩) hn).trans h
theorem box1_new (w : World) (x : Value) (e : TypeId) : Box1 (w.alloc (.cells #[x] e)) w.heap.size x := by
  have h : (w.alloc (.cells #[x] e)).heap[w.heap.size]? = some (.cells #[x] e (0, 0)) := heap_alloc_new w _
  simp only [Box1, World.cell?, h]; rfl

end Go.Proofs.YtmjgiaiccmhnfaaGreatDoor

/- schema.checkVals: the walk. -/
namespace Go.Proofs.YtmjgiaiccmhnfaaGreatDoor
open Go.RowKit
set_option linter.unusedVariables false

theorem below_own {B : Nat} {w0 w w' : World} {v : Value} {L : List (List UInt8)} (h : Below B w0 w) (hs : B ≤ w.heap.size) (ho : OwnS B w v L) (hg : w.grownBy w' v.ownBlock) : Below B w0 w' :=
  h.grown hg hs (fun k e => (World.ownsRow.lt ho k e).1)

end Go.Proofs.YtmjgiaiccmhnfaaGreatDoor

/- schema.sound: the walk. -/
namespace Go.Proofs.YtmjgiaiccmhnfaaGreatDoor
open Go.RowKit
set_option linter.unusedVariables false

/-- An attribute in a block of its own. -/
def BoxA (w : World) (b : Nat) (x : ByteArray) (u : Value) : Prop := w.heap[b]? = some (.cells #[.string x, u] 45 (0, 0))
theorem BoxA.below {w w' : World} {b n : Nat} {x : ByteArray} {u : Value} (h : BoxA w b x u) (hb : Below n w w') (hn : b < n) : BoxA w' b x u := (hb.block b hn).trans h
theorem BoxA.cells {w : World} {b : Nat} {x : ByteArray} {u : Value} (h : BoxA w b x u) : w.cell? ⟨b, 0, none⟩ = some (.string x) ∧ w.cell? ⟨b, 1, none⟩ = some u := by
  unfold BoxA at h
  simp [World.cell?, h]
theorem boxA_new (w : World) (x : ByteArray) (u : Value) : BoxA (w.alloc (.cells #[.string x, u] 45)) w.heap.size x u := heap_alloc_new w _

theorem sound_err : ∀ {L A : List AT} {c : Int}, soundR A L = .error c → c ≠ 0
  | [], A, c, h => by simp [soundR] at h
  | a :: l, A, c, h => by
    simp only [soundR] at h
    cases e : canonD a.1 with
    | none => rw [e] at h; simp at h; omega
    | some t =>
      rw [e] at h
      simp only at h
      split at h
      · simp at h; omega
      · split at h
        · exact sound_err h
        · rename_i h2
          simp at h; omega
theorem sound_none {A l : List AT} {a : AT} (h : canonD a.1 = none) : soundR A (a :: l) = .error 17 := by simp [soundR, h]
theorem sound_twice {A l : List AT} {a : AT} {t : List UInt8} (h : canonD a.1 = some t) (h2 : hasS A t = true) : soundR A (a :: l) = .error 20 := by simp [soundR, h, h2]
theorem sound_vals {A l : List AT} {a : AT} {t : List UInt8} (h : canonD a.1 = some t) (h2 : hasS A t = false) (h3 : valsC t a.2 ≠ 0) : soundR A (a :: l) = .error (valsC t a.2) := by simp [soundR, h, h2, h3]
theorem sound_step {A l : List AT} {a : AT} {t : List UInt8} (h : canonD a.1 = some t) (h2 : hasS A t = false) (h3 : valsC t a.2 = 0) : soundR A (a :: l) = soundR (A ++ [(t, a.2)]) l := by simp [soundR, h, h2, h3]

def SoundW (w : World) (o : Except Int (List AT)) (e : Ending) (w' : World) : Prop := Below w.heap.size w w' ∧ match o with
  | .error c => e = .returned (.tuple #[.slice none 0 0, .int .i64 c])
  | .ok A => ∃ u, e = .returned (.tuple #[u, .int .i64 0]) ∧ OwnV w.heap.size w' u A

end Go.Proofs.YtmjgiaiccmhnfaaGreatDoor

/- schema.isClassed: the walk. -/
namespace Go.Proofs.YtmjgiaiccmhnfaaGreatDoor
open Go.RowKit
set_option linter.unusedVariables false

theorem class_words : ∀ c ∈ classL, (c.mustL ++ c.mayL).length ≤ 8 := by
  intro c hc
  simp only [classL, List.mem_cons, List.not_mem_nil, or_false] at hc
  rcases hc with rfl | rfl | rfl | rfl | rfl | rfl | rfl <;> decide
theorem chain_mem : ∀ (k : Nat) (n : List UInt8), ∀ c ∈ chainC k n, c ∈ classL
  | 0, n, c, h => by simp [chainC] at h
  | k + 1, n, c, h => by
    simp only [chainC] at h
    cases e : findC n with
    | none => rw [e] at h; simp at h
    | some d =>
      rw [e] at h
      rcases List.mem_cons.1 h with rfl | h
      · exact (findC_mem e).1
      · exact chain_mem k d.sup c h
theorem allC_mem : ∀ {V : List (List UInt8)} {A : List CT} {s : Bool}, allC V = some (A, s) → (∀ c ∈ A, c ∈ classL) ∧ A.length ≤ 3 * V.length
  | [], A, s, h => by simp only [allC, Option.some.injEq, Prod.mk.injEq] at h; rw [← h.1]; simp
  | v :: l, A, s, h => by
    simp only [allC] at h
    cases e : findC (fold v) with
    | none => rw [e] at h; cases h
    | some c =>
      rw [e] at h
      cases e2 : allC l with
      | none => rw [e2] at h; cases h
      | some p =>
        obtain ⟨A2, s2⟩ := p
        rw [e2] at h
        simp only [Option.map_some, Option.some.injEq, Prod.mk.injEq] at h
        obtain ⟨h1, h2⟩ := allC_mem e2
        rw [← h.1]
        have := chain_len (fold v) 3
        exact ⟨fun c hc => (List.mem_append.1 hc).elim (chain_mem 3 _ c) (h1 c), by simp; omega⟩
theorem mayC_len {A : List CT} (h : ∀ c ∈ A, c ∈ classL) : (mayC A).length ≤ 8 * A.length := by
  induction A with
  | nil => simp [mayC]
  | cons c A ih =>
    have h1 := class_words c (h c (by simp))
    have h2 := ih (fun d hd => h d (by simp [hd]))
    simp only [mayC, List.flatMap_cons, List.length_append] at *
    simp only [List.length_cons]
    omega
theorem mayC_take (A : List CT) (j : Nat) (h : j < A.length) : mayC (A.take (j + 1)) = mayC (A.take j) ++ (A[j].mustL ++ A[j].mayL) := by
  unfold mayC
  rw [List.take_succ_eq_append_getElem h, List.flatMap_append]
  simp
theorem classed_none {L : List AT} (h : allC (valsS L objB) = none) : classedD L = false := by unfold classedD; rw [h]
theorem classed_not {L : List AT} {A : List CT} (h : allC (valsS L objB) = some (A, false)) : classedD L = false := by unfold classedD; rw [h]; rfl
theorem classed_must {L : List AT} {A : List CT} {s : Bool} (h : allC (valsS L objB) = some (A, s)) {c : CT} (hc : c ∈ A) {t : List UInt8} (ht : t ∈ c.mustL) (hn : hasS L t = false) : classedD L = false := by
  unfold classedD
  rw [h]
  have : A.all (fun c => c.mustL.all (hasS L)) = false := List.all_eq_false.2 ⟨c, hc, by
    simp only [Bool.not_eq_true]
    exact List.all_eq_false.2 ⟨t, ht, by rw [hn]; simp⟩⟩
  simp [this]
theorem classed_may {L : List AT} {A : List CT} {s : Bool} (h : allC (valsS L objB) = some (A, s)) {a : AT} (ha : a ∈ L) (hn : (mayC A).contains a.1 = false) : classedD L = false := by
  unfold classedD
  rw [h]
  have : L.all (fun a => (mayC A).contains a.1) = false := List.all_eq_false.2 ⟨a, ha, by rw [hn]; simp⟩
  simp only [this]
  simp
theorem classed_is {L : List AT} {A : List CT} (h : allC (valsS L objB) = some (A, true)) (h1 : ∀ c ∈ A, ∀ t ∈ c.mustL, hasS L t = true) (h2 : ∀ a ∈ L, (mayC A).contains a.1 = true) : classedD L = true := by
  unfold classedD
  rw [h]
  have e1 : A.all (fun c => c.mustL.all (hasS L)) = true := List.all_eq_true.2 (fun c hc => List.all_eq_true.2 (h1 c hc))
  have e2 : L.all (fun a => (mayC A).contains a.1) = true := List.all_eq_true.2 h2
  simp only [e1, e2]
  rfl

/-- Three lists of texts side by side. -/
theorem isTT_three {n0 : Nat} {w : World} {A1 A2 A3 : List (List UInt8)} {u1 u2 u3 : Value} (h1 : IsT w.heap.size w A1 u1) (h2 : IsT w.heap.size w A2 u2) (h3 : IsT w.heap.size w A3 u3) (e : TypeId) :
    IsTT (w.alloc (.cells #[u1, u2, u3] e)).heap.size (w.alloc (.cells #[u1, u2, u3] e)) [A1, A2, A3] (.slice (some ⟨w.heap.size, 0, none⟩) 3 3) := by
  have ha : Below w.heap.size w (w.alloc (.cells #[u1, u2, u3] e)) := (Below.refl _ _).alloc (Nat.le_refl _) _
  have hh : (w.alloc (.cells #[u1, u2, u3] e)).heap[w.heap.size]? = some (.cells #[u1, u2, u3] e (0, 0)) := heap_alloc_new w _
  refine ⟨_, _, rfl, fun j hj => ?_⟩
  match j, hj with
  | 0, _ => exact ⟨w.heap.size, 0, u1, rfl, by simp, by simp only [World.cell?, hh]; rfl, h1.below ha ha.size⟩
  | 1, _ => exact ⟨w.heap.size, 0, u2, rfl, by simp, by simp only [World.cell?, hh]; rfl, h2.below ha ha.size⟩
  | 2, _ => exact ⟨w.heap.size, 0, u3, rfl, by simp, by simp only [World.cell?, hh]; rfl, h3.below ha ha.size⟩

end Go.Proofs.YtmjgiaiccmhnfaaGreatDoor

/- schema.Check: the walk. -/
namespace Go.Proofs.YtmjgiaiccmhnfaaGreatDoor
open Go.RowKit
set_option linter.unusedVariables false

/-- An entry in a block of its own. -/
def BoxN (w : World) (b : Nat) (x : ByteArray) (u : Value) : Prop := w.heap[b]? = some (.cells #[.string x, u] 28 (0, 0))
theorem BoxN.below {w w' : World} {b n : Nat} {x : ByteArray} {u : Value} (h : BoxN w b x u) (hb : Below n w w') (hn : b < n) : BoxN w' b x u := (hb.block b hn).trans h
theorem BoxN.cells {w : World} {b : Nat} {x : ByteArray} {u : Value} (h : BoxN w b x u) : w.cell? ⟨b, 0, none⟩ = some (.string x) ∧ w.cell? ⟨b, 1, none⟩ = some u := by
  unfold BoxN at h
  simp [World.cell?, h]
theorem boxN_new (w : World) (x : ByteArray) (u : Value) : BoxN (w.alloc (.cells #[.string x, u] 28)) w.heap.size x u := heap_alloc_new w _

theorem norm_short {r : Nat} {v x : List UInt8} (h : normD r v = some x) : v.length ≤ 100 := by
  unfold normD at h
  split at h
  · cases h
  · rename_i hn
    have := not_or.1 hn
    omega
theorem norms_short {r : Nat} : ∀ {V l : List (List UInt8)}, normsS r V = some l → ∀ v ∈ V, v.length ≤ 100
  | [], l, h, v, hv => by simp at hv
  | x :: V, l, h, v, hv => by
    simp only [normsS] at h
    cases e : normD r x with
    | none => rw [e] at h; cases h
    | some y =>
      rw [e] at h
      cases e2 : normsS r V with
      | none => rw [e2] at h; cases h
      | some m =>
        rcases List.mem_cons.1 hv with rfl | hv
        · exact norm_short e
        · exact norms_short e2 v hv
theorem most_le (t : List UInt8) : mostS t ≤ 40 := by unfold mostS; split <;> omega
theorem vals_small {t : List UInt8} {V : List (List UInt8)} (h : valsC t V = 0) : V.length ≤ 40 ∧ ∀ v ∈ V, v.length ≤ 100 := by
  unfold valsC at h
  split at h
  · omega
  · rename_i hn
    have hm := most_le t
    have := not_or.1 hn
    refine ⟨by omega, ?_⟩
    cases e : normsS (ruleD t) V with
    | none => rw [e] at h; simp at h
    | some l => exact norms_short e
def soundS (A : List AT) : Prop := ∀ a ∈ A, a.2.length ≤ 40 ∧ ∀ v ∈ a.2, v.length ≤ 100
theorem sound_small : ∀ {L A B : List AT}, soundR A L = .ok B → soundS A → soundS B ∧ B.length ≤ A.length + L.length
  | [], A, B, h, hA => by simp only [soundR, Except.ok.injEq] at h; subst h; exact ⟨hA, by simp⟩
  | a :: l, A, B, h, hA => by
    simp only [soundR] at h
    cases e : canonD a.1 with
    | none => rw [e] at h; simp at h
    | some t =>
      rw [e] at h
      simp only at h
      split at h
      · simp at h
      · split at h
        · rename_i h0
          have := sound_small h (fun x hx => (List.mem_append.1 hx).elim (hA x) (fun hx => by
            rw [List.mem_singleton] at hx
            rw [hx]
            exact vals_small h0))
          exact ⟨this.1, by have := this.2; simp at this ⊢; omega⟩
        · simp at h
theorem vals_of_small {A : List AT} (h : soundS A) (t : List UInt8) : smallT (valsS A t) := by
  unfold valsS
  split
  · rename_i a ha
    have := h a (List.mem_of_find?_eq_some ha)
    exact ⟨by omega, fun v hv => by have := this.2 v hv; omega⟩
  · exact ⟨by simp, fun v hv => by simp at hv⟩
theorem key_parts {d k : List UInt8} (h : keyD d = some k) (hk : k ≠ []) : ∃ r rs, parseD d = some (r :: rs) := by
  rw [keyD_eq] at h
  cases e : parseD d with
  | none => rw [e] at h; cases h
  | some l =>
    cases l with
    | nil =>
      rw [e] at h
      exact absurd (by
        simp only [Option.bind_some, keyL] at h
        simpa [textD] using h.symm) hk
    | cons r rs => exact ⟨r, rs, rfl⟩
theorem check_none {d : List UInt8} {L : List AT} (h : keyD d = none) : checkD d L = 34 := by unfold checkD; rw [h]
theorem check_empty {d : List UInt8} {L : List AT} (h : keyD d = some []) : checkD d L = 34 := by unfold checkD; rw [h]; rfl
theorem check_many {d k : List UInt8} {L : List AT} (h : keyD d = some k) (hk : k ≠ []) (hl : 20 < L.length) : checkD d L = 19 := by unfold checkD; rw [h]; simp only; rw [if_neg hk, if_pos hl]
theorem check_sound {d k : List UInt8} {L : List AT} (h : keyD d = some k) (hk : k ≠ []) (hl : ¬ 20 < L.length) {c : Int} (hs : soundR [] L = .error c) : checkD d L = c := by unfold checkD; rw [h]; simp only; rw [if_neg hk, if_neg hl, hs]
theorem check_behind {d k : List UInt8} {L A : List AT} (h : keyD d = some k) (hk : k ≠ []) (hl : ¬ 20 < L.length) (hs : soundR [] L = .ok A) : checkD d L = behindD A d := by unfold checkD; rw [h]; simp only; rw [if_neg hk, if_neg hl, hs]

end Go.Proofs.YtmjgiaiccmhnfaaGreatDoor

/- brooklaw4.Person, awake: the walks. -/
namespace Go.Proofs.YtmjgiaiccmhnfaaGreatDoor
open Go.RowKit
set_option linter.unusedVariables false

def perL (n : List UInt8) : List AT := [([99, 110], [n]), ([111, 98, 106, 101, 99, 116, 99, 108, 97, 115, 115], [[112, 101, 114, 115, 111, 110]]), ([115, 110], [[115]])]
def perD (n : List UInt8) : List UInt8 := [99, 110, 61] ++ n ++ [44, 111, 61, 120]

/-- The blocks of a person's attributes. -/
structure PerAt (w : World) (g : Nat) (N : ByteArray) : Prop where
  b1 : w.heap[g - 3]? = some (.cells #[.string N] 9 (0, 0))
  b2 : w.heap[g - 2]? = some (.cells #[.string ⟨#[112, 101, 114, 115, 111, 110]⟩] 9 (0, 0))
  b3 : w.heap[g - 1]? = some (.cells #[.string ⟨#[115]⟩] 9 (0, 0))
  b4 : w.heap[g]? = some (.cells #[.string ⟨#[99, 110]⟩, .slice (some ⟨g - 3, 0, none⟩) 1 1, .string ⟨#[111, 98, 106, 101, 99, 116, 99, 108, 97, 115, 115]⟩, .slice (some ⟨g - 2, 0, none⟩) 1 1, .string ⟨#[115, 110]⟩, .slice (some ⟨g - 1, 0, none⟩) 1 1] 45 (0, 0))
  lt : g < w.heap.size
theorem PerAt.below {w w' : World} {g n : Nat} {N : ByteArray} (h : PerAt w g N) (hb : Below n w w') (hn : g < n) : PerAt w' g N :=
  ⟨(hb.block _ (by omega)).trans h.b1, (hb.block _ (by omega)).trans h.b2, (hb.block _ (by omega)).trans h.b3, (hb.block _ hn).trans h.b4, Nat.lt_of_lt_of_le h.lt hb.size⟩
theorem isT_block {w : World} {b n0 : Nat} {X : ByteArray} {e : TypeId} (h : w.heap[b]? = some (.cells #[.string X] e (0, 0))) (hn : b < n0) : IsT n0 w [X.data.toList] (.slice (some ⟨b, 0, none⟩) 1 1) :=
  ⟨_, _, rfl, by unfold maxLen; simp, fun j hj => by
    have : j = 0 := by simp at hj; omega
    subst this
    refine ⟨b, 0, rfl, hn, ?_⟩
    rw [show [X.data.toList][0] = X.data.toList from rfl, strV_whole]
    simp only [World.cell?, h]; rfl⟩
theorem PerAt.isA {w : World} {g : Nat} {N : ByteArray} (h : PerAt w g N) : IsA w.heap.size w (perL N.data.toList) (.slice (some ⟨g, 0, none⟩) 3 3) := by
  have hg := h.lt
  refine ⟨_, _, rfl, by unfold maxLen perL; simp, fun j hj => ?_⟩
  match j, hj with
  | 0, _ => exact ⟨g, 0, _, rfl, hg, by simp only [World.cell?, h.b4]; rfl, by simp only [World.cell?, h.b4]; rfl, isT_block h.b1 (by omega)⟩
  | 1, _ => exact ⟨g, 0, _, rfl, hg, by simp only [World.cell?, h.b4]; rfl, by simp only [World.cell?, h.b4]; rfl, isT_block h.b2 (by omega)⟩
  | 2, _ => exact ⟨g, 0, _, rfl, hg, by simp only [World.cell?, h.b4]; rfl, by simp only [World.cell?, h.b4]; rfl, isT_block h.b3 (by omega)⟩

theorem PerAt.cells {w : World} {g : Nat} {N : ByteArray} (h : PerAt w g N) : w.cell? ⟨g, 2, none⟩ = some (.string ⟨#[111, 98, 106, 101, 99, 116, 99, 108, 97, 115, 115]⟩) ∧ w.cell? ⟨g, 3, none⟩ = some (.slice (some ⟨g - 2, 0, none⟩) 1 1) ∧ w.cell? ⟨g, 4, none⟩ = some (.string ⟨#[115, 110]⟩) ∧ w.cell? ⟨g, 5, none⟩ = some (.slice (some ⟨g - 1, 0, none⟩) 1 1) :=
  ⟨by simp only [World.cell?, h.b4]; rfl, by simp only [World.cell?, h.b4]; rfl, by simp only [World.cell?, h.b4]; rfl, by simp only [World.cell?, h.b4]; rfl⟩
theorem per_blocks (w : World) (N : ByteArray) (o : Obj) : PerAt (((((w.alloc o).alloc (.cells #[.string N] 9)).alloc (.cells #[.string ⟨#[112, 101, 114, 115, 111, 110]⟩] 9)).alloc (.cells #[.string ⟨#[115]⟩] 9)).alloc (.cells #[.string ⟨#[99, 110]⟩, .slice (some ⟨w.heap.size + 1, 0, none⟩) 1 1, .string ⟨#[111, 98, 106, 101, 99, 116, 99, 108, 97, 115, 115]⟩, .slice (some ⟨w.heap.size + 1 + 1, 0, none⟩) 1 1, .string ⟨#[115, 110]⟩, .slice (some ⟨w.heap.size + 1 + 1 + 1, 0, none⟩) 1 1] 45)) (w.heap.size + 4) N := by
  have s1 : (w.alloc o).heap.size = w.heap.size + 1 := by simp
  have e1 := heap_alloc_new (w.alloc o) (.cells #[.string N] 9)
  rw [s1] at e1
  generalize w.alloc o = W1 at s1 e1 ⊢
  have s2 : (W1.alloc (.cells #[.string N] 9)).heap.size = w.heap.size + 2 := by simp; omega
  have e2 := heap_alloc_new (W1.alloc (.cells #[.string N] 9)) (.cells #[.string ⟨#[112, 101, 114, 115, 111, 110]⟩] 9)
  rw [s2] at e2
  generalize W1.alloc (.cells #[.string N] 9) = W2 at s2 e1 e2 ⊢
  have s3 : (W2.alloc (.cells #[.string ⟨#[112, 101, 114, 115, 111, 110]⟩] 9)).heap.size = w.heap.size + 3 := by simp; omega
  have f1 := (heap_alloc_old W2 (.cells #[.string ⟨#[112, 101, 114, 115, 111, 110]⟩] 9) (show w.heap.size + 1 < W2.heap.size by omega)).trans e1
  have e3 := heap_alloc_new (W2.alloc (.cells #[.string ⟨#[112, 101, 114, 115, 111, 110]⟩] 9)) (.cells #[.string ⟨#[115]⟩] 9)
  rw [s3] at e3
  generalize W2.alloc (.cells #[.string ⟨#[112, 101, 114, 115, 111, 110]⟩] 9) = W3 at s3 e2 e3 f1 ⊢
  have s4 : (W3.alloc (.cells #[.string ⟨#[115]⟩] 9)).heap.size = w.heap.size + 4 := by simp; omega
  have g1 := (heap_alloc_old W3 (.cells #[.string ⟨#[115]⟩] 9) (show w.heap.size + 1 < W3.heap.size by omega)).trans f1
  have g2 := (heap_alloc_old W3 (.cells #[.string ⟨#[115]⟩] 9) (show w.heap.size + 2 < W3.heap.size by omega)).trans e2
  generalize W3.alloc (.cells #[.string ⟨#[115]⟩] 9) = W4 at s4 e3 g1 g2 ⊢
  generalize hO : Obj.cells #[.string ⟨#[99, 110]⟩, .slice (some ⟨w.heap.size + 1, 0, none⟩) 1 1, .string ⟨#[111, 98, 106, 101, 99, 116, 99, 108, 97, 115, 115]⟩, .slice (some ⟨w.heap.size + 1 + 1, 0, none⟩) 1 1, .string ⟨#[115, 110]⟩, .slice (some ⟨w.heap.size + 1 + 1 + 1, 0, none⟩) 1 1] 45 = O
  have e4 := heap_alloc_new W4 O
  rw [s4] at e4
  have k1 := (heap_alloc_old W4 O (show w.heap.size + 1 < W4.heap.size by omega)).trans g1
  have k2 := (heap_alloc_old W4 O (show w.heap.size + 2 < W4.heap.size by omega)).trans g2
  have k3 := (heap_alloc_old W4 O (show w.heap.size + 3 < W4.heap.size by omega)).trans e3
  exact ⟨k1, k2, k3, by rw [e4, ← hO]; rfl, by simp; omega⟩

theorem perAt_set {w : World} {g b : Nat} {N : ByteArray} {i : Nat} {x : Value} (h : PerAt w g N) (hb : b < g - 3) : PerAt (w.setCell ⟨b, i, none⟩ x) g N :=
  ⟨(block_ne w _ _ (show g - 3 ≠ b by omega)).trans h.b1, (block_ne w _ _ (show g - 2 ≠ b by omega)).trans h.b2, (block_ne w _ _ (show g - 1 ≠ b by omega)).trans h.b3, (block_ne w _ _ (show g ≠ b by omega)).trans h.b4, by rw [lt_set]; exact h.lt⟩

set_option maxRecDepth 100000 in
set_option maxHeartbeats 4000000 in
theorem person_any (N : ByteArray) (hN : N.size ≤ 1000) (w : World) : Calls Tryz.prog 29 #[.string N] w fun e w' => ∃ D g, e = .returned (.agg #[.string D, .slice (some ⟨g, 0, none⟩) 3 3]) ∧ D.data.toList = perD N.data.toList ∧ PerAt w' g N ∧ w.heap.size + 4 = g ∧ Below w.heap.size w w' := by
  obtain ⟨T, hT⟩ : ∃ T, (⟨#[99, 110, 61]⟩ : ByteArray) ++ N = T := ⟨_, rfl⟩
  obtain ⟨D, hD⟩ : ∃ D, T ++ (⟨#[44, 111, 61, 120]⟩ : ByteArray) = D := ⟨_, rfl⟩
  have hTs : T.size = 3 + N.size := by rw [← hT, ← bytes_len, app_list, List.length_append, bytes_len, bytes_len]; rfl
  have hDl : D.data.toList = perD N.data.toList := by rw [← hD, ← hT, app_list, app_list]; rfl
  have q1 : 3 + N.size ≤ 9223372036854775807 := by omega
  have q2 : T.size + 4 ≤ 9223372036854775807 := by omega
  have HDl := Lib.hid hDl
  have HP := Lib.hid (fun o => per_blocks w N o)
  have HB := Lib.hid (fun o => ((((((Below.refl w.heap.size w).alloc (Nat.le_refl _) o).alloc (by simp) (.cells #[.string N] 9)).alloc (by simp; omega) (.cells #[.string ⟨#[112, 101, 114, 115, 111, 110]⟩] 9)).alloc (by simp; omega) (.cells #[.string ⟨#[115]⟩] 9)).alloc (by simp; omega) (.cells #[.string ⟨#[99, 110]⟩, .slice (some ⟨w.heap.size + 1, 0, none⟩) 1 1, .string ⟨#[111, 98, 106, 101, 99, 116, 99, 108, 97, 115, 115]⟩, .slice (some ⟨w.heap.size + 1 + 1, 0, none⟩) 1 1, .string ⟨#[115, 110]⟩, .slice (some ⟨w.heap.size + 1 + 1 + 1, 0, none⟩) 1 1] 45)))
  clear hTs hDl
  go_enter Tryz.func29, Tryz.ntmps29
  go_wp2
  refine bodyPost_ret (v := .agg #[.string D, .slice (some ⟨w.heap.size + 4, 0, none⟩) 3 3]) (by simp [results, Tryz.results29, go_sem]) rfl ⟨D, w.heap.size + 4, rfl, HDl.out, ?_, rfl, ?_⟩
  · exact HP.out _
  · exact HB.out _

theorem awake_0 : checkD [] [] = 34 := by decide +kernel
theorem awake_1 : checkD (perD [97, 110, 110]) (perL [97, 110, 110]) = 0 := by decide +kernel
theorem awake_2 : checkD [99, 110, 61, 97, 110, 110] [] = 65 := by decide +kernel

end Go.Proofs.YtmjgiaiccmhnfaaGreatDoor

/- EvalOrder: what eval tells of one number and of one text, as functions. No program. -/
namespace Go.Proofs.YtmjgiaiccmhnfaaGreatDoor
set_option linter.unusedVariables false
set_option linter.unusedSimpArgs false

theorem foldl_plain : ∀ (l out : List UInt8), (∀ c ∈ l, c.toNat ≠ 32) → l.foldl fstep (out, false) = (out ++ low l, false)
  | [], out, _ => by simp [low]
  | c :: r, out, h => by
    have hc := h c (by simp)
    show r.foldl fstep (fstep (out, false) c) = _
    have hs : fstep (out, false) c = (out ++ [lowC c], false) := by unfold fstep; rw [if_neg hc]; simp
    rw [hs, foldl_plain r _ (fun x hx => h x (by simp [hx]))]
    simp [low]
theorem fold_plainE {l : List UInt8} (h : ∀ c ∈ l, c.toNat ≠ 32) : fold l = low l := by
  unfold fold frun
  rw [foldl_plain l [] h]
  simp
theorem low_plainE {l : List UInt8} (h : ∀ c ∈ l, lowC c = c) : low l = l := by
  unfold low
  induction l with
  | nil => rfl
  | cons c r ih => rw [List.map_cons, h c (by simp), ih (fun x hx => h x (by simp [hx]))]
def numOk (c : UInt8) : Bool := !(c == 45 || (decide (48 ≤ c.toNat) && decide (c.toNat ≤ 57))) || (lowC c == c && decide (c.toNat ≠ 32))
theorem num_ok (c : UInt8) : numOk c = true := all_bytes numOk (by decide +kernel) c
theorem itoa_plain (m : Int) : ∀ c ∈ Lib.itoa m, lowC c = c ∧ c.toNat ≠ 32 := fun c hc => by
  have h := num_ok c
  unfold numOk at h
  rcases itoa_chars m c hc with h1 | h1
  · subst h1; decide
  · simp only [Bool.or_eq_true, Bool.not_eq_true', Bool.and_eq_true, decide_eq_true_eq, beq_iff_eq, Bool.or_eq_false_iff, Bool.and_eq_false_iff] at h
    rcases h with h | h
    · obtain ⟨_, h | h⟩ := h <;> simp at h <;> omega
    · exact h
theorem fold_c (m : Int) (x : UInt8) (hx : x = 99 ∨ x = 67) : fold (x :: Lib.itoa m) = 99 :: Lib.itoa m := by
  have hp := itoa_plain m
  rw [fold_plainE (fun c hc => by
    rcases List.mem_cons.1 hc with h | h
    · subst h; rcases hx with h | h <;> subst h <;> decide
    · exact (hp c h).2)]
  show lowC x :: low (Lib.itoa m) = _
  rw [low_plainE (fun c hc => (hp c hc).1)]
  rcases hx with h | h <;> subst h <;> rfl
def ordL (m : Int) : List AT := [([117, 105, 100, 110, 117, 109, 98, 101, 114], [Lib.itoa m]), ([99, 110], [99 :: Lib.itoa m])]
theorem ord_small {m : Int} (h : m.natAbs < 1000000000000000) : smallA (ordL m) := by
  have := itoa_len m h
  refine ⟨by simp [ordL], fun a ha => ?_⟩
  simp only [ordL, List.mem_cons, List.not_mem_nil, or_false] at ha
  rcases ha with rfl | rfl
  · refine ⟨by simp, by simp, fun s hs => ?_⟩
    simp only [List.mem_singleton] at hs
    subst hs
    omega
  · refine ⟨by simp, by simp, fun s hs => ?_⟩
    simp only [List.mem_singleton] at hs
    subst hs
    simp
    omega
abbrev uidN : List UInt8 := [117, 105, 100, 78, 117, 109, 98, 101, 114]
theorem find_uid (m : Int) : findA (ordL m) uidN = [Lib.itoa m] := rfl
theorem find_cn (m : Int) : findA (ordL m) [99, 110] = [99 :: Lib.itoa m] := rfl
theorem rule_uid : ruleD uidN = 2 := by decide +kernel
theorem rule_cn : ruleD [99, 110] = 1 := by decide +kernel
theorem norm_uid {m : Int} (h : m.natAbs < 1000000000000000) : normD 2 (Lib.itoa m) = some (Lib.itoa m) := by
  have h1 := itoa_len m h
  have h2 := itoa_ne m
  unfold normD
  rw [if_neg (by intro e; rcases e with e | e; exact h2 e; omega), if_neg (by decide), if_pos rfl, numD_itoa m h]
  rfl
theorem norm_cn {m : Int} (h : m.natAbs < 1000000000000000) (x : UInt8) (hx : x = 99 ∨ x = 67) : normD 1 (x :: Lib.itoa m) = some (99 :: Lib.itoa m) := by
  have h1 := itoa_len m h
  unfold normD
  rw [if_neg (by simp; omega), if_pos rfl, fold_c m x hx, if_neg (by simp)]
theorem lessE_uid {m n : Int} (hm : m.natAbs < 1000000000000000) (hn : n.natAbs < 1000000000000000) : lessD 2 (Lib.itoa m) (Lib.itoa n) = some (decide (m < n)) := by
  unfold lessD
  rw [norm_uid hm, norm_uid hn, numD_itoa m hm, numD_itoa n hn]
  rfl
theorem lessE_cn {m n : Int} (hm : m.natAbs < 1000000000000000) (hn : n.natAbs < 1000000000000000) (x y : UInt8) (hx : x = 99 ∨ x = 67) (hy : y = 99 ∨ y = 67) : lessD 1 (x :: Lib.itoa m) (y :: Lib.itoa n) = some (Op.bytesLess (99 :: Lib.itoa m) (99 :: Lib.itoa n)) := by
  unfold lessD
  rw [norm_cn hm x hx, norm_cn hn y hy]
  rfl
theorem may_leaf (k : Int) (hk : k = 4 ∨ k = 6 ∨ k = 7) (t x : List UInt8) (ht : okType t = true) (hx : x.length ≤ 100) : mayF 13 (.mk k t x [] []) = true := by
  have hh : holdsC k = false := by unfold holdsC; rcases hk with rfl | rfl | rfl <;> rfl
  show (if holdsC k = true then _ else okLeaf k t x [] ([] : List FT).length) = true
  rw [hh, if_neg (by decide)]
  unfold okLeaf
  rw [ht, if_pos hk, decide_eq_true hx]
  rfl
theorem evalD_leaf (L : List AT) (k : Int) (hk : k = 4 ∨ k = 6 ∨ k = 7) (t x : List UInt8) (ht : okType t = true) (hx : x.length ≤ 100) : evalD L (.mk k t x [] []) = leafE L k t x [] := by
  unfold evalD
  rw [if_pos (may_leaf k hk t x ht hx), evF, if_neg (by omega), if_neg (by omega), if_neg (by omega)]
def bN (b : Bool) : Nat := if b then 1 else 0
theorem uid_eq {m n : Int} (hm : m.natAbs < 1000000000000000) (hn : n.natAbs < 1000000000000000) : evalD (ordL m) (.mk 4 uidN (Lib.itoa n) [] []) = bN (decide (m = n)) := by
  have hl := itoa_len n hn
  rw [evalD_leaf _ 4 (by decide) _ _ (by decide +kernel) (by omega)]
  unfold leafE askE fitE hasA
  rw [find_uid, if_pos rfl, if_pos rfl, rule_uid, norm_uid hn]
  simp only [Option.isSome_some, if_true, List.any_cons, List.any_nil, Bool.or_false]
  unfold likeB
  rw [rule_uid, norm_uid hn, norm_uid hm]
  have : sameO (some (Lib.itoa m)) (some (Lib.itoa n)) = decide (m = n) := by
    rw [Bool.eq_iff_iff]
    simp only [sameO, beq_iff_eq, decide_eq_true_eq]
    exact ⟨itoa_inj hm, fun e => by rw [e]⟩
  rw [this]
  rfl
theorem uid_ge {m n : Int} (hm : m.natAbs < 1000000000000000) (hn : n.natAbs < 1000000000000000) : evalD (ordL m) (.mk 6 uidN (Lib.itoa n) [] []) = bN (!decide (m < n)) := by
  have hl := itoa_len n hn
  rw [evalD_leaf _ 6 (by decide) _ _ (by decide +kernel) (by omega)]
  unfold leafE askE fitE
  rw [find_uid, rule_uid, lessE_uid hn hn]
  simp only [show ¬ ((6 : Int) = 4) from by decide, if_false, true_or, if_true, Option.isSome_some, List.any_cons, List.any_nil, Bool.or_false]
  unfold aboveE
  rw [lessE_uid hm hn]
  cases decide (m < n) <;> rfl
theorem uid_le {m n : Int} (hm : m.natAbs < 1000000000000000) (hn : n.natAbs < 1000000000000000) : evalD (ordL m) (.mk 7 uidN (Lib.itoa n) [] []) = bN (!decide (n < m)) := by
  have hl := itoa_len n hn
  rw [evalD_leaf _ 7 (by decide) _ _ (by decide +kernel) (by omega)]
  unfold leafE askE fitE
  rw [find_uid, rule_uid, lessE_uid hn hn]
  simp only [show ¬ ((7 : Int) = 4) from by decide, show ¬ ((7 : Int) = 6) from by decide, if_false, false_or, or_true, if_true, Option.isSome_some, List.any_cons, List.any_nil, Bool.or_false]
  unfold aboveE
  rw [lessE_uid hn hm]
  cases decide (n < m) <;> rfl
theorem cn_eq {m n : Int} (hm : m.natAbs < 1000000000000000) (hn : n.natAbs < 1000000000000000) : evalD (ordL m) (.mk 4 [99, 110] (67 :: Lib.itoa n) [] []) = bN (decide (m = n)) := by
  have hl := itoa_len n hn
  rw [evalD_leaf _ 4 (by decide) _ _ (by decide +kernel) (by simp; omega)]
  unfold leafE askE fitE hasA
  rw [find_cn, if_pos rfl, if_pos rfl, rule_cn, norm_cn hn 67 (.inr rfl)]
  simp only [Option.isSome_some, if_true, List.any_cons, List.any_nil, Bool.or_false]
  unfold likeB
  rw [rule_cn, norm_cn hn 67 (.inr rfl), norm_cn hm 99 (.inl rfl)]
  have : sameO (some (99 :: Lib.itoa m)) (some (99 :: Lib.itoa n)) = decide (m = n) := by
    rw [Bool.eq_iff_iff]
    simp only [sameO, beq_iff_eq, decide_eq_true_eq, List.cons.injEq, true_and]
    exact ⟨itoa_inj hm, fun e => by rw [e]⟩
  rw [this]
  rfl
theorem cn_ge {m n : Int} (hm : m.natAbs < 1000000000000000) (hn : n.natAbs < 1000000000000000) : evalD (ordL m) (.mk 6 [99, 110] (67 :: Lib.itoa n) [] []) = bN (!Op.bytesLess (99 :: Lib.itoa m) (99 :: Lib.itoa n)) := by
  have hl := itoa_len n hn
  rw [evalD_leaf _ 6 (by decide) _ _ (by decide +kernel) (by simp; omega)]
  unfold leafE askE fitE
  rw [find_cn, rule_cn, lessE_cn hn hn 67 67 (.inr rfl) (.inr rfl)]
  simp only [show ¬ ((6 : Int) = 4) from by decide, if_false, true_or, if_true, Option.isSome_some, List.any_cons, List.any_nil, Bool.or_false]
  unfold aboveE
  rw [lessE_cn hm hn 99 67 (.inl rfl) (.inr rfl)]
  cases Op.bytesLess (99 :: Lib.itoa m) (99 :: Lib.itoa n) <;> rfl
theorem cn_le {m n : Int} (hm : m.natAbs < 1000000000000000) (hn : n.natAbs < 1000000000000000) : evalD (ordL m) (.mk 7 [99, 110] (67 :: Lib.itoa n) [] []) = bN (!Op.bytesLess (99 :: Lib.itoa n) (99 :: Lib.itoa m)) := by
  have hl := itoa_len n hn
  rw [evalD_leaf _ 7 (by decide) _ _ (by decide +kernel) (by simp; omega)]
  unfold leafE askE fitE
  rw [find_cn, rule_cn, lessE_cn hn hn 67 67 (.inr rfl) (.inr rfl)]
  simp only [show ¬ ((7 : Int) = 4) from by decide, show ¬ ((7 : Int) = 6) from by decide, if_false, false_or, or_true, if_true, Option.isSome_some, List.any_cons, List.any_nil, Bool.or_false]
  unfold aboveE
  rw [lessE_cn hn hm 67 99 (.inr rfl) (.inl rfl)]
  cases Op.bytesLess (99 :: Lib.itoa n) (99 :: Lib.itoa m) <;> rfl
theorem awE_1 : evalD [] (.mk 1 [] [] [] []) = 1 := by decide +kernel
theorem awE_2 : evalD (perL [97, 110, 110]) (.mk 4 [99, 110] [65, 78, 78] [] []) = 1 := by decide +kernel
end Go.Proofs.YtmjgiaiccmhnfaaGreatDoor

/- brooklaw7.awake: the walk. -/
namespace Go.Proofs.YtmjgiaiccmhnfaaGreatDoor
open Go.RowKit
set_option linter.unusedVariables false
set_option linter.unusedSimpArgs false

theorem isFl_leafE (ok : Nat → Prop) (w : World) (k : Int) (T X : ByteArray) (hk : (Lit.int .i64 k).wf = true) (hT : T.size ≤ 1000000) (hX : X.size ≤ 1000000) : IsFl ok w (.mk k T.data.toList X.data.toList [] []) (.agg #[.int .i64 k, .string T, .string X, .slice none 0 0, .slice none 0 0]) := by
  have hs : ∀ A : ByteArray, Value.string A = strV A.data.toList := fun A => congrArg Value.string (bytes_ext (ofL_list _).symm)
  rw [hs T, hs X]
  exact ⟨.slice none 0 0, none, 0, rfl, hk, by rw [bytes_len]; unfold maxLen; omega, by rw [bytes_len]; unfold maxLen; omega, ⟨none, 0, rfl, Nat.zero_le _, fun j h => absurd h (Nat.not_lt_zero _)⟩, Nat.zero_le _, trivial⟩
theorem per_small : smallA (perL [97, 110, 110]) := by
  refine ⟨by decide, fun a ha => ?_⟩
  simp only [perL, List.mem_cons, List.not_mem_nil, or_false] at ha
  rcases ha with rfl | rfl | rfl <;> exact ⟨by decide, by decide, fun s hs => by simp only [List.mem_singleton] at hs; subst hs; decide⟩
set_option maxRecDepth 100000 in
set_option maxHeartbeats 4000000 in
theorem awake7_any (w : World) (hw : LaidW w) (hx : LaidX w) : Calls Tryz.prog 15 #[] w fun e w' => e = .returned (.bool true) ∧ Below w.heap.size w w' := by
  have h1 := evalP_any (.mk 1 [] [] [] []) (.agg #[.int .i64 1, .string ⟨#[]⟩, .string ⟨#[]⟩, .slice none 0 0, .slice none 0 0]) [] ⟨#[]⟩ none 0 0 w (isFl_leafE _ _ 1 ⟨#[]⟩ ⟨#[]⟩ (by decide) (by decide) (by decide)) ⟨by simp, by simp⟩ hw hx (isA_nil _ _ _ _)
  rw [awE_1, show ((1 : Nat) : Int) = 1 from rfl] at h1
  have h2 := fun (W : World) (D : ByteArray) (g : Nat) (hW : LaidW W) (hX : LaidX W) (hA : IsA W.heap.size W (perL [97, 110, 110]) (.slice (some ⟨g, 0, none⟩) 3 3)) => evalP_any (.mk 4 [99, 110] [65, 78, 78] [] []) (.agg #[.int .i64 4, .string ⟨#[99, 110]⟩, .string ⟨#[65, 78, 78]⟩, .slice none 0 0, .slice none 0 0]) (perL [97, 110, 110]) D (some ⟨g, 0, none⟩) 3 3 W (isFl_leafE _ _ 4 ⟨#[99, 110]⟩ ⟨#[65, 78, 78]⟩ (by decide) (by decide) (by decide)) per_small hW hX hA
  rw [awE_2, show ((1 : Nat) : Int) = 1 from rfl] at h2
  have H1 := Lib.hid h1
  have H2 := Lib.hid h2
  have HW := Lib.hid hw
  have HX := Lib.hid hx
  have HPe := Lib.hid (fun W => person_any ⟨#[97, 110, 110]⟩ (by decide) W)
  have tok1 : True := trivial
  clear h1 h2 hw hx
  go_enter Tryz.func15, Tryz.ntmps15
  go_wp2_with (first
    | (have _t := tok1; go_at_call 13; ((with_reducible refine (H1.out).mono ?_); rintro e w2 ⟨rfl, hb2⟩); have HB2 := Lib.hid hb2; clear hb2 _t; clear tok1)
    | (go_at_call 29; ((with_reducible refine (HPe.out _).mono ?_); rintro e w3 ⟨D, g, rfl, hD, hp, hg, hb3⟩; have HB3 := Lib.hid (bthen HB2.out hb3); have HP := Lib.hid hp.isA; clear hb3 hp hg hD))
    | (go_at_call 13; ((with_reducible refine (H2.out _ _ _ (HW.out.below HB3.out) (HX.out.below HB3.out) HP.out).mono ?_); rintro e w4 ⟨rfl, hb4⟩); have HB4 := Lib.hid (bthen HB3.out hb4); clear hb4))
  go_ret
  exact ⟨rfl, HB4.out⟩
end Go.Proofs.YtmjgiaiccmhnfaaGreatDoor

/- The document's Digits: the walk. -/
namespace Go.Proofs.YtmjgiaiccmhnfaaGreatDoor
open Go.RowKit
set_option linter.unusedVariables false

theorem conv_one (m : Int) (b : UInt8) (h : (b.toNat : Int) = m) (w : World) : (convert 34 9 (.slice (some ⟨w.heap.size, 0, none⟩) 1 1)).run Tryz.prog (w.alloc (.cells #[.int .u8 m] 5)) = .ok (.string (ofL [b])) (w.alloc (.cells #[.int .u8 m] 5)) := by
  subst h
  refine run_convert_bytes_back _ 34 9 5 _ 1 [b] Tryz.underlying34 Tryz.underlying5 Tryz.underlying9 fun j hj => ?_
  have : j = 0 := by simp at hj; omega
  subst this
  simp [Addr.add]
theorem decDigits_big {u : Nat} (h : 10 ≤ u) : Lib.decDigits u = Lib.decDigits (u / 10) ++ [UInt8.ofNat (48 + u % 10)] := by rw [Lib.decDigits, dif_neg (by omega)]
theorem digit_val (u : Nat) : ((UInt8.ofNat (48 + u % 10)).toNat : Int) = 48 + (u : Int) % 10 := by simp; omega
theorem digit_val1 (u : Nat) (h : u < 10) : ((UInt8.ofNat (48 + u)).toNat : Int) = 48 + (u : Int) := by simp; omega

theorem wrap_u64 (n : Int) : IntKind.u64.wrap n = n % 18446744073709551616 := by
  unfold IntKind.wrap
  simp [IntKind.bits, IntKind.signed]
set_option maxRecDepth 100000 in
set_option maxHeartbeats 4000000 in
theorem digitsNat_any (neg : Bool) (N : Nat) (hN : N ≤ 1000000000000000000) (hneg : neg = true → 1 ≤ N) (w : World) :
    Calls Tryz.prog 23 #[.int .i64 (if neg then -(N : Int) else N)] w fun e w' => e = .returned (.string (ofL (if neg then 45 :: Lib.decDigits N else Lib.decDigits N))) ∧ Below w.heap.size w w' := by
  have hlen : (Lib.decDigits N).length ≤ 21 := by
    have := Lib.itoa_length_le (N : Int) (by omega) (by omega)
    rw [Lib.itoa_nonneg] at this
    exact this
  obtain ⟨V, hV⟩ : ∃ V, V = (if neg then -(N : Int) else N) := ⟨_, rfl⟩
  rw [← hV]
  obtain ⟨U, hU⟩ : ∃ U, IntKind.u64.wrap V = U := ⟨_, rfl⟩
  have key : decide (V < 0) = neg ∧ (neg = true → IntKind.u64.wrap (-U) = N) ∧ (neg = false → U = N) := by
    cases neg with
    | false =>
      simp at hV
      refine ⟨by simp; omega, by simp, fun _ => ?_⟩
      rw [← hU, hV]; simp only [wrap_u64]; omega
    | true =>
      simp at hV
      have := hneg rfl
      refine ⟨by simp; omega, fun _ => ?_, by simp⟩
      rw [← hU, hV]; simp only [wrap_u64]; omega
  obtain ⟨k1, k2, k3⟩ := key
  clear hV
  have HLen := Lib.hid hlen
  clear hlen
  cases neg with
  | false =>
    have hUN := k3 rfl
    clear k3 k2 hneg
    subst hUN
    go_enter Tryz.func23, Tryz.ntmps23
    go_wp2
    go_loopw [3, 4] (fun u s wr => ∃ (m : Nat) (D : List UInt8), u = .int .u64 m ∧ s = .string (ofL D) ∧ m ≤ 1000000000000000000 ∧ Hid (Lib.decDigits N = Lib.decDigits m ++ D) ∧ D.length ≤ 21 ∧ Below w.heap.size w wr) (fun u _ _ => (intOf u).toNat)
    case atStart => exact ⟨N, [], rfl, rfl, hN, Lib.hid (by simp), by simp, Below.refl _ _⟩
    case round =>
      obtain ⟨m, D, rfl, rfl, hm, HD, hDl, hbel⟩ := hrel
      have HBel := Lib.hid hbel
      have hsz := hbel.size
      clear hbel
      have hs1 := ofL_size D
      by_cases h10 : 10 ≤ m
      · have t1 : decide ((10 : Int) ≤ (m : Int)) = true := by simp; omega
        have hcv := conv_one (48 + (m : Int) % 10) (UInt8.ofNat (48 + m % 10)) (digit_val m) wr
        have hnew : Lib.decDigits N = Lib.decDigits (m / 10) ++ (UInt8.ofNat (48 + m % 10) :: D) := by rw [HD.out, decDigits_big h10]; simp
        have hl2 : (UInt8.ofNat (48 + m % 10) :: D).length ≤ 21 := by have := HLen.out; rw [hnew] at this; simp at this ⊢; omega
        have HNew := Lib.hid hnew
        have hs2 := ofL_size [UInt8.ofNat (48 + m % 10)]
        have hap : ofL [UInt8.ofNat (48 + m % 10)] ++ ofL D = ofL (UInt8.ofNat (48 + m % 10) :: D) := ofL_app _ _
        have hs1' : (ofL D).size ≤ 21 := by omega
        have hs2' : (ofL [UInt8.ofNat (48 + m % 10)]).size ≤ 1 := by rw [hs2]; simp
        have HAp := Lib.hid hap
        clear hnew hs1 hs2 hap
        generalize UInt8.ofNat (48 + m % 10) = b at *
        go_wp2
        go_roundw
        case rel => exact ⟨m / 10, b :: D, by go_num, by rw [HAp.out], by omega, HNew, hl2, HBel.out.alloc hsz _⟩
        case measure => simp [intOf]; omega
      · have t1 : decide ((10 : Int) ≤ (m : Int)) = false := by simp; omega
        have hcv := conv_one (48 + (m : Int)) (UInt8.ofNat (48 + m)) (digit_val1 m (by omega)) wr
        have hnew : Lib.decDigits N = UInt8.ofNat (48 + m) :: D := by rw [HD.out, Lib.decDigits_one (by omega)]; rfl
        have hs2 := ofL_size [UInt8.ofNat (48 + m)]
        have hap : ofL [UInt8.ofNat (48 + m)] ++ ofL D = ofL (Lib.decDigits N) := by rw [ofL_app, hnew]; rfl
        have hs1' : (ofL D).size ≤ 21 := by omega
        have hs2' : (ofL [UInt8.ofNat (48 + m)]).size ≤ 1 := by rw [hs2]; simp
        have hs3 : (ofL (Lib.decDigits N)).size ≤ 21 := by rw [ofL_size]; exact HLen.out
        have hs4 : (⟨#[45]⟩ : ByteArray).size = 1 := rfl
        have hap2 : (⟨#[45]⟩ : ByteArray) ++ ofL (Lib.decDigits N) = ofL (45 :: Lib.decDigits N) := ofL_app [45] _
        have HAp2 := Lib.hid hap2
        clear hnew hs1 hs2 hap2
        generalize UInt8.ofNat (48 + m) = b at *
        obtain ⟨R, hR⟩ : ∃ R, R = ofL (Lib.decDigits N) := ⟨_, rfl⟩
        rw [← hR] at hap hs3 HAp2
        have HR := Lib.hid hR
        clear hR
        go_wp2
        go_ret
        exact ⟨by rw [← HR.out]; rfl, HBel.out.alloc hsz _⟩
  | true =>
    have hN1 := hneg rfl
    have k2' := k2 rfl
    clear k3 k2 hneg
    go_enter Tryz.func23, Tryz.ntmps23
    go_wp2
    go_loopw [3, 4] (fun u s wr => ∃ (m : Nat) (D : List UInt8), u = .int .u64 m ∧ s = .string (ofL D) ∧ m ≤ 1000000000000000000 ∧ Hid (Lib.decDigits N = Lib.decDigits m ++ D) ∧ D.length ≤ 21 ∧ Below w.heap.size w wr) (fun u _ _ => (intOf u).toNat)
    case atStart => exact ⟨N, [], rfl, rfl, hN, Lib.hid (by simp), by simp, Below.refl _ _⟩
    case round =>
      obtain ⟨m, D, rfl, rfl, hm, HD, hDl, hbel⟩ := hrel
      have HBel := Lib.hid hbel
      have hsz := hbel.size
      clear hbel
      have hs1 := ofL_size D
      by_cases h10 : 10 ≤ m
      · have t1 : decide ((10 : Int) ≤ (m : Int)) = true := by simp; omega
        have hcv := conv_one (48 + (m : Int) % 10) (UInt8.ofNat (48 + m % 10)) (digit_val m) wr
        have hnew : Lib.decDigits N = Lib.decDigits (m / 10) ++ (UInt8.ofNat (48 + m % 10) :: D) := by rw [HD.out, decDigits_big h10]; simp
        have hl2 : (UInt8.ofNat (48 + m % 10) :: D).length ≤ 21 := by have := HLen.out; rw [hnew] at this; simp at this ⊢; omega
        have HNew := Lib.hid hnew
        have hs2 := ofL_size [UInt8.ofNat (48 + m % 10)]
        have hap : ofL [UInt8.ofNat (48 + m % 10)] ++ ofL D = ofL (UInt8.ofNat (48 + m % 10) :: D) := ofL_app _ _
        have hs1' : (ofL D).size ≤ 21 := by omega
        have hs2' : (ofL [UInt8.ofNat (48 + m % 10)]).size ≤ 1 := by rw [hs2]; simp
        have HAp := Lib.hid hap
        clear hnew hs1 hs2 hap
        generalize UInt8.ofNat (48 + m % 10) = b at *
        go_wp2
        go_roundw
        case rel => exact ⟨m / 10, b :: D, by go_num, by rw [HAp.out], by omega, HNew, hl2, HBel.out.alloc hsz _⟩
        case measure => simp [intOf]; omega
      · have t1 : decide ((10 : Int) ≤ (m : Int)) = false := by simp; omega
        have hcv := conv_one (48 + (m : Int)) (UInt8.ofNat (48 + m)) (digit_val1 m (by omega)) wr
        have hnew : Lib.decDigits N = UInt8.ofNat (48 + m) :: D := by rw [HD.out, Lib.decDigits_one (by omega)]; rfl
        have hs2 := ofL_size [UInt8.ofNat (48 + m)]
        have hap : ofL [UInt8.ofNat (48 + m)] ++ ofL D = ofL (Lib.decDigits N) := by rw [ofL_app, hnew]; rfl
        have hs1' : (ofL D).size ≤ 21 := by omega
        have hs2' : (ofL [UInt8.ofNat (48 + m)]).size ≤ 1 := by rw [hs2]; simp
        have hs3 : (ofL (Lib.decDigits N)).size ≤ 21 := by rw [ofL_size]; exact HLen.out
        have hs4 : (⟨#[45]⟩ : ByteArray).size = 1 := rfl
        have hap2 : (⟨#[45]⟩ : ByteArray) ++ ofL (Lib.decDigits N) = ofL (45 :: Lib.decDigits N) := ofL_app [45] _
        have HAp2 := Lib.hid hap2
        clear hnew hs1 hs2 hap2
        generalize UInt8.ofNat (48 + m) = b at *
        obtain ⟨R, hR⟩ : ∃ R, R = ofL (Lib.decDigits N) := ⟨_, rfl⟩
        rw [← hR] at hap hs3 HAp2
        have HR := Lib.hid hR
        clear hR
        go_wp2
        go_ret
        exact ⟨by rw [HAp2.out]; rfl, HBel.out.alloc hsz _⟩

theorem digits_any (n : Int) (h0 : -1000000000000000000 ≤ n) (h1 : n ≤ 1000000000000000000) (w : World) :
    Calls Tryz.prog 23 #[.int .i64 n] w fun e w' => e = .returned (.string (ofL (Lib.itoa n))) ∧ Below w.heap.size w w' := by
  by_cases h : n < 0
  · have := digitsNat_any true n.natAbs (by omega) (by intro _; omega) w
    simp only [if_true] at this
    have e : -(n.natAbs : Int) = n := by omega
    rw [e] at this
    unfold Lib.itoa
    rw [if_pos h]
    exact this
  · have := digitsNat_any false n.toNat (by omega) (by intro h; cases h) w
    simp only [Bool.false_eq_true, if_false] at this
    have e : (n.toNat : Int) = n := by omega
    rw [e] at this
    unfold Lib.itoa
    rw [if_neg h]
    exact this
end Go.Proofs.YtmjgiaiccmhnfaaGreatDoor
