/- Types, their rules, what values are by them: what they are; no program. -/
import Derived.Test.YtlimajgmdhhggaaGreatDoorDnSpec
import Derived.Test.YtlimajgmdhhggaaGreatDoorDnFoldP
import Derived.Lib.ParseIntBTie
import Derived.Lib.AtoiTie
import Derived.Lib.ItoaMem
import Derived.Lib.Strings
namespace Go.Proofs.YtlimajgmdhhggaaGreatDoor
set_option linter.unusedVariables false

/-- The types there are, and the rule of each. -/
def kindsL : List (List UInt8 × Nat) := [
  ([111, 98, 106, 101, 99, 116, 99, 108, 97, 115, 115], 1), ([99, 110], 1), ([115, 110], 1), ([111], 1), ([111, 117], 1), ([117, 105, 100], 1), ([109, 97, 105, 108], 1),
  ([100, 101, 115, 99, 114, 105, 112, 116, 105, 111, 110], 1), ([117, 105, 100, 110, 117, 109, 98, 101, 114], 2), ([109, 101, 109, 98, 101, 114], 3), ([117, 115, 101, 114, 112, 97, 115, 115, 119, 111, 114, 100], 4)]
def findL (n : List UInt8) : Option (List UInt8 × Nat) := kindsL.find? (fun k => k.1 == n)
def ruleL (n : List UInt8) : Nat := match findL n with | some k => k.2 | none => 0
def ruleD (t : List UInt8) : Nat := ruleL (low t)
def canonD (t : List UInt8) : Option (List UInt8) := (findL (low t)).map (·.1)

def okN (e : Lib.NumEnd Int) (l : List UInt8) : Option Int := match e with
  | .ok v => if Lib.itoa v = l then some v else none
  | _ => none
/-- A decimal number of at most fifteen digits, by the one text that it has. -/
def numD (l : List UInt8) : Option Int := if (Lib.trimPrefix l [45]).length ≤ 15 then okN (Lib.parseIntB 64 l) l else none

def normD (r : Nat) (v : List UInt8) : Option (List UInt8) :=
  if v = [] ∨ 100 < v.length then none
  else if r = 1 then (if fold v = [] then none else some (fold v))
  else if r = 2 then (if (numD v).isSome then some v else none)
  else if r = 3 then (match keyD v with | some k => if k = [] then none else some k | none => none)
  else if r = 4 then some v
  else none
def sameD (r : Nat) (a b : List UInt8) : Bool := match normD r a, normD r b with
  | some x, some y => x == y
  | _, _ => false

theorem findL_len {n : List UInt8} {k : List UInt8 × Nat} (h : findL n = some k) : k.1 = n ∧ n.length ≤ 15 ∧ 1 ≤ k.2 ∧ k.2 ≤ 4 := by
  have h1 := List.find?_some h
  have h2 := List.mem_of_find?_eq_some h
  have e : k.1 = n := by simpa using h1
  have hall : (kindsL.all fun k => decide (k.1.length ≤ 15 ∧ 1 ≤ k.2 ∧ k.2 ≤ 4)) = true := by decide
  have := List.all_eq_true.1 hall k h2
  simp only [decide_eq_true_eq] at this
  exact ⟨e, by rw [← e]; exact this.1, this.2⟩
theorem findL_long {n : List UInt8} (h : 15 < n.length) : findL n = none := by
  cases e : findL n with
  | none => rfl
  | some k => have := (findL_len e).2.1; omega
theorem canon_eq {t c : List UInt8} (h : canonD t = some c) : c = low t ∧ 1 ≤ ruleD t ∧ ruleD t ≤ 4 := by
  unfold canonD at h
  cases e : findL (low t) with
  | none => rw [e] at h; cases h
  | some k =>
    rw [e] at h
    simp only [Option.map_some, Option.some.injEq] at h
    have := findL_len e
    unfold ruleD ruleL
    rw [e]
    exact ⟨by rw [← h]; exact this.1, this.2.2⟩
theorem canon_rule (t : List UInt8) : canonD t = none ↔ ruleD t = 0 := by
  unfold canonD ruleD ruleL
  cases e : findL (low t) with
  | none => simp
  | some k =>
    have := findL_len e
    simp
    omega
theorem ruleD_low (t : List UInt8) : ruleD (low t) = ruleD t := by unfold ruleD; rw [low_low]
theorem canonD_low (t : List UInt8) : canonD (low t) = canonD t := by unfold canonD; rw [low_low]

/-- How the table is gone through. -/
theorem find_take {n : List UInt8} : ∀ (l : List (List UInt8 × Nat)) (k : Nat), (∀ i, (h : i < l.length) → i < k → l[i].1 ≠ n) → l.find? (fun k => k.1 == n) = (l.drop k).find? (fun k => k.1 == n)
  | [], k, _ => by simp
  | x :: l, 0, _ => rfl
  | x :: l, k + 1, h => by
    have h0 : x.1 ≠ n := h 0 (by simp) (by omega)
    rw [List.find?_cons_of_neg (by simpa using h0)]
    exact find_take l k (fun i hi hk => h (i + 1) (by simpa using hi) (by omega))
theorem find_at {n : List UInt8} {k : Nat} (hk : k < kindsL.length) (h : ∀ i, (h : i < kindsL.length) → i < k → kindsL[i].1 ≠ n) (he : kindsL[k].1 = n) : findL n = some kindsL[k] := by
  unfold findL
  rw [find_take kindsL k h, List.drop_eq_getElem_cons hk, List.find?_cons_of_pos (by simpa using he)]
theorem find_no {n : List UInt8} (h : ∀ i, (h : i < kindsL.length) → kindsL[i].1 ≠ n) : findL n = none := by
  unfold findL
  rw [find_take kindsL kindsL.length (fun i hi _ => h i hi)]; simp
end Go.Proofs.YtlimajgmdhhggaaGreatDoor
