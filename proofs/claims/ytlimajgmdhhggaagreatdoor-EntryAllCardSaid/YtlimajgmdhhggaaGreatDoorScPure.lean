/- The classes; what an entry lacks first: what they are; no program. -/
import Derived.Test.YtlimajgmdhhggaaGreatDoorScVals
import Derived.Test.YtlimajgmdhhggaaGreatDoorMaSame
import Derived.Lib.Fields
import Derived.Lib.SlicesCompact
import Derived.Sort.KeysCollected
namespace Go.Proofs.YtlimajgmdhhggaaGreatDoor
open Go.RowKit
set_option linter.unusedVariables false

/-- A class: its name, the one above it, whether it is structural, what it must and may have. -/
structure CT where
  name : List UInt8
  sup : List UInt8
  st : Bool
  must : List UInt8
  may : List UInt8
def CT.mustL (c : CT) : List (List UInt8) := Lib.fields c.must
def CT.mayL (c : CT) : List (List UInt8) := Lib.fields c.may
def classL : List CT := [
  ⟨[116, 111, 112], [], false, [111, 98, 106, 101, 99, 116, 99, 108, 97, 115, 115], []⟩,
  ⟨[111, 114, 103, 97, 110, 105, 122, 97, 116, 105, 111, 110], [116, 111, 112], true, [111], [100, 101, 115, 99, 114, 105, 112, 116, 105, 111, 110]⟩,
  ⟨[111, 114, 103, 97, 110, 105, 122, 97, 116, 105, 111, 110, 97, 108, 117, 110, 105, 116], [116, 111, 112], true, [111, 117], [100, 101, 115, 99, 114, 105, 112, 116, 105, 111, 110]⟩,
  ⟨[112, 101, 114, 115, 111, 110], [116, 111, 112], true, [99, 110, 32, 115, 110], [100, 101, 115, 99, 114, 105, 112, 116, 105, 111, 110, 32, 117, 115, 101, 114, 112, 97, 115, 115, 119, 111, 114, 100]⟩,
  ⟨[105, 110, 101, 116, 111, 114, 103, 112, 101, 114, 115, 111, 110], [112, 101, 114, 115, 111, 110], true, [], [117, 105, 100, 32, 109, 97, 105, 108]⟩,
  ⟨[112, 111, 115, 105, 120], [116, 111, 112], false, [117, 105, 100, 32, 117, 105, 100, 110, 117, 109, 98, 101, 114], []⟩,
  ⟨[103, 114, 111, 117, 112, 111, 102, 110, 97, 109, 101, 115], [116, 111, 112], true, [99, 110, 32, 109, 101, 109, 98, 101, 114], [100, 101, 115, 99, 114, 105, 112, 116, 105, 111, 110]⟩]
def findC (n : List UInt8) : Option CT := classL.find? (fun c => c.name == n)
theorem findC_at {n : List UInt8} {k : Nat} (hk : k < classL.length) (h : ∀ i, (h : i < classL.length) → i < k → classL[i].name ≠ n) (he : classL[k].name = n) : findC n = some classL[k] := by
  unfold findC
  rw [List.find?_eq_some_iff_getElem]
  refine ⟨by simpa using he, k, hk, rfl, fun j hj => ?_⟩
  have := h j (by omega) hj
  simpa using this
theorem findC_no {n : List UInt8} (h : ∀ i, (h : i < classL.length) → classL[i].name ≠ n) : findC n = none := by
  unfold findC
  rw [List.find?_eq_none]
  intro a ha
  obtain ⟨k, hk, rfl⟩ := List.getElem_of_mem ha
  simpa using h k hk
theorem findC_mem {n : List UInt8} {c : CT} (h : findC n = some c) : c ∈ classL ∧ c.name = n := ⟨List.mem_of_find?_eq_some h, by simpa using List.find?_some h⟩

/-- A class and those above it: three are the most there are. -/
def chainC : Nat → List UInt8 → List CT
  | 0, _ => []
  | k + 1, n => match findC n with
    | none => []
    | some c => c :: chainC k c.sup
theorem chain_end : ∀ c ∈ classL, chainC 3 c.sup = chainC 2 c.sup := by
  intro c hc
  simp only [classL, List.mem_cons, List.not_mem_nil, or_false] at hc
  rcases hc with rfl | rfl | rfl | rfl | rfl | rfl | rfl <;> rfl
theorem chain_step {n : List UInt8} {c : CT} (h : findC n = some c) : chainC 3 n = c :: chainC 3 c.sup := by
  rw [chain_end c (findC_mem h).1]
  show (match findC n with | none => [] | some c => c :: chainC 2 c.sup) = _
  rw [h]
theorem chain_none {n : List UInt8} (h : findC n = none) : chainC 3 n = [] := by
  show (match findC n with | none => [] | some c => c :: chainC 2 c.sup) = _
  rw [h]

def objB : List UInt8 := [111, 98, 106, 101, 99, 116, 99, 108, 97, 115, 115]
/-- The classes that values name, with those above them; whether one that is named is structural. -/
def allC : List (List UInt8) → Option (List CT × Bool)
  | [] => some ([], false)
  | v :: l => match findC (fold v) with
    | none => none
    | some c => (allC l).map fun p => (chainC 3 (fold v) ++ p.1, c.st || p.2)
/-- What is left of it behind some of the values. -/
def allR (A : List CT) (b : Bool) (l : List (List UInt8)) : Option (List CT × Bool) := (allC l).map fun p => (A ++ p.1, b || p.2)
theorem allR_none {A : List CT} {b : Bool} {v : List UInt8} {l : List (List UInt8)} (h : findC (fold v) = none) : allR A b (v :: l) = none := by
  simp [allR, allC, h]
theorem allR_step {A : List CT} {b : Bool} {v : List UInt8} {l : List (List UInt8)} {c : CT} (h : findC (fold v) = some c) : allR A b (v :: l) = allR (A ++ chainC 3 (fold v)) (b || c.st) l := by
  simp only [allR, allC, h]
  cases allC l with
  | none => rfl
  | some p => simp [List.append_assoc, Bool.or_assoc]
theorem allR_end (A : List CT) (b : Bool) : allR A b [] = some (A, b) := by simp [allR, allC]
theorem allR_start (l : List (List UInt8)) : allR [] false l = allC l := by
  unfold allR
  cases allC l <;> simp

def mayC (A : List CT) : List (List UInt8) := A.flatMap fun c => c.mustL ++ c.mayL
def classedD (L : List AT) : Bool := match allC (valsS L objB) with
  | none => false
  | some (A, s) => s && (A.all (fun c => c.mustL.all (hasS L)) && L.all (fun a => (mayC A).contains a.1))

theorem leB_le {a b : List UInt8} (h : leB a b = true) : a ≤ b := by simpa only [leB, decide_eq_true_eq] using h
theorem compact_len_lt {zs : List (List UInt8)} : (Lib.compact zs).length < zs.length ↔ ∃ j, 0 < j ∧ j < zs.length ∧ zs[j]? = zs[j - 1]? := by
  unfold Lib.compact Lib.compactUpTo
  rw [List.length_map]
  constructor
  · intro h
    have : ¬ ∀ j ∈ List.range zs.length, Lib.keeps zs.toArray j = true := fun e => by
      rw [List.filter_eq_self.2 e, List.length_range] at h
      omega
    obtain ⟨j, hj⟩ := Classical.not_forall.1 this
    obtain ⟨hm, hk⟩ := Classical.not_imp.1 hj
    rw [List.mem_range] at hm
    simp only [Lib.keeps, decide_eq_true_eq, not_or, Decidable.not_not] at hk
    refine ⟨j, by omega, hm, ?_⟩
    have h1 : j < zs.toArray.size := by simpa using hm
    have h2 : j - 1 < zs.toArray.size := by simp; omega
    have e := hk.2
    rw [getElem!_pos _ j h1, getElem!_pos _ (j - 1) h2] at e
    simp only [List.getElem_toArray] at e
    rw [List.getElem?_eq_getElem hm, List.getElem?_eq_getElem (by omega), e]
  · rintro ⟨j, h0, hm, e⟩
    have h1 : j < zs.toArray.size := by simpa using hm
    have h2 : j - 1 < zs.toArray.size := by simp; omega
    have hk : Lib.keeps zs.toArray j = false := by
      refine Lib.keeps_neg h0 ?_
      rw [getElem!_pos _ j h1, getElem!_pos _ (j - 1) h2]
      simp only [List.getElem_toArray]
      rw [List.getElem?_eq_getElem hm, List.getElem?_eq_getElem (by omega)] at e
      exact Option.some.inj e
    have hlt : ((List.range zs.length).filter (Lib.keeps zs.toArray)).length < (List.range zs.length).length := List.length_filter_lt_length_iff_exists.2 ⟨j, List.mem_range.2 hm, by rw [hk]; simp⟩
    rw [List.length_range] at hlt
    exact hlt
theorem dup_iff (l : List (List UInt8)) : (Lib.compact (l.mergeSort leB)).length < l.length ↔ ¬ l.Nodup := by
  have tr : ∀ a b c : List UInt8, leB a b = true → leB b c = true → leB a c = true := fun a b c h1 h2 => by simp only [leB, decide_eq_true_eq] at *; exact List.le_trans h1 h2
  have tot : ∀ a b : List UInt8, (leB a b || leB b a) = true := fun a b => by simp only [leB, Bool.or_eq_true, decide_eq_true_eq]; exact List.le_total a b
  have hp := List.mergeSort_perm l leB
  have hs := List.pairwise_mergeSort tr tot l
  rw [← hp.nodup_iff, ← hp.length_eq, compact_len_lt]
  generalize l.mergeSort leB = m at hs
  rw [List.pairwise_iff_getElem] at hs
  constructor
  · rintro ⟨j, h0, hm, e⟩ hn
    have := List.pairwise_iff_getElem.1 hn (j - 1) j (by omega) hm (by omega)
    rw [List.getElem?_eq_getElem hm, List.getElem?_eq_getElem (by omega)] at e
    exact this (Option.some.inj e).symm
  · intro hn
    refine Classical.byContradiction fun hno => hn (List.pairwise_iff_getElem.2 fun i j hi hj hij e => hno ⟨i + 1, by omega, by omega, ?_⟩)
    have h1 : i + 1 < m.length := by omega
    have a := leB_le (hs i (i + 1) hi h1 (by omega))
    have b : m[i + 1] ≤ m[j] := by
      by_cases q : i + 1 = j
      · subst q; exact List.le_refl _
      · exact leB_le (hs (i + 1) j h1 hj (by omega))
    rw [← e] at b
    rw [List.getElem?_eq_getElem h1, show i + 1 - 1 = i from by omega, List.getElem?_eq_getElem hi, List.le_antisymm b a]

/-- What is wrong of one attribute's values. -/
def normsS (r : Nat) : List (List UInt8) → Option (List (List UInt8))
  | [] => some []
  | v :: l => match normD r v with
    | none => none
    | some x => (normsS r l).map (x :: ·)
def valsC (t : List UInt8) (V : List (List UInt8)) : Int :=
  if V.length = 0 ∨ mostS t < (V.length : Int) then 19 else match normsS (ruleD t) V with
  | none => 21
  | some l => if l.Nodup then 0 else 20
theorem normsS_len {r : Nat} : ∀ {V l : List (List UInt8)}, normsS r V = some l → l.length = V.length
  | [], l, h => by simp only [normsS, Option.some.injEq] at h; subst h; rfl
  | v :: V, l, h => by
    simp only [normsS] at h
    cases e : normD r v with
    | none => rw [e] at h; cases h
    | some x =>
      rw [e] at h
      cases e2 : normsS r V with
      | none => rw [e2] at h; cases h
      | some m =>
        rw [e2] at h
        simp only [Option.map_some, Option.some.injEq] at h
        subst h
        simp [normsS_len e2]
def normsR (r : Nat) (A : List (List UInt8)) (l : List (List UInt8)) : Option (List (List UInt8)) := (normsS r l).map (A ++ ·)
theorem normsR_none {r : Nat} {A l : List (List UInt8)} {v : List UInt8} (h : normD r v = none) : normsR r A (v :: l) = none := by
  simp [normsR, normsS, h]
theorem normsR_step {r : Nat} {A l : List (List UInt8)} {v x : List UInt8} (h : normD r v = some x) : normsR r A (v :: l) = normsR r (A ++ [x]) l := by
  simp only [normsR, normsS, h]
  cases normsS r l <;> simp
theorem normsR_end (r : Nat) (A : List (List UInt8)) : normsR r A [] = some A := by simp [normsR, normsS]
theorem normsR_start (r : Nat) (l : List (List UInt8)) : normsR r [] l = normsS r l := by
  unfold normsR
  cases normsS r l <;> simp

/-- Sound attributes, or what is wrong first. -/
def soundR : List AT → List AT → Except Int (List AT)
  | A, [] => .ok A
  | A, a :: l => match canonD a.1 with
    | none => .error 17
    | some t => if hasS A t then .error 20 else if valsC t a.2 = 0 then soundR (A ++ [(t, a.2)]) l else .error (valsC t a.2)
def namedD (L : List AT) (d : List UInt8) : Bool := match parseD d with
  | some (r :: _) => (valsS L ((canonD r.1).getD [])).any fun v => sameO (normD (ruleD ((canonD r.1).getD [])) v) (normD (ruleD ((canonD r.1).getD [])) r.2)
  | _ => false
def behindD (L : List AT) (d : List UInt8) : Int := if classedD L = false then 65 else if namedD L d = false then 64 else 0
def checkD (d : List UInt8) (L : List AT) : Int := match keyD d with
  | none => 34
  | some k => if k = [] then 34 else if 20 < L.length then 19 else match soundR [] L with
    | .error c => c
    | .ok A => behindD A d
end Go.Proofs.YtlimajgmdhhggaaGreatDoor
