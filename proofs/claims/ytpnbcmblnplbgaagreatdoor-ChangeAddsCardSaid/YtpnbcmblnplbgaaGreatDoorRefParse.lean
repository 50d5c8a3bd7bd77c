/- The document's ParseDn: the walk. -/
import Derived.Test.YtpnbcmblnplbgaaGreatDoorRefVal
import Derived.Test.YtpnbcmblnplbgaaGreatDoorMay
import Derived.OneCell
namespace Go.Proofs.YtpnbcmblnplbgaaGreatDoor
open Go.RowKit
set_option linter.unusedVariables false

/-- A part by its '=' and its value, whether it may be or not. -/
def preD (p : List UInt8) : Option R := if p.contains 61 = true then (valD (afterD p)).map (fun v => (nameD p, v)) else none
def allO : List (List UInt8) → Option (List R)
  | [] => some []
  | p :: l => match preD p with
    | none => none
    | some r => (allO l).map (r :: ·)
theorem allO_snoc : ∀ (l : List (List UInt8)) (p : List UInt8) (L : List R) (r : R), allO l = some L → preD p = some r → allO (l ++ [p]) = some (L ++ [r])
  | [], p, L, r, h, hp => by
    cases h
    simp [allO, hp]
  | q :: l, p, L, r, h, hp => by
    simp only [allO] at h
    cases hq : preD q with
    | none => rw [hq] at h; cases h
    | some x =>
      rw [hq] at h
      cases ha : allO l with
      | none => simp only [ha] at h; cases h
      | some L' =>
        simp only [ha, Option.map_some, Option.some.injEq] at h
        subst h
        simp only [List.cons_append, allO, hq, allO_snoc l p L' r ha hp, Option.map_some]
theorem allO_none : ∀ (l : List (List UInt8)) (p : List UInt8), p ∈ l → preD p = none → allO l = none
  | q :: l, p, h, hp => by
    simp only [allO]
    cases hq : preD q with
    | none => rfl
    | some x =>
      rcases List.mem_cons.1 h with rfl | h
      · rw [hp] at hq; cases hq
      · simp only [allO_none l p h hp]; rfl
theorem allO_len : ∀ (l : List (List UInt8)) (L : List R), allO l = some L → L.length = l.length
  | [], L, h => by cases h; rfl
  | q :: l, L, h => by
    simp only [allO] at h
    cases hq : preD q with
    | none => rw [hq] at h; cases h
    | some x =>
      rw [hq] at h
      cases ha : allO l with
      | none => simp only [ha] at h; cases h
      | some L' =>
        simp only [ha, Option.map_some, Option.some.injEq] at h
        subst h
        simp [allO_len l L' ha]
theorem drop_all : ∀ p : List UInt8, (∀ x ∈ p, x ≠ 61) → p.dropWhile (· ≠ 61) = []
  | [], _ => rfl
  | c :: r, h => by
    rw [List.dropWhile_cons_of_pos (by simpa using h c (by simp))]
    exact drop_all r fun x hx => h x (by simp [hx])
theorem no_eq {p : List UInt8} (h : p.contains 61 = false) : afterD p = [] := by
  unfold afterD
  have : p.dropWhile (· ≠ 61) = [] := by
    refine drop_all p fun x hx => ?_
    rintro rfl
    rw [List.contains_iff_mem.2 hx] at h; cases h
  rw [this]; rfl
theorem rdn_pre (p : List UInt8) : rdnD p = match preD p with
    | none => none
    | some r => if okR r = true then some r else none := by
  unfold preD
  by_cases hc : p.contains 61 = true
  · rw [if_pos hc]
    cases hv : valD (afterD p) with
    | none => exact rdn_no2 hv
    | some v =>
      simp only [Option.map_some]
      cases ht : okType (nameD p) with
      | false =>
        rw [rdn_no1 ht, if_neg]
        unfold okR; rw [ht]; simp
      | true =>
        rw [rdn_yes ht hv]
        unfold okR
        simp only [ht, Bool.true_and]
  · rw [if_neg hc, rdn_yes' hc]
where
  rdn_yes' {p : List UInt8} (hc : ¬ p.contains 61 = true) : rdnD p = none := by
    have ha := no_eq (by simpa using hc)
    cases ht : okType (nameD p) with
    | false => exact rdn_no1 ht
    | true => rw [rdn_yes ht (v := []) (by rw [ha]; rfl)]; rfl
theorem par_pre : ∀ (k : Nat) (l : List UInt8), parN k l = match allO (partsD l) with
    | none => none
    | some L => if (decide (L.length ≤ k) && L.all okR) = true then some L else none
  | 0, l => by
    cases h : allO (partsD l) with
    | none => rfl
    | some L =>
      have := allO_len _ _ h
      have hp : 0 < (partsD l).length := by
        cases hc : (cutD l).2.2 with
        | true => rw [partsD_more hc]; simp
        | false => rw [partsD_end hc]; simp
      have e : decide (L.length ≤ 0) = false := by rw [decide_eq_false_iff_not]; omega
      simp only [e, Bool.false_and]
      rfl
  | k + 1, l => by
    unfold parN
    rw [rdn_pre]
    cases hc : (cutD l).2.2 with
    | true =>
      rw [partsD_more hc]
      simp only [allO]
      cases hp : preD (cutD l).1 with
      | none => rfl
      | some r =>
        simp only [if_true]
        have ih := par_pre k (cutD l).2.1
        by_cases ho : okR r = true
        · rw [if_pos ho]
          simp only
          rw [ih]
          cases ha : allO (partsD (cutD l).2.1) with
          | none => rfl
          | some L =>
            simp only [Option.map_some]
            by_cases hb : (decide (L.length ≤ k) && L.all okR) = true
            · rw [if_pos hb, if_pos (by simp only [Bool.and_eq_true, decide_eq_true_eq] at hb ⊢; exact ⟨by simp; omega, by rw [List.all_cons, ho, hb.2]; rfl⟩)]
              rfl
            · rw [if_neg hb, if_neg (by
                intro hh; apply hb
                simp only [Bool.and_eq_true, decide_eq_true_eq, List.all_cons] at hh ⊢
                exact ⟨by have := hh.1; simp at this; omega, hh.2.2⟩)]
              rfl
        · rw [if_neg ho]
          simp only
          cases ha : allO (partsD (cutD l).2.1) with
          | none => rfl
          | some L =>
            simp only [Option.map_some]
            rw [if_neg (by intro hh; simp only [Bool.and_eq_true, List.all_cons] at hh; exact ho hh.2.1)]
    | false =>
      rw [partsD_end hc]
      simp only [allO]
      cases hp : preD (cutD l).1 with
      | none => rfl
      | some r =>
        simp only [Option.map_some]
        by_cases ho : okR r = true
        · rw [if_pos ho]
          simp only
          rw [if_neg (by simp), if_pos (by simp [ho])]
        · rw [if_neg ho, if_neg (by simp [ho])]
theorem parse_pre {s : List UInt8} (h : s ≠ []) : parseD s = match allO (partsD s) with
    | none => none
    | some L => if okL L = true then some L else none := by
  unfold parseD
  rw [if_neg h, par_pre]
  rfl
theorem parse_none {s p : List UInt8} (h : s ≠ []) (hm : p ∈ partsD s) (hp : preD p = none) : parseD s = none := by
  rw [parse_pre h, allO_none _ p hm hp]

/-- Parts are no longer than the text. -/
theorem partsN_le : ∀ (n : Nat) (l p : List UInt8), p ∈ partsN n l → p.length ≤ l.length
  | 0, l, p, h => by simp [partsN] at h; rw [h]; exact Nat.le_refl _
  | n + 1, l, p, h => by
    have hl := cutD_le l
    unfold partsN at h
    split at h
    · rcases List.mem_cons.1 h with rfl | h
      · exact hl.1
      · exact Nat.le_trans (partsN_le n _ p h) hl.2
    · simp at h; rw [h]; exact hl.1
theorem partsD_le {l p : List UInt8} (h : p ∈ partsD l) : p.length ≤ l.length := partsN_le _ _ _ h
theorem partsN_len : ∀ (n : Nat) (l : List UInt8), (partsN n l).length ≤ n + 1
  | 0, l => by simp [partsN]
  | n + 1, l => by
    unfold partsN
    split
    · have := partsN_len n (cutD l).2.1; simp; omega
    · simp

/-- Where the first '=' stands. -/
theorem eq_at {p : List UInt8} {k : Nat} (h : k < p.length) (h61 : p[k] = 61) (hall : ∀ x ∈ p.take k, x ≠ 61) : nameD p = p.take k ∧ afterD p = p.drop (k + 1) ∧ p.contains 61 = true := by
  have e : p = p.take k ++ 61 :: p.drop (k + 1) := by
    have := List.take_append_drop k p
    rw [List.drop_eq_getElem_cons h, h61] at this
    exact this.symm
  have ht : ∀ c ∈ p.take k, (decide (c ≠ 61)) = true := fun c hc => by simpa using hall c hc
  refine ⟨?_, ?_, ?_⟩
  · unfold nameD
    conv => lhs; rw [e]
    rw [List.takeWhile_append_of_pos ht]; simp
  · unfold afterD
    conv => lhs; rw [e]
    rw [List.dropWhile_append_of_pos ht]; simp
  · rw [List.contains_iff_mem, ← h61]; exact List.getElem_mem h

/-- The document's answer in a block of its own. -/
def BoxD (w : World) (b : Nat) (v : Value) (ok : Bool) : Prop := w.heap[b]? = some (.cells #[v, .bool ok] 53 (0, 0))
theorem BoxD.below {w w' : World} {b n : Nat} {v : Value} {ok : Bool} (h : BoxD w b v ok) (hb : Below n w w') (hn : b < n) : BoxD w' b v ok := (hb.block b hn).trans h
theorem BoxD.cells {w : World} {b : Nat} {v : Value} {ok : Bool} (h : BoxD w b v ok) : w.cell? ⟨b, 0, none⟩ = some v ∧ w.cell? ⟨b, 1, none⟩ = some (.bool ok) ∧ w.frozen? ⟨b, 0, none⟩ = false ∧ w.frozen? ⟨b, 1, none⟩ = false := by
  unfold BoxD at h
  simp [World.cell?, World.frozen?, h]
theorem boxD_new (w : World) (v : Value) (ok : Bool) : BoxD (w.alloc (.cells #[v, .bool ok] 53)) w.heap.size v ok := heap_alloc_new w _
theorem BoxD.store {w : World} {b : Nat} {v : Value} {ok : Bool} (h : BoxD w b v ok) (v' : Value) (ok' : Bool) : BoxD ((w.setCell ⟨b, 0, none⟩ v').setCell ⟨b, 1, none⟩ (.bool ok')) b v' ok' := by
  unfold BoxD at h ⊢
  simp [World.setCell, Array.getElem?_modify, h]

def PRef (w : World) (o : Option (List R)) (e : Ending) (w' : World) : Prop :=
  Below w.heap.size w w' ∧ match o with
  | none => e = .returned (.agg #[.slice none 0 0, .bool false])
  | some l => ∃ v, e = .returned (.agg #[v, .bool true]) ∧ IsL w'.heap.size w' l v
end Go.Proofs.YtpnbcmblnplbgaaGreatDoor
