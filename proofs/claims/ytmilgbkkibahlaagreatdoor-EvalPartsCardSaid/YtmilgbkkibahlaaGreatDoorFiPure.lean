/- Filters as trees: what may be, their texts, reading them. No program. -/
import Derived.Test.YtmilgbkkibahlaaGreatDoorDnSpec
namespace Go.Proofs.YtmilgbkkibahlaaGreatDoor
set_option linter.unusedVariables false
set_option linter.unusedSimpArgs false

inductive FT where
  | mk : Int → List UInt8 → List UInt8 → List (List UInt8) → List FT → FT
def FT.k : FT → Int | .mk k _ _ _ _ => k
def FT.t : FT → List UInt8 | .mk _ t _ _ _ => t
def FT.v : FT → List UInt8 | .mk _ _ v _ _ => v
def FT.p : FT → List (List UInt8) | .mk _ _ _ p _ => p
def FT.l : FT → List FT | .mk _ _ _ _ l => l

/-- A byte of a value that stands as it is. -/
def plainC (c : UInt8) : Bool := decide (32 ≤ c.toNat) && decide (c.toNat ≤ 126) && !(c == 42 || c == 40 || c == 41 || c == 92)
def quoC (c : UInt8) : List UInt8 := if plainC c then [c] else [92, digL (c.toNat / 16), digL (c.toNat % 16)]
def quo : List UInt8 → List UInt8
  | [] => []
  | c :: r => quoC c ++ quo r
def signF (k : Int) : List UInt8 := if k = 1 then [38] else if k = 2 then [124] else if k = 3 then [33] else if k = 6 then [62, 61] else if k = 7 then [60, 61] else if k = 8 then [61, 42] else [61]
/-- Texts with stars between. -/
def starJ : List (List UInt8) → List UInt8
  | [] => []
  | [x] => quo x
  | x :: y :: l => quo x ++ 42 :: starJ (y :: l)
mutual
def textF : FT → List UInt8
  | .mk k t v p l => 40 :: (t ++ (signF k ++ (quo v ++ (starJ p ++ (textFs l ++ [41])))))
def textFs : List FT → List UInt8
  | [] => []
  | f :: l => textF f ++ textFs l
end

/-! ### What may be -/
def holdsC (k : Int) : Bool := decide (k = 1) || decide (k = 2) || decide (k = 3)
def kidsC (k : Int) (n : Nat) : Bool := if k = 3 then decide (n = 1) else decide (n ≤ 40)
def midNe : List (List UInt8) → Bool
  | [] => true
  | [_] => true
  | x :: y :: l => !x.isEmpty && midNe (y :: l)
/-- Parts that may be: those between the first and the last are not empty. -/
def okParts (p : List (List UInt8)) : Bool := decide (2 ≤ p.length) && decide (p.length ≤ 8) && p.all (fun x => decide (x.length ≤ 100)) && midNe (p.drop 1) && (decide (2 < p.length) || !(p.getD 0 []).isEmpty || !(p.getD (p.length - 1) []).isEmpty)
def okLeaf (k : Int) (t v : List UInt8) (p : List (List UInt8)) (n : Nat) : Bool :=
  okType t && decide (n = 0) && (if k = 4 ∨ k = 6 ∨ k = 7 then decide (v.length ≤ 100) && p.isEmpty else if k = 5 then v.isEmpty && okParts p else if k = 8 then v.isEmpty && p.isEmpty else false)
/-- So deep at most: d is how many more it may stand in. -/
def mayF : Nat → FT → Bool
  | 0, _ => false
  | d + 1, .mk k t v p l => if holdsC k then t.isEmpty && v.isEmpty && p.isEmpty && kidsC k l.length && l.all (mayF d) else okLeaf k t v p l.length

/-! ### Reading -/
/-- A digit's number. -/
def dgI (c : UInt8) : Option Nat := if digs.contains c then some (hexN c) else none
def escD (x y : UInt8) : Option UInt8 := match dgI x, dgI y with
  | some h, some l => if plainC (UInt8.ofNat (h * 16 + l)) then none else some (UInt8.ofNat (h * 16 + l))
  | _, _ => none
/-- A value's text read: at most m bytes. -/
def valQ : Nat → List UInt8 → Option (List UInt8)
  | _, [] => some []
  | 0, _ :: _ => none
  | m + 1, c :: r => if plainC c then (valQ m r).map (c :: ·) else if c = 92 then match r with
    | x :: y :: r' => match escD x y with
      | some b => (valQ m r').map (b :: ·)
      | none => none
    | _ => none else none
/-- Cut at stars, at most n times. -/
def splS : Nat → List UInt8 → List (List UInt8)
  | 0, l => [l]
  | n + 1, l => if l.contains 42 then l.takeWhile (· ≠ 42) :: splS n ((l.dropWhile (· ≠ 42)).drop 1) else [l]
def allV : List (List UInt8) → Option (List (List UInt8))
  | [] => some []
  | x :: l => match valQ 100 x, allV l with
    | some v, some r => some (v :: r)
    | _, _ => none
/-- What stands behind a leaf's type. -/
def askD (l : List UInt8) : Option (Int × List UInt8 × List (List UInt8)) :=
  if l = [61, 42] then some (8, [], [])
  else match l with
    | 61 :: r => if r.contains 42 then (allV (splS 8 r)).map fun p => (5, [], p) else (valQ 100 r).map fun v => (4, v, [])
    | 62 :: 61 :: r => (valQ 100 r).map fun v => (6, v, [])
    | 60 :: 61 :: r => (valQ 100 r).map fun v => (7, v, [])
    | _ => none
def opC (c : UInt8) : Bool := c == 61 || c == 62 || c == 60
def leafD (s : List UInt8) : Option FT := match askD (s.dropWhile fun c => !opC c) with
  | some (k, v, p) => if okLeaf k (s.takeWhile fun c => !opC c) v p 0 then some (.mk k (s.takeWhile fun c => !opC c) v p []) else none
  | none => none
/-- Filters side by side, till a bracket closes; n were there before. -/
def kidsD (D : List UInt8 → Option (FT × List UInt8)) (k : Int) : Nat → Nat → List UInt8 → Option (List FT × List UInt8)
  | 0, _, _ => none
  | fu + 1, n, s => if s.head? = some 41 then some ([], s) else match D s with
    | none => none
    | some (f, r) => if kidsC k (n + 1) then (kidsD D k fu (n + 1) r).map fun x => (f :: x.1, x.2) else none
def holdD (D : List UInt8 → Option (FT × List UInt8)) (k : Int) (s : List UInt8) : Option (FT × List UInt8) := match kidsD D k (s.length + 1) 0 s with
  | none => none
  | some (l, r) => if kidsC k l.length then some (.mk k [] [] [] l, r.drop 1) else none
def headD : Nat → List UInt8 → Option (FT × List UInt8)
  | 0, _ => none
  | d + 1, s => match s with
    | 40 :: r => if r.head? = some 38 then holdD (headD d) 1 (r.drop 1) else if r.head? = some 124 then holdD (headD d) 2 (r.drop 1) else if r.head? = some 33 then holdD (headD d) 3 (r.drop 1)
      else if r.contains 41 then (leafD (r.takeWhile (· ≠ 41))).map fun f => (f, (r.dropWhile (· ≠ 41)).drop 1) else none
    | _ => none
def parseF (s : List UInt8) : Option FT := match headD 13 s with
  | some (f, []) => some f
  | _ => none

/-! ### Values -/
theorem quo_append (a b : List UInt8) : quo (a ++ b) = quo a ++ quo b := by
  induction a with
  | nil => rfl
  | cons c r ih => rw [List.cons_append, quo, ih, quo, List.append_assoc]
def quoOk (c : UInt8) : Bool := plainC c || (!plainC 92 && escD (digL (c.toNat / 16)) (digL (c.toNat % 16)) == some c)
theorem quo_ok (c : UInt8) : quoOk c = true := all_bytes quoOk (by decide +kernel) c
theorem esc_quo {c : UInt8} (h : plainC c = false) : escD (digL (c.toNat / 16)) (digL (c.toNat % 16)) = some c := by
  have := quo_ok c
  unfold quoOk at this
  rw [h] at this
  simp only [Bool.false_or, Bool.and_eq_true, beq_iff_eq] at this
  exact this.2
theorem plain92 : plainC 92 = false := by decide
theorem val_quo : ∀ (v : List UInt8) (m : Nat), valQ m (quo v) = if v.length ≤ m then some v else none
  | [], m => by cases m <;> rfl
  | c :: r, 0 => by
    rw [if_neg (by simp)]
    show valQ 0 (quoC c ++ quo r) = none
    unfold quoC
    split <;> rfl
  | c :: r, m + 1 => by
    show valQ (m + 1) (quoC c ++ quo r) = _
    have hl : ((c :: r).length ≤ m + 1) = (r.length ≤ m) := by simp
    cases h : plainC c with
    | true =>
      unfold quoC
      rw [if_pos h]
      show (if plainC c then (valQ m (quo r)).map (c :: ·) else _) = _
      rw [if_pos h, val_quo r m]
      simp only [hl]
      split <;> rfl
    | false =>
      unfold quoC
      rw [if_neg (by rw [h]; decide)]
      show (if plainC 92 then _ else if (92 : UInt8) = 92 then (match escD (digL (c.toNat / 16)) (digL (c.toNat % 16)) with
        | some b => (valQ m (quo r)).map (b :: ·)
        | none => none) else none) = _
      rw [if_neg (by rw [plain92]; decide), if_pos rfl, esc_quo h]
      show (valQ m (quo r)).map (c :: ·) = _
      rw [val_quo r m]
      simp only [hl]
      split <;> rfl
def escOk (x y : UInt8) : Bool := match escD x y with
  | none => true
  | some b => !plainC b && digL (b.toNat / 16) == x && digL (b.toNat % 16) == y
theorem esc_ok : ∀ i, i < 16 → ∀ j, j < 16 → escOk (digL i) (digL j) = true := by decide +kernel
theorem digs_at {c : UInt8} (h : digs.contains c = true) : ∃ i, i < 16 ∧ digL i = c := by
  have hm : c ∈ digs := List.contains_iff_mem.1 h
  obtain ⟨i, hi, e⟩ := List.getElem_of_mem hm
  exact ⟨i, hi, by unfold digL; rw [List.getD_eq_getElem?_getD, List.getElem?_eq_getElem hi, e]; rfl⟩
theorem esc_sound {x y b : UInt8} (h : escD x y = some b) : plainC b = false ∧ quoC b = [92, x, y] := by
  have hx : digs.contains x = true := by
    unfold escD dgI at h
    split at h
    · rename_i a b' h1 h2; split at h1 <;> simp_all
    · cases h
  have hy : digs.contains y = true := by
    unfold escD dgI at h
    split at h
    · rename_i a b' h1 h2; split at h2 <;> simp_all
    · cases h
  obtain ⟨i, hi, rfl⟩ := digs_at hx
  obtain ⟨j, hj, rfl⟩ := digs_at hy
  have := esc_ok i hi j hj
  unfold escOk at this
  rw [h] at this
  simp only [Bool.and_eq_true, Bool.not_eq_true', beq_iff_eq] at this
  refine ⟨this.1.1, ?_⟩
  unfold quoC
  rw [if_neg (by rw [this.1.1]; decide), this.1.2, this.2]
theorem valQ_plain {m : Nat} {c : UInt8} {r : List UInt8} (h : plainC c = true) : valQ (m + 1) (c :: r) = (valQ m r).map (c :: ·) := if_pos h
theorem valQ_esc {m : Nat} {x y : UInt8} {r : List UInt8} : valQ (m + 1) (92 :: x :: y :: r) = match escD x y with
    | some b => (valQ m r).map (b :: ·)
    | none => none := by
  show (if plainC 92 then _ else if (92 : UInt8) = 92 then _ else none) = _
  rw [if_neg (by rw [plain92]; decide), if_pos rfl]
theorem valQ_one {m : Nat} : valQ (m + 1) [92] = none := by
  show (if plainC 92 then _ else if (92 : UInt8) = 92 then _ else none) = _
  rw [if_neg (by rw [plain92]; decide), if_pos rfl]
theorem valQ_two {m : Nat} {x : UInt8} : valQ (m + 1) [92, x] = none := by
  show (if plainC 92 then _ else if (92 : UInt8) = 92 then _ else none) = _
  rw [if_neg (by rw [plain92]; decide), if_pos rfl]
theorem valQ_no {m : Nat} {c : UInt8} {r : List UInt8} (h : ¬ plainC c = true) (h92 : c ≠ 92) : valQ (m + 1) (c :: r) = none := by
  show (if plainC c then _ else if c = 92 then _ else none) = _
  rw [if_neg h, if_neg h92]
theorem val_sound : ∀ (m : Nat) (l v : List UInt8), valQ m l = some v → l = quo v ∧ v.length ≤ m
  | m, [], v, h => by
    have : v = [] := by cases m <;> (simp [valQ] at h; exact h)
    subst this
    exact ⟨rfl, Nat.zero_le _⟩
  | 0, c :: r, v, h => by cases h
  | m + 1, c :: r, v, h => by
    by_cases hp : plainC c = true
    · rw [valQ_plain hp] at h
      obtain ⟨u, hu, rfl⟩ := Option.map_eq_some_iff.1 h
      obtain ⟨e, hl⟩ := val_sound m r u hu
      refine ⟨?_, by simpa using hl⟩
      show c :: r = quoC c ++ quo u
      unfold quoC
      rw [if_pos hp, e]
      rfl
    · by_cases h92 : c = 92
      · subst h92
        match r, h with
        | [], h => rw [valQ_one] at h; cases h
        | [x], h => rw [valQ_two] at h; cases h
        | x :: y :: r', h =>
          rw [valQ_esc] at h
          cases he : escD x y with
          | none => rw [he] at h; cases h
          | some b =>
            rw [he] at h
            obtain ⟨u, hu, rfl⟩ := Option.map_eq_some_iff.1 h
            obtain ⟨e, hl⟩ := val_sound m r' u hu
            refine ⟨?_, by simpa using hl⟩
            show 92 :: x :: y :: r' = quoC b ++ quo u
            rw [(esc_sound he).2, e]
            rfl
      · rw [valQ_no hp h92] at h
        cases h
/-- No byte of a quoted text is a star, a bracket. -/
def cleanC (c : UInt8) : Bool := c != 42 && c != 40 && c != 41
def quoClean (c : UInt8) : Bool := (quoC c).all cleanC
theorem quo_clean (v : List UInt8) : (quo v).all cleanC = true := by
  induction v with
  | nil => rfl
  | cons c r ih =>
    show (quoC c ++ quo r).all cleanC = true
    rw [List.all_append, ih, Bool.and_true]
    exact all_bytes quoClean (by decide +kernel) c
theorem quo_nil {v : List UInt8} (h : quo v = []) : v = [] := by
  cases v with
  | nil => rfl
  | cons c r =>
    exfalso
    have : quoC c ++ quo r = [] := h
    have h2 := (List.append_eq_nil_iff.1 this).1
    unfold quoC at h2
    split at h2 <;> cases h2
end Go.Proofs.YtmilgbkkibahlaaGreatDoor
