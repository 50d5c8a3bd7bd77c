/- What eval tells, as functions. No program. -/
import Derived.Test.YtmilgbkkibahlaaGreatDoorFiPure
import Derived.Test.YtmilgbkkibahlaaGreatDoorEnHas
namespace Go.Proofs.YtmilgbkkibahlaaGreatDoor
set_option linter.unusedVariables false
set_option linter.unusedSimpArgs false

/-- Which of two values is less, by a rule; none: they have no order. -/
def lessD (r : Nat) (a b : List UInt8) : Option Bool := match normD r a, normD r b with
  | some x, some y => if r = 1 then some (Op.bytesLess x y) else if r = 2 then (match numD a, numD b with
    | some m, some n => some (decide (m < n))
    | _, _ => none) else none
  | _, _ => none
def midO : List UInt8 → List (List UInt8) → Bool
  | _, [] => true
  | s, x :: l => (Lib.cut s x).2.2 && midO (Lib.cut s x).2.1 l
/-- Does a norm begin, go on and end with these? -/
def madeO (n : List UInt8) (p : List (List UInt8)) : Bool :=
  Lib.hasPrefix n (p.getD 0 []) && Lib.hasSuffix (Lib.trimPrefix n (p.getD 0 [])) (p.getD (p.length - 1) []) && midO (Lib.trimSuffix (Lib.trimPrefix n (p.getD 0 [])) (p.getD (p.length - 1) [])) ((p.drop 1).take (p.length - 2))
def partsE (r : Nat) (p : List (List UInt8)) (v : List UInt8) : Bool := match normD r v with
  | some n => madeO n (p.map low)
  | none => false
def aboveE (r : Nat) (a b : List UInt8) : Bool := lessD r a b == some false
def askE (k : Int) (t x : List UInt8) : Bool :=
  if k = 4 then (normD (ruleD t) x).isSome else if k = 6 ∨ k = 7 then (lessD (ruleD t) x x).isSome else if k = 5 then decide (ruleD t = 1) else (canonD t).isSome
def fitE (L : List AT) (k : Int) (t x : List UInt8) (p : List (List UInt8)) : Bool :=
  if k = 4 then hasA L t x else if k = 6 then (findA L t).any (fun v => aboveE (ruleD t) v x) else if k = 7 then (findA L t).any (fun v => aboveE (ruleD t) x v) else if k = 5 then (findA L t).any (partsE (ruleD t) p) else decide (0 < (findA L t).length)
def leafE (L : List AT) (k : Int) (t x : List UInt8) (p : List (List UInt8)) : Nat := if askE k t x then (if fitE L k t x p then 1 else 0) else 2
def flipE : Nat → Nat
  | 0 => 1
  | 1 => 0
  | _ => 2
/-- The first of two truths that is among them, or another one. -/
def firstE (a b o : Nat) (l : List Nat) : Nat := if a ∈ l then a else if b ∈ l then b else o
mutual
def evF (L : List AT) : FT → Nat
  | .mk k t x p l => if k = 1 then firstE 0 2 1 (evFs L l) else if k = 2 then firstE 1 2 0 (evFs L l) else if k = 3 then flipE ((evFs L l).headD 2) else leafE L k t x p
def evFs (L : List AT) : List FT → List Nat
  | [] => []
  | f :: l => evF L f :: evFs L l
end
def evalD (L : List AT) (f : FT) : Nat := if mayF 13 f then evF L f else 2
theorem firstE_lt {a b o : Nat} {l : List Nat} (ha : a ≤ 2) (hb : b ≤ 2) (ho : o ≤ 2) : firstE a b o l ≤ 2 := by unfold firstE; (repeat' split) <;> omega
theorem flipE_lt (n : Nat) : flipE n ≤ 2 := by unfold flipE; split <;> omega
theorem leafE_lt (L : List AT) (k : Int) (t x : List UInt8) (p : List (List UInt8)) : leafE L k t x p ≤ 2 := by unfold leafE; (repeat' split) <;> omega
theorem evF_lt (L : List AT) (f : FT) : evF L f ≤ 2 := by
  cases f with
  | mk k t x p l =>
    rw [evF]
    split
    · exact firstE_lt (by omega) (by omega) (by omega)
    · split
      · exact firstE_lt (by omega) (by omega) (by omega)
      · split
        · exact flipE_lt _
        · exact leafE_lt _ _ _ _ _
theorem evFs_map (L : List AT) : ∀ l : List FT, evFs L l = l.map (evF L)
  | [] => rfl
  | f :: l => by rw [evFs, evFs_map L l]; rfl
end Go.Proofs.YtmilgbkkibahlaaGreatDoor
