/- What bytes say: no program. -/
import Derived.Test.YtiagcegclgallaaTlv
namespace Go.Proofs.Ytiagcegclgallaa

/-- The first byte: its number, an error, how many bytes were read. -/
def tagD : List UInt8 → Int × Int × Nat
  | [] => (0, 6, 0)
  | c :: _ => if (c.toNat : Int) % 32 = 31 then (0, 5, 1) else ((c.toNat : Int), 0, 1)

/-- The length behind it. -/
def lenD : List UInt8 → Int × Int × Nat
  | [] => (0, 6, 0)
  | f :: r =>
    if f.toNat < 128 then ((f.toNat : Int), 0, 1)
    else if f.toNat = 128 ∨ 131 < f.toNat then (0, 5, 1)
    else if r.length < f.toNat - 128 then (0, 6, 1)
    else if (r[0]?.getD 0).toNat = 0 ∨ rdFrom 0 (r.take (f.toNat - 128)) < 128 ∨ 1048576 < rdFrom 0 (r.take (f.toNat - 128)) then (0, 5, 1 + (f.toNat - 128))
    else (rdFrom 0 (r.take (f.toNat - 128)), 0, 1 + (f.toNat - 128))

/-- Tlvs one behind another, till nothing is left. -/
def decsWith (D : List UInt8 → Except Int (T × Nat)) : Nat → List UInt8 → Option (List T)
  | _, [] => some []
  | 0, _ :: _ => none
  | f + 1, c :: l => match D (c :: l) with
    | .error _ => none
    | .ok (t, n) => (decsWith D f ((c :: l).drop n)).map (t :: ·)

/-- What bytes say from their beginning on, at most d lists in one another. -/
def dec (d : Nat) (l : List UInt8) : Except Int (T × Nat) :=
  if (tagD l).2.1 ≠ 0 then .error (tagD l).2.1
  else if (lenD (l.drop 1)).2.1 ≠ 0 then .error (lenD (l.drop 1)).2.1
  else
    let h := 1 + (lenD (l.drop 1)).2.2
    let n := (lenD (l.drop 1)).1.toNat
    if l.length < h + n then .error 6
    else if isListB (tagD l).1 then
      match d with
      | 0 => .error 5
      | d' + 1 => match decsWith (dec d') n ((l.drop h).take n) with
        | none => .error 5
        | some ts => .ok (.mk (tagD l).1 ⟨#[]⟩ ts, h + n)
    else .ok (.mk (tagD l).1 ⟨((l.drop h).take n).toArray⟩ [], h + n)

theorem rd0_bound (l : List UInt8) : ∀ j : Nat, j ≤ l.length → 0 ≤ rdFrom 0 (l.take j) ∧ rdFrom 0 (l.take j) < 256 ^ j
  | 0, _ => by simp [rdFrom]
  | j + 1, h => by
    have ih := rd0_bound l j (by omega)
    have hb := l[j].toNat_lt
    rw [rdFrom_take 0 l j (by omega), Int.pow_succ]
    generalize rdFrom 0 (l.take j) = v at ih ⊢
    generalize (l[j]).toNat = b at hb ⊢
    generalize (256 : Int) ^ j = q at ih ⊢
    omega

theorem rd0_small (l : List UInt8) (j : Nat) (h : j ≤ l.length) (h3 : j ≤ 3) : 0 ≤ rdFrom 0 (l.take j) ∧ rdFrom 0 (l.take j) < 16777216 := by
  have hb := rd0_bound l j h
  have : j = 0 ∨ j = 1 ∨ j = 2 ∨ j = 3 := by omega
  rcases this with rfl | rfl | rfl | rfl <;> omega

theorem tagD_bd (l : List UInt8) : 0 ≤ (tagD l).1 ∧ (tagD l).1 ≤ 255 := by
  cases l with
  | nil => simp [tagD]
  | cons c r =>
    have := c.toNat_lt
    by_cases h : (c.toNat : Int) % 32 = 31
    · rw [show tagD (c :: r) = (0, 5, 1) from if_pos h]; exact ⟨by decide, by decide⟩
    · rw [show tagD (c :: r) = ((c.toNat : Int), 0, 1) from if_neg h]; exact ⟨by show (0 : Int) ≤ c.toNat; omega, by show (c.toNat : Int) ≤ 255; omega⟩

end Go.Proofs.Ytiagcegclgallaa
