/- Another way to write a name: each byte of each value as two digits, a blank ahead; no walk. -/
import Derived.Test.YtimkobcclkjdeaaNames
namespace Go.Proofs.Ytimkobcclkjdeaa
open Go.RowKit
set_option linter.unusedVariables false

def joinD : List (List UInt8) → List UInt8
  | [] => []
  | [p] => p
  | p :: l => p ++ 44 :: joinD l
def Good (P : List UInt8) (r : R) : Prop := (∀ X, cutD (P ++ X) = (P ++ (cutD X).1, (cutD X).2.1, (cutD X).2.2)) ∧ rdnD P = some r
theorem rdn_nil : rdnD [] = none := rfl
theorem Good.ne {P : List UInt8} {r : R} (h : Good P r) : P ≠ [] := by
  rintro rfl
  have := h.2
  rw [rdn_nil] at this
  cases this
theorem join_ne {x : List UInt8} {l : List (List UInt8)} (h : x ≠ []) : joinD (x :: l) ≠ [] := by
  cases l with
  | nil => exact h
  | cons y l => intro e; have := congrArg List.length e; simp [joinD] at this
theorem par_join : ∀ (k : Nat) (Ps : List (List UInt8)) (rs : List R), Ps ≠ [] → Ps.length ≤ k → Ps.length = rs.length → (∀ i (h1 : i < Ps.length) (h2 : i < rs.length), Good Ps[i] rs[i]) → parN k (joinD Ps) = some rs
  | k, [], rs, h, _, _, _ => absurd rfl h
  | 0, p :: Ps, rs, _, h, _, _ => by simp at h
  | k + 1, [p], [r], _, _, _, hg => by
    have g := hg 0 (by simp) (by simp)
    have hc : cutD p = (p, [], false) := by have := g.1 []; simpa [cutD] using this
    unfold parN
    rw [show joinD [p] = p from rfl, hc]
    simp only
    rw [show rdnD p = some r from g.2]
    simp
  | k + 1, [p], [], _, _, hl, _ => by simp at hl
  | k + 1, [p], r :: x :: rs, _, _, hl, _ => by simp at hl
  | k + 1, p :: q :: Ps, [], _, _, hl, _ => by simp at hl
  | k + 1, p :: q :: Ps, r :: rs, _, h, hl, hg => by
    have g := hg 0 (by simp) (by simp)
    have hc : cutD (p ++ 44 :: joinD (q :: Ps)) = (p, joinD (q :: Ps), true) := by
      have := g.1 (44 :: joinD (q :: Ps))
      rw [cutD_com (by decide)] at this
      simpa using this
    unfold parN
    rw [show joinD (p :: q :: Ps) = p ++ 44 :: joinD (q :: Ps) from rfl, hc]
    simp only
    rw [show rdnD p = some r from g.2]
    simp only [if_true]
    rw [par_join k (q :: Ps) rs (by simp) (by simpa using h) (by simpa using hl) (fun i h1 h2 => by
      have := hg (i + 1) (by simp at h1 ⊢; omega) (by simp; omega)
      simpa using this)]
    rfl
theorem parse_join (Ps : List (List UInt8)) (rs : List R) (h8 : Ps.length ≤ 8) (hl : Ps.length = rs.length) (hg : ∀ i (h1 : i < Ps.length) (h2 : i < rs.length), Good Ps[i] rs[i]) : parseD (joinD Ps) = some rs := by
  unfold parseD
  cases Ps with
  | nil =>
    obtain rfl : rs = [] := List.eq_nil_of_length_eq_zero (by simpa using hl.symm)
    rfl
  | cons p Ps =>
    have hr : 0 < rs.length := by rw [← hl]; simp
    have hpn : p ≠ [] := (hg 0 (by simp) hr).ne
    rw [if_neg (join_ne hpn), par_join 8 _ rs (by simp) h8 hl hg]

def digsU : List UInt8 := [48, 49, 50, 51, 52, 53, 54, 55, 56, 57, 65, 66, 67, 68, 69, 70]
def digU (n : Nat) : UInt8 := digsU.getD n 0
theorem kind_digU : ∀ n, n < 16 → kindC (digU n) = 1 ∧ hexB (digU n) = true ∧ hexN (digU n) = n ∧ (digU n).toNat ≠ 44 ∧ (digU n).toNat ≠ 92 := by decide
def hexT : List UInt8 → List UInt8
  | [] => []
  | c :: r => 92 :: digU (c.toNat / 16) :: digL (c.toNat % 16) :: hexT r
theorem hexT_append : ∀ a b : List UInt8, hexT (a ++ b) = hexT a ++ hexT b
  | [], _ => rfl
  | c :: a, b => by simp [hexT, hexT_append a b]
theorem hexT_len : ∀ a : List UInt8, (hexT a).length = 3 * a.length
  | [] => rfl
  | c :: a => by simp [hexT, hexT_len a]; omega
theorem cut_hex : ∀ (v X : List UInt8), cutD (hexT v ++ X) = (hexT v ++ (cutD X).1, (cutD X).2.1, (cutD X).2.2)
  | [], X => by simp [hexT]
  | c :: r, X => by
    have d2 := kind_dig (c.toNat % 16) (by omega)
    simp only [hexT, List.cons_append]
    rw [cutD_two, cutD_one ⟨d2.2.2.2.1, d2.2.2.2.2.1⟩, cut_hex r X]
theorem val_hex : ∀ (v : List UInt8) (f : Bool) (n : Nat), (hexT v).length ≤ n → valN n f (hexT v) = some v
  | [], f, n, _ => by cases n <;> simp [hexT, valN]
  | c :: r, f, 0, h => by simp [hexT] at h
  | c :: r, f, n + 1, h => by
    have d1 := kind_digU (c.toNat / 16) (by have := c.toNat_lt; omega)
    have d2 := kind_dig (c.toNat % 16) (by omega)
    have hone : oneD f (hexT (c :: r)) = (c, 3) := by
      show oneD f (92 :: digU (c.toNat / 16) :: digL (c.toNat % 16) :: hexT r) = _
      rw [oneD_mark (by decide), behD_hex (by rw [d1.1]; omega), if_pos ⟨d1.2.1, d2.2.1⟩, d1.2.2.1, d2.2.2.1]
      have : c.toNat / 16 * 16 + c.toNat % 16 = c.toNat := by omega
      rw [this]; simp
    have hne : hexT (c :: r) ≠ [] := by simp [hexT]
    unfold valN
    rw [if_neg hne, hone]
    simp only
    rw [if_neg (by decide), show (hexT (c :: r)).drop 3 = hexT r from rfl, val_hex r false n (by simp [hexT] at h; omega)]
    rfl

/-- A part with a blank ahead of its value, all of it by digits. -/
def alt (up : Bool) (r : R) : List UInt8 := (if up then low r.1 else r.1) ++ [61, 92, 50, 48] ++ hexT r.2
def altR (up : Bool) (r : R) : R := (if up then low r.1 else r.1, 32 :: r.2)
theorem alt_good (up : Bool) (r : R) (h : okType r.1 = true) (hl : r.2.length ≤ 99) : Good (alt up r) (altR up r) := by
  obtain ⟨T, hT⟩ : ∃ T, T = (if up = true then low r.1 else r.1) := ⟨_, rfl⟩
  have hok : okType T = true := by rw [hT]; split; rw [okType_low]; exact h; exact h
  unfold alt altR
  rw [← hT]
  have hall := okType_all hok
  constructor
  · intro X
    have e : T ++ [61, 92, 50, 48] ++ hexT r.2 ++ X = T ++ (61 :: 92 :: 50 :: 48 :: (hexT r.2 ++ X)) := by simp
    rw [e, cut_typ _ _ hall, cutD_one (by decide), cutD_two, cutD_one (by decide), cut_hex]
    simp
  · have ht := take_name T (92 :: 50 :: 48 :: hexT r.2) hall
    have e : T ++ [61, 92, 50, 48] ++ hexT r.2 = T ++ 61 :: (92 :: 50 :: 48 :: hexT r.2) := by simp
    rw [e]
    have hn : nameD (T ++ 61 :: (92 :: 50 :: 48 :: hexT r.2)) = T := ht.1
    have ha : afterD (T ++ 61 :: (92 :: 50 :: 48 :: hexT r.2)) = 92 :: 50 :: 48 :: hexT r.2 := by
      show List.drop 1 _ = _
      rw [ht.2]; rfl
    have hv : valD (92 :: 50 :: 48 :: hexT r.2) = some (32 :: r.2) := by
      show valN ((hexT r.2).length + 3) true (92 :: 50 :: 48 :: hexT r.2) = _
      rw [show (hexT r.2).length + 3 = ((hexT r.2).length + 2) + 1 from rfl]
      have hone : oneD true (92 :: 50 :: 48 :: hexT r.2) = (32, 3) := by
        rw [oneD_mark (by decide), behD_hex (by decide)]; rfl
      unfold valN
      rw [if_neg (by simp), hone]
      simp only
      rw [if_neg (by decide), show (92 :: 50 :: 48 :: hexT r.2).drop 3 = hexT r.2 from rfl, val_hex r.2 false _ (by omega)]
      rfl
    unfold rdnD
    rw [hn, ha, if_pos hok, hv]
    simp only
    rw [if_pos ⟨by simp, by simp; omega⟩]
theorem fold_blank (v : List UInt8) : fold (32 :: v) = fold v := by
  have := frun_ahead 1 v
  unfold fold
  rw [show (32 : UInt8) :: v = List.replicate 1 32 ++ v from rfl, this]
theorem alt_norm (up : Bool) (r : R) : normR (altR up r) = normR r := by
  unfold normR altR
  rw [fold_blank]
  cases up
  · rfl
  · show (low (low r.1), _) = _
    rw [low_low]
def altT (up : Bool) (l : List R) : List UInt8 := joinD (l.map (alt up))
theorem key_alt (up : Bool) (l : List R) (h8 : l.length ≤ 8) (hall : l.all okR = true) (hv : ∀ r ∈ l, r.2.length ≤ 99) (hf : l.all okF = true) : keyD (altT up l) = some (textD (l.map normR)) := by
  unfold keyD altT
  rw [parse_join (l.map (alt up)) (l.map (altR up)) (by simpa using h8) (by simp) (fun i h1 h2 => by
    have hi : i < l.length := by simpa using h1
    rw [List.getElem_map, List.getElem_map]
    have ho := List.all_eq_true.1 hall _ (List.getElem_mem hi)
    unfold okR at ho
    simp only [Bool.and_eq_true] at ho
    exact alt_good up _ ho.1.1 (hv _ (List.getElem_mem hi)))]
  simp only
  rw [if_pos, List.map_map]
  · have : (normR ∘ altR up) = normR := by funext r; exact alt_norm up r
    rw [this]
  · rw [List.all_map, List.all_eq_true]
    intro r hr
    have := List.all_eq_true.1 hf r hr
    show (!(fold (32 :: r.2)).isEmpty) = true
    rw [fold_blank]; exact this

/-- What stands of the first parts. -/
def altN (up : Bool) (l : List R) (j : Nat) : List UInt8 := altT up (l.take j)
theorem join_snoc : ∀ (l : List (List UInt8)) (p : List UInt8), joinD (l ++ [p]) = if l = [] then p else joinD l ++ 44 :: p
  | [], p => rfl
  | [q], p => rfl
  | q :: x :: l, p => by
    have := join_snoc (x :: l) p
    rw [if_neg (by simp)] at this
    rw [if_neg (by simp)]
    show q ++ 44 :: joinD (x :: l ++ [p]) = (q ++ 44 :: joinD (x :: l)) ++ 44 :: p
    rw [this]; simp
theorem altN_succ (up : Bool) (l : List R) (j : Nat) (h : j < l.length) : altN up l (j + 1) = (if j = 0 then [] else altN up l j ++ [44]) ++ alt up l[j] := by
  unfold altN altT
  rw [List.take_succ_eq_append_getElem h, List.map_append, List.map_singleton, join_snoc]
  by_cases h0 : j = 0
  · subst h0; simp
  · have : List.map (alt up) (l.take j) ≠ [] := by
      intro e; have := congrArg List.length e; rw [List.length_map, List.length_take, List.length_nil] at this; omega
    rw [if_neg this, if_neg h0]; simp
theorem alt_len (up : Bool) (r : R) (h1 : r.1.length ≤ 1000) (h2 : r.2.length ≤ 1000) : (alt up r).length ≤ 5000 := by
  unfold alt
  have := low_length r.1
  rw [List.length_append, List.length_append, hexT_len]
  split <;> simp <;> omega
theorem altN_len (up : Bool) (l : List R) (hs : smallL l) : ∀ j, j ≤ l.length → (altN up l j).length ≤ j * 5001
  | 0, _ => by simp [altN, altT, joinD]
  | j + 1, h => by
    have ih := altN_len up l hs j (by omega)
    have hr := hs.2 l[j] (List.getElem_mem (by omega))
    have := alt_len up l[j] hr.1 hr.2
    rw [altN_succ up l j (by omega), List.length_append]
    split <;> simp <;> omega
end Go.Proofs.Ytimkobcclkjdeaa
