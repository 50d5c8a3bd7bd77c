/- Tlvs that a call has gathered into a row of its own; no program. -/
import Derived.Test.YtiagcegclgallaaTlvW
import Derived.Maps.AppendAt
namespace Go.Proofs.Ytiagcegclgallaa
open Go.RowKit
set_option linter.unusedVariables false

/-- Each of ts lies in its three of xs, in memory newer than B, and not in block r. -/
def Els (B : Nat) (w : World) (r : Option Nat) : List T → List Value → Prop
  | [], xs => xs = []
  | t :: ts, xs => ∃ x0 x1 x2 ys, xs = x0 :: x1 :: x2 :: ys ∧ NewT B w t (.agg #[x0, x1, x2]) ∧ (∀ g, r = some g → OffT g w t (.agg #[x0, x1, x2])) ∧ Els B w r ts ys

theorem Els.len {B : Nat} {w : World} {r : Option Nat} : ∀ {ts : List T} {xs : List Value}, Els B w r ts xs → xs.length = ts.length * 3
  | [], xs, h => by rw [show xs = [] from h]; rfl
  | t :: ts, xs, ⟨x0, x1, x2, ys, e, _, _, h⟩ => by rw [e]; simp [Els.len h]; omega

theorem Els.step {B g0 : Nat} {w w' : World} {r r' : Option Nat} (hb : ButG w.heap.size g0 w w') (hs : w.heap.size ≤ w'.heap.size) (hg0 : g0 < B ∨ r = some g0 ∨ w.heap.size ≤ g0)
    (hr : ∀ g, r' = some g → r = some g ∨ g < B ∨ w.heap.size ≤ g) : ∀ {ts : List T} {xs : List Value}, Els B w r ts xs → Els B w' r' ts xs
  | [], xs, h => h
  | t :: ts, xs, ⟨x0, x1, x2, ys, e, h1, h2, h3⟩ => by
    have off : ∀ g, (r = some g ∨ g < B ∨ w.heap.size ≤ g) → OffT g w t (.agg #[x0, x1, x2]) := fun g hg => by
      rcases hg with h | h | h
      · exact h2 g h
      · exact h1.2 g h
      · exact IsT.off h t _ h1.1
    have o0 : OffT g0 w t (.agg #[x0, x1, x2]) := off g0 (by rcases hg0 with h | h | h; exact .inr (.inl h); exact .inl h; exact .inr (.inr h))
    exact ⟨x0, x1, x2, ys, e, ⟨h1.1.butG hb hs t _ o0, fun f hf => OffT.butG hb t _ h1.1 o0 (h1.2 f hf)⟩, fun g hg => OffT.butG hb t _ h1.1 o0 (off g (hr g hg)), Els.step hb hs hg0 hr h3⟩

theorem Els.snoc {B : Nat} {w : World} {r : Option Nat} {t : T} {x0 x1 x2 : Value} (ht : NewT B w t (.agg #[x0, x1, x2])) (ho : ∀ g, r = some g → OffT g w t (.agg #[x0, x1, x2])) :
    ∀ {ts : List T} {xs : List Value}, Els B w r ts xs → Els B w r (ts ++ [t]) (xs ++ [x0, x1, x2])
  | [], xs, h => by rw [show xs = [] from h]; exact ⟨x0, x1, x2, [], rfl, ht, ho, rfl⟩
  | t' :: ts, xs, ⟨y0, y1, y2, ys, e, h1, h2, h3⟩ => by
    rw [e]
    exact ⟨y0, y1, y2, ys ++ [x0, x1, x2], rfl, h1, h2, Els.snoc ht ho h3⟩

theorem Els.isTs {B g : Nat} {w : World} {r : Option Nat} (hg : g < w.heap.size) : ∀ {ts : List T} {xs : List Value} (i : Nat), Els B w r ts xs → (∀ j u, xs[j]? = some u → w.cell? ⟨g, 0 + i * 3 + j, none⟩ = some u) → IsTs w.heap.size w ts (some ⟨g, 0, none⟩) i
  | [], _, _, _, _ => trivial
  | t :: ts, xs, i, ⟨x0, x1, x2, ys, e, h1, _, h3⟩, hc => by
    subst e
    refine ⟨⟨g, 0, x0, x1, x2, rfl, hg, hc 0 x0 rfl, hc 1 x1 rfl, hc 2 x2 rfl, h1.1⟩, Els.isTs hg (i + 1) h3 fun j u hu => ?_⟩
    have := hc (j + 3) u (by simpa using hu)
    rw [show 0 + (i + 1) * 3 + j = 0 + i * 3 + (j + 3) from by omega]; exact this

theorem Els.offTs {B g f : Nat} {w : World} {r : Option Nat} (hf : f < B) (hgB : B ≤ g) : ∀ {ts : List T} {xs : List Value} (i : Nat), Els B w r ts xs → (∀ j u, xs[j]? = some u → w.cell? ⟨g, 0 + i * 3 + j, none⟩ = some u) → OffTs f w ts (some ⟨g, 0, none⟩) i
  | [], _, _, _, _ => trivial
  | t :: ts, xs, i, ⟨x0, x1, x2, ys, e, h1, _, h3⟩, hc => by
    subst e
    refine ⟨⟨g, 0, x0, x1, x2, rfl, by omega, hc 0 x0 rfl, hc 1 x1 rfl, hc 2 x2 rfl, h1.2 f hf⟩, Els.offTs hf hgB (i + 1) h3 fun j u hu => ?_⟩
    have := hc (j + 3) u (by simpa using hu)
    rw [show 0 + (i + 1) * 3 + j = 0 + i * 3 + (j + 3) from by omega]; exact this

/-- The row that was gathered, as the list that it is. -/
theorem Els.done {B : Nat} {w : World} {v : Value} {ts : List T} {xs : List Value} (h : Els B w v.ownBlock ts xs) (ho : w.ownsRow B 24 3 v ts.length xs) : ∃ a c, v = .slice a ts.length c ∧ IsTs w.heap.size w ts a 0 ∧ ∀ f, f < B → OffTs f w ts a 0 := by
  rcases ho.2 with ⟨rfl, hn⟩ | ⟨g, cap, cur, rfl, hb, hg, _⟩
  · have : ts = [] := List.eq_nil_of_length_eq_zero hn
    subst this
    exact ⟨none, 0, rfl, trivial, fun _ _ => trivial⟩
  · have hlt : g < w.heap.size := (Array.getElem?_eq_some_iff.1 hg).1
    have hc : ∀ j u, xs[j]? = some u → w.cell? ⟨g, 0 + 0 * 3 + j, none⟩ = some u := fun j u hu => by
      have := ho.cells (g := g) rfl j u hu
      have hadd : (⟨g, 0, none⟩ : Addr).add j = ⟨g, j, none⟩ := by unfold Addr.add; split <;> simp_all
      rw [hadd] at this
      simpa using this
    exact ⟨_, cap, rfl, Els.isTs hlt 0 h hc, fun f hf => Els.offTs hf hb 0 h hc⟩

theorem dec_pos {d : Nat} {l : List UInt8} {t : T} {n : Nat} (h : dec d l = .ok (t, n)) : 1 ≤ n ∧ n ≤ l.length := by
  by_cases e1 : (tagD l).2.1 ≠ 0
  · unfold dec at h; rw [if_pos e1] at h; cases h
  · by_cases e2 : (lenD (l.drop 1)).2.1 ≠ 0
    · unfold dec at h; rw [if_neg e1, if_pos e2] at h; cases h
    · obtain ⟨m, e3⟩ : ∃ m, (lenD (l.drop 1)).1.toNat = m := ⟨_, rfl⟩
      by_cases e5 : l.length < 1 + (lenD (l.drop 1)).2.2 + m
      · rw [dec_more d l m _ e1 e2 e3 rfl e5] at h; cases h
      · by_cases e6 : isListB (tagD l).1 = true
        · cases d with
          | zero => rw [dec_list0 l m _ e1 e2 e3 rfl e5 e6] at h; cases h
          | succ d' =>
            rw [dec_listS d' l m _ e1 e2 e3 rfl e5 e6] at h
            generalize decsWith (dec d') m _ = r at h
            cases r with
            | none => cases h
            | some ts => simp only [Except.ok.injEq, Prod.mk.injEq] at h; omega
        · rw [dec_leaf d l m _ e1 e2 e3 rfl e5 (by simpa using e6)] at h
          simp only [Except.ok.injEq, Prod.mk.injEq] at h; omega

theorem decs_err {D : List UInt8 → Except Int (T × Nat)} {f : Nat} {l : List UInt8} {e : Int} (h : D l = .error e) (hl : l ≠ []) : decsWith D f l = none := by
  cases l with
  | nil => exact absurd rfl hl
  | cons c r => cases f with
    | zero => rfl
    | succ f => show (match D (c :: r) with | .error _ => none | .ok (t, n) => (decsWith D f ((c :: r).drop n)).map (t :: ·)) = none; rw [h]

theorem decs_ok {D : List UInt8 → Except Int (T × Nat)} {f : Nat} {l : List UInt8} {t : T} {n : Nat} (h : D l = .ok (t, n)) (hl : l ≠ []) : decsWith D (f + 1) l = (decsWith D f (l.drop n)).map (t :: ·) := by
  cases l with
  | nil => exact absurd rfl hl
  | cons c r => show (match D (c :: r) with | .error _ => none | .ok (t, n) => (decsWith D f ((c :: r).drop n)).map (t :: ·)) = _; rw [h]

theorem decs_nil (D : List UInt8 → Except Int (T × Nat)) (f : Nat) : decsWith D f [] = some [] := by cases f <;> rfl

end Go.Proofs.Ytiagcegclgallaa
