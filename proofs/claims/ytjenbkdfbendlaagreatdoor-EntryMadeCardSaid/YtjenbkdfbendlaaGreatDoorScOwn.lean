/- Sound attributes, and classes, in rows of the call's own. -/
import Derived.Test.YtjenbkdfbendlaaGreatDoorEnOwn
import Derived.Test.YtjenbkdfbendlaaGreatDoorScPure
namespace Go.Proofs.YtjenbkdfbendlaaGreatDoor
open Go.RowKit
set_option linter.unusedVariables false

/-- What the row's attributes are; their values lie below the block B. -/
def SaysV (B : Nat) (w : World) (P : List PT) (L : List AT) : Prop := P.length = L.length ∧ ∀ j (h : j < L.length) (h' : j < P.length), P[j].1 = L[j].1 ∧ IsT B w L[j].2 P[j].2
def OwnV (B : Nat) (w : World) (v : Value) (L : List AT) : Prop := ∃ P, RowP B w v P ∧ SaysV B w P L
theorem saysV_go {B n : Nat} {w w' : World} {P : List PT} {L : List AT} (h : SaysV B w P L) (hb : Below n w w') (hn : B ≤ n) : SaysV B w' P L :=
  ⟨h.1, fun j h1 h2 => ⟨(h.2 j h1 h2).1, (h.2 j h1 h2).2.below (hb.mono hn) (Nat.le_refl _)⟩⟩
theorem ownV_below {B : Nat} {w w' : World} {v : Value} {L : List AT} (h : OwnV B w v L) (hb : Below w.heap.size w w') (hB : B ≤ w.heap.size) : OwnV B w' v L := by
  obtain ⟨P, h1, h2⟩ := h
  exact ⟨P, rowP_below h1 hb, saysV_go h2 hb hB⟩
theorem ownV_slice {B : Nat} {w : World} {v : Value} {L : List AT} (h : OwnV B w v L) : ∃ a c, v = .slice a L.length c := by
  obtain ⟨P, h1, h2⟩ := h
  rw [← h2.1]
  exact rowP_slice h1
theorem ownV_nil (B : Nat) (w : World) : OwnV B w (.slice none 0 0) [] := ⟨[], World.ownsRow_nil _ _ _ _, rfl, fun j h => absurd h (by simp)⟩
theorem ownV_isA {B : Nat} {w : World} {v : Value} {L : List AT} (h : OwnV B w v L) (hl : L.length ≤ maxLen) (hB : B ≤ w.heap.size) : IsA w.heap.size w L v := by
  obtain ⟨P, h1, h2⟩ := h
  by_cases hne : P = []
  · subst hne
    obtain ⟨a, c, hv⟩ := rowP_slice h1
    have : L = [] := List.eq_nil_of_length_eq_zero (by have := h2.1; simpa using this.symm)
    subst this
    exact ⟨a, c, hv, hl, fun j hj => absurd hj (by simp)⟩
  · obtain ⟨g, c, hv, _, hg, hc⟩ := rowP_at h1 hne
    refine ⟨_, c, by rw [hv, h2.1], hl, fun j hj => ?_⟩
    have hj' : j < P.length := by rw [h2.1]; exact hj
    obtain ⟨e1, e2⟩ := h2.2 j hj hj'
    refine ⟨g, 0, P[j].2, rfl, hg, ?_, ?_, e2.below (Below.refl _ _) hB⟩
    · rw [Nat.zero_add, ← e1]; exact (hc j hj').1
    · rw [Nat.zero_add]; exact (hc j hj').2
theorem saysV_more {B : Nat} {w w' : World} {P : List PT} {L : List AT} {X : List UInt8} {u : Value} {A : List (List UInt8)} (h : SaysV B w P L) (hu : IsT B w A u) (hb : Below B w w') : SaysV B w' (P ++ [(X, u)]) (L ++ [(X, A)]) := by
  refine ⟨by simp [h.1], fun j h1 h2 => ?_⟩
  by_cases hj : j < L.length
  · have hj' : j < P.length := by rw [h.1]; exact hj
    rw [List.getElem_append_left hj', List.getElem_append_left hj]
    exact ⟨(h.2 j hj hj').1, (h.2 j hj hj').2.below hb (Nat.le_refl _)⟩
  · have e1 : j = L.length := by simp at h1; omega
    have e2 : j = P.length := by rw [h.1]; exact e1
    have g1 : (P ++ [(X, u)])[j] = (X, u) := by simp [e2]
    have g2 : (L ++ [(X, A)])[j] = (X, A) := by simp [e1]
    rw [g1, g2]
    exact ⟨rfl, hu.below hb (Nat.le_refl _)⟩
theorem ownV_more {B : Nat} {w w' : World} {v' : Value} {P : List PT} {L : List AT} {X : ByteArray} {u : Value} {A : List (List UInt8)} (hs : SaysV B w P L) (hu : IsT B w A u)
    (hr : w'.ownsRow B 40 2 v' (P.length + 1) (cellsP P ++ [.string X, u])) (hb : Below B w w') : OwnV B w' v' (L ++ [(X.data.toList, A)]) := by
  refine ⟨P ++ [(X.data.toList, u)], ?_, saysV_more hs hu hb⟩
  unfold RowP
  rw [List.length_append, cellsP_append]
  show w'.ownsRow B 40 2 v' (P.length + 1) (cellsP P ++ [strV X.data.toList, u])
  rw [strV_whole]
  exact hr
/-- 'append(l, a)' of one attribute whose values came in. -/
theorem wpList_append_attrB {ops : Array Oper} {rest : List Oper} {o : Oper} {a : Act} {w : World} {Q : Exit → Act → World → Prop} (hgd : o.guard = none) (sl x : Operand)
    (ho : o.op = .call { callee := .builtin .append, args := #[sl, x], argTypes := #[22, 22] })
    (base : Nat) (v : Value) (L : List AT) (hs : a.eval sl = v) (X : ByteArray) (u : Value) (A : List (List UInt8)) (hown : OwnV base w v L) (hu : IsT base w A u) (hx : a.eval x = .slice (some ⟨w.heap.size, 0, none⟩) 1 1)
    (h63 : L.length + 1 ≤ 1000000) (hbase : base ≤ w.heap.size)
    (h : ∀ v' w', OwnV base w' v' (L ++ [(X.data.toList, A)]) → Below base w w' → wpList Tryz.prog ops Q rest (a.put o.dst v') w') : wpList Tryz.prog ops Q (o :: rest) a (w.alloc (.cells #[.string X, u] 40)) := by
  obtain ⟨i0, hi, hz0, hz1, hz2⟩ := info_parts infoA
  obtain ⟨P, hr, hsay⟩ := hown
  have hb : Below w.heap.size w (w.alloc (.cells #[.string X, u] 40)) := (Below.refl _ _).alloc (Nat.le_refl _) _
  have hPL := hsay.1
  have hu1 : u.oneCell' = true := by obtain ⟨_, _, rfl, _⟩ := hu; rfl
  refine wpList_append_own_at _ hgd sl x 22 ho base 40 i0 (.agg #[.string ⟨#[]⟩, .slice none 0 0]) 2 40 Tryz.underlying22 hi hz0 hz1 hz2 rfl (by decide) v P.length (cellsP P) hs (World.ownsRow.alloc hr _) ⟨w.heap.size, 0, none⟩ 1 1 [.string X, u] hx rfl (newsA w _ _) (by intro u' hu'; simp at hu'; rcases hu' with rfl | rfl; rfl; exact hu1) (by unfold maxLen; omega) (by omega) (by simp; omega) ?_
  intro v' w' hown' hgrow _ hat
  have hbb : Below base w w' := ((Below.refl base w).alloc hbase _).grown hgrow (by simp; omega) (fun k e => (World.ownsRow.lt hr k e).1)
  exact h v' w' (ownV_more hsay hu hown' hbb) hbb

abbrev KT := CT × Value × Value
def cellsK : List KT → List Value
  | [] => []
  | r :: l => strV r.1.name :: strV r.1.sup :: .bool r.1.st :: r.2.1 :: r.2.2 :: cellsK l
theorem cellsK_append : ∀ a b : List KT, cellsK (a ++ b) = cellsK a ++ cellsK b
  | [], _ => rfl
  | r :: a, b => by show _ :: _ :: _ :: _ :: _ :: cellsK (a ++ b) = _; rw [cellsK_append a b]; rfl
theorem cellsK_get : ∀ (l : List KT) (j : Nat) (h : j < l.length), (cellsK l)[j * 5]? = some (strV l[j].1.name) ∧ (cellsK l)[j * 5 + 1]? = some (strV l[j].1.sup) ∧ (cellsK l)[j * 5 + 2]? = some (.bool l[j].1.st) ∧ (cellsK l)[j * 5 + 3]? = some l[j].2.1 ∧ (cellsK l)[j * 5 + 4]? = some l[j].2.2
  | r :: l, 0, _ => ⟨rfl, rfl, rfl, rfl, rfl⟩
  | r :: l, j + 1, h => by
    have := cellsK_get l j (by simpa using h)
    rw [show (j + 1) * 5 = j * 5 + 5 from by omega]
    exact this
/-- The block b is the call's own, and neither the row's nor g. -/
abbrev Apart (B g : Nat) (w : World) (v : Value) (b : Nat) : Prop := B ≤ b ∧ b < w.heap.size ∧ some b ≠ v.ownBlock ∧ b ≠ g
def SaysK (B g : Nat) (w : World) (v : Value) (P : List KT) : Prop := ∀ j (h : j < P.length), IsTo (Apart B g w v) w P[j].1.mustL P[j].2.1 ∧ IsTo (Apart B g w v) w P[j].1.mayL P[j].2.2
theorem saysK_below {B g : Nat} {w w' : World} {v : Value} {P : List KT} (h : SaysK B g w v P) (hb : Below w.heap.size w w') : SaysK B g w' v P :=
  fun j h1 => ⟨(h j h1).1.imp (fun b hk => ⟨hk.1, Nat.lt_of_lt_of_le hk.2.1 hb.size, hk.2.2⟩) (fun b o hk => hb.cell (p := ⟨b, o, none⟩) hk.2.1), (h j h1).2.imp (fun b hk => ⟨hk.1, Nat.lt_of_lt_of_le hk.2.1 hb.size, hk.2.2⟩) (fun b o hk => hb.cell (p := ⟨b, o, none⟩) hk.2.1)⟩
/-- The value v is the list of these classes, below block n0. -/
def IsK (n0 : Nat) (w : World) (L : List CT) (v : Value) : Prop := ∃ a c, v = .slice a L.length c ∧ L.length ≤ maxLen ∧
  ∀ j, (h : j < L.length) → ∃ b off u1 u2, a = some ⟨b, off, none⟩ ∧ b < n0 ∧ w.cell? ⟨b, off + j * 5, none⟩ = some (strV L[j].name) ∧ w.cell? ⟨b, off + j * 5 + 1, none⟩ = some (strV L[j].sup) ∧ w.cell? ⟨b, off + j * 5 + 2, none⟩ = some (.bool L[j].st) ∧ w.cell? ⟨b, off + j * 5 + 3, none⟩ = some u1 ∧ w.cell? ⟨b, off + j * 5 + 4, none⟩ = some u2 ∧ IsT n0 w L[j].mustL u1 ∧ IsT n0 w L[j].mayL u2
theorem IsK.below {n0 n1 : Nat} {w w' : World} {L : List CT} {v : Value} (h : IsK n0 w L v) (hb : Below n0 w w') (hn : n0 ≤ n1) : IsK n1 w' L v := by
  obtain ⟨a, c, hv, hm, hc⟩ := h
  refine ⟨a, c, hv, hm, fun j hj => ?_⟩
  obtain ⟨b, off, u1, u2, ha, hlt, c0, c1, c2, c3, c4, ht, hu⟩ := hc j hj
  exact ⟨b, off, u1, u2, ha, Nat.lt_of_lt_of_le hlt hn, (hb.cell (p := ⟨b, _, none⟩) hlt).trans c0, (hb.cell (p := ⟨b, _, none⟩) hlt).trans c1, (hb.cell (p := ⟨b, _, none⟩) hlt).trans c2, (hb.cell (p := ⟨b, _, none⟩) hlt).trans c3, (hb.cell (p := ⟨b, _, none⟩) hlt).trans c4, ht.below hb hn, hu.below hb hn⟩
theorem saysK_more {B g : Nat} {w w' : World} {v v' : Value} {P : List KT} {r : KT} (h : SaysK B g w v P) (hu : IsTo (Apart B g w v) w r.1.mustL r.2.1) (hv : IsTo (Apart B g w v) w r.1.mayL r.2.2)
    (hg : w.grownBy w' v.ownBlock) (hat : v'.ownBlock = v.ownBlock ∨ v'.ownBlock = some w.heap.size) : SaysK B g w' v' (P ++ [r]) := by
  have ok : ∀ b, Apart B g w v b → Apart B g w' v' b := fun b hb => ⟨hb.1, Nat.lt_of_lt_of_le hb.2.1 hg.size, by
    rcases hat with e | e
    · rw [e]; exact hb.2.2.1
    · rw [e]; intro h; have := Option.some.inj h; have := hb.2.1; omega, hb.2.2.2⟩
  have hc : ∀ b o, Apart B g w v b → w'.cell? ⟨b, o, none⟩ = w.cell? ⟨b, o, none⟩ := fun b o hb => by
    have := hg.block b hb.2.1 hb.2.2.1
    simp only [World.cell?, this]
  intro j h1
  by_cases hj : j < P.length
  · rw [List.getElem_append_left hj]
    exact ⟨(h j hj).1.imp ok hc, (h j hj).2.imp ok hc⟩
  · have e2 : j = P.length := by simp at h1; omega
    have g1 : (P ++ [r])[j] = r := by simp [e2]
    rw [g1]
    exact ⟨hu.imp ok hc, hv.imp ok hc⟩
end Go.Proofs.YtjenbkdfbendlaaGreatDoor
