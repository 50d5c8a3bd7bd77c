/- Sound attributes, and classes, in rows of the call's own. -/
import Derived.Test.YtlimajgmdhhggaaGreatDoorEnOwn
import Derived.Test.YtlimajgmdhhggaaGreatDoorScPure
namespace Go.Proofs.YtlimajgmdhhggaaGreatDoor
open Go.RowKit
set_option linter.unusedVariables false

/-- What the row's attributes are; their values lie below the block B. -/
def SaysV (B : Nat) (w : World) (P : List PT) (L : List AT) : Prop := P.length = L.length ∧ ∀ j (h : j < L.length) (h' : j < P.length), P[j].1 = L[j].1 ∧ IsT B w L[j].2 P[j].2
def OwnV (B : Nat) (w : World) (v : Value) (L : List AT) : Prop := ∃ P, RowP B w v P ∧ SaysV B w P L
theorem saysV_go {B n : Nat} {w w' : World} {P : List PT} {L : List AT} (h : SaysV B w P L) (hb : Below n w w') (hn : B ≤ n) : SaysV B w' P L :=
  ⟨h.1, fun j h1 h2 => ⟨(h.2 j h1 h2).1, (h.2 j h1 h2).2.below (hb.mono hn) (Nat.le_refl _)⟩⟩
theorem ownV_below {B : Nat} {w w' : World} {v : Value} {L : List AT} (h : OwnV B w v L) (hb : Below w.heap.size w w') (hB : B ≤ w.heap.size) : OwnV B w' v L := by
  obtain ⟨P, h1, h2⟩ := h
  exact ⟨P, rowP_below h1 hb, saysV_go h2 hb hB⟩
theorem ownV_slice {B : Nat} {w : World} {v : Value} {L : List AT} (h : OwnV B w v L) : ∃ a c, v = .slice a L.length c := by
  obtain ⟨P, h1, h2⟩ := h
  rw [← h2.1]
  exact rowP_slice h1
theorem ownV_nil (B : Nat) (w : World) : OwnV B w (.slice none 0 0) [] := ⟨[], World.ownsRow_nil _ _ _ _, rfl, fun j h => absurd h (by simp)⟩
theorem ownV_isA {B : Nat} {w : World} {v : Value} {L : List AT} (h : OwnV B w v L) (hl : L.length ≤ maxLen) (hB : B ≤ w.heap.size) : IsA w.heap.size w L v := by
  obtain ⟨P, h1, h2⟩ := h
  by_cases hne : P = []
  · subst hne
    obtain ⟨a, c, hv⟩ := rowP_slice h1
    have : L = [] := List.eq_nil_of_length_eq_zero (by have := h2.1; simpa using this.symm)
    subst this
    exact ⟨a, c, hv, hl, fun j hj => absurd hj (by simp)⟩
  · obtain ⟨g, c, hv, _, hg, hc⟩ := rowP_at h1 hne
    refine ⟨_, c, by rw [hv, h2.1], hl, fun j hj => ?_⟩
    have hj' : j < P.length := by rw [h2.1]; exact hj
    obtain ⟨e1, e2⟩ := h2.2 j hj hj'
    refine ⟨g, 0, P[j].2, rfl, hg, ?_, ?_, e2.below (Below.refl _ _) hB⟩
    · rw [Nat.zero_add, ← e1]; exact (hc j hj').1
    · rw [Nat.zero_add]; exact (hc j hj').2
theorem saysV_more {B : Nat} {w w' : World} {P : List PT} {L : List AT} {X : List UInt8} {u : Value} {A : List (List UInt8)} (h : SaysV B w P L) (hu : IsT B w A u) (hb : Below B w w') : SaysV B w' (P ++ [(X, u)]) (L ++ [(X, A)]) := by
  refine ⟨by simp [h.1], fun j h1 h2 => ?_⟩
  by_cases hj : j < L.length
  · have hj' : j < P.length := by rw [h.1]; exact hj
    rw [List.getElem_append_left hj', List.getElem_append_left hj]
    exact ⟨(h.2 j hj hj').1, (h.2 j hj hj').2.below hb (Nat.le_refl _)⟩
  · have e1 : j = L.length := by simp at h1; omega
    have e2 : j = P.length := by rw [h.1]; exact e1
    have g1 : (P ++ [(X, u)])[j] = (X, u) := by simp [e2]
    have g2 : (L ++ [(X, A)])[j] = (X, A) := by simp [e1]
    rw [g1, g2]
    exact ⟨rfl, hu.below hb (Nat.le_refl _)⟩
theorem ownV_more {B : Nat} {w w' : World} {v' : Value} {P : List PT} {L : List AT} {X : ByteArray} {u : Value} {A : List (List UInt8)} (hs : SaysV B w P L) (hu : IsT B w A u)
    (hr : w'.ownsRow B 54 2 v' (P.length + 1) (cellsP P ++ [.string X, u])) (hb : Below B w w') : OwnV B w' v' (L ++ [(X.data.toList, A)]) := by
  refine ⟨P ++ [(X.data.toList, u)], ?_, saysV_more hs hu hb⟩
  unfold RowP
  rw [List.length_append, cellsP_append]
  show w'.ownsRow B 54 2 v' (P.length + 1) (cellsP P ++ [strV X.data.toList, u])
  rw [strV_whole]
  exact hr
/-- 'append(l, a)' of one attribute whose values came in. -/
theorem wpList_append_attrB {ops : Array Oper} {rest : List Oper} {o : Oper} {a : Act} {w : World} {Q : Exit → Act → World → Prop} (hgd : o.guard = none) (sl x : Operand)
    (ho : o.op = .call { callee := .builtin .append, args := #[sl, x], argTypes := #[22, 22] })
    (base : Nat) (v : Value) (L : List AT) (hs : a.eval sl = v) (X : ByteArray) (u : Value) (A : List (List UInt8)) (hown : OwnV base w v L) (hu : IsT base w A u) (hx : a.eval x = .slice (some ⟨w.heap.size, 0, none⟩) 1 1)
    (h63 : L.length + 1 ≤ 1000000) (hbase : base ≤ w.heap.size)
    (h : ∀ v' w', OwnV base w' v' (L ++ [(X.data.toList, A)]) → Below base w w' → wpList Tryz.prog ops Q rest (a.put o.dst v') w') : wpList Tryz.prog ops Q (o :: rest) a (w.alloc (.cells #[.string X, u] 54)) := by
  obtain ⟨i0, hi, hz0, hz1, hz2⟩ := info_parts infoA
  obtain ⟨P, hr, hsay⟩ := hown
  have hb : Below w.heap.size w (w.alloc (.cells #[.string X, u] 54)) := (Below.refl _ _).alloc (Nat.le_refl _) _
  have hPL := hsay.1
  have hu1 : u.oneCell' = true := by obtain ⟨_, _, rfl, _⟩ := hu; rfl
  refine wpList_append_own_at _ hgd sl x 22 ho base 54 i0 (.agg #[.string ⟨#[]⟩, .slice none 0 0]) 2 40 Tryz.underlying22 hi hz0 hz1 hz2 rfl (by decide) v P.length (cellsP P) hs (World.ownsRow.alloc hr _) ⟨w.heap.size, 0, none⟩ 1 1 [.string X, u] hx rfl (newsA w _ _) (by intro u' hu'; simp at hu'; rcases hu' with rfl | rfl; rfl; exact hu1) (by unfold maxLen; omega) (by omega) (by simp; omega) ?_
  intro v' w' hown' hgrow _ hat
  have hbb : Below base w w' := ((Below.refl base w).alloc hbase _).grown hgrow (by simp; omega) (fun k e => (World.ownsRow.lt hr k e).1)
  exact h v' w' (ownV_more hsay hu hown' hbb) hbb

abbrev KT := CT × Value × Value
def cellsK : List KT → List Value
  | [] => []
  | r :: l => strV r.1.name :: strV r.1.sup :: .bool r.1.st :: r.2.1 :: r.2.2 :: cellsK l
theorem cellsK_append : ∀ a b : List KT, cellsK (a ++ b) = cellsK a ++ cellsK b
  | [], _ => rfl
  | r :: a, b => by show _ :: _ :: _ :: _ :: _ :: cellsK (a ++ b) = _; rw [cellsK_append a b]; rfl
theorem cellsK_get : ∀ (l : List KT) (j : Nat) (h : j < l.length), (cellsK l)[j * 5]? = some (strV l[j].1.name) ∧ (cellsK l)[j * 5 + 1]? = some (strV l[j].1.sup) ∧ (cellsK l)[j * 5 + 2]? = some (.bool l[j].1.st) ∧ (cellsK l)[j * 5 + 3]? = some l[j].2.1 ∧ (cellsK l)[j * 5 + 4]? = some l[j].2.2
  | r :: l, 0, _ => ⟨rfl, rfl, rfl, rfl, rfl⟩
  | r :: l, j + 1, h => by
    have := cellsK_get l j (by simpa using h)
    rw [show (j + 1) * 5 = j * 5 + 5 from by omega]
    exact this
theorem infoK : (Tryz.prog.info? 186).map (fun i => (i.zero, i.size, i.bytes)) = some (some (.agg #[.string ⟨#[]⟩, .string ⟨#[]⟩, .bool false, .slice none 0 0, .slice none 0 0]), 5, 88) := by kernel_rfl
def RowK (B : Nat) (w : World) (v : Value) (P : List KT) : Prop := w.ownsRow B 186 5 v P.length (cellsK P)
/-- The block b is the call's own, and neither the row's nor g. -/
abbrev Apart (B g : Nat) (w : World) (v : Value) (b : Nat) : Prop := B ≤ b ∧ b < w.heap.size ∧ some b ≠ v.ownBlock ∧ b ≠ g
def SaysK (B g : Nat) (w : World) (v : Value) (P : List KT) : Prop := ∀ j (h : j < P.length), IsTo (Apart B g w v) w P[j].1.mustL P[j].2.1 ∧ IsTo (Apart B g w v) w P[j].1.mayL P[j].2.2
/-- The value v is the list of these classes, in a row of the call's own; what they must and may have lies elsewhere. -/
def OwnK (B g : Nat) (w : World) (v : Value) (L : List CT) : Prop := ∃ P : List KT, P.map (·.1) = L ∧ RowK B w v P ∧ SaysK B g w v P
theorem rowK_below {B : Nat} {w w' : World} {v : Value} {P : List KT} (h : RowK B w v P) (hb : Below w.heap.size w w') : RowK B w' v P :=
  World.ownsRow.kept h (row := none) ⟨hb.os, hb.tape, hb.output, hb.size, fun k hk _ => hb.block k hk⟩ (by cases v.ownBlock <;> simp)
theorem saysK_below {B g : Nat} {w w' : World} {v : Value} {P : List KT} (h : SaysK B g w v P) (hb : Below w.heap.size w w') : SaysK B g w' v P :=
  fun j h1 => ⟨(h j h1).1.imp (fun b hk => ⟨hk.1, Nat.lt_of_lt_of_le hk.2.1 hb.size, hk.2.2⟩) (fun b o hk => hb.cell (p := ⟨b, o, none⟩) hk.2.1), (h j h1).2.imp (fun b hk => ⟨hk.1, Nat.lt_of_lt_of_le hk.2.1 hb.size, hk.2.2⟩) (fun b o hk => hb.cell (p := ⟨b, o, none⟩) hk.2.1)⟩
theorem ownK_below {B g : Nat} {w w' : World} {v : Value} {L : List CT} (h : OwnK B g w v L) (hb : Below w.heap.size w w') : OwnK B g w' v L := by
  obtain ⟨P, h0, h1, h2⟩ := h
  exact ⟨P, h0, rowK_below h1 hb, saysK_below h2 hb⟩
theorem ownK_slice {B g : Nat} {w : World} {v : Value} {L : List CT} (h : OwnK B g w v L) : ∃ a c, v = .slice a L.length c := by
  obtain ⟨P, h0, h1, h2⟩ := h
  have : P.length = L.length := by rw [← h0, List.length_map]
  rw [← this]
  rcases h1.2 with ⟨rfl, hz⟩ | ⟨g, cap, cur, rfl, _⟩
  · exact ⟨_, _, by rw [hz]⟩
  · exact ⟨_, _, rfl⟩
theorem ownK_nil (B g : Nat) (w : World) : OwnK B g w (.slice none 0 0) [] := ⟨[], rfl, World.ownsRow_nil _ _ _ _, fun j h => absurd h (by simp)⟩
theorem ownK_lt {B g : Nat} {w : World} {v : Value} {L : List CT} (h : OwnK B g w v L) (k : Nat) (e : v.ownBlock = some k) : k < w.heap.size := by
  obtain ⟨P, _, h1, _⟩ := h
  exact (World.ownsRow.lt h1 k e).2
/-- The value v is the list of these classes, below block n0. -/
def IsK (n0 : Nat) (w : World) (L : List CT) (v : Value) : Prop := ∃ a c, v = .slice a L.length c ∧ L.length ≤ maxLen ∧
  ∀ j, (h : j < L.length) → ∃ b off u1 u2, a = some ⟨b, off, none⟩ ∧ b < n0 ∧ w.cell? ⟨b, off + j * 5, none⟩ = some (strV L[j].name) ∧ w.cell? ⟨b, off + j * 5 + 1, none⟩ = some (strV L[j].sup) ∧ w.cell? ⟨b, off + j * 5 + 2, none⟩ = some (.bool L[j].st) ∧ w.cell? ⟨b, off + j * 5 + 3, none⟩ = some u1 ∧ w.cell? ⟨b, off + j * 5 + 4, none⟩ = some u2 ∧ IsT n0 w L[j].mustL u1 ∧ IsT n0 w L[j].mayL u2
theorem IsK.below {n0 n1 : Nat} {w w' : World} {L : List CT} {v : Value} (h : IsK n0 w L v) (hb : Below n0 w w') (hn : n0 ≤ n1) : IsK n1 w' L v := by
  obtain ⟨a, c, hv, hm, hc⟩ := h
  refine ⟨a, c, hv, hm, fun j hj => ?_⟩
  obtain ⟨b, off, u1, u2, ha, hlt, c0, c1, c2, c3, c4, ht, hu⟩ := hc j hj
  exact ⟨b, off, u1, u2, ha, Nat.lt_of_lt_of_le hlt hn, (hb.cell (p := ⟨b, _, none⟩) hlt).trans c0, (hb.cell (p := ⟨b, _, none⟩) hlt).trans c1, (hb.cell (p := ⟨b, _, none⟩) hlt).trans c2, (hb.cell (p := ⟨b, _, none⟩) hlt).trans c3, (hb.cell (p := ⟨b, _, none⟩) hlt).trans c4, ht.below hb hn, hu.below hb hn⟩
theorem ownK_isK {B g : Nat} {w : World} {v : Value} {L : List CT} (h : OwnK B g w v L) (hl : L.length ≤ maxLen) : IsK w.heap.size w L v := by
  obtain ⟨a, c, hv⟩ := ownK_slice h
  obtain ⟨P, h0, h1, h2⟩ := h
  have hPL : P.length = L.length := by rw [← h0, List.length_map]
  refine ⟨a, c, hv, hl, fun j hj => ?_⟩
  have hj' : j < P.length := by omega
  have hLj : L[j] = P[j].1 := by subst h0; simp
  have hc := fun q (hg : v.ownBlock = some q) => World.ownsRow.cells h1 hg
  rcases h1.2 with ⟨_, hz⟩ | ⟨q, cap, cur, hv2, hB, hg, _⟩
  · omega
  · have hva : a = some ⟨q, 0, none⟩ := by rw [hv] at hv2; simpa using (Value.slice.inj hv2).1
    subst hva
    subst hv
    obtain ⟨g0, g1, g2, g3, g4⟩ := cellsK_get P j hj'
    have f := fun k u e => hc q rfl k u e
    have ea : ∀ k, ((⟨q, 0, none⟩ : Addr).add k) = ⟨q, k, none⟩ := by intro k; simp [Addr.add]; omega
    have q0 := f _ _ g0
    have q1 := f _ _ g1
    have q2 := f _ _ g2
    have q3 := f _ _ g3
    have q4 := f _ _ g4
    simp only [ea] at q0 q1 q2 q3 q4
    rw [hLj]
    obtain ⟨e1, e2⟩ := h2 j hj'
    exact ⟨q, 0, _, _, rfl, (Array.getElem?_eq_some_iff.1 hg).1, by simpa using q0, by simpa using q1, by simpa using q2, by simpa using q3, by simpa using q4, e1.to (fun b hb => hb.2.1), e2.to (fun b hb => hb.2.1)⟩
theorem saysK_more {B g : Nat} {w w' : World} {v v' : Value} {P : List KT} {r : KT} (h : SaysK B g w v P) (hu : IsTo (Apart B g w v) w r.1.mustL r.2.1) (hv : IsTo (Apart B g w v) w r.1.mayL r.2.2)
    (hg : w.grownBy w' v.ownBlock) (hat : v'.ownBlock = v.ownBlock ∨ v'.ownBlock = some w.heap.size) : SaysK B g w' v' (P ++ [r]) := by
  have ok : ∀ b, Apart B g w v b → Apart B g w' v' b := fun b hb => ⟨hb.1, Nat.lt_of_lt_of_le hb.2.1 hg.size, by
    rcases hat with e | e
    · rw [e]; exact hb.2.2.1
    · rw [e]; intro h; have := Option.some.inj h; have := hb.2.1; omega, hb.2.2.2⟩
  have hc : ∀ b o, Apart B g w v b → w'.cell? ⟨b, o, none⟩ = w.cell? ⟨b, o, none⟩ := fun b o hb => by
    have := hg.block b hb.2.1 hb.2.2.1
    simp only [World.cell?, this]
  intro j h1
  by_cases hj : j < P.length
  · rw [List.getElem_append_left hj]
    exact ⟨(h j hj).1.imp ok hc, (h j hj).2.imp ok hc⟩
  · have e2 : j = P.length := by simp at h1; omega
    have g1 : (P ++ [r])[j] = r := by simp [e2]
    rw [g1]
    exact ⟨hu.imp ok hc, hv.imp ok hc⟩
theorem newsK (w : World) (x0 x1 x2 x3 x4 : Value) : ∀ j u, [x0, x1, x2, x3, x4][j]? = some u → (w.alloc (.cells #[x0, x1, x2, x3, x4] 186)).cell? ((⟨w.heap.size, 0, none⟩ : Addr).add j) = some u := by
  intro j u hu
  have h : (w.alloc (.cells #[x0, x1, x2, x3, x4] 186)).heap[w.heap.size]? = some (.cells #[x0, x1, x2, x3, x4] 186 (0, 0)) := heap_alloc_new w _
  have hadd : (⟨w.heap.size, 0, none⟩ : Addr).add j = ⟨w.heap.size, j, none⟩ := by unfold Addr.add; split <;> simp_all
  rw [hadd]
  simp only [World.cell?, h]
  simpa using hu
/-- 'append(all, c)' of one class. -/
theorem wpList_append_class {ops : Array Oper} {rest : List Oper} {o : Oper} {a : Act} {w : World} {Q : Exit → Act → World → Prop} (hgd : o.guard = none) (sl x : Operand)
    (ho : o.op = .call { callee := .builtin .append, args := #[sl, x], argTypes := #[182, 182] })
    (base g : Nat) (v : Value) (L : List CT) (hs : a.eval sl = v) (N S : ByteArray) (C : CT) (u1 u2 : Value) (hN : N.data.toList = C.name) (hS : S.data.toList = C.sup) (hown : OwnK base g w v L) (hu : IsTo (Apart base g w v) w C.mustL u1) (hv : IsTo (Apart base g w v) w C.mayL u2) (hx : a.eval x = .slice (some ⟨w.heap.size, 0, none⟩) 1 1)
    (h63 : L.length + 1 ≤ 1000000) (hbase : base ≤ w.heap.size)
    (h : ∀ v' w', OwnK base g w' v' (L ++ [C]) → Below base w w' → (∀ k, k < w.heap.size → some k ≠ v.ownBlock → w'.heap[k]? = w.heap[k]?) → (∀ k, v'.ownBlock = some k → v.ownBlock = some k ∨ w.heap.size ≤ k) → w.heap.size ≤ w'.heap.size → wpList Tryz.prog ops Q rest (a.put o.dst v') w') : wpList Tryz.prog ops Q (o :: rest) a (w.alloc (.cells #[.string N, .string S, .bool C.st, u1, u2] 186)) := by
  obtain ⟨i0, hi, hz0, hz1, hz2⟩ := info_parts infoK
  obtain ⟨P, h0, hr, hsay⟩ := hown
  have hb : Below w.heap.size w (w.alloc (.cells #[.string N, .string S, .bool C.st, u1, u2] 186)) := (Below.refl _ _).alloc (Nat.le_refl _) _
  have hPL : P.length = L.length := by rw [← h0, List.length_map]
  have hu1 : u1.oneCell' = true := by obtain ⟨_, _, rfl, _⟩ := hu; rfl
  have hu2 : u2.oneCell' = true := by obtain ⟨_, _, rfl, _⟩ := hv; rfl
  refine wpList_append_own_at _ hgd sl x 182 ho base 186 i0 (.agg #[.string ⟨#[]⟩, .string ⟨#[]⟩, .bool false, .slice none 0 0, .slice none 0 0]) 5 88 Tryz.underlying182 hi hz0 hz1 hz2 rfl (by decide) v P.length (cellsK P) hs (World.ownsRow.alloc hr _) ⟨w.heap.size, 0, none⟩ 1 1 [.string N, .string S, .bool C.st, u1, u2] hx rfl (newsK w _ _ _ _ _) (by intro u' hu'; simp at hu'; rcases hu' with rfl | rfl | rfl | rfl | rfl; rfl; rfl; rfl; exact hu1; exact hu2) (by unfold maxLen; omega) (by omega) (by simp; omega) ?_
  intro v' w' hown' hgrow _ hat
  have up : ∀ {A : List (List UInt8)} {u : Value}, IsTo (Apart base g w v) w A u → IsTo (Apart base g (w.alloc (.cells #[.string N, .string S, .bool C.st, u1, u2] 186)) v) (w.alloc (.cells #[.string N, .string S, .bool C.st, u1, u2] 186)) A u := fun hu => hu.imp (fun b hk => ⟨hk.1, Nat.lt_of_lt_of_le hk.2.1 hb.size, hk.2.2⟩) (fun b o hk => hb.cell (p := ⟨b, o, none⟩) hk.2.1)
  refine h v' w' ⟨P ++ [(C, u1, u2)], by simp [h0], ?_, saysK_more (saysK_below hsay hb) (up hu) (up hv) hgrow hat⟩ ?_ (fun k hk hne => (hgrow.block k (by simp; omega) hne).trans (hb.block k hk)) (fun k e => hat.elim (fun q => .inl (q ▸ e)) (fun q => .inr (by rw [q] at e; have := Option.some.inj e; simp at this; omega))) (Nat.le_trans hb.size hgrow.size)
  · unfold RowK
    rw [List.length_append, cellsK_append]
    show w'.ownsRow base 186 5 v' (P.length + 1) (cellsK P ++ [strV C.name, strV C.sup, .bool C.st, u1, u2])
    rw [← hN, ← hS, strV_whole, strV_whole]
    exact hown'
  · exact ((Below.refl base w).alloc hbase _).grown hgrow (by simp; omega) (fun k e => (World.ownsRow.lt hr k e).1)
end Go.Proofs.YtlimajgmdhhggaaGreatDoor
