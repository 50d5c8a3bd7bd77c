/- Several texts in one file: ScNedA, ScNed, ScNedW. -/
import Derived.Test.YtofmpaphafhdpaaGreatDoorNeedP1
/- SchemaNeeds: rows of attributes that are appended in a region that draws its order; what holds of each operation's value there. -/
namespace Go.Proofs.YtofmpaphafhdpaaGreatDoor
open Go.RowKit
set_option linter.unusedVariables false

/-- A block of texts. -/
def StrB (w : World) (b : Nat) : Prop := ∃ cs fr, w.heap[b]? = some (.cells cs 9 fr)
def SaysM (w : World) (P : List PT) (L : List AT) : Prop := P.length = L.length ∧ ∀ j (h : j < L.length) (h' : j < P.length), P[j].1 = L[j].1 ∧ IsTo (StrB w) w L[j].2 P[j].2
/-- The value v is the list of these attributes, in a row of the call's own made since the block B; their values lie in blocks of texts. -/
def OwnM (B : Nat) (w : World) (v : Value) (L : List AT) : Prop := ∃ P, RowP B w v P ∧ SaysM w P L

theorem strB_at {w : World} {b : Nat} {cs : Array Value} (h : w.heap[b]? = some (.cells cs 9 (0, 0))) : StrB w b := ⟨cs, _, h⟩
theorem StrB.lt {w : World} {b : Nat} (h : StrB w b) : b < w.heap.size := by
  obtain ⟨_, _, h⟩ := h
  exact (Array.getElem?_eq_some_iff.1 h).1
theorem saysM_to {w w' : World} {P : List PT} {L : List AT} (h : SaysM w P L) (hk : ∀ b, StrB w b → w'.heap[b]? = w.heap[b]?) : SaysM w' P L :=
  ⟨h.1, fun j h1 h2 => ⟨(h.2 j h1 h2).1, (h.2 j h1 h2).2.imp (fun b hb => by obtain ⟨cs, fr, e⟩ := hb; exact ⟨cs, fr, (hk b ⟨cs, fr, e⟩).trans e⟩) (fun b o hb => by simp only [World.cell?, hk b hb])⟩⟩
theorem saysM_below {w w' : World} {P : List PT} {L : List AT} (h : SaysM w P L) (hb : Below w.heap.size w w') : SaysM w' P L := saysM_to h fun b hs => hb.block b hs.lt
theorem ownM_below {B : Nat} {w w' : World} {v : Value} {L : List AT} (h : OwnM B w v L) (hb : Below w.heap.size w w') : OwnM B w' v L := by
  obtain ⟨P, h1, h2⟩ := h
  exact ⟨P, rowP_below h1 hb, saysM_below h2 hb⟩
theorem ownM_empty {B b : Nat} {w : World} (hb : w.heap[b]? = some (.cells #[] 42 (0, 0))) (hB : B ≤ b) : OwnM B w (.slice (some ⟨b, 0, none⟩) 0 0) [] :=
  ⟨[], ⟨rfl, .inr ⟨b, 0, #[], rfl, hB, hb, Nat.le_refl _, Nat.zero_le _, rfl, rfl⟩⟩, rfl, fun j h => absurd h (by simp)⟩
/-- What lies elsewhere than the row is as it was. -/
theorem row_keep {B : Nat} {w w' : World} {v : Value} {P : List PT} (hr : RowP B w v P) (hg : w.grownBy w' v.ownBlock) {b : Nat} {cs : Array Value} {e : TypeId} {fr : Nat × Nat} (hb : w.heap[b]? = some (.cells cs e fr)) (hne : e ≠ 42) : w'.heap[b]? = w.heap[b]? := by
  refine hg.block b (Array.getElem?_eq_some_iff.1 hb).1 fun he => hne ?_
  rcases hr.2 with ⟨rfl, _⟩ | ⟨g, cap, cur, rfl, _, hc, _⟩
  · cases he
  · have : b = g := by simpa [Value.ownBlock] using he
    subst this
    rw [hb] at hc
    cases hc
    rfl
theorem saysM_grown {B : Nat} {w w' : World} {v : Value} {P P' : List PT} {L : List AT} (hr : RowP B w v P') (hg : w.grownBy w' v.ownBlock) (h : SaysM w P L) : SaysM w' P L :=
  saysM_to h fun b hs => by obtain ⟨cs, fr, e⟩ := hs; exact row_keep hr hg e (by decide)
theorem saysM_app {w : World} {P PM : List PT} {L M : List AT} (h : SaysM w P L) (hm : SaysM w PM M) : SaysM w (P ++ PM) (L ++ M) := by
  refine ⟨by simp [h.1, hm.1], fun j h1 h2 => ?_⟩
  by_cases hj : j < L.length
  · have hj' : j < P.length := by rw [h.1]; exact hj
    rw [List.getElem_append_left hj', List.getElem_append_left hj]
    exact h.2 j hj hj'
  · have e := h.1
    have hm1 : j - L.length < M.length := by simp at h1; omega
    have hm2 : j - L.length < PM.length := by rw [hm.1]; exact hm1
    have g1 : (P ++ PM)[j] = PM[j - L.length] := by
      rw [List.getElem_append_right (by omega)]
      simp only [e]
    have g2 : (L ++ M)[j] = M[j - L.length] := List.getElem_append_right (by omega)
    rw [g1, g2]
    exact hm.2 _ hm1 hm2
theorem one_isTo {ok : Nat → Prop} {w : World} {L : List (List UInt8)} {v : Value} (h : IsTo ok w L v) : v.oneCell' = true := by
  obtain ⟨_, _, rfl, _⟩ := h
  rfl

/-- 'append(v, x...)', onto such a row. -/
theorem run_append_M {B : Nat} {w : World} {v : Value} {L : List AT} (hown : OwnM B w v L) (hB : B ≤ w.heap.size) {PM : List PT} {M : List AT} (hs : SaysM w PM M) (ad : Addr) (c : Nat)
    (hc : ∀ j u, (cellsP PM)[j]? = some u → w.cell? (ad.add j) = some u) (hlen : L.length + M.length ≤ 1000) (ty : TypeId) :
    ∃ v' w', (Builtin.append_ #[22, 22] ty #[v, .slice (some ad) M.length c]).run Tryz.prog w = .ok v' w' ∧ OwnM B w' v' (L ++ M) ∧ Below B w w' ∧ ∃ P, RowP B w v P ∧ w.grownBy w' v.ownBlock := by
  obtain ⟨i0, hi, hz0, hz1, hz2⟩ := info_parts infoA
  obtain ⟨P, hr, hsay⟩ := hown
  have e1 := hsay.1
  have e2 := hs.1
  have h1 : ∀ u ∈ cellsP PM, u.oneCell' = true := by
    intro u hu
    have : ∀ (l : List PT), (∀ j (h : j < l.length), l[j].2.oneCell' = true) → ∀ u ∈ cellsP l, u.oneCell' = true := by
      intro l
      induction l with
      | nil => intro _ u hu; simp [cellsP] at hu
      | cons r l ih =>
        intro h u hu
        simp only [cellsP, List.mem_cons] at hu
        rcases hu with rfl | rfl | hu
        · rfl
        · exact h 0 (by simp)
        · exact ih (fun j hj => h (j + 1) (by simpa using hj)) u hu
    exact this PM (fun j hj => one_isTo (hs.2 j (by omega) hj).2) u hu
  obtain ⟨v', w', hrun, hown', hgrow, _, hat⟩ := run_append_own_at (P := Tryz.prog) w B 22 ty 42 i0 (.agg #[.string ⟨#[]⟩, .slice none 0 0]) 2 40 Tryz.underlying22 hi hz0 hz1 hz2 rfl (by decide) v P.length (cellsP P) hr ad PM.length c (cellsP PM) (cellsP_length PM) hc h1 (by unfold maxLen; omega) (by omega) hB
  rw [e2] at hrun
  refine ⟨v', w', hrun, ⟨P ++ PM, ?_, saysM_app (saysM_grown hr hgrow hsay) (saysM_grown hr hgrow hs)⟩, (Below.refl B w).grown hgrow hB (fun k e => (World.ownsRow.lt hr k e).1), P, hr, hgrow⟩
  unfold RowP
  rw [List.length_append, cellsP_append]
  exact hown'

theorem exec_append {P : Program} {o : Oper} {a : Act} {w w' : World} {s x : Operand} {t : TypeId} {v u v' : Value} (ho : o.op = .call { callee := .builtin .append, args := #[s, x], argTypes := #[t, t] }) (hs : a.eval s = v) (hx : a.eval x = u)
    (hr : (Builtin.append_ #[t, t] o.type #[v, u]).run P w = .ok v' w') : (execOp a.eval o).run P w = .ok (.value v') w' := by
  unfold execOp
  simp only [ho, resolve, invoke, builtin, Sem.run_bind, Sem.run_pure, Result.andThen_ok, List.map_toArray, List.map_cons, List.map_nil, hs, hx, hr]

/-- An operation that lays no value: a store. -/
theorem wpOp_skip {P : Program} {ops : Array Oper} {Q : Exit → Act → World → Prop} {i : Nat} {o : Oper} {a : Act} {w w' : World} {K : Act → World → Prop} (ho : ops[i]? = some o) (hg : o.guard = none) (hr : (execOp a.eval o).run P w = .ok .skip w') (hk : K (a.put o.dst undef) w') : wpOp P ops Q i K a w := by
  unfold wpOp
  rw [ho]
  show if Region.wanted o (yielded ops a.tmps) = true then _ else _
  rw [if_pos (by unfold Region.wanted; rw [hg])]
  refine .inl ?_
  unfold Oper.wp
  rw [hr]
  exact hk

/-- A row in a block, from its place j on. -/
theorem row_part {w : World} {b : Nat} {P : List PT} (h : ∀ j u, (cellsP P)[j]? = some u → w.cell? ⟨b, j, none⟩ = some u) (A B C : List PT) (e : P = A ++ B ++ C) : ∀ j u, (cellsP B)[j]? = some u → w.cell? ((⟨b, A.length * 2, none⟩ : Addr).add j) = some u := by
  intro j u hu
  have hadd : (⟨b, A.length * 2, none⟩ : Addr).add j = ⟨b, A.length * 2 + j, none⟩ := by simp [Addr.add]
  rw [hadd]
  refine h _ _ ?_
  rw [e, cellsP_append, cellsP_append, List.append_assoc, List.getElem?_append_right (by rw [cellsP_length]; omega), cellsP_length, show A.length * 2 + j - A.length * 2 = j from by omega]
  have hlt : j < (cellsP B).length := by
    rcases Nat.lt_or_ge j (cellsP B).length with h | h
    · exact h
    · rw [List.getElem?_eq_none h] at hu; cases hu
  rw [List.getElem?_append_left hlt, hu]
theorem saysM_part {w : World} {A B C : List PT} {L M N : List AT} (h : SaysM w (A ++ B ++ C) (L ++ M ++ N)) (h1 : A.length = L.length) (h2 : B.length = M.length) : SaysM w B M := by
  refine ⟨h2, fun j hj hj' => ?_⟩
  have := h.2 (L.length + j) (by simp; omega) (by simp; omega)
  have g1 : (A ++ B ++ C)[L.length + j]'(by simp; omega) = B[j] := by
    rw [List.getElem_append_left (by simp; omega), List.getElem_append_right (by omega)]
    congr 1
    omega
  have g2 : (L ++ M ++ N)[L.length + j]'(by simp; omega) = M[j] := by
    rw [List.getElem_append_left (by simp; omega), List.getElem_append_right (by omega)]
    congr 1
    omega
  rw [g1, g2] at this
  exact this

theorem saysM_one {w : World} {b : Nat} {X Y : ByteArray} (h : w.heap[b]? = some (.cells #[.string Y] 9 (0, 0))) : SaysM w [(X.data.toList, .slice (some ⟨b, 0, none⟩) 1 1)] [(X.data.toList, [Y.data.toList])] :=
  ⟨rfl, fun j hj hj' => by
    have : j = 0 := by simp at hj; omega
    subst this
    refine ⟨rfl, _, _, rfl, by unfold maxLen; simp, fun k hk => ?_⟩
    have : k = 0 := by simp at hk; omega
    subst this
    refine ⟨b, 0, rfl, strB_at h, ?_⟩
    rw [show ([(X.data.toList, [Y.data.toList])] : List AT)[0].2[0] = Y.data.toList from rfl, strV_whole]
    simp only [World.cell?, h]
    rfl⟩
theorem cells_one {w : World} {c : Nat} {X : ByteArray} {u : Value} (h : w.heap[c]? = some (.cells #[.string X, u] 42 (0, 0))) : ∀ j x, (cellsP [(X.data.toList, u)])[j]? = some x → w.cell? ((⟨c, 0, none⟩ : Addr).add j) = some x := by
  intro j x hx
  have hadd : (⟨c, 0, none⟩ : Addr).add j = ⟨c, j, none⟩ := by simp [Addr.add]; omega
  rw [hadd]
  simp only [World.cell?, h]
  have e : cellsP [(X.data.toList, u)] = [.string X, u] := by
    show [strV X.data.toList, u] = _
    rw [strV_whole]
  rw [e] at hx
  simpa using hx
def perRow (g : Nat) : List PT := [([99, 110], .slice (some ⟨g - 3, 0, none⟩) 1 1), ([111, 98, 106, 101, 99, 116, 99, 108, 97, 115, 115], .slice (some ⟨g - 2, 0, none⟩) 1 1), ([115, 110], .slice (some ⟨g - 1, 0, none⟩) 1 1)]
theorem isTo_one {w : World} {b : Nat} {X : ByteArray} (h : w.heap[b]? = some (.cells #[.string X] 9 (0, 0))) : IsTo (StrB w) w [X.data.toList] (.slice (some ⟨b, 0, none⟩) 1 1) :=
  (saysM_one (X := X) h).2 0 (by simp) (by simp) |>.2
theorem per_says {w : World} {g : Nat} {N : ByteArray} (h : PerAt w g N) : SaysM w (perRow g) (perL N.data.toList) :=
  ⟨rfl, fun j hj hj' => by
    match j, hj with
    | 0, _ => exact ⟨rfl, isTo_one h.b1⟩
    | 1, _ => exact ⟨rfl, isTo_one h.b2⟩
    | 2, _ => exact ⟨rfl, isTo_one h.b3⟩⟩
theorem list_cells {w : World} {b : Nat} {P : List PT} (h : w.heap[b]? = some (.cells (cellsP P).toArray 42 (0, 0))) : ∀ j u, (cellsP P)[j]? = some u → w.cell? ⟨b, j, none⟩ = some u := by
  intro j u hu
  simp only [World.cell?, h]
  simpa using hu
theorem ownM_isA {B : Nat} {w : World} {v : Value} {L : List AT} (h : OwnM B w v L) (hl : L.length ≤ maxLen) : IsA w.heap.size w L v := by
  obtain ⟨P, h1, h2⟩ := h
  by_cases hne : P = []
  · subst hne
    obtain ⟨a, c, hv⟩ := rowP_slice h1
    have : L = [] := List.eq_nil_of_length_eq_zero (by have := h2.1; simpa using this.symm)
    subst this
    exact ⟨a, c, hv, hl, fun j hj => absurd hj (by simp)⟩
  · obtain ⟨g, c, hv, _, hg, hc⟩ := rowP_at h1 hne
    refine ⟨_, c, by rw [hv, h2.1], hl, fun j hj => ?_⟩
    have hj' : j < P.length := by rw [h2.1]; exact hj
    obtain ⟨e1, e2⟩ := h2.2 j hj hj'
    refine ⟨g, 0, P[j].2, rfl, hg, ?_, ?_, e2.to (fun b hb => hb.lt)⟩
    · rw [Nat.zero_add, ← e1]; exact (hc j hj').1
    · rw [Nat.zero_add]; exact (hc j hj').2

/-- An entry in a block of its own, whose attributes lie in a row of the call's own. -/
structure MAt (n1 : Nat) (W0 : World) (D : ByteArray) (L : List AT) (wx : World) (b : Nat) (u : Value) : Prop where
  lo : n1 ≤ b
  box : BoxN wx b D u
  own : OwnM n1 wx u L
  below : Below n1 W0 wx
theorem mAt_store {n1 b : Nat} {W0 W : World} {D : ByteArray} {L : List AT} {s : Value} (hb : Below n1 W0 W) (hc : W.heap[b]? = some (.cells #[.string ⟨#[]⟩, .slice none 0 0] 24 (0, 0))) (hn : n1 ≤ b) (hown : OwnM n1 W s L) :
    MAt n1 W0 D L ((W.setCell ⟨b, 0, none⟩ (.string D)).setCell ⟨b, 1, none⟩ s) b s := by
  have hbl := (Array.getElem?_eq_some_iff.1 hc).1
  have hother : ∀ k, k ≠ b → ((W.setCell ⟨b, 0, none⟩ (.string D)).setCell ⟨b, 1, none⟩ s).heap[k]? = W.heap[k]? := fun k hk => by
    rw [block_ne _ ⟨b, 1, none⟩ _ hk, block_ne _ ⟨b, 0, none⟩ _ hk]
  obtain ⟨P, hr, hs⟩ := hown
  refine ⟨hn, ?_, ⟨P, ?_, ?_⟩, ?_⟩
  · unfold BoxN
    simp [World.setCell, Array.getElem?_modify, hc]
  · have hg : W.grownBy ((W.setCell ⟨b, 0, none⟩ (.string D)).setCell ⟨b, 1, none⟩ s) (some b) := ⟨rfl, rfl, rfl, by simp [World.setCell], fun k hk hne => hother k (fun e => hne (by rw [e]))⟩
    refine World.ownsRow.kept hr hg ?_
    right
    intro he
    rcases hr.2 with ⟨rfl, _⟩ | ⟨g, cap, cur, rfl, _, hgc, _⟩
    · cases he
    · have : g = b := by simpa [Value.ownBlock] using he
      subst this
      rw [hgc] at hc
      cases hc
  · refine saysM_to hs fun k hk => hother k fun e => ?_
    obtain ⟨cs, fr, hk⟩ := hk
    rw [e, hc] at hk
    cases hk
  · exact (hb.setCell hn _).setCell hn _

theorem entry_new {W : World} {b : Nat} (h : W.heap[b]? = some (.cells #[.string ⟨#[]⟩, .slice none 0 0] 24 (0, 0))) (x : Value) : W.cell? ⟨b, 0, none⟩ = some (.string ⟨#[]⟩) ∧ W.frozen? ⟨b, 0, none⟩ = false ∧ (W.setCell ⟨b, 0, none⟩ x).cell? ⟨b, 1, none⟩ = some (.slice none 0 0) ∧ (W.setCell ⟨b, 0, none⟩ x).frozen? ⟨b, 1, none⟩ = false := by
  refine ⟨?_, ?_, ?_, ?_⟩ <;> simp [World.cell?, World.frozen?, World.setCell, Array.getElem?_modify, h]

/-- A store into a row of attributes that is not the value's own. -/
theorem ownM_other {B g i : Nat} {w : World} {v x : Value} {L : List AT} {cs : Array Value} {fr : Nat × Nat} (h : OwnM B w v L) (hne : v.ownBlock ≠ some g) (hg : w.heap[g]? = some (.cells cs 42 fr)) : OwnM B (w.setCell ⟨g, i, none⟩ x) v L := by
  obtain ⟨P, hr, hs⟩ := h
  have hgr : w.grownBy (w.setCell ⟨g, i, none⟩ x) (some g) := ⟨rfl, rfl, rfl, by simp [World.setCell], fun k hk hn => block_ne w ⟨g, i, none⟩ x (fun e => hn (by rw [e]))⟩
  refine ⟨P, World.ownsRow.kept hr hgr (.inr hne), saysM_to hs fun k hk => block_ne w ⟨g, i, none⟩ x fun e => ?_⟩
  obtain ⟨cs', fr', hk⟩ := hk
  rw [show k = g from e, hg] at hk
  cases hk
/-- A row of at least one attribute: its last one. -/
theorem row_last {P : List PT} {n : Nat} (h : P.length = n + 1) : ∃ A p, P = A ++ [p] ∧ A.length = n := by
  refine ⟨P.take n, P[n], ?_, by simp; omega⟩
  rw [List.take_append_getElem]
  exact (List.take_of_length_le (by omega)).symm
theorem ownM_last {B g cap : Nat} {w : World} {L : List AT} {N : List UInt8} {A A' : List (List UInt8)} {u : Value} (h : OwnM B w (.slice (some ⟨g, 0, none⟩) (L.length + 1) cap) (L ++ [(N, A)])) (hu : IsTo (StrB w) w A' u) :
    OwnM B (w.setCell ⟨g, L.length * 2 + 1, none⟩ u) (.slice (some ⟨g, 0, none⟩) (L.length + 1) cap) (L ++ [(N, A')]) ∧ (∃ y, w.cell? ⟨g, L.length * 2 + 1, none⟩ = some y) ∧ w.frozen? ⟨g, L.length * 2 + 1, none⟩ = false ∧ (∃ cs, w.heap[g]? = some (.cells cs 42 (0, 0))) ∧ B ≤ g := by
  obtain ⟨P, hr, hs⟩ := h
  have hPl : P.length = L.length + 1 := by rw [hs.1]; simp
  obtain ⟨P0, p, rfl, hP0⟩ := row_last hPl
  unfold RowP at hr
  rw [hPl] at hr
  have hg : ∃ cs, w.heap[g]? = some (.cells cs 42 (0, 0)) ∧ B ≤ g := by
    rcases hr.2 with ⟨h', _⟩ | ⟨g', cap', cur, h', hb, hg, _⟩
    · simp at h'
    · have : g = g' := by simpa using (Value.slice.inj h').1
      subst this
      exact ⟨cur, hg, hb⟩
  obtain ⟨cs, hg, hB⟩ := hg
  have hst := (World.ownsRow.stored hr (L.length * 2 + 1) u).1
  have hcl := World.ownsRow.cellAt hr (L.length * 2 + 1) (by omega)
  have e1 : cellsP (P0 ++ [p]) = cellsP P0 ++ [strV p.1, p.2] := by rw [cellsP_append]; rfl
  have hl0 := cellsP_length P0
  rw [hP0] at hl0
  have e2 : (cellsP (P0 ++ [p])).set (L.length * 2 + 1) u = cellsP (P0 ++ [(p.1, u)]) := by
    rw [e1, cellsP_append, List.set_append_right _ _ (by omega), hl0, show L.length * 2 + 1 - L.length * 2 = 1 from by omega]
    rfl
  rw [e2] at hst
  have hot : ∀ k, StrB w k → (w.setCell ⟨g, L.length * 2 + 1, none⟩ u).heap[k]? = w.heap[k]? := fun k hk => block_ne w ⟨g, _, none⟩ u fun e => by
    obtain ⟨cs', fr', hk⟩ := hk
    rw [show k = g from e, hg] at hk
    cases hk
  refine ⟨⟨P0 ++ [(p.1, u)], ?_, ?_⟩, ⟨p.2, ?_⟩, World.ownsRow.frozenAt hr _, ⟨cs, hg⟩, hB⟩
  · unfold RowP
    rw [show (P0 ++ [(p.1, u)]).length = L.length + 1 from by simp [hP0]]
    exact hst
  · refine ⟨by simp [hP0], fun j hj hj' => ?_⟩
    by_cases hjl : j < L.length
    · have := hs.2 j (by simp; omega) (by simp; omega)
      rw [List.getElem_append_left (by omega), List.getElem_append_left (by omega)] at this
      rw [List.getElem_append_left (by omega), List.getElem_append_left (by omega)]
      exact ⟨this.1, this.2.imp (fun b hb => by obtain ⟨cs', fr', e⟩ := hb; exact ⟨cs', fr', (hot b ⟨cs', fr', e⟩).trans e⟩) (fun b o hb => by simp only [World.cell?, hot b hb])⟩
    · have e : j = L.length := by simp at hj; omega
      have := hs.2 L.length (by simp) (by simp; omega)
      have f1 : (P0 ++ [p])[L.length]'(by simp; omega) = p := by simp [← hP0]
      have f2 : (P0 ++ [(p.1, u)])[j] = (p.1, u) := by subst e; simp [← hP0]
      have f3 : (L ++ [(N, A')])[j] = (N, A') := by subst e; simp
      have f4 : (L ++ [(N, A)])[L.length]'(by simp) = (N, A) := by simp
      rw [f1, f4] at this
      rw [f2, f3]
      exact ⟨this.1, hu.imp (fun b hb => by obtain ⟨cs', fr', e⟩ := hb; exact ⟨cs', fr', (hot b ⟨cs', fr', e⟩).trans e⟩) (fun b o hb => by simp only [World.cell?, hot b hb])⟩
  · rw [hcl, e1, List.getElem?_append_right (by omega), hl0, show L.length * 2 + 1 - L.length * 2 = 1 from by omega]
    rfl

theorem boxN_set {W : World} {g i b : Nat} {x u : Value} {D : ByteArray} {cs : Array Value} {fr : Nat × Nat} (h : BoxN W b D u) (hg : W.heap[g]? = some (.cells cs 42 fr)) : BoxN (W.setCell ⟨g, i, none⟩ x) b D u := by
  refine (block_ne W ⟨g, i, none⟩ x fun e => ?_).trans h
  unfold BoxN at h
  rw [show b = g from e, hg] at h
  cases h
theorem ownM_lo {B g n cap : Nat} {w : World} {L : List AT} (h : OwnM B w (.slice (some ⟨g, 0, none⟩) n cap) L) : B ≤ g ∧ g < w.heap.size := by
  obtain ⟨P, hr, _⟩ := h
  exact World.ownsRow.lt hr g rfl
theorem ownM_apart {B g : Nat} {w : World} {v : Value} {L : List AT} (h : OwnM B w v L) (hg : g < B) : v.ownBlock ≠ some g := by
  obtain ⟨P, hr, _⟩ := h
  intro e
  have := (World.ownsRow.lt hr g e).1
  omega
theorem ownM_form {B : Nat} {w : World} {v : Value} {L : List AT} (h : OwnM B w v L) (hL : 0 < L.length) : ∃ g cap, v = .slice (some ⟨g, 0, none⟩) L.length cap := by
  obtain ⟨P, hr, hs⟩ := h
  obtain ⟨g, c, hv, _⟩ := rowP_at hr (fun e => by have := hs.1; rw [e] at this; simp at this; omega)
  exact ⟨g, c, by rw [hv, hs.1]⟩

def NC6 : Array Value := #[.string ⟨#[109, 97, 105, 108]⟩, .string ⟨#[117, 105, 100]⟩, .string ⟨#[111, 117]⟩, .string ⟨#[109, 101, 109, 98, 101, 114]⟩, .string ⟨#[117, 105, 100, 110, 117, 109, 98, 101, 114]⟩, .string ⟨#[111]⟩]
def NC2 : Array Value := #[.string ⟨#[100, 101, 115, 99, 114, 105, 112, 116, 105, 111, 110]⟩, .string ⟨#[117, 115, 101, 114, 112, 97, 115, 115, 119, 111, 114, 100]⟩]
def nmB (l : Array Value) (q : Nat) : ByteArray := match l.getD q undef with
  | .string x => x
  | _ => ⟨#[]⟩
theorem nc6_at : ∀ q, q < 6 → NC6[q]? = some (.string (nmB NC6 q))
  | 0, _ => rfl
  | 1, _ => rfl
  | 2, _ => rfl
  | 3, _ => rfl
  | 4, _ => rfl
  | 5, _ => rfl
theorem nc2_at : ∀ q, q < 2 → NC2[q]? = some (.string (nmB NC2 q))
  | 0, _ => rfl
  | 1, _ => rfl

/-- What holds of the values of SchemaNeeds's region 4. -/
def FLess (n1 h0 b6 k : Nat) (D : ByteArray) (L1 L2 : List AT) (p q : Bool) (i : Nat) (v : Value) (w : World) : Prop := match i with
  | 0 => v = .pointer (some ⟨h0, 0, none⟩)
  | 1 => v = .string D
  | 2 => p = true ∨ ∃ b, v = .slice (some ⟨b, 0, none⟩) 0 0 ∧ n1 ≤ b ∧ w.heap[b]? = some (.cells #[] 42 (0, 0))
  | 3 => v = .slice (some ⟨b6, 0, none⟩) 3 3
  | 4 => v = .int .i64 (k : Int)
  | 5 => v = .slice (some ⟨b6, 0, none⟩) k 3
  | 6 => q = true ∨ OwnM n1 w v L1
  | 7 => v = .slice (some ⟨b6, 0, none⟩) 3 3
  | 8 => v = .int .i64 (k : Int)
  | 9 => v = .int .i64 ((k : Int) + 1)
  | 10 => v = .slice (some (if k = 2 then ⟨b6, 0, none⟩ else ⟨b6, (k + 1) * 2, none⟩)) (2 - k) (2 - k)
  | 11 => q = true ∧ OwnM n1 w v L2
  | 12 => q = true ∧ ∃ s, v = .agg #[.string D, s] ∧ OwnM n1 w s L2
  | 13 => ∃ b, v = .pointer (some ⟨b, 0, none⟩) ∧ n1 ≤ b ∧ w.heap[b]? = some (.cells #[.string ⟨#[]⟩, .slice none 0 0] 24 (0, 0))
  | _ => True
theorem FLess.go {n1 h0 b6 k : Nat} {D : ByteArray} {L1 L2 : List AT} {p q : Bool} {i : Nat} {v : Value} {w w' : World} (h : FLess n1 h0 b6 k D L1 L2 p q i v w) (hb : Below w.heap.size w w') : FLess n1 h0 b6 k D L1 L2 p q i v w' := by
  have hk : ∀ {b : Nat} {o : Obj}, w.heap[b]? = some o → w'.heap[b]? = some o := fun e => (hb.block _ (Array.getElem?_eq_some_iff.1 e).1).trans e
  match i, h with
  | 0, h => exact h
  | 1, h => exact h
  | 2, h => exact h.imp id fun ⟨b, e, hn, hc⟩ => ⟨b, e, hn, hk hc⟩
  | 3, h => exact h
  | 4, h => exact h
  | 5, h => exact h
  | 6, h => exact h.imp id fun x => ownM_below x hb
  | 7, h => exact h
  | 8, h => exact h
  | 9, h => exact h
  | 10, h => exact h
  | 11, h => exact ⟨h.1, ownM_below h.2 hb⟩
  | 12, h => obtain ⟨hq, s, e, x⟩ := h; exact ⟨hq, s, e, ownM_below x hb⟩
  | 13, h => obtain ⟨b, e, hn, hc⟩ := h; exact ⟨b, e, hn, hk hc⟩
  | _ + 14, h => exact trivial
theorem FLess.loud {n1 h0 b6 k : Nat} {D : ByteArray} {L1 L2 : List AT} {p q q' : Bool} {i : Nat} {v : Value} {w w' : World} (h : FLess n1 h0 b6 k D L1 L2 p q i v w) (hp : q = false) (hi : i ≠ 6 ∨ q' = true)
    (hk : ∀ (b : Nat) (cs : Array Value) (e : TypeId), w.heap[b]? = some (.cells cs e (0, 0)) → e ≠ 42 → w'.heap[b]? = w.heap[b]?) : FLess n1 h0 b6 k D L1 L2 true q' i v w' := by
  subst hp
  match i, h, hi with
  | 0, h, _ => exact h
  | 1, h, _ => exact h
  | 2, h, _ => exact .inl rfl
  | 3, h, _ => exact h
  | 4, h, _ => exact h
  | 5, h, _ => exact h
  | 6, h, hi => exact .inl (hi.resolve_left (fun x => x rfl))
  | 7, h, _ => exact h
  | 8, h, _ => exact h
  | 9, h, _ => exact h
  | 10, h, _ => exact h
  | 11, h, _ => cases h.1
  | 12, h, _ => cases h.1
  | 13, h, _ => obtain ⟨b, e, hn, hc⟩ := h; exact ⟨b, e, hn, (hk _ _ _ hc (by decide)).trans hc⟩
  | _ + 14, h, _ => exact trivial

/-- .. of its regions 5 and 6. -/
def FMore (n1 h0 b6 wh q6 : Nat) (D : ByteArray) (NC : Array Value) (NA VT : ByteArray) (L1 L2 : List AT) (p q : Bool) (i : Nat) (v : Value) (w : World) : Prop := match i with
  | 0 => v = .pointer (some ⟨h0, 0, none⟩)
  | 1 => v = .string D
  | 2 => p = true ∨ ∃ b, v = .slice (some ⟨b, 0, none⟩) 0 0 ∧ n1 ≤ b ∧ w.heap[b]? = some (.cells #[] 42 (0, 0))
  | 3 => v = .slice (some ⟨b6, 0, none⟩) 3 3
  | 4 => q = true ∨ OwnM n1 w v L1
  | 5 => ∃ b, v = .slice (some ⟨b, 0, none⟩) NC.size NC.size ∧ w.heap[b]? = some (.cells NC 9 (0, 0))
  | 6 => v = .int .u8 (wh : Int)
  | 7 => v = .int .u8 (q6 : Int)
  | 8 => ∃ b, v = .pointer (some ⟨b, q6, none⟩) ∧ w.heap[b]? = some (.cells NC 9 (0, 0))
  | 9 => v = .string NA
  | 10 => ∃ b, v = .slice (some ⟨b, 0, none⟩) 1 1 ∧ w.heap[b]? = some (.cells #[.string VT] 9 (0, 0))
  | 11 => ∃ b, v = .agg #[.string NA, .slice (some ⟨b, 0, none⟩) 1 1] ∧ w.heap[b]? = some (.cells #[.string VT] 9 (0, 0))
  | 12 => q = true ∨ ∃ c b, v = .slice (some ⟨c, 0, none⟩) 1 1 ∧ w.heap[c]? = some (.cells #[.string NA, .slice (some ⟨b, 0, none⟩) 1 1] 42 (0, 0)) ∧ w.heap[b]? = some (.cells #[.string VT] 9 (0, 0))
  | 13 => q = true ∧ OwnM n1 w v L2
  | 14 => q = true ∧ ∃ s, v = .agg #[.string D, s] ∧ OwnM n1 w s L2
  | 15 => ∃ b, v = .pointer (some ⟨b, 0, none⟩) ∧ n1 ≤ b ∧ w.heap[b]? = some (.cells #[.string ⟨#[]⟩, .slice none 0 0] 24 (0, 0))
  | _ => True
theorem FMore.go {n1 h0 b6 wh q6 : Nat} {D : ByteArray} {NC : Array Value} {NA VT : ByteArray} {L1 L2 : List AT} {p q : Bool} {i : Nat} {v : Value} {w w' : World} (h : FMore n1 h0 b6 wh q6 D NC NA VT L1 L2 p q i v w) (hb : Below w.heap.size w w') : FMore n1 h0 b6 wh q6 D NC NA VT L1 L2 p q i v w' := by
  have hk : ∀ {b : Nat} {o : Obj}, w.heap[b]? = some o → w'.heap[b]? = some o := fun e => (hb.block _ (Array.getElem?_eq_some_iff.1 e).1).trans e
  match i, h with
  | 0, h => exact h
  | 1, h => exact h
  | 2, h => exact h.imp id fun ⟨b, e, hn, hc⟩ => ⟨b, e, hn, hk hc⟩
  | 3, h => exact h
  | 4, h => exact h.imp id fun x => ownM_below x hb
  | 5, h => obtain ⟨b, e, hc⟩ := h; exact ⟨b, e, hk hc⟩
  | 6, h => exact h
  | 7, h => exact h
  | 8, h => obtain ⟨b, e, hc⟩ := h; exact ⟨b, e, hk hc⟩
  | 9, h => exact h
  | 10, h => obtain ⟨b, e, hc⟩ := h; exact ⟨b, e, hk hc⟩
  | 11, h => obtain ⟨b, e, hc⟩ := h; exact ⟨b, e, hk hc⟩
  | 12, h => exact h.imp id fun ⟨c, b, e, h1, h2⟩ => ⟨c, b, e, hk h1, hk h2⟩
  | 13, h => exact ⟨h.1, ownM_below h.2 hb⟩
  | 14, h => obtain ⟨hq, s, e, x⟩ := h; exact ⟨hq, s, e, ownM_below x hb⟩
  | 15, h => obtain ⟨b, e, hn, hc⟩ := h; exact ⟨b, e, hn, hk hc⟩
  | _ + 16, h => exact trivial
theorem FMore.loud1 {n1 h0 b6 wh q6 : Nat} {D : ByteArray} {NC : Array Value} {NA VT : ByteArray} {L1 L2 : List AT} {p : Bool} {i : Nat} {v : Value} {w w' : World} (h : FMore n1 h0 b6 wh q6 D NC NA VT L1 L2 p false i v w) (hi : i ≠ 4) (hN : 0 < NC.size)
    (hk : ∀ (b : Nat) (cs : Array Value) (e : TypeId), w.heap[b]? = some (.cells cs e (0, 0)) → 0 < cs.size → w'.heap[b]? = w.heap[b]?) : FMore n1 h0 b6 wh q6 D NC NA VT L1 L2 true false i v w' := by
  have hk : ∀ {b : Nat} {cs : Array Value} {e : TypeId}, w.heap[b]? = some (.cells cs e (0, 0)) → 0 < cs.size → w'.heap[b]? = some (.cells cs e (0, 0)) := fun e h => (hk _ _ _ e h).trans e
  match i, h, hi with
  | 0, h, _ => exact h
  | 1, h, _ => exact h
  | 2, h, _ => exact .inl rfl
  | 3, h, _ => exact h
  | 4, h, hi => exact absurd rfl hi
  | 5, h, _ => obtain ⟨b, e, hc⟩ := h; exact ⟨b, e, hk hc hN⟩
  | 6, h, _ => exact h
  | 7, h, _ => exact h
  | 8, h, _ => obtain ⟨b, e, hc⟩ := h; exact ⟨b, e, hk hc hN⟩
  | 9, h, _ => exact h
  | 10, h, _ => obtain ⟨b, e, hc⟩ := h; exact ⟨b, e, hk hc (by simp)⟩
  | 11, h, _ => obtain ⟨b, e, hc⟩ := h; exact ⟨b, e, hk hc (by simp)⟩
  | 12, h, _ => exact h.imp id fun ⟨c, b, e, h1, h2⟩ => ⟨c, b, e, hk h1 (by simp), hk h2 (by simp)⟩
  | 13, h, _ => cases h.1
  | 14, h, _ => cases h.1
  | 15, h, _ => obtain ⟨b, e, hn, hc⟩ := h; exact ⟨b, e, hn, hk hc (by simp)⟩
  | _ + 16, h, _ => exact trivial
theorem FMore.loud2 {n1 h0 b6 wh q6 : Nat} {D : ByteArray} {NC : Array Value} {NA VT : ByteArray} {L1 L2 : List AT} {p : Bool} {i : Nat} {v : Value} {w w' : World} (h : FMore n1 h0 b6 wh q6 D NC NA VT L1 L2 p false i v w) (hp : p = true)
    (hk : ∀ (b : Nat) (cs : Array Value) (e : TypeId), w.heap[b]? = some (.cells cs e (0, 0)) → e ≠ 42 → w'.heap[b]? = w.heap[b]?) : FMore n1 h0 b6 wh q6 D NC NA VT L1 L2 true true i v w' := by
  have hk : ∀ {b : Nat} {cs : Array Value} {e : TypeId}, w.heap[b]? = some (.cells cs e (0, 0)) → e ≠ 42 → w'.heap[b]? = some (.cells cs e (0, 0)) := fun e h => (hk _ _ _ e h).trans e
  match i, h with
  | 0, h => exact h
  | 1, h => exact h
  | 2, h => exact .inl rfl
  | 3, h => exact h
  | 4, h => exact .inl rfl
  | 5, h => obtain ⟨b, e, hc⟩ := h; exact ⟨b, e, hk hc (by decide)⟩
  | 6, h => exact h
  | 7, h => exact h
  | 8, h => obtain ⟨b, e, hc⟩ := h; exact ⟨b, e, hk hc (by decide)⟩
  | 9, h => exact h
  | 10, h => obtain ⟨b, e, hc⟩ := h; exact ⟨b, e, hk hc (by decide)⟩
  | 11, h => obtain ⟨b, e, hc⟩ := h; exact ⟨b, e, hk hc (by decide)⟩
  | 12, h => exact .inl rfl
  | 13, h => cases h.1
  | 14, h => cases h.1
  | 15, h => obtain ⟨b, e, hn, hc⟩ := h; exact ⟨b, e, hn, hk hc (by decide)⟩
  | _ + 16, h => exact trivial

/-- 'append' onto the empty row: but for that nothing is written to. -/
theorem run_append_E {B b : Nat} {w : World} (hb : w.heap[b]? = some (.cells #[] 42 (0, 0))) (hn : B ≤ b) (hB : B ≤ w.heap.size) {PM : List PT} {M : List AT} (hs : SaysM w PM M) (ad : Addr) (c : Nat)
    (hc : ∀ j u, (cellsP PM)[j]? = some u → w.cell? (ad.add j) = some u) (hlen : M.length ≤ 1000) (ty : TypeId) :
    ∃ v' w', (Builtin.append_ #[22, 22] ty #[.slice (some ⟨b, 0, none⟩) 0 0, .slice (some ad) M.length c]).run Tryz.prog w = .ok v' w' ∧ OwnM B w' v' M ∧ Below B w w' ∧
      ∀ (k : Nat) (cs : Array Value) (e : TypeId), w.heap[k]? = some (.cells cs e (0, 0)) → (0 < cs.size ∨ e ≠ 42) → w'.heap[k]? = w.heap[k]? := by
  obtain ⟨v', w', h1, h2, h3, P, h4, h5⟩ := run_append_M (ownM_empty hb hn) hB hs ad c hc (by simpa using hlen) ty
  rw [List.nil_append] at h2
  refine ⟨v', w', h1, h2, h3, fun k cs e hk hne => ?_⟩
  refine h5.block k (Array.getElem?_eq_some_iff.1 hk).1 fun he => ?_
  have : k = b := by simpa [Value.ownBlock] using he
  subst this
  rw [hb] at hk
  cases hk
  rcases hne with h | h
  · simp at h
  · exact h rfl
end Go.Proofs.YtofmpaphafhdpaaGreatDoor

/- SchemaNeeds: what schema.Check says of each entry; no program. -/
namespace Go.Proofs.YtofmpaphafhdpaaGreatDoor
open Go.RowKit
set_option linter.unusedVariables false

def moreT : List (List UInt8) := [[109, 97, 105, 108], [117, 105, 100], [111, 117], [109, 101, 109, 98, 101, 114], [117, 105, 100, 110, 117, 109, 98, 101, 114], [111]]
def mayT : List (List UInt8) := [[100, 101, 115, 99, 114, 105, 112, 116, 105, 111, 110], [117, 115, 101, 114, 112, 97, 115, 115, 119, 111, 114, 100]]
/-- The value that is given to what an entry may not have. -/
def moreV (k : Nat) : List UInt8 := if k = 4 then [55] else [111, 61, 49]
def nedN (n : Nat) : List UInt8 := pName (Lib.itoa (n : Int))
theorem ned_e : ∀ n : Fin 256, checkD (perD (nedN n.1)) (perL (nedN n.1)) = 0 := by decide +kernel
theorem ned_less : ∀ (n : Fin 256) (k : Fin 3), checkD (perD (nedN n.1)) ((perL (nedN n.1)).take k.1 ++ (perL (nedN n.1)).drop (k.1 + 1)) = 65 := by decide +kernel
theorem ned_more : ∀ (n : Fin 256) (k : Fin 6), checkD (perD (nedN n.1)) (perL (nedN n.1) ++ [(moreT.getD k.1 [], [moreV k.1])]) = 65 := by decide +kernel
theorem ned_may : ∀ (n : Fin 256) (k : Fin 2), checkD (perD (nedN n.1)) (perL (nedN n.1) ++ [(mayT.getD k.1 [], [[97, 110, 121]])]) = 0 := by decide +kernel
end Go.Proofs.YtofmpaphafhdpaaGreatDoor

/- SchemaNeeds: the walk. -/
namespace Go.Proofs.YtofmpaphafhdpaaGreatDoor
open Go.RowKit
set_option linter.unusedVariables false

theorem nc6_nm : ∀ q, q < 6 → (nmB NC6 q).data.toList = moreT.getD q []
  | 0, _ => rfl
  | 1, _ => rfl
  | 2, _ => rfl
  | 3, _ => rfl
  | 4, _ => rfl
  | 5, _ => rfl
theorem nc2_nm : ∀ q, q < 2 → (nmB NC2 q).data.toList = mayT.getD q []
  | 0, _ => rfl
  | 1, _ => rfl

set_option maxRecDepth 100000 in
set_option maxHeartbeats 4000000 in
theorem needs_walk (n wh : Nat) (hn : n ≤ 255) (hwh : wh ≤ 255) (w : World) (hw : LaidW w) (hl : LaidF w) :
    Calls Tryz.prog 5 #[.int .u8 n, .int .u8 wh] w fun e w' => e = .returned (.bool true) ∧ Below w.heap.size w w' := by
  have HW := Lib.hid hw
  have HL := Lib.hid hl
  have hwr : IntKind.i64.wrap (n : Int) = (n : Int) := by rw [IntKind.wrap_i64]; omega
  have hwr2 : IntKind.i64.wrap (wh : Int) = (wh : Int) := by rw [IntKind.wrap_i64]; omega
  have HDg := Lib.hid (fun W => digits_any (n : Int) (by omega) (by omega) W)
  obtain ⟨X, hX⟩ : ∃ X, X = ofL (Lib.itoa (n : Int)) := ⟨_, rfl⟩
  have hXl : X.data.toList = Lib.itoa (n : Int) := by rw [hX, ofL_list]
  have hXs : X.size ≤ 3 := by rw [← bytes_len, hXl]; exact itoa_short ⟨n, by omega⟩
  obtain ⟨P, hP⟩ : ∃ P, (⟨#[112]⟩ : ByteArray) ++ X = P := ⟨_, rfl⟩
  have hPl : P.data.toList = nedN n := by rw [← hP, app_list, hXl]; rfl
  have hPs : P.size ≤ 4 := by rw [← hP, ← bytes_len, app_list, List.length_append, bytes_len, bytes_len]; have : (⟨#[112]⟩ : ByteArray).size = 1 := rfl; omega
  obtain ⟨k, hk⟩ : ∃ k, k = wh % 3 := ⟨_, rfl⟩
  have hmod3 : (wh : Int) % 3 = (k : Int) := by omega
  have hk3 : k < 3 := by omega
  have HK := Lib.hid hk
  obtain ⟨q6, hq⟩ : ∃ k, k = wh % 6 := ⟨_, rfl⟩
  have hmod6 : (wh : Int) % 6 = (q6 : Int) := by omega
  have hq6 : q6 < 6 := by omega
  have hwu6 : IntKind.u8.wrap (q6 : Int) = (q6 : Int) := by rw [IntKind.wrap_u8]; omega
  have htm6 : (wh : Int).tmod 6 = (q6 : Int) := by rw [Int.tmod_eq_emod_of_nonneg (by omega)]; exact hmod6
  have hix6 : (q6 : Int) < 6 := by omega
  have HQ6 := Lib.hid hq
  clear hq
  obtain ⟨q2, hq⟩ : ∃ k, k = wh % 2 := ⟨_, rfl⟩
  have hmod2 : (wh : Int) % 2 = (q2 : Int) := by omega
  have hq2 : q2 < 2 := by omega
  have hwu2 : IntKind.u8.wrap (q2 : Int) = (q2 : Int) := by rw [IntKind.wrap_u8]; omega
  have htm2 : (wh : Int).tmod 2 = (q2 : Int) := by rw [Int.tmod_eq_emod_of_nonneg (by omega)]; exact hmod2
  have hix2 : (q2 : Int) < 2 := by omega
  have HQ2 := Lib.hid hq
  clear hq
  have q1 : 1 + X.size ≤ 9223372036854775807 := by omega
  rw [← hX] at HDg
  have HPe := Lib.hid (fun W => person_any P (by omega) W)
  have HPl := Lib.hid hPl
  have HPs := Lib.hid hPs
  clear hX hXl hXs hPl hPs hw hl hk
  go_enter Tryz.func5, Tryz.ntmps5
  go_upto_region 2 with (first
    | (go_at_call 19; refine (HDg.out _).mono ?_; rintro e w2 ⟨rfl, hb2⟩; have HB2 := Lib.hid hb2; clear hb2)
    | (go_at_call 18; refine (HPe.out _).mono ?_; rintro e w3 ⟨D3, g, rfl, hD3, hp, hg, hb3⟩; have HP := Lib.hid hp; have HD := Lib.hid hD3; have HB3 := Lib.hid (bthen HB2.out hb3); clear hD3 hg hp hb3))
  have hbx0 := boxN_new w3 D3 (.slice (some ⟨g, 0, none⟩) 3 3)
  have hb0 : Below w3.heap.size w3 (w3.alloc (.cells #[.string D3, .slice (some ⟨g, 0, none⟩) 3 3] 24)) := (Below.refl _ _).alloc (Nat.le_refl _) _
  have hs0 : (w3.alloc (.cells #[.string D3, .slice (some ⟨g, 0, none⟩) 3 3] 24)).heap.size = w3.heap.size + 1 := by simp
  have hp0 := HP.out.below hb0 HP.out.lt
  have HB0 := Lib.hid (bthen HB3.out hb0)
  generalize w3.alloc (.cells #[.string D3, .slice (some ⟨g, 0, none⟩) 3 3] 24) = W0 at hbx0 hb0 hs0 hp0 HB0 ⊢
  obtain ⟨h0, hh0⟩ : ∃ h, h = w3.heap.size := ⟨_, rfl⟩
  rw [← hh0] at hbx0 hs0 ⊢
  obtain ⟨x0, x1⟩ := hbx0.cells
  obtain ⟨y0, y1⟩ := hp0.cell01
  obtain ⟨y2, y3, y4, y5⟩ := hp0.cells
  have hst0 : W0.drew.cell? ⟨h0, 1, none⟩ = some (.slice (some ⟨g, 0, none⟩) 3 3) ∧ W0.drew.cell? ⟨g, 0, none⟩ = some (.string ⟨#[99, 110]⟩) ∧ W0.drew.cell? ⟨g, 1, none⟩ = some (.slice (some ⟨g - 3, 0, none⟩) 1 1) ∧ W0.drew.cell? ⟨g, 2, none⟩ = some (.string ⟨#[111, 98, 106, 101, 99, 116, 99, 108, 97, 115, 115]⟩) ∧ W0.drew.cell? ⟨g, 3, none⟩ = some (.slice (some ⟨g - 2, 0, none⟩) 1 1) ∧ W0.drew.cell? ⟨g, 4, none⟩ = some (.string ⟨#[115, 110]⟩) ∧ W0.drew.cell? ⟨g, 5, none⟩ = some (.slice (some ⟨g - 1, 0, none⟩) 1 1) := ⟨x1, y0, y1, y2, y3, y4, y5⟩
  have HKp0 : Hid (∀ wx, Below W0.heap.size W0 wx → (wx.cell? ⟨h0, 1, none⟩ = some (.slice (some ⟨g, 0, none⟩) 3 3) ∧ wx.cell? ⟨g, 0, none⟩ = some (.string ⟨#[99, 110]⟩) ∧ wx.cell? ⟨g, 1, none⟩ = some (.slice (some ⟨g - 3, 0, none⟩) 1 1) ∧ wx.cell? ⟨g, 2, none⟩ = some (.string ⟨#[111, 98, 106, 101, 99, 116, 99, 108, 97, 115, 115]⟩) ∧ wx.cell? ⟨g, 3, none⟩ = some (.slice (some ⟨g - 2, 0, none⟩) 1 1) ∧ wx.cell? ⟨g, 4, none⟩ = some (.string ⟨#[115, 110]⟩) ∧ wx.cell? ⟨g, 5, none⟩ = some (.slice (some ⟨g - 1, 0, none⟩) 1 1))) := Lib.hid (fun wx hb => by
    have hbx := (hbx0.below hb (by omega)).cells
    have hp := hp0.below hb hp0.lt
    obtain ⟨y0, y1⟩ := hp.cell01
    obtain ⟨y2, y3, y4, y5⟩ := hp.cells
    exact ⟨hbx.2, y0, y1, y2, y3, y4, y5⟩)
  have HBx0 := Lib.hid hbx0
  have HP0 := Lib.hid hp0
  have HS0 := Lib.hid hs0
  clear hbx0 hb0 hs0 hp0 hh0 x0 x1 y0 y1 y2 y3 y4 y5
  go_region_held3 (fun w' => w'.cell? ⟨h0, 1, none⟩ = some (.slice (some ⟨g, 0, none⟩) 3 3) ∧ w'.cell? ⟨g, 0, none⟩ = some (.string ⟨#[99, 110]⟩) ∧ w'.cell? ⟨g, 1, none⟩ = some (.slice (some ⟨g - 3, 0, none⟩) 1 1) ∧ w'.cell? ⟨g, 2, none⟩ = some (.string ⟨#[111, 98, 106, 101, 99, 116, 99, 108, 97, 115, 115]⟩) ∧ w'.cell? ⟨g, 3, none⟩ = some (.slice (some ⟨g - 2, 0, none⟩) 1 1) ∧ w'.cell? ⟨g, 4, none⟩ = some (.string ⟨#[115, 110]⟩) ∧ w'.cell? ⟨g, 5, none⟩ = some (.slice (some ⟨g - 1, 0, none⟩) 1 1))
    (first | (with_reducible exact hst0) | exact HKp0.out _ ((Below.refl _ _).alloc (Nat.le_refl _) _).drew) (fail)
  go_split_ands
  have hb2 : Below W0.heap.size W0 (W0.alloc (.cells #[.string ⟨#[99, 110]⟩, .slice (some ⟨g - 3, 0, none⟩) 1 1, .string ⟨#[111, 98, 106, 101, 99, 116, 99, 108, 97, 115, 115]⟩, .slice (some ⟨g - 2, 0, none⟩) 1 1, .string ⟨#[115, 110]⟩, .slice (some ⟨g - 1, 0, none⟩) 1 1] 42)).drew := ((Below.refl _ _).alloc (Nat.le_refl _) _).drew
  have hlW2 : (W0.alloc (.cells #[.string ⟨#[99, 110]⟩, .slice (some ⟨g - 3, 0, none⟩) 1 1, .string ⟨#[111, 98, 106, 101, 99, 116, 99, 108, 97, 115, 115]⟩, .slice (some ⟨g - 2, 0, none⟩) 1 1, .string ⟨#[115, 110]⟩, .slice (some ⟨g - 1, 0, none⟩) 1 1] 42)).drew.heap[W0.heap.size]? = some (.cells (cellsP (perRow g)).toArray 42 (0, 0)) := heap_alloc_new W0 _
  go_upto_region 4 with (fail)
  generalize (W0.alloc (.cells #[.string ⟨#[99, 110]⟩, .slice (some ⟨g - 3, 0, none⟩) 1 1, .string ⟨#[111, 98, 106, 101, 99, 116, 99, 108, 97, 115, 115]⟩, .slice (some ⟨g - 2, 0, none⟩) 1 1, .string ⟨#[115, 110]⟩, .slice (some ⟨g - 1, 0, none⟩) 1 1] 42)).drew = W2 at hb2 hlW2 ⊢
  obtain ⟨b6, hb6⟩ : ∃ b, b = W0.heap.size := ⟨_, rfl⟩
  rw [← hb6] at hlW2 ⊢
  have hxW2 := HBx0.out.below hb2 (by have := HS0.out; omega)
  have hpW2 := HP0.out.below hb2 HP0.out.lt
  have hBW2 := bthen HB0.out hb2
  have hlW2s : b6 < W2.heap.size := (Array.getElem?_eq_some_iff.1 hlW2).1
  have hhW2 : h0 < W2.heap.size := (Array.getElem?_eq_some_iff.1 hxW2).1
  obtain ⟨L, hL⟩ : ∃ L, L = perL P.data.toList := ⟨_, rfl⟩
  have hLl : L.length = 3 := by rw [hL]; rfl
  have hsayW2 : SaysM W2 (perRow g) L := by rw [hL]; exact per_says hpW2
  refine region_two (by kernel_rfl) W2.heap.size 6 11 (FLess W2.heap.size h0 b6 k D3 (L.take k) (L.take k ++ L.drop (k + 1))) (fun _ _ _ _ _ _ _ h hb => h.go hb) (Nat.le_refl _) (by kernel_rfl) (by kernel_rfl) (by decide) (by rfl) ?hs ?h1 ?h2 ?hl
  case hs =>
    intro listed a W p q hsz hk i o ho hi hi1 hi2 hc
    have e5 := hk.read (t := 5) (by kernel_rfl) rfl
    have e6 := hk.read (t := 6) (by kernel_rfl) rfl
    have e7 := hk.read (t := 7) (by kernel_rfl) rfl
    have d0 : W.cell? ⟨h0, 0, none⟩ = some (.string D3) := (hk.grown.cell (p := ⟨h0, 0, none⟩) hhW2).trans hxW2.cells.1
    match i, hi, hi1, hi2 with
    | 0, _, _, _ =>
      obtain rfl := Option.some.inj ho
      exact wpOp_val rfl rfl (v := .pointer (some ⟨h0, 0, none⟩)) (w' := W) (by simp [go_sem, e5]) ⟨_, _, rfl, rfl, Below.refl _ _, rfl⟩
    | 1, _, _, _ =>
      obtain rfl := Option.some.inj ho
      obtain ⟨v0, g0, f0⟩ := hk.got (j := 0) rfl rfl (hc ⟨0, .data⟩ (by simp) rfl)
      obtain rfl : v0 = _ := f0
      exact wpOp_val rfl rfl (v := .string D3) (w' := W) (by simp [go_sem, g0, d0]) ⟨_, _, rfl, rfl, Below.refl _ _, rfl⟩
    | 2, _, _, _ =>
      obtain rfl := Option.some.inj ho
      exact wpOp_val rfl rfl (v := .slice (some ⟨W.heap.size, 0, none⟩) 0 0) (w' := W.alloc (.cells #[] 42)) (by simp [go_sem]) ⟨_, _, rfl, rfl, (Below.refl _ _).alloc (Nat.le_refl _) _, .inr ⟨_, rfl, hsz, heap_alloc_new W _⟩⟩
    | 3, _, _, _ =>
      obtain rfl := Option.some.inj ho
      exact wpOp_val rfl rfl (v := .slice (some ⟨b6, 0, none⟩) 3 3) (w' := W) (by simp [go_sem, e6]) ⟨_, _, rfl, rfl, Below.refl _ _, rfl⟩
    | 4, _, _, _ =>
      obtain rfl := Option.some.inj ho
      exact wpOp_val rfl rfl (v := .int .i64 (k : Int)) (w' := W) (by simp [go_sem, e7, hmod3]) ⟨_, _, rfl, rfl, Below.refl _ _, rfl⟩
    | 5, _, _, _ =>
      obtain rfl := Option.some.inj ho
      obtain ⟨v3, g3, f3⟩ := hk.got (j := 3) rfl rfl (hc ⟨3, .data⟩ (by simp) rfl)
      obtain ⟨v4, g4, f4⟩ := hk.got (j := 4) rfl rfl (hc ⟨4, .data⟩ (by simp) rfl)
      obtain rfl : v3 = _ := f3
      obtain rfl : v4 = _ := f4
      exact wpOp_val rfl rfl (v := .slice (some ⟨b6, 0, none⟩) k 3) (w' := W) (by
          have h : k = 0 ∨ k = 1 ∨ k = 2 := by omega
          clear HK hmod3 hk3
          rcases h with rfl | rfl | rfl <;> simp [go_sem, g3, g4]) ⟨_, _, rfl, rfl, Below.refl _ _, rfl⟩
    | 7, _, _, _ =>
      obtain rfl := Option.some.inj ho
      exact wpOp_val rfl rfl (v := .slice (some ⟨b6, 0, none⟩) 3 3) (w' := W) (by simp [go_sem, e6]) ⟨_, _, rfl, rfl, Below.refl _ _, rfl⟩
    | 8, _, _, _ =>
      obtain rfl := Option.some.inj ho
      exact wpOp_val rfl rfl (v := .int .i64 (k : Int)) (w' := W) (by simp [go_sem, e7, hmod3]) ⟨_, _, rfl, rfl, Below.refl _ _, rfl⟩
    | 9, _, _, _ =>
      obtain rfl := Option.some.inj ho
      obtain ⟨v8, g8, f8⟩ := hk.got (j := 8) rfl rfl (hc ⟨8, .data⟩ (by simp) rfl)
      obtain rfl : v8 = _ := f8
      exact wpOp_val rfl rfl (v := .int .i64 ((k : Int) + 1)) (w' := W) (by
          have h : k = 0 ∨ k = 1 ∨ k = 2 := by omega
          clear HK hmod3 hk3
          rcases h with rfl | rfl | rfl <;> simp [go_sem, g8, show IntKind.i64.wrap 1 = 1 from by decide, show IntKind.i64.wrap 2 = 2 from by decide, show IntKind.i64.wrap 3 = 3 from by decide]) ⟨_, _, rfl, rfl, Below.refl _ _, rfl⟩
    | 10, _, _, _ =>
      obtain rfl := Option.some.inj ho
      obtain ⟨v7, g7, f7⟩ := hk.got (j := 7) rfl rfl (hc ⟨7, .data⟩ (by simp) rfl)
      obtain ⟨v9, g9, f9⟩ := hk.got (j := 9) rfl rfl (hc ⟨9, .data⟩ (by simp) rfl)
      obtain rfl : v7 = _ := f7
      obtain rfl : v9 = _ := f9
      exact wpOp_val rfl rfl (v := .slice (some (if k = 2 then ⟨b6, 0, none⟩ else ⟨b6, (k + 1) * 2, none⟩)) (2 - k) (2 - k)) (w' := W) (by
          have h : k = 0 ∨ k = 1 ∨ k = 2 := by omega
          clear HK hmod3 hk3
          rcases h with rfl | rfl | rfl <;> simp [go_sem, g7, g9]) ⟨_, _, rfl, rfl, Below.refl _ _, rfl⟩
    | 12, _, _, _ =>
      obtain rfl := Option.some.inj ho
      obtain ⟨v1, g1, f1⟩ := hk.got (j := 1) rfl rfl (hc ⟨1, .data⟩ (by simp) rfl)
      obtain ⟨v11, g11, f11⟩ := hk.got (j := 11) rfl rfl (hc ⟨11, .data⟩ (by simp) rfl)
      obtain rfl : v1 = _ := f1
      obtain ⟨hq, hown⟩ := f11
      obtain ⟨P11, hr11, hs11⟩ := id hown
      obtain ⟨sa, sc, rfl⟩ := rowP_slice hr11
      exact wpOp_val rfl rfl (v := .agg #[.string D3, .slice sa P11.length sc]) (w' := W) (by simp [go_sem, g1, g11]) ⟨_, _, rfl, rfl, Below.refl _ _, ⟨hq, _, rfl, hown⟩⟩
    | 13, _, _, _ =>
      obtain rfl := Option.some.inj ho
      exact wpOp_val rfl rfl (v := .pointer (some ⟨W.heap.size, 0, none⟩)) (w' := W.alloc (.cells #[.string ⟨#[]⟩, .slice none 0 0] 24)) (by simp [go_sem]) ⟨_, _, rfl, rfl, (Below.refl _ _).alloc (Nat.le_refl _) _, ⟨_, rfl, hsz, heap_alloc_new W _⟩⟩
    | 6, _, h6, _ => exact absurd rfl h6
    | 11, _, _, h11 => exact absurd rfl h11
    | m + 14, hm, _, _ => exact absurd hm (by simp)
  case h1 =>
    intro listed a W hsz hk o ho hc
    obtain rfl := Option.some.inj ho
    obtain ⟨v2, g2, f2⟩ := hk.got (j := 2) rfl rfl (hc ⟨2, .data⟩ (by simp) rfl)
    obtain ⟨v5, g5, f5⟩ := hk.got (j := 5) rfl rfl (hc ⟨5, .data⟩ (by simp) rfl)
    obtain rfl : v5 = _ := f5
    obtain ⟨b, rfl, hbn, hbc⟩ := f2.resolve_left (by simp)
    have hcl := list_cells ((hk.grown.block b6 hlW2s).trans hlW2)
    have hsy := saysM_below hsayW2 hk.grown
    have hs1 : SaysM W ((perRow g).take k) (L.take k) := saysM_part (A := []) (C := (perRow g).drop k) (L := []) (N := L.drop k) (by simpa using hsy) rfl (by simp [hLl, perRow])
    have hc1 := row_part hcl [] ((perRow g).take k) ((perRow g).drop k) (by simp)
    obtain ⟨v', w', hrun, hown, hbel, hkeep⟩ := run_append_E hbc hbn hsz hs1 ⟨b6, 0, none⟩ 3 (by simpa using hc1) (by simp; omega) 22
    rw [show (L.take k).length = k from by simp; omega] at hrun
    exact wpOp_val rfl rfl (exec_append rfl (by simp [go_sem, g2]) (by simp [go_sem, g5]) hrun) ⟨_, _, rfl, rfl, hbel, .inr hown, fun j u hj h => h.loud rfl (.inl hj) fun b cs e hb hne => hkeep b cs e hb (.inr hne)⟩
  case h2 =>
    intro listed a W hsz hk o ho hc
    obtain rfl := Option.some.inj ho
    obtain ⟨v6, g6, f6⟩ := hk.got (j := 6) rfl rfl (hc ⟨6, .data⟩ (by simp) rfl)
    obtain ⟨v10, g10, f10⟩ := hk.got (j := 10) rfl rfl (hc ⟨10, .data⟩ (by simp) rfl)
    obtain rfl : v10 = _ := f10
    have hcl := list_cells ((hk.grown.block b6 hlW2s).trans hlW2)
    have hsy := saysM_below hsayW2 hk.grown
    have hs1 : SaysM W ((perRow g).drop (k + 1)) (L.drop (k + 1)) := saysM_part (A := (perRow g).take (k + 1)) (C := []) (L := L.take (k + 1)) (N := []) (by simpa using hsy) (by simp [hLl, perRow]; omega) (by simp [hLl, perRow])
    have hc1 := row_part hcl ((perRow g).take (k + 1)) ((perRow g).drop (k + 1)) [] (by simp)
    have hc2 : ∀ j u, (cellsP ((perRow g).drop (k + 1)))[j]? = some u → W.cell? ((if k = 2 then (⟨b6, 0, none⟩ : Addr) else ⟨b6, (k + 1) * 2, none⟩).add j) = some u := by
      intro j u hu
      by_cases h : k = 2
      · subst h
        simp [perRow, cellsP] at hu
      · rw [if_neg h]
        have := hc1 j u hu
        rw [show ((perRow g).take (k + 1)).length = k + 1 from by simp [perRow]; omega] at this
        exact this
    obtain ⟨v', w', hrun, hown, hbel, P, hr, hg⟩ := run_append_M (f6.resolve_left (by simp)) hsz hs1 _ (2 - k) hc2 (by simp [hLl]; omega) 22
    rw [show (L.drop (k + 1)).length = 2 - k from by rw [List.length_drop, hLl]; omega] at hrun
    exact wpOp_val rfl rfl (exec_append rfl (by simp [go_sem, g6]) (by simp [go_sem, g10]) hrun) ⟨_, _, rfl, rfl, hbel, ⟨rfl, hown⟩, fun j u hj h => h.loud rfl (.inr rfl) fun b cs e hb hne => row_keep hr hg hb hne⟩
  case hl =>
    intro listed a W hsz hk hall
    obtain ⟨v12, g12, f12⟩ := hk.got (j := 12) rfl rfl (hall 12 (by simp))
    obtain ⟨v13, g13, f13⟩ := hk.got (j := 13) rfl rfl (hall 13 (by simp))
    obtain ⟨_, s, rfl, hown⟩ := f12
    obtain ⟨b, rfl, hbn, hbc⟩ := f13
    obtain ⟨P12, hr12, hs12⟩ := id hown
    obtain ⟨sa, sc, rfl⟩ := rowP_slice hr12
    obtain ⟨c0, c1, c2, c3⟩ := entry_new hbc (.string D3)
    have hput := hk.puts
    have hm := mAt_store (D := D3) hk.grown hbc hbn hown
    refine wpOp_skip rfl rfl (w' := (W.setCell ⟨b, 0, none⟩ (.string D3)).setCell ⟨b, 1, none⟩ (.slice sa P12.length sc)) (by simp [go_sem, g12, g13, c0, c1, c2, c3]) ?_
    rw [hput]
    simp only [putT, g13]
    generalize a.tmps[32]?.getD undef = x32
    generalize a.tmps[33]?.getD undef = x33
    generalize a.tmps[34]?.getD undef = x34
    generalize a.tmps[35]?.getD undef = x35
    generalize a.tmps[36]?.getD undef = x36
    generalize a.tmps[37]?.getD undef = x37
    generalize a.tmps[38]?.getD undef = x38
    generalize a.tmps[39]?.getD undef = x39
    generalize a.tmps[40]?.getD undef = x40
    generalize a.tmps[41]?.getD undef = x41
    generalize a.tmps[42]?.getD undef = x42
    generalize a.tmps[43]?.getD undef = x43
    generalize a.tmps[44]?.getD undef = x44
    have HM4 := Lib.hid hm
    clear hall hput g12 g13 hm hbn hbc hown hr12 hs12 c0 c1 c2 c3 hk
    obtain ⟨b8, hb8⟩ : ∃ x, x = b := ⟨_, rfl⟩
    subst hb8
    generalize ((W.setCell ⟨b8, 0, none⟩ (.string D3)).setCell ⟨b8, 1, none⟩ (.slice sa P12.length sc)) = W4 at HM4 ⊢
    obtain ⟨u8, hu8⟩ : ∃ u, u = Value.slice sa P12.length sc := ⟨_, rfl⟩
    rw [← hu8] at HM4
    clear hu8
    go_simp
    go_upto_region 5 with (fail)
    have hbW4 := HM4.out.below
    have hxW4 := hxW2.below hbW4 hhW2
    have hhW4 : h0 < W4.heap.size := (Array.getElem?_eq_some_iff.1 hxW4).1
    have hlW4 := (hbW4.block b6 hlW2s).trans hlW2
    have hlW4s : b6 < W4.heap.size := (Array.getElem?_eq_some_iff.1 hlW4).1
    have hpW4 := hpW2.below hbW4 hpW2.lt
    have hsayW4 := saysM_below hsayW2 hbW4
    refine region_two (by kernel_rfl) W4.heap.size 4 13 (FMore W4.heap.size h0 b6 wh q6 D3 NC6 (nmB NC6 q6) ⟨#[111, 61, 49]⟩ L (L ++ [((nmB NC6 q6).data.toList, [[111, 61, 49]])])) (fun _ _ _ _ _ _ _ h hb => h.go hb) (Nat.le_refl _) (by kernel_rfl) (by kernel_rfl) (by decide) (by rfl) ?hs5 ?hx5 ?hy5 ?hl5
    case hs5 =>
      intro listed a W p q hsz hk i o ho hi hi1 hi2 hc
      have e1 := hk.read (t := 1) (by kernel_rfl) rfl
      have e5 := hk.read (t := 5) (by kernel_rfl) rfl
      have e6 := hk.read (t := 6) (by kernel_rfl) rfl
      have d0 : W.cell? ⟨h0, 0, none⟩ = some (.string D3) := (hk.grown.cell (p := ⟨h0, 0, none⟩) hhW4).trans hxW4.cells.1
      match i, hi, hi1, hi2 with
      | 0, _, _, _ =>
        obtain rfl := Option.some.inj ho
        exact wpOp_val rfl rfl (v := .pointer (some ⟨h0, 0, none⟩)) (w' := W) (by simp [go_sem, e5]) ⟨_, _, rfl, rfl, Below.refl _ _, rfl⟩
      | 1, _, _, _ =>
        obtain rfl := Option.some.inj ho
        obtain ⟨v0, g0, f0⟩ := hk.got (j := 0) rfl rfl (hc ⟨0, .data⟩ (by simp) rfl)
        obtain rfl : v0 = _ := f0
        exact wpOp_val rfl rfl (v := .string D3) (w' := W) (by simp [go_sem, g0, d0]) ⟨_, _, rfl, rfl, Below.refl _ _, rfl⟩
      | 2, _, _, _ =>
        obtain rfl := Option.some.inj ho
        exact wpOp_val rfl rfl (v := .slice (some ⟨W.heap.size, 0, none⟩) 0 0) (w' := W.alloc (.cells #[] 42)) (by simp [go_sem]) ⟨_, _, rfl, rfl, (Below.refl _ _).alloc (Nat.le_refl _) _, .inr ⟨_, rfl, hsz, heap_alloc_new W _⟩⟩
      | 3, _, _, _ =>
        obtain rfl := Option.some.inj ho
        exact wpOp_val rfl rfl (v := .slice (some ⟨b6, 0, none⟩) 3 3) (w' := W) (by simp [go_sem, e6]) ⟨_, _, rfl, rfl, Below.refl _ _, rfl⟩
      | 5, _, _, _ =>
        obtain rfl := Option.some.inj ho
        exact wpOp_val rfl rfl (v := .slice (some ⟨W.heap.size, 0, none⟩) 6 6) (w' := W.alloc (.cells NC6 9)) (by simp [go_sem, NC6]) ⟨_, _, rfl, rfl, (Below.refl _ _).alloc (Nat.le_refl _) _, ⟨_, rfl, heap_alloc_new W _⟩⟩
      | 6, _, _, _ =>
        obtain rfl := Option.some.inj ho
        exact wpOp_val rfl rfl (v := .int .u8 (wh : Int)) (w' := W) (by simp [go_sem, e1]) ⟨_, _, rfl, rfl, Below.refl _ _, rfl⟩
      | 7, _, _, _ =>
        obtain rfl := Option.some.inj ho
        obtain ⟨v6, g6, f6⟩ := hk.got (j := 6) rfl rfl (hc ⟨6, .data⟩ (by simp) rfl)
        obtain rfl : v6 = _ := f6
        exact wpOp_val rfl rfl (v := .int .u8 (q6 : Int)) (w' := W) (by simp [go_sem, g6, htm6, hwu6]) ⟨_, _, rfl, rfl, Below.refl _ _, rfl⟩
      | 8, _, _, _ =>
        obtain rfl := Option.some.inj ho
        obtain ⟨v5, g5, f5⟩ := hk.got (j := 5) rfl rfl (hc ⟨5, .data⟩ (by simp) rfl)
        obtain ⟨v7, g7, f7⟩ := hk.got (j := 7) rfl rfl (hc ⟨7, .data⟩ (by simp) rfl)
        obtain rfl : v7 = _ := f7
        obtain ⟨b, rfl, hb⟩ := f5
        exact wpOp_val rfl rfl (v := .pointer (some ⟨b, q6, none⟩)) (w' := W) (by simp [go_sem, g5, g7, hix6, NC6]) ⟨_, _, rfl, rfl, Below.refl _ _, ⟨_, rfl, hb⟩⟩
      | 9, _, _, _ =>
        obtain rfl := Option.some.inj ho
        obtain ⟨v8, g8, f8⟩ := hk.got (j := 8) rfl rfl (hc ⟨8, .data⟩ (by simp) rfl)
        obtain ⟨b, rfl, hb⟩ := f8
        have c0 : W.cell? ⟨b, q6, none⟩ = some (.string (nmB NC6 q6)) := by simp only [World.cell?, hb]; exact nc6_at q6 hq6
        exact wpOp_val rfl rfl (v := .string (nmB NC6 q6)) (w' := W) (by simp [go_sem, g8, c0]) ⟨_, _, rfl, rfl, Below.refl _ _, rfl⟩
      | 10, _, _, _ =>
        obtain rfl := Option.some.inj ho
        exact wpOp_val rfl rfl (v := .slice (some ⟨W.heap.size, 0, none⟩) 1 1) (w' := W.alloc (.cells #[.string ⟨#[111, 61, 49]⟩] 9)) (by simp [go_sem]) ⟨_, _, rfl, rfl, (Below.refl _ _).alloc (Nat.le_refl _) _, ⟨_, rfl, heap_alloc_new W _⟩⟩
      | 11, _, _, _ =>
        obtain rfl := Option.some.inj ho
        obtain ⟨v9, g9, f9⟩ := hk.got (j := 9) rfl rfl (hc ⟨9, .data⟩ (by simp) rfl)
        obtain ⟨v10, g10, f10⟩ := hk.got (j := 10) rfl rfl (hc ⟨10, .data⟩ (by simp) rfl)
        obtain rfl : v9 = _ := f9
        obtain ⟨b, rfl, hb⟩ := f10
        exact wpOp_val rfl rfl (v := .agg #[.string (nmB NC6 q6), .slice (some ⟨b, 0, none⟩) 1 1]) (w' := W) (by simp [go_sem, g9, g10]) ⟨_, _, rfl, rfl, Below.refl _ _, ⟨_, rfl, hb⟩⟩
      | 12, _, _, _ =>
        obtain rfl := Option.some.inj ho
        obtain ⟨v11, g11, f11⟩ := hk.got (j := 11) rfl rfl (hc ⟨11, .data⟩ (by simp) rfl)
        obtain ⟨b, rfl, hb⟩ := f11
        have hbl := (Array.getElem?_eq_some_iff.1 hb).1
        exact wpOp_val rfl rfl (v := .slice (some ⟨W.heap.size, 0, none⟩) 1 1) (w' := W.alloc (.cells #[.string (nmB NC6 q6), .slice (some ⟨b, 0, none⟩) 1 1] 42)) (by simp [go_sem, g11]) ⟨_, _, rfl, rfl, (Below.refl _ _).alloc (Nat.le_refl _) _, .inr ⟨_, b, rfl, heap_alloc_new W _, (heap_alloc_old W _ hbl).trans hb⟩⟩
      | 14, _, _, _ =>
        obtain rfl := Option.some.inj ho
        obtain ⟨v1, g1, f1⟩ := hk.got (j := 1) rfl rfl (hc ⟨1, .data⟩ (by simp) rfl)
        obtain ⟨v13, g13, f13⟩ := hk.got (j := 13) rfl rfl (hc ⟨13, .data⟩ (by simp) rfl)
        obtain rfl : v1 = _ := f1
        obtain ⟨hq, hown⟩ := f13
        obtain ⟨P11, hr11, hs11⟩ := id hown
        obtain ⟨sa, sc, rfl⟩ := rowP_slice hr11
        exact wpOp_val rfl rfl (v := .agg #[.string D3, .slice sa P11.length sc]) (w' := W) (by simp [go_sem, g1, g13]) ⟨_, _, rfl, rfl, Below.refl _ _, ⟨hq, _, rfl, hown⟩⟩
      | 15, _, _, _ =>
        obtain rfl := Option.some.inj ho
        exact wpOp_val rfl rfl (v := .pointer (some ⟨W.heap.size, 0, none⟩)) (w' := W.alloc (.cells #[.string ⟨#[]⟩, .slice none 0 0] 24)) (by simp [go_sem]) ⟨_, _, rfl, rfl, (Below.refl _ _).alloc (Nat.le_refl _) _, ⟨_, rfl, hsz, heap_alloc_new W _⟩⟩
      | 4, _, h4, _ => exact absurd rfl h4
      | 13, _, _, h13 => exact absurd rfl h13
      | m + 16, hm, _, _ => exact absurd hm (by simp)
    case hx5 =>
      intro listed a W hsz hk o ho hc
      obtain rfl := Option.some.inj ho
      obtain ⟨v2, g2, f2⟩ := hk.got (j := 2) rfl rfl (hc ⟨2, .data⟩ (by simp) rfl)
      obtain ⟨v3, g3, f3⟩ := hk.got (j := 3) rfl rfl (hc ⟨3, .data⟩ (by simp) rfl)
      obtain rfl : v3 = _ := f3
      obtain ⟨b, rfl, hbn, hbc⟩ := f2.resolve_left (by simp)
      have hcl := list_cells ((hk.grown.block b6 hlW4s).trans hlW4)
      have hsy := saysM_below hsayW4 hk.grown
      have hc1 := row_part hcl [] (perRow g) [] (by simp)
      obtain ⟨v', w', hrun, hown, hbel, hkeep⟩ := run_append_E hbc hbn hsz hsy ⟨b6, 0, none⟩ 3 (by simpa using hc1) (by omega) 22
      rw [hLl] at hrun
      exact wpOp_val rfl rfl (exec_append rfl (by simp [go_sem, g2]) (by simp [go_sem, g3]) hrun) ⟨_, _, rfl, rfl, hbel, .inr hown, fun j u hj h => h.loud1 hj (by decide) fun b cs e hb hs => hkeep b cs e hb (.inl hs)⟩
    case hy5 =>
      intro listed a W hsz hk o ho hc
      obtain rfl := Option.some.inj ho
      obtain ⟨v4, g4, f4⟩ := hk.got (j := 4) rfl rfl (hc ⟨4, .data⟩ (by simp) rfl)
      obtain ⟨v12, g12, f12⟩ := hk.got (j := 12) rfl rfl (hc ⟨12, .data⟩ (by simp) rfl)
      obtain ⟨c, b, rfl, hcc, hcb⟩ := f12.resolve_left (by simp)
      obtain ⟨v', w', hrun, hown, hbel, P, hr, hg⟩ := run_append_M (f4.resolve_left (by simp)) hsz (saysM_one (X := nmB NC6 q6) hcb) ⟨c, 0, none⟩ 1 (cells_one hcc) (by simp [hLl]) 22
      exact wpOp_val rfl rfl (exec_append rfl (by simp [go_sem, g4]) (by simp [go_sem, g12]) hrun) ⟨_, _, rfl, rfl, hbel, ⟨rfl, hown⟩, fun j u hj h => h.loud2 rfl fun b cs e hb hne => row_keep hr hg hb hne⟩
    case hl5 =>
      intro listed a W hsz hk hall
      obtain ⟨v14, g14, f14⟩ := hk.got (j := 14) rfl rfl (hall 14 (by simp))
      obtain ⟨v15, g15, f15⟩ := hk.got (j := 15) rfl rfl (hall 15 (by simp))
      obtain ⟨_, s, rfl, hown⟩ := f14
      obtain ⟨b, rfl, hbn, hbc⟩ := f15
      obtain ⟨P12, hr12, hs12⟩ := id hown
      obtain ⟨sa, sc, rfl⟩ := rowP_slice hr12
      obtain ⟨c0, c1, c2, c3⟩ := entry_new hbc (.string D3)
      have hput := hk.puts
      have hm := mAt_store (D := D3) hk.grown hbc hbn hown
      refine wpOp_skip rfl rfl (w' := (W.setCell ⟨b, 0, none⟩ (.string D3)).setCell ⟨b, 1, none⟩ (.slice sa P12.length sc)) (by simp [go_sem, g14, g15, c0, c1, c2, c3]) ?_
      rw [hput]
      simp only [putT, g15]
      generalize a.tmps[45]?.getD undef = x45
      generalize a.tmps[46]?.getD undef = x46
      generalize a.tmps[47]?.getD undef = x47
      generalize a.tmps[48]?.getD undef = x48
      generalize a.tmps[49]?.getD undef = x49
      generalize a.tmps[50]?.getD undef = x50
      generalize a.tmps[51]?.getD undef = x51
      generalize a.tmps[52]?.getD undef = x52
      generalize a.tmps[53]?.getD undef = x53
      generalize a.tmps[54]?.getD undef = x54
      generalize a.tmps[55]?.getD undef = x55
      generalize a.tmps[56]?.getD undef = x56
      generalize a.tmps[57]?.getD undef = x57
      generalize a.tmps[58]?.getD undef = x58
      generalize a.tmps[59]?.getD undef = x59
      have HM5 := Lib.hid hm
      clear hall hput g14 g15 hm hbn hbc hown hr12 hs12 c0 c1 c2 c3 hk
      obtain ⟨b9, hbb⟩ : ∃ x, x = b := ⟨_, rfl⟩
      subst hbb
      generalize ((W.setCell ⟨b9, 0, none⟩ (.string D3)).setCell ⟨b9, 1, none⟩ (.slice sa P12.length sc)) = W5 at HM5 ⊢
      obtain ⟨u9, hu⟩ : ∃ u, u = Value.slice sa P12.length sc := ⟨_, rfl⟩
      rw [← hu] at HM5
      clear hu
      go_simp
      go_upto_region 6 with (fail)
      have hbW5 := HM5.out.below
      have hxW5 := hxW4.below hbW5 hhW4
      have hhW5 : h0 < W5.heap.size := (Array.getElem?_eq_some_iff.1 hxW5).1
      have hlW5 := (hbW5.block b6 hlW4s).trans hlW4
      have hlW5s : b6 < W5.heap.size := (Array.getElem?_eq_some_iff.1 hlW5).1
      have hpW5 := hpW4.below hbW5 hpW4.lt
      have hsayW5 := saysM_below hsayW4 hbW5
      refine region_two (by kernel_rfl) W5.heap.size 4 13 (FMore W5.heap.size h0 b6 wh q2 D3 NC2 (nmB NC2 q2) ⟨#[97, 110, 121]⟩ L (L ++ [((nmB NC2 q2).data.toList, [[97, 110, 121]])])) (fun _ _ _ _ _ _ _ h hb => h.go hb) (Nat.le_refl _) (by kernel_rfl) (by kernel_rfl) (by decide) (by rfl) ?hs6 ?hx6 ?hy6 ?hl6
      case hs6 =>
        intro listed a W p q hsz hk i o ho hi hi1 hi2 hc
        have e1 := hk.read (t := 1) (by kernel_rfl) rfl
        have e5 := hk.read (t := 5) (by kernel_rfl) rfl
        have e6 := hk.read (t := 6) (by kernel_rfl) rfl
        have d0 : W.cell? ⟨h0, 0, none⟩ = some (.string D3) := (hk.grown.cell (p := ⟨h0, 0, none⟩) hhW5).trans hxW5.cells.1
        match i, hi, hi1, hi2 with
        | 0, _, _, _ =>
          obtain rfl := Option.some.inj ho
          exact wpOp_val rfl rfl (v := .pointer (some ⟨h0, 0, none⟩)) (w' := W) (by simp [go_sem, e5]) ⟨_, _, rfl, rfl, Below.refl _ _, rfl⟩
        | 1, _, _, _ =>
          obtain rfl := Option.some.inj ho
          obtain ⟨v0, g0, f0⟩ := hk.got (j := 0) rfl rfl (hc ⟨0, .data⟩ (by simp) rfl)
          obtain rfl : v0 = _ := f0
          exact wpOp_val rfl rfl (v := .string D3) (w' := W) (by simp [go_sem, g0, d0]) ⟨_, _, rfl, rfl, Below.refl _ _, rfl⟩
        | 2, _, _, _ =>
          obtain rfl := Option.some.inj ho
          exact wpOp_val rfl rfl (v := .slice (some ⟨W.heap.size, 0, none⟩) 0 0) (w' := W.alloc (.cells #[] 42)) (by simp [go_sem]) ⟨_, _, rfl, rfl, (Below.refl _ _).alloc (Nat.le_refl _) _, .inr ⟨_, rfl, hsz, heap_alloc_new W _⟩⟩
        | 3, _, _, _ =>
          obtain rfl := Option.some.inj ho
          exact wpOp_val rfl rfl (v := .slice (some ⟨b6, 0, none⟩) 3 3) (w' := W) (by simp [go_sem, e6]) ⟨_, _, rfl, rfl, Below.refl _ _, rfl⟩
        | 5, _, _, _ =>
          obtain rfl := Option.some.inj ho
          exact wpOp_val rfl rfl (v := .slice (some ⟨W.heap.size, 0, none⟩) 2 2) (w' := W.alloc (.cells NC2 9)) (by simp [go_sem, NC2]) ⟨_, _, rfl, rfl, (Below.refl _ _).alloc (Nat.le_refl _) _, ⟨_, rfl, heap_alloc_new W _⟩⟩
        | 6, _, _, _ =>
          obtain rfl := Option.some.inj ho
          exact wpOp_val rfl rfl (v := .int .u8 (wh : Int)) (w' := W) (by simp [go_sem, e1]) ⟨_, _, rfl, rfl, Below.refl _ _, rfl⟩
        | 7, _, _, _ =>
          obtain rfl := Option.some.inj ho
          obtain ⟨v6, g6, f6⟩ := hk.got (j := 6) rfl rfl (hc ⟨6, .data⟩ (by simp) rfl)
          obtain rfl : v6 = _ := f6
          exact wpOp_val rfl rfl (v := .int .u8 (q2 : Int)) (w' := W) (by simp [go_sem, g6, htm2, hwu2]) ⟨_, _, rfl, rfl, Below.refl _ _, rfl⟩
        | 8, _, _, _ =>
          obtain rfl := Option.some.inj ho
          obtain ⟨v5, g5, f5⟩ := hk.got (j := 5) rfl rfl (hc ⟨5, .data⟩ (by simp) rfl)
          obtain ⟨v7, g7, f7⟩ := hk.got (j := 7) rfl rfl (hc ⟨7, .data⟩ (by simp) rfl)
          obtain rfl : v7 = _ := f7
          obtain ⟨b, rfl, hb⟩ := f5
          exact wpOp_val rfl rfl (v := .pointer (some ⟨b, q2, none⟩)) (w' := W) (by simp [go_sem, g5, g7, hix2, NC2]) ⟨_, _, rfl, rfl, Below.refl _ _, ⟨_, rfl, hb⟩⟩
        | 9, _, _, _ =>
          obtain rfl := Option.some.inj ho
          obtain ⟨v8, g8, f8⟩ := hk.got (j := 8) rfl rfl (hc ⟨8, .data⟩ (by simp) rfl)
          obtain ⟨b, rfl, hb⟩ := f8
          have c0 : W.cell? ⟨b, q2, none⟩ = some (.string (nmB NC2 q2)) := by simp only [World.cell?, hb]; exact nc2_at q2 hq2
          exact wpOp_val rfl rfl (v := .string (nmB NC2 q2)) (w' := W) (by simp [go_sem, g8, c0]) ⟨_, _, rfl, rfl, Below.refl _ _, rfl⟩
        | 10, _, _, _ =>
          obtain rfl := Option.some.inj ho
          exact wpOp_val rfl rfl (v := .slice (some ⟨W.heap.size, 0, none⟩) 1 1) (w' := W.alloc (.cells #[.string ⟨#[97, 110, 121]⟩] 9)) (by simp [go_sem]) ⟨_, _, rfl, rfl, (Below.refl _ _).alloc (Nat.le_refl _) _, ⟨_, rfl, heap_alloc_new W _⟩⟩
        | 11, _, _, _ =>
          obtain rfl := Option.some.inj ho
          obtain ⟨v9, g9, f9⟩ := hk.got (j := 9) rfl rfl (hc ⟨9, .data⟩ (by simp) rfl)
          obtain ⟨v10, g10, f10⟩ := hk.got (j := 10) rfl rfl (hc ⟨10, .data⟩ (by simp) rfl)
          obtain rfl : v9 = _ := f9
          obtain ⟨b, rfl, hb⟩ := f10
          exact wpOp_val rfl rfl (v := .agg #[.string (nmB NC2 q2), .slice (some ⟨b, 0, none⟩) 1 1]) (w' := W) (by simp [go_sem, g9, g10]) ⟨_, _, rfl, rfl, Below.refl _ _, ⟨_, rfl, hb⟩⟩
        | 12, _, _, _ =>
          obtain rfl := Option.some.inj ho
          obtain ⟨v11, g11, f11⟩ := hk.got (j := 11) rfl rfl (hc ⟨11, .data⟩ (by simp) rfl)
          obtain ⟨b, rfl, hb⟩ := f11
          have hbl := (Array.getElem?_eq_some_iff.1 hb).1
          exact wpOp_val rfl rfl (v := .slice (some ⟨W.heap.size, 0, none⟩) 1 1) (w' := W.alloc (.cells #[.string (nmB NC2 q2), .slice (some ⟨b, 0, none⟩) 1 1] 42)) (by simp [go_sem, g11]) ⟨_, _, rfl, rfl, (Below.refl _ _).alloc (Nat.le_refl _) _, .inr ⟨_, b, rfl, heap_alloc_new W _, (heap_alloc_old W _ hbl).trans hb⟩⟩
        | 14, _, _, _ =>
          obtain rfl := Option.some.inj ho
          obtain ⟨v1, g1, f1⟩ := hk.got (j := 1) rfl rfl (hc ⟨1, .data⟩ (by simp) rfl)
          obtain ⟨v13, g13, f13⟩ := hk.got (j := 13) rfl rfl (hc ⟨13, .data⟩ (by simp) rfl)
          obtain rfl : v1 = _ := f1
          obtain ⟨hq, hown⟩ := f13
          obtain ⟨P11, hr11, hs11⟩ := id hown
          obtain ⟨sa, sc, rfl⟩ := rowP_slice hr11
          exact wpOp_val rfl rfl (v := .agg #[.string D3, .slice sa P11.length sc]) (w' := W) (by simp [go_sem, g1, g13]) ⟨_, _, rfl, rfl, Below.refl _ _, ⟨hq, _, rfl, hown⟩⟩
        | 15, _, _, _ =>
          obtain rfl := Option.some.inj ho
          exact wpOp_val rfl rfl (v := .pointer (some ⟨W.heap.size, 0, none⟩)) (w' := W.alloc (.cells #[.string ⟨#[]⟩, .slice none 0 0] 24)) (by simp [go_sem]) ⟨_, _, rfl, rfl, (Below.refl _ _).alloc (Nat.le_refl _) _, ⟨_, rfl, hsz, heap_alloc_new W _⟩⟩
        | 4, _, h4, _ => exact absurd rfl h4
        | 13, _, _, h13 => exact absurd rfl h13
        | m + 16, hm, _, _ => exact absurd hm (by simp)
      case hx6 =>
        intro listed a W hsz hk o ho hc
        obtain rfl := Option.some.inj ho
        obtain ⟨v2, g2, f2⟩ := hk.got (j := 2) rfl rfl (hc ⟨2, .data⟩ (by simp) rfl)
        obtain ⟨v3, g3, f3⟩ := hk.got (j := 3) rfl rfl (hc ⟨3, .data⟩ (by simp) rfl)
        obtain rfl : v3 = _ := f3
        obtain ⟨b, rfl, hbn, hbc⟩ := f2.resolve_left (by simp)
        have hcl := list_cells ((hk.grown.block b6 hlW5s).trans hlW5)
        have hsy := saysM_below hsayW5 hk.grown
        have hc1 := row_part hcl [] (perRow g) [] (by simp)
        obtain ⟨v', w', hrun, hown, hbel, hkeep⟩ := run_append_E hbc hbn hsz hsy ⟨b6, 0, none⟩ 3 (by simpa using hc1) (by omega) 22
        rw [hLl] at hrun
        exact wpOp_val rfl rfl (exec_append rfl (by simp [go_sem, g2]) (by simp [go_sem, g3]) hrun) ⟨_, _, rfl, rfl, hbel, .inr hown, fun j u hj h => h.loud1 hj (by decide) fun b cs e hb hs => hkeep b cs e hb (.inl hs)⟩
      case hy6 =>
        intro listed a W hsz hk o ho hc
        obtain rfl := Option.some.inj ho
        obtain ⟨v4, g4, f4⟩ := hk.got (j := 4) rfl rfl (hc ⟨4, .data⟩ (by simp) rfl)
        obtain ⟨v12, g12, f12⟩ := hk.got (j := 12) rfl rfl (hc ⟨12, .data⟩ (by simp) rfl)
        obtain ⟨c, b, rfl, hcc, hcb⟩ := f12.resolve_left (by simp)
        obtain ⟨v', w', hrun, hown, hbel, P, hr, hg⟩ := run_append_M (f4.resolve_left (by simp)) hsz (saysM_one (X := nmB NC2 q2) hcb) ⟨c, 0, none⟩ 1 (cells_one hcc) (by simp [hLl]) 22
        exact wpOp_val rfl rfl (exec_append rfl (by simp [go_sem, g4]) (by simp [go_sem, g12]) hrun) ⟨_, _, rfl, rfl, hbel, ⟨rfl, hown⟩, fun j u hj h => h.loud2 rfl fun b cs e hb hne => row_keep hr hg hb hne⟩
      case hl6 =>
        intro listed a W hsz hk hall
        obtain ⟨v14, g14, f14⟩ := hk.got (j := 14) rfl rfl (hall 14 (by simp))
        obtain ⟨v15, g15, f15⟩ := hk.got (j := 15) rfl rfl (hall 15 (by simp))
        obtain ⟨_, s, rfl, hown⟩ := f14
        obtain ⟨b, rfl, hbn, hbc⟩ := f15
        obtain ⟨P12, hr12, hs12⟩ := id hown
        obtain ⟨sa, sc, rfl⟩ := rowP_slice hr12
        obtain ⟨c0, c1, c2, c3⟩ := entry_new hbc (.string D3)
        have hput := hk.puts
        have hm := mAt_store (D := D3) hk.grown hbc hbn hown
        refine wpOp_skip rfl rfl (w' := (W.setCell ⟨b, 0, none⟩ (.string D3)).setCell ⟨b, 1, none⟩ (.slice sa P12.length sc)) (by simp [go_sem, g14, g15, c0, c1, c2, c3]) ?_
        rw [hput]
        simp only [putT, g15]
        generalize a.tmps[60]?.getD undef = x60
        generalize a.tmps[61]?.getD undef = x61
        generalize a.tmps[62]?.getD undef = x62
        generalize a.tmps[63]?.getD undef = x63
        generalize a.tmps[64]?.getD undef = x64
        generalize a.tmps[65]?.getD undef = x65
        generalize a.tmps[66]?.getD undef = x66
        generalize a.tmps[67]?.getD undef = x67
        generalize a.tmps[68]?.getD undef = x68
        generalize a.tmps[69]?.getD undef = x69
        generalize a.tmps[70]?.getD undef = x70
        generalize a.tmps[71]?.getD undef = x71
        generalize a.tmps[72]?.getD undef = x72
        generalize a.tmps[73]?.getD undef = x73
        generalize a.tmps[74]?.getD undef = x74
        have HM6 := Lib.hid hm
        clear hall hput g14 g15 hm hbn hbc hown hr12 hs12 c0 c1 c2 c3 hk
        obtain ⟨b10, hbb⟩ : ∃ x, x = b := ⟨_, rfl⟩
        subst hbb
        generalize ((W.setCell ⟨b10, 0, none⟩ (.string D3)).setCell ⟨b10, 1, none⟩ (.slice sa P12.length sc)) = W6 at HM6 ⊢
        obtain ⟨u10, hu⟩ : ∃ u, u = Value.slice sa P12.length sc := ⟨_, rfl⟩
        rw [← hu] at HM6
        clear hu
        go_simp
        have hbW6 := HM6.out.below
        have hxW6 := hxW5.below hbW6 hhW5
        have hhW6 : h0 < W6.heap.size := (Array.getElem?_eq_some_iff.1 hxW6).1
        have hlW6 := (hbW6.block b6 hlW5s).trans hlW5
        have hlW6s : b6 < W6.heap.size := (Array.getElem?_eq_some_iff.1 hlW6).1
        have hpW6 := hpW5.below hbW6 hpW5.lt
        have hsayW6 := saysM_below hsayW5 hbW6
        have h46 : Below W4.heap.size W4 W6 := bthen hbW5 hbW6
        have hB4 := bthen hBW2 hbW4
        have hB5 := bthen hB4 hbW5
        have hB6 := bthen hB5 hbW6
        have n8 := (Array.getElem?_eq_some_iff.1 HM4.out.box).1
        have n9 := (Array.getElem?_eq_some_iff.1 HM5.out.box).1
        have m8 := ownM_isA HM4.out.own (by unfold maxLen; simp [hLl]; omega)
        have m9 := ownM_isA HM5.out.own (by unfold maxLen; simp [hLl])
        have m10 := ownM_isA HM6.out.own (by unfold maxLen; simp [hLl])
        by_cases h4 : q6 = 4
        · have h7 : ((q6 : Int) == 4) = true := by simp [h4]
          have h7' : decide ((q6 : Int) = 4) = true := by simp [h4]
          subst h4
          obtain ⟨gm, cap, hu9⟩ := ownM_form HM5.out.own (by simp)
          rw [List.length_append, hLl] at hu9
          subst hu9
          have own9 : OwnM W4.heap.size W6 (.slice (some ⟨gm, 0, none⟩) (L.length + 1) cap) (L ++ [((nmB NC6 4).data.toList, [[111, 61, 49]])]) := by rw [hLl]; exact ownM_below HM5.out.own hbW6
          obtain ⟨_, ⟨y9, hy9⟩, hf9, ⟨cs9, hcs9⟩, hg9⟩ := ownM_last own9 (A' := []) (u := .slice none 0 0) ⟨_, _, rfl, by unfold maxLen; simp, fun j hj => absurd hj (by simp)⟩
          rw [hLl] at hy9 hf9
          have hgm := (Array.getElem?_eq_some_iff.1 hcs9).1
          have zx9 := HM5.out.box.below hbW6 n9
          obtain ⟨_, i1⟩ := zx9.cells
          have hy9' : (W6.alloc (.cells #[.string ⟨#[55]⟩] 9)).cell? ⟨gm, 7, none⟩ = some y9 := by rw [((Below.refl W6.heap.size W6).alloc (Nat.le_refl _) _).cell (p := ⟨gm, 7, none⟩) hgm]; exact hy9
          have hf9' : (W6.alloc (.cells #[.string ⟨#[55]⟩] 9)).frozen? ⟨gm, 7, none⟩ = false := by
            have := heap_alloc_old W6 (.cells #[.string ⟨#[55]⟩] 9) hgm
            simp only [World.frozen?, this]
            simpa only [World.frozen?] using hf9
          go_upto_region 9 with (fail)
          rw [← World.setCell_alloc_past _ _ _ _ hgm]
          have hbA : Below W6.heap.size W6 (W6.alloc (.cells #[.string ⟨#[55]⟩] 9)) := (Below.refl _ _).alloc (Nat.le_refl _) _
          have hnA := heap_alloc_new W6 (.cells #[.string ⟨#[55]⟩] 9)
          have hcA := (heap_alloc_old W6 (.cells #[.string ⟨#[55]⟩] 9) hgm).trans hcs9
          have ow := (ownM_last (ownM_below own9 hbA) (isTo_one (X := ⟨#[55]⟩) hnA)).1
          rw [hLl] at ow
          have gm5 := (ownM_lo HM5.out.own).2
          have ow10 := ownM_other (i := 7) (x := .slice (some ⟨W6.heap.size, 0, none⟩) 1 1) (ownM_below HM6.out.own hbA) (ownM_apart HM6.out.own gm5) hcA
          have h48 : Below W4.heap.size W4 ((W6.alloc (.cells #[.string ⟨#[55]⟩] 9)).setCell ⟨gm, 7, none⟩ (.slice (some ⟨W6.heap.size, 0, none⟩) 1 1)) := (bthen h46 hbA).setCell hg9 _
          have zx0 := boxN_set (i := 7) (x := .slice (some ⟨W6.heap.size, 0, none⟩) 1 1) (hxW6.below hbA (Array.getElem?_eq_some_iff.1 hxW6).1) hcA
          have zx8' := HM4.out.box.below h46 n8
          have zx8 := boxN_set (i := 7) (x := .slice (some ⟨W6.heap.size, 0, none⟩) 1 1) (zx8'.below hbA (Array.getElem?_eq_some_iff.1 zx8').1) hcA
          replace zx9 := boxN_set (i := 7) (x := .slice (some ⟨W6.heap.size, 0, none⟩) 1 1) (zx9.below hbA (Array.getElem?_eq_some_iff.1 zx9).1) hcA
          have zx10 := boxN_set (i := 7) (x := .slice (some ⟨W6.heap.size, 0, none⟩) 1 1) (HM6.out.box.below hbA (Array.getElem?_eq_some_iff.1 HM6.out.box).1) hcA
          generalize (W6.alloc (.cells #[.string ⟨#[55]⟩] 9)).setCell ⟨gm, 7, none⟩ (.slice (some ⟨W6.heap.size, 0, none⟩) 1 1) = W8 at ow ow10 h48 zx0 zx8 zx9 zx10 ⊢
          have hZ := bthen hB4 h48
          have zi0 : IsA W8.heap.size W8 L (.slice (some ⟨g, 0, none⟩) 3 3) := by rw [hL]; exact (hpW4.below h48 hpW4.lt).isA
          have zi8 := m8.below h48 h48.size
          have zi9 := ownM_isA ow (by unfold maxLen; simp [hLl])
          have zi10 := ownM_isA ow10 (by unfold maxLen; simp [hLl])
          clear h46 hB4 hB5 hB6 n8 n9 m8 m9 m10 hbA hnA hcA ow ow10 gm5 h48 zx8' i1 hy9' hf9' hy9 hf9 hcs9 hgm hg9 own9
          have HTz := Lib.hid (Below.refl W8.heap.size W8)
          have HA6 : Hid (∀ W, Below W8.heap.size W8 W → LaidW W ∧ LaidF W) := Lib.hid (fun W hb => ⟨HW.out.below (bthen hZ hb), HL.out.below (bthen hZ hb)⟩)
          have HKp : Hid (∀ wx, Below W8.heap.size W8 wx → ((wx.cell? ⟨h0, 0, none⟩ = some (.string D3) ∧ wx.cell? ⟨h0, 1, none⟩ = some (.slice (some ⟨g, 0, none⟩) 3 3)) ∧ (wx.cell? ⟨b8, 0, none⟩ = some (.string D3) ∧ wx.cell? ⟨b8, 1, none⟩ = some u8) ∧ (wx.cell? ⟨b9, 0, none⟩ = some (.string D3) ∧ wx.cell? ⟨b9, 1, none⟩ = some (.slice (some ⟨gm, 0, none⟩) 4 cap)) ∧ (wx.cell? ⟨b10, 0, none⟩ = some (.string D3) ∧ wx.cell? ⟨b10, 1, none⟩ = some u10))) := Lib.hid (fun wx hb => ⟨(zx0.below hb (Array.getElem?_eq_some_iff.1 zx0).1).cells, (zx8.below hb (Array.getElem?_eq_some_iff.1 zx8).1).cells, (zx9.below hb (Array.getElem?_eq_some_iff.1 zx9).1).cells, (zx10.below hb (Array.getElem?_eq_some_iff.1 zx10).1).cells⟩)
          have hDs : D3.size ≤ 1000000 := by rw [← bytes_len, HD.out]; have := HPs.out; simp [perD]; omega
          have hDe : D3.data.toList = perD (nedN n) := by rw [HD.out, HPl.out]
          have hLe : L = perL (nedN n) := by rw [hL, HPl.out]
          have ce : ∀ W, Below W8.heap.size W8 W → Calls Tryz.prog 13 #[.agg #[.string D3, (.slice (some ⟨g, 0, none⟩) 3 3)]] W fun e w' => e = .returned (.int .i64 0) ∧ Below W.heap.size W w' := fun W hb => by
            have := checkE_any D3 hDs L (.slice (some ⟨g, 0, none⟩) 3 3) W (HA6.out W hb).1 (HA6.out W hb).2 (zi0.below hb hb.size)
            rw [hDe, hLe, show checkD (perD (nedN n)) (perL (nedN n)) = 0 from ned_e ⟨n, by omega⟩] at this
            exact this
          have cl : ∀ W, Below W8.heap.size W8 W → Calls Tryz.prog 13 #[.agg #[.string D3, u8]] W fun e w' => e = .returned (.int .i64 65) ∧ Below W.heap.size W w' := fun W hb => by
            have := checkE_any D3 hDs (L.take k ++ L.drop (k + 1)) u8 W (HA6.out W hb).1 (HA6.out W hb).2 (zi8.below hb hb.size)
            rw [hDe, hLe, show checkD (perD (nedN n)) ((perL (nedN n)).take k ++ (perL (nedN n)).drop (k + 1)) = 65 from ned_less ⟨n, by omega⟩ ⟨k, hk3⟩] at this
            exact this
          have cm : ∀ W, Below W8.heap.size W8 W → Calls Tryz.prog 13 #[.agg #[.string D3, (.slice (some ⟨gm, 0, none⟩) 4 cap)]] W fun e w' => e = .returned (.int .i64 65) ∧ Below W.heap.size W w' := fun W hb => by
            have := checkE_any D3 hDs (L ++ [((nmB NC6 4).data.toList, [[55]])]) (.slice (some ⟨gm, 0, none⟩) 4 cap) W (HA6.out W hb).1 (HA6.out W hb).2 (zi9.below hb hb.size)
            rw [hDe, hLe, show checkD (perD (nedN n)) (perL (nedN n) ++ [((nmB NC6 4).data.toList, [[55]])]) = 65 from by rw [nc6_nm 4 hq6]; exact ned_more ⟨n, by omega⟩ ⟨4, hq6⟩] at this
            exact this
          have cy : ∀ W, Below W8.heap.size W8 W → Calls Tryz.prog 13 #[.agg #[.string D3, u10]] W fun e w' => e = .returned (.int .i64 0) ∧ Below W.heap.size W w' := fun W hb => by
            have := checkE_any D3 hDs (L ++ [((nmB NC2 q2).data.toList, [[97, 110, 121]])]) u10 W (HA6.out W hb).1 (HA6.out W hb).2 (zi10.below hb hb.size)
            rw [hDe, hLe, show checkD (perD (nedN n)) (perL (nedN n) ++ [((nmB NC2 q2).data.toList, [[97, 110, 121]])]) = 0 from by rw [nc2_nm q2 hq2]; exact ned_may ⟨n, by omega⟩ ⟨q2, hq2⟩] at this
            exact this
          have ca : ∀ W, Below W8.heap.size W8 W → Calls Tryz.prog 10 #[] W fun e w' => e = .returned (.bool true) ∧ Below W.heap.size W w' := fun W hb => awake4_any W (HA6.out W hb).1 (HA6.out W hb).2
          have CE := Lib.hid ce
          have CL := Lib.hid cl
          have CM := Lib.hid cm
          have CY := Lib.hid cy
          have CA := Lib.hid ca
          have HZ := Lib.hid hZ
          obtain ⟨⟨k0, k1⟩, ⟨k2, k3⟩, ⟨k4, k5⟩, ⟨k6, k7⟩⟩ := HKp.out _ (Below.refl _ _)
          clear ce cl cm cy ca zx0 zx8 zx9 zx10 zi0 zi8 zi9 zi10 hZ
          go_wp2_with (first
            | (go_at_call 13; ((with_reducible refine (CE.out _ HTz.out).mono ?_); rintro e wx ⟨rfl, hbx⟩); have HTz := Lib.hid (bthen HTz.out hbx); obtain ⟨⟨k0, k1⟩, ⟨k2, k3⟩, ⟨k4, k5⟩, ⟨k6, k7⟩⟩ := HKp.out _ HTz.out; clear hbx)
            | (go_at_call 13; ((with_reducible refine (CL.out _ HTz.out).mono ?_); rintro e wx ⟨rfl, hbx⟩); have HTz := Lib.hid (bthen HTz.out hbx); obtain ⟨⟨k0, k1⟩, ⟨k2, k3⟩, ⟨k4, k5⟩, ⟨k6, k7⟩⟩ := HKp.out _ HTz.out; clear hbx)
            | (go_at_call 13; ((with_reducible refine (CM.out _ HTz.out).mono ?_); rintro e wx ⟨rfl, hbx⟩); have HTz := Lib.hid (bthen HTz.out hbx); obtain ⟨⟨k0, k1⟩, ⟨k2, k3⟩, ⟨k4, k5⟩, ⟨k6, k7⟩⟩ := HKp.out _ HTz.out; clear hbx)
            | (go_at_call 13; ((with_reducible refine (CY.out _ HTz.out).mono ?_); rintro e wx ⟨rfl, hbx⟩); have HTz := Lib.hid (bthen HTz.out hbx); obtain ⟨⟨k0, k1⟩, ⟨k2, k3⟩, ⟨k4, k5⟩, ⟨k6, k7⟩⟩ := HKp.out _ HTz.out; clear hbx)
            | (go_at_call 10; ((with_reducible refine (CA.out _ HTz.out).mono ?_); rintro e wx ⟨rfl, hbx⟩); have HTz := Lib.hid (bthen HTz.out hbx); obtain ⟨⟨k0, k1⟩, ⟨k2, k3⟩, ⟨k4, k5⟩, ⟨k6, k7⟩⟩ := HKp.out _ HTz.out; clear hbx))
          go_ret
          exact ⟨rfl, bthen HZ.out HTz.out⟩
        · have h7 : ((q6 : Int) == 4) = false := by simp; omega
          have h7' : decide ((q6 : Int) = 4) = false := by simp; omega
          have hZ := hB6
          have zx0 := hxW6
          have zx8 := HM4.out.box.below h46 n8
          have zx9 := HM5.out.box.below hbW6 n9
          have zx10 := HM6.out.box
          have zi0 : IsA W6.heap.size W6 L (.slice (some ⟨g, 0, none⟩) 3 3) := by rw [hL]; exact hpW6.isA
          have zi8 := m8.below h46 h46.size
          have zi9 := m9.below hbW6 hbW6.size
          have zi10 := m10
          have HL9 := Lib.hid h4
          clear h46 hB4 hB5 hB6 n8 n9 m8 m9 m10 h4
          have HTz := Lib.hid (Below.refl W6.heap.size W6)
          have HA6 : Hid (∀ W, Below W6.heap.size W6 W → LaidW W ∧ LaidF W) := Lib.hid (fun W hb => ⟨HW.out.below (bthen hZ hb), HL.out.below (bthen hZ hb)⟩)
          have HKp : Hid (∀ wx, Below W6.heap.size W6 wx → ((wx.cell? ⟨h0, 0, none⟩ = some (.string D3) ∧ wx.cell? ⟨h0, 1, none⟩ = some (.slice (some ⟨g, 0, none⟩) 3 3)) ∧ (wx.cell? ⟨b8, 0, none⟩ = some (.string D3) ∧ wx.cell? ⟨b8, 1, none⟩ = some u8) ∧ (wx.cell? ⟨b9, 0, none⟩ = some (.string D3) ∧ wx.cell? ⟨b9, 1, none⟩ = some u9) ∧ (wx.cell? ⟨b10, 0, none⟩ = some (.string D3) ∧ wx.cell? ⟨b10, 1, none⟩ = some u10))) := Lib.hid (fun wx hb => ⟨(zx0.below hb (Array.getElem?_eq_some_iff.1 zx0).1).cells, (zx8.below hb (Array.getElem?_eq_some_iff.1 zx8).1).cells, (zx9.below hb (Array.getElem?_eq_some_iff.1 zx9).1).cells, (zx10.below hb (Array.getElem?_eq_some_iff.1 zx10).1).cells⟩)
          have hDs : D3.size ≤ 1000000 := by rw [← bytes_len, HD.out]; have := HPs.out; simp [perD]; omega
          have hDe : D3.data.toList = perD (nedN n) := by rw [HD.out, HPl.out]
          have hLe : L = perL (nedN n) := by rw [hL, HPl.out]
          have ce : ∀ W, Below W6.heap.size W6 W → Calls Tryz.prog 13 #[.agg #[.string D3, (.slice (some ⟨g, 0, none⟩) 3 3)]] W fun e w' => e = .returned (.int .i64 0) ∧ Below W.heap.size W w' := fun W hb => by
            have := checkE_any D3 hDs L (.slice (some ⟨g, 0, none⟩) 3 3) W (HA6.out W hb).1 (HA6.out W hb).2 (zi0.below hb hb.size)
            rw [hDe, hLe, show checkD (perD (nedN n)) (perL (nedN n)) = 0 from ned_e ⟨n, by omega⟩] at this
            exact this
          have cl : ∀ W, Below W6.heap.size W6 W → Calls Tryz.prog 13 #[.agg #[.string D3, u8]] W fun e w' => e = .returned (.int .i64 65) ∧ Below W.heap.size W w' := fun W hb => by
            have := checkE_any D3 hDs (L.take k ++ L.drop (k + 1)) u8 W (HA6.out W hb).1 (HA6.out W hb).2 (zi8.below hb hb.size)
            rw [hDe, hLe, show checkD (perD (nedN n)) ((perL (nedN n)).take k ++ (perL (nedN n)).drop (k + 1)) = 65 from ned_less ⟨n, by omega⟩ ⟨k, hk3⟩] at this
            exact this
          have cm : ∀ W, Below W6.heap.size W6 W → Calls Tryz.prog 13 #[.agg #[.string D3, u9]] W fun e w' => e = .returned (.int .i64 65) ∧ Below W.heap.size W w' := fun W hb => by
            have := checkE_any D3 hDs (L ++ [((nmB NC6 q6).data.toList, [[111, 61, 49]])]) u9 W (HA6.out W hb).1 (HA6.out W hb).2 (zi9.below hb hb.size)
            rw [hDe, hLe, show checkD (perD (nedN n)) (perL (nedN n) ++ [((nmB NC6 q6).data.toList, [[111, 61, 49]])]) = 65 from by rw [nc6_nm q6 hq6, show ([111, 61, 49] : List UInt8) = moreV q6 from by unfold moreV; rw [if_neg HL9.out]]; exact ned_more ⟨n, by omega⟩ ⟨q6, hq6⟩] at this
            exact this
          have cy : ∀ W, Below W6.heap.size W6 W → Calls Tryz.prog 13 #[.agg #[.string D3, u10]] W fun e w' => e = .returned (.int .i64 0) ∧ Below W.heap.size W w' := fun W hb => by
            have := checkE_any D3 hDs (L ++ [((nmB NC2 q2).data.toList, [[97, 110, 121]])]) u10 W (HA6.out W hb).1 (HA6.out W hb).2 (zi10.below hb hb.size)
            rw [hDe, hLe, show checkD (perD (nedN n)) (perL (nedN n) ++ [((nmB NC2 q2).data.toList, [[97, 110, 121]])]) = 0 from by rw [nc2_nm q2 hq2]; exact ned_may ⟨n, by omega⟩ ⟨q2, hq2⟩] at this
            exact this
          have ca : ∀ W, Below W6.heap.size W6 W → Calls Tryz.prog 10 #[] W fun e w' => e = .returned (.bool true) ∧ Below W.heap.size W w' := fun W hb => awake4_any W (HA6.out W hb).1 (HA6.out W hb).2
          have CE := Lib.hid ce
          have CL := Lib.hid cl
          have CM := Lib.hid cm
          have CY := Lib.hid cy
          have CA := Lib.hid ca
          have HZ := Lib.hid hZ
          obtain ⟨⟨k0, k1⟩, ⟨k2, k3⟩, ⟨k4, k5⟩, ⟨k6, k7⟩⟩ := HKp.out _ (Below.refl _ _)
          clear ce cl cm cy ca zx0 zx8 zx9 zx10 zi0 zi8 zi9 zi10 hZ
          go_wp2_with (first
            | (go_at_call 13; ((with_reducible refine (CE.out _ HTz.out).mono ?_); rintro e wx ⟨rfl, hbx⟩); have HTz := Lib.hid (bthen HTz.out hbx); obtain ⟨⟨k0, k1⟩, ⟨k2, k3⟩, ⟨k4, k5⟩, ⟨k6, k7⟩⟩ := HKp.out _ HTz.out; clear hbx)
            | (go_at_call 13; ((with_reducible refine (CL.out _ HTz.out).mono ?_); rintro e wx ⟨rfl, hbx⟩); have HTz := Lib.hid (bthen HTz.out hbx); obtain ⟨⟨k0, k1⟩, ⟨k2, k3⟩, ⟨k4, k5⟩, ⟨k6, k7⟩⟩ := HKp.out _ HTz.out; clear hbx)
            | (go_at_call 13; ((with_reducible refine (CM.out _ HTz.out).mono ?_); rintro e wx ⟨rfl, hbx⟩); have HTz := Lib.hid (bthen HTz.out hbx); obtain ⟨⟨k0, k1⟩, ⟨k2, k3⟩, ⟨k4, k5⟩, ⟨k6, k7⟩⟩ := HKp.out _ HTz.out; clear hbx)
            | (go_at_call 13; ((with_reducible refine (CY.out _ HTz.out).mono ?_); rintro e wx ⟨rfl, hbx⟩); have HTz := Lib.hid (bthen HTz.out hbx); obtain ⟨⟨k0, k1⟩, ⟨k2, k3⟩, ⟨k4, k5⟩, ⟨k6, k7⟩⟩ := HKp.out _ HTz.out; clear hbx)
            | (go_at_call 10; ((with_reducible refine (CA.out _ HTz.out).mono ?_); rintro e wx ⟨rfl, hbx⟩); have HTz := Lib.hid (bthen HTz.out hbx); obtain ⟨⟨k0, k1⟩, ⟨k2, k3⟩, ⟨k4, k5⟩, ⟨k6, k7⟩⟩ := HKp.out _ HTz.out; clear hbx))
          go_ret
          exact ⟨rfl, bthen HZ.out HTz.out⟩
end Go.Proofs.YtofmpaphafhdpaaGreatDoor
