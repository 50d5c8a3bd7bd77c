/- Attributes in a row of the call's own; entry.without: the walk. -/
import Derived.Test.YtlimajgmdhhggaaGreatDoorEnFind
import Derived.Deep.AppendLies
import Derived.Deep.RegionLaw
namespace Go.Proofs.YtlimajgmdhhggaaGreatDoor
open Go.RowKit
set_option linter.unusedVariables false

abbrev PT := List UInt8 × Value
def cellsP : List PT → List Value
  | [] => []
  | r :: l => strV r.1 :: r.2 :: cellsP l
theorem cellsP_append : ∀ a b : List PT, cellsP (a ++ b) = cellsP a ++ cellsP b
  | [], _ => rfl
  | r :: a, b => by show _ :: _ :: cellsP (a ++ b) = _; rw [cellsP_append a b]; rfl
theorem cellsP_length : ∀ l : List PT, (cellsP l).length = l.length * 2
  | [] => rfl
  | r :: l => by simp [cellsP, cellsP_length l]; omega
theorem cellsP_get : ∀ (l : List PT) (j : Nat) (h : j < l.length), (cellsP l)[j * 2]? = some (strV l[j].1) ∧ (cellsP l)[j * 2 + 1]? = some l[j].2
  | r :: l, 0, _ => ⟨rfl, rfl⟩
  | r :: l, j + 1, h => by
    have := cellsP_get l j (by simpa using h)
    rw [show (j + 1) * 2 = j * 2 + 2 from by omega]
    exact this

theorem infoA : (Tryz.prog.info? 54).map (fun i => (i.zero, i.size, i.bytes)) = some (some (.agg #[.string ⟨#[]⟩, .slice none 0 0]), 2, 40) := by kernel_rfl

/-- The value v is the list of these texts, in blocks of which ok is true. -/
def IsTo (ok : Nat → Prop) (w : World) (L : List (List UInt8)) (v : Value) : Prop := ∃ a c, v = .slice a L.length c ∧ L.length ≤ maxLen ∧
  ∀ j, (h : j < L.length) → ∃ b off, a = some ⟨b, off, none⟩ ∧ ok b ∧ w.cell? ⟨b, off + j, none⟩ = some (strV L[j])
theorem IsTo.imp {ok ok' : Nat → Prop} {w w' : World} {L : List (List UInt8)} {v : Value} (h : IsTo ok w L v) (hi : ∀ b, ok b → ok' b) (hc : ∀ b o, ok b → w'.cell? ⟨b, o, none⟩ = w.cell? ⟨b, o, none⟩) : IsTo ok' w' L v := by
  obtain ⟨a, c, hv, hm, h⟩ := h
  refine ⟨a, c, hv, hm, fun j hj => ?_⟩
  obtain ⟨b, off, ha, hb, h0⟩ := h j hj
  exact ⟨b, off, ha, hi b hb, (hc b _ hb).trans h0⟩
theorem IsTo.to {ok : Nat → Prop} {n : Nat} {w : World} {L : List (List UInt8)} {v : Value} (h : IsTo ok w L v) (hi : ∀ b, ok b → b < n) : IsT n w L v := by
  obtain ⟨a, c, hv, hm, h⟩ := h
  refine ⟨a, c, hv, hm, fun j hj => ?_⟩
  obtain ⟨b, off, ha, hb, h0⟩ := h j hj
  exact ⟨b, off, ha, hi b hb, h0⟩
theorem IsT.isTo {n : Nat} {w : World} {L : List (List UInt8)} {v : Value} (h : IsT n w L v) : IsTo (· < n) w L v := h
/-- .. in a row of the call's own, made since the block base. -/
theorem ownS_isTo {B : Nat} {w : World} {v : Value} {L : List (List UInt8)} (h : OwnS B w v L) (hl : L.length ≤ maxLen) : IsTo (fun b => B ≤ b ∧ b < w.heap.size) w L v := by
  by_cases hne : L = []
  · subst hne
    obtain ⟨a, c, hv⟩ := ownS_slice h
    exact ⟨a, c, hv, hl, fun j hj => absurd hj (by simp)⟩
  · obtain ⟨g, c, hv, hB, hg, hc⟩ := ownS_at h hne
    exact ⟨_, c, hv, hl, fun j hj => ⟨g, 0, rfl, ⟨hB, hg⟩, by rw [Nat.zero_add]; exact hc j hj⟩⟩

def RowP (B : Nat) (w : World) (v : Value) (P : List PT) : Prop := w.ownsRow B 54 2 v P.length (cellsP P)
/-- What the row's attributes are. -/
def Says (B : Nat) (w : World) (v : Value) (P : List PT) (L : List AT) : Prop := P.length = L.length ∧ ∀ j (h : j < L.length) (h' : j < P.length), P[j].1 = L[j].1 ∧ IsTo (fun b => B ≤ b ∧ b < w.heap.size ∧ some b ≠ v.ownBlock) w L[j].2 P[j].2
/-- The value v is the list of these attributes, in a row of the call's own; their values lie elsewhere. -/
def OwnA (B : Nat) (w : World) (v : Value) (L : List AT) : Prop := ∃ P, RowP B w v P ∧ Says B w v P L

theorem rowP_below {B : Nat} {w w' : World} {v : Value} {P : List PT} (h : RowP B w v P) (hb : Below w.heap.size w w') : RowP B w' v P :=
  World.ownsRow.kept h (row := none) ⟨hb.os, hb.tape, hb.output, hb.size, fun k hk _ => hb.block k hk⟩ (by cases v.ownBlock <;> simp)
theorem says_below {B : Nat} {w w' : World} {v : Value} {P : List PT} {L : List AT} (h : Says B w v P L) (hb : Below w.heap.size w w') : Says B w' v P L :=
  ⟨h.1, fun j h1 h2 => ⟨(h.2 j h1 h2).1, (h.2 j h1 h2).2.imp (fun b hk => ⟨hk.1, Nat.lt_of_lt_of_le hk.2.1 hb.size, hk.2.2⟩) (fun b o hk => hb.cell (p := ⟨b, o, none⟩) hk.2.1)⟩⟩
theorem ownA_below {B : Nat} {w w' : World} {v : Value} {L : List AT} (h : OwnA B w v L) (hb : Below w.heap.size w w') : OwnA B w' v L := by
  obtain ⟨P, h1, h2⟩ := h
  exact ⟨P, rowP_below h1 hb, says_below h2 hb⟩
theorem rowP_slice {B : Nat} {w : World} {v : Value} {P : List PT} (h : RowP B w v P) : ∃ a c, v = .slice a P.length c := by
  rcases h.2 with ⟨rfl, hz⟩ | ⟨g, cap, cur, rfl, _⟩
  · exact ⟨_, _, by rw [hz]⟩
  · exact ⟨_, _, rfl⟩
theorem ownA_slice {B : Nat} {w : World} {v : Value} {L : List AT} (h : OwnA B w v L) : ∃ a c, v = .slice a L.length c := by
  obtain ⟨P, h1, h2⟩ := h
  rw [← h2.1]
  exact rowP_slice h1
theorem ownA_nil (B : Nat) (w : World) : OwnA B w (.slice none 0 0) [] := ⟨[], World.ownsRow_nil _ _ _ _, rfl, fun j h => absurd h (by simp)⟩
theorem rowP_at {B : Nat} {w : World} {v : Value} {P : List PT} (h : RowP B w v P) (hl : P ≠ []) : ∃ g c, v = .slice (some ⟨g, 0, none⟩) P.length c ∧ B ≤ g ∧ g < w.heap.size ∧ ∀ j (hj : j < P.length), w.cell? ⟨g, j * 2, none⟩ = some (strV P[j].1) ∧ w.cell? ⟨g, j * 2 + 1, none⟩ = some P[j].2 := by
  have hc := fun g (hg : v.ownBlock = some g) => World.ownsRow.cells h hg
  rcases h.2 with ⟨rfl, hz⟩ | ⟨g, cap, cur, rfl, hB, hg, _⟩
  · exact absurd (List.eq_nil_of_length_eq_zero hz) hl
  · refine ⟨g, cap, rfl, hB, (Array.getElem?_eq_some_iff.1 hg).1, fun j hj => ?_⟩
    obtain ⟨g1, g2⟩ := cellsP_get P j hj
    have h1 := hc g rfl (j * 2) _ g1
    have h2 := hc g rfl (j * 2 + 1) _ g2
    have e1 : ((⟨g, 0, none⟩ : Addr).add (j * 2)) = ⟨g, j * 2, none⟩ := by simp [Addr.add]; omega
    have e2 : ((⟨g, 0, none⟩ : Addr).add (j * 2 + 1)) = ⟨g, j * 2 + 1, none⟩ := by simp [Addr.add]
    rw [e1] at h1
    rw [e2] at h2
    exact ⟨h1, h2⟩
theorem ownA_isA {B : Nat} {w : World} {v : Value} {L : List AT} (h : OwnA B w v L) (hl : L.length ≤ maxLen) : IsA w.heap.size w L v := by
  obtain ⟨P, h1, h2⟩ := h
  by_cases hne : P = []
  · subst hne
    obtain ⟨a, c, hv⟩ := rowP_slice h1
    have : L = [] := List.eq_nil_of_length_eq_zero (by have := h2.1; simpa using this.symm)
    subst this
    exact ⟨a, c, hv, hl, fun j hj => absurd hj (by simp)⟩
  · obtain ⟨g, c, hv, _, hg, hc⟩ := rowP_at h1 hne
    refine ⟨_, c, by rw [hv, h2.1], hl, fun j hj => ?_⟩
    have hj' : j < P.length := by rw [h2.1]; exact hj
    obtain ⟨e1, e2⟩ := h2.2 j hj hj'
    refine ⟨g, 0, P[j].2, rfl, hg, ?_, ?_, e2.to (fun b hb => hb.2.1)⟩
    · rw [Nat.zero_add, ← e1]; exact (hc j hj').1
    · rw [Nat.zero_add]; exact (hc j hj').2

/-- A new attribute behind those that there are. -/
theorem says_more {B : Nat} {w w' : World} {v v' : Value} {P : List PT} {L : List AT} {X : List UInt8} {u : Value} {A : List (List UInt8)} (h : Says B w v P L) (hu : IsTo (fun b => B ≤ b ∧ b < w.heap.size ∧ some b ≠ v.ownBlock) w A u)
    (hg : w.grownBy w' v.ownBlock) (hat : v'.ownBlock = v.ownBlock ∨ v'.ownBlock = some w.heap.size) : Says B w' v' (P ++ [(X, u)]) (L ++ [(X, A)]) := by
  have ok : ∀ b, (B ≤ b ∧ b < w.heap.size ∧ some b ≠ v.ownBlock) → (B ≤ b ∧ b < w'.heap.size ∧ some b ≠ v'.ownBlock) := fun b hb => ⟨hb.1, Nat.lt_of_lt_of_le hb.2.1 hg.size, by
    rcases hat with e | e
    · rw [e]; exact hb.2.2
    · rw [e]; intro h; have := Option.some.inj h; have := hb.2.1; omega⟩
  have hc : ∀ b o, (B ≤ b ∧ b < w.heap.size ∧ some b ≠ v.ownBlock) → w'.cell? ⟨b, o, none⟩ = w.cell? ⟨b, o, none⟩ := fun b o hb => by
    have := hg.block b hb.2.1 hb.2.2
    simp only [World.cell?, this]
  refine ⟨by simp [h.1], fun j h1 h2 => ?_⟩
  by_cases hj : j < L.length
  · have hj' : j < P.length := by rw [h.1]; exact hj
    rw [List.getElem_append_left hj', List.getElem_append_left hj]
    exact ⟨(h.2 j hj hj').1, (h.2 j hj hj').2.imp ok hc⟩
  · have e1 : j = L.length := by simp at h1; omega
    have e2 : j = P.length := by rw [h.1]; exact e1
    have g1 : (P ++ [(X, u)])[j] = (X, u) := by simp [e2]
    have g2 : (L ++ [(X, A)])[j] = (X, A) := by simp [e1]
    rw [g1, g2]
    exact ⟨rfl, hu.imp ok hc⟩
theorem newsA (w : World) (x0 x1 : Value) : ∀ j u, [x0, x1][j]? = some u → (w.alloc (.cells #[x0, x1] 54)).cell? ((⟨w.heap.size, 0, none⟩ : Addr).add j) = some u := by
  intro j u hu
  have h : (w.alloc (.cells #[x0, x1] 54)).heap[w.heap.size]? = some (.cells #[x0, x1] 54 (0, 0)) := heap_alloc_new w _
  have hadd : (⟨w.heap.size, 0, none⟩ : Addr).add j = ⟨w.heap.size, j, none⟩ := by unfold Addr.add; split <;> simp_all
  rw [hadd]
  simp only [World.cell?, h]
  simpa using hu
theorem strV_whole (X : ByteArray) : strV X.data.toList = .string X := by show Value.string ⟨X.data.toList.toArray⟩ = _; rw [whole_ext]
theorem says_row {B : Nat} {w w' : World} {v v' : Value} {P : List PT} {L : List AT} {X : ByteArray} {u : Value} {A : List (List UInt8)} (hs : Says B w v P L)
    (hu : IsTo (fun b => B ≤ b ∧ b < w.heap.size ∧ some b ≠ v.ownBlock) w A u) (hr : w'.ownsRow B 54 2 v' (P.length + 1) (cellsP P ++ [.string X, u])) (hg : w.grownBy w' v.ownBlock) (hat : v'.ownBlock = v.ownBlock ∨ v'.ownBlock = some w.heap.size) :
    OwnA B w' v' (L ++ [(X.data.toList, A)]) := by
  refine ⟨P ++ [(X.data.toList, u)], ?_, says_more hs hu hg hat⟩
  unfold RowP
  rw [List.length_append, cellsP_append]
  show w'.ownsRow B 54 2 v' (P.length + 1) (cellsP P ++ [strV X.data.toList, u])
  rw [strV_whole]
  exact hr

/-- 'append(l, a)' of one attribute. -/
theorem wpList_append_attr {ops : Array Oper} {rest : List Oper} {o : Oper} {a : Act} {w : World} {Q : Exit → Act → World → Prop} (hgd : o.guard = none) (sl x : Operand)
    (ho : o.op = .call { callee := .builtin .append, args := #[sl, x], argTypes := #[22, 22] })
    (base : Nat) (v : Value) (L : List AT) (hs : a.eval sl = v) (X : ByteArray) (u : Value) (A : List (List UInt8)) (hown : OwnA base w v L) (hu : IsTo (fun b => base ≤ b ∧ b < w.heap.size ∧ some b ≠ v.ownBlock) w A u) (hu1 : u.oneCell' = true) (hx : a.eval x = .slice (some ⟨w.heap.size, 0, none⟩) 1 1)
    (h63 : L.length + 1 ≤ 1000000) (hbase : base ≤ w.heap.size)
    (h : ∀ v' w', OwnA base w' v' (L ++ [(X.data.toList, A)]) → Below base w w' → wpList Tryz.prog ops Q rest (a.put o.dst v') w') : wpList Tryz.prog ops Q (o :: rest) a (w.alloc (.cells #[.string X, u] 54)) := by
  obtain ⟨i0, hi, hz0, hz1, hz2⟩ := info_parts infoA
  obtain ⟨P, hr, hsay⟩ := hown
  have hb : Below w.heap.size w (w.alloc (.cells #[.string X, u] 54)) := (Below.refl _ _).alloc (Nat.le_refl _) _
  have hPL := hsay.1
  refine wpList_append_own_at _ hgd sl x 22 ho base 54 i0 (.agg #[.string ⟨#[]⟩, .slice none 0 0]) 2 40 Tryz.underlying22 hi hz0 hz1 hz2 rfl (by decide) v P.length (cellsP P) hs (World.ownsRow.alloc hr _) ⟨w.heap.size, 0, none⟩ 1 1 [.string X, u] hx rfl (newsA w _ _) (by intro u' hu'; simp at hu'; rcases hu' with rfl | rfl; rfl; exact hu1) (by unfold maxLen; omega) (by omega) (by simp; omega) ?_
  intro v' w' hown' hgrow _ hat
  refine h v' w' (says_row (says_below hsay hb) (hu.imp (fun b hk => ⟨hk.1, Nat.lt_of_lt_of_le hk.2.1 hb.size, hk.2.2⟩) (fun b o hk => hb.cell (p := ⟨b, o, none⟩) hk.2.1)) hown' hgrow hat) ?_
  exact ((Below.refl base w).alloc hbase _).grown hgrow (by simp; omega) (fun k e => (World.ownsRow.lt hr k e).1)

theorem step_append_attr {ops : Array Oper} {o : Oper} {a : Act} {w : World} {K : Act → World → Prop} {Q : Exit → Act → World → Prop} {E : Prop} (hgd : o.guard = none) (sl x : Operand)
    (ho : o.op = .call { callee := .builtin .append, args := #[sl, x], argTypes := #[22, 22] })
    (base : Nat) (v : Value) (L : List AT) (hs : a.eval sl = v) (X : ByteArray) (u : Value) (A : List (List UInt8)) (hown : OwnA base w v L) (hu : IsTo (fun b => base ≤ b ∧ b < w.heap.size ∧ some b ≠ v.ownBlock) w A u) (hu1 : u.oneCell' = true) (hx : a.eval x = .slice (some ⟨w.heap.size, 0, none⟩) 1 1)
    (h63 : L.length + 1 ≤ 1000000) (hbase : base ≤ w.heap.size)
    (h : ∀ v' w', OwnA base w' v' (L ++ [(X.data.toList, A)]) → Below base w w' → K (a.put o.dst v') w') :
    if Region.wanted o (yielded ops a.tmps) = true then Oper.wp Tryz.prog o a (w.alloc (.cells #[.string X, u] 54)) K Q else E := by
  obtain ⟨i0, hi, hz0, hz1, hz2⟩ := info_parts infoA
  obtain ⟨P, hr, hsay⟩ := hown
  have hb : Below w.heap.size w (w.alloc (.cells #[.string X, u] 54)) := (Below.refl _ _).alloc (Nat.le_refl _) _
  have hPL := hsay.1
  refine step_append_lies _ hgd sl x 22 ho base 54 i0 (.agg #[.string ⟨#[]⟩, .slice none 0 0]) 2 40 Tryz.underlying22 hi hz0 hz1 hz2 rfl (by decide) v P.length (cellsP P) hs (World.ownsRow.alloc hr _) ⟨w.heap.size, 0, none⟩ 1 1 [.string X, u] hx rfl (newsA w _ _) (by intro u' hu'; simp at hu'; rcases hu' with rfl | rfl; rfl; exact hu1) (by decide) (by unfold maxLen; omega) (by omega) (by simp; omega) _ rfl ?_
  intro g cap w' hown' hgrow hat hlt
  refine h _ w' (says_row (says_below hsay hb) (hu.imp (fun b hk => ⟨hk.1, Nat.lt_of_lt_of_le hk.2.1 hb.size, hk.2.2⟩) (fun b o hk => hb.cell (p := ⟨b, o, none⟩) hk.2.1)) hown' hgrow (by rcases hat with e | e; exact .inl e.symm; exact .inr (by rw [e]; rfl))) ?_
  exact ((Below.refl base w).alloc hbase _).grown hgrow (by simp; omega) (fun k e => (World.ownsRow.lt hr k e).1)
end Go.Proofs.YtlimajgmdhhggaaGreatDoor
