/- Several texts in one file: ScNedA, TrRead, MaKeyP, TrKey, TrCopy, TrFill, TrIdx. -/
import Derived.Test.YtpnbcmblnplbgaaGreatDoorChgP5
import Derived.Test.YtpnbcmblnplbgaaGreatDoorChgP1
import Derived.Test.YtpnbcmblnplbgaaGreatDoorRefKeyW
import Derived.Maps.Own
import Derived.Maps.OwnSet
namespace Go.Proofs.YtpnbcmblnplbgaaGreatDoor
open Go.RowKit
set_option linter.unusedVariables false

def StrB (w : World) (b : Nat) : Prop := ∃ cs fr, w.heap[b]? = some (.cells cs 9 fr)
def SaysM (w : World) (P : List PT) (L : List AT) : Prop := P.length = L.length ∧ ∀ j (h : j < L.length) (h' : j < P.length), P[j].1 = L[j].1 ∧ IsTo (StrB w) w L[j].2 P[j].2
def OwnM (B : Nat) (w : World) (v : Value) (L : List AT) : Prop := ∃ P, RowP B w v P ∧ SaysM w P L

theorem strB_at {w : World} {b : Nat} {cs : Array Value} (h : w.heap[b]? = some (.cells cs 9 (0, 0))) : StrB w b := ⟨cs, _, h⟩
theorem StrB.lt {w : World} {b : Nat} (h : StrB w b) : b < w.heap.size := by
  obtain ⟨_, _, h⟩ := h
  exact (Array.getElem?_eq_some_iff.1 h).1
theorem saysM_to {w w' : World} {P : List PT} {L : List AT} (h : SaysM w P L) (hk : ∀ b, StrB w b → w'.heap[b]? = w.heap[b]?) : SaysM w' P L :=
  ⟨h.1, fun j h1 h2 => ⟨(h.2 j h1 h2).1, (h.2 j h1 h2).2.imp (fun b hb => by obtain ⟨cs, fr, e⟩ := hb; exact ⟨cs, fr, (hk b ⟨cs, fr, e⟩).trans e⟩) (fun b o hb => by simp only [World.cell?, hk b hb])⟩⟩
theorem saysM_below {w w' : World} {P : List PT} {L : List AT} (h : SaysM w P L) (hb : Below w.heap.size w w') : SaysM w' P L := saysM_to h fun b hs => hb.block b hs.lt
theorem ownM_below {B : Nat} {w w' : World} {v : Value} {L : List AT} (h : OwnM B w v L) (hb : Below w.heap.size w w') : OwnM B w' v L := by
  obtain ⟨P, h1, h2⟩ := h
  exact ⟨P, rowP_below h1 hb, saysM_below h2 hb⟩
theorem ownM_empty {B b : Nat} {w : World} (hb : w.heap[b]? = some (.cells #[] 56 (0, 0))) (hB : B ≤ b) : OwnM B w (.slice (some ⟨b, 0, none⟩) 0 0) [] :=
  ⟨[], ⟨rfl, .inr ⟨b, 0, #[], rfl, hB, hb, Nat.le_refl _, Nat.zero_le _, rfl, rfl⟩⟩, rfl, fun j h => absurd h (by simp)⟩
theorem row_keep {B : Nat} {w w' : World} {v : Value} {P : List PT} (hr : RowP B w v P) (hg : w.grownBy w' v.ownBlock) {b : Nat} {cs : Array Value} {e : TypeId} {fr : Nat × Nat} (hb : w.heap[b]? = some (.cells cs e fr)) (hne : e ≠ 56) : w'.heap[b]? = w.heap[b]? := by
  refine hg.block b (Array.getElem?_eq_some_iff.1 hb).1 fun he => hne ?_
  rcases hr.2 with ⟨rfl, _⟩ | ⟨g, cap, cur, rfl, _, hc, _⟩
  · cases he
  · have : b = g := by simpa [Value.ownBlock] using he
    subst this
    rw [hb] at hc
    cases hc
    rfl
theorem saysM_grown {B : Nat} {w w' : World} {v : Value} {P P' : List PT} {L : List AT} (hr : RowP B w v P') (hg : w.grownBy w' v.ownBlock) (h : SaysM w P L) : SaysM w' P L :=
  saysM_to h fun b hs => by obtain ⟨cs, fr, e⟩ := hs; exact row_keep hr hg e (by decide)
theorem saysM_app {w : World} {P PM : List PT} {L M : List AT} (h : SaysM w P L) (hm : SaysM w PM M) : SaysM w (P ++ PM) (L ++ M) := by
  refine ⟨by simp [h.1, hm.1], fun j h1 h2 => ?_⟩
  by_cases hj : j < L.length
  · have hj' : j < P.length := by rw [h.1]; exact hj
    rw [List.getElem_append_left hj', List.getElem_append_left hj]
    exact h.2 j hj hj'
  · have e := h.1
    have hm1 : j - L.length < M.length := by simp at h1; omega
    have hm2 : j - L.length < PM.length := by rw [hm.1]; exact hm1
    have g1 : (P ++ PM)[j] = PM[j - L.length] := by
      rw [List.getElem_append_right (by omega)]
      simp only [e]
    have g2 : (L ++ M)[j] = M[j - L.length] := List.getElem_append_right (by omega)
    rw [g1, g2]
    exact hm.2 _ hm1 hm2
theorem one_isTo {ok : Nat → Prop} {w : World} {L : List (List UInt8)} {v : Value} (h : IsTo ok w L v) : v.oneCell' = true := by
  obtain ⟨_, _, rfl, _⟩ := h
  rfl

theorem run_append_M {B : Nat} {w : World} {v : Value} {L : List AT} (hown : OwnM B w v L) (hB : B ≤ w.heap.size) {PM : List PT} {M : List AT} (hs : SaysM w PM M) (ad : Addr) (c : Nat)
    (hc : ∀ j u, (cellsP PM)[j]? = some u → w.cell? (ad.add j) = some u) (hlen : L.length + M.length ≤ 1000) (ty : TypeId) :
    ∃ v' w', (Builtin.append_ #[25, 25] ty #[v, .slice (some ad) M.length c]).run Tryz.prog w = .ok v' w' ∧ OwnM B w' v' (L ++ M) ∧ Below B w w' ∧ ∃ P, RowP B w v P ∧ w.grownBy w' v.ownBlock := by
  obtain ⟨i0, hi, hz0, hz1, hz2⟩ := info_parts infoA
  obtain ⟨P, hr, hsay⟩ := hown
  have e1 := hsay.1
  have e2 := hs.1
  have h1 : ∀ u ∈ cellsP PM, u.oneCell' = true := by
    intro u hu
    have : ∀ (l : List PT), (∀ j (h : j < l.length), l[j].2.oneCell' = true) → ∀ u ∈ cellsP l, u.oneCell' = true := by
      intro l
      induction l with
      | nil => intro _ u hu; simp [cellsP] at hu
      | cons r l ih =>
        intro h u hu
        simp only [cellsP, List.mem_cons] at hu
        rcases hu with rfl | rfl | hu
        · rfl
        · exact h 0 (by simp)
        · exact ih (fun j hj => h (j + 1) (by simpa using hj)) u hu
    exact this PM (fun j hj => one_isTo (hs.2 j (by omega) hj).2) u hu
  obtain ⟨v', w', hrun, hown', hgrow, _, hat⟩ := run_append_own_at (P := Tryz.prog) w B 25 ty 56 i0 (.agg #[.string ⟨#[]⟩, .slice none 0 0]) 2 40 Tryz.underlying25 hi hz0 hz1 hz2 rfl (by decide) v P.length (cellsP P) hr ad PM.length c (cellsP PM) (cellsP_length PM) hc h1 (by unfold maxLen; omega) (by omega) hB
  rw [e2] at hrun
  refine ⟨v', w', hrun, ⟨P ++ PM, ?_, saysM_app (saysM_grown hr hgrow hsay) (saysM_grown hr hgrow hs)⟩, (Below.refl B w).grown hgrow hB (fun k e => (World.ownsRow.lt hr k e).1), P, hr, hgrow⟩
  unfold RowP
  rw [List.length_append, cellsP_append]
  exact hown'

theorem exec_append {P : Program} {o : Oper} {a : Act} {w w' : World} {s x : Operand} {t : TypeId} {v u v' : Value} (ho : o.op = .call { callee := .builtin .append, args := #[s, x], argTypes := #[t, t] }) (hs : a.eval s = v) (hx : a.eval x = u)
    (hr : (Builtin.append_ #[t, t] o.type #[v, u]).run P w = .ok v' w') : (execOp a.eval o).run P w = .ok (.value v') w' := by
  unfold execOp
  simp only [ho, resolve, invoke, builtin, Sem.run_bind, Sem.run_pure, Result.andThen_ok, List.map_toArray, List.map_cons, List.map_nil, hs, hx, hr]

theorem wpOp_skip {P : Program} {ops : Array Oper} {Q : Exit → Act → World → Prop} {i : Nat} {o : Oper} {a : Act} {w w' : World} {K : Act → World → Prop} (ho : ops[i]? = some o) (hg : o.guard = none) (hr : (execOp a.eval o).run P w = .ok .skip w') (hk : K (a.put o.dst undef) w') : wpOp P ops Q i K a w := by
  unfold wpOp
  rw [ho]
  show if Region.wanted o (yielded ops a.tmps) = true then _ else _
  rw [if_pos (by unfold Region.wanted; rw [hg])]
  refine .inl ?_
  unfold Oper.wp
  rw [hr]
  exact hk

theorem row_part {w : World} {b : Nat} {P : List PT} (h : ∀ j u, (cellsP P)[j]? = some u → w.cell? ⟨b, j, none⟩ = some u) (A B C : List PT) (e : P = A ++ B ++ C) : ∀ j u, (cellsP B)[j]? = some u → w.cell? ((⟨b, A.length * 2, none⟩ : Addr).add j) = some u := by
  intro j u hu
  have hadd : (⟨b, A.length * 2, none⟩ : Addr).add j = ⟨b, A.length * 2 + j, none⟩ := by simp [Addr.add]
  rw [hadd]
  refine h _ _ ?_
  rw [e, cellsP_append, cellsP_append, List.append_assoc, List.getElem?_append_right (by rw [cellsP_length]; omega), cellsP_length, show A.length * 2 + j - A.length * 2 = j from by omega]
  have hlt : j < (cellsP B).length := by
    rcases Nat.lt_or_ge j (cellsP B).length with h | h
    · exact h
    · rw [List.getElem?_eq_none h] at hu; cases hu
  rw [List.getElem?_append_left hlt, hu]
theorem saysM_part {w : World} {A B C : List PT} {L M N : List AT} (h : SaysM w (A ++ B ++ C) (L ++ M ++ N)) (h1 : A.length = L.length) (h2 : B.length = M.length) : SaysM w B M := by
  refine ⟨h2, fun j hj hj' => ?_⟩
  have := h.2 (L.length + j) (by simp; omega) (by simp; omega)
  have g1 : (A ++ B ++ C)[L.length + j]'(by simp; omega) = B[j] := by
    rw [List.getElem_append_left (by simp; omega), List.getElem_append_right (by omega)]
    congr 1
    omega
  have g2 : (L ++ M ++ N)[L.length + j]'(by simp; omega) = M[j] := by
    rw [List.getElem_append_left (by simp; omega), List.getElem_append_right (by omega)]
    congr 1
    omega
  rw [g1, g2] at this
  exact this

theorem saysM_one {w : World} {b : Nat} {X Y : ByteArray} (h : w.heap[b]? = some (.cells #[.string Y] 9 (0, 0))) : SaysM w [(X.data.toList, .slice (some ⟨b, 0, none⟩) 1 1)] [(X.data.toList, [Y.data.toList])] :=
  ⟨rfl, fun j hj hj' => by
    have : j = 0 := by simp at hj; omega
    subst this
    refine ⟨rfl, _, _, rfl, by unfold maxLen; simp, fun k hk => ?_⟩
    have : k = 0 := by simp at hk; omega
    subst this
    refine ⟨b, 0, rfl, strB_at h, ?_⟩
    rw [show ([(X.data.toList, [Y.data.toList])] : List AT)[0].2[0] = Y.data.toList from rfl, strV_whole]
    simp only [World.cell?, h]
    rfl⟩
theorem cells_one {w : World} {c : Nat} {X : ByteArray} {u : Value} (h : w.heap[c]? = some (.cells #[.string X, u] 56 (0, 0))) : ∀ j x, (cellsP [(X.data.toList, u)])[j]? = some x → w.cell? ((⟨c, 0, none⟩ : Addr).add j) = some x := by
  intro j x hx
  have hadd : (⟨c, 0, none⟩ : Addr).add j = ⟨c, j, none⟩ := by simp [Addr.add]; omega
  rw [hadd]
  simp only [World.cell?, h]
  have e : cellsP [(X.data.toList, u)] = [.string X, u] := by
    show [strV X.data.toList, u] = _
    rw [strV_whole]
  rw [e] at hx
  simpa using hx
def perRow (g : Nat) : List PT := [([99, 110], .slice (some ⟨g - 3, 0, none⟩) 1 1), ([111, 98, 106, 101, 99, 116, 99, 108, 97, 115, 115], .slice (some ⟨g - 2, 0, none⟩) 1 1), ([115, 110], .slice (some ⟨g - 1, 0, none⟩) 1 1)]
theorem list_cells {w : World} {b : Nat} {P : List PT} (h : w.heap[b]? = some (.cells (cellsP P).toArray 56 (0, 0))) : ∀ j u, (cellsP P)[j]? = some u → w.cell? ⟨b, j, none⟩ = some u := by
  intro j u hu
  simp only [World.cell?, h]
  simpa using hu
theorem ownM_isA {B : Nat} {w : World} {v : Value} {L : List AT} (h : OwnM B w v L) (hl : L.length ≤ maxLen) : IsA w.heap.size w L v := by
  obtain ⟨P, h1, h2⟩ := h
  by_cases hne : P = []
  · subst hne
    obtain ⟨a, c, hv⟩ := rowP_slice h1
    have : L = [] := List.eq_nil_of_length_eq_zero (by have := h2.1; simpa using this.symm)
    subst this
    exact ⟨a, c, hv, hl, fun j hj => absurd hj (by simp)⟩
  · obtain ⟨g, c, hv, _, hg, hc⟩ := rowP_at h1 hne
    refine ⟨_, c, by rw [hv, h2.1], hl, fun j hj => ?_⟩
    have hj' : j < P.length := by rw [h2.1]; exact hj
    obtain ⟨e1, e2⟩ := h2.2 j hj hj'
    refine ⟨g, 0, P[j].2, rfl, hg, ?_, ?_, e2.to (fun b hb => hb.lt)⟩
    · rw [Nat.zero_add, ← e1]; exact (hc j hj').1
    · rw [Nat.zero_add]; exact (hc j hj').2

structure MAt (n1 : Nat) (W0 : World) (D : ByteArray) (L : List AT) (wx : World) (b : Nat) (u : Value) : Prop where
  lo : n1 ≤ b
  box : BoxN wx b D u
  own : OwnM n1 wx u L
  below : Below n1 W0 wx
def NC6 : Array Value := #[.string ⟨#[109, 97, 105, 108]⟩, .string ⟨#[117, 105, 100]⟩, .string ⟨#[111, 117]⟩, .string ⟨#[109, 101, 109, 98, 101, 114]⟩, .string ⟨#[117, 105, 100, 110, 117, 109, 98, 101, 114]⟩, .string ⟨#[111]⟩]
def NC2 : Array Value := #[.string ⟨#[100, 101, 115, 99, 114, 105, 112, 116, 105, 111, 110]⟩, .string ⟨#[117, 115, 101, 114, 112, 97, 115, 115, 119, 111, 114, 100]⟩]
def nmB (l : Array Value) (q : Nat) : ByteArray := match l.getD q undef with
  | .string x => x
  | _ => ⟨#[]⟩
def FLess (n1 h0 b6 k : Nat) (D : ByteArray) (L1 L2 : List AT) (p q : Bool) (i : Nat) (v : Value) (w : World) : Prop := match i with
  | 0 => v = .pointer (some ⟨h0, 0, none⟩)
  | 1 => v = .string D
  | 2 => p = true ∨ ∃ b, v = .slice (some ⟨b, 0, none⟩) 0 0 ∧ n1 ≤ b ∧ w.heap[b]? = some (.cells #[] 56 (0, 0))
  | 3 => v = .slice (some ⟨b6, 0, none⟩) 3 3
  | 4 => v = .int .i64 (k : Int)
  | 5 => v = .slice (some ⟨b6, 0, none⟩) k 3
  | 6 => q = true ∨ OwnM n1 w v L1
  | 7 => v = .slice (some ⟨b6, 0, none⟩) 3 3
  | 8 => v = .int .i64 (k : Int)
  | 9 => v = .int .i64 ((k : Int) + 1)
  | 10 => v = .slice (some (if k = 2 then ⟨b6, 0, none⟩ else ⟨b6, (k + 1) * 2, none⟩)) (2 - k) (2 - k)
  | 11 => q = true ∧ OwnM n1 w v L2
  | 12 => q = true ∧ ∃ s, v = .agg #[.string D, s] ∧ OwnM n1 w s L2
  | 13 => ∃ b, v = .pointer (some ⟨b, 0, none⟩) ∧ n1 ≤ b ∧ w.heap[b]? = some (.cells #[.string ⟨#[]⟩, .slice none 0 0] 27 (0, 0))
  | _ => True
theorem FLess.go {n1 h0 b6 k : Nat} {D : ByteArray} {L1 L2 : List AT} {p q : Bool} {i : Nat} {v : Value} {w w' : World} (h : FLess n1 h0 b6 k D L1 L2 p q i v w) (hb : Below w.heap.size w w') : FLess n1 h0 b6 k D L1 L2 p q i v w' := by
  have hk : ∀ {b : Nat} {o : Obj}, w.heap[b]? = some o → w'.heap[b]? = some o := fun e => (hb.block _ (Array.getElem?_eq_some_iff.1 e).1).trans e
  match i, h with
  | 0, h => exact h
  | 1, h => exact h
  | 2, h => exact h.imp id fun ⟨b, e, hn, hc⟩ => ⟨b, e, hn, hk hc⟩
  | 3, h => exact h
  | 4, h => exact h
  | 5, h => exact h
  | 6, h => exact h.imp id fun x => ownM_below x hb
  | 7, h => exact h
  | 8, h => exact h
  | 9, h => exact h
  | 10, h => exact h
  | 11, h => exact ⟨h.1, ownM_below h.2 hb⟩
  | 12, h => obtain ⟨hq, s, e, x⟩ := h; exact ⟨hq, s, e, ownM_below x hb⟩
  | 13, h => obtain ⟨b, e, hn, hc⟩ := h; exact ⟨b, e, hn, hk hc⟩
  | _ + 14, h => exact trivial
theorem FLess.loud {n1 h0 b6 k : Nat} {D : ByteArray} {L1 L2 : List AT} {p q q' : Bool} {i : Nat} {v : Value} {w w' : World} (h : FLess n1 h0 b6 k D L1 L2 p q i v w) (hp : q = false) (hi : i ≠ 6 ∨ q' = true)
    (hk : ∀ (b : Nat) (cs : Array Value) (e : TypeId), w.heap[b]? = some (.cells cs e (0, 0)) → e ≠ 56 → w'.heap[b]? = w.heap[b]?) : FLess n1 h0 b6 k D L1 L2 true q' i v w' := by
  subst hp
  match i, h, hi with
  | 0, h, _ => exact h
  | 1, h, _ => exact h
  | 2, h, _ => exact .inl rfl
  | 3, h, _ => exact h
  | 4, h, _ => exact h
  | 5, h, _ => exact h
  | 6, h, hi => exact .inl (hi.resolve_left (fun x => x rfl))
  | 7, h, _ => exact h
  | 8, h, _ => exact h
  | 9, h, _ => exact h
  | 10, h, _ => exact h
  | 11, h, _ => cases h.1
  | 12, h, _ => cases h.1
  | 13, h, _ => obtain ⟨b, e, hn, hc⟩ := h; exact ⟨b, e, hn, (hk _ _ _ hc (by decide)).trans hc⟩
  | _ + 14, h, _ => exact trivial

def FMore (n1 h0 b6 wh q6 : Nat) (D : ByteArray) (NC : Array Value) (NA VT : ByteArray) (L1 L2 : List AT) (p q : Bool) (i : Nat) (v : Value) (w : World) : Prop := match i with
  | 0 => v = .pointer (some ⟨h0, 0, none⟩)
  | 1 => v = .string D
  | 2 => p = true ∨ ∃ b, v = .slice (some ⟨b, 0, none⟩) 0 0 ∧ n1 ≤ b ∧ w.heap[b]? = some (.cells #[] 56 (0, 0))
  | 3 => v = .slice (some ⟨b6, 0, none⟩) 3 3
  | 4 => q = true ∨ OwnM n1 w v L1
  | 5 => ∃ b, v = .slice (some ⟨b, 0, none⟩) NC.size NC.size ∧ w.heap[b]? = some (.cells NC 9 (0, 0))
  | 6 => v = .int .u8 (wh : Int)
  | 7 => v = .int .u8 (q6 : Int)
  | 8 => ∃ b, v = .pointer (some ⟨b, q6, none⟩) ∧ w.heap[b]? = some (.cells NC 9 (0, 0))
  | 9 => v = .string NA
  | 10 => ∃ b, v = .slice (some ⟨b, 0, none⟩) 1 1 ∧ w.heap[b]? = some (.cells #[.string VT] 9 (0, 0))
  | 11 => ∃ b, v = .agg #[.string NA, .slice (some ⟨b, 0, none⟩) 1 1] ∧ w.heap[b]? = some (.cells #[.string VT] 9 (0, 0))
  | 12 => q = true ∨ ∃ c b, v = .slice (some ⟨c, 0, none⟩) 1 1 ∧ w.heap[c]? = some (.cells #[.string NA, .slice (some ⟨b, 0, none⟩) 1 1] 56 (0, 0)) ∧ w.heap[b]? = some (.cells #[.string VT] 9 (0, 0))
  | 13 => q = true ∧ OwnM n1 w v L2
  | 14 => q = true ∧ ∃ s, v = .agg #[.string D, s] ∧ OwnM n1 w s L2
  | 15 => ∃ b, v = .pointer (some ⟨b, 0, none⟩) ∧ n1 ≤ b ∧ w.heap[b]? = some (.cells #[.string ⟨#[]⟩, .slice none 0 0] 27 (0, 0))
  | _ => True
theorem FMore.go {n1 h0 b6 wh q6 : Nat} {D : ByteArray} {NC : Array Value} {NA VT : ByteArray} {L1 L2 : List AT} {p q : Bool} {i : Nat} {v : Value} {w w' : World} (h : FMore n1 h0 b6 wh q6 D NC NA VT L1 L2 p q i v w) (hb : Below w.heap.size w w') : FMore n1 h0 b6 wh q6 D NC NA VT L1 L2 p q i v w' := by
  have hk : ∀ {b : Nat} {o : Obj}, w.heap[b]? = some o → w'.heap[b]? = some o := fun e => (hb.block _ (Array.getElem?_eq_some_iff.1 e).1).trans e
  match i, h with
  | 0, h => exact h
  | 1, h => exact h
  | 2, h => exact h.imp id fun ⟨b, e, hn, hc⟩ => ⟨b, e, hn, hk hc⟩
  | 3, h => exact h
  | 4, h => exact h.imp id fun x => ownM_below x hb
  | 5, h => obtain ⟨b, e, hc⟩ := h; exact ⟨b, e, hk hc⟩
  | 6, h => exact h
  | 7, h => exact h
  | 8, h => obtain ⟨b, e, hc⟩ := h; exact ⟨b, e, hk hc⟩
  | 9, h => exact h
  | 10, h => obtain ⟨b, e, hc⟩ := h; exact ⟨b, e, hk hc⟩
  | 11, h => obtain ⟨b, e, hc⟩ := h; exact ⟨b, e, hk hc⟩
  | 12, h => exact h.imp id fun ⟨c, b, e, h1, h2⟩ => ⟨c, b, e, hk h1, hk h2⟩
  | 13, h => exact ⟨h.1, ownM_below h.2 hb⟩
  | 14, h => obtain ⟨hq, s, e, x⟩ := h; exact ⟨hq, s, e, ownM_below x hb⟩
  | 15, h => obtain ⟨b, e, hn, hc⟩ := h; exact ⟨b, e, hn, hk hc⟩
  | _ + 16, h => exact trivial
end Go.Proofs.YtpnbcmblnplbgaaGreatDoor


namespace Go.Proofs.YtpnbcmblnplbgaaGreatDoor
open Go.RowKit
set_option linter.unusedVariables false

def IsAo (ok : Nat → Prop) (w : World) (L : List AT) (v : Value) : Prop := ∃ a c, v = .slice a L.length c ∧ L.length ≤ maxLen ∧
  ∀ j, (h : j < L.length) → ∃ b off u, a = some ⟨b, off, none⟩ ∧ ok b ∧ w.cell? ⟨b, off + j * 2, none⟩ = some (strV L[j].1) ∧ w.cell? ⟨b, off + j * 2 + 1, none⟩ = some u ∧ IsTo ok w L[j].2 u
def IsEo (ok : Nat → Prop) (w : World) (L : List ET) (v : Value) : Prop := ∃ a c, v = .slice a L.length c ∧ L.length ≤ maxLen ∧
  ∀ j, (h : j < L.length) → ∃ b off u, a = some ⟨b, off, none⟩ ∧ ok b ∧ w.cell? ⟨b, off + j * 2, none⟩ = some (strV L[j].1) ∧ w.cell? ⟨b, off + j * 2 + 1, none⟩ = some u ∧ IsAo ok w L[j].2 u
abbrev IsE (n : Nat) := IsEo (fun b => b < n)
theorem IsA.isAo {n : Nat} {w : World} {L : List AT} {v : Value} (h : IsA n w L v) : IsAo (fun b => b < n) w L v := h
theorem IsAo.isA {n : Nat} {w : World} {L : List AT} {v : Value} (h : IsAo (fun b => b < n) w L v) : IsA n w L v := h
theorem IsAo.imp {ok ok' : Nat → Prop} {w w' : World} {L : List AT} {v : Value} (h : IsAo ok w L v) (hi : ∀ b, ok b → ok' b) (hc : ∀ b o, ok b → w'.cell? ⟨b, o, none⟩ = w.cell? ⟨b, o, none⟩) : IsAo ok' w' L v := by
  obtain ⟨a, c, hv, hm, h⟩ := h
  refine ⟨a, c, hv, hm, fun j hj => ?_⟩
  obtain ⟨b, off, u, ha, hb, h0, h1, h2⟩ := h j hj
  exact ⟨b, off, u, ha, hi b hb, (hc b _ hb).trans h0, (hc b _ hb).trans h1, h2.imp hi hc⟩
theorem IsEo.imp {ok ok' : Nat → Prop} {w w' : World} {L : List ET} {v : Value} (h : IsEo ok w L v) (hi : ∀ b, ok b → ok' b) (hc : ∀ b o, ok b → w'.cell? ⟨b, o, none⟩ = w.cell? ⟨b, o, none⟩) : IsEo ok' w' L v := by
  obtain ⟨a, c, hv, hm, h⟩ := h
  refine ⟨a, c, hv, hm, fun j hj => ?_⟩
  obtain ⟨b, off, u, ha, hb, h0, h1, h2⟩ := h j hj
  exact ⟨b, off, u, ha, hi b hb, (hc b _ hb).trans h0, (hc b _ hb).trans h1, h2.imp hi hc⟩
theorem IsE.below {n n' : Nat} {w w' : World} {L : List ET} {v : Value} (h : IsE n w L v) (hb : Below n w w') (hn : n ≤ n') : IsE n' w' L v :=
  h.imp (fun b hk => Nat.lt_of_lt_of_le hk hn) (fun b o hk => hb.cell (p := ⟨b, o, none⟩) hk)
theorem IsE.sl {ok : Nat → Prop} {w : World} {L : List ET} {v : Value} (h : IsEo ok w L v) : ∃ a c, v = .slice a L.length c := by
  obtain ⟨a, c, hv, _⟩ := h; exact ⟨a, c, hv⟩
theorem isE_nil (ok : Nat → Prop) (w : World) (c : Nat) (a : Option Addr) : IsEo ok w [] (.slice a 0 c) := ⟨a, c, rfl, Nat.zero_le _, fun j hj => absurd hj (by simp)⟩
theorem IsE.at {n : Nat} {w : World} {L : List ET} {v : Value} (h : IsE n w L v) (j : Nat) (hj : j < L.length) : ∃ a c b off u, v = .slice a L.length c ∧ a = some ⟨b, off, none⟩ ∧ b < n ∧ w.cell? ⟨b, off + j * 2, none⟩ = some (.string (ofL L[j].1)) ∧ w.cell? ⟨b, off + j * 2 + 1, none⟩ = some u ∧ IsA n w L[j].2 u := by
  obtain ⟨a, c, hv, _, h⟩ := h
  obtain ⟨b, off, u, ha, hb, h0, h1, h2⟩ := h j hj
  exact ⟨a, c, b, off, u, hv, ha, hb, h0, h1, h2⟩
theorem IsE.take {ok : Nat → Prop} {w : World} {L : List ET} {a : Option Addr} {n c : Nat} (h : IsEo ok w L (.slice a n c)) (k : Nat) (hk : k ≤ L.length) (c' : Nat) : IsEo ok w (L.take k) (.slice a k c') := by
  obtain ⟨a', c2, hv, hm, h⟩ := h
  obtain ⟨rfl, rfl, rfl⟩ := Value.slice.inj hv
  have hl : (L.take k).length = k := by rw [List.length_take]; omega
  refine ⟨a, c', by rw [hl], by rw [hl]; omega, fun j hj => ?_⟩
  rw [hl] at hj
  obtain ⟨b, off, u, ha, hb, h0, h1, h2⟩ := h j (by omega)
  have e : (L.take k)[j]'(by rw [hl]; exact hj) = L[j]'(by omega) := List.getElem_take
  exact ⟨b, off, u, ha, hb, by rw [e]; exact h0, h1, by rw [e]; exact h2⟩
theorem IsE.drop {ok : Nat → Prop} {w : World} {L : List ET} {b off n c : Nat} (h : IsEo ok w L (.slice (some ⟨b, off, none⟩) n c)) (k : Nat) (hk : k ≤ L.length) (c' : Nat) : IsEo ok w (L.drop k) (.slice (some ⟨b, off + k * 2, none⟩) (L.length - k) c') := by
  obtain ⟨a', c2, hv, hm, h⟩ := h
  obtain ⟨rfl, rfl, rfl⟩ := Value.slice.inj hv
  have hl : (L.drop k).length = L.length - k := List.length_drop
  refine ⟨_, c', by rw [hl], by rw [hl]; omega, fun j hj => ?_⟩
  rw [hl] at hj
  obtain ⟨b2, off2, u, ha, hb, h0, h1, h2⟩ := h (k + j) (by omega)
  have ha := Option.some.inj ha
  have e1 : b2 = b := (congrArg Addr.block ha).symm
  have e2 : off2 = off := (congrArg Addr.off ha).symm
  subst e1 e2
  have e : (L.drop k)[j]'(by rw [hl]; exact hj) = L[k + j]'(by omega) := List.getElem_drop
  refine ⟨b2, off2 + k * 2, u, rfl, hb, ?_, ?_, by rw [e]; exact h2⟩
  · rw [e, ← h0]; congr 2; omega
  · rw [← h1]; congr 2; omega

theorem infoE : (Tryz.prog.info? 27).map (fun i => (i.zero, i.size, i.bytes)) = some (some (.agg #[.string ⟨#[]⟩, .slice none 0 0]), 2, 40) := by kernel_rfl
def RowE (B : Nat) (w : World) (v : Value) (P : List PT) : Prop := w.ownsRow B 27 2 v P.length (cellsP P)
def SaysE (ok : Nat → Prop) (w : World) (P : List PT) (L : List ET) : Prop := P.length = L.length ∧ ∀ j (h : j < L.length) (h' : j < P.length), P[j].1 = L[j].1 ∧ IsAo ok w L[j].2 P[j].2
def OwnE (ok : Nat → Prop) (B : Nat) (w : World) (v : Value) (L : List ET) : Prop := ∃ P, RowE B w v P ∧ SaysE ok w P L
theorem SaysE.imp {ok ok' : Nat → Prop} {w w' : World} {P : List PT} {L : List ET} (h : SaysE ok w P L) (hi : ∀ b, ok b → ok' b) (hc : ∀ b o, ok b → w'.cell? ⟨b, o, none⟩ = w.cell? ⟨b, o, none⟩) : SaysE ok' w' P L :=
  ⟨h.1, fun j h1 h2 => ⟨(h.2 j h1 h2).1, (h.2 j h1 h2).2.imp hi hc⟩⟩
theorem rowE_below {B : Nat} {w w' : World} {v : Value} {P : List PT} (h : RowE B w v P) (hb : Below w.heap.size w w') : RowE B w' v P :=
  World.ownsRow.kept h (row := none) ⟨hb.os, hb.tape, hb.output, hb.size, fun k hk _ => hb.block k hk⟩ (by cases v.ownBlock <;> simp)
theorem ownE_below {ok ok' : Nat → Prop} {B : Nat} {w w' : World} {v : Value} {L : List ET} (h : OwnE ok B w v L) (hb : Below w.heap.size w w') (hk : ∀ b, ok b → b < w.heap.size) (hi : ∀ b, ok b → ok' b) : OwnE ok' B w' v L := by
  obtain ⟨P, h1, h2⟩ := h
  exact ⟨P, rowE_below h1 hb, h2.imp hi (fun b o hb' => hb.cell (p := ⟨b, o, none⟩) (hk b hb'))⟩
theorem rowE_slice {B : Nat} {w : World} {v : Value} {P : List PT} (h : RowE B w v P) : ∃ a c, v = .slice a P.length c := by
  rcases h.2 with ⟨rfl, hz⟩ | ⟨g, cap, cur, rfl, _⟩
  · exact ⟨_, _, by rw [hz]⟩
  · exact ⟨_, _, rfl⟩
theorem ownE_slice {ok : Nat → Prop} {B : Nat} {w : World} {v : Value} {L : List ET} (h : OwnE ok B w v L) : ∃ a c, v = .slice a L.length c := by
  obtain ⟨P, h1, h2⟩ := h
  rw [← h2.1]
  exact rowE_slice h1
theorem ownE_nil (ok : Nat → Prop) (B : Nat) (w : World) : OwnE ok B w (.slice none 0 0) [] := ⟨[], World.ownsRow_nil _ _ _ _, rfl, fun j h => absurd h (by simp)⟩
theorem rowE_at {B : Nat} {w : World} {v : Value} {P : List PT} (h : RowE B w v P) (hl : P ≠ []) : ∃ g c, v = .slice (some ⟨g, 0, none⟩) P.length c ∧ B ≤ g ∧ g < w.heap.size ∧ ∀ j (hj : j < P.length), w.cell? ⟨g, j * 2, none⟩ = some (strV P[j].1) ∧ w.cell? ⟨g, j * 2 + 1, none⟩ = some P[j].2 := by
  have hc := fun g (hg : v.ownBlock = some g) => World.ownsRow.cells h hg
  rcases h.2 with ⟨rfl, hz⟩ | ⟨g, cap, cur, rfl, hB, hg, _⟩
  · exact absurd (List.eq_nil_of_length_eq_zero hz) hl
  · refine ⟨g, cap, rfl, hB, (Array.getElem?_eq_some_iff.1 hg).1, fun j hj => ?_⟩
    obtain ⟨g1, g2⟩ := cellsP_get P j hj
    have h1 := hc g rfl (j * 2) _ g1
    have h2 := hc g rfl (j * 2 + 1) _ g2
    have e1 : ((⟨g, 0, none⟩ : Addr).add (j * 2)) = ⟨g, j * 2, none⟩ := by simp [Addr.add]; omega
    have e2 : ((⟨g, 0, none⟩ : Addr).add (j * 2 + 1)) = ⟨g, j * 2 + 1, none⟩ := by simp [Addr.add]
    rw [e1] at h1
    rw [e2] at h2
    exact ⟨h1, h2⟩
theorem ownE_isE {ok : Nat → Prop} {B : Nat} {w : World} {v : Value} {L : List ET} (h : OwnE ok B w v L) (hl : L.length ≤ maxLen) (hk : ∀ b, ok b → b < w.heap.size) : IsE w.heap.size w L v := by
  obtain ⟨P, h1, h2⟩ := h
  by_cases hne : P = []
  · subst hne
    obtain ⟨a, c, hv⟩ := rowE_slice h1
    have : L = [] := List.eq_nil_of_length_eq_zero (by have := h2.1; simpa using this.symm)
    subst this
    exact ⟨a, c, hv, hl, fun j hj => absurd hj (by simp)⟩
  · obtain ⟨g, c, hv, _, hg, hc⟩ := rowE_at h1 hne
    refine ⟨_, c, by rw [hv, h2.1], hl, fun j hj => ?_⟩
    have hj' : j < P.length := by rw [h2.1]; exact hj
    obtain ⟨e1, e2⟩ := h2.2 j hj hj'
    refine ⟨g, 0, P[j].2, rfl, hg, ?_, ?_, e2.imp hk (fun _ _ _ => rfl)⟩
    · rw [Nat.zero_add, ← e1]; exact (hc j hj').1
    · rw [Nat.zero_add]; exact (hc j hj').2
theorem saysE_app {ok : Nat → Prop} {w : World} {P Q : List PT} {L M : List ET} (h : SaysE ok w P L) (hm : SaysE ok w Q M) : SaysE ok w (P ++ Q) (L ++ M) := by
  refine ⟨by simp [h.1, hm.1], fun j h1 h2 => ?_⟩
  by_cases hj : j < L.length
  · have hj' : j < P.length := by rw [h.1]; exact hj
    rw [List.getElem_append_left hj', List.getElem_append_left hj]
    exact h.2 j hj hj'
  · have hjP : ¬ j < P.length := by rw [h.1]; exact hj
    rw [List.getElem_append_right (by omega), List.getElem_append_right (by omega)]
    have e := h.1
    simp only [e]
    exact hm.2 _ (by simp at h1; omega) (by simp at h2; omega)
theorem isE_cells {n : Nat} {w : World} {L : List ET} {b off m c : Nat} (h : IsE n w L (.slice (some ⟨b, off, none⟩) m c)) : ∃ P : List PT, SaysE (fun b => b < n) w P L ∧ (L ≠ [] → b < n) ∧ ∀ j u, (cellsP P)[j]? = some u → w.cell? ((⟨b, off, none⟩ : Addr).add j) = some u := by
  obtain ⟨a', c2, hv, hm, h⟩ := h
  obtain ⟨rfl, rfl, rfl⟩ := Value.slice.inj hv
  have each : ∀ j, ∃ u : Value, (hj : j < L.length) → b < n ∧ w.cell? ⟨b, off + j * 2, none⟩ = some (strV L[j].1) ∧ w.cell? ⟨b, off + j * 2 + 1, none⟩ = some u ∧ IsAo (fun b => b < n) w L[j].2 u := fun j => by
    by_cases hj : j < L.length
    · obtain ⟨b2, off2, u, ha, hb, h0, h1, h2⟩ := h j hj
      have ha := Option.some.inj ha
      have e1 : b2 = b := (congrArg Addr.block ha).symm
      have e2 : off2 = off := (congrArg Addr.off ha).symm
      subst e1 e2
      exact ⟨u, fun _ => ⟨hb, h0, h1, h2⟩⟩
    · exact ⟨.bool true, fun h' => absurd h' hj⟩
  obtain ⟨f, hf⟩ := Classical.skolem.1 each
  refine ⟨(List.range L.length).map (fun j => ((L.getD j ([], [])).1, f j)), ⟨by simp, fun j h1 h2 => ?_⟩, fun hne => ?_, fun j u hu => ?_⟩
  · simp only [List.getElem_map, List.getElem_range]
    rw [getD_in _ _ h1]
    exact ⟨rfl, (hf j h1).2.2.2⟩
  · exact (hf 0 (List.length_pos_iff.2 hne)).1
  · have hlen := cellsP_length ((List.range L.length).map (fun j => ((L.getD j ([], [])).1, f j)))
    obtain ⟨hjl, _⟩ := List.getElem?_eq_some_iff.1 hu
    rw [hlen, List.length_map, List.length_range] at hjl
    have hq : j / 2 < L.length := by omega
    obtain ⟨g1, g2⟩ := cellsP_get ((List.range L.length).map (fun j => ((L.getD j ([], [])).1, f j))) (j / 2) (by simpa using hq)
    simp only [List.getElem_map, List.getElem_range] at g1 g2
    rw [getD_in _ _ hq] at g1
    obtain ⟨_, c0, c1, _⟩ := hf (j / 2) hq
    have hadd : (⟨b, off, none⟩ : Addr).add j = ⟨b, off + j, none⟩ := by unfold Addr.add; split <;> simp_all
    rw [hadd]
    rcases Nat.mod_two_eq_zero_or_one j with e | e
    · have ej : j = j / 2 * 2 := by omega
      rw [ej, g1] at hu
      rw [ej, c0, ← hu]
    · have ej : j = j / 2 * 2 + 1 := by omega
      rw [ej, g2] at hu
      rw [ej, show off + (j / 2 * 2 + 1) = off + j / 2 * 2 + 1 from by omega, c1, ← hu]
theorem cellsE_one {P : List PT} (h : ∀ j (hj : j < P.length), P[j].2.oneCell' = true) : ∀ u ∈ cellsP P, u.oneCell' = true := by
  induction P with
  | nil => intro u hu; cases hu
  | cons r P ih =>
    intro u hu
    rcases List.mem_cons.1 hu with rfl | hu
    · rfl
    · rcases List.mem_cons.1 hu with rfl | hu
      · exact h 0 (by simp)
      · exact ih (fun j hj => h (j + 1) (by simpa using hj)) u hu
theorem isAo_one {ok : Nat → Prop} {w : World} {L : List AT} {v : Value} (h : IsAo ok w L v) : v.oneCell' = true := by
  obtain ⟨a, c, rfl, _⟩ := h; rfl
theorem SaysE.one {ok : Nat → Prop} {w : World} {P : List PT} {L : List ET} (h : SaysE ok w P L) : ∀ u ∈ cellsP P, u.oneCell' = true :=
  cellsE_one fun j hj => isAo_one (h.2 j (by rw [← h.1]; exact hj) hj).2
theorem ownE_more {ok : Nat → Prop} {B : Nat} {w w' : World} {v v' : Value} {P Q : List PT} {L M : List ET} (hr : RowE B w v P) (hs : SaysE ok w P L) (hm : SaysE ok w Q M) (hr' : w'.ownsRow B 27 2 v' (P.length + Q.length) (cellsP P ++ cellsP Q)) (hg : w.grownBy w' v.ownBlock)
    (hk : ∀ b, ok b → b < w.heap.size ∧ some b ≠ v.ownBlock) : OwnE ok B w' v' (L ++ M) := by
  refine ⟨P ++ Q, ?_, (saysE_app hs hm).imp (fun _ h => h) (fun b o hb => by
    have := hg.block b (hk b hb).1 (hk b hb).2
    simp only [World.cell?, this])⟩
  unfold RowE
  rw [List.length_append, cellsP_append]
  exact hr'

theorem wpList_append_entries {ok : Nat → Prop} {ops : Array Oper} {rest : List Oper} {o : Oper} {a : Act} {w : World} {Q : Exit → Act → World → Prop} (hgd : o.guard = none) (sl x : Operand)
    (ho : o.op = .call { callee := .builtin .append, args := #[sl, x], argTypes := #[23, 23] })
    (base : Nat) (v : Value) (L M : List ET) (hs : a.eval sl = v) (b off m c : Nat) (hown : OwnE ok base w v L) (PM : List PT) (hm : SaysE ok w PM M) (hc : ∀ j u, (cellsP PM)[j]? = some u → w.cell? ((⟨b, off, none⟩ : Addr).add j) = some u) (hx : a.eval x = .slice (some ⟨b, off, none⟩) m c) (hml : m = M.length)
    (hk : ∀ b, ok b → b < w.heap.size ∧ some b ≠ v.ownBlock) (h63 : L.length + M.length ≤ 1000000) (hbase : base ≤ w.heap.size) (hm0 : M ≠ [])
    (h : ∀ v' w', OwnE ok base w' v' (L ++ M) → Below base w w' → w.grownBy w' v.ownBlock → (v'.ownBlock = v.ownBlock ∨ v'.ownBlock = some w.heap.size) → wpList Tryz.prog ops Q rest (a.put o.dst v') w') : wpList Tryz.prog ops Q (o :: rest) a w := by
  obtain ⟨i0, hi, hz0, hz1, hz2⟩ := info_parts infoE
  obtain ⟨P, hr, hsay⟩ := hown
  have hPL := hsay.1
  have hQ := hm.1
  have h0 : 0 < M.length := List.length_pos_iff.2 hm0
  refine wpList_append_own_at _ hgd sl x 23 ho base 27 i0 (.agg #[.string ⟨#[]⟩, .slice none 0 0]) 2 40 Tryz.underlying23 hi hz0 hz1 hz2 rfl (by decide) v P.length (cellsP P) hs hr ⟨b, off, none⟩ m c (cellsP PM) hx (by rw [cellsP_length, hQ, hml]) hc hm.one (by unfold maxLen; omega) (by omega) hbase ?_
  intro v' w' hown' hgrow _ hat
  rw [hml, ← hQ] at hown'
  refine h v' w' (ownE_more hr hsay hm hown' hgrow hk) ?_ hgrow hat
  exact (Below.refl base w).grown hgrow hbase (fun k e => (World.ownsRow.lt hr k e).1)
end Go.Proofs.YtpnbcmblnplbgaaGreatDoor


namespace Go.Proofs.YtpnbcmblnplbgaaGreatDoor
set_option linter.unusedVariables false

theorem escC_zero {f l : Bool} {c : UInt8} (h : kindC c = 0) : (escC f l c).length = 3 := by unfold escC; rw [if_pos h]; rfl
theorem escC_need {f l : Bool} {c : UInt8} (h : kindC c ≠ 0) (hn : needC c f l = true) : (escC f l c).length = 2 := by unfold escC; rw [if_neg h, if_pos hn]; rfl
theorem escC_one {f l : Bool} {c : UInt8} (h : kindC c ≠ 0) (hn : ¬ needC c f l = true) : (escC f l c).length = 1 := by unfold escC; rw [if_neg h, if_neg hn]; rfl
theorem escC_le3 (f l : Bool) (c : UInt8) : (escC f l c).length ≤ 3 := by unfold escC; split <;> (try split) <;> simp
theorem escC_le2 {f l : Bool} {c : UInt8} (h : kindC c ≠ 0) : (escC f l c).length ≤ 2 := by unfold escC; rw [if_neg h]; split <;> simp
theorem escC_ge1 (f l : Bool) (c : UInt8) : 1 ≤ (escC f l c).length := by unfold escC; split <;> (try split) <;> simp

theorem valN_empty {n : Nat} {f : Bool} {s : List UInt8} (h : valN n f s = some []) : s = [] := by
  cases n with
  | zero => unfold valN at h; split at h; assumption; cases h
  | succ n =>
    unfold valN at h
    split at h
    · assumption
    · split at h
      · cases h
      · cases hv : valN n false (s.drop (oneD f s).2) with
        | none => rw [hv] at h; cases h
        | some v => rw [hv] at h; simp at h
theorem valN_of_nil {n : Nat} {f : Bool} {v : List UInt8} (h : valN n f [] = some v) : v = [] := by
  cases n with
  | zero => simp [valN] at h; exact h
  | succ n => simp [valN] at h; exact h

theorem val_len : ∀ (n : Nat) (f : Bool) (s v : List UInt8), valN n f s = some v → (escR f v).length ≤ s.length
  | 0, f, s, v, h => by
    unfold valN at h
    split at h
    · cases h; simp [escR]
    · cases h
  | n + 1, f, s, v, h => by
    unfold valN at h
    split at h
    · cases h; simp [escR]
    · rename_i hne
      split at h
      · cases h
      · rename_i hk
        cases hv : valN n false (s.drop (oneD f s).2) with
        | none => rw [hv] at h; cases h
        | some v' =>
          rw [hv] at h
          simp only [Option.map_some, Option.some.injEq] at h
          subst h
          have ih := val_len n false _ _ hv
          rw [List.length_drop] at ih
          have key : (escC f v'.isEmpty (oneD f s).1).length ≤ (oneD f s).2 ∧ (oneD f s).2 ≤ s.length := by
            cases s with
            | nil => exact absurd rfl hne
            | cons a r =>
              by_cases h92 : a.toNat = 92
              · have e1 : oneD f (a :: r) = behD r := by simp only [oneD]; rw [if_pos h92]
                rw [e1] at hk ⊢
                cases r with
                | nil => exact absurd rfl hk
                | cons x r' =>
                  by_cases h2 : 2 ≤ kindC x
                  · rw [behD_free h2]
                    exact ⟨escC_le2 (by show kindC x ≠ 0; omega), by simp⟩
                  · cases r' with
                    | nil => rw [behD_nil h2] at hk; exact absurd rfl hk
                    | cons y r'' =>
                      rw [behD_hex h2] at hk ⊢
                      split
                      · exact ⟨escC_le3 _ _ _, by simp⟩
                      · rename_i hh
                        rw [if_neg hh] at hk
                        exact absurd rfl hk
              · by_cases hb : kindC a = 0 ∨ needC a f r.isEmpty = true
                · have e1 : oneD f (a :: r) = (0, 0) := by simp only [oneD]; rw [if_neg h92, if_pos hb]
                  rw [e1] at hk
                  exact absurd rfl hk
                · have e1 : oneD f (a :: r) = (a, 1) := by simp only [oneD]; rw [if_neg h92, if_neg hb]
                  rw [e1] at hv ⊢
                  have he : v'.isEmpty = r.isEmpty := by
                    simp only [List.drop_succ_cons, List.drop_zero] at hv
                    cases r with
                    | nil => rw [valN_of_nil hv]
                    | cons x y =>
                      cases v' with
                      | nil => exact absurd (valN_empty hv) (by simp)
                      | cons p q => rfl
                  rw [he]
                  refine ⟨?_, by simp⟩
                  have := escC_one (f := f) (l := r.isEmpty) (c := a) (fun e => hb (.inl e)) (fun e => hb (.inr e))
                  show (escC f r.isEmpty a).length ≤ 1
                  omega
          simp only [escR, List.length_append]
          omega
theorem cut_len : ∀ (s : List UInt8), (cutD s).1.length + (if (cutD s).2.2 = true then 1 + (cutD s).2.1.length else 0) ≤ s.length := by
  intro s
  induction s using cutD.induct with
  | case1 => simp [cutD]
  | case2 c r h => rw [cutD_com h]; simp; omega
  | case3 c h1 h2 => 
    have e : c = 92 := UInt8.toNat_inj.1 h2
    subst e
    simp [cutD]
  | case4 c h1 h2 x r ih =>
    have e : c = 92 := UInt8.toNat_inj.1 h2
    subst e
    rw [cutD_two]
    simp only [List.length_cons]
    split at ih <;> rename_i hh <;> simp only [hh, if_true, Bool.false_eq_true, if_false] at ih ⊢ <;> omega
  | case5 c r h1 h2 ih =>
    rw [cutD_one ⟨h1, h2⟩]
    simp only [List.length_cons]
    split at ih <;> rename_i hh <;> simp only [hh, if_true, Bool.false_eq_true, if_false] at ih ⊢ <;> omega
theorem rdn_len {s : List UInt8} {r : R} (h : rdnD s = some r) : (textR r).length ≤ s.length := by
  unfold rdnD at h
  split at h
  · split at h
    · rename_i v hv
      split at h
      · rename_i h2
        cases h
        have h3 := val_len _ _ _ _ hv
        have h4 : (nameD s).length + (s.dropWhile (· ≠ 61)).length = s.length := by
          have := congrArg List.length (List.takeWhile_append_dropWhile (p := (· ≠ (61 : UInt8))) (l := s))
          rw [List.length_append] at this
          exact this
        have h5 : afterD s ≠ [] := by
          intro e
          rw [e] at hv
          exact h2.1 (valN_of_nil hv)
        have h6 : (afterD s).length + 1 = (s.dropWhile (· ≠ 61)).length := by
          unfold afterD at h5 ⊢
          rw [List.length_drop]
          cases hd : s.dropWhile (· ≠ 61) with
          | nil => rw [hd] at h5; exact absurd rfl h5
          | cons a b => simp
        unfold textR escV
        simp only [List.length_append, List.length_cons]
        omega
      · cases h
    · cases h
  · cases h
theorem par_len : ∀ (k : Nat) (s : List UInt8) (l : List R), parN k s = some l → (textD l).length ≤ s.length
  | 0, s, l, h => by cases h
  | k + 1, s, l, h => by
    unfold parN at h
    split at h
    · cases h
    · rename_i r hr
      have hl := rdn_len hr
      have hc := cut_len s
      split at h
      · rename_i hm
        rw [if_pos hm] at hc
        cases hp : parN k (cutD s).2.1 with
        | none => rw [hp] at h; cases h
        | some l' =>
          rw [hp] at h
          simp only [Option.map_some, Option.some.injEq] at h
          subst h
          have ih := par_len k _ _ hp
          have hne := (par_ok k _ _ hp).2.2
          cases l' with
          | nil => exact absurd rfl hne
          | cons x y =>
            rw [text_cons]
            simp only [List.length_append, List.length_cons]
            omega
      · cases h
        show (textR r).length ≤ _
        omega
theorem parse_len {s : List UInt8} {l : List R} (h : parseD s = some l) : (textD l).length ≤ s.length := by
  unfold parseD at h
  split at h
  · cases h; simp [textD]
  · exact par_len 8 s l h

-- a folded value's text is no longer than the value's
def baseC (c : UInt8) : Nat := if kindC c = 0 then 3 else if kindC c = 5 then 2 else 1
def sumB (l : List UInt8) : Nat := (l.map baseC).sum
theorem sumB_app (a b : List UInt8) : sumB (a ++ b) = sumB a + sumB b := by simp [sumB]
theorem sumB_one (c : UInt8) : sumB [c] = baseC c := by simp [sumB]
theorem sumB_cons (c : UInt8) (l : List UInt8) : sumB (c :: l) = baseC c + sumB l := by simp [sumB]
theorem baseC_low (c : UInt8) : baseC (lowC c) = baseC c := by
  have := all_bytes (fun c => baseC (lowC c) == baseC c) (by decide +kernel) c
  simpa using this
theorem kind_spec (c : UInt8) : (kindC c = 4 → c.toNat = 32) ∧ (kindC c = 3 → c.toNat = 35) := by
  have := all_bytes (fun c => (!(kindC c == 4) || decide (c.toNat = 32)) && (!(kindC c == 3) || decide (c.toNat = 35))) (by decide +kernel) c
  simp only [Bool.and_eq_true, Bool.or_eq_true, Bool.not_eq_true', beq_eq_false_iff_ne, decide_eq_true_eq] at this
  exact ⟨fun h => this.1.resolve_left (fun e => e h), fun h => this.2.resolve_left (fun e => e h)⟩
theorem kind_of (c : UInt8) : (c.toNat = 32 → kindC c = 4) ∧ (c.toNat = 35 → kindC c = 3) := by
  have := all_bytes (fun c => (!decide (c.toNat = 32) || kindC c == 4) && (!decide (c.toNat = 35) || kindC c == 3)) (by decide +kernel) c
  simp only [Bool.and_eq_true, Bool.or_eq_true, Bool.not_eq_true', decide_eq_false_iff_not, beq_iff_eq] at this
  exact ⟨fun h => this.1.resolve_left (fun e => e h), fun h => this.2.resolve_left (fun e => e h)⟩
theorem esc_up : ∀ (w : List UInt8) (f : Bool), (∀ y, w.getLast? = some y → y.toNat ≠ 32) → (f = true → ∀ y, w.head? = some y → y.toNat ≠ 32) →
    (escR f w).length ≤ sumB w + (if f = true ∧ (∃ y, w.head? = some y ∧ y.toNat = 35) then 1 else 0)
  | [], f, _, _ => by simp [escR, sumB]
  | c :: r, f, hl, hh => by
    have ih := esc_up r false (fun y hy => by
      cases r with
      | nil => simp at hy
      | cons a b => exact hl y (by rw [List.getLast?_cons_cons]; exact hy)) (fun h => by cases h)
    simp only [Bool.false_eq_true, false_and, if_false, Nat.add_zero] at ih
    have hc : (escC f r.isEmpty c).length ≤ baseC c + (if f = true ∧ c.toNat = 35 then 1 else 0) := by
      by_cases h0 : kindC c = 0
      · rw [escC_zero h0]; unfold baseC; rw [if_pos h0]; omega
      · by_cases hn : needC c f r.isEmpty = true
        · rw [escC_need h0 hn]
          unfold baseC
          rw [if_neg h0]
          unfold needC at hn
          simp only [Bool.or_eq_true, beq_iff_eq, Bool.and_eq_true] at hn
          rcases hn with (h5 | ⟨h3, hf⟩) | ⟨h4, hfl⟩
          · rw [if_pos h5]; omega
          · rw [if_pos (⟨hf, (kind_spec c).2 h3⟩ : f = true ∧ c.toNat = 35)]; split <;> omega
          · exfalso
            have h32 := (kind_spec c).1 h4
            rcases hfl with hf | hlast
            · exact hh hf c rfl h32
            · cases r with
              | nil => exact hl c rfl h32
              | cons a b => simp at hlast
        · rw [escC_one h0 hn]; unfold baseC; rw [if_neg h0]; split <;> omega
    simp only [escR, List.length_append, sumB_cons]
    have e : (f = true ∧ ∃ y, (c :: r).head? = some y ∧ y.toNat = 35) ↔ (f = true ∧ c.toNat = 35) := by simp
    simp only [e]
    omega
theorem esc_low : ∀ (v : List UInt8) (f : Bool), sumB v + (if f = true ∧ (∃ y, v.head? = some y ∧ (y.toNat = 35 ∨ y.toNat = 32)) then 1 else 0) ≤ (escR f v).length
  | [], f => by simp [escR, sumB]
  | c :: r, f => by
    have ih := esc_low r false
    simp only [Bool.false_eq_true, false_and, if_false, Nat.add_zero] at ih
    have hc : baseC c + (if f = true ∧ (c.toNat = 35 ∨ c.toNat = 32) then 1 else 0) ≤ (escC f r.isEmpty c).length := by
      by_cases hx : f = true ∧ (c.toNat = 35 ∨ c.toNat = 32)
      · rw [if_pos hx]
        have hk : (kindC c = 3 ∨ kindC c = 4) := by
          rcases hx.2 with h | h
          · exact .inl ((kind_of c).2 h)
          · exact .inr ((kind_of c).1 h)
        have hn : needC c f r.isEmpty = true := by
          unfold needC
          rw [hx.1]
          rcases hk with h | h <;> simp [h]
        have h0 : kindC c ≠ 0 := by omega
        rw [escC_need h0 hn]
        unfold baseC
        rw [if_neg h0, if_neg (by omega)]
        omega
      · rw [if_neg hx]
        unfold baseC
        by_cases h0 : kindC c = 0
        · rw [if_pos h0, escC_zero h0]; omega
        · rw [if_neg h0]
          by_cases h5 : kindC c = 5
          · rw [if_pos h5, escC_need h0 (by unfold needC; simp [h5])]; omega
          · rw [if_neg h5]; have := escC_ge1 f r.isEmpty c; omega
    simp only [escR, List.length_append, sumB_cons]
    have e : (f = true ∧ ∃ y, (c :: r).head? = some y ∧ (y.toNat = 35 ∨ y.toNat = 32)) ↔ (f = true ∧ (c.toNat = 35 ∨ c.toNat = 32)) := by simp
    simp only [e]
    omega
theorem frun_sum : ∀ l : List UInt8, sumB (frun l).1 + (if (frun l).2 = true then 1 else 0) ≤ sumB l := by
  refine snoc_ind (by simp [frun, sumB]) ?_
  intro l c ih
  rw [frun_snoc, sumB_app, sumB_one]
  by_cases h : c.toNat = 32
  · rw [fstep_blank _ _ h]
    have hb : baseC c = 1 := by unfold baseC; rw [(kind_of c).1 h]; rfl
    rw [hb]
    dsimp only
    split <;> split at ih <;> omega
  · rw [fstep_other _ _ h]
    simp only [sumB_app, sumB_one, baseC_low]
    have : sumB (if (frun l).2 = true then ([32] : List UInt8) else []) = if (frun l).2 = true then 1 else 0 := by
      split
      · rw [sumB_one]; decide
      · rfl
    rw [this]
    simp only [Bool.false_eq_true, if_false]
    omega
theorem frun_first : ∀ l : List UInt8, ∀ y, (frun l).1.head? = some y → y.toNat ≠ 32 := by
  refine snoc_ind (by simp [frun]) ?_
  intro l c ih y hy
  rw [frun_snoc] at hy
  by_cases h : c.toNat = 32
  · rw [fstep_blank _ _ h] at hy
    exact ih y hy
  · rw [fstep_other _ _ h] at hy
    cases ho : (frun l).1 with
    | nil =>
      have hg : (frun l).2 = false := by
        cases hw : (frun l).2 with
        | false => rfl
        | true => exact absurd ho (frun_gap l hw)
      rw [ho, hg] at hy
      simp at hy
      rw [← hy]
      exact fun e => h ((lowC_blank c).1 e)
    | cons a b =>
      rw [ho] at hy
      simp at hy
      exact ih y (by rw [ho]; simpa using hy)
theorem foldl_head : ∀ (r : List UInt8) (st : List UInt8 × Bool) (x : UInt8), st.1.head? = some x → (r.foldl fstep st).1.head? = some x
  | [], _, _, h => h
  | c :: r, st, x, h => by
    rw [List.foldl_cons]
    refine foldl_head r _ x ?_
    unfold fstep
    split
    · exact h
    · cases hs : st.1 with
      | nil => rw [hs] at h; cases h
      | cons a b => rw [hs] at h; simpa using h
theorem fold_head {c : UInt8} {r : List UInt8} (h : c.toNat ≠ 32) : (fold (c :: r)).head? = some (lowC c) := by
  unfold fold frun
  rw [List.foldl_cons]
  refine foldl_head r _ _ ?_
  rw [fstep_other _ _ h]; rfl
theorem esc_fold (v : List UInt8) : (escV (fold v)).length ≤ (escV v).length := by
  have h1 := esc_up (fold v) true (frun_spaced v).2 (fun _ => frun_first v)
  have h2 := esc_low v true
  have h3 := frun_sum v
  have h3' : sumB (fold v) ≤ sumB v := by unfold fold; split at h3 <;> omega
  unfold escV
  by_cases hx : ∃ y, (fold v).head? = some y ∧ y.toNat = 35
  · rw [if_pos ⟨rfl, hx⟩] at h1
    have hv : ∃ y, v.head? = some y ∧ (y.toNat = 35 ∨ y.toNat = 32) := by
      obtain ⟨y, hy, h35⟩ := hx
      cases v with
      | nil => simp [fold, frun] at hy
      | cons c r =>
        refine ⟨c, rfl, ?_⟩
        by_cases h32 : c.toNat = 32
        · exact .inr h32
        · rw [fold_head h32] at hy
          simp only [Option.some.injEq] at hy
          rw [← hy, lowC_toNat] at h35
          split at h35
          · omega
          · exact .inl h35
    rw [if_pos ⟨rfl, hv⟩] at h2
    omega
  · rw [if_neg (fun e => hx e.2)] at h1
    split at h2 <;> omega
theorem text_norm_len : ∀ l : List R, (textD (l.map normR)).length ≤ (textD l).length
  | [] => by simp [textD]
  | [r] => by
    show (textR (normR r)).length ≤ (textR r).length
    have := esc_fold r.2
    unfold textR normR
    simp only [List.length_append, List.length_cons, low_length]
    omega
  | r :: x :: l => by
    have ih := text_norm_len (x :: l)
    have := esc_fold r.2
    rw [List.map_cons, List.map_cons, text_cons, text_cons]
    rw [List.map_cons] at ih
    have e : (textR (normR r)).length ≤ (textR r).length := by
      unfold textR normR
      simp only [List.length_append, List.length_cons, low_length]
      omega
    simp only [List.length_append, List.length_cons]
    omega
theorem normR_norm (r : R) : normR (normR r) = normR r := by simp [normR, low_low, fold_fold]
theorem key_key {v k : List UInt8} (h : keyD v = some k) : keyD k = some k ∧ k.length ≤ v.length := by
  unfold keyD at h
  cases hp : parseD v with
  | none => rw [hp] at h; cases h
  | some l =>
    rw [hp] at h
    simp only at h
    split at h
    · rename_i hf
      cases h
      have hok := parse_ok hp
      have h1 := okL_norm hok hf
      have h2 : (l.map normR).all okF = true := by
        rw [List.all_map]
        have : (okF ∘ normR) = okF := by funext r; simp [okF, normR, fold_fold]
        rw [this]; exact hf
      have h3 := key_text h1 h2
      have h4 : (l.map normR).map normR = l.map normR := by
        rw [List.map_map]
        congr 1
        funext r
        exact normR_norm r
      rw [h4] at h3
      exact ⟨h3, Nat.le_trans (text_norm_len l) (parse_len hp)⟩
    · cases h
end Go.Proofs.YtpnbcmblnplbgaaGreatDoor


namespace Go.Proofs.YtpnbcmblnplbgaaGreatDoor
open Go.RowKit
set_option linter.unusedVariables false

def keyB (o : Option (List UInt8)) : ByteArray := ofL (o.getD [])
theorem keyV_kB (o : Option (List UInt8)) : keyV o = .tuple #[.string (keyB o), .bool o.isSome] := by cases o <;> rfl
theorem saidV_kB (o : Option (List UInt8)) : saidV o = .agg #[.string (keyB o), .bool o.isSome] := by cases o <;> rfl
theorem keyB_list (o : Option (List UInt8)) : (keyB o).data.toList = o.getD [] := ofL_list _
theorem keyB_size (D : List UInt8) : (keyB (keyD D)).size ≤ D.length := by
  cases e : keyD D with
  | none => exact Nat.zero_le _
  | some k => exact (by rw [← bytes_len, keyB_list]; exact (key_key e).2)
theorem kE_len (e : ET) : (kE e).length ≤ e.1.length := by
  unfold kE
  cases h : keyD e.1 with
  | none => exact Nat.zero_le _
  | some k => exact (key_key h).2
theorem fieldK_said0 (w : World) (s : ByteArray) (b : Bool) : (Instr.field 60 (.agg #[.string s, .bool b]) 0).run Tryz.prog w = .ok (.string s) w := by kernel_rfl

set_option maxRecDepth 100000 in
set_option maxHeartbeats 2000000 in
theorem treeKey_any (D : ByteArray) (hD : D.size ≤ 100000) (a : Option Addr) (n c : Nat) (w : World) :
    Calls Tryz.prog 37 #[.agg #[.string D, .slice a n c]] w fun e w' => e = .returned (.string (keyB (keyD D.data.toList))) ∧ Below w.heap.size w w' := by
  have hk := fun w => key_any D (by omega) w
  obtain ⟨o, ho⟩ : ∃ o, o = keyD D.data.toList := ⟨_, rfl⟩
  rw [← ho] at hk ⊢
  simp only [keyV_kB] at hk
  obtain ⟨K, hK⟩ : ∃ K, K = keyB o := ⟨_, rfl⟩
  obtain ⟨b, hb⟩ : ∃ b, b = o.isSome := ⟨_, rfl⟩
  rw [← hK, ← hb] at hk
  rw [← hK]
  have HK := Lib.hid hk
  have HA := Lib.hid (Below.alloc (Below.refl w.heap.size w) (Nat.le_refl _) (.cells #[.string D, .slice a n c] 27))
  clear hk hK ho hb
  go_enter Tryz.func37, Tryz.ntmps37
  go_wp2_with (go_at_call 57; refine (HK.out _).mono ?_; rintro e w2 ⟨rfl, hb2⟩; have HB2 := Lib.hid (bthen HA.out hb2); clear hb2)
  go_ret
  exact ⟨rfl, HB2.out⟩

set_option maxRecDepth 100000 in
set_option maxHeartbeats 2000000 in
theorem keyR_any (D : ByteArray) (hD : D.size ≤ 100000) (a : Option Addr) (n c : Nat) (w : World) :
    Calls Tryz.prog 6 #[.agg #[.string D, .slice a n c]] w fun e w' => e = .returned (.string (keyB (keyD D.data.toList))) ∧ Below w.heap.size w w' := by
  have hk := fun w => keyRef_any D hD w
  obtain ⟨o, ho⟩ : ∃ o, o = keyD D.data.toList := ⟨_, rfl⟩
  rw [← ho] at hk ⊢
  simp only [saidV_kB] at hk
  obtain ⟨K, hK⟩ : ∃ K, K = keyB o := ⟨_, rfl⟩
  obtain ⟨b, hb⟩ : ∃ b, b = o.isSome := ⟨_, rfl⟩
  rw [← hK, ← hb] at hk
  rw [← hK]
  have HK := Lib.hid hk
  have HA := Lib.hid (Below.alloc (Below.refl w.heap.size w) (Nat.le_refl _) (.cells #[.string D, .slice a n c] 27))
  have hfl := fieldK_said0
  clear hk hK ho hb
  go_enter Tryz.func6, Tryz.ntmps6
  go_wp2_with (go_at_call 20; refine (HK.out _).mono ?_; rintro e w2 ⟨rfl, hb2⟩; have HB2 := Lib.hid (bthen HA.out hb2); clear hb2)
  go_ret
  exact ⟨rfl, HB2.out⟩
end Go.Proofs.YtpnbcmblnplbgaaGreatDoor


namespace Go.Proofs.YtpnbcmblnplbgaaGreatDoor
open Go.RowKit
set_option linter.unusedVariables false

def ownOk (B : Nat) (w : World) (v : Value) (b : Nat) : Prop := B ≤ b ∧ b < w.heap.size ∧ some b ≠ v.ownBlock
def OwnN (B : Nat) (w : World) (v : Value) (L : List ET) : Prop := OwnE (ownOk B w v) B w v L
theorem newsE (w : World) (x0 x1 : Value) : ∀ j u, [x0, x1][j]? = some u → (w.alloc (.cells #[x0, x1] 27)).cell? ((⟨w.heap.size, 0, none⟩ : Addr).add j) = some u := by
  intro j u hu
  have h : (w.alloc (.cells #[x0, x1] 27)).heap[w.heap.size]? = some (.cells #[x0, x1] 27 (0, 0)) := heap_alloc_new w _
  have hadd : (⟨w.heap.size, 0, none⟩ : Addr).add j = ⟨w.heap.size, j, none⟩ := by unfold Addr.add; split <;> simp_all
  rw [hadd]
  simp only [World.cell?, h]
  simpa using hu
def smallE (L : List ET) : Prop := L.length ≤ 1000 ∧ ∀ e ∈ L, e.1.length ≤ 100000 ∧ smallA e.2

end Go.Proofs.YtpnbcmblnplbgaaGreatDoor


namespace Go.Proofs.YtpnbcmblnplbgaaGreatDoor
open Go.RowKit Go.Maps
set_option linter.unusedVariables false

theorem mapLaw : Keyed Tryz.prog 9 := string_keyed Tryz.underlying9
theorem zeroInt (w : World) : (zeroValue 3).run Tryz.prog w = .ok (.int .i64 0) w := by kernel_rfl
theorem keyLit (K : ByteArray) (h : K.size ≤ maxLen) : keyOf Tryz.prog 9 (.string K) = some (kLit K.data.toList) := WideMaps.keyOf_string_mk Tryz.underlying9 h
structure FillAt (B : Nat) (w : World) (kv mv : Value) (KS : List KL) : Prop where
  keys : OwnS (B + 1) w kv KS
  map : ∃ m n D, mv = .map (some m) ∧ B ≤ m ∧ n ≤ 100000 ∧ w.ownsMap Tryz.prog 9 (plainElem (H := Unit) Tryz.prog 3) m n D ∧ PlD KS D
theorem FillAt.kept {B : Nat} {w w' : World} {kv mv : Value} {KS : List KL} {b : Nat} (h : FillAt B w kv mv KS) (hg : w.grownBy w' (some b)) (hb : b < B) : FillAt B w' kv mv KS := by
  obtain ⟨m, n, D, e, hm, hn, ho, hp⟩ := h.map
  refine ⟨World.ownsRow.kept h.keys hg ?_, m, n, D, e, hm, hn, ho.kept hg (fun e => by have := Option.some.inj e; omega), hp⟩
  cases ek : kv.ownBlock with
  | none => exact .inl rfl
  | some g =>
    refine .inr fun e => ?_
    have := Option.some.inj e
    have := (World.ownsRow.lt h.keys g ek).1
    omega
theorem FillAt.below {B : Nat} {w w' : World} {kv mv : Value} {KS : List KL} (h : FillAt B w kv mv KS) (hb : Below w.heap.size w w') : FillAt B w' kv mv KS := by
  obtain ⟨m, n, D, e, hm, hn, ho, hp⟩ := h.map
  exact ⟨ownS_below h.keys hb, m, n, D, e, hm, hn, ho.kept (grown_below (r := none) hb) (by simp), hp⟩
theorem FillAt.drew {B : Nat} {w : World} {kv mv : Value} {KS : List KL} (h : FillAt B w kv mv KS) : FillAt B w.drew kv mv KS := h.below (Below.drew (Below.refl _ _))

structure FiAt (w : World) (b : Nat) (lv : Value) (KS : List KL) (j : Nat) (wr : World) : Prop where
  ex : ∃ kv D, BoxX wr b lv 0 1 kv (.map (some w.heap.size)) ∧ OwnS (w.heap.size + 1) wr kv (KS.take j) ∧ wr.ownsMap Tryz.prog 9 (plainElem (H := Unit) Tryz.prog 3) w.heap.size j D ∧ PlD (KS.take j) D
  grown : w.grownBy wr (some b)
  size : w.heap.size + 1 ≤ wr.heap.size

set_option maxRecDepth 100000 in
set_option maxHeartbeats 4000000 in
theorem fill_any (L : List ET) (hs : smallE L) (b : Nat) (lv : Value) (w : World) (hbx : BoxX w b lv 0 1 (.slice none 0 0) (.map none)) (h : IsE b w L lv) :
    Calls Tryz.prog 106 #[.pointer (some ⟨b, 0, none⟩)] w fun e w' => e = .returned (.tuple #[]) ∧ ∃ kv mv, BoxX w' b lv 0 1 kv mv ∧ FillAt w.heap.size w' kv mv (keysE L) ∧ w.grownBy w' (some b) := by
  obtain ⟨a, c, rfl, hm, hcell⟩ := h
  unfold maxLen at hm
  have hbl := hbx.lt
  have HC := Lib.hid hcell
  have HS := Lib.hid hs
  have hL := hs.1
  obtain ⟨c0, c1, c2, c4, c5⟩ := hbx.cells
  have z5 := hbx.free 5
  have hmm := @run_makeMap Tryz.prog
  have hst : FiAt w b (.slice a L.length c) (keysE L) 0 ((w.alloc (.map #[] 0)).setCell ⟨b, 5, none⟩ (.map (some w.heap.size))) := by
    have hA : Below w.heap.size w (w.alloc (.map #[] 0)) := (Below.refl _ _).alloc (Nat.le_refl _) _
    refine ⟨⟨.slice none 0 0, .map [], (hbx.below hA).set5, ownS_nil _ _, ?_, plD_nil⟩, (grown_below hA).trans (grown_set _), by simp [World.setCell]⟩
    exact ((World.ownsMap_made w Tryz.prog 9 (plainElem (H := Unit) Tryz.prog 3)).kept (grown_set (b := b) (i := 5) _) (fun e => by have := Option.some.inj e; omega))
  have HSt := Lib.hid hst
  clear hcell hs c1 c2 hbx hst
  go_enter Tryz.func106, Tryz.ntmps106
  go_upto_region 1 with (fail)
  obtain ⟨W, hW⟩ : ∃ W, W = (w.setCell ⟨b, 5, none⟩ (.map (some w.heap.size))).alloc (.map #[] 0) := ⟨_, rfl⟩
  rw [← hW]
  rw [← World.setCell_alloc_past (w := w) (.map #[] 0) b 5 (.map (some w.heap.size)) hbl] at hW
  have HW : Hid (FiAt w b (.slice a L.length c) (keysE L) 0 W) := Lib.hid (by rw [hW]; exact HSt.out)
  clear hW
  obtain ⟨kv0, D0, hb0, _, _, _⟩ := HW.out.ex
  have d0 := hb0.cells.1
  clear hb0 c0 c4 c5 z5
  go_wp2_with (fail)
  go_loopw [16] (fun i wr => ∃ j : Nat, j ≤ L.length ∧ i = .int .i64 j ∧ FiAt w b (.slice a L.length c) (keysE L) j wr) (fun i wr => L.length - (intOf i).toNat)
  case atStart => exact ⟨0, by omega, rfl, HW.out⟩
  case round =>
    clear d0
    obtain ⟨j, hj, rfl, hat⟩ := hrel
    obtain ⟨⟨kv, D, hbx, hown, hmap, hpl⟩, hgr, hsz⟩ := hat
    have hjk : j ≤ (keysE L).length := by rw [keysE_len]; exact hj
    have htl : ((keysE L).take j).length = j := by rw [List.length_take]; omega
    obtain ⟨ka, kc, hkv⟩ := ownS_slice hown
    rw [htl] at hkv
    subst hkv
    have HTl := Lib.hid htl
    have HGr := Lib.hid hgr
    have hbel := below_ofGrown hgr (by omega)
    have HBel := Lib.hid hbel
    have hrs := hgr.size
    by_cases hlt : j < L.length
    · have t1 : decide ((j : Int) < (L.length : Int)) = true := by simp; omega
      have t1' : decide (j < L.length) = true := by simpa using hlt
      obtain ⟨bb, off, u, rfl, hb0, c0, c1, ht⟩ := HC.out j hlt
      obtain ⟨ua, uc, hu, _⟩ := id ht
      obtain ⟨un, hun⟩ : ∃ n, n = L[j].2.length := ⟨_, rfl⟩
      rw [← hun] at hu
      subst hu
      obtain ⟨X, hX⟩ : ∃ X : ByteArray, ⟨L[j].1.toArray⟩ = X := ⟨_, rfl⟩
      have hXl : X.data.toList = L[j].1 := by rw [← hX]
      have d0 : (wr.cell? ⟨bb, off + j * 2, none⟩) = some (.string X) := by
        rw [hbel.cell (p := ⟨bb, _, none⟩) hb0, c0, ← hX]; rfl
      have d1 := (hbel.cell (p := ⟨bb, off + j * 2 + 1, none⟩) hb0).trans c1
      have hXs : X.size ≤ 100000 := by
        have := (HS.out.2 L[j] (List.getElem_mem _)).1
        rw [← bytes_len, hXl]; omega
      have hkey := fun W => treeKey_any X hXs ua un uc W
      obtain ⟨K, hK⟩ : ∃ K, K = keyB (keyD X.data.toList) := ⟨_, rfl⟩
      rw [← hK] at hkey
      have hKl : K.data.toList = kE L[j] := by rw [hK, keyB_list, hXl]; rfl
      have hKs : K.size ≤ 100000 := by
        have := keyB_size X.data.toList
        rw [← hK, bytes_len] at this
        omega
      have HKey := Lib.hid hkey
      have hnew : (keysE L).take (j + 1) = (keysE L).take j ++ [K.data.toList] := by
        rw [List.take_succ_eq_append_getElem (by rw [keysE_len]; exact hlt), keysE_at L j hlt, hKl]
      have HNew := Lib.hid hnew
      -- the box of the entry
      obtain ⟨W1, hW1⟩ : ∃ W1, W1 = wr.alloc (.cells #[.string X, .slice ua un uc] 27) := ⟨_, rfl⟩
      have hb1 : Below wr.heap.size wr W1 := by rw [hW1]; exact (Below.refl _ _).alloc (Nat.le_refl _) _
      have f0 : W1.cell? ⟨wr.heap.size, 0, none⟩ = some (.string X) := by rw [hW1]; simp
      have f1 : W1.cell? ⟨wr.heap.size, 1, none⟩ = some (.slice ua un uc) := by rw [hW1]; simp
      have HB1 := Lib.hid hb1
      have HBx := Lib.hid hbx
      have HOwn := Lib.hid hown
      have HMap := Lib.hid hmap
      have HPl := Lib.hid hpl
      clear hKl hK hX hXl c0 c1 ht hun hkey hnew hbx hown hmap hpl hgr hbel hb1 HBel
      go_upto_region 4 with (fail)
      rw [← hW1]
      clear hW1 d0 d1
      go_upto_region 5 with (go_at_call 37; refine (HKey.out _).mono ?_; rintro e w2 ⟨rfl, hb2⟩; have HB2 := Lib.hid (bthen HB1.out hb2); clear hb2)
      clear f0 f1
      have HBx2 := Lib.hid (HBx.out.below HB2.out)
      have HOwn2 := Lib.hid (ownS_below HOwn.out HB2.out)
      have HMap2 := Lib.hid (HMap.out.kept (grown_below (r := none) HB2.out) (by simp))
      have HGr2 := Lib.hid (HGr.out.trans (grown_below HB2.out))
      obtain ⟨g0, _, _, g4, g5⟩ := HBx2.out.cells
      have hw2 := HB2.out.size
      have hhas := (HPl.out.2 K.data.toList).1
      have hlit := keyLit K (by unfold maxLen; omega)
      have HLit := Lib.hid hlit
      obtain ⟨bh, hbh⟩ : ∃ bh, has D (kLit K.data.toList) = bh := ⟨_, rfl⟩
      rw [hbh] at hhas
      have HHas := Lib.hid hhas
      have hbh' : Maps.has D (kLit K.data.toList) = bh := hbh
      have HBh := Lib.hid hbh
      clear hhas hlit hbh
      go_upto_region 6 with (at_builtin; refine wpList_append_text rfl (.tmp 27) (.tmp 29) rfl (w.heap.size + 1) (.slice ka j kc) ((keysE L).take j) rfl K HOwn2.out rfl (by rw [HTl.out]; omega) (by omega) ?_; intro v5 w5 hown5 hb5; (obtain ⟨va, vc, hv5⟩ := ownS_slice hown5); (obtain ⟨vn, hvn⟩ : ∃ n, n = ((keysE L).take j ++ [K.data.toList]).length := ⟨_, rfl⟩); rw [← hvn] at hv5; subst hv5; have HO5 := Lib.hid hown5; have HB5 := Lib.hid hb5; have HBx5 := Lib.hid (HBx2.out.same (hb5.block _ (by omega))); have z4 := HBx5.out.free 4; have g4' := HBx5.out.cells.2.2.2.1; clear hown5 hb5 hvn)
      obtain ⟨w6, hw6⟩ : ∃ W, W = w5.setCell ⟨b, 4, none⟩ (.slice va vn vc) := ⟨_, rfl⟩
      rw [← hw6]
      have HBx6 : Hid (BoxX w6 b (.slice (some ⟨bb, off, none⟩) L.length c) 0 1 (.slice va vn vc) (.map (some w.heap.size))) := Lib.hid (by rw [hw6]; exact HBx5.out.set4)
      have hmb5 : w2.heap.size ≤ w5.heap.size := HB5.out.size
      have HMap6 : Hid (w6.ownsMap Tryz.prog 9 (plainElem (H := Unit) Tryz.prog 3) w.heap.size j D) := Lib.hid (by
        rw [hw6]
        have h5 : w5.ownsMap Tryz.prog 9 (plainElem (H := Unit) Tryz.prog 3) w.heap.size j D := by
          obtain ⟨es, ck, hb, r⟩ := HMap2.out
          exact ⟨es, ck, (HB5.out.block _ (by omega)).trans hb, r⟩
        exact h5.kept (grown_set (b := b) (i := 4) _) (fun e => by have := Option.some.inj e; omega))
      have HOwn6 : Hid (OwnS (w.heap.size + 1) w6 (.slice va vn vc) ((keysE L).take (j + 1))) := Lib.hid (by
        rw [HNew.out, hw6]
        exact World.ownsRow.kept HO5.out (grown_set (b := b) (i := 4) _) (by
          cases va with
          | none => exact .inl rfl
          | some ad =>
              refine .inr fun e => ?_
              have h1 := (World.ownsRow.lt HO5.out ad.block rfl).1
              have h2 : ad.block = b := Option.some.inj e
              omega))
      have HGr6 : Hid (w.grownBy w6 (some b)) := Lib.hid (by
        rw [hw6]
        refine World.grownBy.trans (b := w5) ?_ (grown_set _)
        exact ⟨HB5.out.os.trans HGr2.out.os, HB5.out.tape.trans HGr2.out.tape, HB5.out.output.trans HGr2.out.output, Nat.le_trans HGr2.out.size HB5.out.size, fun k hk hne => (HB5.out.block k (by omega)).trans (HGr2.out.block k hk hne)⟩)
      have hz6 : w.heap.size + 1 ≤ w6.heap.size := by rw [hw6]; simp [World.setCell]; omega
      clear hw6 g0 g4 g5 z4 g4'
      obtain ⟨_, _, _, x4, x5⟩ := HBx6.out.cells
      have hval : plainElem (H := Unit) Tryz.prog 3 (.int .i64 (j : Int)) = some (.lit (.int .i64 (j : Int)), []) := plainElem_int Tryz.underlying3 (WalkArith.wf_i64 ⟨by omega, by omega⟩)
      have HVal := Lib.hid hval
      clear hval
      by_cases hne : K.data.toList = []
      · obtain ⟨e1, e2⟩ := bytes_nil hne
        have e3 : (K.toList == []) = true := by rw [e1]; rfl
        have hbf : bh = false := by have := HHas.out; rw [hne] at this; simpa using this
        subst hbf
        have HP : Hid (PlD ((keysE L).take (j + 1)) D) := Lib.hid (by rw [HNew.out, hne]; exact plD_skip HPl.out (.inr rfl))
        clear hne
        go_wp2_with (at_lookup; refine wpList_lookup_own_ok_int _ rfl _ _ 119 rfl 9 3 .i64 mapLaw Tryz.underlying119 Tryz.underlying3 (zeroInt _) w.heap.size j D rfl HMap6.out _ _ rfl HLit.out ?_; intro cc hat hwc; have HAt := Lib.hid hat; clear hat hwc)
        go_roundw
        case rel => exact ⟨j + 1, by omega, by go_num, ⟨⟨_, _, HBx6.out, HOwn6.out, HMap6.out.mono (by omega), HP.out⟩, HGr6.out, hz6⟩⟩
        case measure => simp [intOf]; omega
      · obtain ⟨e1, e2⟩ := bytes_some hne
        have e3 : (K.toList == []) = false := by simpa using e1
        cases bh with
        | true =>
          have HP : Hid (PlD ((keysE L).take (j + 1)) D) := Lib.hid (by rw [HNew.out]; exact plD_skip HPl.out (.inl HHas.out.symm))
          clear hne
          go_wp2_with (at_lookup; refine wpList_lookup_own_ok_int _ rfl _ _ 119 rfl 9 3 .i64 mapLaw Tryz.underlying119 Tryz.underlying3 (zeroInt _) w.heap.size j D rfl HMap6.out _ _ rfl HLit.out ?_; intro cc hat hwc; have HAt := Lib.hid hat; clear hat hwc)
          go_roundw
          case rel => exact ⟨j + 1, by omega, by go_num, ⟨⟨_, _, HBx6.out, HOwn6.out, HMap6.out.mono (by omega), HP.out⟩, HGr6.out, hz6⟩⟩
          case measure => simp [intOf]; omega
        | false =>
          have HP : Hid (PlD ((keysE L).take (j + 1)) (D.put (kLit K.data.toList) (.lit (.int .i64 (j : Nat))))) := Lib.hid (by
            have := plD_put HPl.out hne HBh.out
            rwa [HTl.out, ← HNew.out] at this)
          clear hne
          go_wp2_with (first
            | (at_lookup; refine wpList_lookup_own_ok_int _ rfl _ _ 119 rfl 9 3 .i64 mapLaw Tryz.underlying119 Tryz.underlying3 (zeroInt _) w.heap.size j D rfl HMap6.out _ _ rfl HLit.out ?_; intro cc hat hwc; have HAt := Lib.hid hat; clear hat hwc)
            | (at_mapUpdate; refine wpList_mapUpdate_own _ rfl _ _ _ 119 rfl 9 3 mapLaw Tryz.underlying119 _ w.heap.size j D rfl HMap6.out (by unfold maxLen; omega) _ _ (kLit K.data.toList) rfl rfl HLit.out (.lit (.int .i64 (j : Nat))) [] HVal.out ?_; intro w7 hown7 hg7; have HM7 := Lib.hid hown7; have HG7 := Lib.hid hg7; clear hown7 hg7))
          go_roundw
          case rel =>
            refine ⟨j + 1, by omega, by go_num, ⟨⟨.slice va vn vc, _, HBx6.out.same (HG7.out.block _ (by omega) (fun e => by have := Option.some.inj e; omega)), World.ownsRow.kept HOwn6.out HG7.out ?_, HM7.out, HP.out⟩, ?_, Nat.le_trans hz6 HG7.out.size⟩⟩
            · cases va with
              | none => exact .inl rfl
              | some ad =>
                  refine .inr fun e => ?_
                  have h1 := (World.ownsRow.lt HOwn6.out ad.block rfl).1
                  have h2 : ad.block = w.heap.size := Option.some.inj e
                  omega
            · exact ⟨HG7.out.os.trans HGr6.out.os, HG7.out.tape.trans HGr6.out.tape, HG7.out.output.trans HGr6.out.output, Nat.le_trans HGr6.out.size HG7.out.size, fun k hk hne => (HG7.out.block k (by omega) (fun e => by have := Option.some.inj e; omega)).trans (HGr6.out.block k hk hne)⟩
          case measure => simp [intOf]; omega
    · obtain rfl : j = L.length := by omega
      have t1 : decide ((L.length : Int) < (L.length : Int)) = false := by simp
      have t1' : decide (L.length < L.length) = false := by simp
      have HF : Hid (∃ kv mv, BoxX wr b (.slice a L.length c) 0 1 kv mv ∧ FillAt w.heap.size wr kv mv (keysE L) ∧ w.grownBy wr (some b)) := Lib.hid ⟨_, _, hbx, ⟨by have := hown; rwa [List.take_of_length_le (by rw [keysE_len]; exact Nat.le_refl _)] at this, w.heap.size, _, D, rfl, Nat.le_refl _, by omega, hmap, by rwa [List.take_of_length_le (by rw [keysE_len]; exact Nat.le_refl _)] at hpl⟩, hgr⟩
      clear hbx hown hmap hpl hgr hbel
      go_wp2
      go_end0
      exact ⟨rfl, HF.out⟩
end Go.Proofs.YtpnbcmblnplbgaaGreatDoor


namespace Go.Proofs.YtpnbcmblnplbgaaGreatDoor
open Go.RowKit Go.Maps
set_option linter.unusedVariables false

structure Made (b : Nat) (w : World) (lv : Value) (KS : List KL) (kv mv : Value) : Prop where
  box : BoxX w b lv 1 0 kv mv
  fill : ∃ B, b < B ∧ B ≤ w.heap.size ∧ FillAt B w kv mv KS
def Idx (b : Nat) (w : World) (lv : Value) (KS : List KL) : Prop := BoxX w b lv 0 0 (.slice none 0 0) (.map none) ∨ ∃ kv mv, Made b w lv KS kv mv
theorem Made.below {b : Nat} {w w' : World} {lv kv mv : Value} {KS : List KL} (h : Made b w lv KS kv mv) (hb : Below w.heap.size w w') : Made b w' lv KS kv mv := by
  obtain ⟨B, h1, h2, h3⟩ := h.fill
  exact ⟨h.box.below hb, B, h1, Nat.le_trans h2 hb.size, h3.below hb⟩
theorem Idx.lt {b : Nat} {w : World} {lv : Value} {KS : List KL} (h : Idx b w lv KS) : b < w.heap.size := by
  rcases h with h | ⟨kv, mv, h⟩
  · exact h.lt
  · exact h.box.lt
theorem Made.isT {b : Nat} {w : World} {lv kv mv : Value} {KS : List KL} (h : Made b w lv KS kv mv) (hl : KS.length ≤ maxLen) : IsT w.heap.size w KS kv := by
  obtain ⟨B, _, _, h3⟩ := h.fill
  exact ownS_isT h3.keys hl

theorem doX_any (L : List ET) (hs : smallE L) (b : Nat) (lv : Value) (w : World) (hx : Idx b w lv (keysE L)) (h : IsE b w L lv) :
    Calls Tryz.prog 105 #[.pointer (some ⟨b, 1, none⟩), .func (.func 106) #[.pointer (some ⟨b, 0, none⟩)] #[]] w fun e w' => e = .returned (.tuple #[]) ∧ ∃ kv mv, Made b w' lv (keysE L) kv mv ∧ w.grownBy w' (some b) := by
  rcases hx with hbx | ⟨kv, mv, hm⟩
  · have hbl := hbx.lt
    refine (doX_first b lv (fun w' kv mv => FillAt w.heap.size w' kv mv (keysE L)) w hbx (fun w1 hb1 hg1 hz1 => ?_)).mono ?_
    · have := fill_any L hs b lv w1 hb1 (h.below (below_ofGrown hg1 (by omega)) (Nat.le_refl _))
      rw [hz1] at this
      exact this
    · rintro e w' ⟨rfl, w3, kv, mv, rfl, hb3, hf3, hg3⟩
      refine ⟨rfl, kv, mv, ⟨hb3.drew.set1.set2, w.heap.size, hbl, ?_, ?_⟩, ?_⟩
      · have := hg3.size
        simpa [World.setCell] using this
      · exact ((hf3.drew).kept (grown_set _) hbl).kept (grown_set _) hbl
      · exact ((grown_drew hg3).trans (grown_set _)).trans (grown_set _)
  · refine (doX_done ⟨b, 1, none⟩ _ w hm.box.cells.2.1).mono ?_
    rintro e w' ⟨rfl, rfl⟩
    exact ⟨rfl, kv, mv, hm, World.grownBy.refl _ _⟩

set_option maxRecDepth 100000 in
set_option maxHeartbeats 2000000 in
theorem all_any (L : List ET) (hs : smallE L) (b : Nat) (lv : Value) (w : World) (hx : Idx b w lv (keysE L)) (h : IsE b w L lv) :
    Calls Tryz.prog 72 #[.pointer (some ⟨b, 0, none⟩)] w fun e w' => ∃ kv mv, e = .returned kv ∧ Made b w' lv (keysE L) kv mv ∧ w.grownBy w' (some b) := by
  have HD := Lib.hid (doX_any L hs b lv w hx h)
  have hmf : ∀ (fn : Go.Fn) (first cap : Array Value) (w : World), (Instr.makeFunc fn first cap).run Tryz.prog w = .ok (.func fn first cap) w := fun _ _ _ _ => rfl
  clear hx h
  go_enter Tryz.func72, Tryz.ntmps72
  go_wp2_with (go_at_call 105; refine (HD.out).mono ?_; rintro e w2 ⟨rfl, kv, mv, hm, hg⟩; have g4 := hm.box.cells.2.2.2.1; have HM := Lib.hid hm; have HG := Lib.hid hg; clear hm hg)
  go_ret
  exact ⟨kv, mv, rfl, HM.out, HG.out⟩

set_option maxRecDepth 100000 in
set_option maxHeartbeats 2000000 in
theorem place_gen (KS : List KL) (R : World → Prop) (b : Nat) (lv : Value) (K : ByteArray) (hK : K.size ≤ 100000) (w : World)
    (hd : Calls Tryz.prog 105 #[.pointer (some ⟨b, 1, none⟩), .func (.func 106) #[.pointer (some ⟨b, 0, none⟩)] #[]] w fun e w' => e = .returned (.tuple #[]) ∧ ∃ kv mv, Made b w' lv KS kv mv ∧ R w') :
    Calls Tryz.prog 93 #[.pointer (some ⟨b, 0, none⟩), .string K] w fun e w' => e = .returned (.int .i64 (findK KS K.data.toList)) ∧ ∃ kv mv, Made b w' lv KS kv mv ∧ R w' := by
  have HD := Lib.hid hd
  have hmf : ∀ (fn : Go.Fn) (first cap : Array Value) (w : World), (Instr.makeFunc fn first cap).run Tryz.prog w = .ok (.func fn first cap) w := fun _ _ _ _ => rfl
  have HLit := Lib.hid (keyLit K (by unfold maxLen; omega))
  obtain ⟨k, hk⟩ : ∃ k, K.data.toList = k := ⟨_, rfl⟩
  rw [hk] at HLit
  obtain ⟨I, hI⟩ : ∃ I, findK KS K.data.toList = I := ⟨_, rfl⟩
  rw [hI]
  rw [hk] at hI
  have HI := Lib.hid hI
  clear hd hk hI
  go_enter Tryz.func93, Tryz.ntmps93
  go_upto_region 2 with (go_at_call 105; refine (HD.out).mono ?_; rintro e w2 ⟨rfl, kv, mv, hm, hg⟩; have HM := Lib.hid hm; have HG := Lib.hid hg; clear hm hg)
  obtain ⟨_, _, _, g4, g5⟩ := HM.out.box.cells
  obtain ⟨B, hB1, hB2, hfl⟩ := HM.out.fill
  obtain ⟨m, n, D, hmv, hmB, hn, hown, hpl⟩ := hfl.map
  subst hmv
  have hhas := (hpl.2 k).1
  have HAt := Lib.hid (hpl.2 k).2
  have HOwn := Lib.hid hown
  have HNo := Lib.hid hpl
  clear hfl hpl hown
  by_cases hc : (KS.contains k && !k.isEmpty) = true
  · rw [hc] at hhas
    obtain ⟨hc1, hc2⟩ := Bool.and_eq_true_iff.1 hc
    have hne : k ≠ [] := by rintro rfl; simp at hc2
    obtain ⟨i, hi, e, _⟩ := idxK_some (KS := KS) (k := k) (by simpa using hc1)
    have hfind : I = (i : Int) := by
      rw [← HI.out]; unfold findK; rw [if_neg hne, e]
    have HF := Lib.hid hfind
    have hat := HAt.out i e hne (.lit (.int .i64 0))
    have HA := Lib.hid hat
    clear hat hfind e hc hc1 hc2 hne
    go_wp2_with (at_lookup; refine wpList_lookup_own_ok_int _ rfl _ _ 119 rfl 9 3 .i64 mapLaw Tryz.underlying119 Tryz.underlying3 (zeroInt _) m n D rfl HOwn.out _ _ rfl HLit.out ?_; intro cc hat2 hwc; (obtain rfl : cc = (i : Int) := by { have := hat2.symm.trans HA.out; injection this with this; injection this }); clear hat2 hwc)
    go_ret
    exact ⟨by rw [HF.out]; rfl, _, _, HM.out, HG.out⟩
  · have hc' : (KS.contains k && !k.isEmpty) = false := by simpa using hc
    rw [hc'] at hhas
    have hfind : I = -1 := by
      rw [← HI.out]; unfold findK
      split
      · rfl
      · rename_i hne
        exact idxK_no (fun hm => by
          have : k.isEmpty = false := by cases k <;> simp_all
          simp [hm, this] at hc')
    have HF := Lib.hid hfind
    clear hfind hc hc'
    go_wp2_with (at_lookup; refine wpList_lookup_own_ok_int _ rfl _ _ 119 rfl 9 3 .i64 mapLaw Tryz.underlying119 Tryz.underlying3 (zeroInt _) m n D rfl HOwn.out _ _ rfl HLit.out ?_; intro cc hat2 hwc; clear hat2 hwc)
    go_ret
    exact ⟨by rw [HF.out]; rfl, _, _, HM.out, HG.out⟩

theorem place_any (L : List ET) (hs : smallE L) (b : Nat) (lv : Value) (K : ByteArray) (hK : K.size ≤ 100000) (w : World) (hx : Idx b w lv (keysE L)) (h : IsE b w L lv) :
    Calls Tryz.prog 93 #[.pointer (some ⟨b, 0, none⟩), .string K] w fun e w' => e = .returned (.int .i64 (findK (keysE L) K.data.toList)) ∧ ∃ kv mv, Made b w' lv (keysE L) kv mv ∧ w.grownBy w' (some b) :=
  place_gen (keysE L) (fun w' => w.grownBy w' (some b)) b lv K hK w (doX_any L hs b lv w hx h)
def idxG (L : List KL) (y : KL) : Int := match L.findIdx? (fun x => gtB x y) with
  | some k => (k : Int)
  | none => -1
theorem IsE.keep {n : Nat} {w w' : World} {L : List ET} {v : Value} (h : IsE n w L v) (hb : Below n w w') : IsE n w' L v := h.below hb (Nat.le_refl _)

end Go.Proofs.YtpnbcmblnplbgaaGreatDoor

