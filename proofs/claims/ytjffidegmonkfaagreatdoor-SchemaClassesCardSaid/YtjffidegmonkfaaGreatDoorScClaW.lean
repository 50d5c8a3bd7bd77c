/- SchemaClasses: the walk. -/
import Derived.Test.YtjffidegmonkfaaGreatDoorScCla
import Derived.Test.YtjffidegmonkfaaGreatDoorMaDig
import Derived.Deep.CutRange
namespace Go.Proofs.YtjffidegmonkfaaGreatDoor
open Go.RowKit
set_option linter.unusedVariables false

/-- The person behind its classes were turned: what lies where. -/
structure ClaAt (n0 : Nat) (w0 W : World) (b g : Nat) (E : ByteArray) : Prop where
  box : BoxN W b E (.slice (some ⟨g, 0, none⟩) 3 3)
  row : W.heap[g]? = some (.cells #[.string ⟨#[99, 110]⟩, .slice (some ⟨g - 3, 0, none⟩) 1 1, .string ⟨#[111, 98, 106, 101, 99, 116, 99, 108, 97, 115, 115]⟩, .slice (some ⟨b + 1, 0, none⟩) 1 1, .string ⟨#[115, 110]⟩, .slice (some ⟨g - 1, 0, none⟩) 1 1] 42 (0, 0))
  t1 : W.heap[g - 3]? = some (.cells #[.string ⟨#[97, 110, 110]⟩] 9 (0, 0))
  t2 : W.heap[b + 1]? = some (.cells #[.string ⟨#[73, 78, 69, 84, 111, 114, 103, 80, 69, 82, 83, 79, 78]⟩] 9 (0, 0))
  t3 : W.heap[g - 1]? = some (.cells #[.string ⟨#[115]⟩] 9 (0, 0))
  lt : b + 2 ≤ W.heap.size
  gb : g < b
  g3 : 3 ≤ g
  n0g : n0 ≤ g
  n0s : n0 ≤ w0.heap.size
  bel : Below n0 w0 W
theorem ClaAt.go {n0 b g : Nat} {w0 W W' : World} {E : ByteArray} (h : ClaAt n0 w0 W b g E) (hb : Below W.heap.size W W') : ClaAt n0 w0 W' b g E :=
  have hl := h.lt
  have hg := h.gb
  ⟨h.box.below hb (by omega), (hb.block _ (by omega)).trans h.row, (hb.block _ (by omega)).trans h.t1, (hb.block _ (by omega)).trans h.t2, (hb.block _ (by omega)).trans h.t3, Nat.le_trans hl hb.size, hg, h.g3, h.n0g, h.n0s, h.bel.trans (hb.mono (by have := h.n0g; omega))⟩
/-- .. and behind two attributes more. -/
structure ClaF (n0 : Nat) (w0 W : World) (b g c cap db xb : Nat) (E X : ByteArray) : Prop where
  box : BoxN W b E (.slice (some ⟨g, 0, none⟩) 3 3)
  cells : ∀ j u, ([.string ⟨#[99, 110]⟩, .slice (some ⟨g - 3, 0, none⟩) 1 1, .string ⟨#[111, 98, 106, 101, 99, 116, 99, 108, 97, 115, 115]⟩, .slice (some ⟨b + 1, 0, none⟩) 1 1, .string ⟨#[115, 110]⟩, .slice (some ⟨g - 1, 0, none⟩) 1 1] ++ [.string ⟨#[117, 105, 100]⟩, .slice (some ⟨db, 0, none⟩) 1 1, .string ⟨#[117, 115, 101, 114, 112, 97, 115, 115, 119, 111, 114, 100]⟩, .slice (some ⟨xb, 0, none⟩) 1 1])[j]? = some u → W.cell? ⟨c, j, none⟩ = some u
  t1 : W.heap[g - 3]? = some (.cells #[.string ⟨#[97, 110, 110]⟩] 9 (0, 0))
  t2 : W.heap[b + 1]? = some (.cells #[.string ⟨#[73, 78, 69, 84, 111, 114, 103, 80, 69, 82, 83, 79, 78]⟩] 9 (0, 0))
  t3 : W.heap[g - 1]? = some (.cells #[.string ⟨#[115]⟩] 9 (0, 0))
  t4 : W.heap[db]? = some (.cells #[.string X] 9 (0, 0))
  t5 : W.heap[xb]? = some (.cells #[.string ⟨#[120]⟩] 9 (0, 0))
  lt : b < W.heap.size ∧ c < W.heap.size ∧ db < W.heap.size ∧ xb < W.heap.size ∧ g < W.heap.size ∧ b + 1 < W.heap.size
  ne : c ≠ b ∧ b < db ∧ b < xb ∧ g < b
  n0b : n0 ≤ b
  bel : Below n0 w0 W
theorem ClaF.store {n0 b g c cap db xb : Nat} {w0 W : World} {E X : ByteArray} (h : ClaF n0 w0 W b g c cap db xb E X) :
    BoxN (W.setCell ⟨b, 1, none⟩ (.slice (some ⟨c, 0, none⟩) 5 cap)) b E (.slice (some ⟨c, 0, none⟩) 5 cap) ∧ IsA (W.setCell ⟨b, 1, none⟩ (.slice (some ⟨c, 0, none⟩) 5 cap)).heap.size (W.setCell ⟨b, 1, none⟩ (.slice (some ⟨c, 0, none⟩) 5 cap)) (claE X.data.toList) (.slice (some ⟨c, 0, none⟩) 5 cap) ∧ Below n0 w0 (W.setCell ⟨b, 1, none⟩ (.slice (some ⟨c, 0, none⟩) 5 cap)) ∧ (W.setCell ⟨b, 1, none⟩ (.slice (some ⟨c, 0, none⟩) 5 cap)).heap.size = W.heap.size := by
  have hz : (W.setCell ⟨b, 1, none⟩ (.slice (some ⟨c, 0, none⟩) 5 cap)).heap.size = W.heap.size := lt_set
  obtain ⟨l1, l2, l3, l4, l5, l6⟩ := h.lt
  obtain ⟨n1, n2, n3, n4⟩ := h.ne
  have k : ∀ q, q ≠ b → (W.setCell ⟨b, 1, none⟩ (.slice (some ⟨c, 0, none⟩) 5 cap)).heap[q]? = W.heap[q]? := fun q hq => block_ne W _ _ (show q ≠ b from hq)
  have kc : ∀ j u, ([.string ⟨#[99, 110]⟩, .slice (some ⟨g - 3, 0, none⟩) 1 1, .string ⟨#[111, 98, 106, 101, 99, 116, 99, 108, 97, 115, 115]⟩, .slice (some ⟨b + 1, 0, none⟩) 1 1, .string ⟨#[115, 110]⟩, .slice (some ⟨g - 1, 0, none⟩) 1 1] ++ [.string ⟨#[117, 105, 100]⟩, .slice (some ⟨db, 0, none⟩) 1 1, .string ⟨#[117, 115, 101, 114, 112, 97, 115, 115, 119, 111, 114, 100]⟩, .slice (some ⟨xb, 0, none⟩) 1 1])[j]? = some u → (W.setCell ⟨b, 1, none⟩ (.slice (some ⟨c, 0, none⟩) 5 cap)).cell? ⟨c, j, none⟩ = some u := fun j u e => (cell_ne W ⟨b, 1, none⟩ _ j (show c ≠ b from n1)).trans (h.cells j u e)
  refine ⟨(by have hb := h.box; unfold BoxN at hb ⊢; simp [World.setCell, Array.getElem?_modify, hb]), ?_, h.bel.setCell (p := ⟨b, 1, none⟩) h.n0b _, hz⟩
  have t1 := (k (g - 3) (by omega)).trans h.t1
  have t2 := (k (b + 1) (by omega)).trans h.t2
  have t3 := (k (g - 1) (by omega)).trans h.t3
  have t4 := (k db (by omega)).trans h.t4
  have t5 := (k xb (by omega)).trans h.t5
  generalize W.setCell ⟨b, 1, none⟩ (.slice (some ⟨c, 0, none⟩) 5 cap) = W2 at hz kc t1 t2 t3 t4 t5 ⊢
  refine ⟨_, _, rfl, by unfold maxLen claE; simp, fun j hj => ?_⟩
  match j, hj with
  | 0, _ => exact ⟨c, 0, _, rfl, by omega, kc 0 _ rfl, kc 1 _ rfl, isT_block t1 (by omega)⟩
  | 1, _ => exact ⟨c, 0, _, rfl, by omega, kc 2 _ rfl, kc 3 _ rfl, isT_block t2 (by omega)⟩
  | 2, _ => exact ⟨c, 0, _, rfl, by omega, kc 4 _ rfl, kc 5 _ rfl, isT_block t3 (by omega)⟩
  | 3, _ => exact ⟨c, 0, _, rfl, by omega, kc 6 _ rfl, kc 7 _ rfl, isT_block t4 (by omega)⟩
  | 4, _ => exact ⟨c, 0, _, rfl, by omega, kc 8 _ rfl, kc 9 _ rfl, isT_block t5 (by omega)⟩

/-- 'append(e.Attrs, a, b)' in the drawn region. -/
theorem step_append_cla {ops : Array Oper} {o : Oper} {a : Act} {w : World} {K : Act → World → Prop} {Q : Exit → Act → World → Prop} {Ex : Prop} (hgd : o.guard = none) (sl x : Operand)
    (ho : o.op = .call { callee := .builtin .append, args := #[sl, x], argTypes := #[22, 22] })
    (n0 b g db xb : Nat) (w0 : World) (E X : ByteArray) (hC : ClaAt n0 w0 w b g E) (hs : a.eval sl = .slice (some ⟨g, 0, none⟩) 3 3) (H : Nat) (hH : w.heap.size = H) (hx : a.eval x = .slice (some ⟨H, 0, none⟩) 2 2)
    (h4 : w.heap[db]? = some (.cells #[.string X] 9 (0, 0))) (h5 : w.heap[xb]? = some (.cells #[.string ⟨#[120]⟩] 9 (0, 0))) (hdb : b < db ∧ db < w.heap.size) (hxb : b < xb ∧ xb < w.heap.size)
    (h : ∀ c cap w', ClaF n0 w0 w' b g c cap db xb E X → K (a.put o.dst (.slice (some ⟨c, 0, none⟩) 5 cap)) w') :
    if Region.wanted o (yielded ops a.tmps) = true then Oper.wp Tryz.prog o a (w.alloc (.cells #[.string ⟨#[117, 105, 100]⟩, .slice (some ⟨db, 0, none⟩) 1 1, .string ⟨#[117, 115, 101, 114, 112, 97, 115, 115, 119, 111, 114, 100]⟩, .slice (some ⟨xb, 0, none⟩) 1 1] 42)) K Q else Ex := by
  subst hH
  obtain ⟨i0, hi, hz0, hz1, hz2⟩ := info_parts infoA
  have hlt := hC.lt
  have hgb := hC.gb
  have hA : Below w.heap.size w (w.alloc (.cells #[.string ⟨#[117, 105, 100]⟩, .slice (some ⟨db, 0, none⟩) 1 1, .string ⟨#[117, 115, 101, 114, 112, 97, 115, 115, 119, 111, 114, 100]⟩, .slice (some ⟨xb, 0, none⟩) 1 1] 42)) := (Below.refl _ _).alloc (Nat.le_refl _) _
  have hC2 := hC.go hA
  have hnew : (w.alloc (.cells #[.string ⟨#[117, 105, 100]⟩, .slice (some ⟨db, 0, none⟩) 1 1, .string ⟨#[117, 115, 101, 114, 112, 97, 115, 115, 119, 111, 114, 100]⟩, .slice (some ⟨xb, 0, none⟩) 1 1] 42)).heap[w.heap.size]? = some (.cells #[.string ⟨#[117, 105, 100]⟩, .slice (some ⟨db, 0, none⟩) 1 1, .string ⟨#[117, 115, 101, 114, 112, 97, 115, 115, 119, 111, 114, 100]⟩, .slice (some ⟨xb, 0, none⟩) 1 1] 42 (0, 0)) := heap_alloc_new w _
  have hsz : (w.alloc (.cells #[.string ⟨#[117, 105, 100]⟩, .slice (some ⟨db, 0, none⟩) 1 1, .string ⟨#[117, 115, 101, 114, 112, 97, 115, 115, 119, 111, 114, 100]⟩, .slice (some ⟨xb, 0, none⟩) 1 1] 42)).heap.size = w.heap.size + 1 := by simp
  have h42 := (hA.block db hdb.2).trans h4
  have h52 := (hA.block xb hxb.2).trans h5
  generalize w.alloc (.cells #[.string ⟨#[117, 105, 100]⟩, .slice (some ⟨db, 0, none⟩) 1 1, .string ⟨#[117, 115, 101, 114, 112, 97, 115, 115, 119, 111, 114, 100]⟩, .slice (some ⟨xb, 0, none⟩) 1 1] 42) = w1 at hA hC2 hnew hsz h42 h52 ⊢
  have hrow : w1.ownsRow n0 42 2 (.slice (some ⟨g, 0, none⟩) 3 3) 3 [.string ⟨#[99, 110]⟩, .slice (some ⟨g - 3, 0, none⟩) 1 1, .string ⟨#[111, 98, 106, 101, 99, 116, 99, 108, 97, 115, 115]⟩, .slice (some ⟨b + 1, 0, none⟩) 1 1, .string ⟨#[115, 110]⟩, .slice (some ⟨g - 1, 0, none⟩) 1 1] :=
    ⟨by simp, .inr ⟨g, 3, _, rfl, hC.n0g, hC2.row, by omega, by unfold maxLen; omega, by simp, by simp⟩⟩
  refine step_append_lies _ hgd sl x 22 ho n0 42 i0 (.agg #[.string ⟨#[]⟩, .slice none 0 0]) 2 40 Tryz.underlying22 hi hz0 hz1 hz2 rfl (by decide) (.slice (some ⟨g, 0, none⟩) 3 3) 3 [.string ⟨#[99, 110]⟩, .slice (some ⟨g - 3, 0, none⟩) 1 1, .string ⟨#[111, 98, 106, 101, 99, 116, 99, 108, 97, 115, 115]⟩, .slice (some ⟨b + 1, 0, none⟩) 1 1, .string ⟨#[115, 110]⟩, .slice (some ⟨g - 1, 0, none⟩) 1 1] hs hrow ⟨w.heap.size, 0, none⟩ 2 2 [.string ⟨#[117, 105, 100]⟩, .slice (some ⟨db, 0, none⟩) 1 1, .string ⟨#[117, 115, 101, 114, 112, 97, 115, 115, 119, 111, 114, 100]⟩, .slice (some ⟨xb, 0, none⟩) 1 1] hx rfl ?_ ?_ (by decide) (by unfold maxLen; omega) (by omega) (by have := hC.n0g; omega) _ rfl ?_
  · intro j u hu
    have hadd : (⟨w.heap.size, 0, none⟩ : Addr).add j = ⟨w.heap.size, j, none⟩ := by unfold Addr.add; split <;> simp_all
    rw [hadd]
    simp only [World.cell?, hnew]
    simpa using hu
  · intro u hu
    simp at hu
    rcases hu with rfl | rfl | rfl | rfl <;> rfl
  · intro c cap w' hown hgrow hat hcl
    have hob : (Value.slice (some ⟨g, 0, none⟩) 3 3).ownBlock = some g := rfl
    rw [hob] at hgrow hat
    have kb : ∀ q, q < w1.heap.size → q ≠ g → w'.heap[q]? = w1.heap[q]? := fun q hq hne => hgrow.block q hq (fun e => hne (Option.some.inj e))
    have hsz2 := hgrow.size
    have hcne : c ≠ b := by
      rcases hat with e | e
      · have := Option.some.inj e; omega
      · omega
    refine h c cap w' ⟨(kb b (by omega) (by omega)).trans hC2.box, fun j u hu => ?_, (kb _ (by omega) (by have := hC.g3; omega)).trans hC2.t1, (kb _ (by omega) (by omega)).trans hC2.t2, (kb _ (by omega) (by have := hC.g3; omega)).trans hC2.t3, (kb _ (by omega) (by omega)).trans h42, (kb _ (by omega) (by omega)).trans h52, ⟨by omega, hcl, by omega, by omega, by omega, by omega⟩, ⟨hcne, hdb.1, hxb.1, hgb⟩, by have := hC.n0g; omega, hC2.bel.grown hgrow (by have := hC.n0g; omega) (fun q e => by have := Option.some.inj e; have := hC.n0g; omega)⟩
    have hc := World.ownsRow.cells hown (g := c) rfl j u hu
    have hadd : (⟨c, 0, none⟩ : Addr).add j = ⟨c, j, none⟩ := by unfold Addr.add; split <;> simp_all
    rw [hadd] at hc
    exact hc

theorem boxN_frozen {w : World} {b : Nat} {x : ByteArray} {u : Value} (h : BoxN w b x u) : w.frozen? ⟨b, 0, none⟩ = false ∧ w.frozen? ⟨b, 1, none⟩ = false := by
  unfold BoxN at h
  simp [World.frozen?, h]
theorem one_alloc (W : World) (o : Obj) : Below W.heap.size W (W.alloc o) ∧ (W.alloc o).heap.size = W.heap.size + 1 := ⟨(Below.refl _ _).alloc (Nat.le_refl _) _, by simp⟩
theorem cla_start {w w3 w4 : World} {g : Nat} {E : ByteArray} (hb3 : Below w.heap.size w w3) (hl4 : Below w3.heap.size w3 w4) (hs4 : w4.heap.size = w3.heap.size + 1) (hbx : BoxN w4 w3.heap.size E (.slice (some ⟨g, 0, none⟩) 3 3)) (hp : PerAt w4 g ⟨#[97, 110, 110]⟩) (hg : w.heap.size + 4 = g) (hgl : g < w3.heap.size) :
    ClaAt w.heap.size w ((w4.setCell ⟨g, 3, none⟩ (.slice (some ⟨w3.heap.size + 1, 0, none⟩) 1 1)).alloc (.cells #[.string ⟨#[73, 78, 69, 84, 111, 114, 103, 80, 69, 82, 83, 79, 78]⟩] 9)) w3.heap.size g E := by
  have hz : (w4.setCell ⟨g, 3, none⟩ (.slice (some ⟨w3.heap.size + 1, 0, none⟩) 1 1)).heap.size = w4.heap.size := lt_set
  have hbw : Below w.heap.size w (w4.setCell ⟨g, 3, none⟩ (.slice (some ⟨w3.heap.size + 1, 0, none⟩) 1 1)) := (hb3.trans (hl4.mono hb3.size)).setCell (p := ⟨g, 3, none⟩) (show w.heap.size ≤ g by omega) _
  have k : ∀ q, q ≠ g → (w4.setCell ⟨g, 3, none⟩ (.slice (some ⟨w3.heap.size + 1, 0, none⟩) 1 1)).heap[q]? = w4.heap[q]? := fun q hq => block_ne w4 _ _ (show q ≠ g from hq)
  have kr : (w4.setCell ⟨g, 3, none⟩ (.slice (some ⟨w3.heap.size + 1, 0, none⟩) 1 1)).heap[g]? = some (.cells #[.string ⟨#[99, 110]⟩, .slice (some ⟨g - 3, 0, none⟩) 1 1, .string ⟨#[111, 98, 106, 101, 99, 116, 99, 108, 97, 115, 115]⟩, .slice (some ⟨w3.heap.size + 1, 0, none⟩) 1 1, .string ⟨#[115, 110]⟩, .slice (some ⟨g - 1, 0, none⟩) 1 1] 42 (0, 0)) := by
    have := hp.b4
    simp [World.setCell, Array.getElem?_modify, this]
  have t0 := (k w3.heap.size (by omega)).trans hbx
  have t1 := (k (g - 3) (by omega)).trans hp.b1
  have t3 := (k (g - 1) (by omega)).trans hp.b3
  generalize w4.setCell ⟨g, 3, none⟩ (.slice (some ⟨w3.heap.size + 1, 0, none⟩) 1 1) = W0 at hz hbw kr t0 t1 t3 ⊢
  obtain ⟨l1, s1⟩ := one_alloc W0 (.cells #[.string ⟨#[73, 78, 69, 84, 111, 114, 103, 80, 69, 82, 83, 79, 78]⟩] 9)
  have e1 := heap_alloc_new W0 (.cells #[.string ⟨#[73, 78, 69, 84, 111, 114, 103, 80, 69, 82, 83, 79, 78]⟩] 9)
  rw [hz, hs4] at e1
  generalize W0.alloc (.cells #[.string ⟨#[73, 78, 69, 84, 111, 114, 103, 80, 69, 82, 83, 79, 78]⟩] 9) = W1 at l1 s1 e1 ⊢
  exact ⟨(l1.block _ (by omega)).trans t0, (l1.block _ (by omega)).trans kr, (l1.block _ (by omega)).trans t1, e1, (l1.block _ (by omega)).trans t3, by omega, hgl, by omega, by omega, Nat.le_refl _, hbw.trans (l1.mono (by have := hb3.size; omega))⟩
theorem two_alloc (W : World) (a b : Array Value) (ta tb : TypeId) : ((W.alloc (.cells a ta)).alloc (.cells b tb)).heap[W.heap.size]? = some (.cells a ta (0, 0)) ∧ ((W.alloc (.cells a ta)).alloc (.cells b tb)).heap[W.heap.size + 1]? = some (.cells b tb (0, 0)) ∧ Below W.heap.size W ((W.alloc (.cells a ta)).alloc (.cells b tb)) ∧ ((W.alloc (.cells a ta)).alloc (.cells b tb)).heap.size = W.heap.size + 2 := by
  have e0 := heap_alloc_new W (.cells a ta)
  obtain ⟨l0, s0⟩ := one_alloc W (.cells a ta)
  generalize W.alloc (.cells a ta) = W0 at e0 l0 s0 ⊢
  have e1 := heap_alloc_new W0 (.cells b tb)
  obtain ⟨l1, s1⟩ := one_alloc W0 (.cells b tb)
  rw [s0] at e1
  generalize W0.alloc (.cells b tb) = W1 at e1 l1 s1 ⊢
  exact ⟨(l1.block _ (by omega)).trans e0, e1, l0.trans (l1.mono (by omega)), by omega⟩
theorem heap3b (W : World) (a b c : Array Value) (ta tb tc : TypeId) : (((W.alloc (.cells a ta)).alloc (.cells b tb)).alloc (.cells c tc)).heap[W.heap.size]? = some (.cells a ta (0, 0)) ∧ (((W.alloc (.cells a ta)).alloc (.cells b tb)).alloc (.cells c tc)).heap[W.heap.size + 1]? = some (.cells b tb (0, 0)) ∧ (((W.alloc (.cells a ta)).alloc (.cells b tb)).alloc (.cells c tc)).heap[W.heap.size + 2]? = some (.cells c tc (0, 0)) ∧ Below W.heap.size W (((W.alloc (.cells a ta)).alloc (.cells b tb)).alloc (.cells c tc)) ∧ (((W.alloc (.cells a ta)).alloc (.cells b tb)).alloc (.cells c tc)).heap.size = W.heap.size + 3 := by
  have e0 := heap_alloc_new W (.cells a ta)
  obtain ⟨l0, s0⟩ := one_alloc W (.cells a ta)
  generalize W.alloc (.cells a ta) = W0 at e0 l0 s0 ⊢
  have e1 := heap_alloc_new W0 (.cells b tb)
  obtain ⟨l1, s1⟩ := one_alloc W0 (.cells b tb)
  rw [s0] at e1
  generalize W0.alloc (.cells b tb) = W1 at e1 l1 s1 ⊢
  have e2 := heap_alloc_new W1 (.cells c tc)
  obtain ⟨l2, s2⟩ := one_alloc W1 (.cells c tc)
  rw [s1, s0] at e2
  generalize W1.alloc (.cells c tc) = W2 at e2 l2 s2 ⊢
  exact ⟨(l2.block _ (by omega)).trans ((l1.block _ (by omega)).trans e0), (l2.block _ (by omega)).trans e1, e2, l0.trans ((l1.mono (by omega)).trans (l2.mono (by omega))), by omega⟩
theorem isT_pair2 {w : World} {b n0 : Nat} {X Y : ByteArray} {e : TypeId} (h : w.heap[b]? = some (.cells #[.string X, .string Y] e (0, 0))) (hn : b < n0) : IsT n0 w [X.data.toList, Y.data.toList] (.slice (some ⟨b, 0, none⟩) 2 2) :=
  ⟨_, _, rfl, by unfold maxLen; simp, fun j hj => by
    refine ⟨b, 0, rfl, hn, ?_⟩
    match j, hj with
    | 0, _ =>
      show _ = some (strV X.data.toList)
      rw [strV_whole]
      simp only [World.cell?, h]; rfl
    | 1, _ =>
      show _ = some (strV Y.data.toList)
      rw [strV_whole]
      simp only [World.cell?, h]; rfl⟩
/-- The entry of the class posix. -/
theorem cla_aw {w8 w9 : World} {X : ByteArray} (hb : Below ((w8.alloc (.cells #[.string ⟨#[112, 111, 115, 105, 120]⟩, .string ⟨#[116, 111, 112]⟩] 9)).alloc (.cells #[.string ⟨#[97]⟩] 9)).heap.size ((w8.alloc (.cells #[.string ⟨#[112, 111, 115, 105, 120]⟩, .string ⟨#[116, 111, 112]⟩] 9)).alloc (.cells #[.string ⟨#[97]⟩] 9)) w9) :
    (fun W => BoxN W (w9.heap.size + 2) ⟨#[117, 105, 100, 61, 97]⟩ (.slice (some ⟨w9.heap.size + 1, 0, none⟩) 3 3) ∧ IsA W.heap.size W (claA X.data.toList) (.slice (some ⟨w9.heap.size + 1, 0, none⟩) 3 3) ∧ Below w8.heap.size w8 W ∧ W.heap.size = w9.heap.size + 3 ∧ w8.heap.size + 2 ≤ w9.heap.size) (((w9.alloc (.cells #[.string X] 9)).alloc (.cells #[.string ⟨#[111, 98, 106, 101, 99, 116, 99, 108, 97, 115, 115]⟩, .slice (some ⟨w8.heap.size, 0, none⟩) 2 2, .string ⟨#[117, 105, 100]⟩, .slice (some ⟨w8.heap.size + 1, 0, none⟩) 1 1, .string ⟨#[117, 105, 100, 110, 117, 109, 98, 101, 114]⟩, .slice (some ⟨w9.heap.size, 0, none⟩) 1 1] 42)).alloc (.cells #[.string ⟨#[117, 105, 100, 61, 97]⟩, .slice (some ⟨w9.heap.size + 1, 0, none⟩) 3 3] 24)) := by
  have e0 := heap_alloc_new w8 (.cells #[.string ⟨#[112, 111, 115, 105, 120]⟩, .string ⟨#[116, 111, 112]⟩] 9)
  obtain ⟨l0, s0⟩ := one_alloc w8 (.cells #[.string ⟨#[112, 111, 115, 105, 120]⟩, .string ⟨#[116, 111, 112]⟩] 9)
  generalize w8.alloc (.cells #[.string ⟨#[112, 111, 115, 105, 120]⟩, .string ⟨#[116, 111, 112]⟩] 9) = W0 at e0 l0 s0 hb
  have e1 := heap_alloc_new W0 (.cells #[.string ⟨#[97]⟩] 9)
  obtain ⟨l1, s1⟩ := one_alloc W0 (.cells #[.string ⟨#[97]⟩] 9)
  rw [s0] at e1
  generalize W0.alloc (.cells #[.string ⟨#[97]⟩] 9) = W1 at e1 l1 s1 hb
  have hz := hb.size
  obtain ⟨a, b, c, d, e⟩ := heap3b w9 #[.string X] #[.string ⟨#[111, 98, 106, 101, 99, 116, 99, 108, 97, 115, 115]⟩, .slice (some ⟨w8.heap.size, 0, none⟩) 2 2, .string ⟨#[117, 105, 100]⟩, .slice (some ⟨w8.heap.size + 1, 0, none⟩) 1 1, .string ⟨#[117, 105, 100, 110, 117, 109, 98, 101, 114]⟩, .slice (some ⟨w9.heap.size, 0, none⟩) 1 1] #[.string ⟨#[117, 105, 100, 61, 97]⟩, .slice (some ⟨w9.heap.size + 1, 0, none⟩) 3 3] 9 42 24
  have t1 := (d.block w8.heap.size (by omega)).trans ((hb.block w8.heap.size (by omega)).trans ((l1.block _ (by omega)).trans e0))
  have t2 := (d.block (w8.heap.size + 1) (by omega)).trans ((hb.block (w8.heap.size + 1) (by omega)).trans e1)
  show BoxN _ _ _ _ ∧ _
  generalize ((w9.alloc (.cells #[.string X] 9)).alloc (.cells #[.string ⟨#[111, 98, 106, 101, 99, 116, 99, 108, 97, 115, 115]⟩, .slice (some ⟨w8.heap.size, 0, none⟩) 2 2, .string ⟨#[117, 105, 100]⟩, .slice (some ⟨w8.heap.size + 1, 0, none⟩) 1 1, .string ⟨#[117, 105, 100, 110, 117, 109, 98, 101, 114]⟩, .slice (some ⟨w9.heap.size, 0, none⟩) 1 1] 42)).alloc (.cells #[.string ⟨#[117, 105, 100, 61, 97]⟩, .slice (some ⟨w9.heap.size + 1, 0, none⟩) 3 3] 24) = W at a b c d e t1 t2 ⊢
  refine ⟨c, ⟨_, _, rfl, by unfold maxLen claA; simp, fun j hj => ?_⟩, l0.trans ((l1.mono (by omega)).trans ((hb.mono (by omega)).trans (d.mono (by omega)))), e, by omega⟩
  match j, hj with
  | 0, _ => exact ⟨w9.heap.size + 1, 0, _, rfl, by omega, by simp only [World.cell?, b]; rfl, by simp only [World.cell?, b]; rfl, isT_pair2 t1 (by omega)⟩
  | 1, _ => exact ⟨w9.heap.size + 1, 0, _, rfl, by omega, by simp only [World.cell?, b]; rfl, by simp only [World.cell?, b]; rfl, isT_block t2 (by omega)⟩
  | 2, _ => exact ⟨w9.heap.size + 1, 0, _, rfl, by omega, by simp only [World.cell?, b]; rfl, by simp only [World.cell?, b]; rfl, isT_block a (by omega)⟩
/-- The entry of the class organization. -/
theorem cla_bw {w9 : World} {X D : ByteArray} :
    (fun W => BoxN W (w9.heap.size + 3) D (.slice (some ⟨w9.heap.size + 2, 0, none⟩) 2 2) ∧ IsA W.heap.size W (claB X.data.toList) (.slice (some ⟨w9.heap.size + 2, 0, none⟩) 2 2) ∧ Below w9.heap.size w9 W ∧ W.heap.size = w9.heap.size + 4) ((((w9.alloc (.cells #[.string X] 9)).alloc (.cells #[.string ⟨#[111, 114, 103, 97, 110, 105, 122, 97, 116, 105, 111, 110]⟩] 9)).alloc (.cells #[.string ⟨#[111]⟩, .slice (some ⟨w9.heap.size, 0, none⟩) 1 1, .string ⟨#[111, 98, 106, 101, 99, 116, 99, 108, 97, 115, 115]⟩, .slice (some ⟨w9.heap.size + 1, 0, none⟩) 1 1] 42)).alloc (.cells #[.string D, .slice (some ⟨w9.heap.size + 2, 0, none⟩) 2 2] 24)) := by
  obtain ⟨a, b, c, d, e⟩ := heap3b w9 #[.string X] #[.string ⟨#[111, 114, 103, 97, 110, 105, 122, 97, 116, 105, 111, 110]⟩] #[.string ⟨#[111]⟩, .slice (some ⟨w9.heap.size, 0, none⟩) 1 1, .string ⟨#[111, 98, 106, 101, 99, 116, 99, 108, 97, 115, 115]⟩, .slice (some ⟨w9.heap.size + 1, 0, none⟩) 1 1] 9 9 42
  show BoxN _ _ _ _ ∧ _
  generalize ((w9.alloc (.cells #[.string X] 9)).alloc (.cells #[.string ⟨#[111, 114, 103, 97, 110, 105, 122, 97, 116, 105, 111, 110]⟩] 9)).alloc (.cells #[.string ⟨#[111]⟩, .slice (some ⟨w9.heap.size, 0, none⟩) 1 1, .string ⟨#[111, 98, 106, 101, 99, 116, 99, 108, 97, 115, 115]⟩, .slice (some ⟨w9.heap.size + 1, 0, none⟩) 1 1] 42) = W0 at a b c d e ⊢
  have f := boxN_new W0 D (.slice (some ⟨w9.heap.size + 2, 0, none⟩) 2 2)
  obtain ⟨l1, s1⟩ := one_alloc W0 (.cells #[.string D, .slice (some ⟨w9.heap.size + 2, 0, none⟩) 2 2] 24)
  rw [e] at f
  generalize W0.alloc (.cells #[.string D, .slice (some ⟨w9.heap.size + 2, 0, none⟩) 2 2] 24) = W at f l1 s1 ⊢
  have a2 := (l1.block _ (by omega)).trans a
  have b2 := (l1.block _ (by omega)).trans b
  have c2 := (l1.block _ (by omega)).trans c
  refine ⟨f, ⟨_, _, rfl, by unfold maxLen claB; simp, fun j hj => ?_⟩, d.trans (l1.mono (by omega)), by omega⟩
  match j, hj with
  | 0, _ => exact ⟨w9.heap.size + 2, 0, _, rfl, by omega, by simp only [World.cell?, c2]; rfl, by simp only [World.cell?, c2]; rfl, isT_block a2 (by omega)⟩
  | 1, _ => exact ⟨w9.heap.size + 2, 0, _, rfl, by omega, by simp only [World.cell?, c2]; rfl, by simp only [World.cell?, c2]; rfl, isT_block b2 (by omega)⟩

set_option maxRecDepth 100000 in
set_option maxHeartbeats 8000000 in
theorem classes_walk (n : Nat) (hn : n ≤ 255) (w : World) (hw : LaidW w) (hl : LaidF w) :
    Calls Tryz.prog 7 #[.int .u8 n] w fun e w' => e = .returned (.bool true) ∧ Below w.heap.size w w' := by
  have HW := Lib.hid hw
  have HL := Lib.hid hl
  have hwr : IntKind.i64.wrap (n : Int) = (n : Int) := by rw [IntKind.wrap_i64]; omega
  have HDg := Lib.hid (fun W => digits_any (n : Int) (by omega) (by omega) W)
  obtain ⟨X, hX⟩ : ∃ X, X = ofL (Lib.itoa (n : Int)) := ⟨_, rfl⟩
  have hXl : X.data.toList = Lib.itoa (n : Int) := by rw [hX, ofL_list]
  have hXs : X.size ≤ 3 := by rw [← bytes_len, hXl]; exact cla_len ⟨n, by omega⟩
  obtain ⟨D, hD⟩ : ∃ D, (⟨#[111, 61]⟩ : ByteArray) ++ X = D := ⟨_, rfl⟩
  have hDl : D.data.toList = [111, 61] ++ Lib.itoa (n : Int) := by rw [← hD, app_list, hXl]
  have hDs : D.size ≤ 5 := by rw [← hD, ← bytes_len, app_list, List.length_append, bytes_len, bytes_len]; have : (⟨#[111, 61]⟩ : ByteArray).size = 2 := rfl; omega
  have q1 : 2 + X.size ≤ 9223372036854775807 := by omega
  rw [← hX] at HDg
  have HPe := Lib.hid (fun W => person_any ⟨#[97, 110, 110]⟩ (by decide) W)
  have HXl := Lib.hid hXl
  have HDl := Lib.hid hDl
  have tokA : True := trivial
  clear hX hXl hXs hDl hw hl
  go_enter Tryz.func7, Tryz.ntmps7
  go_upto_region 2 with (first
    | (go_at_call 21; refine (HPe.out _).mono ?_; rintro e w3 ⟨D3, g, rfl, hD3, hp, hg, hb3⟩; have HP := Lib.hid hp; have HB3 := Lib.hid hb3; have HD3 := Lib.hid hD3; have hgl := hp.lt; clear hD3 hp hb3))
  have hbx := boxN_new w3 D3 (.slice (some ⟨g, 0, none⟩) 3 3)
  have hl4 : Below w3.heap.size w3 (w3.alloc (.cells #[.string D3, .slice (some ⟨g, 0, none⟩) 3 3] 24)) := (Below.refl _ _).alloc (Nat.le_refl _) _
  have hs4 : (w3.alloc (.cells #[.string D3, .slice (some ⟨g, 0, none⟩) 3 3] 24)).heap.size = w3.heap.size + 1 := by simp
  generalize w3.alloc (.cells #[.string D3, .slice (some ⟨g, 0, none⟩) 3 3] 24) = w4 at hbx hl4 hs4 ⊢
  obtain ⟨e0, e1⟩ := hbx.cells
  have hp4 := HP.out.below hl4 hgl
  have HBx := Lib.hid hbx
  have HL4 := Lib.hid hl4
  have HP4 := Lib.hid hp4
  have hg4 : g < w4.heap.size := by omega
  have f1 : (w4.alloc (.cells #[.string ⟨#[73, 78, 69, 84, 111, 114, 103, 80, 69, 82, 83, 79, 78]⟩] 9)).cell? ⟨g, 3, none⟩ = some (.slice (some ⟨g - 2, 0, none⟩) 1 1) := (((Below.refl w4.heap.size w4).alloc (Nat.le_refl _) _).cell (p := ⟨g, 3, none⟩) hg4).trans hp4.cells.2.1
  have f2 : (w4.alloc (.cells #[.string ⟨#[73, 78, 69, 84, 111, 114, 103, 80, 69, 82, 83, 79, 78]⟩] 9)).frozen? ⟨g, 3, none⟩ = false := by
    have := hp4.below ((Below.refl w4.heap.size w4).alloc (Nat.le_refl _) (.cells #[.string ⟨#[73, 78, 69, 84, 111, 114, 103, 80, 69, 82, 83, 79, 78]⟩] 9)) hg4
    simp only [World.frozen?, this.b4]; rfl
  clear hbx hl4 hp4
  go_upto_region 3 with (fail)
  generalize hW5 : World.alloc _ _ = W5
  have hC5 : ClaAt w.heap.size w W5 w3.heap.size g D3 := by
    rw [← hW5]
    exact cla_start HB3.out HL4.out hs4 HBx.out HP4.out hg hgl
  clear hW5 f1 f2 e0 e1
  have hlt5 := hC5.lt
  have hCd : ClaAt w.heap.size w W5.drew w3.heap.size g D3 := hC5.go (Below.refl _ _).drew
  obtain ⟨lx, sx⟩ := one_alloc W5 (.cells #[.string ⟨#[120]⟩] 9)
  have ex : (W5.alloc (.cells #[.string ⟨#[120]⟩] 9)).drew.heap[W5.heap.size]? = some (.cells #[.string ⟨#[120]⟩] 9 (0, 0)) := heap_alloc_new W5 (.cells #[.string ⟨#[120]⟩] 9)
  have hCx : ClaAt w.heap.size w (W5.alloc (.cells #[.string ⟨#[120]⟩] 9)).drew w3.heap.size g D3 := (hC5.go lx).go (Below.refl _ _).drew
  have hsx : (W5.alloc (.cells #[.string ⟨#[120]⟩] 9)).drew.heap.size = W5.heap.size + 1 := sx
  have HCd := Lib.hid hCd
  have HCx := Lib.hid hCx
  have HEx := Lib.hid ex
  have HSx := Lib.hid hsx
  obtain ⟨_, r1⟩ := hC5.box.cells
  have hbl : w3.heap.size < W5.heap.size := by omega
  have hbl2 : w3.heap.size < W5.heap.size + 1 := by omega
  have HBl := Lib.hid hbl
  have hsz5 : W5.drew.heap.size = W5.heap.size := rfl
  have HS5 := Lib.hid hsz5
  clear hC5 hCd hCx lx sx hsx ex hsz5
  go_cut [2] from 14 to 25 (fun s2 wx => s2 = .bool false ∧ ∃ c cap, BoxN wx w3.heap.size D3 (.slice (some ⟨c, 0, none⟩) 5 cap) ∧ IsA wx.heap.size wx (claE X.data.toList) (.slice (some ⟨c, 0, none⟩) 5 cap) ∧ Below w.heap.size w wx ∧ w3.heap.size < wx.heap.size)
  case first =>
    go_region_law (first
      | (go_simp; go_at_call 22; ((with_reducible refine (HDg.out _).mono ?_); rintro e w6 ⟨rfl, hb6⟩; (first | (have HC6 := Lib.hid (ClaAt.go HCd.out hb6)) | (have HC6 := Lib.hid (ClaAt.go HCx.out hb6); have HX6 := Lib.hid ((hb6.block W5.heap.size (by rw [HSx.out]; omega)).trans HEx.out))); (obtain ⟨_, r6⟩ := HC6.out.box.cells); have l6 := HC6.out.lt; have b6 : w3.heap.size < w6.heap.size := (by omega); have b61 : w3.heap.size < w6.heap.size + 1 := (by omega); have b62 : w3.heap.size < w6.heap.size + 1 + 1 := (by omega); have hz6 := hb6.size; have HZ6 := Lib.hid hz6; clear hb6 hz6))
      | (refine step_append_cla rfl (.tmp 15) (.tmp 23) rfl w.heap.size w3.heap.size g w6.heap.size W5.heap.size w D3 X (HC6.out.go (one_alloc w6 (.cells #[.string X] 9)).1) rfl (w6.heap.size + 1) (one_alloc w6 (.cells #[.string X] 9)).2 rfl (heap_alloc_new w6 _) (((one_alloc w6 (.cells #[.string X] 9)).1.block _ (by have := HZ6.out; have := HSx.out; omega)).trans HX6.out) ⟨b6, by rw [(one_alloc w6 (.cells #[.string X] 9)).2]; omega⟩ ⟨by have := HBl.out; omega, by rw [(one_alloc w6 (.cells #[.string X] 9)).2]; have := HZ6.out; have := HSx.out; omega⟩ ?_; intro c cap w7 hf7; (obtain ⟨_, r7⟩ := hf7.box.cells); have r8 := (boxN_frozen hf7.box).2; have HF7 := Lib.hid hf7; clear hf7)
      | (refine step_append_cla rfl (.tmp 15) (.tmp 23) rfl w.heap.size w3.heap.size g (w6.heap.size + 1) w6.heap.size w D3 X (HC6.out.go (two_alloc w6 _ _ _ _).2.2.1) rfl (w6.heap.size + 1 + 1) (two_alloc w6 _ _ _ _).2.2.2 rfl (two_alloc w6 _ _ _ _).2.1 (two_alloc w6 _ _ _ _).1 ⟨by omega, by rw [(two_alloc w6 _ _ _ _).2.2.2]; omega⟩ ⟨b6, by rw [(two_alloc w6 _ _ _ _).2.2.2]; omega⟩ ?_; intro c cap w7 hf7; (obtain ⟨_, r7⟩ := hf7.box.cells); have r8 := (boxN_frozen hf7.box).2; have HF7 := Lib.hid hf7; clear hf7)
      | (refine step_append_cla rfl (.tmp 15) (.tmp 23) rfl w.heap.size w3.heap.size g w6.heap.size (w6.heap.size + 1) w D3 X (HC6.out.go (two_alloc w6 _ _ _ _).2.2.1) rfl (w6.heap.size + 1 + 1) (two_alloc w6 _ _ _ _).2.2.2 rfl (two_alloc w6 _ _ _ _).1 (two_alloc w6 _ _ _ _).2.1 ⟨b6, by rw [(two_alloc w6 _ _ _ _).2.2.2]; omega⟩ ⟨by omega, by rw [(two_alloc w6 _ _ _ _).2.2.2]; omega⟩ ?_; intro c cap w7 hf7; (obtain ⟨_, r7⟩ := hf7.box.cells); have r8 := (boxN_frozen hf7.box).2; have HF7 := Lib.hid hf7; clear hf7))
    all_goals
      go_simp
      go_wp2_with fail
      go_meet
      exact ⟨rfl, _, _, HF7.out.store.1, HF7.out.store.2.1, HF7.out.store.2.2.1, by rw [HF7.out.store.2.2.2]; exact HF7.out.lt.1⟩
  case rest =>
    obtain ⟨rfl, c, cap, hbx8, hia8, hbl8, hlt8⟩ := hcut
    rename World => w8
    have HBx8 := Lib.hid hbx8
    have HIa8 := Lib.hid hia8
    have HBl8 := Lib.hid hbl8
    have hls8 := hbl8.size
    clear hbx8 hia8 hbl8 r1
    go_upto_region 5 with (go_at_call 22; refine (HDg.out _).mono ?_; rintro e w9 ⟨rfl, hb9⟩; have HB9 := Lib.hid hb9; clear hb9)
    generalize hWa : World.alloc _ _ = Wa
    obtain ⟨ha1, ha2, ha3, ha4, ha5⟩ : BoxN Wa (w9.heap.size + 2) ⟨#[117, 105, 100, 61, 97]⟩ (.slice (some ⟨w9.heap.size + 1, 0, none⟩) 3 3) ∧ IsA Wa.heap.size Wa (claA X.data.toList) (.slice (some ⟨w9.heap.size + 1, 0, none⟩) 3 3) ∧ Below w8.heap.size w8 Wa ∧ Wa.heap.size = w9.heap.size + 3 ∧ w8.heap.size + 2 ≤ w9.heap.size := by
      rw [← hWa]
      exact cla_aw HB9.out
    generalize hap : w9.heap.size + 1 + 1 = ap
    have hap' : w9.heap.size + 2 = ap := hap
    rw [hap'] at ha1
    obtain ⟨aq, has⟩ : ∃ aq, aq = w9.heap.size + 1 := ⟨_, rfl⟩
    rw [← has] at ha1 ha2
    have hapl : ap < Wa.heap.size := by omega
    have HA1 := Lib.hid ha1
    have HA2 := Lib.hid ha2
    have HA3 := Lib.hid ha3
    have hla := ha3.size
    clear hWa ha1 ha2 ha3 hap hap' has ha4 ha5
    go_upto_region 6 with (first
      | (have _t := tokA; go_at_call 22; refine (HDg.out _).mono ?_; rintro e wd ⟨rfl, hbd⟩; have HBd := Lib.hid hbd; clear hbd _t; clear tokA)
      | (go_at_call 22; refine (HDg.out _).mono ?_; rintro e we ⟨rfl, hbe⟩; have HBe := Lib.hid (bthen HBd.out hbe); clear hbe))
    generalize hWb : World.alloc _ _ = Wb
    obtain ⟨hb1, hb2, hb3, hb4⟩ : BoxN Wb (we.heap.size + 3) D (.slice (some ⟨we.heap.size + 2, 0, none⟩) 2 2) ∧ IsA Wb.heap.size Wb (claB X.data.toList) (.slice (some ⟨we.heap.size + 2, 0, none⟩) 2 2) ∧ Below we.heap.size we Wb ∧ Wb.heap.size = we.heap.size + 4 := by
      rw [← hWb]
      exact cla_bw
    generalize hbp : we.heap.size + 1 + 1 + 1 = bp
    have hbp' : we.heap.size + 3 = bp := hbp
    rw [hbp'] at hb1
    obtain ⟨bs, hbs⟩ : ∃ bs, bs = we.heap.size + 2 := ⟨_, rfl⟩
    rw [← hbs] at hb1 hb2
    have hbpl : bp < Wb.heap.size := by omega
    have hBab : Below Wa.heap.size Wa Wb := HBe.out.trans (hb3.mono HBe.out.size)
    have HB1 := Lib.hid hb1
    have HB2 := Lib.hid hb2
    have HBab := Lib.hid hBab
    have hlb := hBab.size
    have HBx9 := Lib.hid ((HBx8.out.below HA3.out hlt8).below hBab (by omega))
    have HIa9 := Lib.hid ((HIa8.out.below HA3.out hla).below hBab hlb)
    have HBlb := Lib.hid ((HBl8.out.trans (HA3.out.mono hls8)).trans (hBab.mono (by omega)))
    have HA1b := Lib.hid (HA1.out.below hBab hapl)
    have HA2b := Lib.hid (HA2.out.below hBab hlb)
    have hxl : w3.heap.size < Wb.heap.size := by omega
    have hapb : ap < Wb.heap.size := by omega
    clear hWb hb1 hb2 hb3 hbp hbp' hbs hb4 hBab
    have HFi := Lib.hid (fun (W : World) (h : LaidF W) => findE_any ⟨#[80, 101, 114, 115, 111, 110]⟩ W h)
    rw [show (⟨#[80, 101, 114, 115, 111, 110]⟩ : ByteArray).data.toList = [80, 101, 114, 115, 111, 110] from rfl, cla_f] at HFi
    go_upto_region 7 with (go_at_call 14; refine (HFi.out _ (HL.out.below HBlb.out)).mono ?_; rintro e wf hfw; (simp only [FindW] at hfw); (rw [show strV perC.name = .string ⟨#[112, 101, 114, 115, 111, 110]⟩ from rfl, show strV perC.sup = .string ⟨#[116, 111, 112]⟩ from rfl, show perC.st = true from rfl] at hfw); (obtain ⟨hbf, u1, u2, rfl, hu1, hu2⟩ := hfw); (obtain ⟨xa, xn, xc, hx1⟩ := isTo_slice hu1); subst hx1; (obtain ⟨ya, yn, yc, hx2⟩ := isTo_slice hu2); subst hx2; have HBf := Lib.hid hbf; clear hbf hu1 hu2)
    have hcl := boxC_new wf (.string ⟨#[112, 101, 114, 115, 111, 110]⟩) (.string ⟨#[116, 111, 112]⟩) (.bool true) (.slice xa xn xc) (.slice ya yn yc)
    obtain ⟨l7, s7⟩ := one_alloc wf (.cells #[.string ⟨#[112, 101, 114, 115, 111, 110]⟩, .string ⟨#[116, 111, 112]⟩, .bool true, .slice xa xn xc, .slice ya yn yc] 29)
    generalize hW7 : World.alloc _ _ = W7
    have hcl7 : BoxC W7 wf.heap.size (.string ⟨#[112, 101, 114, 115, 111, 110]⟩) (.string ⟨#[116, 111, 112]⟩) (.bool true) (.slice xa xn xc) (.slice ya yn yc) := by rw [← hW7]; exact hcl
    have hl7 : Below Wb.heap.size Wb W7 := by rw [← hW7]; exact bthen HBf.out l7
    have hs7 : wf.heap.size < W7.heap.size := by rw [← hW7, s7]; omega
    clear hW7 hcl l7 s7
    obtain ⟨p0, p1⟩ := (HBx9.out.below hl7 hxl).cells
    have HCl := Lib.hid hcl7
    have HB7 := Lib.hid hl7
    have HLd : Hid (∀ W, Below Wb.heap.size Wb W → LaidW W ∧ LaidF W) := Lib.hid (fun W hb => ⟨HW.out.below (HBlb.out.trans (hb.mono HBlb.out.size)), HL.out.below (HBlb.out.trans (hb.mono HBlb.out.size))⟩)
    have hce : ∀ W, Below Wb.heap.size Wb W → Calls Tryz.prog 16 #[.agg #[.string D3, .slice (some ⟨c, 0, none⟩) 5 cap]] W fun e w' => e = .returned (.int .i64 0) ∧ Below W.heap.size W w' := fun W hb => by
      have := checkE_any D3 (by rw [← bytes_len, HD3.out]; simp [perD]) (claE X.data.toList) (.slice (some ⟨c, 0, none⟩) 5 cap) W (HLd.out W hb).1 (HLd.out W hb).2 (HIa9.out.below hb hb.size)
      rw [HD3.out, HXl.out] at this
      have e := cla_e ⟨n, by omega⟩
      replace this := (show Calls _ _ _ _ (fun e w' => e = .returned (.int .i64 (checkD (perD [97, 110, 110]) (claE (Lib.itoa (n : Int))))) ∧ Below W.heap.size W w') from this)
      rw [e] at this
      exact this
    have hca : ∀ W, Below Wb.heap.size Wb W → Calls Tryz.prog 16 #[.agg #[.string ⟨#[117, 105, 100, 61, 97]⟩, .slice (some ⟨aq, 0, none⟩) 3 3]] W fun e w' => e = .returned (.int .i64 65) ∧ Below W.heap.size W w' := fun W hb => by
      have := checkE_any ⟨#[117, 105, 100, 61, 97]⟩ (by decide) (claA X.data.toList) (.slice (some ⟨aq, 0, none⟩) 3 3) W (HLd.out W hb).1 (HLd.out W hb).2 (HA2b.out.below hb hb.size)
      rw [HXl.out] at this
      have e := cla_a ⟨n, by omega⟩
      replace this := (show Calls _ _ _ _ (fun e w' => e = .returned (.int .i64 (checkD [117, 105, 100, 61, 97] (claA (Lib.itoa (n : Int))))) ∧ Below W.heap.size W w') from this)
      rw [e] at this
      exact this
    have hcb : ∀ W, Below Wb.heap.size Wb W → Calls Tryz.prog 16 #[.agg #[.string D, .slice (some ⟨bs, 0, none⟩) 2 2]] W fun e w' => e = .returned (.int .i64 0) ∧ Below W.heap.size W w' := fun W hb => by
      have := checkE_any D (by omega) (claB X.data.toList) (.slice (some ⟨bs, 0, none⟩) 2 2) W (HLd.out W hb).1 (HLd.out W hb).2 (HB2.out.below hb hb.size)
      rw [HXl.out, HDl.out] at this
      have e := cla_b ⟨n, by omega⟩
      replace this := (show Calls _ _ _ _ (fun e w' => e = .returned (.int .i64 (checkD ([111, 61] ++ Lib.itoa (n : Int)) (claB (Lib.itoa (n : Int))))) ∧ Below W.heap.size W w') from this)
      rw [e] at this
      exact this
    have HCe := Lib.hid hce
    have HCa := Lib.hid hca
    have HCb := Lib.hid hcb
    have HB1' := HB1
    clear hce hca hcb hcl7 hl7
    go_wp2_with (first
      | (go_at_call 16; ((with_reducible refine (HCe.out _ HB7.out).mono ?_); rintro e wg ⟨rfl, hbg⟩); have HBg := Lib.hid (bthen HB7.out hbg); (obtain ⟨p2, p3⟩ := (HA1b.out.below HBg.out hapb).cells); have HClg := Lib.hid (HCl.out.below hbg hs7); have hsg : wf.heap.size < wg.heap.size := (Nat.lt_of_lt_of_le hs7 hbg.size); clear hbg)
      | (go_at_call 16; ((with_reducible refine (HCa.out _ HBg.out).mono ?_); rintro e wh ⟨rfl, hbh⟩); have HBh := Lib.hid (bthen HBg.out hbh); (obtain ⟨p4, p5⟩ := (HB1.out.below HBh.out hbpl).cells); have HClh := Lib.hid (HClg.out.below hbh hsg); have hsh : wf.heap.size < wh.heap.size := (Nat.lt_of_lt_of_le hsg hbh.size); clear hbh)
      | (go_at_call 16; ((with_reducible refine (HCb.out _ HBh.out).mono ?_); rintro e wi ⟨rfl, hbi⟩); have HBi := Lib.hid (bthen HBh.out hbi); (obtain ⟨z0, z1, z2, z3, z4⟩ := (HClh.out.below hbi hsh).cells); clear hbi)
      | (go_at_call 13; ((with_reducible refine (awake4_any _ (HLd.out _ HBi.out).1 (HLd.out _ HBi.out).2).mono ?_); rintro e wj ⟨rfl, hbj⟩); have HBj := Lib.hid (bthen HBi.out hbj); clear hbj))
    go_ret
    exact ⟨rfl, HBlb.out.trans (HBj.out.mono HBlb.out.size)⟩
end Go.Proofs.YtjffidegmonkfaaGreatDoor
