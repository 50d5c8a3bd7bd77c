/- A tlv among the arguments. -/
import Derived.Test.YtiagcegclgallaaMem
import Derived.OpenShut
import Derived.ChangeSlices
import Derived.ChangeArms
namespace Go.Proofs.Ytiagcegclgallaa
open Go.RowKit
set_option linter.unusedVariables false

theorem cellsOf3 : Try.prog.cellsOf 3 = 1 := by kernel_rfl
theorem cellsOf9 : Try.prog.cellsOf 9 = 1 := by kernel_rfl
theorem cellsOf22 : Try.prog.cellsOf 22 = 1 := by kernel_rfl
theorem cellsOf24 : Try.prog.cellsOf 24 = 3 := by kernel_rfl

/-- The elements of a list that lies in memory, one by one. -/
theorem isTs_of {W : World} {b off : Nat} (hb : b < W.heap.size) : ∀ (n i : Nat), (∀ j, j < n → ∃ t v0 v1 v2, W.cell? ⟨b, off + (i + j) * 3, none⟩ = some v0 ∧ W.cell? ⟨b, off + (i + j) * 3 + 1, none⟩ = some v1 ∧ W.cell? ⟨b, off + (i + j) * 3 + 2, none⟩ = some v2 ∧ IsT W.heap.size W t (.agg #[v0, v1, v2])) →
    ∃ l : List T, l.length = n ∧ IsTs W.heap.size W l (some ⟨b, off, none⟩) i
  | 0, i, _ => ⟨[], rfl, trivial⟩
  | n + 1, i, h => by
    obtain ⟨t, v0, v1, v2, c0, c1, c2, ht⟩ := h 0 (by omega)
    obtain ⟨l, hl, hls⟩ := isTs_of hb n (i + 1) fun j hj => by
      have := h (j + 1) (by omega)
      rw [show i + (j + 1) = i + 1 + j from by omega] at this
      exact this
    exact ⟨t :: l, by simp [hl], ⟨b, off, v0, v1, v2, rfl, hb, c0, c1, c2, ht⟩, hls⟩

theorem trod_tlv {H : Type} {enc : TypeId × Value → H} {W : World} : ∀ (fuel : Nat) (cs : List Value) (x : DataW H × List MemPlace), DataW.trod enc Try.prog W 0 (fun _ => true) true fuel 24 cs = some x →
    ∃ t v0 v1 v2, cs = [v0, v1, v2] ∧ IsT W.heap.size W t (.agg #[v0, v1, v2]) := by
  intro fuel
  induction fuel using Nat.strongRecOn with
  | _ fuel ih =>
    intro cs x h
    obtain ⟨xs, n, hfu, _, hlen, hxl, hf⟩ := DataW.trod_struct Try.underlying24 h
    rw [cellsOf24] at hlen
    obtain ⟨v0, v1, v2, rfl⟩ : ∃ v0 v1 v2, cs = [v0, v1, v2] := by
      match cs, hlen with
      | [v0, v1, v2], _ => exact ⟨v0, v1, v2, rfl⟩
    have f0 : DataW.trod enc Try.prog W 0 (fun _ => true) true n 3 ((([v0, v1, v2] : List Value).drop 0).take (Try.prog.cellsOf 3)) = xs[0]? := hf 0 _ rfl
    have f1 : DataW.trod enc Try.prog W 0 (fun _ => true) true n 9 ((([v0, v1, v2] : List Value).drop 1).take (Try.prog.cellsOf 9)) = xs[1]? := hf 1 _ rfl
    have f2 : DataW.trod enc Try.prog W 0 (fun _ => true) true n 22 ((([v0, v1, v2] : List Value).drop 2).take (Try.prog.cellsOf 22)) = xs[2]? := hf 2 _ rfl
    rw [cellsOf3] at f0
    rw [cellsOf9] at f1
    rw [cellsOf22] at f2
    simp only [List.drop_zero, List.take_succ_cons, List.take_zero, List.drop_succ_cons] at f0 f1 f2
    have hx3 : xs.length = 3 := hxl
    obtain ⟨y0, y1, y2, rfl⟩ : ∃ y0 y1 y2, xs = [y0, y1, y2] := by
      match xs, hx3 with
      | [y0, y1, y2], _ => exact ⟨y0, y1, y2, rfl⟩
    simp only [List.getElem?_cons_zero, List.getElem?_cons_succ] at f0 f1 f2
    obtain ⟨tag, e0, _, hwf⟩ := DataW.trod_int Try.underlying3 f0
    obtain ⟨s, e1, _, hs⟩ := DataW.trod_string Try.underlying9 f1
    simp only [List.cons.injEq, and_true] at e0 e1
    subst e0 e1
    rcases DataW.trod_slice Try.underlying22 f2 with ⟨e2, _⟩ | ⟨a, len, cap, elems, rest, m, hm, e2, _, _, hl, hc, hel, helt, _, _⟩
    · simp only [List.cons.injEq, and_true] at e2
      subst e2
      exact ⟨.mk tag s [], _, _, _, rfl, none, 0, rfl, hwf, hs, Nat.zero_le _, trivial⟩
    · simp only [List.cons.injEq, and_true] at e2
      subst e2
      have each : ∀ i, i < len → ∃ t u0 u1 u2, W.cell? (a.add (i * 3)) = some u0 ∧ W.cell? ((a.add (i * 3)).add 1) = some u1 ∧ W.cell? ((a.add (i * 3)).add 2) = some u2 ∧ IsT W.heap.size W t (.agg #[u0, u1, u2]) := by
        intro i hi
        have hh := helt i hi
        rw [cellsOf24] at hh
        have hil : i < elems.length := hel.symm ▸ hi
        rw [List.getElem?_eq_getElem hil, Option.bind_eq_some_iff] at hh
        obtain ⟨cs', hcs, hy⟩ := hh
        obtain ⟨t, u0, u1, u2, hcs', ht⟩ := ih m (by omega) cs' _ hy
        subst hcs'
        have hk := (World.cells?_some hcs).2.2
        have k0 := hk 0 (by omega)
        have k1 := hk 1 (by omega)
        have k2 := hk 2 (by omega)
        refine ⟨t, u0, u1, u2, ?_, k1, k2, ht⟩
        simpa [Addr.add] using k0
      by_cases h0 : len = 0
      · subst h0
        exact ⟨.mk tag s [], _, _, _, rfl, some a, cap, rfl, hwf, hs, Nat.zero_le _, trivial⟩
      · obtain ⟨t0, u0, u1, u2, k0, _⟩ := each 0 (by omega)
        obtain ⟨b, off, spot⟩ := a
        have hspot : spot = none := by simpa [Addr.add] using World.cell?_spot k0
        subst hspot
        have hblt : b < W.heap.size := World.block_lt_of_cell? W _ k0
        obtain ⟨l, hll, hls⟩ := isTs_of (off := off) hblt len 0 fun j hj => by
          obtain ⟨t, w0, w1, w2, p0, p1, p2, ht⟩ := each j hj
          rw [Go.WideShapes.add_plain] at p0 p1 p2
          rw [Go.WideShapes.add_plain] at p1 p2
          refine ⟨t, w0, w1, w2, ?_, ?_, ?_, ht⟩
          · rw [Nat.zero_add]; exact p0
          · rw [Nat.zero_add]; exact p1
          · rw [Nat.zero_add]; exact p2
        subst hll
        exact ⟨.mk tag s l, _, _, _, rfl, _, cap, rfl, hwf, hs, Nat.le_trans hl hc, hls⟩

theorem open_tlv {H : Type} {enc : TypeId × Value → H} {W : World} {v : Value} {d : DataW H} {ps : List MemPlace} (hd : DataW.Trod enc Try.prog W 0 (fun _ => true) true 24 v d ps) (hv : ∃ cs, v = .agg cs) : ∃ t, IsT W.heap.size W t v := by
  obtain ⟨fuel, hf⟩ := hd
  obtain ⟨t, v0, v1, v2, e, ht⟩ := trod_tlv fuel _ _ hf
  obtain ⟨cs, rfl⟩ := hv
  refine ⟨t, ?_⟩
  have : cs = #[v0, v1, v2] := by
    cases cs
    simpa [Value.cells] using e
  rw [this]; exact ht
end Go.Proofs.Ytiagcegclgallaa
