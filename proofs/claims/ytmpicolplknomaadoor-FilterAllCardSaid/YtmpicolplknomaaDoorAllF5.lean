/- Several texts in one file: FiDeep, FiOpen. -/
import Derived.Test.YtmpicolplknomaaDoorFiSamR
import Derived.Test.YtmpicolplknomaaDoorAllF4
import Derived.Laws.MakeOwn
import Derived.Laws.Rows
import Derived.OpenShut
import Derived.ChangeSlices
import Derived.ChangeArms
import Derived.Deep.Strs
/- brooklaw6.FilterDeep: the walk. -/
namespace Go.Proofs.YtmpicolplknomaaDoor
open Go.RowKit
set_option linter.unusedVariables false
set_option linter.unusedSimpArgs false

def deepF : Nat → FT
  | 0 => .mk 8 [99, 110] [] [] []
  | k + 1 => .mk 3 [] [] [] [deepF k]
def deepS : Nat → List UInt8
  | 0 => [40, 99, 110, 61, 42, 41]
  | k + 1 => 40 :: 33 :: (deepS k ++ [41])
theorem deep_may : ∀ d k : Nat, mayF d (deepF k) = decide (k < d)
  | 0, k => by simp [mayF]
  | d + 1, 0 => by
    show (if holdsC 8 then _ else okLeaf 8 [99, 110] [] [] 0) = _
    rw [if_neg (by decide)]
    simp
    decide +kernel
  | d + 1, k + 1 => by
    show (if holdsC 3 then ([] : List UInt8).isEmpty && ([] : List UInt8).isEmpty && ([] : List (List UInt8)).isEmpty && kidsC 3 [deepF k].length && [deepF k].all (mayF d) else _) = _
    rw [if_pos (by decide)]
    have := deep_may d k
    simp [kidsC, this]
theorem deep_text : ∀ k : Nat, textF (deepF k) = deepS k
  | 0 => by show textF (.mk 8 [99, 110] [] [] []) = _; rw [textF]; simp [signF, quo, starJ, textFs, deepS]
  | k + 1 => by
    show textF (.mk 3 [] [] [] [deepF k]) = _
    rw [textF]
    simp [signF, quo, starJ, textFs, deepS, deep_text k]
theorem deep_len : ∀ k : Nat, (deepS k).length = 6 + 3 * k
  | 0 => rfl
  | k + 1 => by
    show (40 :: 33 :: (deepS k ++ [41])).length = _
    have := deep_len k
    simp [this]; omega
theorem deep_ascii : ∀ k : Nat, ascii (deepS k)
  | 0 => by intro c hc; simp only [deepS, List.mem_cons, List.not_mem_nil, or_false] at hc; rcases hc with rfl | rfl | rfl | rfl | rfl | rfl <;> decide
  | k + 1 => by
    intro c hc
    have hc' : c ∈ 40 :: 33 :: (deepS k ++ [41]) := hc
    simp only [List.mem_cons, List.mem_append, List.not_mem_nil, or_false] at hc'
    rcases hc' with rfl | rfl | hc' | rfl
    · decide
    · decide
    · exact deep_ascii k c hc'
    · decide
theorem deep_few : ∀ k : Nat, fewP (deepF k)
  | 0 => ⟨by simp, trivial⟩
  | k + 1 => ⟨by simp, deep_few k, trivial⟩
theorem deep_parse (k : Nat) (hk : k < 16) : parseF (deepS k) = if k ≤ 12 then some (deepF k) else none := by
  by_cases h : k ≤ 12
  · rw [if_pos h, ← deep_text]
    exact parse_textF (by rw [deep_may]; simp; omega)
  · rw [if_neg h]
    have h3 : k = 13 ∨ k = 14 ∨ k = 15 := by omega
    rcases h3 with rfl | rfl | rfl
    · show parseF (deepS 13) = none; kernel_rfl
    · show parseF (deepS 14) = none; kernel_rfl
    · show parseF (deepS 15) = none; kernel_rfl
/-- The filter that is being built, in the block B. -/
def DeepAt (B j : Nat) (w wr : World) : Prop := ∃ x0 x1 x2 x3 x4, FlAt wr B x0 x1 x2 x3 x4 ∧ IsFl (fun b => b < wr.heap.size ∧ b ≠ B) wr (deepF j) (.agg #[x0, x1, x2, x3, x4]) ∧ Below B w wr
theorem mkHold {ok : Nat → Prop} {w : World} {k : Int} {l : List FT} {a : Option Addr} {c : Nat} (hk : (Lit.int .i64 k).wf = true) (hl : l.length ≤ maxLen) (h : IsFls ok w l a 0) :
    IsFl ok w (.mk k [] [] [] l) (.agg #[.int .i64 k, .string ⟨#[]⟩, .string ⟨#[]⟩, .slice none 0 0, .slice a l.length c]) :=
  ⟨.slice none 0 0, a, c, rfl, hk, Nat.zero_le _, Nat.zero_le _, ⟨none, 0, rfl, Nat.zero_le _, fun j h => absurd h (Nat.not_lt_zero _)⟩, hl, h⟩

theorem flV_shape {B : Nat} {w : World} {o : Option FT} {x : Value} {b : Bool} (h : FlV B w o x b) : ∃ k T X pa pn pc ka kn kc, x = .agg #[.int .i64 k, .string T, .string X, .slice pa pn pc, .slice ka kn kc] := by
  cases o with
  | none => exact ⟨_, _, _, _, _, _, _, _, _, h.1⟩
  | some f => exact IsFl.shape h.1
theorem grown_thenB {a b c : World} {r : Option Nat} (h : a.grownBy b r) (k : b.grownBy c r) : a.grownBy c r :=
  ⟨k.os.trans h.os, k.tape.trans h.tape, k.output.trans h.output, Nat.le_trans h.size k.size, fun x hx hn => (k.block x (Nat.lt_of_lt_of_le hx h.size) hn).trans (h.block x hx hn)⟩
/-- The row of the many, so many of which have been written. -/
def RowAt (W : World) (H n q : Nat) : Prop := ∃ C, W.heap[H]? = some (.cells C 25 (0, 0)) ∧ C.size = n * 5 ∧ ∀ k, k < q → C[k * 5]? = some (.int .i64 8) ∧ C[k * 5 + 1]? = some (.string ⟨#[115, 110]⟩) ∧ C[k * 5 + 2]? = some (.string ⟨#[]⟩) ∧ C[k * 5 + 3]? = some (.slice none 0 0) ∧ C[k * 5 + 4]? = some (.slice none 0 0)
theorem RowAt.cells {W : World} {H n q : Nat} (h : RowAt W H n q) (hq : q < n) : ∃ y0 y1 y2 y3 y4, W.cell? ⟨H, q * 5, none⟩ = some y0 ∧ W.cell? ⟨H, q * 5 + 1, none⟩ = some y1 ∧ W.cell? ⟨H, q * 5 + 2, none⟩ = some y2 ∧ W.cell? ⟨H, q * 5 + 3, none⟩ = some y3 ∧ W.cell? ⟨H, q * 5 + 4, none⟩ = some y4 := by
  obtain ⟨C, hC, hz, _⟩ := h
  refine ⟨C[q * 5]'(by omega), C[q * 5 + 1]'(by omega), C[q * 5 + 2]'(by omega), C[q * 5 + 3]'(by omega), C[q * 5 + 4]'(by omega), ?_, ?_, ?_, ?_, ?_⟩ <;> simp [World.cell?, hC, hz] <;> omega
theorem RowAt.frozen {W : World} {H n q : Nat} (h : RowAt W H n q) (k : Nat) : W.frozen? ⟨H, k * 5, none⟩ = false ∧ W.frozen? ⟨H, k * 5 + 1, none⟩ = false ∧ W.frozen? ⟨H, k * 5 + 2, none⟩ = false ∧ W.frozen? ⟨H, k * 5 + 3, none⟩ = false ∧ W.frozen? ⟨H, k * 5 + 4, none⟩ = false := by
  obtain ⟨C, hC, hz, _⟩ := h
  refine ⟨?_, ?_, ?_, ?_, ?_⟩ <;> simp [World.frozen?, hC]
def setR (W : World) (H o : Nat) (x0 x1 x2 x3 x4 : Value) : World := ((((W.setCell ⟨H, o, none⟩ x0).setCell ⟨H, o + 1, none⟩ x1).setCell ⟨H, o + 2, none⟩ x2).setCell ⟨H, o + 3, none⟩ x3).setCell ⟨H, o + 4, none⟩ x4
theorem RowAt.store {W : World} {H n q : Nat} (h : RowAt W H n q) (hq : q < n) : RowAt (setR W H (q * 5) (.int .i64 8) (.string ⟨#[115, 110]⟩) (.string ⟨#[]⟩) (.slice none 0 0) (.slice none 0 0)) H n (q + 1) := by
  obtain ⟨C, hC, hz, hk⟩ := h
  refine ⟨_, heap_setCell_same _ H _ _ _ _ (heap_setCell_same _ H _ _ _ _ (heap_setCell_same _ H _ _ _ _ (heap_setCell_same _ H _ _ _ _ (heap_setCell_same _ H _ _ _ _ hC)))), by simp [hz], fun k hk' => ?_⟩
  by_cases hkq : k = q
  · subst hkq
    refine ⟨?_, ?_, ?_, ?_, ?_⟩
    · rw [Array.getElem?_setIfInBounds_ne (by omega), Array.getElem?_setIfInBounds_ne (by omega), Array.getElem?_setIfInBounds_ne (by omega), Array.getElem?_setIfInBounds_ne (by omega), Array.getElem?_setIfInBounds_self_of_lt (by simp [hz]; omega)]
    · rw [Array.getElem?_setIfInBounds_ne (by omega), Array.getElem?_setIfInBounds_ne (by omega), Array.getElem?_setIfInBounds_ne (by omega), Array.getElem?_setIfInBounds_self_of_lt (by simp [hz]; omega)]
    · rw [Array.getElem?_setIfInBounds_ne (by omega), Array.getElem?_setIfInBounds_ne (by omega), Array.getElem?_setIfInBounds_self_of_lt (by simp [hz]; omega)]
    · rw [Array.getElem?_setIfInBounds_ne (by omega), Array.getElem?_setIfInBounds_self_of_lt (by simp [hz]; omega)]
    · rw [Array.getElem?_setIfInBounds_self_of_lt (by simp [hz]; omega)]
  · have := hk k (by omega)
    obtain ⟨h0, h1, h2, h3, h4⟩ := this
    refine ⟨?_, ?_, ?_, ?_, ?_⟩
    · rw [Array.getElem?_setIfInBounds_ne (by omega), Array.getElem?_setIfInBounds_ne (by omega), Array.getElem?_setIfInBounds_ne (by omega), Array.getElem?_setIfInBounds_ne (by omega), Array.getElem?_setIfInBounds_ne (by omega), h0]
    · rw [Array.getElem?_setIfInBounds_ne (by omega), Array.getElem?_setIfInBounds_ne (by omega), Array.getElem?_setIfInBounds_ne (by omega), Array.getElem?_setIfInBounds_ne (by omega), Array.getElem?_setIfInBounds_ne (by omega), h1]
    · rw [Array.getElem?_setIfInBounds_ne (by omega), Array.getElem?_setIfInBounds_ne (by omega), Array.getElem?_setIfInBounds_ne (by omega), Array.getElem?_setIfInBounds_ne (by omega), Array.getElem?_setIfInBounds_ne (by omega), h2]
    · rw [Array.getElem?_setIfInBounds_ne (by omega), Array.getElem?_setIfInBounds_ne (by omega), Array.getElem?_setIfInBounds_ne (by omega), Array.getElem?_setIfInBounds_ne (by omega), Array.getElem?_setIfInBounds_ne (by omega), h3]
    · rw [Array.getElem?_setIfInBounds_ne (by omega), Array.getElem?_setIfInBounds_ne (by omega), Array.getElem?_setIfInBounds_ne (by omega), Array.getElem?_setIfInBounds_ne (by omega), Array.getElem?_setIfInBounds_ne (by omega), h4]
theorem isFls_mk {ok : Nat → Prop} {w : World} : ∀ (l : List FT) (a : Option Addr) (i : Nat), (∀ k (h : k < l.length), ∃ b off v0 v1 v2 v3 v4, a = some ⟨b, off, none⟩ ∧ ok b ∧ w.cell? ⟨b, off + (i + k) * 5, none⟩ = some v0 ∧ w.cell? ⟨b, off + (i + k) * 5 + 1, none⟩ = some v1 ∧ w.cell? ⟨b, off + (i + k) * 5 + 2, none⟩ = some v2 ∧ w.cell? ⟨b, off + (i + k) * 5 + 3, none⟩ = some v3 ∧ w.cell? ⟨b, off + (i + k) * 5 + 4, none⟩ = some v4 ∧ IsFl ok w l[k] (.agg #[v0, v1, v2, v3, v4])) → IsFls ok w l a i
  | [], _, _, _ => trivial
  | f :: l, a, i, h => ⟨h 0 (by simp), isFls_mk l a (i + 1) fun k hk => by
      have := h (k + 1) (by simpa using hk)
      rw [show i + (k + 1) = i + 1 + k from by omega] at this
      exact this⟩
theorem RowAt.isFls {ok : Nat → Prop} {W : World} {H n : Nat} (h : RowAt W H n n) (hH : ok H) : IsFls ok W (List.replicate n (.mk 8 [115, 110] [] [] [])) (some ⟨H, 0, none⟩) 0 := by
  obtain ⟨C, hC, hz, hk⟩ := h
  refine isFls_mk _ _ _ fun k hkl => ?_
  rw [List.length_replicate] at hkl
  obtain ⟨h0, h1, h2, h3, h4⟩ := hk k hkl
  refine ⟨H, 0, _, _, _, _, _, rfl, hH, ?_, ?_, ?_, ?_, ?_, by rw [List.getElem_replicate]; exact mkFl (k := 8) (t := [115, 110]) (x := []) (p := []) (u := .slice none 0 0) (by decide) (by show 2 ≤ maxLen; decide) (Nat.zero_le _) ⟨none, 0, rfl, Nat.zero_le _, fun j h => absurd h (Nat.not_lt_zero _)⟩⟩
  all_goals simp only [World.cell?, hC, Nat.zero_add, Option.isSome_none, Bool.false_eq_true, if_false]
  · exact h0
  · exact h1
  · exact h2
  · exact h3
  · exact h4
theorem many_may (n : Nat) : mayF 13 (.mk 2 [] [] [] (List.replicate n (.mk 8 [115, 110] [] [] []))) = decide (n ≤ 40) := by
  have h1 : mayF 12 (.mk 8 [115, 110] [] [] []) = true := by decide +kernel
  show (if holdsC 2 then ([] : List UInt8).isEmpty && ([] : List UInt8).isEmpty && ([] : List (List UInt8)).isEmpty && kidsC 2 (List.replicate n (FT.mk 8 [115, 110] [] [] [])).length && (List.replicate n (FT.mk 8 [115, 110] [] [] [])).all (mayF 12) else _) = _
  rw [if_pos (by decide), List.length_replicate]
  have h2 : (List.replicate n (FT.mk 8 [115, 110] [] [] [])).all (mayF 12) = true := by
    rw [List.all_eq_true]
    intro f hf
    rw [(List.mem_replicate.1 hf).2, h1]
  rw [h2]
  simp [kidsC]
theorem set1_grown (W : World) (H o : Nat) (x : Value) : W.grownBy (W.setCell ⟨H, o, none⟩ x) (some H) :=
  ⟨rfl, rfl, rfl, by rw [World.size_setCell]; exact Nat.le_refl _, fun k hk hne => heap_setCell_other _ _ _ _ (fun e => hne (by rw [e]))⟩
theorem setR_grown (W : World) (H o : Nat) (x0 x1 x2 x3 x4 : Value) : W.grownBy (setR W H o x0 x1 x2 x3 x4) (some H) :=
  grown_thenB (grown_thenB (grown_thenB (grown_thenB (set1_grown W H o x0) (set1_grown _ H (o + 1) x1)) (set1_grown _ H (o + 2) x2)) (set1_grown _ H (o + 3) x3)) (set1_grown _ H (o + 4) x4)

end Go.Proofs.YtmpicolplknomaaDoor

/- A filter among the arguments. -/
namespace Go.Proofs.YtmpicolplknomaaDoor
open Go.RowKit
set_option linter.unusedVariables false
set_option linter.unusedSimpArgs false

theorem fl_cellsOf1 : Tryd.prog.cellsOf 3 = 1 := by kernel_rfl
theorem fl_cellsOf2 : Tryd.prog.cellsOf 9 = 1 := by kernel_rfl
theorem fl_cellsOf3 : Tryd.prog.cellsOf 22 = 1 := by kernel_rfl
theorem fl_cellsOf4 : Tryd.prog.cellsOf 23 = 1 := by kernel_rfl
theorem fl_cellsOf5 : Tryd.prog.cellsOf 25 = 5 := by kernel_rfl
theorem isTo_nilO {ok : Nat → Prop} {w : World} : IsTo ok w [] (.slice none 0 0) := ⟨none, 0, rfl, Nat.zero_le _, fun j h => absurd h (Nat.not_lt_zero _)⟩
theorem trod_parts {H : Type} {enc : TypeId × Value → H} {W : World} {fuel : Nat} {v : Value} {x : DataW H × List MemPlace} (hf : DataW.trod enc Tryd.prog W 0 (fun _ => true) true fuel 22 [v] = some x) : ∃ p, IsTo (Lt W) W p v := by
  rcases Go.Deep.open_strs Tryd.underlying22 Tryd.underlying9 fl_cellsOf2 hf with ⟨hcs, _⟩ | ⟨a, len, cap, m, Sx, hcs, _, hle, hmax, hm, _, hcell⟩
  · simp only [List.cons.injEq, and_true] at hcs
    subst hcs
    exact ⟨[], isTo_nilO⟩
  · simp only [List.cons.injEq, and_true] at hcs
    subst hcs
    simp only [if_true] at hm
    have hlen : ((List.range len).map fun i => (Sx i).data.toList).length = len := by simp
    refine ⟨(List.range len).map fun i => (Sx i).data.toList, some a, cap, by rw [hlen], by rw [hlen]; omega, fun j hj => ?_⟩
    rw [hlen] at hj
    obtain ⟨b, off, spot⟩ := a
    have h1 := (hcell 0 (by omega)).1
    have hspot : spot = none := by simpa [Addr.add] using World.cell?_spot h1
    subst hspot
    refine ⟨b, off, rfl, World.block_lt_of_cell? W _ h1, ?_⟩
    have h2 := (hcell j (by omega)).1
    rw [Go.WideShapes.add_plain] at h2
    rw [h2]
    simp only [List.getElem_map, List.getElem_range]
    rw [strV_whole]
/-- The filters of a list that lies in memory, one by one. -/
theorem isFls_of {W : World} {b off : Nat} (hb : b < W.heap.size) : ∀ (n i : Nat), (∀ j, j < n → ∃ t v0 v1 v2 v3 v4, W.cell? ⟨b, off + (i + j) * 5, none⟩ = some v0 ∧ W.cell? ⟨b, off + (i + j) * 5 + 1, none⟩ = some v1 ∧ W.cell? ⟨b, off + (i + j) * 5 + 2, none⟩ = some v2 ∧ W.cell? ⟨b, off + (i + j) * 5 + 3, none⟩ = some v3 ∧ W.cell? ⟨b, off + (i + j) * 5 + 4, none⟩ = some v4 ∧ IsFl (Lt W) W t (.agg #[v0, v1, v2, v3, v4])) →
    ∃ l : List FT, l.length = n ∧ IsFls (Lt W) W l (some ⟨b, off, none⟩) i
  | 0, i, _ => ⟨[], rfl, trivial⟩
  | n + 1, i, h => by
    obtain ⟨t, v0, v1, v2, v3, v4, c0, c1, c2, c3, c4, ht⟩ := h 0 (by omega)
    obtain ⟨l, hl, hls⟩ := isFls_of hb n (i + 1) fun j hj => by
      have := h (j + 1) (by omega)
      rw [show i + (j + 1) = i + 1 + j from by omega] at this
      exact this
    exact ⟨t :: l, by simp [hl], ⟨b, off, v0, v1, v2, v3, v4, rfl, hb, c0, c1, c2, c3, c4, ht⟩, hls⟩

set_option maxRecDepth 100000 in
theorem trod_filter {H : Type} {enc : TypeId × Value → H} {W : World} : ∀ (fuel : Nat) (cs : List Value) (x : DataW H × List MemPlace), DataW.trod enc Tryd.prog W 0 (fun _ => true) true fuel 25 cs = some x →
    ∃ t v0 v1 v2 v3 v4, cs = [v0, v1, v2, v3, v4] ∧ IsFl (Lt W) W t (.agg #[v0, v1, v2, v3, v4]) := by
  intro fuel
  induction fuel using Nat.strongRecOn with
  | _ fuel ih =>
    intro cs x h
    obtain ⟨xs, n, hfu, _, hlen, hxl, hf⟩ := DataW.trod_struct Tryd.underlying25 h
    rw [fl_cellsOf5] at hlen
    obtain ⟨v0, v1, v2, v3, v4, rfl⟩ : ∃ v0 v1 v2 v3 v4, cs = [v0, v1, v2, v3, v4] := by
      match cs, hlen with
      | [v0, v1, v2, v3, v4], _ => exact ⟨v0, v1, v2, v3, v4, rfl⟩
    have f0 : DataW.trod enc Tryd.prog W 0 (fun _ => true) true n 3 ((([v0, v1, v2, v3, v4] : List Value).drop 0).take (Tryd.prog.cellsOf 3)) = xs[0]? := hf 0 _ rfl
    have f1 : DataW.trod enc Tryd.prog W 0 (fun _ => true) true n 9 ((([v0, v1, v2, v3, v4] : List Value).drop 1).take (Tryd.prog.cellsOf 9)) = xs[1]? := hf 1 _ rfl
    have f2 : DataW.trod enc Tryd.prog W 0 (fun _ => true) true n 9 ((([v0, v1, v2, v3, v4] : List Value).drop 2).take (Tryd.prog.cellsOf 9)) = xs[2]? := hf 2 _ rfl
    have f3 : DataW.trod enc Tryd.prog W 0 (fun _ => true) true n 22 ((([v0, v1, v2, v3, v4] : List Value).drop 3).take (Tryd.prog.cellsOf 22)) = xs[3]? := hf 3 _ rfl
    have f4 : DataW.trod enc Tryd.prog W 0 (fun _ => true) true n 23 ((([v0, v1, v2, v3, v4] : List Value).drop 4).take (Tryd.prog.cellsOf 23)) = xs[4]? := hf 4 _ rfl
    rw [fl_cellsOf1] at f0
    rw [fl_cellsOf2] at f1 f2
    rw [fl_cellsOf3] at f3
    rw [fl_cellsOf4] at f4
    simp only [List.drop_zero, List.take_succ_cons, List.take_zero, List.drop_succ_cons] at f0 f1 f2 f3 f4
    have hx3 : xs.length = 5 := hxl
    obtain ⟨y0, y1, y2, y3, y4, rfl⟩ : ∃ y0 y1 y2 y3 y4, xs = [y0, y1, y2, y3, y4] := by
      match xs, hx3 with
      | [y0, y1, y2, y3, y4], _ => exact ⟨y0, y1, y2, y3, y4, rfl⟩
    simp only [List.getElem?_cons_zero, List.getElem?_cons_succ] at f0 f1 f2 f3 f4
    obtain ⟨k, e0, _, hwf⟩ := DataW.trod_int Tryd.underlying3 f0
    obtain ⟨T, e1, _, hT⟩ := DataW.trod_string Tryd.underlying9 f1
    obtain ⟨X, e2, _, hX⟩ := DataW.trod_string Tryd.underlying9 f2
    obtain ⟨p, hp⟩ := trod_parts f3
    simp only [List.cons.injEq, and_true] at e0 e1 e2
    subst e0 e1 e2
    have hTl : T.data.toList.length ≤ maxLen := by rw [bytes_len]; exact hT
    have hXl : X.data.toList.length ≤ maxLen := by rw [bytes_len]; exact hX
    have mk : ∀ (l : List FT) (a : Option Addr) (c : Nat), l.length ≤ maxLen → IsFls (Lt W) W l a 0 → IsFl (Lt W) W (.mk k T.data.toList X.data.toList p l) (.agg #[.int .i64 k, .string T, .string X, v3, .slice a l.length c]) := fun l a c h1 h2 =>
      ⟨v3, a, c, by rw [strV_whole, strV_whole], hwf, hTl, hXl, hp, h1, h2⟩
    rcases DataW.trod_slice Tryd.underlying23 f4 with ⟨e4, _⟩ | ⟨a, len, cap, elems, rest, m, hm, e4, _, _, hl, hc, hel, helt, _, _⟩
    · simp only [List.cons.injEq, and_true] at e4
      subst e4
      exact ⟨_, _, _, _, _, _, rfl, mk [] none 0 (Nat.zero_le _) trivial⟩
    · simp only [List.cons.injEq, and_true] at e4
      subst e4
      have each : ∀ i, i < len → ∃ t u0 u1 u2 u3 u4, W.cell? (a.add (i * 5)) = some u0 ∧ W.cell? ((a.add (i * 5)).add 1) = some u1 ∧ W.cell? ((a.add (i * 5)).add 2) = some u2 ∧ W.cell? ((a.add (i * 5)).add 3) = some u3 ∧ W.cell? ((a.add (i * 5)).add 4) = some u4 ∧ IsFl (Lt W) W t (.agg #[u0, u1, u2, u3, u4]) := by
        intro i hi
        have hh := helt i hi
        rw [fl_cellsOf5] at hh
        have hil : i < elems.length := hel.symm ▸ hi
        rw [List.getElem?_eq_getElem hil, Option.bind_eq_some_iff] at hh
        obtain ⟨cs', hcs, hy⟩ := hh
        obtain ⟨t, u0, u1, u2, u3, u4, hcs', ht⟩ := ih m (by omega) cs' _ hy
        subst hcs'
        have hk := (World.cells?_some hcs).2.2
        have k0 := hk 0 (by omega)
        have k1 := hk 1 (by omega)
        have k2 := hk 2 (by omega)
        have k3 := hk 3 (by omega)
        have k4 := hk 4 (by omega)
        refine ⟨t, u0, u1, u2, u3, u4, ?_, k1, k2, k3, k4, ht⟩
        simpa [Addr.add] using k0
      by_cases h0 : len = 0
      · subst h0
        exact ⟨_, _, _, _, _, _, rfl, mk [] (some a) cap (Nat.zero_le _) trivial⟩
      · obtain ⟨t0, u0, u1, u2, u3, u4, k0, _⟩ := each 0 (by omega)
        obtain ⟨b, off, spot⟩ := a
        have hspot : spot = none := by simpa [Addr.add] using World.cell?_spot k0
        subst hspot
        have hblt : b < W.heap.size := World.block_lt_of_cell? W _ k0
        obtain ⟨l, hll, hls⟩ := isFls_of (off := off) hblt len 0 fun j hj => by
          obtain ⟨t, w0, w1, w2, w3, w4, p0, p1, p2, p3, p4, ht⟩ := each j hj
          rw [Go.WideShapes.add_plain] at p0 p1 p2 p3 p4
          rw [Go.WideShapes.add_plain] at p1 p2 p3 p4
          refine ⟨t, w0, w1, w2, w3, w4, ?_, ?_, ?_, ?_, ?_, ht⟩
          · rw [Nat.zero_add]; exact p0
          · rw [Nat.zero_add]; exact p1
          · rw [Nat.zero_add]; exact p2
          · rw [Nat.zero_add]; exact p3
          · rw [Nat.zero_add]; exact p4
        subst hll
        exact ⟨_, _, _, _, _, _, rfl, mk l (some ⟨b, off, none⟩) cap (Nat.le_trans hl hc) hls⟩
theorem open_filter {H : Type} {enc : TypeId × Value → H} {W : World} {v : Value} {d : DataW H} {ps : List MemPlace} (hd : DataW.Trod enc Tryd.prog W 0 (fun _ => true) true 25 v d ps) (hv : ∃ cs, v = .agg cs) : ∃ t, IsFl (Lt W) W t v := by
  obtain ⟨fuel, hf⟩ := hd
  obtain ⟨t, v0, v1, v2, v3, v4, e, ht⟩ := trod_filter fuel _ _ hf
  obtain ⟨cs, rfl⟩ := hv
  refine ⟨t, ?_⟩
  have : cs = #[v0, v1, v2, v3, v4] := by
    cases cs
    simpa [Value.cells] using e
  rw [this]; exact ht
end Go.Proofs.YtmpicolplknomaaDoor
