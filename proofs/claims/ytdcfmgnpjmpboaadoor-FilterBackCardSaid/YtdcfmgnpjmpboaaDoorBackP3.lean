/- Several texts in one file: FiDeep, FiMkL. -/
import Derived.Test.YtdcfmgnpjmpboaaDoorBackP2
import Derived.Laws.MakeOwn
import Derived.Laws.Rows
import Derived.Test.YtdcfmgnpjmpboaaDoorBackP1
/- brooklaw6.FilterDeep: the walk. -/
namespace Go.Proofs.YtdcfmgnpjmpboaaDoor
open Go.RowKit
set_option linter.unusedVariables false
set_option linter.unusedSimpArgs false

def deepF : Nat → FT
  | 0 => .mk 8 [99, 110] [] [] []
  | k + 1 => .mk 3 [] [] [] [deepF k]
def deepS : Nat → List UInt8
  | 0 => [40, 99, 110, 61, 42, 41]
  | k + 1 => 40 :: 33 :: (deepS k ++ [41])
theorem deep_may : ∀ d k : Nat, mayF d (deepF k) = decide (k < d)
  | 0, k => by simp [mayF]
  | d + 1, 0 => by
    show (if holdsC 8 then _ else okLeaf 8 [99, 110] [] [] 0) = _
    rw [if_neg (by decide)]
    simp
    decide +kernel
  | d + 1, k + 1 => by
    show (if holdsC 3 then ([] : List UInt8).isEmpty && ([] : List UInt8).isEmpty && ([] : List (List UInt8)).isEmpty && kidsC 3 [deepF k].length && [deepF k].all (mayF d) else _) = _
    rw [if_pos (by decide)]
    have := deep_may d k
    simp [kidsC, this]
theorem deep_text : ∀ k : Nat, textF (deepF k) = deepS k
  | 0 => by show textF (.mk 8 [99, 110] [] [] []) = _; rw [textF]; simp [signF, quo, starJ, textFs, deepS]
  | k + 1 => by
    show textF (.mk 3 [] [] [] [deepF k]) = _
    rw [textF]
    simp [signF, quo, starJ, textFs, deepS, deep_text k]
theorem deep_len : ∀ k : Nat, (deepS k).length = 6 + 3 * k
  | 0 => rfl
  | k + 1 => by
    show (40 :: 33 :: (deepS k ++ [41])).length = _
    have := deep_len k
    simp [this]; omega
theorem deep_ascii : ∀ k : Nat, ascii (deepS k)
  | 0 => by intro c hc; simp only [deepS, List.mem_cons, List.not_mem_nil, or_false] at hc; rcases hc with rfl | rfl | rfl | rfl | rfl | rfl <;> decide
  | k + 1 => by
    intro c hc
    have hc' : c ∈ 40 :: 33 :: (deepS k ++ [41]) := hc
    simp only [List.mem_cons, List.mem_append, List.not_mem_nil, or_false] at hc'
    rcases hc' with rfl | rfl | hc' | rfl
    · decide
    · decide
    · exact deep_ascii k c hc'
    · decide
theorem deep_few : ∀ k : Nat, fewP (deepF k)
  | 0 => ⟨by simp, trivial⟩
  | k + 1 => ⟨by simp, deep_few k, trivial⟩
theorem deep_parse (k : Nat) (hk : k < 16) : parseF (deepS k) = if k ≤ 12 then some (deepF k) else none := by
  by_cases h : k ≤ 12
  · rw [if_pos h, ← deep_text]
    exact parse_textF (by rw [deep_may]; simp; omega)
  · rw [if_neg h]
    have h3 : k = 13 ∨ k = 14 ∨ k = 15 := by omega
    rcases h3 with rfl | rfl | rfl
    · show parseF (deepS 13) = none; kernel_rfl
    · show parseF (deepS 14) = none; kernel_rfl
    · show parseF (deepS 15) = none; kernel_rfl
/-- The filter that is being built, in the block B. -/
def DeepAt (B j : Nat) (w wr : World) : Prop := ∃ x0 x1 x2 x3 x4, FlAt wr B x0 x1 x2 x3 x4 ∧ IsFl (fun b => b < wr.heap.size ∧ b ≠ B) wr (deepF j) (.agg #[x0, x1, x2, x3, x4]) ∧ Below B w wr
theorem mkHold {ok : Nat → Prop} {w : World} {k : Int} {l : List FT} {a : Option Addr} {c : Nat} (hk : (Lit.int .i64 k).wf = true) (hl : l.length ≤ maxLen) (h : IsFls ok w l a 0) :
    IsFl ok w (.mk k [] [] [] l) (.agg #[.int .i64 k, .string ⟨#[]⟩, .string ⟨#[]⟩, .slice none 0 0, .slice a l.length c]) :=
  ⟨.slice none 0 0, a, c, rfl, hk, Nat.zero_le _, Nat.zero_le _, ⟨none, 0, rfl, Nat.zero_le _, fun j h => absurd h (Nat.not_lt_zero _)⟩, hl, h⟩

theorem flV_shape {B : Nat} {w : World} {o : Option FT} {x : Value} {b : Bool} (h : FlV B w o x b) : ∃ k T X pa pn pc ka kn kc, x = .agg #[.int .i64 k, .string T, .string X, .slice pa pn pc, .slice ka kn kc] := by
  cases o with
  | none => exact ⟨_, _, _, _, _, _, _, _, _, h.1⟩
  | some f => exact IsFl.shape h.1
theorem grown_thenB {a b c : World} {r : Option Nat} (h : a.grownBy b r) (k : b.grownBy c r) : a.grownBy c r :=
  ⟨k.os.trans h.os, k.tape.trans h.tape, k.output.trans h.output, Nat.le_trans h.size k.size, fun x hx hn => (k.block x (Nat.lt_of_lt_of_le hx h.size) hn).trans (h.block x hx hn)⟩
/-- The row of the many, so many of which have been written. -/
def RowAt (W : World) (H n q : Nat) : Prop := ∃ C, W.heap[H]? = some (.cells C 25 (0, 0)) ∧ C.size = n * 5 ∧ ∀ k, k < q → C[k * 5]? = some (.int .i64 8) ∧ C[k * 5 + 1]? = some (.string ⟨#[115, 110]⟩) ∧ C[k * 5 + 2]? = some (.string ⟨#[]⟩) ∧ C[k * 5 + 3]? = some (.slice none 0 0) ∧ C[k * 5 + 4]? = some (.slice none 0 0)
theorem RowAt.cells {W : World} {H n q : Nat} (h : RowAt W H n q) (hq : q < n) : ∃ y0 y1 y2 y3 y4, W.cell? ⟨H, q * 5, none⟩ = some y0 ∧ W.cell? ⟨H, q * 5 + 1, none⟩ = some y1 ∧ W.cell? ⟨H, q * 5 + 2, none⟩ = some y2 ∧ W.cell? ⟨H, q * 5 + 3, none⟩ = some y3 ∧ W.cell? ⟨H, q * 5 + 4, none⟩ = some y4 := by
  obtain ⟨C, hC, hz, _⟩ := h
  refine ⟨C[q * 5]'(by omega), C[q * 5 + 1]'(by omega), C[q * 5 + 2]'(by omega), C[q * 5 + 3]'(by omega), C[q * 5 + 4]'(by omega), ?_, ?_, ?_, ?_, ?_⟩ <;> simp [World.cell?, hC, hz] <;> omega
theorem RowAt.frozen {W : World} {H n q : Nat} (h : RowAt W H n q) (k : Nat) : W.frozen? ⟨H, k * 5, none⟩ = false ∧ W.frozen? ⟨H, k * 5 + 1, none⟩ = false ∧ W.frozen? ⟨H, k * 5 + 2, none⟩ = false ∧ W.frozen? ⟨H, k * 5 + 3, none⟩ = false ∧ W.frozen? ⟨H, k * 5 + 4, none⟩ = false := by
  obtain ⟨C, hC, hz, _⟩ := h
  refine ⟨?_, ?_, ?_, ?_, ?_⟩ <;> simp [World.frozen?, hC]
def setR (W : World) (H o : Nat) (x0 x1 x2 x3 x4 : Value) : World := ((((W.setCell ⟨H, o, none⟩ x0).setCell ⟨H, o + 1, none⟩ x1).setCell ⟨H, o + 2, none⟩ x2).setCell ⟨H, o + 3, none⟩ x3).setCell ⟨H, o + 4, none⟩ x4
theorem RowAt.store {W : World} {H n q : Nat} (h : RowAt W H n q) (hq : q < n) : RowAt (setR W H (q * 5) (.int .i64 8) (.string ⟨#[115, 110]⟩) (.string ⟨#[]⟩) (.slice none 0 0) (.slice none 0 0)) H n (q + 1) := by
  obtain ⟨C, hC, hz, hk⟩ := h
  refine ⟨_, heap_setCell_same _ H _ _ _ _ (heap_setCell_same _ H _ _ _ _ (heap_setCell_same _ H _ _ _ _ (heap_setCell_same _ H _ _ _ _ (heap_setCell_same _ H _ _ _ _ hC)))), by simp [hz], fun k hk' => ?_⟩
  by_cases hkq : k = q
  · subst hkq
    refine ⟨?_, ?_, ?_, ?_, ?_⟩
    · rw [Array.getElem?_setIfInBounds_ne (by omega), Array.getElem?_setIfInBounds_ne (by omega), Array.getElem?_setIfInBounds_ne (by omega), Array.getElem?_setIfInBounds_ne (by omega), Array.getElem?_setIfInBounds_self_of_lt (by simp [hz]; omega)]
    · rw [Array.getElem?_setIfInBounds_ne (by omega), Array.getElem?_setIfInBounds_ne (by omega), Array.getElem?_setIfInBounds_ne (by omega), Array.getElem?_setIfInBounds_self_of_lt (by simp [hz]; omega)]
    · rw [Array.getElem?_setIfInBounds_ne (by omega), Array.getElem?_setIfInBounds_ne (by omega), Array.getElem?_setIfInBounds_self_of_lt (by simp [hz]; omega)]
    · rw [Array.getElem?_setIfInBounds_ne (by omega), Array.getElem?_setIfInBounds_self_of_lt (by simp [hz]; omega)]
    · rw [Array.getElem?_setIfInBounds_self_of_lt (by simp [hz]; omega)]
  · have := hk k (by omega)
    obtain ⟨h0, h1, h2, h3, h4⟩ := this
    refine ⟨?_, ?_, ?_, ?_, ?_⟩
    · rw [Array.getElem?_setIfInBounds_ne (by omega), Array.getElem?_setIfInBounds_ne (by omega), Array.getElem?_setIfInBounds_ne (by omega), Array.getElem?_setIfInBounds_ne (by omega), Array.getElem?_setIfInBounds_ne (by omega), h0]
    · rw [Array.getElem?_setIfInBounds_ne (by omega), Array.getElem?_setIfInBounds_ne (by omega), Array.getElem?_setIfInBounds_ne (by omega), Array.getElem?_setIfInBounds_ne (by omega), Array.getElem?_setIfInBounds_ne (by omega), h1]
    · rw [Array.getElem?_setIfInBounds_ne (by omega), Array.getElem?_setIfInBounds_ne (by omega), Array.getElem?_setIfInBounds_ne (by omega), Array.getElem?_setIfInBounds_ne (by omega), Array.getElem?_setIfInBounds_ne (by omega), h2]
    · rw [Array.getElem?_setIfInBounds_ne (by omega), Array.getElem?_setIfInBounds_ne (by omega), Array.getElem?_setIfInBounds_ne (by omega), Array.getElem?_setIfInBounds_ne (by omega), Array.getElem?_setIfInBounds_ne (by omega), h3]
    · rw [Array.getElem?_setIfInBounds_ne (by omega), Array.getElem?_setIfInBounds_ne (by omega), Array.getElem?_setIfInBounds_ne (by omega), Array.getElem?_setIfInBounds_ne (by omega), Array.getElem?_setIfInBounds_ne (by omega), h4]
theorem isFls_mk {ok : Nat → Prop} {w : World} : ∀ (l : List FT) (a : Option Addr) (i : Nat), (∀ k (h : k < l.length), ∃ b off v0 v1 v2 v3 v4, a = some ⟨b, off, none⟩ ∧ ok b ∧ w.cell? ⟨b, off + (i + k) * 5, none⟩ = some v0 ∧ w.cell? ⟨b, off + (i + k) * 5 + 1, none⟩ = some v1 ∧ w.cell? ⟨b, off + (i + k) * 5 + 2, none⟩ = some v2 ∧ w.cell? ⟨b, off + (i + k) * 5 + 3, none⟩ = some v3 ∧ w.cell? ⟨b, off + (i + k) * 5 + 4, none⟩ = some v4 ∧ IsFl ok w l[k] (.agg #[v0, v1, v2, v3, v4])) → IsFls ok w l a i
  | [], _, _, _ => trivial
  | f :: l, a, i, h => ⟨h 0 (by simp), isFls_mk l a (i + 1) fun k hk => by
      have := h (k + 1) (by simpa using hk)
      rw [show i + (k + 1) = i + 1 + k from by omega] at this
      exact this⟩
theorem RowAt.isFls {ok : Nat → Prop} {W : World} {H n : Nat} (h : RowAt W H n n) (hH : ok H) : IsFls ok W (List.replicate n (.mk 8 [115, 110] [] [] [])) (some ⟨H, 0, none⟩) 0 := by
  obtain ⟨C, hC, hz, hk⟩ := h
  refine isFls_mk _ _ _ fun k hkl => ?_
  rw [List.length_replicate] at hkl
  obtain ⟨h0, h1, h2, h3, h4⟩ := hk k hkl
  refine ⟨H, 0, _, _, _, _, _, rfl, hH, ?_, ?_, ?_, ?_, ?_, by rw [List.getElem_replicate]; exact mkFl (k := 8) (t := [115, 110]) (x := []) (p := []) (u := .slice none 0 0) (by decide) (by show 2 ≤ maxLen; decide) (Nat.zero_le _) ⟨none, 0, rfl, Nat.zero_le _, fun j h => absurd h (Nat.not_lt_zero _)⟩⟩
  all_goals simp only [World.cell?, hC, Nat.zero_add, Option.isSome_none, Bool.false_eq_true, if_false]
  · exact h0
  · exact h1
  · exact h2
  · exact h3
  · exact h4
theorem many_may (n : Nat) : mayF 13 (.mk 2 [] [] [] (List.replicate n (.mk 8 [115, 110] [] [] []))) = decide (n ≤ 40) := by
  have h1 : mayF 12 (.mk 8 [115, 110] [] [] []) = true := by decide +kernel
  show (if holdsC 2 then ([] : List UInt8).isEmpty && ([] : List UInt8).isEmpty && ([] : List (List UInt8)).isEmpty && kidsC 2 (List.replicate n (FT.mk 8 [115, 110] [] [] [])).length && (List.replicate n (FT.mk 8 [115, 110] [] [] [])).all (mayF 12) else _) = _
  rw [if_pos (by decide), List.length_replicate]
  have h2 : (List.replicate n (FT.mk 8 [115, 110] [] [] [])).all (mayF 12) = true := by
    rw [List.all_eq_true]
    intro f hf
    rw [(List.mem_replicate.1 hf).2, h1]
  rw [h2]
  simp [kidsC]
theorem set1_grown (W : World) (H o : Nat) (x : Value) : W.grownBy (W.setCell ⟨H, o, none⟩ x) (some H) :=
  ⟨rfl, rfl, rfl, by rw [World.size_setCell]; exact Nat.le_refl _, fun k hk hne => heap_setCell_other _ _ _ _ (fun e => hne (by rw [e]))⟩
theorem setR_grown (W : World) (H o : Nat) (x0 x1 x2 x3 x4 : Value) : W.grownBy (setR W H o x0 x1 x2 x3 x4) (some H) :=
  grown_thenB (grown_thenB (grown_thenB (grown_thenB (set1_grown W H o x0) (set1_grown _ H (o + 1) x1)) (set1_grown _ H (o + 2) x2)) (set1_grown _ H (o + 3) x3)) (set1_grown _ H (o + 4) x4)

set_option maxRecDepth 100000 in
set_option maxHeartbeats 8000000 in
theorem deepFl_any (n m : Nat) (hn : n < 256) (hm : m < 256) (w : World) : Calls Tryd.prog 6 #[.int .u8 n, .int .u8 m] w fun e w' => e = .returned (.bool true) ∧ Below w.heap.size w w' := by
  have HAw := Lib.hid (fun W => awakeFl_any W)
  obtain ⟨k, hk⟩ : ∃ k, k = n % 16 := ⟨_, rfl⟩
  obtain ⟨u, hu⟩ : ∃ u, u = m % 44 := ⟨_, rfl⟩
  have hk16 : k < 16 := by omega
  have hu44 : u < 44 := by omega
  have tm : Int.tmod (n : Int) 16 = (k : Int) := by rw [Int.tmod_eq_emod_of_nonneg (by omega)]; omega
  have tm2 : Int.tmod (m : Int) 44 = (u : Int) := by rw [Int.tmod_eq_emod_of_nonneg (by omega)]; omega
  have tw : IntKind.i64.wrap (n : Int) = (n : Int) := IntWalk.i64_in _ (by omega)
  have tw2 : IntKind.i64.wrap (m : Int) = (m : Int) := IntWalk.i64_in _ (by omega)
  obtain ⟨W1, hW1⟩ : ∃ W, W = w.alloc (.cells #[.int .i64 8, .string ⟨#[99, 110]⟩, .string ⟨#[]⟩, .slice none 0 0, .slice none 0 0] 25) := ⟨_, rfl⟩
  have hb1 : Below w.heap.size w W1 := by rw [hW1]; exact box5 w _ _ _ _ _
  have hx1 : FlAt W1 w.heap.size (.int .i64 8) (.string ⟨#[99, 110]⟩) (.string ⟨#[]⟩) (.slice none 0 0) (.slice none 0 0) := by rw [hW1]; exact heap_alloc_new w _
  have hd1 : DeepAt w.heap.size 0 w W1 := ⟨_, _, _, _, _, hx1, mkFl (k := 8) (t := [99, 110]) (x := []) (p := []) (u := .slice none 0 0) (by decide) (by show 2 ≤ maxLen; decide) (Nat.zero_le _) ⟨none, 0, rfl, Nat.zero_le _, fun j h => absurd h (Nat.not_lt_zero _)⟩, hb1⟩
  have HD1 := Lib.hid hd1
  have HW1 := Lib.hid hW1.symm
  clear hW1 hb1 hx1 hd1 hk hu
  go_enter Tryd.func6, Tryd.ntmps6
  go_upto_region 3 with (fail)
  rw [HW1.out]
  go_wp2
  go_loopw [7, 8] (fun s i wr => ∃ j : Nat, j ≤ k ∧ i = .int .i64 j ∧ s = .string (ofL (deepS j)) ∧ Hid (DeepAt w.heap.size j w wr)) (fun _ i _ => k - (intOf i).toNat)
  case atStart => exact ⟨0, by omega, rfl, rfl, HD1⟩
  case round =>
    obtain ⟨j, hj, rfl, rfl, HDp⟩ := hrel
    rename World => wo
    by_cases hlt : j < k
    · have t1 : decide ((j : Int) < (k : Int)) = true := by simp; omega
      have t1' : decide (j < k) = true := by simp; omega
      obtain ⟨x0, x1, x2, x3, x4, hx, hf, hbel⟩ := HDp.out
      obtain ⟨fk, fT, fX, fpa, fpn, fpc, fka, fkn, fkc, e⟩ := hf.shape
      simp only [Value.agg.injEq, Array.mk.injEq, List.cons.injEq, and_true] at e
      obtain ⟨rfl, rfl, rfl, rfl, rfl⟩ := e
      obtain ⟨c0, c1, c2, c3, c4⟩ := fl_cells hx
      have hsz : (ofL (deepS j)).size = 6 + 3 * j := by rw [ofL_size, deep_len]
      obtain ⟨S, hS⟩ : ∃ S, S = ofL (deepS j) := ⟨_, rfl⟩
      rw [← hS] at hsz ⊢
      have HF := Lib.hid hf
      have HX := Lib.hid hx
      have HBel := Lib.hid hbel
      have hs1 : 2 + S.size ≤ 9223372036854775807 := by omega
      have hs2 : 2 + S.size + 1 ≤ 9223372036854775807 := by omega
      obtain ⟨W2, hW2⟩ : ∃ W, wo.alloc (.cells #[.int .i64 fk, .string fT, .string fX, .slice fpa fpn fpc, .slice fka fkn fkc] 25) = W := ⟨_, rfl⟩
      have hb2 : Below wo.heap.size wo W2 := by rw [← hW2]; exact box5 wo _ _ _ _ _
      have hz2 : FlAt W2 wo.heap.size (.int .i64 fk) (.string fT) (.string fX) (.slice fpa fpn fpc) (.slice fka fkn fkc) := by rw [← hW2]; exact heap_alloc_new wo _
      have hx2 : FlAt W2 w.heap.size (.int .i64 fk) (.string fT) (.string fX) (.slice fpa fpn fpc) (.slice fka fkn fkc) := fl_below hx hb2 (fl_lt hx)
      obtain ⟨d0, d1, d2, d3, d4⟩ := fl_cells hx2
      obtain ⟨f0, f1, f2, f3, f4⟩ := fl_frozen hx2
      have HX2 := Lib.hid hx2
      have HZ2 := Lib.hid hz2
      have HB2 := Lib.hid hb2
      clear hx hf hbel HD1 HW1 hb2 hz2 hx2
      have HS := Lib.hid hS
      clear hS
      have hnx : DeepAt w.heap.size (j + 1) w (set5F W2 w.heap.size (.int .i64 3) (.string ⟨#[]⟩) (.string ⟨#[]⟩) (.slice none 0 0) (.slice (some ⟨wo.heap.size, 0, none⟩) 1 1)) := by
        have hlt2 : w.heap.size < wo.heap.size := fl_lt HX.out
        have hws : wo.heap.size < W2.heap.size := fl_lt HZ2.out
        refine ⟨_, _, _, _, _, fl_set HX2.out _ _ _ _ _, mkHold (k := 3) (l := [deepF j]) (a := some ⟨wo.heap.size, 0, none⟩) (c := 1) (by decide) (by show 1 ≤ maxLen; decide) ?_, fl_setB (HBel.out.trans (HB2.out.mono HBel.out.size)) (Nat.le_refl _) _ _ _ _ _⟩
        obtain ⟨g0, g1, g2, g3, g4⟩ := fl_cells HZ2.out
        have hne : wo.heap.size ≠ w.heap.size := by omega
        refine ⟨⟨wo.heap.size, 0, _, _, _, _, _, rfl, ⟨by rw [set5F_size]; exact hws, hne⟩, (fl_setC hne).trans g0, (fl_setC hne).trans g1, (fl_setC hne).trans g2, (fl_setC hne).trans g3, (fl_setC hne).trans g4, ?_⟩, trivial⟩
        exact HF.out.imp (fun b h => ⟨by rw [set5F_size]; omega, h.2⟩) (fun b o h => (fl_setC h.2).trans (HB2.out.cell (p := ⟨b, o, none⟩) h.1))
      have HNx := Lib.hid hnx
      have hT1 : (⟨#[40, 33]⟩ : ByteArray) ++ S = ofL (40 :: 33 :: deepS j) := bytes_ext (by rw [app_list, HS.out, ofL_list, ofL_list]; rfl)
      have hT2 : ofL (40 :: 33 :: deepS j) ++ (⟨#[41]⟩ : ByteArray) = ofL (deepS (j + 1)) := bytes_ext (by rw [app_list, ofL_list, ofL_list]; rfl)
      have hT3 : (ofL (40 :: 33 :: deepS j)).size = 2 + S.size := by rw [ofL_size, HS.out, ofL_size]; simp; omega
      obtain ⟨T1, hT⟩ : ∃ T, T = ofL (40 :: 33 :: deepS j) := ⟨_, rfl⟩
      rw [← hT] at hT1 hT2 hT3
      have hs3 : T1.size + 1 ≤ 9223372036854775807 := by omega
      clear hnx hT
      go_wp2
      go_roundw
      case rel => exact ⟨j + 1, by omega, by go_num, rfl, HNx⟩
      case measure => simp [intOf]; omega
    · obtain rfl : j = k := by omega
      have t1 : decide ((j : Int) < (j : Int)) = false := by simp
      have t1' : decide (j < j) = false := by simp
      obtain ⟨x0, x1, x2, x3, x4, hx, hf, hbel⟩ := HDp.out
      obtain ⟨fk, fT, fX, fpa, fpn, fpc, fka, fkn, fkc, e⟩ := hf.shape
      simp only [Value.agg.injEq, Array.mk.injEq, List.cons.injEq, and_true] at e
      obtain ⟨rfl, rfl, rfl, rfl, rfl⟩ := e
      obtain ⟨S, hS⟩ : ∃ S, S = ofL (deepS j) := ⟨_, rfl⟩
      have hSl : S.data.toList = deepS j := by rw [hS, ofL_list]
      have hSz : S.size = 6 + 3 * j := by rw [hS, ofL_size, deep_len]
      rw [← hS]
      have hP := fun W => parseFl_any S (by omega) (by rw [hSl]; exact deep_ascii j) W
      rw [hSl, deep_parse j hk16] at hP
      have HP := Lib.hid hP
      have HX := Lib.hid hx
      have HF := Lib.hid hf
      have HBo := Lib.hid hbel
      have HSl := Lib.hid hSl
      clear hP hx hf hbel hSl hSz hS HD1 HW1 t1 t1'
      have t1 : decide ((j : Int) < (j : Int)) = false := by simp
      go_upto_region 10 with (go_at_call 10; refine (HP.out _).mono ?_; rintro e w3 ⟨x, b, rfl, hfv, hb3⟩; (obtain ⟨gk, gT, gX, gpa, gpn, gpc, gka, gkn, gkc, e⟩ := flV_shape hfv); subst e; have HV := Lib.hid hfv; have HB3 := Lib.hid hb3; clear hfv hb3)
      obtain ⟨W3, hW3⟩ : ∃ W, W = w3.alloc (.cells #[.int .i64 gk, .string gT, .string gX, .slice gpa gpn gpc, .slice gka gkn gkc] 25) := ⟨_, rfl⟩
      rw [← hW3]
      obtain ⟨W4, hW4⟩ : ∃ W, W3.alloc (.cells (madeCells #[.int .i64 0, .string ⟨#[]⟩, .string ⟨#[]⟩, .slice none 0 0, .slice none 0 0] (u * 5)) 25) = W := ⟨_, rfl⟩
      obtain ⟨W5, hW5⟩ : ∃ W, W4.alloc (.cells #[.int .i64 2, .string ⟨#[]⟩, .string ⟨#[]⟩, .slice none 0 0, .slice (some ⟨W3.heap.size, 0, none⟩) u u] 25) = W := ⟨_, rfl⟩
      have hmk : (Instr.makeSlice 23 (.int .i64 (u : Int)) (.int .i64 (u : Int))).run Tryd.prog W3 = .ok (.slice (some ⟨W3.heap.size, 0, none⟩) u u) W4 := by
        obtain ⟨i0, hi, hz0, hz1, hz2⟩ := info_parts infoF
        have hr := run_make (P := Tryd.prog) W3 23 25 i0 _ Tryd.underlying23 hi hz0 .i64 .i64 (u : Int) (u : Int) (by omega) (Int.le_refl _) (by rw [hz2]; omega) (by omega)
        rw [Int.toNat_natCast, hz1] at hr
        rw [← hW4]
        exact hr
      have h33 : Below w3.heap.size w3 W3 := by rw [hW3]; exact box5 w3 _ _ _ _ _
      have h34 : Below W3.heap.size W3 W4 := by rw [← hW4]; exact (Below.refl _ _).alloc (Nat.le_refl _) _
      have h45 : Below W4.heap.size W4 W5 := by rw [← hW5]; exact box5 W4 _ _ _ _ _
      have z3 : W3.heap.size = w3.heap.size + 1 := by rw [hW3]; simp
      have z4 : W4.heap.size = W3.heap.size + 1 := by rw [← hW4]; simp
      have z5 : W5.heap.size = W4.heap.size + 1 := by rw [← hW5]; simp
      have hy3 : FlAt W3 w3.heap.size (.int .i64 gk) (.string gT) (.string gX) (.slice gpa gpn gpc) (.slice gka gkn gkc) := by rw [hW3]; exact heap_alloc_new w3 _
      have hr4 : W4.heap[W3.heap.size]? = some (.cells (madeCells #[.int .i64 0, .string ⟨#[]⟩, .string ⟨#[]⟩, .slice none 0 0, .slice none 0 0] (u * 5)) 25 (0, 0)) := by rw [← hW4]; exact heap_alloc_new W3 _
      have hg5 : FlAt W5 W4.heap.size (.int .i64 2) (.string ⟨#[]⟩) (.string ⟨#[]⟩) (.slice none 0 0) (.slice (some ⟨W3.heap.size, 0, none⟩) u u) := by rw [← hW5]; exact heap_alloc_new W4 _
      have hrow : RowAt W5 W3.heap.size u 0 := ⟨_, (h45.block _ (by omega)).trans hr4, size_madeCells _ _, fun k hk => absurd hk (Nat.not_lt_zero _)⟩
      have hy5 := fl_below hy3 (bthen h34 h45) (by omega)
      have hx5 := fl_below (fl_below (fl_below HX.out HB3.out (fl_lt HX.out)) h33 (Nat.lt_of_lt_of_le (fl_lt HX.out) HB3.out.size)) (bthen h34 h45) (by have := fl_lt HX.out; have := HB3.out.size; omega)
      have HRow := Lib.hid hrow
      have HY5 := Lib.hid hy5
      have HX5 := Lib.hid hx5
      have HG5 := Lib.hid hg5
      have HB35 := Lib.hid (bthen h33 (bthen h34 h45))
      have HZ : Hid (W3.heap.size = w3.heap.size + 1 ∧ W4.heap.size = w3.heap.size + 2 ∧ W5.heap.size = w3.heap.size + 3) := Lib.hid ⟨z3, by omega, by omega⟩
      clear hW3 h33 h34 h45 z3 z4 z5 hy3 hr4 hg5 hrow hy5 hx5
      go_wp2
      go_loopw [13] (fun i wr => ∃ q : Nat, q ≤ u ∧ i = .int .i64 q ∧ Hid (RowAt wr W3.heap.size u q) ∧ Hid (W5.grownBy wr (some W3.heap.size))) (fun i _ => u - (intOf i).toNat)
      case atStart => exact ⟨0, by omega, rfl, HRow, Lib.hid ⟨rfl, rfl, rfl, Nat.le_refl _, fun _ _ _ => rfl⟩⟩
      case round =>
        obtain ⟨q, hq, rfl, HR, HGr⟩ := hrel
        have hgG := (HGr.out.block W4.heap.size (by have := HZ.out; omega) (by intro e; have := Option.some.inj e; have := HZ.out; omega)).trans HG5.out
        obtain ⟨m0, m1, m2, m3, m4⟩ := fl_cells hgG
        by_cases hlt : q < u
        · have t2 : decide ((q : Int) < (u : Int)) = true := by simp; omega
          have t2' : decide (q < u) = true := by simp; omega
          have ti0 : (0 : Int) ≤ (q : Int) := by omega
          have ti1 : (q : Int) < (u : Int) := by omega
          obtain ⟨y0, y1, y2, y3, y4, n0, n1, n2, n3, n4⟩ := HR.out.cells hlt
          obtain ⟨f0, f1, f2, f3, f4⟩ := HR.out.frozen q
          have HR2 := Lib.hid (HR.out.store hlt)
          have HGr2 : Hid (W5.grownBy (setR wr W3.heap.size (q * 5) (.int .i64 8) (.string ⟨#[115, 110]⟩) (.string ⟨#[]⟩) (.slice none 0 0) (.slice none 0 0)) (some W3.heap.size)) := Lib.hid (grown_thenB HGr.out (setR_grown _ _ _ _ _ _ _ _))
          clear hgG
          go_wp2
          exact ⟨⟨q + 1, by omega, by go_num, HR2, HGr2⟩, by simp [intOf]; omega⟩
        · obtain rfl : q = u := by omega
          have t2 : decide ((q : Int) < (q : Int)) = false := by simp
          have t2' : decide (q < q) = false := by simp
          have hzz := HZ.out
          have h5r : Below W3.heap.size W5 wr := ⟨HGr.out.os, HGr.out.tape, HGr.out.output, HGr.out.size, fun k hk => HGr.out.block k (by omega) (by intro e; have := Option.some.inj e; omega)⟩
          have h3r : Below w3.heap.size w3 wr := HB35.out.trans (h5r.mono (by omega))
          have hor : Below wo.heap.size wo wr := HB3.out.trans (h3r.mono HB3.out.size)
          have hwr : Below w.heap.size w wr := HBo.out.trans (hor.mono HBo.out.size)
          have hfx : FlAt wr w.heap.size (.int .i64 fk) (.string fT) (.string fX) (.slice fpa fpn fpc) (.slice fka fkn fkc) := fl_below HX.out hor (fl_lt HX.out)
          have hyx : FlAt wr w3.heap.size (.int .i64 gk) (.string gT) (.string gX) (.slice gpa gpn gpc) (.slice gka gkn gkc) := fl_below HY5.out h5r (by omega)
          have hff : IsFl (Lt wr) wr (deepF j) (.agg #[.int .i64 fk, .string fT, .string fX, .slice fpa fpn fpc, .slice fka fkn fkc]) := HF.out.imp (fun b h => Nat.lt_of_lt_of_le h.1 hor.size) (fun b o h => hor.cell (p := ⟨b, o, none⟩) h.1)
          have hgg : IsFl (Lt wr) wr (.mk 2 [] [] [] (List.replicate q (.mk 8 [115, 110] [] [] []))) (.agg #[.int .i64 2, .string ⟨#[]⟩, .string ⟨#[]⟩, .slice none 0 0, .slice (some ⟨W3.heap.size, 0, none⟩) q q]) := by
            have := mkHold (ok := Lt wr) (w := wr) (k := 2) (l := List.replicate q (.mk 8 [115, 110] [] [] [])) (a := some ⟨W3.heap.size, 0, none⟩) (c := q) (by decide) (by simp; unfold maxLen; omega) (HR.out.isFls (by have := HGr.out.size; show _ < _; omega))
            rwa [List.length_replicate] at this
          have hcell : ∀ W, Below wr.heap.size wr W → (FlAt W w.heap.size (.int .i64 fk) (.string fT) (.string fX) (.slice fpa fpn fpc) (.slice fka fkn fkc) ∧ FlAt W w3.heap.size (.int .i64 gk) (.string gT) (.string gX) (.slice gpa gpn gpc) (.slice gka gkn gkc)) ∧ FlAt W W4.heap.size (.int .i64 2) (.string ⟨#[]⟩) (.string ⟨#[]⟩) (.slice none 0 0) (.slice (some ⟨W3.heap.size, 0, none⟩) q q) :=
            fun W hW => ⟨⟨fl_below hfx hW (fl_lt hfx), fl_below hyx hW (fl_lt hyx)⟩, fl_below hgG hW (fl_lt hgG)⟩
          have hM1 := fun W (hW : Below wr.heap.size wr W) => mayTop_any _ _ W (hff.below hW)
          have hM2 := fun W (hW : Below wr.heap.size wr W) => mayTop_any _ _ W (hgg.below hW)
          rw [many_may] at hM2
          obtain ⟨g4, hg4⟩ : ∃ g, g = decide (q ≤ 40) := ⟨_, rfl⟩
          have e4 : decide ((q : Int) ≤ 40) = g4 := by rw [hg4, Bool.eq_iff_iff]; simp; omega
          rw [← hg4] at hM2
          clear hg4
          rw [deep_may] at hM1
          have HM2 := Lib.hid hM2
          have HCell := Lib.hid hcell
          have HBw := Lib.hid hwr
          obtain ⟨c0, c1, c2, c3, c4⟩ := fl_cells hfx
          clear m0 m1 m2 m3 m4 hcell hM2 hzz h5r hgG HR
          by_cases h12 : j ≤ 12
          · have e1 : decide (j < 13) = true := by simp; omega
            have e2 : decide ((j : Int) ≤ 12) = true := by simp; omega
            have e3 : decide ((12 : Int) < (j : Int)) = false := by simp; omega
            rw [e1] at hM1
            have hv := HV.out
            rw [if_pos h12] at hv
            obtain ⟨hv1, rfl⟩ := hv
            have hS1 := fun W (hW : Below wr.heap.size wr W) => sameFl_all (SizeOf.sizeOf (deepF j)) (deepF j) (deepF j) _ _ W (Nat.le_refl _) (deep_few j) (((hv1.imp (fun b h => h.2) (fun _ _ _ => rfl) : IsFl (Lt w3) w3 _ _).imp (fun b h => Nat.lt_of_lt_of_le h h3r.size) (fun b o h => h3r.cell (p := ⟨b, o, none⟩) h) : IsFl (Lt wr) wr _ _).below hW) (hff.below hW)
            rw [sameFT_pos rfl] at hS1
            have hT1 := fun W (hW : Below wr.heap.size wr W) => textTop_any _ _ W (hff.below hW) (fun _ => by rw [deep_text, deep_len]; omega)
            have htx : ofL (textTop (deepF j)) = S := bytes_ext (by rw [ofL_list, HSl.out]; unfold textTop; rw [if_pos (by rw [deep_may]; simp; omega), deep_text])
            rw [htx] at hT1
            have HM1 := Lib.hid hM1
            have HS1 := Lib.hid hS1
            have HT1 := Lib.hid hT1
            clear htx hT1 hS1 hM1 hv1 hff hgg h3r hor hwr hfx hyx e1
            go_wp2_with (first
              | (go_at_call 12; (with_reducible refine (HM1.out _ (Below.refl _ _)).mono ?_); rintro e v1 ⟨rfl, hb⟩; (obtain ⟨⟨hq1, hq2⟩, hq3⟩ := HCell.out v1 hb); (obtain ⟨a0, a1, a2, a3, a4⟩ := fl_cells hq1); (obtain ⟨p0, p1, p2, p3, p4⟩ := fl_cells hq2); have HV1 := Lib.hid hb; clear hq1 hq2 hq3 hb)
              | (go_at_call 17; (with_reducible refine (HS1.out _ HV1.out).mono ?_); rintro e v2 ⟨rfl, hb⟩; have HV2 := Lib.hid (bthen HV1.out hb); clear hb; (obtain ⟨⟨hq1, hq2⟩, hq3⟩ := HCell.out v2 HV2.out); (obtain ⟨b0, b1, b2, b3, b4⟩ := fl_cells hq1); clear hq1 hq2 hq3)
              | (go_at_call 14; (with_reducible refine (HT1.out _ HV2.out).mono ?_); rintro e v3 ⟨rfl, hb⟩; have HV3 := Lib.hid (bthen HV2.out hb); clear hb; (obtain ⟨⟨hq1, hq2⟩, hq3⟩ := HCell.out v3 HV3.out); (obtain ⟨d0, d1, d2, d3, d4⟩ := fl_cells hq3); clear hq1 hq2 hq3)
              | (go_at_call 12; (with_reducible refine (HM2.out _ HV3.out).mono ?_); rintro e v4 ⟨rfl, hb⟩; have HV4 := Lib.hid (bthen HV3.out hb); clear hb)
              | (go_at_call 9; refine (HAw.out _).mono ?_; rintro e v5 ⟨rfl, hb⟩; have HV5 := Lib.hid (bthen HV4.out hb); clear hb))
            go_ret
            exact ⟨rfl, bthen HBw.out HV5.out⟩
          · have e1 : decide (j < 13) = false := by simp; omega
            have e2 : decide ((j : Int) ≤ 12) = false := by simp; omega
            have e3 : decide ((12 : Int) < (j : Int)) = true := by simp; omega
            rw [e1] at hM1
            have hv := HV.out
            rw [if_neg h12] at hv
            obtain ⟨_, rfl⟩ := hv
            have HM1 := Lib.hid hM1
            clear hM1 hff hgg h3r hor hwr hfx hyx e1
            go_wp2_with (first
              | (go_at_call 12; (with_reducible refine (HM1.out _ (Below.refl _ _)).mono ?_); rintro e v1 ⟨rfl, hb⟩; (obtain ⟨⟨hq1, hq2⟩, hq3⟩ := HCell.out v1 hb); (obtain ⟨d0, d1, d2, d3, d4⟩ := fl_cells hq3); have HV1 := Lib.hid hb; clear hq1 hq2 hq3 hb)
              | (go_at_call 12; (with_reducible refine (HM2.out _ HV1.out).mono ?_); rintro e v4 ⟨rfl, hb⟩; have HV4 := Lib.hid (bthen HV1.out hb); clear hb)
              | (go_at_call 9; refine (HAw.out _).mono ?_; rintro e v5 ⟨rfl, hb⟩; have HV5 := Lib.hid (bthen HV4.out hb); clear hb))
            go_ret
            exact ⟨rfl, bthen HBw.out HV5.out⟩
end Go.Proofs.YtdcfmgnpjmpboaaDoor

/- brooklaw6.Make: the walk (leaves). -/
namespace Go.Proofs.YtdcfmgnpjmpboaaDoor
open Go.RowKit
set_option linter.unusedVariables false
set_option linter.unusedSimpArgs false

/-- Bytes in memory, as a slice of so many, with room. -/
def IsC (n0 : Nat) (w : World) (l : List UInt8) (a : Option Addr) (cap : Nat) : Prop :=
  l.length ≤ cap ∧ cap ≤ maxLen ∧ (l = [] ∨ ∃ b off, a = some ⟨b, off, none⟩ ∧ b < n0 ∧ ∀ j, (h : j < l.length) → w.cell? ⟨b, off + j, none⟩ = some (.int .u8 l[j].toNat))
/-- What Make is to tell, of no more than fu numbers. -/
def MakesF (S : ByteArray) (fu : Nat) : Prop := ∀ (l : List UInt8) (a : Option Addr) (cap : Nat) (w : World), l.length ≤ fu → IsC w.heap.size w l a cap →
  Calls Tryd.prog 18 #[.slice a l.length cap, .string S] w fun e w' => ∃ v, e = .returned v ∧ IsFl (fun b => w.heap.size ≤ b ∧ b < w'.heap.size) w' (makeFu S.data.toList fu l) v ∧ Below w.heap.size w w'
abbrev tyRow : Array Value := #[.string ⟨#[99, 110]⟩, .string ⟨#[115, 110]⟩, .string ⟨#[100, 101, 115, 99, 114, 105, 112, 116, 105, 111, 110]⟩, .string ⟨#[117, 105, 100, 78, 117, 109, 98, 101, 114]⟩, .string ⟨#[109, 97, 105, 108]⟩, .string ⟨#[111, 98, 106, 101, 99, 116, 67, 108, 97, 115, 115]⟩]
abbrev vlRow (S : ByteArray) : Array Value := #[.string ⟨#[110, 49]⟩, .string ⟨#[78, 50]⟩, .string S, .string ⟨#[53]⟩, .string ⟨#[100]⟩, .string ⟨#[112, 101, 114, 115, 111, 110]⟩]
theorem tyRow_at (n : Nat) : tyRow[n / 8 % 6]? = some (strV (mkTy n)) := by
  have h6 : n / 8 % 6 < 6 := Nat.mod_lt _ (by omega)
  unfold mkTy
  generalize n / 8 % 6 = k at h6 ⊢
  have : k = 0 ∨ k = 1 ∨ k = 2 ∨ k = 3 ∨ k = 4 ∨ k = 5 := by omega
  rcases this with rfl | rfl | rfl | rfl | rfl | rfl <;> rfl
theorem vlRow_at (S : ByteArray) (n : Nat) : (vlRow S)[n / 16 % 6]? = some (strV (mkVl S.data.toList n)) := by
  have h6 : n / 16 % 6 < 6 := Nat.mod_lt _ (by omega)
  unfold mkVl
  generalize n / 16 % 6 = k at h6 ⊢
  have : k = 0 ∨ k = 1 ∨ k = 2 ∨ k = 3 ∨ k = 4 ∨ k = 5 := by omega
  rcases this with rfl | rfl | rfl | rfl | rfl | rfl
  · rfl
  · rfl
  · show some (Value.string S) = some (strV S.data.toList); rw [strV_whole]
  · rfl
  · rfl
  · rfl
theorem mk_rows (w A1 A2 A3 A4 : World) (K : Int) (S : ByteArray) (n : Nat)
    (h1 : w.alloc (.cells #[.int .i64 0, .string ⟨#[]⟩, .string ⟨#[]⟩, .slice none 0 0, .slice none 0 0] 25) = A1)
    (h2 : A1.alloc (.cells #[.int .i64 K, .string ⟨#[]⟩, .string ⟨#[]⟩, .slice none 0 0, .slice none 0 0] 25) = A2)
    (h3 : A2.alloc (.cells #[.string ⟨#[99, 110]⟩, .string ⟨#[115, 110]⟩, .string ⟨#[100, 101, 115, 99, 114, 105, 112, 116, 105, 111, 110]⟩, .string ⟨#[117, 105, 100, 78, 117, 109, 98, 101, 114]⟩, .string ⟨#[109, 97, 105, 108]⟩, .string ⟨#[111, 98, 106, 101, 99, 116, 67, 108, 97, 115, 115]⟩] 9) = A3)
    (h4 : A3.alloc (.cells #[.string ⟨#[110, 49]⟩, .string ⟨#[78, 50]⟩, .string S, .string ⟨#[53]⟩, .string ⟨#[100]⟩, .string ⟨#[112, 101, 114, 115, 111, 110]⟩] 9) = A4) :
    FlAt A4 w.heap.size (.int .i64 0) (.string ⟨#[]⟩) (.string ⟨#[]⟩) (.slice none 0 0) (.slice none 0 0) ∧ FlAt A4 A1.heap.size (.int .i64 K) (.string ⟨#[]⟩) (.string ⟨#[]⟩) (.slice none 0 0) (.slice none 0 0) ∧
    A3.cell? ⟨A2.heap.size, n / 8 % 6, none⟩ = some (strV (mkTy n)) ∧ A4.cell? ⟨A3.heap.size, n / 16 % 6, none⟩ = some (strV (mkVl S.data.toList n)) ∧
    Below w.heap.size w A1 ∧ Below w.heap.size w A4 ∧ A1.heap.size = w.heap.size + 1 ∧ A4.heap.size = w.heap.size + 4 := by
  have z1 : A1.heap.size = w.heap.size + 1 := by rw [← h1]; simp
  have z2 : A2.heap.size = w.heap.size + 2 := by rw [← h2]; simp [z1]
  have z3 : A3.heap.size = w.heap.size + 3 := by rw [← h3]; simp [z2]
  have z4 : A4.heap.size = w.heap.size + 4 := by rw [← h4]; simp [z3]
  have b1 : Below w.heap.size w A1 := by rw [← h1]; exact box5 w _ _ _ _ _
  have b2 : Below A1.heap.size A1 A2 := by rw [← h2]; exact box5 A1 _ _ _ _ _
  have b3 : Below A2.heap.size A2 A3 := by rw [← h3]; exact (Below.refl _ _).alloc (Nat.le_refl _) _
  have b4 : Below A3.heap.size A3 A4 := by rw [← h4]; exact (Below.refl _ _).alloc (Nat.le_refl _) _
  have x1 : FlAt A1 w.heap.size (.int .i64 0) (.string ⟨#[]⟩) (.string ⟨#[]⟩) (.slice none 0 0) (.slice none 0 0) := by rw [← h1]; exact heap_alloc_new w _
  have x2 : FlAt A2 A1.heap.size (.int .i64 K) (.string ⟨#[]⟩) (.string ⟨#[]⟩) (.slice none 0 0) (.slice none 0 0) := by rw [← h2]; exact heap_alloc_new A1 _
  have x3 : A3.heap[A2.heap.size]? = some (.cells tyRow 9 (0, 0)) := by rw [← h3]; exact heap_alloc_new A2 _
  have x4 : A4.heap[A3.heap.size]? = some (.cells (vlRow S) 9 (0, 0)) := by rw [← h4]; exact heap_alloc_new A3 _
  refine ⟨fl_below (fl_below x1 b2 (by omega)) (bthen b3 b4) (by omega), fl_below x2 (bthen b3 b4) (by omega), ?_, ?_, b1, bthen b1 (bthen b2 (bthen b3 b4)), z1, z4⟩
  · unfold World.cell?; rw [x3]; exact tyRow_at n
  · unfold World.cell?; rw [x4]; exact vlRow_at S n
theorem isC_at {n0 : Nat} {w w' : World} {c : UInt8} {r : List UInt8} {a : Option Addr} {cap : Nat} (h : IsC n0 w (c :: r) a cap) (hb : Below n0 w w') : ∃ b off, a = some ⟨b, off, none⟩ ∧ w'.cell? ⟨b, off, none⟩ = some (.int .u8 c.toNat) ∧ b < n0 := by
  obtain ⟨_, _, h⟩ := h
  obtain ⟨b, off, e, hlt, hc⟩ := h.resolve_left (by simp)
  exact ⟨b, off, e, (hb.cell (p := ⟨b, off, none⟩) hlt).trans (by have := hc 0 (by simp); simpa using this), hlt⟩
theorem fl_set2 {W : World} {b : Nat} {y0 y1 y2 y3 y4 : Value} (h : FlAt W b y0 y1 y2 y3 y4) (x2 : Value) : FlAt (W.setCell ⟨b, 2, none⟩ x2) b y0 y1 x2 y3 y4 := by
  have h' : W.heap[b]? = some (.cells #[y0, y1, y2, y3, y4] 25 (0, 0)) := h
  show (W.setCell ⟨b, 2, none⟩ x2).heap[b]? = _
  simp [World.setCell, Array.getElem?_modify, h']
theorem fl_set3 {W : World} {b : Nat} {y0 y1 y2 y3 y4 : Value} (h : FlAt W b y0 y1 y2 y3 y4) (x3 : Value) : FlAt (W.setCell ⟨b, 3, none⟩ x3) b y0 y1 y2 x3 y4 := by
  have h' : W.heap[b]? = some (.cells #[y0, y1, y2, y3, y4] 25 (0, 0)) := h
  show (W.setCell ⟨b, 3, none⟩ x3).heap[b]? = _
  simp [World.setCell, Array.getElem?_modify, h']
theorem isTo_nil {ok : Nat → Prop} {w : World} : IsTo ok w [] (.slice none 0 0) := ⟨none, 0, rfl, Nat.zero_le _, fun j h => absurd h (Nat.not_lt_zero _)⟩
set_option maxRecDepth 100000 in
set_option maxHeartbeats 8000000 in
theorem mkLeaf4 (S : ByteArray) (hS : S.size ≤ 1000) (fu : Nat) (c : UInt8) (r : List UInt8) (n : Nat) (hn : c.toNat = n) (hk : c.toNat % 8 = 3) (a : Option Addr) (cap : Nat) (w : World) (hC : IsC w.heap.size w (c :: r) a cap) :
    Calls Tryd.prog 18 #[.slice a (c :: r).length cap, .string S] w fun e w' => ∃ v, e = .returned v ∧ IsFl (fun b => w.heap.size ≤ b ∧ b < w'.heap.size) w' (makeFu S.data.toList (fu + 1) (c :: r)) v ∧ Below w.heap.size w w' := by
  rw [show makeFu S.data.toList (fu + 1) (c :: r) = FT.mk 4 (mkTy n) (mkVl S.data.toList n) [] [] from by
    show (if c.toNat % 8 = 0 then _ else _) = _
    rw [hn] at hk ⊢
    rw [if_neg (by omega)]; rw [if_neg (by omega)]; rw [if_neg (by omega)]; rw [if_neg (by omega)]; rw [if_neg (by omega)]; rw [hk]; rfl]
  have hcl := c.toNat_lt
  have hcap := hC.2.1
  have hlen := hC.1
  obtain ⟨m, hm⟩ : ∃ m, m = (c :: r).length := ⟨_, rfl⟩
  have hm1 : 1 ≤ m := by rw [hm]; simp
  rw [← hm] at hlen ⊢
  rw [hn] at hk hcl
  unfold maxLen at hcap
  obtain ⟨TY, hTY, hTYl⟩ := strV_text (mkTy n)
  obtain ⟨VL, hVL, hVLl⟩ := strV_text (mkVl S.data.toList n)
  obtain ⟨A1, hA1⟩ : ∃ A, w.alloc (.cells #[.int .i64 0, .string ⟨#[]⟩, .string ⟨#[]⟩, .slice none 0 0, .slice none 0 0] 25) = A := ⟨_, rfl⟩
  obtain ⟨A2, hA2⟩ : ∃ A, A1.alloc (.cells #[.int .i64 4, .string ⟨#[]⟩, .string ⟨#[]⟩, .slice none 0 0, .slice none 0 0] 25) = A := ⟨_, rfl⟩
  obtain ⟨A3, hA3⟩ : ∃ A, A2.alloc (.cells #[.string ⟨#[99, 110]⟩, .string ⟨#[115, 110]⟩, .string ⟨#[100, 101, 115, 99, 114, 105, 112, 116, 105, 111, 110]⟩, .string ⟨#[117, 105, 100, 78, 117, 109, 98, 101, 114]⟩, .string ⟨#[109, 97, 105, 108]⟩, .string ⟨#[111, 98, 106, 101, 99, 116, 67, 108, 97, 115, 115]⟩] 9) = A := ⟨_, rfl⟩
  obtain ⟨A4, hA4⟩ : ∃ A, A3.alloc (.cells #[.string ⟨#[110, 49]⟩, .string ⟨#[78, 50]⟩, .string S, .string ⟨#[53]⟩, .string ⟨#[100]⟩, .string ⟨#[112, 101, 114, 115, 111, 110]⟩] 9) = A := ⟨_, rfl⟩
  obtain ⟨x4, x6, hty, hvl, hb1, hb4, z1, z4⟩ := mk_rows w A1 A2 A3 A4 4 S n hA1 hA2 hA3 hA4
  obtain ⟨b, off, rfl, hc0, _⟩ := isC_at hC hb1
  have HA2 := Lib.hid hA2
  clear hA2
  rw [hTY] at hty
  rw [hVL] at hvl
  rw [hn] at hc0
  obtain ⟨k6, hk6⟩ : ∃ k, k = n / 8 % 6 := ⟨_, rfl⟩
  obtain ⟨v6, hv6⟩ : ∃ k, k = n / 16 % 6 := ⟨_, rfl⟩
  rw [← hk6] at hty
  rw [← hv6] at hvl
  have e8 : (n : Int) % 8 = 3 := by omega
  have e8' : Int.tmod (n : Int) 8 = 3 := by rw [Int.tmod_eq_emod_of_nonneg (by omega)]; omega
  have e6 : (n : Int) / 8 % 6 = (k6 : Int) := by omega
  have e16 : (n : Int) / 16 % 6 = (v6 : Int) := by omega
  have hk65 : k6 < 6 := by omega
  have hv65 : v6 < 6 := by omega
  have tw : IntKind.i64.wrap (n : Int) = (n : Int) := IntWalk.i64_in _ (by omega)
  have hl0 : (((m : Nat) : Int) == 0) = false := by simp; omega
  obtain ⟨A6, hA6⟩ : ∃ A, (A4.setCell ⟨A1.heap.size, 1, none⟩ (.string TY)).setCell ⟨A1.heap.size, 2, none⟩ (.string VL) = A := ⟨_, rfl⟩
  have x61 := fl_set1 x6 (.string TY)
  have x62 : FlAt A6 A1.heap.size (.int .i64 4) (.string TY) (.string VL) (.slice none 0 0) (.slice none 0 0) := by rw [← hA6]; exact fl_set2 x61 (.string VL)
  have x42 : FlAt A6 w.heap.size (.int .i64 0) (.string ⟨#[]⟩) (.string ⟨#[]⟩) (.slice none 0 0) (.slice none 0 0) := by
    rw [← hA6]; exact (blockFl_ne _ ⟨A1.heap.size, 2, none⟩ _ (by show w.heap.size ≠ A1.heap.size; omega)).trans ((blockFl_ne _ ⟨A1.heap.size, 1, none⟩ _ (by show w.heap.size ≠ A1.heap.size; omega)).trans x4)
  have hb6 : Below w.heap.size w A6 := by rw [← hA6]; exact (hb4.setCell (p := ⟨A1.heap.size, 1, none⟩) (by show w.heap.size ≤ A1.heap.size; omega) _).setCell (p := ⟨A1.heap.size, 2, none⟩) (by show w.heap.size ≤ A1.heap.size; omega) _
  obtain ⟨g0, g1, g2, g3, g4⟩ := fl_cells x6
  obtain ⟨f0, f1, f2, f3, f4⟩ := fl_frozen x6
  have g2' := (fl_cells x61).2.2.1
  have f2' := (fl_frozen x61).2.2.1
  have HA6 := Lib.hid hA6
  have HX62 := Lib.hid x62
  have HX42 := Lib.hid x42
  have HB6 := Lib.hid hb6
  have HTYl := Lib.hid hTYl
  have HVLl := Lib.hid hVLl
  have hz16 : A1.heap.size ≠ w.heap.size := by omega
  clear hA6 x61 x62 x42 hb6 hTYl hVLl hTY hVL x4 x6 hb1 hb4 z1 z4 hC hm hk6 hv6 hn hk
  go_enter Tryd.func18, Tryd.ntmps18
  go_upto_region 5 with (fail)
  rw [HA2.out]
  go_upto_region 24 with (fail)
  rw [HA6.out]
  obtain ⟨c0, c1, c2, c3, c4⟩ := fl_cells HX62.out
  obtain ⟨d0, d1, d2, d3, d4⟩ := fl_cells HX42.out
  obtain ⟨q0, q1, q2, q3, q4⟩ := fl_frozen HX42.out
  obtain ⟨y0, y1, y2, y3, y4⟩ := fl_cells (fl_set HX42.out (.int .i64 4) (.string TY) (.string VL) (.slice none 0 0) (.slice none 0 0))
  unfold set5F at y0 y1 y2 y3 y4
  go_wp2
  have hbz := fl_setB HB6.out (Nat.le_refl w.heap.size) (.int .i64 4) (.string TY) (.string VL) (.slice none 0 0) (.slice none 0 0)
  refine bodyPost_ret (v := .agg #[.int .i64 4, .string TY, .string VL, .slice none 0 0, .slice none 0 0]) (by simp [results, Tryd.results18, go_sem, y0, y1, y2, y3, y4]) rfl ⟨_, rfl, ?_, hbz⟩
  have := mkFl (ok := fun b => w.heap.size ≤ b ∧ b < (set5F A6 w.heap.size (.int .i64 4) (.string TY) (.string VL) (.slice none 0 0) (.slice none 0 0)).heap.size) (w := set5F A6 w.heap.size (.int .i64 4) (.string TY) (.string VL) (.slice none 0 0) (.slice none 0 0)) (k := 4) (t := TY.data.toList) (x := VL.data.toList) (p := []) (u := .slice none 0 0) (by decide) (by rw [HTYl.out]; exact Nat.le_trans (mkTy_len n) (by unfold maxLen; omega)) (by rw [HVLl.out]; refine Nat.le_trans (mkVl_len _ n) ?_; rw [bytes_len]; unfold maxLen; omega) isTo_nil
  rw [strV_whole, strV_whole, HTYl.out, HVLl.out] at this
  exact this
set_option maxRecDepth 100000 in
set_option maxHeartbeats 8000000 in
theorem mkLeaf6 (S : ByteArray) (hS : S.size ≤ 1000) (fu : Nat) (c : UInt8) (r : List UInt8) (n : Nat) (hn : c.toNat = n) (hk : c.toNat % 8 = 5) (a : Option Addr) (cap : Nat) (w : World) (hC : IsC w.heap.size w (c :: r) a cap) :
    Calls Tryd.prog 18 #[.slice a (c :: r).length cap, .string S] w fun e w' => ∃ v, e = .returned v ∧ IsFl (fun b => w.heap.size ≤ b ∧ b < w'.heap.size) w' (makeFu S.data.toList (fu + 1) (c :: r)) v ∧ Below w.heap.size w w' := by
  rw [show makeFu S.data.toList (fu + 1) (c :: r) = FT.mk 6 (mkTy n) (mkVl S.data.toList n) [] [] from by
    show (if c.toNat % 8 = 0 then _ else _) = _
    rw [hn] at hk ⊢
    rw [if_neg (by omega)]; rw [if_neg (by omega)]; rw [if_neg (by omega)]; rw [if_neg (by omega)]; rw [if_neg (by omega)]; rw [hk]; rfl]
  have hcl := c.toNat_lt
  have hcap := hC.2.1
  have hlen := hC.1
  obtain ⟨m, hm⟩ : ∃ m, m = (c :: r).length := ⟨_, rfl⟩
  have hm1 : 1 ≤ m := by rw [hm]; simp
  rw [← hm] at hlen ⊢
  rw [hn] at hk hcl
  unfold maxLen at hcap
  obtain ⟨TY, hTY, hTYl⟩ := strV_text (mkTy n)
  obtain ⟨VL, hVL, hVLl⟩ := strV_text (mkVl S.data.toList n)
  obtain ⟨A1, hA1⟩ : ∃ A, w.alloc (.cells #[.int .i64 0, .string ⟨#[]⟩, .string ⟨#[]⟩, .slice none 0 0, .slice none 0 0] 25) = A := ⟨_, rfl⟩
  obtain ⟨A2, hA2⟩ : ∃ A, A1.alloc (.cells #[.int .i64 6, .string ⟨#[]⟩, .string ⟨#[]⟩, .slice none 0 0, .slice none 0 0] 25) = A := ⟨_, rfl⟩
  obtain ⟨A3, hA3⟩ : ∃ A, A2.alloc (.cells #[.string ⟨#[99, 110]⟩, .string ⟨#[115, 110]⟩, .string ⟨#[100, 101, 115, 99, 114, 105, 112, 116, 105, 111, 110]⟩, .string ⟨#[117, 105, 100, 78, 117, 109, 98, 101, 114]⟩, .string ⟨#[109, 97, 105, 108]⟩, .string ⟨#[111, 98, 106, 101, 99, 116, 67, 108, 97, 115, 115]⟩] 9) = A := ⟨_, rfl⟩
  obtain ⟨A4, hA4⟩ : ∃ A, A3.alloc (.cells #[.string ⟨#[110, 49]⟩, .string ⟨#[78, 50]⟩, .string S, .string ⟨#[53]⟩, .string ⟨#[100]⟩, .string ⟨#[112, 101, 114, 115, 111, 110]⟩] 9) = A := ⟨_, rfl⟩
  obtain ⟨x4, x6, hty, hvl, hb1, hb4, z1, z4⟩ := mk_rows w A1 A2 A3 A4 6 S n hA1 hA2 hA3 hA4
  obtain ⟨b, off, rfl, hc0, _⟩ := isC_at hC hb1
  have HA2 := Lib.hid hA2
  clear hA2
  rw [hTY] at hty
  rw [hVL] at hvl
  rw [hn] at hc0
  obtain ⟨k6, hk6⟩ : ∃ k, k = n / 8 % 6 := ⟨_, rfl⟩
  obtain ⟨v6, hv6⟩ : ∃ k, k = n / 16 % 6 := ⟨_, rfl⟩
  rw [← hk6] at hty
  rw [← hv6] at hvl
  have e8 : (n : Int) % 8 = 5 := by omega
  have e8' : Int.tmod (n : Int) 8 = 5 := by rw [Int.tmod_eq_emod_of_nonneg (by omega)]; omega
  have e6 : (n : Int) / 8 % 6 = (k6 : Int) := by omega
  have e16 : (n : Int) / 16 % 6 = (v6 : Int) := by omega
  have hk65 : k6 < 6 := by omega
  have hv65 : v6 < 6 := by omega
  have tw : IntKind.i64.wrap (n : Int) = (n : Int) := IntWalk.i64_in _ (by omega)
  have hl0 : (((m : Nat) : Int) == 0) = false := by simp; omega
  obtain ⟨A6, hA6⟩ : ∃ A, (A4.setCell ⟨A1.heap.size, 1, none⟩ (.string TY)).setCell ⟨A1.heap.size, 2, none⟩ (.string VL) = A := ⟨_, rfl⟩
  have x61 := fl_set1 x6 (.string TY)
  have x62 : FlAt A6 A1.heap.size (.int .i64 6) (.string TY) (.string VL) (.slice none 0 0) (.slice none 0 0) := by rw [← hA6]; exact fl_set2 x61 (.string VL)
  have x42 : FlAt A6 w.heap.size (.int .i64 0) (.string ⟨#[]⟩) (.string ⟨#[]⟩) (.slice none 0 0) (.slice none 0 0) := by
    rw [← hA6]; exact (blockFl_ne _ ⟨A1.heap.size, 2, none⟩ _ (by show w.heap.size ≠ A1.heap.size; omega)).trans ((blockFl_ne _ ⟨A1.heap.size, 1, none⟩ _ (by show w.heap.size ≠ A1.heap.size; omega)).trans x4)
  have hb6 : Below w.heap.size w A6 := by rw [← hA6]; exact (hb4.setCell (p := ⟨A1.heap.size, 1, none⟩) (by show w.heap.size ≤ A1.heap.size; omega) _).setCell (p := ⟨A1.heap.size, 2, none⟩) (by show w.heap.size ≤ A1.heap.size; omega) _
  obtain ⟨g0, g1, g2, g3, g4⟩ := fl_cells x6
  obtain ⟨f0, f1, f2, f3, f4⟩ := fl_frozen x6
  have g2' := (fl_cells x61).2.2.1
  have f2' := (fl_frozen x61).2.2.1
  have HA6 := Lib.hid hA6
  have HX62 := Lib.hid x62
  have HX42 := Lib.hid x42
  have HB6 := Lib.hid hb6
  have HTYl := Lib.hid hTYl
  have HVLl := Lib.hid hVLl
  have hz16 : A1.heap.size ≠ w.heap.size := by omega
  clear hA6 x61 x62 x42 hb6 hTYl hVLl hTY hVL x4 x6 hb1 hb4 z1 z4 hC hm hk6 hv6 hn hk
  go_enter Tryd.func18, Tryd.ntmps18
  go_upto_region 5 with (fail)
  rw [HA2.out]
  go_upto_region 24 with (fail)
  rw [HA6.out]
  obtain ⟨c0, c1, c2, c3, c4⟩ := fl_cells HX62.out
  obtain ⟨d0, d1, d2, d3, d4⟩ := fl_cells HX42.out
  obtain ⟨q0, q1, q2, q3, q4⟩ := fl_frozen HX42.out
  obtain ⟨y0, y1, y2, y3, y4⟩ := fl_cells (fl_set HX42.out (.int .i64 6) (.string TY) (.string VL) (.slice none 0 0) (.slice none 0 0))
  unfold set5F at y0 y1 y2 y3 y4
  go_wp2
  have hbz := fl_setB HB6.out (Nat.le_refl w.heap.size) (.int .i64 6) (.string TY) (.string VL) (.slice none 0 0) (.slice none 0 0)
  refine bodyPost_ret (v := .agg #[.int .i64 6, .string TY, .string VL, .slice none 0 0, .slice none 0 0]) (by simp [results, Tryd.results18, go_sem, y0, y1, y2, y3, y4]) rfl ⟨_, rfl, ?_, hbz⟩
  have := mkFl (ok := fun b => w.heap.size ≤ b ∧ b < (set5F A6 w.heap.size (.int .i64 6) (.string TY) (.string VL) (.slice none 0 0) (.slice none 0 0)).heap.size) (w := set5F A6 w.heap.size (.int .i64 6) (.string TY) (.string VL) (.slice none 0 0) (.slice none 0 0)) (k := 6) (t := TY.data.toList) (x := VL.data.toList) (p := []) (u := .slice none 0 0) (by decide) (by rw [HTYl.out]; exact Nat.le_trans (mkTy_len n) (by unfold maxLen; omega)) (by rw [HVLl.out]; refine Nat.le_trans (mkVl_len _ n) ?_; rw [bytes_len]; unfold maxLen; omega) isTo_nil
  rw [strV_whole, strV_whole, HTYl.out, HVLl.out] at this
  exact this
set_option maxRecDepth 100000 in
set_option maxHeartbeats 8000000 in
theorem mkLeaf7 (S : ByteArray) (hS : S.size ≤ 1000) (fu : Nat) (c : UInt8) (r : List UInt8) (n : Nat) (hn : c.toNat = n) (hk : c.toNat % 8 = 6) (a : Option Addr) (cap : Nat) (w : World) (hC : IsC w.heap.size w (c :: r) a cap) :
    Calls Tryd.prog 18 #[.slice a (c :: r).length cap, .string S] w fun e w' => ∃ v, e = .returned v ∧ IsFl (fun b => w.heap.size ≤ b ∧ b < w'.heap.size) w' (makeFu S.data.toList (fu + 1) (c :: r)) v ∧ Below w.heap.size w w' := by
  rw [show makeFu S.data.toList (fu + 1) (c :: r) = FT.mk 7 (mkTy n) (mkVl S.data.toList n) [] [] from by
    show (if c.toNat % 8 = 0 then _ else _) = _
    rw [hn] at hk ⊢
    rw [if_neg (by omega)]; rw [if_neg (by omega)]; rw [if_neg (by omega)]; rw [if_neg (by omega)]; rw [if_neg (by omega)]; rw [hk]; rfl]
  have hcl := c.toNat_lt
  have hcap := hC.2.1
  have hlen := hC.1
  obtain ⟨m, hm⟩ : ∃ m, m = (c :: r).length := ⟨_, rfl⟩
  have hm1 : 1 ≤ m := by rw [hm]; simp
  rw [← hm] at hlen ⊢
  rw [hn] at hk hcl
  unfold maxLen at hcap
  obtain ⟨TY, hTY, hTYl⟩ := strV_text (mkTy n)
  obtain ⟨VL, hVL, hVLl⟩ := strV_text (mkVl S.data.toList n)
  obtain ⟨A1, hA1⟩ : ∃ A, w.alloc (.cells #[.int .i64 0, .string ⟨#[]⟩, .string ⟨#[]⟩, .slice none 0 0, .slice none 0 0] 25) = A := ⟨_, rfl⟩
  obtain ⟨A2, hA2⟩ : ∃ A, A1.alloc (.cells #[.int .i64 7, .string ⟨#[]⟩, .string ⟨#[]⟩, .slice none 0 0, .slice none 0 0] 25) = A := ⟨_, rfl⟩
  obtain ⟨A3, hA3⟩ : ∃ A, A2.alloc (.cells #[.string ⟨#[99, 110]⟩, .string ⟨#[115, 110]⟩, .string ⟨#[100, 101, 115, 99, 114, 105, 112, 116, 105, 111, 110]⟩, .string ⟨#[117, 105, 100, 78, 117, 109, 98, 101, 114]⟩, .string ⟨#[109, 97, 105, 108]⟩, .string ⟨#[111, 98, 106, 101, 99, 116, 67, 108, 97, 115, 115]⟩] 9) = A := ⟨_, rfl⟩
  obtain ⟨A4, hA4⟩ : ∃ A, A3.alloc (.cells #[.string ⟨#[110, 49]⟩, .string ⟨#[78, 50]⟩, .string S, .string ⟨#[53]⟩, .string ⟨#[100]⟩, .string ⟨#[112, 101, 114, 115, 111, 110]⟩] 9) = A := ⟨_, rfl⟩
  obtain ⟨x4, x6, hty, hvl, hb1, hb4, z1, z4⟩ := mk_rows w A1 A2 A3 A4 7 S n hA1 hA2 hA3 hA4
  obtain ⟨b, off, rfl, hc0, _⟩ := isC_at hC hb1
  have HA2 := Lib.hid hA2
  clear hA2
  rw [hTY] at hty
  rw [hVL] at hvl
  rw [hn] at hc0
  obtain ⟨k6, hk6⟩ : ∃ k, k = n / 8 % 6 := ⟨_, rfl⟩
  obtain ⟨v6, hv6⟩ : ∃ k, k = n / 16 % 6 := ⟨_, rfl⟩
  rw [← hk6] at hty
  rw [← hv6] at hvl
  have e8 : (n : Int) % 8 = 6 := by omega
  have e8' : Int.tmod (n : Int) 8 = 6 := by rw [Int.tmod_eq_emod_of_nonneg (by omega)]; omega
  have e6 : (n : Int) / 8 % 6 = (k6 : Int) := by omega
  have e16 : (n : Int) / 16 % 6 = (v6 : Int) := by omega
  have hk65 : k6 < 6 := by omega
  have hv65 : v6 < 6 := by omega
  have tw : IntKind.i64.wrap (n : Int) = (n : Int) := IntWalk.i64_in _ (by omega)
  have hl0 : (((m : Nat) : Int) == 0) = false := by simp; omega
  obtain ⟨A6, hA6⟩ : ∃ A, (A4.setCell ⟨A1.heap.size, 1, none⟩ (.string TY)).setCell ⟨A1.heap.size, 2, none⟩ (.string VL) = A := ⟨_, rfl⟩
  have x61 := fl_set1 x6 (.string TY)
  have x62 : FlAt A6 A1.heap.size (.int .i64 7) (.string TY) (.string VL) (.slice none 0 0) (.slice none 0 0) := by rw [← hA6]; exact fl_set2 x61 (.string VL)
  have x42 : FlAt A6 w.heap.size (.int .i64 0) (.string ⟨#[]⟩) (.string ⟨#[]⟩) (.slice none 0 0) (.slice none 0 0) := by
    rw [← hA6]; exact (blockFl_ne _ ⟨A1.heap.size, 2, none⟩ _ (by show w.heap.size ≠ A1.heap.size; omega)).trans ((blockFl_ne _ ⟨A1.heap.size, 1, none⟩ _ (by show w.heap.size ≠ A1.heap.size; omega)).trans x4)
  have hb6 : Below w.heap.size w A6 := by rw [← hA6]; exact (hb4.setCell (p := ⟨A1.heap.size, 1, none⟩) (by show w.heap.size ≤ A1.heap.size; omega) _).setCell (p := ⟨A1.heap.size, 2, none⟩) (by show w.heap.size ≤ A1.heap.size; omega) _
  obtain ⟨g0, g1, g2, g3, g4⟩ := fl_cells x6
  obtain ⟨f0, f1, f2, f3, f4⟩ := fl_frozen x6
  have g2' := (fl_cells x61).2.2.1
  have f2' := (fl_frozen x61).2.2.1
  have HA6 := Lib.hid hA6
  have HX62 := Lib.hid x62
  have HX42 := Lib.hid x42
  have HB6 := Lib.hid hb6
  have HTYl := Lib.hid hTYl
  have HVLl := Lib.hid hVLl
  have hz16 : A1.heap.size ≠ w.heap.size := by omega
  clear hA6 x61 x62 x42 hb6 hTYl hVLl hTY hVL x4 x6 hb1 hb4 z1 z4 hC hm hk6 hv6 hn hk
  go_enter Tryd.func18, Tryd.ntmps18
  go_upto_region 5 with (fail)
  rw [HA2.out]
  go_upto_region 24 with (fail)
  rw [HA6.out]
  obtain ⟨c0, c1, c2, c3, c4⟩ := fl_cells HX62.out
  obtain ⟨d0, d1, d2, d3, d4⟩ := fl_cells HX42.out
  obtain ⟨q0, q1, q2, q3, q4⟩ := fl_frozen HX42.out
  obtain ⟨y0, y1, y2, y3, y4⟩ := fl_cells (fl_set HX42.out (.int .i64 7) (.string TY) (.string VL) (.slice none 0 0) (.slice none 0 0))
  unfold set5F at y0 y1 y2 y3 y4
  go_wp2
  have hbz := fl_setB HB6.out (Nat.le_refl w.heap.size) (.int .i64 7) (.string TY) (.string VL) (.slice none 0 0) (.slice none 0 0)
  refine bodyPost_ret (v := .agg #[.int .i64 7, .string TY, .string VL, .slice none 0 0, .slice none 0 0]) (by simp [results, Tryd.results18, go_sem, y0, y1, y2, y3, y4]) rfl ⟨_, rfl, ?_, hbz⟩
  have := mkFl (ok := fun b => w.heap.size ≤ b ∧ b < (set5F A6 w.heap.size (.int .i64 7) (.string TY) (.string VL) (.slice none 0 0) (.slice none 0 0)).heap.size) (w := set5F A6 w.heap.size (.int .i64 7) (.string TY) (.string VL) (.slice none 0 0) (.slice none 0 0)) (k := 7) (t := TY.data.toList) (x := VL.data.toList) (p := []) (u := .slice none 0 0) (by decide) (by rw [HTYl.out]; exact Nat.le_trans (mkTy_len n) (by unfold maxLen; omega)) (by rw [HVLl.out]; refine Nat.le_trans (mkVl_len _ n) ?_; rw [bytes_len]; unfold maxLen; omega) isTo_nil
  rw [strV_whole, strV_whole, HTYl.out, HVLl.out] at this
  exact this
set_option maxRecDepth 100000 in
set_option maxHeartbeats 8000000 in
theorem mkLeaf8 (S : ByteArray) (hS : S.size ≤ 1000) (fu : Nat) (c : UInt8) (r : List UInt8) (n : Nat) (hn : c.toNat = n) (hk : c.toNat % 8 = 7) (a : Option Addr) (cap : Nat) (w : World) (hC : IsC w.heap.size w (c :: r) a cap) :
    Calls Tryd.prog 18 #[.slice a (c :: r).length cap, .string S] w fun e w' => ∃ v, e = .returned v ∧ IsFl (fun b => w.heap.size ≤ b ∧ b < w'.heap.size) w' (makeFu S.data.toList (fu + 1) (c :: r)) v ∧ Below w.heap.size w w' := by
  rw [show makeFu S.data.toList (fu + 1) (c :: r) = FT.mk 8 (mkTy n) [] [] [] from by
    show (if c.toNat % 8 = 0 then _ else _) = _
    rw [hn] at hk ⊢
    rw [if_neg (by omega)]; rw [if_neg (by omega)]; rw [if_neg (by omega)]; rw [if_pos hk]]
  have hcl := c.toNat_lt
  have hcap := hC.2.1
  have hlen := hC.1
  obtain ⟨m, hm⟩ : ∃ m, m = (c :: r).length := ⟨_, rfl⟩
  have hm1 : 1 ≤ m := by rw [hm]; simp
  rw [← hm] at hlen ⊢
  rw [hn] at hk hcl
  unfold maxLen at hcap
  obtain ⟨TY, hTY, hTYl⟩ := strV_text (mkTy n)
  obtain ⟨VL, hVL, hVLl⟩ := strV_text (mkVl S.data.toList n)
  obtain ⟨A1, hA1⟩ : ∃ A, w.alloc (.cells #[.int .i64 0, .string ⟨#[]⟩, .string ⟨#[]⟩, .slice none 0 0, .slice none 0 0] 25) = A := ⟨_, rfl⟩
  obtain ⟨A2, hA2⟩ : ∃ A, A1.alloc (.cells #[.int .i64 8, .string ⟨#[]⟩, .string ⟨#[]⟩, .slice none 0 0, .slice none 0 0] 25) = A := ⟨_, rfl⟩
  obtain ⟨A3, hA3⟩ : ∃ A, A2.alloc (.cells #[.string ⟨#[99, 110]⟩, .string ⟨#[115, 110]⟩, .string ⟨#[100, 101, 115, 99, 114, 105, 112, 116, 105, 111, 110]⟩, .string ⟨#[117, 105, 100, 78, 117, 109, 98, 101, 114]⟩, .string ⟨#[109, 97, 105, 108]⟩, .string ⟨#[111, 98, 106, 101, 99, 116, 67, 108, 97, 115, 115]⟩] 9) = A := ⟨_, rfl⟩
  obtain ⟨A4, hA4⟩ : ∃ A, A3.alloc (.cells #[.string ⟨#[110, 49]⟩, .string ⟨#[78, 50]⟩, .string S, .string ⟨#[53]⟩, .string ⟨#[100]⟩, .string ⟨#[112, 101, 114, 115, 111, 110]⟩] 9) = A := ⟨_, rfl⟩
  obtain ⟨x4, x6, hty, hvl, hb1, hb4, z1, z4⟩ := mk_rows w A1 A2 A3 A4 8 S n hA1 hA2 hA3 hA4
  obtain ⟨b, off, rfl, hc0, _⟩ := isC_at hC hb1
  have HA2 := Lib.hid hA2
  clear hA2
  rw [hTY] at hty
  rw [hVL] at hvl
  rw [hn] at hc0
  obtain ⟨k6, hk6⟩ : ∃ k, k = n / 8 % 6 := ⟨_, rfl⟩
  obtain ⟨v6, hv6⟩ : ∃ k, k = n / 16 % 6 := ⟨_, rfl⟩
  rw [← hk6] at hty
  rw [← hv6] at hvl
  have e8 : (n : Int) % 8 = 7 := by omega
  have e8' : Int.tmod (n : Int) 8 = 7 := by rw [Int.tmod_eq_emod_of_nonneg (by omega)]; omega
  have e6 : (n : Int) / 8 % 6 = (k6 : Int) := by omega
  have e16 : (n : Int) / 16 % 6 = (v6 : Int) := by omega
  have hk65 : k6 < 6 := by omega
  have hv65 : v6 < 6 := by omega
  have tw : IntKind.i64.wrap (n : Int) = (n : Int) := IntWalk.i64_in _ (by omega)
  have hl0 : (((m : Nat) : Int) == 0) = false := by simp; omega
  obtain ⟨A6, hA6⟩ : ∃ A, A4.setCell ⟨A1.heap.size, 1, none⟩ (.string TY) = A := ⟨_, rfl⟩
  have x62 : FlAt A6 A1.heap.size (.int .i64 8) (.string TY) (.string ⟨#[]⟩) (.slice none 0 0) (.slice none 0 0) := by rw [← hA6]; exact fl_set1 x6 (.string TY)
  have x42 : FlAt A6 w.heap.size (.int .i64 0) (.string ⟨#[]⟩) (.string ⟨#[]⟩) (.slice none 0 0) (.slice none 0 0) := by
    rw [← hA6]; exact (blockFl_ne _ ⟨A1.heap.size, 1, none⟩ _ (by show w.heap.size ≠ A1.heap.size; omega)).trans x4
  have hb6 : Below w.heap.size w A6 := by rw [← hA6]; exact hb4.setCell (p := ⟨A1.heap.size, 1, none⟩) (by show w.heap.size ≤ A1.heap.size; omega) _
  obtain ⟨g0, g1, g2, g3, g4⟩ := fl_cells x6
  obtain ⟨f0, f1, f2, f3, f4⟩ := fl_frozen x6
  have HA6 := Lib.hid hA6
  have HX62 := Lib.hid x62
  have HX42 := Lib.hid x42
  have HB6 := Lib.hid hb6
  have HTYl := Lib.hid hTYl
  clear hA6 x62 x42 hb6 hTYl hVLl hTY hVL x4 x6 hb1 hb4 z1 z4 hC hm hk6 hv6 hn hk
  go_enter Tryd.func18, Tryd.ntmps18
  go_upto_region 5 with (fail)
  rw [HA2.out]
  go_upto_region 24 with (fail)
  rw [HA6.out]
  obtain ⟨c0, c1, c2, c3, c4⟩ := fl_cells HX62.out
  obtain ⟨d0, d1, d2, d3, d4⟩ := fl_cells HX42.out
  obtain ⟨q0, q1, q2, q3, q4⟩ := fl_frozen HX42.out
  obtain ⟨y0, y1, y2, y3, y4⟩ := fl_cells (fl_set HX42.out (.int .i64 8) (.string TY) (.string ⟨#[]⟩) (.slice none 0 0) (.slice none 0 0))
  unfold set5F at y0 y1 y2 y3 y4
  go_wp2
  have hbz := fl_setB HB6.out (Nat.le_refl w.heap.size) (.int .i64 8) (.string TY) (.string ⟨#[]⟩) (.slice none 0 0) (.slice none 0 0)
  refine bodyPost_ret (v := .agg #[.int .i64 8, .string TY, .string ⟨#[]⟩, .slice none 0 0, .slice none 0 0]) (by simp [results, Tryd.results18, go_sem, y0, y1, y2, y3, y4]) rfl ⟨_, rfl, ?_, hbz⟩
  have := mkFl (ok := fun b => w.heap.size ≤ b ∧ b < (set5F A6 w.heap.size (.int .i64 8) (.string TY) (.string ⟨#[]⟩) (.slice none 0 0) (.slice none 0 0)).heap.size) (w := set5F A6 w.heap.size (.int .i64 8) (.string TY) (.string ⟨#[]⟩) (.slice none 0 0) (.slice none 0 0)) (k := 8) (t := TY.data.toList) (x := []) (p := []) (u := .slice none 0 0) (by decide) (by rw [HTYl.out]; exact Nat.le_trans (mkTy_len n) (by unfold maxLen; omega)) (Nat.zero_le _) isTo_nil
  rw [strV_whole, HTYl.out] at this
  exact this
end Go.Proofs.YtdcfmgnpjmpboaaDoor
