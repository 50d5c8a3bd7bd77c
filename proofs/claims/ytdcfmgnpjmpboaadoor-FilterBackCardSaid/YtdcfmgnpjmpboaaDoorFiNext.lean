/- filter's reader: count and next. -/
import Derived.Test.YtdcfmgnpjmpboaaDoorFiLeaf
import Derived.Laws.LoneSync
import Derived.Deep.RegionHeld3
import Derived.Laws.Externs
namespace Go.Proofs.YtdcfmgnpjmpboaaDoor
open Go.RowKit
set_option linter.unusedVariables false
set_option linter.unusedSimpArgs false

set_option maxRecDepth 100000 in
theorem loadFl_any (b o : Nat) (x : Int) (w : World) (h : w.cell? ⟨b, o, none⟩ = some (.int .i64 x)) : Calls Tryd.prog 63 #[.pointer (some ⟨b, o, none⟩)] w fun e w' => e = .returned (.int .i64 x) ∧ w' = w := by
  have hl := run_call_load (P := Tryd.prog) Tryd.func78 (by kernel_rfl) (by kernel_rfl) (by kernel_rfl) .i64 (by kernel_rfl) (a := ⟨b, o, none⟩) (x := x) (w := w) h
  go_enter Tryd.func63, Tryd.ntmps63
  go_wp2
  go_ret
  exact ⟨rfl, rfl⟩
set_option maxRecDepth 100000 in
theorem addFl_any (b o : Nat) (x : Int) (hx : 0 ≤ x) (hx2 : x ≤ 1000000000) (w : World) (h : w.cell? ⟨b, o, none⟩ = some (.int .i64 x)) (hz : w.frozen? ⟨b, o, none⟩ = false) : Calls Tryd.prog 62 #[.pointer (some ⟨b, o, none⟩), .int .i64 1] w fun e w' => e = .returned (.int .i64 (x + 1)) ∧ w' = w.setCell ⟨b, o, none⟩ (.int .i64 (x + 1)) := by
  have hl := run_call_add (P := Tryd.prog) Tryd.func77 (by kernel_rfl) (by kernel_rfl) (by kernel_rfl) .i64 (by kernel_rfl) (a := ⟨b, o, none⟩) (x := x) (y := 1) (s := x + 1) (w := w) h hz (by
    show Sem.run _ (pure (Value.int .i64 (IntKind.i64.wrap (x + 1)))) w = _
    rw [IntKind.wrap_i64, show (x + 1 + 9223372036854775808) % 18446744073709551616 - 9223372036854775808 = x + 1 from by omega]
    rfl)
  go_enter Tryd.func62, Tryd.ntmps62
  go_wp2
  go_ret
  exact ⟨rfl, rfl⟩

/-- A reader in a block: what is left, how deep, how many. -/
abbrev RdAt (W : World) (g : Nat) (r : ByteArray) (above n : Nat) : Prop := W.heap[g]? = some (.cells #[.string r, .int .i64 above, .int .i64 n] 83 (0, 0))
theorem rd_cells {W : World} {g : Nat} {r : ByteArray} {above n : Nat} (h : RdAt W g r above n) : W.cell? ⟨g, 0, none⟩ = some (.string r) ∧ W.cell? ⟨g, 1, none⟩ = some (.int .i64 above) ∧ W.cell? ⟨g, 2, none⟩ = some (.int .i64 n) := by
  have h' : W.heap[g]? = some (.cells #[.string r, .int .i64 above, .int .i64 n] 83 (0, 0)) := h
  refine ⟨?_, ?_, ?_⟩ <;> simp [World.cell?, h']
theorem rd_frozen {W : World} {g : Nat} {r : ByteArray} {above n : Nat} (h : RdAt W g r above n) : W.frozen? ⟨g, 0, none⟩ = false ∧ W.frozen? ⟨g, 1, none⟩ = false ∧ W.frozen? ⟨g, 2, none⟩ = false := by
  have h' : W.heap[g]? = some (.cells #[.string r, .int .i64 above, .int .i64 n] 83 (0, 0)) := h
  refine ⟨?_, ?_, ?_⟩ <;> simp [World.frozen?, h']
theorem rd_lt {W : World} {g : Nat} {r : ByteArray} {above n : Nat} (h : RdAt W g r above n) : g < W.heap.size := (Array.getElem?_eq_some_iff.1 h).1
theorem rd_below {W W' : World} {g m : Nat} {r : ByteArray} {above n : Nat} (h : RdAt W g r above n) (hb : Below m W W') (hn : g < m) : RdAt W' g r above n := (hb.block g hn).trans h
theorem rd_set {W : World} {g : Nat} {r : ByteArray} {above n : Nat} (h : RdAt W g r above n) (q : ByteArray) : RdAt (W.setCell ⟨g, 0, none⟩ (.string q)) g q above n := by
  have h' : W.heap[g]? = some (.cells #[.string r, .int .i64 above, .int .i64 n] 83 (0, 0)) := h
  show (W.setCell ⟨g, 0, none⟩ (.string q)).heap[g]? = _
  simp [World.setCell, Array.getElem?_modify, h']
theorem rd_add {W : World} {g : Nat} {r : ByteArray} {above n : Nat} (h : RdAt W g r above n) : RdAt (W.setCell ⟨g, 2, none⟩ (.int .i64 ((n : Int) + 1))) g r above (n + 1) := by
  have h' : W.heap[g]? = some (.cells #[.string r, .int .i64 above, .int .i64 n] 83 (0, 0)) := h
  show (W.setCell ⟨g, 2, none⟩ (.int .i64 ((n : Int) + 1))).heap[g]? = _
  simp [World.setCell, Array.getElem?_modify, h']
theorem countFl_any (g n above : Nat) (r : ByteArray) (w : World) (h : RdAt w g r above n) : Calls Tryd.prog 47 #[.pointer (some ⟨g, 0, none⟩)] w fun e w' => e = .returned (.int .i64 n) ∧ w' = w := by
  obtain ⟨c0, c1, c2⟩ := rd_cells h
  have HL := Lib.hid (loadFl_any g 2 n w c2)
  clear h
  go_enter Tryd.func47, Tryd.ntmps47
  go_wp2_with (go_at_call 63; refine (HL.out).mono ?_; rintro e w2 ⟨rfl, hw⟩; subst hw)
  go_ret
  exact ⟨rfl, rfl⟩

/-- What head tells. -/
def HdV (B : Nat) (w : World) (o : Option (FT × List UInt8)) (x : Value) (r : ByteArray) (b : Bool) : Prop := match o with
  | none => x = .agg #[.int .i64 0, .string ⟨#[]⟩, .string ⟨#[]⟩, .slice none 0 0, .slice none 0 0] ∧ b = false
  | some (f, q) => IsFl (fun k => B ≤ k ∧ k < w.heap.size) w f x ∧ r.data.toList = q ∧ b = true
/-- head at one depth is as D tells. -/
def HeadIs (above : Nat) (D : List UInt8 → Option (FT × List UInt8)) : Prop := ∀ (s : ByteArray) (w : World), s.size ≤ 1000000 → ascii s.data.toList →
  Calls Tryd.prog 20 #[.string s, .int .i64 above] w fun e w' => ∃ x r b, e = .returned (.tuple #[x, .string r, .bool b]) ∧ HdV w.heap.size w' (D s.data.toList) x r b ∧ Below w.heap.size w w'
/-- What stands when next has called head and has put its answer in a box, b4. -/
structure NxAt (W0 : World) (b0 g : Nat) (r : ByteArray) (above n B3 : Nat) (w3 W4 : World) (b4 : Nat) (x0 x1 x2 x3 x4 : Value) : Prop where
  fl : FlAt W4 b4 x0 x1 x2 x3 x4
  rd : RdAt W4 g r above n
  fz : FzAt W4 b0
  bl : Below W0.heap.size W0 W4
  lo : W0.heap.size ≤ b4
  same : ∀ k, B3 ≤ k → k < w3.heap.size → W4.heap[k]? = w3.heap[k]?
  size : w3.heap.size ≤ W4.heap.size
abbrev zF : Obj := .cells #[.int .i64 0, .string ⟨#[]⟩, .string ⟨#[]⟩, .slice none 0 0, .slice none 0 0] 25
theorem nxA {W0 w3 : World} {b0 g : Nat} {r : ByteArray} {above n : Nat} (hz : FzAt W0 b0) (hr : RdAt W0 g r above n) (hb : Below W0.drew.heap.size W0.drew w3) (x0 x1 x2 x3 x4 : Value) :
    NxAt W0 b0 g r above n W0.heap.size w3 (set5F (w3.alloc zF) w3.heap.size x0 x1 x2 x3 x4) w3.heap.size x0 x1 x2 x3 x4 := by
  have hb' : Below W0.heap.size W0 w3 := ⟨hb.1, hb.2, hb.3, hb.4, hb.5⟩
  have ha : Below w3.heap.size w3 (w3.alloc zF) := box5 w3 _ _ _ _ _
  have hs := hb'.size
  have hf : FzAt (w3.alloc zF) w3.heap.size := heap_alloc_new w3 _
  have h2 : Below w3.heap.size w3 (set5F (w3.alloc zF) w3.heap.size x0 x1 x2 x3 x4) := fl_setB ha (Nat.le_refl _) x0 x1 x2 x3 x4
  have h3 : Below W0.heap.size W0 (set5F (w3.alloc zF) w3.heap.size x0 x1 x2 x3 x4) := bthen hb' h2
  exact ⟨fl_set hf x0 x1 x2 x3 x4, rd_below hr h3 (rd_lt hr), fl_below hz h3 (fl_lt hz), h3, hs, fun k _ hk => h2.block k hk, h2.size⟩
theorem nxA2 {W0 w3 : World} {b0 g : Nat} {r : ByteArray} {above n : Nat} (hz : FzAt W0 b0) (hr : RdAt W0 g r above n) (hb : Below W0.drew.heap.size W0.drew w3) (x0 x1 x2 x3 x4 : Value) :
    NxAt W0 b0 g r above n W0.heap.size w3 (w3.alloc (.cells #[x0, x1, x2, x3, x4] 25)) w3.heap.size x0 x1 x2 x3 x4 := by
  have hb' : Below W0.heap.size W0 w3 := ⟨hb.1, hb.2, hb.3, hb.4, hb.5⟩
  have h2 : Below w3.heap.size w3 (w3.alloc (.cells #[x0, x1, x2, x3, x4] 25)) := box5 w3 _ _ _ _ _
  have h3 : Below W0.heap.size W0 (w3.alloc (.cells #[x0, x1, x2, x3, x4] 25)) := bthen hb' h2
  exact ⟨heap_alloc_new w3 _, rd_below hr h3 (rd_lt hr), fl_below hz h3 (fl_lt hz), h3, hb'.size, fun k _ hk => h2.block k hk, h2.size⟩
theorem nxB {W0 w3 : World} {b0 g : Nat} {r : ByteArray} {above n : Nat} (hz : FzAt W0 b0) (hr : RdAt W0 g r above n) (hb : Below (W0.alloc zF).drew.heap.size (W0.alloc zF).drew w3) (x0 x1 x2 x3 x4 : Value) :
    NxAt W0 b0 g r above n (W0.heap.size + 1) w3 (set5F w3 W0.heap.size x0 x1 x2 x3 x4) W0.heap.size x0 x1 x2 x3 x4 := by
  have hsz : (W0.alloc zF).drew.heap.size = W0.heap.size + 1 := by show (W0.alloc zF).heap.size = _; simp only [World.alloc, Array.size_push]
  have hb' : Below (W0.heap.size + 1) (W0.alloc zF) w3 := by rw [← hsz]; exact ⟨hb.1, hb.2, hb.3, hb.4, hb.5⟩
  have ha : Below W0.heap.size W0 (W0.alloc zF) := box5 W0 _ _ _ _ _
  have hf : FzAt w3 W0.heap.size := fl_below (heap_alloc_new W0 _) hb' (Nat.lt_succ_self _)
  have h2 : Below W0.heap.size W0 w3 := ha.trans (hb'.mono (Nat.le_succ _))
  have h3 : Below W0.heap.size W0 (set5F w3 W0.heap.size x0 x1 x2 x3 x4) := fl_setB h2 (Nat.le_refl _) x0 x1 x2 x3 x4
  exact ⟨fl_set hf x0 x1 x2 x3 x4, rd_below hr h3 (rd_lt hr), fl_below hz h3 (fl_lt hz), h3, Nat.le_refl _, fun k hk _ => fl_setO (by omega) _ _ _ _ _, by rw [set5F_size]; exact Nat.le_refl _⟩
set_option maxRecDepth 100000 in
set_option maxHeartbeats 8000000 in
theorem nextFl_any {above : Nat} {D : List UInt8 → Option (FT × List UInt8)} (H : HeadIs above D) (g n : Nat) (r : ByteArray) (hr : r.size ≤ 1000000) (ha : ascii r.data.toList) (hn : n ≤ 1000000) (w : World) (h : RdAt w g r above n) :
    Calls Tryd.prog 46 #[.pointer (some ⟨g, 0, none⟩)] w fun e w' => ∃ x b, e = .returned (.tuple #[x, .bool b]) ∧ w.grownBy w' (some g) ∧ FlV w.heap.size w' ((D r.data.toList).map (·.1)) x b ∧ ∀ f q, D r.data.toList = some (f, q) → ∃ r', r'.data.toList = q ∧ RdAt w' g r' above (n + 1) := by
  obtain ⟨W0, hW0⟩ : ∃ W, W = w.alloc (.cells #[.int .i64 0, .string ⟨#[]⟩, .string ⟨#[]⟩, .slice none 0 0, .slice none 0 0] 25) := ⟨_, rfl⟩
  have hb0 : Below w.heap.size w W0 := by rw [hW0]; exact box5 w _ _ _ _ _
  have hx0 : FzAt W0 w.heap.size := by rw [hW0]; exact heap_alloc_new w _
  have hr0 := rd_below h hb0 (rd_lt h)
  have HB0 := Lib.hid hb0
  have HX0 := Lib.hid hx0
  have HR0 := Lib.hid hr0
  have HLt := Lib.hid (rd_lt h)
  have HW0 := Lib.hid hW0.symm
  obtain ⟨o, ho⟩ : ∃ o, o = D r.data.toList := ⟨_, rfl⟩
  have hH := fun W => H r W hr ha
  rw [← ho] at hH ⊢
  have HH := Lib.hid hH
  have HHt : Hid (w.heap.size < W0.heap.size) := Lib.hid (fl_lt hx0)
  obtain ⟨c0, c1, _⟩ := rd_cells hr0
  have hst : W0.cell? ⟨g, 0, none⟩ = some (.string r) ∧ W0.cell? ⟨g, 1, none⟩ = some (.int .i64 above) := ⟨c0, c1⟩
  have hst0 : W0.drew.cell? ⟨g, 0, none⟩ = some (.string r) ∧ W0.drew.cell? ⟨g, 1, none⟩ = some (.int .i64 above) := hst
  have HSt := Lib.hid hst
  clear hb0 hW0 hx0 hr0 ho hH c0 c1 h hr ha hst H
  have hzz : g < W0.heap.size := Nat.lt_trans HLt.out HHt.out
  have hzb : g < (W0.alloc zF).drew.heap.size := by show g < (W0.alloc zF).heap.size; simp only [World.alloc, Array.size_push]; omega
  have hzc : W0.heap.size < (W0.alloc zF).drew.heap.size := by show W0.heap.size < (W0.alloc zF).heap.size; simp only [World.alloc, Array.size_push]; omega
  have hsta : (W0.alloc zF).drew.cell? ⟨g, 0, none⟩ = some (.string r) ∧ (W0.alloc zF).drew.cell? ⟨g, 1, none⟩ = some (.int .i64 above) := ⟨((box5 W0 _ _ _ _ _).cell (p := ⟨g, 0, none⟩) hzz).trans HSt.out.1, ((box5 W0 _ _ _ _ _).cell (p := ⟨g, 1, none⟩) hzz).trans HSt.out.2⟩
  have HXa : Hid (FzAt (W0.alloc zF).drew W0.heap.size) := Lib.hid (heap_alloc_new W0 _)
  have HSzB : Hid ((W0.alloc zF).drew.heap.size = W0.heap.size + 1) := Lib.hid (by show (W0.alloc zF).heap.size = _; simp only [World.alloc, Array.size_push])
  have HHA := Lib.hid (HH.out W0.drew)
  have HHB := Lib.hid (HH.out (W0.alloc zF).drew)
  have HGn : Hid (g < w.heap.size ∧ w.heap.size < W0.heap.size) := Lib.hid ⟨HLt.out, HHt.out⟩
  cases o with
  | none =>
    go_enter Tryd.func46, Tryd.ntmps46
    go_upto_region 1 with (fail)
    rw [HW0.out]
    go_region_held3 (fun w' => w'.cell? ⟨g, 0, none⟩ = some (.string r) ∧ w'.cell? ⟨g, 1, none⟩ = some (.int .i64 above))
      (first | (with_reducible exact hst0) | (with_reducible exact hsta) | (with_reducible exact hst3) | (with_reducible exact hst3a) | (with_reducible exact hst3s) | (with_reducible exact hst3m))
      (first
        | (go_at_call 20; (with_reducible refine (HHA.out).mono ?_); rintro e w3 ⟨x, q, b, rfl, ⟨rfl, rfl⟩, hb3⟩; have hn0 := nxA HX0.out HR0.out hb3 (Value.int .i64 0) (Value.string ⟨#[]⟩) (Value.string ⟨#[]⟩) (Value.slice none 0 0) (Value.slice none 0 0); have hn4 := nxA2 HX0.out HR0.out hb3 (Value.int .i64 0) (Value.string ⟨#[]⟩) (Value.string ⟨#[]⟩) (Value.slice none 0 0) (Value.slice none 0 0); (obtain ⟨W4, hW4⟩ : ∃ W, W = w3.alloc (.cells #[Value.int .i64 0, Value.string ⟨#[]⟩, Value.string ⟨#[]⟩, Value.slice none 0 0, Value.slice none 0 0] 25) := ⟨_, rfl⟩); (obtain ⟨b4, hb4⟩ : ∃ b, b = w3.heap.size := ⟨_, rfl⟩); rw [← hW4] at hn4; have hz3 : g < w3.heap.size := Nat.lt_of_lt_of_le hzz hb3.size; have hst3 : w3.cell? ⟨g, 0, none⟩ = some (.string r) ∧ w3.cell? ⟨g, 1, none⟩ = some (.int .i64 above) := ⟨(hb3.cell (p := ⟨g, 0, none⟩) hzz).trans HSt.out.1, (hb3.cell (p := ⟨g, 1, none⟩) hzz).trans HSt.out.2⟩; have hst3a : (w3.alloc zF).cell? ⟨g, 0, none⟩ = some (.string r) ∧ (w3.alloc zF).cell? ⟨g, 1, none⟩ = some (.int .i64 above) := ⟨((box5 w3 _ _ _ _ _).cell (p := ⟨g, 0, none⟩) hz3).trans hst3.1, ((box5 w3 _ _ _ _ _).cell (p := ⟨g, 1, none⟩) hz3).trans hst3.2⟩; have hst3s : (set5F (w3.alloc zF) w3.heap.size (Value.int .i64 0) (Value.string ⟨#[]⟩) (Value.string ⟨#[]⟩) (Value.slice none 0 0) (Value.slice none 0 0)).cell? ⟨g, 0, none⟩ = some (.string r) ∧ (set5F (w3.alloc zF) w3.heap.size (Value.int .i64 0) (Value.string ⟨#[]⟩) (Value.string ⟨#[]⟩) (Value.slice none 0 0) (Value.slice none 0 0)).cell? ⟨g, 1, none⟩ = some (.int .i64 above) := by { have h := rd_cells hn0.rd; exact ⟨h.1, h.2.1⟩ }; unfold set5F at hst3s; have hst3m : (w3.alloc (.cells #[Value.int .i64 0, Value.string ⟨#[]⟩, Value.string ⟨#[]⟩, Value.slice none 0 0, Value.slice none 0 0] 25)).cell? ⟨g, 0, none⟩ = some (.string r) ∧ (w3.alloc (.cells #[Value.int .i64 0, Value.string ⟨#[]⟩, Value.string ⟨#[]⟩, Value.slice none 0 0, Value.slice none 0 0] 25)).cell? ⟨g, 1, none⟩ = some (.int .i64 above) := by { have h := rd_cells hn4.rd; rw [hW4] at h; exact ⟨h.1, h.2.1⟩ }; have HN4 : Hid (NxAt W0 w.heap.size g r above n W0.heap.size w3 W4 b4 (Value.int .i64 0) (Value.string ⟨#[]⟩) (Value.string ⟨#[]⟩) (Value.slice none 0 0) (Value.slice none 0 0)) := Lib.hid (by { rw [hb4]; exact hn4 }); (try unfold set5F at hW4); have HW4 := Lib.hid hW4.symm; have HBb := Lib.hid hb4.symm; clear hn4 hn0 hW4 hb4 hb3)
        | (go_at_call 20; (with_reducible refine (HHB.out).mono ?_); rintro e w3 ⟨x, q, b, rfl, ⟨rfl, rfl⟩, hb3⟩; have hn4 := nxB HX0.out HR0.out hb3 (Value.int .i64 0) (Value.string ⟨#[]⟩) (Value.string ⟨#[]⟩) (Value.slice none 0 0) (Value.slice none 0 0); have hn0 := hn4; (obtain ⟨W4, hW4⟩ : ∃ W, W = set5F w3 W0.heap.size (Value.int .i64 0) (Value.string ⟨#[]⟩) (Value.string ⟨#[]⟩) (Value.slice none 0 0) (Value.slice none 0 0) := ⟨_, rfl⟩); (obtain ⟨b4, hb4⟩ : ∃ b, b = W0.heap.size := ⟨_, rfl⟩); rw [← hW4] at hn4; have hzB : g < (W0.alloc zF).drew.heap.size := hzb; have hst3 : w3.cell? ⟨g, 0, none⟩ = some (.string r) ∧ w3.cell? ⟨g, 1, none⟩ = some (.int .i64 above) := ⟨(hb3.cell (p := ⟨g, 0, none⟩) hzB).trans hsta.1, (hb3.cell (p := ⟨g, 1, none⟩) hzB).trans hsta.2⟩; have hst3a := hst3; have hxB := fl_below HXa.out hb3 hzc; (obtain ⟨c0, c1, c2, c3, c4⟩ := fl_cells hxB); (obtain ⟨f0, f1, f2, f3, f4⟩ := fl_frozen hxB); clear hxB hzB; have hst3s : (set5F w3 W0.heap.size (Value.int .i64 0) (Value.string ⟨#[]⟩) (Value.string ⟨#[]⟩) (Value.slice none 0 0) (Value.slice none 0 0)).cell? ⟨g, 0, none⟩ = some (.string r) ∧ (set5F w3 W0.heap.size (Value.int .i64 0) (Value.string ⟨#[]⟩) (Value.string ⟨#[]⟩) (Value.slice none 0 0) (Value.slice none 0 0)).cell? ⟨g, 1, none⟩ = some (.int .i64 above) := by { have h := rd_cells hn0.rd; exact ⟨h.1, h.2.1⟩ }; unfold set5F at hst3s; have hst3m : (set5F w3 W0.heap.size (Value.int .i64 0) (Value.string ⟨#[]⟩) (Value.string ⟨#[]⟩) (Value.slice none 0 0) (Value.slice none 0 0)).cell? ⟨g, 0, none⟩ = some (.string r) ∧ (set5F w3 W0.heap.size (Value.int .i64 0) (Value.string ⟨#[]⟩) (Value.string ⟨#[]⟩) (Value.slice none 0 0) (Value.slice none 0 0)).cell? ⟨g, 1, none⟩ = some (.int .i64 above) := by { have h := rd_cells hn4.rd; rw [hW4] at h; exact ⟨h.1, h.2.1⟩ }; have HN4 : Hid (NxAt W0 w.heap.size g r above n (W0.heap.size + 1) w3 W4 b4 (Value.int .i64 0) (Value.string ⟨#[]⟩) (Value.string ⟨#[]⟩) (Value.slice none 0 0) (Value.slice none 0 0)) := Lib.hid (by { rw [hb4]; exact hn4 }); (try unfold set5F at hW4); have HW4 := Lib.hid hW4.symm; have HBb := Lib.hid hb4.symm; clear hn4 hn0 hW4 hb4 hb3))
    all_goals
      rw [HW4.out, HBb.out]
      have hfz := HN4.out.fz
      have HBw := Lib.hid (bthen HB0.out HN4.out.bl)
      try clear c0 c1 c2 c3 c4 f0 f1 f2 f3 f4
      obtain ⟨c0, c1, c2, c3, c4⟩ := fl_cells hfz
      obtain ⟨f0, f1, f2, f3, f4⟩ := fl_frozen hfz
      obtain ⟨z0, z1, z2, z3, z4⟩ := fl_cells (fl_set hfz (.int .i64 0) (.string ⟨#[]⟩) (.string ⟨#[]⟩) (.slice none 0 0) (.slice none 0 0))
      unfold set5F at z0 z1 z2 z3 z4
      clear hfz
      go_wp2
      have hbz := fl_setB HBw.out (Nat.le_refl w.heap.size) (.int .i64 0) (.string ⟨#[]⟩) (.string ⟨#[]⟩) (.slice none 0 0) (.slice none 0 0)
      refine bodyPost_ret (v := .tuple #[.agg #[.int .i64 0, .string ⟨#[]⟩, .string ⟨#[]⟩, .slice none 0 0, .slice none 0 0], .bool false]) (by simp [results, Tryd.results46, go_sem, z0, z1, z2, z3, z4]) rfl ⟨_, _, rfl, ⟨hbz.os, hbz.tape, hbz.output, hbz.size, fun k hk _ => hbz.block k hk⟩, ⟨rfl, rfl⟩, fun f q h => by cases h⟩
  | some fq =>
    obtain ⟨f, q0⟩ := fq
    go_enter Tryd.func46, Tryd.ntmps46
    go_upto_region 1 with (fail)
    rw [HW0.out]
    go_region_held3 (fun w' => w'.cell? ⟨g, 0, none⟩ = some (.string r) ∧ w'.cell? ⟨g, 1, none⟩ = some (.int .i64 above))
      (first | (with_reducible exact hst0) | (with_reducible exact hsta) | (with_reducible exact hst3) | (with_reducible exact hst3a) | (with_reducible exact hst3s) | (with_reducible exact hst3m))
      (first
        | (go_at_call 20; (with_reducible refine (HHA.out).mono ?_); rintro e w3 ⟨x, q, b, rfl, ⟨hfl, hq, rfl⟩, hb3⟩; (obtain ⟨k, T, X, pa, pn, pc, ka, kn, kc, e⟩ := hfl.shape); subst e; have HQ := Lib.hid hq; clear hq; have hn0 := nxA HX0.out HR0.out hb3 (Value.int .i64 k) (Value.string T) (Value.string X) (Value.slice pa pn pc) (Value.slice ka kn kc); have hn4 := nxA2 HX0.out HR0.out hb3 (Value.int .i64 k) (Value.string T) (Value.string X) (Value.slice pa pn pc) (Value.slice ka kn kc); (obtain ⟨W4, hW4⟩ : ∃ W, W = w3.alloc (.cells #[Value.int .i64 k, Value.string T, Value.string X, Value.slice pa pn pc, Value.slice ka kn kc] 25) := ⟨_, rfl⟩); (obtain ⟨b4, hb4⟩ : ∃ b, b = w3.heap.size := ⟨_, rfl⟩); rw [← hW4] at hn4; have hz3 : g < w3.heap.size := Nat.lt_of_lt_of_le hzz hb3.size; have hst3 : w3.cell? ⟨g, 0, none⟩ = some (.string r) ∧ w3.cell? ⟨g, 1, none⟩ = some (.int .i64 above) := ⟨(hb3.cell (p := ⟨g, 0, none⟩) hzz).trans HSt.out.1, (hb3.cell (p := ⟨g, 1, none⟩) hzz).trans HSt.out.2⟩; have hst3a : (w3.alloc zF).cell? ⟨g, 0, none⟩ = some (.string r) ∧ (w3.alloc zF).cell? ⟨g, 1, none⟩ = some (.int .i64 above) := ⟨((box5 w3 _ _ _ _ _).cell (p := ⟨g, 0, none⟩) hz3).trans hst3.1, ((box5 w3 _ _ _ _ _).cell (p := ⟨g, 1, none⟩) hz3).trans hst3.2⟩; have hst3s : (set5F (w3.alloc zF) w3.heap.size (Value.int .i64 k) (Value.string T) (Value.string X) (Value.slice pa pn pc) (Value.slice ka kn kc)).cell? ⟨g, 0, none⟩ = some (.string r) ∧ (set5F (w3.alloc zF) w3.heap.size (Value.int .i64 k) (Value.string T) (Value.string X) (Value.slice pa pn pc) (Value.slice ka kn kc)).cell? ⟨g, 1, none⟩ = some (.int .i64 above) := by { have h := rd_cells hn0.rd; exact ⟨h.1, h.2.1⟩ }; unfold set5F at hst3s; have hst3m : (w3.alloc (.cells #[Value.int .i64 k, Value.string T, Value.string X, Value.slice pa pn pc, Value.slice ka kn kc] 25)).cell? ⟨g, 0, none⟩ = some (.string r) ∧ (w3.alloc (.cells #[Value.int .i64 k, Value.string T, Value.string X, Value.slice pa pn pc, Value.slice ka kn kc] 25)).cell? ⟨g, 1, none⟩ = some (.int .i64 above) := by { have h := rd_cells hn4.rd; rw [hW4] at h; exact ⟨h.1, h.2.1⟩ }; have HF4 : Hid (IsFl (fun k => W0.heap.size ≤ k ∧ k < W4.heap.size) W4 f (.agg #[Value.int .i64 k, Value.string T, Value.string X, Value.slice pa pn pc, Value.slice ka kn kc])) := Lib.hid (hfl.imp (fun k h => ⟨h.1, Nat.lt_of_lt_of_le h.2 hn4.size⟩) (fun k o h => by { unfold World.cell?; rw [hn4.same k h.1 h.2] })); clear hfl; have HN4 : Hid (NxAt W0 w.heap.size g r above n W0.heap.size w3 W4 b4 (Value.int .i64 k) (Value.string T) (Value.string X) (Value.slice pa pn pc) (Value.slice ka kn kc)) := Lib.hid (by { rw [hb4]; exact hn4 }); (try unfold set5F at hW4); have HW4 := Lib.hid hW4.symm; have HBb := Lib.hid hb4.symm; clear hn4 hn0 hW4 hb4 hb3)
        | (go_at_call 20; (with_reducible refine (HHB.out).mono ?_); rintro e w3 ⟨x, q, b, rfl, ⟨hfl, hq, rfl⟩, hb3⟩; (obtain ⟨k, T, X, pa, pn, pc, ka, kn, kc, e⟩ := hfl.shape); subst e; have HQ := Lib.hid hq; clear hq; have hn4 := nxB HX0.out HR0.out hb3 (Value.int .i64 k) (Value.string T) (Value.string X) (Value.slice pa pn pc) (Value.slice ka kn kc); have hn0 := hn4; (obtain ⟨W4, hW4⟩ : ∃ W, W = set5F w3 W0.heap.size (Value.int .i64 k) (Value.string T) (Value.string X) (Value.slice pa pn pc) (Value.slice ka kn kc) := ⟨_, rfl⟩); (obtain ⟨b4, hb4⟩ : ∃ b, b = W0.heap.size := ⟨_, rfl⟩); rw [← hW4] at hn4; have hzB : g < (W0.alloc zF).drew.heap.size := hzb; have hst3 : w3.cell? ⟨g, 0, none⟩ = some (.string r) ∧ w3.cell? ⟨g, 1, none⟩ = some (.int .i64 above) := ⟨(hb3.cell (p := ⟨g, 0, none⟩) hzB).trans hsta.1, (hb3.cell (p := ⟨g, 1, none⟩) hzB).trans hsta.2⟩; have hst3a := hst3; have hxB := fl_below HXa.out hb3 hzc; (obtain ⟨c0, c1, c2, c3, c4⟩ := fl_cells hxB); (obtain ⟨f0, f1, f2, f3, f4⟩ := fl_frozen hxB); clear hxB hzB; have hst3s : (set5F w3 W0.heap.size (Value.int .i64 k) (Value.string T) (Value.string X) (Value.slice pa pn pc) (Value.slice ka kn kc)).cell? ⟨g, 0, none⟩ = some (.string r) ∧ (set5F w3 W0.heap.size (Value.int .i64 k) (Value.string T) (Value.string X) (Value.slice pa pn pc) (Value.slice ka kn kc)).cell? ⟨g, 1, none⟩ = some (.int .i64 above) := by { have h := rd_cells hn0.rd; exact ⟨h.1, h.2.1⟩ }; unfold set5F at hst3s; have hst3m : (set5F w3 W0.heap.size (Value.int .i64 k) (Value.string T) (Value.string X) (Value.slice pa pn pc) (Value.slice ka kn kc)).cell? ⟨g, 0, none⟩ = some (.string r) ∧ (set5F w3 W0.heap.size (Value.int .i64 k) (Value.string T) (Value.string X) (Value.slice pa pn pc) (Value.slice ka kn kc)).cell? ⟨g, 1, none⟩ = some (.int .i64 above) := by { have h := rd_cells hn4.rd; rw [hW4] at h; exact ⟨h.1, h.2.1⟩ }; have HF4 : Hid (IsFl (fun k => W0.heap.size ≤ k ∧ k < W4.heap.size) W4 f (.agg #[Value.int .i64 k, Value.string T, Value.string X, Value.slice pa pn pc, Value.slice ka kn kc])) := Lib.hid (hfl.imp (fun k h => ⟨(Nat.le_of_lt (by { have h1 := h.1; rw [HSzB.out] at h1; exact h1 })), Nat.lt_of_lt_of_le h.2 hn4.size⟩) (fun k o h => by { unfold World.cell?; rw [hn4.same k (by { have h1 := h.1; rw [HSzB.out] at h1; exact h1 }) h.2] })); clear hfl; have HN4 : Hid (NxAt W0 w.heap.size g r above n (W0.heap.size + 1) w3 W4 b4 (Value.int .i64 k) (Value.string T) (Value.string X) (Value.slice pa pn pc) (Value.slice ka kn kc)) := Lib.hid (by { rw [hb4]; exact hn4 }); (try unfold set5F at hW4); have HW4 := Lib.hid hW4.symm; have HBb := Lib.hid hb4.symm; clear hn4 hn0 hW4 hb4 hb3))
    all_goals
      rw [HW4.out, HBb.out]
      have hrd := HN4.out.rd
      have HBw := Lib.hid (bthen HB0.out HN4.out.bl)
      have HRd5 := Lib.hid (rd_set hrd q)
      try clear c0 c1 c2 c3 c4 f0 f1 f2 f3 f4
      obtain ⟨r0, r1, r2⟩ := rd_cells hrd
      obtain ⟨s0, s1, s2⟩ := rd_frozen hrd
      clear hrd
      go_upto_region 5 with (fail)
      obtain ⟨W5, hW5⟩ : ∃ W, W = W4.setCell ⟨g, 0, none⟩ (.string q) := ⟨_, rfl⟩
      rw [← hW5]
      have hr5 : RdAt W5 g q above n := by rw [hW5]; exact HRd5.out
      have hgb : b4 ≠ g := by have := HN4.out.lo; have := HGn.out; omega
      have hgw : w.heap.size ≠ g := by have := HGn.out; omega
      have hfl5 : FlAt W5 b4 (.int .i64 k) (.string T) (.string X) (.slice pa pn pc) (.slice ka kn kc) := by rw [hW5]; exact (blockFl_ne W4 ⟨g, 0, none⟩ _ hgb).trans HN4.out.fl
      have hfz5 : FzAt W5 w.heap.size := by rw [hW5]; exact (blockFl_ne W4 ⟨g, 0, none⟩ _ hgw).trans HN4.out.fz
      have hs5 : ∀ k, k ≠ g → W5.heap[k]? = W4.heap[k]? := fun k hk => by rw [hW5]; exact blockFl_ne W4 ⟨g, 0, none⟩ _ hk
      have hm5 : W5.heap.size = W4.heap.size ∧ W5.os = W4.os ∧ W5.tape = W4.tape ∧ W5.output = W4.output := by rw [hW5]; simp [World.setCell]
      obtain ⟨u0, u1, u2⟩ := rd_cells hr5
      obtain ⟨t0, t1, t2⟩ := rd_frozen hr5
      have HAd := Lib.hid (addFl_any g 2 n (by omega) (by omega) W5 u2 t2)
      have HR5 := Lib.hid hr5
      have HFl5 := Lib.hid hfl5
      have HFz5 := Lib.hid hfz5
      have HS5 := Lib.hid hs5
      have HM5 := Lib.hid hm5
      have HNe := Lib.hid (And.intro hgb hgw)
      clear hW5 hr5 hgb hgw hfl5 hfz5 hs5 hm5 u0 u1 u2 t0 t1 t2 r0 r1 r2 s0 s1 s2
      go_upto_region 6 with (go_at_call 62; refine (HAd.out).mono ?_; rintro e w6 ⟨rfl, hw6⟩; subst hw6)
      obtain ⟨W6, hW6⟩ : ∃ W, W = W5.setCell ⟨g, 2, none⟩ (.int .i64 ((n : Int) + 1)) := ⟨_, rfl⟩
      rw [← hW6]
      have hr6 : RdAt W6 g q above (n + 1) := by rw [hW6]; exact rd_add HR5.out
      have hfl6 : FlAt W6 b4 (.int .i64 k) (.string T) (.string X) (.slice pa pn pc) (.slice ka kn kc) := by rw [hW6]; exact (blockFl_ne W5 ⟨g, 2, none⟩ _ HNe.out.1).trans HFl5.out
      have hfz6 : FzAt W6 w.heap.size := by rw [hW6]; exact (blockFl_ne W5 ⟨g, 2, none⟩ _ HNe.out.2).trans HFz5.out
      have hs6 : ∀ k, k ≠ g → W6.heap[k]? = W4.heap[k]? := fun k hk => by rw [hW6]; exact (blockFl_ne W5 ⟨g, 2, none⟩ _ hk).trans (HS5.out k hk)
      have hm6 : W6.heap.size = W4.heap.size ∧ W6.os = W4.os ∧ W6.tape = W4.tape ∧ W6.output = W4.output := by
        obtain ⟨m1, m2, m3, m4⟩ := HM5.out
        rw [hW6, ← m1, ← m2, ← m3, ← m4]
        simp [World.setCell]
      have HR6 := Lib.hid hr6
      have HS6 := Lib.hid hs6
      have HM6 := Lib.hid hm6
      obtain ⟨d0, d1, d2, d3, d4⟩ := fl_cells hfl6
      obtain ⟨c0, c1, c2, c3, c4⟩ := fl_cells hfz6
      obtain ⟨f0, f1, f2, f3, f4⟩ := fl_frozen hfz6
      obtain ⟨z0, z1, z2, z3, z4⟩ := fl_cells (fl_set hfz6 (.int .i64 k) (.string T) (.string X) (.slice pa pn pc) (.slice ka kn kc))
      unfold set5F at z0 z1 z2 z3 z4
      clear hW6 hr6 hfl6 hfz6 hs6 hm6
      go_wp2
      obtain ⟨W7, hW7⟩ : ∃ W, W = set5F W6 w.heap.size (.int .i64 k) (.string T) (.string X) (.slice pa pn pc) (.slice ka kn kc) := ⟨_, rfl⟩
      have hz7 : W7.heap.size = W4.heap.size := by rw [hW7, set5F_size]; exact HM6.out.1
      have hs7 : ∀ k, k ≠ g → k ≠ w.heap.size → W7.heap[k]? = W4.heap[k]? := fun j hj hj' => by rw [hW7, fl_setO hj']; exact HS6.out j hj
      have hg7 : w.grownBy W7 (some g) := by
        have hb := HBw.out
        obtain ⟨m1, m2, m3, m4⟩ := HM6.out
        refine ⟨?_, ?_, ?_, by rw [hz7]; exact hb.size, fun j hj hn => (hs7 j (fun e => hn (by rw [e])) (Nat.ne_of_lt hj)).trans (hb.block j hj)⟩
        · rw [hW7]; exact m2.trans hb.os
        · rw [hW7]; exact m3.trans hb.tape
        · rw [hW7]; exact m4.trans hb.output
      have hf7 : IsFl (fun j => w.heap.size ≤ j ∧ j < W7.heap.size) W7 f (.agg #[.int .i64 k, .string T, .string X, .slice pa pn pc, .slice ka kn kc]) := by
        have hgn := HGn.out
        refine (HF4.out).imp (fun j h => ⟨by omega, by rw [hz7]; exact h.2⟩) (fun j o h => ?_)
        unfold World.cell?
        rw [hs7 j (by omega) (by omega)]
      have hr7 : RdAt W7 g q above (n + 1) := by
        rw [hW7]
        exact (fl_setO HNe.out.2.symm _ _ _ _ _).trans HR6.out
      rw [hW7] at hg7 hf7 hr7
      refine bodyPost_ret (v := .tuple #[.agg #[.int .i64 k, .string T, .string X, .slice pa pn pc, .slice ka kn kc], .bool true]) (by simp [results, Tryd.results46, go_sem, z0, z1, z2, z3, z4]) rfl ⟨_, _, rfl, hg7, ⟨hf7, rfl⟩, fun f' q' h => ?_⟩
      cases h
      exact ⟨q, HQ.out, hr7⟩
end Go.Proofs.YtdcfmgnpjmpboaaDoor
