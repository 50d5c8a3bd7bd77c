/- Several texts in one file: FiNext, FiHold, FiOnH, FiOneW. -/
import Derived.Test.YtmpicolplknomaaDoorAllF2
import Derived.Laws.LoneSync
import Derived.Deep.RegionHeld3
import Derived.Laws.Externs
import Derived.Deep.Cut
/- filter's reader: count and next. -/
namespace Go.Proofs.YtmpicolplknomaaDoor
open Go.RowKit
set_option linter.unusedVariables false
set_option linter.unusedSimpArgs false

set_option maxRecDepth 100000 in
theorem loadFl_any (b o : Nat) (x : Int) (w : World) (h : w.cell? ⟨b, o, none⟩ = some (.int .i64 x)) : Calls Tryd.prog 58 #[.pointer (some ⟨b, o, none⟩)] w fun e w' => e = .returned (.int .i64 x) ∧ w' = w := by
  have hl := run_call_load (P := Tryd.prog) Tryd.func73 (by kernel_rfl) (by kernel_rfl) (by kernel_rfl) .i64 (by kernel_rfl) (a := ⟨b, o, none⟩) (x := x) (w := w) h
  go_enter Tryd.func58, Tryd.ntmps58
  go_wp2
  go_ret
  exact ⟨rfl, rfl⟩
set_option maxRecDepth 100000 in
theorem addFl_any (b o : Nat) (x : Int) (hx : 0 ≤ x) (hx2 : x ≤ 1000000000) (w : World) (h : w.cell? ⟨b, o, none⟩ = some (.int .i64 x)) (hz : w.frozen? ⟨b, o, none⟩ = false) : Calls Tryd.prog 57 #[.pointer (some ⟨b, o, none⟩), .int .i64 1] w fun e w' => e = .returned (.int .i64 (x + 1)) ∧ w' = w.setCell ⟨b, o, none⟩ (.int .i64 (x + 1)) := by
  have hl := run_call_add (P := Tryd.prog) Tryd.func72 (by kernel_rfl) (by kernel_rfl) (by kernel_rfl) .i64 (by kernel_rfl) (a := ⟨b, o, none⟩) (x := x) (y := 1) (s := x + 1) (w := w) h hz (by
    show Sem.run _ (pure (Value.int .i64 (IntKind.i64.wrap (x + 1)))) w = _
    rw [IntKind.wrap_i64, show (x + 1 + 9223372036854775808) % 18446744073709551616 - 9223372036854775808 = x + 1 from by omega]
    rfl)
  go_enter Tryd.func57, Tryd.ntmps57
  go_wp2
  go_ret
  exact ⟨rfl, rfl⟩

/-- A reader in a block: what is left, how deep, how many. -/
abbrev RdAt (W : World) (g : Nat) (r : ByteArray) (above n : Nat) : Prop := W.heap[g]? = some (.cells #[.string r, .int .i64 above, .int .i64 n] 77 (0, 0))
theorem rd_cells {W : World} {g : Nat} {r : ByteArray} {above n : Nat} (h : RdAt W g r above n) : W.cell? ⟨g, 0, none⟩ = some (.string r) ∧ W.cell? ⟨g, 1, none⟩ = some (.int .i64 above) ∧ W.cell? ⟨g, 2, none⟩ = some (.int .i64 n) := by
  have h' : W.heap[g]? = some (.cells #[.string r, .int .i64 above, .int .i64 n] 77 (0, 0)) := h
  refine ⟨?_, ?_, ?_⟩ <;> simp [World.cell?, h']
theorem rd_frozen {W : World} {g : Nat} {r : ByteArray} {above n : Nat} (h : RdAt W g r above n) : W.frozen? ⟨g, 0, none⟩ = false ∧ W.frozen? ⟨g, 1, none⟩ = false ∧ W.frozen? ⟨g, 2, none⟩ = false := by
  have h' : W.heap[g]? = some (.cells #[.string r, .int .i64 above, .int .i64 n] 77 (0, 0)) := h
  refine ⟨?_, ?_, ?_⟩ <;> simp [World.frozen?, h']
theorem rd_lt {W : World} {g : Nat} {r : ByteArray} {above n : Nat} (h : RdAt W g r above n) : g < W.heap.size := (Array.getElem?_eq_some_iff.1 h).1
theorem rd_below {W W' : World} {g m : Nat} {r : ByteArray} {above n : Nat} (h : RdAt W g r above n) (hb : Below m W W') (hn : g < m) : RdAt W' g r above n := (hb.block g hn).trans h
theorem rd_set {W : World} {g : Nat} {r : ByteArray} {above n : Nat} (h : RdAt W g r above n) (q : ByteArray) : RdAt (W.setCell ⟨g, 0, none⟩ (.string q)) g q above n := by
  have h' : W.heap[g]? = some (.cells #[.string r, .int .i64 above, .int .i64 n] 77 (0, 0)) := h
  show (W.setCell ⟨g, 0, none⟩ (.string q)).heap[g]? = _
  simp [World.setCell, Array.getElem?_modify, h']
theorem rd_add {W : World} {g : Nat} {r : ByteArray} {above n : Nat} (h : RdAt W g r above n) : RdAt (W.setCell ⟨g, 2, none⟩ (.int .i64 ((n : Int) + 1))) g r above (n + 1) := by
  have h' : W.heap[g]? = some (.cells #[.string r, .int .i64 above, .int .i64 n] 77 (0, 0)) := h
  show (W.setCell ⟨g, 2, none⟩ (.int .i64 ((n : Int) + 1))).heap[g]? = _
  simp [World.setCell, Array.getElem?_modify, h']
theorem countFl_any (g n above : Nat) (r : ByteArray) (w : World) (h : RdAt w g r above n) : Calls Tryd.prog 42 #[.pointer (some ⟨g, 0, none⟩)] w fun e w' => e = .returned (.int .i64 n) ∧ w' = w := by
  obtain ⟨c0, c1, c2⟩ := rd_cells h
  have HL := Lib.hid (loadFl_any g 2 n w c2)
  clear h
  go_enter Tryd.func42, Tryd.ntmps42
  go_wp2_with (go_at_call 58; refine (HL.out).mono ?_; rintro e w2 ⟨rfl, hw⟩; subst hw)
  go_ret
  exact ⟨rfl, rfl⟩

/-- What head tells. -/
def HdV (B : Nat) (w : World) (o : Option (FT × List UInt8)) (x : Value) (r : ByteArray) (b : Bool) : Prop := match o with
  | none => x = .agg #[.int .i64 0, .string ⟨#[]⟩, .string ⟨#[]⟩, .slice none 0 0, .slice none 0 0] ∧ b = false
  | some (f, q) => IsFl (fun k => B ≤ k ∧ k < w.heap.size) w f x ∧ r.data.toList = q ∧ b = true
/-- head at one depth is as D tells. -/
def HeadIs (above : Nat) (D : List UInt8 → Option (FT × List UInt8)) : Prop := ∀ (s : ByteArray) (w : World), s.size ≤ 1000000 → ascii s.data.toList →
  Calls Tryd.prog 15 #[.string s, .int .i64 above] w fun e w' => ∃ x r b, e = .returned (.tuple #[x, .string r, .bool b]) ∧ HdV w.heap.size w' (D s.data.toList) x r b ∧ Below w.heap.size w w'
/-- What stands when next has called head and has put its answer in a box, b4. -/
structure NxAt (W0 : World) (b0 g : Nat) (r : ByteArray) (above n B3 : Nat) (w3 W4 : World) (b4 : Nat) (x0 x1 x2 x3 x4 : Value) : Prop where
  fl : FlAt W4 b4 x0 x1 x2 x3 x4
  rd : RdAt W4 g r above n
  fz : FzAt W4 b0
  bl : Below W0.heap.size W0 W4
  lo : W0.heap.size ≤ b4
  same : ∀ k, B3 ≤ k → k < w3.heap.size → W4.heap[k]? = w3.heap[k]?
  size : w3.heap.size ≤ W4.heap.size
abbrev zF : Obj := .cells #[.int .i64 0, .string ⟨#[]⟩, .string ⟨#[]⟩, .slice none 0 0, .slice none 0 0] 25
theorem nxA {W0 w3 : World} {b0 g : Nat} {r : ByteArray} {above n : Nat} (hz : FzAt W0 b0) (hr : RdAt W0 g r above n) (hb : Below W0.drew.heap.size W0.drew w3) (x0 x1 x2 x3 x4 : Value) :
    NxAt W0 b0 g r above n W0.heap.size w3 (set5F (w3.alloc zF) w3.heap.size x0 x1 x2 x3 x4) w3.heap.size x0 x1 x2 x3 x4 := by
  have hb' : Below W0.heap.size W0 w3 := ⟨hb.1, hb.2, hb.3, hb.4, hb.5⟩
  have ha : Below w3.heap.size w3 (w3.alloc zF) := box5 w3 _ _ _ _ _
  have hs := hb'.size
  have hf : FzAt (w3.alloc zF) w3.heap.size := heap_alloc_new w3 _
  have h2 : Below w3.heap.size w3 (set5F (w3.alloc zF) w3.heap.size x0 x1 x2 x3 x4) := fl_setB ha (Nat.le_refl _) x0 x1 x2 x3 x4
  have h3 : Below W0.heap.size W0 (set5F (w3.alloc zF) w3.heap.size x0 x1 x2 x3 x4) := bthen hb' h2
  exact ⟨fl_set hf x0 x1 x2 x3 x4, rd_below hr h3 (rd_lt hr), fl_below hz h3 (fl_lt hz), h3, hs, fun k _ hk => h2.block k hk, h2.size⟩
theorem nxA2 {W0 w3 : World} {b0 g : Nat} {r : ByteArray} {above n : Nat} (hz : FzAt W0 b0) (hr : RdAt W0 g r above n) (hb : Below W0.drew.heap.size W0.drew w3) (x0 x1 x2 x3 x4 : Value) :
    NxAt W0 b0 g r above n W0.heap.size w3 (w3.alloc (.cells #[x0, x1, x2, x3, x4] 25)) w3.heap.size x0 x1 x2 x3 x4 := by
  have hb' : Below W0.heap.size W0 w3 := ⟨hb.1, hb.2, hb.3, hb.4, hb.5⟩
  have h2 : Below w3.heap.size w3 (w3.alloc (.cells #[x0, x1, x2, x3, x4] 25)) := box5 w3 _ _ _ _ _
  have h3 : Below W0.heap.size W0 (w3.alloc (.cells #[x0, x1, x2, x3, x4] 25)) := bthen hb' h2
  exact ⟨heap_alloc_new w3 _, rd_below hr h3 (rd_lt hr), fl_below hz h3 (fl_lt hz), h3, hb'.size, fun k _ hk => h2.block k hk, h2.size⟩
theorem nxB {W0 w3 : World} {b0 g : Nat} {r : ByteArray} {above n : Nat} (hz : FzAt W0 b0) (hr : RdAt W0 g r above n) (hb : Below (W0.alloc zF).drew.heap.size (W0.alloc zF).drew w3) (x0 x1 x2 x3 x4 : Value) :
    NxAt W0 b0 g r above n (W0.heap.size + 1) w3 (set5F w3 W0.heap.size x0 x1 x2 x3 x4) W0.heap.size x0 x1 x2 x3 x4 := by
  have hsz : (W0.alloc zF).drew.heap.size = W0.heap.size + 1 := by show (W0.alloc zF).heap.size = _; simp only [World.alloc, Array.size_push]
  have hb' : Below (W0.heap.size + 1) (W0.alloc zF) w3 := by rw [← hsz]; exact ⟨hb.1, hb.2, hb.3, hb.4, hb.5⟩
  have ha : Below W0.heap.size W0 (W0.alloc zF) := box5 W0 _ _ _ _ _
  have hf : FzAt w3 W0.heap.size := fl_below (heap_alloc_new W0 _) hb' (Nat.lt_succ_self _)
  have h2 : Below W0.heap.size W0 w3 := ha.trans (hb'.mono (Nat.le_succ _))
  have h3 : Below W0.heap.size W0 (set5F w3 W0.heap.size x0 x1 x2 x3 x4) := fl_setB h2 (Nat.le_refl _) x0 x1 x2 x3 x4
  exact ⟨fl_set hf x0 x1 x2 x3 x4, rd_below hr h3 (rd_lt hr), fl_below hz h3 (fl_lt hz), h3, Nat.le_refl _, fun k hk _ => fl_setO (by omega) _ _ _ _ _, by rw [set5F_size]; exact Nat.le_refl _⟩
set_option maxRecDepth 100000 in
set_option maxHeartbeats 8000000 in
theorem nextFl_any {above : Nat} {D : List UInt8 → Option (FT × List UInt8)} (H : HeadIs above D) (g n : Nat) (r : ByteArray) (hr : r.size ≤ 1000000) (ha : ascii r.data.toList) (hn : n ≤ 1000000) (w : World) (h : RdAt w g r above n) :
    Calls Tryd.prog 41 #[.pointer (some ⟨g, 0, none⟩)] w fun e w' => ∃ x b, e = .returned (.tuple #[x, .bool b]) ∧ w.grownBy w' (some g) ∧ FlV w.heap.size w' ((D r.data.toList).map (·.1)) x b ∧ ∀ f q, D r.data.toList = some (f, q) → ∃ r', r'.data.toList = q ∧ RdAt w' g r' above (n + 1) := by
  obtain ⟨W0, hW0⟩ : ∃ W, W = w.alloc (.cells #[.int .i64 0, .string ⟨#[]⟩, .string ⟨#[]⟩, .slice none 0 0, .slice none 0 0] 25) := ⟨_, rfl⟩
  have hb0 : Below w.heap.size w W0 := by rw [hW0]; exact box5 w _ _ _ _ _
  have hx0 : FzAt W0 w.heap.size := by rw [hW0]; exact heap_alloc_new w _
  have hr0 := rd_below h hb0 (rd_lt h)
  have HB0 := Lib.hid hb0
  have HX0 := Lib.hid hx0
  have HR0 := Lib.hid hr0
  have HLt := Lib.hid (rd_lt h)
  have HW0 := Lib.hid hW0.symm
  obtain ⟨o, ho⟩ : ∃ o, o = D r.data.toList := ⟨_, rfl⟩
  have hH := fun W => H r W hr ha
  rw [← ho] at hH ⊢
  have HH := Lib.hid hH
  have HHt : Hid (w.heap.size < W0.heap.size) := Lib.hid (fl_lt hx0)
  obtain ⟨c0, c1, _⟩ := rd_cells hr0
  have hst : W0.cell? ⟨g, 0, none⟩ = some (.string r) ∧ W0.cell? ⟨g, 1, none⟩ = some (.int .i64 above) := ⟨c0, c1⟩
  have hst0 : W0.drew.cell? ⟨g, 0, none⟩ = some (.string r) ∧ W0.drew.cell? ⟨g, 1, none⟩ = some (.int .i64 above) := hst
  have HSt := Lib.hid hst
  clear hb0 hW0 hx0 hr0 ho hH c0 c1 h hr ha hst H
  have hzz : g < W0.heap.size := Nat.lt_trans HLt.out HHt.out
  have hzb : g < (W0.alloc zF).drew.heap.size := by show g < (W0.alloc zF).heap.size; simp only [World.alloc, Array.size_push]; omega
  have hzc : W0.heap.size < (W0.alloc zF).drew.heap.size := by show W0.heap.size < (W0.alloc zF).heap.size; simp only [World.alloc, Array.size_push]; omega
  have hsta : (W0.alloc zF).drew.cell? ⟨g, 0, none⟩ = some (.string r) ∧ (W0.alloc zF).drew.cell? ⟨g, 1, none⟩ = some (.int .i64 above) := ⟨((box5 W0 _ _ _ _ _).cell (p := ⟨g, 0, none⟩) hzz).trans HSt.out.1, ((box5 W0 _ _ _ _ _).cell (p := ⟨g, 1, none⟩) hzz).trans HSt.out.2⟩
  have HXa : Hid (FzAt (W0.alloc zF).drew W0.heap.size) := Lib.hid (heap_alloc_new W0 _)
  have HSzB : Hid ((W0.alloc zF).drew.heap.size = W0.heap.size + 1) := Lib.hid (by show (W0.alloc zF).heap.size = _; simp only [World.alloc, Array.size_push])
  have HHA := Lib.hid (HH.out W0.drew)
  have HHB := Lib.hid (HH.out (W0.alloc zF).drew)
  have HGn : Hid (g < w.heap.size ∧ w.heap.size < W0.heap.size) := Lib.hid ⟨HLt.out, HHt.out⟩
  cases o with
  | none =>
    go_enter Tryd.func41, Tryd.ntmps41
    go_upto_region 1 with (fail)
    rw [HW0.out]
    go_region_held3 (fun w' => w'.cell? ⟨g, 0, none⟩ = some (.string r) ∧ w'.cell? ⟨g, 1, none⟩ = some (.int .i64 above))
      (first | (with_reducible exact hst0) | (with_reducible exact hsta) | (with_reducible exact hst3) | (with_reducible exact hst3a) | (with_reducible exact hst3s) | (with_reducible exact hst3m))
      (first
        | (go_at_call 15; (with_reducible refine (HHA.out).mono ?_); rintro e w3 ⟨x, q, b, rfl, ⟨rfl, rfl⟩, hb3⟩; have hn0 := nxA HX0.out HR0.out hb3 (Value.int .i64 0) (Value.string ⟨#[]⟩) (Value.string ⟨#[]⟩) (Value.slice none 0 0) (Value.slice none 0 0); have hn4 := nxA2 HX0.out HR0.out hb3 (Value.int .i64 0) (Value.string ⟨#[]⟩) (Value.string ⟨#[]⟩) (Value.slice none 0 0) (Value.slice none 0 0); (obtain ⟨W4, hW4⟩ : ∃ W, W = w3.alloc (.cells #[Value.int .i64 0, Value.string ⟨#[]⟩, Value.string ⟨#[]⟩, Value.slice none 0 0, Value.slice none 0 0] 25) := ⟨_, rfl⟩); (obtain ⟨b4, hb4⟩ : ∃ b, b = w3.heap.size := ⟨_, rfl⟩); rw [← hW4] at hn4; have hz3 : g < w3.heap.size := Nat.lt_of_lt_of_le hzz hb3.size; have hst3 : w3.cell? ⟨g, 0, none⟩ = some (.string r) ∧ w3.cell? ⟨g, 1, none⟩ = some (.int .i64 above) := ⟨(hb3.cell (p := ⟨g, 0, none⟩) hzz).trans HSt.out.1, (hb3.cell (p := ⟨g, 1, none⟩) hzz).trans HSt.out.2⟩; have hst3a : (w3.alloc zF).cell? ⟨g, 0, none⟩ = some (.string r) ∧ (w3.alloc zF).cell? ⟨g, 1, none⟩ = some (.int .i64 above) := ⟨((box5 w3 _ _ _ _ _).cell (p := ⟨g, 0, none⟩) hz3).trans hst3.1, ((box5 w3 _ _ _ _ _).cell (p := ⟨g, 1, none⟩) hz3).trans hst3.2⟩; have hst3s : (set5F (w3.alloc zF) w3.heap.size (Value.int .i64 0) (Value.string ⟨#[]⟩) (Value.string ⟨#[]⟩) (Value.slice none 0 0) (Value.slice none 0 0)).cell? ⟨g, 0, none⟩ = some (.string r) ∧ (set5F (w3.alloc zF) w3.heap.size (Value.int .i64 0) (Value.string ⟨#[]⟩) (Value.string ⟨#[]⟩) (Value.slice none 0 0) (Value.slice none 0 0)).cell? ⟨g, 1, none⟩ = some (.int .i64 above) := by { have h := rd_cells hn0.rd; exact ⟨h.1, h.2.1⟩ }; unfold set5F at hst3s; have hst3m : (w3.alloc (.cells #[Value.int .i64 0, Value.string ⟨#[]⟩, Value.string ⟨#[]⟩, Value.slice none 0 0, Value.slice none 0 0] 25)).cell? ⟨g, 0, none⟩ = some (.string r) ∧ (w3.alloc (.cells #[Value.int .i64 0, Value.string ⟨#[]⟩, Value.string ⟨#[]⟩, Value.slice none 0 0, Value.slice none 0 0] 25)).cell? ⟨g, 1, none⟩ = some (.int .i64 above) := by { have h := rd_cells hn4.rd; rw [hW4] at h; exact ⟨h.1, h.2.1⟩ }; have HN4 : Hid (NxAt W0 w.heap.size g r above n W0.heap.size w3 W4 b4 (Value.int .i64 0) (Value.string ⟨#[]⟩) (Value.string ⟨#[]⟩) (Value.slice none 0 0) (Value.slice none 0 0)) := Lib.hid (by { rw [hb4]; exact hn4 }); (try unfold set5F at hW4); have HW4 := Lib.hid hW4.symm; have HBb := Lib.hid hb4.symm; clear hn4 hn0 hW4 hb4 hb3)
        | (go_at_call 15; (with_reducible refine (HHB.out).mono ?_); rintro e w3 ⟨x, q, b, rfl, ⟨rfl, rfl⟩, hb3⟩; have hn4 := nxB HX0.out HR0.out hb3 (Value.int .i64 0) (Value.string ⟨#[]⟩) (Value.string ⟨#[]⟩) (Value.slice none 0 0) (Value.slice none 0 0); have hn0 := hn4; (obtain ⟨W4, hW4⟩ : ∃ W, W = set5F w3 W0.heap.size (Value.int .i64 0) (Value.string ⟨#[]⟩) (Value.string ⟨#[]⟩) (Value.slice none 0 0) (Value.slice none 0 0) := ⟨_, rfl⟩); (obtain ⟨b4, hb4⟩ : ∃ b, b = W0.heap.size := ⟨_, rfl⟩); rw [← hW4] at hn4; have hzB : g < (W0.alloc zF).drew.heap.size := hzb; have hst3 : w3.cell? ⟨g, 0, none⟩ = some (.string r) ∧ w3.cell? ⟨g, 1, none⟩ = some (.int .i64 above) := ⟨(hb3.cell (p := ⟨g, 0, none⟩) hzB).trans hsta.1, (hb3.cell (p := ⟨g, 1, none⟩) hzB).trans hsta.2⟩; have hst3a := hst3; have hxB := fl_below HXa.out hb3 hzc; (obtain ⟨c0, c1, c2, c3, c4⟩ := fl_cells hxB); (obtain ⟨f0, f1, f2, f3, f4⟩ := fl_frozen hxB); clear hxB hzB; have hst3s : (set5F w3 W0.heap.size (Value.int .i64 0) (Value.string ⟨#[]⟩) (Value.string ⟨#[]⟩) (Value.slice none 0 0) (Value.slice none 0 0)).cell? ⟨g, 0, none⟩ = some (.string r) ∧ (set5F w3 W0.heap.size (Value.int .i64 0) (Value.string ⟨#[]⟩) (Value.string ⟨#[]⟩) (Value.slice none 0 0) (Value.slice none 0 0)).cell? ⟨g, 1, none⟩ = some (.int .i64 above) := by { have h := rd_cells hn0.rd; exact ⟨h.1, h.2.1⟩ }; unfold set5F at hst3s; have hst3m : (set5F w3 W0.heap.size (Value.int .i64 0) (Value.string ⟨#[]⟩) (Value.string ⟨#[]⟩) (Value.slice none 0 0) (Value.slice none 0 0)).cell? ⟨g, 0, none⟩ = some (.string r) ∧ (set5F w3 W0.heap.size (Value.int .i64 0) (Value.string ⟨#[]⟩) (Value.string ⟨#[]⟩) (Value.slice none 0 0) (Value.slice none 0 0)).cell? ⟨g, 1, none⟩ = some (.int .i64 above) := by { have h := rd_cells hn4.rd; rw [hW4] at h; exact ⟨h.1, h.2.1⟩ }; have HN4 : Hid (NxAt W0 w.heap.size g r above n (W0.heap.size + 1) w3 W4 b4 (Value.int .i64 0) (Value.string ⟨#[]⟩) (Value.string ⟨#[]⟩) (Value.slice none 0 0) (Value.slice none 0 0)) := Lib.hid (by { rw [hb4]; exact hn4 }); (try unfold set5F at hW4); have HW4 := Lib.hid hW4.symm; have HBb := Lib.hid hb4.symm; clear hn4 hn0 hW4 hb4 hb3))
    all_goals
      rw [HW4.out, HBb.out]
      have hfz := HN4.out.fz
      have HBw := Lib.hid (bthen HB0.out HN4.out.bl)
      try clear c0 c1 c2 c3 c4 f0 f1 f2 f3 f4
      obtain ⟨c0, c1, c2, c3, c4⟩ := fl_cells hfz
      obtain ⟨f0, f1, f2, f3, f4⟩ := fl_frozen hfz
      obtain ⟨z0, z1, z2, z3, z4⟩ := fl_cells (fl_set hfz (.int .i64 0) (.string ⟨#[]⟩) (.string ⟨#[]⟩) (.slice none 0 0) (.slice none 0 0))
      unfold set5F at z0 z1 z2 z3 z4
      clear hfz
      go_wp2
      have hbz := fl_setB HBw.out (Nat.le_refl w.heap.size) (.int .i64 0) (.string ⟨#[]⟩) (.string ⟨#[]⟩) (.slice none 0 0) (.slice none 0 0)
      refine bodyPost_ret (v := .tuple #[.agg #[.int .i64 0, .string ⟨#[]⟩, .string ⟨#[]⟩, .slice none 0 0, .slice none 0 0], .bool false]) (by simp [results, Tryd.results41, go_sem, z0, z1, z2, z3, z4]) rfl ⟨_, _, rfl, ⟨hbz.os, hbz.tape, hbz.output, hbz.size, fun k hk _ => hbz.block k hk⟩, ⟨rfl, rfl⟩, fun f q h => by cases h⟩
  | some fq =>
    obtain ⟨f, q0⟩ := fq
    go_enter Tryd.func41, Tryd.ntmps41
    go_upto_region 1 with (fail)
    rw [HW0.out]
    go_region_held3 (fun w' => w'.cell? ⟨g, 0, none⟩ = some (.string r) ∧ w'.cell? ⟨g, 1, none⟩ = some (.int .i64 above))
      (first | (with_reducible exact hst0) | (with_reducible exact hsta) | (with_reducible exact hst3) | (with_reducible exact hst3a) | (with_reducible exact hst3s) | (with_reducible exact hst3m))
      (first
        | (go_at_call 15; (with_reducible refine (HHA.out).mono ?_); rintro e w3 ⟨x, q, b, rfl, ⟨hfl, hq, rfl⟩, hb3⟩; (obtain ⟨k, T, X, pa, pn, pc, ka, kn, kc, e⟩ := hfl.shape); subst e; have HQ := Lib.hid hq; clear hq; have hn0 := nxA HX0.out HR0.out hb3 (Value.int .i64 k) (Value.string T) (Value.string X) (Value.slice pa pn pc) (Value.slice ka kn kc); have hn4 := nxA2 HX0.out HR0.out hb3 (Value.int .i64 k) (Value.string T) (Value.string X) (Value.slice pa pn pc) (Value.slice ka kn kc); (obtain ⟨W4, hW4⟩ : ∃ W, W = w3.alloc (.cells #[Value.int .i64 k, Value.string T, Value.string X, Value.slice pa pn pc, Value.slice ka kn kc] 25) := ⟨_, rfl⟩); (obtain ⟨b4, hb4⟩ : ∃ b, b = w3.heap.size := ⟨_, rfl⟩); rw [← hW4] at hn4; have hz3 : g < w3.heap.size := Nat.lt_of_lt_of_le hzz hb3.size; have hst3 : w3.cell? ⟨g, 0, none⟩ = some (.string r) ∧ w3.cell? ⟨g, 1, none⟩ = some (.int .i64 above) := ⟨(hb3.cell (p := ⟨g, 0, none⟩) hzz).trans HSt.out.1, (hb3.cell (p := ⟨g, 1, none⟩) hzz).trans HSt.out.2⟩; have hst3a : (w3.alloc zF).cell? ⟨g, 0, none⟩ = some (.string r) ∧ (w3.alloc zF).cell? ⟨g, 1, none⟩ = some (.int .i64 above) := ⟨((box5 w3 _ _ _ _ _).cell (p := ⟨g, 0, none⟩) hz3).trans hst3.1, ((box5 w3 _ _ _ _ _).cell (p := ⟨g, 1, none⟩) hz3).trans hst3.2⟩; have hst3s : (set5F (w3.alloc zF) w3.heap.size (Value.int .i64 k) (Value.string T) (Value.string X) (Value.slice pa pn pc) (Value.slice ka kn kc)).cell? ⟨g, 0, none⟩ = some (.string r) ∧ (set5F (w3.alloc zF) w3.heap.size (Value.int .i64 k) (Value.string T) (Value.string X) (Value.slice pa pn pc) (Value.slice ka kn kc)).cell? ⟨g, 1, none⟩ = some (.int .i64 above) := by { have h := rd_cells hn0.rd; exact ⟨h.1, h.2.1⟩ }; unfold set5F at hst3s; have hst3m : (w3.alloc (.cells #[Value.int .i64 k, Value.string T, Value.string X, Value.slice pa pn pc, Value.slice ka kn kc] 25)).cell? ⟨g, 0, none⟩ = some (.string r) ∧ (w3.alloc (.cells #[Value.int .i64 k, Value.string T, Value.string X, Value.slice pa pn pc, Value.slice ka kn kc] 25)).cell? ⟨g, 1, none⟩ = some (.int .i64 above) := by { have h := rd_cells hn4.rd; rw [hW4] at h; exact ⟨h.1, h.2.1⟩ }; have HF4 : Hid (IsFl (fun k => W0.heap.size ≤ k ∧ k < W4.heap.size) W4 f (.agg #[Value.int .i64 k, Value.string T, Value.string X, Value.slice pa pn pc, Value.slice ka kn kc])) := Lib.hid (hfl.imp (fun k h => ⟨h.1, Nat.lt_of_lt_of_le h.2 hn4.size⟩) (fun k o h => by { unfold World.cell?; rw [hn4.same k h.1 h.2] })); clear hfl; have HN4 : Hid (NxAt W0 w.heap.size g r above n W0.heap.size w3 W4 b4 (Value.int .i64 k) (Value.string T) (Value.string X) (Value.slice pa pn pc) (Value.slice ka kn kc)) := Lib.hid (by { rw [hb4]; exact hn4 }); (try unfold set5F at hW4); have HW4 := Lib.hid hW4.symm; have HBb := Lib.hid hb4.symm; clear hn4 hn0 hW4 hb4 hb3)
        | (go_at_call 15; (with_reducible refine (HHB.out).mono ?_); rintro e w3 ⟨x, q, b, rfl, ⟨hfl, hq, rfl⟩, hb3⟩; (obtain ⟨k, T, X, pa, pn, pc, ka, kn, kc, e⟩ := hfl.shape); subst e; have HQ := Lib.hid hq; clear hq; have hn4 := nxB HX0.out HR0.out hb3 (Value.int .i64 k) (Value.string T) (Value.string X) (Value.slice pa pn pc) (Value.slice ka kn kc); have hn0 := hn4; (obtain ⟨W4, hW4⟩ : ∃ W, W = set5F w3 W0.heap.size (Value.int .i64 k) (Value.string T) (Value.string X) (Value.slice pa pn pc) (Value.slice ka kn kc) := ⟨_, rfl⟩); (obtain ⟨b4, hb4⟩ : ∃ b, b = W0.heap.size := ⟨_, rfl⟩); rw [← hW4] at hn4; have hzB : g < (W0.alloc zF).drew.heap.size := hzb; have hst3 : w3.cell? ⟨g, 0, none⟩ = some (.string r) ∧ w3.cell? ⟨g, 1, none⟩ = some (.int .i64 above) := ⟨(hb3.cell (p := ⟨g, 0, none⟩) hzB).trans hsta.1, (hb3.cell (p := ⟨g, 1, none⟩) hzB).trans hsta.2⟩; have hst3a := hst3; have hxB := fl_below HXa.out hb3 hzc; (obtain ⟨c0, c1, c2, c3, c4⟩ := fl_cells hxB); (obtain ⟨f0, f1, f2, f3, f4⟩ := fl_frozen hxB); clear hxB hzB; have hst3s : (set5F w3 W0.heap.size (Value.int .i64 k) (Value.string T) (Value.string X) (Value.slice pa pn pc) (Value.slice ka kn kc)).cell? ⟨g, 0, none⟩ = some (.string r) ∧ (set5F w3 W0.heap.size (Value.int .i64 k) (Value.string T) (Value.string X) (Value.slice pa pn pc) (Value.slice ka kn kc)).cell? ⟨g, 1, none⟩ = some (.int .i64 above) := by { have h := rd_cells hn0.rd; exact ⟨h.1, h.2.1⟩ }; unfold set5F at hst3s; have hst3m : (set5F w3 W0.heap.size (Value.int .i64 k) (Value.string T) (Value.string X) (Value.slice pa pn pc) (Value.slice ka kn kc)).cell? ⟨g, 0, none⟩ = some (.string r) ∧ (set5F w3 W0.heap.size (Value.int .i64 k) (Value.string T) (Value.string X) (Value.slice pa pn pc) (Value.slice ka kn kc)).cell? ⟨g, 1, none⟩ = some (.int .i64 above) := by { have h := rd_cells hn4.rd; rw [hW4] at h; exact ⟨h.1, h.2.1⟩ }; have HF4 : Hid (IsFl (fun k => W0.heap.size ≤ k ∧ k < W4.heap.size) W4 f (.agg #[Value.int .i64 k, Value.string T, Value.string X, Value.slice pa pn pc, Value.slice ka kn kc])) := Lib.hid (hfl.imp (fun k h => ⟨(Nat.le_of_lt (by { have h1 := h.1; rw [HSzB.out] at h1; exact h1 })), Nat.lt_of_lt_of_le h.2 hn4.size⟩) (fun k o h => by { unfold World.cell?; rw [hn4.same k (by { have h1 := h.1; rw [HSzB.out] at h1; exact h1 }) h.2] })); clear hfl; have HN4 : Hid (NxAt W0 w.heap.size g r above n (W0.heap.size + 1) w3 W4 b4 (Value.int .i64 k) (Value.string T) (Value.string X) (Value.slice pa pn pc) (Value.slice ka kn kc)) := Lib.hid (by { rw [hb4]; exact hn4 }); (try unfold set5F at hW4); have HW4 := Lib.hid hW4.symm; have HBb := Lib.hid hb4.symm; clear hn4 hn0 hW4 hb4 hb3))
    all_goals
      rw [HW4.out, HBb.out]
      have hrd := HN4.out.rd
      have HBw := Lib.hid (bthen HB0.out HN4.out.bl)
      have HRd5 := Lib.hid (rd_set hrd q)
      try clear c0 c1 c2 c3 c4 f0 f1 f2 f3 f4
      obtain ⟨r0, r1, r2⟩ := rd_cells hrd
      obtain ⟨s0, s1, s2⟩ := rd_frozen hrd
      clear hrd
      go_upto_region 5 with (fail)
      obtain ⟨W5, hW5⟩ : ∃ W, W = W4.setCell ⟨g, 0, none⟩ (.string q) := ⟨_, rfl⟩
      rw [← hW5]
      have hr5 : RdAt W5 g q above n := by rw [hW5]; exact HRd5.out
      have hgb : b4 ≠ g := by have := HN4.out.lo; have := HGn.out; omega
      have hgw : w.heap.size ≠ g := by have := HGn.out; omega
      have hfl5 : FlAt W5 b4 (.int .i64 k) (.string T) (.string X) (.slice pa pn pc) (.slice ka kn kc) := by rw [hW5]; exact (blockFl_ne W4 ⟨g, 0, none⟩ _ hgb).trans HN4.out.fl
      have hfz5 : FzAt W5 w.heap.size := by rw [hW5]; exact (blockFl_ne W4 ⟨g, 0, none⟩ _ hgw).trans HN4.out.fz
      have hs5 : ∀ k, k ≠ g → W5.heap[k]? = W4.heap[k]? := fun k hk => by rw [hW5]; exact blockFl_ne W4 ⟨g, 0, none⟩ _ hk
      have hm5 : W5.heap.size = W4.heap.size ∧ W5.os = W4.os ∧ W5.tape = W4.tape ∧ W5.output = W4.output := by rw [hW5]; simp [World.setCell]
      obtain ⟨u0, u1, u2⟩ := rd_cells hr5
      obtain ⟨t0, t1, t2⟩ := rd_frozen hr5
      have HAd := Lib.hid (addFl_any g 2 n (by omega) (by omega) W5 u2 t2)
      have HR5 := Lib.hid hr5
      have HFl5 := Lib.hid hfl5
      have HFz5 := Lib.hid hfz5
      have HS5 := Lib.hid hs5
      have HM5 := Lib.hid hm5
      have HNe := Lib.hid (And.intro hgb hgw)
      clear hW5 hr5 hgb hgw hfl5 hfz5 hs5 hm5 u0 u1 u2 t0 t1 t2 r0 r1 r2 s0 s1 s2
      go_upto_region 6 with (go_at_call 57; refine (HAd.out).mono ?_; rintro e w6 ⟨rfl, hw6⟩; subst hw6)
      obtain ⟨W6, hW6⟩ : ∃ W, W = W5.setCell ⟨g, 2, none⟩ (.int .i64 ((n : Int) + 1)) := ⟨_, rfl⟩
      rw [← hW6]
      have hr6 : RdAt W6 g q above (n + 1) := by rw [hW6]; exact rd_add HR5.out
      have hfl6 : FlAt W6 b4 (.int .i64 k) (.string T) (.string X) (.slice pa pn pc) (.slice ka kn kc) := by rw [hW6]; exact (blockFl_ne W5 ⟨g, 2, none⟩ _ HNe.out.1).trans HFl5.out
      have hfz6 : FzAt W6 w.heap.size := by rw [hW6]; exact (blockFl_ne W5 ⟨g, 2, none⟩ _ HNe.out.2).trans HFz5.out
      have hs6 : ∀ k, k ≠ g → W6.heap[k]? = W4.heap[k]? := fun k hk => by rw [hW6]; exact (blockFl_ne W5 ⟨g, 2, none⟩ _ hk).trans (HS5.out k hk)
      have hm6 : W6.heap.size = W4.heap.size ∧ W6.os = W4.os ∧ W6.tape = W4.tape ∧ W6.output = W4.output := by
        obtain ⟨m1, m2, m3, m4⟩ := HM5.out
        rw [hW6, ← m1, ← m2, ← m3, ← m4]
        simp [World.setCell]
      have HR6 := Lib.hid hr6
      have HS6 := Lib.hid hs6
      have HM6 := Lib.hid hm6
      obtain ⟨d0, d1, d2, d3, d4⟩ := fl_cells hfl6
      obtain ⟨c0, c1, c2, c3, c4⟩ := fl_cells hfz6
      obtain ⟨f0, f1, f2, f3, f4⟩ := fl_frozen hfz6
      obtain ⟨z0, z1, z2, z3, z4⟩ := fl_cells (fl_set hfz6 (.int .i64 k) (.string T) (.string X) (.slice pa pn pc) (.slice ka kn kc))
      unfold set5F at z0 z1 z2 z3 z4
      clear hW6 hr6 hfl6 hfz6 hs6 hm6
      go_wp2
      obtain ⟨W7, hW7⟩ : ∃ W, W = set5F W6 w.heap.size (.int .i64 k) (.string T) (.string X) (.slice pa pn pc) (.slice ka kn kc) := ⟨_, rfl⟩
      have hz7 : W7.heap.size = W4.heap.size := by rw [hW7, set5F_size]; exact HM6.out.1
      have hs7 : ∀ k, k ≠ g → k ≠ w.heap.size → W7.heap[k]? = W4.heap[k]? := fun j hj hj' => by rw [hW7, fl_setO hj']; exact HS6.out j hj
      have hg7 : w.grownBy W7 (some g) := by
        have hb := HBw.out
        obtain ⟨m1, m2, m3, m4⟩ := HM6.out
        refine ⟨?_, ?_, ?_, by rw [hz7]; exact hb.size, fun j hj hn => (hs7 j (fun e => hn (by rw [e])) (Nat.ne_of_lt hj)).trans (hb.block j hj)⟩
        · rw [hW7]; exact m2.trans hb.os
        · rw [hW7]; exact m3.trans hb.tape
        · rw [hW7]; exact m4.trans hb.output
      have hf7 : IsFl (fun j => w.heap.size ≤ j ∧ j < W7.heap.size) W7 f (.agg #[.int .i64 k, .string T, .string X, .slice pa pn pc, .slice ka kn kc]) := by
        have hgn := HGn.out
        refine (HF4.out).imp (fun j h => ⟨by omega, by rw [hz7]; exact h.2⟩) (fun j o h => ?_)
        unfold World.cell?
        rw [hs7 j (by omega) (by omega)]
      have hr7 : RdAt W7 g q above (n + 1) := by
        rw [hW7]
        exact (fl_setO HNe.out.2.symm _ _ _ _ _).trans HR6.out
      rw [hW7] at hg7 hf7 hr7
      refine bodyPost_ret (v := .tuple #[.agg #[.int .i64 k, .string T, .string X, .slice pa pn pc, .slice ka kn kc], .bool true]) (by simp [results, Tryd.results41, go_sem, z0, z1, z2, z3, z4]) rfl ⟨_, _, rfl, hg7, ⟨hf7, rfl⟩, fun f' q' h => ?_⟩
      cases h
      exact ⟨q, HQ.out, hr7⟩
end Go.Proofs.YtmpicolplknomaaDoor

/- filter.holder: the walk. -/
namespace Go.Proofs.YtmpicolplknomaaDoor
open Go.RowKit
set_option linter.unusedVariables false
set_option linter.unusedSimpArgs false

theorem ownF_grown {B g : Nat} {w w' : World} {v : Value} {l : List FT} (h : OwnF B w v l) (hg : w.grownBy w' (some g)) (hB : g < B) : OwnF B w' v l := by
  obtain ⟨xs, h1, h2⟩ := h
  refine ⟨xs, h1.imp (fun b hb => ⟨hb.1, Nat.lt_of_lt_of_le hb.2.1 hg.size, hb.2.2⟩) (fun b o hb => ?_), World.ownsRow.kept h2 hg ?_⟩
  · unfold World.cell?
    rw [hg.block b hb.2.1 (fun e => by have := Option.some.inj e; have := hb.1; omega)]
  · rcases h2.2 with ⟨rfl, _⟩ | ⟨c, cap, cur, rfl, hc, _⟩
    · exact .inl rfl
    · right
      intro e
      have : c = g := by simpa [Value.ownBlock] using e
      omega
theorem wpList_append_F {ops : Array Oper} {rest : List Oper} {o : Oper} {a : Act} {w : World} {Q : Exit → Act → World → Prop} (hgd : o.guard = none) (sl x : Operand)
    (ho : o.op = .call { callee := .builtin .append, args := #[sl, x], argTypes := #[23, 23] })
    (B c : Nat) (v : Value) (l : List FT) (hs : a.eval sl = v) (hown : OwnF B w v l) (hB : B ≤ w.heap.size) {f : FT} {x0 x1 x2 x3 x4 : Value} (hf : IsFl (NewB B w v.ownBlock) w f (.agg #[x0, x1, x2, x3, x4]))
    (hc : w.heap[c]? = some (.cells #[x0, x1, x2, x3, x4] 25 (0, 0))) (hx : a.eval x = .slice (some ⟨c, 0, none⟩) 1 1) (hlen : l.length ≤ 1000)
    (h : ∀ v' w', OwnF B w' v' (l ++ [f]) → Below B w w' → wpList Tryd.prog ops Q rest (a.put o.dst v') w') : wpList Tryd.prog ops Q (o :: rest) a w := by
  refine wpList_plain hgd fun K hK => ?_
  obtain ⟨v', w', hr, h2, h3, _⟩ := run_append_F hown hB hf hc hlen o.type
  unfold Oper.wp execOp
  simp only [ho, resolve, invoke, builtin, Sem.run_bind, Sem.run_pure, Result.andThen_ok, List.map_toArray, List.map_cons, List.map_nil, hs, hx, hr]
  exact hK _ _ (h v' w' h2 h3)
theorem kidsC_le {k : Int} {n : Nat} (h : kidsC k n = true) : n ≤ 40 := by
  unfold kidsC at h
  split at h
  · simp only [decide_eq_true_eq] at h; omega
  · simpa using h
/-- What is still to be read tells the same as all did. -/
def KidsInv (D : List UInt8 → Option (FT × List UInt8)) (k : Int) (s : List UInt8) (L : List FT) (q : List UInt8) : Prop :=
  ∃ fu, q.length < fu ∧ kidsD D k (s.length + 1) 0 s = (kidsD D k fu L.length q).map fun x => (L ++ x.1, x.2)
theorem kidsInv_start (D : List UInt8 → Option (FT × List UInt8)) (k : Int) (s : List UInt8) : KidsInv D k s [] s :=
  ⟨s.length + 1, Nat.lt_succ_self _, by
    show _ = (kidsD D k (s.length + 1) 0 s).map _
    cases kidsD D k (s.length + 1) 0 s <;> rfl⟩
theorem kidsInv_step {D : List UInt8 → Option (FT × List UInt8)} {k : Int} {s : List UInt8} {L : List FT} {q r : List UInt8} {f : FT} (h : KidsInv D k s L q) (h41 : ¬ q.head? = some 41) (hd : D q = some (f, r)) (hl : r.length < q.length) (hk : kidsC k (L.length + 1) = true) : KidsInv D k s (L ++ [f]) r := by
  obtain ⟨fu, hfu, e⟩ := h
  match fu, hfu with
  | fu + 1, hfu =>
    refine ⟨fu, by omega, e.trans ?_⟩
    show ((if q.head? = some 41 then some ([], q) else match D q with
      | none => none
      | some (f, r) => if kidsC k (L.length + 1) then (kidsD D k fu (L.length + 1) r).map fun x => (f :: x.1, x.2) else none)).map _ = _
    rw [if_neg h41, hd]
    show (if kidsC k (L.length + 1) then (kidsD D k fu (L.length + 1) r).map fun x => (f :: x.1, x.2) else none).map _ = _
    rw [if_pos hk, List.length_append]
    show _ = (kidsD D k fu (L.length + 1) r).map _
    cases kidsD D k fu (L.length + 1) r with
    | none => rfl
    | some x => simp
theorem kidsInv_none {D : List UInt8 → Option (FT × List UInt8)} {k : Int} {s : List UInt8} {L : List FT} {q : List UInt8} (h : KidsInv D k s L q) (h41 : ¬ q.head? = some 41) (hd : D q = none) : holdD D k s = none := by
  obtain ⟨fu, hfu, e⟩ := h
  match fu, hfu with
  | fu + 1, hfu =>
    have e1 : kidsD D k (fu + 1) L.length q = none := by
      show (if q.head? = some 41 then some ([], q) else match D q with
        | none => none
        | some (f, r) => if kidsC k (L.length + 1) then (kidsD D k fu (L.length + 1) r).map fun x => (f :: x.1, x.2) else none) = none
      rw [if_neg h41, hd]
    rw [e1] at e
    unfold holdD
    rw [e]
    rfl
theorem kidsInv_many {D : List UInt8 → Option (FT × List UInt8)} {k : Int} {s : List UInt8} {L : List FT} {q r : List UInt8} {f : FT} (h : KidsInv D k s L q) (h41 : ¬ q.head? = some 41) (hd : D q = some (f, r)) (hk : kidsC k (L.length + 1) = false) : holdD D k s = none := by
  obtain ⟨fu, hfu, e⟩ := h
  match fu, hfu with
  | fu + 1, hfu =>
    have e1 : kidsD D k (fu + 1) L.length q = none := by
      show (if q.head? = some 41 then some ([], q) else match D q with
        | none => none
        | some (f, r) => if kidsC k (L.length + 1) then (kidsD D k fu (L.length + 1) r).map fun x => (f :: x.1, x.2) else none) = none
      rw [if_neg h41, hd]
      show (if kidsC k (L.length + 1) then (kidsD D k fu (L.length + 1) r).map fun x => (f :: x.1, x.2) else none) = none
      rw [hk]
      rfl
    rw [e1] at e
    unfold holdD
    rw [e]
    rfl
theorem kidsInv_end {D : List UInt8 → Option (FT × List UInt8)} {k : Int} {s : List UInt8} {L : List FT} {q : List UInt8} (h : KidsInv D k s L q) (h41 : q.head? = some 41) : holdD D k s = if kidsC k L.length then some (.mk k [] [] [] L, q.drop 1) else none := by
  obtain ⟨fu, hfu, e⟩ := h
  match fu, hfu with
  | fu + 1, hfu =>
    have e1 : kidsD D k (fu + 1) L.length q = some ([], q) := by
      show (if q.head? = some 41 then some ([], q) else match D q with
        | none => none
        | some (f, r) => if kidsC k (L.length + 1) then (kidsD D k fu (L.length + 1) r).map fun x => (f :: x.1, x.2) else none) = _
      rw [if_pos h41]
    rw [e1] at e
    unfold holdD
    rw [e]
    simp
theorem pre41 (l : List UInt8) : Lib.hasPrefix l [41] = true ↔ l.head? = some 41 := by
  cases l with
  | nil => simp [Lib.hasPrefix]
  | cons c r =>
    show ((41 == c && List.isPrefixOf [] r) = true) ↔ some c = some 41
    rw [Bool.and_eq_true, beq_iff_eq]
    constructor
    · rintro ⟨rfl, _⟩; rfl
    · intro h; cases h; exact ⟨rfl, rfl⟩
theorem below_grown {n g : Nat} {w w' : World} (h : w.grownBy w' (some g)) (hn : n ≤ g) (hw : n ≤ w.heap.size) : Below n w w' :=
  { size := h.size, block := fun k hk => h.block k (Nat.lt_of_lt_of_le hk hw) (fun e => by have := Option.some.inj e; omega), os := h.os, tape := h.tape, output := h.output }
def rdLen (w : World) (g : Nat) : Nat := match w.cell? ⟨g, 0, none⟩ with
  | some (.string r) => r.size
  | _ => 0
theorem rdLen_at {w : World} {g : Nat} {r : ByteArray} {above n : Nat} (h : RdAt w g r above n) : rdLen w g = r.size := by
  unfold rdLen
  rw [(rd_cells h).1]
set_option maxRecDepth 100000 in
set_option maxHeartbeats 8000000 in
theorem holderFl_any {above : Nat} {D : List UInt8 → Option (FT × List UInt8)} (H : HeadIs (above + 1) D) (hD : ∀ q f r, D q = some (f, r) → r.length < q.length ∧ ∀ c ∈ r, c ∈ q) (k : Int) (hk : (Lit.int .i64 k).wf = true) (hab : above ≤ 100)
    (s : ByteArray) (hs : s.size ≤ 1000000) (ha : ascii s.data.toList) (w : World) :
    Calls Tryd.prog 27 #[.int .i64 k, .string s, .int .i64 above] w fun e w' => ∃ x r b, e = .returned (.tuple #[x, .string r, .bool b]) ∧ HdV w.heap.size w' (holdD D k s.data.toList) x r b ∧ Below w.heap.size w w' := by
  obtain ⟨W0, hW0⟩ : ∃ W, W = w.alloc zF := ⟨_, rfl⟩
  obtain ⟨W1, hW1⟩ : ∃ W, W = W0.alloc (.cells #[.string s, .int .i64 ((above : Int) + 1), .int .i64 0] 77) := ⟨_, rfl⟩
  have hb0 : Below w.heap.size w W0 := by rw [hW0]; exact box5 w _ _ _ _ _
  have hx0 : FzAt W0 w.heap.size := by rw [hW0]; exact heap_alloc_new w _
  have hsz0 : W0.heap.size = w.heap.size + 1 := by rw [hW0]; simp only [World.alloc, Array.size_push]
  have hb1 : Below W0.heap.size W0 W1 := by rw [hW1]; exact (Below.refl _ _).alloc (Nat.le_refl _) _
  have hr1 : RdAt W1 W0.heap.size s (above + 1) 0 := by
    show W1.heap[W0.heap.size]? = some (.cells #[.string s, .int .i64 ((above + 1 : Nat) : Int), .int .i64 ((0 : Nat) : Int)] 77 (0, 0))
    rw [hW1, show ((above + 1 : Nat) : Int) = (above : Int) + 1 from by omega]
    exact heap_alloc_new W0 _
  obtain ⟨g, hg⟩ : ∃ g, g = W0.heap.size := ⟨_, rfl⟩
  have HB1 := Lib.hid (bthen hb0 hb1)
  have HX1 := Lib.hid (fl_below hx0 hb1 (fl_lt hx0))
  have HR1 : Hid (RdAt W1 g s (above + 1) 0) := Lib.hid (by rw [hg]; exact hr1)
  have HG : Hid (g = w.heap.size + 1) := Lib.hid (by rw [hg]; exact hsz0)
  have HGi := Lib.hid hg.symm
  have HW0 := Lib.hid hW0.symm
  have HW1 := Lib.hid hW1.symm
  obtain ⟨l, hl⟩ : ∃ l, l = s.data.toList := ⟨_, rfl⟩
  have HInv0 : Hid (KidsInv D k l [] s.data.toList) := Lib.hid (by rw [← hl]; exact kidsInv_start D k l)
  have HAs := Lib.hid ha
  have HSs := Lib.hid hs
  have HK := Lib.hid hk
  have HDs := Lib.hid hD
  have HNx := Lib.hid (fun (n : Nat) (r : ByteArray) hr ha hn (w : World) h => nextFl_any H g n r hr ha hn w h)
  have ew : IntKind.i64.wrap ((above : Int) + 1) = (above : Int) + 1 := IntWalk.i64_in _ (by omega)
  rw [← hl]
  clear hW0 hW1 hb0 hx0 hsz0 hb1 hr1 hg ha hs hk hD H hl
  go_enter Tryd.func27, Tryd.ntmps27
  go_upto_region 1 with (fail)
  rw [HW0.out]
  go_wp2
  rw [HW1.out, HGi.out]
  go_loopw [10] (fun v wr => ∃ (L : List FT) (q : ByteArray), Hid (OwnF (g + 1) wr v L) ∧ Hid (RdAt wr g q (above + 1) L.length) ∧ Hid (FzAt wr w.heap.size) ∧ Hid (Below w.heap.size w wr) ∧ Hid (KidsInv D k l L q.data.toList) ∧ Hid (q.size ≤ 1000000 ∧ ascii q.data.toList ∧ L.length ≤ 40)) (fun _ wr => rdLen wr g)
  case atStart => exact ⟨[], s, Lib.hid (ownF_nil _ _), HR1, HX1, HB1, HInv0, Lib.hid ⟨HSs.out, HAs.out, Nat.zero_le _⟩⟩
  case round =>
    obtain ⟨L, q, HO, HR, HX, HB, HI, HQ⟩ := hrel
    rename World => wr
    have hrr := HR.out
    obtain ⟨r0, r1, r2⟩ := rd_cells hrr
    have hpx := fun W => Tryd.strings_HasPrefix q ⟨#[41]⟩ W
    by_cases h41 : q.data.toList.head? = some 41
    · rw [show Lib.hasPrefix q.data.toList (⟨#[41]⟩ : ByteArray).data.toList = true from (pre41 _).2 h41] at hpx
      have HP := Lib.hid hpx
      have HH := Lib.hid (kidsInv_end HI.out h41)
      have HCt := Lib.hid (countFl_any g L.length (above + 1) q wr HR.out)
      have HMk := Lib.hid (fun W => mayKids_any k L.length W)
      clear hpx
      cases hkc : kidsC k L.length with
      | false =>
        rw [hkc] at HMk HH
        clear hkc hrr
        have hfz := HX.out
        obtain ⟨c0, c1, c2, c3, c4⟩ := fl_cells hfz
        obtain ⟨f0, f1, f2, f3, f4⟩ := fl_frozen hfz
        obtain ⟨z0, z1, z2, z3, z4⟩ := fl_cells (fl_set hfz (.int .i64 0) (.string ⟨#[]⟩) (.string ⟨#[]⟩) (.slice none 0 0) (.slice none 0 0))
        unfold set5F at z0 z1 z2 z3 z4
        clear hfz
        go_wp2_with (first
          | (go_at_call 40; refine (HP.out _).mono ?_; rintro e w2 ⟨rfl, hw⟩; replace hw := hw.symm; subst hw)
          | (go_at_call 42; refine (HCt.out).mono ?_; rintro e w2 ⟨rfl, hw⟩; replace hw := hw.symm; subst hw)
          | (go_at_call 34; refine (HMk.out _).mono ?_; rintro e w2 ⟨rfl, rfl⟩))
        have hbz := fl_setB HB.out (Nat.le_refl w.heap.size) (.int .i64 0) (.string ⟨#[]⟩) (.string ⟨#[]⟩) (.slice none 0 0) (.slice none 0 0)
        refine bodyPost_ret (v := .tuple #[.agg #[.int .i64 0, .string ⟨#[]⟩, .string ⟨#[]⟩, .slice none 0 0, .slice none 0 0], .string ⟨#[]⟩, .bool false]) (by simp [results, Tryd.results27, go_sem, z0, z1, z2, z3, z4]) rfl ⟨_, _, _, rfl, ?_, hbz⟩
        rw [HH.out]
        exact ⟨rfl, rfl⟩
      | true =>
        rw [hkc] at HMk HH
        rw [if_pos rfl] at HH
        have hq1 : 1 ≤ q.size := by
          rw [← bytes_len]
          cases hqq : q.data.toList with
          | nil => rw [hqq] at h41; cases h41
          | cons c r => simp
        obtain ⟨va, vc, hv, hfls⟩ := ownF_done HO.out
        subst hv
        have HFs := Lib.hid hfls
        have HQ1 := Lib.hid hq1
        clear hkc hrr hfls
        go_upto_region 10 with (first
          | (go_at_call 40; refine (HP.out _).mono ?_; rintro e w2 ⟨rfl, hw⟩; replace hw := hw.symm; subst hw)
          | (go_at_call 42; refine (HCt.out).mono ?_; rintro e w2 ⟨rfl, hw⟩; replace hw := hw.symm; subst hw)
          | (go_at_call 34; refine (HMk.out _).mono ?_; rintro e w2 ⟨rfl, rfl⟩))
        have g0 : (0 : Int) ≤ (1 : Int) := by omega
        have g1 : (1 : Int) ≤ (q.size : Int) := by omega
        have g2 : 1 ≤ q.size := hq1
        have hfz := HX.out
        obtain ⟨c0, c1, c2, c3, c4⟩ := fl_cells hfz
        obtain ⟨f0, f1, f2, f3, f4⟩ := fl_frozen hfz
        have hgw : w.heap.size ≠ g := by have := HG.out; omega
        have hgw' : g ≠ w.heap.size := hgw.symm
        have r0s : (wr.setCell ⟨w.heap.size, 0, none⟩ (.int .i64 k)).cell? ⟨g, 0, none⟩ = some (.string q) := by
          rw [← r0]
          unfold World.cell?
          rw [blockFl_ne wr ⟨w.heap.size, 0, none⟩ _ hgw']
        go_region
        obtain ⟨z0, z1, z2, z3, z4⟩ := fl_cells (fl_set hfz (.int .i64 k) (.string ⟨#[]⟩) (.string ⟨#[]⟩) (.slice none 0 0) (.slice va L.length vc))
        unfold set5F at z0 z1 z2 z3 z4
        obtain ⟨W9, hW9⟩ : ∃ W, W = set5F wr w.heap.size (.int .i64 k) (.string ⟨#[]⟩) (.string ⟨#[]⟩) (.slice none 0 0) (.slice va L.length vc) := ⟨_, rfl⟩
        have h9b : Below w.heap.size w W9 := by rw [hW9]; exact fl_setB HB.out (Nat.le_refl w.heap.size) (.int .i64 k) (.string ⟨#[]⟩) (.string ⟨#[]⟩) (.slice none 0 0) (.slice va L.length vc)
        have h9s : W9.heap.size = wr.heap.size := by rw [hW9]; exact set5F_size _ _ _ _ _ _ _
        have h9c : ∀ b o, b ≠ w.heap.size → W9.cell? ⟨b, o, none⟩ = wr.cell? ⟨b, o, none⟩ := fun b o h => by rw [hW9]; exact fl_setC h
        have hbz : Below w.heap.size w W9.drew := ⟨h9b.1, h9b.2, h9b.3, h9b.4, h9b.5⟩
        have hfl : IsFl (fun b => w.heap.size ≤ b ∧ b < W9.drew.heap.size) W9.drew (.mk k [] [] [] L) (.agg #[.int .i64 k, .string ⟨#[]⟩, .string ⟨#[]⟩, .slice none 0 0, .slice va L.length vc]) := by
          have h1 : IsFls (fun b => w.heap.size ≤ b ∧ b < W9.drew.heap.size) W9.drew L va 0 := by
            refine IsFls.imp (fun b h => ?_) (fun b o h => ?_) L va 0 HFs.out
            · have := h.1
              have := HG.out
              exact ⟨by omega, Nat.lt_of_lt_of_eq h.2 h9s.symm⟩
            · have := h.1
              have := HG.out
              exact h9c b o (by omega)
          have h2 : IsTo (fun b => w.heap.size ≤ b ∧ b < W9.drew.heap.size) W9.drew [] (.slice none 0 0) := ⟨none, 0, rfl, Nat.zero_le _, fun j h => absurd h (Nat.not_lt_zero _)⟩
          have h3 : L.length ≤ maxLen := by have := HQ.out.2.2; unfold maxLen; omega
          exact ⟨.slice none 0 0, va, vc, rfl, HK.out, Nat.zero_le _, Nat.zero_le _, h2, h3, h1⟩
        unfold set5F at hW9
        rw [← hW9] at z0 z1 z2 z3 z4 ⊢
        clear hW9
        go_wp2
        refine bodyPost_ret (v := .tuple #[.agg #[.int .i64 k, .string ⟨#[]⟩, .string ⟨#[]⟩, .slice none 0 0, .slice va L.length vc], .string (q.extract 1 q.size), .bool true]) (by simp [results, Tryd.results27, go_sem, z0, z1, z2, z3, z4]) rfl ⟨_, _, _, rfl, ?_, hbz⟩
        rw [HH.out]
        exact ⟨hfl, ext_list q 1, rfl⟩
    · rw [show Lib.hasPrefix q.data.toList (⟨#[41]⟩ : ByteArray).data.toList = false from by
        cases h : Lib.hasPrefix q.data.toList (⟨#[41]⟩ : ByteArray).data.toList with
        | false => rfl
        | true => exact absurd ((pre41 _).1 h) h41] at hpx
      have HP := Lib.hid hpx
      have hnx := HNx.out L.length q HQ.out.1 HQ.out.2.1 (by have := HQ.out.2.2; omega) wr HR.out
      have hgw : w.heap.size ≠ g := by have := HG.out; omega
      have hgr : g < wr.heap.size := rd_lt hrr
      have HGr := Lib.hid hgr
      cases hd : D q.data.toList with
      | none =>
        have HH := Lib.hid (kidsInv_none HI.out h41 hd)
        rw [hd] at hnx
        have HN := Lib.hid hnx
        clear hpx hnx hrr hd h41 hgr
        go_upto_region 5 with (first
          | (go_at_call 40; refine (HP.out _).mono ?_; rintro e w2 ⟨rfl, hw⟩; replace hw := hw.symm; subst hw)
          | (go_at_call 41; refine (HN.out).mono ?_; rintro e w2 ⟨x, b, rfl, hg2, ⟨rfl, rfl⟩, _⟩; have HG2 := Lib.hid hg2; clear hg2))
        obtain ⟨W3, hW3⟩ : ∃ W, W = w2.alloc zF := ⟨_, rfl⟩
        have hfz : FzAt W3 w.heap.size := by
          have h2 : FzAt w2 w.heap.size := (HG2.out.block w.heap.size (by have := HGr.out; have := HG.out; omega) (fun e => hgw (Option.some.inj e))).trans HX.out
          rw [hW3]
          exact fl_below h2 (box5 w2 _ _ _ _ _) (fl_lt h2)
        have HB3 : Hid (Below w.heap.size w W3) := Lib.hid (by
          rw [hW3]
          exact bthen (HB.out.trans (below_grown HG2.out (by have := HG.out; omega) HB.out.size)) (box5 w2 _ _ _ _ _))
        rw [show (w2.alloc (.cells #[.int .i64 0, .string ⟨#[]⟩, .string ⟨#[]⟩, .slice none 0 0, .slice none 0 0] 25)) = W3 from hW3.symm]
        clear hW3 r0 r1 r2
        obtain ⟨c0, c1, c2, c3, c4⟩ := fl_cells hfz
        obtain ⟨f0, f1, f2, f3, f4⟩ := fl_frozen hfz
        obtain ⟨z0, z1, z2, z3, z4⟩ := fl_cells (fl_set hfz (.int .i64 0) (.string ⟨#[]⟩) (.string ⟨#[]⟩) (.slice none 0 0) (.slice none 0 0))
        unfold set5F at z0 z1 z2 z3 z4
        clear hfz
        go_wp2
        have hbz := fl_setB HB3.out (Nat.le_refl w.heap.size) (.int .i64 0) (.string ⟨#[]⟩) (.string ⟨#[]⟩) (.slice none 0 0) (.slice none 0 0)
        refine bodyPost_ret (v := .tuple #[.agg #[.int .i64 0, .string ⟨#[]⟩, .string ⟨#[]⟩, .slice none 0 0, .slice none 0 0], .string ⟨#[]⟩, .bool false]) (by simp [results, Tryd.results27, go_sem, z0, z1, z2, z3, z4]) rfl ⟨_, _, _, rfl, ?_, hbz⟩
        rw [HH.out]
        exact ⟨rfl, rfl⟩
      | some fq =>
        obtain ⟨f, q'⟩ := fq
        have hdq := HDs.out _ _ _ hd
        have HDq := Lib.hid hdq
        have HM := Lib.hid (fun hk => kidsInv_many HI.out h41 hd hk)
        have HS := Lib.hid (fun hk => kidsInv_step HI.out h41 hd hdq.1 hk)
        rw [hd] at hnx
        have HN := Lib.hid hnx
        clear hpx hnx hrr hd h41 hgr hdq
        go_upto_region 5 with (first
          | (go_at_call 40; refine (HP.out _).mono ?_; rintro e w2 ⟨rfl, hw⟩; replace hw := hw.symm; subst hw)
          | (go_at_call 41; refine (HN.out).mono ?_; rintro e w2 ⟨x, b, rfl, hg2, ⟨hfl, rfl⟩, hrd⟩; (obtain ⟨kk, T, X, pa, pn, pc, ka, kn, kc, e⟩ := hfl.shape); subst e; have HG2 := Lib.hid hg2; have HFl := Lib.hid hfl; have HRd := Lib.hid (hrd f q' rfl); clear hg2 hfl hrd))
        obtain ⟨qb, hqb, hrd2⟩ := HRd.out
        have HQb := Lib.hid hqb
        obtain ⟨W3, hW3⟩ : ∃ W, W = w2.alloc (.cells #[.int .i64 kk, .string T, .string X, .slice pa pn pc, .slice ka kn kc] 25) := ⟨_, rfl⟩
        have h23 : Below w2.heap.size w2 W3 := by rw [hW3]; exact box5 w2 _ _ _ _ _
        have hgw2 : g < w2.heap.size := Nat.lt_of_lt_of_le HGr.out HG2.out.size
        have hfz : FzAt W3 w.heap.size := by
          have h2 : FzAt w2 w.heap.size := (HG2.out.block w.heap.size (by have := HGr.out; have := HG.out; omega) (fun e => hgw (Option.some.inj e))).trans HX.out
          exact fl_below h2 h23 (fl_lt h2)
        have hkid : FlAt W3 w2.heap.size (.int .i64 kk) (.string T) (.string X) (.slice pa pn pc) (.slice ka kn kc) := by rw [hW3]; exact heap_alloc_new w2 _
        have HB3 : Hid (Below w.heap.size w W3) := Lib.hid (bthen (HB.out.trans (below_grown HG2.out (by have := HG.out; omega) HB.out.size)) h23)
        have hr3 : RdAt W3 g qb (above + 1) (L.length + 1) := rd_below hrd2 h23 hgw2
        have HCt := Lib.hid (countFl_any g (L.length + 1) (above + 1) qb W3 hr3)
        have HMk := Lib.hid (fun W => mayKids_any k (L.length + 1) W)
        have HO3 : Hid (OwnF (g + 1) W3 _ L) := Lib.hid (ownF_below (ownF_grown HO.out HG2.out (Nat.lt_succ_self g)) h23)
        have HR3 := Lib.hid hr3
        have HX3 := Lib.hid hfz
        have HKd := Lib.hid hkid
        have H23 := Lib.hid h23
        rw [← hW3]
        clear hW3 r0 r1 r2 h23 hgw2 hr3 hkid hqb hrd2
        cases hkc : kidsC k (L.length + 1) with
        | false =>
          have HH := Lib.hid (HM.out hkc)
          rw [hkc] at HMk
          clear hkc
          obtain ⟨c0, c1, c2, c3, c4⟩ := fl_cells hfz
          obtain ⟨f0, f1, f2, f3, f4⟩ := fl_frozen hfz
          obtain ⟨z0, z1, z2, z3, z4⟩ := fl_cells (fl_set hfz (.int .i64 0) (.string ⟨#[]⟩) (.string ⟨#[]⟩) (.slice none 0 0) (.slice none 0 0))
          unfold set5F at z0 z1 z2 z3 z4
          clear hfz
          go_wp2_with (first
            | (go_at_call 42; refine (HCt.out).mono ?_; rintro e w5 ⟨rfl, hw⟩; replace hw := hw.symm; subst hw)
            | (go_at_call 34; refine (HMk.out _).mono ?_; rintro e w5 ⟨rfl, rfl⟩))
          have hbz := fl_setB HB3.out (Nat.le_refl w.heap.size) (.int .i64 0) (.string ⟨#[]⟩) (.string ⟨#[]⟩) (.slice none 0 0) (.slice none 0 0)
          refine bodyPost_ret (v := .tuple #[.agg #[.int .i64 0, .string ⟨#[]⟩, .string ⟨#[]⟩, .slice none 0 0, .slice none 0 0], .string ⟨#[]⟩, .bool false]) (by simp [results, Tryd.results27, go_sem, z0, z1, z2, z3, z4]) rfl ⟨_, _, _, rfl, ?_, hbz⟩
          rw [HH.out]
          exact ⟨rfl, rfl⟩
        | true =>
          have HS2 := Lib.hid (HS.out hkc)
          have HLe := Lib.hid (kidsC_le hkc)
          rw [hkc] at HMk
          clear hkc hfz
          have hkd := HKd.out
          obtain ⟨d0, d1, d2, d3, d4⟩ := fl_cells hkd
          clear hkd
          obtain ⟨C, hC⟩ : ∃ C, C = Obj.cells #[.int .i64 kk, .string T, .string X, .slice pa pn pc, .slice ka kn kc] 25 := ⟨_, rfl⟩
          have h34 : Below W3.heap.size W3 (W3.alloc C) := by rw [hC]; exact box5 W3 _ _ _ _ _
          have hown4 := ownF_below HO3.out h34
          have hcc : (W3.alloc C).heap[W3.heap.size]? = some (.cells #[.int .i64 kk, .string T, .string X, .slice pa pn pc, .slice ka kn kc] 25 (0, 0)) := by rw [hC]; exact heap_alloc_new W3 _
          have hf4 : IsFl (NewB (g + 1) (W3.alloc C) (Value.ownBlock u10)) (W3.alloc C) f (.agg #[.int .i64 kk, .string T, .string X, .slice pa pn pc, .slice ka kn kc]) := by
            refine (HFl.out).imp (fun j h => ⟨?_, ?_, ?_⟩) (fun j o h => ?_)
            · exact (h34.cell (p := ⟨j, o, none⟩) (Nat.lt_of_lt_of_le h.2 H23.out.size)).trans (H23.out.cell (p := ⟨j, o, none⟩) h.2)
            · have := HGr.out; omega
            · have := h.2; have := H23.out.size; have := h34.size; omega
            · intro e
              obtain ⟨xs, _, ho⟩ := HO.out
              have := (World.ownsRow.lt ho j e.symm).2
              omega
          have hB4 : g + 1 ≤ (W3.alloc C).heap.size := by have := HGr.out; have := HG2.out.size; have := H23.out.size; have := h34.size; omega
          have HOwn4 := Lib.hid hown4
          have HCc := Lib.hid hcc
          have HF4 := Lib.hid hf4
          have HBg4 := Lib.hid hB4
          have H34 := Lib.hid h34
          have hl40 : L.length ≤ 1000 := by have := HLe.out; omega
          rw [hC] at HOwn4 HCc HF4 HBg4 H34
          clear hC h34 hown4 hcc hf4 hB4
          go_wp2_with (first
            | (go_at_call 42; refine (HCt.out).mono ?_; rintro e w5 ⟨rfl, hw⟩; replace hw := hw.symm; subst hw)
            | (go_at_call 34; refine (HMk.out _).mono ?_; rintro e w5 ⟨rfl, rfl⟩)
            | (at_builtin; refine wpList_append_F rfl (.tmp 39) (.tmp 41) rfl (g + 1) W3.heap.size u10 L rfl HOwn4.out HBg4.out HF4.out HCc.out rfl hl40 ?_; intro v5 w5 hown5 hb5; have HO5 := Lib.hid hown5; have HB5 := Lib.hid hb5; clear hown5 hb5))
          have HR5 : Hid (RdAt w5 g qb (above + 1) (L.length + 1)) := Lib.hid (rd_below (rd_below HR3.out H34.out (rd_lt HR3.out)) HB5.out (Nat.lt_succ_self g))
          have HX5 : Hid (FzAt w5 w.heap.size) := Lib.hid (fl_below (fl_below HX3.out H34.out (fl_lt HX3.out)) HB5.out (by have := HG.out; omega))
          have HB5' : Hid (Below w.heap.size w w5) := Lib.hid ((bthen HB3.out H34.out).trans (HB5.out.mono (by have := HG.out; omega)))
          have hqs : qb.size < q.size := by rw [← bytes_len, ← bytes_len, HQb.out]; exact HDq.out.1
          have HQ5 : Hid (qb.size ≤ 1000000 ∧ ascii qb.data.toList ∧ (L ++ [f]).length ≤ 40) := Lib.hid ⟨by have := HQ.out.1; omega, by rw [HQb.out]; exact fun c hc => HQ.out.2.1 c (HDq.out.2 c hc), by rw [List.length_append]; exact HLe.out⟩
          have HI5 : Hid (KidsInv D k l (L ++ [f]) qb.data.toList) := Lib.hid (by rw [HQb.out]; exact HS2.out)
          go_roundw
          case rel => exact ⟨L ++ [f], qb, HO5, Lib.hid (by rw [List.length_append]; exact HR5.out), HX5, HB5', HI5, HQ5⟩
          case measure =>
            rw [rdLen_at HR5.out, rdLen_at HR.out]
            exact hqs
end Go.Proofs.YtmpicolplknomaaDoor

/- The document's one, at a filter that holds others: the walk. -/
namespace Go.Proofs.YtmpicolplknomaaDoor
open Go.RowKit
set_option linter.unusedVariables false
set_option linter.unusedSimpArgs false

theorem oneO_hold (d : Nat) {c : UInt8} (r : List UInt8) (h : c = 38 ∨ c = 124 ∨ c = 33) : oneO (d + 1) (40 :: c :: r) = match kidsO (oneO d) r.length r with
    | some (l, R) => endO (.mk (holdO c) [] [] [] l) R
    | none => none := by
  have hb : bodyO (oneO d) c r = (kidsO (oneO d) r.length r).map fun x => (.mk (holdO c) [] [] [] x.1, x.2) := by
    unfold bodyO
    rw [if_pos h]
  show (match bodyO (oneO d) c r with
    | some (f, 41 :: X) => some (f, X)
    | _ => none) = _
  rw [hb]
  cases kidsO (oneO d) r.length r with
  | none => rfl
  | some x =>
    obtain ⟨l, R⟩ := x
    show (match some (FT.mk (holdO c) [] [] [] l, R) with
      | some (f, 41 :: X) => some (f, X)
      | _ => none) = endO _ R
    unfold endO
    split <;> rename_i e
    · cases e; rfl
    · split
      · exact absurd rfl (e _ _)
      · rfl
/-- The kids read so far. -/
def KidO (D : List UInt8 → Option (FT × List UInt8)) (r q : List UInt8) (L : List FT) : Prop := ∃ fu, q.length ≤ fu ∧ kidsO D r.length r = (kidsO D fu q).map fun x => (L ++ x.1, x.2)
theorem kidO_start (D : List UInt8 → Option (FT × List UInt8)) (r : List UInt8) : KidO D r r [] := ⟨r.length, Nat.le_refl _, by cases kidsO D r.length r <;> simp⟩
theorem kidO_none {D : List UInt8 → Option (FT × List UInt8)} {r q : List UInt8} {L : List FT} (h : KidO D r (40 :: q) L) (hd : D (40 :: q) = none) : kidsO D r.length r = none := by
  obtain ⟨fu, hf, h⟩ := h
  cases fu with
  | zero => simp at hf
  | succ fu =>
    rw [h, kidsO, if_pos (show (40 :: q).head? = some 40 from rfl), hd]
    rfl
theorem kidO_next {D : List UInt8 → Option (FT × List UInt8)} {r q q' : List UInt8} {L : List FT} {f : FT} (h : KidO D r (40 :: q) L) (hd : D (40 :: q) = some (f, q')) (hl : q'.length < (40 :: q).length) : KidO D r q' (L ++ [f]) := by
  obtain ⟨fu, hf, h⟩ := h
  cases fu with
  | zero => simp at hf
  | succ fu =>
    refine ⟨fu, by omega, ?_⟩
    rw [h, kidsO, if_pos (show (40 :: q).head? = some 40 from rfl), hd]
    show Option.map _ ((kidsO D fu q').map fun x => (f :: x.1, x.2)) = _
    cases kidsO D fu q' <;> simp
theorem kidO_end {D : List UInt8 → Option (FT × List UInt8)} {r q : List UInt8} {L : List FT} (h : KidO D r q L) (hq : q.head? ≠ some 40) : kidsO D r.length r = some (L, q) := by
  obtain ⟨fu, hf, h⟩ := h
  cases fu with
  | zero => rw [h]; simp [kidsO]
  | succ fu => rw [h, kidsO, if_neg hq]; simp
theorem holdO_wf (c : UInt8) : (Lit.int .i64 (holdO c)).wf = true := by unfold holdO; (repeat' split) <;> decide

theorem wpList_append_F2 {ops : Array Oper} {rest : List Oper} {o : Oper} {a : Act} {w : World} {Q : Exit → Act → World → Prop} (hgd : o.guard = none) (sl x : Operand)
    (ho : o.op = .call { callee := .builtin .append, args := #[sl, x], argTypes := #[23, 23] })
    (B c : Nat) (v : Value) (l : List FT) (hs : a.eval sl = v) (hown : OwnF B w v l) (hB : B ≤ w.heap.size) {f : FT} {x0 x1 x2 x3 x4 : Value} (hf : IsFl (NewB B w v.ownBlock) w f (.agg #[x0, x1, x2, x3, x4]))
    (hc : w.heap[c]? = some (.cells #[x0, x1, x2, x3, x4] 25 (0, 0))) (hx : a.eval x = .slice (some ⟨c, 0, none⟩) 1 1) (hlen : l.length ≤ 1000)
    (h : ∀ v' w', OwnF B w' v' (l ++ [f]) → Below B w w' → (∀ k, k < w.heap.size → some k ≠ v.ownBlock → w'.heap[k]? = w.heap[k]?) → wpList Tryd.prog ops Q rest (a.put o.dst v') w') : wpList Tryd.prog ops Q (o :: rest) a w := by
  refine wpList_plain hgd fun K hK => ?_
  obtain ⟨v', w', hr, h2, h3, h4⟩ := run_append_F hown hB hf hc hlen o.type
  unfold Oper.wp execOp
  simp only [ho, resolve, invoke, builtin, Sem.run_bind, Sem.run_pure, Result.andThen_ok, List.map_toArray, List.map_cons, List.map_nil, hs, hx, hr]
  exact hK _ _ (h v' w' h2 h3 h4)
theorem ownF_setF {B b o : Nat} {w : World} {v x : Value} {l : List FT} (h : OwnF B w v l) (hb : b < B) : OwnF B (w.setCell ⟨b, o, none⟩ x) v l :=
  ownF_grown h ⟨rfl, rfl, rfl, by rw [World.size_setCell]; exact Nat.le_refl _, fun k hk hne => heap_setCell_other _ _ _ _ (fun e => hne (by rw [e]))⟩ hb

set_option maxRecDepth 100000 in
set_option maxHeartbeats 8000000 in
theorem oneHold (d : Nat) (hd : d ≤ 100) (ih : OnesR d) (s : ByteArray) (hs : s.size ≤ 1000) (at' : Nat) (hat : at' + 1 < s.size) (h40 : (s[at']'(by omega)) = 40) (hc : s[at' + 1] = 38 ∨ s[at' + 1] = 124 ∨ s[at' + 1] = 33) (w : World) :
    OneIs s at' d (oneO (d + 1) (s.data.toList.drop at')) w := by
  have hdr : s.data.toList.drop at' = 40 :: s[at' + 1] :: s.data.toList.drop (at' + 2) := by rw [drop_at s at' (by omega), h40, drop_at s (at' + 1) hat]
  have ho := oneO_hold d (s.data.toList.drop (at' + 2)) hc
  rw [← hdr] at ho
  obtain ⟨o, hoo⟩ : ∃ o, o = oneO (d + 1) (s.data.toList.drop at') := ⟨_, rfl⟩
  rw [← hoo] at ho ⊢
  obtain ⟨r, hr⟩ : ∃ r, r = s.data.toList.drop (at' + 2) := ⟨_, rfl⟩
  rw [← hr] at ho
  have HLen := Lib.hid (oneO_len d)
  have HIh : Hid (∀ (j : Nat) (W : World), j ≤ s.size → OneIs s j ((d : Int) - 1) (oneO d (s.data.toList.drop j)) W) := Lib.hid (fun j W h => ih s j W hs h)
  unfold OneIs at HIh ⊢
  obtain ⟨c, hcc⟩ : ∃ c : UInt8, c = s[at' + 1] := ⟨_, rfl⟩
  have hc' : s[at' + 1]'hat = c := hcc.symm
  rw [← hcc] at hc ho
  have HO := Lib.hid ho
  have HR := Lib.hid hr
  have hcl := c.toNat_lt
  have hlt0 : at' < s.size := by omega
  obtain ⟨c9, hc9⟩ : ∃ c : UInt8, c = s[at'] := ⟨_, rfl⟩
  have hc9' : s[at']'hlt0 = c9 := hc9.symm
  have t40 : ((c9.toNat : Int) != 40) = false := by rw [hc9, h40]; rfl
  have t1 : decide ((s.size : Int) ≤ (at' : Int) + 1) = false := by simp; omega
  have t0 : decide ((d : Int) < 0) = false := by simp
  have ew : IntKind.i64.wrap ((at' : Int) + 1) = (at' : Int) + 1 := IntWalk.i64_in _ (by omega)
  have ew2 : IntKind.i64.wrap ((at' : Int) + 2) = (at' : Int) + 2 := IntWalk.i64_in _ (by omega)
  have ew3 : IntKind.i64.wrap ((at' : Int) + 1 + 1) = (at' : Int) + 1 + 1 := IntWalk.i64_in _ (by omega)
  have ed : IntKind.i64.wrap ((d : Int) - 1) = (d : Int) - 1 := IntWalk.i64_in _ (by omega)
  have hi0 : (0 : Int) ≤ (at' : Int) + 1 := by omega
  have hi1 : (at' : Int) + 1 < (s.size : Int) := by omega
  have hi2 : ((at' : Int) + 1).toNat = at' + 1 := by omega
  obtain ⟨W0, hW0⟩ : ∃ W, W = w.alloc zG := ⟨_, rfl⟩
  obtain ⟨W1, hW1⟩ : ∃ W, W = W0.alloc (.cells #[.int .i64 0, .string ⟨#[]⟩, .string ⟨#[]⟩, .slice none 0 0, .slice none 0 0] 25) := ⟨_, rfl⟩
  obtain ⟨fb, hfb⟩ : ∃ b, b = W0.heap.size := ⟨_, rfl⟩
  have HOn1 : Hid (OnAt w fb W1 (.int .i64 0) (.string ⟨#[]⟩) (.string ⟨#[]⟩) (.slice none 0 0) (.slice none 0 0)) := Lib.hid (by rw [hfb, hW1, hW0]; exact onAt_new w)
  have HW0 := Lib.hid hW0.symm
  have HW1 := Lib.hid hW1.symm
  have HFb := Lib.hid hfb.symm
  obtain ⟨c0, c1, c2, c3, c4⟩ := fl_cells HOn1.out.flt
  obtain ⟨f0, f1, f2, f3, f4⟩ := fl_frozen HOn1.out.flt
  have HKw := Lib.hid (holdO_wf c)
  obtain ⟨K, hK⟩ : ∃ K, K = holdO c := ⟨_, rfl⟩
  rw [← hK] at HO HKw
  clear hW0 hW1 hfb hcc hc9 h40 ho hoo hdr ih hr
  go_enter Tryd.func16, Tryd.ntmps16
  go_upto_region 1 with (fail)
  rw [HW0.out]
  go_upto_region 4 with (fail)
  rw [HW1.out, HFb.out]
  clear HW0 HW1 HFb
  rcases hc with hc | hc | hc
  case' inl =>
    have t38 : ((c.toNat : Int) == 38) = true := by rw [hc]; rfl
    have t124 : ((c.toNat : Int) == 124) = false := by rw [hc]; rfl
    have t33 : ((c.toNat : Int) == 33) = false := by rw [hc]; rfl
    have hk : K = 1 := by rw [hK, hc]; rfl
    clear hK hc
    go_upto_region 36 with (fail)
    obtain ⟨W2, hW2⟩ : ∃ W, W = W1.setCell ⟨fb, 0, none⟩ (.int .i64 1) := ⟨_, rfl⟩
    have HOn2 : Hid (OnAt w fb W2 (.int .i64 K) (.string ⟨#[]⟩) (.string ⟨#[]⟩) (.slice none 0 0) (.slice none 0 0)) := Lib.hid (by rw [hW2, hk]; exact HOn1.out.set0 _)
    rw [← hW2]
    clear hk
  case' inr.inl =>
    have t38 : ((c.toNat : Int) == 38) = false := by rw [hc]; rfl
    have t124 : ((c.toNat : Int) == 124) = true := by rw [hc]; rfl
    have t33 : ((c.toNat : Int) == 33) = false := by rw [hc]; rfl
    have hk : K = 2 := by rw [hK, hc]; rfl
    clear hK hc
    go_upto_region 36 with (fail)
    obtain ⟨W2, hW2⟩ : ∃ W, W = (W1.setCell ⟨fb, 0, none⟩ (.int .i64 1)).setCell ⟨fb, 0, none⟩ (.int .i64 2) := ⟨_, rfl⟩
    have HOn2 : Hid (OnAt w fb W2 (.int .i64 K) (.string ⟨#[]⟩) (.string ⟨#[]⟩) (.slice none 0 0) (.slice none 0 0)) := Lib.hid (by rw [hW2, hk]; exact (HOn1.out.set0 _).set0 _)
    rw [← hW2]
    clear hk
  case' inr.inr =>
    have t38 : ((c.toNat : Int) == 38) = false := by rw [hc]; rfl
    have t124 : ((c.toNat : Int) == 124) = false := by rw [hc]; rfl
    have t33 : ((c.toNat : Int) == 33) = true := by rw [hc]; rfl
    have hk : K = 3 := by rw [hK, hc]; rfl
    clear hK hc
    go_upto_region 36 with (fail)
    obtain ⟨W2, hW2⟩ : ∃ W, W = (W1.setCell ⟨fb, 0, none⟩ (.int .i64 1)).setCell ⟨fb, 0, none⟩ (.int .i64 3) := ⟨_, rfl⟩
    have HOn2 : Hid (OnAt w fb W2 (.int .i64 K) (.string ⟨#[]⟩) (.string ⟨#[]⟩) (.slice none 0 0) (.slice none 0 0)) := Lib.hid (by rw [hW2, hk]; exact (HOn1.out.set0 _).set0 _)
    rw [← hW2]
    clear hk
  all_goals
    clear hW2 HOn1 c0 c1 c2 c3 c4 f0 f1 f2 f3 f4
    go_wp2
    clear t38 t124 t33 t40 t1 t0 hi0 hi1 hi2 ew ew2 ew3 hlt0 hc9' hc'
    go_loopw [8] (fun i wr => ∃ (j : Nat) (L : List FT) (v : Value), i = .int .i64 j ∧ at' + 2 ≤ j ∧ j ≤ s.size ∧ Hid (OnAt w fb wr (.int .i64 K) (.string ⟨#[]⟩) (.string ⟨#[]⟩) (.slice none 0 0) v) ∧ Hid (OwnF (w.heap.size + 2) wr v L) ∧ Hid (KidO (oneO d) r (s.data.toList.drop j) L) ∧ L.length ≤ j) (fun i _ => s.size - (intOf i).toNat)
    case atStart => exact ⟨at' + 2, [], .slice none 0 0, by go_num, Nat.le_refl _, by omega, HOn2, Lib.hid (ownF_nil _ _), Lib.hid (by rw [← HR.out]; exact kidO_start _ _), Nat.zero_le _⟩
    case round =>
      obtain ⟨n, L, v, rfl, hj0, hj1, HOn, HOf, HKd, hLn⟩ := hrel
      by_cases hgo : ∃ h : n < s.size, s[n] = 40
      · obtain ⟨hlt, h4⟩ := hgo
        have u1 : decide ((n : Int) < (s.size : Int)) = true := by simp; omega
        obtain ⟨x, hx⟩ : ∃ x : UInt8, x = s[n] := ⟨_, rfl⟩
        have hx' : s[n]'hlt = x := hx.symm
        have u2 : ((x.toNat : Int) == 40) = true := by rw [hx, h4]; rfl
        have hdn := drop_at s n hlt
        rw [h4] at hdn
        obtain ⟨o2, ho2⟩ : ∃ o, o = oneO d (s.data.toList.drop n) := ⟨_, rfl⟩
        have hcall := fun W => HIh.out n W hj1
        rw [← ho2] at hcall
        cases o2 with
        | none =>
          have HNo : Hid (o = none) := Lib.hid (by
            have hk := HKd.out
            rw [hdn] at hk ho2
            rw [HO.out, kidO_none hk ho2.symm])
          have HCall := Lib.hid hcall
          clear hx h4 hdn ho2 hcall
          go_upto_region 39 with (go_at_call 16; refine (HCall.out _).mono ?_; rintro e w3 ⟨x0, x1, x2, x3, x4, m, rfl, ⟨rfl, rfl, rfl, rfl, rfl, rfl⟩, hb3⟩; have HB3 := Lib.hid hb3; clear hb3)
          obtain ⟨W4, hW4⟩ : ∃ W, W = w3.alloc (.cells #[.int .i64 0, .string ⟨#[]⟩, .string ⟨#[]⟩, .slice none 0 0, .slice none 0 0, .int .i64 (-1)] 40) := ⟨_, rfl⟩
          have hk4 : GlAt W4 w3.heap.size (.int .i64 0) (.string ⟨#[]⟩) (.string ⟨#[]⟩) (.slice none 0 0) (.slice none 0 0) (-1) := by rw [hW4]; exact heap_alloc_new w3 _
          have HOn4 : Hid (OnAt w fb W4 (.int .i64 K) (.string ⟨#[]⟩) (.string ⟨#[]⟩) (.slice none 0 0) v) := Lib.hid (by rw [hW4]; exact (HOn.out.go HB3.out).go (box6G _ _ _ _ _ _ _))
          rw [← hW4]
          obtain ⟨k0, k1, k2, k3, k4, k5⟩ := gl_cells hk4
          clear hk4 hW4 HOn HOf HKd
          have HOn := HOn4
          obtain ⟨c0, c1, c2, c3, c4, c5⟩ := gl_cells HOn.out.res
          obtain ⟨f0, f1, f2, f3, f4, f5⟩ := gl_frozen HOn.out.res
          obtain ⟨z0, z1, z2, z3, z4, z5⟩ := gl_cells (gl_set HOn.out.res (.int .i64 0) (.string ⟨#[]⟩) (.string ⟨#[]⟩) (.slice none 0 0) (.slice none 0 0) (-1))
          unfold set6G at z0 z1 z2 z3 z4 z5
          go_wp2
          have hbz := gl_setB HOn.out.bel (Nat.le_refl w.heap.size) (.int .i64 0) (.string ⟨#[]⟩) (.string ⟨#[]⟩) (.slice none 0 0) (.slice none 0 0) (-1)
          refine bodyPost_ret (v := .agg #[.int .i64 0, .string ⟨#[]⟩, .string ⟨#[]⟩, .slice none 0 0, .slice none 0 0, .int .i64 (-1)]) (by simp [results, Tryd.results16, go_sem, z0, z1, z2, z3, z4, z5]) rfl ⟨_, _, _, _, _, _, rfl, ?_, hbz⟩
          rw [HNo.out]
          exact ⟨rfl, rfl, rfl, rfl, rfl, rfl⟩
        | some fq =>
          obtain ⟨f, q'⟩ := fq
          have hlen := HLen.out _ _ _ ho2.symm
          have HNx : Hid (KidO (oneO d) r q' (L ++ [f])) := Lib.hid (by
            have hk := HKd.out
            rw [hdn] at hk ho2 hlen
            exact kidO_next hk ho2.symm hlen.1)
          have HLq : Hid (q'.length < (s.data.toList.drop n).length) := Lib.hid hlen.1
          have HCall := Lib.hid hcall
          obtain ⟨va, vc, hv, _⟩ := ownF_done HOf.out
          subst hv
          clear hx h4 hdn ho2 hcall hlen
          go_upto_region 39 with (go_at_call 16; refine (HCall.out _).mono ?_; rintro e w3 ⟨x0, x1, x2, x3, x4, m, rfl, ⟨k, rfl, hks, hkd, hfl⟩, hb3⟩; (obtain ⟨kk, T, X, pa, pn, pc, ka, kn, kc, e⟩ := hfl.shape); (simp only [Value.agg.injEq, Array.mk.injEq, List.cons.injEq, and_true] at e); (obtain ⟨rfl, rfl, rfl, rfl, rfl⟩ := e); have HB3 := Lib.hid hb3; have HFl := Lib.hid hfl; have HKk := Lib.hid hkd; clear hb3 hfl hkd)
          obtain ⟨W4, hW4⟩ : ∃ W, W = w3.alloc (.cells #[.int .i64 kk, .string T, .string X, .slice pa pn pc, .slice ka kn kc, .int .i64 k] 40) := ⟨_, rfl⟩
          have h34 : Below w3.heap.size w3 W4 := by rw [hW4]; exact box6G w3 _ _ _ _ _ _
          have hk4 : GlAt W4 w3.heap.size (.int .i64 kk) (.string T) (.string X) (.slice pa pn pc) (.slice ka kn kc) k := by rw [hW4]; exact heap_alloc_new w3 _
          have HOn4 : Hid (OnAt w fb W4 (.int .i64 K) (.string ⟨#[]⟩) (.string ⟨#[]⟩) (.slice none 0 0) (.slice va L.length vc)) := Lib.hid ((HOn.out.go HB3.out).go h34)
          have hof4 : OwnF (w.heap.size + 2) W4 (.slice va L.length vc) L := ownF_below (ownF_below HOf.out HB3.out) h34
          obtain ⟨C, hC⟩ : ∃ C, C = Obj.cells #[.int .i64 kk, .string T, .string X, .slice pa pn pc, .slice ka kn kc] 25 := ⟨_, rfl⟩
          have h45 : Below W4.heap.size W4 (W4.alloc C) := by rw [hC]; exact box5 W4 _ _ _ _ _
          have hown5 := ownF_below hof4 h45
          have hcc : (W4.alloc C).heap[W4.heap.size]? = some (.cells #[.int .i64 kk, .string T, .string X, .slice pa pn pc, .slice ka kn kc] 25 (0, 0)) := by rw [hC]; exact heap_alloc_new W4 _
          have hat4 := HOn4.out.at1
          have hwr : w.heap.size + 2 ≤ wr.heap.size := by have := HOn.out.lt; have := HOn.out.at1; omega
          have hf5 : IsFl (NewB (w.heap.size + 2) (W4.alloc C) (Value.ownBlock (.slice va L.length vc))) (W4.alloc C) f (.agg #[.int .i64 kk, .string T, .string X, .slice pa pn pc, .slice ka kn kc]) := by
            refine (HFl.out).imp (fun j h => ⟨?_, ?_, ?_⟩) (fun j o h => ?_)
            · exact (h45.cell (p := ⟨j, o, none⟩) (Nat.lt_of_lt_of_le h.2 h34.size)).trans (h34.cell (p := ⟨j, o, none⟩) h.2)
            · omega
            · have := h.2; have := h34.size; have := h45.size; omega
            · intro e
              obtain ⟨xs, _, ho⟩ := HOf.out
              have := (World.ownsRow.lt ho j e.symm).2
              omega
          have hB5 : w.heap.size + 2 ≤ (W4.alloc C).heap.size := by have := HB3.out.size; have := h34.size; have := h45.size; omega
          have HOn5 : Hid (OnAt w fb (W4.alloc C) (.int .i64 K) (.string ⟨#[]⟩) (.string ⟨#[]⟩) (.slice none 0 0) (.slice va L.length vc)) := Lib.hid (HOn4.out.go h45)
          have HOwn5 := Lib.hid hown5
          have HCc := Lib.hid hcc
          have HF5 := Lib.hid hf5
          have HBg5 := Lib.hid hB5
          have hl40 : L.length ≤ 1000 := by omega
          have HFb : Hid (fb < w.heap.size + 2) := Lib.hid (by omega)
          rw [hC] at HOn5 HOwn5 HCc HF5 HBg5
          rw [← hW4]
          obtain ⟨k0, k1, k2, k3, k4, k5⟩ := gl_cells hk4
          obtain ⟨c0, c1, c2, c3, c4⟩ := fl_cells HOn4.out.flt
          have HG4 := Lib.hid hk4
          have HKs := Lib.hid hks
          have HLt : Hid (n < k) := Lib.hid (by
            have h1 := HLq.out
            rw [← HKk.out, List.length_drop, List.length_drop, bytes_len] at h1
            omega)
          clear hk4 hW4 h34 h45 hC hown5 hcc hf5 hB5 hof4 hks
          have u3 : decide ((k : Int) < 0) = false := by simp
          have hbn : ∀ e, (Value.slice va L.length vc).ownBlock = some e → e < wr.heap.size := fun e h => by
            obtain ⟨xs, _, ho⟩ := HOf.out
            exact (World.ownsRow.lt ho e h).2
          have HKeep : Hid (w3.heap.size < W4.heap.size ∧ some w3.heap.size ≠ (Value.slice va L.length vc).ownBlock ∧ fb ≠ w3.heap.size ∧ w3.heap.size < (W4.alloc (Obj.cells #[.int .i64 kk, .string T, .string X, .slice pa pn pc, .slice ka kn kc] 25)).heap.size) := Lib.hid (by
            have h1 := gl_lt HG4.out
            have h2 := HB3.out.size
            refine ⟨h1, fun e => ?_, by omega, ?_⟩
            · have := hbn _ e.symm; omega
            · have := (box5 W4 (.int .i64 kk) (.string T) (.string X) (.slice pa pn pc) (.slice ka kn kc)).size; omega)
          clear hbn HOf HKd hat4 hwr
          go_wp2_with (at_builtin; refine wpList_append_F2 rfl (.tmp 185) (.tmp 188) rfl (w.heap.size + 2) W4.heap.size (.slice va L.length vc) L rfl HOwn5.out HBg5.out HF5.out HCc.out rfl hl40 ?_; intro v6 w6 hown6 hb6 hkeep; (obtain ⟨ya, yc, hv6, _⟩ := ownF_done hown6); (obtain ⟨m6, hm6⟩ : ∃ m, m = (L ++ [f]).length := ⟨_, rfl⟩); rw [← hm6] at hv6; subst hv6; clear hm6; have hfl6 : FlAt w6 fb (.int .i64 K) (.string ⟨#[]⟩) (.string ⟨#[]⟩) (.slice none 0 0) (.slice va L.length vc) := fl_below HOn5.out.flt hb6 HFb.out; have hg6 : GzAt w6 w.heap.size := gl_below HOn5.out.res hb6 (by omega); (obtain ⟨d0, d1, d2, d3, d4⟩ := fl_cells hfl6); (obtain ⟨e0, e1, e2, e3, e4⟩ := fl_frozen hfl6); have HOn6 : Hid (OnAt w fb w6 (.int .i64 K) (.string ⟨#[]⟩) (.string ⟨#[]⟩) (.slice none 0 0) (.slice va L.length vc)) := Lib.hid ⟨HOn5.out.at1, hg6, hfl6, HOn5.out.bel.trans (hb6.mono (by omega))⟩; have hk6 : GlAt w6 w3.heap.size (.int .i64 kk) (.string T) (.string X) (.slice pa pn pc) (.slice ka kn kc) k := (hkeep _ HKeep.out.2.2.2 HKeep.out.2.1).trans (((box5 W4 _ _ _ _ _).block _ HKeep.out.1).trans HG4.out); have m5 : (w6.setCell ⟨fb, 4, none⟩ (.slice ya m6 yc)).cell? ⟨w3.heap.size, 5, none⟩ = some (.int .i64 k) := (World.cell?_of_block (a := ⟨w3.heap.size, 5, none⟩) (heap_setCell_other _ _ _ _ HKeep.out.2.2.1.symm)).trans (gl_cells hk6).2.2.2.2.2; have HO6 := Lib.hid hown6; clear hown6 hb6 hfl6 hg6 hkeep hk6)
          go_roundw
          case rel => exact ⟨k, L ++ [f], _, by first | rfl | go_num, by have := HLt.out; omega, HKs.out, Lib.hid (HOn6.out.set4 _), Lib.hid (ownF_setF HO6.out HFb.out), Lib.hid (by rw [HKk.out]; exact HNx.out), by have := HLt.out; rw [List.length_append]; simp; omega⟩
          case measure => have := HLt.out; simp [intOf]; omega
      · have HSp : Hid (o = endO (.mk K [] [] [] L) (s.data.toList.drop n)) := Lib.hid (by
          rw [HO.out, kidO_end HKd.out (by
            intro e
            by_cases h : n < s.size
            · rw [drop_at s n h] at e
              simp only [List.head?_cons, Option.some.injEq] at e
              exact hgo ⟨h, e⟩
            · rw [List.drop_of_length_le (by rw [bytes_len]; omega)] at e
              cases e)])
        have HEnd := HSp
        obtain ⟨va, vc, hv, hfls⟩ := ownF_done HOf.out
        subst hv
        have HFs := Lib.hid hfls
        have HLl : Hid (L.length ≤ maxLen) := Lib.hid (by unfold maxLen; omega)
        clear HSp hfls HKd HOf
        by_cases hlt : n < s.size
        · have v1 : decide ((n : Int) < (s.size : Int)) = true := by simp; omega
          obtain ⟨x, hx⟩ : ∃ x : UInt8, x = s[n] := ⟨_, rfl⟩
          have hx' : s[n]'hlt = x := hx.symm
          have v2 : ((x.toNat : Int) == 40) = false := by
            simp
            intro e
            exact hgo ⟨hlt, by rw [hx']; exact UInt8.toNat_inj.1 (by rw [show x.toNat = 40 from by omega]; rfl)⟩
          clear hx hgo
          go_upto_region 43 with (fail)
          clear v1 v2 hx'
          by_cases hend : n < s.size
          · have u1 : decide ((s.size : Int) ≤ (n : Int)) = false := by simp; omega
            obtain ⟨q, hq⟩ : ∃ q : UInt8, q = s[n] := ⟨_, rfl⟩
            have hq' : s[n]'hend = q := hq.symm
            have hql := q.toNat_lt
            have hdn := drop_at s n hend
            rw [hq'] at hdn
            by_cases h41 : q.toNat = 41
            · have u2 : ((q.toNat : Int) != 41) = false := by simp [h41]
              have hqe : q = 41 := UInt8.toNat_inj.1 h41
              have HSay : Hid (o = some (.mk K [] [] [] L, s.data.toList.drop (n + 1))) := Lib.hid (by rw [HEnd.out, hdn, hqe]; exact endO_one _ _)
              have en : IntKind.i64.wrap ((n : Int) + 1) = (n : Int) + 1 := IntWalk.i64_in _ (by omega)
              obtain ⟨c0, c1, c2, c3, c4, c5⟩ := gl_cells HOn.out.res
              obtain ⟨f0, f1, f2, f3, f4, f5⟩ := gl_frozen HOn.out.res
              obtain ⟨e0, e1, e2, e3, e4⟩ := fl_cells HOn.out.flt
              clear hdn hq h41 hqe
              go_wp2
              obtain ⟨z0, z1, z2, z3, z4, z5⟩ := gl_cells (gl_set HOn.out.res (.int .i64 K) (.string ⟨#[]⟩) (.string ⟨#[]⟩) (.slice none 0 0) (.slice va L.length vc) ((n : Int) + 1))
              unfold set6G at z0 z1 z2 z3 z4 z5
              have hbz := gl_setB HOn.out.bel (Nat.le_refl w.heap.size) (.int .i64 K) (.string ⟨#[]⟩) (.string ⟨#[]⟩) (.slice none 0 0) (.slice va L.length vc) ((n : Int) + 1)
              refine bodyPost_ret (v := .agg #[(.int .i64 K), (.string ⟨#[]⟩), (.string ⟨#[]⟩), (.slice none 0 0), (.slice va L.length vc), .int .i64 ((n : Int) + 1)]) (by simp [results, Tryd.results16, go_sem, z0, z1, z2, z3, z4, z5]) rfl ⟨_, _, _, _, _, _, rfl, ?_, hbz⟩
              rw [HSay.out]
              refine ⟨n + 1, by push_cast; rfl, hend, rfl, ?_⟩
              have hto : IsTo (fun b => w.heap.size ≤ b ∧ b < (set6G wr w.heap.size (.int .i64 K) (.string ⟨#[]⟩) (.string ⟨#[]⟩) (.slice none 0 0) (.slice va L.length vc) ((n : Int) + 1)).heap.size) (set6G wr w.heap.size (.int .i64 K) (.string ⟨#[]⟩) (.string ⟨#[]⟩) (.slice none 0 0) (.slice va L.length vc) ((n : Int) + 1)) [] (.slice none 0 0) := ⟨none, 0, rfl, Nat.zero_le _, fun j h => absurd h (Nat.not_lt_zero _)⟩
              refine ⟨.slice none 0 0, va, vc, rfl, HKw.out, Nat.zero_le _, Nat.zero_le _, hto, HLl.out, ?_⟩
              refine HFs.out.imp (fun b hb => ⟨?_, ?_⟩) (fun b k hb => gl_setC ?_)
              all_goals first | (simpa [World.size_setCell] using hb.2) | omega
            · have u2 : ((q.toNat : Int) != 41) = true := by simp; omega
              have HSay : Hid (o = none) := Lib.hid (by rw [HEnd.out, hdn]; exact endO_not _ _ (fun e => h41 (by rw [e]; rfl)))
              clear hdn hq h41
              obtain ⟨c0, c1, c2, c3, c4, c5⟩ := gl_cells HOn.out.res
              obtain ⟨f0, f1, f2, f3, f4, f5⟩ := gl_frozen HOn.out.res
              obtain ⟨z0, z1, z2, z3, z4, z5⟩ := gl_cells (gl_set HOn.out.res (.int .i64 0) (.string ⟨#[]⟩) (.string ⟨#[]⟩) (.slice none 0 0) (.slice none 0 0) (-1))
              unfold set6G at z0 z1 z2 z3 z4 z5
              go_wp2
              have hbz := gl_setB HOn.out.bel (Nat.le_refl w.heap.size) (.int .i64 0) (.string ⟨#[]⟩) (.string ⟨#[]⟩) (.slice none 0 0) (.slice none 0 0) (-1)
              refine bodyPost_ret (v := .agg #[.int .i64 0, .string ⟨#[]⟩, .string ⟨#[]⟩, .slice none 0 0, .slice none 0 0, .int .i64 (-1)]) (by simp [results, Tryd.results16, go_sem, z0, z1, z2, z3, z4, z5]) rfl ⟨_, _, _, _, _, _, rfl, ?_, hbz⟩
              rw [HSay.out]
              exact ⟨rfl, rfl, rfl, rfl, rfl, rfl⟩
          · exact absurd hlt hend
        · have v1 : decide ((n : Int) < (s.size : Int)) = false := by simp; omega
          have u1 : decide ((s.size : Int) ≤ (n : Int)) = true := by simp; omega
          have HNo : Hid (o = none) := Lib.hid (by rw [HEnd.out, List.drop_of_length_le (by rw [bytes_len]; omega)]; exact endO_nil _)
          clear hgo
          obtain ⟨c0, c1, c2, c3, c4, c5⟩ := gl_cells HOn.out.res
          obtain ⟨f0, f1, f2, f3, f4, f5⟩ := gl_frozen HOn.out.res
          obtain ⟨z0, z1, z2, z3, z4, z5⟩ := gl_cells (gl_set HOn.out.res (.int .i64 0) (.string ⟨#[]⟩) (.string ⟨#[]⟩) (.slice none 0 0) (.slice none 0 0) (-1))
          unfold set6G at z0 z1 z2 z3 z4 z5
          go_wp2
          have hbz := gl_setB HOn.out.bel (Nat.le_refl w.heap.size) (.int .i64 0) (.string ⟨#[]⟩) (.string ⟨#[]⟩) (.slice none 0 0) (.slice none 0 0) (-1)
          refine bodyPost_ret (v := .agg #[.int .i64 0, .string ⟨#[]⟩, .string ⟨#[]⟩, .slice none 0 0, .slice none 0 0, .int .i64 (-1)]) (by simp [results, Tryd.results16, go_sem, z0, z1, z2, z3, z4, z5]) rfl ⟨_, _, _, _, _, _, rfl, ?_, hbz⟩
          rw [HNo.out]
          exact ⟨rfl, rfl, rfl, rfl, rfl, rfl⟩
end Go.Proofs.YtmpicolplknomaaDoor

/- The document's one at each depth, and its ParseFilter: the walks. -/
namespace Go.Proofs.YtmpicolplknomaaDoor
open Go.RowKit
set_option linter.unusedVariables false
set_option linter.unusedSimpArgs false

theorem ones_all : ∀ d : Nat, d ≤ 100 → OnesR d
  | 0, hd, s, at', w, hs, ha => by
    rw [oneO_zero]
    exact oneNone s (by omega) at' _ (by omega) (.inr (.inr rfl)) ha w
  | d + 1, hd, s, at', w, hs, ha => by
    have ih := ones_all d (by omega)
    rw [show ((d + 1 : Nat) : Int) - 1 = (d : Int) from by omega]
    by_cases h1 : at' + 1 < s.size
    · have hl : at' < s.size := by omega
      by_cases h40 : s[at'] = 40
      · by_cases hc : s[at' + 1] = 38 ∨ s[at' + 1] = 124 ∨ s[at' + 1] = 33
        · exact oneHold d (by omega) ih s hs at' h1 h40 hc w
        · exact oneLeaf d (by omega) s (by omega) at' h1 h40 ⟨fun h => hc (.inl h), fun h => hc (.inr (.inl h)), fun h => hc (.inr (.inr h))⟩ w
      · rw [drop_at s at' hl, oneO_not _ _ h40]
        exact oneNone s (by omega) at' _ (by omega) (.inr (.inl ⟨hl, h40⟩)) ha w
    · rw [oneO_short (d + 1) (by rw [List.length_drop, bytes_len]; omega)]
      exact oneNone s (by omega) at' _ (by omega) (.inl (by omega)) ha w

/-- What ParseFilter answers. -/
def GotV (B : Nat) (W : World) (o : Option FT) (x0 x1 x2 x3 x4 : Value) (b : Bool) : Prop := match o with
  | none => x0 = .int .i64 0 ∧ x1 = .string ⟨#[]⟩ ∧ x2 = .string ⟨#[]⟩ ∧ x3 = .slice none 0 0 ∧ x4 = .slice none 0 0 ∧ b = false
  | some f => IsFl (fun k => B ≤ k ∧ k < W.heap.size) W f (.agg #[x0, x1, x2, x3, x4]) ∧ b = true
abbrev zQ : Obj := .cells #[.int .i64 0, .string ⟨#[]⟩, .string ⟨#[]⟩, .slice none 0 0, .slice none 0 0, .bool false] 31
abbrev QlAt (W : World) (b : Nat) (x0 x1 x2 x3 x4 : Value) (c : Bool) : Prop := W.heap[b]? = some (.cells #[x0, x1, x2, x3, x4, .bool c] 31 (0, 0))
def set6Q (W : World) (b : Nat) (x0 x1 x2 x3 x4 : Value) (c : Bool) : World := (((((W.setCell ⟨b, 0, none⟩ x0).setCell ⟨b, 1, none⟩ x1).setCell ⟨b, 2, none⟩ x2).setCell ⟨b, 3, none⟩ x3).setCell ⟨b, 4, none⟩ x4).setCell ⟨b, 5, none⟩ (.bool c)
theorem ql_lt {W : World} {b : Nat} {x0 x1 x2 x3 x4 : Value} {c : Bool} (h : QlAt W b x0 x1 x2 x3 x4 c) : b < W.heap.size := (Array.getElem?_eq_some_iff.1 h).1
theorem ql_below {W W' : World} {b m : Nat} {x0 x1 x2 x3 x4 : Value} {c : Bool} (h : QlAt W b x0 x1 x2 x3 x4 c) (hb : Below m W W') (hn : b < m) : QlAt W' b x0 x1 x2 x3 x4 c := (hb.block b hn).trans h
theorem ql_cells {W : World} {b : Nat} {x0 x1 x2 x3 x4 : Value} {c : Bool} (h : QlAt W b x0 x1 x2 x3 x4 c) : W.cell? ⟨b, 0, none⟩ = some x0 ∧ W.cell? ⟨b, 1, none⟩ = some x1 ∧ W.cell? ⟨b, 2, none⟩ = some x2 ∧ W.cell? ⟨b, 3, none⟩ = some x3 ∧ W.cell? ⟨b, 4, none⟩ = some x4 ∧ W.cell? ⟨b, 5, none⟩ = some (.bool c) := by
  have h' : W.heap[b]? = some (.cells #[x0, x1, x2, x3, x4, .bool c] 31 (0, 0)) := h
  refine ⟨?_, ?_, ?_, ?_, ?_, ?_⟩ <;> simp [World.cell?, h']
theorem ql_frozen {W : World} {b : Nat} {x0 x1 x2 x3 x4 : Value} {c : Bool} (h : QlAt W b x0 x1 x2 x3 x4 c) : W.frozen? ⟨b, 0, none⟩ = false ∧ W.frozen? ⟨b, 1, none⟩ = false ∧ W.frozen? ⟨b, 2, none⟩ = false ∧ W.frozen? ⟨b, 3, none⟩ = false ∧ W.frozen? ⟨b, 4, none⟩ = false ∧ W.frozen? ⟨b, 5, none⟩ = false := by
  have h' : W.heap[b]? = some (.cells #[x0, x1, x2, x3, x4, .bool c] 31 (0, 0)) := h
  refine ⟨?_, ?_, ?_, ?_, ?_, ?_⟩ <;> simp [World.frozen?, h']
theorem ql_set {W : World} {b : Nat} {y0 y1 y2 y3 y4 : Value} {d : Bool} (h : QlAt W b y0 y1 y2 y3 y4 d) (x0 x1 x2 x3 x4 : Value) (c : Bool) : QlAt (set6Q W b x0 x1 x2 x3 x4 c) b x0 x1 x2 x3 x4 c := by
  have h' : W.heap[b]? = some (.cells #[y0, y1, y2, y3, y4, .bool d] 31 (0, 0)) := h
  show (set6Q W b x0 x1 x2 x3 x4 c).heap[b]? = _
  simp [set6Q, World.setCell, Array.getElem?_modify, h']
theorem ql_setB {W W0 : World} {b m : Nat} (h : Below m W0 W) (hn : m ≤ b) (x0 x1 x2 x3 x4 : Value) (c : Bool) : Below m W0 (set6Q W b x0 x1 x2 x3 x4 c) :=
  (((((h.setCell (p := ⟨b, 0, none⟩) hn x0).setCell (p := ⟨b, 1, none⟩) hn x1).setCell (p := ⟨b, 2, none⟩) hn x2).setCell (p := ⟨b, 3, none⟩) hn x3).setCell (p := ⟨b, 4, none⟩) hn x4).setCell (p := ⟨b, 5, none⟩) hn (.bool c)
theorem ql_setC {W : World} {b k o : Nat} {x0 x1 x2 x3 x4 : Value} {c : Bool} (h : k ≠ b) : (set6Q W b x0 x1 x2 x3 x4 c).cell? ⟨k, o, none⟩ = W.cell? ⟨k, o, none⟩ := by
  unfold World.cell? set6Q
  rw [blockFl_ne _ ⟨b, 5, none⟩ _ h, blockFl_ne _ ⟨b, 4, none⟩ _ h, blockFl_ne _ ⟨b, 3, none⟩ _ h, blockFl_ne _ ⟨b, 2, none⟩ _ h, blockFl_ne _ ⟨b, 1, none⟩ _ h, blockFl_ne _ ⟨b, 0, none⟩ _ h]
theorem box6Q (w : World) (x0 x1 x2 x3 x4 : Value) (c : Bool) : Below w.heap.size w (w.alloc (.cells #[x0, x1, x2, x3, x4, .bool c] 31)) := (Below.refl _ _).alloc (Nat.le_refl _) _
theorem isFl_zero (ok : Nat → Prop) (w : World) : IsFl ok w (.mk 0 [] [] [] []) (.agg #[.int .i64 0, .string ⟨#[]⟩, .string ⟨#[]⟩, .slice none 0 0, .slice none 0 0]) :=
  ⟨.slice none 0 0, none, 0, rfl, by decide, Nat.zero_le _, Nat.zero_le _, ⟨none, 0, rfl, Nat.zero_le _, fun j h => absurd h (Nat.not_lt_zero _)⟩, Nat.zero_le _, trivial⟩
/-- What the document's reading says of a text. -/
theorem gotO_none {s : List UInt8} (h : oneO 13 s = none) : gotO s = none := by unfold gotO; rw [h]
theorem gotO_more {s r : List UInt8} {f : FT} (h : oneO 13 s = some (f, r)) (hr : r ≠ []) : gotO s = none := by
  unfold gotO
  rw [h]
  cases r with
  | nil => exact absurd rfl hr
  | cons c r => rfl
theorem gotO_all {s : List UInt8} {f : FT} (h : oneO 13 s = some (f, [])) : gotO s = if textTop f = s then (if s = [] then none else some f) else none := by
  unfold gotO textTop
  rw [h]
  by_cases hm : mayF 13 f = true
  · rw [if_pos hm]
    by_cases ht : textF f = s
    · obtain ⟨r, hr⟩ := textF_cons f
      have : s ≠ [] := by rw [← ht, hr]; simp
      simp [hm, ht, this]
    · simp [hm, ht]
  · rw [if_neg hm]
    by_cases hs : s = []
    · subst hs; cases h
    · have : ¬ ([] : List UInt8) = s := fun e => hs e.symm
      simp [hm, this]
end Go.Proofs.YtmpicolplknomaaDoor
