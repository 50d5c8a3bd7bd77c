/- The maker's next: the walk. -/
import Derived.Test.YtngbpegjoihajaaGreatDoorEnNorm
namespace Go.Proofs.YtngbpegjoihajaaGreatDoor
open Go.RowKit
set_option linter.unusedVariables false

theorem nextAt_of {W : World} {mb b p : Nat} {v : Value} {X : ByteArray} {x : Value} {j : Nat} (hb : b < mb) (c0 : W.cell? ⟨mb, 0, none⟩ = some v) (c1 : W.cell? ⟨mb, 1, none⟩ = some (.int .i64 j)) (cz : W.frozen? ⟨mb, 1, none⟩ = false)
    (e0 : W.cell? ⟨b, p, none⟩ = some (.string X)) (e1 : W.cell? ⟨b, p + 1, none⟩ = some x) :
    ∀ w5, w5 = W.drew.setCell ⟨mb, 1, none⟩ (.int .i64 ((j : Int) + 1)) → w5.cell? ⟨b, p, none⟩ = some (.string X) ∧ w5.cell? ⟨b, p + 1, none⟩ = some x ∧ w5.cell? ⟨mb, 0, none⟩ = some v ∧ w5.cell? ⟨mb, 1, none⟩ = some (.int .i64 ((j : Int) + 1)) ∧ w5.frozen? ⟨mb, 1, none⟩ = false := by
  intro w5 hw5
  subst hw5
  refine ⟨?_, ?_, ?_, ?_, ?_⟩
  · rw [World.cell?_setCell_other _ _ _ _ (fun e => by have := congrArg Addr.block e; simp at this; omega)]; exact e0
  · rw [World.cell?_setCell_other _ _ _ _ (fun e => by have := congrArg Addr.block e; simp at this; omega)]; exact e1
  · rw [World.cell?_setCell_other _ _ _ _ (fun e => by have := congrArg Addr.off e; simp at this)]; exact c0
  · exact World.cell?_setCell_same _ _ _ c1
  · exact (World.frozen?_setCell ..).trans cz
theorem behind_of {w5 : World} {b p : Nat} {X : ByteArray} {x : Value} (hb : b < w5.heap.size) (e0 : w5.cell? ⟨b, p, none⟩ = some (.string X)) (e1 : w5.cell? ⟨b, p + 1, none⟩ = some x) (o : Obj) :
    (w5.alloc o).cell? ⟨b, p, none⟩ = some (.string X) ∧ (w5.alloc o).cell? ⟨b, p + 1, none⟩ = some x :=
  ⟨(World.cell?_alloc_lt _ _ _ hb).trans e0, (World.cell?_alloc_lt _ _ _ hb).trans e1⟩
theorem ahead_of {W : World} {mb : Nat} (hm : mb < W.heap.size) (y : Value) (w5 : World) (hw5 : w5 = (W.alloc (.cells #[.string ⟨#[]⟩, .slice none 0 0] 42)).drew.setCell ⟨mb, 1, none⟩ y) :
    w5.cell? ⟨W.heap.size, 0, none⟩ = some (.string ⟨#[]⟩) ∧ w5.cell? ⟨W.heap.size, 1, none⟩ = some (.slice none 0 0) ∧ w5.frozen? ⟨W.heap.size, 0, none⟩ = false ∧ w5.frozen? ⟨W.heap.size, 1, none⟩ = false := by
  subst hw5
  have h : (W.alloc (.cells #[.string ⟨#[]⟩, .slice none 0 0] 42)).drew.heap[W.heap.size]? = some (.cells #[.string ⟨#[]⟩, .slice none 0 0] 42 (0, 0)) := heap_alloc_new W _
  refine ⟨?_, ?_, ?_, ?_⟩
  · rw [World.cell?_setCell_other _ _ _ _ (fun e => by have := congrArg Addr.block e; simp at this; omega)]; simp only [World.cell?, h]; rfl
  · rw [World.cell?_setCell_other _ _ _ _ (fun e => by have := congrArg Addr.block e; simp at this; omega)]; simp only [World.cell?, h]; rfl
  · rw [World.frozen?_setCell]; simp only [World.frozen?, h]; rfl
  · rw [World.frozen?_setCell]; simp only [World.frozen?, h]; rfl
theorem size_of {W w5 : World} {a : Addr} {y : Value} (h : w5 = W.setCell a y) : w5.heap.size = W.heap.size := by subst h; simp [World.setCell]
def Tail (w w6 : World) (mb T : Nat) (v : Value) (j : Nat) (X : ByteArray) (x : Value) : Prop :=
  w.grownBy w6 (some mb) ∧ w6.cell? ⟨T, 0, none⟩ = some (.string X) ∧ w6.cell? ⟨T, 1, none⟩ = some x ∧ w6.cell? ⟨w.heap.size, 0, none⟩ = some (.string ⟨#[]⟩) ∧ w6.cell? ⟨w.heap.size, 1, none⟩ = some (.slice none 0 0) ∧ w6.frozen? ⟨w.heap.size, 0, none⟩ = false ∧ w6.frozen? ⟨w.heap.size, 1, none⟩ = false ∧
  w6.cell? ⟨mb, 0, none⟩ = some v ∧ w6.cell? ⟨mb, 1, none⟩ = some (.int .i64 ((j : Int) + 1)) ∧ w6.frozen? ⟨mb, 1, none⟩ = false ∧ T < w6.heap.size ∧ w.heap.size < w6.heap.size ∧ T ≠ w.heap.size ∧ T ≠ mb
theorem heap_set_other (w : World) (a : Addr) (x : Value) (k : Nat) (h : k ≠ a.block) : (w.setCell a x).heap[k]? = w.heap[k]? := by
  unfold World.setCell; simp [Array.getElem?_modify, Ne.symm h]
theorem Tail.go {w w6 w7 : World} {mb T : Nat} {v : Value} {j : Nat} {X : ByteArray} {x : Value} (hm : mb < w.heap.size) (h : Tail w w6 mb T v j X x) (hb : Below w6.heap.size w6 w7) : Tail w w7 mb T v j X x := by
  obtain ⟨h1, h2, h3, h4, h5, h6, h7, h8, h9, h10, h11, h12, h13, h14⟩ := h
  have hm6 : mb < w6.heap.size := Nat.lt_trans hm h12
  exact ⟨⟨hb.os.trans h1.os, hb.tape.trans h1.tape, hb.output.trans h1.output, Nat.le_trans h1.size hb.size, fun k hk hne => (hb.block k (Nat.lt_of_lt_of_le hk h1.size)).trans (h1.block k hk hne)⟩,
    (hb.cell (p := ⟨T, 0, none⟩) h11).trans h2, (hb.cell (p := ⟨T, 1, none⟩) h11).trans h3, (hb.cell (p := ⟨w.heap.size, 0, none⟩) h12).trans h4, (hb.cell (p := ⟨w.heap.size, 1, none⟩) h12).trans h5,
    (hb.frozen (p := ⟨w.heap.size, 0, none⟩) h12).trans h6, (hb.frozen (p := ⟨w.heap.size, 1, none⟩) h12).trans h7, (hb.cell (p := ⟨mb, 0, none⟩) hm6).trans h8, (hb.cell (p := ⟨mb, 1, none⟩) hm6).trans h9, (hb.frozen (p := ⟨mb, 1, none⟩) hm6).trans h10,
    Nat.lt_of_lt_of_le h11 hb.size, Nat.lt_of_lt_of_le h12 hb.size, h13, h14⟩
theorem Tail.grown {w w6 : World} {mb T : Nat} {v : Value} {j : Nat} {X : ByteArray} {x : Value} (h : Tail w w6 mb T v j X x) : w.grownBy w6 (some mb) := h.1
theorem Tail.rsz {w w6 : World} {mb T : Nat} {v : Value} {j : Nat} {X : ByteArray} {x : Value} (h : Tail w w6 mb T v j X x) : w.heap.size < w6.heap.size := by
  obtain ⟨h1, h2, h3, h4, h5, h6, h7, h8, h9, h10, h11, h12, h13, h14⟩ := h; exact h12
theorem isT_grown {mb : Nat} {w w7 : World} {A : List (List UInt8)} {x : Value} (h : IsT mb w A x) (hm : mb < w.heap.size) (hg : w.grownBy w7 (some mb)) : IsT w7.heap.size w7 A x := by
  obtain ⟨a, c, hv, hml, hc⟩ := h
  refine ⟨a, c, hv, hml, fun j hj => ?_⟩
  obtain ⟨b, off, ha, hb, h0⟩ := hc j hj
  have := hg.block b (by omega) (by intro e; have := Option.some.inj e; omega)
  exact ⟨b, off, ha, by have := hg.size; omega, by simp only [World.cell?, this]; exact h0⟩
/-- The result's box is filled. -/
theorem Tail.fin {w w8 : World} {mb T : Nat} {v : Value} {j : Nat} {X : ByteArray} {x : Value} (hm : mb < w.heap.size) (h : Tail w w8 mb T v j X x) (N : ByteArray) (u : Value) :
    w.grownBy ((w8.setCell ⟨w.heap.size, 0, none⟩ (.string N)).setCell ⟨w.heap.size, 1, none⟩ u) (some mb) ∧ ((w8.setCell ⟨w.heap.size, 0, none⟩ (.string N)).setCell ⟨w.heap.size, 1, none⟩ u).cell? ⟨mb, 0, none⟩ = some v ∧ ((w8.setCell ⟨w.heap.size, 0, none⟩ (.string N)).setCell ⟨w.heap.size, 1, none⟩ u).cell? ⟨mb, 1, none⟩ = some (.int .i64 (j + 1 : Nat)) ∧ ((w8.setCell ⟨w.heap.size, 0, none⟩ (.string N)).setCell ⟨w.heap.size, 1, none⟩ u).frozen? ⟨mb, 1, none⟩ = false ∧
    (∀ b o, b ≠ w.heap.size → ((w8.setCell ⟨w.heap.size, 0, none⟩ (.string N)).setCell ⟨w.heap.size, 1, none⟩ u).cell? ⟨b, o, none⟩ = w8.cell? ⟨b, o, none⟩) := by
  obtain ⟨h1, h2, h3, h4, h5, h6, h7, h8, h9, h10, h11, h12, h13, h14⟩ := h
  have oth : ∀ b o, b ≠ w.heap.size → ((w8.setCell ⟨w.heap.size, 0, none⟩ (.string N)).setCell ⟨w.heap.size, 1, none⟩ u).cell? ⟨b, o, none⟩ = w8.cell? ⟨b, o, none⟩ := fun b o hb => by
    rw [World.cell?_setCell_other _ _ _ _ (fun e => by have := congrArg Addr.block e; simp at this; omega), World.cell?_setCell_other _ _ _ _ (fun e => by have := congrArg Addr.block e; simp at this; omega)]
  refine ⟨⟨h1.os, h1.tape, h1.output, by simp [World.setCell]; exact h1.size, fun k hk hne => ?_⟩, (oth _ _ (by omega)).trans h8, (oth _ _ (by omega)).trans h9, by rw [World.frozen?_setCell, World.frozen?_setCell]; exact h10, oth⟩
  rw [heap_set_other _ _ _ k (show k ≠ w.heap.size by omega), heap_set_other _ _ _ k (show k ≠ w.heap.size by omega)]; exact h1.block k hk hne
theorem tail5 {w W1 W w5 : World} {mb : Nat} {v : Value} {j : Nat} (hm : mb < w.heap.size) (hW1 : W1 = w.alloc (.cells #[.string ⟨#[]⟩, .slice none 0 0] 42)) (hW : Below W1.heap.size W1 W) (hw5 : w5 = W.drew.setCell ⟨mb, 1, none⟩ (.int .i64 ((j : Int) + 1)))
    (f2 : w5.cell? ⟨mb, 0, none⟩ = some v) (f3 : w5.cell? ⟨mb, 1, none⟩ = some (.int .i64 ((j : Int) + 1))) (f4 : w5.frozen? ⟨mb, 1, none⟩ = false) :
    w.grownBy w5 (some mb) ∧ w5.cell? ⟨w.heap.size, 0, none⟩ = some (.string ⟨#[]⟩) ∧ w5.cell? ⟨w.heap.size, 1, none⟩ = some (.slice none 0 0) ∧ w5.frozen? ⟨w.heap.size, 0, none⟩ = false ∧ w5.frozen? ⟨w.heap.size, 1, none⟩ = false ∧ w.heap.size < w5.heap.size := by
  have s1 : W1.heap.size = w.heap.size + 1 := by rw [hW1]; simp
  have s5 : w5.heap.size = W.heap.size := size_of (W := W.drew) hw5
  have hz := hW.size
  have h0 : W1.heap[w.heap.size]? = some (.cells #[.string ⟨#[]⟩, .slice none 0 0] 42 (0, 0)) := by rw [hW1]; exact heap_alloc_new w _
  have hblk : ∀ k, k ≠ mb → w5.heap[k]? = W.heap[k]? := fun k hk => by rw [hw5]; exact heap_set_other _ _ _ k hk
  have h5 : w5.heap[w.heap.size]? = some (.cells #[.string ⟨#[]⟩, .slice none 0 0] 42 (0, 0)) := by rw [hblk _ (by omega), hW.block _ (by omega), h0]
  refine ⟨⟨?_, ?_, ?_, by omega, fun k hk hne => ?_⟩, by simp only [World.cell?, h5]; rfl, by simp only [World.cell?, h5]; rfl, by simp only [World.frozen?, h5]; rfl, by simp only [World.frozen?, h5]; rfl, by omega⟩
  · have h := hW.os; rw [hW1] at h; rw [hw5]; exact h
  · have h := hW.tape; rw [hW1] at h; rw [hw5]; exact h
  · have h := hW.output; rw [hW1] at h; rw [hw5]; exact h
  · have hkm : k ≠ mb := fun e => hne (by rw [e])
    rw [hblk k hkm, hW.block _ (by omega), hW1, heap_alloc_old _ _ hk]
theorem tailA {w W1 w5 : World} {mb : Nat} {v : Value} {j : Nat} (hm : mb < w.heap.size) (hW1 : W1 = w.alloc (.cells #[.string ⟨#[]⟩, .slice none 0 0] 42)) (hw5 : w5 = W1.drew.setCell ⟨mb, 1, none⟩ (.int .i64 ((j : Int) + 1)))
    (f2 : w5.cell? ⟨mb, 0, none⟩ = some v) (f3 : w5.cell? ⟨mb, 1, none⟩ = some (.int .i64 ((j : Int) + 1))) (f4 : w5.frozen? ⟨mb, 1, none⟩ = false) (X : ByteArray) (x : Value) : Tail w (w5.alloc (.cells #[.string X, x] 42)) mb w5.heap.size v j X x := by
  obtain ⟨h1, h2, h3, h4, h5, h6⟩ := tail5 hm hW1 (Below.refl _ _) hw5 f2 f3 f4
  have hb : Below w5.heap.size w5 (w5.alloc (.cells #[.string X, x] 42)) := (Below.refl _ _).alloc (Nat.le_refl _) _
  have hm5 : mb < w5.heap.size := by omega
  exact ⟨⟨hb.os.trans h1.os, hb.tape.trans h1.tape, hb.output.trans h1.output, Nat.le_trans h1.size hb.size, fun k hk hne => (hb.block k (Nat.lt_of_lt_of_le hk h1.size)).trans (h1.block k hk hne)⟩, by simp, by simp, (hb.cell (p := ⟨w.heap.size, 0, none⟩) h6).trans h2, (hb.cell (p := ⟨w.heap.size, 1, none⟩) h6).trans h3, (hb.frozen (p := ⟨w.heap.size, 0, none⟩) h6).trans h4, (hb.frozen (p := ⟨w.heap.size, 1, none⟩) h6).trans h5,
    (hb.cell (p := ⟨mb, 0, none⟩) hm5).trans f2, (hb.cell (p := ⟨mb, 1, none⟩) hm5).trans f3, (hb.frozen (p := ⟨mb, 1, none⟩) hm5).trans f4, by simp, by simp; omega, by omega, by omega⟩
theorem tailB {w W1 w5 : World} {mb : Nat} {v : Value} {j : Nat} (hm : mb < w.heap.size) (hW1 : W1 = w.alloc (.cells #[.string ⟨#[]⟩, .slice none 0 0] 42)) (hw5 : w5 = (W1.alloc (.cells #[.string ⟨#[]⟩, .slice none 0 0] 42)).drew.setCell ⟨mb, 1, none⟩ (.int .i64 ((j : Int) + 1)))
    (f2 : w5.cell? ⟨mb, 0, none⟩ = some v) (f3 : w5.cell? ⟨mb, 1, none⟩ = some (.int .i64 ((j : Int) + 1))) (f4 : w5.frozen? ⟨mb, 1, none⟩ = false) (p0 : w5.cell? ⟨W1.heap.size, 0, none⟩ = some (.string ⟨#[]⟩)) (p1 : w5.cell? ⟨W1.heap.size, 1, none⟩ = some (.slice none 0 0)) (X : ByteArray) (x : Value) :
    Tail w ((w5.setCell ⟨W1.heap.size, 0, none⟩ (.string X)).setCell ⟨W1.heap.size, 1, none⟩ x) mb W1.heap.size v j X x := by
  obtain ⟨h1, h2, h3, h4, h5, h6⟩ := tail5 hm hW1 ((Below.refl _ _).alloc (Nat.le_refl _) _) hw5 f2 f3 f4
  have s1 : W1.heap.size = w.heap.size + 1 := by rw [hW1]; simp
  have s5 : w5.heap.size = W1.heap.size + 1 := by rw [size_of hw5]; simp
  obtain ⟨T, hT⟩ : ∃ T, T = W1.heap.size := ⟨_, rfl⟩
  rw [← hT] at s1 s5 p0 p1 ⊢
  have oth : ∀ b o, b ≠ T → ((w5.setCell ⟨T, 0, none⟩ (.string X)).setCell ⟨T, 1, none⟩ x).cell? ⟨b, o, none⟩ = w5.cell? ⟨b, o, none⟩ := fun b o hb => by
    rw [World.cell?_setCell_other _ _ _ _ (fun e => by have := congrArg Addr.block e; simp at this; omega), World.cell?_setCell_other _ _ _ _ (fun e => by have := congrArg Addr.block e; simp at this; omega)]
  refine ⟨⟨h1.os, h1.tape, h1.output, by simp [World.setCell]; exact h1.size, fun k hk hne => ?_⟩, ?_, ?_, (oth _ _ (by omega)).trans h2, (oth _ _ (by omega)).trans h3, by rw [World.frozen?_setCell, World.frozen?_setCell]; exact h4, by rw [World.frozen?_setCell, World.frozen?_setCell]; exact h5, (oth _ _ (by omega)).trans f2, (oth _ _ (by omega)).trans f3, by rw [World.frozen?_setCell, World.frozen?_setCell]; exact f4, by simp [World.setCell]; omega, by simp [World.setCell]; omega, by omega, by omega⟩
  · rw [heap_set_other _ _ _ k (show k ≠ T by omega), heap_set_other _ _ _ k (show k ≠ T by omega)]; exact h1.block k hk hne
  · rw [World.cell?_setCell_other _ _ _ _ (fun e => by have := congrArg Addr.off e; simp at this)]; exact World.cell?_setCell_same _ _ _ p0
  · exact World.cell?_setCell_same _ _ _ ((World.cell?_setCell_other _ _ _ _ (fun e => by have := congrArg Addr.off e; simp at this)).trans p1)
set_option maxRecDepth 100000 in
set_option maxHeartbeats 4000000 in
theorem next_any (L : List AT) (hs : smallA L) (mb j : Nat) (v : Value) (w : World) (hm : mb < w.heap.size) (hL : IsA mb w L v) (hj : j < L.length) (h0 : w.cell? ⟨mb, 0, none⟩ = some v) (h1 : w.cell? ⟨mb, 1, none⟩ = some (.int .i64 j)) (hz : w.frozen? ⟨mb, 1, none⟩ = false) :
    Calls Tryz.prog 54 #[.pointer (some ⟨mb, 0, none⟩)] w fun e w' => ∃ u, e = .returned (.agg #[.string (ofL (nameA L[j].1)), u]) ∧ IsTo (fun b => w.heap.size ≤ b ∧ b < w'.heap.size) w' L[j].2 u ∧ w.grownBy w' (some mb) ∧ w'.cell? ⟨mb, 0, none⟩ = some v ∧ w'.cell? ⟨mb, 1, none⟩ = some (.int .i64 (j + 1 : Nat)) ∧ w'.frozen? ⟨mb, 1, none⟩ = false := by
  obtain ⟨sa, sc, rfl, hml, hcell⟩ := hL
  obtain ⟨b, off, x, rfl, hb0, x0, x1, hx⟩ := hcell j hj
  obtain ⟨xa, xn, xc, rfl⟩ := (show ∃ a k c, x = .slice a k c from by obtain ⟨a, c, hv, _⟩ := hx; exact ⟨a, _, c, hv⟩)
  unfold maxLen at hml
  obtain ⟨X, hX⟩ : ∃ X : ByteArray, ofL L[j].1 = X := ⟨_, rfl⟩
  have gX : X.data.toList = L[j].1 := by rw [← hX, ofL_list]
  have d0 : w.cell? ⟨b, off + j * 2, none⟩ = some (.string X) := by rw [x0, ← hX]; rfl
  have hXs : X.size ≤ 281474976710656 := by
    have := (hs.2 L[j] (List.getElem_mem _)).1
    rw [← bytes_len, gX]; omega
  obtain ⟨n, hn⟩ : ∃ n, n = L.length := ⟨_, rfl⟩
  rw [← hn] at h0 hml
  have HX := Lib.hid hx
  have hsT := (hs.2 L[j] (List.getElem_mem _)).2
  have hl5 : n ≤ 1000 := by rw [hn]; exact hs.1
  have hjn : j < n := by omega
  have HT := Lib.hid (fun w => typeName_any X hXs w)
  have HGX := Lib.hid gX
  have HST := Lib.hid hsT
  have HN := Lib.hid hn
  have q1 : (j : Int) < (n : Int) := by omega
  have q2 : (0 : Int) ≤ (j : Int) := by omega
  have q3 : IntKind.i64.wrap ((j : Int) + 1 - 1) = (j : Int) := by rw [IntKind.wrap_i64]; omega
  have q4 : (j : Int) + 1 - 1 = (j : Int) := by omega
  have q5 : IntKind.i64.wrap (j : Int) = (j : Int) := by rw [IntKind.wrap_i64]; omega
  have HAdd := Lib.hid (fun w h hz => add_any mb 1 (j : Int) (by omega) (by omega) w h hz)
  clear hcell hs hX gX x0 hx hsT hn hXs
  go_enter Tryz.func54, Tryz.ntmps54
  go_wp2
  obtain ⟨W1, hW1⟩ : ∃ W1, W1 = w.alloc (.cells #[.string ⟨#[]⟩, .slice none 0 0] 42) := ⟨_, rfl⟩
  have hW1b : Below w.heap.size w W1 := by rw [hW1]; exact (Below.refl _ _).alloc (Nat.le_refl _) _
  have c0 := (hW1b.cell (p := ⟨mb, 0, none⟩) hm).trans h0
  have c1 := (hW1b.cell (p := ⟨mb, 1, none⟩) hm).trans h1
  have cz := (hW1b.frozen (p := ⟨mb, 1, none⟩) hm).trans hz
  have hbw : b < w.heap.size := Nat.lt_trans hb0 hm
  have e0 := (hW1b.cell (p := ⟨b, off + j * 2, none⟩) hbw).trans d0
  have e1 := (hW1b.cell (p := ⟨b, off + j * 2 + 1, none⟩) hbw).trans x1
  rw [← hW1]
  have HW1 := Lib.hid hW1
  have HW1b := Lib.hid hW1b
  clear hW1 hW1b h0 h1 hz d0 x1
  obtain ⟨W2, hW2⟩ : ∃ W2, W2 = W1.alloc (.cells #[.string ⟨#[]⟩, .slice none 0 0] 42) := ⟨_, rfl⟩
  have hm1 : mb < W1.heap.size := Nat.lt_of_lt_of_le hm HW1b.out.size
  have hb1 : b < W1.heap.size := Nat.lt_of_lt_of_le hbw HW1b.out.size
  have hW2b : Below W1.heap.size W1 W2 := by rw [hW2]; exact (Below.refl _ _).alloc (Nat.le_refl _) _
  have HD := Lib.hid (nextAt_of (W := W1) (mb := mb) (b := b) (p := off + j * 2) hb0 c0 c1 cz e0 e1)
  have HE := Lib.hid (nextAt_of (W := W2) (mb := mb) (b := b) (p := off + j * 2) hb0 ((hW2b.cell (p := ⟨mb, 0, none⟩) hm1).trans c0) ((hW2b.cell (p := ⟨mb, 1, none⟩) hm1).trans c1) ((hW2b.frozen (p := ⟨mb, 1, none⟩) hm1).trans cz) ((hW2b.cell (p := ⟨b, off + j * 2, none⟩) hb1).trans e0) ((hW2b.cell (p := ⟨b, off + j * 2 + 1, none⟩) hb1).trans e1))
  have C1 : Hid (W1.drew.cell? ⟨mb, 1, none⟩ = some (.int .i64 (j : Int)) ∧ W1.drew.frozen? ⟨mb, 1, none⟩ = false) := Lib.hid ⟨c1, cz⟩
  have C2 : Hid ((W1.alloc (.cells #[.string ⟨#[]⟩, .slice none 0 0] 42)).drew.cell? ⟨mb, 1, none⟩ = some (.int .i64 (j : Int)) ∧ (W1.alloc (.cells #[.string ⟨#[]⟩, .slice none 0 0] 42)).drew.frozen? ⟨mb, 1, none⟩ = false) := Lib.hid (by rw [← hW2]; exact ⟨(hW2b.cell (p := ⟨mb, 1, none⟩) hm1).trans c1, (hW2b.frozen (p := ⟨mb, 1, none⟩) hm1).trans cz⟩)
  have c0a : (W1.alloc (.cells #[.string ⟨#[]⟩, .slice none 0 0] 42)).cell? ⟨mb, 0, none⟩ = some (.slice (some ⟨b, off, none⟩) n sc) := by rw [← hW2]; exact (hW2b.cell (p := ⟨mb, 0, none⟩) hm1).trans c0
  have HW2 := Lib.hid hW2
  clear hW2 hW2b
  go_region_law (go_simp; go_at_call 97; first
    | ((with_reducible refine (HAdd.out W1.drew C1.out.1 C1.out.2).mono ?_); rintro e w5 ⟨rfl, hw5⟩; (obtain ⟨f0, f1, f2, f3, f4⟩ := HD.out w5 hw5); (obtain ⟨g0, g1⟩ := behind_of (by rw [size_of hw5]; exact hb1) f0 f1 (.cells #[.string ⟨#[]⟩, .slice none 0 0] 42)); have g2 := (World.cell?_alloc_lt w5 (.cells #[.string ⟨#[]⟩, .slice none 0 0] 42) ⟨mb, 0, none⟩ (show mb < w5.heap.size by rw [size_of hw5]; exact hm1)).trans f2; have HW5 := Lib.hid hw5; clear hw5)
    | (((with_reducible refine (HAdd.out ((W1.alloc (.cells #[.string ⟨#[]⟩, .slice none 0 0] 42)).drew) C2.out.1 C2.out.2).mono ?_)); rintro e w5 ⟨rfl, hw5⟩; (obtain ⟨f0, f1, f2, f3, f4⟩ := HE.out w5 (by rw [HW2.out]; exact hw5)); (obtain ⟨p0, p1, p2, p3⟩ := ahead_of hm1 _ w5 hw5); have HW5 := Lib.hid hw5; clear hw5))
  all_goals
    first
      | (have htl := tailA hm HW1.out HW5.out f2 f3 f4 X (.slice xa xn xc)
         obtain ⟨w6, hw6⟩ : ∃ w6, w6 = w5.alloc (.cells #[.string X, .slice xa xn xc] 42) := ⟨_, rfl⟩
         rw [← hw6] at htl ⊢
         generalize w5.heap.size = T at htl ⊢
         clear hw6)
      | (have htl := tailB hm HW1.out HW5.out f2 f3 f4 p0 p1 X (.slice xa xn xc)
         obtain ⟨w6, hw6⟩ : ∃ w6, w6 = (w5.setCell ⟨W1.heap.size, 0, none⟩ (.string X)).setCell ⟨W1.heap.size, 1, none⟩ (.slice xa xn xc) := ⟨_, rfl⟩
         rw [← hw6] at htl ⊢
         generalize W1.heap.size = T at htl ⊢
         clear hw6)
    have HTl := Lib.hid htl
    obtain ⟨_, k0, k1, _⟩ := htl
    clear f0 f1 f2 f3 f4 c0 c1 cz e0 e1 c0a
    have hdr : Below w6.heap.size w6 w6.drew := ⟨rfl, rfl, rfl, Nat.le_refl _, fun _ _ => rfl⟩
    have HTd := Lib.hid (HTl.out.go hm hdr)
    clear hdr
    go_simp
    go_wp2
    go_region_law (first
      | (go_simp; go_at_call 68; ((with_reducible refine (HT.out _).mono ?_); rintro e w7 ⟨rfl, hb7⟩; have HT7 := Lib.hid (HTd.out.go hm hb7); (obtain ⟨_, _, m1, _⟩ := HT7.out); clear hb7))
      | (go_simp; go_at_call 59; ((with_reducible refine (copyVals_any _ HST.out _ _ (isT_grown HX.out hm HT7.out.grown)).mono ?_); rintro e w8 ⟨u8, rfl, hu8, hb8⟩; have HU8 := Lib.hid (ownS_isTo hu8 (by have := HST.out.1; unfold maxLen; omega)); have HT8 := Lib.hid (HT7.out.go hm hb8); (obtain ⟨_, _, _, r0, r1, r2, r3, _⟩ := HT8.out); have hz7 : w.heap.size < w7.heap.size := HT7.out.rsz; (obtain ⟨ya, yc, rfl⟩ := ownS_slice hu8); clear hu8 hb8)))
    all_goals
      go_simp
      go_wp2
      obtain ⟨hg, hc0, hc1, hcz, hoth⟩ := HT8.out.fin hm (ofL (nameA X.data.toList)) (.slice ya L[j].2.length yc)
      refine bodyPost_ret (v := .agg #[.string (ofL (nameA X.data.toList)), .slice ya L[j].2.length yc]) (by simp [results, Tryz.results54, go_sem, r0, r1]) rfl ⟨_, by rw [HGX.out], HU8.out.imp (fun b hb => ⟨by have := hb.1; omega, by simp [World.setCell]; exact hb.2⟩) (fun b o hb => hoth b o (by have := hb.1; omega)), hg, by rw [← HN.out]; exact hc0, hc1, hcz⟩
end Go.Proofs.YtngbpegjoihajaaGreatDoor
