/- Several texts in one file: EnNext, EnNormW, EnSrtP, RegInv, RegDet, EnSrtW, EnNrmW, MaUp, ScPer, MaAwake, MaCasesW, ScFst. -/
import Derived.Test.YtncnlbmdkognnaaGreatDoorEnhP1
import Derived.RegionTactic
import Derived.RowKit
import Derived.Test.YtncnlbmdkognnaaGreatDoorEnOwn
import Derived.Laws.OwnMore
import Derived.Deep.Cut
import Derived.Deep.RegionLaw
import Derived.Test.YtncnlbmdkognnaaGreatDoorDnLow
import Derived.Test.YtncnlbmdkognnaaGreatDoorOfL
import Derived.Test.YtncnlbmdkognnaaGreatDoorMaPure
import Derived.Test.YtncnlbmdkognnaaGreatDoorScCheck
import Derived.Test.YtncnlbmdkognnaaGreatDoorMaSame
namespace Go.Proofs.YtncnlbmdkognnaaGreatDoor
open Go.RowKit
set_option linter.unusedVariables false

theorem nextAt_of {W : World} {mb b p : Nat} {v : Value} {X : ByteArray} {x : Value} {j : Nat} (hb : b < mb) (c0 : W.cell? ⟨mb, 0, none⟩ = some v) (c1 : W.cell? ⟨mb, 1, none⟩ = some (.int .i64 j)) (cz : W.frozen? ⟨mb, 1, none⟩ = false)
    (e0 : W.cell? ⟨b, p, none⟩ = some (.string X)) (e1 : W.cell? ⟨b, p + 1, none⟩ = some x) :
    ∀ w5, w5 = W.drew.setCell ⟨mb, 1, none⟩ (.int .i64 ((j : Int) + 1)) → w5.cell? ⟨b, p, none⟩ = some (.string X) ∧ w5.cell? ⟨b, p + 1, none⟩ = some x ∧ w5.cell? ⟨mb, 0, none⟩ = some v ∧ w5.cell? ⟨mb, 1, none⟩ = some (.int .i64 ((j : Int) + 1)) ∧ w5.frozen? ⟨mb, 1, none⟩ = false := by
  intro w5 hw5
  subst hw5
  refine ⟨?_, ?_, ?_, ?_, ?_⟩
  · rw [World.cell?_setCell_other _ _ _ _ (fun e => by have := congrArg Addr.block e; simp at this; omega)]; exact e0
  · rw [World.cell?_setCell_other _ _ _ _ (fun e => by have := congrArg Addr.block e; simp at this; omega)]; exact e1
  · rw [World.cell?_setCell_other _ _ _ _ (fun e => by have := congrArg Addr.off e; simp at this)]; exact c0
  · exact World.cell?_setCell_same _ _ _ c1
  · exact (World.frozen?_setCell ..).trans cz
theorem behind_of {w5 : World} {b p : Nat} {X : ByteArray} {x : Value} (hb : b < w5.heap.size) (e0 : w5.cell? ⟨b, p, none⟩ = some (.string X)) (e1 : w5.cell? ⟨b, p + 1, none⟩ = some x) (o : Obj) :
    (w5.alloc o).cell? ⟨b, p, none⟩ = some (.string X) ∧ (w5.alloc o).cell? ⟨b, p + 1, none⟩ = some x :=
  ⟨(World.cell?_alloc_lt _ _ _ hb).trans e0, (World.cell?_alloc_lt _ _ _ hb).trans e1⟩
theorem ahead_of {W : World} {mb : Nat} (hm : mb < W.heap.size) (y : Value) (w5 : World) (hw5 : w5 = (W.alloc (.cells #[.string ⟨#[]⟩, .slice none 0 0] 40)).drew.setCell ⟨mb, 1, none⟩ y) :
    w5.cell? ⟨W.heap.size, 0, none⟩ = some (.string ⟨#[]⟩) ∧ w5.cell? ⟨W.heap.size, 1, none⟩ = some (.slice none 0 0) ∧ w5.frozen? ⟨W.heap.size, 0, none⟩ = false ∧ w5.frozen? ⟨W.heap.size, 1, none⟩ = false := by
  subst hw5
  have h : (W.alloc (.cells #[.string ⟨#[]⟩, .slice none 0 0] 40)).drew.heap[W.heap.size]? = some (.cells #[.string ⟨#[]⟩, .slice none 0 0] 40 (0, 0)) := heap_alloc_new W _
  refine ⟨?_, ?_, ?_, ?_⟩
  · rw [World.cell?_setCell_other _ _ _ _ (fun e => by have := congrArg Addr.block e; simp at this; omega)]; simp only [World.cell?, h]; rfl
  · rw [World.cell?_setCell_other _ _ _ _ (fun e => by have := congrArg Addr.block e; simp at this; omega)]; simp only [World.cell?, h]; rfl
  · rw [World.frozen?_setCell]; simp only [World.frozen?, h]; rfl
  · rw [World.frozen?_setCell]; simp only [World.frozen?, h]; rfl
theorem size_of {W w5 : World} {a : Addr} {y : Value} (h : w5 = W.setCell a y) : w5.heap.size = W.heap.size := by subst h; simp [World.setCell]
def Tail (w w6 : World) (mb T : Nat) (v : Value) (j : Nat) (X : ByteArray) (x : Value) : Prop :=
  w.grownBy w6 (some mb) ∧ w6.cell? ⟨T, 0, none⟩ = some (.string X) ∧ w6.cell? ⟨T, 1, none⟩ = some x ∧ w6.cell? ⟨w.heap.size, 0, none⟩ = some (.string ⟨#[]⟩) ∧ w6.cell? ⟨w.heap.size, 1, none⟩ = some (.slice none 0 0) ∧ w6.frozen? ⟨w.heap.size, 0, none⟩ = false ∧ w6.frozen? ⟨w.heap.size, 1, none⟩ = false ∧
  w6.cell? ⟨mb, 0, none⟩ = some v ∧ w6.cell? ⟨mb, 1, none⟩ = some (.int .i64 ((j : Int) + 1)) ∧ w6.frozen? ⟨mb, 1, none⟩ = false ∧ T < w6.heap.size ∧ w.heap.size < w6.heap.size ∧ T ≠ w.heap.size ∧ T ≠ mb
theorem heap_set_other (w : World) (a : Addr) (x : Value) (k : Nat) (h : k ≠ a.block) : (w.setCell a x).heap[k]? = w.heap[k]? := by
  unfold World.setCell; simp [Array.getElem?_modify, Ne.symm h]
theorem Tail.go {w w6 w7 : World} {mb T : Nat} {v : Value} {j : Nat} {X : ByteArray} {x : Value} (hm : mb < w.heap.size) (h : Tail w w6 mb T v j X x) (hb : Below w6.heap.size w6 w7) : Tail w w7 mb T v j X x := by
  obtain ⟨h1, h2, h3, h4, h5, h6, h7, h8, h9, h10, h11, h12, h13, h14⟩ := h
  have hm6 : mb < w6.heap.size := Nat.lt_trans hm h12
  exact ⟨⟨hb.os.trans h1.os, hb.tape.trans h1.tape, hb.output.trans h1.output, Nat.le_trans h1.size hb.size, fun k hk hne => (hb.block k (Nat.lt_of_lt_of_le hk h1.size)).trans (h1.block k hk hne)⟩,
    (hb.cell (p := ⟨T, 0, none⟩) h11).trans h2, (hb.cell (p := ⟨T, 1, none⟩) h11).trans h3, (hb.cell (p := ⟨w.heap.size, 0, none⟩) h12).trans h4, (hb.cell (p := ⟨w.heap.size, 1, none⟩) h12).trans h5,
    (hb.frozen (p := ⟨w.heap.size, 0, none⟩) h12).trans h6, (hb.frozen (p := ⟨w.heap.size, 1, none⟩) h12).trans h7, (hb.cell (p := ⟨mb, 0, none⟩) hm6).trans h8, (hb.cell (p := ⟨mb, 1, none⟩) hm6).trans h9, (hb.frozen (p := ⟨mb, 1, none⟩) hm6).trans h10,
    Nat.lt_of_lt_of_le h11 hb.size, Nat.lt_of_lt_of_le h12 hb.size, h13, h14⟩
theorem Tail.grown {w w6 : World} {mb T : Nat} {v : Value} {j : Nat} {X : ByteArray} {x : Value} (h : Tail w w6 mb T v j X x) : w.grownBy w6 (some mb) := h.1
theorem Tail.rsz {w w6 : World} {mb T : Nat} {v : Value} {j : Nat} {X : ByteArray} {x : Value} (h : Tail w w6 mb T v j X x) : w.heap.size < w6.heap.size := by
  obtain ⟨h1, h2, h3, h4, h5, h6, h7, h8, h9, h10, h11, h12, h13, h14⟩ := h; exact h12
theorem isT_grown {mb : Nat} {w w7 : World} {A : List (List UInt8)} {x : Value} (h : IsT mb w A x) (hm : mb < w.heap.size) (hg : w.grownBy w7 (some mb)) : IsT w7.heap.size w7 A x := by
  obtain ⟨a, c, hv, hml, hc⟩ := h
  refine ⟨a, c, hv, hml, fun j hj => ?_⟩
  obtain ⟨b, off, ha, hb, h0⟩ := hc j hj
  have := hg.block b (by omega) (by intro e; have := Option.some.inj e; omega)
  exact ⟨b, off, ha, by have := hg.size; omega, by simp only [World.cell?, this]; exact h0⟩
theorem Tail.fin {w w8 : World} {mb T : Nat} {v : Value} {j : Nat} {X : ByteArray} {x : Value} (hm : mb < w.heap.size) (h : Tail w w8 mb T v j X x) (N : ByteArray) (u : Value) :
    w.grownBy ((w8.setCell ⟨w.heap.size, 0, none⟩ (.string N)).setCell ⟨w.heap.size, 1, none⟩ u) (some mb) ∧ ((w8.setCell ⟨w.heap.size, 0, none⟩ (.string N)).setCell ⟨w.heap.size, 1, none⟩ u).cell? ⟨mb, 0, none⟩ = some v ∧ ((w8.setCell ⟨w.heap.size, 0, none⟩ (.string N)).setCell ⟨w.heap.size, 1, none⟩ u).cell? ⟨mb, 1, none⟩ = some (.int .i64 (j + 1 : Nat)) ∧ ((w8.setCell ⟨w.heap.size, 0, none⟩ (.string N)).setCell ⟨w.heap.size, 1, none⟩ u).frozen? ⟨mb, 1, none⟩ = false ∧
    (∀ b o, b ≠ w.heap.size → ((w8.setCell ⟨w.heap.size, 0, none⟩ (.string N)).setCell ⟨w.heap.size, 1, none⟩ u).cell? ⟨b, o, none⟩ = w8.cell? ⟨b, o, none⟩) := by
  obtain ⟨h1, h2, h3, h4, h5, h6, h7, h8, h9, h10, h11, h12, h13, h14⟩ := h
  have oth : ∀ b o, b ≠ w.heap.size → ((w8.setCell ⟨w.heap.size, 0, none⟩ (.string N)).setCell ⟨w.heap.size, 1, none⟩ u).cell? ⟨b, o, none⟩ = w8.cell? ⟨b, o, none⟩ := fun b o hb => by
    rw [World.cell?_setCell_other _ _ _ _ (fun e => by have := congrArg Addr.block e; simp at this; omega), World.cell?_setCell_other _ _ _ _ (fun e => by have := congrArg Addr.block e; simp at this; omega)]
  refine ⟨⟨h1.os, h1.tape, h1.output, by simp [World.setCell]; exact h1.size, fun k hk hne => ?_⟩, (oth _ _ (by omega)).trans h8, (oth _ _ (by omega)).trans h9, by rw [World.frozen?_setCell, World.frozen?_setCell]; exact h10, oth⟩
  rw [heap_set_other _ _ _ k (show k ≠ w.heap.size by omega), heap_set_other _ _ _ k (show k ≠ w.heap.size by omega)]; exact h1.block k hk hne
theorem tail5 {w W1 W w5 : World} {mb : Nat} {v : Value} {j : Nat} (hm : mb < w.heap.size) (hW1 : W1 = w.alloc (.cells #[.string ⟨#[]⟩, .slice none 0 0] 40)) (hW : Below W1.heap.size W1 W) (hw5 : w5 = W.drew.setCell ⟨mb, 1, none⟩ (.int .i64 ((j : Int) + 1)))
    (f2 : w5.cell? ⟨mb, 0, none⟩ = some v) (f3 : w5.cell? ⟨mb, 1, none⟩ = some (.int .i64 ((j : Int) + 1))) (f4 : w5.frozen? ⟨mb, 1, none⟩ = false) :
    w.grownBy w5 (some mb) ∧ w5.cell? ⟨w.heap.size, 0, none⟩ = some (.string ⟨#[]⟩) ∧ w5.cell? ⟨w.heap.size, 1, none⟩ = some (.slice none 0 0) ∧ w5.frozen? ⟨w.heap.size, 0, none⟩ = false ∧ w5.frozen? ⟨w.heap.size, 1, none⟩ = false ∧ w.heap.size < w5.heap.size := by
  have s1 : W1.heap.size = w.heap.size + 1 := by rw [hW1]; simp
  have s5 : w5.heap.size = W.heap.size := size_of (W := W.drew) hw5
  have hz := hW.size
  have h0 : W1.heap[w.heap.size]? = some (.cells #[.string ⟨#[]⟩, .slice none 0 0] 40 (0, 0)) := by rw [hW1]; exact heap_alloc_new w _
  have hblk : ∀ k, k ≠ mb → w5.heap[k]? = W.heap[k]? := fun k hk => by rw [hw5]; exact heap_set_other _ _ _ k hk
  have h5 : w5.heap[w.heap.size]? = some (.cells #[.string ⟨#[]⟩, .slice none 0 0] 40 (0, 0)) := by rw [hblk _ (by omega), hW.block _ (by omega), h0]
  refine ⟨⟨?_, ?_, ?_, by omega, fun k hk hne => ?_⟩, by simp only [World.cell?, h5]; rfl, by simp only [World.cell?, h5]; rfl, by simp only [World.frozen?, h5]; rfl, by simp only [World.frozen?, h5]; rfl, by omega⟩
  · have h := hW.os; rw [hW1] at h; rw [hw5]; exact h
  · have h := hW.tape; rw [hW1] at h; rw [hw5]; exact h
  · have h := hW.output; rw [hW1] at h; rw [hw5]; exact h
  · have hkm : k ≠ mb := fun e => hne (by rw [e])
    rw [hblk k hkm, hW.block _ (by omega), hW1, heap_alloc_old _ _ hk]
theorem tailA {w W1 w5 : World} {mb : Nat} {v : Value} {j : Nat} (hm : mb < w.heap.size) (hW1 : W1 = w.alloc (.cells #[.string ⟨#[]⟩, .slice none 0 0] 40)) (hw5 : w5 = W1.drew.setCell ⟨mb, 1, none⟩ (.int .i64 ((j : Int) + 1)))
    (f2 : w5.cell? ⟨mb, 0, none⟩ = some v) (f3 : w5.cell? ⟨mb, 1, none⟩ = some (.int .i64 ((j : Int) + 1))) (f4 : w5.frozen? ⟨mb, 1, none⟩ = false) (X : ByteArray) (x : Value) : Tail w (w5.alloc (.cells #[.string X, x] 40)) mb w5.heap.size v j X x := by
  obtain ⟨h1, h2, h3, h4, h5, h6⟩ := tail5 hm hW1 (Below.refl _ _) hw5 f2 f3 f4
  have hb : Below w5.heap.size w5 (w5.alloc (.cells #[.string X, x] 40)) := (Below.refl _ _).alloc (Nat.le_refl _) _
  have hm5 : mb < w5.heap.size := by omega
  exact ⟨⟨hb.os.trans h1.os, hb.tape.trans h1.tape, hb.output.trans h1.output, Nat.le_trans h1.size hb.size, fun k hk hne => (hb.block k (Nat.lt_of_lt_of_le hk h1.size)).trans (h1.block k hk hne)⟩, by simp, by simp, (hb.cell (p := ⟨w.heap.size, 0, none⟩) h6).trans h2, (hb.cell (p := ⟨w.heap.size, 1, none⟩) h6).trans h3, (hb.frozen (p := ⟨w.heap.size, 0, none⟩) h6).trans h4, (hb.frozen (p := ⟨w.heap.size, 1, none⟩) h6).trans h5,
    (hb.cell (p := ⟨mb, 0, none⟩) hm5).trans f2, (hb.cell (p := ⟨mb, 1, none⟩) hm5).trans f3, (hb.frozen (p := ⟨mb, 1, none⟩) hm5).trans f4, by simp, by simp; omega, by omega, by omega⟩
theorem tailB {w W1 w5 : World} {mb : Nat} {v : Value} {j : Nat} (hm : mb < w.heap.size) (hW1 : W1 = w.alloc (.cells #[.string ⟨#[]⟩, .slice none 0 0] 40)) (hw5 : w5 = (W1.alloc (.cells #[.string ⟨#[]⟩, .slice none 0 0] 40)).drew.setCell ⟨mb, 1, none⟩ (.int .i64 ((j : Int) + 1)))
    (f2 : w5.cell? ⟨mb, 0, none⟩ = some v) (f3 : w5.cell? ⟨mb, 1, none⟩ = some (.int .i64 ((j : Int) + 1))) (f4 : w5.frozen? ⟨mb, 1, none⟩ = false) (p0 : w5.cell? ⟨W1.heap.size, 0, none⟩ = some (.string ⟨#[]⟩)) (p1 : w5.cell? ⟨W1.heap.size, 1, none⟩ = some (.slice none 0 0)) (X : ByteArray) (x : Value) :
    Tail w ((w5.setCell ⟨W1.heap.size, 0, none⟩ (.string X)).setCell ⟨W1.heap.size, 1, none⟩ x) mb W1.heap.size v j X x := by
  obtain ⟨h1, h2, h3, h4, h5, h6⟩ := tail5 hm hW1 ((Below.refl _ _).alloc (Nat.le_refl _) _) hw5 f2 f3 f4
  have s1 : W1.heap.size = w.heap.size + 1 := by rw [hW1]; simp
  have s5 : w5.heap.size = W1.heap.size + 1 := by rw [size_of hw5]; simp
  obtain ⟨T, hT⟩ : ∃ T, T = W1.heap.size := ⟨_, rfl⟩
  rw [← hT] at s1 s5 p0 p1 ⊢
  have oth : ∀ b o, b ≠ T → ((w5.setCell ⟨T, 0, none⟩ (.string X)).setCell ⟨T, 1, none⟩ x).cell? ⟨b, o, none⟩ = w5.cell? ⟨b, o, none⟩ := fun b o hb => by
    rw [World.cell?_setCell_other _ _ _ _ (fun e => by have := congrArg Addr.block e; simp at this; omega), World.cell?_setCell_other _ _ _ _ (fun e => by have := congrArg Addr.block e; simp at this; omega)]
  refine ⟨⟨h1.os, h1.tape, h1.output, by simp [World.setCell]; exact h1.size, fun k hk hne => ?_⟩, ?_, ?_, (oth _ _ (by omega)).trans h2, (oth _ _ (by omega)).trans h3, by rw [World.frozen?_setCell, World.frozen?_setCell]; exact h4, by rw [World.frozen?_setCell, World.frozen?_setCell]; exact h5, (oth _ _ (by omega)).trans f2, (oth _ _ (by omega)).trans f3, by rw [World.frozen?_setCell, World.frozen?_setCell]; exact f4, by simp [World.setCell]; omega, by simp [World.setCell]; omega, by omega, by omega⟩
  · rw [heap_set_other _ _ _ k (show k ≠ T by omega), heap_set_other _ _ _ k (show k ≠ T by omega)]; exact h1.block k hk hne
  · rw [World.cell?_setCell_other _ _ _ _ (fun e => by have := congrArg Addr.off e; simp at this)]; exact World.cell?_setCell_same _ _ _ p0
  · exact World.cell?_setCell_same _ _ _ ((World.cell?_setCell_other _ _ _ _ (fun e => by have := congrArg Addr.off e; simp at this)).trans p1)
set_option maxRecDepth 100000 in
set_option maxHeartbeats 4000000 in
theorem next_any (L : List AT) (hs : smallA L) (mb j : Nat) (v : Value) (w : World) (hm : mb < w.heap.size) (hL : IsA mb w L v) (hj : j < L.length) (h0 : w.cell? ⟨mb, 0, none⟩ = some v) (h1 : w.cell? ⟨mb, 1, none⟩ = some (.int .i64 j)) (hz : w.frozen? ⟨mb, 1, none⟩ = false) :
    Calls Tryz.prog 24 #[.pointer (some ⟨mb, 0, none⟩)] w fun e w' => ∃ u, e = .returned (.agg #[.string (ofL (nameA L[j].1)), u]) ∧ IsTo (fun b => w.heap.size ≤ b ∧ b < w'.heap.size) w' L[j].2 u ∧ w.grownBy w' (some mb) ∧ w'.cell? ⟨mb, 0, none⟩ = some v ∧ w'.cell? ⟨mb, 1, none⟩ = some (.int .i64 (j + 1 : Nat)) ∧ w'.frozen? ⟨mb, 1, none⟩ = false := by
  obtain ⟨sa, sc, rfl, hml, hcell⟩ := hL
  obtain ⟨b, off, x, rfl, hb0, x0, x1, hx⟩ := hcell j hj
  obtain ⟨xa, xn, xc, rfl⟩ := (show ∃ a k c, x = .slice a k c from by obtain ⟨a, c, hv, _⟩ := hx; exact ⟨a, _, c, hv⟩)
  unfold maxLen at hml
  obtain ⟨X, hX⟩ : ∃ X : ByteArray, ofL L[j].1 = X := ⟨_, rfl⟩
  have gX : X.data.toList = L[j].1 := by rw [← hX, ofL_list]
  have d0 : w.cell? ⟨b, off + j * 2, none⟩ = some (.string X) := by rw [x0, ← hX]; rfl
  have hXs : X.size ≤ 281474976710656 := by
    have := (hs.2 L[j] (List.getElem_mem _)).1
    rw [← bytes_len, gX]; omega
  obtain ⟨n, hn⟩ : ∃ n, n = L.length := ⟨_, rfl⟩
  rw [← hn] at h0 hml
  have HX := Lib.hid hx
  have hsT := (hs.2 L[j] (List.getElem_mem _)).2
  have hl5 : n ≤ 1000 := by rw [hn]; exact hs.1
  have hjn : j < n := by omega
  have HT := Lib.hid (fun w => typeName_any X hXs w)
  have HGX := Lib.hid gX
  have HST := Lib.hid hsT
  have HN := Lib.hid hn
  have q1 : (j : Int) < (n : Int) := by omega
  have q2 : (0 : Int) ≤ (j : Int) := by omega
  have q3 : IntKind.i64.wrap ((j : Int) + 1 - 1) = (j : Int) := by rw [IntKind.wrap_i64]; omega
  have q4 : (j : Int) + 1 - 1 = (j : Int) := by omega
  have q5 : IntKind.i64.wrap (j : Int) = (j : Int) := by rw [IntKind.wrap_i64]; omega
  have HAdd := Lib.hid (fun w h hz => add_any mb 1 (j : Int) (by omega) (by omega) w h hz)
  clear hcell hs hX gX x0 hx hsT hn hXs
  go_enter Tryz.func24, Tryz.ntmps24
  go_wp2
  obtain ⟨W1, hW1⟩ : ∃ W1, W1 = w.alloc (.cells #[.string ⟨#[]⟩, .slice none 0 0] 40) := ⟨_, rfl⟩
  have hW1b : Below w.heap.size w W1 := by rw [hW1]; exact (Below.refl _ _).alloc (Nat.le_refl _) _
  have c0 := (hW1b.cell (p := ⟨mb, 0, none⟩) hm).trans h0
  have c1 := (hW1b.cell (p := ⟨mb, 1, none⟩) hm).trans h1
  have cz := (hW1b.frozen (p := ⟨mb, 1, none⟩) hm).trans hz
  have hbw : b < w.heap.size := Nat.lt_trans hb0 hm
  have e0 := (hW1b.cell (p := ⟨b, off + j * 2, none⟩) hbw).trans d0
  have e1 := (hW1b.cell (p := ⟨b, off + j * 2 + 1, none⟩) hbw).trans x1
  rw [← hW1]
  have HW1 := Lib.hid hW1
  have HW1b := Lib.hid hW1b
  clear hW1 hW1b h0 h1 hz d0 x1
  obtain ⟨W2, hW2⟩ : ∃ W2, W2 = W1.alloc (.cells #[.string ⟨#[]⟩, .slice none 0 0] 40) := ⟨_, rfl⟩
  have hm1 : mb < W1.heap.size := Nat.lt_of_lt_of_le hm HW1b.out.size
  have hb1 : b < W1.heap.size := Nat.lt_of_lt_of_le hbw HW1b.out.size
  have hW2b : Below W1.heap.size W1 W2 := by rw [hW2]; exact (Below.refl _ _).alloc (Nat.le_refl _) _
  have HD := Lib.hid (nextAt_of (W := W1) (mb := mb) (b := b) (p := off + j * 2) hb0 c0 c1 cz e0 e1)
  have HE := Lib.hid (nextAt_of (W := W2) (mb := mb) (b := b) (p := off + j * 2) hb0 ((hW2b.cell (p := ⟨mb, 0, none⟩) hm1).trans c0) ((hW2b.cell (p := ⟨mb, 1, none⟩) hm1).trans c1) ((hW2b.frozen (p := ⟨mb, 1, none⟩) hm1).trans cz) ((hW2b.cell (p := ⟨b, off + j * 2, none⟩) hb1).trans e0) ((hW2b.cell (p := ⟨b, off + j * 2 + 1, none⟩) hb1).trans e1))
  have C1 : Hid (W1.drew.cell? ⟨mb, 1, none⟩ = some (.int .i64 (j : Int)) ∧ W1.drew.frozen? ⟨mb, 1, none⟩ = false) := Lib.hid ⟨c1, cz⟩
  have C2 : Hid ((W1.alloc (.cells #[.string ⟨#[]⟩, .slice none 0 0] 40)).drew.cell? ⟨mb, 1, none⟩ = some (.int .i64 (j : Int)) ∧ (W1.alloc (.cells #[.string ⟨#[]⟩, .slice none 0 0] 40)).drew.frozen? ⟨mb, 1, none⟩ = false) := Lib.hid (by rw [← hW2]; exact ⟨(hW2b.cell (p := ⟨mb, 1, none⟩) hm1).trans c1, (hW2b.frozen (p := ⟨mb, 1, none⟩) hm1).trans cz⟩)
  have c0a : (W1.alloc (.cells #[.string ⟨#[]⟩, .slice none 0 0] 40)).cell? ⟨mb, 0, none⟩ = some (.slice (some ⟨b, off, none⟩) n sc) := by rw [← hW2]; exact (hW2b.cell (p := ⟨mb, 0, none⟩) hm1).trans c0
  have HW2 := Lib.hid hW2
  clear hW2 hW2b
  go_region_law (go_simp; go_at_call 47; first
    | ((with_reducible refine (HAdd.out W1.drew C1.out.1 C1.out.2).mono ?_); rintro e w5 ⟨rfl, hw5⟩; (obtain ⟨f0, f1, f2, f3, f4⟩ := HD.out w5 hw5); (obtain ⟨g0, g1⟩ := behind_of (by rw [size_of hw5]; exact hb1) f0 f1 (.cells #[.string ⟨#[]⟩, .slice none 0 0] 40)); have g2 := (World.cell?_alloc_lt w5 (.cells #[.string ⟨#[]⟩, .slice none 0 0] 40) ⟨mb, 0, none⟩ (show mb < w5.heap.size by rw [size_of hw5]; exact hm1)).trans f2; have HW5 := Lib.hid hw5; clear hw5)
    | (((with_reducible refine (HAdd.out ((W1.alloc (.cells #[.string ⟨#[]⟩, .slice none 0 0] 40)).drew) C2.out.1 C2.out.2).mono ?_)); rintro e w5 ⟨rfl, hw5⟩; (obtain ⟨f0, f1, f2, f3, f4⟩ := HE.out w5 (by rw [HW2.out]; exact hw5)); (obtain ⟨p0, p1, p2, p3⟩ := ahead_of hm1 _ w5 hw5); have HW5 := Lib.hid hw5; clear hw5))
  all_goals
    first
      | (have htl := tailA hm HW1.out HW5.out f2 f3 f4 X (.slice xa xn xc)
         obtain ⟨w6, hw6⟩ : ∃ w6, w6 = w5.alloc (.cells #[.string X, .slice xa xn xc] 40) := ⟨_, rfl⟩
         rw [← hw6] at htl ⊢
         generalize w5.heap.size = T at htl ⊢
         clear hw6)
      | (have htl := tailB hm HW1.out HW5.out f2 f3 f4 p0 p1 X (.slice xa xn xc)
         obtain ⟨w6, hw6⟩ : ∃ w6, w6 = (w5.setCell ⟨W1.heap.size, 0, none⟩ (.string X)).setCell ⟨W1.heap.size, 1, none⟩ (.slice xa xn xc) := ⟨_, rfl⟩
         rw [← hw6] at htl ⊢
         generalize W1.heap.size = T at htl ⊢
         clear hw6)
    have HTl := Lib.hid htl
    obtain ⟨_, k0, k1, _⟩ := htl
    clear f0 f1 f2 f3 f4 c0 c1 cz e0 e1 c0a
    have hdr : Below w6.heap.size w6 w6.drew := ⟨rfl, rfl, rfl, Nat.le_refl _, fun _ _ => rfl⟩
    have HTd := Lib.hid (HTl.out.go hm hdr)
    clear hdr
    go_simp
    go_wp2
    go_region_law (first
      | (go_simp; go_at_call 40; ((with_reducible refine (HT.out _).mono ?_); rintro e w7 ⟨rfl, hb7⟩; have HT7 := Lib.hid (HTd.out.go hm hb7); (obtain ⟨_, _, m1, _⟩ := HT7.out); clear hb7))
      | (go_simp; go_at_call 31; ((with_reducible refine (copyVals_any _ HST.out _ _ (isT_grown HX.out hm HT7.out.grown)).mono ?_); rintro e w8 ⟨u8, rfl, hu8, hb8⟩; have HU8 := Lib.hid (ownS_isTo hu8 (by have := HST.out.1; unfold maxLen; omega)); have HT8 := Lib.hid (HT7.out.go hm hb8); (obtain ⟨_, _, _, r0, r1, r2, r3, _⟩ := HT8.out); have hz7 : w.heap.size < w7.heap.size := HT7.out.rsz; (obtain ⟨ya, yc, rfl⟩ := ownS_slice hu8); clear hu8 hb8)))
    all_goals
      go_simp
      go_wp2
      obtain ⟨hg, hc0, hc1, hcz, hoth⟩ := HT8.out.fin hm (ofL (nameA X.data.toList)) (.slice ya L[j].2.length yc)
      refine bodyPost_ret (v := .agg #[.string (ofL (nameA X.data.toList)), .slice ya L[j].2.length yc]) (by simp [results, Tryz.results24, go_sem, r0, r1]) rfl ⟨_, by rw [HGX.out], HU8.out.imp (fun b hb => ⟨by have := hb.1; omega, by simp [World.setCell]; exact hb.2⟩) (fun b o hb => hoth b o (by have := hb.1; omega)), hg, by rw [← HN.out]; exact hc0, hc1, hcz⟩
end Go.Proofs.YtncnlbmdkognnaaGreatDoor


namespace Go.Proofs.YtncnlbmdkognnaaGreatDoor
open Go.RowKit
set_option linter.unusedVariables false

def normL (L : List AT) : List AT := L.map (fun a => (nameA a.1, a.2))
theorem ownA_grown {B mb : Nat} {w w' : World} {v : Value} {L : List AT} (h : OwnA B w v L) (hg : w.grownBy w' (some mb)) (hm : mb < B) : OwnA B w' v L := by
  obtain ⟨P, hr, hs⟩ := h
  have hblk : ∀ k, B ≤ k → k < w.heap.size → w'.heap[k]? = w.heap[k]? := fun k h1 h2 => hg.block k h2 (by intro e; have := Option.some.inj e; omega)
  refine ⟨P, ⟨hr.1, hr.2.imp id fun ⟨g, cap, cur, e1, hb, hgg, rest⟩ => ⟨g, cap, cur, e1, hb, (hblk g hb (Array.getElem?_eq_some_iff.1 hgg).1).trans hgg, rest⟩⟩, hs.1, fun j h1 h2 => ⟨(hs.2 j h1 h2).1, (hs.2 j h1 h2).2.imp (fun b hb => ⟨hb.1, Nat.lt_of_lt_of_le hb.2.1 hg.size, hb.2.2⟩) (fun b o hb => by
    have := hblk b hb.1 hb.2.1
    simp only [World.cell?, this])⟩⟩
theorem BoxE.grown {b mb : Nat} {d : ByteArray} {w w' : World} (h : BoxE b d w) (hg : w.grownBy w' (some mb)) (hm : mb = b + 2) (hs : b + 2 < w.heap.size) : BoxE b d w' := by
  have h0 := hg.block b (by omega) (by intro e; have := Option.some.inj e; omega)
  have h1 := hg.block (b + 1) (by omega) (by intro e; have := Option.some.inj e; omega)
  obtain ⟨a0, a1, a2, a3, a4⟩ := h
  unfold BoxE
  simp only [World.cell?, World.frozen?, h0, h1]
  exact ⟨a0, a1, a2, a3, a4⟩
theorem below_grown {B mb : Nat} {w0 w w' : World} (h : Below B w0 w) (hg : w.grownBy w' (some mb)) (hB : B ≤ mb) (hw : B ≤ w.heap.size) : Below B w0 w' :=
  h.trans ⟨hg.os, hg.tape, hg.output, hg.size, fun k hk => hg.block k (by omega) (by intro e; have := Option.some.inj e; omega)⟩
structure NormAt (b : Nat) (d : ByteArray) (w wr : World) (v l : Value) (j : Nat) (L' : List AT) : Prop where
  own : OwnA (b + 3) wr l L'
  box : BoxE b d wr
  m0 : wr.cell? ⟨b + 2, 0, none⟩ = some v
  m1 : wr.cell? ⟨b + 2, 1, none⟩ = some (.int .i64 (j : Int))
  mz : wr.frozen? ⟨b + 2, 1, none⟩ = false
  size : b + 3 ≤ wr.heap.size
  bel : Below b w wr
theorem NormAt.go {b : Nat} {d : ByteArray} {w wr w2 : World} {v l : Value} {j : Nat} {L' : List AT} (h : NormAt b d w wr v l j L') (hb : Below wr.heap.size wr w2) : NormAt b d w w2 v l j L' where
  own := ownA_below h.own hb
  box := h.box.go hb (by have := h.size; omega)
  m0 := (hb.cell (p := ⟨b + 2, 0, none⟩) (show b + 2 < wr.heap.size by have := h.size; omega)).trans h.m0
  m1 := (hb.cell (p := ⟨b + 2, 1, none⟩) (show b + 2 < wr.heap.size by have := h.size; omega)).trans h.m1
  mz := (hb.frozen (p := ⟨b + 2, 1, none⟩) (show b + 2 < wr.heap.size by have := h.size; omega)).trans h.mz
  size := Nat.le_trans h.size hb.size
  bel := h.bel.trans (hb.mono (by have := h.size; omega))
theorem NormAt.next {b : Nat} {d : ByteArray} {w wr w2 : World} {v l : Value} {j : Nat} {L' : List AT} (h : NormAt b d w wr v l j L') (hg : wr.grownBy w2 (some (b + 2))) (h0 : w2.cell? ⟨b + 2, 0, none⟩ = some v) (h1 : w2.cell? ⟨b + 2, 1, none⟩ = some (.int .i64 (j + 1 : Nat))) (hz : w2.frozen? ⟨b + 2, 1, none⟩ = false) : NormAt b d w w2 v l (j + 1) L' where
  own := ownA_grown h.own hg (by omega)
  box := h.box.grown hg rfl (by have := h.size; omega)
  m0 := h0
  m1 := h1
  mz := hz
  size := Nat.le_trans h.size hg.size
  bel := below_grown h.bel hg (by omega) (by have := h.size; omega)
theorem NormAt.app {b : Nat} {d : ByteArray} {w wr w2 : World} {v l l2 : Value} {j : Nat} {L' L2 : List AT} (h : NormAt b d w wr v l j L') (hb : Below (b + 3) wr w2) (ho : OwnA (b + 3) w2 l2 L2) : NormAt b d w w2 v l2 j L2 where
  own := ho
  box := h.box.go hb (by omega)
  m0 := (hb.cell (p := ⟨b + 2, 0, none⟩) (show b + 2 < b + 3 by omega)).trans h.m0
  m1 := (hb.cell (p := ⟨b + 2, 1, none⟩) (show b + 2 < b + 3 by omega)).trans h.m1
  mz := (hb.frozen (p := ⟨b + 2, 1, none⟩) (show b + 2 < b + 3 by omega)).trans h.mz
  size := Nat.le_trans h.size hb.size
  bel := h.bel.trans (hb.mono (by omega))
theorem norm_block (w : World) (d : ByteArray) (v : Value) : (((w.alloc (.cells #[.string d, v] 24)).alloc (.cells #[.string ⟨#[]⟩, .slice none 0 0] 24)).alloc (.cells #[v, .int .i64 0] 54)).heap[w.heap.size + 2]? = some (.cells #[v, .int .i64 0] 54 (0, 0)) := by
  have := heap_alloc_new ((w.alloc (.cells #[.string d, v] 24)).alloc (.cells #[.string ⟨#[]⟩, .slice none 0 0] 24)) (.cells #[v, .int .i64 0] 54)
  simpa only [World.size_alloc] using this
theorem norm_start (w : World) (d : ByteArray) (v : Value) : NormAt w.heap.size d w (((w.alloc (.cells #[.string d, v] 24)).alloc (.cells #[.string ⟨#[]⟩, .slice none 0 0] 24)).alloc (.cells #[v, .int .i64 0] 54)) v (.slice none 0 0) 0 [] where
  own := ownA_nil _ _
  box := (boxE_new w d v).go (Below.alloc (Below.refl (w.heap.size + 2) _) (by simp) _) (by omega)
  m0 := by simp only [World.cell?, norm_block w d v]; rfl
  m1 := by simp only [World.cell?, norm_block w d v]; rfl
  mz := by simp only [World.frozen?, norm_block w d v]; rfl
  size := by simp
  bel := (((Below.refl _ _).alloc (Nat.le_refl _) _).alloc (by simp) _).alloc (by simp; omega) _
theorem normL_take (L : List AT) (j : Nat) (h : j < L.length) : normL (L.take (j + 1)) = normL (L.take j) ++ [(nameA L[j].1, L[j].2)] := by
  unfold normL
  rw [List.take_succ_eq_append_getElem h, List.map_append]; rfl

end Go.Proofs.YtncnlbmdkognnaaGreatDoor


namespace Go.Proofs.YtncnlbmdkognnaaGreatDoor
set_option linter.unusedVariables false
set_option linter.unusedSimpArgs false

section
variable {α β : Type}
def swapG (R : List α) (j : Nat) : List α := match R[j]?, R[j + 1]? with
  | some x, some y => (R.set j y).set (j + 1) x
  | _, _ => R
def bubG (key : α → List UInt8) : Nat → List α → List α
  | 0, R => R
  | j + 1, R => match R[j]?, R[j + 1]? with
    | some x, some y => if cmpL (key y) (key x) < 0 then bubG key j (swapG R j) else R
    | _, _ => R
def srtG (key : α → List UInt8) : Nat → List α → List α
  | 0, R => R
  | k + 1, R => bubG key (k + 1) (srtG key k R)
theorem swapG_length (R : List α) (j : Nat) : (swapG R j).length = R.length := by
  unfold swapG
  split
  · simp
  · rfl
theorem swapG_at {R : List α} {j : Nat} (h : j + 1 < R.length) : swapG R j = (R.set j R[j + 1]).set (j + 1) (R[j]'(by omega)) := by
  unfold swapG
  rw [List.getElem?_eq_getElem h, List.getElem?_eq_getElem (show j < R.length by omega)]
theorem swapG_mem {R : List α} {j : Nat} {x : α} (h : x ∈ swapG R j) : x ∈ R := by
  unfold swapG at h
  split at h
  · rename_i a b ha hb
    rcases List.mem_or_eq_of_mem_set h with h | h
    · rcases List.mem_or_eq_of_mem_set h with h | h
      · exact h
      · rw [h]; exact List.mem_of_getElem? hb
    · rw [h]; exact List.mem_of_getElem? ha
  · exact h
theorem bubG_length (key : α → List UInt8) : ∀ (j : Nat) (R : List α), (bubG key j R).length = R.length
  | 0, _ => rfl
  | j + 1, R => by
    unfold bubG
    split
    · split
      · rw [bubG_length key j, swapG_length]
      · rfl
    · rfl
theorem bubG_mem {key : α → List UInt8} : ∀ (j : Nat) {R : List α} {x : α}, x ∈ bubG key j R → x ∈ R
  | 0, _, _, h => h
  | j + 1, R, x, h => by
    unfold bubG at h
    split at h
    · split at h
      · exact swapG_mem (bubG_mem j h)
      · exact h
    · exact h
theorem srtG_length (key : α → List UInt8) : ∀ (k : Nat) (R : List α), (srtG key k R).length = R.length
  | 0, _ => rfl
  | k + 1, R => by
    show (bubG key (k + 1) (srtG key k R)).length = _
    rw [bubG_length, srtG_length key k]
theorem srtG_mem {key : α → List UInt8} : ∀ (k : Nat) {R : List α} {x : α}, x ∈ srtG key k R → x ∈ R
  | 0, _, _, h => h
  | k + 1, R, x, h => srtG_mem k (bubG_mem (k + 1) h)
theorem bubG_go {key : α → List UInt8} {j : Nat} {R : List α} (h : j + 1 < R.length) (hc : cmpL (key R[j + 1]) (key (R[j]'(by omega))) < 0) : bubG key (j + 1) R = bubG key j (swapG R j) := by
  conv => lhs; unfold bubG
  rw [List.getElem?_eq_getElem h, List.getElem?_eq_getElem (show j < R.length by omega)]
  simp only []
  rw [if_pos hc]
theorem bubG_stop {key : α → List UInt8} {j : Nat} {R : List α} (h : j + 1 < R.length) (hc : ¬ cmpL (key R[j + 1]) (key (R[j]'(by omega))) < 0) : bubG key (j + 1) R = R := by
  unfold bubG
  rw [List.getElem?_eq_getElem h, List.getElem?_eq_getElem (show j < R.length by omega)]
  simp only []
  rw [if_neg hc]
theorem swapG_map (f : α → β) (R : List α) (j : Nat) : (swapG R j).map f = swapG (R.map f) j := by
  unfold swapG
  rw [List.getElem?_map, List.getElem?_map]
  cases R[j]? with
  | none => rfl
  | some x =>
    cases R[j + 1]? with
    | none => rfl
    | some y => simp [List.map_set]
theorem bubG_map {key : α → List UInt8} {key' : β → List UInt8} (f : α → β) : ∀ (j : Nat) (R : List α), (∀ x ∈ R, key' (f x) = key x) → (bubG key j R).map f = bubG key' j (R.map f)
  | 0, _, _ => rfl
  | j + 1, R, h => by
    unfold bubG
    rw [List.getElem?_map, List.getElem?_map]
    cases hx : R[j]? with
    | none => rfl
    | some x =>
      cases hy : R[j + 1]? with
      | none => rfl
      | some y =>
        simp only [Option.map_some]
        rw [h x (List.mem_of_getElem? hx), h y (List.mem_of_getElem? hy)]
        split
        · rw [bubG_map f j _ fun z hz => h z (swapG_mem hz), swapG_map]
        · rfl
theorem srtG_map {key : α → List UInt8} {key' : β → List UInt8} (f : α → β) : ∀ (k : Nat) (R : List α), (∀ x ∈ R, key' (f x) = key x) → (srtG key k R).map f = srtG key' k (R.map f)
  | 0, _, _ => rfl
  | k + 1, R, h => by
    show (bubG key (k + 1) (srtG key k R)).map f = bubG key' (k + 1) (srtG key' k (R.map f))
    rw [bubG_map f (k + 1) _ fun x hx => h x (srtG_mem k hx), srtG_map f k R h]
end
def sortA (L : List AT) : List AT := srtG (fun a => a.1) (L.length - 1) L
end Go.Proofs.YtncnlbmdkognnaaGreatDoor


namespace Go.Proofs.YtncnlbmdkognnaaGreatDoor
set_option linter.unusedVariables false

section
variable {P : Program} {ops : Array Oper} {Q : Exit → Act → World → Prop} {md : Region.Mode}

def toCome (l : Array Bool) : Nat := l.toList.count false

theorem toCome_some {l : Array Bool} {i : Nat} (h : l.getD i true = false) : ∃ hi : i < l.size, l[i] = false := by
  rcases Nat.lt_or_ge i l.size with hi | hi
  · refine ⟨hi, ?_⟩
    simpa [hi] using h
  · simp [Array.getElem?_eq_none hi] at h

theorem toCome_set {l : Array Bool} {i : Nat} (h : l.getD i true = false) : toCome (l.setIfInBounds i true) + 1 = toCome l := by
  obtain ⟨hi, he⟩ := toCome_some h
  unfold toCome
  have hi' : i < l.toList.length := by simpa using hi
  have he' : l.toList[i] = false := by simpa using he
  have hpos : 0 < l.toList.count false := List.count_pos_iff.2 (by rw [← he']; exact List.getElem_mem hi')
  rw [Array.toList_setIfInBounds, List.count_set hi', he']
  rw [if_pos (by rfl), if_neg (by decide)]
  omega

theorem toCome_none {l : Array Bool} (h : toCome l = 0) {i : Nat} : l.getD i true ≠ false := fun hf => by
  have := toCome_set hf
  omega

theorem wpAny_inv (Inv : Array Bool → Act → World → Prop)
    (hstep : ∀ listed a w, Inv listed a w → ∀ i ∈ Region.ready md ops listed, wpOp P ops Q i (Inv (listed.setIfInBounds i true)) a w)
    (hend : ∀ listed a w, Inv listed a w → Region.ready md ops listed = [] → Q .normal a w) :
    ∀ (fuel : Nat) (listed : Array Bool) (a : Act) (w : World), toCome listed ≤ fuel → Inv listed a w → wpAny P md ops Q fuel listed a w
  | 0, listed, a, w, hf, hI => by
    have hr : Region.ready md ops listed = [] := by
      cases hc : Region.ready md ops listed with
      | nil => rfl
      | cons j rs => exact absurd (mem_ready.1 (hc ▸ List.mem_cons_self : j ∈ Region.ready md ops listed)).1 (toCome_none (by omega))
    exact ⟨hr, hend _ _ _ hI hr⟩
  | fuel + 1, listed, a, w, hf, hI => by
    refine ⟨fun hr => hend _ _ _ hI hr, fun i hi => wpOp_mono (fun a' w' h => ?_) (hstep _ _ _ hI i hi)⟩
    have := toCome_set (mem_ready.1 hi).1
    exact wpAny_inv Inv hstep hend fuel _ a' w' (by omega) h

theorem all_come {listed : Array Bool} (hb : ∀ (i : Nat) (o : Oper), ops[i]? = some o → ∀ e ∈ o.after, e.on < i) (hs : listed.size = ops.size) (hr : Region.ready md ops listed = []) :
    ∀ (n i : Nat), i < n → i < ops.size → listed.getD i false = true
  | 0, i, h, _ => by omega
  | n + 1, i, h, hi => by
    have ih := all_come hb hs hr n
    cases hc : listed.getD i false with
    | true => rfl
    | false =>
      exfalso
      have hm : i ∈ Region.ready md ops listed := by
        refine mem_ready.2 ⟨?_, ops[i], Array.getElem?_eq_getElem hi, fun e he _ => ?_⟩
        · have hi' : i < listed.size := by omega
          simpa [hi'] using hc
        · have := hb i _ (Array.getElem?_eq_getElem hi) e he
          exact ih e.on (by omega) (by omega)
      rw [hr] at hm
      cases hm

theorem region_inv {id : Nat} {a : Act} {w : World} (hm : P.follows .mixedOrders = true) (Inv : Array Bool → Act → World → Prop)
    (h0 : Inv (Array.replicate ops.size false) a { w with drawn := w.drawn + 1 })
    (hb : ∀ (i : Nat) (o : Oper), ops[i]? = some o → ∀ e ∈ o.after, e.on < i)
    (hsize : ∀ listed a w, Inv listed a w → listed.size = ops.size)
    (hstep : ∀ listed a w, Inv listed a w → ∀ (i : Nat) (o : Oper), ops[i]? = some o → listed.getD i true = false → (∀ e ∈ o.after, Region.binds .any e = true → listed.getD e.on false = true) →
      wpOp P ops Q i (Inv (listed.setIfInBounds i true)) a w)
    (hend : ∀ listed a w, Inv listed a w → (∀ i, i < ops.size → listed.getD i false = true) → Q .normal a w) : (Code.region id ops true).wp P Q a w := by
  refine wp_region_any hm (wpAny_inv Inv (fun listed a w hI i hi => ?_) (fun listed a w hI hr => ?_) _ _ _ _ ?_ h0)
  · obtain ⟨h1, o, h2, h3⟩ := mem_ready.1 hi
    exact hstep listed a w hI i o h2 h1 h3
  · exact hend listed a w hI fun i hi => all_come hb (hsize _ _ _ hI) hr (i + 1) i (by omega) hi
  · unfold toCome
    refine Nat.le_trans List.count_le_length ?_
    simp
end
end Go.Proofs.YtncnlbmdkognnaaGreatDoor


namespace Go.Proofs.YtncnlbmdkognnaaGreatDoor
set_option linter.unusedVariables false
set_option linter.unusedSimpArgs false

section
variable {P : Program} {ops : Array Oper} {Q : Exit → Act → World → Prop} {S : World → Prop}

def Det (P : Program) (ops : Array Oper) (S : World → Prop) (o : Oper) (v : Value) (a : Act) : Prop :=
  (Region.wanted o (yielded ops a.tmps) = true ∧ ∀ w, S w → (execOp a.eval o).run P w = .ok (.value v) w ∨
    ∃ f args, (execOp a.eval o).run P w = .ok (.enter f args) w ∧ Calls P f args w fun e w' => e = .returned v ∧ S w') ∨
  (Region.wanted o (yielded ops a.tmps) = false ∧ v = undef)

theorem Det.wpOp {i : Nat} {o : Oper} {v : Value} {a : Act} {w : World} {K : Act → World → Prop} (hi : ops[i]? = some o) (hd : Det P ops S o v a) (hS : S w) (hk : ∀ w', S w' → K (a.put o.dst v) w') : wpOp P ops Q i K a w := by
  unfold Go.wpOp
  simp only [hi]
  rcases hd with ⟨hw, hv⟩ | ⟨hw, rfl⟩
  · simp only [hw, if_true]
    refine .inl ?_
    unfold Oper.wp
    rcases hv w hS with h | ⟨f, args, h, hc⟩
    · rw [h]
      exact hk w hS
    · rw [h]
      exact Calls.mono hc fun e w' he => by
        obtain ⟨rfl, h⟩ := he
        exact hk w' h
  · simp only [hw, Bool.false_eq_true, if_false]
    exact hk w hS

def hasOn (o : Oper) (i : Nat) : Bool := o.after.any fun e => Region.binds .any e && decide (e.on = i)
def detOk (ops : Array Oper) (n : Nat) : Bool := (List.range ops.size).all fun i => match ops[i]? with
  | none => true
  | some o => (o.after.all fun e => decide (e.on < i)) && (match o.op with | .select _ _ => false | _ => true) && (match o.dst with
      | none => true
      | some d => decide (d < n) && (List.range ops.size).all fun j => match ops[j]? with
        | none => true
        | some o' => decide (i = j) || (decide (o'.dst ≠ some d) && (!(o'.looksAt ops).contains d || (if i < j then hasOn o' i else hasOn o j))))

structure DetOk (ops : Array Oper) (n : Nat) : Prop where
  back : ∀ (i : Nat) (o : Oper), ops[i]? = some o → ∀ e ∈ o.after, e.on < i
  sel : ∀ (i : Nat) (o : Oper), ops[i]? = some o → ∀ cs b, o.op ≠ .select cs b
  inn : ∀ (i : Nat) (o : Oper) (d : Tmp), ops[i]? = some o → o.dst = some d → d < n
  one : ∀ (i j : Nat) (o o' : Oper) (d : Tmp), ops[i]? = some o → ops[j]? = some o' → o.dst = some d → o'.dst = some d → i = j
  looks : ∀ (i j : Nat) (o o' : Oper) (d : Tmp), ops[i]? = some o → ops[j]? = some o' → o.dst = some d → d ∈ o'.looksAt ops → i ≠ j → (if i < j then hasOn o' i else hasOn o j) = true

theorem detOk_at {n : Nat} (h : detOk ops n = true) : DetOk ops n := by
  have key : ∀ (i : Nat) (o : Oper), ops[i]? = some o → (o.after.all fun e => decide (e.on < i)) = true ∧ (match o.op with | .select _ _ => false | _ => true) = true ∧ ∀ d, o.dst = some d → d < n ∧ ∀ (j : Nat) (o' : Oper), ops[j]? = some o' → i ≠ j → o'.dst ≠ some d ∧ (d ∈ o'.looksAt ops → (if i < j then hasOn o' i else hasOn o j) = true) := by
    intro i o ho
    have hi : i < ops.size := (Array.getElem?_eq_some_iff.1 ho).1
    have h1 := List.all_eq_true.1 h i (List.mem_range.2 hi)
    rw [ho] at h1
    simp only [Bool.and_eq_true] at h1
    obtain ⟨⟨ha, hs⟩, hb⟩ := h1
    refine ⟨ha, hs, fun d hd => ?_⟩
    rw [hd] at hb
    simp only [Bool.and_eq_true, decide_eq_true_eq] at hb
    refine ⟨hb.1, fun j o' ho' hne => ?_⟩
    have h2 := List.all_eq_true.1 hb.2 j (List.mem_range.2 (Array.getElem?_eq_some_iff.1 ho').1)
    rw [ho'] at h2
    simp only [Bool.or_eq_true, Bool.and_eq_true, decide_eq_true_eq, Bool.not_eq_true'] at h2
    rcases h2 with h2 | ⟨h2, h3⟩
    · exact absurd h2 hne
    · refine ⟨h2, fun hm => ?_⟩
      rcases h3 with h3 | h3
      · have : (o'.looksAt ops).contains d = true := by simpa using hm
        rw [this] at h3
        cases h3
      · exact h3
  refine ⟨fun i o ho e he => ?_, fun i o ho cs b hc => ?_, fun i o d ho hd => ((key i o ho).2.2 d hd).1, fun i j o o' d ho ho' hd hd' => ?_, fun i j o o' d ho ho' hd hm hne => (((key i o ho).2.2 d hd).2 j o' ho' hne).2 hm⟩
  · have := Array.all_eq_true_iff_forall_mem.1 (key i o ho).1 e he
    simpa using this
  · have := (key i o ho).2.1
    rw [hc] at this
    cases this
  · rcases Nat.decEq i j with hne | heq
    · exact absurd hd' (((key i o ho).2.2 d hd).2 j o' ho' hne).1
    · exact heq

structure FrameAt (ops : Array Oper) (vs : List Value) (a0 : Act) (L : Nat → Prop) (a : Act) : Prop where
  defers : a.defers = a0.defers
  slots : a.tmps.size = a0.tmps.size
  come : ∀ (i : Nat) (o : Oper) (d : Tmp), ops[i]? = some o → o.dst = some d → L i → a.tmps[d]? = vs[i]?
  rest : ∀ t, (∀ (i : Nat) (o : Oper), ops[i]? = some o → o.dst = some t → ¬ L i) → a.tmps[t]? = a0.tmps[t]?

theorem FrameAt.put {vs : List Value} {a0 a : Act} {L : Nat → Prop} {n : Nat} (hn : n = a0.tmps.size) (hok : DetOk ops n) (h : FrameAt ops vs a0 L a) {i : Nat} {o : Oper} {v : Value} (ho : ops[i]? = some o) (hv : vs[i]? = some v) :
    FrameAt ops vs a0 (fun j => L j ∨ j = i) (a.put o.dst v) := by
  subst hn
  cases hd : o.dst with
  | none =>
    refine ⟨h.defers, h.slots, fun j o' d ho' hd' hl => ?_, fun t ht => h.rest t fun j o' ho' hd' hl => ht j o' ho' hd' (.inl hl)⟩
    rcases hl with hl | rfl
    · exact h.come j o' d ho' hd' hl
    · rw [ho] at ho'; cases ho'
      rw [hd] at hd'; cases hd'
  | some d =>
    have hdl := hok.inn i o d ho hd
    refine ⟨h.defers, by simp [Act.put, h.slots], fun j o' d' ho' hd' hl => ?_, fun t ht => ?_⟩
    · by_cases hji : j = i
      · subst hji
        rw [ho] at ho'; cases ho'
        rw [hd] at hd'; cases hd'
        have : d < a.tmps.size := by rw [h.slots]; exact hdl
        simp [Act.put, this, hv]
      · have hl' : L j := hl.resolve_right hji
        have hne : d ≠ d' := fun e => hji (hok.one j i o' o d' ho' ho hd' (by rw [hd, e]))
        simp only [Act.put]
        rw [Array.getElem?_setIfInBounds_ne hne]
        exact h.come j o' d' ho' hd' hl'
    · have hne : d ≠ t := fun e => ht i o ho (by rw [hd, e]) (.inr rfl)
      simp only [Act.put]
      rw [Array.getElem?_setIfInBounds_ne hne]
      exact h.rest t fun j o' ho' hd' hl => ht j o' ho' hd' (.inl hl)

theorem FrameAt.same {vs : List Value} {a0 a a' : Act} {L L' : Nat → Prop} {n : Nat} (hok : DetOk ops n) (h : FrameAt ops vs a0 L a) (h' : FrameAt ops vs a0 L' a') {t : Tmp}
    (ht : ∀ (i : Nat) (o : Oper), ops[i]? = some o → o.dst = some t → (L i ↔ L' i)) : a.tmps[t]? = a'.tmps[t]? := by
  by_cases hx : ∃ (i : Nat) (o : Oper), ops[i]? = some o ∧ o.dst = some t ∧ L i
  · obtain ⟨i, o, ho, hd, hl⟩ := hx
    rw [h.come i o t ho hd hl, h'.come i o t ho hd ((ht i o ho hd).1 hl)]
  · rw [h.rest t fun i o ho hd hl => hx ⟨i, o, ho, hd, hl⟩, h'.rest t fun i o ho hd hl => hx ⟨i, o, ho, hd, (ht i o ho hd).2 hl⟩]

theorem FrameAt.imp {vs : List Value} {a0 a : Act} {L L' : Nat → Prop} (h : FrameAt ops vs a0 L a) (hl : ∀ i, i < ops.size → (L i ↔ L' i)) : FrameAt ops vs a0 L' a :=
  have lt : ∀ {i : Nat} {o : Oper}, ops[i]? = some o → i < ops.size := fun ho => (Array.getElem?_eq_some_iff.1 ho).1
  ⟨h.defers, h.slots, fun i o d ho hd hL => h.come i o d ho hd ((hl i (lt ho)).2 hL), fun t ht => h.rest t fun i o ho hd hL => ht i o ho hd ((hl i (lt ho)).1 hL)⟩

theorem Det.same {vs : List Value} {a0 a a' : Act} {L L' : Nat → Prop} {n : Nat} (hok : DetOk ops n) (h : FrameAt ops vs a0 L a) (h' : FrameAt ops vs a0 L' a') {i : Nat} {o : Oper} {v : Value} (ho : ops[i]? = some o)
    (ht : ∀ (j : Nat) (o' : Oper) (d : Tmp), ops[j]? = some o' → o'.dst = some d → d ∈ o.looksAt ops → (L j ↔ L' j)) (hd : Det P ops S o v a) : Det P ops S o v a' := by
  have hs : ∀ d, d ∈ o.looksAt ops → a.tmps[d]? = a'.tmps[d]? := fun d hm => h.same hok h' fun j o' ho' hd' => ht j o' d ho' hd' hm
  have he : execOp a'.eval o = execOp a.eval o := execOp_congr o (hok.sel i o ho) fun x hx => by
    cases x with
    | tmp t =>
      have : t ∈ o.looksAt ops := List.mem_append_left _ (List.mem_filterMap.2 ⟨.tmp t, by simpa using hx, rfl⟩)
      have hh := hs t this
      simp [Act.eval, hh]
    | _ => rfl
  have hw : Region.wanted o (yielded ops a'.tmps) = Region.wanted o (yielded ops a.tmps) := by
    unfold Region.wanted
    cases hg : o.guard with
    | none => rfl
    | some gw =>
      obtain ⟨g, want⟩ := gw
      have hy : yielded ops a'.tmps g = yielded ops a.tmps g := by
        unfold yielded
        cases hb : (ops[g]?).bind (·.dst) with
        | none => rfl
        | some t =>
          have : t ∈ o.looksAt ops := List.mem_append_right _ (by simp [hg, hb])
          have hh := hs t this
          simp [hh]
      simp only [hy]
  unfold Det at *
  rw [he, hw]
  exact hd

def DetSeq (P : Program) (ops : Array Oper) (S : World → Prop) : List Oper → Act → (Act → Prop) → Prop
  | [], a, K => K a
  | o :: rest, a, K => ∃ v, Det P ops S o v a ∧ DetSeq P ops S rest (a.put o.dst v) K

theorem detSeq_get {K : Act → Prop} : ∀ (l : List Oper) (k : Nat) (vs : List Value) (a0 a : Act) (n : Nat), n = a0.tmps.size → DetOk ops n → ops.toList.drop k = l → k ≤ ops.size → vs.length = k →
    (∀ i, i < k → ∀ o, ops[i]? = some o → ∃ b v, vs[i]? = some v ∧ FrameAt ops vs a0 (fun j => j < i) b ∧ Det P ops S o v b) → FrameAt ops vs a0 (fun j => j < k) a → DetSeq P ops S l a K →
    ∃ us : List Value, us.length = ops.size ∧ (∀ i, i < ops.size → ∀ o, ops[i]? = some o → ∃ b v, us[i]? = some v ∧ FrameAt ops us a0 (fun j => j < i) b ∧ Det P ops S o v b) ∧ ∃ b, FrameAt ops us a0 (fun _ => True) b ∧ K b
  | [], k, vs, a0, a, n, hn, hok, hl, hk, hv, hD, hF, hseq => by
    have hke : k = ops.size := by
      have := congrArg List.length hl
      simp at this
      omega
    subst hke
    exact ⟨vs, hv, hD, a, hF.imp fun i hi => ⟨fun _ => trivial, fun _ => hi⟩, hseq⟩
  | o :: l, k, vs, a0, a, n, hn, hok, hl, hk, hv, hD, hF, ⟨v, hd, hrest⟩ => by
    have hlt : k < ops.size := by
      have := congrArg List.length hl
      simp at this
      omega
    have ho : ops[k]? = some o := by
      have h1 : (ops.toList.drop k)[0]? = some o := by rw [hl]; rfl
      rw [List.getElem?_drop] at h1
      simpa using h1
    have old : ∀ i, i < k → (vs ++ [v])[i]? = vs[i]? := fun i hi => List.getElem?_append_left (by omega)
    have mv : ∀ (i : Nat) (b : Act), i ≤ k → FrameAt ops vs a0 (fun j => j < i) b → FrameAt ops (vs ++ [v]) a0 (fun j => j < i) b := fun i b hi hb =>
      ⟨hb.defers, hb.slots, fun j o' d ho' hd' hl' => by
        have hl' : j < i := hl'
        rw [hb.come j o' d ho' hd' hl', old j (by omega)], hb.rest⟩
    refine detSeq_get l (k + 1) (vs ++ [v]) a0 (a.put o.dst v) n hn hok ?_ (by omega) (by simp [hv]) (fun i hi o' ho' => ?_) ?_ hrest
    · have : (ops.toList.drop k).drop 1 = l := by rw [hl]; rfl
      rw [List.drop_drop] at this
      exact this
    · by_cases hik : i = k
      · subst hik
        rw [ho] at ho'; cases ho'
        exact ⟨a, v, by simp [← hv], mv i a (by omega) hF, hd⟩
      · obtain ⟨b, u, h1, h2, h3⟩ := hD i (by omega) o' ho'
        exact ⟨b, u, by rw [old i (by omega)]; exact h1, mv i b (by omega) h2, h3⟩
    · exact ((mv k a (by omega) hF).put hn hok ho (by simp [← hv])).imp fun j _ => ⟨fun h => by omega, fun h => by omega⟩

theorem region_det {id : Nat} {a0 : Act} {w0 : World} (hm : P.follows .mixedOrders = true) (S : World → Prop) (hS : S w0.drew) (hok : detOk ops a0.tmps.size = true)
    (h : DetSeq P ops S ops.toList a0 fun a => ∀ w, S w → Q .normal a w) : (Code.region id ops true).wp P Q a0 w0 := by
  have hk := detOk_at hok
  obtain ⟨us, hul, hD, b, hb, hQ⟩ := detSeq_get ops.toList 0 [] a0 a0 a0.tmps.size rfl hk (by simp) (by omega) rfl (fun i hi => absurd hi (by omega)) ⟨rfl, rfl, fun i o d _ _ hl => absurd hl (Nat.not_lt_zero i), fun _ _ => rfl⟩ h
  have hno : ∀ i, (Array.replicate ops.size false).getD i false = false := fun i => by
    rcases Nat.lt_or_ge i ops.size with h | h <;> simp [h]
  refine region_inv hm (fun listed a w => listed.size = ops.size ∧ S w ∧ (∀ (i : Nat) (o : Oper), ops[i]? = some o → listed.getD i false = true → ∀ e ∈ o.after, Region.binds .any e = true → listed.getD e.on false = true) ∧ FrameAt ops us a0 (fun j => listed.getD j false = true) a) ?_ hk.back (fun listed a w hI => hI.1) ?_ ?_
  · refine ⟨by simp, hS, fun i o _ hl => (by rw [hno] at hl; cases hl), rfl, rfl, fun i o d _ _ hl => (by rw [hno] at hl; cases hl), fun _ _ => rfl⟩
  · rintro listed a w ⟨hs, hSw, hshut, hF⟩ i o ho hi hc
    have hio : i < ops.size := (Array.getElem?_eq_some_iff.1 ho).1
    have hil : i < listed.size := by omega
    have hnl : ¬ listed.getD i false = true := by
      have : listed[i] = false := by simpa [hil] using hi
      simp [hil, this]
    obtain ⟨c, v, hv, hFc, hd⟩ := hD i hio o ho
    have hd' : Det P ops S o v a := hd.same hk hFc hF ho fun j o' d ho' hd' hm => by
      by_cases hji : j = i
      · subst hji
        exact ⟨fun h => absurd h (Nat.lt_irrefl _), fun h => absurd h hnl⟩
      · have hlk := hk.looks j i o' o d ho' ho hd' hm hji
        by_cases hlt : j < i
        · rw [if_pos hlt] at hlk
          obtain ⟨e, he, hbe⟩ := Array.any_eq_true'.1 hlk
          simp only [Bool.and_eq_true, decide_eq_true_eq] at hbe
          have := hc e he hbe.1
          rw [hbe.2] at this
          exact ⟨fun _ => this, fun _ => hlt⟩
        · rw [if_neg hlt] at hlk
          obtain ⟨e, he, hbe⟩ := Array.any_eq_true'.1 hlk
          simp only [Bool.and_eq_true, decide_eq_true_eq] at hbe
          refine ⟨fun h => absurd h hlt, fun h => ?_⟩
          have := hshut j o' ho' h e he hbe.1
          rw [hbe.2] at this
          exact absurd this hnl
    refine hd'.wpOp ho hSw fun w' hSw' => ⟨by simp [hs], hSw', fun j o' ho' hl e he hb => ?_, ?_⟩
    · by_cases hij : i = j
      · subst hij
        rw [ho] at ho'; cases ho'
        exact getD_set_true (hc e he hb)
      · rw [getD_set_ne false hij] at hl
        exact getD_set_true (hshut j o' ho' hl e he hb)
    · refine (hF.put rfl hk ho hv).imp fun j hj => ?_
      by_cases hij : i = j
      · subst hij
        exact ⟨fun _ => by simp [hil], fun _ => .inr rfl⟩
      · rw [getD_set_ne false hij]
        exact ⟨fun h => h.resolve_right fun e => hij e.symm, .inl⟩
  · rintro listed a w ⟨hs, hSw, _, hF⟩ ha
    have hF' := hF.imp (L' := fun _ => True) fun i hi => ⟨fun _ => trivial, fun _ => ha i hi⟩
    have : a = b := by
      obtain ⟨t1, d1⟩ := a
      obtain ⟨t2, d2⟩ := b
      have h1 : t1 = t2 := Array.ext_getElem? fun t => hF'.same hk hb fun _ _ _ _ => Iff.rfl
      have h2 : d1 = d2 := hF'.defers.trans hb.defers.symm
      rw [h1, h2]
    rw [this]
    exact hQ w hSw

theorem det_val {o : Oper} {v : Value} {rest : List Oper} {a : Act} {K : Act → Prop} (hw : Region.wanted o (yielded ops a.tmps) = true) (hv : ∀ w, S w → (execOp a.eval o).run P w = .ok (.value v) w)
    (h : DetSeq P ops S rest (a.put o.dst v) K) : DetSeq P ops S (o :: rest) a K := ⟨v, .inl ⟨hw, fun w hS => .inl (hv w hS)⟩, h⟩
theorem det_shut {o : Oper} {rest : List Oper} {a : Act} {K : Act → Prop} (hw : Region.wanted o (yielded ops a.tmps) = false)
    (h : DetSeq P ops S rest (a.put o.dst undef) K) : DetSeq P ops S (o :: rest) a K := ⟨undef, .inr ⟨hw, rfl⟩, h⟩
theorem det_call {o : Oper} {v : Value} {f : FuncId} {args : Array Value} {rest : List Oper} {a : Act} {K : Act → Prop} (hw : Region.wanted o (yielded ops a.tmps) = true) (hv : ∀ w, S w → (execOp a.eval o).run P w = .ok (.enter f args) w)
    (hc : ∀ w, S w → Calls P f args w fun e w' => e = .returned v ∧ S w')
    (h : DetSeq P ops S rest (a.put o.dst v) K) : DetSeq P ops S (o :: rest) a K := ⟨v, .inl ⟨hw, fun w hS => .inr ⟨f, args, hv w hS, hc w hS⟩⟩, h⟩
end
end Go.Proofs.YtncnlbmdkognnaaGreatDoor


namespace Go.Proofs.YtncnlbmdkognnaaGreatDoor
open Go.RowKit
set_option linter.unusedVariables false
set_option linter.unusedSimpArgs false

theorem grown_trans {w a b : World} {g : Nat} (h : w.grownBy a (some g)) (k : a.grownBy b (some g)) : w.grownBy b (some g) :=
  ⟨k.os.trans h.os, k.tape.trans h.tape, k.output.trans h.output, Nat.le_trans h.size k.size, fun j hj hne => (k.block j (Nat.lt_of_lt_of_le hj h.size) hne).trans (h.block j hj hne)⟩
theorem below_grownR {w w' : World} {g : Nat} (h : Below w.heap.size w w') : w.grownBy w' (some g) := ⟨h.os, h.tape, h.output, h.size, fun k hk _ => h.block k hk⟩
theorem rowP_swap {B g n cap : Nat} {w : World} {P : List PT} {j : Nat} (hj : j + 1 < P.length) (h : w.ownsRow B 40 2 (.slice (some ⟨g, 0, none⟩) n cap) n (cellsP P)) :
    let w' := (((w.setCell ⟨g, (j + 1) * 2, none⟩ (strV P[j].1)).setCell ⟨g, (j + 1) * 2 + 1, none⟩ P[j].2).setCell ⟨g, j * 2, none⟩ (strV P[j + 1].1)).setCell ⟨g, j * 2 + 1, none⟩ P[j + 1].2
    w'.ownsRow B 40 2 (.slice (some ⟨g, 0, none⟩) n cap) n (cellsP (swapG P j)) ∧ w.grownBy w' (some g) := by
  intro w'
  obtain ⟨h1, g1⟩ := h.stored ((j + 1) * 2) (strV P[j].1)
  obtain ⟨h2, g2⟩ := h1.stored ((j + 1) * 2 + 1) P[j].2
  obtain ⟨h3, g3⟩ := h2.stored (j * 2) (strV P[j + 1].1)
  obtain ⟨h4, g4⟩ := h3.stored (j * 2 + 1) P[j + 1].2
  refine ⟨?_, grown_trans (grown_trans (grown_trans g1 g2) g3) g4⟩
  have he : ((((cellsP P).set ((j + 1) * 2) (strV P[j].1)).set ((j + 1) * 2 + 1) P[j].2).set (j * 2) (strV P[j + 1].1)).set (j * 2 + 1) P[j + 1].2 = cellsP (swapG P j) := by
    refine List.ext_getElem? fun i => ?_
    have hl := cellsP_length P
    have hls := cellsP_length (swapG P j)
    rw [swapG_length] at hls
    by_cases hi : i < P.length * 2
    · obtain ⟨q, hq⟩ : ∃ q, i = q * 2 ∨ i = q * 2 + 1 := ⟨i / 2, by omega⟩
      have hqp : q < (swapG P j).length := by rw [swapG_length]; omega
      obtain ⟨s0, s1⟩ := cellsP_get (swapG P j) q hqp
      obtain ⟨p0, p1⟩ := cellsP_get P q (by rw [swapG_length] at hqp; exact hqp)
      have hsw : (swapG P j)[q] = if q = j + 1 then P[j] else if q = j then P[j + 1] else P[q]'(by rw [swapG_length] at hqp; exact hqp) := by
        have := swapG_at hj
        simp only [this, List.getElem_set]
        by_cases e1 : j + 1 = q
        · rw [if_pos e1, if_pos (show q = j + 1 from e1.symm)]
        · rw [if_neg e1, if_neg (show ¬ q = j + 1 from fun h => e1 h.symm)]
          by_cases e2 : j = q
          · rw [if_pos e2, if_pos (show q = j from e2.symm)]
          · rw [if_neg e2, if_neg (show ¬ q = j from fun h => e2 h.symm)]
      simp only [List.getElem?_set, List.length_set, hl]
      rcases hq with rfl | rfl
      · rw [s0, hsw]
        by_cases e1 : q = j + 1
        · subst e1
          rw [if_neg (by omega), if_neg (by omega), if_neg (by omega), if_pos rfl, if_pos (by omega), if_pos rfl]
        · by_cases e2 : q = j
          · subst e2
            rw [if_neg (by omega), if_pos rfl, if_pos (by omega), if_neg e1, if_pos rfl]
          · rw [if_neg (by omega), if_neg (by omega), if_neg (by omega), if_neg (by omega), if_neg e1, if_neg e2]
            exact p0
      · rw [s1, hsw]
        by_cases e1 : q = j + 1
        · subst e1
          rw [if_neg (by omega), if_neg (by omega), if_pos rfl, if_pos (by omega), if_pos rfl]
        · by_cases e2 : q = j
          · subst e2
            rw [if_pos rfl, if_pos (by omega), if_neg e1, if_pos rfl]
          · rw [if_neg (by omega), if_neg (by omega), if_neg (by omega), if_neg (by omega), if_neg e1, if_neg e2]
            exact p1
    · rw [List.getElem?_eq_none (by simp only [List.length_set]; omega), List.getElem?_eq_none (by omega)]
  rw [← he]
  exact h4

def SrtI (w : World) (B g n cap : Nat) (P : List PT) (k m : Nat) (wx : World) : Prop := ∃ R : List PT, Hid (R.length = n) ∧ Hid (∀ r ∈ R, ∃ a k c, r.2 = Value.slice a k c) ∧ Hid (bubG (fun r => r.1) m R = srtG (fun r => r.1) (k + 1) P) ∧ Hid (wx.ownsRow B 40 2 (.slice (some ⟨g, 0, none⟩) n cap) n (cellsP R)) ∧ Hid (w.grownBy wx (some g))
set_option maxRecDepth 100000 in
set_option maxHeartbeats 8000000 in
theorem insertR_any (P : List PT) (B g n cap : Nat) (w : World) (hn : n = P.length) (hl : n ≤ 1000000) (h : w.ownsRow B 40 2 (.slice (some ⟨g, 0, none⟩) n cap) n (cellsP P)) (hv : ∀ r ∈ P, ∃ a k c, r.2 = .slice a k c) :
    Calls Tryz.prog 68 #[.slice (some ⟨g, 0, none⟩) n cap, .int .i64 0, .int .i64 n, .func (.func 26) #[] #[]] w fun e w' => e = .returned (.tuple #[]) ∧ w'.ownsRow B 40 2 (.slice (some ⟨g, 0, none⟩) n cap) n (cellsP (srtG (fun r => r.1) (n - 1) P)) ∧ w.grownBy w' (some g) := by
  have HV := Lib.hid hv
  have HN := Lib.hid hn
  have HR := Lib.hid h
  have hlt0 := World.ownsRow.lt h
  have HG := Lib.hid (hlt0 g rfl)
  clear hv hn h hlt0
  go_enter Tryz.func68, Tryz.ntmps68
  go_wp2
  go_loopw [8] (fun i wr => ∃ k : Nat, (k + 1 ≤ n ∨ k = 0) ∧ i = .int .i64 ((k + 1 : Nat) : Int) ∧ Hid (wr.ownsRow B 40 2 (.slice (some ⟨g, 0, none⟩) n cap) n (cellsP (srtG (fun r => r.1) k P))) ∧ Hid (w.grownBy wr (some g))) (fun i wr => n + 1 - (intOf i).toNat)
  case atStart => exact ⟨0, .inr rfl, rfl, HR, Lib.hid ⟨rfl, rfl, rfl, Nat.le_refl _, fun _ _ _ => rfl⟩⟩
  case round =>
    obtain ⟨k, hk, rfl, HRk, HGk⟩ := hrel
    rename World => wo
    by_cases hlt : k + 1 < n
    · have t1 : decide (((k + 1 : Nat) : Int) < (n : Int)) = true := by simp; omega
      have t1' : decide ((k : Int) + 1 < (n : Int)) = true := by simp; omega
      go_wp2
      go_loopw [9] (fun i wx => ∃ m : Nat, m ≤ k + 1 ∧ i = .int .i64 (m : Int) ∧ SrtI w B g n cap P k m wx) (fun i wx => (intOf i).toNat)
      case atStart => exact ⟨k + 1, Nat.le_refl _, by first | rfl | go_num, srtG (fun r => r.1) k P, Lib.hid (by rw [srtG_length]; exact HN.out.symm), Lib.hid (fun r hr => HV.out r (srtG_mem k hr)), Lib.hid rfl, HRk, HGk⟩
      case round =>
        obtain ⟨m, hm, rfl, R, HLn, HVr, HBu, HRx, HGx⟩ := hrel
        by_cases hm0 : m = 0
        · subst hm0
          go_upto_region 4 with (fail)
          refine region_det (by kernel_rfl) (fun w' => w' = wr.drew) (rfl) (by kernel_rfl) ?_
          simp only [List.toList_toArray]
          repeat' (first
            | (refine det_shut (by rfl) ?_; (simp only [Act.put, List.setIfInBounds_toArray, List.set_cons_zero, List.set_cons_succ]))
            | (apply det_val; (case hw => rfl); (case hv => (intro w' hS; (subst hS); go_simp; first | done | with_reducible exact rfl)); (simp only [Act.put, List.setIfInBounds_toArray, List.set_cons_zero, List.set_cons_succ]))
            | (apply det_call; (case hw => rfl); (case hv => (intro w' hS; (subst hS); go_simp; first | done | with_reducible exact rfl | with_reducible exact ⟨rfl, rfl⟩)); (case hc => (intro w' hS; (first | (go_at_call 26; with_reducible exact absurd hS id)))); (simp only [Act.put, List.setIfInBounds_toArray, List.set_cons_zero, List.set_cons_succ]))
            | fail)
          intro w9 hw9
          subst hw9
          have hr9 : (wr.drew).ownsRow B 40 2 (.slice (some ⟨g, 0, none⟩) n cap) n (cellsP (srtG (fun r => r.1) (k + 1) P)) := by
            have hb := HBu.out
            rw [← hb]
            exact HRx.out.drew
          have hg9 : w.grownBy wr.drew (some g) := ⟨HGx.out.os, HGx.out.tape, HGx.out.output, HGx.out.size, HGx.out.block⟩
          have HR9 := Lib.hid hr9
          have HG9 := Lib.hid hg9
          clear hr9 hg9
          go_wp2
          go_roundw
          case rel => exact ⟨k + 1, .inl (by omega), by first | rfl | go_num, HR9, HG9⟩
          case measure => simp [intOf]; omega
        · obtain ⟨m, rfl⟩ : ∃ q, m = q + 1 := ⟨m - 1, by omega⟩
          have hmn : m + 1 < R.length := by have := HLn.out; omega
          obtain ⟨y0, y1⟩ := cellsP_get R (m + 1) hmn
          obtain ⟨x0, x1⟩ := cellsP_get R m (by omega)
          obtain ⟨ya, yn, yc, hy⟩ := HVr.out _ (List.getElem_mem hmn)
          obtain ⟨xa, xn, xc, hx⟩ := HVr.out _ (List.getElem_mem (show m < R.length by omega))
          obtain ⟨Y, hY⟩ : ∃ Y : ByteArray, Y = ofL R[m + 1].1 := ⟨_, rfl⟩
          obtain ⟨X, hX⟩ : ∃ X : ByteArray, X = ofL (R[m]'(by omega)).1 := ⟨_, rfl⟩
          have hc := fun j (hj : j < n * 2) => World.ownsRow.cellAt HRx.out j hj
          have hf := fun j => World.ownsRow.frozenAt HRx.out j
          have c0 : wr.cell? ⟨g, (m + 1) * 2, none⟩ = some (.string Y) := by rw [hc _ (by omega), y0, hY]; rfl
          have c1 : wr.cell? ⟨g, (m + 1) * 2 + 1, none⟩ = some (.slice ya yn yc) := by rw [hc _ (by omega), y1, hy]
          have c2 : wr.cell? ⟨g, m * 2, none⟩ = some (.string X) := by rw [hc _ (by omega), x0, hX]; rfl
          have c3 : wr.cell? ⟨g, m * 2 + 1, none⟩ = some (.slice xa xn xc) := by rw [hc _ (by omega), x1, hx]
          have hgl : g < wr.heap.size := Nat.lt_of_lt_of_le HG.out.2 HGx.out.size
          have hst : PairAt wr g ((m + 1) * 2) (m * 2) Y X (.slice ya yn yc) (.slice xa xn xc) wr.drew := ⟨c0, c1, c2, c3, hgl, (Below.refl _ _).drew⟩
          obtain ⟨I, hI⟩ : ∃ I, I = Extern.BytealgCompare.cmp Y X := ⟨_, rfl⟩
          have hIc : I = cmpL R[m + 1].1 (R[m]'(by omega)).1 := by rw [hI, hY, hX]; rfl
          have hcm := fun W => typesCmp_any Y X (.slice ya yn yc) (.slice xa xn xc) W
          simp only [← hI] at hcm
          have HCm := Lib.hid hcm
          have HIc := Lib.hid hIc
          have HYX := Lib.hid (And.intro hY hX)
          have HHy := Lib.hid (And.intro hy hx)
          have q1 : ((m : Int) + 1) < (n : Int) := by have := HLn.out; omega
          have q2 : (m : Int) < (n : Int) := by omega
          have q3 : (0 : Int) < (m : Int) + 1 := by omega
          have q4 : (0 : Int) ≤ (m : Int) + 1 := by omega
          have q5 : ((m : Int) + 1).toNat = m + 1 := by omega
          have q6 : IntKind.i64.wrap ((m : Int) + 1 - 1) = (m : Int) := by rw [IntKind.wrap_i64]; omega
          have q7 : (m : Int) + 1 - 1 = (m : Int) := by omega
          have q8 : IntKind.i64.wrap (m : Int) = (m : Int) := by rw [IntKind.wrap_i64]; omega
          have q9 : (0 : Int) ≤ (m : Int) := by omega
          have q10 : m + 1 < n := by omega
          clear y0 y1 x0 x1 hc hI hIc hcm hY hX hy hx
          by_cases hneg : I < 0
          · have t3 : decide (I < 0) = true := by simpa using hneg
            go_upto_region 4 with (fail)
            refine region_det (by kernel_rfl) (PairAt wr g ((m + 1) * 2) (m * 2) Y X (.slice ya yn yc) (.slice xa xn xc)) (hst) (by kernel_rfl) ?_
            simp only [List.toList_toArray]
            repeat' (first
              | (refine det_shut (by rfl) ?_; (simp only [Act.put, List.setIfInBounds_toArray, List.set_cons_zero, List.set_cons_succ]))
              | (apply det_val; (case hw => rfl); (case hv => (intro w' hS; (obtain ⟨s0, s1, s2, s3, s4, s5⟩ := hS); go_simp; first | done | with_reducible exact rfl)); (simp only [Act.put, List.setIfInBounds_toArray, List.set_cons_zero, List.set_cons_succ]))
              | (apply det_call; (case hw => rfl); (case hv => (intro w' hS; (obtain ⟨s0, s1, s2, s3, s4, s5⟩ := hS); go_simp; first | done | with_reducible exact rfl | with_reducible exact ⟨rfl, rfl⟩)); (case hc => (intro w' hS; (first | (go_at_call 26; with_reducible exact (HCm.out w').mono (fun e w'' h => ⟨h.1, (PairAt.go hS h.2).2.2.2.2⟩))))); (simp only [Act.put, List.setIfInBounds_toArray, List.set_cons_zero, List.set_cons_succ]))
              | fail)
            intro w9 hS9
            have hr9 : w9.ownsRow B 40 2 (.slice (some ⟨g, 0, none⟩) n cap) n (cellsP R) := World.ownsRow.kept HRx.out (row := none) ⟨hS9.2.2.2.2.2.os, hS9.2.2.2.2.2.tape, hS9.2.2.2.2.2.output, hS9.2.2.2.2.2.size, fun k hk _ => hS9.2.2.2.2.2.block k hk⟩ (.inr (by simp [Value.ownBlock]))
            have hg9 : w.grownBy w9 (some g) := grown_trans HGx.out (below_grownR hS9.2.2.2.2.2)
            have hf := fun j => World.ownsRow.frozenAt hr9 j
            have z0 := hf ((m + 1) * 2)
            have z1 := hf ((m + 1) * 2 + 1)
            have z2 := hf (m * 2)
            have z3 := hf (m * 2 + 1)
            obtain ⟨s0, s1, s2, s3, s4, s5⟩ := hS9
            obtain ⟨hsw, hgw⟩ := rowP_swap (j := m) hmn hr9
            have n0 : ((m + 1) * 2 = m * 2) = False := eq_false (by omega)
            have n1 : ((m + 1) * 2 + 1 = m * 2) = False := eq_false (by omega)
            have n2 : ((m + 1) * 2 = m * 2 + 1) = False := eq_false (by omega)
            have n3 : (m * 2 = (m + 1) * 2) = False := eq_false (by omega)
            have n4 : (m * 2 = (m + 1) * 2 + 1) = False := eq_false (by omega)
            have n5 : (m * 2 + 1 = (m + 1) * 2) = False := eq_false (by omega)
            have HSw := Lib.hid hsw
            have HGw := Lib.hid hgw
            have HG9 := Lib.hid hg9
            clear hr9 hg9 hf hsw hgw hst c0 c1 c2 c3 s5
            go_upto_region 6 with (fail)
            go_region_law (fail)
            all_goals
              have e1 : strV (R[m]'(by omega)).1 = .string X := by rw [HYX.out.2]; rfl
              have e2 : strV R[m + 1].1 = .string Y := by rw [HYX.out.1]; rfl
              have hr10 := HSw.out
              have hg10 := HGw.out
              rw [e1, e2, HHy.out.1, HHy.out.2] at hr10 hg10
              have hr11 := hr10.drew
              have hg11 := grown_trans HG9.out hg10
              generalize (((w9.setCell ⟨g, (m + 1) * 2, none⟩ (.string X)).setCell ⟨g, (m + 1) * 2 + 1, none⟩ (.slice xa xn xc)).setCell ⟨g, m * 2, none⟩ (.string Y)).setCell ⟨g, m * 2 + 1, none⟩ (.slice ya yn yc) = W10 at hr11 hg11 ⊢
              have hg12 : w.grownBy W10.drew (some g) := ⟨hg11.os, hg11.tape, hg11.output, hg11.size, hg11.block⟩
              have hb12 : bubG (fun r => r.1) m (swapG R m) = srtG (fun r => r.1) (k + 1) P := by rw [← HBu.out, bubG_go hmn (by rw [← HIc.out]; exact hneg)]
              have HR12 := Lib.hid hr11
              have HG12 := Lib.hid hg12
              have HB12 := Lib.hid hb12
              have HL12 : Hid ((swapG R m).length = n) := Lib.hid (by rw [swapG_length]; exact HLn.out)
              have HV12 := Lib.hid (fun r (hr : r ∈ swapG R m) => HVr.out r (swapG_mem hr))
              clear e1 e2 hr10 hg10 hr11 hg11 hg12 hb12 s0 s1 s2 s3 z0 z1 z2 z3
              go_wp2
              go_roundw
              case rel => exact ⟨m, by omega, by first | rfl | go_num, swapG R m, HL12, HV12, HB12, HR12, HG12⟩
              case measure => simp [intOf]; omega
          · have t3 : decide (I < 0) = false := by simpa using hneg
            go_upto_region 4 with (fail)
            refine region_det (by kernel_rfl) (PairAt wr g ((m + 1) * 2) (m * 2) Y X (.slice ya yn yc) (.slice xa xn xc)) (hst) (by kernel_rfl) ?_
            simp only [List.toList_toArray]
            repeat' (first
              | (refine det_shut (by rfl) ?_; (simp only [Act.put, List.setIfInBounds_toArray, List.set_cons_zero, List.set_cons_succ]))
              | (apply det_val; (case hw => rfl); (case hv => (intro w' hS; (obtain ⟨s0, s1, s2, s3, s4, s5⟩ := hS); go_simp; first | done | with_reducible exact rfl)); (simp only [Act.put, List.setIfInBounds_toArray, List.set_cons_zero, List.set_cons_succ]))
              | (apply det_call; (case hw => rfl); (case hv => (intro w' hS; (obtain ⟨s0, s1, s2, s3, s4, s5⟩ := hS); go_simp; first | done | with_reducible exact rfl | with_reducible exact ⟨rfl, rfl⟩)); (case hc => (intro w' hS; (first | (go_at_call 26; with_reducible exact (HCm.out w').mono (fun e w'' h => ⟨h.1, (PairAt.go hS h.2).2.2.2.2⟩))))); (simp only [Act.put, List.setIfInBounds_toArray, List.set_cons_zero, List.set_cons_succ]))
              | fail)
            intro w9 hS9
            have hr9 : w9.ownsRow B 40 2 (.slice (some ⟨g, 0, none⟩) n cap) n (cellsP (srtG (fun r => r.1) (k + 1) P)) := by
              have hb := HBu.out
              rw [bubG_stop hmn (by rw [← HIc.out]; exact hneg)] at hb
              rw [← hb]
              exact World.ownsRow.kept HRx.out (row := none) ⟨hS9.2.2.2.2.2.os, hS9.2.2.2.2.2.tape, hS9.2.2.2.2.2.output, hS9.2.2.2.2.2.size, fun k hk _ => hS9.2.2.2.2.2.block k hk⟩ (.inr (by simp [Value.ownBlock]))
            have hg9 : w.grownBy w9 (some g) := grown_trans HGx.out (below_grownR hS9.2.2.2.2.2)
            have HR9 := Lib.hid hr9
            have HG9 := Lib.hid hg9
            clear hr9 hg9 hS9
            go_wp2
            go_roundw
            case rel => exact ⟨k + 1, .inl (by omega), by first | rfl | go_num, HR9, HG9⟩
            case measure => simp [intOf]; omega
    · have t1 : decide (((k + 1 : Nat) : Int) < (n : Int)) = false := by simp; omega
      have t1' : decide ((k : Int) + 1 < (n : Int)) = false := by simp; omega
      have hke : k = n - 1 := by omega
      go_wp2
      go_end0
      exact ⟨rfl, by rw [← hke]; exact HRk.out, HGk.out⟩
end Go.Proofs.YtncnlbmdkognnaaGreatDoor


namespace Go.Proofs.YtncnlbmdkognnaaGreatDoor
open Go.RowKit
set_option linter.unusedVariables false
set_option linter.unusedSimpArgs false

set_option maxRecDepth 100000 in
set_option maxHeartbeats 4000000 in
theorem stableR_any (n : Nat) (hl : n < 20) (sa : Option Addr) (sc : Nat) (w : World) (Q : World → Prop) (hi : Calls Tryz.prog 68 #[.slice sa n sc, .int .i64 0, .int .i64 n, .func (.func 26) #[] #[]] w fun e w' => e = .returned (.tuple #[]) ∧ Q w') :
    Calls Tryz.prog 48 #[.slice sa n sc, .int .i64 n, .func (.func 26) #[] #[]] w fun e w' => e = .returned (.tuple #[]) ∧ Q w' := by
  have HI := Lib.hid hi
  have t1 : decide ((20 : Int) ≤ (n : Int)) = false := by simp; omega
  have t1' : decide (20 ≤ n) = false := by simp; omega
  have t2 : decide ((20 : Int) < (n : Int)) = false := by simp; omega
  have t2' : decide (20 < n) = false := by simp; omega
  clear hi
  go_enter Tryz.func48, Tryz.ntmps48
  go_wp2
  go_loopw [7, 8] (fun a b wr => a = .int .i64 0 ∧ b = .int .i64 20 ∧ Hid (wr = w)) (fun a b wr => 1)
  case atStart => exact ⟨rfl, rfl, Lib.hid rfl⟩
  case round =>
    obtain ⟨rfl, rfl, hwr⟩ := hrel
    have hwr := hwr.out
    subst hwr
    go_wp2_with (go_at_call 68; refine (HI.out).mono ?_; rintro e w2 ⟨rfl, hb2⟩; have HB2 := Lib.hid hb2; clear hb2)
    go_loopw [6] (fun a wx => a = .int .i64 20 ∧ Hid (wx = w2)) (fun a wx => 1)
    case atStart => exact ⟨rfl, Lib.hid rfl⟩
    case round =>
      obtain ⟨rfl, hwr2⟩ := hrel
      have hwr2 := hwr2.out
      subst hwr2
      go_wp2
      go_end0
      exact ⟨rfl, HB2.out⟩

set_option maxRecDepth 100000 in
set_option maxHeartbeats 1000000 in
theorem sortedR_any (n : Nat) (hl : n < 20) (sa : Option Addr) (sc : Nat) (w : World) (Q : World → Prop) (hi : Calls Tryz.prog 68 #[.slice sa n sc, .int .i64 0, .int .i64 n, .func (.func 26) #[] #[]] w fun e w' => e = .returned (.tuple #[]) ∧ Q w') :
    Calls Tryz.prog 25 #[.slice sa n sc, .func (.func 26) #[] #[]] w fun e w' => e = .returned (.tuple #[]) ∧ Q w' := by
  have HI := Lib.hid (stableR_any n hl sa sc w Q hi)
  clear hi
  go_enter Tryz.func25, Tryz.ntmps25
  go_wp2_with (go_at_call 48; refine (HI.out).mono ?_; rintro e w2 ⟨rfl, hb2⟩; have HB2 := Lib.hid hb2; clear hb2)
  go_end0
  exact ⟨rfl, HB2.out⟩

theorem ownA_sort {B g n cap : Nat} {w w' : World} {L : List AT} {P : List PT} (hP : RowP B w (.slice (some ⟨g, 0, none⟩) n cap) P) (hs : Says B w (.slice (some ⟨g, 0, none⟩) n cap) P L) (hn : n = P.length)
    (hr : w'.ownsRow B 40 2 (.slice (some ⟨g, 0, none⟩) n cap) n (cellsP (srtG (fun r => r.1) (n - 1) P))) (hg : w.grownBy w' (some g)) : OwnA B w' (.slice (some ⟨g, 0, none⟩) n cap) (sortA L) := by
  have hPL := hs.1
  have hP1 : P = (P.zip L).map (fun z => z.1) := by
    have := List.map_fst_zip (l₁ := P) (l₂ := L) (by omega)
    exact this.symm
  have hL1 : L = (P.zip L).map (fun z => z.2) := by
    have := List.map_snd_zip (l₁ := P) (l₂ := L) (by omega)
    exact this.symm
  have hz : ∀ z ∈ P.zip L, ∃ (j : Nat) (h1 : j < L.length) (h2 : j < P.length), z = (P[j], L[j]) := fun z hm => by
    obtain ⟨j, hj, rfl⟩ := List.getElem_of_mem hm
    have hj' : j < P.length ∧ j < L.length := by rw [List.length_zip] at hj; omega
    exact ⟨j, hj'.2, hj'.1, List.getElem_zip⟩
  have e1 : srtG (fun r : PT => r.1) (n - 1) P = (srtG (fun z : PT × AT => z.1.1) (n - 1) (P.zip L)).map (fun z => z.1) := by
    rw [srtG_map (key' := fun r : PT => r.1) (fun z : PT × AT => z.1) (n - 1) (P.zip L) (fun _ _ => rfl), ← hP1]
  have e2 : sortA L = (srtG (fun z : PT × AT => z.1.1) (n - 1) (P.zip L)).map (fun z => z.2) := by
    unfold sortA
    rw [srtG_map (key' := fun a : AT => a.1) (fun z : PT × AT => z.2) (n - 1) (P.zip L) (fun z hm => by
      obtain ⟨j, h1, h2, rfl⟩ := hz z hm
      exact (hs.2 j h1 h2).1.symm), ← hL1, hn, hPL]
  refine ⟨srtG (fun r => r.1) (n - 1) P, ?_, ?_, fun j h1 h2 => ?_⟩
  · show w'.ownsRow B 40 2 (.slice (some ⟨g, 0, none⟩) n cap) (srtG (fun r => r.1) (n - 1) P).length (cellsP (srtG (fun r => r.1) (n - 1) P))
    rw [srtG_length, ← hn]
    exact hr
  · rw [e1, e2, List.length_map, List.length_map]
  · simp only [e1, e2, List.getElem_map]
    have hm := srtG_mem _ (List.getElem_mem (show j < (srtG (fun z : PT × AT => z.1.1) (n - 1) (P.zip L)).length by rw [e2, List.length_map] at h1; exact h1))
    obtain ⟨i, i1, i2, hi⟩ := hz _ hm
    rw [hi]
    obtain ⟨s1, s2⟩ := hs.2 i i1 i2
    refine ⟨s1, s2.imp (fun b hb => ⟨hb.1, Nat.lt_of_lt_of_le hb.2.1 hg.size, hb.2.2⟩) (fun b o hb => ?_)⟩
    have := hg.block b hb.2.1 hb.2.2
    simp only [World.cell?, this]
theorem sorted_own (B : Nat) (L : List AT) (hl : L.length < 20) (v : Value) (w : World) (hB : B ≤ w.heap.size) (h : OwnA B w v L) :
    Calls Tryz.prog 25 #[v, .func (.func 26) #[] #[]] w fun e w' => e = .returned (.tuple #[]) ∧ OwnA B w' v (sortA L) ∧ Below B w w' := by
  obtain ⟨P, hP, hs⟩ := id h
  by_cases hne : P = []
  · have hL : L = [] := List.eq_nil_of_length_eq_zero (by have := hs.1; rw [hne] at this; simpa using this.symm)
    subst hL
    have hA := ownA_isA h (by simp)
    exact (sorted_any [] (by simp) (fun i h => absurd h (by simp)) v w hA).mono fun e w' ⟨he, hb⟩ => ⟨he, ownA_below h hb, hb.mono hB⟩
  · obtain ⟨g, cap, rfl, hBg, hgl, _⟩ := rowP_at hP hne
    have hn : P.length < 20 := by rw [hs.1]; exact hl
    obtain ⟨n, hnn⟩ : ∃ n, n = P.length := ⟨_, rfl⟩
    rw [← hnn] at hP hs hn ⊢
    have hrow : w.ownsRow B 40 2 (.slice (some ⟨g, 0, none⟩) n cap) n (cellsP P) := by
      have hP' : w.ownsRow B 40 2 (.slice (some ⟨g, 0, none⟩) n cap) P.length (cellsP P) := hP
      rw [← hnn] at hP'
      exact hP'
    have hv : ∀ r ∈ P, ∃ a k c, r.2 = Value.slice a k c := fun r hr => by
      obtain ⟨j, hj, rfl⟩ := List.getElem_of_mem hr
      obtain ⟨a, c, e, _⟩ := (hs.2 j (by rw [← hs.1]; exact hj) hj).2
      exact ⟨a, _, c, e⟩
    have hi := insertR_any P B g n cap w hnn (by omega) hrow hv
    exact (sortedR_any n hn (some ⟨g, 0, none⟩) cap w _ hi).mono fun e w' ⟨he, hr, hg⟩ => ⟨he, ownA_sort hP hs hnn hr hg, ⟨hg.os, hg.tape, hg.output, hg.size, fun k hk => hg.block k (Nat.lt_of_lt_of_le hk hB) (fun e => by have := Option.some.inj e; omega)⟩⟩

set_option maxRecDepth 100000 in
set_option maxHeartbeats 4000000 in
theorem normS_entry (d : ByteArray) (hd : d.size ≤ 140737488351232) (L : List AT) (hs : smallA L) (hl : L.length < 20) (v : Value) (w : World) (h : IsA w.heap.size w L v) :
    Calls Tryz.prog 10 #[.agg #[.string d, v]] w fun e w' => ∃ v', e = .returned (.agg #[strV (nameN d.data.toList), v']) ∧ OwnA w.heap.size w' v' (sortA (normL L)) ∧ Below w.heap.size w w' := by
  obtain ⟨sa, sc, hv, _⟩ := id h
  obtain ⟨n, hn⟩ : ∃ n, n = L.length := ⟨_, rfl⟩
  rw [← hn] at hv
  subst hv
  have HI := Lib.hid h
  have HS := Lib.hid hs
  have HN := Lib.hid hn
  have hl5 : n < 20 := by omega
  have HSt := Lib.hid (norm_start w d (.slice sa n sc))
  obtain ⟨T, hT⟩ : ∃ T : ByteArray, strV (nameN d.data.toList) = .string T := ⟨_, rfl⟩
  have hnt := fun w => nameText_any d hd w
  simp only [hT] at hnt
  rw [hT]
  have HNt := Lib.hid hnt
  clear h hs hn hnt hT hl
  go_enter Tryz.func10, Tryz.ntmps10
  go_wp2
  rw [show w.heap.size + 1 + 1 = w.heap.size + 2 from rfl]
  have HSt2 := HSt
  generalize (((w.alloc (.cells #[.string d, .slice sa n sc] 24)).alloc (.cells #[.string ⟨#[]⟩, .slice none 0 0] 24)).alloc (.cells #[.slice sa n sc, .int .i64 0] 54)) = W3 at HSt2 ⊢
  clear HSt
  go_loopw [4] (fun l wr => ∃ j : Nat, j ≤ n ∧ lenOf l = j ∧ NormAt w.heap.size d w wr (.slice sa n sc) l j (normL (L.take j))) (fun l wr => n - lenOf l)
  case atStart => exact ⟨0, by omega, rfl, HSt2.out⟩
  case round =>
    obtain ⟨j, hj, hlj, hat⟩ := hrel
    obtain ⟨la, ln, lc, rfl⟩ := ownA_sl hat.own
    simp only [lenOf] at hlj
    subst hlj
    have HAt := Lib.hid hat
    have hmo := more_any (w.heap.size + 2) sa n sc ln wr hat.m0 hat.m1
    have HMo := Lib.hid hmo
    clear hmo hat
    by_cases hlt : ln < n
    · have t1 : decide ((ln : Int) < (n : Int)) = true := by simp; omega
      have hjl : ln < L.length := by rw [← HN.out]; exact hlt
      rw [t1] at HMo
      have htk := normL_take L ln hjl
      have HTk := Lib.hid htk
      have hwl : (normL (L.take ln)).length ≤ 1000 := by unfold normL; rw [List.length_map, List.length_take]; omega
      clear htk t1
      go_wp2_with (first
        | (go_at_call 23; refine (HMo.out).mono ?_; rintro e w2 ⟨rfl, m, hw2⟩; have hb2 : Below wr.heap.size wr w2 := (by { rw [hw2]; exact below_drewN (Below.refl _ _) m }); have HAt2 := Lib.hid (HAt.out.go hb2); clear hw2 hb2)
        | (go_at_call 24; refine (next_any L HS.out (w.heap.size + 2) ln (.slice sa n sc) _ (by have := HAt2.out.size; omega) ((HI.out.below HAt2.out.bel (by omega)).below (Below.refl _ _) (Nat.le_refl _)) hjl HAt2.out.m0 HAt2.out.m1 HAt2.out.mz).mono ?_; rintro e w5 ⟨u5, rfl, hu5, hg5, h50, h51, h5z⟩; have HAt5 := Lib.hid (HAt2.out.next hg5 h50 h51 h5z); (obtain ⟨ya, yc, hye, _⟩ := id hu5); subst hye; have HU5 := Lib.hid hu5; have HO2 := Lib.hid HAt2.out.own; have hz2 := HAt2.out.size; clear hu5 hg5 h50 h51 h5z)
        | (at_builtin; refine wpList_append_attr rfl (.tmp 11) (.tmp 14) rfl (w.heap.size + 3) (.slice la ln lc) (normL (L.take ln)) rfl (ofL (nameA L[ln].1)) (.slice ya L[ln].2.length yc) L[ln].2 HAt5.out.own (HU5.out.imp (fun b hb => ⟨by have := hb.1; omega, hb.2, fun e => absurd (ownA_lt HO2.out b e.symm) (by have := hb.1; omega)⟩) (fun _ _ _ => rfl)) rfl rfl (by omega) HAt5.out.size ?_; intro v6 w6 hown6 hb6; have HAt6 := Lib.hid (HAt5.out.app hb6 hown6); clear hown6 hb6))
      obtain ⟨ra, rn, rc, rfl⟩ := ownA_sl HAt6.out.own
      have hrn : rn = ln + 1 := by
        obtain ⟨_, _, h⟩ := ownA_slice HAt6.out.own
        simp only [Value.slice.injEq] at h
        rw [h.2.1]
        unfold normL
        simp; omega
      subst hrn
      go_roundw
      case rel => exact ⟨ln + 1, by omega, rfl, by rw [HTk.out]; have := HAt6.out; rw [ofL_list] at this; exact this⟩
      case measure => simp [lenOf]; omega
    · obtain rfl : ln = n := by omega
      have t1 : decide ((ln : Int) < (ln : Int)) = false := by simp
      rw [t1] at HMo
      have hall : normL (L.take ln) = normL L := by rw [List.take_of_length_le (by rw [← HN.out]; exact Nat.le_refl _)]
      have HAll := Lib.hid hall
      clear t1 hall
      go_wp2_with (first
        | (go_at_call 23; refine (HMo.out).mono ?_; rintro e w2 ⟨rfl, m, hw2⟩; have hb2 : Below wr.heap.size wr w2 := (by { rw [hw2]; exact below_drewN (Below.refl _ _) m }); have HAt2 := Lib.hid (HAt.out.go hb2); clear hw2 hb2)
        | (go_at_call 25; refine (sorted_own (w.heap.size + 3) (normL L) (by unfold normL; rw [List.length_map, ← HN.out]; exact hl5) _ _ HAt2.out.size (by have := HAt2.out.own; rwa [HAll.out] at this)).mono ?_; rintro e w3 ⟨rfl, ho3, hb3⟩; have HAt3 := Lib.hid (HAt2.out.app hb3 ho3); have f0 := HAt3.out.box.1; clear hb3 ho3)
        | (go_at_call 28; refine (HNt.out _).mono ?_; rintro e w4 ⟨rfl, hb4⟩; have HAt4 := Lib.hid (HAt3.out.go hb4); (obtain ⟨_, p0, p1, q0, q1⟩ := HAt4.out.box); clear hb4))
      refine bodyPost_ret (v := .agg #[.string T, .slice la ln lc]) (by simp [results, Tryz.results10, go_sem, p0, p1]) rfl ⟨_, rfl, ?_, (HAt4.out.bel.setCell (p := ⟨w.heap.size + 1, 0, none⟩) (show w.heap.size ≤ w.heap.size + 1 by omega) _).setCell (p := ⟨w.heap.size + 1, 1, none⟩) (show w.heap.size ≤ w.heap.size + 1 by omega) _⟩
      have ho := ownA_set (ownA_set HAt4.out.own ⟨w.heap.size + 1, 0, none⟩ (.string T) (show w.heap.size + 1 < w.heap.size + 3 by omega)) ⟨w.heap.size + 1, 1, none⟩ (.slice la ln lc) (show w.heap.size + 1 < w.heap.size + 3 by omega)
      have ho2 := ownA_lower (B' := w.heap.size) ho (by omega)
      exact ho2
end Go.Proofs.YtncnlbmdkognnaaGreatDoor


namespace Go.Proofs.YtncnlbmdkognnaaGreatDoor
open Go.RowKit
set_option linter.unusedVariables false

def MapAt (f : UInt8 → UInt8) (w : World) (s : ByteArray) (j : Nat) (wr : World) : Prop :=
  Below w.heap.size w wr ∧ ∃ A : Array Value, wr.heap[w.heap.size]? = some (.cells A 5 (A.size, A.size + 1)) ∧ s.size ≤ A.size ∧ ∀ k (h : k < s.size), A[k]? = some (.int .u8 ((if k < j then f s[k] else s[k]).toNat : Int))

theorem mapAt_start (f : UInt8 → UInt8) (w : World) (s : ByteArray) : MapAt f w s 0 (Lib.bytesWorld w 5 s) := by
  refine ⟨⟨rfl, rfl, rfl, by rw [Lib.bytesWorld_size]; omega, fun k hk => Lib.bytesWorld_at_old w _ s k hk⟩, _, Lib.bytesWorld_at_new w _ s, by simp [Lib.bytesCells], fun k h => ?_⟩
  have hw := Lib.bytesWorld_cell w 5 s k h
  have h1 : k < s.data.toList.length := by simpa using h
  simp only [World.cell?, Lib.bytesWorld_at_new] at hw
  have hb : k < (Lib.bytesCells w 5 s).size := by simp [Lib.bytesCells]; omega
  rw [if_neg (by omega)]
  simp [List.getD, List.getElem?_eq_getElem h1] at hw
  exact hw

theorem MapAt.cell {f : UInt8 → UInt8} {w wr : World} {s : ByteArray} {j : Nat} (h : MapAt f w s j wr) (hj : j < s.size) : wr.cell? ⟨w.heap.size, j, none⟩ = some (.int .u8 (s[j].toNat : Int)) ∧ wr.frozen? ⟨w.heap.size, j, none⟩ = false := by
  obtain ⟨_, A, hA, hs, hc⟩ := h
  have := hc j hj
  rw [if_neg (by omega)] at this
  refine ⟨by simp only [World.cell?, hA]; simpa using this, by simp only [World.frozen?, hA]; simp; omega⟩
theorem MapAt.skip {f : UInt8 → UInt8} {w wr : World} {s : ByteArray} {j : Nat} (h : MapAt f w s j wr) (hj : j < s.size) (he : f s[j] = s[j]) : MapAt f w s (j + 1) wr := by
  obtain ⟨hb, A, hA, hs, hc⟩ := h
  refine ⟨hb, A, hA, hs, fun k hk => ?_⟩
  rw [hc k hk]
  by_cases h1 : k < j
  · rw [if_pos h1, if_pos (by omega)]
  · rw [if_neg h1]
    by_cases h2 : k = j
    · subst h2; rw [if_pos (by omega), he]
    · rw [if_neg (by omega)]
theorem MapAt.store {f : UInt8 → UInt8} {w wr : World} {s : ByteArray} {j : Nat} (h : MapAt f w s j wr) (hj : j < s.size) (n : Int) (hn : n = ((f s[j]).toNat : Int)) : MapAt f w s (j + 1) (wr.setCell ⟨w.heap.size, j, none⟩ (.int .u8 n)) := by
  subst hn
  obtain ⟨hb, A, hA, hs, hc⟩ := h
  refine ⟨hb.setCell (p := ⟨w.heap.size, j, none⟩) (Nat.le_refl _) _, A.setIfInBounds j (.int .u8 (f s[j]).toNat), ?_, by simpa using hs, fun k hk => ?_⟩
  · obtain ⟨hlt, hv⟩ := Array.getElem?_eq_some_iff.1 hA
    show (wr.heap.modify w.heap.size _)[w.heap.size]? = _
    rw [Array.getElem?_eq_getElem (by rw [Array.size_modify]; exact hlt), Array.getElem_modify_self, hv]
    simp
  · rw [Array.getElem?_setIfInBounds]
    by_cases h2 : j = k
    · subst h2; rw [if_pos rfl, if_pos (by omega), if_pos (by omega)]
    · rw [if_neg h2, hc k hk]
      by_cases h1 : k < j
      · rw [if_pos h1, if_pos (by omega)]
      · rw [if_neg h1, if_neg (by omega)]
theorem MapAt.conv {f : UInt8 → UInt8} {w wr : World} {s : ByteArray} {cap : Nat} (h : MapAt f w s s.size wr) :
    (convert 36 9 (.slice (some ⟨w.heap.size, 0, none⟩) s.size cap)).run Tryz.prog wr = .ok (.string ⟨(s.data.toList.map f).toArray⟩) wr := by
  obtain ⟨_, A, hA, hs, hc⟩ := h
  have hl : s.size = (s.data.toList.map f).length := by simp
  conv => lhs; rw [hl]
  refine run_convert_bytes_back wr 36 9 5 _ cap (s.data.toList.map f) Tryz.underlying36 Tryz.underlying5 Tryz.underlying9 fun j hj => ?_
  have hj' : j < s.size := by rw [hl]; exact hj
  have e : ((⟨w.heap.size, 0, none⟩ : Addr).add j) = ⟨w.heap.size, j, none⟩ := by simp [Addr.add]; omega
  have := hc j hj'
  rw [if_pos hj'] at this
  rw [e]
  simp only [World.cell?, hA]
  simp
  exact this


def upC (c : UInt8) : UInt8 := if 97 ≤ c.toNat ∧ c.toNat ≤ 122 then UInt8.ofNat (c.toNat - 32) else c
def upL (l : List UInt8) : List UInt8 := l.map upC
theorem upC_toNat (c : UInt8) : (upC c).toNat = if 97 ≤ c.toNat ∧ c.toNat ≤ 122 then c.toNat - 32 else c.toNat := by
  unfold upC; split
  · simp; omega
  · rfl
theorem upL_length (l : List UInt8) : (upL l).length = l.length := by simp [upL]
end Go.Proofs.YtncnlbmdkognnaaGreatDoor


namespace Go.Proofs.YtncnlbmdkognnaaGreatDoor
open Go.RowKit
set_option linter.unusedVariables false

def perL (n : List UInt8) : List AT := [([99, 110], [n]), ([111, 98, 106, 101, 99, 116, 99, 108, 97, 115, 115], [[112, 101, 114, 115, 111, 110]]), ([115, 110], [[115]])]
def perD (n : List UInt8) : List UInt8 := [99, 110, 61] ++ n ++ [44, 111, 61, 120]

structure PerAt (w : World) (g : Nat) (N : ByteArray) : Prop where
  b1 : w.heap[g - 3]? = some (.cells #[.string N] 9 (0, 0))
  b2 : w.heap[g - 2]? = some (.cells #[.string ⟨#[112, 101, 114, 115, 111, 110]⟩] 9 (0, 0))
  b3 : w.heap[g - 1]? = some (.cells #[.string ⟨#[115]⟩] 9 (0, 0))
  b4 : w.heap[g]? = some (.cells #[.string ⟨#[99, 110]⟩, .slice (some ⟨g - 3, 0, none⟩) 1 1, .string ⟨#[111, 98, 106, 101, 99, 116, 99, 108, 97, 115, 115]⟩, .slice (some ⟨g - 2, 0, none⟩) 1 1, .string ⟨#[115, 110]⟩, .slice (some ⟨g - 1, 0, none⟩) 1 1] 40 (0, 0))
  lt : g < w.heap.size
theorem PerAt.below {w w' : World} {g n : Nat} {N : ByteArray} (h : PerAt w g N) (hb : Below n w w') (hn : g < n) : PerAt w' g N :=
  ⟨(hb.block _ (by omega)).trans h.b1, (hb.block _ (by omega)).trans h.b2, (hb.block _ (by omega)).trans h.b3, (hb.block _ hn).trans h.b4, Nat.lt_of_lt_of_le h.lt hb.size⟩
theorem PerAt.cells {w : World} {g : Nat} {N : ByteArray} (h : PerAt w g N) : w.cell? ⟨g, 2, none⟩ = some (.string ⟨#[111, 98, 106, 101, 99, 116, 99, 108, 97, 115, 115]⟩) ∧ w.cell? ⟨g, 3, none⟩ = some (.slice (some ⟨g - 2, 0, none⟩) 1 1) ∧ w.cell? ⟨g, 4, none⟩ = some (.string ⟨#[115, 110]⟩) ∧ w.cell? ⟨g, 5, none⟩ = some (.slice (some ⟨g - 1, 0, none⟩) 1 1) :=
  ⟨by simp only [World.cell?, h.b4]; rfl, by simp only [World.cell?, h.b4]; rfl, by simp only [World.cell?, h.b4]; rfl, by simp only [World.cell?, h.b4]; rfl⟩
theorem per_blocks (w : World) (N : ByteArray) (o : Obj) : PerAt (((((w.alloc o).alloc (.cells #[.string N] 9)).alloc (.cells #[.string ⟨#[112, 101, 114, 115, 111, 110]⟩] 9)).alloc (.cells #[.string ⟨#[115]⟩] 9)).alloc (.cells #[.string ⟨#[99, 110]⟩, .slice (some ⟨w.heap.size + 1, 0, none⟩) 1 1, .string ⟨#[111, 98, 106, 101, 99, 116, 99, 108, 97, 115, 115]⟩, .slice (some ⟨w.heap.size + 1 + 1, 0, none⟩) 1 1, .string ⟨#[115, 110]⟩, .slice (some ⟨w.heap.size + 1 + 1 + 1, 0, none⟩) 1 1] 40)) (w.heap.size + 4) N := by
  have s1 : (w.alloc o).heap.size = w.heap.size + 1 := by simp
  have e1 := heap_alloc_new (w.alloc o) (.cells #[.string N] 9)
  rw [s1] at e1
  generalize w.alloc o = W1 at s1 e1 ⊢
  have s2 : (W1.alloc (.cells #[.string N] 9)).heap.size = w.heap.size + 2 := by simp; omega
  have e2 := heap_alloc_new (W1.alloc (.cells #[.string N] 9)) (.cells #[.string ⟨#[112, 101, 114, 115, 111, 110]⟩] 9)
  rw [s2] at e2
  generalize W1.alloc (.cells #[.string N] 9) = W2 at s2 e1 e2 ⊢
  have s3 : (W2.alloc (.cells #[.string ⟨#[112, 101, 114, 115, 111, 110]⟩] 9)).heap.size = w.heap.size + 3 := by simp; omega
  have f1 := (heap_alloc_old W2 (.cells #[.string ⟨#[112, 101, 114, 115, 111, 110]⟩] 9) (show w.heap.size + 1 < W2.heap.size by omega)).trans e1
  have e3 := heap_alloc_new (W2.alloc (.cells #[.string ⟨#[112, 101, 114, 115, 111, 110]⟩] 9)) (.cells #[.string ⟨#[115]⟩] 9)
  rw [s3] at e3
  generalize W2.alloc (.cells #[.string ⟨#[112, 101, 114, 115, 111, 110]⟩] 9) = W3 at s3 e2 e3 f1 ⊢
  have s4 : (W3.alloc (.cells #[.string ⟨#[115]⟩] 9)).heap.size = w.heap.size + 4 := by simp; omega
  have g1 := (heap_alloc_old W3 (.cells #[.string ⟨#[115]⟩] 9) (show w.heap.size + 1 < W3.heap.size by omega)).trans f1
  have g2 := (heap_alloc_old W3 (.cells #[.string ⟨#[115]⟩] 9) (show w.heap.size + 2 < W3.heap.size by omega)).trans e2
  generalize W3.alloc (.cells #[.string ⟨#[115]⟩] 9) = W4 at s4 e3 g1 g2 ⊢
  generalize hO : Obj.cells #[.string ⟨#[99, 110]⟩, .slice (some ⟨w.heap.size + 1, 0, none⟩) 1 1, .string ⟨#[111, 98, 106, 101, 99, 116, 99, 108, 97, 115, 115]⟩, .slice (some ⟨w.heap.size + 1 + 1, 0, none⟩) 1 1, .string ⟨#[115, 110]⟩, .slice (some ⟨w.heap.size + 1 + 1 + 1, 0, none⟩) 1 1] 40 = O
  have e4 := heap_alloc_new W4 O
  rw [s4] at e4
  have k1 := (heap_alloc_old W4 O (show w.heap.size + 1 < W4.heap.size by omega)).trans g1
  have k2 := (heap_alloc_old W4 O (show w.heap.size + 2 < W4.heap.size by omega)).trans g2
  have k3 := (heap_alloc_old W4 O (show w.heap.size + 3 < W4.heap.size by omega)).trans e3
  exact ⟨k1, k2, k3, by rw [e4, ← hO]; rfl, by simp; omega⟩

set_option maxRecDepth 100000 in
set_option maxHeartbeats 4000000 in
theorem person_any (N : ByteArray) (hN : N.size ≤ 1000) (w : World) : Calls Tryz.prog 45 #[.string N] w fun e w' => ∃ D g, e = .returned (.agg #[.string D, .slice (some ⟨g, 0, none⟩) 3 3]) ∧ D.data.toList = perD N.data.toList ∧ PerAt w' g N ∧ w.heap.size + 4 = g ∧ Below w.heap.size w w' := by
  obtain ⟨T, hT⟩ : ∃ T, (⟨#[99, 110, 61]⟩ : ByteArray) ++ N = T := ⟨_, rfl⟩
  obtain ⟨D, hD⟩ : ∃ D, T ++ (⟨#[44, 111, 61, 120]⟩ : ByteArray) = D := ⟨_, rfl⟩
  have hTs : T.size = 3 + N.size := by rw [← hT, ← bytes_len, app_list, List.length_append, bytes_len, bytes_len]; rfl
  have hDl : D.data.toList = perD N.data.toList := by rw [← hD, ← hT, app_list, app_list]; rfl
  have q1 : 3 + N.size ≤ 9223372036854775807 := by omega
  have q2 : T.size + 4 ≤ 9223372036854775807 := by omega
  have HDl := Lib.hid hDl
  have HP := Lib.hid (fun o => per_blocks w N o)
  have HB := Lib.hid (fun o => ((((((Below.refl w.heap.size w).alloc (Nat.le_refl _) o).alloc (by simp) (.cells #[.string N] 9)).alloc (by simp; omega) (.cells #[.string ⟨#[112, 101, 114, 115, 111, 110]⟩] 9)).alloc (by simp; omega) (.cells #[.string ⟨#[115]⟩] 9)).alloc (by simp; omega) (.cells #[.string ⟨#[99, 110]⟩, .slice (some ⟨w.heap.size + 1, 0, none⟩) 1 1, .string ⟨#[111, 98, 106, 101, 99, 116, 99, 108, 97, 115, 115]⟩, .slice (some ⟨w.heap.size + 1 + 1, 0, none⟩) 1 1, .string ⟨#[115, 110]⟩, .slice (some ⟨w.heap.size + 1 + 1 + 1, 0, none⟩) 1 1] 40)))
  clear hTs hDl
  go_enter Tryz.func45, Tryz.ntmps45
  go_wp2
  refine bodyPost_ret (v := .agg #[.string D, .slice (some ⟨w.heap.size + 4, 0, none⟩) 3 3]) (by simp [results, Tryz.results45, go_sem]) rfl ⟨D, w.heap.size + 4, rfl, HDl.out, ?_, rfl, ?_⟩
  · exact HP.out _
  · exact HB.out _

end Go.Proofs.YtncnlbmdkognnaaGreatDoor


namespace Go.Proofs.YtncnlbmdkognnaaGreatDoor
open Go.RowKit
set_option linter.unusedVariables false

end Go.Proofs.YtncnlbmdkognnaaGreatDoor


namespace Go.Proofs.YtncnlbmdkognnaaGreatDoor
open Go.RowKit
set_option linter.unusedVariables false

end Go.Proofs.YtncnlbmdkognnaaGreatDoor


namespace Go.Proofs.YtncnlbmdkognnaaGreatDoor
open Go.RowKit
set_option linter.unusedVariables false

def codeL : List Int := [17, 19, 21, 19, 20, 20]
def badL : List AT := [([110, 111, 110, 101], [[120]]), ([100, 101, 115, 99, 114, 105, 112, 116, 105, 111, 110], []), ([117, 105, 100, 110, 117, 109, 98, 101, 114], [[120]]), ([117, 105, 100, 110, 117, 109, 98, 101, 114], [[49], [50]]), ([109, 97, 105, 108], [[97], [65, 32]]), ([67, 78], [[122]])]
def othD : List UInt8 := [99, 110, 61, 111, 116, 104, 101, 114]
def pName (d : List UInt8) : List UInt8 := 112 :: d
def ouA : AT := ([111, 117], [[97]])
end Go.Proofs.YtncnlbmdkognnaaGreatDoor

