/- Several texts in one file: EnNext, EnNormW, EnSrtP, EnNEntP, TrPure, ScPer, MaUp, MaAwake, MaCasesW, ScFst, MaDig, ScFstW. -/
import Derived.Test.YtgaaefcanfglhaaGreatDoorTrmP4
import Derived.Maps.OwnSet
import Derived.Deep.Cut
import Derived.Test.YtgaaefcanfglhaaGreatDoorDnLow
import Derived.Test.YtgaaefcanfglhaaGreatDoorOfL
import Derived.Test.YtgaaefcanfglhaaGreatDoorTrmP1
import Derived.Test.YtgaaefcanfglhaaGreatDoorTrmP2
import Derived.Test.YtgaaefcanfglhaaGreatDoorDnOwn
import Derived.Lib.ItoaLen
import Derived.Lib.ItoaMem
import Derived.Deep.CutRange
namespace Go.Proofs.YtgaaefcanfglhaaGreatDoor
open Go.RowKit
set_option linter.unusedVariables false
theorem nextAt_of {W:World} {mb b p:Nat} {v:Value} {X:ByteArray} {x:Value} {j:Nat} (hb:b<mb) (c0:W.cell? ⟨mb,0,none⟩=some v) (c1:W.cell? ⟨mb,1,none⟩=some (.int .i64 j)) (cz:W.frozen? ⟨mb,1,none⟩=false)
  (e0:W.cell? ⟨b,p,none⟩=some (.string X)) (e1:W.cell? ⟨b,p+1,none⟩=some x) :
  ∀ w5,w5=W.drew.setCell ⟨mb,1,none⟩ (.int .i64 ((j:Int)+1))→w5.cell? ⟨b,p,none⟩=some (.string X)∧w5.cell? ⟨b,p+1,none⟩=some x∧w5.cell? ⟨mb,0,none⟩=some v∧w5.cell? ⟨mb,1,none⟩=some (.int .i64 ((j:Int)+1))∧w5.frozen? ⟨mb,1,none⟩=false:=by
 intro w5 hw5;subst hw5;refine ⟨?_,?_,?_,?_,?_⟩
 ·rw[World.cell?_setCell_other _ _ _ _ (fun e=>by have:=congrArg Addr.block e;simp at this;omega)];exact e0
 ·rw[World.cell?_setCell_other _ _ _ _ (fun e=>by have:=congrArg Addr.block e;simp at this;omega)];exact e1
 ·rw[World.cell?_setCell_other _ _ _ _ (fun e=>by have:=congrArg Addr.off e;simp at this)];exact c0
 ·exact World.cell?_setCell_same _ _ _ c1
 ·exact (World.frozen?_setCell ..).trans cz
theorem behind_of {w5:World} {b p:Nat} {X:ByteArray} {x:Value} (hb:b<w5.heap.size) (e0:w5.cell? ⟨b,p,none⟩=some (.string X)) (e1:w5.cell? ⟨b,p+1,none⟩=some x) (o:Obj) :
  (w5.alloc o).cell? ⟨b,p,none⟩=some (.string X)∧(w5.alloc o).cell? ⟨b,p+1,none⟩=some x:=
 ⟨(World.cell?_alloc_lt _ _ _ hb).trans e0,(World.cell?_alloc_lt _ _ _ hb).trans e1⟩
theorem ahead_of {W:World} {mb:Nat} (hm:mb<W.heap.size) (y:Value) (w5:World) (hw5:w5=(W.alloc (.cells #[.string ⟨#[]⟩,.slice none 0 0] 60)).drew.setCell ⟨mb,1,none⟩ y) :
  w5.cell? ⟨W.heap.size,0,none⟩=some (.string ⟨#[]⟩)∧w5.cell? ⟨W.heap.size,1,none⟩=some (.slice none 0 0)∧w5.frozen? ⟨W.heap.size,0,none⟩=false∧w5.frozen? ⟨W.heap.size,1,none⟩=false:=by
 subst hw5;have h:(W.alloc (.cells #[.string ⟨#[]⟩,.slice none 0 0] 60)).drew.heap[W.heap.size]?=some (.cells #[.string ⟨#[]⟩,.slice none 0 0] 60 (0,0)):=heap_alloc_new W _;refine ⟨?_,?_,?_,?_⟩
 ·rw[World.cell?_setCell_other _ _ _ _ (fun e=>by have:=congrArg Addr.block e;simp at this;omega)];simp only[World.cell?,h];rfl
 ·rw[World.cell?_setCell_other _ _ _ _ (fun e=>by have:=congrArg Addr.block e;simp at this;omega)];simp only[World.cell?,h];rfl
 ·rw[World.frozen?_setCell];simp only[World.frozen?,h];rfl
 ·rw[World.frozen?_setCell];simp only[World.frozen?,h];rfl
theorem size_of {W w5:World} {a:Addr} {y:Value} (h:w5=W.setCell a y):w5.heap.size=W.heap.size:=by subst h;simp[World.setCell]
def Tail (w w6:World) (mb T:Nat) (v:Value) (j:Nat) (X:ByteArray) (x:Value):Prop:=
 w.grownBy w6 (some mb)∧w6.cell? ⟨T,0,none⟩=some (.string X)∧w6.cell? ⟨T,1,none⟩=some x∧w6.cell? ⟨w.heap.size,0,none⟩=some (.string ⟨#[]⟩)∧w6.cell? ⟨w.heap.size,1,none⟩=some (.slice none 0 0)∧w6.frozen? ⟨w.heap.size,0,none⟩=false∧w6.frozen? ⟨w.heap.size,1,none⟩=false ∧
 w6.cell? ⟨mb,0,none⟩=some v∧w6.cell? ⟨mb,1,none⟩=some (.int .i64 ((j:Int)+1))∧w6.frozen? ⟨mb,1,none⟩=false∧T<w6.heap.size∧w.heap.size<w6.heap.size∧T≠w.heap.size∧T≠mb
theorem heap_set_other (w:World) (a:Addr) (x:Value) (k:Nat) (h:k≠a.block):(w.setCell a x).heap[k]?=w.heap[k]?:=by
 unfold World.setCell;simp[Array.getElem?_modify,Ne.symm h]
theorem Tail.go {w w6 w7:World} {mb T:Nat} {v:Value} {j:Nat} {X:ByteArray} {x:Value} (hm:mb<w.heap.size) (h:Tail w w6 mb T v j X x) (hb:Below w6.heap.size w6 w7):Tail w w7 mb T v j X x:=by
 obtain ⟨h1,h2,h3,h4,h5,h6,h7,h8,h9,h10,h11,h12,h13,h14⟩:=h;have hm6:mb<w6.heap.size:=Nat.lt_trans hm h12
 exact ⟨⟨hb.os.trans h1.os,hb.tape.trans h1.tape,hb.output.trans h1.output,Nat.le_trans h1.size hb.size,fun k hk hne=>(hb.block k (Nat.lt_of_lt_of_le hk h1.size)).trans (h1.block k hk hne)⟩,
  (hb.cell (p:=⟨T,0,none⟩) h11).trans h2,(hb.cell (p:=⟨T,1,none⟩) h11).trans h3,(hb.cell (p:=⟨w.heap.size,0,none⟩) h12).trans h4,(hb.cell (p:=⟨w.heap.size,1,none⟩) h12).trans h5,
  (hb.frozen (p:=⟨w.heap.size,0,none⟩) h12).trans h6,(hb.frozen (p:=⟨w.heap.size,1,none⟩) h12).trans h7,(hb.cell (p:=⟨mb,0,none⟩) hm6).trans h8,(hb.cell (p:=⟨mb,1,none⟩) hm6).trans h9,(hb.frozen (p:=⟨mb,1,none⟩) hm6).trans h10,
  Nat.lt_of_lt_of_le h11 hb.size,Nat.lt_of_lt_of_le h12 hb.size,h13,h14⟩
theorem Tail.grown {w w6:World} {mb T:Nat} {v:Value} {j:Nat} {X:ByteArray} {x:Value} (h:Tail w w6 mb T v j X x):w.grownBy w6 (some mb):=h.1
theorem Tail.rsz {w w6:World} {mb T:Nat} {v:Value} {j:Nat} {X:ByteArray} {x:Value} (h:Tail w w6 mb T v j X x):w.heap.size<w6.heap.size:=by
 obtain ⟨h1,h2,h3,h4,h5,h6,h7,h8,h9,h10,h11,h12,h13,h14⟩:=h;exact h12
theorem isT_grown {mb:Nat} {w w7:World} {A:List (List UInt8)} {x:Value} (h:IsT mb w A x) (hm:mb<w.heap.size) (hg:w.grownBy w7 (some mb)):IsT w7.heap.size w7 A x:=by
 obtain ⟨a,c,hv,hml,hc⟩:=h;refine ⟨a,c,hv,hml,fun j hj=>?_⟩;obtain ⟨b,off,ha,hb,h0⟩:=hc j hj;have:=hg.block b (by omega) (by intro e;have:=Option.some.inj e;omega);exact ⟨b,off,ha,by have:=hg.size;omega,by simp only[World.cell?,this];exact h0⟩
theorem Tail.fin {w w8:World} {mb T:Nat} {v:Value} {j:Nat} {X:ByteArray} {x:Value} (hm:mb<w.heap.size) (h:Tail w w8 mb T v j X x) (N:ByteArray) (u:Value) :
  w.grownBy ((w8.setCell ⟨w.heap.size,0,none⟩ (.string N)).setCell ⟨w.heap.size,1,none⟩ u) (some mb)∧((w8.setCell ⟨w.heap.size,0,none⟩ (.string N)).setCell ⟨w.heap.size,1,none⟩ u).cell? ⟨mb,0,none⟩=some v∧((w8.setCell ⟨w.heap.size,0,none⟩ (.string N)).setCell ⟨w.heap.size,1,none⟩ u).cell? ⟨mb,1,none⟩=some (.int .i64 (j+1:Nat))∧((w8.setCell ⟨w.heap.size,0,none⟩ (.string N)).setCell ⟨w.heap.size,1,none⟩ u).frozen? ⟨mb,1,none⟩=false ∧
  (∀ b o,b≠w.heap.size→((w8.setCell ⟨w.heap.size,0,none⟩ (.string N)).setCell ⟨w.heap.size,1,none⟩ u).cell? ⟨b,o,none⟩=w8.cell? ⟨b,o,none⟩):=by
 obtain ⟨h1,h2,h3,h4,h5,h6,h7,h8,h9,h10,h11,h12,h13,h14⟩:=h;have oth:∀ b o,b≠w.heap.size→((w8.setCell ⟨w.heap.size,0,none⟩ (.string N)).setCell ⟨w.heap.size,1,none⟩ u).cell? ⟨b,o,none⟩=w8.cell? ⟨b,o,none⟩:=fun b o hb=>by
  rw[World.cell?_setCell_other _ _ _ _ (fun e=>by have:=congrArg Addr.block e;simp at this;omega),World.cell?_setCell_other _ _ _ _ (fun e=>by have:=congrArg Addr.block e;simp at this;omega)]
 refine ⟨⟨h1.os,h1.tape,h1.output,by simp[World.setCell];exact h1.size,fun k hk hne=>?_⟩,(oth _ _ (by omega)).trans h8,(oth _ _ (by omega)).trans h9,by rw[World.frozen?_setCell,World.frozen?_setCell];exact h10,oth⟩;rw[heap_set_other _ _ _ k (show k≠w.heap.size by omega),heap_set_other _ _ _ k (show k≠w.heap.size by omega)];exact h1.block k hk hne
theorem tail5 {w W1 W w5:World} {mb:Nat} {v:Value} {j:Nat} (hm:mb<w.heap.size) (hW1:W1=w.alloc (.cells #[.string ⟨#[]⟩,.slice none 0 0] 60)) (hW:Below W1.heap.size W1 W) (hw5:w5=W.drew.setCell ⟨mb,1,none⟩ (.int .i64 ((j:Int)+1)))
  (f2:w5.cell? ⟨mb,0,none⟩=some v) (f3:w5.cell? ⟨mb,1,none⟩=some (.int .i64 ((j:Int)+1))) (f4:w5.frozen? ⟨mb,1,none⟩=false) :
  w.grownBy w5 (some mb)∧w5.cell? ⟨w.heap.size,0,none⟩=some (.string ⟨#[]⟩)∧w5.cell? ⟨w.heap.size,1,none⟩=some (.slice none 0 0)∧w5.frozen? ⟨w.heap.size,0,none⟩=false∧w5.frozen? ⟨w.heap.size,1,none⟩=false∧w.heap.size<w5.heap.size:=by
 have s1:W1.heap.size=w.heap.size+1:=by rw[hW1];simp
 have s5:w5.heap.size=W.heap.size:=size_of (W:=W.drew) hw5;have hz:=hW.size;have h0:W1.heap[w.heap.size]?=some (.cells #[.string ⟨#[]⟩,.slice none 0 0] 60 (0,0)):=by rw[hW1];exact heap_alloc_new w _
 have hblk:∀ k,k≠mb→w5.heap[k]?=W.heap[k]?:=fun k hk=>by rw[hw5];exact heap_set_other _ _ _ k hk
 have h5:w5.heap[w.heap.size]?=some (.cells #[.string ⟨#[]⟩,.slice none 0 0] 60 (0,0)):=by rw[hblk _ (by omega),hW.block _ (by omega),h0]
 refine ⟨⟨?_,?_,?_,by omega,fun k hk hne=>?_⟩,by simp only[World.cell?,h5];rfl,by simp only[World.cell?,h5];rfl,by simp only[World.frozen?,h5];rfl,by simp only[World.frozen?,h5];rfl,by omega⟩
 ·have h:=hW.os;rw[hW1] at h;rw[hw5];exact h
 ·have h:=hW.tape;rw[hW1] at h;rw[hw5];exact h
 ·have h:=hW.output;rw[hW1] at h;rw[hw5];exact h
 ·have hkm:k≠mb:=fun e=>hne (by rw[e])
  rw[hblk k hkm,hW.block _ (by omega),hW1,heap_alloc_old _ _ hk]
theorem tailA {w W1 w5:World} {mb:Nat} {v:Value} {j:Nat} (hm:mb<w.heap.size) (hW1:W1=w.alloc (.cells #[.string ⟨#[]⟩,.slice none 0 0] 60)) (hw5:w5=W1.drew.setCell ⟨mb,1,none⟩ (.int .i64 ((j:Int)+1)))
  (f2:w5.cell? ⟨mb,0,none⟩=some v) (f3:w5.cell? ⟨mb,1,none⟩=some (.int .i64 ((j:Int)+1))) (f4:w5.frozen? ⟨mb,1,none⟩=false) (X:ByteArray) (x:Value):Tail w (w5.alloc (.cells #[.string X,x] 60)) mb w5.heap.size v j X x:=by
 obtain ⟨h1,h2,h3,h4,h5,h6⟩:=tail5 hm hW1 (Below.refl _ _) hw5 f2 f3 f4;have hb:Below w5.heap.size w5 (w5.alloc (.cells #[.string X,x] 60)):=(Below.refl _ _).alloc (Nat.le_refl _) _;have hm5:mb<w5.heap.size:=by omega
 exact ⟨⟨hb.os.trans h1.os,hb.tape.trans h1.tape,hb.output.trans h1.output,Nat.le_trans h1.size hb.size,fun k hk hne=>(hb.block k (Nat.lt_of_lt_of_le hk h1.size)).trans (h1.block k hk hne)⟩,by simp,by simp,(hb.cell (p:=⟨w.heap.size,0,none⟩) h6).trans h2,(hb.cell (p:=⟨w.heap.size,1,none⟩) h6).trans h3,(hb.frozen (p:=⟨w.heap.size,0,none⟩) h6).trans h4,(hb.frozen (p:=⟨w.heap.size,1,none⟩) h6).trans h5,
  (hb.cell (p:=⟨mb,0,none⟩) hm5).trans f2,(hb.cell (p:=⟨mb,1,none⟩) hm5).trans f3,(hb.frozen (p:=⟨mb,1,none⟩) hm5).trans f4,by simp,by simp;omega,by omega,by omega⟩
theorem tailB {w W1 w5:World} {mb:Nat} {v:Value} {j:Nat} (hm:mb<w.heap.size) (hW1:W1=w.alloc (.cells #[.string ⟨#[]⟩,.slice none 0 0] 60)) (hw5:w5=(W1.alloc (.cells #[.string ⟨#[]⟩,.slice none 0 0] 60)).drew.setCell ⟨mb,1,none⟩ (.int .i64 ((j:Int)+1)))
  (f2:w5.cell? ⟨mb,0,none⟩=some v) (f3:w5.cell? ⟨mb,1,none⟩=some (.int .i64 ((j:Int)+1))) (f4:w5.frozen? ⟨mb,1,none⟩=false) (p0:w5.cell? ⟨W1.heap.size,0,none⟩=some (.string ⟨#[]⟩)) (p1:w5.cell? ⟨W1.heap.size,1,none⟩=some (.slice none 0 0)) (X:ByteArray) (x:Value) :
  Tail w ((w5.setCell ⟨W1.heap.size,0,none⟩ (.string X)).setCell ⟨W1.heap.size,1,none⟩ x) mb W1.heap.size v j X x:=by
 obtain ⟨h1,h2,h3,h4,h5,h6⟩:=tail5 hm hW1 ((Below.refl _ _).alloc (Nat.le_refl _) _) hw5 f2 f3 f4;have s1:W1.heap.size=w.heap.size+1:=by rw[hW1];simp
 have s5:w5.heap.size=W1.heap.size+1:=by rw[size_of hw5];simp
 obtain ⟨T,hT⟩:∃ T,T=W1.heap.size:=⟨_,rfl⟩;rw[← hT] at s1 s5 p0 p1 ⊢;have oth:∀ b o,b≠T→((w5.setCell ⟨T,0,none⟩ (.string X)).setCell ⟨T,1,none⟩ x).cell? ⟨b,o,none⟩=w5.cell? ⟨b,o,none⟩:=fun b o hb=>by
  rw[World.cell?_setCell_other _ _ _ _ (fun e=>by have:=congrArg Addr.block e;simp at this;omega),World.cell?_setCell_other _ _ _ _ (fun e=>by have:=congrArg Addr.block e;simp at this;omega)]
 refine ⟨⟨h1.os,h1.tape,h1.output,by simp[World.setCell];exact h1.size,fun k hk hne=>?_⟩,?_,?_,(oth _ _ (by omega)).trans h2,(oth _ _ (by omega)).trans h3,by rw[World.frozen?_setCell,World.frozen?_setCell];exact h4,by rw[World.frozen?_setCell,World.frozen?_setCell];exact h5,(oth _ _ (by omega)).trans f2,(oth _ _ (by omega)).trans f3,by rw[World.frozen?_setCell,World.frozen?_setCell];exact f4,by simp[World.setCell];omega,by simp[World.setCell];omega,by omega,by omega⟩
 ·rw[heap_set_other _ _ _ k (show k≠T by omega),heap_set_other _ _ _ k (show k≠T by omega)];exact h1.block k hk hne
 ·rw[World.cell?_setCell_other _ _ _ _ (fun e=>by have:=congrArg Addr.off e;simp at this)];exact World.cell?_setCell_same _ _ _ p0
 ·exact World.cell?_setCell_same _ _ _ ((World.cell?_setCell_other _ _ _ _ (fun e=>by have:=congrArg Addr.off e;simp at this)).trans p1)
set_option maxRecDepth 100000 in
set_option maxHeartbeats 4000000 in
theorem next_any (L : List AT) (hs : smallA L) (mb j : Nat) (v : Value) (w : World) (hm : mb < w.heap.size) (hL : IsA mb w L v) (hj : j < L.length) (h0 : w.cell? ⟨mb, 0, none⟩ = some v) (h1 : w.cell? ⟨mb, 1, none⟩ = some (.int .i64 j)) (hz : w.frozen? ⟨mb, 1, none⟩ = false) :
    Calls Tryz.prog 101 #[.pointer (some ⟨mb, 0, none⟩)] w fun e w' => ∃ u, e = .returned (.agg #[.string (ofL (nameA L[j].1)), u]) ∧ IsTo (fun b => w.heap.size ≤ b ∧ b < w'.heap.size) w' L[j].2 u ∧ w.grownBy w' (some mb) ∧ w'.cell? ⟨mb, 0, none⟩ = some v ∧ w'.cell? ⟨mb, 1, none⟩ = some (.int .i64 (j + 1 : Nat)) ∧ w'.frozen? ⟨mb, 1, none⟩ = false := by
  obtain ⟨sa, sc, rfl, hml, hcell⟩ := hL
  obtain ⟨b, off, x, rfl, hb0, x0, x1, hx⟩ := hcell j hj
  obtain ⟨xa, xn, xc, rfl⟩ := (show ∃ a k c, x = .slice a k c from by obtain ⟨a, c, hv, _⟩ := hx; exact ⟨a, _, c, hv⟩)
  unfold maxLen at hml
  obtain ⟨X, hX⟩ : ∃ X : ByteArray, ofL L[j].1 = X := ⟨_, rfl⟩
  have gX : X.data.toList = L[j].1 := by rw [← hX, ofL_list]
  have d0 : w.cell? ⟨b, off + j * 2, none⟩ = some (.string X) := by rw [x0, ← hX]; rfl
  have hXs : X.size ≤ 281474976710656 := by
    have := (hs.2 L[j] (List.getElem_mem _)).1
    rw [← bytes_len, gX]; omega
  obtain ⟨n, hn⟩ : ∃ n, n = L.length := ⟨_, rfl⟩
  rw [← hn] at h0 hml
  have HX := Lib.hid hx
  have hsT := (hs.2 L[j] (List.getElem_mem _)).2
  have hl5 : n ≤ 1000 := by rw [hn]; exact hs.1
  have hjn : j < n := by omega
  have HT := Lib.hid (fun w => typeName_any X hXs w)
  have HGX := Lib.hid gX
  have HST := Lib.hid hsT
  have HN := Lib.hid hn
  have q1 : (j : Int) < (n : Int) := by omega
  have q2 : (0 : Int) ≤ (j : Int) := by omega
  have q3 : IntKind.i64.wrap ((j : Int) + 1 - 1) = (j : Int) := by rw [IntKind.wrap_i64]; omega
  have q4 : (j : Int) + 1 - 1 = (j : Int) := by omega
  have q5 : IntKind.i64.wrap (j : Int) = (j : Int) := by rw [IntKind.wrap_i64]; omega
  have HAdd := Lib.hid (fun w h hz => add_any mb 1 (j : Int) (by omega) (by omega) w h hz)
  clear hcell hs hX gX x0 hx hsT hn hXs
  go_enter Tryz.func101, Tryz.ntmps101
  go_wp2
  obtain ⟨W1, hW1⟩ : ∃ W1, W1 = w.alloc (.cells #[.string ⟨#[]⟩, .slice none 0 0] 60) := ⟨_, rfl⟩
  have hW1b : Below w.heap.size w W1 := by rw [hW1]; exact (Below.refl _ _).alloc (Nat.le_refl _) _
  have c0 := (hW1b.cell (p := ⟨mb, 0, none⟩) hm).trans h0
  have c1 := (hW1b.cell (p := ⟨mb, 1, none⟩) hm).trans h1
  have cz := (hW1b.frozen (p := ⟨mb, 1, none⟩) hm).trans hz
  have hbw : b < w.heap.size := Nat.lt_trans hb0 hm
  have e0 := (hW1b.cell (p := ⟨b, off + j * 2, none⟩) hbw).trans d0
  have e1 := (hW1b.cell (p := ⟨b, off + j * 2 + 1, none⟩) hbw).trans x1
  rw [← hW1]
  have HW1 := Lib.hid hW1
  have HW1b := Lib.hid hW1b
  clear hW1 hW1b h0 h1 hz d0 x1
  obtain ⟨W2, hW2⟩ : ∃ W2, W2 = W1.alloc (.cells #[.string ⟨#[]⟩, .slice none 0 0] 60) := ⟨_, rfl⟩
  have hm1 : mb < W1.heap.size := Nat.lt_of_lt_of_le hm HW1b.out.size
  have hb1 : b < W1.heap.size := Nat.lt_of_lt_of_le hbw HW1b.out.size
  have hW2b : Below W1.heap.size W1 W2 := by rw [hW2]; exact (Below.refl _ _).alloc (Nat.le_refl _) _
  have HD := Lib.hid (nextAt_of (W := W1) (mb := mb) (b := b) (p := off + j * 2) hb0 c0 c1 cz e0 e1)
  have HE := Lib.hid (nextAt_of (W := W2) (mb := mb) (b := b) (p := off + j * 2) hb0 ((hW2b.cell (p := ⟨mb, 0, none⟩) hm1).trans c0) ((hW2b.cell (p := ⟨mb, 1, none⟩) hm1).trans c1) ((hW2b.frozen (p := ⟨mb, 1, none⟩) hm1).trans cz) ((hW2b.cell (p := ⟨b, off + j * 2, none⟩) hb1).trans e0) ((hW2b.cell (p := ⟨b, off + j * 2 + 1, none⟩) hb1).trans e1))
  have C1 : Hid (W1.drew.cell? ⟨mb, 1, none⟩ = some (.int .i64 (j : Int)) ∧ W1.drew.frozen? ⟨mb, 1, none⟩ = false) := Lib.hid ⟨c1, cz⟩
  have C2 : Hid ((W1.alloc (.cells #[.string ⟨#[]⟩, .slice none 0 0] 60)).drew.cell? ⟨mb, 1, none⟩ = some (.int .i64 (j : Int)) ∧ (W1.alloc (.cells #[.string ⟨#[]⟩, .slice none 0 0] 60)).drew.frozen? ⟨mb, 1, none⟩ = false) := Lib.hid (by rw [← hW2]; exact ⟨(hW2b.cell (p := ⟨mb, 1, none⟩) hm1).trans c1, (hW2b.frozen (p := ⟨mb, 1, none⟩) hm1).trans cz⟩)
  have c0a : (W1.alloc (.cells #[.string ⟨#[]⟩, .slice none 0 0] 60)).cell? ⟨mb, 0, none⟩ = some (.slice (some ⟨b, off, none⟩) n sc) := by rw [← hW2]; exact (hW2b.cell (p := ⟨mb, 0, none⟩) hm1).trans c0
  have HW2 := Lib.hid hW2
  clear hW2 hW2b
  go_region_law (go_simp; go_at_call 136; first
    | ((with_reducible refine (HAdd.out W1.drew C1.out.1 C1.out.2).mono ?_); rintro e w5 ⟨rfl, hw5⟩; (obtain ⟨f0, f1, f2, f3, f4⟩ := HD.out w5 hw5); (obtain ⟨g0, g1⟩ := behind_of (by rw [size_of hw5]; exact hb1) f0 f1 (.cells #[.string ⟨#[]⟩, .slice none 0 0] 60)); have g2 := (World.cell?_alloc_lt w5 (.cells #[.string ⟨#[]⟩, .slice none 0 0] 60) ⟨mb, 0, none⟩ (show mb < w5.heap.size by rw [size_of hw5]; exact hm1)).trans f2; have HW5 := Lib.hid hw5; clear hw5)
    | (((with_reducible refine (HAdd.out ((W1.alloc (.cells #[.string ⟨#[]⟩, .slice none 0 0] 60)).drew) C2.out.1 C2.out.2).mono ?_)); rintro e w5 ⟨rfl, hw5⟩; (obtain ⟨f0, f1, f2, f3, f4⟩ := HE.out w5 (by rw [HW2.out]; exact hw5)); (obtain ⟨p0, p1, p2, p3⟩ := ahead_of hm1 _ w5 hw5); have HW5 := Lib.hid hw5; clear hw5))
  all_goals
    first
      | (have htl := tailA hm HW1.out HW5.out f2 f3 f4 X (.slice xa xn xc)
         obtain ⟨w6, hw6⟩ : ∃ w6, w6 = w5.alloc (.cells #[.string X, .slice xa xn xc] 60) := ⟨_, rfl⟩
         rw [← hw6] at htl ⊢
         generalize w5.heap.size = T at htl ⊢
         clear hw6)
      | (have htl := tailB hm HW1.out HW5.out f2 f3 f4 p0 p1 X (.slice xa xn xc)
         obtain ⟨w6, hw6⟩ : ∃ w6, w6 = (w5.setCell ⟨W1.heap.size, 0, none⟩ (.string X)).setCell ⟨W1.heap.size, 1, none⟩ (.slice xa xn xc) := ⟨_, rfl⟩
         rw [← hw6] at htl ⊢
         generalize W1.heap.size = T at htl ⊢
         clear hw6)
    have HTl := Lib.hid htl
    obtain ⟨_, k0, k1, _⟩ := htl
    clear f0 f1 f2 f3 f4 c0 c1 cz e0 e1 c0a
    have hdr : Below w6.heap.size w6 w6.drew := ⟨rfl, rfl, rfl, Nat.le_refl _, fun _ _ => rfl⟩
    have HTd := Lib.hid (HTl.out.go hm hdr)
    clear hdr
    go_simp
    go_wp2
    go_region_law (first
      | (go_simp; go_at_call 137; ((with_reducible refine (HT.out _).mono ?_); rintro e w7 ⟨rfl, hb7⟩; have HT7 := Lib.hid (HTd.out.go hm hb7); (obtain ⟨_, _, m1, _⟩ := HT7.out); clear hb7))
      | (go_simp; go_at_call 138; ((with_reducible refine (copyVals_any _ HST.out _ _ (isT_grown HX.out hm HT7.out.grown)).mono ?_); rintro e w8 ⟨u8, rfl, hu8, hb8⟩; have HU8 := Lib.hid (ownS_isTo hu8 (by have := HST.out.1; unfold maxLen; omega)); have HT8 := Lib.hid (HT7.out.go hm hb8); (obtain ⟨_, _, _, r0, r1, r2, r3, _⟩ := HT8.out); have hz7 : w.heap.size < w7.heap.size := HT7.out.rsz; (obtain ⟨ya, yc, rfl⟩ := ownS_slice hu8); clear hu8 hb8)))
    all_goals
      go_simp
      go_wp2
      obtain ⟨hg, hc0, hc1, hcz, hoth⟩ := HT8.out.fin hm (ofL (nameA X.data.toList)) (.slice ya L[j].2.length yc)
      refine bodyPost_ret (v := .agg #[.string (ofL (nameA X.data.toList)), .slice ya L[j].2.length yc]) (by simp [results, Tryz.results101, go_sem, r0, r1]) rfl ⟨_, by rw [HGX.out], HU8.out.imp (fun b hb => ⟨by have := hb.1; omega, by simp [World.setCell]; exact hb.2⟩) (fun b o hb => hoth b o (by have := hb.1; omega)), hg, by rw [← HN.out]; exact hc0, hc1, hcz⟩
end Go.Proofs.YtgaaefcanfglhaaGreatDoor
namespace Go.Proofs.YtgaaefcanfglhaaGreatDoor
open Go.RowKit
set_option linter.unusedVariables false
def normL (L:List AT):List AT:=L.map (fun a=>(nameA a.1,a.2))
theorem ownA_grown {B mb:Nat} {w w':World} {v:Value} {L:List AT} (h:OwnA B w v L) (hg:w.grownBy w' (some mb)) (hm:mb<B):OwnA B w' v L:=by
 obtain ⟨P,hr,hs⟩:=h;have hblk:∀ k,B≤k→k<w.heap.size→w'.heap[k]?=w.heap[k]?:=fun k h1 h2=>hg.block k h2 (by intro e;have:=Option.some.inj e;omega)
 refine ⟨P,⟨hr.1,hr.2.imp id fun ⟨g,cap,cur,e1,hb,hgg,rest⟩=>⟨g,cap,cur,e1,hb,(hblk g hb (Array.getElem?_eq_some_iff.1 hgg).1).trans hgg,rest⟩⟩,hs.1,fun j h1 h2=>⟨(hs.2 j h1 h2).1,(hs.2 j h1 h2).2.imp (fun b hb=>⟨hb.1,Nat.lt_of_lt_of_le hb.2.1 hg.size,hb.2.2⟩) (fun b o hb=>by
  have:=hblk b hb.1 hb.2.1
  simp only[World.cell?,this])⟩⟩
theorem BoxE.grown {b mb:Nat} {d:ByteArray} {w w':World} (h:BoxE b d w) (hg:w.grownBy w' (some mb)) (hm:mb=b+2) (hs:b+2<w.heap.size):BoxE b d w':=by
 have h0:=hg.block b (by omega) (by intro e;have:=Option.some.inj e;omega);have h1:=hg.block (b+1) (by omega) (by intro e;have:=Option.some.inj e;omega);obtain ⟨a0,a1,a2,a3,a4⟩:=h;unfold BoxE;simp only[World.cell?,World.frozen?,h0,h1];exact ⟨a0,a1,a2,a3,a4⟩
theorem below_grown {B mb:Nat} {w0 w w':World} (h:Below B w0 w) (hg:w.grownBy w' (some mb)) (hB:B≤mb) (hw:B≤w.heap.size):Below B w0 w':=
 h.trans ⟨hg.os,hg.tape,hg.output,hg.size,fun k hk=>hg.block k (by omega) (by intro e;have:=Option.some.inj e;omega)⟩
structure NormAt (b:Nat) (d:ByteArray) (w wr:World) (v l:Value) (j:Nat) (L':List AT):Prop where
 own:OwnA (b+3) wr l L'
 box:BoxE b d wr
 m0:wr.cell? ⟨b+2,0,none⟩=some v
 m1:wr.cell? ⟨b+2,1,none⟩=some (.int .i64 (j:Int))
 mz:wr.frozen? ⟨b+2,1,none⟩=false
 size:b+3≤wr.heap.size
 bel:Below b w wr
theorem NormAt.go {b:Nat} {d:ByteArray} {w wr w2:World} {v l:Value} {j:Nat} {L':List AT} (h:NormAt b d w wr v l j L') (hb:Below wr.heap.size wr w2):NormAt b d w w2 v l j L' where
 own:=ownA_below h.own hb
 box:=h.box.go hb (by have:=h.size;omega)
 m0:=(hb.cell (p:=⟨b+2,0,none⟩) (show b+2<wr.heap.size by have:=h.size;omega)).trans h.m0
 m1:=(hb.cell (p:=⟨b+2,1,none⟩) (show b+2<wr.heap.size by have:=h.size;omega)).trans h.m1
 mz:=(hb.frozen (p:=⟨b+2,1,none⟩) (show b+2<wr.heap.size by have:=h.size;omega)).trans h.mz
 size:=Nat.le_trans h.size hb.size
 bel:=h.bel.trans (hb.mono (by have:=h.size;omega))
theorem NormAt.next {b:Nat} {d:ByteArray} {w wr w2:World} {v l:Value} {j:Nat} {L':List AT} (h:NormAt b d w wr v l j L') (hg:wr.grownBy w2 (some (b+2))) (h0:w2.cell? ⟨b+2,0,none⟩=some v) (h1:w2.cell? ⟨b+2,1,none⟩=some (.int .i64 (j+1:Nat))) (hz:w2.frozen? ⟨b+2,1,none⟩=false):NormAt b d w w2 v l (j+1) L' where
 own:=ownA_grown h.own hg (by omega)
 box:=h.box.grown hg rfl (by have:=h.size;omega)
 m0:=h0
 m1:=h1
 mz:=hz
 size:=Nat.le_trans h.size hg.size
 bel:=below_grown h.bel hg (by omega) (by have:=h.size;omega)
theorem NormAt.app {b:Nat} {d:ByteArray} {w wr w2:World} {v l l2:Value} {j:Nat} {L' L2:List AT} (h:NormAt b d w wr v l j L') (hb:Below (b+3) wr w2) (ho:OwnA (b+3) w2 l2 L2):NormAt b d w w2 v l2 j L2 where
 own:=ho
 box:=h.box.go hb (by omega)
 m0:=(hb.cell (p:=⟨b+2,0,none⟩) (show b+2<b+3 by omega)).trans h.m0
 m1:=(hb.cell (p:=⟨b+2,1,none⟩) (show b+2<b+3 by omega)).trans h.m1
 mz:=(hb.frozen (p:=⟨b+2,1,none⟩) (show b+2<b+3 by omega)).trans h.mz
 size:=Nat.le_trans h.size hb.size
 bel:=h.bel.trans (hb.mono (by omega))
theorem norm_block (w:World) (d:ByteArray) (v:Value):(((w.alloc (.cells #[.string d,v] 27)).alloc (.cells #[.string ⟨#[]⟩,.slice none 0 0] 27)).alloc (.cells #[v,.int .i64 0] 148)).heap[w.heap.size+2]?=some (.cells #[v,.int .i64 0] 148 (0,0)):=by
 have:=heap_alloc_new ((w.alloc (.cells #[.string d,v] 27)).alloc (.cells #[.string ⟨#[]⟩,.slice none 0 0] 27)) (.cells #[v,.int .i64 0] 148);simpa only[World.size_alloc] using this
theorem norm_start (w:World) (d:ByteArray) (v:Value):NormAt w.heap.size d w (((w.alloc (.cells #[.string d,v] 27)).alloc (.cells #[.string ⟨#[]⟩,.slice none 0 0] 27)).alloc (.cells #[v,.int .i64 0] 148)) v (.slice none 0 0) 0 [] where
 own:=ownA_nil _ _
 box:=(boxE_new w d v).go (Below.alloc (Below.refl (w.heap.size+2) _) (by simp) _) (by omega)
 m0:=by simp only[World.cell?,norm_block w d v];rfl
 m1:=by simp only[World.cell?,norm_block w d v];rfl
 mz:=by simp only[World.frozen?,norm_block w d v];rfl
 size:=by simp
 bel:=(((Below.refl _ _).alloc (Nat.le_refl _) _).alloc (by simp) _).alloc (by simp;omega) _
theorem normL_take (L:List AT) (j:Nat) (h:j<L.length):normL (L.take (j+1))=normL (L.take j)++[(nameA L[j].1,L[j].2)]:=by
 unfold normL;rw[List.take_succ_eq_append_getElem h,List.map_append];rfl
end Go.Proofs.YtgaaefcanfglhaaGreatDoor
namespace Go.Proofs.YtgaaefcanfglhaaGreatDoor
set_option linter.unusedVariables false
set_option linter.unusedSimpArgs false
section
variable {α β:Type}
def swapG (R:List α) (j:Nat):List α:=match R[j]?,R[j+1]? with
 | some x,some y=>(R.set j y).set (j+1) x
 | _,_=>R
def bubG (key:α→List UInt8):Nat→List α→List α
 | 0,R=>R
 | j+1,R=>match R[j]?,R[j+1]? with
  | some x,some y=>if cmpL (key y) (key x)<0 then bubG key j (swapG R j) else R
  | _,_=>R
def srtG (key:α→List UInt8):Nat→List α→List α
 | 0,R=>R
 | k+1,R=>bubG key (k+1) (srtG key k R)
theorem swapG_length (R:List α) (j:Nat):(swapG R j).length=R.length:=by
 unfold swapG
 split
 ·simp
 ·rfl
theorem swapG_at {R:List α} {j:Nat} (h:j+1<R.length):swapG R j=(R.set j R[j+1]).set (j+1) (R[j]'(by omega)):=by
 unfold swapG;rw[List.getElem?_eq_getElem h,List.getElem?_eq_getElem (show j<R.length by omega)]
theorem swapG_mem {R:List α} {j:Nat} {x:α} (h:x∈swapG R j):x∈R:=by
 unfold swapG at h
 split at h
 ·rename_i a b ha hb
  rcases List.mem_or_eq_of_mem_set h with h | h
  ·rcases List.mem_or_eq_of_mem_set h with h | h
   ·exact h
   ·rw[h];exact List.mem_of_getElem? hb
  ·rw[h];exact List.mem_of_getElem? ha
 ·exact h
theorem bubG_length (key:α→List UInt8):∀ (j:Nat) (R:List α),(bubG key j R).length=R.length
 | 0,_=>rfl
 | j+1,R=>by
  unfold bubG
  split
  ·split
   ·rw[bubG_length key j,swapG_length]
   ·rfl
  ·rfl
theorem bubG_mem {key:α→List UInt8}:∀ (j:Nat) {R:List α} {x:α},x∈bubG key j R→x∈R
 | 0,_,_,h=>h
 | j+1,R,x,h=>by
  unfold bubG at h
  split at h
  ·split at h
   ·exact swapG_mem (bubG_mem j h)
   ·exact h
  ·exact h
theorem srtG_length (key:α→List UInt8):∀ (k:Nat) (R:List α),(srtG key k R).length=R.length
 | 0,_=>rfl
 | k+1,R=>by
  show (bubG key (k+1) (srtG key k R)).length=_
  rw[bubG_length,srtG_length key k]
theorem srtG_mem {key:α→List UInt8}:∀ (k:Nat) {R:List α} {x:α},x∈srtG key k R→x∈R
 | 0,_,_,h=>h
 | k+1,R,x,h=>srtG_mem k (bubG_mem (k+1) h)
theorem bubG_go {key:α→List UInt8} {j:Nat} {R:List α} (h:j+1<R.length) (hc:cmpL (key R[j+1]) (key (R[j]'(by omega)))<0):bubG key (j+1) R=bubG key j (swapG R j):=by
 conv=>lhs;unfold bubG
 rw[List.getElem?_eq_getElem h,List.getElem?_eq_getElem (show j<R.length by omega)];simp only[];rw[if_pos hc]
theorem bubG_stop {key:α→List UInt8} {j:Nat} {R:List α} (h:j+1<R.length) (hc:¬ cmpL (key R[j+1]) (key (R[j]'(by omega)))<0):bubG key (j+1) R=R:=by
 unfold bubG;rw[List.getElem?_eq_getElem h,List.getElem?_eq_getElem (show j<R.length by omega)];simp only[];rw[if_neg hc]
theorem swapG_map (f:α→β) (R:List α) (j:Nat):(swapG R j).map f=swapG (R.map f) j:=by
 unfold swapG;rw[List.getElem?_map,List.getElem?_map]
 cases R[j]? with
 | none=>rfl
 | some x=>
  cases R[j+1]? with
  | none=>rfl
  | some y=>simp[List.map_set]
theorem bubG_map {key:α→List UInt8} {key':β→List UInt8} (f:α→β):∀ (j:Nat) (R:List α),(∀ x∈R,key' (f x)=key x)→(bubG key j R).map f=bubG key' j (R.map f)
 | 0,_,_=>rfl
 | j+1,R,h=>by
  unfold bubG;rw[List.getElem?_map,List.getElem?_map]
  cases hx:R[j]? with
  | none=>rfl
  | some x=>
   cases hy:R[j+1]? with
   | none=>rfl
   | some y=>
    simp only[Option.map_some];rw[h x (List.mem_of_getElem? hx),h y (List.mem_of_getElem? hy)]
    split
    ·rw[bubG_map f j _ fun z hz=>h z (swapG_mem hz),swapG_map]
    ·rfl
theorem srtG_map {key:α→List UInt8} {key':β→List UInt8} (f:α→β):∀ (k:Nat) (R:List α),(∀ x∈R,key' (f x)=key x)→(srtG key k R).map f=srtG key' k (R.map f)
 | 0,_,_=>rfl
 | k+1,R,h=>by
  show (bubG key (k+1) (srtG key k R)).map f=bubG key' (k+1) (srtG key' k (R.map f))
  rw[bubG_map f (k+1) _ fun x hx=>h x (srtG_mem k hx),srtG_map f k R h]
end
def sortA (L:List AT):List AT:=srtG (fun a=>a.1) (L.length - 1) L
end Go.Proofs.YtgaaefcanfglhaaGreatDoor
namespace Go.Proofs.YtgaaefcanfglhaaGreatDoor
set_option linter.unusedVariables false
set_option linter.unusedSimpArgs false
theorem ofL_bang (l:List UInt8) (i:Nat):(ofL l)[i]! = l[i]!:=by
 by_cases h:i<l.length
 ·rw[getElem!_pos (ofL l) i (by simpa [ofL,ByteArray.size] using h),getElem!_pos l i h];rfl
 ·rw[getElem!_neg (ofL l) i (by simpa [ofL,ByteArray.size] using h),getElem!_neg l i h]
theorem cmpL_cons (x y:UInt8) (a b:List UInt8):cmpL (x :: a) (y :: b)=if (x != y)=true then (if x<y then -1 else 1) else cmpL a b:=by
 unfold cmpL Extern.BytealgCompare.cmp;simp only[ofL_bang,ofL_size,List.length_cons];rw[show min (a.length+1) (b.length+1)=min a.length b.length+1 by omega,List.range_succ_eq_map,List.find?_cons];have e0:(x :: a)[0]! = x:=rfl;have e1:(y :: b)[0]! = y:=rfl;rw[e0,e1]
 by_cases h:(x != y)=true
 ·rw[h,if_pos rfl];simp only[e0,e1]
 ·have h':(x != y)=false:=by simpa using h
  rw[h',List.find?_map];simp only[Bool.false_eq_true,if_false];have e2:((fun i=>(x :: a)[i]! != (y :: b)[i]!) ∘ Nat.succ)=fun i=>a[i]! != b[i]!:=by
   funext i
   simp
  rw[e2]
  cases hq:List.find? (fun i=>a[i]! != b[i]!) (List.range (min a.length b.length)) with
  | none=>
   have e3:(a.length+1<b.length+1)=(a.length<b.length):=propext ⟨fun h=>by omega,fun h=>by omega⟩;have e4:(a.length+1 > b.length+1)=(a.length > b.length):=propext ⟨fun h=>by omega,fun h=>by omega⟩;simp only[Option.map_none,e3,e4]
  | some i=>simp
theorem cmpL_less:∀ a b:List UInt8,decide (cmpL a b<0)=Op.bytesLess a b
 | a,[]=>by cases a <;> simp[cmpL,Extern.BytealgCompare.cmp,ofL_size,Op.bytesLess]
 | [],y :: b=>by simp[cmpL,Extern.BytealgCompare.cmp,ofL_size,Op.bytesLess]
 | x :: a,y :: b=>by
  have ih:=cmpL_less a b;rw[cmpL_cons];unfold Op.bytesLess
  by_cases h:x=y
  ·subst h;simp[ih]
  ·have h1:(x != y)=true:=by simpa using h
   have h2:(x == y)=false:=by simpa using h
   rw[if_pos h1,h2]
   by_cases h3:x<y <;> simp[h3]
theorem less_gtB:∀ x y:List UInt8,Op.bytesLess y x=gtB x y
 | [],[]=>rfl
 | [],_ :: _=>rfl
 | _ :: _,[]=>rfl
 | a :: x,b :: y=>by
  have ih:=less_gtB x y;unfold gtB at ih ⊢;simp only[Op.bytesLess,List.cons_beq_cons];rw[ih]
  by_cases h:a=b
  ·subst h;simp
  ·have h1:(a == b)=false:=by simpa using h
   have h2:(b == a)=false:=by simpa using Ne.symm h
   rw[h1,h2];have h3:a.toNat≠b.toNat:=fun e=>h (UInt8.toNat_inj.1 e)
   simp only[UInt8.lt_iff_toNat_lt]
   by_cases h4:a.toNat<b.toNat
   ·have h5:¬ b.toNat<a.toNat:=by omega
    simp[h4,h5]
   ·have h5:b.toNat<a.toNat:=by omega
    simp[h4,h5]
theorem cmp_gtB (x y:List UInt8):cmpL y x<0↔gtB x y=true:=by
 rw[← less_gtB,← cmpL_less];simp
def posB (S:List AT) (a:AT):Nat→Nat
 | 0=>0
 | k+1=>match S[k]? with
  | some s=>if gtB s.1 a.1=true then posB S a k else k+1
  | none=>k+1
def insB (S:List AT) (a:AT):List AT:=S.take (posB S a S.length)++a :: S.drop (posB S a S.length)
theorem posB_le (S:List AT) (a:AT):∀ k,posB S a k≤k
 | 0=>Nat.le_refl _
 | k+1=>by
  unfold posB
  split
  ·split
   ·exact Nat.le_succ_of_le (posB_le S a k)
   ·exact Nat.le_refl _
  ·exact Nat.le_refl _
theorem posB_go {S:List AT} {a:AT} {k:Nat} (h:k<S.length) (hg:gtB S[k].1 a.1=true):posB S a (k+1)=posB S a k:=by
 rw[posB,List.getElem?_eq_getElem h];simp only[];rw[if_pos hg]
theorem posB_stop {S:List AT} {a:AT} {k:Nat} (h:k<S.length) (hg:gtB S[k].1 a.1=false):posB S a (k+1)=k+1:=by
 rw[posB,List.getElem?_eq_getElem h];simp only[];rw[if_neg (by simp[hg])]
theorem insB_length (S:List AT) (a:AT):(insB S a).length=S.length+1:=by
 unfold insB;have:=posB_le S a S.length;simp;omega
theorem bub_pos (S:List AT) (a:AT) (r:List AT):∀ j,j≤S.length→bubG (fun a=>a.1) j (S.take j++a :: (S.drop j++r))=S.take (posB S a j)++a :: (S.drop (posB S a j)++r)
 | 0,_=>rfl
 | j+1,h=>by
  have hj:j<S.length:=by omega
  have hl:j+1<(S.take (j+1)++a :: (S.drop (j+1)++r)).length:=by simp;omega
  have hs:S.take (j+1)=S.take j++[S[j]]:=by rw[List.take_succ_eq_append_getElem hj]
  have hd:S.drop j=S[j] :: S.drop (j+1):=List.drop_eq_getElem_cons hj;have htl:(S.take j).length=j:=by simp;omega
  have g1:(S.take (j+1)++a :: (S.drop (j+1)++r))[j+1]'hl=a:=by
   rw[List.getElem_append_right (by simp;omega)];simp[show j+1 - min (j+1) S.length=0 by omega]
  have g0:(S.take (j+1)++a :: (S.drop (j+1)++r))[j]'(by omega)=S[j]:=by
   rw[List.getElem_append_left (by simp;omega)];simp
  by_cases hg:gtB S[j].1 a.1=true
  ·rw[bubG_go hl (by rw[g1,g0];exact (cmp_gtB _ _).2 hg),posB_go hj hg];have hsw:swapG (S.take (j+1)++a :: (S.drop (j+1)++r)) j=S.take j++a :: (S.drop j++r):=by
    rw[swapG_at hl,g1,g0,hs,hd];rw[List.append_assoc];simp only[List.cons_append,List.nil_append];rw[List.set_append_right _ _ (by omega),List.set_append_right _ _ (by omega)];rw[htl];simp
   rw[hsw];exact bub_pos S a r j (by omega)
  ·have hg':gtB S[j].1 a.1=false:=by simpa using hg
   rw[bubG_stop hl (by rw[g1,g0];intro e;exact hg ((cmp_gtB _ _).1 e)),posB_stop hj hg']
theorem srt_fold (L:List AT):∀ k,k<L.length→srtG (fun a=>a.1) k L=(L.take (k+1)).foldl insB []++L.drop (k+1)
 | 0,h=>by
  cases L with
  | nil=>simp at h
  | cons a r=>rfl
 | k+1,h=>by
  have ih:=srt_fold L k (by omega);have hlen:∀ (M:List AT) (S:List AT),(M.foldl insB S).length=S.length+M.length:=by
   intro M
   induction M with
   | nil=>intro S;rfl
   | cons a r ih=>intro S;rw[List.foldl_cons,ih,insB_length,List.length_cons];omega
  show bubG (fun a=>a.1) (k+1) (srtG (fun a=>a.1) k L)=_
  rw[ih];obtain ⟨S,hS⟩:∃ S,S=(L.take (k+1)).foldl insB []:=⟨_,rfl⟩;have hSl:S.length=k+1:=by rw[hS,hlen];simp;omega
  rw[← hS,List.drop_eq_getElem_cons h];have hb:=bub_pos S L[k+1] (L.drop (k+1+1)) (k+1) (by omega);rw[List.take_of_length_le (by omega),List.drop_of_length_le (by omega),List.nil_append] at hb;rw[hb,List.take_succ_eq_append_getElem h,List.foldl_append,← hS]
  show _=insB S L[k+1]++_
  unfold insB;rw[hSl,List.append_assoc];rfl
theorem sortA_fold (L:List AT):sortA L=L.foldl insB []:=by
 unfold sortA
 cases hl:L with
 | nil=>rfl
 | cons a r=>
  rw[srt_fold _ _ (by simp)];rw[List.take_of_length_le (by simp),List.drop_of_length_le (by simp),List.append_nil]
end Go.Proofs.YtgaaefcanfglhaaGreatDoor
namespace Go.Proofs.YtgaaefcanfglhaaGreatDoor
set_option linter.unusedVariables false
set_option linter.unusedSimpArgs false
theorem getD_in {α:Type} (l:List α) (d:α) {i:Nat} (h:i<l.length):l.getD i d=l[i]:=by simp[List.getD,h]
abbrev ET:=List UInt8×List AT
abbrev KL:=List UInt8
def kE (e:ET):KL:=(keyD e.1).getD []
def keysE (L:List ET):List KL:=L.map kE
theorem keysE_len (L:List ET):(keysE L).length=L.length:=by simp[keysE]
theorem keysE_at (L:List ET) (j:Nat) (h:j<L.length):(keysE L)[j]'(by rw[keysE_len];exact h)=kE L[j]:=by simp[keysE]
def idxK (KS:List KL) (k:KL):Int:=match KS.findIdx? (fun x=>x == k) with
 | some i=>(i:Int)
 | none=>-1
theorem idxK_at {KS:List KL} {k:KL} (j:Nat) (hj:j<KS.length) (h:∀ i (hi:i<KS.length),i<j→KS[i]≠k) (he:KS[j]=k):idxK KS k=j:=by
 have:KS.findIdx? (fun x=>x == k)=some j:=by
  rw[List.findIdx?_eq_some_iff_getElem];exact ⟨hj,by simp[he],fun i hi=>by simpa using h i (by omega) hi⟩
 unfold idxK;rw[this]
theorem idxK_no {KS:List KL} {k:KL} (h:k ∉ KS):idxK KS k = -1:=by
 have:KS.findIdx? (fun x=>x == k)=none:=by
  rw[List.findIdx?_eq_none_iff];intro x hx;simpa using fun e=>h (by rw[← e];exact hx)
 unfold idxK;rw[this]
theorem idxK_some {KS:List KL} {k:KL} (h:k∈KS):∃ j,∃ hj:j<KS.length,idxK KS k=j∧KS[j]=k∧∀ i (hi:i<KS.length),i<j→KS[i]≠k:=by
 cases e:KS.findIdx? (fun x=>x == k) with
 | none=>
  rw[List.findIdx?_eq_none_iff] at e;have:=e k h;simp at this
 | some j=>
  have e2:=e;rw[List.findIdx?_eq_some_iff_getElem] at e;obtain ⟨hj,h1,h2⟩:=e;exact ⟨j,hj,by unfold idxK;rw[e2],by simpa using h1,fun i hi hij=>by simpa using h2 i hij⟩
theorem idxK_mem (KS:List KL) (k:KL):decide (idxK KS k<0)=!KS.contains k:=by
 by_cases h:k∈KS
 ·obtain ⟨j,_,e,_⟩:=idxK_some h;rw[e];simp[h]
 ·rw[idxK_no h];simp[h]
def findK (KS:List KL) (k:KL):Int:=if k=[] then -1 else idxK KS k
theorem findK_idx {KS:List KL} {k:KL} (h:[] ∉ KS):findK KS k=idxK KS k:=by
 unfold findK
 split
 ·rename_i e;subst e;rw[idxK_no h]
 ·rfl
def aboveK (KS:List KL) (k:KL):Nat:=(KS.findIdx? (fun x=>gtB x k)).getD KS.length
open Go.Maps
def kLit (k:KL):Lit:=.string k
def PlD (KS:List KL) (D:DataW Unit):Prop:=IsMap D∧∀ k:KL,has D (kLit k)=(KS.contains k && !k.isEmpty)∧(∀ i:Nat,idxK KS k=i→k≠[]→∀ z,D.atKey (kLit k) z=.lit (.int .i64 i))
theorem plD_nil:PlD [] (.map []):=⟨isMap_empty,fun k=>⟨rfl,fun i h=>absurd h (by rw[idxK_no (by simp)];omega)⟩⟩
theorem idxK_app_old {KS:List KL} {k x:KL} (h:k∈KS):idxK (KS++[x]) k=idxK KS k:=by
 obtain ⟨j,hj,e,h1,h2⟩:=idxK_some h;rw[e];exact idxK_at j (by simp;omega) (fun i hi hij=>by rw[List.getElem_append_left (by omega)];exact h2 i (by omega) hij) (by rw[List.getElem_append_left hj];exact h1)
theorem idxK_app_new {KS:List KL} {k:KL} (h:k ∉ KS):idxK (KS++[k]) k=KS.length:=
 idxK_at KS.length (by simp) (fun i hi hij=>by rw[List.getElem_append_left hij];exact fun e=>h (by rw[← e];exact List.getElem_mem _)) (by simp)
theorem idxK_app_other {KS:List KL} {k x:KL} (h:x≠k):idxK (KS++[x]) k=idxK KS k:=by
 by_cases hk:k∈KS
 ·exact idxK_app_old hk
 ·rw[idxK_no hk,idxK_no (by simpa [hk] using Ne.symm h)]
theorem plD_skip {KS:List KL} {D:DataW Unit} {k:KL} (h:PlD KS D) (hs:(KS.contains k && !k.isEmpty)=true∨k=[]):PlD (KS++[k]) D:=by
 refine ⟨h.1,fun x=>?_⟩
 by_cases e:k=x
 ·subst e;rcases hs with hs | rfl
  ·have hm:k∈KS:=by simp at hs;exact hs.1
   refine ⟨by rw[(h.2 k).1];simp[hm],fun i hi hne z=>(h.2 k).2 i (by rw[← hi,idxK_app_old hm]) hne z⟩
  ·exact ⟨by rw[(h.2 []).1];simp,fun i _ hne=>absurd rfl hne⟩
 ·refine ⟨by rw[(h.2 x).1];simp[Ne.symm e],fun i hi hne z=>(h.2 x).2 i (by rw[← hi,idxK_app_other e]) hne z⟩
theorem kLit_ne {a b:KL} (h:a≠b):kLit a≠kLit b:=fun e=>h (by injection e)
theorem kLit_key (k:KL):WideAt.IsKeyLit (kLit k):=by unfold kLit WideAt.IsKeyLit;trivial
theorem plD_put {KS:List KL} {D:DataW Unit} {k:KL} (h:PlD KS D) (hk:k≠[]) (hn:has D (kLit k)=false):PlD (KS++[k]) (D.put (kLit k) (.lit (.int .i64 (KS.length:Nat)))):=by
 have hm:k ∉ KS:=by
  rw[(h.2 k).1] at hn;intro hm;have:k.isEmpty=false:=by cases k <;> simp_all
  simp[hm,this] at hn
 refine ⟨h.1.put _ _,fun x=>?_⟩
 by_cases e:x=k
 ·subst e;refine ⟨?_,fun i hi _ z=>?_⟩
  ·rw[has_put_same h.1 (kLit_key x)];have:x.isEmpty=false:=by cases x <;> simp_all
   simp[this]
  ·rw[atKey_put_same h.1 (kLit_key x)];rw[idxK_app_new hm] at hi;rw[hi]
 ·refine ⟨by rw[has_put_other (kLit_ne e),(h.2 x).1];simp[e],fun i hi hne z=>?_⟩;rw[atKey_put_other (kLit_ne e)];exact (h.2 x).2 i (by rw[← hi,idxK_app_other (Ne.symm e)]) hne z
theorem lessT_nat:∀ a b:List UInt8,Op.bytesLess a b=decide (a.map UInt8.toNat<b.map UInt8.toNat)
 | a,[]=>by cases a <;> simp[Op.bytesLess]
 | [],y :: b=>by simp[Op.bytesLess]
 | x :: a,y :: b=>by
  have ih:=lessT_nat a b;unfold Op.bytesLess;simp only[List.map_cons,List.cons_lt_cons_iff,ih]
  by_cases h:x=y
  ·subst h;simp
  ·have h2:(x == y)=false:=by simpa using h
   have h3:x.toNat≠y.toNat:=fun e=>h (UInt8.toNat_inj.1 e)
   simp[h2,h3,UInt8.lt_iff_toNat_lt]
theorem gtT_iff (x y:List UInt8):gtB x y=true↔y.map UInt8.toNat<x.map UInt8.toNat:=by rw[← less_gtB,lessT_nat];simp
theorem gtT_trans {x y z:List UInt8} (h1:gtB x y=true) (h2:gtB y z=true):gtB x z=true:=by
 rw[gtT_iff] at h1 h2 ⊢;exact List.lt_trans h2 h1
theorem leT_iff (x y:List UInt8):gtB x y=false↔x.map UInt8.toNat≤y.map UInt8.toNat:=by
 rw[← Bool.not_eq_true,gtT_iff];exact List.not_lt
theorem gleT_refl (x:List UInt8):gtB x x=false:=by rw[leT_iff];exact List.le_refl _
def normE (e:ET):ET:=(nameN e.1,sortA (normL e.2))
def isNE (e:ET):Bool:=normE e == e
def okE (e:ET):Bool:=decide (checkD e.1 e.2=0) && isNE e
def riseK (KS:List KL) (i:Nat):Bool:=i == 0 || gtB (KS.getD i []) (KS.getD (i - 1) [])
def upK (KS:List KL) (i:Nat):Bool:=(upD (KS.getD i [])).isEmpty || KS.contains (upD (KS.getD i []))
def standsK (KS:List KL):Bool:=(List.range KS.length).all (fun i=>riseK KS i && upK KS i)
def mayE (L:List ET):Bool:=decide (L.length≤200) && L.all okE && standsK (keysE L)
theorem stands_no {KS:List KL} {i:Nat} (hi:i<KS.length) (h:riseK KS i=false∨upK KS i=false):standsK KS=false:=by
 unfold standsK;rw[List.all_eq_false];exact ⟨i,by simpa using hi,by rcases h with h | h <;> simp[h]⟩
theorem stands_yes {KS:List KL} (h:∀ i,i<KS.length→riseK KS i=true∧upK KS i=true):standsK KS=true:=by
 unfold standsK;rw[List.all_eq_true];intro i hi;obtain ⟨h1,h2⟩:=h i (by simpa using hi);rw[h1,h2];rfl
theorem stands_at {KS:List KL} (h:standsK KS=true) (i:Nat) (hi:i<KS.length):riseK KS i=true∧upK KS i=true:=by
 unfold standsK at h;have:=List.all_eq_true.1 h i (by simpa using hi);simpa using this
theorem may_many {L:List ET} (h:200<L.length):mayE L=false:=by unfold mayE;rw[show decide (L.length≤200)=false from by simp;omega];rfl
theorem may_bad {L:List ET} {i:Nat} (hi:i<L.length) (h:okE L[i]=false):mayE L=false:=by
 unfold mayE;have:L.all okE=false:=List.all_eq_false.2 ⟨L[i],List.getElem_mem _,by simp[h]⟩;rw[this];simp
theorem may_stands {L:List ET} (hl:L.length≤200) (h:∀ i (hi:i<L.length),okE L[i]=true):mayE L=standsK (keysE L):=by
 unfold mayE;have:L.all okE=true:=List.all_eq_true.2 fun x hx=>by obtain ⟨i,hi,rfl⟩:=List.getElem_of_mem hx;exact h i hi
 rw[this];simp[hl]
theorem may_no {L:List ET} (h:standsK (keysE L)=false):mayE L=false:=by unfold mayE;rw[h];simp
theorem check_key {d:List UInt8} {L:List AT} (h:checkD d L=0):∃ k,keyD d=some k∧k≠[]:=by
 cases e:keyD d with
 | none=>rw[check_none e] at h;cases h
 | some k=>
  by_cases hk:k=[]
  ·subst hk;rw[check_empty e] at h;cases h
  ·exact ⟨k,rfl,hk⟩
theorem ok_key {e:ET} (h:okE e=true):kE e≠[]:=by
 unfold okE at h;simp only[Bool.and_eq_true,decide_eq_true_eq] at h;obtain ⟨k,e,hk⟩:=check_key h.1;unfold kE;rw[e];exact hk
theorem may_keys {L:List ET} (h:mayE L=true):[] ∉ keysE L:=by
 unfold mayE at h;simp only[Bool.and_eq_true,List.all_eq_true] at h;intro hm;obtain ⟨e,he,hk⟩:=List.mem_map.1 hm;exact ok_key (h.1.2 e he) hk
theorem may_st {L:List ET} (h:mayE L=true):standsK (keysE L)=true:=by unfold mayE at h;simp only[Bool.and_eq_true] at h;exact h.2
theorem rise_lt {KS:List KL} (h:∀ i,i<KS.length→riseK KS i=true):∀ (j i:Nat),i<j→j<KS.length→gtB (KS.getD j []) (KS.getD i [])=true
 | 0,i,hij,_=>by omega
 | j+1,i,hij,hj=>by
  have h1:=h (j+1) hj;unfold riseK at h1;rw[show (j+1 == 0)=false from by simp,Bool.false_or,show j+1 - 1=j from by omega] at h1
  by_cases e:i=j
  ·subst e;exact h1
  ·exact gtT_trans h1 (rise_lt h j i (by omega) (by omega))
theorem rise_ne {KS:List KL} (h:standsK KS=true) {i j:Nat} (hi:i<KS.length) (hj:j<KS.length) (hne:i≠j):KS[i]≠KS[j]:=by
 have hr:=fun i hi=>(stands_at h i hi).1
 have key:∀ a b (ha:a<KS.length) (hb:b<KS.length),a<b→KS[a]≠KS[b]:=fun a b ha hb hab e=>by
  have h1:=rise_lt hr b a hab hb;rw[getD_in _ _ ha,getD_in _ _ hb,e,gleT_refl] at h1
  cases h1
 by_cases hlt:i<j
 ·exact key i j hi hj hlt
 ·exact Ne.symm (key j i hj hi (by omega))
def kidsP (KS:List KL) (k:KL):List KL:=KS.filter (fun x=>!x.isEmpty && upD x == k)
def kidsT (KS:List KL) (k:KL):List KL:=KS.filter (fun x=>upD x == k && !(x == k))
theorem kids_eq {KS:List KL} (h:[] ∉ KS) (k:KL):kidsP KS k=kidsT KS k:=by
 unfold kidsP kidsT;refine List.filter_congr fun x hx=>?_
 have hne:x≠[]:=fun e=>h (by rw[← e];exact hx)
 have h1:x.isEmpty=false:=by cases x <;> simp_all
 rw[h1]
 by_cases e:upD x=k
 ·have:x≠k:=fun e2=>by have:=upD_lt x hne;rw[e,← e2] at this;omega
  simp[e,this]
 ·simp[e]
def delE (L:List ET) (k:KL):List ET:=if findK (keysE L) k<0 then L else L.take (findK (keysE L) k).toNat++L.drop ((findK (keysE L) k).toNat+1)
def delD (L:List ET) (k:KL):List ET:=L.filter (fun e=>!(kE e == k))
theorem del_eq {L:List ET} (h:mayE L=true) (k:KL):delE L k=delD L k:=by
 have h0:=may_keys h;have hs:=may_st h;unfold delE;rw[findK_idx h0]
 by_cases hm:k∈keysE L
 ·obtain ⟨j,hj,e,h1,h2⟩:=idxK_some hm;rw[e,if_neg (by omega)];have hjl:j<L.length:=by rw[keysE_len] at hj;exact hj
  show L.take j++L.drop (j+1)=delD L k
  unfold delD;have hL:L=L.take j++L[j] :: L.drop (j+1):=by rw[← List.drop_eq_getElem_cons hjl,List.take_append_drop]
  have hk:kE L[j]=k:=by rw[← keysE_at L j hjl];exact h1
  have other:∀ i (hi:i<L.length),i≠j→kE L[i]≠k:=fun i hi hij=>by
   rw[← keysE_at L i hi,← h1];exact rise_ne hs _ _ hij
  have f1:(L.take j).filter (fun e=>!(kE e == k))=L.take j:=List.filter_eq_self.2 fun x hx=>by
   obtain ⟨i,hi,rfl⟩:=List.mem_take_iff_getElem.1 hx;simpa using other i (by omega) (by omega)
  have f2:(L.drop (j+1)).filter (fun e=>!(kE e == k))=L.drop (j+1):=List.filter_eq_self.2 fun x hx=>by
   obtain ⟨i,hi,rfl⟩:=List.mem_drop_iff_getElem.1 hx;simpa using other _ (by omega) (by omega)
  conv=>rhs;rw[hL]
  rw[List.filter_append,List.filter_cons_of_neg (by simp[hk]),f1,f2]
 ·rw[idxK_no hm,if_pos (by omega)];unfold delD
  exact (List.filter_eq_self.2 fun x hx=>by
   have:kE x≠k:=fun e=>hm (by rw[← e];exact List.mem_map_of_mem hx)
   simpa using this).symm
end Go.Proofs.YtgaaefcanfglhaaGreatDoor
namespace Go.Proofs.YtgaaefcanfglhaaGreatDoor
open Go.RowKit
set_option linter.unusedVariables false
def perL (n:List UInt8):List AT:=[([99,110],[n]),([111,98,106,101,99,116,99,108,97,115,115],[[112,101,114,115,111,110]]),([115,110],[[115]])]
def perD (n:List UInt8):List UInt8:=[99,110,61]++n++[44,111,61,120]
structure PerAt (w:World) (g:Nat) (N:ByteArray):Prop where
 b1:w.heap[g - 3]?=some (.cells #[.string N] 9 (0,0))
 b2:w.heap[g - 2]?=some (.cells #[.string ⟨#[112,101,114,115,111,110]⟩] 9 (0,0))
 b3:w.heap[g - 1]?=some (.cells #[.string ⟨#[115]⟩] 9 (0,0))
 b4:w.heap[g]?=some (.cells #[.string ⟨#[99,110]⟩,.slice (some ⟨g - 3,0,none⟩) 1 1,.string ⟨#[111,98,106,101,99,116,99,108,97,115,115]⟩,.slice (some ⟨g - 2,0,none⟩) 1 1,.string ⟨#[115,110]⟩,.slice (some ⟨g - 1,0,none⟩) 1 1] 60 (0,0))
 lt:g<w.heap.size
theorem PerAt.below {w w':World} {g n:Nat} {N:ByteArray} (h:PerAt w g N) (hb:Below n w w') (hn:g<n):PerAt w' g N:=
 ⟨(hb.block _ (by omega)).trans h.b1,(hb.block _ (by omega)).trans h.b2,(hb.block _ (by omega)).trans h.b3,(hb.block _ hn).trans h.b4,Nat.lt_of_lt_of_le h.lt hb.size⟩
theorem isT_block {w:World} {b n0:Nat} {X:ByteArray} {e:TypeId} (h:w.heap[b]?=some (.cells #[.string X] e (0,0))) (hn:b<n0):IsT n0 w [X.data.toList] (.slice (some ⟨b,0,none⟩) 1 1):=
 ⟨_,_,rfl,by unfold maxLen;simp,fun j hj=>by
  have:j=0:=by simp at hj;omega
  subst this;refine ⟨b,0,rfl,hn,?_⟩;rw[show [X.data.toList][0]=X.data.toList from rfl,strV_whole]
  simp only[World.cell?,h];rfl⟩
theorem PerAt.isA {w:World} {g:Nat} {N:ByteArray} (h:PerAt w g N):IsA w.heap.size w (perL N.data.toList) (.slice (some ⟨g,0,none⟩) 3 3):=by
 have hg:=h.lt;refine ⟨_,_,rfl,by unfold maxLen perL;simp,fun j hj=>?_⟩
 match j,hj with
 | 0,_=>exact ⟨g,0,_,rfl,hg,by simp only[World.cell?,h.b4];rfl,by simp only[World.cell?,h.b4];rfl,isT_block h.b1 (by omega)⟩
 | 1,_=>exact ⟨g,0,_,rfl,hg,by simp only[World.cell?,h.b4];rfl,by simp only[World.cell?,h.b4];rfl,isT_block h.b2 (by omega)⟩
 | 2,_=>exact ⟨g,0,_,rfl,hg,by simp only[World.cell?,h.b4];rfl,by simp only[World.cell?,h.b4];rfl,isT_block h.b3 (by omega)⟩
theorem PerAt.cells {w:World} {g:Nat} {N:ByteArray} (h:PerAt w g N):w.cell? ⟨g,2,none⟩=some (.string ⟨#[111,98,106,101,99,116,99,108,97,115,115]⟩)∧w.cell? ⟨g,3,none⟩=some (.slice (some ⟨g - 2,0,none⟩) 1 1)∧w.cell? ⟨g,4,none⟩=some (.string ⟨#[115,110]⟩)∧w.cell? ⟨g,5,none⟩=some (.slice (some ⟨g - 1,0,none⟩) 1 1):=
 ⟨by simp only[World.cell?,h.b4];rfl,by simp only[World.cell?,h.b4];rfl,by simp only[World.cell?,h.b4];rfl,by simp only[World.cell?,h.b4];rfl⟩
theorem per_blocks (w:World) (N:ByteArray) (o:Obj):PerAt (((((w.alloc o).alloc (.cells #[.string N] 9)).alloc (.cells #[.string ⟨#[112,101,114,115,111,110]⟩] 9)).alloc (.cells #[.string ⟨#[115]⟩] 9)).alloc (.cells #[.string ⟨#[99,110]⟩,.slice (some ⟨w.heap.size+1,0,none⟩) 1 1,.string ⟨#[111,98,106,101,99,116,99,108,97,115,115]⟩,.slice (some ⟨w.heap.size+1+1,0,none⟩) 1 1,.string ⟨#[115,110]⟩,.slice (some ⟨w.heap.size+1+1+1,0,none⟩) 1 1] 60)) (w.heap.size+4) N:=by
 have s1:(w.alloc o).heap.size=w.heap.size+1:=by simp
 have e1:=heap_alloc_new (w.alloc o) (.cells #[.string N] 9);rw[s1] at e1;generalize w.alloc o=W1 at s1 e1 ⊢;have s2:(W1.alloc (.cells #[.string N] 9)).heap.size=w.heap.size+2:=by simp;omega
 have e2:=heap_alloc_new (W1.alloc (.cells #[.string N] 9)) (.cells #[.string ⟨#[112,101,114,115,111,110]⟩] 9);rw[s2] at e2;generalize W1.alloc (.cells #[.string N] 9)=W2 at s2 e1 e2 ⊢;have s3:(W2.alloc (.cells #[.string ⟨#[112,101,114,115,111,110]⟩] 9)).heap.size=w.heap.size+3:=by simp;omega
 have f1:=(heap_alloc_old W2 (.cells #[.string ⟨#[112,101,114,115,111,110]⟩] 9) (show w.heap.size+1<W2.heap.size by omega)).trans e1;have e3:=heap_alloc_new (W2.alloc (.cells #[.string ⟨#[112,101,114,115,111,110]⟩] 9)) (.cells #[.string ⟨#[115]⟩] 9);rw[s3] at e3;generalize W2.alloc (.cells #[.string ⟨#[112,101,114,115,111,110]⟩] 9)=W3 at s3 e2 e3 f1 ⊢;have s4:(W3.alloc (.cells #[.string ⟨#[115]⟩] 9)).heap.size=w.heap.size+4:=by simp;omega
 have g1:=(heap_alloc_old W3 (.cells #[.string ⟨#[115]⟩] 9) (show w.heap.size+1<W3.heap.size by omega)).trans f1;have g2:=(heap_alloc_old W3 (.cells #[.string ⟨#[115]⟩] 9) (show w.heap.size+2<W3.heap.size by omega)).trans e2;generalize W3.alloc (.cells #[.string ⟨#[115]⟩] 9)=W4 at s4 e3 g1 g2 ⊢;generalize hO:Obj.cells #[.string ⟨#[99,110]⟩,.slice (some ⟨w.heap.size+1,0,none⟩) 1 1,.string ⟨#[111,98,106,101,99,116,99,108,97,115,115]⟩,.slice (some ⟨w.heap.size+1+1,0,none⟩) 1 1,.string ⟨#[115,110]⟩,.slice (some ⟨w.heap.size+1+1+1,0,none⟩) 1 1] 60=O;have e4:=heap_alloc_new W4 O;rw[s4] at e4;have k1:=(heap_alloc_old W4 O (show w.heap.size+1<W4.heap.size by omega)).trans g1;have k2:=(heap_alloc_old W4 O (show w.heap.size+2<W4.heap.size by omega)).trans g2;have k3:=(heap_alloc_old W4 O (show w.heap.size+3<W4.heap.size by omega)).trans e3;exact ⟨k1,k2,k3,by rw[e4,← hO];rfl,by simp;omega⟩
set_option maxRecDepth 100000 in
set_option maxHeartbeats 4000000 in
theorem person_any (N:ByteArray) (hN:N.size≤1000) (w:World):Calls Tryz.prog 75 #[.string N] w fun e w'=>∃ D g,e=.returned (.agg #[.string D,.slice (some ⟨g,0,none⟩) 3 3])∧D.data.toList=perD N.data.toList∧PerAt w' g N∧w.heap.size+4=g∧Below w.heap.size w w':=by
 obtain ⟨T,hT⟩:∃ T,(⟨#[99,110,61]⟩:ByteArray)++N=T:=⟨_,rfl⟩;obtain ⟨D,hD⟩:∃ D,T++(⟨#[44,111,61,120]⟩:ByteArray)=D:=⟨_,rfl⟩;have hTs:T.size=3+N.size:=by rw[← hT,← bytes_len,app_list,List.length_append,bytes_len,bytes_len];rfl
 have hDl:D.data.toList=perD N.data.toList:=by rw[← hD,← hT,app_list,app_list];rfl
 have q1:3+N.size≤9223372036854775807:=by omega
 have q2:T.size+4≤9223372036854775807:=by omega
 have HDl:=Lib.hid hDl;have HP:=Lib.hid (fun o=>per_blocks w N o);have HB:=Lib.hid (fun o=>((((((Below.refl w.heap.size w).alloc (Nat.le_refl _) o).alloc (by simp) (.cells #[.string N] 9)).alloc (by simp;omega) (.cells #[.string ⟨#[112,101,114,115,111,110]⟩] 9)).alloc (by simp;omega) (.cells #[.string ⟨#[115]⟩] 9)).alloc (by simp;omega) (.cells #[.string ⟨#[99,110]⟩,.slice (some ⟨w.heap.size+1,0,none⟩) 1 1,.string ⟨#[111,98,106,101,99,116,99,108,97,115,115]⟩,.slice (some ⟨w.heap.size+1+1,0,none⟩) 1 1,.string ⟨#[115,110]⟩,.slice (some ⟨w.heap.size+1+1+1,0,none⟩) 1 1] 60)));clear hTs hDl;go_enter Tryz.func75,Tryz.ntmps75
 go_wp2;refine bodyPost_ret (v:=.agg #[.string D,.slice (some ⟨w.heap.size+4,0,none⟩) 3 3]) (by simp[results,Tryz.results75,go_sem]) rfl ⟨D,w.heap.size+4,rfl,HDl.out,?_,rfl,?_⟩
 ·exact HP.out _
 ·exact HB.out _
end Go.Proofs.YtgaaefcanfglhaaGreatDoor
namespace Go.Proofs.YtgaaefcanfglhaaGreatDoor
open Go.RowKit
set_option linter.unusedVariables false
def MapAt (f:UInt8→UInt8) (w:World) (s:ByteArray) (j:Nat) (wr:World):Prop:=
 Below w.heap.size w wr∧∃ A:Array Value,wr.heap[w.heap.size]?=some (.cells A 5 (A.size,A.size+1))∧s.size≤A.size∧∀ k (h:k<s.size),A[k]?=some (.int .u8 ((if k<j then f s[k] else s[k]).toNat:Int))
theorem MapAt.cell {f:UInt8→UInt8} {w wr:World} {s:ByteArray} {j:Nat} (h:MapAt f w s j wr) (hj:j<s.size):wr.cell? ⟨w.heap.size,j,none⟩=some (.int .u8 (s[j].toNat:Int))∧wr.frozen? ⟨w.heap.size,j,none⟩=false:=by
 obtain ⟨_,A,hA,hs,hc⟩:=h;have:=hc j hj;rw[if_neg (by omega)] at this;refine ⟨by simp only[World.cell?,hA];simpa using this,by simp only[World.frozen?,hA];simp;omega⟩
theorem MapAt.skip {f:UInt8→UInt8} {w wr:World} {s:ByteArray} {j:Nat} (h:MapAt f w s j wr) (hj:j<s.size) (he:f s[j]=s[j]):MapAt f w s (j+1) wr:=by
 obtain ⟨hb,A,hA,hs,hc⟩:=h;refine ⟨hb,A,hA,hs,fun k hk=>?_⟩;rw[hc k hk]
 by_cases h1:k<j
 ·rw[if_pos h1,if_pos (by omega)]
 ·rw[if_neg h1]
  by_cases h2:k=j
  ·subst h2;rw[if_pos (by omega),he]
  ·rw[if_neg (by omega)]
theorem MapAt.store {f:UInt8→UInt8} {w wr:World} {s:ByteArray} {j:Nat} (h:MapAt f w s j wr) (hj:j<s.size) (n:Int) (hn:n=((f s[j]).toNat:Int)):MapAt f w s (j+1) (wr.setCell ⟨w.heap.size,j,none⟩ (.int .u8 n)):=by
 subst hn;obtain ⟨hb,A,hA,hs,hc⟩:=h;refine ⟨hb.setCell (p:=⟨w.heap.size,j,none⟩) (Nat.le_refl _) _,A.setIfInBounds j (.int .u8 (f s[j]).toNat),?_,by simpa using hs,fun k hk=>?_⟩
 ·obtain ⟨hlt,hv⟩:=Array.getElem?_eq_some_iff.1 hA
  show (wr.heap.modify w.heap.size _)[w.heap.size]?=_
  rw[Array.getElem?_eq_getElem (by rw[Array.size_modify];exact hlt),Array.getElem_modify_self,hv];simp
 ·rw[Array.getElem?_setIfInBounds]
  by_cases h2:j=k
  ·subst h2;rw[if_pos rfl,if_pos (by omega),if_pos (by omega)]
  ·rw[if_neg h2,hc k hk]
   by_cases h1:k<j
   ·rw[if_pos h1,if_pos (by omega)]
   ·rw[if_neg h1,if_neg (by omega)]
theorem MapAt.conv {f:UInt8→UInt8} {w wr:World} {s:ByteArray} {cap:Nat} (h:MapAt f w s s.size wr) :
  (convert 22 9 (.slice (some ⟨w.heap.size,0,none⟩) s.size cap)).run Tryz.prog wr=.ok (.string ⟨(s.data.toList.map f).toArray⟩) wr:=by
 obtain ⟨_,A,hA,hs,hc⟩:=h;have hl:s.size=(s.data.toList.map f).length:=by simp
 conv=>lhs;rw[hl]
 refine run_convert_bytes_back wr 22 9 5 _ cap (s.data.toList.map f) Tryz.underlying22 Tryz.underlying5 Tryz.underlying9 fun j hj=>?_
 have hj':j<s.size:=by rw[hl];exact hj
 have e:((⟨w.heap.size,0,none⟩:Addr).add j)=⟨w.heap.size,j,none⟩:=by simp[Addr.add];omega
 have:=hc j hj';rw[if_pos hj'] at this;rw[e];simp only[World.cell?,hA];simp;exact this
def upC (c:UInt8):UInt8:=if 97≤c.toNat∧c.toNat≤122 then UInt8.ofNat (c.toNat - 32) else c
def upL (l:List UInt8):List UInt8:=l.map upC
end Go.Proofs.YtgaaefcanfglhaaGreatDoor
namespace Go.Proofs.YtgaaefcanfglhaaGreatDoor
open Go.RowKit
set_option linter.unusedVariables false
end Go.Proofs.YtgaaefcanfglhaaGreatDoor
namespace Go.Proofs.YtgaaefcanfglhaaGreatDoor
open Go.RowKit
set_option linter.unusedVariables false
end Go.Proofs.YtgaaefcanfglhaaGreatDoor
namespace Go.Proofs.YtgaaefcanfglhaaGreatDoor
open Go.RowKit
set_option linter.unusedVariables false
def codeL:List Int:=[17,19,21,19,20,20]
def badL:List AT:=[([110,111,110,101],[[120]]),([100,101,115,99,114,105,112,116,105,111,110],[]),([117,105,100,110,117,109,98,101,114],[[120]]),([117,105,100,110,117,109,98,101,114],[[49],[50]]),([109,97,105,108],[[97],[65,32]]),([67,78],[[122]])]
def othD:List UInt8:=[99,110,61,111,116,104,101,114]
def pName (d:List UInt8):List UInt8:=112 :: d
def ouA:AT:=([111,117],[[97]])
end Go.Proofs.YtgaaefcanfglhaaGreatDoor
namespace Go.Proofs.YtgaaefcanfglhaaGreatDoor
open Go.RowKit
set_option linter.unusedVariables false
theorem conv_one (m:Int) (b:UInt8) (h:(b.toNat:Int)=m) (w:World):(convert 22 9 (.slice (some ⟨w.heap.size,0,none⟩) 1 1)).run Tryz.prog (w.alloc (.cells #[.int .u8 m] 5))=.ok (.string (ofL [b])) (w.alloc (.cells #[.int .u8 m] 5)):=by
 subst h;refine run_convert_bytes_back _ 22 9 5 _ 1 [b] Tryz.underlying22 Tryz.underlying5 Tryz.underlying9 fun j hj=>?_
 have:j=0:=by simp at hj;omega
 subst this;simp[Addr.add]
theorem decDigits_big {u:Nat} (h:10≤u):Lib.decDigits u=Lib.decDigits (u / 10)++[UInt8.ofNat (48+u % 10)]:=by rw[Lib.decDigits,dif_neg (by omega)]
theorem digit_val (u:Nat):((UInt8.ofNat (48+u % 10)).toNat:Int)=48+(u:Int) % 10:=by simp;omega
theorem digit_val1 (u:Nat) (h:u<10):((UInt8.ofNat (48+u)).toNat:Int)=48+(u:Int):=by simp;omega
theorem wrap_u64 (n:Int):IntKind.u64.wrap n=n % 18446744073709551616:=by
 unfold IntKind.wrap;simp[IntKind.bits,IntKind.signed]
set_option maxRecDepth 100000 in
set_option maxHeartbeats 4000000 in
theorem digitsNat_any (neg:Bool) (N:Nat) (hN:N≤1000000000000000000) (hneg:neg=true→1≤N) (w:World) :
  Calls Tryz.prog 30 #[.int .i64 (if neg then -(N:Int) else N)] w fun e w'=>e=.returned (.string (ofL (if neg then 45 :: Lib.decDigits N else Lib.decDigits N)))∧Below w.heap.size w w':=by
 have hlen:(Lib.decDigits N).length≤21:=by
  have:=Lib.itoa_length_le (N:Int) (by omega) (by omega);rw[Lib.itoa_nonneg] at this;exact this
 obtain ⟨V,hV⟩:∃ V,V=(if neg then -(N:Int) else N):=⟨_,rfl⟩;rw[← hV];obtain ⟨U,hU⟩:∃ U,IntKind.u64.wrap V=U:=⟨_,rfl⟩;have key:decide (V<0)=neg∧(neg=true→IntKind.u64.wrap (-U)=N)∧(neg=false→U=N):=by
  cases neg with
  | false=>
   simp at hV;refine ⟨by simp;omega,by simp,fun _=>?_⟩;rw[← hU,hV];simp only[wrap_u64];omega
  | true=>
   simp at hV;have:=hneg rfl;refine ⟨by simp;omega,fun _=>?_,by simp⟩;rw[← hU,hV];simp only[wrap_u64];omega
 obtain ⟨k1,k2,k3⟩:=key;clear hV;have HLen:=Lib.hid hlen;clear hlen
 cases neg with
 | false=>
  have hUN:=k3 rfl;clear k3 k2 hneg;subst hUN;go_enter Tryz.func30,Tryz.ntmps30
  go_wp2
  go_loopw [3,4] (fun u s wr=>∃ (m:Nat) (D:List UInt8),u=.int .u64 m∧s=.string (ofL D)∧m≤1000000000000000000∧Hid (Lib.decDigits N=Lib.decDigits m++D)∧D.length≤21∧Below w.heap.size w wr) (fun u _ _=>(intOf u).toNat)
  case atStart=>exact ⟨N,[],rfl,rfl,hN,Lib.hid (by simp),by simp,Below.refl _ _⟩
  case round=>
   obtain ⟨m,D,rfl,rfl,hm,HD,hDl,hbel⟩:=hrel;have HBel:=Lib.hid hbel;have hsz:=hbel.size;clear hbel;have hs1:=ofL_size D
   by_cases h10:10≤m
   ·have t1:decide ((10:Int)≤(m:Int))=true:=by simp;omega
    have hcv:=conv_one (48+(m:Int) % 10) (UInt8.ofNat (48+m % 10)) (digit_val m) wr;have hnew:Lib.decDigits N=Lib.decDigits (m / 10)++(UInt8.ofNat (48+m % 10) :: D):=by rw[HD.out,decDigits_big h10];simp
    have hl2:(UInt8.ofNat (48+m % 10) :: D).length≤21:=by have:=HLen.out;rw[hnew] at this;simp at this ⊢;omega
    have HNew:=Lib.hid hnew;have hs2:=ofL_size [UInt8.ofNat (48+m % 10)];have hap:ofL [UInt8.ofNat (48+m % 10)]++ofL D=ofL (UInt8.ofNat (48+m % 10) :: D):=ofL_app _ _;have hs1':(ofL D).size≤21:=by omega
    have hs2':(ofL [UInt8.ofNat (48+m % 10)]).size≤1:=by rw[hs2];simp
    have HAp:=Lib.hid hap;clear hnew hs1 hs2 hap;generalize UInt8.ofNat (48+m % 10)=b at *;go_wp2;go_roundw
    case rel=>exact ⟨m / 10,b :: D,by go_num,by rw[HAp.out],by omega,HNew,hl2,HBel.out.alloc hsz _⟩
    case measure=>simp[intOf];omega
   ·have t1:decide ((10:Int)≤(m:Int))=false:=by simp;omega
    have hcv:=conv_one (48+(m:Int)) (UInt8.ofNat (48+m)) (digit_val1 m (by omega)) wr;have hnew:Lib.decDigits N=UInt8.ofNat (48+m) :: D:=by rw[HD.out,Lib.decDigits_one (by omega)];rfl
    have hs2:=ofL_size [UInt8.ofNat (48+m)];have hap:ofL [UInt8.ofNat (48+m)]++ofL D=ofL (Lib.decDigits N):=by rw[ofL_app,hnew];rfl
    have hs1':(ofL D).size≤21:=by omega
    have hs2':(ofL [UInt8.ofNat (48+m)]).size≤1:=by rw[hs2];simp
    have hs3:(ofL (Lib.decDigits N)).size≤21:=by rw[ofL_size];exact HLen.out
    have hs4:(⟨#[45]⟩:ByteArray).size=1:=rfl;have hap2:(⟨#[45]⟩:ByteArray)++ofL (Lib.decDigits N)=ofL (45 :: Lib.decDigits N):=ofL_app [45] _;have HAp2:=Lib.hid hap2;clear hnew hs1 hs2 hap2;generalize UInt8.ofNat (48+m)=b at *;obtain ⟨R,hR⟩:∃ R,R=ofL (Lib.decDigits N):=⟨_,rfl⟩;rw[← hR] at hap hs3 HAp2;have HR:=Lib.hid hR;clear hR;go_wp2;go_ret;exact ⟨by rw[← HR.out];rfl,HBel.out.alloc hsz _⟩
 | true=>
  have hN1:=hneg rfl;have k2':=k2 rfl;clear k3 k2 hneg;go_enter Tryz.func30,Tryz.ntmps30
  go_wp2
  go_loopw [3,4] (fun u s wr=>∃ (m:Nat) (D:List UInt8),u=.int .u64 m∧s=.string (ofL D)∧m≤1000000000000000000∧Hid (Lib.decDigits N=Lib.decDigits m++D)∧D.length≤21∧Below w.heap.size w wr) (fun u _ _=>(intOf u).toNat)
  case atStart=>exact ⟨N,[],rfl,rfl,hN,Lib.hid (by simp),by simp,Below.refl _ _⟩
  case round=>
   obtain ⟨m,D,rfl,rfl,hm,HD,hDl,hbel⟩:=hrel;have HBel:=Lib.hid hbel;have hsz:=hbel.size;clear hbel;have hs1:=ofL_size D
   by_cases h10:10≤m
   ·have t1:decide ((10:Int)≤(m:Int))=true:=by simp;omega
    have hcv:=conv_one (48+(m:Int) % 10) (UInt8.ofNat (48+m % 10)) (digit_val m) wr;have hnew:Lib.decDigits N=Lib.decDigits (m / 10)++(UInt8.ofNat (48+m % 10) :: D):=by rw[HD.out,decDigits_big h10];simp
    have hl2:(UInt8.ofNat (48+m % 10) :: D).length≤21:=by have:=HLen.out;rw[hnew] at this;simp at this ⊢;omega
    have HNew:=Lib.hid hnew;have hs2:=ofL_size [UInt8.ofNat (48+m % 10)];have hap:ofL [UInt8.ofNat (48+m % 10)]++ofL D=ofL (UInt8.ofNat (48+m % 10) :: D):=ofL_app _ _;have hs1':(ofL D).size≤21:=by omega
    have hs2':(ofL [UInt8.ofNat (48+m % 10)]).size≤1:=by rw[hs2];simp
    have HAp:=Lib.hid hap;clear hnew hs1 hs2 hap;generalize UInt8.ofNat (48+m % 10)=b at *;go_wp2;go_roundw
    case rel=>exact ⟨m / 10,b :: D,by go_num,by rw[HAp.out],by omega,HNew,hl2,HBel.out.alloc hsz _⟩
    case measure=>simp[intOf];omega
   ·have t1:decide ((10:Int)≤(m:Int))=false:=by simp;omega
    have hcv:=conv_one (48+(m:Int)) (UInt8.ofNat (48+m)) (digit_val1 m (by omega)) wr;have hnew:Lib.decDigits N=UInt8.ofNat (48+m) :: D:=by rw[HD.out,Lib.decDigits_one (by omega)];rfl
    have hs2:=ofL_size [UInt8.ofNat (48+m)];have hap:ofL [UInt8.ofNat (48+m)]++ofL D=ofL (Lib.decDigits N):=by rw[ofL_app,hnew];rfl
    have hs1':(ofL D).size≤21:=by omega
    have hs2':(ofL [UInt8.ofNat (48+m)]).size≤1:=by rw[hs2];simp
    have hs3:(ofL (Lib.decDigits N)).size≤21:=by rw[ofL_size];exact HLen.out
    have hs4:(⟨#[45]⟩:ByteArray).size=1:=rfl;have hap2:(⟨#[45]⟩:ByteArray)++ofL (Lib.decDigits N)=ofL (45 :: Lib.decDigits N):=ofL_app [45] _;have HAp2:=Lib.hid hap2;clear hnew hs1 hs2 hap2;generalize UInt8.ofNat (48+m)=b at *;obtain ⟨R,hR⟩:∃ R,R=ofL (Lib.decDigits N):=⟨_,rfl⟩;rw[← hR] at hap hs3 HAp2;have HR:=Lib.hid hR;clear hR;go_wp2;go_ret;exact ⟨by rw[HAp2.out];rfl,HBel.out.alloc hsz _⟩
theorem digits_any (n:Int) (h0:-1000000000000000000≤n) (h1:n≤1000000000000000000) (w:World) :
  Calls Tryz.prog 30 #[.int .i64 n] w fun e w'=>e=.returned (.string (ofL (Lib.itoa n)))∧Below w.heap.size w w':=by
 by_cases h:n<0
 ·have:=digitsNat_any true n.natAbs (by omega) (by intro _;omega) w;simp only[if_true] at this;have e:-(n.natAbs:Int)=n:=by omega
  rw[e] at this;unfold Lib.itoa;rw[if_pos h];exact this
 ·have:=digitsNat_any false n.toNat (by omega) (by intro h;cases h) w;simp only[Bool.false_eq_true,if_false] at this;have e:(n.toNat:Int)=n:=by omega
  rw[e] at this;unfold Lib.itoa;rw[if_neg h];exact this
end Go.Proofs.YtgaaefcanfglhaaGreatDoor
namespace Go.Proofs.YtgaaefcanfglhaaGreatDoor
open Go.RowKit
set_option linter.unusedVariables false
theorem itoa_short:∀ n:Fin 256,(Lib.itoa (n.1:Int)).length≤3:=by decide +kernel
def bA (k:Nat):AT:=badL.getD k ([],[])
def bT (k:Nat):ByteArray:=ofL (bA k).1
def cK (k:Nat):Int:=codeL.getD k 0
def bV (h:Nat) (k:Nat):Value:=[.slice (some ⟨h+1,0,none⟩) 1 1,.slice none 0 0,.slice (some ⟨h+2,0,none⟩) 1 1,.slice (some ⟨h+3,0,none⟩) 2 2,.slice (some ⟨h+4,0,none⟩) 2 2,.slice (some ⟨h+5,0,none⟩) 1 1].getD k .nilIface
structure FstAt (h:Nat) (W:World) (E:ByteArray) (u:Value):Prop where
 box:BoxN W h E u
 b1:W.heap[h+1]?=some (.cells #[.string ⟨#[120]⟩] 9 (0,0))
 b2:W.heap[h+2]?=some (.cells #[.string ⟨#[120]⟩] 9 (0,0))
 b3:W.heap[h+3]?=some (.cells #[.string ⟨#[49]⟩,.string ⟨#[50]⟩] 9 (0,0))
 b4:W.heap[h+4]?=some (.cells #[.string ⟨#[97]⟩,.string ⟨#[65,32]⟩] 9 (0,0))
 b5:W.heap[h+5]?=some (.cells #[.string ⟨#[122]⟩] 9 (0,0))
 b6:W.heap[h+6]?=some (.cells #[.string ⟨#[110,111,110,101]⟩,.slice (some ⟨h+1,0,none⟩) 1 1,.string ⟨#[100,101,115,99,114,105,112,116,105,111,110]⟩,.slice none 0 0,.string ⟨#[117,105,100,110,117,109,98,101,114]⟩,.slice (some ⟨h+2,0,none⟩) 1 1,.string ⟨#[117,105,100,110,117,109,98,101,114]⟩,.slice (some ⟨h+3,0,none⟩) 2 2,.string ⟨#[109,97,105,108]⟩,.slice (some ⟨h+4,0,none⟩) 2 2,.string ⟨#[67,78]⟩,.slice (some ⟨h+5,0,none⟩) 1 1] 60 (0,0))
 b7:W.heap[h+7]?=some (.cells #[.int .i64 17,.int .i64 19,.int .i64 21,.int .i64 19,.int .i64 20,.int .i64 20] 3 (0,0))
 size:W.heap.size=h+8
def XAt (W7:World) (E:ByteArray) (L:List AT) (wx:World) (b:Nat) (u:Value):Prop:=W7.heap.size≤b∧b<wx.heap.size∧BoxN wx b E u∧IsA wx.heap.size wx L u∧Below W7.heap.size W7 wx
theorem XAt.drew {W7 wx:World} {E:ByteArray} {L:List AT} {b:Nat} {u:Value} (h:XAt W7 E L wx b u):XAt W7 E L wx.drew b u:=⟨h.1,h.2.1,h.2.2.1,h.2.2.2.1,h.2.2.2.2.drew⟩
theorem XAt.from {W7 wx:World} {E:ByteArray} {L:List AT} {b:Nat} {u:Value} (h:XAt W7.drew E L wx b u):XAt W7 E L wx b u:=⟨h.1,h.2.1,h.2.2.1,h.2.2.2.1,(Below.refl W7.heap.size W7).drew.trans h.2.2.2.2⟩
def At9 (w9 w:World):Prop:=Below w9.heap.size w9 w
theorem At9.go {w9 w w':World} (h:At9 w9 w) (hb:Below w.heap.size w w'):At9 w9 w':=bthen h hb
theorem At9.mono {w9 w:World} (h:At9 w9 w) {n:Nat} (hn:n≤w9.heap.size):Below n w9 w:=Below.mono h hn
theorem At9.size {w9 w:World} (h:At9 w9 w):w9.heap.size≤w.heap.size:=Below.size h
theorem At9.cell {w9 w:World} (h:At9 w9 w) {p:Addr} (hp:p.block<w9.heap.size):w.cell? p=w9.cell? p:=Below.cell h hp
abbrev C6 (N1 N2 N3:ByteArray) (v1 v2 v3:Value):Obj:=.cells #[.string N1,v1,.string N2,v2,.string N3,v3] 60
abbrev C8 (g q:Nat):Array Value:=#[.string ⟨#[99,110]⟩,.slice (some ⟨g - 3,0,none⟩) 1 1,.string ⟨#[111,98,106,101,99,116,99,108,97,115,115]⟩,.slice (some ⟨g - 2,0,none⟩) 1 1,.string ⟨#[115,110]⟩,.slice (some ⟨g - 1,0,none⟩) 1 1,.string ⟨#[111,117]⟩,.slice (some ⟨q,0,none⟩) 1 1]
end Go.Proofs.YtgaaefcanfglhaaGreatDoor
