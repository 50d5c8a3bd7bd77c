/- Several texts in one file: TuA, EnNEntR, EnNEntS, EnRSetP, MaRef, EnRSetW, RegDet. -/
import Derived.Test.YtgaaefcanfglhaaGreatDoorTrmP6
import Derived.Deep.Onto
import Derived.Test.YtgaaefcanfglhaaGreatDoorTrmP5
import Derived.Deep.AppendSrc
import Derived.ArgAppend
import Derived.Test.YtgaaefcanfglhaaGreatDoorTrmP4
import Derived.Test.YtgaaefcanfglhaaGreatDoorTrmP2
import Derived.Test.YtgaaefcanfglhaaGreatDoorTrmP1
import Derived.Deep.Cut
import Derived.Deep.CutRange
import Derived.RowKit
namespace Go.Proofs.YtgaaefcanfglhaaGreatDoor
open Go.RowKit
set_option linter.unusedVariables false
def tinyT (k:Nat) (A:List (List UInt8)):Prop:=A.length≤k∧∀ t∈A,t.length≤1000
def tinyA (k:Nat) (L:List AT):Prop:=L.length≤k∧∀ a∈L,a.1.length≤1000∧tinyT k a.2
theorem tinyT.mono {k m:Nat} {A:List (List UInt8)} (h:tinyT k A) (hk:k≤m):tinyT m A:=⟨Nat.le_trans h.1 hk,h.2⟩
theorem tinyA.mono {k m:Nat} {L:List AT} (h:tinyA k L) (hk:k≤m):tinyA m L:=⟨Nat.le_trans h.1 hk,fun a ha=>⟨(h.2 a ha).1,(h.2 a ha).2.mono hk⟩⟩
theorem tinyA.set {k j:Nat} {L:List AT} {x:AT} (h:tinyA k L) (h1:x.1.length≤1000) (h2:tinyT k x.2):tinyA k (L.set j x):=
 ⟨by simpa using h.1,fun a ha=>by
  rcases List.mem_or_eq_of_mem_set ha with h' | rfl
  ·exact h.2 _ h'
  ·exact ⟨h1,h2⟩⟩
theorem tinyA.app {k:Nat} {L M:List AT} (h:tinyA k L) (hm:tinyA k M) (hl:L.length+M.length≤k):tinyA k (L++M):=
 ⟨by rw[List.length_append];exact hl,fun a ha=>by
  rcases List.mem_append.1 ha with h' | h'
  ·exact h.2 _ h'
  ·exact hm.2 _ h'⟩
theorem tinyT.app {k:Nat} {L M:List (List UInt8)} (h:tinyT k L) (hm:tinyT k M) (hl:L.length+M.length≤k):tinyT k (L++M):=
 ⟨by rw[List.length_append];exact hl,fun a ha=>by
  rcases List.mem_append.1 ha with h' | h'
  ·exact h.2 _ h'
  ·exact hm.2 _ h'⟩
theorem tinyA.at {k j:Nat} {L:List AT} (h:tinyA k L) (hj:j<L.length):L[j].1.length≤1000∧tinyT k L[j].2:=h.2 _ (List.getElem_mem hj)
theorem ownS_strB {B:Nat} {w:World} {v:Value} {L:List (List UInt8)} (h:OwnS B w v L) (hl:L.length≤maxLen):IsTo (StrB w) w L v:=by
 have hc:=ownS_isTo h hl
 by_cases hL:L=[]
 ·subst hL;obtain ⟨a,c,hv⟩:=ownS_slice h;exact ⟨a,c,hv,hl,fun j hj=>absurd hj (by simp)⟩
 ·obtain ⟨g,c,hv,_,hg,hcell⟩:=ownS_at h hL;subst hv;refine ⟨_,c,rfl,hl,fun j hj=>⟨g,0,rfl,?_,by rw[Nat.zero_add];exact hcell j hj⟩⟩;rcases h.2 with ⟨h',_⟩ | ⟨g',cap',cur,h',_,hgc,_⟩
  ·simp at h'
  ·simp only[Value.slice.injEq,Option.some.injEq,Addr.mk.injEq,and_true] at h';obtain ⟨rfl,_,_⟩:=h';exact ⟨cur,_,hgc⟩
theorem ownM_mono {B B':Nat} {w:World} {v:Value} {L:List AT} (h:OwnM B w v L) (hb:B'≤B):OwnM B' w v L:=by
 obtain ⟨P,h1,h2⟩:=h;exact ⟨P,World.ownsRow.mono h1 hb,h2⟩
end Go.Proofs.YtgaaefcanfglhaaGreatDoor
namespace Go.Proofs.YtgaaefcanfglhaaGreatDoor
open Go.RowKit
set_option linter.unusedVariables false
set_option linter.unusedSimpArgs false
theorem run_copy_T {w:World} {ok:Nat→Prop} {g:Nat} {u:Value} {A:List (List UInt8)} (hg:w.heap[g]?=some (.cells #[] 9 (0,0))) (hu:IsTo ok w A u) (hlen:A.length≤100000) (ty:TypeId) :
  ∃ v' w',(Builtin.append_ #[33,33] ty #[.slice (some ⟨g,0,none⟩) 0 0,u]).run Tryz.prog w=.ok v' w'∧IsTo (StrB w') w' A v'∧Below w.heap.size w w':=by
 obtain ⟨i0,hi,hz0,hz1,hz2⟩:=info_parts infoS;obtain ⟨a,c,rfl,hm,hc⟩:=hu
 cases a with
 | none=>
  have hA:A=[]:=by
   cases A with
   | nil=>rfl
   | cons x l=>obtain ⟨b,off,e,_⟩:=hc 0 (by simp);cases e
  subst hA;refine ⟨.slice (some ⟨g,0,none⟩) 0 0,w,?_,⟨_,_,rfl,Nat.zero_le _,fun j h=>absurd h (by simp)⟩,Below.refl _ _⟩;exact run_append_room_src (P:=Tryz.prog) w 33 33 ty 9 i0 Tryz.underlying33 hi g 0 0 0 (.slice none 0 c) 0 [] (Src.ofNil w Tryz.underlying33 c) (by simp) (fun j h=>absurd h (by simp)) (fun j h=>absurd h (by simp))
 | some ad=>
  have hcl:∀ j x,(A.map strV)[j]?=some x→w.cell? (ad.add j)=some x:=by
   intro j x hx;have hj:j<A.length:=by
    rcases Nat.lt_or_ge j A.length with h | h
    ·exact h
    ·rw[List.getElem?_eq_none (by simpa using h)] at hx;cases hx
   obtain ⟨b,off,e,_,h0⟩:=hc j hj;simp only[Option.some.injEq] at e;subst e;have hadd:(⟨b,off,none⟩:Addr).add j=⟨b,off+j,none⟩:=by simp[Addr.add]
   rw[hadd,h0];simpa [hj] using hx
  by_cases hA:A=[]
  ·subst hA;refine ⟨.slice (some ⟨g,0,none⟩) 0 0,w,?_,⟨_,_,rfl,Nat.zero_le _,fun j h=>absurd h (by simp)⟩,Below.refl _ _⟩;exact run_append_room_src (P:=Tryz.prog) w 33 33 ty 9 i0 Tryz.underlying33 hi g 0 0 0 (.slice (some ad) 0 c) 0 [] (by rw[hz1];exact Src.ofSlice w Tryz.underlying33 ad 0 c [] (by simp) (fun j u h=>absurd h (by simp)) (by simp)) (by simp) (fun j h=>absurd h (by simp)) (fun j h=>absurd h (by simp))
  ·have hpos:0<A.length:=by cases A with | nil=>exact absurd rfl hA | cons x r=>simp
   obtain ⟨v',w',hrun,hown,hgr⟩:=run_append_arg_grows (P:=Tryz.prog) (w:=w) 33 ty 9 i0 (.string ⟨#[]⟩) 1 16 Tryz.underlying33 hi hz0 hz1 hz2 rfl (by decide) ⟨g,0,none⟩ 0 0 [] (by simp) (fun j u h=>absurd h (by simp)) ad A.length c (A.map strV) (by simp) hcl (by omega) (by unfold maxLen;omega) (by simp;omega);have hown2:OwnS w.heap.size w' v' A:=by
    unfold OwnS;rw[List.nil_append,Nat.zero_add] at hown;exact hown
   exact ⟨v',w',hrun,ownS_strB hown2 (by unfold maxLen;omega),⟨hgr.os,hgr.tape,hgr.output,hgr.size,fun k hk=>hgr.block k hk (by simp)⟩⟩
theorem sortA_len2 (L:List AT):(sortA L).length=L.length:=srtG_length _ _ _
theorem insF_len:∀ (M S:List AT),(M.foldl insB S).length=S.length+M.length
 | [],S=>rfl
 | a :: r,S=>by rw[List.foldl_cons,insF_len r,insB_length,List.length_cons];omega
theorem run_copy_A {w:World} {B Bz g k n cap:Nat} {la:Option Addr} {P:List PT} {L:List AT} (hg:w.heap[g]?=some (.cells #[] 60 (0,0))) (hBg:Bz≤g) (hBz:Bz≤w.heap.size) (hr:RowP B w (.slice la n cap) P) (hs:SaysM w P L) (hk0:0<k) (hk:k≤L.length) (hL:L.length≤1000) (ty:TypeId) :
  ∃ v' w',(Builtin.append_ #[25,25] ty #[.slice (some ⟨g,0,none⟩) 0 0,.slice la k cap]).run Tryz.prog w=.ok v' w'∧OwnM Bz w' v' (L.take k)∧Below w.heap.size w w':=by
 obtain ⟨i0,hi,hz0,hz1,hz2⟩:=info_parts infoA;have hPl:=hs.1;have hne:P≠[]:=by intro e;rw[e] at hPl;simp at hPl;omega
 obtain ⟨g2,c2,hv,_⟩:=rowP_at hr hne;simp only[Value.slice.injEq] at hv;obtain ⟨rfl,rfl,rfl⟩:=hv;have hcells:=World.ownsRow.cells hr (show (Value.slice (some ⟨g2,0,none⟩) P.length cap).ownBlock=some g2 from rfl)
 have hsrc:=row_part (w:=w) (b:=g2) (P:=P) (fun j u h=>by
  have h1:=hcells j u h;have hadd:(⟨g2,0,none⟩:Addr).add j=⟨g2,j,none⟩:=by simp[Addr.add];omega
  rw[hadd] at h1
  exact h1) [] (P.take k) (P.drop k) (by simp)
 have hsay:SaysM w (P.take k) (L.take k):=saysM_part (A:=[]) (C:=P.drop k) (L:=[]) (N:=L.drop k) (by simpa using hs) rfl (by simp[hPl]);have hkl:(P.take k).length=k:=by simp;omega
 obtain ⟨v',w',hrun,hown,hgr⟩:=run_append_arg_grows (P:=Tryz.prog) (w:=w) 25 ty 60 i0 (.agg #[.string ⟨#[]⟩,.slice none 0 0]) 2 40 Tryz.underlying25 hi hz0 hz1 hz2 rfl (by decide) ⟨g,0,none⟩ 0 0 [] (by simp) (fun j u h=>absurd h (by simp)) ⟨g2,0,none⟩ k cap (cellsP (P.take k)) (by rw[cellsP_length,hkl]) (fun j u h=>by have:=hsrc j u h;simpa using this) (by omega) (by unfold maxLen;omega) (by simp;omega);have hbl:Below w.heap.size w w':=⟨hgr.os,hgr.tape,hgr.output,hgr.size,fun k hk=>hgr.block k hk (by simp)⟩;refine ⟨v',w',hrun,ownM_mono ⟨P.take k,?_,saysM_below hsay hbl⟩ hBz,hbl⟩;unfold RowP;rw[hkl];rw[List.nil_append,Nat.zero_add] at hown;exact hown
inductive Fn where
 | is (v:Value)
 | emp
 | txt (A:List (List UInt8))
 | agg (X:ByteArray) (A:List (List UInt8))
 | box
def FN (B:Nat) (T:List Fn) (i:Nat) (v:Value) (w:World):Prop:=match T.getD i .emp with
 | .is x=>v=x
 | .emp=>∃ g,v=.slice (some ⟨g,0,none⟩) 0 0∧B≤g∧w.heap[g]?=some (.cells #[] 9 (0,0))
 | .txt A=>IsTo (StrB w) w A v
 | .agg X A=>∃ u,v=.agg #[.string X,u]∧IsTo (StrB w) w A u
 | .box=>∃ p,v=.pointer (some ⟨p,0,none⟩)∧B≤p∧w.heap[p]?=some (.cells #[.string ⟨#[]⟩,.slice none 0 0] 60 (0,0))
theorem isTo_strB_go {w w':World} {A:List (List UInt8)} {v:Value} (h:IsTo (StrB w) w A v) (hb:Below w.heap.size w w'):IsTo (StrB w') w' A v:=
 h.imp (fun b ⟨cs,fr,hc⟩=>⟨cs,fr,(hb.block _ (Array.getElem?_eq_some_iff.1 hc).1).trans hc⟩) (fun b o hs=>hb.cell (p:=⟨b,o,none⟩) hs.lt)
theorem FN.go {B:Nat} {T:List Fn} {i:Nat} {v:Value} {w w':World} (h:FN B T i v w) (hb:Below w.heap.size w w'):FN B T i v w':=by
 have hk:∀ {b:Nat} {o:Obj},w.heap[b]?=some o→w'.heap[b]?=some o:=fun e=>(hb.block _ (Array.getElem?_eq_some_iff.1 e).1).trans e
 unfold FN at h ⊢
 cases e:T.getD i .emp with
 | is x=>rw[e] at h;exact h
 | emp=>rw[e] at h;obtain ⟨g,h1,h2,h3⟩:=h;exact ⟨g,h1,h2,hk h3⟩
 | txt A=>rw[e] at h;exact isTo_strB_go h hb
 | agg X A=>rw[e] at h;obtain ⟨u,h1,h2⟩:=h;exact ⟨u,h1,isTo_strB_go h2 hb⟩
 | box=>rw[e] at h;obtain ⟨p,h1,h2,h3⟩:=h;exact ⟨p,h1,h2,hk h3⟩
theorem boxN_store0 {W:World} {b:Nat} {x y:ByteArray} {u:Value} (h:BoxN W b x u):BoxN (W.setCell ⟨b,0,none⟩ (.string y)) b y u:=by
 unfold BoxN at h ⊢;simp[World.setCell,Array.getElem?_modify,h]
theorem boxN_store1 {W:World} {b:Nat} {x:ByteArray} {u v:Value} (h:BoxN W b x u):BoxN (W.setCell ⟨b,1,none⟩ v) b x v:=by
 unfold BoxN at h ⊢;simp[World.setCell,Array.getElem?_modify,h]
theorem BoxN.free {W:World} {b:Nat} {x:ByteArray} {u:Value} (h:BoxN W b x u) (i:Nat):W.frozen? ⟨b,i,none⟩=false:=by
 unfold BoxN at h;simp[World.frozen?,h]
theorem strB_attr {W:World} {p b:Nat} {cs:Array Value} {fr:Nat×Nat} (hp:W.heap[p]?=some (.cells cs 60 fr)) (h:StrB W b):b≠p:=by
 rintro rfl;obtain ⟨cs',fr',hc⟩:=h;rw[hc] at hp;have:=Option.some.inj hp;simp at this
theorem set_blk {W:World} {p b i:Nat} {x:Value} (h:b≠p):(W.setCell ⟨p,i,none⟩ x).heap[b]?=W.heap[b]?:=by
 unfold World.setCell;simp[Array.getElem?_modify,Ne.symm h]
theorem isTo_attr {W:World} {p i:Nat} {cs:Array Value} {fr:Nat×Nat} {A:List (List UInt8)} {v x:Value} (hp:W.heap[p]?=some (.cells cs 60 fr)) (h:IsTo (StrB W) W A v):IsTo (StrB (W.setCell ⟨p,i,none⟩ x)) (W.setCell ⟨p,i,none⟩ x) A v:=
 h.imp (fun b hs=>by obtain ⟨cs',fr',hc⟩:=id hs;exact ⟨cs',fr',(set_blk (strB_attr hp hs)).trans hc⟩) (fun b o hs=>by simp only[World.cell?,set_blk (strB_attr hp hs)])
theorem ownM_entry {B:Nat} {W:World} {v x:Value} {L:List AT} {p i:Nat} {cs:Array Value} {fr:Nat×Nat} (h:OwnM B W v L) (hp:W.heap[p]?=some (.cells cs 27 fr)) (hB:p<B):OwnM B (W.setCell ⟨p,i,none⟩ x) v L:=by
 obtain ⟨P,hr,hs⟩:=h;refine ⟨P,⟨hr.1,hr.2.imp id fun ⟨g,cap,cur,e1,hb,hg,rest⟩=>⟨g,cap,cur,e1,hb,(set_blk (by omega)).trans hg,rest⟩⟩,saysM_to hs fun b hb=>set_blk ?_⟩;rintro rfl;obtain ⟨cs',fr',hc⟩:=hb;rw[hc] at hp;have:=Option.some.inj hp;simp at this
def BoxT (W:World) (p:Nat) (x:ByteArray) (u:Value):Prop:=W.heap[p]?=some (.cells #[.string x,u] 60 (0,0))
theorem BoxT.cells {W:World} {p:Nat} {x:ByteArray} {u:Value} (h:BoxT W p x u):W.cell? ⟨p,0,none⟩=some (.string x)∧W.cell? ⟨p,1,none⟩=some u∧W.frozen? ⟨p,0,none⟩=false∧W.frozen? ⟨p,1,none⟩=false:=by
 unfold BoxT at h;simp[World.cell?,World.frozen?,h]
theorem BoxT.set0 {W:World} {p:Nat} {x y:ByteArray} {u:Value} (h:BoxT W p x u):BoxT (W.setCell ⟨p,0,none⟩ (.string y)) p y u:=by
 unfold BoxT at h ⊢;simp[World.setCell,Array.getElem?_modify,h]
theorem BoxT.set1 {W:World} {p:Nat} {x:ByteArray} {u v:Value} (h:BoxT W p x u):BoxT (W.setCell ⟨p,1,none⟩ v) p x v:=by
 unfold BoxT at h ⊢;simp[World.setCell,Array.getElem?_modify,h]
structure NeAt (w:World) (TD d:ByteArray) (v l:Value) (A:List AT) (wr:World):Prop where
 e1:wr.cell? ⟨w.heap.size,1,none⟩=some v
 box:BoxE w.heap.size d wr
 out:BoxN wr (w.heap.size+2) TD l
 own:OwnM (w.heap.size+3) wr l A
 bel:Below w.heap.size w wr
 size:w.heap.size+3≤wr.heap.size
 res:BoxN wr (w.heap.size+1) ⟨#[]⟩ (.slice none 0 0)
theorem NeAt.go {w wr W:World} {TD d:ByteArray} {v l:Value} {A:List AT} (h:NeAt w TD d v l A wr) (hb:Below wr.heap.size wr W):NeAt w TD d v l A W where
 e1:=(hb.cell (p:=⟨w.heap.size,1,none⟩) (show w.heap.size<wr.heap.size by have:=h.size;omega)).trans h.e1
 box:=h.box.go hb (by have:=h.size;omega)
 out:=h.out.below hb (by have:=h.size;omega)
 own:=ownM_below h.own hb
 bel:=h.bel.trans (hb.mono (by have:=h.size;omega))
 size:=Nat.le_trans h.size hb.size
 res:=h.res.below hb (by have:=h.size;omega)
theorem NeAt.named {w W:World} {TD d:ByteArray} {v:Value} (h:NeAt w d d v (.slice none 0 0) [] W):NeAt w TD d v (.slice none 0 0) [] (W.setCell ⟨w.heap.size+2,0,none⟩ (.string TD)) where
 e1:=by rw[World.cell?_setCell_other _ _ _ _ (by simp <;> omega)];exact h.e1
 box:=by
  obtain ⟨x0,x1,x2,x3,x4⟩:=h.box;refine ⟨?_,?_,?_,?_,?_⟩
  ·rw[World.cell?_setCell_other _ _ _ _ (by simp <;> omega)];exact x0
  ·rw[World.cell?_setCell_other _ _ _ _ (by simp <;> omega)];exact x1
  ·rw[World.cell?_setCell_other _ _ _ _ (by simp <;> omega)];exact x2
  ·rw[World.frozen?_setCell];exact x3
  ·rw[World.frozen?_setCell];exact x4
 out:=boxN_store0 h.out
 own:=⟨[],World.ownsRow_nil _ _ _ _,rfl,fun j h=>absurd h (by simp)⟩
 bel:=h.bel.setCell (p:=⟨w.heap.size+2,0,none⟩) (show w.heap.size≤w.heap.size+2 by omega) _
 size:=by have:=h.size;simpa [World.setCell] using this
 res:=(set_blk (by omega)).trans h.res
def NeI (w:World) (TD d:ByteArray) (v:Value) (L:List AT) (wr:World) (j:Nat):Prop:=∃ l,NeAt w TD d v l ((normL (L.take j)).foldl insB []) wr
end Go.Proofs.YtgaaefcanfglhaaGreatDoor
namespace Go.Proofs.YtgaaefcanfglhaaGreatDoor
open Go.RowKit
set_option linter.unusedVariables false
set_option linter.unusedSimpArgs false
theorem run_append_noneA {B:Nat} {w:World} {v:Value} {L:List AT} (hown:OwnM B w v L) (c:Nat) (ty:TypeId) :
  (Builtin.append_ #[25,25] ty #[v,.slice none 0 c]).run Tryz.prog w=.ok v w:=by
 obtain ⟨i0,hi,hz0,hz1,hz2⟩:=info_parts infoA;obtain ⟨P,hr,hs⟩:=hown;rcases hr.2 with ⟨rfl,hz⟩ | ⟨g,cap,cur,rfl,_,hg,hnc,_⟩
 ·simp[Builtin.append_,run_underlying Tryz.underlying25,sizeOf,typeInfo,hi,Builtin.lenOf,Builtin.firstCells]
 ·exact run_append_room_src (P:=Tryz.prog) w 25 25 ty 60 i0 Tryz.underlying25 hi g 0 P.length cap (.slice none 0 c) 0 [] (Src.ofNil w Tryz.underlying25 c) hnc (fun j h=>absurd h (by simp)) (fun j h=>absurd h (by simp))
theorem run_copy_K {w:World} {B Bz g k n cap:Nat} {la:Option Addr} {P:List PT} {L:List AT} (hg:w.heap[g]?=some (.cells #[] 60 (0,0))) (hBg:Bz≤g) (hBz:Bz≤w.heap.size) (hr:RowP B w (.slice la n cap) P) (hs:SaysM w P L) (hk:k≤L.length) (hL:L.length≤1000) (ty:TypeId) :
  ∃ v' w',(Builtin.append_ #[25,25] ty #[.slice (some ⟨g,0,none⟩) 0 0,.slice la k cap]).run Tryz.prog w=.ok v' w'∧OwnM Bz w' v' (L.take k)∧Below w.heap.size w w':=by
 by_cases hk0:k=0
 ·subst hk0;obtain ⟨i0,hi,hz0,hz1,hz2⟩:=info_parts infoA;refine ⟨.slice (some ⟨g,0,none⟩) 0 0,w,?_,by rw[List.take_zero];exact ownM_empty hg hBg,Below.refl _ _⟩
  cases la with
  | none=>exact run_append_room_src (P:=Tryz.prog) w 25 25 ty 60 i0 Tryz.underlying25 hi g 0 0 0 (.slice none 0 cap) 0 [] (Src.ofNil w Tryz.underlying25 cap) (by simp) (fun j h=>absurd h (by simp)) (fun j h=>absurd h (by simp))
  | some ad=>exact run_append_room_src (P:=Tryz.prog) w 25 25 ty 60 i0 Tryz.underlying25 hi g 0 0 0 (.slice (some ad) 0 cap) 0 [] (by rw[hz1];exact Src.ofSlice w Tryz.underlying25 ad 0 cap [] (by simp) (fun j u h=>absurd h (by simp)) (by simp)) (by simp) (fun j h=>absurd h (by simp)) (fun j h=>absurd h (by simp))
 ·exact run_copy_A hg hBg hBz hr hs (by omega) hk hL ty
theorem rowP_shape {B n c:Nat} {w:World} {a:Option Addr} {P:List PT} (h:RowP B w (.slice a n c) P):n=P.length∧((a=none∧n=0∧c=0)∨((∃ g cs,a=some ⟨g,0,none⟩∧w.heap[g]?=some (.cells cs 60 (0,0)))∧n≤c)):=by
 obtain ⟨a2,c2,hv⟩:=rowP_slice h;simp only[Value.slice.injEq] at hv;refine ⟨hv.2.1,?_⟩;rcases h.2 with ⟨h',_⟩ | ⟨g',cap',cur,h',hb,hg,hnc,_⟩
 ·simp only[Value.slice.injEq] at h';exact .inl h'
 ·simp only[Value.slice.injEq] at h';exact .inr ⟨⟨g',cur,h'.1,hg⟩,by rw[h'.2.2,hv.2.1];exact hnc⟩
theorem run_rest_K {w:World} {B Bz k n cap:Nat} {la:Option Addr} {v:Value} {P:List PT} {L M:List AT} (hown:OwnM Bz w v M) (hBz:Bz≤w.heap.size) (hr:RowP B w (.slice la n cap) P) (hs:SaysM w P L) (hk:k≤n) (hL:M.length+(n - k)≤1000) (ty:TypeId) :
  ∃ v' w',(Builtin.append_ #[25,25] ty #[v,.slice (if cap=k then la else la.map (fun a=>a.add (k * 2))) (n - k) (cap - k)]).run Tryz.prog w=.ok v' w'∧OwnM Bz w' v' (M++L.drop k)∧Below Bz w w':=by
 have hPl:=hs.1;obtain ⟨hn,⟨rfl,h0,h1⟩ | ⟨⟨g,cs,rfl,hg⟩,hnc⟩⟩:=rowP_shape hr
 ·have hL0:L=[]:=List.eq_nil_of_length_eq_zero (by omega);subst hL0;subst h0;refine ⟨v,w,?_,by simpa using hown,Below.refl _ _⟩;rw[show 0 - k=0 from by omega,show (if cap=k then none else (none:Option Addr).map (fun a=>a.add (k * 2)))=none from by split <;> rfl];exact run_append_noneA hown _ ty
 ·have hcells:=World.ownsRow.cells hr (show (Value.slice (some ⟨g,0,none⟩) n cap).ownBlock=some g from rfl);have hcell:∀ j u,(cellsP P)[j]?=some u→w.cell? ⟨g,j,none⟩=some u:=fun j u h=>by
   have h1:=hcells j u h;have hadd:(⟨g,0,none⟩:Addr).add j=⟨g,j,none⟩:=by simp[Addr.add];omega
   rw[hadd] at h1;exact h1
  have htl:(P.take k).length=k:=by rw[List.length_take];omega
  have hsrc:=row_part (w:=w) (b:=g) (P:=P) hcell (P.take k) (P.drop k) [] (by simp);have hsay:SaysM w (P.drop k) (L.drop k):=saysM_part (A:=P.take k) (C:=[]) (L:=L.take k) (N:=[]) (by simpa using hs) (by simp[hPl]) (by simp[hPl]);have hdl:(L.drop k).length=n - k:=by rw[List.length_drop];omega
  obtain ⟨v',w',hrun,ho,hb,_⟩:=run_append_M hown hBz hsay (if cap=k then ⟨g,0,none⟩ else ⟨g,k * 2,none⟩) (cap - k) (fun j u h=>by
   by_cases hkc:cap=k
   ·have:P.drop k=[]:=List.drop_eq_nil_of_le (by omega);rw[this] at h;simp[cellsP] at h
   ·rw[if_neg hkc];have:=hsrc j u h;rw[htl] at this
    simpa using this) (by rw[hdl];omega) ty
  rw[hdl] at hrun;refine ⟨v',w',?_,ho,hb⟩;rw[show (if cap=k then some (⟨g,0,none⟩:Addr) else (some (⟨g,0,none⟩:Addr)).map (fun a=>a.add (k * 2)))=some (if cap=k then ⟨g,0,none⟩ else ⟨g,k * 2,none⟩) from by split <;> simp[Addr.add] <;> intro h <;> omega];exact hrun
theorem three_appends {w wz:World} {TD d NM:ByteArray} {v:Value} {la xa:Option Addr} {sn lc p xc k:Nat} {SL:List AT} {A:List (List UInt8)} (h:NeAt w TD d v (.slice la sn lc) SL wz) (hb:BoxT wz p NM (.slice xa A.length xc)) (hto:IsTo (StrB wz) wz A (.slice xa A.length xc)) (hk:k≤sn) (hSL:SL.length≤999) (ty:TypeId) :
  ∃ v15 w15 v16 w16 v17 w17,
   (Builtin.append_ #[25,25] ty #[.slice (some ⟨wz.heap.size,0,none⟩) 0 0,.slice la k lc]).run Tryz.prog (wz.alloc (.cells #[] 60))=.ok v15 w15 ∧
   (Builtin.append_ #[25,25] ty #[v15,.slice (some ⟨w15.heap.size,0,none⟩) 1 1]).run Tryz.prog (w15.alloc (.cells #[.string NM,.slice xa A.length xc] 60))=.ok v16 w16 ∧
   (Builtin.append_ #[25,25] ty #[v16,.slice (if lc=k then la else la.map (fun a=>a.add (k * 2))) (sn - k) (lc - k)]).run Tryz.prog w16=.ok v17 w17 ∧
   w15.cell? ⟨p,0,none⟩=some (.string NM)∧w15.cell? ⟨p,1,none⟩=some (.slice xa A.length xc)∧w16.cell? ⟨w.heap.size+2,1,none⟩=some (.slice la sn lc)∧w17.cell? ⟨w.heap.size+2,1,none⟩=some (.slice la sn lc)∧w17.frozen? ⟨w.heap.size+2,1,none⟩=false ∧
   NeAt w TD d v v17 (SL.take k++(NM.data.toList,A) :: SL.drop k) (w17.setCell ⟨w.heap.size+2,1,none⟩ v17):=by
 have hbA:Below wz.heap.size wz (wz.alloc (.cells #[] 60)):=(Below.refl _ _).alloc (Nat.le_refl _) _;obtain ⟨P,hr,hs⟩:=(h.go hbA).own;have hPl:=hs.1;obtain ⟨hn,_⟩:=rowP_shape hr;obtain ⟨v15,w15,r15,ho15,hb15⟩:=run_copy_K (g:=wz.heap.size) (Bz:=wz.heap.size) (heap_alloc_new wz _) (Nat.le_refl _) (by simp) hr hs (show k≤SL.length by omega) (by omega) ty;have hbz15:Below wz.heap.size wz w15:=bthen hbA hb15;have hb2:Below w15.heap.size w15 (w15.alloc (.cells #[.string NM,.slice xa A.length xc] 60)):=(Below.refl _ _).alloc (Nat.le_refl _) _;have hbz2:=bthen hbz15 hb2
 have hs2:SaysM (w15.alloc (.cells #[.string NM,.slice xa A.length xc] 60)) [(NM.data.toList,.slice xa A.length xc)] [(NM.data.toList,A)]:=⟨rfl,fun j hj hj'=>by
  have:j=0:=by simp at hj;omega
  subst this
  exact ⟨rfl,isTo_strB_go hto hbz2⟩⟩
 have htk:(SL.take k).length=k:=by rw[List.length_take];omega
 obtain ⟨v16,w16,r16,ho16,hb16,_⟩:=run_append_M (ownM_below ho15 hb2) hbz2.size hs2 ⟨w15.heap.size,0,none⟩ 1 (cells_one (heap_alloc_new w15 _)) (by rw[htk];simp;omega) ty;have hbz16:=hbz2.trans hb16;have h16:=h.go hbz16;obtain ⟨P2,hr2,hs2'⟩:=h16.own;obtain ⟨v17,w17,r17,ho17,hb17⟩:=run_rest_K ho16 hbz16.size hr2 hs2' hk (by simp only[List.length_append,htk,List.length_cons,List.length_nil];omega) ty;have hbz17:=hbz16.trans hb17;have h17:=h.go hbz17;have hpz:p<wz.heap.size:=(Array.getElem?_eq_some_iff.1 hb).1;have hb15b:BoxT w15 p NM (.slice xa A.length xc):=(hbz15.block p hpz).trans hb;have hsz:=h.size;refine ⟨v15,w15,v16,w16,v17,w17,r15,r16,r17,hb15b.cells.1,hb15b.cells.2.1,h16.out.cells.2,h17.out.cells.2,h17.out.free 1,?_⟩
 exact {
  e1:=by rw[World.cell?_setCell_other _ _ _ _ (by simp <;> omega)];exact h17.e1
  box:=by
   obtain ⟨x0,x1,x2,x3,x4⟩:=h17.box;refine ⟨?_,?_,?_,?_,?_⟩
   ·rw[World.cell?_setCell_other _ _ _ _ (by simp <;> omega)];exact x0
   ·rw[World.cell?_setCell_other _ _ _ _ (by simp <;> omega)];exact x1
   ·rw[World.cell?_setCell_other _ _ _ _ (by simp <;> omega)];exact x2
   ·rw[World.frozen?_setCell];exact x3
   ·rw[World.frozen?_setCell];exact x4
  out:=boxN_store1 h17.out
  own:=by
   have:=ownM_entry (i:=1) (x:=v17) (ownM_mono ho17 h.size) h17.out (show w.heap.size+2<w.heap.size+3 by omega);simpa using this
  bel:=h17.bel.setCell (p:=⟨w.heap.size+2,1,none⟩) (show w.heap.size≤w.heap.size+2 by omega) _
  size:=by have:=h17.size;simpa [World.setCell] using this
  res:=(set_blk (by omega)).trans h17.res }
end Go.Proofs.YtgaaefcanfglhaaGreatDoor
namespace Go.Proofs.YtgaaefcanfglhaaGreatDoor
open Go.RowKit
set_option linter.unusedVariables false
set_option linter.unusedSimpArgs false
def runS (t:List UInt8) (x:AT):Bool→List AT→List AT
 | d,[]=>if d then [] else [x]
 | d,a :: r=>if (low a.1 == low t)=true then runS t x d r else if (!d && gtB a.1 x.1)=true then x :: a :: runS t x true r else a :: runS t x d r
def OwnI (n0 B:Nat) (w:World) (v:Value) (L:List AT):Prop:=∃ P,RowP B w v P∧SaysV n0 w P L
theorem ownI_below {n0 B:Nat} {w w':World} {v:Value} {L:List AT} (h:OwnI n0 B w v L) (hb:Below w.heap.size w w') (hB:n0≤w.heap.size):OwnI n0 B w' v L:=by
 obtain ⟨P,h1,h2⟩:=h;exact ⟨P,rowP_below h1 hb,saysV_go h2 hb hB⟩
theorem ownI_set {n0 B:Nat} {w:World} {v:Value} {L:List AT} (h:OwnI n0 B w v L) (a:Addr) (x:Value) (ha:a.block<B) (hn:n0≤a.block):OwnI n0 B (w.setCell a x) v L:=by
 obtain ⟨P,hr,hs⟩:=h;have hblk:∀ k,k≠a.block→(w.setCell a x).heap[k]?=w.heap[k]?:=fun k hk=>by
  unfold World.setCell;simp[Array.getElem?_modify,Ne.symm hk]
 exact ⟨P,⟨hr.1,hr.2.imp id fun ⟨g,cap,cur,e1,hb,hg,rest⟩=>⟨g,cap,cur,e1,hb,(hblk g (by omega)).trans hg,rest⟩⟩,saysV_go hs ((Below.refl n0 w).setCell (p:=a) hn x) (Nat.le_refl _)⟩
structure OutI (n0 eb po:Nat) (d:ByteArray) (v l:Value) (A:List AT) (w wr:World):Prop where
 e1:wr.cell? ⟨eb,1,none⟩=some v
 o0:wr.cell? ⟨po,0,none⟩=some (.string d)
 o1:wr.cell? ⟨po,1,none⟩=some l
 z1:wr.frozen? ⟨po,1,none⟩=false
 own:OwnI n0 (po+1) wr l A
 bel:Below n0 w wr
 size:po+1≤wr.heap.size
 box:BoxE eb d wr
theorem OutI.go {n0 eb po:Nat} {d:ByteArray} {v l:Value} {A:List AT} {w wr W:World} (h:OutI n0 eb po d v l A w wr) (hb:Below wr.heap.size wr W) (he:eb+1<po) (hn:n0≤po):OutI n0 eb po d v l A w W where
 e1:=(hb.cell (p:=⟨eb,1,none⟩) (show eb<wr.heap.size by have:=h.size;omega)).trans h.e1
 o0:=(hb.cell (p:=⟨po,0,none⟩) (show po<wr.heap.size by have:=h.size;omega)).trans h.o0
 o1:=(hb.cell (p:=⟨po,1,none⟩) (show po<wr.heap.size by have:=h.size;omega)).trans h.o1
 z1:=(hb.frozen (p:=⟨po,1,none⟩) (show po<wr.heap.size by have:=h.size;omega)).trans h.z1
 own:=ownI_below h.own hb (by have:=h.size;omega)
 bel:=h.bel.trans (hb.mono (by have:=h.size;omega))
 size:=Nat.le_trans h.size hb.size
 box:=h.box.go hb (by have:=h.size;omega)
theorem OutI.put {n0 eb po : Nat} {d : ByteArray} {v l l2 : Value} {A A2 : List AT} {w wr W : World} (h : OutI n0 eb po d v l A w wr) (ho : OwnI n0 (po + 1) W l2 A2) (hb : Below (po + 1) wr W) (he : eb + 1 < po) (hn : n0 ≤ po) : OutI n0 eb po d v l2 A2 w (W.setCell ⟨po, 1, none⟩ l2) := by
  have hz := h.size
  have h0 : W.cell? ⟨po, 1, none⟩ = some l := (hb.cell (p := ⟨po, 1, none⟩) (show po < po + 1 by omega)).trans h.o1
  exact {
    e1 := by rw [World.cell?_setCell_other _ _ _ _ (by simp <;> omega)]; exact (hb.cell (p := ⟨eb, 1, none⟩) (show eb < po + 1 by omega)).trans h.e1
    o0 := by rw [World.cell?_setCell_other _ _ _ _ (by simp)]; exact (hb.cell (p := ⟨po, 0, none⟩) (show po < po + 1 by omega)).trans h.o0
    o1 := World.cell?_setCell_same _ _ _ h0
    z1 := by rw [World.frozen?_setCell]; exact (hb.frozen (p := ⟨po, 1, none⟩) (show po < po + 1 by omega)).trans h.z1
    own := ownI_set ho ⟨po, 1, none⟩ l2 (show po < po + 1 by omega) hn
    bel := (h.bel.trans (hb.mono (by omega))).setCell (p := ⟨po, 1, none⟩) hn l2
    size := by have := hb.size; have : (W.setCell ⟨po, 1, none⟩ l2).heap.size = W.heap.size := by simp [World.setCell]
               omega
    box := by
      obtain ⟨x0, x1, x2, x3, x4⟩ := h.box.go hb (by omega)
      refine ⟨?_, ?_, ?_, ?_, ?_⟩
      · rw [World.cell?_setCell_other _ _ _ _ (by simp <;> omega)]; exact x0
      · rw [World.cell?_setCell_other _ _ _ _ (by simp <;> omega)]; exact x1
      · rw [World.cell?_setCell_other _ _ _ _ (by simp <;> omega)]; exact x2
      · rw [World.frozen?_setCell]; exact x3
      · rw [World.frozen?_setCell]; exact x4 }
def SetI (n0 eb po:Nat) (d:ByteArray) (v:Value) (t:List UInt8) (x:AT) (L R:List AT) (w wr:World) (j:Nat) (q:Bool):Prop:=∃ A l,A++runS t x q (L.drop j)=R∧A.length≤2 * j∧OutI n0 eb po d v l A w wr
end Go.Proofs.YtgaaefcanfglhaaGreatDoor
namespace Go.Proofs.YtgaaefcanfglhaaGreatDoor
open Go.RowKit
set_option linter.unusedVariables false
theorem kinds_mem {n:List UInt8} {k:List UInt8×Nat} (h:findL n=some k):k∈kindsL:=List.mem_of_find?_eq_some h
theorem find_none_ne {n:List UInt8} (h:findL n=none):∀ k∈kindsL,n≠k.1:=by
 intro k hk e;have:=List.find?_eq_none.1 h k hk;simp[e] at this
theorem ne_str {L:ByteArray} {l:List UInt8} (h:L.data.toList≠l):(L.toList == l)=false:=by
 rw[beq_eq_false_iff_ne,ByteArray.toList_eq];exact h
set_option maxRecDepth 100000 in
set_option maxHeartbeats 4000000 in
theorem ruleRef_any (s:ByteArray) (hs:s.size≤281474976710656) (w:World):Calls Tryz.prog 82 #[.string s] w fun e w'=>e=.returned (.int .i64 (ruleD s.data.toList))∧Below w.heap.size w w':=by
 obtain ⟨L,hL⟩:∃ L,L=lowB s:=⟨_,rfl⟩;have hLl:L.data.toList=low s.data.toList:=by rw[hL,lowB_list]
 have hr:ruleD s.data.toList=ruleL L.data.toList:=by unfold ruleD;rw[hLl]
 rw[hr];have hlo:=fun w=>lowerRef_any s w hs
 rw[← hL] at hlo;clear hL hLl hr;have HLo:=Lib.hid hlo;clear hlo
 cases hf:findL L.data.toList with
 | some k=>
  have hm:=kinds_mem hf;have he:=(findL_len hf).1;have hru:ruleL L.data.toList=k.2:=by unfold ruleL;rw[hf]
  rw[hru];clear hru hf;have hLk:L=⟨k.1.toArray⟩:=bytes_ext (by rw[← he]);clear he;subst hLk;simp only[kindsL,List.mem_cons,List.not_mem_nil,or_false] at hm;rcases hm with rfl | rfl | rfl | rfl | rfl | rfl | rfl | rfl | rfl | rfl | rfl
  all_goals
   go_enter Tryz.func82,Tryz.ntmps82
   go_wp2_with (go_at_call 62;refine (HLo.out _).mono ?_;rintro e w1 ⟨rfl,hb1⟩;have HB:=Lib.hid hb1;clear hb1)
   go_ret;exact ⟨rfl,HB.out⟩
 | none=>
  have hru:ruleL L.data.toList=0:=by unfold ruleL;rw[hf]
  rw[hru];have hne:=find_none_ne hf;clear hru hf;have q0:=ne_str (hne ([111,98,106,101,99,116,99,108,97,115,115],1) (by simp[kindsL]));have q1:=ne_str (hne ([99,110],1) (by simp[kindsL]));have q2:=ne_str (hne ([115,110],1) (by simp[kindsL]));have q3:=ne_str (hne ([111],1) (by simp[kindsL]));have q4:=ne_str (hne ([111,117],1) (by simp[kindsL]));have q5:=ne_str (hne ([117,105,100],1) (by simp[kindsL]));have q6:=ne_str (hne ([109,97,105,108],1) (by simp[kindsL]));have q7:=ne_str (hne ([100,101,115,99,114,105,112,116,105,111,110],1) (by simp[kindsL]));have q8:=ne_str (hne ([117,105,100,110,117,109,98,101,114],2) (by simp[kindsL]));have q9:=ne_str (hne ([109,101,109,98,101,114],3) (by simp[kindsL]));have q10:=ne_str (hne ([117,115,101,114,112,97,115,115,119,111,114,100],4) (by simp[kindsL]));clear hne;go_enter Tryz.func82,Tryz.ntmps82
  go_wp2_with (go_at_call 62;refine (HLo.out _).mono ?_;rintro e w1 ⟨rfl,hb1⟩;have HB:=Lib.hid hb1;clear hb1)
  go_ret;exact ⟨rfl,HB.out⟩
def BoxS (w:World) (b:Nat) (x:ByteArray) (ok:Bool):Prop:=w.heap[b]?=some (.cells #[.string x,.bool ok] 85 (0,0))
theorem BoxS.below {w w':World} {b n:Nat} {x:ByteArray} {ok:Bool} (h:BoxS w b x ok) (hb:Below n w w') (hn:b<n):BoxS w' b x ok:=(hb.block b hn).trans h
theorem BoxS.cells {w:World} {b:Nat} {x:ByteArray} {ok:Bool} (h:BoxS w b x ok):w.cell? ⟨b,0,none⟩=some (.string x)∧w.cell? ⟨b,1,none⟩=some (.bool ok)∧w.frozen? ⟨b,0,none⟩=false∧w.frozen? ⟨b,1,none⟩=false:=by
 unfold BoxS at h;simp[World.cell?,World.frozen?,h]
theorem boxS_new (w:World) (x:ByteArray) (ok:Bool):BoxS (w.alloc (.cells #[.string x,.bool ok] 85)) w.heap.size x ok:=heap_alloc_new w _
theorem BoxS.store {w:World} {b:Nat} {x:ByteArray} {ok:Bool} (h:BoxS w b x ok) (x':ByteArray) (ok':Bool):BoxS ((w.setCell ⟨b,0,none⟩ (.string x')).setCell ⟨b,1,none⟩ (.bool ok')) b x' ok':=by
 unfold BoxS at h ⊢;simp[World.setCell,Array.getElem?_modify,h]
def saidR (o:Option (List UInt8)):Value:=match o with
 | some k=>.agg #[.string ⟨k.toArray⟩,.bool true]
 | none=>.agg #[.string ⟨#[]⟩,.bool false]
set_option maxRecDepth 100000 in
set_option maxHeartbeats 4000000 in
theorem canonRef_any (s:ByteArray) (hs:s.size≤281474976710656) (w:World):Calls Tryz.prog 53 #[.string s] w fun e w'=>e=.returned (saidR (canonD s.data.toList))∧Below w.heap.size w w':=by
 obtain ⟨L,hL⟩:∃ L,L=lowB s:=⟨_,rfl⟩;have hLl:L.data.toList=low s.data.toList:=by rw[hL,lowB_list]
 have hLs:L.size≤281474976710656:=by rw[hL,lowB_size];exact hs
 have hru:=fun w=>ruleRef_any L hLs w
 have hlo:=fun w=>lowerRef_any s w hs
 rw[← hL] at hlo;have hr:ruleD L.data.toList=ruleD s.data.toList:=by rw[hLl,ruleD_low]
 simp only[hr] at hru;have HR:=Lib.hid hru;have HLo:=Lib.hid hlo;clear hlo hru hr;have HBox:=Lib.hid (boxS_new w ⟨#[]⟩ false)
 cases hc:canonD s.data.toList with
 | none=>
  have h0:=(canon_rule _).1 hc;rw[h0] at HR;clear h0 hc hL hLl;go_enter Tryz.func53,Tryz.ntmps53
  go_wp2_with (first | (go_at_call 62;refine (HLo.out _).mono ?_;rintro e w1 ⟨rfl,hb1⟩;have HB:=Lib.hid (((Below.refl _ _).alloc (Nat.le_refl _) _).trans (hb1.mono (by simp)));have HX:=Lib.hid (HBox.out.below hb1 (by simp));have hz1:w.heap.size<w1.heap.size:=(by have:=hb1.size;simp at this;omega);clear hb1) | (go_at_call 82;refine (HR.out _).mono ?_;rintro e w2 ⟨rfl,hb2⟩;have HB:=Lib.hid (bthen HB.out hb2);have HX:=Lib.hid (HX.out.below hb2 hz1);obtain ⟨k0,k1,l0,l1⟩:=HX.out.cells;clear hb2))
  obtain ⟨q0,q1,_,_⟩:=(HX.out.store ⟨#[]⟩ false).cells;refine bodyPost_ret (v:=.agg #[.string ⟨#[]⟩,.bool false]) (by simp[results,Tryz.results53,go_sem,q0,q1]) rfl ⟨rfl,?_⟩;exact (HB.out.setCell (Nat.le_refl _) _).setCell (Nat.le_refl _) _
 | some k=>
  obtain ⟨e1,e2,_⟩:=canon_eq hc;have hr1:((ruleD s.data.toList:Nat):Int)≠0:=by omega
  have t0:(((ruleD s.data.toList:Nat):Int) == 0)=false:=by simpa using hr1
  have hv:saidR (some k)=.agg #[.string L,.bool true]:=by rw[e1,← hLl];simp[saidR]
  have HV:=Lib.hid hv;generalize ruleD s.data.toList=r at *;clear hc e1 e2 hr1 hv hL hLl;go_enter Tryz.func53,Tryz.ntmps53
  go_wp2_with (first | (go_at_call 62;refine (HLo.out _).mono ?_;rintro e w1 ⟨rfl,hb1⟩;have HB:=Lib.hid (((Below.refl _ _).alloc (Nat.le_refl _) _).trans (hb1.mono (by simp)));have HX:=Lib.hid (HBox.out.below hb1 (by simp));have hz1:w.heap.size<w1.heap.size:=(by have:=hb1.size;simp at this;omega);clear hb1) | (go_at_call 82;refine (HR.out _).mono ?_;rintro e w2 ⟨rfl,hb2⟩;have HB:=Lib.hid (bthen HB.out hb2);have HX:=Lib.hid (HX.out.below hb2 hz1);obtain ⟨k0,k1,l0,l1⟩:=HX.out.cells;clear hb2))
  obtain ⟨q0,q1,_,_⟩:=(HX.out.store L true).cells;refine bodyPost_ret (v:=.agg #[.string L,.bool true]) (by simp[results,Tryz.results53,go_sem,q0,q1]) rfl ⟨by rw[HV.out],?_⟩;exact (HB.out.setCell (Nat.le_refl _) _).setCell (Nat.le_refl _) _
end Go.Proofs.YtgaaefcanfglhaaGreatDoor
namespace Go.Proofs.YtgaaefcanfglhaaGreatDoor
open Go.RowKit
set_option linter.unusedVariables false
set_option linter.unusedSimpArgs false
theorem canon_forms (t:List UInt8):(∃ S:ByteArray,canonD t=some S.data.toList∧saidR (canonD t)=.agg #[.string S,.bool true]∧nameA t=S.data.toList)∨(canonD t=none∧saidR (canonD t)=.agg #[.string ⟨#[]⟩,.bool false]∧nameA t=t):=by
 cases h:canonD t with
 | none=>exact .inr ⟨rfl,by rfl,by unfold nameA;rw[h];rfl⟩
 | some s=>exact .inl ⟨⟨s.toArray⟩,rfl,by rfl,by unfold nameA;rw[h];rfl⟩
end Go.Proofs.YtgaaefcanfglhaaGreatDoor
namespace Go.Proofs.YtgaaefcanfglhaaGreatDoor
set_option linter.unusedVariables false
set_option linter.unusedSimpArgs false
section
variable {P:Program} {ops:Array Oper} {Q:Exit→Act→World→Prop} {S:World→Prop}
def Det (P:Program) (ops:Array Oper) (S:World→Prop) (o:Oper) (v:Value) (a:Act):Prop:=
 (Region.wanted o (yielded ops a.tmps)=true∧∀ w,S w→(execOp a.eval o).run P w=.ok (.value v) w ∨
  ∃ f args,(execOp a.eval o).run P w=.ok (.enter f args) w∧Calls P f args w fun e w'=>e=.returned v∧S w') ∨
 (Region.wanted o (yielded ops a.tmps)=false∧v=undef)
theorem Det.wpOp {i:Nat} {o:Oper} {v:Value} {a:Act} {w:World} {K:Act→World→Prop} (hi:ops[i]?=some o) (hd:Det P ops S o v a) (hS:S w) (hk:∀ w',S w'→K (a.put o.dst v) w'):wpOp P ops Q i K a w:=by
 unfold Go.wpOp;simp only[hi];rcases hd with ⟨hw,hv⟩ | ⟨hw,rfl⟩
 ·simp only[hw,if_true];refine .inl ?_;unfold Oper.wp;rcases hv w hS with h | ⟨f,args,h,hc⟩
  ·rw[h];exact hk w hS
  ·rw[h];exact Calls.mono hc fun e w' he=>by
    obtain ⟨rfl,h⟩:=he;exact hk w' h
 ·simp only[hw,Bool.false_eq_true,if_false];exact hk w hS
def hasOn (o:Oper) (i:Nat):Bool:=o.after.any fun e=>Region.binds .any e && decide (e.on=i)
def detOk (ops:Array Oper) (n:Nat):Bool:=(List.range ops.size).all fun i=>match ops[i]? with
 | none=>true
 | some o=>(o.after.all fun e=>decide (e.on<i)) && (match o.op with | .select _ _=>false | _=>true) && (match o.dst with
   | none=>true
   | some d=>decide (d<n) && (List.range ops.size).all fun j=>match ops[j]? with
    | none=>true
    | some o'=>decide (i=j) || (decide (o'.dst≠some d) && (!(o'.looksAt ops).contains d || (if i<j then hasOn o' i else hasOn o j))))
structure DetOk (ops:Array Oper) (n:Nat):Prop where
 back:∀ (i:Nat) (o:Oper),ops[i]?=some o→∀ e∈o.after,e.on<i
 sel:∀ (i:Nat) (o:Oper),ops[i]?=some o→∀ cs b,o.op≠.select cs b
 inn:∀ (i:Nat) (o:Oper) (d:Tmp),ops[i]?=some o→o.dst=some d→d<n
 one:∀ (i j:Nat) (o o':Oper) (d:Tmp),ops[i]?=some o→ops[j]?=some o'→o.dst=some d→o'.dst=some d→i=j
 looks:∀ (i j:Nat) (o o':Oper) (d:Tmp),ops[i]?=some o→ops[j]?=some o'→o.dst=some d→d∈o'.looksAt ops→i≠j→(if i<j then hasOn o' i else hasOn o j)=true
theorem detOk_at {n:Nat} (h:detOk ops n=true):DetOk ops n:=by
 have key:∀ (i:Nat) (o:Oper),ops[i]?=some o→(o.after.all fun e=>decide (e.on<i))=true∧(match o.op with | .select _ _=>false | _=>true)=true∧∀ d,o.dst=some d→d<n∧∀ (j:Nat) (o':Oper),ops[j]?=some o'→i≠j→o'.dst≠some d∧(d∈o'.looksAt ops→(if i<j then hasOn o' i else hasOn o j)=true):=by
  intro i o ho;have hi:i<ops.size:=(Array.getElem?_eq_some_iff.1 ho).1;have h1:=List.all_eq_true.1 h i (List.mem_range.2 hi);rw[ho] at h1;simp only[Bool.and_eq_true] at h1;obtain ⟨⟨ha,hs⟩,hb⟩:=h1;refine ⟨ha,hs,fun d hd=>?_⟩;rw[hd] at hb;simp only[Bool.and_eq_true,decide_eq_true_eq] at hb;refine ⟨hb.1,fun j o' ho' hne=>?_⟩;have h2:=List.all_eq_true.1 hb.2 j (List.mem_range.2 (Array.getElem?_eq_some_iff.1 ho').1);rw[ho'] at h2;simp only[Bool.or_eq_true,Bool.and_eq_true,decide_eq_true_eq,Bool.not_eq_true'] at h2;rcases h2 with h2 | ⟨h2,h3⟩
  ·exact absurd h2 hne
  ·refine ⟨h2,fun hm=>?_⟩;rcases h3 with h3 | h3
   ·have:(o'.looksAt ops).contains d=true:=by simpa using hm
    rw[this] at h3
    cases h3
   ·exact h3
 refine ⟨fun i o ho e he=>?_,fun i o ho cs b hc=>?_,fun i o d ho hd=>((key i o ho).2.2 d hd).1,fun i j o o' d ho ho' hd hd'=>?_,fun i j o o' d ho ho' hd hm hne=>(((key i o ho).2.2 d hd).2 j o' ho' hne).2 hm⟩
 ·have:=Array.all_eq_true_iff_forall_mem.1 (key i o ho).1 e he;simpa using this
 ·have:=(key i o ho).2.1;rw[hc] at this
  cases this
 ·rcases Nat.decEq i j with hne | heq
  ·exact absurd hd' (((key i o ho).2.2 d hd).2 j o' ho' hne).1
  ·exact heq
structure FrameAt (ops:Array Oper) (vs:List Value) (a0:Act) (L:Nat→Prop) (a:Act):Prop where
 defers:a.defers=a0.defers
 slots:a.tmps.size=a0.tmps.size
 come:∀ (i:Nat) (o:Oper) (d:Tmp),ops[i]?=some o→o.dst=some d→L i→a.tmps[d]?=vs[i]?
 rest:∀ t,(∀ (i:Nat) (o:Oper),ops[i]?=some o→o.dst=some t→¬ L i)→a.tmps[t]?=a0.tmps[t]?
theorem FrameAt.put {vs:List Value} {a0 a:Act} {L:Nat→Prop} {n:Nat} (hn:n=a0.tmps.size) (hok:DetOk ops n) (h:FrameAt ops vs a0 L a) {i:Nat} {o:Oper} {v:Value} (ho:ops[i]?=some o) (hv:vs[i]?=some v) :
  FrameAt ops vs a0 (fun j=>L j∨j=i) (a.put o.dst v):=by
 subst hn
 cases hd:o.dst with
 | none=>
  refine ⟨h.defers,h.slots,fun j o' d ho' hd' hl=>?_,fun t ht=>h.rest t fun j o' ho' hd' hl=>ht j o' ho' hd' (.inl hl)⟩;rcases hl with hl | rfl
  ·exact h.come j o' d ho' hd' hl
  ·rw[ho] at ho';cases ho';rw[hd] at hd';cases hd'
 | some d=>
  have hdl:=hok.inn i o d ho hd;refine ⟨h.defers,by simp[Act.put,h.slots],fun j o' d' ho' hd' hl=>?_,fun t ht=>?_⟩
  ·by_cases hji:j=i
   ·subst hji;rw[ho] at ho';cases ho';rw[hd] at hd';cases hd';have:d<a.tmps.size:=by rw[h.slots];exact hdl
    simp[Act.put,this,hv]
   ·have hl':L j:=hl.resolve_right hji;have hne:d≠d':=fun e=>hji (hok.one j i o' o d' ho' ho hd' (by rw[hd,e]))
    simp only[Act.put];rw[Array.getElem?_setIfInBounds_ne hne];exact h.come j o' d' ho' hd' hl'
  ·have hne:d≠t:=fun e=>ht i o ho (by rw[hd,e]) (.inr rfl)
   simp only[Act.put];rw[Array.getElem?_setIfInBounds_ne hne];exact h.rest t fun j o' ho' hd' hl=>ht j o' ho' hd' (.inl hl)
theorem FrameAt.same {vs:List Value} {a0 a a':Act} {L L':Nat→Prop} {n:Nat} (hok:DetOk ops n) (h:FrameAt ops vs a0 L a) (h':FrameAt ops vs a0 L' a') {t:Tmp}
  (ht:∀ (i:Nat) (o:Oper),ops[i]?=some o→o.dst=some t→(L i↔L' i)):a.tmps[t]?=a'.tmps[t]?:=by
 by_cases hx:∃ (i:Nat) (o:Oper),ops[i]?=some o∧o.dst=some t∧L i
 ·obtain ⟨i,o,ho,hd,hl⟩:=hx;rw[h.come i o t ho hd hl,h'.come i o t ho hd ((ht i o ho hd).1 hl)]
 ·rw[h.rest t fun i o ho hd hl=>hx ⟨i,o,ho,hd,hl⟩,h'.rest t fun i o ho hd hl=>hx ⟨i,o,ho,hd,(ht i o ho hd).2 hl⟩]
theorem FrameAt.imp {vs:List Value} {a0 a:Act} {L L':Nat→Prop} (h:FrameAt ops vs a0 L a) (hl:∀ i,i<ops.size→(L i↔L' i)):FrameAt ops vs a0 L' a:=
 have lt:∀ {i:Nat} {o:Oper},ops[i]?=some o→i<ops.size:=fun ho=>(Array.getElem?_eq_some_iff.1 ho).1
 ⟨h.defers,h.slots,fun i o d ho hd hL=>h.come i o d ho hd ((hl i (lt ho)).2 hL),fun t ht=>h.rest t fun i o ho hd hL=>ht i o ho hd ((hl i (lt ho)).1 hL)⟩
theorem Det.same {vs:List Value} {a0 a a':Act} {L L':Nat→Prop} {n:Nat} (hok:DetOk ops n) (h:FrameAt ops vs a0 L a) (h':FrameAt ops vs a0 L' a') {i:Nat} {o:Oper} {v:Value} (ho:ops[i]?=some o)
  (ht:∀ (j:Nat) (o':Oper) (d:Tmp),ops[j]?=some o'→o'.dst=some d→d∈o.looksAt ops→(L j↔L' j)) (hd:Det P ops S o v a):Det P ops S o v a':=by
 have hs:∀ d,d∈o.looksAt ops→a.tmps[d]?=a'.tmps[d]?:=fun d hm=>h.same hok h' fun j o' ho' hd'=>ht j o' d ho' hd' hm
 have he:execOp a'.eval o=execOp a.eval o:=execOp_congr o (hok.sel i o ho) fun x hx=>by
  cases x with
  | tmp t=>
   have:t∈o.looksAt ops:=List.mem_append_left _ (List.mem_filterMap.2 ⟨.tmp t,by simpa using hx,rfl⟩);have hh:=hs t this;simp[Act.eval,hh]
  | _=>rfl
 have hw:Region.wanted o (yielded ops a'.tmps)=Region.wanted o (yielded ops a.tmps):=by
  unfold Region.wanted
  cases hg:o.guard with
  | none=>rfl
  | some gw=>
   obtain ⟨g,want⟩:=gw;have hy:yielded ops a'.tmps g=yielded ops a.tmps g:=by
    unfold yielded
    cases hb:(ops[g]?).bind (·.dst) with
    | none=>rfl
    | some t=>
     have:t∈o.looksAt ops:=List.mem_append_right _ (by simp[hg,hb]);have hh:=hs t this;simp[hh]
   simp only[hy]
 unfold Det at *;rw[he,hw];exact hd
def DetSeq (P:Program) (ops:Array Oper) (S:World→Prop):List Oper→Act→(Act→Prop)→Prop
 | [],a,K=>K a
 | o :: rest,a,K=>∃ v,Det P ops S o v a∧DetSeq P ops S rest (a.put o.dst v) K
theorem detSeq_get {K:Act→Prop}:∀ (l:List Oper) (k:Nat) (vs:List Value) (a0 a:Act) (n:Nat),n=a0.tmps.size→DetOk ops n→ops.toList.drop k=l→k≤ops.size→vs.length=k →
  (∀ i,i<k→∀ o,ops[i]?=some o→∃ b v,vs[i]?=some v∧FrameAt ops vs a0 (fun j=>j<i) b∧Det P ops S o v b)→FrameAt ops vs a0 (fun j=>j<k) a→DetSeq P ops S l a K →
  ∃ us:List Value,us.length=ops.size∧(∀ i,i<ops.size→∀ o,ops[i]?=some o→∃ b v,us[i]?=some v∧FrameAt ops us a0 (fun j=>j<i) b∧Det P ops S o v b)∧∃ b,FrameAt ops us a0 (fun _=>True) b∧K b
 | [],k,vs,a0,a,n,hn,hok,hl,hk,hv,hD,hF,hseq=>by
  have hke:k=ops.size:=by
   have:=congrArg List.length hl;simp at this;omega
  subst hke;exact ⟨vs,hv,hD,a,hF.imp fun i hi=>⟨fun _=>trivial,fun _=>hi⟩,hseq⟩
 | o :: l,k,vs,a0,a,n,hn,hok,hl,hk,hv,hD,hF,⟨v,hd,hrest⟩=>by
  have hlt:k<ops.size:=by
   have:=congrArg List.length hl;simp at this;omega
  have ho:ops[k]?=some o:=by
   have h1:(ops.toList.drop k)[0]?=some o:=by rw[hl];rfl
   rw[List.getElem?_drop] at h1;simpa using h1
  have old:∀ i,i<k→(vs++[v])[i]?=vs[i]?:=fun i hi=>List.getElem?_append_left (by omega)
  have mv:∀ (i:Nat) (b:Act),i≤k→FrameAt ops vs a0 (fun j=>j<i) b→FrameAt ops (vs++[v]) a0 (fun j=>j<i) b:=fun i b hi hb=>
   ⟨hb.defers,hb.slots,fun j o' d ho' hd' hl'=>by
    have hl':j<i:=hl'
    rw[hb.come j o' d ho' hd' hl',old j (by omega)],hb.rest⟩
  refine detSeq_get l (k+1) (vs++[v]) a0 (a.put o.dst v) n hn hok ?_ (by omega) (by simp[hv]) (fun i hi o' ho'=>?_) ?_ hrest
  ·have:(ops.toList.drop k).drop 1=l:=by rw[hl];rfl
   rw[List.drop_drop] at this;exact this
  ·by_cases hik:i=k
   ·subst hik;rw[ho] at ho';cases ho';exact ⟨a,v,by simp[← hv],mv i a (by omega) hF,hd⟩
   ·obtain ⟨b,u,h1,h2,h3⟩:=hD i (by omega) o' ho';exact ⟨b,u,by rw[old i (by omega)];exact h1,mv i b (by omega) h2,h3⟩
  ·exact ((mv k a (by omega) hF).put hn hok ho (by simp[← hv])).imp fun j _=>⟨fun h=>by omega,fun h=>by omega⟩
theorem region_det {id:Nat} {a0:Act} {w0:World} (hm:P.follows .mixedOrders=true) (S:World→Prop) (hS:S w0.drew) (hok:detOk ops a0.tmps.size=true)
  (h:DetSeq P ops S ops.toList a0 fun a=>∀ w,S w→Q .normal a w):(Code.region id ops true).wp P Q a0 w0:=by
 have hk:=detOk_at hok;obtain ⟨us,hul,hD,b,hb,hQ⟩:=detSeq_get ops.toList 0 [] a0 a0 a0.tmps.size rfl hk (by simp) (by omega) rfl (fun i hi=>absurd hi (by omega)) ⟨rfl,rfl,fun i o d _ _ hl=>absurd hl (Nat.not_lt_zero i),fun _ _=>rfl⟩ h;have hno:∀ i,(Array.replicate ops.size false).getD i false=false:=fun i=>by
  rcases Nat.lt_or_ge i ops.size with h | h <;> simp[h]
 refine region_inv hm (fun listed a w=>listed.size=ops.size∧S w∧(∀ (i:Nat) (o:Oper),ops[i]?=some o→listed.getD i false=true→∀ e∈o.after,Region.binds .any e=true→listed.getD e.on false=true)∧FrameAt ops us a0 (fun j=>listed.getD j false=true) a) ?_ hk.back (fun listed a w hI=>hI.1) ?_ ?_
 ·refine ⟨by simp,hS,fun i o _ hl=>(by rw[hno] at hl;cases hl),rfl,rfl,fun i o d _ _ hl=>(by rw[hno] at hl;cases hl),fun _ _=>rfl⟩
 ·rintro listed a w ⟨hs,hSw,hshut,hF⟩ i o ho hi hc;have hio:i<ops.size:=(Array.getElem?_eq_some_iff.1 ho).1;have hil:i<listed.size:=by omega
  have hnl:¬ listed.getD i false=true:=by
   have:listed[i]=false:=by simpa [hil] using hi
   simp[hil,this]
  obtain ⟨c,v,hv,hFc,hd⟩:=hD i hio o ho;have hd':Det P ops S o v a:=hd.same hk hFc hF ho fun j o' d ho' hd' hm=>by
   by_cases hji:j=i
   ·subst hji;exact ⟨fun h=>absurd h (Nat.lt_irrefl _),fun h=>absurd h hnl⟩
   ·have hlk:=hk.looks j i o' o d ho' ho hd' hm hji
    by_cases hlt:j<i
    ·rw[if_pos hlt] at hlk;obtain ⟨e,he,hbe⟩:=Array.any_eq_true'.1 hlk;simp only[Bool.and_eq_true,decide_eq_true_eq] at hbe;have:=hc e he hbe.1;rw[hbe.2] at this;exact ⟨fun _=>this,fun _=>hlt⟩
    ·rw[if_neg hlt] at hlk;obtain ⟨e,he,hbe⟩:=Array.any_eq_true'.1 hlk;simp only[Bool.and_eq_true,decide_eq_true_eq] at hbe;refine ⟨fun h=>absurd h hlt,fun h=>?_⟩;have:=hshut j o' ho' h e he hbe.1;rw[hbe.2] at this;exact absurd this hnl
  refine hd'.wpOp ho hSw fun w' hSw'=>⟨by simp[hs],hSw',fun j o' ho' hl e he hb=>?_,?_⟩
  ·by_cases hij:i=j
   ·subst hij;rw[ho] at ho';cases ho';exact getD_set_true (hc e he hb)
   ·rw[getD_set_ne false hij] at hl;exact getD_set_true (hshut j o' ho' hl e he hb)
  ·refine (hF.put rfl hk ho hv).imp fun j hj=>?_
   by_cases hij:i=j
   ·subst hij;exact ⟨fun _=>by simp[hil],fun _=>.inr rfl⟩
   ·rw[getD_set_ne false hij];exact ⟨fun h=>h.resolve_right fun e=>hij e.symm,.inl⟩
 ·rintro listed a w ⟨hs,hSw,_,hF⟩ ha;have hF':=hF.imp (L':=fun _=>True) fun i hi=>⟨fun _=>trivial,fun _=>ha i hi⟩
  have:a=b:=by
   obtain ⟨t1,d1⟩:=a;obtain ⟨t2,d2⟩:=b;have h1:t1=t2:=Array.ext_getElem? fun t=>hF'.same hk hb fun _ _ _ _=>Iff.rfl
   have h2:d1=d2:=hF'.defers.trans hb.defers.symm;rw[h1,h2]
  rw[this];exact hQ w hSw
theorem det_val {o:Oper} {v:Value} {rest:List Oper} {a:Act} {K:Act→Prop} (hw:Region.wanted o (yielded ops a.tmps)=true) (hv:∀ w,S w→(execOp a.eval o).run P w=.ok (.value v) w)
  (h:DetSeq P ops S rest (a.put o.dst v) K):DetSeq P ops S (o :: rest) a K:=⟨v,.inl ⟨hw,fun w hS=>.inl (hv w hS)⟩,h⟩
theorem det_shut {o:Oper} {rest:List Oper} {a:Act} {K:Act→Prop} (hw:Region.wanted o (yielded ops a.tmps)=false)
  (h:DetSeq P ops S rest (a.put o.dst undef) K):DetSeq P ops S (o :: rest) a K:=⟨undef,.inr ⟨hw,rfl⟩,h⟩
theorem det_call {o:Oper} {v:Value} {f:FuncId} {args:Array Value} {rest:List Oper} {a:Act} {K:Act→Prop} (hw:Region.wanted o (yielded ops a.tmps)=true) (hv:∀ w,S w→(execOp a.eval o).run P w=.ok (.enter f args) w)
  (hc:∀ w,S w→Calls P f args w fun e w'=>e=.returned v∧S w')
  (h:DetSeq P ops S rest (a.put o.dst v) K):DetSeq P ops S (o :: rest) a K:=⟨v,.inl ⟨hw,fun w hS=>.inr ⟨f,args,hv w hS,hc w hS⟩⟩,h⟩
end
end Go.Proofs.YtgaaefcanfglhaaGreatDoor
