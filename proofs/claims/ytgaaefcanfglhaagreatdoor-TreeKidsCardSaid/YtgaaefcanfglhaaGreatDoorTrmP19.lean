/- Several texts in one file: MkS, EnHasP, TrAwk, TrPutsL. -/
import Derived.Test.YtgaaefcanfglhaaGreatDoorTrmP8
import Derived.Test.YtgaaefcanfglhaaGreatDoorTrmP5
import Derived.Test.YtgaaefcanfglhaaGreatDoorTrmP15
import Derived.Test.YtgaaefcanfglhaaGreatDoorTrmP12
import Derived.Test.YtgaaefcanfglhaaGreatDoorTrmP3
import Derived.Test.YtgaaefcanfglhaaGreatDoorTrmP18
import Derived.Test.YtgaaefcanfglhaaGreatDoorTrmP7
import Derived.Test.YtgaaefcanfglhaaGreatDoorTrmP13
namespace Go.Proofs.YtgaaefcanfglhaaGreatDoor
open Go.RowKit
set_option linter.unusedVariables false
def nonA (L:List AT):Prop:=∀ a∈L,a.2≠[]
theorem nonA.app {L M:List AT} (h:nonA L) (hm:nonA M):nonA (L++M):=fun a ha=>(List.mem_append.1 ha).elim (h a) (hm a)
set_option linter.unusedSimpArgs false
def okB (t:List UInt8) (A:List (List UInt8)):Bool:=
 !A.isEmpty && A.all fun v=>A.any (likeB t v) && (ruleD t != 1 || A.any (likeB t ([32]++upL v++[32]))) && (ruleD t != 4 || (A.any (likeB t (upL v)) == (upL v == v))) && !A.any (likeB t (v++[33,33]))
def tysT:List (List (List UInt8)):=
 let c:List UInt8:=[99,110];let o:=objB;let s:List UInt8:=[115,110];let m:List UInt8:=[109,97,105,108];let d:List UInt8:=[68,101,115,99,114,105,112,116,105,111,110]
 let u:List UInt8:=[117,105,100];let n:List UInt8:=[117,105,100,78,117,109,98,101,114];let p:List UInt8:=[117,115,101,114,80,97,115,115,119,111,114,100]
 [[c,o,s],[c,o,s,m],[c,o,s,d],[c,o,s,u,n],[c,o,s,m,u,n],[c,o,s,d,u,n],[c,o,s,p],[c,o,s,m,p],[c,o,s,d,p]]
def mkE (ns:List UInt8):List AT:=sortA (normL (mkLd ns))
set_option maxRecDepth 100000 in
set_option maxHeartbeats 4000000 in
theorem awake8_any (w:World) (hw:LaidW w) (hlf:LaidF w):Calls Tryz.prog 23 #[] w fun e w'=>e=.returned (.bool true)∧Below w.heap.size w w':=by
 obtain ⟨W0,hW0⟩:∃ W,W=w.alloc (.cells #[.int .u8 0,.int .u8 2,.int .u8 0,.int .u8 3,.int .u8 0,.int .u8 0] 5):=⟨_,rfl⟩;have hb0:Below w.heap.size w W0:=by rw[hW0];exact (Below.refl _ _).alloc (Nat.le_refl _) _
 have hB:IsB W0.heap.size W0 ns8 (some ⟨w.heap.size,0,none⟩) 6:=by
  refine ⟨by unfold maxLen ns8;simp,.inr ⟨w.heap.size,0,rfl,by rw[hW0];simp,fun j hj=>?_⟩⟩;have hc:W0.heap[w.heap.size]?=some (.cells #[.int .u8 0,.int .u8 2,.int .u8 0,.int .u8 3,.int .u8 0,.int .u8 0] 5 (0,0)):=by rw[hW0];exact heap_alloc_new w _
  have hj6:j<6:=hj;rcases (show j=0∨j=1∨j=2∨j=3∨j=4∨j=5 by omega) with rfl | rfl | rfl | rfl | rfl | rfl <;> simp[World.cell?,hc,ns8]
 have hmk:=make_any ns8 (some ⟨w.heap.size,0,none⟩) 6 W0 hB;have HB0:=Lib.hid hb0;have HW0:=Lib.hid hW0;have HMk:=Lib.hid hmk;have HLd:=Lib.hid hw;have HLf:=Lib.hid hlf
 have HPut:Hid (∀ (D:ByteArray) (u:Value) (W:World),D.data.toList=mkD ns8→IsA W.heap.size W (mkLd ns8) u→Calls Tryz.prog 18 #[.slice none 0 0,.agg #[.string D,u]] W fun e w'=>∃ v',e=.returned v'∧IsE w'.heap.size w' [(mkD ns8,mkLd ns8)] v'∧Below W.heap.size W w'):=Lib.hid (fun D u W hD hu=>by
  have hDs:D.size≤100000:=by rw[← bytes_len,hD,awk_name];simp[cn8]
  have:=treePut_any [] ⟨by simp,by simp⟩ (.slice none 0 0) ⟨rfl,rfl⟩ D hDs (mkLd ns8) awk_fine awk_few u (by rw[hD,awk_key];simp[cn8]) (by rw[hD];exact awk_norm) W (isE_nil _ _ _ _) hu;refine this.mono fun e w' h=>?_
  obtain ⟨v',h1,h2,_,h3⟩:=h;rw[hD,awk_put] at h2
  exact ⟨v',h1,h2,h3⟩)
 have hsm:fineE [(mkD ns8,mkLd ns8)]:=⟨⟨by simp,fun e he=>by
  simp only[List.mem_singleton] at he;subst he
  exact ⟨by rw[awk_name];simp[cn8],awk_fine.1⟩⟩,fun e he=>by
  simp only[List.mem_singleton] at he;subst he
  exact awk_fine⟩
 have HSm:=Lib.hid hsm;clear hW0 hb0 hB hmk hw hlf hsm;have HCn:Hid ((⟨#[99,110,61,110,48]⟩:ByteArray).data.toList=cn8):=Lib.hid rfl;go_enter Tryz.func23,Tryz.ntmps23
 go_upto_region 2 with (first
  | (go_at_call 45;rw[← HW0.out];refine (HMk.out).mono ?_;rintro e w2 ⟨D,u,rfl,hD,hu,hb2⟩;have HD:=Lib.hid hD;have HU:=Lib.hid (ownM_isA hu (by have:=awk_fine.2.1;unfold maxLen;omega));have HB2:=Lib.hid (HB0.out.trans (hb2.mono HB0.out.size));(obtain ⟨ua,un,uc,rfl⟩:=HU.out.sl);clear hD hu hb2)
  | (go_at_call 18;refine (HPut.out D _ _ HD.out HU.out).mono ?_;rintro e w3 ⟨v3,rfl,h3,hb3⟩;have HB3:=Lib.hid (HB2.out.trans (hb3.mono HB2.out.size));have HE3:=Lib.hid h3;(obtain ⟨la,lc,rfl⟩:=IsE.sl h3);clear h3 hb3))
 have HKids:Hid (∀ W,Calls Tryz.prog 15 #[.slice none 0 0,.string ⟨#[]⟩] W fun e w'=>∃ a c,e=.returned (.slice a 0 c)∧Below W.heap.size W w'):=Lib.hid (fun W=>(treeKids_any [] ⟨by simp,by simp⟩ (.slice none 0 0) ⟨#[]⟩ W (isE_nil _ _ _ _)).mono fun e w' h=>by
  obtain ⟨v,h1,h2,h3⟩:=h;obtain ⟨a,c,rfl⟩:=ownS_slice h2
  exact ⟨a,c,h1,h3⟩)
 have HFind:Hid (∀ W,Below w3.heap.size w3 W→Calls Tryz.prog 12 #[.slice la 1 lc,.string ⟨#[99,110,61,110,48]⟩] W fun e w'=>e=.returned (.int .i64 0)∧Below W.heap.size W w'):=Lib.hid (fun W hW=>by
  have:=treeFind_any [(mkD ns8,mkLd ns8)] HSm.out.1 (.slice la 1 lc) ⟨#[99,110,61,110,48]⟩ (by decide) W (HE3.out.below hW hW.size);rw[HCn.out,awk_find] at this
  exact this)
 have HMay:Hid (∀ W,Below w3.heap.size w3 W→Calls Tryz.prog 10 #[.slice la 1 lc] W fun e w'=>e=.returned (.bool true)∧Below W.heap.size W w'):=Lib.hid (fun W hW=>by
  have h1:=HB3.out.trans (hW.mono HB3.out.size);have:=treeMay_any [(mkD ns8,mkLd ns8)] HSm.out (.slice la 1 lc) W (HLd.out.below h1) (HLf.out.below h1) (HE3.out.below hW hW.size);rw[awk_may] at this
  exact this)
 have HR3:=Lib.hid (Below.refl w3.heap.size w3)
 go_wp2_with (first
  | (go_at_call 15;refine (HKids.out _).mono ?_;rintro e w4 ⟨ka,kc,rfl,hb4⟩;have HB4:=Lib.hid (bthen HR3.out hb4);clear hb4)
  | (go_at_call 12;refine (HFind.out _ HB4.out).mono ?_;rintro e w5 ⟨rfl,hb5⟩;have HB5:=Lib.hid (bthen HB4.out hb5);clear hb5)
  | (go_at_call 10;refine (HMay.out _ HB5.out).mono ?_;rintro e w6 ⟨rfl,hb6⟩;have HB6:=Lib.hid (bthen HB5.out hb6);clear hb6))
 go_ret;exact ⟨rfl,HB3.out.trans (HB6.out.mono HB3.out.size)⟩
abbrev Ents (L:List ET):Prop:=∀ e∈L,∃ i x,i<256∧x<256∧e=entE i x
theorem putTree_any {L:List ET} (hL:Ents L) (hl:L.length≤1000) {i x:Nat} (hi:i<256) (hx:x<256) (v:Value) (hcap:capV v) (D:ByteArray) (hD:D.data.toList=(entE i x).1) (u:Value) (W:World) (h:IsE W.heap.size W L v) (hu:IsA W.heap.size W (entE i x).2 u) :
  Calls Tryz.prog 18 #[v,.agg #[.string D,u]] W fun e w'=>∃ v',e=.returned v'∧IsE w'.heap.size w' (putE L (entE i x)) v'∧capV v'∧Below W.heap.size W w':=by
 have h1:=ent_small i x hi hx;have he:(D.data.toList,(entE i x).2)=entE i x:=by rw[hD]
 have:=treePut_any L (ents_fine hL hl).1 v hcap D (by rw[← bytes_len,hD];exact h1.1) (entE i x).2 h1.2.1 h1.2.2 u (by rw[he];exact ent_keyne i x) (by rw[he];exact ent_norm i x) W h hu;rw[he] at this;exact this
theorem sameEnt_any {i x:Nat} (hi:i<256) (hx:x<256) (X D:ByteArray) (hX:X.data.toList=(entE i x).1) (hD:D.data.toList=(entE i x).1) (v u:Value) (W:World) (hv:IsA W.heap.size W (entE i x).2 v) (hu:IsA W.heap.size W (entE i x).2 u) :
  Calls Tryz.prog 24 #[.agg #[.string X,v],.agg #[.string D,u]] W fun r w'=>r=.returned (.bool true)∧Below W.heap.size W w':=by
 have:=sameRef_entry X D (entE i x).2 (entE i x).2 (ent_small i x hi hx).2.1.1 v u W hv hu;rw[hX,hD,show (((entE i x).1,(entE i x).2) == ((entE i x).1,(entE i x).2))=true from by simp] at this;exact this
theorem isE_cell {L:List ET} {w:World} {v:Value} (h:IsE w.heap.size w L v) (j:Nat) (hj:j<L.length) :
  ∃ b off c X ua un uc,v=.slice (some ⟨b,off,none⟩) L.length c∧w.cell? ⟨b,off+j * 2,none⟩=some (.string X)∧w.cell? ⟨b,off+j * 2+1,none⟩=some (.slice ua un uc)∧X.data.toList=L[j].1∧IsA w.heap.size w L[j].2 (.slice ua un uc)∧b<w.heap.size:=by
 obtain ⟨a,c,b,off,u,hv,ha,hb,h0,h1,h2⟩:=IsE.at h j hj;obtain ⟨ua,un,uc,rfl⟩:=h2.sl;exact ⟨b,off,c,_,ua,un,uc,by rw[hv,ha],h0,h1,ofL_list _,h2,hb⟩
theorem isE_lt {L:List ET} {w:World} {b off n c:Nat} (h:IsE w.heap.size w L (.slice (some ⟨b,off,none⟩) n c)) (hn:0<n):b<w.heap.size:=by
 obtain ⟨a,c',hv,_⟩:=id h;obtain ⟨_,hnl,_⟩:=Value.slice.inj hv;obtain ⟨a2,c2,b2,off2,u,hv2,ha,hb,_⟩:=IsE.at h 0 (by omega);obtain ⟨rfl,_,_⟩:=Value.slice.inj hv2;simp only[Option.some.injEq,Addr.mk.injEq,and_true] at ha;obtain ⟨rfl,rfl⟩:=ha;exact hb
structure TpAt (w W:World) (p:Nat) (D:ByteArray) (u:Value) (E:List AT) (L:List ET) (v:Value):Prop where
 box:BoxN W p D u
 ent:IsA W.heap.size W E u
 tree:IsE W.heap.size W L v
 bel:Below w.heap.size w W
theorem TpAt.go {w W W':World} {p:Nat} {D:ByteArray} {u v:Value} {E:List AT} {L:List ET} (h:TpAt w W p D u E L v) (hb:Below W.heap.size W W'):TpAt w W' p D u E L v:=
 ⟨h.box.below hb (Array.getElem?_eq_some_iff.1 h.box).1,h.ent.below hb hb.size,h.tree.below hb hb.size,bthen h.bel hb⟩
structure PutsD (L:List ET) (i x:Nat) (A B:List ET):Prop where
 cut:CutE L A B (kE (entE i x))
 ents:Ents L
 len:L.length≤40
 stands:standsK (keysE L)=true
theorem puts_dat (ns:List UInt8) (i x:Nat):∃ A B,PutsD (mkT (ns.take 40)) i x A B:=by
 have hg:=mkT_good (ns.take 40);obtain ⟨A,B,h⟩:=rise_cut (mkT (ns.take 40)) (kE (entE i x)) (stands_rise hg.1.stands);exact ⟨A,B,h,hg.1.ents,by have:=hg.2;rw[List.length_take] at this;omega,hg.1.stands⟩
theorem PutsD.entsAB {L A B:List ET} {i x:Nat} (h:PutsD L i x A B):Ents (A++B):=fun e he=>by
 refine h.ents e ?_;rcases h.cut.all with hh | ⟨y,_,hh⟩
 ·rw[hh];exact he
 ·rw[hh];rcases List.mem_append.1 he with h | h
  ·exact List.mem_append.2 (.inl h)
  ·exact List.mem_append.2 (.inr (List.mem_cons_of_mem _ h))
theorem PutsD.entsM {L A B:List ET} {i x:Nat} (h:PutsD L i x A B) (hi:i<256) (hx:x<256):Ents (A++entE i x :: B):=fun e he=>by
 rw[List.mem_append,List.mem_cons] at he;rcases he with he | rfl | he
 ·exact h.entsAB e (List.mem_append.2 (.inl he))
 ·exact ⟨i,x,hi,hx,rfl⟩
 ·exact h.entsAB e (List.mem_append.2 (.inr he))
theorem PutsD.lenAB {L A B:List ET} {i x:Nat} (h:PutsD L i x A B):A.length+B.length≤40:=by
 have:=h.len;rcases h.cut.all with hh | ⟨y,_,hh⟩ <;> rw[hh] at this <;> simp at this <;> omega
end Go.Proofs.YtgaaefcanfglhaaGreatDoor
