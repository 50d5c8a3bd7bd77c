/- Several texts in one file: TrEntW, TrOnce. -/
import Derived.Test.YtgaaefcanfglhaaGreatDoorTrmP6
import Derived.Test.YtgaaefcanfglhaaGreatDoorTrmP7
import Derived.Test.YtgaaefcanfglhaaGreatDoorTrmP9
import Derived.Deep.CutRange
import Derived.Test.YtgaaefcanfglhaaGreatDoorTrmP4
import Derived.Tactics
import Derived.Tactics2
import Derived.Defers
import Derived.Laws.Pointers
import Derived.Laws.LoneSync
import Derived.RegionTactic
import Derived.RegionCalls
import Derived.ChangeAlike
namespace Go.Proofs.YtgaaefcanfglhaaGreatDoor
open Go.RowKit
set_option linter.unusedVariables false
set_option linter.unusedSimpArgs false
def NB8:Array Value:=#[.string ⟨#[111,61,120]⟩,.string ⟨#[111,117,61,97,44,111,61,120]⟩,.string ⟨#[111,117,61,98,44,111,61,120]⟩,.string ⟨#[99,110,61,110,48,44,111,117,61,97,44,111,61,120]⟩,.string ⟨#[99,110,61,110,49,44,111,117,61,97,44,111,61,120]⟩,.string ⟨#[99,110,61,110,50,44,111,117,61,98,44,111,61,120]⟩,.string ⟨#[99,110,61,110,51,44,111,61,120]⟩,.string ⟨#[99,110,61,110,52]⟩,.string ⟨#[111,117,61,99,44,111,117,61,97,44,111,61,120]⟩,.string ⟨#[99,110,61,110,53,44,111,117,61,99,44,111,117,61,97,44,111,61,120]⟩,.string ⟨#[111,61,121]⟩,.string ⟨#[99,110,61,110,48,44,111,61,121]⟩]
theorem nb8_at (k:Nat) (hk:k<12):NB8[k]?=some (.string (nmT8.getD k ⟨#[]⟩)):=by
 match k,hk with
 | 0,_=>rfl
 | 1,_=>rfl
 | 2,_=>rfl
 | 3,_=>rfl
 | 4,_=>rfl
 | 5,_=>rfl
 | 6,_=>rfl
 | 7,_=>rfl
 | 8,_=>rfl
 | 9,_=>rfl
 | 10,_=>rfl
 | 11,_=>rfl
 | n+12,h=>exact absurd h (by omega)
set_option maxRecDepth 100000 in
set_option maxHeartbeats 4000000 in
theorem names8_any (w:World):Calls Tryz.prog 28 #[] w fun e w'=>∃ nb,nb=w.heap.size∧e=.returned (.slice (some ⟨nb,0,none⟩) 12 12)∧Below w.heap.size w w'∧∀ k,k<12→w'.cell? ⟨nb,k,none⟩=some (.string (nmT8.getD k ⟨#[]⟩)):=by
 go_enter Tryz.func28,Tryz.ntmps28
 go_wp2;go_ret;refine ⟨_,rfl,rfl,(Below.refl _ _).alloc (Nat.le_refl _) _,fun k hk=>?_⟩;have:=nb8_at k hk;have h:=heap_alloc_new w (.cells NB8 9);unfold NB8 at h this;simp only[World.cell?,h];exact this
def FE (B:Nat) (T:List Fk) (D:ByteArray) (M:List AT) (i:Nat) (v:Value) (w:World):Prop:=FK B T false i v w ∧
 (i=16→∃ c PM,v=.slice (some ⟨c,0,none⟩) M.length M.length∧B≤c∧w.heap[c]?=some (.cells (cellsP PM).toArray 60 (0,0))∧SaysM w PM M) ∧
 (i=17→∃ c PM,v=.agg #[.string D,.slice (some ⟨c,0,none⟩) M.length M.length]∧B≤c∧w.heap[c]?=some (.cells (cellsP PM).toArray 60 (0,0))∧SaysM w PM M) ∧
 (i=18→∃ g,v=.pointer (some ⟨g,0,none⟩)∧B≤g∧BoxN w g ⟨#[]⟩ (.slice none 0 0))
theorem FE.go {B:Nat} {T:List Fk} {D:ByteArray} {M:List AT} {i:Nat} {v:Value} {w w':World} (h:FE B T D M i v w) (hb:Below w.heap.size w w'):FE B T D M i v w':=by
 have hk:∀ {b:Nat} {o:Obj},w.heap[b]?=some o→w'.heap[b]?=some o:=fun e=>(hb.block _ (Array.getElem?_eq_some_iff.1 e).1).trans e
 obtain ⟨h0,h1,h2,h3⟩:=h;refine ⟨h0.go hb,fun e=>?_,fun e=>?_,fun e=>?_⟩
 ·obtain ⟨c,PM,a1,a2,a3,a4⟩:=h1 e;exact ⟨c,PM,a1,a2,hk a3,saysM_below a4 hb⟩
 ·obtain ⟨c,PM,a1,a2,a3,a4⟩:=h2 e;exact ⟨c,PM,a1,a2,hk a3,saysM_below a4 hb⟩
 ·obtain ⟨g,a1,a2,a3⟩:=h3 e;exact ⟨g,a1,a2,hk a3⟩
theorem FE.lay {B:Nat} {T:List Fk} {D:ByteArray} {M:List AT} {i:Nat} {v:Value} {w:World} (h:FK B T false i v w) (hi:i<16):FE B T D M i v w:=
 ⟨h,fun e=>by omega,fun e=>by omega,fun e=>by omega⟩
theorem raw_small (i x:Nat) (hi:i<256) (hx:x<256):smallA (rawE i x):=by
 have hk:i % 12<12:=Nat.mod_lt _ (by decide);obtain ⟨_,_,_,ht,hv⟩:=nm_parse (i % 12) hk;have hd:=itoa_byte hx;have hp:=itoa_byte hi;have hs:=itoa_byte (n:=x % 4) (by omega);have cl8:∀ t:List UInt8,(clB t).data.toList.length≤20:=fun t=>by
  unfold clB
  split
  ·decide
  ·split <;> decide
 have one:∀ v:List UInt8,v.length≤100→smallT [v]:=fun v hv=>⟨by simp,fun s hs=>by rw[List.mem_singleton] at hs;rw[hs];omega⟩
 refine ⟨by have:=raw_len i x;omega,fun a ha=>?_⟩;have ha:a∈fstE (i % 12) x++snE x++pwE i:=by
  unfold rawE at ha;simp only[List.mem_append] at ha ⊢;rcases ha with h | h
  ·exact .inl (.inl h)
  ·split at h
   ·rw[List.mem_append] at h;rcases h with h | h
    ·exact .inl (.inr h)
    ·split at h
     ·exact .inr h
     ·cases h
   ·cases h
 unfold fstE snE pwE at ha;simp only[List.cons_append,List.nil_append,List.mem_cons,List.not_mem_nil,or_false] at ha;rcases ha with rfl | rfl | rfl | rfl | rfl
 ·exact ⟨by show (avE (i % 12)).1.length≤1000000;omega,one _ (by omega)⟩
 ·exact ⟨by show 11≤1000000;omega,one _ (by have:=cl8 (avE (i % 12)).1;omega)⟩
 ·exact ⟨by show 11≤1000000;omega,one _ (by unfold dscE;simp;omega)⟩
 ·exact ⟨by show 2≤1000000;omega,one _ (by rw[List.length_cons];omega)⟩
 ·exact ⟨by show 12≤1000000;omega,one _ (by simp;omega)⟩
def EnJ (B g rb:Nat) (D:ByteArray) (u:Value) (P:List PT) (L:List AT) (q:Bool) (W:World):Prop:=BoxN W g D u∧BoxN W rb ⟨#[]⟩ (.slice none 0 0)∧(q=false→RowP B W u P∧SaysM W P L)
theorem EnJ.go {B g rb:Nat} {D:ByteArray} {u:Value} {P:List PT} {L:List AT} {q:Bool} {W W':World} (h:EnJ B g rb D u P L q W) (hb:Below W.heap.size W W'):EnJ B g rb D u P L q W':=
 ⟨h.1.below hb (Array.getElem?_eq_some_iff.1 h.1).1,h.2.1.below hb (Array.getElem?_eq_some_iff.1 h.2.1).1,fun e=>⟨rowP_below (h.2.2 e).1 hb,saysM_below (h.2.2 e).2 hb⟩⟩
theorem EnJ.loud {B g rb:Nat} {D:ByteArray} {u:Value} {P:List PT} {L:List AT} {q:Bool} {W W':World} (h:EnJ B g rb D u P L q W) (hk:∀ (b:Nat) (cs:Array Value) (e:TypeId),W.heap[b]?=some (.cells cs e (0,0))→e≠60→W'.heap[b]?=W.heap[b]?):EnJ B g rb D u P L true W':=
 ⟨(hk _ _ _ h.1 (by decide)).trans h.1,(hk _ _ _ h.2.1 (by decide)).trans h.2.1,fun e=>by cases e⟩
theorem enJ_store {B g rb:Nat} {D:ByteArray} {u s:Value} {P P2:List PT} {L L2:List AT} {W:World} {q:Bool} (h:EnJ B g rb D u P L q W) (hr:RowP B W s P2) (hs:SaysM W P2 L2) (hne:rb≠g) :
  BoxN (W.setCell ⟨g,1,none⟩ s) g D s∧BoxN (W.setCell ⟨g,1,none⟩ s) rb ⟨#[]⟩ (.slice none 0 0)∧RowP B (W.setCell ⟨g,1,none⟩ s) s P2∧SaysM (W.setCell ⟨g,1,none⟩ s) P2 L2∧W.cell? ⟨g,1,none⟩=some u∧W.frozen? ⟨g,1,none⟩=false:=by
 obtain ⟨hb,hk,_⟩:=h;exact ⟨boxN_store1 hb,(block_ne W ⟨g,1,none⟩ s hne).trans hk,(rowP_setE hr hs hb).1,(rowP_setE hr hs hb).2,hb.cells.2,hb.free 1⟩
theorem raw_parts (i x:Nat):rawE i x=fstE (i % 12) x++(if isP (i % 12)=true then snE x++(if x % 3=0 then pwE i else []) else []):=rfl
theorem clB_person (k:Nat):((clB (avE k).1).toList == [112,101,114,115,111,110])=isP k:=by
 unfold clB isP
 by_cases h1:(avE k).1=[111]
 ·rw[if_pos h1];simp only[h1];kernel_rfl
 ·rw[if_neg h1]
  by_cases h2:(avE k).1=[111,117]
  ·rw[if_pos h2];simp only[h2];kernel_rfl
  ·rw[if_neg h2];simp only[h1,h2];kernel_rfl
theorem field_dn0 (w:World) (a:Option Addr) (n c:Nat) (b:Bool):(Instr.field 57 (.agg #[.slice a n c,.bool b]) 0).run Tryz.prog w=.ok (.slice a n c) w:=by kernel_rfl
set_option maxRecDepth 100000 in
set_option maxHeartbeats 4000000 in
theorem entry8_any (i x:Nat) (hi:i<256) (hx:x<256) (w:World) :
  Calls Tryz.prog 8 #[.int .i64 i,.int .u8 x] w fun e w'=>∃ D v,e=.returned (.agg #[.string D,v])∧D.data.toList=(entE i x).1∧IsA w'.heap.size w' (entE i x).2 v∧Below w.heap.size w w':=by
 obtain ⟨k,hk⟩:∃ k,k=i % 12:=⟨_,rfl⟩;have hk12:k<12:=by omega
 have m12:(i:Int).tmod 12=(k:Int):=by rw[Int.tmod_eq_emod_of_nonneg (by omega)];omega
 obtain ⟨l,hl⟩:=nm_first hk12;obtain ⟨_,_,hn30,ht3,hv3⟩:=nm_parse k hk12;obtain ⟨D,hD⟩:∃ D:ByteArray,D=nmT8.getD k ⟨#[]⟩:=⟨_,rfl⟩;have hDl:D.data.toList=nmE k:=by rw[hD];rfl
 have hDs:D.size≤100000:=by rw[← bytes_len,hDl];omega
 have hpa:=fun w=>parseRef_any D hDs w
 rw[hDl,hl] at hpa;have HPa:=Lib.hid hpa;have HNb:=Lib.hid (nb8_at k hk12);have HNm:=Lib.hid hD;obtain ⟨r,hr⟩:∃ r,r=avE k:=⟨_,rfl⟩;rw[← hr] at HPa ht3 hv3;have HR:=Lib.hid hr;have HK:=Lib.hid hk;have hki:(k:Int)<12:=by omega
 have hk0:(0:Int)≤(k:Int):=by omega
 have HX1:=Lib.hid (boxN_new w ⟨#[]⟩ (.slice none 0 0));have HB1:=Lib.hid ((Below.refl w.heap.size w).alloc (Nat.le_refl _) (.cells #[.string ⟨#[]⟩,.slice none 0 0] 27));obtain ⟨TA,hTA⟩:∃ T:ByteArray,strV r.1=.string T:=⟨_,rfl⟩;obtain ⟨VA,hVA⟩:∃ T:ByteArray,strV r.2=.string T:=⟨_,rfl⟩;have HTA:=Lib.hid hTA;have HVA:=Lib.hid hVA;clear hTA hVA;have hfd:=fun w a n c b=>field_dn0 w a n c b
 clear hpa hl hD hr hk;go_enter Tryz.func8,Tryz.ntmps8
 go_upto_region 3 with (first
  | (go_at_call 28;refine (names8_any _).mono ?_;rintro e w2 ⟨nb,hnb,rfl,hb2,hc2⟩;replace hc2:=hc2 k hk12;rw[← HNm.out] at hc2;have HX2:=Lib.hid (HX1.out.below hb2 (by simp));have HB2:=Lib.hid (bthen HB1.out hb2);clear hb2 hnb)
  | (go_at_call 29;(refine (HPa.out _).mono ?_;rintro e w3 ⟨hb3,v3,rfl,hil⟩;(obtain ⟨la,lc,rfl,_,hl0⟩:=id hil);obtain ⟨b,off,rfl,hbl,d0,d1⟩:=hl0 0 (Nat.succ_pos _);(rw[Nat.zero_mul,Nat.add_zero,List.getElem_cons_zero,HTA.out] at d0);(rw[Nat.zero_mul,Nat.add_zero,List.getElem_cons_zero,HVA.out] at d1);have hlt:decide ((0:Int)<((l.length:Nat):Int)+1)=true:=decide_eq_true (by omega);have HX3:=Lib.hid (HX2.out.below hb3 (Array.getElem?_eq_some_iff.1 HX2.out).1);have HB3:=Lib.hid (bthen HB2.out hb3);clear hb3 hl0 hil hc2)))
 obtain ⟨W4,hW4⟩:∃ W,W=w3.alloc (.cells #[.string TA,.string VA] 54):=⟨_,rfl⟩;rw[← hW4];have hb4:Below w3.heap.size w3 W4:=by rw[hW4];exact (Below.refl _ _).alloc (Nat.le_refl _) _
 have hx4:W4.heap[w3.heap.size]?=some (.cells #[.string TA,.string VA] 54 (0,0)):=by rw[hW4];exact heap_alloc_new w3 _
 obtain ⟨pb,hpb⟩:∃ p,p=w3.heap.size:=⟨_,rfl⟩;have HX4:=Lib.hid (HX3.out.below hb4 (Array.getElem?_eq_some_iff.1 HX3.out).1);have HB4:=Lib.hid (bthen HB3.out hb4);have hpw:pb<W4.heap.size:=by rw[hpb];exact (Array.getElem?_eq_some_iff.1 hx4).1
 have c0:W4.cell? ⟨pb,0,none⟩=some (.string TA):=by rw[hpb];simp[World.cell?,hx4]
 have c1:W4.cell? ⟨pb,1,none⟩=some (.string VA):=by rw[hpb];simp[World.cell?,hx4]
 rw[← hpb];have HVl:Hid (VA.data.toList=r.2):=Lib.hid (by have:=HVA.out;unfold strV at this;injection this with e;rw[← e]);have hTl:TA.data.toList=r.1:=by have:=HTA.out;unfold strV at this;injection this with e;rw[← e]
 obtain ⟨C1,hC1⟩:∃ C,C=if r.1=[111] then (⟨#[111,114,103,97,110,105,122,97,116,105,111,110]⟩:ByteArray) else (⟨#[112,101,114,115,111,110]⟩:ByteArray):=⟨_,rfl⟩
 have HC1:=Lib.hid hC1;obtain ⟨g1,hg1⟩:∃ g,g=(TA.toList == [111]):=⟨_,rfl⟩;have HG1:=Lib.hid hg1;have q1:(⟨#[111]⟩:ByteArray).toList=[111]:=by kernel_rfl
 have q2:(⟨#[111,117]⟩:ByteArray).toList=[111,117]:=by kernel_rfl
 have hg1t:r.1=[111]→g1=true:=fun h=>by rw[hg1,toList_eq' (show TA.data.toList=(⟨#[111]⟩:ByteArray).data.toList by rw[hTl,h]),q1];rfl
 have hg1f:¬ r.1=[111]→g1=false:=fun h=>by
  have e:=toList_ne (show ¬ TA.data.toList=(⟨#[111]⟩:ByteArray).data.toList by rw[hTl];exact h);rw[q1] at e;rw[hg1];simpa using e
 obtain ⟨g2,hg2⟩:∃ g,g=(TA.toList == [111,117]):=⟨_,rfl⟩;have HG2:=Lib.hid hg2;have hg2t:r.1=[111,117]→g2=true:=fun h=>by rw[hg2,toList_eq' (show TA.data.toList=(⟨#[111,117]⟩:ByteArray).data.toList by rw[hTl,h]),q2];rfl
 have hg2f:¬ r.1=[111,117]→g2=false:=fun h=>by
  have e:=toList_ne (show ¬ TA.data.toList=(⟨#[111,117]⟩:ByteArray).data.toList by rw[hTl];exact h);rw[q2] at e;rw[hg2];simpa using e
 have HT1:=Lib.hid hg1t;have HF1:=Lib.hid hg1f;have HT2:=Lib.hid hg2t;have HF2:=Lib.hid hg2f;clear hW4 hb4 hx4 hpb hfd d0 d1 hbl hlt hg1t hg1f hg2t hg2f hg1 hg2 q1 q2 hC1
 go_upto_if 21 with fail
 rw[← HG1.out]
 go_cut [7] from 22 to 24 (fun s7 wx=>s7=.string C1∧W4=wx)
 case first=>
  by_cases h1:r.1=[111]
  ·have t1:=HT1.out h1;have e:=HC1.out;rw[if_pos h1] at e;subst t1;subst e
   go_wp2_with fail
   go_meet;exact ⟨rfl,rfl⟩
  ·have t1:=HF1.out h1;have e:=HC1.out;rw[if_neg h1] at e;subst t1;subst e
   go_wp2_with fail
   go_meet;exact ⟨rfl,rfl⟩
 case rest=>
  obtain ⟨rfl,rfl⟩:=hcut;obtain ⟨C,hC⟩:∃ C,C=clB r.1:=⟨_,rfl⟩;have HC:=Lib.hid hC;clear hC
  go_upto_if 24 with fail
  rw[← HG2.out]
  go_cut [7] from 24 to 24 (fun s7 wx=>s7=.string C∧W4=wx)
  case first=>
   by_cases h2:r.1=[111,117]
   ·have t2:=HT2.out h2;have e:=HC.out;unfold clB at e;rw[if_neg (by rw[h2];simp),if_pos h2] at e;subst t2;subst e
    go_wp2_with fail
    go_meet;exact ⟨rfl,rfl⟩
   ·have t2:=HF2.out h2;have e:C1=C:=by
     rw[HC1.out,HC.out];unfold clB
     by_cases h1:r.1=[111]
     ·rw[if_pos h1,if_pos h1]
     ·rw[if_neg h1,if_neg h1,if_neg h2]
    subst t2
    go_wp2_with fail
    go_meet
    first | exact ⟨rfl,rfl⟩ | exact ⟨by rw[e],rfl⟩
  case rest=>
   obtain ⟨rfl,rfl⟩:=hcut
   go_upto_region 8 with fail
   have hgr0:=Below.refl W4.heap.size W4;obtain ⟨TD,hTD⟩:∃ T,T=ofL (Lib.itoa (x:Int)):=⟨_,rfl⟩;have hDg:∀ w,Calls Tryz.prog 30 #[.int .i64 (x:Int)] w fun e w'=>e=.returned (.string TD)∧Below w.heap.size w w':=fun w=>by rw[hTD];exact digits_any (x:Int) (by omega) (by omega) w
   have HDg:=Lib.hid hDg;have hTs:TD.size≤3:=by rw[← bytes_len,hTD,ofL_list];exact itoa_byte hx
   obtain ⟨TB,hTB⟩:∃ P,(⟨#[100]⟩:ByteArray)++TD=P:=⟨_,rfl⟩;have hTBl:TB.data.toList=dscE x:=by rw[← hTB,app_list,hTD,ofL_list];rfl
   have qTB:1+TD.size≤9223372036854775807:=by omega
   have hw8:IntKind.i64.wrap (x:Int)=(x:Int):=IntWalk.i64_in _ (by omega);refine region_factsB (by kernel_rfl) (FE W4.heap.size [.is (.string D),.is (.pointer (some ⟨pb,0,none⟩)),.is (.string TA),.is (.pointer (some ⟨pb,1,none⟩)),.is (.string VA),.val #[.string VA] (fun b=>.slice (some ⟨b,0,none⟩) 1 1),.val #[.string VA] (fun b=>.agg #[.string TA,.slice (some ⟨b,0,none⟩) 1 1]),.is (.string C),.val #[.string C] (fun b=>.slice (some ⟨b,0,none⟩) 1 1),.val #[.string C] (fun b=>.agg #[.string ⟨#[111,98,106,101,99,116,99,108,97,115,115]⟩,.slice (some ⟨b,0,none⟩) 1 1]),.is (.int .u8 (x:Int)),.is (.int .i64 (x:Int)),.is (.string TD),.is (.string TB),.val #[.string TB] (fun b=>.slice (some ⟨b,0,none⟩) 1 1),.val #[.string TB] (fun b=>.agg #[.string ⟨#[100,101,115,99,114,105,112,116,105,111,110]⟩,.slice (some ⟨b,0,none⟩) 1 1])] D [(TA.data.toList,[VA.data.toList]),([111,98,106,101,99,116,99,108,97,115,115],[C.data.toList]),([100,101,115,99,114,105,112,116,105,111,110],[TB.data.toList])]) (fun w w'=>Below w.heap.size w w') (fun _ _ _ _ h hb=>h.go hb) (fun _ _ _ h1 h2=>bthen h1 h2) (Below.refl _ _).drew (by kernel_rfl) rfl ?hs ?hl
   case hs=>
    intro listed a W hk i o ho hi hc;have e1:=hk.read (t:=1) (by kernel_rfl) rfl;have e5:=hk.read (t:=5) (by kernel_rfl) rfl;have e6:=hk.read (t:=6) (by kernel_rfl) rfl;have e7:=hk.read (t:=7) (by kernel_rfl) rfl;have hgr:Below W4.heap.size W4 W:=hk.grown
    match i,hi with
    | 0,_=>
     obtain rfl:=Option.some.inj ho;exact wpOp_val rfl rfl (v:=.string D) (w':=W) (by simp[go_sem,e5]) ⟨_,_,rfl,rfl,Below.refl _ _,FE.lay rfl (by decide)⟩
    | 1,_=>
     obtain rfl:=Option.some.inj ho;exact wpOp_val rfl rfl (v:=.pointer (some ⟨pb,0,none⟩)) (w':=W) (by simp[go_sem,e6]) ⟨_,_,rfl,rfl,Below.refl _ _,FE.lay rfl (by decide)⟩
    | 2,_=>
     obtain rfl:=Option.some.inj ho;obtain ⟨v1,g1,f1⟩:=hk.got (j:=1) rfl rfl (hc ⟨1,.data⟩ (by simp) rfl);obtain rfl:v1=_:=f1.1;have d:=(hgr.cell (p:=⟨pb,0,none⟩) hpw).trans c0;exact wpOp_val rfl rfl (v:=.string TA) (w':=W) (by simp[go_sem,g1,d]) ⟨_,_,rfl,rfl,Below.refl _ _,FE.lay rfl (by decide)⟩
    | 3,_=>
     obtain rfl:=Option.some.inj ho;exact wpOp_val rfl rfl (v:=.pointer (some ⟨pb,1,none⟩)) (w':=W) (by simp[go_sem,e6]) ⟨_,_,rfl,rfl,Below.refl _ _,FE.lay rfl (by decide)⟩
    | 4,_=>
     obtain rfl:=Option.some.inj ho;obtain ⟨v3,g3,f3⟩:=hk.got (j:=3) rfl rfl (hc ⟨3,.data⟩ (by simp) rfl);obtain rfl:v3=_:=f3.1;have d:=(hgr.cell (p:=⟨pb,1,none⟩) hpw).trans c1;exact wpOp_val rfl rfl (v:=.string VA) (w':=W) (by simp[go_sem,g3,d]) ⟨_,_,rfl,rfl,Below.refl _ _,FE.lay rfl (by decide)⟩
    | 5,_=>
     obtain rfl:=Option.some.inj ho;obtain ⟨v4,g4,f4⟩:=hk.got (j:=4) rfl rfl (hc ⟨4,.data⟩ (by simp) rfl);obtain rfl:v4=_:=f4.1;exact wpOp_val rfl rfl (v:=.slice (some ⟨W.heap.size,0,none⟩) 1 1) (w':=W.alloc (.cells #[.string VA] 9)) (by simp[go_sem,g4]) ⟨_,_,rfl,rfl,(Below.refl _ _).alloc (Nat.le_refl _) _,FE.lay ⟨_,rfl,heap_alloc_new W _⟩ (by decide)⟩
    | 6,_=>
     obtain rfl:=Option.some.inj ho;obtain ⟨v2,g2,f2⟩:=hk.got (j:=2) rfl rfl (hc ⟨2,.data⟩ (by simp) rfl);obtain rfl:v2=_:=f2.1;obtain ⟨v5,g5,f5⟩:=hk.got (j:=5) rfl rfl (hc ⟨5,.data⟩ (by simp) rfl);obtain ⟨b5,rfl,hb5⟩:=f5.1;exact wpOp_val rfl rfl (v:=.agg #[.string TA,.slice (some ⟨b5,0,none⟩) 1 1]) (w':=W) (by simp[go_sem,g2,g5]) ⟨_,_,rfl,rfl,Below.refl _ _,FE.lay ⟨_,rfl,hb5⟩ (by decide)⟩
    | 7,_=>
     obtain rfl:=Option.some.inj ho;exact wpOp_val rfl rfl (v:=.string C) (w':=W) (by simp[go_sem,e7]) ⟨_,_,rfl,rfl,Below.refl _ _,FE.lay rfl (by decide)⟩
    | 8,_=>
     obtain rfl:=Option.some.inj ho;obtain ⟨v7,g7,f7⟩:=hk.got (j:=7) rfl rfl (hc ⟨7,.data⟩ (by simp) rfl);obtain rfl:v7=_:=f7.1;exact wpOp_val rfl rfl (v:=.slice (some ⟨W.heap.size,0,none⟩) 1 1) (w':=W.alloc (.cells #[.string C] 9)) (by simp[go_sem,g7]) ⟨_,_,rfl,rfl,(Below.refl _ _).alloc (Nat.le_refl _) _,FE.lay ⟨_,rfl,heap_alloc_new W _⟩ (by decide)⟩
    | 9,_=>
     obtain rfl:=Option.some.inj ho;obtain ⟨v8,g8,f8⟩:=hk.got (j:=8) rfl rfl (hc ⟨8,.data⟩ (by simp) rfl);obtain ⟨b8,rfl,hb8⟩:=f8.1;exact wpOp_val rfl rfl (v:=.agg #[.string ⟨#[111,98,106,101,99,116,99,108,97,115,115]⟩,.slice (some ⟨b8,0,none⟩) 1 1]) (w':=W) (by simp[go_sem,g8]) ⟨_,_,rfl,rfl,Below.refl _ _,FE.lay ⟨_,rfl,hb8⟩ (by decide)⟩
    | 10,_=>
     obtain rfl:=Option.some.inj ho;exact wpOp_val rfl rfl (v:=.int .u8 (x:Int)) (w':=W) (by simp[go_sem,e1]) ⟨_,_,rfl,rfl,Below.refl _ _,FE.lay rfl (by decide)⟩
    | 11,_=>
     obtain rfl:=Option.some.inj ho;obtain ⟨v10,g10,f10⟩:=hk.got (j:=10) rfl rfl (hc ⟨10,.data⟩ (by simp) rfl);obtain rfl:v10=_:=f10.1;exact wpOp_val rfl rfl (v:=.int .i64 (x:Int)) (w':=W) (by simp[go_sem,g10,hw8]) ⟨_,_,rfl,rfl,Below.refl _ _,FE.lay rfl (by decide)⟩
    | 12,_=>
     obtain rfl:=Option.some.inj ho;obtain ⟨v11,g11,f11⟩:=hk.got (j:=11) rfl rfl (hc ⟨11,.data⟩ (by simp) rfl);obtain rfl:v11=_:=f11.1;refine wpOp_call rfl rfl (f:=30) (args:=#[.int .i64 (x:Int)]) (by simp[go_sem,g11]) ((HDg.out W).mono ?_);rintro e w2 ⟨rfl,hb2⟩;exact ⟨_,rfl,_,_,rfl,rfl,hb2,FE.lay rfl (by decide)⟩
    | 13,_=>
     obtain rfl:=Option.some.inj ho;obtain ⟨v12,g12,f12⟩:=hk.got (j:=12) rfl rfl (hc ⟨12,.data⟩ (by simp) rfl);obtain rfl:v12=_:=f12.1;exact wpOp_val rfl rfl (v:=.string TB) (w':=W) (by simp[go_sem,g12,hTB,qTB]) ⟨_,_,rfl,rfl,Below.refl _ _,FE.lay rfl (by decide)⟩
    | 14,_=>
     obtain rfl:=Option.some.inj ho;obtain ⟨v13,g13,f13⟩:=hk.got (j:=13) rfl rfl (hc ⟨13,.data⟩ (by simp) rfl);obtain rfl:v13=_:=f13.1;exact wpOp_val rfl rfl (v:=.slice (some ⟨W.heap.size,0,none⟩) 1 1) (w':=W.alloc (.cells #[.string TB] 9)) (by simp[go_sem,g13]) ⟨_,_,rfl,rfl,(Below.refl _ _).alloc (Nat.le_refl _) _,FE.lay ⟨_,rfl,heap_alloc_new W _⟩ (by decide)⟩
    | 15,_=>
     obtain rfl:=Option.some.inj ho;obtain ⟨v14,g14,f14⟩:=hk.got (j:=14) rfl rfl (hc ⟨14,.data⟩ (by simp) rfl);obtain ⟨b14,rfl,hb14⟩:=f14.1;exact wpOp_val rfl rfl (v:=.agg #[.string ⟨#[100,101,115,99,114,105,112,116,105,111,110]⟩,.slice (some ⟨b14,0,none⟩) 1 1]) (w':=W) (by simp[go_sem,g14]) ⟨_,_,rfl,rfl,Below.refl _ _,FE.lay ⟨_,rfl,hb14⟩ (by decide)⟩
    | 16,_=>
     obtain rfl:=Option.some.inj ho;obtain ⟨v6,g6,f6⟩:=hk.got (j:=6) rfl rfl (hc ⟨6,.data⟩ (by simp) rfl);obtain ⟨b6,rfl,hb6⟩:=f6.1;obtain ⟨v9,g9,f9⟩:=hk.got (j:=9) rfl rfl (hc ⟨9,.data⟩ (by simp) rfl);obtain ⟨b9,rfl,hb9⟩:=f9.1;obtain ⟨v15,g15,f15⟩:=hk.got (j:=15) rfl rfl (hc ⟨15,.data⟩ (by simp) rfl);obtain ⟨b15,rfl,hb15⟩:=f15.1;have l6:=(Array.getElem?_eq_some_iff.1 hb6).1;have l9:=(Array.getElem?_eq_some_iff.1 hb9).1;have l15:=(Array.getElem?_eq_some_iff.1 hb15).1;exact wpOp_val rfl rfl (v:=.slice (some ⟨W.heap.size,0,none⟩) 3 3) (w':=W.alloc (.cells #[.string TA,.slice (some ⟨b6,0,none⟩) 1 1,.string ⟨#[111,98,106,101,99,116,99,108,97,115,115]⟩,.slice (some ⟨b9,0,none⟩) 1 1,.string ⟨#[100,101,115,99,114,105,112,116,105,111,110]⟩,.slice (some ⟨b15,0,none⟩) 1 1] 60)) (by simp[go_sem,g6,g9,g15]) ⟨_,_,rfl,rfl,(Below.refl _ _).alloc (Nat.le_refl _) _,⟨trivial,fun _=>⟨W.heap.size,[(TA.data.toList,.slice (some ⟨b6,0,none⟩) 1 1),([111,98,106,101,99,116,99,108,97,115,115],.slice (some ⟨b9,0,none⟩) 1 1),([100,101,115,99,114,105,112,116,105,111,110],.slice (some ⟨b15,0,none⟩) 1 1)],rfl,hgr.size,by rw[show (cellsP [(TA.data.toList,.slice (some ⟨b6,0,none⟩) 1 1),([111,98,106,101,99,116,99,108,97,115,115],.slice (some ⟨b9,0,none⟩) 1 1),([100,101,115,99,114,105,112,116,105,111,110],.slice (some ⟨b15,0,none⟩) 1 1)]).toArray=#[.string TA,.slice (some ⟨b6,0,none⟩) 1 1,.string ⟨#[111,98,106,101,99,116,99,108,97,115,115]⟩,.slice (some ⟨b9,0,none⟩) 1 1,.string ⟨#[100,101,115,99,114,105,112,116,105,111,110]⟩,.slice (some ⟨b15,0,none⟩) 1 1] from by simp[cellsP,strV_whole,strV]];exact heap_alloc_new W _,saysM_app (saysM_one (X:=TA) ((heap_alloc_old W _ l6).trans hb6)) (saysM_app (saysM_one (X:=⟨#[111,98,106,101,99,116,99,108,97,115,115]⟩) ((heap_alloc_old W _ l9).trans hb9)) (saysM_one (X:=⟨#[100,101,115,99,114,105,112,116,105,111,110]⟩) ((heap_alloc_old W _ l15).trans hb15)))⟩,fun h=>absurd h (by decide),fun h=>absurd h (by decide)⟩⟩
    | 17,_=>
     obtain rfl:=Option.some.inj ho;obtain ⟨v0,g0,f0⟩:=hk.got (j:=0) rfl rfl (hc ⟨0,.data⟩ (by simp) rfl);obtain rfl:v0=_:=f0.1;obtain ⟨v16,g16,f16⟩:=hk.got (j:=16) rfl rfl (hc ⟨16,.data⟩ (by simp) rfl);obtain ⟨c,PM,rfl,hcB,hcc,hps⟩:=f16.2.1 rfl;exact wpOp_val rfl rfl (v:=.agg #[.string D,.slice (some ⟨c,0,none⟩) 3 3]) (w':=W) (by simp[go_sem,g0,g16]) ⟨_,_,rfl,rfl,Below.refl _ _,⟨trivial,fun h=>absurd h (by decide),fun _=>⟨c,PM,rfl,hcB,hcc,hps⟩,fun h=>absurd h (by decide)⟩⟩
    | 18,_=>
     obtain rfl:=Option.some.inj ho;exact wpOp_val rfl rfl (v:=.pointer (some ⟨W.heap.size,0,none⟩)) (w':=W.alloc (.cells #[.string ⟨#[]⟩,.slice none 0 0] 27)) (by simp[go_sem]) ⟨_,_,rfl,rfl,(Below.refl _ _).alloc (Nat.le_refl _) _,⟨trivial,fun h=>absurd h (by decide),fun h=>absurd h (by decide),fun _=>⟨W.heap.size,rfl,hgr.size,boxN_new W _ _⟩⟩⟩
    | m+19,h=>exact absurd h (by simp)
   case hl=>
    intro listed a W hk hall;obtain ⟨v17,g17,f17⟩:=hk.got (j:=17) rfl rfl (hall 17 (by simp));obtain ⟨v18,g18,f18⟩:=hk.got (j:=18) rfl rfl (hall 18 (by simp));obtain ⟨c,PM,rfl,hcB,hcc,hps⟩:=f17.2.2.1 rfl;obtain ⟨g,rfl,hgB,hgx⟩:=f18.2.2.2 rfl;obtain ⟨q0,q1⟩:=hgx.cells;have q2:=hgx.free 0;have q3:=(boxN_store0 (y:=D) hgx).free 1;have q4:=(boxN_store0 (y:=D) hgx).cells.2;have hgr:Below W4.heap.size W4 W:=hk.grown;have hbl:=(hgr.setCell (p:=⟨g,0,none⟩) hgB (.string D)).setCell (p:=⟨g,1,none⟩) hgB (.slice (some ⟨c,0,none⟩) 3 3);have hbx:=boxN_store1 (v:=.slice (some ⟨c,0,none⟩) 3 3) (boxN_store0 (y:=D) hgx);have hput:=hk.puts;refine wpOp_skip rfl rfl (w':=(W.setCell ⟨g,0,none⟩ (.string D)).setCell ⟨g,1,none⟩ (.slice (some ⟨c,0,none⟩) 3 3)) (by simp[go_sem,g17,g18,q0,q1,q2,q3,q4]) ?_;rw[hput];simp only[putT,g18];generalize a.tmps[25]?.getD undef=x25;generalize a.tmps[26]?.getD undef=x26;generalize a.tmps[27]?.getD undef=x27;generalize a.tmps[28]?.getD undef=x28;generalize a.tmps[29]?.getD undef=x29;generalize a.tmps[30]?.getD undef=x30;generalize a.tmps[31]?.getD undef=x31;generalize a.tmps[32]?.getD undef=x32;generalize a.tmps[33]?.getD undef=x33;generalize a.tmps[34]?.getD undef=x34;generalize a.tmps[35]?.getD undef=x35;generalize a.tmps[36]?.getD undef=x36;generalize a.tmps[37]?.getD undef=x37;generalize a.tmps[38]?.getD undef=x38;generalize a.tmps[39]?.getD undef=x39;generalize a.tmps[40]?.getD undef=x40;generalize a.tmps[41]?.getD undef=x41;generalize a.tmps[42]?.getD undef=x42;obtain ⟨W8,hW8⟩:∃ X,X=(W.setCell ⟨g,0,none⟩ (.string D)).setCell ⟨g,1,none⟩ (.slice (some ⟨c,0,none⟩) 3 3):=⟨_,rfl⟩;rw[← hW8] at hbx hbl ⊢;obtain ⟨M,hM⟩:∃ M:List AT,M=[(TA.data.toList,[VA.data.toList]),([111,98,106,101,99,116,99,108,97,115,115],[C.data.toList]),([100,101,115,99,114,105,112,116,105,111,110],[TB.data.toList])]:=⟨_,rfl⟩;have hM3:M.length=3:=by rw[hM];rfl
    rw[← hM] at hps;have hpl:PM.length=3:=by rw[hps.1,hM3]
    have hkeep:∀ k,k≠g→W8.heap[k]?=W.heap[k]?:=fun k hk=>by rw[hW8];exact (block_ne _ ⟨g,1,none⟩ _ hk).trans (block_ne _ ⟨g,0,none⟩ _ hk)
    have hcg:c≠g:=fun e=>by
     unfold BoxN at hgx;rw[e,hgx] at hcc;exact absurd hcc (by simp)
    have hrow:RowP W4.heap.size W8 (.slice (some ⟨c,0,none⟩) 3 3) PM:=by
     have hcl:(cellsP PM).length=6:=by rw[cellsP_length,hpl]
     refine ⟨by rw[cellsP_length],.inr ⟨c,3,(cellsP PM).toArray,by rw[hpl],hcB,(hkeep c hcg).trans hcc,by rw[hpl];omega,by unfold maxLen;omega,by simp[hcl],by rw[hpl,List.take_of_length_le (by simp[hcl])]⟩⟩
    have hsay:SaysM W8 PM M:=saysM_to hps fun k hk=>hkeep k fun e=>by
     obtain ⟨cs,fr,hkc⟩:=hk;unfold BoxN at hgx;rw[e,hgx] at hkc
     cases hkc
    have HRow:=Lib.hid hrow;have HSay:=Lib.hid hsay;have HBx:=Lib.hid hbx;have HX8:=Lib.hid (HX4.out.below hbl (Array.getElem?_eq_some_iff.1 HX4.out).1);have HB8:=Lib.hid (bthen HB4.out hbl);have HMl:=Lib.hid hM;have HSz8:Hid (W4.heap.size≤W8.heap.size):=Lib.hid hbl.size;have hrb:w.heap.size<W4.heap.size:=(Array.getElem?_eq_some_iff.1 HX4.out).1;have HLe:Hid (w.heap.size≤W4.heap.size):=Lib.hid (by omega);have HGB0:Hid (W4.heap.size≤g):=Lib.hid hgB;have HNe:Hid (w.heap.size≠g):=Lib.hid (by omega);have HGe:Hid (w.heap.size≤g):=Lib.hid (by omega);have hMf:M=fstE k x:=by
     rw[hM];unfold fstE;rw[← HR.out,hTl,HVl.out,HC.out,hTBl]
    have hra:=raw_parts i x;rw[← HK.out,← hMf] at hra;have HRa:=Lib.hid hra;obtain ⟨g3,hg3⟩:∃ g,g=isP k:=⟨_,rfl⟩;have hg3c:(C.toList == [112,101,114,115,111,110])=g3:=by rw[HC.out,HR.out,hg3];exact clB_person k
    rw[← hg3] at hra;have HG3:=Lib.hid hg3c;have HRa:=Lib.hid hra;clear hra hMf hrb hg3 hg3c;clear hW8 hM hkeep hrow hsay hbx hbl hgx hcc hps hall hput hk g17 g18 q0 q1 q2 q3 q4 f17 f18 hgr;go_simp
    go_upto_if 44 with fail
    rw[HG3.out]
    go_cut [5] from 45 to 69 (fun s5 wx=>s5=.string D∧∃ sa sn sc PM2,BoxN wx g D (.slice sa sn sc)∧RowP W4.heap.size wx (.slice sa sn sc) PM2∧SaysM wx PM2 (rawE i x)∧BoxN wx w.heap.size ⟨#[]⟩ (.slice none 0 0)∧Below w.heap.size w wx)
    case first=>
     cases g3 with
     | false=>
      have e1:rawE i x=M:=by rw[HRa.out];simp
      go_wp2_with fail
      go_meet;exact ⟨rfl,_,_,_,_,HBx.out,HRow.out,by rw[e1];exact HSay.out,HX8.out,HB8.out⟩
     | true=>
      obtain ⟨q4,hq4⟩:∃ q,q=x % 4:=⟨_,rfl⟩;have hm4:(x:Int).tmod 4=(q4:Int):=by rw[Int.tmod_eq_emod_of_nonneg (by omega)];omega
      obtain ⟨TE,hTE⟩:∃ T,T=ofL (Lib.itoa (q4:Int)):=⟨_,rfl⟩;have hDe:∀ w,Calls Tryz.prog 30 #[.int .i64 (q4:Int)] w fun e w'=>e=.returned (.string TE)∧Below w.heap.size w w':=fun w=>by rw[hTE];exact digits_any (q4:Int) (by omega) (by omega) w
      have HDe:=Lib.hid hDe;have hEs:TE.size≤3:=by rw[← bytes_len,hTE,ofL_list];exact itoa_byte (by omega)
      obtain ⟨TS,hTS⟩:∃ P,(⟨#[115]⟩:ByteArray)++TE=P:=⟨_,rfl⟩;have hTSl:TS.data.toList=115 :: Lib.itoa ((x % 4:Nat):Int):=by rw[← hTS,app_list,hTE,ofL_list,hq4];rfl
      have qTS:1+TE.size≤9223372036854775807:=by omega
      have HSn:Hid (snE x=[([115,110],[TS.data.toList])]):=Lib.hid (by rw[hTSl];rfl);have hDi:∀ w,Calls Tryz.prog 30 #[.int .i64 (i:Int)] w fun e w'=>e=.returned (.string (ofL (Lib.itoa (i:Int))))∧Below w.heap.size w w':=fun w=>digits_any (i:Int) (by omega) (by omega) w
      obtain ⟨TQ,hTQ⟩:∃ T,T=ofL (Lib.itoa (i:Int)):=⟨_,rfl⟩;rw[← hTQ] at hDi;have HDi:=Lib.hid hDi;have hQs:TQ.size≤3:=by rw[← bytes_len,hTQ,ofL_list];exact itoa_byte hi
      obtain ⟨TP,hTP⟩:∃ P,(⟨#[112,119]⟩:ByteArray)++TQ=P:=⟨_,rfl⟩;have hTPl:TP.data.toList=112 :: 119 :: Lib.itoa (i:Int):=by rw[← hTP,app_list,hTQ,ofL_list];rfl
      have qTP:2+TQ.size≤9223372036854775807:=by omega
      have HPw:Hid (pwE i=[([117,115,101,114,112,97,115,115,119,111,114,100],[TP.data.toList])]):=Lib.hid (by rw[hTPl];rfl);have HZ:Hid (EnJ W4.heap.size g w.heap.size D (.slice (some ⟨c,0,none⟩) 3 3) PM M false W8):=Lib.hid ⟨HBx.out,HX8.out,fun _=>⟨HRow.out,HSay.out⟩⟩;have HJ:Hid (W4.heap.size≤W8.heap.size):=HSz8;have HLl:Hid (M.length≤100):=Lib.hid (by rw[HMl.out];simp);clear hDe hDi hEs hQs hTSl hTPl hTE hTQ hq4;have HGB:Hid (W4.heap.size≤g):=HGB0
      go_upto_region 10 with fail
      refine region_J (by kernel_rfl) W4.heap.size 9 10 (fun _ q=>FK W4.heap.size [.is (.pointer (some ⟨g,1,none⟩)),.is (.slice (some ⟨c,0,none⟩) 3 3),.is (.int .u8 (x:Int)),.is (.int .i64 (x:Int)),.is (.int .i64 (q4:Int)),.is (.string TE),.is (.string TS),.val #[.string TS] (fun b=>.slice (some ⟨b,0,none⟩) 1 1),.val #[.string TS] (fun b=>.agg #[.string ⟨#[115,110]⟩,.slice (some ⟨b,0,none⟩) 1 1]),.att [([115,110],[TS.data.toList])],.row PM (M++[([115,110],[TS.data.toList])]),.is (.pointer (some ⟨g,1,none⟩))] q) (fun _ q=>EnJ W4.heap.size g w.heap.size D (.slice (some ⟨c,0,none⟩) 3 3) PM M q) (fun _ _ _ _ _ h hb=>EnJ.go h hb) HZ.out (fun _ _ _ _ _ _ _ h hb=>FK.go h hb) HJ.out (by kernel_rfl) (by kernel_rfl) (by decide) (by rfl) ?hs10 ?hx10 ?hy10 ?hl10
      case hs10=>
       intro listed a W p q hsz hj hk i0 o ho hi hi1 hi2 hc;have e1:=hk.read (t:=1) (by kernel_rfl) rfl;have e8:=hk.read (t:=8) (by kernel_rfl) rfl
       match i0,hi,hi1,hi2 with
       | 0,_,_,_=>
        obtain rfl:=Option.some.inj ho;exact wpOp_val rfl rfl (v:=.pointer (some ⟨g,1,none⟩)) (w':=W) (by simp[go_sem,e8]) ⟨_,_,rfl,rfl,Below.refl _ _,rfl⟩
       | 1,_,_,_=>
        obtain rfl:=Option.some.inj ho;obtain ⟨v0,g0,f0⟩:=hk.got (j:=0) rfl rfl (hc ⟨0,.data⟩ (by simp) rfl);obtain rfl:v0=_:=f0;have d0:=hj.1.cells.2;exact wpOp_val rfl rfl (v:=.slice (some ⟨c,0,none⟩) 3 3) (w':=W) (by simp[go_sem,g0,d0]) ⟨_,_,rfl,rfl,Below.refl _ _,rfl⟩
       | 2,_,_,_=>
        obtain rfl:=Option.some.inj ho;exact wpOp_val rfl rfl (v:=.int .u8 (x:Int)) (w':=W) (by simp[go_sem,e1]) ⟨_,_,rfl,rfl,Below.refl _ _,rfl⟩
       | 3,_,_,_=>
        obtain rfl:=Option.some.inj ho;obtain ⟨v2,g2,f2⟩:=hk.got (j:=2) rfl rfl (hc ⟨2,.data⟩ (by simp) rfl);obtain rfl:v2=_:=f2;exact wpOp_val rfl rfl (v:=.int .i64 (x:Int)) (w':=W) (by simp[go_sem,g2,hw8]) ⟨_,_,rfl,rfl,Below.refl _ _,rfl⟩
       | 4,_,_,_=>
        obtain rfl:=Option.some.inj ho;obtain ⟨v3,g3,f3⟩:=hk.got (j:=3) rfl rfl (hc ⟨3,.data⟩ (by simp) rfl);obtain rfl:v3=_:=f3;exact wpOp_val rfl rfl (v:=.int .i64 (q4:Int)) (w':=W) (by simp[go_sem,g3,hm4]) ⟨_,_,rfl,rfl,Below.refl _ _,rfl⟩
       | 5,_,_,_=>
        obtain rfl:=Option.some.inj ho;obtain ⟨v4,g4,f4⟩:=hk.got (j:=4) rfl rfl (hc ⟨4,.data⟩ (by simp) rfl);obtain rfl:v4=_:=f4;refine wpOp_call rfl rfl (f:=30) (args:=#[.int .i64 (q4:Int)]) (by simp[go_sem,g4]) ((HDe.out W).mono ?_);rintro e w2 ⟨rfl,hb2⟩;exact ⟨_,rfl,_,_,rfl,rfl,hb2,rfl⟩
       | 6,_,_,_=>
        obtain rfl:=Option.some.inj ho;obtain ⟨v5,g5,f5⟩:=hk.got (j:=5) rfl rfl (hc ⟨5,.data⟩ (by simp) rfl);obtain rfl:v5=_:=f5;exact wpOp_val rfl rfl (v:=.string TS) (w':=W) (by simp[go_sem,g5,hTS,qTS]) ⟨_,_,rfl,rfl,Below.refl _ _,rfl⟩
       | 7,_,_,_=>
        obtain rfl:=Option.some.inj ho;obtain ⟨v6,g6,f6⟩:=hk.got (j:=6) rfl rfl (hc ⟨6,.data⟩ (by simp) rfl);obtain rfl:v6=_:=f6;exact wpOp_val rfl rfl (v:=.slice (some ⟨W.heap.size,0,none⟩) 1 1) (w':=W.alloc (.cells #[.string TS] 9)) (by simp[go_sem,g6]) ⟨_,_,rfl,rfl,((Below.refl _ _).alloc (Nat.le_refl _) _),⟨_,rfl,heap_alloc_new W _⟩⟩
       | 8,_,_,_=>
        obtain rfl:=Option.some.inj ho;obtain ⟨v7,g7,f7⟩:=hk.got (j:=7) rfl rfl (hc ⟨7,.data⟩ (by simp) rfl);obtain ⟨b,rfl,hb⟩:=f7;exact wpOp_val rfl rfl (v:=.agg #[.string ⟨#[115,110]⟩,.slice (some ⟨b,0,none⟩) 1 1]) (w':=W) (by simp[go_sem,g7]) ⟨_,_,rfl,rfl,Below.refl _ _,⟨_,rfl,hb⟩⟩
       | 11,_,_,_=>
        obtain rfl:=Option.some.inj ho;exact wpOp_val rfl rfl (v:=.pointer (some ⟨g,1,none⟩)) (w':=W) (by simp[go_sem,e8]) ⟨_,_,rfl,rfl,Below.refl _ _,rfl⟩
       | 9,_,h,_=>exact absurd rfl h
       | 10,_,_,h=>exact absurd rfl h
       | m+12,hm,_,_=>exact absurd hm (by simp)
      case hx10=>
       intro listed a W hsz hj hk o ho hc;obtain rfl:=Option.some.inj ho;obtain ⟨v8,g8,f8⟩:=hk.got (j:=8) rfl rfl (hc ⟨8,.data⟩ (by simp) rfl);obtain ⟨b,rfl,hb⟩:=f8;have hbl:=(Array.getElem?_eq_some_iff.1 hb).1;exact wpOp_val rfl rfl (v:=.slice (some ⟨W.heap.size,0,none⟩) 1 1) (w':=W.alloc (.cells #[.string ⟨#[115,110]⟩,.slice (some ⟨b,0,none⟩) 1 1] 60)) (by simp[go_sem,g8]) ⟨_,_,rfl,rfl,((Below.refl _ _).alloc (Nat.le_refl _) _).mono hsz,.inr ⟨W.heap.size,[(_,.slice (some ⟨b,0,none⟩) 1 1)],rfl,heap_alloc_new W _,saysM_one (X:=⟨#[115,110]⟩) ((heap_alloc_old W _ hbl).trans hb)⟩,EnJ.go hj ((Below.refl _ _).alloc (Nat.le_refl _) _),fun j u hj2 h=>FK.go h ((Below.refl _ _).alloc (Nat.le_refl _) _)⟩
      case hy10=>
       intro listed a W hsz hj hk o ho hc;obtain rfl:=Option.some.inj ho;obtain ⟨v1,g1,f1⟩:=hk.got (j:=1) rfl rfl (hc ⟨1,.data⟩ (by simp) rfl);obtain rfl:v1=_:=f1;obtain ⟨v9,g9,f9⟩:=hk.got (j:=9) rfl rfl (hc ⟨9,.data⟩ (by simp) rfl);obtain ⟨c,PM,rfl,hcc,hps⟩:=f9.resolve_left (by simp);obtain ⟨hr,hsay⟩:=hj.2.2 rfl;obtain ⟨v',w',hrun,hr',hs',hbel,hk1,hk2⟩:=run_append_P hr hsay hsz hps ⟨c,0,none⟩ 1 (fun j u hu=>by rw[addr0];exact list_cells hcc j u hu) (by have:=HLl.out;simp;omega) 25;exact wpOp_val rfl rfl (exec_append rfl (by simp[go_sem,g1]) (by simp[go_sem,g9]) hrun) ⟨_,_,rfl,rfl,hbel,⟨rfl,PM,hr',hs'⟩,EnJ.loud hj hk2,fun j u hj2 h=>FK.loud h hk1 hk2⟩
      case hl10=>
       intro listed a W hsz hj hk hall;obtain ⟨vr,gr,fr⟩:=hk.got (j:=10) rfl rfl (hall 10 (by simp));obtain ⟨vp,gp,fp⟩:=hk.got (j:=11) rfl rfl (hall 11 (by simp));obtain rfl:vp=_:=fp;obtain ⟨_,PN,hr,hs⟩:=fr;obtain ⟨sa,sc,hv⟩:=rowP_slice hr;obtain ⟨P3,hP3⟩:∃ X,X=PM++PN:=⟨_,rfl⟩;rw[← hP3] at hr hs hv;obtain ⟨ln,hln⟩:∃ k,k=P3.length:=⟨_,rfl⟩;rw[← hln] at hv;subst hv;obtain ⟨hb1,hb2,hr2,hs2,c1,c2⟩:=enJ_store hj hr hs HNe.out;have hput:=hk.puts;have hgrW:=hk.grown.setCell (p:=⟨g,1,none⟩) HGB.out (.slice sa ln sc);refine wpOp_skip rfl rfl (w':=W.setCell ⟨g,1,none⟩ (.slice sa ln sc)) (by simp[go_sem,gr,gp,c1,c2]) ?_;rw[hput];simp only[putT];generalize a.tmps[45]?.getD undef=x45;generalize a.tmps[46]?.getD undef=x46;generalize a.tmps[47]?.getD undef=x47;generalize a.tmps[48]?.getD undef=x48;generalize a.tmps[49]?.getD undef=x49;generalize a.tmps[50]?.getD undef=x50;generalize a.tmps[51]?.getD undef=x51;generalize a.tmps[52]?.getD undef=x52;generalize a.tmps[53]?.getD undef=x53;generalize a.tmps[54]?.getD undef=x54;generalize a.tmps[55]?.getD undef=x55;generalize a.tmps[56]?.getD undef=x56;obtain ⟨W10,hW10⟩:∃ X,X=W.setCell ⟨g,1,none⟩ (.slice sa ln sc):=⟨_,rfl⟩;rw[← hW10] at hb1 hb2 hr2 hs2 hgrW ⊢;clear hall hput gr gp hr hs c1 c2 hk hj hP3 hln hW10;have HB10:=Lib.hid (HB8.out.trans (hgrW.mono HLe.out));have HJ10:Hid (W4.heap.size≤W10.heap.size):=Lib.hid (Nat.le_trans HSz8.out hgrW.size);clear HZ HJ;have HZ:Hid (EnJ W4.heap.size g w.heap.size D (.slice sa ln sc) P3 (M++[([115,110],[TS.data.toList])]) false W10):=Lib.hid ⟨hb1,hb2,fun _=>⟨hr2,hs2⟩⟩;have HJ:=HJ10;obtain ⟨q3,hq3⟩:∃ q,q=x % 3:=⟨_,rfl⟩;have hm3:(x:Int).tmod 3=(q3:Int):=by rw[Int.tmod_eq_emod_of_nonneg (by omega)];omega
       clear hgrW hb1 hb2 hr2 hs2;go_simp
       by_cases h3:x % 3=0
       ·have t3:decide ((q3:Int)=0)=true:=by simp;omega
        have t4:((q3:Int) == 0)=true:=by simp;omega
        replace HLl:Hid ((M++[([115,110],[TS.data.toList])]).length≤100):=Lib.hid (by rw[HMl.out];simp)
        go_upto_region 12 with fail
        refine region_J (by kernel_rfl) W4.heap.size 7 8 (fun _ q=>FK W4.heap.size [.is (.pointer (some ⟨g,1,none⟩)),.is (.slice sa ln sc),.is (.int .i64 (i:Int)),.is (.string TQ),.is (.string TP),.val #[.string TP] (fun b=>.slice (some ⟨b,0,none⟩) 1 1),.val #[.string TP] (fun b=>.agg #[.string ⟨#[117,115,101,114,112,97,115,115,119,111,114,100]⟩,.slice (some ⟨b,0,none⟩) 1 1]),.att [([117,115,101,114,112,97,115,115,119,111,114,100],[TP.data.toList])],.row P3 ((M++[([115,110],[TS.data.toList])])++[([117,115,101,114,112,97,115,115,119,111,114,100],[TP.data.toList])]),.is (.pointer (some ⟨g,1,none⟩))] q) (fun _ q=>EnJ W4.heap.size g w.heap.size D (.slice sa ln sc) P3 (M++[([115,110],[TS.data.toList])]) q) (fun _ _ _ _ _ h hb=>EnJ.go h hb) HZ.out (fun _ _ _ _ _ _ _ h hb=>FK.go h hb) HJ.out (by kernel_rfl) (by kernel_rfl) (by decide) (by rfl) ?hs12 ?hx12 ?hy12 ?hl12
        case hs12=>
         intro listed a W p q hsz hj hk i0 o ho hi hi1 hi2 hc;have e0:=hk.read (t:=0) (by kernel_rfl) rfl;have e8:=hk.read (t:=8) (by kernel_rfl) rfl
         match i0,hi,hi1,hi2 with
         | 0,_,_,_=>
          obtain rfl:=Option.some.inj ho;exact wpOp_val rfl rfl (v:=.pointer (some ⟨g,1,none⟩)) (w':=W) (by simp[go_sem,e8]) ⟨_,_,rfl,rfl,Below.refl _ _,rfl⟩
         | 1,_,_,_=>
          obtain rfl:=Option.some.inj ho;obtain ⟨v0,g0,f0⟩:=hk.got (j:=0) rfl rfl (hc ⟨0,.data⟩ (by simp) rfl);obtain rfl:v0=_:=f0;have d0:=hj.1.cells.2;exact wpOp_val rfl rfl (v:=.slice sa ln sc) (w':=W) (by simp[go_sem,g0,d0]) ⟨_,_,rfl,rfl,Below.refl _ _,rfl⟩
         | 2,_,_,_=>
          obtain rfl:=Option.some.inj ho;exact wpOp_val rfl rfl (v:=.int .i64 (i:Int)) (w':=W) (by simp[go_sem,e0]) ⟨_,_,rfl,rfl,Below.refl _ _,rfl⟩
         | 3,_,_,_=>
          obtain rfl:=Option.some.inj ho;obtain ⟨v2,g2,f2⟩:=hk.got (j:=2) rfl rfl (hc ⟨2,.data⟩ (by simp) rfl);obtain rfl:v2=_:=f2;refine wpOp_call rfl rfl (f:=30) (args:=#[.int .i64 (i:Int)]) (by simp[go_sem,g2]) ((HDi.out W).mono ?_);rintro e w2 ⟨rfl,hb2⟩;exact ⟨_,rfl,_,_,rfl,rfl,hb2,rfl⟩
         | 4,_,_,_=>
          obtain rfl:=Option.some.inj ho;obtain ⟨v3,g3,f3⟩:=hk.got (j:=3) rfl rfl (hc ⟨3,.data⟩ (by simp) rfl);obtain rfl:v3=_:=f3;exact wpOp_val rfl rfl (v:=.string TP) (w':=W) (by simp[go_sem,g3,hTP,qTP]) ⟨_,_,rfl,rfl,Below.refl _ _,rfl⟩
         | 5,_,_,_=>
          obtain rfl:=Option.some.inj ho;obtain ⟨v4,g4,f4⟩:=hk.got (j:=4) rfl rfl (hc ⟨4,.data⟩ (by simp) rfl);obtain rfl:v4=_:=f4;exact wpOp_val rfl rfl (v:=.slice (some ⟨W.heap.size,0,none⟩) 1 1) (w':=W.alloc (.cells #[.string TP] 9)) (by simp[go_sem,g4]) ⟨_,_,rfl,rfl,((Below.refl _ _).alloc (Nat.le_refl _) _),⟨_,rfl,heap_alloc_new W _⟩⟩
         | 6,_,_,_=>
          obtain rfl:=Option.some.inj ho;obtain ⟨v5,g5,f5⟩:=hk.got (j:=5) rfl rfl (hc ⟨5,.data⟩ (by simp) rfl);obtain ⟨b,rfl,hb⟩:=f5;exact wpOp_val rfl rfl (v:=.agg #[.string ⟨#[117,115,101,114,112,97,115,115,119,111,114,100]⟩,.slice (some ⟨b,0,none⟩) 1 1]) (w':=W) (by simp[go_sem,g5]) ⟨_,_,rfl,rfl,Below.refl _ _,⟨_,rfl,hb⟩⟩
         | 9,_,_,_=>
          obtain rfl:=Option.some.inj ho;exact wpOp_val rfl rfl (v:=.pointer (some ⟨g,1,none⟩)) (w':=W) (by simp[go_sem,e8]) ⟨_,_,rfl,rfl,Below.refl _ _,rfl⟩
         | 7,_,h,_=>exact absurd rfl h
         | 8,_,_,h=>exact absurd rfl h
         | m+10,hm,_,_=>exact absurd hm (by simp)
        case hx12=>
         intro listed a W hsz hj hk o ho hc;obtain rfl:=Option.some.inj ho;obtain ⟨v6,g6,f6⟩:=hk.got (j:=6) rfl rfl (hc ⟨6,.data⟩ (by simp) rfl);obtain ⟨b,rfl,hb⟩:=f6;have hbl:=(Array.getElem?_eq_some_iff.1 hb).1;exact wpOp_val rfl rfl (v:=.slice (some ⟨W.heap.size,0,none⟩) 1 1) (w':=W.alloc (.cells #[.string ⟨#[117,115,101,114,112,97,115,115,119,111,114,100]⟩,.slice (some ⟨b,0,none⟩) 1 1] 60)) (by simp[go_sem,g6]) ⟨_,_,rfl,rfl,((Below.refl _ _).alloc (Nat.le_refl _) _).mono hsz,.inr ⟨W.heap.size,[(_,.slice (some ⟨b,0,none⟩) 1 1)],rfl,heap_alloc_new W _,saysM_one (X:=⟨#[117,115,101,114,112,97,115,115,119,111,114,100]⟩) ((heap_alloc_old W _ hbl).trans hb)⟩,EnJ.go hj ((Below.refl _ _).alloc (Nat.le_refl _) _),fun j u hj2 h=>FK.go h ((Below.refl _ _).alloc (Nat.le_refl _) _)⟩
        case hy12=>
         intro listed a W hsz hj hk o ho hc;obtain rfl:=Option.some.inj ho;obtain ⟨v1,g1,f1⟩:=hk.got (j:=1) rfl rfl (hc ⟨1,.data⟩ (by simp) rfl);obtain rfl:v1=_:=f1;obtain ⟨v7,g7,f7⟩:=hk.got (j:=7) rfl rfl (hc ⟨7,.data⟩ (by simp) rfl);obtain ⟨c,PM,rfl,hcc,hps⟩:=f7.resolve_left (by simp);obtain ⟨hr,hsay⟩:=hj.2.2 rfl;obtain ⟨v',w',hrun,hr',hs',hbel,hk1,hk2⟩:=run_append_P hr hsay hsz hps ⟨c,0,none⟩ 1 (fun j u hu=>by rw[addr0];exact list_cells hcc j u hu) (by have:=HLl.out;simp;omega) 25;exact wpOp_val rfl rfl (exec_append rfl (by simp[go_sem,g1]) (by simp[go_sem,g7]) hrun) ⟨_,_,rfl,rfl,hbel,⟨rfl,PM,hr',hs'⟩,EnJ.loud hj hk2,fun j u hj2 h=>FK.loud h hk1 hk2⟩
        case hl12=>
         intro listed a W hsz hj hk hall;obtain ⟨vr,gr,fr⟩:=hk.got (j:=8) rfl rfl (hall 8 (by simp));obtain ⟨vp,gp,fp⟩:=hk.got (j:=9) rfl rfl (hall 9 (by simp));obtain rfl:vp=_:=fp;obtain ⟨_,PN,hr,hs⟩:=fr;obtain ⟨sa,sc,hv⟩:=rowP_slice hr;obtain ⟨P3,hP3⟩:∃ X,X=P3++PN:=⟨_,rfl⟩;rw[← hP3] at hr hs hv;obtain ⟨ln,hln⟩:∃ k,k=P3.length:=⟨_,rfl⟩;rw[← hln] at hv;subst hv;obtain ⟨hb1,hb2,hr2,hs2,c1,c2⟩:=enJ_store hj hr hs HNe.out;have hput:=hk.puts;have hgrW:=hk.grown.setCell (p:=⟨g,1,none⟩) HGB.out (.slice sa ln sc);refine wpOp_skip rfl rfl (w':=W.setCell ⟨g,1,none⟩ (.slice sa ln sc)) (by simp[go_sem,gr,gp,c1,c2]) ?_;rw[hput];simp only[putT];generalize a.tmps[60]?.getD undef=x60;generalize a.tmps[61]?.getD undef=x61;generalize a.tmps[62]?.getD undef=x62;generalize a.tmps[63]?.getD undef=x63;generalize a.tmps[64]?.getD undef=x64;generalize a.tmps[65]?.getD undef=x65;generalize a.tmps[66]?.getD undef=x66;generalize a.tmps[67]?.getD undef=x67;generalize a.tmps[68]?.getD undef=x68;generalize a.tmps[69]?.getD undef=x69;obtain ⟨W12,hW12⟩:∃ X,X=W.setCell ⟨g,1,none⟩ (.slice sa ln sc):=⟨_,rfl⟩;rw[← hW12] at hb1 hb2 hr2 hs2 hgrW ⊢;clear hall hput gr gp hr hs c1 c2 hk hj hP3 hln hW12;have HB12:=(HB10.out.trans (hgrW.mono HLe.out));go_simp
         go_wp2_with fail
         go_meet;exact ⟨rfl,_,_,_,_,hb1,hr2,by rw[HRa.out,if_pos trivial,if_pos h3,HSn.out,HPw.out];rw[List.append_assoc] at hs2;exact hs2,hb2,HB12⟩
       ·have t3:decide ((q3:Int)=0)=false:=by simp;omega
        have t4:((q3:Int) == 0)=false:=by simp;omega
        go_wp2_with fail
        go_meet;exact ⟨rfl,_,_,_,_,HZ.out.1,(HZ.out.2.2 rfl).1,by rw[HRa.out,if_pos trivial,if_neg h3,HSn.out,List.append_nil];exact (HZ.out.2.2 rfl).2,HZ.out.2.1,HB10.out⟩
    case rest=>
     obtain ⟨rfl,sa,sn,sc,PM2,hbx2,hrow2,hsay2,hx2,hb2⟩:=hcut;have hisA:=ownM_isA ⟨PM2,hrow2,hsay2⟩ (by have:=raw_len i x;unfold maxLen;omega);obtain ⟨z0,z1⟩:=hbx2.cells;have HA2:=Lib.hid hisA;have HX2:=Lib.hid hx2;have HB2:=Lib.hid hb2;have HNr:=Lib.hid (normRef_own D hDs (rawE i x) (raw_small i x hi hx) (.slice sa sn sc));obtain ⟨TN,hTN⟩:∃ T:ByteArray,strV (nameN D.data.toList)=.string T:=⟨_,rfl⟩;have HTN:=Lib.hid hTN;rw[hTN] at HNr;clear hisA hrow2 hsay2 hbx2 hx2 hb2 hTN
     go_wp2_with (go_at_call 31;refine (HNr.out _ HA2.out).mono ?_;rintro e w9 ⟨v9,rfl,hA9,hb9⟩;(obtain ⟨P9,hr9,hs9⟩:=id hA9);(obtain ⟨va,vc,hve⟩:=rowP_slice hr9);subst hve;have HX9:=Lib.hid (HX2.out.below hb9 (Array.getElem?_eq_some_iff.1 HX2.out).1);have y0:=HX9.out.cells.1;have y1:=HX9.out.cells.2;have y2:=HX9.out.free 0;have y3:=HX9.out.free 1;have HA9:=Lib.hid hA9;have HB9:=Lib.hid (bthen HB2.out hb9);clear hA9 hb9 hr9 hs9)
     have hbx9:=boxN_store1 (v:=.slice va P9.length vc) (boxN_store0 (y:=TN) HX9.out);obtain ⟨p0,p1⟩:=hbx9.cells;have hlt2:=(Array.getElem?_eq_some_iff.1 HX2.out).1;have ho:=ownM_entry (i:=1) (x:=.slice va P9.length vc) (ownM_entry (i:=0) (x:=.string TN) HA9.out HX9.out (by omega)) (boxN_store0 HX9.out) (by omega);refine bodyPost_ret (v:=.agg #[.string TN,.slice va P9.length vc]) (by simp[results,Tryz.results8,go_sem,p0,p1]) rfl ⟨TN,_,rfl,?_,?_,(HB9.out.setCell (p:=⟨w.heap.size,0,none⟩) (Nat.le_refl _) _).setCell (p:=⟨w.heap.size,1,none⟩) (Nat.le_refl _) _⟩
     ·have e1:=HTN.out;unfold strV at e1;injection e1 with e1;rw[← e1,hDl,HK.out];rfl
     ·refine ownM_isA ho ?_;have:=raw_len i x
      show (sortA (normL (rawE i x))).length≤maxLen
      rw[sortA_len2];unfold normL maxLen;rw[List.length_map];omega
theorem raceDisable (w:World):(callFunc 190 #[]).run Tryz.prog w=.ok (.value (.tuple #[])) w:=run_call_mark0 Tryz.func190 (by kernel_rfl) (by kernel_rfl) (by kernel_rfl) .disable (by kernel_rfl) w
theorem raceEnable (w:World):(callFunc 192 #[]).run Tryz.prog w=.ok (.value (.tuple #[])) w:=run_call_mark0 Tryz.func192 (by kernel_rfl) (by kernel_rfl) (by kernel_rfl) .enable (by kernel_rfl) w
theorem raceAcquire (a:Addr) (w:World):(callFunc 193 #[.pointer (some a)]).run Tryz.prog w=.ok (.value (.tuple #[])) w:=run_call_marked Tryz.func193 (by kernel_rfl) (by kernel_rfl) (by kernel_rfl) .acquire (by kernel_rfl) a w
theorem raceRelease (a:Addr) (w:World):(callFunc 195 #[.pointer (some a)]).run Tryz.prog w=.ok (.value (.tuple #[])) w:=run_call_marked Tryz.func195 (by kernel_rfl) (by kernel_rfl) (by kernel_rfl) .releaseMerge (by kernel_rfl) a w
theorem storeTrue (a:Addr) (x:Value) (u:FrameMode) (w:World) (hc:w.cell? a=some x) (hz:w.frozen? a=false) :
  CallsD Tryz.prog 144 #[.pointer (some a),.bool true] u w fun e u' w'=>u'=u∧(e=.returned (.tuple #[])∧w'=w.drew.setCell a (.int .u32 1)):=by
 have hc':w.drew.cell? a=some x:=by go_simp
 have hz':w.drew.frozen? a=false:=by go_simp
 have hst:=run_call_store (P:=Tryz.prog) Tryz.func169 (by kernel_rfl) (by kernel_rfl) (by kernel_rfl) (by kernel_rfl) (k:=.u32) (y:=1) hc' hz'
 go_enter_d Tryz.func144,Tryz.ntmps144
 go_wp2
 go_region_calls
 all_goals (go_end0;exact ⟨rfl,rfl⟩)
set_option maxRecDepth 100000 in
set_option maxHeartbeats 1600000 in
theorem unlockHeld (a:Addr) (u:FrameMode) (w:World) (hc:w.cell? a=some (.int .i32 1)) (hz:w.frozen? a=false) :
  CallsD Tryz.prog 143 #[.pointer (some a)] u w fun e u' w'=>u'=u∧(e=.returned (.tuple #[])∧w'=w.setCell a (.int .i32 0)):=by
 have hd:=raceDisable;have he:=raceEnable;have hr:=raceRelease;have hadd:=run_call_add (P:=Tryz.prog) Tryz.func196 (by kernel_rfl) (by kernel_rfl) (by kernel_rfl) .i32 (by kernel_rfl) (y:=-1) (s:=0) hc hz (by simp[go_sem];rfl);have hcv:=run_convert_to_unsafe (P:=Tryz.prog) (src:=231) (dst:=195) Tryz.underlying231 Tryz.underlying195 (by kernel_rfl) hc
 go_enter_d Tryz.func143,Tryz.ntmps143
 go_wp2
 go_end0
 go_wp2
 go_end0
 exact ⟨rfl,rfl⟩
set_option maxRecDepth 100000 in
set_option maxHeartbeats 1600000 in
theorem lockFree (a:Addr) (w:World) (hc:w.cell? a=some (.int .i32 0)) (hz:w.frozen? a=false) :
  Calls Tryz.prog 142 #[.pointer (some a)] w fun e w'=>e=.returned (.tuple #[])∧w'=w.setCell a (.int .i32 1):=by
 have hd:=raceDisable;have he:=raceEnable;have ha:=raceAcquire;have hcas:=run_call_cas_hit (P:=Tryz.prog) Tryz.func191 (by kernel_rfl) (by kernel_rfl) (by kernel_rfl) .i32 (by kernel_rfl) (y:=1) hc hz;have hc':(w.setCell a (.int .i32 1)).cell? a=some (.int .i32 1):=World.cell?_setCell_same w a _ hc;have hcv:=run_convert_to_unsafe (P:=Tryz.prog) (src:=231) (dst:=195) Tryz.underlying231 Tryz.underlying195 (by kernel_rfl) hc';go_enter Tryz.func142,Tryz.ntmps142
 go_wp2
 first | go_end0 | (simp only[Exit.inBlock,Exit.then];refine bodyPost_ret (results_none rfl _ _ _) rfl ?_) | refine bodyPost_ret (results_none rfl _ _ _) rfl ?_
 go_wp2
 go_end0
 exact ⟨rfl,rfl⟩
def BoxX (w:World) (b:Nat) (lv:Value) (d s:Int) (kv mv:Value):Prop:=w.heap[b]?=some (.cells #[lv,.int .u32 d,.int .i32 s,.int .u32 0,kv,mv] 83 (0,0))
theorem BoxX.lt {w:World} {b:Nat} {lv kv mv:Value} {d s:Int} (h:BoxX w b lv d s kv mv):b<w.heap.size:=(Array.getElem?_eq_some_iff.1 h).1
theorem BoxX.cells {w:World} {b:Nat} {lv kv mv:Value} {d s:Int} (h:BoxX w b lv d s kv mv):w.cell? ⟨b,0,none⟩=some lv∧w.cell? ⟨b,1,none⟩=some (.int .u32 d)∧w.cell? ⟨b,2,none⟩=some (.int .i32 s)∧w.cell? ⟨b,4,none⟩=some kv∧w.cell? ⟨b,5,none⟩=some mv:=by
 unfold BoxX at h;simp[World.cell?,h]
theorem BoxX.free {w:World} {b:Nat} {lv kv mv:Value} {d s:Int} (h:BoxX w b lv d s kv mv) (i:Nat):w.frozen? ⟨b,i,none⟩=false:=by
 unfold BoxX at h;simp[World.frozen?,h]
theorem BoxX.same {w w':World} {b:Nat} {lv kv mv:Value} {d s:Int} (h:BoxX w b lv d s kv mv) (hb:w'.heap[b]?=w.heap[b]?):BoxX w' b lv d s kv mv:=hb.trans h
theorem BoxX.below {w w':World} {b:Nat} {lv kv mv:Value} {d s:Int} (h:BoxX w b lv d s kv mv) (hb:Below w.heap.size w w'):BoxX w' b lv d s kv mv:=h.same (hb.block _ h.lt)
theorem BoxX.drew {w:World} {b:Nat} {lv kv mv:Value} {d s:Int} (h:BoxX w b lv d s kv mv):BoxX w.drew b lv d s kv mv:=h
theorem BoxX.set1 {w:World} {b:Nat} {lv kv mv:Value} {d s x:Int} (h:BoxX w b lv d s kv mv):BoxX (w.setCell ⟨b,1,none⟩ (.int .u32 x)) b lv x s kv mv:=by
 unfold BoxX at h ⊢;simp[World.setCell,Array.getElem?_modify,h]
theorem BoxX.set2 {w:World} {b:Nat} {lv kv mv:Value} {d s x:Int} (h:BoxX w b lv d s kv mv):BoxX (w.setCell ⟨b,2,none⟩ (.int .i32 x)) b lv d x kv mv:=by
 unfold BoxX at h ⊢;simp[World.setCell,Array.getElem?_modify,h]
theorem BoxX.set4 {w:World} {b:Nat} {lv kv mv x:Value} {d s:Int} (h:BoxX w b lv d s kv mv):BoxX (w.setCell ⟨b,4,none⟩ x) b lv d s x mv:=by
 unfold BoxX at h ⊢;simp[World.setCell,Array.getElem?_modify,h]
theorem BoxX.set5 {w:World} {b:Nat} {lv kv mv x:Value} {d s:Int} (h:BoxX w b lv d s kv mv):BoxX (w.setCell ⟨b,5,none⟩ x) b lv d s kv x:=by
 unfold BoxX at h ⊢;simp[World.setCell,Array.getElem?_modify,h]
theorem grown_set {w:World} {b i:Nat} (x:Value):w.grownBy (w.setCell ⟨b,i,none⟩ x) (some b):=
 ⟨rfl,rfl,rfl,by simp[World.setCell],fun k _ hk=>Below.heap_setCell _ _ _ _ (fun e=>hk (by rw[e]))⟩
theorem grown_drew {w w':World} {r:Option Nat} (h:w.grownBy w' r):w.grownBy w'.drew r:=⟨h.os,h.tape,h.output,h.size,h.block⟩
theorem grown_below {w w':World} {r:Option Nat} (h:Below w.heap.size w w'):w.grownBy w' r:=⟨h.os,h.tape,h.output,h.size,fun k hk _=>h.block k hk⟩
theorem below_ofGrown {w w':World} {b:Nat} (h:w.grownBy w' (some b)) (hb:b≤w.heap.size):Below b w w':=⟨h.os,h.tape,h.output,h.size,fun k hk=>h.block k (by omega) (fun e=>by have:=Option.some.inj e;omega)⟩
set_option maxRecDepth 100000 in
set_option maxHeartbeats 1600000 in
theorem slowX_any (b:Nat) (lv:Value) (Q:World→Value→Value→Prop) (w:World) (hbx:BoxX w b lv 0 0 (.slice none 0 0) (.map none))
  (hf:∀ w1,BoxX w1 b lv 0 1 (.slice none 0 0) (.map none)→w.grownBy w1 (some b)→w1.heap.size=w.heap.size→Calls Tryz.prog 65 #[.pointer (some ⟨b,0,none⟩)] w1 fun e w'=>e=.returned (.tuple #[])∧∃ kv mv,BoxX w' b lv 0 1 kv mv∧Q w' kv mv∧w1.grownBy w' (some b)) :
  Calls Tryz.prog 107 #[.pointer (some ⟨b,1,none⟩),.func (.func 65) #[.pointer (some ⟨b,0,none⟩)] #[]] w fun e w'=>e=.returned (.tuple #[]) ∧
   ∃ w3 kv mv,w'=((w3.drew.setCell ⟨b,1,none⟩ (.int .u32 1)).setCell ⟨b,2,none⟩ (.int .i32 0))∧BoxX w3 b lv 0 1 kv mv∧Q w3 kv mv∧w.grownBy w3 (some b):=by
 obtain ⟨c0,c1,c2,c4,c5⟩:=hbx.cells;have hb1:BoxX (w.setCell ⟨b,2,none⟩ (.int .i32 1)) b lv 0 1 (.slice none 0 0) (.map none):=hbx.set2;have hl:=run_call_load (P:=Tryz.prog) Tryz.func141 (by kernel_rfl) (by kernel_rfl) (by kernel_rfl) .u32 (by kernel_rfl) (w:=w.setCell ⟨b,2,none⟩ (.int .i32 1)) (a:=⟨b,1,none⟩) (x:=0) hb1.cells.2.1;have HF:=Lib.hid (hf _ hb1 (grown_set _) (by simp[World.setCell]));have hz1:=hbx.free 1;have hz2:=hbx.free 2;have HG1:=Lib.hid (grown_set (w:=w) (b:=b) (i:=2) (.int .i32 1));clear hf hb1 c0 c1 c4 c5;have hnot:∀ (x:Bool) (w:World),(Op.unary .not (.bool x)).run Tryz.prog w=.ok (.bool (!x)) w:=fun _ _=>rfl
 go_enter_defers Tryz.func107,Tryz.ntmps107
 go_wp2_with (first
  | (go_at_call 142;refine (lockFree ⟨b,2,none⟩ _ c2 hz2).mono ?_;rintro e w' ⟨rfl,rfl⟩)
  | (go_at_call 65;refine (HF.out).mono ?_;rintro e w3 ⟨rfl,kv,mv,hbx3,hq3,hg3⟩)
  | (go_at_call 106;go_in))
 refine leaves_cons (f:=144) (args:=#[.pointer (some ⟨b,1,none⟩),.bool true]) (by simp) (by simp[go_sem]) ?_;refine (storeTrue ⟨b,1,none⟩ (.int .u32 0) .returning _ hbx3.cells.2.1 (hbx3.free 1)).mono ?_;rintro e u' w'' ⟨rfl,rfl,rfl⟩;refine leaves_cons (f:=143) (args:=#[.pointer (some ⟨b,2,none⟩)]) (by simp[settle]) (by simp[go_sem]) ?_;refine (unlockHeld ⟨b,2,none⟩ _ _ hbx3.drew.set1.cells.2.2.1 (hbx3.drew.set1.free 2)).mono ?_;rintro e u' w'' ⟨rfl,rfl,rfl⟩;have HE:Hid (∃ w4 kv mv,((w3.drew.setCell ⟨b,1,none⟩ (.int .u32 1)).setCell ⟨b,2,none⟩ (.int .i32 0))=((w4.drew.setCell ⟨b,1,none⟩ (.int .u32 1)).setCell ⟨b,2,none⟩ (.int .i32 0))∧BoxX w4 b lv 0 1 kv mv∧Q w4 kv mv∧w.grownBy w4 (some b)):=Lib.hid ⟨w3,kv,mv,rfl,hbx3,hq3,HG1.out.trans hg3⟩;simp only[Leaves,settle,results,Tryz.results107]
 first | exact ⟨rfl,HE.out⟩ | simpa using HE.out
set_option maxRecDepth 100000 in
set_option maxHeartbeats 1600000 in
theorem doX_first (b:Nat) (lv:Value) (Q:World→Value→Value→Prop) (w:World) (hbx:BoxX w b lv 0 0 (.slice none 0 0) (.map none))
  (hf:∀ w1,BoxX w1 b lv 0 1 (.slice none 0 0) (.map none)→w.grownBy w1 (some b)→w1.heap.size=w.heap.size→Calls Tryz.prog 65 #[.pointer (some ⟨b,0,none⟩)] w1 fun e w'=>e=.returned (.tuple #[])∧∃ kv mv,BoxX w' b lv 0 1 kv mv∧Q w' kv mv∧w1.grownBy w' (some b)) :
  Calls Tryz.prog 64 #[.pointer (some ⟨b,1,none⟩),.func (.func 65) #[.pointer (some ⟨b,0,none⟩)] #[]] w fun e w'=>e=.returned (.tuple #[]) ∧
   ∃ w3 kv mv,w'=((w3.drew.setCell ⟨b,1,none⟩ (.int .u32 1)).setCell ⟨b,2,none⟩ (.int .i32 0))∧BoxX w3 b lv 0 1 kv mv∧Q w3 kv mv∧w.grownBy w3 (some b):=by
 have hl:=run_call_load (P:=Tryz.prog) Tryz.func141 (by kernel_rfl) (by kernel_rfl) (by kernel_rfl) .u32 (by kernel_rfl) hbx.cells.2.1;have HS:=Lib.hid (slowX_any b lv Q w hbx hf);clear hf hbx;have hnot:∀ (x:Bool) (w:World),(Op.unary .not (.bool x)).run Tryz.prog w=.ok (.bool (!x)) w:=fun _ _=>rfl
 go_enter Tryz.func64,Tryz.ntmps64
 go_wp2_with (first | (go_at_call 107;refine (HS.out).mono ?_;rintro e w2 ⟨rfl,h2⟩;have H2:=Lib.hid h2;clear h2) | (go_at_call 106;go_in))
 go_end0
 exact ⟨rfl,H2.out⟩
theorem doX_done (a:Addr) (fv:Value) (w:World) (h0:w.cell? a=some (.int .u32 1)) :
  Calls Tryz.prog 64 #[.pointer (some a),fv] w fun e w'=>e=.returned (.tuple #[])∧w'=w:=by
 have hl:=run_call_load (P:=Tryz.prog) Tryz.func141 (by kernel_rfl) (by kernel_rfl) (by kernel_rfl) .u32 (by kernel_rfl) h0;have hnot:∀ (x:Bool) (w:World),(Op.unary .not (.bool x)).run Tryz.prog w=.ok (.bool (!x)) w:=fun _ _=>rfl
 go_enter Tryz.func64,Tryz.ntmps64
 go_wp2
 go_end0
 exact ⟨rfl,rfl⟩
end Go.Proofs.YtgaaefcanfglhaaGreatDoor
