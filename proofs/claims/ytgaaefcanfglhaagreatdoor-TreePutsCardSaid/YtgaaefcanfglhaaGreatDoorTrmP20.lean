/- Several texts in one file: TrPutsW. -/
import Derived.Test.YtgaaefcanfglhaaGreatDoorTrmP19
namespace Go.Proofs.YtgaaefcanfglhaaGreatDoor
open Go.RowKit
set_option linter.unusedVariables false
set_option linter.unusedSimpArgs false
set_option maxRecDepth 100000 in
set_option maxHeartbeats 8000000 in
theorem treePuts_any (ns:List UInt8) (b0:Option Addr) (c0:Nat) (i x:Nat) (hi:i<256) (hx:x<256) (w:World) (hw:LaidW w) (hlf:LaidF w) (h:IsB w.heap.size w ns b0 c0) :
  Calls Tryz.prog 4 #[.slice b0 ns.length c0,.int .u8 i,.int .u8 x] w fun e w'=>e=.returned (.bool true)∧Below w.heap.size w w':=by
 obtain ⟨A,B,hd⟩:=puts_dat ns i x;obtain ⟨n,hn⟩:∃ n,n=ns.length:=⟨_,rfl⟩;have HMk:=Lib.hid (tree8_any ns b0 c0 w h);rw[← hn] at HMk ⊢;obtain ⟨L,hL⟩:∃ L,L=mkT (ns.take 40):=⟨_,rfl⟩;rw[← hL] at HMk hd;obtain ⟨E,hE⟩:∃ E,E=entE i x:=⟨_,rfl⟩;obtain ⟨k,hk⟩:∃ k,k=kE E:=⟨_,rfl⟩;have hkne:k≠[]:=by rw[hk,hE];exact ent_keyne i x
 have hcut:CutE L A B (kE E):=by rw[hE];exact hd.cut
 obtain ⟨M,hM⟩:∃ M,M=A++E :: B:=⟨_,rfl⟩;obtain ⟨DL,hDL⟩:∃ M,M=A++B:=⟨_,rfl⟩;have hAB:=hd.lenAB;have hlM:M.length=A.length+B.length+1:=by rw[hM];simp;omega
 have hlD:DL.length=A.length+B.length:=by rw[hDL];simp
 have fL:=ents_fine hd.ents (by have:=hd.len;omega);have eM:Ents M:=by rw[hM,hE];exact hd.entsM hi hx
 have fM:=ents_fine eM (by omega);have fD:=ents_fine (L:=DL) (by rw[hDL];exact hd.entsAB) (by omega);have eL:=hd.ents;have lL:=hd.len;obtain ⟨F,hF⟩:∃ F,F=findK (keysE L) k:=⟨_,rfl⟩;have hwant:L.length=A.length+B.length+(if F<0 then 0 else 1):=by rw[hF,hk];exact hcut.len (by rw[← hk];exact hkne)
 have hp1:putE L E=M:=by rw[hM];exact hcut.putE (by rw[← hk];exact hkne)
 have hcm:CutE M A B (kE E):=by rw[hM];exact hcut.put
 have hp2:putE M E=M:=by rw[hcm.putE (by rw[← hk];exact hkne),hM]
 have hf1:findK (keysE M) k=A.length:=by
  rw[hk];rcases hcm.find (by rw[← hk];exact hkne) with ⟨h1,_⟩ | ⟨_,h2,_⟩
  ·have:=congrArg List.length h1;rw[hlM,List.length_append] at this;omega
  ·exact h2
 have hdl:delE M k=DL:=by rw[hk,hcm.delE (by rw[← hk];exact hkne),hDL]
 have hf2:findK (keysE DL) k = -1:=by
  have hcd:CutE DL A B (kE E):=by rw[hDL];exact hcut.del
  rw[hk];rcases hcd.find (by rw[← hk];exact hkne) with ⟨_,h2,_⟩ | ⟨⟨y,_,h1⟩,_⟩
  ·exact h2
  ·have:=congrArg List.length h1;rw[hlD,List.length_append,List.length_cons] at this;omega
 have hMa:∃ hj:A.length<M.length,M[A.length]=E:=⟨by omega,by simp[hM]⟩;obtain ⟨na,hna⟩:∃ n,n=A.length:=⟨_,rfl⟩;rw[← hna] at hf1 hMa hlM hlD hwant;obtain ⟨lm,hlm⟩:∃ n,n=M.length:=⟨_,rfl⟩;obtain ⟨ld,hld⟩:∃ n,n=DL.length:=⟨_,rfl⟩;obtain ⟨ll,hll⟩:∃ n,n=L.length:=⟨_,rfl⟩;rw[← hlm] at hlM;rw[← hld] at hlD;rw[← hll] at hwant;have hEq:∀ D:ByteArray,D.data.toList=(entE i x).1→D.size≤100000:=fun D hD=>by rw[← bytes_len,hD];exact (ent_small i x hi hx).1
 have HEn:=Lib.hid (fun (W:World)=>entry8_any i x hi hx W);have HKy:=Lib.hid (fun (D:ByteArray) (hD:D.data.toList=(entE i x).1) (ua:Option Addr) (un uc:Nat) (W:World)=>treeKey_any D (hEq D hD) ua un uc W);have hKl:∀ D:ByteArray,D.data.toList=(entE i x).1→(keyB (keyD D.data.toList)).data.toList=k:=fun D hD=>by rw[keyB_list,hD,hk,hE];rfl
 have hKs:∀ D:ByteArray,D.data.toList=(entE i x).1→(keyB (keyD D.data.toList)).size≤100000:=fun D hD=>by
  have:=keyB_size D.data.toList;rw[bytes_len] at this;have:=hEq D hD;omega
 have HKl:=Lib.hid hKl;have HKs:=Lib.hid hKs;have HP1:=Lib.hid (fun (v:Value) (hc:capV v) (D:ByteArray) (hD:D.data.toList=(entE i x).1) (u:Value) (W:World) (h:IsE W.heap.size W L v) (hu:IsA W.heap.size W (entE i x).2 u)=>show Calls Tryz.prog 18 #[v,.agg #[.string D,u]] W (fun e w'=>∃ v',e=.returned v'∧IsE w'.heap.size w' M v'∧capV v'∧Below W.heap.size W w') from by have:=putTree_any eL (by omega) hi hx v hc D hD u W h hu;rw[← hE,hp1] at this;exact this);have HP2:=Lib.hid (fun (v:Value) (hc:capV v) (D:ByteArray) (hD:D.data.toList=(entE i x).1) (u:Value) (W:World) (h:IsE W.heap.size W M v) (hu:IsA W.heap.size W (entE i x).2 u)=>show Calls Tryz.prog 18 #[v,.agg #[.string D,u]] W (fun e w'=>∃ v',e=.returned v'∧IsE w'.heap.size w' M v'∧capV v'∧Below W.heap.size W w') from by have:=putTree_any eM (by omega) hi hx v hc D hD u W h hu;rw[← hE,hp2] at this;exact this);have HFi:=Lib.hid (fun (v:Value) (K:ByteArray) (hl:K.data.toList=k) (hs:K.size≤100000) (W:World) (h:IsE W.heap.size W M v)=>treeFind_any M fM.1 v K hs W h);have HF1:=Lib.hid (fun (v:Value) (K:ByteArray) (hl:K.data.toList=k) (hs:K.size≤100000) (W:World) (h:IsE W.heap.size W M v)=>show Calls Tryz.prog 12 #[v,.string K] W (fun e w'=>e=.returned (.int .i64 (na:Int))∧Below W.heap.size W w') from by have:=treeFind_any M fM.1 v K hs W h;rw[hl,hf1] at this;exact this);have HF2:=Lib.hid (fun (v:Value) (K:ByteArray) (hl:K.data.toList=k) (hs:K.size≤100000) (W:World) (h:IsE W.heap.size W L v)=>show Calls Tryz.prog 12 #[v,.string K] W (fun e w'=>e=.returned (.int .i64 F)∧Below W.heap.size W w') from by have:=treeFind_any L fL.1 v K hs W h;rw[hl,← hF] at this;exact this);have HF3:=Lib.hid (fun (v:Value) (K:ByteArray) (hl:K.data.toList=k) (hs:K.size≤100000) (W:World) (h:IsE W.heap.size W DL v)=>show Calls Tryz.prog 12 #[v,.string K] W (fun e w'=>e=.returned (.int .i64 (-1))∧Below W.heap.size W w') from by have:=treeFind_any DL fD.1 v K hs W h;rw[hl,hf2] at this;exact this);have HDe:=Lib.hid (fun (v:Value) (hc:capV v) (K:ByteArray) (hl:K.data.toList=k) (hs:K.size≤100000) (W:World) (h:IsE W.heap.size W M v)=>show Calls Tryz.prog 20 #[v,.string K] W (fun e w'=>∃ v',e=.returned v'∧IsE w'.heap.size w' DL v'∧capV v'∧Below W.heap.size W w') from by have:=treeDel_any M fM.1 v (capV_w hc) K hs W h;rw[hl,hdl] at this;exact this);have HSe:=Lib.hid (fun (X D:ByteArray) (hX:X.data.toList=(entE i x).1) (hD:D.data.toList=(entE i x).1) (v u:Value) (W:World) (hv:IsA W.heap.size W (entE i x).2 v) (hu:IsA W.heap.size W (entE i x).2 u)=>sameEnt_any hi hx X D hX hD v u W hv hu);have HSm:=Lib.hid (fun (v u:Value) (W:World) (hv:IsE W.heap.size W M v) (hu:IsE W.heap.size W M u)=>show Calls Tryz.prog 17 #[v,u] W (fun e w'=>e=.returned (.bool true)∧Below W.heap.size W w') from by have:=sameR7_any M M fM.1 v u W hv hu;rw[show (M == M)=true from by simp] at this;exact this);have HLd:=Lib.hid (fun (W:World) (h:Below w.heap.size w W)=>awake8_any W (hw.below h) (hlf.below h))
 have HCl:=Lib.hid (fun (W:World) (v:Value) (h:IsE W.heap.size W M v)=>show ∃ b off c X ua un uc,v=.slice (some ⟨b,off,none⟩) lm c∧W.cell? ⟨b,off+na * 2,none⟩=some (.string X)∧W.cell? ⟨b,off+na * 2+1,none⟩=some (.slice ua un uc)∧X.data.toList=(entE i x).1∧IsA W.heap.size W (entE i x).2 (.slice ua un uc)∧b<W.heap.size from by
  obtain ⟨hj,hm⟩:=hMa;obtain ⟨b,off,c,X,ua,un,uc,e1,e2,e3,e4,e5,e6⟩:=isE_cell h na hj;rw[hm,hE] at e4 e5
  exact ⟨b,off,c,X,ua,un,uc,by rw[hlm];exact e1,e2,e3,e4,e5,e6⟩)
 have HSlL:=Lib.hid (fun (W:World) (v:Value) (h:IsE W.heap.size W L v)=>show ∃ a c,v=.slice a ll c from by rw[hll];exact IsE.sl h);have HSlD:=Lib.hid (fun (W:World) (v:Value) (h:IsE W.heap.size W DL v)=>show ∃ a c,v=.slice a ld c from by rw[hld];exact IsE.sl h);have HSlM:=Lib.hid (fun (W:World) (v:Value) (h:IsE W.heap.size W M v)=>show ∃ a c,v=.slice a lm c from by rw[hlm];exact IsE.sl h);have hw8:IntKind.i64.wrap (i:Int)=(i:Int):=IntWalk.i64_in _ (by omega);have n0:(0:Int)≤(na:Int):=by omega
 have n1:(na:Int)<(lm:Int):=by omega
 have n2:decide ((na:Int)<(0:Int))=false:=by simp
 have n3:decide ((lm:Int)≤(na:Int))=false:=by simp;omega
 have n4:decide (lm≤na)=false:=by simp;omega
 have n5:na<lm:=by omega
 have R1:Hid (lm=ld+1):=Lib.hid (by omega)
 have HUp:=Lib.hid (fun (ua:Option Addr) (un uc:Nat) (W:World)=>show Calls Tryz.prog 9 #[.agg #[.string ⟨#[79,61,88]⟩,.slice ua un uc]] W (fun e w'=>e=.returned (.string ⟨#[111,61,120]⟩)∧Below W.heap.size W w') from by
  have h1:=treeKey_any ⟨#[79,61,88]⟩ (by decide) ua un uc W;rw[show keyB (keyD (⟨#[79,61,88]⟩:ByteArray).data.toList)=(⟨#[111,61,120]⟩:ByteArray) from by kernel_rfl] at h1
  exact h1)
 have lm9:lm≤50:=by omega
 have ld9:ld≤50:=by omega
 have ll9:ll≤50:=by rw[hll];omega
 have HWt:Hid ((F<0→ll+1=lm)∧(¬ F<0→ll=lm)):=Lib.hid (by
  refine ⟨fun h=>?_,fun h=>?_⟩
  ·rw[if_pos h] at hwant;omega
  ·rw[if_neg h] at hwant;omega)
 have HBe:=Lib.hid h;clear hlM hlD h hw hlf hd hcut hM hDL hAB fL fM fD eL eM lL hwant hp1 hp2 hcm hf1 hf2 hdl hMa hna hlm hld hll hEq hKl hKs hF hn hL hk hkne HFi;have tokF:Hid ((0:Nat)=0):=Lib.hid rfl;have tokG:Hid ((0:Nat)=0):=Lib.hid rfl;have tokK:Hid ((0:Nat)=0):=Lib.hid rfl;have tokP:Hid ((0:Nat)=0):=Lib.hid rfl;go_enter Tryz.func4,Tryz.ntmps4
 go_upto_region 3 with (first
  | (go_at_call 7;refine (HMk.out).mono ?_;rintro e w1 ⟨v1,rfl,hi1,hc1,hb1⟩;(obtain ⟨la,lc,hle⟩:=HSlL.out w1 v1 hi1);subst hle;have HT1:=Lib.hid hi1;have HC1:=Lib.hid hc1;have HB1:=Lib.hid hb1;clear hi1 hc1 hb1)
  | (go_at_call 8;refine (HEn.out _).mono ?_;rintro e w2 ⟨D,u,rfl,hD,hu,hb2⟩;(obtain ⟨ua,un,uc,hue⟩:=IsA.sl hu);subst hue;have HT2:=Lib.hid (HT1.out.below hb2 hb2.size);have HB2:=Lib.hid (bthen HB1.out hb2);have HD:=Lib.hid hD;have HU2:=Lib.hid hu;clear hD hu hb2))
 obtain ⟨W3,hW3⟩:∃ W,W=w2.alloc (.cells #[.string D,.slice ua un uc] 27):=⟨_,rfl⟩;rw[← hW3];obtain ⟨p,hp⟩:∃ p,p=w2.heap.size:=⟨_,rfl⟩;have hb3:Below w2.heap.size w2 W3:=by rw[hW3];exact (Below.refl _ _).alloc (Nat.le_refl _) _
 have H3:Hid (TpAt w W3 p D (.slice ua un uc) (entE i x).2 L (.slice la ll lc)):=Lib.hid ⟨by rw[hp,hW3];exact boxN_new w2 D _,HU2.out.below hb3 hb3.size,HT2.out.below hb3 hb3.size,bthen HB2.out hb3⟩;rw[← hp];have b0:=H3.out.box.cells.1;have b1:=H3.out.box.cells.2;obtain ⟨K,hK⟩:∃ K,K=keyB (keyD D.data.toList):=⟨_,rfl⟩;have HKy2:=Lib.hid (fun W=>HKy.out D HD.out ua un uc W);have HKL:=Lib.hid (HKl.out D HD.out);have HKS:=Lib.hid (HKs.out D HD.out);rw[← hK] at HKy2 HKL HKS;clear hW3 hb3 hp hK HKy HKl HKs HMk HEn HB1 HB2 HT1 HT2 HU2
 go_upto_region 6 with (first
  | (go_at_call 9;refine (HKy2.out _).mono ?_;rintro e w4 ⟨rfl,hb4⟩;have H4:=Lib.hid (H3.out.go hb4);have b0:=H4.out.box.cells.1;have b1:=H4.out.box.cells.2;clear hb4)
  | (go_at_call 18;refine (HP1.out _ HC1.out D HD.out _ _ H4.out.tree H4.out.ent).mono ?_;rintro e w5 ⟨v5,rfl,hi5,hc5,hb5⟩;(obtain ⟨mb,mo,mc,X,xa,xn,xc,hve,-⟩:=HCl.out w5 v5 hi5);subst hve;have H5:=Lib.hid (H4.out.go hb5);have HM5:=Lib.hid hi5;have HMc:=Lib.hid hc5;have b0:=H5.out.box.cells.1;have b1:=H5.out.box.cells.2;clear hi5 hc5 hb5 X xa xn xc)
  | (go_at_call 12;refine (HF1.out _ K HKL.out HKS.out _ HM5.out).mono ?_;rintro e w6 ⟨rfl,hb6⟩;have H6:=Lib.hid (H5.out.go hb6);have HM6:=Lib.hid (HM5.out.below hb6 hb6.size);(obtain ⟨mb2,mo2,mc2,X,xa,xn,xc,hve,x0,x1,hX,hxA,-⟩:=HCl.out w6 _ HM6.out);cases hve;have HX:=Lib.hid hX;have HXA:=Lib.hid hxA;have b0:=H6.out.box.cells.1;have b1:=H6.out.box.cells.2;clear hb6 hX hxA))
 rename World=>w6;have hlt6:=(isE_lt HM6.out (by omega));have hpl:=(Array.getElem?_eq_some_iff.1 H6.out.box).1;have HC:Hid (∀ W,Below w6.heap.size w6 W→(fun w'=>w'.cell? ⟨p,0,none⟩=some (.string D)∧w'.cell? ⟨p,1,none⟩=some (.slice ua un uc)∧w'.cell? ⟨mb,mo+na * 2,none⟩=some (.string X)∧w'.cell? ⟨mb,mo+na * 2+1,none⟩=some (.slice xa xn xc)∧Below w6.heap.size w6 w') W):=Lib.hid (fun W hW=>⟨(hW.cell (p:=⟨p,0,none⟩) hpl).trans b0,(hW.cell (p:=⟨p,1,none⟩) hpl).trans b1,(hW.cell (p:=⟨mb,mo+na * 2,none⟩) hlt6).trans x0,(hW.cell (p:=⟨mb,mo+na * 2+1,none⟩) hlt6).trans x1,hW⟩);have hst:=HC.out _ (Below.refl _ _).drew;have HSq:Hid (∀ W,Below w6.heap.size w6 W→Calls Tryz.prog 24 #[.agg #[.string X,.slice xa xn xc],.agg #[.string D,.slice ua un uc]] W (fun e w''=>e=.returned (.bool true)∧(fun w'=>w'.cell? ⟨p,0,none⟩=some (.string D)∧w'.cell? ⟨p,1,none⟩=some (.slice ua un uc)∧w'.cell? ⟨mb,mo+na * 2,none⟩=some (.string X)∧w'.cell? ⟨mb,mo+na * 2+1,none⟩=some (.slice xa xn xc)∧Below w6.heap.size w6 w') w'')):=Lib.hid (fun W hW=>(HSe.out X D HX.out HD.out _ _ W (HXA.out.below hW hW.size) (H6.out.ent.below hW hW.size)).mono (fun e w'' h=>⟨h.1,HC.out w'' (bthen hW h.2)⟩));clear hlt6 hpl b0 b1 x0 x1 HC;refine region_det (by kernel_rfl) (fun w'=>w'.cell? ⟨p,0,none⟩=some (.string D)∧w'.cell? ⟨p,1,none⟩=some (.slice ua un uc)∧w'.cell? ⟨mb,mo+na * 2,none⟩=some (.string X)∧w'.cell? ⟨mb,mo+na * 2+1,none⟩=some (.slice xa xn xc)∧Below w6.heap.size w6 w') (hst) (by kernel_rfl) ?_;simp only[List.toList_toArray]
 repeat' (first
  | (refine det_shut (by rfl) ?_;(simp only[Act.put,List.setIfInBounds_toArray,List.set_cons_zero,List.set_cons_succ]))
  | (apply det_val;(case hw=>rfl);(case hv=>(intro w' hS;(obtain ⟨s0,s1,s2,s3,s4⟩:=hS);go_simp;first | done | with_reducible exact rfl));(simp only[Act.put,List.setIfInBounds_toArray,List.set_cons_zero,List.set_cons_succ]))
  | (apply det_call;(case hw=>rfl);(case hv=>(intro w' hS;(obtain ⟨s0,s1,s2,s3,s4⟩:=hS);go_simp;first | done | with_reducible exact rfl | with_reducible exact ⟨rfl,rfl⟩));(case hc=>(intro w' hS;(first | (go_at_call 24;with_reducible exact HSq.out w' hS.2.2.2.2))));(simp only[Act.put,List.setIfInBounds_toArray,List.set_cons_zero,List.set_cons_succ]))
  | fail)
 intro w7 hSz;have hb7:=hSz.2.2.2.2;have H7:=Lib.hid (H6.out.go hb7);have HM7:=Lib.hid (HM6.out.below hb7 hb7.size);have b0:=H7.out.box.cells.1;have b1:=H7.out.box.cells.2;clear hb7 hSz hst HSq
 go_upto_region 9 with (first
  | (go_at_call 20;refine (HDe.out _ HMc.out K HKL.out HKS.out _ HM7.out).mono ?_;rintro e w8 ⟨v8,rfl,hi8,hc8,hb8⟩;(obtain ⟨da,dc,hve⟩:=HSlD.out w8 v8 hi8);subst hve;have H8:=Lib.hid (H7.out.go hb8);have HM8:=Lib.hid (HM7.out.below hb8 hb8.size);have HD8:=Lib.hid hi8;have b0:=H8.out.box.cells.1;have b1:=H8.out.box.cells.2;clear hi8 hc8 hb8))
 clear HX HXA H3 H4 H5 H6 H7 HM5 HM6 HM7
 by_cases hneg:F<0
 ·have f1:decide ((0:Int)≤F)=false:=by simp;omega
  have hs:(ll:Int)+1=(lm:Int):=by have:=HWt.out.1 (by omega);omega
  have hs2:IntKind.i64.wrap (lm:Int)=(lm:Int):=IntWalk.i64_in _ (by omega);have hs3:(lm:Int) - 1=(ld:Int):=by have:=R1.out;omega
  have hs4:IntKind.i64.wrap (ld:Int)=(ld:Int):=IntWalk.i64_in _ (by omega);have z1:((lm:Int) == (lm:Int))=true:=by simp
  have z2:((ld:Int) == (ld:Int))=true:=by simp
  have z3:decide ((lm:Int)=(lm:Int))=true:=by simp
  have z4:decide ((ld:Int)=(ld:Int))=true:=by simp
  clear HWt
  go_upto_region 13 with (first
   | (go_at_call 12;refine (HF2.out _ K HKL.out HKS.out _ H8.out.tree).mono ?_;rintro e w9 ⟨rfl,hb9⟩;have H9:=Lib.hid (H8.out.go hb9);have HM9:=Lib.hid (HM8.out.below hb9 hb9.size);have HD9:=Lib.hid (HD8.out.below hb9 hb9.size);have b0:=H9.out.box.cells.1;have b1:=H9.out.box.cells.2;clear hb9))
  go_upto_region 15 with fail
  obtain ⟨W11,hW11⟩:∃ W,W=w9.alloc (.cells #[.string ⟨#[79,61,88]⟩,.slice ua un uc] 27):=⟨_,rfl⟩;rw[← hW11];obtain ⟨p2,hp2⟩:∃ p,p=w9.heap.size:=⟨_,rfl⟩;have hb11:Below w9.heap.size w9 W11:=by rw[hW11];exact (Below.refl _ _).alloc (Nat.le_refl _) _
  have hx11:BoxN W11 p2 ⟨#[79,61,88]⟩ (.slice ua un uc):=by rw[hp2,hW11];exact boxN_new w9 _ _
  rw[← hp2];have H11:=Lib.hid (H9.out.go hb11);have HM11:=Lib.hid (HM9.out.below hb11 hb11.size);have HD11:=Lib.hid (HD9.out.below hb11 hb11.size);have HX11:=Lib.hid hx11;have b0:=H11.out.box.cells.1;have b1:=H11.out.box.cells.2;clear hW11 hb11 hx11 hp2 H8 H9 HM8 HM9 HD8 HD9
  go_wp2_with (first
   | (go_at_call 12;refine (HF3.out _ K HKL.out HKS.out _ HD11.out).mono ?_;rintro e y1 ⟨rfl,hb1⟩;have H12:=Lib.hid (H11.out.go hb1);have HM12:=Lib.hid (HM11.out.below hb1 hb1.size);have HX12:=Lib.hid (HX11.out.below hb1 (Array.getElem?_eq_some_iff.1 HX11.out).1);have b0:=H12.out.box.cells.1;have b1:=H12.out.box.cells.2;clear hb1)
   | (go_at_call 18;refine (HP2.out _ HMc.out D HD.out _ _ HM12.out H12.out.ent).mono ?_;rintro e y2 ⟨v2,rfl,hi2,hc2,hb2⟩;(obtain ⟨qa,qc,hve⟩:=HSlM.out y2 v2 hi2);subst hve;have H13:=Lib.hid (H12.out.go hb2);have HM13:=Lib.hid (HM12.out.below hb2 hb2.size);have HQ13:=Lib.hid hi2;have HX13:=Lib.hid (HX12.out.below hb2 (Array.getElem?_eq_some_iff.1 HX12.out).1);clear hi2 hc2 hb2)
   | (go_at_call 17;refine (HSm.out _ _ _ HQ13.out HM13.out).mono ?_;rintro e y3 ⟨rfl,hb3⟩;have H14:=Lib.hid (H13.out.go hb3);have HX14:=Lib.hid (HX13.out.below hb3 (Array.getElem?_eq_some_iff.1 HX13.out).1);have k0:=HX14.out.cells.1;have k1:=HX14.out.cells.2;clear hb3)
   | (go_at_call 9;refine (HUp.out ua un uc _).mono ?_;rintro e y4 ⟨rfl,hb4⟩;have H15:=Lib.hid (H14.out.go hb4);clear hb4)
   | (go_at_call 23;refine (HLd.out _ H15.out.bel).mono ?_;rintro e y5 ⟨rfl,hb5⟩;have HB16:=Lib.hid (bthen H15.out.bel hb5);clear hb5))
  go_ret;exact ⟨rfl,HB16.out⟩
 ·have f1:decide ((0:Int)≤F)=true:=by simp;omega
  have hs:ll=lm:=HWt.out.2 (by omega);subst hs;have hs3:(ll:Int) - 1=(ld:Int):=by have:=R1.out;omega
  have hs4:IntKind.i64.wrap (ld:Int)=(ld:Int):=IntWalk.i64_in _ (by omega);have z1:((ll:Int) == (ll:Int))=true:=by simp
  have z2:((ld:Int) == (ld:Int))=true:=by simp
  have z3:decide ((ll:Int)=(ll:Int))=true:=by simp
  have z4:decide ((ld:Int)=(ld:Int))=true:=by simp
  clear HWt
  go_upto_region 13 with (first
   | (go_at_call 12;refine (HF2.out _ K HKL.out HKS.out _ H8.out.tree).mono ?_;rintro e w9 ⟨rfl,hb9⟩;have H9:=Lib.hid (H8.out.go hb9);have HM9:=Lib.hid (HM8.out.below hb9 hb9.size);have HD9:=Lib.hid (HD8.out.below hb9 hb9.size);have b0:=H9.out.box.cells.1;have b1:=H9.out.box.cells.2;clear hb9))
  go_upto_region 15 with fail
  obtain ⟨W11,hW11⟩:∃ W,W=w9.alloc (.cells #[.string ⟨#[79,61,88]⟩,.slice ua un uc] 27):=⟨_,rfl⟩;rw[← hW11];obtain ⟨p2,hp2⟩:∃ p,p=w9.heap.size:=⟨_,rfl⟩;have hb11:Below w9.heap.size w9 W11:=by rw[hW11];exact (Below.refl _ _).alloc (Nat.le_refl _) _
  have hx11:BoxN W11 p2 ⟨#[79,61,88]⟩ (.slice ua un uc):=by rw[hp2,hW11];exact boxN_new w9 _ _
  rw[← hp2];have H11:=Lib.hid (H9.out.go hb11);have HM11:=Lib.hid (HM9.out.below hb11 hb11.size);have HD11:=Lib.hid (HD9.out.below hb11 hb11.size);have HX11:=Lib.hid hx11;have b0:=H11.out.box.cells.1;have b1:=H11.out.box.cells.2;clear hW11 hb11 hx11 hp2 H8 H9 HM8 HM9 HD8 HD9
  go_wp2_with (first
   | (go_at_call 12;refine (HF3.out _ K HKL.out HKS.out _ HD11.out).mono ?_;rintro e y1 ⟨rfl,hb1⟩;have H12:=Lib.hid (H11.out.go hb1);have HM12:=Lib.hid (HM11.out.below hb1 hb1.size);have HX12:=Lib.hid (HX11.out.below hb1 (Array.getElem?_eq_some_iff.1 HX11.out).1);have b0:=H12.out.box.cells.1;have b1:=H12.out.box.cells.2;clear hb1)
   | (go_at_call 18;refine (HP2.out _ HMc.out D HD.out _ _ HM12.out H12.out.ent).mono ?_;rintro e y2 ⟨v2,rfl,hi2,hc2,hb2⟩;(obtain ⟨qa,qc,hve⟩:=HSlM.out y2 v2 hi2);subst hve;have H13:=Lib.hid (H12.out.go hb2);have HM13:=Lib.hid (HM12.out.below hb2 hb2.size);have HQ13:=Lib.hid hi2;have HX13:=Lib.hid (HX12.out.below hb2 (Array.getElem?_eq_some_iff.1 HX12.out).1);clear hi2 hc2 hb2)
   | (go_at_call 17;refine (HSm.out _ _ _ HQ13.out HM13.out).mono ?_;rintro e y3 ⟨rfl,hb3⟩;have H14:=Lib.hid (H13.out.go hb3);have HX14:=Lib.hid (HX13.out.below hb3 (Array.getElem?_eq_some_iff.1 HX13.out).1);have k0:=HX14.out.cells.1;have k1:=HX14.out.cells.2;clear hb3)
   | (go_at_call 9;refine (HUp.out ua un uc _).mono ?_;rintro e y4 ⟨rfl,hb4⟩;have H15:=Lib.hid (H14.out.go hb4);clear hb4)
   | (go_at_call 23;refine (HLd.out _ H15.out.bel).mono ?_;rintro e y5 ⟨rfl,hb5⟩;have HB16:=Lib.hid (bthen H15.out.bel hb5);clear hb5))
  go_ret;exact ⟨rfl,HB16.out⟩
end Go.Proofs.YtgaaefcanfglhaaGreatDoor
