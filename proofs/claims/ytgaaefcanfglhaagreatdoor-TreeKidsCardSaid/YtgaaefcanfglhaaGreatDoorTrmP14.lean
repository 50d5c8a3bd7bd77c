/- Several texts in one file: TrPut, TrDoc, TrDoc2, ScDocA. -/
import Derived.Test.YtgaaefcanfglhaaGreatDoorTrmP13
import Derived.Deep.Cut
import Derived.Test.YtgaaefcanfglhaaGreatDoorTrmP4
namespace Go.Proofs.YtgaaefcanfglhaaGreatDoor
open Go.RowKit
set_option linter.unusedVariables false
theorem smallE_take {L:List ET} (h:smallE L) (k:Nat):smallE (L.take k):=⟨by rw[List.length_take];have:=h.1;omega,fun e he=>h.2 e (List.mem_of_mem_take he)⟩
theorem smallE_drop {L:List ET} (h:smallE L) (k:Nat):smallE (L.drop k):=⟨by rw[List.length_drop];have:=h.1;omega,fun e he=>h.2 e (List.mem_of_mem_drop he)⟩
theorem smallE_one {e:ET} (h1:e.1.length≤100000) (h2:smallA e.2):smallE [e]:=⟨by simp,fun x hx=>by simp at hx;subst hx;exact ⟨h1,h2⟩⟩
theorem isEE_of {w:World} {U:List (List ET)} {cs:Array Value} (hl:cs.size=U.length) (h:∀ j (hj:j<U.length) (hj':j<cs.size),IsE w.heap.size w U[j] cs[j]) :
  IsEE (w.alloc (.cells cs 23)).heap.size (w.alloc (.cells cs 23)) U (.slice (some ⟨w.heap.size,0,none⟩) U.length U.length):=by
 have hb:Below w.heap.size w (w.alloc (.cells cs 23)):=(Below.refl _ _).alloc (Nat.le_refl _) _;refine ⟨_,_,rfl,fun j hj=>⟨w.heap.size,0,cs[j]'(by rw[hl];exact hj),rfl,by simp,?_,(h j hj (by rw[hl];exact hj)).below hb hb.size⟩⟩;have hc:(w.alloc (.cells cs 23)).heap[w.heap.size]?=some (.cells cs 23 (0,0)):=heap_alloc_new w _;simp only[World.cell?,hc,Nat.zero_add];simp[Array.getElem?_eq_getElem (show j<cs.size by rw[hl];exact hj)]
theorem isEE_two (w:World) (x y:Value) (A B:List ET) (hx:IsE w.heap.size w A x) (hy:IsE w.heap.size w B y) :
  IsEE (w.alloc (.cells #[x,y] 23)).heap.size (w.alloc (.cells #[x,y] 23)) [A,B] (.slice (some ⟨w.heap.size,0,none⟩) 2 2):=
 isEE_of (U:=[A,B]) rfl fun j hj hj'=>by
  match j,hj with
  | 0,_=>exact hx
  | 1,_=>exact hy
theorem isEE_three (w:World) (x y z:Value) (A B C:List ET) (hx:IsE w.heap.size w A x) (hy:IsE w.heap.size w B y) (hz:IsE w.heap.size w C z) :
  IsEE (w.alloc (.cells #[x,y,z] 23)).heap.size (w.alloc (.cells #[x,y,z] 23)) [A,B,C] (.slice (some ⟨w.heap.size,0,none⟩) 3 3):=
 isEE_of (U:=[A,B,C]) rfl fun j hj hj'=>by
  match j,hj with
  | 0,_=>exact hx
  | 1,_=>exact hy
  | 2,_=>exact hz
def capW:Value→Prop
 | .slice _ n c=>n≤c
 | _=>True
theorem capV_w {v:Value} (h:capV v):capW v:=by
 unfold capV at h;unfold capW
 split
 ·rename_i a n c
  cases a with
  | none=>obtain ⟨rfl,_⟩:=h;exact Nat.zero_le _
  | some ad=>exact h.1
 ·trivial
set_option maxRecDepth 100000 in
set_option maxHeartbeats 8000000 in
theorem treeDel_any (L:List ET) (hs:smallE L) (v:Value) (hcap:capW v) (K:ByteArray) (hK:K.size≤100000) (w:World) (h:IsE w.heap.size w L v) :
  Calls Tryz.prog 20 #[v,.string K] w fun e w'=>∃ v',e=.returned v'∧IsE w'.heap.size w' (delE L K.data.toList) v'∧capV v'∧Below w.heap.size w w':=by
 have HFind:=Lib.hid (treeFind_any L hs v K hK w h);obtain ⟨I,hI⟩:∃ I,I=findK (keysE L) K.data.toList:=⟨_,rfl⟩;rw[← hI] at HFind;have HIsE:=Lib.hid h;have HS:=Lib.hid hs;have hL:=hs.1
 by_cases hneg:I<0
 ·have t1:decide (I<0)=true:=by simpa using hneg
  have hd:delE L K.data.toList=L:=by unfold delE;rw[← hI,if_pos hneg]
  rw[hd];obtain ⟨la,lc,rfl⟩:=IsE.sl h;clear h hneg hI hd hcap;go_enter Tryz.func20,Tryz.ntmps20
  go_wp2_with (first
   | (go_at_call 12;refine (HFind.out).mono ?_;rintro e w2 ⟨rfl,hb2⟩;have HB2:=Lib.hid hb2;clear hb2)
   | (go_at_call 42;refine (copies_any L HS.out _ _ (HIsE.out.below HB2.out HB2.out.size)).mono ?_;rintro e w3 ⟨u3,rfl,ho3,hb3⟩;have HO3:=Lib.hid ho3;have HB3:=Lib.hid (bthen HB2.out hb3);clear ho3 hb3))
  go_ret;exact ⟨_,rfl,ownN_isE HO3.out (by unfold maxLen;omega),ownE_cap HO3.out,HB3.out⟩
 ·have t1:decide (I<0)=false:=by simpa using hneg
  obtain ⟨i,hi⟩:∃ i:Nat,I=(i:Int):=⟨I.toNat,by omega⟩;subst hi;have hiL:i<L.length:=by
   unfold findK at hI
   split at hI
   ·omega
   ·by_cases hm:K.data.toList∈keysE L
    ·obtain ⟨j,hj,e,_⟩:=idxK_some hm;rw[keysE_len] at hj;rw[e] at hI;omega
    ·rw[idxK_no hm] at hI;omega
  have hd:delE L K.data.toList=L.take i++L.drop (i+1):=by
   unfold delE;rw[← hI,if_neg hneg];rfl
  rw[hd];obtain ⟨n,hn⟩:∃ n,n=L.length:=⟨_,rfl⟩;obtain ⟨la,lc,rfl,hmx,hcell⟩:=id h;obtain ⟨b,off,_,rfl,_⟩:=hcell i hiL;rw[← hn] at hL hiL hmx HFind HIsE ⊢;have hcap':n≤lc:=by rw[hn];exact hcap
  have HN:=Lib.hid hn;have HTk:Hid (∀ W,Below w.heap.size w W→IsE W.heap.size W (L.take i) (.slice (some ⟨b,off,none⟩) i lc)):=Lib.hid (fun W hW=>IsE.take (h.below hW hW.size) i (by omega) lc);obtain ⟨A2,hA2⟩:∃ A2:Option Addr,(if lc=i+1 then some (⟨b,off,none⟩:Addr) else some ⟨b,off+(i+1) * 2,none⟩)=A2:=⟨_,rfl⟩
  have HDr:Hid (∀ W,Below w.heap.size w W→IsE W.heap.size W (L.drop (i+1)) (.slice A2 (n - (i+1)) (lc - (i+1)))):=Lib.hid (fun W hW=>by
   rw[← hA2]
   by_cases e:lc=i+1
   ·have h0:L.drop (i+1)=[]:=List.drop_eq_nil_of_le (by omega);rw[h0,show n - (i+1)=0 from by omega];exact isE_nil _ _ _ _
   ·rw[if_neg e];have:=IsE.drop (h.below hW hW.size) (i+1) (by omega) (lc - (i+1));rw[← hn] at this
    exact this)
  clear hcell h hneg hI hd hn hcap;unfold maxLen at hmx;go_enter Tryz.func20,Tryz.ntmps20
  go_upto_region 4 with (go_at_call 12;refine (HFind.out).mono ?_;rintro e w2 ⟨rfl,hb2⟩;have HB2:=Lib.hid hb2;clear hb2)
  have HB2d:=Lib.hid (HB2.out.drew);have q1:(i≤lc)=True:=by simp;omega
  have q2:(i+1≤n)=True:=by simp;omega
  have q3:(n≤lc)=True:=by simp;omega
  have q4:(0:Int)≤(i:Int):=by omega
  have ew:IntKind.i64.wrap ((i:Int)+1)=(i:Int)+1:=IntWalk.i64_in _ (by omega);have q5:((i:Int)+1).toNat=i+1:=by omega
  have q6:(0≤(i:Int)+1)=True:=by simp;omega
  have q7:((i:Int)+1≤(n:Int))=True:=by simp;omega
  have HCp:=Lib.hid (fun (M:List ET) (hm:smallE M) (u:Value) (W:World) (hu:IsE W.heap.size W M u)=>copies_any M hm u W hu);have HCc:=Lib.hid (fun (U:List (List ET)) (hU:U.flatten.length≤100000) (u:Value) (W:World) (hu:IsEE W.heap.size W U u)=>fun hl=>concatE_any U hU hl u W hu);have HFl:Hid ([L.take i,L.drop (i+1)].flatten=L.take i++L.drop (i+1)):=Lib.hid (by simp);have HLn:Hid ((L.take i++L.drop (i+1)).length≤100000):=Lib.hid (by have:=HN.out;simp;omega);have HT1:Hid (∀ W u,OwnN w2.drew.heap.size W u (L.take i)→IsE W.heap.size W (L.take i) u):=Lib.hid (fun W u hu=>ownN_isE hu (by rw[List.length_take];unfold maxLen;omega));have HT2:Hid (∀ B W u,OwnN B W u (L.drop (i+1))→IsE W.heap.size W (L.drop (i+1)) u):=Lib.hid (fun B W u hu=>ownN_isE hu (by have:=HN.out;rw[List.length_drop];unfold maxLen;omega));have tok1:True:=trivial
  go_region_law (first
   | (go_simp;go_at_call 42;(have _t:=tok1);clear tok1;((with_reducible refine (HCp.out _ (smallE_take HS.out i) _ _ (HTk.out _ HB2d.out)).mono ?_);rintro e w3 ⟨u3,rfl,ho3,hb3⟩;have HO3:=Lib.hid ho3;have HB3:=Lib.hid (bthen HB2d.out hb3);(obtain ⟨xa,xc,hxe⟩:=ownE_slice ho3);(obtain ⟨xn,hxn⟩:∃ k,k=(L.take i).length:=⟨_,rfl⟩);rw[← hxn] at hxe;clear ho3 hb3 hxn;subst hxe))
   | (go_simp;go_at_call 42;((with_reducible refine (HCp.out _ (smallE_drop HS.out (i+1)) _ _ (HDr.out _ HB3.out)).mono ?_);rintro e w4 ⟨u4,rfl,ho4,hb4⟩;have HO4:=Lib.hid ho4;have HO3':=Lib.hid (ownN_below HO3.out hb4);have HB4:=Lib.hid (bthen HB3.out hb4);(obtain ⟨ya,yc,hye⟩:=ownE_slice ho4);(obtain ⟨yn,hyn⟩:∃ k,k=(L.drop (i+1)).length:=⟨_,rfl⟩);rw[← hyn] at hye;clear ho4 hb4 hyn;subst hye))
   | (go_simp;go_at_call 41;((with_reducible refine (HCc.out [L.take i,L.drop (i+1)] (by rw[HFl.out];exact HLn.out) _ _ (isEE_two w4 _ _ _ _ (HT1.out _ _ HO3'.out) (HT2.out _ _ _ HO4.out)) (by simp)).mono ?_);rintro e w6 ⟨u6,rfl,hi6,hc6,hb6⟩;have HI6:=Lib.hid hi6;have HC6:=Lib.hid hc6;have HB6:=Lib.hid (bthen HB4.out (Below.trans ((Below.refl w4.heap.size w4).alloc (Nat.le_refl _) _) (hb6.mono (by simp))));clear hi6 hc6 hb6)))
  all_goals
   go_wp2;go_ret;exact ⟨_,rfl,by have:=HI6.out;rwa [HFl.out] at this,HC6.out,HB6.out⟩
def fromK (KS:List KL) (k:KL):Nat:=if findK KS k<0 then aboveK KS k else (findK KS k).toNat
def toK (KS:List KL) (k:KL):Nat:=if findK KS k<0 then aboveK KS k else (findK KS k).toNat+1
def putE (L:List ET) (e:ET):List ET:=L.take (fromK (keysE L) (kE e))++[e]++L.drop (toK (keysE L) (kE e))
theorem findK_lt {KS:List KL} {k:KL} {i:Nat} (h:findK KS k=(i:Int)):i<KS.length:=by
 unfold findK at h
 split at h
 ·omega
 ·by_cases hm:k∈KS
  ·obtain ⟨j,hj,e,_⟩:=idxK_some hm;rw[e] at h;omega
  ·rw[idxK_no hm] at h;omega
theorem findK_ge (KS:List KL) (k:KL):-1≤findK KS k:=by
 unfold findK
 split
 ·omega
 ·by_cases hm:k∈KS
  ·obtain ⟨j,hj,e,_⟩:=idxK_some hm;rw[e];omega
  ·rw[idxK_no hm];omega
theorem fromK_le (KS:List KL) (k:KL):fromK KS k≤toK KS k∧toK KS k≤KS.length:=by
 unfold fromK toK;have h2:=findK_ge KS k
 split
 ·exact ⟨Nat.le_refl _,aboveK_le _ _⟩
 ·have:=findK_lt (KS:=KS) (k:=k) (i:=(findK KS k).toNat) (by omega);omega
theorem isE_one (w:World) (D:ByteArray) (A:List AT) (u:Value) (hu:IsA w.heap.size w A u) :
  IsE (w.alloc (.cells #[.string D,u] 27)).heap.size (w.alloc (.cells #[.string D,u] 27)) [(D.data.toList,A)] (.slice (some ⟨w.heap.size,0,none⟩) 1 1):=by
 have hb:Below w.heap.size w (w.alloc (.cells #[.string D,u] 27)):=(Below.refl _ _).alloc (Nat.le_refl _) _;refine ⟨_,_,rfl,by unfold maxLen;simp,fun j hj=>?_⟩;have:j=0:=by simp at hj;omega
 subst this;refine ⟨w.heap.size,0,u,rfl,by simp,?_,by simp,hu.below hb hb.size⟩;rw[show ([(D.data.toList,A)]:List ET)[0].1=D.data.toList from rfl,strV_whole];simp
set_option maxRecDepth 100000 in
set_option maxHeartbeats 8000000 in
theorem treePut_any (L:List ET) (hs:smallE L) (v:Value) (hcap:capV v) (D:ByteArray) (hD:D.size≤100000) (A:List AT) (ha:fineA A) (h20:A.length≤20) (u:Value) (hk:kE (D.data.toList,A)≠[]) (hnorm:isNE (D.data.toList,A)=true) (w:World) (h:IsE w.heap.size w L v) (hu:IsA w.heap.size w A u) :
  Calls Tryz.prog 18 #[v,.agg #[.string D,u]] w fun e w'=>∃ v',e=.returned v'∧IsE w'.heap.size w' (putE L (D.data.toList,A)) v'∧capV v'∧Below w.heap.size w w':=by
 have hL:=hs.1;obtain ⟨ua,un,uc,rfl⟩:=hu.sl;obtain ⟨W0,hW0⟩:∃ W,W=w.alloc (.cells #[.string D,.slice ua un uc] 27):=⟨_,rfl⟩;have hb0:Below w.heap.size w W0:=by rw[hW0];exact (Below.refl _ _).alloc (Nat.le_refl _) _
 have hz0:w.heap.size<W0.heap.size:=by rw[hW0];simp
 have e0:W0.cell? ⟨w.heap.size,0,none⟩=some (.string D):=by rw[hW0];simp
 have e1:W0.cell? ⟨w.heap.size,1,none⟩=some (.slice ua un uc):=by rw[hW0];simp
 have hkey:=fun W=>treeKey_any D hD ua un uc W
 obtain ⟨K,hK⟩:∃ K,K=keyB (keyD D.data.toList):=⟨_,rfl⟩;rw[← hK] at hkey;have hKl:K.data.toList=kE (D.data.toList,A):=by rw[hK,keyB_list];rfl
 have hKs:K.size≤100000:=by
  have:=keyB_size D.data.toList;rw[← hK,bytes_len] at this;omega
 rw[← hKl] at hk;have hPut:putE L (D.data.toList,A)=L.take (fromK (keysE L) K.data.toList)++[(D.data.toList,A)]++L.drop (toK (keysE L) K.data.toList):=by unfold putE;rw[← hKl]
 obtain ⟨k1,k2⟩:=bytes_some hk;have k3:(K.toList == [])=false:=by simpa using k1
 have hfl:=fromK_le (keysE L) K.data.toList;rw[keysE_len] at hfl;have HKey:=Lib.hid hkey;have HNorm:=Lib.hid (fun (W:World) (hW:Below w.heap.size w W)=>isNorm_any D hD A ha h20 (.slice ua un uc) W (hu.below hW hW.size));rw[hnorm] at HNorm;have HUb:=Lib.hid (fun (W:World) (hW:Below w.heap.size w W)=>hu.below hW hW.size);have HB0:=Lib.hid hb0;have HW0:=Lib.hid hW0;have HIsE:=Lib.hid h;have HS:=Lib.hid hs;have HFl:=Lib.hid hfl;have HPut:=Lib.hid hPut;obtain ⟨n,hn⟩:∃ n,n=L.length:=⟨_,rfl⟩;obtain ⟨la,lc,hv,hmx,hcell⟩:=id h;rw[← hn] at hL hv hmx;subst hv;have hcap':=hcap;have HN:=Lib.hid hn;clear hW0 hK hKl hk hnorm hfl hkey hPut hb0 hu h hn hcell hcap;rw[HPut.out];go_enter Tryz.func18,Tryz.ntmps18
 go_upto_region 1 with (fail)
 rw[← HW0.out]
 go_upto_region 4 with (first
  | (go_at_call 9;refine (HKey.out _).mono ?_;rintro e w2 ⟨rfl,hb2⟩;have g0:w2.cell? ⟨w.heap.size,0,none⟩=some (.string D):=by { rw[hb2.cell (p:=⟨w.heap.size,0,none⟩) hz0];exact e0 };have g1:w2.cell? ⟨w.heap.size,1,none⟩=some (.slice ua un uc):=by { rw[hb2.cell (p:=⟨w.heap.size,1,none⟩) hz0];exact e1 };have HB2a:=Lib.hid (hb2);have HB2:=Lib.hid (HB0.out.trans (hb2.mono (by omega)));clear hb2)
  | (go_at_call 34;refine (HNorm.out _ HB2.out).mono ?_;rintro e w3 ⟨rfl,hb3⟩;have HB3a:=Lib.hid (bthen HB2a.out hb3);have HB3:=Lib.hid (bthen HB2.out hb3);have g0':w3.cell? ⟨w.heap.size,0,none⟩=some (.string D):=by { rw[HB3a.out.cell (p:=⟨w.heap.size,0,none⟩) hz0];exact e0 };have g1':w3.cell? ⟨w.heap.size,1,none⟩=some (.slice ua un uc):=by { rw[HB3a.out.cell (p:=⟨w.heap.size,1,none⟩) hz0];exact e1 };clear hb3))
 clear e0 e1 g0 g1
 -- TAIL
 obtain ⟨W4,hW4⟩:∃ W,W=w3.alloc (.cells #[.slice la n lc,.int .u32 0,.int .i32 0,.int .u32 0,.slice none 0 0,.map none] 83):=⟨_,rfl⟩;have hb4:Below w3.heap.size w3 W4:=by rw[hW4];exact (Below.refl _ _).alloc (Nat.le_refl _) _
 have hx4:Idx w3.heap.size W4 (.slice la n lc) (keysE L):=by rw[hW4];exact idx_new w3 _ _
 have hz3:w.heap.size<w3.heap.size:=Nat.lt_of_lt_of_le hz0 HB3a.out.size;have v0:W4.cell? ⟨w.heap.size,0,none⟩=some (.string D):=(hb4.cell (p:=⟨w.heap.size,0,none⟩) hz3).trans g0';have v1:W4.cell? ⟨w.heap.size,1,none⟩=some (.slice ua un uc):=(hb4.cell (p:=⟨w.heap.size,1,none⟩) hz3).trans g1';have hpl:=place_any L HS.out w3.heap.size (.slice la n lc) K hKs W4 hx4 (HIsE.out.below (HB3.out.trans (hb4.mono HB3.out.size)) HB3.out.size);obtain ⟨I,hI⟩:∃ I,I=findK (keysE L) K.data.toList:=⟨_,rfl⟩;rw[← hI] at hpl;have HI:=Lib.hid hI;have HPl:=Lib.hid hpl;have HB4a:=Lib.hid hb4;have hIge:=findK_ge (keysE L) K.data.toList;rw[← hI] at hIge;have HCp:=Lib.hid (fun (M:List ET) (hm:smallE M) (u:Value) (W:World) (hu:IsE W.heap.size W M u)=>copies_any M hm u W hu);have HCc:=Lib.hid (fun (U:List (List ET)) (hU:U.flatten.length≤100000) (u:Value) (W:World) (hu:IsEE W.heap.size W U u)=>fun hl=>concatE_any U hU hl u W hu);have HOne:Hid (smallE [(D.data.toList,A)]):=Lib.hid (smallE_one (by rw[bytes_len];exact hD) ha.1);have HT1:Hid (∀ B W u (k:Nat),OwnN B W u (L.take k)→IsE W.heap.size W (L.take k) u):=Lib.hid (fun B W u k hu=>ownN_isE hu (by have:=HN.out;rw[List.length_take];unfold maxLen;omega));have HT2:Hid (∀ B W u (k:Nat),OwnN B W u (L.drop k)→IsE W.heap.size W (L.drop k) u):=Lib.hid (fun B W u k hu=>ownN_isE hu (by have:=HN.out;rw[List.length_drop];unfold maxLen;omega));have HT3:Hid (∀ B W u,OwnN B W u [(D.data.toList,A)]→IsE W.heap.size W [(D.data.toList,A)] u):=Lib.hid (fun B W u hu=>ownN_isE hu (by unfold maxLen;simp));have HW4:=Lib.hid hW4;clear hb4 hx4 hpl hI hW4 g0' g1'
 go_upto_region 5 with (fail)
 rw[← HW4.out];clear HW4
 cases la with
 | none=>
  obtain ⟨hn0,hl0⟩:n=0∧lc=0:=hcap';subst hn0 hl0
  by_cases hneg:I<0
  ·have t1:decide (I<0)=true:=by simpa using hneg
   obtain ⟨m,hm⟩:∃ m,m=aboveK (keysE L) K.data.toList:=⟨_,rfl⟩;have HFrom:Hid (fromK (keysE L) K.data.toList=m):=Lib.hid (by unfold fromK;rw[← HI.out,if_pos hneg,hm]);have HTo:Hid (toK (keysE L) K.data.toList=m):=Lib.hid (by unfold toK;rw[← HI.out,if_pos hneg,hm]);have hmn:m≤0:=by have h1:=aboveK_le (keysE L) K.data.toList;rw[keysE_len] at h1;rw[hm,HN.out];exact h1
   have HAb:=Lib.hid (fun (W:World) (kv mv:Value) (hW:Below w.heap.size w W) (hmd:Made w3.heap.size W (.slice none 0 0) (keysE L) kv mv)=>aboveX_any L HS.out w3.heap.size (.slice none 0 0) K W (.inr ⟨kv,mv,hmd⟩) (HIsE.out.below hW HB3.out.size));rw[← hm] at HAb;clear hneg hm;have hm0:m=0:=by omega
   subst hm0
   go_upto_region 10 with (first
    | (go_at_call 37;refine (HPl.out).mono ?_;rintro e w4 ⟨rfl,kv,mv,hmd,hg⟩;have HB4:=Lib.hid (HB3.out.trans ((below_idx HB4a.out hg (Nat.le_refl _)).mono HB3.out.size));have HMd:=Lib.hid hmd;have r0:=hg.cell v0 (fun e=>by have:=Option.some.inj e;simp at this;omega);have r1:=hg.cell v1 (fun e=>by have:=Option.some.inj e;simp at this;omega);clear hmd hg)
    | (go_at_call 40;refine (HAb.out _ _ _ HB4.out HMd.out).mono ?_;rintro e w5 ⟨rfl,kv5,mv5,hmd,hg⟩;have HB5:=Lib.hid (HB4.out.trans (below_ofGrown hg (by have:=HB4.out.size;have:=HMd.out.box.lt;omega) |>.mono (by have:=HB3.out.size;omega)));have h0:=hg.cell r0 (fun e=>by have:=Option.some.inj e;simp at this;omega);have h1:=hg.cell r1 (fun e=>by have:=Option.some.inj e;simp at this;omega);have hs5:w3.heap.size<w5.heap.size:=hmd.box.lt;clear hmd hg))
   have HTk:Hid (∀ W,Below w.heap.size w W→IsE W.heap.size W (L.take 0) (.slice none 0 0)):=Lib.hid (fun W hW=>by rw[List.length_eq_zero_iff.1 HN.out.symm,List.take_nil];exact isE_nil _ _ _ _);have HDr:Hid (∀ W,Below w.heap.size w W→IsE W.heap.size W (L.drop (0)) (.slice none 0 0)):=Lib.hid (fun W hW=>by rw[List.length_eq_zero_iff.1 HN.out.symm,List.drop_nil];exact isE_nil _ _ _ _);have HRes:Hid ([L.take 0,[(D.data.toList,A)],L.drop (0)].flatten=L.take (fromK (keysE L) K.data.toList)++[(D.data.toList,A)]++L.drop (toK (keysE L) K.data.toList)):=Lib.hid (by rw[HFrom.out,HTo.out];simp);have HLen:Hid (([L.take 0,[(D.data.toList,A)],L.drop (0)]:List (List ET)).flatten.length≤100000):=Lib.hid (by have:=HN.out;simp;omega);have hz5:w.heap.size<w5.heap.size:=by omega
   have HB5d:=Lib.hid HB5.out.drew;have HB5e:Hid (Below w.heap.size w (w5.alloc (.cells #[.string D,.slice ua un uc] 27)).drew):=Lib.hid ((HB5.out.alloc HB5.out.size _).drew);have HE5:Hid (IsE (w5.alloc (.cells #[.string D,.slice ua un uc] 27)).drew.heap.size (w5.alloc (.cells #[.string D,.slice ua un uc] 27)).drew [(D.data.toList,A)] (.slice (some ⟨w5.heap.size,0,none⟩) 1 1)):=Lib.hid (isE_one w5 D A _ (HUb.out _ HB5.out));have j0:w5.drew.cell? ⟨w.heap.size,0,none⟩=some (.string D):=h0;have j1:w5.drew.cell? ⟨w.heap.size,1,none⟩=some (.slice ua un uc):=h1;have tok1:Hid ((0:Nat)=0):=Lib.hid rfl;have tok2:Hid ((1:Nat)=1):=Lib.hid rfl
   go_region_law (first
    | (go_simp;go_at_call 42;(have _t:=tok1);clear tok1;((with_reducible refine (HCp.out _ (smallE_take HS.out 0) _ w5.drew (HTk.out _ HB5d.out)).mono ?_);rintro e w6 ⟨u6,rfl,ho6,hb6⟩;have HB6:=Lib.hid (bthen HB5d.out hb6);have HI6:=Lib.hid (HT1.out _ _ _ _ ho6);have k0:w6.cell? ⟨w.heap.size,0,none⟩=some (.string D):=(hb6.cell (p:=⟨w.heap.size,0,none⟩) hz5).trans h0;have k1:w6.cell? ⟨w.heap.size,1,none⟩=some (.slice ua un uc):=(hb6.cell (p:=⟨w.heap.size,1,none⟩) hz5).trans h1;have HE6:=Lib.hid (isE_one w6 D A _ (HUb.out _ HB6.out));have HBE6:Hid (Below w.heap.size w (w6.alloc (.cells #[.string D,.slice ua un uc] 27))):=Lib.hid (HB6.out.alloc HB6.out.size _);have HI6a:Hid (IsE (w6.alloc (.cells #[.string D,.slice ua un uc] 27)).heap.size (w6.alloc (.cells #[.string D,.slice ua un uc] 27)) (L.take 0) u6):=Lib.hid (HI6.out.below ((Below.refl w6.heap.size w6).alloc (Nat.le_refl _) (.cells #[.string D,.slice ua un uc] 27)) (by simp));(obtain ⟨xa,xc,hxe⟩:=ownE_slice ho6);(obtain ⟨xn,hxn⟩:∃ k,k=(L.take 0).length:=⟨_,rfl⟩);rw[← hxn] at hxe;clear ho6 hb6 hxn;subst hxe))
    | (go_simp;go_at_call 42;(have _t:=tok1);clear tok1;((with_reducible refine (HCp.out _ (smallE_take HS.out 0) _ (w5.alloc (.cells #[.string D,.slice ua un uc] 27)).drew (HTk.out _ HB5e.out)).mono ?_);rintro e w6 ⟨u6,rfl,ho6,hb6⟩;have HB6:=Lib.hid (bthen HB5e.out hb6);have HI6:=Lib.hid (HT1.out _ _ _ _ ho6);have HE6b:=Lib.hid (HE5.out.below hb6 hb6.size);(obtain ⟨xa,xc,hxe⟩:=ownE_slice ho6);(obtain ⟨xn,hxn⟩:∃ k,k=(L.take 0).length:=⟨_,rfl⟩);rw[← hxn] at hxe;clear ho6 hb6 hxn;subst hxe))
    | (go_simp;go_at_call 42;(have _t:=tok2);clear tok2;((with_reducible refine (HCp.out _ HOne.out _ (w6.alloc (.cells #[.string D,.slice ua un uc] 27)) HE6.out).mono ?_);rintro e w7 ⟨u7,rfl,ho7,hb7⟩;have HB7:=Lib.hid (bthen HBE6.out hb7);have HI7:=Lib.hid (HT3.out _ _ _ ho7);have HI67:=Lib.hid (HI6a.out.below hb7 hb7.size);(obtain ⟨ya,yc,hye⟩:=ownE_slice ho7);(obtain ⟨yn,hyn⟩:∃ k,k=[(D.data.toList,A)].length:=⟨_,rfl⟩);rw[← hyn] at hye;clear ho7 hb7 hyn;subst hye))
    | (go_simp;go_at_call 42;(have _t:=tok2);clear tok2;((with_reducible refine (HCp.out _ HOne.out _ w6 HE6b.out).mono ?_);rintro e w7 ⟨u7,rfl,ho7,hb7⟩;have HB7:=Lib.hid (bthen HB6.out hb7);have HI7:=Lib.hid (HT3.out _ _ _ ho7);have HI67:=Lib.hid (HI6.out.below hb7 hb7.size);(obtain ⟨ya,yc,hye⟩:=ownE_slice ho7);(obtain ⟨yn,hyn⟩:∃ k,k=[(D.data.toList,A)].length:=⟨_,rfl⟩);rw[← hyn] at hye;clear ho7 hb7 hyn;subst hye))
    | (go_simp;go_at_call 42;((with_reducible refine (HCp.out _ (smallE_drop HS.out (0)) _ w7 (HDr.out _ HB7.out)).mono ?_);rintro e w8 ⟨u8,rfl,ho8,hb8⟩;have HB8:=Lib.hid (bthen HB7.out hb8);have HI8:=Lib.hid (HT2.out _ _ _ _ ho8);have HI68:=Lib.hid (HI67.out.below hb8 hb8.size);have HI78:=Lib.hid (HI7.out.below hb8 hb8.size);(obtain ⟨za,zc,hze⟩:=ownE_slice ho8);(obtain ⟨zn,hzn⟩:∃ k,k=(L.drop (0)).length:=⟨_,rfl⟩);rw[← hzn] at hze;clear ho8 hb8 hzn;subst hze))
    | (go_simp;go_at_call 41;((with_reducible refine (HCc.out _ HLen.out _ _ (isEE_three w8 _ _ _ _ _ _ HI68.out HI78.out HI8.out) (by simp)).mono ?_);rintro e w9 ⟨u9,rfl,hi9,hc9,hb9⟩;have HI9:=Lib.hid hi9;have HC9:=Lib.hid hc9;have HB9:=Lib.hid (bthen HB8.out (Below.trans ((Below.refl w8.heap.size w8).alloc (Nat.le_refl _) _) (hb9.mono (by simp))));clear hi9 hc9 hb9)))
   all_goals
    go_wp2;go_ret;exact ⟨_,rfl,by have:=HI9.out;rw[HRes.out] at this;first | exact this | simpa using this,HC9.out,HB9.out⟩
  ·have t1:decide (I<0)=false:=by simpa using hneg
   obtain ⟨i,hi⟩:∃ i:Nat,I=(i:Int):=⟨I.toNat,by omega⟩;have HFrom:Hid (fromK (keysE L) K.data.toList=i):=Lib.hid (by unfold fromK;rw[← HI.out,if_neg hneg,hi];rfl);have HTo:Hid (toK (keysE L) K.data.toList=i+1):=Lib.hid (by unfold toK;rw[← HI.out,if_neg hneg,hi];rfl);have hin:i<0:=by
    have h1:=findK_lt (HI.out.symm.trans hi);rw[keysE_len] at h1;rw[HN.out];exact h1
   subst hi;have ew:IntKind.i64.wrap ((i:Int)+1)=(i:Int)+1:=IntWalk.i64_in _ (by omega);clear hneg;exact absurd hin (by omega)
 | some ad=>
  obtain ⟨b,off,sp⟩:=ad;obtain ⟨hcap',hsp⟩:n≤lc∧sp=none:=hcap';subst hsp
  by_cases hneg:I<0
  ·have t1:decide (I<0)=true:=by simpa using hneg
   obtain ⟨m,hm⟩:∃ m,m=aboveK (keysE L) K.data.toList:=⟨_,rfl⟩;have HFrom:Hid (fromK (keysE L) K.data.toList=m):=Lib.hid (by unfold fromK;rw[← HI.out,if_pos hneg,hm]);have HTo:Hid (toK (keysE L) K.data.toList=m):=Lib.hid (by unfold toK;rw[← HI.out,if_pos hneg,hm]);have hmn:m≤n:=by have h1:=aboveK_le (keysE L) K.data.toList;rw[keysE_len] at h1;rw[hm,HN.out];exact h1
   have HAb:=Lib.hid (fun (W:World) (kv mv:Value) (hW:Below w.heap.size w W) (hmd:Made w3.heap.size W (.slice (some ⟨b,off,none⟩) n lc) (keysE L) kv mv)=>aboveX_any L HS.out w3.heap.size (.slice (some ⟨b,off,none⟩) n lc) K W (.inr ⟨kv,mv,hmd⟩) (HIsE.out.below hW HB3.out.size));rw[← hm] at HAb;clear hneg hm
   go_upto_region 10 with (first
    | (go_at_call 37;refine (HPl.out).mono ?_;rintro e w4 ⟨rfl,kv,mv,hmd,hg⟩;have HB4:=Lib.hid (HB3.out.trans ((below_idx HB4a.out hg (Nat.le_refl _)).mono HB3.out.size));have HMd:=Lib.hid hmd;have r0:=hg.cell v0 (fun e=>by have:=Option.some.inj e;simp at this;omega);have r1:=hg.cell v1 (fun e=>by have:=Option.some.inj e;simp at this;omega);clear hmd hg)
    | (go_at_call 40;refine (HAb.out _ _ _ HB4.out HMd.out).mono ?_;rintro e w5 ⟨rfl,kv5,mv5,hmd,hg⟩;have HB5:=Lib.hid (HB4.out.trans (below_ofGrown hg (by have:=HB4.out.size;have:=HMd.out.box.lt;omega) |>.mono (by have:=HB3.out.size;omega)));have h0:=hg.cell r0 (fun e=>by have:=Option.some.inj e;simp at this;omega);have h1:=hg.cell r1 (fun e=>by have:=Option.some.inj e;simp at this;omega);have hs5:w3.heap.size<w5.heap.size:=hmd.box.lt;clear hmd hg))
   have HTk:Hid (∀ W,Below w.heap.size w W→IsE W.heap.size W (L.take m) (.slice (some ⟨b,off,none⟩) m lc)):=Lib.hid (fun W hW=>IsE.take (HIsE.out.below hW hW.size) m (by have:=HN.out;omega) lc);obtain ⟨A2,hA2⟩:∃ A2:Option Addr,(if lc=m then some (⟨b,off,none⟩:Addr) else some ⟨b,off+(m) * 2,none⟩)=A2:=⟨_,rfl⟩
   have HDr:Hid (∀ W,Below w.heap.size w W→IsE W.heap.size W (L.drop (m)) (.slice A2 (n - (m)) (lc - (m)))):=Lib.hid (fun W hW=>by
    have hN:=HN.out;rw[← hA2]
    by_cases e:lc=m
    ·have h0:L.drop (m)=[]:=List.drop_eq_nil_of_le (by omega);rw[h0,show n - (m)=0 from by omega];exact isE_nil _ _ _ _
    ·rw[if_neg e];have:=IsE.drop (HIsE.out.below hW hW.size) (m) (by omega) (lc - (m));rw[← hN] at this
     exact this)
   have q1:(m≤lc)=True:=by simp;omega
   have q2:(m≤n)=True:=by simp;omega
   have q3:(n≤lc)=True:=by simp;omega
   have q4:(0:Int)≤(m:Int):=by omega
   have q5:((m:Int)).toNat=m:=by omega
   have q6:(0≤(m:Int))=True:=by simp;try omega
   have q7:((m:Int)≤(n:Int))=True:=by simp;omega
   have HRes:Hid ([L.take m,[(D.data.toList,A)],L.drop (m)].flatten=L.take (fromK (keysE L) K.data.toList)++[(D.data.toList,A)]++L.drop (toK (keysE L) K.data.toList)):=Lib.hid (by rw[HFrom.out,HTo.out];simp);have HLen:Hid (([L.take m,[(D.data.toList,A)],L.drop (m)]:List (List ET)).flatten.length≤100000):=Lib.hid (by have:=HN.out;simp;omega);have hz5:w.heap.size<w5.heap.size:=by omega
   have HB5d:=Lib.hid HB5.out.drew;have HB5e:Hid (Below w.heap.size w (w5.alloc (.cells #[.string D,.slice ua un uc] 27)).drew):=Lib.hid ((HB5.out.alloc HB5.out.size _).drew);have HE5:Hid (IsE (w5.alloc (.cells #[.string D,.slice ua un uc] 27)).drew.heap.size (w5.alloc (.cells #[.string D,.slice ua un uc] 27)).drew [(D.data.toList,A)] (.slice (some ⟨w5.heap.size,0,none⟩) 1 1)):=Lib.hid (isE_one w5 D A _ (HUb.out _ HB5.out));have j0:w5.drew.cell? ⟨w.heap.size,0,none⟩=some (.string D):=h0;have j1:w5.drew.cell? ⟨w.heap.size,1,none⟩=some (.slice ua un uc):=h1;have tok1:Hid ((0:Nat)=0):=Lib.hid rfl;have tok2:Hid ((1:Nat)=1):=Lib.hid rfl
   go_region_law (first
    | (go_simp;go_at_call 42;(have _t:=tok1);clear tok1;((with_reducible refine (HCp.out _ (smallE_take HS.out m) _ w5.drew (HTk.out _ HB5d.out)).mono ?_);rintro e w6 ⟨u6,rfl,ho6,hb6⟩;have HB6:=Lib.hid (bthen HB5d.out hb6);have HI6:=Lib.hid (HT1.out _ _ _ _ ho6);have k0:w6.cell? ⟨w.heap.size,0,none⟩=some (.string D):=(hb6.cell (p:=⟨w.heap.size,0,none⟩) hz5).trans h0;have k1:w6.cell? ⟨w.heap.size,1,none⟩=some (.slice ua un uc):=(hb6.cell (p:=⟨w.heap.size,1,none⟩) hz5).trans h1;have HE6:=Lib.hid (isE_one w6 D A _ (HUb.out _ HB6.out));have HBE6:Hid (Below w.heap.size w (w6.alloc (.cells #[.string D,.slice ua un uc] 27))):=Lib.hid (HB6.out.alloc HB6.out.size _);have HI6a:Hid (IsE (w6.alloc (.cells #[.string D,.slice ua un uc] 27)).heap.size (w6.alloc (.cells #[.string D,.slice ua un uc] 27)) (L.take m) u6):=Lib.hid (HI6.out.below ((Below.refl w6.heap.size w6).alloc (Nat.le_refl _) (.cells #[.string D,.slice ua un uc] 27)) (by simp));(obtain ⟨xa,xc,hxe⟩:=ownE_slice ho6);(obtain ⟨xn,hxn⟩:∃ k,k=(L.take m).length:=⟨_,rfl⟩);rw[← hxn] at hxe;clear ho6 hb6 hxn;subst hxe))
    | (go_simp;go_at_call 42;(have _t:=tok1);clear tok1;((with_reducible refine (HCp.out _ (smallE_take HS.out m) _ (w5.alloc (.cells #[.string D,.slice ua un uc] 27)).drew (HTk.out _ HB5e.out)).mono ?_);rintro e w6 ⟨u6,rfl,ho6,hb6⟩;have HB6:=Lib.hid (bthen HB5e.out hb6);have HI6:=Lib.hid (HT1.out _ _ _ _ ho6);have HE6b:=Lib.hid (HE5.out.below hb6 hb6.size);(obtain ⟨xa,xc,hxe⟩:=ownE_slice ho6);(obtain ⟨xn,hxn⟩:∃ k,k=(L.take m).length:=⟨_,rfl⟩);rw[← hxn] at hxe;clear ho6 hb6 hxn;subst hxe))
    | (go_simp;go_at_call 42;(have _t:=tok2);clear tok2;((with_reducible refine (HCp.out _ HOne.out _ (w6.alloc (.cells #[.string D,.slice ua un uc] 27)) HE6.out).mono ?_);rintro e w7 ⟨u7,rfl,ho7,hb7⟩;have HB7:=Lib.hid (bthen HBE6.out hb7);have HI7:=Lib.hid (HT3.out _ _ _ ho7);have HI67:=Lib.hid (HI6a.out.below hb7 hb7.size);(obtain ⟨ya,yc,hye⟩:=ownE_slice ho7);(obtain ⟨yn,hyn⟩:∃ k,k=[(D.data.toList,A)].length:=⟨_,rfl⟩);rw[← hyn] at hye;clear ho7 hb7 hyn;subst hye))
    | (go_simp;go_at_call 42;(have _t:=tok2);clear tok2;((with_reducible refine (HCp.out _ HOne.out _ w6 HE6b.out).mono ?_);rintro e w7 ⟨u7,rfl,ho7,hb7⟩;have HB7:=Lib.hid (bthen HB6.out hb7);have HI7:=Lib.hid (HT3.out _ _ _ ho7);have HI67:=Lib.hid (HI6.out.below hb7 hb7.size);(obtain ⟨ya,yc,hye⟩:=ownE_slice ho7);(obtain ⟨yn,hyn⟩:∃ k,k=[(D.data.toList,A)].length:=⟨_,rfl⟩);rw[← hyn] at hye;clear ho7 hb7 hyn;subst hye))
    | (go_simp;go_at_call 42;((with_reducible refine (HCp.out _ (smallE_drop HS.out (m)) _ w7 (HDr.out _ HB7.out)).mono ?_);rintro e w8 ⟨u8,rfl,ho8,hb8⟩;have HB8:=Lib.hid (bthen HB7.out hb8);have HI8:=Lib.hid (HT2.out _ _ _ _ ho8);have HI68:=Lib.hid (HI67.out.below hb8 hb8.size);have HI78:=Lib.hid (HI7.out.below hb8 hb8.size);(obtain ⟨za,zc,hze⟩:=ownE_slice ho8);(obtain ⟨zn,hzn⟩:∃ k,k=(L.drop (m)).length:=⟨_,rfl⟩);rw[← hzn] at hze;clear ho8 hb8 hzn;subst hze))
    | (go_simp;go_at_call 41;((with_reducible refine (HCc.out _ HLen.out _ _ (isEE_three w8 _ _ _ _ _ _ HI68.out HI78.out HI8.out) (by simp)).mono ?_);rintro e w9 ⟨u9,rfl,hi9,hc9,hb9⟩;have HI9:=Lib.hid hi9;have HC9:=Lib.hid hc9;have HB9:=Lib.hid (bthen HB8.out (Below.trans ((Below.refl w8.heap.size w8).alloc (Nat.le_refl _) _) (hb9.mono (by simp))));clear hi9 hc9 hb9)))
   all_goals
    go_wp2;go_ret;exact ⟨_,rfl,by have:=HI9.out;rw[HRes.out] at this;first | exact this | simpa using this,HC9.out,HB9.out⟩
  ·have t1:decide (I<0)=false:=by simpa using hneg
   obtain ⟨i,hi⟩:∃ i:Nat,I=(i:Int):=⟨I.toNat,by omega⟩;have HFrom:Hid (fromK (keysE L) K.data.toList=i):=Lib.hid (by unfold fromK;rw[← HI.out,if_neg hneg,hi];rfl);have HTo:Hid (toK (keysE L) K.data.toList=i+1):=Lib.hid (by unfold toK;rw[← HI.out,if_neg hneg,hi];rfl);have hin:i<n:=by
    have h1:=findK_lt (HI.out.symm.trans hi);rw[keysE_len] at h1;rw[HN.out];exact h1
   subst hi;have ew:IntKind.i64.wrap ((i:Int)+1)=(i:Int)+1:=IntWalk.i64_in _ (by omega);clear hneg
   go_upto_region 10 with (go_at_call 37;refine (HPl.out).mono ?_;rintro e w5 ⟨rfl,kv,mv,hmd,hg⟩;have HB5:=Lib.hid (HB3.out.trans ((below_idx HB4a.out hg (Nat.le_refl _)).mono HB3.out.size));have h0:=hg.cell v0 (fun e=>by have:=Option.some.inj e;simp at this;omega);have h1:=hg.cell v1 (fun e=>by have:=Option.some.inj e;simp at this;omega);have hs5:w3.heap.size<w5.heap.size:=hmd.box.lt;clear hmd hg)
   have HTk:Hid (∀ W,Below w.heap.size w W→IsE W.heap.size W (L.take i) (.slice (some ⟨b,off,none⟩) i lc)):=Lib.hid (fun W hW=>IsE.take (HIsE.out.below hW hW.size) i (by have:=HN.out;omega) lc);obtain ⟨A2,hA2⟩:∃ A2:Option Addr,(if lc=i+1 then some (⟨b,off,none⟩:Addr) else some ⟨b,off+(i+1) * 2,none⟩)=A2:=⟨_,rfl⟩
   have HDr:Hid (∀ W,Below w.heap.size w W→IsE W.heap.size W (L.drop (i+1)) (.slice A2 (n - (i+1)) (lc - (i+1)))):=Lib.hid (fun W hW=>by
    have hN:=HN.out;rw[← hA2]
    by_cases e:lc=i+1
    ·have h0:L.drop (i+1)=[]:=List.drop_eq_nil_of_le (by omega);rw[h0,show n - (i+1)=0 from by omega];exact isE_nil _ _ _ _
    ·rw[if_neg e];have:=IsE.drop (HIsE.out.below hW hW.size) (i+1) (by omega) (lc - (i+1));rw[← hN] at this
     exact this)
   have q1:(i≤lc)=True:=by simp;omega
   have q2:(i+1≤n)=True:=by simp;omega
   have q3:(n≤lc)=True:=by simp;omega
   have q4:(0:Int)≤(i:Int):=by omega
   have q5:(((i:Int)+1)).toNat=i+1:=by omega
   have q6:(0≤((i:Int)+1))=True:=by simp;try omega
   have q7:(((i:Int)+1)≤(n:Int))=True:=by simp;omega
   have HRes:Hid ([L.take i,[(D.data.toList,A)],L.drop (i+1)].flatten=L.take (fromK (keysE L) K.data.toList)++[(D.data.toList,A)]++L.drop (toK (keysE L) K.data.toList)):=Lib.hid (by rw[HFrom.out,HTo.out];simp);have HLen:Hid (([L.take i,[(D.data.toList,A)],L.drop (i+1)]:List (List ET)).flatten.length≤100000):=Lib.hid (by have:=HN.out;simp;omega);have hz5:w.heap.size<w5.heap.size:=by omega
   have HB5d:=Lib.hid HB5.out.drew;have HB5e:Hid (Below w.heap.size w (w5.alloc (.cells #[.string D,.slice ua un uc] 27)).drew):=Lib.hid ((HB5.out.alloc HB5.out.size _).drew);have HE5:Hid (IsE (w5.alloc (.cells #[.string D,.slice ua un uc] 27)).drew.heap.size (w5.alloc (.cells #[.string D,.slice ua un uc] 27)).drew [(D.data.toList,A)] (.slice (some ⟨w5.heap.size,0,none⟩) 1 1)):=Lib.hid (isE_one w5 D A _ (HUb.out _ HB5.out));have j0:w5.drew.cell? ⟨w.heap.size,0,none⟩=some (.string D):=h0;have j1:w5.drew.cell? ⟨w.heap.size,1,none⟩=some (.slice ua un uc):=h1;have tok1:Hid ((0:Nat)=0):=Lib.hid rfl;have tok2:Hid ((1:Nat)=1):=Lib.hid rfl
   go_region_law (first
    | (go_simp;go_at_call 42;(have _t:=tok1);clear tok1;((with_reducible refine (HCp.out _ (smallE_take HS.out i) _ w5.drew (HTk.out _ HB5d.out)).mono ?_);rintro e w6 ⟨u6,rfl,ho6,hb6⟩;have HB6:=Lib.hid (bthen HB5d.out hb6);have HI6:=Lib.hid (HT1.out _ _ _ _ ho6);have k0:w6.cell? ⟨w.heap.size,0,none⟩=some (.string D):=(hb6.cell (p:=⟨w.heap.size,0,none⟩) hz5).trans h0;have k1:w6.cell? ⟨w.heap.size,1,none⟩=some (.slice ua un uc):=(hb6.cell (p:=⟨w.heap.size,1,none⟩) hz5).trans h1;have HE6:=Lib.hid (isE_one w6 D A _ (HUb.out _ HB6.out));have HBE6:Hid (Below w.heap.size w (w6.alloc (.cells #[.string D,.slice ua un uc] 27))):=Lib.hid (HB6.out.alloc HB6.out.size _);have HI6a:Hid (IsE (w6.alloc (.cells #[.string D,.slice ua un uc] 27)).heap.size (w6.alloc (.cells #[.string D,.slice ua un uc] 27)) (L.take i) u6):=Lib.hid (HI6.out.below ((Below.refl w6.heap.size w6).alloc (Nat.le_refl _) (.cells #[.string D,.slice ua un uc] 27)) (by simp));(obtain ⟨xa,xc,hxe⟩:=ownE_slice ho6);(obtain ⟨xn,hxn⟩:∃ k,k=(L.take i).length:=⟨_,rfl⟩);rw[← hxn] at hxe;clear ho6 hb6 hxn;subst hxe))
    | (go_simp;go_at_call 42;(have _t:=tok1);clear tok1;((with_reducible refine (HCp.out _ (smallE_take HS.out i) _ (w5.alloc (.cells #[.string D,.slice ua un uc] 27)).drew (HTk.out _ HB5e.out)).mono ?_);rintro e w6 ⟨u6,rfl,ho6,hb6⟩;have HB6:=Lib.hid (bthen HB5e.out hb6);have HI6:=Lib.hid (HT1.out _ _ _ _ ho6);have HE6b:=Lib.hid (HE5.out.below hb6 hb6.size);(obtain ⟨xa,xc,hxe⟩:=ownE_slice ho6);(obtain ⟨xn,hxn⟩:∃ k,k=(L.take i).length:=⟨_,rfl⟩);rw[← hxn] at hxe;clear ho6 hb6 hxn;subst hxe))
    | (go_simp;go_at_call 42;(have _t:=tok2);clear tok2;((with_reducible refine (HCp.out _ HOne.out _ (w6.alloc (.cells #[.string D,.slice ua un uc] 27)) HE6.out).mono ?_);rintro e w7 ⟨u7,rfl,ho7,hb7⟩;have HB7:=Lib.hid (bthen HBE6.out hb7);have HI7:=Lib.hid (HT3.out _ _ _ ho7);have HI67:=Lib.hid (HI6a.out.below hb7 hb7.size);(obtain ⟨ya,yc,hye⟩:=ownE_slice ho7);(obtain ⟨yn,hyn⟩:∃ k,k=[(D.data.toList,A)].length:=⟨_,rfl⟩);rw[← hyn] at hye;clear ho7 hb7 hyn;subst hye))
    | (go_simp;go_at_call 42;(have _t:=tok2);clear tok2;((with_reducible refine (HCp.out _ HOne.out _ w6 HE6b.out).mono ?_);rintro e w7 ⟨u7,rfl,ho7,hb7⟩;have HB7:=Lib.hid (bthen HB6.out hb7);have HI7:=Lib.hid (HT3.out _ _ _ ho7);have HI67:=Lib.hid (HI6.out.below hb7 hb7.size);(obtain ⟨ya,yc,hye⟩:=ownE_slice ho7);(obtain ⟨yn,hyn⟩:∃ k,k=[(D.data.toList,A)].length:=⟨_,rfl⟩);rw[← hyn] at hye;clear ho7 hb7 hyn;subst hye))
    | (go_simp;go_at_call 42;((with_reducible refine (HCp.out _ (smallE_drop HS.out (i+1)) _ w7 (HDr.out _ HB7.out)).mono ?_);rintro e w8 ⟨u8,rfl,ho8,hb8⟩;have HB8:=Lib.hid (bthen HB7.out hb8);have HI8:=Lib.hid (HT2.out _ _ _ _ ho8);have HI68:=Lib.hid (HI67.out.below hb8 hb8.size);have HI78:=Lib.hid (HI7.out.below hb8 hb8.size);(obtain ⟨za,zc,hze⟩:=ownE_slice ho8);(obtain ⟨zn,hzn⟩:∃ k,k=(L.drop (i+1)).length:=⟨_,rfl⟩);rw[← hzn] at hze;clear ho8 hb8 hzn;subst hze))
    | (go_simp;go_at_call 41;((with_reducible refine (HCc.out _ HLen.out _ _ (isEE_three w8 _ _ _ _ _ _ HI68.out HI78.out HI8.out) (by simp)).mono ?_);rintro e w9 ⟨u9,rfl,hi9,hc9,hb9⟩;have HI9:=Lib.hid hi9;have HC9:=Lib.hid hc9;have HB9:=Lib.hid (bthen HB8.out (Below.trans ((Below.refl w8.heap.size w8).alloc (Nat.le_refl _) _) (hb9.mono (by simp))));clear hi9 hc9 hb9)))
   all_goals
    go_wp2;go_ret;exact ⟨_,rfl,by have:=HI9.out;rw[HRes.out] at this;first | exact this | simpa using this,HC9.out,HB9.out⟩
theorem wpList_append_list {n0:Nat} {ops:Array Oper} {rest:List Oper} {o:Oper} {a:Act} {w:World} {Q:Exit→Act→World→Prop} (hgd:o.guard=none) (sl x:Operand)
  (ho:o.op=.call { callee:=.builtin .append,args:=#[sl,x],argTypes:=#[23,23] })
  (base:Nat) (v xv:Value) (L M:List ET) (hs:a.eval sl=v) (hown:OwnE (fun b=>b<n0) base w v L) (hx:a.eval x=xv) (hM:IsEo (fun b=>b<n0) w M xv) (hn0:n0≤base)
  (h63:L.length+M.length≤1000000) (hbase:base≤w.heap.size)
  (h:∀ v' w',OwnE (fun b=>b<n0) base w' v' (L++M)→Below base w w'→wpList Tryz.prog ops Q rest (a.put o.dst v') w'):wpList Tryz.prog ops Q (o :: rest) a w:=by
 obtain ⟨xa,xc,rfl,hxm,hcell⟩:=id hM
 by_cases hne:M=[]
 ·subst hne;obtain ⟨i0,hi,hz0,hz1,hz2⟩:=info_parts infoE;have hcap:=ownE_cap hown;obtain ⟨sa,sc,rfl⟩:=ownE_slice hown;have hle:L.length≤sc:=by
   cases sa with
   | none=>have:=hcap.1;omega
   | some ad=>exact hcap.1
  have hsrc:Src Tryz.prog i0.size 23 (.slice xa 0 xc) 0 [] w:=by
   cases xa with
   | none=>exact Src.ofNil _ Tryz.underlying23 xc
   | some ad=>exact Src.ofSlice _ Tryz.underlying23 ad 0 xc [] (by simp) (by simp) (by simp)
  have hrun:=fun ty=>run_append_nothing w 23 23 ty 27 i0 Tryz.underlying23 hi sa L.length sc hle (.slice xa 0 xc) hsrc
  refine Lib.wpList_append_run _ hgd _ _ _ _ ho _ _ hs hx _ _ (hrun _) ?_;exact h _ w (by rw[List.append_nil];exact hown) (Below.refl _ _)
 ·obtain ⟨b,off,u,rfl,hb,_⟩:=hcell 0 (List.length_pos_iff.2 hne);obtain ⟨PM,hPM,_,hPc⟩:=isE_cells hM;refine wpList_append_entries hgd sl x ho base v L M hs b off M.length xc hown PM hPM hPc hx rfl (fun k hk=>⟨by omega,fun e=>?_⟩) h63 hbase hne (fun v' w' ho' hb' _ _=>h v' w' ho' hb');obtain ⟨P,hr,_⟩:=hown;have:=(World.ownsRow.lt hr k e.symm).1;omega
theorem wpList_append_ent {n0:Nat} {ops:Array Oper} {rest:List Oper} {o:Oper} {a:Act} {w:World} {Q:Exit→Act→World→Prop} (hgd:o.guard=none) (sl x:Operand)
  (ho:o.op=.call { callee:=.builtin .append,args:=#[sl,x],argTypes:=#[23,23] })
  (base:Nat) (v:Value) (L:List ET) (X:ByteArray) (u:Value) (A:List AT) (hs:a.eval sl=v) (hown:OwnE (fun b=>b<n0) base w v L) (hx:a.eval x=.slice (some ⟨w.heap.size,0,none⟩) 1 1) (hA:IsAo (fun b=>b<n0) w A u) (hn0:n0≤base)
  (h63:L.length+1≤1000000) (hbase:base≤w.heap.size)
  (h:∀ v' w',OwnE (fun b=>b<n0) base w' v' (L++[(X.data.toList,A)])→Below base w w'→wpList Tryz.prog ops Q rest (a.put o.dst v') w'):wpList Tryz.prog ops Q (o :: rest) a (w.alloc (.cells #[.string X,u] 27)):=by
 have hb:Below w.heap.size w (w.alloc (.cells #[.string X,u] 27)):=(Below.refl _ _).alloc (Nat.le_refl _) _;have hown':=ownE_below (ok':=fun b=>b<n0) hown hb (fun b hk=>by omega) (fun _ h=>h);have hA':=hA.imp (ok':=fun b=>b<n0) (w':=w.alloc (.cells #[.string X,u] 27)) (fun _ h=>h) (fun b o hk=>hb.cell (p:=⟨b,o,none⟩) (by show b<_;omega))
 have hsay:SaysE (fun b=>b<n0) (w.alloc (.cells #[.string X,u] 27)) [(X.data.toList,u)] [(X.data.toList,A)]:=⟨rfl,fun j h1 h2=>by
  have:j=0:=by simp at h1;omega
  subst this
  exact ⟨rfl,hA'⟩⟩
 refine wpList_append_entries hgd sl x ho base v L [(X.data.toList,A)] hs w.heap.size 0 1 1 hown' [(X.data.toList,u)] hsay ?_ hx rfl (fun k hk=>⟨by have:=hb.size;omega,fun e=>?_⟩) h63 (Nat.le_trans hbase hb.size) (by simp) (fun v' w' ho' hb' _ _=>h v' w' ho' ((hb.mono hbase).trans hb'))
 ·intro j y hy;have e:cellsP [(X.data.toList,u)]=[.string X,u]:=by
   show [strV X.data.toList,u]=_
   rw[strV_whole]
  rw[e] at hy;exact newsE w _ _ j y hy
 ·obtain ⟨P,hr,_⟩:=hown;have:=(World.ownsRow.lt hr k e.symm).1;omega
set_option maxRecDepth 100000 in
set_option maxHeartbeats 4000000 in
theorem findR7_any (L:List ET) (hs:smallE L) (v:Value) (K:ByteArray) (w:World) (h:IsE w.heap.size w L v) :
  Calls Tryz.prog 13 #[v,.string K] w fun e w'=>e=.returned (.int .i64 (idxK (keysE L) K.data.toList))∧Below w.heap.size w w':=by
 obtain ⟨a,c,rfl,hm,hcell⟩:=h;have hL:=hs.1;obtain ⟨n,hn⟩:∃ n,n=L.length:=⟨_,rfl⟩;rw[← hn] at hm hL ⊢;unfold maxLen at hm;have HN:=Lib.hid hn;have HC:=Lib.hid hcell;have HS:=Lib.hid hs;obtain ⟨I,hI⟩:∃ I,I=idxK (keysE L) K.data.toList:=⟨_,rfl⟩;rw[← hI];have HI:=Lib.hid hI;clear hcell hs hI hn;go_enter Tryz.func13,Tryz.ntmps13
 go_wp2
 go_loopw [5] (fun i wr=>∃ j:Nat,j≤n∧i=.int .i64 j∧Hid (∀ i (hi:i<L.length),i<j→kE L[i]≠K.data.toList)∧Below w.heap.size w wr) (fun i wr=>n - (intOf i).toNat)
 case atStart=>exact ⟨0,by omega,rfl,Lib.hid (fun _ _ h=>absurd h (by omega)),Below.refl _ _⟩
 case round=>
  obtain ⟨j,hj,rfl,HAll,hbel⟩:=hrel;have HBel:=Lib.hid hbel;have hbs:=hbel.size
  by_cases hlt:j<n
  ·have t1:decide ((j:Int)<(n:Int))=true:=by simp;omega
   have t1':decide (j<n)=true:=by simpa using hlt
   have q1:(j:Int)<(n:Int):=by omega
   have hjL:j<L.length:=by rw[← HN.out];exact hlt
   obtain ⟨b,off,u,rfl,hb0,c0,c1,ht⟩:=HC.out j hjL;replace ht:=IsAo.isA ht;obtain ⟨ua,un,uc,rfl⟩:=ht.sl;obtain ⟨X,hX⟩:∃ X:ByteArray,ofL L[j].1=X:=⟨_,rfl⟩;have hXl:X.data.toList=L[j].1:=by rw[← hX,ofL_list]
   have d0:(wr.cell? ⟨b,off+j * 2,none⟩)=some (.string X):=by
    rw[hbel.cell (p:=⟨b,_,none⟩) hb0,c0,← hX];rfl
   have d1:=(hbel.cell (p:=⟨b,off+j * 2+1,none⟩) hb0).trans c1;have hXs:X.size≤100000:=by rw[← bytes_len,hXl];exact (HS.out.2 _ (List.getElem_mem hjL)).1
   have hkey:=fun W=>keyR_any X hXs ua un uc W
   obtain ⟨Y,hY⟩:∃ Y,Y=keyB (keyD X.data.toList):=⟨_,rfl⟩;rw[← hY] at hkey;have hYl:Y.data.toList=kE L[j]:=by rw[hY,keyB_list,hXl];rfl
   have HKey:=Lib.hid hkey;have HYl:=Lib.hid hYl;clear hX hXl c0 c1 ht hkey hY hYl hbel
   by_cases he:Y=K
   ·have q2:(K.toList == K.toList)=true:=by simp
    have HF:Hid (I=(j:Int)):=Lib.hid (HI.out.trans (idxK_at j (by rw[keysE_len];exact hjL) (fun i hi hij=>by rw[keysE_at L i (by rw[keysE_len] at hi;exact hi)];exact HAll.out i _ hij) (by rw[keysE_at L j hjL,← HYl.out,he])));subst he
    go_wp2_with (go_at_call 11;refine (HKey.out _).mono ?_;rintro e w2 ⟨rfl,hb2⟩;have HB2:=Lib.hid (HBel.out.trans (hb2.mono hbs));clear hb2)
    go_ret;exact ⟨by rw[HF.out];rfl,HB2.out⟩
   ·have q2:=str_ne he
    have HN1:Hid (∀ i (hi:i<L.length),i<j+1→kE L[i]≠K.data.toList):=Lib.hid (fun i h1 h3=>by
     by_cases hk:i<j
     ·exact HAll.out i h1 hk
     ·obtain rfl:i=j:=by omega
      rw[← HYl.out]
      exact fun e=>he (bytes_ext e))
    clear he
    go_wp2_with (go_at_call 11;refine (HKey.out _).mono ?_;rintro e w2 ⟨rfl,hb2⟩;have HB2:=Lib.hid (HBel.out.trans (hb2.mono hbs));clear hb2)
    go_roundw
    case rel=>exact ⟨j+1,by omega,by go_num,HN1,HB2.out⟩
    case measure=>simp[intOf];omega
  ·obtain rfl:j=n:=by omega
   have t1:decide ((j:Int)<(j:Int))=false:=by simp
   have t1':decide (j<j)=false:=by simp
   have HF:Hid (I = -1):=Lib.hid (HI.out.trans (idxK_no (fun hm=>by
    obtain ⟨e,he,hk⟩:=List.mem_map.1 hm;obtain ⟨i,hi,rfl⟩:=List.getElem_of_mem he
    exact HAll.out i hi (by rw[HN.out];exact hi) hk)))
   clear hbel;go_wp2;go_ret;exact ⟨by rw[HF.out];rfl,HBel.out⟩
theorem kidsT_take (KS:List KL) (k:KL) (j:Nat) (h:j<KS.length):kidsT (KS.take (j+1)) k=kidsT (KS.take j) k++(if (upD KS[j] == k && !(KS[j] == k))=true then [KS[j]] else []):=by
 unfold kidsT;rw[List.take_succ_eq_append_getElem h,List.filter_append]
 congr 1
 cases e:(upD KS[j] == k && !(KS[j] == k)) <;> simp only[List.filter,e] <;> simp
theorem kidsT_len (KS:List KL) (k:KL) (j:Nat):(kidsT (KS.take j) k).length≤j:=Nat.le_trans (List.length_filter_le _ _) (List.length_take_le _ _)
set_option maxRecDepth 100000 in
set_option maxHeartbeats 4000000 in
theorem kidsR7_any (L:List ET) (hs:smallE L) (v:Value) (K:ByteArray) (w:World) (h:IsE w.heap.size w L v) :
  Calls Tryz.prog 16 #[v,.string K] w fun e w'=>∃ v',e=.returned v'∧OwnS w.heap.size w' v' (kidsT (keysE L) K.data.toList)∧Below w.heap.size w w':=by
 obtain ⟨a,c,rfl,hm,hcell⟩:=h;have hL:=hs.1;obtain ⟨n,hn⟩:∃ n,n=L.length:=⟨_,rfl⟩;rw[← hn] at hm hL ⊢;unfold maxLen at hm;obtain ⟨KS,hKS⟩:∃ KS,KS=keysE L:=⟨_,rfl⟩;have hKl:KS.length=L.length:=by rw[hKS,keysE_len]
 rw[← hKS];have HKs:=Lib.hid hKS;have HKn:=Lib.hid hKl;have HN:=Lib.hid hn;have HC:=Lib.hid hcell;have HS:=Lib.hid hs;clear hcell hs hn hKS hKl;go_enter Tryz.func16,Tryz.ntmps16
 go_wp2
 go_loopw [5,6] (fun l i wr=>∃ j:Nat,j≤n∧i=.int .i64 j∧OwnS w.heap.size wr l (kidsT (KS.take j) K.data.toList)∧Below w.heap.size w wr) (fun _ i wr=>n - (intOf i).toNat)
 case atStart=>exact ⟨0,by omega,rfl,ownS_nil _ _,Below.refl _ _⟩
 case round=>
  obtain ⟨j,hj,rfl,hown,hbel⟩:=hrel;have HBel:=Lib.hid hbel;have hbs:=hbel.size;obtain ⟨sa,sc,hsv⟩:=ownS_slice hown;obtain ⟨G,hG⟩:∃ G,G=kidsT (KS.take j) K.data.toList:=⟨_,rfl⟩;have hGl:=kidsT_len KS K.data.toList j;rw[← hG] at hsv hGl hown;obtain ⟨sn,hsn⟩:∃ k,k=G.length:=⟨_,rfl⟩;rw[← hsn] at hsv hGl;subst hsv;have HG:=Lib.hid hG;have HSn:=Lib.hid hsn;have HOwn:=Lib.hid hown;clear hown hsn hG
  by_cases hlt:j<n
  ·have t1:decide ((j:Int)<(n:Int))=true:=by simp;omega
   have t1':decide (j<n)=true:=by simpa using hlt
   have q1:(j:Int)<(n:Int):=by omega
   have hjL:j<L.length:=by rw[← HN.out];exact hlt
   have hjK:j<KS.length:=by rw[HKn.out];exact hjL
   obtain ⟨b,off,u,rfl,hb0,c0,c1,ht⟩:=HC.out j hjL;replace ht:=IsAo.isA ht;obtain ⟨ua,un,uc,rfl⟩:=ht.sl;obtain ⟨X,hX⟩:∃ X:ByteArray,ofL L[j].1=X:=⟨_,rfl⟩;have hXl:X.data.toList=L[j].1:=by rw[← hX,ofL_list]
   have d0:(wr.cell? ⟨b,off+j * 2,none⟩)=some (.string X):=by
    rw[hbel.cell (p:=⟨b,_,none⟩) hb0,c0,← hX];rfl
   have d1:=(hbel.cell (p:=⟨b,off+j * 2+1,none⟩) hb0).trans c1;have hXs:X.size≤100000:=by rw[← bytes_len,hXl];exact (HS.out.2 _ (List.getElem_mem hjL)).1
   have hkey:=fun W=>keyR_any X hXs ua un uc W
   obtain ⟨Y,hY⟩:∃ Y,Y=keyB (keyD X.data.toList):=⟨_,rfl⟩;rw[← hY] at hkey;have hYl:Y.data.toList=KS[j]:=by
    rw[hY,keyB_list,hXl];have hKS:=HKs.out;subst hKS;exact (keysE_at L j hjL).symm
   have hYs:Y.size≤100000:=by
    have:=keyB_size X.data.toList;rw[← hY,bytes_len] at this;omega
   have hup:=fun w=>upRef_any Y w (by omega)
   obtain ⟨U,hU⟩:∃ U,U=upB Y:=⟨_,rfl⟩;rw[← hU] at hup;have hUl:U.data.toList=upD KS[j]:=by rw[hU,upK_list,hYl]
   have HUp:=Lib.hid hup;have HKey:=Lib.hid hkey;have hnew:=kidsT_take KS K.data.toList j hjK;rw[← HG.out,← hUl,← hYl] at hnew;have HNew0:=Lib.hid hnew;clear hX hXl c0 c1 ht hkey hY hYl hbel hU hup hUl hnew hYs
   by_cases heq:U=K
   ·by_cases hyk:Y=K
    ·have q2:(K.toList == K.toList)=true:=by simp
     have HNew:Hid (kidsT (KS.take (j+1)) K.data.toList=G):=Lib.hid (by
      have:=HNew0.out;rw[if_neg (by rw[hyk];simp),List.append_nil] at this
      exact this)
     subst heq hyk
     go_wp2_with (first
      | (go_at_call 11;refine (HKey.out _).mono ?_;rintro e w2 ⟨rfl,hb2⟩;have HB2:=Lib.hid (HBel.out.trans (hb2.mono hbs));have HO2:=Lib.hid (ownS_below HOwn.out hb2);clear hb2)
      | (go_at_call 25;refine (HUp.out _).mono ?_;rintro e w3 ⟨rfl,rfl⟩))
     go_roundw
     case rel=>exact ⟨j+1,by omega,by go_num,by rw[HNew.out];exact HO2.out,HB2.out⟩
     case measure=>simp[intOf];omega
    ·have q2:(K.toList == K.toList)=true:=by simp
     have q3:=str_ne hyk
     have HNew:Hid (kidsT (KS.take (j+1)) K.data.toList=G++[Y.data.toList]):=Lib.hid (by
      have:=HNew0.out
      rw[if_pos (by
       rw[heq];simp only[beq_self_eq_true,Bool.true_and,Bool.not_eq_true',beq_eq_false_iff_ne]
       exact fun e=>hyk (bytes_ext e))] at this
      exact this)
     clear hyk;subst heq
     go_wp2_with (first
      | (go_at_call 11;refine (HKey.out _).mono ?_;rintro e w2 ⟨rfl,hb2⟩;have hbs2:=Nat.le_trans hbs hb2.size;have HB2:=Lib.hid (HBel.out.trans (hb2.mono hbs));have HO2:=Lib.hid (ownS_below HOwn.out hb2);clear hb2)
      | (go_at_call 25;refine (HUp.out _).mono ?_;rintro e w3 ⟨rfl,rfl⟩)
      | (at_builtin;refine wpList_append_text rfl (.tmp 28) (.tmp 30) rfl w.heap.size (.slice sa sn sc) G rfl Y HO2.out rfl (by rw[← HSn.out];omega) (by omega) ?_;intro v5 w5 hown5 hb5;have HO5:=Lib.hid hown5;have HB5:=Lib.hid (HB2.out.trans hb5);clear hown5 hb5))
     go_roundw
     case rel=>exact ⟨j+1,by omega,by go_num,by rw[HNew.out];exact HO5.out,HB5.out⟩
     case measure=>simp[intOf];omega
   ·have q2:=str_ne heq
    have HNew:Hid (kidsT (KS.take (j+1)) K.data.toList=G):=Lib.hid (by
     have:=HNew0.out
     rw[if_neg (by
      simp only[Bool.and_eq_true,beq_iff_eq,not_and]
      exact fun e=>absurd (bytes_ext e) heq),List.append_nil] at this
     exact this)
    clear heq
    go_wp2_with (first
     | (go_at_call 11;refine (HKey.out _).mono ?_;rintro e w2 ⟨rfl,hb2⟩;have HB2:=Lib.hid (HBel.out.trans (hb2.mono hbs));have HO2:=Lib.hid (ownS_below HOwn.out hb2);clear hb2)
     | (go_at_call 25;refine (HUp.out _).mono ?_;rintro e w3 ⟨rfl,rfl⟩))
    go_roundw
    case rel=>exact ⟨j+1,by omega,by go_num,by rw[HNew.out];exact HO2.out,HB2.out⟩
    case measure=>simp[intOf];omega
  ·obtain rfl:j=n:=by omega
   have t1:decide ((j:Int)<(j:Int))=false:=by simp
   have t1':decide (j<j)=false:=by simp
   have HF:Hid (G=kidsT KS K.data.toList):=Lib.hid (by rw[HG.out,List.take_of_length_le (by rw[HKn.out,← HN.out];exact Nat.le_refl _)]);clear hbel;go_wp2;go_ret;exact ⟨_,rfl,by rw[← HF.out];exact HOwn.out,HBel.out⟩
theorem delD_take (L:List ET) (k:KL) (j:Nat) (h:j<L.length):delD (L.take (j+1)) k=delD (L.take j) k++(if (kE L[j] == k)=true then [] else [L[j]]):=by
 unfold delD;rw[List.take_succ_eq_append_getElem h,List.filter_append]
 congr 1
 cases e:(kE L[j] == k) <;> simp only[List.filter,e] <;> simp
theorem delD_len (L:List ET) (k:KL) (j:Nat):(delD (L.take j) k).length≤j:=Nat.le_trans (List.length_filter_le _ _) (List.length_take_le _ _)
theorem ownE_empty {ok:Nat→Prop} {B b:Nat} {w:World} (hb:w.heap[b]?=some (.cells #[] 27 (0,0))) (hB:B≤b):OwnE ok B w (.slice (some ⟨b,0,none⟩) 0 0) []:=
 ⟨[],⟨rfl,.inr ⟨b,0,#[],rfl,hB,hb,Nat.le_refl _,Nat.zero_le _,rfl,rfl⟩⟩,rfl,fun j h=>absurd h (by simp)⟩
set_option maxRecDepth 100000 in
set_option maxHeartbeats 4000000 in
theorem delR7_any (L:List ET) (hs:smallE L) (v:Value) (K:ByteArray) (w:World) (h:IsE w.heap.size w L v) :
  Calls Tryz.prog 21 #[v,.string K] w fun e w'=>∃ v',e=.returned v'∧IsE w'.heap.size w' (delD L K.data.toList) v'∧capV v'∧Below w.heap.size w w':=by
 obtain ⟨a,c,rfl,hm,hcell⟩:=h;have hL:=hs.1;obtain ⟨n,hn⟩:∃ n,n=L.length:=⟨_,rfl⟩;rw[← hn] at hm hL ⊢;unfold maxLen at hm;have HN:=Lib.hid hn;have HC:=Lib.hid hcell;have HS:=Lib.hid hs;clear hcell hs hn;go_enter Tryz.func21,Tryz.ntmps21
 go_wp2
 go_loopw [5,6] (fun l i wr=>∃ j:Nat,j≤n∧i=.int .i64 j∧OwnE (fun b=>b<w.heap.size) w.heap.size wr l (delD (L.take j) K.data.toList)∧Below w.heap.size w wr) (fun _ i wr=>n - (intOf i).toNat)
 case atStart=>exact ⟨0,by omega,rfl,ownE_nil _ _ _,Below.refl _ _⟩
 case round=>
  obtain ⟨j,hj,rfl,hown,hbel⟩:=hrel;have HBel:=Lib.hid hbel;have hbs:=hbel.size;obtain ⟨sa,sc,hsv⟩:=ownE_slice hown;obtain ⟨G,hG⟩:∃ G,G=delD (L.take j) K.data.toList:=⟨_,rfl⟩;have hGl:=delD_len L K.data.toList j;rw[← hG] at hsv hGl hown;obtain ⟨sn,hsn⟩:∃ k,k=G.length:=⟨_,rfl⟩;rw[← hsn] at hsv hGl;subst hsv;have HG:=Lib.hid hG;have HSn:=Lib.hid hsn;have HOwn:=Lib.hid hown;clear hown hsn hG
  by_cases hlt:j<n
  ·have t1:decide ((j:Int)<(n:Int))=true:=by simp;omega
   have t1':decide (j<n)=true:=by simpa using hlt
   have q1:(j:Int)<(n:Int):=by omega
   have hjL:j<L.length:=by rw[← HN.out];exact hlt
   obtain ⟨b,off,u,rfl,hb0,c0,c1,hto⟩:=HC.out j hjL;have ht:=IsAo.isA hto;obtain ⟨ua,un,uc,rfl⟩:=ht.sl;obtain ⟨X,hX⟩:∃ X:ByteArray,ofL L[j].1=X:=⟨_,rfl⟩;have hXl:X.data.toList=L[j].1:=by rw[← hX,ofL_list]
   have d0:(wr.cell? ⟨b,off+j * 2,none⟩)=some (.string X):=by
    rw[hbel.cell (p:=⟨b,_,none⟩) hb0,c0,← hX];rfl
   have d1:=(hbel.cell (p:=⟨b,off+j * 2+1,none⟩) hb0).trans c1;have hXs:X.size≤100000:=by rw[← bytes_len,hXl];exact (HS.out.2 _ (List.getElem_mem hjL)).1
   have hkey:=fun W=>keyR_any X hXs ua un uc W
   obtain ⟨Y,hY⟩:∃ Y,Y=keyB (keyD X.data.toList):=⟨_,rfl⟩;rw[← hY] at hkey;have hYl:Y.data.toList=kE L[j]:=by rw[hY,keyB_list,hXl];rfl
   have HKey:=Lib.hid hkey;have hnew:=delD_take L K.data.toList j hjL;rw[← HG.out,← hYl,show L[j]=(X.data.toList,L[j].2) from by rw[hXl]] at hnew;have HNew0:=Lib.hid hnew;have HTo:=Lib.hid hto;clear hX hXl c0 c1 ht hto hkey hY hYl hnew
   by_cases heq:Y=K
   ·have q2:(K.toList == K.toList)=true:=by simp
    have HNew:Hid (delD (L.take (j+1)) K.data.toList=G):=Lib.hid (by
     have:=HNew0.out;rw[if_pos (by rw[heq];simp),List.append_nil] at this
     exact this)
    subst heq;clear hbel
    go_wp2_with (go_at_call 11;refine (HKey.out _).mono ?_;rintro e w2 ⟨rfl,hb2⟩;have HB2:=Lib.hid (HBel.out.trans (hb2.mono hbs));have HO2:=Lib.hid (ownE_below (ok':=fun b=>b<w.heap.size) HOwn.out hb2 (fun b hk=>Nat.lt_of_lt_of_le hk hbs) (fun _ h=>h));clear hb2)
    go_roundw
    case rel=>exact ⟨j+1,by omega,by go_num,by rw[HNew.out];exact HO2.out,HB2.out⟩
    case measure=>simp[intOf];omega
   ·have q2:=str_ne heq
    have HNew:Hid (delD (L.take (j+1)) K.data.toList=G++[(X.data.toList,L[j].2)]):=Lib.hid (by
     have:=HNew0.out
     rw[if_neg (by
      simp only[beq_iff_eq]
      exact fun e=>heq (bytes_ext e))] at this
     exact this)
    have HD0:=Lib.hid (fun (W:World) (hW:Below w.heap.size w W)=>(hW.cell (p:=⟨b,off+j * 2,none⟩) hb0).trans ((hbel.cell (p:=⟨b,off+j * 2,none⟩) hb0).symm.trans d0));have HD1:=Lib.hid (fun (W:World) (hW:Below w.heap.size w W)=>(hW.cell (p:=⟨b,off+j * 2+1,none⟩) hb0).trans ((hbel.cell (p:=⟨b,off+j * 2+1,none⟩) hb0).symm.trans d1));have HToW:=Lib.hid (fun (W:World) (hW:Below w.heap.size w W)=>HTo.out.imp (ok':=fun b=>b<w.heap.size) (fun _ h=>h) (fun b o hk=>hW.cell (p:=⟨b,o,none⟩) hk));clear heq hbel
    go_wp2_with (first
     | (go_at_call 11;refine (HKey.out _).mono ?_;rintro e w2 ⟨rfl,hb2⟩;have hbs2:=Nat.le_trans hbs hb2.size;have HB2:=Lib.hid (HBel.out.trans (hb2.mono hbs));have r0:=HD0.out _ HB2.out;have r1:=HD1.out _ HB2.out;have HO2:=Lib.hid (ownE_below (ok':=fun b=>b<w.heap.size) HOwn.out hb2 (fun b hk=>Nat.lt_of_lt_of_le hk hbs) (fun _ h=>h));clear hb2)
     | (at_builtin;refine wpList_append_ent rfl (.tmp 20) (.tmp 25) rfl w.heap.size (.slice sa sn sc) G X (.slice ua un uc) L[j].2 rfl HO2.out rfl (HToW.out _ HB2.out) (Nat.le_refl _) (by rw[← HSn.out];omega) hbs2 ?_;intro v5 w5 hown5 hb5;have HO5:=Lib.hid hown5;have HB5:=Lib.hid (HB2.out.trans hb5);clear hown5 hb5))
    go_roundw
    case rel=>exact ⟨j+1,by omega,by go_num,by rw[HNew.out];exact HO5.out,HB5.out⟩
    case measure=>simp[intOf];omega
  ·obtain rfl:j=n:=by omega
   have t1:decide ((j:Int)<(j:Int))=false:=by simp
   have t1':decide (j<j)=false:=by simp
   have HF:Hid (G=delD L K.data.toList):=Lib.hid (by rw[HG.out,List.take_of_length_le (by rw[← HN.out];exact Nat.le_refl _)]);clear hbel;go_wp2;go_ret;exact ⟨_,rfl,by rw[← HF.out];exact ownE_isE HOwn.out (by rw[← HSn.out];unfold maxLen;omega) (fun b hb=>by omega),ownE_cap HOwn.out,HBel.out⟩
def atK (KS:List KL) (k:KL):Nat:=(KS.findIdx? (fun x=>!Op.bytesLess x k)).getD KS.length
theorem atK_eq {KS:List KL} {k:KL} (j:Nat) (hj:j≤KS.length) (h:∀ i (hi:i<KS.length),i<j→Op.bytesLess KS[i] k=true) (he:∀ hj:j<KS.length,Op.bytesLess KS[j] k=false):atK KS k=j:=by
 unfold atK
 by_cases hlt:j<KS.length
 ·have:KS.findIdx? (fun x=>!Op.bytesLess x k)=some j:=by
   rw[List.findIdx?_eq_some_iff_getElem];exact ⟨hlt,by rw[he hlt];rfl,fun i hij=>by rw[h i (by omega) hij];simp⟩
  rw[this];rfl
 ·have hj':j=KS.length:=by omega
  have:KS.findIdx? (fun x=>!Op.bytesLess x k)=none:=by
   rw[List.findIdx?_eq_none_iff];intro x hx;obtain ⟨i,hi,rfl⟩:=List.getElem_of_mem hx;rw[h i hi (by omega)];rfl
  rw[this,hj'];rfl
def putD (L:List ET) (e:ET):List ET:=
 L.take (atK (keysE L) (kE e))++[e]++L.drop (if (keysE L)[atK (keysE L) (kE e)]?=some (kE e) then atK (keysE L) (kE e)+1 else atK (keysE L) (kE e))
set_option maxRecDepth 100000 in
set_option maxHeartbeats 2000000 in
theorem amongRef_any (L:List (List UInt8)) (v:Value) (T:ByteArray) (w:World) (h:IsT w.heap.size w L v) :
  Calls Tryz.prog 44 #[v,.string T] w fun e w'=>e=.returned (.bool (L.contains T.data.toList))∧w=w':=by
 obtain ⟨a,c,rfl,hm,hcell⟩:=h;unfold maxLen at hm;have HC:=Lib.hid hcell;obtain ⟨R,hR⟩:∃ R,R=L.contains T.data.toList:=⟨_,rfl⟩;rw[← hR];have HRR:=Lib.hid hR;clear hcell hR;go_enter Tryz.func44,Tryz.ntmps44
 go_wp2
 go_loopw [5] (fun i wr=>∃ j:Nat,j≤L.length∧i=.int .i64 j∧Hid (∀ k (hk:k<L.length),k<j→L[k]≠T.data.toList)∧w=wr) (fun i wr=>L.length - (intOf i).toNat)
 case atStart=>exact ⟨0,by omega,rfl,Lib.hid (fun k _ h=>absurd h (by omega)),rfl⟩
 case round=>
  obtain ⟨j,hj,rfl,HNo,rfl⟩:=hrel
  by_cases hlt:j<L.length
  ·have t1:decide ((j:Int)<(L.length:Int))=true:=by simp;omega
   have t1':decide (j<L.length)=true:=by simpa using hlt
   obtain ⟨b,off,rfl,hb0,c0⟩:=HC.out j hlt;obtain ⟨X,hX⟩:∃ X:ByteArray,⟨L[j].toArray⟩=X:=⟨_,rfl⟩;have hXl:X.data.toList=L[j]:=by rw[← hX]
   have d0:(w.cell? ⟨b,off+j,none⟩)=some (.string X):=by
    rw[c0,← hX];rfl
   by_cases he:X=T
   ·have HR:Hid (R=true):=Lib.hid (by rw[HRR.out,List.contains_iff_mem,← he,hXl];exact List.getElem_mem _);subst he;clear hX hXl c0 HNo;go_wp2;go_ret;exact ⟨by rw[HR.out];rfl,rfl⟩
   ·have t2:=str_ne he
    have HN:Hid (∀ k (hk:k<L.length),k<j+1→L[k]≠T.data.toList):=Lib.hid (fun k h1 h3=>by
      by_cases hk:k<j
      ·exact HNo.out k h1 hk
      ·obtain rfl:k=j:=by omega
       rw[← hXl]
       exact fun e=>he (bytes_ext e))
    clear he hX hXl c0 HNo;go_wp2;go_roundw
    case rel=>exact ⟨j+1,by omega,by go_num,HN,by first | rfl | trivial⟩
    case measure=>simp[intOf];omega
  ·obtain rfl:j=L.length:=by omega
   have t1:decide ((L.length:Int)<(L.length:Int))=false:=by simp
   have t1':decide (L.length<L.length)=false:=by simp
   have HR:Hid (R=false):=Lib.hid (by
    rw[HRR.out,Bool.eq_false_iff,Ne,List.contains_iff_mem];intro hx;obtain ⟨k,hk,e⟩:=List.getElem_of_mem hx
    exact HNo.out k hk hk e)
   go_wp2;go_ret;exact ⟨by rw[HR.out];rfl,rfl⟩
def AttrP (L:List AT) (t:List UInt8) (I:Int):Prop:=(∃ j,∃ h:j<L.length,I=(j:Int)∧(low L[j].1 == low t)=true∧∀ k (hk:k<L.length),k<j→(low L[k].1 == low t)=false)∨(I = -1∧∀ k (hk:k<L.length),(low L[k].1 == low t)=false)
set_option maxRecDepth 100000 in
set_option maxHeartbeats 4000000 in
theorem attrRef_any (D t:ByteArray) (ht:t.size≤281474976710656) (L:List AT) (hs:smallA L) (v:Value) (w:World) (h:IsA w.heap.size w L v) :
  Calls Tryz.prog 110 #[.agg #[.string D,v],.string t] w fun e w'=>∃ I,e=.returned (.int .i64 I)∧AttrP L t.data.toList I∧Below w.heap.size w w':=by
 obtain ⟨a,c,hv,hm,hcell⟩:=h;obtain ⟨n,hn⟩:∃ n,n=L.length:=⟨_,rfl⟩;rw[← hn] at hv hm;subst hv;unfold maxLen at hm;have hbx:=boxN_new w D (.slice a n c);have HN:=Lib.hid hn;have HC:=Lib.hid hcell;have HS:=Lib.hid hs;have HBx:=Lib.hid hbx;have hB0:Below w.heap.size w (w.alloc (.cells #[.string D,.slice a n c] 27)):=(Below.refl _ _).alloc (Nat.le_refl _) _;have HB0:=Lib.hid hB0;have HLt:=Lib.hid (fun W=>lowerRef_any t W ht);obtain ⟨T,hT⟩:∃ T,T=lowB t:=⟨_,rfl⟩;have hTl:T.data.toList=low t.data.toList:=by rw[hT,lowB_list]
 rw[← hT] at HLt;have HTl:=Lib.hid hTl;clear hcell hn hs hbx hB0 hT hTl;go_enter Tryz.func110,Tryz.ntmps110
 go_wp2
 go_loopw [5] (fun i wr=>∃ j:Nat,j≤n∧i=.int .i64 j∧Hid (∀ k (hk:k<L.length),k<j→(low L[k].1 == low t.data.toList)=false)∧Below (w.alloc (.cells #[.string D,.slice a n c] 27)).heap.size (w.alloc (.cells #[.string D,.slice a n c] 27)) wr) (fun i wr=>n - (intOf i).toNat)
 case atStart=>exact ⟨0,by omega,rfl,Lib.hid (fun k _ h=>absurd h (by omega)),Below.refl _ _⟩
 case round=>
  obtain ⟨j,hj,rfl,HNo,hbel⟩:=hrel;have HBel:=Lib.hid (HB0.out.trans (hbel.mono HB0.out.size));obtain ⟨x0,x1⟩:=(HBx.out.below hbel (by simp)).cells;have HBe:=Lib.hid hbel;have hbs:=hbel.size;clear hbel
  by_cases hlt:j<n
  ·have t1:decide ((j:Int)<(n:Int))=true:=by simp;omega
   have t1':decide (j<n)=true:=by simpa using hlt
   have hlL:j<L.length:=by rw[← HN.out];exact hlt
   obtain ⟨b,off,u,rfl,hb0,c0,c1,_⟩:=HC.out j hlL;obtain ⟨X,hX⟩:∃ X:ByteArray,⟨L[j].1.toArray⟩=X:=⟨_,rfl⟩;have hXl:X.data.toList=L[j].1:=by rw[← hX]
   have d0:(wr.cell? ⟨b,off+j * 2,none⟩)=some (.string X):=by
    rw[HBel.out.cell (p:=⟨b,_,none⟩) hb0,c0,← hX];rfl
   have hXs:X.size≤281474976710656:=by
    have:=(HS.out.2 L[j] (List.getElem_mem _)).1;rw[← bytes_len,hXl];omega
   have HLx:=Lib.hid (fun W=>lowerRef_any X W hXs);obtain ⟨Y,hY⟩:∃ Y,Y=lowB X:=⟨_,rfl⟩;have hYl:Y.data.toList=low L[j].1:=by rw[hY,lowB_list,hXl]
   rw[← hY] at HLx
   by_cases he:Y=T
   ·have HR:Hid ((low L[j].1 == low t.data.toList)=true):=Lib.hid (by rw[← hYl,← HTl.out,he];simp);subst he;clear hX hXl c0 c1 hY hYl
    go_wp2_with (first
     | (go_at_call 62;((with_reducible refine (HLx.out _).mono ?_);rintro e w2 ⟨rfl,hb2⟩);have HB2:=Lib.hid (HBel.out.trans (hb2.mono HBel.out.size));clear hb2)
     | (go_at_call 62;((with_reducible refine (HLt.out _).mono ?_);rintro e w3 ⟨rfl,hb3⟩);have HB3:=Lib.hid (bthen HB2.out hb3);clear hb3))
    go_ret;exact ⟨_,rfl,.inl ⟨j,hlL,rfl,HR.out,HNo.out⟩,HB3.out⟩
   ·have t2:=str_ne he
    have HN2:Hid (∀ k (hk:k<L.length),k<j+1→(low L[k].1 == low t.data.toList)=false):=Lib.hid (fun k h1 h3=>by
      by_cases hk:k<j
      ·exact HNo.out k h1 hk
      ·obtain rfl:k=j:=by omega
       rw[← hYl,← HTl.out]
       exact by simpa using fun e=>he (bytes_ext e))
    clear he hX hXl c0 c1 hY hYl HNo
    go_wp2_with (first
     | (go_at_call 62;((with_reducible refine (HLx.out _).mono ?_);rintro e w2 ⟨rfl,hb2⟩);have HB2:=Lib.hid (HBe.out.trans (hb2.mono hbs));clear hb2)
     | (go_at_call 62;((with_reducible refine (HLt.out _).mono ?_);rintro e w3 ⟨rfl,hb3⟩);have HB3:=Lib.hid (HB2.out.trans (hb3.mono HB2.out.size));clear hb3))
    go_roundw
    case rel=>exact ⟨j+1,by omega,by go_num,HN2,HB3.out⟩
    case measure=>simp[intOf];omega
  ·obtain rfl:j=n:=by omega
   have t1:decide ((j:Int)<(j:Int))=false:=by simp
   have t1':decide (j<j)=false:=by simp
   go_wp2;go_ret;exact ⟨_,rfl,.inr ⟨rfl,fun k hk=>HNo.out k hk (by rw[HN.out];exact hk)⟩,HBel.out⟩
set_option maxRecDepth 100000 in
set_option maxHeartbeats 4000000 in
theorem valsRef_any (D t:ByteArray) (ht:t.size≤281474976710656) (L:List AT) (hs:smallA L) (v:Value) (w:World) (h:IsA w.heap.size w L v) :
  Calls Tryz.prog 113 #[.agg #[.string D,v],.string t] w fun e w'=>∃ u,e=.returned u∧IsT w.heap.size w (findA L t.data.toList) u∧Below w.heap.size w w':=by
 obtain ⟨a,c,hv,hm,hcell⟩:=id h;obtain ⟨n,hn⟩:∃ n,n=L.length:=⟨_,rfl⟩;rw[← hn] at hv hm;subst hv;unfold maxLen at hm;have hbx:=boxN_new w D (.slice a n c);have hB0:Below w.heap.size w (w.alloc (.cells #[.string D,.slice a n c] 27)):=(Below.refl _ _).alloc (Nat.le_refl _) _;have HAt:=Lib.hid (attrRef_any D t ht L hs (.slice a n c) (w.alloc (.cells #[.string D,.slice a n c] 27)) (h.below hB0 hB0.size));have HN:=Lib.hid hn;have HC:=Lib.hid hcell;have HBx:=Lib.hid hbx;have HB0:=Lib.hid hB0;clear hcell hn hs hbx hB0 h;go_enter Tryz.func113,Tryz.ntmps113
 go_upto_region 2 with (go_at_call 110;refine (HAt.out).mono ?_;rintro e w2 ⟨I,rfl,hI,hb2⟩;have HI:=Lib.hid hI;have HB2:=Lib.hid (HB0.out.trans (hb2.mono HB0.out.size));(obtain ⟨x0,x1⟩:=(HBx.out.below hb2 (by simp)).cells);clear hI hb2)
 rcases HI.out with ⟨j,hlL,rfl,h1,h2⟩ | ⟨rfl,h2⟩
 ·obtain ⟨b,off,u,rfl,hb0,c0,c1,hit⟩:=HC.out j hlL;have hlt:j<n:=by rw[HN.out];exact hlL
  have t1:decide ((j:Int)<0)=false:=by simp
  have d1:=(HB2.out.cell (p:=⟨b,off+j * 2+1,none⟩) hb0).trans c1;have HF:=Lib.hid (findA_at j hlL h2 h1);have HIt:=Lib.hid hit;obtain ⟨ua,uc,hu,_⟩:=id hit;obtain ⟨un,hun⟩:∃ k,k=L[j].2.length:=⟨_,rfl⟩;rw[← hun] at hu;subst hu;clear h1 h2 HI c0 c1 hit hun;go_wp2;go_ret;exact ⟨_,rfl,by rw[HF.out];exact HIt.out,HB2.out⟩
 ·have t1:decide ((-1:Int)<0)=true:=by decide
  have HF:=Lib.hid (findA_no h2);clear h2 HI;go_wp2;go_ret;exact ⟨_,rfl,by rw[HF.out];exact isT_nil _ _ _ _,HB2.out⟩
end Go.Proofs.YtgaaefcanfglhaaGreatDoor
