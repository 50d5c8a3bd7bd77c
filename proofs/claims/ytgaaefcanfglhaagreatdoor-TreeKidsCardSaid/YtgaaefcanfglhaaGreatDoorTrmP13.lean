/- Several texts in one file: TrSame, TrMay, EnNrmU, TrNorm, TrEntQ, TrMayW, TrCat. -/
import Derived.Test.YtgaaefcanfglhaaGreatDoorTrmP12
import Derived.Deep.RegionHeld3
import Derived.Deep.Cut
import Derived.Test.YtgaaefcanfglhaaGreatDoorTrmP6
import Derived.Test.YtgaaefcanfglhaaGreatDoorTrmP11
import Derived.Test.YtgaaefcanfglhaaGreatDoorTrmP3
import Derived.Lib.AppendZerosOnto
import Derived.Deep.Upon
namespace Go.Proofs.YtgaaefcanfglhaaGreatDoor
open Go.RowKit
set_option linter.unusedVariables false
theorem same_R (wr w:World) (x y:ET) (X Y:ByteArray) (gX:X.data.toList=x.1) (gY:Y.data.toList=y.1) (v u:Value) (hs:smallA x.2) (hx:IsA w.heap.size w x.2 v) (hy:IsA w.heap.size w y.2 u) (hb:Below w.heap.size w wr) :
  Calls Tryz.prog 24 #[.agg #[.string X,v],.agg #[.string Y,u]] wr fun r w'=>r=.returned (.bool (x == y))∧Below wr.heap.size wr w':=by
 have:=sameRef_entry X Y x.2 y.2 hs v u wr (hx.below hb hb.size) (hy.below hb hb.size);rw[gX,gY] at this;exact this
set_option maxRecDepth 100000 in
set_option maxHeartbeats 4000000 in
theorem sameR7_any (L M:List ET) (hs:smallE L) (v u:Value) (w:World) (hL:IsE w.heap.size w L v) (hM:IsE w.heap.size w M u) :
  Calls Tryz.prog 17 #[v,u] w fun e w'=>e=.returned (.bool (L == M))∧Below w.heap.size w w':=by
 obtain ⟨a,c,rfl,hm,hcell⟩:=hL;obtain ⟨b,d,rfl,hm2,hcell2⟩:=hM;unfold maxLen at hm hm2;have HC:=Lib.hid hcell;have HD:=Lib.hid hcell2;obtain ⟨R,hR⟩:∃ R,R=(L == M):=⟨_,rfl⟩;rw[← hR];have HR:=Lib.hid hR;have HS:=Lib.hid hs;clear hcell hcell2 hR
 by_cases hlen:L.length=M.length
 ·obtain ⟨n,hn⟩:∃ n,n=L.length:=⟨_,rfl⟩;have hn2:n=M.length:=hn.trans hlen;have HN:=Lib.hid hn;have HN2:=Lib.hid hn2;have hn5:n≤1000000:=by have:=hs.1;omega
  rw[← hn,← hn2];clear hlen hn hn2 hm hm2 hs;go_enter Tryz.func17,Tryz.ntmps17
  go_wp2
  go_loopw [5] (fun i wr=>∃ j:Nat,j≤n∧i=.int .i64 j∧Hid (∀ k (h1:k<L.length) (h2:k<M.length),k<j→L[k]=M[k])∧Below w.heap.size w wr) (fun i wr=>n - (intOf i).toNat)
  case atStart=>exact ⟨0,by omega,rfl,Lib.hid (fun k _ _ h=>absurd h (by omega)),Below.refl _ _⟩
  case round=>
   obtain ⟨j,hj,rfl,HAll,hbel⟩:=hrel;have HBel:=Lib.hid hbel;have hbs:=hbel.size
   by_cases hlt:j<n
   ·have t1:decide ((j:Int)<(n:Int))=true:=by simp;omega
    have t1':decide (j<n)=true:=by simpa using hlt
    have q1:(j:Int)<(n:Int):=by omega
    have hl1:j<L.length:=by rw[← HN.out];exact hlt
    have hl2:j<M.length:=by rw[← HN2.out];exact hlt
    obtain ⟨b1,f1,x,rfl,hb1,x0,x1,hx⟩:=HC.out j hl1;obtain ⟨b2,f2,y,rfl,hb2,y0,y1,hy⟩:=HD.out j hl2;replace hx:=IsAo.isA hx;replace hy:=IsAo.isA hy;obtain ⟨xa,xn,xc,rfl⟩:=hx.sl;obtain ⟨ya,yn,yc,rfl⟩:=hy.sl;obtain ⟨X,hX⟩:∃ X:ByteArray,ofL L[j].1=X:=⟨_,rfl⟩;obtain ⟨Y,hY⟩:∃ Y:ByteArray,ofL M[j].1=Y:=⟨_,rfl⟩;have gX:X.data.toList=L[j].1:=by rw[← hX,ofL_list]
    have gY:Y.data.toList=M[j].1:=by rw[← hY,ofL_list]
    have d0:wr.cell? ⟨b1,f1+j * 2,none⟩=some (.string X):=by rw[hbel.cell (p:=⟨b1,_,none⟩) hb1,x0,← hX];rfl
    have d1:=(hbel.cell (p:=⟨b1,f1+j * 2+1,none⟩) hb1).trans x1;have e0:wr.cell? ⟨b2,f2+j * 2,none⟩=some (.string Y):=by rw[hbel.cell (p:=⟨b2,_,none⟩) hb2,y0,← hY];rfl
    have e1:=(hbel.cell (p:=⟨b2,f2+j * 2+1,none⟩) hb2).trans y1;have hdr:Below wr.heap.size wr wr.drew:=(Below.refl _ _).drew;have hsa0:=fun W h=>same_R W w L[j] M[j] X Y gX gY (.slice xa xn xc) (.slice ya yn yc) (HS.out.2 L[j] (List.getElem_mem _)).2 hx hy h
    obtain ⟨g,hg⟩:∃ g,g=(L[j] == M[j]):=⟨_,rfl⟩;simp only[← hg] at hsa0;have HBd:=Lib.hid hbel.drew;have HSa:=Lib.hid hsa0
    cases g with
    | true=>
     have heq:L[j]=M[j]:=by simpa using hg.symm
     have HN1:Hid (∀ k (h1:k<L.length) (h2:k<M.length),k<j+1→L[k]=M[k]):=Lib.hid (fun k h1 h2 h3=>by
      by_cases hk:k<j
      ·exact HAll.out k h1 h2 hk
      ·obtain rfl:k=j:=by omega
       exact heq)
     clear heq hg hsa0 x0 x1 y0 y1 hX hY gX gY hbel hdr hx hy hl1 hl2
     go_upto_region 6 with (fail)
     go_region_law (go_simp;go_at_call 24;(with_reducible refine (HSa.out _ HBd.out).mono ?_);rintro e w2 ⟨rfl,hb2⟩;have HB2:=Lib.hid (HBd.out.trans (hb2.mono HBd.out.size));clear hb2)
     all_goals
      go_wp2;go_roundw
      case rel=>exact ⟨j+1,by omega,by go_num,HN1,HB2.out⟩
      case measure=>simp[intOf];omega
    | false=>
     have hne:L[j]≠M[j]:=by simpa using hg.symm
     have HF:Hid (R=false):=Lib.hid (HR.out.trans (by
      have:L≠M:=fun e=>by subst e;exact hne rfl
      simpa using this))
     clear hne hg hsa0 x0 x1 y0 y1 hX hY gX gY hbel hdr hx hy hl1 hl2
     go_upto_region 6 with (fail)
     go_region_law (go_simp;go_at_call 24;(with_reducible refine (HSa.out _ HBd.out).mono ?_);rintro e w2 ⟨rfl,hb2⟩;have HB2:=Lib.hid (HBd.out.trans (hb2.mono HBd.out.size));clear hb2)
     all_goals
      go_wp2;go_ret;exact ⟨by rw[HF.out];rfl,HB2.out⟩
   ·obtain rfl:j=n:=by omega
    have t1:decide ((j:Int)<(j:Int))=false:=by simp
    have t1':decide (j<j)=false:=by simp
    have HF:Hid (R=true):=Lib.hid (HR.out.trans (by
     have:L=M:=List.ext_getElem (by rw[← HN.out,← HN2.out]) (fun k h1 h2=>HAll.out k h1 h2 (by rw[HN.out];exact h1))
     simp[this]))
    clear hbel;go_wp2;go_ret;exact ⟨by rw[HF.out];rfl,HBel.out⟩
 ·have t0:((L.length:Int) != (M.length:Int))=true:=by simp;omega
  have HF:Hid (R=false):=Lib.hid (HR.out.trans (by
   have:L≠M:=fun e=>hlen (by rw[e])
   simpa using this))
  clear hlen;go_enter Tryz.func17,Tryz.ntmps17
  go_wp2;go_ret;exact ⟨by rw[HF.out];rfl,Below.refl _ _⟩
end Go.Proofs.YtgaaefcanfglhaaGreatDoor
namespace Go.Proofs.YtgaaefcanfglhaaGreatDoor
open Go.RowKit Go.Maps
set_option linter.unusedVariables false
theorem keysE_small {L:List ET} (hs:smallE L) (j:Nat) (hj:j<(keysE L).length):(keysE L)[j].length≤100000:=by
 rw[keysE_at L j (by rw[keysE_len] at hj;exact hj)];exact Nat.le_trans (kE_len _) (hs.2 _ (List.getElem_mem _)).1
set_option maxRecDepth 100000 in
set_option maxHeartbeats 8000000 in
theorem stands_any (L:List ET) (hs:smallE L) (b:Nat) (lv:Value) (w:World) (hx:Idx b w lv (keysE L)) (h:IsE b w L lv) :
  Calls Tryz.prog 35 #[.pointer (some ⟨b,0,none⟩)] w fun e w'=>e=.returned (.bool (standsK (keysE L)))∧w.grownBy w' (some b):=by
 have HA:=Lib.hid (all_any L hs b lv w hx h);obtain ⟨KS,hKS⟩:∃ KS,KS=keysE L:=⟨_,rfl⟩;have hKl:KS.length=L.length:=by rw[hKS,keysE_len]
 have hksz:∀ j (hj:j<KS.length),KS[j].length≤100000:=by
  subst hKS;exact keysE_small hs
 rw[← hKS] at HA ⊢;have hL:=hs.1;obtain ⟨n,hn⟩:∃ n,n=KS.length:=⟨_,rfl⟩;have hn1:n≤1000:=by omega
 have HN:=Lib.hid hn;have HKs:=Lib.hid hksz;obtain ⟨R,hR⟩:∃ R,R=standsK KS:=⟨_,rfl⟩;rw[← hR];have HR:=Lib.hid hR;clear hx h hKS hKl hn hksz hR;go_enter Tryz.func35,Tryz.ntmps35
 go_wp2_with (go_at_call 38;refine (HA.out).mono ?_;rintro e w2 ⟨kv,mv,rfl,hm,hg⟩;have HT:=Lib.hid (hm.isT (by unfold maxLen;rw[← HN.out];omega));have HG:=Lib.hid hg;(obtain ⟨ka,kc,hkv,_,hcell⟩:=HT.out);rw[← HN.out] at hkv;have HC:=Lib.hid hcell;have HM:=Lib.hid hm;clear hm hg hcell;subst hkv)
 go_loopw [11] (fun i wr=>∃ j:Nat,j≤n∧i=.int .i64 j∧Hid (∀ i,i<j→riseK KS i=true∧upK KS i=true)∧Below w2.heap.size w2 wr) (fun i wr=>n - (intOf i).toNat)
 case atStart=>exact ⟨0,by omega,rfl,Lib.hid (fun _ h=>absurd h (by omega)),Below.refl _ _⟩
 case round=>
  obtain ⟨j,hj,rfl,HAll,hbel⟩:=hrel;have HBel:=Lib.hid hbel;have hbs:=hbel.size
  by_cases hlt:j<n
  ·have t1:decide ((j:Int)<(n:Int))=true:=by simp;omega
   have t1':decide (j<n)=true:=by simpa using hlt
   have hjK:j<KS.length:=by rw[← HN.out];exact hlt
   obtain ⟨bb,off,hae,hb0,c0⟩:=HC.out j hjK;subst hae;obtain ⟨X,hX⟩:∃ X:ByteArray,ofL KS[j]=X:=⟨_,rfl⟩;have hXl:X.data.toList=KS[j]:=by rw[← hX,ofL_list]
   have d0:(wr.cell? ⟨bb,off+j,none⟩)=some (.string X):=by
    rw[hbel.cell (p:=⟨bb,_,none⟩) hb0,c0,← hX];rfl
   have hXs:X.size≤100000:=by rw[← bytes_len,hXl];exact HKs.out j hjK
   have hup:=fun w=>dnUp_any clone_any X w (by omega)
   obtain ⟨U,hU⟩:∃ U,U=upB X:=⟨_,rfl⟩;rw[← hU] at hup;have hUl:U.data.toList=upD KS[j]:=by rw[hU,upK_list,hXl]
   have hUs:U.size≤100000:=by
    rw[← bytes_len,hUl];exact Nat.le_trans (upK_le _) (HKs.out j hjK)
   have HUp:=Lib.hid hup;have HXl:=Lib.hid hXl;have HUl:=Lib.hid hUl;have HUs:=Lib.hid hUs;clear hX hU c0 hup hXl hUl hUs
   by_cases hj0:j=0
   ·have t2:decide ((0:Int)<(j:Int))=false:=by simp;omega
    have t2':decide (0<j)=false:=by simp;omega
    have HRise:Hid (riseK KS j=true):=Lib.hid (by subst hj0;rfl);have HJ0:=Lib.hid hj0;clear hbel hj0
    by_cases hue:U.data.toList=[]
    ·obtain ⟨e1,e2⟩:=bytes_nil hue;have e3:(U.toList == [])=true:=by rw[e1];rfl
     have HUp2:Hid (upK KS j=true):=Lib.hid (by unfold upK;rw[getD_in _ _ hjK,← HUl.out,hue];rfl)
     have HN1:Hid (∀ i,i<j+1→riseK KS i=true∧upK KS i=true):=Lib.hid (fun i h1=>by
      by_cases hi:i<j
      ·exact HAll.out i hi
      ·obtain rfl:i=j:=by omega
       exact ⟨HRise.out,HUp2.out⟩)
     clear hue
     go_wp2_with (go_at_call 39;refine (HUp.out _).mono ?_;rintro e w4 ⟨rfl,hb4⟩;have HB4:=Lib.hid hb4;clear hb4)
     go_roundw
     case rel=>exact ⟨j+1,by omega,by go_num,HN1,HBel.out.trans (HB4.out.mono hbs)⟩
     case measure=>simp[intOf];omega
    ·obtain ⟨e1,e2⟩:=bytes_some hue;have e3:(U.toList == [])=false:=by simpa using e1
     have huk:upK KS j=KS.contains U.data.toList:=by
      unfold upK;rw[getD_in _ _ hjK,← HUl.out];have:U.data.toList.isEmpty=false:=by
       cases h:U.data.toList with
       | nil=>exact absurd h hue
       | cons _ _=>rfl
      rw[this,Bool.false_or]
     have hfk:decide (findK KS U.data.toList<0)=!KS.contains U.data.toList:=by
      unfold findK;rw[if_neg hue];exact idxK_mem KS _
     obtain ⟨I,hI⟩:∃ I,I=findK KS U.data.toList:=⟨_,rfl⟩;rw[← hI] at hfk;have HI:=Lib.hid hI;obtain ⟨g,hg⟩:∃ g,g=KS.contains U.data.toList:=⟨_,rfl⟩;rw[← hg] at hfk huk;have HUk:=Lib.hid huk;clear hI hg huk hue
     cases g with
     | true=>
      have q9:decide (I<0)=false:=hfk
      have HN1:Hid (∀ i,i<j+1→riseK KS i=true∧upK KS i=true):=Lib.hid (fun i h1=>by
       by_cases hi:i<j
       ·exact HAll.out i hi
       ·obtain rfl:i=j:=by omega
        exact ⟨HRise.out,HUk.out⟩)
      clear hfk
      go_wp2_with (first
       | (go_at_call 39;refine (HUp.out _).mono ?_;rintro e w4 ⟨rfl,hb4⟩;have HB4:=Lib.hid hb4;have HM4:=Lib.hid (HM.out.below (HBel.out.trans (hb4.mono hbs)));clear hb4)
       | (go_at_call 37;refine (place_made KS b lv _ _ U HUs.out _ HM4.out).mono ?_;rw[← HI.out];rintro e w5 ⟨rfl,rfl⟩))
      go_roundw
      case rel=>exact ⟨j+1,by omega,by go_num,HN1,HBel.out.trans (HB4.out.mono hbs)⟩
      case measure=>simp[intOf];omega
     | false=>
      have q9:decide (I<0)=true:=hfk;have HF:Hid (R=false):=Lib.hid (HR.out.trans (stands_no hjK (.inr HUk.out)));clear hfk
      go_wp2_with (first
       | (go_at_call 39;refine (HUp.out _).mono ?_;rintro e w4 ⟨rfl,hb4⟩;have HB4:=Lib.hid hb4;have HM4:=Lib.hid (HM.out.below (HBel.out.trans (hb4.mono hbs)));clear hb4)
       | (go_at_call 37;refine (place_made KS b lv _ _ U HUs.out _ HM4.out).mono ?_;rw[← HI.out];rintro e w5 ⟨rfl,rfl⟩))
      go_ret;exact ⟨by rw[HF.out];rfl,HG.out.trans (grown_below (HBel.out.trans (HB4.out.mono hbs)))⟩
   ·obtain ⟨i,hi⟩:∃ i,j=i+1:=⟨j - 1,by omega⟩;have t2:decide ((0:Int)<(j:Int))=true:=by simp;omega
    have t2':decide (0<j)=true:=by simp;omega
    have hsub:(j:Int) - 1=(i:Int):=by omega
    have hiK:i<KS.length:=by omega
    obtain ⟨b2,off2,hae,hb2,c2⟩:=HC.out i hiK;have hae:=Option.some.inj hae;have ea:bb=b2:=congrArg Addr.block hae;have eb:off=off2:=congrArg Addr.off hae;subst ea eb;obtain ⟨Y,hY⟩:∃ Y:ByteArray,ofL KS[i]=Y:=⟨_,rfl⟩;have hYl:Y.data.toList=KS[i]:=by rw[← hY,ofL_list]
    have d2:(wr.cell? ⟨bb,off+i,none⟩)=some (.string Y):=by
     rw[hbel.cell (p:=⟨bb,_,none⟩) hb2,c2,← hY];rfl
    have hin:(i:Int)<(n:Int):=by omega
    have hin':i<n:=by omega
    have hrise:riseK KS j=(!Op.bytesLess X.toList Y.toList && !(X.toList == Y.toList)):=by
     unfold riseK;have:(j == 0)=false:=by simpa using hj0
     rw[this,Bool.false_or,getD_in _ _ hjK,getD_in _ _ (show j - 1<KS.length by omega)];have e1:KS[j - 1]'(by omega)=KS[i]:=by congr 1;omega
     rw[e1];unfold gtB;rw[← HXl.out,← hYl,← ByteArray.toList_eq,← ByteArray.toList_eq]
    obtain ⟨bl,hbl⟩:∃ bl,Op.bytesLess X.toList Y.toList=bl:=⟨_,rfl⟩;obtain ⟨be,hbe⟩:∃ be,(X.toList == Y.toList)=be:=⟨_,rfl⟩;rw[hbl,hbe] at hrise;have HRise0:=Lib.hid hrise;have HI0:=Lib.hid hi;clear hbel hae hY c2 hYl hrise hj0 hi
    by_cases hrb:(!bl && !be)=true
    ·obtain ⟨rfl,rfl⟩:bl=false∧be=false:=by cases bl <;> cases be <;> simp_all
     have HRise:Hid (riseK KS j=true):=Lib.hid (HRise0.out.trans rfl);clear hrb
     by_cases hue:U.data.toList=[]
     ·obtain ⟨e1,e2⟩:=bytes_nil hue;have e3:(U.toList == [])=true:=by rw[e1];rfl
      have HUp2:Hid (upK KS j=true):=Lib.hid (by unfold upK;rw[getD_in _ _ hjK,← HUl.out,hue];rfl)
      have HN1:Hid (∀ i,i<j+1→riseK KS i=true∧upK KS i=true):=Lib.hid (fun i h1=>by
       by_cases hi:i<j
       ·exact HAll.out i hi
       ·obtain rfl:i=j:=by omega
        exact ⟨HRise.out,HUp2.out⟩)
      clear hue
      go_wp2_with (go_at_call 39;refine (HUp.out _).mono ?_;rintro e w4 ⟨rfl,hb4⟩;have HB4:=Lib.hid hb4;clear hb4)
      go_roundw
      case rel=>exact ⟨j+1,by omega,by go_num,HN1,HBel.out.trans (HB4.out.mono hbs)⟩
      case measure=>simp[intOf];omega
     ·obtain ⟨e1,e2⟩:=bytes_some hue;have e3:(U.toList == [])=false:=by simpa using e1
      have huk:upK KS j=KS.contains U.data.toList:=by
       unfold upK;rw[getD_in _ _ hjK,← HUl.out];have:U.data.toList.isEmpty=false:=by
        cases h:U.data.toList with
        | nil=>exact absurd h hue
        | cons _ _=>rfl
       rw[this,Bool.false_or]
      have hfk:decide (findK KS U.data.toList<0)=!KS.contains U.data.toList:=by
       unfold findK;rw[if_neg hue];exact idxK_mem KS _
      obtain ⟨I,hI⟩:∃ I,I=findK KS U.data.toList:=⟨_,rfl⟩;rw[← hI] at hfk;have HI:=Lib.hid hI;obtain ⟨g,hg⟩:∃ g,g=KS.contains U.data.toList:=⟨_,rfl⟩;rw[← hg] at hfk huk;have HUk:=Lib.hid huk;clear hI hg huk hue
      cases g with
      | true=>
       have q9:decide (I<0)=false:=hfk
       have HN1:Hid (∀ i,i<j+1→riseK KS i=true∧upK KS i=true):=Lib.hid (fun i h1=>by
        by_cases hi:i<j
        ·exact HAll.out i hi
        ·obtain rfl:i=j:=by omega
         exact ⟨HRise.out,HUk.out⟩)
       clear hfk
       go_wp2_with (first
        | (go_at_call 39;refine (HUp.out _).mono ?_;rintro e w4 ⟨rfl,hb4⟩;have HB4:=Lib.hid hb4;have HM4:=Lib.hid (HM.out.below (HBel.out.trans (hb4.mono hbs)));clear hb4)
        | (go_at_call 37;refine (place_made KS b lv _ _ U HUs.out _ HM4.out).mono ?_;rw[← HI.out];rintro e w5 ⟨rfl,rfl⟩))
       go_roundw
       case rel=>exact ⟨j+1,by omega,by go_num,HN1,HBel.out.trans (HB4.out.mono hbs)⟩
       case measure=>simp[intOf];omega
      | false=>
       have q9:decide (I<0)=true:=hfk;have HF:Hid (R=false):=Lib.hid (HR.out.trans (stands_no hjK (.inr HUk.out)));clear hfk
       go_wp2_with (first
        | (go_at_call 39;refine (HUp.out _).mono ?_;rintro e w4 ⟨rfl,hb4⟩;have HB4:=Lib.hid hb4;have HM4:=Lib.hid (HM.out.below (HBel.out.trans (hb4.mono hbs)));clear hb4)
        | (go_at_call 37;refine (place_made KS b lv _ _ U HUs.out _ HM4.out).mono ?_;rw[← HI.out];rintro e w5 ⟨rfl,rfl⟩))
       go_ret;exact ⟨by rw[HF.out];rfl,HG.out.trans (grown_below (HBel.out.trans (HB4.out.mono hbs)))⟩
    ·have HF:Hid (R=false):=Lib.hid (HR.out.trans (stands_no hjK (.inl (HRise0.out.trans (by simpa using hrb)))));have HFin:=Lib.hid (HG.out.trans (grown_below HBel.out))
     cases bl with
     | true=>
      clear hrb;go_wp2;go_ret;exact ⟨by rw[HF.out];rfl,HFin.out⟩
     | false=>
      cases be with
      | true=>
       clear hrb;go_wp2;go_ret;exact ⟨by rw[HF.out];rfl,HFin.out⟩
      | false=>exact absurd rfl hrb
  ·obtain rfl:j=n:=by omega
   have t1:decide ((j:Int)<(j:Int))=false:=by simp
   have t1':decide (j<j)=false:=by simp
   have HF:Hid (R=true):=Lib.hid (HR.out.trans (stands_yes (fun i hi=>HAll.out i (by rw[HN.out];exact hi))));clear hbel;go_wp2;go_ret;exact ⟨by rw[HF.out];rfl,HG.out.trans (grown_below HBel.out)⟩
end Go.Proofs.YtgaaefcanfglhaaGreatDoor
namespace Go.Proofs.YtgaaefcanfglhaaGreatDoor
open Go.RowKit
set_option linter.unusedVariables false
set_option linter.unusedSimpArgs false
set_option maxRecDepth 100000 in
set_option maxHeartbeats 4000000 in
theorem insert_none (sa:Option Addr) (n sc:Nat) (w:World):Calls Tryz.prog 164 #[.slice sa n sc,.int .i64 20,.int .i64 20,.func (.func 103) #[] #[]] w fun e w'=>e=.returned (.tuple #[])∧w=w':=by
 go_enter Tryz.func164,Tryz.ntmps164
 go_wp2
 go_loopw [8] (fun a wr=>a=.int .i64 21∧w=wr) (fun a wr=>1)
 case atStart=>exact ⟨rfl,rfl⟩
 case round=>
  obtain ⟨rfl,rfl⟩:=hrel;go_wp2
  go_end0
  exact ⟨rfl,rfl⟩
set_option maxRecDepth 100000 in
set_option maxHeartbeats 4000000 in
theorem stable20_any (sa:Option Addr) (sc:Nat) (w:World) (Q:World→Prop) (hi:Calls Tryz.prog 164 #[.slice sa 20 sc,.int .i64 0,.int .i64 20,.func (.func 103) #[] #[]] w fun e w'=>e=.returned (.tuple #[])∧Q w') :
  Calls Tryz.prog 139 #[.slice sa 20 sc,.int .i64 20,.func (.func 103) #[] #[]] w fun e w'=>e=.returned (.tuple #[])∧Q w':=by
 have HI:=Lib.hid hi;have HN:=Lib.hid (fun W=>insert_none sa 20 sc W);clear hi;go_enter Tryz.func139,Tryz.ntmps139
 go_wp2
 go_loopw [7,8] (fun a b wr=>(a=.int .i64 0∧b=.int .i64 20∧Hid (w=wr))∨(a=.int .i64 20∧b=.int .i64 40∧Hid (Q wr))) (fun a b wr=>40 - (intOf b).toNat)
 case atStart=>exact .inl ⟨rfl,rfl,Lib.hid rfl⟩
 case round=>
  rcases hrel with ⟨rfl,rfl,hwr⟩ | ⟨rfl,rfl,HQ⟩
  ·have hwr:=hwr.out;subst hwr
   go_wp2_with (go_at_call 164;refine (HI.out).mono ?_;rintro e w2 ⟨rfl,hb2⟩;have HB2:=Lib.hid hb2;clear hb2)
   go_roundw
   case rel=>exact .inr ⟨rfl,rfl,HB2⟩
   case measure=>simp[intOf]
  ·go_wp2_with (go_at_call 164;refine (HN.out _).mono ?_;rintro e w2 ⟨rfl,rfl⟩)
   go_loopw [6] (fun a wx=>a=.int .i64 20∧Hid (Q wx)) (fun a wx=>1)
   case atStart=>exact ⟨rfl,HQ⟩
   case round=>
    obtain ⟨rfl,HQ2⟩:=hrel;go_wp2
    go_end0
    exact ⟨rfl,HQ2.out⟩
theorem stableU_any (n:Nat) (hl:n≤20) (sa:Option Addr) (sc:Nat) (w:World) (Q:World→Prop) (hi:Calls Tryz.prog 164 #[.slice sa n sc,.int .i64 0,.int .i64 n,.func (.func 103) #[] #[]] w fun e w'=>e=.returned (.tuple #[])∧Q w') :
  Calls Tryz.prog 139 #[.slice sa n sc,.int .i64 n,.func (.func 103) #[] #[]] w fun e w'=>e=.returned (.tuple #[])∧Q w':=by
 by_cases h:n<20
 ·exact stableR_any n h sa sc w Q hi
 ·obtain rfl:n=20:=by omega
  exact stable20_any sa sc w Q hi
set_option maxRecDepth 100000 in
set_option maxHeartbeats 1000000 in
theorem sortedU_any (n:Nat) (hl:n≤20) (sa:Option Addr) (sc:Nat) (w:World) (Q:World→Prop) (hi:Calls Tryz.prog 164 #[.slice sa n sc,.int .i64 0,.int .i64 n,.func (.func 103) #[] #[]] w fun e w'=>e=.returned (.tuple #[])∧Q w') :
  Calls Tryz.prog 102 #[.slice sa n sc,.func (.func 103) #[] #[]] w fun e w'=>e=.returned (.tuple #[])∧Q w':=by
 have HI:=Lib.hid (stableU_any n hl sa sc w Q hi);clear hi;go_enter Tryz.func102,Tryz.ntmps102
 go_wp2_with (go_at_call 139;refine (HI.out).mono ?_;rintro e w2 ⟨rfl,hb2⟩;have HB2:=Lib.hid hb2;clear hb2)
 go_end0
 exact ⟨rfl,HB2.out⟩
theorem sortedU_own (B:Nat) (L:List AT) (hl:L.length≤20) (v:Value) (w:World) (hB:B≤w.heap.size) (h:OwnA B w v L) :
  Calls Tryz.prog 102 #[v,.func (.func 103) #[] #[]] w fun e w'=>e=.returned (.tuple #[])∧OwnA B w' v (sortA L)∧Below B w w':=by
 obtain ⟨P,hP,hs⟩:=id h
 by_cases hne:P=[]
 ·have hL:L=[]:=List.eq_nil_of_length_eq_zero (by have:=hs.1;rw[hne] at this;simpa using this.symm);subst hL;have hA:=ownA_isA h (by simp);exact (sorted_any [] (by simp) (fun i h=>absurd h (by simp)) v w hA).mono fun e w' ⟨he,hb⟩=>⟨he,ownA_below h hb,hb.mono hB⟩
 ·obtain ⟨g,cap,rfl,hBg,hgl,_⟩:=rowP_at hP hne;have hn:P.length≤20:=by rw[hs.1];exact hl
  obtain ⟨n,hnn⟩:∃ n,n=P.length:=⟨_,rfl⟩;rw[← hnn] at hP hs hn ⊢;have hrow:w.ownsRow B 60 2 (.slice (some ⟨g,0,none⟩) n cap) n (cellsP P):=by
   have hP':w.ownsRow B 60 2 (.slice (some ⟨g,0,none⟩) n cap) P.length (cellsP P):=hP;rw[← hnn] at hP';exact hP'
  have hv:∀ r∈P,∃ a k c,r.2=Value.slice a k c:=fun r hr=>by
   obtain ⟨j,hj,rfl⟩:=List.getElem_of_mem hr;obtain ⟨a,c,e,_⟩:=(hs.2 j (by rw[← hs.1];exact hj) hj).2;exact ⟨a,_,c,e⟩
  have hi:=insertR_any P B g n cap w hnn (by omega) hrow hv;exact (sortedU_any n hn (some ⟨g,0,none⟩) cap w _ hi).mono fun e w' ⟨he,hr,hg⟩=>⟨he,ownA_sort hP hs hnn hr hg,⟨hg.os,hg.tape,hg.output,hg.size,fun k hk=>hg.block k (Nat.lt_of_lt_of_le hk hB) (fun e=>by have:=Option.some.inj e;omega)⟩⟩
set_option maxRecDepth 100000 in
set_option maxHeartbeats 4000000 in
theorem normU_entry (d:ByteArray) (hd:d.size≤140737488351232) (L:List AT) (hs:smallA L) (hl:L.length≤20) (v:Value) (w:World) (h:IsA w.heap.size w L v) :
  Calls Tryz.prog 61 #[.agg #[.string d,v]] w fun e w'=>∃ v',e=.returned (.agg #[strV (nameN d.data.toList),v'])∧OwnA w.heap.size w' v' (sortA (normL L))∧Below w.heap.size w w':=by
 obtain ⟨sa,sc,hv,_⟩:=id h;obtain ⟨n,hn⟩:∃ n,n=L.length:=⟨_,rfl⟩;rw[← hn] at hv;subst hv;have HI:=Lib.hid h;have HS:=Lib.hid hs;have HN:=Lib.hid hn;have hl5:n≤20:=by omega
 have HSt:=Lib.hid (norm_start w d (.slice sa n sc));obtain ⟨T,hT⟩:∃ T:ByteArray,strV (nameN d.data.toList)=.string T:=⟨_,rfl⟩;have hnt:=fun w=>nameText_any d hd w
 simp only[hT] at hnt;rw[hT];have HNt:=Lib.hid hnt;clear h hs hn hnt hT hl;go_enter Tryz.func61,Tryz.ntmps61
 go_wp2;rw[show w.heap.size+1+1=w.heap.size+2 from rfl];have HSt2:=HSt;generalize (((w.alloc (.cells #[.string d,.slice sa n sc] 27)).alloc (.cells #[.string ⟨#[]⟩,.slice none 0 0] 27)).alloc (.cells #[.slice sa n sc,.int .i64 0] 148))=W3 at HSt2 ⊢;clear HSt
 go_loopw [4] (fun l wr=>∃ j:Nat,j≤n∧lenOf l=j∧NormAt w.heap.size d w wr (.slice sa n sc) l j (normL (L.take j))) (fun l wr=>n - lenOf l)
 case atStart=>exact ⟨0,by omega,rfl,HSt2.out⟩
 case round=>
  obtain ⟨j,hj,hlj,hat⟩:=hrel;obtain ⟨la,ln,lc,rfl⟩:=ownA_sl hat.own;simp only[lenOf] at hlj;subst hlj;have HAt:=Lib.hid hat;have hmo:=more_any (w.heap.size+2) sa n sc ln wr hat.m0 hat.m1;have HMo:=Lib.hid hmo;clear hmo hat
  by_cases hlt:ln<n
  ·have t1:decide ((ln:Int)<(n:Int))=true:=by simp;omega
   have hjl:ln<L.length:=by rw[← HN.out];exact hlt
   rw[t1] at HMo;have htk:=normL_take L ln hjl;have HTk:=Lib.hid htk;have hwl:(normL (L.take ln)).length≤1000:=by unfold normL;rw[List.length_map,List.length_take];omega
   clear htk t1
   go_wp2_with (first
    | (go_at_call 100;refine (HMo.out).mono ?_;rintro e w2 ⟨rfl,m,hw2⟩;have hb2:Below wr.heap.size wr w2:=(by { rw[hw2];exact below_drewN (Below.refl _ _) m });have HAt2:=Lib.hid (HAt.out.go hb2);clear hw2 hb2)
    | (go_at_call 101;refine (next_any L HS.out (w.heap.size+2) ln (.slice sa n sc) _ (by have:=HAt2.out.size;omega) ((HI.out.below HAt2.out.bel (by omega)).below (Below.refl _ _) (Nat.le_refl _)) hjl HAt2.out.m0 HAt2.out.m1 HAt2.out.mz).mono ?_;rintro e w5 ⟨u5,rfl,hu5,hg5,h50,h51,h5z⟩;have HAt5:=Lib.hid (HAt2.out.next hg5 h50 h51 h5z);(obtain ⟨ya,yc,hye,_⟩:=id hu5);subst hye;have HU5:=Lib.hid hu5;have HO2:=Lib.hid HAt2.out.own;have hz2:=HAt2.out.size;clear hu5 hg5 h50 h51 h5z)
    | (at_builtin;refine wpList_append_attr rfl (.tmp 11) (.tmp 14) rfl (w.heap.size+3) (.slice la ln lc) (normL (L.take ln)) rfl (ofL (nameA L[ln].1)) (.slice ya L[ln].2.length yc) L[ln].2 HAt5.out.own (HU5.out.imp (fun b hb=>⟨by have:=hb.1;omega,hb.2,fun e=>absurd (ownA_lt HO2.out b e.symm) (by have:=hb.1;omega)⟩) (fun _ _ _=>rfl)) rfl rfl (by omega) HAt5.out.size ?_;intro v6 w6 hown6 hb6;have HAt6:=Lib.hid (HAt5.out.app hb6 hown6);clear hown6 hb6))
   obtain ⟨ra,rn,rc,rfl⟩:=ownA_sl HAt6.out.own;have hrn:rn=ln+1:=by
    obtain ⟨_,_,h⟩:=ownA_slice HAt6.out.own;simp only[Value.slice.injEq] at h;rw[h.2.1];unfold normL;simp;omega
   subst hrn;go_roundw
   case rel=>exact ⟨ln+1,by omega,rfl,by rw[HTk.out];have:=HAt6.out;rw[ofL_list] at this;exact this⟩
   case measure=>simp[lenOf];omega
  ·obtain rfl:ln=n:=by omega
   have t1:decide ((ln:Int)<(ln:Int))=false:=by simp
   rw[t1] at HMo;have hall:normL (L.take ln)=normL L:=by rw[List.take_of_length_le (by rw[← HN.out];exact Nat.le_refl _)]
   have HAll:=Lib.hid hall;clear t1 hall
   go_wp2_with (first
    | (go_at_call 100;refine (HMo.out).mono ?_;rintro e w2 ⟨rfl,m,hw2⟩;have hb2:Below wr.heap.size wr w2:=(by { rw[hw2];exact below_drewN (Below.refl _ _) m });have HAt2:=Lib.hid (HAt.out.go hb2);clear hw2 hb2)
    | (go_at_call 102;refine (sortedU_own (w.heap.size+3) (normL L) (by unfold normL;rw[List.length_map,← HN.out];exact hl5) _ _ HAt2.out.size (by have:=HAt2.out.own;rwa [HAll.out] at this)).mono ?_;rintro e w3 ⟨rfl,ho3,hb3⟩;have HAt3:=Lib.hid (HAt2.out.app hb3 ho3);have f0:=HAt3.out.box.1;clear hb3 ho3)
    | (go_at_call 105;refine (HNt.out _).mono ?_;rintro e w4 ⟨rfl,hb4⟩;have HAt4:=Lib.hid (HAt3.out.go hb4);(obtain ⟨_,p0,p1,q0,q1⟩:=HAt4.out.box);clear hb4))
   refine bodyPost_ret (v:=.agg #[.string T,.slice la ln lc]) (by simp[results,Tryz.results61,go_sem,p0,p1]) rfl ⟨_,rfl,?_,(HAt4.out.bel.setCell (p:=⟨w.heap.size+1,0,none⟩) (show w.heap.size≤w.heap.size+1 by omega) _).setCell (p:=⟨w.heap.size+1,1,none⟩) (show w.heap.size≤w.heap.size+1 by omega) _⟩;have ho:=ownA_set (ownA_set HAt4.out.own ⟨w.heap.size+1,0,none⟩ (.string T) (show w.heap.size+1<w.heap.size+3 by omega)) ⟨w.heap.size+1,1,none⟩ (.slice la ln lc) (show w.heap.size+1<w.heap.size+3 by omega);have ho2:=ownA_lower (B':=w.heap.size) ho (by omega);exact ho2
end Go.Proofs.YtgaaefcanfglhaaGreatDoor
namespace Go.Proofs.YtgaaefcanfglhaaGreatDoor
open Go.RowKit
set_option linter.unusedVariables false
def fineA (L:List AT):Prop:=smallA L∧L.length<40∧∀ a∈L,a.1.length≤1000
theorem nameT_len (t:List UInt8):(nameA t).length≤t.length+15:=by
 unfold nameA
 cases h:canonD t with
 | none=>simp
 | some n=>
  unfold canonD at h
  cases hf:findL (low t) with
  | none=>rw[hf] at h;cases h
  | some k=>
   rw[hf] at h;have:=findL_len hf;simp only[Option.map_some,Option.some.injEq] at h;rw[← h,this.1]
   show (low t).length≤_
   omega
theorem fineA_norm {L:List AT} (h:fineA L):smallA (sortA (normL L))∧(sortA (normL L)).length=L.length:=by
 have hl:(sortA (normL L)).length=L.length:=by
  unfold sortA;rw[srtG_length];unfold normL;rw[List.length_map]
 refine ⟨⟨by rw[hl];exact h.1.1,fun a ha=>?_⟩,hl⟩;have hm:a∈normL L:=srtG_mem _ ha;unfold normL at hm;obtain ⟨b,hb,rfl⟩:=List.mem_map.1 hm;have k1:=h.2.2 b hb;have:=nameT_len b.1;exact ⟨by show (nameA b.1).length≤_;omega,(h.1.2 b hb).2⟩
set_option maxRecDepth 100000 in
set_option maxHeartbeats 4000000 in
theorem isNorm_any (D:ByteArray) (hD:D.size≤100000) (L:List AT) (hs:fineA L) (h20:L.length≤20) (v:Value) (w:World) (h:IsA w.heap.size w L v) :
  Calls Tryz.prog 34 #[.agg #[.string D,v]] w fun e w'=>e=.returned (.bool (isNE (D.data.toList,L)))∧Below w.heap.size w w':=by
 obtain ⟨va,vn,vc,rfl⟩:=h.sl;obtain ⟨W,hW⟩:∃ W,W=w.alloc (.cells #[.string D,.slice va vn vc] 27):=⟨_,rfl⟩;have hbW:Below w.heap.size w W:=by rw[hW];exact (Below.refl _ _).alloc (Nat.le_refl _) _
 have hzW:w.heap.size<W.heap.size:=by rw[hW];simp
 have b0:W.cell? ⟨w.heap.size,0,none⟩=some (.string D):=by rw[hW];simp
 have b1:W.cell? ⟨w.heap.size,1,none⟩=some (.slice va vn vc):=by rw[hW];simp
 have hn:=fineA_norm hs;have HN:=Lib.hid (fun (W1:World) (h1:IsA W1.heap.size W1 L (.slice va vn vc))=>normU_entry D (by omega) L hs.1 h20 (.slice va vn vc) W1 h1);have HI:=Lib.hid (fun (W1:World) (h1:Below W.heap.size W W1)=>h.below (hbW.trans (h1.mono (by omega))) (hbW.trans (h1.mono (Nat.le_of_lt hzW))).size);obtain ⟨q,hq⟩:∃ q,q=isNE (D.data.toList,L):=⟨_,rfl⟩;have HSm:=Lib.hid (fun (W1:World) (u:Value) (hu:IsA W1.heap.size W1 (sortA (normL L)) u) (h1:IsA W1.heap.size W1 L (.slice va vn vc))=>same_entry (ofL (nameN D.data.toList)) D (sortA (normL L)) L hn.1 u (.slice va vn vc) W1 hu h1);have hq2:(((ofL (nameN D.data.toList)).data.toList,sortA (normL L)) == (D.data.toList,L))=q:=by rw[ofL_list,hq];rfl
 rw[hq2] at HSm;rw[← hq];have HLn:=Lib.hid hn.2;have hl40:=hs.2.1;obtain ⟨nm,hnm⟩:∃ nm,nm=ofL (nameN D.data.toList):=⟨_,rfl⟩;rw[← hnm] at HSm;have HNm:Hid (strV (nameN D.data.toList)=.string nm):=Lib.hid (by rw[hnm];rfl);have HB:=Lib.hid hbW;have HW:=Lib.hid hW;have HBd:=Lib.hid (hbW.drew);have HBd0:=Lib.hid (Below.drew (Below.refl W.heap.size W));clear hW hn hq hq2 hbW hnm h;go_enter Tryz.func34,Tryz.ntmps34
 go_upto_region 1 with (fail)
 rw[← HW.out];clear HW
 go_region_law (first
  | (go_simp;go_at_call 61;((with_reducible refine (HN.out _ (HI.out _ HBd0.out)).mono ?_);rintro e w2 ⟨u2,rfl,ho2,hb2⟩;have HB2:=Lib.hid (bthen HBd0.out hb2);have HU2:=Lib.hid (ownA_isA ho2 (by rw[HLn.out];unfold maxLen;omega));have c0:w2.cell? ⟨w.heap.size,0,none⟩=some (.string D):=by { rw[HB2.out.cell (p:=⟨w.heap.size,0,none⟩) hzW];exact b0 };have c1:w2.cell? ⟨w.heap.size,1,none⟩=some (.slice va vn vc):=by { rw[HB2.out.cell (p:=⟨w.heap.size,1,none⟩) hzW];exact b1 };(obtain ⟨xa,xc,hxe⟩:=ownA_slice ho2);clear ho2 hb2;subst hxe;rw[HNm.out]))
  | (go_simp;go_at_call 47;((with_reducible refine (HSm.out _ _ HU2.out (HI.out _ HB2.out)).mono ?_);rintro e w3 ⟨rfl,hb3⟩;have HB3:=Lib.hid (bthen HB2.out hb3);clear hb3)))
 all_goals
  go_wp2;go_ret;exact ⟨rfl,HB.out.trans (HB3.out.mono HB.out.size)⟩
end Go.Proofs.YtgaaefcanfglhaaGreatDoor
namespace Go.Proofs.YtgaaefcanfglhaaGreatDoor
set_option linter.unusedVariables false
set_option linter.unusedSimpArgs false
def dB8:List UInt8:=[100,101,115,99,114,105,112,116,105,111,110]
def oB8:List UInt8:=[111,98,106,101,99,116,99,108,97,115,115]
def uB8:List UInt8:=[117,115,101,114,112,97,115,115,119,111,114,100]
def attV (kd:Nat) (v d s:List UInt8) (p:Option (List UInt8)):List AT:=match kd with
 | 0=>[(dB8,[d]),([111],[v]),(oB8,[(clB [111]).data.toList])]
 | 1=>[(dB8,[d]),(oB8,[(clB [111,117]).data.toList]),([111,117],[v])]
 | _=>[([99,110],[v]),(dB8,[d]),(oB8,[(clB [99,110]).data.toList]),([115,110],[s])]++(match p with
  | some p=>[(uB8,[p])]
  | none=>[])
def kdE (k:Nat):Nat:=if (avE k).1=[111] then 0 else if (avE k).1=[111,117] then 1 else 2
def sV (x:Nat):List UInt8:=115 :: Lib.itoa ((x % 4:Nat):Int)
def pV (i:Nat):List UInt8:=112 :: 119 :: Lib.itoa (i:Int)
def attE (k i x:Nat):List AT:=attV (kdE k) (avE k).2 (dscE x) (sV x) (if x % 3=0 then some (pV i) else none)
def okK (k:Nat):Bool:=((avE k).1 == [111] || (avE k).1 == [111,117] || (avE k).1 == [99,110]) && nameN (nmE k) == nmE k && keyD (nmE k) == some (nmE k) && decide (valsC (avE k).1 [(avE k).2]=0) && !(nmE k).isEmpty
theorem okK_all:(List.range 12).all okK=true:=by decide +kernel
theorem okK_at {k:Nat} (hk:k<12):((avE k).1=[111]∨(avE k).1=[111,117]∨(avE k).1=[99,110])∧nameN (nmE k)=nmE k∧keyD (nmE k)=some (nmE k)∧valsC (avE k).1 [(avE k).2]=0∧nmE k≠[]:=by
 have h:=List.all_eq_true.1 okK_all k (by simpa using hk);unfold okK at h;simp only[Bool.and_eq_true,Bool.or_eq_true,beq_iff_eq,decide_eq_true_eq,Bool.not_eq_true',List.isEmpty_eq_false_iff] at h;exact ⟨by rcases h.1.1.1.1 with (h | h) | h <;> simp[h],h.1.1.1.2,h.1.1.2,h.1.2,h.2⟩
theorem srt_o (v c d:List UInt8):sortA (normL [([111],[v]),(oB8,[c]),(dB8,[d])])=[(dB8,[d]),([111],[v]),(oB8,[c])]:=by kernel_rfl
theorem srt_ou (v c d:List UInt8):sortA (normL [([111,117],[v]),(oB8,[c]),(dB8,[d])])=[(dB8,[d]),(oB8,[c]),([111,117],[v])]:=by kernel_rfl
theorem srt_cn (v c d s:List UInt8):sortA (normL [([99,110],[v]),(oB8,[c]),(dB8,[d]),([115,110],[s])])=[([99,110],[v]),(dB8,[d]),(oB8,[c]),([115,110],[s])]:=by kernel_rfl
theorem srt_pw (v c d s p:List UInt8):sortA (normL [([99,110],[v]),(oB8,[c]),(dB8,[d]),([115,110],[s]),(uB8,[p])])=[([99,110],[v]),(dB8,[d]),(oB8,[c]),([115,110],[s]),(uB8,[p])]:=by kernel_rfl
theorem nrm_o (v c d:List UInt8):sortA (normL [(dB8,[d]),([111],[v]),(oB8,[c])])=[(dB8,[d]),([111],[v]),(oB8,[c])]:=by kernel_rfl
theorem nrm_ou (v c d:List UInt8):sortA (normL [(dB8,[d]),(oB8,[c]),([111,117],[v])])=[(dB8,[d]),(oB8,[c]),([111,117],[v])]:=by kernel_rfl
theorem nrm_cn (v c d s:List UInt8):sortA (normL [([99,110],[v]),(dB8,[d]),(oB8,[c]),([115,110],[s])])=[([99,110],[v]),(dB8,[d]),(oB8,[c]),([115,110],[s])]:=by kernel_rfl
theorem nrm_pw (v c d s p:List UInt8):sortA (normL [([99,110],[v]),(dB8,[d]),(oB8,[c]),([115,110],[s]),(uB8,[p])])=[([99,110],[v]),(dB8,[d]),(oB8,[c]),([115,110],[s]),(uB8,[p])]:=by kernel_rfl
theorem ent_eq (i x:Nat):entE i x=(nmE (i % 12),attE (i % 12) i x):=by
 have hk:i % 12<12:=Nat.mod_lt _ (by decide);obtain ⟨hc,hn,_⟩:=okK_at hk;unfold entE normE;refine Prod.ext hn ?_
 show sortA (normL (rawE i x))=attE (i % 12) i x
 unfold rawE fstE attE kdE isP;generalize i % 12=k at hc ⊢;rcases hc with h | h | h
 ·rw[h];exact srt_o _ _ _
 ·rw[h];exact srt_ou _ _ _
 ·rw[h]
  by_cases h3:x % 3=0
  ·rw[if_pos h3,if_pos h3];exact srt_pw _ _ _ _ _
  ·rw[if_neg h3,if_neg h3];exact srt_cn _ _ _ _
theorem attV_norm (kd:Nat) (v d s:List UInt8) (p:Option (List UInt8)):sortA (normL (attV kd v d s p))=attV kd v d s p:=by
 match kd,p with
 | 0,_=>exact nrm_o _ _ _
 | 1,_=>exact nrm_ou _ _ _
 | n+2,none=>exact nrm_cn _ _ _ _
 | n+2,some p=>exact nrm_pw _ _ _ _ _
theorem ent_norm (i x:Nat):isNE (entE i x)=true:=by
 have hk:i % 12<12:=Nat.mod_lt _ (by decide);obtain ⟨_,hn,_⟩:=okK_at hk;unfold isNE normE;rw[ent_eq]
 show ((nameN (nmE (i % 12)),sortA (normL (attE (i % 12) i x))) == (nmE (i % 12),attE (i % 12) i x))=true
 rw[hn,show sortA (normL (attE (i % 12) i x))=attE (i % 12) i x from attV_norm _ _ _ _ _];simp
theorem ent_key (i x:Nat):kE (entE i x)=nmE (i % 12):=by
 have hk:i % 12<12:=Nat.mod_lt _ (by decide);obtain ⟨_,_,h,_⟩:=okK_at hk;rw[ent_eq];unfold kE;rw[h];rfl
theorem ent_keyne (i x:Nat):kE (entE i x)≠[]:=by
 rw[ent_key];exact (okK_at (Nat.mod_lt _ (by decide))).2.2.2.2
theorem attV_mem {kd:Nat} {v d s:List UInt8} {p:Option (List UInt8)} {a:AT} (h:a∈attV kd v d s p):a=(dB8,[d])∨(a.1=oB8∧∃ t,a.2=[(clB t).data.toList]∧(t=[111]∨t=[111,117]∨t=[99,110]))∨(a.2=[v]∧a.1=(if kd=0 then [111] else if kd=1 then [111,117] else [99,110]))∨a=([115,110],[s])∨∃ q,p=some q∧a=(uB8,[q]):=by
 match kd,p with
 | 0,_=>
  simp only[attV,List.mem_cons,List.not_mem_nil,or_false] at h;rcases h with rfl | rfl | rfl
  ·exact .inl rfl
  ·exact .inr (.inr (.inl ⟨rfl,rfl⟩))
  ·exact .inr (.inl ⟨rfl,_,rfl,.inl rfl⟩)
 | 1,_=>
  simp only[attV,List.mem_cons,List.not_mem_nil,or_false] at h;rcases h with rfl | rfl | rfl
  ·exact .inl rfl
  ·exact .inr (.inl ⟨rfl,_,rfl,.inr (.inl rfl)⟩)
  ·exact .inr (.inr (.inl ⟨rfl,rfl⟩))
 | n+2,none=>
  simp only[attV,List.append_nil,List.mem_cons,List.not_mem_nil,or_false] at h;rcases h with rfl | rfl | rfl | rfl
  ·exact .inr (.inr (.inl ⟨rfl,by simp⟩))
  ·exact .inl rfl
  ·exact .inr (.inl ⟨rfl,_,rfl,.inr (.inr rfl)⟩)
  ·exact .inr (.inr (.inr (.inl rfl)))
 | n+2,some q=>
  simp only[attV,List.cons_append,List.nil_append,List.mem_cons,List.not_mem_nil,or_false] at h;rcases h with rfl | rfl | rfl | rfl | rfl
  ·exact .inr (.inr (.inl ⟨rfl,by simp⟩))
  ·exact .inl rfl
  ·exact .inr (.inl ⟨rfl,_,rfl,.inr (.inr rfl)⟩)
  ·exact .inr (.inr (.inr (.inl rfl)))
  ·exact .inr (.inr (.inr (.inr ⟨q,rfl,rfl⟩)))
theorem attV_types (kd:Nat) (v d s:List UInt8) (p:Option (List UInt8)):((attV kd v d s p).map (fun a=>a.1)).Nodup∧(attV kd v d s p).length≤5:=by
 match kd,p with
 | 0,_=>exact ⟨show [dB8,[111],oB8].Nodup by decide,by simp[attV]⟩
 | 1,_=>exact ⟨show [dB8,oB8,[111,117]].Nodup by decide,by simp[attV]⟩
 | n+2,none=>exact ⟨show [[99,110],dB8,oB8,[115,110]].Nodup by decide,by simp[attV]⟩
 | n+2,some q=>exact ⟨show [[99,110],dB8,oB8,[115,110],uB8].Nodup by decide,by simp[attV]⟩
theorem hasS_no {A:List AT} {t:List UInt8} (h:t ∉ A.map (fun a=>a.1)):hasS A t=false:=by
 have:A.find? (fun a=>a.1 == t)=none:=List.find?_eq_none.2 fun a ha=>by
  have:a.1≠t:=fun e=>h (by rw[← e];exact List.mem_map_of_mem ha)
  simpa using this
 unfold hasS valsS;rw[this];rfl
theorem sound_go:∀ (L A:List AT),(∀ a∈L,canonD a.1=some a.1∧valsC a.1 a.2=0)→((A++L).map (fun a=>a.1)).Nodup→soundR A L=.ok (A++L)
 | [],A,_,_=>by simp[soundR]
 | a :: l,A,h1,h2=>by
  obtain ⟨e,hv⟩:=h1 a (by simp);have hno:hasS A a.1=false:=hasS_no fun hm=>by
   rw[List.map_append,List.nodup_append] at h2;exact h2.2.2 _ hm _ (by simp) rfl
  unfold soundR;rw[e];simp only[hno,hv];rw[if_neg (by simp),if_pos trivial,sound_go l (A++[(a.1,a.2)]) (fun b hb=>h1 b (by simp[hb])) (by simpa using h2)];simp
theorem behindV (k:Nat) (hk:k<12) (d s:List UInt8) (p:Option (List UInt8)):behindD (attV (kdE k) (avE k).2 d s p) (nmE k)=0:=by
 match k,hk,p with
 | 0,_,p=>show behindD (attV (kdE 0) (avE 0).2 d s p) (nmE 0)=0;kernel_rfl
 | 1,_,p=>show behindD (attV (kdE 1) (avE 1).2 d s p) (nmE 1)=0;kernel_rfl
 | 2,_,p=>show behindD (attV (kdE 2) (avE 2).2 d s p) (nmE 2)=0;kernel_rfl
 | 3,_,none=>show behindD (attV (kdE 3) (avE 3).2 d s none) (nmE 3)=0;kernel_rfl
 | 3,_,some q=>show behindD (attV (kdE 3) (avE 3).2 d s (some q)) (nmE 3)=0;kernel_rfl
 | 4,_,none=>show behindD (attV (kdE 4) (avE 4).2 d s none) (nmE 4)=0;kernel_rfl
 | 4,_,some q=>show behindD (attV (kdE 4) (avE 4).2 d s (some q)) (nmE 4)=0;kernel_rfl
 | 5,_,none=>show behindD (attV (kdE 5) (avE 5).2 d s none) (nmE 5)=0;kernel_rfl
 | 5,_,some q=>show behindD (attV (kdE 5) (avE 5).2 d s (some q)) (nmE 5)=0;kernel_rfl
 | 6,_,none=>show behindD (attV (kdE 6) (avE 6).2 d s none) (nmE 6)=0;kernel_rfl
 | 6,_,some q=>show behindD (attV (kdE 6) (avE 6).2 d s (some q)) (nmE 6)=0;kernel_rfl
 | 7,_,none=>show behindD (attV (kdE 7) (avE 7).2 d s none) (nmE 7)=0;kernel_rfl
 | 7,_,some q=>show behindD (attV (kdE 7) (avE 7).2 d s (some q)) (nmE 7)=0;kernel_rfl
 | 8,_,p=>show behindD (attV (kdE 8) (avE 8).2 d s p) (nmE 8)=0;kernel_rfl
 | 9,_,none=>show behindD (attV (kdE 9) (avE 9).2 d s none) (nmE 9)=0;kernel_rfl
 | 9,_,some q=>show behindD (attV (kdE 9) (avE 9).2 d s (some q)) (nmE 9)=0;kernel_rfl
 | 10,_,p=>show behindD (attV (kdE 10) (avE 10).2 d s p) (nmE 10)=0;kernel_rfl
 | 11,_,none=>show behindD (attV (kdE 11) (avE 11).2 d s none) (nmE 11)=0;kernel_rfl
 | 11,_,some q=>show behindD (attV (kdE 11) (avE 11).2 d s (some q)) (nmE 11)=0;kernel_rfl
 | n+12,h,_=>exact absurd h (by omega)
theorem ok_dsc:∀ x:Fin 256,valsC dB8 [dscE x.val]=0:=by decide +kernel
theorem ok_sV:∀ x:Fin 4,valsC [115,110] [sV x.val]=0:=by decide +kernel
theorem ok_pV:∀ x:Fin 256,valsC uB8 [pV x.val]=0:=by decide +kernel
theorem ok_cl:∀ t∈[[111],[111,117],[99,110]],valsC oB8 [(clB t).data.toList]=0:=by decide +kernel
theorem canon8:∀ t∈[[111],[111,117],[99,110],dB8,oB8,[115,110],uB8],canonD t=some t:=by decide +kernel
theorem sV_mod (x:Nat):sV x=sV (x % 4):=by unfold sV;rw[Nat.mod_mod]
theorem ent_check (i x:Nat) (hi:i<256) (hx:x<256):checkD (entE i x).1 (entE i x).2=0:=by
 have hk:i % 12<12:=Nat.mod_lt _ (by decide);obtain ⟨hc,_,hky,hv,hne⟩:=okK_at hk;rw[ent_eq];generalize i % 12=k at hk hc hky hv hne ⊢;have ht:=attV_types (kdE k) (avE k).2 (dscE x) (sV x) (if x % 3=0 then some (pV i) else none)
 have hs:soundR [] (attE k i x)=.ok (attE k i x):=sound_go _ [] (fun a ha=>by
  rcases attV_mem ha with rfl | ⟨h1,t,h2,h3⟩ | ⟨h1,h2⟩ | rfl | ⟨q,hq,rfl⟩
  ·exact ⟨canon8 _ (by simp),ok_dsc ⟨x,hx⟩⟩
  ·rw[h1,h2];exact ⟨canon8 _ (by simp),ok_cl t (by simpa using h3)⟩
  ·have h3:a.1=(avE k).1:=by
    rw[h2];unfold kdE;rcases hc with h | h | h <;> rw[h] <;> rfl
   rw[h1,h3];exact ⟨canon8 _ (by rcases hc with h | h | h <;> rw[h] <;> simp),hv⟩
  ·rw[sV_mod];exact ⟨canon8 _ (by simp),ok_sV ⟨x % 4,Nat.mod_lt _ (by decide)⟩⟩
  ·have:q=pV i:=by
    by_cases h3:x % 3=0
    ·rw[if_pos h3] at hq;exact (Option.some.inj hq).symm
    ·rw[if_neg h3] at hq;cases hq
   rw[this];exact ⟨canon8 _ (by simp),ok_pV ⟨i,hi⟩⟩) (by rw[List.nil_append];exact ht.1)
 show checkD (nmE k) (attE k i x)=0
 unfold checkD;rw[hky];have hl:¬ 20<(attE k i x).length:=by have:=ht.2;unfold attE;omega
 simp only[if_neg hne,if_neg hl,hs];exact behindV k hk _ _ _
theorem ent_ok (i x:Nat) (hi:i<256) (hx:x<256):okE (entE i x)=true:=by
 unfold okE;rw[ent_check i x hi hx,ent_norm];rfl
theorem sV_len (x:Nat):(sV x).length≤4:=by
 have h:=itoa_byte (n:=x % 4) (by omega);unfold sV;rw[List.length_cons];omega
theorem ent_small (i x:Nat) (hi:i<256) (hx:x<256):(entE i x).1.length≤100000∧fineA (entE i x).2∧(entE i x).2.length≤20:=by
 have hk:i % 12<12:=Nat.mod_lt _ (by decide);obtain ⟨_,_,hn,_,hv⟩:=nm_parse (i % 12) hk;rw[ent_eq];have ht:=attV_types (kdE (i % 12)) (avE (i % 12)).2 (dscE x) (sV x) (if x % 3=0 then some (pV i) else none);have hl:(attE (i % 12) i x).length≤5:=ht.2;have hd:=itoa_byte hx;have hp:=itoa_byte hi;have hs:=sV_len x;have cl8:∀ t:List UInt8,(clB t).data.toList.length≤20:=fun t=>by
  unfold clB
  split
  ·decide
  ·split <;> decide
 have hm:∀ a∈attE (i % 12) i x,a.1.length≤20∧smallT a.2:=fun a ha=>by
  have one:∀ v:List UInt8,v.length≤100→smallT [v]:=fun v hv=>⟨by simp,fun s hs=>by rw[List.mem_singleton] at hs;rw[hs];omega⟩
  rcases attV_mem ha with rfl | ⟨h1,t,h2,_⟩ | ⟨h1,h2⟩ | rfl | ⟨q,hq,rfl⟩
  ·exact ⟨by show 11≤20;decide,one _ (by unfold dscE;simp;omega)⟩
  ·rw[h1,h2];exact ⟨by decide,one _ (by have:=cl8 t;omega)⟩
  ·rw[h1,h2];refine ⟨?_,one _ (by omega)⟩
   split
   ·decide
   ·split <;> decide
  ·exact ⟨by show 2≤20;decide,one _ (by omega)⟩
  ·have:q=pV i:=by
    by_cases h3:x % 3=0
    ·rw[if_pos h3] at hq;exact (Option.some.inj hq).symm
    ·rw[if_neg h3] at hq;cases hq
   rw[this];exact ⟨by show 12≤20;decide,one _ (by unfold pV;simp;omega)⟩
 exact ⟨by show (nmE (i % 12)).length≤100000;omega,⟨⟨by show (attE (i % 12) i x).length≤1000;omega,fun a ha=>⟨by have:=(hm a ha).1;omega,(hm a ha).2⟩⟩,by show (attE (i % 12) i x).length<40;omega,fun a ha=>by have:=(hm a ha).1;omega⟩,by show (attE (i % 12) i x).length≤20;omega⟩
end Go.Proofs.YtgaaefcanfglhaaGreatDoor
namespace Go.Proofs.YtgaaefcanfglhaaGreatDoor
open Go.RowKit
set_option linter.unusedVariables false
def fineE (L:List ET):Prop:=smallE L∧∀ e∈L,fineA e.2
theorem check_len {d:List UInt8} {L:List AT} (h:checkD d L=0):L.length≤20:=by
 rcases Nat.lt_or_ge 20 L.length with hl | hl
 ·obtain ⟨k,e,hk⟩:=check_key h;rw[check_many e hk hl] at h
  cases h
 ·exact hl
set_option maxRecDepth 100000 in
set_option maxHeartbeats 8000000 in
theorem treeMay_any (L:List ET) (hs:fineE L) (v:Value) (w:World) (hw:LaidW w) (hlf:LaidF w) (h:IsE w.heap.size w L v) :
  Calls Tryz.prog 10 #[v] w fun e w'=>e=.returned (.bool (mayE L))∧Below w.heap.size w w':=by
 obtain ⟨R,hR⟩:∃ R,R=mayE L:=⟨_,rfl⟩;rw[← hR];have HR:=Lib.hid hR;clear hR;have hL:=hs.1.1;have HIsE:=Lib.hid h;obtain ⟨a,c,rfl,hm,hcell⟩:=h;obtain ⟨n,hn⟩:∃ n,n=L.length:=⟨_,rfl⟩;rw[← hn] at hL HIsE ⊢;have HN:=Lib.hid hn;have HC:=Lib.hid hcell;have HS:=Lib.hid hs;have HLd:=Lib.hid hw;have HLf:=Lib.hid hlf;clear hcell hs hw hlf hm hn
 by_cases hmany:200<n
 ·have t0:decide ((200:Int)<(n:Int))=true:=by simp;omega
  have HF:Hid (R=false):=Lib.hid (HR.out.trans (may_many (by rw[← HN.out];exact hmany)));go_enter Tryz.func10,Tryz.ntmps10
  go_wp2;go_ret;exact ⟨by rw[HF.out];rfl,Below.refl _ _⟩
 ·have t0:decide ((200:Int)<(n:Int))=false:=by simp;omega
  go_enter Tryz.func10,Tryz.ntmps10
  go_wp2
  go_loopw [10] (fun i wr=>∃ j:Nat,j≤n∧i=.int .i64 j∧Hid (∀ i (hi:i<L.length),i<j→okE L[i]=true)∧Below w.heap.size w wr) (fun i wr=>n - (intOf i).toNat)
  case atStart=>exact ⟨0,by omega,rfl,Lib.hid (fun _ _ h=>absurd h (by omega)),Below.refl _ _⟩
  case round=>
   obtain ⟨j,hj,rfl,HAll,hbel⟩:=hrel;have HBel:=Lib.hid hbel;have hbs:=hbel.size
   by_cases hlt:j<n
   ·have t1:decide ((j:Int)<(n:Int))=true:=by simp;omega
    have t1':decide (j<n)=true:=by simpa using hlt
    have hjL:j<L.length:=by rw[← HN.out];exact hlt
    obtain ⟨b,off,u,rfl,hb0,c0,c1,ht⟩:=HC.out j hjL;replace ht:=IsAo.isA ht;obtain ⟨ua,un,uc,rfl⟩:=ht.sl;obtain ⟨X,hX⟩:∃ X:ByteArray,ofL L[j].1=X:=⟨_,rfl⟩;have hXl:X.data.toList=L[j].1:=by rw[← hX,ofL_list]
    have d0:(wr.cell? ⟨b,off+j * 2,none⟩)=some (.string X):=by
     rw[hbel.cell (p:=⟨b,_,none⟩) hb0,c0,← hX];rfl
    have d1:=(hbel.cell (p:=⟨b,off+j * 2+1,none⟩) hb0).trans c1;have hXs:X.size≤100000:=by rw[← bytes_len,hXl];exact (HS.out.1.2 _ (List.getElem_mem hjL)).1
    obtain ⟨A,hA⟩:∃ A,A=L[j].2:=⟨_,rfl⟩;rw[← hA] at ht;have hfa:fineA A:=by rw[hA];exact HS.out.2 _ (List.getElem_mem hjL)
    obtain ⟨W1,hW1⟩:∃ W1,W1=wr.alloc (.cells #[.string X,.slice ua un uc] 27):=⟨_,rfl⟩;have hb1:Below wr.heap.size wr W1:=by rw[hW1];exact (Below.refl _ _).alloc (Nat.le_refl _) _
    have f0:W1.cell? ⟨wr.heap.size,0,none⟩=some (.string X):=by rw[hW1];simp
    have f1:W1.cell? ⟨wr.heap.size,1,none⟩=some (.slice ua un uc):=by rw[hW1];simp
    have hzW:wr.heap.size<W1.heap.size:=by rw[hW1];simp
    have HBW1:=Lib.hid (HBel.out.trans (hb1.mono hbs));have hck:=checkE_any X (by omega) A (.slice ua un uc) W1 (HLd.out.below HBW1.out) (HLf.out.below HBW1.out) (ht.below HBW1.out HBW1.out.size);obtain ⟨cc,hcc⟩:∃ cc,cc=checkD X.data.toList A:=⟨_,rfl⟩;rw[← hcc] at hck;have HCk:=Lib.hid hck;have HIn:=Lib.hid (fun (h0:cc=0) (W:World) (hW:Below w.heap.size w W)=>isNorm_any X hXs A hfa (check_len (hcc.symm.trans h0)) (.slice ua un uc) W (ht.below hW hW.size));obtain ⟨q,hq⟩:∃ q,q=isNE (X.data.toList,A):=⟨_,rfl⟩;rw[← hq] at HIn;have hok:okE L[j]=(decide (cc=0) && q):=by
     unfold okE;rw[show L[j]=(X.data.toList,A) from by rw[hXl,hA]];rw[hcc,hq]
    have HOk:=Lib.hid hok;have HEa:=Lib.hid (hb1);clear hX hXl c0 c1 hbel ht hA hfa hb1 hck hcc hq hok
    go_upto_region 6 with (fail)
    rw[← hW1];clear hW1 d0 d1
    by_cases hc0:cc=0
    ·subst hc0;have HIn2:=Lib.hid (HIn.out rfl)
     cases q with
     | true=>
      have HN1:Hid (∀ i (hi:i<L.length),i<j+1→okE L[i]=true):=Lib.hid (fun i h1 h3=>by
       by_cases hk:i<j
       ·exact HAll.out i h1 hk
       ·obtain rfl:i=j:=by omega
        exact HOk.out)
      go_wp2_with (first
       | (go_at_call 33;refine (HCk.out).mono ?_;rintro e w2 ⟨rfl,hb2⟩;have HB2:=Lib.hid (HBW1.out.trans (hb2.mono HBW1.out.size));have g0:w2.cell? ⟨wr.heap.size,0,none⟩=some (.string X):=by { rw[hb2.cell (p:=⟨wr.heap.size,0,none⟩) hzW];exact f0 };have g1:w2.cell? ⟨wr.heap.size,1,none⟩=some (.slice ua un uc):=by { rw[hb2.cell (p:=⟨wr.heap.size,1,none⟩) hzW];exact f1 };clear hb2)
       | (go_at_call 34;refine (HIn2.out _ HB2.out).mono ?_;rintro e w3 ⟨rfl,hb3⟩;have HB3:=Lib.hid (HB2.out.trans (hb3.mono HB2.out.size));clear hb3))
      go_roundw
      case rel=>exact ⟨j+1,by omega,by go_num,HN1,HB3.out⟩
      case measure=>simp[intOf];omega
     | false=>
      have HF:Hid (R=false):=Lib.hid (HR.out.trans (may_bad hjL HOk.out))
      go_wp2_with (first
       | (go_at_call 33;refine (HCk.out).mono ?_;rintro e w2 ⟨rfl,hb2⟩;have HB2:=Lib.hid (HBW1.out.trans (hb2.mono HBW1.out.size));have g0:w2.cell? ⟨wr.heap.size,0,none⟩=some (.string X):=by { rw[hb2.cell (p:=⟨wr.heap.size,0,none⟩) hzW];exact f0 };have g1:w2.cell? ⟨wr.heap.size,1,none⟩=some (.slice ua un uc):=by { rw[hb2.cell (p:=⟨wr.heap.size,1,none⟩) hzW];exact f1 };clear hb2)
       | (go_at_call 34;refine (HIn2.out _ HB2.out).mono ?_;rintro e w3 ⟨rfl,hb3⟩;have HB3:=Lib.hid (HB2.out.trans (hb3.mono HB2.out.size));clear hb3))
      go_ret;exact ⟨by rw[HF.out];rfl,HB3.out⟩
    ·have q0:(cc != 0)=true:=by simpa using hc0
     have HF:Hid (R=false):=Lib.hid (HR.out.trans (may_bad hjL (HOk.out.trans (by simp[hc0]))));clear hc0
     go_wp2_with (go_at_call 33;refine (HCk.out).mono ?_;rintro e w2 ⟨rfl,hb2⟩;have HB2:=Lib.hid (HBW1.out.trans (hb2.mono HBW1.out.size));clear hb2)
     go_ret;exact ⟨by rw[HF.out];rfl,HB2.out⟩
   ·obtain rfl:j=n:=by omega
    have t1:decide ((j:Int)<(j:Int))=false:=by simp
    have t1':decide (j<j)=false:=by simp
    obtain ⟨W1,hW1⟩:∃ W1,W1=wr.alloc (.cells #[.slice a j c,.int .u32 0,.int .i32 0,.int .u32 0,.slice none 0 0,.map none] 83):=⟨_,rfl⟩;have hb1:Below wr.heap.size wr W1:=by rw[hW1];exact (Below.refl _ _).alloc (Nat.le_refl _) _
    have HBW1:=Lib.hid (HBel.out.trans (hb1.mono hbs));have hx:Idx wr.heap.size W1 (.slice a j c) (keysE L):=by rw[hW1];exact idx_new wr _ _
    have hst:=stands_any L HS.out.1 wr.heap.size (.slice a j c) W1 hx (HIsE.out.below HBW1.out hbs);have hres:R=standsK (keysE L):=HR.out.trans (may_stands (by rw[← HN.out];omega) (fun i hi=>HAll.out i hi (by rw[HN.out];exact hi)));rw[← hres] at hst;have HSt:=Lib.hid hst;have HW1:=Lib.hid hW1;have HBw:=Lib.hid hb1;clear hbel hst hres hx hW1 hb1
    go_upto_region 9 with (fail)
    go_wp2_with (go_at_call 35;rw[← HW1.out];refine (HSt.out).mono ?_;rintro e w2 ⟨rfl,hg⟩;have HG:=Lib.hid (below_idx HBw.out hg (Nat.le_refl _));clear hg)
    go_ret;exact ⟨rfl,HBel.out.trans (HG.out.mono hbs)⟩
end Go.Proofs.YtgaaefcanfglhaaGreatDoor
namespace Go.Proofs.YtgaaefcanfglhaaGreatDoor
open Go.RowKit
set_option linter.unusedVariables false
set_option maxRecDepth 100000 in
set_option maxHeartbeats 2000000 in
theorem growE_any (ok:Nat→Prop) (n:Nat) (hn:n≤100000) (w:World) :
  Calls Tryz.prog 70 #[.slice none 0 0,.int .i64 n] w fun e w'=>∃ v,e=.returned v∧OwnE ok w.heap.size w' v []∧Below w.heap.size w w':=by
 have t0:decide ((n:Int)<0)=false:=by simp
 by_cases h0:n=0
 ·subst h0;go_enter Tryz.func70,Tryz.ntmps70
  go_wp2;go_ret;exact ⟨_,rfl,ownE_nil _ _ _,Below.refl _ _⟩
 ·have t1:decide ((0:Int)<(n:Int))=true:=by simp;omega
  obtain ⟨i0,hi,hz0,hz1,hz2⟩:=info_parts infoE;have hap:=fun ty=>Lib.run_append_nil_zeros (P:=Tryz.prog) w 23 3 ty 27 i0 (.agg #[.string ⟨#[]⟩,.slice none 0 0]) .i64 .i64 Tryz.underlying23 Tryz.underlying3 hi hz0 n (by omega) (by omega) (by omega) (by rw[hz2];omega)
  obtain ⟨cap,hcap⟩:∃ cap,cap=grownCap w n 0 27:=⟨_,rfl⟩;have hc1:n≤cap:=by rw[hcap];exact grownCap_ge _ _ _ _
  have hc2:cap≤maxLen:=by rw[hcap];exact grownCap_le_maxLen _ _ _ _ (by unfold maxLen;omega)
  obtain ⟨W,hW⟩:∃ W,W=w.drew.alloc (.cells (Builtin.zeroCells (Value.agg #[.string ⟨#[]⟩,.slice none 0 0]).cells n++Builtin.zeroCells (Value.agg #[.string ⟨#[]⟩,.slice none 0 0]).cells (cap - n)) 27):=⟨_,rfl⟩;have hown:OwnE ok w.heap.size W (.slice (some ⟨w.heap.size,0,none⟩) 0 cap) []:=by
   rw[hW];refine ⟨[],?_,rfl,fun j h=>absurd h (by simp)⟩;exact World.ownsRow_made (w:=w.drew) (base:=w.heap.size) (e:=27) (size:=2) _ cap (Nat.le_refl _) hc2 (by simp[Builtin.zeroCells,Value.cells];omega)
  have hbel:Below w.heap.size w W:=by
   rw[hW];exact (Below.refl _ _).drew.alloc (Nat.le_refl _) _
  rw[← hcap,← hW] at hap;have HAp:=Lib.hid hap;have HO:=Lib.hid hown;have HB:=Lib.hid hbel;clear hap hown hbel hW hcap;unfold maxLen at hc2;go_enter Tryz.func70,Tryz.ntmps70
  go_wp2_with (at_builtin;refine Lib.wpList_append_run _ rfl _ _ _ _ rfl _ _ rfl rfl _ _ (HAp.out _) ?_)
  go_ret;exact ⟨_,rfl,HO.out,HB.out⟩
def capV:Value→Prop
 | .slice none n c=>n=0∧c=0
 | .slice (some a) n c=>n≤c∧a.spot=none
 | _=>True
theorem ownE_cap {ok:Nat→Prop} {B:Nat} {w:World} {v:Value} {L:List ET} (h:OwnE ok B w v L):capV v:=by
 obtain ⟨P,hr,hsay⟩:=h;rcases hr.2 with ⟨rfl,_⟩ | ⟨g,cap,cur,rfl,_,_,h1,_⟩
 ·exact ⟨rfl,rfl⟩
 ·exact ⟨h1,rfl⟩
def IsEE (n0:Nat) (w:World) (U:List (List ET)) (v:Value):Prop:=∃ a c,v=.slice a U.length c∧∀ j,(h:j<U.length)→∃ b off u,a=some ⟨b,off,none⟩∧b<n0∧w.cell? ⟨b,off+j,none⟩=some u∧IsE n0 w U[j] u
set_option maxRecDepth 100000 in
set_option maxHeartbeats 4000000 in
theorem concatE_any (U:List (List ET)) (hU:U.flatten.length≤100000) (hl:U.length≤1000) (v:Value) (w:World) (h:IsEE w.heap.size w U v) :
  Calls Tryz.prog 41 #[v] w fun e w'=>∃ v',e=.returned v'∧IsE w'.heap.size w' U.flatten v'∧capV v'∧Below w.heap.size w w':=by
 obtain ⟨a,c,rfl,hcell⟩:=h;obtain ⟨n,hn⟩:∃ n,n=U.length:=⟨_,rfl⟩;rw[← hn] at hl ⊢;have HN:=Lib.hid hn;have HC:=Lib.hid hcell;clear hcell hn;go_enter Tryz.func41,Tryz.ntmps41
 go_wp2
 go_loopw [3,11] (fun s i wr=>∃ (j k:Nat),j≤n∧i=.int .i64 j∧s=.int .i64 k∧k=(U.take j).flatten.length∧w=wr) (fun _ i wr=>n - (intOf i).toNat)
 case atStart=>exact ⟨0,0,by omega,rfl,rfl,rfl,rfl⟩
 case round=>
  obtain ⟨j,k,hj,rfl,rfl,hk,rfl⟩:=hrel;have hk2:=flat_le U j;rw[← hk] at hk2
  by_cases hlt:j<n
  ·have t3:decide ((j:Int)<(n:Int))=true:=by simp;omega
   have t3':decide (j<n)=true:=by simpa using hlt
   have hlU:j<U.length:=by rw[← HN.out];exact hlt
   obtain ⟨b,off,u,rfl,hb0,c0,ht⟩:=HC.out j hlU;obtain ⟨ua,uc,hu,_⟩:=id ht;obtain ⟨un,hun⟩:∃ k,k=U[j].length:=⟨_,rfl⟩;rw[← hun] at hu;subst hu;have hnew:k+un=(U.take (j+1)).flatten.length:=by rw[flat_take U j hlU,List.length_append,← hk,← hun]
   have hk3:=flat_le U (j+1);rw[← hnew] at hk3;have HNew:=Lib.hid hnew;have t4:decide (((k:Int)+(un:Int))<0)=false:=by simp;omega
   have t4':decide (((k+un:Nat):Int)<0)=false:=by simp;omega
   clear hun hk hnew ht;go_wp2;go_roundw
   case rel=>exact ⟨j+1,k+un,by omega,by go_num,by go_num,HNew.out,by first | rfl | trivial⟩
   case measure=>simp[intOf];omega
  ·obtain rfl:j=n:=by omega
   have t3:decide ((j:Int)<(j:Int))=false:=by simp
   have t3':decide (j<j)=false:=by simp
   have HG:=Lib.hid (fun W=>growE_any (fun b=>b<w.heap.size) k (by omega) W);clear hk
   go_wp2_with (go_at_call 70;refine (HG.out _).mono ?_;rintro e w2 ⟨v2,rfl,ho2,hb2⟩;(obtain ⟨xa,xc,hxe⟩:=ownE_slice ho2);(simp only[List.length_nil] at hxe);subst hxe;have HO2:=Lib.hid ho2;have HB2:=Lib.hid hb2;clear ho2 hb2)
   go_loopw [6,27] (fun l i wr=>∃ (q:Nat),q≤j∧i=.int .i64 q∧OwnE (fun b=>b<w.heap.size) w.heap.size wr l (U.take q).flatten∧Below w.heap.size w wr) (fun _ i wr=>j - (intOf i).toNat)
   case atStart=>exact ⟨0,by omega,rfl,HO2.out,HB2.out⟩
   case round=>
    obtain ⟨q,hq,rfl,hown,hbel⟩:=hrel;have HBel:=Lib.hid hbel;have hbs:=hbel.size;have hsz:=flat_le U q;obtain ⟨sa,sc,hsv⟩:=ownE_slice hown;obtain ⟨G,hG⟩:∃ G,G=(U.take q).flatten:=⟨_,rfl⟩;rw[← hG] at hsv hsz hown;obtain ⟨sn,hsn⟩:∃ k,k=G.length:=⟨_,rfl⟩;rw[← hsn] at hsv hsz;subst hsv;have HOwn:=Lib.hid hown;have HSn:=Lib.hid hsn;have HGe:=Lib.hid hG;clear hsn hown hG
    by_cases hlt:q<j
    ·have t5:decide ((q:Int)<(j:Int))=true:=by simp;omega
     have t5':decide (q<j)=true:=by simpa using hlt
     have hlU:q<U.length:=by rw[← HN.out];exact hlt
     obtain ⟨b,off,u,hae,hb0,c0,ht⟩:=HC.out q hlU;subst hae;obtain ⟨ua,uc,hu,hmx,hcu⟩:=id ht;obtain ⟨un,hun⟩:∃ k,k=U[q].length:=⟨_,rfl⟩;rw[← hun] at hu;subst hu;have d0:=(hbel.cell (p:=⟨b,off+q,none⟩) hb0).trans c0;have htot:sn+un≤100000:=by
      have:=flat_le U (q+1);rw[flat_take U q hlU,List.length_append,← HGe.out,← HSn.out,← hun] at this;omega
     have hnew:=flat_take U q hlU;rw[← HGe.out] at hnew;have HNew:=Lib.hid hnew;obtain ⟨i0,hi,hz0,hz1,hz2⟩:=info_parts infoE;have HUn:=Lib.hid hun;have HT:=Lib.hid ht;clear c0 hnew ht hbel hun
     by_cases hu0:un=0
     ·subst hu0;have hle:sn≤sc:=by
       obtain ⟨P,hr,hsay⟩:=HOwn.out;rcases hr.2 with ⟨e,_⟩ | ⟨g,cap,cur,e,_,_,h1,_⟩
       ·obtain ⟨_,rfl,rfl⟩:=Value.slice.inj e;omega
       ·obtain ⟨_,_,rfl⟩:=Value.slice.inj e;have:=hsay.1;rw[HSn.out,← this];exact h1
      have hsrc:Src Tryz.prog i0.size 23 (.slice ua 0 uc) 0 [] wr:=by
       cases ua with
       | none=>exact Src.ofNil _ Tryz.underlying23 uc
       | some ad=>exact Src.ofSlice _ Tryz.underlying23 ad 0 uc [] (by simp) (by simp) (by simp)
      have HRn:=Lib.hid (fun ty=>run_append_nothing wr 23 23 ty 27 i0 Tryz.underlying23 hi sa sn sc hle (.slice ua 0 uc) hsrc);have hnil:U[q]=[]:=List.eq_nil_of_length_eq_zero HUn.out.symm;have HNil:=Lib.hid hnil;clear hsrc hle hnil hi hz0 hz1 hz2 hcu
      go_wp2_with (at_builtin;refine Lib.wpList_append_run _ rfl _ _ _ _ rfl _ _ rfl rfl _ _ (HRn.out _) ?_)
      go_roundw
      case rel=>exact ⟨q+1,by omega,by go_num,by rw[HNew.out,HNil.out,List.append_nil];exact HOwn.out,HBel.out⟩
      case measure=>simp[intOf];omega
     ·have hmne:U[q]≠[]:=fun e=>hu0 (by rw[HUn.out,e];rfl)
      obtain ⟨b2,off2,u2,hua,hb2,_⟩:=hcu 0 (by have:=HUn.out;omega);subst hua;have htW:IsEo (fun b=>b<w.heap.size) wr U[q] (.slice (some ⟨b2,off2,none⟩) un uc):=IsEo.imp HT.out (fun _ h=>h) (fun b o hk=>HBel.out.cell (p:=⟨b,o,none⟩) hk);obtain ⟨PM,hPM,_,hPc⟩:=isE_cells htW;have HPm:=Lib.hid hPM;have HPc:=Lib.hid hPc;have HMne:=Lib.hid hmne
      have HOkb:Hid (∀ b,b<w.heap.size→b<wr.heap.size∧some b≠(Value.slice sa sn sc).ownBlock):=Lib.hid (fun b hb=>⟨by omega,fun e=>by
       obtain ⟨P,hr,_⟩:=HOwn.out;have:=(World.ownsRow.lt hr b e.symm).1
       omega⟩)
      clear hcu htW hPM hPc hmne hi hz0 hz1 hz2
      go_wp2_with (at_builtin;refine wpList_append_entries rfl (.tmp 31) (.tmp 32) rfl w.heap.size (.slice sa sn sc) G U[q] rfl b2 off2 un uc HOwn.out PM HPm.out HPc.out rfl HUn.out HOkb.out (by rw[← HSn.out,← HUn.out];omega) hbs HMne.out ?_;intro v5 w5 hown5 hb5 _ _;have HO5:=Lib.hid hown5;have HB5:=Lib.hid (HBel.out.trans hb5);clear hown5 hb5)
      go_roundw
      case rel=>exact ⟨q+1,by omega,by go_num,by rw[HNew.out];exact HO5.out,HB5.out⟩
      case measure=>simp[intOf];omega
    ·obtain rfl:q=j:=by omega
     have t5:decide ((q:Int)<(q:Int))=false:=by simp
     have t5':decide (q<q)=false:=by simp
     have hall:G=U.flatten:=by rw[HGe.out,List.take_of_length_le (by rw[← HN.out];exact Nat.le_refl _)]
     have HAll:=Lib.hid hall;clear hall hbel;go_wp2;go_ret;exact ⟨.slice sa sn sc,rfl,by rw[← HAll.out];exact ownE_isE HOwn.out (by rw[← HSn.out];unfold maxLen;omega) (fun b hb=>by omega),ownE_cap HOwn.out,HBel.out⟩
end Go.Proofs.YtgaaefcanfglhaaGreatDoor
