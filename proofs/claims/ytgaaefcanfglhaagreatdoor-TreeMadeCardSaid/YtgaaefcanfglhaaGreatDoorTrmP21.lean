/- Several texts in one file: RegHeld, TrDoc4, TrMadeW. -/
import Derived.Deep.RegionHeld3
import Derived.WalkKit
import Derived.Test.YtgaaefcanfglhaaGreatDoorTrmP18
import Derived.Test.YtgaaefcanfglhaaGreatDoorTrmP9
import Derived.Test.YtgaaefcanfglhaaGreatDoorTrmP17
import Derived.Test.YtgaaefcanfglhaaGreatDoorTrmP19
import Derived.Deep.Cut
namespace Go.Proofs.YtgaaefcanfglhaaGreatDoor
set_option linter.unusedVariables false
section
variable {P:Program} {md:Region.Mode} {ops:Array Oper} {Q:Exit→Act→World→Prop} {S:World→Prop}
theorem takeV (i:Nat) {oi:Oper} {v:Value} {fuel:Nat} {listed:Array Bool} {a:Act} {w:World}
  (hi:ops[i]?=some oi:=by (simp only[List.getElem?_toArray,List.getElem?_cons_succ,List.getElem?_cons_zero];rfl))
  (hs:Region.noSelect ops=true:=by kernel_rfl) (hf:Region.free md ops listed i=true:=by kernel_rfl) (hr:(Region.ready md ops listed).contains i=true:=by kernel_rfl)
  (hQ:∀ c a w,Q (.panic c) (a.put oi.dst v) w→Q (.panic c) a w:=by exact fun _ _ _ h=>h) (hw:Region.wanted oi (yielded ops a.tmps)=true:=by rfl)
  (hv:∀ w',S w'→(execOp a.eval oi).run P w'=.ok (.value v) w':=by (intro w' hSw;(try dsimp only at hSw);go_simp;first | done | with_reducible rfl)) (hS:S w:=by assumption)
  (h:wpAnyH P md ops Q S fuel (listed.setIfInBounds i true) (a.put oi.dst v) w):wpAnyH P md ops Q S (fuel+1) listed a w:=
 wpAnyH_take hi hs hf hr hQ (.inl ⟨hw,hv⟩) hS h
theorem takeS (i:Nat) {oi:Oper} {fuel:Nat} {listed:Array Bool} {a:Act} {w:World}
  (hi:ops[i]?=some oi:=by (simp only[List.getElem?_toArray,List.getElem?_cons_succ,List.getElem?_cons_zero];rfl))
  (hs:Region.noSelect ops=true:=by kernel_rfl) (hf:Region.free md ops listed i=true:=by kernel_rfl) (hr:(Region.ready md ops listed).contains i=true:=by kernel_rfl)
  (hQ:∀ c a w,Q (.panic c) (a.put oi.dst undef) w→Q (.panic c) a w:=by exact fun _ _ _ h=>h) (hw:Region.wanted oi (yielded ops a.tmps)=false:=by rfl) (hS:S w:=by assumption)
  (h:wpAnyH P md ops Q S fuel (listed.setIfInBounds i true) (a.put oi.dst undef) w):wpAnyH P md ops Q S (fuel+1) listed a w:=
 wpAnyH_take hi hs hf hr hQ (.inr ⟨hw,rfl⟩) hS h
end
end Go.Proofs.YtgaaefcanfglhaaGreatDoor
namespace Go.Proofs.YtgaaefcanfglhaaGreatDoor
open Go.RowKit
set_option linter.unusedVariables false
set_option linter.unusedSimpArgs false
theorem gtB_less (x y:List UInt8):gtB x y=Op.bytesLess y x:=(less_gtB x y).symm
theorem may_rise {L:List ET} {j:Nat} (hj:j<L.length) (h:riseK (keysE L) j=false):mayE L=false:=may_no (stands_no (by rw[keysE_len];exact hj) (.inl h))
set_option maxRecDepth 100000 in
set_option maxHeartbeats 8000000 in
theorem mayR7_any (L:List ET) (hs:fineE L) (v:Value) (w:World) (h:IsE w.heap.size w L v) :
  Calls Tryz.prog 22 #[v] w fun e w'=>e=.returned (.bool (mayE L))∧Below w.heap.size w w':=by
 obtain ⟨R,hR⟩:∃ R,R=mayE L:=⟨_,rfl⟩;rw[← hR];have HR:=Lib.hid hR;have hL:=hs.1.1;obtain ⟨a,c,rfl,hm,hcell⟩:=id h;obtain ⟨n,hn⟩:∃ n,n=L.length:=⟨_,rfl⟩;rw[← hn] at hL hm ⊢;unfold maxLen at hm;have HN:=Lib.hid hn;have HC:=Lib.hid hcell;have HS:=Lib.hid hs;obtain ⟨KS,hKS⟩:∃ KS,KS=keysE L:=⟨_,rfl⟩;have hKn:KS.length=L.length:=by rw[hKS,keysE_len]
 have HKs:=Lib.hid hKS;have HKn:=Lib.hid hKn;clear hcell hs hn hR hKS hKn h
 by_cases hmany:200<n
 ·have t0:decide ((200:Int)<(n:Int))=true:=by simp;omega
  have HF:Hid (R=false):=Lib.hid (HR.out.trans (may_many (by rw[← HN.out];exact hmany)));go_enter Tryz.func22,Tryz.ntmps22
  go_wp2;go_ret;exact ⟨by rw[HF.out];rfl,Below.refl _ _⟩
 ·have t0:decide ((200:Int)<(n:Int))=false:=by simp;omega
  go_enter Tryz.func22,Tryz.ntmps22
  go_wp2
  go_loopw [3,4] (fun l i wr=>∃ j:Nat,j≤n∧i=.int .i64 j∧OwnS w.heap.size wr l (KS.take j)∧Hid (∀ i (hi:i<L.length),i<j→okE L[i]=true∧riseK KS i=true)∧Below w.heap.size w wr) (fun _ i wr=>n - (intOf i).toNat)
  case atStart=>exact ⟨0,by omega,rfl,ownS_nil _ _,Lib.hid (fun _ _ h=>absurd h (by omega)),Below.refl _ _⟩
  case round=>
   obtain ⟨j,hj,rfl,hown,HAll,hbel⟩:=hrel;have HBel:=Lib.hid hbel;have hbs:=hbel.size;obtain ⟨sa,sc,hsv⟩:=ownS_slice hown;have htl:(KS.take j).length=j:=by have h1:=HKn.out;have h2:=HN.out;rw[List.length_take];omega
   rw[htl] at hsv;subst hsv;have HTl:=Lib.hid htl;have HOwn:=Lib.hid hown;clear hown htl
   by_cases hlt:j<n
   ·have t1:decide ((j:Int)<(n:Int))=true:=by simp;omega
    have t1':decide (j<n)=true:=by simpa using hlt
    have qj:(j:Int)<(n:Int):=by omega
    have hjL:j<L.length:=by rw[← HN.out];exact hlt
    have hjK:j<KS.length:=by rw[HKn.out];exact hjL
    obtain ⟨b,off,u,rfl,hb0,c0,c1,hto⟩:=HC.out j hjL;have ht:=IsAo.isA hto;obtain ⟨ua,un,uc,rfl⟩:=ht.sl;obtain ⟨X,hX⟩:∃ X:ByteArray,ofL L[j].1=X:=⟨_,rfl⟩;have hXl:X.data.toList=L[j].1:=by rw[← hX,ofL_list]
    have hd0:∀ W,Below w.heap.size w W→W.cell? ⟨b,off+j * 2,none⟩=some (.string X):=fun W hW=>by rw[hW.cell (p:=⟨b,_,none⟩) hb0,c0,← hX];rfl
    have hd1:=fun (W:World) (hW:Below w.heap.size w W)=>(hW.cell (p:=⟨b,off+j * 2+1,none⟩) hb0).trans c1
    have d0:=hd0 wr HBel.out;have d1:=hd1 wr HBel.out;have HD0:=Lib.hid hd0;have HD1:=Lib.hid hd1;obtain ⟨A,hA⟩:∃ A,A=L[j].2:=⟨_,rfl⟩;rw[← hA] at ht;have hfa:fineA A:=by rw[hA];exact HS.out.2 _ (List.getElem_mem hjL)
    have hXs:X.size≤100000:=by rw[← bytes_len,hXl];exact (HS.out.1.2 _ (List.getElem_mem hjL)).1
    have hkey:=fun W=>keyR_any X hXs ua un uc W
    obtain ⟨Y,hY⟩:∃ Y,Y=keyB (keyD X.data.toList):=⟨_,rfl⟩;rw[← hY] at hkey;have hYl:Y.data.toList=KS[j]:=by
     rw[hY,keyB_list,hXl];have hKS:=HKs.out;subst hKS;exact (keysE_at L j hjL).symm
    have HKy:=Lib.hid hkey;have HYl:=Lib.hid hYl;have HIa:Hid (∀ W,Below w.heap.size w W→IsA W.heap.size W A (.slice ua un uc)):=Lib.hid (fun W hW=>ht.below hW hW.size);obtain ⟨cc,hcc⟩:∃ cc,cc=checkD X.data.toList A:=⟨_,rfl⟩;obtain ⟨q,hq⟩:∃ q,q=isNE (X.data.toList,A):=⟨_,rfl⟩;have hok:okE L[j]=(decide (cc=0) && q):=by
     unfold okE;rw[show L[j]=(X.data.toList,A) from by rw[hXl,hA]];rw[hcc,hq]
    have HOk:=Lib.hid hok;have hnm:=fineA_norm hfa;obtain ⟨nm,hnmE⟩:∃ nm,nm=ofL (nameN X.data.toList):=⟨_,rfl⟩;have HNm:Hid (strV (nameN X.data.toList)=.string nm):=Lib.hid (by rw[hnmE];rfl);have HNr:=Lib.hid (fun (W:World) (hW:IsA W.heap.size W A (.slice ua un uc))=>normRef_entry X hXs A hfa.1 (.slice ua un uc) W hW);have hq2:(((ofL (nameN X.data.toList)).data.toList,sortA (normL A)) == (X.data.toList,A))=q:=by rw[ofL_list,hq];rfl
    have HSm:=Lib.hid (fun (W:World) (u:Value) (hu:IsA W.heap.size W (sortA (normL A)) u) (h1:IsA W.heap.size W A (.slice ua un uc))=>sameRef_entry (ofL (nameN X.data.toList)) X (sortA (normL A)) A hnm.1 u (.slice ua un uc) W hu h1);rw[hq2,← hnmE] at HSm;have HCk:=Lib.hid (fun (W:World) (hW:IsA W.heap.size W A (.slice ua un uc))=>checkRef_any X hXs A hfa.1 (.slice ua un uc) W hW);rw[← hcc] at HCk;have hnew:KS.take (j+1)=KS.take j++[Y.data.toList]:=by rw[List.take_succ_eq_append_getElem hjK,hYl]
    have HNew:=Lib.hid hnew;clear hX hXl c0 c1 ht hto hkey hY hYl hd0 hd1 hA hfa hcc hq hok hnm hnmE hq2 hnew hbel
    go_upto_region 8 with (go_at_call 11;refine (HKy.out _).mono ?_;rintro e w2 ⟨rfl,hb2⟩;have HB2:=Lib.hid (HBel.out.trans (hb2.mono hbs));have HO2:=Lib.hid (ownS_below HOwn.out hb2);clear hb2)
    clear d0 d1;have e0:=HD0.out _ HB2.out;have e1:=HD1.out _ HB2.out;have hbs2:=HB2.out.size;have HB2d:=Lib.hid HB2.out.drew
    cases q with
    | false=>
     have HF:Hid (R=false):=Lib.hid (HR.out.trans (may_bad hjL (HOk.out.trans (by simp))));have HE:=Lib.hid (fun (W:World) (hW:Below w2.heap.size w2 W)=>And.intro (HD0.out W (HB2.out.trans (hW.mono hbs2))) (And.intro (HD1.out W (HB2.out.trans (hW.mono hbs2))) hW));have HW0d:Hid (Below w2.heap.size w2 w2.drew):=Lib.hid (Below.refl _ _).drew;have HW0:=Lib.hid (HB2.out.trans (HW0d.out.mono hbs2));refine wp_region_held_drew (S:=(fun w'=>w'.cell? ⟨b,off+j * 2,none⟩=some (.string X)∧w'.cell? ⟨b,off+j * 2+1,none⟩=some (.slice ua un uc)∧Below w2.heap.size w2 w')) (by kernel_rfl) (HE.out _ HW0d.out) (fun hHeld=>?_);refine takeV 0 (h:=?_);refine takeV 1 (h:=?_);refine takeV 2 (h:=?_)
     try simp only[Act.put,List.setIfInBounds_toArray,List.set_cons_zero,List.set_cons_succ]
     refine takeV 3 (h:=?_);refine takeV 5 (h:=?_);refine takeV 6 (h:=?_)
     try simp only[Act.put,List.setIfInBounds_toArray,List.set_cons_zero,List.set_cons_succ]
     refine takeV 7 (h:=?_);refine takeV 8 (h:=?_)
     try simp only[Act.put,List.setIfInBounds_toArray,List.set_cons_zero,List.set_cons_succ]
     refine' wpAnyH_ready (rs:=[4]) (by kernel_rfl) (by simp) (AllReadyH.cons (o:=?oo9) ?ho9 (fun K hK=>?st9) AllReadyH.nil)
     case ho9=>(simp only[List.getElem?_toArray,List.getElem?_cons_succ,List.getElem?_cons_zero];rfl)
     go_simp
     (go_at_call 31;(with_reducible refine (HNr.out _ (HIa.out _ HW0.out)).mono ?_);rintro e wA ⟨vA,rfl,hA,hbA⟩;have HBA:=Lib.hid (HW0d.out.trans hbA);have HWA:=Lib.hid (HB2.out.trans (HBA.out.mono hbs2));have HIA:=Lib.hid hA;(obtain ⟨aa,an,ac,rfl⟩:=hA.sl);clear hA hbA;rw[HNm.out])
     refine hK.out _ _ (HE.out _ HBA.out) (fun hHeld4=>?_);clear hK K
     try simp only[Act.put,List.setIfInBounds_toArray,List.set_cons_zero,List.set_cons_succ]
     try simp only[Act.put,List.setIfInBounds_toArray,List.set_cons_zero,List.set_cons_succ]
     refine' wpAnyH_ready (rs:=[9]) (by kernel_rfl) (by simp) (AllReadyH.cons (o:=?oo10) ?ho10 (fun K hK=>?st10) AllReadyH.nil)
     case ho10=>(simp only[List.getElem?_toArray,List.getElem?_cons_succ,List.getElem?_cons_zero];rfl)
     go_simp
     (go_at_call 24;(with_reducible refine (HSm.out _ _ HIA.out (HIa.out _ HWA.out)).mono ?_);rintro e wB ⟨rfl,hbB⟩;have HBB:=Lib.hid (bthen HBA.out hbB);have HWB:=Lib.hid (HB2.out.trans (HBB.out.mono hbs2));clear hbB)
     refine hK.out _ _ (HE.out _ HBB.out) (fun hHeld9=>?_);clear hK K
     try simp only[Act.put,List.setIfInBounds_toArray,List.set_cons_zero,List.set_cons_succ]
     refine takeV 10 (h:=?_);refine takeV 11 (h:=?_);refine takeS 12 (h:=?_)
     try simp only[Act.put,List.setIfInBounds_toArray,List.set_cons_zero,List.set_cons_succ]
     refine takeS 13 (h:=?_);refine takeS 14 (h:=?_);refine takeS 15 (h:=?_)
     try simp only[Act.put,List.setIfInBounds_toArray,List.set_cons_zero,List.set_cons_succ]
     refine takeS 16 (h:=?_);refine takeS 17 (h:=?_);refine takeV 18 (h:=?_)
     try simp only[Act.put,List.setIfInBounds_toArray,List.set_cons_zero,List.set_cons_succ]
     refine takeV 19 (h:=?_);refine takeS 20 (h:=?_);refine takeS 21 (h:=?_)
     try simp only[Act.put,List.setIfInBounds_toArray,List.set_cons_zero,List.set_cons_succ]
     refine takeS 22 (h:=?_);refine takeS 23 (h:=?_);refine takeS 24 (h:=?_)
     try simp only[Act.put,List.setIfInBounds_toArray,List.set_cons_zero,List.set_cons_succ]
     refine takeS 25 (h:=?_);refine takeS 26 (h:=?_);refine takeS 27 (h:=?_)
     try simp only[Act.put,List.setIfInBounds_toArray,List.set_cons_zero,List.set_cons_succ]
     refine takeS 28 (h:=?_);refine takeS 29 (h:=?_);refine takeS 30 (h:=?_)
     try simp only[Act.put,List.setIfInBounds_toArray,List.set_cons_zero,List.set_cons_succ]
     refine takeV 31 (h:=?_)
     try simp only[Act.put,List.setIfInBounds_toArray,List.set_cons_zero,List.set_cons_succ]
     refine wpAnyH_done (by kernel_rfl) ?_ _;go_wp2;go_ret;exact ⟨by rw[HF.out];rfl,HWB.out⟩
    | true=>
     by_cases hc0:cc=0
     ·subst hc0;have hokj:okE L[j]=true:=by rw[HOk.out];rfl
      have HOkj:=Lib.hid hokj;clear hokj
      by_cases hj0:j=0
      ·have q0:decide ((0:Int)<(j:Int))=false:=by simp;omega
       have q0':decide (0<j)=false:=by simp;omega
       have HN1:Hid (∀ i (hi:i<L.length),i<j+1→okE L[i]=true∧riseK KS i=true):=Lib.hid (fun i h1 h3=>by
        by_cases hk:i<j
        ·exact HAll.out i h1 hk
        ·obtain rfl:i=j:=by omega
         exact ⟨HOkj.out,by rw[hj0];rfl⟩)
       clear hj0;have HE:=Lib.hid (fun (W:World) (hW:Below w2.heap.size w2 W)=>And.intro (HD0.out W (HB2.out.trans (hW.mono hbs2))) (And.intro (HD1.out W (HB2.out.trans (hW.mono hbs2))) hW));have HW0d:Hid (Below w2.heap.size w2 w2.drew):=Lib.hid (Below.refl _ _).drew;have HW0:=Lib.hid (HB2.out.trans (HW0d.out.mono hbs2));refine wp_region_held_drew (S:=(fun w'=>w'.cell? ⟨b,off+j * 2,none⟩=some (.string X)∧w'.cell? ⟨b,off+j * 2+1,none⟩=some (.slice ua un uc)∧Below w2.heap.size w2 w')) (by kernel_rfl) (HE.out _ HW0d.out) (fun hHeld=>?_);refine takeV 0 (h:=?_);refine takeV 1 (h:=?_);refine takeV 2 (h:=?_)
       try simp only[Act.put,List.setIfInBounds_toArray,List.set_cons_zero,List.set_cons_succ]
       refine takeV 3 (h:=?_);refine takeV 5 (h:=?_);refine takeV 6 (h:=?_)
       try simp only[Act.put,List.setIfInBounds_toArray,List.set_cons_zero,List.set_cons_succ]
       refine takeV 7 (h:=?_);refine takeV 8 (h:=?_)
       try simp only[Act.put,List.setIfInBounds_toArray,List.set_cons_zero,List.set_cons_succ]
       refine' wpAnyH_ready (rs:=[4]) (by kernel_rfl) (by simp) (AllReadyH.cons (o:=?oo41) ?ho41 (fun K hK=>?st41) AllReadyH.nil)
       case ho41=>(simp only[List.getElem?_toArray,List.getElem?_cons_succ,List.getElem?_cons_zero];rfl)
       go_simp
       (go_at_call 31;(with_reducible refine (HNr.out _ (HIa.out _ HW0.out)).mono ?_);rintro e wA ⟨vA,rfl,hA,hbA⟩;have HBA:=Lib.hid (HW0d.out.trans hbA);have HWA:=Lib.hid (HB2.out.trans (HBA.out.mono hbs2));have HIA:=Lib.hid hA;(obtain ⟨aa,an,ac,rfl⟩:=hA.sl);clear hA hbA;rw[HNm.out])
       refine hK.out _ _ (HE.out _ HBA.out) (fun hHeld4=>?_);clear hK K
       try simp only[Act.put,List.setIfInBounds_toArray,List.set_cons_zero,List.set_cons_succ]
       try simp only[Act.put,List.setIfInBounds_toArray,List.set_cons_zero,List.set_cons_succ]
       refine' wpAnyH_ready (rs:=[9]) (by kernel_rfl) (by simp) (AllReadyH.cons (o:=?oo42) ?ho42 (fun K hK=>?st42) AllReadyH.nil)
       case ho42=>(simp only[List.getElem?_toArray,List.getElem?_cons_succ,List.getElem?_cons_zero];rfl)
       go_simp
       (go_at_call 24;(with_reducible refine (HSm.out _ _ HIA.out (HIa.out _ HWA.out)).mono ?_);rintro e wB ⟨rfl,hbB⟩;have HBB:=Lib.hid (bthen HBA.out hbB);have HWB:=Lib.hid (HB2.out.trans (HBB.out.mono hbs2));clear hbB)
       refine hK.out _ _ (HE.out _ HBB.out) (fun hHeld9=>?_);clear hK K
       try simp only[Act.put,List.setIfInBounds_toArray,List.set_cons_zero,List.set_cons_succ]
       refine takeV 10 (h:=?_);refine takeV 11 (h:=?_);refine takeV 12 (h:=?_)
       try simp only[Act.put,List.setIfInBounds_toArray,List.set_cons_zero,List.set_cons_succ]
       refine takeV 13 (h:=?_);refine takeV 14 (h:=?_);refine takeV 15 (h:=?_)
       try simp only[Act.put,List.setIfInBounds_toArray,List.set_cons_zero,List.set_cons_succ]
       try simp only[Act.put,List.setIfInBounds_toArray,List.set_cons_zero,List.set_cons_succ]
       refine' wpAnyH_ready (rs:=[16]) (by kernel_rfl) (by simp) (AllReadyH.cons (o:=?oo49) ?ho49 (fun K hK=>?st49) AllReadyH.nil)
       case ho49=>(simp only[List.getElem?_toArray,List.getElem?_cons_succ,List.getElem?_cons_zero];rfl)
       go_simp
       (go_at_call 43;(with_reducible refine (HCk.out _ (HIa.out _ HWB.out)).mono ?_);rintro e wC ⟨rfl,hbC⟩;have HBC:=Lib.hid (bthen HBB.out hbC);have HWC:=Lib.hid (HB2.out.trans (HBC.out.mono hbs2));clear hbC)
       refine hK.out _ _ (HE.out _ HBC.out) (fun hHeld16=>?_);clear hK K
       try simp only[Act.put,List.setIfInBounds_toArray,List.set_cons_zero,List.set_cons_succ]
       refine takeV 17 (h:=?_);refine takeV 18 (h:=?_);refine takeV 19 (h:=?_)
       try simp only[Act.put,List.setIfInBounds_toArray,List.set_cons_zero,List.set_cons_succ]
       refine takeV 20 (h:=?_);refine takeV 21 (h:=?_);refine takeV 22 (h:=?_)
       try simp only[Act.put,List.setIfInBounds_toArray,List.set_cons_zero,List.set_cons_succ]
       refine takeS 23 (h:=?_);refine takeS 24 (h:=?_);refine takeS 25 (h:=?_)
       try simp only[Act.put,List.setIfInBounds_toArray,List.set_cons_zero,List.set_cons_succ]
       refine takeS 26 (h:=?_);refine takeS 27 (h:=?_);refine takeS 28 (h:=?_)
       try simp only[Act.put,List.setIfInBounds_toArray,List.set_cons_zero,List.set_cons_succ]
       refine takeS 29 (h:=?_);refine takeV 30 (h:=?_);refine takeV 31 (h:=?_)
       try simp only[Act.put,List.setIfInBounds_toArray,List.set_cons_zero,List.set_cons_succ]
       try simp only[Act.put,List.setIfInBounds_toArray,List.set_cons_zero,List.set_cons_succ]
       refine wpAnyH_done (by kernel_rfl) ?_ _
       go_wp2_with (at_builtin;refine wpList_append_text rfl (.tmp 54) (.tmp 56) rfl w.heap.size (.slice sa j sc) (KS.take j) rfl Y (ownS_below HO2.out HBC.out) rfl (by rw[HTl.out];omega) HWC.out.size ?_;intro v5 w5 hown5 hb5;have HO5:=Lib.hid hown5;have HB5:=Lib.hid (HWC.out.trans hb5);clear hown5 hb5)
       go_roundw
       case rel=>exact ⟨j+1,by omega,by go_num,by rw[HNew.out];exact HO5.out,HN1,HB5.out⟩
       case measure=>simp[intOf];omega
      ·obtain ⟨m,hm1⟩:∃ m,j=m+1:=⟨j - 1,by omega⟩;have q0:decide ((0:Int)<(j:Int))=true:=by simp;omega
       have q0':decide (0<j)=true:=by simp;omega
       have hsub:(j:Int) - 1=(m:Int):=by omega
       have hmj:(m:Int)<(j:Int):=by omega
       have hmj':m<j:=by omega
       have hmK:m<KS.length:=by omega
       have hwm:IntKind.i64.wrap (m:Int)=(m:Int):=IntWalk.i64_in _ (by omega);have hm0:(0:Int)≤(m:Int):=by omega
       obtain ⟨Z,hZ⟩:∃ Z:ByteArray,ofL KS[m]=Z:=⟨_,rfl⟩;have hZl:Z.data.toList=KS[m]:=by rw[← hZ,ofL_list]
       obtain ⟨kb,kc,hkv,_,_,hkc⟩:=ownS_at HO2.out (by intro e;have:=HTl.out;rw[e] at this;simp at this;omega);rw[HTl.out] at hkv;obtain ⟨hka,_,hkc2⟩:=Value.slice.inj hkv;subst hka hkc2;have z0:w2.cell? ⟨kb,m,none⟩=some (.string Z):=by
        have:=hkc m (by rw[HTl.out];exact hmj');rw[this,List.getElem_take,← hZ];rfl
       have hkl:kb<w2.heap.size:=World.block_lt_of_cell? w2 _ z0;obtain ⟨bl,hbl⟩:∃ bl,Op.bytesLess Z.toList Y.toList=bl:=⟨_,rfl⟩;have hrise:riseK KS j=bl:=by
        unfold riseK;have:(j == 0)=false:=by simpa using hj0
        rw[this,Bool.false_or,getD_in _ _ hjK,getD_in _ _ (show j - 1<KS.length by omega)];have e1:KS[j - 1]'(by omega)=KS[m]:=by congr 1;omega
        rw[e1,gtB_less,← HYl.out,← hZl,← ByteArray.toList_eq,← ByteArray.toList_eq,hbl]
       have HRise:=Lib.hid hrise;have HZ0:=Lib.hid (fun (W:World) (hW:Below w2.heap.size w2 W)=>(hW.cell (p:=⟨kb,m,none⟩) hkl).trans z0);have HM1:=Lib.hid hm1;clear hZ hZl hkv hkc hrise hj0 hm1 z0
       cases bl with
       | true=>
        have HN1:Hid (∀ i (hi:i<L.length),i<j+1→okE L[i]=true∧riseK KS i=true):=Lib.hid (fun i h1 h3=>by
         by_cases hk:i<j
         ·exact HAll.out i h1 hk
         ·obtain rfl:i=j:=by omega
          exact ⟨HOkj.out,HRise.out⟩)
        have HE:=Lib.hid (fun (W:World) (hW:Below w2.heap.size w2 W)=>And.intro (HD0.out W (HB2.out.trans (hW.mono hbs2))) (And.intro (HD1.out W (HB2.out.trans (hW.mono hbs2))) (And.intro (HZ0.out W hW) hW)));have HW0d:Hid (Below w2.heap.size w2 w2.drew):=Lib.hid (Below.refl _ _).drew;have HW0:=Lib.hid (HB2.out.trans (HW0d.out.mono hbs2));refine wp_region_held_drew (S:=(fun w'=>w'.cell? ⟨b,off+j * 2,none⟩=some (.string X)∧w'.cell? ⟨b,off+j * 2+1,none⟩=some (.slice ua un uc)∧w'.cell? ⟨kb,m,none⟩=some (.string Z)∧Below w2.heap.size w2 w')) (by kernel_rfl) (HE.out _ HW0d.out) (fun hHeld=>?_);refine takeV 0 (h:=?_);refine takeV 1 (h:=?_);refine takeV 2 (h:=?_)
        try simp only[Act.put,List.setIfInBounds_toArray,List.set_cons_zero,List.set_cons_succ]
        refine takeV 3 (h:=?_);refine takeV 5 (h:=?_);refine takeV 6 (h:=?_)
        try simp only[Act.put,List.setIfInBounds_toArray,List.set_cons_zero,List.set_cons_succ]
        refine takeV 7 (h:=?_);refine takeV 8 (h:=?_)
        try simp only[Act.put,List.setIfInBounds_toArray,List.set_cons_zero,List.set_cons_succ]
        refine' wpAnyH_ready (rs:=[4]) (by kernel_rfl) (by simp) (AllReadyH.cons (o:=?oo73) ?ho73 (fun K hK=>?st73) AllReadyH.nil)
        case ho73=>(simp only[List.getElem?_toArray,List.getElem?_cons_succ,List.getElem?_cons_zero];rfl)
        go_simp
        (go_at_call 31;(with_reducible refine (HNr.out _ (HIa.out _ HW0.out)).mono ?_);rintro e wA ⟨vA,rfl,hA,hbA⟩;have HBA:=Lib.hid (HW0d.out.trans hbA);have HWA:=Lib.hid (HB2.out.trans (HBA.out.mono hbs2));have HIA:=Lib.hid hA;(obtain ⟨aa,an,ac,rfl⟩:=hA.sl);clear hA hbA;rw[HNm.out])
        refine hK.out _ _ (HE.out _ HBA.out) (fun hHeld4=>?_);clear hK K
        try simp only[Act.put,List.setIfInBounds_toArray,List.set_cons_zero,List.set_cons_succ]
        try simp only[Act.put,List.setIfInBounds_toArray,List.set_cons_zero,List.set_cons_succ]
        refine' wpAnyH_ready (rs:=[9]) (by kernel_rfl) (by simp) (AllReadyH.cons (o:=?oo74) ?ho74 (fun K hK=>?st74) AllReadyH.nil)
        case ho74=>(simp only[List.getElem?_toArray,List.getElem?_cons_succ,List.getElem?_cons_zero];rfl)
        go_simp
        (go_at_call 24;(with_reducible refine (HSm.out _ _ HIA.out (HIa.out _ HWA.out)).mono ?_);rintro e wB ⟨rfl,hbB⟩;have HBB:=Lib.hid (bthen HBA.out hbB);have HWB:=Lib.hid (HB2.out.trans (HBB.out.mono hbs2));clear hbB)
        refine hK.out _ _ (HE.out _ HBB.out) (fun hHeld9=>?_);clear hK K
        try simp only[Act.put,List.setIfInBounds_toArray,List.set_cons_zero,List.set_cons_succ]
        refine takeV 10 (h:=?_);refine takeV 11 (h:=?_);refine takeV 12 (h:=?_)
        try simp only[Act.put,List.setIfInBounds_toArray,List.set_cons_zero,List.set_cons_succ]
        refine takeV 13 (h:=?_);refine takeV 14 (h:=?_);refine takeV 15 (h:=?_)
        try simp only[Act.put,List.setIfInBounds_toArray,List.set_cons_zero,List.set_cons_succ]
        try simp only[Act.put,List.setIfInBounds_toArray,List.set_cons_zero,List.set_cons_succ]
        refine' wpAnyH_ready (rs:=[16]) (by kernel_rfl) (by simp) (AllReadyH.cons (o:=?oo81) ?ho81 (fun K hK=>?st81) AllReadyH.nil)
        case ho81=>(simp only[List.getElem?_toArray,List.getElem?_cons_succ,List.getElem?_cons_zero];rfl)
        go_simp
        (go_at_call 43;(with_reducible refine (HCk.out _ (HIa.out _ HWB.out)).mono ?_);rintro e wC ⟨rfl,hbC⟩;have HBC:=Lib.hid (bthen HBB.out hbC);have HWC:=Lib.hid (HB2.out.trans (HBC.out.mono hbs2));clear hbC)
        refine hK.out _ _ (HE.out _ HBC.out) (fun hHeld16=>?_);clear hK K
        try simp only[Act.put,List.setIfInBounds_toArray,List.set_cons_zero,List.set_cons_succ]
        refine takeV 17 (h:=?_);refine takeV 18 (h:=?_);refine takeV 19 (h:=?_)
        try simp only[Act.put,List.setIfInBounds_toArray,List.set_cons_zero,List.set_cons_succ]
        refine takeV 20 (h:=?_);refine takeV 21 (h:=?_);refine takeV 22 (h:=?_)
        try simp only[Act.put,List.setIfInBounds_toArray,List.set_cons_zero,List.set_cons_succ]
        refine takeV 23 (h:=?_);refine takeV 24 (h:=?_);refine takeV 25 (h:=?_)
        try simp only[Act.put,List.setIfInBounds_toArray,List.set_cons_zero,List.set_cons_succ]
        refine takeV 26 (h:=?_);refine takeV 27 (h:=?_);refine takeV 28 (h:=?_)
        try simp only[Act.put,List.setIfInBounds_toArray,List.set_cons_zero,List.set_cons_succ]
        refine takeV 29 (h:=?_);refine takeV 30 (h:=?_);refine takeV 31 (h:=?_)
        try simp only[Act.put,List.setIfInBounds_toArray,List.set_cons_zero,List.set_cons_succ]
        try simp only[Act.put,List.setIfInBounds_toArray,List.set_cons_zero,List.set_cons_succ]
        refine wpAnyH_done (by kernel_rfl) ?_ _
        go_wp2_with (at_builtin;refine wpList_append_text rfl (.tmp 54) (.tmp 56) rfl w.heap.size (.slice (some ⟨kb,0,none⟩) j sc) (KS.take j) rfl Y (ownS_below HO2.out HBC.out) rfl (by rw[HTl.out];omega) HWC.out.size ?_;intro v5 w5 hown5 hb5;have HO5:=Lib.hid hown5;have HB5:=Lib.hid (HWC.out.trans hb5);clear hown5 hb5)
        go_roundw
        case rel=>exact ⟨j+1,by omega,by go_num,by rw[HNew.out];exact HO5.out,HN1,HB5.out⟩
        case measure=>simp[intOf];omega
       | false=>
        have HF:Hid (R=false):=Lib.hid (HR.out.trans (by
         have:=HKs.out;subst this
         exact may_rise hjL HRise.out))
        have HE:=Lib.hid (fun (W:World) (hW:Below w2.heap.size w2 W)=>And.intro (HD0.out W (HB2.out.trans (hW.mono hbs2))) (And.intro (HD1.out W (HB2.out.trans (hW.mono hbs2))) (And.intro (HZ0.out W hW) hW)));have HW0d:Hid (Below w2.heap.size w2 w2.drew):=Lib.hid (Below.refl _ _).drew;have HW0:=Lib.hid (HB2.out.trans (HW0d.out.mono hbs2));refine wp_region_held_drew (S:=(fun w'=>w'.cell? ⟨b,off+j * 2,none⟩=some (.string X)∧w'.cell? ⟨b,off+j * 2+1,none⟩=some (.slice ua un uc)∧w'.cell? ⟨kb,m,none⟩=some (.string Z)∧Below w2.heap.size w2 w')) (by kernel_rfl) (HE.out _ HW0d.out) (fun hHeld=>?_);refine takeV 0 (h:=?_);refine takeV 1 (h:=?_);refine takeV 2 (h:=?_)
        try simp only[Act.put,List.setIfInBounds_toArray,List.set_cons_zero,List.set_cons_succ]
        refine takeV 3 (h:=?_);refine takeV 5 (h:=?_);refine takeV 6 (h:=?_)
        try simp only[Act.put,List.setIfInBounds_toArray,List.set_cons_zero,List.set_cons_succ]
        refine takeV 7 (h:=?_);refine takeV 8 (h:=?_)
        try simp only[Act.put,List.setIfInBounds_toArray,List.set_cons_zero,List.set_cons_succ]
        refine' wpAnyH_ready (rs:=[4]) (by kernel_rfl) (by simp) (AllReadyH.cons (o:=?oo105) ?ho105 (fun K hK=>?st105) AllReadyH.nil)
        case ho105=>(simp only[List.getElem?_toArray,List.getElem?_cons_succ,List.getElem?_cons_zero];rfl)
        go_simp
        (go_at_call 31;(with_reducible refine (HNr.out _ (HIa.out _ HW0.out)).mono ?_);rintro e wA ⟨vA,rfl,hA,hbA⟩;have HBA:=Lib.hid (HW0d.out.trans hbA);have HWA:=Lib.hid (HB2.out.trans (HBA.out.mono hbs2));have HIA:=Lib.hid hA;(obtain ⟨aa,an,ac,rfl⟩:=hA.sl);clear hA hbA;rw[HNm.out])
        refine hK.out _ _ (HE.out _ HBA.out) (fun hHeld4=>?_);clear hK K
        try simp only[Act.put,List.setIfInBounds_toArray,List.set_cons_zero,List.set_cons_succ]
        try simp only[Act.put,List.setIfInBounds_toArray,List.set_cons_zero,List.set_cons_succ]
        refine' wpAnyH_ready (rs:=[9]) (by kernel_rfl) (by simp) (AllReadyH.cons (o:=?oo106) ?ho106 (fun K hK=>?st106) AllReadyH.nil)
        case ho106=>(simp only[List.getElem?_toArray,List.getElem?_cons_succ,List.getElem?_cons_zero];rfl)
        go_simp
        (go_at_call 24;(with_reducible refine (HSm.out _ _ HIA.out (HIa.out _ HWA.out)).mono ?_);rintro e wB ⟨rfl,hbB⟩;have HBB:=Lib.hid (bthen HBA.out hbB);have HWB:=Lib.hid (HB2.out.trans (HBB.out.mono hbs2));clear hbB)
        refine hK.out _ _ (HE.out _ HBB.out) (fun hHeld9=>?_);clear hK K
        try simp only[Act.put,List.setIfInBounds_toArray,List.set_cons_zero,List.set_cons_succ]
        refine takeV 10 (h:=?_);refine takeV 11 (h:=?_);refine takeV 12 (h:=?_)
        try simp only[Act.put,List.setIfInBounds_toArray,List.set_cons_zero,List.set_cons_succ]
        refine takeV 13 (h:=?_);refine takeV 14 (h:=?_);refine takeV 15 (h:=?_)
        try simp only[Act.put,List.setIfInBounds_toArray,List.set_cons_zero,List.set_cons_succ]
        try simp only[Act.put,List.setIfInBounds_toArray,List.set_cons_zero,List.set_cons_succ]
        refine' wpAnyH_ready (rs:=[16]) (by kernel_rfl) (by simp) (AllReadyH.cons (o:=?oo113) ?ho113 (fun K hK=>?st113) AllReadyH.nil)
        case ho113=>(simp only[List.getElem?_toArray,List.getElem?_cons_succ,List.getElem?_cons_zero];rfl)
        go_simp
        (go_at_call 43;(with_reducible refine (HCk.out _ (HIa.out _ HWB.out)).mono ?_);rintro e wC ⟨rfl,hbC⟩;have HBC:=Lib.hid (bthen HBB.out hbC);have HWC:=Lib.hid (HB2.out.trans (HBC.out.mono hbs2));clear hbC)
        refine hK.out _ _ (HE.out _ HBC.out) (fun hHeld16=>?_);clear hK K
        try simp only[Act.put,List.setIfInBounds_toArray,List.set_cons_zero,List.set_cons_succ]
        refine takeV 17 (h:=?_);refine takeV 18 (h:=?_);refine takeV 19 (h:=?_)
        try simp only[Act.put,List.setIfInBounds_toArray,List.set_cons_zero,List.set_cons_succ]
        refine takeV 20 (h:=?_);refine takeV 21 (h:=?_);refine takeV 22 (h:=?_)
        try simp only[Act.put,List.setIfInBounds_toArray,List.set_cons_zero,List.set_cons_succ]
        refine takeV 23 (h:=?_);refine takeV 24 (h:=?_);refine takeV 25 (h:=?_)
        try simp only[Act.put,List.setIfInBounds_toArray,List.set_cons_zero,List.set_cons_succ]
        refine takeV 26 (h:=?_);refine takeV 27 (h:=?_);refine takeV 28 (h:=?_)
        try simp only[Act.put,List.setIfInBounds_toArray,List.set_cons_zero,List.set_cons_succ]
        refine takeV 29 (h:=?_);refine takeV 30 (h:=?_);refine takeV 31 (h:=?_)
        try simp only[Act.put,List.setIfInBounds_toArray,List.set_cons_zero,List.set_cons_succ]
        try simp only[Act.put,List.setIfInBounds_toArray,List.set_cons_zero,List.set_cons_succ]
        refine wpAnyH_done (by kernel_rfl) ?_ _;go_wp2;go_ret;exact ⟨by rw[HF.out];rfl,HWC.out⟩
     ·have q0:(cc != 0)=true:=by simpa using hc0
      have HF:Hid (R=false):=Lib.hid (HR.out.trans (may_bad hjL (HOk.out.trans (by simp[hc0]))));clear hc0;have HE:=Lib.hid (fun (W:World) (hW:Below w2.heap.size w2 W)=>And.intro (HD0.out W (HB2.out.trans (hW.mono hbs2))) (And.intro (HD1.out W (HB2.out.trans (hW.mono hbs2))) hW));have HW0d:Hid (Below w2.heap.size w2 w2.drew):=Lib.hid (Below.refl _ _).drew;have HW0:=Lib.hid (HB2.out.trans (HW0d.out.mono hbs2));refine wp_region_held_drew (S:=(fun w'=>w'.cell? ⟨b,off+j * 2,none⟩=some (.string X)∧w'.cell? ⟨b,off+j * 2+1,none⟩=some (.slice ua un uc)∧Below w2.heap.size w2 w')) (by kernel_rfl) (HE.out _ HW0d.out) (fun hHeld=>?_);refine takeV 0 (h:=?_);refine takeV 1 (h:=?_);refine takeV 2 (h:=?_)
      try simp only[Act.put,List.setIfInBounds_toArray,List.set_cons_zero,List.set_cons_succ]
      refine takeV 3 (h:=?_);refine takeV 5 (h:=?_);refine takeV 6 (h:=?_)
      try simp only[Act.put,List.setIfInBounds_toArray,List.set_cons_zero,List.set_cons_succ]
      refine takeV 7 (h:=?_);refine takeV 8 (h:=?_)
      try simp only[Act.put,List.setIfInBounds_toArray,List.set_cons_zero,List.set_cons_succ]
      refine' wpAnyH_ready (rs:=[4]) (by kernel_rfl) (by simp) (AllReadyH.cons (o:=?oo137) ?ho137 (fun K hK=>?st137) AllReadyH.nil)
      case ho137=>(simp only[List.getElem?_toArray,List.getElem?_cons_succ,List.getElem?_cons_zero];rfl)
      go_simp
      (go_at_call 31;(with_reducible refine (HNr.out _ (HIa.out _ HW0.out)).mono ?_);rintro e wA ⟨vA,rfl,hA,hbA⟩;have HBA:=Lib.hid (HW0d.out.trans hbA);have HWA:=Lib.hid (HB2.out.trans (HBA.out.mono hbs2));have HIA:=Lib.hid hA;(obtain ⟨aa,an,ac,rfl⟩:=hA.sl);clear hA hbA;rw[HNm.out])
      refine hK.out _ _ (HE.out _ HBA.out) (fun hHeld4=>?_);clear hK K
      try simp only[Act.put,List.setIfInBounds_toArray,List.set_cons_zero,List.set_cons_succ]
      try simp only[Act.put,List.setIfInBounds_toArray,List.set_cons_zero,List.set_cons_succ]
      refine' wpAnyH_ready (rs:=[9]) (by kernel_rfl) (by simp) (AllReadyH.cons (o:=?oo138) ?ho138 (fun K hK=>?st138) AllReadyH.nil)
      case ho138=>(simp only[List.getElem?_toArray,List.getElem?_cons_succ,List.getElem?_cons_zero];rfl)
      go_simp
      (go_at_call 24;(with_reducible refine (HSm.out _ _ HIA.out (HIa.out _ HWA.out)).mono ?_);rintro e wB ⟨rfl,hbB⟩;have HBB:=Lib.hid (bthen HBA.out hbB);have HWB:=Lib.hid (HB2.out.trans (HBB.out.mono hbs2));clear hbB)
      refine hK.out _ _ (HE.out _ HBB.out) (fun hHeld9=>?_);clear hK K
      try simp only[Act.put,List.setIfInBounds_toArray,List.set_cons_zero,List.set_cons_succ]
      refine takeV 10 (h:=?_);refine takeV 11 (h:=?_);refine takeV 12 (h:=?_)
      try simp only[Act.put,List.setIfInBounds_toArray,List.set_cons_zero,List.set_cons_succ]
      refine takeV 13 (h:=?_);refine takeV 14 (h:=?_);refine takeV 15 (h:=?_)
      try simp only[Act.put,List.setIfInBounds_toArray,List.set_cons_zero,List.set_cons_succ]
      try simp only[Act.put,List.setIfInBounds_toArray,List.set_cons_zero,List.set_cons_succ]
      refine' wpAnyH_ready (rs:=[16]) (by kernel_rfl) (by simp) (AllReadyH.cons (o:=?oo145) ?ho145 (fun K hK=>?st145) AllReadyH.nil)
      case ho145=>(simp only[List.getElem?_toArray,List.getElem?_cons_succ,List.getElem?_cons_zero];rfl)
      go_simp
      (go_at_call 43;(with_reducible refine (HCk.out _ (HIa.out _ HWB.out)).mono ?_);rintro e wC ⟨rfl,hbC⟩;have HBC:=Lib.hid (bthen HBB.out hbC);have HWC:=Lib.hid (HB2.out.trans (HBC.out.mono hbs2));clear hbC)
      refine hK.out _ _ (HE.out _ HBC.out) (fun hHeld16=>?_);clear hK K
      try simp only[Act.put,List.setIfInBounds_toArray,List.set_cons_zero,List.set_cons_succ]
      refine takeV 17 (h:=?_);refine takeV 18 (h:=?_);refine takeV 19 (h:=?_)
      try simp only[Act.put,List.setIfInBounds_toArray,List.set_cons_zero,List.set_cons_succ]
      refine takeS 20 (h:=?_);refine takeS 21 (h:=?_);refine takeS 22 (h:=?_)
      try simp only[Act.put,List.setIfInBounds_toArray,List.set_cons_zero,List.set_cons_succ]
      refine takeS 23 (h:=?_);refine takeS 24 (h:=?_);refine takeS 25 (h:=?_)
      try simp only[Act.put,List.setIfInBounds_toArray,List.set_cons_zero,List.set_cons_succ]
      refine takeS 26 (h:=?_);refine takeS 27 (h:=?_);refine takeS 28 (h:=?_)
      try simp only[Act.put,List.setIfInBounds_toArray,List.set_cons_zero,List.set_cons_succ]
      refine takeS 29 (h:=?_);refine takeS 30 (h:=?_);refine takeV 31 (h:=?_)
      try simp only[Act.put,List.setIfInBounds_toArray,List.set_cons_zero,List.set_cons_succ]
      try simp only[Act.put,List.setIfInBounds_toArray,List.set_cons_zero,List.set_cons_succ]
      refine wpAnyH_done (by kernel_rfl) ?_ _;go_wp2;go_ret;exact ⟨by rw[HF.out];rfl,HWC.out⟩
   ·obtain rfl:j=n:=by omega
    have t1:decide ((j:Int)<(j:Int))=false:=by simp
    have t1':decide (j<j)=false:=by simp
    have hKeys:KS.take j=KS:=List.take_of_length_le (by rw[HKn.out,← HN.out];exact Nat.le_refl _);have hit:=ownS_isT HOwn.out (by rw[HTl.out];unfold maxLen;omega);rw[hKeys] at hit;have HIt:=Lib.hid hit;have hKj:KS.length=j:=by rw[HKn.out,← HN.out]
    have hksz:∀ i (hi:i<KS.length),KS[i].length≤100000:=by
     have:=HKs.out;subst this;exact keysE_small HS.out.1
    have HKsz:=Lib.hid hksz;have hRs:R=standsK KS:=by
     have:=HKs.out;subst this;exact HR.out.trans (may_stands (by rw[← HN.out];omega) (fun i hi=>(HAll.out i hi (by rw[HN.out];exact hi)).1))
    have HRs:=Lib.hid hRs;have HKj:=Lib.hid hKj;obtain ⟨_,_,hsv2,_,hcell2⟩:=hit;rw[hKj] at hsv2;have HC2:=Lib.hid hcell2;obtain ⟨rfl,_,rfl⟩:=Value.slice.inj hsv2;clear hbel hKeys hksz hRs hcell2 hsv2 hKj;go_wp2
    go_loopw [6] (fun i wr2=>∃ k:Nat,k≤j∧i=.int .i64 k∧Hid (∀ i (hi:i<KS.length),i<k→upK KS i=true)∧wr=wr2) (fun i wr2=>j - (intOf i).toNat)
    case atStart=>exact ⟨0,by omega,rfl,Lib.hid (fun _ _ h=>absurd h (by omega)),rfl⟩
    case round=>
     obtain ⟨k,hk,rfl,HUps,rfl⟩:=hrel
     by_cases hlt2:k<j
     ·have u1:decide ((k:Int)<(j:Int))=true:=by simp;omega
      have u1':decide (k<j)=true:=by simpa using hlt2
      have qk:(k:Int)<(j:Int):=by omega
      have hkK:k<KS.length:=by rw[HKj.out];exact hlt2
      obtain ⟨b2,off2,hae,hb2,c2⟩:=HC2.out k hkK;subst hae;obtain ⟨X,hX⟩:∃ X:ByteArray,ofL KS[k]=X:=⟨_,rfl⟩;have hXl:X.data.toList=KS[k]:=by rw[← hX,ofL_list]
      have d0:wr.cell? ⟨b2,off2+k,none⟩=some (.string X):=by rw[c2,← hX];rfl
      have hXs:X.size≤100000:=by rw[← bytes_len,hXl];exact HKsz.out k hkK
      have hup:=fun w=>upRef_any X w (by omega)
      obtain ⟨U,hU⟩:∃ U,U=upB X:=⟨_,rfl⟩;rw[← hU] at hup;have hUl:U.data.toList=upD KS[k]:=by rw[hU,upK_list,hXl]
      have HUp:=Lib.hid hup;have HUl:=Lib.hid hUl;obtain ⟨g,hg⟩:∃ g,g=KS.contains U.data.toList:=⟨_,rfl⟩;have HAm:=Lib.hid (amongRef_any KS _ U wr HIt.out);rw[← hg] at HAm;have HG:=Lib.hid hg;clear hX hXl c2 hup hU hUl hg;have huk:upK KS k=(U.data.toList.isEmpty || g):=by
       unfold upK;rw[getD_in _ _ hkK,← HUl.out,HG.out]
      have HUk:=Lib.hid huk;clear huk
      have nxt:∀ (he:upK KS k=true),Hid (∀ i (hi:i<KS.length),i<k+1→upK KS i=true):=fun he=>Lib.hid (fun i h1 h3=>by
       by_cases hik:i<k
       ·exact HUps.out i h1 hik
       ·obtain rfl:i=k:=by omega
        exact he)
      have HNxt:=Lib.hid nxt;clear nxt
      by_cases hue:U.data.toList=[]
      ·obtain ⟨e1,e2⟩:=bytes_nil hue;have e3:(U.toList == [])=true:=by rw[e1];rfl
       have HN1:=HNxt.out (HUk.out.trans (by rw[hue];rfl));clear hue
       go_wp2_with (go_at_call 25;refine (HUp.out _).mono ?_;rintro e w4 ⟨rfl,rfl⟩)
       go_roundw
       case rel=>exact ⟨k+1,by omega,by go_num,HN1,by first | rfl | trivial⟩
       case measure=>simp[intOf];omega
      ·obtain ⟨e1,e2⟩:=bytes_some hue;have e3:(U.toList == [])=false:=by simpa using e1
       cases g with
       | true=>
        have HN1:=HNxt.out (HUk.out.trans (by simp));clear hue
        go_wp2_with (first
         | (go_at_call 25;refine (HUp.out _).mono ?_;rintro e w4 ⟨rfl,rfl⟩)
         | (go_at_call 44;refine (HAm.out).mono ?_;rintro e w5 ⟨rfl,rfl⟩))
        go_roundw
        case rel=>exact ⟨k+1,by omega,by go_num,HN1,by first | rfl | trivial⟩
        case measure=>simp[intOf];omega
       | false=>
        have HF:Hid (R=false):=Lib.hid (HRs.out.trans (stands_no hkK (.inr (HUk.out.trans (by
         cases h:U.data.toList with
         | nil=>exact absurd h hue
         | cons _ _=>rfl)))))
        clear hue
        go_wp2_with (first
         | (go_at_call 25;refine (HUp.out _).mono ?_;rintro e w4 ⟨rfl,rfl⟩)
         | (go_at_call 44;refine (HAm.out).mono ?_;rintro e w5 ⟨rfl,rfl⟩))
        go_ret;exact ⟨by rw[HF.out];rfl,HBel.out⟩
     ·obtain rfl:k=j:=by omega
      have u1:decide ((k:Int)<(k:Int))=false:=by simp
      have u1':decide (k<k)=false:=by simp
      have HF:Hid (R=true):=Lib.hid (HRs.out.trans (stands_yes (fun i hi=>⟨(HAll.out i (by rw[← HKn.out];exact hi) (by rw[← HKj.out];exact hi)).2,HUps.out i hi (by rw[← HKj.out];exact hi)⟩)));go_wp2;go_ret;exact ⟨by rw[HF.out];rfl,HBel.out⟩
end Go.Proofs.YtgaaefcanfglhaaGreatDoor
namespace Go.Proofs.YtgaaefcanfglhaaGreatDoor
open Go.RowKit
set_option linter.unusedVariables false
set_option linter.unusedSimpArgs false
theorem beq_self_M {α:Type} [BEq α] [LawfulBEq α] (L:List α):(L == L)=true:=by simp
set_option maxRecDepth 100000 in
set_option maxHeartbeats 8000000 in
theorem treeMade_any (ns:List UInt8) (b0:Option Addr) (c0:Nat) (i x:Nat) (hi:i<256) (hx:x<256) (w:World) (hw:LaidW w) (hlf:LaidF w) (h:IsB w.heap.size w ns b0 c0) :
  Calls Tryz.prog 3 #[.slice b0 ns.length c0,.int .u8 i,.int .u8 x] w fun e w'=>e=.returned (.bool true)∧Below w.heap.size w w':=by
 obtain ⟨A,B,hd⟩:=puts_dat ns i x;obtain ⟨n,hn⟩:∃ n,n=ns.length:=⟨_,rfl⟩;have HMk:=Lib.hid (tree8_any ns b0 c0 w h);rw[← hn] at HMk ⊢;obtain ⟨L,hL⟩:∃ L,L=mkT (ns.take 40):=⟨_,rfl⟩;rw[← hL] at HMk hd;obtain ⟨E,hE⟩:∃ E,E=entE i x:=⟨_,rfl⟩;obtain ⟨k,hk⟩:∃ k,k=kE E:=⟨_,rfl⟩;have hkne:k≠[]:=by rw[hk,hE];exact ent_keyne i x
 have hcut:CutE L A B (kE E):=by rw[hE];exact hd.cut
 obtain ⟨M,hM⟩:∃ M,M=A++E :: B:=⟨_,rfl⟩;obtain ⟨DL,hDL⟩:∃ M,M=A++B:=⟨_,rfl⟩;have hAB:=hd.lenAB;have hlM:M.length=A.length+B.length+1:=by rw[hM];simp;omega
 have hlD:DL.length=A.length+B.length:=by rw[hDL];simp
 have fL:=ents_fine hd.ents (by have:=hd.len;omega);have eM:Ents M:=by rw[hM,hE];exact hd.entsM hi hx
 have fM:=ents_fine eM (by omega);have fD:=ents_fine (L:=DL) (by rw[hDL];exact hd.entsAB) (by omega);have eL:=hd.ents;have lL:=hd.len;obtain ⟨F,hF⟩:∃ F,F=findK (keysE L) k:=⟨_,rfl⟩;have hp1:putE L E=M:=by rw[hM];exact hcut.putE (by rw[← hk];exact hkne)
 have hdl:delE L k=DL:=by rw[hk,hcut.delE (by rw[← hk];exact hkne),hDL]
 have hmay:mayE L=true:=by rw[ents_may eL (by omega)];exact hd.stands
 have hq1:putD L E=M:=by rw[hM];exact hcut.putD
 have hdl2:delD L k=DL:=by rw[← del_eq hmay,hdl]
 have hfi:idxK (keysE L) k=F:=by rw[hF];unfold findK;rw[if_neg hkne]
 obtain ⟨KD,hKD⟩:∃ KD,KD=kidsT (keysE L) k:=⟨_,rfl⟩;have hkd2:kidsP (keysE L) k=KD:=by rw[hKD];exact kids_eq (may_keys hmay) k
 have hKDl:KD.length≤1000:=by
  rw[hKD];have h2:(kidsT (keysE L) k).length≤(keysE L).length:=List.length_filter_le _ _;rw[keysE_len] at h2;omega
 obtain ⟨mM,hmM⟩:∃ b,b=mayE M:=⟨_,rfl⟩;obtain ⟨mD,hmD⟩:∃ b,b=mayE DL:=⟨_,rfl⟩;obtain ⟨lm,hlm⟩:∃ n,n=M.length:=⟨_,rfl⟩;obtain ⟨ld,hld⟩:∃ n,n=DL.length:=⟨_,rfl⟩;obtain ⟨ll,hll⟩:∃ n,n=L.length:=⟨_,rfl⟩;have hEq:∀ D:ByteArray,D.data.toList=(entE i x).1→D.size≤100000:=fun D hD=>by rw[← bytes_len,hD];exact (ent_small i x hi hx).1
 have HEn:=Lib.hid (fun (W:World)=>entry8_any i x hi hx W);have HKy:=Lib.hid (fun (D:ByteArray) (hD:D.data.toList=(entE i x).1) (ua:Option Addr) (un uc:Nat) (W:World)=>treeKey_any D (hEq D hD) ua un uc W);have HKz:=Lib.hid (fun (D:ByteArray) (hD:D.data.toList=(entE i x).1) (ua:Option Addr) (un uc:Nat) (W:World)=>keyR_any D (hEq D hD) ua un uc W);have hKl:∀ D:ByteArray,D.data.toList=(entE i x).1→(keyB (keyD D.data.toList)).data.toList=k:=fun D hD=>by rw[keyB_list,hD,hk,hE];rfl
 have hKs:∀ D:ByteArray,D.data.toList=(entE i x).1→(keyB (keyD D.data.toList)).size≤100000:=fun D hD=>by
  have:=keyB_size D.data.toList;rw[bytes_len] at this;have:=hEq D hD;omega
 have HKl:=Lib.hid hKl;have HKs:=Lib.hid hKs;have HP1:=Lib.hid (fun (v:Value) (hc:capV v) (D:ByteArray) (hD:D.data.toList=(entE i x).1) (u:Value) (W:World) (h:IsE W.heap.size W L v) (hu:IsA W.heap.size W (entE i x).2 u)=>show Calls Tryz.prog 18 #[v,.agg #[.string D,u]] W (fun e w'=>∃ v',e=.returned v'∧IsE w'.heap.size w' M v'∧capV v'∧Below W.heap.size W w') from by have:=putTree_any eL (by omega) hi hx v hc D hD u W h hu;rw[← hE,hp1] at this;exact this)
 have HP2:=Lib.hid (fun (v:Value) (hc:capV v) (D:ByteArray) (hD:D.data.toList=(entE i x).1) (u:Value) (W:World) (h:IsE W.heap.size W L v) (hu:IsA W.heap.size W (entE i x).2 u)=>show Calls Tryz.prog 19 #[v,.agg #[.string D,u]] W (fun e w'=>∃ v',e=.returned v'∧IsE w'.heap.size w' M v'∧capV v'∧Below W.heap.size W w') from by
  have he:(D.data.toList,(entE i x).2)=entE i x:=by rw[hD]
  have:=putR7_any L fL.1 v hc D (hEq D hD) (entE i x).2 u W h hu
  rw[he,← hE,hq1] at this;exact this)
 have HF1:=Lib.hid (fun (v:Value) (K:ByteArray) (hl:K.data.toList=k) (hs:K.size≤100000) (W:World) (h:IsE W.heap.size W L v)=>show Calls Tryz.prog 12 #[v,.string K] W (fun e w'=>e=.returned (.int .i64 F)∧Below W.heap.size W w') from by have:=treeFind_any L fL.1 v K hs W h;rw[hl,← hF] at this;exact this);have HF2:=Lib.hid (fun (v:Value) (K:ByteArray) (hl:K.data.toList=k) (W:World) (h:IsE W.heap.size W L v)=>show Calls Tryz.prog 13 #[v,.string K] W (fun e w'=>e=.returned (.int .i64 F)∧Below W.heap.size W w') from by have:=findR7_any L fL.1 v K W h;rw[hl,hfi] at this;exact this);have HK1:=Lib.hid (fun (v:Value) (K:ByteArray) (hl:K.data.toList=k) (W:World) (h:IsE W.heap.size W L v)=>show Calls Tryz.prog 15 #[v,.string K] W (fun e w'=>∃ v,e=.returned v∧OwnS W.heap.size w' v KD∧Below W.heap.size W w') from by have:=treeKids_any L fL.1 v K W h;rw[hl,hkd2] at this;exact this);have HK2:=Lib.hid (fun (v:Value) (K:ByteArray) (hl:K.data.toList=k) (W:World) (h:IsE W.heap.size W L v)=>show Calls Tryz.prog 16 #[v,.string K] W (fun e w'=>∃ v,e=.returned v∧OwnS W.heap.size w' v KD∧Below W.heap.size W w') from by have:=kidsR7_any L fL.1 v K W h;rw[hl,← hKD] at this;exact this);have HD1:=Lib.hid (fun (v:Value) (hc:capV v) (K:ByteArray) (hl:K.data.toList=k) (hs:K.size≤100000) (W:World) (h:IsE W.heap.size W L v)=>show Calls Tryz.prog 20 #[v,.string K] W (fun e w'=>∃ v',e=.returned v'∧IsE w'.heap.size w' DL v'∧capV v'∧Below W.heap.size W w') from by have:=treeDel_any L fL.1 v (capV_w hc) K hs W h;rw[hl,hdl] at this;exact this);have HD2:=Lib.hid (fun (v:Value) (K:ByteArray) (hl:K.data.toList=k) (W:World) (h:IsE W.heap.size W L v)=>show Calls Tryz.prog 21 #[v,.string K] W (fun e w'=>∃ v',e=.returned v'∧IsE w'.heap.size w' DL v'∧capV v'∧Below W.heap.size W w') from by have:=delR7_any L fL.1 v K W h;rw[hl,hdl2] at this;exact this);have HLd:=Lib.hid (fun (W:World) (h:Below w.heap.size w W)=>And.intro (hw.below h) (hlf.below h));have HAw:=Lib.hid (fun (W:World) (h:Below w.heap.size w W)=>awake8_any W (hw.below h) (hlf.below h));have HM0:=Lib.hid (fun (v:Value) (W:World) (hb:Below w.heap.size w W) (h:IsE W.heap.size W L v)=>show Calls Tryz.prog 10 #[v] W (fun e w'=>e=.returned (.bool true)∧Below W.heap.size W w') from by have:=treeMay_any L fL v W (hw.below hb) (hlf.below hb) h;rw[hmay] at this;exact this);have HM1:=Lib.hid (fun (v:Value) (W:World) (hb:Below w.heap.size w W) (h:IsE W.heap.size W M v)=>show Calls Tryz.prog 10 #[v] W (fun e w'=>e=.returned (.bool mM)∧Below W.heap.size W w') from by have:=treeMay_any M fM v W (hw.below hb) (hlf.below hb) h;rw[← hmM] at this;exact this);have HM2:=Lib.hid (fun (v:Value) (W:World) (h:IsE W.heap.size W M v)=>show Calls Tryz.prog 22 #[v] W (fun e w'=>e=.returned (.bool mM)∧Below W.heap.size W w') from by have:=mayR7_any M fM v W h;rw[← hmM] at this;exact this);have HM3:=Lib.hid (fun (v:Value) (W:World) (hb:Below w.heap.size w W) (h:IsE W.heap.size W DL v)=>show Calls Tryz.prog 10 #[v] W (fun e w'=>e=.returned (.bool mD)∧Below W.heap.size W w') from by have:=treeMay_any DL fD v W (hw.below hb) (hlf.below hb) h;rw[← hmD] at this;exact this);have HM4:=Lib.hid (fun (v:Value) (W:World) (h:IsE W.heap.size W DL v)=>show Calls Tryz.prog 22 #[v] W (fun e w'=>e=.returned (.bool mD)∧Below W.heap.size W w') from by have:=mayR7_any DL fD v W h;rw[← hmD] at this;exact this);have HS1:=Lib.hid (fun (v u:Value) (W:World) (hv:IsE W.heap.size W M v) (hu:IsE W.heap.size W M u)=>show Calls Tryz.prog 17 #[v,u] W (fun e w'=>e=.returned (.bool true)∧Below W.heap.size W w') from by have:=sameR7_any M M fM.1 v u W hv hu;rw[show (M == M)=true from by simp] at this;exact this);have HS2:=Lib.hid (fun (v u:Value) (W:World) (hv:IsE W.heap.size W DL v) (hu:IsE W.heap.size W DL u)=>show Calls Tryz.prog 17 #[v,u] W (fun e w'=>e=.returned (.bool true)∧Below W.heap.size W w') from by have:=sameR7_any DL DL fD.1 v u W hv hu;rw[show (DL == DL)=true from by simp] at this;exact this);have HSlL:=Lib.hid (fun (W:World) (v:Value) (h:IsE W.heap.size W L v)=>show ∃ a c,v=.slice a ll c from by rw[hll];exact IsE.sl h);have HSlD:=Lib.hid (fun (W:World) (v:Value) (h:IsE W.heap.size W DL v)=>show ∃ a c,v=.slice a ld c from by rw[hld];exact IsE.sl h);have HSlM:=Lib.hid (fun (W:World) (v:Value) (h:IsE W.heap.size W M v)=>show ∃ a c,v=.slice a lm c from by rw[hlm];exact IsE.sl h);have HKm:Hid (KD.length≤maxLen):=Lib.hid (by unfold maxLen;omega);have HKq:Hid (KD.length≤1000000):=Lib.hid (by omega);have hw8:IntKind.i64.wrap (i:Int)=(i:Int):=IntWalk.i64_in _ (by omega);have qF:(F == F)=true:=by simp
 have qM:(mM == mM)=true:=by simp
 have qD:(mD == mD)=true:=by simp
 clear h hw hlf hd hcut hM hDL hAB hlM hlD fL fM fD eL eM lL hp1 hq1 hdl hdl2 hfi hkd2 hKDl hmM hmD hmay hlm hld hll hEq hKl hKs hF hn hL hk hkne hKD HLd;have tok1:Hid ((0:Nat)=0):=Lib.hid rfl;have tok2:Hid ((0:Nat)=0):=Lib.hid rfl;have tok3:Hid ((0:Nat)=0):=Lib.hid rfl;have tok4:Hid ((0:Nat)=0):=Lib.hid rfl;have tok5:Hid ((0:Nat)=0):=Lib.hid rfl;have tok6:Hid ((0:Nat)=0):=Lib.hid rfl;have tok7:Hid ((0:Nat)=0):=Lib.hid rfl;have tok8:Hid ((0:Nat)=0):=Lib.hid rfl;go_enter Tryz.func3,Tryz.ntmps3
 go_upto_region 3 with (first
  | (go_at_call 7;refine (HMk.out).mono ?_;rintro e w1 ⟨v1,rfl,hi1,hc1,hb1⟩;(obtain ⟨la,lc,hle⟩:=HSlL.out w1 v1 hi1);subst hle;have HT1:=Lib.hid hi1;have HC1:=Lib.hid hc1;have HB1:=Lib.hid hb1;clear hi1 hc1 hb1)
  | (go_at_call 8;refine (HEn.out _).mono ?_;rintro e w2 ⟨D,u,rfl,hD,hu,hb2⟩;(obtain ⟨ua,un,uc,hue⟩:=IsA.sl hu);subst hue;have HT2:=Lib.hid (HT1.out.below hb2 hb2.size);have HB2:=Lib.hid (bthen HB1.out hb2);have HD:=Lib.hid hD;have HU2:=Lib.hid hu;clear hD hu hb2))
 obtain ⟨W3,hW3⟩:∃ W,W=w2.alloc (.cells #[.string D,.slice ua un uc] 27):=⟨_,rfl⟩;rw[← hW3];obtain ⟨p,hp⟩:∃ p,p=w2.heap.size:=⟨_,rfl⟩;have hb3:Below w2.heap.size w2 W3:=by rw[hW3];exact (Below.refl _ _).alloc (Nat.le_refl _) _
 have H3:Hid (TpAt w W3 p D (.slice ua un uc) (entE i x).2 L (.slice la ll lc)):=Lib.hid ⟨by rw[hp,hW3];exact boxN_new w2 D _,HU2.out.below hb3 hb3.size,HT2.out.below hb3 hb3.size,bthen HB2.out hb3⟩;rw[← hp];have b0:=H3.out.box.cells.1;have b1:=H3.out.box.cells.2;obtain ⟨K,hK⟩:∃ K,K=keyB (keyD D.data.toList):=⟨_,rfl⟩;have HKy2:=Lib.hid (fun W=>HKy.out D HD.out ua un uc W);have HKz2:=Lib.hid (fun W=>HKz.out D HD.out ua un uc W);have HKL:=Lib.hid (HKl.out D HD.out);have HKS:=Lib.hid (HKs.out D HD.out);rw[← hK] at HKy2 HKz2 HKL HKS;have qK:(K.toList == K.toList)=true:=by simp
 clear hW3 hb3 hp hK HKy HKz HKl HKs HMk HEn HB1 HB2 HT1 HT2 HU2
 go_upto_region 4 with (go_at_call 9;refine (HKy2.out _).mono ?_;rintro e y4 ⟨rfl,hb4⟩;have H4:=Lib.hid (H3.out.go hb4);have b0:=H4.out.box.cells.1;have b1:=H4.out.box.cells.2;clear hb4)
 rename World=>y4;have hpl:=(Array.getElem?_eq_some_iff.1 H4.out.box).1;have HE:Hid (∀ W,Below y4.heap.size y4 W→(fun w'=>w'.cell? ⟨p,0,none⟩=some (.string D)∧w'.cell? ⟨p,1,none⟩=some (.slice ua un uc)∧Below y4.heap.size y4 w') W):=Lib.hid (fun W hW=>⟨(hW.cell (p:=⟨p,0,none⟩) hpl).trans b0,(hW.cell (p:=⟨p,1,none⟩) hpl).trans b1,hW⟩);have hst:=HE.out _ (Below.refl y4.heap.size y4);have HTp:=Lib.hid (fun (W:World) (hW:Below y4.heap.size y4 W)=>H4.out.go hW);clear hpl b0 b1 H3 H4;simp only[List.append_eq,List.cons_append,List.nil_append]
 go_region_held3 (fun w'=>w'.cell? ⟨p,0,none⟩=some (.string D)∧w'.cell? ⟨p,1,none⟩=some (.slice ua un uc)∧Below y4.heap.size y4 w')
  (first | exact hst | (go_split_ands;exact HE.out _ (bthen (by assumption) hb5)) | (go_split_ands;exact HE.out _ (bthen (by assumption) hb6)) | (go_split_ands;exact HE.out _ (bthen (by assumption) hb7)) | (go_split_ands;exact HE.out _ (bthen (by assumption) hb8)) | (go_split_ands;exact HE.out _ (bthen (by assumption) hb9)) | (go_split_ands;exact HE.out _ (bthen (by assumption) hb10)) | (go_split_ands;exact HE.out _ (bthen (by assumption) hb11)) | (go_split_ands;exact HE.out _ (bthen (by assumption) hb12)) | (go_split_ands;exact HE.out _ (bthen (by assumption) hb13)) | (go_split_ands;exact HE.out _ (bthen (by assumption) hb14)) | (go_split_ands;exact HE.out _ (bthen (by assumption) hb15)) | (go_split_ands;exact HE.out _ (bthen (by assumption) hb16)) | (go_split_ands;exact HE.out _ (bthen (by assumption) hb17)) | (go_split_ands;exact HE.out _ (bthen (by assumption) hb18)) | (go_split_ands;exact HE.out _ (bthen (by assumption) hb19)) | (go_split_ands;exact HE.out _ (bthen (by assumption) hb20)) | (go_split_ands;exact HE.out _ (bthen (by assumption) hb21)) | (go_split_ands;exact HE.out _ (bthen (by assumption) hb22)) | (go_split_ands;exact HE.out _ (bthen (by assumption) hb23)) | (go_split_ands;exact HE.out _ (bthen (by assumption) hb24)) | (go_split_ands;exact HE.out _ (bthen (by assumption) hb25)) | (go_split_ands;exact HE.out _ (bthen (by assumption) hb26)) | (go_split_ands;exact HE.out _ (bthen (by assumption) (Below.refl _ _).drew)))
  (first
   | (go_at_call 10;go_split_ands;(have _t:=tok1);clear tok1;(with_reducible refine (HM0.out _ _ (HTp.out _ (by assumption)).bel (HTp.out _ (by assumption)).tree).mono ?_);rintro e y5 ⟨rfl,hb5⟩)
   | (go_at_call 11;go_split_ands;(with_reducible refine (HKz2.out _).mono ?_);rintro e y6 ⟨rfl,hb6⟩)
   | (go_at_call 12;go_split_ands;(with_reducible refine (HF1.out _ K HKL.out HKS.out _ (HTp.out _ (by assumption)).tree).mono ?_);rintro e y7 ⟨rfl,hb7⟩)
   | (go_at_call 13;go_split_ands;(with_reducible refine (HF2.out _ K HKL.out _ (HTp.out _ (by assumption)).tree).mono ?_);rintro e y8 ⟨rfl,hb8⟩)
   | (go_at_call 15;go_split_ands;(with_reducible refine (HK1.out _ K HKL.out _ (HTp.out _ (by assumption)).tree).mono ?_);rintro e y9 ⟨k9,rfl,hk9,hb9⟩;have KA_9:=Lib.hid (ownS_isT hk9 HKm.out);(obtain ⟨ka,kc,hke⟩:=ownS_slice hk9);clear hk9;subst hke)
   | (go_at_call 16;go_split_ands;(with_reducible refine (HK2.out _ K HKL.out _ (HTp.out _ (by assumption)).tree).mono ?_);rintro e y10 ⟨k10,rfl,hk10,hb10⟩;have KB_10:=Lib.hid (ownS_isT hk10 HKm.out);(obtain ⟨kb,kd,hke⟩:=ownS_slice hk10);clear hk10;subst hke;have KA_10:=Lib.hid (KA_9.out.below hb10 hb10.size))
   | (go_at_call 14;go_split_ands;(with_reducible refine (textsRef_q KD KD HKq.out _ _ _ KA_10.out KB_10.out).mono ?_);rintro e y11 ⟨he,m5,hx5⟩;rw[beq_self_M] at he;subst he;have hb11:=below_drewN (Below.refl y10.heap.size y10) m5;rw[← hx5] at hb11;clear hx5)
   | (go_at_call 18;go_split_ands;(have _t:=tok2);clear tok2;(with_reducible refine (HP1.out _ HC1.out D HD.out _ _ (HTp.out _ (by assumption)).tree (HTp.out _ (by assumption)).ent).mono ?_);rintro e y12 ⟨v12,rfl,hi12,hc12,hb12⟩;(obtain ⟨a12,c12,hve⟩:=HSlM.out y12 v12 hi12);subst hve;have M_12:=Lib.hid hi12;clear hi12 hc12)
   | (go_at_call 19;go_split_ands;(have _t:=tok3);clear tok3;(with_reducible refine (HP2.out _ HC1.out D HD.out _ _ (HTp.out _ (by assumption)).tree (HTp.out _ (by assumption)).ent).mono ?_);rintro e y13 ⟨v13,rfl,hi13,hc13,hb13⟩;(obtain ⟨a13,c13,hve⟩:=HSlM.out y13 v13 hi13);subst hve;have N_13:=Lib.hid hi13;clear hi13 hc13;have M_13:=Lib.hid (M_12.out.below hb13 hb13.size))
   | (go_at_call 17;go_split_ands;(have _t:=tok4);clear tok4;(with_reducible refine (HS1.out _ _ _ M_13.out N_13.out).mono ?_);rintro e y14 ⟨rfl,hb14⟩)
   | (go_at_call 20;go_split_ands;(have _t:=tok5);clear tok5;(with_reducible refine (HD1.out _ HC1.out K HKL.out HKS.out _ (HTp.out _ (by assumption)).tree).mono ?_);rintro e y15 ⟨v15,rfl,hi15,hc15,hb15⟩;(obtain ⟨a15,c15,hve⟩:=HSlD.out y15 v15 hi15);subst hve;have R_15:=Lib.hid hi15;clear hi15 hc15)
   | (go_at_call 21;go_split_ands;(have _t:=tok6);clear tok6;(with_reducible refine (HD2.out _ K HKL.out _ (HTp.out _ (by assumption)).tree).mono ?_);rintro e y16 ⟨v16,rfl,hi16,hc16,hb16⟩;(obtain ⟨a16,c16,hve⟩:=HSlD.out y16 v16 hi16);subst hve;have S_16:=Lib.hid hi16;clear hi16 hc16;have R_16:=Lib.hid (R_15.out.below hb16 hb16.size))
   | (go_at_call 17;go_split_ands;(with_reducible refine (HS2.out _ _ _ R_16.out S_16.out).mono ?_);rintro e y17 ⟨rfl,hb17⟩)
   | (go_at_call 18;go_split_ands;(with_reducible refine (HP1.out _ HC1.out D HD.out _ _ (HTp.out _ (by assumption)).tree (HTp.out _ (by assumption)).ent).mono ?_);rintro e y18 ⟨v18,rfl,hi18,hc18,hb18⟩;(obtain ⟨a18,c18,hve⟩:=HSlM.out y18 v18 hi18);subst hve;have M_18:=Lib.hid hi18;clear hi18 hc18)
   | (go_at_call 10;go_split_ands;(have _t:=tok7);clear tok7;(with_reducible refine (HM1.out _ _ (HTp.out _ (by assumption)).bel M_18.out).mono ?_);rintro e y19 ⟨rfl,hb19⟩)
   | (go_at_call 19;go_split_ands;(with_reducible refine (HP2.out _ HC1.out D HD.out _ _ (HTp.out _ (by assumption)).tree (HTp.out _ (by assumption)).ent).mono ?_);rintro e y20 ⟨v20,rfl,hi20,hc20,hb20⟩;(obtain ⟨a20,c20,hve⟩:=HSlM.out y20 v20 hi20);subst hve;have N_20:=Lib.hid hi20;clear hi20 hc20)
   | (go_at_call 22;go_split_ands;(have _t:=tok8);clear tok8;(with_reducible refine (HM2.out _ _ N_20.out).mono ?_);rintro e y21 ⟨rfl,hb21⟩)
   | (go_at_call 20;go_split_ands;(with_reducible refine (HD1.out _ HC1.out K HKL.out HKS.out _ (HTp.out _ (by assumption)).tree).mono ?_);rintro e y22 ⟨v22,rfl,hi22,hc22,hb22⟩;(obtain ⟨a22,c22,hve⟩:=HSlD.out y22 v22 hi22);subst hve;have R_22:=Lib.hid hi22;clear hi22 hc22)
   | (go_at_call 10;go_split_ands;(with_reducible refine (HM3.out _ _ (HTp.out _ (by assumption)).bel R_22.out).mono ?_);rintro e y23 ⟨rfl,hb23⟩)
   | (go_at_call 21;go_split_ands;(with_reducible refine (HD2.out _ K HKL.out _ (HTp.out _ (by assumption)).tree).mono ?_);rintro e y24 ⟨v24,rfl,hi24,hc24,hb24⟩;(obtain ⟨a24,c24,hve⟩:=HSlD.out y24 v24 hi24);subst hve;have S_24:=Lib.hid hi24;clear hi24 hc24)
   | (go_at_call 22;go_split_ands;(with_reducible refine (HM4.out _ _ S_24.out).mono ?_);rintro e y25 ⟨rfl,hb25⟩)
   | (go_at_call 23;go_split_ands;(with_reducible refine (HAw.out _ (HTp.out _ (by assumption)).bel).mono ?_);rintro e y26 ⟨rfl,hb26⟩))
 go_split_ands
 have hfK:Below y4.heap.size y4 y26:=by assumption
 have HFK:=Lib.hid (HTp.out _ hfK).bel;clear hfK;go_wp2;go_ret;exact ⟨rfl,HFK.out⟩
end Go.Proofs.YtgaaefcanfglhaaGreatDoor
