/- Several texts in one file: TrDoc4, TrAwkP, Arg. -/
import Derived.Test.YtlimajgmdhhggaaGreatDoorTraP12
import Derived.Test.YtlimajgmdhhggaaGreatDoorTraP13
import Derived.Test.YtlimajgmdhhggaaGreatDoorTraP15
import Derived.Test.YtlimajgmdhhggaaGreatDoorTraP19
import Derived.Test.YtlimajgmdhhggaaGreatDoorDnTextW
import Derived.OpenShut
import Derived.Carry
import Derived.ChangeSlices
import Derived.Deep.Strs
import Derived.Deep.SlicePairs
namespace Go.Proofs.YtlimajgmdhhggaaGreatDoor
open Go.RowKit
set_option linter.unusedVariables false
set_option linter.unusedSimpArgs false
theorem gtB_less (x y:List UInt8):gtB x y = Op.bytesLess y x:=(less_gtB x y).symm
theorem may_rise {L:List ET} {j:Nat} (hj:j < L.length) (h:riseK (keysE L) j = false):mayE L = false:=may_no (stands_no (by rw [keysE_len];exact hj) (.inl h))
set_option maxRecDepth 100000 in
set_option maxHeartbeats 8000000 in
theorem mayR7_any (L:List ET) (hs:fineE L) (v:Value) (w:World) (h:IsE w.heap.size w L v) :
  Calls Tryz.prog 25 #[v] w fun e w'=>e = .returned (.bool (mayE L)) ∧ Below w.heap.size w w':=by
 obtain ⟨R,hR⟩:∃ R,R = mayE L:=⟨_,rfl⟩
 rw [← hR]
 have HR:=Lib.hid hR
 have hL:=hs.1.1
 obtain ⟨a,c,rfl,hm,hcell⟩:=id h
 obtain ⟨n,hn⟩:∃ n,n = L.length:=⟨_,rfl⟩
 rw [← hn] at hL hm ⊢
 unfold maxLen at hm
 have HN:=Lib.hid hn
 have HC:=Lib.hid hcell
 have HS:=Lib.hid hs
 obtain ⟨KS,hKS⟩:∃ KS,KS = keysE L:=⟨_,rfl⟩
 have hKn:KS.length = L.length:=by rw [hKS,keysE_len]
 have HKs:=Lib.hid hKS
 have HKn:=Lib.hid hKn
 clear hcell hs hn hR hKS hKn h
 by_cases hmany:200 < n
 ·have t0:decide ((200:Int) < (n:Int)) = true:=by simp;omega
  have HF:Hid (R = false):=Lib.hid (HR.out.trans (may_many (by rw [← HN.out];exact hmany)))
  go_enter Tryz.func25,Tryz.ntmps25
  go_wp2
  go_ret
  exact ⟨by rw [HF.out];rfl,Below.refl _ _⟩
 ·have t0:decide ((200:Int) < (n:Int)) = false:=by simp;omega
  go_enter Tryz.func25,Tryz.ntmps25
  go_wp2
  go_loopw [3,4] (fun l i wr=>∃ j:Nat,j ≤ n ∧ i = .int .i64 j ∧ OwnS w.heap.size wr l (KS.take j) ∧ Hid (∀ i (hi:i < L.length),i < j → okE L[i] = true ∧ riseK KS i = true) ∧ Below w.heap.size w wr) (fun _ i wr=>n - (intOf i).toNat)
  case atStart=>exact ⟨0,by omega,rfl,ownS_nil _ _,Lib.hid (fun _ _ h=>absurd h (by omega)),Below.refl _ _⟩
  case round=>
   obtain ⟨j,hj,rfl,hown,HAll,hbel⟩:=hrel
   have HBel:=Lib.hid hbel
   have hbs:=hbel.size
   obtain ⟨sa,sc,hsv⟩:=ownS_slice hown
   have htl:(KS.take j).length = j:=by have h1:=HKn.out;have h2:=HN.out;rw [List.length_take];omega
   rw [htl] at hsv
   subst hsv
   have HTl:=Lib.hid htl
   have HOwn:=Lib.hid hown
   clear hown htl
   by_cases hlt:j < n
   ·have t1:decide ((j:Int) < (n:Int)) = true:=by simp;omega
    have t1':decide (j < n) = true:=by simpa using hlt
    have qj:(j:Int) < (n:Int):=by omega
    have hjL:j < L.length:=by rw [← HN.out];exact hlt
    have hjK:j < KS.length:=by rw [HKn.out];exact hjL
    obtain ⟨b,off,u,rfl,hb0,c0,c1,hto⟩:=HC.out j hjL
    have ht:=IsAo.isA hto
    obtain ⟨ua,un,uc,rfl⟩:=ht.sl
    obtain ⟨X,hX⟩:∃ X:ByteArray,ofL L[j].1 = X:=⟨_,rfl⟩
    have hXl:X.data.toList = L[j].1:=by rw [← hX,ofL_list]
    have hd0:∀ W,Below w.heap.size w W → W.cell? ⟨b,off + j * 2,none⟩ = some (.string X):=fun W hW=>by rw [hW.cell (p:=⟨b,_,none⟩) hb0,c0,← hX];rfl
    have hd1:=fun (W:World) (hW:Below w.heap.size w W)=>(hW.cell (p:=⟨b,off + j * 2 + 1,none⟩) hb0).trans c1
    have d0:=hd0 wr HBel.out
    have d1:=hd1 wr HBel.out
    have HD0:=Lib.hid hd0
    have HD1:=Lib.hid hd1
    obtain ⟨A,hA⟩:∃ A,A = L[j].2:=⟨_,rfl⟩
    rw [← hA] at ht
    have hfa:fineA A:=by rw [hA];exact HS.out.2 _ (List.getElem_mem hjL)
    have hXs:X.size ≤ 100000:=by rw [← bytes_len,hXl];exact (HS.out.1.2 _ (List.getElem_mem hjL)).1
    have hkey:=fun W=>keyR_any X hXs ua un uc W
    obtain ⟨Y,hY⟩:∃ Y,Y = keyB (keyD X.data.toList):=⟨_,rfl⟩
    rw [← hY] at hkey
    have hYl:Y.data.toList = KS[j]:=by
     rw [hY,keyB_list,hXl]
     have hKS:=HKs.out
     subst hKS
     exact (keysE_at L j hjL).symm
    have HKy:=Lib.hid hkey
    have HYl:=Lib.hid hYl
    have HIa:Hid (∀ W,Below w.heap.size w W → IsA W.heap.size W A (.slice ua un uc)):=Lib.hid (fun W hW=>ht.below hW hW.size)
    obtain ⟨cc,hcc⟩:∃ cc,cc = checkD X.data.toList A:=⟨_,rfl⟩
    obtain ⟨q,hq⟩:∃ q,q = isNE (X.data.toList,A):=⟨_,rfl⟩
    have hok:okE L[j] = (decide (cc = 0) && q):=by
     unfold okE
     rw [show L[j] = (X.data.toList,A) from by rw [hXl,hA]]
     rw [hcc,hq]
    have HOk:=Lib.hid hok
    have hnm:=fineA_norm hfa
    obtain ⟨nm,hnmE⟩:∃ nm,nm = ofL (nameN X.data.toList):=⟨_,rfl⟩
    have HNm:Hid (strV (nameN X.data.toList) = .string nm):=Lib.hid (by rw [hnmE];rfl)
    have HNr:=Lib.hid (fun (W:World) (hW:IsA W.heap.size W A (.slice ua un uc))=>normRef_entry X hXs A hfa.1 (.slice ua un uc) W hW)
    have hq2:(((ofL (nameN X.data.toList)).data.toList,sortA (normL A)) == (X.data.toList,A)) = q:=by rw [ofL_list,hq];rfl
    have HSm:=Lib.hid (fun (W:World) (u:Value) (hu:IsA W.heap.size W (sortA (normL A)) u) (h1:IsA W.heap.size W A (.slice ua un uc))=>sameRef_entry (ofL (nameN X.data.toList)) X (sortA (normL A)) A hnm.1 u (.slice ua un uc) W hu h1)
    rw [hq2,← hnmE] at HSm
    have HCk:=Lib.hid (fun (W:World) (hW:IsA W.heap.size W A (.slice ua un uc))=>checkRef_any X hXs A hfa.1 (.slice ua un uc) W hW)
    rw [← hcc] at HCk
    have hnew:KS.take (j + 1) = KS.take j ++ [Y.data.toList]:=by rw [List.take_succ_eq_append_getElem hjK,hYl]
    have HNew:=Lib.hid hnew
    clear hX hXl c0 c1 ht hto hkey hY hYl hd0 hd1 hA hfa hcc hq hok hnm hnmE hq2 hnew hbel
    go_upto_region 8 with (go_at_call 37;refine (HKy.out _).mono ?_;rintro e w2 ⟨rfl,hb2⟩;have HB2:=Lib.hid (HBel.out.trans (hb2.mono hbs));have HO2:=Lib.hid (ownS_below HOwn.out hb2);clear hb2)
    clear d0 d1
    have e0:=HD0.out _ HB2.out
    have e1:=HD1.out _ HB2.out
    have hbs2:=HB2.out.size
    have HB2d:=Lib.hid HB2.out.drew
    cases q with
    | false=>
     have HF:Hid (R = false):=Lib.hid (HR.out.trans (may_bad hjL (HOk.out.trans (by simp))))
     have HE:=Lib.hid (fun (W:World) (hW:Below w2.heap.size w2 W)=>And.intro (HD0.out W (HB2.out.trans (hW.mono hbs2))) (And.intro (HD1.out W (HB2.out.trans (hW.mono hbs2))) hW))
     have HW0d:Hid (Below w2.heap.size w2 w2.drew):=Lib.hid (Below.refl _ _).drew
     have HW0:=Lib.hid (HB2.out.trans (HW0d.out.mono hbs2))
     refine wp_region_held_drew (S:=(fun w'=>w'.cell? ⟨b,off + j * 2,none⟩ = some (.string X) ∧ w'.cell? ⟨b,off + j * 2 + 1,none⟩ = some (.slice ua un uc) ∧ Below w2.heap.size w2 w')) (by kernel_rfl) (HE.out _ HW0d.out) (fun hHeld=>?_)
     refine takeV 0 (h:=?_)
     refine takeV 1 (h:=?_)
     refine takeV 2 (h:=?_)
     try simp only [Act.put,List.setIfInBounds_toArray,List.set_cons_zero,List.set_cons_succ]
     refine takeV 3 (h:=?_)
     refine takeV 5 (h:=?_)
     refine takeV 6 (h:=?_)
     try simp only [Act.put,List.setIfInBounds_toArray,List.set_cons_zero,List.set_cons_succ]
     refine takeV 7 (h:=?_)
     refine takeV 8 (h:=?_)
     try simp only [Act.put,List.setIfInBounds_toArray,List.set_cons_zero,List.set_cons_succ]
     refine' wpAnyH_ready (rs:=[4]) (by kernel_rfl) (by simp) (AllReadyH.cons (o:=?oo9) ?ho9 (fun K hK=>?st9) AllReadyH.nil)
     case ho9=>(simp only [List.getElem?_toArray,List.getElem?_cons_succ,List.getElem?_cons_zero];rfl)
     go_simp
     (go_at_call 14;(with_reducible refine (HNr.out _ (HIa.out _ HW0.out)).mono ?_);rintro e wA ⟨vA,rfl,hA,hbA⟩;have HBA:=Lib.hid (HW0d.out.trans hbA);have HWA:=Lib.hid (HB2.out.trans (HBA.out.mono hbs2));have HIA:=Lib.hid hA;(obtain ⟨aa,an,ac,rfl⟩:=hA.sl);clear hA hbA;rw [HNm.out])
     refine hK.out _ _ (HE.out _ HBA.out) (fun hHeld4=>?_)
     clear hK K
     try simp only [Act.put,List.setIfInBounds_toArray,List.set_cons_zero,List.set_cons_succ]
     try simp only [Act.put,List.setIfInBounds_toArray,List.set_cons_zero,List.set_cons_succ]
     refine' wpAnyH_ready (rs:=[9]) (by kernel_rfl) (by simp) (AllReadyH.cons (o:=?oo10) ?ho10 (fun K hK=>?st10) AllReadyH.nil)
     case ho10=>(simp only [List.getElem?_toArray,List.getElem?_cons_succ,List.getElem?_cons_zero];rfl)
     go_simp
     (go_at_call 12;(with_reducible refine (HSm.out _ _ HIA.out (HIa.out _ HWA.out)).mono ?_);rintro e wB ⟨rfl,hbB⟩;have HBB:=Lib.hid (bthen HBA.out hbB);have HWB:=Lib.hid (HB2.out.trans (HBB.out.mono hbs2));clear hbB)
     refine hK.out _ _ (HE.out _ HBB.out) (fun hHeld9=>?_)
     clear hK K
     try simp only [Act.put,List.setIfInBounds_toArray,List.set_cons_zero,List.set_cons_succ]
     refine takeV 10 (h:=?_)
     refine takeV 11 (h:=?_)
     refine takeS 12 (h:=?_)
     try simp only [Act.put,List.setIfInBounds_toArray,List.set_cons_zero,List.set_cons_succ]
     refine takeS 13 (h:=?_)
     refine takeS 14 (h:=?_)
     refine takeS 15 (h:=?_)
     try simp only [Act.put,List.setIfInBounds_toArray,List.set_cons_zero,List.set_cons_succ]
     refine takeS 16 (h:=?_)
     refine takeS 17 (h:=?_)
     refine takeV 18 (h:=?_)
     try simp only [Act.put,List.setIfInBounds_toArray,List.set_cons_zero,List.set_cons_succ]
     refine takeV 19 (h:=?_)
     refine takeS 20 (h:=?_)
     refine takeS 21 (h:=?_)
     try simp only [Act.put,List.setIfInBounds_toArray,List.set_cons_zero,List.set_cons_succ]
     refine takeS 22 (h:=?_)
     refine takeS 23 (h:=?_)
     refine takeS 24 (h:=?_)
     try simp only [Act.put,List.setIfInBounds_toArray,List.set_cons_zero,List.set_cons_succ]
     refine takeS 25 (h:=?_)
     refine takeS 26 (h:=?_)
     refine takeS 27 (h:=?_)
     try simp only [Act.put,List.setIfInBounds_toArray,List.set_cons_zero,List.set_cons_succ]
     refine takeS 28 (h:=?_)
     refine takeS 29 (h:=?_)
     refine takeS 30 (h:=?_)
     try simp only [Act.put,List.setIfInBounds_toArray,List.set_cons_zero,List.set_cons_succ]
     refine takeV 31 (h:=?_)
     try simp only [Act.put,List.setIfInBounds_toArray,List.set_cons_zero,List.set_cons_succ]
     refine wpAnyH_done (by kernel_rfl) ?_ _
     go_wp2
     go_ret
     exact ⟨by rw [HF.out];rfl,HWB.out⟩
    | true=>
     by_cases hc0:cc = 0
     ·subst hc0
      have hokj:okE L[j] = true:=by rw [HOk.out];rfl
      have HOkj:=Lib.hid hokj
      clear hokj
      by_cases hj0:j = 0
      ·have q0:decide ((0:Int) < (j:Int)) = false:=by simp;omega
       have q0':decide (0 < j) = false:=by simp;omega
       have HN1:Hid (∀ i (hi:i < L.length),i < j + 1 → okE L[i] = true ∧ riseK KS i = true):=Lib.hid (fun i h1 h3=>by
        by_cases hk:i < j
        ·exact HAll.out i h1 hk
        ·obtain rfl:i = j:=by omega
         exact ⟨HOkj.out,by rw [hj0];rfl⟩)
       clear hj0
       have HE:=Lib.hid (fun (W:World) (hW:Below w2.heap.size w2 W)=>And.intro (HD0.out W (HB2.out.trans (hW.mono hbs2))) (And.intro (HD1.out W (HB2.out.trans (hW.mono hbs2))) hW))
       have HW0d:Hid (Below w2.heap.size w2 w2.drew):=Lib.hid (Below.refl _ _).drew
       have HW0:=Lib.hid (HB2.out.trans (HW0d.out.mono hbs2))
       refine wp_region_held_drew (S:=(fun w'=>w'.cell? ⟨b,off + j * 2,none⟩ = some (.string X) ∧ w'.cell? ⟨b,off + j * 2 + 1,none⟩ = some (.slice ua un uc) ∧ Below w2.heap.size w2 w')) (by kernel_rfl) (HE.out _ HW0d.out) (fun hHeld=>?_)
       refine takeV 0 (h:=?_)
       refine takeV 1 (h:=?_)
       refine takeV 2 (h:=?_)
       try simp only [Act.put,List.setIfInBounds_toArray,List.set_cons_zero,List.set_cons_succ]
       refine takeV 3 (h:=?_)
       refine takeV 5 (h:=?_)
       refine takeV 6 (h:=?_)
       try simp only [Act.put,List.setIfInBounds_toArray,List.set_cons_zero,List.set_cons_succ]
       refine takeV 7 (h:=?_)
       refine takeV 8 (h:=?_)
       try simp only [Act.put,List.setIfInBounds_toArray,List.set_cons_zero,List.set_cons_succ]
       refine' wpAnyH_ready (rs:=[4]) (by kernel_rfl) (by simp) (AllReadyH.cons (o:=?oo41) ?ho41 (fun K hK=>?st41) AllReadyH.nil)
       case ho41=>(simp only [List.getElem?_toArray,List.getElem?_cons_succ,List.getElem?_cons_zero];rfl)
       go_simp
       (go_at_call 14;(with_reducible refine (HNr.out _ (HIa.out _ HW0.out)).mono ?_);rintro e wA ⟨vA,rfl,hA,hbA⟩;have HBA:=Lib.hid (HW0d.out.trans hbA);have HWA:=Lib.hid (HB2.out.trans (HBA.out.mono hbs2));have HIA:=Lib.hid hA;(obtain ⟨aa,an,ac,rfl⟩:=hA.sl);clear hA hbA;rw [HNm.out])
       refine hK.out _ _ (HE.out _ HBA.out) (fun hHeld4=>?_)
       clear hK K
       try simp only [Act.put,List.setIfInBounds_toArray,List.set_cons_zero,List.set_cons_succ]
       try simp only [Act.put,List.setIfInBounds_toArray,List.set_cons_zero,List.set_cons_succ]
       refine' wpAnyH_ready (rs:=[9]) (by kernel_rfl) (by simp) (AllReadyH.cons (o:=?oo42) ?ho42 (fun K hK=>?st42) AllReadyH.nil)
       case ho42=>(simp only [List.getElem?_toArray,List.getElem?_cons_succ,List.getElem?_cons_zero];rfl)
       go_simp
       (go_at_call 12;(with_reducible refine (HSm.out _ _ HIA.out (HIa.out _ HWA.out)).mono ?_);rintro e wB ⟨rfl,hbB⟩;have HBB:=Lib.hid (bthen HBA.out hbB);have HWB:=Lib.hid (HB2.out.trans (HBB.out.mono hbs2));clear hbB)
       refine hK.out _ _ (HE.out _ HBB.out) (fun hHeld9=>?_)
       clear hK K
       try simp only [Act.put,List.setIfInBounds_toArray,List.set_cons_zero,List.set_cons_succ]
       refine takeV 10 (h:=?_)
       refine takeV 11 (h:=?_)
       refine takeV 12 (h:=?_)
       try simp only [Act.put,List.setIfInBounds_toArray,List.set_cons_zero,List.set_cons_succ]
       refine takeV 13 (h:=?_)
       refine takeV 14 (h:=?_)
       refine takeV 15 (h:=?_)
       try simp only [Act.put,List.setIfInBounds_toArray,List.set_cons_zero,List.set_cons_succ]
       try simp only [Act.put,List.setIfInBounds_toArray,List.set_cons_zero,List.set_cons_succ]
       refine' wpAnyH_ready (rs:=[16]) (by kernel_rfl) (by simp) (AllReadyH.cons (o:=?oo49) ?ho49 (fun K hK=>?st49) AllReadyH.nil)
       case ho49=>(simp only [List.getElem?_toArray,List.getElem?_cons_succ,List.getElem?_cons_zero];rfl)
       go_simp
       (go_at_call 68;(with_reducible refine (HCk.out _ (HIa.out _ HWB.out)).mono ?_);rintro e wC ⟨rfl,hbC⟩;have HBC:=Lib.hid (bthen HBB.out hbC);have HWC:=Lib.hid (HB2.out.trans (HBC.out.mono hbs2));clear hbC)
       refine hK.out _ _ (HE.out _ HBC.out) (fun hHeld16=>?_)
       clear hK K
       try simp only [Act.put,List.setIfInBounds_toArray,List.set_cons_zero,List.set_cons_succ]
       refine takeV 17 (h:=?_)
       refine takeV 18 (h:=?_)
       refine takeV 19 (h:=?_)
       try simp only [Act.put,List.setIfInBounds_toArray,List.set_cons_zero,List.set_cons_succ]
       refine takeV 20 (h:=?_)
       refine takeV 21 (h:=?_)
       refine takeV 22 (h:=?_)
       try simp only [Act.put,List.setIfInBounds_toArray,List.set_cons_zero,List.set_cons_succ]
       refine takeS 23 (h:=?_)
       refine takeS 24 (h:=?_)
       refine takeS 25 (h:=?_)
       try simp only [Act.put,List.setIfInBounds_toArray,List.set_cons_zero,List.set_cons_succ]
       refine takeS 26 (h:=?_)
       refine takeS 27 (h:=?_)
       refine takeS 28 (h:=?_)
       try simp only [Act.put,List.setIfInBounds_toArray,List.set_cons_zero,List.set_cons_succ]
       refine takeS 29 (h:=?_)
       refine takeV 30 (h:=?_)
       refine takeV 31 (h:=?_)
       try simp only [Act.put,List.setIfInBounds_toArray,List.set_cons_zero,List.set_cons_succ]
       try simp only [Act.put,List.setIfInBounds_toArray,List.set_cons_zero,List.set_cons_succ]
       refine wpAnyH_done (by kernel_rfl) ?_ _
       go_wp2_with (at_builtin;refine wpList_append_text rfl (.tmp 54) (.tmp 56) rfl w.heap.size (.slice sa j sc) (KS.take j) rfl Y (ownS_below HO2.out HBC.out) rfl (by rw [HTl.out];omega) HWC.out.size ?_;intro v5 w5 hown5 hb5;have HO5:=Lib.hid hown5;have HB5:=Lib.hid (HWC.out.trans hb5);clear hown5 hb5)
       go_roundw
       case rel=>exact ⟨j + 1,by omega,by go_num,by rw [HNew.out];exact HO5.out,HN1,HB5.out⟩
       case measure=>simp [intOf];omega
      ·obtain ⟨m,hm1⟩:∃ m,j = m + 1:=⟨j - 1,by omega⟩
       have q0:decide ((0:Int) < (j:Int)) = true:=by simp;omega
       have q0':decide (0 < j) = true:=by simp;omega
       have hsub:(j:Int) - 1 = (m:Int):=by omega
       have hmj:(m:Int) < (j:Int):=by omega
       have hmj':m < j:=by omega
       have hmK:m < KS.length:=by omega
       have hwm:IntKind.i64.wrap (m:Int) = (m:Int):=IntWalk.i64_in _ (by omega)
       have hm0:(0:Int) ≤ (m:Int):=by omega
       obtain ⟨Z,hZ⟩:∃ Z:ByteArray,ofL KS[m] = Z:=⟨_,rfl⟩
       have hZl:Z.data.toList = KS[m]:=by rw [← hZ,ofL_list]
       obtain ⟨kb,kc,hkv,_,_,hkc⟩:=ownS_at HO2.out (by intro e;have:=HTl.out;rw [e] at this;simp at this;omega)
       rw [HTl.out] at hkv
       obtain ⟨hka,_,hkc2⟩:=Value.slice.inj hkv
       subst hka hkc2
       have z0:w2.cell? ⟨kb,m,none⟩ = some (.string Z):=by
        have:=hkc m (by rw [HTl.out];exact hmj')
        rw [this,List.getElem_take,← hZ];rfl
       have hkl:kb < w2.heap.size:=World.block_lt_of_cell? w2 _ z0
       obtain ⟨bl,hbl⟩:∃ bl,Op.bytesLess Z.toList Y.toList = bl:=⟨_,rfl⟩
       have hrise:riseK KS j = bl:=by
        unfold riseK
        have:(j == 0) = false:=by simpa using hj0
        rw [this,Bool.false_or,getD_in _ _ hjK,getD_in _ _ (show j - 1 < KS.length by omega)]
        have e1:KS[j - 1]'(by omega) = KS[m]:=by congr 1;omega
        rw [e1,gtB_less,← HYl.out,← hZl,← ByteArray.toList_eq,← ByteArray.toList_eq,hbl]
       have HRise:=Lib.hid hrise
       have HZ0:=Lib.hid (fun (W:World) (hW:Below w2.heap.size w2 W)=>(hW.cell (p:=⟨kb,m,none⟩) hkl).trans z0)
       have HM1:=Lib.hid hm1
       clear hZ hZl hkv hkc hrise hj0 hm1 z0
       cases bl with
       | true=>
        have HN1:Hid (∀ i (hi:i < L.length),i < j + 1 → okE L[i] = true ∧ riseK KS i = true):=Lib.hid (fun i h1 h3=>by
         by_cases hk:i < j
         ·exact HAll.out i h1 hk
         ·obtain rfl:i = j:=by omega
          exact ⟨HOkj.out,HRise.out⟩)
        have HE:=Lib.hid (fun (W:World) (hW:Below w2.heap.size w2 W)=>And.intro (HD0.out W (HB2.out.trans (hW.mono hbs2))) (And.intro (HD1.out W (HB2.out.trans (hW.mono hbs2))) (And.intro (HZ0.out W hW) hW)))
        have HW0d:Hid (Below w2.heap.size w2 w2.drew):=Lib.hid (Below.refl _ _).drew
        have HW0:=Lib.hid (HB2.out.trans (HW0d.out.mono hbs2))
        refine wp_region_held_drew (S:=(fun w'=>w'.cell? ⟨b,off + j * 2,none⟩ = some (.string X) ∧ w'.cell? ⟨b,off + j * 2 + 1,none⟩ = some (.slice ua un uc) ∧ w'.cell? ⟨kb,m,none⟩ = some (.string Z) ∧ Below w2.heap.size w2 w')) (by kernel_rfl) (HE.out _ HW0d.out) (fun hHeld=>?_)
        refine takeV 0 (h:=?_)
        refine takeV 1 (h:=?_)
        refine takeV 2 (h:=?_)
        try simp only [Act.put,List.setIfInBounds_toArray,List.set_cons_zero,List.set_cons_succ]
        refine takeV 3 (h:=?_)
        refine takeV 5 (h:=?_)
        refine takeV 6 (h:=?_)
        try simp only [Act.put,List.setIfInBounds_toArray,List.set_cons_zero,List.set_cons_succ]
        refine takeV 7 (h:=?_)
        refine takeV 8 (h:=?_)
        try simp only [Act.put,List.setIfInBounds_toArray,List.set_cons_zero,List.set_cons_succ]
        refine' wpAnyH_ready (rs:=[4]) (by kernel_rfl) (by simp) (AllReadyH.cons (o:=?oo73) ?ho73 (fun K hK=>?st73) AllReadyH.nil)
        case ho73=>(simp only [List.getElem?_toArray,List.getElem?_cons_succ,List.getElem?_cons_zero];rfl)
        go_simp
        (go_at_call 14;(with_reducible refine (HNr.out _ (HIa.out _ HW0.out)).mono ?_);rintro e wA ⟨vA,rfl,hA,hbA⟩;have HBA:=Lib.hid (HW0d.out.trans hbA);have HWA:=Lib.hid (HB2.out.trans (HBA.out.mono hbs2));have HIA:=Lib.hid hA;(obtain ⟨aa,an,ac,rfl⟩:=hA.sl);clear hA hbA;rw [HNm.out])
        refine hK.out _ _ (HE.out _ HBA.out) (fun hHeld4=>?_)
        clear hK K
        try simp only [Act.put,List.setIfInBounds_toArray,List.set_cons_zero,List.set_cons_succ]
        try simp only [Act.put,List.setIfInBounds_toArray,List.set_cons_zero,List.set_cons_succ]
        refine' wpAnyH_ready (rs:=[9]) (by kernel_rfl) (by simp) (AllReadyH.cons (o:=?oo74) ?ho74 (fun K hK=>?st74) AllReadyH.nil)
        case ho74=>(simp only [List.getElem?_toArray,List.getElem?_cons_succ,List.getElem?_cons_zero];rfl)
        go_simp
        (go_at_call 12;(with_reducible refine (HSm.out _ _ HIA.out (HIa.out _ HWA.out)).mono ?_);rintro e wB ⟨rfl,hbB⟩;have HBB:=Lib.hid (bthen HBA.out hbB);have HWB:=Lib.hid (HB2.out.trans (HBB.out.mono hbs2));clear hbB)
        refine hK.out _ _ (HE.out _ HBB.out) (fun hHeld9=>?_)
        clear hK K
        try simp only [Act.put,List.setIfInBounds_toArray,List.set_cons_zero,List.set_cons_succ]
        refine takeV 10 (h:=?_)
        refine takeV 11 (h:=?_)
        refine takeV 12 (h:=?_)
        try simp only [Act.put,List.setIfInBounds_toArray,List.set_cons_zero,List.set_cons_succ]
        refine takeV 13 (h:=?_)
        refine takeV 14 (h:=?_)
        refine takeV 15 (h:=?_)
        try simp only [Act.put,List.setIfInBounds_toArray,List.set_cons_zero,List.set_cons_succ]
        try simp only [Act.put,List.setIfInBounds_toArray,List.set_cons_zero,List.set_cons_succ]
        refine' wpAnyH_ready (rs:=[16]) (by kernel_rfl) (by simp) (AllReadyH.cons (o:=?oo81) ?ho81 (fun K hK=>?st81) AllReadyH.nil)
        case ho81=>(simp only [List.getElem?_toArray,List.getElem?_cons_succ,List.getElem?_cons_zero];rfl)
        go_simp
        (go_at_call 68;(with_reducible refine (HCk.out _ (HIa.out _ HWB.out)).mono ?_);rintro e wC ⟨rfl,hbC⟩;have HBC:=Lib.hid (bthen HBB.out hbC);have HWC:=Lib.hid (HB2.out.trans (HBC.out.mono hbs2));clear hbC)
        refine hK.out _ _ (HE.out _ HBC.out) (fun hHeld16=>?_)
        clear hK K
        try simp only [Act.put,List.setIfInBounds_toArray,List.set_cons_zero,List.set_cons_succ]
        refine takeV 17 (h:=?_)
        refine takeV 18 (h:=?_)
        refine takeV 19 (h:=?_)
        try simp only [Act.put,List.setIfInBounds_toArray,List.set_cons_zero,List.set_cons_succ]
        refine takeV 20 (h:=?_)
        refine takeV 21 (h:=?_)
        refine takeV 22 (h:=?_)
        try simp only [Act.put,List.setIfInBounds_toArray,List.set_cons_zero,List.set_cons_succ]
        refine takeV 23 (h:=?_)
        refine takeV 24 (h:=?_)
        refine takeV 25 (h:=?_)
        try simp only [Act.put,List.setIfInBounds_toArray,List.set_cons_zero,List.set_cons_succ]
        refine takeV 26 (h:=?_)
        refine takeV 27 (h:=?_)
        refine takeV 28 (h:=?_)
        try simp only [Act.put,List.setIfInBounds_toArray,List.set_cons_zero,List.set_cons_succ]
        refine takeV 29 (h:=?_)
        refine takeV 30 (h:=?_)
        refine takeV 31 (h:=?_)
        try simp only [Act.put,List.setIfInBounds_toArray,List.set_cons_zero,List.set_cons_succ]
        try simp only [Act.put,List.setIfInBounds_toArray,List.set_cons_zero,List.set_cons_succ]
        refine wpAnyH_done (by kernel_rfl) ?_ _
        go_wp2_with (at_builtin;refine wpList_append_text rfl (.tmp 54) (.tmp 56) rfl w.heap.size (.slice (some ⟨kb,0,none⟩) j sc) (KS.take j) rfl Y (ownS_below HO2.out HBC.out) rfl (by rw [HTl.out];omega) HWC.out.size ?_;intro v5 w5 hown5 hb5;have HO5:=Lib.hid hown5;have HB5:=Lib.hid (HWC.out.trans hb5);clear hown5 hb5)
        go_roundw
        case rel=>exact ⟨j + 1,by omega,by go_num,by rw [HNew.out];exact HO5.out,HN1,HB5.out⟩
        case measure=>simp [intOf];omega
       | false=>
        have HF:Hid (R = false):=Lib.hid (HR.out.trans (by
         have:=HKs.out
         subst this
         exact may_rise hjL HRise.out))
        have HE:=Lib.hid (fun (W:World) (hW:Below w2.heap.size w2 W)=>And.intro (HD0.out W (HB2.out.trans (hW.mono hbs2))) (And.intro (HD1.out W (HB2.out.trans (hW.mono hbs2))) (And.intro (HZ0.out W hW) hW)))
        have HW0d:Hid (Below w2.heap.size w2 w2.drew):=Lib.hid (Below.refl _ _).drew
        have HW0:=Lib.hid (HB2.out.trans (HW0d.out.mono hbs2))
        refine wp_region_held_drew (S:=(fun w'=>w'.cell? ⟨b,off + j * 2,none⟩ = some (.string X) ∧ w'.cell? ⟨b,off + j * 2 + 1,none⟩ = some (.slice ua un uc) ∧ w'.cell? ⟨kb,m,none⟩ = some (.string Z) ∧ Below w2.heap.size w2 w')) (by kernel_rfl) (HE.out _ HW0d.out) (fun hHeld=>?_)
        refine takeV 0 (h:=?_)
        refine takeV 1 (h:=?_)
        refine takeV 2 (h:=?_)
        try simp only [Act.put,List.setIfInBounds_toArray,List.set_cons_zero,List.set_cons_succ]
        refine takeV 3 (h:=?_)
        refine takeV 5 (h:=?_)
        refine takeV 6 (h:=?_)
        try simp only [Act.put,List.setIfInBounds_toArray,List.set_cons_zero,List.set_cons_succ]
        refine takeV 7 (h:=?_)
        refine takeV 8 (h:=?_)
        try simp only [Act.put,List.setIfInBounds_toArray,List.set_cons_zero,List.set_cons_succ]
        refine' wpAnyH_ready (rs:=[4]) (by kernel_rfl) (by simp) (AllReadyH.cons (o:=?oo105) ?ho105 (fun K hK=>?st105) AllReadyH.nil)
        case ho105=>(simp only [List.getElem?_toArray,List.getElem?_cons_succ,List.getElem?_cons_zero];rfl)
        go_simp
        (go_at_call 14;(with_reducible refine (HNr.out _ (HIa.out _ HW0.out)).mono ?_);rintro e wA ⟨vA,rfl,hA,hbA⟩;have HBA:=Lib.hid (HW0d.out.trans hbA);have HWA:=Lib.hid (HB2.out.trans (HBA.out.mono hbs2));have HIA:=Lib.hid hA;(obtain ⟨aa,an,ac,rfl⟩:=hA.sl);clear hA hbA;rw [HNm.out])
        refine hK.out _ _ (HE.out _ HBA.out) (fun hHeld4=>?_)
        clear hK K
        try simp only [Act.put,List.setIfInBounds_toArray,List.set_cons_zero,List.set_cons_succ]
        try simp only [Act.put,List.setIfInBounds_toArray,List.set_cons_zero,List.set_cons_succ]
        refine' wpAnyH_ready (rs:=[9]) (by kernel_rfl) (by simp) (AllReadyH.cons (o:=?oo106) ?ho106 (fun K hK=>?st106) AllReadyH.nil)
        case ho106=>(simp only [List.getElem?_toArray,List.getElem?_cons_succ,List.getElem?_cons_zero];rfl)
        go_simp
        (go_at_call 12;(with_reducible refine (HSm.out _ _ HIA.out (HIa.out _ HWA.out)).mono ?_);rintro e wB ⟨rfl,hbB⟩;have HBB:=Lib.hid (bthen HBA.out hbB);have HWB:=Lib.hid (HB2.out.trans (HBB.out.mono hbs2));clear hbB)
        refine hK.out _ _ (HE.out _ HBB.out) (fun hHeld9=>?_)
        clear hK K
        try simp only [Act.put,List.setIfInBounds_toArray,List.set_cons_zero,List.set_cons_succ]
        refine takeV 10 (h:=?_)
        refine takeV 11 (h:=?_)
        refine takeV 12 (h:=?_)
        try simp only [Act.put,List.setIfInBounds_toArray,List.set_cons_zero,List.set_cons_succ]
        refine takeV 13 (h:=?_)
        refine takeV 14 (h:=?_)
        refine takeV 15 (h:=?_)
        try simp only [Act.put,List.setIfInBounds_toArray,List.set_cons_zero,List.set_cons_succ]
        try simp only [Act.put,List.setIfInBounds_toArray,List.set_cons_zero,List.set_cons_succ]
        refine' wpAnyH_ready (rs:=[16]) (by kernel_rfl) (by simp) (AllReadyH.cons (o:=?oo113) ?ho113 (fun K hK=>?st113) AllReadyH.nil)
        case ho113=>(simp only [List.getElem?_toArray,List.getElem?_cons_succ,List.getElem?_cons_zero];rfl)
        go_simp
        (go_at_call 68;(with_reducible refine (HCk.out _ (HIa.out _ HWB.out)).mono ?_);rintro e wC ⟨rfl,hbC⟩;have HBC:=Lib.hid (bthen HBB.out hbC);have HWC:=Lib.hid (HB2.out.trans (HBC.out.mono hbs2));clear hbC)
        refine hK.out _ _ (HE.out _ HBC.out) (fun hHeld16=>?_)
        clear hK K
        try simp only [Act.put,List.setIfInBounds_toArray,List.set_cons_zero,List.set_cons_succ]
        refine takeV 17 (h:=?_)
        refine takeV 18 (h:=?_)
        refine takeV 19 (h:=?_)
        try simp only [Act.put,List.setIfInBounds_toArray,List.set_cons_zero,List.set_cons_succ]
        refine takeV 20 (h:=?_)
        refine takeV 21 (h:=?_)
        refine takeV 22 (h:=?_)
        try simp only [Act.put,List.setIfInBounds_toArray,List.set_cons_zero,List.set_cons_succ]
        refine takeV 23 (h:=?_)
        refine takeV 24 (h:=?_)
        refine takeV 25 (h:=?_)
        try simp only [Act.put,List.setIfInBounds_toArray,List.set_cons_zero,List.set_cons_succ]
        refine takeV 26 (h:=?_)
        refine takeV 27 (h:=?_)
        refine takeV 28 (h:=?_)
        try simp only [Act.put,List.setIfInBounds_toArray,List.set_cons_zero,List.set_cons_succ]
        refine takeV 29 (h:=?_)
        refine takeV 30 (h:=?_)
        refine takeV 31 (h:=?_)
        try simp only [Act.put,List.setIfInBounds_toArray,List.set_cons_zero,List.set_cons_succ]
        try simp only [Act.put,List.setIfInBounds_toArray,List.set_cons_zero,List.set_cons_succ]
        refine wpAnyH_done (by kernel_rfl) ?_ _
        go_wp2
        go_ret
        exact ⟨by rw [HF.out];rfl,HWC.out⟩
     ·have q0:(cc != 0) = true:=by simpa using hc0
      have HF:Hid (R = false):=Lib.hid (HR.out.trans (may_bad hjL (HOk.out.trans (by simp [hc0]))))
      clear hc0
      have HE:=Lib.hid (fun (W:World) (hW:Below w2.heap.size w2 W)=>And.intro (HD0.out W (HB2.out.trans (hW.mono hbs2))) (And.intro (HD1.out W (HB2.out.trans (hW.mono hbs2))) hW))
      have HW0d:Hid (Below w2.heap.size w2 w2.drew):=Lib.hid (Below.refl _ _).drew
      have HW0:=Lib.hid (HB2.out.trans (HW0d.out.mono hbs2))
      refine wp_region_held_drew (S:=(fun w'=>w'.cell? ⟨b,off + j * 2,none⟩ = some (.string X) ∧ w'.cell? ⟨b,off + j * 2 + 1,none⟩ = some (.slice ua un uc) ∧ Below w2.heap.size w2 w')) (by kernel_rfl) (HE.out _ HW0d.out) (fun hHeld=>?_)
      refine takeV 0 (h:=?_)
      refine takeV 1 (h:=?_)
      refine takeV 2 (h:=?_)
      try simp only [Act.put,List.setIfInBounds_toArray,List.set_cons_zero,List.set_cons_succ]
      refine takeV 3 (h:=?_)
      refine takeV 5 (h:=?_)
      refine takeV 6 (h:=?_)
      try simp only [Act.put,List.setIfInBounds_toArray,List.set_cons_zero,List.set_cons_succ]
      refine takeV 7 (h:=?_)
      refine takeV 8 (h:=?_)
      try simp only [Act.put,List.setIfInBounds_toArray,List.set_cons_zero,List.set_cons_succ]
      refine' wpAnyH_ready (rs:=[4]) (by kernel_rfl) (by simp) (AllReadyH.cons (o:=?oo137) ?ho137 (fun K hK=>?st137) AllReadyH.nil)
      case ho137=>(simp only [List.getElem?_toArray,List.getElem?_cons_succ,List.getElem?_cons_zero];rfl)
      go_simp
      (go_at_call 14;(with_reducible refine (HNr.out _ (HIa.out _ HW0.out)).mono ?_);rintro e wA ⟨vA,rfl,hA,hbA⟩;have HBA:=Lib.hid (HW0d.out.trans hbA);have HWA:=Lib.hid (HB2.out.trans (HBA.out.mono hbs2));have HIA:=Lib.hid hA;(obtain ⟨aa,an,ac,rfl⟩:=hA.sl);clear hA hbA;rw [HNm.out])
      refine hK.out _ _ (HE.out _ HBA.out) (fun hHeld4=>?_)
      clear hK K
      try simp only [Act.put,List.setIfInBounds_toArray,List.set_cons_zero,List.set_cons_succ]
      try simp only [Act.put,List.setIfInBounds_toArray,List.set_cons_zero,List.set_cons_succ]
      refine' wpAnyH_ready (rs:=[9]) (by kernel_rfl) (by simp) (AllReadyH.cons (o:=?oo138) ?ho138 (fun K hK=>?st138) AllReadyH.nil)
      case ho138=>(simp only [List.getElem?_toArray,List.getElem?_cons_succ,List.getElem?_cons_zero];rfl)
      go_simp
      (go_at_call 12;(with_reducible refine (HSm.out _ _ HIA.out (HIa.out _ HWA.out)).mono ?_);rintro e wB ⟨rfl,hbB⟩;have HBB:=Lib.hid (bthen HBA.out hbB);have HWB:=Lib.hid (HB2.out.trans (HBB.out.mono hbs2));clear hbB)
      refine hK.out _ _ (HE.out _ HBB.out) (fun hHeld9=>?_)
      clear hK K
      try simp only [Act.put,List.setIfInBounds_toArray,List.set_cons_zero,List.set_cons_succ]
      refine takeV 10 (h:=?_)
      refine takeV 11 (h:=?_)
      refine takeV 12 (h:=?_)
      try simp only [Act.put,List.setIfInBounds_toArray,List.set_cons_zero,List.set_cons_succ]
      refine takeV 13 (h:=?_)
      refine takeV 14 (h:=?_)
      refine takeV 15 (h:=?_)
      try simp only [Act.put,List.setIfInBounds_toArray,List.set_cons_zero,List.set_cons_succ]
      try simp only [Act.put,List.setIfInBounds_toArray,List.set_cons_zero,List.set_cons_succ]
      refine' wpAnyH_ready (rs:=[16]) (by kernel_rfl) (by simp) (AllReadyH.cons (o:=?oo145) ?ho145 (fun K hK=>?st145) AllReadyH.nil)
      case ho145=>(simp only [List.getElem?_toArray,List.getElem?_cons_succ,List.getElem?_cons_zero];rfl)
      go_simp
      (go_at_call 68;(with_reducible refine (HCk.out _ (HIa.out _ HWB.out)).mono ?_);rintro e wC ⟨rfl,hbC⟩;have HBC:=Lib.hid (bthen HBB.out hbC);have HWC:=Lib.hid (HB2.out.trans (HBC.out.mono hbs2));clear hbC)
      refine hK.out _ _ (HE.out _ HBC.out) (fun hHeld16=>?_)
      clear hK K
      try simp only [Act.put,List.setIfInBounds_toArray,List.set_cons_zero,List.set_cons_succ]
      refine takeV 17 (h:=?_)
      refine takeV 18 (h:=?_)
      refine takeV 19 (h:=?_)
      try simp only [Act.put,List.setIfInBounds_toArray,List.set_cons_zero,List.set_cons_succ]
      refine takeS 20 (h:=?_)
      refine takeS 21 (h:=?_)
      refine takeS 22 (h:=?_)
      try simp only [Act.put,List.setIfInBounds_toArray,List.set_cons_zero,List.set_cons_succ]
      refine takeS 23 (h:=?_)
      refine takeS 24 (h:=?_)
      refine takeS 25 (h:=?_)
      try simp only [Act.put,List.setIfInBounds_toArray,List.set_cons_zero,List.set_cons_succ]
      refine takeS 26 (h:=?_)
      refine takeS 27 (h:=?_)
      refine takeS 28 (h:=?_)
      try simp only [Act.put,List.setIfInBounds_toArray,List.set_cons_zero,List.set_cons_succ]
      refine takeS 29 (h:=?_)
      refine takeS 30 (h:=?_)
      refine takeV 31 (h:=?_)
      try simp only [Act.put,List.setIfInBounds_toArray,List.set_cons_zero,List.set_cons_succ]
      try simp only [Act.put,List.setIfInBounds_toArray,List.set_cons_zero,List.set_cons_succ]
      refine wpAnyH_done (by kernel_rfl) ?_ _
      go_wp2
      go_ret
      exact ⟨by rw [HF.out];rfl,HWC.out⟩
   ·obtain rfl:j = n:=by omega
    have t1:decide ((j:Int) < (j:Int)) = false:=by simp
    have t1':decide (j < j) = false:=by simp
    have hKeys:KS.take j = KS:=List.take_of_length_le (by rw [HKn.out,← HN.out];exact Nat.le_refl _)
    have hit:=ownS_isT HOwn.out (by rw [HTl.out];unfold maxLen;omega)
    rw [hKeys] at hit
    have HIt:=Lib.hid hit
    have hKj:KS.length = j:=by rw [HKn.out,← HN.out]
    have hksz:∀ i (hi:i < KS.length),KS[i].length ≤ 100000:=by
     have:=HKs.out
     subst this
     exact keysE_small HS.out.1
    have HKsz:=Lib.hid hksz
    have hRs:R = standsK KS:=by
     have:=HKs.out
     subst this
     exact HR.out.trans (may_stands (by rw [← HN.out];omega) (fun i hi=>(HAll.out i hi (by rw [HN.out];exact hi)).1))
    have HRs:=Lib.hid hRs
    have HKj:=Lib.hid hKj
    obtain ⟨_,_,hsv2,_,hcell2⟩:=hit
    rw [hKj] at hsv2
    have HC2:=Lib.hid hcell2
    obtain ⟨rfl,_,rfl⟩:=Value.slice.inj hsv2
    clear hbel hKeys hksz hRs hcell2 hsv2 hKj
    go_wp2
    go_loopw [6] (fun i wr2=>∃ k:Nat,k ≤ j ∧ i = .int .i64 k ∧ Hid (∀ i (hi:i < KS.length),i < k → upK KS i = true) ∧ wr = wr2) (fun i wr2=>j - (intOf i).toNat)
    case atStart=>exact ⟨0,by omega,rfl,Lib.hid (fun _ _ h=>absurd h (by omega)),rfl⟩
    case round=>
     obtain ⟨k,hk,rfl,HUps,rfl⟩:=hrel
     by_cases hlt2:k < j
     ·have u1:decide ((k:Int) < (j:Int)) = true:=by simp;omega
      have u1':decide (k < j) = true:=by simpa using hlt2
      have qk:(k:Int) < (j:Int):=by omega
      have hkK:k < KS.length:=by rw [HKj.out];exact hlt2
      obtain ⟨b2,off2,hae,hb2,c2⟩:=HC2.out k hkK
      subst hae
      obtain ⟨X,hX⟩:∃ X:ByteArray,ofL KS[k] = X:=⟨_,rfl⟩
      have hXl:X.data.toList = KS[k]:=by rw [← hX,ofL_list]
      have d0:wr.cell? ⟨b2,off2 + k,none⟩ = some (.string X):=by rw [c2,← hX];rfl
      have hXs:X.size ≤ 100000:=by rw [← bytes_len,hXl];exact HKsz.out k hkK
      have hup:=fun w=>upRef_any X w (by omega)
      obtain ⟨U,hU⟩:∃ U,U = upB X:=⟨_,rfl⟩
      rw [← hU] at hup
      have hUl:U.data.toList = upD KS[k]:=by rw [hU,upK_list,hXl]
      have HUp:=Lib.hid hup
      have HUl:=Lib.hid hUl
      obtain ⟨g,hg⟩:∃ g,g = KS.contains U.data.toList:=⟨_,rfl⟩
      have HAm:=Lib.hid (amongRef_any KS _ U wr HIt.out)
      rw [← hg] at HAm
      have HG:=Lib.hid hg
      clear hX hXl c2 hup hU hUl hg
      have huk:upK KS k = (U.data.toList.isEmpty || g):=by
       unfold upK
       rw [getD_in _ _ hkK,← HUl.out,HG.out]
      have HUk:=Lib.hid huk
      clear huk
      have nxt:∀ (he:upK KS k = true),Hid (∀ i (hi:i < KS.length),i < k + 1 → upK KS i = true):=fun he=>Lib.hid (fun i h1 h3=>by
       by_cases hik:i < k
       ·exact HUps.out i h1 hik
       ·obtain rfl:i = k:=by omega
        exact he)
      have HNxt:=Lib.hid nxt
      clear nxt
      by_cases hue:U.data.toList = []
      ·obtain ⟨e1,e2⟩:=bytes_nil hue
       have e3:(U.toList == []) = true:=by rw [e1];rfl
       have HN1:=HNxt.out (HUk.out.trans (by rw [hue];rfl))
       clear hue
       go_wp2_with (go_at_call 40;refine (HUp.out _).mono ?_;rintro e w4 ⟨rfl,rfl⟩)
       go_roundw
       case rel=>exact ⟨k + 1,by omega,by go_num,HN1,by first | rfl | trivial⟩
       case measure=>simp [intOf];omega
      ·obtain ⟨e1,e2⟩:=bytes_some hue
       have e3:(U.toList == []) = false:=by simpa using e1
       cases g with
       | true=>
        have HN1:=HNxt.out (HUk.out.trans (by simp))
        clear hue
        go_wp2_with (first
         | (go_at_call 40;refine (HUp.out _).mono ?_;rintro e w4 ⟨rfl,rfl⟩)
         | (go_at_call 69;refine (HAm.out).mono ?_;rintro e w5 ⟨rfl,rfl⟩))
        go_roundw
        case rel=>exact ⟨k + 1,by omega,by go_num,HN1,by first | rfl | trivial⟩
        case measure=>simp [intOf];omega
       | false=>
        have HF:Hid (R = false):=Lib.hid (HRs.out.trans (stands_no hkK (.inr (HUk.out.trans (by
         cases h:U.data.toList with
         | nil=>exact absurd h hue
         | cons _ _=>rfl)))))
        clear hue
        go_wp2_with (first
         | (go_at_call 40;refine (HUp.out _).mono ?_;rintro e w4 ⟨rfl,rfl⟩)
         | (go_at_call 69;refine (HAm.out).mono ?_;rintro e w5 ⟨rfl,rfl⟩))
        go_ret
        exact ⟨by rw [HF.out];rfl,HBel.out⟩
     ·obtain rfl:k = j:=by omega
      have u1:decide ((k:Int) < (k:Int)) = false:=by simp
      have u1':decide (k < k) = false:=by simp
      have HF:Hid (R = true):=Lib.hid (HRs.out.trans (stands_yes (fun i hi=>⟨(HAll.out i (by rw [← HKn.out];exact hi) (by rw [← HKj.out];exact hi)).2,HUps.out i hi (by rw [← HKj.out];exact hi)⟩)))
      go_wp2
      go_ret
      exact ⟨by rw [HF.out];rfl,HBel.out⟩
end Go.Proofs.YtlimajgmdhhggaaGreatDoor
namespace Go.Proofs.YtlimajgmdhhggaaGreatDoor
set_option linter.unusedVariables false
def ns8:List UInt8:=[0,2,0,3,0,0]
def cn8:List UInt8:=[99,110,61,110,48]
theorem awk_name:mkD ns8 = cn8:=by kernel_rfl
theorem awk_norm:isNE (mkD ns8,mkLd ns8) = true:=by kernel_rfl
theorem awk_key:kE (mkD ns8,mkLd ns8) = cn8:=by kernel_rfl
theorem awk_put:putE [] (mkD ns8,mkLd ns8) = [(mkD ns8,mkLd ns8)]:=by kernel_rfl
theorem awk_find:findK (keysE [(mkD ns8,mkLd ns8)]) cn8 = 0:=by kernel_rfl
theorem awk_may:mayE [(mkD ns8,mkLd ns8)] = true:=by kernel_rfl
theorem awk_few:(mkLd ns8).length ≤ 20:=of_decide_eq_true (by kernel_rfl)
theorem awk_fine:fineA (mkLd ns8):=by
 have e:mkLd ns8 = mkLd ns8:=rfl
 have hd:decide ((mkLd ns8).length < 40 ∧ (mkLd ns8).all (fun a=>decide (a.1.length ≤ 1000) && decide (a.2.length ≤ 1000) && a.2.all (fun s=>decide (s.length ≤ 1000))) = true) = true:=by kernel_rfl
 obtain ⟨h1,h2⟩:=of_decide_eq_true hd
 have each:∀ a ∈ mkLd ns8,a.1.length ≤ 1000 ∧ a.2.length ≤ 1000 ∧ ∀ s ∈ a.2,s.length ≤ 1000:=fun a ha=>by
  have:=List.all_eq_true.1 h2 a ha
  simp only [Bool.and_eq_true,decide_eq_true_eq,List.all_eq_true] at this
  exact ⟨this.1.1,this.1.2,this.2⟩
 exact ⟨⟨by omega,fun a ha=>by
  obtain ⟨k1,k2,k3⟩:=each a ha
  exact ⟨by omega,by omega,fun s hs=>by have:=k3 s hs;omega⟩⟩,h1,fun a ha=>(each a ha).1⟩
end Go.Proofs.YtlimajgmdhhggaaGreatDoor
namespace Go.Proofs.YtlimajgmdhhggaaGreatDoor
open Go.RowKit
set_option linter.unusedVariables false
def IsB (n0:Nat) (w:World) (l:List UInt8) (a:Option Addr) (cap:Nat):Prop:=
 l.length ≤ maxLen ∧ (l = [] ∨ ∃ b off,a = some ⟨b,off,none⟩ ∧ b < n0 ∧ ∀ j,(h:j < l.length) → w.cell? ⟨b,off + j,none⟩ = some (.int .u8 l[j].toNat))
def IsS (n0:Nat) (w:World) (L:List ByteArray) (a:Option Addr) (cap:Nat):Prop:=
 L.length ≤ maxLen ∧ (∀ s ∈ L,s.size ≤ maxLen) ∧ (L = [] ∨ ∃ b off,a = some ⟨b,off,none⟩ ∧ b < n0 ∧ ∀ j,(h:j < L.length) → w.cell? ⟨b,off + j,none⟩ = some (.string L[j]))
theorem IsB.below {n0:Nat} {w w':World} {l:List UInt8} {a:Option Addr} {cap:Nat} (h:IsB n0 w l a cap) (hb:Below n0 w w'):IsB n0 w' l a cap:=
 ⟨h.1,h.2.imp id fun ⟨b,off,e,hlt,hc⟩=>⟨b,off,e,hlt,fun j hj=>(hb.cell (p:=⟨b,_,none⟩) hlt).trans (hc j hj)⟩⟩
theorem IsS.below {n0:Nat} {w w':World} {l:List ByteArray} {a:Option Addr} {cap:Nat} (h:IsS n0 w l a cap) (hb:Below n0 w w'):IsS n0 w' l a cap:=
 ⟨h.1,h.2.1,h.2.2.imp id fun ⟨b,off,e,hlt,hc⟩=>⟨b,off,e,hlt,fun j hj=>(hb.cell (p:=⟨b,_,none⟩) hlt).trans (hc j hj)⟩⟩
end Go.Proofs.YtlimajgmdhhggaaGreatDoor
