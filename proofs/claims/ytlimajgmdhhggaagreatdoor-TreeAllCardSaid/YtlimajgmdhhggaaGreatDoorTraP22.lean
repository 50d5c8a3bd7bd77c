/- Several texts in one file: MkS, EnHasP, TrAwk, ScGreat, TrGreat, TrAllW, ArgE, ArgEE. -/
import Derived.Test.YtlimajgmdhhggaaGreatDoorTraP13
import Derived.Test.YtlimajgmdhhggaaGreatDoorTraP7
import Derived.Test.YtlimajgmdhhggaaGreatDoorTraP16
import Derived.Test.YtlimajgmdhhggaaGreatDoorTraP10
import Derived.Test.YtlimajgmdhhggaaGreatDoorTraP4
import Derived.Test.YtlimajgmdhhggaaGreatDoorTraP20
import Derived.Test.YtlimajgmdhhggaaGreatDoorTraP21
import Derived.Deep.Cut
import Derived.Test.YtlimajgmdhhggaaGreatDoorTraP5
import Derived.Test.YtlimajgmdhhggaaGreatDoorTraP12
import Derived.Test.YtlimajgmdhhggaaGreatDoorTraP1
import Derived.OpenShut
import Derived.Carry
import Derived.ChangeSame
import Derived.ChangeSlices
import Derived.Deep.Strs
import Derived.Deep.SlicePairs
namespace Go.Proofs.YtlimajgmdhhggaaGreatDoor
open Go.RowKit
set_option linter.unusedVariables false
def nonA (L:List AT):Prop:=∀ a ∈ L,a.2 ≠ []
theorem nonA.app {L M:List AT} (h:nonA L) (hm:nonA M):nonA (L ++ M):=fun a ha=>(List.mem_append.1 ha).elim (h a) (hm a)
end Go.Proofs.YtlimajgmdhhggaaGreatDoor
namespace Go.Proofs.YtlimajgmdhhggaaGreatDoor
open Go.RowKit
set_option linter.unusedVariables false
set_option linter.unusedSimpArgs false
def okB (t:List UInt8) (A:List (List UInt8)):Bool:=
 !A.isEmpty && A.all fun v=>A.any (likeB t v) && (ruleD t != 1 || A.any (likeB t ([32] ++ upL v ++ [32]))) && (ruleD t != 4 || (A.any (likeB t (upL v)) == (upL v == v))) && !A.any (likeB t (v ++ [33,33]))
def tysT:List (List (List UInt8)):=
 let c:List UInt8:=[99,110];let o:=objB;let s:List UInt8:=[115,110];let m:List UInt8:=[109,97,105,108];let d:List UInt8:=[68,101,115,99,114,105,112,116,105,111,110]
 let u:List UInt8:=[117,105,100];let n:List UInt8:=[117,105,100,78,117,109,98,101,114];let p:List UInt8:=[117,115,101,114,80,97,115,115,119,111,114,100]
 [[c,o,s],[c,o,s,m],[c,o,s,d],[c,o,s,u,n],[c,o,s,m,u,n],[c,o,s,d,u,n],[c,o,s,p],[c,o,s,m,p],[c,o,s,d,p]]
def mkE (ns:List UInt8):List AT:=sortA (normL (mkLd ns))
end Go.Proofs.YtlimajgmdhhggaaGreatDoor
namespace Go.Proofs.YtlimajgmdhhggaaGreatDoor
open Go.RowKit
set_option linter.unusedVariables false
set_option maxRecDepth 100000 in
set_option maxHeartbeats 4000000 in
theorem awake8_any (w:World) (hw:LaidW w) (hlf:LaidF w):Calls Tryz.prog 23 #[] w fun e w'=>e = .returned (.bool true) ∧ Below w.heap.size w w':=by
 obtain ⟨W0,hW0⟩:∃ W,W = w.alloc (.cells #[.int .u8 0,.int .u8 2,.int .u8 0,.int .u8 3,.int .u8 0,.int .u8 0] 5):=⟨_,rfl⟩
 have hb0:Below w.heap.size w W0:=by rw [hW0];exact (Below.refl _ _).alloc (Nat.le_refl _) _
 have hB:IsB W0.heap.size W0 ns8 (some ⟨w.heap.size,0,none⟩) 6:=by
  refine ⟨by unfold maxLen ns8;simp,.inr ⟨w.heap.size,0,rfl,by rw [hW0];simp,fun j hj=>?_⟩⟩
  have hc:W0.heap[w.heap.size]? = some (.cells #[.int .u8 0,.int .u8 2,.int .u8 0,.int .u8 3,.int .u8 0,.int .u8 0] 5 (0,0)):=by rw [hW0];exact heap_alloc_new w _
  have hj6:j < 6:=hj
  rcases (show j = 0 ∨ j = 1 ∨ j = 2 ∨ j = 3 ∨ j = 4 ∨ j = 5 by omega) with rfl | rfl | rfl | rfl | rfl | rfl <;> simp [World.cell?,hc,ns8]
 have hmk:=make_any ns8 (some ⟨w.heap.size,0,none⟩) 6 W0 hB
 have HB0:=Lib.hid hb0
 have HW0:=Lib.hid hW0
 have HMk:=Lib.hid hmk
 have HLd:=Lib.hid hw
 have HLf:=Lib.hid hlf
 have HPut:Hid (∀ (D:ByteArray) (u:Value) (W:World),D.data.toList = mkD ns8 → IsA W.heap.size W (mkLd ns8) u → Calls Tryz.prog 38 #[.slice none 0 0,.agg #[.string D,u]] W fun e w'=>∃ v',e = .returned v' ∧ IsE w'.heap.size w' [(mkD ns8,mkLd ns8)] v' ∧ Below W.heap.size W w'):=Lib.hid (fun D u W hD hu=>by
  have hDs:D.size ≤ 100000:=by rw [← bytes_len,hD,awk_name];simp [cn8]
  have:=treePut_any [] ⟨by simp,by simp⟩ (.slice none 0 0) ⟨rfl,rfl⟩ D hDs (mkLd ns8) awk_fine awk_few u (by rw [hD,awk_key];simp [cn8]) (by rw [hD];exact awk_norm) W (isE_nil _ _ _ _) hu
  refine this.mono fun e w' h=>?_
  obtain ⟨v',h1,h2,_,h3⟩:=h
  rw [hD,awk_put] at h2
  exact ⟨v',h1,h2,h3⟩)
 have hsm:fineE [(mkD ns8,mkLd ns8)]:=⟨⟨by simp,fun e he=>by
  simp only [List.mem_singleton] at he
  subst he
  exact ⟨by rw [awk_name];simp [cn8],awk_fine.1⟩⟩,fun e he=>by
  simp only [List.mem_singleton] at he
  subst he
  exact awk_fine⟩
 have HSm:=Lib.hid hsm
 clear hW0 hb0 hB hmk hw hlf hsm
 have HCn:Hid ((⟨#[99,110,61,110,48]⟩:ByteArray).data.toList = cn8):=Lib.hid rfl
 go_enter Tryz.func23,Tryz.ntmps23
 go_upto_region 2 with (first
  | (go_at_call 64;rw [← HW0.out];refine (HMk.out).mono ?_;rintro e w2 ⟨D,u,rfl,hD,hu,hb2⟩;have HD:=Lib.hid hD;have HU:=Lib.hid (ownM_isA hu (by have:=awk_fine.2.1;unfold maxLen;omega));have HB2:=Lib.hid (HB0.out.trans (hb2.mono HB0.out.size));(obtain ⟨ua,un,uc,rfl⟩:=HU.out.sl);clear hD hu hb2)
  | (go_at_call 38;refine (HPut.out D _ _ HD.out HU.out).mono ?_;rintro e w3 ⟨v3,rfl,h3,hb3⟩;have HB3:=Lib.hid (HB2.out.trans (hb3.mono HB2.out.size));have HE3:=Lib.hid h3;(obtain ⟨la,lc,rfl⟩:=IsE.sl h3);clear h3 hb3))
 have HKids:Hid (∀ W,Calls Tryz.prog 30 #[.slice none 0 0,.string ⟨#[]⟩] W fun e w'=>∃ a c,e = .returned (.slice a 0 c) ∧ Below W.heap.size W w'):=Lib.hid (fun W=>(treeKids_any [] ⟨by simp,by simp⟩ (.slice none 0 0) ⟨#[]⟩ W (isE_nil _ _ _ _)).mono fun e w' h=>by
  obtain ⟨v,h1,h2,h3⟩:=h
  obtain ⟨a,c,rfl⟩:=ownS_slice h2
  exact ⟨a,c,h1,h3⟩)
 have HFind:Hid (∀ W,Below w3.heap.size w3 W → Calls Tryz.prog 28 #[.slice la 1 lc,.string ⟨#[99,110,61,110,48]⟩] W fun e w'=>e = .returned (.int .i64 0) ∧ Below W.heap.size W w'):=Lib.hid (fun W hW=>by
  have:=treeFind_any [(mkD ns8,mkLd ns8)] HSm.out.1 (.slice la 1 lc) ⟨#[99,110,61,110,48]⟩ (by decide) W (HE3.out.below hW hW.size)
  rw [HCn.out,awk_find] at this
  exact this)
 have HMay:Hid (∀ W,Below w3.heap.size w3 W → Calls Tryz.prog 24 #[.slice la 1 lc] W fun e w'=>e = .returned (.bool true) ∧ Below W.heap.size W w'):=Lib.hid (fun W hW=>by
  have h1:=HB3.out.trans (hW.mono HB3.out.size)
  have:=treeMay_any [(mkD ns8,mkLd ns8)] HSm.out (.slice la 1 lc) W (HLd.out.below h1) (HLf.out.below h1) (HE3.out.below hW hW.size)
  rw [awk_may] at this
  exact this)
 have HR3:=Lib.hid (Below.refl w3.heap.size w3)
 go_wp2_with (first
  | (go_at_call 30;refine (HKids.out _).mono ?_;rintro e w4 ⟨ka,kc,rfl,hb4⟩;have HB4:=Lib.hid (bthen HR3.out hb4);clear hb4)
  | (go_at_call 28;refine (HFind.out _ HB4.out).mono ?_;rintro e w5 ⟨rfl,hb5⟩;have HB5:=Lib.hid (bthen HB4.out hb5);clear hb5)
  | (go_at_call 24;refine (HMay.out _ HB5.out).mono ?_;rintro e w6 ⟨rfl,hb6⟩;have HB6:=Lib.hid (bthen HB5.out hb6);clear hb6))
 go_ret
 exact ⟨rfl,HB3.out.trans (HB6.out.mono HB3.out.size)⟩
end Go.Proofs.YtlimajgmdhhggaaGreatDoor
namespace Go.Proofs.YtlimajgmdhhggaaGreatDoor
open Go.RowKit
set_option linter.unusedVariables false
def badG (a:AT):Bool:=decide (100 < a.1.length) || decide (50 < a.2.length) || a.2.any (fun s=>decide (300 < s.length))
def greatD (d:List UInt8) (L:List AT):Bool:=(L.take 30).any badG || (decide (25 < L.length) || decide (600 < d.length))
theorem great_no {d:List UInt8} {L:List AT} (h:greatD d L = false):L.length ≤ 25 ∧ d.length ≤ 600 ∧ ∀ a ∈ L,a.1.length ≤ 100 ∧ a.2.length ≤ 50 ∧ ∀ s ∈ a.2,s.length ≤ 300:=by
 unfold greatD at h
 simp only [Bool.or_eq_false_iff,decide_eq_false_iff_not] at h
 obtain ⟨h1,h2,h3⟩:=h
 rw [List.take_of_length_le (by omega),List.any_eq_false] at h1
 refine ⟨by omega,by omega,fun a ha=>?_⟩
 have:=h1 a ha
 simp only [badG,Bool.or_eq_true,decide_eq_true_eq,List.any_eq_true,not_or,not_exists,not_and] at this
 exact ⟨by omega,by omega,fun s hs=>by have:=this.2 s hs;omega⟩
theorem great_bad {d:List UInt8} {L:List AT} {j:Nat} (hj:j < L.length) (h30:j < 30) (h:badG L[j] = true):greatD d L = true:=by
 unfold greatD
 rw [List.any_eq_true.2 ⟨L[j],List.mem_take_iff_getElem.2 ⟨j,by omega,rfl⟩,h⟩]
 rfl
theorem great_rest {d:List UInt8} {L:List AT} (h:∀ k (hk:k < L.length),k < 30 → badG L[k] = false):greatD d L = (decide (25 < L.length) || decide (600 < d.length)):=by
 unfold greatD
 have:(L.take 30).any badG = false:=by
  rw [List.any_eq_false]
  intro a ha
  obtain ⟨i,hi,rfl⟩:=List.mem_take_iff_getElem.1 ha
  rw [h i (by omega) (by omega)]
  simp
 rw [this,Bool.false_or]
set_option maxRecDepth 100000 in
set_option maxHeartbeats 8000000 in
theorem great_any (D:ByteArray) (L:List AT) (v:Value) (w:World) (h:IsA w.heap.size w L v) :
  Calls Tryz.prog 9 #[.agg #[.string D,v]] w fun e w'=>e = .returned (.bool (greatD D.data.toList L)) ∧ Below w.heap.size w w':=by
 obtain ⟨a,c,hv,hm,hcell⟩:=id h
 obtain ⟨n,hn⟩:∃ n,n = L.length:=⟨_,rfl⟩
 rw [← hn] at hv hm
 subst hv
 unfold maxLen at hm
 obtain ⟨R,hR⟩:∃ R,R = greatD D.data.toList L:=⟨_,rfl⟩
 rw [← hR]
 obtain ⟨W0,hW0⟩:∃ W0,W0 = w.alloc (.cells #[.string D,.slice a n c] 24):=⟨_,rfl⟩
 have hB0:Below w.heap.size w W0:=by rw [hW0];exact (Below.refl _ _).alloc (Nat.le_refl _) _
 have hbx:BoxN W0 w.heap.size D (.slice a n c):=by rw [hW0];exact boxN_new _ _ _
 obtain ⟨x0,x1⟩:=hbx.cells
 have HN:=Lib.hid hn
 have HC:=Lib.hid hcell
 have HB0:=Lib.hid hB0
 have HW0:=Lib.hid hW0.symm
 have HR:=Lib.hid hR
 clear hcell hn hB0 hbx hW0 h hR
 go_enter Tryz.func9,Tryz.ntmps9
 go_upto_region 1 with (fail)
 rw [HW0.out]
 go_wp2
 go_loopw [3] (fun i wr=>∃ j:Nat,j ≤ n ∧ j ≤ 30 ∧ i = .int .i64 j ∧ Hid (∀ k (hk:k < L.length),k < j → badG L[k] = false) ∧ W0 = wr) (fun i wr=>n - (intOf i).toNat)
 case atStart=>exact ⟨0,by omega,by omega,rfl,Lib.hid (fun k _ h=>absurd h (by omega)),rfl⟩
 case round=>
  obtain ⟨j,hj,hj3,rfl,HNo,rfl⟩:=hrel
  have tail:∀ (h:∀ k (hk:k < L.length),k < 30 → badG L[k] = false),R = (decide (25 < n) || decide (600 < D.size)):=fun h=>by rw [HR.out,great_rest h,← HN.out,bytes_len]
  by_cases hlt:j < n
  ·have t1:decide ((j:Int) < (n:Int)) = true:=by simp;omega
   have t1':decide (j < n) = true:=by simpa using hlt
   have hlL:j < L.length:=by rw [← HN.out];exact hlt
   by_cases h30:j < 30
   ·have t2:decide ((j:Int) < 30) = true:=by simp;omega
    obtain ⟨b,off,u,rfl,hb0,c0,c1,hit⟩:=HC.out j hlL
    obtain ⟨V,hV⟩:∃ V,V = L[j].2:=⟨_,rfl⟩
    rw [← hV] at hit
    obtain ⟨ua,uc,hu,hum,huc⟩:=hit
    obtain ⟨m,hml⟩:∃ m,m = V.length:=⟨_,rfl⟩
    rw [← hml] at hu hum
    subst hu
    unfold maxLen at hum
    obtain ⟨X,hX⟩:∃ X:ByteArray,⟨L[j].1.toArray⟩ = X:=⟨_,rfl⟩
    have hXl:X.size = L[j].1.length:=by rw [← bytes_len,← hX]
    have d0:(W0.cell? ⟨b,off + j * 2,none⟩) = some (.string X):=by
     rw [HB0.out.cell (p:=⟨b,off + j * 2,none⟩) hb0,c0,← hX];rfl
    have d1:(W0.cell? ⟨b,off + j * 2 + 1,none⟩) = some (.slice ua m uc):=by
     rw [HB0.out.cell (p:=⟨b,off + j * 2 + 1,none⟩) hb0,c1]
    have HUc:Hid (∀ k (hk:k < V.length),∃ vb vo,ua = some ⟨vb,vo,none⟩ ∧ ∃ Y:ByteArray,Y.size = V[k].length ∧ W0.cell? ⟨vb,vo + k,none⟩ = some (.string Y)):=Lib.hid (fun k hk=>by
     obtain ⟨vb,vo,e,hvb,hc⟩:=huc k hk
     refine ⟨vb,vo,e,⟨V[k].toArray⟩,by rw [← bytes_len],?_⟩
     rw [HB0.out.cell (p:=⟨vb,_,none⟩) hvb,hc]
     rfl)
    have HXl:=Lib.hid hXl
    have HV:=Lib.hid hV
    have HMl:=Lib.hid hml
    clear hX hXl hV hml huc c0 c1 tail
    by_cases h100:100 < X.size
    ·have t3:decide ((100:Int) < (X.size:Int)) = true:=by simp;omega
     have HE:Hid (R = true):=Lib.hid (by rw [HR.out];refine great_bad hlL h30 ?_;unfold badG;rw [show decide (100 < L[j].1.length) = true from by simp;rw [← HXl.out];exact h100];rfl)
     clear h100
     go_wp2
     go_ret
     exact ⟨by rw [HE.out];rfl,HB0.out⟩
    ·have t3:decide ((100:Int) < (X.size:Int)) = false:=by simp;omega
     by_cases h50:50 < m
     ·have t4:decide ((50:Int) < (m:Int)) = true:=by simp;omega
      have HE:Hid (R = true):=Lib.hid (by rw [HR.out];refine great_bad hlL h30 ?_;unfold badG;rw [show decide (50 < L[j].2.length) = true from by simp;rw [← HV.out,← HMl.out];exact h50];simp)
      clear h100 h50
      go_wp2
      go_ret
      exact ⟨by rw [HE.out];rfl,HB0.out⟩
     ·have t4:decide ((50:Int) < (m:Int)) = false:=by simp;omega
      have HB1:Hid (decide (100 < L[j].1.length) = false ∧ decide (50 < L[j].2.length) = false):=Lib.hid ⟨by simp;rw [← HXl.out];omega,by simp;rw [← HV.out,← HMl.out];omega⟩
      have ti0:(0:Int) ≤ (j:Int):=by omega
      have ti1:(j:Int) < (n:Int):=by omega
      clear h100 h50
      go_wp2
      clear t3 t4
      go_loopw [4] (fun i wr=>∃ k:Nat,k ≤ m ∧ i = .int .i64 k ∧ Hid (∀ q (hq:q < V.length),q < k → V[q].length ≤ 300) ∧ W0 = wr) (fun i wr=>m - (intOf i).toNat)
      case atStart=>exact ⟨0,by omega,rfl,Lib.hid (fun k _ h=>absurd h (by omega)),rfl⟩
      case round=>
       obtain ⟨k,hk,rfl,HAl,rfl⟩:=hrel
       by_cases hkm:k < m
       ·have r1:decide ((k:Int) < (m:Int)) = true:=by simp;omega
        have r1':decide (k < m) = true:=by simpa using hkm
        have r2:(0:Int) ≤ (k:Int):=by omega
        have r3:(k:Int) < (m:Int):=by omega
        have hkV:k < V.length:=by rw [← HMl.out];exact hkm
        obtain ⟨vb,vo,rfl,Y,hY,hyc⟩:=HUc.out k hkV
        have HY:=Lib.hid hY
        clear hY
        by_cases h300:300 < Y.size
        ·have r4:decide ((300:Int) < (Y.size:Int)) = true:=by simp;omega
         have HE:Hid (R = true):=Lib.hid (by
          rw [HR.out]
          refine great_bad hlL h30 ?_
          unfold badG
          have:L[j].2.any (fun s=>decide (300 < s.length)) = true:=List.any_eq_true.2 ⟨V[k],by rw [← HV.out];exact List.getElem_mem _,by simp;rw [← HY.out];exact h300⟩
          rw [this]
          simp)
         clear h300
         go_wp2
         go_ret
         exact ⟨by rw [HE.out];rfl,HB0.out⟩
        ·have r4:decide ((300:Int) < (Y.size:Int)) = false:=by simp;omega
         have HA2:Hid (∀ q (hq:q < V.length),q < k + 1 → V[q].length ≤ 300):=Lib.hid (fun q h1 h3=>by
          by_cases hk:q < k
          ·exact HAl.out q h1 hk
          ·obtain rfl:q = k:=by omega
           rw [← HY.out]
           omega)
         clear h300 HAl
         go_wp2
         go_roundw
         case rel=>exact ⟨k + 1,by omega,by go_num,HA2,by first | rfl | trivial⟩
         case measure=>simp [intOf];omega
       ·obtain rfl:k = m:=by omega
        have r1:decide ((k:Int) < (k:Int)) = false:=by simp
        have r1':decide (k < k) = false:=by simp
        have HA2:Hid (∀ q (hq:q < L.length),q < j + 1 → badG L[q] = false):=Lib.hid (fun q h1 h3=>by
         by_cases hk:q < j
         ·exact HNo.out q h1 hk
         ·obtain rfl:q = j:=by omega
          unfold badG
          rw [HB1.out.1,HB1.out.2]
          have:L[q].2.any (fun s=>decide (300 < s.length)) = false:=by
           rw [← HV.out,List.any_eq_false]
           intro s hs
           obtain ⟨x,hx,rfl⟩:=List.getElem_of_mem hs
           have:=HAl.out x hx (by rw [HMl.out];exact hx)
           simp
           omega
          rw [this]
          rfl)
        clear HAl HNo
        go_wp2
        go_roundw
        case rel=>exact ⟨j + 1,by omega,by omega,by go_num,HA2,by first | rfl | trivial⟩
        case measure=>simp [intOf];omega
   ·have t2:decide ((j:Int) < 30) = false:=by simp;omega
    have HT:=Lib.hid (tail (fun k hk h3=>HNo.out k hk (by omega)))
    have t5:decide ((25:Int) < (n:Int)) = true:=by simp;omega
    have HE:Hid (R = true):=Lib.hid (by rw [HT.out,show decide (25 < n) = true from by simp;omega];rfl)
    clear tail
    go_wp2
    go_ret
    exact ⟨by rw [HE.out];rfl,HB0.out⟩
  ·obtain rfl:j = n:=by omega
   have t1:decide ((j:Int) < (j:Int)) = false:=by simp
   have t1':decide (j < j) = false:=by simp
   have HT:=Lib.hid (tail (fun k hk h3=>HNo.out k hk (by rw [HN.out];exact hk)))
   clear tail
   by_cases h25:25 < j
   ·have t5:decide ((25:Int) < (j:Int)) = true:=by simp;omega
    have HE:Hid (R = true):=Lib.hid (by rw [HT.out,show decide (25 < j) = true from by simp;omega];rfl)
    clear h25
    go_wp2
    go_ret
    exact ⟨by rw [HE.out];rfl,HB0.out⟩
   ·have t5:decide ((25:Int) < (j:Int)) = false:=by simp;omega
    have HE:Hid (R = decide (600 < D.size)):=Lib.hid (by rw [HT.out,show decide (25 < j) = false from by simp;omega];rfl)
    clear h25
    by_cases h6:600 < D.size
    ·have t6:decide ((600:Int) < (D.size:Int)) = true:=by simp;omega
     have HE2:Hid (R = true):=Lib.hid (by rw [HE.out];simpa using h6)
     clear h6
     go_wp2
     go_ret
     exact ⟨by rw [HE2.out];rfl,HB0.out⟩
    ·have t6:decide ((600:Int) < (D.size:Int)) = false:=by simp;omega
     have HE2:Hid (R = false):=Lib.hid (by rw [HE.out];simpa using h6)
     clear h6
     go_wp2
     go_ret
     exact ⟨by rw [HE2.out];rfl,HB0.out⟩
end Go.Proofs.YtlimajgmdhhggaaGreatDoor
namespace Go.Proofs.YtlimajgmdhhggaaGreatDoor
open Go.RowKit
set_option linter.unusedVariables false
def greatE (L:List ET):Bool:=(L.take 40).any (fun e=>greatD e.1 e.2) || decide (30 < L.length)
theorem greatE_no {L:List ET} (h:greatE L = false):fineE L ∧ L.length ≤ 30 ∧ ∀ e ∈ L,e.1.length ≤ 600:=by
 unfold greatE at h
 simp only [Bool.or_eq_false_iff,decide_eq_false_iff_not] at h
 obtain ⟨h1,h2⟩:=h
 rw [List.take_of_length_le (by omega),List.any_eq_false] at h1
 have each:∀ e ∈ L,greatD e.1 e.2 = false:=fun e he=>by simpa using h1 e he
 refine ⟨⟨⟨by omega,fun e he=>?_⟩,fun e he=>?_⟩,by omega,fun e he=>(great_no (each e he)).2.1⟩
 ·obtain ⟨k1,k2,k3⟩:=great_no (each e he)
  exact ⟨by omega,by omega,fun a ha=>by
   obtain ⟨m1,m2,m3⟩:=k3 a ha
   exact ⟨by omega,by omega,fun s hs=>by have:=m3 s hs;omega⟩⟩
 ·obtain ⟨k1,k2,k3⟩:=great_no (each e he)
  exact ⟨⟨by omega,fun a ha=>by
   obtain ⟨m1,m2,m3⟩:=k3 a ha
   exact ⟨by omega,by omega,fun s hs=>by have:=m3 s hs;omega⟩⟩,by omega,fun a ha=>by have:=(k3 a ha).1;omega⟩
set_option maxRecDepth 100000 in
set_option maxHeartbeats 4000000 in
theorem greatE_any (L:List ET) (v:Value) (w:World) (h:IsE w.heap.size w L v) :
  Calls Tryz.prog 22 #[v] w fun e w'=>e = .returned (.bool (greatE L)) ∧ Below w.heap.size w w':=by
 obtain ⟨a,c,rfl,hm,hcell⟩:=h
 obtain ⟨n,hn⟩:∃ n,n = L.length:=⟨_,rfl⟩
 rw [← hn] at hm ⊢
 unfold maxLen at hm
 have HN:=Lib.hid hn
 have HC:=Lib.hid hcell
 obtain ⟨R,hR⟩:∃ R,R = greatE L:=⟨_,rfl⟩
 rw [← hR]
 have HR:=Lib.hid hR
 clear hcell hR hn
 go_enter Tryz.func22,Tryz.ntmps22
 go_wp2
 go_loopw [3] (fun i wr=>∃ j:Nat,j ≤ n ∧ j ≤ 40 ∧ i = .int .i64 j ∧ Hid (∀ i (hi:i < L.length),i < j → greatD L[i].1 L[i].2 = false) ∧ Below w.heap.size w wr) (fun i wr=>40 - (intOf i).toNat)
 case atStart=>exact ⟨0,by omega,by omega,rfl,Lib.hid (fun _ _ h=>absurd h (by omega)),Below.refl _ _⟩
 case round=>
  obtain ⟨j,hj,hj40,rfl,HAll,hbel⟩:=hrel
  have HBel:=Lib.hid hbel
  have hbs:=hbel.size
  by_cases hlt:j < n
  ·have t1:decide ((j:Int) < (n:Int)) = true:=by simp;omega
   have t1':decide (j < n) = true:=by simpa using hlt
   by_cases h40:j < 40
   ·have t2:decide ((j:Int) < 40) = true:=by simp;omega
    have t2':decide (j < 40) = true:=by simpa using h40
    have q1:(j:Int) < (n:Int):=by omega
    have hjL:j < L.length:=by rw [← HN.out];exact hlt
    obtain ⟨b,off,u,rfl,hb0,c0,c1,ht⟩:=HC.out j hjL
    replace ht:=IsAo.isA ht
    obtain ⟨ua,un,uc,rfl⟩:=ht.sl
    obtain ⟨X,hX⟩:∃ X:ByteArray,ofL L[j].1 = X:=⟨_,rfl⟩
    have hXl:X.data.toList = L[j].1:=by rw [← hX,ofL_list]
    have d0:(wr.cell? ⟨b,off + j * 2,none⟩) = some (.string X):=by
     rw [hbel.cell (p:=⟨b,_,none⟩) hb0,c0,← hX];rfl
    have d1:=(hbel.cell (p:=⟨b,off + j * 2 + 1,none⟩) hb0).trans c1
    have hgr:=great_any X L[j].2 (.slice ua un uc) wr (ht.below hbel hbs)
    rw [hXl] at hgr
    obtain ⟨g,hg⟩:∃ g,g = greatD L[j].1 L[j].2:=⟨_,rfl⟩
    rw [← hg] at hgr
    have HGr:=Lib.hid hgr
    have HG:=Lib.hid hg
    clear hX hXl c0 c1 ht hgr hg hbel
    cases g with
    | true=>
     have HF:Hid (R = true):=Lib.hid (HR.out.trans (by
      unfold greatE
      have:(L.take 40).any (fun e=>greatD e.1 e.2) = true:=List.any_eq_true.2 ⟨L[j],List.mem_take_iff_getElem.2 ⟨j,by omega,rfl⟩,HG.out.symm⟩
      rw [this];rfl))
     go_wp2_with (go_at_call 9;refine (HGr.out).mono ?_;rintro e w2 ⟨rfl,hb2⟩;have HB2:=Lib.hid (HBel.out.trans (hb2.mono hbs));clear hb2)
     go_ret
     exact ⟨by rw [HF.out];rfl,HB2.out⟩
    | false=>
     have HN1:Hid (∀ i (hi:i < L.length),i < j + 1 → greatD L[i].1 L[i].2 = false):=Lib.hid (fun i h1 h3=>by
      by_cases hk:i < j
      ·exact HAll.out i h1 hk
      ·obtain rfl:i = j:=by omega
       exact HG.out.symm)
     go_wp2_with (go_at_call 9;refine (HGr.out).mono ?_;rintro e w2 ⟨rfl,hb2⟩;have HB2:=Lib.hid (HBel.out.trans (hb2.mono hbs));clear hb2)
     go_roundw
     case rel=>exact ⟨j + 1,by omega,by omega,by go_num,HN1,HB2.out⟩
     case measure=>simp [intOf];omega
   ·obtain rfl:j = 40:=by omega
    have t2:decide ((30:Int) < (n:Int)) = true:=by simp;omega
    have t2':decide (30 < n) = true:=by simp;omega
    have t3:decide ((40:Int) < (n:Int)) = true:=by simp;omega
    have HF:Hid (R = true):=Lib.hid (HR.out.trans (by
     unfold greatE
     rw [show decide (30 < L.length) = true from by rw [← HN.out];simp;omega]
     simp))
    clear hbel
    go_wp2
    go_ret
    exact ⟨by rw [HF.out];rfl,HBel.out⟩
  ·obtain rfl:j = n:=by omega
   have t1:decide ((j:Int) < (j:Int)) = false:=by simp
   have t1':decide (j < j) = false:=by simp
   obtain ⟨d,hd⟩:∃ d,decide ((30:Int) < (j:Int)) = d:=⟨_,rfl⟩
   have hd':decide (30 < j) = d:=by rw [← hd];exact decide_eq_decide.2 (by omega)
   have HF:Hid (R = d):=Lib.hid (HR.out.trans (by
    unfold greatE
    have h1:(L.take 40).any (fun e=>greatD e.1 e.2) = false:=by
     rw [List.any_eq_false]
     intro e he
     obtain ⟨i,hi,rfl⟩:=List.mem_take_iff_getElem.1 he
     have:=HAll.out i (by omega) (by have:=HN.out;omega)
     simp [this]
    rw [h1,Bool.false_or,← HN.out,hd']))
   clear hbel
   go_wp2
   go_ret
   exact ⟨by rw [HF.out];rfl,HBel.out⟩
end Go.Proofs.YtlimajgmdhhggaaGreatDoor
namespace Go.Proofs.YtlimajgmdhhggaaGreatDoor
open Go.RowKit
set_option linter.unusedVariables false
theorem beq_self_L {α:Type} [BEq α] [LawfulBEq α] (L:List α):(L == L) = true:=by simp
theorem treeAll_del {L:List ET} (h:mayE L = true) (k:KL):delE L k = delD L k:=del_eq h k
theorem treeAll_kids {L:List ET} (h:mayE L = true) (k:KL):kidsP (keysE L) k = kidsT (keysE L) k:=kids_eq (may_keys h) k
theorem treeAll_find {L:List ET} (h:mayE L = true) (k:KL):findK (keysE L) k = idxK (keysE L) k:=findK_idx (may_keys h)
set_option maxRecDepth 100000 in
set_option maxHeartbeats 8000000 in
theorem treeAll_any (L M:List ET) (u v:Value) (K:ByteArray) (w:World) (hw:LaidW w) (hlf:LaidF w) (hL:IsE w.heap.size w L u) (hcap:capW u) (hM:IsE w.heap.size w M v) (hK:K.size ≤ maxLen) :
  Calls Tryz.prog 4 #[u,v,.string K] w fun e w'=>e = .returned (.bool true) ∧ Below w.heap.size w w':=by
 unfold maxLen at hK
 obtain ⟨la,lc,hu⟩:=IsE.sl hL
 obtain ⟨ma,mc,hv⟩:=IsE.sl hM
 obtain ⟨ln,hln⟩:∃ n,n = L.length:=⟨_,rfl⟩
 obtain ⟨mn,hmn⟩:∃ n,n = M.length:=⟨_,rfl⟩
 rw [← hln] at hu
 rw [← hmn] at hv
 subst hu hv
 have HL:=Lib.hid (fun (W:World) (h:Below w.heap.size w W)=>hL.below h h.size)
 have HM:=Lib.hid (fun (W:World) (h:Below w.heap.size w W)=>hM.below h h.size)
 have HAw:=Lib.hid (fun (W:World) (h:Below w.heap.size w W)=>awake8_any W (hw.below h) (hlf.below h))
 have HLd:=Lib.hid (fun (W:World) (h:Below w.heap.size w W)=>And.intro (hw.below h) (hlf.below h))
 have HR0:=Lib.hid (Below.refl w.heap.size w)
 have HCap:=Lib.hid hcap
 clear hL hM hw hlf hcap hln hmn
 have HG1:=Lib.hid (fun (W:World) (h:Below w.heap.size w W)=>greatE_any L (.slice la ln lc) W (HL.out W h))
 have HG2:=Lib.hid (fun (W:World) (h:Below w.heap.size w W)=>greatE_any M (.slice ma mn mc) W (HM.out W h))
 obtain ⟨g1,hg1⟩:∃ g,greatE L = g:=⟨_,rfl⟩
 obtain ⟨g2,hg2⟩:∃ g,greatE M = g:=⟨_,rfl⟩
 rw [hg1] at HG1
 rw [hg2] at HG2
 have HGe1:=Lib.hid hg1
 have HGe2:=Lib.hid hg2
 clear hg1 hg2
 by_cases hgr:g1 = false ∧ g2 = false ∧ K.size ≤ 300
 ·obtain ⟨rfl,rfl,hK3⟩:=hgr
  have t3:decide ((300:Int) < (K.size:Int)) = false:=by simp;omega
  have HfL:=Lib.hid (greatE_no HGe1.out).1
  have HfM:=Lib.hid (greatE_no HGe2.out).1
  obtain ⟨m1,hm1⟩:∃ m,mayE L = m:=⟨_,rfl⟩
  have HMe:=Lib.hid hm1
  have HM1:=Lib.hid (fun (W:World) (h:Below w.heap.size w W)=>treeMay_any L HfL.out (.slice la ln lc) W (HLd.out W h).1 (HLd.out W h).2 (HL.out W h))
  have HM2:=Lib.hid (fun (W:World) (h:Below w.heap.size w W)=>mayR7_any L HfL.out (.slice la ln lc) W (HL.out W h))
  rw [hm1] at HM1 HM2
  obtain ⟨s1,hs1⟩:∃ s,(L == M) = s:=⟨_,rfl⟩
  have HS1:=Lib.hid (fun (W:World) (h:Below w.heap.size w W)=>treeSame_any L M HfL.out.1 (.slice la ln lc) (.slice ma mn mc) W (HL.out W h) (HM.out W h))
  have HS2:=Lib.hid (fun (W:World) (h:Below w.heap.size w W)=>sameR7_any L M HfL.out.1 (.slice la ln lc) (.slice ma mn mc) W (HL.out W h) (HM.out W h))
  rw [hs1] at HS1 HS2
  have qm:(m1 != m1) = false:=by simp
  have qs:(s1 != s1) = false:=by simp
  clear hm1 hs1
  cases m1 with
  | false=>
   go_enter Tryz.func4,Tryz.ntmps4
   go_upto_region 3 with (first
    | (go_at_call 22;((with_reducible refine (HG1.out _ HR0.out).mono ?_));rintro e w2 ⟨rfl,hb2⟩;have HB2:=Lib.hid hb2;clear hb2)
    | (go_at_call 22;((with_reducible refine (HG2.out _ HB2.out).mono ?_));rintro e w3 ⟨rfl,hb3⟩;have HB3:=Lib.hid (bthen HB2.out hb3);clear hb3))
   go_upto_region 5 with (first
    | (go_at_call 24;refine (HM1.out _ HB3.out).mono ?_;rintro e w4 ⟨rfl,hb4⟩;have HB4:=Lib.hid (bthen HB3.out hb4);clear hb4)
    | (go_at_call 25;refine (HM2.out _ HB4.out).mono ?_;rintro e w5 ⟨rfl,hb5⟩;have HB5:=Lib.hid (bthen HB4.out hb5);clear hb5)
    | (go_at_call 26;refine (HS1.out _ HB5.out).mono ?_;rintro e w6 ⟨rfl,hb6⟩;have HB6:=Lib.hid (bthen HB5.out hb6);clear hb6)
    | (go_at_call 27;refine (HS2.out _ HB6.out).mono ?_;rintro e w7 ⟨rfl,hb7⟩;have HB7:=Lib.hid (bthen HB6.out hb7);clear hb7))
   go_wp2_with (first
    | (go_at_call 25;refine (HM2.out _ HB7.out).mono ?_;rintro e w8 ⟨rfl,hb8⟩;have HB8:=Lib.hid (bthen HB7.out hb8);clear hb8)
    | (go_at_call 23;refine (HAw.out _ HB8.out).mono ?_;rintro e w9 ⟨rfl,hb9⟩;have HB9:=Lib.hid (bthen HB8.out hb9);clear hb9))
   go_ret
   exact ⟨rfl,HB9.out⟩
  | true=>
   have HFi1:=Lib.hid (fun (W:World) (h:Below w.heap.size w W)=>treeFind_any L HfL.out.1 (.slice la ln lc) K (by omega) W (HL.out W h))
   have HFi2:=Lib.hid (fun (W:World) (h:Below w.heap.size w W)=>findR7_any L HfL.out.1 (.slice la ln lc) K W (HL.out W h))
   rw [treeAll_find HMe.out] at HFi1
   obtain ⟨I,hI⟩:∃ I,I = idxK (keysE L) K.data.toList:=⟨_,rfl⟩
   rw [← hI] at HFi1 HFi2
   have HKi1:=Lib.hid (fun (W:World) (h:Below w.heap.size w W)=>treeKids_any L HfL.out.1 (.slice la ln lc) K W (HL.out W h))
   have HKi2:=Lib.hid (fun (W:World) (h:Below w.heap.size w W)=>kidsR7_any L HfL.out.1 (.slice la ln lc) K W (HL.out W h))
   rw [treeAll_kids HMe.out] at HKi1
   obtain ⟨KD,hKD⟩:∃ KD,KD = kidsT (keysE L) K.data.toList:=⟨_,rfl⟩
   have hKDl:KD.length ≤ 1000:=by
    have h1:=HfL.out.1.1
    have h2:KD.length ≤ (keysE L).length:=by rw [hKD];exact List.length_filter_le _ _
    rw [keysE_len] at h2
    omega
   rw [← hKD] at HKi1 HKi2
   have HDe1:=Lib.hid (fun (W:World) (h:Below w.heap.size w W)=>treeDel_any L HfL.out.1 (.slice la ln lc) HCap.out K (by omega) W (HL.out W h))
   have HDe2:=Lib.hid (fun (W:World) (h:Below w.heap.size w W)=>delR7_any L HfL.out.1 (.slice la ln lc) K W (HL.out W h))
   rw [treeAll_del HMe.out] at HDe1
   obtain ⟨DD,hDD⟩:∃ DD,DD = delD L K.data.toList:=⟨_,rfl⟩
   have hDDs:smallE DD:=by
    rw [hDD]
    exact ⟨Nat.le_trans (List.length_filter_le _ _) HfL.out.1.1,fun e he=>HfL.out.1.2 e (List.mem_filter.1 he).1⟩
   rw [← hDD] at HDe1 HDe2
   have HDs:=Lib.hid hDDs
   have HKl:=Lib.hid hKDl
   have qi:(I == I) = true:=by simp
   clear hI hKD hDD hDDs hKDl
   go_enter Tryz.func4,Tryz.ntmps4
   go_upto_region 3 with (first
    | (go_at_call 22;((with_reducible refine (HG1.out _ HR0.out).mono ?_));rintro e w2 ⟨rfl,hb2⟩;have HB2:=Lib.hid hb2;clear hb2)
    | (go_at_call 22;((with_reducible refine (HG2.out _ HB2.out).mono ?_));rintro e w3 ⟨rfl,hb3⟩;have HB3:=Lib.hid (bthen HB2.out hb3);clear hb3))
   go_upto_region 5 with (first
    | (go_at_call 24;refine (HM1.out _ HB3.out).mono ?_;rintro e w4 ⟨rfl,hb4⟩;have HB4:=Lib.hid (bthen HB3.out hb4);clear hb4)
    | (go_at_call 25;refine (HM2.out _ HB4.out).mono ?_;rintro e w5 ⟨rfl,hb5⟩;have HB5:=Lib.hid (bthen HB4.out hb5);clear hb5)
    | (go_at_call 26;refine (HS1.out _ HB5.out).mono ?_;rintro e w6 ⟨rfl,hb6⟩;have HB6:=Lib.hid (bthen HB5.out hb6);clear hb6)
    | (go_at_call 27;refine (HS2.out _ HB6.out).mono ?_;rintro e w7 ⟨rfl,hb7⟩;have HB7:=Lib.hid (bthen HB6.out hb7);clear hb7))
   go_upto_region 7 with (go_at_call 25;refine (HM2.out _ HB7.out).mono ?_;rintro e w8 ⟨rfl,hb8⟩;have HB8:=Lib.hid (bthen HB7.out hb8);clear hb8)
   go_wp2_with (first
    | (go_at_call 28;refine (HFi1.out _ HB8.out).mono ?_;rintro e x1 ⟨rfl,hc1⟩;have HC1:=Lib.hid (bthen HB8.out hc1);clear hc1)
    | (go_at_call 29;refine (HFi2.out _ HC1.out).mono ?_;rintro e x2 ⟨rfl,hc2⟩;have HC2:=Lib.hid (bthen HC1.out hc2);clear hc2)
    | (go_at_call 30;refine (HKi1.out _ HC2.out).mono ?_;rintro e x3 ⟨k3,rfl,hk3,hc3⟩;have HC3:=Lib.hid (bthen HC2.out hc3);have HK3:=Lib.hid (ownS_isT hk3 (by have:=HKl.out;unfold maxLen;omega));(obtain ⟨ka,kc,hke⟩:=ownS_slice hk3);clear hk3 hc3;subst hke)
    | (go_at_call 31;refine (HKi2.out _ HC3.out).mono ?_;rintro e x4 ⟨k4,rfl,hk4,hc4⟩;have HC4:=Lib.hid (bthen HC3.out hc4);have HK4:=Lib.hid (ownS_isT hk4 (by have:=HKl.out;unfold maxLen;omega));have HK34:=Lib.hid (HK3.out.below hc4 hc4.size);(obtain ⟨kb,kd,hke⟩:=ownS_slice hk4);clear hk4 hc4;subst hke)
    | (go_at_call 15;refine (textsRef_q KD KD (by have:=HKl.out;omega) _ _ _ HK34.out HK4.out).mono ?_;rintro e x5 ⟨he,m5,hx5⟩;rw [beq_self_L] at he;subst he;have HC5:=Lib.hid (below_drewN HC4.out m5);rw [← hx5] at HC5;clear hx5)
    | (go_at_call 32;refine (HDe1.out _ HC5.out).mono ?_;rintro e x6 ⟨d6,rfl,hd6,_,hc6⟩;have HC6:=Lib.hid (bthen HC5.out hc6);have HD6:=Lib.hid hd6;(obtain ⟨da,dc,rfl⟩:=IsE.sl hd6);clear hd6 hc6)
    | (go_at_call 33;refine (HDe2.out _ HC6.out).mono ?_;rintro e x7 ⟨d7,rfl,hd7,_,hc7⟩;have HC7:=Lib.hid (bthen HC6.out hc7);have HD7:=Lib.hid hd7;have HD67:=Lib.hid (HD6.out.below hc7 hc7.size);(obtain ⟨db,dd,rfl⟩:=IsE.sl hd7);clear hd7 hc7)
    | (go_at_call 27;refine (sameR7_any DD DD HDs.out _ _ _ HD67.out HD7.out).mono ?_;rintro e x8 ⟨he,hc8⟩;rw [beq_self_L] at he;subst he;have HC8:=Lib.hid (bthen HC7.out hc8);clear hc8)
    | (go_at_call 23;refine (HAw.out _ HC8.out).mono ?_;rintro e x9 ⟨rfl,hc9⟩;have HC9:=Lib.hid (bthen HC8.out hc9);clear hc9))
   go_ret
   exact ⟨rfl,HC9.out⟩
 ·by_cases h1:g1 = true
  ·subst h1
   go_enter Tryz.func4,Tryz.ntmps4
   go_wp2_with (first
    | (go_at_call 22;((with_reducible refine (HG1.out _ HR0.out).mono ?_));rintro e w2 ⟨rfl,hb2⟩;have HB2:=Lib.hid hb2;clear hb2)
    | (go_at_call 23;refine (HAw.out _ HB2.out).mono ?_;rintro e w9 ⟨rfl,hb9⟩;have HB9:=Lib.hid (bthen HB2.out hb9);clear hb9))
   go_ret
   exact ⟨rfl,HB9.out⟩
  ·have h1:g1 = false:=by simpa using h1
   subst h1
   have tok:Hid ((0:Nat) = 0):=Lib.hid rfl
   by_cases h2:g2 = true
   ·subst h2
    go_enter Tryz.func4,Tryz.ntmps4
    go_wp2_with (first
     | (go_at_call 22;(have _t:=tok);clear tok;((with_reducible refine (HG1.out _ HR0.out).mono ?_));rintro e w2 ⟨rfl,hb2⟩;have HB2:=Lib.hid hb2;clear hb2)
     | (go_at_call 22;((with_reducible refine (HG2.out _ HB2.out).mono ?_));rintro e w3 ⟨rfl,hb3⟩;have HB3:=Lib.hid (bthen HB2.out hb3);clear hb3)
     | (go_at_call 23;refine (HAw.out _ HB3.out).mono ?_;rintro e w9 ⟨rfl,hb9⟩;have HB9:=Lib.hid (bthen HB3.out hb9);clear hb9))
    go_ret
    exact ⟨rfl,HB9.out⟩
   ·have h2:g2 = false:=by simpa using h2
    subst h2
    have t3:decide ((300:Int) < (K.size:Int)) = true:=by
     simp
     rcases Nat.lt_or_ge 300 K.size with h | h
     ·omega
     ·exact absurd ⟨rfl,rfl,h⟩ hgr
    clear hgr
    go_enter Tryz.func4,Tryz.ntmps4
    go_wp2_with (first
     | (go_at_call 22;(have _t:=tok);clear tok;((with_reducible refine (HG1.out _ HR0.out).mono ?_));rintro e w2 ⟨rfl,hb2⟩;have HB2:=Lib.hid hb2;clear hb2)
     | (go_at_call 22;((with_reducible refine (HG2.out _ HB2.out).mono ?_));rintro e w3 ⟨rfl,hb3⟩;have HB3:=Lib.hid (bthen HB2.out hb3);clear hb3)
     | (go_at_call 23;refine (HAw.out _ HB3.out).mono ?_;rintro e w9 ⟨rfl,hb9⟩;have HB9:=Lib.hid (bthen HB3.out hb9);clear hb9))
    go_ret
    exact ⟨rfl,HB9.out⟩
end Go.Proofs.YtlimajgmdhhggaaGreatDoor
namespace Go.Proofs.YtlimajgmdhhggaaGreatDoor
open Go.RowKit
set_option linter.unusedVariables false
set_option maxRecDepth 100000 in
theorem open_isT {H:Type} {enc:TypeId × Value → H} {W:World} {fuel:Nat} {cs:List Value} {x:DataW H × List MemPlace} (h:DataW.trod enc Tryz.prog W 0 (fun _=>true) true fuel 25 cs = some x) :
  ∃ v L,cs = [v] ∧ IsT W.heap.size W L v:=by
 have hc:Tryz.prog.cellsOf 9 = 1:=by kernel_rfl
 rcases Go.Deep.open_strs Tryz.underlying25 Tryz.underlying9 hc h with ⟨hcs,_⟩ | ⟨a,len,cap,m,Sx,hcs,_,hle,hmax,hm,_,hcell⟩
 ·exact ⟨_,[],hcs,none,0,rfl,Nat.zero_le _,fun j h=>absurd h (by simp)⟩
 ·simp only [if_true] at hm
  have hlen:((List.range len).map fun i=>(Sx i).data.toList).length = len:=by simp
  refine ⟨_,(List.range len).map fun i=>(Sx i).data.toList,hcs,some a,cap,by rw [hlen],by omega,fun j hj=>?_⟩
  rw [hlen] at hj
  obtain ⟨b,off,spot⟩:=a
  have h1:=(hcell j (by omega)).1
  have hspot:spot = none:=by simpa [Addr.add] using World.cell?_spot (hcell 0 (by omega)).1
  subst hspot
  rw [Go.WideShapes.add_plain] at h1
  refine ⟨b,off,rfl,World.block_lt_of_cell? W _ h1,?_⟩
  rw [h1]
  simp only [List.getElem_map,List.getElem_range]
  show some (Value.string (Sx j)) = some (.string ⟨(Sx j).data.toList.toArray⟩)
  rw [whole_ext]
set_option maxRecDepth 100000 in
theorem open_isA {H:Type} {enc:TypeId × Value → H} {W:World} {fuel:Nat} {cs:List Value} {x:DataW H × List MemPlace} (h:DataW.trod enc Tryz.prog W 0 (fun _=>true) true fuel 22 cs = some x) :
  ∃ v L,cs = [v] ∧ IsA W.heap.size W L v:=by
 rcases Go.Deep.open_slice_pairs Tryz.underlying22 Tryz.underlying54 (by kernel_rfl) rfl rfl (by kernel_rfl) (by kernel_rfl) h with ⟨hcs,_⟩ | ⟨a,len,cap,m,n,V0,V1,D0,D1,P0,P1,hcs,_,hle,hmax,hm,_,hcell⟩
 ·exact ⟨_,[],hcs,none,0,rfl,Nat.zero_le _,fun j h=>absurd h (by simp)⟩
 ·simp only [if_true] at hm
  have each:∀ i,∃ r:AT,i < len → W.cell? (a.add (i * 2)) = some (strV r.1) ∧ ∃ u,W.cell? (a.add (i * 2 + 1)) = some u ∧ IsT W.heap.size W r.2 u:=fun i=>by
   by_cases h:i < len
   ·obtain ⟨h0,h1,g0,g1⟩:=hcell i (by omega)
    obtain ⟨x,e0,_⟩:=DataW.trod_string Tryz.underlying9 g0
    simp only [List.cons.injEq,and_true] at e0
    obtain ⟨u,L,e1,hL⟩:=open_isT g1
    simp only [List.cons.injEq,and_true] at e1
    refine ⟨(x.data.toList,L),fun _=>⟨?_,u,by rw [h1,e1],hL⟩⟩
    rw [h0,e0];show some (Value.string x) = some (.string ⟨x.data.toList.toArray⟩);rw [whole_ext]
   ·exact ⟨([],[]),fun h'=>absurd h' h⟩
  obtain ⟨f,hfl⟩:=Classical.skolem.1 each
  have hL:((List.range len).map f).length = len:=by simp
  refine ⟨_,(List.range len).map f,hcs,some a,cap,by rw [hL],by rw [hL];omega,fun j hj=>?_⟩
  rw [hL] at hj
  obtain ⟨h0,u,h1,h2⟩:=hfl j hj
  obtain ⟨b,off,spot⟩:=a
  have hspot:spot = none:=by simpa [Addr.add] using World.cell?_spot (hfl 0 (by omega)).1
  subst hspot
  rw [Go.WideShapes.add_plain] at h0 h1
  refine ⟨b,off,u,rfl,World.block_lt_of_cell? W _ h0,?_,?_,?_⟩
  ·rw [h0];simp
  ·rw [show off + j * 2 + 1 = off + (j * 2 + 1) from by omega,h1]
  ·simpa using h2
end Go.Proofs.YtlimajgmdhhggaaGreatDoor
namespace Go.Proofs.YtlimajgmdhhggaaGreatDoor
open Go.RowKit
set_option linter.unusedVariables false
set_option maxRecDepth 100000 in
theorem open_entries {H:Type} {enc:TypeId × Value → H} {W:World} {v:Value} {d:DataW H} {ps:List MemPlace} (hval:Value.okWide Tryz.prog W .any 0 36 v) (hd:DataW.Trod enc Tryz.prog W 0 (fun _=>true) true 36 v d ps) :
  ∃ L:List ET,IsE W.heap.size W L v ∧ capW v:=by
 obtain ⟨a0,len0,cap0,rfl⟩:=Go.WideShapes.okWide_slice Tryz.underlying36 hval
 obtain ⟨fuel,hf⟩:=hd
 rcases Go.Deep.open_slice_pairs Tryz.underlying36 Tryz.underlying24 (by kernel_rfl) rfl rfl (by kernel_rfl) (by kernel_rfl) hf with ⟨hcs,_⟩ | ⟨a,len,cap,m,n,V0,V1,D0,D1,P0,P1,hcs,_,hle,hmax,hm,_,hcell⟩
 ·simp [Value.cells] at hcs
  obtain ⟨rfl,rfl,rfl⟩:=hcs
  exact ⟨[],isE_nil _ _ _ _,Nat.le_refl _⟩
 ·simp [Value.cells] at hcs
  obtain ⟨rfl,rfl,rfl⟩:=hcs
  simp only [if_true] at hm
  have each:∀ i,∃ r:ET,i < len0 → W.cell? (a.add (i * 2)) = some (strV r.1) ∧ ∃ u,W.cell? (a.add (i * 2 + 1)) = some u ∧ IsA W.heap.size W r.2 u:=fun i=>by
   by_cases h:i < len0
   ·obtain ⟨h0,h1,g0,g1⟩:=hcell i (by omega)
    obtain ⟨x,e0,_⟩:=DataW.trod_string Tryz.underlying9 g0
    simp only [List.cons.injEq,and_true] at e0
    obtain ⟨u,L,e1,hL⟩:=open_isA g1
    simp only [List.cons.injEq,and_true] at e1
    refine ⟨(x.data.toList,L),fun _=>⟨?_,u,by rw [h1,e1],hL⟩⟩
    rw [h0,e0];show some (Value.string x) = some (.string ⟨x.data.toList.toArray⟩);rw [whole_ext]
   ·exact ⟨([],[]),fun h'=>absurd h' h⟩
  obtain ⟨f,hfl⟩:=Classical.skolem.1 each
  have hL:((List.range len0).map f).length = len0:=by simp
  refine ⟨(List.range len0).map f,⟨some a,cap0,by rw [hL],by rw [hL];omega,fun j hj=>?_⟩,hle⟩
  rw [hL] at hj
  obtain ⟨h0,u,h1,h2⟩:=hfl j hj
  obtain ⟨b,off,spot⟩:=a
  have hspot:spot = none:=by simpa [Addr.add] using World.cell?_spot (hfl 0 (by omega)).1
  subst hspot
  rw [Go.WideShapes.add_plain] at h0 h1
  refine ⟨b,off,u,rfl,World.block_lt_of_cell? W _ h0,?_,?_,?_⟩
  ·rw [h0];simp
  ·rw [show off + j * 2 + 1 = off + (j * 2 + 1) from by omega,h1]
  ·simpa using IsA.isAo h2
end Go.Proofs.YtlimajgmdhhggaaGreatDoor
