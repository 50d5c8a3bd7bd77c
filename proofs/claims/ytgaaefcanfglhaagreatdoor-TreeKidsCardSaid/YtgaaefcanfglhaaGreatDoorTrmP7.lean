/- Several texts in one file: MkW. -/
import Derived.Test.YtgaaefcanfglhaaGreatDoorTrmP6
import Derived.Deep.CutRange
import Derived.Deep.CutBlock
namespace Go.Proofs.YtgaaefcanfglhaaGreatDoor
open Go.RowKit
set_option linter.unusedVariables false
def kC (ns:List UInt8) (j:Nat):Array Value:=#[.int .i64 (if 0<j then (kOf ns 0:Int) else 0),.int .i64 (if 1<j then (kOf ns 1:Int) else 0),.int .i64 (if 2<j then (kOf ns 2:Int) else 0),.int .i64 (if 3<j then (kOf ns 3:Int) else 0),.int .i64 (if 4<j then (kOf ns 4:Int) else 0),.int .i64 (if 5<j then (kOf ns 5:Int) else 0),.int .i64 (if 6<j then (kOf ns 6:Int) else 0),.int .i64 (if 7<j then (kOf ns 7:Int) else 0)]
theorem kC_step (ns:List UInt8):∀ j,j<8→(kC ns j).setIfInBounds j (.int .i64 (kOf ns j:Int))=kC ns (j+1)
 | 0,_=>rfl
 | 1,_=>rfl
 | 2,_=>rfl
 | 3,_=>rfl
 | 4,_=>rfl
 | 5,_=>rfl
 | 6,_=>rfl
 | 7,_=>rfl
theorem kOf_no {ns:List UInt8} {i:Nat} (h:ns.length≤i):kOf ns i=0:=by
 unfold kOf;rw[List.getD_eq_getElem?_getD,List.getElem?_eq_none h];rfl
theorem kC_end {ns:List UInt8} (h:ns.length≤8):kC ns ns.length=kC ns 8:=by
 have e:∀ i,i<8→(if i<ns.length then (kOf ns i:Int) else 0)=(if i<8 then (kOf ns i:Int) else 0):=fun i hi=>by
  rw[if_pos hi]
  by_cases h2:i<ns.length
  ·rw[if_pos h2]
  ·rw[if_neg h2,kOf_no (by omega)];rfl
 unfold kC;rw[e 0 (by omega),e 1 (by omega),e 2 (by omega),e 3 (by omega),e 4 (by omega),e 5 (by omega),e 6 (by omega),e 7 (by omega)]
theorem kC_at (ns:List UInt8):∀ i,i<8→(kC ns 8)[i]?=some (.int .i64 (kOf ns i:Int))
 | 0,_=>rfl
 | 1,_=>rfl
 | 2,_=>rfl
 | 3,_=>rfl
 | 4,_=>rfl
 | 5,_=>rfl
 | 6,_=>rfl
 | 7,_=>rfl
theorem mk8 (w:World):(Instr.makeSlice 43 (.int .i64 8) (.int .i64 8)).run Tryz.prog w=.ok (.slice (some ⟨w.heap.size,0,none⟩) 8 8) (w.alloc (.cells #[.int .i64 0,.int .i64 0,.int .i64 0,.int .i64 0,.int .i64 0,.int .i64 0,.int .i64 0,.int .i64 0] 3)):=by kernel_rfl
theorem kc_cell {ns:List UInt8} {W:World} {kb:Nat} (h:W.heap[kb]?=some (.cells (kC ns 8) 3 (0,0))) (i:Nat) (hi:i<8):W.cell? ⟨kb,i,none⟩=some (.int .i64 (kOf ns i:Int)):=by
 simp only[World.cell?,h];exact kC_at ns i hi
theorem kOf_lt (ns:List UInt8) (i:Nat):kOf ns i<256:=(ns.getD i 0).toNat_lt
theorem mkAt_set {B ge kb g n cap:Nat} {D:ByteArray} {P:List PT} {L:List AT} {KC:Array Value} {W:World} {j:Nat} {A':List (List UInt8)} {x:Value} (hj:j<L.length) (hjP:j<P.length) (h:MkAt B W ge D (.slice (some ⟨g,0,none⟩) n cap) P L kb KC) (hu:IsTo (StrB W) W A' x) :
  MkAt B (W.setCell ⟨g,j * 2+1,none⟩ x) ge D (.slice (some ⟨g,0,none⟩) n cap) (P.set j (P[j].1,x)) (L.set j (L[j].1,A')) kb KC:=by
 obtain ⟨h1,h2,_,_,⟨cs,hc⟩,_,_⟩:=rowP_set hj hjP h.row h.says hu;refine ⟨boxN_set h.box hc,h1,h2,(block_ne W ⟨g,_,none⟩ x fun e=>?_).trans h.nums,h.lo⟩;have hk:=h.nums;rw[show kb=g from e,hc] at hk
 cases hk
theorem per_row {w:World} {g B:Nat} {N:ByteArray} (h:PerAt w g N) (hB:B≤g):RowP B w (.slice (some ⟨g,0,none⟩) 3 3) (perRow g):=
 ⟨rfl,.inr ⟨g,3,_,rfl,hB,h.b4,Nat.le_refl _,by unfold maxLen;decide,rfl,rfl⟩⟩
def P1 (P:List PT):Prop:=∃ t vb,P[1]?=some (t,.slice (some ⟨vb,0,none⟩) 1 1)
theorem p1_app {P:List PT} (h:P1 P) (PM:List PT):P1 (P++PM):=by
 obtain ⟨t,vb,e⟩:=h;refine ⟨t,vb,?_⟩;have hl:1<P.length:=(List.getElem?_eq_some_iff.1 e).1;rw[List.getElem?_append_left hl,e]
set_option maxRecDepth 100000 in
set_option maxHeartbeats 8000000 in
theorem make_any (ns:List UInt8) (a0:Option Addr) (cp:Nat) (w:World) (h:IsB w.heap.size w ns a0 cp) :
  Calls Tryz.prog 45 #[.slice a0 ns.length cp] w fun e w'=>∃ D u,e=.returned (.agg #[.string D,u])∧D.data.toList=mkD ns∧OwnM w.heap.size w' u (mkLd ns)∧Below w.heap.size w w':=by
 obtain ⟨n,hn⟩:∃ n,n=ns.length:=⟨_,rfl⟩;rw[← hn];have hm:=h.1;rw[← hn] at hm;unfold maxLen at hm;obtain ⟨W0,hW0⟩:∃ W0,W0=w.alloc (.cells #[.string ⟨#[]⟩,.slice none 0 0] 27):=⟨_,rfl⟩;have hB0:Below w.heap.size w W0:=by rw[hW0];exact (Below.refl _ _).alloc (Nat.le_refl _) _
 have hbx:BoxN W0 w.heap.size ⟨#[]⟩ (.slice none 0 0):=by rw[hW0];exact boxN_new _ _ _
 have hz0:W0.heap.size=w.heap.size+1:=by rw[hW0];simp
 have HN:=Lib.hid hn;have HI:=Lib.hid h;have HB0:=Lib.hid hB0;have HBx:=Lib.hid hbx;have HW0:=Lib.hid hW0.symm;have HZ0:=Lib.hid hz0;clear hn h hB0 hbx hW0 hz0;have hmk:=mk8;go_enter Tryz.func45,Tryz.ntmps45
 go_upto_region 1 with (fail)
 rw[HW0.out]
 go_upto_region 2 with (fail)
 have hk0:(W0.alloc (.cells (kC ns 0) 3)).heap[W0.heap.size]?=some (.cells (kC ns 0) 3 (0,0)):=heap_alloc_new W0 _;have hbA:Below W0.heap.size W0 (W0.alloc (.cells (kC ns 0) 3)):=(Below.refl _ _).alloc (Nat.le_refl _) _;have hw:W0.alloc (.cells (kC ns 0) 3)=W0.alloc (.cells #[.int .i64 0,.int .i64 0,.int .i64 0,.int .i64 0,.int .i64 0,.int .i64 0,.int .i64 0,.int .i64 0] 3):=rfl;rw[hw] at hk0 hbA;generalize W0.alloc (.cells #[.int .i64 0,.int .i64 0,.int .i64 0,.int .i64 0,.int .i64 0,.int .i64 0,.int .i64 0,.int .i64 0] 3)=WA at hk0 hbA ⊢;clear hw hmk;obtain ⟨kb,hkb⟩:∃ k,k=W0.heap.size:=⟨_,rfl⟩;rw[← hkb] at hk0 ⊢;have HKb:=Lib.hid hkb;have hkbw:w.heap.size<kb:=by have:=HZ0.out;omega
 clear hkb;go_wp2
 go_loopw [4] (fun i wr=>∃ j:Nat,j≤n∧j≤8∧i=.int .i64 j∧Hid (wr.heap[kb]?=some (.cells (kC ns j) 3 (0,0)))∧Below W0.heap.size W0 wr) (fun i wr=>n - (intOf i).toNat)
 case atStart=>exact ⟨0,by omega,by omega,rfl,Lib.hid hk0,hbA⟩
 case round=>
  obtain ⟨j,hj,hj8,rfl,HKc,hbel⟩:=hrel;rename World=>wo;have HBr:=Lib.hid hbel;obtain ⟨go,hgo⟩:∃ b:Bool,b=decide (j<8∧j<n):=⟨_,rfl⟩
  go_upto_region 3 with (fail)
  go_cut [15] from 8 to 15 (fun s15 wx=>s15=.bool go∧wo=wx)
  case first=>
   by_cases h8:j<8
   ·have t1:decide ((j:Int)<8)=true:=by simp;omega
    by_cases hlt:j<n
    ·have t2:decide ((j:Int)<(n:Int))=true:=by simp;omega
     have e:go=true:=by rw[hgo];simp;omega
     clear hgo;subst e;go_wp2;go_meet;exact ⟨rfl,by first | rfl | trivial⟩
    ·have t2:decide ((j:Int)<(n:Int))=false:=by simp;omega
     have e:go=false:=by rw[hgo];simp;omega
     clear hgo;subst e;go_wp2;go_meet;exact ⟨rfl,by first | rfl | trivial⟩
   ·have t1:decide ((j:Int)<8)=false:=by simp;omega
    have e:go=false:=by rw[hgo];simp;omega
    clear hgo;subst e;go_wp2;go_meet;exact ⟨rfl,by first | rfl | trivial⟩
  case rest=>
   obtain ⟨rfl,rfl⟩:=hcut
   cases go with
   | true=>
    have hjj:j<8∧j<n:=by simpa using hgo.symm
    have h8:=hjj.1;have hlt:=hjj.2;have ti0:(0:Int)≤(j:Int):=by omega
    have ti1:(j:Int)<(n:Int):=by omega
    have ti2:(j:Int)<8:=by omega
    have hjl:j<ns.length:=by rw[← HN.out];exact hlt
    obtain ⟨b,off,rfl,hb0,hc0⟩:∃ b off,a0=some ⟨b,off,none⟩∧b<w.heap.size∧∀ j,(h:j<ns.length)→w.cell? ⟨b,off+j,none⟩=some (.int .u8 ns[j].toNat):=HI.out.2.resolve_left (fun e=>by rw[e] at hjl;simp at hjl);have hkj:kOf ns j=ns[j].toNat:=by unfold kOf;rw[List.getD_eq_getElem?_getD,List.getElem?_eq_getElem hjl];rfl
    have hk256:kOf ns j<256:=by rw[hkj];exact ns[j].toNat_lt
    have d0:wo.cell? ⟨b,off+j,none⟩=some (.int .u8 (kOf ns j:Int)):=by
     rw[hbel.cell (p:=⟨b,off+j,none⟩) (Nat.lt_of_lt_of_le hb0 HB0.out.size),HB0.out.cell (p:=⟨b,off+j,none⟩) hb0,hc0 j hjl,hkj]
    have hwr:IntKind.i64.wrap (kOf ns j:Int)=(kOf ns j:Int):=by rw[IntKind.wrap_i64];omega
    obtain ⟨y,hy⟩:∃ y,wo.cell? ⟨kb,j,none⟩=some y:=by
     have hs:j<(kC ns j).size:=by show j<8;exact h8
     exact ⟨_,by simp only[World.cell?,HKc.out];exact Array.getElem?_eq_getElem hs⟩
    have hf:wo.frozen? ⟨kb,j,none⟩=false:=by simp[World.frozen?,HKc.out]
    have HK2:Hid ((wo.setCell ⟨kb,j,none⟩ (.int .i64 (kOf ns j:Int))).heap[kb]?=some (.cells (kC ns (j+1)) 3 (0,0))):=Lib.hid (by
     rw[← kC_step ns j h8]
     simp[World.setCell,Array.getElem?_modify,HKc.out])
    clear hc0 hkj hk256 hbel HKc hgo;go_wp2;go_roundw
    case rel=>exact ⟨j+1,by omega,by omega,by go_num,HK2,HBr.out.setCell (p:=⟨kb,j,none⟩) (by rw[HKb.out];exact Nat.le_refl _) _⟩
    case measure=>simp[intOf];omega
   | false=>
    have HK8:Hid (wo.heap[kb]?=some (.cells (kC ns 8) 3 (0,0))):=Lib.hid (by
     have hjj:¬ (j<8∧j<n):=by simpa using hgo.symm
     by_cases h8:j<8
     ·have e:j=ns.length:=by rw[← HN.out];omega
      rw[← kC_end (by omega),← e];exact HKc.out
     ·have e:j=8:=by omega
      have:=HKc.out;rw[e] at this
      exact this)
    clear HKc hgo;have d0:=kc_cell HK8.out 0 (by omega);obtain ⟨q0,hq0⟩:∃ q,q=kOf ns 0 % 6:=⟨_,rfl⟩;have hm6:(kOf ns 0:Int) % 6=(q0:Int):=by omega
    have hdg:=fun W=>digits_any (q0:Int) (by omega) (by omega) W
    obtain ⟨X,hX⟩:∃ X,X=ofL (Lib.itoa (q0:Int)):=⟨_,rfl⟩;have hXl:X.data.toList=Lib.itoa (q0:Int):=by rw[hX,ofL_list]
    have hXs:X.size≤3:=by rw[← bytes_len,hXl];exact itoa_short ⟨q0,by omega⟩
    obtain ⟨NM,hNM⟩:∃ P,(⟨#[110]⟩:ByteArray)++X=P:=⟨_,rfl⟩;have hNl:NM.data.toList=mkN ns:=by rw[← hNM,app_list,hXl,hq0];rfl
    have hNs:NM.size≤4:=by rw[← hNM,← bytes_len,app_list,List.length_append,bytes_len,bytes_len];have:(⟨#[110]⟩:ByteArray).size=1:=rfl;omega
    have q1:1+X.size≤9223372036854775807:=by omega
    rw[← hX] at hdg;have HDg:=Lib.hid hdg;have HPe:=Lib.hid (fun W=>person_any NM (by omega) W);have HNl:=Lib.hid hNl;have HNs:=Lib.hid hNs;have HBo:=Lib.hid hbel;have hbo:=HB0.out.size;have HKs:=Lib.hid (Array.getElem?_eq_some_iff.1 HK8.out).1;have HSz:=Lib.hid (HBo.out.size);clear hX hXl hXs hNl hNs hdg hq0 hbel hbo
    go_upto_region 8 with (first
     | (go_at_call 30;refine (HDg.out _).mono ?_;rintro e w2 ⟨rfl,hb2⟩;have HB2:=Lib.hid hb2;clear hb2)
     | (go_at_call 75;refine (HPe.out _).mono ?_;rintro e w3 ⟨D3,g,rfl,hD3,hp,hg,hb3⟩;have HP:=Lib.hid hp;have HD:=Lib.hid hD3;have HG:=Lib.hid hg;have HB3:=Lib.hid (bthen HB2.out hb3);clear hD3 hg hp hb3))
    have hb7:Below w3.heap.size w3 (w3.alloc (.cells #[.string D3,.slice (some ⟨g,0,none⟩) 3 3] 27)):=(Below.refl _ _).alloc (Nat.le_refl _) _;have hx7:=boxN_new w3 D3 (.slice (some ⟨g,0,none⟩) 3 3);have hp7:=HP.out.below hb7 HP.out.lt;have hk7:=((bthen HB3.out hb7).block kb HKs.out).trans HK8.out;have hB7:=bthen (bthen HBo.out HB3.out) hb7;have hgB:W0.heap.size≤g:=by have:=HG.out;have:=HSz.out;have:=HB2.out.size;omega
    have hge:W0.heap.size≤w3.heap.size:=(bthen HBo.out HB3.out).size;generalize w3.alloc (.cells #[.string D3,.slice (some ⟨g,0,none⟩) 3 3] 27)=W7 at hb7 hx7 hp7 hk7 hB7 ⊢;obtain ⟨ge,hge2⟩:∃ x,x=w3.heap.size:=⟨_,rfl⟩;rw[← hge2] at hx7 hge ⊢;have HM:Hid (MkAt W0.heap.size W7 ge D3 (.slice (some ⟨g,0,none⟩) 3 3) (perRow g) (perL (mkN ns)) kb (kC ns 8)):=Lib.hid ⟨hx7,per_row hp7 hgB,by rw[← HNl.out];exact per_says hp7,hk7,hge⟩;have HBw:=Lib.hid hB7;have HLo:=Lib.hid hge;have d1:=kc_cell HM.out.nums 1 (by omega);clear hb7 hx7 hp7 hk7 hB7 hgB hge hge2 d0 q1 hNM
    go_upto_if 38 with (fail)
    go_cut [38] from 34 to 55 (fun s38 wx=>∃ u P,MkAt W0.heap.size wx ge D3 u P (mkLa ns) kb (kC ns 8)∧P1 P∧Below W0.heap.size W0 wx)
    case first=>
     by_cases hc:kOf ns 1 % 3=0
     ·have t1:((kOf ns 1:Int) % 3 == 0)=true:=by simp;omega
      have hk2:=kOf_lt ns 2;obtain ⟨TD,hTD⟩:∃ X,X=ofL (Lib.itoa (kOf ns 2:Int)):=⟨_,rfl⟩;have hdg:=fun W=>digits_any (kOf ns 2:Int) (by omega) (by omega) W
      rw[← hTD] at hdg;have HDg:=Lib.hid hdg;have hTs:TD.size≤3:=by rw[hTD,← bytes_len,ofL_list];exact itoa_short ⟨kOf ns 2,hk2⟩
      obtain ⟨TA,hTA⟩:∃ P,(⟨#[97,64]⟩:ByteArray)++TD=P:=⟨_,rfl⟩;have hTl:TA.data.toList=[97,64]++Lib.itoa (kOf ns 2:Int):=by rw[← hTA,app_list,hTD,ofL_list]
      have qTA:2+TD.size≤9223372036854775807:=by omega
      obtain ⟨x0,x1⟩:=HM.out.box.cells;obtain ⟨_,_,c3,f3,⟨cs3,hc3⟩,hgB,h33⟩:=rowP_set (j:=1) (A':=[]) (u:=.slice none 0 0) (show 1<(perL (mkN ns)).length from by simp[perL]) (show 1<(perRow g).length from by simp[perRow]) HM.out.row HM.out.says ⟨_,_,rfl,by unfold maxLen;simp,fun j hj=>absurd hj (by simp)⟩;clear h33;have hgl:=(Array.getElem?_eq_some_iff.1 hc3).1;have c4:W7.cell? ⟨g,3,none⟩=some (.slice (some ⟨g - 2,0,none⟩) 1 1):=c3;have f4:W7.frozen? ⟨g,3,none⟩=false:=f3;have hbA:Below W7.heap.size W7 (W7.alloc (.cells #[.string ⟨#[105,110,101,116,79,114,103,80,101,114,115,111,110]⟩] 9)):=(Below.refl _ _).alloc (Nat.le_refl _) _;have hnA:=heap_alloc_new W7 (.cells #[.string ⟨#[105,110,101,116,79,114,103,80,101,114,115,111,110]⟩] 9);have c5:(W7.alloc (.cells #[.string ⟨#[105,110,101,116,79,114,103,80,101,114,115,111,110]⟩] 9)).cell? ⟨g,3,none⟩=some (.slice (some ⟨g - 2,0,none⟩) 1 1):=(hbA.cell (p:=⟨g,3,none⟩) hgl).trans c4;have f5:(W7.alloc (.cells #[.string ⟨#[105,110,101,116,79,114,103,80,101,114,115,111,110]⟩] 9)).frozen? ⟨g,3,none⟩=false:=by
       have:=heap_alloc_old W7 (.cells #[.string ⟨#[105,110,101,116,79,114,103,80,101,114,115,111,110]⟩] 9) hgl;simp only[World.frozen?,this];simpa only[World.frozen?] using f4
      have hm9:MkAt W0.heap.size ((W7.alloc (.cells #[.string ⟨#[105,110,101,116,79,114,103,80,101,114,115,111,110]⟩] 9)).setCell ⟨g,3,none⟩ (.slice (some ⟨W7.heap.size,0,none⟩) 1 1)) ge D3 (.slice (some ⟨g,0,none⟩) 3 3) ((perRow g).set 1 ([111,98,106,101,99,116,99,108,97,115,115],.slice (some ⟨W7.heap.size,0,none⟩) 1 1)) ((perL (mkN ns)).set 1 ([111,98,106,101,99,116,99,108,97,115,115],[(⟨#[105,110,101,116,79,114,103,80,101,114,115,111,110]⟩:ByteArray).data.toList])) kb (kC ns 8):=mkAt_set (j:=1) (show 1<(perL (mkN ns)).length from by simp[perL]) (show 1<(perRow g).length from by simp[perRow]) (HM.out.go hbA) (isTo_one (X:=⟨#[105,110,101,116,79,114,103,80,101,114,115,111,110]⟩) hnA);have hb9:=(bthen HBw.out hbA).setCell (p:=⟨g,3,none⟩) hgB (.slice (some ⟨W7.heap.size,0,none⟩) 1 1);have hp9:P1 ((perRow g).set 1 ([111,98,106,101,99,116,99,108,97,115,115],.slice (some ⟨W7.heap.size,0,none⟩) 1 1)):=⟨_,_,rfl⟩;clear hTD hdg hTs c3 f3
      go_upto_region 10 with (fail)
      rw[← World.setCell_alloc_past _ _ _ _ hgl];obtain ⟨P,hP⟩:∃ P,P=(perRow g).set 1 ([111,98,106,101,99,116,99,108,97,115,115],.slice (some ⟨W7.heap.size,0,none⟩) 1 1):=⟨_,rfl⟩;obtain ⟨L,hL⟩:∃ L,L=(perL (mkN ns)).set 1 ([111,98,106,101,99,116,99,108,97,115,115],[(⟨#[105,110,101,116,79,114,103,80,101,114,115,111,110]⟩:ByteArray).data.toList]):=⟨_,rfl⟩;rw[← hP,← hL] at hm9;rw[← hP] at hp9;generalize (W7.alloc (.cells #[.string ⟨#[105,110,101,116,79,114,103,80,101,114,115,111,110]⟩] 9)).setCell ⟨g,3,none⟩ (.slice (some ⟨W7.heap.size,0,none⟩) 1 1)=W9 at hm9 hb9 ⊢;obtain ⟨u,hu⟩:∃ u,u=Value.slice (some ⟨g,0,none⟩) 3 3:=⟨_,rfl⟩;rw[← hu] at hm9;have HZ:=Lib.hid hm9.j;have HJ:=Lib.hid hb9.size;have HJ:Hid (W0.heap.size≤W9.heap.size):=Lib.hid hb9.size;have HBw:=Lib.hid hb9;have HP1:=Lib.hid hp9;have HLl:Hid (L.length≤100):=Lib.hid (by rw[hL];simp[perL]);have HLa:Hid (mkLa ns=L++[([109,97,105,108],[TA.data.toList])]):=Lib.hid (by unfold mkLa;rw[if_pos hc,hTl,hL];rfl);clear hm9 hb9 hp9 hP hL hbA hnA c4 f4 c5 f5 hc3 hgB hTl hk2;refine region_J (by kernel_rfl) W0.heap.size 9 10 (fun _ q=>FK W0.heap.size [.is (.pointer (some ⟨ge,1,none⟩)),.is (u),.is (.slice (some ⟨kb,0,none⟩) 8 8),.is (.pointer (some ⟨kb,2,none⟩)),.is (.int .i64 (kOf ns 2:Int)),.is (.string TD),.is (.string TA),.val #[.string TA] (fun b=>.slice (some ⟨b,0,none⟩) 1 1),.val #[.string TA] (fun b=>.agg #[.string ⟨#[109,97,105,108]⟩,.slice (some ⟨b,0,none⟩) 1 1]),.att [([109,97,105,108],[TA.data.toList])],.row P (L++[([109,97,105,108],[TA.data.toList])]),.is (.pointer (some ⟨ge,1,none⟩))] q) (fun _ q=>MkJ W0.heap.size ge kb D3 u P L (kC ns 8) q) (fun _ _ _ _ _ h hb=>MkJ.go h hb) HZ.out (fun _ _ _ _ _ _ _ h hb=>FK.go h hb) HJ.out (by kernel_rfl) (by kernel_rfl) (by decide) (by rfl) ?hs10 ?hx10 ?hy10 ?hl10
      case hs10=>
       intro listed a W p q hsz hj hk i o ho hi hi1 hi2 hc;have e3:=hk.read (t:=3) (by kernel_rfl) rfl;have e6:=hk.read (t:=6) (by kernel_rfl) rfl;have dk:=fun x (hx:x<8)=>kc_cell (ns:=ns) hj.2.1 x hx
       match i,hi,hi1,hi2 with
       | 0,_,_,_=>
        obtain rfl:=Option.some.inj ho;exact wpOp_val rfl rfl (v:=.pointer (some ⟨ge,1,none⟩)) (w':=W) (by simp[go_sem,e6]) ⟨_,_,rfl,rfl,Below.refl _ _,rfl⟩
       | 1,_,_,_=>
        obtain rfl:=Option.some.inj ho;obtain ⟨v0,g0,f0⟩:=hk.got (j:=0) rfl rfl (hc ⟨0,.data⟩ (by simp) rfl);obtain rfl:v0=_:=f0;have d0:=hj.1.cells.2;exact wpOp_val rfl rfl (v:=u) (w':=W) (by simp[go_sem,g0,d0]) ⟨_,_,rfl,rfl,Below.refl _ _,rfl⟩
       | 2,_,_,_=>
        obtain rfl:=Option.some.inj ho;exact wpOp_val rfl rfl (v:=.slice (some ⟨kb,0,none⟩) 8 8) (w':=W) (by simp[go_sem,e3]) ⟨_,_,rfl,rfl,Below.refl _ _,rfl⟩
       | 3,_,_,_=>
        obtain rfl:=Option.some.inj ho;obtain ⟨v2,g2,f2⟩:=hk.got (j:=2) rfl rfl (hc ⟨2,.data⟩ (by simp) rfl);obtain rfl:v2=_:=f2;exact wpOp_val rfl rfl (v:=.pointer (some ⟨kb,2,none⟩)) (w':=W) (by simp[go_sem,g2]) ⟨_,_,rfl,rfl,Below.refl _ _,rfl⟩
       | 4,_,_,_=>
        obtain rfl:=Option.some.inj ho;obtain ⟨v3,g3,f3⟩:=hk.got (j:=3) rfl rfl (hc ⟨3,.data⟩ (by simp) rfl);obtain rfl:v3=_:=f3;have d2:=dk 2 (by omega);exact wpOp_val rfl rfl (v:=.int .i64 (kOf ns 2:Int)) (w':=W) (by simp[go_sem,g3,d2]) ⟨_,_,rfl,rfl,Below.refl _ _,rfl⟩
       | 5,_,_,_=>
        obtain rfl:=Option.some.inj ho;obtain ⟨v4,g4,f4⟩:=hk.got (j:=4) rfl rfl (hc ⟨4,.data⟩ (by simp) rfl);obtain rfl:v4=_:=f4;refine wpOp_call rfl rfl (f:=30) (args:=#[.int .i64 (kOf ns 2:Int)]) (by simp[go_sem,g4]) ((HDg.out W).mono ?_);rintro e w2 ⟨rfl,hb2⟩;exact ⟨_,rfl,_,_,rfl,rfl,hb2,rfl⟩
       | 6,_,_,_=>
        obtain rfl:=Option.some.inj ho;obtain ⟨v5,g5,f5⟩:=hk.got (j:=5) rfl rfl (hc ⟨5,.data⟩ (by simp) rfl);obtain rfl:v5=_:=f5;exact wpOp_val rfl rfl (v:=.string TA) (w':=W) (by simp[go_sem,g5,hTA,qTA]) ⟨_,_,rfl,rfl,Below.refl _ _,rfl⟩
       | 7,_,_,_=>
        obtain rfl:=Option.some.inj ho;obtain ⟨v6,g6,f6⟩:=hk.got (j:=6) rfl rfl (hc ⟨6,.data⟩ (by simp) rfl);obtain rfl:v6=_:=f6;exact wpOp_val rfl rfl (v:=.slice (some ⟨W.heap.size,0,none⟩) 1 1) (w':=W.alloc (.cells #[.string TA] 9)) (by simp[go_sem,g6]) ⟨_,_,rfl,rfl,((Below.refl _ _).alloc (Nat.le_refl _) _),⟨_,rfl,heap_alloc_new W _⟩⟩
       | 8,_,_,_=>
        obtain rfl:=Option.some.inj ho;obtain ⟨v7,g7,f7⟩:=hk.got (j:=7) rfl rfl (hc ⟨7,.data⟩ (by simp) rfl);obtain ⟨b,rfl,hb⟩:=f7;exact wpOp_val rfl rfl (v:=.agg #[.string ⟨#[109,97,105,108]⟩,.slice (some ⟨b,0,none⟩) 1 1]) (w':=W) (by simp[go_sem,g7]) ⟨_,_,rfl,rfl,Below.refl _ _,⟨_,rfl,hb⟩⟩
       | 11,_,_,_=>
        obtain rfl:=Option.some.inj ho;exact wpOp_val rfl rfl (v:=.pointer (some ⟨ge,1,none⟩)) (w':=W) (by simp[go_sem,e6]) ⟨_,_,rfl,rfl,Below.refl _ _,rfl⟩
       | 9,_,h,_=>exact absurd rfl h
       | 10,_,_,h=>exact absurd rfl h
       | m+12,hm,_,_=>exact absurd hm (by simp)
      case hx10=>
       intro listed a W hsz hj hk o ho hc;obtain rfl:=Option.some.inj ho;obtain ⟨v8,g8,f8⟩:=hk.got (j:=8) rfl rfl (hc ⟨8,.data⟩ (by simp) rfl);obtain ⟨b,rfl,hb⟩:=f8;have hbl:=(Array.getElem?_eq_some_iff.1 hb).1;exact wpOp_val rfl rfl (v:=.slice (some ⟨W.heap.size,0,none⟩) 1 1) (w':=W.alloc (.cells #[.string ⟨#[109,97,105,108]⟩,.slice (some ⟨b,0,none⟩) 1 1] 60)) (by simp[go_sem,g8]) ⟨_,_,rfl,rfl,((Below.refl _ _).alloc (Nat.le_refl _) _).mono hsz,.inr ⟨W.heap.size,[(_,.slice (some ⟨b,0,none⟩) 1 1)],rfl,heap_alloc_new W _,saysM_one (X:=⟨#[109,97,105,108]⟩) ((heap_alloc_old W _ hbl).trans hb)⟩,MkJ.go hj ((Below.refl _ _).alloc (Nat.le_refl _) _),fun j u hj2 h=>FK.go h ((Below.refl _ _).alloc (Nat.le_refl _) _)⟩
      case hy10=>
       intro listed a W hsz hj hk o ho hc;obtain rfl:=Option.some.inj ho;obtain ⟨v1,g1,f1⟩:=hk.got (j:=1) rfl rfl (hc ⟨1,.data⟩ (by simp) rfl);obtain rfl:v1=_:=f1;obtain ⟨v9,g9,f9⟩:=hk.got (j:=9) rfl rfl (hc ⟨9,.data⟩ (by simp) rfl);obtain ⟨c,PM,rfl,hcc,hps⟩:=f9.resolve_left (by simp);obtain ⟨hr,hsay⟩:=hj.2.2 rfl;obtain ⟨v',w',hrun,hr',hs',hbel,hk1,hk2⟩:=run_append_P hr hsay hsz hps ⟨c,0,none⟩ 1 (fun j u hu=>by rw[addr0];exact list_cells hcc j u hu) (by have:=HLl.out;simp;omega) 25;exact wpOp_val rfl rfl (exec_append rfl (by simp[go_sem,g1]) (by simp[go_sem,g9]) hrun) ⟨_,_,rfl,rfl,hbel,⟨rfl,PM,hr',hs'⟩,MkJ.loud hj hk2,fun j u hj2 h=>FK.loud h hk1 hk2⟩
      case hl10=>
       intro listed a W hsz hj hk hall;obtain ⟨vr,gr,fr⟩:=hk.got (j:=10) rfl rfl (hall 10 (by simp));obtain ⟨vp,gp,fp⟩:=hk.got (j:=11) rfl rfl (hall 11 (by simp));obtain rfl:vp=_:=fp;obtain ⟨_,PM,hr,hs⟩:=fr;obtain ⟨sa,sc,hv⟩:=rowP_slice hr;obtain ⟨ln,hln⟩:∃ k,k=(P++PM).length:=⟨_,rfl⟩;rw[← hln] at hv;subst hv;have HLn:=Lib.hid hln;clear hln;obtain ⟨hm,c1,c2⟩:=mkAt_store hj hr hs HLo.out;have hput:=hk.puts;refine wpOp_skip rfl rfl (w':=W.setCell ⟨ge,1,none⟩ (.slice sa ln sc)) (by simp[go_sem,gr,gp,c1,c2]) ?_;rw[hput];simp only[putT];generalize a.tmps[44]?.getD undef=x44;generalize a.tmps[45]?.getD undef=x45;generalize a.tmps[46]?.getD undef=x46;generalize a.tmps[47]?.getD undef=x47;generalize a.tmps[48]?.getD undef=x48;generalize a.tmps[49]?.getD undef=x49;generalize a.tmps[50]?.getD undef=x50;generalize a.tmps[51]?.getD undef=x51;generalize a.tmps[52]?.getD undef=x52;generalize a.tmps[53]?.getD undef=x53;generalize a.tmps[54]?.getD undef=x54;generalize a.tmps[55]?.getD undef=x55;have HM:=Lib.hid hm;have HG:=Lib.hid ((HBw.out.trans hk.grown).setCell (p:=⟨ge,1,none⟩) HLo.out (.slice sa ln sc));clear hall hput gr gp hr hs c1 c2 hk hj hm;go_simp;go_wp2;go_meet;exact ⟨_,_,by rw[HLa.out];exact HM.out,p1_app HP1.out PM,HG.out⟩
     ·have t1:((kOf ns 1:Int) % 3 == 0)=false:=by simp;omega
      have HLa:Hid (mkLa ns=perL (mkN ns)):=Lib.hid (by unfold mkLa;rw[if_neg hc]);have hp9:P1 (perRow g):=⟨_,_,rfl⟩;clear hc;go_wp2;go_meet;exact ⟨_,_,by rw[HLa.out];exact HM.out,hp9,HBw.out⟩
    case rest=>
     obtain ⟨u,P,hM1,hP1,hB1⟩:=hcut;rename World=>w1;clear HM HBw d1;have d1:=kc_cell hM1.nums 1 (by omega);have d2:=kc_cell hM1.nums 2 (by omega);obtain ⟨L,hL⟩:∃ L,L=mkLa ns:=⟨_,rfl⟩;rw[← hL] at hM1;have HLl:Hid (L.length≤100):=Lib.hid (by rw[hL];unfold mkLa;split <;> simp[perL]);have HLL:=Lib.hid hL;have HM:=Lib.hid hM1;have HP1:=Lib.hid hP1;have HBw:=Lib.hid hB1;clear hL hM1 hP1 hB1
     go_upto_if 60 with (fail)
     go_cut [60] from 56 to 73 (fun s60 wx=>∃ u P,MkAt W0.heap.size wx ge D3 u P (mkLb ns) kb (kC ns 8)∧P1 P∧Below W0.heap.size W0 wx)
     case first=>
      by_cases hc:kOf ns 1 % 3=1
      ·have t1:((kOf ns 1:Int) % 3 == 1)=true:=by simp;omega
       obtain ⟨q29,hq29⟩:∃ q,q=kOf ns 2 % 9:=⟨_,rfl⟩;have hm29:(kOf ns 2:Int).tmod 9=(q29:Int):=by rw[Int.tmod_eq_emod_of_nonneg (by omega)];omega
       obtain ⟨TD,hTD⟩:∃ X,X=ofL (Lib.itoa (q29:Int)):=⟨_,rfl⟩;have hdg:=fun W=>digits_any (q29:Int) (by omega) (by omega) W
       rw[← hTD] at hdg;have HDg:=Lib.hid hdg;have hTs:TD.size≤3:=by rw[hTD,← bytes_len,ofL_list];exact itoa_short ⟨q29,by omega⟩
       obtain ⟨TA,hTA⟩:∃ P,(⟨#[100,32]⟩:ByteArray)++TD=P:=⟨_,rfl⟩;have hTl:TA.data.toList=[100,32]++Lib.itoa (q29:Int):=by rw[← hTA,app_list,hTD,ofL_list]
       have qTA:2+TD.size≤9223372036854775807:=by omega
       have HLb:Hid (mkLb ns=L++[([68,101,115,99,114,105,112,116,105,111,110],[TA.data.toList,[101]])]):=Lib.hid (by unfold mkLb;rw[if_pos hc,hTl,HLL.out,hq29]);have HZ:=Lib.hid HM.out.j;have HJ:Hid (W0.heap.size≤w1.heap.size):=Lib.hid HBw.out.size;clear hTD hdg hTs hTl hq29
       go_upto_region 12 with (fail)
       refine region_J (by kernel_rfl) W0.heap.size 10 11 (fun _ q=>FK W0.heap.size [.is (.pointer (some ⟨ge,1,none⟩)),.is (u),.is (.slice (some ⟨kb,0,none⟩) 8 8),.is (.pointer (some ⟨kb,2,none⟩)),.is (.int .i64 (kOf ns 2:Int)),.is (.int .i64 (q29:Int)),.is (.string TD),.is (.string TA),.val #[.string TA,.string ⟨#[101]⟩] (fun b=>.slice (some ⟨b,0,none⟩) 2 2),.val #[.string TA,.string ⟨#[101]⟩] (fun b=>.agg #[.string ⟨#[68,101,115,99,114,105,112,116,105,111,110]⟩,.slice (some ⟨b,0,none⟩) 2 2]),.att [([68,101,115,99,114,105,112,116,105,111,110],[TA.data.toList,[101]])],.row P (L++[([68,101,115,99,114,105,112,116,105,111,110],[TA.data.toList,[101]])]),.is (.pointer (some ⟨ge,1,none⟩))] q) (fun _ q=>MkJ W0.heap.size ge kb D3 u P L (kC ns 8) q) (fun _ _ _ _ _ h hb=>MkJ.go h hb) HZ.out (fun _ _ _ _ _ _ _ h hb=>FK.go h hb) HJ.out (by kernel_rfl) (by kernel_rfl) (by decide) (by rfl) ?hs12 ?hx12 ?hy12 ?hl12
       case hs12=>
        intro listed a W p q hsz hj hk i o ho hi hi1 hi2 hc;have e3:=hk.read (t:=3) (by kernel_rfl) rfl;have e6:=hk.read (t:=6) (by kernel_rfl) rfl;have dk:=fun x (hx:x<8)=>kc_cell (ns:=ns) hj.2.1 x hx
        match i,hi,hi1,hi2 with
        | 0,_,_,_=>
         obtain rfl:=Option.some.inj ho;exact wpOp_val rfl rfl (v:=.pointer (some ⟨ge,1,none⟩)) (w':=W) (by simp[go_sem,e6]) ⟨_,_,rfl,rfl,Below.refl _ _,rfl⟩
        | 1,_,_,_=>
         obtain rfl:=Option.some.inj ho;obtain ⟨v0,g0,f0⟩:=hk.got (j:=0) rfl rfl (hc ⟨0,.data⟩ (by simp) rfl);obtain rfl:v0=_:=f0;have d0:=hj.1.cells.2;exact wpOp_val rfl rfl (v:=u) (w':=W) (by simp[go_sem,g0,d0]) ⟨_,_,rfl,rfl,Below.refl _ _,rfl⟩
        | 2,_,_,_=>
         obtain rfl:=Option.some.inj ho;exact wpOp_val rfl rfl (v:=.slice (some ⟨kb,0,none⟩) 8 8) (w':=W) (by simp[go_sem,e3]) ⟨_,_,rfl,rfl,Below.refl _ _,rfl⟩
        | 3,_,_,_=>
         obtain rfl:=Option.some.inj ho;obtain ⟨v2,g2,f2⟩:=hk.got (j:=2) rfl rfl (hc ⟨2,.data⟩ (by simp) rfl);obtain rfl:v2=_:=f2;exact wpOp_val rfl rfl (v:=.pointer (some ⟨kb,2,none⟩)) (w':=W) (by simp[go_sem,g2]) ⟨_,_,rfl,rfl,Below.refl _ _,rfl⟩
        | 4,_,_,_=>
         obtain rfl:=Option.some.inj ho;obtain ⟨v3,g3,f3⟩:=hk.got (j:=3) rfl rfl (hc ⟨3,.data⟩ (by simp) rfl);obtain rfl:v3=_:=f3;have d2:=dk 2 (by omega);exact wpOp_val rfl rfl (v:=.int .i64 (kOf ns 2:Int)) (w':=W) (by simp[go_sem,g3,d2]) ⟨_,_,rfl,rfl,Below.refl _ _,rfl⟩
        | 5,_,_,_=>
         obtain rfl:=Option.some.inj ho;obtain ⟨v4,g4,f4⟩:=hk.got (j:=4) rfl rfl (hc ⟨4,.data⟩ (by simp) rfl);obtain rfl:v4=_:=f4;exact wpOp_val rfl rfl (v:=.int .i64 (q29:Int)) (w':=W) (by simp[go_sem,g4,hm29]) ⟨_,_,rfl,rfl,Below.refl _ _,rfl⟩
        | 6,_,_,_=>
         obtain rfl:=Option.some.inj ho;obtain ⟨v5,g5,f5⟩:=hk.got (j:=5) rfl rfl (hc ⟨5,.data⟩ (by simp) rfl);obtain rfl:v5=_:=f5;refine wpOp_call rfl rfl (f:=30) (args:=#[.int .i64 (q29:Int)]) (by simp[go_sem,g5]) ((HDg.out W).mono ?_);rintro e w2 ⟨rfl,hb2⟩;exact ⟨_,rfl,_,_,rfl,rfl,hb2,rfl⟩
        | 7,_,_,_=>
         obtain rfl:=Option.some.inj ho;obtain ⟨v6,g6,f6⟩:=hk.got (j:=6) rfl rfl (hc ⟨6,.data⟩ (by simp) rfl);obtain rfl:v6=_:=f6;exact wpOp_val rfl rfl (v:=.string TA) (w':=W) (by simp[go_sem,g6,hTA,qTA]) ⟨_,_,rfl,rfl,Below.refl _ _,rfl⟩
        | 8,_,_,_=>
         obtain rfl:=Option.some.inj ho;obtain ⟨v7,g7,f7⟩:=hk.got (j:=7) rfl rfl (hc ⟨7,.data⟩ (by simp) rfl);obtain rfl:v7=_:=f7;exact wpOp_val rfl rfl (v:=.slice (some ⟨W.heap.size,0,none⟩) 2 2) (w':=W.alloc (.cells #[.string TA,.string ⟨#[101]⟩] 9)) (by simp[go_sem,g7]) ⟨_,_,rfl,rfl,((Below.refl _ _).alloc (Nat.le_refl _) _),⟨_,rfl,heap_alloc_new W _⟩⟩
        | 9,_,_,_=>
         obtain rfl:=Option.some.inj ho;obtain ⟨v8,g8,f8⟩:=hk.got (j:=8) rfl rfl (hc ⟨8,.data⟩ (by simp) rfl);obtain ⟨b,rfl,hb⟩:=f8;exact wpOp_val rfl rfl (v:=.agg #[.string ⟨#[68,101,115,99,114,105,112,116,105,111,110]⟩,.slice (some ⟨b,0,none⟩) 2 2]) (w':=W) (by simp[go_sem,g8]) ⟨_,_,rfl,rfl,Below.refl _ _,⟨_,rfl,hb⟩⟩
        | 12,_,_,_=>
         obtain rfl:=Option.some.inj ho;exact wpOp_val rfl rfl (v:=.pointer (some ⟨ge,1,none⟩)) (w':=W) (by simp[go_sem,e6]) ⟨_,_,rfl,rfl,Below.refl _ _,rfl⟩
        | 10,_,h,_=>exact absurd rfl h
        | 11,_,_,h=>exact absurd rfl h
        | m+13,hm,_,_=>exact absurd hm (by simp)
       case hx12=>
        intro listed a W hsz hj hk o ho hc;obtain rfl:=Option.some.inj ho;obtain ⟨v9,g9,f9⟩:=hk.got (j:=9) rfl rfl (hc ⟨9,.data⟩ (by simp) rfl);obtain ⟨b,rfl,hb⟩:=f9;have hbl:=(Array.getElem?_eq_some_iff.1 hb).1;exact wpOp_val rfl rfl (v:=.slice (some ⟨W.heap.size,0,none⟩) 1 1) (w':=W.alloc (.cells #[.string ⟨#[68,101,115,99,114,105,112,116,105,111,110]⟩,.slice (some ⟨b,0,none⟩) 2 2] 60)) (by simp[go_sem,g9]) ⟨_,_,rfl,rfl,((Below.refl _ _).alloc (Nat.le_refl _) _).mono hsz,.inr ⟨W.heap.size,[(_,.slice (some ⟨b,0,none⟩) 2 2)],rfl,heap_alloc_new W _,saysM_two (X:=⟨#[68,101,115,99,114,105,112,116,105,111,110]⟩) (Z:=⟨#[101]⟩) ((heap_alloc_old W _ hbl).trans hb)⟩,MkJ.go hj ((Below.refl _ _).alloc (Nat.le_refl _) _),fun j u hj2 h=>FK.go h ((Below.refl _ _).alloc (Nat.le_refl _) _)⟩
       case hy12=>
        intro listed a W hsz hj hk o ho hc;obtain rfl:=Option.some.inj ho;obtain ⟨v1,g1,f1⟩:=hk.got (j:=1) rfl rfl (hc ⟨1,.data⟩ (by simp) rfl);obtain rfl:v1=_:=f1;obtain ⟨v10,g10,f10⟩:=hk.got (j:=10) rfl rfl (hc ⟨10,.data⟩ (by simp) rfl);obtain ⟨c,PM,rfl,hcc,hps⟩:=f10.resolve_left (by simp);obtain ⟨hr,hsay⟩:=hj.2.2 rfl;obtain ⟨v',w',hrun,hr',hs',hbel,hk1,hk2⟩:=run_append_P hr hsay hsz hps ⟨c,0,none⟩ 1 (fun j u hu=>by rw[addr0];exact list_cells hcc j u hu) (by have:=HLl.out;simp;omega) 25;exact wpOp_val rfl rfl (exec_append rfl (by simp[go_sem,g1]) (by simp[go_sem,g10]) hrun) ⟨_,_,rfl,rfl,hbel,⟨rfl,PM,hr',hs'⟩,MkJ.loud hj hk2,fun j u hj2 h=>FK.loud h hk1 hk2⟩
       case hl12=>
        intro listed a W hsz hj hk hall;obtain ⟨vr,gr,fr⟩:=hk.got (j:=11) rfl rfl (hall 11 (by simp));obtain ⟨vp,gp,fp⟩:=hk.got (j:=12) rfl rfl (hall 12 (by simp));obtain rfl:vp=_:=fp;obtain ⟨_,PM,hr,hs⟩:=fr;obtain ⟨sa,sc,hv⟩:=rowP_slice hr;obtain ⟨ln,hln⟩:∃ k,k=(P++PM).length:=⟨_,rfl⟩;rw[← hln] at hv;subst hv;have HLn:=Lib.hid hln;clear hln;obtain ⟨hm,c1,c2⟩:=mkAt_store hj hr hs HLo.out;have hput:=hk.puts;refine wpOp_skip rfl rfl (w':=W.setCell ⟨ge,1,none⟩ (.slice sa ln sc)) (by simp[go_sem,gr,gp,c1,c2]) ?_;rw[hput];simp only[putT];generalize a.tmps[61]?.getD undef=x61;generalize a.tmps[62]?.getD undef=x62;generalize a.tmps[63]?.getD undef=x63;generalize a.tmps[64]?.getD undef=x64;generalize a.tmps[65]?.getD undef=x65;generalize a.tmps[66]?.getD undef=x66;generalize a.tmps[67]?.getD undef=x67;generalize a.tmps[68]?.getD undef=x68;generalize a.tmps[69]?.getD undef=x69;generalize a.tmps[70]?.getD undef=x70;generalize a.tmps[71]?.getD undef=x71;generalize a.tmps[72]?.getD undef=x72;generalize a.tmps[73]?.getD undef=x73;have HM:=Lib.hid hm;have HG:=Lib.hid ((HBw.out.trans hk.grown).setCell (p:=⟨ge,1,none⟩) HLo.out (.slice sa ln sc));clear hall hput gr gp hr hs c1 c2 hk hj hm;go_simp;go_wp2;go_meet;exact ⟨_,_,by rw[HLb.out];exact HM.out,p1_app HP1.out PM,HG.out⟩
      ·have t1:((kOf ns 1:Int) % 3 == 1)=false:=by simp;omega
       have HLb:Hid (mkLb ns=L):=Lib.hid (by unfold mkLb;rw[if_neg hc,HLL.out]);clear hc;go_wp2;go_meet;exact ⟨_,_,by rw[HLb.out];exact HM.out,HP1.out,HBw.out⟩
     case rest=>
      obtain ⟨u,P,hM1,hP1,hB1⟩:=hcut;rename World=>w1;clear HM HBw HP1 HLl HLL d1 d2;have d3:=kc_cell hM1.nums 3 (by omega);obtain ⟨L,hL⟩:∃ L,L=mkLb ns:=⟨_,rfl⟩;rw[← hL] at hM1;have HLl:Hid (L.length≤100):=Lib.hid (by rw[hL];unfold mkLb mkLa;split <;> split <;> simp[perL]);have HLL:=Lib.hid hL;have HM:=Lib.hid hM1;have HP1:=Lib.hid hP1;have HBw:=Lib.hid hB1;clear hL hM1 hP1 hB1
      go_upto_if 78 with (fail)
      go_cut [78] from 74 to 109 (fun s78 wx=>∃ u P,MkAt W0.heap.size wx ge D3 u P (mkLc ns) kb (kC ns 8)∧Below W0.heap.size W0 wx)
      case first=>
       by_cases hc:kOf ns 3 % 4=0
       ·have t1:((kOf ns 3:Int) % 4 == 0)=true:=by simp;omega
        obtain ⟨t,vb,hPs⟩:=HP1.out;obtain ⟨X,hXs⟩:=mkLb_one ns;rw[← HLL.out] at hXs;obtain ⟨g,n2,sc,hu,tln0⟩:=row_some HM.out.row (List.getElem?_eq_some_iff.1 hPs).1;subst hu;have tln:(1:Int)<(n2:Int):=by omega
        have HPs:Hid (∃ t,P[1]?=some (t,.slice (some ⟨vb,0,none⟩) 1 1)):=Lib.hid ⟨t,hPs⟩;have HLs:=Lib.hid hXs
        have HGg:Hid (W0.heap.size≤g):=Lib.hid (by
         obtain ⟨h1,_⟩:=List.getElem?_eq_some_iff.1 hPs;obtain ⟨h2,_⟩:=List.getElem?_eq_some_iff.1 hXs
         exact (rowP_set (j:=1) (A':=[]) (u:=.slice none 0 0) h2 h1 HM.out.row HM.out.says ⟨_,_,rfl,by unfold maxLen;simp,fun j hj=>absurd hj (by simp)⟩).2.2.2.2.2.1)
        have HZ:=Lib.hid HM.out.j;have HJ:Hid (W0.heap.size≤w1.heap.size):=Lib.hid HBw.out.size;have hk4:=kOf_lt ns 4;obtain ⟨q49,hq49⟩:∃ q,q=kOf ns 4 % 9:=⟨_,rfl⟩;have hm49:(kOf ns 4:Int).tmod 9=(q49:Int):=by rw[Int.tmod_eq_emod_of_nonneg (by omega)];omega
        have hq9:q49<9:=by omega
        clear hPs hXs
        go_upto_region 14 with (fail)
        refine region_J (by kernel_rfl) W0.heap.size 7 8 (fun _ _=>FK W0.heap.size [.is (.pointer (some ⟨ge,1,none⟩)),.is (.slice (some ⟨g,0,none⟩) n2 sc),.is (.pointer (some ⟨ge,1,none⟩)),.is (.slice (some ⟨g,0,none⟩) n2 sc),.is (.pointer (some ⟨g,2,none⟩)),.is (.pointer (some ⟨g,3,none⟩)),.is (.slice (some ⟨vb,0,none⟩) 1 1),.val #[.string ⟨#[112,111,115,105,120]⟩] (fun b=>.slice (some ⟨b,0,none⟩) 1 1),.txt ([X]++[(⟨#[112,111,115,105,120]⟩:ByteArray).data.toList]),.is (.pointer (some ⟨g,2,none⟩)),.is (.pointer (some ⟨g,3,none⟩))] false) (fun _ _=>MkJ W0.heap.size ge kb D3 (.slice (some ⟨g,0,none⟩) n2 sc) P L (kC ns 8) false) (fun _ _ _ _ _ h hb=>MkJ.go h hb) HZ.out (fun _ _ _ _ _ _ _ h hb=>FK.go h hb) HJ.out (by kernel_rfl) (by kernel_rfl) (by decide) (by rfl) ?hs14 ?hx14 ?hy14 ?hl14
        case hs14=>
         intro listed a W p q hsz hj hk i o ho hi hi1 hi2 hc;have e6:=hk.read (t:=6) (by kernel_rfl) rfl
         match i,hi,hi1,hi2 with
         | 0,_,_,_=>
          obtain rfl:=Option.some.inj ho;exact wpOp_val rfl rfl (v:=.pointer (some ⟨ge,1,none⟩)) (w':=W) (by simp[go_sem,e6]) ⟨_,_,rfl,rfl,Below.refl _ _,rfl⟩
         | 1,_,_,_=>
          obtain rfl:=Option.some.inj ho;obtain ⟨v0,g0,f0⟩:=hk.got (j:=0) rfl rfl (hc ⟨0,.data⟩ (by simp) rfl);obtain rfl:v0=_:=f0;have d0:=hj.1.cells.2;exact wpOp_val rfl rfl (v:=.slice (some ⟨g,0,none⟩) n2 sc) (w':=W) (by simp[go_sem,g0,d0]) ⟨_,_,rfl,rfl,Below.refl _ _,rfl⟩
         | 2,_,_,_=>
          obtain rfl:=Option.some.inj ho;exact wpOp_val rfl rfl (v:=.pointer (some ⟨ge,1,none⟩)) (w':=W) (by simp[go_sem,e6]) ⟨_,_,rfl,rfl,Below.refl _ _,rfl⟩
         | 3,_,_,_=>
          obtain rfl:=Option.some.inj ho;obtain ⟨v2,g2,f2⟩:=hk.got (j:=2) rfl rfl (hc ⟨2,.data⟩ (by simp) rfl);obtain rfl:v2=_:=f2;have d0:=hj.1.cells.2;exact wpOp_val rfl rfl (v:=.slice (some ⟨g,0,none⟩) n2 sc) (w':=W) (by simp[go_sem,g2,d0]) ⟨_,_,rfl,rfl,Below.refl _ _,rfl⟩
         | 4,_,_,_=>
          obtain rfl:=Option.some.inj ho;obtain ⟨v3,g3,f3⟩:=hk.got (j:=3) rfl rfl (hc ⟨3,.data⟩ (by simp) rfl);obtain rfl:v3=_:=f3;exact wpOp_val rfl rfl (v:=.pointer (some ⟨g,2,none⟩)) (w':=W) (by simp[go_sem,g3,tln]) ⟨_,_,rfl,rfl,Below.refl _ _,rfl⟩
         | 5,_,_,_=>
          obtain rfl:=Option.some.inj ho;obtain ⟨v4,g4,f4⟩:=hk.got (j:=4) rfl rfl (hc ⟨4,.data⟩ (by simp) rfl);obtain rfl:v4=_:=f4;exact wpOp_val rfl rfl (v:=.pointer (some ⟨g,3,none⟩)) (w':=W) (by simp[go_sem,g4]) ⟨_,_,rfl,rfl,Below.refl _ _,rfl⟩
         | 6,_,_,_=>
          obtain rfl:=Option.some.inj ho;obtain ⟨v5,g5,f5⟩:=hk.got (j:=5) rfl rfl (hc ⟨5,.data⟩ (by simp) rfl);obtain rfl:v5=_:=f5;have c3:=(row_second (hj.2.2 rfl).1 (hj.2.2 rfl).2 HPs.out HLs.out).1;exact wpOp_val rfl rfl (v:=.slice (some ⟨vb,0,none⟩) 1 1) (w':=W) (by simp[go_sem,g5,c3]) ⟨_,_,rfl,rfl,Below.refl _ _,rfl⟩
         | 9,_,_,_=>
          obtain rfl:=Option.some.inj ho;obtain ⟨v1,g1,f1⟩:=hk.got (j:=1) rfl rfl (hc ⟨1,.data⟩ (by simp) rfl);obtain rfl:v1=_:=f1;exact wpOp_val rfl rfl (v:=.pointer (some ⟨g,2,none⟩)) (w':=W) (by simp[go_sem,g1,tln]) ⟨_,_,rfl,rfl,Below.refl _ _,rfl⟩
         | 10,_,_,_=>
          obtain rfl:=Option.some.inj ho;obtain ⟨v9,g9,f9⟩:=hk.got (j:=9) rfl rfl (hc ⟨9,.data⟩ (by simp) rfl);obtain rfl:v9=_:=f9;exact wpOp_val rfl rfl (v:=.pointer (some ⟨g,3,none⟩)) (w':=W) (by simp[go_sem,g9]) ⟨_,_,rfl,rfl,Below.refl _ _,rfl⟩
         | 7,_,h,_=>exact absurd rfl h
         | 8,_,_,h=>exact absurd rfl h
         | m+11,hm,_,_=>exact absurd hm (by simp)
        case hx14=>
         intro listed a W hsz hj hk o ho hc;obtain rfl:=Option.some.inj ho;exact wpOp_val rfl rfl (v:=.slice (some ⟨W.heap.size,0,none⟩) 1 1) (w':=W.alloc (.cells #[.string ⟨#[112,111,115,105,120]⟩] 9)) (by simp[go_sem]) ⟨_,_,rfl,rfl,((Below.refl _ _).alloc (Nat.le_refl _) _).mono hsz,⟨_,rfl,heap_alloc_new W _⟩,MkJ.go hj ((Below.refl _ _).alloc (Nat.le_refl _) _),fun j u hj2 h=>FK.go h ((Below.refl _ _).alloc (Nat.le_refl _) _)⟩
        case hy14=>
         intro listed a W hsz hj hk o ho hc;obtain rfl:=Option.some.inj ho;obtain ⟨v6,g6,f6⟩:=hk.got (j:=6) rfl rfl (hc ⟨6,.data⟩ (by simp) rfl);obtain rfl:v6=_:=f6;obtain ⟨v7,g7,f7⟩:=hk.got (j:=7) rfl rfl (hc ⟨7,.data⟩ (by simp) rfl);obtain ⟨c,rfl,hcc⟩:=f7;have ht:=(row_second (hj.2.2 rfl).1 (hj.2.2 rfl).2 HPs.out HLs.out).2.2;obtain ⟨v',w',hrun,hbel,hto⟩:=run_grow_one ht hcc 33;exact wpOp_val rfl rfl (exec_append rfl (by simp[go_sem,g6]) (by simp[go_sem,g7]) hrun) ⟨_,_,rfl,rfl,hbel.mono hsz,hto,MkJ.go hj hbel,fun j u hj2 h=>FK.go h hbel⟩
        case hl14=>
         intro listed a W hsz hj hk hall;obtain ⟨vr,gr,fr⟩:=hk.got (j:=8) rfl rfl (hall 8 (by simp));obtain ⟨vp,gp,fp⟩:=hk.got (j:=10) rfl rfl (hall 10 (by simp));obtain rfl:vp=_:=fp;obtain ⟨c3,f3,_⟩:=row_second (hj.2.2 rfl).1 (hj.2.2 rfl).2 HPs.out HLs.out;have hm0:∃ P2,MkAt W0.heap.size (W.setCell ⟨g,3,none⟩ vr) ge D3 (.slice (some ⟨g,0,none⟩) n2 sc) P2 (L.set 1 (objB,[X]++[(⟨#[112,111,115,105,120]⟩:ByteArray).data.toList])) kb (kC ns 8):=by
          obtain ⟨t,hPt⟩:=HPs.out;obtain ⟨hP1,_⟩:=List.getElem?_eq_some_iff.1 hPt;obtain ⟨hL1,eL1⟩:=List.getElem?_eq_some_iff.1 HLs.out;have:=mkAt_set (j:=1) hL1 hP1 (⟨hj.1,(hj.2.2 rfl).1,(hj.2.2 rfl).2,hj.2.1,HLo.out⟩:MkAt W0.heap.size W ge D3 (.slice (some ⟨g,0,none⟩) n2 sc) P L kb (kC ns 8)) fr;rw[eL1] at this;exact ⟨_,this⟩
         obtain ⟨P2,hm0⟩:=hm0;obtain ⟨L2,hL2⟩:∃ L2,L2=L.set 1 (objB,[X]++[(⟨#[112,111,115,105,120]⟩:ByteArray).data.toList]):=⟨_,rfl⟩;rw[← hL2] at hm0;have hvr:∃ a9 c9,vr=.slice a9 2 c9:=by
          obtain ⟨a9,c9,e9,_⟩:=(show IsTo (StrB W) W ([X]++[(⟨#[112,111,115,105,120]⟩:ByteArray).data.toList]) vr from fr);exact ⟨a9,c9,e9⟩
         obtain ⟨a9,c9,rfl⟩:=hvr;have hB9:=(HBw.out.trans hk.grown).setCell (p:=⟨g,3,none⟩) HGg.out (.slice a9 2 c9);have hput:=hk.puts;refine wpOp_skip rfl rfl (w':=W.setCell ⟨g,3,none⟩ (.slice a9 2 c9)) (by simp[go_sem,gr,gp,c3,f3]) ?_;rw[hput];simp only[putT];generalize a.tmps[79]?.getD undef=x79;generalize a.tmps[80]?.getD undef=x80;generalize a.tmps[81]?.getD undef=x81;generalize a.tmps[82]?.getD undef=x82;generalize a.tmps[83]?.getD undef=x83;generalize a.tmps[84]?.getD undef=x84;generalize a.tmps[85]?.getD undef=x85;generalize a.tmps[86]?.getD undef=x86;generalize a.tmps[87]?.getD undef=x87;generalize a.tmps[88]?.getD undef=x88;generalize a.tmps[89]?.getD undef=x89;have HM2:=Lib.hid hm0;have HB9:=Lib.hid hB9;have HL2:=Lib.hid hL2;generalize W.setCell ⟨g,3,none⟩ (.slice a9 2 c9)=w2 at HM2 HB9 ⊢;clear hall hput gr gp c3 f3 hk hj hm0 hB9 hL2 fr;go_simp
         have HLc0:Hid (mkLc ns=L2++[([117,105,100],[[117]++Lib.itoa (q49:Int)]),([117,105,100,78,117,109,98,101,114],[Lib.itoa ((kOf ns 4:Int) - 100)])]):=Lib.hid (by
          have e1:(mkLb ns).getD 1 ([],[])=(objB,[X]):=by rw[← HLL.out,List.getD_eq_getElem?_getD,HLs.out];rfl
          unfold mkLc
          rw[if_pos hc,e1,HL2.out,← HLL.out,hq49])
         have HLl2:Hid (L2.length≤100):=Lib.hid (by rw[HL2.out,List.length_set];exact HLl.out);have d4:=kc_cell HM2.out.nums 4 (by omega);clear HL2 HLs HPs HP1 HLL HLl HM HBw HZ HJ HGg;clear tln tln0;obtain ⟨u,P,L,HM,HLl,HLc0⟩:∃ u P L,Hid (MkAt W0.heap.size w2 ge D3 u P L kb (kC ns 8))∧Hid (L.length≤100)∧Hid (mkLc ns=L++[([117,105,100],[[117]++Lib.itoa (q49:Int)]),([117,105,100,78,117,109,98,101,114],[Lib.itoa ((kOf ns 4:Int) - 100)])]):=⟨_,_,_,HM2,HLl2,HLc0⟩;clear HM2 HLl2;have HBw:=HB9;obtain ⟨TD,hTD⟩:∃ X,X=ofL (Lib.itoa (q49:Int)):=⟨_,rfl⟩;have hdg:=fun W=>digits_any (q49:Int) (by omega) (by omega) W
         rw[← hTD] at hdg;have HDg:=Lib.hid hdg;have hTs:TD.size≤3:=by rw[hTD,← bytes_len,ofL_list];exact itoa_short ⟨q49,by omega⟩
         obtain ⟨TE,hTE⟩:∃ X,X=ofL (Lib.itoa ((kOf ns 4:Int) - 100)):=⟨_,rfl⟩;have hde:=fun W=>digits_any ((kOf ns 4:Int) - 100) (by omega) (by omega) W
         rw[← hTE] at hde;have HDe:=Lib.hid hde;obtain ⟨TA,hTA⟩:∃ P,(⟨#[117]⟩:ByteArray)++TD=P:=⟨_,rfl⟩;have hTl:TA.data.toList=[117]++Lib.itoa (q49:Int):=by rw[← hTA,app_list,hTD,ofL_list]
         have hTel:TE.data.toList=Lib.itoa ((kOf ns 4:Int) - 100):=by rw[hTE,ofL_list]
         have qTA:1+TD.size≤9223372036854775807:=by omega
         have HLc:Hid (mkLc ns=L++[([117,105,100],[TA.data.toList]),([117,105,100,78,117,109,98,101,114],[TE.data.toList])]):=Lib.hid (by rw[HLc0.out,hTl,hTel]);have hw100:IntKind.i64.wrap ((kOf ns 4:Int) - 100)=(kOf ns 4:Int) - 100:=by rw[IntKind.wrap_i64];omega
         have HZ:=Lib.hid HM.out.j;have HJ:Hid (W0.heap.size≤w2.heap.size):=Lib.hid HBw.out.size;clear hTD hdg hTs hTE hde hTl hTel HLc0 hq49 hc t1
         go_upto_region 15 with (fail)
         refine region_J (by kernel_rfl) W0.heap.size 17 18 (fun _ q=>FK W0.heap.size [.is (.pointer (some ⟨ge,1,none⟩)),.is (u),.is (.slice (some ⟨kb,0,none⟩) 8 8),.is (.pointer (some ⟨kb,4,none⟩)),.is (.int .i64 (kOf ns 4:Int)),.is (.int .i64 (q49:Int)),.is (.string TD),.is (.string TA),.val #[.string TA] (fun b=>.slice (some ⟨b,0,none⟩) 1 1),.val #[.string TA] (fun b=>.agg #[.string ⟨#[117,105,100]⟩,.slice (some ⟨b,0,none⟩) 1 1]),.is (.slice (some ⟨kb,0,none⟩) 8 8),.is (.pointer (some ⟨kb,4,none⟩)),.is (.int .i64 (kOf ns 4:Int)),.is (.int .i64 ((kOf ns 4:Int) - 100)),.is (.string TE),.val #[.string TE] (fun b=>.slice (some ⟨b,0,none⟩) 1 1),.val #[.string TE] (fun b=>.agg #[.string ⟨#[117,105,100,78,117,109,98,101,114]⟩,.slice (some ⟨b,0,none⟩) 1 1]),.att [([117,105,100],[TA.data.toList]),([117,105,100,78,117,109,98,101,114],[TE.data.toList])],.row P (L++[([117,105,100],[TA.data.toList]),([117,105,100,78,117,109,98,101,114],[TE.data.toList])]),.is (.pointer (some ⟨ge,1,none⟩))] q) (fun _ q=>MkJ W0.heap.size ge kb D3 u P L (kC ns 8) q) (fun _ _ _ _ _ h hb=>MkJ.go h hb) HZ.out (fun _ _ _ _ _ _ _ h hb=>FK.go h hb) HJ.out (by kernel_rfl) (by kernel_rfl) (by decide) (by rfl) ?hs15 ?hx15 ?hy15 ?hl15
         case hs15=>
          intro listed a W p q hsz hj hk i o ho hi hi1 hi2 hc;have e3:=hk.read (t:=3) (by kernel_rfl) rfl;have e6:=hk.read (t:=6) (by kernel_rfl) rfl;have dk:=fun x (hx:x<8)=>kc_cell (ns:=ns) hj.2.1 x hx
          match i,hi,hi1,hi2 with
          | 0,_,_,_=>
           obtain rfl:=Option.some.inj ho;exact wpOp_val rfl rfl (v:=.pointer (some ⟨ge,1,none⟩)) (w':=W) (by simp[go_sem,e6]) ⟨_,_,rfl,rfl,Below.refl _ _,rfl⟩
          | 1,_,_,_=>
           obtain rfl:=Option.some.inj ho;obtain ⟨v0,g0,f0⟩:=hk.got (j:=0) rfl rfl (hc ⟨0,.data⟩ (by simp) rfl);obtain rfl:v0=_:=f0;have d0:=hj.1.cells.2;exact wpOp_val rfl rfl (v:=u) (w':=W) (by simp[go_sem,g0,d0]) ⟨_,_,rfl,rfl,Below.refl _ _,rfl⟩
          | 2,_,_,_=>
           obtain rfl:=Option.some.inj ho;exact wpOp_val rfl rfl (v:=.slice (some ⟨kb,0,none⟩) 8 8) (w':=W) (by simp[go_sem,e3]) ⟨_,_,rfl,rfl,Below.refl _ _,rfl⟩
          | 3,_,_,_=>
           obtain rfl:=Option.some.inj ho;obtain ⟨v2,g2,f2⟩:=hk.got (j:=2) rfl rfl (hc ⟨2,.data⟩ (by simp) rfl);obtain rfl:v2=_:=f2;exact wpOp_val rfl rfl (v:=.pointer (some ⟨kb,4,none⟩)) (w':=W) (by simp[go_sem,g2]) ⟨_,_,rfl,rfl,Below.refl _ _,rfl⟩
          | 4,_,_,_=>
           obtain rfl:=Option.some.inj ho;obtain ⟨v3,g3,f3⟩:=hk.got (j:=3) rfl rfl (hc ⟨3,.data⟩ (by simp) rfl);obtain rfl:v3=_:=f3;have d2:=dk 4 (by omega);exact wpOp_val rfl rfl (v:=.int .i64 (kOf ns 4:Int)) (w':=W) (by simp[go_sem,g3,d2]) ⟨_,_,rfl,rfl,Below.refl _ _,rfl⟩
          | 5,_,_,_=>
           obtain rfl:=Option.some.inj ho;obtain ⟨v4,g4,f4⟩:=hk.got (j:=4) rfl rfl (hc ⟨4,.data⟩ (by simp) rfl);obtain rfl:v4=_:=f4;exact wpOp_val rfl rfl (v:=.int .i64 (q49:Int)) (w':=W) (by simp[go_sem,g4,hm49]) ⟨_,_,rfl,rfl,Below.refl _ _,rfl⟩
          | 6,_,_,_=>
           obtain rfl:=Option.some.inj ho;obtain ⟨v5,g5,f5⟩:=hk.got (j:=5) rfl rfl (hc ⟨5,.data⟩ (by simp) rfl);obtain rfl:v5=_:=f5;refine wpOp_call rfl rfl (f:=30) (args:=#[.int .i64 (q49:Int)]) (by simp[go_sem,g5]) ((HDg.out W).mono ?_);rintro e w2 ⟨rfl,hb2⟩;exact ⟨_,rfl,_,_,rfl,rfl,hb2,rfl⟩
          | 7,_,_,_=>
           obtain rfl:=Option.some.inj ho;obtain ⟨v6,g6,f6⟩:=hk.got (j:=6) rfl rfl (hc ⟨6,.data⟩ (by simp) rfl);obtain rfl:v6=_:=f6;exact wpOp_val rfl rfl (v:=.string TA) (w':=W) (by simp[go_sem,g6,hTA,qTA]) ⟨_,_,rfl,rfl,Below.refl _ _,rfl⟩
          | 8,_,_,_=>
           obtain rfl:=Option.some.inj ho;obtain ⟨v7,g7,f7⟩:=hk.got (j:=7) rfl rfl (hc ⟨7,.data⟩ (by simp) rfl);obtain rfl:v7=_:=f7;exact wpOp_val rfl rfl (v:=.slice (some ⟨W.heap.size,0,none⟩) 1 1) (w':=W.alloc (.cells #[.string TA] 9)) (by simp[go_sem,g7]) ⟨_,_,rfl,rfl,((Below.refl _ _).alloc (Nat.le_refl _) _),⟨_,rfl,heap_alloc_new W _⟩⟩
          | 9,_,_,_=>
           obtain rfl:=Option.some.inj ho;obtain ⟨v8,g8,f8⟩:=hk.got (j:=8) rfl rfl (hc ⟨8,.data⟩ (by simp) rfl);obtain ⟨b,rfl,hb⟩:=f8;exact wpOp_val rfl rfl (v:=.agg #[.string ⟨#[117,105,100]⟩,.slice (some ⟨b,0,none⟩) 1 1]) (w':=W) (by simp[go_sem,g8]) ⟨_,_,rfl,rfl,Below.refl _ _,⟨_,rfl,hb⟩⟩
          | 10,_,_,_=>
           obtain rfl:=Option.some.inj ho;exact wpOp_val rfl rfl (v:=.slice (some ⟨kb,0,none⟩) 8 8) (w':=W) (by simp[go_sem,e3]) ⟨_,_,rfl,rfl,Below.refl _ _,rfl⟩
          | 11,_,_,_=>
           obtain rfl:=Option.some.inj ho;obtain ⟨v10,g10,f10⟩:=hk.got (j:=10) rfl rfl (hc ⟨10,.data⟩ (by simp) rfl);obtain rfl:v10=_:=f10;exact wpOp_val rfl rfl (v:=.pointer (some ⟨kb,4,none⟩)) (w':=W) (by simp[go_sem,g10]) ⟨_,_,rfl,rfl,Below.refl _ _,rfl⟩
          | 12,_,_,_=>
           obtain rfl:=Option.some.inj ho;obtain ⟨v11,g11,f11⟩:=hk.got (j:=11) rfl rfl (hc ⟨11,.data⟩ (by simp) rfl);obtain rfl:v11=_:=f11;have d2:=dk 4 (by omega);exact wpOp_val rfl rfl (v:=.int .i64 (kOf ns 4:Int)) (w':=W) (by simp[go_sem,g11,d2]) ⟨_,_,rfl,rfl,Below.refl _ _,rfl⟩
          | 13,_,_,_=>
           obtain rfl:=Option.some.inj ho;obtain ⟨v12,g12,f12⟩:=hk.got (j:=12) rfl rfl (hc ⟨12,.data⟩ (by simp) rfl);obtain rfl:v12=_:=f12;exact wpOp_val rfl rfl (v:=.int .i64 ((kOf ns 4:Int) - 100)) (w':=W) (by simp[go_sem,g12,hw100]) ⟨_,_,rfl,rfl,Below.refl _ _,rfl⟩
          | 14,_,_,_=>
           obtain rfl:=Option.some.inj ho;obtain ⟨v13,g13,f13⟩:=hk.got (j:=13) rfl rfl (hc ⟨13,.data⟩ (by simp) rfl);obtain rfl:v13=_:=f13;refine wpOp_call rfl rfl (f:=30) (args:=#[.int .i64 ((kOf ns 4:Int) - 100)]) (by simp[go_sem,g13]) ((HDe.out W).mono ?_);rintro e w2 ⟨rfl,hb2⟩;exact ⟨_,rfl,_,_,rfl,rfl,hb2,rfl⟩
          | 15,_,_,_=>
           obtain rfl:=Option.some.inj ho;obtain ⟨v14,g14,f14⟩:=hk.got (j:=14) rfl rfl (hc ⟨14,.data⟩ (by simp) rfl);obtain rfl:v14=_:=f14;exact wpOp_val rfl rfl (v:=.slice (some ⟨W.heap.size,0,none⟩) 1 1) (w':=W.alloc (.cells #[.string TE] 9)) (by simp[go_sem,g14]) ⟨_,_,rfl,rfl,((Below.refl _ _).alloc (Nat.le_refl _) _),⟨_,rfl,heap_alloc_new W _⟩⟩
          | 16,_,_,_=>
           obtain rfl:=Option.some.inj ho;obtain ⟨v15,g15,f15⟩:=hk.got (j:=15) rfl rfl (hc ⟨15,.data⟩ (by simp) rfl);obtain ⟨b,rfl,hb⟩:=f15;exact wpOp_val rfl rfl (v:=.agg #[.string ⟨#[117,105,100,78,117,109,98,101,114]⟩,.slice (some ⟨b,0,none⟩) 1 1]) (w':=W) (by simp[go_sem,g15]) ⟨_,_,rfl,rfl,Below.refl _ _,⟨_,rfl,hb⟩⟩
          | 19,_,_,_=>
           obtain rfl:=Option.some.inj ho;exact wpOp_val rfl rfl (v:=.pointer (some ⟨ge,1,none⟩)) (w':=W) (by simp[go_sem,e6]) ⟨_,_,rfl,rfl,Below.refl _ _,rfl⟩
          | 17,_,h,_=>exact absurd rfl h
          | 18,_,_,h=>exact absurd rfl h
          | m+20,hm,_,_=>exact absurd hm (by simp)
         case hx15=>
          intro listed a W hsz hj hk o ho hc;obtain rfl:=Option.some.inj ho;obtain ⟨v9,g9,f9⟩:=hk.got (j:=9) rfl rfl (hc ⟨9,.data⟩ (by simp) rfl);obtain ⟨b,rfl,hb⟩:=f9;obtain ⟨v16,g16,f16⟩:=hk.got (j:=16) rfl rfl (hc ⟨16,.data⟩ (by simp) rfl);obtain ⟨b2,rfl,hb2⟩:=f16;have hbl:=(Array.getElem?_eq_some_iff.1 hb).1;have hbl2:=(Array.getElem?_eq_some_iff.1 hb2).1;exact wpOp_val rfl rfl (v:=.slice (some ⟨W.heap.size,0,none⟩) 2 2) (w':=W.alloc (.cells #[.string ⟨#[117,105,100]⟩,.slice (some ⟨b,0,none⟩) 1 1,.string ⟨#[117,105,100,78,117,109,98,101,114]⟩,.slice (some ⟨b2,0,none⟩) 1 1] 60)) (by simp[go_sem,g9,g16]) ⟨_,_,rfl,rfl,((Below.refl _ _).alloc (Nat.le_refl _) _).mono hsz,.inr ⟨W.heap.size,[(_,.slice (some ⟨b,0,none⟩) 1 1),(_,.slice (some ⟨b2,0,none⟩) 1 1)],rfl,heap_alloc_new W _,saysM_app (saysM_one (X:=⟨#[117,105,100]⟩) ((heap_alloc_old W _ hbl).trans hb)) (saysM_one (X:=⟨#[117,105,100,78,117,109,98,101,114]⟩) ((heap_alloc_old W _ hbl2).trans hb2))⟩,MkJ.go hj ((Below.refl _ _).alloc (Nat.le_refl _) _),fun j u hj2 h=>FK.go h ((Below.refl _ _).alloc (Nat.le_refl _) _)⟩
         case hy15=>
          intro listed a W hsz hj hk o ho hc;obtain rfl:=Option.some.inj ho;obtain ⟨v1,g1,f1⟩:=hk.got (j:=1) rfl rfl (hc ⟨1,.data⟩ (by simp) rfl);obtain rfl:v1=_:=f1;obtain ⟨v17,g17,f17⟩:=hk.got (j:=17) rfl rfl (hc ⟨17,.data⟩ (by simp) rfl);obtain ⟨c,PM,rfl,hcc,hps⟩:=f17.resolve_left (by simp);obtain ⟨hr,hsay⟩:=hj.2.2 rfl;obtain ⟨v',w',hrun,hr',hs',hbel,hk1,hk2⟩:=run_append_P hr hsay hsz hps ⟨c,0,none⟩ 2 (fun j u hu=>by rw[addr0];exact list_cells hcc j u hu) (by have:=HLl.out;simp;omega) 25;exact wpOp_val rfl rfl (exec_append rfl (by simp[go_sem,g1]) (by simp[go_sem,g17]) hrun) ⟨_,_,rfl,rfl,hbel,⟨rfl,PM,hr',hs'⟩,MkJ.loud hj hk2,fun j u hj2 h=>FK.loud h hk1 hk2⟩
         case hl15=>
          intro listed a W hsz hj hk hall;obtain ⟨vr,gr,fr⟩:=hk.got (j:=18) rfl rfl (hall 18 (by simp));obtain ⟨vp,gp,fp⟩:=hk.got (j:=19) rfl rfl (hall 19 (by simp));obtain rfl:vp=_:=fp;obtain ⟨_,PM,hr,hs⟩:=fr;obtain ⟨sa,sc,hv⟩:=rowP_slice hr;obtain ⟨ln,hln⟩:∃ k,k=(P++PM).length:=⟨_,rfl⟩;rw[← hln] at hv;subst hv;have HLn:=Lib.hid hln;clear hln;obtain ⟨hm,c1,c2⟩:=mkAt_store hj hr hs HLo.out;have hput:=hk.puts;refine wpOp_skip rfl rfl (w':=W.setCell ⟨ge,1,none⟩ (.slice sa ln sc)) (by simp[go_sem,gr,gp,c1,c2]) ?_;rw[hput];simp only[putT];generalize a.tmps[90]?.getD undef=x90;generalize a.tmps[91]?.getD undef=x91;generalize a.tmps[92]?.getD undef=x92;generalize a.tmps[93]?.getD undef=x93;generalize a.tmps[94]?.getD undef=x94;generalize a.tmps[95]?.getD undef=x95;generalize a.tmps[96]?.getD undef=x96;generalize a.tmps[97]?.getD undef=x97;generalize a.tmps[98]?.getD undef=x98;generalize a.tmps[99]?.getD undef=x99;generalize a.tmps[100]?.getD undef=x100;generalize a.tmps[101]?.getD undef=x101;generalize a.tmps[102]?.getD undef=x102;generalize a.tmps[103]?.getD undef=x103;generalize a.tmps[104]?.getD undef=x104;generalize a.tmps[105]?.getD undef=x105;generalize a.tmps[106]?.getD undef=x106;generalize a.tmps[107]?.getD undef=x107;generalize a.tmps[108]?.getD undef=x108;generalize a.tmps[109]?.getD undef=x109;have HM:=Lib.hid hm;have HG:=Lib.hid ((HBw.out.trans hk.grown).setCell (p:=⟨ge,1,none⟩) HLo.out (.slice sa ln sc));clear hall hput gr gp hr hs c1 c2 hk hj hm;go_simp;go_wp2;go_meet;exact ⟨_,_,by rw[HLc.out];exact HM.out,HG.out⟩
       ·have t1:((kOf ns 3:Int) % 4 == 0)=false:=by simp;omega
        have HLb:Hid (mkLc ns=L):=Lib.hid (by unfold mkLc;rw[if_neg hc,HLL.out]);clear hc;go_wp2;go_meet;exact ⟨_,_,by rw[HLb.out];exact HM.out,HBw.out⟩
      case rest=>
       obtain ⟨u,P,hM1,hB1⟩:=hcut;rename World=>w4;clear HM HBw HP1 HLl HLL d3;have d3:=kc_cell hM1.nums 3 (by omega);obtain ⟨L,hL⟩:∃ L,L=mkLc ns:=⟨_,rfl⟩;rw[← hL] at hM1;have HLl:Hid (L.length≤100):=Lib.hid (by rw[hL];unfold mkLc mkLb mkLa;split <;> split <;> split <;> simp[perL]);have HLL:=Lib.hid hL;obtain ⟨ua,uc,hu⟩:=rowP_slice hM1.row;obtain ⟨un,hun⟩:∃ k,k=P.length:=⟨_,rfl⟩;rw[← hun] at hu;subst hu;have HM:=Lib.hid hM1;have HBw:=Lib.hid hB1;clear hL hM1 hB1 hun
       go_upto_if 114 with (fail)
       go_cut [114] from 110 to 121 (fun s114 wx=>∃ u P,MkAt W0.heap.size wx ge D3 u P (mkLd ns) kb (kC ns 8)∧Below W0.heap.size W0 wx)
       case first=>
        by_cases hc:kOf ns 3 % 4=1
        ·have t1:((kOf ns 3:Int) % 4 == 1)=true:=by simp;omega
         have HLd:Hid (mkLd ns=L++[([117,115,101,114,80,97,115,115,119,111,114,100],[[115,101,99,114,101,116]])]):=Lib.hid (by unfold mkLd;rw[if_pos hc,HLL.out]);obtain ⟨x0,x1⟩:=HM.out.box.cells;have hbl:Below w4.heap.size w4 ((w4.alloc (.cells #[.string ⟨#[115,101,99,114,101,116]⟩] 9)).alloc (.cells #[.string ⟨#[117,115,101,114,80,97,115,115,119,111,114,100]⟩,.slice (some ⟨w4.heap.size,0,none⟩) 1 1] 60)):=((Below.refl _ _).alloc (Nat.le_refl _) _).alloc (by simp) _;have hse:((w4.alloc (.cells #[.string ⟨#[115,101,99,114,101,116]⟩] 9)).alloc (.cells #[.string ⟨#[117,115,101,114,80,97,115,115,119,111,114,100]⟩,.slice (some ⟨w4.heap.size,0,none⟩) 1 1] 60)).heap[w4.heap.size]?=some (.cells #[.string ⟨#[115,101,99,114,101,116]⟩] 9 (0,0)):=(heap_alloc_old _ _ (by simp)).trans (heap_alloc_new w4 _);have hat:((w4.alloc (.cells #[.string ⟨#[115,101,99,114,101,116]⟩] 9)).alloc (.cells #[.string ⟨#[117,115,101,114,80,97,115,115,119,111,114,100]⟩,.slice (some ⟨w4.heap.size,0,none⟩) 1 1] 60)).heap[w4.heap.size+1]?=some (.cells #[.string ⟨#[117,115,101,114,80,97,115,115,119,111,114,100]⟩,.slice (some ⟨w4.heap.size,0,none⟩) 1 1] 60 (0,0)):=by
          have:=heap_alloc_new (w4.alloc (.cells #[.string ⟨#[115,101,99,114,101,116]⟩] 9)) (.cells #[.string ⟨#[117,115,101,114,80,97,115,115,119,111,114,100]⟩,.slice (some ⟨w4.heap.size,0,none⟩) 1 1] 60);simpa using this
         have hM2:=HM.out.go hbl;obtain ⟨v',w5,hrun,hr',hs',hbel,hk1,hk2⟩:=run_append_P hM2.row hM2.says (Nat.le_trans HBw.out.size hbl.size) (saysM_one (X:=⟨#[117,115,101,114,80,97,115,115,119,111,114,100]⟩) hse) ⟨w4.heap.size+1,0,none⟩ 1 (cells_one hat) (by have:=HLl.out;simp;omega) 25;obtain ⟨sa,sc,hv⟩:=rowP_slice hr';obtain ⟨ln,hln⟩:∃ k,k=(P++[((⟨#[117,115,101,114,80,97,115,115,119,111,114,100]⟩:ByteArray).data.toList,Value.slice (some ⟨w4.heap.size,0,none⟩) 1 1)]).length:=⟨_,rfl⟩;rw[← hln] at hv;subst hv;obtain ⟨hm,c1,c2⟩:=mkAt_store (MkJ.loud (MkJ.go HM.out.j hbl) hk2) hr' hs' HLo.out;have HM2:=Lib.hid hm;have HB2':=Lib.hid (((HBw.out.trans (hbl.mono HBw.out.size)).trans hbel).setCell (p:=⟨ge,1,none⟩) HLo.out (.slice sa ln sc));have HRun:=Lib.hid hrun;clear hc hln hrun hr' hs' hbel hk1 hk2 hM2 hat hse hbl hm
         go_wp2_with ((at_builtin;refine Lib.wpList_append_run _ rfl _ _ _ _ rfl _ _ rfl rfl _ _ (HRun.out) ?_))
         go_meet;exact ⟨_,_,by rw[HLd.out];exact HM2.out,HB2'.out⟩
        ·have t1:((kOf ns 3:Int) % 4 == 1)=false:=by simp;omega
         have HLd:Hid (mkLd ns=L):=Lib.hid (by unfold mkLd;rw[if_neg hc,HLL.out]);clear hc;go_wp2;go_meet;exact ⟨_,_,by rw[HLd.out];exact HM.out,HBw.out⟩
       case rest=>
        obtain ⟨u,P,hM1,hB1⟩:=hcut;rename World=>w5;clear HM HBw HLl HLL d3;have d5:=kc_cell hM1.nums 5 (by omega);obtain ⟨L,hL⟩:∃ L,L=mkLd ns:=⟨_,rfl⟩;rw[← hL] at hM1;obtain ⟨ua,uc,hu⟩:=rowP_slice hM1.row;obtain ⟨un,hun⟩:∃ k,k=P.length:=⟨_,rfl⟩;rw[← hun] at hu;subst hu;have HLL:=Lib.hid hL;have HM:=Lib.hid hM1;have HBw:=Lib.hid hB1;obtain ⟨q5,hq5⟩:∃ q:Int,(kOf ns 5:Int) % 5=q:=⟨_,rfl⟩;have HQ5:=Lib.hid hq5;clear hL hM1 hB1 hun
        go_upto_block 2 with (fail)
        rw[hq5];clear hq5 d5
        go_cut [] from 126 to 136 (fun wx=>∃ D,D.data.toList=mkD ns∧MkAt W0.heap.size wx ge D (.slice ua un uc) P L kb (kC ns 8)∧Below W0.heap.size W0 wx)
        case first=>
         have hN:=HNs.out
         by_cases h0:kOf ns 5 % 5=0
         ·obtain rfl:q5=0:=by have:=HQ5.out;omega
          have q1:3+NM.size≤9223372036854775807:=by omega
          have HD4:Hid (((⟨#[99,110,61]⟩:ByteArray)++NM).data.toList=mkD ns):=Lib.hid (by unfold mkD;rw[if_pos h0,app_list,HNl.out]);obtain ⟨hm,c1,c2⟩:=mkAt_name (D2:=(⟨#[99,110,61]⟩:ByteArray)++NM) HM.out;have HM2:=Lib.hid hm;have HB2':=Lib.hid (HBw.out.setCell (p:=⟨ge,0,none⟩) HLo.out (.string ((⟨#[99,110,61]⟩:ByteArray)++NM)));clear h0 hm hN HQ5;go_wp2;go_meet;exact ⟨_,HD4.out,HM2.out,HB2'.out⟩
         ·by_cases h1:kOf ns 5 % 5=1
          ·obtain rfl:q5=1:=by have:=HQ5.out;omega
           have q1:3+NM.size≤9223372036854775807:=by omega
           have q2:3+NM.size+9≤9223372036854775807:=by omega
           have q3:(9223372036854775807<3+NM.size+9)=False:=by simp;omega
           have HD4:Hid (((⟨#[67,78,61]⟩:ByteArray)++NM++(⟨#[44,111,117,61,97,44,111,61,120]⟩:ByteArray)).data.toList=mkD ns):=Lib.hid (by unfold mkD;rw[if_neg h0,if_pos h1,app_list,app_list,HNl.out]);obtain ⟨hm,c1,c2⟩:=mkAt_name (D2:=(⟨#[67,78,61]⟩:ByteArray)++NM++(⟨#[44,111,117,61,97,44,111,61,120]⟩:ByteArray)) HM.out;have HM2:=Lib.hid hm;have HB2':=Lib.hid (HBw.out.setCell (p:=⟨ge,0,none⟩) HLo.out (.string ((⟨#[67,78,61]⟩:ByteArray)++NM++(⟨#[44,111,117,61,97,44,111,61,120]⟩:ByteArray))));clear h0 h1 hm hN HQ5;go_wp2;go_meet;exact ⟨_,HD4.out,HM2.out,HB2'.out⟩
          ·have t0:(q5 == 0)=false:=by simp;have:=HQ5.out;omega
           have t1:(q5 == 1)=false:=by simp;have:=HQ5.out;omega
           have HD4:Hid (D3.data.toList=mkD ns):=Lib.hid (by unfold mkD;rw[if_neg h0,if_neg h1,HD.out,HNl.out]);clear h0 h1 hN HQ5;go_wp2;go_meet;exact ⟨_,HD4.out,HM.out,HBw.out⟩
        case rest=>
         obtain ⟨D4,hD4,hM1,hB1⟩:=hcut;rename World=>w6;obtain ⟨x0,x1⟩:=hM1.box.cells;have hc6:w6.heap[w.heap.size]?=some (.cells #[.string ⟨#[]⟩,.slice none 0 0] 27 (0,0)):=(hB1.block _ (by have:=HZ0.out;omega)).trans HBx.out;obtain ⟨o0,o1,o2,o3⟩:=entry_new hc6 (.string D4);have hbw:Below w.heap.size w w6:=HB0.out.trans (hB1.mono HB0.out.size);have hmt:=mAt_store (D:=D4) hbw hc6 (Nat.le_refl _) (⟨P,World.ownsRow.mono hM1.row HB0.out.size,hM1.says⟩:OwnM w.heap.size w6 (.slice ua un uc) L);have HMt:=Lib.hid hmt;have HD4:=Lib.hid hD4;obtain ⟨z0,z1⟩:=hmt.box.cells;clear hD4 hM1 hB1 hc6 hbw hmt HM HBw;go_wp2;refine bodyPost_ret (v:=.agg #[.string D4,.slice ua un uc]) (by simp[results,Tryz.results45,go_sem,z0,z1]) rfl ⟨D4,_,rfl,HD4.out,?_,HMt.out.below⟩;rw[← HLL.out];exact HMt.out.own
end Go.Proofs.YtgaaefcanfglhaaGreatDoor
