/- Several texts in one file: TrIdx, EnSame, EnSameW, EnSameR, EnSrtW, EnNrmW, TrAsk. -/
import Derived.Test.YtgaaefcanfglhaaGreatDoorTrmP11
import Derived.Test.YtgaaefcanfglhaaGreatDoorTrmP1
import Derived.Test.YtgaaefcanfglhaaGreatDoorTrmP5
import Derived.Test.YtgaaefcanfglhaaGreatDoorTrmP8
import Derived.Laws.OwnMore
import Derived.RegionTactic
import Derived.Deep.Cut
import Derived.Deep.RegionLaw
import Derived.Test.YtgaaefcanfglhaaGreatDoorTrmP4
namespace Go.Proofs.YtgaaefcanfglhaaGreatDoor
open Go.RowKit Go.Maps
set_option linter.unusedVariables false
structure Made (b:Nat) (w:World) (lv:Value) (KS:List KL) (kv mv:Value):Prop where
 box:BoxX w b lv 1 0 kv mv
 fill:∃ B,b<B∧B≤w.heap.size∧FillAt B w kv mv KS
def Idx (b:Nat) (w:World) (lv:Value) (KS:List KL):Prop:=BoxX w b lv 0 0 (.slice none 0 0) (.map none)∨∃ kv mv,Made b w lv KS kv mv
theorem Made.below {b:Nat} {w w':World} {lv kv mv:Value} {KS:List KL} (h:Made b w lv KS kv mv) (hb:Below w.heap.size w w'):Made b w' lv KS kv mv:=by
 obtain ⟨B,h1,h2,h3⟩:=h.fill;exact ⟨h.box.below hb,B,h1,Nat.le_trans h2 hb.size,h3.below hb⟩
theorem Idx.lt {b:Nat} {w:World} {lv:Value} {KS:List KL} (h:Idx b w lv KS):b<w.heap.size:=by
 rcases h with h | ⟨kv,mv,h⟩
 ·exact h.lt
 ·exact h.box.lt
theorem Made.isT {b:Nat} {w:World} {lv kv mv:Value} {KS:List KL} (h:Made b w lv KS kv mv) (hl:KS.length≤maxLen):IsT w.heap.size w KS kv:=by
 obtain ⟨B,_,_,h3⟩:=h.fill;exact ownS_isT h3.keys hl
theorem doX_any (L:List ET) (hs:smallE L) (b:Nat) (lv:Value) (w:World) (hx:Idx b w lv (keysE L)) (h:IsE b w L lv) :
  Calls Tryz.prog 64 #[.pointer (some ⟨b,1,none⟩),.func (.func 65) #[.pointer (some ⟨b,0,none⟩)] #[]] w fun e w'=>e=.returned (.tuple #[])∧∃ kv mv,Made b w' lv (keysE L) kv mv∧w.grownBy w' (some b):=by
 rcases hx with hbx | ⟨kv,mv,hm⟩
 ·have hbl:=hbx.lt;refine (doX_first b lv (fun w' kv mv=>FillAt w.heap.size w' kv mv (keysE L)) w hbx (fun w1 hb1 hg1 hz1=>?_)).mono ?_
  ·have:=fill_any L hs b lv w1 hb1 (h.below (below_ofGrown hg1 (by omega)) (Nat.le_refl _));rw[hz1] at this;exact this
  ·rintro e w' ⟨rfl,w3,kv,mv,rfl,hb3,hf3,hg3⟩;refine ⟨rfl,kv,mv,⟨hb3.drew.set1.set2,w.heap.size,hbl,?_,?_⟩,?_⟩
   ·have:=hg3.size;simpa [World.setCell] using this
   ·exact ((hf3.drew).kept (grown_set _) hbl).kept (grown_set _) hbl
   ·exact ((grown_drew hg3).trans (grown_set _)).trans (grown_set _)
 ·refine (doX_done ⟨b,1,none⟩ _ w hm.box.cells.2.1).mono ?_;rintro e w' ⟨rfl,rfl⟩;exact ⟨rfl,kv,mv,hm,World.grownBy.refl _ _⟩
set_option maxRecDepth 100000 in
set_option maxHeartbeats 2000000 in
theorem all_any (L:List ET) (hs:smallE L) (b:Nat) (lv:Value) (w:World) (hx:Idx b w lv (keysE L)) (h:IsE b w L lv) :
  Calls Tryz.prog 38 #[.pointer (some ⟨b,0,none⟩)] w fun e w'=>∃ kv mv,e=.returned kv∧Made b w' lv (keysE L) kv mv∧w.grownBy w' (some b):=by
 have HD:=Lib.hid (doX_any L hs b lv w hx h);have hmf:∀ (fn:Go.Fn) (first cap:Array Value) (w:World),(Instr.makeFunc fn first cap).run Tryz.prog w=.ok (.func fn first cap) w:=fun _ _ _ _=>rfl
 clear hx h;go_enter Tryz.func38,Tryz.ntmps38
 go_wp2_with (go_at_call 64;refine (HD.out).mono ?_;rintro e w2 ⟨rfl,kv,mv,hm,hg⟩;have g4:=hm.box.cells.2.2.2.1;have HM:=Lib.hid hm;have HG:=Lib.hid hg;clear hm hg)
 go_ret;exact ⟨kv,mv,rfl,HM.out,HG.out⟩
set_option maxRecDepth 100000 in
set_option maxHeartbeats 2000000 in
theorem place_gen (KS:List KL) (R:World→Prop) (b:Nat) (lv:Value) (K:ByteArray) (hK:K.size≤100000) (w:World)
  (hd:Calls Tryz.prog 64 #[.pointer (some ⟨b,1,none⟩),.func (.func 65) #[.pointer (some ⟨b,0,none⟩)] #[]] w fun e w'=>e=.returned (.tuple #[])∧∃ kv mv,Made b w' lv KS kv mv∧R w') :
  Calls Tryz.prog 37 #[.pointer (some ⟨b,0,none⟩),.string K] w fun e w'=>e=.returned (.int .i64 (findK KS K.data.toList))∧∃ kv mv,Made b w' lv KS kv mv∧R w':=by
 have HD:=Lib.hid hd;have hmf:∀ (fn:Go.Fn) (first cap:Array Value) (w:World),(Instr.makeFunc fn first cap).run Tryz.prog w=.ok (.func fn first cap) w:=fun _ _ _ _=>rfl
 have HLit:=Lib.hid (keyLit K (by unfold maxLen;omega));obtain ⟨k,hk⟩:∃ k,K.data.toList=k:=⟨_,rfl⟩;rw[hk] at HLit;obtain ⟨I,hI⟩:∃ I,findK KS K.data.toList=I:=⟨_,rfl⟩;rw[hI];rw[hk] at hI;have HI:=Lib.hid hI;clear hd hk hI;go_enter Tryz.func37,Tryz.ntmps37
 go_upto_region 2 with (go_at_call 64;refine (HD.out).mono ?_;rintro e w2 ⟨rfl,kv,mv,hm,hg⟩;have HM:=Lib.hid hm;have HG:=Lib.hid hg;clear hm hg)
 obtain ⟨_,_,_,g4,g5⟩:=HM.out.box.cells;obtain ⟨B,hB1,hB2,hfl⟩:=HM.out.fill;obtain ⟨m,n,D,hmv,hmB,hn,hown,hpl⟩:=hfl.map;subst hmv;have hhas:=(hpl.2 k).1;have HAt:=Lib.hid (hpl.2 k).2;have HOwn:=Lib.hid hown;have HNo:=Lib.hid hpl;clear hfl hpl hown
 by_cases hc:(KS.contains k && !k.isEmpty)=true
 ·rw[hc] at hhas;obtain ⟨hc1,hc2⟩:=Bool.and_eq_true_iff.1 hc;have hne:k≠[]:=by rintro rfl;simp at hc2
  obtain ⟨i,hi,e,_⟩:=idxK_some (KS:=KS) (k:=k) (by simpa using hc1);have hfind:I=(i:Int):=by
   rw[← HI.out];unfold findK;rw[if_neg hne,e]
  have HF:=Lib.hid hfind;have hat:=HAt.out i e hne (.lit (.int .i64 0));have HA:=Lib.hid hat;clear hat hfind e hc hc1 hc2 hne
  go_wp2_with (at_lookup;refine wpList_lookup_own_ok_int _ rfl _ _ 81 rfl 9 3 .i64 mapLaw Tryz.underlying81 Tryz.underlying3 (zeroInt _) m n D rfl HOwn.out _ _ rfl HLit.out ?_;intro cc hat2 hwc;(obtain rfl:cc=(i:Int):=by { have:=hat2.symm.trans HA.out;injection this with this;injection this });clear hat2 hwc)
  go_ret;exact ⟨by rw[HF.out];rfl,_,_,HM.out,HG.out⟩
 ·have hc':(KS.contains k && !k.isEmpty)=false:=by simpa using hc
  rw[hc'] at hhas;have hfind:I = -1:=by
   rw[← HI.out];unfold findK
   split
   ·rfl
   ·rename_i hne
    exact idxK_no (fun hm=>by
     have:k.isEmpty=false:=by cases k <;> simp_all
     simp[hm,this] at hc')
  have HF:=Lib.hid hfind;clear hfind hc hc'
  go_wp2_with (at_lookup;refine wpList_lookup_own_ok_int _ rfl _ _ 81 rfl 9 3 .i64 mapLaw Tryz.underlying81 Tryz.underlying3 (zeroInt _) m n D rfl HOwn.out _ _ rfl HLit.out ?_;intro cc hat2 hwc;clear hat2 hwc)
  go_ret;exact ⟨by rw[HF.out];rfl,_,_,HM.out,HG.out⟩
theorem place_any (L:List ET) (hs:smallE L) (b:Nat) (lv:Value) (K:ByteArray) (hK:K.size≤100000) (w:World) (hx:Idx b w lv (keysE L)) (h:IsE b w L lv) :
  Calls Tryz.prog 37 #[.pointer (some ⟨b,0,none⟩),.string K] w fun e w'=>e=.returned (.int .i64 (findK (keysE L) K.data.toList))∧∃ kv mv,Made b w' lv (keysE L) kv mv∧w.grownBy w' (some b):=
 place_gen (keysE L) (fun w'=>w.grownBy w' (some b)) b lv K hK w (doX_any L hs b lv w hx h)
theorem place_made (KS:List KL) (b:Nat) (lv kv mv:Value) (K:ByteArray) (hK:K.size≤100000) (w:World) (hm:Made b w lv KS kv mv) :
  Calls Tryz.prog 37 #[.pointer (some ⟨b,0,none⟩),.string K] w fun e w'=>e=.returned (.int .i64 (findK KS K.data.toList))∧w=w':=
 (place_gen KS (fun w'=>w'=w) b lv K hK w ((doX_done ⟨b,1,none⟩ _ w hm.box.cells.2.1).mono fun e w' h=>by obtain ⟨rfl,rfl⟩:=h;exact ⟨rfl,kv,mv,hm,rfl⟩)).mono fun e w' h=>by obtain ⟨rfl,_,_,_,rfl⟩:=h;exact ⟨rfl,rfl⟩
set_option maxRecDepth 100000 in
set_option maxHeartbeats 2000000 in
theorem aboveQ_any (X Y:ByteArray) (b o:Nat) (w:World) (hc:w.cell? ⟨b,o,none⟩=some (.string Y)) :
  Calls Tryz.prog 69 #[.string X,.pointer (some ⟨b,o,none⟩)] w fun e w'=>e=.returned (.bool (gtB X.data.toList Y.data.toList))∧w=w':=by
 go_enter Tryz.func69,Tryz.ntmps69
 go_wp2;go_ret;exact ⟨by unfold gtB;rw[← ByteArray.toList_eq,← ByteArray.toList_eq];rfl,rfl⟩
def idxG (L:List KL) (y:KL):Int:=match L.findIdx? (fun x=>gtB x y) with
 | some k=>(k:Int)
 | none=>-1
theorem idxG_at {L:List KL} {y:KL} (j:Nat) (hj:j<L.length) (h:∀ k (hk:k<L.length),k<j→gtB L[k] y=false) (he:gtB L[j] y=true):idxG L y=j:=by
 have:L.findIdx? (fun x=>gtB x y)=some j:=by
  rw[List.findIdx?_eq_some_iff_getElem];exact ⟨hj,he,fun k hk=>by simpa using h k (by omega) hk⟩
 unfold idxG;rw[this]
theorem idxG_no {L:List KL} {y:KL} (h:∀ k (hk:k<L.length),gtB L[k] y=false):idxG L y = -1:=by
 have:L.findIdx? (fun x=>gtB x y)=none:=by
  rw[List.findIdx?_eq_none_iff];intro x hx;obtain ⟨k,hk,rfl⟩:=List.getElem_of_mem hx;exact h k hk
 unfold idxG;rw[this]
theorem aboveK_idx (L:List KL) (y:KL):(aboveK L y:Int)=if idxG L y<0 then (L.length:Int) else idxG L y:=by
 unfold aboveK idxG
 cases h:L.findIdx? (fun x=>gtB x y) with
 | none=>simp
 | some k=>rw[if_neg (by simp)];rfl
theorem aboveK_le (L:List KL) (y:KL):aboveK L y≤L.length:=by
 unfold aboveK
 cases h:L.findIdx? (fun x=>gtB x y) with
 | none=>simp
 | some k=>
  rw[List.findIdx?_eq_some_iff_getElem] at h;obtain ⟨hk,_⟩:=h;simp;omega
set_option maxRecDepth 100000 in
set_option maxHeartbeats 2000000 in
theorem indexK_any (L:List KL) (hs:L.length≤1000000) (v:Value) (Y:ByteArray) (pb po:Nat) (w:World) (h:IsT w.heap.size w L v) (hc:w.cell? ⟨pb,po,none⟩=some (.string Y)) :
  Calls Tryz.prog 68 #[v,.func (.func 69) #[] #[.pointer (some ⟨pb,po,none⟩)]] w fun e w'=>e=.returned (.int .i64 (idxG L Y.data.toList))∧w=w':=by
 obtain ⟨a,c,rfl,hm,hcell⟩:=h;unfold maxLen at hm;have HC:=Lib.hid hcell;have HY:=Lib.hid hc;obtain ⟨I,hI⟩:∃ I,idxG L Y.data.toList=I:=⟨_,rfl⟩;rw[hI];have HI:=Lib.hid hI;clear hcell hc hI;go_enter Tryz.func68,Tryz.ntmps68
 go_wp2
 go_loopw [8] (fun i wr=>∃ j:Nat,j≤L.length∧i=.int .i64 j∧Hid (∀ k (hk:k<L.length),k<j→gtB L[k] Y.data.toList=false)∧w=wr) (fun i wr=>L.length - (intOf i).toNat)
 case atStart=>exact ⟨0,by omega,rfl,Lib.hid (fun k _ h=>absurd h (by omega)),rfl⟩
 case round=>
  obtain ⟨j,hj,rfl,HNo,rfl⟩:=hrel
  by_cases hlt:j<L.length
  ·have t1:decide ((j:Int)<(L.length:Int))=true:=by simp;omega
   have t1':decide (j<L.length)=true:=by simpa using hlt
   obtain ⟨b,off,rfl,hb0,c0⟩:=HC.out j hlt;obtain ⟨X,hX⟩:∃ X:ByteArray,⟨L[j].toArray⟩=X:=⟨_,rfl⟩;have hXl:X.data.toList=L[j]:=by rw[← hX]
   have d0:(w.cell? ⟨b,off+j,none⟩)=some (.string X):=by
    rw[c0,← hX];rfl
   have hab:=aboveQ_any X Y pb po w HY.out;rw[hXl] at hab;obtain ⟨g,hg⟩:∃ g,gtB L[j] Y.data.toList=g:=⟨_,rfl⟩;rw[hg] at hab;have HAb:=Lib.hid hab;have HG:=Lib.hid hg;clear hX hXl c0 hab hg
   cases g with
   | true=>
    have HR:=Lib.hid (HI.out.symm.trans (idxG_at j hlt HNo.out HG.out))
    go_wp2_with (go_at_call 69;refine (HAb.out).mono ?_;rintro e w2 ⟨rfl,rfl⟩)
    go_ret;exact ⟨by rw[HR.out];rfl,rfl⟩
   | false=>
    have HN:Hid (∀ k (hk:k<L.length),k<j+1→gtB L[k] Y.data.toList=false):=Lib.hid (fun k h1 h3=>by
      by_cases hk:k<j
      ·exact HNo.out k h1 hk
      ·obtain rfl:k=j:=by omega
       exact HG.out)
    go_wp2_with (go_at_call 69;refine (HAb.out).mono ?_;rintro e w2 ⟨rfl,rfl⟩)
    go_roundw
    case rel=>exact ⟨j+1,by omega,by go_num,HN,by first | rfl | trivial⟩
    case measure=>simp[intOf];omega
  ·obtain rfl:j=L.length:=by omega
   have t1:decide ((L.length:Int)<(L.length:Int))=false:=by simp
   have t1':decide (L.length<L.length)=false:=by simp
   have HR:=Lib.hid (HI.out.symm.trans (idxG_no (fun k hk=>HNo.out k hk hk)));go_wp2;go_ret;exact ⟨by rw[HR.out];rfl,rfl⟩
theorem IsE.keep {n:Nat} {w w':World} {L:List ET} {v:Value} (h:IsE n w L v) (hb:Below n w w'):IsE n w' L v:=h.below hb (Nat.le_refl _)
set_option maxRecDepth 100000 in
set_option maxHeartbeats 2000000 in
theorem aboveX_any (L:List ET) (hs:smallE L) (b:Nat) (lv:Value) (K:ByteArray) (w:World) (hx:Idx b w lv (keysE L)) (h:IsE b w L lv) :
  Calls Tryz.prog 40 #[.pointer (some ⟨b,0,none⟩),.string K] w fun e w'=>e=.returned (.int .i64 (aboveK (keysE L) K.data.toList))∧∃ kv mv,Made b w' lv (keysE L) kv mv∧w.grownBy w' (some b):=by
 have hbl:=hx.lt;obtain ⟨la,lc,hlv⟩:=IsE.sl h;have HMf:Hid (∀ (fn:Go.Fn) (first cap:Array Value) (w:World),(Instr.makeFunc fn first cap).run Tryz.prog w=.ok (.func fn first cap) w):=Lib.hid (fun _ _ _ _=>rfl);have hmf:=HMf.out;obtain ⟨W,hW⟩:∃ W,W=w.alloc (.cells #[.string K] 9):=⟨_,rfl⟩;have hbW:Below w.heap.size w W:=by rw[hW];exact (Below.refl _ _).alloc (Nat.le_refl _) _
 have hk:W.cell? ⟨w.heap.size,0,none⟩=some (.string K):=by rw[hW];simp
 have hzW:W.heap.size=w.heap.size+1:=by rw[hW];simp
 have hxW:Idx b W lv (keysE L):=by
  rcases hx with hx | ⟨kv,mv,hx⟩
  ·exact .inl (hx.below hbW)
  ·exact .inr ⟨kv,mv,hx.below hbW⟩
 have HD:=Lib.hid (all_any L hs b lv W hxW (h.below (hbW.mono (by omega)) (Nat.le_refl _)));have HbW:=Lib.hid hbW;have hl:=hs.1;obtain ⟨I,hI⟩:∃ I,I=idxG (keysE L) K.data.toList:=⟨_,rfl⟩;have hA:=aboveK_idx (keysE L) K.data.toList;rw[← hI] at hA;obtain ⟨A,hA0⟩:∃ A:Int,A=(aboveK (keysE L) K.data.toList:Int):=⟨_,rfl⟩;rw[← hA0] at hA ⊢;rw[keysE_len] at hA;clear hA0;have HI:=Lib.hid hI;have HW:=Lib.hid hW;have HK:=Lib.hid hk;have HZ:=Lib.hid hzW;clear hx hxW hbW hI hk hW hzW;go_enter Tryz.func40,Tryz.ntmps40
 go_upto_region 1 with (fail)
 rw[← HW.out];clear HW
 go_upto_region 2 with (first
  | (go_at_call 38;refine (HD.out).mono ?_;rintro e w2 ⟨kv,mv,rfl,hm,hg⟩;have HM:=Lib.hid hm;have HG:=Lib.hid hg;have HT:=Lib.hid (hm.isT (by rw[keysE_len];unfold maxLen;omega));(obtain ⟨ka,kc,hkv,_⟩:=HT.out);have HK2:=Lib.hid (hg.cell HK.out (fun e=>by have:=Option.some.inj e;simp at this;omega));clear hm hg;subst hkv)
  | (go_at_call 68;refine (indexK_any (keysE L) (by rw[keysE_len];omega) _ K w.heap.size 0 _ HT.out HK2.out).mono ?_;rw[← HI.out];rintro e w3 ⟨rfl,rfl⟩))
 have HEnd:Hid (∃ kv mv,Made b w2 lv (keysE L) kv mv∧w.grownBy w2 (some b)):=Lib.hid ⟨_,_,HM.out,(grown_below HbW.out).trans HG.out⟩;have g0:=HM.out.box.cells.1
 by_cases hneg:I<0
 ·rw[if_pos hneg] at hA;have t1:decide (I<0)=true:=by simpa using hneg
  subst hlv;subst hA;clear hneg;go_wp2;go_ret;exact ⟨rfl,HEnd.out⟩
 ·rw[if_neg hneg] at hA;have t1:decide (I<0)=false:=by simpa using hneg
  subst hA;clear hneg;go_wp2;go_ret;exact ⟨rfl,HEnd.out⟩
end Go.Proofs.YtgaaefcanfglhaaGreatDoor
namespace Go.Proofs.YtgaaefcanfglhaaGreatDoor
open Go.RowKit
set_option linter.unusedVariables false
set_option maxRecDepth 100000 in
set_option maxHeartbeats 2000000 in
theorem textsRef_q (L M:List (List UInt8)) (hs:L.length≤1000000) (v u:Value) (w:World) (hL:IsT w.heap.size w L v) (hM:IsT w.heap.size w M u) :
  Calls Tryz.prog 14 #[v,u] w fun e w'=>e=.returned (.bool (L == M))∧∃ m,w'=w.drewN m:=by
 obtain ⟨a,c,rfl,hm,hcell⟩:=hL;obtain ⟨b,d,rfl,hm2,hcell2⟩:=hM;unfold maxLen at hm hm2;have HC:=Lib.hid hcell;have HD:=Lib.hid hcell2;obtain ⟨R,hR⟩:∃ R,R=(L == M):=⟨_,rfl⟩;rw[← hR];have HR:=Lib.hid hR;clear hcell hcell2 hR
 by_cases hlen:L.length=M.length
 ·have t0:((L.length:Int) != (M.length:Int))=false:=by simp[hlen]
  have t0':((M.length:Int) != (M.length:Int))=false:=by simp
  obtain ⟨n,hn⟩:∃ n,n=L.length:=⟨_,rfl⟩;have hn2:n=M.length:=hn.trans hlen;have HN:=Lib.hid hn;have HN2:=Lib.hid hn2;have hn5:n≤1000000:=by omega
  rw[← hn,← hn2];clear t0 t0' hlen hn hn2 hm hm2 hs;go_enter Tryz.func14,Tryz.ntmps14
  go_wp2
  go_loopw [5] (fun i wr=>∃ j:Nat,j≤n∧i=.int .i64 j∧Hid (∀ k (h1:k<L.length) (h2:k<M.length),k<j→L[k]=M[k])∧∃ q,wr=w.drewN q) (fun i wr=>n - (intOf i).toNat)
  case atStart=>exact ⟨0,by omega,rfl,Lib.hid (fun k _ _ h=>absurd h (by omega)),0,rfl⟩
  case round=>
   obtain ⟨j,hj,rfl,HAll,q,rfl⟩:=hrel
   by_cases hlt:j<n
   ·have t1:decide ((j:Int)<(n:Int))=true:=by simp;omega
    have t1':decide (j<n)=true:=by simpa using hlt
    have q1:(j:Int)<(n:Int):=by omega
    have hl1:j<L.length:=by rw[← HN.out];exact hlt
    have hl2:j<M.length:=by rw[← HN2.out];exact hlt
    obtain ⟨b1,f1,rfl,hb1,x0⟩:=HC.out j hl1;obtain ⟨b2,f2,rfl,hb2,y0⟩:=HD.out j hl2;obtain ⟨X,hX⟩:∃ X:ByteArray,ofL L[j]=X:=⟨_,rfl⟩;obtain ⟨Y,hY⟩:∃ Y:ByteArray,ofL M[j]=Y:=⟨_,rfl⟩;have gX:X.data.toList=L[j]:=by rw[← hX,ofL_list]
    have gY:Y.data.toList=M[j]:=by rw[← hY,ofL_list]
    have d0:w.cell? ⟨b1,f1+j,none⟩=some (.string X):=by rw[x0,← hX];rfl
    have d1:w.cell? ⟨b2,f2+j,none⟩=some (.string Y):=by rw[y0,← hY];rfl
    have GX:=Lib.hid gX;have GY:=Lib.hid gY;clear x0 y0 hX hY gX gY
    by_cases he:X=Y
    ·subst he
     have HN1:Hid (∀ k (h1:k<L.length) (h2:k<M.length),k<j+1→L[k]=M[k]):=Lib.hid (fun k h1 h2 h3=>by
      by_cases hk:k<j
      ·exact HAll.out k h1 h2 hk
      ·obtain rfl:k=j:=by omega
       rw[← GX.out,← GY.out])
     clear GX GY hl1 hl2;go_wp2
     go_quiet (fail)
     go_wp2;go_roundw
     case rel=>exact ⟨j+1,by omega,by go_num,HN1,_,rfl⟩
     case measure=>simp[intOf];omega
    ·have t2:=str_ne he
     have HF:Hid (R=false):=Lib.hid (HR.out.trans (by
      have:L≠M:=fun e=>by
       subst e;exact he (bytes_ext (by rw[GX.out,GY.out]))
      simpa using this))
     clear GX GY he hl1 hl2;go_wp2
     go_quiet (fail)
     go_wp2;go_ret;exact ⟨by rw[HF.out];rfl,_,World.drewN_drewN ..⟩
   ·obtain rfl:j=n:=by omega
    have t1:decide ((j:Int)<(j:Int))=false:=by simp
    have t1':decide (j<j)=false:=by simp
    have HF:Hid (R=true):=Lib.hid (HR.out.trans (by
     have:L=M:=List.ext_getElem (by rw[← HN.out,← HN2.out]) (fun k h1 h2=>HAll.out k h1 h2 (by rw[HN.out];exact h1))
     simp[this]))
    go_wp2;go_ret;exact ⟨by rw[HF.out];rfl,_,rfl⟩
 ·have t0:((L.length:Int) != (M.length:Int))=true:=by simp;omega
  have HF:Hid (R=false):=Lib.hid (HR.out.trans (by
   have:L≠M:=fun e=>hlen (by rw[e])
   simpa using this))
  clear hlen;go_enter Tryz.func14,Tryz.ntmps14
  go_wp2;go_ret;exact ⟨by rw[HF.out];rfl,0,rfl⟩
set_option maxRecDepth 100000 in
set_option maxHeartbeats 2000000 in
theorem equalT_any (L M:List (List UInt8)) (hs:L.length≤1000000) (v u:Value) (w:World) (hL:IsT w.heap.size w L v) (hM:IsT w.heap.size w M u) :
  Calls Tryz.prog 115 #[v,u] w fun e w'=>e=.returned (.bool (L == M))∧Below w.heap.size w w':=by
 obtain ⟨a,c,rfl,hm,hcell⟩:=hL;obtain ⟨b,d,rfl,hm2,hcell2⟩:=hM;unfold maxLen at hm hm2;have HC:=Lib.hid hcell;have HD:=Lib.hid hcell2;obtain ⟨R,hR⟩:∃ R,R=(L == M):=⟨_,rfl⟩;rw[← hR];have HR:=Lib.hid hR;clear hcell hcell2 hR
 by_cases hlen:L.length=M.length
 ·have t0:((L.length:Int) != (M.length:Int))=false:=by simp[hlen]
  have t0':((M.length:Int) != (M.length:Int))=false:=by simp
  obtain ⟨n,hn⟩:∃ n,n=L.length:=⟨_,rfl⟩;have hn2:n=M.length:=hn.trans hlen;have HN:=Lib.hid hn;have HN2:=Lib.hid hn2;have hn5:n≤1000000:=by omega
  rw[← hn,← hn2];clear t0 t0' hlen hn hn2 hm hm2 hs;go_enter Tryz.func115,Tryz.ntmps115
  go_wp2
  go_loopw [13] (fun i wr=>∃ j:Nat,j≤n∧i=.int .i64 j∧Hid (∀ k (h1:k<L.length) (h2:k<M.length),k<j→L[k]=M[k])∧Below w.heap.size w wr) (fun i wr=>n - (intOf i).toNat)
  case atStart=>exact ⟨0,by omega,rfl,Lib.hid (fun k _ _ h=>absurd h (by omega)),Below.refl _ _⟩
  case round=>
   obtain ⟨j,hj,rfl,HAll,hbel⟩:=hrel;have HBel:=Lib.hid hbel
   by_cases hlt:j<n
   ·have t1:decide ((j:Int)<(n:Int))=true:=by simp;omega
    have t1':decide (j<n)=true:=by simpa using hlt
    have q1:(j:Int)<(n:Int):=by omega
    have hl1:j<L.length:=by rw[← HN.out];exact hlt
    have hl2:j<M.length:=by rw[← HN2.out];exact hlt
    obtain ⟨b1,f1,rfl,hb1,x0⟩:=HC.out j hl1;obtain ⟨b2,f2,rfl,hb2,y0⟩:=HD.out j hl2;obtain ⟨X,hX⟩:∃ X:ByteArray,ofL L[j]=X:=⟨_,rfl⟩;obtain ⟨Y,hY⟩:∃ Y:ByteArray,ofL M[j]=Y:=⟨_,rfl⟩;have gX:X.data.toList=L[j]:=by rw[← hX,ofL_list]
    have gY:Y.data.toList=M[j]:=by rw[← hY,ofL_list]
    have d0:wr.cell? ⟨b1,f1+j,none⟩=some (.string X):=by rw[hbel.cell (p:=⟨b1,_,none⟩) hb1,x0,← hX];rfl
    have d1:wr.cell? ⟨b2,f2+j,none⟩=some (.string Y):=by rw[hbel.cell (p:=⟨b2,_,none⟩) hb2,y0,← hY];rfl
    have GX:=Lib.hid gX;have GY:=Lib.hid gY;clear x0 y0 hX hY gX gY hbel
    by_cases he:X=Y
    ·subst he
     have HN1:Hid (∀ k (h1:k<L.length) (h2:k<M.length),k<j+1→L[k]=M[k]):=Lib.hid (fun k h1 h2 h3=>by
      by_cases hk:k<j
      ·exact HAll.out k h1 h2 hk
      ·obtain rfl:k=j:=by omega
       rw[← GX.out,← GY.out])
     clear GX GY hl1 hl2;go_wp2
     go_quiet (fail)
     go_wp2;go_roundw
     case rel=>exact ⟨j+1,by omega,by go_num,HN1,below_drewN HBel.out _⟩
     case measure=>simp[intOf];omega
    ·have t2:=str_ne he
     have HF:Hid (R=false):=Lib.hid (HR.out.trans (by
      have:L≠M:=fun e=>by
       subst e;exact he (bytes_ext (by rw[GX.out,GY.out]))
      simpa using this))
     clear GX GY he hl1 hl2;go_wp2
     go_quiet (fail)
     go_wp2;go_ret;exact ⟨by rw[HF.out];rfl,below_drewN HBel.out _⟩
   ·obtain rfl:j=n:=by omega
    have t1:decide ((j:Int)<(j:Int))=false:=by simp
    have t1':decide (j<j)=false:=by simp
    have HF:Hid (R=true):=Lib.hid (HR.out.trans (by
     have:L=M:=List.ext_getElem (by rw[← HN.out,← HN2.out]) (fun k h1 h2=>HAll.out k h1 h2 (by rw[HN.out];exact h1))
     simp[this]))
    clear hbel;go_wp2;go_ret;exact ⟨by rw[HF.out];rfl,HBel.out⟩
 ·have t0:((L.length:Int) != (M.length:Int))=true:=by simp;omega
  have HF:Hid (R=false):=Lib.hid (HR.out.trans (by
   have:L≠M:=fun e=>hlen (by rw[e])
   simpa using this))
  clear hlen;go_enter Tryz.func115,Tryz.ntmps115
  go_wp2;go_ret;exact ⟨by rw[HF.out];rfl,Below.refl _ _⟩
end Go.Proofs.YtgaaefcanfglhaaGreatDoor
namespace Go.Proofs.YtgaaefcanfglhaaGreatDoor
open Go.RowKit
set_option linter.unusedVariables false
theorem IsT.sl {n:Nat} {w:World} {L:List (List UInt8)} {v:Value} (h:IsT n w L v):∃ a k c,v=.slice a k c:=by
 obtain ⟨a,c,hv,_⟩:=h;exact ⟨a,_,c,hv⟩
theorem IsA.sl {n:Nat} {w:World} {L:List AT} {v:Value} (h:IsA n w L v):∃ a k c,v=.slice a k c:=by
 obtain ⟨a,c,hv,_⟩:=h;exact ⟨a,_,c,hv⟩
set_option maxRecDepth 100000 in
set_option maxHeartbeats 2000000 in
theorem sameAttr_any (X Y:ByteArray) (A B:List (List UInt8)) (u v:Value) (hs:A.length≤1000000) (w:World) (hu:IsT w.heap.size w A u) (hv:IsT w.heap.size w B v) :
  Calls Tryz.prog 77 #[.agg #[.string X,u],.agg #[.string Y,v]] w fun e w'=>e=.returned (.bool ((X.data.toList,A) == (Y.data.toList,B)))∧Below w.heap.size w w':=by
 obtain ⟨ua,un,uc,rfl⟩:=hu.sl;obtain ⟨va,vn,vc,rfl⟩:=hv.sl;have hb:Below w.heap.size w ((w.alloc (.cells #[.string X,.slice ua un uc] 60)).alloc (.cells #[.string Y,.slice va vn vc] 60)):=((Below.refl _ _).alloc (Nat.le_refl _) _).alloc (by simp) _;have HB:=Lib.hid hb;have HU:=Lib.hid hu;have HV:=Lib.hid hv;obtain ⟨R,hR⟩:∃ R,R=((X.data.toList,A) == (Y.data.toList,B)):=⟨_,rfl⟩;rw[← hR];have HR:=Lib.hid hR;clear hb hu hv hR
 by_cases he:X=Y
 ·subst he;obtain ⟨g,hg⟩:∃ g,g=(A == B):=⟨_,rfl⟩;have HF:Hid (R=g):=Lib.hid (HR.out.trans (by rw[hg];show (X.data.toList == X.data.toList && A == B)=_;simp));have HG:=Lib.hid hg;clear hg;go_enter Tryz.func77,Tryz.ntmps77
  go_wp2_with (go_at_call 115;refine (equalT_any A B hs (.slice ua un uc) (.slice va vn vc) _ (HU.out.below HB.out HB.out.size) (HV.out.below HB.out HB.out.size)).mono ?_;rintro e w2 ⟨he,hb2⟩;rw[← HG.out] at he;subst he;have HB2:=Lib.hid (HB.out.trans (hb2.mono HB.out.size));clear hb2)
  go_ret;exact ⟨by rw[HF.out];rfl,HB2.out⟩
 ·have t1:=str_ne he
  have HF:Hid (R=false):=Lib.hid (HR.out.trans (by
   show (X.data.toList == Y.data.toList && A == B)=false
   have:(X.data.toList == Y.data.toList)=false:=by
    have:X.data.toList≠Y.data.toList:=fun e=>he (bytes_ext e)
    simpa using this
   rw[this];rfl))
  clear he;go_enter Tryz.func77,Tryz.ntmps77
  go_wp2;go_ret;exact ⟨by rw[HF.out];rfl,HB.out⟩
set_option maxRecDepth 100000 in
set_option maxHeartbeats 4000000 in
theorem equalA_any (L M:List AT) (hs:smallA L) (v u:Value) (w:World) (hL:IsA w.heap.size w L v) (hM:IsA w.heap.size w M u) :
  Calls Tryz.prog 76 #[v,u,.func (.func 77) #[] #[]] w fun e w'=>e=.returned (.bool (L == M))∧Below w.heap.size w w':=by
 obtain ⟨a,c,rfl,hm,hcell⟩:=hL;obtain ⟨b,d,rfl,hm2,hcell2⟩:=hM;unfold maxLen at hm hm2;have HC:=Lib.hid hcell;have HD:=Lib.hid hcell2;obtain ⟨R,hR⟩:∃ R,R=(L == M):=⟨_,rfl⟩;rw[← hR];have HR:=Lib.hid hR;have HS:=Lib.hid hs;clear hcell hcell2 hR
 by_cases hlen:L.length=M.length
 ·obtain ⟨n,hn⟩:∃ n,n=L.length:=⟨_,rfl⟩;have hn2:n=M.length:=hn.trans hlen;have HN:=Lib.hid hn;have HN2:=Lib.hid hn2;have hn5:n≤1000000:=by have:=hs.1;omega
  rw[← hn,← hn2];clear hlen hn hn2 hm hm2 hs;go_enter Tryz.func76,Tryz.ntmps76
  go_wp2
  go_loopw [17] (fun i wr=>∃ j:Nat,j≤n∧i=.int .i64 j∧Hid (∀ k (h1:k<L.length) (h2:k<M.length),k<j→L[k]=M[k])∧Below w.heap.size w wr) (fun i wr=>n - (intOf i).toNat)
  case atStart=>exact ⟨0,by omega,rfl,Lib.hid (fun k _ _ h=>absurd h (by omega)),Below.refl _ _⟩
  case round=>
   obtain ⟨j,hj,rfl,HAll,hbel⟩:=hrel;have HBel:=Lib.hid hbel;have hbs:=hbel.size
   by_cases hlt:j<n
   ·have t1:decide ((j:Int)<(n:Int))=true:=by simp;omega
    have t1':decide (j<n)=true:=by simpa using hlt
    have q1:(j:Int)<(n:Int):=by omega
    have hl1:j<L.length:=by rw[← HN.out];exact hlt
    have hl2:j<M.length:=by rw[← HN2.out];exact hlt
    obtain ⟨b1,f1,x,rfl,hb1,x0,x1,hx⟩:=HC.out j hl1;obtain ⟨b2,f2,y,rfl,hb2,y0,y1,hy⟩:=HD.out j hl2;obtain ⟨xa,xn,xc,rfl⟩:=hx.sl;obtain ⟨ya,yn,yc,rfl⟩:=hy.sl;obtain ⟨X,hX⟩:∃ X:ByteArray,ofL L[j].1=X:=⟨_,rfl⟩;obtain ⟨Y,hY⟩:∃ Y:ByteArray,ofL M[j].1=Y:=⟨_,rfl⟩;have gX:X.data.toList=L[j].1:=by rw[← hX,ofL_list]
    have gY:Y.data.toList=M[j].1:=by rw[← hY,ofL_list]
    have d0:wr.cell? ⟨b1,f1+j * 2,none⟩=some (.string X):=by rw[hbel.cell (p:=⟨b1,_,none⟩) hb1,x0,← hX];rfl
    have d1:=(hbel.cell (p:=⟨b1,f1+j * 2+1,none⟩) hb1).trans x1;have hal:Below wr.heap.size wr (wr.alloc (.cells #[.string X,.slice xa xn xc] 60)):=(Below.refl _ _).alloc (Nat.le_refl _) _;have e0:(wr.alloc (.cells #[.string X,.slice xa xn xc] 60)).cell? ⟨b2,f2+j * 2,none⟩=some (.string Y):=by rw[hal.cell (p:=⟨b2,_,none⟩) (Nat.lt_of_lt_of_le hb2 hbs),hbel.cell (p:=⟨b2,_,none⟩) hb2,y0,← hY];rfl
    have e1:(wr.alloc (.cells #[.string X,.slice xa xn xc] 60)).cell? ⟨b2,f2+j * 2+1,none⟩=some (.slice ya yn yc):=by rw[hal.cell (p:=⟨b2,_,none⟩) (Nat.lt_of_lt_of_le hb2 hbs),hbel.cell (p:=⟨b2,_,none⟩) hb2,y1]
    have h0:((wr.alloc (.cells #[.string X,.slice xa xn xc] 60)).alloc (.cells #[.string Y,.slice ya yn yc] 60)).cell? ⟨wr.heap.size,0,none⟩=some (.string X):=by rw[World.cell?_alloc_lt _ _ _ (by simp)];simp
    have h1:((wr.alloc (.cells #[.string X,.slice xa xn xc] 60)).alloc (.cells #[.string Y,.slice ya yn yc] 60)).cell? ⟨wr.heap.size,1,none⟩=some (.slice xa xn xc):=by rw[World.cell?_alloc_lt _ _ _ (by simp)];simp
    have hb2':Below wr.heap.size wr ((wr.alloc (.cells #[.string X,.slice xa xn xc] 60)).alloc (.cells #[.string Y,.slice ya yn yc] 60)):=hal.alloc (by simp) _;have HBB:=Lib.hid (HBel.out.trans (hb2'.mono hbs));have hsa:=sameAttr_any X Y L[j].2 M[j].2 (.slice xa xn xc) (.slice ya yn yc) (by have:=(HS.out.2 L[j] (List.getElem_mem _)).2.1;omega) _ (hx.below HBB.out HBB.out.size) (hy.below HBB.out HBB.out.size);rw[gX,gY] at hsa;obtain ⟨g,hg⟩:∃ g,g=((L[j].1,L[j].2) == (M[j].1,M[j].2)):=⟨_,rfl⟩;rw[← hg] at hsa;have HSa:=Lib.hid hsa;have hgl:g=(L[j] == M[j]):=hg
    cases g with
    | true=>
     have heq:L[j]=M[j]:=by simpa using hgl.symm
     have HN1:Hid (∀ k (h1:k<L.length) (h2:k<M.length),k<j+1→L[k]=M[k]):=Lib.hid (fun k h1 h2 h3=>by
      by_cases hk:k<j
      ·exact HAll.out k h1 h2 hk
      ·obtain rfl:k=j:=by omega
       exact heq)
     clear heq hgl hg hsa x0 x1 y0 y1 hX hY gX gY hbel hal hb2' hx hy hl1 hl2
     go_wp2_with (go_at_call 77;refine (HSa.out).mono ?_;rintro e w2 ⟨rfl,hb2⟩;have HB2:=Lib.hid (HBB.out.trans (hb2.mono HBB.out.size));clear hb2)
     go_roundw
     case rel=>exact ⟨j+1,by omega,by go_num,HN1,HB2.out⟩
     case measure=>simp[intOf];omega
    | false=>
     have hne:L[j]≠M[j]:=by simpa using hgl.symm
     have HF:Hid (R=false):=Lib.hid (HR.out.trans (by
      have:L≠M:=fun e=>by subst e;exact hne rfl
      simpa using this))
     clear hne hgl hg hsa x0 x1 y0 y1 hX hY gX gY hbel hal hb2' hx hy hl1 hl2
     go_wp2_with (go_at_call 77;refine (HSa.out).mono ?_;rintro e w2 ⟨rfl,hb2⟩;have HB2:=Lib.hid (HBB.out.trans (hb2.mono HBB.out.size));clear hb2)
     go_ret;exact ⟨by rw[HF.out];rfl,HB2.out⟩
   ·obtain rfl:j=n:=by omega
    have t1:decide ((j:Int)<(j:Int))=false:=by simp
    have t1':decide (j<j)=false:=by simp
    have HF:Hid (R=true):=Lib.hid (HR.out.trans (by
     have:L=M:=List.ext_getElem (by rw[← HN.out,← HN2.out]) (fun k h1 h2=>HAll.out k h1 h2 (by rw[HN.out];exact h1))
     simp[this]))
    clear hbel;go_wp2;go_ret;exact ⟨by rw[HF.out];rfl,HBel.out⟩
 ·have t0:((L.length:Int) != (M.length:Int))=true:=by simp;omega
  have HF:Hid (R=false):=Lib.hid (HR.out.trans (by
   have:L≠M:=fun e=>hlen (by rw[e])
   simpa using this))
  clear hlen;go_enter Tryz.func76,Tryz.ntmps76
  go_wp2;go_ret;exact ⟨by rw[HF.out];rfl,Below.refl _ _⟩
end Go.Proofs.YtgaaefcanfglhaaGreatDoor
namespace Go.Proofs.YtgaaefcanfglhaaGreatDoor
open Go.RowKit
set_option linter.unusedVariables false
theorem boxes2 (w:World) (d e:ByteArray) (x y:Value):((w.alloc (.cells #[.string d,x] 27)).alloc (.cells #[.string e,y] 27)).cell? ⟨w.heap.size,0,none⟩=some (.string d)∧((w.alloc (.cells #[.string d,x] 27)).alloc (.cells #[.string e,y] 27)).cell? ⟨w.heap.size,1,none⟩=some x ∧
  ((w.alloc (.cells #[.string d,x] 27)).alloc (.cells #[.string e,y] 27)).cell? ⟨w.heap.size+1,0,none⟩=some (.string e)∧((w.alloc (.cells #[.string d,x] 27)).alloc (.cells #[.string e,y] 27)).cell? ⟨w.heap.size+1,1,none⟩=some y:=by
 refine ⟨?_,?_,?_,?_⟩
 ·rw[World.cell?_alloc_lt _ _ _ (by simp)];simp
 ·rw[World.cell?_alloc_lt _ _ _ (by simp)];simp
 ·simp
 ·simp
set_option maxRecDepth 100000 in
set_option maxHeartbeats 2000000 in
theorem same_entry (d e:ByteArray) (L M:List AT) (hs:smallA L) (v u:Value) (w:World) (hL:IsA w.heap.size w L v) (hM:IsA w.heap.size w M u) :
  Calls Tryz.prog 47 #[.agg #[.string d,v],.agg #[.string e,u]] w fun r w'=>r=.returned (.bool ((d.data.toList,L) == (e.data.toList,M)))∧Below w.heap.size w w':=by
 obtain ⟨ua,un,uc,rfl⟩:=hL.sl;obtain ⟨va,vn,vc,rfl⟩:=hM.sl;have hb:Below w.heap.size w ((w.alloc (.cells #[.string d,.slice ua un uc] 27)).alloc (.cells #[.string e,.slice va vn vc] 27)):=((Below.refl _ _).alloc (Nat.le_refl _) _).alloc (by simp) _;have HB:=Lib.hid hb;have HU:=Lib.hid hL;have HV:=Lib.hid hM;obtain ⟨R,hR⟩:∃ R,R=((d.data.toList,L) == (e.data.toList,M)):=⟨_,rfl⟩;rw[← hR];have HR:=Lib.hid hR;obtain ⟨b0,b1,b2,b3⟩:=boxes2 w d e (.slice ua un uc) (.slice va vn vc);clear hb hL hM hR
 by_cases he:d=e
 ·subst he;obtain ⟨g,hg⟩:∃ g,g=(L == M):=⟨_,rfl⟩;have HF:Hid (R=g):=Lib.hid (HR.out.trans (by rw[hg];show (d.data.toList == d.data.toList && L == M)=_;simp));have HG:=Lib.hid hg;clear hg;go_enter Tryz.func47,Tryz.ntmps47
  go_wp2_with (go_at_call 76;refine (equalA_any L M hs (.slice ua un uc) (.slice va vn vc) _ (HU.out.below HB.out HB.out.size) (HV.out.below HB.out HB.out.size)).mono ?_;rintro e w2 ⟨he,hb2⟩;rw[← HG.out] at he;subst he;have HB2:=Lib.hid (HB.out.trans (hb2.mono HB.out.size));clear hb2)
  go_ret;exact ⟨by rw[HF.out];rfl,HB2.out⟩
 ·have t1:=str_ne he
  have HF:Hid (R=false):=Lib.hid (HR.out.trans (by
   show (d.data.toList == e.data.toList && L == M)=false
   have:(d.data.toList == e.data.toList)=false:=by
    have:d.data.toList≠e.data.toList:=fun x=>he (bytes_ext x)
    simpa using this
   rw[this];rfl))
  clear he;go_enter Tryz.func47,Tryz.ntmps47
  go_wp2;go_ret;exact ⟨by rw[HF.out];rfl,HB.out⟩
set_option maxRecDepth 100000 in
set_option maxHeartbeats 8000000 in
theorem sameRef_entry (d e:ByteArray) (L M:List AT) (hs:smallA L) (v u:Value) (w:World) (hL:IsA w.heap.size w L v) (hM:IsA w.heap.size w M u) :
  Calls Tryz.prog 24 #[.agg #[.string d,v],.agg #[.string e,u]] w fun r w'=>r=.returned (.bool ((d.data.toList,L) == (e.data.toList,M)))∧Below w.heap.size w w':=by
 obtain ⟨ua,uc,hu,hum,_⟩:=id hL;obtain ⟨va,vc,hv,hvm,_⟩:=id hM;obtain ⟨un,hun⟩:∃ n,n=L.length:=⟨_,rfl⟩;obtain ⟨vn,hvn⟩:∃ n,n=M.length:=⟨_,rfl⟩;rw[← hun] at hu hum;rw[← hvn] at hv hvm;unfold maxLen at hum hvm;subst hu hv;have hb:Below w.heap.size w ((w.alloc (.cells #[.string d,.slice ua un uc] 27)).alloc (.cells #[.string e,.slice va vn vc] 27)):=((Below.refl _ _).alloc (Nat.le_refl _) _).alloc (by simp) _;have HB:=Lib.hid hb;have hLW:=hL.below hb hb.size;have hMW:=hM.below hb hb.size;obtain ⟨R,hR⟩:∃ R,R=((d.data.toList,L) == (e.data.toList,M)):=⟨_,rfl⟩;rw[← hR];have HR:=Lib.hid hR;obtain ⟨b0,b1,b2,b3⟩:=boxes2 w d e (.slice ua un uc) (.slice va vn vc);have HS:=Lib.hid hs;have hn5:un≤1000000:=by have:=hs.1;omega
 have HUn:=Lib.hid hun;have HVn:=Lib.hid hvn;have HL:=Lib.hid hLW;have HM:=Lib.hid hMW;clear hb hL hM hR hs hun hvn hLW hMW
 by_cases he:d≠e
 ·have t1:=str_ne he
  have HF:Hid (R=false):=Lib.hid (HR.out.trans (by
   show (d.data.toList == e.data.toList && L == M)=false
   have:(d.data.toList == e.data.toList)=false:=by
    have:d.data.toList≠e.data.toList:=fun x=>he (bytes_ext x)
    simpa using this
   rw[this];rfl))
  clear he;go_enter Tryz.func24,Tryz.ntmps24
  go_wp2;go_ret;exact ⟨by rw[HF.out];rfl,HB.out⟩
 have he:=Classical.not_not.1 he;subst he
 by_cases hlen:un≠vn
 ·have t0:((un:Int) != (vn:Int))=true:=by simp;omega
  have HF:Hid (R=false):=Lib.hid (HR.out.trans (by
   have:L≠M:=fun x=>hlen (by rw[HUn.out,HVn.out,x])
   have h2:(L == M)=false:=by simpa using this
   show (d.data.toList == d.data.toList && L == M)=false
   rw[h2];simp))
  clear hlen;go_enter Tryz.func24,Tryz.ntmps24
  go_wp2;go_ret;exact ⟨by rw[HF.out];rfl,HB.out⟩
 have hlen:=Classical.not_not.1 hlen;subst hlen;have HR2:Hid (R=(L == M)):=Lib.hid (HR.out.trans (by show (d.data.toList == d.data.toList && L == M)=_;simp));clear HR;go_enter Tryz.func24,Tryz.ntmps24
 go_wp2;generalize ((w.alloc (.cells #[.string d,.slice ua un uc] 27)).alloc (.cells #[.string d,.slice va un vc] 27))=W at b0 b1 b2 b3 HB HL HM ⊢
 go_loopw [5] (fun i wr=>∃ j:Nat,j≤un∧i=.int .i64 j∧Hid (∀ k (h1:k<L.length) (h2:k<M.length),k<j→L[k]=M[k])∧∃ q,wr=W.drewN q) (fun i wr=>un - (intOf i).toNat)
 case atStart=>exact ⟨0,by omega,rfl,Lib.hid (fun k _ _ h=>absurd h (by omega)),0,rfl⟩
 case round=>
  obtain ⟨j,hj,rfl,HAll,hq⟩:=hrel;have HQ:=Lib.hid hq;have hcl:∀ b o,wr.cell? ⟨b,o,none⟩=W.cell? ⟨b,o,none⟩:=fun b o=>by obtain ⟨q,rfl⟩:=hq;rfl
  have c0:=(hcl _ _).trans b0;have c1:=(hcl _ _).trans b1;have c2:=(hcl _ _).trans b2;have c3:=(hcl _ _).trans b3;have HLr:Hid (IsA wr.heap.size wr L (.slice ua un uc)):=Lib.hid (by obtain ⟨q,rfl⟩:=hq;exact HL.out);have HMr:Hid (IsA wr.heap.size wr M (.slice va un vc)):=Lib.hid (by obtain ⟨q,rfl⟩:=hq;exact HM.out);have HBr:Hid (Below w.heap.size w wr):=Lib.hid (by obtain ⟨q,rfl⟩:=hq;exact below_drewN HB.out _);clear hcl hq b0 b1 b2 b3
  by_cases hlt:j<un
  ·have t1:decide ((j:Int)<(un:Int))=true:=by simp;omega
   have t1':decide (j<un)=true:=by simpa using hlt
   have q1:(j:Int)<(un:Int):=by omega
   have hl1:j<L.length:=by rw[← HUn.out];exact hlt
   have hl2:j<M.length:=by rw[← HVn.out];exact hlt
   obtain ⟨xa0,xc0,hxe,_,hxc⟩:=HLr.out;obtain ⟨ya0,yc0,hye,_,hyc⟩:=HMr.out;obtain ⟨g1,f1,x,hxa,hb1,x0,x1,hx⟩:=hxc j hl1;obtain ⟨g2,f2,y,hya,hb2,y0,y1,hy⟩:=hyc j hl2;simp only[Value.slice.injEq] at hxe hye;obtain ⟨hxe1,hxe2,hxe3⟩:=hxe;obtain ⟨hye1,hye2,hye3⟩:=hye;clear hxe2 hye2 hxe3 hye3 hxc hyc;subst hxe1 hye1;subst hxa hya;obtain ⟨xa,xn,xc,rfl⟩:=hx.sl;obtain ⟨ya,yn,yc,rfl⟩:=hy.sl;obtain ⟨X,hX⟩:∃ X:ByteArray,ofL L[j].1=X:=⟨_,rfl⟩;obtain ⟨Y,hY⟩:∃ Y:ByteArray,ofL M[j].1=Y:=⟨_,rfl⟩;have gX:X.data.toList=L[j].1:=by rw[← hX,ofL_list]
   have gY:Y.data.toList=M[j].1:=by rw[← hY,ofL_list]
   have d0:wr.cell? ⟨g1,f1+j * 2,none⟩=some (.string X):=by rw[x0,← hX];rfl
   have e0:wr.cell? ⟨g2,f2+j * 2,none⟩=some (.string Y):=by rw[y0,← hY];rfl
   by_cases he:X=Y
   ·have hT:=fun n=>textsRef_q L[j].2 M[j].2 (by have:=(HS.out.2 L[j] (List.getElem_mem _)).2.1;omega) (.slice xa xn xc) (.slice ya yn yc) (wr.drewN n) hx hy
    obtain ⟨g,hg⟩:∃ g,g=(L[j].2 == M[j].2):=⟨_,rfl⟩;rw[← hg] at hT;have HT:=Lib.hid hT;have hgl:g=(L[j] == M[j]):=by
     rw[hg]
     show _=(L[j].1 == M[j].1 && L[j].2 == M[j].2)
     rw[← gX,← gY,he];simp
    cases g with
    | true=>
     have heq:L[j]=M[j]:=by simpa using hgl.symm
     have HN1:Hid (∀ k (h1:k<L.length) (h2:k<M.length),k<j+1→L[k]=M[k]):=Lib.hid (fun k h1 h2 h3=>by
      by_cases hk:k<j
      ·exact HAll.out k h1 h2 hk
      ·obtain rfl:k=j:=by omega
       exact heq)
     clear heq hgl hg hT x0 y0 hX hY gX gY hx hy hl1 hl2;subst he;go_wp2
     go_quiet ((go_at_call 14;refine Calls.quiet_of (HT.out _)))
     go_wp2;go_roundw
     case rel=>exact ⟨j+1,by omega,by go_num,HN1,by obtain ⟨q,hq⟩:=HQ.out;exact ⟨_,by rw[hq];exact World.drewN_drewN ..⟩⟩
     case measure=>simp[intOf];omega
    | false=>
     have hne:L[j]≠M[j]:=by simpa using hgl.symm
     have HF:Hid (R=false):=Lib.hid (HR2.out.trans (by
      have:L≠M:=fun e=>by subst e;exact hne rfl
      simpa using this))
     clear hne hgl hg hT x0 y0 hX hY gX gY hx hy hl1 hl2;subst he;go_wp2
     go_quiet ((go_at_call 14;refine Calls.quiet_of (HT.out _)))
     go_wp2;go_ret;exact ⟨by rw[HF.out];rfl,below_drewN HBr.out _⟩
   ·have t2:=str_ne he
    have HF:Hid (R=false):=Lib.hid (HR2.out.trans (by
     have:L≠M:=fun x=>by subst x;exact he (bytes_ext (by rw[gX,gY]))
     simpa using this))
    clear x0 y0 hX hY gX gY hx hy hl1 hl2 he;go_wp2
    go_quiet (fail)
    go_wp2;go_ret;exact ⟨by rw[HF.out];rfl,below_drewN HBr.out _⟩
  ·obtain rfl:j=un:=by omega
   have t1:decide ((j:Int)<(j:Int))=false:=by simp
   have t1':decide (j<j)=false:=by simp
   have HF:Hid (R=true):=Lib.hid (HR2.out.trans (by
    have:L=M:=List.ext_getElem (by rw[← HUn.out,← HVn.out]) (fun k h1 h2=>HAll.out k h1 h2 (by rw[HUn.out];exact h1))
    simp[this]))
   go_wp2;go_ret;exact ⟨by rw[HF.out];rfl,HBr.out⟩
end Go.Proofs.YtgaaefcanfglhaaGreatDoor
namespace Go.Proofs.YtgaaefcanfglhaaGreatDoor
open Go.RowKit
set_option linter.unusedVariables false
set_option linter.unusedSimpArgs false
theorem grown_trans {w a b:World} {g:Nat} (h:w.grownBy a (some g)) (k:a.grownBy b (some g)):w.grownBy b (some g):=
 ⟨k.os.trans h.os,k.tape.trans h.tape,k.output.trans h.output,Nat.le_trans h.size k.size,fun j hj hne=>(k.block j (Nat.lt_of_lt_of_le hj h.size) hne).trans (h.block j hj hne)⟩
theorem below_grownR {w w':World} {g:Nat} (h:Below w.heap.size w w'):w.grownBy w' (some g):=⟨h.os,h.tape,h.output,h.size,fun k hk _=>h.block k hk⟩
theorem rowP_swap {B g n cap:Nat} {w:World} {P:List PT} {j:Nat} (hj:j+1<P.length) (h:w.ownsRow B 60 2 (.slice (some ⟨g,0,none⟩) n cap) n (cellsP P)) :
  let w':=(((w.setCell ⟨g,(j+1) * 2,none⟩ (strV P[j].1)).setCell ⟨g,(j+1) * 2+1,none⟩ P[j].2).setCell ⟨g,j * 2,none⟩ (strV P[j+1].1)).setCell ⟨g,j * 2+1,none⟩ P[j+1].2
  w'.ownsRow B 60 2 (.slice (some ⟨g,0,none⟩) n cap) n (cellsP (swapG P j))∧w.grownBy w' (some g):=by
 intro w';obtain ⟨h1,g1⟩:=h.stored ((j+1) * 2) (strV P[j].1);obtain ⟨h2,g2⟩:=h1.stored ((j+1) * 2+1) P[j].2;obtain ⟨h3,g3⟩:=h2.stored (j * 2) (strV P[j+1].1);obtain ⟨h4,g4⟩:=h3.stored (j * 2+1) P[j+1].2;refine ⟨?_,grown_trans (grown_trans (grown_trans g1 g2) g3) g4⟩;have he:((((cellsP P).set ((j+1) * 2) (strV P[j].1)).set ((j+1) * 2+1) P[j].2).set (j * 2) (strV P[j+1].1)).set (j * 2+1) P[j+1].2=cellsP (swapG P j):=by
  refine List.ext_getElem? fun i=>?_
  have hl:=cellsP_length P;have hls:=cellsP_length (swapG P j);rw[swapG_length] at hls
  by_cases hi:i<P.length * 2
  ·obtain ⟨q,hq⟩:∃ q,i=q * 2∨i=q * 2+1:=⟨i / 2,by omega⟩;have hqp:q<(swapG P j).length:=by rw[swapG_length];omega
   obtain ⟨s0,s1⟩:=cellsP_get (swapG P j) q hqp;obtain ⟨p0,p1⟩:=cellsP_get P q (by rw[swapG_length] at hqp;exact hqp);have hsw:(swapG P j)[q]=if q=j+1 then P[j] else if q=j then P[j+1] else P[q]'(by rw[swapG_length] at hqp;exact hqp):=by
    have:=swapG_at hj;simp only[this,List.getElem_set]
    by_cases e1:j+1=q
    ·rw[if_pos e1,if_pos (show q=j+1 from e1.symm)]
    ·rw[if_neg e1,if_neg (show ¬ q=j+1 from fun h=>e1 h.symm)]
     by_cases e2:j=q
     ·rw[if_pos e2,if_pos (show q=j from e2.symm)]
     ·rw[if_neg e2,if_neg (show ¬ q=j from fun h=>e2 h.symm)]
   simp only[List.getElem?_set,List.length_set,hl];rcases hq with rfl | rfl
   ·rw[s0,hsw]
    by_cases e1:q=j+1
    ·subst e1;rw[if_neg (by omega),if_neg (by omega),if_neg (by omega),if_pos rfl,if_pos (by omega),if_pos rfl]
    ·by_cases e2:q=j
     ·subst e2;rw[if_neg (by omega),if_pos rfl,if_pos (by omega),if_neg e1,if_pos rfl]
     ·rw[if_neg (by omega),if_neg (by omega),if_neg (by omega),if_neg (by omega),if_neg e1,if_neg e2];exact p0
   ·rw[s1,hsw]
    by_cases e1:q=j+1
    ·subst e1;rw[if_neg (by omega),if_neg (by omega),if_pos rfl,if_pos (by omega),if_pos rfl]
    ·by_cases e2:q=j
     ·subst e2;rw[if_pos rfl,if_pos (by omega),if_neg e1,if_pos rfl]
     ·rw[if_neg (by omega),if_neg (by omega),if_neg (by omega),if_neg (by omega),if_neg e1,if_neg e2];exact p1
  ·rw[List.getElem?_eq_none (by simp only[List.length_set];omega),List.getElem?_eq_none (by omega)]
 rw[← he];exact h4
def SrtI (w:World) (B g n cap:Nat) (P:List PT) (k m:Nat) (wx:World):Prop:=∃ R:List PT,Hid (R.length=n)∧Hid (∀ r∈R,∃ a k c,r.2=Value.slice a k c)∧Hid (bubG (fun r=>r.1) m R=srtG (fun r=>r.1) (k+1) P)∧Hid (wx.ownsRow B 60 2 (.slice (some ⟨g,0,none⟩) n cap) n (cellsP R))∧Hid (w.grownBy wx (some g))
set_option maxRecDepth 100000 in
set_option maxHeartbeats 8000000 in
theorem insertR_any (P:List PT) (B g n cap:Nat) (w:World) (hn:n=P.length) (hl:n≤1000000) (h:w.ownsRow B 60 2 (.slice (some ⟨g,0,none⟩) n cap) n (cellsP P)) (hv:∀ r∈P,∃ a k c,r.2=.slice a k c) :
  Calls Tryz.prog 164 #[.slice (some ⟨g,0,none⟩) n cap,.int .i64 0,.int .i64 n,.func (.func 103) #[] #[]] w fun e w'=>e=.returned (.tuple #[])∧w'.ownsRow B 60 2 (.slice (some ⟨g,0,none⟩) n cap) n (cellsP (srtG (fun r=>r.1) (n - 1) P))∧w.grownBy w' (some g):=by
 have HV:=Lib.hid hv;have HN:=Lib.hid hn;have HR:=Lib.hid h;have hlt0:=World.ownsRow.lt h;have HG:=Lib.hid (hlt0 g rfl);clear hv hn h hlt0;go_enter Tryz.func164,Tryz.ntmps164
 go_wp2
 go_loopw [8] (fun i wr=>∃ k:Nat,(k+1≤n∨k=0)∧i=.int .i64 ((k+1:Nat):Int)∧Hid (wr.ownsRow B 60 2 (.slice (some ⟨g,0,none⟩) n cap) n (cellsP (srtG (fun r=>r.1) k P)))∧Hid (w.grownBy wr (some g))) (fun i wr=>n+1 - (intOf i).toNat)
 case atStart=>exact ⟨0,.inr rfl,rfl,HR,Lib.hid ⟨rfl,rfl,rfl,Nat.le_refl _,fun _ _ _=>rfl⟩⟩
 case round=>
  obtain ⟨k,hk,rfl,HRk,HGk⟩:=hrel;rename World=>wo
  by_cases hlt:k+1<n
  ·have t1:decide (((k+1:Nat):Int)<(n:Int))=true:=by simp;omega
   have t1':decide ((k:Int)+1<(n:Int))=true:=by simp;omega
   go_wp2
   go_loopw [9] (fun i wx=>∃ m:Nat,m≤k+1∧i=.int .i64 (m:Int)∧SrtI w B g n cap P k m wx) (fun i wx=>(intOf i).toNat)
   case atStart=>exact ⟨k+1,Nat.le_refl _,by first | rfl | go_num,srtG (fun r=>r.1) k P,Lib.hid (by rw[srtG_length];exact HN.out.symm),Lib.hid (fun r hr=>HV.out r (srtG_mem k hr)),Lib.hid rfl,HRk,HGk⟩
   case round=>
    obtain ⟨m,hm,rfl,R,HLn,HVr,HBu,HRx,HGx⟩:=hrel
    by_cases hm0:m=0
    ·subst hm0
     go_upto_region 4 with (fail)
     refine region_det (by kernel_rfl) (fun w'=>w'=wr.drew) (rfl) (by kernel_rfl) ?_;simp only[List.toList_toArray]
     repeat' (first
      | (refine det_shut (by rfl) ?_;(simp only[Act.put,List.setIfInBounds_toArray,List.set_cons_zero,List.set_cons_succ]))
      | (apply det_val;(case hw=>rfl);(case hv=>(intro w' hS;(subst hS);go_simp;first | done | with_reducible exact rfl));(simp only[Act.put,List.setIfInBounds_toArray,List.set_cons_zero,List.set_cons_succ]))
      | (apply det_call;(case hw=>rfl);(case hv=>(intro w' hS;(subst hS);go_simp;first | done | with_reducible exact rfl | with_reducible exact ⟨rfl,rfl⟩));(case hc=>(intro w' hS;(first | (go_at_call 103;with_reducible exact absurd hS id))));(simp only[Act.put,List.setIfInBounds_toArray,List.set_cons_zero,List.set_cons_succ]))
      | fail)
     intro w9 hw9;subst hw9;have hr9:(wr.drew).ownsRow B 60 2 (.slice (some ⟨g,0,none⟩) n cap) n (cellsP (srtG (fun r=>r.1) (k+1) P)):=by
      have hb:=HBu.out;rw[← hb];exact HRx.out.drew
     have hg9:w.grownBy wr.drew (some g):=⟨HGx.out.os,HGx.out.tape,HGx.out.output,HGx.out.size,HGx.out.block⟩;have HR9:=Lib.hid hr9;have HG9:=Lib.hid hg9;clear hr9 hg9;go_wp2;go_roundw
     case rel=>exact ⟨k+1,.inl (by omega),by first | rfl | go_num,HR9,HG9⟩
     case measure=>simp[intOf];omega
    ·obtain ⟨m,rfl⟩:∃ q,m=q+1:=⟨m - 1,by omega⟩;have hmn:m+1<R.length:=by have:=HLn.out;omega
     obtain ⟨y0,y1⟩:=cellsP_get R (m+1) hmn;obtain ⟨x0,x1⟩:=cellsP_get R m (by omega);obtain ⟨ya,yn,yc,hy⟩:=HVr.out _ (List.getElem_mem hmn);obtain ⟨xa,xn,xc,hx⟩:=HVr.out _ (List.getElem_mem (show m<R.length by omega));obtain ⟨Y,hY⟩:∃ Y:ByteArray,Y=ofL R[m+1].1:=⟨_,rfl⟩;obtain ⟨X,hX⟩:∃ X:ByteArray,X=ofL (R[m]'(by omega)).1:=⟨_,rfl⟩;have hc:=fun j (hj:j<n * 2)=>World.ownsRow.cellAt HRx.out j hj
     have hf:=fun j=>World.ownsRow.frozenAt HRx.out j
     have c0:wr.cell? ⟨g,(m+1) * 2,none⟩=some (.string Y):=by rw[hc _ (by omega),y0,hY];rfl
     have c1:wr.cell? ⟨g,(m+1) * 2+1,none⟩=some (.slice ya yn yc):=by rw[hc _ (by omega),y1,hy]
     have c2:wr.cell? ⟨g,m * 2,none⟩=some (.string X):=by rw[hc _ (by omega),x0,hX];rfl
     have c3:wr.cell? ⟨g,m * 2+1,none⟩=some (.slice xa xn xc):=by rw[hc _ (by omega),x1,hx]
     have hgl:g<wr.heap.size:=Nat.lt_of_lt_of_le HG.out.2 HGx.out.size;have hst:PairAt wr g ((m+1) * 2) (m * 2) Y X (.slice ya yn yc) (.slice xa xn xc) wr.drew:=⟨c0,c1,c2,c3,hgl,(Below.refl _ _).drew⟩;obtain ⟨I,hI⟩:∃ I,I=Extern.BytealgCompare.cmp Y X:=⟨_,rfl⟩;have hIc:I=cmpL R[m+1].1 (R[m]'(by omega)).1:=by rw[hI,hY,hX];rfl
     have hcm:=fun W=>typesCmp_any Y X (.slice ya yn yc) (.slice xa xn xc) W
     simp only[← hI] at hcm;have HCm:=Lib.hid hcm;have HIc:=Lib.hid hIc;have HYX:=Lib.hid (And.intro hY hX);have HHy:=Lib.hid (And.intro hy hx);have q1:((m:Int)+1)<(n:Int):=by have:=HLn.out;omega
     have q2:(m:Int)<(n:Int):=by omega
     have q3:(0:Int)<(m:Int)+1:=by omega
     have q4:(0:Int)≤(m:Int)+1:=by omega
     have q5:((m:Int)+1).toNat=m+1:=by omega
     have q6:IntKind.i64.wrap ((m:Int)+1 - 1)=(m:Int):=by rw[IntKind.wrap_i64];omega
     have q7:(m:Int)+1 - 1=(m:Int):=by omega
     have q8:IntKind.i64.wrap (m:Int)=(m:Int):=by rw[IntKind.wrap_i64];omega
     have q9:(0:Int)≤(m:Int):=by omega
     have q10:m+1<n:=by omega
     clear y0 y1 x0 x1 hc hI hIc hcm hY hX hy hx
     by_cases hneg:I<0
     ·have t3:decide (I<0)=true:=by simpa using hneg
      go_upto_region 4 with (fail)
      refine region_det (by kernel_rfl) (PairAt wr g ((m+1) * 2) (m * 2) Y X (.slice ya yn yc) (.slice xa xn xc)) (hst) (by kernel_rfl) ?_;simp only[List.toList_toArray]
      repeat' (first
       | (refine det_shut (by rfl) ?_;(simp only[Act.put,List.setIfInBounds_toArray,List.set_cons_zero,List.set_cons_succ]))
       | (apply det_val;(case hw=>rfl);(case hv=>(intro w' hS;(obtain ⟨s0,s1,s2,s3,s4,s5⟩:=hS);go_simp;first | done | with_reducible exact rfl));(simp only[Act.put,List.setIfInBounds_toArray,List.set_cons_zero,List.set_cons_succ]))
       | (apply det_call;(case hw=>rfl);(case hv=>(intro w' hS;(obtain ⟨s0,s1,s2,s3,s4,s5⟩:=hS);go_simp;first | done | with_reducible exact rfl | with_reducible exact ⟨rfl,rfl⟩));(case hc=>(intro w' hS;(first | (go_at_call 103;with_reducible exact (HCm.out w').mono (fun e w'' h=>⟨h.1,(PairAt.go hS h.2).2.2.2.2⟩)))));(simp only[Act.put,List.setIfInBounds_toArray,List.set_cons_zero,List.set_cons_succ]))
       | fail)
      intro w9 hS9;have hr9:w9.ownsRow B 60 2 (.slice (some ⟨g,0,none⟩) n cap) n (cellsP R):=World.ownsRow.kept HRx.out (row:=none) ⟨hS9.2.2.2.2.2.os,hS9.2.2.2.2.2.tape,hS9.2.2.2.2.2.output,hS9.2.2.2.2.2.size,fun k hk _=>hS9.2.2.2.2.2.block k hk⟩ (.inr (by simp[Value.ownBlock]));have hg9:w.grownBy w9 (some g):=grown_trans HGx.out (below_grownR hS9.2.2.2.2.2);have hf:=fun j=>World.ownsRow.frozenAt hr9 j
      have z0:=hf ((m+1) * 2);have z1:=hf ((m+1) * 2+1);have z2:=hf (m * 2);have z3:=hf (m * 2+1);obtain ⟨s0,s1,s2,s3,s4,s5⟩:=hS9;obtain ⟨hsw,hgw⟩:=rowP_swap (j:=m) hmn hr9;have n0:((m+1) * 2=m * 2)=False:=eq_false (by omega);have n1:((m+1) * 2+1=m * 2)=False:=eq_false (by omega);have n2:((m+1) * 2=m * 2+1)=False:=eq_false (by omega);have n3:(m * 2=(m+1) * 2)=False:=eq_false (by omega);have n4:(m * 2=(m+1) * 2+1)=False:=eq_false (by omega);have n5:(m * 2+1=(m+1) * 2)=False:=eq_false (by omega);have HSw:=Lib.hid hsw;have HGw:=Lib.hid hgw;have HG9:=Lib.hid hg9;clear hr9 hg9 hf hsw hgw hst c0 c1 c2 c3 s5
      go_upto_region 6 with (fail)
      go_region_law (fail)
      all_goals
       have e1:strV (R[m]'(by omega)).1=.string X:=by rw[HYX.out.2];rfl
       have e2:strV R[m+1].1=.string Y:=by rw[HYX.out.1];rfl
       have hr10:=HSw.out;have hg10:=HGw.out;rw[e1,e2,HHy.out.1,HHy.out.2] at hr10 hg10;have hr11:=hr10.drew;have hg11:=grown_trans HG9.out hg10;generalize (((w9.setCell ⟨g,(m+1) * 2,none⟩ (.string X)).setCell ⟨g,(m+1) * 2+1,none⟩ (.slice xa xn xc)).setCell ⟨g,m * 2,none⟩ (.string Y)).setCell ⟨g,m * 2+1,none⟩ (.slice ya yn yc)=W10 at hr11 hg11 ⊢;have hg12:w.grownBy W10.drew (some g):=⟨hg11.os,hg11.tape,hg11.output,hg11.size,hg11.block⟩;have hb12:bubG (fun r=>r.1) m (swapG R m)=srtG (fun r=>r.1) (k+1) P:=by rw[← HBu.out,bubG_go hmn (by rw[← HIc.out];exact hneg)]
       have HR12:=Lib.hid hr11;have HG12:=Lib.hid hg12;have HB12:=Lib.hid hb12;have HL12:Hid ((swapG R m).length=n):=Lib.hid (by rw[swapG_length];exact HLn.out);have HV12:=Lib.hid (fun r (hr:r∈swapG R m)=>HVr.out r (swapG_mem hr));clear e1 e2 hr10 hg10 hr11 hg11 hg12 hb12 s0 s1 s2 s3 z0 z1 z2 z3;go_wp2;go_roundw
       case rel=>exact ⟨m,by omega,by first | rfl | go_num,swapG R m,HL12,HV12,HB12,HR12,HG12⟩
       case measure=>simp[intOf];omega
     ·have t3:decide (I<0)=false:=by simpa using hneg
      go_upto_region 4 with (fail)
      refine region_det (by kernel_rfl) (PairAt wr g ((m+1) * 2) (m * 2) Y X (.slice ya yn yc) (.slice xa xn xc)) (hst) (by kernel_rfl) ?_;simp only[List.toList_toArray]
      repeat' (first
       | (refine det_shut (by rfl) ?_;(simp only[Act.put,List.setIfInBounds_toArray,List.set_cons_zero,List.set_cons_succ]))
       | (apply det_val;(case hw=>rfl);(case hv=>(intro w' hS;(obtain ⟨s0,s1,s2,s3,s4,s5⟩:=hS);go_simp;first | done | with_reducible exact rfl));(simp only[Act.put,List.setIfInBounds_toArray,List.set_cons_zero,List.set_cons_succ]))
       | (apply det_call;(case hw=>rfl);(case hv=>(intro w' hS;(obtain ⟨s0,s1,s2,s3,s4,s5⟩:=hS);go_simp;first | done | with_reducible exact rfl | with_reducible exact ⟨rfl,rfl⟩));(case hc=>(intro w' hS;(first | (go_at_call 103;with_reducible exact (HCm.out w').mono (fun e w'' h=>⟨h.1,(PairAt.go hS h.2).2.2.2.2⟩)))));(simp only[Act.put,List.setIfInBounds_toArray,List.set_cons_zero,List.set_cons_succ]))
       | fail)
      intro w9 hS9;have hr9:w9.ownsRow B 60 2 (.slice (some ⟨g,0,none⟩) n cap) n (cellsP (srtG (fun r=>r.1) (k+1) P)):=by
       have hb:=HBu.out;rw[bubG_stop hmn (by rw[← HIc.out];exact hneg)] at hb;rw[← hb];exact World.ownsRow.kept HRx.out (row:=none) ⟨hS9.2.2.2.2.2.os,hS9.2.2.2.2.2.tape,hS9.2.2.2.2.2.output,hS9.2.2.2.2.2.size,fun k hk _=>hS9.2.2.2.2.2.block k hk⟩ (.inr (by simp[Value.ownBlock]))
      have hg9:w.grownBy w9 (some g):=grown_trans HGx.out (below_grownR hS9.2.2.2.2.2);have HR9:=Lib.hid hr9;have HG9:=Lib.hid hg9;clear hr9 hg9 hS9;go_wp2;go_roundw
      case rel=>exact ⟨k+1,.inl (by omega),by first | rfl | go_num,HR9,HG9⟩
      case measure=>simp[intOf];omega
  ·have t1:decide (((k+1:Nat):Int)<(n:Int))=false:=by simp;omega
   have t1':decide ((k:Int)+1<(n:Int))=false:=by simp;omega
   have hke:k=n - 1:=by omega
   go_wp2
   go_end0
   exact ⟨rfl,by rw[← hke];exact HRk.out,HGk.out⟩
end Go.Proofs.YtgaaefcanfglhaaGreatDoor
namespace Go.Proofs.YtgaaefcanfglhaaGreatDoor
open Go.RowKit
set_option linter.unusedVariables false
set_option linter.unusedSimpArgs false
set_option maxRecDepth 100000 in
set_option maxHeartbeats 4000000 in
theorem stableR_any (n:Nat) (hl:n<20) (sa:Option Addr) (sc:Nat) (w:World) (Q:World→Prop) (hi:Calls Tryz.prog 164 #[.slice sa n sc,.int .i64 0,.int .i64 n,.func (.func 103) #[] #[]] w fun e w'=>e=.returned (.tuple #[])∧Q w') :
  Calls Tryz.prog 139 #[.slice sa n sc,.int .i64 n,.func (.func 103) #[] #[]] w fun e w'=>e=.returned (.tuple #[])∧Q w':=by
 have HI:=Lib.hid hi;have t1:decide ((20:Int)≤(n:Int))=false:=by simp;omega
 have t1':decide (20≤n)=false:=by simp;omega
 have t2:decide ((20:Int)<(n:Int))=false:=by simp;omega
 have t2':decide (20<n)=false:=by simp;omega
 clear hi;go_enter Tryz.func139,Tryz.ntmps139
 go_wp2
 go_loopw [7,8] (fun a b wr=>a=.int .i64 0∧b=.int .i64 20∧Hid (wr=w)) (fun a b wr=>1)
 case atStart=>exact ⟨rfl,rfl,Lib.hid rfl⟩
 case round=>
  obtain ⟨rfl,rfl,hwr⟩:=hrel;have hwr:=hwr.out;subst hwr
  go_wp2_with (go_at_call 164;refine (HI.out).mono ?_;rintro e w2 ⟨rfl,hb2⟩;have HB2:=Lib.hid hb2;clear hb2)
  go_loopw [6] (fun a wx=>a=.int .i64 20∧Hid (wx=w2)) (fun a wx=>1)
  case atStart=>exact ⟨rfl,Lib.hid rfl⟩
  case round=>
   obtain ⟨rfl,hwr2⟩:=hrel;have hwr2:=hwr2.out;subst hwr2;go_wp2
   go_end0
   exact ⟨rfl,HB2.out⟩
theorem ownA_sort {B g n cap:Nat} {w w':World} {L:List AT} {P:List PT} (hP:RowP B w (.slice (some ⟨g,0,none⟩) n cap) P) (hs:Says B w (.slice (some ⟨g,0,none⟩) n cap) P L) (hn:n=P.length)
  (hr:w'.ownsRow B 60 2 (.slice (some ⟨g,0,none⟩) n cap) n (cellsP (srtG (fun r=>r.1) (n - 1) P))) (hg:w.grownBy w' (some g)):OwnA B w' (.slice (some ⟨g,0,none⟩) n cap) (sortA L):=by
 have hPL:=hs.1;have hP1:P=(P.zip L).map (fun z=>z.1):=by
  have:=List.map_fst_zip (l₁:=P) (l₂:=L) (by omega);exact this.symm
 have hL1:L=(P.zip L).map (fun z=>z.2):=by
  have:=List.map_snd_zip (l₁:=P) (l₂:=L) (by omega);exact this.symm
 have hz:∀ z∈P.zip L,∃ (j:Nat) (h1:j<L.length) (h2:j<P.length),z=(P[j],L[j]):=fun z hm=>by
  obtain ⟨j,hj,rfl⟩:=List.getElem_of_mem hm;have hj':j<P.length∧j<L.length:=by rw[List.length_zip] at hj;omega
  exact ⟨j,hj'.2,hj'.1,List.getElem_zip⟩
 have e1:srtG (fun r:PT=>r.1) (n - 1) P=(srtG (fun z:PT×AT=>z.1.1) (n - 1) (P.zip L)).map (fun z=>z.1):=by
  rw[srtG_map (key':=fun r:PT=>r.1) (fun z:PT×AT=>z.1) (n - 1) (P.zip L) (fun _ _=>rfl),← hP1]
 have e2:sortA L=(srtG (fun z:PT×AT=>z.1.1) (n - 1) (P.zip L)).map (fun z=>z.2):=by
  unfold sortA
  rw[srtG_map (key':=fun a:AT=>a.1) (fun z:PT×AT=>z.2) (n - 1) (P.zip L) (fun z hm=>by
   obtain ⟨j,h1,h2,rfl⟩:=hz z hm
   exact (hs.2 j h1 h2).1.symm),← hL1,hn,hPL]
 refine ⟨srtG (fun r=>r.1) (n - 1) P,?_,?_,fun j h1 h2=>?_⟩
 ·show w'.ownsRow B 60 2 (.slice (some ⟨g,0,none⟩) n cap) (srtG (fun r=>r.1) (n - 1) P).length (cellsP (srtG (fun r=>r.1) (n - 1) P))
  rw[srtG_length,← hn];exact hr
 ·rw[e1,e2,List.length_map,List.length_map]
 ·simp only[e1,e2,List.getElem_map];have hm:=srtG_mem _ (List.getElem_mem (show j<(srtG (fun z:PT×AT=>z.1.1) (n - 1) (P.zip L)).length by rw[e2,List.length_map] at h1;exact h1));obtain ⟨i,i1,i2,hi⟩:=hz _ hm;rw[hi];obtain ⟨s1,s2⟩:=hs.2 i i1 i2;refine ⟨s1,s2.imp (fun b hb=>⟨hb.1,Nat.lt_of_lt_of_le hb.2.1 hg.size,hb.2.2⟩) (fun b o hb=>?_)⟩;have:=hg.block b hb.2.1 hb.2.2;simp only[World.cell?,this]
end Go.Proofs.YtgaaefcanfglhaaGreatDoor
namespace Go.Proofs.YtgaaefcanfglhaaGreatDoor
open Go.RowKit Go.Maps
set_option linter.unusedVariables false
theorem idx_new (w:World) (lv:Value) (KS:List KL):Idx w.heap.size (w.alloc (.cells #[lv,.int .u32 0,.int .i32 0,.int .u32 0,.slice none 0 0,.map none] 83)) lv KS:=.inl (heap_alloc_new w _)
theorem below_idx {b:Nat} {w W w':World} (hb:Below w.heap.size w W) (hg:W.grownBy w' (some b)) (h:w.heap.size≤b):Below w.heap.size w w':=
 hb.trans ⟨hg.os,hg.tape,hg.output,hg.size,fun k hk=>hg.block k (by have:=hb.size;omega) (fun e=>by have:=Option.some.inj e;omega)⟩
set_option maxRecDepth 100000 in
set_option maxHeartbeats 2000000 in
theorem treeFind_any (L:List ET) (hs:smallE L) (lv:Value) (K:ByteArray) (hK:K.size≤100000) (w:World) (h:IsE w.heap.size w L lv) :
  Calls Tryz.prog 12 #[lv,.string K] w fun e w'=>e=.returned (.int .i64 (findK (keysE L) K.data.toList))∧Below w.heap.size w w':=by
 obtain ⟨W,hW⟩:∃ W,W=w.alloc (.cells #[lv,.int .u32 0,.int .i32 0,.int .u32 0,.slice none 0 0,.map none] 83):=⟨_,rfl⟩;have hbW:Below w.heap.size w W:=by rw[hW];exact (Below.refl _ _).alloc (Nat.le_refl _) _
 have hx:Idx w.heap.size W lv (keysE L):=by rw[hW];exact idx_new w lv _
 have HP:=Lib.hid (place_any L hs w.heap.size lv K hK W hx (h.below hbW (Nat.le_refl _)));have HB:=Lib.hid hbW;have HW:=Lib.hid hW;obtain ⟨la,lc,rfl⟩:=IsE.sl h;clear hbW hx h hW;go_enter Tryz.func12,Tryz.ntmps12
 go_upto_region 2 with (fail)
 rw[← HW.out]
 go_wp2_with (go_at_call 37;refine (HP.out).mono ?_;rintro e w2 ⟨rfl,kv,mv,_,hg⟩;have HG:=Lib.hid hg;clear hg)
 go_ret;exact ⟨rfl,below_idx HB.out HG.out (Nat.le_refl _)⟩
theorem upK_list (K:ByteArray):(upB K).data.toList=upD K.data.toList:=by simp[upB]
theorem upK_le (k:KL):(upD k).length≤k.length:=by
 by_cases h:k=[]
 ·subst h;decide
 ·exact Nat.le_of_lt (upD_lt k h)
theorem kidsP_take (KS:List KL) (k:KL) (j:Nat) (h:j<KS.length):kidsP (KS.take (j+1)) k=kidsP (KS.take j) k++(if (!KS[j].isEmpty && upD KS[j] == k)=true then [KS[j]] else []):=by
 unfold kidsP;rw[List.take_succ_eq_append_getElem h,List.filter_append]
 congr 1
 cases e:(!KS[j].isEmpty && upD KS[j] == k) <;> simp[List.filter,e]
theorem kidsP_len (KS:List KL) (k:KL) (j:Nat):(kidsP (KS.take j) k).length≤j:=Nat.le_trans (List.length_filter_le _ _) (List.length_take_le _ _)
set_option maxRecDepth 100000 in
set_option maxHeartbeats 4000000 in
theorem treeKids_any (L:List ET) (hs:smallE L) (lv:Value) (K:ByteArray) (w:World) (h:IsE w.heap.size w L lv) :
  Calls Tryz.prog 15 #[lv,.string K] w fun e w'=>∃ v,e=.returned v∧OwnS w.heap.size w' v (kidsP (keysE L) K.data.toList)∧Below w.heap.size w w':=by
 obtain ⟨W,hW⟩:∃ W,W=w.alloc (.cells #[lv,.int .u32 0,.int .i32 0,.int .u32 0,.slice none 0 0,.map none] 83):=⟨_,rfl⟩;have hbW:Below w.heap.size w W:=by rw[hW];exact (Below.refl _ _).alloc (Nat.le_refl _) _
 have hx:Idx w.heap.size W lv (keysE L):=by rw[hW];exact idx_new w lv _
 have HA:=Lib.hid (all_any L hs w.heap.size lv W hx (h.below hbW (Nat.le_refl _)));have HB:=Lib.hid hbW;have HW:=Lib.hid hW;have HS:=Lib.hid hs;have hL:=hs.1;obtain ⟨la,lc,rfl⟩:=IsE.sl h;obtain ⟨KS,hKS⟩:∃ KS,KS=keysE L:=⟨_,rfl⟩;have hKl:KS.length=L.length:=by rw[hKS,keysE_len]
 have hksz:∀ j (hj:j<KS.length),KS[j].length≤100000:=fun j hj=>by
  subst hKS;rw[keysE_at L j (by rw[keysE_len] at hj;exact hj)];exact Nat.le_trans (kE_len _) (hs.2 _ (List.getElem_mem _)).1
 rw[← hKS] at HA ⊢;obtain ⟨n,hn⟩:∃ n,n=KS.length:=⟨_,rfl⟩;have hn1:n≤1000:=by omega
 have HN:=Lib.hid hn;have HKs:=Lib.hid hksz;clear hbW hx h hW hKS hKl hn hksz;go_enter Tryz.func15,Tryz.ntmps15
 go_upto_region 3 with (fail)
 rw[← HW.out];clear HW
 go_wp2_with (go_at_call 38;refine (HA.out).mono ?_;rintro e w2 ⟨kv,mv,rfl,hm,hg⟩;have HT:=Lib.hid (hm.isT (by unfold maxLen;rw[← HN.out];omega));have HB2:=Lib.hid (below_idx HB.out hg (Nat.le_refl _));(obtain ⟨ka,kc,hkv,_,hcell⟩:=HT.out);rw[← HN.out] at hkv;have HC:=Lib.hid hcell;clear hm hg hcell;subst hkv)
 go_loopw [5,15] (fun l i wr=>∃ j:Nat,j≤n∧i=.int .i64 j∧OwnS w2.heap.size wr l (kidsP (KS.take j) K.data.toList)∧Below w2.heap.size w2 wr) (fun _ i wr=>n - (intOf i).toNat)
 case atStart=>exact ⟨0,by omega,rfl,ownS_nil _ _,Below.refl _ _⟩
 case round=>
  obtain ⟨j,hj,rfl,hown,hbel⟩:=hrel;have HBel:=Lib.hid hbel;have hbs:=hbel.size;obtain ⟨sa,sc,hsv⟩:=ownS_slice hown;obtain ⟨G,hG⟩:∃ G,G=kidsP (KS.take j) K.data.toList:=⟨_,rfl⟩;have hGl:=kidsP_len KS K.data.toList j;rw[← hG] at hsv hGl hown;obtain ⟨sn,hsn⟩:∃ k,k=G.length:=⟨_,rfl⟩;rw[← hsn] at hsv hGl;subst hsv;have HG:=Lib.hid hG;have HSn:=Lib.hid hsn;have HOwn:=Lib.hid hown;clear hown hsn
  by_cases hlt:j<n
  ·have t1:decide ((j:Int)<(n:Int))=true:=by simp;omega
   have t1':decide (j<n)=true:=by simpa using hlt
   have hjK:j<KS.length:=by rw[← HN.out];exact hlt
   obtain ⟨b,off,hae,hb0,c0⟩:=HC.out j hjK;subst hae;obtain ⟨X,hX⟩:∃ X:ByteArray,ofL KS[j]=X:=⟨_,rfl⟩;have hXl:X.data.toList=KS[j]:=by rw[← hX,ofL_list]
   have d0:(wr.cell? ⟨b,off+j,none⟩)=some (.string X):=by
    rw[hbel.cell (p:=⟨b,_,none⟩) hb0,c0,← hX];rfl
   have hXs:X.size≤100000:=by rw[← bytes_len,hXl];exact HKs.out j hjK
   have hup:=fun w=>dnUp_any clone_any X w (by omega)
   obtain ⟨U,hU⟩:∃ U,U=upB X:=⟨_,rfl⟩;rw[← hU] at hup;have hUl:U.data.toList=upD KS[j]:=by rw[hU,upK_list,hXl]
   have HUp:=Lib.hid hup;have hnew:=kidsP_take KS K.data.toList j hjK;rw[← HG.out] at hnew;have HNew0:=Lib.hid hnew;have HXl:=Lib.hid hXl;have HUl:=Lib.hid hUl;clear hnew hX hU c0 hbel hup hXl hUl hG
   by_cases hne:X.data.toList=[]
   ·obtain ⟨e1,e2⟩:=bytes_nil hne;have e3:(X.toList == [])=true:=by rw[e1];rfl
    have HNew:Hid (kidsP (KS.take (j+1)) K.data.toList=G):=Lib.hid (by
     have h1:KS[j]=[]:=HXl.out.symm.trans hne;have:=HNew0.out;rw[h1] at this
     simpa using this)
    clear hne;go_wp2;go_roundw
    case rel=>exact ⟨j+1,by omega,by go_num,by rw[HNew.out];exact HOwn.out,HBel.out⟩
    case measure=>simp[intOf];omega
   ·obtain ⟨e1,e2⟩:=bytes_some hne;have e3:(X.toList == [])=false:=by simpa using e1
    have hje:KS[j].isEmpty=false:=by
     rw[← HXl.out]
     cases h:X.data.toList with
     | nil=>exact absurd h hne
     | cons _ _=>rfl
    have HJe:=Lib.hid hje;clear hne hje
    by_cases heq:U=K
    ·subst heq
     have HNew:Hid (kidsP (KS.take (j+1)) U.data.toList=G++[X.data.toList]):=Lib.hid (by
      have:=HNew0.out;rw[if_pos (by rw[HJe.out,← HUl.out];simp)] at this
      rw[this,HXl.out])
     have q1:(U.toList == U.toList)=true:=by simp
     go_wp2_with (first
      | (go_at_call 39;refine (HUp.out _).mono ?_;rintro e w4 ⟨rfl,hb4⟩;have HB4:=Lib.hid hb4;have HO4:=Lib.hid (ownS_below HOwn.out hb4);have hbs4:=hb4.size;clear hb4)
      | (at_builtin;refine wpList_append_text rfl (.tmp 27) (.tmp 29) rfl w2.heap.size (.slice sa sn sc) G rfl X HO4.out rfl (by rw[← HSn.out];omega) (by omega) ?_;intro v5 w5 hown5 hb5;have HO5:=Lib.hid hown5;have HB5:=Lib.hid hb5;clear hown5 hb5))
     go_roundw
     case rel=>exact ⟨j+1,by omega,by go_num,by rw[HNew.out];exact HO5.out,(HBel.out.trans (HB4.out.mono hbs)).trans HB5.out⟩
     case measure=>simp[intOf];omega
    ·have q1:=str_ne heq
     have HNew:Hid (kidsP (KS.take (j+1)) K.data.toList=G):=Lib.hid (by
      have:=HNew0.out
      rw[if_neg (by
       rw[HJe.out,← HUl.out];simp only[Bool.not_false,Bool.true_and,beq_iff_eq]
       exact fun e=>heq (bytes_ext e)),List.append_nil] at this
      exact this)
     clear heq
     go_wp2_with (go_at_call 39;refine (HUp.out _).mono ?_;rintro e w4 ⟨rfl,hb4⟩;have HB4:=Lib.hid hb4;have HO4:=Lib.hid (ownS_below HOwn.out hb4);have hbs4:=hb4.size;clear hb4)
     go_roundw
     case rel=>exact ⟨j+1,by omega,by go_num,by rw[HNew.out];exact HO4.out,HBel.out.trans (HB4.out.mono hbs)⟩
     case measure=>simp[intOf];omega
  ·obtain rfl:j=n:=by omega
   have t1:decide ((j:Int)<(j:Int))=false:=by simp
   have t1':decide (j<j)=false:=by simp
   have HF:Hid (G=kidsP KS K.data.toList):=Lib.hid (by rw[hG,List.take_of_length_le (by rw[← HN.out];exact Nat.le_refl _)]);clear hbel hG;go_wp2;go_ret;exact ⟨_,rfl,by rw[← HF.out];exact ownS_lower HOwn.out HB2.out.size,HB2.out.trans (HBel.out.mono HB2.out.size)⟩
end Go.Proofs.YtgaaefcanfglhaaGreatDoor
