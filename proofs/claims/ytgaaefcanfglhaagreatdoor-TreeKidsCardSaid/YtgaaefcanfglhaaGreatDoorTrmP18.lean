/- Several texts in one file: TrAddW, TrMkP, TrDoc3, TrMkW, TrAwkP. -/
import Derived.Test.YtgaaefcanfglhaaGreatDoorTrmP14
import Derived.Test.YtgaaefcanfglhaaGreatDoorTrmP11
import Derived.Test.YtgaaefcanfglhaaGreatDoorTrmP12
import Derived.Test.YtgaaefcanfglhaaGreatDoorTrmP9
import Derived.Test.YtgaaefcanfglhaaGreatDoorTrmP17
import Derived.Test.YtgaaefcanfglhaaGreatDoorTrmP13
import Derived.Test.YtgaaefcanfglhaaGreatDoorTrmP10
import Derived.Test.YtgaaefcanfglhaaGreatDoorTrmP6
namespace Go.Proofs.YtgaaefcanfglhaaGreatDoor
open Go.RowKit
set_option linter.unusedVariables false
set_option linter.unusedSimpArgs false
abbrev zD:Obj:=.cells #[.int .i64 0,.int .i64 0,.string ⟨#[]⟩,.string ⟨#[]⟩,.slice none 0 0,.int .i64 0] 50
abbrev DlAt (W:World) (b:Nat) (d:ByteArray) (v:Value) (c:Int):Prop:=W.heap[b]?=some (.cells #[.int .i64 0,.int .i64 0,.string ⟨#[]⟩,.string d,v,.int .i64 c] 50 (0,0))
abbrev doneV (d:ByteArray) (v:Value) (c:Int):Value:=.agg #[.int .i64 0,.int .i64 0,.string ⟨#[]⟩,.string d,v,.int .i64 c]
def set6D (W:World) (b:Nat) (d:ByteArray) (v:Value) (c:Int):World:=(((((W.setCell ⟨b,0,none⟩ (.int .i64 0)).setCell ⟨b,1,none⟩ (.int .i64 0)).setCell ⟨b,2,none⟩ (.string ⟨#[]⟩)).setCell ⟨b,3,none⟩ (.string d)).setCell ⟨b,4,none⟩ v).setCell ⟨b,5,none⟩ (.int .i64 c)
theorem dl_lt {W:World} {b:Nat} {d:ByteArray} {v:Value} {c:Int} (h:DlAt W b d v c):b<W.heap.size:=(Array.getElem?_eq_some_iff.1 h).1
theorem dl_below {W W':World} {b m:Nat} {d:ByteArray} {v:Value} {c:Int} (h:DlAt W b d v c) (hb:Below m W W') (hn:b<m):DlAt W' b d v c:=(hb.block b hn).trans h
theorem dl_cells {W:World} {b:Nat} {d:ByteArray} {v:Value} {c:Int} (h:DlAt W b d v c):W.cell? ⟨b,0,none⟩=some (.int .i64 0)∧W.cell? ⟨b,1,none⟩=some (.int .i64 0)∧W.cell? ⟨b,2,none⟩=some (.string ⟨#[]⟩)∧W.cell? ⟨b,3,none⟩=some (.string d)∧W.cell? ⟨b,4,none⟩=some v∧W.cell? ⟨b,5,none⟩=some (.int .i64 c):=by
 have h':W.heap[b]?=some (.cells #[.int .i64 0,.int .i64 0,.string ⟨#[]⟩,.string d,v,.int .i64 c] 50 (0,0)):=h;refine ⟨?_,?_,?_,?_,?_,?_⟩ <;> simp[World.cell?,h']
theorem dl_frozen {W:World} {b:Nat} {d:ByteArray} {v:Value} {c:Int} (h:DlAt W b d v c):W.frozen? ⟨b,0,none⟩=false∧W.frozen? ⟨b,1,none⟩=false∧W.frozen? ⟨b,2,none⟩=false∧W.frozen? ⟨b,3,none⟩=false∧W.frozen? ⟨b,4,none⟩=false∧W.frozen? ⟨b,5,none⟩=false:=by
 have h':W.heap[b]?=some (.cells #[.int .i64 0,.int .i64 0,.string ⟨#[]⟩,.string d,v,.int .i64 c] 50 (0,0)):=h;refine ⟨?_,?_,?_,?_,?_,?_⟩ <;> simp[World.frozen?,h']
theorem dl_set {W:World} {b:Nat} {d0:ByteArray} {v0:Value} {c0:Int} (h:DlAt W b d0 v0 c0) (d:ByteArray) (v:Value) (c:Int):DlAt (set6D W b d v c) b d v c:=by
 have h':W.heap[b]?=some (.cells #[.int .i64 0,.int .i64 0,.string ⟨#[]⟩,.string d0,v0,.int .i64 c0] 50 (0,0)):=h
 show (set6D W b d v c).heap[b]?=_
 simp[set6D,World.setCell,Array.getElem?_modify,h']
theorem dl_setB {W W0:World} {b m:Nat} (h:Below m W0 W) (hn:m≤b) (d:ByteArray) (v:Value) (c:Int):Below m W0 (set6D W b d v c):=
 (((((h.setCell (p:=⟨b,0,none⟩) hn _).setCell (p:=⟨b,1,none⟩) hn _).setCell (p:=⟨b,2,none⟩) hn _).setCell (p:=⟨b,3,none⟩) hn _).setCell (p:=⟨b,4,none⟩) hn _).setCell (p:=⟨b,5,none⟩) hn _
theorem ownM_dl1 {B:Nat} {W:World} {v x:Value} {L:List AT} {p i:Nat} {cs:Array Value} {fr:Nat×Nat} (h:OwnM B W v L) (hp:W.heap[p]?=some (.cells cs 50 fr)):OwnM B (W.setCell ⟨p,i,none⟩ x) v L:=by
 obtain ⟨P,hr,hs⟩:=h;have hgr:W.grownBy (W.setCell ⟨p,i,none⟩ x) (some p):=⟨rfl,rfl,rfl,by simp[World.setCell],fun k hk hn=>block_ne W ⟨p,i,none⟩ x (fun e=>hn (by rw[e]))⟩;refine ⟨P,World.ownsRow.kept hr hgr (.inr fun he=>?_),saysM_to hs fun k hk=>block_ne W ⟨p,i,none⟩ x fun e=>?_⟩
 ·rcases hr.2 with ⟨rfl,_⟩ | ⟨g,cap,cur,rfl,_,hgc,_⟩
  ·cases he
  ·have:g=p:=by simpa [Value.ownBlock] using he
   subst this;rw[hgc] at hp
   cases hp
 ·obtain ⟨cs',fr',hk⟩:=hk;rw[show k=p from e,hp] at hk
  cases hk
theorem dl_keep {W:World} {p i:Nat} {x:Value} {cs:Array Value} {fr:Nat×Nat} (hp:W.heap[p]?=some (.cells cs 50 fr)):∃ cs',(W.setCell ⟨p,i,none⟩ x).heap[p]?=some (.cells cs' 50 fr):=by
 simp[World.setCell,Array.getElem?_modify,hp]
theorem ownM_dl {B:Nat} {W:World} {u:Value} {L:List AT} {p:Nat} {d0:ByteArray} {v0:Value} {c0:Int} (h:OwnM B W u L) (hp:DlAt W p d0 v0 c0) (d:ByteArray) (v:Value) (c:Int):OwnM B (set6D W p d v c) u L:=by
 unfold set6D;obtain ⟨_,k1⟩:=dl_keep (i:=0) (x:=.int .i64 0) hp;obtain ⟨_,k2⟩:=dl_keep (i:=1) (x:=.int .i64 0) k1;obtain ⟨_,k3⟩:=dl_keep (i:=2) (x:=.string ⟨#[]⟩) k2;obtain ⟨_,k4⟩:=dl_keep (i:=3) (x:=.string d) k3;obtain ⟨_,k5⟩:=dl_keep (i:=4) (x:=v) k4;exact ownM_dl1 (ownM_dl1 (ownM_dl1 (ownM_dl1 (ownM_dl1 (ownM_dl1 h hp) k1) k2) k3) k4) k5
set_option maxRecDepth 100000 in
set_option maxHeartbeats 2000000 in
theorem code7_any (n:Int) (w:World):Calls Tryz.prog 48 #[.int .i64 n] w fun e w'=>e=.returned (doneV ⟨#[]⟩ (.slice none 0 0) n)∧Below w.heap.size w w':=by
 obtain ⟨W1,hW1⟩:∃ W,W=w.alloc zD:=⟨_,rfl⟩;have hk:DlAt W1 w.heap.size ⟨#[]⟩ (.slice none 0 0) 0:=by rw[hW1];exact heap_alloc_new w _
 have hb:Below w.heap.size w W1:=by rw[hW1];exact (Below.refl _ _).alloc (Nat.le_refl _) _
 have hbz:=dl_setB hb (Nat.le_refl w.heap.size) ⟨#[]⟩ (.slice none 0 0) n;obtain ⟨c0,c1,c2,c3,c4,c5⟩:=dl_cells hk;obtain ⟨f0,f1,f2,f3,f4,f5⟩:=dl_frozen hk;obtain ⟨z0,z1,z2,z3,z4,z5⟩:=dl_cells (dl_set hk ⟨#[]⟩ (.slice none 0 0) n);unfold set6D at z0 z1 z2 z3 z4 z5;have HB:=Lib.hid hbz;clear hbz hk hb;go_enter Tryz.func48,Tryz.ntmps48
 go_upto_region 1 with fail
 rw[← hW1];clear hW1;go_wp2;exact bodyPost_ret (v:=doneV ⟨#[]⟩ (.slice none 0 0) n) (by simp[results,Tryz.results48,go_sem,z0,z1,z2,z3,z4,z5]) rfl ⟨rfl,HB.out⟩
def addC (KS:List KL) (k:KL):Int:=if 0≤idxK KS k then 68 else if upD k≠[]∧idxK KS (upD k)<0 then 32 else 0
structure AdAt (w W:World) (D:ByteArray) (u:Value):Prop where
 box:BoxN W w.heap.size D u
 res:DlAt W (w.heap.size+1) ⟨#[]⟩ (.slice none 0 0) 0
 bel:Below w.heap.size w W
theorem AdAt.go {w W W':World} {D:ByteArray} {u:Value} (h:AdAt w W D u) (hb:Below W.heap.size W W'):AdAt w W' D u:=
 ⟨h.box.below hb (Array.getElem?_eq_some_iff.1 h.box).1,dl_below h.res hb (dl_lt h.res),bthen h.bel hb⟩
set_option maxRecDepth 100000 in
set_option maxHeartbeats 8000000 in
theorem add7_any (L:List ET) (hs:smallE L) (hl:L.length<200) (v:Value) (D:ByteArray) (hD:D.size≤100000) (A:List AT) (hA:smallA A) (hc:checkD D.data.toList A=0) (u:Value) (w:World) (h:IsE w.heap.size w L v) (hu:IsA w.heap.size w A u) :
  Calls Tryz.prog 27 #[v,.agg #[.string D,u]] w fun e w'=>∃ d' xa xn xc c,e=.returned (doneV d' (.slice xa xn xc) c)∧c=addC (keysE L) (kE (D.data.toList,A))∧(c=0→d'.data.toList=nameN D.data.toList∧∃ B,OwnM B w' (.slice xa xn xc) (sortA (normL A)))∧Below w.heap.size w w':=by
 obtain ⟨ua,un,uc,rfl⟩:=hu.sl;obtain ⟨la,lc,rfl⟩:=IsE.sl h;obtain ⟨W2,hW2⟩:∃ W,W=(w.alloc (.cells #[.string D,.slice ua un uc] 27)).alloc zD:=⟨_,rfl⟩;have hAd:AdAt w W2 D (.slice ua un uc):=by
  rw[hW2];refine ⟨(boxN_new w D _).below (Below.refl _ _ |>.alloc (Nat.le_refl _) _) (by simp),?_,((Below.refl _ _).alloc (Nat.le_refl _) _).alloc (by simp) _⟩;have e:(w.alloc (.cells #[.string D,.slice ua un uc] 27)).heap.size=w.heap.size+1:=by simp
  show ((w.alloc (.cells #[.string D,.slice ua un uc] 27)).alloc zD).heap[w.heap.size+1]?=_
  rw[← e];exact heap_alloc_new _ _
 obtain ⟨ln,hln⟩:∃ n,n=L.length:=⟨_,rfl⟩;rw[← hln] at h ⊢;have HCk:=Lib.hid (fun (W:World) (hW:AdAt w W D (.slice ua un uc))=>checkRef_any D hD A hA (.slice ua un uc) W (hu.below hW.bel hW.bel.size));rw[hc] at HCk;obtain ⟨ko,hko⟩:∃ o,o=keyD D.data.toList:=⟨_,rfl⟩;obtain ⟨K,hK⟩:∃ K,K=keyB ko:=⟨_,rfl⟩;have HKy:=Lib.hid (fun (W:World)=>keyR_any D hD ua un uc W);rw[← hko,← hK] at HKy;have hKl:K.data.toList=kE (D.data.toList,A):=by rw[hK,keyB_list,hko];rfl
 have hKs:K.size≤100000:=by
  have:=keyB_size D.data.toList;rw[bytes_len] at this;rw[hK,hko];omega
 obtain ⟨U,hU⟩:∃ U,U=upB K:=⟨_,rfl⟩;have HUp:=Lib.hid (fun (W:World)=>upRef_any K W (by omega));rw[← hU] at HUp;have hUl:U.data.toList=upD (kE (D.data.toList,A)):=by rw[hU,upK_list,hKl]
 obtain ⟨I,hI⟩:∃ I,I=idxK (keysE L) K.data.toList:=⟨_,rfl⟩;have HF1:=Lib.hid (fun (W:World) (hW:AdAt w W D (.slice ua un uc))=>findR7_any L hs (.slice la ln lc) K W (h.below hW.bel hW.bel.size));rw[← hI] at HF1;obtain ⟨J,hJ⟩:∃ J,J=idxK (keysE L) U.data.toList:=⟨_,rfl⟩;have HF2:=Lib.hid (fun (W:World) (hW:AdAt w W D (.slice ua un uc))=>findR7_any L hs (.slice la ln lc) U W (h.below hW.bel hW.bel.size));rw[← hJ] at HF2;have HNr:=Lib.hid (fun (W:World) (hW:AdAt w W D (.slice ua un uc))=>normRef_own D hD A hA (.slice ua un uc) W (hu.below hW.bel hW.bel.size));obtain ⟨TN,hTN⟩:∃ T:ByteArray,strV (nameN D.data.toList)=.string T:=⟨_,rfl⟩;have hTNl:TN.data.toList=nameN D.data.toList:=by
  generalize nameN D.data.toList=NM at hTN ⊢;unfold strV at hTN;injection hTN with e;rw[← e]
 have HTN:=Lib.hid hTNl;rw[hTN] at HNr;have hcA:addC (keysE L) (kE (D.data.toList,A))=if 0≤I then 68 else if U.data.toList≠[]∧J<0 then 32 else 0:=by
  rw[hI,hJ,hUl,hKl];rfl
 have HcA:=Lib.hid hcA;have HS:=Lib.hid hA;have HC8:=Lib.hid (fun (n:Int) (W:World)=>code7_any n W);have r1:decide ((200:Int)≤(ln:Int))=false:=by simp;omega
 have HAd:=Lib.hid hAd;obtain ⟨b0,b1⟩:=hAd.box.cells;clear hTN hTNl hcA hc hko hK hKl hKs hU hUl hI hJ hAd h hu hA hs hl hln
 by_cases hI0:0≤I
 ·have i1:decide ((0:Int)≤I)=true:=by simpa using hI0
  go_enter Tryz.func27,Tryz.ntmps27
  go_upto_region 1 with fail
  rw[← hW2];clear hW2
  go_wp2_with (first
   | (go_at_call 43;refine (HCk.out _ HAd.out).mono ?_;rintro e xH3 ⟨rfl,hbH3⟩;have H3:=Lib.hid (HAd.out.go hbH3);have b0:=H3.out.box.cells.1;have b1:=H3.out.box.cells.2;clear hbH3)
   | (go_at_call 11;refine (HKy.out _).mono ?_;rintro e xH4 ⟨rfl,hbH4⟩;have H4:=Lib.hid (H3.out.go hbH4);have b0:=H4.out.box.cells.1;have b1:=H4.out.box.cells.2;clear hbH4)
   | (go_at_call 25;refine (HUp.out _).mono ?_;rintro e x ⟨rfl,rfl⟩)
   | (go_at_call 13;refine (HF1.out _ H4.out).mono ?_;rintro e xH5 ⟨rfl,hbH5⟩;have H5:=Lib.hid (H4.out.go hbH5);have b0:=H5.out.box.cells.1;have b1:=H5.out.box.cells.2;clear hbH5)
   | (go_at_call 48;refine (HC8.out 68 _).mono ?_;rintro e xH6 ⟨rfl,hbH6⟩;have H6:=Lib.hid (H5.out.go hbH6);clear hbH6;(obtain ⟨c0,c1,c2,c3,c4,c5⟩:=dl_cells H6.out.res);(obtain ⟨f0,f1,f2,f3,f4,f5⟩:=dl_frozen H6.out.res);(obtain ⟨z0,z1,z2,z3,z4,z5⟩:=dl_cells (dl_set H6.out.res ⟨#[]⟩ (.slice none 0 0) 68));unfold set6D at z0 z1 z2 z3 z4 z5))
  refine bodyPost_ret (v:=doneV ⟨#[]⟩ (.slice none 0 0) 68) (by simp[results,Tryz.results27,go_sem,z0,z1,z2,z3,z4,z5]) rfl ⟨⟨#[]⟩,none,0,0,68,rfl,?_,?_,?_⟩
  ·rw[HcA.out,if_pos hI0]
  ·intro h;exact absurd h (by decide)
  ·exact dl_setB H6.out.bel (Nat.le_succ _) ⟨#[]⟩ (.slice none 0 0) 68
 ·have i1:decide ((0:Int)≤I)=false:=by simpa using hI0
  by_cases hU0:U.data.toList=[]
  ·obtain ⟨e1,e2⟩:=bytes_nil hU0;have e3:(U.toList == [])=true:=by rw[e1];rfl
   have e4:(U.toList != [])=false:=by rw[e1];rfl
   go_enter Tryz.func27,Tryz.ntmps27
   go_upto_region 1 with fail
   rw[← hW2];clear hW2
   go_wp2_with (first
    | (go_at_call 43;refine (HCk.out _ HAd.out).mono ?_;rintro e xH3 ⟨rfl,hbH3⟩;have H3:=Lib.hid (HAd.out.go hbH3);have b0:=H3.out.box.cells.1;have b1:=H3.out.box.cells.2;clear hbH3)
    | (go_at_call 11;refine (HKy.out _).mono ?_;rintro e xH4 ⟨rfl,hbH4⟩;have H4:=Lib.hid (H3.out.go hbH4);have b0:=H4.out.box.cells.1;have b1:=H4.out.box.cells.2;clear hbH4)
    | (go_at_call 25;refine (HUp.out _).mono ?_;rintro e x ⟨rfl,rfl⟩)
    | (go_at_call 13;refine (HF1.out _ H4.out).mono ?_;rintro e xH5 ⟨rfl,hbH5⟩;have H5:=Lib.hid (H4.out.go hbH5);have b0:=H5.out.box.cells.1;have b1:=H5.out.box.cells.2;clear hbH5)
    | (go_at_call 31;refine (HNr.out _ H5.out).mono ?_;rintro e xH6 ⟨v9,rfl,ho9,hbH6⟩;(obtain ⟨P9,hr9,hs9⟩:=id ho9);(obtain ⟨va,vc,hve⟩:=rowP_slice hr9);(obtain ⟨vn,hvn⟩:∃ n,n=P9.length:=⟨_,rfl⟩);rw[← hvn] at hve;subst hve;have HLt:=Lib.hid (dl_lt H5.out.res);have H6:=Lib.hid (H5.out.go hbH6);have HO9:=Lib.hid ho9;clear hbH6 ho9 hr9 hs9 hvn;(obtain ⟨c0,c1,c2,c3,c4,c5⟩:=dl_cells H6.out.res);(obtain ⟨f0,f1,f2,f3,f4,f5⟩:=dl_frozen H6.out.res);(obtain ⟨z0,z1,z2,z3,z4,z5⟩:=dl_cells (dl_set H6.out.res TN (.slice va vn vc) 0));unfold set6D at z0 z1 z2 z3 z4 z5))
   have ho:=ownM_dl HO9.out H6.out.res TN (.slice va vn vc) 0;have hbz:=dl_setB (b:=w.heap.size+1) H6.out.bel (Nat.le_succ w.heap.size) TN (.slice va vn vc) 0;unfold set6D at ho hbz;refine bodyPost_ret (v:=doneV TN (.slice va vn vc) 0) (by simp[results,Tryz.results27,go_sem,z0,z1,z2,z3,z4,z5]) rfl ⟨TN,va,vn,vc,0,rfl,?_,?_,?_⟩
   ·rw[HcA.out,if_neg (show ¬ 0≤I by omega),if_neg (fun h=>h.1 hU0)]
   ·intro _;refine ⟨?_,?_⟩
    ·exact HTN.out
    ·exact ⟨_,ho⟩
   ·exact hbz
  ·obtain ⟨e1,e2⟩:=bytes_some hU0;have e3:(U.toList == [])=false:=by simpa using e1
   have e4:(U.toList != [])=true:=by simpa using e1
   by_cases hJ0:J<0
   ·have j1:decide (J<(0:Int))=true:=by simpa using hJ0
    have tok:Hid ((0:Nat)=0):=Lib.hid rfl;go_enter Tryz.func27,Tryz.ntmps27
    go_upto_region 1 with fail
    rw[← hW2];clear hW2
    go_wp2_with (first
     | (go_at_call 43;refine (HCk.out _ HAd.out).mono ?_;rintro e xH3 ⟨rfl,hbH3⟩;have H3:=Lib.hid (HAd.out.go hbH3);have b0:=H3.out.box.cells.1;have b1:=H3.out.box.cells.2;clear hbH3)
     | (go_at_call 11;refine (HKy.out _).mono ?_;rintro e xH4 ⟨rfl,hbH4⟩;have H4:=Lib.hid (H3.out.go hbH4);have b0:=H4.out.box.cells.1;have b1:=H4.out.box.cells.2;clear hbH4)
     | (go_at_call 25;refine (HUp.out _).mono ?_;rintro e x ⟨rfl,rfl⟩)
     | (go_at_call 13;(have _t:=tok);clear tok;refine (HF1.out _ H4.out).mono ?_;rintro e xH5 ⟨rfl,hbH5⟩;have H5:=Lib.hid (H4.out.go hbH5);have b0:=H5.out.box.cells.1;have b1:=H5.out.box.cells.2;clear hbH5)
     | (go_at_call 13;refine (HF2.out _ H5.out).mono ?_;rintro e xH6 ⟨rfl,hbH6⟩;have H6:=Lib.hid (H5.out.go hbH6);have b0:=H6.out.box.cells.1;have b1:=H6.out.box.cells.2;clear hbH6)
     | (go_at_call 48;refine (HC8.out 32 _).mono ?_;rintro e xH7 ⟨rfl,hbH7⟩;have H7:=Lib.hid (H6.out.go hbH7);clear hbH7;(obtain ⟨c0,c1,c2,c3,c4,c5⟩:=dl_cells H7.out.res);(obtain ⟨f0,f1,f2,f3,f4,f5⟩:=dl_frozen H7.out.res);(obtain ⟨z0,z1,z2,z3,z4,z5⟩:=dl_cells (dl_set H7.out.res ⟨#[]⟩ (.slice none 0 0) 32));unfold set6D at z0 z1 z2 z3 z4 z5))
    refine bodyPost_ret (v:=doneV ⟨#[]⟩ (.slice none 0 0) 32) (by simp[results,Tryz.results27,go_sem,z0,z1,z2,z3,z4,z5]) rfl ⟨⟨#[]⟩,none,0,0,32,rfl,?_,?_,?_⟩
    ·rw[HcA.out,if_neg (show ¬ 0≤I by omega),if_pos ⟨hU0,(show J<0 by omega)⟩]
    ·intro h;exact absurd h (by decide)
    ·exact dl_setB H7.out.bel (Nat.le_succ _) ⟨#[]⟩ (.slice none 0 0) 32
   ·have j1:decide (J<(0:Int))=false:=by simpa using hJ0
    have tok:Hid ((0:Nat)=0):=Lib.hid rfl;go_enter Tryz.func27,Tryz.ntmps27
    go_upto_region 1 with fail
    rw[← hW2];clear hW2
    go_wp2_with (first
     | (go_at_call 43;refine (HCk.out _ HAd.out).mono ?_;rintro e xH3 ⟨rfl,hbH3⟩;have H3:=Lib.hid (HAd.out.go hbH3);have b0:=H3.out.box.cells.1;have b1:=H3.out.box.cells.2;clear hbH3)
     | (go_at_call 11;refine (HKy.out _).mono ?_;rintro e xH4 ⟨rfl,hbH4⟩;have H4:=Lib.hid (H3.out.go hbH4);have b0:=H4.out.box.cells.1;have b1:=H4.out.box.cells.2;clear hbH4)
     | (go_at_call 25;refine (HUp.out _).mono ?_;rintro e x ⟨rfl,rfl⟩)
     | (go_at_call 13;(have _t:=tok);clear tok;refine (HF1.out _ H4.out).mono ?_;rintro e xH5 ⟨rfl,hbH5⟩;have H5:=Lib.hid (H4.out.go hbH5);have b0:=H5.out.box.cells.1;have b1:=H5.out.box.cells.2;clear hbH5)
     | (go_at_call 13;refine (HF2.out _ H5.out).mono ?_;rintro e xH6 ⟨rfl,hbH6⟩;have H6:=Lib.hid (H5.out.go hbH6);have b0:=H6.out.box.cells.1;have b1:=H6.out.box.cells.2;clear hbH6)
     | (go_at_call 31;refine (HNr.out _ H6.out).mono ?_;rintro e xH7 ⟨v9,rfl,ho9,hbH7⟩;(obtain ⟨P9,hr9,hs9⟩:=id ho9);(obtain ⟨va,vc,hve⟩:=rowP_slice hr9);(obtain ⟨vn,hvn⟩:∃ n,n=P9.length:=⟨_,rfl⟩);rw[← hvn] at hve;subst hve;have HLt:=Lib.hid (dl_lt H6.out.res);have H7:=Lib.hid (H6.out.go hbH7);have HO9:=Lib.hid ho9;clear hbH7 ho9 hr9 hs9 hvn;(obtain ⟨c0,c1,c2,c3,c4,c5⟩:=dl_cells H7.out.res);(obtain ⟨f0,f1,f2,f3,f4,f5⟩:=dl_frozen H7.out.res);(obtain ⟨z0,z1,z2,z3,z4,z5⟩:=dl_cells (dl_set H7.out.res TN (.slice va vn vc) 0));unfold set6D at z0 z1 z2 z3 z4 z5))
    have ho:=ownM_dl HO9.out H7.out.res TN (.slice va vn vc) 0;have hbz:=dl_setB (b:=w.heap.size+1) H7.out.bel (Nat.le_succ w.heap.size) TN (.slice va vn vc) 0;unfold set6D at ho hbz;refine bodyPost_ret (v:=doneV TN (.slice va vn vc) 0) (by simp[results,Tryz.results27,go_sem,z0,z1,z2,z3,z4,z5]) rfl ⟨TN,va,vn,vc,0,rfl,?_,?_,?_⟩
    ·rw[HcA.out,if_neg (show ¬ 0≤I by omega),if_neg (fun h=>(show ¬ J<0 by omega) h.2)]
    ·intro _;refine ⟨?_,?_⟩
     ·exact HTN.out
     ·exact ⟨_,ho⟩
    ·exact hbz
theorem toNat_inj8:∀ x y:List UInt8,x.map UInt8.toNat=y.map UInt8.toNat→x=y
 | [],[],_=>rfl
 | [],_ :: _,h=>by cases h
 | _ :: _,[],h=>by cases h
 | a :: x,b :: y,h=>by
  simp only[List.map_cons,List.cons.injEq] at h;rw[UInt8.toNat_inj.1 h.1,toNat_inj8 x y h.2]
theorem gt_total {x y:KL} (h1:gtB x y=false) (h2:x≠y):gtB y x=true:=by
 cases e:gtB y x with
 | true=>rfl
 | false=>exact absurd (toNat_inj8 x y (List.le_antisymm ((leT_iff x y).1 h1) ((leT_iff y x).1 e))) h2
theorem gt_ne {x y:KL} (h:gtB x y=true):x≠y:=fun e=>by rw[e,gleT_refl] at h;cases h
theorem gt_not {x y:KL} (h:gtB x y=true):gtB y x=false:=by
 cases e:gtB y x with
 | false=>rfl
 | true=>exact absurd rfl (gt_ne (gtT_trans h e))
theorem gt_bl (x y:KL):Op.bytesLess y x=gtB x y:=less_gtB x y
abbrev Rise (KS:List KL):Prop:=KS.Pairwise (fun a b=>gtB b a=true)
structure CutE (L A B:List ET) (k:KL):Prop where
 below:∀ a∈A,gtB k (kE a)=true
 above:∀ b∈B,gtB (kE b) k=true
 all:L=A++B∨∃ y,kE y=k∧L=A++y :: B
theorem rise_cut:∀ (L:List ET) (k:KL),Rise (keysE L)→∃ A B,CutE L A B k
 | [],k,_=>⟨[],[],by simp,by simp,.inl rfl⟩
 | x :: l,k,h=>by
  have hx:∀ b∈l,gtB (kE b) (kE x)=true:=fun b hb=>(List.pairwise_cons.1 h).1 _ (List.mem_map_of_mem hb)
  have hl:Rise (keysE l):=(List.pairwise_cons.1 h).2
  by_cases h1:gtB k (kE x)=true
  ·obtain ⟨A,B,ha,hb,hc⟩:=rise_cut l k hl;refine ⟨x :: A,B,fun a h=>?_,hb,?_⟩
   ·rcases List.mem_cons.1 h with rfl | h
    ·exact h1
    ·exact ha a h
   ·rcases hc with rfl | ⟨y,hy,rfl⟩
    ·exact .inl rfl
    ·exact .inr ⟨y,hy,rfl⟩
  ·by_cases h2:kE x=k
   ·exact ⟨[],l,by simp,fun b hb=>by rw[← h2];exact hx b hb,.inr ⟨x,h2,rfl⟩⟩
   ·have h3:gtB (kE x) k=true:=gt_total (by simpa using h1) (Ne.symm h2);refine ⟨[],x :: l,by simp,fun b hb=>?_,.inl rfl⟩;rcases List.mem_cons.1 hb with rfl | hb
    ·exact h3
    ·exact gtT_trans (hx b hb) h3
theorem keysE_app (A B:List ET):keysE (A++B)=keysE A++keysE B:=List.map_append
theorem CutE.notA {L A B:List ET} {k:KL} (h:CutE L A B k):k ∉ keysE A:=fun hm=>by
 obtain ⟨a,ha,e⟩:=List.mem_map.1 hm;exact gt_ne (h.below a ha) e.symm
theorem CutE.notB {L A B:List ET} {k:KL} (h:CutE L A B k):k ∉ keysE B:=fun hm=>by
 obtain ⟨a,ha,e⟩:=List.mem_map.1 hm;exact gt_ne (h.above a ha) e
theorem CutE.no {L A B:List ET} {k:KL} (h:CutE L A B k):k ∉ keysE (A++B):=by
 rw[keysE_app,List.mem_append];exact fun hm=>hm.elim h.notA h.notB
theorem idx_form {A B:List ET} {y:ET} {k:KL} (hA:k ∉ keysE A) (hy:kE y=k):idxK (keysE (A++y :: B)) k=A.length:=
 idxK_at A.length (by rw[keysE_len];simp) (fun i hi hlt e=>hA (by
  rw[keysE_at _ i (by rw[keysE_len] at hi;exact hi),List.getElem_append_left hlt] at e;rw[← e]
  exact List.mem_map_of_mem (List.getElem_mem _))) (by rw[keysE_at _ A.length (by simp)];simp[hy])
theorem findIdx_form {α:Type} (p:α→Bool) (A R:List α) (ha:∀ a∈A,p a=false) (hr:∀ x∈R.head?,p x=true):((A++R).findIdx? p).getD (A++R).length=A.length:=by
 induction A with
 | nil=>
  cases R with
  | nil=>rfl
  | cons x R=>simp[List.findIdx?_cons,hr x (by simp)]
 | cons a A ih=>
  have h1:=ih (fun x hx=>ha x (by simp[hx]));rw[List.cons_append,List.findIdx?_cons,ha a (by simp)]
  cases e:(A++R).findIdx? p with
  | none=>rw[e] at h1;simp at h1 ⊢;omega
  | some i=>rw[e] at h1;simp at h1 ⊢;omega
theorem at_form {L A B R:List ET} {k:KL} (h:CutE L A B k) (hR:R=B∨∃ y,kE y=k∧R=y :: B):atK (keysE (A++R)) k=A.length:=by
 unfold atK;rw[keysE_app,findIdx_form]
 ·exact keysE_len A
 ·intro x hx;obtain ⟨a,ha,rfl⟩:=List.mem_map.1 hx;rw[gt_bl,h.below a ha];rfl
 ·intro x hx;rcases hR with rfl | ⟨y,hy,rfl⟩
  ·cases R with
   | nil=>cases hx
   | cons b B=>
    simp[keysE] at hx;subst hx;rw[gt_bl,gt_not (h.above b (by simp))];rfl
  ·simp[keysE] at hx;subst hx;rw[gt_bl,hy,gleT_refl];rfl
theorem above_form {L A B:List ET} {k:KL} (h:CutE L A B k):aboveK (keysE (A++B)) k=A.length:=by
 unfold aboveK;rw[keysE_app,findIdx_form]
 ·exact keysE_len A
 ·intro x hx;obtain ⟨a,ha,rfl⟩:=List.mem_map.1 hx;exact gt_not (h.below a ha)
 ·intro x hx
  cases B with
  | nil=>cases hx
  | cons b B=>
   simp[keysE] at hx;subst hx;exact h.above b (by simp)
theorem CutE.find {L A B:List ET} {k:KL} (h:CutE L A B k) (hk:k≠[]):(L=A++B∧findK (keysE L) k = -1∧idxK (keysE L) k = -1)∨((∃ y,kE y=k∧L=A++y :: B)∧findK (keysE L) k=A.length∧idxK (keysE L) k=A.length):=by
 have hf:findK (keysE L) k=idxK (keysE L) k:=by unfold findK;rw[if_neg hk]
 rcases h.all with e | ⟨y,hy,e⟩
 ·have:=idxK_no h.no;rw[← e] at this;exact .inl ⟨e,hf.trans this,this⟩
 ·have:=idx_form (B:=B) h.notA hy;rw[← e] at this;exact .inr ⟨⟨y,hy,e⟩,hf.trans this,this⟩
theorem CutE.putE {L A B:List ET} {e:ET} (h:CutE L A B (kE e)) (hk:kE e≠[]):Go.Proofs.YtgaaefcanfglhaaGreatDoor.putE L e=A++e :: B:=by
 unfold Go.Proofs.YtgaaefcanfglhaaGreatDoor.putE fromK toK;rcases h.find hk with ⟨rfl,hf,_⟩ | ⟨⟨y,hy,rfl⟩,hf,_⟩
 ·rw[hf,if_pos (by omega),if_pos (by omega),above_form h];simp
 ·rw[hf,if_neg (by omega),if_neg (by omega)];simp[List.drop_append]
theorem CutE.putD {L A B:List ET} {e:ET} (h:CutE L A B (kE e)):Go.Proofs.YtgaaefcanfglhaaGreatDoor.putD L e=A++e :: B:=by
 unfold Go.Proofs.YtgaaefcanfglhaaGreatDoor.putD;rcases h.all with rfl | ⟨y,hy,rfl⟩
 ·rw[at_form h (.inl rfl)];have hn:(keysE (A++B))[A.length]?≠some (kE e):=fun hs=>by
   exact h.no (List.mem_of_getElem? hs)
  rw[if_neg hn];simp
 ·rw[at_form h (.inr ⟨y,hy,rfl⟩)];have hs:(keysE (A++y :: B))[A.length]?=some (kE e):=by
   rw[keysE_app,List.getElem?_append_right (by rw[keysE_len];exact Nat.le_refl _),keysE_len];simp[keysE,hy]
  rw[if_pos hs];simp[List.drop_append]
theorem CutE.delE {L A B:List ET} {k:KL} (h:CutE L A B k) (hk:k≠[]):Go.Proofs.YtgaaefcanfglhaaGreatDoor.delE L k=A++B:=by
 unfold Go.Proofs.YtgaaefcanfglhaaGreatDoor.delE;rcases h.find hk with ⟨rfl,hf,_⟩ | ⟨⟨y,hy,rfl⟩,hf,_⟩
 ·rw[hf,if_pos (by omega)]
 ·rw[hf,if_neg (by omega)];simp[List.drop_append]
theorem CutE.put {L A B:List ET} {e:ET} (h:CutE L A B (kE e)):CutE (A++e :: B) A B (kE e):=⟨h.below,h.above,.inr ⟨e,rfl,rfl⟩⟩
theorem CutE.del {L A B:List ET} {k:KL} (h:CutE L A B k):CutE (A++B) A B k:=⟨h.below,h.above,.inl rfl⟩
theorem CutE.len {L A B:List ET} {k:KL} (h:CutE L A B k) (hk:k≠[]):L.length=A.length+B.length+(if findK (keysE L) k<0 then 0 else 1):=by
 rcases h.find hk with ⟨e,hf,_⟩ | ⟨⟨y,hy,e⟩,hf,_⟩
 ·rw[if_pos (by omega),e];simp
 ·rw[if_neg (by omega),e];simp;omega
theorem rise_put {L A B:List ET} {e:ET} (h:CutE L A B (kE e)) (hL:Rise (keysE L)):Rise (keysE (A++e :: B)):=by
 have hAB:Rise (keysE A)∧Rise (keysE B):=by
  rcases h.all with rfl | ⟨y,hy,rfl⟩
  ·rw[keysE_app] at hL;exact ⟨(List.pairwise_append.1 hL).1,(List.pairwise_append.1 hL).2.1⟩
  ·rw[keysE_app] at hL;exact ⟨(List.pairwise_append.1 hL).1,(List.pairwise_cons.1 (List.pairwise_append.1 hL).2.1).2⟩
 rw[keysE_app];refine List.pairwise_append.2 ⟨hAB.1,List.pairwise_cons.2 ⟨fun b hb=>?_,hAB.2⟩,fun a ha b hb=>?_⟩
 ·obtain ⟨x,hx,rfl⟩:=List.mem_map.1 hb;exact h.above x hx
 ·obtain ⟨x,hx,rfl⟩:=List.mem_map.1 ha;rcases List.mem_cons.1 hb with rfl | hb
  ·exact h.below x hx
  ·obtain ⟨z,hz,rfl⟩:=List.mem_map.1 hb;exact gtT_trans (h.above z hz) (h.below x hx)
theorem rise_del {L A B:List ET} {k:KL} (h:CutE L A B k) (hL:Rise (keysE L)):Rise (keysE (A++B)):=by
 rcases h.all with rfl | ⟨y,hy,rfl⟩
 ·exact hL
 ·rw[keysE_app] at hL ⊢;have h2:=List.pairwise_append.1 hL;exact List.pairwise_append.2 ⟨h2.1,(List.pairwise_cons.1 h2.2.1).2,fun a ha b hb=>h2.2.2 a ha b (List.mem_cons_of_mem _ hb)⟩
theorem stands_rise {KS:List KL} (h:standsK KS=true):Rise KS:=
 List.pairwise_iff_getElem.2 fun i j hi hj hij=>by
  have:=rise_lt (fun i hi=>(stands_at h i hi).1) j i hij hj
  rwa [getD_in _ _ hi,getD_in _ _ hj] at this
theorem stands_up {KS:List KL} (h:standsK KS=true):∀ x∈KS,upD x=[]∨upD x∈KS:=fun x hx=>by
 obtain ⟨i,hi,rfl⟩:=List.getElem_of_mem hx;have h2:=(stands_at h i hi).2;unfold upK at h2;rw[getD_in _ _ hi] at h2;simp only[Bool.or_eq_true,List.isEmpty_iff,List.contains_iff_mem] at h2;exact h2
theorem stands_of {KS:List KL} (h1:Rise KS) (h2:∀ x∈KS,upD x=[]∨upD x∈KS):standsK KS=true:=
 stands_yes fun i hi=>by
  refine ⟨?_,?_⟩
  ·unfold riseK
   by_cases h0:i=0
   ·subst h0;rfl
   ·have:=List.pairwise_iff_getElem.1 h1 (i - 1) i (by omega) hi (by omega);rw[getD_in _ _ hi,getD_in _ _ (show i - 1<KS.length by omega),this];simp
  ·unfold upK;rw[getD_in _ _ hi];rcases h2 _ (List.getElem_mem hi) with h | h
   ·rw[h];rfl
   ·simp[h]
def stepT (L:List ET) (x:Nat):List ET:=if addC (keysE L) (nmE (x % 12))=0 then putD L (entE (x % 12) x) else L
def mkT (J:List UInt8):List ET:=J.foldl (fun L b=>stepT L b.toNat) []
theorem mkT_snoc (J:List UInt8) (b:UInt8):mkT (J++[b])=stepT (mkT J) b.toNat:=by simp[mkT]
structure GoodT (L:List ET):Prop where
 stands:standsK (keysE L)=true
 ents:∀ e∈L,∃ i x,i<256∧x<256∧e=entE i x
theorem addC_zero {KS:List KL} {k:KL} (h:addC KS k=0):k ∉ KS∧(upD k=[]∨upD k∈KS):=by
 unfold addC at h
 by_cases h1:0≤idxK KS k
 ·rw[if_pos h1] at h;omega
 ·rw[if_neg h1] at h;refine ⟨fun hm=>?_,?_⟩
  ·obtain ⟨j,_,e,_⟩:=idxK_some hm;omega
  ·by_cases h2:upD k=[]
   ·exact .inl h2
   ·by_cases h3:idxK KS (upD k)<0
    ·rw[if_pos ⟨h2,h3⟩] at h;omega
    ·right
     by_cases h4:upD k∈KS
     ·exact h4
     ·rw[idxK_no h4] at h3;omega
theorem good_put {L:List ET} (h:GoodT L) {e:ET} (he:∃ i x,i<256∧x<256∧e=entE i x) (hu:upD (kE e)=[]∨upD (kE e)∈keysE L):GoodT (putD L e)∧(putD L e).length≤L.length+1:=by
 obtain ⟨A,B,hc⟩:=rise_cut L (kE e) (stands_rise h.stands);have hup:=stands_up h.stands;have hin:∀ x∈keysE L,x∈keysE (A++e :: B):=fun x hx=>by
  rw[keysE_app];rcases hc.all with rfl | ⟨y,hy,rfl⟩
  ·rw[keysE_app,List.mem_append] at hx;rcases hx with h | h
   ·exact List.mem_append.2 (.inl h)
   ·exact List.mem_append.2 (.inr (List.mem_cons_of_mem _ h))
  ·rw[keysE_app,List.mem_append] at hx;rcases hx with h | h
   ·exact List.mem_append.2 (.inl h)
   ·refine List.mem_append.2 (.inr ?_);rcases List.mem_cons.1 h with rfl | h
    ·rw[hy];exact List.mem_cons_self
    ·exact List.mem_cons_of_mem _ h
 have hAB:∀ z,z∈A∨z∈B→z∈L:=fun z hz=>by
  rcases hc.all with rfl | ⟨y,hy,rfl⟩
  ·exact List.mem_append.2 hz
  ·rcases hz with h | h
   ·exact List.mem_append.2 (.inl h)
   ·exact List.mem_append.2 (.inr (List.mem_cons_of_mem _ h))
 rw[hc.putD];refine ⟨⟨stands_of (rise_put hc (stands_rise h.stands)) fun x hx=>?_,fun z hz=>?_⟩,?_⟩
 ·obtain ⟨z,hz,rfl⟩:=List.mem_map.1 hx;rw[List.mem_append,List.mem_cons] at hz;have old:z∈A∨z∈B→upD (kE z)=[]∨upD (kE z)∈keysE (A++e :: B):=fun hz=>by
   rcases hup (kE z) (List.mem_map_of_mem (hAB z hz)) with h | h
   ·exact .inl h
   ·exact .inr (hin _ h)
  rcases hz with h | rfl | h
  ·exact old (.inl h)
  ·rcases hu with h | h
   ·exact .inl h
   ·exact .inr (hin _ h)
  ·exact old (.inr h)
 ·rw[List.mem_append,List.mem_cons] at hz;rcases hz with hz | rfl | hz
  ·exact h.ents z (hAB z (.inl hz))
  ·exact he
  ·exact h.ents z (hAB z (.inr hz))
 ·rcases hc.all with rfl | ⟨y,hy,rfl⟩ <;> simp <;> omega
theorem good_nil:GoodT []:=⟨rfl,fun e he=>by cases he⟩
theorem step_good {L:List ET} (h:GoodT L) {x:Nat} (hx:x<256):GoodT (stepT L x)∧(stepT L x).length≤L.length+1:=by
 unfold stepT
 split
 ·rename_i h0
  have hz:=addC_zero h0;have hk:kE (entE (x % 12) x)=nmE (x % 12):=by rw[ent_key,Nat.mod_mod]
  exact good_put h ⟨x % 12,x,by omega,hx,rfl⟩ (by rw[hk];exact hz.2)
 ·exact ⟨h,by omega⟩
theorem foldT_good:∀ (J:List UInt8) (L:List ET),GoodT L→GoodT (J.foldl (fun L b=>stepT L b.toNat) L)∧(J.foldl (fun L b=>stepT L b.toNat) L).length≤L.length+J.length
 | [],L,h=>⟨h,by simp⟩
 | b :: J,L,h=>by
  have h1:=step_good h (x:=b.toNat) b.toNat_lt;have h2:=foldT_good J _ h1.1;refine ⟨h2.1,?_⟩;have:=h1.2;have:=h2.2;simp only[List.foldl_cons,List.length_cons];omega
theorem mkT_good (J:List UInt8):GoodT (mkT J)∧(mkT J).length≤J.length:=by
 have:=foldT_good J [] good_nil;simpa [mkT] using this
theorem ents_fine {L:List ET} (h:∀ e∈L,∃ i x,i<256∧x<256∧e=entE i x) (hl:L.length≤1000):fineE L:=
 ⟨⟨hl,fun e he=>by obtain ⟨i,x,hi,hx,rfl⟩:=h e he;exact ⟨(ent_small i x hi hx).1,(ent_small i x hi hx).2.1.1⟩⟩,fun e he=>by obtain ⟨i,x,hi,hx,rfl⟩:=h e he;exact (ent_small i x hi hx).2.1⟩
theorem ents_may {L:List ET} (h:∀ e∈L,∃ i x,i<256∧x<256∧e=entE i x) (hl:L.length≤200):mayE L=standsK (keysE L):=
 may_stands hl fun i hi=>by obtain ⟨j,x,hj,hx,e⟩:=h _ (List.getElem_mem hi);rw[e];exact ent_ok j x hj hx
theorem GoodT.may {L:List ET} (h:GoodT L) (hl:L.length≤200):mayE L=true:=by rw[ents_may h.ents hl];exact h.stands
set_option maxRecDepth 100000 in
set_option maxHeartbeats 8000000 in
theorem putR7_any (L:List ET) (hs:smallE L) (v:Value) (hcap:capV v) (D:ByteArray) (hD:D.size≤100000) (A:List AT) (u:Value) (w:World) (h:IsE w.heap.size w L v) (hu:IsA w.heap.size w A u) :
  Calls Tryz.prog 19 #[v,.agg #[.string D,u]] w fun e w'=>∃ v',e=.returned v'∧IsE w'.heap.size w' (putD L (D.data.toList,A)) v'∧capV v'∧Below w.heap.size w w':=by
 have hL:=hs.1;obtain ⟨ua,un,uc,rfl⟩:=hu.sl;obtain ⟨W0,hW0⟩:∃ W,W=w.alloc (.cells #[.string D,.slice ua un uc] 27):=⟨_,rfl⟩;have hb0:Below w.heap.size w W0:=by rw[hW0];exact (Below.refl _ _).alloc (Nat.le_refl _) _
 have hz0:w.heap.size<W0.heap.size:=by rw[hW0];simp
 have e0:W0.cell? ⟨w.heap.size,0,none⟩=some (.string D):=by rw[hW0];simp
 have e1:W0.cell? ⟨w.heap.size,1,none⟩=some (.slice ua un uc):=by rw[hW0];simp
 have HBox:=Lib.hid (fun (W:World) (hW:Below W0.heap.size W0 W)=>And.intro ((hW.cell (p:=⟨w.heap.size,0,none⟩) hz0).trans e0) ((hW.cell (p:=⟨w.heap.size,1,none⟩) hz0).trans e1));have hkey:=fun W=>keyR_any D hD ua un uc W
 obtain ⟨K,hK⟩:∃ K,K=keyB (keyD D.data.toList):=⟨_,rfl⟩;rw[← hK] at hkey;have hKl:K.data.toList=kE (D.data.toList,A):=by rw[hK,keyB_list];rfl
 obtain ⟨KS,hKS⟩:∃ KS,KS=keysE L:=⟨_,rfl⟩;have hKn:KS.length=L.length:=by rw[hKS,keysE_len]
 have hPut:putD L (D.data.toList,A)=L.take (atK KS K.data.toList)++[(D.data.toList,A)]++L.drop (if KS[atK KS K.data.toList]?=some K.data.toList then atK KS K.data.toList+1 else atK KS K.data.toList):=by unfold putD;rw[← hKl,hKS]
 have HKey:=Lib.hid hkey;have HB0:=Lib.hid hb0;have HW0:=Lib.hid hW0;have HIsE:=Lib.hid h;have HUo:Hid (∀ W,Below w.heap.size w W→IsAo (fun b=>b<w.heap.size) W A (.slice ua un uc)):=Lib.hid (fun W hW=>(IsA.isAo hu).imp (fun _ h=>h) (fun b o hk=>hW.cell (p:=⟨b,o,none⟩) hk));have HS:=Lib.hid hs;obtain ⟨Z,hZ⟩:∃ Z,Z=putD L (D.data.toList,A):=⟨_,rfl⟩;rw[← hZ] at hPut ⊢;have HPut:=Lib.hid hPut;have HKs:=Lib.hid hKS;have HKn:=Lib.hid hKn;obtain ⟨n,hn⟩:∃ n,n=L.length:=⟨_,rfl⟩;obtain ⟨la,lc,hv,hmx,hcell⟩:=id h;rw[← hn] at hL hv hmx;unfold maxLen at hmx;subst hv;have hcap':=hcap;have HN:=Lib.hid hn;have HC:=Lib.hid hcell;clear hW0 hK hKl hKS hKn hkey hPut hZ hb0 hu h hn hcell hcap hs;go_enter Tryz.func19,Tryz.ntmps19
 go_upto_region 1 with (fail)
 rw[← HW0.out];clear HW0
 go_upto_region 2 with (go_at_call 11;refine (HKey.out _).mono ?_;rintro e w2 ⟨rfl,hb2⟩;have HB2a:=Lib.hid hb2;have HB2:=Lib.hid (HB0.out.trans (hb2.mono (by omega)));clear hb2)
 clear e0 e1
 go_wp2_with (fail)
 go_loopw [6] (fun i wr=>∃ j:Nat,j≤n∧i=.int .i64 j∧Hid (∀ i (hi:i<KS.length),i<j→Op.bytesLess KS[i] K.data.toList=true)∧Below W0.heap.size W0 wr) (fun i wr=>n - (intOf i).toNat)
 case atStart=>exact ⟨0,by omega,rfl,Lib.hid (fun _ _ h=>absurd h (by omega)),HB2a.out⟩
 case round=>
  obtain ⟨j,hj,rfl,HAll,hbelW⟩:=hrel;have HBelW:=Lib.hid hbelW;have HBel:=Lib.hid (HB0.out.trans (hbelW.mono (by omega)));have hbs:=HBel.out.size
  by_cases hlt:j<n
  ·have t1:decide ((j:Int)<(n:Int))=true:=by simp <;> omega
   have t1':decide (j<n)=true:=by simpa using hlt
   have q0:(j:Int)<(n:Int):=by omega
   have hjL:j<L.length:=by rw[← HN.out];exact hlt
   have hjK:j<KS.length:=by rw[HKn.out];exact hjL
   obtain ⟨b,off,uj,rfl,hb0,c0,c1,hto⟩:=HC.out j hjL;have ht:=IsAo.isA hto;obtain ⟨ja,jn,jc,rfl⟩:=ht.sl;obtain ⟨hcap',_⟩:n≤lc∧_:=hcap';obtain ⟨X,hX⟩:∃ X:ByteArray,ofL L[j].1=X:=⟨_,rfl⟩;have hXl:X.data.toList=L[j].1:=by rw[← hX,ofL_list]
   have hd0:∀ W,Below w.heap.size w W→W.cell? ⟨b,off+j * 2,none⟩=some (.string X):=fun W hW=>by rw[hW.cell (p:=⟨b,_,none⟩) hb0,c0,← hX];rfl
   have hd1:=fun (W:World) (hW:Below w.heap.size w W)=>(hW.cell (p:=⟨b,off+j * 2+1,none⟩) hb0).trans c1
   have d0:=hd0 wr HBel.out;have d1:=hd1 wr HBel.out;have HD0:=Lib.hid hd0;have HD1:=Lib.hid hd1;have hXs:X.size≤100000:=by rw[← bytes_len,hXl];exact (HS.out.2 _ (List.getElem_mem hjL)).1
   have hkey:=fun W=>keyR_any X hXs ja jn jc W
   obtain ⟨Y,hY⟩:∃ Y,Y=keyB (keyD X.data.toList):=⟨_,rfl⟩;rw[← hY] at hkey;have hYl:Y.data.toList=KS[j]:=by
    rw[hY,keyB_list,hXl];have hKS:=HKs.out;subst hKS;exact (keysE_at L j hjL).symm
   have HKy:=Lib.hid hkey;obtain ⟨bl,hbl⟩:∃ bl,Op.bytesLess Y.toList K.toList=bl:=⟨_,rfl⟩;have hbl2:Op.bytesLess KS[j] K.data.toList=bl:=by rw[← hYl,← hbl,ByteArray.toList_eq,ByteArray.toList_eq]
   have HBl2:=Lib.hid hbl2;have HYl:=Lib.hid hYl;have hbsW:=HBelW.out.size;clear hX hXl c0 c1 ht hto hkey hY hYl hbelW hbl2 hd0 hd1
   cases bl with
   | true=>
    have HN1:Hid (∀ i (hi:i<KS.length),i<j+1→Op.bytesLess KS[i] K.data.toList=true):=Lib.hid (fun i h1 h3=>by
     by_cases hk:i<j
     ·exact HAll.out i h1 hk
     ·obtain rfl:i=j:=by omega
      exact HBl2.out)
    go_wp2_with (go_at_call 11;refine (HKy.out _).mono ?_;rintro e w4 ⟨rfl,hb4⟩;have HB4:=Lib.hid (HBelW.out.trans (hb4.mono hbsW));clear hb4)
    go_roundw
    case rel=>exact ⟨j+1,by omega,by go_num,HN1,HB4.out⟩
    case measure=>simp[intOf];omega
   | false=>
    have hat:atK KS K.data.toList=j:=atK_eq j (by omega) HAll.out (fun _=>HBl2.out);have ew:IntKind.i64.wrap ((j:Int)+1)=(j:Int)+1:=IntWalk.i64_in _ (by omega)
    by_cases heq:Y=K
    ·have e2:(K.toList == K.toList)=true:=by simp
     have hdrop:(if KS[atK KS K.data.toList]?=some K.data.toList then atK KS K.data.toList+1 else atK KS K.data.toList)=j+1:=by
      rw[hat,if_pos (by rw[List.getElem?_eq_getElem hjK,← HYl.out,heq])]
     have heq:=heq.symm;subst heq;have HTk:Hid (∀ W,Below w.heap.size w W→IsEo (fun b=>b<w.heap.size) W (L.take j) (.slice (some ⟨b,off,none⟩) j lc)):=Lib.hid (fun W hW=>IsE.take (IsE.keep HIsE.out hW) j (by have:=HN.out;omega) lc);obtain ⟨A2,hA2⟩:∃ A2:Option Addr,(if lc=j+1 then some (⟨b,off,none⟩:Addr) else some ⟨b,off+(j+1) * 2,none⟩)=A2:=⟨_,rfl⟩
     have HDr:Hid (∀ W,Below w.heap.size w W→IsEo (fun b=>b<w.heap.size) W (L.drop (j+1)) (.slice A2 (n - (j+1)) (lc - (j+1)))):=Lib.hid (fun W hW=>by
      have hN:=HN.out;rw[← hA2]
      by_cases e:lc=j+1
      ·have h0:L.drop (j+1)=[]:=List.drop_eq_nil_of_le (by omega);rw[h0,show n - (j+1)=0 from by omega];exact isE_nil _ _ _ _
      ·rw[if_neg e];have:=IsE.drop (IsE.keep HIsE.out hW) (j+1) (by omega) (lc - (j+1));rw[← hN] at this
       exact this)
     have q1:(j≤lc)=True:=by simp <;> omega
     have q1':j≤lc:=by omega
     have q2:(j+1≤n)=True:=by simp <;> omega
     have q3:(n≤lc)=True:=by simp <;> omega
     have q4:(0:Int)≤(j:Int):=by omega
     have q5:(((j:Int)+1)).toNat=j+1:=by omega
     have q6:(0≤((j:Int)+1))=True:=by simp;try omega
     have q7:(((j:Int)+1)≤(n:Int))=True:=by simp <;> omega
     have HFin:Hid (L.take j++[(D.data.toList,A)]++L.drop (j+1)=Z):=Lib.hid (by rw[HPut.out,hdrop,hat]);clear hat hdrop;have tok1:Hid ((0:Nat)=0):=Lib.hid rfl
     go_upto_region 5 with (go_at_call 11;(have _t:=tok1);clear tok1;refine (HKy.out _).mono ?_;rintro e w4 ⟨rfl,hb4⟩;have HBTW:=Lib.hid (HBelW.out.trans (hb4.mono hbsW));have HBT:=Lib.hid (HBel.out.trans (hb4.mono hbs));have hbT:=HBTW.out.size;have hbTw:=HBT.out.size;clear hb4)
     go_upto_region 6 with (at_builtin;refine wpList_append_list rfl (.tmp 25) (.tmp 28) rfl W0.heap.size (.slice (some ⟨w4.heap.size,0,none⟩) 0 0) _ [] (L.take j) rfl (ownE_empty (heap_alloc_new w4 _) hbT) rfl (HTk.out _ (HBT.out.alloc hbTw _)) (by omega) (by have:=HN.out;simp <;> omega) (by simp <;> omega) ?_;intro v6 w6 hown6 hb6;rw[List.nil_append] at hown6;have HO6:=Lib.hid hown6;have HB6W:=Lib.hid ((HBTW.out.alloc hbT _).trans hb6);have HB6:=Lib.hid (HB0.out.trans (HB6W.out.mono (by omega)));have x0:=(HBox.out _ HB6W.out).1;have x1:=(HBox.out _ HB6W.out).2;(obtain ⟨oa,oc,hov⟩:=ownE_slice hown6);(obtain ⟨on,hon⟩:∃ k,k=(L.take j).length:=⟨_,rfl⟩);rw[← hon] at hov;subst hov;clear hown6 hb6 hon)
     go_upto_region 7 with (at_builtin;refine wpList_append_ent rfl (.tmp 30) (.tmp 32) rfl W0.heap.size (.slice oa on oc) (L.take j) D (.slice ua un uc) A rfl HO6.out rfl (HUo.out _ HB6.out) (by omega) (by have:=HN.out;simp <;> omega) HB6W.out.size ?_;intro v7 w7 hown7 hb7;have HO7:=Lib.hid hown7;have HB7W:=Lib.hid (HB6W.out.trans hb7);have HB7:=Lib.hid (HB0.out.trans (HB7W.out.mono (by omega)));(obtain ⟨pa,pc,hpv⟩:=ownE_slice hown7);(obtain ⟨pn,hpn⟩:∃ k,k=(L.take j++[(D.data.toList,A)]).length:=⟨_,rfl⟩);rw[← hpn] at hpv;subst hpv;have y0:=HD0.out _ HB7.out;have y1:=HD1.out _ HB7.out;clear hown7 hb7 hpn)
     go_upto_region 9 with (go_at_call 11;refine (HKy.out _).mono ?_;rintro e w8 ⟨rfl,hb8⟩;have HO8:=Lib.hid (ownE_below (ok':=fun b=>b<w.heap.size) HO7.out hb8 (fun b hk=>by have:=HB7.out.size;omega) (fun _ h=>h));have HB8W:=Lib.hid (HB7W.out.trans (hb8.mono HB7W.out.size));have HB8:=Lib.hid (HB0.out.trans (HB8W.out.mono (by omega)));clear hb8)
     go_wp2_with (at_builtin;refine wpList_append_list rfl (.tmp 49) (.tmp 52) rfl W0.heap.size (.slice pa pn pc) _ (L.take j++[(D.data.toList,A)]) (L.drop (j+1)) rfl HO8.out rfl (HDr.out _ HB8.out) (by omega) (by have:=HN.out;simp <;> omega) HB8W.out.size ?_;intro v9 w9 hown9 hb9;have HO9:=Lib.hid hown9;have HB9:=Lib.hid (HB0.out.trans ((HB8W.out.trans hb9).mono (by omega)));(obtain ⟨sa,sc,hsv⟩:=ownE_slice hown9);(obtain ⟨sn,hsn⟩:∃ k,k=(L.take j++[(D.data.toList,A)]++L.drop (j+1)).length:=⟨_,rfl⟩);rw[← hsn] at hsv;subst hsv;clear hown9 hb9 hsn)
     all_goals
      go_ret;exact ⟨_,rfl,by rw[← HFin.out];exact ownE_isE HO9.out (by have:=HN.out;unfold maxLen;simp <;> omega) (fun b hb=>by have:=HB9.out.size;omega),ownE_cap HO9.out,HB9.out⟩
    ·have e2:=str_ne heq;have hdrop:(if KS[atK KS K.data.toList]?=some K.data.toList then atK KS K.data.toList+1 else atK KS K.data.toList)=j:=by
      rw[hat,if_neg (by
       rw[List.getElem?_eq_getElem hjK,← HYl.out];simp only[Option.some.injEq]
       exact fun e=>heq (bytes_ext e))]
     clear heq;have HTk:Hid (∀ W,Below w.heap.size w W→IsEo (fun b=>b<w.heap.size) W (L.take j) (.slice (some ⟨b,off,none⟩) j lc)):=Lib.hid (fun W hW=>IsE.take (IsE.keep HIsE.out hW) j (by have:=HN.out;omega) lc)
     have HDr:Hid (∀ W,Below w.heap.size w W→IsEo (fun b=>b<w.heap.size) W (L.drop (j)) (.slice (some ⟨b,off+j * 2,none⟩) (n - j) (lc - j))):=Lib.hid (fun W hW=>by
      have hN:=HN.out;have:=IsE.drop (IsE.keep HIsE.out hW) j (by omega) (lc - j);rw[← hN] at this
      exact this)
     have q8:(lc=j)=False:=by simp;omega
     have q2:(j≤n)=True:=by simp;omega
     have q7:((j:Int)≤(n:Int))=True:=by simp;omega
     have q1:(j≤lc)=True:=by simp;omega
     have q1':j≤lc:=by omega
     have q3:(n≤lc)=True:=by simp;omega
     have q4:(0:Int)≤(j:Int):=by omega
     have HFin:Hid (L.take j++[(D.data.toList,A)]++L.drop (j)=Z):=Lib.hid (by rw[HPut.out,hdrop,hat]);clear hat hdrop;have tok1:Hid ((0:Nat)=0):=Lib.hid rfl
     go_upto_region 5 with (go_at_call 11;(have _t:=tok1);clear tok1;refine (HKy.out _).mono ?_;rintro e w4 ⟨rfl,hb4⟩;have HBTW:=Lib.hid (HBelW.out.trans (hb4.mono hbsW));have HBT:=Lib.hid (HBel.out.trans (hb4.mono hbs));have hbT:=HBTW.out.size;have hbTw:=HBT.out.size;clear hb4)
     go_upto_region 6 with (at_builtin;refine wpList_append_list rfl (.tmp 25) (.tmp 28) rfl W0.heap.size (.slice (some ⟨w4.heap.size,0,none⟩) 0 0) _ [] (L.take j) rfl (ownE_empty (heap_alloc_new w4 _) hbT) rfl (HTk.out _ (HBT.out.alloc hbTw _)) (by omega) (by have:=HN.out;simp <;> omega) (by simp <;> omega) ?_;intro v6 w6 hown6 hb6;rw[List.nil_append] at hown6;have HO6:=Lib.hid hown6;have HB6W:=Lib.hid ((HBTW.out.alloc hbT _).trans hb6);have HB6:=Lib.hid (HB0.out.trans (HB6W.out.mono (by omega)));have x0:=(HBox.out _ HB6W.out).1;have x1:=(HBox.out _ HB6W.out).2;(obtain ⟨oa,oc,hov⟩:=ownE_slice hown6);(obtain ⟨on,hon⟩:∃ k,k=(L.take j).length:=⟨_,rfl⟩);rw[← hon] at hov;subst hov;clear hown6 hb6 hon)
     go_upto_region 7 with (at_builtin;refine wpList_append_ent rfl (.tmp 30) (.tmp 32) rfl W0.heap.size (.slice oa on oc) (L.take j) D (.slice ua un uc) A rfl HO6.out rfl (HUo.out _ HB6.out) (by omega) (by have:=HN.out;simp <;> omega) HB6W.out.size ?_;intro v7 w7 hown7 hb7;have HO7:=Lib.hid hown7;have HB7W:=Lib.hid (HB6W.out.trans hb7);have HB7:=Lib.hid (HB0.out.trans (HB7W.out.mono (by omega)));(obtain ⟨pa,pc,hpv⟩:=ownE_slice hown7);(obtain ⟨pn,hpn⟩:∃ k,k=(L.take j++[(D.data.toList,A)]).length:=⟨_,rfl⟩);rw[← hpn] at hpv;subst hpv;have y0:=HD0.out _ HB7.out;have y1:=HD1.out _ HB7.out;clear hown7 hb7 hpn)
     go_upto_region 9 with (go_at_call 11;refine (HKy.out _).mono ?_;rintro e w8 ⟨rfl,hb8⟩;have HO8:=Lib.hid (ownE_below (ok':=fun b=>b<w.heap.size) HO7.out hb8 (fun b hk=>by have:=HB7.out.size;omega) (fun _ h=>h));have HB8W:=Lib.hid (HB7W.out.trans (hb8.mono HB7W.out.size));have HB8:=Lib.hid (HB0.out.trans (HB8W.out.mono (by omega)));clear hb8)
     go_wp2_with (at_builtin;refine wpList_append_list rfl (.tmp 49) (.tmp 52) rfl W0.heap.size (.slice pa pn pc) _ (L.take j++[(D.data.toList,A)]) (L.drop (j)) rfl HO8.out rfl (HDr.out _ HB8.out) (by omega) (by have:=HN.out;simp <;> omega) HB8W.out.size ?_;intro v9 w9 hown9 hb9;have HO9:=Lib.hid hown9;have HB9:=Lib.hid (HB0.out.trans ((HB8W.out.trans hb9).mono (by omega)));(obtain ⟨sa,sc,hsv⟩:=ownE_slice hown9);(obtain ⟨sn,hsn⟩:∃ k,k=(L.take j++[(D.data.toList,A)]++L.drop (j)).length:=⟨_,rfl⟩);rw[← hsn] at hsv;subst hsv;clear hown9 hb9 hsn)
     all_goals
      go_ret;exact ⟨_,rfl,by rw[← HFin.out];exact ownE_isE HO9.out (by have:=HN.out;unfold maxLen;simp <;> omega) (fun b hb=>by have:=HB9.out.size;omega),ownE_cap HO9.out,HB9.out⟩
  ·obtain rfl:j=n:=by omega
   have t1:decide ((j:Int)<(j:Int))=false:=by simp
   have t1':decide (j<j)=false:=by simp
   have hat:atK KS K.data.toList=j:=atK_eq j (by rw[HKn.out,← HN.out];exact Nat.le_refl _) (fun i hi h=>HAll.out i hi h) (fun hj=>absurd hj (by rw[HKn.out,← HN.out];omega));have hdrop:(if KS[atK KS K.data.toList]?=some K.data.toList then atK KS K.data.toList+1 else atK KS K.data.toList)=j:=by
    rw[hat,if_neg (by rw[List.getElem?_eq_none (by rw[HKn.out,← HN.out];exact Nat.le_refl _)];simp)]
   have HBTW:=HBelW;have HBT:=HBel;have hbT:=HBTW.out.size;have hbTw:=HBT.out.size;clear hbelW
   cases la with
   | none=>
    obtain ⟨hn0,hl0⟩:j=0∧lc=0:=hcap';subst hn0 hl0;have HTk:Hid (∀ W,Below w.heap.size w W→IsEo (fun b=>b<w.heap.size) W (L.take 0) (.slice none 0 0)):=Lib.hid (fun W hW=>by rw[List.take_zero];exact isE_nil _ _ _ _);have HDr:Hid (∀ W,Below w.heap.size w W→IsEo (fun b=>b<w.heap.size) W (L.drop 0) (.slice none 0 0)):=Lib.hid (fun W hW=>by rw[List.length_eq_zero_iff.1 HN.out.symm];exact isE_nil _ _ _ _);have HFin:Hid (L.take 0++[(D.data.toList,A)]++L.drop (0)=Z):=Lib.hid (by rw[HPut.out,hdrop,hat]);clear hat hdrop;have tok1:Hid ((0:Nat)=0):=Lib.hid rfl
    go_upto_region 5 with (fail)
    go_upto_region 6 with (at_builtin;refine wpList_append_list rfl (.tmp 25) (.tmp 28) rfl W0.heap.size (.slice (some ⟨wr.heap.size,0,none⟩) 0 0) _ [] (L.take 0) rfl (ownE_empty (heap_alloc_new wr _) hbT) rfl (HTk.out _ (HBT.out.alloc hbTw _)) (by omega) (by have:=HN.out;simp <;> omega) (by simp <;> omega) ?_;intro v6 w6 hown6 hb6;rw[List.nil_append] at hown6;have HO6:=Lib.hid hown6;have HB6W:=Lib.hid ((HBTW.out.alloc hbT _).trans hb6);have HB6:=Lib.hid (HB0.out.trans (HB6W.out.mono (by omega)));have x0:=(HBox.out _ HB6W.out).1;have x1:=(HBox.out _ HB6W.out).2;(obtain ⟨oa,oc,hov⟩:=ownE_slice hown6);(obtain ⟨on,hon⟩:∃ k,k=(L.take 0).length:=⟨_,rfl⟩);rw[← hon] at hov;subst hov;clear hown6 hb6 hon)
    go_upto_region 7 with (at_builtin;refine wpList_append_ent rfl (.tmp 30) (.tmp 32) rfl W0.heap.size (.slice oa on oc) (L.take 0) D (.slice ua un uc) A rfl HO6.out rfl (HUo.out _ HB6.out) (by omega) (by have:=HN.out;simp <;> omega) HB6W.out.size ?_;intro v7 w7 hown7 hb7;have HO7:=Lib.hid hown7;have HB7W:=Lib.hid (HB6W.out.trans hb7);have HB7:=Lib.hid (HB0.out.trans (HB7W.out.mono (by omega)));(obtain ⟨pa,pc,hpv⟩:=ownE_slice hown7);(obtain ⟨pn,hpn⟩:∃ k,k=(L.take 0++[(D.data.toList,A)]).length:=⟨_,rfl⟩);rw[← hpn] at hpv;subst hpv;clear hown7 hb7 hpn)
    go_upto_region 9 with (fail)
    go_wp2_with (at_builtin;refine wpList_append_list rfl (.tmp 49) (.tmp 52) rfl W0.heap.size (.slice pa pn pc) _ (L.take 0++[(D.data.toList,A)]) (L.drop (0)) rfl HO7.out rfl (HDr.out _ HB7.out) (by omega) (by have:=HN.out;simp <;> omega) HB7W.out.size ?_;intro v9 w9 hown9 hb9;have HO9:=Lib.hid hown9;have HB9:=Lib.hid (HB0.out.trans ((HB7W.out.trans hb9).mono (by omega)));(obtain ⟨sa,sc,hsv⟩:=ownE_slice hown9);(obtain ⟨sn,hsn⟩:∃ k,k=(L.take 0++[(D.data.toList,A)]++L.drop (0)).length:=⟨_,rfl⟩);rw[← hsn] at hsv;subst hsv;clear hown9 hb9 hsn)
    all_goals
     go_ret;exact ⟨_,rfl,by rw[← HFin.out];exact ownE_isE HO9.out (by have:=HN.out;unfold maxLen;simp <;> omega) (fun b hb=>by have:=HB9.out.size;omega),ownE_cap HO9.out,HB9.out⟩
   | some ad=>
    obtain ⟨b,off,sp⟩:=ad;obtain ⟨hcap',hsp⟩:j≤lc∧sp=none:=hcap';subst hsp;have HTk:Hid (∀ W,Below w.heap.size w W→IsEo (fun b=>b<w.heap.size) W (L.take j) (.slice (some ⟨b,off,none⟩) j lc)):=Lib.hid (fun W hW=>IsE.take (IsE.keep HIsE.out hW) j (by have:=HN.out;omega) lc)
    have HDr:Hid (∀ W a c,Below w.heap.size w W→IsEo (fun b=>b<w.heap.size) W (L.drop (j)) (.slice a 0 c)):=Lib.hid (fun W a c hW=>by
     rw[List.drop_eq_nil_of_le (by rw[← HN.out];exact Nat.le_refl _)]
     exact isE_nil _ _ _ _)
    have q1:(j≤lc)=True:=by simp;omega
    have q1':j≤lc:=by omega
    have q3:(j≤lc)=True:=by simp;omega
    have q4:(0:Int)≤(j:Int):=by omega
    have HFin:Hid (L.take j++[(D.data.toList,A)]++L.drop (j)=Z):=Lib.hid (by rw[HPut.out,hdrop,hat]);clear hat hdrop;have tok1:Hid ((0:Nat)=0):=Lib.hid rfl
    go_upto_region 5 with (fail)
    go_upto_region 6 with (at_builtin;refine wpList_append_list rfl (.tmp 25) (.tmp 28) rfl W0.heap.size (.slice (some ⟨wr.heap.size,0,none⟩) 0 0) _ [] (L.take j) rfl (ownE_empty (heap_alloc_new wr _) hbT) rfl (HTk.out _ (HBT.out.alloc hbTw _)) (by omega) (by have:=HN.out;simp <;> omega) (by simp <;> omega) ?_;intro v6 w6 hown6 hb6;rw[List.nil_append] at hown6;have HO6:=Lib.hid hown6;have HB6W:=Lib.hid ((HBTW.out.alloc hbT _).trans hb6);have HB6:=Lib.hid (HB0.out.trans (HB6W.out.mono (by omega)));have x0:=(HBox.out _ HB6W.out).1;have x1:=(HBox.out _ HB6W.out).2;(obtain ⟨oa,oc,hov⟩:=ownE_slice hown6);(obtain ⟨on,hon⟩:∃ k,k=(L.take j).length:=⟨_,rfl⟩);rw[← hon] at hov;subst hov;clear hown6 hb6 hon)
    go_upto_region 7 with (at_builtin;refine wpList_append_ent rfl (.tmp 30) (.tmp 32) rfl W0.heap.size (.slice oa on oc) (L.take j) D (.slice ua un uc) A rfl HO6.out rfl (HUo.out _ HB6.out) (by omega) (by have:=HN.out;simp <;> omega) HB6W.out.size ?_;intro v7 w7 hown7 hb7;have HO7:=Lib.hid hown7;have HB7W:=Lib.hid (HB6W.out.trans hb7);have HB7:=Lib.hid (HB0.out.trans (HB7W.out.mono (by omega)));(obtain ⟨pa,pc,hpv⟩:=ownE_slice hown7);(obtain ⟨pn,hpn⟩:∃ k,k=(L.take j++[(D.data.toList,A)]).length:=⟨_,rfl⟩);rw[← hpn] at hpv;subst hpv;clear hown7 hb7 hpn)
    go_upto_region 9 with (fail)
    go_wp2_with (at_builtin;refine wpList_append_list rfl (.tmp 49) (.tmp 52) rfl W0.heap.size (.slice pa pn pc) _ (L.take j++[(D.data.toList,A)]) (L.drop (j)) rfl HO7.out rfl (HDr.out _ _ _ HB7.out) (by omega) (by have:=HN.out;simp <;> omega) HB7W.out.size ?_;intro v9 w9 hown9 hb9;have HO9:=Lib.hid hown9;have HB9:=Lib.hid (HB0.out.trans ((HB7W.out.trans hb9).mono (by omega)));(obtain ⟨sa,sc,hsv⟩:=ownE_slice hown9);(obtain ⟨sn,hsn⟩:∃ k,k=(L.take j++[(D.data.toList,A)]++L.drop (j)).length:=⟨_,rfl⟩);rw[← hsn] at hsv;subst hsv;clear hown9 hb9 hsn)
    all_goals
     go_ret;exact ⟨_,rfl,by rw[← HFin.out];exact ownE_isE HO9.out (by have:=HN.out;unfold maxLen;simp <;> omega) (fun b hb=>by have:=HB9.out.size;omega),ownE_cap HO9.out,HB9.out⟩
theorem ent_fix (i x:Nat):nameN (entE i x).1=(entE i x).1∧sortA (normL (entE i x).2)=(entE i x).2:=by
 have h:=ent_norm i x;unfold isNE normE at h;have h:(nameN (entE i x).1,sortA (normL (entE i x).2))=entE i x:=by simpa using h
 exact ⟨congrArg Prod.fst h,congrArg Prod.snd h⟩
theorem addEnt_any {L:List ET} (hg:GoodT L) (hl:L.length≤100) {i x:Nat} (hi:i<256) (hx:x<256) (v:Value) (D:ByteArray) (hD:D.data.toList=(entE i x).1) (u:Value) (W:World) (h:IsE W.heap.size W L v) (hu:IsA W.heap.size W (entE i x).2 u) :
  Calls Tryz.prog 27 #[v,.agg #[.string D,u]] W fun e w'=>∃ d xa xn xc c,e=.returned (doneV d (.slice xa xn xc) c)∧c=addC (keysE L) (kE (entE i x))∧(c=0→d.data.toList=(entE i x).1∧∃ B,OwnM B w' (.slice xa xn xc) (entE i x).2)∧Below W.heap.size W w':=by
 have h1:=ent_small i x hi hx;have he:(D.data.toList,(entE i x).2)=entE i x:=by rw[hD]
 have:=add7_any L (ents_fine hg.ents (by omega)).1 (by omega) v D (by rw[← bytes_len,hD];exact h1.1) (entE i x).2 h1.2.1.1 (by rw[hD];exact ent_check i x hi hx) u W h hu;rw[he,hD,(ent_fix i x).1,(ent_fix i x).2] at this;exact this
theorem putEnt7_any {L:List ET} (hg:GoodT L) (hl:L.length≤100) {i x:Nat} (hi:i<256) (hx:x<256) (v:Value) (hcap:capV v) (D:ByteArray) (hD:D.data.toList=(entE i x).1) (u:Value) (W:World) (h:IsE W.heap.size W L v) (hu:IsA W.heap.size W (entE i x).2 u) :
  Calls Tryz.prog 19 #[v,.agg #[.string D,u]] W fun e w'=>∃ v',e=.returned v'∧IsE w'.heap.size w' (putD L (entE i x)) v'∧capV v'∧Below W.heap.size W w':=by
 have h1:=ent_small i x hi hx;have he:(D.data.toList,(entE i x).2)=entE i x:=by rw[hD]
 have:=putR7_any L (ents_fine hg.ents (by omega)).1 v hcap D (by rw[← bytes_len,hD];exact h1.1) (entE i x).2 u W h hu;rw[he] at this;exact this
def FM (B:Nat) (T:List Fk) (L:List ET) (k x:Nat) (i:Nat) (v:Value) (w:World):Prop:=FK B T false i v w ∧
 (i=11→∃ D u,v=.agg #[.string D,u]∧D.data.toList=(entE k x).1∧IsA w.heap.size w (entE k x).2 u) ∧
 (i=12→∃ d xa xn xc c,v=doneV d (.slice xa xn xc) c∧c=addC (keysE L) (kE (entE k x))∧(c=0→d.data.toList=(entE k x).1∧∃ B',OwnM B' w (.slice xa xn xc) (entE k x).2)) ∧
 (i=13→∃ p,v=.pointer (some ⟨p,0,none⟩)∧B≤p∧DlAt w p ⟨#[]⟩ (.slice none 0 0) 0)
theorem FM.go {B:Nat} {T:List Fk} {L:List ET} {k x i:Nat} {v:Value} {w w':World} (h:FM B T L k x i v w) (hb:Below w.heap.size w w'):FM B T L k x i v w':=by
 obtain ⟨h0,h1,h2,h3⟩:=h;refine ⟨h0.go hb,fun e=>?_,fun e=>?_,fun e=>?_⟩
 ·obtain ⟨D,u,a1,a2,a3⟩:=h1 e;exact ⟨D,u,a1,a2,a3.below hb hb.size⟩
 ·obtain ⟨d,xa,xn,xc,c,a1,a2,a3⟩:=h2 e;exact ⟨d,xa,xn,xc,c,a1,a2,fun hc=>by obtain ⟨b1,B',b2⟩:=a3 hc;exact ⟨b1,B',ownM_below b2 hb⟩⟩
 ·obtain ⟨p,a1,a2,a3⟩:=h3 e;exact ⟨p,a1,a2,dl_below a3 hb (dl_lt a3)⟩
theorem FM.lay {B:Nat} {T:List Fk} {L:List ET} {k x i:Nat} {v:Value} {w:World} (h:FK B T false i v w) (hi:i<11):FM B T L k x i v w:=
 ⟨h,fun e=>by omega,fun e=>by omega,fun e=>by omega⟩
set_option maxRecDepth 100000 in
set_option maxHeartbeats 8000000 in
theorem tree8_any (ns:List UInt8) (b0:Option Addr) (c0:Nat) (w:World) (h:IsB w.heap.size w ns b0 c0) :
  Calls Tryz.prog 7 #[.slice b0 ns.length c0] w fun e w'=>∃ v,e=.returned v∧IsE w'.heap.size w' (mkT (ns.take 40)) v∧capV v∧Below w.heap.size w w':=by
 obtain ⟨n,hn⟩:∃ n,n=ns.length:=⟨_,rfl⟩;have hmx:=h.1;rw[← hn] at hmx ⊢;unfold maxLen at hmx;have HN:=Lib.hid hn;have HI:=Lib.hid h;clear h hn;go_enter Tryz.func7,Tryz.ntmps7
 go_wp2
 go_loopw [3,4] (fun l i wr=>∃ j:Nat,j≤n∧j≤40∧i=.int .i64 j∧Hid (IsE wr.heap.size wr (mkT (ns.take j)) l∧capV l)∧Below w.heap.size w wr) (fun l i wr=>40 - (intOf i).toNat)
 case atStart=>exact ⟨0,by omega,by omega,rfl,Lib.hid ⟨isE_nil _ _ 0 none,by exact ⟨rfl,rfl⟩⟩,Below.refl _ _⟩
 case round=>
  obtain ⟨j,hjn,hj40,rfl,HL,hbel⟩:=hrel;rename World=>wr;have HBel:=Lib.hid hbel
  by_cases hlt:j<n∧j<40
  ·obtain ⟨hj1,hj2⟩:=hlt;have t1:decide ((j:Int)<(n:Int))=true:=by simp;omega
   have t2:decide ((j:Int)<(40:Int))=true:=by simp;omega
   have u0:(0:Int)≤(j:Int):=by omega
   have u1:(j:Int)<(n:Int):=by omega
   have hjl:j<ns.length:=by rw[← HN.out];exact hj1
   obtain ⟨x,hx⟩:∃ x,x=ns[j].toNat:=⟨_,rfl⟩;have hx2:x<256:=by rw[hx];exact UInt8.toNat_lt _
   obtain ⟨b,off,rfl,hb0,hcell⟩:∃ b off,b0=some ⟨b,off,none⟩∧b<w.heap.size∧w.cell? ⟨b,off+j,none⟩=some (.int .u8 (x:Int)):=by
    rcases HI.out.2 with e | ⟨b,off,e,hb,hc⟩
    ·rw[e] at hjl;simp at hjl
    ·exact ⟨b,off,e,hb,by rw[hx];exact hc j hjl⟩
   have d0:wr.cell? ⟨b,off+j,none⟩=some (.int .u8 (x:Int)):=(hbel.cell (p:=⟨b,off+j,none⟩) hb0).trans hcell;have hbw:b<wr.heap.size:=Nat.lt_of_lt_of_le hb0 hbel.size;obtain ⟨k,hk⟩:∃ k,k=x % 12:=⟨_,rfl⟩;have hk2:k<12:=by omega
   have hm12:(x:Int).tmod 12=(k:Int):=by rw[Int.tmod_eq_emod_of_nonneg (by omega)];omega
   have hw8:IntKind.i64.wrap (x:Int)=(x:Int):=IntWalk.i64_in _ (by omega);obtain ⟨L,hL⟩:∃ L,L=mkT (ns.take j):=⟨_,rfl⟩;have hgd:=mkT_good (ns.take j);have hst:mkT (ns.take (j+1))=stepT L x:=by
    rw[hL,hx,List.take_succ_eq_append_getElem hjl,mkT_snoc]
   rw[← hL] at HL hgd;have hl40:L.length≤100:=by have:=hgd.2;rw[List.length_take] at this;omega
   have HSt:=Lib.hid hst;have HEn:=Lib.hid (fun (W:World)=>entry8_any k x (by omega) hx2 W);have HAd:=Lib.hid (fun (D:ByteArray) (hD:D.data.toList=(entE k x).1) (u:Value) (W:World) (h:IsE W.heap.size W L u3) (hu:IsA W.heap.size W (entE k x).2 u)=>addEnt_any hgd.1 hl40 (by omega) hx2 u3 D hD u W h hu);have HPu:=Lib.hid (fun (D:ByteArray) (hD:D.data.toList=(entE k x).1) (u:Value) (W:World) (h:IsE W.heap.size W L u3) (hu:IsA W.heap.size W (entE k x).2 u)=>putEnt7_any hgd.1 hl40 (by omega) hx2 u3 HL.out.2 D hD u W h hu);have HSm:Hid ((entE k x).2.length≤20):=Lib.hid (ent_small k x (by omega) hx2).2.2;have HK:Hid (kE (entE k x)=nmE (x % 12)∧k=x % 12):=Lib.hid ⟨by rw[ent_key,hk,Nat.mod_mod],hk⟩;clear hL hst hgd hcell hx hjl hk
   go_upto_region 5 with fail
   refine region_factsB (by kernel_rfl) (FM wr.heap.size [.is (u3),.is (.slice (some ⟨b,off,none⟩) n c0),.is (.int .i64 (j:Int)),.is (.pointer (some ⟨b,off+j,none⟩)),.is (.int .u8 (x:Int)),.is (.int .i64 (x:Int)),.is (.int .i64 (k:Int)),.is (.slice (some ⟨b,off,none⟩) n c0),.is (.int .i64 (j:Int)),.is (.pointer (some ⟨b,off+j,none⟩)),.is (.int .u8 (x:Int))] L k x) (fun w w'=>Below w.heap.size w w') (fun _ _ _ _ h hb=>h.go hb) (fun _ _ _ h1 h2=>bthen h1 h2) (Below.refl _ _).drew (by kernel_rfl) rfl ?hs ?hl
   case hs=>
    intro listed a W hk i o ho hi hc;have e0:=hk.read (t:=0) (by kernel_rfl) rfl;have e3:=hk.read (t:=3) (by kernel_rfl) rfl;have e4:=hk.read (t:=4) (by kernel_rfl) rfl;have hgr:Below wr.heap.size wr W:=hk.grown
    match i,hi with
    | 0,_=>
     obtain rfl:=Option.some.inj ho;exact wpOp_val rfl rfl (v:=u3) (w':=W) (by simp[go_sem,e3]) ⟨_,_,rfl,rfl,Below.refl _ _,FM.lay rfl (by decide)⟩
    | 1,_=>
     obtain rfl:=Option.some.inj ho;exact wpOp_val rfl rfl (v:=.slice (some ⟨b,off,none⟩) n c0) (w':=W) (by simp[go_sem,e0]) ⟨_,_,rfl,rfl,Below.refl _ _,FM.lay rfl (by decide)⟩
    | 2,_=>
     obtain rfl:=Option.some.inj ho;exact wpOp_val rfl rfl (v:=.int .i64 (j:Int)) (w':=W) (by simp[go_sem,e4]) ⟨_,_,rfl,rfl,Below.refl _ _,FM.lay rfl (by decide)⟩
    | 3,_=>
     obtain rfl:=Option.some.inj ho;obtain ⟨v1,g1,f1⟩:=hk.got (j:=1) rfl rfl (hc ⟨1,.data⟩ (by simp) rfl);obtain rfl:v1=_:=f1.1;obtain ⟨v2,g2,f2⟩:=hk.got (j:=2) rfl rfl (hc ⟨2,.data⟩ (by simp) rfl);obtain rfl:v2=_:=f2.1;exact wpOp_val rfl rfl (v:=.pointer (some ⟨b,off+j,none⟩)) (w':=W) (by simp[go_sem,g1,g2,u0,u1]) ⟨_,_,rfl,rfl,Below.refl _ _,FM.lay rfl (by decide)⟩
    | 4,_=>
     obtain rfl:=Option.some.inj ho;obtain ⟨v3,g3,f3⟩:=hk.got (j:=3) rfl rfl (hc ⟨3,.data⟩ (by simp) rfl);obtain rfl:v3=_:=f3.1;have d:=(hgr.cell (p:=⟨b,off+j,none⟩) hbw).trans d0;exact wpOp_val rfl rfl (v:=.int .u8 (x:Int)) (w':=W) (by simp[go_sem,g3,d]) ⟨_,_,rfl,rfl,Below.refl _ _,FM.lay rfl (by decide)⟩
    | 5,_=>
     obtain rfl:=Option.some.inj ho;obtain ⟨v4,g4,f4⟩:=hk.got (j:=4) rfl rfl (hc ⟨4,.data⟩ (by simp) rfl);obtain rfl:v4=_:=f4.1;exact wpOp_val rfl rfl (v:=.int .i64 (x:Int)) (w':=W) (by simp[go_sem,g4,hw8]) ⟨_,_,rfl,rfl,Below.refl _ _,FM.lay rfl (by decide)⟩
    | 6,_=>
     obtain rfl:=Option.some.inj ho;obtain ⟨v5,g5,f5⟩:=hk.got (j:=5) rfl rfl (hc ⟨5,.data⟩ (by simp) rfl);obtain rfl:v5=_:=f5.1;exact wpOp_val rfl rfl (v:=.int .i64 (k:Int)) (w':=W) (by simp[go_sem,g5,hm12]) ⟨_,_,rfl,rfl,Below.refl _ _,FM.lay rfl (by decide)⟩
    | 7,_=>
     obtain rfl:=Option.some.inj ho;exact wpOp_val rfl rfl (v:=.slice (some ⟨b,off,none⟩) n c0) (w':=W) (by simp[go_sem,e0]) ⟨_,_,rfl,rfl,Below.refl _ _,FM.lay rfl (by decide)⟩
    | 8,_=>
     obtain rfl:=Option.some.inj ho;exact wpOp_val rfl rfl (v:=.int .i64 (j:Int)) (w':=W) (by simp[go_sem,e4]) ⟨_,_,rfl,rfl,Below.refl _ _,FM.lay rfl (by decide)⟩
    | 9,_=>
     obtain rfl:=Option.some.inj ho;obtain ⟨v7,g7,f7⟩:=hk.got (j:=7) rfl rfl (hc ⟨7,.data⟩ (by simp) rfl);obtain rfl:v7=_:=f7.1;obtain ⟨v8,g8,f8⟩:=hk.got (j:=8) rfl rfl (hc ⟨8,.data⟩ (by simp) rfl);obtain rfl:v8=_:=f8.1;exact wpOp_val rfl rfl (v:=.pointer (some ⟨b,off+j,none⟩)) (w':=W) (by simp[go_sem,g7,g8,u0,u1]) ⟨_,_,rfl,rfl,Below.refl _ _,FM.lay rfl (by decide)⟩
    | 10,_=>
     obtain rfl:=Option.some.inj ho;obtain ⟨v9,g9,f9⟩:=hk.got (j:=9) rfl rfl (hc ⟨9,.data⟩ (by simp) rfl);obtain rfl:v9=_:=f9.1;have d:=(hgr.cell (p:=⟨b,off+j,none⟩) hbw).trans d0;exact wpOp_val rfl rfl (v:=.int .u8 (x:Int)) (w':=W) (by simp[go_sem,g9,d]) ⟨_,_,rfl,rfl,Below.refl _ _,FM.lay rfl (by decide)⟩
    | 11,_=>
     obtain rfl:=Option.some.inj ho;obtain ⟨v6,g6,f6⟩:=hk.got (j:=6) rfl rfl (hc ⟨6,.data⟩ (by simp) rfl);obtain rfl:v6=_:=f6.1;obtain ⟨v10,g10,f10⟩:=hk.got (j:=10) rfl rfl (hc ⟨10,.data⟩ (by simp) rfl);obtain rfl:v10=_:=f10.1;refine wpOp_call rfl rfl (f:=8) (args:=#[.int .i64 (k:Int),.int .u8 (x:Int)]) (by simp[go_sem,g6,g10]) ((HEn.out W).mono ?_);rintro e w2 ⟨D,u,rfl,hD,hu,hb2⟩;exact ⟨_,rfl,_,_,rfl,rfl,hb2,⟨trivial,fun _=>⟨D,u,rfl,hD,hu⟩,fun h=>absurd h (by decide),fun h=>absurd h (by decide)⟩⟩
    | 12,_=>
     obtain rfl:=Option.some.inj ho;obtain ⟨v0,g0,f0⟩:=hk.got (j:=0) rfl rfl (hc ⟨0,.data⟩ (by simp) rfl);have e00:v0=u3:=f0.1;rw[e00] at g0;obtain ⟨v11,g11,f11⟩:=hk.got (j:=11) rfl rfl (hc ⟨11,.data⟩ (by simp) rfl);obtain ⟨D,u,rfl,hD,hu⟩:=f11.2.1 rfl;refine wpOp_call rfl rfl (f:=27) (args:=#[u3,.agg #[.string D,u]]) (by simp[go_sem,g0,g11]) ((HAd.out D hD u W (HL.out.1.below hgr hgr.size) hu).mono ?_);rintro e w2 ⟨d,xa,xn,xc,c,rfl,hcc,h0,hb2⟩;exact ⟨_,rfl,_,_,rfl,rfl,hb2,⟨trivial,fun h=>absurd h (by decide),fun _=>⟨d,xa,xn,xc,c,rfl,hcc,h0⟩,fun h=>absurd h (by decide)⟩⟩
    | 13,_=>
     obtain rfl:=Option.some.inj ho;exact wpOp_val rfl rfl (v:=.pointer (some ⟨W.heap.size,0,none⟩)) (w':=W.alloc zD) (by simp[go_sem]) ⟨_,_,rfl,rfl,(Below.refl _ _).alloc (Nat.le_refl _) _,⟨trivial,fun h=>absurd h (by decide),fun h=>absurd h (by decide),fun _=>⟨W.heap.size,rfl,hgr.size,heap_alloc_new W _⟩⟩⟩
    | m+14,h=>exact absurd h (by simp)
   case hl=>
    intro listed a W hk hall;obtain ⟨v12,g12,f12⟩:=hk.got (j:=12) rfl rfl (hall 12 (by simp));obtain ⟨v13,g13,f13⟩:=hk.got (j:=13) rfl rfl (hall 13 (by simp));obtain ⟨d,xa,xn,xc,c,rfl,hcc,hc0⟩:=f12.2.2.1 rfl;obtain ⟨p,rfl,hpB,hpx⟩:=f13.2.2.2 rfl;obtain ⟨c0,c1,c2,c3,c4,c5⟩:=dl_cells hpx;obtain ⟨f0,f1,f2,f3,f4,f5⟩:=dl_frozen hpx;have hgr:Below wr.heap.size wr W:=hk.grown;have hput:=hk.puts;have hnew:=dl_set hpx d (.slice xa xn xc) c;have hbl:=dl_setB hgr hpB d (.slice xa xn xc) c;have hown:c=0→d.data.toList=(entE k x).1∧IsA (set6D W p d (.slice xa xn xc) c).heap.size (set6D W p d (.slice xa xn xc) c) (entE k x).2 (.slice xa xn xc):=fun e=>by
     obtain ⟨h1,B,h2⟩:=hc0 e;exact ⟨h1,ownM_isA (ownM_dl h2 hpx d (.slice xa xn xc) c) (by have:=HSm.out;unfold maxLen;omega)⟩
    refine wpOp_skip rfl rfl (w':=set6D W p d (.slice xa xn xc) c) (by simp[go_sem,set6D,g12,g13,c0,c1,c2,c3,c4,c5,f0,f1,f2,f3,f4,f5]) ?_;rw[hput];simp only[putT,g13];generalize a.tmps[16]?.getD undef=x16;generalize a.tmps[17]?.getD undef=x17;generalize a.tmps[18]?.getD undef=x18;generalize a.tmps[19]?.getD undef=x19;generalize a.tmps[20]?.getD undef=x20;generalize a.tmps[21]?.getD undef=x21;generalize a.tmps[22]?.getD undef=x22;generalize a.tmps[23]?.getD undef=x23;generalize a.tmps[24]?.getD undef=x24;generalize a.tmps[25]?.getD undef=x25;generalize a.tmps[26]?.getD undef=x26;generalize a.tmps[27]?.getD undef=x27;generalize a.tmps[28]?.getD undef=x28;obtain ⟨W8,hW8⟩:∃ X,X=set6D W p d (.slice xa xn xc) c:=⟨_,rfl⟩;rw[← hW8] at hnew hbl hown ⊢;obtain ⟨z0,z1,z2,z3,z4,z5⟩:=dl_cells hnew;have HOw:=Lib.hid hown;have HCc:=Lib.hid hcc;have HB8:=Lib.hid (bthen HBel.out hbl);have HL8:=Lib.hid (HL.out.1.below hbl hbl.size);clear hnew hbl hown hcc hc0 hput hk hall hpx hgr g12 g13 f12 f13 c0 c1 c2 c3 c4 c5 f0 f1 f2 f3 f4 f5 hW8 hbel d0
    by_cases hz:c=0
    ·have hst:stepT L x=putD L (entE k x):=by
      unfold stepT;rw[← HK.out.1,← HCc.out,if_pos hz,← HK.out.2]
     have HS2:=Lib.hid (HSt.out.trans hst);have HOw2:=Lib.hid (HOw.out hz);have y5:(c == 0)=true:=by simpa using hz
     have y6:decide (c=0)=true:=by simpa using hz
     clear hst;go_simp
     go_wp2_with (go_at_call 19;refine (HPu.out d HOw2.out.1 _ _ HL8.out HOw2.out.2).mono ?_;rintro e w9 ⟨v9,rfl,hi9,hc9,hb9⟩;have HB9:=Lib.hid (bthen HB8.out hb9);have HL9:=Lib.hid (And.intro hi9 hc9);clear hi9 hc9 hb9)
     go_roundw
     case rel=>exact ⟨j+1,by omega,by omega,by go_num,Lib.hid (by rw[HS2.out];exact HL9.out),HB9.out⟩
     case measure=>simp[intOf];omega
    ·have hst:stepT L x=L:=by
      unfold stepT;rw[← HK.out.1,← HCc.out,if_neg hz]
     have HS2:=Lib.hid (HSt.out.trans hst);have y5:(c == 0)=false:=by simpa using hz
     have y6:decide (c=0)=false:=by simpa using hz
     clear hst;go_simp
     go_wp2_with fail
     go_roundw
     case rel=>exact ⟨j+1,by omega,by omega,by go_num,Lib.hid (by rw[HS2.out];exact ⟨HL8.out,HL.out.2⟩),HB8.out⟩
     case measure=>simp[intOf];omega
  ·have HF:Hid (mkT (ns.take 40)=mkT (ns.take j)):=Lib.hid (by
    by_cases h40:j=40
    ·rw[h40]
    ·have:j=n:=by omega
     rw[List.take_of_length_le (by rw[← HN.out];omega),List.take_of_length_le (by rw[← HN.out];omega)])
   by_cases h1:j<n
   ·obtain rfl:j=40:=by omega
    have t1:decide (((40:Nat):Int)<(n:Int))=true:=by simp;omega
    have t2:decide ((40:Int)<(n:Int))=true:=by simp;omega
    have t3:decide ((40:Int)<(40:Int))=false:=by simp
    clear hbel;go_wp2;go_ret;exact ⟨_,rfl,by first | exact HL.out.1 | (rw[HF.out];exact HL.out.1),HL.out.2,HBel.out⟩
   ·obtain rfl:j=n:=by omega
    have t1:decide ((j:Int)<(j:Int))=false:=by simp
    clear hbel;go_wp2;go_ret;exact ⟨_,rfl,by first | exact HL.out.1 | (rw[HF.out];exact HL.out.1),HL.out.2,HBel.out⟩
def ns8:List UInt8:=[0,2,0,3,0,0]
def cn8:List UInt8:=[99,110,61,110,48]
theorem awk_name:mkD ns8=cn8:=by kernel_rfl
theorem awk_norm:isNE (mkD ns8,mkLd ns8)=true:=by kernel_rfl
theorem awk_key:kE (mkD ns8,mkLd ns8)=cn8:=by kernel_rfl
theorem awk_put:putE [] (mkD ns8,mkLd ns8)=[(mkD ns8,mkLd ns8)]:=by kernel_rfl
theorem awk_find:findK (keysE [(mkD ns8,mkLd ns8)]) cn8=0:=by kernel_rfl
theorem awk_may:mayE [(mkD ns8,mkLd ns8)]=true:=by kernel_rfl
theorem awk_few:(mkLd ns8).length≤20:=of_decide_eq_true (by kernel_rfl)
theorem awk_fine:fineA (mkLd ns8):=by
 have e:mkLd ns8=mkLd ns8:=rfl;have hd:decide ((mkLd ns8).length<40∧(mkLd ns8).all (fun a=>decide (a.1.length≤1000) && decide (a.2.length≤1000) && a.2.all (fun s=>decide (s.length≤1000)))=true)=true:=by kernel_rfl
 obtain ⟨h1,h2⟩:=of_decide_eq_true hd;have each:∀ a∈mkLd ns8,a.1.length≤1000∧a.2.length≤1000∧∀ s∈a.2,s.length≤1000:=fun a ha=>by
  have:=List.all_eq_true.1 h2 a ha;simp only[Bool.and_eq_true,decide_eq_true_eq,List.all_eq_true] at this;exact ⟨this.1.1,this.1.2,this.2⟩
 exact ⟨⟨by omega,fun a ha=>by
  obtain ⟨k1,k2,k3⟩:=each a ha
  exact ⟨by omega,by omega,fun s hs=>by have:=k3 s hs;omega⟩⟩,h1,fun a ha=>(each a ha).1⟩
end Go.Proofs.YtgaaefcanfglhaaGreatDoor
