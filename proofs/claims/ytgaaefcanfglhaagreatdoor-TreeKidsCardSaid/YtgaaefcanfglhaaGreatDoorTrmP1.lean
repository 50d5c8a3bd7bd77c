/- Several texts in one file: MaPure, MaFind, EnRead, EnFind, EnOwn, ScVals, MaNum. -/
import Derived.Test.YtgaaefcanfglhaaGreatDoorDnSpec
import Derived.Test.YtgaaefcanfglhaaGreatDoorDnFoldP
import Derived.Lib.ParseIntBTie
import Derived.Lib.AtoiTie
import Derived.Lib.ItoaMem
import Derived.Lib.Strings
import Derived.Test.YtgaaefcanfglhaaGreatDoorDnLib
import Derived.Test.YtgaaefcanfglhaaGreatDoorOfL
import Derived.Laws.Tables
import Derived.Great.BuildSlice
import Derived.Laws.CopyOwn
import Derived.Deep.WholeRow
import Derived.Test.YtgaaefcanfglhaaGreatDoorRefCut
import Derived.BigQuiet
import Derived.Deep.AppendLies
import Derived.Deep.RegionLaw
import Derived.Test.YtgaaefcanfglhaaGreatDoorDnKey
import Derived.Lib.SmallJoins
import Derived.Lib.AppendIntMem
namespace Go.Proofs.YtgaaefcanfglhaaGreatDoor
set_option linter.unusedVariables false
def kindsL:List (List UInt8×Nat):=[
 ([111,98,106,101,99,116,99,108,97,115,115],1),([99,110],1),([115,110],1),([111],1),([111,117],1),([117,105,100],1),([109,97,105,108],1),
 ([100,101,115,99,114,105,112,116,105,111,110],1),([117,105,100,110,117,109,98,101,114],2),([109,101,109,98,101,114],3),([117,115,101,114,112,97,115,115,119,111,114,100],4)]
def findL (n:List UInt8):Option (List UInt8×Nat):=kindsL.find? (fun k=>k.1 == n)
def ruleL (n:List UInt8):Nat:=match findL n with | some k=>k.2 | none=>0
def ruleD (t:List UInt8):Nat:=ruleL (low t)
def canonD (t:List UInt8):Option (List UInt8):=(findL (low t)).map (·.1)
def okN (e:Lib.NumEnd Int) (l:List UInt8):Option Int:=match e with
 | .ok v=>if Lib.itoa v=l then some v else none
 | _=>none
def numD (l:List UInt8):Option Int:=if (Lib.trimPrefix l [45]).length≤15 then okN (Lib.parseIntB 64 l) l else none
def normD (r:Nat) (v:List UInt8):Option (List UInt8):=
 if v=[]∨100<v.length then none
 else if r=1 then (if fold v=[] then none else some (fold v))
 else if r=2 then (if (numD v).isSome then some v else none)
 else if r=3 then (match keyD v with | some k=>if k=[] then none else some k | none=>none)
 else if r=4 then some v
 else none
def sameD (r:Nat) (a b:List UInt8):Bool:=match normD r a,normD r b with
 | some x,some y=>x == y
 | _,_=>false
theorem findL_len {n:List UInt8} {k:List UInt8×Nat} (h:findL n=some k):k.1=n∧n.length≤15∧1≤k.2∧k.2≤4:=by
 have h1:=List.find?_some h;have h2:=List.mem_of_find?_eq_some h;have e:k.1=n:=by simpa using h1
 have hall:(kindsL.all fun k=>decide (k.1.length≤15∧1≤k.2∧k.2≤4))=true:=by decide
 have:=List.all_eq_true.1 hall k h2;simp only[decide_eq_true_eq] at this;exact ⟨e,by rw[← e];exact this.1,this.2⟩
theorem findL_long {n:List UInt8} (h:15<n.length):findL n=none:=by
 cases e:findL n with
 | none=>rfl
 | some k=>have:=(findL_len e).2.1;omega
theorem canon_eq {t c:List UInt8} (h:canonD t=some c):c=low t∧1≤ruleD t∧ruleD t≤4:=by
 unfold canonD at h
 cases e:findL (low t) with
 | none=>rw[e] at h;cases h
 | some k=>
  rw[e] at h;simp only[Option.map_some,Option.some.injEq] at h;have:=findL_len e;unfold ruleD ruleL;rw[e];exact ⟨by rw[← h];exact this.1,this.2.2⟩
theorem canon_rule (t:List UInt8):canonD t=none↔ruleD t=0:=by
 unfold canonD ruleD ruleL
 cases e:findL (low t) with
 | none=>simp
 | some k=>
  have:=findL_len e;simp;omega
theorem ruleD_low (t:List UInt8):ruleD (low t)=ruleD t:=by unfold ruleD;rw[low_low]
theorem find_take {n:List UInt8}:∀ (l:List (List UInt8×Nat)) (k:Nat),(∀ i,(h:i<l.length)→i<k→l[i].1≠n)→l.find? (fun k=>k.1 == n)=(l.drop k).find? (fun k=>k.1 == n)
 | [],k,_=>by simp
 | x :: l,0,_=>rfl
 | x :: l,k+1,h=>by
  have h0:x.1≠n:=h 0 (by simp) (by omega);rw[List.find?_cons_of_neg (by simpa using h0)];exact find_take l k (fun i hi hk=>h (i+1) (by simpa using hi) (by omega))
theorem find_at {n:List UInt8} {k:Nat} (hk:k<kindsL.length) (h:∀ i,(h:i<kindsL.length)→i<k→kindsL[i].1≠n) (he:kindsL[k].1=n):findL n=some kindsL[k]:=by
 unfold findL;rw[find_take kindsL k h,List.drop_eq_getElem_cons hk,List.find?_cons_of_pos (by simpa using he)]
theorem find_no {n:List UInt8} (h:∀ i,(h:i<kindsL.length)→kindsL[i].1≠n):findL n=none:=by
 unfold findL;rw[find_take kindsL kindsL.length (fun i hi _=>h i hi)];simp
open Go.RowKit
set_option maxRecDepth 100000 in
set_option maxHeartbeats 1000000 in
theorem lowered_any (s:ByteArray) (w:World) (hs:s.size≤281474976710656) :
  Calls Tryz.prog 154 #[.string s] w fun e w'=>e=.returned (.string (lowB s))∧Below w.heap.size w w':=by
 have hcv:=fun w=>Lib.run_convert_string_bytes (P:=Tryz.prog) w 9 22 5 s Tryz.underlying9 Tryz.underlying22 Tryz.underlying5
 go_enter Tryz.func154,Tryz.ntmps154
 go_wp2;clear hcv;generalize grownCap w s.size 0 5=cap
 go_loopw [10] (fun i wr=>∃ j:Nat,j≤s.size∧i=.int .i64 j∧LowAt w s j wr) (fun i _=>s.size - (intOf i).toNat)
 case atStart=>exact ⟨0,by omega,rfl,lowAt_start w s⟩
 case round=>
  obtain ⟨j,hj,rfl,hlow⟩:=hrel
  by_cases hlt:j<s.size
  ·have t1:decide ((j:Int)<(s.size:Int))=true:=by simp;omega
   obtain ⟨c0,f0⟩:=hlow.cell hlt;obtain ⟨c,hc⟩:∃ c:UInt8,c=s[j]:=⟨_,rfl⟩;rw[← hc] at c0;have hcl:=c.toNat_lt;have HLow:=Lib.hid hlow;clear hlow
   by_cases h1:65≤c.toNat
   ·have t2:decide ((65:Int)≤(c.toNat:Int))=true:=by simp;omega
    by_cases h2:c.toNat≤90
    ·have t3:decide ((c.toNat:Int)≤90)=true:=by simp;omega
     have HSt:=Lib.hid (HLow.out.store hlt ((c.toNat:Int)+97 - 65) (by rw[show (c.toNat:Int)+97 - 65=(c.toNat:Int)+32 by omega,lowC_up h1 h2,hc]));clear hc;go_wp2;go_roundw
     case rel=>exact ⟨j+1,by omega,by go_num,HSt.out⟩
     case measure=>simp[intOf];omega
    ·have t3:decide ((c.toNat:Int)≤90)=false:=by simp;omega
     have HSt:=Lib.hid (HLow.out.skip hlt (by rw[← hc];exact lowC_no (by omega)));clear hc;go_wp2;go_roundw
     case rel=>exact ⟨j+1,by omega,by go_num,HSt.out⟩
     case measure=>simp[intOf];omega
   ·have t2:decide ((65:Int)≤(c.toNat:Int))=false:=by simp;omega
    have HSt:=Lib.hid (HLow.out.skip hlt (by rw[← hc];exact lowC_no (by omega)));clear hc;go_wp2;go_roundw
    case rel=>exact ⟨j+1,by omega,by go_num,HSt.out⟩
    case measure=>simp[intOf];omega
  ·obtain rfl:j=s.size:=by omega
   have t1:decide ((s.size:Int)<(s.size:Int))=false:=by simp
   have hcv:=hlow.conv (cap:=cap);have HLow:=Lib.hid hlow;clear hlow;go_wp2;go_ret;exact ⟨rfl,HLow.out.1⟩
def kindCells:Array Value:=#[.string { data:=#[111,98,106,101,99,116,99,108,97,115,115] },.int .i64 1,.string { data:=#[99,110] },.int .i64 1,.string { data:=#[115,110] },.int .i64 1,.string { data:=#[111] },.int .i64 1,.string { data:=#[111,117] },.int .i64 1,.string { data:=#[117,105,100] },.int .i64 1,.string { data:=#[109,97,105,108] },.int .i64 1,.string { data:=#[100,101,115,99,114,105,112,116,105,111,110] },.int .i64 1,.string { data:=#[117,105,100,110,117,109,98,101,114] },.int .i64 2,.string { data:=#[109,101,109,98,101,114] },.int .i64 3,.string { data:=#[117,115,101,114,112,97,115,115,119,111,114,100] },.int .i64 4]
def kindsV:Value:=.agg kindCells
theorem kind_row:(Tryz.prog.info? 198).map (·.size)=some kindCells.size:=by kernel_rfl
theorem results_one {P:Program} {fn:Func} {a:Tmp} {t:TypeId} (hr:fn.results=#[.cell a t]) {tmps:Array Value} {w:World} {v:Value} {d:Addr} (ha:tmps.getD a undef=.pointer (some d)) (hl:(loadVar t d).run P w=.ok v w) :
  (results fn tmps).run P w=.ok v w:=by
 unfold results;have ha':tmps[a]?.getD undef=.pointer (some d):=by simpa using ha
 simp[hr,ha',asAddr,hl]
set_option maxRecDepth 100000 in
set_option maxHeartbeats 1000000 in
theorem allTypes_any (w:World):Calls Tryz.prog 155 #[] w fun e w'=>e=.returned kindsV∧Below w.heap.size w w':=by
 have hld:=run_loadVar_new (P:=Tryz.prog) w 198 kindCells 11 170 Tryz.underlying198 kind_row;go_enter Tryz.func155,Tryz.ntmps155
 go_wp2_with (first | (refine wpList_buildTo rfl 198 _ rfl (some 12) rfl kindCells (by kernel_rfl) ?_) | (refine wpList_store_row rfl 198 (.tmp 0) (.tmp 12) rfl w.heap.size kindCells rfl rfl 198 _ (Array.getElem?_push_size ..) (by kernel_rfl) (by kernel_rfl) (by kernel_rfl) ?_;rw[World.setRow_alloc_new]))
 refine bodyPost_ret (v:=kindsV) ?_ rfl ⟨rfl,(Below.refl _ _).alloc (Nat.le_refl _) _⟩;exact results_one rfl rfl hld
theorem kind_all (w:World):∀ k:Fin 11,(Instr.index 198 kindsV (.int .i64 k.1)).run Tryz.prog w=.ok (.agg #[.string ⟨(kindsL.getD k.1 ([],0)).1.toArray⟩,.int .i64 (kindsL.getD k.1 ([],0)).2]) w
 | ⟨0,_⟩=>by show (Instr.index 198 kindsV (.int .i64 ((0:Nat):Int))).run Tryz.prog w=_;kernel_rfl
 | ⟨1,_⟩=>by show (Instr.index 198 kindsV (.int .i64 ((1:Nat):Int))).run Tryz.prog w=_;kernel_rfl
 | ⟨2,_⟩=>by show (Instr.index 198 kindsV (.int .i64 ((2:Nat):Int))).run Tryz.prog w=_;kernel_rfl
 | ⟨3,_⟩=>by show (Instr.index 198 kindsV (.int .i64 ((3:Nat):Int))).run Tryz.prog w=_;kernel_rfl
 | ⟨4,_⟩=>by show (Instr.index 198 kindsV (.int .i64 ((4:Nat):Int))).run Tryz.prog w=_;kernel_rfl
 | ⟨5,_⟩=>by show (Instr.index 198 kindsV (.int .i64 ((5:Nat):Int))).run Tryz.prog w=_;kernel_rfl
 | ⟨6,_⟩=>by show (Instr.index 198 kindsV (.int .i64 ((6:Nat):Int))).run Tryz.prog w=_;kernel_rfl
 | ⟨7,_⟩=>by show (Instr.index 198 kindsV (.int .i64 ((7:Nat):Int))).run Tryz.prog w=_;kernel_rfl
 | ⟨8,_⟩=>by show (Instr.index 198 kindsV (.int .i64 ((8:Nat):Int))).run Tryz.prog w=_;kernel_rfl
 | ⟨9,_⟩=>by show (Instr.index 198 kindsV (.int .i64 ((9:Nat):Int))).run Tryz.prog w=_;kernel_rfl
 | ⟨10,_⟩=>by show (Instr.index 198 kindsV (.int .i64 ((10:Nat):Int))).run Tryz.prog w=_;kernel_rfl
theorem kind_at (k:Nat) (h:k<kindsL.length) (w:World):(Instr.index 198 kindsV (.int .i64 k)).run Tryz.prog w=.ok (.agg #[.string ⟨kindsL[k].1.toArray⟩,.int .i64 kindsL[k].2]) w:=by
 have:=kind_all w ⟨k,h⟩;have e:kindsL.getD k ([],0)=kindsL[k]:=by simp[List.getD,h]
 simp only[e] at this;exact this
def findV (o:Option (List UInt8×Nat)):Value:=match o with
 | some k=>.tuple #[.agg #[.string ⟨k.1.toArray⟩,.int .i64 k.2],.bool true]
 | none=>.tuple #[.agg #[.string ⟨#[]⟩,.int .i64 0],.bool false]
theorem lowB_size (s:ByteArray):(lowB s).size=s.size:=by rw[← bytes_len,lowB_list,low_length,bytes_len]
theorem below_two {w W:World} {o:Obj} {u v:Value} (h:Below (w.alloc o).heap.size (w.alloc o) W):Below w.heap.size w ((W.setCell ⟨w.heap.size,0,none⟩ u).setCell ⟨w.heap.size,1,none⟩ v):=
 ((((Below.refl _ _).alloc (Nat.le_refl _) _).trans (h.mono (by simp))).setCell (Nat.le_refl _) _).setCell (Nat.le_refl _) _
set_option maxRecDepth 100000 in
set_option maxHeartbeats 1000000 in
theorem matchFind_any (s:ByteArray) (w:World):Calls Tryz.prog 126 #[.string s] w fun e w'=>e=.returned (findV (findL (low s.data.toList)))∧Below w.heap.size w w':=by
 by_cases h30:30<s.size
 ·have hno:findL (low s.data.toList)=none:=findL_long (by rw[low_length,bytes_len];omega);rw[hno];have t0:decide ((30:Int)<(s.size:Int))=true:=by simp;omega
  clear hno;go_enter Tryz.func126,Tryz.ntmps126
  go_wp2;refine bodyPost_ret (v:=findV none) (by simp[results,Tryz.results126,go_sem,findV]) rfl ⟨rfl,?_⟩;exact (Below.refl _ _).alloc (Nat.le_refl _) _
 ·have t0:decide ((30:Int)<(s.size:Int))=false:=by simp;omega
  obtain ⟨L,hL⟩:∃ L,L=lowB s:=⟨_,rfl⟩;have hLl:L.data.toList=low s.data.toList:=by rw[hL,lowB_list]
  rw[← hLl];have hlo:=fun w=>lowered_any s w (by omega)
  rw[← hL] at hlo;have HLo:=Lib.hid hlo;have HLl:=Lib.hid hLl;clear hlo hL hLl;go_enter Tryz.func126,Tryz.ntmps126
  go_wp2_with (first | (go_at_call 154;refine (HLo.out _).mono ?_;rintro e w1 ⟨rfl,hb1⟩;have HB1:=Lib.hid hb1;clear hb1) | (go_at_call 155;refine (allTypes_any _).mono ?_;rintro e w2 ⟨rfl,hb2⟩;have HB2:=Lib.hid (bthen HB1.out hb2);clear hb2))
  go_loopw [14] (fun i wr=>∃ k:Nat,k≤11∧i=.int .i64 k∧Hid (∀ i,(h:i<kindsL.length)→i<k→kindsL[i].1≠L.data.toList)∧Below (w.alloc (.cells #[.string ⟨#[]⟩,.int .i64 0] 170)).heap.size (w.alloc (.cells #[.string ⟨#[]⟩,.int .i64 0] 170)) wr) (fun i _=>11 - (intOf i).toNat)
  case atStart=>exact ⟨0,by omega,rfl,Lib.hid (fun i _ h=>absurd h (by omega)),HB2.out⟩
  case round=>
   obtain ⟨k,hk,rfl,HN,hb⟩:=hrel;have HB:=Lib.hid hb;have hsz:=hb.size;simp at hsz;have hz:w.heap.size<wr.heap.size:=by omega
   obtain ⟨c0,f0⟩:=bcell hb;have k0:wr.cell? ⟨w.heap.size,0,none⟩=some (.string ⟨#[]⟩):=(c0 w.heap.size 0 (by simp)).trans (by simp);have k1:wr.cell? ⟨w.heap.size,1,none⟩=some (.int .i64 0):=(c0 w.heap.size 1 (by simp)).trans (by simp);have l0:wr.frozen? ⟨w.heap.size,0,none⟩=false:=(f0 w.heap.size 0 (by simp)).trans (by simp);have l1:wr.frozen? ⟨w.heap.size,1,none⟩=false:=(f0 w.heap.size 1 (by simp)).trans (by simp);clear c0 f0 hb
   by_cases hlt:k<11
   ·have t1:decide ((k:Int)<11)=true:=by simp;omega
    have hkl:k<kindsL.length:=hlt;obtain ⟨X,hX⟩:∃ X:ByteArray,X=⟨kindsL[k].1.toArray⟩:=⟨_,rfl⟩;obtain ⟨R,hR⟩:∃ R:Nat,R=kindsL[k].2:=⟨_,rfl⟩;have hix:=kind_at k hkl;rw[← hX,← hR] at hix
    by_cases he:X=L
    ·have hf:findL L.data.toList=some kindsL[k]:=find_at hkl HN.out (by rw[← he,hX]);have hv:findV (findL L.data.toList)=.tuple #[.agg #[.string L,.int .i64 R],.bool true]:=by rw[hf];simp only[findV];rw[← hX,← hR,he]
     have HV:=Lib.hid hv;subst he;clear hf hX hR hv HN;go_wp2;refine bodyPost_ret (v:=.tuple #[.agg #[.string X,.int .i64 R],.bool true]) (by simp[results,Tryz.results126,go_sem,k0,k1,hz]) rfl ⟨by rw[HV.out],?_⟩;exact (below_two HB.out).alloc (by simp;omega) _
    ·have hne:kindsL[k].1≠L.data.toList:=fun e=>he (by rw[hX,e])
     have HN2:=Lib.hid (fun i (h:i<kindsL.length) (hi:i<k+1)=>(show kindsL[i].1≠L.data.toList from if e:i=k then by subst e;exact hne else HN.out i h (by omega)));have t2:=str_ne he;clear hne hX hR HN;go_wp2;exact ⟨⟨k+1,by omega,by go_num,HN2,HB.out.alloc (by simp;omega) _⟩,by simp[intOf];omega⟩
   ·obtain rfl:k=11:=by omega
    have hf:findL L.data.toList=none:=find_no (fun i h=>HN.out i h (by simpa [kindsL] using h));have hv:findV (findL L.data.toList)=.tuple #[.agg #[.string ⟨#[]⟩,.int .i64 0],.bool false]:=by rw[hf];rfl
    have HV:=Lib.hid hv;clear hf HN hv;go_wp2;refine bodyPost_ret (v:=.tuple #[.agg #[.string ⟨#[]⟩,.int .i64 0],.bool false]) (by simp[results,Tryz.results126,go_sem,k0,k1]) rfl ⟨by rw[HV.out],?_⟩;exact below_two HB.out
set_option maxRecDepth 100000 in
set_option maxHeartbeats 1000000 in
theorem rule_any (s:ByteArray) (w:World):Calls Tryz.prog 156 #[.string s] w fun e w'=>e=.returned (.int .i64 (ruleD s.data.toList))∧Below w.heap.size w w':=by
 have hf:=fun w=>matchFind_any s w
 have hr:ruleD s.data.toList=match findL (low s.data.toList) with | some k=>k.2 | none=>0:=rfl
 cases e:findL (low s.data.toList) with
 | none=>
  rw[e] at hf hr;simp only[findV] at hf hr;rw[hr];have HF:=Lib.hid hf;clear hf hr e;go_enter Tryz.func156,Tryz.ntmps156
  go_wp2_with (go_at_call 126;refine (HF.out _).mono ?_;rintro e w1 ⟨rfl,hb1⟩;have HB:=Lib.hid hb1;clear hb1)
  go_ret;exact ⟨rfl,HB.out.alloc HB.out.size _⟩
 | some k=>
  obtain ⟨n,r⟩:=k;rw[e] at hf hr;simp only[findV] at hf hr;rw[hr];obtain ⟨X,hX⟩:∃ X:ByteArray,X=⟨n.toArray⟩:=⟨_,rfl⟩;rw[← hX] at hf;have HF:=Lib.hid hf;clear hf hr e hX;go_enter Tryz.func156,Tryz.ntmps156
  go_wp2_with (go_at_call 126;refine (HF.out _).mono ?_;rintro e w1 ⟨rfl,hb1⟩;have HB:=Lib.hid hb1;clear hb1)
  go_ret;exact ⟨rfl,HB.out.alloc HB.out.size _⟩
def canonV (o:Option (List UInt8)):Value:=match o with
 | some k=>.tuple #[.string ⟨k.toArray⟩,.bool true]
 | none=>.tuple #[.string ⟨#[]⟩,.bool false]
set_option maxRecDepth 100000 in
set_option maxHeartbeats 1000000 in
theorem canon_any (s:ByteArray) (w:World):Calls Tryz.prog 90 #[.string s] w fun e w'=>e=.returned (canonV (canonD s.data.toList))∧Below w.heap.size w w':=by
 have hf:=fun w=>matchFind_any s w
 have hr:canonD s.data.toList=(findL (low s.data.toList)).map (·.1):=rfl
 cases e:findL (low s.data.toList) with
 | none=>
  rw[e] at hf hr;rw[hr];simp only[findV] at hf;have HF:=Lib.hid hf;clear hf hr e;go_enter Tryz.func90,Tryz.ntmps90
  go_wp2_with (go_at_call 126;refine (HF.out _).mono ?_;rintro e w1 ⟨rfl,hb1⟩;have HB:=Lib.hid hb1;clear hb1)
  go_ret2
  exact ⟨rfl,HB.out.alloc HB.out.size _⟩
 | some k=>
  obtain ⟨n,r⟩:=k;rw[e] at hf hr;rw[hr];simp only[findV] at hf;obtain ⟨X,hX⟩:∃ X:ByteArray,X=⟨n.toArray⟩:=⟨_,rfl⟩;rw[← hX] at hf;have hv:canonV (Option.map (·.1) (some (n,r)))=.tuple #[.string X,.bool true]:=by rw[hX];rfl
  have HV:=Lib.hid hv;have HF:=Lib.hid hf;clear hf hr e hX hv;go_enter Tryz.func90,Tryz.ntmps90
  go_wp2_with (go_at_call 126;refine (HF.out _).mono ?_;rintro e w1 ⟨rfl,hb1⟩;have HB:=Lib.hid hb1;clear hb1)
  go_ret2
  exact ⟨by rw[HV.out];rfl,HB.out.alloc HB.out.size _⟩
def IsT (n0:Nat) (w:World) (L:List (List UInt8)) (v:Value):Prop:=∃ a c,v=.slice a L.length c∧L.length≤maxLen ∧
 ∀ j,(h:j<L.length)→∃ b off,a=some ⟨b,off,none⟩∧b<n0∧w.cell? ⟨b,off+j,none⟩=some (strV L[j])
theorem IsT.below {n0 n1:Nat} {w w':World} {L:List (List UInt8)} {v:Value} (h:IsT n0 w L v) (hb:Below n0 w w') (hn:n0≤n1):IsT n1 w' L v:=by
 obtain ⟨a,c,hv,hm,hc⟩:=h;refine ⟨a,c,hv,hm,fun j hj=>?_⟩;obtain ⟨b,off,ha,hlt,c0⟩:=hc j hj;exact ⟨b,off,ha,Nat.lt_of_lt_of_le hlt hn,(hb.cell (p:=⟨b,_,none⟩) hlt).trans c0⟩
theorem isT_nil (n0:Nat) (w:World) (c:Nat) (a:Option Addr):IsT n0 w [] (.slice a 0 c):=⟨a,c,rfl,Nat.zero_le _,fun j hj=>absurd hj (by simp)⟩
theorem ownS_isT {B:Nat} {w:World} {v:Value} {L:List (List UInt8)} (h:OwnS B w v L) (hl:L.length≤maxLen):IsT w.heap.size w L v:=by
 by_cases hne:L=[]
 ·subst hne;obtain ⟨a,c,hv⟩:=ownS_slice h;exact ⟨a,c,hv,hl,fun j hj=>absurd hj (by simp)⟩
 ·obtain ⟨g,c,hv,_,hg,hc⟩:=ownS_at h hne;exact ⟨_,c,hv,hl,fun j hj=>⟨g,0,rfl,hg,by rw[Nat.zero_add];exact hc j hj⟩⟩
abbrev AT:=List UInt8×List (List UInt8)
def IsA (n0:Nat) (w:World) (L:List AT) (v:Value):Prop:=∃ a c,v=.slice a L.length c∧L.length≤maxLen ∧
 ∀ j,(h:j<L.length)→∃ b off u,a=some ⟨b,off,none⟩∧b<n0∧w.cell? ⟨b,off+j * 2,none⟩=some (strV L[j].1)∧w.cell? ⟨b,off+j * 2+1,none⟩=some u∧IsT n0 w L[j].2 u
theorem IsA.below {n0 n1:Nat} {w w':World} {L:List AT} {v:Value} (h:IsA n0 w L v) (hb:Below n0 w w') (hn:n0≤n1):IsA n1 w' L v:=by
 obtain ⟨a,c,hv,hm,hc⟩:=h;refine ⟨a,c,hv,hm,fun j hj=>?_⟩;obtain ⟨b,off,u,ha,hlt,c0,c1,ht⟩:=hc j hj;exact ⟨b,off,u,ha,Nat.lt_of_lt_of_le hlt hn,(hb.cell (p:=⟨b,_,none⟩) hlt).trans c0,(hb.cell (p:=⟨b,_,none⟩) hlt).trans c1,ht.below hb hn⟩
theorem below_drewN {B:Nat} {w w':World} (h:Below B w w') (n:Nat):Below B w (w'.drewN n):=h.trans ⟨rfl,rfl,rfl,Nat.le_refl _,fun _ _=>rfl⟩
def smallT (L:List (List UInt8)):Prop:=L.length≤1000∧∀ s∈L,s.length≤1000000
set_option maxRecDepth 100000 in
set_option maxHeartbeats 2000000 in
theorem copyVals_any (L:List (List UInt8)) (hs:smallT L) (v:Value) (w:World) (h:IsT w.heap.size w L v) :
  Calls Tryz.prog 138 #[v] w fun e w'=>∃ v',e=.returned v'∧OwnS w.heap.size w' v' L∧Below w.heap.size w w':=by
 obtain ⟨a,c,rfl,hm,hcell⟩:=h;unfold maxLen at hm;have HC:=Lib.hid hcell;have HS:=Lib.hid hs;have hL:=hs.1;clear hcell hs;go_enter Tryz.func138,Tryz.ntmps138
 go_wp2
 go_loopw [3,8] (fun l i wr=>∃ j:Nat,j≤L.length∧i=.int .i64 j∧OwnS w.heap.size wr l (L.take j)∧Below w.heap.size w wr) (fun _ i _=>L.length - (intOf i).toNat)
 case atStart=>exact ⟨0,by omega,rfl,ownS_nil _ _,Below.refl _ _⟩
 case round=>
  obtain ⟨j,hj,rfl,hown,hbel⟩:=hrel;obtain ⟨sa,sc,rfl⟩:=ownS_slice hown;have htl:(L.take j).length=j:=by rw[List.length_take];omega
  simp only[htl] at hown ⊢;have HOwn:=Lib.hid hown;have HBel:=Lib.hid hbel;have hbs:=hbel.size
  by_cases hlt:j<L.length
  ·have t1:decide ((j:Int)<(L.length:Int))=true:=by simp;omega
   have t1':decide (j<L.length)=true:=by simpa using hlt
   obtain ⟨b,off,rfl,hb0,c0⟩:=HC.out j hlt;obtain ⟨X,hX⟩:∃ X:ByteArray,⟨L[j].toArray⟩=X:=⟨_,rfl⟩;have hXl:X.data.toList=L[j]:=by rw[← hX]
   have c1:(wr.cell? ⟨b,off+j,none⟩)=some (.string X):=by
    rw[hbel.cell (p:=⟨b,_,none⟩) hb0,c0,← hX];rfl
   have hXs:X.size≤281474976710656:=by
    have:=HS.out.2 L[j] (List.getElem_mem _);rw[← bytes_len,hXl];omega
   have hcl:=fun w=>clone_any X w hXs
   have HCl:=Lib.hid hcl;have htk:L.take (j+1)=L.take j++[X.data.toList]:=by rw[List.take_succ_eq_append_getElem hlt,hXl]
   have HTk:=Lib.hid htk;clear hX hXl c0 hcl htk hown hbel htl
   go_wp2_with (first
    | (go_at_call 67;refine (HCl.out _).mono ?_;rintro e w2 ⟨rfl,hb2⟩;have HB2:=Lib.hid hb2;have HO2:=Lib.hid (ownS_below HOwn.out hb2);have hbs2:=hb2.size;clear hb2)
    | (at_builtin;refine wpList_append_text rfl (.tmp 12) (.tmp 15) rfl w.heap.size (.slice sa j sc) (L.take j) rfl X HO2.out rfl (by rw[List.length_take];omega) (by omega) ?_;intro v5 w5 hown5 hb5;have HO5:=Lib.hid hown5;have HB5:=Lib.hid hb5;clear hown5 hb5))
   go_roundw
   case rel=>exact ⟨j+1,by omega,by go_num,by rw[HTk.out];exact HO5.out,(HBel.out.trans (HB2.out.mono hbs)).trans HB5.out⟩
   case measure=>simp[intOf];omega
  ·obtain rfl:j=L.length:=by omega
   have t1:decide ((L.length:Int)<(L.length:Int))=false:=by simp
   have t1':decide (L.length<L.length)=false:=by simp
   clear hown hbel htl;go_wp2;go_ret;exact ⟨_,rfl,by have:=HOwn.out;rwa [List.take_length] at this,HBel.out⟩
def smallA (L:List AT):Prop:=L.length≤1000∧∀ a∈L,a.1.length≤1000000∧smallT a.2
def findA (L:List AT) (t:List UInt8):List (List UInt8):=match L.find? (fun a=>low a.1 == low t) with
 | some a=>a.2
 | none=>[]
theorem findA_at {L:List AT} {t:List UInt8} (j:Nat) (hj:j<L.length) (h:∀ k (hk:k<L.length),k<j→(low L[k].1 == low t)=false) (he:(low L[j].1 == low t)=true):findA L t=L[j].2:=by
 have:L.find? (fun a=>low a.1 == low t)=some L[j]:=by
  induction L generalizing j with
  | nil=>simp at hj
  | cons x l ih=>
   cases j with
   | zero=>rw[List.find?_cons_of_pos (by exact he)];rfl
   | succ j=>
    have h0:=h 0 (by simp) (by omega);rw[List.find?_cons_of_neg (by simpa using h0)];exact ih j (by simpa using hj) (fun k hk hkj=>h (k+1) (by simpa using hk) (by omega)) he
 unfold findA;rw[this]
theorem findA_no {L:List AT} {t:List UInt8} (h:∀ k (hk:k<L.length),(low L[k].1 == low t)=false):findA L t=[]:=by
 have:L.find? (fun a=>low a.1 == low t)=none:=by
  rw[List.find?_eq_none];intro a ha;obtain ⟨k,hk,rfl⟩:=List.getElem_of_mem ha;simpa using h k hk
 unfold findA;rw[this]
theorem ownS_lower {B B':Nat} {w:World} {v:Value} {L:List (List UInt8)} (h:OwnS B w v L) (hle:B'≤B):OwnS B' w v L:=
 ⟨h.1,h.2.imp id fun ⟨g,cap,cur,e1,hb,rest⟩=>⟨g,cap,cur,e1,Nat.le_trans hle hb,rest⟩⟩
abbrev PT:=List UInt8×Value
def cellsP:List PT→List Value
 | []=>[]
 | r :: l=>strV r.1 :: r.2 :: cellsP l
theorem cellsP_append:∀ a b:List PT,cellsP (a++b)=cellsP a++cellsP b
 | [],_=>rfl
 | r :: a,b=>by show _ :: _ :: cellsP (a++b)=_;rw[cellsP_append a b];rfl
theorem cellsP_length:∀ l:List PT,(cellsP l).length=l.length * 2
 | []=>rfl
 | r :: l=>by simp[cellsP,cellsP_length l];omega
theorem cellsP_get:∀ (l:List PT) (j:Nat) (h:j<l.length),(cellsP l)[j * 2]?=some (strV l[j].1)∧(cellsP l)[j * 2+1]?=some l[j].2
 | r :: l,0,_=>⟨rfl,rfl⟩
 | r :: l,j+1,h=>by
  have:=cellsP_get l j (by simpa using h);rw[show (j+1) * 2=j * 2+2 from by omega];exact this
theorem infoA:(Tryz.prog.info? 60).map (fun i=>(i.zero,i.size,i.bytes))=some (some (.agg #[.string ⟨#[]⟩,.slice none 0 0]),2,40):=by kernel_rfl
def IsTo (ok:Nat→Prop) (w:World) (L:List (List UInt8)) (v:Value):Prop:=∃ a c,v=.slice a L.length c∧L.length≤maxLen ∧
 ∀ j,(h:j<L.length)→∃ b off,a=some ⟨b,off,none⟩∧ok b∧w.cell? ⟨b,off+j,none⟩=some (strV L[j])
theorem IsTo.imp {ok ok':Nat→Prop} {w w':World} {L:List (List UInt8)} {v:Value} (h:IsTo ok w L v) (hi:∀ b,ok b→ok' b) (hc:∀ b o,ok b→w'.cell? ⟨b,o,none⟩=w.cell? ⟨b,o,none⟩):IsTo ok' w' L v:=by
 obtain ⟨a,c,hv,hm,h⟩:=h;refine ⟨a,c,hv,hm,fun j hj=>?_⟩;obtain ⟨b,off,ha,hb,h0⟩:=h j hj;exact ⟨b,off,ha,hi b hb,(hc b _ hb).trans h0⟩
theorem IsTo.to {ok:Nat→Prop} {n:Nat} {w:World} {L:List (List UInt8)} {v:Value} (h:IsTo ok w L v) (hi:∀ b,ok b→b<n):IsT n w L v:=by
 obtain ⟨a,c,hv,hm,h⟩:=h;refine ⟨a,c,hv,hm,fun j hj=>?_⟩;obtain ⟨b,off,ha,hb,h0⟩:=h j hj;exact ⟨b,off,ha,hi b hb,h0⟩
theorem ownS_isTo {B:Nat} {w:World} {v:Value} {L:List (List UInt8)} (h:OwnS B w v L) (hl:L.length≤maxLen):IsTo (fun b=>B≤b∧b<w.heap.size) w L v:=by
 by_cases hne:L=[]
 ·subst hne;obtain ⟨a,c,hv⟩:=ownS_slice h;exact ⟨a,c,hv,hl,fun j hj=>absurd hj (by simp)⟩
 ·obtain ⟨g,c,hv,hB,hg,hc⟩:=ownS_at h hne;exact ⟨_,c,hv,hl,fun j hj=>⟨g,0,rfl,⟨hB,hg⟩,by rw[Nat.zero_add];exact hc j hj⟩⟩
def RowP (B:Nat) (w:World) (v:Value) (P:List PT):Prop:=w.ownsRow B 60 2 v P.length (cellsP P)
def Says (B:Nat) (w:World) (v:Value) (P:List PT) (L:List AT):Prop:=P.length=L.length∧∀ j (h:j<L.length) (h':j<P.length),P[j].1=L[j].1∧IsTo (fun b=>B≤b∧b<w.heap.size∧some b≠v.ownBlock) w L[j].2 P[j].2
def OwnA (B:Nat) (w:World) (v:Value) (L:List AT):Prop:=∃ P,RowP B w v P∧Says B w v P L
theorem rowP_below {B:Nat} {w w':World} {v:Value} {P:List PT} (h:RowP B w v P) (hb:Below w.heap.size w w'):RowP B w' v P:=
 World.ownsRow.kept h (row:=none) ⟨hb.os,hb.tape,hb.output,hb.size,fun k hk _=>hb.block k hk⟩ (by cases v.ownBlock <;> simp)
theorem says_below {B:Nat} {w w':World} {v:Value} {P:List PT} {L:List AT} (h:Says B w v P L) (hb:Below w.heap.size w w'):Says B w' v P L:=
 ⟨h.1,fun j h1 h2=>⟨(h.2 j h1 h2).1,(h.2 j h1 h2).2.imp (fun b hk=>⟨hk.1,Nat.lt_of_lt_of_le hk.2.1 hb.size,hk.2.2⟩) (fun b o hk=>hb.cell (p:=⟨b,o,none⟩) hk.2.1)⟩⟩
theorem ownA_below {B:Nat} {w w':World} {v:Value} {L:List AT} (h:OwnA B w v L) (hb:Below w.heap.size w w'):OwnA B w' v L:=by
 obtain ⟨P,h1,h2⟩:=h;exact ⟨P,rowP_below h1 hb,says_below h2 hb⟩
theorem rowP_slice {B:Nat} {w:World} {v:Value} {P:List PT} (h:RowP B w v P):∃ a c,v=.slice a P.length c:=by
 rcases h.2 with ⟨rfl,hz⟩ | ⟨g,cap,cur,rfl,_⟩
 ·exact ⟨_,_,by rw[hz]⟩
 ·exact ⟨_,_,rfl⟩
theorem ownA_slice {B:Nat} {w:World} {v:Value} {L:List AT} (h:OwnA B w v L):∃ a c,v=.slice a L.length c:=by
 obtain ⟨P,h1,h2⟩:=h;rw[← h2.1];exact rowP_slice h1
theorem ownA_nil (B:Nat) (w:World):OwnA B w (.slice none 0 0) []:=⟨[],World.ownsRow_nil _ _ _ _,rfl,fun j h=>absurd h (by simp)⟩
theorem rowP_at {B:Nat} {w:World} {v:Value} {P:List PT} (h:RowP B w v P) (hl:P≠[]):∃ g c,v=.slice (some ⟨g,0,none⟩) P.length c∧B≤g∧g<w.heap.size∧∀ j (hj:j<P.length),w.cell? ⟨g,j * 2,none⟩=some (strV P[j].1)∧w.cell? ⟨g,j * 2+1,none⟩=some P[j].2:=by
 have hc:=fun g (hg:v.ownBlock=some g)=>World.ownsRow.cells h hg
 rcases h.2 with ⟨rfl,hz⟩ | ⟨g,cap,cur,rfl,hB,hg,_⟩
 ·exact absurd (List.eq_nil_of_length_eq_zero hz) hl
 ·refine ⟨g,cap,rfl,hB,(Array.getElem?_eq_some_iff.1 hg).1,fun j hj=>?_⟩;obtain ⟨g1,g2⟩:=cellsP_get P j hj;have h1:=hc g rfl (j * 2) _ g1;have h2:=hc g rfl (j * 2+1) _ g2;have e1:((⟨g,0,none⟩:Addr).add (j * 2))=⟨g,j * 2,none⟩:=by simp[Addr.add];omega
  have e2:((⟨g,0,none⟩:Addr).add (j * 2+1))=⟨g,j * 2+1,none⟩:=by simp[Addr.add]
  rw[e1] at h1;rw[e2] at h2;exact ⟨h1,h2⟩
theorem ownA_isA {B:Nat} {w:World} {v:Value} {L:List AT} (h:OwnA B w v L) (hl:L.length≤maxLen):IsA w.heap.size w L v:=by
 obtain ⟨P,h1,h2⟩:=h
 by_cases hne:P=[]
 ·subst hne;obtain ⟨a,c,hv⟩:=rowP_slice h1;have:L=[]:=List.eq_nil_of_length_eq_zero (by have:=h2.1;simpa using this.symm);subst this;exact ⟨a,c,hv,hl,fun j hj=>absurd hj (by simp)⟩
 ·obtain ⟨g,c,hv,_,hg,hc⟩:=rowP_at h1 hne;refine ⟨_,c,by rw[hv,h2.1],hl,fun j hj=>?_⟩;have hj':j<P.length:=by rw[h2.1];exact hj
  obtain ⟨e1,e2⟩:=h2.2 j hj hj';refine ⟨g,0,P[j].2,rfl,hg,?_,?_,e2.to (fun b hb=>hb.2.1)⟩
  ·rw[Nat.zero_add,← e1];exact (hc j hj').1
  ·rw[Nat.zero_add];exact (hc j hj').2
theorem says_more {B:Nat} {w w':World} {v v':Value} {P:List PT} {L:List AT} {X:List UInt8} {u:Value} {A:List (List UInt8)} (h:Says B w v P L) (hu:IsTo (fun b=>B≤b∧b<w.heap.size∧some b≠v.ownBlock) w A u)
  (hg:w.grownBy w' v.ownBlock) (hat:v'.ownBlock=v.ownBlock∨v'.ownBlock=some w.heap.size):Says B w' v' (P++[(X,u)]) (L++[(X,A)]):=by
 have ok:∀ b,(B≤b∧b<w.heap.size∧some b≠v.ownBlock)→(B≤b∧b<w'.heap.size∧some b≠v'.ownBlock):=fun b hb=>⟨hb.1,Nat.lt_of_lt_of_le hb.2.1 hg.size,by
  rcases hat with e | e
  ·rw[e];exact hb.2.2
  ·rw[e];intro h;have:=Option.some.inj h;have:=hb.2.1;omega⟩
 have hc:∀ b o,(B≤b∧b<w.heap.size∧some b≠v.ownBlock)→w'.cell? ⟨b,o,none⟩=w.cell? ⟨b,o,none⟩:=fun b o hb=>by
  have:=hg.block b hb.2.1 hb.2.2;simp only[World.cell?,this]
 refine ⟨by simp[h.1],fun j h1 h2=>?_⟩
 by_cases hj:j<L.length
 ·have hj':j<P.length:=by rw[h.1];exact hj
  rw[List.getElem_append_left hj',List.getElem_append_left hj];exact ⟨(h.2 j hj hj').1,(h.2 j hj hj').2.imp ok hc⟩
 ·have e1:j=L.length:=by simp at h1;omega
  have e2:j=P.length:=by rw[h.1];exact e1
  have g1:(P++[(X,u)])[j]=(X,u):=by simp[e2]
  have g2:(L++[(X,A)])[j]=(X,A):=by simp[e1]
  rw[g1,g2];exact ⟨rfl,hu.imp ok hc⟩
theorem newsA (w:World) (x0 x1:Value):∀ j u,[x0,x1][j]?=some u→(w.alloc (.cells #[x0,x1] 60)).cell? ((⟨w.heap.size,0,none⟩:Addr).add j)=some u:=by
 intro j u hu;have h:(w.alloc (.cells #[x0,x1] 60)).heap[w.heap.size]?=some (.cells #[x0,x1] 60 (0,0)):=heap_alloc_new w _;have hadd:(⟨w.heap.size,0,none⟩:Addr).add j=⟨w.heap.size,j,none⟩:=by unfold Addr.add;split <;> simp_all
 rw[hadd];simp only[World.cell?,h];simpa using hu
theorem strV_whole (X:ByteArray):strV X.data.toList=.string X:=by show Value.string ⟨X.data.toList.toArray⟩=_;rw[whole_ext]
theorem says_row {B:Nat} {w w':World} {v v':Value} {P:List PT} {L:List AT} {X:ByteArray} {u:Value} {A:List (List UInt8)} (hs:Says B w v P L)
  (hu:IsTo (fun b=>B≤b∧b<w.heap.size∧some b≠v.ownBlock) w A u) (hr:w'.ownsRow B 60 2 v' (P.length+1) (cellsP P++[.string X,u])) (hg:w.grownBy w' v.ownBlock) (hat:v'.ownBlock=v.ownBlock∨v'.ownBlock=some w.heap.size) :
  OwnA B w' v' (L++[(X.data.toList,A)]):=by
 refine ⟨P++[(X.data.toList,u)],?_,says_more hs hu hg hat⟩;unfold RowP;rw[List.length_append,cellsP_append]
 show w'.ownsRow B 60 2 v' (P.length+1) (cellsP P++[strV X.data.toList,u])
 rw[strV_whole];exact hr
theorem wpList_append_attr {ops:Array Oper} {rest:List Oper} {o:Oper} {a:Act} {w:World} {Q:Exit→Act→World→Prop} (hgd:o.guard=none) (sl x:Operand)
  (ho:o.op=.call { callee:=.builtin .append,args:=#[sl,x],argTypes:=#[25,25] })
  (base:Nat) (v:Value) (L:List AT) (hs:a.eval sl=v) (X:ByteArray) (u:Value) (A:List (List UInt8)) (hown:OwnA base w v L) (hu:IsTo (fun b=>base≤b∧b<w.heap.size∧some b≠v.ownBlock) w A u) (hu1:u.oneCell'=true) (hx:a.eval x=.slice (some ⟨w.heap.size,0,none⟩) 1 1)
  (h63:L.length+1≤1000000) (hbase:base≤w.heap.size)
  (h:∀ v' w',OwnA base w' v' (L++[(X.data.toList,A)])→Below base w w'→wpList Tryz.prog ops Q rest (a.put o.dst v') w'):wpList Tryz.prog ops Q (o :: rest) a (w.alloc (.cells #[.string X,u] 60)):=by
 obtain ⟨i0,hi,hz0,hz1,hz2⟩:=info_parts infoA;obtain ⟨P,hr,hsay⟩:=hown;have hb:Below w.heap.size w (w.alloc (.cells #[.string X,u] 60)):=(Below.refl _ _).alloc (Nat.le_refl _) _;have hPL:=hsay.1;refine wpList_append_own_at _ hgd sl x 25 ho base 60 i0 (.agg #[.string ⟨#[]⟩,.slice none 0 0]) 2 40 Tryz.underlying25 hi hz0 hz1 hz2 rfl (by decide) v P.length (cellsP P) hs (World.ownsRow.alloc hr _) ⟨w.heap.size,0,none⟩ 1 1 [.string X,u] hx rfl (newsA w _ _) (by intro u' hu';simp at hu';rcases hu' with rfl | rfl;rfl;exact hu1) (by unfold maxLen;omega) (by omega) (by simp;omega) ?_;intro v' w' hown' hgrow _ hat;refine h v' w' (says_row (says_below hsay hb) (hu.imp (fun b hk=>⟨hk.1,Nat.lt_of_lt_of_le hk.2.1 hb.size,hk.2.2⟩) (fun b o hk=>hb.cell (p:=⟨b,o,none⟩) hk.2.1)) hown' hgrow hat) ?_;exact ((Below.refl base w).alloc hbase _).grown hgrow (by simp;omega) (fun k e=>(World.ownsRow.lt hr k e).1)
theorem step_append_attr {ops:Array Oper} {o:Oper} {a:Act} {w:World} {K:Act→World→Prop} {Q:Exit→Act→World→Prop} {E:Prop} (hgd:o.guard=none) (sl x:Operand)
  (ho:o.op=.call { callee:=.builtin .append,args:=#[sl,x],argTypes:=#[25,25] })
  (base:Nat) (v:Value) (L:List AT) (hs:a.eval sl=v) (X:ByteArray) (u:Value) (A:List (List UInt8)) (hown:OwnA base w v L) (hu:IsTo (fun b=>base≤b∧b<w.heap.size∧some b≠v.ownBlock) w A u) (hu1:u.oneCell'=true) (hx:a.eval x=.slice (some ⟨w.heap.size,0,none⟩) 1 1)
  (h63:L.length+1≤1000000) (hbase:base≤w.heap.size)
  (h:∀ v' w',OwnA base w' v' (L++[(X.data.toList,A)])→Below base w w'→K (a.put o.dst v') w') :
  if Region.wanted o (yielded ops a.tmps)=true then Oper.wp Tryz.prog o a (w.alloc (.cells #[.string X,u] 60)) K Q else E:=by
 obtain ⟨i0,hi,hz0,hz1,hz2⟩:=info_parts infoA;obtain ⟨P,hr,hsay⟩:=hown;have hb:Below w.heap.size w (w.alloc (.cells #[.string X,u] 60)):=(Below.refl _ _).alloc (Nat.le_refl _) _;have hPL:=hsay.1;refine step_append_lies _ hgd sl x 25 ho base 60 i0 (.agg #[.string ⟨#[]⟩,.slice none 0 0]) 2 40 Tryz.underlying25 hi hz0 hz1 hz2 rfl (by decide) v P.length (cellsP P) hs (World.ownsRow.alloc hr _) ⟨w.heap.size,0,none⟩ 1 1 [.string X,u] hx rfl (newsA w _ _) (by intro u' hu';simp at hu';rcases hu' with rfl | rfl;rfl;exact hu1) (by decide) (by unfold maxLen;omega) (by omega) (by simp;omega) _ rfl ?_;intro g cap w' hown' hgrow hat hlt;refine h _ w' (says_row (says_below hsay hb) (hu.imp (fun b hk=>⟨hk.1,Nat.lt_of_lt_of_le hk.2.1 hb.size,hk.2.2⟩) (fun b o hk=>hb.cell (p:=⟨b,o,none⟩) hk.2.1)) hown' hgrow (by rcases hat with e | e;exact .inl e.symm;exact .inr (by rw[e];rfl))) ?_;exact ((Below.refl base w).alloc hbase _).grown hgrow (by simp;omega) (fun k e=>(World.ownsRow.lt hr k e).1)
def valsS (L:List AT) (t:List UInt8):List (List UInt8):=match L.find? (fun a=>a.1 == t) with
 | some a=>a.2
 | none=>[]
def hasS (L:List AT) (t:List UInt8):Bool:=decide (0<(valsS L t).length)
def mostS (t:List UInt8):Int:=if t=[117,105,100,110,117,109,98,101,114] then 1 else 40
theorem valsS_at {L:List AT} {t:List UInt8} (j:Nat) (hj:j<L.length) (h:∀ k (hk:k<L.length),k<j→L[k].1≠t) (he:L[j].1=t):valsS L t=L[j].2:=by
 have:L.find? (fun a=>a.1 == t)=some L[j]:=by
  induction L generalizing j with
  | nil=>simp at hj
  | cons x l ih=>
   cases j with
   | zero=>rw[List.find?_cons_of_pos (by simpa using he)];rfl
   | succ j=>
    have h0:=h 0 (by simp) (by omega);rw[List.find?_cons_of_neg (by simpa using h0)];exact ih j (by simpa using hj) (fun k hk hkj=>h (k+1) (by simpa using hk) (by omega)) he
 unfold valsS;rw[this]
theorem valsS_no {L:List AT} {t:List UInt8} (h:∀ k (hk:k<L.length),L[k].1≠t):valsS L t=[]:=by
 have:L.find? (fun a=>a.1 == t)=none:=by
  rw[List.find?_eq_none];intro a ha;obtain ⟨k,hk,rfl⟩:=List.getElem_of_mem ha;simpa using h k hk
 unfold valsS;rw[this]
set_option maxRecDepth 100000 in
set_option maxHeartbeats 2000000 in
theorem valsOf_any (L:List AT) (hs:L.length≤1000) (v:Value) (t:ByteArray) (w:World) (h:IsA w.heap.size w L v) :
  Calls Tryz.prog 94 #[v,.string t] w fun e w'=>∃ u,e=.returned u∧IsT w.heap.size w (valsS L t.data.toList) u∧Below w.heap.size w w':=by
 obtain ⟨a,c,rfl,hm,hcell⟩:=h;unfold maxLen at hm;have HC:=Lib.hid hcell;clear hcell;go_enter Tryz.func94,Tryz.ntmps94
 go_wp2
 go_loopw [9] (fun i wr=>∃ j:Nat,j≤L.length∧i=.int .i64 j∧Hid (∀ k (hk:k<L.length),k<j→L[k].1≠t.data.toList)∧Below w.heap.size w wr) (fun i wr=>L.length - (intOf i).toNat)
 case atStart=>exact ⟨0,by omega,rfl,Lib.hid (fun k _ h=>absurd h (by omega)),Below.refl _ _⟩
 case round=>
  obtain ⟨j,hj,rfl,HNo,hbel⟩:=hrel;have HBel:=Lib.hid hbel;have hbs:=hbel.size
  by_cases hlt:j<L.length
  ·have t1:decide ((j:Int)<(L.length:Int))=true:=by simp;omega
   have t1':decide (j<L.length)=true:=by simpa using hlt
   obtain ⟨b,off,u,rfl,hb0,c0,c1,ht⟩:=HC.out j hlt;obtain ⟨ua,uc,hu,_⟩:=id ht;obtain ⟨un,hun⟩:∃ n,n=L[j].2.length:=⟨_,rfl⟩;rw[← hun] at hu;subst hu;clear hun;have HT:=Lib.hid ht;obtain ⟨X,hX⟩:∃ X:ByteArray,⟨L[j].1.toArray⟩=X:=⟨_,rfl⟩;have hXl:X.data.toList=L[j].1:=by rw[← hX]
   have d0:(wr.cell? ⟨b,off+j * 2,none⟩)=some (.string X):=by
    rw[hbel.cell (p:=⟨b,_,none⟩) hb0,c0,← hX];rfl
   have d1:=(hbel.cell (p:=⟨b,off+j * 2+1,none⟩) hb0).trans c1;have HXl:=Lib.hid hXl;have HA:=Lib.hid (Below.alloc hbel hbs (.cells #[.string X,.slice ua un uc] 60));clear hX hXl c0 c1 hbel ht
   by_cases he:X=t
   ·subst he;have HR:=Lib.hid (valsS_at j hlt HNo.out HXl.out.symm);go_wp2;go_ret;exact ⟨_,rfl,by rw[HR.out];exact HT.out,HA.out⟩
   ·have t2:=str_ne he
    have HN:Hid (∀ k (hk:k<L.length),k<j+1→L[k].1≠t.data.toList):=Lib.hid (fun k h1 h3=>by
      by_cases hk:k<j
      ·exact HNo.out k h1 hk
      ·obtain rfl:k=j:=by omega
       rw[← HXl.out]
       exact fun e=>he (bytes_ext e))
    clear he;go_wp2;go_roundw
    case rel=>exact ⟨j+1,by omega,by go_num,HN,HA.out⟩
    case measure=>simp[intOf];omega
  ·obtain rfl:j=L.length:=by omega
   have t1:decide ((L.length:Int)<(L.length:Int))=false:=by simp
   have t1':decide (L.length<L.length)=false:=by simp
   have HR:=Lib.hid (valsS_no (t:=t.data.toList) (fun k hk=>HNo.out k hk hk));clear hbel;go_wp2;go_ret;exact ⟨_,rfl,by rw[HR.out];exact isT_nil _ _ _ _,HBel.out⟩
set_option maxRecDepth 100000 in
set_option maxHeartbeats 2000000 in
theorem hasS_any (L:List AT) (hs:L.length≤1000) (v:Value) (t:ByteArray) (w:World) (h:IsA w.heap.size w L v) :
  Calls Tryz.prog 91 #[v,.string t] w fun e w'=>e=.returned (.bool (hasS L t.data.toList))∧Below w.heap.size w w':=by
 have hv:=valsOf_any L hs v t w h;obtain ⟨sa,sc,hsv,_⟩:=h;obtain ⟨sn,hsn⟩:∃ n,n=L.length:=⟨_,rfl⟩;rw[← hsn] at hsv;subst hsv;have HV:=Lib.hid hv;clear hv hsn;go_enter Tryz.func91,Tryz.ntmps91
 go_wp2_with (go_at_call 94;refine (HV.out).mono ?_;rintro e w2 ⟨u,rfl,hu,hb2⟩;(obtain ⟨ua,uc,rfl,_⟩:=hu);have HB2:=Lib.hid hb2;clear hb2)
 go_ret;exact ⟨by unfold hasS;congr 2,HB2.out⟩
set_option maxRecDepth 100000 in
theorem most_any (t:ByteArray) (w:World):Calls Tryz.prog 127 #[.string t] w fun e w'=>e=.returned (.int .i64 (mostS t.data.toList))∧w'=w:=by
 by_cases he:t=⟨#[117,105,100,110,117,109,98,101,114]⟩
 ·subst he;go_enter Tryz.func127,Tryz.ntmps127
  go_wp2;go_ret;exact ⟨rfl,rfl⟩
 ·have t1:=str_ne he;have t2:(t.toList == [117,105,100,110,117,109,98,101,114])=false:=by
   rw[← t1];congr 1;rw[ByteArray.toList_eq]
  have hm:mostS t.data.toList=40:=by
   unfold mostS;rw[if_neg (fun e=>he (bytes_ext e))]
  rw[hm];clear he t1 hm;go_enter Tryz.func127,Tryz.ntmps127
  go_wp2;go_ret;exact ⟨rfl,rfl⟩
def LaidW (w:World):Prop:=(∃ tp p,w.var? Tryz.prog "strconv.ErrSyntax"=some #[.iface tp p])∧(∃ tp p,w.var? Tryz.prog "strconv.ErrRange"=some #[.iface tp p])∧Lib.TabIs Tryz.prog w "internal/strconv.uint64pow10" .u64 Lib.pow10Tab
theorem LaidW.below {w w':World} (h:LaidW w) (hb:Below w.heap.size w w'):LaidW w':=by
 obtain ⟨⟨t1,p1,h1⟩,⟨t2,p2,h2⟩,h3⟩:=h;exact ⟨⟨t1,p1,Joins.var_stays (g:=3) (by kernel_rfl) h1 hb (Nat.le_refl _)⟩,⟨t2,p2,Joins.var_stays (g:=4) (by kernel_rfl) h2 hb (Nat.le_refl _)⟩,Joins.tab_stays (g:=5) (by kernel_rfl) h3 hb (Nat.le_refl _)⟩
theorem LaidW.drew {w:World} (h:LaidW w) (n:Nat):LaidW (w.drewN n):=h.below ⟨rfl,rfl,rfl,Nat.le_refl _,fun _ _=>rfl⟩
theorem parseI_ok (s:ByteArray) (hs:s.size≤281474976710656) (v:Int) (h:Lib.parseIntB 64 s.data.toList=.ok v) (w:World) :
  Calls Tryz.prog 175 #[.string s,.int .i64 10,.int .i64 64] w fun e w'=>e=.returned (.tuple #[.int .i64 v,.nilIface])∧Below w.heap.size w w':=
 (Tryz.strconv_ParseInt_10_at64_ok s (by omega) v h w).mono fun e w' ⟨he,hw⟩=>⟨he,by rcases hw with rfl | ⟨t,rfl⟩;exact Below.refl _ _;exact Lib.bytesWorld_below _ _ _⟩
theorem parseI_bad (s:ByteArray) (hs:s.size≤281474976710656) (h:∀ v,Lib.parseIntB 64 s.data.toList≠.ok v) (w:World) (hw:LaidW w) :
  Calls Tryz.prog 175 #[.string s,.int .i64 10,.int .i64 64] w fun e w'=>∃ v t N,(e=.returned (.tuple #[.int .i64 v,.iface t (.pointer (some ⟨N,0,none⟩))]))∧Below w.heap.size w w':=by
 obtain ⟨⟨t1,p1,h1⟩,⟨t2,p2,h2⟩,h3⟩:=hw
 cases e:Lib.parseIntB 64 s.data.toList with
 | ok v=>exact absurd e (h v)
 | «syntax»=>exact (Tryz.strconv_ParseInt_10_at64_syntax_var s hs e t1 p1 w h1).mono fun e w' ⟨N,he,_,_,hb⟩=>⟨_,_,N,he,hb⟩
 | range=>exact (Tryz.strconv_ParseInt_10_at64_range_var s hs e t2 p2 w h2).mono fun e w' ⟨N,he,_,_,hb⟩=>⟨_,_,N,he,hb⟩
theorem fmt_any (v:Int) (h0:-9223372036854775808≤v) (h1:v≤9223372036854775807) (w:World) (hw:LaidW w) :
  Calls Tryz.prog 176 #[.int .i64 v,.int .i64 10] w fun e w'=>e=.returned (.string ⟨(Lib.itoa v).toArray⟩)∧Below w.heap.size w w':=
 (Tryz.strconv_FormatInt_10 v h0 h1 w hw.2.2).mono fun e w' ⟨he,k,os,hw⟩=>⟨he,by subst hw;exact Lib.below_grow _ _ (Nat.le_refl _) k os⟩
def numV (o:Option Int):Value:=match o with
 | some v=>.tuple #[.int .i64 v,.bool true]
 | none=>.tuple #[.int .i64 0,.bool false]
set_option maxRecDepth 100000 in
set_option maxHeartbeats 1000000 in
theorem number_any (s:ByteArray) (hs:s.size≤281474976710656) (w:World) (hw:LaidW w) :
  Calls Tryz.prog 157 #[.string s] w fun e w'=>e=.returned (numV (numD s.data.toList))∧Below w.heap.size w w':=by
 have htr:=fun w=>Tryz.strings_TrimPrefix s ⟨#[45]⟩ w
 obtain ⟨T,hT⟩:∃ T:ByteArray,T=⟨(Lib.trimPrefix s.data.toList (⟨#[45]⟩:ByteArray).data.toList).toArray⟩:=⟨_,rfl⟩;have hTl:(Lib.trimPrefix s.data.toList [45]).length=T.size:=by rw[hT,← bytes_len]
 rw[← hT] at htr;have HTr:=Lib.hid htr;clear hT htr;unfold numD;rw[hTl];clear hTl;have HW:=Lib.hid hw;clear hw
 by_cases h15:T.size≤15
 ·rw[if_pos h15];have t0:decide ((15:Int)<(T.size:Int))=false:=by simp;omega
  by_cases hok:∃ v,Lib.parseIntB 64 s.data.toList=.ok v
  ·obtain ⟨v,hv⟩:=hok;have hb:=Lib.atoiAll_bounds (by rw[← Lib.parseIntB_64];exact hv);have hp:=fun w=>parseI_ok s hs v hv w
   have hf:=fun w=>fmt_any v hb.1 hb.2 w
   obtain ⟨F,hF⟩:∃ F:ByteArray,F=⟨(Lib.itoa v).toArray⟩:=⟨_,rfl⟩;have hFl:Lib.itoa v=F.data.toList:=by rw[hF]
   rw[← hF] at hf;rw[hv];simp only[okN,hFl];have HP:=Lib.hid hp;have HF:=Lib.hid hf;clear hv hb hp hf hF hFl
   by_cases he:F=s
   ·subst he;rw[if_pos rfl];go_enter Tryz.func157,Tryz.ntmps157
    go_wp2_with (first | (go_at_call 174;refine (HTr.out _).mono ?_;rintro e w1 ⟨rfl,rfl⟩) | (go_at_call 175;refine (HP.out _).mono ?_;rintro e w2 ⟨rfl,hb2⟩;have HB2:=Lib.hid hb2;clear hb2) | (go_at_call 176;refine (HF.out _ (HW.out.below HB2.out)).mono ?_;rintro e w3 ⟨rfl,hb3⟩;have HB3:=Lib.hid (bthen HB2.out hb3);clear hb3))
    go_ret2
    exact ⟨rfl,HB3.out⟩
   ·have hn:¬ F.data.toList=s.data.toList:=fun e=>he (bytes_ext e)
    rw[if_neg hn];have t1:=str_ne he;have HN:=Lib.hid hn;clear hn he;go_enter Tryz.func157,Tryz.ntmps157
    go_wp2_with (first | (go_at_call 174;refine (HTr.out _).mono ?_;rintro e w1 ⟨rfl,rfl⟩) | (go_at_call 175;refine (HP.out _).mono ?_;rintro e w2 ⟨rfl,hb2⟩;have HB2:=Lib.hid hb2;clear hb2) | (go_at_call 176;refine (HF.out _ (HW.out.below HB2.out)).mono ?_;rintro e w3 ⟨rfl,hb3⟩;have HB3:=Lib.hid (bthen HB2.out hb3);clear hb3))
    go_ret2
    exact ⟨rfl,HB3.out⟩
  ·have hno:∀ v,Lib.parseIntB 64 s.data.toList≠.ok v:=fun v e=>hok ⟨v,e⟩
   have hp:=fun w=>parseI_bad s hs hno w
   have hv:okN (Lib.parseIntB 64 s.data.toList) s.data.toList=none:=by
    cases e:Lib.parseIntB 64 s.data.toList with
    | ok v=>exact absurd e (hno v)
    | «syntax»=>rfl
    | range=>rfl
   rw[hv];have HP:=Lib.hid hp;clear hv hp hno hok;go_enter Tryz.func157,Tryz.ntmps157
   go_wp2_with (first | (go_at_call 174;refine (HTr.out _).mono ?_;rintro e w1 ⟨rfl,rfl⟩) | (go_at_call 175;refine (HP.out _ HW.out).mono ?_;rintro e w2 ⟨v,t,N,rfl,hb2⟩;have HB2:=Lib.hid hb2;clear hb2))
   go_ret2
   exact ⟨rfl,HB2.out⟩
 ·rw[if_neg h15];have t0:decide ((15:Int)<(T.size:Int))=true:=by simp;omega
  go_enter Tryz.func157,Tryz.ntmps157
  go_wp2_with (go_at_call 174;refine (HTr.out _).mono ?_;rintro e w1 ⟨rfl,rfl⟩)
  go_ret2
  exact ⟨rfl,Below.refl _ _⟩
end Go.Proofs.YtgaaefcanfglhaaGreatDoor
