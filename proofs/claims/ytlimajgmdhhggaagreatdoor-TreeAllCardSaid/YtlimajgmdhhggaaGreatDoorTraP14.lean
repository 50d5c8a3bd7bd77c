/- Several texts in one file: MaRef, EnRSetW. -/
import Derived.Test.YtlimajgmdhhggaaGreatDoorTraP1
import Derived.Test.YtlimajgmdhhggaaGreatDoorTraP13
import Derived.Deep.Cut
import Derived.Deep.CutRange
namespace Go.Proofs.YtlimajgmdhhggaaGreatDoor
open Go.RowKit
set_option linter.unusedVariables false
theorem kinds_mem {n:List UInt8} {k:List UInt8 × Nat} (h:findL n = some k):k ∈ kindsL:=List.mem_of_find?_eq_some h
theorem find_none_ne {n:List UInt8} (h:findL n = none):∀ k ∈ kindsL,n ≠ k.1:=by
 intro k hk e
 have:=List.find?_eq_none.1 h k hk
 simp [e] at this
theorem ne_str {L:ByteArray} {l:List UInt8} (h:L.data.toList ≠ l):(L.toList == l) = false:=by
 rw [beq_eq_false_iff_ne,ByteArray.toList_eq];exact h
set_option maxRecDepth 100000 in
set_option maxHeartbeats 4000000 in
theorem ruleRef_any (s:ByteArray) (hs:s.size ≤ 281474976710656) (w:World):Calls Tryz.prog 82 #[.string s] w fun e w'=>e = .returned (.int .i64 (ruleD s.data.toList)) ∧ Below w.heap.size w w':=by
 obtain ⟨L,hL⟩:∃ L,L = lowB s:=⟨_,rfl⟩
 have hLl:L.data.toList = low s.data.toList:=by rw [hL,lowB_list]
 have hr:ruleD s.data.toList = ruleL L.data.toList:=by unfold ruleD;rw [hLl]
 rw [hr]
 have hlo:=fun w=>lowerRef_any s w hs
 rw [← hL] at hlo
 clear hL hLl hr
 have HLo:=Lib.hid hlo
 clear hlo
 cases hf:findL L.data.toList with
 | some k=>
  have hm:=kinds_mem hf
  have he:=(findL_len hf).1
  have hru:ruleL L.data.toList = k.2:=by unfold ruleL;rw [hf]
  rw [hru]
  clear hru hf
  have hLk:L = ⟨k.1.toArray⟩:=bytes_ext (by rw [← he])
  clear he
  subst hLk
  simp only [kindsL,List.mem_cons,List.not_mem_nil,or_false] at hm
  rcases hm with rfl | rfl | rfl | rfl | rfl | rfl | rfl | rfl | rfl | rfl | rfl
  all_goals
   go_enter Tryz.func82,Tryz.ntmps82
   go_wp2_with (go_at_call 42;refine (HLo.out _).mono ?_;rintro e w1 ⟨rfl,hb1⟩;have HB:=Lib.hid hb1;clear hb1)
   go_ret
   exact ⟨rfl,HB.out⟩
 | none=>
  have hru:ruleL L.data.toList = 0:=by unfold ruleL;rw [hf]
  rw [hru]
  have hne:=find_none_ne hf
  clear hru hf
  have q0:=ne_str (hne ([111,98,106,101,99,116,99,108,97,115,115],1) (by simp [kindsL]))
  have q1:=ne_str (hne ([99,110],1) (by simp [kindsL]))
  have q2:=ne_str (hne ([115,110],1) (by simp [kindsL]))
  have q3:=ne_str (hne ([111],1) (by simp [kindsL]))
  have q4:=ne_str (hne ([111,117],1) (by simp [kindsL]))
  have q5:=ne_str (hne ([117,105,100],1) (by simp [kindsL]))
  have q6:=ne_str (hne ([109,97,105,108],1) (by simp [kindsL]))
  have q7:=ne_str (hne ([100,101,115,99,114,105,112,116,105,111,110],1) (by simp [kindsL]))
  have q8:=ne_str (hne ([117,105,100,110,117,109,98,101,114],2) (by simp [kindsL]))
  have q9:=ne_str (hne ([109,101,109,98,101,114],3) (by simp [kindsL]))
  have q10:=ne_str (hne ([117,115,101,114,112,97,115,115,119,111,114,100],4) (by simp [kindsL]))
  clear hne
  go_enter Tryz.func82,Tryz.ntmps82
  go_wp2_with (go_at_call 42;refine (HLo.out _).mono ?_;rintro e w1 ⟨rfl,hb1⟩;have HB:=Lib.hid hb1;clear hb1)
  go_ret
  exact ⟨rfl,HB.out⟩
def BoxS (w:World) (b:Nat) (x:ByteArray) (ok:Bool):Prop:=w.heap[b]? = some (.cells #[.string x,.bool ok] 56 (0,0))
theorem BoxS.below {w w':World} {b n:Nat} {x:ByteArray} {ok:Bool} (h:BoxS w b x ok) (hb:Below n w w') (hn:b < n):BoxS w' b x ok:=(hb.block b hn).trans h
theorem BoxS.cells {w:World} {b:Nat} {x:ByteArray} {ok:Bool} (h:BoxS w b x ok):w.cell? ⟨b,0,none⟩ = some (.string x) ∧ w.cell? ⟨b,1,none⟩ = some (.bool ok) ∧ w.frozen? ⟨b,0,none⟩ = false ∧ w.frozen? ⟨b,1,none⟩ = false:=by
 unfold BoxS at h
 simp [World.cell?,World.frozen?,h]
theorem boxS_new (w:World) (x:ByteArray) (ok:Bool):BoxS (w.alloc (.cells #[.string x,.bool ok] 56)) w.heap.size x ok:=heap_alloc_new w _
theorem BoxS.store {w:World} {b:Nat} {x:ByteArray} {ok:Bool} (h:BoxS w b x ok) (x':ByteArray) (ok':Bool):BoxS ((w.setCell ⟨b,0,none⟩ (.string x')).setCell ⟨b,1,none⟩ (.bool ok')) b x' ok':=by
 unfold BoxS at h ⊢
 simp [World.setCell,Array.getElem?_modify,h]
def saidR (o:Option (List UInt8)):Value:=match o with
 | some k=>.agg #[.string ⟨k.toArray⟩,.bool true]
 | none=>.agg #[.string ⟨#[]⟩,.bool false]
set_option maxRecDepth 100000 in
set_option maxHeartbeats 4000000 in
theorem canonRef_any (s:ByteArray) (hs:s.size ≤ 281474976710656) (w:World):Calls Tryz.prog 41 #[.string s] w fun e w'=>e = .returned (saidR (canonD s.data.toList)) ∧ Below w.heap.size w w':=by
 obtain ⟨L,hL⟩:∃ L,L = lowB s:=⟨_,rfl⟩
 have hLl:L.data.toList = low s.data.toList:=by rw [hL,lowB_list]
 have hLs:L.size ≤ 281474976710656:=by rw [hL,lowB_size];exact hs
 have hru:=fun w=>ruleRef_any L hLs w
 have hlo:=fun w=>lowerRef_any s w hs
 rw [← hL] at hlo
 have hr:ruleD L.data.toList = ruleD s.data.toList:=by rw [hLl,ruleD_low]
 simp only [hr] at hru
 have HR:=Lib.hid hru
 have HLo:=Lib.hid hlo
 clear hlo hru hr
 have HBox:=Lib.hid (boxS_new w ⟨#[]⟩ false)
 cases hc:canonD s.data.toList with
 | none=>
  have h0:=(canon_rule _).1 hc
  rw [h0] at HR
  clear h0 hc hL hLl
  go_enter Tryz.func41,Tryz.ntmps41
  go_wp2_with (first | (go_at_call 42;refine (HLo.out _).mono ?_;rintro e w1 ⟨rfl,hb1⟩;have HB:=Lib.hid (((Below.refl _ _).alloc (Nat.le_refl _) _).trans (hb1.mono (by simp)));have HX:=Lib.hid (HBox.out.below hb1 (by simp));have hz1:w.heap.size < w1.heap.size:=(by have:=hb1.size;simp at this;omega);clear hb1) | (go_at_call 82;refine (HR.out _).mono ?_;rintro e w2 ⟨rfl,hb2⟩;have HB:=Lib.hid (bthen HB.out hb2);have HX:=Lib.hid (HX.out.below hb2 hz1);obtain ⟨k0,k1,l0,l1⟩:=HX.out.cells;clear hb2))
  obtain ⟨q0,q1,_,_⟩:=(HX.out.store ⟨#[]⟩ false).cells
  refine bodyPost_ret (v:=.agg #[.string ⟨#[]⟩,.bool false]) (by simp [results,Tryz.results41,go_sem,q0,q1]) rfl ⟨rfl,?_⟩
  exact (HB.out.setCell (Nat.le_refl _) _).setCell (Nat.le_refl _) _
 | some k=>
  obtain ⟨e1,e2,_⟩:=canon_eq hc
  have hr1:((ruleD s.data.toList:Nat):Int) ≠ 0:=by omega
  have t0:(((ruleD s.data.toList:Nat):Int) == 0) = false:=by simpa using hr1
  have hv:saidR (some k) = .agg #[.string L,.bool true]:=by rw [e1,← hLl];simp [saidR]
  have HV:=Lib.hid hv
  generalize ruleD s.data.toList = r at *
  clear hc e1 e2 hr1 hv hL hLl
  go_enter Tryz.func41,Tryz.ntmps41
  go_wp2_with (first | (go_at_call 42;refine (HLo.out _).mono ?_;rintro e w1 ⟨rfl,hb1⟩;have HB:=Lib.hid (((Below.refl _ _).alloc (Nat.le_refl _) _).trans (hb1.mono (by simp)));have HX:=Lib.hid (HBox.out.below hb1 (by simp));have hz1:w.heap.size < w1.heap.size:=(by have:=hb1.size;simp at this;omega);clear hb1) | (go_at_call 82;refine (HR.out _).mono ?_;rintro e w2 ⟨rfl,hb2⟩;have HB:=Lib.hid (bthen HB.out hb2);have HX:=Lib.hid (HX.out.below hb2 hz1);obtain ⟨k0,k1,l0,l1⟩:=HX.out.cells;clear hb2))
  obtain ⟨q0,q1,_,_⟩:=(HX.out.store L true).cells
  refine bodyPost_ret (v:=.agg #[.string L,.bool true]) (by simp [results,Tryz.results41,go_sem,q0,q1]) rfl ⟨by rw [HV.out],?_⟩
  exact (HB.out.setCell (Nat.le_refl _) _).setCell (Nat.le_refl _) _
end Go.Proofs.YtlimajgmdhhggaaGreatDoor
namespace Go.Proofs.YtlimajgmdhhggaaGreatDoor
open Go.RowKit
set_option linter.unusedVariables false
set_option linter.unusedSimpArgs false
theorem canon_forms (t:List UInt8):(∃ S:ByteArray,canonD t = some S.data.toList ∧ saidR (canonD t) = .agg #[.string S,.bool true] ∧ nameA t = S.data.toList) ∨ (canonD t = none ∧ saidR (canonD t) = .agg #[.string ⟨#[]⟩,.bool false] ∧ nameA t = t):=by
 cases h:canonD t with
 | none=>exact .inr ⟨rfl,by rfl,by unfold nameA;rw [h];rfl⟩
 | some s=>exact .inl ⟨⟨s.toArray⟩,rfl,by rfl,by unfold nameA;rw [h];rfl⟩
end Go.Proofs.YtlimajgmdhhggaaGreatDoor
