/- Several texts in one file: ScRow, ScClass, ScFind, ScCls. -/
import Derived.Test.YtlimajgmdhhggaaGreatDoorTraP2
import Derived.Sort.OwnSorted
import Derived.BigQuiet
import Derived.Deep.RegionLaw
import Derived.Deep.RegionHeld3
import Derived.Test.YtlimajgmdhhggaaGreatDoorDnParse
namespace Go.Proofs.YtlimajgmdhhggaaGreatDoor
open Go.RowKit
set_option linter.unusedVariables false
def LaidF (w:World):Prop:=Lib.TabIs Tryz.prog w "strings.asciiSpace" .u8 Lib.asciiSpaceTab
theorem LaidF.below {w w':World} (h:LaidF w) (hb:Below w.heap.size w w'):LaidF w':=Joins.tab_stays (g:=1) (by kernel_rfl) h hb (Nat.le_refl _)
def plainB (l:List UInt8):Bool:=l.all (fun b=>decide (b.toNat < 128)) && decide (l.length < 1000)
abbrev New (B:Nat) (w:World) (b:Nat):Prop:=B ≤ b ∧ b < w.heap.size
def rowCells:Array Value:=#[.string { data:=#[116,111,112] },.string { data:=#[] },.bool false,.string { data:=#[111,98,106,101,99,116,99,108,97,115,115] },.string { data:=#[] },.string { data:=#[111,114,103,97,110,105,122,97,116,105,111,110] },.string { data:=#[116,111,112] },.bool true,.string { data:=#[111] },.string { data:=#[100,101,115,99,114,105,112,116,105,111,110] },.string { data:=#[111,114,103,97,110,105,122,97,116,105,111,110,97,108,117,110,105,116] },.string { data:=#[116,111,112] },.bool true,.string { data:=#[111,117] },.string { data:=#[100,101,115,99,114,105,112,116,105,111,110] },.string { data:=#[112,101,114,115,111,110] },.string { data:=#[116,111,112] },.bool true,.string { data:=#[99,110,32,115,110] },.string { data:=#[100,101,115,99,114,105,112,116,105,111,110,32,117,115,101,114,112,97,115,115,119,111,114,100] },.string { data:=#[105,110,101,116,111,114,103,112,101,114,115,111,110] },.string { data:=#[112,101,114,115,111,110] },.bool true,.string { data:=#[] },.string { data:=#[117,105,100,32,109,97,105,108] },.string { data:=#[112,111,115,105,120] },.string { data:=#[116,111,112] },.bool false,.string { data:=#[117,105,100,32,117,105,100,110,117,109,98,101,114] },.string { data:=#[] },.string { data:=#[103,114,111,117,112,111,102,110,97,109,101,115] },.string { data:=#[116,111,112] },.bool true,.string { data:=#[99,110,32,109,101,109,98,101,114] },.string { data:=#[100,101,115,99,114,105,112,116,105,111,110] }]
def rowsV:Value:=.agg rowCells
theorem row_row:(Tryz.prog.info? 227).map (·.size) = some rowCells.size:=by kernel_rfl
set_option maxRecDepth 100000 in
set_option maxHeartbeats 1000000 in
theorem rows_any (w:World):Calls Tryz.prog 191 #[] w fun e w'=>e = .returned rowsV ∧ Below w.heap.size w w':=by
 have hld:=run_loadVar_new (P:=Tryz.prog) w 227 rowCells 7 226 Tryz.underlying227 row_row
 go_enter Tryz.func191,Tryz.ntmps191
 go_wp2_with (first | (refine wpList_buildTo rfl 227 _ rfl (some 8) rfl rowCells (by kernel_rfl) ?_) | (refine wpList_store_row rfl 227 (.tmp 0) (.tmp 8) rfl w.heap.size rowCells rfl rfl 227 _ (Array.getElem?_push_size ..) (by kernel_rfl) (by kernel_rfl) (by kernel_rfl) ?_;rw [World.setRow_alloc_new]))
 refine bodyPost_ret (v:=rowsV) ?_ rfl ⟨rfl,(Below.refl _ _).alloc (Nat.le_refl _) _⟩
 exact results_one rfl rfl hld
def rowV (c:CT):Value:=.agg #[strV c.name,strV c.sup,.bool c.st,strV c.must,strV c.may]
theorem row_all (w:World):∀ k:Fin 7,(Instr.index 227 rowsV (.int .i64 k.1)).run Tryz.prog w = .ok (rowV (classL.getD k.1 ⟨[],[],false,[],[]⟩)) w
 | ⟨0,_⟩=>by show (Instr.index 227 rowsV (.int .i64 ((0:Nat):Int))).run Tryz.prog w = _;kernel_rfl
 | ⟨1,_⟩=>by show (Instr.index 227 rowsV (.int .i64 ((1:Nat):Int))).run Tryz.prog w = _;kernel_rfl
 | ⟨2,_⟩=>by show (Instr.index 227 rowsV (.int .i64 ((2:Nat):Int))).run Tryz.prog w = _;kernel_rfl
 | ⟨3,_⟩=>by show (Instr.index 227 rowsV (.int .i64 ((3:Nat):Int))).run Tryz.prog w = _;kernel_rfl
 | ⟨4,_⟩=>by show (Instr.index 227 rowsV (.int .i64 ((4:Nat):Int))).run Tryz.prog w = _;kernel_rfl
 | ⟨5,_⟩=>by show (Instr.index 227 rowsV (.int .i64 ((5:Nat):Int))).run Tryz.prog w = _;kernel_rfl
 | ⟨6,_⟩=>by show (Instr.index 227 rowsV (.int .i64 ((6:Nat):Int))).run Tryz.prog w = _;kernel_rfl
theorem row_at (k:Nat) (h:k < classL.length) (w:World):(Instr.index 227 rowsV (.int .i64 k)).run Tryz.prog w = .ok (rowV classL[k]) w:=by
 have:=row_all w ⟨k,h⟩
 have e:classL.getD k ⟨[],[],false,[],[]⟩ = classL[k]:=by simp [List.getD,h]
 simp only [e] at this
 exact this
theorem class_plain:∀ c ∈ classL,plainB c.must = true ∧ plainB c.may = true:=by
 intro c hc
 simp only [classL,List.mem_cons,List.not_mem_nil,or_false] at hc
 rcases hc with rfl | rfl | rfl | rfl | rfl | rfl | rfl <;> decide
theorem fields_len (l:List UInt8):(Lib.fields l).length ≤ l.length + 1:=by
 have h:∀ (l cur:List UInt8),(Lib.fieldsGo cur l).length ≤ l.length + 1:=by
  intro l
  induction l with
  | nil=>intro cur;unfold Lib.fieldsGo;split <;> simp
  | cons b l ih=>
   intro cur
   unfold Lib.fieldsGo
   split
   ·split
    ·have:=ih [];simp;omega
    ·have:=ih [];simp;omega
   ·have:=ih (cur ++ [b]);simp;omega
 exact h l []
theorem fields_any (s:ByteArray) (w:World) (hl:LaidF w) (hp:plainB s.data.toList = true) :
  Calls Tryz.prog 216 #[.string s] w fun e w'=>∃ u,e = .returned u ∧ IsTo (New w.heap.size w') w' (Lib.fields s.data.toList) u ∧ Below w.heap.size w w':=by
 unfold plainB at hp
 simp only [Bool.and_eq_true,decide_eq_true_eq,List.all_eq_true] at hp
 have hsz:s.size < 1000:=by rw [← bytes_len];exact hp.2
 have hf:=fields_len s.data.toList
 rw [bytes_len] at hf
 refine (Tryz.strings_Fields s w (by omega) (fun j b hj=>hp.1 b (List.mem_of_getElem? hj)) hl).mono ?_
 rintro e w' ⟨rfl,rfl⟩
 refine ⟨_,rfl,⟨_,_,rfl,by unfold maxLen;omega,fun j hj=>⟨w.heap.size,0,rfl,⟨Nat.le_refl _,by simp⟩,?_⟩⟩,(Below.refl _ _).alloc (Nat.le_refl _) _⟩
 have h:(w.alloc (.cells ((Lib.fields s.data.toList).map fun l=>Value.string ⟨l.toArray⟩).toArray 9)).heap[w.heap.size]? = some (.cells ((Lib.fields s.data.toList).map fun l=>Value.string ⟨l.toArray⟩).toArray 9 (0,0)):=heap_alloc_new w _
 simp only [World.cell?]
 rw [h]
 simp [hj,strV]
theorem isTo_slice {ok:Nat → Prop} {w:World} {L:List (List UInt8)} {v:Value} (h:IsTo ok w L v):∃ a n c,v = .slice a n c:=by
 obtain ⟨a,c,h,_⟩:=h
 exact ⟨a,_,c,h⟩
def noC:Value:=.agg #[.string ⟨#[]⟩,.string ⟨#[]⟩,.bool false,.slice none 0 0,.slice none 0 0]
theorem cell_ne (w:World) (a:Addr) (x:Value) {b:Nat} (o:Nat) (h:b ≠ a.block):(w.setCell a x).cell? ⟨b,o,none⟩ = w.cell? ⟨b,o,none⟩:=by
 have:(w.setCell a x).heap[b]? = w.heap[b]?:=by
  unfold World.setCell
  simp [Array.getElem?_modify,Ne.symm h]
 simp only [World.cell?,this]
abbrev set5 (w:World) (b:Nat) (x0 x1 x2 x3 x4:Value):World:=((((w.setCell ⟨b,0,none⟩ x0).setCell ⟨b,1,none⟩ x1).setCell ⟨b,2,none⟩ x2).setCell ⟨b,3,none⟩ x3).setCell ⟨b,4,none⟩ x4
theorem set5_cell (w:World) (b:Nat) (x0 x1 x2 x3 x4:Value) {k:Nat} (o:Nat) (h:k ≠ b):(set5 w b x0 x1 x2 x3 x4).cell? ⟨k,o,none⟩ = w.cell? ⟨k,o,none⟩:=by
 simp only [set5]
 rw [cell_ne _ ⟨b,4,none⟩ _ o h,cell_ne _ ⟨b,3,none⟩ _ o h,cell_ne _ ⟨b,2,none⟩ _ o h,cell_ne _ ⟨b,1,none⟩ _ o h,cell_ne _ ⟨b,0,none⟩ _ o h]
theorem set5_below {n b:Nat} {w w':World} (h:Below n w w') (hb:n ≤ b) (x0 x1 x2 x3 x4:Value):Below n w (set5 w' b x0 x1 x2 x3 x4):=
 ((((h.setCell (p:=⟨b,0,none⟩) hb _).setCell (p:=⟨b,1,none⟩) hb _).setCell (p:=⟨b,2,none⟩) hb _).setCell (p:=⟨b,3,none⟩) hb _).setCell (p:=⟨b,4,none⟩) hb _
theorem set5_size (w:World) (b:Nat) (x0 x1 x2 x3 x4:Value):(set5 w b x0 x1 x2 x3 x4).heap.size = w.heap.size:=by simp [set5,World.setCell]
theorem isTo_set5 {B:Nat} {w:World} {L:List (List UInt8)} {v:Value} (h:IsTo (New B w) w L v) {b:Nat} (hb:b < B) {B':Nat} (hB:B' ≤ B) (x0 x1 x2 x3 x4:Value):IsTo (New B' (set5 w b x0 x1 x2 x3 x4)) (set5 w b x0 x1 x2 x3 x4) L v:=
 h.imp (fun k hk=>⟨Nat.le_trans hB hk.1,by rw [set5_size];exact hk.2⟩) (fun k o hk=>set5_cell w b x0 x1 x2 x3 x4 o (by have:=hk.1;omega))
theorem isTo_go {B:Nat} {w w':World} {L:List (List UInt8)} {v:Value} (h:IsTo (New B w) w L v) (hb:Below w.heap.size w w') {B':Nat} (hB:B' ≤ B):IsTo (New B' w') w' L v:=
 h.imp (fun k hk=>⟨Nat.le_trans hB hk.1,Nat.lt_of_lt_of_le hk.2 hb.size⟩) (fun k o hk=>hb.cell (p:=⟨k,o,none⟩) hk.2)
def BoxC (w:World) (b:Nat) (x0 x1 x2 x3 x4:Value):Prop:=w.heap[b]? = some (.cells #[x0,x1,x2,x3,x4] 186 (0,0))
theorem BoxC.below {w w':World} {b n:Nat} {x0 x1 x2 x3 x4:Value} (h:BoxC w b x0 x1 x2 x3 x4) (hb:Below n w w') (hn:b < n):BoxC w' b x0 x1 x2 x3 x4:=(hb.block b hn).trans h
theorem BoxC.cells {w:World} {b:Nat} {x0 x1 x2 x3 x4:Value} (h:BoxC w b x0 x1 x2 x3 x4):w.cell? ⟨b,0,none⟩ = some x0 ∧ w.cell? ⟨b,1,none⟩ = some x1 ∧ w.cell? ⟨b,2,none⟩ = some x2 ∧ w.cell? ⟨b,3,none⟩ = some x3 ∧ w.cell? ⟨b,4,none⟩ = some x4:=by
 unfold BoxC at h
 simp [World.cell?,h]
theorem BoxC.frozen {w:World} {b:Nat} {x0 x1 x2 x3 x4:Value} (h:BoxC w b x0 x1 x2 x3 x4):w.frozen? ⟨b,0,none⟩ = false ∧ w.frozen? ⟨b,1,none⟩ = false ∧ w.frozen? ⟨b,2,none⟩ = false ∧ w.frozen? ⟨b,3,none⟩ = false ∧ w.frozen? ⟨b,4,none⟩ = false:=by
 unfold BoxC at h
 simp [World.frozen?,h]
theorem boxC_new (w:World) (x0 x1 x2 x3 x4:Value):BoxC (w.alloc (.cells #[x0,x1,x2,x3,x4] 186)) w.heap.size x0 x1 x2 x3 x4:=heap_alloc_new w _
theorem BoxC.store {w:World} {b:Nat} {x0 x1 x2 x3 x4:Value} (h:BoxC w b x0 x1 x2 x3 x4) (y0 y1 y2 y3 y4:Value):BoxC (set5 w b y0 y1 y2 y3 y4) b y0 y1 y2 y3 y4:=by
 unfold BoxC at h ⊢
 simp [set5,World.setCell,Array.getElem?_modify,h]
end Go.Proofs.YtlimajgmdhhggaaGreatDoor
namespace Go.Proofs.YtlimajgmdhhggaaGreatDoor
open Go.RowKit
set_option linter.unusedVariables false
set_option maxRecDepth 100000 in
set_option maxHeartbeats 4000000 in
theorem class_any (N S M Y:ByteArray) (st:Bool) (w:World) (hl:LaidF w) (hM:plainB M.data.toList = true) (hY:plainB Y.data.toList = true) :
  Calls Tryz.prog 192 #[.agg #[.string N,.string S,.bool st,.string M,.string Y]] w fun e w'=>∃ u1 u2,e = .returned (.agg #[.string N,.string S,.bool st,u1,u2]) ∧ IsTo (New w.heap.size w') w' (Lib.fields M.data.toList) u1 ∧ IsTo (New w.heap.size w') w' (Lib.fields Y.data.toList) u2 ∧ Below w.heap.size w w':=by
 obtain ⟨W2,hW2⟩:∃ W2,W2 = (w.alloc (.cells #[.string N,.string S,.bool st,.string M,.string Y] 226)).alloc (.cells #[.string ⟨#[]⟩,.string ⟨#[]⟩,.bool false,.slice none 0 0,.slice none 0 0] 186):=⟨_,rfl⟩
 have hB:Below w.heap.size w W2:=by rw [hW2];exact ((Below.refl _ _).alloc (Nat.le_refl _) _).alloc (by simp) _
 have hz:W2.heap.size = w.heap.size + 2:=by rw [hW2];simp
 have hLF:LaidF W2:=hl.below hB
 have a0:W2.cell? ⟨w.heap.size,0,none⟩ = some (.string N):=by rw [hW2];simp
 have a1:W2.cell? ⟨w.heap.size,1,none⟩ = some (.string S):=by rw [hW2];simp
 have a2:W2.cell? ⟨w.heap.size,2,none⟩ = some (.bool st):=by rw [hW2];simp
 have a3:W2.cell? ⟨w.heap.size,3,none⟩ = some (.string M):=by rw [hW2];simp
 have a4:W2.cell? ⟨w.heap.size,4,none⟩ = some (.string Y):=by rw [hW2];simp
 have hbx:BoxC W2 (w.heap.size + 1) (.string ⟨#[]⟩) (.string ⟨#[]⟩) (.bool false) (.slice none 0 0) (.slice none 0 0):=by
  have:=boxC_new (w.alloc (.cells #[.string N,.string S,.bool st,.string M,.string Y] 226)) (.string ⟨#[]⟩) (.string ⟨#[]⟩) (.bool false) (.slice none 0 0) (.slice none 0 0)
  rw [hW2];simpa using this
 have HLF:=Lib.hid (hLF.below (Below.refl _ _).drew)
 have HB:=Lib.hid hB
 have HBx:=Lib.hid hbx
 have HFM:=Lib.hid (fun (W:World) (h:LaidF W)=>fields_any M W h hM)
 have HFY:=Lib.hid (fun (W:World) (h:LaidF W)=>fields_any Y W h hY)
 have HW2:=Lib.hid hW2.symm
 clear hl hM hY hB hLF hW2 hbx
 go_enter Tryz.func192,Tryz.ntmps192
 go_upto_region 1 with (fail)
 rw [HW2.out]
 have hst:W2.cell? ⟨w.heap.size,0,none⟩ = some (.string N) ∧ W2.cell? ⟨w.heap.size,1,none⟩ = some (.string S) ∧ W2.cell? ⟨w.heap.size,2,none⟩ = some (.bool st) ∧ W2.cell? ⟨w.heap.size,3,none⟩ = some (.string M) ∧ W2.cell? ⟨w.heap.size,4,none⟩ = some (.string Y):=⟨a0,a1,a2,a3,a4⟩
 have HA:=Lib.hid hst
 have hst0:W2.drew.cell? ⟨w.heap.size,0,none⟩ = some (.string N) ∧ W2.drew.cell? ⟨w.heap.size,1,none⟩ = some (.string S) ∧ W2.drew.cell? ⟨w.heap.size,2,none⟩ = some (.bool st) ∧ W2.drew.cell? ⟨w.heap.size,3,none⟩ = some (.string M) ∧ W2.drew.cell? ⟨w.heap.size,4,none⟩ = some (.string Y):=hst
 clear hst
 clear a0 a1 a2 a3 a4
 go_region_held3 (fun w'=>w'.cell? ⟨w.heap.size,0,none⟩ = some (.string N) ∧ w'.cell? ⟨w.heap.size,1,none⟩ = some (.string S) ∧ w'.cell? ⟨w.heap.size,2,none⟩ = some (.bool st) ∧ w'.cell? ⟨w.heap.size,3,none⟩ = some (.string M) ∧ w'.cell? ⟨w.heap.size,4,none⟩ = some (.string Y))
  (first | (with_reducible exact hst0) | (with_reducible exact hst3) | (with_reducible exact hst4) | exact ⟨(set5_cell _ _ _ _ _ _ _ 0 (by omega)).trans hst4.1,(set5_cell _ _ _ _ _ _ _ 1 (by omega)).trans hst4.2.1,(set5_cell _ _ _ _ _ _ _ 2 (by omega)).trans hst4.2.2.1,(set5_cell _ _ _ _ _ _ _ 3 (by omega)).trans hst4.2.2.2.1,(set5_cell _ _ _ _ _ _ _ 4 (by omega)).trans hst4.2.2.2.2⟩)
  (first
   | (go_at_call 216;(with_reducible refine (HFM.out _ HLF.out).mono ?_);rintro e w3 ⟨v1,rfl,hv1,hb3⟩;(obtain ⟨xa,xn,xc,hx1⟩:=isTo_slice hv1);subst hx1;have hz3:w.heap.size + 2 ≤ w3.heap.size:=by { have:=hb3.size;simpa [hz] using this };have hst3:w3.cell? ⟨w.heap.size,0,none⟩ = some (.string N) ∧ w3.cell? ⟨w.heap.size,1,none⟩ = some (.string S) ∧ w3.cell? ⟨w.heap.size,2,none⟩ = some (.bool st) ∧ w3.cell? ⟨w.heap.size,3,none⟩ = some (.string M) ∧ w3.cell? ⟨w.heap.size,4,none⟩ = some (.string Y):=⟨(hb3.cell (p:=⟨w.heap.size,0,none⟩) (by simp;omega)).trans HA.out.1,(hb3.cell (p:=⟨w.heap.size,1,none⟩) (by simp;omega)).trans HA.out.2.1,(hb3.cell (p:=⟨w.heap.size,2,none⟩) (by simp;omega)).trans HA.out.2.2.1,(hb3.cell (p:=⟨w.heap.size,3,none⟩) (by simp;omega)).trans HA.out.2.2.2.1,(hb3.cell (p:=⟨w.heap.size,4,none⟩) (by simp;omega)).trans HA.out.2.2.2.2⟩;have HX3:=Lib.hid ((HBx.out.below (n:=W2.heap.size) (Below.refl _ _).drew (by omega)).below hb3 (by simp;omega));have HLF3:=Lib.hid (HLF.out.below hb3);have HB3:=Lib.hid ((HB.out.trans ((Below.refl W2.heap.size W2).drew.mono (by omega))).trans (hb3.mono (by simp;omega)));have HV1:=Lib.hid hv1;clear hv1 hb3)
   | (go_at_call 216;(with_reducible refine (HFY.out _ HLF3.out).mono ?_);rintro e w4 ⟨v2,rfl,hv2,hb4⟩;(obtain ⟨ya,yn,yc,hx2⟩:=isTo_slice hv2);subst hx2;have hz4:=hb4.size;have hst4:w4.cell? ⟨w.heap.size,0,none⟩ = some (.string N) ∧ w4.cell? ⟨w.heap.size,1,none⟩ = some (.string S) ∧ w4.cell? ⟨w.heap.size,2,none⟩ = some (.bool st) ∧ w4.cell? ⟨w.heap.size,3,none⟩ = some (.string M) ∧ w4.cell? ⟨w.heap.size,4,none⟩ = some (.string Y):=⟨(hb4.cell (p:=⟨w.heap.size,0,none⟩) (show w.heap.size < w3.heap.size by omega)).trans hst3.1,(hb4.cell (p:=⟨w.heap.size,1,none⟩) (show w.heap.size < w3.heap.size by omega)).trans hst3.2.1,(hb4.cell (p:=⟨w.heap.size,2,none⟩) (show w.heap.size < w3.heap.size by omega)).trans hst3.2.2.1,(hb4.cell (p:=⟨w.heap.size,3,none⟩) (show w.heap.size < w3.heap.size by omega)).trans hst3.2.2.2.1,(hb4.cell (p:=⟨w.heap.size,4,none⟩) (show w.heap.size < w3.heap.size by omega)).trans hst3.2.2.2.2⟩;have HX4:=Lib.hid (HX3.out.below hb4 (by omega));(obtain ⟨m0,m1,m2,m3,m4⟩:=HX4.out.cells);(obtain ⟨n0,n1,n2,n3,n4⟩:=HX4.out.frozen);have HB4:=Lib.hid (bthen HB3.out hb4);have HV1':=Lib.hid (isTo_go HV1.out hb4 (Nat.le_refl _));have HV2:=Lib.hid hv2;clear hv2 hb4))
 all_goals
  go_split_ands
  go_wp2
  refine bodyPost_ret (v:=.agg #[.string N,.string S,.bool st,.slice xa xn xc,.slice ya yn yc]) (by
   have hbx:=(HX4.out.store (.string N) (.string S) (.bool st) (.slice xa xn xc) (.slice ya yn yc)).cells
   obtain ⟨p0,p1,p2,p3,p4⟩:=hbx
   simp [results,Tryz.results192,go_sem,p0,p1,p2,p3,p4]) rfl ⟨.slice xa xn xc,.slice ya yn yc,rfl,?_,?_,?_⟩
  ·exact isTo_set5 HV1'.out (by simp;omega) (by simp;omega) _ _ _ _ _
  ·exact isTo_set5 HV2.out (by omega) (by omega) _ _ _ _ _
  ·exact set5_below HB4.out (by omega) _ _ _ _ _
end Go.Proofs.YtlimajgmdhhggaaGreatDoor
namespace Go.Proofs.YtlimajgmdhhggaaGreatDoor
open Go.RowKit
set_option linter.unusedVariables false
def FindW (w:World) (o:Option CT) (e:Ending) (w':World):Prop:=Below w.heap.size w w' ∧ match o with
 | none=>e = .returned (.tuple #[noC,.bool false])
 | some c=>∃ u1 u2,e = .returned (.tuple #[.agg #[strV c.name,strV c.sup,.bool c.st,u1,u2],.bool true]) ∧ IsTo (New w.heap.size w') w' c.mustL u1 ∧ IsTo (New w.heap.size w') w' c.mayL u2
set_option maxRecDepth 100000 in
set_option maxHeartbeats 4000000 in
theorem findC_any (n:ByteArray) (w:World) (hl:LaidF w):Calls Tryz.prog 169 #[.string n] w (FindW w (findC n.data.toList)):=by
 obtain ⟨R,hR⟩:∃ R,R = findC n.data.toList:=⟨_,rfl⟩
 rw [← hR]
 have HR:=Lib.hid hR
 obtain ⟨W0,hW0⟩:∃ W0,W0 = w.alloc (.cells #[.string ⟨#[]⟩,.string ⟨#[]⟩,.bool false,.slice none 0 0,.slice none 0 0] 186):=⟨_,rfl⟩
 have hB0:Below w.heap.size w W0:=by rw [hW0];exact (Below.refl _ _).alloc (Nat.le_refl _) _
 have hbx:BoxC W0 w.heap.size (.string ⟨#[]⟩) (.string ⟨#[]⟩) (.bool false) (.slice none 0 0) (.slice none 0 0):=by rw [hW0];exact boxC_new _ _ _ _ _ _
 have hz0:W0.heap.size = w.heap.size + 1:=by rw [hW0];simp
 have HB0:=Lib.hid hB0
 have HBx:=Lib.hid hbx
 have HLF:=Lib.hid (hl.below hB0)
 have HW0:=Lib.hid hW0.symm
 clear hR hW0 hB0 hbx hl
 go_enter Tryz.func169,Tryz.ntmps169
 go_upto_region 1 with (fail)
 rw [HW0.out]
 go_wp2_with (go_at_call 191;refine (rows_any _).mono ?_;rintro e w2 ⟨rfl,hb2⟩;have HB2:=Lib.hid hb2;clear hb2)
 go_loopw [7] (fun i wr=>∃ k:Nat,k ≤ 7 ∧ i = .int .i64 k ∧ Hid (∀ i,(h:i < classL.length) → i < k → classL[i].name ≠ n.data.toList) ∧ Below W0.heap.size W0 wr) (fun i _=>7 - (intOf i).toNat)
 case atStart=>exact ⟨0,by omega,rfl,Lib.hid (fun i _ h=>absurd h (by omega)),HB2.out⟩
 case round=>
  obtain ⟨k,hk,rfl,HN,hb⟩:=hrel
  have HB:=Lib.hid hb
  have hsz:=hb.size
  have HX:=Lib.hid (HBx.out.below hb (by omega))
  clear hb
  by_cases hlt:k < 7
  ·have t1:decide ((k:Int) < 7) = true:=by simp;omega
   have hkl:k < classL.length:=hlt
   have hix:=row_at k hkl
   obtain ⟨X,hX⟩:∃ X:ByteArray,X = ⟨classL[k].name.toArray⟩:=⟨_,rfl⟩
   obtain ⟨S,hS⟩:∃ X:ByteArray,X = ⟨classL[k].sup.toArray⟩:=⟨_,rfl⟩
   obtain ⟨M,hM⟩:∃ X:ByteArray,X = ⟨classL[k].must.toArray⟩:=⟨_,rfl⟩
   obtain ⟨Y,hY⟩:∃ X:ByteArray,X = ⟨classL[k].may.toArray⟩:=⟨_,rfl⟩
   obtain ⟨st,hst⟩:∃ b,b = classL[k].st:=⟨_,rfl⟩
   have hpl:=class_plain classL[k] (List.getElem_mem _)
   have hMl:M.data.toList = classL[k].must:=by rw [hM]
   have hYl:Y.data.toList = classL[k].may:=by rw [hY]
   simp only [rowV,strV,← hX,← hS,← hM,← hY,← hst] at hix
   have hcl:=fun W (h:LaidF W)=>class_any X S M Y st W h (by rw [hMl];exact hpl.1) (by rw [hYl];exact hpl.2)
   have HCl:=Lib.hid hcl
   by_cases he:X = n
   ·have hf:R = some classL[k]:=by rw [HR.out];exact findC_at hkl HN.out (by rw [← he,hX])
    subst he
    subst hf
    have HMl:=Lib.hid hMl
    have HYl:=Lib.hid hYl
    have HXX:=Lib.hid hX
    have HSS:=Lib.hid hS
    have HST:=Lib.hid hst
    clear hpl hMl hYl hcl HN hX hS hM hY hst HR
    have HA:=Lib.hid (HB.out.alloc hsz (.cells #[.string X,.string S,.bool st,.string M,.string Y] 226))
    go_wp2_with (go_at_call 192;refine (HCl.out _ (HLF.out.below HA.out)).mono ?_;rintro e w3 ⟨u1,u2,rfl,h1,h2,hb3⟩;(obtain ⟨xa,xn,xc,hx1⟩:=isTo_slice h1);subst hx1;(obtain ⟨ya,yn,yc,hx2⟩:=isTo_slice h2);subst hx2;have HX3:=Lib.hid (HX.out.below (((Below.refl wr.heap.size wr).alloc (Nat.le_refl _) (.cells #[.string X,.string S,.bool st,.string M,.string Y] 226)).trans (hb3.mono (by simp))) (by omega));(obtain ⟨m0,m1,m2,m3,m4⟩:=HX3.out.cells);(obtain ⟨n0,n1,n2,n3,n4⟩:=HX3.out.frozen);have hz3:=hb3.size;(simp only [World.size_alloc] at hz3);have HB3:=Lib.hid (HA.out.trans (hb3.mono (by simp;omega)));have H1:=Lib.hid h1;have H2:=Lib.hid h2;clear hb3 h1 h2)
    refine bodyPost_ret (v:=.tuple #[.agg #[.string X,.string S,.bool st,.slice xa xn xc,.slice ya yn yc],.bool true]) (by
     have hbx:=(HX3.out.store (.string X) (.string S) (.bool st) (.slice xa xn xc) (.slice ya yn yc)).cells
     obtain ⟨p0,p1,p2,p3,p4⟩:=hbx
     simp [results,Tryz.results169,go_sem,p0,p1,p2,p3,p4]) rfl ⟨?_,.slice xa xn xc,.slice ya yn yc,?_,?_,?_⟩
    ·exact set5_below (HB0.out.trans (HB3.out.mono HB0.out.size)) (Nat.le_refl _) _ _ _ _ _
    ·rw [HXX.out,HSS.out,HST.out];rfl
    ·have:=isTo_set5 (b:=w.heap.size) H1.out (by simp;omega) (B':=w.heap.size) (by simp;omega) (.string X) (.string S) (.bool st) (.slice xa xn xc) (.slice ya yn yc)
     rw [HMl.out] at this
     exact this
    ·have:=isTo_set5 (b:=w.heap.size) H2.out (by simp;omega) (B':=w.heap.size) (by simp;omega) (.string X) (.string S) (.bool st) (.slice xa xn xc) (.slice ya yn yc)
     rw [HYl.out] at this
     exact this
   ·have hne:classL[k].name ≠ n.data.toList:=fun e=>he (by rw [hX,e])
    have HN2:=Lib.hid (fun i (h:i < classL.length) (hi:i < k + 1)=>(show classL[i].name ≠ n.data.toList from if e:i = k then by subst e;exact hne else HN.out i h (by omega)))
    have t2:=str_ne he
    clear hne hX hS hM hY hst HN hpl hMl hYl hcl HR
    go_wp2
    exact ⟨⟨k + 1,by omega,by go_num,HN2,HB.out.alloc (by omega) _⟩,by simp [intOf];omega⟩
  ·obtain rfl:k = 7:=by omega
   have hf:R = none:=by rw [HR.out];exact findC_no (fun i h=>HN.out i h (by simpa [classL] using h))
   subst hf
   obtain ⟨m0,m1,m2,m3,m4⟩:=HX.out.cells
   obtain ⟨n0,n1,n2,n3,n4⟩:=HX.out.frozen
   clear HN HR
   go_wp2
   refine bodyPost_ret (v:=.tuple #[noC,.bool false]) (by
    have hbx:=(HX.out.store (.string ⟨#[]⟩) (.string ⟨#[]⟩) (.bool false) (.slice none 0 0) (.slice none 0 0)).cells
    obtain ⟨p0,p1,p2,p3,p4⟩:=hbx
    simp [results,Tryz.results169,go_sem,p0,p1,p2,p3,p4,noC]) rfl ⟨?_,rfl⟩
   exact set5_below (HB0.out.trans (HB.out.mono HB0.out.size)) (Nat.le_refl _) _ _ _ _ _
end Go.Proofs.YtlimajgmdhhggaaGreatDoor
namespace Go.Proofs.YtlimajgmdhhggaaGreatDoor
open Go.RowKit
set_option linter.unusedVariables false
def ClsW (w:World) (o:Option (List CT × Bool)) (e:Ending) (w':World):Prop:=Below w.heap.size w w' ∧ match o with
 | none=>e = .returned (.tuple #[.slice none 0 0,.bool false])
 | some p=>∃ g v,e = .returned (.tuple #[v,.bool p.2]) ∧ OwnK w.heap.size g w' v p.1
theorem chain_len (n:List UInt8):∀ k,(chainC k n).length ≤ k:=by
 intro k
 induction k generalizing n with
 | zero=>simp [chainC]
 | succ k ih=>
  simp only [chainC]
  cases findC n with
  | none=>simp
  | some c=>have:=ih c.sup;simp;omega
def AtC (B:Nat) (w:World) (l:Value) (g:Nat) (o:Option CT):Prop:=(g < w.heap.size ∧ some g ≠ l.ownBlock ∧ B ≤ g) ∧ ∃ x0 x1 x2 u1 u2,BoxC w g x0 x1 x2 u1 u2 ∧ match o with
 | none=>True
 | some c=>x0 = strV c.name ∧ x1 = strV c.sup ∧ x2 = .bool c.st ∧ IsTo (Apart B g w l) w c.mustL u1 ∧ IsTo (Apart B g w l) w c.mayL u2
def restC:Option CT → List CT
 | none=>[]
 | some c=>c :: chainC 3 c.sup
theorem rest_find (n:List UInt8):restC (findC n) = chainC 3 n:=by
 cases e:findC n with
 | none=>rw [chain_none e];rfl
 | some c=>rw [chain_step e];rfl
theorem block_ne (w:World) (a:Addr) (x:Value) {b:Nat} (h:b ≠ a.block):(w.setCell a x).heap[b]? = w.heap[b]?:=by
 unfold World.setCell
 simp [Array.getElem?_modify,Ne.symm h]
theorem set5_block (w:World) (g:Nat) (x0 x1 x2 x3 x4:Value) {b:Nat} (h:b ≠ g):(set5 w g x0 x1 x2 x3 x4).heap[b]? = w.heap[b]?:=by
 simp only [set5]
 rw [block_ne _ ⟨g,4,none⟩ _ h,block_ne _ ⟨g,3,none⟩ _ h,block_ne _ ⟨g,2,none⟩ _ h,block_ne _ ⟨g,1,none⟩ _ h,block_ne _ ⟨g,0,none⟩ _ h]
theorem grown_set5 (w:World) (g:Nat) (x0 x1 x2 x3 x4:Value):w.grownBy (set5 w g x0 x1 x2 x3 x4) (some g):=
 have hb:=set5_below (Below.refl 0 w) (Nat.zero_le g) x0 x1 x2 x3 x4
 ⟨hb.os,hb.tape,hb.output,hb.size,fun k hk hne=>set5_block w g x0 x1 x2 x3 x4 (fun e=>hne (by rw [e]))⟩
theorem OwnK.apart {B g0 g:Nat} {w:World} {v:Value} {L:List CT} (h:OwnK B g0 w v L) (hg:w.heap.size ≤ g):OwnK B g w v L:=by
 obtain ⟨P,h0,h1,h2⟩:=h
 exact ⟨P,h0,h1,fun j hj=>⟨(h2 j hj).1.imp (fun b hb=>⟨hb.1,hb.2.1,hb.2.2.1,by have:=hb.2.1;omega⟩) (fun _ _ _=>rfl),(h2 j hj).2.imp (fun b hb=>⟨hb.1,hb.2.1,hb.2.2.1,by have:=hb.2.1;omega⟩) (fun _ _ _=>rfl)⟩⟩
theorem OwnK.store {B g:Nat} {w:World} {v:Value} {L:List CT} (h:OwnK B g w v L) (hg:v.ownBlock ≠ some g) (x0 x1 x2 x3 x4:Value):OwnK B g (set5 w g x0 x1 x2 x3 x4) v L:=by
 obtain ⟨P,h0,h1,h2⟩:=h
 refine ⟨P,h0,World.ownsRow.kept h1 (grown_set5 w g x0 x1 x2 x3 x4) (.inr hg),fun j hj=>⟨(h2 j hj).1.imp (fun b hk=>⟨hk.1,by rw [set5_size];exact hk.2.1,hk.2.2⟩) (fun b o hk=>set5_cell w g x0 x1 x2 x3 x4 o hk.2.2.2),(h2 j hj).2.imp (fun b hk=>⟨hk.1,by rw [set5_size];exact hk.2.1,hk.2.2⟩) (fun b o hk=>set5_cell w g x0 x1 x2 x3 x4 o hk.2.2.2)⟩⟩
theorem apart_new {B g g0 n:Nat} {w w':World} {l:Value} {L:List CT} {v:Value} {A:List (List UInt8)} (hr:OwnK B g0 w l L) (hB:B ≤ n) (hn:w.heap.size ≤ n) (hg:g < n ∨ w'.heap.size ≤ g) (h:IsTo (New n w') w' A v):IsTo (Apart B g w' l) w' A v:=
 h.imp (fun b hb=>⟨Nat.le_trans hB hb.1,hb.2,fun e=>by have:=ownK_lt hr b e.symm;have:=hb.1;omega,by have:=hb.1;have:=hb.2;omega⟩) (fun _ _ _=>rfl)
theorem apart_go {B g:Nat} {w w':World} {l:Value} {v:Value} {A:List (List UInt8)} (h:IsTo (Apart B g w l) w A v) (hb:Below w.heap.size w w'):IsTo (Apart B g w' l) w' A v:=
 h.imp (fun b hk=>⟨hk.1,Nat.lt_of_lt_of_le hk.2.1 hb.size,hk.2.2⟩) (fun b o hk=>hb.cell (p:=⟨b,o,none⟩) hk.2.1)
theorem apart_set {B g:Nat} {w:World} {l:Value} {v:Value} {A:List (List UInt8)} (h:IsTo (Apart B g w l) w A v) (x0 x1 x2 x3 x4:Value):IsTo (Apart B g (set5 w g x0 x1 x2 x3 x4) l) (set5 w g x0 x1 x2 x3 x4) A v:=
 h.imp (fun b hk=>⟨hk.1,by rw [set5_size];exact hk.2.1,hk.2.2⟩) (fun b o hk=>set5_cell w g x0 x1 x2 x3 x4 o hk.2.2.2)
set_option maxRecDepth 100000 in
set_option maxHeartbeats 8000000 in
theorem classesOf_any (V:List (List UInt8)) (hs:smallT V) (v:Value) (w:World) (hl:LaidF w) (h:IsT w.heap.size w V v) :
  Calls Tryz.prog 141 #[v] w (ClsW w (allC V)):=by
 obtain ⟨a,c,rfl,hm,hcell⟩:=h
 unfold maxLen at hm
 obtain ⟨R,hR⟩:∃ R,R = allC V:=⟨_,rfl⟩
 rw [← hR]
 have hs1:=hs.1
 obtain ⟨n,hn⟩:∃ n,n = V.length:=⟨_,rfl⟩
 rw [← hn] at hm hs1 ⊢
 have HN:=Lib.hid hn
 have HC:=Lib.hid hcell
 have HL:=Lib.hid hl
 have HR:=Lib.hid hR
 have HS:=Lib.hid hs
 clear hcell hn hl hR hs
 go_enter Tryz.func141,Tryz.ntmps141
 go_wp2
 go_loopw [4,5,12] (fun l s i wr=>∃ (j g0:Nat) (A:List CT) (b:Bool),j ≤ n ∧ i = .int .i64 j ∧ s = .bool b ∧ A.length ≤ 3 * j ∧ allR A b (V.drop j) = R ∧ OwnK w.heap.size g0 wr l A ∧ Below w.heap.size w wr) (fun _ _ i wr=>n - (intOf i).toNat)
 case atStart=>exact ⟨0,0,[],false,by omega,rfl,rfl,Nat.zero_le _,by rw [List.drop_zero,allR_start];exact HR.out.symm,ownK_nil _ _ _,Below.refl _ _⟩
 case round=>
  obtain ⟨j,g0,A,b,hj,rfl,rfl,hAl,har,hown,hbel⟩:=hrel
  have HBel:=Lib.hid hbel
  have hbs:=hbel.size
  obtain ⟨sa,sc,hsv⟩:=ownK_slice hown
  obtain ⟨sn,hsn⟩:∃ k,k = A.length:=⟨_,rfl⟩
  rw [← hsn] at hsv hAl
  subst hsv
  have HSn:=Lib.hid hsn
  have HOwn:=Lib.hid hown
  by_cases hlt:j < n
  ·have t3:decide ((j:Int) < (n:Int)) = true:=by simp;omega
   have t3':decide (j < n) = true:=by simpa using hlt
   have hlV:j < V.length:=by rw [← HN.out];exact hlt
   obtain ⟨xb,off,rfl,hb0,c0⟩:=HC.out j hlV
   obtain ⟨X,hX⟩:∃ X:ByteArray,⟨V[j].toArray⟩ = X:=⟨_,rfl⟩
   have hXl:X.data.toList = V[j]:=by rw [← hX]
   have d0:(wr.cell? ⟨xb,off + j,none⟩) = some (.string X):=by
    rw [hbel.cell (p:=⟨xb,_,none⟩) hb0,c0,← hX];rfl
   have hXs:X.size ≤ 1000000:=by
    have:=HS.out.2 V[j] (List.getElem_mem _)
    rw [← bytes_len,hXl];omega
   rw [List.drop_eq_getElem_cons hlV] at har
   have hfo:=fun w=>fold_any trim_any X w (by omega)
   obtain ⟨F,hF⟩:∃ F,F = foldB X:=⟨_,rfl⟩
   have hFl:F.data.toList = fold V[j]:=by rw [hF,← hXl];simp [foldB]
   rw [← hF] at hfo
   have HFo:=Lib.hid hfo
   have hfi:=fun W h=>findC_any F W h
   rw [hFl] at hfi
   cases hq:findC (fold V[j]) with
   | none=>
    rw [hq] at hfi
    rw [allR_none hq] at har
    subst har
    have HFi:=Lib.hid hfi
    clear hfo hfi hX hXl c0 hown hbel hsn HR hF hFl hq
    go_wp2_with (first
     | (go_at_call 115;refine (HFo.out _).mono ?_;rintro e w2 ⟨rfl,hb2⟩;have HB2:=Lib.hid (bthen HBel.out hb2);clear hb2)
     | (go_at_call 169;refine (HFi.out _ (HL.out.below HB2.out)).mono ?_;rintro e w3 hfw;(simp only [FindW,noC] at hfw);(obtain ⟨hb3,rfl⟩:=hfw);have HB3:=Lib.hid (bthen HB2.out hb3);clear hb3))
    go_ret2
    exact ⟨HB3.out.alloc HB3.out.size _,rfl⟩
   | some k=>
    rw [hq] at hfi
    rw [allR_step hq] at har
    have HFi:=Lib.hid hfi
    obtain ⟨N,hN⟩:∃ X:ByteArray,X = ⟨k.name.toArray⟩:=⟨_,rfl⟩
    obtain ⟨S,hS⟩:∃ X:ByteArray,X = ⟨k.sup.toArray⟩:=⟨_,rfl⟩
    obtain ⟨T,hT⟩:∃ T,T = A ++ chainC 3 (fold V[j]):=⟨_,rfl⟩
    have hTl:T.length ≤ sn + 3:=by rw [hT,List.length_append,← hsn];have:=chain_len (fold V[j]) 3;omega
    have hT2:A ++ restC (some k) = T:=by rw [hT,← rest_find,hq]
    rw [← hT] at har
    have HAr:=Lib.hid har
    have HT2:=Lib.hid hT2
    clear hfo hfi hX hXl c0 hown hbel hsn HR hF hFl hq hT hT2 har
    have HNe:=Lib.hid hN
    have HSe:=Lib.hid hS
    have HNk:Hid (N.data.toList = k.name):=Lib.hid (by rw [hN])
    have HSk:Hid (S.data.toList = k.sup):=Lib.hid (by rw [hS])
    clear hN hS
    cases b with
    | true=>
     have HAr2:Hid (allR T true (V.drop (j + 1)) = R):=HAr
     go_wp2_with (first
      | (go_at_call 115;refine (HFo.out _).mono ?_;rintro e w2 ⟨rfl,hb2⟩;have HB2:=Lib.hid (bthen HBel.out hb2);have HO2:=Lib.hid (ownK_below HOwn.out hb2);clear hb2)
      | (go_at_call 169;refine (HFi.out _ (HL.out.below HB2.out)).mono ?_;rintro e w3 hfw;(simp only [FindW,strV,← HNe.out,← HSe.out] at hfw);(obtain ⟨hb3,u1,u2,rfl,h1,h2⟩:=hfw);(obtain ⟨xa,xn,xc,hx1⟩:=isTo_slice h1);subst hx1;(obtain ⟨ya,yn,yc,hx2⟩:=isTo_slice h2);subst hx2;have hz3:=hb3.size;have HB3:=Lib.hid (bthen HB2.out hb3);have HO3:=Lib.hid ((ownK_below HO2.out hb3).apart (Nat.le_refl _));have H1:=Lib.hid (apart_new (g:=w3.heap.size) HO2.out HB2.out.size (Nat.le_refl _) (.inr (Nat.le_refl _)) h1);have H2:=Lib.hid (apart_new (g:=w3.heap.size) HO2.out HB2.out.size (Nat.le_refl _) (.inr (Nat.le_refl _)) h2);clear hb3 h1 h2))
     have ha3:Below w3.heap.size w3 (w3.alloc (.cells #[.string N,.string S,.bool k.st,.slice xa xn xc,.slice ya yn yc] 186)):=(Below.refl _ _).alloc (Nat.le_refl _) _
     have hb4:=bthen HB3.out ha3
     have hat:AtC w.heap.size (w3.alloc (.cells #[.string N,.string S,.bool k.st,.slice xa xn xc,.slice ya yn yc] 186)) (.slice sa sn sc) w3.heap.size (some k):=
      ⟨⟨by simp,fun e=>by have:=ownK_lt HO3.out w3.heap.size e.symm;omega,HB3.out.size⟩,.string N,.string S,.bool k.st,.slice xa xn xc,.slice ya yn yc,boxC_new _ _ _ _ _ _,by rw [← HNk.out];exact (strV_whole N).symm,by rw [← HSk.out];exact (strV_whole S).symm,rfl,apart_go H1.out ha3,apart_go H2.out ha3⟩
     have HB4:=Lib.hid hb4
     have HAt:=Lib.hid hat
     have HO4:=Lib.hid (ownK_below HO3.out ha3)
     clear ha3 hb4 hat
     go_loopw [4,9] (fun l ok wq=>∃ (A':List CT) (o:Option CT),ok = .bool o.isSome ∧ A' ++ restC o = T ∧ OwnK w.heap.size w3.heap.size wq l A' ∧ Below w.heap.size w wq ∧ AtC w.heap.size wq l w3.heap.size o) (fun l _ wq=>T.length + 1 - lenOf l)
     case atStart=>exact ⟨A,some k,rfl,HT2.out,HO4.out,HB4.out,HAt.out⟩
     case round=>
      obtain ⟨A',o,rfl,hAT,hown',hbel',⟨hg1,hg2,hg3⟩,x0,x1,x2,u1,u2,hbox,hcls⟩:=hrel
      obtain ⟨la,lc,hlv⟩:=ownK_slice hown'
      obtain ⟨ln,hln⟩:∃ k,k = A'.length:=⟨_,rfl⟩
      rw [← hln] at hlv
      subst hlv
      have HO':=Lib.hid hown'
      have HB':=Lib.hid hbel'
      have HLn:=Lib.hid hln
      have HG2:=Lib.hid hg2
      cases o with
      | none=>
       have hA':A' = T:=by rw [← hAT];simp [restC]
       subst hA'
       simp only [Option.isSome_none]
       clear hAT hown' hbel' hln hbox hcls hg2
       go_wp2
       go_roundw
       case rel=>exact ⟨j + 1,_,A',true,by omega,by go_num,rfl,by omega,HAr2.out,HO'.out,HB'.out⟩
       case measure=>simp [intOf];omega
      | some d=>
       obtain ⟨rfl,rfl,rfl,hu1,hu2⟩:=hcls
       obtain ⟨pa,pn,pc,hx1⟩:=isTo_slice hu1
       subst hx1
       obtain ⟨qa,qn,qc,hx2⟩:=isTo_slice hu2
       subst hx2
       simp only [Option.isSome_some]
       obtain ⟨N2,hN2⟩:∃ X:ByteArray,X = ⟨d.name.toArray⟩:=⟨_,rfl⟩
       obtain ⟨S2,hS2⟩:∃ X:ByteArray,X = ⟨d.sup.toArray⟩:=⟨_,rfl⟩
       simp only [strV,← hN2,← hS2] at hbox
       have hN2l:N2.data.toList = d.name:=by rw [hN2]
       have hS2l:S2.data.toList = d.sup:=by rw [hS2]
       have hTl2:ln + 1 ≤ T.length:=by rw [← hAT,List.length_append,← hln];simp [restC]
       have hTn:A' ++ [d] ++ restC (findC d.sup) = T:=by rw [← hAT,rest_find];simp [restC]
       obtain ⟨p0,p1,p2,p3,p4⟩:=hbox.cells
       have HBx:=Lib.hid hbox
       have HU1:=Lib.hid hu1
       have HU2:=Lib.hid hu2
       have HN2:=Lib.hid hN2l
       have HS2:=Lib.hid hS2l
       have hfi2:=fun W h=>findC_any S2 W h
       rw [hS2l] at hfi2
       cases hq2:findC d.sup with
       | none=>
        rw [hq2] at hfi2 hTn
        have HTn:=Lib.hid hTn
        have HF2:=Lib.hid hfi2
        clear hfi2 hTn hq2 hN2 hS2 hN2l hS2l hbox hu1 hu2 hAT hown' hbel' hln hg2
        go_wp2_with (first
         | (at_builtin;refine wpList_append_class rfl (.tmp 30) (.tmp 32) rfl w.heap.size w3.heap.size (.slice la ln lc) A' rfl N2 S2 d (.slice pa pn pc) (.slice qa qn qc) HN2.out HS2.out HO'.out HU1.out HU2.out rfl (by have:=HLn.out;omega) HB'.out.size ?_;intro v5 w5 hown5 hb5 hk5 hv5 hz5;(obtain ⟨ra,rc,hrv⟩:=ownK_slice hown5);(rw [List.length_append,List.length_singleton,← HLn.out] at hrv);subst hrv;have HX5:=Lib.hid (show BoxC w5 w3.heap.size _ _ _ _ _ from (hk5 w3.heap.size hg1 HG2.out).trans HBx.out);(obtain ⟨r0,r1,r2,r3,r4⟩:=HX5.out.cells);have HO5:=Lib.hid hown5;have HB5:=Lib.hid (HB'.out.trans hb5);have HV5:=Lib.hid (fun e=>(hv5 w3.heap.size e).elim (fun q=>HG2.out q.symm) (fun q=>by omega));clear hown5 hb5 hk5 hv5)
         | (go_at_call 169;refine (HF2.out _ (HL.out.below HB5.out)).mono ?_;rintro e w6 hfw;(simp only [FindW,noC] at hfw);(obtain ⟨hb6,rfl⟩:=hfw);have HX6:=Lib.hid (HX5.out.below hb6 (by omega));(obtain ⟨m0,m1,m2,m3,m4⟩:=HX6.out.cells);(obtain ⟨n0,n1,n2,n3,n4⟩:=HX6.out.frozen);have HO6:=Lib.hid (ownK_below HO5.out hb6);have hz6:=hb6.size;have HB6:=Lib.hid (bthen HB5.out hb6);clear hb6))
        go_roundw
        case rel=>exact ⟨A' ++ [d],none,rfl,HTn.out,HO6.out.store HV5.out _ _ _ _ _,set5_below HB6.out (by omega) _ _ _ _ _,⟨by rw [set5_size];omega,fun e=>HV5.out e.symm,by omega⟩,_,_,_,_,_,HX6.out.store _ _ _ _ _,trivial⟩
        case measure=>simp [lenOf];omega
       | some d2=>
        rw [hq2] at hfi2 hTn
        have HTn:=Lib.hid hTn
        have HF2:=Lib.hid hfi2
        clear hfi2 hTn hq2 hN2 hS2 hN2l hS2l hbox hu1 hu2 hAT hown' hbel' hln hg2
        obtain ⟨N3,hN3⟩:∃ X:ByteArray,X = ⟨d2.name.toArray⟩:=⟨_,rfl⟩
        obtain ⟨S3,hS3⟩:∃ X:ByteArray,X = ⟨d2.sup.toArray⟩:=⟨_,rfl⟩
        have HN3:=Lib.hid hN3
        have HS3:=Lib.hid hS3
        clear hN3 hS3
        go_wp2_with (first
         | (at_builtin;refine wpList_append_class rfl (.tmp 30) (.tmp 32) rfl w.heap.size w3.heap.size (.slice la ln lc) A' rfl N2 S2 d (.slice pa pn pc) (.slice qa qn qc) HN2.out HS2.out HO'.out HU1.out HU2.out rfl (by have:=HLn.out;omega) HB'.out.size ?_;intro v5 w5 hown5 hb5 hk5 hv5 hz5;(obtain ⟨ra,rc,hrv⟩:=ownK_slice hown5);(rw [List.length_append,List.length_singleton,← HLn.out] at hrv);subst hrv;have HX5:=Lib.hid (show BoxC w5 w3.heap.size _ _ _ _ _ from (hk5 w3.heap.size hg1 HG2.out).trans HBx.out);(obtain ⟨r0,r1,r2,r3,r4⟩:=HX5.out.cells);have HO5:=Lib.hid hown5;have HB5:=Lib.hid (HB'.out.trans hb5);have HV5:=Lib.hid (fun e=>(hv5 w3.heap.size e).elim (fun q=>HG2.out q.symm) (fun q=>by omega));clear hown5 hb5 hk5 hv5)
         | (go_at_call 169;refine (HF2.out _ (HL.out.below HB5.out)).mono ?_;rintro e w6 hfw;(simp only [FindW,strV,← HN3.out,← HS3.out] at hfw);(obtain ⟨hb6,y1,y2,rfl,h1,h2⟩:=hfw);(obtain ⟨xa2,xn2,xc2,hx1⟩:=isTo_slice h1);subst hx1;(obtain ⟨ya2,yn2,yc2,hx2⟩:=isTo_slice h2);subst hx2;have HX6:=Lib.hid (HX5.out.below hb6 (by omega));(obtain ⟨m0,m1,m2,m3,m4⟩:=HX6.out.cells);(obtain ⟨n0,n1,n2,n3,n4⟩:=HX6.out.frozen);have HO6:=Lib.hid (ownK_below HO5.out hb6);have hz6:=hb6.size;have HB6:=Lib.hid (bthen HB5.out hb6);have HY1:=Lib.hid (apart_new (g:=w3.heap.size) HO5.out HB5.out.size (Nat.le_refl _) (.inl (by omega)) h1);have HY2:=Lib.hid (apart_new (g:=w3.heap.size) HO5.out HB5.out.size (Nat.le_refl _) (.inl (by omega)) h2);clear h1 h2;clear hb6))
        go_roundw
        case rel=>exact ⟨A' ++ [d],some d2,rfl,HTn.out,HO6.out.store HV5.out _ _ _ _ _,set5_below HB6.out (by omega) _ _ _ _ _,⟨by rw [set5_size];omega,fun e=>HV5.out e.symm,by omega⟩,_,_,_,_,_,HX6.out.store _ _ _ _ _,by rw [HN3.out];rfl,by rw [HS3.out];rfl,rfl,apart_set HY1.out _ _ _ _ _,apart_set HY2.out _ _ _ _ _⟩
        case measure=>simp [lenOf];omega
    | false=>
     have HAr2:Hid (allR T k.st (V.drop (j + 1)) = R):=HAr
     go_wp2_with (first
      | (go_at_call 115;refine (HFo.out _).mono ?_;rintro e w2 ⟨rfl,hb2⟩;have HB2:=Lib.hid (bthen HBel.out hb2);have HO2:=Lib.hid (ownK_below HOwn.out hb2);clear hb2)
      | (go_at_call 169;refine (HFi.out _ (HL.out.below HB2.out)).mono ?_;rintro e w3 hfw;(simp only [FindW,strV,← HNe.out,← HSe.out] at hfw);(obtain ⟨hb3,u1,u2,rfl,h1,h2⟩:=hfw);(obtain ⟨xa,xn,xc,hx1⟩:=isTo_slice h1);subst hx1;(obtain ⟨ya,yn,yc,hx2⟩:=isTo_slice h2);subst hx2;have hz3:=hb3.size;have HB3:=Lib.hid (bthen HB2.out hb3);have HO3:=Lib.hid ((ownK_below HO2.out hb3).apart (Nat.le_refl _));have H1:=Lib.hid (apart_new (g:=w3.heap.size) HO2.out HB2.out.size (Nat.le_refl _) (.inr (Nat.le_refl _)) h1);have H2:=Lib.hid (apart_new (g:=w3.heap.size) HO2.out HB2.out.size (Nat.le_refl _) (.inr (Nat.le_refl _)) h2);clear hb3 h1 h2))
     have ha3:Below w3.heap.size w3 (w3.alloc (.cells #[.string N,.string S,.bool k.st,.slice xa xn xc,.slice ya yn yc] 186)):=(Below.refl _ _).alloc (Nat.le_refl _) _
     have hb4:=bthen HB3.out ha3
     have hat:AtC w.heap.size (w3.alloc (.cells #[.string N,.string S,.bool k.st,.slice xa xn xc,.slice ya yn yc] 186)) (.slice sa sn sc) w3.heap.size (some k):=
      ⟨⟨by simp,fun e=>by have:=ownK_lt HO3.out w3.heap.size e.symm;omega,HB3.out.size⟩,.string N,.string S,.bool k.st,.slice xa xn xc,.slice ya yn yc,boxC_new _ _ _ _ _ _,by rw [← HNk.out];exact (strV_whole N).symm,by rw [← HSk.out];exact (strV_whole S).symm,rfl,apart_go H1.out ha3,apart_go H2.out ha3⟩
     have HB4:=Lib.hid hb4
     have HAt:=Lib.hid hat
     have HO4:=Lib.hid (ownK_below HO3.out ha3)
     clear ha3 hb4 hat
     go_loopw [4,9] (fun l ok wq=>∃ (A':List CT) (o:Option CT),ok = .bool o.isSome ∧ A' ++ restC o = T ∧ OwnK w.heap.size w3.heap.size wq l A' ∧ Below w.heap.size w wq ∧ AtC w.heap.size wq l w3.heap.size o) (fun l _ wq=>T.length + 1 - lenOf l)
     case atStart=>exact ⟨A,some k,rfl,HT2.out,HO4.out,HB4.out,HAt.out⟩
     case round=>
      obtain ⟨A',o,rfl,hAT,hown',hbel',⟨hg1,hg2,hg3⟩,x0,x1,x2,u1,u2,hbox,hcls⟩:=hrel
      obtain ⟨la,lc,hlv⟩:=ownK_slice hown'
      obtain ⟨ln,hln⟩:∃ k,k = A'.length:=⟨_,rfl⟩
      rw [← hln] at hlv
      subst hlv
      have HO':=Lib.hid hown'
      have HB':=Lib.hid hbel'
      have HLn:=Lib.hid hln
      have HG2:=Lib.hid hg2
      cases o with
      | none=>
       have hA':A' = T:=by rw [← hAT];simp [restC]
       subst hA'
       simp only [Option.isSome_none]
       clear hAT hown' hbel' hln hbox hcls hg2
       go_wp2
       go_roundw
       case rel=>exact ⟨j + 1,_,A',k.st,by omega,by go_num,rfl,by omega,HAr2.out,HO'.out,HB'.out⟩
       case measure=>simp [intOf];omega
      | some d=>
       obtain ⟨rfl,rfl,rfl,hu1,hu2⟩:=hcls
       obtain ⟨pa,pn,pc,hx1⟩:=isTo_slice hu1
       subst hx1
       obtain ⟨qa,qn,qc,hx2⟩:=isTo_slice hu2
       subst hx2
       simp only [Option.isSome_some]
       obtain ⟨N2,hN2⟩:∃ X:ByteArray,X = ⟨d.name.toArray⟩:=⟨_,rfl⟩
       obtain ⟨S2,hS2⟩:∃ X:ByteArray,X = ⟨d.sup.toArray⟩:=⟨_,rfl⟩
       simp only [strV,← hN2,← hS2] at hbox
       have hN2l:N2.data.toList = d.name:=by rw [hN2]
       have hS2l:S2.data.toList = d.sup:=by rw [hS2]
       have hTl2:ln + 1 ≤ T.length:=by rw [← hAT,List.length_append,← hln];simp [restC]
       have hTn:A' ++ [d] ++ restC (findC d.sup) = T:=by rw [← hAT,rest_find];simp [restC]
       obtain ⟨p0,p1,p2,p3,p4⟩:=hbox.cells
       have HBx:=Lib.hid hbox
       have HU1:=Lib.hid hu1
       have HU2:=Lib.hid hu2
       have HN2:=Lib.hid hN2l
       have HS2:=Lib.hid hS2l
       have hfi2:=fun W h=>findC_any S2 W h
       rw [hS2l] at hfi2
       cases hq2:findC d.sup with
       | none=>
        rw [hq2] at hfi2 hTn
        have HTn:=Lib.hid hTn
        have HF2:=Lib.hid hfi2
        clear hfi2 hTn hq2 hN2 hS2 hN2l hS2l hbox hu1 hu2 hAT hown' hbel' hln hg2
        go_wp2_with (first
         | (at_builtin;refine wpList_append_class rfl (.tmp 30) (.tmp 32) rfl w.heap.size w3.heap.size (.slice la ln lc) A' rfl N2 S2 d (.slice pa pn pc) (.slice qa qn qc) HN2.out HS2.out HO'.out HU1.out HU2.out rfl (by have:=HLn.out;omega) HB'.out.size ?_;intro v5 w5 hown5 hb5 hk5 hv5 hz5;(obtain ⟨ra,rc,hrv⟩:=ownK_slice hown5);(rw [List.length_append,List.length_singleton,← HLn.out] at hrv);subst hrv;have HX5:=Lib.hid (show BoxC w5 w3.heap.size _ _ _ _ _ from (hk5 w3.heap.size hg1 HG2.out).trans HBx.out);(obtain ⟨r0,r1,r2,r3,r4⟩:=HX5.out.cells);have HO5:=Lib.hid hown5;have HB5:=Lib.hid (HB'.out.trans hb5);have HV5:=Lib.hid (fun e=>(hv5 w3.heap.size e).elim (fun q=>HG2.out q.symm) (fun q=>by omega));clear hown5 hb5 hk5 hv5)
         | (go_at_call 169;refine (HF2.out _ (HL.out.below HB5.out)).mono ?_;rintro e w6 hfw;(simp only [FindW,noC] at hfw);(obtain ⟨hb6,rfl⟩:=hfw);have HX6:=Lib.hid (HX5.out.below hb6 (by omega));(obtain ⟨m0,m1,m2,m3,m4⟩:=HX6.out.cells);(obtain ⟨n0,n1,n2,n3,n4⟩:=HX6.out.frozen);have HO6:=Lib.hid (ownK_below HO5.out hb6);have hz6:=hb6.size;have HB6:=Lib.hid (bthen HB5.out hb6);clear hb6))
        go_roundw
        case rel=>exact ⟨A' ++ [d],none,rfl,HTn.out,HO6.out.store HV5.out _ _ _ _ _,set5_below HB6.out (by omega) _ _ _ _ _,⟨by rw [set5_size];omega,fun e=>HV5.out e.symm,by omega⟩,_,_,_,_,_,HX6.out.store _ _ _ _ _,trivial⟩
        case measure=>simp [lenOf];omega
       | some d2=>
        rw [hq2] at hfi2 hTn
        have HTn:=Lib.hid hTn
        have HF2:=Lib.hid hfi2
        clear hfi2 hTn hq2 hN2 hS2 hN2l hS2l hbox hu1 hu2 hAT hown' hbel' hln hg2
        obtain ⟨N3,hN3⟩:∃ X:ByteArray,X = ⟨d2.name.toArray⟩:=⟨_,rfl⟩
        obtain ⟨S3,hS3⟩:∃ X:ByteArray,X = ⟨d2.sup.toArray⟩:=⟨_,rfl⟩
        have HN3:=Lib.hid hN3
        have HS3:=Lib.hid hS3
        clear hN3 hS3
        go_wp2_with (first
         | (at_builtin;refine wpList_append_class rfl (.tmp 30) (.tmp 32) rfl w.heap.size w3.heap.size (.slice la ln lc) A' rfl N2 S2 d (.slice pa pn pc) (.slice qa qn qc) HN2.out HS2.out HO'.out HU1.out HU2.out rfl (by have:=HLn.out;omega) HB'.out.size ?_;intro v5 w5 hown5 hb5 hk5 hv5 hz5;(obtain ⟨ra,rc,hrv⟩:=ownK_slice hown5);(rw [List.length_append,List.length_singleton,← HLn.out] at hrv);subst hrv;have HX5:=Lib.hid (show BoxC w5 w3.heap.size _ _ _ _ _ from (hk5 w3.heap.size hg1 HG2.out).trans HBx.out);(obtain ⟨r0,r1,r2,r3,r4⟩:=HX5.out.cells);have HO5:=Lib.hid hown5;have HB5:=Lib.hid (HB'.out.trans hb5);have HV5:=Lib.hid (fun e=>(hv5 w3.heap.size e).elim (fun q=>HG2.out q.symm) (fun q=>by omega));clear hown5 hb5 hk5 hv5)
         | (go_at_call 169;refine (HF2.out _ (HL.out.below HB5.out)).mono ?_;rintro e w6 hfw;(simp only [FindW,strV,← HN3.out,← HS3.out] at hfw);(obtain ⟨hb6,y1,y2,rfl,h1,h2⟩:=hfw);(obtain ⟨xa2,xn2,xc2,hx1⟩:=isTo_slice h1);subst hx1;(obtain ⟨ya2,yn2,yc2,hx2⟩:=isTo_slice h2);subst hx2;have HX6:=Lib.hid (HX5.out.below hb6 (by omega));(obtain ⟨m0,m1,m2,m3,m4⟩:=HX6.out.cells);(obtain ⟨n0,n1,n2,n3,n4⟩:=HX6.out.frozen);have HO6:=Lib.hid (ownK_below HO5.out hb6);have hz6:=hb6.size;have HB6:=Lib.hid (bthen HB5.out hb6);have HY1:=Lib.hid (apart_new (g:=w3.heap.size) HO5.out HB5.out.size (Nat.le_refl _) (.inl (by omega)) h1);have HY2:=Lib.hid (apart_new (g:=w3.heap.size) HO5.out HB5.out.size (Nat.le_refl _) (.inl (by omega)) h2);clear h1 h2;clear hb6))
        go_roundw
        case rel=>exact ⟨A' ++ [d],some d2,rfl,HTn.out,HO6.out.store HV5.out _ _ _ _ _,set5_below HB6.out (by omega) _ _ _ _ _,⟨by rw [set5_size];omega,fun e=>HV5.out e.symm,by omega⟩,_,_,_,_,_,HX6.out.store _ _ _ _ _,by rw [HN3.out];rfl,by rw [HS3.out];rfl,rfl,apart_set HY1.out _ _ _ _ _,apart_set HY2.out _ _ _ _ _⟩
        case measure=>simp [lenOf];omega
  ·obtain rfl:j = n:=by omega
   have t3:decide ((j:Int) < (j:Int)) = false:=by simp
   have t3':decide (j < j) = false:=by simp
   have hA:R = some (A,b):=by
    rw [← har,List.drop_of_length_le (by rw [← HN.out];exact Nat.le_refl _),allR_end]
   subst hA
   clear har hown hbel hsn HR
   go_wp2
   go_ret2
   exact ⟨HBel.out,_,_,rfl,HOwn.out⟩
end Go.Proofs.YtlimajgmdhhggaaGreatDoor
