/- Several texts in one file: RefKeyW, MaRefM, MaRefL, ScVals, ScPure, ScOwn, ScRow, ScClass, ScFind, ScCls, ScCat, ScIdx, ScVal, ScSound, ScClassed, ScCheck, ScDocA, ScDocH, EvRPu, EvRL1, EvRL2, EvRL3, EvRL4. -/
import Derived.Test.YtdgnefcpeocbjaaGreatDoorEvcP2
import Derived.Test.YtdgnefcpeocbjaaGreatDoorEvcP1
import Derived.Deep.RegionLaw
import Derived.RegionTactic
import Derived.BigRegion
import Derived.Deep.RegionHeld3
import Derived.Test.YtdgnefcpeocbjaaGreatDoorEnFind
import Derived.Lib.Fields
import Derived.Lib.SlicesCompact
import Derived.Sort.KeysCollected
import Derived.Test.YtdgnefcpeocbjaaGreatDoorEnOwn
import Derived.Sort.OwnSorted
import Derived.BigQuiet
import Derived.Test.YtdgnefcpeocbjaaGreatDoorDnParse
import Derived.Lib.AppendZerosOnto
import Derived.Deep.Upon
import Derived.Deep.Cut
namespace Go.Proofs.YtdgnefcpeocbjaaGreatDoor
open Go.RowKit
set_option linter.unusedVariables false



def BoxK (w : World) (b : Nat) (x : ByteArray) (ok : Bool) : Prop := w.heap[b]? = some (.cells #[.string x, .bool ok] 62 (0, 0))
theorem BoxK.below {w w' : World} {b n : Nat} {x : ByteArray} {ok : Bool} (h : BoxK w b x ok) (hb : Below n w w') (hn : b < n) : BoxK w' b x ok := (hb.block b hn).trans h
theorem BoxK.cells {w : World} {b : Nat} {x : ByteArray} {ok : Bool} (h : BoxK w b x ok) : w.cell? ⟨b, 0, none⟩ = some (.string x) ∧ w.cell? ⟨b, 1, none⟩ = some (.bool ok) ∧ w.frozen? ⟨b, 0, none⟩ = false ∧ w.frozen? ⟨b, 1, none⟩ = false := by
  unfold BoxK at h
  simp [World.cell?, World.frozen?, h]
theorem boxK_new (w : World) (x : ByteArray) (ok : Bool) : BoxK (w.alloc (.cells #[.string x, .bool ok] 62)) w.heap.size x ok := heap_alloc_new w _
theorem BoxK.store {w : World} {b : Nat} {x : ByteArray} {ok : Bool} (h : BoxK w b x ok) (x' : ByteArray) (ok' : Bool) : BoxK ((w.setCell ⟨b, 0, none⟩ (.string x')).setCell ⟨b, 1, none⟩ (.bool ok')) b x' ok' := by
  unfold BoxK at h ⊢
  simp [World.setCell, Array.getElem?_modify, h]

def saidV (o : Option (List UInt8)) : Value := match o with
  | some k => .agg #[.string ⟨k.toArray⟩, .bool true]
  | none => .agg #[.string ⟨#[]⟩, .bool false]

set_option maxRecDepth 100000 in
set_option maxHeartbeats 8000000 in
theorem keyRef_any (s : ByteArray) (hs : s.size ≤ 100000) (w : World) : Calls Tryz.prog 52 #[.string s] w fun e w' => e = .returned (saidV (keyD s.data.toList)) ∧ Below w.heap.size w w' := by
  have HBox := Lib.hid (boxK_new w ⟨#[]⟩ false)
  have hbb : Below w.heap.size w (w.alloc (.cells #[.string ⟨#[]⟩, .bool false] 62)) := (Below.refl _ _).alloc (Nat.le_refl _) _
  have HBB := Lib.hid hbb
  clear hbb
  have hp := fun w => parseRef_any s hs w
  rw [keyD_eq]
  cases hpd : parseD s.data.toList with
  | none =>
    rw [hpd] at hp
    have HP := Lib.hid hp
    clear hp hpd
    go_enter Tryz.func52, Tryz.ntmps52
    go_wp2_with (go_at_call 70; refine (HP.out _).mono ?_; rintro e w2 ⟨hb2, rfl⟩; have HB2 := Lib.hid hb2; have HX2 := Lib.hid ((HBox.out.below hb2 (by simp)).below ((Below.refl _ _).alloc (Nat.le_refl _) (.cells #[.slice none 0 0, .bool false] 98)) (by have := hb2.size; simp at this; omega)); obtain ⟨c0, c1, f0, f1⟩ := HX2.out.cells; clear hb2)
    obtain ⟨q0, q1, _, _⟩ := (HX2.out.store ⟨#[]⟩ false).cells
    refine bodyPost_ret (v := .agg #[.string ⟨#[]⟩, .bool false]) (by simp [results, Tryz.results52, go_sem, q0, q1]) rfl ⟨rfl, ?_⟩
    exact boxR_stored ((HBB.out.trans (HB2.out.mono (by simp))).alloc (by have := HB2.out.size; simp at this; omega) _) (Nat.le_refl _) _ _
  | some L =>
    rw [hpd] at hp
    have hok := parse_ok hpd
    have HOk := Lib.hid hok
    have hsm := okL_small hok
    have HSm := Lib.hid hsm
    have hL8 : L.length ≤ 8 := by
      unfold okL at hok
      simp only [Bool.and_eq_true, decide_eq_true_eq] at hok
      exact hok.1
    have HP := Lib.hid hp
    show Calls Tryz.prog 52 #[.string s] w fun e w' => e = .returned (saidV (keyL L)) ∧ Below w.heap.size w w'
    clear hp hpd hok hsm
    go_enter Tryz.func52, Tryz.ntmps52
    go_wp2_with (go_at_call 70; refine (HP.out _).mono ?_; rintro e w2 ⟨hb2, v, rfl, hil2⟩; have HIL2 := Lib.hid hil2; (obtain ⟨a, c, rfl, _, _⟩ := hil2); have HB2 := Lib.hid hb2; have HX2 := Lib.hid (HBox.out.below hb2 (by simp)); obtain ⟨k0, k1, _, _⟩ := (boxD_new w2 (.slice a L.length c) true).cells; clear hb2)
    have hbw2 : w.heap.size < w2.heap.size := by have := HB2.out.size; simp at this; omega
    have hw2 : Below w.heap.size w w2 := HBB.out.trans (HB2.out.mono (by simp))
    obtain ⟨W, hW⟩ : ∃ W, W = w2.alloc (.cells #[.slice a L.length c, .bool true] 98) := ⟨_, rfl⟩
    obtain ⟨bd, hbd⟩ : ∃ bd, bd = w2.heap.size := ⟨_, rfl⟩
    have hbW : Below w2.heap.size w2 W := by rw [hW]; exact (Below.refl _ _).alloc (Nat.le_refl _) _
    have hdW : bd < W.heap.size := by rw [hW, hbd]; simp
    have hsW : w2.heap.size ≤ W.heap.size := hbW.size
    have HILW := Lib.hid (HIL2.out.below hbW hsW)
    have HXW := Lib.hid (HX2.out.below hbW hbw2)
    have HwW := Lib.hid (hw2.trans (hbW.mono (Nat.le_of_lt hbw2)))
    have hkd : W.cell? ⟨bd, 0, none⟩ = some (.slice a L.length c) := by rw [hW, hbd]; exact k0
    have HKd := Lib.hid hkd
    rw [← hW, ← hbd]
    have hwW : w.heap.size < W.heap.size := Nat.lt_of_lt_of_le hbw2 hsW
    clear hW hbd hbW hw2 k0 k1 hkd HIL2 HX2 hsW
    go_loopw [4, 5] (fun x i wr => ∃ j : Nat, j ≤ L.length ∧ i = .int .i64 j ∧ OwnR W.heap.size wr x ((L.take j).map normR) ∧ (L.take j).all okF = true ∧ Below W.heap.size W wr) (fun _ i _ => L.length - (intOf i).toNat)
    case atStart => exact ⟨0, by omega, rfl, ownR_nil _ _, by simp, Below.refl _ _⟩
    case round =>
      obtain ⟨j, hj, rfl, hown, hall, hbel⟩ := hrel
      obtain ⟨ax, cx, rfl⟩ := ownR_slice hown
      have hlen : ((L.take j).map normR).length ≤ 8 := by simp; omega
      have hjl : ((L.take j).map normR).length = j := by simp; omega
      rw [hjl] at hown ⊢
      clear hjl
      have HBel := Lib.hid hbel
      have hbs := hbel.size
      have HOwn := Lib.hid hown
      have HX := Lib.hid (HXW.out.below hbel hwW)
      have kd : wr.cell? ⟨bd, 0, none⟩ = some (.slice a L.length c) := by rw [hbel.cell (p := ⟨bd, _, none⟩) hdW]; exact HKd.out
      have hdr : bd < wr.heap.size := Nat.lt_of_lt_of_le hdW hbs
      by_cases hlt : j < L.length
      · have t1 : decide ((j : Int) < (L.length : Int)) = true := by simp; omega
        have t1' : decide (j < L.length) = true := by simpa using hlt
        obtain ⟨a', c', hv, _, hcell⟩ := HILW.out
        simp only [Value.slice.injEq, true_and] at hv
        obtain ⟨rfl, rfl⟩ := hv
        obtain ⟨g, off, rfl, hgW, c0, c1⟩ := hcell j hlt
        obtain ⟨X, hX⟩ : ∃ X : ByteArray, X = ⟨L[j].1.toArray⟩ := ⟨_, rfl⟩
        obtain ⟨Y, hY⟩ : ∃ Y : ByteArray, Y = ⟨L[j].2.toArray⟩ := ⟨_, rfl⟩
        have hXl : X.data.toList = L[j].1 := by rw [hX]
        have hYl : Y.data.toList = L[j].2 := by rw [hY]
        have hXs : X.size ≤ 1000 := by rw [← bytes_len, hXl]; exact (HSm.out.2 _ (List.getElem_mem hlt)).1
        have hYs : Y.size ≤ 1000 := by rw [← bytes_len, hYl]; exact (HSm.out.2 _ (List.getElem_mem hlt)).2
        have d0 : wr.cell? ⟨g, off + j * 2, none⟩ = some (.string X) := by rw [hbel.cell (p := ⟨g, _, none⟩) hgW, c0, hX]; rfl
        have d1 : wr.cell? ⟨g, off + j * 2 + 1, none⟩ = some (.string Y) := by rw [hbel.cell (p := ⟨g, _, none⟩) hgW, c1, hY]; rfl
        have hgr : g < wr.heap.size := Nat.lt_of_lt_of_le hgW hbs
        have hfo := fun w => foldRef_any Y w (by omega)
        have hlo := fun w => lowerRef_any X w (by omega)
        obtain ⟨F, hF⟩ : ∃ F, F = foldB Y := ⟨_, rfl⟩
        obtain ⟨Z, hZ⟩ : ∃ Z, Z = lowB X := ⟨_, rfl⟩
        have hFl : F.data.toList = fold L[j].2 := by rw [hF, ← hYl]; rfl
        have hZl : Z.data.toList = low L[j].1 := by rw [hZ, ← hXl]; rfl
        simp only [← hF] at hfo
        simp only [← hZ] at hlo
        have HFo := Lib.hid hfo
        have HLo := Lib.hid hlo
        have q1 : (j : Int) < (L.length : Int) := by omega
        have q2 : (0 : Int) ≤ (j : Int) := by omega
        have HFl := Lib.hid hFl
        have HZl := Lib.hid hZl
        have HAll := Lib.hid hall
        clear hX hXl hY hYl c0 c1 hF hZ hFl hZl hcell hown hbel hfo hlo hall
        go_wp2
        go_region_law (first
          | (go_simp; go_at_call 30; refine (HLo.out _).mono ?_; rintro e w5 ⟨rfl, hb5⟩; have hx5 : Below wr.heap.size wr w5 := (by first | exact ((Below.refl wr.heap.size wr).drew).trans hb5 | exact (((Below.refl wr.heap.size wr).drew).alloc (Nat.le_refl _) _).trans (hb5.mono (by simp))); have x0 := (hx5.cell (p := ⟨bd, 0, none⟩) hdr).trans kd; have x1 := (hx5.cell (p := ⟨g, _, none⟩) hgr).trans d1; have x2 := hx5.size; have x3 : g < w5.heap.size := Nat.lt_of_lt_of_le hgr x2; have x4 : bd < w5.heap.size := Nat.lt_of_lt_of_le hdr x2; (first | (have hy5 : BoxR w5 wr.heap.size ⟨#[]⟩ ⟨#[]⟩ := (hb5.block wr.heap.size (by simp)).trans (by first | exact heap_alloc_new wr _ | exact heap_alloc_new wr.drew _); obtain ⟨y0, y1, yf0, yf1⟩ := hy5.cells; have HY5 := Lib.hid hy5; clear hy5) | skip))
          | (go_simp; go_at_call 20; refine (HFo.out _).mono ?_; rintro e w6 ⟨rfl, hb6⟩; have hx6 : Below wr.heap.size wr w6 := (by first | exact hx5.trans (hb6.mono hx5.size) | exact (hx5.alloc hx5.size _).trans (hb6.mono (by simp; omega))); (first | (have hy6 := (boxR_new _ ⟨#[]⟩ ⟨#[]⟩).below hb6 (by simp); obtain ⟨z0, z1, zf0, zf1⟩ := hy6.cells; have HY6 := Lib.hid hy6; clear hy6) | (have hy6 := HY5.out.below hb6 (by have := hb5.size; simp at this; omega); obtain ⟨z0, z1, zf0, zf1⟩ := hy6.cells; have HY6 := Lib.hid hy6; clear hy6) | skip)))
        all_goals (
          first
            | (obtain ⟨W8, hW8⟩ : ∃ W8, W8 = w6.alloc (.cells #[.string Z, .string F] 101) := ⟨_, rfl⟩
               have hbx : BoxR (w6.alloc (.cells #[.string Z, .string F] 101)) w6.heap.size Z F := boxR_new w6 Z F
               have hb8 : Below wr.heap.size wr (w6.alloc (.cells #[.string Z, .string F] 101)) := hx6.alloc hx6.size _
               rw [← hW8] at hbx hb8 ⊢)
            | (obtain ⟨W8, hW8⟩ : ∃ W8, W8 = (w6.setCell ⟨w5.heap.size, 0, none⟩ (.string Z)).setCell ⟨w5.heap.size, 1, none⟩ (.string F) := ⟨_, rfl⟩
               have hbx : BoxR ((w6.setCell ⟨w5.heap.size, 0, none⟩ (.string Z)).setCell ⟨w5.heap.size, 1, none⟩ (.string F)) w5.heap.size Z F := HY6.out.store Z F
               have hb8 : Below wr.heap.size wr ((w6.setCell ⟨w5.heap.size, 0, none⟩ (.string Z)).setCell ⟨w5.heap.size, 1, none⟩ (.string F)) := boxR_stored hx6 hx5.size _ _
               rw [← hW8] at hbx hb8 ⊢)
            | (obtain ⟨W8, hW8⟩ : ∃ W8, W8 = (w6.setCell ⟨wr.heap.size, 0, none⟩ (.string Z)).setCell ⟨wr.heap.size, 1, none⟩ (.string F) := ⟨_, rfl⟩
               have hbx : BoxR ((w6.setCell ⟨wr.heap.size, 0, none⟩ (.string Z)).setCell ⟨wr.heap.size, 1, none⟩ (.string F)) wr.heap.size Z F := HY6.out.store Z F
               have hb8 : Below wr.heap.size wr ((w6.setCell ⟨wr.heap.size, 0, none⟩ (.string Z)).setCell ⟨wr.heap.size, 1, none⟩ (.string F)) := boxR_stored hx6 (Nat.le_refl _) _ _
               rw [← hW8] at hbx hb8 ⊢)
          obtain ⟨r0, r1, rf0, rf1⟩ := hbx.cells
          have HB8 := Lib.hid hb8
          clear hbx hb8 hW8
          have hokf : okF L[j] = !F.data.toList.isEmpty := by unfold okF; rw [HFl.out]
          by_cases hFe : F.data.toList = []
          · obtain ⟨e1, e2⟩ := bytes_nil hFe
            have hno : keyL L = none := by
              unfold keyL
              rw [if_neg]
              intro hh
              have := List.all_eq_true.1 hh _ (List.getElem_mem hlt)
              rw [hokf, hFe] at this
              simp at this
            have HNo := Lib.hid hno
            obtain ⟨c0, c1, f0, f1⟩ := (HX.out.below HB8.out (Nat.lt_of_lt_of_le hwW hbs)).cells
            clear hokf hFe hno
            go_wp2
            obtain ⟨q0, q1, _, _⟩ := ((HX.out.below HB8.out (Nat.lt_of_lt_of_le hwW hbs)).store ⟨#[]⟩ false).cells
            refine bodyPost_ret (v := .agg #[.string ⟨#[]⟩, .bool false]) (by simp [results, Tryz.results52, go_sem, q0, q1]) rfl ?_
            rw [HNo.out]
            exact ⟨rfl, boxR_stored (HwW.out.trans ((HBel.out.trans (HB8.out.mono hbs)).mono (Nat.le_of_lt hwW))) (Nat.le_refl _) _ _⟩
          · obtain ⟨e1, e2⟩ := bytes_some hFe
            have hyes : (L.take (j + 1)).all okF = true := by
              rw [List.take_succ_eq_append_getElem hlt, List.all_append, HAll.out]
              simp only [List.all_cons, List.all_nil, Bool.and_true, Bool.true_and]
              rw [hokf]
              cases h : F.data.toList with
              | nil => exact absurd h hFe
              | cons x r => rfl
            have HYes := Lib.hid hyes
            have HO8 := Lib.hid (ownR_below HOwn.out HB8.out)
            clear hokf hFe hyes
            go_wp2_with (at_builtin; refine wpList_append_rdn rfl (.tmp 39) (.tmp 41) rfl W.heap.size (.slice ax j cx) ((L.take j).map normR) rfl Z F HO8.out rfl (by omega) (Nat.le_trans hbs HB8.out.size) ?_; intro v9 w9 hown9 hb9; have HO9 := Lib.hid hown9; have HB9 := Lib.hid hb9; clear hown9 hb9)
            go_roundw
            case rel =>
              have hnx : (L.take j).map normR ++ [(Z.data.toList, F.data.toList)] = (L.take (j + 1)).map normR := by rw [List.take_succ_eq_append_getElem hlt, List.map_append, HZl.out, HFl.out]; rfl
              exact ⟨j + 1, by omega, by go_num, hnx ▸ HO9.out, HYes.out, (HBel.out.trans (HB8.out.mono hbs)).trans HB9.out⟩
            case measure => simp [intOf]; omega)
      · obtain rfl : j = L.length := by omega
        have t1 : decide ((L.length : Int) < (L.length : Int)) = false := by simp
        have t1' : decide (L.length < L.length) = false := by simp
        rw [List.take_length] at hown hall
        have hsm2 := okL_small (okL_norm HOk.out hall)
        have hil := ownR_isL hown (by have := hsm2.1; unfold maxLen; omega)
        obtain ⟨T, hT⟩ : ∃ T : ByteArray, T = ⟨(textD (L.map normR)).toArray⟩ := ⟨_, rfl⟩
        have htx : Calls Tryz.prog 71 #[.slice ax L.length cx] wr fun e w' => e = .returned (.string T) ∧ Below wr.heap.size wr w' := by rw [hT]; exact textRef_any (L.map normR) hsm2 _ wr hil
        have hyes : saidV (keyL L) = .agg #[.string T, .bool true] := by unfold keyL; rw [if_pos hall, hT]; rfl
        have HYes := Lib.hid hyes
        have HTx := Lib.hid htx
        clear hown HOwn hall hsm2 hil htx hyes hbel hT
        go_wp2_with (go_at_call 71; refine (HTx.out).mono ?_; rintro e w5 ⟨rfl, hb5⟩; have HB5 := Lib.hid hb5; have HX5 := Lib.hid (HX.out.below hb5 (Nat.lt_of_lt_of_le hwW hbs)); obtain ⟨c0, c1, f0, f1⟩ := HX5.out.cells; clear hb5)
        obtain ⟨q0, q1, _, _⟩ := (HX5.out.store T true).cells
        refine bodyPost_ret (v := .agg #[.string T, .bool true]) (by simp [results, Tryz.results52, go_sem, q0, q1]) rfl ?_
        rw [HYes.out]
        exact ⟨rfl, boxR_stored (HwW.out.trans ((HBel.out.trans (HB5.out.mono hbs)).mono (Nat.le_of_lt hwW))) (Nat.le_refl _) _ _⟩
end Go.Proofs.YtdgnefcpeocbjaaGreatDoor


namespace Go.Proofs.YtdgnefcpeocbjaaGreatDoor
open Go.RowKit
set_option linter.unusedVariables false

theorem field_num0 (w : World) (v : Int) (b : Bool) : (Instr.field 81 (.agg #[.int .i64 v, .bool b]) 0).run Tryz.prog w = .ok (.int .i64 v) w := by kernel_rfl
theorem field_num1 (w : World) (v : Int) (b : Bool) : (Instr.field 81 (.agg #[.int .i64 v, .bool b]) 1).run Tryz.prog w = .ok (.bool b) w := by kernel_rfl
theorem field_said1 (w : World) (s : ByteArray) (b : Bool) : (Instr.field 62 (.agg #[.string s, .bool b]) 1).run Tryz.prog w = .ok (.bool b) w := by kernel_rfl
def sB (o : Option (List UInt8)) : ByteArray := match o with
  | some x => ⟨x.toArray⟩
  | none => ⟨#[]⟩
theorem saidR_eq (o : Option (List UInt8)) : saidR o = .agg #[.string (sB o), .bool o.isSome] := by cases o <;> rfl
set_option maxRecDepth 100000 in
set_option maxHeartbeats 8000000 in
theorem normRef_any (t s : ByteArray) (ht : t.size ≤ 281474976710656) (w : World) :
    Calls Tryz.prog 39 #[.string t, .string s] w fun e w' => e = .returned (saidR (normD (ruleD t.data.toList) s.data.toList)) ∧ Below w.heap.size w w' := by
  have hr := fun w => ruleRef_any t ht w
  generalize ruleD t.data.toList = r at hr ⊢
  have HR := Lib.hid hr
  clear hr
  have HBox := Lib.hid (boxS_new w ⟨#[]⟩ false)
  obtain ⟨q0, q1, _, _⟩ := (HBox.out.store ⟨#[]⟩ false).cells
  by_cases h0 : s.data.toList = []
  · obtain ⟨e1, e2⟩ := bytes_nil h0
    have HV := Lib.hid (show normD r s.data.toList = none by unfold normD; rw [if_pos (.inl h0)])
    clear h0
    go_enter Tryz.func39, Tryz.ntmps39
    go_wp2
    refine bodyPost_ret (v := .agg #[.string ⟨#[]⟩, .bool false]) (by simp [results, Tryz.results39, go_sem]) rfl ⟨by rw [HV.out]; rfl, ?_⟩
    first | exact (Below.refl _ _).alloc (Nat.le_refl _) _ | exact (((Below.refl _ _).alloc (Nat.le_refl _) _).setCell (Nat.le_refl _) _).setCell (Nat.le_refl _) _
  obtain ⟨e1, e2⟩ := bytes_some h0
  by_cases h100 : 100 < s.size
  · have t1 : decide ((100 : Int) < (s.size : Int)) = true := by simp; omega
    have HV := Lib.hid (show normD r s.data.toList = none by unfold normD; rw [if_pos (.inr (by rw [bytes_len]; exact h100))])
    clear h0
    go_enter Tryz.func39, Tryz.ntmps39
    go_wp2
    refine bodyPost_ret (v := .agg #[.string ⟨#[]⟩, .bool false]) (by simp [results, Tryz.results39, go_sem]) rfl ⟨by rw [HV.out]; rfl, ?_⟩
    first | exact (Below.refl _ _).alloc (Nat.le_refl _) _ | exact (((Below.refl _ _).alloc (Nat.le_refl _) _).setCell (Nat.le_refl _) _).setCell (Nat.le_refl _) _
  have t1 : decide ((100 : Int) < (s.size : Int)) = false := by simp; omega
  have hd : normD r s.data.toList = if r = 1 then (if fold s.data.toList = [] then none else some (fold s.data.toList)) else if r = 2 then (if (numD s.data.toList).isSome then some s.data.toList else none)
      else if r = 3 then (match keyD s.data.toList with | some k => if k = [] then none else some k | none => none) else if r = 4 then some s.data.toList else none := by
    unfold normD; rw [if_neg (by rw [bytes_len]; rintro (h | h); exact h0 h; exact h100 h)]; rfl
  have HD := Lib.hid hd
  clear hd h0 q0 q1
  by_cases h1 : r = 1
  · subst h1
    have hf := fun w => foldRef_any s w (by omega)
    obtain ⟨F, hF⟩ : ∃ F : ByteArray, F = foldB s := ⟨_, rfl⟩
    have hFl : fold s.data.toList = F.data.toList := by rw [hF]; simp [foldB]
    rw [← hF] at hf
    have HF := Lib.hid hf
    have hD : normD 1 s.data.toList = (if fold s.data.toList = [] then none else some (fold s.data.toList)) := HD.out.trans (if_pos rfl)
    rw [hFl] at hD
    clear hf hF hFl HD
    by_cases hne : F.data.toList = []
    · obtain ⟨n1, n2⟩ := bytes_nil hne
      rw [if_pos hne] at hD
      have hFe : F = ⟨#[]⟩ := bytes_ext hne
      have HD := Lib.hid hD
      have HFe := Lib.hid hFe
      clear hD hFe hne
      go_enter Tryz.func39, Tryz.ntmps39
      go_wp2_with (first | (go_at_call 38; refine (HR.out _).mono ?_; rintro e w1 ⟨rfl, hb1⟩; have HB := Lib.hid (((Below.refl _ _).alloc (Nat.le_refl _) _).trans (hb1.mono (by simp))); have HX := Lib.hid (HBox.out.below hb1 (by simp)); have hz1 : w.heap.size < w1.heap.size := (by have := hb1.size; simp at this; omega); obtain ⟨k0, k1, l0, l1⟩ := HX.out.cells; clear hb1) | (go_at_call 20; refine (HF.out _).mono ?_; rintro e w2 ⟨rfl, hb2⟩; have HB := Lib.hid (bthen HB.out hb2); have HX := Lib.hid (HX.out.below hb2 hz1); obtain ⟨k0, k1, l0, l1⟩ := HX.out.cells; have hz2 : w.heap.size < w2.heap.size := (by have := hb2.size; omega); clear hb2))
      obtain ⟨q0, q1, _, _⟩ := (HX.out.store F false).cells
      refine bodyPost_ret (v := .agg #[.string F, .bool false]) (by simp [results, Tryz.results39, go_sem, q0, q1]) rfl ⟨by rw [HD.out, HFe.out]; rfl, ?_⟩
      exact (HB.out.setCell (Nat.le_refl _) _).setCell (Nat.le_refl _) _
    · obtain ⟨n1, n2⟩ := bytes_some hne
      rw [if_neg hne] at hD
      have HD := Lib.hid hD
      clear hD hne
      go_enter Tryz.func39, Tryz.ntmps39
      go_wp2_with (first | (go_at_call 38; refine (HR.out _).mono ?_; rintro e w1 ⟨rfl, hb1⟩; have HB := Lib.hid (((Below.refl _ _).alloc (Nat.le_refl _) _).trans (hb1.mono (by simp))); have HX := Lib.hid (HBox.out.below hb1 (by simp)); have hz1 : w.heap.size < w1.heap.size := (by have := hb1.size; simp at this; omega); obtain ⟨k0, k1, l0, l1⟩ := HX.out.cells; clear hb1) | (go_at_call 20; refine (HF.out _).mono ?_; rintro e w2 ⟨rfl, hb2⟩; have HB := Lib.hid (bthen HB.out hb2); have HX := Lib.hid (HX.out.below hb2 hz1); obtain ⟨k0, k1, l0, l1⟩ := HX.out.cells; have hz2 : w.heap.size < w2.heap.size := (by have := hb2.size; omega); clear hb2))
      obtain ⟨q0, q1, _, _⟩ := (HX.out.store F true).cells
      refine bodyPost_ret (v := .agg #[.string F, .bool true]) (by simp [results, Tryz.results39, go_sem, q0, q1]) rfl ⟨by rw [HD.out]; simp [saidR], ?_⟩
      exact (HB.out.setCell (Nat.le_refl _) _).setCell (Nat.le_refl _) _
  have u1 : ((r : Int) == 1) = false := by simp; omega
  by_cases h2 : r = 2
  · subst h2
    have hn := fun w => numberRef_any s (by omega) w
    have hD : normD 2 s.data.toList = (if (numD s.data.toList).isSome = true then some s.data.toList else none) := (HD.out.trans (if_neg (by decide))).trans (if_pos rfl)
    clear u1 h1 HD
    have hfl := field_num1
    cases hnum : numD s.data.toList with
    | none =>
      rw [hnum] at hD hn
      simp only [numR] at hn
      have HF := Lib.hid hn
      have HD := Lib.hid hD
      clear hD hnum hn
      go_enter Tryz.func39, Tryz.ntmps39
      go_wp2_with (first | (go_at_call 38; refine (HR.out _).mono ?_; rintro e w1 ⟨rfl, hb1⟩; have HB := Lib.hid (((Below.refl _ _).alloc (Nat.le_refl _) _).trans (hb1.mono (by simp))); have HX := Lib.hid (HBox.out.below hb1 (by simp)); have hz1 : w.heap.size < w1.heap.size := (by have := hb1.size; simp at this; omega); obtain ⟨k0, k1, l0, l1⟩ := HX.out.cells; clear hb1) | (go_at_call 51; refine (HF.out _).mono ?_; rintro e w2 ⟨rfl, hb2⟩; have HB := Lib.hid (bthen HB.out hb2); have HX := Lib.hid (HX.out.below hb2 hz1); obtain ⟨k0, k1, l0, l1⟩ := HX.out.cells; have hz2 : w.heap.size < w2.heap.size := (by have := hb2.size; omega); clear hb2))
      obtain ⟨q0, q1, _, _⟩ := (HX.out.store ⟨#[]⟩ false).cells
      refine bodyPost_ret (v := .agg #[.string ⟨#[]⟩, .bool false]) (by simp [results, Tryz.results39, go_sem, q0, q1]) rfl ⟨by rw [HD.out]; rfl, ?_⟩
      exact (HB.out.setCell (Nat.le_refl _) _).setCell (Nat.le_refl _) _
    | some v =>
      rw [hnum] at hD hn
      simp only [numR] at hn
      have HF := Lib.hid hn
      have HD := Lib.hid hD
      clear hD hnum hn
      go_enter Tryz.func39, Tryz.ntmps39
      go_wp2_with (first | (go_at_call 38; refine (HR.out _).mono ?_; rintro e w1 ⟨rfl, hb1⟩; have HB := Lib.hid (((Below.refl _ _).alloc (Nat.le_refl _) _).trans (hb1.mono (by simp))); have HX := Lib.hid (HBox.out.below hb1 (by simp)); have hz1 : w.heap.size < w1.heap.size := (by have := hb1.size; simp at this; omega); obtain ⟨k0, k1, l0, l1⟩ := HX.out.cells; clear hb1) | (go_at_call 51; refine (HF.out _).mono ?_; rintro e w2 ⟨rfl, hb2⟩; have HB := Lib.hid (bthen HB.out hb2); have HX := Lib.hid (HX.out.below hb2 hz1); obtain ⟨k0, k1, l0, l1⟩ := HX.out.cells; have hz2 : w.heap.size < w2.heap.size := (by have := hb2.size; omega); clear hb2))
      obtain ⟨q0, q1, _, _⟩ := (HX.out.store s true).cells
      refine bodyPost_ret (v := .agg #[.string s, .bool true]) (by simp [results, Tryz.results39, go_sem, q0, q1]) rfl ⟨by rw [HD.out]; simp [saidR], ?_⟩
      exact (HB.out.setCell (Nat.le_refl _) _).setCell (Nat.le_refl _) _
  have u2 : ((r : Int) == 2) = false := by simp; omega
  by_cases h3 : r = 3
  · subst h3
    have hk := fun w => keyRef_any s (by omega) w
    have hD : normD 3 s.data.toList = (match keyD s.data.toList with | some k => if k = [] then none else some k | none => none) := ((HD.out.trans (if_neg (by decide))).trans (if_neg (by decide))).trans (if_pos rfl)
    clear u1 u2 h1 h2 HD
    cases hkey : keyD s.data.toList with
    | none =>
      rw [hkey] at hD hk
      simp only [saidV] at hk
      have HF := Lib.hid hk
      have HD := Lib.hid hD
      clear hD hkey hk
      go_enter Tryz.func39, Tryz.ntmps39
      go_wp2_with (first | (go_at_call 38; refine (HR.out _).mono ?_; rintro e w1 ⟨rfl, hb1⟩; have HB := Lib.hid (((Below.refl _ _).alloc (Nat.le_refl _) _).trans (hb1.mono (by simp))); have HX := Lib.hid (HBox.out.below hb1 (by simp)); have hz1 : w.heap.size < w1.heap.size := (by have := hb1.size; simp at this; omega); obtain ⟨k0, k1, l0, l1⟩ := HX.out.cells; clear hb1) | (go_at_call 52; refine (HF.out _).mono ?_; rintro e w2 ⟨rfl, hb2⟩; have HB := Lib.hid (bthen HB.out hb2); have HX := Lib.hid (HX.out.below hb2 hz1); obtain ⟨k0, k1, l0, l1⟩ := HX.out.cells; have hz2 : w.heap.size < w2.heap.size := (by have := hb2.size; omega); clear hb2))
      obtain ⟨q0, q1, _, _⟩ := (HX.out.store ⟨#[]⟩ false).cells
      refine bodyPost_ret (v := .agg #[.string ⟨#[]⟩, .bool false]) (by simp [results, Tryz.results39, go_sem, q0, q1, hz2]) rfl ⟨by rw [HD.out]; rfl, ?_⟩
      exact ((HB.out.setCell (Nat.le_refl _) _).setCell (Nat.le_refl _) _).alloc (by have := HB.out.size; simp; omega) _
    | some k =>
      rw [hkey] at hD hk
      obtain ⟨K, hKB⟩ : ∃ K : ByteArray, K = ⟨k.toArray⟩ := ⟨_, rfl⟩
      have hKl : k = K.data.toList := by rw [hKB]
      simp only [saidV, ← hKB] at hk
      have HF := Lib.hid hk
      clear hk hkey hKB
      simp only at hD
      subst hKl
      by_cases hne : K.data.toList = []
      · obtain ⟨n1, n2⟩ := bytes_nil hne
        rw [if_pos hne] at hD
        have HD := Lib.hid hD
        clear hD hne
        go_enter Tryz.func39, Tryz.ntmps39
        go_wp2_with (first | (go_at_call 38; refine (HR.out _).mono ?_; rintro e w1 ⟨rfl, hb1⟩; have HB := Lib.hid (((Below.refl _ _).alloc (Nat.le_refl _) _).trans (hb1.mono (by simp))); have HX := Lib.hid (HBox.out.below hb1 (by simp)); have hz1 : w.heap.size < w1.heap.size := (by have := hb1.size; simp at this; omega); obtain ⟨k0, k1, l0, l1⟩ := HX.out.cells; clear hb1) | (go_at_call 52; refine (HF.out _).mono ?_; rintro e w2 ⟨rfl, hb2⟩; have HB := Lib.hid (bthen HB.out hb2); have HX := Lib.hid (HX.out.below hb2 hz1); obtain ⟨k0, k1, l0, l1⟩ := HX.out.cells; have hz2 : w.heap.size < w2.heap.size := (by have := hb2.size; omega); clear hb2))
        obtain ⟨q0, q1, _, _⟩ := (HX.out.store ⟨#[]⟩ false).cells
        refine bodyPost_ret (v := .agg #[.string ⟨#[]⟩, .bool false]) (by simp [results, Tryz.results39, go_sem, q0, q1, hz2]) rfl ⟨by rw [HD.out]; rfl, ?_⟩
        exact ((HB.out.setCell (Nat.le_refl _) _).setCell (Nat.le_refl _) _).alloc (by have := HB.out.size; simp; omega) _
      · obtain ⟨n1, n2⟩ := bytes_some hne
        rw [if_neg hne] at hD
        have HD := Lib.hid hD
        clear hD hne
        go_enter Tryz.func39, Tryz.ntmps39
        go_wp2_with (first | (go_at_call 38; refine (HR.out _).mono ?_; rintro e w1 ⟨rfl, hb1⟩; have HB := Lib.hid (((Below.refl _ _).alloc (Nat.le_refl _) _).trans (hb1.mono (by simp))); have HX := Lib.hid (HBox.out.below hb1 (by simp)); have hz1 : w.heap.size < w1.heap.size := (by have := hb1.size; simp at this; omega); obtain ⟨k0, k1, l0, l1⟩ := HX.out.cells; clear hb1) | (go_at_call 52; refine (HF.out _).mono ?_; rintro e w2 ⟨rfl, hb2⟩; have HB := Lib.hid (bthen HB.out hb2); have HX := Lib.hid (HX.out.below hb2 hz1); obtain ⟨k0, k1, l0, l1⟩ := HX.out.cells; have hz2 : w.heap.size < w2.heap.size := (by have := hb2.size; omega); clear hb2))
        obtain ⟨q0, q1, _, _⟩ := (HX.out.store K true).cells
        refine bodyPost_ret (v := .agg #[.string K, .bool true]) (by simp [results, Tryz.results39, go_sem, q0, q1, hz2]) rfl ⟨by rw [HD.out]; simp [saidR], ?_⟩
        exact ((HB.out.setCell (Nat.le_refl _) _).setCell (Nat.le_refl _) _).alloc (by have := HB.out.size; simp; omega) _
  have u3 : ((r : Int) == 3) = false := by simp; omega
  have hD := HD.out
  rw [if_neg h1, if_neg h2, if_neg h3] at hD
  by_cases h4 : r = 4
  · subst h4
    rw [if_pos rfl] at hD
    have HD := Lib.hid hD
    clear hD u1 u2 u3 h1 h2 h3
    go_enter Tryz.func39, Tryz.ntmps39
    go_wp2_with (go_at_call 38; refine (HR.out _).mono ?_; rintro e w1 ⟨rfl, hb1⟩; have HB := Lib.hid (((Below.refl _ _).alloc (Nat.le_refl _) _).trans (hb1.mono (by simp))); have HX := Lib.hid (HBox.out.below hb1 (by simp)); have hz1 : w.heap.size < w1.heap.size := (by have := hb1.size; simp at this; omega); obtain ⟨k0, k1, l0, l1⟩ := HX.out.cells; clear hb1)
    obtain ⟨q0, q1, _, _⟩ := (HX.out.store s true).cells
    refine bodyPost_ret (v := .agg #[.string s, .bool true]) (by simp [results, Tryz.results39, go_sem, q0, q1]) rfl ⟨by rw [HD.out]; simp [saidR], ?_⟩
    exact (HB.out.setCell (Nat.le_refl _) _).setCell (Nat.le_refl _) _
  · rw [if_neg h4] at hD
    have u4 : ((r : Int) == 4) = false := by simp; omega
    have HD := Lib.hid hD
    clear hD h1 h2 h3 h4
    go_enter Tryz.func39, Tryz.ntmps39
    go_wp2_with (go_at_call 38; refine (HR.out _).mono ?_; rintro e w1 ⟨rfl, hb1⟩; have HB := Lib.hid (((Below.refl _ _).alloc (Nat.le_refl _) _).trans (hb1.mono (by simp))); have HX := Lib.hid (HBox.out.below hb1 (by simp)); have hz1 : w.heap.size < w1.heap.size := (by have := hb1.size; simp at this; omega); obtain ⟨k0, k1, l0, l1⟩ := HX.out.cells; clear hb1)
    obtain ⟨q0, q1, _, _⟩ := (HX.out.store ⟨#[]⟩ false).cells
    refine bodyPost_ret (v := .agg #[.string ⟨#[]⟩, .bool false]) (by simp [results, Tryz.results39, go_sem, q0, q1]) rfl ⟨by rw [HD.out]; rfl, ?_⟩
    exact (HB.out.setCell (Nat.le_refl _) _).setCell (Nat.le_refl _) _
end Go.Proofs.YtdgnefcpeocbjaaGreatDoor


namespace Go.Proofs.YtdgnefcpeocbjaaGreatDoor
open Go.RowKit
set_option linter.unusedVariables false

theorem normR_at (T s : ByteArray) (hT : T.size ≤ 281474976710656) (r : Nat) (hr : ruleD T.data.toList = r) (o : Option (List UInt8)) (h : normD r s.data.toList = o) (w : World) :
    Calls Tryz.prog 39 #[.string T, .string s] w fun e w' => e = .returned (.agg #[.string (sB o), .bool o.isSome]) ∧ Below w.heap.size w w' := by
  have := normRef_any T s hT w
  rw [hr, h, saidR_eq] at this
  exact this

set_option maxRecDepth 100000 in
set_option maxHeartbeats 8000000 in
theorem sameVal_any (t a b : ByteArray) (ht : t.size ≤ 281474976710656) (w : World) :
    Calls Tryz.prog 53 #[.string t, .string a, .string b] w fun e w' => e = .returned (.bool (sameO (normD (ruleD t.data.toList) a.data.toList) (normD (ruleD t.data.toList) b.data.toList))) ∧ Below w.heap.size w w' := by
  obtain ⟨r, hr⟩ : ∃ r, ruleD t.data.toList = r := ⟨_, rfl⟩
  obtain ⟨p, hp⟩ : ∃ p, normD r a.data.toList = p := ⟨_, rfl⟩
  obtain ⟨q, hq⟩ : ∃ q, normD r b.data.toList = q := ⟨_, rfl⟩
  have ha := fun w => normR_at t a ht r hr p hp w
  have hb := fun w => normR_at t b ht r hr q hq w
  rw [hr, hp, hq]
  have hs : sameO p q = ((p.isSome && q.isSome) && ((sB p).toList == (sB q).toList)) := by
    cases p <;> cases q <;> simp [sameO, sB, ByteArray.toList_eq]
  rw [hs]
  clear hs hr hp hq
  generalize sB p = X at ha ⊢
  generalize sB q = Y at hb ⊢
  generalize p.isSome = u at ha ⊢
  generalize q.isSome = v at hb ⊢
  have HA := Lib.hid ha
  have HQ := Lib.hid hb
  have tok : True := trivial
  clear ha hb
  go_enter Tryz.func53, Tryz.ntmps53
  go_wp2_with (go_at_call 39; first | (have _t := tok; (with_reducible refine (HA.out _).mono ?_); rintro e w1 ⟨rfl, hb1⟩; have HB := Lib.hid hb1; clear hb1 tok) | ((with_reducible refine (HQ.out _).mono ?_); rintro e w2 ⟨rfl, hb2⟩; have HB := Lib.hid (bthen HB.out hb2); clear hb2))
  all_goals
    go_ret
    exact ⟨by simp_all, (HB.out.alloc HB.out.size _).alloc (by have := HB.out.size; simp; omega) _⟩

set_option maxRecDepth 100000 in
set_option maxHeartbeats 8000000 in
theorem lessRef_no (t a b : ByteArray) (ht : t.size ≤ 281474976710656) (w : World) (h : normD (ruleD t.data.toList) a.data.toList = none ∨ normD (ruleD t.data.toList) b.data.toList = none ∨ (ruleD t.data.toList ≠ 1 ∧ ruleD t.data.toList ≠ 2)) :
    Calls Tryz.prog 41 #[.string t, .string a, .string b] w fun e w' => e = .returned (.tuple #[.bool false, .bool false]) ∧ Below w.heap.size w w' := by
  obtain ⟨r, hr⟩ : ∃ r, ruleD t.data.toList = r := ⟨_, rfl⟩
  obtain ⟨p, hp⟩ : ∃ p, normD r a.data.toList = p := ⟨_, rfl⟩
  obtain ⟨q, hq⟩ : ∃ q, normD r b.data.toList = q := ⟨_, rfl⟩
  have ha := fun w => normR_at t a ht r hr p hp w
  have hb := fun w => normR_at t b ht r hr q hq w
  have hru := fun w => ruleRef_any t ht w
  rw [hr] at hru h
  rw [hp, hq] at h
  have h' : (p.isSome && q.isSome) = false ∨ (((r : Int) != 1) = true ∧ ((r : Int) != 2) = true) := by
    rcases h with h | h | h
    · left; rw [h]; rfl
    · left; rw [h]; simp
    · right; constructor <;> (rw [bne_iff_ne]; omega)
  clear hr hp hq h
  generalize sB p = X at ha
  generalize sB q = Y at hb
  generalize p.isSome = u at ha h'
  generalize q.isSome = v at hb h'
  have HA := Lib.hid ha
  have HQ := Lib.hid hb
  have HR := Lib.hid hru
  have tok : True := trivial
  clear ha hb hru
  rcases h' with h' | ⟨h1, h2⟩
  · rcases (show u = false ∨ (u = true ∧ v = false) by cases u <;> cases v <;> simp_all) with rfl | ⟨rfl, rfl⟩
    all_goals
      clear h'
      go_enter Tryz.func41, Tryz.ntmps41
      go_wp2_with (first | (go_at_call 39; first | (have _t := tok; (with_reducible refine (HA.out _).mono ?_); rintro e w1 ⟨rfl, hb1⟩; have HB := Lib.hid hb1; clear hb1 tok) | ((with_reducible refine (HQ.out _).mono ?_); rintro e w2 ⟨rfl, hb2⟩; have HB := Lib.hid (bthen HB.out hb2); clear hb2)) | (go_at_call 38; refine (HR.out _).mono ?_; rintro e w3 ⟨rfl, hb3⟩; have HB := Lib.hid (bthen HB.out hb3); clear hb3))
      all_goals
        go_ret2
        exact ⟨rfl, (HB.out.alloc HB.out.size _).alloc (by have := HB.out.size; simp; omega) _⟩
  · cases u <;> cases v
    all_goals
      go_enter Tryz.func41, Tryz.ntmps41
      go_wp2_with (first | (go_at_call 39; first | (have _t := tok; (with_reducible refine (HA.out _).mono ?_); rintro e w1 ⟨rfl, hb1⟩; have HB := Lib.hid hb1; clear hb1 tok) | ((with_reducible refine (HQ.out _).mono ?_); rintro e w2 ⟨rfl, hb2⟩; have HB := Lib.hid (bthen HB.out hb2); clear hb2)) | (go_at_call 38; refine (HR.out _).mono ?_; rintro e w3 ⟨rfl, hb3⟩; have HB := Lib.hid (bthen HB.out hb3); clear hb3))
      all_goals
        go_ret2
        exact ⟨rfl, (HB.out.alloc HB.out.size _).alloc (by have := HB.out.size; simp; omega) _⟩

set_option maxRecDepth 100000 in
set_option maxHeartbeats 8000000 in
theorem lessRef_text (t a b X Y : ByteArray) (ht : t.size ≤ 281474976710656) (w : World) (hr : ruleD t.data.toList = 1) (hp : normD 1 a.data.toList = some X.data.toList) (hq : normD 1 b.data.toList = some Y.data.toList) :
    Calls Tryz.prog 41 #[.string t, .string a, .string b] w fun e w' => e = .returned (.tuple #[.bool (Op.bytesLess X.toList Y.toList), .bool true]) ∧ Below w.heap.size w w' := by
  have ha := fun w => normR_at t a ht 1 hr _ hp w
  have hb := fun w => normR_at t b ht 1 hr _ hq w
  have hru := fun w => ruleRef_any t ht w
  rw [hr] at hru
  have e1 : sB (some X.data.toList) = X := by simp [sB]
  have e2 : sB (some Y.data.toList) = Y := by simp [sB]
  simp only [e1, Option.isSome_some] at ha
  simp only [e2, Option.isSome_some] at hb
  have HA := Lib.hid ha
  have HQ := Lib.hid hb
  have HR := Lib.hid hru
  have tok : True := trivial
  clear ha hb hru hr hp hq e1 e2
  go_enter Tryz.func41, Tryz.ntmps41
  go_wp2_with (first | (go_at_call 39; first | (have _t := tok; (with_reducible refine (HA.out _).mono ?_); rintro e w1 ⟨rfl, hb1⟩; have HB := Lib.hid hb1; clear hb1 tok) | ((with_reducible refine (HQ.out _).mono ?_); rintro e w2 ⟨rfl, hb2⟩; have HB := Lib.hid (bthen HB.out hb2); clear hb2)) | (go_at_call 38; refine (HR.out _).mono ?_; rintro e w3 ⟨rfl, hb3⟩; have HB := Lib.hid (bthen HB.out hb3); clear hb3))
  go_ret2
  exact ⟨rfl, (HB.out.alloc HB.out.size _).alloc (by have := HB.out.size; simp; omega) _⟩

def TwoAt (W : World) (b : Nat) (x y : Value) (w : World) : Prop := w.cell? ⟨b, 0, none⟩ = some x ∧ w.cell? ⟨b + 1, 0, none⟩ = some y ∧ b + 1 < W.heap.size ∧ Below W.heap.size W w
theorem TwoAt.go {W w w1 : World} {b : Nat} {x y : Value} (h : TwoAt W b x y w) (hb : Below w.heap.size w w1) : w1.cell? ⟨b, 0, none⟩ = some x ∧ w1.cell? ⟨b + 1, 0, none⟩ = some y ∧ TwoAt W b x y w1 := by
  obtain ⟨h1, h2, h3, h4⟩ := h
  have hs := h4.size
  have c1 := (hb.cell (p := ⟨b, 0, none⟩) (by show b < _; omega)).trans h1
  have c2 := (hb.cell (p := ⟨b + 1, 0, none⟩) (by show b + 1 < _; omega)).trans h2
  exact ⟨c1, c2, c1, c2, h3, h4.trans (hb.mono hs)⟩

set_option maxRecDepth 100000 in
set_option maxHeartbeats 8000000 in
theorem lessRef_int (t a b : ByteArray) (m n : Int) (ht : t.size ≤ 281474976710656) (ha0 : a.size ≤ 281474976710656) (hb0 : b.size ≤ 281474976710656) (w : World) (hr : ruleD t.data.toList = 2) (hp : normD 2 a.data.toList = some a.data.toList) (hq : normD 2 b.data.toList = some b.data.toList)
    (hm : numD a.data.toList = some m) (hn : numD b.data.toList = some n) :
    Calls Tryz.prog 41 #[.string t, .string a, .string b] w fun e w' => e = .returned (.tuple #[.bool (decide (m < n)), .bool true]) ∧ Below w.heap.size w w' := by
  have ha := fun w => normR_at t a ht 2 hr _ hp w
  have hb := fun w => normR_at t b ht 2 hr _ hq w
  have hru := fun w => ruleRef_any t ht w
  rw [hr] at hru
  have e1 : sB (some a.data.toList) = a := by simp [sB]
  have e2 : sB (some b.data.toList) = b := by simp [sB]
  simp only [e1, Option.isSome_some] at ha
  simp only [e2, Option.isSome_some] at hb
  have h1 := fun w => numberRef_any a ha0 w
  have h2 := fun w => numberRef_any b hb0 w
  rw [hm] at h1
  rw [hn] at h2
  simp only [numR] at h1 h2
  have HA := Lib.hid ha
  have HQ := Lib.hid hb
  have HR := Lib.hid hru
  have H1 := Lib.hid h1
  have H2 := Lib.hid h2
  have tok : True := trivial
  clear ha hb hru hr hp hq e1 e2 h1 h2 hm hn
  go_enter Tryz.func41, Tryz.ntmps41
  go_wp2_with (first | (go_at_call 39; first | (have _t := tok; (with_reducible refine (HA.out _).mono ?_); rintro e w1 ⟨rfl, hb1⟩; have HB := Lib.hid hb1; clear hb1 tok) | ((with_reducible refine (HQ.out _).mono ?_); rintro e w2 ⟨rfl, hb2⟩; have HB := Lib.hid (bthen HB.out hb2); clear hb2)) | (go_at_call 38; refine (HR.out _).mono ?_; rintro e w3 ⟨rfl, hb3⟩; have HB := Lib.hid (bthen HB.out hb3); clear hb3))
  have hbw := (HB.out.alloc HB.out.size (.cells #[.string a, .bool true] 62)).alloc (by have := HB.out.size; simp; omega) (.cells #[.string b, .bool true] 62)
  have hst : TwoAt ((w3.alloc (.cells #[.string a, .bool true] 62)).alloc (.cells #[.string b, .bool true] 62)) w3.heap.size (.string a) (.string b) ((w3.alloc (.cells #[.string a, .bool true] 62)).alloc (.cells #[.string b, .bool true] 62)) := ⟨by simp, by simp, by simp, Below.refl _ _⟩
  generalize ((w3.alloc (.cells #[.string a, .bool true] 62)).alloc (.cells #[.string b, .bool true] 62)) = W at *
  generalize w3.heap.size = b8 at *
  have HBW := Lib.hid hbw
  have hst := hst.go (Below.refl _ _)
  have hfl := field_num0
  clear hbw
  go_region_held3 (fun w' => w'.cell? ⟨b8, 0, none⟩ = some (.string a) ∧ w'.cell? ⟨b8 + 1, 0, none⟩ = some (.string b) ∧ TwoAt W b8 (.string a) (.string b) w')
    (first | exact hst | (go_split_ands; exact TwoAt.go (by assumption) hb4) | (go_split_ands; exact TwoAt.go (by assumption) (Below.refl _ _).drew) | (go_split_ands; exact TwoAt.go (by assumption) (Below.refl _ _)))
    (first | (go_at_call 51; go_split_ands; (with_reducible refine (H1.out _).mono ?_); rintro e w4 ⟨rfl, hb4⟩) | (go_at_call 51; go_split_ands; (with_reducible refine (H2.out _).mono ?_); rintro e w4 ⟨rfl, hb4⟩))
  go_split_ands
  have hT : TwoAt W b8 (.string a) (.string b) w4 := by assumption
  have HT := Lib.hid hT.2.2.2
  clear hT
  go_wp2
  go_ret2
  exact ⟨rfl, HBW.out.trans (HT.out.mono HBW.out.size)⟩
end Go.Proofs.YtdgnefcpeocbjaaGreatDoor


namespace Go.Proofs.YtdgnefcpeocbjaaGreatDoor
open Go.RowKit
set_option linter.unusedVariables false

def valsS (L : List AT) (t : List UInt8) : List (List UInt8) := match L.find? (fun a => a.1 == t) with
  | some a => a.2
  | none => []
def hasS (L : List AT) (t : List UInt8) : Bool := decide (0 < (valsS L t).length)
def mostS (t : List UInt8) : Int := if t = [117, 105, 100, 110, 117, 109, 98, 101, 114] then 1 else 40
end Go.Proofs.YtdgnefcpeocbjaaGreatDoor


namespace Go.Proofs.YtdgnefcpeocbjaaGreatDoor
open Go.RowKit
set_option linter.unusedVariables false

structure CT where
  name : List UInt8
  sup : List UInt8
  st : Bool
  must : List UInt8
  may : List UInt8
def CT.mustL (c : CT) : List (List UInt8) := Lib.fields c.must
def CT.mayL (c : CT) : List (List UInt8) := Lib.fields c.may
def classL : List CT := [
  ⟨[116, 111, 112], [], false, [111, 98, 106, 101, 99, 116, 99, 108, 97, 115, 115], []⟩,
  ⟨[111, 114, 103, 97, 110, 105, 122, 97, 116, 105, 111, 110], [116, 111, 112], true, [111], [100, 101, 115, 99, 114, 105, 112, 116, 105, 111, 110]⟩,
  ⟨[111, 114, 103, 97, 110, 105, 122, 97, 116, 105, 111, 110, 97, 108, 117, 110, 105, 116], [116, 111, 112], true, [111, 117], [100, 101, 115, 99, 114, 105, 112, 116, 105, 111, 110]⟩,
  ⟨[112, 101, 114, 115, 111, 110], [116, 111, 112], true, [99, 110, 32, 115, 110], [100, 101, 115, 99, 114, 105, 112, 116, 105, 111, 110, 32, 117, 115, 101, 114, 112, 97, 115, 115, 119, 111, 114, 100]⟩,
  ⟨[105, 110, 101, 116, 111, 114, 103, 112, 101, 114, 115, 111, 110], [112, 101, 114, 115, 111, 110], true, [], [117, 105, 100, 32, 109, 97, 105, 108]⟩,
  ⟨[112, 111, 115, 105, 120], [116, 111, 112], false, [117, 105, 100, 32, 117, 105, 100, 110, 117, 109, 98, 101, 114], []⟩,
  ⟨[103, 114, 111, 117, 112, 111, 102, 110, 97, 109, 101, 115], [116, 111, 112], true, [99, 110, 32, 109, 101, 109, 98, 101, 114], [100, 101, 115, 99, 114, 105, 112, 116, 105, 111, 110]⟩]
def findC (n : List UInt8) : Option CT := classL.find? (fun c => c.name == n)
def chainC : Nat → List UInt8 → List CT
  | 0, _ => []
  | k + 1, n => match findC n with
    | none => []
    | some c => c :: chainC k c.sup
def objB : List UInt8 := [111, 98, 106, 101, 99, 116, 99, 108, 97, 115, 115]
def allC : List (List UInt8) → Option (List CT × Bool)
  | [] => some ([], false)
  | v :: l => match findC (fold v) with
    | none => none
    | some c => (allC l).map fun p => (chainC 3 (fold v) ++ p.1, c.st || p.2)
def allR (A : List CT) (b : Bool) (l : List (List UInt8)) : Option (List CT × Bool) := (allC l).map fun p => (A ++ p.1, b || p.2)
def mayC (A : List CT) : List (List UInt8) := A.flatMap fun c => c.mustL ++ c.mayL
def classedD (L : List AT) : Bool := match allC (valsS L objB) with
  | none => false
  | some (A, s) => s && (A.all (fun c => c.mustL.all (hasS L)) && L.all (fun a => (mayC A).contains a.1))

def normsS (r : Nat) : List (List UInt8) → Option (List (List UInt8))
  | [] => some []
  | v :: l => match normD r v with
    | none => none
    | some x => (normsS r l).map (x :: ·)
def valsC (t : List UInt8) (V : List (List UInt8)) : Int :=
  if V.length = 0 ∨ mostS t < (V.length : Int) then 19 else match normsS (ruleD t) V with
  | none => 21
  | some l => if l.Nodup then 0 else 20
def normsR (r : Nat) (A : List (List UInt8)) (l : List (List UInt8)) : Option (List (List UInt8)) := (normsS r l).map (A ++ ·)
def soundR : List AT → List AT → Except Int (List AT)
  | A, [] => .ok A
  | A, a :: l => match canonD a.1 with
    | none => .error 17
    | some t => if hasS A t then .error 20 else if valsC t a.2 = 0 then soundR (A ++ [(t, a.2)]) l else .error (valsC t a.2)
def namedD (L : List AT) (d : List UInt8) : Bool := match parseD d with
  | some (r :: _) => (valsS L ((canonD r.1).getD [])).any fun v => sameO (normD (ruleD ((canonD r.1).getD [])) v) (normD (ruleD ((canonD r.1).getD [])) r.2)
  | _ => false
def behindD (L : List AT) (d : List UInt8) : Int := if classedD L = false then 65 else if namedD L d = false then 64 else 0
def checkD (d : List UInt8) (L : List AT) : Int := match keyD d with
  | none => 34
  | some k => if k = [] then 34 else if 20 < L.length then 19 else match soundR [] L with
    | .error c => c
    | .ok A => behindD A d
end Go.Proofs.YtdgnefcpeocbjaaGreatDoor


namespace Go.Proofs.YtdgnefcpeocbjaaGreatDoor
open Go.RowKit
set_option linter.unusedVariables false

def SaysV (B : Nat) (w : World) (P : List PT) (L : List AT) : Prop := P.length = L.length ∧ ∀ j (h : j < L.length) (h' : j < P.length), P[j].1 = L[j].1 ∧ IsT B w L[j].2 P[j].2
def OwnV (B : Nat) (w : World) (v : Value) (L : List AT) : Prop := ∃ P, RowP B w v P ∧ SaysV B w P L
abbrev KT := CT × Value × Value
def cellsK : List KT → List Value
  | [] => []
  | r :: l => strV r.1.name :: strV r.1.sup :: .bool r.1.st :: r.2.1 :: r.2.2 :: cellsK l
abbrev Apart (B g : Nat) (w : World) (v : Value) (b : Nat) : Prop := B ≤ b ∧ b < w.heap.size ∧ some b ≠ v.ownBlock ∧ b ≠ g
def SaysK (B g : Nat) (w : World) (v : Value) (P : List KT) : Prop := ∀ j (h : j < P.length), IsTo (Apart B g w v) w P[j].1.mustL P[j].2.1 ∧ IsTo (Apart B g w v) w P[j].1.mayL P[j].2.2
def IsK (n0 : Nat) (w : World) (L : List CT) (v : Value) : Prop := ∃ a c, v = .slice a L.length c ∧ L.length ≤ maxLen ∧
  ∀ j, (h : j < L.length) → ∃ b off u1 u2, a = some ⟨b, off, none⟩ ∧ b < n0 ∧ w.cell? ⟨b, off + j * 5, none⟩ = some (strV L[j].name) ∧ w.cell? ⟨b, off + j * 5 + 1, none⟩ = some (strV L[j].sup) ∧ w.cell? ⟨b, off + j * 5 + 2, none⟩ = some (.bool L[j].st) ∧ w.cell? ⟨b, off + j * 5 + 3, none⟩ = some u1 ∧ w.cell? ⟨b, off + j * 5 + 4, none⟩ = some u2 ∧ IsT n0 w L[j].mustL u1 ∧ IsT n0 w L[j].mayL u2
theorem IsK.below {n0 n1 : Nat} {w w' : World} {L : List CT} {v : Value} (h : IsK n0 w L v) (hb : Below n0 w w') (hn : n0 ≤ n1) : IsK n1 w' L v := by
  obtain ⟨a, c, hv, hm, hc⟩ := h
  refine ⟨a, c, hv, hm, fun j hj => ?_⟩
  obtain ⟨b, off, u1, u2, ha, hlt, c0, c1, c2, c3, c4, ht, hu⟩ := hc j hj
  exact ⟨b, off, u1, u2, ha, Nat.lt_of_lt_of_le hlt hn, (hb.cell (p := ⟨b, _, none⟩) hlt).trans c0, (hb.cell (p := ⟨b, _, none⟩) hlt).trans c1, (hb.cell (p := ⟨b, _, none⟩) hlt).trans c2, (hb.cell (p := ⟨b, _, none⟩) hlt).trans c3, (hb.cell (p := ⟨b, _, none⟩) hlt).trans c4, ht.below hb hn, hu.below hb hn⟩
end Go.Proofs.YtdgnefcpeocbjaaGreatDoor


namespace Go.Proofs.YtdgnefcpeocbjaaGreatDoor
open Go.RowKit
set_option linter.unusedVariables false

def LaidF (w : World) : Prop := Lib.TabIs Tryz.prog w "strings.asciiSpace" .u8 Lib.asciiSpaceTab
def plainB (l : List UInt8) : Bool := l.all (fun b => decide (b.toNat < 128)) && decide (l.length < 1000)
abbrev New (B : Nat) (w : World) (b : Nat) : Prop := B ≤ b ∧ b < w.heap.size
def rowCells : Array Value := #[.string { data := #[116, 111, 112] }, .string { data := #[] }, .bool false, .string { data := #[111, 98, 106, 101, 99, 116, 99, 108, 97, 115, 115] }, .string { data := #[] }, .string { data := #[111, 114, 103, 97, 110, 105, 122, 97, 116, 105, 111, 110] }, .string { data := #[116, 111, 112] }, .bool true, .string { data := #[111] }, .string { data := #[100, 101, 115, 99, 114, 105, 112, 116, 105, 111, 110] }, .string { data := #[111, 114, 103, 97, 110, 105, 122, 97, 116, 105, 111, 110, 97, 108, 117, 110, 105, 116] }, .string { data := #[116, 111, 112] }, .bool true, .string { data := #[111, 117] }, .string { data := #[100, 101, 115, 99, 114, 105, 112, 116, 105, 111, 110] }, .string { data := #[112, 101, 114, 115, 111, 110] }, .string { data := #[116, 111, 112] }, .bool true, .string { data := #[99, 110, 32, 115, 110] }, .string { data := #[100, 101, 115, 99, 114, 105, 112, 116, 105, 111, 110, 32, 117, 115, 101, 114, 112, 97, 115, 115, 119, 111, 114, 100] }, .string { data := #[105, 110, 101, 116, 111, 114, 103, 112, 101, 114, 115, 111, 110] }, .string { data := #[112, 101, 114, 115, 111, 110] }, .bool true, .string { data := #[] }, .string { data := #[117, 105, 100, 32, 109, 97, 105, 108] }, .string { data := #[112, 111, 115, 105, 120] }, .string { data := #[116, 111, 112] }, .bool false, .string { data := #[117, 105, 100, 32, 117, 105, 100, 110, 117, 109, 98, 101, 114] }, .string { data := #[] }, .string { data := #[103, 114, 111, 117, 112, 111, 102, 110, 97, 109, 101, 115] }, .string { data := #[116, 111, 112] }, .bool true, .string { data := #[99, 110, 32, 109, 101, 109, 98, 101, 114] }, .string { data := #[100, 101, 115, 99, 114, 105, 112, 116, 105, 111, 110] }]
def rowsV : Value := .agg rowCells
def rowV (c : CT) : Value := .agg #[strV c.name, strV c.sup, .bool c.st, strV c.must, strV c.may]
def noC : Value := .agg #[.string ⟨#[]⟩, .string ⟨#[]⟩, .bool false, .slice none 0 0, .slice none 0 0]

abbrev set5 (w : World) (b : Nat) (x0 x1 x2 x3 x4 : Value) : World := ((((w.setCell ⟨b, 0, none⟩ x0).setCell ⟨b, 1, none⟩ x1).setCell ⟨b, 2, none⟩ x2).setCell ⟨b, 3, none⟩ x3).setCell ⟨b, 4, none⟩ x4
end Go.Proofs.YtdgnefcpeocbjaaGreatDoor


namespace Go.Proofs.YtdgnefcpeocbjaaGreatDoor
open Go.RowKit
set_option linter.unusedVariables false

end Go.Proofs.YtdgnefcpeocbjaaGreatDoor


namespace Go.Proofs.YtdgnefcpeocbjaaGreatDoor
open Go.RowKit
set_option linter.unusedVariables false

def FindW (w : World) (o : Option CT) (e : Ending) (w' : World) : Prop := Below w.heap.size w w' ∧ match o with
  | none => e = .returned (.tuple #[noC, .bool false])
  | some c => ∃ u1 u2, e = .returned (.tuple #[.agg #[strV c.name, strV c.sup, .bool c.st, u1, u2], .bool true]) ∧ IsTo (New w.heap.size w') w' c.mustL u1 ∧ IsTo (New w.heap.size w') w' c.mayL u2

end Go.Proofs.YtdgnefcpeocbjaaGreatDoor


namespace Go.Proofs.YtdgnefcpeocbjaaGreatDoor
open Go.RowKit
set_option linter.unusedVariables false

def restC : Option CT → List CT
  | none => []
  | some c => c :: chainC 3 c.sup
theorem block_ne (w : World) (a : Addr) (x : Value) {b : Nat} (h : b ≠ a.block) : (w.setCell a x).heap[b]? = w.heap[b]? := by
  unfold World.setCell
  simp [Array.getElem?_modify, Ne.symm h]
end Go.Proofs.YtdgnefcpeocbjaaGreatDoor


namespace Go.Proofs.YtdgnefcpeocbjaaGreatDoor
open Go.RowKit
set_option linter.unusedVariables false

def IsTT (n0 : Nat) (w : World) (U : List (List (List UInt8))) (v : Value) : Prop := ∃ a c, v = .slice a U.length c ∧ ∀ j, (h : j < U.length) → ∃ b off u, a = some ⟨b, off, none⟩ ∧ b < n0 ∧ w.cell? ⟨b, off + j, none⟩ = some u ∧ IsT n0 w U[j] u

end Go.Proofs.YtdgnefcpeocbjaaGreatDoor


namespace Go.Proofs.YtdgnefcpeocbjaaGreatDoor
open Go.RowKit
set_option linter.unusedVariables false

def Box1 (w : World) (b : Nat) (x : Value) : Prop := w.cell? ⟨b, 0, none⟩ = some x
theorem Box1.below {w w' : World} {b n : Nat} {x : Value} (h : Box1 w b x) (hb : Below n w w') (hn : b < n) : Box1 w' b x := (hb.cell (p := ⟨b, 0, none⟩) hn).trans h
end Go.Proofs.YtdgnefcpeocbjaaGreatDoor


namespace Go.Proofs.YtdgnefcpeocbjaaGreatDoor
open Go.RowKit
set_option linter.unusedVariables false

end Go.Proofs.YtdgnefcpeocbjaaGreatDoor


namespace Go.Proofs.YtdgnefcpeocbjaaGreatDoor
open Go.RowKit
set_option linter.unusedVariables false

def BoxA (w : World) (b : Nat) (x : ByteArray) (u : Value) : Prop := w.heap[b]? = some (.cells #[.string x, u] 45 (0, 0))
theorem BoxA.below {w w' : World} {b n : Nat} {x : ByteArray} {u : Value} (h : BoxA w b x u) (hb : Below n w w') (hn : b < n) : BoxA w' b x u := (hb.block b hn).trans h
theorem BoxA.cells {w : World} {b : Nat} {x : ByteArray} {u : Value} (h : BoxA w b x u) : w.cell? ⟨b, 0, none⟩ = some (.string x) ∧ w.cell? ⟨b, 1, none⟩ = some u := by
  unfold BoxA at h
  simp [World.cell?, h]
def SoundW (w : World) (o : Except Int (List AT)) (e : Ending) (w' : World) : Prop := Below w.heap.size w w' ∧ match o with
  | .error c => e = .returned (.tuple #[.slice none 0 0, .int .i64 c])
  | .ok A => ∃ u, e = .returned (.tuple #[u, .int .i64 0]) ∧ OwnV w.heap.size w' u A

end Go.Proofs.YtdgnefcpeocbjaaGreatDoor


namespace Go.Proofs.YtdgnefcpeocbjaaGreatDoor
open Go.RowKit
set_option linter.unusedVariables false

end Go.Proofs.YtdgnefcpeocbjaaGreatDoor


namespace Go.Proofs.YtdgnefcpeocbjaaGreatDoor
open Go.RowKit
set_option linter.unusedVariables false

def BoxN (w : World) (b : Nat) (x : ByteArray) (u : Value) : Prop := w.heap[b]? = some (.cells #[.string x, u] 28 (0, 0))
theorem BoxN.below {w w' : World} {b n : Nat} {x : ByteArray} {u : Value} (h : BoxN w b x u) (hb : Below n w w') (hn : b < n) : BoxN w' b x u := (hb.block b hn).trans h
theorem BoxN.cells {w : World} {b : Nat} {x : ByteArray} {u : Value} (h : BoxN w b x u) : w.cell? ⟨b, 0, none⟩ = some (.string x) ∧ w.cell? ⟨b, 1, none⟩ = some u := by
  unfold BoxN at h
  simp [World.cell?, h]
theorem boxN_new (w : World) (x : ByteArray) (u : Value) : BoxN (w.alloc (.cells #[.string x, u] 28)) w.heap.size x u := heap_alloc_new w _

def soundS (A : List AT) : Prop := ∀ a ∈ A, a.2.length ≤ 40 ∧ ∀ v ∈ a.2, v.length ≤ 100
end Go.Proofs.YtdgnefcpeocbjaaGreatDoor


namespace Go.Proofs.YtdgnefcpeocbjaaGreatDoor
open Go.RowKit
set_option linter.unusedVariables false

def AttrP (L : List AT) (t : List UInt8) (I : Int) : Prop := (∃ j, ∃ h : j < L.length, I = (j : Int) ∧ (low L[j].1 == low t) = true ∧ ∀ k (hk : k < L.length), k < j → (low L[k].1 == low t) = false) ∨ (I = -1 ∧ ∀ k (hk : k < L.length), (low L[k].1 == low t) = false)
set_option maxRecDepth 100000 in
set_option maxHeartbeats 4000000 in
theorem attrRef_any (D t : ByteArray) (ht : t.size ≤ 281474976710656) (L : List AT) (hs : smallA L) (v : Value) (w : World) (h : IsA w.heap.size w L v) :
    Calls Tryz.prog 31 #[.agg #[.string D, v], .string t] w fun e w' => ∃ I, e = .returned (.int .i64 I) ∧ AttrP L t.data.toList I ∧ Below w.heap.size w w' := by
  obtain ⟨a, c, hv, hm, hcell⟩ := h
  obtain ⟨n, hn⟩ : ∃ n, n = L.length := ⟨_, rfl⟩
  rw [← hn] at hv hm
  subst hv
  unfold maxLen at hm
  have hbx := boxN_new w D (.slice a n c)
  have HN := Lib.hid hn
  have HC := Lib.hid hcell
  have HS := Lib.hid hs
  have HBx := Lib.hid hbx
  have hB0 : Below w.heap.size w (w.alloc (.cells #[.string D, .slice a n c] 28)) := (Below.refl _ _).alloc (Nat.le_refl _) _
  have HB0 := Lib.hid hB0
  have HLt := Lib.hid (fun W => lowerRef_any t W ht)
  obtain ⟨T, hT⟩ : ∃ T, T = lowB t := ⟨_, rfl⟩
  have hTl : T.data.toList = low t.data.toList := by rw [hT, lowB_list]
  rw [← hT] at HLt
  have HTl := Lib.hid hTl
  clear hcell hn hs hbx hB0 hT hTl
  go_enter Tryz.func31, Tryz.ntmps31
  go_wp2
  go_loopw [5] (fun i wr => ∃ j : Nat, j ≤ n ∧ i = .int .i64 j ∧ Hid (∀ k (hk : k < L.length), k < j → (low L[k].1 == low t.data.toList) = false) ∧ Below (w.alloc (.cells #[.string D, .slice a n c] 28)).heap.size (w.alloc (.cells #[.string D, .slice a n c] 28)) wr) (fun i wr => n - (intOf i).toNat)
  case atStart => exact ⟨0, by omega, rfl, Lib.hid (fun k _ h => absurd h (by omega)), Below.refl _ _⟩
  case round =>
    obtain ⟨j, hj, rfl, HNo, hbel⟩ := hrel
    have HBel := Lib.hid (HB0.out.trans (hbel.mono HB0.out.size))
    obtain ⟨x0, x1⟩ := (HBx.out.below hbel (by simp)).cells
    have HBe := Lib.hid hbel
    have hbs := hbel.size
    clear hbel
    by_cases hlt : j < n
    · have t1 : decide ((j : Int) < (n : Int)) = true := by simp; omega
      have t1' : decide (j < n) = true := by simpa using hlt
      have hlL : j < L.length := by rw [← HN.out]; exact hlt
      obtain ⟨b, off, u, rfl, hb0, c0, c1, _⟩ := HC.out j hlL
      obtain ⟨X, hX⟩ : ∃ X : ByteArray, ⟨L[j].1.toArray⟩ = X := ⟨_, rfl⟩
      have hXl : X.data.toList = L[j].1 := by rw [← hX]
      have d0 : (wr.cell? ⟨b, off + j * 2, none⟩) = some (.string X) := by
        rw [HBel.out.cell (p := ⟨b, _, none⟩) hb0, c0, ← hX]; rfl
      have hXs : X.size ≤ 281474976710656 := by
        have := (HS.out.2 L[j] (List.getElem_mem _)).1
        rw [← bytes_len, hXl]; omega
      have HLx := Lib.hid (fun W => lowerRef_any X W hXs)
      obtain ⟨Y, hY⟩ : ∃ Y, Y = lowB X := ⟨_, rfl⟩
      have hYl : Y.data.toList = low L[j].1 := by rw [hY, lowB_list, hXl]
      rw [← hY] at HLx
      by_cases he : Y = T
      · have HR : Hid ((low L[j].1 == low t.data.toList) = true) := Lib.hid (by rw [← hYl, ← HTl.out, he]; simp)
        subst he
        clear hX hXl c0 c1 hY hYl
        go_wp2_with (first
          | (go_at_call 30; ((with_reducible refine (HLx.out _).mono ?_); rintro e w2 ⟨rfl, hb2⟩); have HB2 := Lib.hid (HBel.out.trans (hb2.mono HBel.out.size)); clear hb2)
          | (go_at_call 30; ((with_reducible refine (HLt.out _).mono ?_); rintro e w3 ⟨rfl, hb3⟩); have HB3 := Lib.hid (bthen HB2.out hb3); clear hb3))
        go_ret
        exact ⟨_, rfl, .inl ⟨j, hlL, rfl, HR.out, HNo.out⟩, HB3.out⟩
      · have t2 := str_ne he
        have HN2 : Hid (∀ k (hk : k < L.length), k < j + 1 → (low L[k].1 == low t.data.toList) = false) := Lib.hid (fun k h1 h3 => by
            by_cases hk : k < j
            · exact HNo.out k h1 hk
            · obtain rfl : k = j := by omega
              rw [← hYl, ← HTl.out]
              exact by simpa using fun e => he (bytes_ext e))
        clear he hX hXl c0 c1 hY hYl HNo
        go_wp2_with (first
          | (go_at_call 30; ((with_reducible refine (HLx.out _).mono ?_); rintro e w2 ⟨rfl, hb2⟩); have HB2 := Lib.hid (HBe.out.trans (hb2.mono hbs)); clear hb2)
          | (go_at_call 30; ((with_reducible refine (HLt.out _).mono ?_); rintro e w3 ⟨rfl, hb3⟩); have HB3 := Lib.hid (HB2.out.trans (hb3.mono HB2.out.size)); clear hb3))
        go_roundw
        case rel => exact ⟨j + 1, by omega, by go_num, HN2, HB3.out⟩
        case measure => simp [intOf]; omega
    · obtain rfl : j = n := by omega
      have t1 : decide ((j : Int) < (j : Int)) = false := by simp
      have t1' : decide (j < j) = false := by simp
      go_wp2
      go_ret
      exact ⟨_, rfl, .inr ⟨rfl, fun k hk => HNo.out k hk (by rw [HN.out]; exact hk)⟩, HBel.out⟩

set_option maxRecDepth 100000 in
set_option maxHeartbeats 4000000 in
theorem valsRef_any (D t : ByteArray) (ht : t.size ≤ 281474976710656) (L : List AT) (hs : smallA L) (v : Value) (w : World) (h : IsA w.heap.size w L v) :
    Calls Tryz.prog 22 #[.agg #[.string D, v], .string t] w fun e w' => ∃ u, e = .returned u ∧ IsT w.heap.size w (findA L t.data.toList) u ∧ Below w.heap.size w w' := by
  obtain ⟨a, c, hv, hm, hcell⟩ := id h
  obtain ⟨n, hn⟩ : ∃ n, n = L.length := ⟨_, rfl⟩
  rw [← hn] at hv hm
  subst hv
  unfold maxLen at hm
  have hbx := boxN_new w D (.slice a n c)
  have hB0 : Below w.heap.size w (w.alloc (.cells #[.string D, .slice a n c] 28)) := (Below.refl _ _).alloc (Nat.le_refl _) _
  have HAt := Lib.hid (attrRef_any D t ht L hs (.slice a n c) (w.alloc (.cells #[.string D, .slice a n c] 28)) (h.below hB0 hB0.size))
  have HN := Lib.hid hn
  have HC := Lib.hid hcell
  have HBx := Lib.hid hbx
  have HB0 := Lib.hid hB0
  clear hcell hn hs hbx hB0 h
  go_enter Tryz.func22, Tryz.ntmps22
  go_upto_region 2 with (go_at_call 31; refine (HAt.out).mono ?_; rintro e w2 ⟨I, rfl, hI, hb2⟩; have HI := Lib.hid hI; have HB2 := Lib.hid (HB0.out.trans (hb2.mono HB0.out.size)); (obtain ⟨x0, x1⟩ := (HBx.out.below hb2 (by simp)).cells); clear hI hb2)
  rcases HI.out with ⟨j, hlL, rfl, h1, h2⟩ | ⟨rfl, h2⟩
  · obtain ⟨b, off, u, rfl, hb0, c0, c1, hit⟩ := HC.out j hlL
    have hlt : j < n := by rw [HN.out]; exact hlL
    have t1 : decide ((j : Int) < 0) = false := by simp
    have d1 := (HB2.out.cell (p := ⟨b, off + j * 2 + 1, none⟩) hb0).trans c1
    have HF := Lib.hid (findA_at j hlL h2 h1)
    have HIt := Lib.hid hit
    obtain ⟨ua, uc, hu, _⟩ := id hit
    obtain ⟨un, hun⟩ : ∃ k, k = L[j].2.length := ⟨_, rfl⟩
    rw [← hun] at hu
    subst hu
    clear h1 h2 HI c0 c1 hit hun
    go_wp2
    go_ret
    exact ⟨_, rfl, by rw [HF.out]; exact HIt.out, HB2.out⟩
  · have t1 : decide ((-1 : Int) < 0) = true := by decide
    have HF := Lib.hid (findA_no h2)
    clear h2 HI
    go_wp2
    go_ret
    exact ⟨_, rfl, by rw [HF.out]; exact isT_nil _ _ _ _, HB2.out⟩
end Go.Proofs.YtdgnefcpeocbjaaGreatDoor


namespace Go.Proofs.YtdgnefcpeocbjaaGreatDoor
open Go.RowKit
set_option linter.unusedVariables false

set_option maxRecDepth 100000 in
set_option maxHeartbeats 4000000 in
theorem hasRef_any (D t x : ByteArray) (ht : t.size ≤ 281474976710656) (L : List AT) (hs : smallA L) (v : Value) (w : World) (h : IsA w.heap.size w L v) :
    Calls Tryz.prog 40 #[.agg #[.string D, v], .string t, .string x] w fun e w' => e = .returned (.bool ((findA L t.data.toList).any fun y => sameO (normD (ruleD t.data.toList) y) (normD (ruleD t.data.toList) x.data.toList))) ∧ Below w.heap.size w w' := by
  obtain ⟨a, c, hv, hm, _⟩ := id h
  obtain ⟨n, hn⟩ : ∃ n, n = L.length := ⟨_, rfl⟩
  rw [← hn] at hv
  subst hv
  have hbx := boxN_new w D (.slice a n c)
  have hB0 : Below w.heap.size w (w.alloc (.cells #[.string D, .slice a n c] 28)) := (Below.refl _ _).alloc (Nat.le_refl _) _
  have hva := valsRef_any D t ht L hs (.slice a n c) (w.alloc (.cells #[.string D, .slice a n c] 28)) (h.below hB0 hB0.size)
  obtain ⟨V, hV⟩ : ∃ V, V = findA L t.data.toList := ⟨_, rfl⟩
  rw [← hV] at hva ⊢
  obtain ⟨R, hR⟩ : ∃ R, R = V.any fun y => sameO (normD (ruleD t.data.toList) y) (normD (ruleD t.data.toList) x.data.toList) := ⟨_, rfl⟩
  rw [← hR]
  obtain ⟨m, hml⟩ : ∃ m, m = V.length := ⟨_, rfl⟩
  have HVa := Lib.hid hva
  have HR := Lib.hid hR
  have HMl := Lib.hid hml
  have HB0 := Lib.hid hB0
  have HSv := Lib.hid (fun Y W => sameVal_any t Y x ht W)
  clear hva hR hV hn hB0 h hbx hs hml
  go_enter Tryz.func40, Tryz.ntmps40
  go_wp2_with (go_at_call 22; refine (HVa.out).mono ?_; rintro e w2 ⟨u, rfl, hit, hb2⟩; (obtain ⟨ua, uc, hu, hum, huc⟩ := hit); (rw [← HMl.out] at hu hum); subst hu; have HUc := Lib.hid huc; have HB2 := Lib.hid (HB0.out.trans (hb2.mono HB0.out.size)); have HB3 := Lib.hid hb2; clear hb2 huc)
  unfold maxLen at hum
  go_loopw [8] (fun i wr => ∃ j : Nat, j ≤ m ∧ i = .int .i64 j ∧ Hid (∀ k (hk : k < V.length), k < j → sameO (normD (ruleD t.data.toList) V[k]) (normD (ruleD t.data.toList) x.data.toList) = false) ∧ Below w2.heap.size w2 wr) (fun i wr => m - (intOf i).toNat)
  case atStart => exact ⟨0, by omega, rfl, Lib.hid (fun k _ h => absurd h (by omega)), Below.refl _ _⟩
  case round =>
    obtain ⟨j, hj, rfl, HNo, hbel⟩ := hrel
    have HBr := Lib.hid hbel
    by_cases hlt : j < m
    · have t1 : decide ((j : Int) < (m : Int)) = true := by simp; omega
      have t1' : decide (j < m) = true := by simpa using hlt
      have hjV : j < V.length := by rw [← HMl.out]; exact hlt
      obtain ⟨b, off, rfl, hb0, c0⟩ := HUc.out j hjV
      obtain ⟨X, hX⟩ : ∃ X : ByteArray, ⟨V[j].toArray⟩ = X := ⟨_, rfl⟩
      have hXl : X.data.toList = V[j] := by rw [← hX]
      have d0 : (wr.cell? ⟨b, off + j, none⟩) = some (.string X) := by
        rw [hbel.cell (p := ⟨b, _, none⟩) (Nat.lt_of_lt_of_le hb0 HB3.out.size), HB3.out.cell (p := ⟨b, _, none⟩) hb0, c0, ← hX]; rfl
      have hsv := fun W => HSv.out X W
      rw [hXl] at hsv
      cases hq : sameO (normD (ruleD t.data.toList) V[j]) (normD (ruleD t.data.toList) x.data.toList) with
      | true =>
        rw [hq] at hsv
        have HS := Lib.hid hsv
        have HRt : Hid (R = true) := Lib.hid (by rw [HR.out, List.any_eq_true]; exact ⟨V[j], List.getElem_mem _, hq⟩)
        clear hsv hq hX hXl c0 hbel HNo
        go_wp2_with (go_at_call 53; refine (HS.out _).mono ?_; rintro e w3 ⟨rfl, hb3⟩; have HB4 := Lib.hid (bthen HBr.out hb3); clear hb3)
        go_ret
        exact ⟨by rw [HRt.out]; rfl, HB2.out.trans (HB4.out.mono HB2.out.size)⟩
      | false =>
        rw [hq] at hsv
        have HS := Lib.hid hsv
        have HN2 : Hid (∀ k (hk : k < V.length), k < j + 1 → sameO (normD (ruleD t.data.toList) V[k]) (normD (ruleD t.data.toList) x.data.toList) = false) := Lib.hid (fun k h1 h3 => by
          by_cases hk : k < j
          · exact HNo.out k h1 hk
          · obtain rfl : k = j := by omega
            exact hq)
        clear hsv hq hX hXl c0 hbel HNo
        go_wp2_with (go_at_call 53; refine (HS.out _).mono ?_; rintro e w3 ⟨rfl, hb3⟩; have HB4 := Lib.hid (bthen HBr.out hb3); clear hb3)
        go_roundw
        case rel => exact ⟨j + 1, by omega, by go_num, HN2, HB4.out⟩
        case measure => simp [intOf]; omega
    · obtain rfl : j = m := by omega
      have t1 : decide ((j : Int) < (j : Int)) = false := by simp
      have t1' : decide (j < j) = false := by simp
      have HRf : Hid (R = false) := Lib.hid (by
        rw [HR.out, List.any_eq_false]
        intro y hy
        obtain ⟨k, hk, rfl⟩ := List.getElem_of_mem hy
        rw [HNo.out k hk (by rw [HMl.out]; exact hk)]
        simp)
      go_wp2
      go_ret
      exact ⟨by rw [HRf.out]; rfl, HB2.out.trans (HBr.out.mono HB2.out.size)⟩
end Go.Proofs.YtdgnefcpeocbjaaGreatDoor


namespace Go.Proofs.YtdgnefcpeocbjaaGreatDoor
open Go.RowKit
set_option linter.unusedVariables false
set_option linter.unusedSimpArgs false

theorem normR_zero (v : List UInt8) : normD 0 v = none := by
  unfold normD
  split
  · rfl
  · rw [if_neg (by decide), if_neg (by decide), if_neg (by decide), if_neg (by decide)]
theorem ruleR_zero {t : List UInt8} (h : ruleD t = 0) : canonD t = none := by
  unfold ruleD ruleL at h
  unfold canonD
  cases hf : findL (low t) with
  | none => rfl
  | some k =>
    rw [hf] at h
    have := findL_len hf
    simp at h
    omega
theorem ruleR_some {t : List UInt8} (h : ruleD t ≠ 0) : (canonD t).isSome = true := by
  unfold ruleD ruleL at h
  unfold canonD
  cases hf : findL (low t) with
  | none => rw [hf] at h; exact absurd rfl h
  | some k => rfl
theorem leafR_zero (L : List AT) {k : Int} (t x : List UInt8) (p : List (List UInt8)) (h : ruleD t = 0) : leafE L k t x p = 2 := by
  unfold leafE
  rw [if_neg]
  unfold askE
  rw [h, normR_zero, ruleR_zero h]
  unfold lessD
  rw [normR_zero]
  simp
theorem leafR_has (L : List AT) {k : Int} (hk : k = 8) (t x : List UInt8) (p : List (List UInt8)) (h : ruleD t ≠ 0) : leafE L k t x p = if 0 < (findA L t).length then 1 else 0 := by
  subst hk
  unfold leafE askE fitE
  simp [ruleR_some h]
theorem leafR_eq (L : List AT) {k : Int} (hk : k = 4) (t x : List UInt8) (p : List (List UInt8)) : leafE L k t x p = if (normD (ruleD t) x).isSome then (if (findA L t).any (fun y => sameO (normD (ruleD t) y) (normD (ruleD t) x)) then 1 else 0) else 2 := by
  subst hk
  unfold leafE askE fitE
  simp only [if_true]
  rfl
def ordR (k : Int) (r : Nat) (x v : List UInt8) : Option Bool := if k = 7 then lessD r x v else lessD r v x
theorem leafR_ord (L : List AT) {k : Int} (hk : k = 6 ∨ k = 7) (t x : List UInt8) (p : List (List UInt8)) : leafE L k t x p = if (lessD (ruleD t) x x).isSome then (if (findA L t).any (fun v => ordR k (ruleD t) x v == some false) then 1 else 0) else 2 := by
  unfold leafE askE fitE ordR aboveE
  rcases hk with rfl | rfl
  · simp
  · simp
theorem leafR_sub (L : List AT) {k : Int} (hk : k = 5) (t x : List UInt8) (p : List (List UInt8)) : leafE L k t x p = if ruleD t = 1 then (if (findA L t).any (partsE (ruleD t) p) then 1 else 0) else 2 := by
  subst hk
  unfold leafE askE fitE
  simp
theorem lessV_two (o : Option Bool) : lessV o = .tuple #[.bool (o == some true), .bool o.isSome] := by cases o with
  | none => rfl
  | some b => cases b <;> rfl
theorem anyR_next {V : List (List UInt8)} {P : List UInt8 → Bool} {j : Nat} (h : j < V.length) : (V.take (j + 1)).any P = ((V.take j).any P || P V[j]) := by
  rw [List.take_succ_eq_append_getElem h, List.any_append]
  simp
theorem lessRefFl_any (t a b : ByteArray) (ht : t.size ≤ 281474976710656) (ha : a.size ≤ 281474976710656) (hb : b.size ≤ 281474976710656) (w : World) :
    Calls Tryz.prog 41 #[.string t, .string a, .string b] w fun e w' => e = .returned (lessV (lessD (ruleD t.data.toList) a.data.toList b.data.toList)) ∧ Below w.heap.size w w' := by
  cases hp : normD (ruleD t.data.toList) a.data.toList with
  | none =>
    have h := lessRef_no t a b ht w (.inl hp)
    rw [show lessD (ruleD t.data.toList) a.data.toList b.data.toList = none from by unfold lessD; rw [hp]]
    exact h
  | some x =>
    cases hq : normD (ruleD t.data.toList) b.data.toList with
    | none =>
      have h := lessRef_no t a b ht w (.inr (.inl hq))
      rw [show lessD (ruleD t.data.toList) a.data.toList b.data.toList = none from by unfold lessD; rw [hp, hq]]
      exact h
    | some y =>
      by_cases h1 : ruleD t.data.toList = 1
      · have hd : lessD (ruleD t.data.toList) a.data.toList b.data.toList = some (Op.bytesLess x y) := by unfold lessD; rw [hp, hq]; simp only [h1, if_true]
        rw [hd]
        rw [h1] at hp hq
        have h := lessRef_text t a b ⟨x.toArray⟩ ⟨y.toArray⟩ ht w h1 (by rw [hp]) (by rw [hq])
        rw [ByteArray.toList_eq, ByteArray.toList_eq] at h
        exact h
      · by_cases h2 : ruleD t.data.toList = 2
        · rw [h2] at hp hq
          obtain ⟨rfl, m, hm⟩ := norm2_self hp
          obtain ⟨rfl, n, hn⟩ := norm2_self hq
          have hd : lessD (ruleD t.data.toList) a.data.toList b.data.toList = some (decide (m < n)) := by unfold lessD; rw [h2, hp, hq]; simp only [hm, hn]; rfl
          rw [hd]
          exact lessRef_int t a b m n ht ha hb w h2 hp hq hm hn
        · have h := lessRef_no t a b ht w (.inr (.inr ⟨h1, h2⟩))
          rw [show lessD (ruleD t.data.toList) a.data.toList b.data.toList = none from by unfold lessD; rw [hp, hq]; simp only; rw [if_neg h1, if_neg h2]]
          exact h
set_option maxRecDepth 100000 in
theorem flipR_any (r : Nat) (hr : r ≤ 2) (w : World) : Calls Tryz.prog 37 #[.int .i64 r] w fun e w' => e = .returned (.int .i64 (flipE r : Nat)) ∧ w = w' := by
  obtain rfl | rfl | rfl : r = 0 ∨ r = 1 ∨ r = 2 := by omega
  all_goals
    go_enter Tryz.func37, Tryz.ntmps37
    go_wp2
    go_ret
    exact ⟨rfl, rfl⟩
end Go.Proofs.YtdgnefcpeocbjaaGreatDoor


namespace Go.Proofs.YtdgnefcpeocbjaaGreatDoor
open Go.RowKit
set_option linter.unusedVariables false
set_option linter.unusedSimpArgs false

set_option maxRecDepth 100000 in
set_option maxHeartbeats 4000000 in
theorem zeroR_any (k : Int) (T X D : ByteArray) (p : List (List UInt8)) (L : List AT) (pa ka va : Option Addr) (n pc kn kc vn vc : Nat) (hT : T.size ≤ 1000000) (hX : X.size ≤ 1000000) (hs : smallA L) (w : World) (h : IsA w.heap.size w L (.slice va vn vc)) (hk : k ≠ 1 ∧ k ≠ 2 ∧ k ≠ 3) (h0 : ruleD T.data.toList = 0) :
    Calls Tryz.prog 26 #[.agg #[.int .i64 k, .string T, .string X, .slice pa n pc, .slice ka kn kc], .agg #[.string D, .slice va vn vc]] w fun e w' => e = .returned (.int .i64 (leafE L k T.data.toList X.data.toList p : Nat)) ∧ Below w.heap.size w w' := by
  obtain ⟨W0, hW0⟩ : ∃ W, W = w.alloc (.cells #[.int .i64 k, .string T, .string X, .slice pa n pc, .slice ka kn kc] 25) := ⟨_, rfl⟩
  obtain ⟨W1, hW1⟩ : ∃ W, W = W0.alloc (.cells #[.string D, .slice va vn vc] 28) := ⟨_, rfl⟩
  have hb0 : Below w.heap.size w W0 := by rw [hW0]; exact box5 w _ _ _ _ _
  have hb01 : Below W0.heap.size W0 W1 := by rw [hW1]; exact (Below.refl _ _).alloc (Nat.le_refl _) _
  have hb1 : Below w.heap.size w W1 := bthen hb0 hb01
  have hf0 : FlAt W0 w.heap.size (.int .i64 k) (.string T) (.string X) (.slice pa n pc) (.slice ka kn kc) := by rw [hW0]; exact heap_alloc_new w _
  have hf : FlAt W1 w.heap.size (.int .i64 k) (.string T) (.string X) (.slice pa n pc) (.slice ka kn kc) := fl_below hf0 hb01 (fl_lt hf0)
  obtain ⟨eb, heb⟩ : ∃ b, b = w.heap.size + 1 := ⟨_, rfl⟩
  have hsz : W0.heap.size = eb := by rw [heb, hW0]; simp only [World.alloc, Array.size_push]
  have he : EnAt W1 eb D (.slice va vn vc) := by rw [← hsz, hW1]; exact heap_alloc_new W0 _
  have hE : ∀ W, Below W1.heap.size W1 W → FlAt W w.heap.size (.int .i64 k) (.string T) (.string X) (.slice pa n pc) (.slice ka kn kc) ∧ EnAt W eb D (.slice va vn vc) := fun W hW => ⟨fl_below hf hW (fl_lt hf), en_below he hW (en_lt he)⟩
  have HE := Lib.hid hE
  have HW0 := Lib.hid hW0.symm
  have HW1 := Lib.hid hW1.symm
  have HEb := Lib.hid heb.symm
  have HB1 := Lib.hid hb1
  obtain ⟨d0, d1, d2, d3, d4⟩ := fl_cells hf
  obtain ⟨e0, e1⟩ := en_cells he
  have HRu := Lib.hid (fun W => ruleRef_any T (by omega) W)
  have HVa := Lib.hid (fun W (hW : Below W1.heap.size W1 W) => valsRef_any D T (by omega) L hs (.slice va vn vc) W (h.below (bthen hb1 hW) (bthen hb1 hW).size))
  obtain ⟨R, hR⟩ : ∃ R, R = leafE L k T.data.toList X.data.toList p := ⟨_, rfl⟩
  rw [← hR]
  obtain ⟨r, hr⟩ : ∃ r, r = ruleD T.data.toList := ⟨_, rfl⟩
  rw [← hr] at HRu h0
  have t1 : ((k : Int) == 1) = false := by simp [hk.1]
  have t2 : ((k : Int) == 2) = false := by simp [hk.2.1]
  have t3 : ((k : Int) == 3) = false := by simp [hk.2.2]
  have t0 : ((r : Int) == 0) = true := by rw [h0]; rfl
  have HR2 : Hid (R = 2) := Lib.hid (by rw [hR]; exact leafR_zero L _ _ _ (by rw [← hr]; exact h0))
  clear hW0 hW1 hb0 hb01 hb1 hf0 hf heb hsz he hE hR hs h hr HVa hk h0
  go_enter Tryz.func26, Tryz.ntmps26
  go_upto_region 1 with (fail)
  rw [HW0.out, HW1.out, HEb.out]
  go_wp2_with (go_at_call 38; refine (HRu.out _).mono ?_; rintro e w2 ⟨rfl, hb2⟩; have HX2 := Lib.hid hb2; (obtain ⟨g0, g1, g2, g3, g4⟩ := fl_cells (HE.out _ hb2).1); (obtain ⟨z0, z1⟩ := en_cells (HE.out _ hb2).2); clear hb2)
  go_ret
  exact ⟨by rw [HR2.out]; rfl, bthen HB1.out HX2.out⟩
set_option maxRecDepth 100000 in
set_option maxHeartbeats 4000000 in
theorem hasR_any (k : Int) (T X D : ByteArray) (p : List (List UInt8)) (L : List AT) (pa ka va : Option Addr) (n pc kn kc vn vc : Nat) (hT : T.size ≤ 1000000) (hX : X.size ≤ 1000000) (hs : smallA L) (w : World) (h : IsA w.heap.size w L (.slice va vn vc)) (hk : k = 8) (h0 : ruleD T.data.toList ≠ 0) :
    Calls Tryz.prog 26 #[.agg #[.int .i64 k, .string T, .string X, .slice pa n pc, .slice ka kn kc], .agg #[.string D, .slice va vn vc]] w fun e w' => e = .returned (.int .i64 (leafE L k T.data.toList X.data.toList p : Nat)) ∧ Below w.heap.size w w' := by
  obtain ⟨W0, hW0⟩ : ∃ W, W = w.alloc (.cells #[.int .i64 k, .string T, .string X, .slice pa n pc, .slice ka kn kc] 25) := ⟨_, rfl⟩
  obtain ⟨W1, hW1⟩ : ∃ W, W = W0.alloc (.cells #[.string D, .slice va vn vc] 28) := ⟨_, rfl⟩
  have hb0 : Below w.heap.size w W0 := by rw [hW0]; exact box5 w _ _ _ _ _
  have hb01 : Below W0.heap.size W0 W1 := by rw [hW1]; exact (Below.refl _ _).alloc (Nat.le_refl _) _
  have hb1 : Below w.heap.size w W1 := bthen hb0 hb01
  have hf0 : FlAt W0 w.heap.size (.int .i64 k) (.string T) (.string X) (.slice pa n pc) (.slice ka kn kc) := by rw [hW0]; exact heap_alloc_new w _
  have hf : FlAt W1 w.heap.size (.int .i64 k) (.string T) (.string X) (.slice pa n pc) (.slice ka kn kc) := fl_below hf0 hb01 (fl_lt hf0)
  obtain ⟨eb, heb⟩ : ∃ b, b = w.heap.size + 1 := ⟨_, rfl⟩
  have hsz : W0.heap.size = eb := by rw [heb, hW0]; simp only [World.alloc, Array.size_push]
  have he : EnAt W1 eb D (.slice va vn vc) := by rw [← hsz, hW1]; exact heap_alloc_new W0 _
  have hE : ∀ W, Below W1.heap.size W1 W → FlAt W w.heap.size (.int .i64 k) (.string T) (.string X) (.slice pa n pc) (.slice ka kn kc) ∧ EnAt W eb D (.slice va vn vc) := fun W hW => ⟨fl_below hf hW (fl_lt hf), en_below he hW (en_lt he)⟩
  have HE := Lib.hid hE
  have HW0 := Lib.hid hW0.symm
  have HW1 := Lib.hid hW1.symm
  have HEb := Lib.hid heb.symm
  have HB1 := Lib.hid hb1
  obtain ⟨d0, d1, d2, d3, d4⟩ := fl_cells hf
  obtain ⟨e0, e1⟩ := en_cells he
  have HRu := Lib.hid (fun W => ruleRef_any T (by omega) W)
  have HVa := Lib.hid (fun W (hW : Below W1.heap.size W1 W) => valsRef_any D T (by omega) L hs (.slice va vn vc) W (h.below (bthen hb1 hW) (bthen hb1 hW).size))
  obtain ⟨R, hR⟩ : ∃ R, R = leafE L k T.data.toList X.data.toList p := ⟨_, rfl⟩
  rw [← hR]
  obtain ⟨r, hr⟩ : ∃ r, r = ruleD T.data.toList := ⟨_, rfl⟩
  obtain ⟨V, hV⟩ : ∃ V, V = findA L T.data.toList := ⟨_, rfl⟩
  obtain ⟨m, hml⟩ : ∃ m, m = V.length := ⟨_, rfl⟩
  have HVq := Lib.hid hV
  rw [← hV] at HVa
  have HMl := Lib.hid hml
  rw [← hr] at HRu h0
  have t1 : ((k : Int) == 1) = false := by simp [hk]
  have t2 : ((k : Int) == 2) = false := by simp [hk]
  have t3 : ((k : Int) == 3) = false := by simp [hk]
  have t8 : ((k : Int) == 8) = true := by simp [hk]
  have t0 : ((r : Int) == 0) = false := by simp; omega
  have HR2 : Hid (R = if 0 < m then 1 else 0) := Lib.hid (by rw [hR, leafR_has L hk _ _ _ (by rw [← hr]; exact h0), ← hV, ← hml])
  clear hW0 hW1 hb0 hb01 hb1 hf0 hf heb hsz he hE hR hs h hr hV hml hk h0
  by_cases hm0 : 0 < m
  · have f1 : decide ((0 : Int) < (m : Int)) = true := by simp; omega
    have f2 : decide (0 < m) = true := by simp; omega
    have HR3 : Hid (R = 1) := Lib.hid (by rw [HR2.out, if_pos hm0])
    go_enter Tryz.func26, Tryz.ntmps26
    go_upto_region 1 with (fail)
    rw [HW0.out, HW1.out, HEb.out]
    go_wp2_with (first | (go_at_call 38; refine (HRu.out _).mono ?_; rintro e w2 ⟨rfl, hb2⟩; have HX2 := Lib.hid hb2; (obtain ⟨g0, g1, g2, g3, g4⟩ := fl_cells (HE.out _ hb2).1); (obtain ⟨z0, z1⟩ := en_cells (HE.out _ hb2).2); clear hb2) | (go_at_call 22; refine (HVa.out _ HX2.out).mono ?_; rintro e w3 ⟨u, rfl, hit, hb3⟩; clear d0 d1 d2 d3 d4 e0 e1 g0 g1 g2 g3 g4 z0 z1; have HX3 := Lib.hid (bthen HX2.out hb3); (obtain ⟨g0, g1, g2, g3, g4⟩ := fl_cells (HE.out _ HX3.out).1); (obtain ⟨z0, z1⟩ := en_cells (HE.out _ HX3.out).2); (obtain ⟨ua, uc, hu, hum, huc⟩ := hit); (rw [← HMl.out] at hu hum); subst hu; have HUc := Lib.hid huc; have HB3w := Lib.hid hb3; clear hb3 huc))
    go_ret
    exact ⟨by rw [HR3.out]; rfl, bthen HB1.out HX3.out⟩
  · have f1 : decide ((0 : Int) < (m : Int)) = false := by simp; omega
    have f2 : decide (0 < m) = false := by simp; omega
    have HR3 : Hid (R = 0) := Lib.hid (by rw [HR2.out, if_neg hm0])
    go_enter Tryz.func26, Tryz.ntmps26
    go_upto_region 1 with (fail)
    rw [HW0.out, HW1.out, HEb.out]
    go_wp2_with (first | (go_at_call 38; refine (HRu.out _).mono ?_; rintro e w2 ⟨rfl, hb2⟩; have HX2 := Lib.hid hb2; (obtain ⟨g0, g1, g2, g3, g4⟩ := fl_cells (HE.out _ hb2).1); (obtain ⟨z0, z1⟩ := en_cells (HE.out _ hb2).2); clear hb2) | (go_at_call 22; refine (HVa.out _ HX2.out).mono ?_; rintro e w3 ⟨u, rfl, hit, hb3⟩; clear d0 d1 d2 d3 d4 e0 e1 g0 g1 g2 g3 g4 z0 z1; have HX3 := Lib.hid (bthen HX2.out hb3); (obtain ⟨g0, g1, g2, g3, g4⟩ := fl_cells (HE.out _ HX3.out).1); (obtain ⟨z0, z1⟩ := en_cells (HE.out _ HX3.out).2); (obtain ⟨ua, uc, hu, hum, huc⟩ := hit); (rw [← HMl.out] at hu hum); subst hu; have HUc := Lib.hid huc; have HB3w := Lib.hid hb3; clear hb3 huc))
    go_ret
    exact ⟨by rw [HR3.out]; rfl, bthen HB1.out HX3.out⟩
set_option maxRecDepth 100000 in
set_option maxHeartbeats 4000000 in
theorem eqR_any (k : Int) (T X D : ByteArray) (p : List (List UInt8)) (L : List AT) (pa ka va : Option Addr) (n pc kn kc vn vc : Nat) (hT : T.size ≤ 1000000) (hX : X.size ≤ 1000000) (hs : smallA L) (w : World) (h : IsA w.heap.size w L (.slice va vn vc)) (hk : k = 4) (h0 : ruleD T.data.toList ≠ 0) :
    Calls Tryz.prog 26 #[.agg #[.int .i64 k, .string T, .string X, .slice pa n pc, .slice ka kn kc], .agg #[.string D, .slice va vn vc]] w fun e w' => e = .returned (.int .i64 (leafE L k T.data.toList X.data.toList p : Nat)) ∧ Below w.heap.size w w' := by
  obtain ⟨W0, hW0⟩ : ∃ W, W = w.alloc (.cells #[.int .i64 k, .string T, .string X, .slice pa n pc, .slice ka kn kc] 25) := ⟨_, rfl⟩
  obtain ⟨W1, hW1⟩ : ∃ W, W = W0.alloc (.cells #[.string D, .slice va vn vc] 28) := ⟨_, rfl⟩
  have hb0 : Below w.heap.size w W0 := by rw [hW0]; exact box5 w _ _ _ _ _
  have hb01 : Below W0.heap.size W0 W1 := by rw [hW1]; exact (Below.refl _ _).alloc (Nat.le_refl _) _
  have hb1 : Below w.heap.size w W1 := bthen hb0 hb01
  have hf0 : FlAt W0 w.heap.size (.int .i64 k) (.string T) (.string X) (.slice pa n pc) (.slice ka kn kc) := by rw [hW0]; exact heap_alloc_new w _
  have hf : FlAt W1 w.heap.size (.int .i64 k) (.string T) (.string X) (.slice pa n pc) (.slice ka kn kc) := fl_below hf0 hb01 (fl_lt hf0)
  obtain ⟨eb, heb⟩ : ∃ b, b = w.heap.size + 1 := ⟨_, rfl⟩
  have hsz : W0.heap.size = eb := by rw [heb, hW0]; simp only [World.alloc, Array.size_push]
  have he : EnAt W1 eb D (.slice va vn vc) := by rw [← hsz, hW1]; exact heap_alloc_new W0 _
  have hE : ∀ W, Below W1.heap.size W1 W → FlAt W w.heap.size (.int .i64 k) (.string T) (.string X) (.slice pa n pc) (.slice ka kn kc) ∧ EnAt W eb D (.slice va vn vc) := fun W hW => ⟨fl_below hf hW (fl_lt hf), en_below he hW (en_lt he)⟩
  have HE := Lib.hid hE
  have HW0 := Lib.hid hW0.symm
  have HW1 := Lib.hid hW1.symm
  have HEb := Lib.hid heb.symm
  have HB1 := Lib.hid hb1
  obtain ⟨d0, d1, d2, d3, d4⟩ := fl_cells hf
  obtain ⟨e0, e1⟩ := en_cells he
  have HRu := Lib.hid (fun W => ruleRef_any T (by omega) W)
  have HVa := Lib.hid (fun W (hW : Below W1.heap.size W1 W) => valsRef_any D T (by omega) L hs (.slice va vn vc) W (h.below (bthen hb1 hW) (bthen hb1 hW).size))
  obtain ⟨R, hR⟩ : ∃ R, R = leafE L k T.data.toList X.data.toList p := ⟨_, rfl⟩
  rw [← hR]
  obtain ⟨r, hr⟩ : ∃ r, r = ruleD T.data.toList := ⟨_, rfl⟩
  obtain ⟨V, hV⟩ : ∃ V, V = findA L T.data.toList := ⟨_, rfl⟩
  obtain ⟨m, hml⟩ : ∃ m, m = V.length := ⟨_, rfl⟩
  have HVq := Lib.hid hV
  rw [← hV] at HVa
  have HMl := Lib.hid hml
  have HHs := Lib.hid (fun W (hW : Below W1.heap.size W1 W) => hasRef_any D T X (by omega) L hs (.slice va vn vc) W (h.below (bthen hb1 hW) (bthen hb1 hW).size))
  have hno := fun W => normR_at T X (by omega) r hr.symm _ rfl W
  obtain ⟨o, ho⟩ : ∃ o, o = normD r X.data.toList := ⟨_, rfl⟩
  obtain ⟨a, ha⟩ : ∃ a, a = (findA L T.data.toList).any (fun y => sameO (normD (ruleD T.data.toList) y) (normD (ruleD T.data.toList) X.data.toList)) := ⟨_, rfl⟩
  have hR2 : R = if o.isSome then (if a then 1 else 0) else 2 := by rw [hR, leafR_eq L hk, ← hr, ← ho, ha, ← hr, ← ho]
  rw [← ho] at hno
  rw [← ha] at HHs
  obtain ⟨q, hq⟩ : ∃ q, q = o.isSome := ⟨_, rfl⟩
  obtain ⟨S, hS⟩ : ∃ S, S = sB o := ⟨_, rfl⟩
  rw [← hq] at hR2 hno
  rw [← hS] at hno
  rw [← hr] at HRu h0
  have HNo := Lib.hid hno
  have HR2 := Lib.hid hR2
  have t1 : ((k : Int) == 1) = false := by simp [hk]
  have t2 : ((k : Int) == 2) = false := by simp [hk]
  have t3 : ((k : Int) == 3) = false := by simp [hk]
  have t8 : ((k : Int) == 8) = false := by simp [hk]
  have t4 : ((k : Int) == 4) = true := by simp [hk]
  have t0 : ((r : Int) == 0) = false := by simp; omega
  have hfs := field_said1
  clear hW0 hW1 hb0 hb01 hb1 hf0 hf heb hsz he hE hR hs h hr hV hml hk h0 hno hR2 ho ha hq hS
  cases q with
  | false =>
    have HR3 : Hid (R = 2) := Lib.hid (by rw [HR2.out]; rfl)
    go_enter Tryz.func26, Tryz.ntmps26
    go_upto_region 1 with (fail)
    rw [HW0.out, HW1.out, HEb.out]
    go_wp2_with (first | (go_at_call 38; refine (HRu.out _).mono ?_; rintro e w2 ⟨rfl, hb2⟩; have HX2 := Lib.hid hb2; (obtain ⟨g0, g1, g2, g3, g4⟩ := fl_cells (HE.out _ hb2).1); (obtain ⟨z0, z1⟩ := en_cells (HE.out _ hb2).2); clear hb2) | (go_at_call 22; refine (HVa.out _ HX2.out).mono ?_; rintro e w3 ⟨u, rfl, hit, hb3⟩; clear d0 d1 d2 d3 d4 e0 e1 g0 g1 g2 g3 g4 z0 z1; have HX3 := Lib.hid (bthen HX2.out hb3); (obtain ⟨g0, g1, g2, g3, g4⟩ := fl_cells (HE.out _ HX3.out).1); (obtain ⟨z0, z1⟩ := en_cells (HE.out _ HX3.out).2); (obtain ⟨ua, uc, hu, hum, huc⟩ := hit); (rw [← HMl.out] at hu hum); subst hu; have HUc := Lib.hid huc; have HB3w := Lib.hid hb3; clear hb3 huc) | (go_at_call 39; refine (HNo.out _).mono ?_; rintro e w4 ⟨rfl, hb4⟩; have HX4 := Lib.hid (bthen HX3.out hb4); clear hb4))
    go_ret
    exact ⟨by rw [HR3.out]; rfl, bthen HB1.out HX4.out⟩
  | true =>
    cases a
    all_goals
      go_enter Tryz.func26, Tryz.ntmps26
      go_upto_region 1 with (fail)
      rw [HW0.out, HW1.out, HEb.out]
      go_wp2_with (first | (go_at_call 38; refine (HRu.out _).mono ?_; rintro e w2 ⟨rfl, hb2⟩; have HX2 := Lib.hid hb2; (obtain ⟨g0, g1, g2, g3, g4⟩ := fl_cells (HE.out _ hb2).1); (obtain ⟨z0, z1⟩ := en_cells (HE.out _ hb2).2); clear hb2) | (go_at_call 22; refine (HVa.out _ HX2.out).mono ?_; rintro e w3 ⟨u, rfl, hit, hb3⟩; clear d0 d1 d2 d3 d4 e0 e1 g0 g1 g2 g3 g4 z0 z1; have HX3 := Lib.hid (bthen HX2.out hb3); (obtain ⟨g0, g1, g2, g3, g4⟩ := fl_cells (HE.out _ HX3.out).1); (obtain ⟨z0, z1⟩ := en_cells (HE.out _ HX3.out).2); (obtain ⟨ua, uc, hu, hum, huc⟩ := hit); (rw [← HMl.out] at hu hum); subst hu; have HUc := Lib.hid huc; have HB3w := Lib.hid hb3; clear hb3 huc) | (go_at_call 39; refine (HNo.out _).mono ?_; rintro e w4 ⟨rfl, hb4⟩; have HX4 := Lib.hid (bthen HX3.out hb4); clear g0 g1 g2 g3 g4 z0 z1; (obtain ⟨g0, g1, g2, g3, g4⟩ := fl_cells (HE.out _ HX4.out).1); (obtain ⟨z0, z1⟩ := en_cells (HE.out _ HX4.out).2); clear hb4) | (go_at_call 40; refine (HHs.out _ HX4.out).mono ?_; rintro e w5 ⟨rfl, hb5⟩; have HX5 := Lib.hid (bthen HX4.out hb5); clear hb5))
      go_ret
      exact ⟨by rw [HR2.out]; rfl, bthen HB1.out HX5.out⟩
end Go.Proofs.YtdgnefcpeocbjaaGreatDoor


namespace Go.Proofs.YtdgnefcpeocbjaaGreatDoor
open Go.RowKit
set_option linter.unusedVariables false
set_option linter.unusedSimpArgs false

set_option maxRecDepth 100000 in
set_option maxHeartbeats 8000000 in
theorem ord6R_any (k : Int) (T X D : ByteArray) (p : List (List UInt8)) (L : List AT) (pa ka va : Option Addr) (n pc kn kc vn vc : Nat) (hT : T.size ≤ 1000000) (hX : X.size ≤ 1000000) (hs : smallA L) (w : World) (h : IsA w.heap.size w L (.slice va vn vc)) (hk : k = 6) (h0 : ruleD T.data.toList ≠ 0) :
    Calls Tryz.prog 26 #[.agg #[.int .i64 k, .string T, .string X, .slice pa n pc, .slice ka kn kc], .agg #[.string D, .slice va vn vc]] w fun e w' => e = .returned (.int .i64 (leafE L k T.data.toList X.data.toList p : Nat)) ∧ Below w.heap.size w w' := by
  obtain ⟨W0, hW0⟩ : ∃ W, W = w.alloc (.cells #[.int .i64 k, .string T, .string X, .slice pa n pc, .slice ka kn kc] 25) := ⟨_, rfl⟩
  obtain ⟨W1, hW1⟩ : ∃ W, W = W0.alloc (.cells #[.string D, .slice va vn vc] 28) := ⟨_, rfl⟩
  have hb0 : Below w.heap.size w W0 := by rw [hW0]; exact box5 w _ _ _ _ _
  have hb01 : Below W0.heap.size W0 W1 := by rw [hW1]; exact (Below.refl _ _).alloc (Nat.le_refl _) _
  have hb1 : Below w.heap.size w W1 := bthen hb0 hb01
  have hf0 : FlAt W0 w.heap.size (.int .i64 k) (.string T) (.string X) (.slice pa n pc) (.slice ka kn kc) := by rw [hW0]; exact heap_alloc_new w _
  have hf : FlAt W1 w.heap.size (.int .i64 k) (.string T) (.string X) (.slice pa n pc) (.slice ka kn kc) := fl_below hf0 hb01 (fl_lt hf0)
  obtain ⟨eb, heb⟩ : ∃ b, b = w.heap.size + 1 := ⟨_, rfl⟩
  have hsz : W0.heap.size = eb := by rw [heb, hW0]; simp only [World.alloc, Array.size_push]
  have he : EnAt W1 eb D (.slice va vn vc) := by rw [← hsz, hW1]; exact heap_alloc_new W0 _
  have hE : ∀ W, Below W1.heap.size W1 W → FlAt W w.heap.size (.int .i64 k) (.string T) (.string X) (.slice pa n pc) (.slice ka kn kc) ∧ EnAt W eb D (.slice va vn vc) := fun W hW => ⟨fl_below hf hW (fl_lt hf), en_below he hW (en_lt he)⟩
  have HE := Lib.hid hE
  have HW0 := Lib.hid hW0.symm
  have HW1 := Lib.hid hW1.symm
  have HEb := Lib.hid heb.symm
  have HB1 := Lib.hid hb1
  obtain ⟨d0, d1, d2, d3, d4⟩ := fl_cells hf
  obtain ⟨e0, e1⟩ := en_cells he
  have HRu := Lib.hid (fun W => ruleRef_any T (by omega) W)
  have HVa := Lib.hid (fun W (hW : Below W1.heap.size W1 W) => valsRef_any D T (by omega) L hs (.slice va vn vc) W (h.below (bthen hb1 hW) (bthen hb1 hW).size))
  obtain ⟨R, hR⟩ : ∃ R, R = leafE L k T.data.toList X.data.toList p := ⟨_, rfl⟩
  rw [← hR]
  obtain ⟨r, hr⟩ : ∃ r, r = ruleD T.data.toList := ⟨_, rfl⟩
  obtain ⟨V, hV⟩ : ∃ V, V = findA L T.data.toList := ⟨_, rfl⟩
  obtain ⟨m, hml⟩ : ∃ m, m = V.length := ⟨_, rfl⟩
  have HVq := Lib.hid hV
  rw [← hV] at HVa
  have HMl := Lib.hid hml
  have hl0 := fun W => lessRefFl_any T X X (by omega) (by omega) (by omega) W
  have hlv := fun (Y : ByteArray) (hY : Y.size ≤ 1000000) W => lessRefFl_any T Y X (by omega) (by omega) (by omega) W
  have hlw := fun (Y : ByteArray) (hY : Y.size ≤ 1000000) W => lessRefFl_any T X Y (by omega) (by omega) (by omega) W
  have hsh : ∀ y ∈ V, y.length ≤ 1000000 := by rw [hV]; exact findA_short hs
  have hR2 : R = if (lessD r X.data.toList X.data.toList).isSome then (if V.any (fun v => ordR k r X.data.toList v == some false) then 1 else 0) else 2 := by rw [hR, leafR_ord L (by omega), ← hr, ← hV]
  simp only [lessV_two, ← hr] at hl0 hlv hlw
  rw [← hr] at HRu h0
  obtain ⟨P, hP⟩ : ∃ P : List UInt8 → Bool, P = fun v => ordR k r X.data.toList v == some false := ⟨_, rfl⟩
  have hPv : ∀ v, P v = (lessD r v X.data.toList == some false) := fun v => by rw [hP]; simp only [ordR]; rw [if_neg (by omega)]
  have HPv := Lib.hid hPv
  rw [← hP] at hR2
  obtain ⟨q, hq⟩ : ∃ q, q = (lessD r X.data.toList X.data.toList).isSome := ⟨_, rfl⟩
  obtain ⟨q1, hq1⟩ : ∃ q, q = (lessD r X.data.toList X.data.toList == some true) := ⟨_, rfl⟩
  rw [← hq] at hR2 hl0
  rw [← hq1] at hl0
  have HL0 := Lib.hid hl0
  have HLv := Lib.hid hlv
  have HLw := Lib.hid hlw
  have HSh := Lib.hid hsh
  have HR2 := Lib.hid hR2
  have t1 : ((k : Int) == 1) = false := by simp [hk]
  have t2 : ((k : Int) == 2) = false := by simp [hk]
  have t3 : ((k : Int) == 3) = false := by simp [hk]
  have t8 : ((k : Int) == 8) = false := by simp [hk]
  have t4 : ((k : Int) == 4) = false := by simp [hk]
  have t6 : ((k : Int) == 6) = true := by simp [hk]
  have t7 : ((k : Int) == 7) = false := by simp [hk]
  have t0 : ((r : Int) == 0) = false := by simp; omega
  clear hW0 hW1 hb0 hb01 hb1 hf0 hf heb hsz he hE hR hs h hr hV hml hk h0 hl0 hlv hlw hsh hR2 hP hPv hq hq1
  cases q with
  | false =>
    have HR3 : Hid (R = 2) := Lib.hid (by rw [HR2.out]; rfl)
    go_enter Tryz.func26, Tryz.ntmps26
    go_upto_region 1 with (fail)
    rw [HW0.out, HW1.out, HEb.out]
    go_wp2_with (first | (go_at_call 38; refine (HRu.out _).mono ?_; rintro e w2 ⟨rfl, hb2⟩; have HX2 := Lib.hid hb2; (obtain ⟨g0, g1, g2, g3, g4⟩ := fl_cells (HE.out _ hb2).1); (obtain ⟨z0, z1⟩ := en_cells (HE.out _ hb2).2); clear hb2) | (go_at_call 22; refine (HVa.out _ HX2.out).mono ?_; rintro e w3 ⟨u, rfl, hit, hb3⟩; clear d0 d1 d2 d3 d4 e0 e1 g0 g1 g2 g3 g4 z0 z1; have HX3 := Lib.hid (bthen HX2.out hb3); (obtain ⟨g0, g1, g2, g3, g4⟩ := fl_cells (HE.out _ HX3.out).1); (obtain ⟨z0, z1⟩ := en_cells (HE.out _ HX3.out).2); (obtain ⟨ua, uc, hu, hum, huc⟩ := hit); (rw [← HMl.out] at hu hum); subst hu; have HUc := Lib.hid huc; have HB3w := Lib.hid hb3; clear hb3 huc) | (go_at_call 41; refine (HL0.out _).mono ?_; rintro e w4 ⟨rfl, hb4⟩; clear g0 g1 g2 g3 g4 z0 z1; have HX4 := Lib.hid (bthen HX3.out hb4); (obtain ⟨g0, g1, g2, g3, g4⟩ := fl_cells (HE.out _ HX4.out).1); (obtain ⟨z0, z1⟩ := en_cells (HE.out _ HX4.out).2); have HY4 := Lib.hid hb4; clear hb4))
    go_ret
    exact ⟨by rw [HR3.out]; rfl, bthen HB1.out HX4.out⟩
  | true =>
    go_enter Tryz.func26, Tryz.ntmps26
    go_upto_region 1 with (fail)
    rw [HW0.out, HW1.out, HEb.out]
    go_wp2_with (first | (go_at_call 38; refine (HRu.out _).mono ?_; rintro e w2 ⟨rfl, hb2⟩; have HX2 := Lib.hid hb2; (obtain ⟨g0, g1, g2, g3, g4⟩ := fl_cells (HE.out _ hb2).1); (obtain ⟨z0, z1⟩ := en_cells (HE.out _ hb2).2); clear hb2) | (go_at_call 22; refine (HVa.out _ HX2.out).mono ?_; rintro e w3 ⟨u, rfl, hit, hb3⟩; clear d0 d1 d2 d3 d4 e0 e1 g0 g1 g2 g3 g4 z0 z1; have HX3 := Lib.hid (bthen HX2.out hb3); (obtain ⟨g0, g1, g2, g3, g4⟩ := fl_cells (HE.out _ HX3.out).1); (obtain ⟨z0, z1⟩ := en_cells (HE.out _ HX3.out).2); (obtain ⟨ua, uc, hu, hum, huc⟩ := hit); (rw [← HMl.out] at hu hum); subst hu; have HUc := Lib.hid huc; have HB3w := Lib.hid hb3; clear hb3 huc) | (go_at_call 41; refine (HL0.out _).mono ?_; rintro e w4 ⟨rfl, hb4⟩; clear g0 g1 g2 g3 g4 z0 z1; have HX4 := Lib.hid (bthen HX3.out hb4); (obtain ⟨g0, g1, g2, g3, g4⟩ := fl_cells (HE.out _ HX4.out).1); (obtain ⟨z0, z1⟩ := en_cells (HE.out _ HX4.out).2); have HY4 := Lib.hid hb4; clear hb4))
    unfold maxLen at hum
    go_loopw [10, 13] (fun f i wr => ∃ (j : Nat) (a : Bool), j ≤ m ∧ i = .int .i64 j ∧ f = .bool a ∧ Hid (a = (V.take j).any P) ∧ Below w3.heap.size w3 wr) (fun _ i _ => m - (intOf i).toNat)
    case atStart => exact ⟨0, false, by omega, rfl, rfl, Lib.hid rfl, HY4.out⟩
    case round =>
      obtain ⟨j, a, hj, rfl, rfl, HA, hbel⟩ := hrel
      rename World => wr
      have HBr := Lib.hid hbel
      clear g0 g1 g2 g3 g4 z0 z1
      obtain ⟨g0, g1, g2, g3, g4⟩ := fl_cells (HE.out _ (bthen HX3.out hbel)).1
      by_cases hlt : j < m
      · have u1 : decide ((j : Int) < (m : Int)) = true := by simp; omega
        have u2 : decide (j < m) = true := by simpa using hlt
        have hjV : j < V.length := by rw [← HMl.out]; exact hlt
        have u3 : IntKind.i64.wrap ((j : Int) + 1) = (j : Int) + 1 := IntWalk.i64_in _ (by omega)
        obtain ⟨b, off, rfl, hb0, c0⟩ := HUc.out j hjV
        obtain ⟨Y, hY⟩ : ∃ Y : ByteArray, ⟨V[j].toArray⟩ = Y := ⟨_, rfl⟩
        have hYl : Y.data.toList = V[j] := by rw [← hY]
        have hYs : Y.size ≤ 1000000 := by rw [← bytes_len, hYl]; exact HSh.out _ (List.getElem_mem _)
        have hcell : ∀ W, Below w3.heap.size w3 W → W.cell? ⟨b, off + j, none⟩ = some (.string Y) := fun W hW => by
          rw [hW.cell (p := ⟨b, _, none⟩) (Nat.lt_of_lt_of_le hb0 HB3w.out.size), HB3w.out.cell (p := ⟨b, _, none⟩) hb0, c0, ← hY]; rfl
        have d9 := hcell _ hbel
        obtain ⟨q, hq⟩ : ∃ q, q = lessD r Y.data.toList X.data.toList := ⟨_, rfl⟩
        have hqb : (q == some false) = (q.isSome && !(q == some true)) := by cases q with | none => rfl | some b => cases b <;> rfl
        have hnx : (V.take (j + 1)).any P = (a || (q.isSome && !(q == some true))) := by rw [anyR_next hjV, ← HA.out, HPv.out, ← hqb, hq, hYl]
        have hla := fun W => HLv.out Y hYs W
        rw [← hq] at hla
        generalize q.isSome = b2 at hla hnx
        generalize (q == some true) = b1 at hla hnx
        have HNx := Lib.hid hnx
        have HLa := Lib.hid hla
        clear hnx hla hq hqb hYl hY c0 hb0 hjV hbel HA HLv HLw
        have hE2 : ∀ W, SamB wr W → W.cell? ⟨w.heap.size, 1, none⟩ = some (.string T) ∧ W.cell? ⟨w.heap.size, 2, none⟩ = some (.string X) ∧ W.cell? ⟨b, off + j, none⟩ = some (.string Y) ∧ SamB wr W := fun W hW => by
          have hc := fl_cells (HE.out _ (bthen HX3.out (bthen HBr.out hW))).1
          exact ⟨hc.2.1, hc.2.2.1, hcell _ (bthen HBr.out hW), hW⟩
        have HE2 := Lib.hid hE2
        have hst5 := hE2 wr (Below.refl _ _)
        have hst6 := hE2 wr.drew (Below.drew (Below.refl _ _))
        clear hE2 hcell
        go_upto_region 45 with (fail)
        go_region_held3 (fun W => W.cell? ⟨w.heap.size, 1, none⟩ = some (.string T) ∧ W.cell? ⟨w.heap.size, 2, none⟩ = some (.string X) ∧ W.cell? ⟨b, off + j, none⟩ = some (.string Y) ∧ SamB wr W)
          (first | (with_reducible exact hst5) | (with_reducible exact hst6) | (go_split_ands; exact HE2.out _ (SamB.go (by assumption) hbx)))
          (first | (go_at_call 41; go_split_ands; (with_reducible refine (HLa.out _).mono ?_); rintro e wx ⟨rfl, hbx⟩))
        all_goals
          go_split_ands
          have hTx : SamB wr wx := by assumption
          have HTx := Lib.hid hTx
          clear g0 g1 g2 g3 g4
          obtain ⟨g0, g1, g2, g3, g4⟩ := fl_cells (HE.out _ (bthen HX3.out (bthen HBr.out hTx))).1
          have HX9 := Lib.hid (bthen HBr.out hTx)
          cases a
          · cases b2
            · go_wp2
              go_roundw
              case rel => exact ⟨j + 1, _, by omega, by go_num, rfl, Lib.hid (by rw [HNx.out]; rfl), HX9.out⟩
              case measure => simp [intOf]; omega
            · cases b1
              · go_wp2
                go_roundw
                case rel => exact ⟨j + 1, _, by omega, by go_num, rfl, Lib.hid (by rw [HNx.out]; rfl), HX9.out⟩
                case measure => simp [intOf]; omega
              · go_wp2
                go_roundw
                case rel => exact ⟨j + 1, _, by omega, by go_num, rfl, Lib.hid (by rw [HNx.out]; rfl), HX9.out⟩
                case measure => simp [intOf]; omega
          · go_wp2
            go_roundw
            case rel => exact ⟨j + 1, _, by omega, by go_num, rfl, Lib.hid (by rw [HNx.out]; rfl), HX9.out⟩
            case measure => simp [intOf]; omega
      · obtain rfl : j = m := by omega
        have u1 : decide ((j : Int) < (j : Int)) = false := by simp
        have u2 : decide (j < j) = false := by simp
        have HRa : Hid (R = if a then 1 else 0) := Lib.hid (by rw [HR2.out, HA.out, List.take_of_length_le (by rw [HMl.out]; exact Nat.le_refl _)]; rfl)
        clear hlt hbel
        cases a
        all_goals
          go_wp2
          go_ret
          exact ⟨by rw [HRa.out]; rfl, bthen HB1.out (bthen HX3.out HBr.out)⟩
set_option maxRecDepth 100000 in
set_option maxHeartbeats 8000000 in
theorem ord7R_any (k : Int) (T X D : ByteArray) (p : List (List UInt8)) (L : List AT) (pa ka va : Option Addr) (n pc kn kc vn vc : Nat) (hT : T.size ≤ 1000000) (hX : X.size ≤ 1000000) (hs : smallA L) (w : World) (h : IsA w.heap.size w L (.slice va vn vc)) (hk : k = 7) (h0 : ruleD T.data.toList ≠ 0) :
    Calls Tryz.prog 26 #[.agg #[.int .i64 k, .string T, .string X, .slice pa n pc, .slice ka kn kc], .agg #[.string D, .slice va vn vc]] w fun e w' => e = .returned (.int .i64 (leafE L k T.data.toList X.data.toList p : Nat)) ∧ Below w.heap.size w w' := by
  obtain ⟨W0, hW0⟩ : ∃ W, W = w.alloc (.cells #[.int .i64 k, .string T, .string X, .slice pa n pc, .slice ka kn kc] 25) := ⟨_, rfl⟩
  obtain ⟨W1, hW1⟩ : ∃ W, W = W0.alloc (.cells #[.string D, .slice va vn vc] 28) := ⟨_, rfl⟩
  have hb0 : Below w.heap.size w W0 := by rw [hW0]; exact box5 w _ _ _ _ _
  have hb01 : Below W0.heap.size W0 W1 := by rw [hW1]; exact (Below.refl _ _).alloc (Nat.le_refl _) _
  have hb1 : Below w.heap.size w W1 := bthen hb0 hb01
  have hf0 : FlAt W0 w.heap.size (.int .i64 k) (.string T) (.string X) (.slice pa n pc) (.slice ka kn kc) := by rw [hW0]; exact heap_alloc_new w _
  have hf : FlAt W1 w.heap.size (.int .i64 k) (.string T) (.string X) (.slice pa n pc) (.slice ka kn kc) := fl_below hf0 hb01 (fl_lt hf0)
  obtain ⟨eb, heb⟩ : ∃ b, b = w.heap.size + 1 := ⟨_, rfl⟩
  have hsz : W0.heap.size = eb := by rw [heb, hW0]; simp only [World.alloc, Array.size_push]
  have he : EnAt W1 eb D (.slice va vn vc) := by rw [← hsz, hW1]; exact heap_alloc_new W0 _
  have hE : ∀ W, Below W1.heap.size W1 W → FlAt W w.heap.size (.int .i64 k) (.string T) (.string X) (.slice pa n pc) (.slice ka kn kc) ∧ EnAt W eb D (.slice va vn vc) := fun W hW => ⟨fl_below hf hW (fl_lt hf), en_below he hW (en_lt he)⟩
  have HE := Lib.hid hE
  have HW0 := Lib.hid hW0.symm
  have HW1 := Lib.hid hW1.symm
  have HEb := Lib.hid heb.symm
  have HB1 := Lib.hid hb1
  obtain ⟨d0, d1, d2, d3, d4⟩ := fl_cells hf
  obtain ⟨e0, e1⟩ := en_cells he
  have HRu := Lib.hid (fun W => ruleRef_any T (by omega) W)
  have HVa := Lib.hid (fun W (hW : Below W1.heap.size W1 W) => valsRef_any D T (by omega) L hs (.slice va vn vc) W (h.below (bthen hb1 hW) (bthen hb1 hW).size))
  obtain ⟨R, hR⟩ : ∃ R, R = leafE L k T.data.toList X.data.toList p := ⟨_, rfl⟩
  rw [← hR]
  obtain ⟨r, hr⟩ : ∃ r, r = ruleD T.data.toList := ⟨_, rfl⟩
  obtain ⟨V, hV⟩ : ∃ V, V = findA L T.data.toList := ⟨_, rfl⟩
  obtain ⟨m, hml⟩ : ∃ m, m = V.length := ⟨_, rfl⟩
  have HVq := Lib.hid hV
  rw [← hV] at HVa
  have HMl := Lib.hid hml
  have hl0 := fun W => lessRefFl_any T X X (by omega) (by omega) (by omega) W
  have hlv := fun (Y : ByteArray) (hY : Y.size ≤ 1000000) W => lessRefFl_any T Y X (by omega) (by omega) (by omega) W
  have hlw := fun (Y : ByteArray) (hY : Y.size ≤ 1000000) W => lessRefFl_any T X Y (by omega) (by omega) (by omega) W
  have hsh : ∀ y ∈ V, y.length ≤ 1000000 := by rw [hV]; exact findA_short hs
  have hR2 : R = if (lessD r X.data.toList X.data.toList).isSome then (if V.any (fun v => ordR k r X.data.toList v == some false) then 1 else 0) else 2 := by rw [hR, leafR_ord L (by omega), ← hr, ← hV]
  simp only [lessV_two, ← hr] at hl0 hlv hlw
  rw [← hr] at HRu h0
  obtain ⟨P, hP⟩ : ∃ P : List UInt8 → Bool, P = fun v => ordR k r X.data.toList v == some false := ⟨_, rfl⟩
  have hPv : ∀ v, P v = (lessD r X.data.toList v == some false) := fun v => by rw [hP]; simp only [ordR]; rw [if_pos hk]
  have HPv := Lib.hid hPv
  rw [← hP] at hR2
  obtain ⟨q, hq⟩ : ∃ q, q = (lessD r X.data.toList X.data.toList).isSome := ⟨_, rfl⟩
  obtain ⟨q1, hq1⟩ : ∃ q, q = (lessD r X.data.toList X.data.toList == some true) := ⟨_, rfl⟩
  rw [← hq] at hR2 hl0
  rw [← hq1] at hl0
  have HL0 := Lib.hid hl0
  have HLv := Lib.hid hlv
  have HLw := Lib.hid hlw
  have HSh := Lib.hid hsh
  have HR2 := Lib.hid hR2
  have t1 : ((k : Int) == 1) = false := by simp [hk]
  have t2 : ((k : Int) == 2) = false := by simp [hk]
  have t3 : ((k : Int) == 3) = false := by simp [hk]
  have t8 : ((k : Int) == 8) = false := by simp [hk]
  have t4 : ((k : Int) == 4) = false := by simp [hk]
  have t6 : ((k : Int) == 6) = false := by simp [hk]
  have t7 : ((k : Int) == 7) = true := by simp [hk]
  have t0 : ((r : Int) == 0) = false := by simp; omega
  clear hW0 hW1 hb0 hb01 hb1 hf0 hf heb hsz he hE hR hs h hr hV hml hk h0 hl0 hlv hlw hsh hR2 hP hPv hq hq1
  cases q with
  | false =>
    have HR3 : Hid (R = 2) := Lib.hid (by rw [HR2.out]; rfl)
    go_enter Tryz.func26, Tryz.ntmps26
    go_upto_region 1 with (fail)
    rw [HW0.out, HW1.out, HEb.out]
    go_wp2_with (first | (go_at_call 38; refine (HRu.out _).mono ?_; rintro e w2 ⟨rfl, hb2⟩; have HX2 := Lib.hid hb2; (obtain ⟨g0, g1, g2, g3, g4⟩ := fl_cells (HE.out _ hb2).1); (obtain ⟨z0, z1⟩ := en_cells (HE.out _ hb2).2); clear hb2) | (go_at_call 22; refine (HVa.out _ HX2.out).mono ?_; rintro e w3 ⟨u, rfl, hit, hb3⟩; clear d0 d1 d2 d3 d4 e0 e1 g0 g1 g2 g3 g4 z0 z1; have HX3 := Lib.hid (bthen HX2.out hb3); (obtain ⟨g0, g1, g2, g3, g4⟩ := fl_cells (HE.out _ HX3.out).1); (obtain ⟨z0, z1⟩ := en_cells (HE.out _ HX3.out).2); (obtain ⟨ua, uc, hu, hum, huc⟩ := hit); (rw [← HMl.out] at hu hum); subst hu; have HUc := Lib.hid huc; have HB3w := Lib.hid hb3; clear hb3 huc) | (go_at_call 41; refine (HL0.out _).mono ?_; rintro e w4 ⟨rfl, hb4⟩; clear g0 g1 g2 g3 g4 z0 z1; have HX4 := Lib.hid (bthen HX3.out hb4); (obtain ⟨g0, g1, g2, g3, g4⟩ := fl_cells (HE.out _ HX4.out).1); (obtain ⟨z0, z1⟩ := en_cells (HE.out _ HX4.out).2); have HY4 := Lib.hid hb4; clear hb4))
    go_ret
    exact ⟨by rw [HR3.out]; rfl, bthen HB1.out HX4.out⟩
  | true =>
    go_enter Tryz.func26, Tryz.ntmps26
    go_upto_region 1 with (fail)
    rw [HW0.out, HW1.out, HEb.out]
    go_wp2_with (first | (go_at_call 38; refine (HRu.out _).mono ?_; rintro e w2 ⟨rfl, hb2⟩; have HX2 := Lib.hid hb2; (obtain ⟨g0, g1, g2, g3, g4⟩ := fl_cells (HE.out _ hb2).1); (obtain ⟨z0, z1⟩ := en_cells (HE.out _ hb2).2); clear hb2) | (go_at_call 22; refine (HVa.out _ HX2.out).mono ?_; rintro e w3 ⟨u, rfl, hit, hb3⟩; clear d0 d1 d2 d3 d4 e0 e1 g0 g1 g2 g3 g4 z0 z1; have HX3 := Lib.hid (bthen HX2.out hb3); (obtain ⟨g0, g1, g2, g3, g4⟩ := fl_cells (HE.out _ HX3.out).1); (obtain ⟨z0, z1⟩ := en_cells (HE.out _ HX3.out).2); (obtain ⟨ua, uc, hu, hum, huc⟩ := hit); (rw [← HMl.out] at hu hum); subst hu; have HUc := Lib.hid huc; have HB3w := Lib.hid hb3; clear hb3 huc) | (go_at_call 41; refine (HL0.out _).mono ?_; rintro e w4 ⟨rfl, hb4⟩; clear g0 g1 g2 g3 g4 z0 z1; have HX4 := Lib.hid (bthen HX3.out hb4); (obtain ⟨g0, g1, g2, g3, g4⟩ := fl_cells (HE.out _ HX4.out).1); (obtain ⟨z0, z1⟩ := en_cells (HE.out _ HX4.out).2); have HY4 := Lib.hid hb4; clear hb4))
    unfold maxLen at hum
    go_loopw [10, 13] (fun f i wr => ∃ (j : Nat) (a : Bool), j ≤ m ∧ i = .int .i64 j ∧ f = .bool a ∧ Hid (a = (V.take j).any P) ∧ Below w3.heap.size w3 wr) (fun _ i _ => m - (intOf i).toNat)
    case atStart => exact ⟨0, false, by omega, rfl, rfl, Lib.hid rfl, HY4.out⟩
    case round =>
      obtain ⟨j, a, hj, rfl, rfl, HA, hbel⟩ := hrel
      rename World => wr
      have HBr := Lib.hid hbel
      clear g0 g1 g2 g3 g4 z0 z1
      obtain ⟨g0, g1, g2, g3, g4⟩ := fl_cells (HE.out _ (bthen HX3.out hbel)).1
      by_cases hlt : j < m
      · have u1 : decide ((j : Int) < (m : Int)) = true := by simp; omega
        have u2 : decide (j < m) = true := by simpa using hlt
        have hjV : j < V.length := by rw [← HMl.out]; exact hlt
        have u3 : IntKind.i64.wrap ((j : Int) + 1) = (j : Int) + 1 := IntWalk.i64_in _ (by omega)
        obtain ⟨b, off, rfl, hb0, c0⟩ := HUc.out j hjV
        obtain ⟨Y, hY⟩ : ∃ Y : ByteArray, ⟨V[j].toArray⟩ = Y := ⟨_, rfl⟩
        have hYl : Y.data.toList = V[j] := by rw [← hY]
        have hYs : Y.size ≤ 1000000 := by rw [← bytes_len, hYl]; exact HSh.out _ (List.getElem_mem _)
        have hcell : ∀ W, Below w3.heap.size w3 W → W.cell? ⟨b, off + j, none⟩ = some (.string Y) := fun W hW => by
          rw [hW.cell (p := ⟨b, _, none⟩) (Nat.lt_of_lt_of_le hb0 HB3w.out.size), HB3w.out.cell (p := ⟨b, _, none⟩) hb0, c0, ← hY]; rfl
        have d9 := hcell _ hbel
        obtain ⟨q, hq⟩ : ∃ q, q = lessD r X.data.toList Y.data.toList := ⟨_, rfl⟩
        have hqb : (q == some false) = (q.isSome && !(q == some true)) := by cases q with | none => rfl | some b => cases b <;> rfl
        have hnx : (V.take (j + 1)).any P = (a || (q.isSome && !(q == some true))) := by rw [anyR_next hjV, ← HA.out, HPv.out, ← hqb, hq, hYl]
        have hla := fun W => HLw.out Y hYs W
        rw [← hq] at hla
        generalize q.isSome = b2 at hla hnx
        generalize (q == some true) = b1 at hla hnx
        have HNx := Lib.hid hnx
        have HLa := Lib.hid hla
        have hlz := fun W => HLv.out Y hYs W
        generalize (lessD r Y.data.toList X.data.toList == some true) = z1 at hlz
        generalize (lessD r Y.data.toList X.data.toList).isSome = z2 at hlz
        have HLz := Lib.hid hlz
        clear hlz
        clear hnx hla hq hqb hYl hY c0 hb0 hjV hbel HA HLv HLw
        have hE2 : ∀ W, SamB wr W → W.cell? ⟨w.heap.size, 1, none⟩ = some (.string T) ∧ W.cell? ⟨w.heap.size, 2, none⟩ = some (.string X) ∧ W.cell? ⟨b, off + j, none⟩ = some (.string Y) ∧ SamB wr W := fun W hW => by
          have hc := fl_cells (HE.out _ (bthen HX3.out (bthen HBr.out hW))).1
          exact ⟨hc.2.1, hc.2.2.1, hcell _ (bthen HBr.out hW), hW⟩
        have HE2 := Lib.hid hE2
        have hst5 := hE2 wr (Below.refl _ _)
        have hst6 := hE2 wr.drew (Below.drew (Below.refl _ _))
        clear hE2 hcell
        go_upto_region 45 with (fail)
        go_region_held3 (fun W => W.cell? ⟨w.heap.size, 1, none⟩ = some (.string T) ∧ W.cell? ⟨w.heap.size, 2, none⟩ = some (.string X) ∧ W.cell? ⟨b, off + j, none⟩ = some (.string Y) ∧ SamB wr W)
          (first | (with_reducible exact hst5) | (with_reducible exact hst6) | (go_split_ands; exact HE2.out _ (SamB.go (by assumption) hbx)))
          (first | (go_at_call 41; go_split_ands; (with_reducible refine (HLz.out _).mono ?_); rintro e wx ⟨rfl, hbx⟩))
        all_goals
          go_split_ands
          have hTx : SamB wr wx := by assumption
          have HTx := Lib.hid hTx
          clear g0 g1 g2 g3 g4
          obtain ⟨g0, g1, g2, g3, g4⟩ := fl_cells (HE.out _ (bthen HX3.out (bthen HBr.out hTx))).1
          have hst7 := HE2.out wx hTx
          have hst8 := HE2.out wx.drew (Below.drew hTx)
          go_upto_region 47 with (fail)
          go_region_held3 (fun W => W.cell? ⟨w.heap.size, 1, none⟩ = some (.string T) ∧ W.cell? ⟨w.heap.size, 2, none⟩ = some (.string X) ∧ W.cell? ⟨b, off + j, none⟩ = some (.string Y) ∧ SamB wr W)
            (first | (with_reducible exact hst7) | (with_reducible exact hst8) | (go_split_ands; exact HE2.out _ (SamB.go (by assumption) hby)))
            (first | (go_at_call 41; go_split_ands; (with_reducible refine (HLa.out _).mono ?_); rintro e wy ⟨rfl, hby⟩))
          all_goals
            go_split_ands
            have hTy : SamB wr wy := by assumption
            have HTy := Lib.hid hTy
            clear g0 g1 g2 g3 g4
            obtain ⟨g0, g1, g2, g3, g4⟩ := fl_cells (HE.out _ (bthen HX3.out (bthen HBr.out hTy))).1
            have HX9 := Lib.hid (bthen HBr.out hTy)
            cases a
            · cases b2
              · go_wp2
                go_roundw
                case rel => exact ⟨j + 1, _, by omega, by go_num, rfl, Lib.hid (by rw [HNx.out]; rfl), HX9.out⟩
                case measure => simp [intOf]; omega
              · cases b1
                · go_wp2
                  go_roundw
                  case rel => exact ⟨j + 1, _, by omega, by go_num, rfl, Lib.hid (by rw [HNx.out]; rfl), HX9.out⟩
                  case measure => simp [intOf]; omega
                · go_wp2
                  go_roundw
                  case rel => exact ⟨j + 1, _, by omega, by go_num, rfl, Lib.hid (by rw [HNx.out]; rfl), HX9.out⟩
                  case measure => simp [intOf]; omega
            · go_wp2
              go_roundw
              case rel => exact ⟨j + 1, _, by omega, by go_num, rfl, Lib.hid (by rw [HNx.out]; rfl), HX9.out⟩
              case measure => simp [intOf]; omega
      · obtain rfl : j = m := by omega
        have u1 : decide ((j : Int) < (j : Int)) = false := by simp
        have u2 : decide (j < j) = false := by simp
        have HRa : Hid (R = if a then 1 else 0) := Lib.hid (by rw [HR2.out, HA.out, List.take_of_length_le (by rw [HMl.out]; exact Nat.le_refl _)]; rfl)
        clear hlt hbel
        cases a
        all_goals
          go_wp2
          go_ret
          exact ⟨by rw [HRa.out]; rfl, bthen HB1.out (bthen HX3.out HBr.out)⟩
end Go.Proofs.YtdgnefcpeocbjaaGreatDoor


namespace Go.Proofs.YtdgnefcpeocbjaaGreatDoor
open Go.RowKit
set_option linter.unusedVariables false
set_option linter.unusedSimpArgs false

def EvRIs (d : Nat) : Prop := ∀ (f : FT) (v : Value) (L : List AT) (D : ByteArray) (va : Option Addr) (vn vc : Nat) (w : World), mayF d f = true → IsFl (Lt w) w f v → smallA L → IsA w.heap.size w L (.slice va vn vc) →
  Calls Tryz.prog 26 #[v, .agg #[.string D, .slice va vn vc]] w fun e w' => e = .returned (.int .i64 (evF L f : Nat)) ∧ Below w.heap.size w w'
set_option maxRecDepth 100000 in
set_option maxHeartbeats 8000000 in
theorem kids1R_any (d : Nat) (ih : EvRIs d) (k : Int) (T X D : ByteArray) (l : List FT) (L : List AT) (pa ka va : Option Addr) (n pn pc kc vn vc : Nat) (hn : n = l.length) (hln : n ≤ 1000) (hs : smallA L) (w : World) (h : IsA w.heap.size w L (.slice va vn vc)) (hl : l.all (mayF d) = true) (hk1 : IsFls (Lt w) w l ka 0) (hk : k = 1) :
    Calls Tryz.prog 26 #[.agg #[.int .i64 k, .string T, .string X, .slice pa pn pc, .slice ka n kc], .agg #[.string D, .slice va vn vc]] w fun e w' => e = .returned (.int .i64 (firstE 0 2 1 (evFs L l) : Nat)) ∧ Below w.heap.size w w' := by
  obtain ⟨W0, hW0⟩ : ∃ W, W = w.alloc (.cells #[.int .i64 k, .string T, .string X, .slice pa pn pc, .slice ka n kc] 25) := ⟨_, rfl⟩
  obtain ⟨W1, hW1⟩ : ∃ W, W = W0.alloc (.cells #[.string D, .slice va vn vc] 28) := ⟨_, rfl⟩
  have hb0 : Below w.heap.size w W0 := by rw [hW0]; exact box5 w _ _ _ _ _
  have hb01 : Below W0.heap.size W0 W1 := by rw [hW1]; exact (Below.refl _ _).alloc (Nat.le_refl _) _
  have hb1 : Below w.heap.size w W1 := bthen hb0 hb01
  have hf0 : FlAt W0 w.heap.size (.int .i64 k) (.string T) (.string X) (.slice pa pn pc) (.slice ka n kc) := by rw [hW0]; exact heap_alloc_new w _
  have hf : FlAt W1 w.heap.size (.int .i64 k) (.string T) (.string X) (.slice pa pn pc) (.slice ka n kc) := fl_below hf0 hb01 (fl_lt hf0)
  obtain ⟨eb, heb⟩ : ∃ b, b = w.heap.size + 1 := ⟨_, rfl⟩
  have hsz : W0.heap.size = eb := by rw [heb, hW0]; simp only [World.alloc, Array.size_push]
  have he : EnAt W1 eb D (.slice va vn vc) := by rw [← hsz, hW1]; exact heap_alloc_new W0 _
  have hE : ∀ W, Below W1.heap.size W1 W → FlAt W w.heap.size (.int .i64 k) (.string T) (.string X) (.slice pa pn pc) (.slice ka n kc) ∧ EnAt W eb D (.slice va vn vc) := fun W hW => ⟨fl_below hf hW (fl_lt hf), en_below he hW (en_lt he)⟩
  have HE := Lib.hid hE
  have HW0 := Lib.hid hW0.symm
  have HW1 := Lib.hid hW1.symm
  have HEb := Lib.hid heb.symm
  have HB1 := Lib.hid hb1
  obtain ⟨d0, d1, d2, d3, d4⟩ := fl_cells hf
  obtain ⟨e0, e1⟩ := en_cells he
  have HIh := Lib.hid (fun (j : Nat) (hj : j < l.length) (v : Value) (W : World) (hW : Below w.heap.size w W) (hv : IsFl (Lt W) W l[j] v) => ih l[j] v L D va vn vc W (List.all_eq_true.1 hl _ (List.getElem_mem hj)) hv hs (h.below hW hW.size))
  have HK := Lib.hid hk1
  have HN := Lib.hid hn
  obtain ⟨R, hR⟩ : ∃ R, R = firstE 0 2 1 (evFs L l) := ⟨_, rfl⟩
  rw [← hR]
  have HR := Lib.hid hR
  have t1 : ((k : Int) == 1) = true := by simp [hk]
  have t2 : ((k : Int) == 2) = false := by simp [hk]
  have HFl := Lib.hid (fun W => flipR_any 0 (by omega) W)
  clear hW0 hW1 hb0 hb01 hb1 hf0 hf heb hsz he hE hR hs h hk hk1 hl hn ih
  go_enter Tryz.func26, Tryz.ntmps26
  go_upto_region 1 with (fail)
  rw [HW0.out, HW1.out, HEb.out]
  go_wp2_with (go_at_call 37; refine (HFl.out _).mono ?_; rintro e w2 ⟨rfl, hw2⟩; subst hw2)
  go_loopw [6, 7] (fun f i wr => ∃ (j o : Nat), j ≤ n ∧ i = .int .i64 j ∧ f = .int .i64 (o : Int) ∧ Hid ((∀ x ∈ evFs L (l.take j), x ≠ 0) ∧ o = if 2 ∈ evFs L (l.take j) then 2 else 1) ∧ Below w.heap.size w wr ∧ Below W1.heap.size W1 wr) (fun _ i _ => n - (intOf i).toNat)
  case atStart => exact ⟨0, 1, by omega, rfl, rfl, Lib.hid ⟨by simp [evFs], by simp [evFs]⟩, HB1.out, Below.refl _ _⟩
  case round =>
    obtain ⟨j, o, hj, rfl, rfl, HO, hbel, hbel1⟩ := hrel
    rename World => wo
    have HBr := Lib.hid hbel
    have HBr1 := Lib.hid hbel1
    clear d0 d1 d2 d3 d4 e0 e1
    obtain ⟨g0, g1, g2, g3, g4⟩ := fl_cells (HE.out _ hbel1).1
    obtain ⟨z0, z1⟩ := en_cells (HE.out _ hbel1).2
    by_cases hlt : j < n
    · have u1 : decide ((j : Int) < (n : Int)) = true := by simp; omega
      have u2 : decide (j < n) = true := by simpa using hlt
      have ti1 : (j : Int) < (n : Int) := by omega
      have u3 : IntKind.i64.wrap ((j : Int) + 1) = (j : Int) + 1 := IntWalk.i64_in _ (by omega)
      have hjl : j < l.length := by rw [← HN.out]; exact hlt
      obtain ⟨b, off, v0, v1, v2, v3, v4, rfl, hb, k0, k1, k2, k3, k4, hf⟩ := HK.out.get l _ 0 j l[j] (List.getElem?_eq_getElem hjl)
      rw [Nat.zero_add] at k0 k1 k2 k3 k4
      have hcw : ∀ o, wo.cell? ⟨b, o, none⟩ = w.cell? ⟨b, o, none⟩ := fun o => hbel.cell (p := ⟨b, o, none⟩) hb
      rw [← hcw] at k0 k1 k2 k3 k4
      have hf2 : IsFl (Lt wo) wo l[j] (.agg #[v0, v1, v2, v3, v4]) := hf.imp (fun b h => Nat.lt_of_lt_of_le h hbel.size) (fun b o h => hbel.cell (p := ⟨b, o, none⟩) h)
      obtain ⟨k', T', X', pa', pn', pc', ka', kn', kc', e⟩ := hf2.shape
      simp only [Value.agg.injEq, Array.mk.injEq, List.cons.injEq, and_true] at e
      obtain ⟨rfl, rfl, rfl, rfl, rfl⟩ := e
      have hr := evF_lt L l[j]
      obtain ⟨r, hrr⟩ : ∃ r, r = evF L l[j] := ⟨_, rfl⟩
      rw [← hrr] at hr
      have hca : Calls Tryz.prog 26 #[.agg #[.int .i64 k', .string T', .string X', .slice pa' pn' pc', .slice ka' kn' kc'], .agg #[.string D, .slice va vn vc]] wo.drew fun e w' => e = .returned (.int .i64 (r : Int)) ∧ Below wo.heap.size wo w' := by
        have := HIh.out j hjl _ wo.drew hbel.drew (hf2.below ((Below.refl _ _).drew))
        rw [← hrr] at this
        exact this.mono (fun e w' h => ⟨h.1, ⟨h.2.1, h.2.2, h.2.3, h.2.4, h.2.5⟩⟩)
      have htk : evFs L (l.take (j + 1)) = evFs L (l.take j) ++ [r] := by rw [evFs_map, evFs_map, List.take_succ_eq_append_getElem hjl, List.map_append, hrr]; rfl
      have hmem : r ∈ evFs L l := by rw [evFs_map, hrr]; exact List.mem_map_of_mem (List.getElem_mem hjl)
      have HTk := Lib.hid htk
      have HMm := Lib.hid hmem
      clear hrr htk hmem hf hf2 hbel hbel1 hcw hjl
      obtain rfl | rfl | rfl : r = 0 ∨ r = 2 ∨ r = 1 := by omega
      · have HCa := Lib.hid hca
        have HRs : Hid (R = 0) := Lib.hid (by rw [HR.out]; unfold firstE; rw [if_pos HMm.out])
        clear hca
        go_upto_region 11 with (fail)
        go_region_law (go_simp; go_at_call 26; refine (HCa.out).mono ?_; rintro e w4 ⟨rfl, hb4⟩; have HB4 := Lib.hid (bthen HBr.out hb4); clear hb4)
        all_goals
          go_wp2
          go_ret
          exact ⟨by rw [HRs.out]; rfl, HB4.out⟩
      · have HCa := Lib.hid hca
        clear hca
        go_upto_region 11 with (fail)
        go_region_law (go_simp; go_at_call 26; refine (HCa.out).mono ?_; rintro e w4 ⟨rfl, hb4⟩; have HB4 := Lib.hid (bthen HBr.out hb4); have HB5 := Lib.hid (bthen HBr1.out hb4); clear hb4)
        all_goals
         go_wp2
         go_roundw
         case rel =>
          refine ⟨j + 1, 2, by omega, by go_num, rfl, Lib.hid ⟨?_, ?_⟩, HB4.out, HB5.out⟩
          · rw [HTk.out]; intro x hx; rcases List.mem_append.1 hx with h1 | h1; exact HO.out.1 x h1; simp at h1; omega
          · rw [HTk.out]; simp
         case measure => simp [intOf]; omega
      · have HCa := Lib.hid hca
        clear hca
        go_upto_region 11 with (fail)
        go_region_law (go_simp; go_at_call 26; refine (HCa.out).mono ?_; rintro e w4 ⟨rfl, hb4⟩; have HB4 := Lib.hid (bthen HBr.out hb4); have HB5 := Lib.hid (bthen HBr1.out hb4); clear hb4)
        all_goals
         go_wp2
         go_roundw
         case rel =>
          refine ⟨j + 1, o, by omega, by go_num, rfl, Lib.hid ⟨?_, ?_⟩, HB4.out, HB5.out⟩
          · rw [HTk.out]; intro x hx; rcases List.mem_append.1 hx with h1 | h1; exact HO.out.1 x h1; simp at h1; omega
          · rw [HTk.out, HO.out.2]; simp
         case measure => simp [intOf]; omega
    · obtain rfl : j = n := by omega
      have u1 : decide ((j : Int) < (j : Int)) = false := by simp
      have u2 : decide (j < j) = false := by simp
      have HRo : Hid (R = o) := Lib.hid (by
        have he : l.take j = l := List.take_of_length_le (by rw [← HN.out]; exact Nat.le_refl _)
        obtain ⟨h1, h2⟩ := HO.out
        rw [he] at h1 h2
        rw [HR.out]
        unfold firstE
        rw [if_neg (fun hm => h1 _ hm rfl), h2])
      clear hlt hbel hbel1
      go_wp2
      go_ret
      exact ⟨by rw [HRo.out]; rfl, HBr.out⟩
set_option maxRecDepth 100000 in
set_option maxHeartbeats 8000000 in
theorem kids2R_any (d : Nat) (ih : EvRIs d) (k : Int) (T X D : ByteArray) (l : List FT) (L : List AT) (pa ka va : Option Addr) (n pn pc kc vn vc : Nat) (hn : n = l.length) (hln : n ≤ 1000) (hs : smallA L) (w : World) (h : IsA w.heap.size w L (.slice va vn vc)) (hl : l.all (mayF d) = true) (hk1 : IsFls (Lt w) w l ka 0) (hk : k = 2) :
    Calls Tryz.prog 26 #[.agg #[.int .i64 k, .string T, .string X, .slice pa pn pc, .slice ka n kc], .agg #[.string D, .slice va vn vc]] w fun e w' => e = .returned (.int .i64 (firstE 1 2 0 (evFs L l) : Nat)) ∧ Below w.heap.size w w' := by
  obtain ⟨W0, hW0⟩ : ∃ W, W = w.alloc (.cells #[.int .i64 k, .string T, .string X, .slice pa pn pc, .slice ka n kc] 25) := ⟨_, rfl⟩
  obtain ⟨W1, hW1⟩ : ∃ W, W = W0.alloc (.cells #[.string D, .slice va vn vc] 28) := ⟨_, rfl⟩
  have hb0 : Below w.heap.size w W0 := by rw [hW0]; exact box5 w _ _ _ _ _
  have hb01 : Below W0.heap.size W0 W1 := by rw [hW1]; exact (Below.refl _ _).alloc (Nat.le_refl _) _
  have hb1 : Below w.heap.size w W1 := bthen hb0 hb01
  have hf0 : FlAt W0 w.heap.size (.int .i64 k) (.string T) (.string X) (.slice pa pn pc) (.slice ka n kc) := by rw [hW0]; exact heap_alloc_new w _
  have hf : FlAt W1 w.heap.size (.int .i64 k) (.string T) (.string X) (.slice pa pn pc) (.slice ka n kc) := fl_below hf0 hb01 (fl_lt hf0)
  obtain ⟨eb, heb⟩ : ∃ b, b = w.heap.size + 1 := ⟨_, rfl⟩
  have hsz : W0.heap.size = eb := by rw [heb, hW0]; simp only [World.alloc, Array.size_push]
  have he : EnAt W1 eb D (.slice va vn vc) := by rw [← hsz, hW1]; exact heap_alloc_new W0 _
  have hE : ∀ W, Below W1.heap.size W1 W → FlAt W w.heap.size (.int .i64 k) (.string T) (.string X) (.slice pa pn pc) (.slice ka n kc) ∧ EnAt W eb D (.slice va vn vc) := fun W hW => ⟨fl_below hf hW (fl_lt hf), en_below he hW (en_lt he)⟩
  have HE := Lib.hid hE
  have HW0 := Lib.hid hW0.symm
  have HW1 := Lib.hid hW1.symm
  have HEb := Lib.hid heb.symm
  have HB1 := Lib.hid hb1
  obtain ⟨d0, d1, d2, d3, d4⟩ := fl_cells hf
  obtain ⟨e0, e1⟩ := en_cells he
  have HIh := Lib.hid (fun (j : Nat) (hj : j < l.length) (v : Value) (W : World) (hW : Below w.heap.size w W) (hv : IsFl (Lt W) W l[j] v) => ih l[j] v L D va vn vc W (List.all_eq_true.1 hl _ (List.getElem_mem hj)) hv hs (h.below hW hW.size))
  have HK := Lib.hid hk1
  have HN := Lib.hid hn
  obtain ⟨R, hR⟩ : ∃ R, R = firstE 1 2 0 (evFs L l) := ⟨_, rfl⟩
  rw [← hR]
  have HR := Lib.hid hR
  have t1 : ((k : Int) == 1) = false := by simp [hk]
  have t2 : ((k : Int) == 2) = true := by simp [hk]
  have HFl := Lib.hid (fun W => flipR_any 1 (by omega) W)
  clear hW0 hW1 hb0 hb01 hb1 hf0 hf heb hsz he hE hR hs h hk hk1 hl hn ih
  go_enter Tryz.func26, Tryz.ntmps26
  go_upto_region 1 with (fail)
  rw [HW0.out, HW1.out, HEb.out]
  go_wp2_with (go_at_call 37; refine (HFl.out _).mono ?_; rintro e w2 ⟨rfl, hw2⟩; subst hw2)
  go_loopw [6, 7] (fun f i wr => ∃ (j o : Nat), j ≤ n ∧ i = .int .i64 j ∧ f = .int .i64 (o : Int) ∧ Hid ((∀ x ∈ evFs L (l.take j), x ≠ 1) ∧ o = if 2 ∈ evFs L (l.take j) then 2 else 0) ∧ Below w.heap.size w wr ∧ Below W1.heap.size W1 wr) (fun _ i _ => n - (intOf i).toNat)
  case atStart => exact ⟨0, 0, by omega, rfl, rfl, Lib.hid ⟨by simp [evFs], by simp [evFs]⟩, HB1.out, Below.refl _ _⟩
  case round =>
    obtain ⟨j, o, hj, rfl, rfl, HO, hbel, hbel1⟩ := hrel
    rename World => wo
    have HBr := Lib.hid hbel
    have HBr1 := Lib.hid hbel1
    clear d0 d1 d2 d3 d4 e0 e1
    obtain ⟨g0, g1, g2, g3, g4⟩ := fl_cells (HE.out _ hbel1).1
    obtain ⟨z0, z1⟩ := en_cells (HE.out _ hbel1).2
    by_cases hlt : j < n
    · have u1 : decide ((j : Int) < (n : Int)) = true := by simp; omega
      have u2 : decide (j < n) = true := by simpa using hlt
      have ti1 : (j : Int) < (n : Int) := by omega
      have u3 : IntKind.i64.wrap ((j : Int) + 1) = (j : Int) + 1 := IntWalk.i64_in _ (by omega)
      have hjl : j < l.length := by rw [← HN.out]; exact hlt
      obtain ⟨b, off, v0, v1, v2, v3, v4, rfl, hb, k0, k1, k2, k3, k4, hf⟩ := HK.out.get l _ 0 j l[j] (List.getElem?_eq_getElem hjl)
      rw [Nat.zero_add] at k0 k1 k2 k3 k4
      have hcw : ∀ o, wo.cell? ⟨b, o, none⟩ = w.cell? ⟨b, o, none⟩ := fun o => hbel.cell (p := ⟨b, o, none⟩) hb
      rw [← hcw] at k0 k1 k2 k3 k4
      have hf2 : IsFl (Lt wo) wo l[j] (.agg #[v0, v1, v2, v3, v4]) := hf.imp (fun b h => Nat.lt_of_lt_of_le h hbel.size) (fun b o h => hbel.cell (p := ⟨b, o, none⟩) h)
      obtain ⟨k', T', X', pa', pn', pc', ka', kn', kc', e⟩ := hf2.shape
      simp only [Value.agg.injEq, Array.mk.injEq, List.cons.injEq, and_true] at e
      obtain ⟨rfl, rfl, rfl, rfl, rfl⟩ := e
      have hr := evF_lt L l[j]
      obtain ⟨r, hrr⟩ : ∃ r, r = evF L l[j] := ⟨_, rfl⟩
      rw [← hrr] at hr
      have hca : Calls Tryz.prog 26 #[.agg #[.int .i64 k', .string T', .string X', .slice pa' pn' pc', .slice ka' kn' kc'], .agg #[.string D, .slice va vn vc]] wo.drew fun e w' => e = .returned (.int .i64 (r : Int)) ∧ Below wo.heap.size wo w' := by
        have := HIh.out j hjl _ wo.drew hbel.drew (hf2.below ((Below.refl _ _).drew))
        rw [← hrr] at this
        exact this.mono (fun e w' h => ⟨h.1, ⟨h.2.1, h.2.2, h.2.3, h.2.4, h.2.5⟩⟩)
      have htk : evFs L (l.take (j + 1)) = evFs L (l.take j) ++ [r] := by rw [evFs_map, evFs_map, List.take_succ_eq_append_getElem hjl, List.map_append, hrr]; rfl
      have hmem : r ∈ evFs L l := by rw [evFs_map, hrr]; exact List.mem_map_of_mem (List.getElem_mem hjl)
      have HTk := Lib.hid htk
      have HMm := Lib.hid hmem
      clear hrr htk hmem hf hf2 hbel hbel1 hcw hjl
      obtain rfl | rfl | rfl : r = 1 ∨ r = 2 ∨ r = 0 := by omega
      · have HCa := Lib.hid hca
        have HRs : Hid (R = 1) := Lib.hid (by rw [HR.out]; unfold firstE; rw [if_pos HMm.out])
        clear hca
        go_upto_region 11 with (fail)
        go_region_law (go_simp; go_at_call 26; refine (HCa.out).mono ?_; rintro e w4 ⟨rfl, hb4⟩; have HB4 := Lib.hid (bthen HBr.out hb4); clear hb4)
        all_goals
          go_wp2
          go_ret
          exact ⟨by rw [HRs.out]; rfl, HB4.out⟩
      · have HCa := Lib.hid hca
        clear hca
        go_upto_region 11 with (fail)
        go_region_law (go_simp; go_at_call 26; refine (HCa.out).mono ?_; rintro e w4 ⟨rfl, hb4⟩; have HB4 := Lib.hid (bthen HBr.out hb4); have HB5 := Lib.hid (bthen HBr1.out hb4); clear hb4)
        all_goals
         go_wp2
         go_roundw
         case rel =>
          refine ⟨j + 1, 2, by omega, by go_num, rfl, Lib.hid ⟨?_, ?_⟩, HB4.out, HB5.out⟩
          · rw [HTk.out]; intro x hx; rcases List.mem_append.1 hx with h1 | h1; exact HO.out.1 x h1; simp at h1; omega
          · rw [HTk.out]; simp
         case measure => simp [intOf]; omega
      · have HCa := Lib.hid hca
        clear hca
        go_upto_region 11 with (fail)
        go_region_law (go_simp; go_at_call 26; refine (HCa.out).mono ?_; rintro e w4 ⟨rfl, hb4⟩; have HB4 := Lib.hid (bthen HBr.out hb4); have HB5 := Lib.hid (bthen HBr1.out hb4); clear hb4)
        all_goals
         go_wp2
         go_roundw
         case rel =>
          refine ⟨j + 1, o, by omega, by go_num, rfl, Lib.hid ⟨?_, ?_⟩, HB4.out, HB5.out⟩
          · rw [HTk.out]; intro x hx; rcases List.mem_append.1 hx with h1 | h1; exact HO.out.1 x h1; simp at h1; omega
          · rw [HTk.out, HO.out.2]; simp
         case measure => simp [intOf]; omega
    · obtain rfl : j = n := by omega
      have u1 : decide ((j : Int) < (j : Int)) = false := by simp
      have u2 : decide (j < j) = false := by simp
      have HRo : Hid (R = o) := Lib.hid (by
        have he : l.take j = l := List.take_of_length_le (by rw [← HN.out]; exact Nat.le_refl _)
        obtain ⟨h1, h2⟩ := HO.out
        rw [he] at h1 h2
        rw [HR.out]
        unfold firstE
        rw [if_neg (fun hm => h1 _ hm rfl), h2])
      clear hlt hbel hbel1
      go_wp2
      go_ret
      exact ⟨by rw [HRo.out]; rfl, HBr.out⟩
set_option maxRecDepth 100000 in
set_option maxHeartbeats 8000000 in
theorem notR_any (d : Nat) (ih : EvRIs d) (k : Int) (T X D : ByteArray) (l : List FT) (L : List AT) (pa ka va : Option Addr) (n pn pc kc vn vc : Nat) (hn : n = l.length) (hln : n ≤ 1000) (hs : smallA L) (w : World) (h : IsA w.heap.size w L (.slice va vn vc)) (hl : l.all (mayF d) = true) (hk1 : IsFls (Lt w) w l ka 0) (hk : k = 3) (h1 : n = 1) :
    Calls Tryz.prog 26 #[.agg #[.int .i64 k, .string T, .string X, .slice pa pn pc, .slice ka n kc], .agg #[.string D, .slice va vn vc]] w fun e w' => e = .returned (.int .i64 (flipE ((evFs L l).headD 2) : Nat)) ∧ Below w.heap.size w w' := by
  obtain ⟨W0, hW0⟩ : ∃ W, W = w.alloc (.cells #[.int .i64 k, .string T, .string X, .slice pa pn pc, .slice ka n kc] 25) := ⟨_, rfl⟩
  obtain ⟨W1, hW1⟩ : ∃ W, W = W0.alloc (.cells #[.string D, .slice va vn vc] 28) := ⟨_, rfl⟩
  have hb0 : Below w.heap.size w W0 := by rw [hW0]; exact box5 w _ _ _ _ _
  have hb01 : Below W0.heap.size W0 W1 := by rw [hW1]; exact (Below.refl _ _).alloc (Nat.le_refl _) _
  have hb1 : Below w.heap.size w W1 := bthen hb0 hb01
  have hf0 : FlAt W0 w.heap.size (.int .i64 k) (.string T) (.string X) (.slice pa pn pc) (.slice ka n kc) := by rw [hW0]; exact heap_alloc_new w _
  have hf : FlAt W1 w.heap.size (.int .i64 k) (.string T) (.string X) (.slice pa pn pc) (.slice ka n kc) := fl_below hf0 hb01 (fl_lt hf0)
  obtain ⟨eb, heb⟩ : ∃ b, b = w.heap.size + 1 := ⟨_, rfl⟩
  have hsz : W0.heap.size = eb := by rw [heb, hW0]; simp only [World.alloc, Array.size_push]
  have he : EnAt W1 eb D (.slice va vn vc) := by rw [← hsz, hW1]; exact heap_alloc_new W0 _
  have hE : ∀ W, Below W1.heap.size W1 W → FlAt W w.heap.size (.int .i64 k) (.string T) (.string X) (.slice pa pn pc) (.slice ka n kc) ∧ EnAt W eb D (.slice va vn vc) := fun W hW => ⟨fl_below hf hW (fl_lt hf), en_below he hW (en_lt he)⟩
  have HE := Lib.hid hE
  have HW0 := Lib.hid hW0.symm
  have HW1 := Lib.hid hW1.symm
  have HEb := Lib.hid heb.symm
  have HB1 := Lib.hid hb1
  obtain ⟨d0, d1, d2, d3, d4⟩ := fl_cells hf
  obtain ⟨e0, e1⟩ := en_cells he
  subst h1
  obtain ⟨g, rfl⟩ : ∃ g, l = [g] := List.length_eq_one_iff.1 hn.symm
  obtain ⟨b, off, v0, v1, v2, v3, v4, rfl, hb, q0, q1, q2, q3, q4, hg0⟩ := hk1.get [g] _ 0 0 g rfl
  rw [show off + (0 + 0) * 5 = off from by omega] at q0 q1 q2 q3 q4
  have hg : IsFl (Lt W1) W1 g (.agg #[v0, v1, v2, v3, v4]) := hg0.below hb1
  have hcw : ∀ o, W1.cell? ⟨b, o, none⟩ = w.cell? ⟨b, o, none⟩ := fun o => hb1.cell (p := ⟨b, o, none⟩) hb
  rw [← hcw] at q0 q1 q2 q3 q4
  obtain ⟨k', T', X', pa', pn', pc', ka', kn', kc', e⟩ := hg.shape
  simp only [Value.agg.injEq, Array.mk.injEq, List.cons.injEq, and_true] at e
  obtain ⟨rfl, rfl, rfl, rfl, rfl⟩ := e
  have hgm : mayF d g = true := by simpa using hl
  have hr := evF_lt L g
  obtain ⟨r, hrr⟩ : ∃ r, r = evF L g := ⟨_, rfl⟩
  have hbl : b < W1.heap.size := Nat.lt_of_lt_of_le hb hb1.size
  have hA1 : IsA W1.heap.size W1 L (.slice va vn vc) := h.below hb1 hb1.size
  have hcall : ∀ W, SamB W1 W → Calls Tryz.prog 26 #[.agg #[.int .i64 k', .string T', .string X', .slice pa' pn' pc', .slice ka' kn' kc'], .agg #[.string D, .slice va vn vc]] W fun e w' => e = .returned (.int .i64 (r : Int)) ∧ Below W.heap.size W w' := fun W hW => by
    rw [hrr]
    exact ih g _ L D va vn vc W hgm (hg.below hW) hs (hA1.below hW (Below.size hW))
  have hnot : ∀ W, SamB W1 W → Calls Tryz.prog 37 #[.int .i64 (r : Int)] W fun e w' => e = .returned (.int .i64 (flipE r : Nat)) ∧ Below W.heap.size W w' := fun W _ => (flipR_any r (by rw [hrr]; exact hr) W).mono (fun e w' h => ⟨h.1, by rw [← h.2]; exact Below.refl _ _⟩)
  have hE2 : ∀ W, SamB W1 W → W.cell? ⟨w.heap.size, 4, none⟩ = some (.slice (some ⟨b, off, none⟩) 1 kc) ∧ W.cell? ⟨eb, 0, none⟩ = some (.string D) ∧ W.cell? ⟨eb, 1, none⟩ = some (.slice va vn vc) ∧ W.cell? ⟨b, off, none⟩ = some (.int .i64 k') ∧ W.cell? ⟨b, off + 1, none⟩ = some (.string T') ∧ W.cell? ⟨b, off + 2, none⟩ = some (.string X') ∧ W.cell? ⟨b, off + 3, none⟩ = some (.slice pa' pn' pc') ∧ W.cell? ⟨b, off + 4, none⟩ = some (.slice ka' kn' kc') ∧ SamB W1 W := fun W hW => by
    have a4 := (fl_cells (fl_below hf hW (fl_lt hf))).2.2.2.2
    obtain ⟨z0, z1⟩ := en_cells (en_below he hW (en_lt he))
    exact ⟨a4, z0, z1, (Below.cell hW (p := ⟨b, off, none⟩) hbl).trans q0, (Below.cell hW (p := ⟨b, off + 1, none⟩) hbl).trans q1, (Below.cell hW (p := ⟨b, off + 2, none⟩) hbl).trans q2, (Below.cell hW (p := ⟨b, off + 3, none⟩) hbl).trans q3, (Below.cell hW (p := ⟨b, off + 4, none⟩) hbl).trans q4, hW⟩
  have HE2 := Lib.hid hE2
  have HCl := Lib.hid hcall
  have HNt := Lib.hid hnot
  obtain ⟨R, hR⟩ : ∃ R, R = flipE ((evFs L [g]).headD 2) := ⟨_, rfl⟩
  rw [← hR]
  have HR2 : Hid (R = flipE r) := Lib.hid (by rw [hR, hrr]; rfl)
  have hst5 := hE2 W1 (Below.refl _ _)
  have hst6 := hE2 W1.drew (Below.drew (Below.refl _ _))
  have t1 : ((k : Int) == 1) = false := by simp [hk]
  have t2 : ((k : Int) == 2) = false := by simp [hk]
  have t3 : ((k : Int) == 3) = true := by simp [hk]
  clear hW0 hW1 hb0 hb01 hb1 hf0 hf heb hsz he hE hR hs h hk hk1 hl hn ih hg hg0 hcw hgm hr hrr hbl hA1 hcall hnot hE2 hb
  go_enter Tryz.func26, Tryz.ntmps26
  go_upto_region 1 with (fail)
  rw [HW0.out, HW1.out, HEb.out]
  go_upto_region 18 with (fail)
  go_region_held3 (fun W => W.cell? ⟨w.heap.size, 4, none⟩ = some (.slice (some ⟨b, off, none⟩) 1 kc) ∧ W.cell? ⟨eb, 0, none⟩ = some (.string D) ∧ W.cell? ⟨eb, 1, none⟩ = some (.slice va vn vc) ∧ W.cell? ⟨b, off, none⟩ = some (.int .i64 k') ∧ W.cell? ⟨b, off + 1, none⟩ = some (.string T') ∧ W.cell? ⟨b, off + 2, none⟩ = some (.string X') ∧ W.cell? ⟨b, off + 3, none⟩ = some (.slice pa' pn' pc') ∧ W.cell? ⟨b, off + 4, none⟩ = some (.slice ka' kn' kc') ∧ SamB W1 W)
    (first | (with_reducible exact hst5) | (with_reducible exact hst6) | (go_split_ands; exact HE2.out _ (SamB.go (by assumption) hbx)))
    (first
      | (go_at_call 26; go_split_ands; (with_reducible refine (HCl.out _ (by assumption)).mono ?_); rintro e wx ⟨rfl, hbx⟩)
      | (go_at_call 37; go_split_ands; (with_reducible refine (HNt.out _ (by assumption)).mono ?_); rintro e wy ⟨rfl, hbx⟩))
  all_goals
    go_split_ands
    have hT : SamB W1 wy := by assumption
    go_wp2
    go_ret
    exact ⟨by rw [HR2.out]; rfl, bthen HB1.out hT⟩
end Go.Proofs.YtdgnefcpeocbjaaGreatDoor


namespace Go.Proofs.YtdgnefcpeocbjaaGreatDoor
open Go.RowKit
set_option linter.unusedVariables false
set_option linter.unusedSimpArgs false

theorem saidR_at {W w5 : World} {b ty : Nat} {x y : Value} (hb5 : Below W.heap.size W w5) (h : W.heap[b]? = some (.cells #[x, y] ty (0, 0))) : w5.cell? ⟨b, 0, none⟩ = some x ∧ w5.cell? ⟨b, 1, none⟩ = some y ∧ w5.frozen? ⟨b, 0, none⟩ = false ∧ w5.frozen? ⟨b, 1, none⟩ = false ∧ Hid (w5.heap[b]? = some (.cells #[x, y] ty (0, 0))) := by
  have h' := (hb5.block b (Array.getElem?_eq_some_iff.1 h).1).trans h
  refine ⟨?_, ?_, ?_, ?_, Lib.hid h'⟩ <;> simp [World.cell?, World.frozen?, h']
theorem saidR_set {w5 : World} {b ty : Nat} {x y : Value} (N : ByteArray) (q : Bool) (h : w5.heap[b]? = some (.cells #[x, y] ty (0, 0))) : ((w5.setCell ⟨b, 0, none⟩ (.string N)).setCell ⟨b, 1, none⟩ (.bool q)).cell? ⟨b, 0, none⟩ = some (.string N) ∧ ((w5.setCell ⟨b, 0, none⟩ (.string N)).setCell ⟨b, 1, none⟩ (.bool q)).cell? ⟨b, 1, none⟩ = some (.bool q) := by
  have h1 : (w5.setCell ⟨b, 0, none⟩ (.string N)).heap[b]? = some (.cells #[.string N, y] ty (0, 0)) := by simp [World.setCell, Array.getElem?_modify, h]
  generalize w5.setCell ⟨b, 0, none⟩ (.string N) = W at h1 ⊢
  have h2 : (W.setCell ⟨b, 1, none⟩ (.bool q)).heap[b]? = some (.cells #[.string N, .bool q] ty (0, 0)) := by simp [World.setCell, Array.getElem?_modify, h1]
  constructor <;> simp [World.cell?, h2]
theorem partsR_some {r : Nat} {p : List (List UInt8)} {v : List UInt8} : partsE r p v = ((normD r v).isSome && madeO (sB (normD r v)).data.toList (p.map low)) := by
  unfold partsE
  cases normD r v with
  | none => rfl
  | some n => simp [sB]
set_option maxRecDepth 100000 in
set_option maxHeartbeats 8000000 in
theorem subR_any (k : Int) (T X D : ByteArray) (p : List (List UInt8)) (L : List AT) (pa ka va : Option Addr) (n pc kn kc vn vc : Nat) (hT : T.size ≤ 1000000) (hX : X.size ≤ 1000000) (hs : smallA L) (w : World) (h : IsA w.heap.size w L (.slice va vn vc)) (hn : n = p.length) (hp2 : 2 ≤ n) (hp3 : n ≤ 1000) (hpl : ∀ x ∈ p, x.length ≤ 1000000) (hmid : ∀ i (h : i < p.length), 0 < i → i + 1 < p.length → p[i] ≠ []) (hp : IsTo (Lt w) w p (.slice pa n pc)) (hk : k = 5) (h0 : ruleD T.data.toList ≠ 0) :
    Calls Tryz.prog 26 #[.agg #[.int .i64 k, .string T, .string X, .slice pa n pc, .slice ka kn kc], .agg #[.string D, .slice va vn vc]] w fun e w' => e = .returned (.int .i64 (leafE L k T.data.toList X.data.toList p : Nat)) ∧ Below w.heap.size w w' := by
  obtain ⟨W0, hW0⟩ : ∃ W, W = w.alloc (.cells #[.int .i64 k, .string T, .string X, .slice pa n pc, .slice ka kn kc] 25) := ⟨_, rfl⟩
  obtain ⟨W1, hW1⟩ : ∃ W, W = W0.alloc (.cells #[.string D, .slice va vn vc] 28) := ⟨_, rfl⟩
  have hb0 : Below w.heap.size w W0 := by rw [hW0]; exact box5 w _ _ _ _ _
  have hb01 : Below W0.heap.size W0 W1 := by rw [hW1]; exact (Below.refl _ _).alloc (Nat.le_refl _) _
  have hb1 : Below w.heap.size w W1 := bthen hb0 hb01
  have hf0 : FlAt W0 w.heap.size (.int .i64 k) (.string T) (.string X) (.slice pa n pc) (.slice ka kn kc) := by rw [hW0]; exact heap_alloc_new w _
  have hf : FlAt W1 w.heap.size (.int .i64 k) (.string T) (.string X) (.slice pa n pc) (.slice ka kn kc) := fl_below hf0 hb01 (fl_lt hf0)
  obtain ⟨eb, heb⟩ : ∃ b, b = w.heap.size + 1 := ⟨_, rfl⟩
  have hsz : W0.heap.size = eb := by rw [heb, hW0]; simp only [World.alloc, Array.size_push]
  have he : EnAt W1 eb D (.slice va vn vc) := by rw [← hsz, hW1]; exact heap_alloc_new W0 _
  have hE : ∀ W, Below W1.heap.size W1 W → FlAt W w.heap.size (.int .i64 k) (.string T) (.string X) (.slice pa n pc) (.slice ka kn kc) ∧ EnAt W eb D (.slice va vn vc) := fun W hW => ⟨fl_below hf hW (fl_lt hf), en_below he hW (en_lt he)⟩
  have HE := Lib.hid hE
  have HW0 := Lib.hid hW0.symm
  have HW1 := Lib.hid hW1.symm
  have HEb := Lib.hid heb.symm
  have HB1 := Lib.hid hb1
  obtain ⟨d0, d1, d2, d3, d4⟩ := fl_cells hf
  obtain ⟨e0, e1⟩ := en_cells he
  have HRu := Lib.hid (fun W => ruleRef_any T (by omega) W)
  have HVa := Lib.hid (fun W (hW : Below W1.heap.size W1 W) => valsRef_any D T (by omega) L hs (.slice va vn vc) W (h.below (bthen hb1 hW) (bthen hb1 hW).size))
  obtain ⟨R, hR⟩ : ∃ R, R = leafE L k T.data.toList X.data.toList p := ⟨_, rfl⟩
  rw [← hR]
  obtain ⟨r, hr⟩ : ∃ r, r = ruleD T.data.toList := ⟨_, rfl⟩
  obtain ⟨V, hV⟩ : ∃ V, V = findA L T.data.toList := ⟨_, rfl⟩
  obtain ⟨m, hml⟩ : ∃ m, m = V.length := ⟨_, rfl⟩
  have HVq := Lib.hid hV
  rw [← hV] at HVa
  have HMl := Lib.hid hml
  obtain ⟨pb, po, hpa, hpb, hpc⟩ : ∃ b off, pa = some ⟨b, off, none⟩ ∧ b < w.heap.size ∧ ∀ j (h : j < p.length), w.cell? ⟨b, off + j, none⟩ = some (strV p[j]) := by
    obtain ⟨a, c, hv, _, hc⟩ := hp
    simp only [Value.slice.injEq] at hv
    obtain ⟨rfl, _, rfl⟩ := hv
    obtain ⟨b, off, e, hb, _⟩ := hc 0 (by omega)
    refine ⟨b, off, e, hb, fun j hj => ?_⟩
    obtain ⟨b', off', e', _, h'⟩ := hc j hj
    rw [e] at e'
    simp only [Option.some.injEq, Addr.mk.injEq, and_true] at e'
    obtain ⟨rfl, rfl⟩ := e'
    exact h'
  subst hpa
  have hR2 : R = if r = 1 then (if V.any (partsE r p) then 1 else 0) else 2 := by rw [hR, leafR_sub L hk, ← hr, ← hV]
  rw [← hr] at HRu h0
  have hno := fun (Y : ByteArray) W => normR_at T Y (by omega) r hr.symm _ rfl W
  have hpt := fun (N : ByteArray) (hN : N.size ≤ 1000000) (W : World) (hW : Below w.heap.size w W) => partsRef_any N hN p pb po pc n W hn hp2 hp3 hpl hmid (fun j hj => (hW.cell (p := ⟨pb, _, none⟩) hpb).trans (hpc j hj)) (Nat.lt_of_lt_of_le hpb hW.size)
  have HNo := Lib.hid hno
  have HPt := Lib.hid hpt
  have HR2 := Lib.hid hR2
  have t1 : ((k : Int) == 1) = false := by simp [hk]
  have t2 : ((k : Int) == 2) = false := by simp [hk]
  have t3 : ((k : Int) == 3) = false := by simp [hk]
  have t8 : ((k : Int) == 8) = false := by simp [hk]
  have t4 : ((k : Int) == 4) = false := by simp [hk]
  have t6 : ((k : Int) == 6) = false := by simp [hk]
  have t7 : ((k : Int) == 7) = false := by simp [hk]
  have t0 : ((r : Int) == 0) = false := by simp; omega
  clear hW0 hW1 hb0 hb01 hb1 hf0 hf heb hsz he hE hR hs h hr hV hml hk h0 hno hpt hR2 hn hp2 hp3 hpl hmid hp hpc hpb
  by_cases h1 : r = 1
  · have HRa : Hid (R = if V.any (partsE r p) then 1 else 0) := Lib.hid (by rw [HR2.out, if_pos h1])
    have s1 : ((r : Int) != 1) = false := by simp [h1]
    have s2 : ((r : Int) == 1) = true := by simp [h1]
    clear h1
    go_enter Tryz.func26, Tryz.ntmps26
    go_upto_region 1 with (fail)
    rw [HW0.out, HW1.out, HEb.out]
    go_wp2_with (first | (go_at_call 38; refine (HRu.out _).mono ?_; rintro e w2 ⟨rfl, hb2⟩; have HX2 := Lib.hid hb2; (obtain ⟨g0, g1, g2, g3, g4⟩ := fl_cells (HE.out _ hb2).1); (obtain ⟨z0, z1⟩ := en_cells (HE.out _ hb2).2); clear hb2) | (go_at_call 22; refine (HVa.out _ HX2.out).mono ?_; rintro e w3 ⟨u, rfl, hit, hb3⟩; clear d0 d1 d2 d3 d4 e0 e1 g0 g1 g2 g3 g4 z0 z1; have HX3 := Lib.hid (bthen HX2.out hb3); (obtain ⟨g0, g1, g2, g3, g4⟩ := fl_cells (HE.out _ HX3.out).1); (obtain ⟨z0, z1⟩ := en_cells (HE.out _ HX3.out).2); (obtain ⟨ua, uc, hu, hum, huc⟩ := hit); (rw [← HMl.out] at hu hum); subst hu; have HUc := Lib.hid huc; have HB3w := Lib.hid hb3; clear hb3 huc) | (go_at_call 38; refine (HRu.out _).mono ?_; rintro e w4 ⟨rfl, hb4⟩; clear g0 g1 g2 g3 g4 z0 z1; have HX4 := Lib.hid (bthen HX3.out hb4); have HY4 := Lib.hid hb4; (obtain ⟨g0, g1, g2, g3, g4⟩ := fl_cells (HE.out _ HX4.out).1); (obtain ⟨z0, z1⟩ := en_cells (HE.out _ HX4.out).2); clear hb4))
    unfold maxLen at hum
    go_loopw [10, 16] (fun f i wr => ∃ (j : Nat) (a : Bool), j ≤ m ∧ i = .int .i64 j ∧ f = .bool a ∧ Hid (a = (V.take j).any (partsE r p)) ∧ Below w3.heap.size w3 wr) (fun _ i _ => m - (intOf i).toNat)
    case atStart => exact ⟨0, false, by omega, rfl, rfl, Lib.hid rfl, HY4.out⟩
    case round =>
      obtain ⟨j, a, hj, rfl, rfl, HA, hbel⟩ := hrel
      rename World => wr
      have HBr := Lib.hid hbel
      clear g0 g1 g2 g3 g4 z0 z1
      obtain ⟨g0, g1, g2, g3, g4⟩ := fl_cells (HE.out _ (bthen HX3.out hbel)).1
      by_cases hlt : j < m
      · have u1 : decide ((j : Int) < (m : Int)) = true := by simp; omega
        have u2 : decide (j < m) = true := by simpa using hlt
        have hjV : j < V.length := by rw [← HMl.out]; exact hlt
        have u3 : IntKind.i64.wrap ((j : Int) + 1) = (j : Int) + 1 := IntWalk.i64_in _ (by omega)
        obtain ⟨b, off, rfl, hb0, c0⟩ := HUc.out j hjV
        obtain ⟨Y, hY⟩ : ∃ Y : ByteArray, ⟨V[j].toArray⟩ = Y := ⟨_, rfl⟩
        have hYl : Y.data.toList = V[j] := by rw [← hY]
        have d9 : wr.cell? ⟨b, off + j, none⟩ = some (.string Y) := by
          rw [hbel.cell (p := ⟨b, _, none⟩) (Nat.lt_of_lt_of_le hb0 HB3w.out.size), HB3w.out.cell (p := ⟨b, _, none⟩) hb0, c0, ← hY]; rfl
        have halc : Below wr.heap.size wr (wr.alloc (.cells #[.string ⟨#[]⟩, .bool false] 62)) := (Below.refl _ _).alloc (Nat.le_refl _) _
        have x9 := (halc.cell (p := ⟨b, off + j, none⟩) (show b < wr.heap.size from Nat.lt_of_lt_of_le hb0 (Nat.le_trans HB3w.out.size hbel.size))).trans d9
        obtain ⟨x0, x1, x2, x3, x4⟩ := fl_cells (HE.out _ (bthen (bthen HX3.out hbel) halc)).1
        obtain ⟨o, ho⟩ : ∃ o, o = normD r Y.data.toList := ⟨_, rfl⟩
        have HAlc := Lib.hid halc
        clear halc
        have hnx : (V.take (j + 1)).any (partsE r p) = (a || (o.isSome && madeO (sB o).data.toList (p.map low))) := by rw [anyR_next hjV, ← HA.out, partsR_some, ho, hYl]
        have hN : (sB o).size ≤ 1000000 := by
          cases o with
          | none => exact Nat.zero_le _
          | some x => rw [← bytes_len]; have := normD_len ho.symm; simp [sB]; omega
        have hla := fun W => HNo.out Y W
        rw [← ho] at hla
        obtain ⟨N, hNe⟩ : ∃ N, N = sB o := ⟨_, rfl⟩
        obtain ⟨q, hq⟩ : ∃ q, q = o.isSome := ⟨_, rfl⟩
        obtain ⟨md, hmd⟩ : ∃ q, q = madeO (sB o).data.toList (p.map low) := ⟨_, rfl⟩
        have hpt := fun W hW => HPt.out (sB o) hN W hW
        rw [← hmd] at hpt hnx
        rw [← hq] at hla hnx
        rw [← hNe] at hla hpt
        have HNx := Lib.hid hnx
        have HLa := Lib.hid hla
        have HPp := Lib.hid hpt
        clear hnx hla hpt ho hN hNe hq hmd hYl hY c0 hb0 hjV hbel HA
        go_upto_region 29 with (fail)
        go_region_law (go_simp; go_at_call 39; refine (HLa.out _).mono ?_; rintro e w5 ⟨rfl, hb5⟩; (first | (obtain ⟨s0, s1, s2, s3, HS4⟩ := saidR_at hb5 (heap_alloc_new wr _)) | skip))
        all_goals
          have HB5 : Hid (Below wr.heap.size wr w5) := Lib.hid (by first | exact bthen (Below.refl _ _).drew hb5 | exact bthen HAlc.out.drew hb5 | exact bthen (Below.refl _ _) hb5 | exact bthen HAlc.out hb5)
          clear hb5
          first
            | (obtain ⟨W6, hW6⟩ : ∃ W, W = w5.alloc (.cells #[.string N, .bool q] 62) := ⟨_, rfl⟩
               rw [← hW6]
               obtain ⟨bx, hbx⟩ : ∃ n, n = w5.heap.size := ⟨_, rfl⟩
               rw [← hbx]
               have y0 : W6.cell? ⟨bx, 0, none⟩ = some (.string N) := by rw [hW6, hbx]; simp
               have y1 : W6.cell? ⟨bx, 1, none⟩ = some (.bool q) := by rw [hW6, hbx]; simp
               have HB6 : Hid (Below wr.heap.size wr W6) := Lib.hid (by rw [hW6]; exact HB5.out.alloc HB5.out.size _)
               clear hW6 hbx)
            | (obtain ⟨W6, hW6⟩ : ∃ W, W = (w5.setCell ⟨wr.heap.size, 0, none⟩ (.string N)).setCell ⟨wr.heap.size, 1, none⟩ (.bool q) := ⟨_, rfl⟩
               rw [← hW6]
               obtain ⟨bx, hbx⟩ : ∃ n, n = wr.heap.size := ⟨_, rfl⟩
               have y0 : W6.cell? ⟨bx, 0, none⟩ = some (.string N) := by rw [hW6, hbx]; exact (saidR_set N q HS4.out).1
               have y1 : W6.cell? ⟨bx, 1, none⟩ = some (.bool q) := by rw [hW6, hbx]; exact (saidR_set N q HS4.out).2
               have HB6 : Hid (Below wr.heap.size wr W6) := Lib.hid (by rw [hW6]; exact (HB5.out.setCell (p := ⟨wr.heap.size, 0, none⟩) (Nat.le_refl _) _).setCell (p := ⟨wr.heap.size, 1, none⟩) (Nat.le_refl _) _)
               rw [← hbx]
               clear hW6 hbx s0 s1 s2 s3)
          clear g0 g1 g2 g3 g4 x0 x1 x2 x3 x4 x9 d9
          obtain ⟨g0, g1, g2, g3, g4⟩ := fl_cells (HE.out _ (bthen HX3.out (bthen HBr.out HB6.out))).1
          cases a
          · cases q
            · go_wp2
              go_roundw
              case rel => exact ⟨j + 1, _, by omega, by go_num, rfl, Lib.hid (by rw [HNx.out]; rfl), bthen HBr.out HB6.out⟩
              case measure => simp [intOf]; omega
            · go_wp2_with (go_at_call 42; refine (HPp.out _ (bthen HB1.out (bthen HX3.out (bthen HBr.out HB6.out)))).mono ?_; rintro e w7 ⟨rfl, hb7⟩; have HB7 := Lib.hid (bthen HB6.out hb7); clear hb7)
              go_roundw
              case rel => exact ⟨j + 1, _, by omega, by go_num, rfl, Lib.hid (by rw [HNx.out]; rfl), bthen HBr.out HB7.out⟩
              case measure => simp [intOf]; omega
          · go_wp2
            go_roundw
            case rel => exact ⟨j + 1, _, by omega, by go_num, rfl, Lib.hid (by rw [HNx.out]; rfl), bthen HBr.out HB6.out⟩
            case measure => simp [intOf]; omega
      · obtain rfl : j = m := by omega
        have u1 : decide ((j : Int) < (j : Int)) = false := by simp
        have u2 : decide (j < j) = false := by simp
        have HRb : Hid (R = if a then 1 else 0) := Lib.hid (by rw [HRa.out, HA.out, List.take_of_length_le (by rw [HMl.out]; exact Nat.le_refl _)])
        clear hlt hbel
        cases a
        all_goals
          go_wp2
          go_ret
          exact ⟨by rw [HRb.out]; rfl, bthen HB1.out (bthen HX3.out HBr.out)⟩
  · have HRa : Hid (R = 2) := Lib.hid (by rw [HR2.out, if_neg h1])
    have s1 : ((r : Int) != 1) = true := by simp; omega
    have s2 : ((r : Int) == 1) = false := by simp; omega
    clear h1
    go_enter Tryz.func26, Tryz.ntmps26
    go_upto_region 1 with (fail)
    rw [HW0.out, HW1.out, HEb.out]
    go_wp2_with (first | (go_at_call 38; refine (HRu.out _).mono ?_; rintro e w2 ⟨rfl, hb2⟩; have HX2 := Lib.hid hb2; (obtain ⟨g0, g1, g2, g3, g4⟩ := fl_cells (HE.out _ hb2).1); (obtain ⟨z0, z1⟩ := en_cells (HE.out _ hb2).2); clear hb2) | (go_at_call 22; refine (HVa.out _ HX2.out).mono ?_; rintro e w3 ⟨u, rfl, hit, hb3⟩; clear d0 d1 d2 d3 d4 e0 e1 g0 g1 g2 g3 g4 z0 z1; have HX3 := Lib.hid (bthen HX2.out hb3); (obtain ⟨g0, g1, g2, g3, g4⟩ := fl_cells (HE.out _ HX3.out).1); (obtain ⟨z0, z1⟩ := en_cells (HE.out _ HX3.out).2); (obtain ⟨ua, uc, hu, hum, huc⟩ := hit); (rw [← HMl.out] at hu hum); subst hu; have HUc := Lib.hid huc; have HB3w := Lib.hid hb3; clear hb3 huc) | (go_at_call 38; refine (HRu.out _).mono ?_; rintro e w4 ⟨rfl, hb4⟩; have HX4 := Lib.hid (bthen HX3.out hb4); clear hb4))
    go_ret
    exact ⟨by rw [HRa.out]; rfl, bthen HB1.out HX4.out⟩
end Go.Proofs.YtdgnefcpeocbjaaGreatDoor

