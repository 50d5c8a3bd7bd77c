/- The document's Key: the walk. -/
import Derived.Test.YtpnbcmblnplbgaaGreatDoorRefParseW
import Derived.Test.YtpnbcmblnplbgaaGreatDoorDnKey
import Derived.Deep.RegionLaw
import Derived.RegionTactic
import Derived.BigRegion
namespace Go.Proofs.YtpnbcmblnplbgaaGreatDoor
open Go.RowKit
set_option linter.unusedVariables false



/-- A text, or none, in a block of its own. -/
def BoxK (w : World) (b : Nat) (x : ByteArray) (ok : Bool) : Prop := w.heap[b]? = some (.cells #[.string x, .bool ok] 60 (0, 0))
theorem BoxK.below {w w' : World} {b n : Nat} {x : ByteArray} {ok : Bool} (h : BoxK w b x ok) (hb : Below n w w') (hn : b < n) : BoxK w' b x ok := (hb.block b hn).trans h
theorem BoxK.cells {w : World} {b : Nat} {x : ByteArray} {ok : Bool} (h : BoxK w b x ok) : w.cell? ⟨b, 0, none⟩ = some (.string x) ∧ w.cell? ⟨b, 1, none⟩ = some (.bool ok) ∧ w.frozen? ⟨b, 0, none⟩ = false ∧ w.frozen? ⟨b, 1, none⟩ = false := by
  unfold BoxK at h
  simp [World.cell?, World.frozen?, h]
theorem boxK_new (w : World) (x : ByteArray) (ok : Bool) : BoxK (w.alloc (.cells #[.string x, .bool ok] 60)) w.heap.size x ok := heap_alloc_new w _
theorem BoxK.store {w : World} {b : Nat} {x : ByteArray} {ok : Bool} (h : BoxK w b x ok) (x' : ByteArray) (ok' : Bool) : BoxK ((w.setCell ⟨b, 0, none⟩ (.string x')).setCell ⟨b, 1, none⟩ (.bool ok')) b x' ok' := by
  unfold BoxK at h ⊢
  simp [World.setCell, Array.getElem?_modify, h]

def saidV (o : Option (List UInt8)) : Value := match o with
  | some k => .agg #[.string ⟨k.toArray⟩, .bool true]
  | none => .agg #[.string ⟨#[]⟩, .bool false]

set_option maxRecDepth 100000 in
set_option maxHeartbeats 8000000 in
theorem keyRef_any (s : ByteArray) (hs : s.size ≤ 100000) (w : World) : Calls Tryz.prog 20 #[.string s] w fun e w' => e = .returned (saidV (keyD s.data.toList)) ∧ Below w.heap.size w w' := by
  have HBox := Lib.hid (boxK_new w ⟨#[]⟩ false)
  have hbb : Below w.heap.size w (w.alloc (.cells #[.string ⟨#[]⟩, .bool false] 60)) := (Below.refl _ _).alloc (Nat.le_refl _) _
  have HBB := Lib.hid hbb
  clear hbb
  have hp := fun w => parseRef_any s hs w
  rw [keyD_eq]
  cases hpd : parseD s.data.toList with
  | none =>
    rw [hpd] at hp
    have HP := Lib.hid hp
    clear hp hpd
    go_enter Tryz.func20, Tryz.ntmps20
    go_wp2_with (go_at_call 17; refine (HP.out _).mono ?_; rintro e w2 ⟨hb2, rfl⟩; have HB2 := Lib.hid hb2; have HX2 := Lib.hid ((HBox.out.below hb2 (by simp)).below ((Below.refl _ _).alloc (Nat.le_refl _) (.cells #[.slice none 0 0, .bool false] 53)) (by have := hb2.size; simp at this; omega)); obtain ⟨c0, c1, f0, f1⟩ := HX2.out.cells; clear hb2)
    obtain ⟨q0, q1, _, _⟩ := (HX2.out.store ⟨#[]⟩ false).cells
    refine bodyPost_ret (v := .agg #[.string ⟨#[]⟩, .bool false]) (by simp [results, Tryz.results20, go_sem, q0, q1]) rfl ⟨rfl, ?_⟩
    exact boxR_stored ((HBB.out.trans (HB2.out.mono (by simp))).alloc (by have := HB2.out.size; simp at this; omega) _) (Nat.le_refl _) _ _
  | some L =>
    rw [hpd] at hp
    have hok := parse_ok hpd
    have HOk := Lib.hid hok
    have hsm := okL_small hok
    have HSm := Lib.hid hsm
    have hL8 : L.length ≤ 8 := by
      unfold okL at hok
      simp only [Bool.and_eq_true, decide_eq_true_eq] at hok
      exact hok.1
    have HP := Lib.hid hp
    show Calls Tryz.prog 20 #[.string s] w fun e w' => e = .returned (saidV (keyL L)) ∧ Below w.heap.size w w'
    clear hp hpd hok hsm
    go_enter Tryz.func20, Tryz.ntmps20
    go_wp2_with (go_at_call 17; refine (HP.out _).mono ?_; rintro e w2 ⟨hb2, v, rfl, hil2⟩; have HIL2 := Lib.hid hil2; (obtain ⟨a, c, rfl, _, _⟩ := hil2); have HB2 := Lib.hid hb2; have HX2 := Lib.hid (HBox.out.below hb2 (by simp)); obtain ⟨k0, k1, _, _⟩ := (boxD_new w2 (.slice a L.length c) true).cells; clear hb2)
    have hbw2 : w.heap.size < w2.heap.size := by have := HB2.out.size; simp at this; omega
    have hw2 : Below w.heap.size w w2 := HBB.out.trans (HB2.out.mono (by simp))
    obtain ⟨W, hW⟩ : ∃ W, W = w2.alloc (.cells #[.slice a L.length c, .bool true] 53) := ⟨_, rfl⟩
    obtain ⟨bd, hbd⟩ : ∃ bd, bd = w2.heap.size := ⟨_, rfl⟩
    have hbW : Below w2.heap.size w2 W := by rw [hW]; exact (Below.refl _ _).alloc (Nat.le_refl _) _
    have hdW : bd < W.heap.size := by rw [hW, hbd]; simp
    have hsW : w2.heap.size ≤ W.heap.size := hbW.size
    have HILW := Lib.hid (HIL2.out.below hbW hsW)
    have HXW := Lib.hid (HX2.out.below hbW hbw2)
    have HwW := Lib.hid (hw2.trans (hbW.mono (Nat.le_of_lt hbw2)))
    have hkd : W.cell? ⟨bd, 0, none⟩ = some (.slice a L.length c) := by rw [hW, hbd]; exact k0
    have HKd := Lib.hid hkd
    rw [← hW, ← hbd]
    have hwW : w.heap.size < W.heap.size := Nat.lt_of_lt_of_le hbw2 hsW
    clear hW hbd hbW hw2 k0 k1 hkd HIL2 HX2 hsW
    go_loopw [4, 5] (fun x i wr => ∃ j : Nat, j ≤ L.length ∧ i = .int .i64 j ∧ OwnR W.heap.size wr x ((L.take j).map normR) ∧ (L.take j).all okF = true ∧ Below W.heap.size W wr) (fun _ i _ => L.length - (intOf i).toNat)
    case atStart => exact ⟨0, by omega, rfl, ownR_nil _ _, by simp, Below.refl _ _⟩
    case round =>
      obtain ⟨j, hj, rfl, hown, hall, hbel⟩ := hrel
      obtain ⟨ax, cx, rfl⟩ := ownR_slice hown
      have hlen : ((L.take j).map normR).length ≤ 8 := by simp; omega
      have hjl : ((L.take j).map normR).length = j := by simp; omega
      rw [hjl] at hown ⊢
      clear hjl
      have HBel := Lib.hid hbel
      have hbs := hbel.size
      have HOwn := Lib.hid hown
      have HX := Lib.hid (HXW.out.below hbel hwW)
      have kd : wr.cell? ⟨bd, 0, none⟩ = some (.slice a L.length c) := by rw [hbel.cell (p := ⟨bd, _, none⟩) hdW]; exact HKd.out
      have hdr : bd < wr.heap.size := Nat.lt_of_lt_of_le hdW hbs
      by_cases hlt : j < L.length
      · have t1 : decide ((j : Int) < (L.length : Int)) = true := by simp; omega
        have t1' : decide (j < L.length) = true := by simpa using hlt
        obtain ⟨a', c', hv, _, hcell⟩ := HILW.out
        simp only [Value.slice.injEq, true_and] at hv
        obtain ⟨rfl, rfl⟩ := hv
        obtain ⟨g, off, rfl, hgW, c0, c1⟩ := hcell j hlt
        obtain ⟨X, hX⟩ : ∃ X : ByteArray, X = ⟨L[j].1.toArray⟩ := ⟨_, rfl⟩
        obtain ⟨Y, hY⟩ : ∃ Y : ByteArray, Y = ⟨L[j].2.toArray⟩ := ⟨_, rfl⟩
        have hXl : X.data.toList = L[j].1 := by rw [hX]
        have hYl : Y.data.toList = L[j].2 := by rw [hY]
        have hXs : X.size ≤ 1000 := by rw [← bytes_len, hXl]; exact (HSm.out.2 _ (List.getElem_mem hlt)).1
        have hYs : Y.size ≤ 1000 := by rw [← bytes_len, hYl]; exact (HSm.out.2 _ (List.getElem_mem hlt)).2
        have d0 : wr.cell? ⟨g, off + j * 2, none⟩ = some (.string X) := by rw [hbel.cell (p := ⟨g, _, none⟩) hgW, c0, hX]; rfl
        have d1 : wr.cell? ⟨g, off + j * 2 + 1, none⟩ = some (.string Y) := by rw [hbel.cell (p := ⟨g, _, none⟩) hgW, c1, hY]; rfl
        have hgr : g < wr.heap.size := Nat.lt_of_lt_of_le hgW hbs
        have hfo := fun w => foldRef_any Y w (by omega)
        have hlo := fun w => lowerRef_any X w (by omega)
        obtain ⟨F, hF⟩ : ∃ F, F = foldB Y := ⟨_, rfl⟩
        obtain ⟨Z, hZ⟩ : ∃ Z, Z = lowB X := ⟨_, rfl⟩
        have hFl : F.data.toList = fold L[j].2 := by rw [hF, ← hYl]; rfl
        have hZl : Z.data.toList = low L[j].1 := by rw [hZ, ← hXl]; rfl
        simp only [← hF] at hfo
        simp only [← hZ] at hlo
        have HFo := Lib.hid hfo
        have HLo := Lib.hid hlo
        have q1 : (j : Int) < (L.length : Int) := by omega
        have q2 : (0 : Int) ≤ (j : Int) := by omega
        have HFl := Lib.hid hFl
        have HZl := Lib.hid hZl
        have HAll := Lib.hid hall
        clear hX hXl hY hYl c0 c1 hF hZ hFl hZl hcell hown hbel hfo hlo hall
        go_wp2
        go_region_law (first
          | (go_simp; go_at_call 34; refine (HLo.out _).mono ?_; rintro e w5 ⟨rfl, hb5⟩; have hx5 : Below wr.heap.size wr w5 := (by first | exact ((Below.refl wr.heap.size wr).drew).trans hb5 | exact (((Below.refl wr.heap.size wr).drew).alloc (Nat.le_refl _) _).trans (hb5.mono (by simp))); have x0 := (hx5.cell (p := ⟨bd, 0, none⟩) hdr).trans kd; have x1 := (hx5.cell (p := ⟨g, _, none⟩) hgr).trans d1; have x2 := hx5.size; have x3 : g < w5.heap.size := Nat.lt_of_lt_of_le hgr x2; have x4 : bd < w5.heap.size := Nat.lt_of_lt_of_le hdr x2; (first | (have hy5 : BoxR w5 wr.heap.size ⟨#[]⟩ ⟨#[]⟩ := (hb5.block wr.heap.size (by simp)).trans (by first | exact heap_alloc_new wr _ | exact heap_alloc_new wr.drew _); obtain ⟨y0, y1, yf0, yf1⟩ := hy5.cells; have HY5 := Lib.hid hy5; clear hy5) | skip))
          | (go_simp; go_at_call 35; refine (HFo.out _).mono ?_; rintro e w6 ⟨rfl, hb6⟩; have hx6 : Below wr.heap.size wr w6 := (by first | exact hx5.trans (hb6.mono hx5.size) | exact (hx5.alloc hx5.size _).trans (hb6.mono (by simp; omega))); (first | (have hy6 := (boxR_new _ ⟨#[]⟩ ⟨#[]⟩).below hb6 (by simp); obtain ⟨z0, z1, zf0, zf1⟩ := hy6.cells; have HY6 := Lib.hid hy6; clear hy6) | (have hy6 := HY5.out.below hb6 (by have := hb5.size; simp at this; omega); obtain ⟨z0, z1, zf0, zf1⟩ := hy6.cells; have HY6 := Lib.hid hy6; clear hy6) | skip)))
        all_goals (
          first
            | (obtain ⟨W8, hW8⟩ : ∃ W8, W8 = w6.alloc (.cells #[.string Z, .string F] 50) := ⟨_, rfl⟩
               have hbx : BoxR (w6.alloc (.cells #[.string Z, .string F] 50)) w6.heap.size Z F := boxR_new w6 Z F
               have hb8 : Below wr.heap.size wr (w6.alloc (.cells #[.string Z, .string F] 50)) := hx6.alloc hx6.size _
               rw [← hW8] at hbx hb8 ⊢)
            | (obtain ⟨W8, hW8⟩ : ∃ W8, W8 = (w6.setCell ⟨w5.heap.size, 0, none⟩ (.string Z)).setCell ⟨w5.heap.size, 1, none⟩ (.string F) := ⟨_, rfl⟩
               have hbx : BoxR ((w6.setCell ⟨w5.heap.size, 0, none⟩ (.string Z)).setCell ⟨w5.heap.size, 1, none⟩ (.string F)) w5.heap.size Z F := HY6.out.store Z F
               have hb8 : Below wr.heap.size wr ((w6.setCell ⟨w5.heap.size, 0, none⟩ (.string Z)).setCell ⟨w5.heap.size, 1, none⟩ (.string F)) := boxR_stored hx6 hx5.size _ _
               rw [← hW8] at hbx hb8 ⊢)
            | (obtain ⟨W8, hW8⟩ : ∃ W8, W8 = (w6.setCell ⟨wr.heap.size, 0, none⟩ (.string Z)).setCell ⟨wr.heap.size, 1, none⟩ (.string F) := ⟨_, rfl⟩
               have hbx : BoxR ((w6.setCell ⟨wr.heap.size, 0, none⟩ (.string Z)).setCell ⟨wr.heap.size, 1, none⟩ (.string F)) wr.heap.size Z F := HY6.out.store Z F
               have hb8 : Below wr.heap.size wr ((w6.setCell ⟨wr.heap.size, 0, none⟩ (.string Z)).setCell ⟨wr.heap.size, 1, none⟩ (.string F)) := boxR_stored hx6 (Nat.le_refl _) _ _
               rw [← hW8] at hbx hb8 ⊢)
          obtain ⟨r0, r1, rf0, rf1⟩ := hbx.cells
          have HB8 := Lib.hid hb8
          clear hbx hb8 hW8
          have hokf : okF L[j] = !F.data.toList.isEmpty := by unfold okF; rw [HFl.out]
          by_cases hFe : F.data.toList = []
          · obtain ⟨e1, e2⟩ := bytes_nil hFe
            have hno : keyL L = none := by
              unfold keyL
              rw [if_neg]
              intro hh
              have := List.all_eq_true.1 hh _ (List.getElem_mem hlt)
              rw [hokf, hFe] at this
              simp at this
            have HNo := Lib.hid hno
            obtain ⟨c0, c1, f0, f1⟩ := (HX.out.below HB8.out (Nat.lt_of_lt_of_le hwW hbs)).cells
            clear hokf hFe hno
            go_wp2
            obtain ⟨q0, q1, _, _⟩ := ((HX.out.below HB8.out (Nat.lt_of_lt_of_le hwW hbs)).store ⟨#[]⟩ false).cells
            refine bodyPost_ret (v := .agg #[.string ⟨#[]⟩, .bool false]) (by simp [results, Tryz.results20, go_sem, q0, q1]) rfl ?_
            rw [HNo.out]
            exact ⟨rfl, boxR_stored (HwW.out.trans ((HBel.out.trans (HB8.out.mono hbs)).mono (Nat.le_of_lt hwW))) (Nat.le_refl _) _ _⟩
          · obtain ⟨e1, e2⟩ := bytes_some hFe
            have hyes : (L.take (j + 1)).all okF = true := by
              rw [List.take_succ_eq_append_getElem hlt, List.all_append, HAll.out]
              simp only [List.all_cons, List.all_nil, Bool.and_true, Bool.true_and]
              rw [hokf]
              cases h : F.data.toList with
              | nil => exact absurd h hFe
              | cons x r => rfl
            have HYes := Lib.hid hyes
            have HO8 := Lib.hid (ownR_below HOwn.out HB8.out)
            clear hokf hFe hyes
            go_wp2_with (at_builtin; refine wpList_append_rdn rfl (.tmp 39) (.tmp 41) rfl W.heap.size (.slice ax j cx) ((L.take j).map normR) rfl Z F HO8.out rfl (by omega) (Nat.le_trans hbs HB8.out.size) ?_; intro v9 w9 hown9 hb9; have HO9 := Lib.hid hown9; have HB9 := Lib.hid hb9; clear hown9 hb9)
            go_roundw
            case rel =>
              have hnx : (L.take j).map normR ++ [(Z.data.toList, F.data.toList)] = (L.take (j + 1)).map normR := by rw [List.take_succ_eq_append_getElem hlt, List.map_append, HZl.out, HFl.out]; rfl
              exact ⟨j + 1, by omega, by go_num, hnx ▸ HO9.out, HYes.out, (HBel.out.trans (HB8.out.mono hbs)).trans HB9.out⟩
            case measure => simp [intOf]; omega)
      · obtain rfl : j = L.length := by omega
        have t1 : decide ((L.length : Int) < (L.length : Int)) = false := by simp
        have t1' : decide (L.length < L.length) = false := by simp
        rw [List.take_length] at hown hall
        have hsm2 := okL_small (okL_norm HOk.out hall)
        have hil := ownR_isL hown (by have := hsm2.1; unfold maxLen; omega)
        obtain ⟨T, hT⟩ : ∃ T : ByteArray, T = ⟨(textD (L.map normR)).toArray⟩ := ⟨_, rfl⟩
        have htx : Calls Tryz.prog 32 #[.slice ax L.length cx] wr fun e w' => e = .returned (.string T) ∧ Below wr.heap.size wr w' := by rw [hT]; exact textRef_any (L.map normR) hsm2 _ wr hil
        have hyes : saidV (keyL L) = .agg #[.string T, .bool true] := by unfold keyL; rw [if_pos hall, hT]; rfl
        have HYes := Lib.hid hyes
        have HTx := Lib.hid htx
        clear hown HOwn hall hsm2 hil htx hyes hbel hT
        go_wp2_with (go_at_call 32; refine (HTx.out).mono ?_; rintro e w5 ⟨rfl, hb5⟩; have HB5 := Lib.hid hb5; have HX5 := Lib.hid (HX.out.below hb5 (Nat.lt_of_lt_of_le hwW hbs)); obtain ⟨c0, c1, f0, f1⟩ := HX5.out.cells; clear hb5)
        obtain ⟨q0, q1, _, _⟩ := (HX5.out.store T true).cells
        refine bodyPost_ret (v := .agg #[.string T, .bool true]) (by simp [results, Tryz.results20, go_sem, q0, q1]) rfl ?_
        rw [HYes.out]
        exact ⟨rfl, boxR_stored (HwW.out.trans ((HBel.out.trans (HB5.out.mono hbs)).mono (Nat.le_of_lt hwW))) (Nat.le_refl _) _ _⟩
end Go.Proofs.YtpnbcmblnplbgaaGreatDoor
