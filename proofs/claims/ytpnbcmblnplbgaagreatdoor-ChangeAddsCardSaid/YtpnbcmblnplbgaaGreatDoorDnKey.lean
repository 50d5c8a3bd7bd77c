/- dn.Key: the walk; what awake asks. -/
import Derived.Test.YtpnbcmblnplbgaaGreatDoorDnTextW
import Derived.Test.YtpnbcmblnplbgaaGreatDoorDnLowAll
import Derived.Laws.OwnMore
namespace Go.Proofs.YtpnbcmblnplbgaaGreatDoor
open Go.RowKit
set_option linter.unusedVariables false

theorem cellsR_set : ∀ (l : List R) (j : Nat) (r : R), ((cellsR l).set (j * 2) (strV r.1)).set (j * 2 + 1) (strV r.2) = cellsR (l.set j r)
  | [], _, _ => rfl
  | x :: l, 0, r => rfl
  | x :: l, j + 1, r => by
    have := cellsR_set l j r
    rw [show (j + 1) * 2 = j * 2 + 2 from by omega]
    show _ :: _ :: ((cellsR l).set (j * 2) _).set (j * 2 + 1) _ = _
    rw [this]; rfl
theorem ownR_set {B : Nat} {w : World} {l : List R} {g c : Nat} (h : OwnR B w (.slice (some ⟨g, 0, none⟩) l.length c) l) (j : Nat) (r : R) :
    OwnR B ((w.setCell ⟨g, j * 2, none⟩ (strV r.1)).setCell ⟨g, j * 2 + 1, none⟩ (strV r.2)) (.slice (some ⟨g, 0, none⟩) (l.set j r).length c) (l.set j r) := by
  have h2 := (World.ownsRow.stored (World.ownsRow.stored h (j * 2) (strV r.1)).1 (j * 2 + 1) (strV r.2)).1
  rw [cellsR_set] at h2
  unfold OwnR
  rw [List.length_set]
  exact h2
theorem ownR_cells {B : Nat} {w : World} {l : List R} {g n c : Nat} (h : OwnR B w (.slice (some ⟨g, 0, none⟩) n c) l) (j : Nat) (hj : j < l.length) :
    w.cell? ⟨g, j * 2, none⟩ = some (strV l[j].1) ∧ w.cell? ⟨g, j * 2 + 1, none⟩ = some (strV l[j].2) ∧ w.frozen? ⟨g, j * 2, none⟩ = false ∧ w.frozen? ⟨g, j * 2 + 1, none⟩ = false := by
  have hne : l ≠ [] := by intro e; subst e; simp at hj
  obtain ⟨g', c', hv, _, _, hc⟩ := ownR_at h hne
  simp only [Value.slice.injEq, Option.some.injEq, Addr.mk.injEq, and_true] at hv
  obtain ⟨rfl, rfl, rfl⟩ := hv
  exact ⟨(hc j hj).1, (hc j hj).2, World.ownsRow.frozenAt h _, World.ownsRow.frozenAt h _⟩

def curL (L : List R) (j : Nat) : List R := (L.take j).map normR ++ L.drop j
theorem curL_length (L : List R) (j : Nat) : (curL L j).length = L.length := by simp [curL]; omega
theorem curL_zero (L : List R) : curL L 0 = L := by simp [curL]
theorem curL_full (L : List R) : curL L L.length = L.map normR := by simp [curL]
theorem curL_get (L : List R) (j : Nat) (h : j < L.length) (h' : j < (curL L j).length) : (curL L j)[j] = L[j] := by
  have e : (curL L j)[j]? = L[j]? := by
    unfold curL
    rw [List.getElem?_append_right (by simp; omega)]
    have e2 : j - ((L.take j).map normR).length = 0 := by simp; omega
    rw [e2, List.getElem?_drop]
    rfl
  rw [List.getElem?_eq_getElem h', List.getElem?_eq_getElem h] at e
  simpa using e
theorem curL_next (L : List R) (j : Nat) (h : j < L.length) : (curL L j).set j (normR L[j]) = curL L (j + 1) := by
  have e2 : j - ((L.take j).map normR).length = 0 := by simp; omega
  have hd := List.drop_eq_getElem_cons h
  have ht := List.take_succ_eq_append_getElem h
  unfold curL
  rw [List.set_append_right _ _ (by simp; omega), e2, hd, ht, List.set_cons_zero, List.map_append, List.append_assoc]
  rfl

def keyL (l : List R) : Option (List UInt8) := if l.all okF = true then some (textD (l.map normR)) else none
theorem keyD_eq (s : List UInt8) : keyD s = (parseD s).bind keyL := by
  unfold keyD
  cases parseD s <;> rfl
def keyV (o : Option (List UInt8)) : Value := match o with
  | some k => .tuple #[.string ⟨k.toArray⟩, .bool true]
  | none => .tuple #[.string ⟨#[]⟩, .bool false]
theorem okL_small {l : List R} (h : okL l = true) : smallL l := by
  unfold okL at h
  simp only [Bool.and_eq_true, decide_eq_true_eq, List.all_eq_true] at h
  refine ⟨by omega, fun r hr => ?_⟩
  have := h.2 r hr
  unfold okR okType at this
  simp only [Bool.and_eq_true, decide_eq_true_eq] at this
  omega

set_option maxRecDepth 100000 in
set_option maxHeartbeats 4000000 in
theorem key_any (s : ByteArray) (hs : s.size ≤ 140737488351232) (w : World) : Calls Tryz.prog 57 #[.string s] w fun e w' => e = .returned (keyV (keyD s.data.toList)) ∧ Below w.heap.size w w' := by
  have hp := parse_any s hs w
  rw [keyD_eq]
  cases hpd : parseD s.data.toList with
  | none =>
    rw [hpd] at hp
    have HP := Lib.hid hp
    clear hp hpd
    go_enter Tryz.func57, Tryz.ntmps57
    go_wp2_with (go_at_call 70; refine (HP.out).mono ?_; rintro e w2 ⟨hb2, rfl⟩; have HB2 := Lib.hid hb2; clear hb2)
    go_ret2
    exact ⟨rfl, HB2.out⟩
  | some L =>
    rw [hpd] at hp
    have hok := parse_ok hpd
    have HP := Lib.hid hp
    have HOk := Lib.hid hok
    have hsm := okL_small hok
    have HSm := Lib.hid hsm
    have hL8 : L.length ≤ 8 := by
      unfold okL at hok
      simp only [Bool.and_eq_true, decide_eq_true_eq] at hok
      exact hok.1
    show Calls Tryz.prog 57 #[.string s] w fun e w' => e = .returned (keyV (keyL L)) ∧ Below w.heap.size w w'
    clear hp hpd hok hsm
    go_enter Tryz.func57, Tryz.ntmps57
    go_wp2_with (go_at_call 70; refine (HP.out).mono ?_; rintro e w2 ⟨hb2, v, rfl, hown⟩; obtain ⟨a, c, rfl⟩ := ownR_slice hown; have HB2 := Lib.hid hb2; have HO2 := Lib.hid hown; clear hb2 hown)
    go_loopw [18] (fun i wr => ∃ j : Nat, j ≤ L.length ∧ i = .int .i64 j ∧ OwnR w.heap.size wr (.slice a L.length c) (curL L j) ∧ (L.take j).all okF = true ∧ Below w.heap.size w wr) (fun i _ => L.length - (intOf i).toNat)
    case atStart => exact ⟨0, by omega, rfl, by rw [curL_zero]; exact HO2.out, by simp, HB2.out⟩
    case round =>
      obtain ⟨j, hj, rfl, hown, hall, hbel⟩ := hrel
      have HBel := Lib.hid hbel
      have hbs := hbel.size
      by_cases hlt : j < L.length
      · have t1 : decide ((j : Int) < (L.length : Int)) = true := by simp; omega
        have t1' : decide (j < L.length) = true := by simpa using hlt
        have hne : curL L j ≠ [] := by intro e; have := curL_length L j; rw [e] at this; simp at this; omega
        obtain ⟨g, c', hv, hBg, hgs, hcell⟩ := ownR_at hown hne
        rw [curL_length] at hv
        simp only [Value.slice.injEq, true_and] at hv
        obtain ⟨rfl, rfl⟩ := hv
        have hjl : j < (curL L j).length := by rw [curL_length]; exact hlt
        obtain ⟨c0, c1⟩ := hcell j hjl
        rw [curL_get L j hlt hjl] at c0 c1
        obtain ⟨X, hX⟩ : ∃ X : ByteArray, X = ⟨L[j].1.toArray⟩ := ⟨_, rfl⟩
        obtain ⟨Y, hY⟩ : ∃ Y : ByteArray, Y = ⟨L[j].2.toArray⟩ := ⟨_, rfl⟩
        have hXl : X.data.toList = L[j].1 := by rw [hX]
        have hYl : Y.data.toList = L[j].2 := by rw [hY]
        have hXs : X.size ≤ 1000 := by rw [← bytes_len, hXl]; exact (HSm.out.2 _ (List.getElem_mem hlt)).1
        have hYs : Y.size ≤ 1000 := by rw [← bytes_len, hYl]; exact (HSm.out.2 _ (List.getElem_mem hlt)).2
        have d0 : wr.cell? ⟨g, j * 2, none⟩ = some (.string X) := by rw [c0, hX]; rfl
        have d1 : wr.cell? ⟨g, j * 2 + 1, none⟩ = some (.string Y) := by rw [c1, hY]; rfl
        have hbox := boxR_new wr X Y
        have HBox := Lib.hid hbox
        have hal : Below wr.heap.size wr (wr.alloc (.cells #[.string X, .string Y] 50)) := (Below.refl _ _).alloc (Nat.le_refl _) _
        have HAl := Lib.hid hal
        have HOwn := Lib.hid hown
        have hfo := fun w => fold_any trim_any Y w (by omega)
        have hlo := fun w => lowerAll_any X w (by omega)
        obtain ⟨F, hF⟩ : ∃ F, F = foldB Y := ⟨_, rfl⟩
        obtain ⟨Z, hZ⟩ : ∃ Z, Z = lowB X := ⟨_, rfl⟩
        have hFl : F.data.toList = fold L[j].2 := by rw [hF, ← hYl]; rfl
        have hZl : Z.data.toList = low L[j].1 := by rw [hZ, ← hXl]; rfl
        simp only [← hF] at hfo
        simp only [← hZ] at hlo
        have HFo := Lib.hid hfo
        have HLo := Lib.hid hlo
        obtain ⟨k0, k1, _, _⟩ := hbox.cells
        have htk : (L.take (j + 1)).all okF = okF L[j] := by rw [List.take_succ_eq_append_getElem hlt, List.all_append, hall]; simp
        have hokf : okF L[j] = !F.data.toList.isEmpty := by unfold okF; rw [hFl]
        have HFl := Lib.hid hFl
        have HZl := Lib.hid hZl
        clear hX hXl hY hYl c0 c1 hF hZ hFl hZl hcell hbox hal hown hbel hne hfo hlo hjl
        by_cases hFe : F.data.toList = []
        · obtain ⟨e1, e2⟩ := bytes_nil hFe
          have hno : keyL L = none := by
            unfold keyL
            rw [if_neg]
            intro hh
            have := List.all_eq_true.1 hh _ (List.getElem_mem hlt)
            rw [hokf, hFe] at this
            simp at this
          have HNo := Lib.hid hno
          clear htk hokf hFe hno
          go_wp2_with (first
            | (go_at_call 81; refine (HFo.out _).mono ?_; rintro e w3 ⟨rfl, hb3⟩; have HB3 := Lib.hid hb3; clear hb3))
          go_ret2
          rw [HNo.out]
          exact ⟨rfl, bthen (HBel.out.trans (HAl.out.mono hbs)) HB3.out⟩
        · obtain ⟨e1, e2⟩ := bytes_some hFe
          have hyes : (L.take (j + 1)).all okF = true := by
            rw [htk, hokf]
            cases h : F.data.toList with
            | nil => exact absurd h hFe
            | cons x r => rfl
          have HYes := Lib.hid hyes
          clear htk hokf hFe hyes
          go_wp2_with (first
            | (go_at_call 81; refine (HFo.out _).mono ?_; rintro e w3 ⟨rfl, hb3⟩; have HB3 := Lib.hid hb3; have HX3 := Lib.hid (HBox.out.below hb3 (by simp)); obtain ⟨m0, m1, _, _⟩ := HX3.out.cells; clear hb3)
            | (go_at_call 82; refine (HLo.out _).mono ?_; rintro e w4 ⟨rfl, hb4⟩; have HB4 := Lib.hid hb4; have HO4 := Lib.hid (ownR_below (ownR_below (ownR_below HOwn.out HAl.out) HB3.out) hb4); clear hb4; obtain ⟨n0, n1, f0, f1⟩ := ownR_cells HO4.out j (by rw [curL_length]; exact hlt)))
          go_roundw
          case rel =>
            have hset := ownR_set (by rw [curL_length]; exact HO4.out) j (normR L[j])
            rw [List.length_set, curL_length, curL_next L j hlt] at hset
            refine ⟨j + 1, by omega, by go_num, ?_, HYes.out, ?_⟩
            · rw [show Value.string Z = strV (normR L[j]).1 from by show _ = strV (low L[j].1); rw [← HZl.out]; rfl, show Value.string F = strV (normR L[j]).2 from by show _ = strV (fold L[j].2); rw [← HFl.out]; rfl]
              exact hset
            · exact ((bthen (bthen (HBel.out.trans (HAl.out.mono hbs)) HB3.out) HB4.out).setCell (p := ⟨g, _, none⟩) hBg _).setCell (p := ⟨g, _, none⟩) hBg _
          case measure => simp [intOf]; omega
      · obtain rfl : j = L.length := by omega
        have t1 : decide ((L.length : Int) < (L.length : Int)) = false := by simp
        have t1' : decide (L.length < L.length) = false := by simp
        rw [curL_full] at hown
        rw [List.take_length] at hall
        have hsm2 := okL_small (okL_norm HOk.out hall)
        have hil := ownR_isL hown (by have := hsm2.1; unfold maxLen; omega)
        rw [← List.length_map (f := normR)] at hil
        have htx := text_any (L.map normR) hsm2 _ wr hil
        rw [List.length_map] at htx
        have hyes : keyL L = some (textD (L.map normR)) := by unfold keyL; rw [if_pos hall]
        have HYes := Lib.hid hyes
        have HTx := Lib.hid htx
        clear hown hall hsm2 hil htx hyes hbel
        go_wp2_with (go_at_call 71; refine (HTx.out).mono ?_; rintro e w5 ⟨rfl, hb5⟩; have HB5 := Lib.hid hb5; clear hb5)
        go_ret2
        rw [HYes.out]
        exact ⟨rfl, bthen HBel.out HB5.out⟩
end Go.Proofs.YtpnbcmblnplbgaaGreatDoor
