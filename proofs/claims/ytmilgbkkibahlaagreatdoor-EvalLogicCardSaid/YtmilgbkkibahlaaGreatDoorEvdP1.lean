/- Several texts in one file: DnKey, MaNum, MaNorm, MaSame, EnHas, EvPure, EvNotP, EvNoW, FiAsked, FiLeaf, FiNext, FiHold, FiHead, FiParse, FiTextW, FiAwake, FiDeep, FiMkP, RegInv, RegFact, RegTwo, RegJ, EvNotR, EvSome, EvMade. -/
import Derived.Test.YtmilgbkkibahlaaGreatDoorDnTextW
import Derived.Test.YtmilgbkkibahlaaGreatDoorDnLowAll
import Derived.Laws.OwnMore
import Derived.Test.YtmilgbkkibahlaaGreatDoorMaFind
import Derived.Lib.SmallJoins
import Derived.Lib.AppendIntMem
import Derived.OwnWalk
import Derived.Test.YtmilgbkkibahlaaGreatDoorEnFind
import Derived.Test.YtmilgbkkibahlaaGreatDoorFiPure
import Derived.Test.YtmilgbkkibahlaaGreatDoorFiAsk
import Derived.Deep.RegionLaw
import Derived.RegionTactic
import Derived.Test.YtmilgbkkibahlaaGreatDoorFiText
import Derived.Laws.LoneSync
import Derived.Deep.RegionHeld3
import Derived.Laws.Externs
import Derived.Test.YtmilgbkkibahlaaGreatDoorFiWrite
import Derived.Test.YtmilgbkkibahlaaGreatDoorFiSamR
import Derived.Laws.MakeOwn
import Derived.Laws.Rows
import Derived.Test.YtmilgbkkibahlaaGreatDoorFiRead
import Derived.Below
import Derived.Test.YtmilgbkkibahlaaGreatDoorDnLib
import Derived.Test.YtmilgbkkibahlaaGreatDoorFiMay
import Derived.Deep.Cut
namespace Go.Proofs.YtmilgbkkibahlaaGreatDoor
open Go.RowKit
set_option linter.unusedVariables false

theorem cellsR_set : ∀ (l : List R) (j : Nat) (r : R), ((cellsR l).set (j * 2) (strV r.1)).set (j * 2 + 1) (strV r.2) = cellsR (l.set j r)
  | [], _, _ => rfl
  | x :: l, 0, r => rfl
  | x :: l, j + 1, r => by
    have := cellsR_set l j r
    rw [show (j + 1) * 2 = j * 2 + 2 from by omega]
    show _ :: _ :: ((cellsR l).set (j * 2) _).set (j * 2 + 1) _ = _
    rw [this]; rfl
theorem ownR_set {B : Nat} {w : World} {l : List R} {g c : Nat} (h : OwnR B w (.slice (some ⟨g, 0, none⟩) l.length c) l) (j : Nat) (r : R) :
    OwnR B ((w.setCell ⟨g, j * 2, none⟩ (strV r.1)).setCell ⟨g, j * 2 + 1, none⟩ (strV r.2)) (.slice (some ⟨g, 0, none⟩) (l.set j r).length c) (l.set j r) := by
  have h2 := (World.ownsRow.stored (World.ownsRow.stored h (j * 2) (strV r.1)).1 (j * 2 + 1) (strV r.2)).1
  rw [cellsR_set] at h2
  unfold OwnR
  rw [List.length_set]
  exact h2
theorem ownR_cells {B : Nat} {w : World} {l : List R} {g n c : Nat} (h : OwnR B w (.slice (some ⟨g, 0, none⟩) n c) l) (j : Nat) (hj : j < l.length) :
    w.cell? ⟨g, j * 2, none⟩ = some (strV l[j].1) ∧ w.cell? ⟨g, j * 2 + 1, none⟩ = some (strV l[j].2) ∧ w.frozen? ⟨g, j * 2, none⟩ = false ∧ w.frozen? ⟨g, j * 2 + 1, none⟩ = false := by
  have hne : l ≠ [] := by intro e; subst e; simp at hj
  obtain ⟨g', c', hv, _, _, hc⟩ := ownR_at h hne
  simp only [Value.slice.injEq, Option.some.injEq, Addr.mk.injEq, and_true] at hv
  obtain ⟨rfl, rfl, rfl⟩ := hv
  exact ⟨(hc j hj).1, (hc j hj).2, World.ownsRow.frozenAt h _, World.ownsRow.frozenAt h _⟩

def curL (L : List R) (j : Nat) : List R := (L.take j).map normR ++ L.drop j
theorem curL_length (L : List R) (j : Nat) : (curL L j).length = L.length := by simp [curL]; omega
theorem curL_zero (L : List R) : curL L 0 = L := by simp [curL]
theorem curL_full (L : List R) : curL L L.length = L.map normR := by simp [curL]
theorem curL_get (L : List R) (j : Nat) (h : j < L.length) (h' : j < (curL L j).length) : (curL L j)[j] = L[j] := by
  have e : (curL L j)[j]? = L[j]? := by
    unfold curL
    rw [List.getElem?_append_right (by simp; omega)]
    have e2 : j - ((L.take j).map normR).length = 0 := by simp; omega
    rw [e2, List.getElem?_drop]
    rfl
  rw [List.getElem?_eq_getElem h', List.getElem?_eq_getElem h] at e
  simpa using e
theorem curL_next (L : List R) (j : Nat) (h : j < L.length) : (curL L j).set j (normR L[j]) = curL L (j + 1) := by
  have e2 : j - ((L.take j).map normR).length = 0 := by simp; omega
  have hd := List.drop_eq_getElem_cons h
  have ht := List.take_succ_eq_append_getElem h
  unfold curL
  rw [List.set_append_right _ _ (by simp; omega), e2, hd, ht, List.set_cons_zero, List.map_append, List.append_assoc]
  rfl

def keyL (l : List R) : Option (List UInt8) := if l.all okF = true then some (textD (l.map normR)) else none
theorem keyD_eq (s : List UInt8) : keyD s = (parseD s).bind keyL := by
  unfold keyD
  cases parseD s <;> rfl
def keyV (o : Option (List UInt8)) : Value := match o with
  | some k => .tuple #[.string ⟨k.toArray⟩, .bool true]
  | none => .tuple #[.string ⟨#[]⟩, .bool false]
theorem okL_small {l : List R} (h : okL l = true) : smallL l := by
  unfold okL at h
  simp only [Bool.and_eq_true, decide_eq_true_eq, List.all_eq_true] at h
  refine ⟨by omega, fun r hr => ?_⟩
  have := h.2 r hr
  unfold okR okType at this
  simp only [Bool.and_eq_true, decide_eq_true_eq] at this
  omega

set_option maxRecDepth 100000 in
set_option maxHeartbeats 4000000 in
theorem key_any (s : ByteArray) (hs : s.size ≤ 140737488351232) (w : World) : Calls Tryz.prog 56 #[.string s] w fun e w' => e = .returned (keyV (keyD s.data.toList)) ∧ Below w.heap.size w w' := by
  have hp := parse_any s hs w
  rw [keyD_eq]
  cases hpd : parseD s.data.toList with
  | none =>
    rw [hpd] at hp
    have HP := Lib.hid hp
    clear hp hpd
    go_enter Tryz.func56, Tryz.ntmps56
    go_wp2_with (go_at_call 73; refine (HP.out).mono ?_; rintro e w2 ⟨hb2, rfl⟩; have HB2 := Lib.hid hb2; clear hb2)
    go_ret2
    exact ⟨rfl, HB2.out⟩
  | some L =>
    rw [hpd] at hp
    have hok := parse_ok hpd
    have HP := Lib.hid hp
    have HOk := Lib.hid hok
    have hsm := okL_small hok
    have HSm := Lib.hid hsm
    have hL8 : L.length ≤ 8 := by
      unfold okL at hok
      simp only [Bool.and_eq_true, decide_eq_true_eq] at hok
      exact hok.1
    show Calls Tryz.prog 56 #[.string s] w fun e w' => e = .returned (keyV (keyL L)) ∧ Below w.heap.size w w'
    clear hp hpd hok hsm
    go_enter Tryz.func56, Tryz.ntmps56
    go_wp2_with (go_at_call 73; refine (HP.out).mono ?_; rintro e w2 ⟨hb2, v, rfl, hown⟩; obtain ⟨a, c, rfl⟩ := ownR_slice hown; have HB2 := Lib.hid hb2; have HO2 := Lib.hid hown; clear hb2 hown)
    go_loopw [18] (fun i wr => ∃ j : Nat, j ≤ L.length ∧ i = .int .i64 j ∧ OwnR w.heap.size wr (.slice a L.length c) (curL L j) ∧ (L.take j).all okF = true ∧ Below w.heap.size w wr) (fun i _ => L.length - (intOf i).toNat)
    case atStart => exact ⟨0, by omega, rfl, by rw [curL_zero]; exact HO2.out, by simp, HB2.out⟩
    case round =>
      obtain ⟨j, hj, rfl, hown, hall, hbel⟩ := hrel
      have HBel := Lib.hid hbel
      have hbs := hbel.size
      by_cases hlt : j < L.length
      · have t1 : decide ((j : Int) < (L.length : Int)) = true := by simp; omega
        have t1' : decide (j < L.length) = true := by simpa using hlt
        have hne : curL L j ≠ [] := by intro e; have := curL_length L j; rw [e] at this; simp at this; omega
        obtain ⟨g, c', hv, hBg, hgs, hcell⟩ := ownR_at hown hne
        rw [curL_length] at hv
        simp only [Value.slice.injEq, true_and] at hv
        obtain ⟨rfl, rfl⟩ := hv
        have hjl : j < (curL L j).length := by rw [curL_length]; exact hlt
        obtain ⟨c0, c1⟩ := hcell j hjl
        rw [curL_get L j hlt hjl] at c0 c1
        obtain ⟨X, hX⟩ : ∃ X : ByteArray, X = ⟨L[j].1.toArray⟩ := ⟨_, rfl⟩
        obtain ⟨Y, hY⟩ : ∃ Y : ByteArray, Y = ⟨L[j].2.toArray⟩ := ⟨_, rfl⟩
        have hXl : X.data.toList = L[j].1 := by rw [hX]
        have hYl : Y.data.toList = L[j].2 := by rw [hY]
        have hXs : X.size ≤ 1000 := by rw [← bytes_len, hXl]; exact (HSm.out.2 _ (List.getElem_mem hlt)).1
        have hYs : Y.size ≤ 1000 := by rw [← bytes_len, hYl]; exact (HSm.out.2 _ (List.getElem_mem hlt)).2
        have d0 : wr.cell? ⟨g, j * 2, none⟩ = some (.string X) := by rw [c0, hX]; rfl
        have d1 : wr.cell? ⟨g, j * 2 + 1, none⟩ = some (.string Y) := by rw [c1, hY]; rfl
        have hbox := boxR_new wr X Y
        have HBox := Lib.hid hbox
        have hal : Below wr.heap.size wr (wr.alloc (.cells #[.string X, .string Y] 106)) := (Below.refl _ _).alloc (Nat.le_refl _) _
        have HAl := Lib.hid hal
        have HOwn := Lib.hid hown
        have hfo := fun w => fold_any trim_any Y w (by omega)
        have hlo := fun w => lowerAll_any X w (by omega)
        obtain ⟨F, hF⟩ : ∃ F, F = foldB Y := ⟨_, rfl⟩
        obtain ⟨Z, hZ⟩ : ∃ Z, Z = lowB X := ⟨_, rfl⟩
        have hFl : F.data.toList = fold L[j].2 := by rw [hF, ← hYl]; rfl
        have hZl : Z.data.toList = low L[j].1 := by rw [hZ, ← hXl]; rfl
        simp only [← hF] at hfo
        simp only [← hZ] at hlo
        have HFo := Lib.hid hfo
        have HLo := Lib.hid hlo
        obtain ⟨k0, k1, _, _⟩ := hbox.cells
        have htk : (L.take (j + 1)).all okF = okF L[j] := by rw [List.take_succ_eq_append_getElem hlt, List.all_append, hall]; simp
        have hokf : okF L[j] = !F.data.toList.isEmpty := by unfold okF; rw [hFl]
        have HFl := Lib.hid hFl
        have HZl := Lib.hid hZl
        clear hX hXl hY hYl c0 c1 hF hZ hFl hZl hcell hbox hal hown hbel hne hfo hlo hjl
        by_cases hFe : F.data.toList = []
        · obtain ⟨e1, e2⟩ := bytes_nil hFe
          have hno : keyL L = none := by
            unfold keyL
            rw [if_neg]
            intro hh
            have := List.all_eq_true.1 hh _ (List.getElem_mem hlt)
            rw [hokf, hFe] at this
            simp at this
          have HNo := Lib.hid hno
          clear htk hokf hFe hno
          go_wp2_with (first
            | (go_at_call 53; refine (HFo.out _).mono ?_; rintro e w3 ⟨rfl, hb3⟩; have HB3 := Lib.hid hb3; clear hb3))
          go_ret2
          rw [HNo.out]
          exact ⟨rfl, bthen (HBel.out.trans (HAl.out.mono hbs)) HB3.out⟩
        · obtain ⟨e1, e2⟩ := bytes_some hFe
          have hyes : (L.take (j + 1)).all okF = true := by
            rw [htk, hokf]
            cases h : F.data.toList with
            | nil => exact absurd h hFe
            | cons x r => rfl
          have HYes := Lib.hid hyes
          clear htk hokf hFe hyes
          go_wp2_with (first
            | (go_at_call 53; refine (HFo.out _).mono ?_; rintro e w3 ⟨rfl, hb3⟩; have HB3 := Lib.hid hb3; have HX3 := Lib.hid (HBox.out.below hb3 (by simp)); obtain ⟨m0, m1, _, _⟩ := HX3.out.cells; clear hb3)
            | (go_at_call 74; refine (HLo.out _).mono ?_; rintro e w4 ⟨rfl, hb4⟩; have HB4 := Lib.hid hb4; have HO4 := Lib.hid (ownR_below (ownR_below (ownR_below HOwn.out HAl.out) HB3.out) hb4); clear hb4; obtain ⟨n0, n1, f0, f1⟩ := ownR_cells HO4.out j (by rw [curL_length]; exact hlt)))
          go_roundw
          case rel =>
            have hset := ownR_set (by rw [curL_length]; exact HO4.out) j (normR L[j])
            rw [List.length_set, curL_length, curL_next L j hlt] at hset
            refine ⟨j + 1, by omega, by go_num, ?_, HYes.out, ?_⟩
            · rw [show Value.string Z = strV (normR L[j]).1 from by show _ = strV (low L[j].1); rw [← HZl.out]; rfl, show Value.string F = strV (normR L[j]).2 from by show _ = strV (fold L[j].2); rw [← HFl.out]; rfl]
              exact hset
            · exact ((bthen (bthen (HBel.out.trans (HAl.out.mono hbs)) HB3.out) HB4.out).setCell (p := ⟨g, _, none⟩) hBg _).setCell (p := ⟨g, _, none⟩) hBg _
          case measure => simp [intOf]; omega
      · obtain rfl : j = L.length := by omega
        have t1 : decide ((L.length : Int) < (L.length : Int)) = false := by simp
        have t1' : decide (L.length < L.length) = false := by simp
        rw [curL_full] at hown
        rw [List.take_length] at hall
        have hsm2 := okL_small (okL_norm HOk.out hall)
        have hil := ownR_isL hown (by have := hsm2.1; unfold maxLen; omega)
        rw [← List.length_map (f := normR)] at hil
        have htx := text_any (L.map normR) hsm2 _ wr hil
        rw [List.length_map] at htx
        have hyes : keyL L = some (textD (L.map normR)) := by unfold keyL; rw [if_pos hall]
        have HYes := Lib.hid hyes
        have HTx := Lib.hid htx
        clear hown hall hsm2 hil htx hyes hbel
        go_wp2_with (go_at_call 75; refine (HTx.out).mono ?_; rintro e w5 ⟨rfl, hb5⟩; have HB5 := Lib.hid hb5; clear hb5)
        go_ret2
        rw [HYes.out]
        exact ⟨rfl, bthen HBel.out HB5.out⟩
end Go.Proofs.YtmilgbkkibahlaaGreatDoor


namespace Go.Proofs.YtmilgbkkibahlaaGreatDoor
open Go.RowKit
set_option linter.unusedVariables false

def LaidW (w : World) : Prop := (∃ tp p, w.var? Tryz.prog "strconv.ErrSyntax" = some #[.iface tp p]) ∧ (∃ tp p, w.var? Tryz.prog "strconv.ErrRange" = some #[.iface tp p]) ∧ Lib.TabIs Tryz.prog w "internal/strconv.uint64pow10" .u64 Lib.pow10Tab
theorem LaidW.below {w w' : World} (h : LaidW w) (hb : Below w.heap.size w w') : LaidW w' := by
  obtain ⟨⟨t1, p1, h1⟩, ⟨t2, p2, h2⟩, h3⟩ := h
  exact ⟨⟨t1, p1, Joins.var_stays (g := 0) (by kernel_rfl) h1 hb (Nat.le_refl _)⟩, ⟨t2, p2, Joins.var_stays (g := 1) (by kernel_rfl) h2 hb (Nat.le_refl _)⟩, Joins.tab_stays (g := 2) (by kernel_rfl) h3 hb (Nat.le_refl _)⟩
theorem LaidW.drew {w : World} (h : LaidW w) (n : Nat) : LaidW (w.drewN n) := h.below ⟨rfl, rfl, rfl, Nat.le_refl _, fun _ _ => rfl⟩

theorem parseI_ok (s : ByteArray) (hs : s.size ≤ 281474976710656) (v : Int) (h : Lib.parseIntB 64 s.data.toList = .ok v) (w : World) :
    Calls Tryz.prog 70 #[.string s, .int .i64 10, .int .i64 64] w fun e w' => e = .returned (.tuple #[.int .i64 v, .nilIface]) ∧ Below w.heap.size w w' :=
  (Tryz.strconv_ParseInt_10_at64_ok s (by omega) v h w).mono fun e w' ⟨he, hw⟩ => ⟨he, by rcases hw with rfl | ⟨t, rfl⟩; exact Below.refl _ _; exact Lib.bytesWorld_below _ _ _⟩
theorem parseI_bad (s : ByteArray) (hs : s.size ≤ 281474976710656) (h : ∀ v, Lib.parseIntB 64 s.data.toList ≠ .ok v) (w : World) (hw : LaidW w) :
    Calls Tryz.prog 70 #[.string s, .int .i64 10, .int .i64 64] w fun e w' => ∃ v t N, (e = .returned (.tuple #[.int .i64 v, .iface t (.pointer (some ⟨N, 0, none⟩))])) ∧ Below w.heap.size w w' := by
  obtain ⟨⟨t1, p1, h1⟩, ⟨t2, p2, h2⟩, h3⟩ := hw
  cases e : Lib.parseIntB 64 s.data.toList with
  | ok v => exact absurd e (h v)
  | «syntax» => exact (Tryz.strconv_ParseInt_10_at64_syntax_var s hs e t1 p1 w h1).mono fun e w' ⟨N, he, _, _, hb⟩ => ⟨_, _, N, he, hb⟩
  | range => exact (Tryz.strconv_ParseInt_10_at64_range_var s hs e t2 p2 w h2).mono fun e w' ⟨N, he, _, _, hb⟩ => ⟨_, _, N, he, hb⟩
theorem fmt_any (v : Int) (h0 : -9223372036854775808 ≤ v) (h1 : v ≤ 9223372036854775807) (w : World) (hw : LaidW w) :
    Calls Tryz.prog 71 #[.int .i64 v, .int .i64 10] w fun e w' => e = .returned (.string ⟨(Lib.itoa v).toArray⟩) ∧ Below w.heap.size w w' :=
  (Tryz.strconv_FormatInt_10 v h0 h1 w hw.2.2).mono fun e w' ⟨he, k, os, hw⟩ => ⟨he, by subst hw; exact Lib.below_grow _ _ (Nat.le_refl _) k os⟩

def numV (o : Option Int) : Value := match o with
  | some v => .tuple #[.int .i64 v, .bool true]
  | none => .tuple #[.int .i64 0, .bool false]

set_option maxRecDepth 100000 in
set_option maxHeartbeats 1000000 in
theorem number_any (s : ByteArray) (hs : s.size ≤ 281474976710656) (w : World) (hw : LaidW w) :
    Calls Tryz.prog 54 #[.string s] w fun e w' => e = .returned (numV (numD s.data.toList)) ∧ Below w.heap.size w w' := by
  have htr := fun w => Tryz.strings_TrimPrefix s ⟨#[45]⟩ w
  obtain ⟨T, hT⟩ : ∃ T : ByteArray, T = ⟨(Lib.trimPrefix s.data.toList (⟨#[45]⟩ : ByteArray).data.toList).toArray⟩ := ⟨_, rfl⟩
  have hTl : (Lib.trimPrefix s.data.toList [45]).length = T.size := by rw [hT, ← bytes_len]
  rw [← hT] at htr
  have HTr := Lib.hid htr
  clear hT htr
  unfold numD
  rw [hTl]
  clear hTl
  have HW := Lib.hid hw
  clear hw
  by_cases h15 : T.size ≤ 15
  · rw [if_pos h15]
    have t0 : decide ((15 : Int) < (T.size : Int)) = false := by simp; omega
    by_cases hok : ∃ v, Lib.parseIntB 64 s.data.toList = .ok v
    · obtain ⟨v, hv⟩ := hok
      have hb := Lib.atoiAll_bounds (by rw [← Lib.parseIntB_64]; exact hv)
      have hp := fun w => parseI_ok s hs v hv w
      have hf := fun w => fmt_any v hb.1 hb.2 w
      obtain ⟨F, hF⟩ : ∃ F : ByteArray, F = ⟨(Lib.itoa v).toArray⟩ := ⟨_, rfl⟩
      have hFl : Lib.itoa v = F.data.toList := by rw [hF]
      rw [← hF] at hf
      rw [hv]
      simp only [okN, hFl]
      have HP := Lib.hid hp
      have HF := Lib.hid hf
      clear hv hb hp hf hF hFl
      by_cases he : F = s
      · subst he
        rw [if_pos rfl]
        go_enter Tryz.func54, Tryz.ntmps54
        go_wp2_with (first | (go_at_call 69; refine (HTr.out _).mono ?_; rintro e w1 ⟨rfl, rfl⟩) | (go_at_call 70; refine (HP.out _).mono ?_; rintro e w2 ⟨rfl, hb2⟩; have HB2 := Lib.hid hb2; clear hb2) | (go_at_call 71; refine (HF.out _ (HW.out.below HB2.out)).mono ?_; rintro e w3 ⟨rfl, hb3⟩; have HB3 := Lib.hid (bthen HB2.out hb3); clear hb3))
        go_ret2
        exact ⟨rfl, HB3.out⟩
      · have hn : ¬ F.data.toList = s.data.toList := fun e => he (bytes_ext e)
        rw [if_neg hn]
        have t1 := str_ne he
        have HN := Lib.hid hn
        clear hn he
        go_enter Tryz.func54, Tryz.ntmps54
        go_wp2_with (first | (go_at_call 69; refine (HTr.out _).mono ?_; rintro e w1 ⟨rfl, rfl⟩) | (go_at_call 70; refine (HP.out _).mono ?_; rintro e w2 ⟨rfl, hb2⟩; have HB2 := Lib.hid hb2; clear hb2) | (go_at_call 71; refine (HF.out _ (HW.out.below HB2.out)).mono ?_; rintro e w3 ⟨rfl, hb3⟩; have HB3 := Lib.hid (bthen HB2.out hb3); clear hb3))
        go_ret2
        exact ⟨rfl, HB3.out⟩
    · have hno : ∀ v, Lib.parseIntB 64 s.data.toList ≠ .ok v := fun v e => hok ⟨v, e⟩
      have hp := fun w => parseI_bad s hs hno w
      have hv : okN (Lib.parseIntB 64 s.data.toList) s.data.toList = none := by
        cases e : Lib.parseIntB 64 s.data.toList with
        | ok v => exact absurd e (hno v)
        | «syntax» => rfl
        | range => rfl
      rw [hv]
      have HP := Lib.hid hp
      clear hv hp hno hok
      go_enter Tryz.func54, Tryz.ntmps54
      go_wp2_with (first | (go_at_call 69; refine (HTr.out _).mono ?_; rintro e w1 ⟨rfl, rfl⟩) | (go_at_call 70; refine (HP.out _ HW.out).mono ?_; rintro e w2 ⟨v, t, N, rfl, hb2⟩; have HB2 := Lib.hid hb2; clear hb2))
      go_ret2
      exact ⟨rfl, HB2.out⟩
  · rw [if_neg h15]
    have t0 : decide ((15 : Int) < (T.size : Int)) = true := by simp; omega
    go_enter Tryz.func54, Tryz.ntmps54
    go_wp2_with (go_at_call 69; refine (HTr.out _).mono ?_; rintro e w1 ⟨rfl, rfl⟩)
    go_ret2
    exact ⟨rfl, Below.refl _ _⟩
end Go.Proofs.YtmilgbkkibahlaaGreatDoor


namespace Go.Proofs.YtmilgbkkibahlaaGreatDoor
open Go.RowKit
set_option linter.unusedVariables false

def saidP (o : Option (List UInt8)) : Value := match o with
  | some k => .tuple #[.string ⟨k.toArray⟩, .bool true]
  | none => .tuple #[.string ⟨#[]⟩, .bool false]
set_option maxRecDepth 100000 in
set_option maxHeartbeats 4000000 in
theorem norm_any (t s : ByteArray) (w : World) (hw : LaidW w) :
    Calls Tryz.prog 40 #[.string t, .string s] w fun e w' => e = .returned (saidP (normD (ruleD t.data.toList) s.data.toList)) ∧ Below w.heap.size w w' := by
  have hr := fun w => rule_any t w
  generalize ruleD t.data.toList = r at hr ⊢
  have HR := Lib.hid hr
  clear hr
  have HW := Lib.hid hw
  clear hw
  by_cases h0 : s.data.toList = []
  · obtain ⟨e1, e2⟩ := bytes_nil h0
    have hv : normD r s.data.toList = none := by unfold normD; rw [if_pos (.inl h0)]
    have HV := Lib.hid hv
    clear hv h0
    go_enter Tryz.func40, Tryz.ntmps40
    go_wp2
    go_ret2
    exact ⟨by rw [HV.out]; rfl, Below.refl _ _⟩
  obtain ⟨e1, e2⟩ := bytes_some h0
  by_cases h100 : 100 < s.size
  · have t1 : decide ((100 : Int) < (s.size : Int)) = true := by simp; omega
    have hv : normD r s.data.toList = none := by unfold normD; rw [if_pos (.inr (by rw [bytes_len]; exact h100))]
    have HV := Lib.hid hv
    clear hv h0
    go_enter Tryz.func40, Tryz.ntmps40
    go_wp2
    go_ret2
    exact ⟨by rw [HV.out]; rfl, Below.refl _ _⟩
  have t1 : decide ((100 : Int) < (s.size : Int)) = false := by simp; omega
  have hd : normD r s.data.toList = if r = 1 then (if fold s.data.toList = [] then none else some (fold s.data.toList)) else if r = 2 then (if (numD s.data.toList).isSome then some s.data.toList else none)
      else if r = 3 then (match keyD s.data.toList with | some k => if k = [] then none else some k | none => none) else if r = 4 then some s.data.toList else none := by
    unfold normD; rw [if_neg (by rw [bytes_len]; rintro (h | h); exact h0 h; exact h100 h)]; rfl
  have HD := Lib.hid hd
  clear hd h0
  by_cases h1 : r = 1
  · subst h1
    have hf := fun w => fold_any trim_any s w (by omega)
    obtain ⟨F, hF⟩ : ∃ F : ByteArray, F = foldB s := ⟨_, rfl⟩
    have hFl : fold s.data.toList = F.data.toList := by rw [hF]; simp [foldB]
    rw [← hF] at hf
    have HF := Lib.hid hf
    have hD := HD.out
    rw [if_pos rfl, hFl] at hD
    clear hf hF hFl HD
    by_cases hne : F.data.toList = []
    · obtain ⟨n1, n2⟩ := bytes_nil hne
      rw [if_pos hne] at hD
      have hFe : F = ⟨#[]⟩ := bytes_ext hne
      have HD := Lib.hid hD
      have HFe := Lib.hid hFe
      clear hD hFe hne
      go_enter Tryz.func40, Tryz.ntmps40
      go_wp2_with (first | (go_at_call 42; refine (HR.out _).mono ?_; rintro e w1 ⟨rfl, hb1⟩; have HB := Lib.hid hb1; clear hb1) | (go_at_call 53; refine (HF.out _).mono ?_; rintro e w2 ⟨rfl, hb2⟩; have HB := Lib.hid (bthen HB.out hb2); clear hb2))
      go_ret2
      exact ⟨by rw [HD.out, HFe.out]; rfl, HB.out⟩
    · obtain ⟨n1, n2⟩ := bytes_some hne
      rw [if_neg hne] at hD
      have HD := Lib.hid hD
      clear hD hne
      go_enter Tryz.func40, Tryz.ntmps40
      go_wp2_with (first | (go_at_call 42; refine (HR.out _).mono ?_; rintro e w1 ⟨rfl, hb1⟩; have HB := Lib.hid hb1; clear hb1) | (go_at_call 53; refine (HF.out _).mono ?_; rintro e w2 ⟨rfl, hb2⟩; have HB := Lib.hid (bthen HB.out hb2); clear hb2))
      go_ret2
      exact ⟨by rw [HD.out]; simp [saidP], HB.out⟩
  have u1 : ((r : Int) == 1) = false := by simp; omega
  by_cases h2 : r = 2
  · subst h2
    have hn := fun w hw => number_any s (by omega) w hw
    have HN := Lib.hid hn
    clear hn u1 h1
    have hD : normD 2 s.data.toList = (if (numD s.data.toList).isSome = true then some s.data.toList else none) := (HD.out.trans (if_neg (by decide))).trans (if_pos rfl)
    clear HD
    cases hnum : numD s.data.toList with
    | none =>
      rw [hnum] at hD HN
      have HD := Lib.hid hD
      clear hD hnum
      go_enter Tryz.func40, Tryz.ntmps40
      go_wp2_with (first | (go_at_call 42; refine (HR.out _).mono ?_; rintro e w1 ⟨rfl, hb1⟩; have HB := Lib.hid hb1; clear hb1) | (go_at_call 54; refine (HN.out _ (HW.out.below HB.out)).mono ?_; rintro e w2 ⟨he, hb2⟩; simp only [numV] at he; subst he; have HB := Lib.hid (bthen HB.out hb2); clear hb2))
      go_ret2
      exact ⟨by rw [HD.out]; rfl, HB.out⟩
    | some v =>
      rw [hnum] at hD HN
      have HD := Lib.hid hD
      clear hD hnum
      have hcl := fun w => clone_any s w (by omega)
      have HCl := Lib.hid hcl
      clear hcl
      go_enter Tryz.func40, Tryz.ntmps40
      go_wp2_with (first | (go_at_call 42; refine (HR.out _).mono ?_; rintro e w1 ⟨rfl, hb1⟩; have HB := Lib.hid hb1; clear hb1) | (go_at_call 54; refine (HN.out _ (HW.out.below HB.out)).mono ?_; rintro e w2 ⟨he, hb2⟩; simp only [numV] at he; subst he; have HB := Lib.hid (bthen HB.out hb2); clear hb2) | (go_at_call 55; refine (HCl.out _).mono ?_; rintro e w3 ⟨rfl, hb3⟩; have HB := Lib.hid (bthen HB.out hb3); clear hb3))
      go_ret2
      exact ⟨by rw [HD.out]; simp [saidP], HB.out⟩
  have u2 : ((r : Int) == 2) = false := by simp; omega
  by_cases h3 : r = 3
  · subst h3
    have hk := fun w => key_any s (by omega) w
    have HK := Lib.hid hk
    clear hk u1 u2 h1 h2
    have hD : normD 3 s.data.toList = (match keyD s.data.toList with | some k => if k = [] then none else some k | none => none) := ((HD.out.trans (if_neg (by decide))).trans (if_neg (by decide))).trans (if_pos rfl)
    clear HD
    cases hkey : keyD s.data.toList with
    | none =>
      rw [hkey] at hD HK
      have HD := Lib.hid hD
      clear hD hkey
      go_enter Tryz.func40, Tryz.ntmps40
      go_wp2_with (first | (go_at_call 42; refine (HR.out _).mono ?_; rintro e w1 ⟨rfl, hb1⟩; have HB := Lib.hid hb1; clear hb1) | (go_at_call 56; refine (HK.out _).mono ?_; rintro e w2 ⟨he, hb2⟩; simp only [keyV] at he; subst he; have HB := Lib.hid (bthen HB.out hb2); clear hb2))
      go_ret2
      exact ⟨by rw [HD.out]; rfl, HB.out⟩
    | some k =>
      rw [hkey] at hD HK
      obtain ⟨K, hKB⟩ : ∃ K : ByteArray, K = ⟨k.toArray⟩ := ⟨_, rfl⟩
      have hKl : k = K.data.toList := by rw [hKB]
      have hk2 := HK.out
      simp only [keyV, ← hKB] at hk2
      have HK2 := Lib.hid hk2
      clear hk2 HK hkey hKB
      simp only at hD
      subst hKl
      by_cases hne : K.data.toList = []
      · obtain ⟨n1, n2⟩ := bytes_nil hne
        rw [if_pos hne] at hD
        have hFe : K = ⟨#[]⟩ := bytes_ext hne
        have HD := Lib.hid hD
        have HFe := Lib.hid hFe
        clear hD hFe hne
        go_enter Tryz.func40, Tryz.ntmps40
        go_wp2_with (first | (go_at_call 42; refine (HR.out _).mono ?_; rintro e w1 ⟨rfl, hb1⟩; have HB := Lib.hid hb1; clear hb1) | (go_at_call 56; refine (HK2.out _).mono ?_; rintro e w2 ⟨rfl, hb2⟩; have HB := Lib.hid (bthen HB.out hb2); clear hb2))
        go_ret2
        exact ⟨by rw [HD.out, HFe.out]; rfl, HB.out⟩
      · obtain ⟨n1, n2⟩ := bytes_some hne
        rw [if_neg hne] at hD
        have HD := Lib.hid hD
        clear hD hne
        go_enter Tryz.func40, Tryz.ntmps40
        go_wp2_with (first | (go_at_call 42; refine (HR.out _).mono ?_; rintro e w1 ⟨rfl, hb1⟩; have HB := Lib.hid hb1; clear hb1) | (go_at_call 56; refine (HK2.out _).mono ?_; rintro e w2 ⟨rfl, hb2⟩; have HB := Lib.hid (bthen HB.out hb2); clear hb2))
        go_ret2
        exact ⟨by rw [HD.out]; simp [saidP], HB.out⟩
  have u3 : ((r : Int) == 3) = false := by simp; omega
  have hD := HD.out
  rw [if_neg h1, if_neg h2, if_neg h3] at hD
  by_cases h4 : r = 4
  · subst h4
    rw [if_pos rfl] at hD
    have HD := Lib.hid hD
    have hcl := fun w => clone_any s w (by omega)
    have HCl := Lib.hid hcl
    clear hcl hD u1 u2 u3 h1 h2 h3
    go_enter Tryz.func40, Tryz.ntmps40
    go_wp2_with (first | (go_at_call 42; refine (HR.out _).mono ?_; rintro e w1 ⟨rfl, hb1⟩; have HB := Lib.hid hb1; clear hb1) | (go_at_call 55; refine (HCl.out _).mono ?_; rintro e w3 ⟨rfl, hb3⟩; have HB := Lib.hid (bthen HB.out hb3); clear hb3))
    go_ret2
    exact ⟨by rw [HD.out]; simp [saidP], HB.out⟩
  · rw [if_neg h4] at hD
    have u4 : ((r : Int) == 4) = false := by simp; omega
    have HD := Lib.hid hD
    clear hD h1 h2 h3 h4
    go_enter Tryz.func40, Tryz.ntmps40
    go_wp2_with (go_at_call 42; refine (HR.out _).mono ?_; rintro e w1 ⟨rfl, hb1⟩; have HB := Lib.hid hb1; clear hb1)
    go_ret2
    exact ⟨by rw [HD.out]; rfl, HB.out⟩

theorem saidP_some {x : List UInt8} {X : ByteArray} (h : X = ⟨x.toArray⟩) : saidP (some x) = .tuple #[.string X, .bool true] := by rw [h]; rfl
def normsV (o : Option (List UInt8)) (q : Option (List UInt8)) : Value := match o, q with
  | some x, some y => .tuple #[.string ⟨x.toArray⟩, .string ⟨y.toArray⟩, .bool true]
  | _, _ => .tuple #[.string ⟨#[]⟩, .string ⟨#[]⟩, .bool false]

set_option maxRecDepth 100000 in
set_option maxHeartbeats 4000000 in
theorem norms_any (t a b : ByteArray) (w : World) (hw : LaidW w) :
    Calls Tryz.prog 57 #[.string t, .string a, .string b] w fun e w' => e = .returned (normsV (normD (ruleD t.data.toList) a.data.toList) (normD (ruleD t.data.toList) b.data.toList)) ∧ Below w.heap.size w w' := by
  have ha := fun w hw => norm_any t a w hw
  have hb := fun w hw => norm_any t b w hw
  generalize normD (ruleD t.data.toList) a.data.toList = p at ha ⊢
  generalize normD (ruleD t.data.toList) b.data.toList = q at hb ⊢
  have HW := Lib.hid hw
  clear hw
  cases p with
  | none =>
    have HA := Lib.hid ha
    clear ha hb
    go_enter Tryz.func57, Tryz.ntmps57
    go_wp2_with (go_at_call 40; refine (HA.out _ HW.out).mono ?_; rintro e w1 ⟨he, hb1⟩; simp only [saidP] at he; subst he; have HB := Lib.hid hb1; clear hb1)
    go_ret3
    exact ⟨rfl, HB.out⟩
  | some x =>
    obtain ⟨X, hX⟩ : ∃ X : ByteArray, X = ⟨x.toArray⟩ := ⟨_, rfl⟩
    simp only [saidP_some hX] at ha
    have HA := Lib.hid ha
    clear ha
    cases q with
    | none =>
      have HQ := Lib.hid hb
      clear hb hX
      have tok : True := trivial
      go_enter Tryz.func57, Tryz.ntmps57
      go_wp2_with (go_at_call 40; first | (have _t := tok; refine (HA.out _ HW.out).mono ?_; rintro e w1 ⟨rfl, hb1⟩; have HB := Lib.hid hb1; clear hb1 tok) | (refine (HQ.out _ (HW.out.below HB.out)).mono ?_; rintro e w2 ⟨he, hb2⟩; simp only [saidP] at he; subst he; have HB := Lib.hid (bthen HB.out hb2); clear hb2))
      go_ret3
      exact ⟨rfl, HB.out⟩
    | some y =>
      obtain ⟨Y, hY⟩ : ∃ Y : ByteArray, Y = ⟨y.toArray⟩ := ⟨_, rfl⟩
      simp only [saidP_some hY] at hb
      have hv : normsV (some x) (some y) = .tuple #[.string X, .string Y, .bool true] := by rw [hX, hY]; rfl
      rw [hv]
      have HQ := Lib.hid hb
      clear hb hX hY hv
      have tok : True := trivial
      go_enter Tryz.func57, Tryz.ntmps57
      go_wp2_with (go_at_call 40; first | (have _t := tok; refine (HA.out _ HW.out).mono ?_; rintro e w1 ⟨rfl, hb1⟩; have HB := Lib.hid hb1; clear hb1 tok) | (refine (HQ.out _ (HW.out.below HB.out)).mono ?_; rintro e w2 ⟨rfl, hb2⟩; have HB := Lib.hid (bthen HB.out hb2); clear hb2))
      go_ret3
      exact ⟨rfl, HB.out⟩
end Go.Proofs.YtmilgbkkibahlaaGreatDoor


namespace Go.Proofs.YtmilgbkkibahlaaGreatDoor
open Go.RowKit
set_option linter.unusedVariables false

def sameO (p q : Option (List UInt8)) : Bool := match p, q with
  | some x, some y => x == y
  | _, _ => false

set_option maxRecDepth 100000 in
set_option maxHeartbeats 4000000 in
theorem same_any (t a b : ByteArray) (w : World) (hw : LaidW w) :
    Calls Tryz.prog 62 #[.string t, .string a, .string b] w fun e w' => e = .returned (.bool (sameO (normD (ruleD t.data.toList) a.data.toList) (normD (ruleD t.data.toList) b.data.toList))) ∧ Below w.heap.size w w' := by
  have hn := norms_any t a b w hw
  generalize normD (ruleD t.data.toList) a.data.toList = p at hn ⊢
  generalize normD (ruleD t.data.toList) b.data.toList = q at hn ⊢
  have key : (∃ x y, p = some x ∧ q = some y) ∨ (normsV p q = .tuple #[.string ⟨#[]⟩, .string ⟨#[]⟩, .bool false] ∧ sameO p q = false) := by
    cases p with
    | none => exact .inr ⟨rfl, rfl⟩
    | some x => cases q with
      | none => exact .inr ⟨rfl, rfl⟩
      | some y => exact .inl ⟨x, y, rfl, rfl⟩
  rcases key with ⟨x, y, rfl, rfl⟩ | ⟨hv, hs⟩
  · obtain ⟨X, hX⟩ : ∃ X : ByteArray, X = ⟨x.toArray⟩ := ⟨_, rfl⟩
    obtain ⟨Y, hY⟩ : ∃ Y : ByteArray, Y = ⟨y.toArray⟩ := ⟨_, rfl⟩
    have hv : normsV (some x) (some y) = .tuple #[.string X, .string Y, .bool true] := by rw [hX, hY]; rfl
    rw [hv] at hn
    have HN := Lib.hid hn
    by_cases he : X = Y
    · have hs : sameO (some x) (some y) = true := by
        have : x = y := by have h2 : X.data.toList = Y.data.toList := by rw [he]
                           rw [hX, hY] at h2; simpa using h2
        simp [sameO, this]
      rw [hs]
      subst he
      clear hn hv hX hY hs
      go_enter Tryz.func62, Tryz.ntmps62
      go_wp2_with (go_at_call 57; refine HN.out.mono ?_; rintro e w1 ⟨rfl, hb1⟩; have HB := Lib.hid hb1; clear hb1)
      go_ret
      exact ⟨rfl, HB.out⟩
    · have hs : sameO (some x) (some y) = false := by
        have : x ≠ y := fun e => he (by rw [hX, hY, e])
        simp [sameO, this]
      rw [hs]
      have t1 := str_ne he
      clear hn hv hX hY hs he
      go_enter Tryz.func62, Tryz.ntmps62
      go_wp2_with (go_at_call 57; refine HN.out.mono ?_; rintro e w1 ⟨rfl, hb1⟩; have HB := Lib.hid hb1; clear hb1)
      go_ret
      exact ⟨rfl, HB.out⟩
  · rw [hv] at hn
    rw [hs]
    have HN := Lib.hid hn
    clear hn hv hs
    go_enter Tryz.func62, Tryz.ntmps62
    go_wp2_with (go_at_call 57; refine HN.out.mono ?_; rintro e w1 ⟨rfl, hb1⟩; have HB := Lib.hid hb1; clear hb1)
    go_ret
    exact ⟨rfl, HB.out⟩

set_option maxRecDepth 100000 in
set_option maxHeartbeats 4000000 in
theorem less_text (t a b X Y : ByteArray) (w : World) (hw : LaidW w) (hr : ruleD t.data.toList = 1) (hp : normD 1 a.data.toList = some X.data.toList) (hq : normD 1 b.data.toList = some Y.data.toList) :
    Calls Tryz.prog 41 #[.string t, .string a, .string b] w fun e w' => e = .returned (.tuple #[.bool (Op.bytesLess X.toList Y.toList), .bool true]) ∧ Below w.heap.size w w' := by
  have hn := norms_any t a b w hw
  have hru := fun w => rule_any t w
  simp only [hr] at hn hru
  rw [hp, hq] at hn
  have hv : normsV (some X.data.toList) (some Y.data.toList) = .tuple #[.string X, .string Y, .bool true] := by simp [normsV]
  rw [hv] at hn
  have HN := Lib.hid hn
  have HR := Lib.hid hru
  clear hn hv hp hq hr hru
  go_enter Tryz.func41, Tryz.ntmps41
  go_wp2_with (first | (go_at_call 57; refine HN.out.mono ?_; rintro e w1 ⟨rfl, hb1⟩; have HB := Lib.hid hb1; clear hb1) | (go_at_call 42; refine (HR.out _).mono ?_; rintro e w2 ⟨rfl, hb2⟩; have HB := Lib.hid (bthen HB.out hb2); clear hb2))
  go_ret2
  exact ⟨rfl, HB.out⟩

set_option maxRecDepth 100000 in
set_option maxHeartbeats 4000000 in
theorem less_int (t a b : ByteArray) (m n : Int) (w : World) (ha : a.size ≤ 281474976710656) (hb : b.size ≤ 281474976710656) (hw : LaidW w) (hr : ruleD t.data.toList = 2) (hp : normD 2 a.data.toList = some a.data.toList) (hq : normD 2 b.data.toList = some b.data.toList)
    (hm : numD a.data.toList = some m) (hn' : numD b.data.toList = some n) :
    Calls Tryz.prog 41 #[.string t, .string a, .string b] w fun e w' => e = .returned (.tuple #[.bool (decide (m < n)), .bool true]) ∧ Below w.heap.size w w' := by
  have hn := norms_any t a b w hw
  have hru := fun w => rule_any t w
  have h1 := fun w hw => number_any a ha w hw
  have h2 := fun w hw => number_any b hb w hw
  simp only [hr] at hn hru
  rw [hp, hq] at hn
  rw [hm] at h1
  rw [hn'] at h2
  have hv : normsV (some a.data.toList) (some b.data.toList) = .tuple #[.string a, .string b, .bool true] := by simp [normsV]
  rw [hv] at hn
  simp only [numV] at h1 h2
  have HN := Lib.hid hn
  have HR := Lib.hid hru
  have H1 := Lib.hid h1
  have H2 := Lib.hid h2
  have HW := Lib.hid hw
  have tok : True := trivial
  clear hn hv hp hq hr hru h1 h2 hm hn' hw
  go_enter Tryz.func41, Tryz.ntmps41
  go_wp2_with (first | (go_at_call 57; refine HN.out.mono ?_; rintro e w1 ⟨rfl, hb1⟩; have HB := Lib.hid hb1; clear hb1) | (go_at_call 42; refine (HR.out _).mono ?_; rintro e w2 ⟨rfl, hb2⟩; have HB := Lib.hid (bthen HB.out hb2); clear hb2) | (go_at_call 54; first | (have _t := tok; refine (H1.out _ (HW.out.below HB.out)).mono ?_; rintro e w3 ⟨rfl, hb3⟩; have HB := Lib.hid (bthen HB.out hb3); clear hb3 tok) | (refine (H2.out _ (HW.out.below HB.out)).mono ?_; rintro e w3 ⟨rfl, hb3⟩; have HB := Lib.hid (bthen HB.out hb3); clear hb3)))
  go_ret2
  exact ⟨rfl, HB.out⟩

set_option maxRecDepth 100000 in
set_option maxHeartbeats 4000000 in
theorem less_no (t a b : ByteArray) (w : World) (hw : LaidW w) (h : normD (ruleD t.data.toList) a.data.toList = none ∨ normD (ruleD t.data.toList) b.data.toList = none ∨ (ruleD t.data.toList ≠ 1 ∧ ruleD t.data.toList ≠ 2)) :
    Calls Tryz.prog 41 #[.string t, .string a, .string b] w fun e w' => e = .returned (.tuple #[.bool false, .bool false]) ∧ Below w.heap.size w w' := by
  have hn := norms_any t a b w hw
  have hru := fun w => rule_any t w
  generalize ruleD t.data.toList = r at hn hru h
  generalize normD r a.data.toList = p at hn h
  generalize normD r b.data.toList = q at hn h
  have key : normsV p q = .tuple #[.string ⟨#[]⟩, .string ⟨#[]⟩, .bool false] ∨ ∃ X Y, normsV p q = .tuple #[.string X, .string Y, .bool true] ∧ r ≠ 1 ∧ r ≠ 2 := by
    cases p with
    | none => exact .inl rfl
    | some x => cases q with
      | none => exact .inl rfl
      | some y =>
        rcases h with h | h | h
        · cases h
        · cases h
        · exact .inr ⟨_, _, rfl, h⟩
  rcases key with hv | ⟨X, Y, hv, h1, h2⟩
  · rw [hv] at hn
    have HN := Lib.hid hn
    clear hn hv hru h
    go_enter Tryz.func41, Tryz.ntmps41
    go_wp2_with (go_at_call 57; refine HN.out.mono ?_; rintro e w1 ⟨rfl, hb1⟩; have HB := Lib.hid hb1; clear hb1)
    go_ret2
    exact ⟨rfl, HB.out⟩
  · rw [hv] at hn
    have HN := Lib.hid hn
    have HR := Lib.hid hru
    have u1 : ((r : Int) == 1) = false := by simp; omega
    have u2 : ((r : Int) == 2) = false := by simp; omega
    clear hn hv hru h h1 h2
    go_enter Tryz.func41, Tryz.ntmps41
    go_wp2_with (first | (go_at_call 57; refine HN.out.mono ?_; rintro e w1 ⟨rfl, hb1⟩; have HB := Lib.hid hb1; clear hb1) | (go_at_call 42; refine (HR.out _).mono ?_; rintro e w2 ⟨rfl, hb2⟩; have HB := Lib.hid (bthen HB.out hb2); clear hb2))
    go_ret2
    exact ⟨rfl, HB.out⟩
end Go.Proofs.YtmilgbkkibahlaaGreatDoor


namespace Go.Proofs.YtmilgbkkibahlaaGreatDoor
open Go.RowKit
set_option linter.unusedVariables false

def likeB (t val x : List UInt8) : Bool := sameO (normD (ruleD t) x) (normD (ruleD t) val)
def hasA (L : List AT) (t val : List UInt8) : Bool := (findA L t).any (likeB t val)
set_option maxRecDepth 100000 in
set_option maxHeartbeats 2000000 in
theorem like_any (T V X : ByteArray) (b1 o1 b2 o2 : Nat) (w : World) (hw : LaidW w) (h1 : w.cell? ⟨b1, o1, none⟩ = some (.string T)) (h2 : w.cell? ⟨b2, o2, none⟩ = some (.string V)) :
    Calls Tryz.prog 61 #[.string X, .pointer (some ⟨b1, o1, none⟩), .pointer (some ⟨b2, o2, none⟩)] w fun e w' => e = .returned (.bool (likeB T.data.toList V.data.toList X.data.toList)) ∧ Below w.heap.size w w' := by
  have hs := same_any T X V w hw
  unfold likeB
  generalize sameO (normD (ruleD T.data.toList) X.data.toList) (normD (ruleD T.data.toList) V.data.toList) = r at hs ⊢
  have HS := Lib.hid hs
  clear hs
  go_enter Tryz.func61, Tryz.ntmps61
  go_wp2_with (go_at_call 62; refine (HS.out).mono ?_; rintro e w1 ⟨rfl, hb1⟩; have HB := Lib.hid hb1; clear hb1)
  go_ret
  exact ⟨rfl, HB.out⟩

set_option maxRecDepth 100000 in
set_option maxHeartbeats 2000000 in
theorem indexF_any (L : List (List UInt8)) (hs : L.length ≤ 1000000) (v : Value) (T V : ByteArray) (b1 o1 b2 o2 : Nat) (w : World) (hw : LaidW w) (h : IsT w.heap.size w L v) (h1 : w.cell? ⟨b1, o1, none⟩ = some (.string T)) (h2 : w.cell? ⟨b2, o2, none⟩ = some (.string V)) (g1 : b1 < w.heap.size) (g2 : b2 < w.heap.size) :
    Calls Tryz.prog 78 #[v, .func (.func 61) #[] #[.pointer (some ⟨b1, o1, none⟩), .pointer (some ⟨b2, o2, none⟩)]] w fun e w' => ∃ I : Int, e = .returned (.int .i64 I) ∧ decide (0 ≤ I) = L.any (likeB T.data.toList V.data.toList) ∧ Below w.heap.size w w' := by
  obtain ⟨a, c, rfl, hm, hcell⟩ := h
  unfold maxLen at hm
  have HC := Lib.hid hcell
  have H1 := Lib.hid h1
  have H2 := Lib.hid h2
  have HW := Lib.hid hw
  clear hcell h1 h2 hw
  go_enter Tryz.func78, Tryz.ntmps78
  go_wp2
  go_loopw [8] (fun i wr => ∃ j : Nat, j ≤ L.length ∧ i = .int .i64 j ∧ Hid (∀ k (hk : k < L.length), k < j → likeB T.data.toList V.data.toList L[k] = false) ∧ Below w.heap.size w wr) (fun i wr => L.length - (intOf i).toNat)
  case atStart => exact ⟨0, by omega, rfl, Lib.hid (fun k _ h => absurd h (by omega)), Below.refl _ _⟩
  case round =>
    obtain ⟨j, hj, rfl, HNo, hbel⟩ := hrel
    have HBel := Lib.hid hbel
    have hbs := hbel.size
    by_cases hlt : j < L.length
    · have t1 : decide ((j : Int) < (L.length : Int)) = true := by simp; omega
      have t1' : decide (j < L.length) = true := by simpa using hlt
      obtain ⟨b, off, rfl, hb0, c0⟩ := HC.out j hlt
      obtain ⟨X, hX⟩ : ∃ X : ByteArray, ⟨L[j].toArray⟩ = X := ⟨_, rfl⟩
      have hXl : X.data.toList = L[j] := by rw [← hX]
      have d0 : (wr.cell? ⟨b, off + j, none⟩) = some (.string X) := by
        rw [hbel.cell (p := ⟨b, _, none⟩) hb0, c0, ← hX]; rfl
      have hab := like_any T V X b1 o1 b2 o2 wr (HW.out.below hbel) ((hbel.cell (p := ⟨b1, o1, none⟩) g1).trans H1.out) ((hbel.cell (p := ⟨b2, o2, none⟩) g2).trans H2.out)
      rw [hXl] at hab
      obtain ⟨g, hg⟩ : ∃ g, likeB T.data.toList V.data.toList L[j] = g := ⟨_, rfl⟩
      rw [hg] at hab
      have HAb := Lib.hid hab
      have HG := Lib.hid hg
      clear hX hXl c0 hab hbel hg
      cases g with
      | true =>
        have HR : Hid (L.any (likeB T.data.toList V.data.toList) = true) := Lib.hid (List.any_eq_true.2 ⟨L[j], List.getElem_mem _, HG.out⟩)
        go_wp2_with (go_at_call 61; refine (HAb.out).mono ?_; rintro e w2 ⟨rfl, hb2⟩; have HB2 := Lib.hid (HBel.out.trans (hb2.mono hbs)); clear hb2)
        go_ret
        exact ⟨_, rfl, by rw [HR.out]; simp, HB2.out⟩
      | false =>
        have HN : Hid (∀ k (hk : k < L.length), k < j + 1 → likeB T.data.toList V.data.toList L[k] = false) := Lib.hid (fun k h1 h3 => by
            by_cases hk : k < j
            · exact HNo.out k h1 hk
            · obtain rfl : k = j := by omega
              exact HG.out)
        go_wp2_with (go_at_call 61; refine (HAb.out).mono ?_; rintro e w2 ⟨rfl, hb2⟩; have HB2 := Lib.hid (HBel.out.trans (hb2.mono hbs)); clear hb2)
        go_roundw
        case rel => exact ⟨j + 1, by omega, by go_num, HN, HB2.out⟩
        case measure => simp [intOf]; omega
    · obtain rfl : j = L.length := by omega
      have t1 : decide ((L.length : Int) < (L.length : Int)) = false := by simp
      have t1' : decide (L.length < L.length) = false := by simp
      have HR : Hid (L.any (likeB T.data.toList V.data.toList) = false) := Lib.hid (List.any_eq_false.2 (fun x hx => by
        obtain ⟨k, hk, rfl⟩ := List.getElem_of_mem hx
        simpa using HNo.out k hk hk))
      clear hbel
      go_wp2
      go_ret
      exact ⟨_, rfl, by rw [HR.out]; rfl, HBel.out⟩

theorem boxH2 (w : World) (o : Obj) (T V : ByteArray) : (((w.alloc o).alloc (.cells #[.string T] 9)).alloc (.cells #[.string V] 9)).cell? ⟨w.heap.size + 2, 0, none⟩ = some (.string V) := by
  have h : (((w.alloc o).alloc (.cells #[.string T] 9)).alloc (.cells #[.string V] 9)).heap[w.heap.size + 2]? = some (.cells #[.string V] 9 (0, 0)) := by
    have := heap_alloc_new ((w.alloc o).alloc (.cells #[.string T] 9)) (.cells #[.string V] 9)
    simpa only [World.size_alloc] using this
  simp only [World.cell?, h]; rfl
theorem boxH1 (w : World) (o : Obj) (T V : ByteArray) : (((w.alloc o).alloc (.cells #[.string T] 9)).alloc (.cells #[.string V] 9)).cell? ⟨w.heap.size + 1, 0, none⟩ = some (.string T) := by
  have h0 : ((w.alloc o).alloc (.cells #[.string T] 9)).heap[w.heap.size + 1]? = some (.cells #[.string T] 9 (0, 0)) := by
    have := heap_alloc_new (w.alloc o) (.cells #[.string T] 9)
    simpa only [World.size_alloc] using this
  have h : (((w.alloc o).alloc (.cells #[.string T] 9)).alloc (.cells #[.string V] 9)).heap[w.heap.size + 1]? = some (.cells #[.string T] 9 (0, 0)) := by
    rw [heap_alloc_old _ _ (by simp)]; exact h0
  simp only [World.cell?, h]; rfl

set_option maxRecDepth 100000 in
set_option maxHeartbeats 2000000 in
theorem containsF_any (L : List (List UInt8)) (hs : L.length ≤ 1000000) (v : Value) (T V : ByteArray) (b1 o1 b2 o2 : Nat) (w : World) (hw : LaidW w) (h : IsT w.heap.size w L v) (h1 : w.cell? ⟨b1, o1, none⟩ = some (.string T)) (h2 : w.cell? ⟨b2, o2, none⟩ = some (.string V)) (g1 : b1 < w.heap.size) (g2 : b2 < w.heap.size) :
    Calls Tryz.prog 59 #[v, .func (.func 61) #[] #[.pointer (some ⟨b1, o1, none⟩), .pointer (some ⟨b2, o2, none⟩)]] w fun e w' => e = .returned (.bool (L.any (likeB T.data.toList V.data.toList))) ∧ Below w.heap.size w w' := by
  have hc := indexF_any L hs v T V b1 o1 b2 o2 w hw h h1 h2 g1 g2
  obtain ⟨R, hR⟩ : ∃ R, R = L.any (likeB T.data.toList V.data.toList) := ⟨_, rfl⟩
  rw [← hR] at hc ⊢
  obtain ⟨sa, sc, hv, _⟩ := id h
  obtain ⟨sn, hsn⟩ : ∃ n, n = L.length := ⟨_, rfl⟩
  rw [← hsn] at hv
  subst hv
  have HC := Lib.hid hc
  clear hc hR hsn h h1 h2 hw
  go_enter Tryz.func59, Tryz.ntmps59
  go_wp2_with (go_at_call 78; refine (HC.out).mono ?_; rintro e w2 ⟨I, rfl, hI, hb2⟩; have HB2 := Lib.hid hb2; clear hb2)
  go_ret
  exact ⟨rfl, HB2.out⟩

set_option maxRecDepth 100000 in
set_option maxHeartbeats 2000000 in
theorem has_any (d T V : ByteArray) (L : List AT) (hs : smallA L) (v : Value) (w : World) (hw : LaidW w) (h : IsA w.heap.size w L v) :
    Calls Tryz.prog 44 #[.agg #[.string d, v], .string T, .string V] w fun e w' => e = .returned (.bool (hasA L T.data.toList V.data.toList)) ∧ Below w.heap.size w w' := by
  have hmf : ∀ (fn : Fn) (first cap : Array Value) (w : World), (Instr.makeFunc fn first cap).run Tryz.prog w = .ok (.func fn first cap) w := fun _ _ _ _ => rfl
  have hf : (findA L T.data.toList).length ≤ 1000000 := by
    unfold findA
    split
    · rename_i a ha
      have := ((hs.2 a (List.mem_of_find?_eq_some ha)).2).1
      omega
    · simp
  have hR : hasA L T.data.toList V.data.toList = (findA L T.data.toList).any (likeB T.data.toList V.data.toList) := rfl
  obtain ⟨R, hRR⟩ : ∃ R, R = hasA L T.data.toList V.data.toList := ⟨_, rfl⟩
  rw [← hRR] at hR ⊢
  have HR := Lib.hid hR
  have HF := Lib.hid hf
  have HS := Lib.hid hs
  have HI := Lib.hid h
  have HW := Lib.hid hw
  obtain ⟨sa, sc, hv, _⟩ := id h
  obtain ⟨sn, hsn⟩ : ∃ n, n = L.length := ⟨_, rfl⟩
  rw [← hsn] at hv
  subst hv
  have hb0 : Below w.heap.size w (((w.alloc (.cells #[.string d, .slice sa sn sc] 26)).alloc (.cells #[.string T] 9)).alloc (.cells #[.string V] 9)) := (((Below.refl _ _).alloc (Nat.le_refl _) _).alloc (by simp) _).alloc (by simp; omega) _
  have HB0 := Lib.hid hb0
  clear hf hs h hsn hw hR hRR hb0
  go_enter Tryz.func44, Tryz.ntmps44
  go_wp2_with (first
    | (go_at_call 60; refine (find_any L HS.out (.slice sa sn sc) T _ (HI.out.below HB0.out HB0.out.size)).mono ?_; rintro e w2 ⟨u, rfl, hu, hb2⟩; have f1 : w2.cell? ⟨w.heap.size + 1, 0, none⟩ = some (.string T) := (hb2.cell (p := ⟨w.heap.size + 1, 0, none⟩) (by simp)).trans (boxH1 w _ T V); have f2 : w2.cell? ⟨w.heap.size + 2, 0, none⟩ = some (.string V) := (hb2.cell (p := ⟨w.heap.size + 2, 0, none⟩) (by simp)).trans (boxH2 w _ T V); have HU := Lib.hid (hu.below hb2 hb2.size); have HB := Lib.hid (HB0.out.trans (hb2.mono HB0.out.size)); have hz2 := hb2.size; (simp only [World.size_alloc] at hz2); clear hu hb2)
    | (go_at_call 59; refine (containsF_any _ HF.out _ T V (w.heap.size + 1) 0 (w.heap.size + 2) 0 _ (HW.out.below HB.out) HU.out f1 f2 (by omega) (by omega)).mono ?_; rintro e w3 ⟨he, hb3⟩; rw [← HR.out] at he; subst he; have HB := Lib.hid (bthen HB.out hb3); clear hb3))
  go_ret
  exact ⟨rfl, HB.out⟩
end Go.Proofs.YtmilgbkkibahlaaGreatDoor


namespace Go.Proofs.YtmilgbkkibahlaaGreatDoor
set_option linter.unusedVariables false
set_option linter.unusedSimpArgs false

def lessD (r : Nat) (a b : List UInt8) : Option Bool := match normD r a, normD r b with
  | some x, some y => if r = 1 then some (Op.bytesLess x y) else if r = 2 then (match numD a, numD b with
    | some m, some n => some (decide (m < n))
    | _, _ => none) else none
  | _, _ => none
def midO : List UInt8 → List (List UInt8) → Bool
  | _, [] => true
  | s, x :: l => (Lib.cut s x).2.2 && midO (Lib.cut s x).2.1 l
def madeO (n : List UInt8) (p : List (List UInt8)) : Bool :=
  Lib.hasPrefix n (p.getD 0 []) && Lib.hasSuffix (Lib.trimPrefix n (p.getD 0 [])) (p.getD (p.length - 1) []) && midO (Lib.trimSuffix (Lib.trimPrefix n (p.getD 0 [])) (p.getD (p.length - 1) [])) ((p.drop 1).take (p.length - 2))
def partsE (r : Nat) (p : List (List UInt8)) (v : List UInt8) : Bool := match normD r v with
  | some n => madeO n (p.map low)
  | none => false
def aboveE (r : Nat) (a b : List UInt8) : Bool := lessD r a b == some false
def askE (k : Int) (t x : List UInt8) : Bool :=
  if k = 4 then (normD (ruleD t) x).isSome else if k = 6 ∨ k = 7 then (lessD (ruleD t) x x).isSome else if k = 5 then decide (ruleD t = 1) else (canonD t).isSome
def fitE (L : List AT) (k : Int) (t x : List UInt8) (p : List (List UInt8)) : Bool :=
  if k = 4 then hasA L t x else if k = 6 then (findA L t).any (fun v => aboveE (ruleD t) v x) else if k = 7 then (findA L t).any (fun v => aboveE (ruleD t) x v) else if k = 5 then (findA L t).any (partsE (ruleD t) p) else decide (0 < (findA L t).length)
def leafE (L : List AT) (k : Int) (t x : List UInt8) (p : List (List UInt8)) : Nat := if askE k t x then (if fitE L k t x p then 1 else 0) else 2
def flipE : Nat → Nat
  | 0 => 1
  | 1 => 0
  | _ => 2
def firstE (a b o : Nat) (l : List Nat) : Nat := if a ∈ l then a else if b ∈ l then b else o
mutual
def evF (L : List AT) : FT → Nat
  | .mk k t x p l => if k = 1 then firstE 0 2 1 (evFs L l) else if k = 2 then firstE 1 2 0 (evFs L l) else if k = 3 then flipE ((evFs L l).headD 2) else leafE L k t x p
def evFs (L : List AT) : List FT → List Nat
  | [] => []
  | f :: l => evF L f :: evFs L l
end
def evalD (L : List AT) (f : FT) : Nat := if mayF 13 f then evF L f else 2
theorem firstE_lt {a b o : Nat} {l : List Nat} (ha : a ≤ 2) (hb : b ≤ 2) (ho : o ≤ 2) : firstE a b o l ≤ 2 := by unfold firstE; (repeat' split) <;> omega
theorem flipE_lt (n : Nat) : flipE n ≤ 2 := by unfold flipE; split <;> omega
theorem leafE_lt (L : List AT) (k : Int) (t x : List UInt8) (p : List (List UInt8)) : leafE L k t x p ≤ 2 := by unfold leafE; (repeat' split) <;> omega
theorem evF_lt (L : List AT) (f : FT) : evF L f ≤ 2 := by
  cases f with
  | mk k t x p l =>
    rw [evF]
    split
    · exact firstE_lt (by omega) (by omega) (by omega)
    · split
      · exact firstE_lt (by omega) (by omega) (by omega)
      · split
        · exact flipE_lt _
        · exact leafE_lt _ _ _ _ _
theorem evFs_map (L : List AT) : ∀ l : List FT, evFs L l = l.map (evF L)
  | [] => rfl
  | f :: l => by rw [evFs, evFs_map L l]; rfl
end Go.Proofs.YtmilgbkkibahlaaGreatDoor


namespace Go.Proofs.YtmilgbkkibahlaaGreatDoor
set_option linter.unusedVariables false
set_option linter.unusedSimpArgs false

def notF (f : FT) : FT := .mk 3 [] [] [] [f]
def bothF (k : Int) (l : List FT) : FT := .mk k [] [] [] l
theorem mayF_up : ∀ (d : Nat) (f : FT), mayF d f = true → mayF (d + 1) f = true
  | 0, _, h => by cases h
  | d + 1, .mk k t v p l, h => by
    have h' : (if holdsC k then t.isEmpty && v.isEmpty && p.isEmpty && kidsC k l.length && l.all (mayF d) else okLeaf k t v p l.length) = true := h
    show (if holdsC k then t.isEmpty && v.isEmpty && p.isEmpty && kidsC k l.length && l.all (mayF (d + 1)) else okLeaf k t v p l.length) = true
    cases hk : holdsC k with
    | false =>
      rw [hk] at h'
      exact h'
    | true =>
      rw [hk] at h'
      simp only [if_true, Bool.and_eq_true] at h' ⊢
      refine ⟨h'.1, List.all_eq_true.2 fun f hf => mayF_up d f (List.all_eq_true.1 h'.2 f hf)⟩
theorem mayF_le {d e : Nat} (h : d ≤ e) (f : FT) (hf : mayF d f = true) : mayF e f = true := by
  obtain ⟨k, rfl⟩ : ∃ k, e = d + k := ⟨e - d, by omega⟩
  induction k with
  | zero => exact hf
  | succ k ih => exact mayF_up (d + k) f (ih (by omega))
theorem may_not (d : Nat) (f : FT) : mayF (d + 1) (notF f) = mayF d f := by
  show (if holdsC 3 then ([] : List UInt8).isEmpty && ([] : List UInt8).isEmpty && ([] : List (List UInt8)).isEmpty && kidsC 3 [f].length && [f].all (mayF d) else _) = _
  simp [holdsC, kidsC]
theorem may_both (d : Nat) {k : Int} (hk : k = 1 ∨ k = 2) (l : List FT) (hl : l.length ≤ 40) : mayF (d + 1) (bothF k l) = l.all (mayF d) := by
  show (if holdsC k then ([] : List UInt8).isEmpty && ([] : List UInt8).isEmpty && ([] : List (List UInt8)).isEmpty && kidsC k l.length && l.all (mayF d) else _) = _
  rcases hk with rfl | rfl <;> simp [holdsC, kidsC, hl]
theorem ev_not (L : List AT) (f : FT) : evF L (notF f) = flipE (evF L f) := by
  unfold notF
  rw [evF]
  rfl
theorem ev_and (L : List AT) (l : List FT) : evF L (bothF 1 l) = firstE 0 2 1 (l.map (evF L)) := by
  unfold bothF
  rw [evF, evFs_map]
  rfl
theorem ev_or (L : List AT) (l : List FT) : evF L (bothF 2 l) = firstE 1 2 0 (l.map (evF L)) := by
  unfold bothF
  rw [evF, evFs_map]
  rfl
theorem flip_flip {n : Nat} (h : n ≤ 2) : flipE (flipE n) = n := by
  rcases (show n = 0 ∨ n = 1 ∨ n = 2 from by omega) with rfl | rfl | rfl <;> rfl
theorem morgan {x y : Nat} (hx : x ≤ 2) (hy : y ≤ 2) : firstE 1 2 0 [flipE x, flipE y] = flipE (firstE 0 2 1 [x, y]) := by
  rcases (show x = 0 ∨ x = 1 ∨ x = 2 from by omega) with rfl | rfl | rfl <;> rcases (show y = 0 ∨ y = 1 ∨ y = 2 from by omega) with rfl | rfl | rfl <;> rfl
theorem evalD_may {L : List AT} {f : FT} (h : mayF 13 f = true) : evalD L f = evF L f := by
  unfold evalD
  rw [if_pos h]
theorem nots_all (L : List AT) (a b : FT) (h1 : mayF 13 (notF (notF (bothF 1 [a, b]))) = true) (h2 : mayF 13 (bothF 2 [notF a, notF b]) = true) :
    ∃ X A : Nat, X ≤ 2 ∧ A ≤ 2 ∧ evalD L (bothF 1 [a, b]) = X ∧ evalD L (notF (bothF 1 [a, b])) = flipE X ∧ evalD L (notF (notF (bothF 1 [a, b]))) = X ∧ evalD L (bothF 2 [notF a, notF b]) = flipE X ∧ evalD L a = A ∧ evalD L (notF a) = flipE A := by
  have h3 : mayF 12 (notF (bothF 1 [a, b])) = true := by rw [← may_not]; exact h1
  have h4 : mayF 11 (bothF 1 [a, b]) = true := by rw [← may_not]; exact h3
  have h5 : [a, b].all (mayF 10) = true := by rw [← may_both 10 (.inl rfl) [a, b] (by simp)]; exact h4
  have h6 : mayF 10 a = true := by simp at h5; exact h5.1
  refine ⟨evF L (bothF 1 [a, b]), evF L a, evF_lt _ _, evF_lt _ _, evalD_may (mayF_le (by omega) _ h4), ?_, ?_, ?_, evalD_may (mayF_le (by omega) _ h6), ?_⟩
  · rw [evalD_may (mayF_le (by omega) _ h3), ev_not]
  · rw [evalD_may h1, ev_not, ev_not, flip_flip (evF_lt _ _)]
  · rw [evalD_may h2, ev_or, ev_and]
    show firstE 1 2 0 [evF L (notF a), evF L (notF b)] = flipE (firstE 0 2 1 [evF L a, evF L b])
    rw [ev_not, ev_not, morgan (evF_lt _ _) (evF_lt _ _)]
  · rw [evalD_may (by rw [may_not]; exact mayF_le (by omega) _ h6), ev_not]
end Go.Proofs.YtmilgbkkibahlaaGreatDoor


namespace Go.Proofs.YtmilgbkkibahlaaGreatDoor
open Go.RowKit
set_option linter.unusedVariables false
set_option linter.unusedSimpArgs false

set_option maxRecDepth 100000 in
theorem flip7_any (n : Nat) (h : n ≤ 2) (w : World) : Calls Tryz.prog 12 #[.int .i64 n] w fun e w' => e = .returned (.int .i64 (flipE n : Nat)) ∧ w' = w := by
  rcases (show n = 0 ∨ n = 1 ∨ n = 2 from by omega) with rfl | rfl | rfl
  · go_enter Tryz.func12, Tryz.ntmps12
    go_wp2
    go_ret
    exact ⟨rfl, rfl⟩
  · go_enter Tryz.func12, Tryz.ntmps12
    go_wp2
    go_ret
    exact ⟨rfl, rfl⟩
  · go_enter Tryz.func12, Tryz.ntmps12
    go_wp2
    go_ret
    exact ⟨rfl, rfl⟩
set_option maxRecDepth 100000 in
set_option maxHeartbeats 2000000 in
theorem no7_ok {ok : Nat → Prop} (f : FT) (k : Int) (x1 x2 x3 x4 : Value) (w : World) (hok : ∀ b, ok b → b < w.heap.size) (h : IsFl ok w f (.agg #[.int .i64 k, x1, x2, x3, x4])) :
    Calls Tryz.prog 9 #[.agg #[.int .i64 k, x1, x2, x3, x4]] w fun e w' => ∃ q, e = .returned (.agg #[.int .i64 3, .string ⟨#[]⟩, .string ⟨#[]⟩, .slice none 0 0, .slice (some ⟨q, 0, none⟩) 1 1]) ∧ w.heap.size ≤ q ∧ q < w'.heap.size ∧ w'.cell? ⟨q, 0, none⟩ = some (.int .i64 k) ∧ IsFl (fun b => ok b ∨ b = q) w' (notF f) (.agg #[.int .i64 3, .string ⟨#[]⟩, .string ⟨#[]⟩, .slice none 0 0, .slice (some ⟨q, 0, none⟩) 1 1]) ∧ Below w.heap.size w w' := by
  obtain ⟨k', T, X, pa, m, pc, ka, n, kc, e⟩ := h.shape
  simp only [Value.agg.injEq, Array.mk.injEq, List.cons.injEq, and_true] at e
  obtain ⟨e0, rfl, rfl, rfl, rfl⟩ := e
  obtain rfl : k = k' := by simpa using e0
  clear e0
  obtain ⟨W9, hW9⟩ : ∃ W, W = ((w.alloc (.cells #[.int .i64 k, .string T, .string X, .slice pa m pc, .slice ka n kc] 31)).alloc (.cells #[.int .i64 3, .string ⟨#[]⟩, .string ⟨#[]⟩, .slice none 0 0, .slice (some ⟨w.heap.size + 1 + 1, 0, none⟩) 1 1] 31)).alloc (.cells #[.int .i64 k, .string T, .string X, .slice pa m pc, .slice ka n kc] 31) := ⟨_, rfl⟩
  have hb : Below w.heap.size w W9 := by rw [hW9]; exact (((Below.refl _ _).alloc (Nat.le_refl _) _).alloc (by simp) _).alloc (by simp; omega) _
  have hs : W9.heap.size = w.heap.size + 3 := by rw [hW9]; go_simp
  have r0 : W9.cell? ⟨w.heap.size + 1 + 1, 0, none⟩ = some (.int .i64 k) := by rw [hW9]; go_simp
  have r1 : W9.cell? ⟨w.heap.size + 1 + 1, 1, none⟩ = some (.string T) := by rw [hW9]; go_simp
  have r2 : W9.cell? ⟨w.heap.size + 1 + 1, 2, none⟩ = some (.string X) := by rw [hW9]; go_simp
  have r3 : W9.cell? ⟨w.heap.size + 1 + 1, 3, none⟩ = some (.slice pa m pc) := by rw [hW9]; go_simp
  have r4 : W9.cell? ⟨w.heap.size + 1 + 1, 4, none⟩ = some (.slice ka n kc) := by rw [hW9]; go_simp
  have q0 : W9.cell? ⟨w.heap.size + 1, 0, none⟩ = some (.int .i64 3) := by rw [hW9]; go_simp
  have q1 : W9.cell? ⟨w.heap.size + 1, 1, none⟩ = some (.string ⟨#[]⟩) := by rw [hW9]; go_simp
  have q2 : W9.cell? ⟨w.heap.size + 1, 2, none⟩ = some (.string ⟨#[]⟩) := by rw [hW9]; go_simp
  have q3 : W9.cell? ⟨w.heap.size + 1, 3, none⟩ = some (.slice none 0 0) := by rw [hW9]; go_simp
  have q4 : W9.cell? ⟨w.heap.size + 1, 4, none⟩ = some (.slice (some ⟨w.heap.size + 1 + 1, 0, none⟩) 1 1) := by rw [hW9]; go_simp
  have hv : IsFl (fun b => ok b ∨ b = w.heap.size + 1 + 1) W9 (notF f) (.agg #[.int .i64 3, .string ⟨#[]⟩, .string ⟨#[]⟩, .slice none 0 0, .slice (some ⟨w.heap.size + 1 + 1, 0, none⟩) 1 1]) := by
    refine ⟨.slice none 0 0, some ⟨w.heap.size + 1 + 1, 0, none⟩, 1, rfl, by decide, by decide, by decide, ⟨none, 0, rfl, Nat.zero_le _, fun j h => absurd h (Nat.not_lt_zero _)⟩, (show 1 ≤ maxLen from by decide), ?_, trivial⟩
    refine ⟨w.heap.size + 1 + 1, 0, _, _, _, _, _, rfl, ?_, r0, r1, r2, r3, r4, h.imp (fun b h => .inl h) (fun b o h => hb.cell (p := ⟨b, o, none⟩) (hok b h))⟩
    exact .inr rfl
  have hq1 : w.heap.size ≤ w.heap.size + 1 + 1 := by omega
  have hq2 : w.heap.size + 1 + 1 < W9.heap.size := by omega
  have HQ := Lib.hid (And.intro hq1 (And.intro hq2 r0))
  have HW9 := Lib.hid hW9.symm
  have HV := Lib.hid hv
  have HB := Lib.hid hb
  clear hW9 hv hb hs hq1 hq2 r0 r1 r2 r3 r4 h hok
  go_enter Tryz.func9, Tryz.ntmps9
  go_wp2
  rw [HW9.out]
  refine bodyPost_ret (v := .agg #[.int .i64 3, .string ⟨#[]⟩, .string ⟨#[]⟩, .slice none 0 0, .slice (some ⟨w.heap.size + 1 + 1, 0, none⟩) 1 1]) (by simp [results, Tryz.results9, go_sem, q0, q1, q2, q3, q4]) rfl ⟨_, rfl, HQ.out.1, HQ.out.2.1, HQ.out.2.2, HV.out, HB.out⟩
theorem no7_any (f : FT) (v : Value) (w : World) (h : IsFl (Lt w) w f v) :
    Calls Tryz.prog 9 #[v] w fun e w' => ∃ q, e = .returned (.agg #[.int .i64 3, .string ⟨#[]⟩, .string ⟨#[]⟩, .slice none 0 0, .slice (some ⟨q, 0, none⟩) 1 1]) ∧ IsFl (Lt w') w' (notF f) (.agg #[.int .i64 3, .string ⟨#[]⟩, .string ⟨#[]⟩, .slice none 0 0, .slice (some ⟨q, 0, none⟩) 1 1]) ∧ Below w.heap.size w w' := by
  obtain ⟨k, T, X, pa, m, pc, ka, n, kc, rfl⟩ := h.shape
  refine (no7_ok f k _ _ _ _ w (fun b hb => hb) h).mono ?_
  rintro e w' ⟨q, he, h1, h2, h3, h4, h5⟩
  refine ⟨q, he, h4.imp (fun b hb => ?_) (fun _ _ _ => rfl), h5⟩
  rcases hb with hb | rfl
  · exact Nat.lt_of_lt_of_le hb h5.size
  · exact h2
end Go.Proofs.YtmilgbkkibahlaaGreatDoor


namespace Go.Proofs.YtmilgbkkibahlaaGreatDoor
open Go.RowKit
set_option linter.unusedVariables false
set_option linter.unusedSimpArgs false

def sgA : Nat → List UInt8
  | 0 => [61]
  | 1 => [62, 61]
  | _ => [60, 61]
def kdA : Nat → Int
  | 0 => 4
  | 1 => 6
  | _ => 7
end Go.Proofs.YtmilgbkkibahlaaGreatDoor


namespace Go.Proofs.YtmilgbkkibahlaaGreatDoor
open Go.RowKit
set_option linter.unusedVariables false
set_option linter.unusedSimpArgs false

theorem mkFl {ok : Nat → Prop} {w : World} {k : Int} {t x : List UInt8} {p : List (List UInt8)} {u : Value} (hk : 4 ≤ k ∧ k ≤ 8) (ht : t.length ≤ maxLen) (hx : x.length ≤ maxLen) (hu : IsTo ok w p u) :
    IsFl ok w (.mk k t x p []) (.agg #[.int .i64 k, strV t, strV x, u, .slice none 0 0]) := by
  have hw : (Lit.int .i64 k).wf = true := by
    have := hk.1
    have := hk.2
    have h5 : k = 4 ∨ k = 5 ∨ k = 6 ∨ k = 7 ∨ k = 8 := by omega
    rcases h5 with rfl | rfl | rfl | rfl | rfl <;> rfl
  exact ⟨u, none, 0, rfl, hw, ht, hx, hu, by simp, trivial⟩
def FlV (B : Nat) (w : World) (o : Option FT) (x : Value) (b : Bool) : Prop := match o with
  | none => x = .agg #[.int .i64 0, .string ⟨#[]⟩, .string ⟨#[]⟩, .slice none 0 0, .slice none 0 0] ∧ b = false
  | some f => IsFl (fun k => B ≤ k ∧ k < w.heap.size) w f x ∧ b = true
theorem fl_set1 {W : World} {b : Nat} {y0 y1 y2 y3 y4 : Value} (h : FlAt W b y0 y1 y2 y3 y4) (x1 : Value) : FlAt (W.setCell ⟨b, 1, none⟩ x1) b y0 x1 y2 y3 y4 := by
  have h' : W.heap[b]? = some (.cells #[y0, y1, y2, y3, y4] 31 (0, 0)) := h
  show (W.setCell ⟨b, 1, none⟩ x1).heap[b]? = _
  simp [World.setCell, Array.getElem?_modify, h']
theorem fl_setC {W : World} {b k o : Nat} {x0 x1 x2 x3 x4 : Value} (h : k ≠ b) : (set5F W b x0 x1 x2 x3 x4).cell? ⟨k, o, none⟩ = W.cell? ⟨k, o, none⟩ := by
  unfold World.cell?
  rw [fl_setO h]
end Go.Proofs.YtmilgbkkibahlaaGreatDoor


namespace Go.Proofs.YtmilgbkkibahlaaGreatDoor
open Go.RowKit
set_option linter.unusedVariables false
set_option linter.unusedSimpArgs false

set_option maxRecDepth 100000 in
theorem loadFl_any (b o : Nat) (x : Int) (w : World) (h : w.cell? ⟨b, o, none⟩ = some (.int .i64 x)) : Calls Tryz.prog 32 #[.pointer (some ⟨b, o, none⟩)] w fun e w' => e = .returned (.int .i64 x) ∧ w' = w := by
  have hl := run_call_load (P := Tryz.prog) Tryz.func39 (by kernel_rfl) (by kernel_rfl) (by kernel_rfl) .i64 (by kernel_rfl) (a := ⟨b, o, none⟩) (x := x) (w := w) h
  go_enter Tryz.func32, Tryz.ntmps32
  go_wp2
  go_ret
  exact ⟨rfl, rfl⟩
set_option maxRecDepth 100000 in
theorem addFl_any (b o : Nat) (x : Int) (hx : 0 ≤ x) (hx2 : x ≤ 1000000000) (w : World) (h : w.cell? ⟨b, o, none⟩ = some (.int .i64 x)) (hz : w.frozen? ⟨b, o, none⟩ = false) : Calls Tryz.prog 31 #[.pointer (some ⟨b, o, none⟩), .int .i64 1] w fun e w' => e = .returned (.int .i64 (x + 1)) ∧ w' = w.setCell ⟨b, o, none⟩ (.int .i64 (x + 1)) := by
  have hl := run_call_add (P := Tryz.prog) Tryz.func38 (by kernel_rfl) (by kernel_rfl) (by kernel_rfl) .i64 (by kernel_rfl) (a := ⟨b, o, none⟩) (x := x) (y := 1) (s := x + 1) (w := w) h hz (by
    show Sem.run _ (pure (Value.int .i64 (IntKind.i64.wrap (x + 1)))) w = _
    rw [IntKind.wrap_i64, show (x + 1 + 9223372036854775808) % 18446744073709551616 - 9223372036854775808 = x + 1 from by omega]
    rfl)
  go_enter Tryz.func31, Tryz.ntmps31
  go_wp2
  go_ret
  exact ⟨rfl, rfl⟩

def HdV (B : Nat) (w : World) (o : Option (FT × List UInt8)) (x : Value) (r : ByteArray) (b : Bool) : Prop := match o with
  | none => x = .agg #[.int .i64 0, .string ⟨#[]⟩, .string ⟨#[]⟩, .slice none 0 0, .slice none 0 0] ∧ b = false
  | some (f, q) => IsFl (fun k => B ≤ k ∧ k < w.heap.size) w f x ∧ r.data.toList = q ∧ b = true
abbrev zF : Obj := .cells #[.int .i64 0, .string ⟨#[]⟩, .string ⟨#[]⟩, .slice none 0 0, .slice none 0 0] 31
end Go.Proofs.YtmilgbkkibahlaaGreatDoor


namespace Go.Proofs.YtmilgbkkibahlaaGreatDoor
open Go.RowKit
set_option linter.unusedVariables false
set_option linter.unusedSimpArgs false

def KidsInv (D : List UInt8 → Option (FT × List UInt8)) (k : Int) (s : List UInt8) (L : List FT) (q : List UInt8) : Prop :=
  ∃ fu, q.length < fu ∧ kidsD D k (s.length + 1) 0 s = (kidsD D k fu L.length q).map fun x => (L ++ x.1, x.2)
def rdLen (w : World) (g : Nat) : Nat := match w.cell? ⟨g, 0, none⟩ with
  | some (.string r) => r.size
  | _ => 0
end Go.Proofs.YtmilgbkkibahlaaGreatDoor


namespace Go.Proofs.YtmilgbkkibahlaaGreatDoor
open Go.RowKit
set_option linter.unusedVariables false
set_option linter.unusedSimpArgs false

def sgH : Nat → UInt8
  | 0 => 38
  | 1 => 124
  | _ => 33
def kdH : Nat → Int
  | 0 => 1
  | 1 => 2
  | _ => 3
end Go.Proofs.YtmilgbkkibahlaaGreatDoor


namespace Go.Proofs.YtmilgbkkibahlaaGreatDoor
open Go.RowKit
set_option linter.unusedVariables false
set_option linter.unusedSimpArgs false

def pOf : Option (FT × List UInt8) → Option FT
  | some (f, []) => some f
  | _ => none
end Go.Proofs.YtmilgbkkibahlaaGreatDoor


namespace Go.Proofs.YtmilgbkkibahlaaGreatDoor
open Go.RowKit
set_option linter.unusedVariables false
set_option linter.unusedSimpArgs false

def textTop (f : FT) : List UInt8 := if mayF 13 f then textF f else []
end Go.Proofs.YtmilgbkkibahlaaGreatDoor


namespace Go.Proofs.YtmilgbkkibahlaaGreatDoor
open Go.RowKit
set_option linter.unusedVariables false
set_option linter.unusedSimpArgs false

def sAw : ByteArray := ⟨#[40, 38, 40, 99, 110, 61, 97, 42, 41, 40, 33, 40, 115, 110, 62, 61, 98, 41, 41, 41]⟩
def fAw : FT := .mk 1 [] [] [] [.mk 5 [99, 110] [] [[97], []] [], .mk 3 [] [] [] [.mk 6 [115, 110] [98] [] []]]
end Go.Proofs.YtmilgbkkibahlaaGreatDoor


namespace Go.Proofs.YtmilgbkkibahlaaGreatDoor
open Go.RowKit
set_option linter.unusedVariables false
set_option linter.unusedSimpArgs false

def deepF : Nat → FT
  | 0 => .mk 8 [99, 110] [] [] []
  | k + 1 => .mk 3 [] [] [] [deepF k]
def deepS : Nat → List UInt8
  | 0 => [40, 99, 110, 61, 42, 41]
  | k + 1 => 40 :: 33 :: (deepS k ++ [41])
def DeepAt (B j : Nat) (w wr : World) : Prop := ∃ x0 x1 x2 x3 x4, FlAt wr B x0 x1 x2 x3 x4 ∧ IsFl (fun b => b < wr.heap.size ∧ b ≠ B) wr (deepF j) (.agg #[x0, x1, x2, x3, x4]) ∧ Below B w wr
theorem mkHold {ok : Nat → Prop} {w : World} {k : Int} {l : List FT} {a : Option Addr} {c : Nat} (hk : (Lit.int .i64 k).wf = true) (hl : l.length ≤ maxLen) (h : IsFls ok w l a 0) :
    IsFl ok w (.mk k [] [] [] l) (.agg #[.int .i64 k, .string ⟨#[]⟩, .string ⟨#[]⟩, .slice none 0 0, .slice a l.length c]) :=
  ⟨.slice none 0 0, a, c, rfl, hk, Nat.zero_le _, Nat.zero_le _, ⟨none, 0, rfl, Nat.zero_le _, fun j h => absurd h (Nat.not_lt_zero _)⟩, hl, h⟩

def RowAt (W : World) (H n q : Nat) : Prop := ∃ C, W.heap[H]? = some (.cells C 31 (0, 0)) ∧ C.size = n * 5 ∧ ∀ k, k < q → C[k * 5]? = some (.int .i64 8) ∧ C[k * 5 + 1]? = some (.string ⟨#[115, 110]⟩) ∧ C[k * 5 + 2]? = some (.string ⟨#[]⟩) ∧ C[k * 5 + 3]? = some (.slice none 0 0) ∧ C[k * 5 + 4]? = some (.slice none 0 0)
theorem RowAt.cells {W : World} {H n q : Nat} (h : RowAt W H n q) (hq : q < n) : ∃ y0 y1 y2 y3 y4, W.cell? ⟨H, q * 5, none⟩ = some y0 ∧ W.cell? ⟨H, q * 5 + 1, none⟩ = some y1 ∧ W.cell? ⟨H, q * 5 + 2, none⟩ = some y2 ∧ W.cell? ⟨H, q * 5 + 3, none⟩ = some y3 ∧ W.cell? ⟨H, q * 5 + 4, none⟩ = some y4 := by
  obtain ⟨C, hC, hz, _⟩ := h
  refine ⟨C[q * 5]'(by omega), C[q * 5 + 1]'(by omega), C[q * 5 + 2]'(by omega), C[q * 5 + 3]'(by omega), C[q * 5 + 4]'(by omega), ?_, ?_, ?_, ?_, ?_⟩ <;> simp [World.cell?, hC, hz] <;> omega
theorem RowAt.frozen {W : World} {H n q : Nat} (h : RowAt W H n q) (k : Nat) : W.frozen? ⟨H, k * 5, none⟩ = false ∧ W.frozen? ⟨H, k * 5 + 1, none⟩ = false ∧ W.frozen? ⟨H, k * 5 + 2, none⟩ = false ∧ W.frozen? ⟨H, k * 5 + 3, none⟩ = false ∧ W.frozen? ⟨H, k * 5 + 4, none⟩ = false := by
  obtain ⟨C, hC, hz, _⟩ := h
  refine ⟨?_, ?_, ?_, ?_, ?_⟩ <;> simp [World.frozen?, hC]
def setR (W : World) (H o : Nat) (x0 x1 x2 x3 x4 : Value) : World := ((((W.setCell ⟨H, o, none⟩ x0).setCell ⟨H, o + 1, none⟩ x1).setCell ⟨H, o + 2, none⟩ x2).setCell ⟨H, o + 3, none⟩ x3).setCell ⟨H, o + 4, none⟩ x4
theorem RowAt.store {W : World} {H n q : Nat} (h : RowAt W H n q) (hq : q < n) : RowAt (setR W H (q * 5) (.int .i64 8) (.string ⟨#[115, 110]⟩) (.string ⟨#[]⟩) (.slice none 0 0) (.slice none 0 0)) H n (q + 1) := by
  obtain ⟨C, hC, hz, hk⟩ := h
  refine ⟨_, heap_setCell_same _ H _ _ _ _ (heap_setCell_same _ H _ _ _ _ (heap_setCell_same _ H _ _ _ _ (heap_setCell_same _ H _ _ _ _ (heap_setCell_same _ H _ _ _ _ hC)))), by simp [hz], fun k hk' => ?_⟩
  by_cases hkq : k = q
  · subst hkq
    refine ⟨?_, ?_, ?_, ?_, ?_⟩
    · rw [Array.getElem?_setIfInBounds_ne (by omega), Array.getElem?_setIfInBounds_ne (by omega), Array.getElem?_setIfInBounds_ne (by omega), Array.getElem?_setIfInBounds_ne (by omega), Array.getElem?_setIfInBounds_self_of_lt (by simp [hz]; omega)]
    · rw [Array.getElem?_setIfInBounds_ne (by omega), Array.getElem?_setIfInBounds_ne (by omega), Array.getElem?_setIfInBounds_ne (by omega), Array.getElem?_setIfInBounds_self_of_lt (by simp [hz]; omega)]
    · rw [Array.getElem?_setIfInBounds_ne (by omega), Array.getElem?_setIfInBounds_ne (by omega), Array.getElem?_setIfInBounds_self_of_lt (by simp [hz]; omega)]
    · rw [Array.getElem?_setIfInBounds_ne (by omega), Array.getElem?_setIfInBounds_self_of_lt (by simp [hz]; omega)]
    · rw [Array.getElem?_setIfInBounds_self_of_lt (by simp [hz]; omega)]
  · have := hk k (by omega)
    obtain ⟨h0, h1, h2, h3, h4⟩ := this
    refine ⟨?_, ?_, ?_, ?_, ?_⟩
    · rw [Array.getElem?_setIfInBounds_ne (by omega), Array.getElem?_setIfInBounds_ne (by omega), Array.getElem?_setIfInBounds_ne (by omega), Array.getElem?_setIfInBounds_ne (by omega), Array.getElem?_setIfInBounds_ne (by omega), h0]
    · rw [Array.getElem?_setIfInBounds_ne (by omega), Array.getElem?_setIfInBounds_ne (by omega), Array.getElem?_setIfInBounds_ne (by omega), Array.getElem?_setIfInBounds_ne (by omega), Array.getElem?_setIfInBounds_ne (by omega), h1]
    · rw [Array.getElem?_setIfInBounds_ne (by omega), Array.getElem?_setIfInBounds_ne (by omega), Array.getElem?_setIfInBounds_ne (by omega), Array.getElem?_setIfInBounds_ne (by omega), Array.getElem?_setIfInBounds_ne (by omega), h2]
    · rw [Array.getElem?_setIfInBounds_ne (by omega), Array.getElem?_setIfInBounds_ne (by omega), Array.getElem?_setIfInBounds_ne (by omega), Array.getElem?_setIfInBounds_ne (by omega), Array.getElem?_setIfInBounds_ne (by omega), h3]
    · rw [Array.getElem?_setIfInBounds_ne (by omega), Array.getElem?_setIfInBounds_ne (by omega), Array.getElem?_setIfInBounds_ne (by omega), Array.getElem?_setIfInBounds_ne (by omega), Array.getElem?_setIfInBounds_ne (by omega), h4]
theorem isFls_mk {ok : Nat → Prop} {w : World} : ∀ (l : List FT) (a : Option Addr) (i : Nat), (∀ k (h : k < l.length), ∃ b off v0 v1 v2 v3 v4, a = some ⟨b, off, none⟩ ∧ ok b ∧ w.cell? ⟨b, off + (i + k) * 5, none⟩ = some v0 ∧ w.cell? ⟨b, off + (i + k) * 5 + 1, none⟩ = some v1 ∧ w.cell? ⟨b, off + (i + k) * 5 + 2, none⟩ = some v2 ∧ w.cell? ⟨b, off + (i + k) * 5 + 3, none⟩ = some v3 ∧ w.cell? ⟨b, off + (i + k) * 5 + 4, none⟩ = some v4 ∧ IsFl ok w l[k] (.agg #[v0, v1, v2, v3, v4])) → IsFls ok w l a i
  | [], _, _, _ => trivial
  | f :: l, a, i, h => ⟨h 0 (by simp), isFls_mk l a (i + 1) fun k hk => by
      have := h (k + 1) (by simpa using hk)
      rw [show i + (k + 1) = i + 1 + k from by omega] at this
      exact this⟩
theorem RowAt.isFls {ok : Nat → Prop} {W : World} {H n : Nat} (h : RowAt W H n n) (hH : ok H) : IsFls ok W (List.replicate n (.mk 8 [115, 110] [] [] [])) (some ⟨H, 0, none⟩) 0 := by
  obtain ⟨C, hC, hz, hk⟩ := h
  refine isFls_mk _ _ _ fun k hkl => ?_
  rw [List.length_replicate] at hkl
  obtain ⟨h0, h1, h2, h3, h4⟩ := hk k hkl
  refine ⟨H, 0, _, _, _, _, _, rfl, hH, ?_, ?_, ?_, ?_, ?_, by rw [List.getElem_replicate]; exact mkFl (k := 8) (t := [115, 110]) (x := []) (p := []) (u := .slice none 0 0) (by decide) (by show 2 ≤ maxLen; decide) (Nat.zero_le _) ⟨none, 0, rfl, Nat.zero_le _, fun j h => absurd h (Nat.not_lt_zero _)⟩⟩
  all_goals simp only [World.cell?, hC, Nat.zero_add, Option.isSome_none, Bool.false_eq_true, if_false]
  · exact h0
  · exact h1
  · exact h2
  · exact h3
  · exact h4
theorem set1_grown (W : World) (H o : Nat) (x : Value) : W.grownBy (W.setCell ⟨H, o, none⟩ x) (some H) :=
  ⟨rfl, rfl, rfl, by rw [World.size_setCell]; exact Nat.le_refl _, fun k hk hne => heap_setCell_other _ _ _ _ (fun e => hne (by rw [e]))⟩
end Go.Proofs.YtmilgbkkibahlaaGreatDoor


namespace Go.Proofs.YtmilgbkkibahlaaGreatDoor
set_option linter.unusedVariables false
set_option linter.unnecessarySimpa false
set_option linter.unusedSimpArgs false

def mkTy (n : Nat) : List UInt8 := match n / 8 % 6 with
  | 0 => [99, 110]
  | 1 => [115, 110]
  | 2 => [100, 101, 115, 99, 114, 105, 112, 116, 105, 111, 110]
  | 3 => [117, 105, 100, 78, 117, 109, 98, 101, 114]
  | 4 => [109, 97, 105, 108]
  | _ => [111, 98, 106, 101, 99, 116, 67, 108, 97, 115, 115]
def mkVl (s : List UInt8) (n : Nat) : List UInt8 := match n / 16 % 6 with
  | 0 => [110, 49]
  | 1 => [78, 50]
  | 2 => s
  | 3 => [53]
  | 4 => [100]
  | _ => [112, 101, 114, 115, 111, 110]
def mkPa (s : List UInt8) (n : Nat) : List (List UInt8) := match n / 48 % 4 with
  | 0 => [[110], []]
  | 1 => [[], [49]]
  | 2 => [[], s ++ [101], []]
  | _ => [[68], [32], [53]]
def mkCn : FT := .mk 8 [99, 110] [] [] []
def kidsM (f : List UInt8 → FT) (l : List UInt8) (q : Nat) : Nat → List FT
  | 0 => []
  | j + 1 => kidsM f l q j ++ [f ((l.drop (j + 1)).take (q + 1))]
theorem kidsM_len (f : List UInt8 → FT) (l : List UInt8) (q : Nat) : ∀ j, (kidsM f l q j).length = j
  | 0 => rfl
  | j + 1 => by rw [kidsM, List.length_append, kidsM_len f l q j]; rfl
def makeFu (s : List UInt8) : Nat → List UInt8 → FT
  | 0, _ => mkCn
  | fu + 1, [] => mkCn
  | fu + 1, c :: r =>
    if c.toNat % 8 = 0 then .mk 1 [] [] [] (kidsM (makeFu s fu) (c :: r) (c.toNat / 60) (min r.length (c.toNat / 24 % 4)))
    else if c.toNat % 8 = 1 then .mk 2 [] [] [] (kidsM (makeFu s fu) (c :: r) (c.toNat / 60) (min r.length (c.toNat / 24 % 4)))
    else if c.toNat % 8 = 2 then .mk 3 [] [] [] [makeFu s fu r]
    else if c.toNat % 8 = 7 then .mk 8 (mkTy c.toNat) [] [] []
    else if c.toNat % 8 = 4 then .mk 5 (mkTy c.toNat) [] (mkPa s c.toNat) []
    else .mk (1 + c.toNat % 8 : Nat) (mkTy c.toNat) (mkVl s c.toNat) [] []
theorem mkTy_len (n : Nat) : (mkTy n).length ≤ 11 := by unfold mkTy; split <;> simp
theorem mkVl_len (s : List UInt8) (n : Nat) : (mkVl s n).length ≤ s.length + 6 := by unfold mkVl; split <;> simp
end Go.Proofs.YtmilgbkkibahlaaGreatDoor


namespace Go.Proofs.YtmilgbkkibahlaaGreatDoor
set_option linter.unusedVariables false

section
variable {P : Program} {ops : Array Oper} {Q : Exit → Act → World → Prop} {md : Region.Mode}

def toCome (l : Array Bool) : Nat := l.toList.count false

theorem toCome_some {l : Array Bool} {i : Nat} (h : l.getD i true = false) : ∃ hi : i < l.size, l[i] = false := by
  rcases Nat.lt_or_ge i l.size with hi | hi
  · refine ⟨hi, ?_⟩
    simpa [hi] using h
  · simp [Array.getElem?_eq_none hi] at h

theorem toCome_set {l : Array Bool} {i : Nat} (h : l.getD i true = false) : toCome (l.setIfInBounds i true) + 1 = toCome l := by
  obtain ⟨hi, he⟩ := toCome_some h
  unfold toCome
  have hi' : i < l.toList.length := by simpa using hi
  have he' : l.toList[i] = false := by simpa using he
  have hpos : 0 < l.toList.count false := List.count_pos_iff.2 (by rw [← he']; exact List.getElem_mem hi')
  rw [Array.toList_setIfInBounds, List.count_set hi', he']
  rw [if_pos (by rfl), if_neg (by decide)]
  omega

theorem toCome_none {l : Array Bool} (h : toCome l = 0) {i : Nat} : l.getD i true ≠ false := fun hf => by
  have := toCome_set hf
  omega

theorem wpAny_inv (Inv : Array Bool → Act → World → Prop)
    (hstep : ∀ listed a w, Inv listed a w → ∀ i ∈ Region.ready md ops listed, wpOp P ops Q i (Inv (listed.setIfInBounds i true)) a w)
    (hend : ∀ listed a w, Inv listed a w → Region.ready md ops listed = [] → Q .normal a w) :
    ∀ (fuel : Nat) (listed : Array Bool) (a : Act) (w : World), toCome listed ≤ fuel → Inv listed a w → wpAny P md ops Q fuel listed a w
  | 0, listed, a, w, hf, hI => by
    have hr : Region.ready md ops listed = [] := by
      cases hc : Region.ready md ops listed with
      | nil => rfl
      | cons j rs => exact absurd (mem_ready.1 (hc ▸ List.mem_cons_self : j ∈ Region.ready md ops listed)).1 (toCome_none (by omega))
    exact ⟨hr, hend _ _ _ hI hr⟩
  | fuel + 1, listed, a, w, hf, hI => by
    refine ⟨fun hr => hend _ _ _ hI hr, fun i hi => wpOp_mono (fun a' w' h => ?_) (hstep _ _ _ hI i hi)⟩
    have := toCome_set (mem_ready.1 hi).1
    exact wpAny_inv Inv hstep hend fuel _ a' w' (by omega) h

theorem all_come {listed : Array Bool} (hb : ∀ (i : Nat) (o : Oper), ops[i]? = some o → ∀ e ∈ o.after, e.on < i) (hs : listed.size = ops.size) (hr : Region.ready md ops listed = []) :
    ∀ (n i : Nat), i < n → i < ops.size → listed.getD i false = true
  | 0, i, h, _ => by omega
  | n + 1, i, h, hi => by
    have ih := all_come hb hs hr n
    cases hc : listed.getD i false with
    | true => rfl
    | false =>
      exfalso
      have hm : i ∈ Region.ready md ops listed := by
        refine mem_ready.2 ⟨?_, ops[i], Array.getElem?_eq_getElem hi, fun e he _ => ?_⟩
        · have hi' : i < listed.size := by omega
          simpa [hi'] using hc
        · have := hb i _ (Array.getElem?_eq_getElem hi) e he
          exact ih e.on (by omega) (by omega)
      rw [hr] at hm
      cases hm

theorem region_inv {id : Nat} {a : Act} {w : World} (hm : P.follows .mixedOrders = true) (Inv : Array Bool → Act → World → Prop)
    (h0 : Inv (Array.replicate ops.size false) a { w with drawn := w.drawn + 1 })
    (hb : ∀ (i : Nat) (o : Oper), ops[i]? = some o → ∀ e ∈ o.after, e.on < i)
    (hsize : ∀ listed a w, Inv listed a w → listed.size = ops.size)
    (hstep : ∀ listed a w, Inv listed a w → ∀ (i : Nat) (o : Oper), ops[i]? = some o → listed.getD i true = false → (∀ e ∈ o.after, Region.binds .any e = true → listed.getD e.on false = true) →
      wpOp P ops Q i (Inv (listed.setIfInBounds i true)) a w)
    (hend : ∀ listed a w, Inv listed a w → (∀ i, i < ops.size → listed.getD i false = true) → Q .normal a w) : (Code.region id ops true).wp P Q a w := by
  refine wp_region_any hm (wpAny_inv Inv (fun listed a w hI i hi => ?_) (fun listed a w hI hr => ?_) _ _ _ _ ?_ h0)
  · obtain ⟨h1, o, h2, h3⟩ := mem_ready.1 hi
    exact hstep listed a w hI i o h2 h1 h3
  · exact hend listed a w hI fun i hi => all_come hb (hsize _ _ _ hI) hr (i + 1) i (by omega) hi
  · unfold toCome
    refine Nat.le_trans List.count_le_length ?_
    simp
end
end Go.Proofs.YtmilgbkkibahlaaGreatDoor


namespace Go.Proofs.YtmilgbkkibahlaaGreatDoor
set_option linter.unusedVariables false

section
variable {P : Program} {ops : Array Oper} {Q : Exit → Act → World → Prop}

def Came (listed : Array Bool) (o : Oper) : Prop := ∀ e ∈ o.after, Region.binds .any e = true → listed.getD e.on false = true

structure Kept (ops : Array Oper) (F : Nat → Value → World → Prop) (G : World → World → Prop) (a0 : Act) (w0 : World) (listed : Array Bool) (a : Act) (w : World) : Prop where
  size : listed.size = ops.size
  shut : ∀ (i : Nat) (o : Oper), ops[i]? = some o → listed.getD i false = true → Came listed o
  defers : a.defers = a0.defers
  slots : a.tmps.size = a0.tmps.size
  grown : G w0 w
  other : ∀ t, (∀ (i : Nat) (o : Oper), ops[i]? = some o → o.dst ≠ some t) → a.tmps[t]? = a0.tmps[t]?
  fact : ∀ (i : Nat) (o : Oper) (d : Tmp), ops[i]? = some o → o.dst = some d → listed.getD i false = true → ∃ v, a.tmps[d]? = some v ∧ F i v w

theorem came_more {listed : Array Bool} {i : Nat} {o : Oper} (h : Came listed o) : Came (listed.setIfInBounds i true) o := fun e he hb => getD_set_true (h e he hb)

theorem getD_set_self {listed : Array Bool} {i : Nat} (h : i < listed.size) : (listed.setIfInBounds i true).getD i false = true := by simp [h]

theorem Kept.more {F : Nat → Value → World → Prop} {G : World → World → Prop} {a0 a : Act} {w0 w w' : World} {listed : Array Bool} (hk : Kept ops F G a0 w0 listed a w) {i : Nat} {o : Oper} {d : Tmp} {v : Value}
    (hF : ∀ i v w w', F i v w → G w w' → F i v w') (hG : ∀ w w' w'', G w w' → G w' w'' → G w w'')
    (hd : ∀ (i j : Nat) (o o' : Oper) (d : Tmp), ops[i]? = some o → ops[j]? = some o' → o.dst = some d → o'.dst = some d → i = j)
    (hin : ∀ (i : Nat) (o : Oper) (d : Tmp), ops[i]? = some o → o.dst = some d → d < a0.tmps.size)
    (ho : ops[i]? = some o) (hod : o.dst = some d) (hc : Came listed o) (hg : G w w') (hv : F i v w') : Kept ops F G a0 w0 (listed.setIfInBounds i true) (a.put (some d) v) w' := by
  have hi : i < listed.size := by rw [hk.size]; exact (Array.getElem?_eq_some_iff.1 ho).1
  refine ⟨by simp [hk.size], fun j o' ho' hl => ?_, hk.defers, by simp [Act.put, hk.slots], hG _ _ _ hk.grown hg, fun t ht => ?_, fun j o' d' ho' hd' hl => ?_⟩
  · by_cases hij : i = j
    · subst hij
      rw [ho] at ho'; cases ho'
      exact came_more hc
    · rw [getD_set_ne false hij] at hl
      exact came_more (hk.shut j o' ho' hl)
  · have : d ≠ t := fun h => ht i o ho (by rw [hod, h])
    simp only [Act.put]
    rw [Array.getElem?_setIfInBounds_ne this]
    exact hk.other t ht
  · by_cases hij : i = j
    · subst hij
      rw [ho] at ho'; cases ho'
      rw [hod] at hd'; cases hd'
      refine ⟨v, ?_, hv⟩
      have : d < a.tmps.size := by rw [hk.slots]; exact hin i o d ho hod
      simp [Act.put, this]
    · rw [getD_set_ne false hij] at hl
      obtain ⟨u, hu, hf⟩ := hk.fact j o' d' ho' hd' hl
      have : d ≠ d' := fun h => hij (hd i j o o' d ho ho' hod (by rw [hd', h]))
      refine ⟨u, ?_, hF _ _ _ _ hf hg⟩
      simp only [Act.put]
      rw [Array.getElem?_setIfInBounds_ne this]
      exact hu

theorem rest_came {listed : Array Bool} (hs : ∀ (i : Nat) (o : Oper), ops[i]? = some o → listed.getD i false = true → Came listed o)
    (hw : ∀ i, i + 1 < ops.size → ∃ (j : Nat) (o : Oper), i < j ∧ ops[j]? = some o ∧ ∃ e ∈ o.after, Region.binds .any e = true ∧ e.on = i)
    {l : Oper} (hl : ops[ops.size - 1]? = some l) (hc : Came listed l) : ∀ (n i : Nat), ops.size ≤ i + 1 + n → i + 1 < ops.size → listed.getD i false = true
  | 0, i, h, hi => by omega
  | n + 1, i, h, hi => by
    obtain ⟨j, o, hij, ho, e, he, hb, rfl⟩ := hw i hi
    have hj : j < ops.size := (Array.getElem?_eq_some_iff.1 ho).1
    by_cases hlast : j = ops.size - 1
    · subst hlast
      rw [ho] at hl; cases hl
      exact hc e he hb
    · exact hs j o ho (rest_came hs hw hl hc n j (by omega) (by omega)) e he hb

theorem region_facts {id : Nat} {a0 : Act} {w0 : World} (hm : P.follows .mixedOrders = true) (F : Nat → Value → World → Prop) (G : World → World → Prop)
    (hF : ∀ i v w w', F i v w → G w w' → F i v w') (hG : ∀ w w' w'', G w w' → G w' w'' → G w w'') (h0 : G w0 { w0 with drawn := w0.drawn + 1 })
    (hb : ∀ (i : Nat) (o : Oper), ops[i]? = some o → ∀ e ∈ o.after, e.on < i)
    (hd : ∀ (i j : Nat) (o o' : Oper) (d : Tmp), ops[i]? = some o → ops[j]? = some o' → o.dst = some d → o'.dst = some d → i = j)
    (hin : ∀ (i : Nat) (o : Oper) (d : Tmp), ops[i]? = some o → o.dst = some d → d < a0.tmps.size)
    (hw : ∀ i, i + 1 < ops.size → ∃ (j : Nat) (o : Oper), i < j ∧ ops[j]? = some o ∧ ∃ e ∈ o.after, Region.binds .any e = true ∧ e.on = i)
    {l : Oper} (hl : ops[ops.size - 1]? = some l)
    (hstep : ∀ listed a w, Kept ops F G a0 w0 listed a w → ∀ (i : Nat) (o : Oper), ops[i]? = some o → i + 1 < ops.size → Came listed o →
      wpOp P ops Q i (fun a' w' => ∃ d v, o.dst = some d ∧ a' = a.put (some d) v ∧ G w w' ∧ F i v w') a w)
    (hlast : ∀ listed a w, Kept ops F G a0 w0 listed a w → (∀ i, i + 1 < ops.size → listed.getD i false = true) → wpOp P ops Q (ops.size - 1) (fun a' w' => Q .normal a' w') a w) :
    (Code.region id ops true).wp P Q a0 w0 := by
  have hne : 0 < ops.size := by
    have := (Array.getElem?_eq_some_iff.1 hl).1
    omega
  refine region_inv hm (fun listed a w => (Kept ops F G a0 w0 listed a w ∧ listed.getD (ops.size - 1) false = false) ∨ (listed.size = ops.size ∧ (∀ i, i < ops.size → listed.getD i false = true) ∧ Q .normal a w)) ?_ hb ?_ ?_ ?_
  · have hno : ∀ i, (Array.replicate ops.size false).getD i false = false := fun i => by
      rcases Nat.lt_or_ge i ops.size with h | h <;> simp [h]
    exact .inl ⟨⟨by simp, fun i o _ h => (by rw [hno] at h; cases h), rfl, rfl, h0, fun _ _ => rfl, fun i o d _ _ h => (by rw [hno] at h; cases h)⟩, hno _⟩
  · rintro listed a w (⟨h, _⟩ | ⟨h, _⟩)
    · exact h.size
    · exact h
  · rintro listed a w (⟨hk, hn⟩ | ⟨hs, ha, _⟩) i o ho hi hc
    · have hio : i < ops.size := (Array.getElem?_eq_some_iff.1 ho).1
      by_cases hlst : i = ops.size - 1
      · subst hlst
        rw [ho] at hl; cases hl
        have hall := fun j => rest_came hk.shut hw ho hc ops.size j (by omega)
        refine wpOp_mono (fun a' w' hq => .inr ⟨by simp [hk.size], fun j hj => ?_, hq⟩) (hlast listed a w hk hall)
        by_cases hjl : j = ops.size - 1
        · subst hjl; exact getD_set_self (by rw [hk.size]; exact hio)
        · exact getD_set_true (hall j (by omega))
      · refine wpOp_mono (fun a' w' hq => ?_) (hstep listed a w hk i o ho (by omega) hc)
        obtain ⟨d, v, hod, rfl, hg, hv⟩ := hq
        exact .inl ⟨hk.more hF hG hd hin ho hod hc hg hv, by rw [getD_set_ne false hlst]; exact hn⟩
    · exfalso
      have hio : i < ops.size := (Array.getElem?_eq_some_iff.1 ho).1
      have := ha i hio
      have hi' : i < listed.size := by omega
      simp [hi'] at this hi
      rw [this] at hi; cases hi
  · rintro listed a w (⟨hk, hn⟩ | ⟨_, _, hq⟩) ha
    · rw [ha _ (by omega)] at hn; cases hn
    · exact hq

def regOk (ops : Array Oper) (n : Nat) : Bool := (List.range ops.size).all fun i => match ops[i]? with
  | none => true
  | some o => (o.after.all fun e => decide (e.on < i)) && (match o.dst with
      | none => true
      | some d => decide (d < n) && (List.range ops.size).all fun j => match ops[j]? with
        | none => true
        | some o' => decide (o'.dst ≠ some d) || decide (i = j)) &&
    (decide (ops.size ≤ i + 1) || (List.range ops.size).any fun j => match ops[j]? with
        | none => false
        | some o' => decide (i < j) && o'.after.any fun e => Region.binds .any e && decide (e.on = i))

theorem regOk_at {n : Nat} (h : regOk ops n = true) {i : Nat} {o : Oper} (ho : ops[i]? = some o) :
    (∀ e ∈ o.after, e.on < i) ∧ (∀ d, o.dst = some d → d < n ∧ ∀ (j : Nat) (o' : Oper), ops[j]? = some o' → o'.dst = some d → i = j) ∧
      (i + 1 < ops.size → ∃ (j : Nat) (o' : Oper), i < j ∧ ops[j]? = some o' ∧ ∃ e ∈ o'.after, Region.binds .any e = true ∧ e.on = i) := by
  have hi : i < ops.size := (Array.getElem?_eq_some_iff.1 ho).1
  have h1 := List.all_eq_true.1 h i (List.mem_range.2 hi)
  rw [ho] at h1
  simp only [Bool.and_eq_true, Bool.or_eq_true, decide_eq_true_eq] at h1
  obtain ⟨⟨ha, hb⟩, hc⟩ := h1
  refine ⟨fun e he => ?_, fun d hd => ?_, fun hlt => ?_⟩
  · have := Array.all_eq_true_iff_forall_mem.1 ha e he
    simpa using this
  · rw [hd] at hb
    simp only [Bool.and_eq_true, decide_eq_true_eq] at hb
    refine ⟨hb.1, fun j o' ho' hd' => ?_⟩
    have h2 := List.all_eq_true.1 hb.2 j (List.mem_range.2 (Array.getElem?_eq_some_iff.1 ho').1)
    rw [ho'] at h2
    simp only [Bool.or_eq_true, decide_eq_true_eq] at h2
    rcases h2 with h2 | h2
    · exact absurd hd' h2
    · exact h2
  · rcases hc with hc | hc
    · omega
    · obtain ⟨j, _, hj⟩ := List.any_eq_true.1 hc
      cases ho' : ops[j]? with
      | none => rw [ho'] at hj; cases hj
      | some o' =>
        rw [ho'] at hj
        simp only [Bool.and_eq_true, decide_eq_true_eq] at hj
        obtain ⟨e, he, hbe⟩ := Array.any_eq_true'.1 hj.2
        simp only [Bool.and_eq_true, decide_eq_true_eq] at hbe
        exact ⟨j, o', hj.1, ho', e, he, hbe.1, hbe.2⟩

theorem region_factsB {id : Nat} {a0 : Act} {w0 : World} (hm : P.follows .mixedOrders = true) (F : Nat → Value → World → Prop) (G : World → World → Prop)
    (hF : ∀ i v w w', F i v w → G w w' → F i v w') (hG : ∀ w w' w'', G w w' → G w' w'' → G w w'') (h0 : G w0 { w0 with drawn := w0.drawn + 1 })
    (hok : regOk ops a0.tmps.size = true) {l : Oper} (hl : ops[ops.size - 1]? = some l)
    (hstep : ∀ listed a w, Kept ops F G a0 w0 listed a w → ∀ (i : Nat) (o : Oper), ops[i]? = some o → i + 1 < ops.size → Came listed o →
      wpOp P ops Q i (fun a' w' => ∃ d v, o.dst = some d ∧ a' = a.put (some d) v ∧ G w w' ∧ F i v w') a w)
    (hlast : ∀ listed a w, Kept ops F G a0 w0 listed a w → (∀ i, i + 1 < ops.size → listed.getD i false = true) → wpOp P ops Q (ops.size - 1) (fun a' w' => Q .normal a' w') a w) :
    (Code.region id ops true).wp P Q a0 w0 :=
  region_facts hm F G hF hG h0 (fun i o ho => (regOk_at hok ho).1) (fun i j o o' d ho ho' hd hd' => ((regOk_at hok ho).2.1 d hd).2 j o' ho' hd') (fun i o d ho hd => ((regOk_at hok ho).2.1 d hd).1)
    (fun i hi => (regOk_at hok (Array.getElem?_eq_getElem (show i < ops.size by omega))).2.2 hi) hl hstep hlast

theorem wpOp_val {i : Nat} {o : Oper} {a : Act} {w w' : World} {v : Value} {K : Act → World → Prop} (ho : ops[i]? = some o) (hg : o.guard = none) (hr : (execOp a.eval o).run P w = .ok (.value v) w') (hk : K (a.put o.dst v) w') : wpOp P ops Q i K a w := by
  unfold wpOp
  rw [ho]
  show if Region.wanted o (yielded ops a.tmps) = true then _ else _
  rw [if_pos (by unfold Region.wanted; rw [hg])]
  refine .inl ?_
  unfold Oper.wp
  rw [hr]
  exact hk

def noDst (ops : Array Oper) (t : Nat) : Bool := (List.range ops.size).all fun i => match ops[i]? with
  | none => true
  | some o => decide (o.dst ≠ some t)

theorem Kept.read {F : Nat → Value → World → Prop} {G : World → World → Prop} {a0 a : Act} {w0 w : World} {listed : Array Bool} (hk : Kept ops F G a0 w0 listed a w) {t : Nat} {v : Value} (hn : noDst ops t = true) (h : a0.tmps[t]? = some v) : a.tmps[t]?.getD undef = v := by
  have h1 := hk.other t fun i o ho => by
    have h2 := List.all_eq_true.1 hn i (List.mem_range.2 (Array.getElem?_eq_some_iff.1 ho).1)
    rw [ho] at h2
    simpa using h2
  rw [h1, h]
  rfl

theorem Kept.got {F : Nat → Value → World → Prop} {G : World → World → Prop} {a0 a : Act} {w0 w : World} {listed : Array Bool} (hk : Kept ops F G a0 w0 listed a w) {j : Nat} {o : Oper} {d : Tmp} (ho : ops[j]? = some o) (hd : o.dst = some d) (hl : listed.getD j false = true) :
    ∃ v, a.tmps[d]?.getD undef = v ∧ F j v w := by
  obtain ⟨v, h, hf⟩ := hk.fact j o d ho hd hl
  refine ⟨v, ?_, hf⟩
  rw [h]
  rfl
end
end Go.Proofs.YtmilgbkkibahlaaGreatDoor


namespace Go.Proofs.YtmilgbkkibahlaaGreatDoor
open Go.RowKit
set_option linter.unusedVariables false

section
variable {P : Program} {ops : Array Oper} {Q : Exit → Act → World → Prop}

theorem Kept.more2 {F F' : Nat → Value → World → Prop} {G : World → World → Prop} {a0 a : Act} {w0 w w' : World} {listed : Array Bool} (hk : Kept ops F G a0 w0 listed a w) {i : Nat} {o : Oper} {d : Tmp} {v : Value}
    (hF : ∀ j u, j ≠ i → F j u w → F' j u w') (hgr : G w0 w')
    (hd : ∀ (i j : Nat) (o o' : Oper) (d : Tmp), ops[i]? = some o → ops[j]? = some o' → o.dst = some d → o'.dst = some d → i = j)
    (hin : ∀ (i : Nat) (o : Oper) (d : Tmp), ops[i]? = some o → o.dst = some d → d < a0.tmps.size)
    (ho : ops[i]? = some o) (hod : o.dst = some d) (hc : Came listed o) (hv : F' i v w') : Kept ops F' G a0 w0 (listed.setIfInBounds i true) (a.put (some d) v) w' := by
  have hi : i < listed.size := by rw [hk.size]; exact (Array.getElem?_eq_some_iff.1 ho).1
  refine ⟨by simp [hk.size], fun j o' ho' hl => ?_, hk.defers, by simp [Act.put, hk.slots], hgr, fun t ht => ?_, fun j o' d' ho' hd' hl => ?_⟩
  · by_cases hij : i = j
    · subst hij
      rw [ho] at ho'; cases ho'
      exact came_more hc
    · rw [getD_set_ne false hij] at hl
      exact came_more (hk.shut j o' ho' hl)
  · have : d ≠ t := fun h => ht i o ho (by rw [hod, h])
    simp only [Act.put]
    rw [Array.getElem?_setIfInBounds_ne this]
    exact hk.other t ht
  · by_cases hij : i = j
    · subst hij
      rw [ho] at ho'; cases ho'
      rw [hod] at hd'; cases hd'
      refine ⟨v, ?_, hv⟩
      have : d < a.tmps.size := by rw [hk.slots]; exact hin i o d ho hod
      simp [Act.put, this]
    · rw [getD_set_ne false hij] at hl
      obtain ⟨u, hu, hf⟩ := hk.fact j o' d' ho' hd' hl
      have : d ≠ d' := fun h => hij (hd i j o o' d ho ho' hod (by rw [hd', h]))
      refine ⟨u, ?_, hF _ _ (fun h => hij h.symm) hf⟩
      simp only [Act.put]
      rw [Array.getElem?_setIfInBounds_ne this]
      exact hu

def depOn (ops : Array Oper) (l2 l1 : Nat) : Bool := match ops[l2]? with
  | none => false
  | some o => o.after.any fun e => Region.binds .any e && decide (e.on = l1)

def laidT (a : Array Value) : List Oper → Array Value → Array Value
  | [], r => r
  | o :: l, r => laidT a l (match o.dst with | none => r | some d => r.setIfInBounds d (a[d]?.getD undef))
theorem laidT_at (a : Array Value) (t : Nat) : ∀ (l : List Oper) (r : Array Value), r[t]? = a[t]? ∨ (∃ o ∈ l, o.dst = some t) → a.size = r.size → (laidT a l r)[t]? = a[t]?
  | [], r, h, _ => by
    rcases h with h | ⟨o, ho, _⟩
    · exact h
    · simp at ho
  | o :: l, r, h, hs => by
    rw [laidT]
    cases e : o.dst with
    | none =>
      refine laidT_at a t l r ?_ hs
      rcases h with h | ⟨o', ho', he⟩
      · exact .inl h
      · rcases List.mem_cons.1 ho' with rfl | ho'
        · rw [e] at he; cases he
        · exact .inr ⟨o', ho', he⟩
    | some d =>
      simp only
      refine laidT_at a t l _ ?_ (by simpa using hs)
      by_cases hdt : d = t
      · subst hdt
        left
        rcases Nat.lt_or_ge d a.size with hlt | hge
        · rw [Array.getElem?_setIfInBounds_self_of_lt (by omega), Array.getElem?_eq_getElem hlt]
          rfl
        · rw [Array.getElem?_eq_none hge, Array.getElem?_eq_none (by simp; omega)]
      · rcases h with h | ⟨o', ho', he⟩
        · left
          rw [Array.getElem?_setIfInBounds_ne hdt]
          exact h
        · rcases List.mem_cons.1 ho' with rfl | ho'
          · rw [e] at he; cases he; exact absurd rfl hdt
          · exact .inr ⟨o', ho', he⟩
theorem Kept.frame {F : Nat → Value → World → Prop} {G : World → World → Prop} {a0 a : Act} {w0 w : World} {listed : Array Bool} (hk : Kept ops F G a0 w0 listed a w) : a = { a0 with tmps := laidT a.tmps ops.toList a0.tmps } := by
  have h1 : a.tmps = laidT a.tmps ops.toList a0.tmps := by
    refine Array.ext_getElem? fun t => ?_
    symm
    refine laidT_at a.tmps t _ _ ?_ hk.slots
    by_cases h : ∃ o ∈ ops.toList, o.dst = some t
    · exact .inr h
    · left
      refine (hk.other t fun i o ho hd => h ⟨o, ?_, hd⟩).symm
      exact List.mem_of_getElem? (i := i) (by simpa using ho)
  cases a
  cases a0
  have h2 := hk.defers
  simp only at h1 h2
  simp only [← h1, h2]
def putT (t : Array Value) : List Oper → Act → Act
  | [], r => r
  | o :: l, r => putT t l (r.put o.dst (match o.dst with | none => undef | some d => t[d]?.getD undef))
theorem putT_eq (t : Array Value) : ∀ (l : List Oper) (r : Act), putT t l r = { r with tmps := laidT t l r.tmps }
  | [], r => rfl
  | o :: l, r => by
    rw [putT, putT_eq t l, laidT]
    cases o.dst <;> rfl
theorem Kept.puts {F : Nat → Value → World → Prop} {G : World → World → Prop} {a0 a : Act} {w0 w : World} {listed : Array Bool} (hk : Kept ops F G a0 w0 listed a w) : a = putT a.tmps ops.toList a0 := by
  rw [putT_eq]
  exact hk.frame
end
end Go.Proofs.YtmilgbkkibahlaaGreatDoor


namespace Go.Proofs.YtmilgbkkibahlaaGreatDoor
open Go.RowKit
set_option linter.unusedVariables false

section
variable {P : Program} {ops : Array Oper} {Q : Exit → Act → World → Prop}

theorem region_J {id : Nat} {a0 : Act} {w0 : World} (hm : P.follows .mixedOrders = true) (n0 l1 l2 : Nat) (F : Bool → Bool → Nat → Value → World → Prop) (J : Bool → Bool → World → Prop)
    (hJ : ∀ p q w w', n0 ≤ w.heap.size → J p q w → Below w.heap.size w w' → J p q w') (hJ0 : J false false w0)
    (hF : ∀ p q i v w w', n0 ≤ w.heap.size → F p q i v w → Below w.heap.size w w' → F p q i v w') (hn : n0 ≤ w0.heap.size)
    (hok : regOk ops a0.tmps.size = true) (h12 : depOn ops l2 l1 = true) (h2 : decide (l1 < l2 ∧ l2 + 1 < ops.size) = true) {l : Oper} (hl : ops[ops.size - 1]? = some l)
    (hstep : ∀ listed a w p q, n0 ≤ w.heap.size → J p q w → Kept ops (F p q) (Below n0) a0 w0 listed a w → ∀ (i : Nat) (o : Oper), ops[i]? = some o → i + 1 < ops.size → i ≠ l1 → i ≠ l2 → Came listed o →
      wpOp P ops Q i (fun a' w' => ∃ d v, o.dst = some d ∧ a' = a.put (some d) v ∧ Below w.heap.size w w' ∧ F p q i v w') a w)
    (hloud1 : ∀ listed a w, n0 ≤ w.heap.size → J false false w → Kept ops (F false false) (Below n0) a0 w0 listed a w → ∀ o, ops[l1]? = some o → Came listed o →
      wpOp P ops Q l1 (fun a' w' => ∃ d v, o.dst = some d ∧ a' = a.put (some d) v ∧ Below n0 w w' ∧ F true false l1 v w' ∧ J true false w' ∧ ∀ j u, j ≠ l1 → F false false j u w → F true false j u w') a w)
    (hloud2 : ∀ listed a w, n0 ≤ w.heap.size → J true false w → Kept ops (F true false) (Below n0) a0 w0 listed a w → ∀ o, ops[l2]? = some o → Came listed o →
      wpOp P ops Q l2 (fun a' w' => ∃ d v, o.dst = some d ∧ a' = a.put (some d) v ∧ Below n0 w w' ∧ F true true l2 v w' ∧ J true true w' ∧ ∀ j u, j ≠ l2 → F true false j u w → F true true j u w') a w)
    (hlast : ∀ listed a w, n0 ≤ w.heap.size → J true true w → Kept ops (F true true) (Below n0) a0 w0 listed a w → (∀ i, i + 1 < ops.size → listed.getD i false = true) → wpOp P ops Q (ops.size - 1) (fun a' w' => Q .normal a' w') a w) :
    (Code.region id ops true).wp P Q a0 w0 := by
  have hne : 0 < ops.size := by
    have := (Array.getElem?_eq_some_iff.1 hl).1
    omega
  obtain ⟨hlt12, h2⟩ := of_decide_eq_true h2
  have hb := fun (i : Nat) (o : Oper) (ho : ops[i]? = some o) => (regOk_at hok ho).1
  have hd := fun (i j : Nat) (o o' : Oper) (d : Tmp) (ho : ops[i]? = some o) (ho' : ops[j]? = some o') (hd : o.dst = some d) (hd' : o'.dst = some d) => ((regOk_at hok ho).2.1 d hd).2 j o' ho' hd'
  have hin := fun (i : Nat) (o : Oper) (d : Tmp) (ho : ops[i]? = some o) (hd : o.dst = some d) => ((regOk_at hok ho).2.1 d hd).1
  have hw := fun i (hi : i + 1 < ops.size) => (regOk_at hok (Array.getElem?_eq_getElem (show i < ops.size by omega))).2.2 hi
  have hno : ∀ i, (Array.replicate ops.size false).getD i false = false := fun i => by
    rcases Nat.lt_or_ge i ops.size with h | h <;> simp [h]
  refine region_inv hm (fun listed a w => (Kept ops (F (listed.getD l1 false) (listed.getD l2 false)) (Below n0) a0 w0 listed a w ∧ J (listed.getD l1 false) (listed.getD l2 false) w ∧ listed.getD (ops.size - 1) false = false) ∨ (listed.size = ops.size ∧ (∀ i, i < ops.size → listed.getD i false = true) ∧ Q .normal a w)) ?_ hb ?_ ?_ ?_
  · exact .inl ⟨⟨by simp, fun i o _ h => (by rw [hno] at h; cases h), rfl, rfl, (Below.refl n0 w0).drew, fun _ _ => rfl, fun i o d _ _ h => (by rw [hno] at h; cases h)⟩, by rw [hno, hno]; exact hJ _ _ _ _ hn hJ0 (Below.refl _ _).drew, hno _⟩
  · rintro listed a w (⟨h, _⟩ | ⟨h, _⟩)
    · exact h.size
    · exact h
  · rintro listed a w (⟨hk, hjw, hnl⟩ | ⟨hs, ha, _⟩) i o ho hi hc
    · have hio : i < ops.size := (Array.getElem?_eq_some_iff.1 ho).1
      have hsz : n0 ≤ w.heap.size := Nat.le_trans hn hk.grown.size
      have hpi : listed.getD i false = false := by
        have hi' : i < listed.size := by rw [hk.size]; exact hio
        simpa [hi'] using hi
      have hsl : (listed.setIfInBounds i true).getD i false = true := getD_set_self (by rw [hk.size]; exact hio)
      by_cases hlst : i = ops.size - 1
      · subst hlst
        rw [ho] at hl; cases hl
        have hall := fun j => rest_came hk.shut hw ho hc ops.size j (by omega)
        rw [hall l2 h2, hall l1 (by omega)] at hk hjw
        refine wpOp_mono (fun a' w' hq => .inr ⟨by simp [hk.size], fun j hj => ?_, hq⟩) (hlast listed a w hsz hjw hk hall)
        by_cases hjl : j = ops.size - 1
        · subst hjl; exact hsl
        · exact getD_set_true (hall j (by omega))
      · by_cases hi1 : i = l1
        · subst hi1
          have hp2 : listed.getD l2 false = false := by
            cases e : listed.getD l2 false with
            | false => rfl
            | true =>
              exfalso
              unfold depOn at h12
              cases eo : ops[l2]? with
              | none => rw [eo] at h12; cases h12
              | some o2 =>
                rw [eo] at h12
                obtain ⟨x, hx, hxe⟩ := Array.any_eq_true'.1 h12
                simp only [Bool.and_eq_true, decide_eq_true_eq] at hxe
                have := hk.shut l2 o2 eo e x hx hxe.1
                rw [hxe.2, hpi] at this
                cases this
          rw [hpi, hp2] at hk hjw
          refine wpOp_mono (fun a' w' hq => ?_) (hloud1 listed a w hsz hjw hk o ho hc)
          obtain ⟨d, v, hod, rfl, hg, hv, hj2, hj⟩ := hq
          refine .inl ⟨?_, by rw [hsl, getD_set_ne false (show i ≠ l2 by omega), hp2]; exact hj2, by rw [getD_set_ne false hlst]; exact hnl⟩
          rw [hsl, getD_set_ne false (show i ≠ l2 by omega), hp2]
          exact hk.more2 hj (hk.grown.trans hg) hd hin ho hod hc hv
        · by_cases hi2 : i = l2
          · subst hi2
            have hp1 : listed.getD l1 false = true := by
              unfold depOn at h12
              rw [ho] at h12
              obtain ⟨x, hx, hxe⟩ := Array.any_eq_true'.1 h12
              simp only [Bool.and_eq_true, decide_eq_true_eq] at hxe
              have := hc x hx hxe.1
              rwa [hxe.2] at this
            rw [hp1, hpi] at hk hjw
            refine wpOp_mono (fun a' w' hq => ?_) (hloud2 listed a w hsz hjw hk o ho hc)
            obtain ⟨d, v, hod, rfl, hg, hv, hj2, hj⟩ := hq
            refine .inl ⟨?_, by rw [hsl, getD_set_ne false (show i ≠ l1 by omega), hp1]; exact hj2, by rw [getD_set_ne false hlst]; exact hnl⟩
            rw [hsl, getD_set_ne false (show i ≠ l1 by omega), hp1]
            exact hk.more2 hj (hk.grown.trans hg) hd hin ho hod hc hv
          · refine wpOp_mono (fun a' w' hq => ?_) (hstep listed a w _ _ hsz hjw hk i o ho (by omega) hi1 hi2 hc)
            obtain ⟨d, v, hod, rfl, hg, hv⟩ := hq
            refine .inl ⟨?_, by rw [getD_set_ne false hi1, getD_set_ne false hi2]; exact hJ _ _ _ _ hsz hjw hg, by rw [getD_set_ne false hlst]; exact hnl⟩
            rw [getD_set_ne false hi1, getD_set_ne false hi2]
            exact hk.more2 (fun j u _ h => hF _ _ _ _ _ _ hsz h hg) (hk.grown.trans (hg.mono hsz)) hd hin ho hod hc hv
    · exfalso
      have hio : i < ops.size := (Array.getElem?_eq_some_iff.1 ho).1
      have := ha i hio
      have hi' : i < listed.size := by omega
      simp [hi'] at this hi
      rw [this] at hi; cases hi
  · rintro listed a w (⟨hk, _, hnl⟩ | ⟨_, _, hq⟩) ha
    · rw [ha _ (by omega)] at hnl; cases hnl
    · exact hq


theorem wpOp_call {i : Nat} {o : Oper} {a : Act} {w : World} {f : FuncId} {args : Array Value} {K : Act → World → Prop} (ho : ops[i]? = some o) (hg : o.guard = none) (hr : (execOp a.eval o).run P w = .ok (.enter f args) w)
    (hc : Calls P f args w fun e w' => ∃ v, e = .returned v ∧ K (a.put o.dst v) w') : wpOp P ops Q i K a w := by
  unfold wpOp
  rw [ho]
  show if Region.wanted o (yielded ops a.tmps) = true then _ else _
  rw [if_pos (by unfold Region.wanted; rw [hg])]
  refine .inl ?_
  unfold Oper.wp
  rw [hr]
  exact Calls.mono hc (fun e w' h => by obtain ⟨v, rfl, h⟩ := h; exact h)
end
end Go.Proofs.YtmilgbkkibahlaaGreatDoor


namespace Go.Proofs.YtmilgbkkibahlaaGreatDoor
open Go.RowKit
set_option linter.unusedVariables false
set_option linter.unusedSimpArgs false

theorem isFls_two {ok : Nat → Prop} {w : World} {g : Nat} {a b : FT} {x0 x1 x2 x3 x4 y0 y1 y2 y3 y4 : Value} (hg : ok g) (hc : w.heap[g]? = some (.cells #[x0, x1, x2, x3, x4, y0, y1, y2, y3, y4] 31 (0, 0))) (ha : IsFl ok w a (.agg #[x0, x1, x2, x3, x4])) (hb : IsFl ok w b (.agg #[y0, y1, y2, y3, y4])) :
    IsFls ok w [a, b] (some ⟨g, 0, none⟩) 0 :=
  ⟨⟨g, 0, x0, x1, x2, x3, x4, rfl, hg, by simp [World.cell?, hc], by simp [World.cell?, hc], by simp [World.cell?, hc], by simp [World.cell?, hc], by simp [World.cell?, hc], ha⟩,
   ⟨g, 0, y0, y1, y2, y3, y4, rfl, hg, by simp [World.cell?, hc], by simp [World.cell?, hc], by simp [World.cell?, hc], by simp [World.cell?, hc], by simp [World.cell?, hc], hb⟩, trivial⟩
theorem makeFu_kind (s : List UInt8) (d : Nat) (ns : List UInt8) : ∃ k t x p l, makeFu s d ns = .mk k t x p l ∧ 1 ≤ k := by
  unfold makeFu
  split
  · exact ⟨8, _, _, _, _, rfl, by decide⟩
  · exact ⟨8, _, _, _, _, rfl, by decide⟩
  · split
    · exact ⟨_, _, _, _, _, rfl, by decide⟩
    · split
      · exact ⟨_, _, _, _, _, rfl, by decide⟩
      · split
        · exact ⟨_, _, _, _, _, rfl, by decide⟩
        · split
          · exact ⟨_, _, _, _, _, rfl, by decide⟩
          · split
            · exact ⟨_, _, _, _, _, rfl, by decide⟩
            · exact ⟨_, _, _, _, _, rfl, by omega⟩
theorem fl_kind {ok : Nat → Prop} {w : World} {f : FT} {k : Int} {x1 x2 x3 x4 : Value} (h : IsFl ok w f (.agg #[.int .i64 k, x1, x2, x3, x4])) (hm : ∃ k t x p l, f = .mk k t x p l ∧ 1 ≤ k) : k ≠ 0 := by
  obtain ⟨k', t, x, p, l, rfl, h1⟩ := hm
  obtain ⟨pa, pc, ka, kc, e, _⟩ := h.parts
  simp only [Value.agg.injEq, Array.mk.injEq, List.cons.injEq, Value.int.injEq, true_and] at e
  obtain ⟨rfl, _⟩ := e
  omega
def FlB (W : World) (p : Nat) (x0 x1 x2 x3 x4 : Value) : Prop := W.cell? ⟨p, 0, none⟩ = some x0 ∧ W.cell? ⟨p, 1, none⟩ = some x1 ∧ W.cell? ⟨p, 2, none⟩ = some x2 ∧ W.cell? ⟨p, 3, none⟩ = some x3 ∧ W.cell? ⟨p, 4, none⟩ = some x4
theorem FlB.of {W : World} {p : Nat} {x0 x1 x2 x3 x4 : Value} {ty : TypeId} {fr : Nat × Nat} (h : W.heap[p]? = some (.cells #[x0, x1, x2, x3, x4] ty fr)) : FlB W p x0 x1 x2 x3 x4 := by
  refine ⟨?_, ?_, ?_, ?_, ?_⟩ <;> simp [World.cell?, h]
theorem FlB.go {W W' : World} {p : Nat} {x0 x1 x2 x3 x4 : Value} (h : FlB W p x0 x1 x2 x3 x4) (hb : Below W.heap.size W W') (hp : p < W.heap.size) : FlB W' p x0 x1 x2 x3 x4 :=
  ⟨(hb.cell (p := ⟨p, 0, none⟩) hp).trans h.1, (hb.cell (p := ⟨p, 1, none⟩) hp).trans h.2.1, (hb.cell (p := ⟨p, 2, none⟩) hp).trans h.2.2.1, (hb.cell (p := ⟨p, 3, none⟩) hp).trans h.2.2.2.1, (hb.cell (p := ⟨p, 4, none⟩) hp).trans h.2.2.2.2⟩
def okQ (B : Nat) (w : World) (b : Nat) : Prop := b < w.heap.size ∧ (b < B ∨ ∃ k : Int, k ≠ 0 ∧ w.cell? ⟨b, 0, none⟩ = some (.int .i64 k))
theorem okQ.go {B b : Nat} {w w' : World} (h : okQ B w b) (hb : Below w.heap.size w w') : okQ B w' b :=
  ⟨Nat.lt_of_lt_of_le h.1 hb.size, h.2.imp id fun ⟨k, hk, hc⟩ => ⟨k, hk, (hb.cell (p := ⟨b, 0, none⟩) h.1).trans hc⟩⟩
theorem IsFl.goN {B : Nat} {w w' : World} {f : FT} {v : Value} (h : IsFl (okQ B w) w f v) (hb : Below w.heap.size w w') : IsFl (okQ B w') w' f v :=
  h.imp (fun b h => h.go hb) (fun b o h => hb.cell (p := ⟨b, o, none⟩) h.1)
inductive Fo where
  | is (v : Value)
  | fl (f : FT)
  | row (a b : FT)
  | both (a b : FT)
  | box
def FO (B : Nat) (T : List Fo) (i : Nat) (v : Value) (w : World) : Prop := match T.getD i .box with
  | .is x => v = x
  | .fl f => ∃ q, v = .agg #[.int .i64 3, .string ⟨#[]⟩, .string ⟨#[]⟩, .slice none 0 0, .slice (some ⟨q, 0, none⟩) 1 1] ∧ IsFl (okQ B w) w (notF f) v
  | .row a b => ∃ g, v = .slice (some ⟨g, 0, none⟩) 2 2 ∧ IsFl (okQ B w) w (bothF 2 [notF a, notF b]) (.agg #[.int .i64 2, .string ⟨#[]⟩, .string ⟨#[]⟩, .slice none 0 0, .slice (some ⟨g, 0, none⟩) 2 2])
  | .both a b => ∃ g, v = .agg #[.int .i64 2, .string ⟨#[]⟩, .string ⟨#[]⟩, .slice none 0 0, .slice (some ⟨g, 0, none⟩) 2 2] ∧ IsFl (okQ B w) w (bothF 2 [notF a, notF b]) v
  | .box => ∃ p, v = .pointer (some ⟨p, 0, none⟩) ∧ B ≤ p ∧ w.heap[p]? = some (.cells #[.int .i64 0, .string ⟨#[]⟩, .string ⟨#[]⟩, .slice none 0 0, .slice none 0 0] 31 (0, 0))
theorem FO.go {B : Nat} {T : List Fo} {i : Nat} {v : Value} {w w' : World} (h : FO B T i v w) (hb : Below w.heap.size w w') : FO B T i v w' := by
  unfold FO at h ⊢
  cases e : T.getD i .box with
  | is x => rw [e] at h; exact h
  | fl f => rw [e] at h; obtain ⟨q, h1, h2⟩ := h; exact ⟨q, h1, h2.goN hb⟩
  | row a b => rw [e] at h; obtain ⟨q, h1, h2⟩ := h; exact ⟨q, h1, h2.goN hb⟩
  | both a b => rw [e] at h; obtain ⟨q, h1, h2⟩ := h; exact ⟨q, h1, h2.goN hb⟩
  | box => rw [e] at h; obtain ⟨p, h1, h2, h3⟩ := h; exact ⟨p, h1, h2, (hb.block _ (Array.getElem?_eq_some_iff.1 h3).1).trans h3⟩
theorem no7_N {B : Nat} (f : FT) (k : Int) (x1 x2 x3 x4 : Value) (w : World) (hk : k ≠ 0) (h : IsFl (okQ B w) w f (.agg #[.int .i64 k, x1, x2, x3, x4])) :
    Calls Tryz.prog 9 #[.agg #[.int .i64 k, x1, x2, x3, x4]] w fun e w' => ∃ q, e = .returned (.agg #[.int .i64 3, .string ⟨#[]⟩, .string ⟨#[]⟩, .slice none 0 0, .slice (some ⟨q, 0, none⟩) 1 1]) ∧ IsFl (okQ B w') w' (notF f) (.agg #[.int .i64 3, .string ⟨#[]⟩, .string ⟨#[]⟩, .slice none 0 0, .slice (some ⟨q, 0, none⟩) 1 1]) ∧ Below w.heap.size w w' :=
  (no7_ok f k x1 x2 x3 x4 w (fun b hb => hb.1) h).mono fun e w' ⟨q, he, h1, h2, h3, h4, h5⟩ => by
    refine ⟨q, he, h4.imp (fun b hb => ?_) (fun _ _ _ => rfl), h5⟩
    rcases hb with hb | rfl
    · exact hb.go h5
    · exact ⟨h2, .inr ⟨k, hk, h3⟩⟩
theorem row_N {B g : Nat} {w : World} {a b : FT} {q1 q2 : Nat} (hg : w.heap[g]? = some (.cells #[.int .i64 3, .string ⟨#[]⟩, .string ⟨#[]⟩, .slice none 0 0, .slice (some ⟨q1, 0, none⟩) 1 1, .int .i64 3, .string ⟨#[]⟩, .string ⟨#[]⟩, .slice none 0 0, .slice (some ⟨q2, 0, none⟩) 1 1] 31 (0, 0)))
    (ha : IsFl (okQ B w) w (notF a) (.agg #[.int .i64 3, .string ⟨#[]⟩, .string ⟨#[]⟩, .slice none 0 0, .slice (some ⟨q1, 0, none⟩) 1 1])) (hb : IsFl (okQ B w) w (notF b) (.agg #[.int .i64 3, .string ⟨#[]⟩, .string ⟨#[]⟩, .slice none 0 0, .slice (some ⟨q2, 0, none⟩) 1 1])) :
    IsFl (okQ B w) w (bothF 2 [notF a, notF b]) (.agg #[.int .i64 2, .string ⟨#[]⟩, .string ⟨#[]⟩, .slice none 0 0, .slice (some ⟨g, 0, none⟩) 2 2]) :=
  mkHold (l := [notF a, notF b]) (by decide) (show 2 ≤ maxLen by decide) (isFls_two ⟨(Array.getElem?_eq_some_iff.1 hg).1, .inr ⟨3, by decide, by simp [World.cell?, hg]⟩⟩ hg ha hb)
def setP (W : World) (p : Nat) (x0 x1 x2 x3 x4 : Value) : World := ((((W.setCell ⟨p, 0, none⟩ x0).setCell ⟨p, 1, none⟩ x1).setCell ⟨p, 2, none⟩ x2).setCell ⟨p, 3, none⟩ x3).setCell ⟨p, 4, none⟩ x4
theorem setP_block {W : World} {p : Nat} {x0 x1 x2 x3 x4 : Value} {b : Nat} (h : b ≠ p) : (setP W p x0 x1 x2 x3 x4).heap[b]? = W.heap[b]? := by
  unfold setP World.setCell
  simp [Array.getElem?_modify, Ne.symm h]
theorem setP_self {W : World} {p : Nat} {x0 x1 x2 x3 x4 y0 y1 y2 y3 y4 : Value} (h : W.heap[p]? = some (.cells #[y0, y1, y2, y3, y4] 31 (0, 0))) : (setP W p x0 x1 x2 x3 x4).heap[p]? = some (.cells #[x0, x1, x2, x3, x4] 31 (0, 0)) := by
  unfold setP World.setCell
  simp [Array.getElem?_modify, h]
theorem setP_size {W : World} {p : Nat} {x0 x1 x2 x3 x4 : Value} : (setP W p x0 x1 x2 x3 x4).heap.size = W.heap.size := by
  unfold setP World.setCell
  simp
theorem setP_below {B : Nat} {w W : World} {p : Nat} {x0 x1 x2 x3 x4 : Value} (h : Below B w W) (hp : B ≤ p) : Below B w (setP W p x0 x1 x2 x3 x4) :=
  ((((h.setCell (p := ⟨p, 0, none⟩) hp _).setCell (p := ⟨p, 1, none⟩) hp _).setCell (p := ⟨p, 2, none⟩) hp _).setCell (p := ⟨p, 3, none⟩) hp _).setCell (p := ⟨p, 4, none⟩) hp _
theorem IsFl.setP {B p : Nat} {W : World} {x0 x1 x2 x3 x4 : Value} {f : FT} {v : Value} (h : IsFl (okQ B W) W f v) (hB : B ≤ p) (hp : W.heap[p]? = some (.cells #[.int .i64 0, .string ⟨#[]⟩, .string ⟨#[]⟩, .slice none 0 0, .slice none 0 0] 31 (0, 0))) : IsFl (Lt (setP W p x0 x1 x2 x3 x4)) (setP W p x0 x1 x2 x3 x4) f v := by
  have hne : ∀ b, okQ B W b → b ≠ p := by
    rintro b ⟨h1, h2⟩ rfl
    rcases h2 with h2 | ⟨k, hk, hc⟩
    · omega
    · simp only [World.cell?, hp] at hc
      simp at hc
      exact hk hc.symm
  exact h.imp (fun b hb => by show b < _; rw [setP_size]; exact hb.1) (fun b o hb => by simp only [World.cell?, setP_block (hne b hb)])
theorem setP_facts {W : World} {p : Nat} (x0 x1 x2 x3 : Value) (h : W.heap[p]? = some (.cells #[.int .i64 0, .string ⟨#[]⟩, .string ⟨#[]⟩, .slice none 0 0, .slice none 0 0] 31 (0, 0))) : W.frozen? ⟨p, 0, none⟩ = false ∧ W.cell? ⟨p, 0, none⟩ = some (.int .i64 0) ∧ (W.setCell ⟨p, 0, none⟩ x0).frozen? ⟨p, 1, none⟩ = false ∧ (W.setCell ⟨p, 0, none⟩ x0).cell? ⟨p, 1, none⟩ = some (.string ⟨#[]⟩) ∧ ((W.setCell ⟨p, 0, none⟩ x0).setCell ⟨p, 1, none⟩ x1).frozen? ⟨p, 2, none⟩ = false ∧ ((W.setCell ⟨p, 0, none⟩ x0).setCell ⟨p, 1, none⟩ x1).cell? ⟨p, 2, none⟩ = some (.string ⟨#[]⟩) ∧ (((W.setCell ⟨p, 0, none⟩ x0).setCell ⟨p, 1, none⟩ x1).setCell ⟨p, 2, none⟩ x2).frozen? ⟨p, 3, none⟩ = false ∧ (((W.setCell ⟨p, 0, none⟩ x0).setCell ⟨p, 1, none⟩ x1).setCell ⟨p, 2, none⟩ x2).cell? ⟨p, 3, none⟩ = some (.slice none 0 0) ∧ ((((W.setCell ⟨p, 0, none⟩ x0).setCell ⟨p, 1, none⟩ x1).setCell ⟨p, 2, none⟩ x2).setCell ⟨p, 3, none⟩ x3).frozen? ⟨p, 4, none⟩ = false ∧ ((((W.setCell ⟨p, 0, none⟩ x0).setCell ⟨p, 1, none⟩ x1).setCell ⟨p, 2, none⟩ x2).setCell ⟨p, 3, none⟩ x3).cell? ⟨p, 4, none⟩ = some (.slice none 0 0) := by
  refine ⟨?_, ?_, ?_, ?_, ?_, ?_, ?_, ?_, ?_, ?_⟩ <;> simp [World.cell?, World.frozen?, World.setCell, Array.getElem?_modify, h]
end Go.Proofs.YtmilgbkkibahlaaGreatDoor


namespace Go.Proofs.YtmilgbkkibahlaaGreatDoor
open Go.RowKit
set_option linter.unusedVariables false
set_option linter.unusedSimpArgs false

set_option maxRecDepth 100000 in
set_option maxHeartbeats 2000000 in
theorem indexQG_any (L : List (List UInt8)) (hs : L.length ≤ 1000000) (v : Value) (b1 : Nat) (q : List UInt8 → Bool) (w : World) (h : IsT w.heap.size w L v)
    (HQ : ∀ (X : ByteArray) (W : World), Below w.heap.size w W → X.data.toList ∈ L → Calls Tryz.prog 46 #[.string X, .pointer (some ⟨b1, 0, none⟩)] W fun e w' => e = .returned (.bool (q X.data.toList)) ∧ Below W.heap.size W w') :
    Calls Tryz.prog 78 #[v, .func (.func 46) #[] #[.pointer (some ⟨b1, 0, none⟩)]] w fun e w' => ∃ I : Int, e = .returned (.int .i64 I) ∧ decide (0 ≤ I) = L.any q ∧ Below w.heap.size w w' := by
  obtain ⟨a, c, rfl, hm, hcell⟩ := h
  unfold maxLen at hm
  have HC := Lib.hid hcell
  have HQh := Lib.hid HQ
  clear hcell HQ
  go_enter Tryz.func78, Tryz.ntmps78
  go_wp2
  go_loopw [8] (fun i wr => ∃ j : Nat, j ≤ L.length ∧ i = .int .i64 j ∧ Hid (∀ k (hk : k < L.length), k < j → q L[k] = false) ∧ Below w.heap.size w wr) (fun i wr => L.length - (intOf i).toNat)
  case atStart => exact ⟨0, by omega, rfl, Lib.hid (fun k _ h => absurd h (by omega)), Below.refl _ _⟩
  case round =>
    obtain ⟨j, hj, rfl, HNo, hbel⟩ := hrel
    have HBel := Lib.hid hbel
    have hbs := hbel.size
    by_cases hlt : j < L.length
    · have t1 : decide ((j : Int) < (L.length : Int)) = true := by simp; omega
      have t1' : decide (j < L.length) = true := by simpa using hlt
      obtain ⟨b, off, rfl, hb0, c0⟩ := HC.out j hlt
      obtain ⟨X, hX⟩ : ∃ X : ByteArray, ⟨L[j].toArray⟩ = X := ⟨_, rfl⟩
      have hXl : X.data.toList = L[j] := by rw [← hX]
      have d0 : (wr.cell? ⟨b, off + j, none⟩) = some (.string X) := by
        rw [hbel.cell (p := ⟨b, _, none⟩) hb0, c0, ← hX]; rfl
      have hab := HQh.out X wr hbel (by rw [hXl]; exact List.getElem_mem _)
      rw [hXl] at hab
      obtain ⟨g, hg⟩ : ∃ g, q L[j] = g := ⟨_, rfl⟩
      rw [hg] at hab
      have HAb := Lib.hid hab
      have HG := Lib.hid hg
      clear hX hXl c0 hab hbel hg
      cases g with
      | true =>
        have HR : Hid (L.any q = true) := Lib.hid (List.any_eq_true.2 ⟨L[j], List.getElem_mem _, HG.out⟩)
        go_wp2_with (go_at_call 46; refine (HAb.out).mono ?_; rintro e w2 ⟨rfl, hb2⟩; have HB2 := Lib.hid (HBel.out.trans (hb2.mono hbs)); clear hb2)
        go_ret
        exact ⟨_, rfl, by rw [HR.out]; simp, HB2.out⟩
      | false =>
        have HN : Hid (∀ k (hk : k < L.length), k < j + 1 → q L[k] = false) := Lib.hid (fun k h1 h3 => by
            by_cases hk : k < j
            · exact HNo.out k h1 hk
            · obtain rfl : k = j := by omega
              exact HG.out)
        go_wp2_with (go_at_call 46; refine (HAb.out).mono ?_; rintro e w2 ⟨rfl, hb2⟩; have HB2 := Lib.hid (HBel.out.trans (hb2.mono hbs)); clear hb2)
        go_roundw
        case rel => exact ⟨j + 1, by omega, by go_num, HN, HB2.out⟩
        case measure => simp [intOf]; omega
    · obtain rfl : j = L.length := by omega
      have t1 : decide ((L.length : Int) < (L.length : Int)) = false := by simp
      have t1' : decide (L.length < L.length) = false := by simp
      have HR : Hid (L.any q = false) := Lib.hid (List.any_eq_false.2 (fun x hx => by
        obtain ⟨k, hk, rfl⟩ := List.getElem_of_mem hx
        simpa using HNo.out k hk hk))
      clear hbel
      go_wp2
      go_ret
      exact ⟨_, rfl, by rw [HR.out]; rfl, HBel.out⟩
set_option maxRecDepth 100000 in
set_option maxHeartbeats 2000000 in
theorem containsQG_any (L : List (List UInt8)) (hs : L.length ≤ 1000000) (v : Value) (b1 : Nat) (q : List UInt8 → Bool) (w : World) (h : IsT w.heap.size w L v)
    (HQ : ∀ (X : ByteArray) (W : World), Below w.heap.size w W → X.data.toList ∈ L → Calls Tryz.prog 46 #[.string X, .pointer (some ⟨b1, 0, none⟩)] W fun e w' => e = .returned (.bool (q X.data.toList)) ∧ Below W.heap.size W w') :
    Calls Tryz.prog 59 #[v, .func (.func 46) #[] #[.pointer (some ⟨b1, 0, none⟩)]] w fun e w' => e = .returned (.bool (L.any q)) ∧ Below w.heap.size w w' := by
  have hc := indexQG_any L hs v b1 q w h HQ
  obtain ⟨R, hR⟩ : ∃ R, R = L.any q := ⟨_, rfl⟩
  rw [← hR] at hc ⊢
  obtain ⟨sa, sc, hv, _⟩ := id h
  obtain ⟨sn, hsn⟩ : ∃ n, n = L.length := ⟨_, rfl⟩
  rw [← hsn] at hv
  subst hv
  have HC := Lib.hid hc
  clear hc hR hsn h HQ
  go_enter Tryz.func59, Tryz.ntmps59
  go_wp2_with (go_at_call 78; refine (HC.out).mono ?_; rintro e w2 ⟨I, rfl, hI, hb2⟩; have HB2 := Lib.hid hb2; clear hb2)
  go_ret
  exact ⟨rfl, HB2.out⟩

set_option maxRecDepth 100000 in
set_option maxHeartbeats 2000000 in
theorem indexQL_any (L : List (List UInt8)) (hs : L.length ≤ 1000000) (v : Value) (b1 : Nat) (q : List UInt8 → Bool) (w : World) (h : IsT w.heap.size w L v)
    (HQ : ∀ (X : ByteArray) (W : World), Below w.heap.size w W → X.data.toList ∈ L → Calls Tryz.prog 48 #[.string X, .pointer (some ⟨b1, 0, none⟩)] W fun e w' => e = .returned (.bool (q X.data.toList)) ∧ Below W.heap.size W w') :
    Calls Tryz.prog 78 #[v, .func (.func 48) #[] #[.pointer (some ⟨b1, 0, none⟩)]] w fun e w' => ∃ I : Int, e = .returned (.int .i64 I) ∧ decide (0 ≤ I) = L.any q ∧ Below w.heap.size w w' := by
  obtain ⟨a, c, rfl, hm, hcell⟩ := h
  unfold maxLen at hm
  have HC := Lib.hid hcell
  have HQh := Lib.hid HQ
  clear hcell HQ
  go_enter Tryz.func78, Tryz.ntmps78
  go_wp2
  go_loopw [8] (fun i wr => ∃ j : Nat, j ≤ L.length ∧ i = .int .i64 j ∧ Hid (∀ k (hk : k < L.length), k < j → q L[k] = false) ∧ Below w.heap.size w wr) (fun i wr => L.length - (intOf i).toNat)
  case atStart => exact ⟨0, by omega, rfl, Lib.hid (fun k _ h => absurd h (by omega)), Below.refl _ _⟩
  case round =>
    obtain ⟨j, hj, rfl, HNo, hbel⟩ := hrel
    have HBel := Lib.hid hbel
    have hbs := hbel.size
    by_cases hlt : j < L.length
    · have t1 : decide ((j : Int) < (L.length : Int)) = true := by simp; omega
      have t1' : decide (j < L.length) = true := by simpa using hlt
      obtain ⟨b, off, rfl, hb0, c0⟩ := HC.out j hlt
      obtain ⟨X, hX⟩ : ∃ X : ByteArray, ⟨L[j].toArray⟩ = X := ⟨_, rfl⟩
      have hXl : X.data.toList = L[j] := by rw [← hX]
      have d0 : (wr.cell? ⟨b, off + j, none⟩) = some (.string X) := by
        rw [hbel.cell (p := ⟨b, _, none⟩) hb0, c0, ← hX]; rfl
      have hab := HQh.out X wr hbel (by rw [hXl]; exact List.getElem_mem _)
      rw [hXl] at hab
      obtain ⟨g, hg⟩ : ∃ g, q L[j] = g := ⟨_, rfl⟩
      rw [hg] at hab
      have HAb := Lib.hid hab
      have HG := Lib.hid hg
      clear hX hXl c0 hab hbel hg
      cases g with
      | true =>
        have HR : Hid (L.any q = true) := Lib.hid (List.any_eq_true.2 ⟨L[j], List.getElem_mem _, HG.out⟩)
        go_wp2_with (go_at_call 48; refine (HAb.out).mono ?_; rintro e w2 ⟨rfl, hb2⟩; have HB2 := Lib.hid (HBel.out.trans (hb2.mono hbs)); clear hb2)
        go_ret
        exact ⟨_, rfl, by rw [HR.out]; simp, HB2.out⟩
      | false =>
        have HN : Hid (∀ k (hk : k < L.length), k < j + 1 → q L[k] = false) := Lib.hid (fun k h1 h3 => by
            by_cases hk : k < j
            · exact HNo.out k h1 hk
            · obtain rfl : k = j := by omega
              exact HG.out)
        go_wp2_with (go_at_call 48; refine (HAb.out).mono ?_; rintro e w2 ⟨rfl, hb2⟩; have HB2 := Lib.hid (HBel.out.trans (hb2.mono hbs)); clear hb2)
        go_roundw
        case rel => exact ⟨j + 1, by omega, by go_num, HN, HB2.out⟩
        case measure => simp [intOf]; omega
    · obtain rfl : j = L.length := by omega
      have t1 : decide ((L.length : Int) < (L.length : Int)) = false := by simp
      have t1' : decide (L.length < L.length) = false := by simp
      have HR : Hid (L.any q = false) := Lib.hid (List.any_eq_false.2 (fun x hx => by
        obtain ⟨k, hk, rfl⟩ := List.getElem_of_mem hx
        simpa using HNo.out k hk hk))
      clear hbel
      go_wp2
      go_ret
      exact ⟨_, rfl, by rw [HR.out]; rfl, HBel.out⟩
set_option maxRecDepth 100000 in
set_option maxHeartbeats 2000000 in
theorem containsQL_any (L : List (List UInt8)) (hs : L.length ≤ 1000000) (v : Value) (b1 : Nat) (q : List UInt8 → Bool) (w : World) (h : IsT w.heap.size w L v)
    (HQ : ∀ (X : ByteArray) (W : World), Below w.heap.size w W → X.data.toList ∈ L → Calls Tryz.prog 48 #[.string X, .pointer (some ⟨b1, 0, none⟩)] W fun e w' => e = .returned (.bool (q X.data.toList)) ∧ Below W.heap.size W w') :
    Calls Tryz.prog 59 #[v, .func (.func 48) #[] #[.pointer (some ⟨b1, 0, none⟩)]] w fun e w' => e = .returned (.bool (L.any q)) ∧ Below w.heap.size w w' := by
  have hc := indexQL_any L hs v b1 q w h HQ
  obtain ⟨R, hR⟩ : ∃ R, R = L.any q := ⟨_, rfl⟩
  rw [← hR] at hc ⊢
  obtain ⟨sa, sc, hv, _⟩ := id h
  obtain ⟨sn, hsn⟩ : ∃ n, n = L.length := ⟨_, rfl⟩
  rw [← hsn] at hv
  subst hv
  have HC := Lib.hid hc
  clear hc hR hsn h HQ
  go_enter Tryz.func59, Tryz.ntmps59
  go_wp2_with (go_at_call 78; refine (HC.out).mono ?_; rintro e w2 ⟨I, rfl, hI, hb2⟩; have HB2 := Lib.hid hb2; clear hb2)
  go_ret
  exact ⟨rfl, HB2.out⟩

set_option maxRecDepth 100000 in
set_option maxHeartbeats 2000000 in
theorem indexQP_any (L : List (List UInt8)) (hs : L.length ≤ 1000000) (v : Value) (b1 b2 : Nat) (q : List UInt8 → Bool) (w : World) (h : IsT w.heap.size w L v)
    (HQ : ∀ (X : ByteArray) (W : World), Below w.heap.size w W → X.data.toList ∈ L → Calls Tryz.prog 64 #[.string X, .pointer (some ⟨b1, 0, none⟩), .pointer (some ⟨b2, 0, none⟩)] W fun e w' => e = .returned (.bool (q X.data.toList)) ∧ Below W.heap.size W w') :
    Calls Tryz.prog 78 #[v, .func (.func 64) #[] #[.pointer (some ⟨b1, 0, none⟩), .pointer (some ⟨b2, 0, none⟩)]] w fun e w' => ∃ I : Int, e = .returned (.int .i64 I) ∧ decide (0 ≤ I) = L.any q ∧ Below w.heap.size w w' := by
  obtain ⟨a, c, rfl, hm, hcell⟩ := h
  unfold maxLen at hm
  have HC := Lib.hid hcell
  have HQh := Lib.hid HQ
  clear hcell HQ
  go_enter Tryz.func78, Tryz.ntmps78
  go_wp2
  go_loopw [8] (fun i wr => ∃ j : Nat, j ≤ L.length ∧ i = .int .i64 j ∧ Hid (∀ k (hk : k < L.length), k < j → q L[k] = false) ∧ Below w.heap.size w wr) (fun i wr => L.length - (intOf i).toNat)
  case atStart => exact ⟨0, by omega, rfl, Lib.hid (fun k _ h => absurd h (by omega)), Below.refl _ _⟩
  case round =>
    obtain ⟨j, hj, rfl, HNo, hbel⟩ := hrel
    have HBel := Lib.hid hbel
    have hbs := hbel.size
    by_cases hlt : j < L.length
    · have t1 : decide ((j : Int) < (L.length : Int)) = true := by simp; omega
      have t1' : decide (j < L.length) = true := by simpa using hlt
      obtain ⟨b, off, rfl, hb0, c0⟩ := HC.out j hlt
      obtain ⟨X, hX⟩ : ∃ X : ByteArray, ⟨L[j].toArray⟩ = X := ⟨_, rfl⟩
      have hXl : X.data.toList = L[j] := by rw [← hX]
      have d0 : (wr.cell? ⟨b, off + j, none⟩) = some (.string X) := by
        rw [hbel.cell (p := ⟨b, _, none⟩) hb0, c0, ← hX]; rfl
      have hab := HQh.out X wr hbel (by rw [hXl]; exact List.getElem_mem _)
      rw [hXl] at hab
      obtain ⟨g, hg⟩ : ∃ g, q L[j] = g := ⟨_, rfl⟩
      rw [hg] at hab
      have HAb := Lib.hid hab
      have HG := Lib.hid hg
      clear hX hXl c0 hab hbel hg
      cases g with
      | true =>
        have HR : Hid (L.any q = true) := Lib.hid (List.any_eq_true.2 ⟨L[j], List.getElem_mem _, HG.out⟩)
        go_wp2_with (go_at_call 64; refine (HAb.out).mono ?_; rintro e w2 ⟨rfl, hb2⟩; have HB2 := Lib.hid (HBel.out.trans (hb2.mono hbs)); clear hb2)
        go_ret
        exact ⟨_, rfl, by rw [HR.out]; simp, HB2.out⟩
      | false =>
        have HN : Hid (∀ k (hk : k < L.length), k < j + 1 → q L[k] = false) := Lib.hid (fun k h1 h3 => by
            by_cases hk : k < j
            · exact HNo.out k h1 hk
            · obtain rfl : k = j := by omega
              exact HG.out)
        go_wp2_with (go_at_call 64; refine (HAb.out).mono ?_; rintro e w2 ⟨rfl, hb2⟩; have HB2 := Lib.hid (HBel.out.trans (hb2.mono hbs)); clear hb2)
        go_roundw
        case rel => exact ⟨j + 1, by omega, by go_num, HN, HB2.out⟩
        case measure => simp [intOf]; omega
    · obtain rfl : j = L.length := by omega
      have t1 : decide ((L.length : Int) < (L.length : Int)) = false := by simp
      have t1' : decide (L.length < L.length) = false := by simp
      have HR : Hid (L.any q = false) := Lib.hid (List.any_eq_false.2 (fun x hx => by
        obtain ⟨k, hk, rfl⟩ := List.getElem_of_mem hx
        simpa using HNo.out k hk hk))
      clear hbel
      go_wp2
      go_ret
      exact ⟨_, rfl, by rw [HR.out]; rfl, HBel.out⟩
set_option maxRecDepth 100000 in
set_option maxHeartbeats 2000000 in
theorem containsQP_any (L : List (List UInt8)) (hs : L.length ≤ 1000000) (v : Value) (b1 b2 : Nat) (q : List UInt8 → Bool) (w : World) (h : IsT w.heap.size w L v)
    (HQ : ∀ (X : ByteArray) (W : World), Below w.heap.size w W → X.data.toList ∈ L → Calls Tryz.prog 64 #[.string X, .pointer (some ⟨b1, 0, none⟩), .pointer (some ⟨b2, 0, none⟩)] W fun e w' => e = .returned (.bool (q X.data.toList)) ∧ Below W.heap.size W w') :
    Calls Tryz.prog 59 #[v, .func (.func 64) #[] #[.pointer (some ⟨b1, 0, none⟩), .pointer (some ⟨b2, 0, none⟩)]] w fun e w' => e = .returned (.bool (L.any q)) ∧ Below w.heap.size w w' := by
  have hc := indexQP_any L hs v b1 b2 q w h HQ
  obtain ⟨R, hR⟩ : ∃ R, R = L.any q := ⟨_, rfl⟩
  rw [← hR] at hc ⊢
  obtain ⟨sa, sc, hv, _⟩ := id h
  obtain ⟨sn, hsn⟩ : ∃ n, n = L.length := ⟨_, rfl⟩
  rw [← hsn] at hv
  subst hv
  have HC := Lib.hid hc
  clear hc hR hsn h HQ
  go_enter Tryz.func59, Tryz.ntmps59
  go_wp2_with (go_at_call 78; refine (HC.out).mono ?_; rintro e w2 ⟨I, rfl, hI, hb2⟩; have HB2 := Lib.hid hb2; clear hb2)
  go_ret
  exact ⟨rfl, HB2.out⟩

end Go.Proofs.YtmilgbkkibahlaaGreatDoor


namespace Go.Proofs.YtmilgbkkibahlaaGreatDoor
open Go.RowKit
set_option linter.unusedVariables false
set_option linter.unusedSimpArgs false

def LaidX (w : World) : Prop := ∃ m : Int, w.cell? ⟨3, 0, none⟩ = some (.int .i64 m)
theorem LaidX.below {w w' : World} (h : LaidX w) (hb : Below w.heap.size w w') : LaidX w' := by
  obtain ⟨m, h⟩ := h
  refine ⟨m, (hb.cell (p := ⟨3, 0, none⟩) ?_).trans h⟩
  show 3 < w.heap.size
  rcases Nat.lt_or_ge 3 w.heap.size with hn | hn
  · exact hn
  · have hx : w.heap[3]? = none := Array.getElem?_eq_none hn
    simp only [World.cell?, hx] at h
    cases h
theorem cut_behind (s x : List UInt8) : (Lib.cut s x).2.1.length ≤ s.length := by
  unfold Lib.cut
  split
  · simp
  · simp
theorem trimP_le (s x : List UInt8) : (Lib.trimPrefix s x).length ≤ s.length := by unfold Lib.trimPrefix; split <;> simp
theorem trimS_le (s x : List UInt8) : (Lib.trimSuffix s x).length ≤ s.length := by unfold Lib.trimSuffix; split <;> simp
set_option maxRecDepth 100000 in
set_option maxHeartbeats 4000000 in
theorem madeOf_any (N : ByteArray) (hN : N.size ≤ 1000000) (p : List (List UInt8)) (b off c n : Nat) (w : World) (hX : LaidX w) (hn : n = p.length) (hn2 : 2 ≤ n) (hn3 : n ≤ 1000000) (hc : n ≤ c)
    (hp : ∀ x ∈ p, x.length ≤ 1000000) (hcell : ∀ j (h : j < p.length), w.cell? ⟨b, off + j, none⟩ = some (strV p[j])) (hb : b < w.heap.size) :
    Calls Tryz.prog 65 #[.string N, .slice (some ⟨b, off, none⟩) n c] w fun e w' => e = .returned (.bool (madeO N.data.toList p)) ∧ Below w.heap.size w w' := by
  obtain ⟨R, hR⟩ : ∃ R, R = madeO N.data.toList p := ⟨_, rfl⟩
  rw [← hR]
  unfold madeO at hR
  rw [← hn] at hR
  obtain ⟨T0, hT0, hTl0⟩ := strV_text (p.getD 0 [])
  obtain ⟨T1, hT1, hTl1⟩ := strV_text (p.getD (n - 1) [])
  have hc0 : w.cell? ⟨b, off, none⟩ = some (.string T0) := by
    have := hcell 0 (by omega)
    rw [Nat.add_zero] at this
    rw [this, ← hT0, List.getD_eq_getElem?_getD, List.getElem?_eq_getElem (by omega)]
    rfl
  obtain ⟨n1, hn1⟩ : ∃ m, n = m + 1 := ⟨n - 1, by omega⟩
  have hc1 : w.cell? ⟨b, off + n1, none⟩ = some (.string T1) := by
    rw [hcell n1 (by omega), ← hT1, show n - 1 = n1 from by omega, List.getD_eq_getElem?_getD, List.getElem?_eq_getElem (by omega)]
    rfl
  rw [← hTl0, ← hTl1] at hR
  have hcp := fun W => Tryz.strings_CutPrefix N T0 W
  obtain ⟨R1, hR1⟩ : ∃ B : ByteArray, B = ⟨(Lib.trimPrefix N.data.toList T0.data.toList).toArray⟩ := ⟨_, rfl⟩
  have hR1l : R1.data.toList = Lib.trimPrefix N.data.toList T0.data.toList := by rw [hR1]
  have hR1s : R1.size ≤ 1000000 := by rw [← bytes_len, hR1l]; have := trimP_le N.data.toList T0.data.toList; rw [bytes_len] at this; omega
  obtain ⟨B1, hB1⟩ : ∃ x, x = Lib.hasPrefix N.data.toList T0.data.toList := ⟨_, rfl⟩
  rw [← hR1, ← hB1] at hcp
  rw [← hB1, ← hR1l] at hR
  have hcs := fun W => Tryz.strings_CutSuffix R1 T1 W (by omega)
  obtain ⟨R2, hR2⟩ : ∃ B : ByteArray, B = ⟨(Lib.trimSuffix R1.data.toList T1.data.toList).toArray⟩ := ⟨_, rfl⟩
  have hR2l : R2.data.toList = Lib.trimSuffix R1.data.toList T1.data.toList := by rw [hR2]
  have hR2s : R2.size ≤ 1000000 := by rw [← bytes_len, hR2l]; have := trimS_le R1.data.toList T1.data.toList; rw [bytes_len] at this; omega
  obtain ⟨B2, hB2⟩ : ∃ x, x = Lib.hasSuffix R1.data.toList T1.data.toList := ⟨_, rfl⟩
  rw [← hR2, ← hB2] at hcs
  rw [← hB2, ← hR2l] at hR
  obtain ⟨M, hM⟩ : ∃ M, M = (p.drop 1).take (n - 2) := ⟨_, rfl⟩
  rw [← hM] at hR
  have hMl : M.length = n - 2 := by rw [hM, List.length_take, List.length_drop, ← hn]; omega
  obtain ⟨m, hm⟩ : ∃ m, n1 = m + 1 := ⟨n1 - 1, by omega⟩
  subst hm
  subst hn1
  have hMm : M.length = m := by omega
  have hMc : ∀ j (h : j < M.length), w.cell? ⟨b, off + 1 + j, none⟩ = some (strV M[j]) ∧ M[j].length ≤ 1000000 := fun j h => by
    have h2 : j + 1 < p.length := by omega
    have he : M[j] = p[j + 1] := by simp only [hM, List.getElem_take, List.getElem_drop]; congr 1; omega
    rw [he]
    refine ⟨?_, hp _ (List.getElem_mem _)⟩
    have := hcell (j + 1) h2
    rw [show off + 1 + j = off + (j + 1) from by omega]
    exact this
  have HCp := Lib.hid hcp
  have HCs := Lib.hid hcs
  have HR := Lib.hid hR
  have HMc := Lib.hid hMc
  have HMm := Lib.hid hMm
  have HX := Lib.hid hX
  have HR2 := Lib.hid hR2s
  have e1 : IntKind.i64.wrap ((m : Int) + 1 + 1 - 1) = (m : Int) + 1 := by rw [IntWalk.i64_in _ (by omega)]; omega
  have i0 : (0 : Int) < (m : Int) + 1 + 1 := by omega
  have i1 : (m : Int) + 1 < (m : Int) + 1 + 1 := by omega
  have i2 : (0 : Int) ≤ (m : Int) + 1 := by omega
  have i3 : ((m : Int) + 1).toNat = m + 1 := by omega
  have i4 : (1 : Int) ≤ (m : Int) + 1 := by omega
  have i5 : (m : Int) + 1 ≤ (c : Int) := by omega
  have ec : ¬ c = 1 := by omega
  clear hcp hcs hR hMc hMm hX hR1 hR1l hR1s hR2 hR2l hR2s hM hMl hT0 hT1 hTl0 hTl1 hB1 hB2 hcell hp hn
  go_enter Tryz.func65, Tryz.ntmps65
  go_upto_region 4 with (first
    | (go_at_call 80; refine (HCp.out _).mono ?_; rintro e w2 ⟨rfl, hw⟩; replace hw := hw.symm; subst hw)
    | (go_at_call 81; refine (HCs.out _).mono ?_; rintro e w3 ⟨rfl, hw⟩; replace hw := hw.symm; subst hw))
  cases B1 with
  | false =>
    go_wp2
    go_ret
    exact ⟨by rw [HR.out]; rfl, Below.refl _ _⟩
  | true =>
    cases B2 with
    | false =>
      go_wp2
      go_ret
      exact ⟨by rw [HR.out]; rfl, Below.refl _ _⟩
    | true =>
      go_wp2
      go_loopw [6, 44] (fun r i wr => ∃ (j : Nat) (S : ByteArray), j ≤ m ∧ i = .int .i64 j ∧ r = .string S ∧ S.size ≤ 1000000 ∧ Hid (R = midO S.data.toList (M.drop j)) ∧ Below w.heap.size w wr) (fun _ i _ => m - (intOf i).toNat)
      case atStart => exact ⟨0, R2, by omega, rfl, rfl, HR2.out, Lib.hid (by rw [HR.out]; rfl), Below.refl _ _⟩
      case round =>
        obtain ⟨j, S, hj, rfl, rfl, hS, HSay, hbel⟩ := hrel
        rename World => wo
        have HBel := Lib.hid hbel
        have hbs : w.heap.size ≤ wo.heap.size := hbel.size
        by_cases hlt : j < m
        · have t1 : decide ((j : Int) < (m : Int)) = true := by simp; omega
          have t1' : decide (j < m) = true := by simpa using hlt
          have hjM : j < M.length := by rw [HMm.out]; exact hlt
          obtain ⟨hce, hxl⟩ := HMc.out j hjM
          obtain ⟨X, hX, hXl⟩ := strV_text M[j]
          have d0 : wo.cell? ⟨b, off + 1 + j, none⟩ = some (.string X) := by rw [hbel.cell (p := ⟨b, _, none⟩) hb, hce, hX]
          have hXs : X.size ≤ 1000000 := by rw [← bytes_len, hXl]; exact hxl
          obtain ⟨mm, hmm⟩ := HX.out.below hbel
          have hct := Tryz.strings_Cut S X mm wo (by omega) hmm
          have hdr : M.drop j = M[j] :: M.drop (j + 1) := List.drop_eq_getElem_cons hjM
          have hsay := HSay.out
          rw [hdr] at hsay
          have hst : R = ((Lib.cut S.data.toList X.data.toList).2.2 && midO (Lib.cut S.data.toList X.data.toList).2.1 (M.drop (j + 1))) := by rw [hsay, hXl]; rfl
          have hbl : (Lib.cut S.data.toList X.data.toList).2.1.length ≤ 1000000 := by have := cut_behind S.data.toList X.data.toList; rw [bytes_len] at this; omega
          obtain ⟨A, hA⟩ : ∃ A : ByteArray, A = ⟨(Lib.cut S.data.toList X.data.toList).1.toArray⟩ := ⟨_, rfl⟩
          obtain ⟨B, hB⟩ : ∃ A : ByteArray, A = ⟨(Lib.cut S.data.toList X.data.toList).2.1.toArray⟩ := ⟨_, rfl⟩
          have hBl : B.data.toList = (Lib.cut S.data.toList X.data.toList).2.1 := by rw [hB]
          have hBs : B.size ≤ 1000000 := by rw [← bytes_len, hBl]; exact hbl
          obtain ⟨f, hf⟩ : ∃ f, f = (Lib.cut S.data.toList X.data.toList).2.2 := ⟨_, rfl⟩
          rw [← hA, ← hB, ← hf] at hct
          rw [← hf, ← hBl] at hst
          have HCt := Lib.hid hct
          have HSt := Lib.hid hst
          clear hct hst hA hB hBl hf hbl hsay hdr hX hXl hce hxl hmm hbel
          cases f with
          | false =>
            go_wp2_with (go_at_call 82; refine (HCt.out).mono ?_; rintro e w4 ⟨rfl, q, hw⟩; have HB4 := Lib.hid (show Below w.heap.size w w4 from by rw [hw]; exact HBel.out.trans (Below.mono ⟨rfl, rfl, rfl, Nat.le_refl _, fun _ _ => rfl⟩ hbs)); clear hw)
            go_ret
            exact ⟨by rw [HSt.out]; rfl, HB4.out⟩
          | true =>
            go_wp2_with (go_at_call 82; refine (HCt.out).mono ?_; rintro e w4 ⟨rfl, q, hw⟩; have HB4 := Lib.hid (show Below w.heap.size w w4 from by rw [hw]; exact HBel.out.trans (Below.mono ⟨rfl, rfl, rfl, Nat.le_refl _, fun _ _ => rfl⟩ hbs)); clear hw)
            go_roundw
            case rel => exact ⟨j + 1, B, by omega, by go_num, rfl, hBs, Lib.hid (by rw [HSt.out]; rfl), HB4.out⟩
            case measure => simp [intOf]; omega
        · obtain rfl : j = m := by omega
          have t1 : decide ((j : Int) < (j : Int)) = false := by simp
          have t1' : decide (j < j) = false := by simp
          have HTrue : Hid (R = true) := Lib.hid (by rw [HSay.out, List.drop_of_length_le (by rw [HMm.out]; exact Nat.le_refl _)]; rfl)
          clear hbel
          go_wp2
          go_ret
          exact ⟨by rw [HTrue.out]; rfl, HBel.out⟩
end Go.Proofs.YtmilgbkkibahlaaGreatDoor

