/- Several texts in one file: DnKey, MaNum, MaNorm, MaSame, EnHas, EvPure, EvSome, EvMade, MaKeyP, EvLess, EvPrt, EvFit, FiAsked, FiLeaf, FiNext. -/
import Derived.Test.YtdgnefcpeocbjaaGreatDoorDnTextW
import Derived.Test.YtdgnefcpeocbjaaGreatDoorDnLowAll
import Derived.Laws.OwnMore
import Derived.Test.YtdgnefcpeocbjaaGreatDoorMaFind
import Derived.Lib.SmallJoins
import Derived.Lib.AppendIntMem
import Derived.OwnWalk
import Derived.Test.YtdgnefcpeocbjaaGreatDoorEnFind
import Derived.Test.YtdgnefcpeocbjaaGreatDoorFiPure
import Derived.Test.YtdgnefcpeocbjaaGreatDoorDnLib
import Derived.Test.YtdgnefcpeocbjaaGreatDoorFiMay
import Derived.Deep.Cut
import Derived.Test.YtdgnefcpeocbjaaGreatDoorMaPure
import Derived.Test.YtdgnefcpeocbjaaGreatDoorFiAsk
import Derived.Test.YtdgnefcpeocbjaaGreatDoorFiMayW
import Derived.Deep.RegionLaw
import Derived.Deep.AppendLies
import Derived.RegionTactic
import Derived.Test.YtdgnefcpeocbjaaGreatDoorFiSamR
import Derived.Deep.RegionHeld3
import Derived.Test.YtdgnefcpeocbjaaGreatDoorFiText
import Derived.Laws.LoneSync
import Derived.Laws.Externs
namespace Go.Proofs.YtdgnefcpeocbjaaGreatDoor
open Go.RowKit
set_option linter.unusedVariables false

theorem cellsR_set : ∀ (l : List R) (j : Nat) (r : R), ((cellsR l).set (j * 2) (strV r.1)).set (j * 2 + 1) (strV r.2) = cellsR (l.set j r)
  | [], _, _ => rfl
  | x :: l, 0, r => rfl
  | x :: l, j + 1, r => by
    have := cellsR_set l j r
    rw [show (j + 1) * 2 = j * 2 + 2 from by omega]
    show _ :: _ :: ((cellsR l).set (j * 2) _).set (j * 2 + 1) _ = _
    rw [this]; rfl
theorem ownR_set {B : Nat} {w : World} {l : List R} {g c : Nat} (h : OwnR B w (.slice (some ⟨g, 0, none⟩) l.length c) l) (j : Nat) (r : R) :
    OwnR B ((w.setCell ⟨g, j * 2, none⟩ (strV r.1)).setCell ⟨g, j * 2 + 1, none⟩ (strV r.2)) (.slice (some ⟨g, 0, none⟩) (l.set j r).length c) (l.set j r) := by
  have h2 := (World.ownsRow.stored (World.ownsRow.stored h (j * 2) (strV r.1)).1 (j * 2 + 1) (strV r.2)).1
  rw [cellsR_set] at h2
  unfold OwnR
  rw [List.length_set]
  exact h2
theorem ownR_cells {B : Nat} {w : World} {l : List R} {g n c : Nat} (h : OwnR B w (.slice (some ⟨g, 0, none⟩) n c) l) (j : Nat) (hj : j < l.length) :
    w.cell? ⟨g, j * 2, none⟩ = some (strV l[j].1) ∧ w.cell? ⟨g, j * 2 + 1, none⟩ = some (strV l[j].2) ∧ w.frozen? ⟨g, j * 2, none⟩ = false ∧ w.frozen? ⟨g, j * 2 + 1, none⟩ = false := by
  have hne : l ≠ [] := by intro e; subst e; simp at hj
  obtain ⟨g', c', hv, _, _, hc⟩ := ownR_at h hne
  simp only [Value.slice.injEq, Option.some.injEq, Addr.mk.injEq, and_true] at hv
  obtain ⟨rfl, rfl, rfl⟩ := hv
  exact ⟨(hc j hj).1, (hc j hj).2, World.ownsRow.frozenAt h _, World.ownsRow.frozenAt h _⟩

def curL (L : List R) (j : Nat) : List R := (L.take j).map normR ++ L.drop j
theorem curL_length (L : List R) (j : Nat) : (curL L j).length = L.length := by simp [curL]; omega
theorem curL_zero (L : List R) : curL L 0 = L := by simp [curL]
theorem curL_full (L : List R) : curL L L.length = L.map normR := by simp [curL]
theorem curL_get (L : List R) (j : Nat) (h : j < L.length) (h' : j < (curL L j).length) : (curL L j)[j] = L[j] := by
  have e : (curL L j)[j]? = L[j]? := by
    unfold curL
    rw [List.getElem?_append_right (by simp; omega)]
    have e2 : j - ((L.take j).map normR).length = 0 := by simp; omega
    rw [e2, List.getElem?_drop]
    rfl
  rw [List.getElem?_eq_getElem h', List.getElem?_eq_getElem h] at e
  simpa using e
theorem curL_next (L : List R) (j : Nat) (h : j < L.length) : (curL L j).set j (normR L[j]) = curL L (j + 1) := by
  have e2 : j - ((L.take j).map normR).length = 0 := by simp; omega
  have hd := List.drop_eq_getElem_cons h
  have ht := List.take_succ_eq_append_getElem h
  unfold curL
  rw [List.set_append_right _ _ (by simp; omega), e2, hd, ht, List.set_cons_zero, List.map_append, List.append_assoc]
  rfl

def keyL (l : List R) : Option (List UInt8) := if l.all okF = true then some (textD (l.map normR)) else none
theorem keyD_eq (s : List UInt8) : keyD s = (parseD s).bind keyL := by
  unfold keyD
  cases parseD s <;> rfl
def keyV (o : Option (List UInt8)) : Value := match o with
  | some k => .tuple #[.string ⟨k.toArray⟩, .bool true]
  | none => .tuple #[.string ⟨#[]⟩, .bool false]
theorem okL_small {l : List R} (h : okL l = true) : smallL l := by
  unfold okL at h
  simp only [Bool.and_eq_true, decide_eq_true_eq, List.all_eq_true] at h
  refine ⟨by omega, fun r hr => ?_⟩
  have := h.2 r hr
  unfold okR okType at this
  simp only [Bool.and_eq_true, decide_eq_true_eq] at this
  omega

set_option maxRecDepth 100000 in
set_option maxHeartbeats 4000000 in
theorem key_any (s : ByteArray) (hs : s.size ≤ 140737488351232) (w : World) : Calls Tryz.prog 78 #[.string s] w fun e w' => e = .returned (keyV (keyD s.data.toList)) ∧ Below w.heap.size w w' := by
  have hp := parse_any s hs w
  rw [keyD_eq]
  cases hpd : parseD s.data.toList with
  | none =>
    rw [hpd] at hp
    have HP := Lib.hid hp
    clear hp hpd
    go_enter Tryz.func78, Tryz.ntmps78
    go_wp2_with (go_at_call 99; refine (HP.out).mono ?_; rintro e w2 ⟨hb2, rfl⟩; have HB2 := Lib.hid hb2; clear hb2)
    go_ret2
    exact ⟨rfl, HB2.out⟩
  | some L =>
    rw [hpd] at hp
    have hok := parse_ok hpd
    have HP := Lib.hid hp
    have HOk := Lib.hid hok
    have hsm := okL_small hok
    have HSm := Lib.hid hsm
    have hL8 : L.length ≤ 8 := by
      unfold okL at hok
      simp only [Bool.and_eq_true, decide_eq_true_eq] at hok
      exact hok.1
    show Calls Tryz.prog 78 #[.string s] w fun e w' => e = .returned (keyV (keyL L)) ∧ Below w.heap.size w w'
    clear hp hpd hok hsm
    go_enter Tryz.func78, Tryz.ntmps78
    go_wp2_with (go_at_call 99; refine (HP.out).mono ?_; rintro e w2 ⟨hb2, v, rfl, hown⟩; obtain ⟨a, c, rfl⟩ := ownR_slice hown; have HB2 := Lib.hid hb2; have HO2 := Lib.hid hown; clear hb2 hown)
    go_loopw [18] (fun i wr => ∃ j : Nat, j ≤ L.length ∧ i = .int .i64 j ∧ OwnR w.heap.size wr (.slice a L.length c) (curL L j) ∧ (L.take j).all okF = true ∧ Below w.heap.size w wr) (fun i _ => L.length - (intOf i).toNat)
    case atStart => exact ⟨0, by omega, rfl, by rw [curL_zero]; exact HO2.out, by simp, HB2.out⟩
    case round =>
      obtain ⟨j, hj, rfl, hown, hall, hbel⟩ := hrel
      have HBel := Lib.hid hbel
      have hbs := hbel.size
      by_cases hlt : j < L.length
      · have t1 : decide ((j : Int) < (L.length : Int)) = true := by simp; omega
        have t1' : decide (j < L.length) = true := by simpa using hlt
        have hne : curL L j ≠ [] := by intro e; have := curL_length L j; rw [e] at this; simp at this; omega
        obtain ⟨g, c', hv, hBg, hgs, hcell⟩ := ownR_at hown hne
        rw [curL_length] at hv
        simp only [Value.slice.injEq, true_and] at hv
        obtain ⟨rfl, rfl⟩ := hv
        have hjl : j < (curL L j).length := by rw [curL_length]; exact hlt
        obtain ⟨c0, c1⟩ := hcell j hjl
        rw [curL_get L j hlt hjl] at c0 c1
        obtain ⟨X, hX⟩ : ∃ X : ByteArray, X = ⟨L[j].1.toArray⟩ := ⟨_, rfl⟩
        obtain ⟨Y, hY⟩ : ∃ Y : ByteArray, Y = ⟨L[j].2.toArray⟩ := ⟨_, rfl⟩
        have hXl : X.data.toList = L[j].1 := by rw [hX]
        have hYl : Y.data.toList = L[j].2 := by rw [hY]
        have hXs : X.size ≤ 1000 := by rw [← bytes_len, hXl]; exact (HSm.out.2 _ (List.getElem_mem hlt)).1
        have hYs : Y.size ≤ 1000 := by rw [← bytes_len, hYl]; exact (HSm.out.2 _ (List.getElem_mem hlt)).2
        have d0 : wr.cell? ⟨g, j * 2, none⟩ = some (.string X) := by rw [c0, hX]; rfl
        have d1 : wr.cell? ⟨g, j * 2 + 1, none⟩ = some (.string Y) := by rw [c1, hY]; rfl
        have hbox := boxR_new wr X Y
        have HBox := Lib.hid hbox
        have hal : Below wr.heap.size wr (wr.alloc (.cells #[.string X, .string Y] 101)) := (Below.refl _ _).alloc (Nat.le_refl _) _
        have HAl := Lib.hid hal
        have HOwn := Lib.hid hown
        have hfo := fun w => fold_any trim_any Y w (by omega)
        have hlo := fun w => lowerAll_any X w (by omega)
        obtain ⟨F, hF⟩ : ∃ F, F = foldB Y := ⟨_, rfl⟩
        obtain ⟨Z, hZ⟩ : ∃ Z, Z = lowB X := ⟨_, rfl⟩
        have hFl : F.data.toList = fold L[j].2 := by rw [hF, ← hYl]; rfl
        have hZl : Z.data.toList = low L[j].1 := by rw [hZ, ← hXl]; rfl
        simp only [← hF] at hfo
        simp only [← hZ] at hlo
        have HFo := Lib.hid hfo
        have HLo := Lib.hid hlo
        obtain ⟨k0, k1, _, _⟩ := hbox.cells
        have htk : (L.take (j + 1)).all okF = okF L[j] := by rw [List.take_succ_eq_append_getElem hlt, List.all_append, hall]; simp
        have hokf : okF L[j] = !F.data.toList.isEmpty := by unfold okF; rw [hFl]
        have HFl := Lib.hid hFl
        have HZl := Lib.hid hZl
        clear hX hXl hY hYl c0 c1 hF hZ hFl hZl hcell hbox hal hown hbel hne hfo hlo hjl
        by_cases hFe : F.data.toList = []
        · obtain ⟨e1, e2⟩ := bytes_nil hFe
          have hno : keyL L = none := by
            unfold keyL
            rw [if_neg]
            intro hh
            have := List.all_eq_true.1 hh _ (List.getElem_mem hlt)
            rw [hokf, hFe] at this
            simp at this
          have HNo := Lib.hid hno
          clear htk hokf hFe hno
          go_wp2_with (first
            | (go_at_call 75; refine (HFo.out _).mono ?_; rintro e w3 ⟨rfl, hb3⟩; have HB3 := Lib.hid hb3; clear hb3))
          go_ret2
          rw [HNo.out]
          exact ⟨rfl, bthen (HBel.out.trans (HAl.out.mono hbs)) HB3.out⟩
        · obtain ⟨e1, e2⟩ := bytes_some hFe
          have hyes : (L.take (j + 1)).all okF = true := by
            rw [htk, hokf]
            cases h : F.data.toList with
            | nil => exact absurd h hFe
            | cons x r => rfl
          have HYes := Lib.hid hyes
          clear htk hokf hFe hyes
          go_wp2_with (first
            | (go_at_call 75; refine (HFo.out _).mono ?_; rintro e w3 ⟨rfl, hb3⟩; have HB3 := Lib.hid hb3; have HX3 := Lib.hid (HBox.out.below hb3 (by simp)); obtain ⟨m0, m1, _, _⟩ := HX3.out.cells; clear hb3)
            | (go_at_call 100; refine (HLo.out _).mono ?_; rintro e w4 ⟨rfl, hb4⟩; have HB4 := Lib.hid hb4; have HO4 := Lib.hid (ownR_below (ownR_below (ownR_below HOwn.out HAl.out) HB3.out) hb4); clear hb4; obtain ⟨n0, n1, f0, f1⟩ := ownR_cells HO4.out j (by rw [curL_length]; exact hlt)))
          go_roundw
          case rel =>
            have hset := ownR_set (by rw [curL_length]; exact HO4.out) j (normR L[j])
            rw [List.length_set, curL_length, curL_next L j hlt] at hset
            refine ⟨j + 1, by omega, by go_num, ?_, HYes.out, ?_⟩
            · rw [show Value.string Z = strV (normR L[j]).1 from by show _ = strV (low L[j].1); rw [← HZl.out]; rfl, show Value.string F = strV (normR L[j]).2 from by show _ = strV (fold L[j].2); rw [← HFl.out]; rfl]
              exact hset
            · exact ((bthen (bthen (HBel.out.trans (HAl.out.mono hbs)) HB3.out) HB4.out).setCell (p := ⟨g, _, none⟩) hBg _).setCell (p := ⟨g, _, none⟩) hBg _
          case measure => simp [intOf]; omega
      · obtain rfl : j = L.length := by omega
        have t1 : decide ((L.length : Int) < (L.length : Int)) = false := by simp
        have t1' : decide (L.length < L.length) = false := by simp
        rw [curL_full] at hown
        rw [List.take_length] at hall
        have hsm2 := okL_small (okL_norm HOk.out hall)
        have hil := ownR_isL hown (by have := hsm2.1; unfold maxLen; omega)
        rw [← List.length_map (f := normR)] at hil
        have htx := text_any (L.map normR) hsm2 _ wr hil
        rw [List.length_map] at htx
        have hyes : keyL L = some (textD (L.map normR)) := by unfold keyL; rw [if_pos hall]
        have HYes := Lib.hid hyes
        have HTx := Lib.hid htx
        clear hown hall hsm2 hil htx hyes hbel
        go_wp2_with (go_at_call 101; refine (HTx.out).mono ?_; rintro e w5 ⟨rfl, hb5⟩; have HB5 := Lib.hid hb5; clear hb5)
        go_ret2
        rw [HYes.out]
        exact ⟨rfl, bthen HBel.out HB5.out⟩
end Go.Proofs.YtdgnefcpeocbjaaGreatDoor


namespace Go.Proofs.YtdgnefcpeocbjaaGreatDoor
open Go.RowKit
set_option linter.unusedVariables false

def LaidW (w : World) : Prop := (∃ tp p, w.var? Tryz.prog "strconv.ErrSyntax" = some #[.iface tp p]) ∧ (∃ tp p, w.var? Tryz.prog "strconv.ErrRange" = some #[.iface tp p]) ∧ Lib.TabIs Tryz.prog w "internal/strconv.uint64pow10" .u64 Lib.pow10Tab
theorem LaidW.below {w w' : World} (h : LaidW w) (hb : Below w.heap.size w w') : LaidW w' := by
  obtain ⟨⟨t1, p1, h1⟩, ⟨t2, p2, h2⟩, h3⟩ := h
  exact ⟨⟨t1, p1, Joins.var_stays (g := 0) (by kernel_rfl) h1 hb (Nat.le_refl _)⟩, ⟨t2, p2, Joins.var_stays (g := 1) (by kernel_rfl) h2 hb (Nat.le_refl _)⟩, Joins.tab_stays (g := 2) (by kernel_rfl) h3 hb (Nat.le_refl _)⟩
theorem LaidW.drew {w : World} (h : LaidW w) (n : Nat) : LaidW (w.drewN n) := h.below ⟨rfl, rfl, rfl, Nat.le_refl _, fun _ _ => rfl⟩

theorem parseI_ok (s : ByteArray) (hs : s.size ≤ 281474976710656) (v : Int) (h : Lib.parseIntB 64 s.data.toList = .ok v) (w : World) :
    Calls Tryz.prog 96 #[.string s, .int .i64 10, .int .i64 64] w fun e w' => e = .returned (.tuple #[.int .i64 v, .nilIface]) ∧ Below w.heap.size w w' :=
  (Tryz.strconv_ParseInt_10_at64_ok s (by omega) v h w).mono fun e w' ⟨he, hw⟩ => ⟨he, by rcases hw with rfl | ⟨t, rfl⟩; exact Below.refl _ _; exact Lib.bytesWorld_below _ _ _⟩
theorem parseI_bad (s : ByteArray) (hs : s.size ≤ 281474976710656) (h : ∀ v, Lib.parseIntB 64 s.data.toList ≠ .ok v) (w : World) (hw : LaidW w) :
    Calls Tryz.prog 96 #[.string s, .int .i64 10, .int .i64 64] w fun e w' => ∃ v t N, (e = .returned (.tuple #[.int .i64 v, .iface t (.pointer (some ⟨N, 0, none⟩))])) ∧ Below w.heap.size w w' := by
  obtain ⟨⟨t1, p1, h1⟩, ⟨t2, p2, h2⟩, h3⟩ := hw
  cases e : Lib.parseIntB 64 s.data.toList with
  | ok v => exact absurd e (h v)
  | «syntax» => exact (Tryz.strconv_ParseInt_10_at64_syntax_var s hs e t1 p1 w h1).mono fun e w' ⟨N, he, _, _, hb⟩ => ⟨_, _, N, he, hb⟩
  | range => exact (Tryz.strconv_ParseInt_10_at64_range_var s hs e t2 p2 w h2).mono fun e w' ⟨N, he, _, _, hb⟩ => ⟨_, _, N, he, hb⟩
theorem fmt_any (v : Int) (h0 : -9223372036854775808 ≤ v) (h1 : v ≤ 9223372036854775807) (w : World) (hw : LaidW w) :
    Calls Tryz.prog 97 #[.int .i64 v, .int .i64 10] w fun e w' => e = .returned (.string ⟨(Lib.itoa v).toArray⟩) ∧ Below w.heap.size w w' :=
  (Tryz.strconv_FormatInt_10 v h0 h1 w hw.2.2).mono fun e w' ⟨he, k, os, hw⟩ => ⟨he, by subst hw; exact Lib.below_grow _ _ (Nat.le_refl _) k os⟩

def numV (o : Option Int) : Value := match o with
  | some v => .tuple #[.int .i64 v, .bool true]
  | none => .tuple #[.int .i64 0, .bool false]

set_option maxRecDepth 100000 in
set_option maxHeartbeats 1000000 in
theorem number_any (s : ByteArray) (hs : s.size ≤ 281474976710656) (w : World) (hw : LaidW w) :
    Calls Tryz.prog 76 #[.string s] w fun e w' => e = .returned (numV (numD s.data.toList)) ∧ Below w.heap.size w w' := by
  have htr := fun w => Tryz.strings_TrimPrefix s ⟨#[45]⟩ w
  obtain ⟨T, hT⟩ : ∃ T : ByteArray, T = ⟨(Lib.trimPrefix s.data.toList (⟨#[45]⟩ : ByteArray).data.toList).toArray⟩ := ⟨_, rfl⟩
  have hTl : (Lib.trimPrefix s.data.toList [45]).length = T.size := by rw [hT, ← bytes_len]
  rw [← hT] at htr
  have HTr := Lib.hid htr
  clear hT htr
  unfold numD
  rw [hTl]
  clear hTl
  have HW := Lib.hid hw
  clear hw
  by_cases h15 : T.size ≤ 15
  · rw [if_pos h15]
    have t0 : decide ((15 : Int) < (T.size : Int)) = false := by simp; omega
    by_cases hok : ∃ v, Lib.parseIntB 64 s.data.toList = .ok v
    · obtain ⟨v, hv⟩ := hok
      have hb := Lib.atoiAll_bounds (by rw [← Lib.parseIntB_64]; exact hv)
      have hp := fun w => parseI_ok s hs v hv w
      have hf := fun w => fmt_any v hb.1 hb.2 w
      obtain ⟨F, hF⟩ : ∃ F : ByteArray, F = ⟨(Lib.itoa v).toArray⟩ := ⟨_, rfl⟩
      have hFl : Lib.itoa v = F.data.toList := by rw [hF]
      rw [← hF] at hf
      rw [hv]
      simp only [okN, hFl]
      have HP := Lib.hid hp
      have HF := Lib.hid hf
      clear hv hb hp hf hF hFl
      by_cases he : F = s
      · subst he
        rw [if_pos rfl]
        go_enter Tryz.func76, Tryz.ntmps76
        go_wp2_with (first | (go_at_call 95; refine (HTr.out _).mono ?_; rintro e w1 ⟨rfl, rfl⟩) | (go_at_call 96; refine (HP.out _).mono ?_; rintro e w2 ⟨rfl, hb2⟩; have HB2 := Lib.hid hb2; clear hb2) | (go_at_call 97; refine (HF.out _ (HW.out.below HB2.out)).mono ?_; rintro e w3 ⟨rfl, hb3⟩; have HB3 := Lib.hid (bthen HB2.out hb3); clear hb3))
        go_ret2
        exact ⟨rfl, HB3.out⟩
      · have hn : ¬ F.data.toList = s.data.toList := fun e => he (bytes_ext e)
        rw [if_neg hn]
        have t1 := str_ne he
        have HN := Lib.hid hn
        clear hn he
        go_enter Tryz.func76, Tryz.ntmps76
        go_wp2_with (first | (go_at_call 95; refine (HTr.out _).mono ?_; rintro e w1 ⟨rfl, rfl⟩) | (go_at_call 96; refine (HP.out _).mono ?_; rintro e w2 ⟨rfl, hb2⟩; have HB2 := Lib.hid hb2; clear hb2) | (go_at_call 97; refine (HF.out _ (HW.out.below HB2.out)).mono ?_; rintro e w3 ⟨rfl, hb3⟩; have HB3 := Lib.hid (bthen HB2.out hb3); clear hb3))
        go_ret2
        exact ⟨rfl, HB3.out⟩
    · have hno : ∀ v, Lib.parseIntB 64 s.data.toList ≠ .ok v := fun v e => hok ⟨v, e⟩
      have hp := fun w => parseI_bad s hs hno w
      have hv : okN (Lib.parseIntB 64 s.data.toList) s.data.toList = none := by
        cases e : Lib.parseIntB 64 s.data.toList with
        | ok v => exact absurd e (hno v)
        | «syntax» => rfl
        | range => rfl
      rw [hv]
      have HP := Lib.hid hp
      clear hv hp hno hok
      go_enter Tryz.func76, Tryz.ntmps76
      go_wp2_with (first | (go_at_call 95; refine (HTr.out _).mono ?_; rintro e w1 ⟨rfl, rfl⟩) | (go_at_call 96; refine (HP.out _ HW.out).mono ?_; rintro e w2 ⟨v, t, N, rfl, hb2⟩; have HB2 := Lib.hid hb2; clear hb2))
      go_ret2
      exact ⟨rfl, HB2.out⟩
  · rw [if_neg h15]
    have t0 : decide ((15 : Int) < (T.size : Int)) = true := by simp; omega
    go_enter Tryz.func76, Tryz.ntmps76
    go_wp2_with (go_at_call 95; refine (HTr.out _).mono ?_; rintro e w1 ⟨rfl, rfl⟩)
    go_ret2
    exact ⟨rfl, Below.refl _ _⟩
end Go.Proofs.YtdgnefcpeocbjaaGreatDoor


namespace Go.Proofs.YtdgnefcpeocbjaaGreatDoor
open Go.RowKit
set_option linter.unusedVariables false

def saidP (o : Option (List UInt8)) : Value := match o with
  | some k => .tuple #[.string ⟨k.toArray⟩, .bool true]
  | none => .tuple #[.string ⟨#[]⟩, .bool false]
set_option maxRecDepth 100000 in
set_option maxHeartbeats 4000000 in
theorem norm_any (t s : ByteArray) (w : World) (hw : LaidW w) :
    Calls Tryz.prog 59 #[.string t, .string s] w fun e w' => e = .returned (saidP (normD (ruleD t.data.toList) s.data.toList)) ∧ Below w.heap.size w w' := by
  have hr := fun w => rule_any t w
  generalize ruleD t.data.toList = r at hr ⊢
  have HR := Lib.hid hr
  clear hr
  have HW := Lib.hid hw
  clear hw
  by_cases h0 : s.data.toList = []
  · obtain ⟨e1, e2⟩ := bytes_nil h0
    have hv : normD r s.data.toList = none := by unfold normD; rw [if_pos (.inl h0)]
    have HV := Lib.hid hv
    clear hv h0
    go_enter Tryz.func59, Tryz.ntmps59
    go_wp2
    go_ret2
    exact ⟨by rw [HV.out]; rfl, Below.refl _ _⟩
  obtain ⟨e1, e2⟩ := bytes_some h0
  by_cases h100 : 100 < s.size
  · have t1 : decide ((100 : Int) < (s.size : Int)) = true := by simp; omega
    have hv : normD r s.data.toList = none := by unfold normD; rw [if_pos (.inr (by rw [bytes_len]; exact h100))]
    have HV := Lib.hid hv
    clear hv h0
    go_enter Tryz.func59, Tryz.ntmps59
    go_wp2
    go_ret2
    exact ⟨by rw [HV.out]; rfl, Below.refl _ _⟩
  have t1 : decide ((100 : Int) < (s.size : Int)) = false := by simp; omega
  have hd : normD r s.data.toList = if r = 1 then (if fold s.data.toList = [] then none else some (fold s.data.toList)) else if r = 2 then (if (numD s.data.toList).isSome then some s.data.toList else none)
      else if r = 3 then (match keyD s.data.toList with | some k => if k = [] then none else some k | none => none) else if r = 4 then some s.data.toList else none := by
    unfold normD; rw [if_neg (by rw [bytes_len]; rintro (h | h); exact h0 h; exact h100 h)]; rfl
  have HD := Lib.hid hd
  clear hd h0
  by_cases h1 : r = 1
  · subst h1
    have hf := fun w => fold_any trim_any s w (by omega)
    obtain ⟨F, hF⟩ : ∃ F : ByteArray, F = foldB s := ⟨_, rfl⟩
    have hFl : fold s.data.toList = F.data.toList := by rw [hF]; simp [foldB]
    rw [← hF] at hf
    have HF := Lib.hid hf
    have hD := HD.out
    rw [if_pos rfl, hFl] at hD
    clear hf hF hFl HD
    by_cases hne : F.data.toList = []
    · obtain ⟨n1, n2⟩ := bytes_nil hne
      rw [if_pos hne] at hD
      have hFe : F = ⟨#[]⟩ := bytes_ext hne
      have HD := Lib.hid hD
      have HFe := Lib.hid hFe
      clear hD hFe hne
      go_enter Tryz.func59, Tryz.ntmps59
      go_wp2_with (first | (go_at_call 61; refine (HR.out _).mono ?_; rintro e w1 ⟨rfl, hb1⟩; have HB := Lib.hid hb1; clear hb1) | (go_at_call 75; refine (HF.out _).mono ?_; rintro e w2 ⟨rfl, hb2⟩; have HB := Lib.hid (bthen HB.out hb2); clear hb2))
      go_ret2
      exact ⟨by rw [HD.out, HFe.out]; rfl, HB.out⟩
    · obtain ⟨n1, n2⟩ := bytes_some hne
      rw [if_neg hne] at hD
      have HD := Lib.hid hD
      clear hD hne
      go_enter Tryz.func59, Tryz.ntmps59
      go_wp2_with (first | (go_at_call 61; refine (HR.out _).mono ?_; rintro e w1 ⟨rfl, hb1⟩; have HB := Lib.hid hb1; clear hb1) | (go_at_call 75; refine (HF.out _).mono ?_; rintro e w2 ⟨rfl, hb2⟩; have HB := Lib.hid (bthen HB.out hb2); clear hb2))
      go_ret2
      exact ⟨by rw [HD.out]; simp [saidP], HB.out⟩
  have u1 : ((r : Int) == 1) = false := by simp; omega
  by_cases h2 : r = 2
  · subst h2
    have hn := fun w hw => number_any s (by omega) w hw
    have HN := Lib.hid hn
    clear hn u1 h1
    have hD : normD 2 s.data.toList = (if (numD s.data.toList).isSome = true then some s.data.toList else none) := (HD.out.trans (if_neg (by decide))).trans (if_pos rfl)
    clear HD
    cases hnum : numD s.data.toList with
    | none =>
      rw [hnum] at hD HN
      have HD := Lib.hid hD
      clear hD hnum
      go_enter Tryz.func59, Tryz.ntmps59
      go_wp2_with (first | (go_at_call 61; refine (HR.out _).mono ?_; rintro e w1 ⟨rfl, hb1⟩; have HB := Lib.hid hb1; clear hb1) | (go_at_call 76; refine (HN.out _ (HW.out.below HB.out)).mono ?_; rintro e w2 ⟨he, hb2⟩; simp only [numV] at he; subst he; have HB := Lib.hid (bthen HB.out hb2); clear hb2))
      go_ret2
      exact ⟨by rw [HD.out]; rfl, HB.out⟩
    | some v =>
      rw [hnum] at hD HN
      have HD := Lib.hid hD
      clear hD hnum
      have hcl := fun w => clone_any s w (by omega)
      have HCl := Lib.hid hcl
      clear hcl
      go_enter Tryz.func59, Tryz.ntmps59
      go_wp2_with (first | (go_at_call 61; refine (HR.out _).mono ?_; rintro e w1 ⟨rfl, hb1⟩; have HB := Lib.hid hb1; clear hb1) | (go_at_call 76; refine (HN.out _ (HW.out.below HB.out)).mono ?_; rintro e w2 ⟨he, hb2⟩; simp only [numV] at he; subst he; have HB := Lib.hid (bthen HB.out hb2); clear hb2) | (go_at_call 77; refine (HCl.out _).mono ?_; rintro e w3 ⟨rfl, hb3⟩; have HB := Lib.hid (bthen HB.out hb3); clear hb3))
      go_ret2
      exact ⟨by rw [HD.out]; simp [saidP], HB.out⟩
  have u2 : ((r : Int) == 2) = false := by simp; omega
  by_cases h3 : r = 3
  · subst h3
    have hk := fun w => key_any s (by omega) w
    have HK := Lib.hid hk
    clear hk u1 u2 h1 h2
    have hD : normD 3 s.data.toList = (match keyD s.data.toList with | some k => if k = [] then none else some k | none => none) := ((HD.out.trans (if_neg (by decide))).trans (if_neg (by decide))).trans (if_pos rfl)
    clear HD
    cases hkey : keyD s.data.toList with
    | none =>
      rw [hkey] at hD HK
      have HD := Lib.hid hD
      clear hD hkey
      go_enter Tryz.func59, Tryz.ntmps59
      go_wp2_with (first | (go_at_call 61; refine (HR.out _).mono ?_; rintro e w1 ⟨rfl, hb1⟩; have HB := Lib.hid hb1; clear hb1) | (go_at_call 78; refine (HK.out _).mono ?_; rintro e w2 ⟨he, hb2⟩; simp only [keyV] at he; subst he; have HB := Lib.hid (bthen HB.out hb2); clear hb2))
      go_ret2
      exact ⟨by rw [HD.out]; rfl, HB.out⟩
    | some k =>
      rw [hkey] at hD HK
      obtain ⟨K, hKB⟩ : ∃ K : ByteArray, K = ⟨k.toArray⟩ := ⟨_, rfl⟩
      have hKl : k = K.data.toList := by rw [hKB]
      have hk2 := HK.out
      simp only [keyV, ← hKB] at hk2
      have HK2 := Lib.hid hk2
      clear hk2 HK hkey hKB
      simp only at hD
      subst hKl
      by_cases hne : K.data.toList = []
      · obtain ⟨n1, n2⟩ := bytes_nil hne
        rw [if_pos hne] at hD
        have hFe : K = ⟨#[]⟩ := bytes_ext hne
        have HD := Lib.hid hD
        have HFe := Lib.hid hFe
        clear hD hFe hne
        go_enter Tryz.func59, Tryz.ntmps59
        go_wp2_with (first | (go_at_call 61; refine (HR.out _).mono ?_; rintro e w1 ⟨rfl, hb1⟩; have HB := Lib.hid hb1; clear hb1) | (go_at_call 78; refine (HK2.out _).mono ?_; rintro e w2 ⟨rfl, hb2⟩; have HB := Lib.hid (bthen HB.out hb2); clear hb2))
        go_ret2
        exact ⟨by rw [HD.out, HFe.out]; rfl, HB.out⟩
      · obtain ⟨n1, n2⟩ := bytes_some hne
        rw [if_neg hne] at hD
        have HD := Lib.hid hD
        clear hD hne
        go_enter Tryz.func59, Tryz.ntmps59
        go_wp2_with (first | (go_at_call 61; refine (HR.out _).mono ?_; rintro e w1 ⟨rfl, hb1⟩; have HB := Lib.hid hb1; clear hb1) | (go_at_call 78; refine (HK2.out _).mono ?_; rintro e w2 ⟨rfl, hb2⟩; have HB := Lib.hid (bthen HB.out hb2); clear hb2))
        go_ret2
        exact ⟨by rw [HD.out]; simp [saidP], HB.out⟩
  have u3 : ((r : Int) == 3) = false := by simp; omega
  have hD := HD.out
  rw [if_neg h1, if_neg h2, if_neg h3] at hD
  by_cases h4 : r = 4
  · subst h4
    rw [if_pos rfl] at hD
    have HD := Lib.hid hD
    have hcl := fun w => clone_any s w (by omega)
    have HCl := Lib.hid hcl
    clear hcl hD u1 u2 u3 h1 h2 h3
    go_enter Tryz.func59, Tryz.ntmps59
    go_wp2_with (first | (go_at_call 61; refine (HR.out _).mono ?_; rintro e w1 ⟨rfl, hb1⟩; have HB := Lib.hid hb1; clear hb1) | (go_at_call 77; refine (HCl.out _).mono ?_; rintro e w3 ⟨rfl, hb3⟩; have HB := Lib.hid (bthen HB.out hb3); clear hb3))
    go_ret2
    exact ⟨by rw [HD.out]; simp [saidP], HB.out⟩
  · rw [if_neg h4] at hD
    have u4 : ((r : Int) == 4) = false := by simp; omega
    have HD := Lib.hid hD
    clear hD h1 h2 h3 h4
    go_enter Tryz.func59, Tryz.ntmps59
    go_wp2_with (go_at_call 61; refine (HR.out _).mono ?_; rintro e w1 ⟨rfl, hb1⟩; have HB := Lib.hid hb1; clear hb1)
    go_ret2
    exact ⟨by rw [HD.out]; rfl, HB.out⟩

theorem saidP_some {x : List UInt8} {X : ByteArray} (h : X = ⟨x.toArray⟩) : saidP (some x) = .tuple #[.string X, .bool true] := by rw [h]; rfl
def normsV (o : Option (List UInt8)) (q : Option (List UInt8)) : Value := match o, q with
  | some x, some y => .tuple #[.string ⟨x.toArray⟩, .string ⟨y.toArray⟩, .bool true]
  | _, _ => .tuple #[.string ⟨#[]⟩, .string ⟨#[]⟩, .bool false]

set_option maxRecDepth 100000 in
set_option maxHeartbeats 4000000 in
theorem norms_any (t a b : ByteArray) (w : World) (hw : LaidW w) :
    Calls Tryz.prog 79 #[.string t, .string a, .string b] w fun e w' => e = .returned (normsV (normD (ruleD t.data.toList) a.data.toList) (normD (ruleD t.data.toList) b.data.toList)) ∧ Below w.heap.size w w' := by
  have ha := fun w hw => norm_any t a w hw
  have hb := fun w hw => norm_any t b w hw
  generalize normD (ruleD t.data.toList) a.data.toList = p at ha ⊢
  generalize normD (ruleD t.data.toList) b.data.toList = q at hb ⊢
  have HW := Lib.hid hw
  clear hw
  cases p with
  | none =>
    have HA := Lib.hid ha
    clear ha hb
    go_enter Tryz.func79, Tryz.ntmps79
    go_wp2_with (go_at_call 59; refine (HA.out _ HW.out).mono ?_; rintro e w1 ⟨he, hb1⟩; simp only [saidP] at he; subst he; have HB := Lib.hid hb1; clear hb1)
    go_ret3
    exact ⟨rfl, HB.out⟩
  | some x =>
    obtain ⟨X, hX⟩ : ∃ X : ByteArray, X = ⟨x.toArray⟩ := ⟨_, rfl⟩
    simp only [saidP_some hX] at ha
    have HA := Lib.hid ha
    clear ha
    cases q with
    | none =>
      have HQ := Lib.hid hb
      clear hb hX
      have tok : True := trivial
      go_enter Tryz.func79, Tryz.ntmps79
      go_wp2_with (go_at_call 59; first | (have _t := tok; refine (HA.out _ HW.out).mono ?_; rintro e w1 ⟨rfl, hb1⟩; have HB := Lib.hid hb1; clear hb1 tok) | (refine (HQ.out _ (HW.out.below HB.out)).mono ?_; rintro e w2 ⟨he, hb2⟩; simp only [saidP] at he; subst he; have HB := Lib.hid (bthen HB.out hb2); clear hb2))
      go_ret3
      exact ⟨rfl, HB.out⟩
    | some y =>
      obtain ⟨Y, hY⟩ : ∃ Y : ByteArray, Y = ⟨y.toArray⟩ := ⟨_, rfl⟩
      simp only [saidP_some hY] at hb
      have hv : normsV (some x) (some y) = .tuple #[.string X, .string Y, .bool true] := by rw [hX, hY]; rfl
      rw [hv]
      have HQ := Lib.hid hb
      clear hb hX hY hv
      have tok : True := trivial
      go_enter Tryz.func79, Tryz.ntmps79
      go_wp2_with (go_at_call 59; first | (have _t := tok; refine (HA.out _ HW.out).mono ?_; rintro e w1 ⟨rfl, hb1⟩; have HB := Lib.hid hb1; clear hb1 tok) | (refine (HQ.out _ (HW.out.below HB.out)).mono ?_; rintro e w2 ⟨rfl, hb2⟩; have HB := Lib.hid (bthen HB.out hb2); clear hb2))
      go_ret3
      exact ⟨rfl, HB.out⟩
end Go.Proofs.YtdgnefcpeocbjaaGreatDoor


namespace Go.Proofs.YtdgnefcpeocbjaaGreatDoor
open Go.RowKit
set_option linter.unusedVariables false

def sameO (p q : Option (List UInt8)) : Bool := match p, q with
  | some x, some y => x == y
  | _, _ => false

set_option maxRecDepth 100000 in
set_option maxHeartbeats 4000000 in
theorem same_any (t a b : ByteArray) (w : World) (hw : LaidW w) :
    Calls Tryz.prog 84 #[.string t, .string a, .string b] w fun e w' => e = .returned (.bool (sameO (normD (ruleD t.data.toList) a.data.toList) (normD (ruleD t.data.toList) b.data.toList))) ∧ Below w.heap.size w w' := by
  have hn := norms_any t a b w hw
  generalize normD (ruleD t.data.toList) a.data.toList = p at hn ⊢
  generalize normD (ruleD t.data.toList) b.data.toList = q at hn ⊢
  have key : (∃ x y, p = some x ∧ q = some y) ∨ (normsV p q = .tuple #[.string ⟨#[]⟩, .string ⟨#[]⟩, .bool false] ∧ sameO p q = false) := by
    cases p with
    | none => exact .inr ⟨rfl, rfl⟩
    | some x => cases q with
      | none => exact .inr ⟨rfl, rfl⟩
      | some y => exact .inl ⟨x, y, rfl, rfl⟩
  rcases key with ⟨x, y, rfl, rfl⟩ | ⟨hv, hs⟩
  · obtain ⟨X, hX⟩ : ∃ X : ByteArray, X = ⟨x.toArray⟩ := ⟨_, rfl⟩
    obtain ⟨Y, hY⟩ : ∃ Y : ByteArray, Y = ⟨y.toArray⟩ := ⟨_, rfl⟩
    have hv : normsV (some x) (some y) = .tuple #[.string X, .string Y, .bool true] := by rw [hX, hY]; rfl
    rw [hv] at hn
    have HN := Lib.hid hn
    by_cases he : X = Y
    · have hs : sameO (some x) (some y) = true := by
        have : x = y := by have h2 : X.data.toList = Y.data.toList := by rw [he]
                           rw [hX, hY] at h2; simpa using h2
        simp [sameO, this]
      rw [hs]
      subst he
      clear hn hv hX hY hs
      go_enter Tryz.func84, Tryz.ntmps84
      go_wp2_with (go_at_call 79; refine HN.out.mono ?_; rintro e w1 ⟨rfl, hb1⟩; have HB := Lib.hid hb1; clear hb1)
      go_ret
      exact ⟨rfl, HB.out⟩
    · have hs : sameO (some x) (some y) = false := by
        have : x ≠ y := fun e => he (by rw [hX, hY, e])
        simp [sameO, this]
      rw [hs]
      have t1 := str_ne he
      clear hn hv hX hY hs he
      go_enter Tryz.func84, Tryz.ntmps84
      go_wp2_with (go_at_call 79; refine HN.out.mono ?_; rintro e w1 ⟨rfl, hb1⟩; have HB := Lib.hid hb1; clear hb1)
      go_ret
      exact ⟨rfl, HB.out⟩
  · rw [hv] at hn
    rw [hs]
    have HN := Lib.hid hn
    clear hn hv hs
    go_enter Tryz.func84, Tryz.ntmps84
    go_wp2_with (go_at_call 79; refine HN.out.mono ?_; rintro e w1 ⟨rfl, hb1⟩; have HB := Lib.hid hb1; clear hb1)
    go_ret
    exact ⟨rfl, HB.out⟩

set_option maxRecDepth 100000 in
set_option maxHeartbeats 4000000 in
theorem less_text (t a b X Y : ByteArray) (w : World) (hw : LaidW w) (hr : ruleD t.data.toList = 1) (hp : normD 1 a.data.toList = some X.data.toList) (hq : normD 1 b.data.toList = some Y.data.toList) :
    Calls Tryz.prog 60 #[.string t, .string a, .string b] w fun e w' => e = .returned (.tuple #[.bool (Op.bytesLess X.toList Y.toList), .bool true]) ∧ Below w.heap.size w w' := by
  have hn := norms_any t a b w hw
  have hru := fun w => rule_any t w
  simp only [hr] at hn hru
  rw [hp, hq] at hn
  have hv : normsV (some X.data.toList) (some Y.data.toList) = .tuple #[.string X, .string Y, .bool true] := by simp [normsV]
  rw [hv] at hn
  have HN := Lib.hid hn
  have HR := Lib.hid hru
  clear hn hv hp hq hr hru
  go_enter Tryz.func60, Tryz.ntmps60
  go_wp2_with (first | (go_at_call 79; refine HN.out.mono ?_; rintro e w1 ⟨rfl, hb1⟩; have HB := Lib.hid hb1; clear hb1) | (go_at_call 61; refine (HR.out _).mono ?_; rintro e w2 ⟨rfl, hb2⟩; have HB := Lib.hid (bthen HB.out hb2); clear hb2))
  go_ret2
  exact ⟨rfl, HB.out⟩

set_option maxRecDepth 100000 in
set_option maxHeartbeats 4000000 in
theorem less_int (t a b : ByteArray) (m n : Int) (w : World) (ha : a.size ≤ 281474976710656) (hb : b.size ≤ 281474976710656) (hw : LaidW w) (hr : ruleD t.data.toList = 2) (hp : normD 2 a.data.toList = some a.data.toList) (hq : normD 2 b.data.toList = some b.data.toList)
    (hm : numD a.data.toList = some m) (hn' : numD b.data.toList = some n) :
    Calls Tryz.prog 60 #[.string t, .string a, .string b] w fun e w' => e = .returned (.tuple #[.bool (decide (m < n)), .bool true]) ∧ Below w.heap.size w w' := by
  have hn := norms_any t a b w hw
  have hru := fun w => rule_any t w
  have h1 := fun w hw => number_any a ha w hw
  have h2 := fun w hw => number_any b hb w hw
  simp only [hr] at hn hru
  rw [hp, hq] at hn
  rw [hm] at h1
  rw [hn'] at h2
  have hv : normsV (some a.data.toList) (some b.data.toList) = .tuple #[.string a, .string b, .bool true] := by simp [normsV]
  rw [hv] at hn
  simp only [numV] at h1 h2
  have HN := Lib.hid hn
  have HR := Lib.hid hru
  have H1 := Lib.hid h1
  have H2 := Lib.hid h2
  have HW := Lib.hid hw
  have tok : True := trivial
  clear hn hv hp hq hr hru h1 h2 hm hn' hw
  go_enter Tryz.func60, Tryz.ntmps60
  go_wp2_with (first | (go_at_call 79; refine HN.out.mono ?_; rintro e w1 ⟨rfl, hb1⟩; have HB := Lib.hid hb1; clear hb1) | (go_at_call 61; refine (HR.out _).mono ?_; rintro e w2 ⟨rfl, hb2⟩; have HB := Lib.hid (bthen HB.out hb2); clear hb2) | (go_at_call 76; first | (have _t := tok; refine (H1.out _ (HW.out.below HB.out)).mono ?_; rintro e w3 ⟨rfl, hb3⟩; have HB := Lib.hid (bthen HB.out hb3); clear hb3 tok) | (refine (H2.out _ (HW.out.below HB.out)).mono ?_; rintro e w3 ⟨rfl, hb3⟩; have HB := Lib.hid (bthen HB.out hb3); clear hb3)))
  go_ret2
  exact ⟨rfl, HB.out⟩

set_option maxRecDepth 100000 in
set_option maxHeartbeats 4000000 in
theorem less_no (t a b : ByteArray) (w : World) (hw : LaidW w) (h : normD (ruleD t.data.toList) a.data.toList = none ∨ normD (ruleD t.data.toList) b.data.toList = none ∨ (ruleD t.data.toList ≠ 1 ∧ ruleD t.data.toList ≠ 2)) :
    Calls Tryz.prog 60 #[.string t, .string a, .string b] w fun e w' => e = .returned (.tuple #[.bool false, .bool false]) ∧ Below w.heap.size w w' := by
  have hn := norms_any t a b w hw
  have hru := fun w => rule_any t w
  generalize ruleD t.data.toList = r at hn hru h
  generalize normD r a.data.toList = p at hn h
  generalize normD r b.data.toList = q at hn h
  have key : normsV p q = .tuple #[.string ⟨#[]⟩, .string ⟨#[]⟩, .bool false] ∨ ∃ X Y, normsV p q = .tuple #[.string X, .string Y, .bool true] ∧ r ≠ 1 ∧ r ≠ 2 := by
    cases p with
    | none => exact .inl rfl
    | some x => cases q with
      | none => exact .inl rfl
      | some y =>
        rcases h with h | h | h
        · cases h
        · cases h
        · exact .inr ⟨_, _, rfl, h⟩
  rcases key with hv | ⟨X, Y, hv, h1, h2⟩
  · rw [hv] at hn
    have HN := Lib.hid hn
    clear hn hv hru h
    go_enter Tryz.func60, Tryz.ntmps60
    go_wp2_with (go_at_call 79; refine HN.out.mono ?_; rintro e w1 ⟨rfl, hb1⟩; have HB := Lib.hid hb1; clear hb1)
    go_ret2
    exact ⟨rfl, HB.out⟩
  · rw [hv] at hn
    have HN := Lib.hid hn
    have HR := Lib.hid hru
    have u1 : ((r : Int) == 1) = false := by simp; omega
    have u2 : ((r : Int) == 2) = false := by simp; omega
    clear hn hv hru h h1 h2
    go_enter Tryz.func60, Tryz.ntmps60
    go_wp2_with (first | (go_at_call 79; refine HN.out.mono ?_; rintro e w1 ⟨rfl, hb1⟩; have HB := Lib.hid hb1; clear hb1) | (go_at_call 61; refine (HR.out _).mono ?_; rintro e w2 ⟨rfl, hb2⟩; have HB := Lib.hid (bthen HB.out hb2); clear hb2))
    go_ret2
    exact ⟨rfl, HB.out⟩
end Go.Proofs.YtdgnefcpeocbjaaGreatDoor


namespace Go.Proofs.YtdgnefcpeocbjaaGreatDoor
open Go.RowKit
set_option linter.unusedVariables false

def likeB (t val x : List UInt8) : Bool := sameO (normD (ruleD t) x) (normD (ruleD t) val)
def hasA (L : List AT) (t val : List UInt8) : Bool := (findA L t).any (likeB t val)
set_option maxRecDepth 100000 in
set_option maxHeartbeats 2000000 in
theorem like_any (T V X : ByteArray) (b1 o1 b2 o2 : Nat) (w : World) (hw : LaidW w) (h1 : w.cell? ⟨b1, o1, none⟩ = some (.string T)) (h2 : w.cell? ⟨b2, o2, none⟩ = some (.string V)) :
    Calls Tryz.prog 83 #[.string X, .pointer (some ⟨b1, o1, none⟩), .pointer (some ⟨b2, o2, none⟩)] w fun e w' => e = .returned (.bool (likeB T.data.toList V.data.toList X.data.toList)) ∧ Below w.heap.size w w' := by
  have hs := same_any T X V w hw
  unfold likeB
  generalize sameO (normD (ruleD T.data.toList) X.data.toList) (normD (ruleD T.data.toList) V.data.toList) = r at hs ⊢
  have HS := Lib.hid hs
  clear hs
  go_enter Tryz.func83, Tryz.ntmps83
  go_wp2_with (go_at_call 84; refine (HS.out).mono ?_; rintro e w1 ⟨rfl, hb1⟩; have HB := Lib.hid hb1; clear hb1)
  go_ret
  exact ⟨rfl, HB.out⟩

set_option maxRecDepth 100000 in
set_option maxHeartbeats 2000000 in
theorem indexF_any (L : List (List UInt8)) (hs : L.length ≤ 1000000) (v : Value) (T V : ByteArray) (b1 o1 b2 o2 : Nat) (w : World) (hw : LaidW w) (h : IsT w.heap.size w L v) (h1 : w.cell? ⟨b1, o1, none⟩ = some (.string T)) (h2 : w.cell? ⟨b2, o2, none⟩ = some (.string V)) (g1 : b1 < w.heap.size) (g2 : b2 < w.heap.size) :
    Calls Tryz.prog 104 #[v, .func (.func 83) #[] #[.pointer (some ⟨b1, o1, none⟩), .pointer (some ⟨b2, o2, none⟩)]] w fun e w' => ∃ I : Int, e = .returned (.int .i64 I) ∧ decide (0 ≤ I) = L.any (likeB T.data.toList V.data.toList) ∧ Below w.heap.size w w' := by
  obtain ⟨a, c, rfl, hm, hcell⟩ := h
  unfold maxLen at hm
  have HC := Lib.hid hcell
  have H1 := Lib.hid h1
  have H2 := Lib.hid h2
  have HW := Lib.hid hw
  clear hcell h1 h2 hw
  go_enter Tryz.func104, Tryz.ntmps104
  go_wp2
  go_loopw [8] (fun i wr => ∃ j : Nat, j ≤ L.length ∧ i = .int .i64 j ∧ Hid (∀ k (hk : k < L.length), k < j → likeB T.data.toList V.data.toList L[k] = false) ∧ Below w.heap.size w wr) (fun i wr => L.length - (intOf i).toNat)
  case atStart => exact ⟨0, by omega, rfl, Lib.hid (fun k _ h => absurd h (by omega)), Below.refl _ _⟩
  case round =>
    obtain ⟨j, hj, rfl, HNo, hbel⟩ := hrel
    have HBel := Lib.hid hbel
    have hbs := hbel.size
    by_cases hlt : j < L.length
    · have t1 : decide ((j : Int) < (L.length : Int)) = true := by simp; omega
      have t1' : decide (j < L.length) = true := by simpa using hlt
      obtain ⟨b, off, rfl, hb0, c0⟩ := HC.out j hlt
      obtain ⟨X, hX⟩ : ∃ X : ByteArray, ⟨L[j].toArray⟩ = X := ⟨_, rfl⟩
      have hXl : X.data.toList = L[j] := by rw [← hX]
      have d0 : (wr.cell? ⟨b, off + j, none⟩) = some (.string X) := by
        rw [hbel.cell (p := ⟨b, _, none⟩) hb0, c0, ← hX]; rfl
      have hab := like_any T V X b1 o1 b2 o2 wr (HW.out.below hbel) ((hbel.cell (p := ⟨b1, o1, none⟩) g1).trans H1.out) ((hbel.cell (p := ⟨b2, o2, none⟩) g2).trans H2.out)
      rw [hXl] at hab
      obtain ⟨g, hg⟩ : ∃ g, likeB T.data.toList V.data.toList L[j] = g := ⟨_, rfl⟩
      rw [hg] at hab
      have HAb := Lib.hid hab
      have HG := Lib.hid hg
      clear hX hXl c0 hab hbel hg
      cases g with
      | true =>
        have HR : Hid (L.any (likeB T.data.toList V.data.toList) = true) := Lib.hid (List.any_eq_true.2 ⟨L[j], List.getElem_mem _, HG.out⟩)
        go_wp2_with (go_at_call 83; refine (HAb.out).mono ?_; rintro e w2 ⟨rfl, hb2⟩; have HB2 := Lib.hid (HBel.out.trans (hb2.mono hbs)); clear hb2)
        go_ret
        exact ⟨_, rfl, by rw [HR.out]; simp, HB2.out⟩
      | false =>
        have HN : Hid (∀ k (hk : k < L.length), k < j + 1 → likeB T.data.toList V.data.toList L[k] = false) := Lib.hid (fun k h1 h3 => by
            by_cases hk : k < j
            · exact HNo.out k h1 hk
            · obtain rfl : k = j := by omega
              exact HG.out)
        go_wp2_with (go_at_call 83; refine (HAb.out).mono ?_; rintro e w2 ⟨rfl, hb2⟩; have HB2 := Lib.hid (HBel.out.trans (hb2.mono hbs)); clear hb2)
        go_roundw
        case rel => exact ⟨j + 1, by omega, by go_num, HN, HB2.out⟩
        case measure => simp [intOf]; omega
    · obtain rfl : j = L.length := by omega
      have t1 : decide ((L.length : Int) < (L.length : Int)) = false := by simp
      have t1' : decide (L.length < L.length) = false := by simp
      have HR : Hid (L.any (likeB T.data.toList V.data.toList) = false) := Lib.hid (List.any_eq_false.2 (fun x hx => by
        obtain ⟨k, hk, rfl⟩ := List.getElem_of_mem hx
        simpa using HNo.out k hk hk))
      clear hbel
      go_wp2
      go_ret
      exact ⟨_, rfl, by rw [HR.out]; rfl, HBel.out⟩

theorem boxH2 (w : World) (o : Obj) (T V : ByteArray) : (((w.alloc o).alloc (.cells #[.string T] 9)).alloc (.cells #[.string V] 9)).cell? ⟨w.heap.size + 2, 0, none⟩ = some (.string V) := by
  have h : (((w.alloc o).alloc (.cells #[.string T] 9)).alloc (.cells #[.string V] 9)).heap[w.heap.size + 2]? = some (.cells #[.string V] 9 (0, 0)) := by
    have := heap_alloc_new ((w.alloc o).alloc (.cells #[.string T] 9)) (.cells #[.string V] 9)
    simpa only [World.size_alloc] using this
  simp only [World.cell?, h]; rfl
theorem boxH1 (w : World) (o : Obj) (T V : ByteArray) : (((w.alloc o).alloc (.cells #[.string T] 9)).alloc (.cells #[.string V] 9)).cell? ⟨w.heap.size + 1, 0, none⟩ = some (.string T) := by
  have h0 : ((w.alloc o).alloc (.cells #[.string T] 9)).heap[w.heap.size + 1]? = some (.cells #[.string T] 9 (0, 0)) := by
    have := heap_alloc_new (w.alloc o) (.cells #[.string T] 9)
    simpa only [World.size_alloc] using this
  have h : (((w.alloc o).alloc (.cells #[.string T] 9)).alloc (.cells #[.string V] 9)).heap[w.heap.size + 1]? = some (.cells #[.string T] 9 (0, 0)) := by
    rw [heap_alloc_old _ _ (by simp)]; exact h0
  simp only [World.cell?, h]; rfl

set_option maxRecDepth 100000 in
set_option maxHeartbeats 2000000 in
theorem containsF_any (L : List (List UInt8)) (hs : L.length ≤ 1000000) (v : Value) (T V : ByteArray) (b1 o1 b2 o2 : Nat) (w : World) (hw : LaidW w) (h : IsT w.heap.size w L v) (h1 : w.cell? ⟨b1, o1, none⟩ = some (.string T)) (h2 : w.cell? ⟨b2, o2, none⟩ = some (.string V)) (g1 : b1 < w.heap.size) (g2 : b2 < w.heap.size) :
    Calls Tryz.prog 81 #[v, .func (.func 83) #[] #[.pointer (some ⟨b1, o1, none⟩), .pointer (some ⟨b2, o2, none⟩)]] w fun e w' => e = .returned (.bool (L.any (likeB T.data.toList V.data.toList))) ∧ Below w.heap.size w w' := by
  have hc := indexF_any L hs v T V b1 o1 b2 o2 w hw h h1 h2 g1 g2
  obtain ⟨R, hR⟩ : ∃ R, R = L.any (likeB T.data.toList V.data.toList) := ⟨_, rfl⟩
  rw [← hR] at hc ⊢
  obtain ⟨sa, sc, hv, _⟩ := id h
  obtain ⟨sn, hsn⟩ : ∃ n, n = L.length := ⟨_, rfl⟩
  rw [← hsn] at hv
  subst hv
  have HC := Lib.hid hc
  clear hc hR hsn h h1 h2 hw
  go_enter Tryz.func81, Tryz.ntmps81
  go_wp2_with (go_at_call 104; refine (HC.out).mono ?_; rintro e w2 ⟨I, rfl, hI, hb2⟩; have HB2 := Lib.hid hb2; clear hb2)
  go_ret
  exact ⟨rfl, HB2.out⟩

set_option maxRecDepth 100000 in
set_option maxHeartbeats 2000000 in
theorem has_any (d T V : ByteArray) (L : List AT) (hs : smallA L) (v : Value) (w : World) (hw : LaidW w) (h : IsA w.heap.size w L v) :
    Calls Tryz.prog 63 #[.agg #[.string d, v], .string T, .string V] w fun e w' => e = .returned (.bool (hasA L T.data.toList V.data.toList)) ∧ Below w.heap.size w w' := by
  have hmf : ∀ (fn : Fn) (first cap : Array Value) (w : World), (Instr.makeFunc fn first cap).run Tryz.prog w = .ok (.func fn first cap) w := fun _ _ _ _ => rfl
  have hf : (findA L T.data.toList).length ≤ 1000000 := by
    unfold findA
    split
    · rename_i a ha
      have := ((hs.2 a (List.mem_of_find?_eq_some ha)).2).1
      omega
    · simp
  have hR : hasA L T.data.toList V.data.toList = (findA L T.data.toList).any (likeB T.data.toList V.data.toList) := rfl
  obtain ⟨R, hRR⟩ : ∃ R, R = hasA L T.data.toList V.data.toList := ⟨_, rfl⟩
  rw [← hRR] at hR ⊢
  have HR := Lib.hid hR
  have HF := Lib.hid hf
  have HS := Lib.hid hs
  have HI := Lib.hid h
  have HW := Lib.hid hw
  obtain ⟨sa, sc, hv, _⟩ := id h
  obtain ⟨sn, hsn⟩ : ∃ n, n = L.length := ⟨_, rfl⟩
  rw [← hsn] at hv
  subst hv
  have hb0 : Below w.heap.size w (((w.alloc (.cells #[.string d, .slice sa sn sc] 28)).alloc (.cells #[.string T] 9)).alloc (.cells #[.string V] 9)) := (((Below.refl _ _).alloc (Nat.le_refl _) _).alloc (by simp) _).alloc (by simp; omega) _
  have HB0 := Lib.hid hb0
  clear hf hs h hsn hw hR hRR hb0
  go_enter Tryz.func63, Tryz.ntmps63
  go_wp2_with (first
    | (go_at_call 82; refine (find_any L HS.out (.slice sa sn sc) T _ (HI.out.below HB0.out HB0.out.size)).mono ?_; rintro e w2 ⟨u, rfl, hu, hb2⟩; have f1 : w2.cell? ⟨w.heap.size + 1, 0, none⟩ = some (.string T) := (hb2.cell (p := ⟨w.heap.size + 1, 0, none⟩) (by simp)).trans (boxH1 w _ T V); have f2 : w2.cell? ⟨w.heap.size + 2, 0, none⟩ = some (.string V) := (hb2.cell (p := ⟨w.heap.size + 2, 0, none⟩) (by simp)).trans (boxH2 w _ T V); have HU := Lib.hid (hu.below hb2 hb2.size); have HB := Lib.hid (HB0.out.trans (hb2.mono HB0.out.size)); have hz2 := hb2.size; (simp only [World.size_alloc] at hz2); clear hu hb2)
    | (go_at_call 81; refine (containsF_any _ HF.out _ T V (w.heap.size + 1) 0 (w.heap.size + 2) 0 _ (HW.out.below HB.out) HU.out f1 f2 (by omega) (by omega)).mono ?_; rintro e w3 ⟨he, hb3⟩; rw [← HR.out] at he; subst he; have HB := Lib.hid (bthen HB.out hb3); clear hb3))
  go_ret
  exact ⟨rfl, HB.out⟩
end Go.Proofs.YtdgnefcpeocbjaaGreatDoor


namespace Go.Proofs.YtdgnefcpeocbjaaGreatDoor
set_option linter.unusedVariables false
set_option linter.unusedSimpArgs false

def lessD (r : Nat) (a b : List UInt8) : Option Bool := match normD r a, normD r b with
  | some x, some y => if r = 1 then some (Op.bytesLess x y) else if r = 2 then (match numD a, numD b with
    | some m, some n => some (decide (m < n))
    | _, _ => none) else none
  | _, _ => none
def midO : List UInt8 → List (List UInt8) → Bool
  | _, [] => true
  | s, x :: l => (Lib.cut s x).2.2 && midO (Lib.cut s x).2.1 l
def madeO (n : List UInt8) (p : List (List UInt8)) : Bool :=
  Lib.hasPrefix n (p.getD 0 []) && Lib.hasSuffix (Lib.trimPrefix n (p.getD 0 [])) (p.getD (p.length - 1) []) && midO (Lib.trimSuffix (Lib.trimPrefix n (p.getD 0 [])) (p.getD (p.length - 1) [])) ((p.drop 1).take (p.length - 2))
def partsE (r : Nat) (p : List (List UInt8)) (v : List UInt8) : Bool := match normD r v with
  | some n => madeO n (p.map low)
  | none => false
def aboveE (r : Nat) (a b : List UInt8) : Bool := lessD r a b == some false
def askE (k : Int) (t x : List UInt8) : Bool :=
  if k = 4 then (normD (ruleD t) x).isSome else if k = 6 ∨ k = 7 then (lessD (ruleD t) x x).isSome else if k = 5 then decide (ruleD t = 1) else (canonD t).isSome
def fitE (L : List AT) (k : Int) (t x : List UInt8) (p : List (List UInt8)) : Bool :=
  if k = 4 then hasA L t x else if k = 6 then (findA L t).any (fun v => aboveE (ruleD t) v x) else if k = 7 then (findA L t).any (fun v => aboveE (ruleD t) x v) else if k = 5 then (findA L t).any (partsE (ruleD t) p) else decide (0 < (findA L t).length)
def leafE (L : List AT) (k : Int) (t x : List UInt8) (p : List (List UInt8)) : Nat := if askE k t x then (if fitE L k t x p then 1 else 0) else 2
def flipE : Nat → Nat
  | 0 => 1
  | 1 => 0
  | _ => 2
def firstE (a b o : Nat) (l : List Nat) : Nat := if a ∈ l then a else if b ∈ l then b else o
mutual
def evF (L : List AT) : FT → Nat
  | .mk k t x p l => if k = 1 then firstE 0 2 1 (evFs L l) else if k = 2 then firstE 1 2 0 (evFs L l) else if k = 3 then flipE ((evFs L l).headD 2) else leafE L k t x p
def evFs (L : List AT) : List FT → List Nat
  | [] => []
  | f :: l => evF L f :: evFs L l
end
def evalD (L : List AT) (f : FT) : Nat := if mayF 13 f then evF L f else 2
theorem firstE_lt {a b o : Nat} {l : List Nat} (ha : a ≤ 2) (hb : b ≤ 2) (ho : o ≤ 2) : firstE a b o l ≤ 2 := by unfold firstE; (repeat' split) <;> omega
theorem flipE_lt (n : Nat) : flipE n ≤ 2 := by unfold flipE; split <;> omega
theorem leafE_lt (L : List AT) (k : Int) (t x : List UInt8) (p : List (List UInt8)) : leafE L k t x p ≤ 2 := by unfold leafE; (repeat' split) <;> omega
theorem evF_lt (L : List AT) (f : FT) : evF L f ≤ 2 := by
  cases f with
  | mk k t x p l =>
    rw [evF]
    split
    · exact firstE_lt (by omega) (by omega) (by omega)
    · split
      · exact firstE_lt (by omega) (by omega) (by omega)
      · split
        · exact flipE_lt _
        · exact leafE_lt _ _ _ _ _
theorem evFs_map (L : List AT) : ∀ l : List FT, evFs L l = l.map (evF L)
  | [] => rfl
  | f :: l => by rw [evFs, evFs_map L l]; rfl
end Go.Proofs.YtdgnefcpeocbjaaGreatDoor


namespace Go.Proofs.YtdgnefcpeocbjaaGreatDoor
open Go.RowKit
set_option linter.unusedVariables false
set_option linter.unusedSimpArgs false

set_option maxRecDepth 100000 in
set_option maxHeartbeats 2000000 in
theorem indexQG_any (L : List (List UInt8)) (hs : L.length ≤ 1000000) (v : Value) (b1 : Nat) (q : List UInt8 → Bool) (w : World) (h : IsT w.heap.size w L v)
    (HQ : ∀ (X : ByteArray) (W : World), Below w.heap.size w W → X.data.toList ∈ L → Calls Tryz.prog 65 #[.string X, .pointer (some ⟨b1, 0, none⟩)] W fun e w' => e = .returned (.bool (q X.data.toList)) ∧ Below W.heap.size W w') :
    Calls Tryz.prog 104 #[v, .func (.func 65) #[] #[.pointer (some ⟨b1, 0, none⟩)]] w fun e w' => ∃ I : Int, e = .returned (.int .i64 I) ∧ decide (0 ≤ I) = L.any q ∧ Below w.heap.size w w' := by
  obtain ⟨a, c, rfl, hm, hcell⟩ := h
  unfold maxLen at hm
  have HC := Lib.hid hcell
  have HQh := Lib.hid HQ
  clear hcell HQ
  go_enter Tryz.func104, Tryz.ntmps104
  go_wp2
  go_loopw [8] (fun i wr => ∃ j : Nat, j ≤ L.length ∧ i = .int .i64 j ∧ Hid (∀ k (hk : k < L.length), k < j → q L[k] = false) ∧ Below w.heap.size w wr) (fun i wr => L.length - (intOf i).toNat)
  case atStart => exact ⟨0, by omega, rfl, Lib.hid (fun k _ h => absurd h (by omega)), Below.refl _ _⟩
  case round =>
    obtain ⟨j, hj, rfl, HNo, hbel⟩ := hrel
    have HBel := Lib.hid hbel
    have hbs := hbel.size
    by_cases hlt : j < L.length
    · have t1 : decide ((j : Int) < (L.length : Int)) = true := by simp; omega
      have t1' : decide (j < L.length) = true := by simpa using hlt
      obtain ⟨b, off, rfl, hb0, c0⟩ := HC.out j hlt
      obtain ⟨X, hX⟩ : ∃ X : ByteArray, ⟨L[j].toArray⟩ = X := ⟨_, rfl⟩
      have hXl : X.data.toList = L[j] := by rw [← hX]
      have d0 : (wr.cell? ⟨b, off + j, none⟩) = some (.string X) := by
        rw [hbel.cell (p := ⟨b, _, none⟩) hb0, c0, ← hX]; rfl
      have hab := HQh.out X wr hbel (by rw [hXl]; exact List.getElem_mem _)
      rw [hXl] at hab
      obtain ⟨g, hg⟩ : ∃ g, q L[j] = g := ⟨_, rfl⟩
      rw [hg] at hab
      have HAb := Lib.hid hab
      have HG := Lib.hid hg
      clear hX hXl c0 hab hbel hg
      cases g with
      | true =>
        have HR : Hid (L.any q = true) := Lib.hid (List.any_eq_true.2 ⟨L[j], List.getElem_mem _, HG.out⟩)
        go_wp2_with (go_at_call 65; refine (HAb.out).mono ?_; rintro e w2 ⟨rfl, hb2⟩; have HB2 := Lib.hid (HBel.out.trans (hb2.mono hbs)); clear hb2)
        go_ret
        exact ⟨_, rfl, by rw [HR.out]; simp, HB2.out⟩
      | false =>
        have HN : Hid (∀ k (hk : k < L.length), k < j + 1 → q L[k] = false) := Lib.hid (fun k h1 h3 => by
            by_cases hk : k < j
            · exact HNo.out k h1 hk
            · obtain rfl : k = j := by omega
              exact HG.out)
        go_wp2_with (go_at_call 65; refine (HAb.out).mono ?_; rintro e w2 ⟨rfl, hb2⟩; have HB2 := Lib.hid (HBel.out.trans (hb2.mono hbs)); clear hb2)
        go_roundw
        case rel => exact ⟨j + 1, by omega, by go_num, HN, HB2.out⟩
        case measure => simp [intOf]; omega
    · obtain rfl : j = L.length := by omega
      have t1 : decide ((L.length : Int) < (L.length : Int)) = false := by simp
      have t1' : decide (L.length < L.length) = false := by simp
      have HR : Hid (L.any q = false) := Lib.hid (List.any_eq_false.2 (fun x hx => by
        obtain ⟨k, hk, rfl⟩ := List.getElem_of_mem hx
        simpa using HNo.out k hk hk))
      clear hbel
      go_wp2
      go_ret
      exact ⟨_, rfl, by rw [HR.out]; rfl, HBel.out⟩
set_option maxRecDepth 100000 in
set_option maxHeartbeats 2000000 in
theorem containsQG_any (L : List (List UInt8)) (hs : L.length ≤ 1000000) (v : Value) (b1 : Nat) (q : List UInt8 → Bool) (w : World) (h : IsT w.heap.size w L v)
    (HQ : ∀ (X : ByteArray) (W : World), Below w.heap.size w W → X.data.toList ∈ L → Calls Tryz.prog 65 #[.string X, .pointer (some ⟨b1, 0, none⟩)] W fun e w' => e = .returned (.bool (q X.data.toList)) ∧ Below W.heap.size W w') :
    Calls Tryz.prog 81 #[v, .func (.func 65) #[] #[.pointer (some ⟨b1, 0, none⟩)]] w fun e w' => e = .returned (.bool (L.any q)) ∧ Below w.heap.size w w' := by
  have hc := indexQG_any L hs v b1 q w h HQ
  obtain ⟨R, hR⟩ : ∃ R, R = L.any q := ⟨_, rfl⟩
  rw [← hR] at hc ⊢
  obtain ⟨sa, sc, hv, _⟩ := id h
  obtain ⟨sn, hsn⟩ : ∃ n, n = L.length := ⟨_, rfl⟩
  rw [← hsn] at hv
  subst hv
  have HC := Lib.hid hc
  clear hc hR hsn h HQ
  go_enter Tryz.func81, Tryz.ntmps81
  go_wp2_with (go_at_call 104; refine (HC.out).mono ?_; rintro e w2 ⟨I, rfl, hI, hb2⟩; have HB2 := Lib.hid hb2; clear hb2)
  go_ret
  exact ⟨rfl, HB2.out⟩

set_option maxRecDepth 100000 in
set_option maxHeartbeats 2000000 in
theorem indexQL_any (L : List (List UInt8)) (hs : L.length ≤ 1000000) (v : Value) (b1 : Nat) (q : List UInt8 → Bool) (w : World) (h : IsT w.heap.size w L v)
    (HQ : ∀ (X : ByteArray) (W : World), Below w.heap.size w W → X.data.toList ∈ L → Calls Tryz.prog 67 #[.string X, .pointer (some ⟨b1, 0, none⟩)] W fun e w' => e = .returned (.bool (q X.data.toList)) ∧ Below W.heap.size W w') :
    Calls Tryz.prog 104 #[v, .func (.func 67) #[] #[.pointer (some ⟨b1, 0, none⟩)]] w fun e w' => ∃ I : Int, e = .returned (.int .i64 I) ∧ decide (0 ≤ I) = L.any q ∧ Below w.heap.size w w' := by
  obtain ⟨a, c, rfl, hm, hcell⟩ := h
  unfold maxLen at hm
  have HC := Lib.hid hcell
  have HQh := Lib.hid HQ
  clear hcell HQ
  go_enter Tryz.func104, Tryz.ntmps104
  go_wp2
  go_loopw [8] (fun i wr => ∃ j : Nat, j ≤ L.length ∧ i = .int .i64 j ∧ Hid (∀ k (hk : k < L.length), k < j → q L[k] = false) ∧ Below w.heap.size w wr) (fun i wr => L.length - (intOf i).toNat)
  case atStart => exact ⟨0, by omega, rfl, Lib.hid (fun k _ h => absurd h (by omega)), Below.refl _ _⟩
  case round =>
    obtain ⟨j, hj, rfl, HNo, hbel⟩ := hrel
    have HBel := Lib.hid hbel
    have hbs := hbel.size
    by_cases hlt : j < L.length
    · have t1 : decide ((j : Int) < (L.length : Int)) = true := by simp; omega
      have t1' : decide (j < L.length) = true := by simpa using hlt
      obtain ⟨b, off, rfl, hb0, c0⟩ := HC.out j hlt
      obtain ⟨X, hX⟩ : ∃ X : ByteArray, ⟨L[j].toArray⟩ = X := ⟨_, rfl⟩
      have hXl : X.data.toList = L[j] := by rw [← hX]
      have d0 : (wr.cell? ⟨b, off + j, none⟩) = some (.string X) := by
        rw [hbel.cell (p := ⟨b, _, none⟩) hb0, c0, ← hX]; rfl
      have hab := HQh.out X wr hbel (by rw [hXl]; exact List.getElem_mem _)
      rw [hXl] at hab
      obtain ⟨g, hg⟩ : ∃ g, q L[j] = g := ⟨_, rfl⟩
      rw [hg] at hab
      have HAb := Lib.hid hab
      have HG := Lib.hid hg
      clear hX hXl c0 hab hbel hg
      cases g with
      | true =>
        have HR : Hid (L.any q = true) := Lib.hid (List.any_eq_true.2 ⟨L[j], List.getElem_mem _, HG.out⟩)
        go_wp2_with (go_at_call 67; refine (HAb.out).mono ?_; rintro e w2 ⟨rfl, hb2⟩; have HB2 := Lib.hid (HBel.out.trans (hb2.mono hbs)); clear hb2)
        go_ret
        exact ⟨_, rfl, by rw [HR.out]; simp, HB2.out⟩
      | false =>
        have HN : Hid (∀ k (hk : k < L.length), k < j + 1 → q L[k] = false) := Lib.hid (fun k h1 h3 => by
            by_cases hk : k < j
            · exact HNo.out k h1 hk
            · obtain rfl : k = j := by omega
              exact HG.out)
        go_wp2_with (go_at_call 67; refine (HAb.out).mono ?_; rintro e w2 ⟨rfl, hb2⟩; have HB2 := Lib.hid (HBel.out.trans (hb2.mono hbs)); clear hb2)
        go_roundw
        case rel => exact ⟨j + 1, by omega, by go_num, HN, HB2.out⟩
        case measure => simp [intOf]; omega
    · obtain rfl : j = L.length := by omega
      have t1 : decide ((L.length : Int) < (L.length : Int)) = false := by simp
      have t1' : decide (L.length < L.length) = false := by simp
      have HR : Hid (L.any q = false) := Lib.hid (List.any_eq_false.2 (fun x hx => by
        obtain ⟨k, hk, rfl⟩ := List.getElem_of_mem hx
        simpa using HNo.out k hk hk))
      clear hbel
      go_wp2
      go_ret
      exact ⟨_, rfl, by rw [HR.out]; rfl, HBel.out⟩
set_option maxRecDepth 100000 in
set_option maxHeartbeats 2000000 in
theorem containsQL_any (L : List (List UInt8)) (hs : L.length ≤ 1000000) (v : Value) (b1 : Nat) (q : List UInt8 → Bool) (w : World) (h : IsT w.heap.size w L v)
    (HQ : ∀ (X : ByteArray) (W : World), Below w.heap.size w W → X.data.toList ∈ L → Calls Tryz.prog 67 #[.string X, .pointer (some ⟨b1, 0, none⟩)] W fun e w' => e = .returned (.bool (q X.data.toList)) ∧ Below W.heap.size W w') :
    Calls Tryz.prog 81 #[v, .func (.func 67) #[] #[.pointer (some ⟨b1, 0, none⟩)]] w fun e w' => e = .returned (.bool (L.any q)) ∧ Below w.heap.size w w' := by
  have hc := indexQL_any L hs v b1 q w h HQ
  obtain ⟨R, hR⟩ : ∃ R, R = L.any q := ⟨_, rfl⟩
  rw [← hR] at hc ⊢
  obtain ⟨sa, sc, hv, _⟩ := id h
  obtain ⟨sn, hsn⟩ : ∃ n, n = L.length := ⟨_, rfl⟩
  rw [← hsn] at hv
  subst hv
  have HC := Lib.hid hc
  clear hc hR hsn h HQ
  go_enter Tryz.func81, Tryz.ntmps81
  go_wp2_with (go_at_call 104; refine (HC.out).mono ?_; rintro e w2 ⟨I, rfl, hI, hb2⟩; have HB2 := Lib.hid hb2; clear hb2)
  go_ret
  exact ⟨rfl, HB2.out⟩

set_option maxRecDepth 100000 in
set_option maxHeartbeats 2000000 in
theorem indexQP_any (L : List (List UInt8)) (hs : L.length ≤ 1000000) (v : Value) (b1 b2 : Nat) (q : List UInt8 → Bool) (w : World) (h : IsT w.heap.size w L v)
    (HQ : ∀ (X : ByteArray) (W : World), Below w.heap.size w W → X.data.toList ∈ L → Calls Tryz.prog 86 #[.string X, .pointer (some ⟨b1, 0, none⟩), .pointer (some ⟨b2, 0, none⟩)] W fun e w' => e = .returned (.bool (q X.data.toList)) ∧ Below W.heap.size W w') :
    Calls Tryz.prog 104 #[v, .func (.func 86) #[] #[.pointer (some ⟨b1, 0, none⟩), .pointer (some ⟨b2, 0, none⟩)]] w fun e w' => ∃ I : Int, e = .returned (.int .i64 I) ∧ decide (0 ≤ I) = L.any q ∧ Below w.heap.size w w' := by
  obtain ⟨a, c, rfl, hm, hcell⟩ := h
  unfold maxLen at hm
  have HC := Lib.hid hcell
  have HQh := Lib.hid HQ
  clear hcell HQ
  go_enter Tryz.func104, Tryz.ntmps104
  go_wp2
  go_loopw [8] (fun i wr => ∃ j : Nat, j ≤ L.length ∧ i = .int .i64 j ∧ Hid (∀ k (hk : k < L.length), k < j → q L[k] = false) ∧ Below w.heap.size w wr) (fun i wr => L.length - (intOf i).toNat)
  case atStart => exact ⟨0, by omega, rfl, Lib.hid (fun k _ h => absurd h (by omega)), Below.refl _ _⟩
  case round =>
    obtain ⟨j, hj, rfl, HNo, hbel⟩ := hrel
    have HBel := Lib.hid hbel
    have hbs := hbel.size
    by_cases hlt : j < L.length
    · have t1 : decide ((j : Int) < (L.length : Int)) = true := by simp; omega
      have t1' : decide (j < L.length) = true := by simpa using hlt
      obtain ⟨b, off, rfl, hb0, c0⟩ := HC.out j hlt
      obtain ⟨X, hX⟩ : ∃ X : ByteArray, ⟨L[j].toArray⟩ = X := ⟨_, rfl⟩
      have hXl : X.data.toList = L[j] := by rw [← hX]
      have d0 : (wr.cell? ⟨b, off + j, none⟩) = some (.string X) := by
        rw [hbel.cell (p := ⟨b, _, none⟩) hb0, c0, ← hX]; rfl
      have hab := HQh.out X wr hbel (by rw [hXl]; exact List.getElem_mem _)
      rw [hXl] at hab
      obtain ⟨g, hg⟩ : ∃ g, q L[j] = g := ⟨_, rfl⟩
      rw [hg] at hab
      have HAb := Lib.hid hab
      have HG := Lib.hid hg
      clear hX hXl c0 hab hbel hg
      cases g with
      | true =>
        have HR : Hid (L.any q = true) := Lib.hid (List.any_eq_true.2 ⟨L[j], List.getElem_mem _, HG.out⟩)
        go_wp2_with (go_at_call 86; refine (HAb.out).mono ?_; rintro e w2 ⟨rfl, hb2⟩; have HB2 := Lib.hid (HBel.out.trans (hb2.mono hbs)); clear hb2)
        go_ret
        exact ⟨_, rfl, by rw [HR.out]; simp, HB2.out⟩
      | false =>
        have HN : Hid (∀ k (hk : k < L.length), k < j + 1 → q L[k] = false) := Lib.hid (fun k h1 h3 => by
            by_cases hk : k < j
            · exact HNo.out k h1 hk
            · obtain rfl : k = j := by omega
              exact HG.out)
        go_wp2_with (go_at_call 86; refine (HAb.out).mono ?_; rintro e w2 ⟨rfl, hb2⟩; have HB2 := Lib.hid (HBel.out.trans (hb2.mono hbs)); clear hb2)
        go_roundw
        case rel => exact ⟨j + 1, by omega, by go_num, HN, HB2.out⟩
        case measure => simp [intOf]; omega
    · obtain rfl : j = L.length := by omega
      have t1 : decide ((L.length : Int) < (L.length : Int)) = false := by simp
      have t1' : decide (L.length < L.length) = false := by simp
      have HR : Hid (L.any q = false) := Lib.hid (List.any_eq_false.2 (fun x hx => by
        obtain ⟨k, hk, rfl⟩ := List.getElem_of_mem hx
        simpa using HNo.out k hk hk))
      clear hbel
      go_wp2
      go_ret
      exact ⟨_, rfl, by rw [HR.out]; rfl, HBel.out⟩
set_option maxRecDepth 100000 in
set_option maxHeartbeats 2000000 in
theorem containsQP_any (L : List (List UInt8)) (hs : L.length ≤ 1000000) (v : Value) (b1 b2 : Nat) (q : List UInt8 → Bool) (w : World) (h : IsT w.heap.size w L v)
    (HQ : ∀ (X : ByteArray) (W : World), Below w.heap.size w W → X.data.toList ∈ L → Calls Tryz.prog 86 #[.string X, .pointer (some ⟨b1, 0, none⟩), .pointer (some ⟨b2, 0, none⟩)] W fun e w' => e = .returned (.bool (q X.data.toList)) ∧ Below W.heap.size W w') :
    Calls Tryz.prog 81 #[v, .func (.func 86) #[] #[.pointer (some ⟨b1, 0, none⟩), .pointer (some ⟨b2, 0, none⟩)]] w fun e w' => e = .returned (.bool (L.any q)) ∧ Below w.heap.size w w' := by
  have hc := indexQP_any L hs v b1 b2 q w h HQ
  obtain ⟨R, hR⟩ : ∃ R, R = L.any q := ⟨_, rfl⟩
  rw [← hR] at hc ⊢
  obtain ⟨sa, sc, hv, _⟩ := id h
  obtain ⟨sn, hsn⟩ : ∃ n, n = L.length := ⟨_, rfl⟩
  rw [← hsn] at hv
  subst hv
  have HC := Lib.hid hc
  clear hc hR hsn h HQ
  go_enter Tryz.func81, Tryz.ntmps81
  go_wp2_with (go_at_call 104; refine (HC.out).mono ?_; rintro e w2 ⟨I, rfl, hI, hb2⟩; have HB2 := Lib.hid hb2; clear hb2)
  go_ret
  exact ⟨rfl, HB2.out⟩

end Go.Proofs.YtdgnefcpeocbjaaGreatDoor


namespace Go.Proofs.YtdgnefcpeocbjaaGreatDoor
open Go.RowKit
set_option linter.unusedVariables false
set_option linter.unusedSimpArgs false

def LaidX (w : World) : Prop := ∃ m : Int, w.cell? ⟨3, 0, none⟩ = some (.int .i64 m)
theorem LaidX.below {w w' : World} (h : LaidX w) (hb : Below w.heap.size w w') : LaidX w' := by
  obtain ⟨m, h⟩ := h
  refine ⟨m, (hb.cell (p := ⟨3, 0, none⟩) ?_).trans h⟩
  show 3 < w.heap.size
  rcases Nat.lt_or_ge 3 w.heap.size with hn | hn
  · exact hn
  · have hx : w.heap[3]? = none := Array.getElem?_eq_none hn
    simp only [World.cell?, hx] at h
    cases h
theorem cut_behind (s x : List UInt8) : (Lib.cut s x).2.1.length ≤ s.length := by
  unfold Lib.cut
  split
  · simp
  · simp
theorem trimP_le (s x : List UInt8) : (Lib.trimPrefix s x).length ≤ s.length := by unfold Lib.trimPrefix; split <;> simp
theorem trimS_le (s x : List UInt8) : (Lib.trimSuffix s x).length ≤ s.length := by unfold Lib.trimSuffix; split <;> simp
set_option maxRecDepth 100000 in
set_option maxHeartbeats 4000000 in
theorem madeOf_any (N : ByteArray) (hN : N.size ≤ 1000000) (p : List (List UInt8)) (b off c n : Nat) (w : World) (hX : LaidX w) (hn : n = p.length) (hn2 : 2 ≤ n) (hn3 : n ≤ 1000000) (hc : n ≤ c)
    (hp : ∀ x ∈ p, x.length ≤ 1000000) (hcell : ∀ j (h : j < p.length), w.cell? ⟨b, off + j, none⟩ = some (strV p[j])) (hb : b < w.heap.size) :
    Calls Tryz.prog 87 #[.string N, .slice (some ⟨b, off, none⟩) n c] w fun e w' => e = .returned (.bool (madeO N.data.toList p)) ∧ Below w.heap.size w w' := by
  obtain ⟨R, hR⟩ : ∃ R, R = madeO N.data.toList p := ⟨_, rfl⟩
  rw [← hR]
  unfold madeO at hR
  rw [← hn] at hR
  obtain ⟨T0, hT0, hTl0⟩ := strV_text (p.getD 0 [])
  obtain ⟨T1, hT1, hTl1⟩ := strV_text (p.getD (n - 1) [])
  have hc0 : w.cell? ⟨b, off, none⟩ = some (.string T0) := by
    have := hcell 0 (by omega)
    rw [Nat.add_zero] at this
    rw [this, ← hT0, List.getD_eq_getElem?_getD, List.getElem?_eq_getElem (by omega)]
    rfl
  obtain ⟨n1, hn1⟩ : ∃ m, n = m + 1 := ⟨n - 1, by omega⟩
  have hc1 : w.cell? ⟨b, off + n1, none⟩ = some (.string T1) := by
    rw [hcell n1 (by omega), ← hT1, show n - 1 = n1 from by omega, List.getD_eq_getElem?_getD, List.getElem?_eq_getElem (by omega)]
    rfl
  rw [← hTl0, ← hTl1] at hR
  have hcp := fun W => Tryz.strings_CutPrefix N T0 W
  obtain ⟨R1, hR1⟩ : ∃ B : ByteArray, B = ⟨(Lib.trimPrefix N.data.toList T0.data.toList).toArray⟩ := ⟨_, rfl⟩
  have hR1l : R1.data.toList = Lib.trimPrefix N.data.toList T0.data.toList := by rw [hR1]
  have hR1s : R1.size ≤ 1000000 := by rw [← bytes_len, hR1l]; have := trimP_le N.data.toList T0.data.toList; rw [bytes_len] at this; omega
  obtain ⟨B1, hB1⟩ : ∃ x, x = Lib.hasPrefix N.data.toList T0.data.toList := ⟨_, rfl⟩
  rw [← hR1, ← hB1] at hcp
  rw [← hB1, ← hR1l] at hR
  have hcs := fun W => Tryz.strings_CutSuffix R1 T1 W (by omega)
  obtain ⟨R2, hR2⟩ : ∃ B : ByteArray, B = ⟨(Lib.trimSuffix R1.data.toList T1.data.toList).toArray⟩ := ⟨_, rfl⟩
  have hR2l : R2.data.toList = Lib.trimSuffix R1.data.toList T1.data.toList := by rw [hR2]
  have hR2s : R2.size ≤ 1000000 := by rw [← bytes_len, hR2l]; have := trimS_le R1.data.toList T1.data.toList; rw [bytes_len] at this; omega
  obtain ⟨B2, hB2⟩ : ∃ x, x = Lib.hasSuffix R1.data.toList T1.data.toList := ⟨_, rfl⟩
  rw [← hR2, ← hB2] at hcs
  rw [← hB2, ← hR2l] at hR
  obtain ⟨M, hM⟩ : ∃ M, M = (p.drop 1).take (n - 2) := ⟨_, rfl⟩
  rw [← hM] at hR
  have hMl : M.length = n - 2 := by rw [hM, List.length_take, List.length_drop, ← hn]; omega
  obtain ⟨m, hm⟩ : ∃ m, n1 = m + 1 := ⟨n1 - 1, by omega⟩
  subst hm
  subst hn1
  have hMm : M.length = m := by omega
  have hMc : ∀ j (h : j < M.length), w.cell? ⟨b, off + 1 + j, none⟩ = some (strV M[j]) ∧ M[j].length ≤ 1000000 := fun j h => by
    have h2 : j + 1 < p.length := by omega
    have he : M[j] = p[j + 1] := by simp only [hM, List.getElem_take, List.getElem_drop]; congr 1; omega
    rw [he]
    refine ⟨?_, hp _ (List.getElem_mem _)⟩
    have := hcell (j + 1) h2
    rw [show off + 1 + j = off + (j + 1) from by omega]
    exact this
  have HCp := Lib.hid hcp
  have HCs := Lib.hid hcs
  have HR := Lib.hid hR
  have HMc := Lib.hid hMc
  have HMm := Lib.hid hMm
  have HX := Lib.hid hX
  have HR2 := Lib.hid hR2s
  have e1 : IntKind.i64.wrap ((m : Int) + 1 + 1 - 1) = (m : Int) + 1 := by rw [IntWalk.i64_in _ (by omega)]; omega
  have i0 : (0 : Int) < (m : Int) + 1 + 1 := by omega
  have i1 : (m : Int) + 1 < (m : Int) + 1 + 1 := by omega
  have i2 : (0 : Int) ≤ (m : Int) + 1 := by omega
  have i3 : ((m : Int) + 1).toNat = m + 1 := by omega
  have i4 : (1 : Int) ≤ (m : Int) + 1 := by omega
  have i5 : (m : Int) + 1 ≤ (c : Int) := by omega
  have ec : ¬ c = 1 := by omega
  clear hcp hcs hR hMc hMm hX hR1 hR1l hR1s hR2 hR2l hR2s hM hMl hT0 hT1 hTl0 hTl1 hB1 hB2 hcell hp hn
  go_enter Tryz.func87, Tryz.ntmps87
  go_upto_region 4 with (first
    | (go_at_call 106; refine (HCp.out _).mono ?_; rintro e w2 ⟨rfl, hw⟩; replace hw := hw.symm; subst hw)
    | (go_at_call 107; refine (HCs.out _).mono ?_; rintro e w3 ⟨rfl, hw⟩; replace hw := hw.symm; subst hw))
  cases B1 with
  | false =>
    go_wp2
    go_ret
    exact ⟨by rw [HR.out]; rfl, Below.refl _ _⟩
  | true =>
    cases B2 with
    | false =>
      go_wp2
      go_ret
      exact ⟨by rw [HR.out]; rfl, Below.refl _ _⟩
    | true =>
      go_wp2
      go_loopw [6, 44] (fun r i wr => ∃ (j : Nat) (S : ByteArray), j ≤ m ∧ i = .int .i64 j ∧ r = .string S ∧ S.size ≤ 1000000 ∧ Hid (R = midO S.data.toList (M.drop j)) ∧ Below w.heap.size w wr) (fun _ i _ => m - (intOf i).toNat)
      case atStart => exact ⟨0, R2, by omega, rfl, rfl, HR2.out, Lib.hid (by rw [HR.out]; rfl), Below.refl _ _⟩
      case round =>
        obtain ⟨j, S, hj, rfl, rfl, hS, HSay, hbel⟩ := hrel
        rename World => wo
        have HBel := Lib.hid hbel
        have hbs : w.heap.size ≤ wo.heap.size := hbel.size
        by_cases hlt : j < m
        · have t1 : decide ((j : Int) < (m : Int)) = true := by simp; omega
          have t1' : decide (j < m) = true := by simpa using hlt
          have hjM : j < M.length := by rw [HMm.out]; exact hlt
          obtain ⟨hce, hxl⟩ := HMc.out j hjM
          obtain ⟨X, hX, hXl⟩ := strV_text M[j]
          have d0 : wo.cell? ⟨b, off + 1 + j, none⟩ = some (.string X) := by rw [hbel.cell (p := ⟨b, _, none⟩) hb, hce, hX]
          have hXs : X.size ≤ 1000000 := by rw [← bytes_len, hXl]; exact hxl
          obtain ⟨mm, hmm⟩ := HX.out.below hbel
          have hct := Tryz.strings_Cut S X mm wo (by omega) hmm
          have hdr : M.drop j = M[j] :: M.drop (j + 1) := List.drop_eq_getElem_cons hjM
          have hsay := HSay.out
          rw [hdr] at hsay
          have hst : R = ((Lib.cut S.data.toList X.data.toList).2.2 && midO (Lib.cut S.data.toList X.data.toList).2.1 (M.drop (j + 1))) := by rw [hsay, hXl]; rfl
          have hbl : (Lib.cut S.data.toList X.data.toList).2.1.length ≤ 1000000 := by have := cut_behind S.data.toList X.data.toList; rw [bytes_len] at this; omega
          obtain ⟨A, hA⟩ : ∃ A : ByteArray, A = ⟨(Lib.cut S.data.toList X.data.toList).1.toArray⟩ := ⟨_, rfl⟩
          obtain ⟨B, hB⟩ : ∃ A : ByteArray, A = ⟨(Lib.cut S.data.toList X.data.toList).2.1.toArray⟩ := ⟨_, rfl⟩
          have hBl : B.data.toList = (Lib.cut S.data.toList X.data.toList).2.1 := by rw [hB]
          have hBs : B.size ≤ 1000000 := by rw [← bytes_len, hBl]; exact hbl
          obtain ⟨f, hf⟩ : ∃ f, f = (Lib.cut S.data.toList X.data.toList).2.2 := ⟨_, rfl⟩
          rw [← hA, ← hB, ← hf] at hct
          rw [← hf, ← hBl] at hst
          have HCt := Lib.hid hct
          have HSt := Lib.hid hst
          clear hct hst hA hB hBl hf hbl hsay hdr hX hXl hce hxl hmm hbel
          cases f with
          | false =>
            go_wp2_with (go_at_call 108; refine (HCt.out).mono ?_; rintro e w4 ⟨rfl, q, hw⟩; have HB4 := Lib.hid (show Below w.heap.size w w4 from by rw [hw]; exact HBel.out.trans (Below.mono ⟨rfl, rfl, rfl, Nat.le_refl _, fun _ _ => rfl⟩ hbs)); clear hw)
            go_ret
            exact ⟨by rw [HSt.out]; rfl, HB4.out⟩
          | true =>
            go_wp2_with (go_at_call 108; refine (HCt.out).mono ?_; rintro e w4 ⟨rfl, q, hw⟩; have HB4 := Lib.hid (show Below w.heap.size w w4 from by rw [hw]; exact HBel.out.trans (Below.mono ⟨rfl, rfl, rfl, Nat.le_refl _, fun _ _ => rfl⟩ hbs)); clear hw)
            go_roundw
            case rel => exact ⟨j + 1, B, by omega, by go_num, rfl, hBs, Lib.hid (by rw [HSt.out]; rfl), HB4.out⟩
            case measure => simp [intOf]; omega
        · obtain rfl : j = m := by omega
          have t1 : decide ((j : Int) < (j : Int)) = false := by simp
          have t1' : decide (j < j) = false := by simp
          have HTrue : Hid (R = true) := Lib.hid (by rw [HSay.out, List.drop_of_length_le (by rw [HMm.out]; exact Nat.le_refl _)]; rfl)
          clear hbel
          go_wp2
          go_ret
          exact ⟨by rw [HTrue.out]; rfl, HBel.out⟩
end Go.Proofs.YtdgnefcpeocbjaaGreatDoor


namespace Go.Proofs.YtdgnefcpeocbjaaGreatDoor
set_option linter.unusedVariables false

theorem escC_zero {f l : Bool} {c : UInt8} (h : kindC c = 0) : (escC f l c).length = 3 := by unfold escC; rw [if_pos h]; rfl
theorem escC_need {f l : Bool} {c : UInt8} (h : kindC c ≠ 0) (hn : needC c f l = true) : (escC f l c).length = 2 := by unfold escC; rw [if_neg h, if_pos hn]; rfl
theorem escC_one {f l : Bool} {c : UInt8} (h : kindC c ≠ 0) (hn : ¬ needC c f l = true) : (escC f l c).length = 1 := by unfold escC; rw [if_neg h, if_neg hn]; rfl
theorem escC_le3 (f l : Bool) (c : UInt8) : (escC f l c).length ≤ 3 := by unfold escC; split <;> (try split) <;> simp
theorem escC_le2 {f l : Bool} {c : UInt8} (h : kindC c ≠ 0) : (escC f l c).length ≤ 2 := by unfold escC; rw [if_neg h]; split <;> simp
theorem escC_ge1 (f l : Bool) (c : UInt8) : 1 ≤ (escC f l c).length := by unfold escC; split <;> (try split) <;> simp

theorem valN_empty {n : Nat} {f : Bool} {s : List UInt8} (h : valN n f s = some []) : s = [] := by
  cases n with
  | zero => unfold valN at h; split at h; assumption; cases h
  | succ n =>
    unfold valN at h
    split at h
    · assumption
    · split at h
      · cases h
      · cases hv : valN n false (s.drop (oneD f s).2) with
        | none => rw [hv] at h; cases h
        | some v => rw [hv] at h; simp at h
theorem valN_of_nil {n : Nat} {f : Bool} {v : List UInt8} (h : valN n f [] = some v) : v = [] := by
  cases n with
  | zero => simp [valN] at h; exact h
  | succ n => simp [valN] at h; exact h

theorem val_len : ∀ (n : Nat) (f : Bool) (s v : List UInt8), valN n f s = some v → (escR f v).length ≤ s.length
  | 0, f, s, v, h => by
    unfold valN at h
    split at h
    · cases h; simp [escR]
    · cases h
  | n + 1, f, s, v, h => by
    unfold valN at h
    split at h
    · cases h; simp [escR]
    · rename_i hne
      split at h
      · cases h
      · rename_i hk
        cases hv : valN n false (s.drop (oneD f s).2) with
        | none => rw [hv] at h; cases h
        | some v' =>
          rw [hv] at h
          simp only [Option.map_some, Option.some.injEq] at h
          subst h
          have ih := val_len n false _ _ hv
          rw [List.length_drop] at ih
          have key : (escC f v'.isEmpty (oneD f s).1).length ≤ (oneD f s).2 ∧ (oneD f s).2 ≤ s.length := by
            cases s with
            | nil => exact absurd rfl hne
            | cons a r =>
              by_cases h92 : a.toNat = 92
              · have e1 : oneD f (a :: r) = behD r := by simp only [oneD]; rw [if_pos h92]
                rw [e1] at hk ⊢
                cases r with
                | nil => exact absurd rfl hk
                | cons x r' =>
                  by_cases h2 : 2 ≤ kindC x
                  · rw [behD_free h2]
                    exact ⟨escC_le2 (by show kindC x ≠ 0; omega), by simp⟩
                  · cases r' with
                    | nil => rw [behD_nil h2] at hk; exact absurd rfl hk
                    | cons y r'' =>
                      rw [behD_hex h2] at hk ⊢
                      split
                      · exact ⟨escC_le3 _ _ _, by simp⟩
                      · rename_i hh
                        rw [if_neg hh] at hk
                        exact absurd rfl hk
              · by_cases hb : kindC a = 0 ∨ needC a f r.isEmpty = true
                · have e1 : oneD f (a :: r) = (0, 0) := by simp only [oneD]; rw [if_neg h92, if_pos hb]
                  rw [e1] at hk
                  exact absurd rfl hk
                · have e1 : oneD f (a :: r) = (a, 1) := by simp only [oneD]; rw [if_neg h92, if_neg hb]
                  rw [e1] at hv ⊢
                  have he : v'.isEmpty = r.isEmpty := by
                    simp only [List.drop_succ_cons, List.drop_zero] at hv
                    cases r with
                    | nil => rw [valN_of_nil hv]
                    | cons x y =>
                      cases v' with
                      | nil => exact absurd (valN_empty hv) (by simp)
                      | cons p q => rfl
                  rw [he]
                  refine ⟨?_, by simp⟩
                  have := escC_one (f := f) (l := r.isEmpty) (c := a) (fun e => hb (.inl e)) (fun e => hb (.inr e))
                  show (escC f r.isEmpty a).length ≤ 1
                  omega
          simp only [escR, List.length_append]
          omega
theorem cut_len : ∀ (s : List UInt8), (cutD s).1.length + (if (cutD s).2.2 = true then 1 + (cutD s).2.1.length else 0) ≤ s.length := by
  intro s
  induction s using cutD.induct with
  | case1 => simp [cutD]
  | case2 c r h => rw [cutD_com h]; simp; omega
  | case3 c h1 h2 => 
    have e : c = 92 := UInt8.toNat_inj.1 h2
    subst e
    simp [cutD]
  | case4 c h1 h2 x r ih =>
    have e : c = 92 := UInt8.toNat_inj.1 h2
    subst e
    rw [cutD_two]
    simp only [List.length_cons]
    split at ih <;> rename_i hh <;> simp only [hh, if_true, Bool.false_eq_true, if_false] at ih ⊢ <;> omega
  | case5 c r h1 h2 ih =>
    rw [cutD_one ⟨h1, h2⟩]
    simp only [List.length_cons]
    split at ih <;> rename_i hh <;> simp only [hh, if_true, Bool.false_eq_true, if_false] at ih ⊢ <;> omega
theorem rdn_len {s : List UInt8} {r : R} (h : rdnD s = some r) : (textR r).length ≤ s.length := by
  unfold rdnD at h
  split at h
  · split at h
    · rename_i v hv
      split at h
      · rename_i h2
        cases h
        have h3 := val_len _ _ _ _ hv
        have h4 : (nameD s).length + (s.dropWhile (· ≠ 61)).length = s.length := by
          have := congrArg List.length (List.takeWhile_append_dropWhile (p := (· ≠ (61 : UInt8))) (l := s))
          rw [List.length_append] at this
          exact this
        have h5 : afterD s ≠ [] := by
          intro e
          rw [e] at hv
          exact h2.1 (valN_of_nil hv)
        have h6 : (afterD s).length + 1 = (s.dropWhile (· ≠ 61)).length := by
          unfold afterD at h5 ⊢
          rw [List.length_drop]
          cases hd : s.dropWhile (· ≠ 61) with
          | nil => rw [hd] at h5; exact absurd rfl h5
          | cons a b => simp
        unfold textR escV
        simp only [List.length_append, List.length_cons]
        omega
      · cases h
    · cases h
  · cases h
theorem par_len : ∀ (k : Nat) (s : List UInt8) (l : List R), parN k s = some l → (textD l).length ≤ s.length
  | 0, s, l, h => by cases h
  | k + 1, s, l, h => by
    unfold parN at h
    split at h
    · cases h
    · rename_i r hr
      have hl := rdn_len hr
      have hc := cut_len s
      split at h
      · rename_i hm
        rw [if_pos hm] at hc
        cases hp : parN k (cutD s).2.1 with
        | none => rw [hp] at h; cases h
        | some l' =>
          rw [hp] at h
          simp only [Option.map_some, Option.some.injEq] at h
          subst h
          have ih := par_len k _ _ hp
          have hne := (par_ok k _ _ hp).2.2
          cases l' with
          | nil => exact absurd rfl hne
          | cons x y =>
            rw [text_cons]
            simp only [List.length_append, List.length_cons]
            omega
      · cases h
        show (textR r).length ≤ _
        omega
theorem parse_len {s : List UInt8} {l : List R} (h : parseD s = some l) : (textD l).length ≤ s.length := by
  unfold parseD at h
  split at h
  · cases h; simp [textD]
  · exact par_len 8 s l h

-- a folded value's text is no longer than the value's
def baseC (c : UInt8) : Nat := if kindC c = 0 then 3 else if kindC c = 5 then 2 else 1
def sumB (l : List UInt8) : Nat := (l.map baseC).sum
theorem sumB_app (a b : List UInt8) : sumB (a ++ b) = sumB a + sumB b := by simp [sumB]
theorem sumB_one (c : UInt8) : sumB [c] = baseC c := by simp [sumB]
theorem sumB_cons (c : UInt8) (l : List UInt8) : sumB (c :: l) = baseC c + sumB l := by simp [sumB]
theorem baseC_low (c : UInt8) : baseC (lowC c) = baseC c := by
  have := all_bytes (fun c => baseC (lowC c) == baseC c) (by decide +kernel) c
  simpa using this
theorem kind_spec (c : UInt8) : (kindC c = 4 → c.toNat = 32) ∧ (kindC c = 3 → c.toNat = 35) := by
  have := all_bytes (fun c => (!(kindC c == 4) || decide (c.toNat = 32)) && (!(kindC c == 3) || decide (c.toNat = 35))) (by decide +kernel) c
  simp only [Bool.and_eq_true, Bool.or_eq_true, Bool.not_eq_true', beq_eq_false_iff_ne, decide_eq_true_eq] at this
  exact ⟨fun h => this.1.resolve_left (fun e => e h), fun h => this.2.resolve_left (fun e => e h)⟩
theorem kind_of (c : UInt8) : (c.toNat = 32 → kindC c = 4) ∧ (c.toNat = 35 → kindC c = 3) := by
  have := all_bytes (fun c => (!decide (c.toNat = 32) || kindC c == 4) && (!decide (c.toNat = 35) || kindC c == 3)) (by decide +kernel) c
  simp only [Bool.and_eq_true, Bool.or_eq_true, Bool.not_eq_true', decide_eq_false_iff_not, beq_iff_eq] at this
  exact ⟨fun h => this.1.resolve_left (fun e => e h), fun h => this.2.resolve_left (fun e => e h)⟩
theorem esc_up : ∀ (w : List UInt8) (f : Bool), (∀ y, w.getLast? = some y → y.toNat ≠ 32) → (f = true → ∀ y, w.head? = some y → y.toNat ≠ 32) →
    (escR f w).length ≤ sumB w + (if f = true ∧ (∃ y, w.head? = some y ∧ y.toNat = 35) then 1 else 0)
  | [], f, _, _ => by simp [escR, sumB]
  | c :: r, f, hl, hh => by
    have ih := esc_up r false (fun y hy => by
      cases r with
      | nil => simp at hy
      | cons a b => exact hl y (by rw [List.getLast?_cons_cons]; exact hy)) (fun h => by cases h)
    simp only [Bool.false_eq_true, false_and, if_false, Nat.add_zero] at ih
    have hc : (escC f r.isEmpty c).length ≤ baseC c + (if f = true ∧ c.toNat = 35 then 1 else 0) := by
      by_cases h0 : kindC c = 0
      · rw [escC_zero h0]; unfold baseC; rw [if_pos h0]; omega
      · by_cases hn : needC c f r.isEmpty = true
        · rw [escC_need h0 hn]
          unfold baseC
          rw [if_neg h0]
          unfold needC at hn
          simp only [Bool.or_eq_true, beq_iff_eq, Bool.and_eq_true] at hn
          rcases hn with (h5 | ⟨h3, hf⟩) | ⟨h4, hfl⟩
          · rw [if_pos h5]; omega
          · rw [if_pos (⟨hf, (kind_spec c).2 h3⟩ : f = true ∧ c.toNat = 35)]; split <;> omega
          · exfalso
            have h32 := (kind_spec c).1 h4
            rcases hfl with hf | hlast
            · exact hh hf c rfl h32
            · cases r with
              | nil => exact hl c rfl h32
              | cons a b => simp at hlast
        · rw [escC_one h0 hn]; unfold baseC; rw [if_neg h0]; split <;> omega
    simp only [escR, List.length_append, sumB_cons]
    have e : (f = true ∧ ∃ y, (c :: r).head? = some y ∧ y.toNat = 35) ↔ (f = true ∧ c.toNat = 35) := by simp
    simp only [e]
    omega
theorem esc_low : ∀ (v : List UInt8) (f : Bool), sumB v + (if f = true ∧ (∃ y, v.head? = some y ∧ (y.toNat = 35 ∨ y.toNat = 32)) then 1 else 0) ≤ (escR f v).length
  | [], f => by simp [escR, sumB]
  | c :: r, f => by
    have ih := esc_low r false
    simp only [Bool.false_eq_true, false_and, if_false, Nat.add_zero] at ih
    have hc : baseC c + (if f = true ∧ (c.toNat = 35 ∨ c.toNat = 32) then 1 else 0) ≤ (escC f r.isEmpty c).length := by
      by_cases hx : f = true ∧ (c.toNat = 35 ∨ c.toNat = 32)
      · rw [if_pos hx]
        have hk : (kindC c = 3 ∨ kindC c = 4) := by
          rcases hx.2 with h | h
          · exact .inl ((kind_of c).2 h)
          · exact .inr ((kind_of c).1 h)
        have hn : needC c f r.isEmpty = true := by
          unfold needC
          rw [hx.1]
          rcases hk with h | h <;> simp [h]
        have h0 : kindC c ≠ 0 := by omega
        rw [escC_need h0 hn]
        unfold baseC
        rw [if_neg h0, if_neg (by omega)]
        omega
      · rw [if_neg hx]
        unfold baseC
        by_cases h0 : kindC c = 0
        · rw [if_pos h0, escC_zero h0]; omega
        · rw [if_neg h0]
          by_cases h5 : kindC c = 5
          · rw [if_pos h5, escC_need h0 (by unfold needC; simp [h5])]; omega
          · rw [if_neg h5]; have := escC_ge1 f r.isEmpty c; omega
    simp only [escR, List.length_append, sumB_cons]
    have e : (f = true ∧ ∃ y, (c :: r).head? = some y ∧ (y.toNat = 35 ∨ y.toNat = 32)) ↔ (f = true ∧ (c.toNat = 35 ∨ c.toNat = 32)) := by simp
    simp only [e]
    omega
theorem frun_sum : ∀ l : List UInt8, sumB (frun l).1 + (if (frun l).2 = true then 1 else 0) ≤ sumB l := by
  refine snoc_ind (by simp [frun, sumB]) ?_
  intro l c ih
  rw [frun_snoc, sumB_app, sumB_one]
  by_cases h : c.toNat = 32
  · rw [fstep_blank _ _ h]
    have hb : baseC c = 1 := by unfold baseC; rw [(kind_of c).1 h]; rfl
    rw [hb]
    dsimp only
    split <;> split at ih <;> omega
  · rw [fstep_other _ _ h]
    simp only [sumB_app, sumB_one, baseC_low]
    have : sumB (if (frun l).2 = true then ([32] : List UInt8) else []) = if (frun l).2 = true then 1 else 0 := by
      split
      · rw [sumB_one]; decide
      · rfl
    rw [this]
    simp only [Bool.false_eq_true, if_false]
    omega
theorem frun_first : ∀ l : List UInt8, ∀ y, (frun l).1.head? = some y → y.toNat ≠ 32 := by
  refine snoc_ind (by simp [frun]) ?_
  intro l c ih y hy
  rw [frun_snoc] at hy
  by_cases h : c.toNat = 32
  · rw [fstep_blank _ _ h] at hy
    exact ih y hy
  · rw [fstep_other _ _ h] at hy
    cases ho : (frun l).1 with
    | nil =>
      have hg : (frun l).2 = false := by
        cases hw : (frun l).2 with
        | false => rfl
        | true => exact absurd ho (frun_gap l hw)
      rw [ho, hg] at hy
      simp at hy
      rw [← hy]
      exact fun e => h ((lowC_blank c).1 e)
    | cons a b =>
      rw [ho] at hy
      simp at hy
      exact ih y (by rw [ho]; simpa using hy)
theorem foldl_head : ∀ (r : List UInt8) (st : List UInt8 × Bool) (x : UInt8), st.1.head? = some x → (r.foldl fstep st).1.head? = some x
  | [], _, _, h => h
  | c :: r, st, x, h => by
    rw [List.foldl_cons]
    refine foldl_head r _ x ?_
    unfold fstep
    split
    · exact h
    · cases hs : st.1 with
      | nil => rw [hs] at h; cases h
      | cons a b => rw [hs] at h; simpa using h
theorem fold_head {c : UInt8} {r : List UInt8} (h : c.toNat ≠ 32) : (fold (c :: r)).head? = some (lowC c) := by
  unfold fold frun
  rw [List.foldl_cons]
  refine foldl_head r _ _ ?_
  rw [fstep_other _ _ h]; rfl
theorem esc_fold (v : List UInt8) : (escV (fold v)).length ≤ (escV v).length := by
  have h1 := esc_up (fold v) true (frun_spaced v).2 (fun _ => frun_first v)
  have h2 := esc_low v true
  have h3 := frun_sum v
  have h3' : sumB (fold v) ≤ sumB v := by unfold fold; split at h3 <;> omega
  unfold escV
  by_cases hx : ∃ y, (fold v).head? = some y ∧ y.toNat = 35
  · rw [if_pos ⟨rfl, hx⟩] at h1
    have hv : ∃ y, v.head? = some y ∧ (y.toNat = 35 ∨ y.toNat = 32) := by
      obtain ⟨y, hy, h35⟩ := hx
      cases v with
      | nil => simp [fold, frun] at hy
      | cons c r =>
        refine ⟨c, rfl, ?_⟩
        by_cases h32 : c.toNat = 32
        · exact .inr h32
        · rw [fold_head h32] at hy
          simp only [Option.some.injEq] at hy
          rw [← hy, lowC_toNat] at h35
          split at h35
          · omega
          · exact .inl h35
    rw [if_pos ⟨rfl, hv⟩] at h2
    omega
  · rw [if_neg (fun e => hx e.2)] at h1
    split at h2 <;> omega
theorem text_norm_len : ∀ l : List R, (textD (l.map normR)).length ≤ (textD l).length
  | [] => by simp [textD]
  | [r] => by
    show (textR (normR r)).length ≤ (textR r).length
    have := esc_fold r.2
    unfold textR normR
    simp only [List.length_append, List.length_cons, low_length]
    omega
  | r :: x :: l => by
    have ih := text_norm_len (x :: l)
    have := esc_fold r.2
    rw [List.map_cons, List.map_cons, text_cons, text_cons]
    rw [List.map_cons] at ih
    have e : (textR (normR r)).length ≤ (textR r).length := by
      unfold textR normR
      simp only [List.length_append, List.length_cons, low_length]
      omega
    simp only [List.length_append, List.length_cons]
    omega
theorem normR_norm (r : R) : normR (normR r) = normR r := by simp [normR, low_low, fold_fold]
theorem key_key {v k : List UInt8} (h : keyD v = some k) : keyD k = some k ∧ k.length ≤ v.length := by
  unfold keyD at h
  cases hp : parseD v with
  | none => rw [hp] at h; cases h
  | some l =>
    rw [hp] at h
    simp only at h
    split at h
    · rename_i hf
      cases h
      have hok := parse_ok hp
      have h1 := okL_norm hok hf
      have h2 : (l.map normR).all okF = true := by
        rw [List.all_map]
        have : (okF ∘ normR) = okF := by funext r; simp [okF, normR, fold_fold]
        rw [this]; exact hf
      have h3 := key_text h1 h2
      have h4 : (l.map normR).map normR = l.map normR := by
        rw [List.map_map]
        congr 1
        funext r
        exact normR_norm r
      rw [h4] at h3
      exact ⟨h3, Nat.le_trans (text_norm_len l) (parse_len hp)⟩
    · cases h
end Go.Proofs.YtdgnefcpeocbjaaGreatDoor


namespace Go.Proofs.YtdgnefcpeocbjaaGreatDoor
open Go.RowKit
set_option linter.unusedVariables false
set_option linter.unusedSimpArgs false

def lessV (o : Option Bool) : Value := match o with
  | some b => .tuple #[.bool b, .bool true]
  | none => .tuple #[.bool false, .bool false]
theorem norm2_self {v x : List UInt8} (h : normD 2 v = some x) : x = v ∧ ∃ n, numD v = some n := by
  unfold normD at h
  rw [if_neg (fun e => by rw [if_pos e] at h; cases h)] at h
  rw [if_neg (by decide), if_pos rfl] at h
  split at h
  · rename_i hn
    obtain ⟨n, hn⟩ := Option.isSome_iff_exists.1 hn
    exact ⟨(Option.some.inj h).symm, n, hn⟩
  · cases h
theorem lessFl_any (t a b : ByteArray) (ha : a.size ≤ 281474976710656) (hb : b.size ≤ 281474976710656) (w : World) (hw : LaidW w) :
    Calls Tryz.prog 60 #[.string t, .string a, .string b] w fun e w' => e = .returned (lessV (lessD (ruleD t.data.toList) a.data.toList b.data.toList)) ∧ Below w.heap.size w w' := by
  cases hp : normD (ruleD t.data.toList) a.data.toList with
  | none =>
    have h := less_no t a b w hw (.inl hp)
    rw [show lessD (ruleD t.data.toList) a.data.toList b.data.toList = none from by unfold lessD; rw [hp]]
    exact h
  | some x =>
    cases hq : normD (ruleD t.data.toList) b.data.toList with
    | none =>
      have h := less_no t a b w hw (.inr (.inl hq))
      rw [show lessD (ruleD t.data.toList) a.data.toList b.data.toList = none from by unfold lessD; rw [hp, hq]]
      exact h
    | some y =>
      by_cases h1 : ruleD t.data.toList = 1
      · have hd : lessD (ruleD t.data.toList) a.data.toList b.data.toList = some (Op.bytesLess x y) := by unfold lessD; rw [hp, hq]; simp only [h1, if_true]
        rw [hd]
        rw [h1] at hp hq
        have h := less_text t a b ⟨x.toArray⟩ ⟨y.toArray⟩ w hw h1 (by rw [hp]) (by rw [hq])
        rw [ByteArray.toList_eq, ByteArray.toList_eq] at h
        exact h
      · by_cases h2 : ruleD t.data.toList = 2
        · rw [h2] at hp hq
          obtain ⟨rfl, m, hm⟩ := norm2_self hp
          obtain ⟨rfl, n, hn⟩ := norm2_self hq
          have hd : lessD (ruleD t.data.toList) a.data.toList b.data.toList = some (decide (m < n)) := by unfold lessD; rw [h2, hp, hq]; simp only [hm, hn]; rfl
          rw [hd]
          exact less_int t a b m n w ha hb hw h2 hp hq hm hn
        · have h := less_no t a b w hw (.inr (.inr ⟨h1, h2⟩))
          rw [show lessD (ruleD t.data.toList) a.data.toList b.data.toList = none from by unfold lessD; rw [hp, hq]; simp only; rw [if_neg h1, if_neg h2]]
          exact h
set_option maxRecDepth 100000 in
set_option maxHeartbeats 2000000 in
theorem notBelow_any (t a b : ByteArray) (ha : a.size ≤ 281474976710656) (hb : b.size ≤ 281474976710656) (w : World) (hw : LaidW w) :
    Calls Tryz.prog 66 #[.string t, .string a, .string b] w fun e w' => e = .returned (.bool (aboveE (ruleD t.data.toList) a.data.toList b.data.toList)) ∧ Below w.heap.size w w' := by
  have hl := lessFl_any t a b ha hb w hw
  unfold aboveE
  obtain ⟨o, ho⟩ : ∃ o, o = lessD (ruleD t.data.toList) a.data.toList b.data.toList := ⟨_, rfl⟩
  rw [← ho] at hl ⊢
  have HL := Lib.hid hl
  clear hl ho
  match o with
  | none =>
    go_enter Tryz.func66, Tryz.ntmps66
    go_wp2_with (go_at_call 60; refine (HL.out).mono ?_; rintro e w2 ⟨rfl, hb2⟩; have HB := Lib.hid hb2; clear hb2; unfold lessV)
    go_ret
    exact ⟨rfl, HB.out⟩
  | some true =>
    go_enter Tryz.func66, Tryz.ntmps66
    go_wp2_with (go_at_call 60; refine (HL.out).mono ?_; rintro e w2 ⟨rfl, hb2⟩; have HB := Lib.hid hb2; clear hb2; unfold lessV)
    go_ret
    exact ⟨rfl, HB.out⟩
  | some false =>
    go_enter Tryz.func66, Tryz.ntmps66
    go_wp2_with (go_at_call 60; refine (HL.out).mono ?_; rintro e w2 ⟨rfl, hb2⟩; have HB := Lib.hid hb2; clear hb2; unfold lessV)
    go_ret
    exact ⟨rfl, HB.out⟩
set_option maxRecDepth 100000 in
set_option maxHeartbeats 1000000 in
theorem lowEv_any (s : ByteArray) (w : World) (hs : s.size ≤ 281474976710656) :
    Calls Tryz.prog 85 #[.string s] w fun e w' => e = .returned (.string (lowB s)) ∧ Below w.heap.size w w' := by
  have hcv := fun w => Lib.run_convert_string_bytes (P := Tryz.prog) w 9 34 5 s Tryz.underlying9 Tryz.underlying34 Tryz.underlying5
  go_enter Tryz.func85, Tryz.ntmps85
  go_wp2
  clear hcv
  generalize grownCap w s.size 0 5 = cap
  go_loopw [10] (fun i wr => ∃ j : Nat, j ≤ s.size ∧ i = .int .i64 j ∧ LowAt w s j wr) (fun i _ => s.size - (intOf i).toNat)
  case atStart => exact ⟨0, by omega, rfl, lowAt_start w s⟩
  case round =>
    obtain ⟨j, hj, rfl, hlow⟩ := hrel
    by_cases hlt : j < s.size
    · have t1 : decide ((j : Int) < (s.size : Int)) = true := by simp; omega
      obtain ⟨c0, f0⟩ := hlow.cell hlt
      obtain ⟨c, hc⟩ : ∃ c : UInt8, c = s[j] := ⟨_, rfl⟩
      rw [← hc] at c0
      have hcl := c.toNat_lt
      have HLow := Lib.hid hlow
      clear hlow
      by_cases h1 : 65 ≤ c.toNat
      · have t2 : decide ((65 : Int) ≤ (c.toNat : Int)) = true := by simp; omega
        by_cases h2 : c.toNat ≤ 90
        · have t3 : decide ((c.toNat : Int) ≤ 90) = true := by simp; omega
          have HSt := Lib.hid (HLow.out.store hlt ((c.toNat : Int) + 97 - 65) (by rw [show (c.toNat : Int) + 97 - 65 = (c.toNat : Int) + 32 by omega, lowC_up h1 h2, hc]))
          clear hc
          go_wp2
          go_roundw
          case rel => exact ⟨j + 1, by omega, by go_num, HSt.out⟩
          case measure => simp [intOf]; omega
        · have t3 : decide ((c.toNat : Int) ≤ 90) = false := by simp; omega
          have HSt := Lib.hid (HLow.out.skip hlt (by rw [← hc]; exact lowC_no (by omega)))
          clear hc
          go_wp2
          go_roundw
          case rel => exact ⟨j + 1, by omega, by go_num, HSt.out⟩
          case measure => simp [intOf]; omega
      · have t2 : decide ((65 : Int) ≤ (c.toNat : Int)) = false := by simp; omega
        have HSt := Lib.hid (HLow.out.skip hlt (by rw [← hc]; exact lowC_no (by omega)))
        clear hc
        go_wp2
        go_roundw
        case rel => exact ⟨j + 1, by omega, by go_num, HSt.out⟩
        case measure => simp [intOf]; omega
    · obtain rfl : j = s.size := by omega
      have t1 : decide ((s.size : Int) < (s.size : Int)) = false := by simp
      have hcv := hlow.conv (cap := cap)
      have HLow := Lib.hid hlow
      clear hlow
      go_wp2
      go_ret
      exact ⟨rfl, HLow.out.1⟩
end Go.Proofs.YtdgnefcpeocbjaaGreatDoor


namespace Go.Proofs.YtdgnefcpeocbjaaGreatDoor
open Go.RowKit
set_option linter.unusedVariables false
set_option linter.unusedSimpArgs false

theorem step_append_textS {ops : Array Oper} {o : Oper} {a : Act} {w : World} {K : Act → World → Prop} {Q : Exit → Act → World → Prop} {E : Prop} (hgd : o.guard = none) (sl x : Operand)
    (ho : o.op = .call { callee := .builtin .append, args := #[sl, x], argTypes := #[22, 22] })
    (base : Nat) (v : Value) (L : List (List UInt8)) (hs : a.eval sl = v) (X : ByteArray) (hown : OwnS base w v L) (hx : a.eval x = .slice (some ⟨w.heap.size, 0, none⟩) 1 1)
    (h63 : L.length + 1 ≤ 1000000) (hbase : base ≤ w.heap.size)
    (h : ∀ v' w', OwnS base w' v' (L ++ [X.data.toList]) → Below base w w' → K (a.put o.dst v') w') :
    if Region.wanted o (yielded ops a.tmps) = true then Oper.wp Tryz.prog o a (w.alloc (.cells #[.string X] 9)) K Q else E := by
  obtain ⟨i0, hi, hz0, hz1, hz2⟩ := info_parts infoS
  refine step_append_lies _ hgd sl x 22 ho base 9 i0 (.string ⟨#[]⟩) 1 16 Tryz.underlying22 hi hz0 hz1 hz2 rfl (by decide) v L.length (L.map strV) hs (World.ownsRow.alloc hown _) ⟨w.heap.size, 0, none⟩ 1 1 [.string X] hx rfl (cell_one_new w (.string X) 9) (by intro u hu; simp at hu; rw [hu]; rfl) (by decide) (by unfold maxLen; omega) (by omega) (by simp; omega) _ rfl ?_
  intro g cap w' hown' hgrow hat hlt
  refine h _ w' ?_ ?_
  · unfold OwnS
    rw [List.length_append, List.map_append]
    have : [X.data.toList].map strV = [Value.string X] := by show [Value.string ⟨X.data.toList.toArray⟩] = _; rw [whole_ext]
    rw [this]
    exact hown'
  · exact ((Below.refl base w).alloc hbase _).grown hgrow (by simp; omega) (fun k e => (World.ownsRow.lt hown k e).1)
theorem normD_len {r : Nat} {v x : List UInt8} (h : normD r v = some x) : x.length ≤ 100 := by
  unfold normD at h
  split at h
  · cases h
  · rename_i h0
    have hv : v.length ≤ 100 := by omega
    split at h
    · split at h
      · cases h
      · rw [← Option.some.inj h]
        exact Nat.le_trans (fold_len v) hv
    · split at h
      · split at h
        · rw [← Option.some.inj h]; exact hv
        · cases h
      · split at h
        · split at h
          · rename_i k hk
            split at h
            · cases h
            · rw [← Option.some.inj h]
              exact Nat.le_trans (key_key hk).2 hv
          · cases h
        · split at h
          · rw [← Option.some.inj h]; exact hv
          · cases h
abbrev PvAt (W : World) (b : Nat) (v : Value) : Prop := W.heap[b]? = some (.cells #[v] 22 (0, 0))
theorem pv_lt {W : World} {b : Nat} {v : Value} (h : PvAt W b v) : b < W.heap.size := (Array.getElem?_eq_some_iff.1 h).1
theorem pv_below {W W' : World} {b m : Nat} {v : Value} (h : PvAt W b v) (hb : Below m W W') (hn : b < m) : PvAt W' b v := (hb.block b hn).trans h
theorem pv_cell {W : World} {b : Nat} {v : Value} (h : PvAt W b v) : W.cell? ⟨b, 0, none⟩ = some v ∧ W.frozen? ⟨b, 0, none⟩ = false := by
  have h' : W.heap[b]? = some (.cells #[v] 22 (0, 0)) := h
  refine ⟨?_, ?_⟩
  · simp [World.cell?, h']
  · simp [World.frozen?, h']
structure PrtAt (w wr : World) (x0 x1 x2 x3 x4 v : Value) (L : List (List UInt8)) : Prop where
  fl : FlAt wr w.heap.size x0 x1 x2 x3 x4
  pv : PvAt wr (w.heap.size + 1) v
  own : OwnS (w.heap.size + 2) wr v L
  bel : Below w.heap.size w wr
theorem PrtAt.lt {w wr : World} {x0 x1 x2 x3 x4 v : Value} {L : List (List UInt8)} (h : PrtAt w wr x0 x1 x2 x3 x4 v L) : w.heap.size + 2 ≤ wr.heap.size := by have := pv_lt h.pv; omega
theorem PrtAt.go {w wr wx : World} {x0 x1 x2 x3 x4 v : Value} {L : List (List UInt8)} (h : PrtAt w wr x0 x1 x2 x3 x4 v L) (hb : Below wr.heap.size wr wx) : PrtAt w wx x0 x1 x2 x3 x4 v L :=
  ⟨fl_below h.fl hb (fl_lt h.fl), pv_below h.pv hb (pv_lt h.pv), ownS_below h.own hb, bthen h.bel hb⟩
theorem prt_new (w : World) (x0 x1 x2 x3 x4 : Value) : PrtAt w ((w.alloc (.cells #[x0, x1, x2, x3, x4] 25)).alloc (.cells #[.slice none 0 0] 22)) x0 x1 x2 x3 x4 (.slice none 0 0) [] := by
  have h1 := box5 w x0 x1 x2 x3 x4
  have h2 : Below (w.alloc (.cells #[x0, x1, x2, x3, x4] 25)).heap.size (w.alloc (.cells #[x0, x1, x2, x3, x4] 25)) ((w.alloc (.cells #[x0, x1, x2, x3, x4] 25)).alloc (.cells #[.slice none 0 0] 22)) := (Below.refl _ _).alloc (Nat.le_refl _) _
  have hz : FlAt (w.alloc (.cells #[x0, x1, x2, x3, x4] 25)) w.heap.size x0 x1 x2 x3 x4 := heap_alloc_new w _
  have hs : (w.alloc (.cells #[x0, x1, x2, x3, x4] 25)).heap.size = w.heap.size + 1 := by simp only [World.alloc, Array.size_push]
  have hn := heap_alloc_new (w.alloc (.cells #[x0, x1, x2, x3, x4] 25)) (.cells #[.slice none 0 0] 22)
  rw [hs] at hn
  exact ⟨fl_below hz h2 (fl_lt hz), hn, ownS_nil _ _, bthen h1 h2⟩
theorem prt_next {w wr w4 w6 : World} {x0 x1 x2 x3 x4 v v6 : Value} {L L' : List (List UInt8)} (h : PrtAt w wr x0 x1 x2 x3 x4 v L) (h4 : Below wr.heap.size wr w4) (h6 : Below (w.heap.size + 2) w4 w6) (ho : OwnS (w.heap.size + 2) w6 v6 L') :
    PvAt w6 (w.heap.size + 1) v ∧ PrtAt w (w6.setCell ⟨w.heap.size + 1, 0, none⟩ v6) x0 x1 x2 x3 x4 v6 L' := by
  have hlt := h.lt
  have hg := h.go h4
  have hp6 := pv_below hg.pv h6 (Nat.lt_succ_self _)
  have hf6 := fl_below hg.fl h6 (by omega)
  refine ⟨hp6, (blockFl_ne _ ⟨w.heap.size + 1, 0, none⟩ _ (by show w.heap.size ≠ w.heap.size + 1; omega)).trans hf6, ?_, ?_, (hg.bel.trans (h6.mono (by omega))).setCell (p := ⟨w.heap.size + 1, 0, none⟩) (by show w.heap.size ≤ w.heap.size + 1; omega) _⟩
  · have h' : w6.heap[w.heap.size + 1]? = some (.cells #[v] 22 (0, 0)) := hp6
    show (w6.setCell ⟨w.heap.size + 1, 0, none⟩ v6).heap[w.heap.size + 1]? = _
    simp [World.setCell, Array.getElem?_modify, h']
  · refine World.ownsRow.kept ho (row := some (w.heap.size + 1)) ⟨rfl, rfl, rfl, by rw [World.size_setCell]; exact Nat.le_refl _, fun k hk hne => heap_setCell_other _ _ _ _ (fun e => hne (by rw [e]))⟩ ?_
    right
    intro e
    have := (World.ownsRow.lt ho _ e).1
    omega
set_option maxRecDepth 100000 in
set_option maxHeartbeats 4000000 in
theorem hasParts_any (k : Int) (T X : ByteArray) (p : List (List UInt8)) (pa ka : Option Addr) (n pc kn kc : Nat) (w : World) (hn : n = p.length) (hn3 : n ≤ 1000) (hpl : ∀ x ∈ p, x.length ≤ 1000000) (h : IsTo (Lt w) w p (.slice pa n pc)) :
    Calls Tryz.prog 68 #[.agg #[.int .i64 k, .string T, .string X, .slice pa n pc, .slice ka kn kc]] w fun e w' => ∃ v, e = .returned (.func (.func 86) #[] #[.pointer (some ⟨w.heap.size, 0, none⟩), .pointer (some ⟨w.heap.size + 1, 0, none⟩)]) ∧ PrtAt w w' (.int .i64 k) (.string T) (.string X) (.slice pa n pc) (.slice ka kn kc) v (p.map low) := by
  have hmf : ∀ (fn : Fn) (first cap : Array Value) (w : World), (Instr.makeFunc fn first cap).run Tryz.prog w = .ok (.func fn first cap) w := fun _ _ _ _ => rfl
  obtain ⟨W1, hW1⟩ : ∃ W, W = (w.alloc (.cells #[.int .i64 k, .string T, .string X, .slice pa n pc, .slice ka kn kc] 25)).alloc (.cells #[.slice none 0 0] 22) := ⟨_, rfl⟩
  have HP1 : Hid (PrtAt w W1 (.int .i64 k) (.string T) (.string X) (.slice pa n pc) (.slice ka kn kc) (.slice none 0 0) []) := Lib.hid (by rw [hW1]; exact prt_new w _ _ _ _ _)
  have HW1 := Lib.hid hW1.symm
  obtain ⟨a0, c0, e0, _, hcell⟩ := h
  have e1 : a0 = pa := by injection e0 with e1 _ _; exact e1.symm
  subst e1
  have HC := Lib.hid hcell
  have HN := Lib.hid hn
  have HPl := Lib.hid hpl
  obtain ⟨q0, q1, q2, q3, q4⟩ := fl_cells HP1.out.fl
  clear hW1 e0 hcell hn hpl
  go_enter Tryz.func68, Tryz.ntmps68
  go_upto_region 2 with (fail)
  rw [HW1.out]
  go_wp2
  clear q0 q1 q2 q3 q4
  go_loopw [9] (fun i wr => ∃ (j : Nat) (v : Value), j ≤ n ∧ i = .int .i64 j ∧ Hid (PrtAt w wr (.int .i64 k) (.string T) (.string X) (.slice a0 n pc) (.slice ka kn kc) v ((p.take j).map low))) (fun i _ => n - (intOf i).toNat)
  case atStart => exact ⟨0, .slice none 0 0, by omega, rfl, HP1⟩
  case round =>
    obtain ⟨j, v, hj, rfl, HP⟩ := hrel
    by_cases hlt : j < n
    · have t1 : decide ((j : Int) < (n : Int)) = true := by simp; omega
      have t1' : decide (j < n) = true := by simpa using hlt
      have hjp : j < p.length := by rw [← HN.out]; exact hlt
      obtain ⟨b, off, rfl, hbl, hc⟩ := HC.out j hjp
      obtain ⟨Y, hY, hYl⟩ := strV_text p[j]
      have d0 : wr.cell? ⟨b, off + j, none⟩ = some (.string Y) := by rw [HP.out.bel.cell (p := ⟨b, _, none⟩) hbl, hc, hY]
      have hYs : Y.size ≤ 281474976710656 := by rw [← bytes_len, hYl]; have := HPl.out _ (List.getElem_mem hjp); omega
      have hlo := fun W => lowEv_any Y W hYs
      have HLo := Lib.hid hlo
      have htk : ((p.take j).map low) ++ [(lowB Y).data.toList] = (p.take (j + 1)).map low := by
        rw [List.take_succ_eq_append_getElem hjp, List.map_append, lowB_list, hYl]
        rfl
      have HTk := Lib.hid htk
      obtain ⟨Z, hZ⟩ : ∃ Z, Z = lowB Y := ⟨_, rfl⟩
      rw [← hZ] at HLo HTk
      obtain ⟨va, vc, hv⟩ := ownS_slice HP.out.own
      have hll : ((p.take j).map low).length = j := by rw [List.length_map, List.length_take, ← HN.out]; omega
      rw [hll] at hv
      subst hv
      have HLl := Lib.hid hll
      obtain ⟨p0, p1⟩ := pv_cell HP.out.pv
      obtain ⟨pb, hpb⟩ : ∃ b, b = w.heap.size + 1 := ⟨_, rfl⟩
      have HPb := Lib.hid hpb
      rw [← hpb] at p0 p1
      have hlw := HP.out.lt
      rw [← hpb]
      clear hc hY hYl hlo htk hZ hpb hll
      go_upto_region 5 with (fail)
      have p0d : wr.drew.cell? ⟨pb, 0, none⟩ = some (.slice va j vc) := p0
      go_region_law (first
        | (go_simp; go_at_call 85; refine (HLo.out wr.drew).mono ?_; rintro e w4 ⟨rfl, hb4⟩; have hb4' : Below wr.heap.size wr w4 := ⟨hb4.1, hb4.2, hb4.3, hb4.4, hb4.5⟩; have hpl : pb < wr.heap.size := (by rw [HPb.out]; exact pv_lt HP.out.pv); have r0 : w4.cell? ⟨pb, 0, none⟩ = some (.slice va j vc) := (hb4'.cell (p := ⟨pb, 0, none⟩) hpl).trans p0; have r1 : (w4.alloc (.cells #[.string Z] 9)).cell? ⟨pb, 0, none⟩ = some (.slice va j vc) := (Below.cell (p := ⟨pb, 0, none⟩) ((Below.refl w4.heap.size w4).alloc (Nat.le_refl _) _) (Nat.lt_of_lt_of_le hpl hb4'.size)).trans r0; have HB4 := Lib.hid hb4'; clear hb4 hb4')
        | (refine step_append_textS rfl (.tmp 13) (.tmp 16) rfl (w.heap.size + 2) (.slice va j vc) ((p.take j).map low) rfl Z (ownS_below HP.out.own HB4.out) rfl (by rw [HLl.out]; omega) (by have := HB4.out.size; omega) ?_; intro v6 w6 hown6 hb6; have hx := prt_next HP.out HB4.out hb6 hown6; have hs6 := pv_cell hx.1; rw [← HPb.out] at hs6; (obtain ⟨s0, s1⟩ := hs6); (obtain ⟨ga, gc, hv6⟩ := ownS_slice hown6); (obtain ⟨m6, hm6⟩ : ∃ m, m = ((p.take j).map low ++ [Z.data.toList]).length := ⟨_, rfl⟩); rw [← hm6] at hv6; subst hv6; have HNx : Hid (PrtAt w (w6.setCell ⟨pb, 0, none⟩ (.slice ga m6 gc)) (.int .i64 k) (.string T) (.string X) (.slice (some ⟨b, off, none⟩) n pc) (.slice ka kn kc) (.slice ga m6 gc) ((p.take (j + 1)).map low)) := Lib.hid (by { rw [HPb.out, ← HTk.out]; exact hx.2 }); clear hown6 hb6 hx hm6))
      all_goals
        go_wp2
        go_roundw
        case rel => exact ⟨j + 1, _, by omega, by go_num, HNx⟩
        case measure => simp [intOf]; omega
    · obtain rfl : j = n := by omega
      have t1 : decide ((j : Int) < (j : Int)) = false := by simp
      have t1' : decide (j < j) = false := by simp
      have HE : Hid ((p.take j).map low = p.map low) := Lib.hid (by rw [List.take_of_length_le (by rw [← HN.out]; exact Nat.le_refl _)])
      go_wp2
      go_ret
      exact ⟨v, rfl, by rw [← HE.out]; exact HP.out⟩
set_option maxRecDepth 100000 in
set_option maxHeartbeats 4000000 in
theorem askParts_any (k : Int) (T X V : ByteArray) (p : List (List UInt8)) (b6 b7 : Nat) (x3 x4 v : Value) (q : List (List UInt8)) (w0 w1 w : World) (hw : LaidW w) (hX : LaidX w) (hP : PrtAt w0 w1 (.int .i64 k) (.string T) (.string X) x3 x4 v q) (hb : Below w1.heap.size w1 w) (hq : q = p.map low)
    (hq2 : 2 ≤ p.length) (hq3 : p.length ≤ 1000) (hpl : ∀ x ∈ p, x.length ≤ 1000000) (hV : V.size ≤ 1000000) (h6 : b6 = w0.heap.size) (h7 : b7 = w0.heap.size + 1) :
    Calls Tryz.prog 86 #[.string V, .pointer (some ⟨b6, 0, none⟩), .pointer (some ⟨b7, 0, none⟩)] w fun e w' => e = .returned (.bool (partsE (ruleD T.data.toList) p V.data.toList)) ∧ Below w.heap.size w w' := by
  have hP' := hP.go hb
  subst h6
  subst h7
  obtain ⟨c0, c1, c2, c3, c4⟩ := fl_cells hP'.fl
  obtain ⟨p0, _⟩ := pv_cell hP'.pv
  have hnm := norm_any T V w hw
  obtain ⟨R, hR⟩ : ∃ R, R = partsE (ruleD T.data.toList) p V.data.toList := ⟨_, rfl⟩
  rw [← hR]
  unfold partsE at hR
  have hql : q.length = p.length := by rw [hq, List.length_map]
  have hqp : ∀ x ∈ q, x.length ≤ 1000000 := by
    rw [hq]
    intro x hx
    obtain ⟨y, hy, rfl⟩ := List.mem_map.1 hx
    rw [low_length]
    exact hpl y hy
  have hne : q ≠ [] := fun e => by rw [e] at hql; simp at hql; omega
  obtain ⟨g, cp, hv, hg0, hg1, hcell⟩ := ownS_at hP'.own hne
  subst hv
  have hcp : q.length ≤ cp := by
    rcases hP'.own.2 with ⟨e, _⟩ | ⟨g', cap, cur, e, _, hc, _, hle, _⟩
    · cases e
    · cases e
      omega
  have hnl : ∀ x, normD (ruleD T.data.toList) V.data.toList = some x → x.length ≤ 1000000 := fun x hx => Nat.le_trans (normD_len hx) (by omega)
  obtain ⟨o, ho⟩ : ∃ o, o = normD (ruleD T.data.toList) V.data.toList := ⟨_, rfl⟩
  rw [← ho] at hR hnm hnl
  have HNm := Lib.hid hnm
  have HR := Lib.hid hR
  cases o with
  | none =>
    clear hnm hR hP hP' hb hcell ho
    go_enter Tryz.func86, Tryz.ntmps86
    go_wp2_with (go_at_call 59; refine (HNm.out).mono ?_; rintro e w2 ⟨rfl, hb2⟩; have HB := Lib.hid hb2; clear hb2; unfold saidP)
    go_ret
    exact ⟨by rw [HR.out]; rfl, HB.out⟩
  | some x =>
    obtain ⟨N, hN⟩ : ∃ N : ByteArray, N = ⟨x.toArray⟩ := ⟨_, rfl⟩
    have hNl : N.data.toList = x := by rw [hN]
    have hNs : N.size ≤ 1000000 := by rw [← bytes_len, hNl]; exact hnl x rfl
    have hmd := fun W (hW : Below w.heap.size w W) => madeOf_any N hNs q g 0 cp q.length W (hX.below hW) rfl (by omega) (by omega) hcp hqp (fun j h => by rw [Nat.zero_add]; exact (hW.cell (p := ⟨g, j, none⟩) hg1).trans (hcell j h)) (Nat.lt_of_lt_of_le hg1 hW.size)
    rw [hNl] at hmd
    have hR2 : R = madeO x q := by rw [hR, hq]
    rw [← hR2] at hmd
    have HMd := Lib.hid hmd
    have hsv : saidP (some x) = .tuple #[.string N, .bool true] := by rw [hN]; rfl
    rw [hsv] at HNm
    have p0' := fun W (hW : Below w.heap.size w W) => (hW.cell (p := ⟨w0.heap.size + 1, 0, none⟩) (pv_lt hP'.pv)).trans p0
    have HP0 := Lib.hid p0'
    obtain ⟨ql, hqq⟩ : ∃ n, n = q.length := ⟨_, rfl⟩
    rw [← hqq] at HMd HP0 p0
    clear hnm hR hP hP' hb hcell ho hmd hsv hN hNl hR2 p0' hqq
    go_enter Tryz.func86, Tryz.ntmps86
    go_wp2_with (first
      | (go_at_call 59; refine (HNm.out).mono ?_; rintro e w2 ⟨rfl, hb2⟩; have HB := Lib.hid hb2; have p2 := HP0.out _ hb2; clear hb2)
      | (go_at_call 87; refine (HMd.out _ HB.out).mono ?_; rintro e w3 ⟨rfl, hb3⟩; have HB3 := Lib.hid (bthen HB.out hb3); clear hb3))
    go_ret
    exact ⟨rfl, HB3.out⟩
end Go.Proofs.YtdgnefcpeocbjaaGreatDoor


namespace Go.Proofs.YtdgnefcpeocbjaaGreatDoor
open Go.RowKit
set_option linter.unusedVariables false
set_option linter.unusedSimpArgs false

set_option maxRecDepth 100000 in
set_option maxHeartbeats 2000000 in
theorem askG_any (T X V : ByteArray) (x0 x3 x4 : Value) (b : Nat) (hX : X.size ≤ 281474976710656) (hV : V.size ≤ 281474976710656) (w : World) (hw : LaidW w) (hf : FlAt w b x0 (.string T) (.string X) x3 x4) :
    Calls Tryz.prog 65 #[.string V, .pointer (some ⟨b, 0, none⟩)] w fun e w' => e = .returned (.bool (aboveE (ruleD T.data.toList) V.data.toList X.data.toList)) ∧ Below w.heap.size w w' := by
  have hn := notBelow_any T V X (by omega) (by omega) w hw
  obtain ⟨c0, c1, c2, c3, c4⟩ := fl_cells hf
  have HN := Lib.hid hn
  clear hn hf
  go_enter Tryz.func65, Tryz.ntmps65
  go_wp2_with (go_at_call 66; refine (HN.out).mono ?_; rintro e w2 ⟨rfl, hb2⟩; have HB := Lib.hid hb2; clear hb2)
  go_ret
  exact ⟨rfl, HB.out⟩
set_option maxRecDepth 100000 in
set_option maxHeartbeats 2000000 in
theorem askL_any (T X V : ByteArray) (x0 x3 x4 : Value) (b : Nat) (hX : X.size ≤ 281474976710656) (hV : V.size ≤ 281474976710656) (w : World) (hw : LaidW w) (hf : FlAt w b x0 (.string T) (.string X) x3 x4) :
    Calls Tryz.prog 67 #[.string V, .pointer (some ⟨b, 0, none⟩)] w fun e w' => e = .returned (.bool (aboveE (ruleD T.data.toList) X.data.toList V.data.toList)) ∧ Below w.heap.size w w' := by
  have hn := notBelow_any T X V (by omega) (by omega) w hw
  obtain ⟨c0, c1, c2, c3, c4⟩ := fl_cells hf
  have HN := Lib.hid hn
  clear hn hf
  go_enter Tryz.func67, Tryz.ntmps67
  go_wp2_with (go_at_call 66; refine (HN.out).mono ?_; rintro e w2 ⟨rfl, hb2⟩; have HB := Lib.hid hb2; clear hb2)
  go_ret
  exact ⟨rfl, HB.out⟩
set_option maxRecDepth 100000 in
set_option maxHeartbeats 2000000 in
theorem someG_any (d T : ByteArray) (L : List AT) (hs : smallA L) (va : Option Addr) (vn vc : Nat) (b1 : Nat) (q : List UInt8 → Bool) (w : World) (h : IsA w.heap.size w L (.slice va vn vc))
    (HQ : ∀ (X : ByteArray) (W : World), Below w.heap.size w W → X.data.toList ∈ findA L T.data.toList → Calls Tryz.prog 65 #[.string X, .pointer (some ⟨b1, 0, none⟩)] W fun e w' => e = .returned (.bool (q X.data.toList)) ∧ Below W.heap.size W w') :
    Calls Tryz.prog 64 #[.agg #[.string d, .slice va vn vc], .string T, .func (.func 65) #[] #[.pointer (some ⟨b1, 0, none⟩)]] w fun e w' => e = .returned (.bool ((findA L T.data.toList).any q)) ∧ Below w.heap.size w w' := by
  have hfl : (findA L T.data.toList).length ≤ 1000000 := by
    unfold findA
    split
    · rename_i a ha
      have := ((hs.2 a (List.mem_of_find?_eq_some ha)).2).1
      omega
    · simp
  obtain ⟨W1, hW1⟩ : ∃ W, W = w.alloc (.cells #[.string d, .slice va vn vc] 28) := ⟨_, rfl⟩
  have hb1 : Below w.heap.size w W1 := by rw [hW1]; exact (Below.refl _ _).alloc (Nat.le_refl _) _
  have hv1 := vals_any d L hs (.slice va vn vc) T W1 (h.below hb1 hb1.size)
  have HV := Lib.hid hv1
  have HC := Lib.hid (fun (u : Value) (W : World) (hW : Below w.heap.size w W) (hu : IsT W.heap.size W (findA L T.data.toList) u) => containsQG_any (findA L T.data.toList) hfl u b1 q W hu (fun X W' hW' hm => HQ X W' (bthen hW hW') hm))
  have HB1 := Lib.hid hb1
  have HW1 := Lib.hid hW1.symm
  have HFl := Lib.hid hfl
  clear hW1 hb1 hv1 HQ h hfl
  go_enter Tryz.func64, Tryz.ntmps64
  go_upto_region 1 with (fail)
  rw [HW1.out]
  have e0 : W1.cell? ⟨w.heap.size, 0, none⟩ = some (.string d) ∧ W1.cell? ⟨w.heap.size, 1, none⟩ = some (.slice va vn vc) := by
    have := heap_alloc_new w (.cells #[.string d, .slice va vn vc] 28)
    rw [HW1.out] at this
    exact ⟨by simp [World.cell?, this], by simp [World.cell?, this]⟩
  obtain ⟨e0, e1⟩ := e0
  go_wp2_with (first
    | (go_at_call 69; refine (HV.out).mono ?_; rintro e w2 ⟨u, rfl, hown, hb2⟩; have HB2 := Lib.hid (bthen HB1.out hb2); have HU := Lib.hid (ownS_isT hown (by have := HFl.out; unfold maxLen; omega)); clear hown hb2)
    | (go_at_call 81; refine (HC.out _ _ HB2.out HU.out).mono ?_; rintro e w3 ⟨rfl, hb3⟩; have HB3 := Lib.hid (bthen HB2.out hb3); clear hb3))
  go_ret
  exact ⟨rfl, HB3.out⟩
set_option maxRecDepth 100000 in
set_option maxHeartbeats 2000000 in
theorem someL_any (d T : ByteArray) (L : List AT) (hs : smallA L) (va : Option Addr) (vn vc : Nat) (b1 : Nat) (q : List UInt8 → Bool) (w : World) (h : IsA w.heap.size w L (.slice va vn vc))
    (HQ : ∀ (X : ByteArray) (W : World), Below w.heap.size w W → X.data.toList ∈ findA L T.data.toList → Calls Tryz.prog 67 #[.string X, .pointer (some ⟨b1, 0, none⟩)] W fun e w' => e = .returned (.bool (q X.data.toList)) ∧ Below W.heap.size W w') :
    Calls Tryz.prog 64 #[.agg #[.string d, .slice va vn vc], .string T, .func (.func 67) #[] #[.pointer (some ⟨b1, 0, none⟩)]] w fun e w' => e = .returned (.bool ((findA L T.data.toList).any q)) ∧ Below w.heap.size w w' := by
  have hfl : (findA L T.data.toList).length ≤ 1000000 := by
    unfold findA
    split
    · rename_i a ha
      have := ((hs.2 a (List.mem_of_find?_eq_some ha)).2).1
      omega
    · simp
  obtain ⟨W1, hW1⟩ : ∃ W, W = w.alloc (.cells #[.string d, .slice va vn vc] 28) := ⟨_, rfl⟩
  have hb1 : Below w.heap.size w W1 := by rw [hW1]; exact (Below.refl _ _).alloc (Nat.le_refl _) _
  have hv1 := vals_any d L hs (.slice va vn vc) T W1 (h.below hb1 hb1.size)
  have HV := Lib.hid hv1
  have HC := Lib.hid (fun (u : Value) (W : World) (hW : Below w.heap.size w W) (hu : IsT W.heap.size W (findA L T.data.toList) u) => containsQL_any (findA L T.data.toList) hfl u b1 q W hu (fun X W' hW' hm => HQ X W' (bthen hW hW') hm))
  have HB1 := Lib.hid hb1
  have HW1 := Lib.hid hW1.symm
  have HFl := Lib.hid hfl
  clear hW1 hb1 hv1 HQ h hfl
  go_enter Tryz.func64, Tryz.ntmps64
  go_upto_region 1 with (fail)
  rw [HW1.out]
  have e0 : W1.cell? ⟨w.heap.size, 0, none⟩ = some (.string d) ∧ W1.cell? ⟨w.heap.size, 1, none⟩ = some (.slice va vn vc) := by
    have := heap_alloc_new w (.cells #[.string d, .slice va vn vc] 28)
    rw [HW1.out] at this
    exact ⟨by simp [World.cell?, this], by simp [World.cell?, this]⟩
  obtain ⟨e0, e1⟩ := e0
  go_wp2_with (first
    | (go_at_call 69; refine (HV.out).mono ?_; rintro e w2 ⟨u, rfl, hown, hb2⟩; have HB2 := Lib.hid (bthen HB1.out hb2); have HU := Lib.hid (ownS_isT hown (by have := HFl.out; unfold maxLen; omega)); clear hown hb2)
    | (go_at_call 81; refine (HC.out _ _ HB2.out HU.out).mono ?_; rintro e w3 ⟨rfl, hb3⟩; have HB3 := Lib.hid (bthen HB2.out hb3); clear hb3))
  go_ret
  exact ⟨rfl, HB3.out⟩
set_option maxRecDepth 100000 in
set_option maxHeartbeats 2000000 in
theorem someP_any (d T : ByteArray) (L : List AT) (hs : smallA L) (va : Option Addr) (vn vc : Nat) (b1 b2 : Nat) (q : List UInt8 → Bool) (w : World) (h : IsA w.heap.size w L (.slice va vn vc))
    (HQ : ∀ (X : ByteArray) (W : World), Below w.heap.size w W → X.data.toList ∈ findA L T.data.toList → Calls Tryz.prog 86 #[.string X, .pointer (some ⟨b1, 0, none⟩), .pointer (some ⟨b2, 0, none⟩)] W fun e w' => e = .returned (.bool (q X.data.toList)) ∧ Below W.heap.size W w') :
    Calls Tryz.prog 64 #[.agg #[.string d, .slice va vn vc], .string T, .func (.func 86) #[] #[.pointer (some ⟨b1, 0, none⟩), .pointer (some ⟨b2, 0, none⟩)]] w fun e w' => e = .returned (.bool ((findA L T.data.toList).any q)) ∧ Below w.heap.size w w' := by
  have hfl : (findA L T.data.toList).length ≤ 1000000 := by
    unfold findA
    split
    · rename_i a ha
      have := ((hs.2 a (List.mem_of_find?_eq_some ha)).2).1
      omega
    · simp
  obtain ⟨W1, hW1⟩ : ∃ W, W = w.alloc (.cells #[.string d, .slice va vn vc] 28) := ⟨_, rfl⟩
  have hb1 : Below w.heap.size w W1 := by rw [hW1]; exact (Below.refl _ _).alloc (Nat.le_refl _) _
  have hv1 := vals_any d L hs (.slice va vn vc) T W1 (h.below hb1 hb1.size)
  have HV := Lib.hid hv1
  have HC := Lib.hid (fun (u : Value) (W : World) (hW : Below w.heap.size w W) (hu : IsT W.heap.size W (findA L T.data.toList) u) => containsQP_any (findA L T.data.toList) hfl u b1 b2 q W hu (fun X W' hW' hm => HQ X W' (bthen hW hW') hm))
  have HB1 := Lib.hid hb1
  have HW1 := Lib.hid hW1.symm
  have HFl := Lib.hid hfl
  clear hW1 hb1 hv1 HQ h hfl
  go_enter Tryz.func64, Tryz.ntmps64
  go_upto_region 1 with (fail)
  rw [HW1.out]
  have e0 : W1.cell? ⟨w.heap.size, 0, none⟩ = some (.string d) ∧ W1.cell? ⟨w.heap.size, 1, none⟩ = some (.slice va vn vc) := by
    have := heap_alloc_new w (.cells #[.string d, .slice va vn vc] 28)
    rw [HW1.out] at this
    exact ⟨by simp [World.cell?, this], by simp [World.cell?, this]⟩
  obtain ⟨e0, e1⟩ := e0
  go_wp2_with (first
    | (go_at_call 69; refine (HV.out).mono ?_; rintro e w2 ⟨u, rfl, hown, hb2⟩; have HB2 := Lib.hid (bthen HB1.out hb2); have HU := Lib.hid (ownS_isT hown (by have := HFl.out; unfold maxLen; omega)); clear hown hb2)
    | (go_at_call 81; refine (HC.out _ _ HB2.out HU.out).mono ?_; rintro e w3 ⟨rfl, hb3⟩; have HB3 := Lib.hid (bthen HB2.out hb3); clear hb3))
  go_ret
  exact ⟨rfl, HB3.out⟩
set_option maxRecDepth 100000 in
set_option maxHeartbeats 4000000 in
theorem mayAsk_any (k : Int) (T X : ByteArray) (x3 x4 : Value) (hX : X.size ≤ 281474976710656) (s3 : ∃ a n c, x3 = .slice a n c) (s4 : ∃ a n c, x4 = .slice a n c) (w : World) (hw : LaidW w) :
    Calls Tryz.prog 49 #[.agg #[.int .i64 k, .string T, .string X, x3, x4]] w fun e w' => e = .returned (.bool (askE k T.data.toList X.data.toList)) ∧ Below w.heap.size w w' := by
  obtain ⟨a3, n3, c3, rfl⟩ := s3
  obtain ⟨a4, n4, c4, rfl⟩ := s4
  obtain ⟨W1, hW1⟩ : ∃ W, W = w.alloc (.cells #[.int .i64 k, .string T, .string X, .slice a3 n3 c3, .slice a4 n4 c4] 25) := ⟨_, rfl⟩
  have hb1 : Below w.heap.size w W1 := by rw [hW1]; exact box5 w _ _ _ _ _
  have hf : FlAt W1 w.heap.size (.int .i64 k) (.string T) (.string X) (.slice a3 n3 c3) (.slice a4 n4 c4) := by rw [hW1]; exact heap_alloc_new w _
  obtain ⟨d0, d1, d2, d3, d4⟩ := fl_cells hf
  have HW1 := Lib.hid hW1.symm
  have HB1 := Lib.hid hb1
  have HNm := Lib.hid (norm_any T X W1 (hw.below hb1))
  have HLs := Lib.hid (lessFl_any T X X hX hX W1 (hw.below hb1))
  have HRu := Lib.hid (rule_any T W1)
  have HCa := Lib.hid (canon_any T W1)
  obtain ⟨R, hR⟩ : ∃ R, R = askE k T.data.toList X.data.toList := ⟨_, rfl⟩
  rw [← hR]
  unfold askE at hR
  have HR := Lib.hid hR
  clear hW1 hb1 hf hR hw
  by_cases k4 : k = 4
  · have t4 : ((k : Int) == 4) = true := by simp [k4]
    have HR2 : Hid (R = (normD (ruleD T.data.toList) X.data.toList).isSome) := Lib.hid (by rw [HR.out, if_pos k4])
    obtain ⟨o, ho⟩ : ∃ o, o = normD (ruleD T.data.toList) X.data.toList := ⟨_, rfl⟩
    rw [← ho] at HNm HR2
    clear ho k4
    cases o with
    | none =>
      go_enter Tryz.func49, Tryz.ntmps49
      go_upto_region 1 with (fail)
      rw [HW1.out]
      go_wp2_with (go_at_call 59; refine (HNm.out).mono ?_; rintro e w2 ⟨rfl, hb2⟩; have HB2 := Lib.hid (bthen HB1.out hb2); clear hb2; unfold saidP)
      go_ret
      exact ⟨by rw [HR2.out]; rfl, HB2.out⟩
    | some y =>
      go_enter Tryz.func49, Tryz.ntmps49
      go_upto_region 1 with (fail)
      rw [HW1.out]
      go_wp2_with (go_at_call 59; refine (HNm.out).mono ?_; rintro e w2 ⟨rfl, hb2⟩; have HB2 := Lib.hid (bthen HB1.out hb2); clear hb2; unfold saidP)
      go_ret
      exact ⟨by rw [HR2.out]; rfl, HB2.out⟩
  · have t4 : ((k : Int) == 4) = false := by simp; omega
    by_cases k67 : k = 6 ∨ k = 7
    · have HR2 : Hid (R = (lessD (ruleD T.data.toList) X.data.toList X.data.toList).isSome) := Lib.hid (by rw [HR.out, if_neg k4, if_pos k67])
      obtain ⟨o, ho⟩ : ∃ o, o = lessD (ruleD T.data.toList) X.data.toList X.data.toList := ⟨_, rfl⟩
      rw [← ho] at HLs HR2
      clear ho
      obtain ⟨b6, t6⟩ : ∃ b, ((k : Int) == 6) = b := ⟨_, rfl⟩
      obtain ⟨b7, t7⟩ : ∃ b, ((k : Int) == 7) = b := ⟨_, rfl⟩
      have hor : b6 = true ∨ b7 = true := by rcases k67 with h | h <;> subst h <;> simp [← t6, ← t7]
      clear k4 k67
      cases b6 with
      | true =>
        clear hor
        cases o with
        | none =>
          go_enter Tryz.func49, Tryz.ntmps49
          go_upto_region 1 with (fail)
          rw [HW1.out]
          go_wp2_with (go_at_call 60; refine (HLs.out).mono ?_; rintro e w2 ⟨rfl, hb2⟩; have HB2 := Lib.hid (bthen HB1.out hb2); clear hb2; unfold lessV)
          go_ret
          exact ⟨by rw [HR2.out]; rfl, HB2.out⟩
        | some y =>
          go_enter Tryz.func49, Tryz.ntmps49
          go_upto_region 1 with (fail)
          rw [HW1.out]
          go_wp2_with (go_at_call 60; refine (HLs.out).mono ?_; rintro e w2 ⟨rfl, hb2⟩; have HB2 := Lib.hid (bthen HB1.out hb2); clear hb2; unfold lessV)
          go_ret
          exact ⟨by rw [HR2.out]; rfl, HB2.out⟩
      | false =>
        have hb7 : b7 = true := by simpa using hor
        subst hb7
        clear hor
        cases o with
        | none =>
          go_enter Tryz.func49, Tryz.ntmps49
          go_upto_region 1 with (fail)
          rw [HW1.out]
          go_wp2_with (go_at_call 60; refine (HLs.out).mono ?_; rintro e w2 ⟨rfl, hb2⟩; have HB2 := Lib.hid (bthen HB1.out hb2); clear hb2; unfold lessV)
          go_ret
          exact ⟨by rw [HR2.out]; rfl, HB2.out⟩
        | some y =>
          go_enter Tryz.func49, Tryz.ntmps49
          go_upto_region 1 with (fail)
          rw [HW1.out]
          go_wp2_with (go_at_call 60; refine (HLs.out).mono ?_; rintro e w2 ⟨rfl, hb2⟩; have HB2 := Lib.hid (bthen HB1.out hb2); clear hb2; unfold lessV)
          go_ret
          exact ⟨by rw [HR2.out]; rfl, HB2.out⟩
    · have t6 : ((k : Int) == 6) = false := by simp; omega
      have t7 : ((k : Int) == 7) = false := by simp; omega
      by_cases k5 : k = 5
      · have t5 : ((k : Int) == 5) = true := by simp [k5]
        have HR2 : Hid (R = decide (ruleD T.data.toList = 1)) := Lib.hid (by rw [HR.out, if_neg k4, if_neg k67, if_pos k5])
        obtain ⟨o, ho⟩ : ∃ o, o = ruleD T.data.toList := ⟨_, rfl⟩
        rw [← ho] at HRu HR2
        have HD : Hid (decide (o = 1) = ((o : Int) == 1)) := Lib.hid (by rw [Bool.eq_iff_iff]; simp; omega)
        clear ho k4 k5 k67
        go_enter Tryz.func49, Tryz.ntmps49
        go_upto_region 1 with (fail)
        rw [HW1.out]
        go_wp2_with (go_at_call 61; refine (HRu.out).mono ?_; rintro e w2 ⟨rfl, hb2⟩; have HB2 := Lib.hid (bthen HB1.out hb2); clear hb2)
        go_ret
        exact ⟨by rw [HR2.out, HD.out]; rfl, HB2.out⟩
      · have t5 : ((k : Int) == 5) = false := by simp; omega
        have HR2 : Hid (R = (canonD T.data.toList).isSome) := Lib.hid (by rw [HR.out, if_neg k4, if_neg k67, if_neg k5])
        obtain ⟨o, ho⟩ : ∃ o, o = canonD T.data.toList := ⟨_, rfl⟩
        rw [← ho] at HCa HR2
        clear ho k4 k5 k67
        cases o with
        | none =>
          go_enter Tryz.func49, Tryz.ntmps49
          go_upto_region 1 with (fail)
          rw [HW1.out]
          go_wp2_with (go_at_call 62; refine (HCa.out).mono ?_; rintro e w2 ⟨rfl, hb2⟩; have HB2 := Lib.hid (bthen HB1.out hb2); clear hb2; unfold canonV)
          go_ret
          exact ⟨by rw [HR2.out]; rfl, HB2.out⟩
        | some y =>
          go_enter Tryz.func49, Tryz.ntmps49
          go_upto_region 1 with (fail)
          rw [HW1.out]
          go_wp2_with (go_at_call 62; refine (HCa.out).mono ?_; rintro e w2 ⟨rfl, hb2⟩; have HB2 := Lib.hid (bthen HB1.out hb2); clear hb2; unfold canonV)
          go_ret
          exact ⟨by rw [HR2.out]; rfl, HB2.out⟩
theorem findA_short {L : List AT} {t : List UInt8} (hs : smallA L) : ∀ x ∈ findA L t, x.length ≤ 1000000 := by
  unfold findA
  intro x hx
  split at hx
  · rename_i a ha
    exact ((hs.2 a (List.mem_of_find?_eq_some ha)).2).2 x hx
  · cases hx
set_option maxRecDepth 100000 in
set_option maxHeartbeats 8000000 in
theorem fits_any (k : Int) (T X d : ByteArray) (p : List (List UInt8)) (L : List AT) (pa ka va : Option Addr) (n pc kn kc vn vc : Nat) (hX : X.size ≤ 1000000) (hn : n = p.length) (hp5 : k = 5 → 2 ≤ p.length) (hp3 : p.length ≤ 1000) (hpl : ∀ x ∈ p, x.length ≤ 1000000)
    (hs : smallA L) (w : World) (hw : LaidW w) (hx : LaidX w) (hp : IsTo (Lt w) w p (.slice pa n pc)) (h : IsA w.heap.size w L (.slice va vn vc)) :
    Calls Tryz.prog 50 #[.agg #[.int .i64 k, .string T, .string X, .slice pa n pc, .slice ka kn kc], .agg #[.string d, .slice va vn vc]] w fun e w' => e = .returned (.bool (fitE L k T.data.toList X.data.toList p)) ∧ Below w.heap.size w w' := by
  have hmf : ∀ (fn : Fn) (first cap : Array Value) (w : World), (Instr.makeFunc fn first cap).run Tryz.prog w = .ok (.func fn first cap) w := fun _ _ _ _ => rfl
  obtain ⟨W0, hW0⟩ : ∃ W, W = w.alloc (.cells #[.int .i64 k, .string T, .string X, .slice pa n pc, .slice ka kn kc] 25) := ⟨_, rfl⟩
  obtain ⟨W1, hW1⟩ : ∃ W, W = W0.alloc (.cells #[.string d, .slice va vn vc] 28) := ⟨_, rfl⟩
  have hb0 : Below w.heap.size w W0 := by rw [hW0]; exact box5 w _ _ _ _ _
  have hb01 : Below W0.heap.size W0 W1 := by rw [hW1]; exact (Below.refl _ _).alloc (Nat.le_refl _) _
  have hb1 : Below w.heap.size w W1 := bthen hb0 hb01
  have hf0 : FlAt W0 w.heap.size (.int .i64 k) (.string T) (.string X) (.slice pa n pc) (.slice ka kn kc) := by rw [hW0]; exact heap_alloc_new w _
  have hf : FlAt W1 w.heap.size (.int .i64 k) (.string T) (.string X) (.slice pa n pc) (.slice ka kn kc) := fl_below hf0 hb01 (fl_lt hf0)
  obtain ⟨eb, heb⟩ : ∃ b, b = w.heap.size + 1 := ⟨_, rfl⟩
  have hsz : W0.heap.size = eb := by rw [heb, hW0]; simp only [World.alloc, Array.size_push]
  have he : W1.heap[eb]? = some (.cells #[.string d, .slice va vn vc] 28 (0, 0)) := by rw [← hsz, hW1]; exact heap_alloc_new W0 _
  have hebl : eb < W1.heap.size := (Array.getElem?_eq_some_iff.1 he).1
  have hE : ∀ W, SamB W1 W → W.cell? ⟨w.heap.size, 0, none⟩ = some (.int .i64 k) ∧ W.cell? ⟨w.heap.size, 1, none⟩ = some (.string T) ∧ W.cell? ⟨w.heap.size, 2, none⟩ = some (.string X) ∧ W.cell? ⟨w.heap.size, 3, none⟩ = some (.slice pa n pc) ∧ W.cell? ⟨w.heap.size, 4, none⟩ = some (.slice ka kn kc) ∧ W.cell? ⟨eb, 0, none⟩ = some (.string d) ∧ W.cell? ⟨eb, 1, none⟩ = some (.slice va vn vc) ∧ SamB W1 W := fun W hW => by
    obtain ⟨a0, a1, a2, a3, a4⟩ := fl_cells (fl_below hf hW (fl_lt hf))
    have := (Below.block hW eb hebl).trans he
    exact ⟨a0, a1, a2, a3, a4, by simp [World.cell?, this], by simp [World.cell?, this], hW⟩
  have hA1 : IsA W1.heap.size W1 L (.slice va vn vc) := h.below hb1 hb1.size
  have HE := Lib.hid hE
  have HW0 := Lib.hid hW0.symm
  have HW1 := Lib.hid hW1.symm
  have HEb := Lib.hid heb.symm
  have HB1 := Lib.hid hb1
  have hw1 := hw.below hb1
  have hx1 := hx.below hb1
  have hp1 : IsTo (Lt W1) W1 p (.slice pa n pc) := hp.imp (fun b h => Nat.lt_of_lt_of_le h hb1.size) (fun b o h => hb1.cell (p := ⟨b, o, none⟩) h)
  have hsv := findA_short (t := T.data.toList) hs
  have HHas := Lib.hid (has_any d T X L hs (.slice va vn vc) W1 hw1 hA1)
  have HG := Lib.hid (someG_any d T L hs va vn vc w.heap.size (fun v => aboveE (ruleD T.data.toList) v X.data.toList) W1 hA1 (fun V W hW hm => askG_any T X V (.int .i64 k) (.slice pa n pc) (.slice ka kn kc) w.heap.size (by omega) (by have := hsv _ hm; rw [bytes_len] at this; omega) W (hw1.below hW) (fl_below hf hW (fl_lt hf))))
  have HLl := Lib.hid (someL_any d T L hs va vn vc w.heap.size (fun v => aboveE (ruleD T.data.toList) X.data.toList v) W1 hA1 (fun V W hW hm => askL_any T X V (.int .i64 k) (.slice pa n pc) (.slice ka kn kc) w.heap.size (by omega) (by have := hsv _ hm; rw [bytes_len] at this; omega) W (hw1.below hW) (fl_below hf hW (fl_lt hf))))
  have HPr := Lib.hid (fun (W : World) (hW : SamB W1 W) => hasParts_any k T X p pa ka n pc kn kc W hn (by omega) hpl (hp1.imp (fun b h => Nat.lt_of_lt_of_le h (Below.size hW)) (fun b o h => Below.cell (p := ⟨b, o, none⟩) hW h)))
  have HSo := Lib.hid (fun (h5 : k = 5) (N : Nat) (W wx : World) (v : Value) (hN : N = W.heap.size) (hW : SamB W1 wx) (hP : PrtAt W wx (.int .i64 k) (.string T) (.string X) (.slice pa n pc) (.slice ka kn kc) v (p.map low)) => someP_any d T L hs va vn vc N (N + 1) (partsE (ruleD T.data.toList) p) wx (hA1.below hW (Below.size hW)) (fun V W' hW' hm => askParts_any k T X V p _ _ _ _ v (p.map low) W wx W' (hw1.below (bthen hW hW')) (hx1.below (bthen hW hW')) hP hW' rfl (hp5 h5) hp3 hpl (by have := hsv _ hm; rw [bytes_len] at this; omega) hN (by rw [hN])))
  have HV := Lib.hid (vals_any d L hs (.slice va vn vc) T W1 hA1)
  obtain ⟨R, hR⟩ : ∃ R, R = fitE L k T.data.toList X.data.toList p := ⟨_, rfl⟩
  rw [← hR]
  unfold fitE at hR
  have HR := Lib.hid hR
  have hst5 := hE W1 (Below.refl _ _)
  have hst6 := hE W1.drew (Below.drew (Below.refl _ _))
  obtain ⟨d0, d1, d2, d3, d4, e0, e1, _⟩ := hE W1 (Below.refl _ _)
  clear hW0 hW1 hb0 hb01 hb1 hf0 hf heb hsz he hebl hE hA1 hw1 hx1 hp1 hsv hR hs hw hx hp h hpl hp3 hX hn
  by_cases k4 : k = 4
  · have t4 : ((k : Int) == 4) = true := by simp [k4]
    have HR2 : Hid (hasA L T.data.toList X.data.toList = R) := Lib.hid (by rw [HR.out, if_pos k4])
    rw [HR2.out] at HHas
    clear k4 hp5 hst5 hst6
    go_enter Tryz.func50, Tryz.ntmps50
    go_upto_region 1 with (fail)
    rw [HW0.out, HW1.out, HEb.out]
    go_wp2_with (go_at_call 63; refine (HHas.out).mono ?_; rintro e w2 ⟨rfl, hb2⟩; have HB2 := Lib.hid (bthen HB1.out hb2); clear hb2)
    go_ret
    exact ⟨rfl, HB2.out⟩
  · have t4 : ((k : Int) == 4) = false := by simp; omega
    by_cases k6 : k = 6
    · have t6 : ((k : Int) == 6) = true := by simp [k6]
      have HR2 : Hid ((findA L T.data.toList).any (fun v => aboveE (ruleD T.data.toList) v X.data.toList) = R) := Lib.hid (by rw [HR.out, if_neg k4, if_pos k6])
      rw [HR2.out] at HG
      clear k4 k6 hp5 hst5 hst6
      go_enter Tryz.func50, Tryz.ntmps50
      go_upto_region 1 with (fail)
      rw [HW0.out, HW1.out, HEb.out]
      go_wp2_with (go_at_call 64; refine (HG.out).mono ?_; rintro e w2 ⟨rfl, hb2⟩; have HB2 := Lib.hid (bthen HB1.out hb2); clear hb2)
      go_ret
      exact ⟨rfl, HB2.out⟩
    · have t6 : ((k : Int) == 6) = false := by simp; omega
      by_cases k7 : k = 7
      · have t7 : ((k : Int) == 7) = true := by simp [k7]
        have HR2 : Hid ((findA L T.data.toList).any (fun v => aboveE (ruleD T.data.toList) X.data.toList v) = R) := Lib.hid (by rw [HR.out, if_neg k4, if_neg k6, if_pos k7])
        rw [HR2.out] at HLl
        clear k4 k6 k7 hp5 hst5 hst6
        go_enter Tryz.func50, Tryz.ntmps50
        go_upto_region 1 with (fail)
        rw [HW0.out, HW1.out, HEb.out]
        go_wp2_with (go_at_call 64; refine (HLl.out).mono ?_; rintro e w2 ⟨rfl, hb2⟩; have HB2 := Lib.hid (bthen HB1.out hb2); clear hb2)
        go_ret
        exact ⟨rfl, HB2.out⟩
      · have t7 : ((k : Int) == 7) = false := by simp; omega
        by_cases k5 : k = 5
        · have t5 : ((k : Int) == 5) = true := by simp [k5]
          have HR2 : Hid ((findA L T.data.toList).any (partsE (ruleD T.data.toList) p) = R) := Lib.hid (by rw [HR.out, if_neg k4, if_neg k6, if_neg k7, if_pos k5])
          have HK := Lib.hid k5
          clear k4 k5 k6 k7 hp5
          go_enter Tryz.func50, Tryz.ntmps50
          go_upto_region 1 with (fail)
          rw [HW0.out, HW1.out, HEb.out]
          go_upto_region 9 with (fail)
          go_region_held3 (fun W => W.cell? ⟨w.heap.size, 0, none⟩ = some (.int .i64 k) ∧ W.cell? ⟨w.heap.size, 1, none⟩ = some (.string T) ∧ W.cell? ⟨w.heap.size, 2, none⟩ = some (.string X) ∧ W.cell? ⟨w.heap.size, 3, none⟩ = some (.slice pa n pc) ∧ W.cell? ⟨w.heap.size, 4, none⟩ = some (.slice ka kn kc) ∧ W.cell? ⟨eb, 0, none⟩ = some (.string d) ∧ W.cell? ⟨eb, 1, none⟩ = some (.slice va vn vc) ∧ SamB W1 W)
            (first | (with_reducible exact hst5) | (with_reducible exact hst6) | (go_split_ands; exact HE.out _ (SamB.go (by assumption) hbx)))
            (first
              | (go_at_call 68; go_split_ands; (with_reducible refine (HPr.out _ (by assumption)).mono ?_); rintro e wx ⟨v, rfl, hprt⟩; have hbx := hprt.bel; have HPt := Lib.hid hprt; clear hprt)
              | (go_at_call 64; go_split_ands; (with_reducible refine (HSo.out HK.out W1.heap.size W1.drew wx v rfl (by assumption) HPt.out).mono ?_); rintro e wy ⟨rfl, hbx⟩))
          all_goals
            go_split_ands
            have hT : SamB W1 wy := by assumption
            go_wp2
            go_ret
            exact ⟨by rw [← HR2.out]; rfl, bthen HB1.out hT⟩
        · have t5 : ((k : Int) == 5) = false := by simp; omega
          have HR2 : Hid (decide (0 < (findA L T.data.toList).length) = R) := Lib.hid (by rw [HR.out, if_neg k4, if_neg k6, if_neg k7, if_neg k5])
          obtain ⟨m, hm⟩ : ∃ m, m = (findA L T.data.toList).length := ⟨_, rfl⟩
          rw [← hm] at HR2
          have HM := Lib.hid hm
          clear k4 k5 k6 k7 hp5 hst5 hst6 hm
          go_enter Tryz.func50, Tryz.ntmps50
          go_upto_region 1 with (fail)
          rw [HW0.out, HW1.out, HEb.out]
          go_wp2_with (go_at_call 69; refine (HV.out).mono ?_; rintro e w2 ⟨u, rfl, hu, hb2⟩; (obtain ⟨ua, uc, hue⟩ := ownS_slice hu); rw [← HM.out] at hue; subst hue; have HB2 := Lib.hid (bthen HB1.out hb2); clear hb2 hu)
          go_ret
          exact ⟨by rw [← HR2.out]; simp, HB2.out⟩
set_option maxRecDepth 100000 in
set_option maxHeartbeats 4000000 in
theorem leafEv_any (k : Int) (T X d : ByteArray) (p : List (List UInt8)) (L : List AT) (pa ka va : Option Addr) (n pc kn kc vn vc : Nat) (hX : X.size ≤ 1000000) (hn : n = p.length) (hp5 : k = 5 → 2 ≤ p.length) (hp3 : p.length ≤ 1000) (hpl : ∀ x ∈ p, x.length ≤ 1000000)
    (hs : smallA L) (w : World) (hw : LaidW w) (hx : LaidX w) (hp : IsTo (Lt w) w p (.slice pa n pc)) (h : IsA w.heap.size w L (.slice va vn vc)) :
    Calls Tryz.prog 36 #[.agg #[.int .i64 k, .string T, .string X, .slice pa n pc, .slice ka kn kc], .agg #[.string d, .slice va vn vc]] w fun e w' => e = .returned (.int .i64 (leafE L k T.data.toList X.data.toList p : Nat)) ∧ Below w.heap.size w w' := by
  obtain ⟨W0, hW0⟩ : ∃ W, W = w.alloc (.cells #[.int .i64 k, .string T, .string X, .slice pa n pc, .slice ka kn kc] 25) := ⟨_, rfl⟩
  obtain ⟨W1, hW1⟩ : ∃ W, W = W0.alloc (.cells #[.string d, .slice va vn vc] 28) := ⟨_, rfl⟩
  have hb0 : Below w.heap.size w W0 := by rw [hW0]; exact box5 w _ _ _ _ _
  have hb01 : Below W0.heap.size W0 W1 := by rw [hW1]; exact (Below.refl _ _).alloc (Nat.le_refl _) _
  have hb1 : Below w.heap.size w W1 := bthen hb0 hb01
  have hf0 : FlAt W0 w.heap.size (.int .i64 k) (.string T) (.string X) (.slice pa n pc) (.slice ka kn kc) := by rw [hW0]; exact heap_alloc_new w _
  have hf : FlAt W1 w.heap.size (.int .i64 k) (.string T) (.string X) (.slice pa n pc) (.slice ka kn kc) := fl_below hf0 hb01 (fl_lt hf0)
  obtain ⟨eb, heb⟩ : ∃ b, b = w.heap.size + 1 := ⟨_, rfl⟩
  have hsz : W0.heap.size = eb := by rw [heb, hW0]; simp only [World.alloc, Array.size_push]
  have he : W1.heap[eb]? = some (.cells #[.string d, .slice va vn vc] 28 (0, 0)) := by rw [← hsz, hW1]; exact heap_alloc_new W0 _
  have hebl : eb < W1.heap.size := (Array.getElem?_eq_some_iff.1 he).1
  have hE : ∀ W, Below W1.heap.size W1 W → FlAt W w.heap.size (.int .i64 k) (.string T) (.string X) (.slice pa n pc) (.slice ka kn kc) ∧ W.cell? ⟨eb, 0, none⟩ = some (.string d) ∧ W.cell? ⟨eb, 1, none⟩ = some (.slice va vn vc) := fun W hW => by
    have := (Below.block hW eb hebl).trans he
    exact ⟨fl_below hf hW (fl_lt hf), by simp [World.cell?, this], by simp [World.cell?, this]⟩
  have HE := Lib.hid hE
  have HW0 := Lib.hid hW0.symm
  have HW1 := Lib.hid hW1.symm
  have HEb := Lib.hid heb.symm
  have HB1 := Lib.hid hb1
  have HM := Lib.hid (mayAsk_any k T X (.slice pa n pc) (.slice ka kn kc) (by omega) ⟨_, _, _, rfl⟩ ⟨_, _, _, rfl⟩ W1 (hw.below hb1))
  have HF := Lib.hid (fun (W : World) (hW : Below W1.heap.size W1 W) => fits_any k T X d p L pa ka va n pc kn kc vn vc hX hn hp5 hp3 hpl hs W (hw.below (bthen hb1 hW)) (hx.below (bthen hb1 hW)) (hp.imp (fun b h => Nat.lt_of_lt_of_le h (bthen hb1 hW).size) (fun b o h => (bthen hb1 hW).cell (p := ⟨b, o, none⟩) h)) (h.below (bthen hb1 hW) (bthen hb1 hW).size))
  obtain ⟨R, hR⟩ : ∃ R, R = leafE L k T.data.toList X.data.toList p := ⟨_, rfl⟩
  rw [← hR]
  unfold leafE at hR
  obtain ⟨a, ha⟩ : ∃ a, a = askE k T.data.toList X.data.toList := ⟨_, rfl⟩
  obtain ⟨f, hff⟩ : ∃ a, a = fitE L k T.data.toList X.data.toList p := ⟨_, rfl⟩
  rw [← ha] at HM
  rw [← hff] at HF
  rw [← ha, ← hff] at hR
  obtain ⟨hf1, e0, e1⟩ := hE W1 (Below.refl _ _)
  obtain ⟨d0, d1, d2, d3, d4⟩ := fl_cells hf1
  have HR := Lib.hid hR
  clear hW0 hW1 hb0 hb01 hb1 hf0 hf heb hsz he hebl hE hR hs hw hx hp h hpl hp3 hX hp5 hf1 ha hff hn
  cases a with
  | false =>
    go_enter Tryz.func36, Tryz.ntmps36
    go_upto_region 1 with (fail)
    rw [HW0.out, HW1.out, HEb.out]
    go_wp2_with (go_at_call 49; refine (HM.out).mono ?_; rintro e w2 ⟨rfl, hb2⟩; have HB2 := Lib.hid (bthen HB1.out hb2); clear hb2)
    go_ret
    exact ⟨by rw [HR.out]; rfl, HB2.out⟩
  | true =>
    cases f with
    | false =>
      go_enter Tryz.func36, Tryz.ntmps36
      go_upto_region 1 with (fail)
      rw [HW0.out, HW1.out, HEb.out]
      go_wp2_with (first
        | (go_at_call 49; refine (HM.out).mono ?_; rintro e w2 ⟨rfl, hb2⟩; have HX2 := Lib.hid hb2; have HB2 := Lib.hid (bthen HB1.out hb2); (obtain ⟨hf2, g0, g1⟩ := HE.out _ hb2); (obtain ⟨q0, q1, q2, q3, q4⟩ := fl_cells hf2); clear hb2 hf2)
        | (go_at_call 50; refine (HF.out _ HX2.out).mono ?_; rintro e w3 ⟨rfl, hb3⟩; have HB3 := Lib.hid (bthen HB2.out hb3); clear hb3))
      go_ret
      exact ⟨by rw [HR.out]; rfl, HB3.out⟩
    | true =>
      go_enter Tryz.func36, Tryz.ntmps36
      go_upto_region 1 with (fail)
      rw [HW0.out, HW1.out, HEb.out]
      go_wp2_with (first
        | (go_at_call 49; refine (HM.out).mono ?_; rintro e w2 ⟨rfl, hb2⟩; have HX2 := Lib.hid hb2; have HB2 := Lib.hid (bthen HB1.out hb2); (obtain ⟨hf2, g0, g1⟩ := HE.out _ hb2); (obtain ⟨q0, q1, q2, q3, q4⟩ := fl_cells hf2); clear hb2 hf2)
        | (go_at_call 50; refine (HF.out _ HX2.out).mono ?_; rintro e w3 ⟨rfl, hb3⟩; have HB3 := Lib.hid (bthen HB2.out hb3); clear hb3))
      go_ret
      exact ⟨by rw [HR.out]; rfl, HB3.out⟩
end Go.Proofs.YtdgnefcpeocbjaaGreatDoor


namespace Go.Proofs.YtdgnefcpeocbjaaGreatDoor
open Go.RowKit
set_option linter.unusedVariables false
set_option linter.unusedSimpArgs false

def sgA : Nat → List UInt8
  | 0 => [61]
  | 1 => [62, 61]
  | _ => [60, 61]
def kdA : Nat → Int
  | 0 => 4
  | 1 => 6
  | _ => 7
end Go.Proofs.YtdgnefcpeocbjaaGreatDoor


namespace Go.Proofs.YtdgnefcpeocbjaaGreatDoor
open Go.RowKit
set_option linter.unusedVariables false
set_option linter.unusedSimpArgs false

theorem mkFl {ok : Nat → Prop} {w : World} {k : Int} {t x : List UInt8} {p : List (List UInt8)} {u : Value} (hk : 4 ≤ k ∧ k ≤ 8) (ht : t.length ≤ maxLen) (hx : x.length ≤ maxLen) (hu : IsTo ok w p u) :
    IsFl ok w (.mk k t x p []) (.agg #[.int .i64 k, strV t, strV x, u, .slice none 0 0]) := by
  have hw : (Lit.int .i64 k).wf = true := by
    have := hk.1
    have := hk.2
    have h5 : k = 4 ∨ k = 5 ∨ k = 6 ∨ k = 7 ∨ k = 8 := by omega
    rcases h5 with rfl | rfl | rfl | rfl | rfl <;> rfl
  exact ⟨u, none, 0, rfl, hw, ht, hx, hu, by simp, trivial⟩
def FlV (B : Nat) (w : World) (o : Option FT) (x : Value) (b : Bool) : Prop := match o with
  | none => x = .agg #[.int .i64 0, .string ⟨#[]⟩, .string ⟨#[]⟩, .slice none 0 0, .slice none 0 0] ∧ b = false
  | some f => IsFl (fun k => B ≤ k ∧ k < w.heap.size) w f x ∧ b = true
theorem fl_set1 {W : World} {b : Nat} {y0 y1 y2 y3 y4 : Value} (h : FlAt W b y0 y1 y2 y3 y4) (x1 : Value) : FlAt (W.setCell ⟨b, 1, none⟩ x1) b y0 x1 y2 y3 y4 := by
  have h' : W.heap[b]? = some (.cells #[y0, y1, y2, y3, y4] 25 (0, 0)) := h
  show (W.setCell ⟨b, 1, none⟩ x1).heap[b]? = _
  simp [World.setCell, Array.getElem?_modify, h']
theorem fl_setC {W : World} {b k o : Nat} {x0 x1 x2 x3 x4 : Value} (h : k ≠ b) : (set5F W b x0 x1 x2 x3 x4).cell? ⟨k, o, none⟩ = W.cell? ⟨k, o, none⟩ := by
  unfold World.cell?
  rw [fl_setO h]
end Go.Proofs.YtdgnefcpeocbjaaGreatDoor


namespace Go.Proofs.YtdgnefcpeocbjaaGreatDoor
open Go.RowKit
set_option linter.unusedVariables false
set_option linter.unusedSimpArgs false

set_option maxRecDepth 100000 in
theorem loadFl_any (b o : Nat) (x : Int) (w : World) (h : w.cell? ⟨b, o, none⟩ = some (.int .i64 x)) : Calls Tryz.prog 48 #[.pointer (some ⟨b, o, none⟩)] w fun e w' => e = .returned (.int .i64 x) ∧ w' = w := by
  have hl := run_call_load (P := Tryz.prog) Tryz.func58 (by kernel_rfl) (by kernel_rfl) (by kernel_rfl) .i64 (by kernel_rfl) (a := ⟨b, o, none⟩) (x := x) (w := w) h
  go_enter Tryz.func48, Tryz.ntmps48
  go_wp2
  go_ret
  exact ⟨rfl, rfl⟩
set_option maxRecDepth 100000 in
theorem addFl_any (b o : Nat) (x : Int) (hx : 0 ≤ x) (hx2 : x ≤ 1000000000) (w : World) (h : w.cell? ⟨b, o, none⟩ = some (.int .i64 x)) (hz : w.frozen? ⟨b, o, none⟩ = false) : Calls Tryz.prog 47 #[.pointer (some ⟨b, o, none⟩), .int .i64 1] w fun e w' => e = .returned (.int .i64 (x + 1)) ∧ w' = w.setCell ⟨b, o, none⟩ (.int .i64 (x + 1)) := by
  have hl := run_call_add (P := Tryz.prog) Tryz.func57 (by kernel_rfl) (by kernel_rfl) (by kernel_rfl) .i64 (by kernel_rfl) (a := ⟨b, o, none⟩) (x := x) (y := 1) (s := x + 1) (w := w) h hz (by
    show Sem.run _ (pure (Value.int .i64 (IntKind.i64.wrap (x + 1)))) w = _
    rw [IntKind.wrap_i64, show (x + 1 + 9223372036854775808) % 18446744073709551616 - 9223372036854775808 = x + 1 from by omega]
    rfl)
  go_enter Tryz.func47, Tryz.ntmps47
  go_wp2
  go_ret
  exact ⟨rfl, rfl⟩

def HdV (B : Nat) (w : World) (o : Option (FT × List UInt8)) (x : Value) (r : ByteArray) (b : Bool) : Prop := match o with
  | none => x = .agg #[.int .i64 0, .string ⟨#[]⟩, .string ⟨#[]⟩, .slice none 0 0, .slice none 0 0] ∧ b = false
  | some (f, q) => IsFl (fun k => B ≤ k ∧ k < w.heap.size) w f x ∧ r.data.toList = q ∧ b = true
abbrev zF : Obj := .cells #[.int .i64 0, .string ⟨#[]⟩, .string ⟨#[]⟩, .slice none 0 0, .slice none 0 0] 25
end Go.Proofs.YtdgnefcpeocbjaaGreatDoor

