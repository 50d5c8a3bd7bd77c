/- Several texts in one file: RefParseW, RefKeyW, MaRefM, MaRefL, ScVals, ScPure, ScOwn, ScRow, ScClass, ScFind, ScCls, ScCat, ScIdx, ScVal, ScSound, ScClassed. -/
import Derived.Test.YtdgnefcpeocbjaaGreatDoorEvaP3
import Derived.Test.YtdgnefcpeocbjaaGreatDoorEvaP1
import Derived.Deep.RegionLaw
import Derived.RegionTactic
import Derived.BigRegion
import Derived.Deep.RegionHeld3
import Derived.Test.YtdgnefcpeocbjaaGreatDoorEnFind
import Derived.Lib.Fields
import Derived.Lib.SlicesCompact
import Derived.Sort.KeysCollected
import Derived.Test.YtdgnefcpeocbjaaGreatDoorEnOwn
import Derived.Sort.OwnSorted
import Derived.BigQuiet
import Derived.Test.YtdgnefcpeocbjaaGreatDoorDnParse
import Derived.Lib.AppendZerosOnto
import Derived.Deep.Upon
/- The document's ParseDn: the walk itself. -/
namespace Go.Proofs.YtdgnefcpeocbjaaGreatDoor
open Go.RowKit
set_option linter.unusedVariables false

theorem ownR_base {B B' : Nat} {w : World} {v : Value} {l : List R} (h : OwnR B w v l) (hb : B' ≤ B) : OwnR B' w v l := by
  obtain ⟨h1, h2⟩ := h
  refine ⟨h1, ?_⟩
  rcases h2 with h2 | ⟨g, cap, cur, hv, hg, r⟩
  · exact .inl h2
  · exact .inr ⟨g, cap, cur, hv, Nat.le_trans hb hg, r⟩
theorem ownR_stored {B b : Nat} {w : World} {v : Value} {l : List R} (h : OwnR B w v l) (hb : b < B) (x y : Value) : OwnR B ((w.setCell ⟨b, 0, none⟩ x).setCell ⟨b, 1, none⟩ y) v l := by
  have hne : v.ownBlock ≠ some b := by
    intro e
    have := (World.ownsRow.lt h b e).1
    omega
  exact ownsRow_setCell_other (a := ⟨b, 1, none⟩) (ownsRow_setCell_other (a := ⟨b, 0, none⟩) h hne x) hne y

set_option maxRecDepth 100000 in
set_option maxHeartbeats 8000000 in
theorem parseRef_any (s : ByteArray) (hs : s.size ≤ 100000) (w : World) : Calls Tryz.prog 70 #[.string s] w (PRef w (parseD s.data.toList)) := by
  have HBox := Lib.hid (boxD_new w (.slice none 0 0) false)
  have hbb : Below w.heap.size w (w.alloc (.cells #[.slice none 0 0, .bool false] 98)) := (Below.refl _ _).alloc (Nat.le_refl _) _
  have HBB := Lib.hid hbb
  clear hbb
  by_cases hne : s.data.toList = []
  · obtain ⟨e1, e2⟩ := bytes_nil hne
    have hp : parseD s.data.toList = some [] := by rw [hne]; rfl
    rw [hp]
    obtain ⟨c0, c1, f0, f1⟩ := HBox.out.cells
    clear hp hne
    go_enter Tryz.func70, Tryz.ntmps70
    go_wp2
    obtain ⟨d0, d1, _, _⟩ := (HBox.out.store (.slice none 0 0) true).cells
    refine bodyPost_ret (v := .agg #[.slice none 0 0, .bool true]) (by simp [results, Tryz.results70, go_sem]) rfl ⟨(Below.refl _ _).alloc (Nat.le_refl _) _, _, rfl, none, 0, rfl, Nat.zero_le _, fun j hj => absurd hj (by simp)⟩
  obtain ⟨e1, e2⟩ := bytes_some hne
  have hpre := parse_pre hne
  have hnone := fun p => parse_none (p := p) hne
  have hcut := fun w => cutRef_any s hs w
  have hple := fun p => partsD_le (l := s.data.toList) (p := p)
  have hplen : (partsD s.data.toList).length ≤ s.size + 2 := by
    have := partsN_len (s.data.toList.length + 1) s.data.toList
    rw [bytes_len] at this
    unfold partsD
    rw [bytes_len]; omega
  obtain ⟨P, hP⟩ : ∃ P, P = partsD s.data.toList := ⟨_, rfl⟩
  simp only [← hP] at hpre hnone hcut hple hplen
  obtain ⟨res, hres⟩ : ∃ res, res = parseD s.data.toList := ⟨_, rfl⟩
  rw [← hres] at hpre hnone ⊢
  have HPre := Lib.hid hpre
  have HNone := Lib.hid hnone
  have HCut := Lib.hid hcut
  have HPle := Lib.hid hple
  clear hne hpre hnone hcut hP hres hple
  go_enter Tryz.func70, Tryz.ntmps70
  go_wp2_with (go_at_call 89; refine (HCut.out _).mono ?_; rintro e w2 ⟨u, rfl, hown2, hb2⟩; obtain ⟨pa, pc, rfl⟩ := ownS_slice hown2; have HP2 := Lib.hid hown2; have HB2 := Lib.hid hb2; have HX2 := Lib.hid (HBox.out.below hb2 (by simp)); clear hown2 hb2)
  have hbw2 : w.heap.size < w2.heap.size := by have := HB2.out.size; simp at this; omega
  have hw2 : Below w.heap.size w w2 := HBB.out.trans (HB2.out.mono (by simp))
  have HW2 := Lib.hid hw2
  clear hw2 e1 e2
  go_loopw [3, 5] (fun v i wr => ∃ (j : Nat) (L : List R), i = .int .i64 j ∧ j ≤ P.length ∧ L.length = j ∧ allO (P.take j) = some L ∧ OwnR w2.heap.size wr v L ∧ Below w2.heap.size w2 wr) (fun _ i _ => P.length - (intOf i).toNat)
  case atStart => exact ⟨0, [], rfl, Nat.zero_le _, rfl, rfl, ownR_nil _ _, Below.refl _ _⟩
  case round =>
    obtain ⟨j, L, rfl, hj, hLj, hall, hown, hbel⟩ := hrel
    obtain ⟨a, cp, rfl⟩ := ownR_slice hown
    have HLj := Lib.hid hLj
    have hll : L.length ≤ P.length := by omega
    clear hLj
    have HBel := Lib.hid hbel
    have hbs := hbel.size
    have HOwn := Lib.hid hown
    have HX := Lib.hid (HX2.out.below hbel hbw2)
    by_cases hlt : j < P.length
    · have t1 : decide ((j : Int) < (P.length : Int)) = true := by simp; omega
      have t1' : decide (j < P.length) = true := by simpa using hlt
      obtain ⟨g, pc', hv, _, hg2, hcell⟩ := ownS_at HP2.out (by intro e; rw [e] at hlt; simp at hlt)
      simp only [Value.slice.injEq, true_and] at hv
      obtain ⟨rfl, rfl⟩ := hv
      obtain ⟨X, hX⟩ : ∃ X : ByteArray, X = ⟨P[j].toArray⟩ := ⟨_, rfl⟩
      have hXl : X.data.toList = P[j] := by rw [hX]
      have d0 : wr.cell? ⟨g, j, none⟩ = some (.string X) := by rw [hbel.cell (p := ⟨g, _, none⟩) hg2, hcell j hlt, hX]; rfl
      have hmem : X.data.toList ∈ P := by rw [hXl]; exact List.getElem_mem hlt
      have hXs : X.size ≤ 100000 := by
        have := HPle.out _ hmem
        rw [bytes_len, bytes_len] at this; omega
      have hsnoc : ∀ r, preD X.data.toList = some r → allO (P.take (j + 1)) = some (L ++ [r]) := fun r hr => by
        rw [List.take_succ_eq_append_getElem hlt, ← hXl]
        exact allO_snoc _ _ _ _ hall hr
      have hno : preD X.data.toList = none → res = none := fun h => HNone.out _ hmem h
      have HSnoc := Lib.hid hsnoc
      have HNo := Lib.hid hno
      have hg1 : (j : Int) < (P.length : Int) := by omega
      clear hcell hX hXl hmem hall hown hbel hsnoc hno
      go_wp2
      go_loop [6] (fun x => ∃ k : Nat, x = .int .i64 k ∧ k ≤ X.size ∧ ∀ y ∈ X.data.toList.take k, y ≠ 61) (fun x => X.size - (intOf x).toNat)
      case atStart => exact ⟨0, rfl, Nat.zero_le _, by simp⟩
      case round =>
        obtain ⟨k, rfl, hk, hbef⟩ := hrel
        have p0 : (0 : Int) ≤ (k : Int) := by omega
        have p1 : (k : Int) ≤ (X.size : Int) := by omega
        by_cases hkl : k < X.size
        · have t2 : decide ((k : Int) < (X.size : Int)) = true := by simp; omega
          obtain ⟨y, hy⟩ : ∃ y : UInt8, y = X[k] := ⟨_, rfl⟩
          have hy' : X[k]'hkl = y := hy.symm
          have hyl := y.toNat_lt
          have hkl' : k < X.data.toList.length := by rw [bytes_len]; exact hkl
          by_cases h61 : y.toNat = 61
          · have t3 : ((y.toNat : Int) != 61) = false := by simp [h61]
            have t3' : ((y.toNat : Int) == 61) = true := by simp [h61]
            have t4 : ((k : Int) == (X.size : Int)) = false := by simp; omega
            have t4' : (k == X.size) = false := by simp; omega
            have heq := eq_at hkl' (by show X[k] = 61; rw [hy']; exact UInt8.toNat_inj.1 h61) hbef
            have hpr : preD X.data.toList = (valD (X.extract (k + 1) X.size).data.toList).map (fun v => ((X.extract 0 k).data.toList, v)) := by
              unfold preD
              rw [if_pos heq.2.2, heq.1, heq.2.1, rest_list, head_list]
            obtain ⟨Z, hZ⟩ : ∃ Z, X.extract (k + 1) X.size = Z := ⟨_, rfl⟩
            obtain ⟨Y, hY⟩ : ∃ Y, X.extract 0 k = Y := ⟨_, rfl⟩
            rw [hZ, hY] at hpr
            have hZs : Z.size ≤ 100000 := by rw [← hZ, ByteArray.size_extract]; omega
            have hvl := fun w => valueRef_any Z hZs w
            have p2 : (k : Int) + 1 ≤ (X.size : Int) := by omega
            clear hy heq hbef
            cases hvd : valD Z.data.toList with
            | none =>
              rw [hvd] at hpr hvl
              unfold valV at hvl
              have HV := Lib.hid hvl
              have HRes := Lib.hid (HNo.out (by rw [hpr]; rfl))
              clear hpr hvl hvd h61
              go_wp2_with (go_at_call 90; refine (HV.out _).mono ?_; rintro e w4 ⟨rfl, hb4⟩; have HB4 := Lib.hid hb4; have HY := Lib.hid (HX.out.below hb4 (Nat.lt_of_lt_of_le hbw2 hbs)); obtain ⟨c0, c1, f0, f1⟩ := HY.out.cells; clear hb4)
              obtain ⟨q0, q1, _, _⟩ := (HY.out.store (.slice none 0 0) false).cells
              refine bodyPost_ret (v := .agg #[.slice none 0 0, .bool false]) (by simp [results, Tryz.results70, go_sem, q0, q1]) rfl ?_
              rw [HRes.out]
              exact ⟨boxR_stored (HW2.out.trans (((HBel.out.trans (HB4.out.mono hbs))).mono (Nat.le_of_lt hbw2))) (Nat.le_refl _) _ _, rfl⟩
            | some v =>
              rw [hvd] at hpr hvl
              obtain ⟨V, hV⟩ : ∃ V : ByteArray, V = ⟨v.toArray⟩ := ⟨_, rfl⟩
              have hVl : V.data.toList = v := by rw [hV]
              simp only [valV, ← hV] at hvl
              have HV := Lib.hid hvl
              have HNew := Lib.hid (HSnoc.out (Y.data.toList, V.data.toList) (by rw [hpr, hVl]; rfl))
              clear hpr hvl hvd h61 hV hVl
              go_wp2_with (first
                | (go_at_call 90; refine (HV.out _).mono ?_; rintro e w4 ⟨rfl, hb4⟩; have HB4 := Lib.hid hb4; have d0 := (hb4.cell (p := ⟨g, j, none⟩) (Nat.lt_of_lt_of_le hg2 hbs)).trans d0; have HO4 := Lib.hid (ownR_below HOwn.out hb4); clear hb4)
                | (at_builtin; refine wpList_append_rdn rfl (.tmp 60) (.tmp 69) rfl w2.heap.size (.slice a L.length cp) L rfl Y V HO4.out rfl (by omega) (Nat.le_trans hbs HB4.out.size) ?_; intro v5 w5 hown5 hb5; have HO5 := Lib.hid hown5; have HB5 := Lib.hid hb5; clear hown5 hb5))
              go_roundw
              case rel => exact ⟨j + 1, L ++ [(Y.data.toList, V.data.toList)], by go_num, by omega, by simp; have := HLj.out; omega, HNew.out, HO5.out, (HBel.out.trans (HB4.out.mono hbs)).trans HB5.out⟩
              case measure => simp [intOf]; omega
          · have t3 : ((y.toNat : Int) != 61) = true := by simp; omega
            have t3' : ((y.toNat : Int) == 61) = false := by simp; omega
            have hnext : ∀ z ∈ X.data.toList.take (k + 1), z ≠ 61 := by
              intro z hz
              rw [List.take_succ_eq_append_getElem hkl', List.mem_append] at hz
              rcases hz with hz | hz
              · exact hbef z hz
              · simp only [List.mem_singleton] at hz
                rintro rfl
                apply h61
                rw [hy]
                have : X.data.toList[k] = X[k] := rfl
                rw [← this, ← hz]; rfl
            have HNx := Lib.hid hnext
            clear hy hbef hnext
            go_wp2
            go_round
            case rel => exact ⟨k + 1, by go_num, by omega, HNx.out⟩
            case measure => simp [intOf]; omega
        · obtain rfl : k = X.size := by omega
          have t2 : decide ((X.size : Int) < (X.size : Int)) = false := by simp
          have hc61 : X.data.toList.contains 61 = false := by
            cases h : X.data.toList.contains 61 with
            | false => rfl
            | true =>
              rw [List.contains_iff_mem] at h
              rw [List.take_of_length_le (by simp)] at hbef
              exact absurd rfl (hbef 61 h)
          have HRes := Lib.hid (HNo.out (by unfold preD; rw [if_neg (by rw [hc61]; simp)]))
          obtain ⟨c0, c1, f0, f1⟩ := HX.out.cells
          clear hbef hc61
          go_wp2
          obtain ⟨q0, q1, _, _⟩ := (HX.out.store (.slice none 0 0) false).cells
          refine bodyPost_ret (v := .agg #[.slice none 0 0, .bool false]) (by simp [results, Tryz.results70, go_sem, q0, q1]) rfl ?_
          rw [HRes.out]
          exact ⟨boxR_stored (HW2.out.trans (HBel.out.mono (Nat.le_of_lt hbw2))) (Nat.le_refl _) _ _, rfl⟩
    · obtain rfl : j = P.length := by omega
      have t1 : decide ((P.length : Int) < (P.length : Int)) = false := by simp
      have t1' : decide (P.length < P.length) = false := by simp
      rw [List.take_length] at hall
      have hpre := HPre.out
      rw [hall] at hpre
      simp only at hpre
      have hm : L.length ≤ maxLen := by unfold maxLen; omega
      have hmay := mayRef_any L (.slice a L.length cp) wr (ownR_isL hown hm)
      obtain ⟨b, hb⟩ : ∃ b, b = okL L := ⟨_, rfl⟩
      rw [← hb] at hmay hpre
      have HM := Lib.hid hmay
      obtain ⟨c0, c1, f0, f1⟩ := HX.out.cells
      clear hown hbel hall hmay hb
      cases b with
      | true =>
        rw [if_pos rfl] at hpre
        have HRes := Lib.hid hpre
        clear hpre
        go_wp2_with (go_at_call 91; refine (HM.out).mono ?_; rintro e w5 ⟨rfl, rfl⟩)
        obtain ⟨q0, q1, _, _⟩ := (HX.out.store (.slice a L.length cp) true).cells
        refine bodyPost_ret (v := .agg #[.slice a L.length cp, .bool true]) (by simp [results, Tryz.results70, go_sem, q0, q1]) rfl ?_
        rw [HRes.out]
        exact ⟨boxR_stored (HW2.out.trans (HBel.out.mono (Nat.le_of_lt hbw2))) (Nat.le_refl _) _ _, _, rfl, ownR_isL (ownR_stored HOwn.out hbw2 _ _) hm⟩
      | false =>
        rw [if_neg (by simp)] at hpre
        have HRes := Lib.hid hpre
        clear hpre
        go_wp2_with (go_at_call 91; refine (HM.out).mono ?_; rintro e w5 ⟨rfl, rfl⟩)
        obtain ⟨q0, q1, _, _⟩ := (HX.out.store (.slice none 0 0) false).cells
        refine bodyPost_ret (v := .agg #[.slice none 0 0, .bool false]) (by simp [results, Tryz.results70, go_sem, q0, q1]) rfl ?_
        rw [HRes.out]
        exact ⟨boxR_stored (HW2.out.trans (HBel.out.mono (Nat.le_of_lt hbw2))) (Nat.le_refl _) _ _, rfl⟩
end Go.Proofs.YtdgnefcpeocbjaaGreatDoor

/- The document's Key: the walk. -/
namespace Go.Proofs.YtdgnefcpeocbjaaGreatDoor
open Go.RowKit
set_option linter.unusedVariables false



/-- A text, or none, in a block of its own. -/
def BoxK (w : World) (b : Nat) (x : ByteArray) (ok : Bool) : Prop := w.heap[b]? = some (.cells #[.string x, .bool ok] 62 (0, 0))
theorem BoxK.below {w w' : World} {b n : Nat} {x : ByteArray} {ok : Bool} (h : BoxK w b x ok) (hb : Below n w w') (hn : b < n) : BoxK w' b x ok := (hb.block b hn).trans h
theorem BoxK.cells {w : World} {b : Nat} {x : ByteArray} {ok : Bool} (h : BoxK w b x ok) : w.cell? ⟨b, 0, none⟩ = some (.string x) ∧ w.cell? ⟨b, 1, none⟩ = some (.bool ok) ∧ w.frozen? ⟨b, 0, none⟩ = false ∧ w.frozen? ⟨b, 1, none⟩ = false := by
  unfold BoxK at h
  simp [World.cell?, World.frozen?, h]
theorem boxK_new (w : World) (x : ByteArray) (ok : Bool) : BoxK (w.alloc (.cells #[.string x, .bool ok] 62)) w.heap.size x ok := heap_alloc_new w _
theorem BoxK.store {w : World} {b : Nat} {x : ByteArray} {ok : Bool} (h : BoxK w b x ok) (x' : ByteArray) (ok' : Bool) : BoxK ((w.setCell ⟨b, 0, none⟩ (.string x')).setCell ⟨b, 1, none⟩ (.bool ok')) b x' ok' := by
  unfold BoxK at h ⊢
  simp [World.setCell, Array.getElem?_modify, h]

def saidV (o : Option (List UInt8)) : Value := match o with
  | some k => .agg #[.string ⟨k.toArray⟩, .bool true]
  | none => .agg #[.string ⟨#[]⟩, .bool false]

set_option maxRecDepth 100000 in
set_option maxHeartbeats 8000000 in
theorem keyRef_any (s : ByteArray) (hs : s.size ≤ 100000) (w : World) : Calls Tryz.prog 52 #[.string s] w fun e w' => e = .returned (saidV (keyD s.data.toList)) ∧ Below w.heap.size w w' := by
  have HBox := Lib.hid (boxK_new w ⟨#[]⟩ false)
  have hbb : Below w.heap.size w (w.alloc (.cells #[.string ⟨#[]⟩, .bool false] 62)) := (Below.refl _ _).alloc (Nat.le_refl _) _
  have HBB := Lib.hid hbb
  clear hbb
  have hp := fun w => parseRef_any s hs w
  rw [keyD_eq]
  cases hpd : parseD s.data.toList with
  | none =>
    rw [hpd] at hp
    have HP := Lib.hid hp
    clear hp hpd
    go_enter Tryz.func52, Tryz.ntmps52
    go_wp2_with (go_at_call 70; refine (HP.out _).mono ?_; rintro e w2 ⟨hb2, rfl⟩; have HB2 := Lib.hid hb2; have HX2 := Lib.hid ((HBox.out.below hb2 (by simp)).below ((Below.refl _ _).alloc (Nat.le_refl _) (.cells #[.slice none 0 0, .bool false] 98)) (by have := hb2.size; simp at this; omega)); obtain ⟨c0, c1, f0, f1⟩ := HX2.out.cells; clear hb2)
    obtain ⟨q0, q1, _, _⟩ := (HX2.out.store ⟨#[]⟩ false).cells
    refine bodyPost_ret (v := .agg #[.string ⟨#[]⟩, .bool false]) (by simp [results, Tryz.results52, go_sem, q0, q1]) rfl ⟨rfl, ?_⟩
    exact boxR_stored ((HBB.out.trans (HB2.out.mono (by simp))).alloc (by have := HB2.out.size; simp at this; omega) _) (Nat.le_refl _) _ _
  | some L =>
    rw [hpd] at hp
    have hok := parse_ok hpd
    have HOk := Lib.hid hok
    have hsm := okL_small hok
    have HSm := Lib.hid hsm
    have hL8 : L.length ≤ 8 := by
      unfold okL at hok
      simp only [Bool.and_eq_true, decide_eq_true_eq] at hok
      exact hok.1
    have HP := Lib.hid hp
    show Calls Tryz.prog 52 #[.string s] w fun e w' => e = .returned (saidV (keyL L)) ∧ Below w.heap.size w w'
    clear hp hpd hok hsm
    go_enter Tryz.func52, Tryz.ntmps52
    go_wp2_with (go_at_call 70; refine (HP.out _).mono ?_; rintro e w2 ⟨hb2, v, rfl, hil2⟩; have HIL2 := Lib.hid hil2; (obtain ⟨a, c, rfl, _, _⟩ := hil2); have HB2 := Lib.hid hb2; have HX2 := Lib.hid (HBox.out.below hb2 (by simp)); obtain ⟨k0, k1, _, _⟩ := (boxD_new w2 (.slice a L.length c) true).cells; clear hb2)
    have hbw2 : w.heap.size < w2.heap.size := by have := HB2.out.size; simp at this; omega
    have hw2 : Below w.heap.size w w2 := HBB.out.trans (HB2.out.mono (by simp))
    obtain ⟨W, hW⟩ : ∃ W, W = w2.alloc (.cells #[.slice a L.length c, .bool true] 98) := ⟨_, rfl⟩
    obtain ⟨bd, hbd⟩ : ∃ bd, bd = w2.heap.size := ⟨_, rfl⟩
    have hbW : Below w2.heap.size w2 W := by rw [hW]; exact (Below.refl _ _).alloc (Nat.le_refl _) _
    have hdW : bd < W.heap.size := by rw [hW, hbd]; simp
    have hsW : w2.heap.size ≤ W.heap.size := hbW.size
    have HILW := Lib.hid (HIL2.out.below hbW hsW)
    have HXW := Lib.hid (HX2.out.below hbW hbw2)
    have HwW := Lib.hid (hw2.trans (hbW.mono (Nat.le_of_lt hbw2)))
    have hkd : W.cell? ⟨bd, 0, none⟩ = some (.slice a L.length c) := by rw [hW, hbd]; exact k0
    have HKd := Lib.hid hkd
    rw [← hW, ← hbd]
    have hwW : w.heap.size < W.heap.size := Nat.lt_of_lt_of_le hbw2 hsW
    clear hW hbd hbW hw2 k0 k1 hkd HIL2 HX2 hsW
    go_loopw [4, 5] (fun x i wr => ∃ j : Nat, j ≤ L.length ∧ i = .int .i64 j ∧ OwnR W.heap.size wr x ((L.take j).map normR) ∧ (L.take j).all okF = true ∧ Below W.heap.size W wr) (fun _ i _ => L.length - (intOf i).toNat)
    case atStart => exact ⟨0, by omega, rfl, ownR_nil _ _, by simp, Below.refl _ _⟩
    case round =>
      obtain ⟨j, hj, rfl, hown, hall, hbel⟩ := hrel
      obtain ⟨ax, cx, rfl⟩ := ownR_slice hown
      have hlen : ((L.take j).map normR).length ≤ 8 := by simp; omega
      have hjl : ((L.take j).map normR).length = j := by simp; omega
      rw [hjl] at hown ⊢
      clear hjl
      have HBel := Lib.hid hbel
      have hbs := hbel.size
      have HOwn := Lib.hid hown
      have HX := Lib.hid (HXW.out.below hbel hwW)
      have kd : wr.cell? ⟨bd, 0, none⟩ = some (.slice a L.length c) := by rw [hbel.cell (p := ⟨bd, _, none⟩) hdW]; exact HKd.out
      have hdr : bd < wr.heap.size := Nat.lt_of_lt_of_le hdW hbs
      by_cases hlt : j < L.length
      · have t1 : decide ((j : Int) < (L.length : Int)) = true := by simp; omega
        have t1' : decide (j < L.length) = true := by simpa using hlt
        obtain ⟨a', c', hv, _, hcell⟩ := HILW.out
        simp only [Value.slice.injEq, true_and] at hv
        obtain ⟨rfl, rfl⟩ := hv
        obtain ⟨g, off, rfl, hgW, c0, c1⟩ := hcell j hlt
        obtain ⟨X, hX⟩ : ∃ X : ByteArray, X = ⟨L[j].1.toArray⟩ := ⟨_, rfl⟩
        obtain ⟨Y, hY⟩ : ∃ Y : ByteArray, Y = ⟨L[j].2.toArray⟩ := ⟨_, rfl⟩
        have hXl : X.data.toList = L[j].1 := by rw [hX]
        have hYl : Y.data.toList = L[j].2 := by rw [hY]
        have hXs : X.size ≤ 1000 := by rw [← bytes_len, hXl]; exact (HSm.out.2 _ (List.getElem_mem hlt)).1
        have hYs : Y.size ≤ 1000 := by rw [← bytes_len, hYl]; exact (HSm.out.2 _ (List.getElem_mem hlt)).2
        have d0 : wr.cell? ⟨g, off + j * 2, none⟩ = some (.string X) := by rw [hbel.cell (p := ⟨g, _, none⟩) hgW, c0, hX]; rfl
        have d1 : wr.cell? ⟨g, off + j * 2 + 1, none⟩ = some (.string Y) := by rw [hbel.cell (p := ⟨g, _, none⟩) hgW, c1, hY]; rfl
        have hgr : g < wr.heap.size := Nat.lt_of_lt_of_le hgW hbs
        have hfo := fun w => foldRef_any Y w (by omega)
        have hlo := fun w => lowerRef_any X w (by omega)
        obtain ⟨F, hF⟩ : ∃ F, F = foldB Y := ⟨_, rfl⟩
        obtain ⟨Z, hZ⟩ : ∃ Z, Z = lowB X := ⟨_, rfl⟩
        have hFl : F.data.toList = fold L[j].2 := by rw [hF, ← hYl]; rfl
        have hZl : Z.data.toList = low L[j].1 := by rw [hZ, ← hXl]; rfl
        simp only [← hF] at hfo
        simp only [← hZ] at hlo
        have HFo := Lib.hid hfo
        have HLo := Lib.hid hlo
        have q1 : (j : Int) < (L.length : Int) := by omega
        have q2 : (0 : Int) ≤ (j : Int) := by omega
        have HFl := Lib.hid hFl
        have HZl := Lib.hid hZl
        have HAll := Lib.hid hall
        clear hX hXl hY hYl c0 c1 hF hZ hFl hZl hcell hown hbel hfo hlo hall
        go_wp2
        go_region_law (first
          | (go_simp; go_at_call 30; refine (HLo.out _).mono ?_; rintro e w5 ⟨rfl, hb5⟩; have hx5 : Below wr.heap.size wr w5 := (by first | exact ((Below.refl wr.heap.size wr).drew).trans hb5 | exact (((Below.refl wr.heap.size wr).drew).alloc (Nat.le_refl _) _).trans (hb5.mono (by simp))); have x0 := (hx5.cell (p := ⟨bd, 0, none⟩) hdr).trans kd; have x1 := (hx5.cell (p := ⟨g, _, none⟩) hgr).trans d1; have x2 := hx5.size; have x3 : g < w5.heap.size := Nat.lt_of_lt_of_le hgr x2; have x4 : bd < w5.heap.size := Nat.lt_of_lt_of_le hdr x2; (first | (have hy5 : BoxR w5 wr.heap.size ⟨#[]⟩ ⟨#[]⟩ := (hb5.block wr.heap.size (by simp)).trans (by first | exact heap_alloc_new wr _ | exact heap_alloc_new wr.drew _); obtain ⟨y0, y1, yf0, yf1⟩ := hy5.cells; have HY5 := Lib.hid hy5; clear hy5) | skip))
          | (go_simp; go_at_call 20; refine (HFo.out _).mono ?_; rintro e w6 ⟨rfl, hb6⟩; have hx6 : Below wr.heap.size wr w6 := (by first | exact hx5.trans (hb6.mono hx5.size) | exact (hx5.alloc hx5.size _).trans (hb6.mono (by simp; omega))); (first | (have hy6 := (boxR_new _ ⟨#[]⟩ ⟨#[]⟩).below hb6 (by simp); obtain ⟨z0, z1, zf0, zf1⟩ := hy6.cells; have HY6 := Lib.hid hy6; clear hy6) | (have hy6 := HY5.out.below hb6 (by have := hb5.size; simp at this; omega); obtain ⟨z0, z1, zf0, zf1⟩ := hy6.cells; have HY6 := Lib.hid hy6; clear hy6) | skip)))
        all_goals (
          first
            | (obtain ⟨W8, hW8⟩ : ∃ W8, W8 = w6.alloc (.cells #[.string Z, .string F] 101) := ⟨_, rfl⟩
               have hbx : BoxR (w6.alloc (.cells #[.string Z, .string F] 101)) w6.heap.size Z F := boxR_new w6 Z F
               have hb8 : Below wr.heap.size wr (w6.alloc (.cells #[.string Z, .string F] 101)) := hx6.alloc hx6.size _
               rw [← hW8] at hbx hb8 ⊢)
            | (obtain ⟨W8, hW8⟩ : ∃ W8, W8 = (w6.setCell ⟨w5.heap.size, 0, none⟩ (.string Z)).setCell ⟨w5.heap.size, 1, none⟩ (.string F) := ⟨_, rfl⟩
               have hbx : BoxR ((w6.setCell ⟨w5.heap.size, 0, none⟩ (.string Z)).setCell ⟨w5.heap.size, 1, none⟩ (.string F)) w5.heap.size Z F := HY6.out.store Z F
               have hb8 : Below wr.heap.size wr ((w6.setCell ⟨w5.heap.size, 0, none⟩ (.string Z)).setCell ⟨w5.heap.size, 1, none⟩ (.string F)) := boxR_stored hx6 hx5.size _ _
               rw [← hW8] at hbx hb8 ⊢)
            | (obtain ⟨W8, hW8⟩ : ∃ W8, W8 = (w6.setCell ⟨wr.heap.size, 0, none⟩ (.string Z)).setCell ⟨wr.heap.size, 1, none⟩ (.string F) := ⟨_, rfl⟩
               have hbx : BoxR ((w6.setCell ⟨wr.heap.size, 0, none⟩ (.string Z)).setCell ⟨wr.heap.size, 1, none⟩ (.string F)) wr.heap.size Z F := HY6.out.store Z F
               have hb8 : Below wr.heap.size wr ((w6.setCell ⟨wr.heap.size, 0, none⟩ (.string Z)).setCell ⟨wr.heap.size, 1, none⟩ (.string F)) := boxR_stored hx6 (Nat.le_refl _) _ _
               rw [← hW8] at hbx hb8 ⊢)
          obtain ⟨r0, r1, rf0, rf1⟩ := hbx.cells
          have HB8 := Lib.hid hb8
          clear hbx hb8 hW8
          have hokf : okF L[j] = !F.data.toList.isEmpty := by unfold okF; rw [HFl.out]
          by_cases hFe : F.data.toList = []
          · obtain ⟨e1, e2⟩ := bytes_nil hFe
            have hno : keyL L = none := by
              unfold keyL
              rw [if_neg]
              intro hh
              have := List.all_eq_true.1 hh _ (List.getElem_mem hlt)
              rw [hokf, hFe] at this
              simp at this
            have HNo := Lib.hid hno
            obtain ⟨c0, c1, f0, f1⟩ := (HX.out.below HB8.out (Nat.lt_of_lt_of_le hwW hbs)).cells
            clear hokf hFe hno
            go_wp2
            obtain ⟨q0, q1, _, _⟩ := ((HX.out.below HB8.out (Nat.lt_of_lt_of_le hwW hbs)).store ⟨#[]⟩ false).cells
            refine bodyPost_ret (v := .agg #[.string ⟨#[]⟩, .bool false]) (by simp [results, Tryz.results52, go_sem, q0, q1]) rfl ?_
            rw [HNo.out]
            exact ⟨rfl, boxR_stored (HwW.out.trans ((HBel.out.trans (HB8.out.mono hbs)).mono (Nat.le_of_lt hwW))) (Nat.le_refl _) _ _⟩
          · obtain ⟨e1, e2⟩ := bytes_some hFe
            have hyes : (L.take (j + 1)).all okF = true := by
              rw [List.take_succ_eq_append_getElem hlt, List.all_append, HAll.out]
              simp only [List.all_cons, List.all_nil, Bool.and_true, Bool.true_and]
              rw [hokf]
              cases h : F.data.toList with
              | nil => exact absurd h hFe
              | cons x r => rfl
            have HYes := Lib.hid hyes
            have HO8 := Lib.hid (ownR_below HOwn.out HB8.out)
            clear hokf hFe hyes
            go_wp2_with (at_builtin; refine wpList_append_rdn rfl (.tmp 39) (.tmp 41) rfl W.heap.size (.slice ax j cx) ((L.take j).map normR) rfl Z F HO8.out rfl (by omega) (Nat.le_trans hbs HB8.out.size) ?_; intro v9 w9 hown9 hb9; have HO9 := Lib.hid hown9; have HB9 := Lib.hid hb9; clear hown9 hb9)
            go_roundw
            case rel =>
              have hnx : (L.take j).map normR ++ [(Z.data.toList, F.data.toList)] = (L.take (j + 1)).map normR := by rw [List.take_succ_eq_append_getElem hlt, List.map_append, HZl.out, HFl.out]; rfl
              exact ⟨j + 1, by omega, by go_num, hnx ▸ HO9.out, HYes.out, (HBel.out.trans (HB8.out.mono hbs)).trans HB9.out⟩
            case measure => simp [intOf]; omega)
      · obtain rfl : j = L.length := by omega
        have t1 : decide ((L.length : Int) < (L.length : Int)) = false := by simp
        have t1' : decide (L.length < L.length) = false := by simp
        rw [List.take_length] at hown hall
        have hsm2 := okL_small (okL_norm HOk.out hall)
        have hil := ownR_isL hown (by have := hsm2.1; unfold maxLen; omega)
        obtain ⟨T, hT⟩ : ∃ T : ByteArray, T = ⟨(textD (L.map normR)).toArray⟩ := ⟨_, rfl⟩
        have htx : Calls Tryz.prog 71 #[.slice ax L.length cx] wr fun e w' => e = .returned (.string T) ∧ Below wr.heap.size wr w' := by rw [hT]; exact textRef_any (L.map normR) hsm2 _ wr hil
        have hyes : saidV (keyL L) = .agg #[.string T, .bool true] := by unfold keyL; rw [if_pos hall, hT]; rfl
        have HYes := Lib.hid hyes
        have HTx := Lib.hid htx
        clear hown HOwn hall hsm2 hil htx hyes hbel hT
        go_wp2_with (go_at_call 71; refine (HTx.out).mono ?_; rintro e w5 ⟨rfl, hb5⟩; have HB5 := Lib.hid hb5; have HX5 := Lib.hid (HX.out.below hb5 (Nat.lt_of_lt_of_le hwW hbs)); obtain ⟨c0, c1, f0, f1⟩ := HX5.out.cells; clear hb5)
        obtain ⟨q0, q1, _, _⟩ := (HX5.out.store T true).cells
        refine bodyPost_ret (v := .agg #[.string T, .bool true]) (by simp [results, Tryz.results52, go_sem, q0, q1]) rfl ?_
        rw [HYes.out]
        exact ⟨rfl, boxR_stored (HwW.out.trans ((HBel.out.trans (HB5.out.mono hbs)).mono (Nat.le_of_lt hwW))) (Nat.le_refl _) _ _⟩
end Go.Proofs.YtdgnefcpeocbjaaGreatDoor

/- The document's Norm, SameVal: the walks. -/
namespace Go.Proofs.YtdgnefcpeocbjaaGreatDoor
open Go.RowKit
set_option linter.unusedVariables false

theorem field_num0 (w : World) (v : Int) (b : Bool) : (Instr.field 81 (.agg #[.int .i64 v, .bool b]) 0).run Tryz.prog w = .ok (.int .i64 v) w := by kernel_rfl
theorem field_num1 (w : World) (v : Int) (b : Bool) : (Instr.field 81 (.agg #[.int .i64 v, .bool b]) 1).run Tryz.prog w = .ok (.bool b) w := by kernel_rfl
theorem field_said0 (w : World) (s : ByteArray) (b : Bool) : (Instr.field 62 (.agg #[.string s, .bool b]) 0).run Tryz.prog w = .ok (.string s) w := by kernel_rfl
theorem field_said1 (w : World) (s : ByteArray) (b : Bool) : (Instr.field 62 (.agg #[.string s, .bool b]) 1).run Tryz.prog w = .ok (.bool b) w := by kernel_rfl
def sB (o : Option (List UInt8)) : ByteArray := match o with
  | some x => ⟨x.toArray⟩
  | none => ⟨#[]⟩
theorem saidR_eq (o : Option (List UInt8)) : saidR o = .agg #[.string (sB o), .bool o.isSome] := by cases o <;> rfl
theorem saidV_eq (o : Option (List UInt8)) : saidV o = .agg #[.string (sB o), .bool o.isSome] := by cases o <;> rfl
theorem below_ab {w w1 w2 : World} {o : Obj} (h1 : Below (w.alloc o).heap.size (w.alloc o) w1) (h2 : Below w1.heap.size w1 w2) : Below w.heap.size w w2 :=
  ((Below.refl _ _).alloc (Nat.le_refl _) _).trans ((h1.trans (h2.mono h1.size)).mono (by simp))

set_option maxRecDepth 100000 in
set_option maxHeartbeats 8000000 in
theorem normRef_any (t s : ByteArray) (ht : t.size ≤ 281474976710656) (w : World) :
    Calls Tryz.prog 39 #[.string t, .string s] w fun e w' => e = .returned (saidR (normD (ruleD t.data.toList) s.data.toList)) ∧ Below w.heap.size w w' := by
  have hr := fun w => ruleRef_any t ht w
  generalize ruleD t.data.toList = r at hr ⊢
  have HR := Lib.hid hr
  clear hr
  have HBox := Lib.hid (boxS_new w ⟨#[]⟩ false)
  obtain ⟨q0, q1, _, _⟩ := (HBox.out.store ⟨#[]⟩ false).cells
  by_cases h0 : s.data.toList = []
  · obtain ⟨e1, e2⟩ := bytes_nil h0
    have HV := Lib.hid (show normD r s.data.toList = none by unfold normD; rw [if_pos (.inl h0)])
    clear h0
    go_enter Tryz.func39, Tryz.ntmps39
    go_wp2
    refine bodyPost_ret (v := .agg #[.string ⟨#[]⟩, .bool false]) (by simp [results, Tryz.results39, go_sem]) rfl ⟨by rw [HV.out]; rfl, ?_⟩
    first | exact (Below.refl _ _).alloc (Nat.le_refl _) _ | exact (((Below.refl _ _).alloc (Nat.le_refl _) _).setCell (Nat.le_refl _) _).setCell (Nat.le_refl _) _
  obtain ⟨e1, e2⟩ := bytes_some h0
  by_cases h100 : 100 < s.size
  · have t1 : decide ((100 : Int) < (s.size : Int)) = true := by simp; omega
    have HV := Lib.hid (show normD r s.data.toList = none by unfold normD; rw [if_pos (.inr (by rw [bytes_len]; exact h100))])
    clear h0
    go_enter Tryz.func39, Tryz.ntmps39
    go_wp2
    refine bodyPost_ret (v := .agg #[.string ⟨#[]⟩, .bool false]) (by simp [results, Tryz.results39, go_sem]) rfl ⟨by rw [HV.out]; rfl, ?_⟩
    first | exact (Below.refl _ _).alloc (Nat.le_refl _) _ | exact (((Below.refl _ _).alloc (Nat.le_refl _) _).setCell (Nat.le_refl _) _).setCell (Nat.le_refl _) _
  have t1 : decide ((100 : Int) < (s.size : Int)) = false := by simp; omega
  have hd : normD r s.data.toList = if r = 1 then (if fold s.data.toList = [] then none else some (fold s.data.toList)) else if r = 2 then (if (numD s.data.toList).isSome then some s.data.toList else none)
      else if r = 3 then (match keyD s.data.toList with | some k => if k = [] then none else some k | none => none) else if r = 4 then some s.data.toList else none := by
    unfold normD; rw [if_neg (by rw [bytes_len]; rintro (h | h); exact h0 h; exact h100 h)]; rfl
  have HD := Lib.hid hd
  clear hd h0 q0 q1
  by_cases h1 : r = 1
  · subst h1
    have hf := fun w => foldRef_any s w (by omega)
    obtain ⟨F, hF⟩ : ∃ F : ByteArray, F = foldB s := ⟨_, rfl⟩
    have hFl : fold s.data.toList = F.data.toList := by rw [hF]; simp [foldB]
    rw [← hF] at hf
    have HF := Lib.hid hf
    have hD : normD 1 s.data.toList = (if fold s.data.toList = [] then none else some (fold s.data.toList)) := HD.out.trans (if_pos rfl)
    rw [hFl] at hD
    clear hf hF hFl HD
    by_cases hne : F.data.toList = []
    · obtain ⟨n1, n2⟩ := bytes_nil hne
      rw [if_pos hne] at hD
      have hFe : F = ⟨#[]⟩ := bytes_ext hne
      have HD := Lib.hid hD
      have HFe := Lib.hid hFe
      clear hD hFe hne
      go_enter Tryz.func39, Tryz.ntmps39
      go_wp2_with (first | (go_at_call 38; refine (HR.out _).mono ?_; rintro e w1 ⟨rfl, hb1⟩; have HB := Lib.hid (((Below.refl _ _).alloc (Nat.le_refl _) _).trans (hb1.mono (by simp))); have HX := Lib.hid (HBox.out.below hb1 (by simp)); have hz1 : w.heap.size < w1.heap.size := (by have := hb1.size; simp at this; omega); obtain ⟨k0, k1, l0, l1⟩ := HX.out.cells; clear hb1) | (go_at_call 20; refine (HF.out _).mono ?_; rintro e w2 ⟨rfl, hb2⟩; have HB := Lib.hid (bthen HB.out hb2); have HX := Lib.hid (HX.out.below hb2 hz1); obtain ⟨k0, k1, l0, l1⟩ := HX.out.cells; have hz2 : w.heap.size < w2.heap.size := (by have := hb2.size; omega); clear hb2))
      obtain ⟨q0, q1, _, _⟩ := (HX.out.store F false).cells
      refine bodyPost_ret (v := .agg #[.string F, .bool false]) (by simp [results, Tryz.results39, go_sem, q0, q1]) rfl ⟨by rw [HD.out, HFe.out]; rfl, ?_⟩
      exact (HB.out.setCell (Nat.le_refl _) _).setCell (Nat.le_refl _) _
    · obtain ⟨n1, n2⟩ := bytes_some hne
      rw [if_neg hne] at hD
      have HD := Lib.hid hD
      clear hD hne
      go_enter Tryz.func39, Tryz.ntmps39
      go_wp2_with (first | (go_at_call 38; refine (HR.out _).mono ?_; rintro e w1 ⟨rfl, hb1⟩; have HB := Lib.hid (((Below.refl _ _).alloc (Nat.le_refl _) _).trans (hb1.mono (by simp))); have HX := Lib.hid (HBox.out.below hb1 (by simp)); have hz1 : w.heap.size < w1.heap.size := (by have := hb1.size; simp at this; omega); obtain ⟨k0, k1, l0, l1⟩ := HX.out.cells; clear hb1) | (go_at_call 20; refine (HF.out _).mono ?_; rintro e w2 ⟨rfl, hb2⟩; have HB := Lib.hid (bthen HB.out hb2); have HX := Lib.hid (HX.out.below hb2 hz1); obtain ⟨k0, k1, l0, l1⟩ := HX.out.cells; have hz2 : w.heap.size < w2.heap.size := (by have := hb2.size; omega); clear hb2))
      obtain ⟨q0, q1, _, _⟩ := (HX.out.store F true).cells
      refine bodyPost_ret (v := .agg #[.string F, .bool true]) (by simp [results, Tryz.results39, go_sem, q0, q1]) rfl ⟨by rw [HD.out]; simp [saidR], ?_⟩
      exact (HB.out.setCell (Nat.le_refl _) _).setCell (Nat.le_refl _) _
  have u1 : ((r : Int) == 1) = false := by simp; omega
  by_cases h2 : r = 2
  · subst h2
    have hn := fun w => numberRef_any s (by omega) w
    have hD : normD 2 s.data.toList = (if (numD s.data.toList).isSome = true then some s.data.toList else none) := (HD.out.trans (if_neg (by decide))).trans (if_pos rfl)
    clear u1 h1 HD
    have hfl := field_num1
    cases hnum : numD s.data.toList with
    | none =>
      rw [hnum] at hD hn
      simp only [numR] at hn
      have HF := Lib.hid hn
      have HD := Lib.hid hD
      clear hD hnum hn
      go_enter Tryz.func39, Tryz.ntmps39
      go_wp2_with (first | (go_at_call 38; refine (HR.out _).mono ?_; rintro e w1 ⟨rfl, hb1⟩; have HB := Lib.hid (((Below.refl _ _).alloc (Nat.le_refl _) _).trans (hb1.mono (by simp))); have HX := Lib.hid (HBox.out.below hb1 (by simp)); have hz1 : w.heap.size < w1.heap.size := (by have := hb1.size; simp at this; omega); obtain ⟨k0, k1, l0, l1⟩ := HX.out.cells; clear hb1) | (go_at_call 51; refine (HF.out _).mono ?_; rintro e w2 ⟨rfl, hb2⟩; have HB := Lib.hid (bthen HB.out hb2); have HX := Lib.hid (HX.out.below hb2 hz1); obtain ⟨k0, k1, l0, l1⟩ := HX.out.cells; have hz2 : w.heap.size < w2.heap.size := (by have := hb2.size; omega); clear hb2))
      obtain ⟨q0, q1, _, _⟩ := (HX.out.store ⟨#[]⟩ false).cells
      refine bodyPost_ret (v := .agg #[.string ⟨#[]⟩, .bool false]) (by simp [results, Tryz.results39, go_sem, q0, q1]) rfl ⟨by rw [HD.out]; rfl, ?_⟩
      exact (HB.out.setCell (Nat.le_refl _) _).setCell (Nat.le_refl _) _
    | some v =>
      rw [hnum] at hD hn
      simp only [numR] at hn
      have HF := Lib.hid hn
      have HD := Lib.hid hD
      clear hD hnum hn
      go_enter Tryz.func39, Tryz.ntmps39
      go_wp2_with (first | (go_at_call 38; refine (HR.out _).mono ?_; rintro e w1 ⟨rfl, hb1⟩; have HB := Lib.hid (((Below.refl _ _).alloc (Nat.le_refl _) _).trans (hb1.mono (by simp))); have HX := Lib.hid (HBox.out.below hb1 (by simp)); have hz1 : w.heap.size < w1.heap.size := (by have := hb1.size; simp at this; omega); obtain ⟨k0, k1, l0, l1⟩ := HX.out.cells; clear hb1) | (go_at_call 51; refine (HF.out _).mono ?_; rintro e w2 ⟨rfl, hb2⟩; have HB := Lib.hid (bthen HB.out hb2); have HX := Lib.hid (HX.out.below hb2 hz1); obtain ⟨k0, k1, l0, l1⟩ := HX.out.cells; have hz2 : w.heap.size < w2.heap.size := (by have := hb2.size; omega); clear hb2))
      obtain ⟨q0, q1, _, _⟩ := (HX.out.store s true).cells
      refine bodyPost_ret (v := .agg #[.string s, .bool true]) (by simp [results, Tryz.results39, go_sem, q0, q1]) rfl ⟨by rw [HD.out]; simp [saidR], ?_⟩
      exact (HB.out.setCell (Nat.le_refl _) _).setCell (Nat.le_refl _) _
  have u2 : ((r : Int) == 2) = false := by simp; omega
  by_cases h3 : r = 3
  · subst h3
    have hk := fun w => keyRef_any s (by omega) w
    have hD : normD 3 s.data.toList = (match keyD s.data.toList with | some k => if k = [] then none else some k | none => none) := ((HD.out.trans (if_neg (by decide))).trans (if_neg (by decide))).trans (if_pos rfl)
    clear u1 u2 h1 h2 HD
    cases hkey : keyD s.data.toList with
    | none =>
      rw [hkey] at hD hk
      simp only [saidV] at hk
      have HF := Lib.hid hk
      have HD := Lib.hid hD
      clear hD hkey hk
      go_enter Tryz.func39, Tryz.ntmps39
      go_wp2_with (first | (go_at_call 38; refine (HR.out _).mono ?_; rintro e w1 ⟨rfl, hb1⟩; have HB := Lib.hid (((Below.refl _ _).alloc (Nat.le_refl _) _).trans (hb1.mono (by simp))); have HX := Lib.hid (HBox.out.below hb1 (by simp)); have hz1 : w.heap.size < w1.heap.size := (by have := hb1.size; simp at this; omega); obtain ⟨k0, k1, l0, l1⟩ := HX.out.cells; clear hb1) | (go_at_call 52; refine (HF.out _).mono ?_; rintro e w2 ⟨rfl, hb2⟩; have HB := Lib.hid (bthen HB.out hb2); have HX := Lib.hid (HX.out.below hb2 hz1); obtain ⟨k0, k1, l0, l1⟩ := HX.out.cells; have hz2 : w.heap.size < w2.heap.size := (by have := hb2.size; omega); clear hb2))
      obtain ⟨q0, q1, _, _⟩ := (HX.out.store ⟨#[]⟩ false).cells
      refine bodyPost_ret (v := .agg #[.string ⟨#[]⟩, .bool false]) (by simp [results, Tryz.results39, go_sem, q0, q1, hz2]) rfl ⟨by rw [HD.out]; rfl, ?_⟩
      exact ((HB.out.setCell (Nat.le_refl _) _).setCell (Nat.le_refl _) _).alloc (by have := HB.out.size; simp; omega) _
    | some k =>
      rw [hkey] at hD hk
      obtain ⟨K, hKB⟩ : ∃ K : ByteArray, K = ⟨k.toArray⟩ := ⟨_, rfl⟩
      have hKl : k = K.data.toList := by rw [hKB]
      simp only [saidV, ← hKB] at hk
      have HF := Lib.hid hk
      clear hk hkey hKB
      simp only at hD
      subst hKl
      by_cases hne : K.data.toList = []
      · obtain ⟨n1, n2⟩ := bytes_nil hne
        rw [if_pos hne] at hD
        have HD := Lib.hid hD
        clear hD hne
        go_enter Tryz.func39, Tryz.ntmps39
        go_wp2_with (first | (go_at_call 38; refine (HR.out _).mono ?_; rintro e w1 ⟨rfl, hb1⟩; have HB := Lib.hid (((Below.refl _ _).alloc (Nat.le_refl _) _).trans (hb1.mono (by simp))); have HX := Lib.hid (HBox.out.below hb1 (by simp)); have hz1 : w.heap.size < w1.heap.size := (by have := hb1.size; simp at this; omega); obtain ⟨k0, k1, l0, l1⟩ := HX.out.cells; clear hb1) | (go_at_call 52; refine (HF.out _).mono ?_; rintro e w2 ⟨rfl, hb2⟩; have HB := Lib.hid (bthen HB.out hb2); have HX := Lib.hid (HX.out.below hb2 hz1); obtain ⟨k0, k1, l0, l1⟩ := HX.out.cells; have hz2 : w.heap.size < w2.heap.size := (by have := hb2.size; omega); clear hb2))
        obtain ⟨q0, q1, _, _⟩ := (HX.out.store ⟨#[]⟩ false).cells
        refine bodyPost_ret (v := .agg #[.string ⟨#[]⟩, .bool false]) (by simp [results, Tryz.results39, go_sem, q0, q1, hz2]) rfl ⟨by rw [HD.out]; rfl, ?_⟩
        exact ((HB.out.setCell (Nat.le_refl _) _).setCell (Nat.le_refl _) _).alloc (by have := HB.out.size; simp; omega) _
      · obtain ⟨n1, n2⟩ := bytes_some hne
        rw [if_neg hne] at hD
        have HD := Lib.hid hD
        clear hD hne
        go_enter Tryz.func39, Tryz.ntmps39
        go_wp2_with (first | (go_at_call 38; refine (HR.out _).mono ?_; rintro e w1 ⟨rfl, hb1⟩; have HB := Lib.hid (((Below.refl _ _).alloc (Nat.le_refl _) _).trans (hb1.mono (by simp))); have HX := Lib.hid (HBox.out.below hb1 (by simp)); have hz1 : w.heap.size < w1.heap.size := (by have := hb1.size; simp at this; omega); obtain ⟨k0, k1, l0, l1⟩ := HX.out.cells; clear hb1) | (go_at_call 52; refine (HF.out _).mono ?_; rintro e w2 ⟨rfl, hb2⟩; have HB := Lib.hid (bthen HB.out hb2); have HX := Lib.hid (HX.out.below hb2 hz1); obtain ⟨k0, k1, l0, l1⟩ := HX.out.cells; have hz2 : w.heap.size < w2.heap.size := (by have := hb2.size; omega); clear hb2))
        obtain ⟨q0, q1, _, _⟩ := (HX.out.store K true).cells
        refine bodyPost_ret (v := .agg #[.string K, .bool true]) (by simp [results, Tryz.results39, go_sem, q0, q1, hz2]) rfl ⟨by rw [HD.out]; simp [saidR], ?_⟩
        exact ((HB.out.setCell (Nat.le_refl _) _).setCell (Nat.le_refl _) _).alloc (by have := HB.out.size; simp; omega) _
  have u3 : ((r : Int) == 3) = false := by simp; omega
  have hD := HD.out
  rw [if_neg h1, if_neg h2, if_neg h3] at hD
  by_cases h4 : r = 4
  · subst h4
    rw [if_pos rfl] at hD
    have HD := Lib.hid hD
    clear hD u1 u2 u3 h1 h2 h3
    go_enter Tryz.func39, Tryz.ntmps39
    go_wp2_with (go_at_call 38; refine (HR.out _).mono ?_; rintro e w1 ⟨rfl, hb1⟩; have HB := Lib.hid (((Below.refl _ _).alloc (Nat.le_refl _) _).trans (hb1.mono (by simp))); have HX := Lib.hid (HBox.out.below hb1 (by simp)); have hz1 : w.heap.size < w1.heap.size := (by have := hb1.size; simp at this; omega); obtain ⟨k0, k1, l0, l1⟩ := HX.out.cells; clear hb1)
    obtain ⟨q0, q1, _, _⟩ := (HX.out.store s true).cells
    refine bodyPost_ret (v := .agg #[.string s, .bool true]) (by simp [results, Tryz.results39, go_sem, q0, q1]) rfl ⟨by rw [HD.out]; simp [saidR], ?_⟩
    exact (HB.out.setCell (Nat.le_refl _) _).setCell (Nat.le_refl _) _
  · rw [if_neg h4] at hD
    have u4 : ((r : Int) == 4) = false := by simp; omega
    have HD := Lib.hid hD
    clear hD h1 h2 h3 h4
    go_enter Tryz.func39, Tryz.ntmps39
    go_wp2_with (go_at_call 38; refine (HR.out _).mono ?_; rintro e w1 ⟨rfl, hb1⟩; have HB := Lib.hid (((Below.refl _ _).alloc (Nat.le_refl _) _).trans (hb1.mono (by simp))); have HX := Lib.hid (HBox.out.below hb1 (by simp)); have hz1 : w.heap.size < w1.heap.size := (by have := hb1.size; simp at this; omega); obtain ⟨k0, k1, l0, l1⟩ := HX.out.cells; clear hb1)
    obtain ⟨q0, q1, _, _⟩ := (HX.out.store ⟨#[]⟩ false).cells
    refine bodyPost_ret (v := .agg #[.string ⟨#[]⟩, .bool false]) (by simp [results, Tryz.results39, go_sem, q0, q1]) rfl ⟨by rw [HD.out]; rfl, ?_⟩
    exact (HB.out.setCell (Nat.le_refl _) _).setCell (Nat.le_refl _) _
end Go.Proofs.YtdgnefcpeocbjaaGreatDoor

/- The document's SameVal, Less: the walks. -/
namespace Go.Proofs.YtdgnefcpeocbjaaGreatDoor
open Go.RowKit
set_option linter.unusedVariables false

theorem normR_at (T s : ByteArray) (hT : T.size ≤ 281474976710656) (r : Nat) (hr : ruleD T.data.toList = r) (o : Option (List UInt8)) (h : normD r s.data.toList = o) (w : World) :
    Calls Tryz.prog 39 #[.string T, .string s] w fun e w' => e = .returned (.agg #[.string (sB o), .bool o.isSome]) ∧ Below w.heap.size w w' := by
  have := normRef_any T s hT w
  rw [hr, h, saidR_eq] at this
  exact this

set_option maxRecDepth 100000 in
set_option maxHeartbeats 8000000 in
theorem sameVal_any (t a b : ByteArray) (ht : t.size ≤ 281474976710656) (w : World) :
    Calls Tryz.prog 53 #[.string t, .string a, .string b] w fun e w' => e = .returned (.bool (sameO (normD (ruleD t.data.toList) a.data.toList) (normD (ruleD t.data.toList) b.data.toList))) ∧ Below w.heap.size w w' := by
  obtain ⟨r, hr⟩ : ∃ r, ruleD t.data.toList = r := ⟨_, rfl⟩
  obtain ⟨p, hp⟩ : ∃ p, normD r a.data.toList = p := ⟨_, rfl⟩
  obtain ⟨q, hq⟩ : ∃ q, normD r b.data.toList = q := ⟨_, rfl⟩
  have ha := fun w => normR_at t a ht r hr p hp w
  have hb := fun w => normR_at t b ht r hr q hq w
  rw [hr, hp, hq]
  have hs : sameO p q = ((p.isSome && q.isSome) && ((sB p).toList == (sB q).toList)) := by
    cases p <;> cases q <;> simp [sameO, sB, ByteArray.toList_eq]
  rw [hs]
  clear hs hr hp hq
  generalize sB p = X at ha ⊢
  generalize sB q = Y at hb ⊢
  generalize p.isSome = u at ha ⊢
  generalize q.isSome = v at hb ⊢
  have HA := Lib.hid ha
  have HQ := Lib.hid hb
  have tok : True := trivial
  clear ha hb
  go_enter Tryz.func53, Tryz.ntmps53
  go_wp2_with (go_at_call 39; first | (have _t := tok; (with_reducible refine (HA.out _).mono ?_); rintro e w1 ⟨rfl, hb1⟩; have HB := Lib.hid hb1; clear hb1 tok) | ((with_reducible refine (HQ.out _).mono ?_); rintro e w2 ⟨rfl, hb2⟩; have HB := Lib.hid (bthen HB.out hb2); clear hb2))
  all_goals
    go_ret
    exact ⟨by simp_all, (HB.out.alloc HB.out.size _).alloc (by have := HB.out.size; simp; omega) _⟩

set_option maxRecDepth 100000 in
set_option maxHeartbeats 8000000 in
theorem lessRef_no (t a b : ByteArray) (ht : t.size ≤ 281474976710656) (w : World) (h : normD (ruleD t.data.toList) a.data.toList = none ∨ normD (ruleD t.data.toList) b.data.toList = none ∨ (ruleD t.data.toList ≠ 1 ∧ ruleD t.data.toList ≠ 2)) :
    Calls Tryz.prog 41 #[.string t, .string a, .string b] w fun e w' => e = .returned (.tuple #[.bool false, .bool false]) ∧ Below w.heap.size w w' := by
  obtain ⟨r, hr⟩ : ∃ r, ruleD t.data.toList = r := ⟨_, rfl⟩
  obtain ⟨p, hp⟩ : ∃ p, normD r a.data.toList = p := ⟨_, rfl⟩
  obtain ⟨q, hq⟩ : ∃ q, normD r b.data.toList = q := ⟨_, rfl⟩
  have ha := fun w => normR_at t a ht r hr p hp w
  have hb := fun w => normR_at t b ht r hr q hq w
  have hru := fun w => ruleRef_any t ht w
  rw [hr] at hru h
  rw [hp, hq] at h
  have h' : (p.isSome && q.isSome) = false ∨ (((r : Int) != 1) = true ∧ ((r : Int) != 2) = true) := by
    rcases h with h | h | h
    · left; rw [h]; rfl
    · left; rw [h]; simp
    · right; constructor <;> (rw [bne_iff_ne]; omega)
  clear hr hp hq h
  generalize sB p = X at ha
  generalize sB q = Y at hb
  generalize p.isSome = u at ha h'
  generalize q.isSome = v at hb h'
  have HA := Lib.hid ha
  have HQ := Lib.hid hb
  have HR := Lib.hid hru
  have tok : True := trivial
  clear ha hb hru
  rcases h' with h' | ⟨h1, h2⟩
  · rcases (show u = false ∨ (u = true ∧ v = false) by cases u <;> cases v <;> simp_all) with rfl | ⟨rfl, rfl⟩
    all_goals
      clear h'
      go_enter Tryz.func41, Tryz.ntmps41
      go_wp2_with (first | (go_at_call 39; first | (have _t := tok; (with_reducible refine (HA.out _).mono ?_); rintro e w1 ⟨rfl, hb1⟩; have HB := Lib.hid hb1; clear hb1 tok) | ((with_reducible refine (HQ.out _).mono ?_); rintro e w2 ⟨rfl, hb2⟩; have HB := Lib.hid (bthen HB.out hb2); clear hb2)) | (go_at_call 38; refine (HR.out _).mono ?_; rintro e w3 ⟨rfl, hb3⟩; have HB := Lib.hid (bthen HB.out hb3); clear hb3))
      all_goals
        go_ret2
        exact ⟨rfl, (HB.out.alloc HB.out.size _).alloc (by have := HB.out.size; simp; omega) _⟩
  · cases u <;> cases v
    all_goals
      go_enter Tryz.func41, Tryz.ntmps41
      go_wp2_with (first | (go_at_call 39; first | (have _t := tok; (with_reducible refine (HA.out _).mono ?_); rintro e w1 ⟨rfl, hb1⟩; have HB := Lib.hid hb1; clear hb1 tok) | ((with_reducible refine (HQ.out _).mono ?_); rintro e w2 ⟨rfl, hb2⟩; have HB := Lib.hid (bthen HB.out hb2); clear hb2)) | (go_at_call 38; refine (HR.out _).mono ?_; rintro e w3 ⟨rfl, hb3⟩; have HB := Lib.hid (bthen HB.out hb3); clear hb3))
      all_goals
        go_ret2
        exact ⟨rfl, (HB.out.alloc HB.out.size _).alloc (by have := HB.out.size; simp; omega) _⟩

set_option maxRecDepth 100000 in
set_option maxHeartbeats 8000000 in
theorem lessRef_text (t a b X Y : ByteArray) (ht : t.size ≤ 281474976710656) (w : World) (hr : ruleD t.data.toList = 1) (hp : normD 1 a.data.toList = some X.data.toList) (hq : normD 1 b.data.toList = some Y.data.toList) :
    Calls Tryz.prog 41 #[.string t, .string a, .string b] w fun e w' => e = .returned (.tuple #[.bool (Op.bytesLess X.toList Y.toList), .bool true]) ∧ Below w.heap.size w w' := by
  have ha := fun w => normR_at t a ht 1 hr _ hp w
  have hb := fun w => normR_at t b ht 1 hr _ hq w
  have hru := fun w => ruleRef_any t ht w
  rw [hr] at hru
  have e1 : sB (some X.data.toList) = X := by simp [sB]
  have e2 : sB (some Y.data.toList) = Y := by simp [sB]
  simp only [e1, Option.isSome_some] at ha
  simp only [e2, Option.isSome_some] at hb
  have HA := Lib.hid ha
  have HQ := Lib.hid hb
  have HR := Lib.hid hru
  have tok : True := trivial
  clear ha hb hru hr hp hq e1 e2
  go_enter Tryz.func41, Tryz.ntmps41
  go_wp2_with (first | (go_at_call 39; first | (have _t := tok; (with_reducible refine (HA.out _).mono ?_); rintro e w1 ⟨rfl, hb1⟩; have HB := Lib.hid hb1; clear hb1 tok) | ((with_reducible refine (HQ.out _).mono ?_); rintro e w2 ⟨rfl, hb2⟩; have HB := Lib.hid (bthen HB.out hb2); clear hb2)) | (go_at_call 38; refine (HR.out _).mono ?_; rintro e w3 ⟨rfl, hb3⟩; have HB := Lib.hid (bthen HB.out hb3); clear hb3))
  go_ret2
  exact ⟨rfl, (HB.out.alloc HB.out.size _).alloc (by have := HB.out.size; simp; omega) _⟩

def TwoAt (W : World) (b : Nat) (x y : Value) (w : World) : Prop := w.cell? ⟨b, 0, none⟩ = some x ∧ w.cell? ⟨b + 1, 0, none⟩ = some y ∧ b + 1 < W.heap.size ∧ Below W.heap.size W w
theorem TwoAt.go {W w w1 : World} {b : Nat} {x y : Value} (h : TwoAt W b x y w) (hb : Below w.heap.size w w1) : w1.cell? ⟨b, 0, none⟩ = some x ∧ w1.cell? ⟨b + 1, 0, none⟩ = some y ∧ TwoAt W b x y w1 := by
  obtain ⟨h1, h2, h3, h4⟩ := h
  have hs := h4.size
  have c1 := (hb.cell (p := ⟨b, 0, none⟩) (by show b < _; omega)).trans h1
  have c2 := (hb.cell (p := ⟨b + 1, 0, none⟩) (by show b + 1 < _; omega)).trans h2
  exact ⟨c1, c2, c1, c2, h3, h4.trans (hb.mono hs)⟩

set_option maxRecDepth 100000 in
set_option maxHeartbeats 8000000 in
theorem lessRef_int (t a b : ByteArray) (m n : Int) (ht : t.size ≤ 281474976710656) (ha0 : a.size ≤ 281474976710656) (hb0 : b.size ≤ 281474976710656) (w : World) (hr : ruleD t.data.toList = 2) (hp : normD 2 a.data.toList = some a.data.toList) (hq : normD 2 b.data.toList = some b.data.toList)
    (hm : numD a.data.toList = some m) (hn : numD b.data.toList = some n) :
    Calls Tryz.prog 41 #[.string t, .string a, .string b] w fun e w' => e = .returned (.tuple #[.bool (decide (m < n)), .bool true]) ∧ Below w.heap.size w w' := by
  have ha := fun w => normR_at t a ht 2 hr _ hp w
  have hb := fun w => normR_at t b ht 2 hr _ hq w
  have hru := fun w => ruleRef_any t ht w
  rw [hr] at hru
  have e1 : sB (some a.data.toList) = a := by simp [sB]
  have e2 : sB (some b.data.toList) = b := by simp [sB]
  simp only [e1, Option.isSome_some] at ha
  simp only [e2, Option.isSome_some] at hb
  have h1 := fun w => numberRef_any a ha0 w
  have h2 := fun w => numberRef_any b hb0 w
  rw [hm] at h1
  rw [hn] at h2
  simp only [numR] at h1 h2
  have HA := Lib.hid ha
  have HQ := Lib.hid hb
  have HR := Lib.hid hru
  have H1 := Lib.hid h1
  have H2 := Lib.hid h2
  have tok : True := trivial
  clear ha hb hru hr hp hq e1 e2 h1 h2 hm hn
  go_enter Tryz.func41, Tryz.ntmps41
  go_wp2_with (first | (go_at_call 39; first | (have _t := tok; (with_reducible refine (HA.out _).mono ?_); rintro e w1 ⟨rfl, hb1⟩; have HB := Lib.hid hb1; clear hb1 tok) | ((with_reducible refine (HQ.out _).mono ?_); rintro e w2 ⟨rfl, hb2⟩; have HB := Lib.hid (bthen HB.out hb2); clear hb2)) | (go_at_call 38; refine (HR.out _).mono ?_; rintro e w3 ⟨rfl, hb3⟩; have HB := Lib.hid (bthen HB.out hb3); clear hb3))
  have hbw := (HB.out.alloc HB.out.size (.cells #[.string a, .bool true] 62)).alloc (by have := HB.out.size; simp; omega) (.cells #[.string b, .bool true] 62)
  have hst : TwoAt ((w3.alloc (.cells #[.string a, .bool true] 62)).alloc (.cells #[.string b, .bool true] 62)) w3.heap.size (.string a) (.string b) ((w3.alloc (.cells #[.string a, .bool true] 62)).alloc (.cells #[.string b, .bool true] 62)) := ⟨by simp, by simp, by simp, Below.refl _ _⟩
  generalize ((w3.alloc (.cells #[.string a, .bool true] 62)).alloc (.cells #[.string b, .bool true] 62)) = W at *
  generalize w3.heap.size = b8 at *
  have HBW := Lib.hid hbw
  have hst := hst.go (Below.refl _ _)
  have hfl := field_num0
  clear hbw
  go_region_held3 (fun w' => w'.cell? ⟨b8, 0, none⟩ = some (.string a) ∧ w'.cell? ⟨b8 + 1, 0, none⟩ = some (.string b) ∧ TwoAt W b8 (.string a) (.string b) w')
    (first | exact hst | (go_split_ands; exact TwoAt.go (by assumption) hb4) | (go_split_ands; exact TwoAt.go (by assumption) (Below.refl _ _).drew) | (go_split_ands; exact TwoAt.go (by assumption) (Below.refl _ _)))
    (first | (go_at_call 51; go_split_ands; (with_reducible refine (H1.out _).mono ?_); rintro e w4 ⟨rfl, hb4⟩) | (go_at_call 51; go_split_ands; (with_reducible refine (H2.out _).mono ?_); rintro e w4 ⟨rfl, hb4⟩))
  go_split_ands
  have hT : TwoAt W b8 (.string a) (.string b) w4 := by assumption
  have HT := Lib.hid hT.2.2.2
  clear hT
  go_wp2
  go_ret2
  exact ⟨rfl, HBW.out.trans (HT.out.mono HBW.out.size)⟩
end Go.Proofs.YtdgnefcpeocbjaaGreatDoor

/- schema.valsOf, has, most: the walks. -/
namespace Go.Proofs.YtdgnefcpeocbjaaGreatDoor
open Go.RowKit
set_option linter.unusedVariables false

/-- The values of the first attribute of a type, by its very letters. -/
def valsS (L : List AT) (t : List UInt8) : List (List UInt8) := match L.find? (fun a => a.1 == t) with
  | some a => a.2
  | none => []
def hasS (L : List AT) (t : List UInt8) : Bool := decide (0 < (valsS L t).length)
def mostS (t : List UInt8) : Int := if t = [117, 105, 100, 110, 117, 109, 98, 101, 114] then 1 else 40
theorem valsS_at {L : List AT} {t : List UInt8} (j : Nat) (hj : j < L.length) (h : ∀ k (hk : k < L.length), k < j → L[k].1 ≠ t) (he : L[j].1 = t) : valsS L t = L[j].2 := by
  have : L.find? (fun a => a.1 == t) = some L[j] := by
    induction L generalizing j with
    | nil => simp at hj
    | cons x l ih =>
      cases j with
      | zero => rw [List.find?_cons_of_pos (by simpa using he)]; rfl
      | succ j =>
        have h0 := h 0 (by simp) (by omega)
        rw [List.find?_cons_of_neg (by simpa using h0)]
        exact ih j (by simpa using hj) (fun k hk hkj => h (k + 1) (by simpa using hk) (by omega)) he
  unfold valsS; rw [this]
theorem valsS_no {L : List AT} {t : List UInt8} (h : ∀ k (hk : k < L.length), L[k].1 ≠ t) : valsS L t = [] := by
  have : L.find? (fun a => a.1 == t) = none := by
    rw [List.find?_eq_none]
    intro a ha
    obtain ⟨k, hk, rfl⟩ := List.getElem_of_mem ha
    simpa using h k hk
  unfold valsS; rw [this]

end Go.Proofs.YtdgnefcpeocbjaaGreatDoor

/- The classes; what an entry lacks first: what they are; no program. -/
namespace Go.Proofs.YtdgnefcpeocbjaaGreatDoor
open Go.RowKit
set_option linter.unusedVariables false

/-- A class: its name, the one above it, whether it is structural, what it must and may have. -/
structure CT where
  name : List UInt8
  sup : List UInt8
  st : Bool
  must : List UInt8
  may : List UInt8
def CT.mustL (c : CT) : List (List UInt8) := Lib.fields c.must
def CT.mayL (c : CT) : List (List UInt8) := Lib.fields c.may
def classL : List CT := [
  ⟨[116, 111, 112], [], false, [111, 98, 106, 101, 99, 116, 99, 108, 97, 115, 115], []⟩,
  ⟨[111, 114, 103, 97, 110, 105, 122, 97, 116, 105, 111, 110], [116, 111, 112], true, [111], [100, 101, 115, 99, 114, 105, 112, 116, 105, 111, 110]⟩,
  ⟨[111, 114, 103, 97, 110, 105, 122, 97, 116, 105, 111, 110, 97, 108, 117, 110, 105, 116], [116, 111, 112], true, [111, 117], [100, 101, 115, 99, 114, 105, 112, 116, 105, 111, 110]⟩,
  ⟨[112, 101, 114, 115, 111, 110], [116, 111, 112], true, [99, 110, 32, 115, 110], [100, 101, 115, 99, 114, 105, 112, 116, 105, 111, 110, 32, 117, 115, 101, 114, 112, 97, 115, 115, 119, 111, 114, 100]⟩,
  ⟨[105, 110, 101, 116, 111, 114, 103, 112, 101, 114, 115, 111, 110], [112, 101, 114, 115, 111, 110], true, [], [117, 105, 100, 32, 109, 97, 105, 108]⟩,
  ⟨[112, 111, 115, 105, 120], [116, 111, 112], false, [117, 105, 100, 32, 117, 105, 100, 110, 117, 109, 98, 101, 114], []⟩,
  ⟨[103, 114, 111, 117, 112, 111, 102, 110, 97, 109, 101, 115], [116, 111, 112], true, [99, 110, 32, 109, 101, 109, 98, 101, 114], [100, 101, 115, 99, 114, 105, 112, 116, 105, 111, 110]⟩]
def findC (n : List UInt8) : Option CT := classL.find? (fun c => c.name == n)
theorem findC_at {n : List UInt8} {k : Nat} (hk : k < classL.length) (h : ∀ i, (h : i < classL.length) → i < k → classL[i].name ≠ n) (he : classL[k].name = n) : findC n = some classL[k] := by
  unfold findC
  rw [List.find?_eq_some_iff_getElem]
  refine ⟨by simpa using he, k, hk, rfl, fun j hj => ?_⟩
  have := h j (by omega) hj
  simpa using this
theorem findC_no {n : List UInt8} (h : ∀ i, (h : i < classL.length) → classL[i].name ≠ n) : findC n = none := by
  unfold findC
  rw [List.find?_eq_none]
  intro a ha
  obtain ⟨k, hk, rfl⟩ := List.getElem_of_mem ha
  simpa using h k hk
theorem findC_mem {n : List UInt8} {c : CT} (h : findC n = some c) : c ∈ classL ∧ c.name = n := ⟨List.mem_of_find?_eq_some h, by simpa using List.find?_some h⟩

/-- A class and those above it: three are the most there are. -/
def chainC : Nat → List UInt8 → List CT
  | 0, _ => []
  | k + 1, n => match findC n with
    | none => []
    | some c => c :: chainC k c.sup
theorem chain_end : ∀ c ∈ classL, chainC 3 c.sup = chainC 2 c.sup := by
  intro c hc
  simp only [classL, List.mem_cons, List.not_mem_nil, or_false] at hc
  rcases hc with rfl | rfl | rfl | rfl | rfl | rfl | rfl <;> rfl
theorem chain_step {n : List UInt8} {c : CT} (h : findC n = some c) : chainC 3 n = c :: chainC 3 c.sup := by
  rw [chain_end c (findC_mem h).1]
  show (match findC n with | none => [] | some c => c :: chainC 2 c.sup) = _
  rw [h]
theorem chain_none {n : List UInt8} (h : findC n = none) : chainC 3 n = [] := by
  show (match findC n with | none => [] | some c => c :: chainC 2 c.sup) = _
  rw [h]

def objB : List UInt8 := [111, 98, 106, 101, 99, 116, 99, 108, 97, 115, 115]
/-- The classes that values name, with those above them; whether one that is named is structural. -/
def allC : List (List UInt8) → Option (List CT × Bool)
  | [] => some ([], false)
  | v :: l => match findC (fold v) with
    | none => none
    | some c => (allC l).map fun p => (chainC 3 (fold v) ++ p.1, c.st || p.2)
/-- What is left of it behind some of the values. -/
def allR (A : List CT) (b : Bool) (l : List (List UInt8)) : Option (List CT × Bool) := (allC l).map fun p => (A ++ p.1, b || p.2)
theorem allR_none {A : List CT} {b : Bool} {v : List UInt8} {l : List (List UInt8)} (h : findC (fold v) = none) : allR A b (v :: l) = none := by
  simp [allR, allC, h]
theorem allR_step {A : List CT} {b : Bool} {v : List UInt8} {l : List (List UInt8)} {c : CT} (h : findC (fold v) = some c) : allR A b (v :: l) = allR (A ++ chainC 3 (fold v)) (b || c.st) l := by
  simp only [allR, allC, h]
  cases allC l with
  | none => rfl
  | some p => simp [List.append_assoc, Bool.or_assoc]
theorem allR_end (A : List CT) (b : Bool) : allR A b [] = some (A, b) := by simp [allR, allC]
theorem allR_start (l : List (List UInt8)) : allR [] false l = allC l := by
  unfold allR
  cases allC l <;> simp

def mayC (A : List CT) : List (List UInt8) := A.flatMap fun c => c.mustL ++ c.mayL
def classedD (L : List AT) : Bool := match allC (valsS L objB) with
  | none => false
  | some (A, s) => s && (A.all (fun c => c.mustL.all (hasS L)) && L.all (fun a => (mayC A).contains a.1))

theorem leB_le {a b : List UInt8} (h : leB a b = true) : a ≤ b := by simpa only [leB, decide_eq_true_eq] using h
theorem compact_len_lt {zs : List (List UInt8)} : (Lib.compact zs).length < zs.length ↔ ∃ j, 0 < j ∧ j < zs.length ∧ zs[j]? = zs[j - 1]? := by
  unfold Lib.compact Lib.compactUpTo
  rw [List.length_map]
  constructor
  · intro h
    have : ¬ ∀ j ∈ List.range zs.length, Lib.keeps zs.toArray j = true := fun e => by
      rw [List.filter_eq_self.2 e, List.length_range] at h
      omega
    obtain ⟨j, hj⟩ := Classical.not_forall.1 this
    obtain ⟨hm, hk⟩ := Classical.not_imp.1 hj
    rw [List.mem_range] at hm
    simp only [Lib.keeps, decide_eq_true_eq, not_or, Decidable.not_not] at hk
    refine ⟨j, by omega, hm, ?_⟩
    have h1 : j < zs.toArray.size := by simpa using hm
    have h2 : j - 1 < zs.toArray.size := by simp; omega
    have e := hk.2
    rw [getElem!_pos _ j h1, getElem!_pos _ (j - 1) h2] at e
    simp only [List.getElem_toArray] at e
    rw [List.getElem?_eq_getElem hm, List.getElem?_eq_getElem (by omega), e]
  · rintro ⟨j, h0, hm, e⟩
    have h1 : j < zs.toArray.size := by simpa using hm
    have h2 : j - 1 < zs.toArray.size := by simp; omega
    have hk : Lib.keeps zs.toArray j = false := by
      refine Lib.keeps_neg h0 ?_
      rw [getElem!_pos _ j h1, getElem!_pos _ (j - 1) h2]
      simp only [List.getElem_toArray]
      rw [List.getElem?_eq_getElem hm, List.getElem?_eq_getElem (by omega)] at e
      exact Option.some.inj e
    have hlt : ((List.range zs.length).filter (Lib.keeps zs.toArray)).length < (List.range zs.length).length := List.length_filter_lt_length_iff_exists.2 ⟨j, List.mem_range.2 hm, by rw [hk]; simp⟩
    rw [List.length_range] at hlt
    exact hlt
theorem dup_iff (l : List (List UInt8)) : (Lib.compact (l.mergeSort leB)).length < l.length ↔ ¬ l.Nodup := by
  have tr : ∀ a b c : List UInt8, leB a b = true → leB b c = true → leB a c = true := fun a b c h1 h2 => by simp only [leB, decide_eq_true_eq] at *; exact List.le_trans h1 h2
  have tot : ∀ a b : List UInt8, (leB a b || leB b a) = true := fun a b => by simp only [leB, Bool.or_eq_true, decide_eq_true_eq]; exact List.le_total a b
  have hp := List.mergeSort_perm l leB
  have hs := List.pairwise_mergeSort tr tot l
  rw [← hp.nodup_iff, ← hp.length_eq, compact_len_lt]
  generalize l.mergeSort leB = m at hs
  rw [List.pairwise_iff_getElem] at hs
  constructor
  · rintro ⟨j, h0, hm, e⟩ hn
    have := List.pairwise_iff_getElem.1 hn (j - 1) j (by omega) hm (by omega)
    rw [List.getElem?_eq_getElem hm, List.getElem?_eq_getElem (by omega)] at e
    exact this (Option.some.inj e).symm
  · intro hn
    refine Classical.byContradiction fun hno => hn (List.pairwise_iff_getElem.2 fun i j hi hj hij e => hno ⟨i + 1, by omega, by omega, ?_⟩)
    have h1 : i + 1 < m.length := by omega
    have a := leB_le (hs i (i + 1) hi h1 (by omega))
    have b : m[i + 1] ≤ m[j] := by
      by_cases q : i + 1 = j
      · subst q; exact List.le_refl _
      · exact leB_le (hs (i + 1) j h1 hj (by omega))
    rw [← e] at b
    rw [List.getElem?_eq_getElem h1, show i + 1 - 1 = i from by omega, List.getElem?_eq_getElem hi, List.le_antisymm b a]

/-- What is wrong of one attribute's values. -/
def normsS (r : Nat) : List (List UInt8) → Option (List (List UInt8))
  | [] => some []
  | v :: l => match normD r v with
    | none => none
    | some x => (normsS r l).map (x :: ·)
def valsC (t : List UInt8) (V : List (List UInt8)) : Int :=
  if V.length = 0 ∨ mostS t < (V.length : Int) then 19 else match normsS (ruleD t) V with
  | none => 21
  | some l => if l.Nodup then 0 else 20
theorem normsS_len {r : Nat} : ∀ {V l : List (List UInt8)}, normsS r V = some l → l.length = V.length
  | [], l, h => by simp only [normsS, Option.some.injEq] at h; subst h; rfl
  | v :: V, l, h => by
    simp only [normsS] at h
    cases e : normD r v with
    | none => rw [e] at h; cases h
    | some x =>
      rw [e] at h
      cases e2 : normsS r V with
      | none => rw [e2] at h; cases h
      | some m =>
        rw [e2] at h
        simp only [Option.map_some, Option.some.injEq] at h
        subst h
        simp [normsS_len e2]
def normsR (r : Nat) (A : List (List UInt8)) (l : List (List UInt8)) : Option (List (List UInt8)) := (normsS r l).map (A ++ ·)
theorem normsR_none {r : Nat} {A l : List (List UInt8)} {v : List UInt8} (h : normD r v = none) : normsR r A (v :: l) = none := by
  simp [normsR, normsS, h]
theorem normsR_step {r : Nat} {A l : List (List UInt8)} {v x : List UInt8} (h : normD r v = some x) : normsR r A (v :: l) = normsR r (A ++ [x]) l := by
  simp only [normsR, normsS, h]
  cases normsS r l <;> simp
theorem normsR_end (r : Nat) (A : List (List UInt8)) : normsR r A [] = some A := by simp [normsR, normsS]
theorem normsR_start (r : Nat) (l : List (List UInt8)) : normsR r [] l = normsS r l := by
  unfold normsR
  cases normsS r l <;> simp

/-- Sound attributes, or what is wrong first. -/
def soundR : List AT → List AT → Except Int (List AT)
  | A, [] => .ok A
  | A, a :: l => match canonD a.1 with
    | none => .error 17
    | some t => if hasS A t then .error 20 else if valsC t a.2 = 0 then soundR (A ++ [(t, a.2)]) l else .error (valsC t a.2)
def namedD (L : List AT) (d : List UInt8) : Bool := match parseD d with
  | some (r :: _) => (valsS L ((canonD r.1).getD [])).any fun v => sameO (normD (ruleD ((canonD r.1).getD [])) v) (normD (ruleD ((canonD r.1).getD [])) r.2)
  | _ => false
def behindD (L : List AT) (d : List UInt8) : Int := if classedD L = false then 65 else if namedD L d = false then 64 else 0
def checkD (d : List UInt8) (L : List AT) : Int := match keyD d with
  | none => 34
  | some k => if k = [] then 34 else if 20 < L.length then 19 else match soundR [] L with
    | .error c => c
    | .ok A => behindD A d
end Go.Proofs.YtdgnefcpeocbjaaGreatDoor

/- Sound attributes, and classes, in rows of the call's own. -/
namespace Go.Proofs.YtdgnefcpeocbjaaGreatDoor
open Go.RowKit
set_option linter.unusedVariables false

/-- What the row's attributes are; their values lie below the block B. -/
def SaysV (B : Nat) (w : World) (P : List PT) (L : List AT) : Prop := P.length = L.length ∧ ∀ j (h : j < L.length) (h' : j < P.length), P[j].1 = L[j].1 ∧ IsT B w L[j].2 P[j].2
def OwnV (B : Nat) (w : World) (v : Value) (L : List AT) : Prop := ∃ P, RowP B w v P ∧ SaysV B w P L
theorem saysV_go {B n : Nat} {w w' : World} {P : List PT} {L : List AT} (h : SaysV B w P L) (hb : Below n w w') (hn : B ≤ n) : SaysV B w' P L :=
  ⟨h.1, fun j h1 h2 => ⟨(h.2 j h1 h2).1, (h.2 j h1 h2).2.below (hb.mono hn) (Nat.le_refl _)⟩⟩
theorem ownV_below {B : Nat} {w w' : World} {v : Value} {L : List AT} (h : OwnV B w v L) (hb : Below w.heap.size w w') (hB : B ≤ w.heap.size) : OwnV B w' v L := by
  obtain ⟨P, h1, h2⟩ := h
  exact ⟨P, rowP_below h1 hb, saysV_go h2 hb hB⟩
theorem ownV_slice {B : Nat} {w : World} {v : Value} {L : List AT} (h : OwnV B w v L) : ∃ a c, v = .slice a L.length c := by
  obtain ⟨P, h1, h2⟩ := h
  rw [← h2.1]
  exact rowP_slice h1
theorem ownV_nil (B : Nat) (w : World) : OwnV B w (.slice none 0 0) [] := ⟨[], World.ownsRow_nil _ _ _ _, rfl, fun j h => absurd h (by simp)⟩
theorem ownV_isA {B : Nat} {w : World} {v : Value} {L : List AT} (h : OwnV B w v L) (hl : L.length ≤ maxLen) (hB : B ≤ w.heap.size) : IsA w.heap.size w L v := by
  obtain ⟨P, h1, h2⟩ := h
  by_cases hne : P = []
  · subst hne
    obtain ⟨a, c, hv⟩ := rowP_slice h1
    have : L = [] := List.eq_nil_of_length_eq_zero (by have := h2.1; simpa using this.symm)
    subst this
    exact ⟨a, c, hv, hl, fun j hj => absurd hj (by simp)⟩
  · obtain ⟨g, c, hv, _, hg, hc⟩ := rowP_at h1 hne
    refine ⟨_, c, by rw [hv, h2.1], hl, fun j hj => ?_⟩
    have hj' : j < P.length := by rw [h2.1]; exact hj
    obtain ⟨e1, e2⟩ := h2.2 j hj hj'
    refine ⟨g, 0, P[j].2, rfl, hg, ?_, ?_, e2.below (Below.refl _ _) hB⟩
    · rw [Nat.zero_add, ← e1]; exact (hc j hj').1
    · rw [Nat.zero_add]; exact (hc j hj').2
theorem saysV_more {B : Nat} {w w' : World} {P : List PT} {L : List AT} {X : List UInt8} {u : Value} {A : List (List UInt8)} (h : SaysV B w P L) (hu : IsT B w A u) (hb : Below B w w') : SaysV B w' (P ++ [(X, u)]) (L ++ [(X, A)]) := by
  refine ⟨by simp [h.1], fun j h1 h2 => ?_⟩
  by_cases hj : j < L.length
  · have hj' : j < P.length := by rw [h.1]; exact hj
    rw [List.getElem_append_left hj', List.getElem_append_left hj]
    exact ⟨(h.2 j hj hj').1, (h.2 j hj hj').2.below hb (Nat.le_refl _)⟩
  · have e1 : j = L.length := by simp at h1; omega
    have e2 : j = P.length := by rw [h.1]; exact e1
    have g1 : (P ++ [(X, u)])[j] = (X, u) := by simp [e2]
    have g2 : (L ++ [(X, A)])[j] = (X, A) := by simp [e1]
    rw [g1, g2]
    exact ⟨rfl, hu.below hb (Nat.le_refl _)⟩
theorem ownV_more {B : Nat} {w w' : World} {v' : Value} {P : List PT} {L : List AT} {X : ByteArray} {u : Value} {A : List (List UInt8)} (hs : SaysV B w P L) (hu : IsT B w A u)
    (hr : w'.ownsRow B 45 2 v' (P.length + 1) (cellsP P ++ [.string X, u])) (hb : Below B w w') : OwnV B w' v' (L ++ [(X.data.toList, A)]) := by
  refine ⟨P ++ [(X.data.toList, u)], ?_, saysV_more hs hu hb⟩
  unfold RowP
  rw [List.length_append, cellsP_append]
  show w'.ownsRow B 45 2 v' (P.length + 1) (cellsP P ++ [strV X.data.toList, u])
  rw [strV_whole]
  exact hr
/-- 'append(l, a)' of one attribute whose values came in. -/
theorem wpList_append_attrB {ops : Array Oper} {rest : List Oper} {o : Oper} {a : Act} {w : World} {Q : Exit → Act → World → Prop} (hgd : o.guard = none) (sl x : Operand)
    (ho : o.op = .call { callee := .builtin .append, args := #[sl, x], argTypes := #[26, 26] })
    (base : Nat) (v : Value) (L : List AT) (hs : a.eval sl = v) (X : ByteArray) (u : Value) (A : List (List UInt8)) (hown : OwnV base w v L) (hu : IsT base w A u) (hx : a.eval x = .slice (some ⟨w.heap.size, 0, none⟩) 1 1)
    (h63 : L.length + 1 ≤ 1000000) (hbase : base ≤ w.heap.size)
    (h : ∀ v' w', OwnV base w' v' (L ++ [(X.data.toList, A)]) → Below base w w' → wpList Tryz.prog ops Q rest (a.put o.dst v') w') : wpList Tryz.prog ops Q (o :: rest) a (w.alloc (.cells #[.string X, u] 45)) := by
  obtain ⟨i0, hi, hz0, hz1, hz2⟩ := info_parts infoA
  obtain ⟨P, hr, hsay⟩ := hown
  have hb : Below w.heap.size w (w.alloc (.cells #[.string X, u] 45)) := (Below.refl _ _).alloc (Nat.le_refl _) _
  have hPL := hsay.1
  have hu1 : u.oneCell' = true := by obtain ⟨_, _, rfl, _⟩ := hu; rfl
  refine wpList_append_own_at _ hgd sl x 26 ho base 45 i0 (.agg #[.string ⟨#[]⟩, .slice none 0 0]) 2 40 Tryz.underlying26 hi hz0 hz1 hz2 rfl (by decide) v P.length (cellsP P) hs (World.ownsRow.alloc hr _) ⟨w.heap.size, 0, none⟩ 1 1 [.string X, u] hx rfl (newsA w _ _) (by intro u' hu'; simp at hu'; rcases hu' with rfl | rfl; rfl; exact hu1) (by unfold maxLen; omega) (by omega) (by simp; omega) ?_
  intro v' w' hown' hgrow _ hat
  have hbb : Below base w w' := ((Below.refl base w).alloc hbase _).grown hgrow (by simp; omega) (fun k e => (World.ownsRow.lt hr k e).1)
  exact h v' w' (ownV_more hsay hu hown' hbb) hbb

abbrev KT := CT × Value × Value
def cellsK : List KT → List Value
  | [] => []
  | r :: l => strV r.1.name :: strV r.1.sup :: .bool r.1.st :: r.2.1 :: r.2.2 :: cellsK l
theorem cellsK_append : ∀ a b : List KT, cellsK (a ++ b) = cellsK a ++ cellsK b
  | [], _ => rfl
  | r :: a, b => by show _ :: _ :: _ :: _ :: _ :: cellsK (a ++ b) = _; rw [cellsK_append a b]; rfl
theorem cellsK_get : ∀ (l : List KT) (j : Nat) (h : j < l.length), (cellsK l)[j * 5]? = some (strV l[j].1.name) ∧ (cellsK l)[j * 5 + 1]? = some (strV l[j].1.sup) ∧ (cellsK l)[j * 5 + 2]? = some (.bool l[j].1.st) ∧ (cellsK l)[j * 5 + 3]? = some l[j].2.1 ∧ (cellsK l)[j * 5 + 4]? = some l[j].2.2
  | r :: l, 0, _ => ⟨rfl, rfl, rfl, rfl, rfl⟩
  | r :: l, j + 1, h => by
    have := cellsK_get l j (by simpa using h)
    rw [show (j + 1) * 5 = j * 5 + 5 from by omega]
    exact this
/-- The block b is the call's own, and neither the row's nor g. -/
abbrev Apart (B g : Nat) (w : World) (v : Value) (b : Nat) : Prop := B ≤ b ∧ b < w.heap.size ∧ some b ≠ v.ownBlock ∧ b ≠ g
def SaysK (B g : Nat) (w : World) (v : Value) (P : List KT) : Prop := ∀ j (h : j < P.length), IsTo (Apart B g w v) w P[j].1.mustL P[j].2.1 ∧ IsTo (Apart B g w v) w P[j].1.mayL P[j].2.2
theorem saysK_below {B g : Nat} {w w' : World} {v : Value} {P : List KT} (h : SaysK B g w v P) (hb : Below w.heap.size w w') : SaysK B g w' v P :=
  fun j h1 => ⟨(h j h1).1.imp (fun b hk => ⟨hk.1, Nat.lt_of_lt_of_le hk.2.1 hb.size, hk.2.2⟩) (fun b o hk => hb.cell (p := ⟨b, o, none⟩) hk.2.1), (h j h1).2.imp (fun b hk => ⟨hk.1, Nat.lt_of_lt_of_le hk.2.1 hb.size, hk.2.2⟩) (fun b o hk => hb.cell (p := ⟨b, o, none⟩) hk.2.1)⟩
/-- The value v is the list of these classes, below block n0. -/
def IsK (n0 : Nat) (w : World) (L : List CT) (v : Value) : Prop := ∃ a c, v = .slice a L.length c ∧ L.length ≤ maxLen ∧
  ∀ j, (h : j < L.length) → ∃ b off u1 u2, a = some ⟨b, off, none⟩ ∧ b < n0 ∧ w.cell? ⟨b, off + j * 5, none⟩ = some (strV L[j].name) ∧ w.cell? ⟨b, off + j * 5 + 1, none⟩ = some (strV L[j].sup) ∧ w.cell? ⟨b, off + j * 5 + 2, none⟩ = some (.bool L[j].st) ∧ w.cell? ⟨b, off + j * 5 + 3, none⟩ = some u1 ∧ w.cell? ⟨b, off + j * 5 + 4, none⟩ = some u2 ∧ IsT n0 w L[j].mustL u1 ∧ IsT n0 w L[j].mayL u2
theorem IsK.below {n0 n1 : Nat} {w w' : World} {L : List CT} {v : Value} (h : IsK n0 w L v) (hb : Below n0 w w') (hn : n0 ≤ n1) : IsK n1 w' L v := by
  obtain ⟨a, c, hv, hm, hc⟩ := h
  refine ⟨a, c, hv, hm, fun j hj => ?_⟩
  obtain ⟨b, off, u1, u2, ha, hlt, c0, c1, c2, c3, c4, ht, hu⟩ := hc j hj
  exact ⟨b, off, u1, u2, ha, Nat.lt_of_lt_of_le hlt hn, (hb.cell (p := ⟨b, _, none⟩) hlt).trans c0, (hb.cell (p := ⟨b, _, none⟩) hlt).trans c1, (hb.cell (p := ⟨b, _, none⟩) hlt).trans c2, (hb.cell (p := ⟨b, _, none⟩) hlt).trans c3, (hb.cell (p := ⟨b, _, none⟩) hlt).trans c4, ht.below hb hn, hu.below hb hn⟩
theorem saysK_more {B g : Nat} {w w' : World} {v v' : Value} {P : List KT} {r : KT} (h : SaysK B g w v P) (hu : IsTo (Apart B g w v) w r.1.mustL r.2.1) (hv : IsTo (Apart B g w v) w r.1.mayL r.2.2)
    (hg : w.grownBy w' v.ownBlock) (hat : v'.ownBlock = v.ownBlock ∨ v'.ownBlock = some w.heap.size) : SaysK B g w' v' (P ++ [r]) := by
  have ok : ∀ b, Apart B g w v b → Apart B g w' v' b := fun b hb => ⟨hb.1, Nat.lt_of_lt_of_le hb.2.1 hg.size, by
    rcases hat with e | e
    · rw [e]; exact hb.2.2.1
    · rw [e]; intro h; have := Option.some.inj h; have := hb.2.1; omega, hb.2.2.2⟩
  have hc : ∀ b o, Apart B g w v b → w'.cell? ⟨b, o, none⟩ = w.cell? ⟨b, o, none⟩ := fun b o hb => by
    have := hg.block b hb.2.1 hb.2.2.1
    simp only [World.cell?, this]
  intro j h1
  by_cases hj : j < P.length
  · rw [List.getElem_append_left hj]
    exact ⟨(h j hj).1.imp ok hc, (h j hj).2.imp ok hc⟩
  · have e2 : j = P.length := by simp at h1; omega
    have g1 : (P ++ [r])[j] = r := by simp [e2]
    rw [g1]
    exact ⟨hu.imp ok hc, hv.imp ok hc⟩
end Go.Proofs.YtdgnefcpeocbjaaGreatDoor

/- schema.rows, row.class, find: the walks. -/
namespace Go.Proofs.YtdgnefcpeocbjaaGreatDoor
open Go.RowKit
set_option linter.unusedVariables false

/-- The table of white space is as the library lays it. -/
def LaidF (w : World) : Prop := Lib.TabIs Tryz.prog w "strings.asciiSpace" .u8 Lib.asciiSpaceTab
def plainB (l : List UInt8) : Bool := l.all (fun b => decide (b.toNat < 128)) && decide (l.length < 1000)
/-- Own blocks: made since the block B. -/
abbrev New (B : Nat) (w : World) (b : Nat) : Prop := B ≤ b ∧ b < w.heap.size
theorem isTo_new {L : List (List UInt8)} {w : World} {v : Value} {B : Nat} (h : OwnS B w v L) (hl : L.length ≤ maxLen) : IsTo (New B w) w L v := ownS_isTo h hl

def rowCells : Array Value := #[.string { data := #[116, 111, 112] }, .string { data := #[] }, .bool false, .string { data := #[111, 98, 106, 101, 99, 116, 99, 108, 97, 115, 115] }, .string { data := #[] }, .string { data := #[111, 114, 103, 97, 110, 105, 122, 97, 116, 105, 111, 110] }, .string { data := #[116, 111, 112] }, .bool true, .string { data := #[111] }, .string { data := #[100, 101, 115, 99, 114, 105, 112, 116, 105, 111, 110] }, .string { data := #[111, 114, 103, 97, 110, 105, 122, 97, 116, 105, 111, 110, 97, 108, 117, 110, 105, 116] }, .string { data := #[116, 111, 112] }, .bool true, .string { data := #[111, 117] }, .string { data := #[100, 101, 115, 99, 114, 105, 112, 116, 105, 111, 110] }, .string { data := #[112, 101, 114, 115, 111, 110] }, .string { data := #[116, 111, 112] }, .bool true, .string { data := #[99, 110, 32, 115, 110] }, .string { data := #[100, 101, 115, 99, 114, 105, 112, 116, 105, 111, 110, 32, 117, 115, 101, 114, 112, 97, 115, 115, 119, 111, 114, 100] }, .string { data := #[105, 110, 101, 116, 111, 114, 103, 112, 101, 114, 115, 111, 110] }, .string { data := #[112, 101, 114, 115, 111, 110] }, .bool true, .string { data := #[] }, .string { data := #[117, 105, 100, 32, 109, 97, 105, 108] }, .string { data := #[112, 111, 115, 105, 120] }, .string { data := #[116, 111, 112] }, .bool false, .string { data := #[117, 105, 100, 32, 117, 105, 100, 110, 117, 109, 98, 101, 114] }, .string { data := #[] }, .string { data := #[103, 114, 111, 117, 112, 111, 102, 110, 97, 109, 101, 115] }, .string { data := #[116, 111, 112] }, .bool true, .string { data := #[99, 110, 32, 109, 101, 109, 98, 101, 114] }, .string { data := #[100, 101, 115, 99, 114, 105, 112, 116, 105, 111, 110] }]
def rowsV : Value := .agg rowCells
def rowV (c : CT) : Value := .agg #[strV c.name, strV c.sup, .bool c.st, strV c.must, strV c.may]
theorem class_plain : ∀ c ∈ classL, plainB c.must = true ∧ plainB c.may = true := by
  intro c hc
  simp only [classL, List.mem_cons, List.not_mem_nil, or_false] at hc
  rcases hc with rfl | rfl | rfl | rfl | rfl | rfl | rfl <;> decide
theorem fields_len (l : List UInt8) : (Lib.fields l).length ≤ l.length + 1 := by
  have h : ∀ (l cur : List UInt8), (Lib.fieldsGo cur l).length ≤ l.length + 1 := by
    intro l
    induction l with
    | nil => intro cur; unfold Lib.fieldsGo; split <;> simp
    | cons b l ih =>
      intro cur
      unfold Lib.fieldsGo
      split
      · split
        · have := ih []; simp; omega
        · have := ih []; simp; omega
      · have := ih (cur ++ [b]); simp; omega
  exact h l []

theorem isTo_slice {ok : Nat → Prop} {w : World} {L : List (List UInt8)} {v : Value} (h : IsTo ok w L v) : ∃ a n c, v = .slice a n c := by
  obtain ⟨a, c, h, _⟩ := h
  exact ⟨a, _, c, h⟩
/-- The zero class. -/
def noC : Value := .agg #[.string ⟨#[]⟩, .string ⟨#[]⟩, .bool false, .slice none 0 0, .slice none 0 0]

theorem cell_ne (w : World) (a : Addr) (x : Value) {b : Nat} (o : Nat) (h : b ≠ a.block) : (w.setCell a x).cell? ⟨b, o, none⟩ = w.cell? ⟨b, o, none⟩ := by
  have : (w.setCell a x).heap[b]? = w.heap[b]? := by
    unfold World.setCell
    simp [Array.getElem?_modify, Ne.symm h]
  simp only [World.cell?, this]
/-- A block of five cells is written. -/
abbrev set5 (w : World) (b : Nat) (x0 x1 x2 x3 x4 : Value) : World := ((((w.setCell ⟨b, 0, none⟩ x0).setCell ⟨b, 1, none⟩ x1).setCell ⟨b, 2, none⟩ x2).setCell ⟨b, 3, none⟩ x3).setCell ⟨b, 4, none⟩ x4
theorem set5_cell (w : World) (b : Nat) (x0 x1 x2 x3 x4 : Value) {k : Nat} (o : Nat) (h : k ≠ b) : (set5 w b x0 x1 x2 x3 x4).cell? ⟨k, o, none⟩ = w.cell? ⟨k, o, none⟩ := by
  simp only [set5]
  rw [cell_ne _ ⟨b, 4, none⟩ _ o h, cell_ne _ ⟨b, 3, none⟩ _ o h, cell_ne _ ⟨b, 2, none⟩ _ o h, cell_ne _ ⟨b, 1, none⟩ _ o h, cell_ne _ ⟨b, 0, none⟩ _ o h]
theorem set5_below {n b : Nat} {w w' : World} (h : Below n w w') (hb : n ≤ b) (x0 x1 x2 x3 x4 : Value) : Below n w (set5 w' b x0 x1 x2 x3 x4) :=
  ((((h.setCell (p := ⟨b, 0, none⟩) hb _).setCell (p := ⟨b, 1, none⟩) hb _).setCell (p := ⟨b, 2, none⟩) hb _).setCell (p := ⟨b, 3, none⟩) hb _).setCell (p := ⟨b, 4, none⟩) hb _
theorem set5_size (w : World) (b : Nat) (x0 x1 x2 x3 x4 : Value) : (set5 w b x0 x1 x2 x3 x4).heap.size = w.heap.size := by simp [set5, World.setCell]
theorem isTo_set5 {B : Nat} {w : World} {L : List (List UInt8)} {v : Value} (h : IsTo (New B w) w L v) {b : Nat} (hb : b < B) {B' : Nat} (hB : B' ≤ B) (x0 x1 x2 x3 x4 : Value) : IsTo (New B' (set5 w b x0 x1 x2 x3 x4)) (set5 w b x0 x1 x2 x3 x4) L v :=
  h.imp (fun k hk => ⟨Nat.le_trans hB hk.1, by rw [set5_size]; exact hk.2⟩) (fun k o hk => set5_cell w b x0 x1 x2 x3 x4 o (by have := hk.1; omega))
theorem isTo_go {B : Nat} {w w' : World} {L : List (List UInt8)} {v : Value} (h : IsTo (New B w) w L v) (hb : Below w.heap.size w w') {B' : Nat} (hB : B' ≤ B) : IsTo (New B' w') w' L v :=
  h.imp (fun k hk => ⟨Nat.le_trans hB hk.1, Nat.lt_of_lt_of_le hk.2 hb.size⟩) (fun k o hk => hb.cell (p := ⟨k, o, none⟩) hk.2)
end Go.Proofs.YtdgnefcpeocbjaaGreatDoor

/- row.class: the walk. -/
namespace Go.Proofs.YtdgnefcpeocbjaaGreatDoor
open Go.RowKit
set_option linter.unusedVariables false

end Go.Proofs.YtdgnefcpeocbjaaGreatDoor

/- schema.find: the walk. -/
namespace Go.Proofs.YtdgnefcpeocbjaaGreatDoor
open Go.RowKit
set_option linter.unusedVariables false

def FindW (w : World) (o : Option CT) (e : Ending) (w' : World) : Prop := Below w.heap.size w w' ∧ match o with
  | none => e = .returned (.tuple #[noC, .bool false])
  | some c => ∃ u1 u2, e = .returned (.tuple #[.agg #[strV c.name, strV c.sup, .bool c.st, u1, u2], .bool true]) ∧ IsTo (New w.heap.size w') w' c.mustL u1 ∧ IsTo (New w.heap.size w') w' c.mayL u2

end Go.Proofs.YtdgnefcpeocbjaaGreatDoor

/- schema.classesOf: the walk. -/
namespace Go.Proofs.YtdgnefcpeocbjaaGreatDoor
open Go.RowKit
set_option linter.unusedVariables false

theorem chain_len (n : List UInt8) : ∀ k, (chainC k n).length ≤ k := by
  intro k
  induction k generalizing n with
  | zero => simp [chainC]
  | succ k ih =>
    simp only [chainC]
    cases findC n with
    | none => simp
    | some c => have := ih c.sup; simp; omega
def restC : Option CT → List CT
  | none => []
  | some c => c :: chainC 3 c.sup
theorem rest_find (n : List UInt8) : restC (findC n) = chainC 3 n := by
  cases e : findC n with
  | none => rw [chain_none e]; rfl
  | some c => rw [chain_step e]; rfl
theorem lt_set {w : World} {a : Addr} {x : Value} : (w.setCell a x).heap.size = w.heap.size := by simp [World.setCell]
theorem block_ne (w : World) (a : Addr) (x : Value) {b : Nat} (h : b ≠ a.block) : (w.setCell a x).heap[b]? = w.heap[b]? := by
  unfold World.setCell
  simp [Array.getElem?_modify, Ne.symm h]
theorem set5_block (w : World) (g : Nat) (x0 x1 x2 x3 x4 : Value) {b : Nat} (h : b ≠ g) : (set5 w g x0 x1 x2 x3 x4).heap[b]? = w.heap[b]? := by
  simp only [set5]
  rw [block_ne _ ⟨g, 4, none⟩ _ h, block_ne _ ⟨g, 3, none⟩ _ h, block_ne _ ⟨g, 2, none⟩ _ h, block_ne _ ⟨g, 1, none⟩ _ h, block_ne _ ⟨g, 0, none⟩ _ h]
/-- A store into a block that is neither the row's nor one of those that its classes need. -/
theorem grown_set5 (w : World) (g : Nat) (x0 x1 x2 x3 x4 : Value) : w.grownBy (set5 w g x0 x1 x2 x3 x4) (some g) :=
  have hb := set5_below (Below.refl 0 w) (Nat.zero_le g) x0 x1 x2 x3 x4
  ⟨hb.os, hb.tape, hb.output, hb.size, fun k hk hne => set5_block w g x0 x1 x2 x3 x4 (fun e => hne (by rw [e]))⟩
theorem apart_go {B g : Nat} {w w' : World} {l : Value} {v : Value} {A : List (List UInt8)} (h : IsTo (Apart B g w l) w A v) (hb : Below w.heap.size w w') : IsTo (Apart B g w' l) w' A v :=
  h.imp (fun b hk => ⟨hk.1, Nat.lt_of_lt_of_le hk.2.1 hb.size, hk.2.2⟩) (fun b o hk => hb.cell (p := ⟨b, o, none⟩) hk.2.1)
theorem apart_set {B g : Nat} {w : World} {l : Value} {v : Value} {A : List (List UInt8)} (h : IsTo (Apart B g w l) w A v) (x0 x1 x2 x3 x4 : Value) : IsTo (Apart B g (set5 w g x0 x1 x2 x3 x4) l) (set5 w g x0 x1 x2 x3 x4) A v :=
  h.imp (fun b hk => ⟨hk.1, by rw [set5_size]; exact hk.2.1, hk.2.2⟩) (fun b o hk => set5_cell w g x0 x1 x2 x3 x4 o hk.2.2.2)

end Go.Proofs.YtdgnefcpeocbjaaGreatDoor

/- slices.Grow, Concat, Contains at texts: the walks. -/
namespace Go.Proofs.YtdgnefcpeocbjaaGreatDoor
open Go.RowKit
set_option linter.unusedVariables false

theorem flat_take {α : Type} (U : List (List α)) (j : Nat) (h : j < U.length) : (U.take (j + 1)).flatten = (U.take j).flatten ++ U[j] := by
  rw [List.take_succ_eq_append_getElem h, List.flatten_append]
  simp
theorem flat_le {α : Type} (U : List (List α)) (j : Nat) : (U.take j).flatten.length ≤ U.flatten.length := by
  have : U.flatten = (U.take j).flatten ++ (U.drop j).flatten := by rw [← List.flatten_append, List.take_append_drop]
  rw [this, List.length_append]
  omega

/-- A list of lists of texts, below block n0. -/
def IsTT (n0 : Nat) (w : World) (U : List (List (List UInt8))) (v : Value) : Prop := ∃ a c, v = .slice a U.length c ∧ ∀ j, (h : j < U.length) → ∃ b off u, a = some ⟨b, off, none⟩ ∧ b < n0 ∧ w.cell? ⟨b, off + j, none⟩ = some u ∧ IsT n0 w U[j] u

end Go.Proofs.YtdgnefcpeocbjaaGreatDoor

/- slices.Index, Contains at texts; IndexFunc, ContainsFunc with isNamed's question; isNamed: the walks. -/
namespace Go.Proofs.YtdgnefcpeocbjaaGreatDoor
open Go.RowKit
set_option linter.unusedVariables false

/-- A box of one slice. -/
def Box1 (w : World) (b : Nat) (x : Value) : Prop := w.cell? ⟨b, 0, none⟩ = some x
theorem Box1.below {w w' : World} {b n : Nat} {x : Value} (h : Box1 w b x) (hb : Below n w w') (hn : b < n) : Box1 w' b x := (hb.cell (p := ⟨b, 0, none⟩) hn).trans h
theorem box1_new (w : World) (x : Value) (e : TypeId) : Box1 (w.alloc (.cells #[x] e)) w.heap.size x := by
  have h : (w.alloc (.cells #[x] e)).heap[w.heap.size]? = some (.cells #[x] e (0, 0)) := heap_alloc_new w _
  simp only [Box1, World.cell?, h]; rfl

end Go.Proofs.YtdgnefcpeocbjaaGreatDoor

/- schema.checkVals: the walk. -/
namespace Go.Proofs.YtdgnefcpeocbjaaGreatDoor
open Go.RowKit
set_option linter.unusedVariables false

theorem below_own {B : Nat} {w0 w w' : World} {v : Value} {L : List (List UInt8)} (h : Below B w0 w) (hs : B ≤ w.heap.size) (ho : OwnS B w v L) (hg : w.grownBy w' v.ownBlock) : Below B w0 w' :=
  h.grown hg hs (fun k e => (World.ownsRow.lt ho k e).1)

end Go.Proofs.YtdgnefcpeocbjaaGreatDoor

/- schema.sound: the walk. -/
namespace Go.Proofs.YtdgnefcpeocbjaaGreatDoor
open Go.RowKit
set_option linter.unusedVariables false

/-- An attribute in a block of its own. -/
def BoxA (w : World) (b : Nat) (x : ByteArray) (u : Value) : Prop := w.heap[b]? = some (.cells #[.string x, u] 45 (0, 0))
theorem BoxA.below {w w' : World} {b n : Nat} {x : ByteArray} {u : Value} (h : BoxA w b x u) (hb : Below n w w') (hn : b < n) : BoxA w' b x u := (hb.block b hn).trans h
theorem BoxA.cells {w : World} {b : Nat} {x : ByteArray} {u : Value} (h : BoxA w b x u) : w.cell? ⟨b, 0, none⟩ = some (.string x) ∧ w.cell? ⟨b, 1, none⟩ = some u := by
  unfold BoxA at h
  simp [World.cell?, h]
theorem boxA_new (w : World) (x : ByteArray) (u : Value) : BoxA (w.alloc (.cells #[.string x, u] 45)) w.heap.size x u := heap_alloc_new w _

theorem sound_err : ∀ {L A : List AT} {c : Int}, soundR A L = .error c → c ≠ 0
  | [], A, c, h => by simp [soundR] at h
  | a :: l, A, c, h => by
    simp only [soundR] at h
    cases e : canonD a.1 with
    | none => rw [e] at h; simp at h; omega
    | some t =>
      rw [e] at h
      simp only at h
      split at h
      · simp at h; omega
      · split at h
        · exact sound_err h
        · rename_i h2
          simp at h; omega
theorem sound_none {A l : List AT} {a : AT} (h : canonD a.1 = none) : soundR A (a :: l) = .error 17 := by simp [soundR, h]
theorem sound_twice {A l : List AT} {a : AT} {t : List UInt8} (h : canonD a.1 = some t) (h2 : hasS A t = true) : soundR A (a :: l) = .error 20 := by simp [soundR, h, h2]
theorem sound_vals {A l : List AT} {a : AT} {t : List UInt8} (h : canonD a.1 = some t) (h2 : hasS A t = false) (h3 : valsC t a.2 ≠ 0) : soundR A (a :: l) = .error (valsC t a.2) := by simp [soundR, h, h2, h3]
theorem sound_step {A l : List AT} {a : AT} {t : List UInt8} (h : canonD a.1 = some t) (h2 : hasS A t = false) (h3 : valsC t a.2 = 0) : soundR A (a :: l) = soundR (A ++ [(t, a.2)]) l := by simp [soundR, h, h2, h3]

def SoundW (w : World) (o : Except Int (List AT)) (e : Ending) (w' : World) : Prop := Below w.heap.size w w' ∧ match o with
  | .error c => e = .returned (.tuple #[.slice none 0 0, .int .i64 c])
  | .ok A => ∃ u, e = .returned (.tuple #[u, .int .i64 0]) ∧ OwnV w.heap.size w' u A

end Go.Proofs.YtdgnefcpeocbjaaGreatDoor

/- schema.isClassed: the walk. -/
namespace Go.Proofs.YtdgnefcpeocbjaaGreatDoor
open Go.RowKit
set_option linter.unusedVariables false

theorem class_words : ∀ c ∈ classL, (c.mustL ++ c.mayL).length ≤ 8 := by
  intro c hc
  simp only [classL, List.mem_cons, List.not_mem_nil, or_false] at hc
  rcases hc with rfl | rfl | rfl | rfl | rfl | rfl | rfl <;> decide
theorem chain_mem : ∀ (k : Nat) (n : List UInt8), ∀ c ∈ chainC k n, c ∈ classL
  | 0, n, c, h => by simp [chainC] at h
  | k + 1, n, c, h => by
    simp only [chainC] at h
    cases e : findC n with
    | none => rw [e] at h; simp at h
    | some d =>
      rw [e] at h
      rcases List.mem_cons.1 h with rfl | h
      · exact (findC_mem e).1
      · exact chain_mem k d.sup c h
theorem allC_mem : ∀ {V : List (List UInt8)} {A : List CT} {s : Bool}, allC V = some (A, s) → (∀ c ∈ A, c ∈ classL) ∧ A.length ≤ 3 * V.length
  | [], A, s, h => by simp only [allC, Option.some.injEq, Prod.mk.injEq] at h; rw [← h.1]; simp
  | v :: l, A, s, h => by
    simp only [allC] at h
    cases e : findC (fold v) with
    | none => rw [e] at h; cases h
    | some c =>
      rw [e] at h
      cases e2 : allC l with
      | none => rw [e2] at h; cases h
      | some p =>
        obtain ⟨A2, s2⟩ := p
        rw [e2] at h
        simp only [Option.map_some, Option.some.injEq, Prod.mk.injEq] at h
        obtain ⟨h1, h2⟩ := allC_mem e2
        rw [← h.1]
        have := chain_len (fold v) 3
        exact ⟨fun c hc => (List.mem_append.1 hc).elim (chain_mem 3 _ c) (h1 c), by simp; omega⟩
theorem mayC_len {A : List CT} (h : ∀ c ∈ A, c ∈ classL) : (mayC A).length ≤ 8 * A.length := by
  induction A with
  | nil => simp [mayC]
  | cons c A ih =>
    have h1 := class_words c (h c (by simp))
    have h2 := ih (fun d hd => h d (by simp [hd]))
    simp only [mayC, List.flatMap_cons, List.length_append] at *
    simp only [List.length_cons]
    omega
theorem mayC_take (A : List CT) (j : Nat) (h : j < A.length) : mayC (A.take (j + 1)) = mayC (A.take j) ++ (A[j].mustL ++ A[j].mayL) := by
  unfold mayC
  rw [List.take_succ_eq_append_getElem h, List.flatMap_append]
  simp
theorem classed_none {L : List AT} (h : allC (valsS L objB) = none) : classedD L = false := by unfold classedD; rw [h]
theorem classed_not {L : List AT} {A : List CT} (h : allC (valsS L objB) = some (A, false)) : classedD L = false := by unfold classedD; rw [h]; rfl
theorem classed_must {L : List AT} {A : List CT} {s : Bool} (h : allC (valsS L objB) = some (A, s)) {c : CT} (hc : c ∈ A) {t : List UInt8} (ht : t ∈ c.mustL) (hn : hasS L t = false) : classedD L = false := by
  unfold classedD
  rw [h]
  have : A.all (fun c => c.mustL.all (hasS L)) = false := List.all_eq_false.2 ⟨c, hc, by
    simp only [Bool.not_eq_true]
    exact List.all_eq_false.2 ⟨t, ht, by rw [hn]; simp⟩⟩
  simp [this]
theorem classed_may {L : List AT} {A : List CT} {s : Bool} (h : allC (valsS L objB) = some (A, s)) {a : AT} (ha : a ∈ L) (hn : (mayC A).contains a.1 = false) : classedD L = false := by
  unfold classedD
  rw [h]
  have : L.all (fun a => (mayC A).contains a.1) = false := List.all_eq_false.2 ⟨a, ha, by rw [hn]; simp⟩
  simp only [this]
  simp
theorem classed_is {L : List AT} {A : List CT} (h : allC (valsS L objB) = some (A, true)) (h1 : ∀ c ∈ A, ∀ t ∈ c.mustL, hasS L t = true) (h2 : ∀ a ∈ L, (mayC A).contains a.1 = true) : classedD L = true := by
  unfold classedD
  rw [h]
  have e1 : A.all (fun c => c.mustL.all (hasS L)) = true := List.all_eq_true.2 (fun c hc => List.all_eq_true.2 (h1 c hc))
  have e2 : L.all (fun a => (mayC A).contains a.1) = true := List.all_eq_true.2 h2
  simp only [e1, e2]
  rfl

/-- Three lists of texts side by side. -/
theorem isTT_three {n0 : Nat} {w : World} {A1 A2 A3 : List (List UInt8)} {u1 u2 u3 : Value} (h1 : IsT w.heap.size w A1 u1) (h2 : IsT w.heap.size w A2 u2) (h3 : IsT w.heap.size w A3 u3) (e : TypeId) :
    IsTT (w.alloc (.cells #[u1, u2, u3] e)).heap.size (w.alloc (.cells #[u1, u2, u3] e)) [A1, A2, A3] (.slice (some ⟨w.heap.size, 0, none⟩) 3 3) := by
  have ha : Below w.heap.size w (w.alloc (.cells #[u1, u2, u3] e)) := (Below.refl _ _).alloc (Nat.le_refl _) _
  have hh : (w.alloc (.cells #[u1, u2, u3] e)).heap[w.heap.size]? = some (.cells #[u1, u2, u3] e (0, 0)) := heap_alloc_new w _
  refine ⟨_, _, rfl, fun j hj => ?_⟩
  match j, hj with
  | 0, _ => exact ⟨w.heap.size, 0, u1, rfl, by simp, by simp only [World.cell?, hh]; rfl, h1.below ha ha.size⟩
  | 1, _ => exact ⟨w.heap.size, 0, u2, rfl, by simp, by simp only [World.cell?, hh]; rfl, h2.below ha ha.size⟩
  | 2, _ => exact ⟨w.heap.size, 0, u3, rfl, by simp, by simp only [World.cell?, hh]; rfl, h3.below ha ha.size⟩

end Go.Proofs.YtdgnefcpeocbjaaGreatDoor
