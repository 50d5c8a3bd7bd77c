/- The document's ParseDn: the walk itself. -/
import Derived.Test.YtpnbcmblnplbgaaGreatDoorRefParse
namespace Go.Proofs.YtpnbcmblnplbgaaGreatDoor
open Go.RowKit
set_option linter.unusedVariables false

theorem ownR_base {B B' : Nat} {w : World} {v : Value} {l : List R} (h : OwnR B w v l) (hb : B' ≤ B) : OwnR B' w v l := by
  obtain ⟨h1, h2⟩ := h
  refine ⟨h1, ?_⟩
  rcases h2 with h2 | ⟨g, cap, cur, hv, hg, r⟩
  · exact .inl h2
  · exact .inr ⟨g, cap, cur, hv, Nat.le_trans hb hg, r⟩
theorem ownR_stored {B b : Nat} {w : World} {v : Value} {l : List R} (h : OwnR B w v l) (hb : b < B) (x y : Value) : OwnR B ((w.setCell ⟨b, 0, none⟩ x).setCell ⟨b, 1, none⟩ y) v l := by
  have hne : v.ownBlock ≠ some b := by
    intro e
    have := (World.ownsRow.lt h b e).1
    omega
  exact ownsRow_setCell_other (a := ⟨b, 1, none⟩) (ownsRow_setCell_other (a := ⟨b, 0, none⟩) h hne x) hne y

set_option maxRecDepth 100000 in
set_option maxHeartbeats 8000000 in
theorem parseRef_any (s : ByteArray) (hs : s.size ≤ 100000) (w : World) : Calls Tryz.prog 17 #[.string s] w (PRef w (parseD s.data.toList)) := by
  have HBox := Lib.hid (boxD_new w (.slice none 0 0) false)
  have hbb : Below w.heap.size w (w.alloc (.cells #[.slice none 0 0, .bool false] 53)) := (Below.refl _ _).alloc (Nat.le_refl _) _
  have HBB := Lib.hid hbb
  clear hbb
  by_cases hne : s.data.toList = []
  · obtain ⟨e1, e2⟩ := bytes_nil hne
    have hp : parseD s.data.toList = some [] := by rw [hne]; rfl
    rw [hp]
    obtain ⟨c0, c1, f0, f1⟩ := HBox.out.cells
    clear hp hne
    go_enter Tryz.func17, Tryz.ntmps17
    go_wp2
    obtain ⟨d0, d1, _, _⟩ := (HBox.out.store (.slice none 0 0) true).cells
    refine bodyPost_ret (v := .agg #[.slice none 0 0, .bool true]) (by simp [results, Tryz.results17, go_sem]) rfl ⟨(Below.refl _ _).alloc (Nat.le_refl _) _, _, rfl, none, 0, rfl, Nat.zero_le _, fun j hj => absurd hj (by simp)⟩
  obtain ⟨e1, e2⟩ := bytes_some hne
  have hpre := parse_pre hne
  have hnone := fun p => parse_none (p := p) hne
  have hcut := fun w => cutRef_any s hs w
  have hple := fun p => partsD_le (l := s.data.toList) (p := p)
  have hplen : (partsD s.data.toList).length ≤ s.size + 2 := by
    have := partsN_len (s.data.toList.length + 1) s.data.toList
    rw [bytes_len] at this
    unfold partsD
    rw [bytes_len]; omega
  obtain ⟨P, hP⟩ : ∃ P, P = partsD s.data.toList := ⟨_, rfl⟩
  simp only [← hP] at hpre hnone hcut hple hplen
  obtain ⟨res, hres⟩ : ∃ res, res = parseD s.data.toList := ⟨_, rfl⟩
  rw [← hres] at hpre hnone ⊢
  have HPre := Lib.hid hpre
  have HNone := Lib.hid hnone
  have HCut := Lib.hid hcut
  have HPle := Lib.hid hple
  clear hne hpre hnone hcut hP hres hple
  go_enter Tryz.func17, Tryz.ntmps17
  go_wp2_with (go_at_call 29; refine (HCut.out _).mono ?_; rintro e w2 ⟨u, rfl, hown2, hb2⟩; obtain ⟨pa, pc, rfl⟩ := ownS_slice hown2; have HP2 := Lib.hid hown2; have HB2 := Lib.hid hb2; have HX2 := Lib.hid (HBox.out.below hb2 (by simp)); clear hown2 hb2)
  have hbw2 : w.heap.size < w2.heap.size := by have := HB2.out.size; simp at this; omega
  have hw2 : Below w.heap.size w w2 := HBB.out.trans (HB2.out.mono (by simp))
  have HW2 := Lib.hid hw2
  clear hw2 e1 e2
  go_loopw [3, 5] (fun v i wr => ∃ (j : Nat) (L : List R), i = .int .i64 j ∧ j ≤ P.length ∧ L.length = j ∧ allO (P.take j) = some L ∧ OwnR w2.heap.size wr v L ∧ Below w2.heap.size w2 wr) (fun _ i _ => P.length - (intOf i).toNat)
  case atStart => exact ⟨0, [], rfl, Nat.zero_le _, rfl, rfl, ownR_nil _ _, Below.refl _ _⟩
  case round =>
    obtain ⟨j, L, rfl, hj, hLj, hall, hown, hbel⟩ := hrel
    obtain ⟨a, cp, rfl⟩ := ownR_slice hown
    have HLj := Lib.hid hLj
    have hll : L.length ≤ P.length := by omega
    clear hLj
    have HBel := Lib.hid hbel
    have hbs := hbel.size
    have HOwn := Lib.hid hown
    have HX := Lib.hid (HX2.out.below hbel hbw2)
    by_cases hlt : j < P.length
    · have t1 : decide ((j : Int) < (P.length : Int)) = true := by simp; omega
      have t1' : decide (j < P.length) = true := by simpa using hlt
      obtain ⟨g, pc', hv, _, hg2, hcell⟩ := ownS_at HP2.out (by intro e; rw [e] at hlt; simp at hlt)
      simp only [Value.slice.injEq, true_and] at hv
      obtain ⟨rfl, rfl⟩ := hv
      obtain ⟨X, hX⟩ : ∃ X : ByteArray, X = ⟨P[j].toArray⟩ := ⟨_, rfl⟩
      have hXl : X.data.toList = P[j] := by rw [hX]
      have d0 : wr.cell? ⟨g, j, none⟩ = some (.string X) := by rw [hbel.cell (p := ⟨g, _, none⟩) hg2, hcell j hlt, hX]; rfl
      have hmem : X.data.toList ∈ P := by rw [hXl]; exact List.getElem_mem hlt
      have hXs : X.size ≤ 100000 := by
        have := HPle.out _ hmem
        rw [bytes_len, bytes_len] at this; omega
      have hsnoc : ∀ r, preD X.data.toList = some r → allO (P.take (j + 1)) = some (L ++ [r]) := fun r hr => by
        rw [List.take_succ_eq_append_getElem hlt, ← hXl]
        exact allO_snoc _ _ _ _ hall hr
      have hno : preD X.data.toList = none → res = none := fun h => HNone.out _ hmem h
      have HSnoc := Lib.hid hsnoc
      have HNo := Lib.hid hno
      have hg1 : (j : Int) < (P.length : Int) := by omega
      clear hcell hX hXl hmem hall hown hbel hsnoc hno
      go_wp2
      go_loop [6] (fun x => ∃ k : Nat, x = .int .i64 k ∧ k ≤ X.size ∧ ∀ y ∈ X.data.toList.take k, y ≠ 61) (fun x => X.size - (intOf x).toNat)
      case atStart => exact ⟨0, rfl, Nat.zero_le _, by simp⟩
      case round =>
        obtain ⟨k, rfl, hk, hbef⟩ := hrel
        have p0 : (0 : Int) ≤ (k : Int) := by omega
        have p1 : (k : Int) ≤ (X.size : Int) := by omega
        by_cases hkl : k < X.size
        · have t2 : decide ((k : Int) < (X.size : Int)) = true := by simp; omega
          obtain ⟨y, hy⟩ : ∃ y : UInt8, y = X[k] := ⟨_, rfl⟩
          have hy' : X[k]'hkl = y := hy.symm
          have hyl := y.toNat_lt
          have hkl' : k < X.data.toList.length := by rw [bytes_len]; exact hkl
          by_cases h61 : y.toNat = 61
          · have t3 : ((y.toNat : Int) != 61) = false := by simp [h61]
            have t3' : ((y.toNat : Int) == 61) = true := by simp [h61]
            have t4 : ((k : Int) == (X.size : Int)) = false := by simp; omega
            have t4' : (k == X.size) = false := by simp; omega
            have heq := eq_at hkl' (by show X[k] = 61; rw [hy']; exact UInt8.toNat_inj.1 h61) hbef
            have hpr : preD X.data.toList = (valD (X.extract (k + 1) X.size).data.toList).map (fun v => ((X.extract 0 k).data.toList, v)) := by
              unfold preD
              rw [if_pos heq.2.2, heq.1, heq.2.1, rest_list, head_list]
            obtain ⟨Z, hZ⟩ : ∃ Z, X.extract (k + 1) X.size = Z := ⟨_, rfl⟩
            obtain ⟨Y, hY⟩ : ∃ Y, X.extract 0 k = Y := ⟨_, rfl⟩
            rw [hZ, hY] at hpr
            have hZs : Z.size ≤ 100000 := by rw [← hZ, ByteArray.size_extract]; omega
            have hvl := fun w => valueRef_any Z hZs w
            have p2 : (k : Int) + 1 ≤ (X.size : Int) := by omega
            clear hy heq hbef
            cases hvd : valD Z.data.toList with
            | none =>
              rw [hvd] at hpr hvl
              unfold valV at hvl
              have HV := Lib.hid hvl
              have HRes := Lib.hid (HNo.out (by rw [hpr]; rfl))
              clear hpr hvl hvd h61
              go_wp2_with (go_at_call 30; refine (HV.out _).mono ?_; rintro e w4 ⟨rfl, hb4⟩; have HB4 := Lib.hid hb4; have HY := Lib.hid (HX.out.below hb4 (Nat.lt_of_lt_of_le hbw2 hbs)); obtain ⟨c0, c1, f0, f1⟩ := HY.out.cells; clear hb4)
              obtain ⟨q0, q1, _, _⟩ := (HY.out.store (.slice none 0 0) false).cells
              refine bodyPost_ret (v := .agg #[.slice none 0 0, .bool false]) (by simp [results, Tryz.results17, go_sem, q0, q1]) rfl ?_
              rw [HRes.out]
              exact ⟨boxR_stored (HW2.out.trans (((HBel.out.trans (HB4.out.mono hbs))).mono (Nat.le_of_lt hbw2))) (Nat.le_refl _) _ _, rfl⟩
            | some v =>
              rw [hvd] at hpr hvl
              obtain ⟨V, hV⟩ : ∃ V : ByteArray, V = ⟨v.toArray⟩ := ⟨_, rfl⟩
              have hVl : V.data.toList = v := by rw [hV]
              simp only [valV, ← hV] at hvl
              have HV := Lib.hid hvl
              have HNew := Lib.hid (HSnoc.out (Y.data.toList, V.data.toList) (by rw [hpr, hVl]; rfl))
              clear hpr hvl hvd h61 hV hVl
              go_wp2_with (first
                | (go_at_call 30; refine (HV.out _).mono ?_; rintro e w4 ⟨rfl, hb4⟩; have HB4 := Lib.hid hb4; have d0 := (hb4.cell (p := ⟨g, j, none⟩) (Nat.lt_of_lt_of_le hg2 hbs)).trans d0; have HO4 := Lib.hid (ownR_below HOwn.out hb4); clear hb4)
                | (at_builtin; refine wpList_append_rdn rfl (.tmp 60) (.tmp 69) rfl w2.heap.size (.slice a L.length cp) L rfl Y V HO4.out rfl (by omega) (Nat.le_trans hbs HB4.out.size) ?_; intro v5 w5 hown5 hb5; have HO5 := Lib.hid hown5; have HB5 := Lib.hid hb5; clear hown5 hb5))
              go_roundw
              case rel => exact ⟨j + 1, L ++ [(Y.data.toList, V.data.toList)], by go_num, by omega, by simp; have := HLj.out; omega, HNew.out, HO5.out, (HBel.out.trans (HB4.out.mono hbs)).trans HB5.out⟩
              case measure => simp [intOf]; omega
          · have t3 : ((y.toNat : Int) != 61) = true := by simp; omega
            have t3' : ((y.toNat : Int) == 61) = false := by simp; omega
            have hnext : ∀ z ∈ X.data.toList.take (k + 1), z ≠ 61 := by
              intro z hz
              rw [List.take_succ_eq_append_getElem hkl', List.mem_append] at hz
              rcases hz with hz | hz
              · exact hbef z hz
              · simp only [List.mem_singleton] at hz
                rintro rfl
                apply h61
                rw [hy]
                have : X.data.toList[k] = X[k] := rfl
                rw [← this, ← hz]; rfl
            have HNx := Lib.hid hnext
            clear hy hbef hnext
            go_wp2
            go_round
            case rel => exact ⟨k + 1, by go_num, by omega, HNx.out⟩
            case measure => simp [intOf]; omega
        · obtain rfl : k = X.size := by omega
          have t2 : decide ((X.size : Int) < (X.size : Int)) = false := by simp
          have hc61 : X.data.toList.contains 61 = false := by
            cases h : X.data.toList.contains 61 with
            | false => rfl
            | true =>
              rw [List.contains_iff_mem] at h
              rw [List.take_of_length_le (by simp)] at hbef
              exact absurd rfl (hbef 61 h)
          have HRes := Lib.hid (HNo.out (by unfold preD; rw [if_neg (by rw [hc61]; simp)]))
          obtain ⟨c0, c1, f0, f1⟩ := HX.out.cells
          clear hbef hc61
          go_wp2
          obtain ⟨q0, q1, _, _⟩ := (HX.out.store (.slice none 0 0) false).cells
          refine bodyPost_ret (v := .agg #[.slice none 0 0, .bool false]) (by simp [results, Tryz.results17, go_sem, q0, q1]) rfl ?_
          rw [HRes.out]
          exact ⟨boxR_stored (HW2.out.trans (HBel.out.mono (Nat.le_of_lt hbw2))) (Nat.le_refl _) _ _, rfl⟩
    · obtain rfl : j = P.length := by omega
      have t1 : decide ((P.length : Int) < (P.length : Int)) = false := by simp
      have t1' : decide (P.length < P.length) = false := by simp
      rw [List.take_length] at hall
      have hpre := HPre.out
      rw [hall] at hpre
      simp only at hpre
      have hm : L.length ≤ maxLen := by unfold maxLen; omega
      have hmay := mayRef_any L (.slice a L.length cp) wr (ownR_isL hown hm)
      obtain ⟨b, hb⟩ : ∃ b, b = okL L := ⟨_, rfl⟩
      rw [← hb] at hmay hpre
      have HM := Lib.hid hmay
      obtain ⟨c0, c1, f0, f1⟩ := HX.out.cells
      clear hown hbel hall hmay hb
      cases b with
      | true =>
        rw [if_pos rfl] at hpre
        have HRes := Lib.hid hpre
        clear hpre
        go_wp2_with (go_at_call 31; refine (HM.out).mono ?_; rintro e w5 ⟨rfl, rfl⟩)
        obtain ⟨q0, q1, _, _⟩ := (HX.out.store (.slice a L.length cp) true).cells
        refine bodyPost_ret (v := .agg #[.slice a L.length cp, .bool true]) (by simp [results, Tryz.results17, go_sem, q0, q1]) rfl ?_
        rw [HRes.out]
        exact ⟨boxR_stored (HW2.out.trans (HBel.out.mono (Nat.le_of_lt hbw2))) (Nat.le_refl _) _ _, _, rfl, ownR_isL (ownR_stored HOwn.out hbw2 _ _) hm⟩
      | false =>
        rw [if_neg (by simp)] at hpre
        have HRes := Lib.hid hpre
        clear hpre
        go_wp2_with (go_at_call 31; refine (HM.out).mono ?_; rintro e w5 ⟨rfl, rfl⟩)
        obtain ⟨q0, q1, _, _⟩ := (HX.out.store (.slice none 0 0) false).cells
        refine bodyPost_ret (v := .agg #[.slice none 0 0, .bool false]) (by simp [results, Tryz.results17, go_sem, q0, q1]) rfl ?_
        rw [HRes.out]
        exact ⟨boxR_stored (HW2.out.trans (HBel.out.mono (Nat.le_of_lt hbw2))) (Nat.le_refl _) _ _, rfl⟩
end Go.Proofs.YtpnbcmblnplbgaaGreatDoor
