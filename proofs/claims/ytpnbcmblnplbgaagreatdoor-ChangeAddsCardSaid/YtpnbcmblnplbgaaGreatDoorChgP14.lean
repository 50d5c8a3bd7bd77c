/- Several texts in one file: TrDoc3, ChApp, TrEntP, Arg, MkW. -/
import Derived.Test.YtpnbcmblnplbgaaGreatDoorChgP13
import Derived.Test.YtpnbcmblnplbgaaGreatDoorChgP5
import Derived.Test.YtpnbcmblnplbgaaGreatDoorChgP8
import Derived.Test.YtpnbcmblnplbgaaGreatDoorDnTextW
import Derived.OpenShut
import Derived.Carry
import Derived.ChangeSlices
import Derived.Deep.Strs
import Derived.Deep.SlicePairs
import Derived.Deep.CutRange
import Derived.Deep.CutBlock
namespace Go.Proofs.YtpnbcmblnplbgaaGreatDoor
open Go.RowKit
set_option linter.unusedVariables false

set_option maxRecDepth 100000 in
set_option maxHeartbeats 8000000 in
theorem putR7_any (L : List ET) (hs : smallE L) (v : Value) (hcap : capV v) (D : ByteArray) (hD : D.size ≤ 100000) (A : List AT) (u : Value) (w : World) (h : IsE w.heap.size w L v) (hu : IsA w.heap.size w A u) :
    Calls Tryz.prog 15 #[v, .agg #[.string D, u]] w fun e w' => ∃ v', e = .returned v' ∧ IsE w'.heap.size w' (putD L (D.data.toList, A)) v' ∧ capV v' ∧ Below w.heap.size w w' := by
  have hL := hs.1
  obtain ⟨ua, un, uc, rfl⟩ := hu.sl
  obtain ⟨W0, hW0⟩ : ∃ W, W = w.alloc (.cells #[.string D, .slice ua un uc] 27) := ⟨_, rfl⟩
  have hb0 : Below w.heap.size w W0 := by rw [hW0]; exact (Below.refl _ _).alloc (Nat.le_refl _) _
  have hz0 : w.heap.size < W0.heap.size := by rw [hW0]; simp
  have e0 : W0.cell? ⟨w.heap.size, 0, none⟩ = some (.string D) := by rw [hW0]; simp
  have e1 : W0.cell? ⟨w.heap.size, 1, none⟩ = some (.slice ua un uc) := by rw [hW0]; simp
  have HBox := Lib.hid (fun (W : World) (hW : Below W0.heap.size W0 W) => And.intro ((hW.cell (p := ⟨w.heap.size, 0, none⟩) hz0).trans e0) ((hW.cell (p := ⟨w.heap.size, 1, none⟩) hz0).trans e1))
  have hkey := fun W => keyR_any D hD ua un uc W
  obtain ⟨K, hK⟩ : ∃ K, K = keyB (keyD D.data.toList) := ⟨_, rfl⟩
  rw [← hK] at hkey
  have hKl : K.data.toList = kE (D.data.toList, A) := by rw [hK, keyB_list]; rfl
  obtain ⟨KS, hKS⟩ : ∃ KS, KS = keysE L := ⟨_, rfl⟩
  have hKn : KS.length = L.length := by rw [hKS, keysE_len]
  have hPut : putD L (D.data.toList, A) = L.take (atK KS K.data.toList) ++ [(D.data.toList, A)] ++ L.drop (if KS[atK KS K.data.toList]? = some K.data.toList then atK KS K.data.toList + 1 else atK KS K.data.toList) := by unfold putD; rw [← hKl, hKS]
  have HKey := Lib.hid hkey
  have HB0 := Lib.hid hb0
  have HW0 := Lib.hid hW0
  have HIsE := Lib.hid h
  have HUo : Hid (∀ W, Below w.heap.size w W → IsAo (fun b => b < w.heap.size) W A (.slice ua un uc)) := Lib.hid (fun W hW => (IsA.isAo hu).imp (fun _ h => h) (fun b o hk => hW.cell (p := ⟨b, o, none⟩) hk))
  have HS := Lib.hid hs
  obtain ⟨Z, hZ⟩ : ∃ Z, Z = putD L (D.data.toList, A) := ⟨_, rfl⟩
  rw [← hZ] at hPut ⊢
  have HPut := Lib.hid hPut
  have HKs := Lib.hid hKS
  have HKn := Lib.hid hKn
  obtain ⟨n, hn⟩ : ∃ n, n = L.length := ⟨_, rfl⟩
  obtain ⟨la, lc, hv, hmx, hcell⟩ := id h
  rw [← hn] at hL hv hmx
  unfold maxLen at hmx
  subst hv
  have hcap' := hcap
  have HN := Lib.hid hn
  have HC := Lib.hid hcell
  clear hW0 hK hKl hKS hKn hkey hPut hZ hb0 hu h hn hcell hcap hs
  go_enter Tryz.func15, Tryz.ntmps15
  go_upto_region 1 with (fail)
  rw [← HW0.out]
  clear HW0
  go_upto_region 2 with (go_at_call 6; refine (HKey.out _).mono ?_; rintro e w2 ⟨rfl, hb2⟩; have HB2a := Lib.hid hb2; have HB2 := Lib.hid (HB0.out.trans (hb2.mono (by omega))); clear hb2)
  clear e0 e1
  go_wp2_with (fail)
  go_loopw [6] (fun i wr => ∃ j : Nat, j ≤ n ∧ i = .int .i64 j ∧ Hid (∀ i (hi : i < KS.length), i < j → Op.bytesLess KS[i] K.data.toList = true) ∧ Below W0.heap.size W0 wr) (fun i wr => n - (intOf i).toNat)
  case atStart => exact ⟨0, by omega, rfl, Lib.hid (fun _ _ h => absurd h (by omega)), HB2a.out⟩
  case round =>
    obtain ⟨j, hj, rfl, HAll, hbelW⟩ := hrel
    have HBelW := Lib.hid hbelW
    have HBel := Lib.hid (HB0.out.trans (hbelW.mono (by omega)))
    have hbs := HBel.out.size
    by_cases hlt : j < n
    · have t1 : decide ((j : Int) < (n : Int)) = true := by simp <;> omega
      have t1' : decide (j < n) = true := by simpa using hlt
      have q0 : (j : Int) < (n : Int) := by omega
      have hjL : j < L.length := by rw [← HN.out]; exact hlt
      have hjK : j < KS.length := by rw [HKn.out]; exact hjL
      obtain ⟨b, off, uj, rfl, hb0, c0, c1, hto⟩ := HC.out j hjL
      have ht := IsAo.isA hto
      obtain ⟨ja, jn, jc, rfl⟩ := ht.sl
      obtain ⟨hcap', _⟩ : n ≤ lc ∧ _ := hcap'
      obtain ⟨X, hX⟩ : ∃ X : ByteArray, ofL L[j].1 = X := ⟨_, rfl⟩
      have hXl : X.data.toList = L[j].1 := by rw [← hX, ofL_list]
      have hd0 : ∀ W, Below w.heap.size w W → W.cell? ⟨b, off + j * 2, none⟩ = some (.string X) := fun W hW => by rw [hW.cell (p := ⟨b, _, none⟩) hb0, c0, ← hX]; rfl
      have hd1 := fun (W : World) (hW : Below w.heap.size w W) => (hW.cell (p := ⟨b, off + j * 2 + 1, none⟩) hb0).trans c1
      have d0 := hd0 wr HBel.out
      have d1 := hd1 wr HBel.out
      have HD0 := Lib.hid hd0
      have HD1 := Lib.hid hd1
      have hXs : X.size ≤ 100000 := by rw [← bytes_len, hXl]; exact (HS.out.2 _ (List.getElem_mem hjL)).1
      have hkey := fun W => keyR_any X hXs ja jn jc W
      obtain ⟨Y, hY⟩ : ∃ Y, Y = keyB (keyD X.data.toList) := ⟨_, rfl⟩
      rw [← hY] at hkey
      have hYl : Y.data.toList = KS[j] := by
        rw [hY, keyB_list, hXl]
        have hKS := HKs.out
        subst hKS
        exact (keysE_at L j hjL).symm
      have HKy := Lib.hid hkey
      obtain ⟨bl, hbl⟩ : ∃ bl, Op.bytesLess Y.toList K.toList = bl := ⟨_, rfl⟩
      have hbl2 : Op.bytesLess KS[j] K.data.toList = bl := by rw [← hYl, ← hbl, ByteArray.toList_eq, ByteArray.toList_eq]
      have HBl2 := Lib.hid hbl2
      have HYl := Lib.hid hYl
      have hbsW := HBelW.out.size
      clear hX hXl c0 c1 ht hto hkey hY hYl hbelW hbl2 hd0 hd1
      cases bl with
      | true =>
        have HN1 : Hid (∀ i (hi : i < KS.length), i < j + 1 → Op.bytesLess KS[i] K.data.toList = true) := Lib.hid (fun i h1 h3 => by
          by_cases hk : i < j
          · exact HAll.out i h1 hk
          · obtain rfl : i = j := by omega
            exact HBl2.out)
        go_wp2_with (go_at_call 6; refine (HKy.out _).mono ?_; rintro e w4 ⟨rfl, hb4⟩; have HB4 := Lib.hid (HBelW.out.trans (hb4.mono hbsW)); clear hb4)
        go_roundw
        case rel => exact ⟨j + 1, by omega, by go_num, HN1, HB4.out⟩
        case measure => simp [intOf]; omega
      | false =>
        have hat : atK KS K.data.toList = j := atK_eq j (by omega) HAll.out (fun _ => HBl2.out)
        have ew : IntKind.i64.wrap ((j : Int) + 1) = (j : Int) + 1 := IntWalk.i64_in _ (by omega)
        by_cases heq : Y = K
        · have e2 : (K.toList == K.toList) = true := by simp
          have hdrop : (if KS[atK KS K.data.toList]? = some K.data.toList then atK KS K.data.toList + 1 else atK KS K.data.toList) = j + 1 := by
            rw [hat, if_pos (by rw [List.getElem?_eq_getElem hjK, ← HYl.out, heq])]
          have heq := heq.symm
          subst heq
          have HTk : Hid (∀ W, Below w.heap.size w W → IsEo (fun b => b < w.heap.size) W (L.take j) (.slice (some ⟨b, off, none⟩) j lc)) := Lib.hid (fun W hW => IsE.take (IsE.keep HIsE.out hW) j (by have := HN.out; omega) lc)
          obtain ⟨A2, hA2⟩ : ∃ A2 : Option Addr, (if lc = j + 1 then some (⟨b, off, none⟩ : Addr) else some ⟨b, off + (j + 1) * 2, none⟩) = A2 := ⟨_, rfl⟩
          have HDr : Hid (∀ W, Below w.heap.size w W → IsEo (fun b => b < w.heap.size) W (L.drop (j + 1)) (.slice A2 (n - (j + 1)) (lc - (j + 1)))) := Lib.hid (fun W hW => by
            have hN := HN.out
            rw [← hA2]
            by_cases e : lc = j + 1
            · have h0 : L.drop (j + 1) = [] := List.drop_eq_nil_of_le (by omega)
              rw [h0, show n - (j + 1) = 0 from by omega]
              exact isE_nil _ _ _ _
            · rw [if_neg e]
              have := IsE.drop (IsE.keep HIsE.out hW) (j + 1) (by omega) (lc - (j + 1))
              rw [← hN] at this
              exact this)
          have q1 : (j ≤ lc) = True := by simp <;> omega
          have q1' : j ≤ lc := by omega
          have q2 : (j + 1 ≤ n) = True := by simp <;> omega
          have q3 : (n ≤ lc) = True := by simp <;> omega
          have q4 : (0 : Int) ≤ (j : Int) := by omega
          have q5 : (((j : Int) + 1)).toNat = j + 1 := by omega
          have q6 : (0 ≤ ((j : Int) + 1)) = True := by simp; try omega
          have q7 : (((j : Int) + 1) ≤ (n : Int)) = True := by simp <;> omega
          have HFin : Hid (L.take j ++ [(D.data.toList, A)] ++ L.drop (j + 1) = Z) := Lib.hid (by rw [HPut.out, hdrop, hat])
          clear hat hdrop
          have tok1 : Hid ((0 : Nat) = 0) := Lib.hid rfl
          go_upto_region 5 with (go_at_call 6; (have _t := tok1); clear tok1; refine (HKy.out _).mono ?_; rintro e w4 ⟨rfl, hb4⟩; have HBTW := Lib.hid (HBelW.out.trans (hb4.mono hbsW)); have HBT := Lib.hid (HBel.out.trans (hb4.mono hbs)); have hbT := HBTW.out.size; have hbTw := HBT.out.size; clear hb4)
          go_upto_region 6 with (at_builtin; refine wpList_append_list rfl (.tmp 25) (.tmp 28) rfl W0.heap.size (.slice (some ⟨w4.heap.size, 0, none⟩) 0 0) _ [] (L.take j) rfl (ownE_empty (heap_alloc_new w4 _) hbT) rfl (HTk.out _ (HBT.out.alloc hbTw _)) (by omega) (by have := HN.out; simp <;> omega) (by simp <;> omega) ?_; intro v6 w6 hown6 hb6; rw [List.nil_append] at hown6; have HO6 := Lib.hid hown6; have HB6W := Lib.hid ((HBTW.out.alloc hbT _).trans hb6); have HB6 := Lib.hid (HB0.out.trans (HB6W.out.mono (by omega))); have x0 := (HBox.out _ HB6W.out).1; have x1 := (HBox.out _ HB6W.out).2; (obtain ⟨oa, oc, hov⟩ := ownE_slice hown6); (obtain ⟨on, hon⟩ : ∃ k, k = (L.take j).length := ⟨_, rfl⟩); rw [← hon] at hov; subst hov; clear hown6 hb6 hon)
          go_upto_region 7 with (at_builtin; refine wpList_append_ent rfl (.tmp 30) (.tmp 32) rfl W0.heap.size (.slice oa on oc) (L.take j) D (.slice ua un uc) A rfl HO6.out rfl (HUo.out _ HB6.out) (by omega) (by have := HN.out; simp <;> omega) HB6W.out.size ?_; intro v7 w7 hown7 hb7; have HO7 := Lib.hid hown7; have HB7W := Lib.hid (HB6W.out.trans hb7); have HB7 := Lib.hid (HB0.out.trans (HB7W.out.mono (by omega))); (obtain ⟨pa, pc, hpv⟩ := ownE_slice hown7); (obtain ⟨pn, hpn⟩ : ∃ k, k = (L.take j ++ [(D.data.toList, A)]).length := ⟨_, rfl⟩); rw [← hpn] at hpv; subst hpv; have y0 := HD0.out _ HB7.out; have y1 := HD1.out _ HB7.out; clear hown7 hb7 hpn)
          go_upto_region 9 with (go_at_call 6; refine (HKy.out _).mono ?_; rintro e w8 ⟨rfl, hb8⟩; have HO8 := Lib.hid (ownE_below (ok' := fun b => b < w.heap.size) HO7.out hb8 (fun b hk => by have := HB7.out.size; omega) (fun _ h => h)); have HB8W := Lib.hid (HB7W.out.trans (hb8.mono HB7W.out.size)); have HB8 := Lib.hid (HB0.out.trans (HB8W.out.mono (by omega))); clear hb8)
          go_wp2_with (at_builtin; refine wpList_append_list rfl (.tmp 49) (.tmp 52) rfl W0.heap.size (.slice pa pn pc) _ (L.take j ++ [(D.data.toList, A)]) (L.drop (j + 1)) rfl HO8.out rfl (HDr.out _ HB8.out) (by omega) (by have := HN.out; simp <;> omega) HB8W.out.size ?_; intro v9 w9 hown9 hb9; have HO9 := Lib.hid hown9; have HB9 := Lib.hid (HB0.out.trans ((HB8W.out.trans hb9).mono (by omega))); (obtain ⟨sa, sc, hsv⟩ := ownE_slice hown9); (obtain ⟨sn, hsn⟩ : ∃ k, k = (L.take j ++ [(D.data.toList, A)] ++ L.drop (j + 1)).length := ⟨_, rfl⟩); rw [← hsn] at hsv; subst hsv; clear hown9 hb9 hsn)
          all_goals
            go_ret
            exact ⟨_, rfl, by rw [← HFin.out]; exact ownE_isE HO9.out (by have := HN.out; unfold maxLen; simp <;> omega) (fun b hb => by have := HB9.out.size; omega), ownE_cap HO9.out, HB9.out⟩
        · have e2 := str_ne heq
          have hdrop : (if KS[atK KS K.data.toList]? = some K.data.toList then atK KS K.data.toList + 1 else atK KS K.data.toList) = j := by
            rw [hat, if_neg (by
              rw [List.getElem?_eq_getElem hjK, ← HYl.out]
              simp only [Option.some.injEq]
              exact fun e => heq (bytes_ext e))]
          clear heq
          have HTk : Hid (∀ W, Below w.heap.size w W → IsEo (fun b => b < w.heap.size) W (L.take j) (.slice (some ⟨b, off, none⟩) j lc)) := Lib.hid (fun W hW => IsE.take (IsE.keep HIsE.out hW) j (by have := HN.out; omega) lc)
          have HDr : Hid (∀ W, Below w.heap.size w W → IsEo (fun b => b < w.heap.size) W (L.drop (j)) (.slice (some ⟨b, off + j * 2, none⟩) (n - j) (lc - j))) := Lib.hid (fun W hW => by
            have hN := HN.out
            have := IsE.drop (IsE.keep HIsE.out hW) j (by omega) (lc - j)
            rw [← hN] at this
            exact this)
          have q8 : (lc = j) = False := by simp; omega
          have q2 : (j ≤ n) = True := by simp; omega
          have q7 : ((j : Int) ≤ (n : Int)) = True := by simp; omega
          have q1 : (j ≤ lc) = True := by simp; omega
          have q1' : j ≤ lc := by omega
          have q3 : (n ≤ lc) = True := by simp; omega
          have q4 : (0 : Int) ≤ (j : Int) := by omega
          have HFin : Hid (L.take j ++ [(D.data.toList, A)] ++ L.drop (j) = Z) := Lib.hid (by rw [HPut.out, hdrop, hat])
          clear hat hdrop
          have tok1 : Hid ((0 : Nat) = 0) := Lib.hid rfl
          go_upto_region 5 with (go_at_call 6; (have _t := tok1); clear tok1; refine (HKy.out _).mono ?_; rintro e w4 ⟨rfl, hb4⟩; have HBTW := Lib.hid (HBelW.out.trans (hb4.mono hbsW)); have HBT := Lib.hid (HBel.out.trans (hb4.mono hbs)); have hbT := HBTW.out.size; have hbTw := HBT.out.size; clear hb4)
          go_upto_region 6 with (at_builtin; refine wpList_append_list rfl (.tmp 25) (.tmp 28) rfl W0.heap.size (.slice (some ⟨w4.heap.size, 0, none⟩) 0 0) _ [] (L.take j) rfl (ownE_empty (heap_alloc_new w4 _) hbT) rfl (HTk.out _ (HBT.out.alloc hbTw _)) (by omega) (by have := HN.out; simp <;> omega) (by simp <;> omega) ?_; intro v6 w6 hown6 hb6; rw [List.nil_append] at hown6; have HO6 := Lib.hid hown6; have HB6W := Lib.hid ((HBTW.out.alloc hbT _).trans hb6); have HB6 := Lib.hid (HB0.out.trans (HB6W.out.mono (by omega))); have x0 := (HBox.out _ HB6W.out).1; have x1 := (HBox.out _ HB6W.out).2; (obtain ⟨oa, oc, hov⟩ := ownE_slice hown6); (obtain ⟨on, hon⟩ : ∃ k, k = (L.take j).length := ⟨_, rfl⟩); rw [← hon] at hov; subst hov; clear hown6 hb6 hon)
          go_upto_region 7 with (at_builtin; refine wpList_append_ent rfl (.tmp 30) (.tmp 32) rfl W0.heap.size (.slice oa on oc) (L.take j) D (.slice ua un uc) A rfl HO6.out rfl (HUo.out _ HB6.out) (by omega) (by have := HN.out; simp <;> omega) HB6W.out.size ?_; intro v7 w7 hown7 hb7; have HO7 := Lib.hid hown7; have HB7W := Lib.hid (HB6W.out.trans hb7); have HB7 := Lib.hid (HB0.out.trans (HB7W.out.mono (by omega))); (obtain ⟨pa, pc, hpv⟩ := ownE_slice hown7); (obtain ⟨pn, hpn⟩ : ∃ k, k = (L.take j ++ [(D.data.toList, A)]).length := ⟨_, rfl⟩); rw [← hpn] at hpv; subst hpv; have y0 := HD0.out _ HB7.out; have y1 := HD1.out _ HB7.out; clear hown7 hb7 hpn)
          go_upto_region 9 with (go_at_call 6; refine (HKy.out _).mono ?_; rintro e w8 ⟨rfl, hb8⟩; have HO8 := Lib.hid (ownE_below (ok' := fun b => b < w.heap.size) HO7.out hb8 (fun b hk => by have := HB7.out.size; omega) (fun _ h => h)); have HB8W := Lib.hid (HB7W.out.trans (hb8.mono HB7W.out.size)); have HB8 := Lib.hid (HB0.out.trans (HB8W.out.mono (by omega))); clear hb8)
          go_wp2_with (at_builtin; refine wpList_append_list rfl (.tmp 49) (.tmp 52) rfl W0.heap.size (.slice pa pn pc) _ (L.take j ++ [(D.data.toList, A)]) (L.drop (j)) rfl HO8.out rfl (HDr.out _ HB8.out) (by omega) (by have := HN.out; simp <;> omega) HB8W.out.size ?_; intro v9 w9 hown9 hb9; have HO9 := Lib.hid hown9; have HB9 := Lib.hid (HB0.out.trans ((HB8W.out.trans hb9).mono (by omega))); (obtain ⟨sa, sc, hsv⟩ := ownE_slice hown9); (obtain ⟨sn, hsn⟩ : ∃ k, k = (L.take j ++ [(D.data.toList, A)] ++ L.drop (j)).length := ⟨_, rfl⟩); rw [← hsn] at hsv; subst hsv; clear hown9 hb9 hsn)
          all_goals
            go_ret
            exact ⟨_, rfl, by rw [← HFin.out]; exact ownE_isE HO9.out (by have := HN.out; unfold maxLen; simp <;> omega) (fun b hb => by have := HB9.out.size; omega), ownE_cap HO9.out, HB9.out⟩
    · obtain rfl : j = n := by omega
      have t1 : decide ((j : Int) < (j : Int)) = false := by simp
      have t1' : decide (j < j) = false := by simp
      have hat : atK KS K.data.toList = j := atK_eq j (by rw [HKn.out, ← HN.out]; exact Nat.le_refl _) (fun i hi h => HAll.out i hi h) (fun hj => absurd hj (by rw [HKn.out, ← HN.out]; omega))
      have hdrop : (if KS[atK KS K.data.toList]? = some K.data.toList then atK KS K.data.toList + 1 else atK KS K.data.toList) = j := by
        rw [hat, if_neg (by rw [List.getElem?_eq_none (by rw [HKn.out, ← HN.out]; exact Nat.le_refl _)]; simp)]
      have HBTW := HBelW
      have HBT := HBel
      have hbT := HBTW.out.size
      have hbTw := HBT.out.size
      clear hbelW
      cases la with
      | none =>
        obtain ⟨hn0, hl0⟩ : j = 0 ∧ lc = 0 := hcap'
        subst hn0 hl0
        have HTk : Hid (∀ W, Below w.heap.size w W → IsEo (fun b => b < w.heap.size) W (L.take 0) (.slice none 0 0)) := Lib.hid (fun W hW => by rw [List.take_zero]; exact isE_nil _ _ _ _)
        have HDr : Hid (∀ W, Below w.heap.size w W → IsEo (fun b => b < w.heap.size) W (L.drop 0) (.slice none 0 0)) := Lib.hid (fun W hW => by rw [List.length_eq_zero_iff.1 HN.out.symm]; exact isE_nil _ _ _ _)
        have HFin : Hid (L.take 0 ++ [(D.data.toList, A)] ++ L.drop (0) = Z) := Lib.hid (by rw [HPut.out, hdrop, hat])
        clear hat hdrop
        have tok1 : Hid ((0 : Nat) = 0) := Lib.hid rfl
        go_upto_region 5 with (fail)
        go_upto_region 6 with (at_builtin; refine wpList_append_list rfl (.tmp 25) (.tmp 28) rfl W0.heap.size (.slice (some ⟨wr.heap.size, 0, none⟩) 0 0) _ [] (L.take 0) rfl (ownE_empty (heap_alloc_new wr _) hbT) rfl (HTk.out _ (HBT.out.alloc hbTw _)) (by omega) (by have := HN.out; simp <;> omega) (by simp <;> omega) ?_; intro v6 w6 hown6 hb6; rw [List.nil_append] at hown6; have HO6 := Lib.hid hown6; have HB6W := Lib.hid ((HBTW.out.alloc hbT _).trans hb6); have HB6 := Lib.hid (HB0.out.trans (HB6W.out.mono (by omega))); have x0 := (HBox.out _ HB6W.out).1; have x1 := (HBox.out _ HB6W.out).2; (obtain ⟨oa, oc, hov⟩ := ownE_slice hown6); (obtain ⟨on, hon⟩ : ∃ k, k = (L.take 0).length := ⟨_, rfl⟩); rw [← hon] at hov; subst hov; clear hown6 hb6 hon)
        go_upto_region 7 with (at_builtin; refine wpList_append_ent rfl (.tmp 30) (.tmp 32) rfl W0.heap.size (.slice oa on oc) (L.take 0) D (.slice ua un uc) A rfl HO6.out rfl (HUo.out _ HB6.out) (by omega) (by have := HN.out; simp <;> omega) HB6W.out.size ?_; intro v7 w7 hown7 hb7; have HO7 := Lib.hid hown7; have HB7W := Lib.hid (HB6W.out.trans hb7); have HB7 := Lib.hid (HB0.out.trans (HB7W.out.mono (by omega))); (obtain ⟨pa, pc, hpv⟩ := ownE_slice hown7); (obtain ⟨pn, hpn⟩ : ∃ k, k = (L.take 0 ++ [(D.data.toList, A)]).length := ⟨_, rfl⟩); rw [← hpn] at hpv; subst hpv; clear hown7 hb7 hpn)
        go_upto_region 9 with (fail)
        go_wp2_with (at_builtin; refine wpList_append_list rfl (.tmp 49) (.tmp 52) rfl W0.heap.size (.slice pa pn pc) _ (L.take 0 ++ [(D.data.toList, A)]) (L.drop (0)) rfl HO7.out rfl (HDr.out _ HB7.out) (by omega) (by have := HN.out; simp <;> omega) HB7W.out.size ?_; intro v9 w9 hown9 hb9; have HO9 := Lib.hid hown9; have HB9 := Lib.hid (HB0.out.trans ((HB7W.out.trans hb9).mono (by omega))); (obtain ⟨sa, sc, hsv⟩ := ownE_slice hown9); (obtain ⟨sn, hsn⟩ : ∃ k, k = (L.take 0 ++ [(D.data.toList, A)] ++ L.drop (0)).length := ⟨_, rfl⟩); rw [← hsn] at hsv; subst hsv; clear hown9 hb9 hsn)
        all_goals
          go_ret
          exact ⟨_, rfl, by rw [← HFin.out]; exact ownE_isE HO9.out (by have := HN.out; unfold maxLen; simp <;> omega) (fun b hb => by have := HB9.out.size; omega), ownE_cap HO9.out, HB9.out⟩
      | some ad =>
        obtain ⟨b, off, sp⟩ := ad
        obtain ⟨hcap', hsp⟩ : j ≤ lc ∧ sp = none := hcap'
        subst hsp
        have HTk : Hid (∀ W, Below w.heap.size w W → IsEo (fun b => b < w.heap.size) W (L.take j) (.slice (some ⟨b, off, none⟩) j lc)) := Lib.hid (fun W hW => IsE.take (IsE.keep HIsE.out hW) j (by have := HN.out; omega) lc)
        have HDr : Hid (∀ W a c, Below w.heap.size w W → IsEo (fun b => b < w.heap.size) W (L.drop (j)) (.slice a 0 c)) := Lib.hid (fun W a c hW => by
          rw [List.drop_eq_nil_of_le (by rw [← HN.out]; exact Nat.le_refl _)]
          exact isE_nil _ _ _ _)
        have q1 : (j ≤ lc) = True := by simp; omega
        have q1' : j ≤ lc := by omega
        have q3 : (j ≤ lc) = True := by simp; omega
        have q4 : (0 : Int) ≤ (j : Int) := by omega
        have HFin : Hid (L.take j ++ [(D.data.toList, A)] ++ L.drop (j) = Z) := Lib.hid (by rw [HPut.out, hdrop, hat])
        clear hat hdrop
        have tok1 : Hid ((0 : Nat) = 0) := Lib.hid rfl
        go_upto_region 5 with (fail)
        go_upto_region 6 with (at_builtin; refine wpList_append_list rfl (.tmp 25) (.tmp 28) rfl W0.heap.size (.slice (some ⟨wr.heap.size, 0, none⟩) 0 0) _ [] (L.take j) rfl (ownE_empty (heap_alloc_new wr _) hbT) rfl (HTk.out _ (HBT.out.alloc hbTw _)) (by omega) (by have := HN.out; simp <;> omega) (by simp <;> omega) ?_; intro v6 w6 hown6 hb6; rw [List.nil_append] at hown6; have HO6 := Lib.hid hown6; have HB6W := Lib.hid ((HBTW.out.alloc hbT _).trans hb6); have HB6 := Lib.hid (HB0.out.trans (HB6W.out.mono (by omega))); have x0 := (HBox.out _ HB6W.out).1; have x1 := (HBox.out _ HB6W.out).2; (obtain ⟨oa, oc, hov⟩ := ownE_slice hown6); (obtain ⟨on, hon⟩ : ∃ k, k = (L.take j).length := ⟨_, rfl⟩); rw [← hon] at hov; subst hov; clear hown6 hb6 hon)
        go_upto_region 7 with (at_builtin; refine wpList_append_ent rfl (.tmp 30) (.tmp 32) rfl W0.heap.size (.slice oa on oc) (L.take j) D (.slice ua un uc) A rfl HO6.out rfl (HUo.out _ HB6.out) (by omega) (by have := HN.out; simp <;> omega) HB6W.out.size ?_; intro v7 w7 hown7 hb7; have HO7 := Lib.hid hown7; have HB7W := Lib.hid (HB6W.out.trans hb7); have HB7 := Lib.hid (HB0.out.trans (HB7W.out.mono (by omega))); (obtain ⟨pa, pc, hpv⟩ := ownE_slice hown7); (obtain ⟨pn, hpn⟩ : ∃ k, k = (L.take j ++ [(D.data.toList, A)]).length := ⟨_, rfl⟩); rw [← hpn] at hpv; subst hpv; clear hown7 hb7 hpn)
        go_upto_region 9 with (fail)
        go_wp2_with (at_builtin; refine wpList_append_list rfl (.tmp 49) (.tmp 52) rfl W0.heap.size (.slice pa pn pc) _ (L.take j ++ [(D.data.toList, A)]) (L.drop (j)) rfl HO7.out rfl (HDr.out _ _ _ HB7.out) (by omega) (by have := HN.out; simp <;> omega) HB7W.out.size ?_; intro v9 w9 hown9 hb9; have HO9 := Lib.hid hown9; have HB9 := Lib.hid (HB0.out.trans ((HB7W.out.trans hb9).mono (by omega))); (obtain ⟨sa, sc, hsv⟩ := ownE_slice hown9); (obtain ⟨sn, hsn⟩ : ∃ k, k = (L.take j ++ [(D.data.toList, A)] ++ L.drop (j)).length := ⟨_, rfl⟩); rw [← hsn] at hsv; subst hsv; clear hown9 hb9 hsn)
        all_goals
          go_ret
          exact ⟨_, rfl, by rw [← HFin.out]; exact ownE_isE HO9.out (by have := HN.out; unfold maxLen; simp <;> omega) (fun b hb => by have := HB9.out.size; omega), ownE_cap HO9.out, HB9.out⟩

end Go.Proofs.YtpnbcmblnplbgaaGreatDoor


namespace Go.Proofs.YtpnbcmblnplbgaaGreatDoor
open Go.RowKit
set_option linter.unusedVariables false
set_option linter.unusedSimpArgs false

set_option maxRecDepth 100000 in
set_option maxHeartbeats 4000000 in
theorem none12_no (D : ByteArray) (hD : (D.toList == []) = false) (u : Value) (w : World) :
    Calls Tryz.prog 24 #[.agg #[.string D, u]] w fun e w' => e = .returned (.bool false) ∧ Below w.heap.size w w' := by
  obtain ⟨W1, hW1⟩ : ∃ W, W = w.alloc (.cells #[.string D, u] 27) := ⟨_, rfl⟩
  have hb1 : Below w.heap.size w W1 := by rw [hW1]; exact (Below.refl _ _).alloc (Nat.le_refl _) _
  have hbx : BoxN W1 w.heap.size D u := by rw [hW1]; exact boxN_new w D u
  obtain ⟨b0, b1⟩ := hbx.cells
  have HB := Lib.hid hb1
  clear hbx hb1
  go_enter Tryz.func24, Tryz.ntmps24
  go_upto_region 1 with fail
  rw [← hW1]
  clear hW1
  go_wp2
  go_ret
  exact ⟨rfl, HB.out⟩
set_option maxRecDepth 100000 in
set_option maxHeartbeats 4000000 in
theorem none12_yes (w : World) :
    Calls Tryz.prog 24 #[.agg #[.string ⟨#[]⟩, .slice none 0 0]] w fun e w' => e = .returned (.bool true) ∧ Below w.heap.size w w' := by
  obtain ⟨W1, hW1⟩ : ∃ W, W = w.alloc (.cells #[.string ⟨#[]⟩, .slice none 0 0] 27) := ⟨_, rfl⟩
  have hb1 : Below w.heap.size w W1 := by rw [hW1]; exact (Below.refl _ _).alloc (Nat.le_refl _) _
  have hbx : BoxN W1 w.heap.size ⟨#[]⟩ (.slice none 0 0) := by rw [hW1]; exact boxN_new w _ _
  obtain ⟨b0, b1⟩ := hbx.cells
  have HB := Lib.hid hb1
  clear hbx hb1
  go_enter Tryz.func24, Tryz.ntmps24
  go_upto_region 1 with fail
  rw [← hW1]
  clear hW1
  go_wp2
  go_ret
  exact ⟨rfl, HB.out⟩
set_option maxRecDepth 100000 in
set_option maxHeartbeats 4000000 in
theorem apply_put (L : List ET) (hs : smallE L) (v : Value) (hcap : capV v) (D : ByteArray) (hD : D.size ≤ 100000) (hDn : (D.toList == []) = false) (A : List AT) (u : Value) (w : World) (h : IsE w.heap.size w L v) (hu : IsA w.heap.size w A u) :
    Calls Tryz.prog 11 #[v, deltaV ⟨#[]⟩ D u] w fun e w' => ∃ v', e = .returned v' ∧ IsE w'.heap.size w' (putD L (D.data.toList, A)) v' ∧ capV v' ∧ Below w.heap.size w w' := by
  obtain ⟨ua, un, uc, rfl⟩ := hu.sl
  obtain ⟨la, lc, rfl⟩ := IsE.sl h
  obtain ⟨W1, hW1⟩ : ∃ W, W = w.alloc (.cells #[.int .i64 0, .int .i64 0, .string ⟨#[]⟩, .string D, .slice ua un uc] 35) := ⟨_, rfl⟩
  have hb1 : Below w.heap.size w W1 := by rw [hW1]; exact (Below.refl _ _).alloc (Nat.le_refl _) _
  have hk : DxAt W1 w.heap.size ⟨#[]⟩ D (.slice ua un uc) := by rw [hW1]; exact heap_alloc_new w _
  have HNo := Lib.hid (none12_no D hDn (.slice ua un uc) W1)
  have HPt := Lib.hid (fun (W : World) (hb : Below w.heap.size w W) => putR7_any L hs (.slice la L.length lc) hcap D hD A (.slice ua un uc) W (h.below hb hb.size) (hu.below hb hb.size))
  have HB := Lib.hid hb1
  have HK := Lib.hid hk
  have HN2 := Lib.hid (dx_lt hk)
  obtain ⟨c0, c1, c2, c3, c4⟩ := dx_cells hk
  obtain ⟨ln, hln⟩ : ∃ n, n = L.length := ⟨_, rfl⟩
  rw [← hln] at HPt ⊢
  obtain ⟨PD, hPD⟩ : ∃ P, P = putD L (D.data.toList, A) := ⟨_, rfl⟩
  rw [← hPD] at HPt ⊢
  clear hk hb1 h hu hs hln hcap hPD
  go_enter Tryz.func11, Tryz.ntmps11
  go_upto_region 1 with fail
  rw [← hW1]
  clear hW1
  go_wp2_with (first
    | (go_at_call 24; refine (HNo.out).mono ?_; rintro e w2 ⟨rfl, hb2⟩; (obtain ⟨d0, d1, d2, d3, d4⟩ := dx_cells (dx_below HK.out hb2 HN2.out)); have HB2 := Lib.hid (bthen HB.out hb2); clear hb2)
    | (go_at_call 15; refine (HPt.out _ HB2.out).mono ?_; rintro e w3 ⟨v3, rfl, h3, hcap3, hb3⟩; have H3 := Lib.hid h3; have HC3 := Lib.hid hcap3; have HB3 := Lib.hid (bthen HB2.out hb3); clear h3 hcap3 hb3))
  go_ret
  exact ⟨_, rfl, H3.out, HC3.out, HB3.out⟩
set_option maxRecDepth 100000 in
set_option maxHeartbeats 4000000 in
theorem apply_del (L : List ET) (hs : smallE L) (v : Value) (K : ByteArray) (hK : (K.toList == []) = false) (w : World) (h : IsE w.heap.size w L v) :
    Calls Tryz.prog 11 #[v, deltaV K ⟨#[]⟩ (.slice none 0 0)] w fun e w' => ∃ v', e = .returned v' ∧ IsE w'.heap.size w' (delD L K.data.toList) v' ∧ capV v' ∧ Below w.heap.size w w' := by
  obtain ⟨la, lc, rfl⟩ := IsE.sl h
  obtain ⟨W1, hW1⟩ : ∃ W, W = w.alloc (.cells #[.int .i64 0, .int .i64 0, .string K, .string ⟨#[]⟩, .slice none 0 0] 35) := ⟨_, rfl⟩
  have hb1 : Below w.heap.size w W1 := by rw [hW1]; exact (Below.refl _ _).alloc (Nat.le_refl _) _
  have hk : DxAt W1 w.heap.size K ⟨#[]⟩ (.slice none 0 0) := by rw [hW1]; exact heap_alloc_new w _
  have HNo := Lib.hid none12_yes
  have HDl := Lib.hid (fun (W : World) (hb : Below w.heap.size w W) => delR7_any L hs (.slice la L.length lc) K W (h.below hb hb.size))
  have HB := Lib.hid hb1
  have HK := Lib.hid hk
  have HN2 := Lib.hid (dx_lt hk)
  obtain ⟨c0, c1, c2, c3, c4⟩ := dx_cells hk
  have hK2 : (K.toList != []) = true := by simpa using hK
  obtain ⟨ln, hln⟩ : ∃ n, n = L.length := ⟨_, rfl⟩
  rw [← hln] at HDl ⊢
  obtain ⟨PD, hPD⟩ : ∃ P, P = delD L K.data.toList := ⟨_, rfl⟩
  rw [← hPD] at HDl ⊢
  clear hk hb1 h hs hln hPD
  go_enter Tryz.func11, Tryz.ntmps11
  go_upto_region 1 with fail
  rw [← hW1]
  clear hW1
  go_wp2_with (first
    | (go_at_call 23; refine (HDl.out _ HB.out).mono ?_; rintro e w2 ⟨v3, rfl, h3, hcap3, hb2⟩; (have hz1 := HN2.out); (obtain ⟨d0, d1, d2, d3, d4⟩ := dx_cells (dx_below HK.out hb2 HN2.out)); have H3 := Lib.hid h3; have HC3 := Lib.hid hcap3; have HB2 := Lib.hid (bthen HB.out hb2); clear h3 hcap3 hb2)
    | (go_at_call 24; refine (HNo.out _).mono ?_; rintro e w4 ⟨rfl, hb4⟩; have HB4 := Lib.hid (bthen HB2.out hb4); have H4 := Lib.hid (H3.out.below hb4 hb4.size); clear hb4))
  go_ret
  exact ⟨_, rfl, H4.out, HC3.out, HB4.out⟩
end Go.Proofs.YtpnbcmblnplbgaaGreatDoor


namespace Go.Proofs.YtpnbcmblnplbgaaGreatDoor
set_option linter.unusedVariables false

def nmT8 : List ByteArray := [⟨#[111, 61, 120]⟩, ⟨#[111, 117, 61, 97, 44, 111, 61, 120]⟩, ⟨#[111, 117, 61, 98, 44, 111, 61, 120]⟩, ⟨#[99, 110, 61, 110, 48, 44, 111, 117, 61, 97, 44, 111, 61, 120]⟩, ⟨#[99, 110, 61, 110, 49, 44, 111, 117, 61, 97, 44, 111, 61, 120]⟩, ⟨#[99, 110, 61, 110, 50, 44, 111, 117, 61, 98, 44, 111, 61, 120]⟩, ⟨#[99, 110, 61, 110, 51, 44, 111, 61, 120]⟩, ⟨#[99, 110, 61, 110, 52]⟩, ⟨#[111, 117, 61, 99, 44, 111, 117, 61, 97, 44, 111, 61, 120]⟩, ⟨#[99, 110, 61, 110, 53, 44, 111, 117, 61, 99, 44, 111, 117, 61, 97, 44, 111, 61, 120]⟩, ⟨#[111, 61, 121]⟩, ⟨#[99, 110, 61, 110, 48, 44, 111, 61, 121]⟩]
def nmE (k : Nat) : List UInt8 := (nmT8.getD k ⟨#[]⟩).data.toList
def avE (k : Nat) : R := ((parseD (nmE k)).getD []).headD ([], [])
def clB (t : List UInt8) : ByteArray := if t = [111] then ⟨#[111, 114, 103, 97, 110, 105, 122, 97, 116, 105, 111, 110]⟩ else if t = [111, 117] then ⟨#[111, 114, 103, 97, 110, 105, 122, 97, 116, 105, 111, 110, 97, 108, 117, 110, 105, 116]⟩ else ⟨#[112, 101, 114, 115, 111, 110]⟩
def dscE (x : Nat) : List UInt8 := 100 :: Lib.itoa (x : Int)
def fstE (k x : Nat) : List AT := [((avE k).1, [(avE k).2]), ([111, 98, 106, 101, 99, 116, 99, 108, 97, 115, 115], [(clB (avE k).1).data.toList]), ([100, 101, 115, 99, 114, 105, 112, 116, 105, 111, 110], [dscE x])]
def snE (x : Nat) : List AT := [([115, 110], [115 :: Lib.itoa ((x % 4 : Nat) : Int)])]
def pwE (i : Nat) : List AT := [([117, 115, 101, 114, 112, 97, 115, 115, 119, 111, 114, 100], [112 :: 119 :: Lib.itoa (i : Int)])]
def isP (k : Nat) : Bool := !decide ((avE k).1 = [111]) && !decide ((avE k).1 = [111, 117])
def rawE (i x : Nat) : List AT := fstE (i % 12) x ++ (if isP (i % 12) = true then snE x ++ (if x % 3 = 0 then pwE i else []) else [])
def entE (i x : Nat) : ET := normE (nmE (i % 12), rawE i x)

def okNm (k : Nat) : Bool := (parseD (nmE k)).isSome && !((parseD (nmE k)).getD []).isEmpty && decide ((nmE k).length ≤ 30) && decide ((avE k).1.length ≤ 3) && decide ((avE k).2.length ≤ 3)
theorem nm_ok : (List.range 12).all okNm = true := by kernel_rfl
theorem nm_parse (k : Nat) (hk : k < 12) : (parseD (nmE k)).isSome = true ∧ ((parseD (nmE k)).getD []).isEmpty = false ∧ (nmE k).length ≤ 30 ∧ (avE k).1.length ≤ 3 ∧ (avE k).2.length ≤ 3 := by
  have h := List.all_eq_true.1 nm_ok k (by simpa using hk)
  unfold okNm at h
  simp only [Bool.and_eq_true, decide_eq_true_eq, Bool.not_eq_true'] at h
  exact ⟨h.1.1.1.1, h.1.1.1.2, h.1.1.2, h.1.2, h.2⟩
theorem nm_first {k : Nat} (hk : k < 12) : ∃ l, parseD (nmE k) = some (avE k :: l) := by
  obtain ⟨h1, h2, _⟩ := nm_parse k hk
  unfold avE
  cases e : parseD (nmE k) with
  | none => rw [e] at h1; cases h1
  | some l =>
    rw [e] at h2
    cases l with
    | nil => cases h2
    | cons r l => exact ⟨l, rfl⟩
theorem itoa_byte {n : Nat} (h : n < 256) : (Lib.itoa (n : Int)).length ≤ 3 := by
  have : ∀ m : Fin 256, (Lib.itoa ((m : Nat) : Int)).length ≤ 3 := by decide +kernel
  exact this ⟨n, h⟩
theorem raw_len (i x : Nat) : (rawE i x).length ≤ 5 := by
  unfold rawE fstE snE pwE
  by_cases h : isP (i % 12) = true
  · by_cases h3 : x % 3 = 0 <;> simp [h, h3]
  · simp [h]
end Go.Proofs.YtpnbcmblnplbgaaGreatDoor


namespace Go.Proofs.YtpnbcmblnplbgaaGreatDoor
open Go.RowKit
set_option linter.unusedVariables false

def IsB (n0 : Nat) (w : World) (l : List UInt8) (a : Option Addr) (cap : Nat) : Prop :=
  l.length ≤ maxLen ∧ (l = [] ∨ ∃ b off, a = some ⟨b, off, none⟩ ∧ b < n0 ∧ ∀ j, (h : j < l.length) → w.cell? ⟨b, off + j, none⟩ = some (.int .u8 l[j].toNat))
def IsS (n0 : Nat) (w : World) (L : List ByteArray) (a : Option Addr) (cap : Nat) : Prop :=
  L.length ≤ maxLen ∧ (∀ s ∈ L, s.size ≤ maxLen) ∧ (L = [] ∨ ∃ b off, a = some ⟨b, off, none⟩ ∧ b < n0 ∧ ∀ j, (h : j < L.length) → w.cell? ⟨b, off + j, none⟩ = some (.string L[j]))
theorem IsB.below {n0 : Nat} {w w' : World} {l : List UInt8} {a : Option Addr} {cap : Nat} (h : IsB n0 w l a cap) (hb : Below n0 w w') : IsB n0 w' l a cap :=
  ⟨h.1, h.2.imp id fun ⟨b, off, e, hlt, hc⟩ => ⟨b, off, e, hlt, fun j hj => (hb.cell (p := ⟨b, _, none⟩) hlt).trans (hc j hj)⟩⟩
theorem IsS.below {n0 : Nat} {w w' : World} {l : List ByteArray} {a : Option Addr} {cap : Nat} (h : IsS n0 w l a cap) (hb : Below n0 w w') : IsS n0 w' l a cap :=
  ⟨h.1, h.2.1, h.2.2.imp id fun ⟨b, off, e, hlt, hc⟩ => ⟨b, off, e, hlt, fun j hj => (hb.cell (p := ⟨b, _, none⟩) hlt).trans (hc j hj)⟩⟩

set_option maxRecDepth 100000 in
theorem open_bytes {H : Type} {enc : TypeId × Value → H} {W : World} {v : Value} {d : DataW H} {ps : List MemPlace} (hval : Value.okWide Tryz.prog W .any 0 22 v) (hd : DataW.Trod enc Tryz.prog W 0 (fun _ => true) true 22 v d ps) :
    ∃ (a : Option Addr) (cap : Nat) (l : List UInt8), v = .slice a l.length cap ∧ IsB W.heap.size W l a cap := by
  obtain ⟨a0, len, cap, rfl⟩ := Go.WideShapes.okWide_slice Tryz.underlying22 hval
  obtain ⟨fuel, hf⟩ := hd
  have hc : Tryz.prog.cellsOf 5 = 1 := by kernel_rfl
  rcases Go.ChangeShapes.open_ints Tryz.underlying22 Tryz.underlying5 hc hf with ⟨hcs, _⟩ | ⟨a, len', cap', zs, hcs, _, hle, hmax, hall, _, hcell, hwf⟩
  · simp [Value.cells] at hcs
    obtain ⟨rfl, rfl, rfl⟩ := hcs
    exact ⟨none, 0, [], rfl, Nat.zero_le _, .inl rfl⟩
  · simp [Value.cells] at hcs
    obtain ⟨rfl, rfl, rfl⟩ := hcs
    simp only [if_true] at hall
    have hlen : ((zs.take len).map fun z => UInt8.ofNat z.toNat).length = len := by simp; omega
    refine ⟨some a, cap, (zs.take len).map fun z => UInt8.ofNat z.toNat, by rw [hlen], by omega, ?_⟩
    by_cases h0 : len = 0
    · left; subst h0; simp
    · right
      obtain ⟨b, off, rfl, hat⟩ := ints_at hcell (by omega)
      refine ⟨b, off, rfl, World.block_lt_of_cell? W ⟨b, off + 0, none⟩ (hat 0 (by omega)), fun j hj => ?_⟩
      have hjz : j < zs.length := by omega
      have hw := hwf zs[j] (List.getElem_mem _)
      simp only [Lit.wf, Bool.and_eq_true, decide_eq_true_eq] at hw
      have h1 : (0 : Int) ≤ zs[j] := hw.1
      have h2 : zs[j] ≤ 255 := hw.2
      have hn : (UInt8.ofNat zs[j].toNat).toNat = zs[j].toNat := by simp; omega
      rw [hat j hjz]
      simp only [List.getElem_map, List.getElem_take, hn]
      simp [List.getD, List.getElem?_eq_getElem hjz]
      omega

end Go.Proofs.YtpnbcmblnplbgaaGreatDoor


namespace Go.Proofs.YtpnbcmblnplbgaaGreatDoor
open Go.RowKit
set_option linter.unusedVariables false

def kC (ns : List UInt8) (j : Nat) : Array Value := #[.int .i64 (if 0 < j then (kOf ns 0 : Int) else 0), .int .i64 (if 1 < j then (kOf ns 1 : Int) else 0), .int .i64 (if 2 < j then (kOf ns 2 : Int) else 0), .int .i64 (if 3 < j then (kOf ns 3 : Int) else 0), .int .i64 (if 4 < j then (kOf ns 4 : Int) else 0), .int .i64 (if 5 < j then (kOf ns 5 : Int) else 0), .int .i64 (if 6 < j then (kOf ns 6 : Int) else 0), .int .i64 (if 7 < j then (kOf ns 7 : Int) else 0)]
def P1 (P : List PT) : Prop := ∃ t vb, P[1]? = some (t, .slice (some ⟨vb, 0, none⟩) 1 1)
end Go.Proofs.YtpnbcmblnplbgaaGreatDoor

