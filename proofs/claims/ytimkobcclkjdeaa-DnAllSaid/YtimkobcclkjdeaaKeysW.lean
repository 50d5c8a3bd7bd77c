/- The key of a key is that; other ways to write a name: the walk. -/
import Derived.Test.YtimkobcclkjdeaaKeysP
import Derived.Test.YtimkobcclkjdeaaUnderW
import Derived.Deep.QuietTactic
import Derived.BigQuiet
namespace Go.Proofs.Ytimkobcclkjdeaa
open Go.RowKit
set_option linter.unusedVariables false

theorem ofL_size (l : List UInt8) : (ofL l).size = l.length := by rw [← bytes_len, ofL_list]
theorem upper_at (m : Nat) (h : m < 16) : (⟨#[48, 49, 50, 51, 52, 53, 54, 55, 56, 57, 65, 66, 67, 68, 69, 70]⟩ : ByteArray).extract m (m + 1) = ofL [digU m] := by
  refine bytes_ext ?_
  rw [ofL_list, one_byte _ m (by exact h)]
  rcases (show m = 0 ∨ m = 1 ∨ m = 2 ∨ m = 3 ∨ m = 4 ∨ m = 5 ∨ m = 6 ∨ m = 7 ∨ m = 8 ∨ m = 9 ∨ m = 10 ∨ m = 11 ∨ m = 12 ∨ m = 13 ∨ m = 14 ∨ m = 15 from by omega) with rfl | rfl | rfl | rfl | rfl | rfl | rfl | rfl | rfl | rfl | rfl | rfl | rfl | rfl | rfl | rfl <;> rfl
theorem lower_at (m : Nat) (h : m < 16) : (⟨#[48, 49, 50, 51, 52, 53, 54, 55, 56, 57, 97, 98, 99, 100, 101, 102]⟩ : ByteArray).extract m (m + 1) = ofL [digL m] := by
  refine bytes_ext ?_
  rw [ofL_list, one_byte _ m (by exact h)]
  rcases (show m = 0 ∨ m = 1 ∨ m = 2 ∨ m = 3 ∨ m = 4 ∨ m = 5 ∨ m = 6 ∨ m = 7 ∨ m = 8 ∨ m = 9 ∨ m = 10 ∨ m = 11 ∨ m = 12 ∨ m = 13 ∨ m = 14 ∨ m = 15 from by omega) with rfl | rfl | rfl | rfl | rfl | rfl | rfl | rfl | rfl | rfl | rfl | rfl | rfl | rfl | rfl | rfl <;> rfl

set_option maxRecDepth 100000 in
set_option maxHeartbeats 8000000 in
theorem keys_walk (vals : List ByteArray) (ns : List UInt8) (a0 a1 : Option Addr) (c0 c1 : Nat) (up : Bool) (w : World) (h0 : IsS w.heap.size w vals a0 c0) (h1 : IsB w.heap.size w ns a1 c1) :
    Calls Try.prog 6 #[.slice a0 vals.length c0, .slice a1 ns.length c1, .bool up] w fun e w' => e = .returned (.bool true) ∧ Below w.heap.size w w' := by
  have hmk := make_any vals ns a0 a1 c0 c1 w w (Below.refl _ _) h0 h1
  have hok := makeL_ok vals ns
  obtain ⟨hall, hof, hl5⟩ := makeL_all vals ns
  have hv99 : ∀ r ∈ makeL vals ns, r.2.length ≤ 99 := by
    intro r hr
    unfold makeL makeN at hr
    obtain ⟨i, _, rfl⟩ := List.mem_map.1 hr
    unfold mkR
    simp; omega
  obtain ⟨l, hl⟩ : ∃ l, l = makeL vals ns := ⟨_, rfl⟩
  rw [← hl] at hmk hok hall hof hl5 hv99
  have HMk := Lib.hid hmk
  have HAw := Lib.hid awake_any
  have hsm := okL_small hok
  have HSm := Lib.hid hsm
  have hno := okL_norm hok hof
  have hnf : (l.map normR).all okF = true := by
    rw [List.all_map, List.all_eq_true]
    intro r hr
    have := List.all_eq_true.1 hof r hr
    show okF (normR r) = true
    unfold okF normR at *
    simp only [fold_fold]
    exact this
  have hnn : (l.map normR).map normR = l.map normR := by
    rw [List.map_map]
    have : (normR ∘ normR) = normR := by funext r; unfold normR; simp [Function.comp, low_low, fold_fold]
    rw [this]
  have hk0 := fun w => key_part l hok hof 0 w
  rw [List.drop_zero] at hk0
  have hk2 := fun w => key_part (l.map normR) hno hnf 0 w
  rw [List.drop_zero] at hk2
  have hkb : kB (l.map normR) 0 = kB l 0 := by unfold kB; rw [hnn]
  have hks : strV (textD (l.map normR)) = .string (kB l 0) := rfl
  rw [hks, hkb] at hk2
  have hkalt := key_alt up l (by omega) hall hv99 hof
  have hka : ∀ (T : ByteArray) (w : World), T.data.toList = altT up l → T.size ≤ 1000000 → Calls Try.prog 14 #[.string T] w fun e w' => e = .returned (.tuple #[.string (kB l 0), .bool true]) ∧ Below w.heap.size w w' := by
    intro T w hT hs
    have := key_any T (by omega) w
    rw [hT, hkalt] at this
    exact this
  have HK0 := Lib.hid hk0
  have HK2 := Lib.hid hk2
  have HKa := Lib.hid hka
  have HAl := Lib.hid (altN_len up l hsm)
  clear hmk hl h0 h1 hok hall hof hv99 hsm hno hnf hnn hk0 hk2 hkb hks hkalt hka
  have tok1 : True := trivial
  go_enter Try.func6, Try.ntmps6
  go_wp2_with (first
    | (go_at_call 27; refine (HMk.out).mono ?_; rintro e w1 ⟨v, rfl, hown, hb1⟩; obtain ⟨a, c, rfl⟩ := ownR_slice hown; have HB1 := Lib.hid hb1; have HIL := Lib.hid (ownR_isL hown (by unfold maxLen; omega)); clear hown hb1)
    | (go_at_call 25; refine (text_any l HSm.out (.slice a l.length c) _ HIL.out).mono ?_; rintro e w2 ⟨rfl, hb2⟩; have HB2 := Lib.hid hb2; clear hb2)
    | (go_at_call 14; have _t := tok1; refine (HK0.out _).mono ?_; clear _t tok1; rintro e w3 ⟨rfl, hb3⟩; have HB3 := Lib.hid hb3; clear hb3)
    | (go_at_call 14; refine (HK2.out _).mono ?_; rintro e w4 ⟨rfl, hb4⟩; have HB4 := Lib.hid hb4; clear hb4))
  have hw14 : Below w1.heap.size w1 w4 := then_ (then_ HB2.out HB3.out) HB4.out
  have HW14 := Lib.hid hw14
  clear hw14
  go_loopw [13, 14] (fun t i wr => ∃ j : Nat, j ≤ l.length ∧ i = .int .i64 j ∧ t = .string (ofL (altN up l j)) ∧ Below w1.heap.size w1 wr) (fun _ i _ => l.length - (intOf i).toNat)
  case atStart => exact ⟨0, by omega, rfl, by rfl, HW14.out⟩
  case round =>
    obtain ⟨j, hj, rfl, rfl, hbel⟩ := hrel
    have HBel := Lib.hid hbel
    have hal := HAl.out j hj
    by_cases hlt : j < l.length
    · have t1 : decide ((j : Int) < (l.length : Int)) = true := by simp; omega
      have t1' : decide (j < l.length) = true := by simpa using hlt
      obtain ⟨a', cc, hv, _, hcell⟩ := HIL.out
      simp only [Value.slice.injEq, true_and] at hv
      obtain ⟨rfl, rfl⟩ := hv
      obtain ⟨b, off, rfl, hbw, c0', c1'⟩ := hcell j hlt
      obtain ⟨X, hX⟩ : ∃ X : ByteArray, X = ⟨l[j].1.toArray⟩ := ⟨_, rfl⟩
      obtain ⟨Y, hY⟩ : ∃ Y : ByteArray, Y = ⟨l[j].2.toArray⟩ := ⟨_, rfl⟩
      have hXl : X.data.toList = l[j].1 := by rw [hX]
      have hYl : Y.data.toList = l[j].2 := by rw [hY]
      have hXs : X.size ≤ 1000 := by rw [← bytes_len, hXl]; exact (HSm.out.2 _ (List.getElem_mem hlt)).1
      have hYs : Y.size ≤ 1000 := by rw [← bytes_len, hYl]; exact (HSm.out.2 _ (List.getElem_mem hlt)).2
      have k0 : w1.cell? ⟨b, off + j * 2, none⟩ = some (.string X) := by rw [c0', hX]; rfl
      have k1 : w1.cell? ⟨b, off + j * 2 + 1, none⟩ = some (.string Y) := by rw [c1', hY]; rfl
      have d0 : wr.cell? ⟨b, off + j * 2, none⟩ = some (.string X) := by rw [hbel.cell (p := ⟨b, _, none⟩) hbw, k0]
      have K1 := Lib.hid k1
      have hlow := fun w => lowerRef_any X w (by omega)
      have HLow := Lib.hid hlow
      have hsucc := altN_succ up l j hlt
      have HS := Lib.hid hsucc
      have HXl := Lib.hid hXl
      have HYl := Lib.hid hYl
      clear hcell c0' c1' hX hY hXl hYl k0 k1 hlow hsucc hbel
      obtain ⟨A, hA⟩ : ∃ A, A = ofL (altN up l j) := ⟨_, rfl⟩
      have hAs : A.size ≤ 25005 := by rw [hA, ofL_size]; omega
      have HA := Lib.hid hA
      rw [← hA]
      clear hA
      have hcomma : ∃ A' : ByteArray, (if j = 0 then A = A' else A ++ ⟨#[44]⟩ = A') ∧ A'.data.toList = (if j = 0 then [] else altN up l j ++ [44]) ∧ A'.size ≤ 25006 := by
        by_cases h : j = 0
        · subst h
          refine ⟨A, by simp, ?_, by omega⟩
          rw [HA.out, ofL_list]; rfl
        · refine ⟨A ++ ⟨#[44]⟩, by simp [h], ?_, ?_⟩
          · rw [if_neg h, app_list, HA.out, ofL_list]
          · rw [ByteArray.size_append]; show A.size + 1 ≤ _; omega
      obtain ⟨A', hA1, hA2, hA3⟩ := hcomma
      have hty : ∃ T : ByteArray, T = (if up = true then lowB X else X) ∧ T.data.toList = (if up = true then low l[j].1 else l[j].1) ∧ T.size ≤ 1000 := by
        refine ⟨_, rfl, ?_, ?_⟩
        · split
          · rw [lowB_list, HXl.out]
          · exact HXl.out
        · split
          · rw [← bytes_len, lowB_list, low_length, bytes_len]; exact hXs
          · exact hXs
      obtain ⟨T, hT1, hT2, hT3⟩ := hty
      obtain ⟨B1, hB1⟩ : ∃ B, A' ++ T = B := ⟨_, rfl⟩
      obtain ⟨B2, hB2⟩ : ∃ B, B1 ++ ⟨#[61, 92, 50, 48]⟩ = B := ⟨_, rfl⟩
      have hs1 : B1.size = A'.size + T.size := by rw [← hB1, ByteArray.size_append]
      have hs2 : B2.size = B1.size + 4 := by rw [← hB2, ByteArray.size_append]; rfl
      have hB2l : altN up l (j + 1) = B2.data.toList ++ hexT l[j].2 := by
        rw [HS.out, ← hB2, ← hB1, app_list, app_list, hA2, hT2]
        unfold alt
        simp [List.append_assoc]
      have HB2l := Lib.hid hB2l
      have hs2' : B2.size ≤ 26010 := by omega
      have q1 : A.size + 1 ≤ 9223372036854775807 := by omega
      have q2 : A'.size + T.size ≤ 9223372036854775807 := by omega
      have q3 : B1.size + 4 ≤ 9223372036854775807 := by omega
      clear hA2 hT2 hs1 hs2 hB2l
      have hways : (j = 0 ∨ j ≠ 0) := by omega
      have tail : ∀ (wr2 : World), Below w1.heap.size w1 wr2 → True := fun _ _ => trivial
      clear tail
      by_cases h0 : j = 0
      · rw [if_pos h0] at hA1
        subst hA1
        have t2 : decide ((0 : Int) < (j : Int)) = false := by simp; omega
        have t2' : decide (0 < j) = false := by simp; omega
        have H0 := Lib.hid h0
        clear h0 hways
        cases up with
        | true =>
          rw [if_pos rfl] at hT1
          have hlo := HLow.out
          rw [← hT1] at hlo
          have HLo := Lib.hid hlo
          clear hlo hT1
          go_wp2_with (go_at_call 28; refine (HLo.out _).mono ?_; rintro e w5 ⟨rfl, hb5⟩; have HBel := Lib.hid (HBel.out.trans (hb5.mono HBel.out.size)); clear hb5)
          go_loopw [13, 16] (fun t i wr2 => ∃ n : Nat, n ≤ Y.size ∧ i = .int .i64 n ∧ t = .string (ofL (B2.data.toList ++ hexT (Y.data.toList.take n))) ∧ Below w1.heap.size w1 wr2) (fun _ i _ => Y.size - (intOf i).toNat)
          case atStart => exact ⟨0, by omega, rfl, by simp [hexT, ofL], HBel.out⟩
          case round =>
            obtain ⟨n, hn, rfl, rfl, hbel2⟩ := hrel
            have HBel2 := Lib.hid hbel2
            have d1 : wr.cell? ⟨b, off + j * 2 + 1, none⟩ = some (.string Y) := by rw [hbel2.cell (p := ⟨b, _, none⟩) hbw, K1.out]
            by_cases hn2 : n < Y.size
            · have t3 : decide ((n : Int) < (Y.size : Int)) = true := by simp; omega
              obtain ⟨x, hx⟩ : ∃ x : UInt8, x = Y[n] := ⟨_, rfl⟩
              have hx' : Y[n]'hn2 = x := hx.symm
              have hxl := x.toNat_lt
              obtain ⟨m, hm⟩ : ∃ m, m = x.toNat / 16 := ⟨_, rfl⟩
              obtain ⟨k, hk⟩ : ∃ k, k = x.toNat % 16 := ⟨_, rfl⟩
              have hm16 : m < 16 := by omega
              have hk16 : k < 16 := by omega
              have hmi : (x.toNat : Int) / 16 = (m : Int) := by omega
              have hki : (x.toNat : Int) % 16 = (k : Int) := by omega
              obtain ⟨T0, hT0⟩ : ∃ T0, T0 = ofL (B2.data.toList ++ hexT (Y.data.toList.take n)) := ⟨_, rfl⟩
              have hT0s : T0.size ≤ 29010 := by
                rw [hT0, ofL_size, List.length_append, hexT_len, bytes_len]
                have := List.length_take_le n Y.data.toList
                omega
              obtain ⟨T1, hT1⟩ : ∃ T, T0 ++ ⟨#[92]⟩ = T := ⟨_, rfl⟩
              have hu := upper_at m hm16
              have hl := lower_at k hk16
              obtain ⟨D1, hD1⟩ : ∃ D, D = ofL [digU m] := ⟨_, rfl⟩
              obtain ⟨D2, hD2⟩ : ∃ D, D = ofL [digL k] := ⟨_, rfl⟩
              rw [← hD1] at hu
              rw [← hD2] at hl
              have hD1s : D1.size = 1 := by rw [hD1, ofL_size]; rfl
              have hD2s : D2.size = 1 := by rw [hD2, ofL_size]; rfl
              obtain ⟨T2, hT2⟩ : ∃ T, T1 ++ D1 = T := ⟨_, rfl⟩
              obtain ⟨T3, hT3⟩ : ∃ T, T2 ++ D2 = T := ⟨_, rfl⟩
              have hT1s : T1.size = T0.size + 1 := by rw [← hT1, ByteArray.size_append]; rfl
              have hT2s : T2.size = T1.size + 1 := by rw [← hT2, ByteArray.size_append, hD1s]
              have hnew : T3 = ofL (B2.data.toList ++ hexT (Y.data.toList.take (n + 1))) := by
                have htk : Y.data.toList.take (n + 1) = Y.data.toList.take n ++ [x] := by rw [List.take_succ_eq_append_getElem (by rw [bytes_len]; exact hn2), hx]; rfl
                rw [htk, hexT_append, ← hT3, ← hT2, ← hT1, hT0, hD1, hD2, hm, hk]
                refine bytes_ext ?_
                rw [app_list, app_list, app_list, ofL_list, ofL_list, ofL_list, ofL_list]
                simp [hexT]
              have HNew := Lib.hid hnew
              have f1 : (9223372036854775807 < T0.size + 1) = False := by simp; omega
              have f2 : (9223372036854775807 < T1.size + D1.size) = False := by simp; omega
              have f3 : (9223372036854775807 < T2.size + D2.size) = False := by simp; omega
              have g5 : (0 : Int) ≤ (m : Int) := by omega
              have g6 : (0 : Int) ≤ (k : Int) := by omega
              have g7 : (0 : Int) ≤ (m : Int) + 1 := by omega
              have g8 : (0 : Int) ≤ (k : Int) + 1 := by omega
              have w1' : IntKind.u8.wrap ((m : Int) + 1) = (m : Int) + 1 := IntWalk.u8_in _ (by omega)
              have w2' : IntKind.u8.wrap ((k : Int) + 1) = (k : Int) + 1 := IntWalk.u8_in _ (by omega)
              have g1 : (m : Int) + 1 ≤ 16 := by omega
              have g2 : (k : Int) + 1 ≤ 16 := by omega
              have g3 : ((m : Int) + 1).toNat = m + 1 := by omega
              have g4 : ((k : Int) + 1).toNat = k + 1 := by omega
              rw [← hT0]
              clear hx hm hk hT0 hD1 hD2 hD1s hD2s hT1s hT2s hnew hbel2
              go_wp2
              go_quiet (fail)
              go_wp2
              go_roundw
              case rel => exact ⟨n + 1, by omega, by go_num, by rw [HNew.out], HBel2.out.trans ⟨rfl, rfl, rfl, Nat.le_refl _, fun _ _ => rfl⟩⟩
              case measure => simp [intOf]; omega
            · obtain rfl : n = Y.size := by omega
              have t3 : decide ((Y.size : Int) < (Y.size : Int)) = false := by simp
              have hend : ofL (B2.data.toList ++ hexT (Y.data.toList.take Y.size)) = ofL (altN true l (j + 1)) := by rw [List.take_of_length_le (by simp), HB2l.out, HYl.out]
              rw [hend]
              clear hend hbel2
              go_wp2
              go_roundw
              case rel => exact ⟨j + 1, by omega, by go_num, rfl, HBel2.out⟩
              case measure => simp [intOf]; omega
        | false =>
          rw [if_neg (by simp)] at hT1
          subst hT1
          go_wp2
          go_loopw [13, 16] (fun t i wr2 => ∃ n : Nat, n ≤ Y.size ∧ i = .int .i64 n ∧ t = .string (ofL (B2.data.toList ++ hexT (Y.data.toList.take n))) ∧ Below w1.heap.size w1 wr2) (fun _ i _ => Y.size - (intOf i).toNat)
          case atStart => exact ⟨0, by omega, rfl, by simp [hexT, ofL], HBel.out⟩
          case round =>
            obtain ⟨n, hn, rfl, rfl, hbel2⟩ := hrel
            have HBel2 := Lib.hid hbel2
            have d1 : wr.cell? ⟨b, off + j * 2 + 1, none⟩ = some (.string Y) := by rw [hbel2.cell (p := ⟨b, _, none⟩) hbw, K1.out]
            by_cases hn2 : n < Y.size
            · have t3 : decide ((n : Int) < (Y.size : Int)) = true := by simp; omega
              obtain ⟨x, hx⟩ : ∃ x : UInt8, x = Y[n] := ⟨_, rfl⟩
              have hx' : Y[n]'hn2 = x := hx.symm
              have hxl := x.toNat_lt
              obtain ⟨m, hm⟩ : ∃ m, m = x.toNat / 16 := ⟨_, rfl⟩
              obtain ⟨k, hk⟩ : ∃ k, k = x.toNat % 16 := ⟨_, rfl⟩
              have hm16 : m < 16 := by omega
              have hk16 : k < 16 := by omega
              have hmi : (x.toNat : Int) / 16 = (m : Int) := by omega
              have hki : (x.toNat : Int) % 16 = (k : Int) := by omega
              obtain ⟨T0, hT0⟩ : ∃ T0, T0 = ofL (B2.data.toList ++ hexT (Y.data.toList.take n)) := ⟨_, rfl⟩
              have hT0s : T0.size ≤ 29010 := by
                rw [hT0, ofL_size, List.length_append, hexT_len, bytes_len]
                have := List.length_take_le n Y.data.toList
                omega
              obtain ⟨T1, hT1⟩ : ∃ T, T0 ++ ⟨#[92]⟩ = T := ⟨_, rfl⟩
              have hu := upper_at m hm16
              have hl := lower_at k hk16
              obtain ⟨D1, hD1⟩ : ∃ D, D = ofL [digU m] := ⟨_, rfl⟩
              obtain ⟨D2, hD2⟩ : ∃ D, D = ofL [digL k] := ⟨_, rfl⟩
              rw [← hD1] at hu
              rw [← hD2] at hl
              have hD1s : D1.size = 1 := by rw [hD1, ofL_size]; rfl
              have hD2s : D2.size = 1 := by rw [hD2, ofL_size]; rfl
              obtain ⟨T2, hT2⟩ : ∃ T, T1 ++ D1 = T := ⟨_, rfl⟩
              obtain ⟨T3, hT3⟩ : ∃ T, T2 ++ D2 = T := ⟨_, rfl⟩
              have hT1s : T1.size = T0.size + 1 := by rw [← hT1, ByteArray.size_append]; rfl
              have hT2s : T2.size = T1.size + 1 := by rw [← hT2, ByteArray.size_append, hD1s]
              have hnew : T3 = ofL (B2.data.toList ++ hexT (Y.data.toList.take (n + 1))) := by
                have htk : Y.data.toList.take (n + 1) = Y.data.toList.take n ++ [x] := by rw [List.take_succ_eq_append_getElem (by rw [bytes_len]; exact hn2), hx]; rfl
                rw [htk, hexT_append, ← hT3, ← hT2, ← hT1, hT0, hD1, hD2, hm, hk]
                refine bytes_ext ?_
                rw [app_list, app_list, app_list, ofL_list, ofL_list, ofL_list, ofL_list]
                simp [hexT]
              have HNew := Lib.hid hnew
              have f1 : (9223372036854775807 < T0.size + 1) = False := by simp; omega
              have f2 : (9223372036854775807 < T1.size + D1.size) = False := by simp; omega
              have f3 : (9223372036854775807 < T2.size + D2.size) = False := by simp; omega
              have g5 : (0 : Int) ≤ (m : Int) := by omega
              have g6 : (0 : Int) ≤ (k : Int) := by omega
              have g7 : (0 : Int) ≤ (m : Int) + 1 := by omega
              have g8 : (0 : Int) ≤ (k : Int) + 1 := by omega
              have w1' : IntKind.u8.wrap ((m : Int) + 1) = (m : Int) + 1 := IntWalk.u8_in _ (by omega)
              have w2' : IntKind.u8.wrap ((k : Int) + 1) = (k : Int) + 1 := IntWalk.u8_in _ (by omega)
              have g1 : (m : Int) + 1 ≤ 16 := by omega
              have g2 : (k : Int) + 1 ≤ 16 := by omega
              have g3 : ((m : Int) + 1).toNat = m + 1 := by omega
              have g4 : ((k : Int) + 1).toNat = k + 1 := by omega
              rw [← hT0]
              clear hx hm hk hT0 hD1 hD2 hD1s hD2s hT1s hT2s hnew hbel2
              go_wp2
              go_quiet (fail)
              go_wp2
              go_roundw
              case rel => exact ⟨n + 1, by omega, by go_num, by rw [HNew.out], HBel2.out.trans ⟨rfl, rfl, rfl, Nat.le_refl _, fun _ _ => rfl⟩⟩
              case measure => simp [intOf]; omega
            · obtain rfl : n = Y.size := by omega
              have t3 : decide ((Y.size : Int) < (Y.size : Int)) = false := by simp
              have hend : ofL (B2.data.toList ++ hexT (Y.data.toList.take Y.size)) = ofL (altN false l (j + 1)) := by rw [List.take_of_length_le (by simp), HB2l.out, HYl.out]
              rw [hend]
              clear hend hbel2
              go_wp2
              go_roundw
              case rel => exact ⟨j + 1, by omega, by go_num, rfl, HBel2.out⟩
              case measure => simp [intOf]; omega
      · rw [if_neg h0] at hA1
        have t2 : decide ((0 : Int) < (j : Int)) = true := by simp; omega
        have t2' : decide (0 < j) = true := by simp; omega
        clear h0 hways
        cases up with
        | true =>
          rw [if_pos rfl] at hT1
          have hlo := HLow.out
          rw [← hT1] at hlo
          have HLo := Lib.hid hlo
          clear hlo hT1
          go_wp2_with (go_at_call 28; refine (HLo.out _).mono ?_; rintro e w5 ⟨rfl, hb5⟩; have HBel := Lib.hid (HBel.out.trans (hb5.mono HBel.out.size)); clear hb5)
          go_loopw [13, 16] (fun t i wr2 => ∃ n : Nat, n ≤ Y.size ∧ i = .int .i64 n ∧ t = .string (ofL (B2.data.toList ++ hexT (Y.data.toList.take n))) ∧ Below w1.heap.size w1 wr2) (fun _ i _ => Y.size - (intOf i).toNat)
          case atStart => exact ⟨0, by omega, rfl, by simp [hexT, ofL], HBel.out⟩
          case round =>
            obtain ⟨n, hn, rfl, rfl, hbel2⟩ := hrel
            have HBel2 := Lib.hid hbel2
            have d1 : wr.cell? ⟨b, off + j * 2 + 1, none⟩ = some (.string Y) := by rw [hbel2.cell (p := ⟨b, _, none⟩) hbw, K1.out]
            by_cases hn2 : n < Y.size
            · have t3 : decide ((n : Int) < (Y.size : Int)) = true := by simp; omega
              obtain ⟨x, hx⟩ : ∃ x : UInt8, x = Y[n] := ⟨_, rfl⟩
              have hx' : Y[n]'hn2 = x := hx.symm
              have hxl := x.toNat_lt
              obtain ⟨m, hm⟩ : ∃ m, m = x.toNat / 16 := ⟨_, rfl⟩
              obtain ⟨k, hk⟩ : ∃ k, k = x.toNat % 16 := ⟨_, rfl⟩
              have hm16 : m < 16 := by omega
              have hk16 : k < 16 := by omega
              have hmi : (x.toNat : Int) / 16 = (m : Int) := by omega
              have hki : (x.toNat : Int) % 16 = (k : Int) := by omega
              obtain ⟨T0, hT0⟩ : ∃ T0, T0 = ofL (B2.data.toList ++ hexT (Y.data.toList.take n)) := ⟨_, rfl⟩
              have hT0s : T0.size ≤ 29010 := by
                rw [hT0, ofL_size, List.length_append, hexT_len, bytes_len]
                have := List.length_take_le n Y.data.toList
                omega
              obtain ⟨T1, hT1⟩ : ∃ T, T0 ++ ⟨#[92]⟩ = T := ⟨_, rfl⟩
              have hu := upper_at m hm16
              have hl := lower_at k hk16
              obtain ⟨D1, hD1⟩ : ∃ D, D = ofL [digU m] := ⟨_, rfl⟩
              obtain ⟨D2, hD2⟩ : ∃ D, D = ofL [digL k] := ⟨_, rfl⟩
              rw [← hD1] at hu
              rw [← hD2] at hl
              have hD1s : D1.size = 1 := by rw [hD1, ofL_size]; rfl
              have hD2s : D2.size = 1 := by rw [hD2, ofL_size]; rfl
              obtain ⟨T2, hT2⟩ : ∃ T, T1 ++ D1 = T := ⟨_, rfl⟩
              obtain ⟨T3, hT3⟩ : ∃ T, T2 ++ D2 = T := ⟨_, rfl⟩
              have hT1s : T1.size = T0.size + 1 := by rw [← hT1, ByteArray.size_append]; rfl
              have hT2s : T2.size = T1.size + 1 := by rw [← hT2, ByteArray.size_append, hD1s]
              have hnew : T3 = ofL (B2.data.toList ++ hexT (Y.data.toList.take (n + 1))) := by
                have htk : Y.data.toList.take (n + 1) = Y.data.toList.take n ++ [x] := by rw [List.take_succ_eq_append_getElem (by rw [bytes_len]; exact hn2), hx]; rfl
                rw [htk, hexT_append, ← hT3, ← hT2, ← hT1, hT0, hD1, hD2, hm, hk]
                refine bytes_ext ?_
                rw [app_list, app_list, app_list, ofL_list, ofL_list, ofL_list, ofL_list]
                simp [hexT]
              have HNew := Lib.hid hnew
              have f1 : (9223372036854775807 < T0.size + 1) = False := by simp; omega
              have f2 : (9223372036854775807 < T1.size + D1.size) = False := by simp; omega
              have f3 : (9223372036854775807 < T2.size + D2.size) = False := by simp; omega
              have g5 : (0 : Int) ≤ (m : Int) := by omega
              have g6 : (0 : Int) ≤ (k : Int) := by omega
              have g7 : (0 : Int) ≤ (m : Int) + 1 := by omega
              have g8 : (0 : Int) ≤ (k : Int) + 1 := by omega
              have w1' : IntKind.u8.wrap ((m : Int) + 1) = (m : Int) + 1 := IntWalk.u8_in _ (by omega)
              have w2' : IntKind.u8.wrap ((k : Int) + 1) = (k : Int) + 1 := IntWalk.u8_in _ (by omega)
              have g1 : (m : Int) + 1 ≤ 16 := by omega
              have g2 : (k : Int) + 1 ≤ 16 := by omega
              have g3 : ((m : Int) + 1).toNat = m + 1 := by omega
              have g4 : ((k : Int) + 1).toNat = k + 1 := by omega
              rw [← hT0]
              clear hx hm hk hT0 hD1 hD2 hD1s hD2s hT1s hT2s hnew hbel2
              go_wp2
              go_quiet (fail)
              go_wp2
              go_roundw
              case rel => exact ⟨n + 1, by omega, by go_num, by rw [HNew.out], HBel2.out.trans ⟨rfl, rfl, rfl, Nat.le_refl _, fun _ _ => rfl⟩⟩
              case measure => simp [intOf]; omega
            · obtain rfl : n = Y.size := by omega
              have t3 : decide ((Y.size : Int) < (Y.size : Int)) = false := by simp
              have hend : ofL (B2.data.toList ++ hexT (Y.data.toList.take Y.size)) = ofL (altN true l (j + 1)) := by rw [List.take_of_length_le (by simp), HB2l.out, HYl.out]
              rw [hend]
              clear hend hbel2
              go_wp2
              go_roundw
              case rel => exact ⟨j + 1, by omega, by go_num, rfl, HBel2.out⟩
              case measure => simp [intOf]; omega
        | false =>
          rw [if_neg (by simp)] at hT1
          subst hT1
          go_wp2
          go_loopw [13, 16] (fun t i wr2 => ∃ n : Nat, n ≤ Y.size ∧ i = .int .i64 n ∧ t = .string (ofL (B2.data.toList ++ hexT (Y.data.toList.take n))) ∧ Below w1.heap.size w1 wr2) (fun _ i _ => Y.size - (intOf i).toNat)
          case atStart => exact ⟨0, by omega, rfl, by simp [hexT, ofL], HBel.out⟩
          case round =>
            obtain ⟨n, hn, rfl, rfl, hbel2⟩ := hrel
            have HBel2 := Lib.hid hbel2
            have d1 : wr.cell? ⟨b, off + j * 2 + 1, none⟩ = some (.string Y) := by rw [hbel2.cell (p := ⟨b, _, none⟩) hbw, K1.out]
            by_cases hn2 : n < Y.size
            · have t3 : decide ((n : Int) < (Y.size : Int)) = true := by simp; omega
              obtain ⟨x, hx⟩ : ∃ x : UInt8, x = Y[n] := ⟨_, rfl⟩
              have hx' : Y[n]'hn2 = x := hx.symm
              have hxl := x.toNat_lt
              obtain ⟨m, hm⟩ : ∃ m, m = x.toNat / 16 := ⟨_, rfl⟩
              obtain ⟨k, hk⟩ : ∃ k, k = x.toNat % 16 := ⟨_, rfl⟩
              have hm16 : m < 16 := by omega
              have hk16 : k < 16 := by omega
              have hmi : (x.toNat : Int) / 16 = (m : Int) := by omega
              have hki : (x.toNat : Int) % 16 = (k : Int) := by omega
              obtain ⟨T0, hT0⟩ : ∃ T0, T0 = ofL (B2.data.toList ++ hexT (Y.data.toList.take n)) := ⟨_, rfl⟩
              have hT0s : T0.size ≤ 29010 := by
                rw [hT0, ofL_size, List.length_append, hexT_len, bytes_len]
                have := List.length_take_le n Y.data.toList
                omega
              obtain ⟨T1, hT1⟩ : ∃ T, T0 ++ ⟨#[92]⟩ = T := ⟨_, rfl⟩
              have hu := upper_at m hm16
              have hl := lower_at k hk16
              obtain ⟨D1, hD1⟩ : ∃ D, D = ofL [digU m] := ⟨_, rfl⟩
              obtain ⟨D2, hD2⟩ : ∃ D, D = ofL [digL k] := ⟨_, rfl⟩
              rw [← hD1] at hu
              rw [← hD2] at hl
              have hD1s : D1.size = 1 := by rw [hD1, ofL_size]; rfl
              have hD2s : D2.size = 1 := by rw [hD2, ofL_size]; rfl
              obtain ⟨T2, hT2⟩ : ∃ T, T1 ++ D1 = T := ⟨_, rfl⟩
              obtain ⟨T3, hT3⟩ : ∃ T, T2 ++ D2 = T := ⟨_, rfl⟩
              have hT1s : T1.size = T0.size + 1 := by rw [← hT1, ByteArray.size_append]; rfl
              have hT2s : T2.size = T1.size + 1 := by rw [← hT2, ByteArray.size_append, hD1s]
              have hnew : T3 = ofL (B2.data.toList ++ hexT (Y.data.toList.take (n + 1))) := by
                have htk : Y.data.toList.take (n + 1) = Y.data.toList.take n ++ [x] := by rw [List.take_succ_eq_append_getElem (by rw [bytes_len]; exact hn2), hx]; rfl
                rw [htk, hexT_append, ← hT3, ← hT2, ← hT1, hT0, hD1, hD2, hm, hk]
                refine bytes_ext ?_
                rw [app_list, app_list, app_list, ofL_list, ofL_list, ofL_list, ofL_list]
                simp [hexT]
              have HNew := Lib.hid hnew
              have f1 : (9223372036854775807 < T0.size + 1) = False := by simp; omega
              have f2 : (9223372036854775807 < T1.size + D1.size) = False := by simp; omega
              have f3 : (9223372036854775807 < T2.size + D2.size) = False := by simp; omega
              have g5 : (0 : Int) ≤ (m : Int) := by omega
              have g6 : (0 : Int) ≤ (k : Int) := by omega
              have g7 : (0 : Int) ≤ (m : Int) + 1 := by omega
              have g8 : (0 : Int) ≤ (k : Int) + 1 := by omega
              have w1' : IntKind.u8.wrap ((m : Int) + 1) = (m : Int) + 1 := IntWalk.u8_in _ (by omega)
              have w2' : IntKind.u8.wrap ((k : Int) + 1) = (k : Int) + 1 := IntWalk.u8_in _ (by omega)
              have g1 : (m : Int) + 1 ≤ 16 := by omega
              have g2 : (k : Int) + 1 ≤ 16 := by omega
              have g3 : ((m : Int) + 1).toNat = m + 1 := by omega
              have g4 : ((k : Int) + 1).toNat = k + 1 := by omega
              rw [← hT0]
              clear hx hm hk hT0 hD1 hD2 hD1s hD2s hT1s hT2s hnew hbel2
              go_wp2
              go_quiet (fail)
              go_wp2
              go_roundw
              case rel => exact ⟨n + 1, by omega, by go_num, by rw [HNew.out], HBel2.out.trans ⟨rfl, rfl, rfl, Nat.le_refl _, fun _ _ => rfl⟩⟩
              case measure => simp [intOf]; omega
            · obtain rfl : n = Y.size := by omega
              have t3 : decide ((Y.size : Int) < (Y.size : Int)) = false := by simp
              have hend : ofL (B2.data.toList ++ hexT (Y.data.toList.take Y.size)) = ofL (altN false l (j + 1)) := by rw [List.take_of_length_le (by simp), HB2l.out, HYl.out]
              rw [hend]
              clear hend hbel2
              go_wp2
              go_roundw
              case rel => exact ⟨j + 1, by omega, by go_num, rfl, HBel2.out⟩
              case measure => simp [intOf]; omega
    · obtain rfl : j = l.length := by omega
      have t1 : decide ((l.length : Int) < (l.length : Int)) = false := by simp
      have t1' : decide (l.length < l.length) = false := by simp
      obtain ⟨A, hA⟩ : ∃ A, A = ofL (altN up l l.length) := ⟨_, rfl⟩
      have hAs : A.size ≤ 25005 := by rw [hA, ofL_size]; omega
      have hAl : A.data.toList = altT up l := by rw [hA, ofL_list]; unfold altN; rw [List.take_length]
      have HK := Lib.hid (fun w => HKa.out A w hAl (by omega))
      rw [← hA]
      clear hA hAl hbel
      go_wp2_with (first
        | (go_at_call 14; refine (HK.out _).mono ?_; rintro e w5 ⟨rfl, hb5⟩; have HBel := Lib.hid (HBel.out.trans (hb5.mono HBel.out.size)); clear hb5)
        | (go_at_call 11; refine (HAw.out _).mono ?_; rintro e w6 ⟨rfl, hb6⟩; have HBel := Lib.hid (HBel.out.trans (hb6.mono HBel.out.size)); clear hb6))
      go_ret
      exact ⟨rfl, then_ HB1.out HBel.out⟩
end Go.Proofs.Ytimkobcclkjdeaa
