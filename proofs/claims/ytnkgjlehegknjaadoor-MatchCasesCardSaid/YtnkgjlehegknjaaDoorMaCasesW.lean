/- Letters in whatever case, blanks around and in rows: the walk. -/
import Derived.Test.YtnkgjlehegknjaaDoorMaAwake
namespace Go.Proofs.YtnkgjlehegknjaaDoor
open Go.RowKit
set_option linter.unusedVariables false

theorem sameO_self {p q : Option (List UInt8)} {x : List UInt8} (h : p = some x) (k : q = some x) : sameO p q = true := by rw [h, k]; simp [sameO]
theorem bytesLess_self : ∀ l : List UInt8, Op.bytesLess l l = false
  | [] => rfl
  | c :: l => by
    have := bytesLess_self l
    simp [Op.bytesLess, this]
theorem normD_text {v : List UInt8} (h0 : v ≠ []) (h1 : v.length ≤ 100) (h2 : fold v ≠ []) : normD 1 v = some (fold v) := by
  unfold normD
  rw [if_neg (by rintro (h | h); exact h0 h; omega), if_pos rfl, if_neg h2]
theorem normD_pass {v : List UInt8} (h0 : v ≠ []) (h1 : v.length ≤ 100) : normD 4 v = some v := by
  unfold normD
  rw [if_neg (by rintro (h | h); exact h0 h; omega), if_neg (by decide), if_neg (by decide), if_neg (by decide), if_pos rfl]

set_option maxRecDepth 100000 in
set_option maxHeartbeats 8000000 in
theorem cases_walk (s : ByteArray) (n : Nat) (hn : n ≤ 255) (w : World) (hw : LaidW w) :
    Calls Tryd.prog 5 #[.string s, .int .u8 n] w fun e w' => e = .returned (.bool true) ∧ Below w.heap.size w w' := by
  have HW := Lib.hid hw
  clear hw
  by_cases hlen : s.size ≤ 40
  · have hd : decide ((40 : Int) < (s.size : Int)) = false := by simp; omega
    obtain ⟨T, hT⟩ : ∃ T : ByteArray, T = ⟨#[120]⟩ ++ s ++ ⟨#[121]⟩ := ⟨_, rfl⟩
    have hTl : T.data.toList = 120 :: (s.data.toList ++ [121]) := by rw [hT, app_list, app_list]; rfl
    have hTs : T.size = s.size + 2 := by rw [← bytes_len, hTl]; simp
    have hs1 : (⟨#[120]⟩ ++ s : ByteArray).size = s.size + 1 := by rw [← bytes_len, app_list]; simp
    have hT' : ⟨#[120]⟩ ++ s ++ ⟨#[121]⟩ = T := hT.symm
    have z1 : (⟨#[120]⟩ : ByteArray).size = 1 := rfl
    have z2 : (⟨#[121]⟩ : ByteArray).size = 1 := rfl
    have HTl := Lib.hid hTl
    have hT42 : T.size ≤ 42 := by omega
    clear hTs
    have hcv := fun w => Lib.run_convert_string_bytes (P := Tryd.prog) w 9 33 5 T Tryd.underlying9 Tryd.underlying33 Tryd.underlying5
    have HCv := Lib.hid hcv
    clear hTl hcv hT
    go_enter Tryd.func5, Tryd.ntmps5
    go_wp2
    clear hT' hs1 z1 z2
    go_loop [6, 7] (fun g i => ∃ j : Nat, j ≤ n % 5 ∧ i = .int .i64 j ∧ g = .string (blanks j)) (fun _ i => n % 5 - (intOf i).toNat)
    case atStart => exact ⟨0, by omega, rfl, by rfl⟩
    case round =>
      obtain ⟨j, hj, rfl, rfl⟩ := hrel
      by_cases hlt : j < n % 5
      · have t1 : decide ((j : Int) < (n : Int) % 5) = true := by simp; omega
        have hs := blanks_size j
        have h4 : j ≤ 4 := by omega
        have hs2 : (blanks j).size + 1 ≤ 9223372036854775807 := by omega
        go_wp2
        go_round
        case rel => exact ⟨j + 1, by omega, by go_num, by rw [← blanks_succ]⟩
        case measure => simp [intOf]; omega
      · obtain rfl : j = n % 5 := by omega
        have t1 : decide (((n % 5 : Nat) : Int) < (n : Int) % 5) = false := by simp
        have hG4 := blanks_size (n % 5)
        have hGl := blanks_list (n % 5)
        obtain ⟨G, hG⟩ : ∃ G, G = blanks (n % 5) := ⟨_, rfl⟩
        rw [← hG] at hG4 hGl ⊢
        have HGl := Lib.hid hGl
        have hG3 : G.size ≤ 4 := by omega
        have hcv := HCv.out
        clear hG hGl
        go_wp2
        clear hcv
        generalize grownCap w T.size 0 5 = cap
        go_loopw [9] (fun i wr => ∃ j : Nat, j ≤ T.size ∧ i = .int .i64 j ∧ MapAt upC w T j wr) (fun i _ => T.size - (intOf i).toNat)
        case atStart => exact ⟨0, by omega, rfl, mapAt_start upC w T⟩
        case round =>
          obtain ⟨j, hj, rfl, hlow⟩ := hrel
          by_cases hlt : j < T.size
          · have t1 : decide ((j : Int) < (T.size : Int)) = true := by simp; omega
            obtain ⟨c0, f0⟩ := hlow.cell hlt
            obtain ⟨c, hc⟩ : ∃ c : UInt8, c = T[j] := ⟨_, rfl⟩
            rw [← hc] at c0
            have hcl := c.toNat_lt
            have HLow := Lib.hid hlow
            clear hlow
            have hup := upC_toNat c
            by_cases h1 : 97 ≤ c.toNat
            · have t2 : decide ((97 : Int) ≤ (c.toNat : Int)) = true := by simp; omega
              by_cases h2 : c.toNat ≤ 122
              · have t3 : decide ((c.toNat : Int) ≤ 122) = true := by simp; omega
                rw [if_pos ⟨h1, h2⟩] at hup
                have HSt := Lib.hid (HLow.out.store hlt ((c.toNat : Int) - 32) (by rw [← hc]; omega))
                clear hc hup
                go_wp2
                go_roundw
                case rel => exact ⟨j + 1, by omega, by go_num, HSt.out⟩
                case measure => simp [intOf]; omega
              · have t3 : decide ((c.toNat : Int) ≤ 122) = false := by simp; omega
                have HSt := Lib.hid (HLow.out.skip hlt (by rw [← hc]; unfold upC; rw [if_neg (by omega)]))
                clear hc hup
                go_wp2
                go_roundw
                case rel => exact ⟨j + 1, by omega, by go_num, HSt.out⟩
                case measure => simp [intOf]; omega
            · have t2 : decide ((97 : Int) ≤ (c.toNat : Int)) = false := by simp; omega
              have HSt := Lib.hid (HLow.out.skip hlt (by rw [← hc]; unfold upC; rw [if_neg (by omega)]))
              clear hc hup
              go_wp2
              go_roundw
              case rel => exact ⟨j + 1, by omega, by go_num, HSt.out⟩
              case measure => simp [intOf]; omega
          · obtain rfl : j = T.size := by omega
            have t1 : decide ((T.size : Int) < (T.size : Int)) = false := by simp
            have hcv := hlow.conv (cap := cap)
            have HBel := Lib.hid hlow.1
            clear hlow
            obtain ⟨B, hB⟩ : ∃ B : ByteArray, B = ⟨(T.data.toList.map upC).toArray⟩ := ⟨_, rfl⟩
            have hBl : B.data.toList = upL T.data.toList := by rw [hB]; rfl
            have hBs : B.size = T.size := by rw [← bytes_len, hBl, upL_length, bytes_len]
            rw [← hB] at hcv
            obtain ⟨U, hU⟩ : ∃ U : ByteArray, G ++ B ++ G = U := ⟨_, rfl⟩
            have hUl : U.data.toList = List.replicate (n % 5) 32 ++ upL T.data.toList ++ List.replicate (n % 5) 32 := by rw [← hU, app_list, app_list, HGl.out, hBl]
            have hUs : U.size ≤ 50 := by rw [← bytes_len, hUl]; simp [upL]; omega
            have hGB : (G ++ B).size = G.size + B.size := by rw [← bytes_len, app_list, List.length_append, bytes_len, bytes_len]
            obtain ⟨T2, hT2⟩ : ∃ X : ByteArray, T ++ ⟨#[32, 122]⟩ = X := ⟨_, rfl⟩
            obtain ⟨U2, hU2⟩ : ∃ X : ByteArray, U ++ ⟨#[32, 32, 90]⟩ = X := ⟨_, rfl⟩
            have hT2l : T2.data.toList = T.data.toList ++ [32, 122] := by rw [← hT2, app_list]
            have hU2l : U2.data.toList = U.data.toList ++ [32, 32, 90] := by rw [← hU2, app_list]
            have z3 : (⟨#[32, 122]⟩ : ByteArray).size = 2 := rfl
            have z4 : (⟨#[32, 32, 90]⟩ : ByteArray).size = 3 := rfl
            -- what each comes to
            have hTne : T.data.toList ≠ [] := by rw [HTl.out]; simp
            have hf : fold U.data.toList = fold T.data.toList := by rw [hUl, fold_up]
            have hf2 : fold U2.data.toList = fold T2.data.toList := by rw [hU2l, hUl, hT2l, fold_more]
            have hfne : fold T.data.toList ≠ [] := by rw [HTl.out]; exact fold_some (by decide)
            have hf2ne : fold T2.data.toList ≠ [] := by rw [hT2l, HTl.out]; exact fold_some (by decide)
            have hUne : U.data.toList ≠ [] := by intro e; rw [e] at hf; exact hfne hf.symm
            have hU2ne : U2.data.toList ≠ [] := by intro e; rw [e] at hf2; exact hf2ne hf2.symm
            have hT2ne : T2.data.toList ≠ [] := by rw [hT2l]; simp
            have hT2s : T2.data.toList.length ≤ 100 := by rw [hT2l, List.length_append, bytes_len]; simp; omega
            have hU2s : U2.data.toList.length ≤ 100 := by rw [hU2l, List.length_append, bytes_len]; simp; omega
            have n1 := normD_text hTne (by rw [bytes_len]; omega) hfne
            have n2 := normD_text hUne (by rw [bytes_len]; omega) (by rw [hf]; exact hfne)
            have n3 := normD_text hT2ne hT2s hf2ne
            have n4 := normD_text hU2ne hU2s (by rw [hf2]; exact hf2ne)
            rw [hf] at n2
            rw [hf2] at n4
            have n5 := normD_pass hTne (by rw [bytes_len]; omega)
            have n6 := normD_pass hUne (by rw [bytes_len]; omega)
            obtain ⟨F, hF⟩ : ∃ F : ByteArray, F.data.toList = fold T.data.toList := ⟨⟨(fold T.data.toList).toArray⟩, by simp⟩
            have c1 := fun w hw => less_text ⟨#[115, 110]⟩ T U F F w hw rule_sn (by rw [n1, hF]) (by rw [n2, hF])
            rw [bytesLess_self] at c1
            have c2 := fun w hw => same_any ⟨#[99, 110]⟩ T U w hw
            have c3 := fun w hw => same_any ⟨#[109, 97, 105, 108]⟩ T2 U2 w hw
            have c4 := fun w hw => same_any ⟨#[117, 115, 101, 114, 80, 97, 115, 115, 119, 111, 114, 100]⟩ T U w hw
            have r2 : sameO (normD (ruleD (⟨#[99, 110]⟩ : ByteArray).data.toList) T.data.toList) (normD (ruleD (⟨#[99, 110]⟩ : ByteArray).data.toList) U.data.toList) = true := by
              rw [show ruleD (⟨#[99, 110]⟩ : ByteArray).data.toList = 1 from rule_cn]; exact sameO_self n1 n2
            have r3 : sameO (normD (ruleD (⟨#[109, 97, 105, 108]⟩ : ByteArray).data.toList) T2.data.toList) (normD (ruleD (⟨#[109, 97, 105, 108]⟩ : ByteArray).data.toList) U2.data.toList) = true := by
              rw [show ruleD (⟨#[109, 97, 105, 108]⟩ : ByteArray).data.toList = 1 from rule_mail]; exact sameO_self n3 n4
            have r4 : sameO (normD (ruleD (⟨#[117, 115, 101, 114, 80, 97, 115, 115, 119, 111, 114, 100]⟩ : ByteArray).data.toList) T.data.toList) (normD (ruleD (⟨#[117, 115, 101, 114, 80, 97, 115, 115, 119, 111, 114, 100]⟩ : ByteArray).data.toList) U.data.toList) = (T.toList == U.toList) := by
              rw [show ruleD (⟨#[117, 115, 101, 114, 80, 97, 115, 115, 119, 111, 114, 100]⟩ : ByteArray).data.toList = 4 from rule_pass, n5, n6]
              simp only [sameO, ByteArray.toList_eq]
            simp only [r2] at c2
            simp only [r3] at c3
            obtain ⟨b, hb⟩ : ∃ b, (T.toList == U.toList) = b := ⟨_, rfl⟩
            rw [hb] at r4
            simp only [r4] at c4
            have hbb : (b == b) = true := by simp
            have C1 := Lib.hid c1
            have C2 := Lib.hid c2
            have C3 := Lib.hid c3
            have C4 := Lib.hid c4
            have hsT2 : T.size + 2 ≤ 9223372036854775807 := by omega
            have hsU2 : U.size + 3 ≤ 9223372036854775807 := by omega
            have tok : True := trivial
            clear c1 c2 c3 c4 r2 r3 r4 n1 n2 n3 n4 n5 n6 hF hT2s hU2s hT2ne hU2ne hUne hf2ne hfne hf hf2 hTne hT2l hU2l hUl hB hBl
            go_wp2_with (first
              | (go_at_call 12; refine (C1.out _ (HW.out.below HBel.out)).mono ?_; rintro e w1 ⟨rfl, hb1⟩; have HB := Lib.hid (bthen HBel.out hb1); clear hb1)
              | (go_at_call 10; first | ((with_reducible refine (C2.out _ (HW.out.below HB.out)).mono ?_); rintro e w2 ⟨rfl, hb2⟩; have HB := Lib.hid (bthen HB.out hb2); clear hb2) | ((with_reducible refine (C3.out _ (HW.out.below HB.out)).mono ?_); rintro e w2 ⟨rfl, hb2⟩; have HB := Lib.hid (bthen HB.out hb2); clear hb2) | ((with_reducible refine (C4.out _ (HW.out.below HB.out)).mono ?_); rintro e w2 ⟨rfl, hb2⟩; have HB := Lib.hid (bthen HB.out hb2); clear hb2))
              | (go_at_call 7; refine (awake3_any _ (HW.out.below HB.out)).mono ?_; rintro e w2 ⟨rfl, hb2⟩; have HB := Lib.hid (bthen HB.out hb2); clear hb2))
            go_ret
            exact ⟨rfl, HB.out⟩
  · have hd : decide ((40 : Int) < (s.size : Int)) = true := by simp; omega
    go_enter Tryd.func5, Tryd.ntmps5
    go_wp2_with (go_at_call 7; refine (awake3_any _ HW.out).mono ?_; rintro e w2 ⟨rfl, hb2⟩; have HB := Lib.hid hb2; clear hb2)
    go_ret
    exact ⟨rfl, HB.out⟩
end Go.Proofs.YtnkgjlehegknjaaDoor
