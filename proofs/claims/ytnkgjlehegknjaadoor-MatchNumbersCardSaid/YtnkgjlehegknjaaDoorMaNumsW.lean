/- Numbers stand by what they are: the walk. -/
import Derived.Test.YtnkgjlehegknjaaDoorMaAwake
import Derived.Test.YtnkgjlehegknjaaDoorMaNumP
import Derived.Test.YtnkgjlehegknjaaDoorMaDig
namespace Go.Proofs.YtnkgjlehegknjaaDoor
open Go.RowKit
set_option linter.unusedVariables false

theorem rule_uidN : ruleD [117, 105, 100, 78, 117, 109, 98, 101, 114] = 2 := by decide
theorem rule_uidn : ruleD [117, 105, 100, 110, 117, 109, 98, 101, 114] = 2 := by decide
theorem bad_forms (s : List UInt8) (hs : s ≠ []) : numD (48 :: s) = none ∧ numD (43 :: s) = none ∧ numD (s ++ [32]) = none ∧ numD (32 :: s) = none ∧ numD (s ++ [46, 48]) = none :=
  ⟨numD_zero hs, numD_char (c := 43) (by simp) (by decide), numD_char (c := 32) (by simp) (by decide), numD_char (c := 32) (by simp) (by decide), numD_char (c := 46) (by simp) (by decide)⟩
theorem bad_any (X : ByteArray) (h : numD X.data.toList = none) (w : World) (hw : LaidW w) :
    Calls Tryd.prog 9 #[.string ⟨#[117, 105, 100, 110, 117, 109, 98, 101, 114]⟩, .string X] w fun e w' => e = .returned (.tuple #[.string ⟨#[]⟩, .bool false]) ∧ Below w.heap.size w w' := by
  have := norm_any ⟨#[117, 105, 100, 110, 117, 109, 98, 101, 114]⟩ X w hw
  rw [show ruleD (⟨#[117, 105, 100, 110, 117, 109, 98, 101, 114]⟩ : ByteArray).data.toList = 2 from rule_uidn, normD_num h] at this
  exact this

set_option maxRecDepth 100000 in
set_option maxHeartbeats 8000000 in
theorem numbers_walk (a b : Int) (h : Nat) (ha : -9223372036854775808 ≤ a ∧ a ≤ 9223372036854775807) (hb : -9223372036854775808 ≤ b ∧ b ≤ 9223372036854775807) (hh : h ≤ 255) (w : World) (hw : LaidW w) :
    Calls Tryd.prog 4 #[.int .i64 a, .int .i64 b, .int .u8 h] w fun e w' => e = .returned (.bool true) ∧ Below w.heap.size w w' := by
  have HW := Lib.hid hw
  clear hw
  obtain ⟨m, hm⟩ : ∃ m, a.tmod 1000000000000000 = m := ⟨_, rfl⟩
  obtain ⟨n, hn⟩ : ∃ n, b.tmod 1000000000000000 = n := ⟨_, rfl⟩
  have bm : m.natAbs < 1000000000000000 := by rw [← hm, Int.natAbs_tmod]; exact Nat.mod_lt _ (by decide)
  have bn : n.natAbs < 1000000000000000 := by rw [← hn, Int.natAbs_tmod]; exact Nat.mod_lt _ (by decide)
  obtain ⟨S, hS⟩ : ∃ S : ByteArray, S = ofL (Lib.itoa m) := ⟨_, rfl⟩
  obtain ⟨T, hT⟩ : ∃ T : ByteArray, T = ofL (Lib.itoa n) := ⟨_, rfl⟩
  have hSl : S.data.toList = Lib.itoa m := by rw [hS, ofL_list]
  have hTl : T.data.toList = Lib.itoa n := by rw [hT, ofL_list]
  have hSs : S.size ≤ 16 := by rw [← bytes_len, hSl]; exact itoa_len m bm
  have hTs : T.size ≤ 16 := by rw [← bytes_len, hTl]; exact itoa_len n bn
  have d1 := fun w => digits_any m (by omega) (by omega) w
  have d2 := fun w => digits_any n (by omega) (by omega) w
  rw [← hS] at d1
  rw [← hT] at d2
  have c1 := fun w hw => less_int ⟨#[117, 105, 100, 78, 117, 109, 98, 101, 114]⟩ S T m n w (by omega) (by omega) hw rule_uidN (by rw [hSl]; exact normD_itoa m bm) (by rw [hTl]; exact normD_itoa n bn) (by rw [hSl]; exact numD_itoa m bm) (by rw [hTl]; exact numD_itoa n bn)
  have c2 := fun w hw => same_any ⟨#[117, 105, 100, 110, 117, 109, 98, 101, 114]⟩ S T w hw
  have r2 : sameO (normD (ruleD (⟨#[117, 105, 100, 110, 117, 109, 98, 101, 114]⟩ : ByteArray).data.toList) S.data.toList) (normD (ruleD (⟨#[117, 105, 100, 110, 117, 109, 98, 101, 114]⟩ : ByteArray).data.toList) T.data.toList) = (m == n) := by
    rw [show ruleD (⟨#[117, 105, 100, 110, 117, 109, 98, 101, 114]⟩ : ByteArray).data.toList = 2 from rule_uidn, hSl, hTl, normD_itoa m bm, normD_itoa n bn]
    simp only [sameO]
    by_cases e : m = n
    · subst e; simp
    · have : Lib.itoa m ≠ Lib.itoa n := fun h => e (itoa_inj bm h)
      rw [beq_eq_false_iff_ne.2 e, beq_eq_false_iff_ne.2 this]
  simp only [r2] at c2
  have hne : S.data.toList ≠ [] := by rw [hSl]; exact itoa_ne m
  obtain ⟨f0, f1, f2, f3, f4⟩ := bad_forms S.data.toList hne
  obtain ⟨f5, f6, f7, f8⟩ := numD_minus
  have D1 := Lib.hid d1
  have D2 := Lib.hid d2
  have C1 := Lib.hid c1
  have C2 := Lib.hid c2
  have tok : True := trivial
  have hmb : -1000000000000000 < m ∧ m < 1000000000000000 := by omega
  have hnb : -1000000000000000 < n ∧ n < 1000000000000000 := by omega
  obtain ⟨b1, b2⟩ := hmb
  obtain ⟨b3, b4⟩ := hnb
  obtain ⟨ha1, ha2⟩ := ha
  obtain ⟨hb1, hb2⟩ := hb
  have G0 := Lib.hid (show numD (⟨#[48]⟩ ++ S : ByteArray).data.toList = none by rw [app_list]; exact f0)
  have G1 := Lib.hid (show numD (⟨#[43]⟩ ++ S : ByteArray).data.toList = none by rw [app_list]; exact f1)
  have G2 := Lib.hid (show numD (S ++ ⟨#[32]⟩ : ByteArray).data.toList = none by rw [app_list]; exact f2)
  have G3 := Lib.hid (show numD (⟨#[32]⟩ ++ S : ByteArray).data.toList = none by rw [app_list]; exact f3)
  have G4 := Lib.hid (show numD (S ++ ⟨#[46, 48]⟩ : ByteArray).data.toList = none by rw [app_list]; exact f4)
  have G5 := Lib.hid (show numD (⟨#[45, 48]⟩ : ByteArray).data.toList = none from f5)
  have G6 := Lib.hid (show numD (⟨#[45]⟩ : ByteArray).data.toList = none from f6)
  have G7 := Lib.hid (show numD (⟨#[]⟩ : ByteArray).data.toList = none from f7)
  have G8 := Lib.hid (show numD (⟨#[49, 50, 51, 52, 53, 54, 55, 56, 57, 48, 49, 50, 51, 52, 53, 54]⟩ : ByteArray).data.toList = none from f8)
  have e1 : (decide (m < n) == decide (m < n)) = true := by simp
  have e2 : ((m == n) == (m == n)) = true := by simp
  clear f0 f1 f2 f3 f4 f5 f6 f7 f8
  clear d1 d2 c1 c2 r2 hSl hTl hS hT hne bm bn
  rcases (show (h % 9 = 0 ∧ (h : Int) % 9 = 0) ∨ (h % 9 = 1 ∧ (h : Int) % 9 = 1) ∨ (h % 9 = 2 ∧ (h : Int) % 9 = 2) ∨ (h % 9 = 3 ∧ (h : Int) % 9 = 3) ∨ (h % 9 = 4 ∧ (h : Int) % 9 = 4) ∨ (h % 9 = 5 ∧ (h : Int) % 9 = 5) ∨ (h % 9 = 6 ∧ (h : Int) % 9 = 6) ∨ (h % 9 = 7 ∧ (h : Int) % 9 = 7) ∨ (h % 9 = 8 ∧ (h : Int) % 9 = 8) from by omega) with ⟨hk, hki⟩ | ⟨hk, hki⟩ | ⟨hk, hki⟩ | ⟨hk, hki⟩ | ⟨hk, hki⟩ | ⟨hk, hki⟩ | ⟨hk, hki⟩ | ⟨hk, hki⟩ | ⟨hk, hki⟩
  all_goals
    go_enter Tryd.func4, Tryd.ntmps4
    go_wp2_with (first
      | (go_at_call 11; first | (have _t := tok; (with_reducible refine (D1.out _).mono ?_); rintro e w1 ⟨rfl, hb1⟩; have HB := Lib.hid hb1; clear hb1 tok) | ((with_reducible refine (D2.out _).mono ?_); rintro e w1 ⟨rfl, hb1⟩; have HB := Lib.hid (bthen HB.out hb1); clear hb1))
      | (go_at_call 12; (with_reducible refine (C1.out _ (HW.out.below HB.out)).mono ?_); rintro e w1 ⟨rfl, hb1⟩; have HB := Lib.hid (bthen HB.out hb1); clear hb1)
      | (go_at_call 9; first | ((with_reducible refine (bad_any _ G0.out _ (HW.out.below (HB.out.alloc HB.out.size _))).mono ?_); rintro e w2 ⟨rfl, hb2⟩; have HB := Lib.hid (bthen (HB.out.alloc HB.out.size _) hb2); clear hb2) | ((with_reducible refine (bad_any _ G1.out _ (HW.out.below (HB.out.alloc HB.out.size _))).mono ?_); rintro e w2 ⟨rfl, hb2⟩; have HB := Lib.hid (bthen (HB.out.alloc HB.out.size _) hb2); clear hb2) | ((with_reducible refine (bad_any _ G2.out _ (HW.out.below (HB.out.alloc HB.out.size _))).mono ?_); rintro e w2 ⟨rfl, hb2⟩; have HB := Lib.hid (bthen (HB.out.alloc HB.out.size _) hb2); clear hb2) | ((with_reducible refine (bad_any _ G3.out _ (HW.out.below (HB.out.alloc HB.out.size _))).mono ?_); rintro e w2 ⟨rfl, hb2⟩; have HB := Lib.hid (bthen (HB.out.alloc HB.out.size _) hb2); clear hb2) | ((with_reducible refine (bad_any _ G4.out _ (HW.out.below (HB.out.alloc HB.out.size _))).mono ?_); rintro e w2 ⟨rfl, hb2⟩; have HB := Lib.hid (bthen (HB.out.alloc HB.out.size _) hb2); clear hb2) | ((with_reducible refine (bad_any _ G5.out _ (HW.out.below (HB.out.alloc HB.out.size _))).mono ?_); rintro e w2 ⟨rfl, hb2⟩; have HB := Lib.hid (bthen (HB.out.alloc HB.out.size _) hb2); clear hb2) | ((with_reducible refine (bad_any _ G6.out _ (HW.out.below (HB.out.alloc HB.out.size _))).mono ?_); rintro e w2 ⟨rfl, hb2⟩; have HB := Lib.hid (bthen (HB.out.alloc HB.out.size _) hb2); clear hb2) | ((with_reducible refine (bad_any _ G7.out _ (HW.out.below (HB.out.alloc HB.out.size _))).mono ?_); rintro e w2 ⟨rfl, hb2⟩; have HB := Lib.hid (bthen (HB.out.alloc HB.out.size _) hb2); clear hb2) | ((with_reducible refine (bad_any _ G8.out _ (HW.out.below (HB.out.alloc HB.out.size _))).mono ?_); rintro e w2 ⟨rfl, hb2⟩; have HB := Lib.hid (bthen (HB.out.alloc HB.out.size _) hb2); clear hb2))
      | (go_at_call 10; (with_reducible refine (C2.out _ (HW.out.below HB.out)).mono ?_); rintro e w2 ⟨rfl, hb2⟩; have HB := Lib.hid (bthen HB.out hb2); clear hb2)
      | (go_at_call 7; refine (awake3_any _ (HW.out.below HB.out)).mono ?_; rintro e w2 ⟨rfl, hb2⟩; have HB := Lib.hid (bthen HB.out hb2); clear hb2))
    go_ret
    exact ⟨rfl, HB.out⟩
end Go.Proofs.YtnkgjlehegknjaaDoor
