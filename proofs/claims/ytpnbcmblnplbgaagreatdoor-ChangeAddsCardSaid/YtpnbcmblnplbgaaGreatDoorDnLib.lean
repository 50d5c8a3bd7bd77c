/- The library's functions, as the calls of package dn meet them; kinds of bytes, digits. -/
import Derived.Test.YtpnbcmblnplbgaaGreatDoorShelf
import Derived.Test.YtpnbcmblnplbgaaGreatDoorDnFold
import Derived.Test.YtpnbcmblnplbgaaGreatDoorDnType
import Derived.Test.YtpnbcmblnplbgaaGreatDoorDnUpW
import Derived.Test.YtpnbcmblnplbgaaGreatDoorDnSpec
namespace Go.Proofs.YtpnbcmblnplbgaaGreatDoor
open Go.RowKit
set_option linter.unusedVariables false

theorem trim_any (B : ByteArray) (w : World) (h : B.size ≤ 9223372036854775807) : Calls Tryz.prog 110 #[.string B, .string ⟨#[32]⟩] w fun e w' => e = .returned (.string ⟨(Lib.trimSuffix B.data.toList [32]).toArray⟩) ∧ w = w' :=
  (Tryz.strings_TrimSuffix B ⟨#[32]⟩ w h).mono fun _ _ ⟨he, hw⟩ => ⟨he, hw.symm⟩
theorem clone_any (B : ByteArray) (w : World) (h : B.size ≤ 281474976710656) : Calls Tryz.prog 63 #[.string B] w fun e w' => e = .returned (.string B) ∧ Below w.heap.size w w' := by
  have hc := fun w => Tryz.stringslite_Clone B w h
  have HC := Lib.hid hc
  clear hc
  go_enter Tryz.func63, Tryz.ntmps63
  go_wp2_with (go_at_call 94; refine (HC.out _).mono ?_; rintro e w2 ⟨rfl, hb⟩)
  go_ret
  exact ⟨rfl, hb⟩
theorem idx_any (s : ByteArray) (c : UInt8) (w : World) : Calls Tryz.prog 146 #[.string s, .int .u8 c.toNat] w fun e w' => e = .returned (.int .i64 (Lib.indexByte s.data.toList c)) ∧ w = w' :=
  (Tryz.strings_IndexByte s c.toNat w).mono fun _ _ ⟨he, hw⟩ => ⟨by rw [he]; simp, hw.symm⟩

theorem marked_idx (c : UInt8) : decide (0 ≤ Lib.indexByte [44, 43, 34, 92, 60, 62, 59] c) = ([44, 43, 34, 92, 60, 62, 59] : List UInt8).contains c := by
  have := all_bytes (fun c => decide (0 ≤ Lib.indexByte [44, 43, 34, 92, 60, 62, 59] c) == ([44, 43, 34, 92, 60, 62, 59] : List UInt8).contains c) (by decide +kernel) c
  simpa using this

set_option maxHeartbeats 1000000 in
theorem kindOf_any (c : UInt8) (w : World) : Calls Tryz.prog 127 #[.int .u8 c.toNat] w fun e w' => e = .returned (.int .u8 (kindC c)) ∧ w = w' := by
  have hcl := c.toNat_lt
  obtain ⟨K, hK⟩ : ∃ K, K = kindC c := ⟨_, rfl⟩
  rw [← hK]
  have hidx := fun w => idx_any ⟨#[44, 43, 34, 92, 60, 62, 59]⟩ c w
  have hm := marked_idx c
  obtain ⟨I, hI⟩ : ∃ I, I = Lib.indexByte [44, 43, 34, 92, 60, 62, 59] c := ⟨_, rfl⟩
  have hix : Lib.indexByte (⟨#[44, 43, 34, 92, 60, 62, 59]⟩ : ByteArray).data.toList c = I := hI.symm
  rw [← hI] at hm
  simp only [hix] at hidx
  have HI := Lib.hid hidx
  clear hidx hI hix
  unfold kindC at hK
  by_cases h0 : c.toNat < 32
  · have t0 : decide ((c.toNat : Int) < 32) = true := by simp; omega
    rw [if_pos (.inl h0)] at hK
    subst hK
    clear hm
    go_enter Tryz.func127, Tryz.ntmps127
    go_wp2
    go_ret
    exact ⟨rfl, rfl⟩
  have t0 : decide ((c.toNat : Int) < 32) = false := by simp; omega
  by_cases h1 : 126 < c.toNat
  · have t1 : decide ((126 : Int) < (c.toNat : Int)) = true := by simp; omega
    rw [if_pos (.inr h1)] at hK
    subst hK
    clear hm
    go_enter Tryz.func127, Tryz.ntmps127
    go_wp2
    go_ret
    exact ⟨rfl, rfl⟩
  have t1 : decide ((126 : Int) < (c.toNat : Int)) = false := by simp; omega
  rw [if_neg (by omega)] at hK
  by_cases h2 : c.toNat = 61
  · have t2 : ((c.toNat : Int) == 61) = true := by simp [h2]
    rw [if_pos h2] at hK
    subst hK
    clear hm h2
    go_enter Tryz.func127, Tryz.ntmps127
    go_wp2
    go_ret
    exact ⟨rfl, rfl⟩
  have t2 : ((c.toNat : Int) == 61) = false := by simp; omega
  rw [if_neg h2] at hK
  by_cases h3 : c.toNat = 35
  · have t3 : ((c.toNat : Int) == 35) = true := by simp [h3]
    rw [if_pos h3] at hK
    subst hK
    clear hm h3
    go_enter Tryz.func127, Tryz.ntmps127
    go_wp2
    go_ret
    exact ⟨rfl, rfl⟩
  have t3 : ((c.toNat : Int) == 35) = false := by simp; omega
  rw [if_neg h3] at hK
  by_cases h4 : c.toNat = 32
  · have t4 : ((c.toNat : Int) == 32) = true := by simp [h4]
    rw [if_pos h4] at hK
    subst hK
    clear hm h4
    go_enter Tryz.func127, Tryz.ntmps127
    go_wp2
    go_ret
    exact ⟨rfl, rfl⟩
  have t4 : ((c.toNat : Int) == 32) = false := by simp; omega
  rw [if_neg h4, ← hm] at hK
  clear hm
  by_cases h5 : 0 ≤ I
  · have t5 : decide (0 ≤ I) = true := by simpa using h5
    rw [if_pos t5] at hK
    subst hK
    go_enter Tryz.func127, Tryz.ntmps127
    go_wp2_with (go_at_call 146; refine (HI.out _).mono ?_; rintro e w2 ⟨rfl, rfl⟩)
    go_ret
    exact ⟨rfl, rfl⟩
  · have t5 : decide (0 ≤ I) = false := by simp; omega
    rw [if_neg (by rw [t5]; simp)] at hK
    subst hK
    go_enter Tryz.func127, Tryz.ntmps127
    go_wp2_with (go_at_call 146; refine (HI.out _).mono ?_; rintro e w2 ⟨rfl, rfl⟩)
    go_ret
    exact ⟨rfl, rfl⟩

theorem kindC_le (c : UInt8) : kindC c ≤ 5 := by unfold kindC; split <;> (try split) <;> (try split) <;> (try split) <;> (try split) <;> omega

theorem hex_idx (c : UInt8) : (hexB c = true → Lib.indexByte digs (lowC c) = (hexN c : Int) ∧ hexN c < 16) ∧ (hexB c = false → Lib.indexByte digs (lowC c) = -1) := by
  have := all_bytes (fun c => if hexB c then decide (Lib.indexByte digs (lowC c) = (hexN c : Int) ∧ hexN c < 16) else decide (Lib.indexByte digs (lowC c) = -1)) (by decide +kernel) c
  constructor
  · intro h; rw [h] at this; simpa using this
  · intro h; rw [h] at this; simpa using this

def digV (c : UInt8) : Nat := if hexB c then hexN c else 0

set_option maxHeartbeats 1000000 in
theorem digit_any (c : UInt8) (w : World) : Calls Tryz.prog 189 #[.int .u8 c.toNat] w fun e w' => e = .returned (.tuple #[.int .u8 (digV c), .bool (hexB c)]) ∧ w = w' := by
  have hcl := c.toNat_lt
  have hl := fun w => lower_any c w
  have hidx := fun w => idx_any ⟨#[48, 49, 50, 51, 52, 53, 54, 55, 56, 57, 97, 98, 99, 100, 101, 102]⟩ (lowC c) w
  have hh := hex_idx c
  have hd : digV c = if hexB c then hexN c else 0 := rfl
  obtain ⟨b, hb⟩ : ∃ b, b = hexB c := ⟨_, rfl⟩
  obtain ⟨N, hN⟩ : ∃ N, N = hexN c := ⟨_, rfl⟩
  obtain ⟨L, hL⟩ : ∃ L, L = lowC c := ⟨_, rfl⟩
  have hLl := L.toNat_lt
  rw [← hb] at hh hd ⊢
  rw [← hN] at hh hd
  rw [← hL] at hh
  simp only [← hL] at hl hidx
  rw [hd]
  obtain ⟨I, hI⟩ : ∃ I, I = Lib.indexByte digs L := ⟨_, rfl⟩
  have hix : Lib.indexByte (⟨#[48, 49, 50, 51, 52, 53, 54, 55, 56, 57, 97, 98, 99, 100, 101, 102]⟩ : ByteArray).data.toList L = I := hI.symm
  rw [← hI] at hh
  simp only [hix] at hidx
  have HL := Lib.hid hl
  have HX := Lib.hid hidx
  clear hidx hl hI hix hL hb hN hd
  cases b with
  | true =>
    obtain ⟨rfl, hlt⟩ := hh.1 rfl
    have t1 : decide ((0 : Int) ≤ (N : Int)) = true := by simp
    clear hh
    go_enter Tryz.func189, Tryz.ntmps189
    go_wp2_with (first
      | (go_at_call 109; refine (HL.out _).mono ?_; rintro e w2 ⟨rfl, rfl⟩)
      | (go_at_call 146; refine (HX.out _).mono ?_; rintro e w3 ⟨rfl, rfl⟩))
    go_ret2
    exact ⟨rfl, rfl⟩
  | false =>
    obtain rfl := hh.2 rfl
    clear hh
    go_enter Tryz.func189, Tryz.ntmps189
    go_wp2_with (first
      | (go_at_call 109; refine (HL.out _).mono ?_; rintro e w2 ⟨rfl, rfl⟩)
      | (go_at_call 146; refine (HX.out _).mono ?_; rintro e w3 ⟨rfl, rfl⟩))
    go_ret2
    exact ⟨rfl, rfl⟩
end Go.Proofs.YtpnbcmblnplbgaaGreatDoor
