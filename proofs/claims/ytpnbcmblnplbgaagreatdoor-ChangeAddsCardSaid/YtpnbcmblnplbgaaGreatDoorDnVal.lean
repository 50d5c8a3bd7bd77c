/- A value's text is read: the walks. -/
import Derived.Test.YtpnbcmblnplbgaaGreatDoorDnLib
namespace Go.Proofs.YtpnbcmblnplbgaaGreatDoor
open Go.RowKit
set_option linter.unusedVariables false

theorem needB_any_form (c : UInt8) (K : Nat) (first last : Bool) (h : K = kindC c) : needC c first last = (K == 5 || (K == 3 && first) || (K == 4 && (first || last))) := by rw [h]; rfl

set_option maxHeartbeats 1000000 in
theorem needsMark_any (s : ByteArray) (j : Nat) (h : j < s.size) (h63 : s.size ≤ 281474976710656) (w : World) :
    Calls Tryz.prog 128 #[.string s, .int .i64 j] w fun e w' => e = .returned (.bool (needC s[j] (decide (j = 0)) (decide (j + 1 = s.size)))) ∧ w = w' := by
  obtain ⟨c, hc⟩ : ∃ c : UInt8, c = s[j] := ⟨_, rfl⟩
  have hc' : s[j]'h = c := hc.symm
  rw [← hc]
  have hk := fun w => kindOf_any c w
  have hle := kindC_le c
  obtain ⟨K, hK⟩ : ∃ K, K = kindC c := ⟨_, rfl⟩
  rw [needB_any_form c K _ _ hK]
  rw [← hK] at hle
  simp only [← hK] at hk
  have HK := Lib.hid hk
  have hcl := c.toNat_lt
  clear hk hK hc
  obtain ⟨F, hF⟩ : ∃ F, F = decide ((j : Int) = 0) := ⟨_, rfl⟩
  have hF1 : ((j : Int) == 0) = F := by rw [hF]; rfl
  have hF2 : decide (j = 0) = F := by rw [hF]; simp
  obtain ⟨G, hG⟩ : ∃ G, G = decide ((j : Int) = (s.size : Int) - 1) := ⟨_, rfl⟩
  have hG1 : ((j : Int) == (s.size : Int) - 1) = G := by rw [hG]; rfl
  have hG2 : decide (j + 1 = s.size) = G := by rw [hG]; simp; omega
  rw [hF2, hG2]
  clear hF hG hF2 hG2
  rcases (show K = 0 ∨ K = 1 ∨ K = 2 ∨ K = 3 ∨ K = 4 ∨ K = 5 from by omega) with rfl | rfl | rfl | rfl | rfl | rfl
  · go_enter Tryz.func128, Tryz.ntmps128
    go_wp2_with (go_at_call 127; refine (HK.out _).mono ?_; rintro e w2 ⟨rfl, rfl⟩)
    go_ret
    exact ⟨rfl, rfl⟩
  · go_enter Tryz.func128, Tryz.ntmps128
    go_wp2_with (go_at_call 127; refine (HK.out _).mono ?_; rintro e w2 ⟨rfl, rfl⟩)
    go_ret
    exact ⟨rfl, rfl⟩
  · go_enter Tryz.func128, Tryz.ntmps128
    go_wp2_with (go_at_call 127; refine (HK.out _).mono ?_; rintro e w2 ⟨rfl, rfl⟩)
    go_ret
    exact ⟨rfl, rfl⟩
  · cases F <;> (
      go_enter Tryz.func128, Tryz.ntmps128
      go_wp2_with (go_at_call 127; refine (HK.out _).mono ?_; rintro e w2 ⟨rfl, rfl⟩)
      go_ret
      exact ⟨rfl, rfl⟩)
  · cases F <;> cases G <;> (
      go_enter Tryz.func128, Tryz.ntmps128
      go_wp2_with (go_at_call 127; refine (HK.out _).mono ?_; rintro e w2 ⟨rfl, rfl⟩)
      go_ret
      exact ⟨rfl, rfl⟩)
  · go_enter Tryz.func128, Tryz.ntmps128
    go_wp2_with (go_at_call 127; refine (HK.out _).mono ?_; rintro e w2 ⟨rfl, rfl⟩)
    go_ret
    exact ⟨rfl, rfl⟩

theorem or16_all : ((List.range 16).all fun m => (List.range 16).all fun n => decide (bits .or .u8 ((m : Int) * 16) (n : Int) = ((m : Int) * 16 + (n : Int)) % 256)) = true := by decide +kernel
theorem or16 (m n : Nat) (hm : m < 16) (hn : n < 16) : bits .or .u8 ((m : Int) * 16) (n : Int) = ((m : Int) * 16 + (n : Int)) % 256 := by
  have h := List.all_eq_true.1 (List.all_eq_true.1 or16_all m (List.mem_range.2 hm)) n (List.mem_range.2 hn)
  simpa using h

def behV (l : List UInt8) : Value := .tuple #[.int .u8 (behD l).1.toNat, .int .i64 (behD l).2]

set_option maxHeartbeats 2000000 in
theorem behindMark_any (s : ByteArray) (h63 : s.size ≤ 281474976710656) (w : World) :
    Calls Tryz.prog 168 #[.string s] w fun e w' => e = .returned (behV s.data.toList) ∧ w = w' := by
  by_cases hne : s.data.toList = []
  · obtain ⟨e1, e2⟩ := bytes_nil hne
    rw [hne]
    go_enter Tryz.func168, Tryz.ntmps168
    go_wp2
    go_ret2
    exact ⟨rfl, rfl⟩
  obtain ⟨e1, e2⟩ := bytes_some hne
  have hpos : 0 < s.size := by rw [← bytes_len]; exact List.length_pos_iff.2 hne
  obtain ⟨c, hc⟩ : ∃ c : UInt8, c = s[0] := ⟨_, rfl⟩
  have hc' : s[0]'hpos = c := hc.symm
  have hcl := c.toNat_lt
  have hlist : s.data.toList = c :: s.data.toList.drop 1 := by
    have := drop_at s 0 hpos
    rw [List.drop_zero] at this
    rw [hc]; exact this
  have hk := fun w => kindOf_any c w
  have hd := fun w => digit_any c w
  obtain ⟨K, hK⟩ : ∃ K, K = kindC c := ⟨_, rfl⟩
  simp only [← hK] at hk
  have HK := Lib.hid hk
  have HD := Lib.hid hd
  clear hk hd hne hc
  by_cases h2 : 2 ≤ K
  · have t1 : decide ((2 : Int) ≤ (K : Int)) = true := by simp; omega
    have hb : behD s.data.toList = (c, 2) := by rw [hlist]; exact behD_free (by omega)
    unfold behV
    rw [hb]
    have HB := Lib.hid hb
    clear hb hlist hK
    go_enter Tryz.func168, Tryz.ntmps168
    go_wp2_with (go_at_call 127; refine (HK.out _).mono ?_; rintro e w2 ⟨rfl, rfl⟩)
    go_ret2
    exact ⟨rfl, rfl⟩
  have t1 : decide ((2 : Int) ≤ (K : Int)) = false := by simp; omega
  by_cases hl : s.size < 2
  · have t2 : decide ((s.size : Int) < 2) = true := by simp; omega
    have hr : s.data.toList.drop 1 = [] := List.drop_of_length_le (by simp; omega)
    have hb : behD s.data.toList = (0, 0) := by rw [hlist, hr]; exact behD_nil (by omega)
    unfold behV
    rw [hb]
    have HB := Lib.hid hb
    clear hb hlist hK hr
    go_enter Tryz.func168, Tryz.ntmps168
    go_wp2_with (go_at_call 127; refine (HK.out _).mono ?_; rintro e w2 ⟨rfl, rfl⟩)
    go_ret2
    exact ⟨rfl, rfl⟩
  have t2 : decide ((s.size : Int) < 2) = false := by simp; omega
  have h1 : 1 < s.size := by omega
  obtain ⟨d, hd⟩ : ∃ d : UInt8, d = s[1] := ⟨_, rfl⟩
  have hd' : s[1]'h1 = d := hd.symm
  have hdl := d.toNat_lt
  have hr : s.data.toList.drop 1 = d :: s.data.toList.drop 2 := by
    have := drop_at s 1 h1
    rw [hd]; exact this
  have hd2 := fun w => digit_any d w
  have hb : behD s.data.toList = if hexB c = true ∧ hexB d = true then (UInt8.ofNat (hexN c * 16 + hexN d), 3) else (0, 0) := by rw [hlist, hr]; exact behD_hex (by omega)
  have hx1 := (hex_idx c).1
  have hx2 := (hex_idx d).1
  unfold behV
  rw [hb]
  clear hb hr hlist hd hK
  have hd1 := HD.out
  unfold digV at hd1 hd2
  obtain ⟨b1, hb1⟩ : ∃ b, b = hexB c := ⟨_, rfl⟩
  obtain ⟨b2, hb2⟩ : ∃ b, b = hexB d := ⟨_, rfl⟩
  obtain ⟨m, hm⟩ : ∃ m, m = hexN c := ⟨_, rfl⟩
  obtain ⟨n, hn⟩ : ∃ n, n = hexN d := ⟨_, rfl⟩
  simp only [← hb1, ← hm] at hd1
  simp only [← hb2, ← hn] at hd2
  rw [← hb1, ← hm] at hx1
  rw [← hb2, ← hn] at hx2
  rw [← hb1, ← hb2, ← hm, ← hn]
  clear hb1 hb2 hm hn HD
  have tok1 : True := trivial
  cases b1 with
  | false =>
    have HD1 := Lib.hid hd1
    have HD2 := Lib.hid hd2
    clear hd1 hd2 hx1 hx2
    cases b2 <;> (
      go_enter Tryz.func168, Tryz.ntmps168
      go_wp2_with (first
        | (go_at_call 127; refine (HK.out _).mono ?_; rintro e w2 ⟨rfl, rfl⟩)
        | (go_at_call 189; have _t := tok1; refine (HD1.out _).mono ?_; clear _t tok1; rintro e w3 ⟨rfl, rfl⟩)
        | (go_at_call 189; refine (HD2.out _).mono ?_; rintro e w4 ⟨rfl, rfl⟩))
      go_ret2
      exact ⟨rfl, rfl⟩)
  | true =>
    obtain ⟨_, hm⟩ := hx1 rfl
    cases b2 with
    | false =>
      have HD1 := Lib.hid hd1
      have HD2 := Lib.hid hd2
      clear hd1 hd2 hx1 hx2
      go_enter Tryz.func168, Tryz.ntmps168
      go_wp2_with (first
        | (go_at_call 127; refine (HK.out _).mono ?_; rintro e w2 ⟨rfl, rfl⟩)
        | (go_at_call 189; have _t := tok1; refine (HD1.out _).mono ?_; clear _t tok1; rintro e w3 ⟨rfl, rfl⟩)
        | (go_at_call 189; refine (HD2.out _).mono ?_; rintro e w4 ⟨rfl, rfl⟩))
      go_ret2
      exact ⟨rfl, rfl⟩
    | true =>
      obtain ⟨_, hn⟩ := hx2 rfl
      have HD1 := Lib.hid hd1
      have HD2 := Lib.hid hd2
      clear hd1 hd2 hx1 hx2
      go_enter Tryz.func168, Tryz.ntmps168
      go_wp2_with (first
        | (go_at_call 127; refine (HK.out _).mono ?_; rintro e w2 ⟨rfl, rfl⟩)
        | (go_at_call 189; have _t := tok1; refine (HD1.out _).mono ?_; clear _t tok1; rintro e w3 ⟨rfl, rfl⟩)
        | (go_at_call 189; refine (HD2.out _).mono ?_; rintro e w4 ⟨rfl, rfl⟩))
      go_ret2
      refine ⟨?_, rfl⟩
      show Ending.returned (.tuple #[.int .u8 (bits .or .u8 ((m : Int) * 16) (n : Int)), .int .i64 3]) = _
      rw [or16 m n hm hn]

def oneV (l : List UInt8) (f : Bool) : Value := .tuple #[.int .u8 (oneD f l).1.toNat, .int .i64 (oneD f l).2]
theorem oneD_mark {f : Bool} {c : UInt8} {r : List UInt8} (h : c.toNat = 92) : oneD f (c :: r) = behD r := by
  show (if c.toNat = 92 then behD r else _) = _
  rw [if_pos h]
theorem oneD_no {f : Bool} {c : UInt8} {r : List UInt8} (h : c.toNat ≠ 92) (h2 : kindC c = 0 ∨ needC c f r.isEmpty = true) : oneD f (c :: r) = (0, 0) := by
  show (if c.toNat = 92 then behD r else _) = _
  rw [if_neg h, if_pos h2]
theorem oneD_plain {f : Bool} {c : UInt8} {r : List UInt8} (h : c.toNat ≠ 92) (h2 : ¬ (kindC c = 0 ∨ needC c f r.isEmpty = true)) : oneD f (c :: r) = (c, 1) := by
  show (if c.toNat = 92 then behD r else _) = _
  rw [if_neg h, if_neg h2]
theorem drop_empty (s : ByteArray) (j : Nat) : (s.data.toList.drop (j + 1)).isEmpty = decide (s.size ≤ j + 1) := by
  rw [Bool.eq_iff_iff]; simp

set_option maxHeartbeats 2000000 in
theorem one_any (s : ByteArray) (j : Nat) (h : j < s.size) (h63 : s.size ≤ 281474976710656) (w : World) :
    Calls Tryz.prog 144 #[.string s, .int .i64 j] w fun e w' => e = .returned (oneV (s.data.toList.drop j) (decide (j = 0))) ∧ w = w' := by
  obtain ⟨c, hc⟩ : ∃ c : UInt8, c = s[j] := ⟨_, rfl⟩
  have hc' : s[j]'h = c := hc.symm
  have hcl := c.toNat_lt
  have hlist := drop_at s j h
  rw [← hc] at hlist
  by_cases h92 : c.toNat = 92
  · have t1 : ((c.toNat : Int) == 92) = true := by simp [h92]
    have hb : oneD (decide (j = 0)) (s.data.toList.drop j) = behD (s.extract (j + 1) s.size).data.toList := by rw [hlist, oneD_mark h92, rest_list]
    have hbm := fun w => behindMark_any (s.extract (j + 1) s.size) (by rw [ByteArray.size_extract]; omega) w
    unfold oneV
    rw [hb]
    unfold behV at hbm
    obtain ⟨r, hr⟩ : ∃ r, r = behD (s.extract (j + 1) s.size).data.toList := ⟨_, rfl⟩
    simp only [← hr] at hbm ⊢
    have HB := Lib.hid hbm
    have g1 : (j : Int) + 1 ≤ (s.size : Int) := by omega
    clear hb hbm hr hlist h92 hc
    go_enter Tryz.func144, Tryz.ntmps144
    go_wp2_with (go_at_call 168; refine (HB.out _).mono ?_; rintro e w2 ⟨rfl, rfl⟩)
    go_ret2
    exact ⟨rfl, rfl⟩
  have t1 : ((c.toNat : Int) == 92) = false := by simp; omega
  have hk := fun w => kindOf_any c w
  have hn := fun w => needsMark_any s j h h63 w
  rw [← hc] at hn
  have he : decide (j + 1 = s.size) = (s.data.toList.drop (j + 1)).isEmpty := by rw [drop_empty]; simp; omega
  rw [he] at hn
  obtain ⟨b, hb⟩ : ∃ b, b = needC c (decide (j = 0)) (s.data.toList.drop (j + 1)).isEmpty := ⟨_, rfl⟩
  simp only [← hb] at hn
  obtain ⟨K, hK⟩ : ∃ K, K = kindC c := ⟨_, rfl⟩
  simp only [← hK] at hk
  have HK := Lib.hid hk
  have HN := Lib.hid hn
  have hno := oneD_no (f := decide (j = 0)) (r := s.data.toList.drop (j + 1)) h92
  have hpl := oneD_plain (f := decide (j = 0)) (r := s.data.toList.drop (j + 1)) h92
  rw [← hK, ← hb] at hno hpl
  unfold oneV
  rw [hlist]
  obtain ⟨r, hr⟩ : ∃ r, r = oneD (decide (j = 0)) (c :: s.data.toList.drop (j + 1)) := ⟨_, rfl⟩
  rw [← hr] at hno hpl ⊢
  clear hk hn hlist hc hK hb he hr
  by_cases h0 : K = 0
  · subst h0
    obtain rfl := hno (.inl rfl)
    clear hno hpl
    go_enter Tryz.func144, Tryz.ntmps144
    go_wp2_with (first
      | (go_at_call 127; refine (HK.out _).mono ?_; rintro e w2 ⟨rfl, rfl⟩)
      | (go_at_call 128; refine (HN.out _).mono ?_; rintro e w2 ⟨rfl, rfl⟩))
    go_ret2
    exact ⟨rfl, rfl⟩
  have t2 : ((K : Int) == 0) = false := by simp; omega
  cases b with
  | true =>
    obtain rfl := hno (.inr rfl)
    clear hno hpl
    go_enter Tryz.func144, Tryz.ntmps144
    go_wp2_with (first
      | (go_at_call 127; refine (HK.out _).mono ?_; rintro e w2 ⟨rfl, rfl⟩)
      | (go_at_call 128; refine (HN.out _).mono ?_; rintro e w2 ⟨rfl, rfl⟩))
    go_ret2
    exact ⟨rfl, rfl⟩
  | false =>
    obtain rfl := hpl (by rintro (h | h); exact h0 h; cases h)
    clear hno hpl
    go_enter Tryz.func144, Tryz.ntmps144
    go_wp2_with (first
      | (go_at_call 127; refine (HK.out _).mono ?_; rintro e w2 ⟨rfl, rfl⟩)
      | (go_at_call 128; refine (HN.out _).mono ?_; rintro e w2 ⟨rfl, rfl⟩))
    go_ret2
    exact ⟨rfl, rfl⟩
end Go.Proofs.YtpnbcmblnplbgaaGreatDoor
