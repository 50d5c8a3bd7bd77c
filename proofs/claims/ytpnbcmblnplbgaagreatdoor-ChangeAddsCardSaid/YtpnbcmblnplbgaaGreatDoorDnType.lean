/- Types of entries' parts: letters, digits; the program's and the document's. -/
import Derived.Test.YtpnbcmblnplbgaaGreatDoorDnOwn
namespace Go.Proofs.YtpnbcmblnplbgaaGreatDoor
open Go.RowKit
set_option linter.unusedVariables false

set_option maxHeartbeats 400000 in
theorem isLetter_any (c : UInt8) (w : World) : Calls Tryz.prog 142 #[.int .u8 c.toNat] w fun e w' => e = .returned (.bool (letC c)) ∧ w = w' := by
  have hl := fun w => lower_any c w
  obtain ⟨m, hm⟩ : ∃ m, m = lowC c := ⟨_, rfl⟩
  have hml := m.toNat_lt
  unfold letC
  rw [← hm] at hl ⊢
  have HL := Lib.hid hl
  clear hl hm
  by_cases h1 : 97 ≤ m.toNat
  · have t1 : decide ((97 : Int) ≤ (m.toNat : Int)) = true := by simp; omega
    by_cases h2 : m.toNat ≤ 122
    · have t2 : decide ((m.toNat : Int) ≤ 122) = true := by simp; omega
      go_enter Tryz.func142, Tryz.ntmps142
      go_wp2_with (go_at_call 109; refine (HL.out _).mono ?_; rintro e w2 ⟨rfl, rfl⟩)
      go_ret
      exact ⟨by simp [h1, h2], rfl⟩
    · have t2 : decide ((m.toNat : Int) ≤ 122) = false := by simp; omega
      go_enter Tryz.func142, Tryz.ntmps142
      go_wp2_with (go_at_call 109; refine (HL.out _).mono ?_; rintro e w2 ⟨rfl, rfl⟩)
      go_ret
      exact ⟨by simp [h1, h2], rfl⟩
  · have t1 : decide ((97 : Int) ≤ (m.toNat : Int)) = false := by simp; omega
    go_enter Tryz.func142, Tryz.ntmps142
    go_wp2_with (go_at_call 109; refine (HL.out _).mono ?_; rintro e w2 ⟨rfl, rfl⟩)
    go_ret
    exact ⟨by simp [h1], rfl⟩

set_option maxHeartbeats 400000 in
theorem isDigit_any (c : UInt8) (w : World) : Calls Tryz.prog 143 #[.int .u8 c.toNat] w fun e w' => e = .returned (.bool (digC c)) ∧ w = w' := by
  have hml := c.toNat_lt
  unfold digC
  by_cases h1 : 48 ≤ c.toNat
  · have t1 : decide ((48 : Int) ≤ (c.toNat : Int)) = true := by simp; omega
    by_cases h2 : c.toNat ≤ 57
    · have t2 : decide ((c.toNat : Int) ≤ 57) = true := by simp; omega
      go_enter Tryz.func143, Tryz.ntmps143
      go_wp2
      go_ret
      exact ⟨by simp [h1, h2], rfl⟩
    · have t2 : decide ((c.toNat : Int) ≤ 57) = false := by simp; omega
      go_enter Tryz.func143, Tryz.ntmps143
      go_wp2
      go_ret
      exact ⟨by simp [h1, h2], rfl⟩
  · have t1 : decide ((48 : Int) ≤ (c.toNat : Int)) = false := by simp; omega
    go_enter Tryz.func143, Tryz.ntmps143
    go_wp2
    go_ret
    exact ⟨by simp [h1], rfl⟩

theorem letC_two (c : UInt8) : letC c = ((decide (97 ≤ c.toNat) && decide (c.toNat ≤ 122)) || (decide (65 ≤ c.toNat) && decide (c.toNat ≤ 90))) := by
  have h := lowC_toNat c
  have hc := c.toNat_lt
  unfold letC
  rw [h]
  split
  · rw [Bool.eq_iff_iff]; simp; omega
  · rw [Bool.eq_iff_iff]; simp; omega

set_option maxHeartbeats 1000000 in
theorem letterRef_any (c : UInt8) (w : World) : Calls Tryz.prog 79 #[.int .u8 c.toNat] w fun e w' => e = .returned (.bool (letC c)) ∧ w = w' := by
  have hml := c.toNat_lt
  rw [letC_two]
  obtain ⟨t1, h1⟩ : ∃ b, decide ((97 : Int) ≤ (c.toNat : Int)) = b := ⟨_, rfl⟩
  obtain ⟨t2, h2⟩ : ∃ b, decide ((c.toNat : Int) ≤ 122) = b := ⟨_, rfl⟩
  obtain ⟨t3, h3⟩ : ∃ b, decide ((65 : Int) ≤ (c.toNat : Int)) = b := ⟨_, rfl⟩
  obtain ⟨t4, h4⟩ : ∃ b, decide ((c.toNat : Int) ≤ 90) = b := ⟨_, rfl⟩
  have g1 : decide (97 ≤ c.toNat) = t1 := by rw [← h1]; simp; omega
  have g2 : decide (c.toNat ≤ 122) = t2 := by rw [← h2]; simp; omega
  have g3 : decide (65 ≤ c.toNat) = t3 := by rw [← h3]; simp; omega
  have g4 : decide (c.toNat ≤ 90) = t4 := by rw [← h4]; simp; omega
  rw [g1, g2, g3, g4]
  clear g1 g2 g3 g4
  cases t1 <;> cases t2 <;> cases t3 <;> cases t4 <;> (go_enter Tryz.func79, Tryz.ntmps79; go_wp2; go_ret; exact ⟨rfl, rfl⟩)


set_option maxRecDepth 100000 in
set_option maxHeartbeats 2000000 in
theorem mayType_any (s : ByteArray) (w : World) : Calls Tryz.prog 123 #[.string s] w fun e w' => e = .returned (.bool (okType s.data.toList)) ∧ w = w' := by
  by_cases hne : s.data.toList = []
  · obtain ⟨e1, e2⟩ := bytes_nil hne
    have hr : okType s.data.toList = false := by unfold okType; rw [hne]; rfl
    rw [hr]
    go_enter Tryz.func123, Tryz.ntmps123
    go_wp2
    go_ret
    exact ⟨rfl, rfl⟩
  · obtain ⟨e1, e2⟩ := bytes_some hne
    have hpos : 0 < s.size := by rw [← bytes_len]; exact List.length_pos_iff.2 hne
    by_cases h30 : s.size ≤ 30
    · have t0 : decide ((30 : Int) < (s.size : Int)) = false := by simp; omega
      have hjl0 : 0 < s.data.toList.length := by rw [bytes_len]; exact hpos
      obtain ⟨c0, hc0⟩ : ∃ c : UInt8, c = s[0] := ⟨_, rfl⟩
      have hc0' : s[0]'hpos = c0 := hc0.symm
      have hhead : s.data.toList.headD 0 = c0 := by
        have h1 : s.data.toList.head? = some s.data.toList[0] := by rw [List.head?_eq_getElem?]; exact List.getElem?_eq_getElem hjl0
        rw [List.headD_eq_head?_getD, h1]
        exact hc0.symm
      have hok : okType s.data.toList = (letC c0 && s.data.toList.all typC) := by
        unfold okType
        rw [hhead, bytes_len, decide_eq_true h30]
        have : s.data.toList.isEmpty = false := by cases h : s.data.toList with | nil => exact absurd h hne | cons x r => rfl
        rw [this]; rfl
      have hh := fun w => isLetter_any c0 w
      obtain ⟨b0, hb0⟩ : ∃ b, b = letC c0 := ⟨_, rfl⟩
      rw [← hb0] at hh hok
      have H0 := Lib.hid hh
      have hcl0 := c0.toNat_lt
      clear hh hb0 hhead hc0
      cases b0 with
      | false =>
        rw [hok]
        go_enter Tryz.func123, Tryz.ntmps123
        go_wp2_with (go_at_call 142; refine (H0.out _).mono ?_; rintro e w2 ⟨rfl, rfl⟩)
        go_ret
        exact ⟨rfl, rfl⟩
      | true =>
        rw [Bool.true_and] at hok
        go_enter Tryz.func123, Tryz.ntmps123
        go_wp2_with (go_at_call 142; refine (H0.out _).mono ?_; rintro e w2 ⟨rfl, rfl⟩)
        go_loop [20] (fun i => ∃ j : Nat, j ≤ s.size ∧ i = .int .i64 j ∧ (s.data.toList.take j).all typC = true) (fun i => s.size - (intOf i).toNat)
        case atStart => exact ⟨0, by omega, rfl, by simp⟩
        case round =>
          obtain ⟨j, hj, rfl, hall⟩ := hrel
          by_cases hlt : j < s.size
          · have t1 : decide ((j : Int) < (s.size : Int)) = true := by simp; omega
            have hjl : j < s.data.toList.length := by rw [bytes_len]; exact hlt
            have htk : s.data.toList.take (j + 1) = s.data.toList.take j ++ [s[j]] := by rw [List.take_succ_eq_append_getElem hjl]; rfl
            obtain ⟨c, hc⟩ : ∃ c : UInt8, c = s[j] := ⟨_, rfl⟩
            have hc' : s[j]'hlt = c := hc.symm
            rw [← hc] at htk
            have hcl := c.toNat_lt
            have hnew : (s.data.toList.take (j + 1)).all typC = ((s.data.toList.take j).all typC && typC c) := by rw [htk, List.all_append]; simp
            obtain ⟨b1, hb1⟩ : ∃ b, b = letC c := ⟨_, rfl⟩
            obtain ⟨b2, hb2⟩ : ∃ b, b = digC c := ⟨_, rfl⟩
            have hl := fun w => isLetter_any c w
            have hg := fun w => isDigit_any c w
            rw [← hb1] at hl
            rw [← hb2] at hg
            have HL := Lib.hid hl
            have HD := Lib.hid hg
            have ht : typC c = (b1 || b2 || decide (c.toNat = 45)) := by unfold typC; rw [← hb1, ← hb2]
            clear hl hg hb1 hb2
            by_cases h45 : c.toNat = 45
            · have t2 : ((c.toNat : Int) != 45) = false := by simp [h45]
              have t3 : ((c.toNat : Int) == 45) = true := by simp [h45]
              rw [decide_eq_true h45, Bool.or_true] at ht
              rw [ht, Bool.and_true, hall] at hnew
              have HN := Lib.hid hnew
              clear hnew hc htk hall h45
              cases b1 <;> cases b2 <;> (
                go_wp2_with (first | (go_at_call 142; refine (HL.out _).mono ?_; rintro e w2 ⟨rfl, rfl⟩) | (go_at_call 143; refine (HD.out _).mono ?_; rintro e w3 ⟨rfl, rfl⟩))
                go_round
                case rel => exact ⟨j + 1, by omega, by go_num, HN.out⟩
                case measure => simp [intOf]; omega)
            · have t2 : ((c.toNat : Int) != 45) = true := by simp; omega
              have t3 : ((c.toNat : Int) == 45) = false := by simp; omega
              rw [decide_eq_false h45, Bool.or_false] at ht
              rw [ht, hall] at hnew
              have hin : s.data.toList.all typC = true → typC c = true := fun h => by rw [List.all_eq_true] at h; exact h c (by rw [hc]; exact List.getElem_mem hjl)
              rw [ht] at hin
              have HN := Lib.hid hnew
              have HI := Lib.hid hin
              clear hnew hc htk hall hin
              cases b1 with
              | true =>
                go_wp2_with (first | (go_at_call 142; refine (HL.out _).mono ?_; rintro e w2 ⟨rfl, rfl⟩) | (go_at_call 143; refine (HD.out _).mono ?_; rintro e w3 ⟨rfl, rfl⟩))
                go_round
                case rel => exact ⟨j + 1, by omega, by go_num, HN.out⟩
                case measure => simp [intOf]; omega
              | false =>
                cases b2 with
                | true =>
                  go_wp2_with (first | (go_at_call 142; refine (HL.out _).mono ?_; rintro e w2 ⟨rfl, rfl⟩) | (go_at_call 143; refine (HD.out _).mono ?_; rintro e w3 ⟨rfl, rfl⟩))
                  go_round
                  case rel => exact ⟨j + 1, by omega, by go_num, HN.out⟩
                  case measure => simp [intOf]; omega
                | false =>
                  go_wp2_with (first | (go_at_call 142; refine (HL.out _).mono ?_; rintro e w2 ⟨rfl, rfl⟩) | (go_at_call 143; refine (HD.out _).mono ?_; rintro e w3 ⟨rfl, rfl⟩))
                  go_ret
                  refine ⟨?_, rfl⟩
                  rw [hok]
                  cases hx : s.data.toList.all typC with
                  | false => rfl
                  | true => have := HI.out hx; simp at this
          · obtain rfl : j = s.size := by omega
            have t1 : decide ((s.size : Int) < (s.size : Int)) = false := by simp
            rw [List.take_of_length_le (by simp)] at hall
            have HE := Lib.hid (hok.trans hall)
            clear hok hall
            go_wp2
            go_ret
            exact ⟨by rw [HE.out]; rfl, rfl⟩
    · have t0 : decide ((30 : Int) < (s.size : Int)) = true := by simp; omega
      have hr : okType s.data.toList = false := by unfold okType; rw [bytes_len, decide_eq_false h30]; simp
      rw [hr]
      go_enter Tryz.func123, Tryz.ntmps123
      go_wp2
      go_ret
      exact ⟨rfl, rfl⟩

end Go.Proofs.YtpnbcmblnplbgaaGreatDoor
