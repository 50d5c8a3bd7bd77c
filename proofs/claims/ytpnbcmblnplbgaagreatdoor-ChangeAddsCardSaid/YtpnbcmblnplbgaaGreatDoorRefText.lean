/- The document's two, escaped: the walks. -/
import Derived.Test.YtpnbcmblnplbgaaGreatDoorOfL
import Derived.Test.YtpnbcmblnplbgaaGreatDoorDnTextW
import Derived.Test.YtpnbcmblnplbgaaGreatDoorDnLowAll
import Derived.Deep.QuietTactic
import Derived.BigQuiet
namespace Go.Proofs.YtpnbcmblnplbgaaGreatDoor
open Go.RowKit
set_option linter.unusedVariables false

theorem drew_below {w : World} (n : Nat) : Below w.heap.size w (w.drewN n) := ⟨rfl, rfl, rfl, Nat.le_refl _, fun _ _ => rfl⟩

set_option maxRecDepth 100000 in
set_option maxHeartbeats 2000000 in
theorem two_any (x : UInt8) (w : World) : Calls Tryz.prog 80 #[.int .u8 x.toNat] w fun e w' => e = .returned (.string (ofL [92, digL (x.toNat / 16), digL (x.toNat % 16)])) ∧ ∃ n, w.drewN n = w' := by
  have hxl := x.toNat_lt
  obtain ⟨m, hm⟩ : ∃ m, m = x.toNat / 16 := ⟨_, rfl⟩
  obtain ⟨k, hk⟩ : ∃ k, k = x.toNat % 16 := ⟨_, rfl⟩
  have hm16 : m < 16 := by omega
  have hk16 : k < 16 := by omega
  have hmi : (x.toNat : Int) / 16 = (m : Int) := by omega
  have hki : (x.toNat : Int) % 16 = (k : Int) := by omega
  have hu := lower_at m hm16
  have hl := lower_at k hk16
  rw [← hm, ← hk]
  obtain ⟨D1, hD1⟩ : ∃ D, D = ofL [digL m] := ⟨_, rfl⟩
  obtain ⟨D2, hD2⟩ : ∃ D, D = ofL [digL k] := ⟨_, rfl⟩
  rw [← hD1] at hu
  rw [← hD2] at hl
  have hD1s : D1.size = 1 := by rw [hD1, ofL_size]; rfl
  have hD2s : D2.size = 1 := by rw [hD2, ofL_size]; rfl
  obtain ⟨T2, hT2⟩ : ∃ T, (⟨#[92]⟩ : ByteArray) ++ D1 = T := ⟨_, rfl⟩
  obtain ⟨T3, hT3⟩ : ∃ T, T2 ++ D2 = T := ⟨_, rfl⟩
  have hT2s : T2.size = 2 := by rw [← hT2, ByteArray.size_append, hD1s]; rfl
  have hnew : ofL [92, digL m, digL k] = T3 := by
    refine bytes_ext ?_
    rw [← hT3, ← hT2, hD1, hD2, app_list, app_list, ofL_list, ofL_list, ofL_list]; rfl
  have f2 : (9223372036854775807 < 1 + D1.size) = False := by simp; omega
  have f3 : (9223372036854775807 < T2.size + D2.size) = False := by simp; omega
  have g1 : (m : Int) + 1 ≤ 16 := by omega
  have g2 : (k : Int) + 1 ≤ 16 := by omega
  have g3 : ((m : Int) + 1).toNat = m + 1 := by omega
  have g4 : ((k : Int) + 1).toNat = k + 1 := by omega
  have g5 : (0 : Int) ≤ (m : Int) := by omega
  have g6 : (0 : Int) ≤ (k : Int) := by omega
  have g7 : (0 : Int) ≤ (m : Int) + 1 := by omega
  have g8 : (0 : Int) ≤ (k : Int) + 1 := by omega
  have w1' : IntKind.u8.wrap ((m : Int) + 1) = (m : Int) + 1 := IntWalk.u8_in _ (by omega)
  have w2' : IntKind.u8.wrap ((k : Int) + 1) = (k : Int) + 1 := IntWalk.u8_in _ (by omega)
  have HNew := Lib.hid hnew
  clear hm hk hD1 hD2 hD1s hD2s hT2s hnew
  go_enter Tryz.func80, Tryz.ntmps80
  go_wp2
  go_quiet (fail)
  go_wp2
  go_ret
  rw [HNew.out]
  exact ⟨rfl, _, rfl⟩

theorem need_ref (c : UInt8) (f l : Bool) (h : kindC c ≠ 0) : needC c f l = (([44, 43, 34, 92, 60, 62, 59] : List UInt8).contains c || (f && (decide (c.toNat = 35) || decide (c.toNat = 32))) || (l && decide (c.toNat = 32))) := by
  have := all_bytes (fun c => kindC c == 0 || (([true, false].all fun f => [true, false].all fun l => needC c f l == (([44, 43, 34, 92, 60, 62, 59] : List UInt8).contains c || (f && (decide (c.toNat = 35) || decide (c.toNat = 32))) || (l && decide (c.toNat = 32)))))) (by decide +kernel) c
  simp only [Bool.or_eq_true, beq_iff_eq, List.all_cons, List.all_nil, Bool.and_true, Bool.and_eq_true] at this
  have := this.resolve_left h
  cases f <;> cases l
  · exact this.2.2
  · exact this.2.1
  · exact this.1.2
  · exact this.1.1
theorem kind_zero (c : UInt8) : kindC c = 0 ↔ (c.toNat < 32 ∨ 126 < c.toNat) := by
  have := all_bytes (fun c => decide (kindC c = 0 ↔ (c.toNat < 32 ∨ 126 < c.toNat))) (by decide +kernel) c
  exact of_decide_eq_true this

def OutE (s : ByteArray) (j : Nat) (x : Value) : Prop := ∃ E, x = .string (ofL E) ∧ E ++ escR (decide (j = 0)) (s.data.toList.drop j) = escV s.data.toList

set_option maxRecDepth 100000 in
set_option maxHeartbeats 8000000 in
theorem escaped_any (s : ByteArray) (hs : s.size ≤ 1000000) (w : World) :
    Calls Tryz.prog 55 #[.string s] w fun e w' => e = .returned (.string (ofL (escV s.data.toList))) ∧ ∃ n, w.drewN n = w' := by
  go_enter Tryz.func55, Tryz.ntmps55
  go_wp2
  go_loopw [3, 4] (fun x i wr => ∃ j : Nat, j ≤ s.size ∧ i = .int .i64 j ∧ OutE s j x ∧ ∃ n, w.drewN n = wr) (fun _ i _ => s.size - (intOf i).toNat)
  case atStart => exact ⟨0, by omega, rfl, ⟨[], rfl, by simp [escV]⟩, 0, rfl⟩
  case round =>
    obtain ⟨j, hj, rfl, ⟨E, rfl, hE⟩, n, rfl⟩ := hrel
    by_cases hlt : j < s.size
    · have t1 : decide ((j : Int) < (s.size : Int)) = true := by simp; omega
      obtain ⟨c, hc⟩ : ∃ c : UInt8, c = s[j] := ⟨_, rfl⟩
      have hc' : s[j]'hlt = c := hc.symm
      have hcl := c.toNat_lt
      have hd := drop_at s j hlt
      rw [← hc] at hd
      rw [hd] at hE
      simp only [escR] at hE
      have hEl : E.length ≤ 3000000 := by
        have h1 := escR_len s.data.toList true
        have h2 := congrArg List.length hE
        rw [List.length_append] at h2
        have h3 : (escV s.data.toList).length = (escR true s.data.toList).length := rfl
        rw [bytes_len] at h1
        omega
      have hnext : ∀ X, escC (decide (j = 0)) (s.data.toList.drop (j + 1)).isEmpty c = X → OutE s (j + 1) (.string (ofL (E ++ X))) := by
        intro X hX
        refine ⟨E ++ X, rfl, ?_⟩
        rw [← hE, hX, show decide (j + 1 = 0) = false from by simp, List.append_assoc]
      obtain ⟨A, hA⟩ : ∃ A, A = ofL E := ⟨_, rfl⟩
      have hAs : A.size ≤ 3000000 := by rw [hA, ofL_size]; exact hEl
      have hone := one_byte s j hlt
      have hos := one_size s j hlt
      obtain ⟨O, hO⟩ : ∃ O, s.extract j (j + 1) = O := ⟨_, rfl⟩
      rw [hO] at hone hos
      rw [show s[j] = c from hc'] at hone
      have q0 : (j : Int) + 1 ≤ (s.size : Int) := by omega
      by_cases h0 : c.toNat < 32 ∨ 126 < c.toNat
      · have hesc : escC (decide (j = 0)) (s.data.toList.drop (j + 1)).isEmpty c = [92, digL (c.toNat / 16), digL (c.toNat % 16)] := by unfold escC; rw [if_pos ((kind_zero c).2 h0)]
        have hn := hnext _ hesc
        rw [← ofL_app, ← hA] at hn
        have HN := Lib.hid hn
        have htw := fun w => two_any c w
        obtain ⟨Z, hZ⟩ : ∃ Z, Z = ofL [92, digL (c.toNat / 16), digL (c.toNat % 16)] := ⟨_, rfl⟩
        have hZs : Z.size = 3 := by rw [hZ, ofL_size]; rfl
        simp only [← hZ] at htw
        rw [← hZ] at HN
        have HT := Lib.hid htw
        have q1 : A.size + Z.size ≤ 9223372036854775807 := by omega
        rw [← hA]
        clear hE hEl hnext hesc hn htw hZ hZs hA hone hos hd hc
        by_cases h1 : c.toNat < 32
        · have t2 : decide ((c.toNat : Int) < 32) = true := by simp; omega
          go_wp2_with (go_at_call 80; refine (HT.out _).mono ?_; rintro e w2 ⟨rfl, n2, rfl⟩)
          exact ⟨⟨j + 1, by omega, by go_num, HN.out, _, rfl⟩, by simp [intOf]; omega⟩
        · have t2 : decide ((c.toNat : Int) < 32) = false := by simp; omega
          have t3 : decide ((126 : Int) < (c.toNat : Int)) = true := by simp; omega
          go_wp2_with (go_at_call 80; refine (HT.out _).mono ?_; rintro e w2 ⟨rfl, n2, rfl⟩)
          exact ⟨⟨j + 1, by omega, by go_num, HN.out, _, rfl⟩, by simp [intOf]; omega⟩
      · have hk : kindC c ≠ 0 := fun e => h0 ((kind_zero c).1 e)
        have t2 : decide ((c.toNat : Int) < 32) = false := by simp; omega
        have t3 : decide ((126 : Int) < (c.toNat : Int)) = false := by simp; omega
        have hin := fun w => inRef_any ⟨#[44, 43, 34, 92, 60, 62, 59]⟩ c w (by decide)
        obtain ⟨M, hM⟩ : ∃ M, M = ([44, 43, 34, 92, 60, 62, 59] : List UInt8).contains c := ⟨_, rfl⟩
        have hMx : (⟨#[44, 43, 34, 92, 60, 62, 59]⟩ : ByteArray).data.toList.contains c = M := hM.symm
        simp only [hMx] at hin
        have HIn := Lib.hid hin
        have hnr := need_ref c (decide (j = 0)) (s.data.toList.drop (j + 1)).isEmpty hk
        rw [← hM, drop_empty] at hnr
        have hesc : escC (decide (j = 0)) (s.data.toList.drop (j + 1)).isEmpty c = if needC c (decide (j = 0)) (decide (s.size ≤ j + 1)) = true then [92, c] else [c] := by unfold escC; rw [if_neg hk, drop_empty]
        obtain ⟨A1, hA1⟩ : ∃ T, A ++ ⟨#[92]⟩ = T := ⟨_, rfl⟩
        have hA1s : A1.size = A.size + 1 := by rw [← hA1, ByteArray.size_append]; rfl
        have q1 : A.size + 1 ≤ 9223372036854775807 := by omega
        have q2 : A1.size + O.size ≤ 9223372036854775807 := by omega
        have q3 : A.size + O.size ≤ 9223372036854775807 := by omega
        have q4 : ¬ ((j : Int) + 1 < (j : Int)) := by omega
        rw [← hA]
        clear hE hEl hMx hin hd hc hA1s
        cases M with
        | true =>
          rw [if_pos (by rw [hnr]; simp)] at hesc
          have hn := hnext _ hesc
          have HN : Hid (OutE s (j + 1) (.string (A1 ++ O))) := by
            rw [← hA1, hA, show (⟨#[92]⟩ : ByteArray) = ofL [92] from rfl, show O = ofL [c] from bytes_ext (by rw [hone, ofL_list]), ofL_app, ofL_app, List.append_assoc]
            exact hn
          clear hn hesc hnr hnext hA hone hos hM
          go_wp2_with (go_at_call 53; refine (HIn.out _).mono ?_; rintro e w2 ⟨rfl, rfl⟩)
          exact ⟨⟨j + 1, by omega, by go_num, HN.out, _, rfl⟩, by simp [intOf]; omega⟩
        | false =>
          by_cases hj0 : j = 0
          · have f0 : ((j : Int) == 0) = true := by simp [hj0]
            have f0d : decide (j = 0) = true := by simp [hj0]
            have HJ := Lib.hid hj0
            clear hj0
            by_cases h35 : c.toNat = 35
            · have e35 : ((c.toNat : Int) == 35) = true := by simp [h35]
              have d35 : decide (c.toNat = 35) = true := by simp [h35]
              have H35 := Lib.hid h35
              clear h35
              rw [if_pos (by rw [hnr]; rw [f0d, d35]; simp)] at hesc
              have hn := hnext _ hesc
              have HN : Hid (OutE s (j + 1) (.string (A1 ++ O))) := by
                rw [← hA1, hA, show (⟨#[92]⟩ : ByteArray) = ofL [92] from rfl, show O = ofL [c] from bytes_ext (by rw [hone, ofL_list]), ofL_app, ofL_app, List.append_assoc]
                exact hn
              clear d35 f0d hn hesc hnr hnext hA hone hos hM
              go_wp2_with (go_at_call 53; refine (HIn.out _).mono ?_; rintro e w2 ⟨rfl, rfl⟩)
              exact ⟨⟨j + 1, by omega, by go_num, HN.out, _, rfl⟩, by simp [intOf]; omega⟩
            · have e35 : ((c.toNat : Int) == 35) = false := by simp; omega
              have d35 : decide (c.toNat = 35) = false := by simp; omega
              by_cases h32 : c.toNat = 32
              · have e32 : ((c.toNat : Int) == 32) = true := by simp [h32]
                have d32 : decide (c.toNat = 32) = true := by simp [h32]
                have H32 := Lib.hid h32
                clear h32
                rw [if_pos (by rw [hnr]; rw [f0d, d32]; simp)] at hesc
                have hn := hnext _ hesc
                have HN : Hid (OutE s (j + 1) (.string (A1 ++ O))) := by
                  rw [← hA1, hA, show (⟨#[92]⟩ : ByteArray) = ofL [92] from rfl, show O = ofL [c] from bytes_ext (by rw [hone, ofL_list]), ofL_app, ofL_app, List.append_assoc]
                  exact hn
                clear d35 d32 f0d hn hesc hnr hnext hA hone hos hM
                go_wp2_with (go_at_call 53; refine (HIn.out _).mono ?_; rintro e w2 ⟨rfl, rfl⟩)
                exact ⟨⟨j + 1, by omega, by go_num, HN.out, _, rfl⟩, by simp [intOf]; omega⟩
              · have e32 : ((c.toNat : Int) == 32) = false := by simp; omega
                have d32 : decide (c.toNat = 32) = false := by simp; omega
                by_cases hL : j + 1 = s.size
                · have f1 : ((j : Int) == (s.size : Int) - 1) = true := by simp; omega
                  rw [if_neg (by rw [hnr]; rw [d35, d32]; simp)] at hesc
                  have hn := hnext _ hesc
                  have HN : Hid (OutE s (j + 1) (.string (A ++ O))) := by
                    rw [hA, show O = ofL [c] from bytes_ext (by rw [hone, ofL_list]), ofL_app]
                    exact hn
                  clear d35 d32 f0d hL hn hesc hnr hnext hA hone hos hM
                  go_wp2_with (go_at_call 53; refine (HIn.out _).mono ?_; rintro e w2 ⟨rfl, rfl⟩)
                  exact ⟨⟨j + 1, by omega, by go_num, HN.out, _, rfl⟩, by simp [intOf]; omega⟩
                · have f1 : ((j : Int) == (s.size : Int) - 1) = false := by simp; omega
                  rw [if_neg (by rw [hnr]; rw [d35, d32]; simp)] at hesc
                  have hn := hnext _ hesc
                  have HN : Hid (OutE s (j + 1) (.string (A ++ O))) := by
                    rw [hA, show O = ofL [c] from bytes_ext (by rw [hone, ofL_list]), ofL_app]
                    exact hn
                  clear d35 d32 f0d hn hesc hnr hnext hA hone hos hM
                  go_wp2_with (go_at_call 53; refine (HIn.out _).mono ?_; rintro e w2 ⟨rfl, rfl⟩)
                  exact ⟨⟨j + 1, by omega, by go_num, HN.out, _, rfl⟩, by simp [intOf]; omega⟩
          · have f0 : ((j : Int) == 0) = false := by simp; omega
            have f0d : decide (j = 0) = false := by simpa using hj0
            by_cases hL : j + 1 = s.size
            · have f1 : ((j : Int) == (s.size : Int) - 1) = true := by simp; omega
              have f1d : decide (s.size ≤ j + 1) = true := by simp; omega
              have HL := Lib.hid hL
              clear hL
              by_cases h32 : c.toNat = 32
              · have e32 : ((c.toNat : Int) == 32) = true := by simp [h32]
                have d32 : decide (c.toNat = 32) = true := by simp [h32]
                have H32 := Lib.hid h32
                clear h32
                rw [if_pos (by rw [hnr]; rw [f1d, d32]; simp)] at hesc
                have hn := hnext _ hesc
                have HN : Hid (OutE s (j + 1) (.string (A1 ++ O))) := by
                  rw [← hA1, hA, show (⟨#[92]⟩ : ByteArray) = ofL [92] from rfl, show O = ofL [c] from bytes_ext (by rw [hone, ofL_list]), ofL_app, ofL_app, List.append_assoc]
                  exact hn
                clear d32 f0d f1d hn hesc hnr hnext hA hone hos hM
                go_wp2_with (go_at_call 53; refine (HIn.out _).mono ?_; rintro e w2 ⟨rfl, rfl⟩)
                exact ⟨⟨j + 1, by omega, by go_num, HN.out, _, rfl⟩, by simp [intOf]; omega⟩
              · have e32 : ((c.toNat : Int) == 32) = false := by simp; omega
                have d32 : decide (c.toNat = 32) = false := by simp; omega
                
                rw [if_neg (by rw [hnr]; rw [f0d, d32]; simp)] at hesc
                have hn := hnext _ hesc
                have HN : Hid (OutE s (j + 1) (.string (A ++ O))) := by
                  rw [hA, show O = ofL [c] from bytes_ext (by rw [hone, ofL_list]), ofL_app]
                  exact hn
                clear d32 f0d f1d hn hesc hnr hnext hA hone hos hM
                go_wp2_with (go_at_call 53; refine (HIn.out _).mono ?_; rintro e w2 ⟨rfl, rfl⟩)
                exact ⟨⟨j + 1, by omega, by go_num, HN.out, _, rfl⟩, by simp [intOf]; omega⟩
            · have f1 : ((j : Int) == (s.size : Int) - 1) = false := by simp; omega
              have f1d : decide (s.size ≤ j + 1) = false := by simp; omega
              rw [if_neg (by rw [hnr]; rw [f0d, f1d]; simp)] at hesc
              have hn := hnext _ hesc
              have HN : Hid (OutE s (j + 1) (.string (A ++ O))) := by
                rw [hA, show O = ofL [c] from bytes_ext (by rw [hone, ofL_list]), ofL_app]
                exact hn
              clear f0d f1d hn hesc hnr hnext hA hone hos hM
              go_wp2_with (go_at_call 53; refine (HIn.out _).mono ?_; rintro e w2 ⟨rfl, rfl⟩)
              exact ⟨⟨j + 1, by omega, by go_num, HN.out, _, rfl⟩, by simp [intOf]; omega⟩
    · obtain rfl : j = s.size := by omega
      have t1 : decide ((s.size : Int) < (s.size : Int)) = false := by simp
      rw [List.drop_of_length_le (by simp)] at hE
      simp only [escR, List.append_nil] at hE
      rw [hE]
      clear hE
      go_wp2
      go_ret
      exact ⟨rfl, n, rfl⟩
end Go.Proofs.YtpnbcmblnplbgaaGreatDoor
