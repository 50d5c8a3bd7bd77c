/- The document's own Fold, Up, Under: the walks. -/
import Derived.Test.YtpnbcmblnplbgaaGreatDoorDnLow
namespace Go.Proofs.YtpnbcmblnplbgaaGreatDoor
open Go.RowKit
set_option linter.unusedVariables false

theorem bytes_nil {B : ByteArray} (h : B.data.toList = []) : B.toList = [] ∧ B.toList.isEmpty = true := by
  have h1 : B.toList = [] := by rw [ByteArray.toList_eq]; exact h
  exact ⟨h1, by rw [h1]; rfl⟩
theorem bytes_some {B : ByteArray} (h : B.data.toList ≠ []) : ¬ B.toList = [] ∧ B.toList.isEmpty = false := by
  have h1 : ¬ B.toList = [] := by rw [ByteArray.toList_eq]; exact h
  exact ⟨h1, by cases h2 : B.toList with | nil => exact absurd h2 h1 | cons c r => rfl⟩
theorem bytes_len (B : ByteArray) : B.data.toList.length = B.size := by simp
theorem bytes_ext {A B : ByteArray} (h : A.data.toList = B.data.toList) : A = B := by
  apply ByteArray.ext; exact Array.toList_inj.1 h
theorem one_byte (T : ByteArray) (j : Nat) (h : j < T.size) : (T.extract j (j + 1)).data.toList = [T[j]] := by
  have h1 : j < T.data.toList.length := by simpa using h
  have : (T.extract j (j + 1)).data.toList = (T.data.toList.drop j).take 1 := by simp [ByteArray.data_extract, Array.toList_extract, List.extract]
  rw [this, List.drop_eq_getElem_cons h1]
  rfl
theorem one_size (T : ByteArray) (j : Nat) (h : j < T.size) : (T.extract j (j + 1)).size = 1 := by
  simp; omega
theorem app_list (A B : ByteArray) : (A ++ B).data.toList = A.data.toList ++ B.data.toList := by simp [ByteArray.data_append]
theorem byte_get (T : ByteArray) (j : Nat) (h : j < T.size) (h1 : j < T.data.toList.length) : T.data.toList[j] = T[j] := rfl

set_option maxRecDepth 100000 in
set_option maxHeartbeats 1000000 in
theorem foldRef_any (s : ByteArray) (w : World) (hs : s.size ≤ 281474976710656) :
    Calls Tryz.prog 35 #[.string s] w fun e w' => e = .returned (.string (foldB s)) ∧ Below w.heap.size w w' := by
  have hlow := lowerRef_any s w hs
  obtain ⟨T, hT⟩ : ∃ T, T = lowB s := ⟨_, rfl⟩
  have hTl : T.data.toList = low s.data.toList := by rw [hT]; rfl
  have hTs : T.size = s.size := by have := congrArg List.length hTl; simpa [low] using this
  have hfold : fold T.data.toList = fold s.data.toList := by rw [hTl, fold_low]
  rw [← hT] at hlow
  have hT63 : T.size ≤ 281474976710656 := by omega
  have hlw : ∀ x ∈ T.data.toList, lowC x = x := by
    intro x hx; rw [hTl, low, List.mem_map] at hx; obtain ⟨y, _, rfl⟩ := hx; exact lowC_low y
  have HLw := Lib.hid hlw
  have HL := Lib.hid hlow
  have HF := Lib.hid hfold
  clear hlow hT hTl hTs hfold hlw
  go_enter Tryz.func35, Tryz.ntmps35
  go_wp2_with (go_at_call 34; refine HL.out.mono ?_; rintro e w1 ⟨rfl, hb⟩; have HB := Lib.hid hb; clear hb)
  go_loop [4, 5, 6] (fun o g i => ∃ (j : Nat) (B : ByteArray), j ≤ T.size ∧ i = .int .i64 j ∧ o = .string B ∧ g = .bool (frun (T.data.toList.take j)).2 ∧ B.data.toList = (frun (T.data.toList.take j)).1 ∧ B.size ≤ j)
    (fun _ _ i => T.size - (intOf i).toNat)
  case atStart => exact ⟨0, ⟨#[]⟩, by omega, rfl, rfl, by simp [frun], by simp [frun], Nat.le_refl _⟩
  case round =>
    obtain ⟨j, B, hj, rfl, rfl, rfl, hB, hBs⟩ := hrel
    by_cases hlt : j < T.size
    · have t1 : decide ((j : Int) < (T.size : Int)) = true := by simp; omega
      have hjl : j < T.data.toList.length := by simpa using hlt
      have hst := frun_take T.data.toList j hjl
      rw [byte_get T j hlt hjl] at hst
      have hlen := frun_len (T.data.toList.take j)
      have htk : (T.data.toList.take j).length ≤ j := List.length_take_le _ _
      have hBl : B.size = (frun (T.data.toList.take j)).1.length := by rw [← hB]; simp
      obtain ⟨g, hg⟩ : ∃ g, g = (frun (T.data.toList.take j)).2 := ⟨_, rfl⟩
      rw [← hg] at hlen ⊢
      have hpair : frun (T.data.toList.take j) = (B.data.toList, g) := by rw [hB, hg]
      rw [hpair] at hst
      obtain ⟨c, hc⟩ : ∃ c : UInt8, c = T[j] := ⟨_, rfl⟩
      have hc' : T[j]'hlt = c := hc.symm
      rw [← hc] at hst
      have h1b := one_byte T j hlt
      have h1s := one_size T j hlt
      rw [← hc] at h1b
      have hcl := c.toNat_lt
      have hsz1 : B.size + 1 ≤ 9223372036854775807 := by omega
      have hsz2 : B.size + 1 + 1 ≤ 9223372036854775807 := by omega
      by_cases h32 : c.toNat = 32
      · have t2 : ((c.toNat : Int) == 32) = true := by simp [h32]
        have hst2 : frun (T.data.toList.take (j + 1)) = (B.data.toList, !B.data.toList.isEmpty) := by rw [hst]; unfold fstep; rw [if_pos h32]
        have HSt := Lib.hid hst2
        have hBj : B.size ≤ j + 1 := by omega
        by_cases hne : B.data.toList = []
        · obtain ⟨e1, e2⟩ := bytes_nil hne
          have HNe := Lib.hid hne
          clear hst hst2 hlen htk hBl hg hpair hB hc hne h1b
          go_wp2
          go_round
          case rel => exact ⟨j + 1, B, by omega, by go_num, rfl, by rw [HSt.out, HNe.out]; rfl, by rw [HSt.out], hBj⟩
          case measure => simp [intOf]; omega
        · obtain ⟨e1, e2⟩ := bytes_some hne
          have HNe := Lib.hid (show B.data.toList.isEmpty = false from by cases h : B.data.toList with | nil => exact absurd h hne | cons c r => rfl)
          clear hst hst2 hlen htk hBl hg hpair hB hc hne h1b
          go_wp2
          go_round
          case rel => exact ⟨j + 1, B, by omega, by go_num, rfl, by rw [HSt.out, HNe.out]; rfl, by rw [HSt.out], hBj⟩
          case measure => simp [intOf]; omega
      · have t2 : ((c.toNat : Int) == 32) = false := by simp; omega
        have hcT : lowC c = c := HLw.out c (by rw [hc]; exact List.getElem_mem hjl)
        have hst2 : frun (T.data.toList.take (j + 1)) = (B.data.toList ++ (if g then [32] else []) ++ [lowC c], false) := by rw [hst]; unfold fstep; rw [if_neg h32]
        have HSt := Lib.hid hst2
        have H1b := Lib.hid h1b
        have HcT := Lib.hid hcT
        cases g with
        | true =>
          have hBj : B.size + 1 + 1 ≤ j + 1 := by simp at hlen; omega
          clear hst hst2 hlen htk hBl hg hpair hB hc h1b hcT
          go_wp2
          go_round
          case rel => exact ⟨j + 1, _, by omega, by go_num, rfl, by rw [HSt.out], by rw [HSt.out, HcT.out, app_list, app_list, H1b.out]; rfl, by rw [ByteArray.size_append, ByteArray.size_append, h1s]; exact hBj⟩
          case measure => simp [intOf]; omega
        | false =>
          clear hst hst2 hlen htk hBl hg hpair hB hc h1b hcT
          go_wp2
          go_round
          case rel => exact ⟨j + 1, _, by omega, by go_num, rfl, by rw [HSt.out], by rw [HSt.out, HcT.out, app_list, H1b.out]; simp, by rw [ByteArray.size_append, h1s]; omega⟩
          case measure => simp [intOf]; omega
    · obtain rfl : j = T.size := by omega
      have t1 : decide ((T.size : Int) < (T.size : Int)) = false := by simp
      rw [List.take_of_length_le (by simp)] at hB
      have HB' := Lib.hid hB
      clear hB
      go_wp2
      go_ret
      refine ⟨?_, HB.out⟩
      rw [show foldB s = B from bytes_ext (by rw [HB'.out]; exact HF.out.symm)]; rfl
end Go.Proofs.YtpnbcmblnplbgaaGreatDoor
