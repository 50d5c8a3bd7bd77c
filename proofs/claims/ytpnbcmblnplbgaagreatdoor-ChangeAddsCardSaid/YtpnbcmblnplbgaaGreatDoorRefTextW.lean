/- The document's TextDn: the walk. -/
import Derived.Test.YtpnbcmblnplbgaaGreatDoorRefText
namespace Go.Proofs.YtpnbcmblnplbgaaGreatDoor
open Go.RowKit
set_option linter.unusedVariables false

theorem drew_more {w wr : World} (h : ∃ n, w.drewN n = wr) (m : Nat) : ∃ n, w.drewN n = wr.drewN m := by
  obtain ⟨n, rfl⟩ := h
  exact ⟨n + m, by rw [World.drewN_drewN]⟩

set_option maxRecDepth 100000 in
set_option maxHeartbeats 8000000 in
theorem textRef_any (l : List R) (hsm : smallL l) (v : Value) (w : World) (h : IsL w.heap.size w l v) :
    Calls Tryz.prog 32 #[v] w fun e w' => e = .returned (strV (textD l)) ∧ Below w.heap.size w w' := by
  obtain ⟨a, cp, rfl, hm, hcell⟩ := h
  unfold maxLen at hm
  have HC := Lib.hid hcell
  have HSm := Lib.hid hsm
  have htl := ofText_len l hsm
  clear hcell hsm
  go_enter Tryz.func32, Tryz.ntmps32
  go_wp2
  go_loopw [3, 4] (fun x i wr => ∃ j : Nat, j ≤ l.length ∧ i = .int .i64 j ∧ (∃ E, x = .string (ofL E) ∧ E ++ textT (decide (j = 0)) (l.drop j) = textD l) ∧ ∃ n, w.drewN n = wr) (fun _ i _ => l.length - (intOf i).toNat)
  case atStart => exact ⟨0, by omega, rfl, ⟨[], rfl, by simp [textT_true]⟩, 0, rfl⟩
  case round =>
    obtain ⟨j, hj, rfl, ⟨E, rfl, hE⟩, hwr⟩ := hrel
    have HWr := Lib.hid hwr
    have hbel : Below w.heap.size w wr := by obtain ⟨n, rfl⟩ := hwr; exact drew_below n
    have HBel := Lib.hid hbel
    clear hwr
    by_cases hlt : j < l.length
    · have t1 : decide ((j : Int) < (l.length : Int)) = true := by simp; omega
      have t1' : decide (j < l.length) = true := by simpa using hlt
      obtain ⟨b, off, rfl, hbw, c0, c1⟩ := HC.out j hlt
      obtain ⟨X, hX⟩ : ∃ X : ByteArray, X = ⟨l[j].1.toArray⟩ := ⟨_, rfl⟩
      obtain ⟨Y, hY⟩ : ∃ Y : ByteArray, Y = ⟨l[j].2.toArray⟩ := ⟨_, rfl⟩
      have hXl : X.data.toList = l[j].1 := by rw [hX]
      have hYl : Y.data.toList = l[j].2 := by rw [hY]
      have d0 : wr.cell? ⟨b, off + j * 2, none⟩ = some (.string X) := by rw [hbel.cell (p := ⟨b, _, none⟩) hbw, c0, hX]; rfl
      have d1 : wr.cell? ⟨b, off + j * 2 + 1, none⟩ = some (.string Y) := by rw [hbel.cell (p := ⟨b, _, none⟩) hbw, c1, hY]; rfl
      have hXs : X.size ≤ 1000 := by rw [← bytes_len, hXl]; exact (HSm.out.2 _ (List.getElem_mem hlt)).1
      have hYs : Y.size ≤ 1000 := by rw [← bytes_len, hYl]; exact (HSm.out.2 _ (List.getElem_mem hlt)).2
      have hes : ∀ w, Calls Tryz.prog 55 #[.string Y] w fun e w' => e = .returned (.string (ofL (escV Y.data.toList))) ∧ ∃ m, w' = w.drewN m := fun w => (escaped_any Y (by omega) w).mono fun _ _ ⟨he, m, hm⟩ => ⟨he, m, hm.symm⟩
      obtain ⟨V, hV⟩ : ∃ V, V = ofL (escV Y.data.toList) := ⟨_, rfl⟩
      have hVs : V.size ≤ 3000 := by
        have := escR_len Y.data.toList true
        rw [bytes_len] at this
        rw [hV, ofL_size]
        show (escR true Y.data.toList).length ≤ _
        omega
      simp only [← hV] at hes
      have HEs := Lib.hid hes
      rw [textT_drop l j _ hlt] at hE
      have htr : textR l[j] = X.data.toList ++ ([61] ++ escV Y.data.toList) := by rw [hXl, hYl]; rfl
      rw [htr] at hE
      have hEl : E.length ≤ 5000000 := by
        have h2 := congrArg List.length hE
        rw [List.length_append] at h2
        omega
      obtain ⟨A, hA⟩ : ∃ A, A = ofL E := ⟨_, rfl⟩
      have hAs : A.size ≤ 5000000 := by rw [hA, ofL_size]; exact hEl
      have q1 : A.size + 1 ≤ 9223372036854775807 := by omega
      by_cases h0 : j = 0
      · subst h0
        rw [Nat.zero_mul, Nat.add_zero] at d0 d1
        obtain ⟨B1, hB1⟩ : ∃ B, A ++ X = B := ⟨_, rfl⟩
        obtain ⟨B2, hB2⟩ : ∃ B, B1 ++ ⟨#[61]⟩ = B := ⟨_, rfl⟩
        obtain ⟨B3, hB3⟩ : ∃ B, B2 ++ V = B := ⟨_, rfl⟩
        have s1 : B1.size = A.size + X.size := by rw [← hB1, ByteArray.size_append]
        have s2 : B2.size = B1.size + 1 := by rw [← hB2, ByteArray.size_append]; rfl
        have f1 : (9223372036854775807 < A.size + X.size) = False := by simp; omega
        have f2 : (9223372036854775807 < B1.size + 1) = False := by simp; omega
        have f3 : (9223372036854775807 < B2.size + V.size) = False := by simp; omega
        have hnew : ∃ E', B3 = ofL E' ∧ E' ++ textT (decide (0 + 1 = 0)) (l.drop (0 + 1)) = textD l := by
          refine ⟨E ++ X.data.toList ++ [61] ++ escV Y.data.toList, ?_, ?_⟩
          · rw [← hB3, ← hB2, ← hB1, hA, hV]
            refine bytes_ext ?_
            rw [app_list, app_list, app_list, ofL_list, ofL_list, ofL_list]
          · rw [← hE]; simp
        have HNew := Lib.hid hnew
        rw [← hA]
        clear hbel hE hEl hA hV hVs hX hY hXl hYl c0 c1 htr hes s1 s2 hnew
        go_wp2
        go_quiet ((go_at_call 55; refine Calls.quiet_of (HEs.out _)))
        go_wp2
        obtain ⟨E', hE1, hE2⟩ := HNew.out
        exact ⟨⟨1, by omega, rfl, ⟨E', by rw [hE1], hE2⟩, drew_more HWr.out _⟩, by simp [intOf]; omega⟩
      · have t2 : decide ((0 : Int) < (j : Int)) = true := by simp; omega
        have t2' : decide (0 < j) = true := by simp; omega
        rw [show decide (j = 0) = false from by simpa using h0] at hE
        obtain ⟨A1, hA1⟩ : ∃ B, A ++ ⟨#[44]⟩ = B := ⟨_, rfl⟩
        obtain ⟨B1, hB1⟩ : ∃ B, A1 ++ X = B := ⟨_, rfl⟩
        obtain ⟨B2, hB2⟩ : ∃ B, B1 ++ ⟨#[61]⟩ = B := ⟨_, rfl⟩
        obtain ⟨B3, hB3⟩ : ∃ B, B2 ++ V = B := ⟨_, rfl⟩
        have s0 : A1.size = A.size + 1 := by rw [← hA1, ByteArray.size_append]; rfl
        have s1 : B1.size = A1.size + X.size := by rw [← hB1, ByteArray.size_append]
        have s2 : B2.size = B1.size + 1 := by rw [← hB2, ByteArray.size_append]; rfl
        have f1 : (9223372036854775807 < A1.size + X.size) = False := by simp; omega
        have f2 : (9223372036854775807 < B1.size + 1) = False := by simp; omega
        have f3 : (9223372036854775807 < B2.size + V.size) = False := by simp; omega
        have hnew : ∃ E', B3 = ofL E' ∧ E' ++ textT (decide (j + 1 = 0)) (l.drop (j + 1)) = textD l := by
          refine ⟨E ++ [44] ++ X.data.toList ++ [61] ++ escV Y.data.toList, ?_, ?_⟩
          · rw [← hB3, ← hB2, ← hB1, ← hA1, hA, hV]
            refine bytes_ext ?_
            rw [app_list, app_list, app_list, app_list, ofL_list, ofL_list, ofL_list]
          · rw [← hE]; simp
        have HNew := Lib.hid hnew
        rw [← hA]
        clear hbel hE hEl hA hV hVs hX hY hXl hYl c0 c1 htr hes s0 s1 s2 hnew h0
        go_wp2
        go_quiet ((go_at_call 55; refine Calls.quiet_of (HEs.out _)))
        go_wp2
        obtain ⟨E', hE1, hE2⟩ := HNew.out
        exact ⟨⟨j + 1, by omega, by go_num, ⟨E', by rw [hE1], hE2⟩, drew_more HWr.out _⟩, by simp [intOf]; omega⟩
    · obtain rfl : j = l.length := by omega
      have t1 : decide ((l.length : Int) < (l.length : Int)) = false := by simp
      have t1' : decide (l.length < l.length) = false := by simp
      rw [List.drop_of_length_le (by omega)] at hE
      simp only [textT, List.append_nil] at hE
      rw [hE]
      clear hE hbel
      go_wp2
      go_ret
      exact ⟨rfl, HBel.out⟩
end Go.Proofs.YtpnbcmblnplbgaaGreatDoor
