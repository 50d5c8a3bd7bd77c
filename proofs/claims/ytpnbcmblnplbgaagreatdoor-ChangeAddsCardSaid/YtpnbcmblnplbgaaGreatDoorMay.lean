/- Whether a list may be a name: the document's MayDn and dn.May, walked. -/
import Derived.Test.YtpnbcmblnplbgaaGreatDoorRefTextW
import Derived.Test.YtpnbcmblnplbgaaGreatDoorDnTypeR
namespace Go.Proofs.YtpnbcmblnplbgaaGreatDoor
open Go.RowKit
set_option linter.unusedVariables false

theorem okL_bad {l : List R} {j : Nat} (h : j < l.length) (hb : okR l[j] = false) : okL l = false := by
  cases ho : okL l with
  | false => rfl
  | true =>
    unfold okL at ho
    simp only [Bool.and_eq_true, List.all_eq_true] at ho
    rw [ho.2 _ (List.getElem_mem h)] at hb
    cases hb
theorem okR_parts (r : R) (X Y : ByteArray) (hX : X.data.toList = r.1) (hY : Y.data.toList = r.2) : okR r = (okType X.data.toList && (!Y.data.toList.isEmpty && decide (Y.size ≤ 100))) := by
  unfold okR
  rw [← hX, ← hY, bytes_len, Bool.and_assoc]

set_option maxRecDepth 100000 in
set_option maxHeartbeats 8000000 in
theorem mayRef_any (l : List R) (v : Value) (w : World) (h : IsL w.heap.size w l v) :
    Calls Tryz.prog 31 #[v] w fun e w' => e = .returned (.bool (okL l)) ∧ w = w' := by
  obtain ⟨a, cp, rfl, hm, hcell⟩ := h
  unfold maxLen at hm
  have HC := Lib.hid hcell
  clear hcell
  go_enter Tryz.func31, Tryz.ntmps31
  go_wp2
  go_loop [3] (fun i => ∃ j : Nat, j ≤ l.length ∧ i = .int .i64 j ∧ (l.take j).all okR = true) (fun i => l.length - (intOf i).toNat)
  case atStart => exact ⟨0, by omega, rfl, by simp⟩
  case round =>
    obtain ⟨j, hj, rfl, hall⟩ := hrel
    by_cases hlt : j < l.length
    · have t1 : decide ((j : Int) < (l.length : Int)) = true := by simp; omega
      have t1' : decide (j < l.length) = true := by simpa using hlt
      obtain ⟨b, off, rfl, hbw, c0, c1⟩ := HC.out j hlt
      obtain ⟨X, hX⟩ : ∃ X : ByteArray, X = ⟨l[j].1.toArray⟩ := ⟨_, rfl⟩
      obtain ⟨Y, hY⟩ : ∃ Y : ByteArray, Y = ⟨l[j].2.toArray⟩ := ⟨_, rfl⟩
      have hXl : X.data.toList = l[j].1 := by rw [hX]
      have hYl : Y.data.toList = l[j].2 := by rw [hY]
      have d0 : w.cell? ⟨b, off + j * 2, none⟩ = some (.string X) := by rw [c0, hX]; rfl
      have d1 : w.cell? ⟨b, off + j * 2 + 1, none⟩ = some (.string Y) := by rw [c1, hY]; rfl
      have hp := okR_parts l[j] X Y hXl hYl
      have hmt := fun w => mayTypeRef_any X w
      obtain ⟨b1, hb1⟩ : ∃ b1, b1 = okType X.data.toList := ⟨_, rfl⟩
      rw [← hb1] at hp
      simp only [← hb1] at hmt
      have HM := Lib.hid hmt
      have hbad := okL_bad hlt
      have hnew : (l.take (j + 1)).all okR = okR l[j] := by rw [List.take_succ_eq_append_getElem hlt, List.all_append, hall]; simp
      have q1 : (j : Int) < (l.length : Int) := by omega
      clear hmt hX hXl hY hYl c0 c1 hall hb1
      cases b1 with
      | false =>
        rw [Bool.false_and] at hp
        have HN := Lib.hid (hbad hp)
        clear hp hbad hnew
        go_wp2_with (go_at_call 54; refine (HM.out _).mono ?_; rintro e w2 ⟨rfl, rfl⟩)
        go_ret
        rw [HN.out]
        exact ⟨rfl, rfl⟩
      | true =>
        rw [Bool.true_and] at hp
        by_cases hne : Y.data.toList = []
        · obtain ⟨e1, e2⟩ := bytes_nil hne
          rw [hne] at hp
          have HN := Lib.hid (hbad hp)
          clear hp hbad hnew hne
          go_wp2_with (go_at_call 54; refine (HM.out _).mono ?_; rintro e w2 ⟨rfl, rfl⟩)
          go_ret
          rw [HN.out]
          exact ⟨rfl, rfl⟩
        · obtain ⟨e1, e2⟩ := bytes_some hne
          have hie : Y.data.toList.isEmpty = false := by cases h : Y.data.toList with | nil => exact absurd h hne | cons x r => rfl
          rw [hie] at hp
          by_cases h100 : Y.size ≤ 100
          · have t2 : decide ((100 : Int) < (Y.size : Int)) = false := by simp; omega
            rw [decide_eq_true h100] at hp
            rw [hp] at hnew
            have HN := Lib.hid hnew
            clear hp hbad hnew hne hie
            go_wp2_with (go_at_call 54; refine (HM.out _).mono ?_; rintro e w2 ⟨rfl, rfl⟩)
            exact ⟨⟨j + 1, by omega, by go_num, by rw [HN.out]; rfl⟩, by simp [intOf]; omega⟩
          · have t2 : decide ((100 : Int) < (Y.size : Int)) = true := by simp; omega
            rw [decide_eq_false h100] at hp
            have HN := Lib.hid (hbad hp)
            clear hp hbad hnew hne hie
            go_wp2_with (go_at_call 54; refine (HM.out _).mono ?_; rintro e w2 ⟨rfl, rfl⟩)
            go_ret
            rw [HN.out]
            exact ⟨rfl, rfl⟩
    · obtain rfl : j = l.length := by omega
      have t1 : decide ((l.length : Int) < (l.length : Int)) = false := by simp
      have t1' : decide (l.length < l.length) = false := by simp
      rw [List.take_length] at hall
      have hok : okL l = decide ((l.length : Int) ≤ 8) := by
        unfold okL
        rw [hall, Bool.and_true, Bool.eq_iff_iff]
        simp
        omega
      have HOk := Lib.hid hok
      clear hall hok
      go_wp2
      go_ret
      rw [HOk.out]
      exact ⟨rfl, rfl⟩

end Go.Proofs.YtpnbcmblnplbgaaGreatDoor
