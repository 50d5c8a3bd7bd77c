/- The statements' awake, and how two stand as the document asks it: the walks. -/
import Derived.Test.YtppljlegkdjhpaaDoorCsNext
import Derived.Test.YtppljlegkdjhpaaDoorCsText
namespace Go.Proofs.YtppljlegkdjhpaaDoor
open Go.RowKit
set_option linter.unusedVariables false
set_option linter.unusedSimpArgs false

set_option maxRecDepth 100000 in
set_option maxHeartbeats 2000000 in
theorem awake12_any (w : World) (hw : LaidT w) : Calls Tryd.prog 6 #[] w fun x w' => x = .returned (.bool true) ∧ Below w.heap.size w w' := by
  have h1 : ∀ W, Below w.heap.size w W → Calls Tryd.prog 13 #[.agg #[.int .i64 0, .int .i64 0]] W fun x w' => x = .returned (.string ⟨#[48, 46, 48]⟩) ∧ Below W.heap.size W w' := fun W hW => by
    have ht : (⟨#[48, 46, 48]⟩ : ByteArray) = ofL (textC 0 0) := by
      have : textC 0 0 = [48, 46, 48] := by
        unfold textC
        rw [itoa_pos (by omega), Lib.decDigits_one (by decide)]
        rfl
      rw [this]
      rfl
    rw [ht]
    exact textP_any 0 0 (by omega) (by omega) W (hw.below hW)
  have h2 : ∀ W, Calls Tryd.prog 15 #[.agg #[.int .i64 1, .int .i64 4], .int .i64 2] W fun x w' => x = .returned (.agg #[.int .i64 2, .int .i64 5]) ∧ Below W.heap.size W w' := fun W => by
    have := nextC_any 1 4 2 W
    rw [IntWalk.i64_in _ (by omega)] at this
    exact this
  have H1 := Lib.hid h1
  have H2 := Lib.hid h2
  clear h1 h2 hw
  go_enter Tryd.func6, Tryd.ntmps6
  go_wp2_with (first
    | (go_at_call 13; refine (H1.out _ (Below.refl _ _)).mono ?_; rintro x w2 ⟨rfl, hb2⟩; have HB2 := Lib.hid hb2; clear hb2)
    | (go_at_call 15; refine (H2.out _).mono ?_; rintro x w3 ⟨rfl, hb3⟩; have HB3 := Lib.hid (bthen HB2.out hb3); clear hb3))
  go_ret
  exact ⟨rfl, HB3.out⟩

set_option maxRecDepth 100000 in
set_option maxHeartbeats 4000000 in
theorem cmpR_any (e n f m : Int) (w : World) : Calls Tryd.prog 12 #[.agg #[.int .i64 e, .int .i64 n], .agg #[.int .i64 f, .int .i64 m]] w fun x w' => x = .returned (.int .i64 (cmpC e n f m)) ∧ Below w.heap.size w w' := by
  obtain ⟨W0, hW0⟩ : ∃ W, W = (w.alloc (.cells #[.int .i64 e, .int .i64 n] 23)).alloc (.cells #[.int .i64 f, .int .i64 m] 23) := ⟨_, rfl⟩
  have hb0 : Below w.heap.size w W0 := by rw [hW0]; exact (box2C w e n).alloc (by simp) _
  have hc : W0.cell? ⟨w.heap.size, 0, none⟩ = some (.int .i64 e) ∧ W0.cell? ⟨w.heap.size, 1, none⟩ = some (.int .i64 n) ∧ W0.cell? ⟨w.heap.size + 1, 0, none⟩ = some (.int .i64 f) ∧ W0.cell? ⟨w.heap.size + 1, 1, none⟩ = some (.int .i64 m) := by
    rw [hW0]
    refine ⟨by go_simp, by go_simp, by go_simp, by go_simp⟩
  obtain ⟨c0, c1, c2, c3⟩ := hc
  have HW0 := Lib.hid hW0.symm
  have HB0 := Lib.hid hb0
  clear hW0 hb0
  obtain ⟨R, hR⟩ : ∃ R, R = cmpC e n f m := ⟨_, rfl⟩
  rw [← hR]
  have HC : Hid ((e < f ∨ e = f ∧ n < m → R = -1) ∧ (e = f → n = m → R = 0) ∧ (¬ (e < f ∨ e = f ∧ n < m) → ¬ (e = f ∧ n = m) → R = 1)) := Lib.hid (by
    rw [hR]
    unfold cmpC Lib.compareInt
    refine ⟨fun h => ?_, fun h1 h2 => ?_, fun h1 h2 => ?_⟩ <;> (repeat' split) <;> omega)
  clear hR
  by_cases h1 : e < f
  · have t1 : decide (e < f) = true := by simp [h1]
    have HE := Lib.hid (HC.out.1 (.inl h1))
    go_enter Tryd.func12, Tryd.ntmps12
    go_upto_region 1 with (fail)
    rw [HW0.out]
    go_wp2
    go_ret
    exact ⟨by rw [HE.out]; rfl, HB0.out⟩
  · have t1 : decide (e < f) = false := by simp [h1]
    by_cases h2 : e = f
    · subst h2
      have t2 : decide (e = e) = true := by simp
      have t2' : (e == e) = true := by simp
      by_cases h3 : n < m
      · have t3 : decide (n < m) = true := by simp [h3]
        have HE := Lib.hid (HC.out.1 (.inr ⟨rfl, h3⟩))
        go_enter Tryd.func12, Tryd.ntmps12
        go_upto_region 1 with (fail)
        rw [HW0.out]
        go_wp2
        go_ret
        exact ⟨by rw [HE.out]; rfl, HB0.out⟩
      · have t3 : decide (n < m) = false := by simp [h3]
        by_cases h4 : n = m
        · subst h4
          have t4 : (n == n) = true := by simp
          have HE := Lib.hid (HC.out.2.1 rfl rfl)
          go_enter Tryd.func12, Tryd.ntmps12
          go_upto_region 1 with (fail)
          rw [HW0.out]
          go_wp2
          go_ret
          exact ⟨by rw [HE.out]; rfl, HB0.out⟩
        · have t4 : (n == m) = false := by simpa using h4
          have t5 : decide (n = m) = false := by simpa using h4
          have HE := Lib.hid (HC.out.2.2 (by rintro (h | h); exact h1 h; exact h3 h.2) (fun h => h4 h.2))
          go_enter Tryd.func12, Tryd.ntmps12
          go_upto_region 1 with (fail)
          rw [HW0.out]
          go_wp2
          go_ret
          exact ⟨by rw [HE.out]; rfl, HB0.out⟩
    · have t2 : (e == f) = false := by simpa using h2
      have t3 : decide (e = f) = false := by simpa using h2
      have HE := Lib.hid (HC.out.2.2 (by rintro (h | h); exact h1 h; exact h2 h.1) (fun h => h2 h.1))
      go_enter Tryd.func12, Tryd.ntmps12
      go_upto_region 1 with (fail)
      rw [HW0.out]
      go_wp2
      go_ret
      exact ⟨by rw [HE.out]; rfl, HB0.out⟩
end Go.Proofs.YtppljlegkdjhpaaDoor
