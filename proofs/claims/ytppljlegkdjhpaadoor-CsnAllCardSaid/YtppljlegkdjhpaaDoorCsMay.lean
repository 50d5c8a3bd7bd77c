/- Which numbers of changes may be: the walks. -/
import Derived.Test.YtppljlegkdjhpaaDoorCsPure
import Derived.Test.YtppljlegkdjhpaaDoorDnOwn
namespace Go.Proofs.YtppljlegkdjhpaaDoor
open Go.RowKit
set_option linter.unusedVariables false
set_option linter.unusedSimpArgs false

set_option maxRecDepth 100000 in
theorem within_any (n : Int) (w : World) : Calls Tryd.prog 20 #[.int .i64 n] w fun e w' => e = .returned (.bool (inC n)) ∧ w' = w := by
  unfold inC
  by_cases h0 : 0 ≤ n
  · have t0 : decide (0 ≤ n) = true := by simp [h0]
    rw [t0]
    by_cases h1 : n ≤ 4503599627370496
    · have t1 : decide (n ≤ 4503599627370496) = true := by simp [h1]
      rw [t1]
      go_enter Tryd.func20, Tryd.ntmps20
      go_wp2
      go_ret
      exact ⟨rfl, rfl⟩
    · have t1 : decide (n ≤ 4503599627370496) = false := by simp [h1]
      rw [t1]
      go_enter Tryd.func20, Tryd.ntmps20
      go_wp2
      go_ret
      exact ⟨rfl, rfl⟩
  · have t0 : decide (0 ≤ n) = false := by simp [h0]
    rw [t0]
    go_enter Tryd.func20, Tryd.ntmps20
    go_wp2
    go_ret
    exact ⟨rfl, rfl⟩

theorem box2C (w : World) (e n : Int) : Below w.heap.size w (w.alloc (.cells #[.int .i64 e, .int .i64 n] 23)) := (Below.refl _ _).alloc (Nat.le_refl _) _

set_option maxRecDepth 100000 in
theorem mayC_any (e n : Int) (w : World) : Calls Tryd.prog 9 #[.agg #[.int .i64 e, .int .i64 n]] w fun x w' => x = .returned (.bool (mayN e n)) ∧ Below w.heap.size w w' := by
  have hb := box2C w e n
  have h1 := fun W => within_any e W
  have h2 := fun W => within_any n W
  unfold mayN
  cases hq : inC e with
  | true =>
    rw [hq] at h1
    obtain ⟨R, hR⟩ : ∃ R, R = inC n := ⟨_, rfl⟩
    rw [← hR] at h2 ⊢
    have H1 := Lib.hid h1
    have H2 := Lib.hid h2
    have HB := Lib.hid hb
    have tok1 : True := trivial
    clear h1 h2 hb hq hR
    go_enter Tryd.func9, Tryd.ntmps9
    go_wp2_with (first
      | (have _t := tok1; go_at_call 20; refine (H1.out _).mono ?_; rintro e w2 ⟨rfl, rfl⟩; clear tok1)
      | (go_at_call 20; refine (H2.out _).mono ?_; rintro e w2 ⟨rfl, rfl⟩))
    go_ret
    exact ⟨rfl, HB.out⟩
  | false =>
    rw [hq] at h1
    have H1 := Lib.hid h1
    have HB := Lib.hid hb
    clear h1 h2 hb hq
    go_enter Tryd.func9, Tryd.ntmps9
    go_wp2_with (go_at_call 20; refine (H1.out _).mono ?_; rintro e w2 ⟨rfl, rfl⟩)
    go_ret
    exact ⟨rfl, HB.out⟩

set_option maxRecDepth 100000 in
theorem mayR_any (e n : Int) (w : World) : Calls Tryd.prog 10 #[.agg #[.int .i64 e, .int .i64 n]] w fun x w' => x = .returned (.bool (mayN e n)) ∧ Below w.heap.size w w' := by
  have hb := box2C w e n
  have HB := Lib.hid hb
  unfold mayN inC
  clear hb
  by_cases h0 : 0 ≤ e
  · have t0 : decide (0 ≤ e) = true := by simp [h0]
    rw [t0]
    by_cases h1 : e ≤ 4503599627370496
    · have t1 : decide (e ≤ 4503599627370496) = true := by simp [h1]
      rw [t1]
      by_cases h2 : 0 ≤ n
      · have t2 : decide (0 ≤ n) = true := by simp [h2]
        rw [t2]
        by_cases h3 : n ≤ 4503599627370496
        · have t3 : decide (n ≤ 4503599627370496) = true := by simp [h3]
          rw [t3]
          go_enter Tryd.func10, Tryd.ntmps10
          go_wp2
          go_ret
          exact ⟨rfl, HB.out⟩
        · have t3 : decide (n ≤ 4503599627370496) = false := by simp [h3]
          rw [t3]
          go_enter Tryd.func10, Tryd.ntmps10
          go_wp2
          go_ret
          exact ⟨rfl, HB.out⟩
      · have t2 : decide (0 ≤ n) = false := by simp [h2]
        rw [t2]
        go_enter Tryd.func10, Tryd.ntmps10
        go_wp2
        go_ret
        exact ⟨rfl, HB.out⟩
    · have t1 : decide (e ≤ 4503599627370496) = false := by simp [h1]
      rw [t1]
      go_enter Tryd.func10, Tryd.ntmps10
      go_wp2
      go_ret
      exact ⟨rfl, HB.out⟩
  · have t0 : decide (0 ≤ e) = false := by simp [h0]
    rw [t0]
    go_enter Tryd.func10, Tryd.ntmps10
    go_wp2
    go_ret
    exact ⟨rfl, HB.out⟩
end Go.Proofs.YtppljlegkdjhpaaDoor
