/- Are two names one: the law's Same, walked. -/
import Derived.Test.YtimkobcclkjdeaaUnderW
import Derived.Laws.StructEq
namespace Go.Proofs.Ytimkobcclkjdeaa
open Go.RowKit
set_option linter.unusedVariables false

theorem strV_ne {x y : List UInt8} (h : x ≠ y) : (⟨x.toArray⟩ : ByteArray) ≠ ⟨y.toArray⟩ := by
  intro e
  apply h
  have := congrArg (fun B : ByteArray => B.data.toList) e
  simpa using this

theorem neqR (X Y X' Y' : ByteArray) (w : World) : (binOp .neq 38 (.agg #[.string X, .string Y]) (.agg #[.string X', .string Y'])).run Try.prog w = .ok (.bool (!(decide (X = X' ∧ Y = Y')))) w := by
  have hS : Try.prog.underlying 38 = some (.struct (Try.prog.fieldsOf 38)) := by kernel_rfl
  have u9 := Try.underlying9
  have a9 := Try.isAgg9
  have z9 := Try.sizeOf9
  rw [run_neq_struct, show (10000 : Nat) = 9999 + 1 from rfl, run_equalIn_agg w 9999 38 _ _ hS (by kernel_rfl)]
  simp only [Program.fieldsOf, Try.underlying38]
  have i1 : ∀ A B : ByteArray, (A.toList == B.toList) = decide (A = B) := fun A B => by
    by_cases h : A = B
    · subst h; simp
    · have : ¬ A.toList = B.toList := fun e => h (bytes_ext (by rw [ByteArray.toList_eq, ByteArray.toList_eq] at e; exact e))
      simp [h, this]
  by_cases h1 : X = X'
  · by_cases h2 : Y = Y'
    · subst h1; subst h2
      simp [Op.eqFields, part, a9, z9, run_equalIn_string, u9]
    · have j2 := i1 Y Y'
      simp only [h2] at j2
      subst h1
      simp [Op.eqFields, part, a9, z9, run_equalIn_string, u9, j2, h2]
  · have j1 := i1 X X'
    simp only [h1] at j1
    simp [Op.eqFields, part, a9, z9, run_equalIn_string, u9, j1, h1]

set_option maxRecDepth 100000 in
set_option maxHeartbeats 4000000 in
theorem same_any (l k : List R) (v u : Value) (w : World) (h : IsL w.heap.size w l v) (h' : IsL w.heap.size w k u) :
    Calls Try.prog 16 #[v, u] w fun e w' => e = .returned (.bool (decide (l = k))) ∧ Below w.heap.size w w' := by
  obtain ⟨a, cp, rfl, hm, hcell⟩ := h
  obtain ⟨a', cp', rfl, hm', hcell'⟩ := h'
  unfold maxLen at hm hm'
  have HC := Lib.hid hcell
  have HC' := Lib.hid hcell'
  clear hcell hcell'
  by_cases hlen : l.length = k.length
  · have t0 : ((l.length : Int) != (k.length : Int)) = false := by simp [hlen]
    have t0' : (l.length != k.length) = false := by simp [hlen]
    have t0'' : ((l.length : Int) == (k.length : Int)) = true := by simp [hlen]
    have HLen := Lib.hid hlen
    have hle : l.length ≤ k.length := by omega
    have hge : k.length ≤ l.length := by omega
    clear hlen
    go_enter Try.func16, Try.ntmps16
    go_wp2
    clear t0 t0' t0''
    go_loopw [5] (fun i wr => ∃ j : Nat, j ≤ l.length ∧ i = .int .i64 j ∧ l.take j = k.take j ∧ Below w.heap.size w wr) (fun i _ => l.length - (intOf i).toNat)
    case atStart => exact ⟨0, by omega, rfl, by simp, Below.refl _ _⟩
    case round =>
      obtain ⟨j, hj, rfl, htk, hbel⟩ := hrel
      have HBel := Lib.hid hbel
      by_cases hlt : j < l.length
      · have t1 : decide ((j : Int) < (l.length : Int)) = true := by simp; omega
        have t1' : decide (j < l.length) = true := by simpa using hlt
        have hlt' : j < k.length := by omega
        obtain ⟨b, off, rfl, hbw, c0, c1⟩ := HC.out j hlt
        obtain ⟨b', off', rfl, hbw', c0', c1'⟩ := HC'.out j hlt'
        obtain ⟨X, hX⟩ : ∃ X : ByteArray, X = ⟨l[j].1.toArray⟩ := ⟨_, rfl⟩
        obtain ⟨Y, hY⟩ : ∃ Y : ByteArray, Y = ⟨l[j].2.toArray⟩ := ⟨_, rfl⟩
        obtain ⟨X', hX'⟩ : ∃ X : ByteArray, X = ⟨k[j].1.toArray⟩ := ⟨_, rfl⟩
        obtain ⟨Y', hY'⟩ : ∃ Y : ByteArray, Y = ⟨k[j].2.toArray⟩ := ⟨_, rfl⟩
        have d0 : wr.cell? ⟨b, off + j * 2, none⟩ = some (.string X) := by rw [hbel.cell (p := ⟨b, _, none⟩) hbw, c0, hX]; rfl
        have d1 : wr.cell? ⟨b, off + j * 2 + 1, none⟩ = some (.string Y) := by rw [hbel.cell (p := ⟨b, _, none⟩) hbw, c1, hY]; rfl
        have d0' : wr.cell? ⟨b', off' + j * 2, none⟩ = some (.string X') := by rw [hbel.cell (p := ⟨b', _, none⟩) hbw', c0', hX']; rfl
        have d1' : wr.cell? ⟨b', off' + j * 2 + 1, none⟩ = some (.string Y') := by rw [hbel.cell (p := ⟨b', _, none⟩) hbw', c1', hY']; rfl
        have hXl : X.data.toList = l[j].1 := by rw [hX]
        have hYl : Y.data.toList = l[j].2 := by rw [hY]
        have hXl' : X'.data.toList = k[j].1 := by rw [hX']
        have hYl' : Y'.data.toList = k[j].2 := by rw [hY']
        have q1 : (j : Int) < (l.length : Int) := by omega
        have q2 : (j : Int) < (k.length : Int) := by omega
        have hk1 : l.take (j + 1) = l.take j ++ [l[j]] := by rw [List.take_succ_eq_append_getElem hlt]
        have hk2 : k.take (j + 1) = k.take j ++ [k[j]] := by rw [List.take_succ_eq_append_getElem hlt']
        have hnq := neqR X Y X' Y'
        by_cases he : X = X' ∧ Y = Y'
        · have hnx : l.take (j + 1) = k.take (j + 1) := by
            rw [hk1, hk2, htk]
            congr 2
            exact Prod.ext (by rw [← hXl, ← hXl', he.1]) (by rw [← hYl, ← hYl', he.2])
          have HNx := Lib.hid hnx
          rw [decide_eq_true he] at hnq
          clear c0 c1 c0' c1' hX hY hX' hY' hbel htk hXl hYl hXl' hYl' he hnx hk1 hk2
          go_wp2
          go_quiet (fail)
          go_wp2
          go_roundw
          case rel => exact ⟨j + 1, by omega, by go_num, HNx.out, HBel.out.trans ⟨rfl, rfl, rfl, Nat.le_refl _, fun _ _ => rfl⟩⟩
          case measure => simp [intOf]; omega
        · have hno : decide (l = k) = false := by
            simp only [decide_eq_false_iff_not]
            rintro rfl
            exact he ⟨bytes_ext (by rw [hXl, hXl']), bytes_ext (by rw [hYl, hYl'])⟩
          have HNo := Lib.hid hno
          rw [decide_eq_false he] at hnq
          clear c0 c1 c0' c1' hX hY hX' hY' hbel htk hXl hYl hXl' hYl' he hno hk1 hk2
          go_wp2
          go_quiet (fail)
          go_wp2
          go_ret
          rw [HNo.out]
          exact ⟨rfl, HBel.out.trans ⟨rfl, rfl, rfl, Nat.le_refl _, fun _ _ => rfl⟩⟩
      · obtain rfl : j = l.length := by omega
        have t1 : decide ((l.length : Int) < (l.length : Int)) = false := by simp
        have t1' : decide (l.length < l.length) = false := by simp
        have hyes : decide (l = k) = true := by
          simp only [decide_eq_true_eq]
          rw [List.take_length, HLen.out, List.take_length] at htk
          exact htk
        have HYes := Lib.hid hyes
        clear hbel htk hyes
        go_wp2
        go_ret
        rw [HYes.out]
        exact ⟨rfl, HBel.out⟩
  · have hno : decide (l = k) = false := by
      simp only [decide_eq_false_iff_not]
      rintro rfl
      exact hlen rfl
    have t0 : ((l.length : Int) != (k.length : Int)) = true := by simp; omega
    have t0' : (l.length != k.length) = true := by simpa using hlen
    have t0'' : ((l.length : Int) == (k.length : Int)) = false := by simp; omega
    rw [hno]
    clear hno hlen
    go_enter Try.func16, Try.ntmps16
    go_wp2
    go_ret
    exact ⟨rfl, Below.refl _ _⟩
end Go.Proofs.Ytimkobcclkjdeaa
