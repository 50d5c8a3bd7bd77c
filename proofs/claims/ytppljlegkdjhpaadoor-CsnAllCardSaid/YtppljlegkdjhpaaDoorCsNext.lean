/- How two numbers of changes stand, and what comes next: the walks. -/
import Derived.Test.YtppljlegkdjhpaaDoorCsMay
import Derived.Test.YtppljlegkdjhpaaDoorShelf
import Derived.Laws.LoneSync
import Derived.Laws.Externs
import Derived.Deep.RegionHeld3
import Derived.Deep.RegionLaw
import Derived.Deep.Cut
import Derived.RegionTactic
namespace Go.Proofs.YtppljlegkdjhpaaDoor
open Go.RowKit
set_option linter.unusedVariables false
set_option linter.unusedSimpArgs false

theorem cmpI_any (x y : Int) (w : World) : Calls Tryd.prog 22 #[.int .i64 x, .int .i64 y] w fun e w' => e = .returned (.int .i64 (Lib.compareInt x y)) ∧ w' = w := Tryd.cmp_Compare_int x y w
def orI (x y : Int) : Int := if x = 0 then y else x
set_option maxRecDepth 100000 in
theorem orI_any (x y : Int) (b o : Nat) (w : World) (h0 : w.cell? ⟨b, o, none⟩ = some (.int .i64 x)) (h1 : w.cell? ⟨b, o + 1, none⟩ = some (.int .i64 y)) : Calls Tryd.prog 21 #[.slice (some ⟨b, o, none⟩) 2 2] w fun e w' => e = .returned (.int .i64 (orI x y)) ∧ w' = w := by
  unfold orI
  by_cases hx : x = 0
  · subst hx
    rw [if_pos rfl]
    by_cases hy : y = 0
    · subst hy
      go_enter Tryd.func21, Tryd.ntmps21
      go_wp2
      go_loopw [8] (fun i wr => ∃ j : Nat, j ≤ 2 ∧ i = .int .i64 j ∧ Hid (w = wr)) (fun i _ => 2 - (intOf i).toNat)
      case atStart => exact ⟨0, by omega, rfl, Lib.hid rfl⟩
      case round =>
        obtain ⟨j, hj, rfl, hwr⟩ := hrel
        have hwr := hwr.out
        subst hwr
        rcases (show j = 0 ∨ j = 1 ∨ j = 2 from by omega) with rfl | rfl | rfl
        · go_wp2
          go_roundw
          case rel => exact ⟨1, by omega, rfl, Lib.hid (by trivial)⟩
          case measure => simp [intOf]
        · go_wp2
          go_roundw
          case rel => exact ⟨2, by omega, rfl, Lib.hid (by trivial)⟩
          case measure => simp [intOf]
        · go_wp2
          go_ret
          exact ⟨rfl, rfl⟩
    · have t1 : (y == 0) = false := by simpa using hy
      have t2 : decide (y = 0) = false := by simpa using hy
      go_enter Tryd.func21, Tryd.ntmps21
      go_wp2
      go_loopw [8] (fun i wr => ∃ j : Nat, j ≤ 1 ∧ i = .int .i64 j ∧ Hid (w = wr)) (fun i _ => 2 - (intOf i).toNat)
      case atStart => exact ⟨0, by omega, rfl, Lib.hid rfl⟩
      case round =>
        obtain ⟨j, hj, rfl, hwr⟩ := hrel
        have hwr := hwr.out
        subst hwr
        rcases (show j = 0 ∨ j = 1 from by omega) with rfl | rfl
        · go_wp2
          go_roundw
          case rel => exact ⟨1, by omega, rfl, Lib.hid (by trivial)⟩
          case measure => simp [intOf]
        · go_wp2
          go_ret
          exact ⟨rfl, rfl⟩
  · rw [if_neg hx]
    have t1 : (x == 0) = false := by simpa using hx
    have t2 : decide (x = 0) = false := by simpa using hx
    go_enter Tryd.func21, Tryd.ntmps21
    go_wp2
    go_loopw [8] (fun i wr => i = .int .i64 0 ∧ Hid (w = wr)) (fun i _ => 2 - (intOf i).toNat)
    case atStart => exact ⟨rfl, Lib.hid rfl⟩
    case round =>
      obtain ⟨rfl, hwr⟩ := hrel
      have hwr := hwr.out
      subst hwr
      go_wp2
      go_ret
      exact ⟨rfl, rfl⟩

set_option maxRecDepth 100000 in
set_option maxHeartbeats 2000000 in
theorem cmpP_any (e n f m : Int) (w : World) : Calls Tryd.prog 11 #[.agg #[.int .i64 e, .int .i64 n], .agg #[.int .i64 f, .int .i64 m]] w fun x w' => x = .returned (.int .i64 (cmpC e n f m)) ∧ Below w.heap.size w w' := by
  obtain ⟨W0, hW0⟩ : ∃ W, W = (w.alloc (.cells #[.int .i64 e, .int .i64 n] 23)).alloc (.cells #[.int .i64 f, .int .i64 m] 23) := ⟨_, rfl⟩
  have hb0 : Below w.heap.size w W0 := by rw [hW0]; exact (box2C w e n).alloc (by simp) _
  have hc : W0.cell? ⟨w.heap.size, 0, none⟩ = some (.int .i64 e) ∧ W0.cell? ⟨w.heap.size, 1, none⟩ = some (.int .i64 n) ∧ W0.cell? ⟨w.heap.size + 1, 0, none⟩ = some (.int .i64 f) ∧ W0.cell? ⟨w.heap.size + 1, 1, none⟩ = some (.int .i64 m) := by
    rw [hW0]
    refine ⟨by go_simp, by go_simp, by go_simp, by go_simp⟩
  obtain ⟨c0, c1, c2, c3⟩ := hc
  have HW0 := Lib.hid hW0.symm
  have HB0 := Lib.hid hb0
  have hx := cmpI_any e f
  have hy := cmpI_any n m
  have hr : cmpC e n f m = orI (Lib.compareInt e f) (Lib.compareInt n m) := rfl
  rw [hr]
  generalize Lib.compareInt e f = X at hx ⊢
  generalize Lib.compareInt n m = Y at hy ⊢
  have HX := Lib.hid hx
  have HY := Lib.hid hy
  clear hW0 hb0 hx hy hr
  go_enter Tryd.func11, Tryd.ntmps11
  go_upto_region 1 with (fail)
  rw [HW0.out]
  go_region_law (first
      | (go_simp; go_at_call 22; (with_reducible refine (HX.out _).mono ?_); rintro x wx ⟨rfl, rfl⟩)
      | (go_simp; go_at_call 22; (with_reducible refine (HY.out _).mono ?_); rintro x wx ⟨rfl, rfl⟩)
      | (go_simp; go_at_call 21; refine (orI_any X Y _ _ _ (by go_simp) (by go_simp)).mono ?_; rintro x wx ⟨rfl, rfl⟩))
  all_goals
    have hbe : Below w.heap.size w (W0.alloc (.cells #[.int .i64 X, .int .i64 Y] 3)).drew := bthen HB0.out (((Below.refl W0.heap.size W0).alloc (Nat.le_refl _) _).drew)
    go_wp2
    go_ret
    exact ⟨rfl, hbe⟩

/-! ### What comes next -/
theorem store_any (b o : Nat) (x : Int) (u : Value) (w : World) (h : w.cell? ⟨b, o, none⟩ = some u) (hz : w.frozen? ⟨b, o, none⟩ = false) : Calls Tryd.prog 31 #[.pointer (some ⟨b, o, none⟩), .int .i64 x] w fun e w' => e = .returned (.tuple #[]) ∧ w' = w.setCell ⟨b, o, none⟩ (.int .i64 x) := by
  have hl := run_call_store (P := Tryd.prog) Tryd.func37 (by kernel_rfl) (by kernel_rfl) (by kernel_rfl) (k := .i64) (y := x) (by kernel_rfl) (a := ⟨b, o, none⟩) (w := w) h hz
  go_enter Tryd.func31, Tryd.ntmps31
  go_wp2
  go_end0
  exact ⟨rfl, rfl⟩
theorem addC_any (b o : Nat) (x : Int) (w : World) (h : w.cell? ⟨b, o, none⟩ = some (.int .i64 x)) (hz : w.frozen? ⟨b, o, none⟩ = false) : Calls Tryd.prog 32 #[.pointer (some ⟨b, o, none⟩), .int .i64 1] w fun e w' => e = .returned (.int .i64 (IntKind.i64.wrap (x + 1))) ∧ w' = w.setCell ⟨b, o, none⟩ (.int .i64 (IntKind.i64.wrap (x + 1))) := by
  obtain ⟨s, hs⟩ : ∃ s, s = IntKind.i64.wrap (x + 1) := ⟨_, rfl⟩
  have hl := run_call_add (P := Tryd.prog) Tryd.func38 (by kernel_rfl) (by kernel_rfl) (by kernel_rfl) .i64 (by kernel_rfl) (a := ⟨b, o, none⟩) (x := x) (y := 1) (s := s) (w := w) h hz (by rw [hs]; rfl)
  rw [← hs]
  have HS := Lib.hid hs
  clear hs
  go_enter Tryd.func32, Tryd.ntmps32
  go_wp2
  go_ret
  exact ⟨rfl, rfl⟩
set_option maxRecDepth 100000 in
set_option maxHeartbeats 2000000 in
theorem behind_any (e n : Int) (w : World) : Calls Tryd.prog 25 #[.agg #[.int .i64 e, .int .i64 n]] w fun x w' => ∃ t, x = .returned (.pointer (some ⟨t, 0, none⟩)) ∧ w.heap.size ≤ t ∧ w'.cell? ⟨t, 0, none⟩ = some (.int .i64 n) ∧ w'.frozen? ⟨t, 0, none⟩ = false ∧ Below w.heap.size w w' := by
  obtain ⟨W0, hW0⟩ : ∃ W, W = w.alloc (.cells #[.int .i64 e, .int .i64 n] 23) := ⟨_, rfl⟩
  have hb0 : Below w.heap.size w W0 := by rw [hW0]; exact box2C w e n
  have hc : W0.cell? ⟨w.heap.size, 1, none⟩ = some (.int .i64 n) := by rw [hW0]; go_simp
  have hs0 : W0.heap.size = w.heap.size + 1 := by rw [hW0]; go_simp
  obtain ⟨W1, hW1⟩ : ∃ W, W = W0.alloc (.cells #[.int .i64 0] 65) := ⟨_, rfl⟩
  have hb1 : Below W0.heap.size W0 W1 := by rw [hW1]; exact (Below.refl _ _).alloc (Nat.le_refl _) _
  obtain ⟨t, ht⟩ : ∃ t, t = W0.heap.size := ⟨_, rfl⟩
  have c0 : W1.cell? ⟨t, 0, none⟩ = some (.int .i64 0) := by rw [hW1, ht]; go_simp
  have c1 : W1.frozen? ⟨t, 0, none⟩ = false := by rw [hW1, ht]; go_simp
  have c2 : W1.cell? ⟨w.heap.size, 1, none⟩ = some (.int .i64 n) := by
    rw [← hc]
    exact hb1.cell (p := ⟨w.heap.size, 1, none⟩) (by show w.heap.size < W0.heap.size; omega)
  have HW0 := Lib.hid hW0.symm
  have HW1 := Lib.hid hW1.symm
  have HT := Lib.hid ht.symm
  have HB1 := Lib.hid (bthen hb0 hb1)
  have HS := Lib.hid hs0
  clear hW0 hb0 hc hW1 hb1 ht hs0
  go_enter Tryd.func25, Tryd.ntmps25
  go_upto_region 1 with (fail)
  rw [HW0.out]
  go_upto_region 2 with (fail)
  rw [HW1.out, HT.out]
  go_region_law (go_simp; go_at_call 31; refine (store_any t 0 n (.int .i64 0) _ (by assumption) (by assumption)).mono ?_; rintro x wx ⟨rfl, rfl⟩)
  all_goals
    have hbe : Below w.heap.size w (W1.setCell ⟨t, 0, none⟩ (.int .i64 n)).drew := ((HB1.out).setCell (by show w.heap.size ≤ t; have := HT.out; have := HS.out; omega) _).drew
    have hce : (W1.setCell ⟨t, 0, none⟩ (.int .i64 n)).drew.cell? ⟨t, 0, none⟩ = some (.int .i64 n) := World.cell?_setCell_same _ _ _ c0
    have hfe : (W1.setCell ⟨t, 0, none⟩ (.int .i64 n)).drew.frozen? ⟨t, 0, none⟩ = false := (World.frozen?_setCell ..).trans c1
    go_wp2
    go_ret
    exact ⟨t, rfl, by have := HT.out; have := HS.out; omega, hce, hfe, hbe⟩
set_option maxRecDepth 100000 in
set_option maxHeartbeats 2000000 in
theorem nextT_any (t : Nat) (n ep : Int) (B : Nat) (w : World) (hB : B ≤ t) (hB2 : B ≤ w.heap.size) (h : w.cell? ⟨t, 0, none⟩ = some (.int .i64 n)) (hz : w.frozen? ⟨t, 0, none⟩ = false) :
    Calls Tryd.prog 26 #[.pointer (some ⟨t, 0, none⟩), .int .i64 ep] w fun x w' => x = .returned (.agg #[.int .i64 ep, .int .i64 (IntKind.i64.wrap (n + 1))]) ∧ Below B w w' := by
  obtain ⟨s, hs⟩ : ∃ s, s = IntKind.i64.wrap (n + 1) := ⟨_, rfl⟩
  obtain ⟨W0, hW0⟩ : ∃ W, W = w.alloc (.cells #[.int .i64 0, .int .i64 0] 23) := ⟨_, rfl⟩
  have ht : t < w.heap.size := by
    rcases Nat.lt_or_ge t w.heap.size with h1 | h1
    · exact h1
    · have hx : w.heap[t]? = none := Array.getElem?_eq_none h1
      simp only [World.cell?, hx] at h
      cases h
  have hb0 : Below w.heap.size w W0 := by rw [hW0]; exact (Below.refl _ _).alloc (Nat.le_refl _) _
  have c0 : W0.cell? ⟨t, 0, none⟩ = some (.int .i64 n) := (hb0.cell (p := ⟨t, 0, none⟩) ht).trans h
  have c1 : W0.frozen? ⟨t, 0, none⟩ = false := (hb0.frozen (p := ⟨t, 0, none⟩) ht).trans hz
  have r0 : W0.cell? ⟨w.heap.size, 0, none⟩ = some (.int .i64 0) := by rw [hW0]; go_simp
  have r1 : W0.cell? ⟨w.heap.size, 1, none⟩ = some (.int .i64 0) := by rw [hW0]; go_simp
  have f0 : W0.frozen? ⟨w.heap.size, 0, none⟩ = false := by rw [hW0]; go_simp
  have f1 : W0.frozen? ⟨w.heap.size, 1, none⟩ = false := by rw [hW0]; go_simp
  obtain ⟨W1, hW1⟩ : ∃ W, W = W0.setCell ⟨t, 0, none⟩ (.int .i64 s) := ⟨_, rfl⟩
  have oth : ∀ o, W1.cell? ⟨w.heap.size, o, none⟩ = W0.cell? ⟨w.heap.size, o, none⟩ ∧ W1.frozen? ⟨w.heap.size, o, none⟩ = W0.frozen? ⟨w.heap.size, o, none⟩ := fun o => by
    rw [hW1]
    exact ⟨World.cell?_setCell_other _ _ _ _ (fun e => by have := congrArg Addr.block e; simp at this; omega), World.frozen?_setCell ..⟩
  have r0' := (oth 0).1.trans r0
  have r1' := (oth 1).1.trans r1
  have f0' := (oth 0).2.trans f0
  have f1' := (oth 1).2.trans f1
  have hb1 : Below B w W1 := by rw [hW1]; exact (hb0.mono hB2).setCell hB _
  have ha := fun W (hc : W.cell? ⟨t, 0, none⟩ = some (.int .i64 n)) (hf : W.frozen? ⟨t, 0, none⟩ = false) => addC_any t 0 n W hc hf
  rw [← hs] at ha ⊢
  have HA := Lib.hid ha
  have HW0 := Lib.hid hW0.symm
  have HW1 := Lib.hid hW1.symm
  have HB := Lib.hid hb1
  have hB2' := Lib.hid hB2
  clear hs hW0 ht hb0 h hz r0 r1 f0 f1 hW1 oth hb1 ha hB2
  go_enter Tryd.func26, Tryd.ntmps26
  go_upto_region 1 with (fail)
  rw [HW0.out]
  go_wp2_with (go_at_call 32; refine (HA.out _ c0 c1).mono ?_; rintro x wx ⟨rfl, rfl⟩; rw [HW1.out])
  refine bodyPost_ret (v := .agg #[.int .i64 ep, .int .i64 s]) (by simp [results, Tryd.results26, go_sem, r0', r1']) rfl ⟨rfl, (HB.out.setCell hB2'.out _).setCell hB2'.out _⟩
set_option maxRecDepth 100000 in
set_option maxHeartbeats 2000000 in
theorem nextC_any (e n ep : Int) (w : World) : Calls Tryd.prog 15 #[.agg #[.int .i64 e, .int .i64 n], .int .i64 ep] w fun x w' => x = .returned (.agg #[.int .i64 ep, .int .i64 (IntKind.i64.wrap (n + 1))]) ∧ Below w.heap.size w w' := by
  obtain ⟨s, hs⟩ : ∃ s, s = IntKind.i64.wrap (n + 1) := ⟨_, rfl⟩
  obtain ⟨W0, hW0⟩ : ∃ W, W = (w.alloc (.cells #[.int .i64 e, .int .i64 n] 23)).alloc (.cells #[.int .i64 0, .int .i64 0] 23) := ⟨_, rfl⟩
  have hb0 : Below w.heap.size w W0 := by rw [hW0]; exact (box2C w e n).alloc (by simp) _
  have hz : W0.heap.size = w.heap.size + 2 := by rw [hW0]; go_simp
  obtain ⟨r, hr⟩ : ∃ r, r = w.heap.size + 1 := ⟨_, rfl⟩
  have c0 : W0.cell? ⟨w.heap.size, 0, none⟩ = some (.int .i64 e) := by rw [hW0]; go_simp
  have c1 : W0.cell? ⟨w.heap.size, 1, none⟩ = some (.int .i64 n) := by rw [hW0]; go_simp
  have r0 : W0.cell? ⟨r, 0, none⟩ = some (.int .i64 0) := by rw [hW0, hr]; go_simp
  have r1 : W0.cell? ⟨r, 1, none⟩ = some (.int .i64 0) := by rw [hW0, hr]; go_simp
  have f0 : W0.frozen? ⟨r, 0, none⟩ = false := by rw [hW0, hr]; go_simp
  have f1 : W0.frozen? ⟨r, 1, none⟩ = false := by rw [hW0, hr]; go_simp
  have hbh := behind_any e n W0
  have hnx := fun (t : Nat) (W : World) (ht : W0.heap.size ≤ t) (hB : W0.heap.size ≤ W.heap.size) => nextT_any t n ep W0.heap.size W ht hB
  rw [← hs] at hnx ⊢
  have hkeep : ∀ W, Below W0.heap.size W0 W → W.cell? ⟨r, 0, none⟩ = some (.int .i64 0) ∧ W.cell? ⟨r, 1, none⟩ = some (.int .i64 0) ∧ W.frozen? ⟨r, 0, none⟩ = false ∧ W.frozen? ⟨r, 1, none⟩ = false := fun W hb =>
    ⟨(hb.cell (p := ⟨r, 0, none⟩) (by show r < W0.heap.size; omega)).trans r0, (hb.cell (p := ⟨r, 1, none⟩) (by show r < W0.heap.size; omega)).trans r1, (hb.frozen (p := ⟨r, 0, none⟩) (by show r < W0.heap.size; omega)).trans f0, (hb.frozen (p := ⟨r, 1, none⟩) (by show r < W0.heap.size; omega)).trans f1⟩
  have hrl : w.heap.size ≤ r := by omega
  have HRL := Lib.hid hrl
  have HK := Lib.hid hkeep
  have HBh := Lib.hid hbh
  have HNx := Lib.hid hnx
  have HW0 := Lib.hid hW0.symm
  have HB := Lib.hid hb0
  have HR := Lib.hid hr.symm
  clear hs hW0 hb0 hz r0 r1 f0 f1 hbh hnx hkeep hrl hr
  go_enter Tryd.func15, Tryd.ntmps15
  go_upto_region 1 with (fail)
  rw [HW0.out, HR.out]
  go_wp2_with (first
    | (go_at_call 25; refine (HBh.out).mono ?_; rintro x w2 ⟨t, rfl, ht, hc, hf, hb2⟩; have HT := Lib.hid ht; have HC := Lib.hid hc; have HF := Lib.hid hf; have HB2 := Lib.hid hb2; clear ht hc hf hb2)
    | (go_at_call 26; refine (HNx.out t _ HT.out HB2.out.size HC.out HF.out).mono ?_; rintro x w3 ⟨rfl, hb3⟩; have HB3 := Lib.hid (HB2.out.trans hb3); (obtain ⟨k0, k1, k2, k3⟩ := HK.out _ HB3.out); clear hb3))
  refine bodyPost_ret (v := .agg #[.int .i64 ep, .int .i64 s]) (by simp [results, Tryd.results15, go_sem, k0, k1]) rfl ⟨rfl, ((bthen HB.out HB3.out).setCell HRL.out _).setCell HRL.out _⟩
set_option maxRecDepth 100000 in
theorem nextR_any (e n ep : Int) (w : World) : Calls Tryd.prog 16 #[.agg #[.int .i64 e, .int .i64 n], .int .i64 ep] w fun x w' => x = .returned (.agg #[.int .i64 ep, .int .i64 (IntKind.i64.wrap (n + 1))]) ∧ Below w.heap.size w w' := by
  obtain ⟨s, hs⟩ : ∃ s, s = IntKind.i64.wrap (n + 1) := ⟨_, rfl⟩
  obtain ⟨W0, hW0⟩ : ∃ W, W = (w.alloc (.cells #[.int .i64 e, .int .i64 n] 23)).alloc (.cells #[.int .i64 0, .int .i64 0] 23) := ⟨_, rfl⟩
  have hb0 : Below w.heap.size w W0 := by rw [hW0]; exact (box2C w e n).alloc (by simp) _
  obtain ⟨r, hr⟩ : ∃ r, r = w.heap.size + 1 := ⟨_, rfl⟩
  have c0 : W0.cell? ⟨w.heap.size, 0, none⟩ = some (.int .i64 e) := by rw [hW0]; go_simp
  have c1 : W0.cell? ⟨w.heap.size, 1, none⟩ = some (.int .i64 n) := by rw [hW0]; go_simp
  have r0 : W0.cell? ⟨r, 0, none⟩ = some (.int .i64 0) := by rw [hW0, hr]; go_simp
  have r1 : W0.cell? ⟨r, 1, none⟩ = some (.int .i64 0) := by rw [hW0, hr]; go_simp
  have f0 : W0.frozen? ⟨r, 0, none⟩ = false := by rw [hW0, hr]; go_simp
  have f1 : W0.frozen? ⟨r, 1, none⟩ = false := by rw [hW0, hr]; go_simp
  have hrl : w.heap.size ≤ r := by omega
  have HRL := Lib.hid hrl
  have HW0 := Lib.hid hW0.symm
  have HB := Lib.hid hb0
  have HR := Lib.hid hr.symm
  have hw : wrap64 (n + 1) = s := by rw [hs]; exact (IntWalk.i64_left _).symm
  rw [← hs]
  clear hs hW0 hb0 hrl hr
  go_enter Tryd.func16, Tryd.ntmps16
  go_upto_region 1 with (fail)
  rw [HW0.out, HR.out]
  go_wp2
  refine bodyPost_ret (v := .agg #[.int .i64 ep, .int .i64 s]) (by simp [results, Tryd.results16, go_sem, r0, r1]) rfl ⟨rfl, ((HB.out).setCell HRL.out _).setCell HRL.out _⟩
end Go.Proofs.YtppljlegkdjhpaaDoor
