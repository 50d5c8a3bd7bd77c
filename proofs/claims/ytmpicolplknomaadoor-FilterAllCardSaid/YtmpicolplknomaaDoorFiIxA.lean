/- strings.IndexRune, strings.IndexAny on whatever bytes: the walks. -/
import Derived.Test.YtmpicolplknomaaDoorFiVal
import Derived.Test.YtmpicolplknomaaDoorShelf
import Derived.Lib.IndexAny
import Derived.Lib.OthersKept
import Derived.Deep.LoopGhost
namespace Go.Proofs.YtmpicolplknomaaDoor
open Go.RowKit
set_option linter.unusedVariables false
set_option linter.unusedSimpArgs false

set_option maxHeartbeats 2000000 in
theorem validRune_any (r : Nat) (hr : r ≤ 2147483647) (w : World) : Calls Tryd.prog 78 #[.int .i32 r] w fun e w' => e = .returned (.bool (Utf8.valid r)) ∧ w = w' := by
  have h0 : decide ((0 : Int) ≤ (r : Int)) = true := by simp
  by_cases h1 : r < 55296
  · have t1 : decide ((r : Int) < 55296) = true := by simp; omega
    have hv : Utf8.valid r = true := by unfold Utf8.valid; simp; left; omega
    rw [hv]
    clear hv
    go_enter Tryd.func78, Tryd.ntmps78
    go_wp2
    go_ret
    exact ⟨rfl, rfl⟩
  · have t1 : decide ((r : Int) < 55296) = false := by simp; omega
    by_cases h2 : 57343 < r
    · have t2 : decide ((57343 : Int) < (r : Int)) = true := by simp; omega
      by_cases h3 : r ≤ 1114111
      · have t3 : decide ((r : Int) ≤ 1114111) = true := by simp; omega
        have hv : Utf8.valid r = true := by unfold Utf8.valid; simp; right; omega
        rw [hv]
        clear hv
        go_enter Tryd.func78, Tryd.ntmps78
        go_wp2
        go_ret
        exact ⟨rfl, rfl⟩
      · have t3 : decide ((r : Int) ≤ 1114111) = false := by simp; omega
        have hv : Utf8.valid r = false := by unfold Utf8.valid; simp; omega
        rw [hv]
        clear hv
        go_enter Tryd.func78, Tryd.ntmps78
        go_wp2
        go_ret
        exact ⟨rfl, rfl⟩
    · have t2 : decide ((57343 : Int) < (r : Int)) = false := by simp; omega
      have hv : Utf8.valid r = false := by unfold Utf8.valid; simp; omega
      rw [hv]
      clear hv
      go_enter Tryd.func78, Tryd.ntmps78
      go_wp2
      go_ret
      exact ⟨rfl, rfl⟩

theorem ofNat_high {k : Nat} (h : 128 ≤ k) (h2 : k < 256) : 128 ≤ (UInt8.ofNat k).toNat := by simp; omega
theorem encode_cases (r : Nat) (h : 128 ≤ r) (hv : Utf8.valid r = true) : (∃ x y, Utf8.encode r = ⟨#[x, y]⟩ ∧ 128 ≤ y.toNat) ∨ (∃ x y z, Utf8.encode r = ⟨#[x, y, z]⟩ ∧ 128 ≤ z.toNat) ∨ (∃ x y z t, Utf8.encode r = ⟨#[x, y, z, t]⟩ ∧ 128 ≤ t.toNat) := by
  unfold Utf8.encode
  simp only [hv, if_true, Int.toNat_natCast]
  have h0 : ¬ r < 128 := by omega
  rw [if_neg h0]
  by_cases h1 : r < 2048
  · rw [if_pos h1]; exact .inl ⟨_, _, rfl, ofNat_high (by omega) (by omega)⟩
  · rw [if_neg h1]
    by_cases h2 : r < 65536
    · rw [if_pos h2]; exact .inr (.inl ⟨_, _, _, rfl, ofNat_high (by omega) (by omega)⟩)
    · rw [if_neg h2]; exact .inr (.inr ⟨_, _, _, _, rfl, ofNat_high (by omega) (by omega)⟩)
theorem encode_high (r : Nat) (h : 128 ≤ r) (hv : Utf8.valid r = true) (E : ByteArray) (hE : Utf8.encode r = E) : (E.size = 2 ∧ ∃ y : UInt8, (∀ h : 1 < E.size, E[1]'h = y) ∧ 128 ≤ y.toNat) ∨ (E.size = 3 ∧ ∃ y : UInt8, (∀ h : 2 < E.size, E[2]'h = y) ∧ 128 ≤ y.toNat) ∨ E.size = 4 := by
  rcases encode_cases r h hv with ⟨x, y, e, hy⟩ | ⟨x, y, z, e, hy⟩ | ⟨x, y, z, t, e, hy⟩
  · obtain rfl := hE.symm.trans e; exact .inl ⟨rfl, y, fun _ => rfl, hy⟩
  · obtain rfl := hE.symm.trans e; exact .inr (.inl ⟨rfl, z, fun _ => rfl, hy⟩)
  · obtain rfl := hE.symm.trans e; exact .inr (.inr rfl)
theorem ix_high1 {y : UInt8} (h : 128 ≤ y.toNat) : Lib.indexByte [60] y = -1 := by
  have := all_bytes (fun y => decide (y.toNat < 128) || decide (Lib.indexByte [60] y = -1)) (by decide +kernel) y
  simp only [Bool.or_eq_true, decide_eq_true_eq] at this
  omega
theorem op_low : ∀ (i : Nat) (hi : i < (⟨#[61, 62, 60]⟩ : ByteArray).size), ((⟨#[61, 62, 60]⟩ : ByteArray)[i]'hi).toNat < 128
  | 0, _ => (by decide : (61 : UInt8).toNat < 128)
  | 1, _ => (by decide : (62 : UInt8).toNat < 128)
  | 2, _ => (by decide : (60 : UInt8).toNat < 128)
  | n + 3, h => absurd h (by show ¬ n + 3 < 3; omega)
theorem ix_high0 (y : UInt8) : Lib.indexByte [] y = -1 := rfl

set_option maxRecDepth 100000 in
set_option maxHeartbeats 4000000 in
theorem indexRune_high (r : Nat) (h : 128 ≤ r) (hr : r ≤ 2147483647) (w : World) : Calls Tryd.prog 60 #[.string ⟨#[61, 62, 60]⟩, .int .i32 r] w fun e w' => e = .returned (.int .i64 (-1)) ∧ Below w.heap.size w w' := by
  have t0 : decide ((0 : Int) ≤ (r : Int)) = true := by simp
  have t1 : decide ((r : Int) < 128) = false := by simp; omega
  by_cases hE : r = 65533
  · subst hE
    go_enter Tryd.func60, Tryd.ntmps60
    go_wp2
    go_loopg [5, 6] 3 (fun g _ _ wx => ∃ i : Nat, i + g = 3 ∧ wx = w.iter ⟨#[61, 62, 60]⟩ i)
    case atStart => exact ⟨0, rfl, rfl⟩
    case round =>
      obtain ⟨i, hig, rfl⟩ := hrel
      cases gk with
      | zero =>
        obtain rfl : i = 3 := by omega
        have hnx := run_next_end (P := Tryd.prog) w ⟨#[61, 62, 60]⟩ 3
        go_wp2
        go_ret
        exact ⟨rfl, (Below.refl _ _).alloc (Nat.le_refl _) _⟩
      | succ g =>
        have hi : i < (⟨#[61, 62, 60]⟩ : ByteArray).size := by show i < 3; omega
        have hx := op_low i hi
        obtain ⟨x, hxx⟩ : ∃ x : Nat, x = ((⟨#[61, 62, 60]⟩ : ByteArray)[i]'hi).toNat := ⟨_, rfl⟩
        have hnx := fun ty => run_next_ascii (P := Tryd.prog) w ⟨#[61, 62, 60]⟩ i ty hi hx
        rw [← hxx] at hnx hx
        have t5 : ((x : Int) == 65533) = false := by simp; omega
        clear hxx hi
        go_wp2
        go_roundg g
        case measure => omega
        case rel => exact ⟨i + 1, by omega, rfl⟩
  · have t2 : ((r : Int) == 65533) = false := by simp; omega
    cases hv : Utf8.valid r with
    | false =>
      have hva := fun w => validRune_any r hr w
      rw [hv] at hva
      have HV := Lib.hid hva
      clear hva hv
      go_enter Tryd.func60, Tryd.ntmps60
      go_wp2_with (go_at_call 78; refine (HV.out _).mono ?_; rintro e w2 ⟨rfl, rfl⟩)
      go_ret
      exact ⟨rfl, Below.refl _ _⟩
    | true =>
      have hva := fun w => validRune_any r hr w
      rw [hv] at hva
      have HV := Lib.hid hva
      obtain ⟨E, hE'⟩ : ∃ E, Utf8.encode (r : Int) = E := ⟨_, rfl⟩
      have hen := encode_high r h hv E hE'
      clear hva hv
      obtain ⟨C, hC⟩ : ∃ C : ByteArray, C = ⟨#[61, 62, 60]⟩ := ⟨_, rfl⟩
      rw [← hC]
      have hw2 : IntKind.i64.wrap 2 = 2 := by decide
      have hw3 : IntKind.i64.wrap 3 = 3 := by decide
      have hCz : C.size = 3 := by rw [hC]; rfl
      have hC1 : ∀ h : 1 < C.size, C[1]'h = 62 := by subst hC; intro h; rfl
      have hC2 : ∀ h : 2 < C.size, C[2]'h = 60 := by subst hC; intro h; rfl
      obtain ⟨D2, hD2'⟩ : ∃ D, C.extract 2 3 = D := ⟨_, rfl⟩
      obtain ⟨D3, hD3'⟩ : ∃ D, C.extract 3 3 = D := ⟨_, rfl⟩
      have hD2 : D2.data.toList = [60] := by rw [← hD2', hC]; kernel_rfl
      have hD3 : D3.data.toList = [] := by rw [← hD3', hC]; kernel_rfl
      clear hC
      rcases hen with ⟨hEz, y, hEy, hy⟩ | ⟨hEz, z, hEy, hy⟩ | hEz
      · have hix : ∀ w, Calls Tryd.prog 71 #[.string D2, .int .u8 y.toNat] w fun e w' => e = .returned (.int .i64 (-1)) ∧ w' = w := fun w => (idx_any D2 y w).mono fun _ _ h => ⟨by rw [h.1, hD2, ix_high1 hy], h.2.symm⟩
        have HI := Lib.hid hix
        have t5 : ((62 : Int) == (y.toNat : Int)) = false := by simp; omega
        have t6 : ((62 : Int) != (y.toNat : Int)) = true := by simp; omega
        clear hix hy hD2 hD3
        go_enter Tryd.func60, Tryd.ntmps60
        go_wp2_with (go_at_call 78; refine (HV.out _).mono ?_; rintro e w2 ⟨rfl, rfl⟩)
        go_step3
        go_wp2
        go_loopw [9, 10] (fun i f wr => i = .int .i64 1 ∧ f = .int .i64 0 ∧ Hid (w = wr)) (fun i _ _ => 1)
        case atStart => exact ⟨rfl, rfl, Lib.hid rfl⟩
        case round =>
          obtain ⟨rfl, rfl, hw⟩ := hrel
          have hw := hw.out
          subst hw
          go_wp2
          go_step3
          go_wp2
          go_quiet (fail)
          obtain ⟨wq, hwq⟩ : ∃ W, W = w.drewN nq := ⟨_, rfl⟩
          rw [← hwq]
          have HBq : Hid (Below w.heap.size w wq) := Lib.hid (by rw [hwq]; exact below_drewN2 (Below.refl _ _) _)
          clear hwq nq
          go_wp2
          go_quiet ((go_at_call 71; (with_reducible refine Calls.quiet_of_same (HI.out _))))
          go_wp2
          rw [Exit.noGoto_ret]
          dsimp (config := {zetaDelta := true}) only [Exit.noGoto, Exit.inBlock, Exit.then]
          refine bodyPost_ret (results_tmp rfl _ _ _) rfl ?_
          exact ⟨rfl, below_drewN2 HBq.out _⟩
      · have hix : ∀ w, Calls Tryd.prog 71 #[.string ByteArray.empty, .int .u8 z.toNat] w fun e w' => e = .returned (.int .i64 (-1)) ∧ w' = w := fun w => (idx_any ByteArray.empty z w).mono fun _ _ h => ⟨by rw [h.1]; rfl, h.2.symm⟩
        have HI := Lib.hid hix
        have t5 : ((60 : Int) == (z.toNat : Int)) = false := by simp; omega
        have t6 : ((60 : Int) != (z.toNat : Int)) = true := by simp; omega
        clear hix hy hD2 hD3
        go_enter Tryd.func60, Tryd.ntmps60
        go_wp2_with (go_at_call 78; refine (HV.out _).mono ?_; rintro e w2 ⟨rfl, rfl⟩)
        go_step3
        go_wp2
        go_loopw [9, 10] (fun i f wr => i = .int .i64 2 ∧ f = .int .i64 0 ∧ Hid (w = wr)) (fun i _ _ => 1)
        case atStart => exact ⟨rfl, rfl, Lib.hid rfl⟩
        case round =>
          obtain ⟨rfl, rfl, hw⟩ := hrel
          have hw := hw.out
          subst hw
          go_wp2
          go_step3
          go_wp2
          go_quiet (fail)
          obtain ⟨wq, hwq⟩ : ∃ W, W = w.drewN nq := ⟨_, rfl⟩
          rw [← hwq]
          have HBq : Hid (Below w.heap.size w wq) := Lib.hid (by rw [hwq]; exact below_drewN2 (Below.refl _ _) _)
          clear hwq nq
          go_wp2
          go_quiet ((go_at_call 71; (with_reducible refine Calls.quiet_of_same (HI.out _))))
          go_wp2
          rw [Exit.noGoto_ret]
          dsimp (config := {zetaDelta := true}) only [Exit.noGoto, Exit.inBlock, Exit.then]
          refine bodyPost_ret (results_tmp rfl _ _ _) rfl ?_
          exact ⟨rfl, below_drewN2 HBq.out _⟩
      · clear hD2 hD3
        go_enter Tryd.func60, Tryd.ntmps60
        go_wp2_with (go_at_call 78; refine (HV.out _).mono ?_; rintro e w2 ⟨rfl, rfl⟩)
        go_step3
        go_wp2
        go_loopw [9, 10] (fun i f wr => i = .int .i64 3 ∧ f = .int .i64 0 ∧ Hid (w = wr)) (fun i _ _ => 1)
        case atStart => exact ⟨rfl, rfl, Lib.hid rfl⟩
        case round =>
          obtain ⟨rfl, rfl, hw⟩ := hrel
          have hw := hw.out
          subst hw
          go_wp2
          go_ret
          exact ⟨rfl, Below.refl _ _⟩

set_option maxRecDepth 100000 in
set_option maxHeartbeats 2000000 in
theorem indexRune_low (C : ByteArray) (x : UInt8) (hx : x.toNat < 128) (w : World) : Calls Tryd.prog 60 #[.string C, .int .i32 x.toNat] w fun e w' => e = .returned (.int .i64 (Lib.indexByte C.data.toList x)) ∧ w = w' := by
  have t0 : decide ((0 : Int) ≤ (x.toNat : Int)) = true := by simp
  have t1 : decide ((x.toNat : Int) < 128) = true := by simp; omega
  have t2 : IntKind.u8.wrap (x.toNat : Int) = (x.toNat : Int) := IntWalk.u8_in _ (by omega)
  have HI := Lib.hid (fun w => idx_any C x w)
  go_enter Tryd.func60, Tryd.ntmps60
  go_wp2_with (go_at_call 71; refine (HI.out _).mono ?_; rintro e w2 ⟨rfl, rfl⟩)
  go_ret
  exact ⟨rfl, rfl⟩
theorem shouldUse_any (n : Nat) (w : World) : Calls Tryd.prog 61 #[.int .i64 n] w fun e w' => e = .returned (.bool (decide ((8 : Int) < (n : Int)))) ∧ w = w' := by
  go_enter Tryd.func61, Tryd.ntmps61
  go_wp2
  go_ret
  exact ⟨rfl, rfl⟩

/-! ### What a rune's bytes are -/
def contP (s : ByteArray) (i k : Nat) : Prop := i + k < s.size ∧ (s.get! (i + k)).toNat / 64 = 2
theorem get_some (s : ByteArray) (i : Nat) (h : i < s.size) : s.data.toList[i]? = some (s.get! i) := by
  have : s.get! i = s[i]'h := by simpa using get_at s i h
  rw [this]
  exact Lib.data_getElem? s i h
theorem cont_some {s : ByteArray} {i k : Nat} (h : contP s i k) : ∃ b : UInt8, s.data.toList[i + k]? = some b ∧ 128 ≤ b.toNat := ⟨_, get_some s _ h.1, by have := h.2; omega⟩
theorem decode_width (s : ByteArray) (i : Nat) : (Utf8.decode s i).2 = 1 ∨ ((Utf8.decode s i).2 = 2 ∧ contP s i 1) ∨ ((Utf8.decode s i).2 = 3 ∧ contP s i 1 ∧ contP s i 2) ∨ ((Utf8.decode s i).2 = 4 ∧ contP s i 1 ∧ contP s i 2 ∧ contP s i 3) := by
  unfold contP
  simp only [Utf8.decode]
  repeat' split
  all_goals simp_all
theorem decode_span (s : ByteArray) (i : Nat) (h : i < s.size) (ha : 128 ≤ (s[i]'h).toNat) :
    128 ≤ (Utf8.decode s i).1 ∧ (Utf8.decode s i).1 ≤ 2147483647 ∧ 1 ≤ (Utf8.decode s i).2 ∧ i + (Utf8.decode s i).2 ≤ s.size ∧ ∀ k, i ≤ k → k < i + (Utf8.decode s i).2 → ∃ b : UInt8, s.data.toList[k]? = some b ∧ 128 ≤ b.toNat := by
  have hh := decode_high s i h ha
  have h0 : ∃ b : UInt8, s.data.toList[i]? = some b ∧ 128 ≤ b.toNat := ⟨_, Lib.data_getElem? s i h, ha⟩
  refine ⟨hh.1, decode_le s i, hh.2, ?_⟩
  rcases decode_width s i with e | ⟨e, c1⟩ | ⟨e, c1, c2⟩ | ⟨e, c1, c2, c3⟩
  · rw [e]
    exact ⟨by omega, fun k h1 h2 => by obtain rfl : k = i := by omega
                                       exact h0⟩
  · rw [e]
    refine ⟨by have := c1.1; omega, fun k h1 h2 => ?_⟩
    have : k = i ∨ k = i + 1 := by omega
    rcases this with rfl | rfl
    · exact h0
    · exact cont_some c1
  · rw [e]
    refine ⟨by have := c2.1; omega, fun k h1 h2 => ?_⟩
    have : k = i ∨ k = i + 1 ∨ k = i + 2 := by omega
    rcases this with rfl | rfl | rfl
    · exact h0
    · exact cont_some c1
    · exact cont_some c2
  · rw [e]
    refine ⟨by have := c3.1; omega, fun k h1 h2 => ?_⟩
    have : k = i ∨ k = i + 1 ∨ k = i + 2 ∨ k = i + 3 := by omega
    rcases this with rfl | rfl | rfl | rfl
    · exact h0
    · exact cont_some c1
    · exact cont_some c2
    · exact cont_some c3
theorem op_high {b : UInt8} (h : 128 ≤ b.toNat) : ([61, 62, 60] : List UInt8).contains b = false := by
  have := all_bytes (fun b => decide (b.toNat < 128) || !([61, 62, 60] : List UInt8).contains b) (by decide +kernel) b
  simp only [Bool.or_eq_true, decide_eq_true_eq, Bool.not_eq_true'] at this
  rcases this with h1 | h1
  · omega
  · exact h1
theorem noAny_go {s : List UInt8} {i n : Nat} (h : Lib.NoAny s [61, 62, 60] i) (hb : ∀ k, i ≤ k → k < i + n → ∃ b : UInt8, s[k]? = some b ∧ 128 ≤ b.toNat) : Lib.NoAny s [61, 62, 60] (i + n) := fun j b hj hb' => by
  by_cases h1 : j < i
  · exact h j b h1 hb'
  · obtain ⟨b', e, h2⟩ := hb j (by omega) hj
    obtain rfl : b' = b := Option.some.inj (e.symm.trans hb')
    exact op_high h2

/-- A short text. -/
def IterAt (w : World) (s : ByteArray) (i : Nat) (wx : World) : Prop := wx.heap[w.heap.size]? = some (.stringIter s i) ∧ Below w.heap.size w wx
set_option maxRecDepth 100000 in
set_option maxHeartbeats 4000000 in
theorem indexAny_short (s : ByteArray) (h8 : s.size ≤ 8) (w : World) : Calls Tryd.prog 44 #[.string s, .string ⟨#[61, 62, 60]⟩] w fun e w' => e = .returned (.int .i64 (Lib.indexAny s.data.toList [61, 62, 60])) ∧ Below w.heap.size w w' := by
  have HH := Lib.hid indexRune_high
  obtain ⟨C, hC⟩ : ∃ C : ByteArray, C = ⟨#[61, 62, 60]⟩ := ⟨_, rfl⟩
  rw [← hC] at HH ⊢
  have hCz : C.size = 3 := by rw [hC]; rfl
  have hCl : C.data.toList = [61, 62, 60] := by rw [hC]
  have hemp : C.toList.isEmpty = false := by rw [ByteArray.toList_eq, hCl]; rfl
  have hemp2 : (C.toList == []) = false := by rw [ByteArray.toList_eq, hCl]; rfl
  have HCl := Lib.hid hCl
  have h8z : decide ((8 : Int) < (s.size : Int)) = false := decide_eq_false (by omega)
  have hsu := fun w => shouldUse_any s.size w
  rw [h8z] at hsu
  have HSu := Lib.hid hsu
  clear hC hCl hsu
  go_enter Tryd.func44, Tryd.ntmps44
  go_wp2_with (go_at_call 61; refine (HSu.out _).mono ?_; rintro e w2 ⟨rfl, rfl⟩)
  go_loopg [9, 10] s.size (fun g _ _ wx => ∃ i : Nat, i ≤ s.size ∧ s.size - i ≤ g ∧ Hid (IterAt w s i wx) ∧ Hid (Lib.NoAny s.data.toList [61, 62, 60] i))
  case atStart => exact ⟨0, by omega, by omega, Lib.hid ⟨World.iter_heap w s 0, (Below.refl _ _).alloc (Nat.le_refl _) _⟩, Lib.hid (Lib.NoAny.zero _ _)⟩
  case round =>
    obtain ⟨i, hi, hig, HIt, HN⟩ := hrel
    by_cases hend : i = s.size
    · subst hend
      have hnx := fun ty => Lib.run_next_end_at (P := Tryd.prog) wr w.heap.size s s.size ty HIt.out.1 (by omega)
      go_wp2
      go_ret
      exact ⟨by rw [Lib.indexAny_none (by rw [← Lib.size_eq]; exact HN.out)]; rfl, HIt.out.2⟩
    · have hi : i < s.size := by omega
      cases gk with
      | zero => omega
      | succ g =>
        obtain ⟨x, hx⟩ : ∃ x : UInt8, s[i]'hi = x := ⟨_, rfl⟩
        have hxl : s.data.toList[i]? = some x := by rw [← hx]; exact Lib.data_getElem? s i hi
        by_cases hx128 : x.toNat < 128
        · have hnx := fun ty => Lib.run_next_ascii_at (P := Tryd.prog) wr w.heap.size s i ty HIt.out.1 hi (by rw [hx]; exact hx128)
          rw [hx] at hnx
          have hI5 : IterAt w s (i + 1) (wr.iterAt w.heap.size s (i + 1)) := ⟨Lib.iterAt_heap _ _ _ _ _ HIt.out.1, Lib.below_iterAt HIt.out.2 (Nat.le_refl _) _ _⟩
          obtain ⟨W5, hW5⟩ : ∃ W, wr.iterAt w.heap.size s (i + 1) = W := ⟨_, rfl⟩
          rw [hW5] at hI5
          simp only [hW5] at hnx
          have hlo := fun w => indexRune_low C x hx128 w
          rw [HCl.out] at hlo
          have hcon := Lib.contains_iff_indexByte [61, 62, 60] x
          obtain ⟨z, hz⟩ : ∃ z, z = Lib.indexByte [61, 62, 60] x := ⟨_, rfl⟩
          rw [← hz] at hlo hcon
          have HLo := Lib.hid hlo
          have HI5 := Lib.hid hI5
          have Hx := Lib.hid hxl
          have HCon := Lib.hid hcon
          clear hW5 hI5 hlo hcon hz hxl hx hx128
          cases hin : ([61, 62, 60] : List UInt8).contains x
          · have t9 : decide ((0 : Int) ≤ z) = false := by rw [← HCon.out, hin]
            have HN2 := Lib.hid (HN.out.succ Hx.out hin)
            clear hin
            go_wp2_with (go_at_call 60; (with_reducible refine (HLo.out _).mono ?_); rintro e w6 ⟨rfl, rfl⟩)
            go_roundg g
            case measure => omega
            case rel => exact ⟨i + 1, by omega, by omega, HI5, HN2⟩
          · have t9 : decide ((0 : Int) ≤ z) = true := by rw [← HCon.out, hin]
            have HF := Lib.hid (Lib.indexAny_hit HN.out Hx.out hin)
            clear hin
            go_wp2_with (go_at_call 60; (with_reducible refine (HLo.out _).mono ?_); rintro e w6 ⟨rfl, rfl⟩)
            go_ret
            exact ⟨by rw [HF.out]; rfl, HI5.out.2⟩
        · have hsp := decode_span s i hi (by rw [hx]; omega)
          have hnx := fun ty => Lib.run_next_any_at (P := Tryd.prog) wr w.heap.size s i ty HIt.out.1 hi
          obtain ⟨n, hn⟩ : ∃ n, n = (Utf8.decode s i).2 := ⟨_, rfl⟩
          obtain ⟨r, hr⟩ : ∃ r, r = (Utf8.decode s i).1 := ⟨_, rfl⟩
          rw [← hn, ← hr] at hsp
          rw [← hn, ← hr] at hnx
          obtain ⟨hr1, hr2, hn1, hn2, hsp⟩ := hsp
          have hI5 : IterAt w s (i + n) (wr.iterAt w.heap.size s (i + n)) := ⟨Lib.iterAt_heap _ _ _ _ _ HIt.out.1, Lib.below_iterAt HIt.out.2 (Nat.le_refl _) _ _⟩
          obtain ⟨W5, hW5⟩ : ∃ W, wr.iterAt w.heap.size s (i + n) = W := ⟨_, rfl⟩
          rw [hW5] at hI5
          simp only [hW5] at hnx
          have HHi := Lib.hid (fun w => HH.out r hr1 hr2 w)
          have HN2 := Lib.hid (noAny_go HN.out hsp)
          have HI5 := Lib.hid hI5
          have hlt5 : w.heap.size < W5.heap.size := (Array.getElem?_eq_some_iff.1 hI5.1).1
          have HL5 := Lib.hid hlt5
          clear hW5 hI5 hsp hn hr hx hxl hx128 hlt5
          go_wp2_with (go_at_call 60; (with_reducible refine (HHi.out _).mono ?_); rintro e w6 ⟨rfl, hb6⟩; have HB6 := Lib.hid hb6; clear hb6)
          go_roundg g
          case measure => omega
          case rel => exact ⟨i + n, by omega, by omega, Lib.hid ⟨(HB6.out.block _ HL5.out).trans HI5.out.1, bthen HI5.out.2 HB6.out⟩, HN2⟩
theorem indexAnyFl_any (s : ByteArray) (hs : s.size < 4294967281) (w : World) : Calls Tryd.prog 44 #[.string s, .string ⟨#[61, 62, 60]⟩] w fun e w' => e = .returned (.int .i64 (Lib.indexAny s.data.toList [61, 62, 60])) ∧ Below w.heap.size w w' := by
  by_cases h8 : s.size ≤ 8
  · exact indexAny_short s h8 w
  · have h116 : (Tryd.prog.info? 93).map (fun i => (i.zero, i.size)) = some (some (.agg (Array.replicate 256 (.bool false))), 256) := by kernel_rfl
    exact (Tryd.strings_IndexAny_long (zero_of_info h116).1 s ⟨#[61, 62, 60]⟩ w (by decide) (by omega) hs (by decide) (fun j b h => by
      have : b ∈ ([61, 62, 60] : List UInt8) := List.mem_of_getElem? h
      simp only [List.mem_cons, List.not_mem_nil, or_false] at this
      rcases this with rfl | rfl | rfl <;> decide)).mono fun e w' h => ⟨h.1, by rw [h.2]; exact ((Below.refl _ _).alloc (Nat.le_refl _) _).alloc (by simp) _⟩
end Go.Proofs.YtmpicolplknomaaDoor
