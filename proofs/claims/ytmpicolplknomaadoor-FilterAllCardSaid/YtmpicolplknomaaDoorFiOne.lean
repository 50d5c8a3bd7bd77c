/- filter.one, value: the walks. -/
import Derived.Test.YtmpicolplknomaaDoorFiText
import Derived.BigQuiet
import Derived.Deep.QuietTactic
namespace Go.Proofs.YtmpicolplknomaaDoor
open Go.RowKit
set_option linter.unusedVariables false
set_option linter.unusedSimpArgs false

/-- The first byte of a value's text, and how many bytes of it say it. -/
def oneQ : List UInt8 → UInt8 × Nat
  | [] => (0, 0)
  | c :: r => if plainC c then (c, 1) else if c = 92 then (match r with
    | x :: y :: _ => match escD x y with
      | some b => (b, 3)
      | none => (0, 0)
    | _ => (0, 0)) else (0, 0)
theorem oneQ_cons (c : UInt8) (r : List UInt8) : oneQ (c :: r) = if plainC c then (c, 1) else if c = 92 then (match r with
    | x :: y :: _ => match escD x y with
      | some b => (b, 3)
      | none => (0, 0)
    | _ => (0, 0)) else (0, 0) := rfl
theorem oneQ_plain {c : UInt8} {r : List UInt8} (h : plainC c = true) : oneQ (c :: r) = (c, 1) := by rw [oneQ_cons, if_pos h]
theorem oneQ_esc {x y : UInt8} {r : List UInt8} : oneQ (92 :: x :: y :: r) = match escD x y with
    | some b => (b, 3)
    | none => (0, 0) := by
  rw [oneQ_cons, if_neg (by rw [plain92]; decide), if_pos rfl]
theorem oneQ_short : ∀ {r : List UInt8}, r.length < 2 → oneQ (92 :: r) = (0, 0)
  | [], _ => by rw [oneQ_cons, if_neg (by rw [plain92]; decide), if_pos rfl]
  | [_], _ => by rw [oneQ_cons, if_neg (by rw [plain92]; decide), if_pos rfl]
  | _ :: _ :: _, h => by simp at h; omega
theorem oneQ_no {c : UInt8} {r : List UInt8} (h : ¬ plainC c = true) (h92 : c ≠ 92) : oneQ (c :: r) = (0, 0) := by
  rw [oneQ_cons, if_neg h, if_neg h92]
def ixD (c : UInt8) : Int := Lib.indexByte digs c
def ixOk (c : UInt8) : Bool := match dgI c with
  | some n => decide (ixD c = (n : Int)) && decide (n < 16)
  | none => decide (ixD c < 0)
theorem ix_ok (c : UInt8) : ixOk c = true := all_bytes ixOk (by decide +kernel) c
theorem ix_some {c : UInt8} {n : Nat} (h : dgI c = some n) : ixD c = (n : Int) ∧ n < 16 := by
  have := ix_ok c
  unfold ixOk at this
  rw [h] at this
  simpa using this
theorem ix_none {c : UInt8} (h : dgI c = none) : ixD c < 0 := by
  have := ix_ok c
  unfold ixOk at this
  rw [h] at this
  simpa using this
theorem esc_none_l {x y : UInt8} (h : dgI x = none) : escD x y = none := by unfold escD; rw [h]
theorem esc_none_r {x y : UInt8} (h : dgI y = none) : escD x y = none := by unfold escD; rw [h]; cases dgI x <;> rfl
theorem hi_lo (a b : Nat) (ha : a < 16) (hb : b < 16) : IntKind.u8.wrap (bits .or .i64 ((a : Int) * 16) (b : Int)) = ((a * 16 + b : Nat) : Int) := by
  have : ∀ a : Nat, a < 16 → ∀ b : Nat, b < 16 → IntKind.u8.wrap (bits .or .i64 ((a : Int) * 16) (b : Int)) = ((a * 16 + b : Nat) : Int) := by decide +kernel
  exact this a ha b hb

theorem list3 (s : ByteArray) (h : 3 ≤ s.size) : ∃ r, s.data.toList = s[0] :: s[1] :: s[2] :: r := by
  obtain ⟨l, hl⟩ : ∃ l, l = s.data.toList := ⟨_, rfl⟩
  have hlen : l.length = s.size := by rw [hl, bytes_len]
  match l, hl, hlen with
  | a :: b :: c :: r, hl, _ =>
    refine ⟨r, ?_⟩
    have e0 : s[0] = s.data.toList[0]'(by rw [bytes_len]; omega) := rfl
    have e1 : s[1] = s.data.toList[1]'(by rw [bytes_len]; omega) := rfl
    have e2 : s[2] = s.data.toList[2]'(by rw [bytes_len]; omega) := rfl
    rw [e0, e1, e2]
    simp only [← hl]
    rfl
  | [], _, h' => simp at h'; omega
  | [_], _, h' => simp at h'; omega
  | [_, _], _, h' => simp at h'; omega
theorem list1 (s : ByteArray) (h : 0 < s.size) : ∃ r, s.data.toList = s[0] :: r ∧ r.length + 1 = s.size := by
  obtain ⟨l, hl⟩ : ∃ l, l = s.data.toList := ⟨_, rfl⟩
  have hlen : l.length = s.size := by rw [hl, bytes_len]
  match l, hl, hlen with
  | a :: r, hl, h' =>
    refine ⟨r, ?_, by simpa using h'⟩
    have e0 : s[0] = s.data.toList[0]'(by rw [bytes_len]; omega) := rfl
    rw [e0]
    simp only [← hl]
    rfl
  | [], _, h' => simp at h'; omega

set_option maxRecDepth 100000 in
set_option maxHeartbeats 4000000 in
theorem oneFl_any (s : ByteArray) (hs : 0 < s.size) (w : World) : Calls Tryd.prog 81 #[.string s] w fun e w' => e = .returned (.tuple #[.int .u8 (oneQ s.data.toList).1.toNat, .int .i64 (oneQ s.data.toList).2]) ∧ ∃ n, w.drewN n = w' := by
  obtain ⟨r, hr, hrl⟩ := list1 s hs
  obtain ⟨c, hc⟩ : ∃ c : UInt8, s[0] = c := ⟨_, rfl⟩
  have hcl := c.toNat_lt
  have hp := fun w => isPlain_any c w
  have hr' := hr
  rw [hc] at hr
  cases hpc : plainC c with
  | true =>
    have ho : oneQ s.data.toList = (c, 1) := by rw [hr, oneQ_plain hpc]
    rw [hpc] at hp
    rw [ho]
    have HP := Lib.hid hp
    clear hp ho hpc hr hr'
    go_enter Tryd.func81, Tryd.ntmps81
    go_wp2_with (go_at_call 52; refine (HP.out _).mono ?_; rintro e w2 ⟨rfl, rfl⟩)
    go_ret2
    exact ⟨rfl, 0, rfl⟩
  | false =>
    rw [hpc] at hp
    have HP := Lib.hid hp
    have hno : ¬ plainC c = true := by rw [hpc]; decide
    by_cases h92 : c = 92
    · subst h92
      by_cases h3 : 3 ≤ s.size
      · obtain ⟨r3, hr3⟩ := list3 s h3
        obtain ⟨x, hx⟩ : ∃ c : UInt8, s[1] = c := ⟨_, rfl⟩
        obtain ⟨y, hy⟩ : ∃ c : UInt8, s[2] = c := ⟨_, rfl⟩
        rw [hc, hx, hy] at hr3
        have ho : oneQ s.data.toList = match escD x y with
          | some b => (b, 3)
          | none => (0, 0) := by
          rw [hr3, oneQ_esc]
        rw [ho]
        have hi1 := fun w => idx_any ⟨#[48, 49, 50, 51, 52, 53, 54, 55, 56, 57, 97, 98, 99, 100, 101, 102]⟩ x w
        have hi2 := fun w => idx_any ⟨#[48, 49, 50, 51, 52, 53, 54, 55, 56, 57, 97, 98, 99, 100, 101, 102]⟩ y w
        rw [show (⟨#[48, 49, 50, 51, 52, 53, 54, 55, 56, 57, 97, 98, 99, 100, 101, 102]⟩ : ByteArray).data.toList = digs from rfl] at hi1 hi2
        obtain ⟨I1, hI1⟩ : ∃ I, I = ixD x := ⟨_, rfl⟩
        obtain ⟨I2, hI2⟩ : ∃ I, I = ixD y := ⟨_, rfl⟩
        have hi1' : ∀ w, Calls Tryd.prog 71 #[.string ⟨#[48, 49, 50, 51, 52, 53, 54, 55, 56, 57, 97, 98, 99, 100, 101, 102]⟩, .int .u8 x.toNat] w fun e w' => e = .returned (.int .i64 I1) ∧ w' = w := fun w => by rw [hI1]; exact (hi1 w).mono fun e w' h => ⟨h.1, h.2.symm⟩
        have hi2' : ∀ w, Calls Tryd.prog 71 #[.string ⟨#[48, 49, 50, 51, 52, 53, 54, 55, 56, 57, 97, 98, 99, 100, 101, 102]⟩, .int .u8 y.toNat] w fun e w' => e = .returned (.int .i64 I2) ∧ w' = w := fun w => by rw [hI2]; exact (hi2 w).mono fun e w' h => ⟨h.1, h.2.symm⟩
        have HI1 := Lib.hid hi1'
        have HI2 := Lib.hid hi2'
        have t3 : decide ((s.size : Int) < 3) = false := by simp; omega
        have t3' : decide (s.size < 3) = false := by simp; omega
        have ts1 : (1 : Int) < (s.size : Int) := by omega
        have ts2 : (2 : Int) < (s.size : Int) := by omega
        have hx' : s[1]'(by omega) = x := hx
        have hy' : s[2]'(by omega) = y := hy
        have hxl := x.toNat_lt
        have hyl := y.toNat_lt
        clear hp hi1 hi2 hi1' hi2' hr hr' hr3 ho hno hpc
        cases h1 : dgI x with
        | none =>
          have g1 := ix_none h1
          rw [← hI1] at g1
          have t1 : decide (I1 < 0) = true := by simpa using g1
          rw [esc_none_l h1]
          clear hI1 hI2 h1 g1
          go_enter Tryd.func81, Tryd.ntmps81
          go_upto_region 5 with (go_at_call 52; refine (HP.out _).mono ?_; rintro e w2 ⟨rfl, rfl⟩)
          go_quiet (first | (go_at_call 71; (with_reducible refine Calls.quiet_of_same (HI1.out _))) | (go_at_call 71; (with_reducible refine Calls.quiet_of_same (HI2.out _))))
          go_wp2
          go_ret2
          exact ⟨rfl, _, rfl⟩
        | some n1 =>
          obtain ⟨g1, g2⟩ := ix_some h1
          rw [← hI1] at g1
          cases h2 : dgI y with
          | none =>
            have g3 := ix_none h2
            rw [← hI2] at g3
            have t1 : decide (I1 < 0) = false := by simp; omega
            have t2 : decide (I2 < 0) = true := by simpa using g3
            rw [esc_none_r h2]
            clear hI1 hI2 h1 h2 g1 g3
            go_enter Tryd.func81, Tryd.ntmps81
            go_upto_region 5 with (go_at_call 52; refine (HP.out _).mono ?_; rintro e w2 ⟨rfl, rfl⟩)
            go_quiet (first | (go_at_call 71; (with_reducible refine Calls.quiet_of_same (HI1.out _))) | (go_at_call 71; (with_reducible refine Calls.quiet_of_same (HI2.out _))))
            go_wp2
            go_ret2
            exact ⟨rfl, _, rfl⟩
          | some n2 =>
            obtain ⟨g3, g4⟩ := ix_some h2
            rw [← hI2] at g3
            obtain ⟨b, hb⟩ : ∃ b, b = UInt8.ofNat (n1 * 16 + n2) := ⟨_, rfl⟩
            have hbn : b.toNat = n1 * 16 + n2 := by rw [hb, UInt8.toNat_ofNat']; omega
            have he : escD x y = if plainC b then none else some b := by unfold escD; rw [h1, h2, hb]
            have hor := hi_lo n1 n2 g2 g4
            rw [← hbn] at hor
            have hpb := fun w => isPlain_any b w
            obtain ⟨q, hq⟩ : ∃ q, q = plainC b := ⟨_, rfl⟩
            rw [← hq] at hpb he
            have HPb := Lib.hid hpb
            rw [he]
            have t1 : decide ((n1 : Int) < 0) = false := by simp <;> omega
            have t2 : decide ((n2 : Int) < 0) = false := by simp <;> omega
            have hbl := b.toNat_lt
            subst g1
            subst g3
            clear hI1 hI2 h1 h2 hb hbn he hpb hq
            cases q with
            | true =>
              go_enter Tryd.func81, Tryd.ntmps81
              go_upto_region 5 with (go_at_call 52; refine (HP.out _).mono ?_; rintro e w2 ⟨rfl, rfl⟩)
              go_quiet (first | (go_at_call 71; (with_reducible refine Calls.quiet_of_same (HI1.out _))) | (go_at_call 71; (with_reducible refine Calls.quiet_of_same (HI2.out _))))
              go_wp2_with (go_at_call 52; refine (HPb.out _).mono ?_; rintro e w2 ⟨rfl, rfl⟩)
              go_ret2
              exact ⟨rfl, _, rfl⟩
            | false =>
              go_enter Tryd.func81, Tryd.ntmps81
              go_upto_region 5 with (go_at_call 52; refine (HP.out _).mono ?_; rintro e w2 ⟨rfl, rfl⟩)
              go_quiet (first | (go_at_call 71; (with_reducible refine Calls.quiet_of_same (HI1.out _))) | (go_at_call 71; (with_reducible refine Calls.quiet_of_same (HI2.out _))))
              go_wp2_with (go_at_call 52; refine (HPb.out _).mono ?_; rintro e w2 ⟨rfl, rfl⟩)
              go_ret2
              exact ⟨rfl, _, rfl⟩
      · have hlt : s.size < 3 := by omega
        have t3 : decide ((s.size : Int) < 3) = true := by simp; omega
        have t3' : decide (s.size < 3) = true := by simp; omega
        have ho : oneQ s.data.toList = (0, 0) := by
          rw [hr, oneQ_short (by omega)]
        rw [ho]
        clear hp hr hr' ho hno hpc h3
        go_enter Tryd.func81, Tryd.ntmps81
        go_wp2_with (go_at_call 52; refine (HP.out _).mono ?_; rintro e w2 ⟨rfl, rfl⟩)
        go_ret2
        exact ⟨rfl, 0, rfl⟩
    · have hn92 : ¬ c.toNat = 92 := fun e => h92 (UInt8.toNat_inj.1 e)
      have t9 : ((c.toNat : Int) == 92) = false := by simp; omega
      have t9' : ((c.toNat : Int) != 92) = true := by simp; omega
      have ho : oneQ s.data.toList = (0, 0) := by
        rw [hr, oneQ_no hno h92]
      rw [ho]
      clear hp hr hr' ho hno hpc h92 hn92
      go_enter Tryd.func81, Tryd.ntmps81
      go_wp2_with (go_at_call 52; refine (HP.out _).mono ?_; rintro e w2 ⟨rfl, rfl⟩)
      go_ret2
      exact ⟨rfl, 0, rfl⟩
end Go.Proofs.YtmpicolplknomaaDoor
