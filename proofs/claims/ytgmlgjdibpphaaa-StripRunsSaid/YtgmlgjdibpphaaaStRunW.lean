/- StripRuns: the walk. -/
import Derived.Test.YtgmlgjdibpphaaaStRunL
import Derived.Test.YtgmlgjdibpphaaaStArgR
import Derived.Test.YtgmlgjdibpphaaaRegJ2
import Derived.Test.YtgmlgjdibpphaaaRegDet
import Derived.Deep.CutBlock
namespace Go.Proofs.Ytgmlgjdibpphaaa
open Go.RowKit
set_option linter.unusedVariables false
set_option linter.unusedSimpArgs false

/-- Both strips, behind n steps. -/
structure RunAt (B b g d n : Nat) (w : World) (S : St) (D : Dt) : Prop where
  sim : SimS n S D
  cr : S.cr ≤ 9223372036854775807
  a : ∃ lv, StA B b g w S lv
  d : ∃ sv dv, StD B d w D sv dv
theorem RunAt.below {B b g d n : Nat} {w w' : World} {S : St} {D : Dt} (h : RunAt B b g d n w S D) (hb : Below w.heap.size w w') : RunAt B b g d n w' S D := by
  obtain ⟨lv, ha⟩ := h.a
  obtain ⟨sv, dv, hd⟩ := h.d
  exact ⟨h.sim, h.cr, ⟨lv, ha.below hb⟩, ⟨sv, dv, hd.below hb⟩⟩
/-- Both strips in the midst of a step. -/
def RunJ (w0 : World) (b g d : Nat) (S : St) (D : Dt) (W : World) : Prop := (∃ lv, StA w0.heap.size b g W S lv) ∧ (∃ sv dv, StD w0.heap.size d W D sv dv) ∧ Below w0.heap.size w0 W
theorem RunJ.go {w0 W W' : World} {b g d : Nat} {S : St} {D : Dt} (h : RunJ w0 b g d S D W) (hb : Below W.heap.size W W') : RunJ w0 b g d S D W' := by
  obtain ⟨⟨lv, ha⟩, ⟨sv, dv, hd⟩, hbl⟩ := h
  exact ⟨⟨lv, ha.below hb⟩, ⟨sv, dv, hd.below hb⟩, hbl.trans (hb.mono hbl.size)⟩
theorem StA.mono {B B' b g : Nat} {w : World} {S : St} {lv : Value} (h : StA B b g w S lv) (hB : B' ≤ B) : StA B' b g w S lv := by
  refine ⟨Nat.le_trans hB h.hb, Nat.le_trans hB h.hg, h.box, h.blk, ⟨h.row.1, ?_⟩, h.ok, h.okc, h.most, h.few⟩
  rcases h.row.2 with h1 | ⟨k, cap, cur, h1, h2, h3⟩
  · exact .inl h1
  · exact .inr ⟨k, cap, cur, h1, Nat.le_trans hB h2, h3⟩
theorem row_mono {B B' : Nat} {w : World} {e : TypeId} {sz : Nat} {v : Value} {n : Nat} {xs : List Value} (h : w.ownsRow B e sz v n xs) (hB : B' ≤ B) : w.ownsRow B' e sz v n xs := by
  refine ⟨h.1, ?_⟩
  rcases h.2 with h1 | ⟨k, cap, cur, h1, h2, h3⟩
  · exact .inl h1
  · exact .inr ⟨k, cap, cur, h1, Nat.le_trans hB h2, h3⟩
theorem StD.mono {B B' d : Nat} {w : World} {D : Dt} {sv dv : Value} (h : StD B d w D sv dv) (hB : B' ≤ B) : StD B' d w D sv dv :=
  ⟨Nat.le_trans hB h.hd, h.box, row_mono h.safe hB, row_mono h.row hB⟩
/-- What holds while the two are held against one another. -/
def SpR (B b g d : Nat) (wx : World) (S : St) (lv sv dv : Value) (q : Bool) (W : World) : Prop := W.cell? ⟨d, 0, none⟩ = some sv ∧ W.cell? ⟨d, 1, none⟩ = some dv ∧ W.cell? ⟨d, 3, none⟩ = some (.bool q) ∧ StA B b g W S lv ∧ Below wx.heap.size wx W
theorem sim_start (n cr : Int) (hn : n ≤ 40) : SimS 0 ⟨List.replicate (nB n) zeroB, [], 0, cr, false⟩ ⟨List.replicate (nB n) zeroB, [], (max 0 cr).toNat, false⟩ := by
  refine ⟨rfl, rfl, rfl, ok32_zero _, (fun c hc => absurd hc (by simp)), Nat.le_refl _, ?_, Int.le_refl _, Int.le_refl _, ?_, fun _ => ?_⟩
  · show (List.replicate (nB n) zeroB).length ≤ 40
    rw [List.length_replicate]
    unfold nB
    omega
  · show (((max 0 cr).toNat : Nat) : Int) = max 0 (cr - 0)
    omega
  · show cr ≤ 0 ∨ (0 : Int) < cr
    omega
set_option maxRecDepth 100000 in
set_option maxHeartbeats 8000000 in
theorem stripRuns_any (n cr pk pt : Int) (ls : List Ac) (a1 : Option Addr) (c1 : Nat) (w : World) (hcr : in64 cr) (hi : IsAc w.heap.size w ls a1 c1) : Calls Try.prog 3 #[.agg #[.int .i64 n, .int .i64 cr, .int .i64 pk, .int .i64 pt], .slice a1 ls.length c1] w fun e w' => e = .returned (.bool true) ∧ Below w.heap.size w w' := by
  obtain ⟨W1, hW1⟩ : ∃ W, W = w.alloc (.cells #[.int .i64 n, .int .i64 cr, .int .i64 pk, .int .i64 pt] 23) := ⟨_, rfl⟩
  have hb1 : Below w.heap.size w W1 := by rw [hW1]; exact (Below.refl _ _).alloc (Nat.le_refl _) _
  have hc1 : W1.heap[w.heap.size]? = some (.cells #[.int .i64 n, .int .i64 cr, .int .i64 pk, .int .i64 pt] 23 (0, 0)) := by rw [hW1]; exact heap_alloc_new w _
  obtain ⟨pb, hpb⟩ : ∃ p, p = w.heap.size := ⟨_, rfl⟩
  have q0 : W1.cell? ⟨pb, 0, none⟩ = some (.int .i64 n) := by rw [hpb]; simp [World.cell?, hc1]
  have q1 : W1.cell? ⟨pb, 1, none⟩ = some (.int .i64 cr) := by rw [hpb]; simp [World.cell?, hc1]
  have q2 : W1.cell? ⟨pb, 2, none⟩ = some (.int .i64 pk) := by rw [hpb]; simp [World.cell?, hc1]
  have q3 : W1.cell? ⟨pb, 3, none⟩ = some (.int .i64 pt) := by rw [hpb]; simp [World.cell?, hc1]
  obtain ⟨m, hm⟩ : ∃ m, m = ls.length := ⟨_, rfl⟩
  have HAw := Lib.hid (fun W => awake16_any W)
  have HW1 := Lib.hid hW1.symm
  have HB1 := Lib.hid hb1
  have HM := Lib.hid hm
  have HI := Lib.hid hi
  have HCr := Lib.hid hcr
  have HNum := Lib.hid num_any
  rw [← hm]
  clear hW1 hb1 hc1 hm hi hcr
  by_cases hbig : 60 < m
  · have t1 : decide ((m : Int) > 60) = true := by simp; omega
    have t1' : decide (60 < (m : Int)) = true := by simp; omega
    have t1'' : decide (60 < m) = true := by simpa using hbig
    go_enter Try.func3, Try.ntmps3
    go_upto_region 1 with (fail)
    rw [HW1.out, ← hpb]
    clear hpb
    go_wp2_with (go_at_call 9; refine (HAw.out _).mono ?_; rintro e w9 ⟨rfl, hb9⟩; have HB9 := Lib.hid (HB1.out.trans (hb9.mono HB1.out.size)); clear hb9)
    go_ret
    exact ⟨rfl, HB9.out⟩
  · have t1 : decide ((m : Int) > 60) = false := by simp; omega
    have t1' : decide (60 < (m : Int)) = false := by simp; omega
    have t1'' : decide (60 < m) = false := by simpa using hbig
    by_cases hn : 40 < n
    · have t2 : decide (n > 40) = true := by simpa using hn
      have t2' : decide (40 < n) = true := by simpa using hn
      go_enter Try.func3, Try.ntmps3
      go_upto_region 1 with (fail)
      rw [HW1.out, ← hpb]
      clear hpb
      go_wp2_with (go_at_call 9; refine (HAw.out _).mono ?_; rintro e w9 ⟨rfl, hb9⟩; have HB9 := Lib.hid (HB1.out.trans (hb9.mono HB1.out.size)); clear hb9)
      go_ret
      exact ⟨rfl, HB9.out⟩
    · have t2 : decide (n > 40) = false := by simp; omega
      have t2' : decide (40 < n) = false := by simp; omega
      have HN4 : Hid (n ≤ 40) := Lib.hid (by omega)
      have HM6 : Hid (m ≤ 60) := Lib.hid (by omega)
      clear hbig hn
      go_enter Try.func3, Try.ntmps3
      go_upto_region 1 with (fail)
      rw [HW1.out, ← hpb]
      have HPb := Lib.hid hpb
      clear hpb
      go_upto_region 3 with (fail)
      have hpl : pb < W1.heap.size := World.block_lt_of_cell? W1 _ q0
      have HQ := Lib.hid (And.intro q0 (And.intro q1 (And.intro q2 q3)))
      clear q0 q1 q2 q3
      refine region_J (by kernel_rfl) (W1.heap.size) 1 3 (fun _ _ oi ov W => (oi = 0 ∨ oi = 2 → ov = .agg #[.int .i64 n, .int .i64 cr, .int .i64 pk, .int .i64 pt]) ∧ (oi = 1 ∨ oi = 4 → ∃ b g, ov = .pointer (some ⟨b, 0, none⟩) ∧ StA w.heap.size b g W ⟨List.replicate (nB n) zeroB, [], 0, cr, false⟩ (.slice none 0 0)) ∧ (oi = 3 → ∃ d sv, ov = .pointer (some ⟨d, 0, none⟩) ∧ StD w.heap.size d W ⟨List.replicate (nB n) zeroB, [], (max 0 cr).toNat, false⟩ sv (.slice none 0 0))) (fun _ _ _ => True) (fun _ _ _ _ _ _ _ => trivial) trivial (fun _ _ _ _ _ _ _ h hb => ⟨h.1, fun e => by obtain ⟨b, g, h1, h2⟩ := h.2.1 e; exact ⟨b, g, h1, h2.below hb⟩, fun e => by obtain ⟨d, sv, h1, h2⟩ := h.2.2 e; exact ⟨d, sv, h1, h2.below hb⟩⟩) (Nat.le_refl _) (by kernel_rfl) (by kernel_rfl) (by decide) (by rfl) ?hsa ?hxa ?hya ?hla
      case hsa =>
        intro listed a W p q hsz hj hk i0 o ho hi hi1 hi2 hc
        have e2 := hk.read (t := 2) (by kernel_rfl) rfl
        match i0, hi, hi1, hi2 with
        | 0, _, _, _ =>
          obtain rfl := Option.some.inj ho
          have hgr : Below W1.heap.size W1 W := hk.grown
          have c0 := (hgr.cell (p := ⟨pb, 0, none⟩) hpl).trans HQ.out.1
          have c1 := (hgr.cell (p := ⟨pb, 1, none⟩) hpl).trans HQ.out.2.1
          have c2 := (hgr.cell (p := ⟨pb, 2, none⟩) hpl).trans HQ.out.2.2.1
          have c3 := (hgr.cell (p := ⟨pb, 3, none⟩) hpl).trans HQ.out.2.2.2
          exact wpOp_val rfl rfl (v := .agg #[.int .i64 n, .int .i64 cr, .int .i64 pk, .int .i64 pt]) (w' := W) (by simp [go_sem, e2, c0, c1, c2, c3]) ⟨_, _, rfl, rfl, Below.refl _ _, (fun _ => rfl), (fun e => absurd e (by decide)), (fun e => absurd e (by decide))⟩
        | 1, _, h, _ => exact absurd rfl h
        | 2, _, _, _ =>
          obtain rfl := Option.some.inj ho
          have hgr : Below W1.heap.size W1 W := hk.grown
          have c0 := (hgr.cell (p := ⟨pb, 0, none⟩) hpl).trans HQ.out.1
          have c1 := (hgr.cell (p := ⟨pb, 1, none⟩) hpl).trans HQ.out.2.1
          have c2 := (hgr.cell (p := ⟨pb, 2, none⟩) hpl).trans HQ.out.2.2.1
          have c3 := (hgr.cell (p := ⟨pb, 3, none⟩) hpl).trans HQ.out.2.2.2
          exact wpOp_val rfl rfl (v := .agg #[.int .i64 n, .int .i64 cr, .int .i64 pk, .int .i64 pt]) (w' := W) (by simp [go_sem, e2, c0, c1, c2, c3]) ⟨_, _, rfl, rfl, Below.refl _ _, (fun _ => rfl), (fun e => absurd e (by decide)), (fun e => absurd e (by decide))⟩
        | 3, _, _, h => exact absurd rfl h
        | 4, _, _, _ =>
          obtain rfl := Option.some.inj ho
          obtain ⟨v1, g1, f1⟩ := hk.got (j := 1) rfl rfl (hc ⟨1, .data⟩ (by simp) rfl)
          obtain ⟨b, g, rfl, hst⟩ := f1.2.1 (.inl rfl)
          exact wpOp_val rfl rfl (v := .pointer (some ⟨b, 0, none⟩)) (w' := W) (by simp [go_sem, g1]) ⟨_, _, rfl, rfl, Below.refl _ _, (fun e => absurd e (by decide)), (fun _ => ⟨b, g, rfl, hst⟩), (fun e => absurd e (by decide))⟩
        | m + 5, hm, _, _ => exact absurd hm (by simp)
      case hxa =>
        intro listed a W hsz hj hk o ho hc
        obtain rfl := Option.some.inj ho
        obtain ⟨v0, g0, f0⟩ := hk.got (j := 0) rfl rfl (hc ⟨0, .data⟩ (by simp) rfl)
        obtain rfl := f0.1 (.inl rfl)
        refine wpOp_call rfl rfl (f := 10) (args := #[.agg #[.int .i64 n, .int .i64 cr, .int .i64 pk, .int .i64 pt]]) (by simp [go_sem, g0]) ((new_any n cr pk pt W).mono ?_)
        rintro e w2 ⟨b, g, rfl, hs2, hb2⟩
        exact ⟨_, rfl, _, _, rfl, rfl, hb2.mono hsz, ⟨(fun e => absurd e (by decide)), (fun _ => ⟨b, g, rfl, hs2.mono (Nat.le_trans HB1.out.size hsz)⟩), (fun e => absurd e (by decide))⟩, trivial, fun j u hj2 h => ⟨(fun e => h.1 e), (fun e => by obtain ⟨b2, g2, h1, h2⟩ := h.2.1 e; exact ⟨b2, g2, h1, h2.below hb2⟩), (fun e => by obtain ⟨d2, sv2, h1, h2⟩ := h.2.2 e; exact ⟨d2, sv2, h1, h2.below hb2⟩)⟩⟩
      case hya =>
        intro listed a W hsz hj hk o ho hc
        obtain rfl := Option.some.inj ho
        obtain ⟨v2, g2, f2⟩ := hk.got (j := 2) rfl rfl (hc ⟨2, .data⟩ (by simp) rfl)
        obtain rfl := f2.1 (.inr rfl)
        refine wpOp_call rfl rfl (f := 11) (args := #[.agg #[.int .i64 n, .int .i64 cr, .int .i64 pk, .int .i64 pt]]) (by simp [go_sem, g2]) ((newD_any n cr pk pt HN4.out W).mono ?_)
        rintro e w2 ⟨d, sv, rfl, hs2, hb2⟩
        exact ⟨_, rfl, _, _, rfl, rfl, hb2.mono hsz, ⟨(fun e => absurd e (by decide)), (fun e => absurd e (by decide)), (fun _ => ⟨d, sv, rfl, hs2.mono (Nat.le_trans HB1.out.size hsz)⟩)⟩, trivial, fun j u hj2 h => ⟨(fun e => h.1 e), (fun e => by obtain ⟨b2, g2, h1, h2⟩ := h.2.1 e; exact ⟨b2, g2, h1, h2.below hb2⟩), (fun e => by obtain ⟨d2, sv2, h1, h2⟩ := h.2.2 e; exact ⟨d2, sv2, h1, h2.below hb2⟩)⟩⟩
      case hla =>
        intro listed a W hsz hj hk hall
        obtain ⟨v3, g3, f3⟩ := hk.got (j := 3) rfl rfl (hall 3 (by simp))
        obtain ⟨d, sv, rfl, hsd⟩ := f3.2.2 rfl
        obtain ⟨v4, g4, f4⟩ := hk.got (j := 4) rfl rfl (hall 4 (by simp))
        obtain ⟨b, g, rfl, hsa⟩ := f4.2.1 (.inr rfl)
        have hgr : Below W1.heap.size W1 W := hk.grown
        have hput := hk.puts
        refine wpOp_val rfl rfl (v := .pointer (some ⟨d, 0, none⟩)) (w' := W) (by simp [go_sem, g3]) ?_
        rw [hput]
        simp only [putT, g4]
        generalize a.tmps[22]?.getD undef = x22
        generalize a.tmps[23]?.getD undef = x23
        generalize a.tmps[24]?.getD undef = x24
        generalize a.tmps[25]?.getD undef = x25
        generalize a.tmps[6]?.getD undef = x6
        have hat : RunAt w.heap.size b g d 0 W ⟨List.replicate (nB n) zeroB, [], 0, cr, false⟩ ⟨List.replicate (nB n) zeroB, [], (max 0 cr).toNat, false⟩ := ⟨sim_start n cr HN4.out, HCr.out.2, ⟨_, hsa⟩, ⟨_, _, hsd⟩⟩
        have HAt := Lib.hid hat
        have HBel := Lib.hid (HB1.out.trans (hgr.mono HB1.out.size))
        clear hat hsa hsd hgr hput hk hj hall g3 g4 hsz f3 f4
        go_wp2
        go_loopw [7] (fun iv wr => ∃ (i : Nat) (S : St) (D : Dt), i ≤ m ∧ iv = .int .i64 i ∧ Hid (RunAt w.heap.size b g d i wr S D) ∧ Hid (Below w.heap.size w wr)) (fun iv wr => m - (intOf iv).toNat)
        case atStart => exact ⟨0, _, _, by omega, rfl, HAt, HBel⟩
        case round =>
          obtain ⟨i, S, D, hin, rfl, HA, HB⟩ := hrel
          rename World => wr
          by_cases hlt : i < m
          · have r1 : decide ((i : Int) < (m : Int)) = true := by simp; omega
            have r1' : decide (i < m) = true := by simpa using hlt
            have u0 : (0 : Int) ≤ (i : Int) := by omega
            have u1 : (i : Int) < (m : Int) := by omega
            have hil : i < ls.length := by rw [← HM.out]; exact hlt
            obtain ⟨_, hne | ⟨ab, off, ha, hab, hac⟩⟩ := HI.out
            · rw [hne] at hil; cases hil
            subst ha
            obtain ⟨A, hA⟩ : ∃ A, A = ls[i] := ⟨_, rfl⟩
            have hAc := hac i hil
            rw [← hA] at hAc
            have HAc := Lib.hid (fun W (hb : Below w.heap.size w W) => AcAt.below hAc hb hab)
            have hcell := HAc.out wr HB.out
            have x2 := hcell.eb
            have x0 := hcell.ed
            have HW := Lib.hid (And.intro hAc.wi hAc.w1)
            have w9 : IntKind.i64.wrap ((i : Int) + 1) = (i : Int) + 1 := IntWalk.i64_in _ (by have := HM6.out; omega)
            have HI6 : Hid (i ≤ 59) := Lib.hid (by have := HM6.out; omega)
            clear hac hA hAc hcell hil hab
            by_cases hbg : 60 < A.b.size
            · have s1 : decide ((A.b.size : Int) > 60) = true := by simp; omega
              have s1' : decide (60 < (A.b.size : Int)) = true := by simp; omega
              have s1'' : decide (60 < A.b.size) = true := by simpa using hbg
              go_wp2_with (go_at_call 9; refine (HAw.out _).mono ?_; rintro e w9 ⟨rfl, hb9⟩; have HB9 := Lib.hid (bthenS HB.out hb9); clear hb9)
              go_ret
              exact ⟨rfl, HB9.out⟩
            · have s1 : decide ((A.b.size : Int) > 60) = false := by simp; omega
              have s1' : decide (60 < (A.b.size : Int)) = false := by simp; omega
              have s1'' : decide (60 < A.b.size) = false := by simpa using hbg
              go_upto_block 2 with (fail)
              go_cut [] from 47 to 116 (fun wx => ∃ S' D', Hid (RunAt w.heap.size b g d (i + 1) wx S' D') ∧ Hid (Below w.heap.size w wx))
              case first =>
                by_cases hw : A.d = 0 ∨ A.d = 1 ∨ A.d = 2
                · obtain ⟨c, S2, D2, hsim, hcr2, hwa, hwd⟩ := run_write HA.out.sim (by have := HI6.out; omega) HA.out.cr A.i A.b
                  have HSim := Lib.hid (And.intro hsim hcr2)
                  have HWa := Lib.hid hwa
                  have HWd := Lib.hid hwd
                  have HJ0 : Hid (RunJ w b g d S D wr) := Lib.hid ⟨HA.out.a, HA.out.d, HB.out⟩
                  clear hsim hcr2 hwa hwd x0 x2
                  rcases hw with hw | hw | hw
                  · have n0 : (A.d == 0) = true := by rw [hw]; rfl
                    have n0' : decide (A.d = 0) = true := decide_eq_true hw
                    clear hw s1 s1' s1''
                    go_upto_region 15 with (fail)
                    refine region_J2 (by kernel_rfl) (w.heap.size) 11 12 24 (fun _ _ oi ov _ => ov = [(.pointer (some ⟨b, 0, none⟩) : Value), .slice (some ⟨ab, off, none⟩) m c1, .int .i64 (i : Int), .pointer (some ⟨ab, off + i * 7, none⟩), .pointer (some ⟨ab, off + i * 7 + 1, none⟩), .int .i64 A.i, .slice (some ⟨ab, off, none⟩) m c1, .int .i64 (i : Int), .pointer (some ⟨ab, off + i * 7, none⟩), .pointer (some ⟨ab, off + i * 7 + 2, none⟩), .string A.b, .int .i64 c, .int .i64 c, .pointer (some ⟨d, 0, none⟩), .slice (some ⟨ab, off, none⟩) m c1, .int .i64 (i : Int), .pointer (some ⟨ab, off + i * 7, none⟩), .pointer (some ⟨ab, off + i * 7 + 1, none⟩), .int .i64 A.i, .slice (some ⟨ab, off, none⟩) m c1, .int .i64 (i : Int), .pointer (some ⟨ab, off + i * 7, none⟩), .pointer (some ⟨ab, off + i * 7 + 2, none⟩), .string A.b, .int .i64 c].getD oi undef) (fun p q W => RunJ w b g d (if p = true then S2 else S) (if q = true then D2 else D) W) (fun _ _ _ _ _ h hb => h.go hb) HJ0.out (fun _ _ _ _ _ _ _ h _ => h) (HB.out.size) (by kernel_rfl) (by kernel_rfl) (by kernel_rfl) (by decide) (by rfl) ?hsw0 ?hxw0 ?hyw0 ?hlw0
                    case hsw0 =>
                      intro listed a W p q hsz hj hk i0 o ho hi hi1 hi2 hc
                      have e1 := hk.read (t := 1) (by kernel_rfl) rfl
                      have e5 := hk.read (t := 5) (by kernel_rfl) rfl
                      have e6 := hk.read (t := 6) (by kernel_rfl) rfl
                      have e7 := hk.read (t := 7) (by kernel_rfl) rfl
                      match i0, hi, hi1, hi2 with
                      | 0, _, _, _ =>
                        obtain rfl := Option.some.inj ho
                        exact wpOp_val rfl rfl (v := .pointer (some ⟨b, 0, none⟩)) (w' := W) (by simp [go_sem, e5]) ⟨_, _, rfl, rfl, Below.refl _ _, rfl⟩
                      | 1, _, _, _ =>
                        obtain rfl := Option.some.inj ho
                        exact wpOp_val rfl rfl (v := .slice (some ⟨ab, off, none⟩) m c1) (w' := W) (by simp [go_sem, e1]) ⟨_, _, rfl, rfl, Below.refl _ _, rfl⟩
                      | 2, _, _, _ =>
                        obtain rfl := Option.some.inj ho
                        exact wpOp_val rfl rfl (v := .int .i64 (i : Int)) (w' := W) (by simp [go_sem, e7]) ⟨_, _, rfl, rfl, Below.refl _ _, rfl⟩
                      | 3, _, _, _ =>
                        obtain rfl := Option.some.inj ho
                        obtain ⟨v1, g1, f1⟩ := hk.got (j := 1) rfl rfl (hc ⟨1, .data⟩ (by simp) rfl)
                        obtain rfl : v1 = _ := f1
                        obtain ⟨v2, g2, f2⟩ := hk.got (j := 2) rfl rfl (hc ⟨2, .data⟩ (by simp) rfl)
                        obtain rfl : v2 = _ := f2
                        exact wpOp_val rfl rfl (v := .pointer (some ⟨ab, off + i * 7, none⟩)) (w' := W) (by simp [go_sem, g1, g2, u0, u1]) ⟨_, _, rfl, rfl, Below.refl _ _, rfl⟩
                      | 4, _, _, _ =>
                        obtain rfl := Option.some.inj ho
                        obtain ⟨v3, g3, f3⟩ := hk.got (j := 3) rfl rfl (hc ⟨3, .data⟩ (by simp) rfl)
                        obtain rfl : v3 = _ := f3
                        exact wpOp_val rfl rfl (v := .pointer (some ⟨ab, off + i * 7 + 1, none⟩)) (w' := W) (by simp [go_sem, g3]) ⟨_, _, rfl, rfl, Below.refl _ _, rfl⟩
                      | 5, _, _, _ =>
                        obtain rfl := Option.some.inj ho
                        obtain ⟨v4, g4, f4⟩ := hk.got (j := 4) rfl rfl (hc ⟨4, .data⟩ (by simp) rfl)
                        obtain rfl : v4 = _ := f4
                        have hx := HAc.out W hj.2.2
                        exact wpOp_val rfl rfl (v := .int .i64 A.i) (w' := W) (by simp [go_sem, g4, hx.ei]) ⟨_, _, rfl, rfl, Below.refl _ _, rfl⟩
                      | 6, _, _, _ =>
                        obtain rfl := Option.some.inj ho
                        exact wpOp_val rfl rfl (v := .slice (some ⟨ab, off, none⟩) m c1) (w' := W) (by simp [go_sem, e1]) ⟨_, _, rfl, rfl, Below.refl _ _, rfl⟩
                      | 7, _, _, _ =>
                        obtain rfl := Option.some.inj ho
                        exact wpOp_val rfl rfl (v := .int .i64 (i : Int)) (w' := W) (by simp [go_sem, e7]) ⟨_, _, rfl, rfl, Below.refl _ _, rfl⟩
                      | 8, _, _, _ =>
                        obtain rfl := Option.some.inj ho
                        obtain ⟨v6, g6, f6⟩ := hk.got (j := 6) rfl rfl (hc ⟨6, .data⟩ (by simp) rfl)
                        obtain rfl : v6 = _ := f6
                        obtain ⟨v7, g7, f7⟩ := hk.got (j := 7) rfl rfl (hc ⟨7, .data⟩ (by simp) rfl)
                        obtain rfl : v7 = _ := f7
                        exact wpOp_val rfl rfl (v := .pointer (some ⟨ab, off + i * 7, none⟩)) (w' := W) (by simp [go_sem, g6, g7, u0, u1]) ⟨_, _, rfl, rfl, Below.refl _ _, rfl⟩
                      | 9, _, _, _ =>
                        obtain rfl := Option.some.inj ho
                        obtain ⟨v8, g8, f8⟩ := hk.got (j := 8) rfl rfl (hc ⟨8, .data⟩ (by simp) rfl)
                        obtain rfl : v8 = _ := f8
                        exact wpOp_val rfl rfl (v := .pointer (some ⟨ab, off + i * 7 + 2, none⟩)) (w' := W) (by simp [go_sem, g8]) ⟨_, _, rfl, rfl, Below.refl _ _, rfl⟩
                      | 10, _, _, _ =>
                        obtain rfl := Option.some.inj ho
                        obtain ⟨v9, g9, f9⟩ := hk.got (j := 9) rfl rfl (hc ⟨9, .data⟩ (by simp) rfl)
                        obtain rfl : v9 = _ := f9
                        have hx := HAc.out W hj.2.2
                        exact wpOp_val rfl rfl (v := .string A.b) (w' := W) (by simp [go_sem, g9, hx.eb]) ⟨_, _, rfl, rfl, Below.refl _ _, rfl⟩
                      | 11, _, h, _ => exact absurd rfl h
                      | 12, _, _, _ =>
                        obtain rfl := Option.some.inj ho
                        obtain ⟨v11, g11, f11⟩ := hk.got (j := 11) rfl rfl (hc ⟨11, .data⟩ (by simp) rfl)
                        obtain rfl : v11 = _ := f11
                        refine wpOp_call rfl rfl (f := 12) (args := #[.int .i64 c]) (by simp [go_sem, g11]) ((num_any c W).mono ?_)
                        rintro e w2 ⟨rfl, hw⟩
                        replace hw := hw.symm
                        subst hw
                        exact ⟨_, rfl, _, _, rfl, rfl, Below.refl _ _, rfl⟩
                      | 13, _, _, _ =>
                        obtain rfl := Option.some.inj ho
                        exact wpOp_val rfl rfl (v := .pointer (some ⟨d, 0, none⟩)) (w' := W) (by simp [go_sem, e6]) ⟨_, _, rfl, rfl, Below.refl _ _, rfl⟩
                      | 14, _, _, _ =>
                        obtain rfl := Option.some.inj ho
                        exact wpOp_val rfl rfl (v := .slice (some ⟨ab, off, none⟩) m c1) (w' := W) (by simp [go_sem, e1]) ⟨_, _, rfl, rfl, Below.refl _ _, rfl⟩
                      | 15, _, _, _ =>
                        obtain rfl := Option.some.inj ho
                        exact wpOp_val rfl rfl (v := .int .i64 (i : Int)) (w' := W) (by simp [go_sem, e7]) ⟨_, _, rfl, rfl, Below.refl _ _, rfl⟩
                      | 16, _, _, _ =>
                        obtain rfl := Option.some.inj ho
                        obtain ⟨v14, g14, f14⟩ := hk.got (j := 14) rfl rfl (hc ⟨14, .data⟩ (by simp) rfl)
                        obtain rfl : v14 = _ := f14
                        obtain ⟨v15, g15, f15⟩ := hk.got (j := 15) rfl rfl (hc ⟨15, .data⟩ (by simp) rfl)
                        obtain rfl : v15 = _ := f15
                        exact wpOp_val rfl rfl (v := .pointer (some ⟨ab, off + i * 7, none⟩)) (w' := W) (by simp [go_sem, g14, g15, u0, u1]) ⟨_, _, rfl, rfl, Below.refl _ _, rfl⟩
                      | 17, _, _, _ =>
                        obtain rfl := Option.some.inj ho
                        obtain ⟨v16, g16, f16⟩ := hk.got (j := 16) rfl rfl (hc ⟨16, .data⟩ (by simp) rfl)
                        obtain rfl : v16 = _ := f16
                        exact wpOp_val rfl rfl (v := .pointer (some ⟨ab, off + i * 7 + 1, none⟩)) (w' := W) (by simp [go_sem, g16]) ⟨_, _, rfl, rfl, Below.refl _ _, rfl⟩
                      | 18, _, _, _ =>
                        obtain rfl := Option.some.inj ho
                        obtain ⟨v17, g17, f17⟩ := hk.got (j := 17) rfl rfl (hc ⟨17, .data⟩ (by simp) rfl)
                        obtain rfl : v17 = _ := f17
                        have hx := HAc.out W hj.2.2
                        exact wpOp_val rfl rfl (v := .int .i64 A.i) (w' := W) (by simp [go_sem, g17, hx.ei]) ⟨_, _, rfl, rfl, Below.refl _ _, rfl⟩
                      | 19, _, _, _ =>
                        obtain rfl := Option.some.inj ho
                        exact wpOp_val rfl rfl (v := .slice (some ⟨ab, off, none⟩) m c1) (w' := W) (by simp [go_sem, e1]) ⟨_, _, rfl, rfl, Below.refl _ _, rfl⟩
                      | 20, _, _, _ =>
                        obtain rfl := Option.some.inj ho
                        exact wpOp_val rfl rfl (v := .int .i64 (i : Int)) (w' := W) (by simp [go_sem, e7]) ⟨_, _, rfl, rfl, Below.refl _ _, rfl⟩
                      | 21, _, _, _ =>
                        obtain rfl := Option.some.inj ho
                        obtain ⟨v19, g19, f19⟩ := hk.got (j := 19) rfl rfl (hc ⟨19, .data⟩ (by simp) rfl)
                        obtain rfl : v19 = _ := f19
                        obtain ⟨v20, g20, f20⟩ := hk.got (j := 20) rfl rfl (hc ⟨20, .data⟩ (by simp) rfl)
                        obtain rfl : v20 = _ := f20
                        exact wpOp_val rfl rfl (v := .pointer (some ⟨ab, off + i * 7, none⟩)) (w' := W) (by simp [go_sem, g19, g20, u0, u1]) ⟨_, _, rfl, rfl, Below.refl _ _, rfl⟩
                      | 22, _, _, _ =>
                        obtain rfl := Option.some.inj ho
                        obtain ⟨v21, g21, f21⟩ := hk.got (j := 21) rfl rfl (hc ⟨21, .data⟩ (by simp) rfl)
                        obtain rfl : v21 = _ := f21
                        exact wpOp_val rfl rfl (v := .pointer (some ⟨ab, off + i * 7 + 2, none⟩)) (w' := W) (by simp [go_sem, g21]) ⟨_, _, rfl, rfl, Below.refl _ _, rfl⟩
                      | 23, _, _, _ =>
                        obtain rfl := Option.some.inj ho
                        obtain ⟨v22, g22, f22⟩ := hk.got (j := 22) rfl rfl (hc ⟨22, .data⟩ (by simp) rfl)
                        obtain rfl : v22 = _ := f22
                        have hx := HAc.out W hj.2.2
                        exact wpOp_val rfl rfl (v := .string A.b) (w' := W) (by simp [go_sem, g22, hx.eb]) ⟨_, _, rfl, rfl, Below.refl _ _, rfl⟩
                      | 24, _, _, h => exact absurd rfl h
                      | m + 25, hm, _, _ => exact absurd hm (by simp)
                    case hxw0 =>
                      intro listed a W hsz hj hk o ho hc
                      obtain rfl := Option.some.inj ho
                      obtain ⟨v0, g0, f0⟩ := hk.got (j := 0) rfl rfl (hc ⟨0, .data⟩ (by simp) rfl)
                      obtain rfl : v0 = _ := f0
                      obtain ⟨v5, g5, f5⟩ := hk.got (j := 5) rfl rfl (hc ⟨5, .data⟩ (by simp) rfl)
                      obtain rfl : v5 = _ := f5
                      obtain ⟨v10, g10, f10⟩ := hk.got (j := 10) rfl rfl (hc ⟨10, .data⟩ (by simp) rfl)
                      obtain rfl : v10 = _ := f10
                      obtain ⟨⟨lv, ha⟩, ⟨sv, dv, hd⟩, hbl⟩ := hj
                      simp only [Bool.false_eq_true, if_false] at ha hd
                      refine wpOp_call rfl rfl (f := 13) (args := #[.pointer (some ⟨b, 0, none⟩), .int .i64 A.i, .string A.b]) (by simp [go_sem, g0, g5, g10]) ((HWa.out _ b g W lv ha hbl.size).mono ?_)
                      rintro e w2 ⟨rfl, lv2, ha2, ht2⟩
                      have hb2 := ht2.below ha.hb ha.hg hbl.size
                      exact ⟨_, rfl, _, _, rfl, rfl, hb2, rfl, ⟨⟨lv2, ha2⟩, ⟨sv, dv, hd.keepA ha ht2⟩, hbl.trans hb2⟩, fun j u hj2 h => h⟩
                    case hyw0 =>
                      intro listed a W hsz hj hk o ho hc
                      obtain rfl := Option.some.inj ho
                      obtain ⟨v13, g13, f13⟩ := hk.got (j := 13) rfl rfl (hc ⟨13, .data⟩ (by simp) rfl)
                      obtain rfl : v13 = _ := f13
                      obtain ⟨v18, g18, f18⟩ := hk.got (j := 18) rfl rfl (hc ⟨18, .data⟩ (by simp) rfl)
                      obtain rfl : v18 = _ := f18
                      obtain ⟨v23, g23, f23⟩ := hk.got (j := 23) rfl rfl (hc ⟨23, .data⟩ (by simp) rfl)
                      obtain rfl : v23 = _ := f23
                      obtain ⟨⟨lv, ha⟩, ⟨sv, dv, hd⟩, hbl⟩ := hj
                      simp only [Bool.false_eq_true, if_false, if_true] at ha hd
                      refine wpOp_call rfl rfl (f := 14) (args := #[.pointer (some ⟨d, 0, none⟩), .int .i64 A.i, .string A.b]) (by simp [go_sem, g13, g18, g23]) ((HWd.out _ d W sv dv hd hbl.size).mono ?_)
                      rintro e w2 ⟨rfl, sv2, dv2, hd2, ht2⟩
                      have hb2 := ht2.below hd.hd hbl.size
                      exact ⟨_, rfl, _, _, rfl, rfl, hb2, rfl, ⟨⟨lv, ha.keepD hd ht2⟩, ⟨sv2, dv2, hd2⟩, hbl.trans hb2⟩, fun j u hj2 h => h⟩
                    case hlw0 =>
                      intro listed a W hsz hj hk hall
                      obtain ⟨v12, g12, f12⟩ := hk.got (j := 12) rfl rfl (hall 12 (by simp))
                      obtain rfl : v12 = _ := f12
                      obtain ⟨v24, g24, f24⟩ := hk.got (j := 24) rfl rfl (hall 24 (by simp))
                      obtain rfl : v24 = _ := f24
                      obtain ⟨⟨lv, ha⟩, ⟨sv, dv, hd⟩, hbl⟩ := hj
                      simp only [if_true] at ha hd
                      have hput := hk.puts
                      refine wpOp_valD (dd := some 76) rfl rfl rfl (v := .bool false) (w' := W) (by simp [go_sem, g12, g24]) ?_
                      rw [hput]
                      simp only [putT]
                      generalize a.tmps[51]?.getD undef = x51
                      generalize a.tmps[52]?.getD undef = x52
                      generalize a.tmps[53]?.getD undef = x53
                      generalize a.tmps[54]?.getD undef = x54
                      generalize a.tmps[55]?.getD undef = x55
                      generalize a.tmps[56]?.getD undef = x56
                      generalize a.tmps[57]?.getD undef = x57
                      generalize a.tmps[58]?.getD undef = x58
                      generalize a.tmps[59]?.getD undef = x59
                      generalize a.tmps[60]?.getD undef = x60
                      generalize a.tmps[61]?.getD undef = x61
                      generalize a.tmps[62]?.getD undef = x62
                      generalize a.tmps[63]?.getD undef = x63
                      generalize a.tmps[64]?.getD undef = x64
                      generalize a.tmps[65]?.getD undef = x65
                      generalize a.tmps[66]?.getD undef = x66
                      generalize a.tmps[67]?.getD undef = x67
                      generalize a.tmps[68]?.getD undef = x68
                      generalize a.tmps[69]?.getD undef = x69
                      generalize a.tmps[70]?.getD undef = x70
                      generalize a.tmps[71]?.getD undef = x71
                      generalize a.tmps[72]?.getD undef = x72
                      generalize a.tmps[73]?.getD undef = x73
                      generalize a.tmps[74]?.getD undef = x74
                      generalize a.tmps[75]?.getD undef = x75
                      generalize a.tmps[76]?.getD undef = x76
                      have HA2 : Hid (RunAt w.heap.size b g d (i + 1) W S2 D2) := Lib.hid ⟨HSim.out.1, HSim.out.2, ⟨lv, ha⟩, ⟨sv, dv, hd⟩⟩
                      have HB2 := Lib.hid hbl
                      clear hput ha hd hbl hk hall g12 g24 hsz
                      simp only [Act.put, List.setIfInBounds_toArray, List.set_cons_zero, List.set_cons_succ]
                      go_wp2
                      go_meet
                      exact ⟨_, _, HA2, HB2⟩
                  · have n1 : (A.d == 1) = true := by rw [hw]; rfl
                    have n1' : decide (A.d = 1) = true := decide_eq_true hw
                    have z0 : (A.d == 0) = false := by rw [hw]; rfl
                    have z0' : decide (A.d = 0) = false := by rw [hw]; rfl
                    clear hw s1 s1' s1''
                    go_upto_region 15 with (fail)
                    refine region_J2 (by kernel_rfl) (w.heap.size) 11 12 24 (fun _ _ oi ov _ => ov = [(.pointer (some ⟨b, 0, none⟩) : Value), .slice (some ⟨ab, off, none⟩) m c1, .int .i64 (i : Int), .pointer (some ⟨ab, off + i * 7, none⟩), .pointer (some ⟨ab, off + i * 7 + 1, none⟩), .int .i64 A.i, .slice (some ⟨ab, off, none⟩) m c1, .int .i64 (i : Int), .pointer (some ⟨ab, off + i * 7, none⟩), .pointer (some ⟨ab, off + i * 7 + 2, none⟩), .string A.b, .int .i64 c, .int .i64 c, .pointer (some ⟨d, 0, none⟩), .slice (some ⟨ab, off, none⟩) m c1, .int .i64 (i : Int), .pointer (some ⟨ab, off + i * 7, none⟩), .pointer (some ⟨ab, off + i * 7 + 1, none⟩), .int .i64 A.i, .slice (some ⟨ab, off, none⟩) m c1, .int .i64 (i : Int), .pointer (some ⟨ab, off + i * 7, none⟩), .pointer (some ⟨ab, off + i * 7 + 2, none⟩), .string A.b, .int .i64 c].getD oi undef) (fun p q W => RunJ w b g d (if p = true then S2 else S) (if q = true then D2 else D) W) (fun _ _ _ _ _ h hb => h.go hb) HJ0.out (fun _ _ _ _ _ _ _ h _ => h) (HB.out.size) (by kernel_rfl) (by kernel_rfl) (by kernel_rfl) (by decide) (by rfl) ?hsw1 ?hxw1 ?hyw1 ?hlw1
                    case hsw1 =>
                      intro listed a W p q hsz hj hk i0 o ho hi hi1 hi2 hc
                      have e1 := hk.read (t := 1) (by kernel_rfl) rfl
                      have e5 := hk.read (t := 5) (by kernel_rfl) rfl
                      have e6 := hk.read (t := 6) (by kernel_rfl) rfl
                      have e7 := hk.read (t := 7) (by kernel_rfl) rfl
                      match i0, hi, hi1, hi2 with
                      | 0, _, _, _ =>
                        obtain rfl := Option.some.inj ho
                        exact wpOp_val rfl rfl (v := .pointer (some ⟨b, 0, none⟩)) (w' := W) (by simp [go_sem, e5]) ⟨_, _, rfl, rfl, Below.refl _ _, rfl⟩
                      | 1, _, _, _ =>
                        obtain rfl := Option.some.inj ho
                        exact wpOp_val rfl rfl (v := .slice (some ⟨ab, off, none⟩) m c1) (w' := W) (by simp [go_sem, e1]) ⟨_, _, rfl, rfl, Below.refl _ _, rfl⟩
                      | 2, _, _, _ =>
                        obtain rfl := Option.some.inj ho
                        exact wpOp_val rfl rfl (v := .int .i64 (i : Int)) (w' := W) (by simp [go_sem, e7]) ⟨_, _, rfl, rfl, Below.refl _ _, rfl⟩
                      | 3, _, _, _ =>
                        obtain rfl := Option.some.inj ho
                        obtain ⟨v1, g1, f1⟩ := hk.got (j := 1) rfl rfl (hc ⟨1, .data⟩ (by simp) rfl)
                        obtain rfl : v1 = _ := f1
                        obtain ⟨v2, g2, f2⟩ := hk.got (j := 2) rfl rfl (hc ⟨2, .data⟩ (by simp) rfl)
                        obtain rfl : v2 = _ := f2
                        exact wpOp_val rfl rfl (v := .pointer (some ⟨ab, off + i * 7, none⟩)) (w' := W) (by simp [go_sem, g1, g2, u0, u1]) ⟨_, _, rfl, rfl, Below.refl _ _, rfl⟩
                      | 4, _, _, _ =>
                        obtain rfl := Option.some.inj ho
                        obtain ⟨v3, g3, f3⟩ := hk.got (j := 3) rfl rfl (hc ⟨3, .data⟩ (by simp) rfl)
                        obtain rfl : v3 = _ := f3
                        exact wpOp_val rfl rfl (v := .pointer (some ⟨ab, off + i * 7 + 1, none⟩)) (w' := W) (by simp [go_sem, g3]) ⟨_, _, rfl, rfl, Below.refl _ _, rfl⟩
                      | 5, _, _, _ =>
                        obtain rfl := Option.some.inj ho
                        obtain ⟨v4, g4, f4⟩ := hk.got (j := 4) rfl rfl (hc ⟨4, .data⟩ (by simp) rfl)
                        obtain rfl : v4 = _ := f4
                        have hx := HAc.out W hj.2.2
                        exact wpOp_val rfl rfl (v := .int .i64 A.i) (w' := W) (by simp [go_sem, g4, hx.ei]) ⟨_, _, rfl, rfl, Below.refl _ _, rfl⟩
                      | 6, _, _, _ =>
                        obtain rfl := Option.some.inj ho
                        exact wpOp_val rfl rfl (v := .slice (some ⟨ab, off, none⟩) m c1) (w' := W) (by simp [go_sem, e1]) ⟨_, _, rfl, rfl, Below.refl _ _, rfl⟩
                      | 7, _, _, _ =>
                        obtain rfl := Option.some.inj ho
                        exact wpOp_val rfl rfl (v := .int .i64 (i : Int)) (w' := W) (by simp [go_sem, e7]) ⟨_, _, rfl, rfl, Below.refl _ _, rfl⟩
                      | 8, _, _, _ =>
                        obtain rfl := Option.some.inj ho
                        obtain ⟨v6, g6, f6⟩ := hk.got (j := 6) rfl rfl (hc ⟨6, .data⟩ (by simp) rfl)
                        obtain rfl : v6 = _ := f6
                        obtain ⟨v7, g7, f7⟩ := hk.got (j := 7) rfl rfl (hc ⟨7, .data⟩ (by simp) rfl)
                        obtain rfl : v7 = _ := f7
                        exact wpOp_val rfl rfl (v := .pointer (some ⟨ab, off + i * 7, none⟩)) (w' := W) (by simp [go_sem, g6, g7, u0, u1]) ⟨_, _, rfl, rfl, Below.refl _ _, rfl⟩
                      | 9, _, _, _ =>
                        obtain rfl := Option.some.inj ho
                        obtain ⟨v8, g8, f8⟩ := hk.got (j := 8) rfl rfl (hc ⟨8, .data⟩ (by simp) rfl)
                        obtain rfl : v8 = _ := f8
                        exact wpOp_val rfl rfl (v := .pointer (some ⟨ab, off + i * 7 + 2, none⟩)) (w' := W) (by simp [go_sem, g8]) ⟨_, _, rfl, rfl, Below.refl _ _, rfl⟩
                      | 10, _, _, _ =>
                        obtain rfl := Option.some.inj ho
                        obtain ⟨v9, g9, f9⟩ := hk.got (j := 9) rfl rfl (hc ⟨9, .data⟩ (by simp) rfl)
                        obtain rfl : v9 = _ := f9
                        have hx := HAc.out W hj.2.2
                        exact wpOp_val rfl rfl (v := .string A.b) (w' := W) (by simp [go_sem, g9, hx.eb]) ⟨_, _, rfl, rfl, Below.refl _ _, rfl⟩
                      | 11, _, h, _ => exact absurd rfl h
                      | 12, _, _, _ =>
                        obtain rfl := Option.some.inj ho
                        obtain ⟨v11, g11, f11⟩ := hk.got (j := 11) rfl rfl (hc ⟨11, .data⟩ (by simp) rfl)
                        obtain rfl : v11 = _ := f11
                        refine wpOp_call rfl rfl (f := 12) (args := #[.int .i64 c]) (by simp [go_sem, g11]) ((num_any c W).mono ?_)
                        rintro e w2 ⟨rfl, hw⟩
                        replace hw := hw.symm
                        subst hw
                        exact ⟨_, rfl, _, _, rfl, rfl, Below.refl _ _, rfl⟩
                      | 13, _, _, _ =>
                        obtain rfl := Option.some.inj ho
                        exact wpOp_val rfl rfl (v := .pointer (some ⟨d, 0, none⟩)) (w' := W) (by simp [go_sem, e6]) ⟨_, _, rfl, rfl, Below.refl _ _, rfl⟩
                      | 14, _, _, _ =>
                        obtain rfl := Option.some.inj ho
                        exact wpOp_val rfl rfl (v := .slice (some ⟨ab, off, none⟩) m c1) (w' := W) (by simp [go_sem, e1]) ⟨_, _, rfl, rfl, Below.refl _ _, rfl⟩
                      | 15, _, _, _ =>
                        obtain rfl := Option.some.inj ho
                        exact wpOp_val rfl rfl (v := .int .i64 (i : Int)) (w' := W) (by simp [go_sem, e7]) ⟨_, _, rfl, rfl, Below.refl _ _, rfl⟩
                      | 16, _, _, _ =>
                        obtain rfl := Option.some.inj ho
                        obtain ⟨v14, g14, f14⟩ := hk.got (j := 14) rfl rfl (hc ⟨14, .data⟩ (by simp) rfl)
                        obtain rfl : v14 = _ := f14
                        obtain ⟨v15, g15, f15⟩ := hk.got (j := 15) rfl rfl (hc ⟨15, .data⟩ (by simp) rfl)
                        obtain rfl : v15 = _ := f15
                        exact wpOp_val rfl rfl (v := .pointer (some ⟨ab, off + i * 7, none⟩)) (w' := W) (by simp [go_sem, g14, g15, u0, u1]) ⟨_, _, rfl, rfl, Below.refl _ _, rfl⟩
                      | 17, _, _, _ =>
                        obtain rfl := Option.some.inj ho
                        obtain ⟨v16, g16, f16⟩ := hk.got (j := 16) rfl rfl (hc ⟨16, .data⟩ (by simp) rfl)
                        obtain rfl : v16 = _ := f16
                        exact wpOp_val rfl rfl (v := .pointer (some ⟨ab, off + i * 7 + 1, none⟩)) (w' := W) (by simp [go_sem, g16]) ⟨_, _, rfl, rfl, Below.refl _ _, rfl⟩
                      | 18, _, _, _ =>
                        obtain rfl := Option.some.inj ho
                        obtain ⟨v17, g17, f17⟩ := hk.got (j := 17) rfl rfl (hc ⟨17, .data⟩ (by simp) rfl)
                        obtain rfl : v17 = _ := f17
                        have hx := HAc.out W hj.2.2
                        exact wpOp_val rfl rfl (v := .int .i64 A.i) (w' := W) (by simp [go_sem, g17, hx.ei]) ⟨_, _, rfl, rfl, Below.refl _ _, rfl⟩
                      | 19, _, _, _ =>
                        obtain rfl := Option.some.inj ho
                        exact wpOp_val rfl rfl (v := .slice (some ⟨ab, off, none⟩) m c1) (w' := W) (by simp [go_sem, e1]) ⟨_, _, rfl, rfl, Below.refl _ _, rfl⟩
                      | 20, _, _, _ =>
                        obtain rfl := Option.some.inj ho
                        exact wpOp_val rfl rfl (v := .int .i64 (i : Int)) (w' := W) (by simp [go_sem, e7]) ⟨_, _, rfl, rfl, Below.refl _ _, rfl⟩
                      | 21, _, _, _ =>
                        obtain rfl := Option.some.inj ho
                        obtain ⟨v19, g19, f19⟩ := hk.got (j := 19) rfl rfl (hc ⟨19, .data⟩ (by simp) rfl)
                        obtain rfl : v19 = _ := f19
                        obtain ⟨v20, g20, f20⟩ := hk.got (j := 20) rfl rfl (hc ⟨20, .data⟩ (by simp) rfl)
                        obtain rfl : v20 = _ := f20
                        exact wpOp_val rfl rfl (v := .pointer (some ⟨ab, off + i * 7, none⟩)) (w' := W) (by simp [go_sem, g19, g20, u0, u1]) ⟨_, _, rfl, rfl, Below.refl _ _, rfl⟩
                      | 22, _, _, _ =>
                        obtain rfl := Option.some.inj ho
                        obtain ⟨v21, g21, f21⟩ := hk.got (j := 21) rfl rfl (hc ⟨21, .data⟩ (by simp) rfl)
                        obtain rfl : v21 = _ := f21
                        exact wpOp_val rfl rfl (v := .pointer (some ⟨ab, off + i * 7 + 2, none⟩)) (w' := W) (by simp [go_sem, g21]) ⟨_, _, rfl, rfl, Below.refl _ _, rfl⟩
                      | 23, _, _, _ =>
                        obtain rfl := Option.some.inj ho
                        obtain ⟨v22, g22, f22⟩ := hk.got (j := 22) rfl rfl (hc ⟨22, .data⟩ (by simp) rfl)
                        obtain rfl : v22 = _ := f22
                        have hx := HAc.out W hj.2.2
                        exact wpOp_val rfl rfl (v := .string A.b) (w' := W) (by simp [go_sem, g22, hx.eb]) ⟨_, _, rfl, rfl, Below.refl _ _, rfl⟩
                      | 24, _, _, h => exact absurd rfl h
                      | m + 25, hm, _, _ => exact absurd hm (by simp)
                    case hxw1 =>
                      intro listed a W hsz hj hk o ho hc
                      obtain rfl := Option.some.inj ho
                      obtain ⟨v0, g0, f0⟩ := hk.got (j := 0) rfl rfl (hc ⟨0, .data⟩ (by simp) rfl)
                      obtain rfl : v0 = _ := f0
                      obtain ⟨v5, g5, f5⟩ := hk.got (j := 5) rfl rfl (hc ⟨5, .data⟩ (by simp) rfl)
                      obtain rfl : v5 = _ := f5
                      obtain ⟨v10, g10, f10⟩ := hk.got (j := 10) rfl rfl (hc ⟨10, .data⟩ (by simp) rfl)
                      obtain rfl : v10 = _ := f10
                      obtain ⟨⟨lv, ha⟩, ⟨sv, dv, hd⟩, hbl⟩ := hj
                      simp only [Bool.false_eq_true, if_false] at ha hd
                      refine wpOp_call rfl rfl (f := 13) (args := #[.pointer (some ⟨b, 0, none⟩), .int .i64 A.i, .string A.b]) (by simp [go_sem, g0, g5, g10]) ((HWa.out _ b g W lv ha hbl.size).mono ?_)
                      rintro e w2 ⟨rfl, lv2, ha2, ht2⟩
                      have hb2 := ht2.below ha.hb ha.hg hbl.size
                      exact ⟨_, rfl, _, _, rfl, rfl, hb2, rfl, ⟨⟨lv2, ha2⟩, ⟨sv, dv, hd.keepA ha ht2⟩, hbl.trans hb2⟩, fun j u hj2 h => h⟩
                    case hyw1 =>
                      intro listed a W hsz hj hk o ho hc
                      obtain rfl := Option.some.inj ho
                      obtain ⟨v13, g13, f13⟩ := hk.got (j := 13) rfl rfl (hc ⟨13, .data⟩ (by simp) rfl)
                      obtain rfl : v13 = _ := f13
                      obtain ⟨v18, g18, f18⟩ := hk.got (j := 18) rfl rfl (hc ⟨18, .data⟩ (by simp) rfl)
                      obtain rfl : v18 = _ := f18
                      obtain ⟨v23, g23, f23⟩ := hk.got (j := 23) rfl rfl (hc ⟨23, .data⟩ (by simp) rfl)
                      obtain rfl : v23 = _ := f23
                      obtain ⟨⟨lv, ha⟩, ⟨sv, dv, hd⟩, hbl⟩ := hj
                      simp only [Bool.false_eq_true, if_false, if_true] at ha hd
                      refine wpOp_call rfl rfl (f := 14) (args := #[.pointer (some ⟨d, 0, none⟩), .int .i64 A.i, .string A.b]) (by simp [go_sem, g13, g18, g23]) ((HWd.out _ d W sv dv hd hbl.size).mono ?_)
                      rintro e w2 ⟨rfl, sv2, dv2, hd2, ht2⟩
                      have hb2 := ht2.below hd.hd hbl.size
                      exact ⟨_, rfl, _, _, rfl, rfl, hb2, rfl, ⟨⟨lv, ha.keepD hd ht2⟩, ⟨sv2, dv2, hd2⟩, hbl.trans hb2⟩, fun j u hj2 h => h⟩
                    case hlw1 =>
                      intro listed a W hsz hj hk hall
                      obtain ⟨v12, g12, f12⟩ := hk.got (j := 12) rfl rfl (hall 12 (by simp))
                      obtain rfl : v12 = _ := f12
                      obtain ⟨v24, g24, f24⟩ := hk.got (j := 24) rfl rfl (hall 24 (by simp))
                      obtain rfl : v24 = _ := f24
                      obtain ⟨⟨lv, ha⟩, ⟨sv, dv, hd⟩, hbl⟩ := hj
                      simp only [if_true] at ha hd
                      have hput := hk.puts
                      refine wpOp_valD (dd := some 76) rfl rfl rfl (v := .bool false) (w' := W) (by simp [go_sem, g12, g24]) ?_
                      rw [hput]
                      simp only [putT]
                      generalize a.tmps[51]?.getD undef = x51
                      generalize a.tmps[52]?.getD undef = x52
                      generalize a.tmps[53]?.getD undef = x53
                      generalize a.tmps[54]?.getD undef = x54
                      generalize a.tmps[55]?.getD undef = x55
                      generalize a.tmps[56]?.getD undef = x56
                      generalize a.tmps[57]?.getD undef = x57
                      generalize a.tmps[58]?.getD undef = x58
                      generalize a.tmps[59]?.getD undef = x59
                      generalize a.tmps[60]?.getD undef = x60
                      generalize a.tmps[61]?.getD undef = x61
                      generalize a.tmps[62]?.getD undef = x62
                      generalize a.tmps[63]?.getD undef = x63
                      generalize a.tmps[64]?.getD undef = x64
                      generalize a.tmps[65]?.getD undef = x65
                      generalize a.tmps[66]?.getD undef = x66
                      generalize a.tmps[67]?.getD undef = x67
                      generalize a.tmps[68]?.getD undef = x68
                      generalize a.tmps[69]?.getD undef = x69
                      generalize a.tmps[70]?.getD undef = x70
                      generalize a.tmps[71]?.getD undef = x71
                      generalize a.tmps[72]?.getD undef = x72
                      generalize a.tmps[73]?.getD undef = x73
                      generalize a.tmps[74]?.getD undef = x74
                      generalize a.tmps[75]?.getD undef = x75
                      generalize a.tmps[76]?.getD undef = x76
                      have HA2 : Hid (RunAt w.heap.size b g d (i + 1) W S2 D2) := Lib.hid ⟨HSim.out.1, HSim.out.2, ⟨lv, ha⟩, ⟨sv, dv, hd⟩⟩
                      have HB2 := Lib.hid hbl
                      clear hput ha hd hbl hk hall g12 g24 hsz
                      simp only [Act.put, List.setIfInBounds_toArray, List.set_cons_zero, List.set_cons_succ]
                      go_wp2
                      go_meet
                      exact ⟨_, _, HA2, HB2⟩
                  · have n2 : (A.d == 2) = true := by rw [hw]; rfl
                    have n2' : decide (A.d = 2) = true := decide_eq_true hw
                    have z0 : (A.d == 0) = false := by rw [hw]; rfl
                    have z0' : decide (A.d = 0) = false := by rw [hw]; rfl
                    have z1 : (A.d == 1) = false := by rw [hw]; rfl
                    have z1' : decide (A.d = 1) = false := by rw [hw]; rfl
                    clear hw s1 s1' s1''
                    go_upto_region 15 with (fail)
                    refine region_J2 (by kernel_rfl) (w.heap.size) 11 12 24 (fun _ _ oi ov _ => ov = [(.pointer (some ⟨b, 0, none⟩) : Value), .slice (some ⟨ab, off, none⟩) m c1, .int .i64 (i : Int), .pointer (some ⟨ab, off + i * 7, none⟩), .pointer (some ⟨ab, off + i * 7 + 1, none⟩), .int .i64 A.i, .slice (some ⟨ab, off, none⟩) m c1, .int .i64 (i : Int), .pointer (some ⟨ab, off + i * 7, none⟩), .pointer (some ⟨ab, off + i * 7 + 2, none⟩), .string A.b, .int .i64 c, .int .i64 c, .pointer (some ⟨d, 0, none⟩), .slice (some ⟨ab, off, none⟩) m c1, .int .i64 (i : Int), .pointer (some ⟨ab, off + i * 7, none⟩), .pointer (some ⟨ab, off + i * 7 + 1, none⟩), .int .i64 A.i, .slice (some ⟨ab, off, none⟩) m c1, .int .i64 (i : Int), .pointer (some ⟨ab, off + i * 7, none⟩), .pointer (some ⟨ab, off + i * 7 + 2, none⟩), .string A.b, .int .i64 c].getD oi undef) (fun p q W => RunJ w b g d (if p = true then S2 else S) (if q = true then D2 else D) W) (fun _ _ _ _ _ h hb => h.go hb) HJ0.out (fun _ _ _ _ _ _ _ h _ => h) (HB.out.size) (by kernel_rfl) (by kernel_rfl) (by kernel_rfl) (by decide) (by rfl) ?hsw2 ?hxw2 ?hyw2 ?hlw2
                    case hsw2 =>
                      intro listed a W p q hsz hj hk i0 o ho hi hi1 hi2 hc
                      have e1 := hk.read (t := 1) (by kernel_rfl) rfl
                      have e5 := hk.read (t := 5) (by kernel_rfl) rfl
                      have e6 := hk.read (t := 6) (by kernel_rfl) rfl
                      have e7 := hk.read (t := 7) (by kernel_rfl) rfl
                      match i0, hi, hi1, hi2 with
                      | 0, _, _, _ =>
                        obtain rfl := Option.some.inj ho
                        exact wpOp_val rfl rfl (v := .pointer (some ⟨b, 0, none⟩)) (w' := W) (by simp [go_sem, e5]) ⟨_, _, rfl, rfl, Below.refl _ _, rfl⟩
                      | 1, _, _, _ =>
                        obtain rfl := Option.some.inj ho
                        exact wpOp_val rfl rfl (v := .slice (some ⟨ab, off, none⟩) m c1) (w' := W) (by simp [go_sem, e1]) ⟨_, _, rfl, rfl, Below.refl _ _, rfl⟩
                      | 2, _, _, _ =>
                        obtain rfl := Option.some.inj ho
                        exact wpOp_val rfl rfl (v := .int .i64 (i : Int)) (w' := W) (by simp [go_sem, e7]) ⟨_, _, rfl, rfl, Below.refl _ _, rfl⟩
                      | 3, _, _, _ =>
                        obtain rfl := Option.some.inj ho
                        obtain ⟨v1, g1, f1⟩ := hk.got (j := 1) rfl rfl (hc ⟨1, .data⟩ (by simp) rfl)
                        obtain rfl : v1 = _ := f1
                        obtain ⟨v2, g2, f2⟩ := hk.got (j := 2) rfl rfl (hc ⟨2, .data⟩ (by simp) rfl)
                        obtain rfl : v2 = _ := f2
                        exact wpOp_val rfl rfl (v := .pointer (some ⟨ab, off + i * 7, none⟩)) (w' := W) (by simp [go_sem, g1, g2, u0, u1]) ⟨_, _, rfl, rfl, Below.refl _ _, rfl⟩
                      | 4, _, _, _ =>
                        obtain rfl := Option.some.inj ho
                        obtain ⟨v3, g3, f3⟩ := hk.got (j := 3) rfl rfl (hc ⟨3, .data⟩ (by simp) rfl)
                        obtain rfl : v3 = _ := f3
                        exact wpOp_val rfl rfl (v := .pointer (some ⟨ab, off + i * 7 + 1, none⟩)) (w' := W) (by simp [go_sem, g3]) ⟨_, _, rfl, rfl, Below.refl _ _, rfl⟩
                      | 5, _, _, _ =>
                        obtain rfl := Option.some.inj ho
                        obtain ⟨v4, g4, f4⟩ := hk.got (j := 4) rfl rfl (hc ⟨4, .data⟩ (by simp) rfl)
                        obtain rfl : v4 = _ := f4
                        have hx := HAc.out W hj.2.2
                        exact wpOp_val rfl rfl (v := .int .i64 A.i) (w' := W) (by simp [go_sem, g4, hx.ei]) ⟨_, _, rfl, rfl, Below.refl _ _, rfl⟩
                      | 6, _, _, _ =>
                        obtain rfl := Option.some.inj ho
                        exact wpOp_val rfl rfl (v := .slice (some ⟨ab, off, none⟩) m c1) (w' := W) (by simp [go_sem, e1]) ⟨_, _, rfl, rfl, Below.refl _ _, rfl⟩
                      | 7, _, _, _ =>
                        obtain rfl := Option.some.inj ho
                        exact wpOp_val rfl rfl (v := .int .i64 (i : Int)) (w' := W) (by simp [go_sem, e7]) ⟨_, _, rfl, rfl, Below.refl _ _, rfl⟩
                      | 8, _, _, _ =>
                        obtain rfl := Option.some.inj ho
                        obtain ⟨v6, g6, f6⟩ := hk.got (j := 6) rfl rfl (hc ⟨6, .data⟩ (by simp) rfl)
                        obtain rfl : v6 = _ := f6
                        obtain ⟨v7, g7, f7⟩ := hk.got (j := 7) rfl rfl (hc ⟨7, .data⟩ (by simp) rfl)
                        obtain rfl : v7 = _ := f7
                        exact wpOp_val rfl rfl (v := .pointer (some ⟨ab, off + i * 7, none⟩)) (w' := W) (by simp [go_sem, g6, g7, u0, u1]) ⟨_, _, rfl, rfl, Below.refl _ _, rfl⟩
                      | 9, _, _, _ =>
                        obtain rfl := Option.some.inj ho
                        obtain ⟨v8, g8, f8⟩ := hk.got (j := 8) rfl rfl (hc ⟨8, .data⟩ (by simp) rfl)
                        obtain rfl : v8 = _ := f8
                        exact wpOp_val rfl rfl (v := .pointer (some ⟨ab, off + i * 7 + 2, none⟩)) (w' := W) (by simp [go_sem, g8]) ⟨_, _, rfl, rfl, Below.refl _ _, rfl⟩
                      | 10, _, _, _ =>
                        obtain rfl := Option.some.inj ho
                        obtain ⟨v9, g9, f9⟩ := hk.got (j := 9) rfl rfl (hc ⟨9, .data⟩ (by simp) rfl)
                        obtain rfl : v9 = _ := f9
                        have hx := HAc.out W hj.2.2
                        exact wpOp_val rfl rfl (v := .string A.b) (w' := W) (by simp [go_sem, g9, hx.eb]) ⟨_, _, rfl, rfl, Below.refl _ _, rfl⟩
                      | 11, _, h, _ => exact absurd rfl h
                      | 12, _, _, _ =>
                        obtain rfl := Option.some.inj ho
                        obtain ⟨v11, g11, f11⟩ := hk.got (j := 11) rfl rfl (hc ⟨11, .data⟩ (by simp) rfl)
                        obtain rfl : v11 = _ := f11
                        refine wpOp_call rfl rfl (f := 12) (args := #[.int .i64 c]) (by simp [go_sem, g11]) ((num_any c W).mono ?_)
                        rintro e w2 ⟨rfl, hw⟩
                        replace hw := hw.symm
                        subst hw
                        exact ⟨_, rfl, _, _, rfl, rfl, Below.refl _ _, rfl⟩
                      | 13, _, _, _ =>
                        obtain rfl := Option.some.inj ho
                        exact wpOp_val rfl rfl (v := .pointer (some ⟨d, 0, none⟩)) (w' := W) (by simp [go_sem, e6]) ⟨_, _, rfl, rfl, Below.refl _ _, rfl⟩
                      | 14, _, _, _ =>
                        obtain rfl := Option.some.inj ho
                        exact wpOp_val rfl rfl (v := .slice (some ⟨ab, off, none⟩) m c1) (w' := W) (by simp [go_sem, e1]) ⟨_, _, rfl, rfl, Below.refl _ _, rfl⟩
                      | 15, _, _, _ =>
                        obtain rfl := Option.some.inj ho
                        exact wpOp_val rfl rfl (v := .int .i64 (i : Int)) (w' := W) (by simp [go_sem, e7]) ⟨_, _, rfl, rfl, Below.refl _ _, rfl⟩
                      | 16, _, _, _ =>
                        obtain rfl := Option.some.inj ho
                        obtain ⟨v14, g14, f14⟩ := hk.got (j := 14) rfl rfl (hc ⟨14, .data⟩ (by simp) rfl)
                        obtain rfl : v14 = _ := f14
                        obtain ⟨v15, g15, f15⟩ := hk.got (j := 15) rfl rfl (hc ⟨15, .data⟩ (by simp) rfl)
                        obtain rfl : v15 = _ := f15
                        exact wpOp_val rfl rfl (v := .pointer (some ⟨ab, off + i * 7, none⟩)) (w' := W) (by simp [go_sem, g14, g15, u0, u1]) ⟨_, _, rfl, rfl, Below.refl _ _, rfl⟩
                      | 17, _, _, _ =>
                        obtain rfl := Option.some.inj ho
                        obtain ⟨v16, g16, f16⟩ := hk.got (j := 16) rfl rfl (hc ⟨16, .data⟩ (by simp) rfl)
                        obtain rfl : v16 = _ := f16
                        exact wpOp_val rfl rfl (v := .pointer (some ⟨ab, off + i * 7 + 1, none⟩)) (w' := W) (by simp [go_sem, g16]) ⟨_, _, rfl, rfl, Below.refl _ _, rfl⟩
                      | 18, _, _, _ =>
                        obtain rfl := Option.some.inj ho
                        obtain ⟨v17, g17, f17⟩ := hk.got (j := 17) rfl rfl (hc ⟨17, .data⟩ (by simp) rfl)
                        obtain rfl : v17 = _ := f17
                        have hx := HAc.out W hj.2.2
                        exact wpOp_val rfl rfl (v := .int .i64 A.i) (w' := W) (by simp [go_sem, g17, hx.ei]) ⟨_, _, rfl, rfl, Below.refl _ _, rfl⟩
                      | 19, _, _, _ =>
                        obtain rfl := Option.some.inj ho
                        exact wpOp_val rfl rfl (v := .slice (some ⟨ab, off, none⟩) m c1) (w' := W) (by simp [go_sem, e1]) ⟨_, _, rfl, rfl, Below.refl _ _, rfl⟩
                      | 20, _, _, _ =>
                        obtain rfl := Option.some.inj ho
                        exact wpOp_val rfl rfl (v := .int .i64 (i : Int)) (w' := W) (by simp [go_sem, e7]) ⟨_, _, rfl, rfl, Below.refl _ _, rfl⟩
                      | 21, _, _, _ =>
                        obtain rfl := Option.some.inj ho
                        obtain ⟨v19, g19, f19⟩ := hk.got (j := 19) rfl rfl (hc ⟨19, .data⟩ (by simp) rfl)
                        obtain rfl : v19 = _ := f19
                        obtain ⟨v20, g20, f20⟩ := hk.got (j := 20) rfl rfl (hc ⟨20, .data⟩ (by simp) rfl)
                        obtain rfl : v20 = _ := f20
                        exact wpOp_val rfl rfl (v := .pointer (some ⟨ab, off + i * 7, none⟩)) (w' := W) (by simp [go_sem, g19, g20, u0, u1]) ⟨_, _, rfl, rfl, Below.refl _ _, rfl⟩
                      | 22, _, _, _ =>
                        obtain rfl := Option.some.inj ho
                        obtain ⟨v21, g21, f21⟩ := hk.got (j := 21) rfl rfl (hc ⟨21, .data⟩ (by simp) rfl)
                        obtain rfl : v21 = _ := f21
                        exact wpOp_val rfl rfl (v := .pointer (some ⟨ab, off + i * 7 + 2, none⟩)) (w' := W) (by simp [go_sem, g21]) ⟨_, _, rfl, rfl, Below.refl _ _, rfl⟩
                      | 23, _, _, _ =>
                        obtain rfl := Option.some.inj ho
                        obtain ⟨v22, g22, f22⟩ := hk.got (j := 22) rfl rfl (hc ⟨22, .data⟩ (by simp) rfl)
                        obtain rfl : v22 = _ := f22
                        have hx := HAc.out W hj.2.2
                        exact wpOp_val rfl rfl (v := .string A.b) (w' := W) (by simp [go_sem, g22, hx.eb]) ⟨_, _, rfl, rfl, Below.refl _ _, rfl⟩
                      | 24, _, _, h => exact absurd rfl h
                      | m + 25, hm, _, _ => exact absurd hm (by simp)
                    case hxw2 =>
                      intro listed a W hsz hj hk o ho hc
                      obtain rfl := Option.some.inj ho
                      obtain ⟨v0, g0, f0⟩ := hk.got (j := 0) rfl rfl (hc ⟨0, .data⟩ (by simp) rfl)
                      obtain rfl : v0 = _ := f0
                      obtain ⟨v5, g5, f5⟩ := hk.got (j := 5) rfl rfl (hc ⟨5, .data⟩ (by simp) rfl)
                      obtain rfl : v5 = _ := f5
                      obtain ⟨v10, g10, f10⟩ := hk.got (j := 10) rfl rfl (hc ⟨10, .data⟩ (by simp) rfl)
                      obtain rfl : v10 = _ := f10
                      obtain ⟨⟨lv, ha⟩, ⟨sv, dv, hd⟩, hbl⟩ := hj
                      simp only [Bool.false_eq_true, if_false] at ha hd
                      refine wpOp_call rfl rfl (f := 13) (args := #[.pointer (some ⟨b, 0, none⟩), .int .i64 A.i, .string A.b]) (by simp [go_sem, g0, g5, g10]) ((HWa.out _ b g W lv ha hbl.size).mono ?_)
                      rintro e w2 ⟨rfl, lv2, ha2, ht2⟩
                      have hb2 := ht2.below ha.hb ha.hg hbl.size
                      exact ⟨_, rfl, _, _, rfl, rfl, hb2, rfl, ⟨⟨lv2, ha2⟩, ⟨sv, dv, hd.keepA ha ht2⟩, hbl.trans hb2⟩, fun j u hj2 h => h⟩
                    case hyw2 =>
                      intro listed a W hsz hj hk o ho hc
                      obtain rfl := Option.some.inj ho
                      obtain ⟨v13, g13, f13⟩ := hk.got (j := 13) rfl rfl (hc ⟨13, .data⟩ (by simp) rfl)
                      obtain rfl : v13 = _ := f13
                      obtain ⟨v18, g18, f18⟩ := hk.got (j := 18) rfl rfl (hc ⟨18, .data⟩ (by simp) rfl)
                      obtain rfl : v18 = _ := f18
                      obtain ⟨v23, g23, f23⟩ := hk.got (j := 23) rfl rfl (hc ⟨23, .data⟩ (by simp) rfl)
                      obtain rfl : v23 = _ := f23
                      obtain ⟨⟨lv, ha⟩, ⟨sv, dv, hd⟩, hbl⟩ := hj
                      simp only [Bool.false_eq_true, if_false, if_true] at ha hd
                      refine wpOp_call rfl rfl (f := 14) (args := #[.pointer (some ⟨d, 0, none⟩), .int .i64 A.i, .string A.b]) (by simp [go_sem, g13, g18, g23]) ((HWd.out _ d W sv dv hd hbl.size).mono ?_)
                      rintro e w2 ⟨rfl, sv2, dv2, hd2, ht2⟩
                      have hb2 := ht2.below hd.hd hbl.size
                      exact ⟨_, rfl, _, _, rfl, rfl, hb2, rfl, ⟨⟨lv, ha.keepD hd ht2⟩, ⟨sv2, dv2, hd2⟩, hbl.trans hb2⟩, fun j u hj2 h => h⟩
                    case hlw2 =>
                      intro listed a W hsz hj hk hall
                      obtain ⟨v12, g12, f12⟩ := hk.got (j := 12) rfl rfl (hall 12 (by simp))
                      obtain rfl : v12 = _ := f12
                      obtain ⟨v24, g24, f24⟩ := hk.got (j := 24) rfl rfl (hall 24 (by simp))
                      obtain rfl : v24 = _ := f24
                      obtain ⟨⟨lv, ha⟩, ⟨sv, dv, hd⟩, hbl⟩ := hj
                      simp only [if_true] at ha hd
                      have hput := hk.puts
                      refine wpOp_valD (dd := some 76) rfl rfl rfl (v := .bool false) (w' := W) (by simp [go_sem, g12, g24]) ?_
                      rw [hput]
                      simp only [putT]
                      generalize a.tmps[51]?.getD undef = x51
                      generalize a.tmps[52]?.getD undef = x52
                      generalize a.tmps[53]?.getD undef = x53
                      generalize a.tmps[54]?.getD undef = x54
                      generalize a.tmps[55]?.getD undef = x55
                      generalize a.tmps[56]?.getD undef = x56
                      generalize a.tmps[57]?.getD undef = x57
                      generalize a.tmps[58]?.getD undef = x58
                      generalize a.tmps[59]?.getD undef = x59
                      generalize a.tmps[60]?.getD undef = x60
                      generalize a.tmps[61]?.getD undef = x61
                      generalize a.tmps[62]?.getD undef = x62
                      generalize a.tmps[63]?.getD undef = x63
                      generalize a.tmps[64]?.getD undef = x64
                      generalize a.tmps[65]?.getD undef = x65
                      generalize a.tmps[66]?.getD undef = x66
                      generalize a.tmps[67]?.getD undef = x67
                      generalize a.tmps[68]?.getD undef = x68
                      generalize a.tmps[69]?.getD undef = x69
                      generalize a.tmps[70]?.getD undef = x70
                      generalize a.tmps[71]?.getD undef = x71
                      generalize a.tmps[72]?.getD undef = x72
                      generalize a.tmps[73]?.getD undef = x73
                      generalize a.tmps[74]?.getD undef = x74
                      generalize a.tmps[75]?.getD undef = x75
                      generalize a.tmps[76]?.getD undef = x76
                      have HA2 : Hid (RunAt w.heap.size b g d (i + 1) W S2 D2) := Lib.hid ⟨HSim.out.1, HSim.out.2, ⟨lv, ha⟩, ⟨sv, dv, hd⟩⟩
                      have HB2 := Lib.hid hbl
                      clear hput ha hd hbl hk hall g12 g24 hsz
                      simp only [Act.put, List.setIfInBounds_toArray, List.set_cons_zero, List.set_cons_succ]
                      go_wp2
                      go_meet
                      exact ⟨_, _, HA2, HB2⟩
                · have z0 : (A.d == 0) = false := beq_eq_false_iff_ne.2 fun e => hw (.inl e)
                  have z1 : (A.d == 1) = false := beq_eq_false_iff_ne.2 fun e => hw (.inr (.inl e))
                  have z2 : (A.d == 2) = false := beq_eq_false_iff_ne.2 fun e => hw (.inr (.inr e))
                  have z0' : decide (A.d = 0) = false := decide_eq_false fun e => hw (.inl e)
                  have z1' : decide (A.d = 1) = false := decide_eq_false fun e => hw (.inr (.inl e))
                  have z2' : decide (A.d = 2) = false := decide_eq_false fun e => hw (.inr (.inr e))
                  clear hw
                  by_cases h3 : A.d = 3
                  · have n3 : (A.d == 3) = true := by rw [h3]; rfl
                    have n3' : decide (A.d = 3) = true := decide_eq_true h3
                    clear h3
                    obtain ⟨c, S2, D2, hsim, hcr2, hwa, hwd⟩ := run_sync HA.out.sim (by have := HI6.out; omega) HA.out.cr
                    have HSim := Lib.hid (And.intro hsim hcr2)
                    have HWa := Lib.hid hwa
                    have HWd := Lib.hid hwd
                    obtain ⟨lv, ha⟩ := HA.out.a
                    obtain ⟨sv, dv, hd⟩ := HA.out.d
                    have Ha := Lib.hid ha
                    have Hd := Lib.hid hd
                    clear hsim hcr2 hwa hwd z0 z1 z2 z0' z1' z2' ha hd
                    go_wp2_with (first
                      | (go_at_call 15; refine (HWa.out _ b g _ lv Ha.out HB.out.size).mono ?_; rintro e w2 ⟨rfl, lv2, ha2, ht2⟩; have Ha2 := Lib.hid ha2; have Hd2 := Lib.hid (Hd.out.keepA Ha.out ht2); have HB2 := Lib.hid (HB.out.trans (ht2.below Ha.out.hb Ha.out.hg HB.out.size)); clear ha2 ht2)
                      | (go_at_call 16; refine (HWd.out _ d _ sv dv Hd2.out HB2.out.size).mono ?_; rintro e w3 ⟨rfl, sv3, dv3, hd3, ht3⟩; have Hd3 := Lib.hid hd3; have Ha3 := Lib.hid (Ha2.out.keepD Hd2.out ht3); have HB3 := Lib.hid (HB2.out.trans (ht3.below Hd2.out.hd HB2.out.size)); clear hd3 ht3)
                      | (go_at_call 12; refine (HNum.out _ _).mono ?_; rintro e w7 ⟨rfl, hw⟩; replace hw := hw.symm; subst hw))
                    go_meet
                    exact ⟨_, _, Lib.hid ⟨HSim.out.1, HSim.out.2, ⟨_, Ha3.out⟩, ⟨_, _, Hd3.out⟩⟩, HB3⟩
                  · have z3 : (A.d == 3) = false := beq_eq_false_iff_ne.2 h3
                    have z3' : decide (A.d = 3) = false := decide_eq_false h3
                    clear h3
                    by_cases h4 : A.d = 4
                    · have n4 : (A.d == 4) = true := by rw [h4]; rfl
                      have n4' : decide (A.d = 4) = true := decide_eq_true h4
                      clear h4
                      obtain ⟨lv, ha⟩ := HA.out.a
                      obtain ⟨sv, dv, hd⟩ := HA.out.d
                      have Ha := Lib.hid ha
                      have Hd := Lib.hid hd
                      have y1 := (HAc.out wr HB.out).ei
                      have HSim := Lib.hid (HA.out.sim.tear A.i (fun _ => .inr trivial))
                      clear z0 z1 z2 z0' z1' z2' z3 z3' ha hd
                      go_wp2_with (first
                        | (go_at_call 17; refine (tear_any Ha.out A.i).mono ?_; rintro e w2 ⟨rfl, ha2, ht2⟩; have Ha2 := Lib.hid ha2; have Hd2 := Lib.hid (Hd.out.keepA Ha.out ht2); have HB2 := Lib.hid (HB.out.trans (ht2.below Ha.out.hb Ha.out.hg HB.out.size)); have y2 := (HAc.out w2 HB2.out).ei; clear ha2 ht2)
                        | (go_at_call 18; refine (tearD_any Hd2.out A.i).mono ?_; rintro e w3 ⟨rfl, hd3, ht3⟩; have Hd3 := Lib.hid hd3; have Ha3 := Lib.hid (Ha2.out.keepD Hd2.out ht3); have HB3 := Lib.hid (HB2.out.trans (ht3.below Hd2.out.hd HB2.out.size)); clear hd3 ht3))
                      go_meet
                      exact ⟨_, _, Lib.hid ⟨HSim.out, HW.out.1.2, ⟨_, Ha3.out⟩, ⟨_, _, Hd3.out⟩⟩, HB3⟩
                    · have z4 : (A.d == 4) = false := beq_eq_false_iff_ne.2 h4
                      have z4' : decide (A.d = 4) = false := decide_eq_false h4
                      clear h4
                      by_cases h5 : A.d = 5
                      · have n5 : (A.d == 5) = true := by rw [h5]; rfl
                        have n5' : decide (A.d = 5) = true := decide_eq_true h5
                        clear h5
                        obtain ⟨S2, D2, hsim, hcr2, hwa, hwd⟩ := run_fall HA.out.sim (by have := HI6.out; omega) A.p0 A.p1 A.p2 A.p3 HW.out.2.2
                        have HSim := Lib.hid (And.intro hsim hcr2)
                        have HWa := Lib.hid hwa
                        have HWd := Lib.hid hwd
                        obtain ⟨lv, ha⟩ := HA.out.a
                        obtain ⟨sv, dv, hd⟩ := HA.out.d
                        have Ha := Lib.hid ha
                        have Hd := Lib.hid hd
                        have y := HAc.out wr HB.out
                        have y0 := y.e0
                        have y1 := y.e1
                        have y2 := y.e2
                        have y3 := y.e3
                        clear hsim hcr2 hwa hwd z0 z1 z2 z0' z1' z2' z3 z3' z4 z4' ha hd y
                        go_wp2_with (first
                          | (go_at_call 19; refine (HWa.out _ b g _ lv Ha.out HB.out.size).mono ?_; rintro e w2 ⟨rfl, lv2, ha2, ht2⟩; have Ha2 := Lib.hid ha2; have Hd2 := Lib.hid (Hd.out.keepA Ha.out ht2); have HB2 := Lib.hid (HB.out.trans (ht2.below Ha.out.hb Ha.out.hg HB.out.size)); (have yy := HAc.out w2 HB2.out; have yy0 := yy.e0; have yy1 := yy.e1; have yy2 := yy.e2; have yy3 := yy.e3; clear yy); clear ha2 ht2)
                          | (go_at_call 20; refine (HWd.out _ d _ sv dv Hd2.out HB2.out.size).mono ?_; rintro e w3 ⟨rfl, sv3, dv3, hd3, ht3⟩; have Hd3 := Lib.hid hd3; have Ha3 := Lib.hid (Ha2.out.keepD Hd2.out ht3); have HB3 := Lib.hid (HB2.out.trans (ht3.below Hd2.out.hd HB2.out.size)); clear hd3 ht3))
                        go_meet
                        exact ⟨_, _, Lib.hid ⟨HSim.out.1, HSim.out.2, ⟨_, Ha3.out⟩, ⟨_, _, Hd3.out⟩⟩, HB3⟩
                      · have z5 : (A.d == 5) = false := beq_eq_false_iff_ne.2 h5
                        have z5' : decide (A.d = 5) = false := decide_eq_false h5
                        clear h5
                        go_wp2
                        go_meet
                        exact ⟨_, _, Lib.hid ⟨HA.out.sim.more (Nat.le_succ i), HA.out.cr, HA.out.a, HA.out.d⟩, HB⟩
              case rest =>
                obtain ⟨S2, D2, HA2, HB2⟩ := hcut
                rename World => wx
                obtain ⟨lv, ha⟩ := HA2.out.a
                obtain ⟨sv, dv, hd⟩ := HA2.out.d
                have hsim := HA2.out.sim
                obtain ⟨sa, sc, hsv⟩ := slice_of hd.safe
                obtain ⟨da, dc, hdv⟩ := slice_of hd.row
                obtain ⟨ln, hln⟩ : ∃ k, k = D2.sf.length := ⟨_, rfl⟩
                obtain ⟨ll, hll⟩ : ∃ k, k = D2.lo.length := ⟨_, rfl⟩
                obtain ⟨q, hq⟩ : ∃ q, q = D2.off := ⟨_, rfl⟩
                rw [← hln] at hsv
                rw [← hll] at hdv
                subst hsv hdv
                have hln4 : ln ≤ 40 := by rw [hln]; exact hsim.most
                obtain ⟨k0, k1, _, k3⟩ := hd.cells
                rw [← hq] at k3
                have hsp : SpR w.heap.size b g d wx S2 lv (.slice sa ln sc) (.slice da ll dc) q wx := ⟨k0, k1, k3, ha, Below.refl _ _⟩
                have HDn : Hid (∀ W, SpR w.heap.size b g d wx S2 lv (.slice sa ln sc) (.slice da ll dc) q W → Calls Try.prog 21 #[.pointer (some ⟨b, 0, none⟩)] W fun e w' => e = .returned (.bool q) ∧ SpR w.heap.size b g d wx S2 lv (.slice sa ln sc) (.slice da ll dc) q w') := Lib.hid (fun W h => by
                  have h9 := down_any h.2.2.2.1
                  rw [hsim.dn, ← hq] at h9
                  exact h9.mono fun e w' ⟨h1, h2⟩ => ⟨h1, by rw [h2]; exact h⟩)
                have HLo : Hid (∀ W, SpR w.heap.size b g d wx S2 lv (.slice sa ln sc) (.slice da ll dc) q W → Calls Try.prog 22 #[.pointer (some ⟨b, 0, none⟩)] W fun e w' => e = .returned (.int .i64 (ll : Int)) ∧ SpR w.heap.size b g d wx S2 lv (.slice sa ln sc) (.slice da ll dc) q w') := Lib.hid (fun W h => by
                  have h9 := loose_any h.2.2.2.1
                  rw [hsim.lo_len, ← hll] at h9
                  exact h9.mono fun e w' ⟨h1, h2⟩ => ⟨h1, by rw [h2]; exact h⟩)
                have HSz : Hid (∀ W, SpR w.heap.size b g d wx S2 lv (.slice sa ln sc) (.slice da ll dc) q W → Calls Try.prog 23 #[.pointer (some ⟨b, 0, none⟩)] W fun e w' => e = .returned (.int .i64 (ln : Int)) ∧ SpR w.heap.size b g d wx S2 lv (.slice sa ln sc) (.slice da ll dc) q w') := Lib.hid (fun W h => by
                  have h9 := size_any h.2.2.2.1
                  rw [hsim.len, ← hln] at h9
                  exact h9.mono fun e w' ⟨h1, h2⟩ => ⟨h1, by rw [h2]; exact h⟩)
                have HRd : Hid (∀ i : Int, ∃ T c, RdA S2 T c i ∧ RdD D2 T c i) := Lib.hid (fun i' => run_read hsim (by have := HI6.out; omega) i')
                have hst0 : SpR w.heap.size b g d wx S2 lv (.slice sa ln sc) (.slice da ll dc) q wx.drew := ⟨k0, k1, k3, ha.below (Below.refl _ _).drew, (Below.refl _ _).drew⟩
                have HAd := Lib.hid (fun W (h : Below wx.heap.size wx W) => ha.below h)
                have HDd := Lib.hid (fun W (h : Below wx.heap.size wx W) => hd.below h)
                have b1 : (q != q) = false := by cases q <;> rfl
                clear hsim hln hll hq ha hd k0 k1 k3 hsp x0 x2
                go_upto_region 26 with (fail)
                refine region_det (by kernel_rfl) (SpR w.heap.size b g d wx S2 lv (.slice sa ln sc) (.slice da ll dc) q) (hst0) (by kernel_rfl) ?_
                simp only [List.toList_toArray]
                repeat' (first
                  | (apply det_val; (case hw => rfl); (case hv => (intro w' hS; (obtain ⟨s0, s1, s2, _, _⟩ := hS); go_simp; first | done | with_reducible exact rfl)); (simp only [Act.put, List.setIfInBounds_toArray, List.set_cons_zero, List.set_cons_succ]))
                  | (apply det_call; (case hw => rfl); (case hv => (intro w' hS; (obtain ⟨s0, s1, s2, _, _⟩ := hS); go_simp; first | done | with_reducible exact rfl | with_reducible exact ⟨rfl, rfl⟩)); (case hc => (intro w' hS; (first | (go_at_call 21; with_reducible exact HDn.out w' hS) | (go_at_call 22; with_reducible exact HLo.out w' hS) | (go_at_call 23; with_reducible exact HSz.out w' hS)))); (simp only [Act.put, List.setIfInBounds_toArray, List.set_cons_zero, List.set_cons_succ]))
                  | fail)
                intro wz hSz
                have HSz := Lib.hid hSz
                have HBz := Lib.hid hSz.2.2.2.2
                have k0 := hSz.1
                clear hSz hst0
                go_wp2
                go_loopw [8] (fun kv wy => ∃ j : Nat, j ≤ ln + 2 ∧ kv = .int .i64 ((j : Int) - 1) ∧ Hid (Below wz.heap.size wz wy)) (fun kv wy => ln + 2 - (intOf kv + 1).toNat)
                case atStart => exact ⟨0, by omega, rfl, Lib.hid (Below.refl _ _)⟩
                case round =>
                  obtain ⟨j, hj, rfl, HBy⟩ := hrel
                  rename World => wy
                  have hby := bthenS HBz.out HBy.out
                  have HDy := Lib.hid (HDd.out wy hby)
                  have HAy := Lib.hid (HAd.out wy hby)
                  have HBw := Lib.hid (bthenS HB2.out hby)
                  have k9 := HDy.out.cells.1
                  obtain ⟨T, c, hra, hrd⟩ := HRd.out ((j : Int) - 1)
                  have HRa := Lib.hid (hra _ b g wy lv HAy.out)
                  have HRr := Lib.hid (hrd _ d wy _ _ HDy.out)
                  obtain ⟨kx, hkx⟩ : ∃ x, x = (j : Int) - 1 := ⟨_, rfl⟩
                  rw [← hkx] at HRa HRr ⊢
                  have HKx := Lib.hid hkx
                  clear hra hrd hby
                  by_cases hjl : j < ln + 2
                  · have g1 : decide (kx ≤ (ln : Int)) = true := by simp; omega
                    have w8 : IntKind.i64.wrap (kx + 1) = kx + 1 := IntWalk.i64_in _ (by omega)
                    clear hkx
                    go_wp2_with (first
                      | (go_at_call 24; refine HRa.out.mono ?_; rintro e w7 ⟨rfl, hw⟩; replace hw := hw.symm; subst hw)
                      | (go_at_call 25; refine HRr.out.mono ?_; rintro e w8 ⟨rfl, hb8⟩; have HB8 := Lib.hid (bthenS HBy.out hb8); clear hb8)
                      | (go_at_call 12; refine (HNum.out _ _).mono ?_; rintro e w7 ⟨rfl, hw⟩; replace hw := hw.symm; subst hw))
                    go_roundw
                    case rel => exact ⟨j + 1, by omega, by rw [HKx.out]; congr 1; omega, HB8⟩
                    case measure => have := HKx.out; simp [intOf]; omega
                  · have g1 : decide (kx ≤ (ln : Int)) = false := by simp; omega
                    have HAz := Lib.hid (HA2.out.below (bthenS HBz.out HBy.out))
                    clear hkx
                    go_wp2
                    go_roundw
                    case rel => exact ⟨i + 1, _, _, by omega, by go_num, HAz, HBw⟩
                    case measure => simp [intOf]; omega
          · obtain rfl : i = m := by omega
            have r1 : decide ((i : Int) < (i : Int)) = false := by simp
            have r1' : decide (i < i) = false := by simp
            go_wp2_with (go_at_call 9; refine (HAw.out _).mono ?_; rintro e w9 ⟨rfl, hb9⟩; have HB9 := Lib.hid (bthenS HB.out hb9); clear hb9)
            go_ret
            exact ⟨rfl, HB9.out⟩
end Go.Proofs.Ytgmlgjdibpphaaa
