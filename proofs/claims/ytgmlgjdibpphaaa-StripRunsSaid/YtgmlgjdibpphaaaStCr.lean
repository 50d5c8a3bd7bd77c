/- strip.crashes, Sync: the walks (written by tools/gen_st.py). -/
import Derived.Test.YtgmlgjdibpphaaaStMem
import Derived.Test.YtgmlgjdibpphaaaRegJ
namespace Go.Proofs.Ytgmlgjdibpphaaa
open Go.RowKit
set_option linter.unusedVariables false
set_option linter.unusedSimpArgs false

set_option maxRecDepth 100000 in
set_option maxHeartbeats 1000000 in
theorem crashes_any {B b g : Nat} {w : World} {bl : List Blk} {lo : List (Nat × Blk)} {ch cr : Int} {dn : Bool} {lv : Value} (h : StA B b g w ⟨bl, lo, ch, cr, dn⟩ lv) (hB : B ≤ w.heap.size) (h0 : 0 ≤ ch) (h1 : ch ≤ 1000000000) : Calls Try.prog 29 #[.pointer (some ⟨b, 0, none⟩)] w fun e w' => e = .returned (.bool (ch + 1 == cr)) ∧ StA B b g w' ⟨bl, lo, ch + 1, cr, ch + 1 == cr⟩ lv ∧ Tch B b g w w' := by
  obtain ⟨c0, c1, c2, c3, c4⟩ := h.cells
  dsimp only at c0 c1 c2 c3 c4
  obtain ⟨q, hq⟩ : ∃ q, q = (ch + 1 == cr) := ⟨_, rfl⟩
  rw [← hq]
  have hqb : decide (ch + 1 = cr) = q := by
    rw [hq]
    by_cases he : ch + 1 = cr <;> simp [he]
  clear hq
  go_enter Try.func29, Try.ntmps29
  go_upto_region 1 with (fail)
  refine region_J (by kernel_rfl) (B) 4 9 (fun _ _ i v _ => v = [(.pointer (some ⟨b, 0, none⟩) : Value), .pointer (some ⟨b, 0, none⟩), .pointer (some ⟨b, 0, none⟩), .pointer (some ⟨b, 2, none⟩), .int .i64 (ch + 1), .pointer (some ⟨b, 0, none⟩), .pointer (some ⟨b, 0, none⟩), .pointer (some ⟨b, 3, none⟩), .int .i64 cr, .bool q, .pointer (some ⟨b, 0, none⟩), .pointer (some ⟨b, 4, none⟩)].getD i undef) (fun p _ W => (p = false → StA B b g W ⟨bl, lo, ch, cr, dn⟩ lv) ∧ (p = true → StA B b g W ⟨bl, lo, ch + 1, cr, dn⟩ lv) ∧ W.cell? ⟨b, 3, none⟩ = some (.int .i64 cr) ∧ Tch B b g w W) (fun p q W W1 _ h hb => ⟨fun e => (h.1 e).below hb, fun e => (h.2.1 e).below hb, (hb.cell (p := ⟨b, 3, none⟩) (World.block_lt_of_cell? W _ h.2.2.1)).trans h.2.2.1, h.2.2.2.trans (Tch.of_below hb)⟩) ⟨fun _ => h, fun e => absurd e (by decide), c3, Tch.refl B b g w⟩ (fun _ _ _ _ _ _ _ h _ => h) (hB) (by kernel_rfl) (by kernel_rfl) (by decide) (by rfl) ?hs1 ?hx1 ?hy1 ?hl1
  case hs1 =>
    intro listed a W p q hsz hj hk i0 o ho hi hi1 hi2 hc
    have e0 := hk.read (t := 0) (by kernel_rfl) rfl
    match i0, hi, hi1, hi2 with
    | 0, _, _, _ =>
      obtain rfl := Option.some.inj ho
      exact wpOp_val rfl rfl (v := .pointer (some ⟨b, 0, none⟩)) (w' := W) (by simp [go_sem, e0]) ⟨_, _, rfl, rfl, Below.refl _ _, rfl⟩
    | 1, _, _, _ =>
      obtain rfl := Option.some.inj ho
      exact wpOp_val rfl rfl (v := .pointer (some ⟨b, 0, none⟩)) (w' := W) (by simp [go_sem, e0]) ⟨_, _, rfl, rfl, Below.refl _ _, rfl⟩
    | 2, _, _, _ =>
      obtain rfl := Option.some.inj ho
      obtain ⟨v1, g1, f1⟩ := hk.got (j := 1) rfl rfl (hc ⟨1, .data⟩ (by simp) rfl)
      obtain rfl : v1 = _ := f1
      exact wpOp_val rfl rfl (v := .pointer (some ⟨b, 0, none⟩)) (w' := W) (by simp [go_sem, g1]) ⟨_, _, rfl, rfl, Below.refl _ _, rfl⟩
    | 3, _, _, _ =>
      obtain rfl := Option.some.inj ho
      obtain ⟨v2, g2, f2⟩ := hk.got (j := 2) rfl rfl (hc ⟨2, .data⟩ (by simp) rfl)
      obtain rfl : v2 = _ := f2
      exact wpOp_val rfl rfl (v := .pointer (some ⟨b, 2, none⟩)) (w' := W) (by simp [go_sem, g2]) ⟨_, _, rfl, rfl, Below.refl _ _, rfl⟩
    | 4, _, h, _ => exact absurd rfl h
    | 5, _, _, _ =>
      obtain rfl := Option.some.inj ho
      exact wpOp_val rfl rfl (v := .pointer (some ⟨b, 0, none⟩)) (w' := W) (by simp [go_sem, e0]) ⟨_, _, rfl, rfl, Below.refl _ _, rfl⟩
    | 6, _, _, _ =>
      obtain rfl := Option.some.inj ho
      obtain ⟨v5, g5, f5⟩ := hk.got (j := 5) rfl rfl (hc ⟨5, .data⟩ (by simp) rfl)
      obtain rfl : v5 = _ := f5
      exact wpOp_val rfl rfl (v := .pointer (some ⟨b, 0, none⟩)) (w' := W) (by simp [go_sem, g5]) ⟨_, _, rfl, rfl, Below.refl _ _, rfl⟩
    | 7, _, _, _ =>
      obtain rfl := Option.some.inj ho
      obtain ⟨v6, g6, f6⟩ := hk.got (j := 6) rfl rfl (hc ⟨6, .data⟩ (by simp) rfl)
      obtain rfl : v6 = _ := f6
      exact wpOp_val rfl rfl (v := .pointer (some ⟨b, 3, none⟩)) (w' := W) (by simp [go_sem, g6]) ⟨_, _, rfl, rfl, Below.refl _ _, rfl⟩
    | 8, _, _, _ =>
      obtain rfl := Option.some.inj ho
      obtain ⟨v7, g7, f7⟩ := hk.got (j := 7) rfl rfl (hc ⟨7, .data⟩ (by simp) rfl)
      obtain rfl : v7 = _ := f7
      have d3 := hj.2.2.1
      exact wpOp_val rfl rfl (v := .int .i64 cr) (w' := W) (by simp [go_sem, g7, d3]) ⟨_, _, rfl, rfl, Below.refl _ _, rfl⟩
    | 9, _, _, h => exact absurd rfl h
    | 10, _, _, _ =>
      obtain rfl := Option.some.inj ho
      obtain ⟨v0, g0, f0⟩ := hk.got (j := 0) rfl rfl (hc ⟨0, .data⟩ (by simp) rfl)
      obtain rfl : v0 = _ := f0
      exact wpOp_val rfl rfl (v := .pointer (some ⟨b, 0, none⟩)) (w' := W) (by simp [go_sem, g0]) ⟨_, _, rfl, rfl, Below.refl _ _, rfl⟩
    | 11, _, _, _ =>
      obtain rfl := Option.some.inj ho
      obtain ⟨v10, g10, f10⟩ := hk.got (j := 10) rfl rfl (hc ⟨10, .data⟩ (by simp) rfl)
      obtain rfl : v10 = _ := f10
      exact wpOp_val rfl rfl (v := .pointer (some ⟨b, 4, none⟩)) (w' := W) (by simp [go_sem, g10]) ⟨_, _, rfl, rfl, Below.refl _ _, rfl⟩
    | m + 12, hm, _, _ => exact absurd hm (by simp)
  case hx1 =>
    intro listed a W hsz hj hk o ho hc
    obtain rfl := Option.some.inj ho
    obtain ⟨v3, g3, f3⟩ := hk.got (j := 3) rfl rfl (hc ⟨3, .data⟩ (by simp) rfl)
    obtain rfl : v3 = _ := f3
    have hs := hj.1 rfl
    have hs2 := hs.set_ch (ch + 1)
    obtain ⟨d0, d1, d2, d3, d4⟩ := hs.cells
    refine wpOp_call rfl rfl (f := 33) (args := #[.pointer (some ⟨b, 2, none⟩), .int .i64 1]) (by simp [go_sem, g3]) ((addS_any b 2 ch h0 h1 W d2 (hs.frozen 2)).mono ?_)
    rintro e w2 ⟨rfl, rfl⟩
    have ht := Tch.setCell (B := B) (g := g) (b := b) W 2 (.int .i64 (ch + 1))
    exact ⟨_, rfl, _, _, rfl, rfl, ht.below h.hb h.hg hsz, rfl, ⟨fun e => absurd e (by decide), fun _ => hs2, hs2.cells.2.2.2.1, hj.2.2.2.trans ht⟩, fun j u hj2 h => h⟩
  case hy1 =>
    intro listed a W hsz hj hk o ho hc
    obtain rfl := Option.some.inj ho
    obtain ⟨v4, g4, f4⟩ := hk.got (j := 4) rfl rfl (hc ⟨4, .data⟩ (by simp) rfl)
    obtain rfl : v4 = _ := f4
    obtain ⟨v8, g8, f8⟩ := hk.got (j := 8) rfl rfl (hc ⟨8, .data⟩ (by simp) rfl)
    obtain rfl : v8 = _ := f8
    exact wpOp_val rfl rfl (v := .bool q) (w' := W) (by simp [go_sem, g4, g8]; exact hqb) ⟨_, _, rfl, rfl, Below.refl _ _, rfl, hj, fun j u hj2 h => h⟩
  case hl1 =>
    intro listed a W hsz hj hk hall
    obtain ⟨v9, g9, f9⟩ := hk.got (j := 9) rfl rfl (hall 9 (by simp))
    obtain rfl : v9 = _ := f9
    obtain ⟨v11, g11, f11⟩ := hk.got (j := 11) rfl rfl (hall 11 (by simp))
    obtain rfl : v11 = _ := f11
    have hs := hj.2.1 rfl
    obtain ⟨d0, d1, d2, d3, d4⟩ := hs.cells
    dsimp only at d4
    have fz := hs.frozen 4
    have hs2 := hs.set_dn q
    have e4 := hs2.cells.2.2.2.2
    dsimp only at e4
    have ht := hj.2.2.2.trans (Tch.setCell (B := B) (g := g) (b := b) W 4 (.bool q))
    have hput := hk.puts
    have ee := hk.read (t := 0) (by kernel_rfl) rfl
    refine wpOp_skipS rfl rfl (w' := W.setCell ⟨b, 4, none⟩ (.bool q)) (by simp [go_sem, g9, g11, d4, fz]) ?_
    rw [hput]
    simp only [putT]
    generalize a.tmps[3]?.getD undef = x3
    generalize a.tmps[4]?.getD undef = x4
    generalize a.tmps[5]?.getD undef = x5
    generalize a.tmps[6]?.getD undef = x6
    generalize a.tmps[7]?.getD undef = x7
    generalize a.tmps[8]?.getD undef = x8
    generalize a.tmps[9]?.getD undef = x9
    generalize a.tmps[10]?.getD undef = x10
    generalize a.tmps[11]?.getD undef = x11
    generalize a.tmps[12]?.getD undef = x12
    generalize a.tmps[13]?.getD undef = x13
    generalize a.tmps[14]?.getD undef = x14
    obtain ⟨W2, hW2⟩ : ∃ X, X = W.setCell ⟨b, 4, none⟩ (.bool q) := ⟨_, rfl⟩
    rw [← hW2] at hs2 ht e4 ⊢
    have H2 := Lib.hid hs2
    have HT := Lib.hid ht
    clear hs2 ht hs hj hk hall hput g9 g11 d0 d1 d2 d3 d4 fz hW2 h c0 c1 c2 c3 c4 h0 h1 hqb ee hsz
    go_wp2
    go_ret
    exact ⟨rfl, H2.out, HT.out⟩

set_option maxRecDepth 100000 in
theorem sync_down {B b g : Nat} {w : World} {bl : List Blk} {lo : List (Nat × Blk)} {ch cr : Int} {lv : Value} (h : StA B b g w ⟨bl, lo, ch, cr, true⟩ lv) : Calls Try.prog 15 #[.pointer (some ⟨b, 0, none⟩)] w fun e w' => e = .returned (.int .i64 8) ∧ w' = w := by
  have hr := refuses_any h
  go_enter Try.func15, Try.ntmps15
  go_wp2_with (go_at_call 27; refine hr.mono ?_; rintro e w2 ⟨rfl, rfl⟩)
  go_ret
  exact ⟨rfl, rfl⟩
set_option maxRecDepth 100000 in
theorem sync_up {B b g : Nat} {w : World} {bl : List Blk} {lo : List (Nat × Blk)} {ch cr : Int} {lv : Value} (h : StA B b g w ⟨bl, lo, ch, cr, false⟩ lv) (hB : B ≤ w.heap.size) (h0 : 0 ≤ ch) (h1 : ch ≤ 1000000000) : Calls Try.prog 15 #[.pointer (some ⟨b, 0, none⟩)] w fun e w' => ∃ lv', e = .returned (.int .i64 (if ch + 1 = cr then 8 else 0)) ∧ StA B b g w' ⟨bl, if ch + 1 = cr then lo else [], ch + 1, cr, ch + 1 == cr⟩ lv' ∧ Tch B b g w w' := by
  have hr := refuses_any h
  have hc := crashes_any h hB h0 h1
  by_cases hq : ch + 1 = cr
  · have hb : (ch + 1 == cr) = true := by simp [hq]
    rw [hb] at hc ⊢
    rw [if_pos hq, if_pos hq]
    clear hq hb h h0 h1
    go_enter Try.func15, Try.ntmps15
    go_wp2_with (first
      | (go_at_call 27; refine hr.mono ?_; rintro e w2 ⟨rfl, rfl⟩)
      | (go_at_call 29; refine hc.mono ?_; rintro e w2 ⟨rfl, hs2, ht2⟩; have HS2 := Lib.hid hs2; have HT2 := Lib.hid ht2; clear hs2 ht2))
    go_ret
    exact ⟨_, rfl, HS2.out, HT2.out⟩
  · have hb : (ch + 1 == cr) = false := by simp [hq]
    rw [hb] at hc ⊢
    rw [if_neg hq, if_neg hq]
    clear hq hb h h0 h1
    go_enter Try.func15, Try.ntmps15
    go_wp2_with (first
      | (go_at_call 27; refine hr.mono ?_; rintro e w2 ⟨rfl, rfl⟩)
      | (go_at_call 29; refine hc.mono ?_; rintro e w2 ⟨rfl, hs2, ht2⟩; have d1 := hs2.cells.2.1; have f1 := hs2.frozen 1; have hs3 := hs2.set_nil; have HS3 := Lib.hid hs3; have HT3 := Lib.hid (ht2.trans (Tch.setCell w2 1 (.slice none 0 0))); clear hs2 ht2 hs3))
    go_ret
    exact ⟨_, rfl, HS3.out, HT3.out⟩
end Go.Proofs.Ytgmlgjdibpphaaa
