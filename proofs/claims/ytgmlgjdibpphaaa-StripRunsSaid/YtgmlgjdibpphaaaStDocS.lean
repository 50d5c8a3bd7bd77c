/- The document's Sync, Fall: the walks (written by tools/gen_st4.py). -/
import Derived.Test.YtgmlgjdibpphaaaStDocW
namespace Go.Proofs.Ytgmlgjdibpphaaa
open Go.RowKit
set_option linter.unusedVariables false
set_option linter.unusedSimpArgs false

theorem strsD_set (s : List Blk) (i : Nat) (x : Blk) : (strsD s).set i (.string (txtB x)) = strsD (s.set i x) := by simp [strsD, List.map_set]
/-- A text into the safe row. -/
theorem StD.put {B d : Nat} {w : World} {D : Dt} {sk n sc : Nat} {lv : Value} (h : StD B d w D (.slice (some ⟨sk, 0, none⟩) n sc) lv) (i : Nat) (x : Blk) : StD B d (w.setCell ⟨sk, i, none⟩ (.string (txtB x))) { D with sf := D.sf.set i x } (.slice (some ⟨sk, 0, none⟩) n sc) lv ∧ TchD B d w (w.setCell ⟨sk, i, none⟩ (.string (txtB x))) := by
  obtain ⟨hB, cs, hc⟩ := rowD_at h.safe (k := sk) rfl
  have hn : n = D.sf.length := by
    rcases h.safe.2 with ⟨h1, _⟩ | ⟨k, cap, cur, h1, _⟩
    · cases h1
    · injection h1
  subst hn
  obtain ⟨h1, h2⟩ := World.ownsRow.stored h.safe i (.string (txtB x))
  refine ⟨⟨h.hd, (heap_setCell_ne _ _ _ _ _ (ne_type h.box hc (by decide))).trans h.box, ?_, row_keepD h.row fun k cs hk => heap_setCell_ne _ _ _ _ _ (ne_type hk hc (by decide))⟩, rfl, rfl, rfl, by simp [World.setCell], fun k hk _ h3 => heap_setCell_ne _ _ _ _ _ fun e => ?_⟩
  · rw [strsD_set] at h1
    simpa using h1
  · subst e
    rcases h3 with h3 | h3
    · omega
    · exact h3 ⟨_, _, _, hc, .inl rfl⟩
/-- The document's strip in the midst of a step of Sync, or Fall. -/
structure JS (B d : Nat) (w0 : World) (sf : List Blk) (lo : List (Nat × Blk)) (left : Nat) (off : Bool) (sv lv : Value) (lk j ci : Nat) (T : ByteArray) (w : World) : Prop where
  st : StD B d w ⟨sf, lo, left, off⟩ sv lv ∧ TchD B d w0 w
  rest : w.cell? ⟨d, 0, none⟩ = some sv ∧ w.cell? ⟨d, 1, none⟩ = some lv ∧ w.cell? ⟨lk, j * 2, none⟩ = some (.int .i64 ci) ∧ w.cell? ⟨lk, j * 2 + 1, none⟩ = some (.string T) ∧ lk < w.heap.size
theorem JS.go {B d : Nat} {w0 w w' : World} {sf : List Blk} {lo : List (Nat × Blk)} {left : Nat} {off : Bool} {sv lv : Value} {lk j ci : Nat} {T : ByteArray} (h : JS B d w0 sf lo left off sv lv lk j ci T w) (hb : Below w.heap.size w w') : JS B d w0 sf lo left off sv lv lk j ci T w' := by
  obtain ⟨h1, h2, h3, h4, h5⟩ := h.rest
  have h9 := h.st.1.below hb
  exact ⟨⟨h9, h.st.2.trans (.of_below hb)⟩, h9.cells.1, h9.cells.2.1, (hb.cell (p := ⟨lk, j * 2, none⟩) h5).trans h3, (hb.cell (p := ⟨lk, j * 2 + 1, none⟩) h5).trans h4, Nat.lt_of_lt_of_le h5 hb.size⟩
theorem JS.store {B d : Nat} {w0 w : World} {sf : List Blk} {lo : List (Nat × Blk)} {left : Nat} {off : Bool} {sk n sc : Nat} {lv : Value} {lk j ci : Nat} {T : ByteArray} (h : JS B d w0 sf lo left off (.slice (some ⟨sk, 0, none⟩) n sc) lv lk j ci T w) (hci : ci < sf.length) {x : Blk} (hT : T = txtB x) :
    StD B d (w.setCell ⟨sk, ci, none⟩ (.string T)) ⟨sf.set ci x, lo, left, off⟩ (.slice (some ⟨sk, 0, none⟩) n sc) lv ∧ TchD B d w0 (w.setCell ⟨sk, ci, none⟩ (.string T)) ∧ (∃ u, w.cell? ⟨sk, ci, none⟩ = some u) ∧ w.frozen? ⟨sk, ci, none⟩ = false := by
  subst hT
  obtain ⟨h1, h2⟩ := h.st.1.put ci x
  obtain ⟨k, cap, e1, e2, e3⟩ := cell_row h.st.1.safe (j := ci) (u := .string (txtB (sf.getD ci []))) (by simp [strsD, hci]) (by show 0 < sf.length; omega)
  injection e1 with e1
  injection e1 with e1
  injection e1 with e1
  subst e1
  exact ⟨h1, h.st.2.trans h2, ⟨_, e2⟩, e3⟩
/-- What one step of applying the changes wants. -/
theorem JS.of {B d : Nat} {w : World} {sf : List Blk} {lo : List (Nat × Blk)} {left : Nat} {off : Bool} {sv lv : Value} (h : StD B d w ⟨sf, lo, left, off⟩ sv lv) (j : Nat) (hj : j < lo.length) (hsf : 0 < sf.length) : ∃ sk sc lk lc, sv = .slice (some ⟨sk, 0, none⟩) sf.length sc ∧ lv = .slice (some ⟨lk, 0, none⟩) lo.length lc ∧ JS B d w sf lo left off sv lv lk j lo[j].1 (txtB lo[j].2) w := by
  obtain ⟨g1, g2⟩ := flatD_at lo j hj
  obtain ⟨lk, lc2, hl2, x1, _⟩ := cell_row h.row g1 (by show 0 < lo.length; omega)
  obtain ⟨lk2, lc3, hl3, x2, _⟩ := cell_row h.row g2 (by show 0 < lo.length; omega)
  obtain ⟨sk, sc, hs, _, _⟩ := cell_row h.safe (j := 0) (u := .string (txtB (sf.getD 0 []))) (by simp [strsD, hsf]) (by show 0 < sf.length; omega)
  have hl4 := hl3
  rw [hl2] at hl4
  injection hl4 with hl4
  injection hl4 with hl4
  injection hl4 with hl4
  subst hl4
  exact ⟨sk, sc, lk, lc2, hs, hl2, ⟨h, TchD.refl _ _ _⟩, h.cells.1, h.cells.2.1, x1, x2, World.block_lt_of_cell? w _ x1⟩
set_option maxRecDepth 100000 in
theorem syncD_down {B d : Nat} {w : World} {sf : List Blk} {lo : List (Nat × Blk)} {left : Nat} {sv lv : Value} (h : StD B d w ⟨sf, lo, left, true⟩ sv lv) : Calls Try.prog 16 #[.pointer (some ⟨d, 0, none⟩)] w fun e w' => e = .returned (.int .i64 8) ∧ w' = w := by
  obtain ⟨c0, c1, c2, c3⟩ := h.cells
  dsimp only at c3
  clear h
  go_enter Try.func16, Try.ntmps16
  go_wp2
  go_ret
  exact ⟨rfl, rfl⟩
set_option maxRecDepth 100000 in
theorem syncD_crash {B d : Nat} {w : World} {sf : List Blk} {lo : List (Nat × Blk)} {sv lv : Value} (h : StD B d w ⟨sf, lo, 1, false⟩ sv lv) : Calls Try.prog 16 #[.pointer (some ⟨d, 0, none⟩)] w fun e w' => e = .returned (.int .i64 8) ∧ StD B d w' ⟨sf, lo, 0, true⟩ sv lv ∧ TchD B d w w' := by
  have hct := count_any h (by decide)
  rw [show (decide ((1 : Nat) = 1)) = true from rfl] at hct
  have HCt := Lib.hid hct
  obtain ⟨c0, c1, c2, c3⟩ := h.cells
  dsimp only at c3
  clear h hct
  go_enter Try.func16, Try.ntmps16
  go_wp2_with (go_at_call 30; refine HCt.out.mono ?_; rintro e w2 ⟨rfl, hs2, ht2⟩; have HS2 := Lib.hid hs2; have HT2 := Lib.hid ht2; clear hs2 ht2)
  go_ret
  exact ⟨rfl, HS2.out, HT2.out⟩
set_option maxRecDepth 100000 in
set_option maxHeartbeats 4000000 in
theorem syncD_go {B d : Nat} {w : World} {sf0 : List Blk} {lo : List (Nat × Blk)} {left0 : Nat} {sv lv : Value} (h : StD B d w ⟨sf0, lo, left0, false⟩ sv lv) (hB : B ≤ w.heap.size) (hl : left0 ≤ 9223372036854775807) (hne : left0 ≠ 1) (hlo : lo.length ≤ 999999) (hc : ∀ c ∈ lo, c.1 < sf0.length) : Calls Try.prog 16 #[.pointer (some ⟨d, 0, none⟩)] w fun e w' => e = .returned (.int .i64 0) ∧ StD B d w' ⟨applyB sf0 lo, [], left0 - 1, false⟩ sv (.slice none 0 0) ∧ TchD B d w w' := by
  have hct := count_any h hl
  rw [show (decide (left0 = 1)) = false from decide_eq_false hne] at hct
  have HCt := Lib.hid hct
  obtain ⟨left, hleft⟩ : ∃ l, l = left0 - 1 := ⟨_, rfl⟩
  rw [← hleft] at HCt ⊢
  obtain ⟨off, hoff⟩ : ∃ b, b = false := ⟨_, rfl⟩
  obtain ⟨c0, c1, c2, c3⟩ := h.cells
  dsimp only at c3
  have hlv := slice_of h.row
  dsimp only at hlv
  have HLv := Lib.hid hlv
  have HB := Lib.hid hB
  have HLo := Lib.hid hlo
  have HC := Lib.hid hc
  obtain ⟨m, hm⟩ : ∃ m, m = lo.length := ⟨_, rfl⟩
  have HM := Lib.hid hm
  have hlt9 : m ≤ 999999 := by omega
  clear h hct hB hl hne hlo hc hleft hm hlv
  go_enter Try.func16, Try.ntmps16
  go_wp2_with (go_at_call 30; refine HCt.out.mono ?_; rintro e w2 ⟨rfl, hs2, ht2⟩; have HS2 := Lib.hid hs2; have HT2 := Lib.hid ht2; clear hs2 ht2)
  go_loopw [3] (fun kv wr => ∃ j : Nat, j ≤ m ∧ kv = .int .i64 j ∧ Hid (StD B d wr ⟨applyB sf0 (lo.take j), lo, left, false⟩ sv lv) ∧ Hid (TchD B d w wr)) (fun kv wr => m - (intOf kv).toNat)
  case atStart => exact ⟨0, by omega, rfl, HS2, HT2⟩
  case round =>
    obtain ⟨j, hj, rfl, HD, HTd⟩ := hrel
    rename World => w0
    have HBw := Lib.hid (Nat.le_trans HB.out HTd.out.size)
    have d1 := HD.out.cells.2.1
    by_cases hlt : j < m
    · have r1 : decide ((j : Int) < (m : Int)) = true := by simp; omega
      have r1' : decide (j < m) = true := by simpa using hlt
      have hjl : j < lo.length := by rw [← HM.out]; exact hlt
      have hcj := HC.out lo[j] (List.getElem_mem hjl)
      obtain ⟨sk, sc, lk, lc, hs, hl, hjs⟩ := JS.of HD.out j hjl (by rw [applyB_len]; omega)
      obtain ⟨sf, hsf⟩ : ∃ s, s = applyB sf0 (lo.take j) := ⟨_, rfl⟩
      have hstep : applyB sf0 (lo.take (j + 1)) = sf.set lo[j].1 lo[j].2 := by
        rw [hsf, List.take_add_one, List.getElem?_eq_getElem hjl]
        exact applyB_snoc _ _ _
      have HCI : Hid (lo[j].1 < sf.length) := Lib.hid (by rw [hsf, applyB_len]; exact hcj)
      rw [← hsf] at hjs hs HD
      obtain ⟨n, hn⟩ : ∃ n, n = sf.length := ⟨_, rfl⟩
      rw [← hn] at hs
      rw [← HM.out] at hl
      subst hs hl
      obtain ⟨ci, hci⟩ : ∃ c, c = lo[j].1 := ⟨_, rfl⟩
      obtain ⟨x, hx⟩ : ∃ x, x = lo[j].2 := ⟨_, rfl⟩
      obtain ⟨T, hT⟩ : ∃ T, T = txtB x := ⟨_, rfl⟩
      rw [← hci, ← hx, ← hT] at hjs
      rw [← hci, ← hx] at hstep
      rw [← hci] at HCI
      have HTx := Lib.hid hT
      have HStep := Lib.hid hstep
      have HJ0 := Lib.hid hjs
      have j0 : (0 : Int) ≤ (j : Int) := by omega
      have jm : (j : Int) < (m : Int) := by omega
      have ci0 : (0 : Int) ≤ (ci : Int) := by omega
      have cim : (ci : Int) < (n : Int) := by have := HCI.out; omega
      have w9 : IntKind.i64.wrap ((j : Int) + 1) = (j : Int) + 1 := IntWalk.i64_in _ (by omega)
      subst hoff
      clear hjs hstep hT hx hci hsf hcj hn
      obtain ⟨off, hoff⟩ : ∃ b, b = false := ⟨_, rfl⟩
      rw [← hoff] at HJ0
      go_upto_region 6 with (fail)
      refine region_J (by kernel_rfl) (B) 9 10 (fun _ _ oi ov _ => ov = [(.pointer (some ⟨d, 0, none⟩) : Value), .pointer (some ⟨d, 0, none⟩), .pointer (some ⟨d, 0, none⟩), .slice (some ⟨sk, 0, none⟩) n sc, .pointer (some ⟨d, 0, none⟩), .pointer (some ⟨d, 0, none⟩), .pointer (some ⟨d, 1, none⟩), .slice (some ⟨lk, 0, none⟩) m lc, .int .i64 (j : Int), .pointer (some ⟨lk, j * 2, none⟩), .pointer (some ⟨lk, j * 2, none⟩), .int .i64 (ci : Int), .pointer (some ⟨d, 0, none⟩), .pointer (some ⟨d, 0, none⟩), .pointer (some ⟨d, 1, none⟩), .slice (some ⟨lk, 0, none⟩) m lc, .int .i64 (j : Int), .pointer (some ⟨lk, j * 2, none⟩), .pointer (some ⟨lk, j * 2 + 1, none⟩), .string T, .pointer (some ⟨sk, ci, none⟩)].getD oi undef) (fun _ _ W => JS B d w0 sf lo left off (.slice (some ⟨sk, 0, none⟩) n sc) (.slice (some ⟨lk, 0, none⟩) m lc) lk j ci T W) (fun _ _ _ _ _ h hb => h.go hb) HJ0.out (fun _ _ _ _ _ _ _ h _ => h) (HBw.out) (by kernel_rfl) (by kernel_rfl) (by decide) (by rfl) ?hss ?hxs ?hys ?hls
      case hss =>
        intro listed a W p q hsz hj hk i0 o ho hi hi1 hi2 hc
        have e0 := hk.read (t := 0) (by kernel_rfl) rfl
        have e3 := hk.read (t := 3) (by kernel_rfl) rfl
        match i0, hi, hi1, hi2 with
        | 0, _, _, _ =>
          obtain rfl := Option.some.inj ho
          exact wpOp_val rfl rfl (v := .pointer (some ⟨d, 0, none⟩)) (w' := W) (by simp [go_sem, e0]) ⟨_, _, rfl, rfl, Below.refl _ _, rfl⟩
        | 1, _, _, _ =>
          obtain rfl := Option.some.inj ho
          obtain ⟨v0, g0, f0⟩ := hk.got (j := 0) rfl rfl (hc ⟨0, .data⟩ (by simp) rfl)
          obtain rfl : v0 = _ := f0
          exact wpOp_val rfl rfl (v := .pointer (some ⟨d, 0, none⟩)) (w' := W) (by simp [go_sem, g0]) ⟨_, _, rfl, rfl, Below.refl _ _, rfl⟩
        | 2, _, _, _ =>
          obtain rfl := Option.some.inj ho
          obtain ⟨v1, g1, f1⟩ := hk.got (j := 1) rfl rfl (hc ⟨1, .data⟩ (by simp) rfl)
          obtain rfl : v1 = _ := f1
          exact wpOp_val rfl rfl (v := .pointer (some ⟨d, 0, none⟩)) (w' := W) (by simp [go_sem, g1]) ⟨_, _, rfl, rfl, Below.refl _ _, rfl⟩
        | 3, _, _, _ =>
          obtain rfl := Option.some.inj ho
          obtain ⟨v2, g2, f2⟩ := hk.got (j := 2) rfl rfl (hc ⟨2, .data⟩ (by simp) rfl)
          obtain rfl : v2 = _ := f2
          have d := hj.2.1
          exact wpOp_val rfl rfl (v := .slice (some ⟨sk, 0, none⟩) n sc) (w' := W) (by simp [go_sem, g2, d]) ⟨_, _, rfl, rfl, Below.refl _ _, rfl⟩
        | 4, _, _, _ =>
          obtain rfl := Option.some.inj ho
          exact wpOp_val rfl rfl (v := .pointer (some ⟨d, 0, none⟩)) (w' := W) (by simp [go_sem, e0]) ⟨_, _, rfl, rfl, Below.refl _ _, rfl⟩
        | 5, _, _, _ =>
          obtain rfl := Option.some.inj ho
          obtain ⟨v4, g4, f4⟩ := hk.got (j := 4) rfl rfl (hc ⟨4, .data⟩ (by simp) rfl)
          obtain rfl : v4 = _ := f4
          exact wpOp_val rfl rfl (v := .pointer (some ⟨d, 0, none⟩)) (w' := W) (by simp [go_sem, g4]) ⟨_, _, rfl, rfl, Below.refl _ _, rfl⟩
        | 6, _, _, _ =>
          obtain rfl := Option.some.inj ho
          obtain ⟨v5, g5, f5⟩ := hk.got (j := 5) rfl rfl (hc ⟨5, .data⟩ (by simp) rfl)
          obtain rfl : v5 = _ := f5
          exact wpOp_val rfl rfl (v := .pointer (some ⟨d, 1, none⟩)) (w' := W) (by simp [go_sem, g5]) ⟨_, _, rfl, rfl, Below.refl _ _, rfl⟩
        | 7, _, _, _ =>
          obtain rfl := Option.some.inj ho
          obtain ⟨v6, g6, f6⟩ := hk.got (j := 6) rfl rfl (hc ⟨6, .data⟩ (by simp) rfl)
          obtain rfl : v6 = _ := f6
          have d := hj.2.2.1
          exact wpOp_val rfl rfl (v := .slice (some ⟨lk, 0, none⟩) m lc) (w' := W) (by simp [go_sem, g6, d]) ⟨_, _, rfl, rfl, Below.refl _ _, rfl⟩
        | 8, _, _, _ =>
          obtain rfl := Option.some.inj ho
          exact wpOp_val rfl rfl (v := .int .i64 (j : Int)) (w' := W) (by simp [go_sem, e3]) ⟨_, _, rfl, rfl, Below.refl _ _, rfl⟩
        | 9, _, h, _ => exact absurd rfl h
        | 10, _, _, h => exact absurd rfl h
        | 11, _, _, _ =>
          obtain rfl := Option.some.inj ho
          obtain ⟨v10, g10, f10⟩ := hk.got (j := 10) rfl rfl (hc ⟨10, .data⟩ (by simp) rfl)
          obtain rfl : v10 = _ := f10
          have d := hj.2.2.2.1
          exact wpOp_val rfl rfl (v := .int .i64 (ci : Int)) (w' := W) (by simp [go_sem, g10, d]) ⟨_, _, rfl, rfl, Below.refl _ _, rfl⟩
        | 12, _, _, _ =>
          obtain rfl := Option.some.inj ho
          exact wpOp_val rfl rfl (v := .pointer (some ⟨d, 0, none⟩)) (w' := W) (by simp [go_sem, e0]) ⟨_, _, rfl, rfl, Below.refl _ _, rfl⟩
        | 13, _, _, _ =>
          obtain rfl := Option.some.inj ho
          obtain ⟨v12, g12, f12⟩ := hk.got (j := 12) rfl rfl (hc ⟨12, .data⟩ (by simp) rfl)
          obtain rfl : v12 = _ := f12
          exact wpOp_val rfl rfl (v := .pointer (some ⟨d, 0, none⟩)) (w' := W) (by simp [go_sem, g12]) ⟨_, _, rfl, rfl, Below.refl _ _, rfl⟩
        | 14, _, _, _ =>
          obtain rfl := Option.some.inj ho
          obtain ⟨v13, g13, f13⟩ := hk.got (j := 13) rfl rfl (hc ⟨13, .data⟩ (by simp) rfl)
          obtain rfl : v13 = _ := f13
          exact wpOp_val rfl rfl (v := .pointer (some ⟨d, 1, none⟩)) (w' := W) (by simp [go_sem, g13]) ⟨_, _, rfl, rfl, Below.refl _ _, rfl⟩
        | 15, _, _, _ =>
          obtain rfl := Option.some.inj ho
          obtain ⟨v14, g14, f14⟩ := hk.got (j := 14) rfl rfl (hc ⟨14, .data⟩ (by simp) rfl)
          obtain rfl : v14 = _ := f14
          have d := hj.2.2.1
          exact wpOp_val rfl rfl (v := .slice (some ⟨lk, 0, none⟩) m lc) (w' := W) (by simp [go_sem, g14, d]) ⟨_, _, rfl, rfl, Below.refl _ _, rfl⟩
        | 16, _, _, _ =>
          obtain rfl := Option.some.inj ho
          exact wpOp_val rfl rfl (v := .int .i64 (j : Int)) (w' := W) (by simp [go_sem, e3]) ⟨_, _, rfl, rfl, Below.refl _ _, rfl⟩
        | 17, _, _, _ =>
          obtain rfl := Option.some.inj ho
          obtain ⟨v15, g15, f15⟩ := hk.got (j := 15) rfl rfl (hc ⟨15, .data⟩ (by simp) rfl)
          obtain rfl : v15 = _ := f15
          obtain ⟨v16, g16, f16⟩ := hk.got (j := 16) rfl rfl (hc ⟨16, .data⟩ (by simp) rfl)
          obtain rfl : v16 = _ := f16
          exact wpOp_val rfl rfl (v := .pointer (some ⟨lk, j * 2, none⟩)) (w' := W) (by simp [go_sem, g15, g16, j0, jm]) ⟨_, _, rfl, rfl, Below.refl _ _, rfl⟩
        | 18, _, _, _ =>
          obtain rfl := Option.some.inj ho
          obtain ⟨v17, g17, f17⟩ := hk.got (j := 17) rfl rfl (hc ⟨17, .data⟩ (by simp) rfl)
          obtain rfl : v17 = _ := f17
          exact wpOp_val rfl rfl (v := .pointer (some ⟨lk, j * 2 + 1, none⟩)) (w' := W) (by simp [go_sem, g17]) ⟨_, _, rfl, rfl, Below.refl _ _, rfl⟩
        | 19, _, _, _ =>
          obtain rfl := Option.some.inj ho
          obtain ⟨v18, g18, f18⟩ := hk.got (j := 18) rfl rfl (hc ⟨18, .data⟩ (by simp) rfl)
          obtain rfl : v18 = _ := f18
          have d := hj.2.2.2.2.1
          exact wpOp_val rfl rfl (v := .string T) (w' := W) (by simp [go_sem, g18, d]) ⟨_, _, rfl, rfl, Below.refl _ _, rfl⟩
        | 20, _, _, _ =>
          obtain rfl := Option.some.inj ho
          obtain ⟨v3, g3, f3⟩ := hk.got (j := 3) rfl rfl (hc ⟨3, .data⟩ (by simp) rfl)
          obtain rfl : v3 = _ := f3
          obtain ⟨v11, g11, f11⟩ := hk.got (j := 11) rfl rfl (hc ⟨11, .data⟩ (by simp) rfl)
          obtain rfl : v11 = _ := f11
          exact wpOp_val rfl rfl (v := .pointer (some ⟨sk, ci, none⟩)) (w' := W) (by simp [go_sem, g3, g11, ci0, cim]) ⟨_, _, rfl, rfl, Below.refl _ _, rfl⟩
        | m + 21, hm, _, _ => exact absurd hm (by simp)
      case hxs =>
        intro listed a W hsz hj hk o ho hc
        obtain rfl := Option.some.inj ho
        obtain ⟨v7, g7, f7⟩ := hk.got (j := 7) rfl rfl (hc ⟨7, .data⟩ (by simp) rfl)
        obtain rfl : v7 = _ := f7
        obtain ⟨v8, g8, f8⟩ := hk.got (j := 8) rfl rfl (hc ⟨8, .data⟩ (by simp) rfl)
        obtain rfl : v8 = _ := f8
        exact wpOp_val rfl rfl (v := .pointer (some ⟨lk, j * 2, none⟩)) (w' := W) (by simp [go_sem, g7, g8, j0, jm]) ⟨_, _, rfl, rfl, Below.refl _ _, rfl, hj, fun j u hj2 h => h⟩
      case hys =>
        intro listed a W hsz hj hk o ho hc
        obtain rfl := Option.some.inj ho
        obtain ⟨v9, g9, f9⟩ := hk.got (j := 9) rfl rfl (hc ⟨9, .data⟩ (by simp) rfl)
        obtain rfl : v9 = _ := f9
        exact wpOp_val rfl rfl (v := .pointer (some ⟨lk, j * 2, none⟩)) (w' := W) (by simp [go_sem, g9]) ⟨_, _, rfl, rfl, Below.refl _ _, rfl, hj, fun j u hj2 h => h⟩
      case hls =>
        intro listed a W hsz hj hk hall
        obtain ⟨v19, g19, f19⟩ := hk.got (j := 19) rfl rfl (hall 19 (by simp))
        obtain rfl : v19 = _ := f19
        obtain ⟨v20, g20, f20⟩ := hk.got (j := 20) rfl rfl (hall 20 (by simp))
        obtain rfl : v20 = _ := f20
        obtain ⟨hst, htd, ⟨u9, xs0⟩, xs1⟩ := hj.store HCI.out HTx.out
        refine wpOp_skipS rfl rfl (w' := W.setCell ⟨sk, ci, none⟩ (.string T)) (by simp [go_sem, g19, g20, xs0, xs1]) ?_
        have hput := hk.puts
        rw [hput]
        simp only [putT]
        generalize a.tmps[22]?.getD undef = x22
        generalize a.tmps[23]?.getD undef = x23
        generalize a.tmps[24]?.getD undef = x24
        generalize a.tmps[25]?.getD undef = x25
        generalize a.tmps[26]?.getD undef = x26
        generalize a.tmps[27]?.getD undef = x27
        generalize a.tmps[28]?.getD undef = x28
        generalize a.tmps[29]?.getD undef = x29
        generalize a.tmps[30]?.getD undef = x30
        generalize a.tmps[31]?.getD undef = x31
        generalize a.tmps[32]?.getD undef = x32
        generalize a.tmps[33]?.getD undef = x33
        generalize a.tmps[34]?.getD undef = x34
        generalize a.tmps[35]?.getD undef = x35
        generalize a.tmps[36]?.getD undef = x36
        generalize a.tmps[37]?.getD undef = x37
        generalize a.tmps[38]?.getD undef = x38
        generalize a.tmps[39]?.getD undef = x39
        generalize a.tmps[40]?.getD undef = x40
        generalize a.tmps[41]?.getD undef = x41
        generalize a.tmps[42]?.getD undef = x42
        obtain ⟨W3, hW3⟩ : ∃ X, X = W.setCell ⟨sk, ci, none⟩ (.string T) := ⟨_, rfl⟩
        rw [← hW3] at hst htd ⊢
        rw [← HStep.out] at hst
        have HS3 := Lib.hid hst
        have HT3 := Lib.hid (HTd.out.trans htd)
        clear hst htd hj hk hall hput g19 g20 xs0 xs1 hW3 hsz
        go_wp2
        go_roundw
        case rel => exact ⟨j + 1, by omega, by go_num, Lib.hid (hoff ▸ HS3.out), HT3⟩
        case measure => simp [intOf]; omega
    · obtain rfl : j = m := by omega
      have r1 : decide ((j : Int) < (j : Int)) = false := by simp
      have r1' : decide (j < j) = false := by simp
      have hD := HD.out
      rw [List.take_of_length_le (by rw [← HM.out]; exact Nat.le_refl _)] at hD
      obtain ⟨la, lc, hl⟩ := HLv.out
      rw [hl, ← HM.out] at d1
      have f1 := hD.frozen 1
      have h9 := hD.set_nil
      have HS9 := Lib.hid h9
      have HT9 := Lib.hid (HTd.out.trans (TchD.setCell w0 1 (.slice none 0 0)))
      clear h9 hD hl
      go_wp2
      go_ret
      exact ⟨rfl, HS9.out, HT9.out⟩
/-- The document's strip in the midst of Fall's last store. -/
structure JF (B d : Nat) (w0 : World) (sf : List Blk) (lo : List (Nat × Blk)) (left : Nat) (off : Bool) (sv lv : Value) (xb sk ci : Nat) (T U : ByteArray) (w : World) : Prop where
  st : StD B d w ⟨sf, lo, left, off⟩ sv lv ∧ TchD B d w0 w
  rest : w.cell? ⟨d, 0, none⟩ = some sv ∧ w.cell? ⟨xb, 0, none⟩ = some (.int .i64 ci) ∧ w.cell? ⟨xb, 1, none⟩ = some (.string T) ∧ w.cell? ⟨sk, ci, none⟩ = some (.string U) ∧ xb < w.heap.size ∧ sk < w.heap.size
theorem JF.go {B d : Nat} {w0 w w' : World} {sf : List Blk} {lo : List (Nat × Blk)} {left : Nat} {off : Bool} {sv lv : Value} {xb sk ci : Nat} {T U : ByteArray} (h : JF B d w0 sf lo left off sv lv xb sk ci T U w) (hb : Below w.heap.size w w') : JF B d w0 sf lo left off sv lv xb sk ci T U w' := by
  obtain ⟨h1, h2, h3, h4, h5, h6⟩ := h.rest
  have h9 := h.st.1.below hb
  exact ⟨⟨h9, h.st.2.trans (.of_below hb)⟩, h9.cells.1, (hb.cell (p := ⟨xb, 0, none⟩) h5).trans h2, (hb.cell (p := ⟨xb, 1, none⟩) h5).trans h3, (hb.cell (p := ⟨sk, ci, none⟩) h6).trans h4, Nat.lt_of_lt_of_le h5 hb.size, Nat.lt_of_lt_of_le h6 hb.size⟩
theorem JF.store {B d : Nat} {w0 w : World} {sf : List Blk} {lo : List (Nat × Blk)} {left : Nat} {off : Bool} {sk n sc : Nat} {lv : Value} {xb ci : Nat} {T U N : ByteArray} (h : JF B d w0 sf lo left off (.slice (some ⟨sk, 0, none⟩) n sc) lv xb sk ci T U w) (hci : ci < sf.length) {x : Blk} (hT : N = txtB x) :
    StD B d (w.setCell ⟨sk, ci, none⟩ (.string N)) ⟨sf.set ci x, lo, left, off⟩ (.slice (some ⟨sk, 0, none⟩) n sc) lv ∧ TchD B d w0 (w.setCell ⟨sk, ci, none⟩ (.string N)) ∧ (∃ u, w.cell? ⟨sk, ci, none⟩ = some u) ∧ w.frozen? ⟨sk, ci, none⟩ = false := by
  subst hT
  obtain ⟨h1, h2⟩ := h.st.1.put ci x
  obtain ⟨k, cap, e1, e2, e3⟩ := cell_row h.st.1.safe (j := ci) (u := .string (txtB (sf.getD ci []))) (by simp [strsD, hci]) (by show 0 < sf.length; omega)
  injection e1 with e1
  injection e1 with e1
  injection e1 with e1
  subst e1
  exact ⟨h1, h.st.2.trans h2, ⟨_, e2⟩, e3⟩
theorem part_txt (x y : Blk) (t : Nat) (ht : t ≤ 32) (hy : y.length = 32) : (txtB x).extract 0 t ++ (txtB y).extract t 32 = txtB (x.take t ++ y.drop t) := by
  apply bytes_extS
  rw [app_listS, ext_listS, ext_listS]
  show (x.drop 0).take (t - 0) ++ (y.drop t).take (32 - t) = x.take t ++ y.drop t
  rw [List.drop_zero, Nat.sub_zero, List.take_of_length_le (l := y.drop t) (by simp [hy])]
theorem txt_size (x : Blk) : (txtB x).size = x.length := by rw [← bytes_len]; rfl
set_option maxRecDepth 100000 in
set_option maxHeartbeats 8000000 in
theorem fallD_any {B d : Nat} {w : World} {sf0 : List Blk} {lo : List (Nat × Blk)} {left : Nat} {off : Bool} {sv lv : Value} (h : StD B d w ⟨sf0, lo, left, off⟩ sv lv) (hB : B ≤ w.heap.size) (hlo : lo.length ≤ 999999) (hok : ok32 sf0) (hc : okC sf0.length lo) (pn pc pk pt : Int) : Calls Try.prog 20 #[.pointer (some ⟨d, 0, none⟩), .agg #[.int .i64 pn, .int .i64 pc, .int .i64 pk, .int .i64 pt]] w fun e w' => e = .returned (.tuple #[]) ∧ StD B d w' ⟨fallD sf0 lo (kOf pk lo.length) (tOf pt), [], (max 0 pc).toNat, false⟩ sv (.slice none 0 0) ∧ TchD B d w w' := by
  obtain ⟨W1, hW1⟩ : ∃ W, W = w.alloc (.cells #[.int .i64 pn, .int .i64 pc, .int .i64 pk, .int .i64 pt] 23) := ⟨_, rfl⟩
  have hb1 : Below w.heap.size w W1 := by rw [hW1]; exact (Below.refl _ _).alloc (Nat.le_refl _) _
  have hc1 : W1.heap[w.heap.size]? = some (.cells #[.int .i64 pn, .int .i64 pc, .int .i64 pk, .int .i64 pt] 23 (0, 0)) := by rw [hW1]; exact heap_alloc_new w _
  have hst := h.below hb1
  obtain ⟨m, hm⟩ : ∃ m, m = lo.length := ⟨_, rfl⟩
  obtain ⟨K, hK⟩ : ∃ k, k = kOf pk m := ⟨_, rfl⟩
  obtain ⟨t, ht⟩ : ∃ t, t = tOf pt := ⟨_, rfl⟩
  have hKm : K ≤ m := by rw [hK]; exact kOf_le _ _
  have ht3 : t ≤ 32 := by rw [ht]; exact tOf_le _
  have m1 := kOf_mod pk m
  have m2 := tOf_mod pt
  rw [← hK, Int.max_comm] at m1
  rw [← ht, Int.max_comm] at m2
  obtain ⟨L, hL⟩ : ∃ l, l = (max 0 pc).toNat := ⟨_, rfl⟩
  have m3 : max 0 pc = (L : Int) := by omega
  rw [← hm, ← hK, ← ht, ← hL]
  obtain ⟨la, lc, hlv⟩ := slice_of hst.row
  dsimp only at hlv
  rw [← hm] at hlv
  obtain ⟨pb, hpb⟩ : ∃ p, p = w.heap.size := ⟨_, rfl⟩
  rw [← hpb] at hc1
  have p2 : W1.cell? ⟨pb, 2, none⟩ = some (.int .i64 pk) := by simp [World.cell?, hc1]
  have d1 := hst.cells.2.1
  rw [hlv] at d1
  have hpd : pb ≠ d := ne_type hc1 hst.box (by decide)
  have HPb : Hid (∀ W, TchD B d W1 W → W.cell? ⟨pb, 1, none⟩ = some (.int .i64 pc) ∧ W.cell? ⟨pb, 3, none⟩ = some (.int .i64 pt)) := Lib.hid (fun W hW => by
    have := (hW.block pb (Array.getElem?_eq_some_iff.1 hc1).1 hpd (.inr (not_isD hc1 (by decide) (by decide)))).trans hc1
    simp [World.cell?, this])
  have HW1 := Lib.hid hW1.symm
  have HSt := Lib.hid hst
  have HT1 : Hid (TchD B d w W1) := Lib.hid (.of_below hb1)
  have HB := Lib.hid (Nat.le_trans hB hb1.size)
  have HM := Lib.hid hm
  have HLv := Lib.hid hlv
  have HKm := Lib.hid hKm
  have Ht3 := Lib.hid ht3
  have HOk := Lib.hid hok
  have HC := Lib.hid hc
  have wn : IntKind.i64.wrap ((m : Int) + 1) = (m : Int) + 1 := IntWalk.i64_in _ (by omega)
  have hn0 : ¬ ((m : Int) + 1 = 0) := by omega
  have hlt9 : m ≤ 999999 := by omega
  clear h hB hW1 hst hb1 hc1 hm hK ht hlv hKm ht3 hok hc hL hpd hlo
  go_enter Try.func20, Try.ntmps20
  go_upto_region 1 with (fail)
  rw [HW1.out, ← hpb]
  clear HW1 hpb
  have hst0 : W1.cell? ⟨pb, 2, none⟩ = some (.int .i64 pk) ∧ W1.cell? ⟨d, 1, none⟩ = some (.slice la m lc) ∧ Below W1.heap.size W1 W1.drew := ⟨p2, d1, (Below.refl _ _).drew⟩
  refine region_det (by kernel_rfl) (fun w' => w'.cell? ⟨pb, 2, none⟩ = some (.int .i64 pk) ∧ w'.cell? ⟨d, 1, none⟩ = some (.slice la m lc) ∧ Below W1.heap.size W1 w') (hst0) (by kernel_rfl) ?_
  simp only [List.toList_toArray]
  repeat' (first
    | (apply det_val; (case hw => rfl); (case hv => (intro w' hS; (obtain ⟨s0, s1, s2⟩ := hS); go_simp; first | done | with_reducible exact rfl)); (simp only [Act.put, List.setIfInBounds_toArray, List.set_cons_zero, List.set_cons_succ]))
    | fail)
  intro wz hSz
  have HSz := Lib.hid (HSt.out.below hSz.2.2)
  have HTz : Hid (TchD B d W1 wz) := Lib.hid (.of_below hSz.2.2)
  clear hSz hst0 p2 d1 HSt
  go_wp2
  go_loopw [5] (fun kv wr => ∃ j : Nat, j ≤ K ∧ kv = .int .i64 j ∧ Hid (StD B d wr ⟨applyB sf0 (lo.take j), lo, left, off⟩ sv lv) ∧ Hid (TchD B d W1 wr)) (fun kv wr => K - (intOf kv).toNat)
  case atStart => exact ⟨0, by omega, rfl, HSz, HTz⟩
  case round =>
    obtain ⟨j, hj, rfl, HD, HTd⟩ := hrel
    rename World => w0
    have HBw := Lib.hid (Nat.le_trans HB.out HTd.out.size)
    have d1 := HD.out.cells.2.1
    by_cases hlt : j < K
    · have r1 : decide ((j : Int) < (K : Int)) = true := by simp; omega
      have r1' : decide (j < K) = true := by simpa using hlt
      have hjl : j < lo.length := by rw [← HM.out]; exact Nat.lt_of_lt_of_le hlt HKm.out
      have hcj := (HC.out lo[j] (List.getElem_mem hjl)).1
      obtain ⟨sk, sc, lk, lc2, hs, hl, hjs⟩ := JS.of HD.out j hjl (by rw [applyB_len]; omega)
      obtain ⟨sf, hsf⟩ : ∃ s, s = applyB sf0 (lo.take j) := ⟨_, rfl⟩
      have hstep : applyB sf0 (lo.take (j + 1)) = sf.set lo[j].1 lo[j].2 := by
        rw [hsf, List.take_add_one, List.getElem?_eq_getElem hjl]
        exact applyB_snoc _ _ _
      have HCI : Hid (lo[j].1 < sf.length) := Lib.hid (by rw [hsf, applyB_len]; exact hcj)
      rw [← hsf] at hjs hs HD
      obtain ⟨n, hn⟩ : ∃ n, n = sf.length := ⟨_, rfl⟩
      rw [← hn] at hs
      rw [← HM.out] at hl
      have e9 := HLv.out
      rw [hl] at e9
      injection e9 with e1 _ e2
      replace e2 := e2.symm
      subst e1 e2
      clear HLv
      subst hs hl
      obtain ⟨ci, hci⟩ : ∃ c, c = lo[j].1 := ⟨_, rfl⟩
      obtain ⟨x, hx⟩ : ∃ x, x = lo[j].2 := ⟨_, rfl⟩
      obtain ⟨T, hT⟩ : ∃ T, T = txtB x := ⟨_, rfl⟩
      rw [← hci, ← hx, ← hT] at hjs
      rw [← hci, ← hx] at hstep
      rw [← hci] at HCI
      have HTx := Lib.hid hT
      have HStep := Lib.hid hstep
      have HJ0 := Lib.hid hjs
      have j0 : (0 : Int) ≤ (j : Int) := by omega
      have jm : (j : Int) < (m : Int) := by have := HKm.out; omega
      have ci0 : (0 : Int) ≤ (ci : Int) := by omega
      have cim : (ci : Int) < (n : Int) := by have := HCI.out; omega
      have w9 : IntKind.i64.wrap ((j : Int) + 1) = (j : Int) + 1 := IntWalk.i64_in _ (by omega)
      clear hjs hstep hT hx hci hsf hcj hn
      go_upto_region 5 with (fail)
      refine region_J (by kernel_rfl) (B) 9 10 (fun _ _ oi ov _ => ov = [(.pointer (some ⟨d, 0, none⟩) : Value), .pointer (some ⟨d, 0, none⟩), .pointer (some ⟨d, 0, none⟩), .slice (some ⟨sk, 0, none⟩) n sc, .pointer (some ⟨d, 0, none⟩), .pointer (some ⟨d, 0, none⟩), .pointer (some ⟨d, 1, none⟩), .slice (some ⟨lk, 0, none⟩) m lc, .int .i64 (j : Int), .pointer (some ⟨lk, j * 2, none⟩), .pointer (some ⟨lk, j * 2, none⟩), .int .i64 (ci : Int), .pointer (some ⟨d, 0, none⟩), .pointer (some ⟨d, 0, none⟩), .pointer (some ⟨d, 1, none⟩), .slice (some ⟨lk, 0, none⟩) m lc, .int .i64 (j : Int), .pointer (some ⟨lk, j * 2, none⟩), .pointer (some ⟨lk, j * 2 + 1, none⟩), .string T, .pointer (some ⟨sk, ci, none⟩)].getD oi undef) (fun _ _ W => JS B d w0 sf lo left off (.slice (some ⟨sk, 0, none⟩) n sc) (.slice (some ⟨lk, 0, none⟩) m lc) lk j ci T W) (fun _ _ _ _ _ h hb => h.go hb) HJ0.out (fun _ _ _ _ _ _ _ h _ => h) (HBw.out) (by kernel_rfl) (by kernel_rfl) (by decide) (by rfl) ?hsf ?hxf ?hyf ?hlf
      case hsf =>
        intro listed a W p q hsz hj hk i0 o ho hi hi1 hi2 hc
        have e0 := hk.read (t := 0) (by kernel_rfl) rfl
        have e5 := hk.read (t := 5) (by kernel_rfl) rfl
        match i0, hi, hi1, hi2 with
        | 0, _, _, _ =>
          obtain rfl := Option.some.inj ho
          exact wpOp_val rfl rfl (v := .pointer (some ⟨d, 0, none⟩)) (w' := W) (by simp [go_sem, e0]) ⟨_, _, rfl, rfl, Below.refl _ _, rfl⟩
        | 1, _, _, _ =>
          obtain rfl := Option.some.inj ho
          obtain ⟨v0, g0, f0⟩ := hk.got (j := 0) rfl rfl (hc ⟨0, .data⟩ (by simp) rfl)
          obtain rfl : v0 = _ := f0
          exact wpOp_val rfl rfl (v := .pointer (some ⟨d, 0, none⟩)) (w' := W) (by simp [go_sem, g0]) ⟨_, _, rfl, rfl, Below.refl _ _, rfl⟩
        | 2, _, _, _ =>
          obtain rfl := Option.some.inj ho
          obtain ⟨v1, g1, f1⟩ := hk.got (j := 1) rfl rfl (hc ⟨1, .data⟩ (by simp) rfl)
          obtain rfl : v1 = _ := f1
          exact wpOp_val rfl rfl (v := .pointer (some ⟨d, 0, none⟩)) (w' := W) (by simp [go_sem, g1]) ⟨_, _, rfl, rfl, Below.refl _ _, rfl⟩
        | 3, _, _, _ =>
          obtain rfl := Option.some.inj ho
          obtain ⟨v2, g2, f2⟩ := hk.got (j := 2) rfl rfl (hc ⟨2, .data⟩ (by simp) rfl)
          obtain rfl : v2 = _ := f2
          have d := hj.2.1
          exact wpOp_val rfl rfl (v := .slice (some ⟨sk, 0, none⟩) n sc) (w' := W) (by simp [go_sem, g2, d]) ⟨_, _, rfl, rfl, Below.refl _ _, rfl⟩
        | 4, _, _, _ =>
          obtain rfl := Option.some.inj ho
          exact wpOp_val rfl rfl (v := .pointer (some ⟨d, 0, none⟩)) (w' := W) (by simp [go_sem, e0]) ⟨_, _, rfl, rfl, Below.refl _ _, rfl⟩
        | 5, _, _, _ =>
          obtain rfl := Option.some.inj ho
          obtain ⟨v4, g4, f4⟩ := hk.got (j := 4) rfl rfl (hc ⟨4, .data⟩ (by simp) rfl)
          obtain rfl : v4 = _ := f4
          exact wpOp_val rfl rfl (v := .pointer (some ⟨d, 0, none⟩)) (w' := W) (by simp [go_sem, g4]) ⟨_, _, rfl, rfl, Below.refl _ _, rfl⟩
        | 6, _, _, _ =>
          obtain rfl := Option.some.inj ho
          obtain ⟨v5, g5, f5⟩ := hk.got (j := 5) rfl rfl (hc ⟨5, .data⟩ (by simp) rfl)
          obtain rfl : v5 = _ := f5
          exact wpOp_val rfl rfl (v := .pointer (some ⟨d, 1, none⟩)) (w' := W) (by simp [go_sem, g5]) ⟨_, _, rfl, rfl, Below.refl _ _, rfl⟩
        | 7, _, _, _ =>
          obtain rfl := Option.some.inj ho
          obtain ⟨v6, g6, f6⟩ := hk.got (j := 6) rfl rfl (hc ⟨6, .data⟩ (by simp) rfl)
          obtain rfl : v6 = _ := f6
          have d := hj.2.2.1
          exact wpOp_val rfl rfl (v := .slice (some ⟨lk, 0, none⟩) m lc) (w' := W) (by simp [go_sem, g6, d]) ⟨_, _, rfl, rfl, Below.refl _ _, rfl⟩
        | 8, _, _, _ =>
          obtain rfl := Option.some.inj ho
          exact wpOp_val rfl rfl (v := .int .i64 (j : Int)) (w' := W) (by simp [go_sem, e5]) ⟨_, _, rfl, rfl, Below.refl _ _, rfl⟩
        | 9, _, h, _ => exact absurd rfl h
        | 10, _, _, h => exact absurd rfl h
        | 11, _, _, _ =>
          obtain rfl := Option.some.inj ho
          obtain ⟨v10, g10, f10⟩ := hk.got (j := 10) rfl rfl (hc ⟨10, .data⟩ (by simp) rfl)
          obtain rfl : v10 = _ := f10
          have d := hj.2.2.2.1
          exact wpOp_val rfl rfl (v := .int .i64 (ci : Int)) (w' := W) (by simp [go_sem, g10, d]) ⟨_, _, rfl, rfl, Below.refl _ _, rfl⟩
        | 12, _, _, _ =>
          obtain rfl := Option.some.inj ho
          exact wpOp_val rfl rfl (v := .pointer (some ⟨d, 0, none⟩)) (w' := W) (by simp [go_sem, e0]) ⟨_, _, rfl, rfl, Below.refl _ _, rfl⟩
        | 13, _, _, _ =>
          obtain rfl := Option.some.inj ho
          obtain ⟨v12, g12, f12⟩ := hk.got (j := 12) rfl rfl (hc ⟨12, .data⟩ (by simp) rfl)
          obtain rfl : v12 = _ := f12
          exact wpOp_val rfl rfl (v := .pointer (some ⟨d, 0, none⟩)) (w' := W) (by simp [go_sem, g12]) ⟨_, _, rfl, rfl, Below.refl _ _, rfl⟩
        | 14, _, _, _ =>
          obtain rfl := Option.some.inj ho
          obtain ⟨v13, g13, f13⟩ := hk.got (j := 13) rfl rfl (hc ⟨13, .data⟩ (by simp) rfl)
          obtain rfl : v13 = _ := f13
          exact wpOp_val rfl rfl (v := .pointer (some ⟨d, 1, none⟩)) (w' := W) (by simp [go_sem, g13]) ⟨_, _, rfl, rfl, Below.refl _ _, rfl⟩
        | 15, _, _, _ =>
          obtain rfl := Option.some.inj ho
          obtain ⟨v14, g14, f14⟩ := hk.got (j := 14) rfl rfl (hc ⟨14, .data⟩ (by simp) rfl)
          obtain rfl : v14 = _ := f14
          have d := hj.2.2.1
          exact wpOp_val rfl rfl (v := .slice (some ⟨lk, 0, none⟩) m lc) (w' := W) (by simp [go_sem, g14, d]) ⟨_, _, rfl, rfl, Below.refl _ _, rfl⟩
        | 16, _, _, _ =>
          obtain rfl := Option.some.inj ho
          exact wpOp_val rfl rfl (v := .int .i64 (j : Int)) (w' := W) (by simp [go_sem, e5]) ⟨_, _, rfl, rfl, Below.refl _ _, rfl⟩
        | 17, _, _, _ =>
          obtain rfl := Option.some.inj ho
          obtain ⟨v15, g15, f15⟩ := hk.got (j := 15) rfl rfl (hc ⟨15, .data⟩ (by simp) rfl)
          obtain rfl : v15 = _ := f15
          obtain ⟨v16, g16, f16⟩ := hk.got (j := 16) rfl rfl (hc ⟨16, .data⟩ (by simp) rfl)
          obtain rfl : v16 = _ := f16
          exact wpOp_val rfl rfl (v := .pointer (some ⟨lk, j * 2, none⟩)) (w' := W) (by simp [go_sem, g15, g16, j0, jm]) ⟨_, _, rfl, rfl, Below.refl _ _, rfl⟩
        | 18, _, _, _ =>
          obtain rfl := Option.some.inj ho
          obtain ⟨v17, g17, f17⟩ := hk.got (j := 17) rfl rfl (hc ⟨17, .data⟩ (by simp) rfl)
          obtain rfl : v17 = _ := f17
          exact wpOp_val rfl rfl (v := .pointer (some ⟨lk, j * 2 + 1, none⟩)) (w' := W) (by simp [go_sem, g17]) ⟨_, _, rfl, rfl, Below.refl _ _, rfl⟩
        | 19, _, _, _ =>
          obtain rfl := Option.some.inj ho
          obtain ⟨v18, g18, f18⟩ := hk.got (j := 18) rfl rfl (hc ⟨18, .data⟩ (by simp) rfl)
          obtain rfl : v18 = _ := f18
          have d := hj.2.2.2.2.1
          exact wpOp_val rfl rfl (v := .string T) (w' := W) (by simp [go_sem, g18, d]) ⟨_, _, rfl, rfl, Below.refl _ _, rfl⟩
        | 20, _, _, _ =>
          obtain rfl := Option.some.inj ho
          obtain ⟨v3, g3, f3⟩ := hk.got (j := 3) rfl rfl (hc ⟨3, .data⟩ (by simp) rfl)
          obtain rfl : v3 = _ := f3
          obtain ⟨v11, g11, f11⟩ := hk.got (j := 11) rfl rfl (hc ⟨11, .data⟩ (by simp) rfl)
          obtain rfl : v11 = _ := f11
          exact wpOp_val rfl rfl (v := .pointer (some ⟨sk, ci, none⟩)) (w' := W) (by simp [go_sem, g3, g11, ci0, cim]) ⟨_, _, rfl, rfl, Below.refl _ _, rfl⟩
        | m + 21, hm, _, _ => exact absurd hm (by simp)
      case hxf =>
        intro listed a W hsz hj hk o ho hc
        obtain rfl := Option.some.inj ho
        obtain ⟨v7, g7, f7⟩ := hk.got (j := 7) rfl rfl (hc ⟨7, .data⟩ (by simp) rfl)
        obtain rfl : v7 = _ := f7
        obtain ⟨v8, g8, f8⟩ := hk.got (j := 8) rfl rfl (hc ⟨8, .data⟩ (by simp) rfl)
        obtain rfl : v8 = _ := f8
        exact wpOp_val rfl rfl (v := .pointer (some ⟨lk, j * 2, none⟩)) (w' := W) (by simp [go_sem, g7, g8, j0, jm]) ⟨_, _, rfl, rfl, Below.refl _ _, rfl, hj, fun j u hj2 h => h⟩
      case hyf =>
        intro listed a W hsz hj hk o ho hc
        obtain rfl := Option.some.inj ho
        obtain ⟨v9, g9, f9⟩ := hk.got (j := 9) rfl rfl (hc ⟨9, .data⟩ (by simp) rfl)
        obtain rfl : v9 = _ := f9
        exact wpOp_val rfl rfl (v := .pointer (some ⟨lk, j * 2, none⟩)) (w' := W) (by simp [go_sem, g9]) ⟨_, _, rfl, rfl, Below.refl _ _, rfl, hj, fun j u hj2 h => h⟩
      case hlf =>
        intro listed a W hsz hj hk hall
        obtain ⟨v19, g19, f19⟩ := hk.got (j := 19) rfl rfl (hall 19 (by simp))
        obtain rfl : v19 = _ := f19
        obtain ⟨v20, g20, f20⟩ := hk.got (j := 20) rfl rfl (hall 20 (by simp))
        obtain rfl : v20 = _ := f20
        obtain ⟨hst, htd, ⟨u9, xs0⟩, xs1⟩ := hj.store HCI.out HTx.out
        refine wpOp_skipS rfl rfl (w' := W.setCell ⟨sk, ci, none⟩ (.string T)) (by simp [go_sem, g19, g20, xs0, xs1]) ?_
        have hput := hk.puts
        rw [hput]
        simp only [putT]
        generalize a.tmps[23]?.getD undef = x23
        generalize a.tmps[24]?.getD undef = x24
        generalize a.tmps[25]?.getD undef = x25
        generalize a.tmps[26]?.getD undef = x26
        generalize a.tmps[27]?.getD undef = x27
        generalize a.tmps[28]?.getD undef = x28
        generalize a.tmps[29]?.getD undef = x29
        generalize a.tmps[30]?.getD undef = x30
        generalize a.tmps[31]?.getD undef = x31
        generalize a.tmps[32]?.getD undef = x32
        generalize a.tmps[33]?.getD undef = x33
        generalize a.tmps[34]?.getD undef = x34
        generalize a.tmps[35]?.getD undef = x35
        generalize a.tmps[36]?.getD undef = x36
        generalize a.tmps[37]?.getD undef = x37
        generalize a.tmps[38]?.getD undef = x38
        generalize a.tmps[39]?.getD undef = x39
        generalize a.tmps[40]?.getD undef = x40
        generalize a.tmps[41]?.getD undef = x41
        generalize a.tmps[42]?.getD undef = x42
        generalize a.tmps[43]?.getD undef = x43
        obtain ⟨W3, hW3⟩ : ∃ X, X = W.setCell ⟨sk, ci, none⟩ (.string T) := ⟨_, rfl⟩
        rw [← hW3] at hst htd ⊢
        rw [← HStep.out] at hst
        have HS3 := Lib.hid hst
        have HT3 := Lib.hid (HTd.out.trans htd)
        clear hst htd hj hk hall hput g19 g20 xs0 xs1 hW3 hsz
        go_wp2
        go_roundw
        case rel => exact ⟨j + 1, by omega, by go_num, HS3, HT3⟩
        case measure => simp [intOf]; omega
    · obtain rfl : j = K := by omega
      have r1 : decide ((j : Int) < (j : Int)) = false := by simp
      have r1' : decide (j < j) = false := by simp
      have hkm := HKm.out
      by_cases hlt2 : j < m
      · have t1 : decide ((j : Int) < (m : Int)) = true := by simp; omega
        have t1' : decide (j < m) = true := by simpa using hlt2
        have hjl : j < lo.length := by rw [← HM.out]; exact hlt2
        have hcj := HC.out lo[j] (List.getElem_mem hjl)
        obtain ⟨sk, sc, lk, lc2, hs, hl, hjs⟩ := JS.of HD.out j hjl (by rw [applyB_len]; omega)
        obtain ⟨sf, hsf⟩ : ∃ s, s = applyB sf0 (lo.take j) := ⟨_, rfl⟩
        have HCI : Hid (lo[j].1 < sf.length) := Lib.hid (by rw [hsf, applyB_len]; exact hcj.1)
        have hoks : ok32 sf := by rw [hsf]; exact okC_apply HOk.out fun c h9 => HC.out c (List.mem_of_mem_take h9)
        have hfd : fallD sf0 lo j t = sf.set lo[j].1 (lo[j].2.take t ++ (sf.getD lo[j].1 []).drop t) := by
          unfold fallD
          rw [List.getElem?_eq_getElem hjl, hsf]
        rw [← hsf] at hjs hs HD
        obtain ⟨n, hn⟩ : ∃ n, n = sf.length := ⟨_, rfl⟩
        rw [← hn] at hs
        rw [← HM.out] at hl
        have e9 := HLv.out
        rw [hl] at e9
        injection e9 with e1 _ e2
        replace e2 := e2.symm
        subst e1 e2
        clear HLv
        subst hs hl
        obtain ⟨ci, hci⟩ : ∃ c, c = lo[j].1 := ⟨_, rfl⟩
        obtain ⟨x, hx⟩ : ∃ x, x = lo[j].2 := ⟨_, rfl⟩
        obtain ⟨T, hT⟩ : ∃ T, T = txtB x := ⟨_, rfl⟩
        rw [← hci, ← hx, ← hT] at hjs
        rw [← hci, ← hx] at hfd
        rw [← hci] at HCI
        obtain ⟨y, hy⟩ : ∃ y, y = sf.getD ci [] := ⟨_, rfl⟩
        obtain ⟨U, hU⟩ : ∃ U, U = txtB y := ⟨_, rfl⟩
        rw [← hy] at hfd
        have hy32 : y.length = 32 := by
          rw [hy, List.getD_eq_getElem?_getD, List.getElem?_eq_getElem HCI.out]
          exact hoks _ (List.getElem_mem HCI.out)
        have hx32 : x.length = 32 := by rw [hx]; exact hcj.2
        obtain ⟨A1, hA1⟩ : ∃ A, A = T.extract 0 t := ⟨_, rfl⟩
        obtain ⟨A2, hA2⟩ : ∃ A, A = U.extract t 32 := ⟨_, rfl⟩
        obtain ⟨N, hN⟩ : ∃ N, N = A1 ++ A2 := ⟨_, rfl⟩
        have HNx : Hid (N = txtB (x.take t ++ y.drop t)) := Lib.hid (by rw [hN, hA1, hA2, hT, hU]; exact part_txt x y t Ht3.out hy32)
        have l1 : A1.size ≤ 32 := by rw [hA1, ← bytes_len, ext_listS, hT]; show ((x.drop 0).take (t - 0)).length ≤ 32; simp; omega
        have l2 : A2.size ≤ 32 := by rw [hA2, ← bytes_len, ext_listS, hU]; show ((y.drop t).take (32 - t)).length ≤ 32; simp; omega
        have HAs : Hid (¬ (9223372036854775807 < A1.size + A2.size)) := Lib.hid (by omega)
        have HA1 := Lib.hid hA1.symm
        have HA2 := Lib.hid hA2.symm
        have HN := Lib.hid hN.symm
        have HtT : Hid (t ≤ T.size) := Lib.hid (by rw [hT, txt_size, hx32]; exact Ht3.out)
        have HU32 : Hid (U.size = 32) := Lib.hid (by rw [hU, txt_size, hy32])
        have HtU : Hid (t ≤ U.size) := Lib.hid (by rw [HU32.out]; exact Ht3.out)
        have HFd := Lib.hid hfd
        obtain ⟨k9, cap9, e1, e2, _⟩ := cell_row HD.out.safe (j := ci) (u := .string U) (by rw [hU, hy]; have := HCI.out; simp [strsD, this]) (by show 0 < sf.length; have := HCI.out; omega)
        injection e1 with e1 e1b e1c
        clear e1b e1c
        injection e1 with e1
        injection e1 with e1
        subst e1
        have HS2 := Lib.hid e2
        obtain ⟨s0, s1, s2, s3, s4⟩ := hjs.rest
        have j0 : (0 : Int) ≤ (j : Int) := by omega
        have jm : (j : Int) < (m : Int) := by omega
        have ci0 : (0 : Int) ≤ (ci : Int) := by omega
        have cim : (ci : Int) < (n : Int) := by have := HCI.out; omega
        clear hjs hfd hT hx hci hsf hcj hn hy hU hy32 hx32 hA1 hA2 hN l1 l2 hoks d1 e2
        go_upto_region 8 with (fail)
        obtain ⟨w5, hw5⟩ : ∃ X, X = w0.alloc (.cells #[.int .i64 (ci : Int), .string T] 72) := ⟨_, rfl⟩
        obtain ⟨xb, hxb⟩ : ∃ x, x = w0.heap.size := ⟨_, rfl⟩
        have hb5 : Below w0.heap.size w0 w5 := by rw [hw5]; exact (Below.refl _ _).alloc (Nat.le_refl _) _
        have hx5 : w5.heap[xb]? = some (.cells #[.int .i64 (ci : Int), .string T] 72 (0, 0)) := by rw [hw5, hxb]; exact heap_alloc_new w0 _
        have hd5 := HD.out.below hb5
        have HTd5 : Hid (TchD B d W1 w5) := Lib.hid (HTd.out.trans (.of_below hb5))
        have hsk := World.block_lt_of_cell? w0 _ HS2.out
        have HJ5 : Hid (JF B d w5 sf lo left off (.slice (some ⟨sk, 0, none⟩) n sc) (.slice (some ⟨lk, 0, none⟩) m lc) xb sk ci T U w5) := Lib.hid ⟨⟨hd5, TchD.refl _ _ _⟩, hd5.cells.1, by simp [World.cell?, hx5], by simp [World.cell?, hx5], (hb5.cell (p := ⟨sk, ci, none⟩) hsk).trans HS2.out, (Array.getElem?_eq_some_iff.1 hx5).1, Nat.lt_of_lt_of_le hsk hb5.size⟩
        have HBw5 := Lib.hid (Nat.le_trans HBw.out hb5.size)
        obtain ⟨p1, p3⟩ := HPb.out w5 HTd5.out
        have HW5 := Lib.hid hw5.symm
        rw [HW5.out, ← hxb]
        clear hw5 hb5 hx5 hd5 hsk HW5 hxb HS2 s0 s1 s2 s3 s4
        obtain ⟨lv, hlv⟩ : ∃ v : Value, v = .slice (some ⟨lk, 0, none⟩) m lc := ⟨_, rfl⟩
        rw [← hlv] at HJ5
        clear hlv
        go_upto_region 9 with (fail)
        refine region_J (by kernel_rfl) (B) 16 21 (fun _ _ oi ov _ => ov = [(.pointer (some ⟨d, 0, none⟩) : Value), .pointer (some ⟨d, 0, none⟩), .pointer (some ⟨d, 0, none⟩), .slice (some ⟨sk, 0, none⟩) n sc, .pointer (some ⟨xb, 0, none⟩), .int .i64 (ci : Int), .pointer (some ⟨xb, 1, none⟩), .string T, .int .i64 (t : Int), .string A1, .pointer (some ⟨d, 0, none⟩), .pointer (some ⟨d, 0, none⟩), .pointer (some ⟨d, 0, none⟩), .slice (some ⟨sk, 0, none⟩) n sc, .pointer (some ⟨xb, 0, none⟩), .int .i64 (ci : Int), .pointer (some ⟨sk, ci, none⟩), .string U, .int .i64 (t : Int), .string A2, .string N, .pointer (some ⟨sk, ci, none⟩)].getD oi undef) (fun _ _ W => JF B d w5 sf lo left off (.slice (some ⟨sk, 0, none⟩) n sc) lv xb sk ci T U W) (fun _ _ _ _ _ h hb => h.go hb) HJ5.out (fun _ _ _ _ _ _ _ h _ => h) (HBw5.out) (by kernel_rfl) (by kernel_rfl) (by decide) (by rfl) ?hsg ?hxg ?hyg ?hlg
        case hsg =>
          intro listed a W p q hsz hj hk i0 o ho hi hi1 hi2 hc
          have e0 := hk.read (t := 0) (by kernel_rfl) rfl
          have e6 := hk.read (t := 6) (by kernel_rfl) rfl
          have e7 := hk.read (t := 7) (by kernel_rfl) rfl
          match i0, hi, hi1, hi2 with
          | 0, _, _, _ =>
            obtain rfl := Option.some.inj ho
            exact wpOp_val rfl rfl (v := .pointer (some ⟨d, 0, none⟩)) (w' := W) (by simp [go_sem, e0]) ⟨_, _, rfl, rfl, Below.refl _ _, rfl⟩
          | 1, _, _, _ =>
            obtain rfl := Option.some.inj ho
            obtain ⟨v0, g0, f0⟩ := hk.got (j := 0) rfl rfl (hc ⟨0, .data⟩ (by simp) rfl)
            obtain rfl : v0 = _ := f0
            exact wpOp_val rfl rfl (v := .pointer (some ⟨d, 0, none⟩)) (w' := W) (by simp [go_sem, g0]) ⟨_, _, rfl, rfl, Below.refl _ _, rfl⟩
          | 2, _, _, _ =>
            obtain rfl := Option.some.inj ho
            obtain ⟨v1, g1, f1⟩ := hk.got (j := 1) rfl rfl (hc ⟨1, .data⟩ (by simp) rfl)
            obtain rfl : v1 = _ := f1
            exact wpOp_val rfl rfl (v := .pointer (some ⟨d, 0, none⟩)) (w' := W) (by simp [go_sem, g1]) ⟨_, _, rfl, rfl, Below.refl _ _, rfl⟩
          | 3, _, _, _ =>
            obtain rfl := Option.some.inj ho
            obtain ⟨v2, g2, f2⟩ := hk.got (j := 2) rfl rfl (hc ⟨2, .data⟩ (by simp) rfl)
            obtain rfl : v2 = _ := f2
            have d := hj.2.1
            exact wpOp_val rfl rfl (v := .slice (some ⟨sk, 0, none⟩) n sc) (w' := W) (by simp [go_sem, g2, d]) ⟨_, _, rfl, rfl, Below.refl _ _, rfl⟩
          | 4, _, _, _ =>
            obtain rfl := Option.some.inj ho
            exact wpOp_val rfl rfl (v := .pointer (some ⟨xb, 0, none⟩)) (w' := W) (by simp [go_sem, e6]) ⟨_, _, rfl, rfl, Below.refl _ _, rfl⟩
          | 5, _, _, _ =>
            obtain rfl := Option.some.inj ho
            obtain ⟨v4, g4, f4⟩ := hk.got (j := 4) rfl rfl (hc ⟨4, .data⟩ (by simp) rfl)
            obtain rfl : v4 = _ := f4
            have d := hj.2.2.1
            exact wpOp_val rfl rfl (v := .int .i64 (ci : Int)) (w' := W) (by simp [go_sem, g4, d]) ⟨_, _, rfl, rfl, Below.refl _ _, rfl⟩
          | 6, _, _, _ =>
            obtain rfl := Option.some.inj ho
            exact wpOp_val rfl rfl (v := .pointer (some ⟨xb, 1, none⟩)) (w' := W) (by simp [go_sem, e6]) ⟨_, _, rfl, rfl, Below.refl _ _, rfl⟩
          | 7, _, _, _ =>
            obtain rfl := Option.some.inj ho
            obtain ⟨v6, g6, f6⟩ := hk.got (j := 6) rfl rfl (hc ⟨6, .data⟩ (by simp) rfl)
            obtain rfl : v6 = _ := f6
            have d := hj.2.2.2.1
            exact wpOp_val rfl rfl (v := .string T) (w' := W) (by simp [go_sem, g6, d]) ⟨_, _, rfl, rfl, Below.refl _ _, rfl⟩
          | 8, _, _, _ =>
            obtain rfl := Option.some.inj ho
            exact wpOp_val rfl rfl (v := .int .i64 (t : Int)) (w' := W) (by simp [go_sem, e7]) ⟨_, _, rfl, rfl, Below.refl _ _, rfl⟩
          | 9, _, _, _ =>
            obtain rfl := Option.some.inj ho
            obtain ⟨v7, g7, f7⟩ := hk.got (j := 7) rfl rfl (hc ⟨7, .data⟩ (by simp) rfl)
            obtain rfl : v7 = _ := f7
            obtain ⟨v8, g8, f8⟩ := hk.got (j := 8) rfl rfl (hc ⟨8, .data⟩ (by simp) rfl)
            obtain rfl : v8 = _ := f8
            exact wpOp_val rfl rfl (v := .string A1) (w' := W) (by rw [← HA1.out]; exact exec_sliceTo rfl (by simp [go_sem, g7]) (by simp [go_sem, g8]) HtT.out Try.underlying9 W) ⟨_, _, rfl, rfl, Below.refl _ _, rfl⟩
          | 10, _, _, _ =>
            obtain rfl := Option.some.inj ho
            exact wpOp_val rfl rfl (v := .pointer (some ⟨d, 0, none⟩)) (w' := W) (by simp [go_sem, e0]) ⟨_, _, rfl, rfl, Below.refl _ _, rfl⟩
          | 11, _, _, _ =>
            obtain rfl := Option.some.inj ho
            obtain ⟨v10, g10, f10⟩ := hk.got (j := 10) rfl rfl (hc ⟨10, .data⟩ (by simp) rfl)
            obtain rfl : v10 = _ := f10
            exact wpOp_val rfl rfl (v := .pointer (some ⟨d, 0, none⟩)) (w' := W) (by simp [go_sem, g10]) ⟨_, _, rfl, rfl, Below.refl _ _, rfl⟩
          | 12, _, _, _ =>
            obtain rfl := Option.some.inj ho
            obtain ⟨v11, g11, f11⟩ := hk.got (j := 11) rfl rfl (hc ⟨11, .data⟩ (by simp) rfl)
            obtain rfl : v11 = _ := f11
            exact wpOp_val rfl rfl (v := .pointer (some ⟨d, 0, none⟩)) (w' := W) (by simp [go_sem, g11]) ⟨_, _, rfl, rfl, Below.refl _ _, rfl⟩
          | 13, _, _, _ =>
            obtain rfl := Option.some.inj ho
            obtain ⟨v12, g12, f12⟩ := hk.got (j := 12) rfl rfl (hc ⟨12, .data⟩ (by simp) rfl)
            obtain rfl : v12 = _ := f12
            have d := hj.2.1
            exact wpOp_val rfl rfl (v := .slice (some ⟨sk, 0, none⟩) n sc) (w' := W) (by simp [go_sem, g12, d]) ⟨_, _, rfl, rfl, Below.refl _ _, rfl⟩
          | 14, _, _, _ =>
            obtain rfl := Option.some.inj ho
            exact wpOp_val rfl rfl (v := .pointer (some ⟨xb, 0, none⟩)) (w' := W) (by simp [go_sem, e6]) ⟨_, _, rfl, rfl, Below.refl _ _, rfl⟩
          | 15, _, _, _ =>
            obtain rfl := Option.some.inj ho
            obtain ⟨v14, g14, f14⟩ := hk.got (j := 14) rfl rfl (hc ⟨14, .data⟩ (by simp) rfl)
            obtain rfl : v14 = _ := f14
            have d := hj.2.2.1
            exact wpOp_val rfl rfl (v := .int .i64 (ci : Int)) (w' := W) (by simp [go_sem, g14, d]) ⟨_, _, rfl, rfl, Below.refl _ _, rfl⟩
          | 16, _, h, _ => exact absurd rfl h
          | 17, _, _, _ =>
            obtain rfl := Option.some.inj ho
            obtain ⟨v16, g16, f16⟩ := hk.got (j := 16) rfl rfl (hc ⟨16, .data⟩ (by simp) rfl)
            obtain rfl : v16 = _ := f16
            have d := hj.2.2.2.2.1
            exact wpOp_val rfl rfl (v := .string U) (w' := W) (by simp [go_sem, g16, d]) ⟨_, _, rfl, rfl, Below.refl _ _, rfl⟩
          | 18, _, _, _ =>
            obtain rfl := Option.some.inj ho
            exact wpOp_val rfl rfl (v := .int .i64 (t : Int)) (w' := W) (by simp [go_sem, e7]) ⟨_, _, rfl, rfl, Below.refl _ _, rfl⟩
          | 19, _, _, _ =>
            obtain rfl := Option.some.inj ho
            obtain ⟨v17, g17, f17⟩ := hk.got (j := 17) rfl rfl (hc ⟨17, .data⟩ (by simp) rfl)
            obtain rfl : v17 = _ := f17
            obtain ⟨v18, g18, f18⟩ := hk.got (j := 18) rfl rfl (hc ⟨18, .data⟩ (by simp) rfl)
            obtain rfl : v18 = _ := f18
            exact wpOp_val rfl rfl (v := .string A2) (w' := W) (by rw [← HA2.out]; exact exec_sliceFrom rfl (by simp [go_sem, g17]) (by simp [go_sem, g18]) HtU.out HU32.out Try.underlying9 W) ⟨_, _, rfl, rfl, Below.refl _ _, rfl⟩
          | 20, _, _, _ =>
            obtain rfl := Option.some.inj ho
            obtain ⟨v9, g9, f9⟩ := hk.got (j := 9) rfl rfl (hc ⟨9, .data⟩ (by simp) rfl)
            obtain rfl : v9 = _ := f9
            obtain ⟨v19, g19, f19⟩ := hk.got (j := 19) rfl rfl (hc ⟨19, .data⟩ (by simp) rfl)
            obtain rfl : v19 = _ := f19
            exact wpOp_val rfl rfl (v := .string N) (w' := W) (by simp [go_sem, g9, g19, HN.out, HAs.out]) ⟨_, _, rfl, rfl, Below.refl _ _, rfl⟩
          | 21, _, _, h => exact absurd rfl h
          | m + 22, hm, _, _ => exact absurd hm (by simp)
        case hxg =>
          intro listed a W hsz hj hk o ho hc
          obtain rfl := Option.some.inj ho
          obtain ⟨v13, g13, f13⟩ := hk.got (j := 13) rfl rfl (hc ⟨13, .data⟩ (by simp) rfl)
          obtain rfl : v13 = _ := f13
          obtain ⟨v15, g15, f15⟩ := hk.got (j := 15) rfl rfl (hc ⟨15, .data⟩ (by simp) rfl)
          obtain rfl : v15 = _ := f15
          exact wpOp_val rfl rfl (v := .pointer (some ⟨sk, ci, none⟩)) (w' := W) (by simp [go_sem, g13, g15, ci0, cim]) ⟨_, _, rfl, rfl, Below.refl _ _, rfl, hj, fun j u hj2 h => h⟩
        case hyg =>
          intro listed a W hsz hj hk o ho hc
          obtain rfl := Option.some.inj ho
          obtain ⟨v3, g3, f3⟩ := hk.got (j := 3) rfl rfl (hc ⟨3, .data⟩ (by simp) rfl)
          obtain rfl : v3 = _ := f3
          obtain ⟨v5, g5, f5⟩ := hk.got (j := 5) rfl rfl (hc ⟨5, .data⟩ (by simp) rfl)
          obtain rfl : v5 = _ := f5
          exact wpOp_val rfl rfl (v := .pointer (some ⟨sk, ci, none⟩)) (w' := W) (by simp [go_sem, g3, g5, ci0, cim]) ⟨_, _, rfl, rfl, Below.refl _ _, rfl, hj, fun j u hj2 h => h⟩
        case hlg =>
          intro listed a W hsz hj hk hall
          obtain ⟨v20, g20, f20⟩ := hk.got (j := 20) rfl rfl (hall 20 (by simp))
          obtain rfl : v20 = _ := f20
          obtain ⟨v21, g21, f21⟩ := hk.got (j := 21) rfl rfl (hall 21 (by simp))
          obtain rfl : v21 = _ := f21
          obtain ⟨hst, htd, ⟨u9, xs0⟩, xs1⟩ := hj.store HCI.out HNx.out
          refine wpOp_skipS rfl rfl (w' := W.setCell ⟨sk, ci, none⟩ (.string N)) (by simp [go_sem, g20, g21, xs0, xs1]) ?_
          have hput := hk.puts
          rw [hput]
          simp only [putT]
          generalize a.tmps[62]?.getD undef = x62
          generalize a.tmps[63]?.getD undef = x63
          generalize a.tmps[64]?.getD undef = x64
          generalize a.tmps[65]?.getD undef = x65
          generalize a.tmps[66]?.getD undef = x66
          generalize a.tmps[67]?.getD undef = x67
          generalize a.tmps[68]?.getD undef = x68
          generalize a.tmps[69]?.getD undef = x69
          generalize a.tmps[70]?.getD undef = x70
          generalize a.tmps[71]?.getD undef = x71
          generalize a.tmps[72]?.getD undef = x72
          generalize a.tmps[73]?.getD undef = x73
          generalize a.tmps[74]?.getD undef = x74
          generalize a.tmps[75]?.getD undef = x75
          generalize a.tmps[76]?.getD undef = x76
          generalize a.tmps[77]?.getD undef = x77
          generalize a.tmps[78]?.getD undef = x78
          generalize a.tmps[79]?.getD undef = x79
          generalize a.tmps[80]?.getD undef = x80
          generalize a.tmps[81]?.getD undef = x81
          generalize a.tmps[82]?.getD undef = x82
          generalize a.tmps[83]?.getD undef = x83
          obtain ⟨W3, hW3⟩ : ∃ X, X = W.setCell ⟨sk, ci, none⟩ (.string N) := ⟨_, rfl⟩
          rw [← hW3] at hst htd ⊢
          rw [← HFd.out] at hst
          have HS3 := Lib.hid hst
          have HT3 := Lib.hid (HTd5.out.trans htd)
          clear hst htd hj hk hall hput g20 g21 xs0 xs1 hW3 hsz
          have h1 := HS3.out.set_nil
          have h2 := h1.set_left L
          have h3 := h2.set_off false
          obtain ⟨_, x1, _, _⟩ := HS3.out.cells
          obtain ⟨_, _, x2, _⟩ := h1.cells
          obtain ⟨_, _, _, x3⟩ := h2.cells
          have y1 := HS3.out.frozen 1
          have y2 := h1.frozen 2
          have y3 := h2.frozen 3
          obtain ⟨p5, _⟩ := HPb.out _ (HT3.out.trans (TchD.setCell W3 1 (.slice none 0 0)))
          have HS9 := Lib.hid h3
          have HT9 := Lib.hid ((((HT1.out.trans HT3.out).trans (TchD.setCell W3 1 (.slice none 0 0))).trans (TchD.setCell _ 2 (.int .i64 (L : Int)))).trans (TchD.setCell _ 3 (.bool false)))
          clear h1 h2 h3
          go_wp2
          go_end0
          exact ⟨rfl, HS9.out, HT9.out⟩
      · obtain rfl : j = m := by omega
        have t1 : decide ((j : Int) < (j : Int)) = false := by simp
        have t1' : decide (j < j) = false := by simp
        have hfd : fallD sf0 lo j t = applyB sf0 (lo.take j) := by
          unfold fallD
          rw [List.getElem?_eq_none (by rw [← HM.out]; exact Nat.le_refl _)]
        obtain ⟨W3, hW3⟩ : ∃ X, X = w0 := ⟨_, rfl⟩
        have HS3 := HD
        rw [← hfd, ← hW3] at HS3
        have HT3 := HTd
        rw [← hW3] at HT3
        rw [HLv.out] at d1
        rw [← hW3] at d1 ⊢
        clear hfd
        clear hW3
        have h1 := HS3.out.set_nil
        have h2 := h1.set_left L
        have h3 := h2.set_off false
        obtain ⟨_, x1, _, _⟩ := HS3.out.cells
        obtain ⟨_, _, x2, _⟩ := h1.cells
        obtain ⟨_, _, _, x3⟩ := h2.cells
        have y1 := HS3.out.frozen 1
        have y2 := h1.frozen 2
        have y3 := h2.frozen 3
        obtain ⟨p5, _⟩ := HPb.out _ (HT3.out.trans (TchD.setCell W3 1 (.slice none 0 0)))
        have HS9 := Lib.hid h3
        have HT9 := Lib.hid ((((HT1.out.trans HT3.out).trans (TchD.setCell W3 1 (.slice none 0 0))).trans (TchD.setCell _ 2 (.int .i64 (L : Int)))).trans (TchD.setCell _ 3 (.bool false)))
        clear h1 h2 h3
        go_wp2
        go_end0
        exact ⟨rfl, HS9.out, HT9.out⟩
end Go.Proofs.Ytgmlgjdibpphaaa
