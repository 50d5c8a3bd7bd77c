/- The document's strip: Write, Read: the walks. -/
import Derived.Test.YtgmlgjdibpphaaaStDoc
namespace Go.Proofs.Ytgmlgjdibpphaaa
open Go.RowKit
set_option linter.unusedVariables false
set_option linter.unusedSimpArgs false

theorem infoDc : (Try.prog.info? 72).map (fun i => (i.zero, i.size, i.bytes)) = some (some (.agg #[.int .i64 0, .string ⟨#[]⟩]), 2, 24) := by kernel_rfl
theorem flatD_one : ∀ (L : List (Nat × Blk)), ∀ u ∈ flatD L, u.oneCell' = true := by
  intro L u hu
  obtain ⟨c, _, hc⟩ := List.mem_flatMap.1 hu
  simp only [cellsD, List.mem_cons, List.not_mem_nil, or_false] at hc
  rcases hc with rfl | rfl <;> rfl
theorem txt_eta (s : ByteArray) : txtB s.data.toList = s := rfl
theorem wpList_appendD {ops : Array Oper} {rest : List Oper} {o : Oper} {a : Act} {w : World} {Q : Exit → Act → World → Prop} (hgd : o.guard = none) (sl x : Operand)
    (ho : o.op = .call { callee := .builtin .append, args := #[sl, x], argTypes := #[41, 41] })
    (base : Nat) (v : Value) (L : List (Nat × Blk)) (hs : a.eval sl = v) (i : Nat) (s : ByteArray) (hown : w.ownsRow base 72 2 v L.length (flatD L)) (hx : a.eval x = .slice (some ⟨w.heap.size, 0, none⟩) 1 1)
    (h63 : L.length + 1 ≤ 1000000) (hbase : base ≤ w.heap.size)
    (h : ∀ v' w', w'.ownsRow base 72 2 v' (L ++ [(i, s.data.toList)]).length (flatD (L ++ [(i, s.data.toList)])) → (w.alloc (.cells #[.int .i64 i, .string s] 72)).grownBy w' v.ownBlock → wpList Try.prog ops Q rest (a.put o.dst v') w') : wpList Try.prog ops Q (o :: rest) a (w.alloc (.cells #[.int .i64 i, .string s] 72)) := by
  obtain ⟨i0, hi, hz0, hz1, hz2⟩ := infoS_parts infoDc
  have hn := heap_alloc_new w (.cells #[.int .i64 i, .string s] 72)
  refine wpList_append_own_at _ hgd sl x 41 ho base 72 i0 (.agg #[.int .i64 0, .string ⟨#[]⟩]) 2 24 Try.underlying41 hi hz0 hz1 hz2 rfl (by decide) v L.length (flatD L) hs (World.ownsRow.alloc hown _) ⟨w.heap.size, 0, none⟩ 1 1 [.int .i64 i, .string s] hx rfl (fun j u hu => by rw [Addr.add_mid, cells_slice hn, Nat.zero_add]; exact hu) (by intro u hu; simp at hu; rcases hu with rfl | rfl <;> rfl) (by unfold maxLen; omega) (by omega) (by rw [size_alloc]; omega) ?_
  intro v' w' hown' hgrow _ hat
  refine h v' w' ?_ hgrow
  rw [List.length_append, show flatD (L ++ [(i, s.data.toList)]) = flatD L ++ [.int .i64 i, .string s] from by simp [flatD, cellsD, txt_eta]]
  exact hown'
theorem rowD_at {B : Nat} {w : World} {v : Value} {n : Nat} {xs : List Value} {e : TypeId} {sz : Nat} (h : w.ownsRow B e sz v n xs) {k : Nat} (hk : v.ownBlock = some k) : B ≤ k ∧ ∃ cs, w.heap[k]? = some (.cells cs e (0, 0)) := by
  rcases h.2 with ⟨rfl, _⟩ | ⟨j, cap, cur, rfl, h1, h2, _⟩
  · cases hk
  · have : k = j := by simpa [Value.ownBlock] using hk.symm
    subst this
    exact ⟨h1, _, h2⟩
/-- Behind an append to the row of changes: the box, and the safe row, are as they were. -/
theorem StD.grown {B d : Nat} {w w1 w' : World} {D : Dt} {sv lv v' : Value} (h : StD B d w D sv lv) (hb : Below w.heap.size w w1) (hg : w1.grownBy w' lv.ownBlock) (hB : B ≤ w.heap.size) {L : List (Nat × Blk)} (hr : w'.ownsRow B 72 2 v' L.length (flatD L)) :
    StD B d (w'.setCell ⟨d, 1, none⟩ v') { D with lo := L } sv v' ∧ TchD B d w (w'.setCell ⟨d, 1, none⟩ v') ∧ w'.cell? ⟨d, 1, none⟩ = some lv ∧ w'.frozen? ⟨d, 1, none⟩ = false := by
  have h1 := h.below hb
  have hbox : w'.heap[d]? = w1.heap[d]? := hg.block d h1.lt fun e => by
    obtain ⟨_, cs, hc⟩ := rowD_at h1.row e.symm
    exact ne_type hc h1.box (by decide) rfl
  have hsafe : w'.ownsRow B 9 1 sv D.sf.length (strsD D.sf) := row_keepD h1.safe fun k cs hc => hg.block k (Array.getElem?_eq_some_iff.1 hc).1 fun e => by
    obtain ⟨_, cs2, hc2⟩ := rowD_at h1.row e.symm
    exact ne_type hc hc2 (by decide) rfl
  have hbx := hbox.trans h1.box
  have ht : TchD B d w1 w' := ⟨hg.os, hg.tape, hg.output, hg.size, fun k hk _ h3 => hg.block k hk fun e => by
    obtain ⟨r1, cs, hc⟩ := rowD_at h1.row e.symm
    rcases h3 with h3 | h3
    · omega
    · exact h3 ⟨_, _, _, hc, .inr rfl⟩⟩
  refine ⟨⟨h.hd, heap_setCell_same w' d 1 _ _ _ hbx, row_keepD hsafe fun k cs hc => heap_setCell_ne _ _ _ _ _ (ne_type hc hbx (by decide)), row_keepD hr fun k cs hc => heap_setCell_ne _ _ _ _ _ (ne_type hc hbx (by decide))⟩, ((TchD.of_below hb).trans ht).trans (TchD.setCell _ _ _), ?_, free_box hbx 1⟩
  simp only [World.cell?, hbx]
  rfl
set_option maxRecDepth 100000 in
theorem writeD_down {B d : Nat} {w : World} {sf : List Blk} {lo : List (Nat × Blk)} {left : Nat} {sv lv : Value} (h : StD B d w ⟨sf, lo, left, true⟩ sv lv) (i : Int) (s : ByteArray) : Calls Try.prog 14 #[.pointer (some ⟨d, 0, none⟩), .int .i64 i, .string s] w fun e w' => e = .returned (.int .i64 8) ∧ w' = w := by
  obtain ⟨c0, c1, c2, c3⟩ := h.cells
  dsimp only at c3
  clear h
  go_enter Try.func14, Try.ntmps14
  go_wp2
  go_ret
  exact ⟨rfl, rfl⟩
set_option maxRecDepth 100000 in
set_option maxHeartbeats 1000000 in
theorem writeD_bad {B d : Nat} {w : World} {sf : List Blk} {lo : List (Nat × Blk)} {left : Nat} {sv lv : Value} (h : StD B d w ⟨sf, lo, left, false⟩ sv lv) (i : Int) (s : ByteArray) (hbad : inB sf.length i = false ∨ s.size ≠ 32) : Calls Try.prog 14 #[.pointer (some ⟨d, 0, none⟩), .int .i64 i, .string s] w fun e w' => e = .returned (.int .i64 1) ∧ w' = w := by
  obtain ⟨c0, c1, c2, c3⟩ := h.cells
  dsimp only at c3
  obtain ⟨sa, sc, hsv⟩ := slice_of h.safe
  dsimp only at hsv
  rw [hsv] at c0
  clear h hsv
  obtain ⟨n, hn⟩ : ∃ n, n = sf.length := ⟨_, rfl⟩
  rw [← hn] at c0 hbad
  clear hn
  by_cases h0 : 0 ≤ i
  · have t0 : decide (i < 0) = false := by simp; omega
    by_cases h1 : i < (n : Int)
    · have t1 : decide (i ≥ (n : Int)) = false := by simp; omega
      have t1' : decide ((n : Int) ≤ i) = false := by simp; omega
      have h32 : s.size ≠ 32 := hbad.resolve_left (by simp [inB, h0, h1])
      have t3 : ((s.size : Int) != 32) = true := by simp; omega
      have t4 : decide ((s.size : Int) = 32) = false := by simp; omega
      clear hbad
      go_enter Try.func14, Try.ntmps14
      go_wp2
      go_ret
      exact ⟨rfl, rfl⟩
    · have t1 : decide (i ≥ (n : Int)) = true := by simp; omega
      have t1' : decide ((n : Int) ≤ i) = true := by simp; omega
      clear hbad
      go_enter Try.func14, Try.ntmps14
      go_wp2
      go_ret
      exact ⟨rfl, rfl⟩
  · have t0 : decide (i < 0) = true := by simp; omega
    clear hbad
    go_enter Try.func14, Try.ntmps14
    go_wp2
    go_ret
    exact ⟨rfl, rfl⟩
set_option maxRecDepth 100000 in
set_option maxHeartbeats 2000000 in
theorem writeD_crash {B d : Nat} {w : World} {sf : List Blk} {lo : List (Nat × Blk)} {sv lv : Value} (h : StD B d w ⟨sf, lo, 1, false⟩ sv lv) (i : Nat) (hi : i < sf.length) (s : ByteArray) (hs32 : s.size = 32) : Calls Try.prog 14 #[.pointer (some ⟨d, 0, none⟩), .int .i64 i, .string s] w fun e w' => e = .returned (.int .i64 8) ∧ StD B d w' ⟨sf, lo, 0, true⟩ sv lv ∧ TchD B d w w' := by
  have hct := count_any h (by decide)
  rw [show (decide ((1 : Nat) = 1)) = true from rfl] at hct
  have HCt := Lib.hid hct
  obtain ⟨c0, c1, c2, c3⟩ := h.cells
  dsimp only at c3
  obtain ⟨sa, sc, hsv⟩ := slice_of h.safe
  dsimp only at hsv
  rw [hsv] at c0
  obtain ⟨n, hn⟩ : ∃ n, n = sf.length := ⟨_, rfl⟩
  rw [← hn] at c0 hi
  have t0 : decide ((i : Int) < 0) = false := by simp
  have t1 : decide ((i : Int) ≥ (n : Int)) = false := by simp; omega
  have t1' : decide ((n : Int) ≤ (i : Int)) = false := by simp; omega
  have t1'' : decide (n ≤ i) = false := by simp; omega
  have t3 : ((s.size : Int) != 32) = false := by simp; omega
  have t4 : decide ((s.size : Int) = 32) = true := by simp; omega
  clear h hsv hn hct hs32 hi
  go_enter Try.func14, Try.ntmps14
  go_wp2_with (go_at_call 30; refine HCt.out.mono ?_; rintro e w2 ⟨rfl, hs2, ht2⟩; have HS2 := Lib.hid hs2; have HT2 := Lib.hid ht2; clear hs2 ht2)
  go_ret
  exact ⟨rfl, HS2.out, HT2.out⟩
set_option maxRecDepth 100000 in
set_option maxHeartbeats 2000000 in
theorem writeD_go {B d : Nat} {w : World} {sf : List Blk} {lo : List (Nat × Blk)} {left : Nat} {sv lv : Value} (h : StD B d w ⟨sf, lo, left, false⟩ sv lv) (hB : B ≤ w.heap.size) (hl : left ≤ 9223372036854775807) (hne : left ≠ 1) (hlo : lo.length ≤ 999999) (i : Nat) (hi : i < sf.length) (s : ByteArray) (hs32 : s.size = 32) : Calls Try.prog 14 #[.pointer (some ⟨d, 0, none⟩), .int .i64 i, .string s] w fun e w' => ∃ lv', e = .returned (.int .i64 0) ∧ StD B d w' ⟨sf, lo ++ [(i, s.data.toList)], left - 1, false⟩ sv lv' ∧ TchD B d w w' := by
  have hct := count_any h hl
  rw [show (decide (left = 1)) = false from decide_eq_false hne] at hct
  have HCt := Lib.hid hct
  obtain ⟨c0, c1, c2, c3⟩ := h.cells
  dsimp only at c3
  obtain ⟨sa, sc, hsv⟩ := slice_of h.safe
  dsimp only at hsv
  rw [hsv] at c0
  obtain ⟨n, hn⟩ : ∃ n, n = sf.length := ⟨_, rfl⟩
  rw [← hn] at c0 hi
  have t0 : decide ((i : Int) < 0) = false := by simp
  have t1 : decide ((i : Int) ≥ (n : Int)) = false := by simp; omega
  have t1' : decide ((n : Int) ≤ (i : Int)) = false := by simp; omega
  have t1'' : decide (n ≤ i) = false := by simp; omega
  have t3 : ((s.size : Int) != 32) = false := by simp; omega
  have t4 : decide ((s.size : Int) = 32) = true := by simp; omega
  have HB := Lib.hid hB
  have HLo := Lib.hid hlo
  clear h hsv hn hct hs32 hi hB hl hne hlo
  go_enter Try.func14, Try.ntmps14
  go_upto_region 7 with (go_at_call 30; refine HCt.out.mono ?_; rintro e w2 ⟨rfl, hs2, ht2⟩; have HS2 := Lib.hid hs2; have HT2 := Lib.hid ht2; clear hs2 ht2)
  have e1 := HS2.out.cells.2.1
  have HBw := Lib.hid (Nat.le_trans HB.out HT2.out.size)
  go_wp2_with (first
    | (refine wpList_appendD rfl (.tmp 37) (.tmp 41) rfl B lv lo rfl i s HS2.out.row rfl (by have := HLo.out; omega) HBw.out ?_
       intro v3 w3 hr3 hg3
       obtain ⟨la, lc, hv3⟩ := slice_of hr3
       obtain ⟨ln, hln⟩ : ∃ k, k = (lo ++ [(i, s.data.toList)]).length := ⟨_, rfl⟩
       rw [← hln] at hv3
       subst hv3
       clear hln
       obtain ⟨hs4, ht4, e4, f4⟩ := HS2.out.grown ((Below.refl _ _).alloc (Nat.le_refl _) _) hg3 HBw.out hr3
       have HS4 := Lib.hid hs4
       have HT4 := Lib.hid (HT2.out.trans ht4)
       clear hs4 ht4 hr3 hg3))
  go_ret
  first | exact ⟨_, rfl, HS4.out, HT4.out⟩ | exact ⟨rfl, ⟨_, HS4.out⟩, HT4.out⟩
set_option maxRecDepth 100000 in
theorem readD_down {B d : Nat} {w : World} {sf : List Blk} {lo : List (Nat × Blk)} {left : Nat} {sv lv : Value} (h : StD B d w ⟨sf, lo, left, true⟩ sv lv) (i : Int) : Calls Try.prog 25 #[.pointer (some ⟨d, 0, none⟩), .int .i64 i] w fun e w' => e = .returned (.tuple #[.string ⟨#[]⟩, .int .i64 8]) ∧ w' = w := by
  obtain ⟨c0, c1, c2, c3⟩ := h.cells
  dsimp only at c3
  clear h
  go_enter Try.func25, Try.ntmps25
  go_wp2
  go_ret2
  exact ⟨rfl, rfl⟩
set_option maxRecDepth 100000 in
set_option maxHeartbeats 1000000 in
theorem readD_out {B d : Nat} {w : World} {sf : List Blk} {lo : List (Nat × Blk)} {left : Nat} {sv lv : Value} (h : StD B d w ⟨sf, lo, left, false⟩ sv lv) (i : Int) (hbad : inB sf.length i = false) : Calls Try.prog 25 #[.pointer (some ⟨d, 0, none⟩), .int .i64 i] w fun e w' => e = .returned (.tuple #[.string ⟨#[]⟩, .int .i64 1]) ∧ w' = w := by
  obtain ⟨c0, c1, c2, c3⟩ := h.cells
  dsimp only at c3
  obtain ⟨sa, sc, hsv⟩ := slice_of h.safe
  dsimp only at hsv
  rw [hsv] at c0
  clear h hsv
  obtain ⟨n, hn⟩ : ∃ n, n = sf.length := ⟨_, rfl⟩
  rw [← hn] at c0 hbad
  clear hn
  by_cases h0 : 0 ≤ i
  · have t0 : decide (i < 0) = false := by simp; omega
    have hn1 : ¬ i < (n : Int) := fun h1 => by simp [inB, h0, h1] at hbad
    have t1 : decide (i ≥ (n : Int)) = true := by simp; omega
    have t1' : decide ((n : Int) ≤ i) = true := by simp; omega
    clear hbad
    go_enter Try.func25, Try.ntmps25
    go_wp2
    go_ret2
    exact ⟨rfl, rfl⟩
  · have t0 : decide (i < 0) = true := by simp; omega
    clear hbad
    go_enter Try.func25, Try.ntmps25
    go_wp2
    go_ret2
    exact ⟨rfl, rfl⟩
set_option maxRecDepth 100000 in
set_option maxHeartbeats 4000000 in
theorem readD_in {B d : Nat} {w : World} {sf : List Blk} {lo : List (Nat × Blk)} {left : Nat} {sv lv : Value} (h : StD B d w ⟨sf, lo, left, false⟩ sv lv) (hlo : lo.length ≤ 1000000) (hc : ∀ c ∈ lo, c.1 < sf.length) (i : Nat) (hi : i < sf.length) : Calls Try.prog 25 #[.pointer (some ⟨d, 0, none⟩), .int .i64 i] w fun e w' => e = .returned (.tuple #[.string (txtB ((applyB sf lo).getD i [])), .int .i64 0]) ∧ Below w.heap.size w w' := by
  obtain ⟨c0, c1, c2, c3⟩ := h.cells
  dsimp only at c3
  obtain ⟨T0, hT0⟩ : ∃ T, T = txtB sf[i] := ⟨_, rfl⟩
  obtain ⟨sk, sc, hsv, hs1, _⟩ := cell_row h.safe (j := i) (u := .string T0) (by rw [hT0]; simp [strsD, hi]) (by show 0 < sf.length; omega)
  dsimp only at hsv
  rw [hsv] at c0
  obtain ⟨la, lc, hlv⟩ := slice_of h.row
  dsimp only at hlv
  rw [hlv] at c1
  obtain ⟨n, hn⟩ : ∃ n, n = sf.length := ⟨_, rfl⟩
  obtain ⟨m, hm⟩ : ∃ m, m = lo.length := ⟨_, rfl⟩
  rw [← hn] at c0
  rw [← hm] at c1
  have t0 : decide ((i : Int) < 0) = false := by simp
  have t1 : decide ((i : Int) ≥ (n : Int)) = false := by simp; omega
  have t1' : decide ((n : Int) ≤ (i : Int)) = false := by simp; omega
  have t1'' : decide (n ≤ i) = false := by simp; omega
  have u0 : (0 : Int) ≤ (i : Int) := by omega
  have u1 : (i : Int) < (n : Int) := by omega
  have HD := Lib.hid h
  have HLv := Lib.hid hlv
  have HM := Lib.hid hm
  have HLo : Hid (m ≤ 1000000) := Lib.hid (by omega)
  have HC := Lib.hid hc
  have HI := Lib.hid hi
  have HT0 : Hid (T0 = txtB ((applyB sf (lo.take 0)).getD i [])) := Lib.hid (by
    rw [hT0, List.take_zero, List.getD_eq_getElem?_getD]
    show _ = txtB ((sf[i]?).getD [])
    rw [List.getElem?_eq_getElem hi]
    rfl)
  clear h hsv hlv hn hm hlo hc hi hT0
  go_enter Try.func25, Try.ntmps25
  go_wp2
  go_loopw [6, 7] (fun bv kv wr => ∃ (j : Nat) (T : ByteArray), j ≤ m ∧ bv = .string T ∧ kv = .int .i64 j ∧ Hid (T = txtB ((applyB sf (lo.take j)).getD i [])) ∧ Hid (Below w.heap.size w wr)) (fun bv kv wr => m - (intOf kv).toNat)
  case atStart => exact ⟨0, T0, by omega, rfl, rfl, HT0, Lib.hid (Below.refl _ _)⟩
  case round =>
    obtain ⟨j, T, hj, rfl, rfl, HT, HBr⟩ := hrel
    rename World => wr
    have hD := HD.out.below HBr.out
    obtain ⟨_, d1, _, _⟩ := hD.cells
    by_cases hlt : j < m
    · have r1 : decide ((j : Int) < (m : Int)) = true := by simp; omega
      have r1' : decide (j < m) = true := by simpa using hlt
      have v0 : (0 : Int) ≤ (j : Int) := by omega
      have v1 : (j : Int) < (m : Int) := by omega
      have hjl : j < lo.length := by rw [← HM.out]; exact hlt
      obtain ⟨g1, g2⟩ := flatD_at lo j hjl
      obtain ⟨lk, lc2, hl2, x1, _⟩ := cell_row hD.row g1 (by show 0 < lo.length; omega)
      obtain ⟨lk2, lc3, hl3, x2, _⟩ := cell_row hD.row g2 (by show 0 < lo.length; omega)
      dsimp only at hl2 hl3
      rw [hl2] at hl3 d1
      injection hl3 with hl3
      injection hl3 with hl3
      injection hl3 with hl3
      subst hl3
      rw [← HM.out] at d1
      obtain ⟨c, hcc⟩ : ∃ c, c = lo[j] := ⟨_, rfl⟩
      rw [← hcc] at x1 x2
      have hstep : applyB sf (lo.take (j + 1)) = (applyB sf (lo.take j)).set c.1 c.2 := by
        rw [List.take_add_one, List.getElem?_eq_getElem hjl, ← hcc]
        exact applyB_snoc _ _ _
      have hil : i < (applyB sf (lo.take j)).length := by rw [applyB_len]; exact HI.out
      have w9 : IntKind.i64.wrap ((j : Int) + 1) = (j : Int) + 1 := IntWalk.i64_in _ (by have := HLo.out; omega)
      by_cases hci : c.1 = i
      · have q1 : decide ((c.1 : Int) = (i : Int)) = true := by simp [hci]
        have q2 : ((c.1 : Int) == (i : Int)) = true := by simp [hci]
        have HTn : Hid (txtB c.2 = txtB ((applyB sf (lo.take (j + 1))).getD i [])) := Lib.hid (by
          rw [hstep, List.getD_eq_getElem?_getD, hci, List.getElem?_set_self hil]
          rfl)
        obtain ⟨T2, hT2⟩ : ∃ T, T = txtB c.2 := ⟨_, rfl⟩
        rw [← hT2] at x2 HTn
        clear hT2 hstep hil hcc g1 g2 hl2 hD hci
        go_wp2
        go_roundw
        case rel => exact ⟨j + 1, T2, by omega, rfl, by go_num, HTn, HBr⟩
        case measure => simp [intOf]; omega
      · have q1 : decide ((c.1 : Int) = (i : Int)) = false := decide_eq_false (by omega)
        have q2 : ((c.1 : Int) == (i : Int)) = false := beq_eq_false_iff_ne.2 (by omega)
        have HTn : Hid (T = txtB ((applyB sf (lo.take (j + 1))).getD i [])) := Lib.hid (by
          rw [HT.out, hstep, List.getD_eq_getElem?_getD, List.getD_eq_getElem?_getD, List.getElem?_set_ne hci])
        clear hstep hil hcc g1 g2 hl2 hD hci
        go_wp2
        go_roundw
        case rel => exact ⟨j + 1, T, by omega, rfl, by go_num, HTn, HBr⟩
        case measure => simp [intOf]; omega
    · obtain rfl : j = m := by omega
      have r1 : decide ((j : Int) < (j : Int)) = false := by simp
      have r1' : decide (j < j) = false := by simp
      rw [HLv.out, ← HM.out] at d1
      have hTe := HT.out
      rw [List.take_of_length_le (by rw [← HM.out]; exact Nat.le_refl _)] at hTe
      have HTe := Lib.hid hTe
      clear hTe hD
      go_wp2
      go_ret2
      exact ⟨by rw [HTe.out]; rfl, HBr.out⟩
end Go.Proofs.Ytgmlgjdibpphaaa
