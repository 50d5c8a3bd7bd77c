/- strip.Write, Read: the walks (written by tools/gen_st2.py). -/
import Derived.Test.YtgmlgjdibpphaaaStCr
import Derived.Test.YtgmlgjdibpphaaaStFill
import Derived.Lib.BufferWrite
namespace Go.Proofs.Ytgmlgjdibpphaaa
open Go.RowKit
set_option linter.unusedVariables false
set_option linter.unusedSimpArgs false

theorem bytes_len (s : ByteArray) : s.data.toList.length = s.size := Array.length_toList
/-- What an operation of Write's great region lays. -/
inductive Fs where
  | is (v : Value)
  | one (c : Nat × Blk)
  | row (L : List (Nat × Blk))
def FS (B : Nat) (T : List Fs) (q : Bool) (i : Nat) (v : Value) (w : World) : Prop := match T.getD i (.is undef) with
  | .is x => v = x
  | .one c => q = true ∨ ∃ k, v = .slice (some ⟨k, 0, none⟩) 1 1 ∧ w.heap[k]? = some (.cells (cellsC c).toArray 70 (0, 0))
  | .row L => q = true ∧ w.ownsRow B 70 33 v L.length (flatC L)
theorem row_kept {B : Nat} {w w' : World} {v : Value} {n : Nat} {xs : List Value} (h : w.ownsRow B 70 33 v n xs) (k : Below w.heap.size w w') : w'.ownsRow B 70 33 v n xs :=
  World.ownsRow.kept h (row := none) ⟨k.os, k.tape, k.output, k.size, fun j hj _ => k.block j hj⟩ (by cases v.ownBlock <;> simp)
theorem FS.go {B : Nat} {T : List Fs} {q : Bool} {i : Nat} {v : Value} {w w' : World} (h : FS B T q i v w) (hb : Below w.heap.size w w') : FS B T q i v w' := by
  unfold FS at h ⊢
  cases e : T.getD i (.is undef) with
  | is x => rw [e] at h; exact h
  | one c => rw [e] at h; exact h.imp id fun ⟨k, h1, h2⟩ => ⟨k, h1, (hb.block _ (Array.getElem?_eq_some_iff.1 h2).1).trans h2⟩
  | row L => rw [e] at h; exact ⟨h.1, row_kept h.2 hb⟩
theorem FS.loud {B : Nat} {T : List Fs} {i : Nat} {v : Value} {w w' : World} (h : FS B T false i v w) : FS B T true i v w' := by
  unfold FS at h ⊢
  cases e : T.getD i (.is undef) with
  | is x => rw [e] at h; exact h
  | one c => exact .inl rfl
  | row L => rw [e] at h; cases h.1
/-- The strip in the midst of Write. -/
structure JW (B b g : Nat) (w0 : World) (bl : List Blk) (lo : List (Nat × Blk)) (ch cr : Int) (lv : Value) (q : Bool) (w : World) : Prop where
  box : w.heap[b]? = some (.cells #[.slice (some ⟨g, 0, none⟩) bl.length bl.length, lv, .int .i64 ch, .int .i64 cr, .bool false] 65 (0, 0))
  blk : w.heap[g]? = some (.cells (flatB bl).toArray 68 (0, 0))
  row : q = false → w.ownsRow B 70 33 lv lo.length (flatC lo)
  tch : Tch B b g w0 w
theorem JW.and {B b g : Nat} {w0 w : World} {bl : List Blk} {lo : List (Nat × Blk)} {ch cr : Int} {lv : Value} {q : Bool} (h : JW B b g w0 bl lo ch cr lv q w) : w.heap[b]? = some (.cells #[.slice (some ⟨g, 0, none⟩) bl.length bl.length, lv, .int .i64 ch, .int .i64 cr, .bool false] 65 (0, 0)) := h.box
theorem JW.go {B b g : Nat} {w0 w w' : World} {bl : List Blk} {lo : List (Nat × Blk)} {ch cr : Int} {lv : Value} {q : Bool} (h : JW B b g w0 bl lo ch cr lv q w) (hb : Below w.heap.size w w') : JW B b g w0 bl lo ch cr lv q w' :=
  ⟨(hb.block _ (Array.getElem?_eq_some_iff.1 h.box).1).trans h.box, (hb.block _ (Array.getElem?_eq_some_iff.1 h.blk).1).trans h.blk, fun e => row_kept (h.row e) hb, h.tch.trans (.of_below hb)⟩
theorem cells_box {w : World} {b g : Nat} {n : Nat} {lv c d e : Value} (h : w.heap[b]? = some (.cells #[.slice (some ⟨g, 0, none⟩) n n, lv, c, d, e] 65 (0, 0))) : w.cell? ⟨b, 0, none⟩ = some (.slice (some ⟨g, 0, none⟩) n n) ∧ w.cell? ⟨b, 1, none⟩ = some lv := by
  simp only [World.cell?, h]
  exact ⟨rfl, rfl⟩
theorem free_box {w : World} {b : Nat} {cs : Array Value} {t : TypeId} (h : w.heap[b]? = some (.cells cs t (0, 0))) (k : Nat) : w.frozen? ⟨b, k, none⟩ = false := by
  simp [World.frozen?, h]
theorem range_of {w : World} {g i : Nat} {bl : List Blk} {x : Blk} (h : w.heap[g]? = some (.cells (flatB bl).toArray 68 (0, 0))) (hi : i < bl.length) (hx : ok32 bl ∧ bl[i]? = some x) : w.rangeAt g (i * 32) (x.map byteV) := by
  obtain ⟨ho, hx⟩ := hx
  obtain ⟨_, rfl⟩ := List.getElem?_eq_some_iff.1 hx
  intro j v hv
  have hl := ho bl[i] (List.getElem_mem hi)
  have hj : j < 32 := by
    have := (List.getElem?_eq_some_iff.1 hv).1
    rw [List.length_map] at this
    omega
  rw [cells_slice h, flatB_at _ ho i j hi hj]
  exact hv
theorem row_at {B : Nat} {w : World} {v : Value} {n : Nat} {xs : List Value} (h : w.ownsRow B 70 33 v n xs) {k : Nat} (e : v.ownBlock = some k) : B ≤ k ∧ IsCh w k := by
  rcases h.2 with ⟨rfl, _⟩ | ⟨j, cap, cur, rfl, h1, h2, _⟩
  · cases e
  · have : k = j := by simpa [Value.ownBlock] using e.symm
    subst this
    exact ⟨h1, _, _, h2⟩
theorem ne_ch {w : World} {k : Nat} {cs : Array Value} {t : TypeId} {fr : Nat × Nat} (h : w.heap[k]? = some (.cells cs t fr)) (ht : t ≠ 70) : ¬ IsCh w k := fun ⟨c, f, e⟩ => by
  rw [h] at e
  injection e with e
  injection e with _ e
  exact ht e
theorem row_slice {B : Nat} {w : World} {v : Value} {n : Nat} {xs : List Value} (h : w.ownsRow B 70 33 v n xs) : ∃ a c, v = .slice a n c := by
  rcases h.2 with ⟨rfl, hz⟩ | ⟨k, cap, cur, rfl, _⟩
  · exact ⟨_, _, by rw [hz]⟩
  · exact ⟨_, _, rfl⟩
theorem one_row {B : Nat} {w : World} {v : Value} {n : Nat} {xs : List Value} (h : w.ownsRow B 70 33 v n xs) : v.oneCell' = true := by
  rcases h.2 with ⟨rfl, _⟩ | ⟨j, cap, cur, rfl, _⟩ <;> rfl
theorem append_change {B b g : Nat} {w0 w : World} {bl : List Blk} {lo : List (Nat × Blk)} {ch cr : Int} {lv : Value} (hj : JW B b g w0 bl lo ch cr lv false w) {k : Nat} {c : Nat × Blk} (hk : w.heap[k]? = some (.cells (cellsC c).toArray 70 (0, 0))) (hc : c.2.length = 32) (hlo : lo.length ≤ 999999) (hB : B ≤ w.heap.size) (hb : B ≤ b) (hg : B ≤ g) (ty : TypeId) :
    ∃ v' w', (Builtin.append_ #[58, 58] ty #[lv, .slice (some ⟨k, 0, none⟩) 1 1]).run Try.prog w = .ok v' w' ∧ w'.ownsRow B 70 33 v' (lo ++ [c]).length (flatC (lo ++ [c])) ∧ JW B b g w0 bl lo ch cr lv true w' ∧ Below B w w' := by
  obtain ⟨i0, hi, hz0, hz1, hz2⟩ := infoS_parts infoC
  have hrow := hj.row rfl
  obtain ⟨v', w', hrun, hown', hgrow, _, hat⟩ := run_append_own_at (P := Try.prog) w B 58 ty 70 i0 (.agg zeroC) 33 40 Try.underlying58 hi hz0 hz1 hz2 rfl (by decide) lv lo.length (flatC lo) hrow ⟨k, 0, none⟩ 1 1 (cellsC c) (cellsC_len c hc)
    (fun j u hu => by rw [Addr.add_mid, cells_slice hk, Nat.zero_add]; exact hu) (fun u hu => flatC_one [c] u (by simpa [flatC] using hu)) (by unfold maxLen; omega) (by omega) hB
  have hbl := hgrow.block b (Array.getElem?_eq_some_iff.1 hj.box).1 fun e => ne_ch hj.box (by decide) (row_at hrow e.symm).2
  have hgl := hgrow.block g (Array.getElem?_eq_some_iff.1 hj.blk).1 fun e => ne_ch hj.blk (by decide) (row_at hrow e.symm).2
  have ht : Tch B b g w w' := ⟨hgrow.os, hgrow.tape, hgrow.output, hgrow.size, fun j hj1 _ _ hj2 => hgrow.block j hj1 fun e => by
    obtain ⟨r1, r2⟩ := row_at hrow e.symm
    rcases hj2 with h | h
    · omega
    · exact h r2⟩
  refine ⟨v', w', hrun, ?_, ⟨hbl.trans hj.box, hgl.trans hj.blk, (fun e => by cases e), hj.tch.trans ht⟩, ht.below hb hg hB⟩
  rw [List.length_append, flatC_app]
  simpa [flatC] using hown'
theorem JW.store {B b g : Nat} {w0 w : World} {bl : List Blk} {lo : List (Nat × Blk)} {ch cr : Int} {lv v : Value} {L : List (Nat × Blk)} (hj : JW B b g w0 bl lo ch cr lv true w) (hr : w.ownsRow B 70 33 v L.length (flatC L)) (ho : B ≤ b ∧ B ≤ g ∧ ok32 bl ∧ bl.length ≤ 65536) (hl : okC bl.length L ∧ L.length ≤ 1000000) :
    StA B b g (w.setCell ⟨b, 1, none⟩ v) ⟨bl, L, ch, cr, false⟩ v ∧ Tch B b g w0 (w.setCell ⟨b, 1, none⟩ v) := by
  have hne : g ≠ b := fun e => by
    have h1 := hj.box
    have h2 := hj.blk
    rw [← e, h2] at h1
    injection h1 with h1
    injection h1 with _ h1
    exact absurd h1 (by decide)
  refine ⟨⟨ho.1, ho.2.1, heap_setCell_same w b 1 _ _ v hj.box, (heap_setCell_ne _ _ _ _ _ hne).trans hj.blk, ?_, ho.2.2.1, hl.1, ho.2.2.2, hl.2⟩, hj.tch.trans (Tch.setCell _ _ _)⟩
  refine ⟨hr.1, ?_⟩
  rcases hr.2 with h1 | ⟨k, cap, cur, h1, h2, h3, h4⟩
  · exact .inl h1
  · refine .inr ⟨k, cap, cur, h1, h2, ?_, h4⟩
    rw [heap_setCell_ne _ _ _ _ _ ?_]
    · exact h3
    · intro e
      exact ne_ch hj.box (by decide) ⟨_, _, e ▸ h3⟩
theorem tch_setRow {B b : Nat} (w : World) (g : Nat) (cs : Array Value) : Tch B b g w (w.setRow g cs) :=
  ⟨rfl, rfl, rfl, by simp [World.setRow], fun k _ _ h _ => setRow_other w g k cs h⟩
theorem StA.set_row {B b g : Nat} {w : World} {S : St} {lv : Value} (h : StA B b g w S lv) (i : Nat) (x : Blk) (hi : i < S.bl.length) (hx : x.length = 32) : StA B b g (w.setRow g (flatB (S.bl.set i x)).toArray) { S with bl := S.bl.set i x } lv := by
  refine ⟨h.hb, h.hg, ?_, setRow_heap w g _ _ _ _ h.blk, ?_, ok32_set h.ok i x hx, ?_, ?_, h.few⟩
  · rw [setRow_other w g b _ h.ne]
    simpa using h.box
  · refine ⟨h.row.1, ?_⟩
    rcases h.row.2 with h1 | ⟨k, cap, cur, h1, h2, h3, h4⟩
    · exact .inl h1
    · refine .inr ⟨k, cap, cur, h1, h2, ?_, h4⟩
      rw [setRow_other _ _ _ _ ?_]
      · exact h3
      · intro e
        exact ne_ch h.blk (by decide) ⟨_, _, e ▸ h3⟩
  · simpa using h.okc
  · simpa using h.most
theorem copy_in {B b g : Nat} {w : World} {S : St} {lv : Value} (h : StA B b g w S lv) (i : Nat) (hi : i < S.bl.length) (s : ByteArray) (hs : s.size = 32) (ty : TypeId) :
    (Builtin.copy_ #[49, 9] ty #[.slice (some ⟨g, i * 32, none⟩) 32 32, .string s]).run Try.prog w = .ok (goInt 32) (w.setRow g (flatB (S.bl.set i s.data.toList)).toArray) := by
  have hr := Lib.run_copy_row_string (P := Try.prog) w 49 9 ty 5 g (i * 32) 32 32 s (flatB S.bl).toArray 68 Try.underlying49 (by kernel_rfl) h.blk (by omega) (by
    have := flatB_len S.bl h.ok
    simp
    omega)
  rw [hs] at hr
  rw [hr]
  congr 2
  have := flatB_put S.bl h.ok i hi s.data.toList (by rw [bytes_len, hs])
  rw [← this]
  simp only [splice, List.length_map, bytes_len, hs, List.append_assoc]
  rfl
set_option maxRecDepth 100000 in
theorem write_down {B b g : Nat} {w : World} {bl : List Blk} {lo : List (Nat × Blk)} {ch cr : Int} {lv : Value} (h : StA B b g w ⟨bl, lo, ch, cr, true⟩ lv) (i : Int) (s : ByteArray) : Calls Try.prog 13 #[.pointer (some ⟨b, 0, none⟩), .int .i64 i, .string s] w fun e w' => e = .returned (.int .i64 8) ∧ w' = w := by
  have hr := refuses_any h
  clear h
  go_enter Try.func13, Try.ntmps13
  go_wp2_with (go_at_call 27; refine hr.mono ?_; rintro e w2 ⟨rfl, hw⟩; replace hw := hw.symm; subst hw)
  go_ret
  exact ⟨rfl, rfl⟩
set_option maxRecDepth 100000 in
theorem write_bad {B b g : Nat} {w : World} {bl : List Blk} {lo : List (Nat × Blk)} {ch cr : Int} {lv : Value} (h : StA B b g w ⟨bl, lo, ch, cr, false⟩ lv) (i : Int) (s : ByteArray) (hbad : inB bl.length i = false ∨ s.size ≠ 32) : Calls Try.prog 13 #[.pointer (some ⟨b, 0, none⟩), .int .i64 i, .string s] w fun e w' => e = .returned (.int .i64 1) ∧ w' = w := by
  have hr := refuses_any h
  have hh := has_any h i
  dsimp only at hh
  clear h
  obtain ⟨q, hq⟩ : ∃ q, q = inB bl.length i := ⟨_, rfl⟩
  rw [← hq] at hh hbad
  clear hq
  cases q
  · go_enter Try.func13, Try.ntmps13
    go_wp2_with (first
      | (go_at_call 27; refine hr.mono ?_; rintro e w2 ⟨rfl, hw⟩; replace hw := hw.symm; subst hw)
      | (go_at_call 28; refine hh.mono ?_; rintro e w2 ⟨rfl, hw⟩; replace hw := hw.symm; subst hw))
    go_ret
    exact ⟨rfl, rfl⟩
  · have h32 : s.size ≠ 32 := hbad.resolve_left (by simp)
    have t1 : decide ((s.size : Int) = 32) = false := by simp; omega
    have t2 : ((s.size : Int) == 32) = false := by simp; omega
    have t3 : ((s.size : Int) != 32) = true := by simp; omega
    go_enter Try.func13, Try.ntmps13
    go_wp2_with (first
      | (go_at_call 27; refine hr.mono ?_; rintro e w2 ⟨rfl, hw⟩; replace hw := hw.symm; subst hw)
      | (go_at_call 28; refine hh.mono ?_; rintro e w2 ⟨rfl, hw⟩; replace hw := hw.symm; subst hw))
    go_ret
    exact ⟨rfl, rfl⟩
theorem inB_of {n i : Nat} (h : i < n) : inB n (i : Int) = true := by simp [inB, h]
set_option maxRecDepth 100000 in
theorem write_crash {B b g : Nat} {w : World} {bl : List Blk} {lo : List (Nat × Blk)} {ch cr : Int} {lv : Value} (h : StA B b g w ⟨bl, lo, ch, cr, false⟩ lv) (hB : B ≤ w.heap.size) (h0 : 0 ≤ ch) (h1 : ch ≤ 1000000000) (hq : ch + 1 = cr) (i : Nat) (hi : i < bl.length) (s : ByteArray) (hs : s.size = 32) : Calls Try.prog 13 #[.pointer (some ⟨b, 0, none⟩), .int .i64 i, .string s] w fun e w' => e = .returned (.int .i64 8) ∧ StA B b g w' ⟨bl, lo, ch + 1, cr, true⟩ lv ∧ Tch B b g w w' := by
  have hr := refuses_any h
  have hh := has_any h i
  have hc := crashes_any h hB h0 h1
  have hb : (ch + 1 == cr) = true := by simp [hq]
  rw [hb] at hc
  rw [inB_of (by exact hi)] at hh
  have t1 : decide ((s.size : Int) = 32) = true := by simp; omega
  have t2 : ((s.size : Int) == 32) = true := by simp; omega
  have t3 : ((s.size : Int) != 32) = false := by simp; omega
  clear hq hb h h0 h1 hs hi
  go_enter Try.func13, Try.ntmps13
  go_wp2_with (first
    | (go_at_call 27; refine hr.mono ?_; rintro e w2 ⟨rfl, hw⟩; replace hw := hw.symm; subst hw)
    | (go_at_call 28; refine hh.mono ?_; rintro e w2 ⟨rfl, hw⟩; replace hw := hw.symm; subst hw)
    | (go_at_call 29; refine hc.mono ?_; rintro e w2 ⟨rfl, hs2, ht2⟩; have HS2 := Lib.hid hs2; have HT2 := Lib.hid ht2; clear hs2 ht2))
  go_ret
  exact ⟨rfl, HS2.out, HT2.out⟩
set_option maxRecDepth 100000 in
set_option maxHeartbeats 2000000 in
theorem write_up {B b g : Nat} {w00 : World} {bl : List Blk} {lo : List (Nat × Blk)} {ch cr : Int} {lv : Value} (h : StA B b g w00 ⟨bl, lo, ch, cr, false⟩ lv) (hB : B ≤ w00.heap.size) (h0 : 0 ≤ ch) (h1 : ch ≤ 1000000000) (hq : ch + 1 ≠ cr) (i : Nat) (hi : i < bl.length) (s : ByteArray) (hs32 : s.size = 32) (hlo : lo.length ≤ 999999) : Calls Try.prog 13 #[.pointer (some ⟨b, 0, none⟩), .int .i64 i, .string s] w00 fun e w' => ∃ lv', e = .returned (.int .i64 0) ∧ StA B b g w' ⟨bl.set i s.data.toList, lo ++ [(i, bl[i])], ch + 1, cr, false⟩ lv' ∧ Tch B b g w00 w' := by
  have hr := refuses_any h
  have hh := has_any h i
  have hcr := crashes_any h hB h0 h1
  have hb : (ch + 1 == cr) = false := by simp [hq]
  rw [hb] at hcr
  rw [inB_of (by exact hi)] at hh
  obtain ⟨x, hx⟩ : ∃ x, x = bl[i] := ⟨_, rfl⟩
  have hx32 : x.length = 32 := by rw [hx]; exact h.ok _ (List.getElem_mem hi)
  have HX := Lib.hid (And.intro hx32 (And.intro hi (And.intro h.ok (show bl[i]? = some x from by rw [hx]; exact List.getElem?_eq_getElem hi))))
  rw [← hx]
  have HG := Lib.hid (And.intro h.hb h.hg)
  have HOk := Lib.hid (And.intro h.hb (And.intro h.hg (And.intro h.ok h.most)))
  have HOc : Hid (okC bl.length (lo ++ [(i, x)]) ∧ (lo ++ [(i, x)]).length ≤ 1000000) := Lib.hid ⟨fun c hc => by
    rcases List.mem_append.1 hc with h9 | h9
    · exact h.okc c h9
    · obtain rfl := List.mem_singleton.1 h9
      exact ⟨hi, hx32⟩, by simp; omega⟩
  have HLo := Lib.hid hlo
  obtain ⟨n, hn⟩ : ∃ n, n = bl.length := ⟨_, rfl⟩
  have hin : (i : Int) < (n : Int) := by omega
  have hi0 : (0 : Int) ≤ (i : Int) := by omega
  have HN := Lib.hid hn
  have HNl := Lib.hid (show ((i : Int) < (n : Int)) = (i < bl.length) from by rw [hn]; simp)
  have HSz := Lib.hid hB
  have HCh := Lib.hid (show True from trivial)
  have t1 : decide ((s.size : Int) = 32) = true := by simp; omega
  have t2 : ((s.size : Int) == 32) = true := by simp; omega
  have t3 : ((s.size : Int) != 32) = false := by simp; omega
  have t9 : ∀ w', Tch B b g w00 w' → B ≤ w'.heap.size := fun w' ht => Nat.le_trans HSz.out ht.size
  have HT9 := Lib.hid t9
  have HS32 := Lib.hid hs32
  clear hq hb h h0 h1 hi hx hx32 hn hB hlo t9 hs32
  go_enter Try.func13, Try.ntmps13
  go_upto_region 8 with (first
    | (go_at_call 27; refine hr.mono ?_; rintro e w2 ⟨rfl, hw⟩; replace hw := hw.symm; subst hw)
    | (go_at_call 28; refine hh.mono ?_; rintro e w2 ⟨rfl, hw⟩; replace hw := hw.symm; subst hw)
    | (go_at_call 29; refine hcr.mono ?_; rintro e w2 ⟨rfl, hs2, ht2⟩; have HS2 := Lib.hid hs2; have HT2 := Lib.hid ht2; have HB := Lib.hid (HT9.out _ ht2); clear hs2 ht2))
  have HJ0 : Hid (JW B b g w00 bl lo (ch + 1) cr lv false w2) := Lib.hid ⟨HS2.out.box, HS2.out.blk, fun _ => HS2.out.row, HT2.out⟩
  refine region_J (by kernel_rfl) (B) 14 15 (fun _ q => FS B [.is (.pointer (some ⟨b, 0, none⟩)), .is (.pointer (some ⟨b, 0, none⟩)), .is (.pointer (some ⟨b, 0, none⟩)), .is (.pointer (some ⟨b, 1, none⟩)), .is (lv), .is (.int .i64 (i : Int)), .is (.pointer (some ⟨b, 0, none⟩)), .is (.pointer (some ⟨b, 0, none⟩)), .is (.pointer (some ⟨b, 0, none⟩)), .is (.slice (some ⟨g, 0, none⟩) n n), .is (.int .i64 (i : Int)), .is (.pointer (some ⟨g, i * 32, none⟩)), .is (.agg (x.map byteV).toArray), .is (.agg (cellsC (i, x)).toArray), .one (i, x), .row (lo ++ [(i, x)]), .is (.pointer (some ⟨b, 0, none⟩)), .is (.pointer (some ⟨b, 1, none⟩))] q) (fun _ q W => JW B b g w00 bl lo (ch + 1) cr lv q W) (fun _ _ _ _ _ h hb => h.go hb) HJ0.out (fun _ _ _ _ _ _ _ h hb => FS.go h hb) (HB.out) (by kernel_rfl) (by kernel_rfl) (by decide) (by rfl) ?hs8 ?hx8 ?hy8 ?hl8
  case hs8 =>
    intro listed a W p q hsz hj hk i0 o ho hi hi1 hi2 hc
    have e0 := hk.read (t := 0) (by kernel_rfl) rfl
    have e1 := hk.read (t := 1) (by kernel_rfl) rfl
    match i0, hi, hi1, hi2 with
    | 0, _, _, _ =>
      obtain rfl := Option.some.inj ho
      exact wpOp_val rfl rfl (v := .pointer (some ⟨b, 0, none⟩)) (w' := W) (by simp [go_sem, e0]) ⟨_, _, rfl, rfl, Below.refl _ _, rfl⟩
    | 1, _, _, _ =>
      obtain rfl := Option.some.inj ho
      exact wpOp_val rfl rfl (v := .pointer (some ⟨b, 0, none⟩)) (w' := W) (by simp [go_sem, e0]) ⟨_, _, rfl, rfl, Below.refl _ _, rfl⟩
    | 2, _, _, _ =>
      obtain rfl := Option.some.inj ho
      obtain ⟨v1, g1, f1⟩ := hk.got (j := 1) rfl rfl (hc ⟨1, .data⟩ (by simp) rfl)
      obtain rfl : v1 = _ := f1
      exact wpOp_val rfl rfl (v := .pointer (some ⟨b, 0, none⟩)) (w' := W) (by simp [go_sem, g1]) ⟨_, _, rfl, rfl, Below.refl _ _, rfl⟩
    | 3, _, _, _ =>
      obtain rfl := Option.some.inj ho
      obtain ⟨v2, g2, f2⟩ := hk.got (j := 2) rfl rfl (hc ⟨2, .data⟩ (by simp) rfl)
      obtain rfl : v2 = _ := f2
      exact wpOp_val rfl rfl (v := .pointer (some ⟨b, 1, none⟩)) (w' := W) (by simp [go_sem, g2]) ⟨_, _, rfl, rfl, Below.refl _ _, rfl⟩
    | 4, _, _, _ =>
      obtain rfl := Option.some.inj ho
      obtain ⟨v3, g3, f3⟩ := hk.got (j := 3) rfl rfl (hc ⟨3, .data⟩ (by simp) rfl)
      obtain rfl : v3 = _ := f3
      have d := cells_box hj.1
      exact wpOp_val rfl rfl (v := lv) (w' := W) (by simp [go_sem, g3, d.2]) ⟨_, _, rfl, rfl, Below.refl _ _, rfl⟩
    | 5, _, _, _ =>
      obtain rfl := Option.some.inj ho
      exact wpOp_val rfl rfl (v := .int .i64 (i : Int)) (w' := W) (by simp [go_sem, e1]) ⟨_, _, rfl, rfl, Below.refl _ _, rfl⟩
    | 6, _, _, _ =>
      obtain rfl := Option.some.inj ho
      exact wpOp_val rfl rfl (v := .pointer (some ⟨b, 0, none⟩)) (w' := W) (by simp [go_sem, e0]) ⟨_, _, rfl, rfl, Below.refl _ _, rfl⟩
    | 7, _, _, _ =>
      obtain rfl := Option.some.inj ho
      obtain ⟨v6, g6, f6⟩ := hk.got (j := 6) rfl rfl (hc ⟨6, .data⟩ (by simp) rfl)
      obtain rfl : v6 = _ := f6
      exact wpOp_val rfl rfl (v := .pointer (some ⟨b, 0, none⟩)) (w' := W) (by simp [go_sem, g6]) ⟨_, _, rfl, rfl, Below.refl _ _, rfl⟩
    | 8, _, _, _ =>
      obtain rfl := Option.some.inj ho
      obtain ⟨v7, g7, f7⟩ := hk.got (j := 7) rfl rfl (hc ⟨7, .data⟩ (by simp) rfl)
      obtain rfl : v7 = _ := f7
      exact wpOp_val rfl rfl (v := .pointer (some ⟨b, 0, none⟩)) (w' := W) (by simp [go_sem, g7]) ⟨_, _, rfl, rfl, Below.refl _ _, rfl⟩
    | 9, _, _, _ =>
      obtain rfl := Option.some.inj ho
      obtain ⟨v8, g8, f8⟩ := hk.got (j := 8) rfl rfl (hc ⟨8, .data⟩ (by simp) rfl)
      obtain rfl : v8 = _ := f8
      have d := cells_box hj.1
      exact wpOp_val rfl rfl (v := .slice (some ⟨g, 0, none⟩) n n) (w' := W) (by simp [go_sem, g8, d.1, HN.out]) ⟨_, _, rfl, rfl, Below.refl _ _, rfl⟩
    | 10, _, _, _ =>
      obtain rfl := Option.some.inj ho
      exact wpOp_val rfl rfl (v := .int .i64 (i : Int)) (w' := W) (by simp [go_sem, e1]) ⟨_, _, rfl, rfl, Below.refl _ _, rfl⟩
    | 11, _, _, _ =>
      obtain rfl := Option.some.inj ho
      obtain ⟨v9, g9, f9⟩ := hk.got (j := 9) rfl rfl (hc ⟨9, .data⟩ (by simp) rfl)
      obtain rfl : v9 = _ := f9
      obtain ⟨v10, g10, f10⟩ := hk.got (j := 10) rfl rfl (hc ⟨10, .data⟩ (by simp) rfl)
      obtain rfl : v10 = _ := f10
      exact wpOp_val rfl rfl (v := .pointer (some ⟨g, i * 32, none⟩)) (w' := W) (by simp [go_sem, g9, g10, hi0, hin]) ⟨_, _, rfl, rfl, Below.refl _ _, rfl⟩
    | 12, _, _, _ =>
      obtain rfl := Option.some.inj ho
      obtain ⟨v11, g11, f11⟩ := hk.got (j := 11) rfl rfl (hc ⟨11, .data⟩ (by simp) rfl)
      obtain rfl : v11 = _ := f11
      exact wpOp_val rfl rfl (v := .agg (x.map byteV).toArray) (w' := W) (exec_loadS rfl (by simp [go_sem, g11]) (load_block W g (i * 32) x HX.out.1 (range_of hj.blk HX.out.2.1 HX.out.2.2))) ⟨_, _, rfl, rfl, Below.refl _ _, rfl⟩
    | 13, _, _, _ =>
      obtain rfl := Option.some.inj ho
      obtain ⟨v5, g5, f5⟩ := hk.got (j := 5) rfl rfl (hc ⟨5, .data⟩ (by simp) rfl)
      obtain rfl : v5 = _ := f5
      obtain ⟨v12, g12, f12⟩ := hk.got (j := 12) rfl rfl (hc ⟨12, .data⟩ (by simp) rfl)
      obtain rfl : v12 = _ := f12
      exact wpOp_val rfl rfl (v := .agg (cellsC (i, x)).toArray) (w' := W) (exec_buildS rfl (by simp [go_sem, g5, g12]) (build_change W i x HX.out.1)) ⟨_, _, rfl, rfl, Below.refl _ _, rfl⟩
    | 14, _, h, _ => exact absurd rfl h
    | 15, _, _, h => exact absurd rfl h
    | 16, _, _, _ =>
      obtain rfl := Option.some.inj ho
      obtain ⟨v0, g0, f0⟩ := hk.got (j := 0) rfl rfl (hc ⟨0, .data⟩ (by simp) rfl)
      obtain rfl : v0 = _ := f0
      exact wpOp_val rfl rfl (v := .pointer (some ⟨b, 0, none⟩)) (w' := W) (by simp [go_sem, g0]) ⟨_, _, rfl, rfl, Below.refl _ _, rfl⟩
    | 17, _, _, _ =>
      obtain rfl := Option.some.inj ho
      obtain ⟨v16, g16, f16⟩ := hk.got (j := 16) rfl rfl (hc ⟨16, .data⟩ (by simp) rfl)
      obtain rfl : v16 = _ := f16
      exact wpOp_val rfl rfl (v := .pointer (some ⟨b, 1, none⟩)) (w' := W) (by simp [go_sem, g16]) ⟨_, _, rfl, rfl, Below.refl _ _, rfl⟩
    | m + 18, hm, _, _ => exact absurd hm (by simp)
  case hx8 =>
    intro listed a W hsz hj hk o ho hc
    obtain rfl := Option.some.inj ho
    obtain ⟨v13, g13, f13⟩ := hk.got (j := 13) rfl rfl (hc ⟨13, .data⟩ (by simp) rfl)
    obtain rfl : v13 = _ := f13
    exact wpOp_val rfl rfl (v := .slice (some ⟨W.heap.size, 0, none⟩) 1 1) (w' := W.alloc (.cells (cellsC (i, x)).toArray 70)) (exec_buildSliceS rfl (by simp [go_sem, g13]) (buildSlice_change W (i, x) HX.out.1)) ⟨_, _, rfl, rfl, ((Below.refl _ _).alloc (Nat.le_refl _) _).mono hsz, .inr ⟨W.heap.size, rfl, heap_alloc_new W _⟩, hj.go ((Below.refl _ _).alloc (Nat.le_refl _) _), fun j u hj2 h => FS.go h ((Below.refl _ _).alloc (Nat.le_refl _) _)⟩
  case hy8 =>
    intro listed a W hsz hj hk o ho hc
    obtain rfl := Option.some.inj ho
    obtain ⟨v4, g4, f4⟩ := hk.got (j := 4) rfl rfl (hc ⟨4, .data⟩ (by simp) rfl)
    obtain rfl : v4 = _ := f4
    obtain ⟨v14, g14, f14⟩ := hk.got (j := 14) rfl rfl (hc ⟨14, .data⟩ (by simp) rfl)
    obtain ⟨k, rfl, hkc⟩ := f14.resolve_left (by simp)
    obtain ⟨v', w', hrun, hrow, hj9, hbel⟩ := append_change hj hkc HX.out.1 HLo.out hsz HG.out.1 HG.out.2 58
    exact wpOp_val rfl rfl (exec_appendS rfl (by simp [go_sem, g4]) (by simp [go_sem, g14]) hrun) ⟨_, _, rfl, rfl, hbel, ⟨rfl, hrow⟩, hj9, fun j u hj2 h => FS.loud h⟩
  case hl8 =>
    intro listed a W hsz hj hk hall
    obtain ⟨v15, g15, f15⟩ := hk.got (j := 15) rfl rfl (hall 15 (by simp))
    obtain ⟨v17, g17, f17⟩ := hk.got (j := 17) rfl rfl (hall 17 (by simp))
    obtain rfl : v17 = _ := f17
    obtain ⟨la, lc, rfl⟩ := row_slice f15.2
    have d := cells_box hj.1
    have dz := free_box hj.1 1
    have hst := hj.store f15.2 HOk.out HOc.out
    have hput := hk.puts
    refine wpOp_skipS rfl rfl (w' := W.setCell ⟨b, 1, none⟩ (.slice la (lo ++ [(i, x)]).length lc)) (by simp [go_sem, g15, g17, d.2, dz]) ?_
    rw [hput]
    simp only [putT]
    generalize a.tmps[24]?.getD undef = x24
    generalize a.tmps[25]?.getD undef = x25
    generalize a.tmps[26]?.getD undef = x26
    generalize a.tmps[27]?.getD undef = x27
    generalize a.tmps[28]?.getD undef = x28
    generalize a.tmps[29]?.getD undef = x29
    generalize a.tmps[30]?.getD undef = x30
    generalize a.tmps[31]?.getD undef = x31
    generalize a.tmps[32]?.getD undef = x32
    generalize a.tmps[33]?.getD undef = x33
    generalize a.tmps[34]?.getD undef = x34
    generalize a.tmps[35]?.getD undef = x35
    generalize a.tmps[36]?.getD undef = x36
    generalize a.tmps[37]?.getD undef = x37
    generalize a.tmps[38]?.getD undef = x38
    generalize a.tmps[39]?.getD undef = x39
    generalize a.tmps[40]?.getD undef = x40
    generalize a.tmps[41]?.getD undef = x41
    obtain ⟨W2, hW2⟩ : ∃ X, X = W.setCell ⟨b, 1, none⟩ (.slice la (lo ++ [(i, x)]).length lc) := ⟨_, rfl⟩
    rw [← hW2] at hst ⊢
    clear hj hk hall hput g15 g17 f15 d dz hW2 hsz
    obtain ⟨hst, htc⟩ := hst
    obtain ⟨d0, _⟩ := hst.cells
    rw [← HN.out] at d0
    have hcp := fun ty => copy_in hst i (by rw [HNl.out] at hin; exact hin) s HS32.out ty
    have hs3 := hst.set_row i s.data.toList HX.out.2.1 (by rw [bytes_len, HS32.out])
    have ht3 := htc.trans (tch_setRow (B := B) (b := b) W2 g (flatB (bl.set i s.data.toList)).toArray)
    dsimp only at hcp hs3
    obtain ⟨W3, hW3⟩ : ∃ X, X = W2.setRow g (flatB (bl.set i s.data.toList)).toArray := ⟨_, rfl⟩
    rw [← hW3] at hcp hs3 ht3
    have HS3 := Lib.hid hs3
    have HT3 := Lib.hid ht3
    clear hs3 ht3 hst htc hW3
    go_wp2
    go_ret
    exact ⟨rfl, ⟨_, HS3.out⟩, HT3.out⟩
set_option maxRecDepth 100000 in
theorem read_down {B b g : Nat} {w : World} {bl : List Blk} {lo : List (Nat × Blk)} {ch cr : Int} {lv : Value} (h : StA B b g w ⟨bl, lo, ch, cr, true⟩ lv) (i : Int) : Calls Try.prog 24 #[.pointer (some ⟨b, 0, none⟩), .int .i64 i] w fun e w' => e = .returned (.tuple #[.string ⟨#[]⟩, .int .i64 8]) ∧ w' = w := by
  have hr := refuses_any h
  clear h
  go_enter Try.func24, Try.ntmps24
  go_wp2_with (go_at_call 27; refine hr.mono ?_; rintro e w2 ⟨rfl, hw⟩; replace hw := hw.symm; subst hw)
  go_ret2
  exact ⟨rfl, rfl⟩
set_option maxRecDepth 100000 in
theorem read_out {B b g : Nat} {w : World} {bl : List Blk} {lo : List (Nat × Blk)} {ch cr : Int} {lv : Value} (h : StA B b g w ⟨bl, lo, ch, cr, false⟩ lv) (i : Int) (hi : inB bl.length i = false) : Calls Try.prog 24 #[.pointer (some ⟨b, 0, none⟩), .int .i64 i] w fun e w' => e = .returned (.tuple #[.string ⟨#[]⟩, .int .i64 1]) ∧ w' = w := by
  have hr := refuses_any h
  have hh := has_any h i
  dsimp only at hh
  rw [hi] at hh
  clear h hi
  go_enter Try.func24, Try.ntmps24
  go_wp2_with (first
    | (go_at_call 27; refine hr.mono ?_; rintro e w2 ⟨rfl, hw⟩; replace hw := hw.symm; subst hw)
    | (go_at_call 28; refine hh.mono ?_; rintro e w2 ⟨rfl, hw⟩; replace hw := hw.symm; subst hw))
  go_ret2
  exact ⟨rfl, rfl⟩
set_option maxRecDepth 100000 in
set_option maxHeartbeats 1000000 in
theorem read_in {B b g : Nat} {w : World} {bl : List Blk} {lo : List (Nat × Blk)} {ch cr : Int} {lv : Value} (h : StA B b g w ⟨bl, lo, ch, cr, false⟩ lv) (i : Nat) (x : Blk) (hx : bl[i]? = some x) : Calls Try.prog 24 #[.pointer (some ⟨b, 0, none⟩), .int .i64 i] w fun e w' => e = .returned (.tuple #[.string ⟨x.toArray⟩, .int .i64 0]) ∧ w' = w := by
  obtain ⟨hi, hx⟩ := List.getElem?_eq_some_iff.1 hx
  have hr := refuses_any h
  have hh := has_any h i
  dsimp only at hh
  rw [inB_of hi] at hh
  have hx32 : x.length = 32 := by rw [← hx]; exact h.ok _ (List.getElem_mem hi)
  have hra := range_of h.blk hi (And.intro h.ok (List.getElem?_eq_some_iff.2 ⟨hi, hx⟩))
  have hcv := run_convert_bytes_back w 49 9 5 ⟨g, i * 32, none⟩ 32 x Try.underlying49 Try.underlying5 Try.underlying9 fun j hj => by
    rw [Addr.add_mid]
    exact hra j _ (by simp [hj, byteV])
  rw [hx32] at hcv
  obtain ⟨d0, _⟩ := h.cells
  dsimp only at d0
  obtain ⟨n, hn⟩ : ∃ n, n = bl.length := ⟨_, rfl⟩
  have hin : (i : Int) < (n : Int) := by omega
  have hi0 : (0 : Int) ≤ (i : Int) := by omega
  rw [← hn] at d0
  clear h hx hi hx32 hra hn
  go_enter Try.func24, Try.ntmps24
  go_wp2_with (first
    | (go_at_call 27; refine hr.mono ?_; rintro e w2 ⟨rfl, hw⟩; replace hw := hw.symm; subst hw)
    | (go_at_call 28; refine hh.mono ?_; rintro e w2 ⟨rfl, hw⟩; replace hw := hw.symm; subst hw))
  go_ret2
  exact ⟨rfl, rfl⟩
end Go.Proofs.Ytgmlgjdibpphaaa

