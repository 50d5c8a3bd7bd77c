/- filter.leaf: the walk. -/
import Derived.Test.YtdcfmgnpjmpboaaDoorFiAsked
namespace Go.Proofs.YtdcfmgnpjmpboaaDoor
open Go.RowKit
set_option linter.unusedVariables false
set_option linter.unusedSimpArgs false

theorem ask_facts {l : List UInt8} {k : Int} {x : List UInt8} {p : List (List UInt8)} (h : askD l = some (k, x, p)) : 4 ≤ k ∧ k ≤ 8 ∧ x.length ≤ 100 := by
  unfold askD at h
  split at h
  · cases h; decide
  · split at h
    · split at h
      · obtain ⟨q, hq, e⟩ := Option.map_eq_some_iff.1 h
        cases e
        decide
      · obtain ⟨q, hq, e⟩ := Option.map_eq_some_iff.1 h
        cases e
        exact ⟨by decide, by decide, val_len hq⟩
    · obtain ⟨q, hq, e⟩ := Option.map_eq_some_iff.1 h
      cases e
      exact ⟨by decide, by decide, val_len hq⟩
    · obtain ⟨q, hq, e⟩ := Option.map_eq_some_iff.1 h
      cases e
      exact ⟨by decide, by decide, val_len hq⟩
    · cases h
theorem mkFl {ok : Nat → Prop} {w : World} {k : Int} {t x : List UInt8} {p : List (List UInt8)} {u : Value} (hk : 4 ≤ k ∧ k ≤ 8) (ht : t.length ≤ maxLen) (hx : x.length ≤ maxLen) (hu : IsTo ok w p u) :
    IsFl ok w (.mk k t x p []) (.agg #[.int .i64 k, strV t, strV x, u, .slice none 0 0]) := by
  have hw : (Lit.int .i64 k).wf = true := by
    have := hk.1
    have := hk.2
    have h5 : k = 4 ∨ k = 5 ∨ k = 6 ∨ k = 7 ∨ k = 8 := by omega
    rcases h5 with rfl | rfl | rfl | rfl | rfl <;> rfl
  exact ⟨u, none, 0, rfl, hw, ht, hx, hu, by simp, trivial⟩
/-- What leaf, next and head tell. -/
def FlV (B : Nat) (w : World) (o : Option FT) (x : Value) (b : Bool) : Prop := match o with
  | none => x = .agg #[.int .i64 0, .string ⟨#[]⟩, .string ⟨#[]⟩, .slice none 0 0, .slice none 0 0] ∧ b = false
  | some f => IsFl (fun k => B ≤ k ∧ k < w.heap.size) w f x ∧ b = true
theorem fl_set1 {W : World} {b : Nat} {y0 y1 y2 y3 y4 : Value} (h : FlAt W b y0 y1 y2 y3 y4) (x1 : Value) : FlAt (W.setCell ⟨b, 1, none⟩ x1) b y0 x1 y2 y3 y4 := by
  have h' : W.heap[b]? = some (.cells #[y0, y1, y2, y3, y4] 25 (0, 0)) := h
  show (W.setCell ⟨b, 1, none⟩ x1).heap[b]? = _
  simp [World.setCell, Array.getElem?_modify, h']
theorem ownS_fl1 {W : World} {b B : Nat} {y0 y1 y2 y3 y4 : Value} (h : FlAt W b y0 y1 y2 y3 y4) {u : Value} {p : List (List UInt8)} (hu : OwnS B W u p) (x1 : Value) : OwnS B (W.setCell ⟨b, 1, none⟩ x1) u p := by
  have hg : W.grownBy (W.setCell ⟨b, 1, none⟩ x1) (some b) := ⟨by simp [World.setCell], by simp [World.setCell], by simp [World.setCell], by simp [World.setCell], fun k hk hn => blockFl_ne _ _ _ (fun e => hn (by rw [e]))⟩
  refine World.ownsRow.kept hu hg ?_
  rcases hu.2 with ⟨rfl, _⟩ | ⟨g, cap, cur, rfl, _, hgc, _⟩
  · exact .inl rfl
  · right
    intro e
    have : g = b := by simpa [Value.ownBlock] using e
    subst this
    rw [h] at hgc
    cases hgc
theorem fl_setC {W : World} {b k o : Nat} {x0 x1 x2 x3 x4 : Value} (h : k ≠ b) : (set5F W b x0 x1 x2 x3 x4).cell? ⟨k, o, none⟩ = W.cell? ⟨k, o, none⟩ := by
  unfold World.cell?
  rw [fl_setO h]
theorem OwnS.slice_len {B : Nat} {w : World} {u : Value} {p : List (List UInt8)} (h : OwnS B w u p) : p.length ≤ maxLen := by
  rcases h.2 with ⟨_, hn⟩ | ⟨g, cap, cur, _, _, _, h1, h2, _⟩
  · rw [hn]; exact Nat.zero_le _
  · exact Nat.le_trans h1 h2
theorem cloneFl_any (s : ByteArray) (hs : s.size ≤ 281474976710656) (w : World) : Calls Tryd.prog 51 #[.string s] w fun e w' => e = .returned (.string s) ∧ Below w.heap.size w w' := by
  have HH := Lib.hid (fun W => Tryd.stringslite_Clone s W hs)
  go_enter Tryd.func51, Tryd.ntmps51
  go_wp2_with (go_at_call 72; refine (HH.out _).mono ?_; rintro e w2 ⟨rfl, hb2⟩; have HB2 := Lib.hid hb2; clear hb2)
  go_ret
  exact ⟨rfl, HB2.out⟩

set_option maxRecDepth 100000 in
set_option maxHeartbeats 8000000 in
theorem leaf_any (s : ByteArray) (hs : s.size ≤ 1000000) (ha : ascii s.data.toList) (w : World) :
    Calls Tryd.prog 34 #[.string s] w fun e w' => ∃ x b, e = .returned (.tuple #[x, .bool b]) ∧ FlV w.heap.size w' (leafD s.data.toList) x b ∧ Below w.heap.size w w' := by
  obtain ⟨l, hl⟩ : ∃ l, l = s.data.toList := ⟨_, rfl⟩
  have hix := fun W => indexAny_any s (by omega) ha W
  rw [← hl] at hix ⊢
  obtain ⟨W0, hW0⟩ : ∃ W, W = w.alloc (.cells #[.int .i64 0, .string ⟨#[]⟩, .string ⟨#[]⟩, .slice none 0 0, .slice none 0 0] 25) := ⟨_, rfl⟩
  have hb0 : Below w.heap.size w W0 := by rw [hW0]; exact box5 w _ _ _ _ _
  have hx0 : FzAt W0 w.heap.size := by rw [hW0]; exact heap_alloc_new w _
  have HB0 := Lib.hid hb0
  have HX0 := Lib.hid hx0
  have HW0 := Lib.hid hW0.symm
  have HL := Lib.hid hl
  clear hb0 hW0 hx0 ha
  rcases any_idx l with ⟨h1, h2⟩ | ⟨n, h1, h2, h3, h4⟩
  · rw [h1] at hix
    have HIx := Lib.hid hix
    have HA : Hid (leafD l = none) := Lib.hid (by unfold leafD; rw [h2]; rfl)
    clear hix h1 h2 hl
    go_enter Tryd.func34, Tryd.ntmps34
    go_upto_region 1 with (fail)
    rw [HW0.out]
    go_wp2_with (go_at_call 49; refine (HIx.out _).mono ?_; rintro e w3 ⟨rfl, hb3⟩; have HB3 := Lib.hid hb3; have hx3 := fl_below HX0.out hb3 (fl_lt HX0.out); clear hb3; obtain ⟨c0, c1, c2, c3, c4⟩ := fl_cells hx3; obtain ⟨f0, f1, f2, f3, f4⟩ := fl_frozen hx3; obtain ⟨z0, z1, z2, z3, z4⟩ := fl_cells (fl_set hx3 (.int .i64 0) (.string ⟨#[]⟩) (.string ⟨#[]⟩) (.slice none 0 0) (.slice none 0 0)); unfold set5F at z0 z1 z2 z3 z4; clear hx3)
    have HF := fl_setB (bthen HB0.out HB3.out) (Nat.le_refl w.heap.size) (.int .i64 0) (.string ⟨#[]⟩) (.string ⟨#[]⟩) (.slice none 0 0) (.slice none 0 0)
    refine bodyPost_ret (v := .tuple #[.agg #[.int .i64 0, .string ⟨#[]⟩, .string ⟨#[]⟩, .slice none 0 0, .slice none 0 0], .bool false]) (by simp [results, Tryd.results34, go_sem, z0, z1, z2, z3, z4]) rfl ⟨_, _, rfl, ?_, HF⟩
    rw [HA.out]
    exact ⟨rfl, rfl⟩
  · rw [h1] at hix
    have HIx := Lib.hid hix
    have hls : l.length = s.size := by rw [hl, bytes_len]
    obtain ⟨X, hX⟩ : ∃ X, X = s.extract n s.size := ⟨_, rfl⟩
    obtain ⟨T, hT⟩ : ∃ T, T = s.extract 0 n := ⟨_, rfl⟩
    have hXl : X.data.toList = l.drop n := by rw [hX, ext_list, hl]
    have hTl : T.data.toList = l.take n := by rw [hT, head_list, hl]
    have hXs : X.size ≤ 1000000 := by rw [← bytes_len, hXl, List.length_drop]; omega
    have hTs : T.size ≤ 1000000 := by rw [← bytes_len, hTl, List.length_take]; omega
    have hns : n < s.size := by omega
    have hak := fun W => asked_any X hXs W
    rw [hXl] at hak
    have HLd : Hid (leafD l = match askD (l.drop n) with
      | some (k, v, p) => if okLeaf k (l.take n) v p 0 then some (.mk k (l.take n) v p []) else none
      | none => none) := Lib.hid (by unfold leafD; rw [h3, h4]; rfl)
    obtain ⟨o, ho⟩ : ∃ o, o = askD (l.drop n) := ⟨_, rfl⟩
    have HO := Lib.hid ho
    rw [← ho] at hak HLd
    have HAk := Lib.hid hak
    have HTl := Lib.hid hTl
    have HX := Lib.hid hX.symm
    have HT := Lib.hid hT.symm
    have HCl := Lib.hid (fun W => cloneFl_any T (by omega) W)
    clear hix h1 h3 h4 hak ho hXl hTl hX hT hl
    go_enter Tryd.func34, Tryd.ntmps34
    go_upto_region 1 with (fail)
    rw [HW0.out]
    have ti0 : (0 : Int) ≤ (n : Int) := by omega
    have ti1 : (n : Int) ≤ (s.size : Int) := by omega
    have ti2 : n ≤ s.size := by omega
    have ti3 : decide ((n : Int) < 0) = false := by simp
    go_upto_region 4 with (go_at_call 49; refine (HIx.out _).mono ?_; rintro e w1 ⟨rfl, hb1⟩; have HB1 := Lib.hid hb1; clear hb1)
    cases o with
    | none =>
      go_upto_region 5 with (go_at_call 50; (try rw [HX.out]); refine (HAk.out _).mono ?_; rintro e w2 ⟨v, rfl, ⟨k, rfl⟩, hb2⟩; have HB2 := Lib.hid hb2; clear hb2)
      obtain ⟨W3, hW3⟩ : ∃ W, W = w2.alloc (.cells #[.int .i64 k, .string ⟨#[]⟩, .string ⟨#[]⟩, .slice none 0 0, .slice none 0 0] 25) := ⟨_, rfl⟩
      rw [← hW3]
      have hx5 : FlAt W3 w2.heap.size (.int .i64 k) (.string ⟨#[]⟩) (.string ⟨#[]⟩) (.slice none 0 0) (.slice none 0 0) := by rw [hW3]; exact heap_alloc_new w2 _
      have hB2 : Below w.heap.size w w2 := bthen (bthen HB0.out HB1.out) HB2.out
      have hB3 : Below w.heap.size w W3 := bthen hB2 (by rw [hW3]; exact box5 w2 _ _ _ _ _)
      have hlt2 : w.heap.size < w2.heap.size := Nat.lt_of_lt_of_le (Nat.lt_of_lt_of_le (fl_lt HX0.out) HB1.out.size) HB2.out.size
      have hx3 : FzAt W3 w.heap.size := fl_below (fl_below (fl_below HX0.out HB1.out (fl_lt HX0.out)) HB2.out (Nat.lt_of_lt_of_le (fl_lt HX0.out) HB1.out.size)) (by rw [hW3]; exact box5 w2 _ _ _ _ _) hlt2
      have HX5 := Lib.hid hx5
      have HX3 := Lib.hid hx3
      have HB3 := Lib.hid hB3
      have HLt := Lib.hid hlt2
      clear hW3 hx5 hB2 hB3 hlt2 hx3
      go_upto_region 6 with (go_at_call 51; (try rw [HT.out]); refine (HCl.out _).mono ?_; rintro e w4 ⟨rfl, hb4⟩; have HB4 := Lib.hid hb4; have hx4 := fl_below HX5.out hb4 (fl_lt HX5.out); have HX4 := Lib.hid hx4; clear hb4; obtain ⟨c0, c1, c2, c3, c4⟩ := fl_cells hx4; obtain ⟨f0, f1, f2, f3, f4⟩ := fl_frozen hx4; clear hx4)
      obtain ⟨W5, hW5⟩ : ∃ W, W = w4.setCell ⟨w2.heap.size, 1, none⟩ (.string T) := ⟨_, rfl⟩
      rw [← hW5]
      have hz5 : FzAt W5 w.heap.size := by
        rw [hW5]
        exact (blockFl_ne w4 ⟨w2.heap.size, 1, none⟩ (.string T) (Nat.ne_of_lt HLt.out)).trans (fl_below HX3.out HB4.out (fl_lt HX3.out))
      have hb5 : Below w.heap.size w W5 := by
        rw [hW5]
        exact (bthen HB3.out HB4.out).setCell (p := ⟨w2.heap.size, 1, none⟩) (Nat.le_of_lt HLt.out) _
      have HB5 := Lib.hid hb5
      clear hW5 hb5 c0 c1 c2 c3 c4 f0 f1 f2 f3 f4
      obtain ⟨c0, c1, c2, c3, c4⟩ := fl_cells hz5
      obtain ⟨f0, f1, f2, f3, f4⟩ := fl_frozen hz5
      obtain ⟨z0, z1, z2, z3, z4⟩ := fl_cells (fl_set hz5 (.int .i64 0) (.string ⟨#[]⟩) (.string ⟨#[]⟩) (.slice none 0 0) (.slice none 0 0))
      unfold set5F at z0 z1 z2 z3 z4
      clear hz5
      go_wp2
      have HF := fl_setB HB5.out (Nat.le_refl w.heap.size) (.int .i64 0) (.string ⟨#[]⟩) (.string ⟨#[]⟩) (.slice none 0 0) (.slice none 0 0)
      refine bodyPost_ret (v := .tuple #[.agg #[.int .i64 0, .string ⟨#[]⟩, .string ⟨#[]⟩, .slice none 0 0, .slice none 0 0], .bool false]) (by simp [results, Tryd.results34, go_sem, z0, z1, z2, z3, z4]) rfl ⟨_, _, rfl, ?_, HF⟩
      rw [HLd.out]
      exact ⟨rfl, rfl⟩
    | some q =>
      obtain ⟨k, x, P⟩ := q
      have hfk := ask_facts HO.out.symm
      obtain ⟨Z, hZ, hZl⟩ := strV_text x
      have HZ := Lib.hid hZ
      have HFk := Lib.hid hfk
      clear hfk hZ hZl
      go_upto_region 5 with (go_at_call 50; (try rw [HX.out]); refine (HAk.out _).mono ?_; rintro e w2 ⟨v, rfl, ⟨u, rfl, hu⟩, hb2⟩; rw [HZ.out]; obtain ⟨la, lc, hlv⟩ := ownS_slice hu; subst hlv; have HU := Lib.hid hu; have HB2 := Lib.hid hb2; clear hb2 hu)
      obtain ⟨W3, hW3⟩ : ∃ W, W = w2.alloc (.cells #[.int .i64 k, .string ⟨#[]⟩, .string Z, .slice la P.length lc, .slice none 0 0] 25) := ⟨_, rfl⟩
      rw [← hW3]
      have hx5 : FlAt W3 w2.heap.size (.int .i64 k) (.string ⟨#[]⟩) (.string Z) (.slice la P.length lc) (.slice none 0 0) := by rw [hW3]; exact heap_alloc_new w2 _
      have hB2 : Below w.heap.size w w2 := bthen (bthen HB0.out HB1.out) HB2.out
      have hb23 : Below w2.heap.size w2 W3 := by rw [hW3]; exact box5 w2 _ _ _ _ _
      have hB3 : Below w.heap.size w W3 := bthen hB2 hb23
      have hlt1 : w.heap.size < w1.heap.size := Nat.lt_of_lt_of_le (fl_lt HX0.out) HB1.out.size
      have hlt2 : w.heap.size < w2.heap.size := Nat.lt_of_lt_of_le hlt1 HB2.out.size
      have hx3 : FzAt W3 w.heap.size := fl_below (fl_below (fl_below HX0.out HB1.out (fl_lt HX0.out)) HB2.out hlt1) hb23 hlt2
      have hu3 : OwnS (w.heap.size + 1) W3 (.slice la P.length lc) P := ownS_below (ownS_lower HU.out hlt1) hb23
      have HX5 := Lib.hid hx5
      have HX3 := Lib.hid hx3
      have HB3 := Lib.hid hB3
      have HLt := Lib.hid hlt2
      have HU3 := Lib.hid hu3
      clear hW3 hx5 hB2 hB3 hlt2 hx3 hu3 hb23 hlt1
      go_upto_region 6 with (go_at_call 51; (try rw [HT.out]); refine (HCl.out _).mono ?_; rintro e w4 ⟨rfl, hb4⟩; have HB4 := Lib.hid hb4; have hx4 := fl_below HX5.out hb4 (fl_lt HX5.out); have HX4 := Lib.hid hx4; clear hb4; obtain ⟨c0, c1, c2, c3, c4⟩ := fl_cells hx4; obtain ⟨f0, f1, f2, f3, f4⟩ := fl_frozen hx4; clear hx4)
      obtain ⟨W5, hW5⟩ : ∃ W, W = w4.setCell ⟨w2.heap.size, 1, none⟩ (.string T) := ⟨_, rfl⟩
      rw [← hW5]
      have hz5 : FzAt W5 w.heap.size := by
        rw [hW5]
        exact (blockFl_ne w4 ⟨w2.heap.size, 1, none⟩ (.string T) (Nat.ne_of_lt HLt.out)).trans (fl_below HX3.out HB4.out (fl_lt HX3.out))
      have hb5 : Below w.heap.size w W5 := by
        rw [hW5]
        exact (bthen HB3.out HB4.out).setCell (p := ⟨w2.heap.size, 1, none⟩) (Nat.le_of_lt HLt.out) _
      have hy5 : FlAt W5 w2.heap.size (.int .i64 k) (.string T) (.string Z) (.slice la P.length lc) (.slice none 0 0) := by rw [hW5]; exact fl_set1 HX4.out (.string T)
      have hu5 : OwnS (w.heap.size + 1) W5 (.slice la P.length lc) P := by rw [hW5]; exact ownS_fl1 HX4.out (ownS_below HU3.out HB4.out) (.string T)
      have hTv : strV (l.take n) = .string T := by rw [← HTl.out]; exact strV_whole T
      have hpl : P.length ≤ maxLen := hu5.slice_len
      have hfl : IsFl (fun b => w.heap.size + 1 ≤ b ∧ b < W5.heap.size) W5 (.mk k (l.take n) x P []) (.agg #[.int .i64 k, .string T, .string Z, .slice la P.length lc, .slice none 0 0]) := by
        have h := mkFl (t := l.take n) (x := x) ⟨HFk.out.1, HFk.out.2.1⟩ (by rw [List.length_take]; unfold maxLen; omega) (by have := HFk.out.2.2; unfold maxLen; omega) (ownS_isTo hu5 hpl)
        rw [hTv, HZ.out] at h
        exact h
      have hml := mayLeaf_any k (l.take n) x P [] _ W5 (hfl.imp (fun b h => h.2) (fun _ _ _ => rfl))
      obtain ⟨g, hg⟩ : ∃ g, g = okLeaf k (l.take n) x P 0 := ⟨_, rfl⟩
      have hld := HLd.out
      rw [← hg] at hld
      rw [show ([] : List FT).length = 0 from rfl, ← hg] at hml
      have HMl := Lib.hid hml
      have HFl := Lib.hid hfl
      have HA := Lib.hid hld
      have HB5 := Lib.hid hb5
      have HZ5 := Lib.hid hz5
      have HY5 := Lib.hid hy5
      clear hW5 hb5 c0 c1 c2 c3 c4 f0 f1 f2 f3 f4 hu5 hTv hpl hfl hml hg hld hz5
      obtain ⟨d0, d1, d2, d3, d4⟩ := fl_cells hy5
      clear hy5
      cases g with
      | false =>
        go_wp2_with (go_at_call 38; refine (HMl.out).mono ?_; rintro e w6 ⟨rfl, hb6⟩; have HB6 := Lib.hid hb6; have hx3 := fl_below HZ5.out hb6 (fl_lt HZ5.out); clear hb6; obtain ⟨c0, c1, c2, c3, c4⟩ := fl_cells hx3; obtain ⟨f0, f1, f2, f3, f4⟩ := fl_frozen hx3; obtain ⟨z0, z1, z2, z3, z4⟩ := fl_cells (fl_set hx3 (.int .i64 0) (.string ⟨#[]⟩) (.string ⟨#[]⟩) (.slice none 0 0) (.slice none 0 0)); unfold set5F at z0 z1 z2 z3 z4; clear hx3)
        have HF := fl_setB (bthen HB5.out HB6.out) (Nat.le_refl w.heap.size) (.int .i64 0) (.string ⟨#[]⟩) (.string ⟨#[]⟩) (.slice none 0 0) (.slice none 0 0)
        refine bodyPost_ret (v := .tuple #[.agg #[.int .i64 0, .string ⟨#[]⟩, .string ⟨#[]⟩, .slice none 0 0, .slice none 0 0], .bool false]) (by simp [results, Tryd.results34, go_sem, z0, z1, z2, z3, z4]) rfl ⟨_, _, rfl, ?_, HF⟩
        rw [HA.out]
        exact ⟨rfl, rfl⟩
      | true =>
        go_wp2_with (go_at_call 38; refine (HMl.out).mono ?_; rintro e w6 ⟨rfl, hb6⟩; have HB6 := Lib.hid hb6; have hx3 := fl_below HZ5.out hb6 (fl_lt HZ5.out); have hy6 := fl_below HY5.out hb6 (fl_lt HY5.out); clear hb6 d0 d1 d2 d3 d4; obtain ⟨d0, d1, d2, d3, d4⟩ := fl_cells hy6; obtain ⟨c0, c1, c2, c3, c4⟩ := fl_cells hx3; obtain ⟨f0, f1, f2, f3, f4⟩ := fl_frozen hx3; obtain ⟨z0, z1, z2, z3, z4⟩ := fl_cells (fl_set hx3 (.int .i64 k) (.string T) (.string Z) (.slice la P.length lc) (.slice none 0 0)); unfold set5F at z0 z1 z2 z3 z4; clear hx3 hy6)
        have HF := fl_setB (bthen HB5.out HB6.out) (Nat.le_refl w.heap.size) (.int .i64 k) (.string T) (.string Z) (.slice la P.length lc) (.slice none 0 0)
        have HFn : IsFl (fun b => w.heap.size ≤ b ∧ b < (set5F w6 w.heap.size (.int .i64 k) (.string T) (.string Z) (.slice la P.length lc) (.slice none 0 0)).heap.size) (set5F w6 w.heap.size (.int .i64 k) (.string T) (.string Z) (.slice la P.length lc) (.slice none 0 0)) (.mk k (l.take n) x P []) (.agg #[.int .i64 k, .string T, .string Z, .slice la P.length lc, .slice none 0 0]) := by
          refine (HFl.out).imp (fun b h => ⟨by omega, by rw [set5F_size]; exact Nat.lt_of_lt_of_le h.2 HB6.out.size⟩) (fun b o h => ?_)
          rw [fl_setC (by omega)]
          exact HB6.out.cell (p := ⟨b, o, none⟩) h.2
        refine bodyPost_ret (v := .tuple #[.agg #[.int .i64 k, .string T, .string Z, .slice la P.length lc, .slice none 0 0], .bool true]) (by simp [results, Tryd.results34, go_sem, z0, z1, z2, z3, z4]) rfl ⟨_, _, rfl, ?_, HF⟩
        rw [HA.out]
        exact ⟨HFn, rfl⟩
end Go.Proofs.YtdcfmgnpjmpboaaDoor
