/- filter.Parse: the walk. -/
import Derived.Test.YtdcfmgnpjmpboaaDoorFiHead
namespace Go.Proofs.YtdcfmgnpjmpboaaDoor
open Go.RowKit
set_option linter.unusedVariables false
set_option linter.unusedSimpArgs false

def pOf : Option (FT × List UInt8) → Option FT
  | some (f, []) => some f
  | _ => none
theorem parseF_of (s : List UInt8) : parseF s = pOf (headD 13 s) := by
  unfold parseF
  cases headD 13 s with
  | none => rfl
  | some x =>
    obtain ⟨f, r⟩ := x
    cases r <;> rfl
set_option maxRecDepth 100000 in
set_option maxHeartbeats 8000000 in
theorem parseFl_any (s : ByteArray) (hs : s.size ≤ 1000000) (ha : ascii s.data.toList) (w : World) :
    Calls Tryd.prog 10 #[.string s] w fun e w' => ∃ x b, e = .returned (.tuple #[x, .bool b]) ∧ FlV w.heap.size w' (parseF s.data.toList) x b ∧ Below w.heap.size w w' := by
  have hH := fun W => headFl_all 13 0 rfl s W hs ha
  obtain ⟨W0, hW0⟩ : ∃ W, W = w.alloc zF := ⟨_, rfl⟩
  have hb0 : Below w.heap.size w W0 := by rw [hW0]; exact box5 w _ _ _ _ _
  have hx0 : FzAt W0 w.heap.size := by rw [hW0]; exact heap_alloc_new w _
  have HB0 := Lib.hid hb0
  have HX0 := Lib.hid hx0
  have HW0 := Lib.hid hW0.symm
  clear hb0 hx0 hW0
  obtain ⟨o, ho⟩ : ∃ o, o = headD 13 s.data.toList := ⟨_, rfl⟩
  have hp := parseF_of s.data.toList
  rw [← ho] at hH hp
  cases o with
  | none =>
    have HA : Hid (parseF s.data.toList = none) := Lib.hid hp
    have HH := Lib.hid hH
    clear hp hH ho hs ha
    go_enter Tryd.func10, Tryd.ntmps10
    go_upto_region 1 with (fail)
    rw [HW0.out]
    go_upto_region 2 with (go_at_call 20; refine (HH.out _).mono ?_; rintro e w2 ⟨x, q, b, rfl, ⟨rfl, rfl⟩, hb2⟩; have HB2 := Lib.hid hb2; clear hb2)
    obtain ⟨W3, hW3⟩ : ∃ W, W = w2.alloc (.cells #[.int .i64 0, .string ⟨#[]⟩, .string ⟨#[]⟩, .slice none 0 0, .slice none 0 0] 25) := ⟨_, rfl⟩
    rw [← hW3]
    have h23 : Below w2.heap.size w2 W3 := by rw [hW3]; exact box5 w2 _ _ _ _ _
    have hx2 : FzAt w2 w.heap.size := fl_below HX0.out HB2.out (fl_lt HX0.out)
    have hfx : FzAt W3 w.heap.size := fl_below hx2 h23 (fl_lt hx2)
    have hky : FlAt W3 w2.heap.size (.int .i64 0) (.string ⟨#[]⟩) (.string ⟨#[]⟩) (.slice none 0 0) (.slice none 0 0) := by rw [hW3]; exact heap_alloc_new w2 _
    have HBx := Lib.hid (bthen (bthen HB0.out HB2.out) h23)
    have HLw : Hid (w.heap.size < W0.heap.size) := Lib.hid (fl_lt HX0.out)
    have H23 := Lib.hid h23
    clear hW3 h23 hx2
    obtain ⟨d0, d1, d2, d3, d4⟩ := fl_cells hky
    obtain ⟨c0, c1, c2, c3, c4⟩ := fl_cells hfx
    obtain ⟨f0, f1, f2, f3, f4⟩ := fl_frozen hfx
    obtain ⟨z0, z1, z2, z3, z4⟩ := fl_cells (fl_set hfx (.int .i64 0) (.string ⟨#[]⟩) (.string ⟨#[]⟩) (.slice none 0 0) (.slice none 0 0))
    unfold set5F at z0 z1 z2 z3 z4
    clear hfx hky
    go_wp2
    have hbz := fl_setB HBx.out (Nat.le_refl w.heap.size) (.int .i64 0) (.string ⟨#[]⟩) (.string ⟨#[]⟩) (.slice none 0 0) (.slice none 0 0)
    refine bodyPost_ret (v := .tuple #[.agg #[.int .i64 0, .string ⟨#[]⟩, .string ⟨#[]⟩, .slice none 0 0, .slice none 0 0], .bool false]) (by simp [results, Tryd.results10, go_sem, z0, z1, z2, z3, z4]) rfl ⟨_, _, rfl, ?_, hbz⟩
    rw [HA.out]
    exact ⟨rfl, rfl⟩
  | some fq =>
    obtain ⟨f, qq⟩ := fq
    cases qq with
    | nil =>
      have HA : Hid (parseF s.data.toList = some f) := Lib.hid hp
      have HH := Lib.hid hH
      clear hp hH ho hs ha
      go_enter Tryd.func10, Tryd.ntmps10
      go_upto_region 1 with (fail)
      rw [HW0.out]
      go_upto_region 2 with (go_at_call 20; refine (HH.out _).mono ?_; rintro e w2 ⟨x, q, b, rfl, ⟨hfl, hq, rfl⟩, hb2⟩; (obtain ⟨kk, T, X, pa, pn, pc, ka, kn, kc, e⟩ := hfl.shape); subst e; have HFl := Lib.hid hfl; have hq0 : q = ⟨#[]⟩ := bytes_ext (by rw [hq]); subst hq0; clear hq; have HB2 := Lib.hid hb2; clear hb2 hfl)
      obtain ⟨W3, hW3⟩ : ∃ W, W = w2.alloc (.cells #[.int .i64 kk, .string T, .string X, .slice pa pn pc, .slice ka kn kc] 25) := ⟨_, rfl⟩
      rw [← hW3]
      have h23 : Below w2.heap.size w2 W3 := by rw [hW3]; exact box5 w2 _ _ _ _ _
      have hx2 : FzAt w2 w.heap.size := fl_below HX0.out HB2.out (fl_lt HX0.out)
      have hfx : FzAt W3 w.heap.size := fl_below hx2 h23 (fl_lt hx2)
      have hky : FlAt W3 w2.heap.size (.int .i64 kk) (.string T) (.string X) (.slice pa pn pc) (.slice ka kn kc) := by rw [hW3]; exact heap_alloc_new w2 _
      have HBx := Lib.hid (bthen (bthen HB0.out HB2.out) h23)
      have HLw : Hid (w.heap.size < W0.heap.size) := Lib.hid (fl_lt HX0.out)
      have H23 := Lib.hid h23
      clear hW3 h23 hx2
      obtain ⟨d0, d1, d2, d3, d4⟩ := fl_cells hky
      obtain ⟨c0, c1, c2, c3, c4⟩ := fl_cells hfx
      obtain ⟨f0, f1, f2, f3, f4⟩ := fl_frozen hfx
      obtain ⟨z0, z1, z2, z3, z4⟩ := fl_cells (fl_set hfx (.int .i64 kk) (.string T) (.string X) (.slice pa pn pc) (.slice ka kn kc))
      unfold set5F at z0 z1 z2 z3 z4
      clear hfx hky
      go_wp2
      have hbz := fl_setB HBx.out (Nat.le_refl w.heap.size) (.int .i64 kk) (.string T) (.string X) (.slice pa pn pc) (.slice ka kn kc)
      have hfn : IsFl (fun b => w.heap.size ≤ b ∧ b < (set5F W3 w.heap.size (.int .i64 kk) (.string T) (.string X) (.slice pa pn pc) (.slice ka kn kc)).heap.size) (set5F W3 w.heap.size (.int .i64 kk) (.string T) (.string X) (.slice pa pn pc) (.slice ka kn kc)) f (.agg #[.int .i64 kk, .string T, .string X, .slice pa pn pc, .slice ka kn kc]) := by
        refine (HFl.out).imp (fun b h => ⟨?_, ?_⟩) (fun b o h => ?_)
        · have hb : b ≠ w.heap.size := by have := h.1; have := HLw.out; omega
          exact (fl_setC hb).trans (H23.out.cell (p := ⟨b, o, none⟩) h.2)
        · have := h.1; have := HLw.out; omega
        · rw [set5F_size]; exact Nat.lt_of_lt_of_le h.2 H23.out.size
      refine bodyPost_ret (v := .tuple #[.agg #[.int .i64 kk, .string T, .string X, .slice pa pn pc, .slice ka kn kc], .bool true]) (by simp [results, Tryd.results10, go_sem, z0, z1, z2, z3, z4]) rfl ⟨_, _, rfl, ?_, hbz⟩
      rw [HA.out]
      exact ⟨hfn, rfl⟩
    | cons y r =>
      have HA : Hid (parseF s.data.toList = none) := Lib.hid hp
      have HH := Lib.hid hH
      clear hp hH ho hs ha
      go_enter Tryd.func10, Tryd.ntmps10
      go_upto_region 1 with (fail)
      rw [HW0.out]
      go_upto_region 2 with (go_at_call 20; refine (HH.out _).mono ?_; rintro e w2 ⟨x, q, b, rfl, ⟨hfl, hq, rfl⟩, hb2⟩; (obtain ⟨kk, T, X, pa, pn, pc, ka, kn, kc, e⟩ := hfl.shape); subst e; have HFl := Lib.hid hfl; have t1 : (q.toList == []) = false := by { rw [ByteArray.toList_eq, hq]; rfl }; have t2 : ¬ q.toList = [] := by { rw [ByteArray.toList_eq, hq]; simp }; have t3 : q.toList.isEmpty = false := by { rw [ByteArray.toList_eq, hq]; rfl }; clear hq; have HB2 := Lib.hid hb2; clear hb2 hfl)
      obtain ⟨W3, hW3⟩ : ∃ W, W = w2.alloc (.cells #[.int .i64 kk, .string T, .string X, .slice pa pn pc, .slice ka kn kc] 25) := ⟨_, rfl⟩
      rw [← hW3]
      have h23 : Below w2.heap.size w2 W3 := by rw [hW3]; exact box5 w2 _ _ _ _ _
      have hx2 : FzAt w2 w.heap.size := fl_below HX0.out HB2.out (fl_lt HX0.out)
      have hfx : FzAt W3 w.heap.size := fl_below hx2 h23 (fl_lt hx2)
      have hky : FlAt W3 w2.heap.size (.int .i64 kk) (.string T) (.string X) (.slice pa pn pc) (.slice ka kn kc) := by rw [hW3]; exact heap_alloc_new w2 _
      have HBx := Lib.hid (bthen (bthen HB0.out HB2.out) h23)
      have HLw : Hid (w.heap.size < W0.heap.size) := Lib.hid (fl_lt HX0.out)
      have H23 := Lib.hid h23
      clear hW3 h23 hx2
      obtain ⟨d0, d1, d2, d3, d4⟩ := fl_cells hky
      obtain ⟨c0, c1, c2, c3, c4⟩ := fl_cells hfx
      obtain ⟨f0, f1, f2, f3, f4⟩ := fl_frozen hfx
      obtain ⟨z0, z1, z2, z3, z4⟩ := fl_cells (fl_set hfx (.int .i64 0) (.string ⟨#[]⟩) (.string ⟨#[]⟩) (.slice none 0 0) (.slice none 0 0))
      unfold set5F at z0 z1 z2 z3 z4
      clear hfx hky
      go_wp2
      have hbz := fl_setB HBx.out (Nat.le_refl w.heap.size) (.int .i64 0) (.string ⟨#[]⟩) (.string ⟨#[]⟩) (.slice none 0 0) (.slice none 0 0)
      refine bodyPost_ret (v := .tuple #[.agg #[.int .i64 0, .string ⟨#[]⟩, .string ⟨#[]⟩, .slice none 0 0, .slice none 0 0], .bool false]) (by simp [results, Tryd.results10, go_sem, z0, z1, z2, z3, z4]) rfl ⟨_, _, rfl, ?_, hbz⟩
      rw [HA.out]
      exact ⟨rfl, rfl⟩
end Go.Proofs.YtdcfmgnpjmpboaaDoor
