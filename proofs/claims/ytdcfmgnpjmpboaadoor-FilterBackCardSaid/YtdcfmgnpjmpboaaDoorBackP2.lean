/- Several texts in one file: FiParse, FiTextW, FiAwake, EnSame, FiSamR. -/
import Derived.Test.YtdcfmgnpjmpboaaDoorBackP1
import Derived.Test.YtdcfmgnpjmpboaaDoorFiWrite
import Derived.Test.YtdcfmgnpjmpboaaDoorEnRead
import Derived.Test.YtdcfmgnpjmpboaaDoorEnFind
import Derived.Test.YtdcfmgnpjmpboaaDoorFiAsk
import Derived.Deep.RegionHeld3
/- filter.Parse: the walk. -/
namespace Go.Proofs.YtdcfmgnpjmpboaaDoor
open Go.RowKit
set_option linter.unusedVariables false
set_option linter.unusedSimpArgs false

def pOf : Option (FT × List UInt8) → Option FT
  | some (f, []) => some f
  | _ => none
theorem parseF_of (s : List UInt8) : parseF s = pOf (headD 13 s) := by
  unfold parseF
  cases headD 13 s with
  | none => rfl
  | some x =>
    obtain ⟨f, r⟩ := x
    cases r <;> rfl
set_option maxRecDepth 100000 in
set_option maxHeartbeats 8000000 in
theorem parseFl_any (s : ByteArray) (hs : s.size ≤ 1000000) (ha : ascii s.data.toList) (w : World) :
    Calls Tryd.prog 10 #[.string s] w fun e w' => ∃ x b, e = .returned (.tuple #[x, .bool b]) ∧ FlV w.heap.size w' (parseF s.data.toList) x b ∧ Below w.heap.size w w' := by
  have hH := fun W => headFl_all 13 0 rfl s W hs ha
  obtain ⟨W0, hW0⟩ : ∃ W, W = w.alloc zF := ⟨_, rfl⟩
  have hb0 : Below w.heap.size w W0 := by rw [hW0]; exact box5 w _ _ _ _ _
  have hx0 : FzAt W0 w.heap.size := by rw [hW0]; exact heap_alloc_new w _
  have HB0 := Lib.hid hb0
  have HX0 := Lib.hid hx0
  have HW0 := Lib.hid hW0.symm
  clear hb0 hx0 hW0
  obtain ⟨o, ho⟩ : ∃ o, o = headD 13 s.data.toList := ⟨_, rfl⟩
  have hp := parseF_of s.data.toList
  rw [← ho] at hH hp
  cases o with
  | none =>
    have HA : Hid (parseF s.data.toList = none) := Lib.hid hp
    have HH := Lib.hid hH
    clear hp hH ho hs ha
    go_enter Tryd.func10, Tryd.ntmps10
    go_upto_region 1 with (fail)
    rw [HW0.out]
    go_upto_region 2 with (go_at_call 20; refine (HH.out _).mono ?_; rintro e w2 ⟨x, q, b, rfl, ⟨rfl, rfl⟩, hb2⟩; have HB2 := Lib.hid hb2; clear hb2)
    obtain ⟨W3, hW3⟩ : ∃ W, W = w2.alloc (.cells #[.int .i64 0, .string ⟨#[]⟩, .string ⟨#[]⟩, .slice none 0 0, .slice none 0 0] 25) := ⟨_, rfl⟩
    rw [← hW3]
    have h23 : Below w2.heap.size w2 W3 := by rw [hW3]; exact box5 w2 _ _ _ _ _
    have hx2 : FzAt w2 w.heap.size := fl_below HX0.out HB2.out (fl_lt HX0.out)
    have hfx : FzAt W3 w.heap.size := fl_below hx2 h23 (fl_lt hx2)
    have hky : FlAt W3 w2.heap.size (.int .i64 0) (.string ⟨#[]⟩) (.string ⟨#[]⟩) (.slice none 0 0) (.slice none 0 0) := by rw [hW3]; exact heap_alloc_new w2 _
    have HBx := Lib.hid (bthen (bthen HB0.out HB2.out) h23)
    have HLw : Hid (w.heap.size < W0.heap.size) := Lib.hid (fl_lt HX0.out)
    have H23 := Lib.hid h23
    clear hW3 h23 hx2
    obtain ⟨d0, d1, d2, d3, d4⟩ := fl_cells hky
    obtain ⟨c0, c1, c2, c3, c4⟩ := fl_cells hfx
    obtain ⟨f0, f1, f2, f3, f4⟩ := fl_frozen hfx
    obtain ⟨z0, z1, z2, z3, z4⟩ := fl_cells (fl_set hfx (.int .i64 0) (.string ⟨#[]⟩) (.string ⟨#[]⟩) (.slice none 0 0) (.slice none 0 0))
    unfold set5F at z0 z1 z2 z3 z4
    clear hfx hky
    go_wp2
    have hbz := fl_setB HBx.out (Nat.le_refl w.heap.size) (.int .i64 0) (.string ⟨#[]⟩) (.string ⟨#[]⟩) (.slice none 0 0) (.slice none 0 0)
    refine bodyPost_ret (v := .tuple #[.agg #[.int .i64 0, .string ⟨#[]⟩, .string ⟨#[]⟩, .slice none 0 0, .slice none 0 0], .bool false]) (by simp [results, Tryd.results10, go_sem, z0, z1, z2, z3, z4]) rfl ⟨_, _, rfl, ?_, hbz⟩
    rw [HA.out]
    exact ⟨rfl, rfl⟩
  | some fq =>
    obtain ⟨f, qq⟩ := fq
    cases qq with
    | nil =>
      have HA : Hid (parseF s.data.toList = some f) := Lib.hid hp
      have HH := Lib.hid hH
      clear hp hH ho hs ha
      go_enter Tryd.func10, Tryd.ntmps10
      go_upto_region 1 with (fail)
      rw [HW0.out]
      go_upto_region 2 with (go_at_call 20; refine (HH.out _).mono ?_; rintro e w2 ⟨x, q, b, rfl, ⟨hfl, hq, rfl⟩, hb2⟩; (obtain ⟨kk, T, X, pa, pn, pc, ka, kn, kc, e⟩ := hfl.shape); subst e; have HFl := Lib.hid hfl; have hq0 : q = ⟨#[]⟩ := bytes_ext (by rw [hq]); subst hq0; clear hq; have HB2 := Lib.hid hb2; clear hb2 hfl)
      obtain ⟨W3, hW3⟩ : ∃ W, W = w2.alloc (.cells #[.int .i64 kk, .string T, .string X, .slice pa pn pc, .slice ka kn kc] 25) := ⟨_, rfl⟩
      rw [← hW3]
      have h23 : Below w2.heap.size w2 W3 := by rw [hW3]; exact box5 w2 _ _ _ _ _
      have hx2 : FzAt w2 w.heap.size := fl_below HX0.out HB2.out (fl_lt HX0.out)
      have hfx : FzAt W3 w.heap.size := fl_below hx2 h23 (fl_lt hx2)
      have hky : FlAt W3 w2.heap.size (.int .i64 kk) (.string T) (.string X) (.slice pa pn pc) (.slice ka kn kc) := by rw [hW3]; exact heap_alloc_new w2 _
      have HBx := Lib.hid (bthen (bthen HB0.out HB2.out) h23)
      have HLw : Hid (w.heap.size < W0.heap.size) := Lib.hid (fl_lt HX0.out)
      have H23 := Lib.hid h23
      clear hW3 h23 hx2
      obtain ⟨d0, d1, d2, d3, d4⟩ := fl_cells hky
      obtain ⟨c0, c1, c2, c3, c4⟩ := fl_cells hfx
      obtain ⟨f0, f1, f2, f3, f4⟩ := fl_frozen hfx
      obtain ⟨z0, z1, z2, z3, z4⟩ := fl_cells (fl_set hfx (.int .i64 kk) (.string T) (.string X) (.slice pa pn pc) (.slice ka kn kc))
      unfold set5F at z0 z1 z2 z3 z4
      clear hfx hky
      go_wp2
      have hbz := fl_setB HBx.out (Nat.le_refl w.heap.size) (.int .i64 kk) (.string T) (.string X) (.slice pa pn pc) (.slice ka kn kc)
      have hfn : IsFl (fun b => w.heap.size ≤ b ∧ b < (set5F W3 w.heap.size (.int .i64 kk) (.string T) (.string X) (.slice pa pn pc) (.slice ka kn kc)).heap.size) (set5F W3 w.heap.size (.int .i64 kk) (.string T) (.string X) (.slice pa pn pc) (.slice ka kn kc)) f (.agg #[.int .i64 kk, .string T, .string X, .slice pa pn pc, .slice ka kn kc]) := by
        refine (HFl.out).imp (fun b h => ⟨?_, ?_⟩) (fun b o h => ?_)
        · have hb : b ≠ w.heap.size := by have := h.1; have := HLw.out; omega
          exact (fl_setC hb).trans (H23.out.cell (p := ⟨b, o, none⟩) h.2)
        · have := h.1; have := HLw.out; omega
        · rw [set5F_size]; exact Nat.lt_of_lt_of_le h.2 H23.out.size
      refine bodyPost_ret (v := .tuple #[.agg #[.int .i64 kk, .string T, .string X, .slice pa pn pc, .slice ka kn kc], .bool true]) (by simp [results, Tryd.results10, go_sem, z0, z1, z2, z3, z4]) rfl ⟨_, _, rfl, ?_, hbz⟩
      rw [HA.out]
      exact ⟨hfn, rfl⟩
    | cons y r =>
      have HA : Hid (parseF s.data.toList = none) := Lib.hid hp
      have HH := Lib.hid hH
      clear hp hH ho hs ha
      go_enter Tryd.func10, Tryd.ntmps10
      go_upto_region 1 with (fail)
      rw [HW0.out]
      go_upto_region 2 with (go_at_call 20; refine (HH.out _).mono ?_; rintro e w2 ⟨x, q, b, rfl, ⟨hfl, hq, rfl⟩, hb2⟩; (obtain ⟨kk, T, X, pa, pn, pc, ka, kn, kc, e⟩ := hfl.shape); subst e; have HFl := Lib.hid hfl; have t1 : (q.toList == []) = false := by { rw [ByteArray.toList_eq, hq]; rfl }; have t2 : ¬ q.toList = [] := by { rw [ByteArray.toList_eq, hq]; simp }; have t3 : q.toList.isEmpty = false := by { rw [ByteArray.toList_eq, hq]; rfl }; clear hq; have HB2 := Lib.hid hb2; clear hb2 hfl)
      obtain ⟨W3, hW3⟩ : ∃ W, W = w2.alloc (.cells #[.int .i64 kk, .string T, .string X, .slice pa pn pc, .slice ka kn kc] 25) := ⟨_, rfl⟩
      rw [← hW3]
      have h23 : Below w2.heap.size w2 W3 := by rw [hW3]; exact box5 w2 _ _ _ _ _
      have hx2 : FzAt w2 w.heap.size := fl_below HX0.out HB2.out (fl_lt HX0.out)
      have hfx : FzAt W3 w.heap.size := fl_below hx2 h23 (fl_lt hx2)
      have hky : FlAt W3 w2.heap.size (.int .i64 kk) (.string T) (.string X) (.slice pa pn pc) (.slice ka kn kc) := by rw [hW3]; exact heap_alloc_new w2 _
      have HBx := Lib.hid (bthen (bthen HB0.out HB2.out) h23)
      have HLw : Hid (w.heap.size < W0.heap.size) := Lib.hid (fl_lt HX0.out)
      have H23 := Lib.hid h23
      clear hW3 h23 hx2
      obtain ⟨d0, d1, d2, d3, d4⟩ := fl_cells hky
      obtain ⟨c0, c1, c2, c3, c4⟩ := fl_cells hfx
      obtain ⟨f0, f1, f2, f3, f4⟩ := fl_frozen hfx
      obtain ⟨z0, z1, z2, z3, z4⟩ := fl_cells (fl_set hfx (.int .i64 0) (.string ⟨#[]⟩) (.string ⟨#[]⟩) (.slice none 0 0) (.slice none 0 0))
      unfold set5F at z0 z1 z2 z3 z4
      clear hfx hky
      go_wp2
      have hbz := fl_setB HBx.out (Nat.le_refl w.heap.size) (.int .i64 0) (.string ⟨#[]⟩) (.string ⟨#[]⟩) (.slice none 0 0) (.slice none 0 0)
      refine bodyPost_ret (v := .tuple #[.agg #[.int .i64 0, .string ⟨#[]⟩, .string ⟨#[]⟩, .slice none 0 0, .slice none 0 0], .bool false]) (by simp [results, Tryd.results10, go_sem, z0, z1, z2, z3, z4]) rfl ⟨_, _, rfl, ?_, hbz⟩
      rw [HA.out]
      exact ⟨rfl, rfl⟩
end Go.Proofs.YtdcfmgnpjmpboaaDoor

/- filter.Text: the walk. -/
namespace Go.Proofs.YtdcfmgnpjmpboaaDoor
open Go.RowKit
set_option linter.unusedVariables false
set_option linter.unusedSimpArgs false

def textTop (f : FT) : List UInt8 := if mayF 13 f then textF f else []
set_option maxRecDepth 100000 in
set_option maxHeartbeats 4000000 in
theorem textTop_any (f : FT) (v : Value) (w : World) (h : IsFl (Lt w) w f v) (hlen : mayF 13 f = true → (textF f).length ≤ 900000000000) :
    Calls Tryd.prog 14 #[v] w fun e w' => e = .returned (.string (ofL (textTop f))) ∧ Below w.heap.size w w' := by
  have hmay := fun W (hW : Below w.heap.size w W) => mayTop_any f v W (h.imp (fun b h => Nat.lt_of_lt_of_le h hW.size) (fun b o h => hW.cell (p := ⟨b, o, none⟩) h))
  have hfl := fun W (hW : Below w.heap.size w W) => (h.imp (ok' := fun q => q < W.heap.size) (w' := W) (fun b h => Nat.lt_of_lt_of_le h hW.size) (fun b o h => hW.cell (p := ⟨b, o, none⟩) h) : IsFl (fun q => q < W.heap.size) W f v)
  obtain ⟨k, T, X, pa, pn, pc, ka, kn, kc, rfl⟩ := h.shape
  have hb := box5 w (.int .i64 k) (.string T) (.string X) (.slice pa pn pc) (.slice ka kn kc)
  have hbx := heap_alloc_new w (.cells #[.int .i64 k, .string T, .string X, .slice pa pn pc, .slice ka kn kc] 25)
  obtain ⟨W0, hW0⟩ : ∃ W, W = w.alloc (.cells #[.int .i64 k, .string T, .string X, .slice pa pn pc, .slice ka kn kc] 25) := ⟨_, rfl⟩
  rw [← hW0] at hb hbx
  have hm := hmay W0 hb
  obtain ⟨c0, c1, c2, c3, c4⟩ := cells5 hbx
  have HFl := Lib.hid hfl
  have HB := Lib.hid hb
  have HBx := Lib.hid hbx
  have HW0 := Lib.hid hW0.symm
  have HLen := Lib.hid hlen
  clear hmay hfl hb hbx hW0 h hlen
  obtain ⟨q, hq⟩ : ∃ q, q = mayF 13 f := ⟨_, rfl⟩
  rw [← hq] at hm
  have HM := Lib.hid hm
  clear hm
  cases q with
  | false =>
    have hr : textTop f = [] := by unfold textTop; rw [if_neg (by rw [← hq]; decide)]
    rw [hr]
    clear hr hq
    go_enter Tryd.func14, Tryd.ntmps14
    go_upto_region 1 with (fail)
    rw [HW0.out]
    go_wp2_with (go_at_call 12; refine (HM.out).mono ?_; rintro e w1 ⟨rfl, hb1⟩; have HB1 := Lib.hid (bthen HB.out hb1); clear hb1)
    go_ret
    exact ⟨rfl, HB1.out⟩
  | true =>
    have hr : textTop f = textF f := by unfold textTop; rw [if_pos hq.symm]
    rw [hr]
    have HQ := Lib.hid hq.symm
    clear hr hq
    go_enter Tryd.func14, Tryd.ntmps14
    go_upto_region 1 with (fail)
    rw [HW0.out]
    go_upto_region 4 with (go_at_call 12; refine (HM.out).mono ?_; rintro e w1 ⟨rfl, hb1⟩; have HB1 := Lib.hid hb1; clear hb1)
    have hbl := Lib.fresh_isBuilder 52 5 w1
    have hal : Below w1.heap.size w1 (w1.alloc (.cells #[.pointer none, .slice none 0 0] 52)) := (Below.refl _ _).alloc (Nat.le_refl _) _
    have hf1 := HFl.out w1 (bthen HB.out HB1.out)
    have hf2 : IsFl (fun q => q < w1.heap.size) (w1.alloc (.cells #[.pointer none, .slice none 0 0] 52)) f (.agg #[.int .i64 k, .string T, .string X, .slice pa pn pc, .slice ka kn kc]) := hf1.imp (fun _ h => h) (fun b o h => hal.cell (p := ⟨b, o, none⟩) h)
    have hx2 := (((HB1.out).trans (hal.mono HB1.out.size)).block _ (Array.getElem?_eq_some_iff.1 HBx.out).1).trans HBx.out
    have hwr := write_all 13 f w1.heap.size w1.heap.size [] _ _ HQ.out hbl hf2 (by have := HLen.out HQ.out; simp; omega) (by simp)
    rw [List.nil_append] at hwr
    have HBs := Lib.hid (bthen (bthen HB.out HB1.out) hal)
    have HZ : Hid (w1.heap.size ≤ (w1.alloc (.cells #[.pointer none, .slice none 0 0] 52)).heap.size ∧ w.heap.size ≤ w1.heap.size) := Lib.hid ⟨by simp, (bthen HB.out HB1.out).size⟩
    generalize w1.alloc (.cells #[.pointer none, .slice none 0 0] 52) = W2 at hwr hx2 HBs HZ ⊢
    clear c0 c1 c2 c3 c4
    obtain ⟨c0, c1, c2, c3, c4⟩ := cells5 hx2
    have HWr := Lib.hid hwr
    clear hwr hf1 hf2 hal hbl hx2
    go_wp2_with (first
      | (go_at_call 24; refine (HWr.out).mono ?_; rintro e w3 ⟨rfl, h3, f3⟩; have H3 := Lib.hid h3; have F3 := Lib.hid f3; clear h3 f3)
      | (go_at_call 25; refine (bldString_any w1.heap.size w1.heap.size (textF f) w3 H3.out.bld (Nat.le_trans HZ.out.1 F3.out.1.size)).mono ?_; rintro e w4 ⟨rfl, hb4⟩; have HB4 := Lib.hid ((HBs.out.trans (F3.out.1.mono HZ.out.2)).trans (hb4.mono HZ.out.2)); clear hb4))
    go_ret
    exact ⟨rfl, HB4.out⟩
end Go.Proofs.YtdcfmgnpjmpboaaDoor

/- brooklaw6.awake: the walk. -/
namespace Go.Proofs.YtdcfmgnpjmpboaaDoor
open Go.RowKit
set_option linter.unusedVariables false
set_option linter.unusedSimpArgs false

def sAw : ByteArray := ⟨#[40, 38, 40, 99, 110, 61, 97, 42, 41, 40, 33, 40, 115, 110, 62, 61, 98, 41, 41, 41]⟩
def fAw : FT := .mk 1 [] [] [] [.mk 5 [99, 110] [] [[97], []] [], .mk 3 [] [] [] [.mk 6 [115, 110] [98] [] []]]
theorem parse_aw : parseF sAw.data.toList = some fAw := by kernel_rfl
theorem text_aw : ofL (textTop (.mk 8 [99, 110] [] [] [])) = ⟨#[40, 99, 110, 61, 42, 41]⟩ := by kernel_rfl
set_option maxRecDepth 100000 in
set_option maxHeartbeats 8000000 in
theorem awakeFl_any (w : World) : Calls Tryd.prog 9 #[] w fun e w' => e = .returned (.bool true) ∧ Below w.heap.size w w' := by
  have hp := fun W => parseFl_any sAw (by decide) (by unfold ascii; decide) W
  rw [parse_aw] at hp
  unfold sAw at hp
  have HP := Lib.hid hp
  clear hp
  go_enter Tryd.func9, Tryd.ntmps9
  go_upto_region 2 with (go_at_call 10; refine (HP.out _).mono ?_; rintro e w2 ⟨x, b, rfl, ⟨hfl, rfl⟩, hb2⟩; (obtain ⟨kk, T, X, pa, pn, pc, ka, kn, kc, e⟩ := hfl.shape); subst e; have HFl := Lib.hid hfl; have HB2 := Lib.hid hb2; clear hb2 hfl)
  obtain ⟨W3, hW3⟩ : ∃ W, W = w2.alloc (.cells #[.int .i64 kk, .string T, .string X, .slice pa pn pc, .slice ka kn kc] 25) := ⟨_, rfl⟩
  rw [← hW3]
  have h23 : Below w2.heap.size w2 W3 := by rw [hW3]; exact box5 w2 _ _ _ _ _
  have hx3 : FlAt W3 w2.heap.size (.int .i64 kk) (.string T) (.string X) (.slice pa pn pc) (.slice ka kn kc) := by rw [hW3]; exact heap_alloc_new w2 _
  obtain ⟨pv, a, cap, hag, _, _, _, _, _, hk⟩ := HFl.out
  simp only [Value.agg.injEq, Array.mk.injEq, List.cons.injEq, and_true] at hag
  obtain ⟨_, _, _, _, hk4⟩ := hag
  obtain ⟨⟨b, off, v0, v1, v2, v3, v4, ha, hok, hc0, hc1, hc2, hc3, hc4, hf0⟩, _⟩ := hk
  obtain ⟨pv0, a0, cap0, hag0, _⟩ := hf0
  simp only [Value.agg.injEq, Array.mk.injEq, List.cons.injEq, and_true] at hag0
  obtain ⟨hv0, _⟩ := hag0
  subst hv0
  rw [ha] at hk4
  rw [hk4] at hx3 ⊢
  have hc : w2.cell? ⟨b, off, none⟩ = some (.int .i64 5) := by simpa using hc0
  have hl2 : ([FT.mk 5 [99, 110] [] [[97], []] [], .mk 3 [] [] [] [.mk 6 [115, 110] [98] [] []]] : List FT).length = 2 := rfl
  rw [hl2] at hx3 ⊢
  have h8 : IsFl (Lt W3) W3 (.mk 8 [99, 110] [] [] []) (.agg #[.int .i64 8, .string ⟨#[99, 110]⟩, .string ⟨#[]⟩, .slice none 0 0, .slice none 0 0]) :=
    mkFl (t := [99, 110]) (x := []) (u := .slice none 0 0) (by decide) (by decide) (by decide) ⟨none, 0, rfl, Nat.zero_le _, fun j h => absurd h (Nat.not_lt_zero _)⟩
  have htx := textTop_any _ _ W3 h8 (fun _ => by decide)
  rw [text_aw] at htx
  have HTx := Lib.hid htx
  have HX3 := Lib.hid hx3
  have HC := Lib.hid hc
  have HOk := Lib.hid hok
  have H23 := Lib.hid h23
  clear hW3 h23 hx3 hk4 ha hok hc0 hc1 hc2 hc3 hc4 hc hl2 h8 htx
  go_wp2_with (go_at_call 14; refine (HTx.out).mono ?_; rintro e w4 ⟨rfl, hb4⟩; have HB4 := Lib.hid hb4; have hx4 := fl_below HX3.out hb4 (fl_lt HX3.out); (obtain ⟨d0, d1, d2, d3, d4⟩ := fl_cells hx4); have hc4 : w4.cell? ⟨b, off, none⟩ = some (.int .i64 5) := (hb4.cell (p := ⟨b, off, none⟩) (Nat.lt_of_lt_of_le HOk.out.2 H23.out.size)).trans ((H23.out.cell (p := ⟨b, off, none⟩) HOk.out.2).trans HC.out); clear hb4 hx4)
  go_ret
  exact ⟨rfl, bthen (bthen HB2.out H23.out) HB4.out⟩
end Go.Proofs.YtdcfmgnpjmpboaaDoor

/- Two lists of texts, two entries: are they one? The program's and the document's: the walks. -/
namespace Go.Proofs.YtdcfmgnpjmpboaaDoor
open Go.RowKit
set_option linter.unusedVariables false

set_option maxRecDepth 100000 in
set_option maxHeartbeats 2000000 in
theorem textsRef_q (L M : List (List UInt8)) (hs : L.length ≤ 1000000) (v u : Value) (w : World) (hL : IsT w.heap.size w L v) (hM : IsT w.heap.size w M u) :
    Calls Tryd.prog 29 #[v, u] w fun e w' => e = .returned (.bool (L == M)) ∧ ∃ m, w' = w.drewN m := by
  obtain ⟨a, c, rfl, hm, hcell⟩ := hL
  obtain ⟨b, d, rfl, hm2, hcell2⟩ := hM
  unfold maxLen at hm hm2
  have HC := Lib.hid hcell
  have HD := Lib.hid hcell2
  obtain ⟨R, hR⟩ : ∃ R, R = (L == M) := ⟨_, rfl⟩
  rw [← hR]
  have HR := Lib.hid hR
  clear hcell hcell2 hR
  by_cases hlen : L.length = M.length
  · have t0 : ((L.length : Int) != (M.length : Int)) = false := by simp [hlen]
    have t0' : ((M.length : Int) != (M.length : Int)) = false := by simp
    obtain ⟨n, hn⟩ : ∃ n, n = L.length := ⟨_, rfl⟩
    have hn2 : n = M.length := hn.trans hlen
    have HN := Lib.hid hn
    have HN2 := Lib.hid hn2
    have hn5 : n ≤ 1000000 := by omega
    rw [← hn, ← hn2]
    clear t0 t0' hlen hn hn2 hm hm2 hs
    go_enter Tryd.func29, Tryd.ntmps29
    go_wp2
    go_loopw [5] (fun i wr => ∃ j : Nat, j ≤ n ∧ i = .int .i64 j ∧ Hid (∀ k (h1 : k < L.length) (h2 : k < M.length), k < j → L[k] = M[k]) ∧ ∃ q, wr = w.drewN q) (fun i wr => n - (intOf i).toNat)
    case atStart => exact ⟨0, by omega, rfl, Lib.hid (fun k _ _ h => absurd h (by omega)), 0, rfl⟩
    case round =>
      obtain ⟨j, hj, rfl, HAll, q, rfl⟩ := hrel
      by_cases hlt : j < n
      · have t1 : decide ((j : Int) < (n : Int)) = true := by simp; omega
        have t1' : decide (j < n) = true := by simpa using hlt
        have q1 : (j : Int) < (n : Int) := by omega
        have hl1 : j < L.length := by rw [← HN.out]; exact hlt
        have hl2 : j < M.length := by rw [← HN2.out]; exact hlt
        obtain ⟨b1, f1, rfl, hb1, x0⟩ := HC.out j hl1
        obtain ⟨b2, f2, rfl, hb2, y0⟩ := HD.out j hl2
        obtain ⟨X, hX⟩ : ∃ X : ByteArray, ofL L[j] = X := ⟨_, rfl⟩
        obtain ⟨Y, hY⟩ : ∃ Y : ByteArray, ofL M[j] = Y := ⟨_, rfl⟩
        have gX : X.data.toList = L[j] := by rw [← hX, ofL_list]
        have gY : Y.data.toList = M[j] := by rw [← hY, ofL_list]
        have d0 : w.cell? ⟨b1, f1 + j, none⟩ = some (.string X) := by rw [x0, ← hX]; rfl
        have d1 : w.cell? ⟨b2, f2 + j, none⟩ = some (.string Y) := by rw [y0, ← hY]; rfl
        have GX := Lib.hid gX
        have GY := Lib.hid gY
        clear x0 y0 hX hY gX gY
        by_cases he : X = Y
        · subst he
          have HN1 : Hid (∀ k (h1 : k < L.length) (h2 : k < M.length), k < j + 1 → L[k] = M[k]) := Lib.hid (fun k h1 h2 h3 => by
            by_cases hk : k < j
            · exact HAll.out k h1 h2 hk
            · obtain rfl : k = j := by omega
              rw [← GX.out, ← GY.out])
          clear GX GY hl1 hl2
          go_wp2
          go_quiet (fail)
          go_wp2
          go_roundw
          case rel => exact ⟨j + 1, by omega, by go_num, HN1, _, rfl⟩
          case measure => simp [intOf]; omega
        · have t2 := str_ne he
          have HF : Hid (R = false) := Lib.hid (HR.out.trans (by
            have : L ≠ M := fun e => by
              subst e
              exact he (bytes_ext (by rw [GX.out, GY.out]))
            simpa using this))
          clear GX GY he hl1 hl2
          go_wp2
          go_quiet (fail)
          go_wp2
          go_ret
          exact ⟨by rw [HF.out]; rfl, _, World.drewN_drewN ..⟩
      · obtain rfl : j = n := by omega
        have t1 : decide ((j : Int) < (j : Int)) = false := by simp
        have t1' : decide (j < j) = false := by simp
        have HF : Hid (R = true) := Lib.hid (HR.out.trans (by
          have : L = M := List.ext_getElem (by rw [← HN.out, ← HN2.out]) (fun k h1 h2 => HAll.out k h1 h2 (by rw [HN.out]; exact h1))
          simp [this]))
        go_wp2
        go_ret
        exact ⟨by rw [HF.out]; rfl, _, rfl⟩
  · have t0 : ((L.length : Int) != (M.length : Int)) = true := by simp; omega
    have HF : Hid (R = false) := Lib.hid (HR.out.trans (by
      have : L ≠ M := fun e => hlen (by rw [e])
      simpa using this))
    clear hlen
    go_enter Tryd.func29, Tryd.ntmps29
    go_wp2
    go_ret
    exact ⟨by rw [HF.out]; rfl, 0, rfl⟩

set_option maxRecDepth 100000 in
set_option maxHeartbeats 2000000 in
theorem equalT_any (L M : List (List UInt8)) (hs : L.length ≤ 1000000) (v u : Value) (w : World) (hL : IsT w.heap.size w L v) (hM : IsT w.heap.size w M u) :
    Calls Tryd.prog 27 #[v, u] w fun e w' => e = .returned (.bool (L == M)) ∧ Below w.heap.size w w' := by
  obtain ⟨a, c, rfl, hm, hcell⟩ := hL
  obtain ⟨b, d, rfl, hm2, hcell2⟩ := hM
  unfold maxLen at hm hm2
  have HC := Lib.hid hcell
  have HD := Lib.hid hcell2
  obtain ⟨R, hR⟩ : ∃ R, R = (L == M) := ⟨_, rfl⟩
  rw [← hR]
  have HR := Lib.hid hR
  clear hcell hcell2 hR
  by_cases hlen : L.length = M.length
  · have t0 : ((L.length : Int) != (M.length : Int)) = false := by simp [hlen]
    have t0' : ((M.length : Int) != (M.length : Int)) = false := by simp
    obtain ⟨n, hn⟩ : ∃ n, n = L.length := ⟨_, rfl⟩
    have hn2 : n = M.length := hn.trans hlen
    have HN := Lib.hid hn
    have HN2 := Lib.hid hn2
    have hn5 : n ≤ 1000000 := by omega
    rw [← hn, ← hn2]
    clear t0 t0' hlen hn hn2 hm hm2 hs
    go_enter Tryd.func27, Tryd.ntmps27
    go_wp2
    go_loopw [13] (fun i wr => ∃ j : Nat, j ≤ n ∧ i = .int .i64 j ∧ Hid (∀ k (h1 : k < L.length) (h2 : k < M.length), k < j → L[k] = M[k]) ∧ Below w.heap.size w wr) (fun i wr => n - (intOf i).toNat)
    case atStart => exact ⟨0, by omega, rfl, Lib.hid (fun k _ _ h => absurd h (by omega)), Below.refl _ _⟩
    case round =>
      obtain ⟨j, hj, rfl, HAll, hbel⟩ := hrel
      have HBel := Lib.hid hbel
      by_cases hlt : j < n
      · have t1 : decide ((j : Int) < (n : Int)) = true := by simp; omega
        have t1' : decide (j < n) = true := by simpa using hlt
        have q1 : (j : Int) < (n : Int) := by omega
        have hl1 : j < L.length := by rw [← HN.out]; exact hlt
        have hl2 : j < M.length := by rw [← HN2.out]; exact hlt
        obtain ⟨b1, f1, rfl, hb1, x0⟩ := HC.out j hl1
        obtain ⟨b2, f2, rfl, hb2, y0⟩ := HD.out j hl2
        obtain ⟨X, hX⟩ : ∃ X : ByteArray, ofL L[j] = X := ⟨_, rfl⟩
        obtain ⟨Y, hY⟩ : ∃ Y : ByteArray, ofL M[j] = Y := ⟨_, rfl⟩
        have gX : X.data.toList = L[j] := by rw [← hX, ofL_list]
        have gY : Y.data.toList = M[j] := by rw [← hY, ofL_list]
        have d0 : wr.cell? ⟨b1, f1 + j, none⟩ = some (.string X) := by rw [hbel.cell (p := ⟨b1, _, none⟩) hb1, x0, ← hX]; rfl
        have d1 : wr.cell? ⟨b2, f2 + j, none⟩ = some (.string Y) := by rw [hbel.cell (p := ⟨b2, _, none⟩) hb2, y0, ← hY]; rfl
        have GX := Lib.hid gX
        have GY := Lib.hid gY
        clear x0 y0 hX hY gX gY hbel
        by_cases he : X = Y
        · subst he
          have HN1 : Hid (∀ k (h1 : k < L.length) (h2 : k < M.length), k < j + 1 → L[k] = M[k]) := Lib.hid (fun k h1 h2 h3 => by
            by_cases hk : k < j
            · exact HAll.out k h1 h2 hk
            · obtain rfl : k = j := by omega
              rw [← GX.out, ← GY.out])
          clear GX GY hl1 hl2
          go_wp2
          go_quiet (fail)
          go_wp2
          go_roundw
          case rel => exact ⟨j + 1, by omega, by go_num, HN1, below_drewN HBel.out _⟩
          case measure => simp [intOf]; omega
        · have t2 := str_ne he
          have HF : Hid (R = false) := Lib.hid (HR.out.trans (by
            have : L ≠ M := fun e => by
              subst e
              exact he (bytes_ext (by rw [GX.out, GY.out]))
            simpa using this))
          clear GX GY he hl1 hl2
          go_wp2
          go_quiet (fail)
          go_wp2
          go_ret
          exact ⟨by rw [HF.out]; rfl, below_drewN HBel.out _⟩
      · obtain rfl : j = n := by omega
        have t1 : decide ((j : Int) < (j : Int)) = false := by simp
        have t1' : decide (j < j) = false := by simp
        have HF : Hid (R = true) := Lib.hid (HR.out.trans (by
          have : L = M := List.ext_getElem (by rw [← HN.out, ← HN2.out]) (fun k h1 h2 => HAll.out k h1 h2 (by rw [HN.out]; exact h1))
          simp [this]))
        clear hbel
        go_wp2
        go_ret
        exact ⟨by rw [HF.out]; rfl, HBel.out⟩
  · have t0 : ((L.length : Int) != (M.length : Int)) = true := by simp; omega
    have HF : Hid (R = false) := Lib.hid (HR.out.trans (by
      have : L ≠ M := fun e => hlen (by rw [e])
      simpa using this))
    clear hlen
    go_enter Tryd.func27, Tryd.ntmps27
    go_wp2
    go_ret
    exact ⟨by rw [HF.out]; rfl, Below.refl _ _⟩
end Go.Proofs.YtdcfmgnpjmpboaaDoor

/- The document's SameFilter: the walk. -/
namespace Go.Proofs.YtdcfmgnpjmpboaaDoor
open Go.RowKit
set_option linter.unusedVariables false
set_option linter.unusedSimpArgs false

/-- Are two filters one? -/
noncomputable def sameFT (f g : FT) : Bool := @decide (f = g) (Classical.propDecidable _)
theorem sameFT_pos {f g : FT} (h : f = g) : sameFT f g = true := @decide_eq_true _ (Classical.propDecidable _) h
theorem sameFT_neg {f g : FT} (h : ¬ f = g) : sameFT f g = false := @decide_eq_false _ (Classical.propDecidable _) h
mutual
/-- Its parts are few. -/
def fewP : FT → Prop
  | .mk _ _ _ p l => p.length ≤ 1000000 ∧ fewPs l
def fewPs : List FT → Prop
  | [] => True
  | f :: l => fewP f ∧ fewPs l
end
theorem fewPs_at : ∀ {l : List FT}, fewPs l → ∀ f ∈ l, fewP f
  | g :: l, ⟨h1, h2⟩, f, hf => by
    rcases List.mem_cons.1 hf with rfl | hf
    · exact h1
    · exact fewPs_at h2 f hf
theorem fewPs_mk : ∀ {l : List FT}, (∀ f ∈ l, fewP f) → fewPs l
  | [], _ => trivial
  | g :: l, h => ⟨h g (by simp), fewPs_mk fun f hf => h f (by simp [hf])⟩
theorem few_may : ∀ (d : Nat) (f : FT), mayF d f = true → fewP f
  | 0, _, h => by cases h
  | d + 1, .mk k t v p l, h => by
    have h' : (if holdsC k then t.isEmpty && v.isEmpty && p.isEmpty && kidsC k l.length && l.all (mayF d) else okLeaf k t v p l.length) = true := h
    split at h'
    · simp only [Bool.and_eq_true] at h'
      obtain ⟨⟨⟨_, hp⟩, _⟩, hl⟩ := h'
      have : p = [] := by cases p <;> simp_all
      subst this
      exact ⟨by simp, fewPs_mk fun f hf => few_may d f (List.all_eq_true.1 hl f hf)⟩
    · unfold okLeaf at h'
      simp only [Bool.and_eq_true, decide_eq_true_eq] at h'
      obtain ⟨⟨_, hl⟩, hp⟩ := h'
      have hl0 : l = [] := List.eq_nil_of_length_eq_zero hl
      subst hl0
      refine ⟨?_, trivial⟩
      split at hp
      · simp only [Bool.and_eq_true] at hp
        have : p = [] := by cases p <;> simp_all
        subst this; simp
      · split at hp
        · unfold okParts at hp
          simp only [Bool.and_eq_true, decide_eq_true_eq] at hp
          omega
        · split at hp
          · simp only [Bool.and_eq_true] at hp
            have : p = [] := by cases p <;> simp_all
            subst this; simp
          · cases hp
/-- What has been made since. -/
def SamB (w0 : World) (W : World) : Prop := Below w0.heap.size w0 W
theorem SamB.cell {w0 W W' : World} (h : SamB w0 W) (hb : Below W.heap.size W W') {b o : Nat} {x : Value} (hl : b < w0.heap.size) (hc : w0.cell? ⟨b, o, none⟩ = some x) : W'.cell? ⟨b, o, none⟩ = some x :=
  ((bthen h hb).cell (p := ⟨b, o, none⟩) hl).trans hc
theorem SamB.size {w0 W : World} (h : SamB w0 W) : w0.heap.size ≤ W.heap.size := Below.size h
theorem SamB.cell' {w0 W : World} (h : SamB w0 W) {p : Addr} (hp : p.block < w0.heap.size) : W.cell? p = w0.cell? p := Below.cell h hp
theorem SamB.go {w0 W W' : World} (h : SamB w0 W) (hb : Below W.heap.size W W') : SamB w0 W' := bthen h hb
theorem texts_below (L M : List (List UInt8)) (hs : L.length ≤ 1000000) (v u : Value) (w : World) (hL : IsT w.heap.size w L v) (hM : IsT w.heap.size w M u) :
    Calls Tryd.prog 29 #[v, u] w fun e w' => e = .returned (.bool (L == M)) ∧ Below w.heap.size w w' :=
  (textsRef_q L M hs v u w hL hM).mono (by rintro e w' ⟨rfl, m, rfl⟩; exact ⟨rfl, below_drewN (Below.refl _ _) m⟩)

set_option maxRecDepth 100000 in
set_option maxHeartbeats 8000000 in
theorem sameFl_all : ∀ (n : Nat) (f g : FT) (v u : Value) (w : World), SizeOf.sizeOf f ≤ n → fewP f → IsFl (Lt w) w f v → IsFl (Lt w) w g u →
    Calls Tryd.prog 17 #[v, u] w fun e w' => e = .returned (.bool (sameFT f g)) ∧ Below w.heap.size w w' := by
  intro n
  induction n with
  | zero =>
    intro f g v u w hn
    cases f
    simp at hn
  | succ n ih =>
    intro f g v u w hn hfew hf hg
    obtain ⟨k, t, x, p, l⟩ := f
    obtain ⟨k', t', x', p', l'⟩ := g
    obtain ⟨pa, pc, ka, kc, rfl, hwf, ht, hx, hp, hl, hkids⟩ := hf.parts
    obtain ⟨pa', pc', ka', kc', rfl, hwf', ht', hx', hp', hl', hkids'⟩ := hg.parts
    obtain ⟨T, hT, hTl⟩ := strV_text t
    obtain ⟨X, hX, hXl⟩ := strV_text x
    obtain ⟨T', hT', hTl'⟩ := strV_text t'
    obtain ⟨X', hX', hXl'⟩ := strV_text x'
    obtain ⟨S, hS⟩ : ∃ S, S = sameFT (.mk k t x p l) (.mk k' t' x' p' l') := ⟨_, rfl⟩
    rw [← hS]
    rw [hT, hX, hT', hX']
    obtain ⟨m, hm⟩ : ∃ m, m = l.length := ⟨_, rfl⟩
    obtain ⟨m', hm'⟩ : ∃ m', m' = l'.length := ⟨_, rfl⟩
    have hp2 : IsT w.heap.size w p (.slice pa p.length pc) := hp
    have hp2' : IsT w.heap.size w p' (.slice pa' p'.length pc') := hp'
    obtain ⟨q, hq⟩ : ∃ q, q = p.length := ⟨_, rfl⟩
    obtain ⟨q', hq'⟩ : ∃ q', q' = p'.length := ⟨_, rfl⟩
    rw [← hq] at hp2
    rw [← hq'] at hp2'
    rw [← hm] at hl
    rw [← hm'] at hl'
    rw [← hm, ← hm', ← hq, ← hq']
    unfold maxLen at hl hl'
    obtain ⟨W0, hW0⟩ : ∃ W, W = w.alloc (.cells #[.int .i64 k, .string T, .string X, .slice pa q pc, .slice ka m kc] 25) := ⟨_, rfl⟩
    have hb0 : Below w.heap.size w W0 := by rw [hW0]; exact box5 w _ _ _ _ _
    have hs0 : W0.heap.size = w.heap.size + 1 := by rw [hW0]; simp
    have hx0 : FlAt W0 w.heap.size (.int .i64 k) (.string T) (.string X) (.slice pa q pc) (.slice ka m kc) := by rw [hW0]; exact heap_alloc_new w _
    obtain ⟨W1, hW1⟩ : ∃ W, W = W0.alloc (.cells #[.int .i64 k', .string T', .string X', .slice pa' q' pc', .slice ka' m' kc'] 25) := ⟨_, rfl⟩
    have hb1 : Below W0.heap.size W0 W1 := by rw [hW1]; exact box5 W0 _ _ _ _ _
    have hs1 : W1.heap.size = w.heap.size + 2 := by rw [hW1]; simp [hs0]
    have hx1 : FlAt W1 (w.heap.size + 1) (.int .i64 k') (.string T') (.string X') (.slice pa' q' pc') (.slice ka' m' kc') := by rw [hW1, ← hs0]; exact heap_alloc_new W0 _
    have hx2 : FlAt W1 w.heap.size (.int .i64 k) (.string T) (.string X) (.slice pa q pc) (.slice ka m kc) := fl_below hx0 hb1 (by omega)
    have hb2 : Below w.heap.size w W1 := bthen hb0 hb1
    obtain ⟨a0, a1, a2, a3, a4⟩ := fl_cells hx2
    obtain ⟨c0, c1, c2, c3, c4⟩ := fl_cells hx1
    have hW : (w.alloc (.cells #[.int .i64 k, .string T, .string X, .slice pa q pc, .slice ka m kc] 25)).alloc (.cells #[.int .i64 k', .string T', .string X', .slice pa' q' pc', .slice ka' m' kc'] 25) = W1 := by rw [hW1, hW0]
    have HW := Lib.hid hW
    have HB := Lib.hid hb2
    have HS1 := Lib.hid hs1
    have HX2 := Lib.hid hx2
    have HX1 := Lib.hid hx1
    have HS := Lib.hid hS
    have HM := Lib.hid hm
    have HM' := Lib.hid hm'
    have hz : w.heap.size < w.heap.size + 1 := by omega
    have htx := texts_below p p' hfew.1 _ _ W1 (hp2.below hb2 hb2.size) (hp2'.below hb2 hb2.size)
    have HTx := Lib.hid htx
    have HKids := Lib.hid hkids
    have HKids' := Lib.hid hkids'
    have HFew := Lib.hid hfew
    have HI := Lib.hid ih
    have HN := Lib.hid hn
    have HP : Hid (k = k' ∧ T = T' ∧ X = X' ∧ p = p' ∧ l = l' ↔ FT.mk k t x p l = FT.mk k' t' x' p' l') := Lib.hid (by
      constructor
      · rintro ⟨rfl, rfl, rfl, rfl, rfl⟩
        rw [← hTl, ← hXl, ← hTl', ← hXl']
      · intro e
        cases e
        exact ⟨rfl, bytes_ext (by rw [hTl, hTl']), bytes_ext (by rw [hXl, hXl']), rfl, rfl⟩)
    clear hW0 hW1 hW hx0 hx1 hx2 hb0 hb1 hb2 hs0 hs1 hS hT hX hT' hX' hTl hXl hTl' hXl' hp hp' hp2 hp2' hm hm' hq hq' ht hx ht' hx' hf hg hwf hwf' htx hkids hkids' hfew ih hn
    by_cases hk : k = k'
    · subst hk
      have t1 : (k != k) = false := by simp
      by_cases hT : T = T'
      · subst hT
        by_cases hX : X = X'
        · subst hX
          by_cases hpp : p = p'
          · have e3 : (p == p') = true := by simpa using hpp
            rw [e3] at HTx
            by_cases hll : m = m'
            · subst hll
              have t4 : ((m : Int) != (m : Int)) = false := by simp
              go_enter Tryd.func17, Tryd.ntmps17
              go_upto_region 1 with (fail)
              rw [HW.out]
              go_wp2_with (go_at_call 29; refine (HTx.out).mono ?_; rintro e w2 ⟨rfl, hb2⟩; have d4 := (hb2.cell (p := ⟨w.heap.size, 4, none⟩) (by have := HS1.out; show w.heap.size < _; omega)).trans a4; have f4 := (hb2.cell (p := ⟨w.heap.size + 1, 4, none⟩) (by have := HS1.out; show w.heap.size + 1 < _; omega)).trans c4; have HB2 := Lib.hid hb2; clear hb2)
              have hxa := fl_below HX2.out HB2.out (by have := HS1.out; omega)
              have hxb := fl_below HX1.out HB2.out (by have := HS1.out; omega)
              have HB3 := Lib.hid (bthen HB.out HB2.out)
              have HXa := Lib.hid hxa
              have HXb := Lib.hid hxb
              have HP4 := Lib.hid hpp
              clear a0 a1 a2 a3 a4 c0 c1 c2 c3 c4 d4 f4 hxa hxb hpp t1 t4 e3
              go_loopw [5] (fun i wr => ∃ j : Nat, j ≤ m ∧ i = .int .i64 j ∧ Hid (∀ k (h1 : k < l.length) (h2 : k < l'.length), k < j → l[k] = l'[k]) ∧ Hid (FlAt wr w.heap.size (.int .i64 k) (.string T) (.string X) (.slice pa q pc) (.slice ka m kc)) ∧ Hid (FlAt wr (w.heap.size + 1) (.int .i64 k) (.string T) (.string X) (.slice pa' q' pc') (.slice ka' m kc')) ∧ Below w.heap.size w wr) (fun i _ => m - (intOf i).toNat)
              case atStart => exact ⟨0, by omega, rfl, Lib.hid (fun k h1 h2 h => absurd h (Nat.not_lt_zero _)), HXa, HXb, HB3.out⟩
              case round =>
                obtain ⟨j, hj, rfl, HAll, HXa, HXb, hbel⟩ := hrel
                rename World => wo
                have HBr := Lib.hid hbel
                obtain ⟨_, _, _, _, x4⟩ := fl_cells HXa.out
                obtain ⟨_, _, _, _, y4⟩ := fl_cells HXb.out
                have hlx := fl_lt HXa.out
                have hly := fl_lt HXb.out
                have HLx : Hid (w.heap.size < wo.heap.size) := Lib.hid hlx
                have HLy : Hid (w.heap.size + 1 < wo.heap.size) := Lib.hid hly
                clear hlx hly
                by_cases hlt : j < m
                · have hjl : j < l.length := by rw [← HM.out]; exact hlt
                  have hjl' : j < l'.length := by rw [← HM'.out]; exact hlt
                  have hfw : fewP l[j] := fewPs_at HFew.out.2 _ (List.getElem_mem hjl)
                  have hsz : SizeOf.sizeOf l[j] ≤ n := by
                    have h1 := List.sizeOf_lt_of_mem (List.getElem_mem hjl)
                    have h2 := HN.out
                    simp only [FT.mk.sizeOf_spec] at h2
                    omega
                  obtain ⟨b, off, v0, v1, v2, v3, v4, rfl, hb, g0, g1, g2, g3, g4, hf⟩ := HKids.out.get l _ 0 j l[j] (List.getElem?_eq_getElem hjl)
                  obtain ⟨b', off', u0, u1, u2, u3, u4, rfl, hb', p0, p1, p2, p3, p4, hg⟩ := HKids'.out.get l' _ 0 j l'[j] (List.getElem?_eq_getElem hjl')
                  rw [Nat.zero_add] at g0 g1 g2 g3 g4 p0 p1 p2 p3 p4
                  have hcw : ∀ o, wo.cell? ⟨b, o, none⟩ = w.cell? ⟨b, o, none⟩ := fun o => hbel.cell (p := ⟨b, o, none⟩) hb
                  have hcw' : ∀ o, wo.cell? ⟨b', o, none⟩ = w.cell? ⟨b', o, none⟩ := fun o => hbel.cell (p := ⟨b', o, none⟩) hb'
                  rw [← hcw] at g0 g1 g2 g3 g4
                  rw [← hcw'] at p0 p1 p2 p3 p4
                  have hbo : b < wo.heap.size := Nat.lt_of_lt_of_le hb hbel.size
                  have hbo' : b' < wo.heap.size := Nat.lt_of_lt_of_le hb' hbel.size
                  have hf2 : IsFl (Lt wo) wo l[j] (.agg #[v0, v1, v2, v3, v4]) := hf.imp (fun b h => Nat.lt_of_lt_of_le h hbel.size) (fun b o h => hbel.cell (p := ⟨b, o, none⟩) h)
                  have hg2 : IsFl (Lt wo) wo l'[j] (.agg #[u0, u1, u2, u3, u4]) := hg.imp (fun b h => Nat.lt_of_lt_of_le h hbel.size) (fun b o h => hbel.cell (p := ⟨b, o, none⟩) h)
                  obtain ⟨fk, fT, fX, fpa, fpn, fpc, fka, fkn, fkc, e⟩ := hf2.shape
                  simp only [Value.agg.injEq, Array.mk.injEq, List.cons.injEq, and_true] at e
                  obtain ⟨rfl, rfl, rfl, rfl, rfl⟩ := e
                  obtain ⟨ek, eT, eX, epa, epn, epc, eka, ekn, ekc, e⟩ := hg2.shape
                  simp only [Value.agg.injEq, Array.mk.injEq, List.cons.injEq, and_true] at e
                  obtain ⟨rfl, rfl, rfl, rfl, rfl⟩ := e
                  have hca := fun W (hW : SamB wo W) => HI.out l[j] l'[j] _ _ W hsz hfw (hf2.imp (fun b h => Nat.lt_of_lt_of_le h hW.size) (fun b o h => hW.cell' (p := ⟨b, o, none⟩) h)) (hg2.imp (fun b h => Nat.lt_of_lt_of_le h hW.size) (fun b o h => hW.cell' (p := ⟨b, o, none⟩) h))
                  have ti0 : (0 : Int) ≤ (j : Int) := by omega
                  have ti1 : (j : Int) < (m : Int) := by omega
                  have hst := And.intro x4 (And.intro y4 (And.intro g0 (And.intro g1 (And.intro g2 (And.intro g3 (And.intro g4 (And.intro p0 (And.intro p1 (And.intro p2 (And.intro p3 (And.intro p4 (show SamB wo wo from Below.refl _ _))))))))))))
                  have hkp := fun W W' (hW : SamB wo W) (hW' : Below W.heap.size W W') => And.intro (hW.cell hW' HLx.out x4) (And.intro (hW.cell hW' HLy.out y4) (And.intro (hW.cell hW' hbo g0) (And.intro (hW.cell hW' hbo g1) (And.intro (hW.cell hW' hbo g2) (And.intro (hW.cell hW' hbo g3) (And.intro (hW.cell hW' hbo g4) (And.intro (hW.cell hW' hbo' p0) (And.intro (hW.cell hW' hbo' p1) (And.intro (hW.cell hW' hbo' p2) (And.intro (hW.cell hW' hbo' p3) (And.intro (hW.cell hW' hbo' p4) (hW.go hW'))))))))))))
                  have HK := Lib.hid hkp
                  obtain ⟨r, hr⟩ : ∃ r, r = sameFT l[j] l'[j] := ⟨_, rfl⟩
                  rw [← hr] at hca
                  have HCa := Lib.hid hca
                  have hsd := HK.out wo wo.drew (Below.refl _ _) (Below.refl _ _).drew
                  clear hca hkp hf hf2 hg hg2 hcw hcw' hbel hfw hsz hb hb' hbo hbo' x4 y4 g0 g1 g2 g3 g4 p0 p1 p2 p3 p4
                  cases r with
                  | false =>
                    have HF : Hid (S = false) := Lib.hid (HS.out.trans (sameFT_neg fun e => by
                      have h5 := (HP.out.2 e).2.2.2.2
                      have : l[j] = l'[j] := by simp only [h5]
                      rw [sameFT_pos this] at hr
                      cases hr))
                    clear hr hjl hjl'
                    go_wp2
                    go_region_held3 (fun w' => w'.cell? ⟨w.heap.size, 4, none⟩ = some (.slice (some ⟨b, off, none⟩) m kc) ∧ w'.cell? ⟨w.heap.size + 1, 4, none⟩ = some (.slice (some ⟨b', off', none⟩) m kc') ∧ w'.cell? ⟨b, off + j * 5, none⟩ = some (.int .i64 fk) ∧ w'.cell? ⟨b, off + j * 5 + 1, none⟩ = some (.string fT) ∧ w'.cell? ⟨b, off + j * 5 + 2, none⟩ = some (.string fX) ∧ w'.cell? ⟨b, off + j * 5 + 3, none⟩ = some (.slice fpa fpn fpc) ∧ w'.cell? ⟨b, off + j * 5 + 4, none⟩ = some (.slice fka fkn fkc) ∧ w'.cell? ⟨b', off' + j * 5, none⟩ = some (.int .i64 ek) ∧ w'.cell? ⟨b', off' + j * 5 + 1, none⟩ = some (.string eT) ∧ w'.cell? ⟨b', off' + j * 5 + 2, none⟩ = some (.string eX) ∧ w'.cell? ⟨b', off' + j * 5 + 3, none⟩ = some (.slice epa epn epc) ∧ w'.cell? ⟨b', off' + j * 5 + 4, none⟩ = some (.slice eka ekn ekc) ∧ SamB wo w')
                      (first | (with_reducible exact hst) | (with_reducible exact hsd) | (go_split_ands; exact HK.out _ _ (by assumption) hb5) | (go_split_ands; exact HK.out _ _ (by assumption) (Below.refl _ _).drew) | (go_split_ands; exact HK.out _ _ (by assumption) (Below.refl _ _)))
                      (first | (go_at_call 17; go_split_ands; ((with_reducible refine (HCa.out _ (by assumption)).mono ?_); rintro e w5 ⟨rfl, hb5⟩)))
                    go_split_ands
                    have hT : SamB wo w5 := by assumption
                    have HT := Lib.hid hT
                    clear hT
                    go_wp2
                    go_ret
                    exact ⟨by rw [HF.out]; rfl, HBr.out.trans (Below.mono HT.out HBr.out.size)⟩
                  | true =>
                    have HAll2 : Hid (∀ k (h1 : k < l.length) (h2 : k < l'.length), k < j + 1 → l[k] = l'[k]) := Lib.hid (fun k h1 h2 h3 => by
                      by_cases hk : k < j
                      · exact HAll.out k h1 h2 hk
                      · obtain rfl : k = j := by omega
                        exact Classical.byContradiction fun hn => by rw [sameFT_neg hn] at hr; cases hr)
                    clear hr hjl hjl'
                    go_wp2
                    go_region_held3 (fun w' => w'.cell? ⟨w.heap.size, 4, none⟩ = some (.slice (some ⟨b, off, none⟩) m kc) ∧ w'.cell? ⟨w.heap.size + 1, 4, none⟩ = some (.slice (some ⟨b', off', none⟩) m kc') ∧ w'.cell? ⟨b, off + j * 5, none⟩ = some (.int .i64 fk) ∧ w'.cell? ⟨b, off + j * 5 + 1, none⟩ = some (.string fT) ∧ w'.cell? ⟨b, off + j * 5 + 2, none⟩ = some (.string fX) ∧ w'.cell? ⟨b, off + j * 5 + 3, none⟩ = some (.slice fpa fpn fpc) ∧ w'.cell? ⟨b, off + j * 5 + 4, none⟩ = some (.slice fka fkn fkc) ∧ w'.cell? ⟨b', off' + j * 5, none⟩ = some (.int .i64 ek) ∧ w'.cell? ⟨b', off' + j * 5 + 1, none⟩ = some (.string eT) ∧ w'.cell? ⟨b', off' + j * 5 + 2, none⟩ = some (.string eX) ∧ w'.cell? ⟨b', off' + j * 5 + 3, none⟩ = some (.slice epa epn epc) ∧ w'.cell? ⟨b', off' + j * 5 + 4, none⟩ = some (.slice eka ekn ekc) ∧ SamB wo w')
                      (first | (with_reducible exact hst) | (with_reducible exact hsd) | (go_split_ands; exact HK.out _ _ (by assumption) hb5) | (go_split_ands; exact HK.out _ _ (by assumption) (Below.refl _ _).drew) | (go_split_ands; exact HK.out _ _ (by assumption) (Below.refl _ _)))
                      (first | (go_at_call 17; go_split_ands; ((with_reducible refine (HCa.out _ (by assumption)).mono ?_); rintro e w5 ⟨rfl, hb5⟩)))
                    go_split_ands
                    have hT : SamB wo w5 := by assumption
                    have HT := Lib.hid hT
                    clear hT
                    have HXa2 := Lib.hid (fl_below HXa.out HT.out HLx.out)
                    have HXb2 := Lib.hid (fl_below HXb.out HT.out HLy.out)
                    go_wp2
                    go_roundw
                    case rel => exact ⟨j + 1, by omega, by go_num, HAll2, HXa2, HXb2, HBr.out.trans (Below.mono HT.out HBr.out.size)⟩
                    case measure => simp [intOf]; omega
                · obtain rfl : j = m := by omega
                  have t9 : decide ((j : Int) < (j : Int)) = false := by simp
                  have t9' : decide (j < j) = false := by simp
                  have HF : Hid (S = true) := Lib.hid (HS.out.trans (sameFT_pos (HP.out.1 ⟨by trivial, by trivial, by trivial, HP4.out, List.ext_getElem (by rw [← HM.out, ← HM'.out]) fun k h1 h2 => HAll.out k h1 h2 (by rw [HM.out]; exact h1)⟩)))
                  clear hbel
                  go_wp2
                  go_ret
                  exact ⟨by rw [HF.out]; rfl, HBr.out⟩
            · have t4 : ((m : Int) != (m' : Int)) = true := by simp; omega
              have HF : Hid (S = false) := Lib.hid (HS.out.trans (sameFT_neg fun e => by
                have := (HP.out.2 e).2.2.2.2
                exact hll (by rw [HM.out, HM'.out, this])))
              clear hll
              go_enter Tryd.func17, Tryd.ntmps17
              go_upto_region 1 with (fail)
              rw [HW.out]
              go_wp2_with (go_at_call 29; refine (HTx.out).mono ?_; rintro e w2 ⟨rfl, hb2⟩; have d4 := (hb2.cell (p := ⟨w.heap.size, 4, none⟩) (by have := HS1.out; show w.heap.size < _; omega)).trans a4; have f4 := (hb2.cell (p := ⟨w.heap.size + 1, 4, none⟩) (by have := HS1.out; show w.heap.size + 1 < _; omega)).trans c4; have HB2 := Lib.hid hb2; clear hb2)
              go_ret
              exact ⟨by rw [HF.out]; rfl, bthen HB.out HB2.out⟩
          · have e3 : (p == p') = false := by simpa using hpp
            rw [e3] at HTx
            have HF : Hid (S = false) := Lib.hid (HS.out.trans (sameFT_neg fun e => hpp (HP.out.2 e).2.2.2.1))
            clear hpp
            go_enter Tryd.func17, Tryd.ntmps17
            go_upto_region 1 with (fail)
            rw [HW.out]
            go_wp2_with (go_at_call 29; refine (HTx.out).mono ?_; rintro e w2 ⟨rfl, hb2⟩; have HB2 := Lib.hid hb2; clear hb2)
            go_ret
            exact ⟨by rw [HF.out]; rfl, bthen HB.out HB2.out⟩
        · have t3 := str_ne hX
          have HF : Hid (S = false) := Lib.hid (HS.out.trans (sameFT_neg fun e => hX (HP.out.2 e).2.2.1))
          clear hX
          go_enter Tryd.func17, Tryd.ntmps17
          go_upto_region 1 with (fail)
          rw [HW.out]
          go_wp2
          go_ret
          exact ⟨by rw [HF.out]; rfl, HB.out⟩
      · have t2 := str_ne hT
        have HF : Hid (S = false) := Lib.hid (HS.out.trans (sameFT_neg fun e => hT (HP.out.2 e).2.1))
        clear hT
        go_enter Tryd.func17, Tryd.ntmps17
        go_upto_region 1 with (fail)
        rw [HW.out]
        go_wp2
        go_ret
        exact ⟨by rw [HF.out]; rfl, HB.out⟩
    · have t1 : (k != k') = true := by simpa using hk
      have HF : Hid (S = false) := Lib.hid (HS.out.trans (sameFT_neg fun e => hk (HP.out.2 e).1))
      clear hk
      go_enter Tryd.func17, Tryd.ntmps17
      go_upto_region 1 with (fail)
      rw [HW.out]
      go_wp2
      go_ret
      exact ⟨by rw [HF.out]; rfl, HB.out⟩
end Go.Proofs.YtdcfmgnpjmpboaaDoor
