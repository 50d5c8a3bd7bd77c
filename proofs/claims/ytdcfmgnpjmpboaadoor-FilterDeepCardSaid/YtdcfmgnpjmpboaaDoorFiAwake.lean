/- brooklaw6.awake: the walk. -/
import Derived.Test.YtdcfmgnpjmpboaaDoorFiParse
import Derived.Test.YtdcfmgnpjmpboaaDoorFiTextW
namespace Go.Proofs.YtdcfmgnpjmpboaaDoor
open Go.RowKit
set_option linter.unusedVariables false
set_option linter.unusedSimpArgs false

def sAw : ByteArray := ⟨#[40, 38, 40, 99, 110, 61, 97, 42, 41, 40, 33, 40, 115, 110, 62, 61, 98, 41, 41, 41]⟩
def fAw : FT := .mk 1 [] [] [] [.mk 5 [99, 110] [] [[97], []] [], .mk 3 [] [] [] [.mk 6 [115, 110] [98] [] []]]
theorem parse_aw : parseF sAw.data.toList = some fAw := by kernel_rfl
theorem text_aw : ofL (textTop (.mk 8 [99, 110] [] [] [])) = ⟨#[40, 99, 110, 61, 42, 41]⟩ := by kernel_rfl
set_option maxRecDepth 100000 in
set_option maxHeartbeats 8000000 in
theorem awakeFl_any (w : World) : Calls Tryd.prog 9 #[] w fun e w' => e = .returned (.bool true) ∧ Below w.heap.size w w' := by
  have hp := fun W => parseFl_any sAw (by decide) (by unfold ascii; decide) W
  rw [parse_aw] at hp
  unfold sAw at hp
  have HP := Lib.hid hp
  clear hp
  go_enter Tryd.func9, Tryd.ntmps9
  go_upto_region 2 with (go_at_call 10; refine (HP.out _).mono ?_; rintro e w2 ⟨x, b, rfl, ⟨hfl, rfl⟩, hb2⟩; (obtain ⟨kk, T, X, pa, pn, pc, ka, kn, kc, e⟩ := hfl.shape); subst e; have HFl := Lib.hid hfl; have HB2 := Lib.hid hb2; clear hb2 hfl)
  obtain ⟨W3, hW3⟩ : ∃ W, W = w2.alloc (.cells #[.int .i64 kk, .string T, .string X, .slice pa pn pc, .slice ka kn kc] 25) := ⟨_, rfl⟩
  rw [← hW3]
  have h23 : Below w2.heap.size w2 W3 := by rw [hW3]; exact box5 w2 _ _ _ _ _
  have hx3 : FlAt W3 w2.heap.size (.int .i64 kk) (.string T) (.string X) (.slice pa pn pc) (.slice ka kn kc) := by rw [hW3]; exact heap_alloc_new w2 _
  obtain ⟨pv, a, cap, hag, _, _, _, _, _, hk⟩ := HFl.out
  simp only [Value.agg.injEq, Array.mk.injEq, List.cons.injEq, and_true] at hag
  obtain ⟨_, _, _, _, hk4⟩ := hag
  obtain ⟨⟨b, off, v0, v1, v2, v3, v4, ha, hok, hc0, hc1, hc2, hc3, hc4, hf0⟩, _⟩ := hk
  obtain ⟨pv0, a0, cap0, hag0, _⟩ := hf0
  simp only [Value.agg.injEq, Array.mk.injEq, List.cons.injEq, and_true] at hag0
  obtain ⟨hv0, _⟩ := hag0
  subst hv0
  rw [ha] at hk4
  rw [hk4] at hx3 ⊢
  have hc : w2.cell? ⟨b, off, none⟩ = some (.int .i64 5) := by simpa using hc0
  have hl2 : ([FT.mk 5 [99, 110] [] [[97], []] [], .mk 3 [] [] [] [.mk 6 [115, 110] [98] [] []]] : List FT).length = 2 := rfl
  rw [hl2] at hx3 ⊢
  have h8 : IsFl (Lt W3) W3 (.mk 8 [99, 110] [] [] []) (.agg #[.int .i64 8, .string ⟨#[99, 110]⟩, .string ⟨#[]⟩, .slice none 0 0, .slice none 0 0]) :=
    mkFl (t := [99, 110]) (x := []) (u := .slice none 0 0) (by decide) (by decide) (by decide) ⟨none, 0, rfl, Nat.zero_le _, fun j h => absurd h (Nat.not_lt_zero _)⟩
  have htx := textTop_any _ _ W3 h8 (fun _ => by decide)
  rw [text_aw] at htx
  have HTx := Lib.hid htx
  have HX3 := Lib.hid hx3
  have HC := Lib.hid hc
  have HOk := Lib.hid hok
  have H23 := Lib.hid h23
  clear hW3 h23 hx3 hk4 ha hok hc0 hc1 hc2 hc3 hc4 hc hl2 h8 htx
  go_wp2_with (go_at_call 14; refine (HTx.out).mono ?_; rintro e w4 ⟨rfl, hb4⟩; have HB4 := Lib.hid hb4; have hx4 := fl_below HX3.out hb4 (fl_lt HX3.out); (obtain ⟨d0, d1, d2, d3, d4⟩ := fl_cells hx4); have hc4 : w4.cell? ⟨b, off, none⟩ = some (.int .i64 5) := (hb4.cell (p := ⟨b, off, none⟩) (Nat.lt_of_lt_of_le HOk.out.2 H23.out.size)).trans ((H23.out.cell (p := ⟨b, off, none⟩) HOk.out.2).trans HC.out); clear hb4 hx4)
  go_ret
  exact ⟨rfl, bthen (bthen HB2.out H23.out) HB4.out⟩
end Go.Proofs.YtdcfmgnpjmpboaaDoor
