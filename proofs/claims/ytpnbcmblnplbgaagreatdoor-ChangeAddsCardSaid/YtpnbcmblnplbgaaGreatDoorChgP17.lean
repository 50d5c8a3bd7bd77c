/- Several texts in one file: TrPutsL, ChAwk. -/
import Derived.Test.YtpnbcmblnplbgaaGreatDoorChgP16
import Derived.Test.YtpnbcmblnplbgaaGreatDoorChgP7
import Derived.Test.YtpnbcmblnplbgaaGreatDoorChgP14
import Derived.Test.YtpnbcmblnplbgaaGreatDoorChgP15
namespace Go.Proofs.YtpnbcmblnplbgaaGreatDoor
open Go.RowKit
set_option linter.unusedVariables false
set_option linter.unusedSimpArgs false

abbrev Ents (L : List ET) : Prop := ∀ e ∈ L, ∃ i x, i < 256 ∧ x < 256 ∧ e = entE i x
structure TpAt (w W : World) (p : Nat) (D : ByteArray) (u : Value) (E : List AT) (L : List ET) (v : Value) : Prop where
  box : BoxN W p D u
  ent : IsA W.heap.size W E u
  tree : IsE W.heap.size W L v
  bel : Below w.heap.size w W
theorem TpAt.go {w W W' : World} {p : Nat} {D : ByteArray} {u v : Value} {E : List AT} {L : List ET} (h : TpAt w W p D u E L v) (hb : Below W.heap.size W W') : TpAt w W' p D u E L v :=
  ⟨h.box.below hb (Array.getElem?_eq_some_iff.1 h.box).1, h.ent.below hb hb.size, h.tree.below hb hb.size, bthen h.bel hb⟩
structure PutsD (L : List ET) (i x : Nat) (A B : List ET) : Prop where
  cut : CutE L A B (kE (entE i x))
  ents : Ents L
  len : L.length ≤ 40
  stands : standsK (keysE L) = true
end Go.Proofs.YtpnbcmblnplbgaaGreatDoor


namespace Go.Proofs.YtpnbcmblnplbgaaGreatDoor
open Go.RowKit
set_option linter.unusedVariables false
set_option linter.unusedSimpArgs false

theorem chAddEnt_any {L : List ET} (hL : Ents L) (hl : L.length < 200) {i x : Nat} (hi : i < 256) (hx : x < 256) (v : Value) (D : ByteArray) (hD : D.data.toList = (entE i x).1) (u : Value) (w : World) (hw : LaidW w) (hlf : LaidF w) (h : IsE w.heap.size w L v) (hu : IsA w.heap.size w (entE i x).2 u) :
    Calls Tryz.prog 9 #[v, .agg #[.string D, u]] w fun e w' => ∃ d' v', e = .returned (.tuple #[deltaV ⟨#[]⟩ d' v', .int .i64 (addC (keysE L) (kE (entE i x)))]) ∧ (addC (keysE L) (kE (entE i x)) = 0 → d'.data.toList = (entE i x).1 ∧ IsA w'.heap.size w' (entE i x).2 v') ∧ (addC (keysE L) (kE (entE i x)) ≠ 0 → d' = ⟨#[]⟩ ∧ v' = .slice none 0 0) ∧ Below w.heap.size w w' := by
  have h1 := ent_small i x hi hx
  have he : (D.data.toList, (entE i x).2) = entE i x := by rw [hD]
  have hn : normE (entE i x) = entE i x := by
    have := ent_norm i x
    unfold isNE at this
    simpa using this
  have hn1 : nameN (entE i x).1 = (entE i x).1 := congrArg Prod.fst hn
  have hn2 : sortA (normL (entE i x).2) = (entE i x).2 := congrArg Prod.snd hn
  have := chAdd_any L (ents_fine hL (by omega)).1 hl v D (by rw [← bytes_len, hD]; exact h1.1) (entE i x).2 h1.2.1.1 h1.2.2 (by rw [hD]; exact ent_check i x hi hx) (by rw [he]; exact ent_keyne i x) u w hw hlf h hu
  rw [he, hD, hn1, hn2] at this
  refine this.mono fun e w' hh => ?_
  obtain ⟨d', v', e1, e2, e3, e4⟩ := hh
  exact ⟨d', v', e1, fun h0 => ⟨(e2 h0).1, ownA_isA (e2 h0).2 (by have := h1.2.2; unfold maxLen; omega)⟩, e3, e4⟩
theorem awk9_add : addC (keysE []) (kE (entE 0 1)) = 0 := by
  have : upD (kE (entE 0 1)) = [] := by rw [ent_key]; decide
  unfold addC
  rw [this]
  simp [keysE, idxK]
theorem awk9_name : (entE 0 1).1 = [111, 61, 120] := by rw [ent_eq]; decide
theorem awk9_leaf : (leafC (keysE []) (keyB (keyD [111, 61, 120])).data.toList).2 = 32 := by kernel_rfl
set_option maxRecDepth 100000 in
set_option maxHeartbeats 4000000 in
theorem awake9_any (w : World) (hw : LaidW w) (hlf : LaidF w) : Calls Tryz.prog 10 #[] w fun e w' => e = .returned (.bool true) ∧ Below w.heap.size w w' := by
  have HDl : Hid (∀ W, Calls Tryz.prog 12 #[.slice none 0 0, .string ⟨#[111, 61, 120]⟩] W fun e w' => ∃ g, e = .returned (.tuple #[deltaV g ⟨#[]⟩ (.slice none 0 0), .int .i64 32]) ∧ Below W.heap.size W w') := Lib.hid (fun W => by
    have := chDel_any [] ⟨by simp, by simp⟩ (by simp) (.slice none 0 0) ⟨#[111, 61, 120]⟩ (by decide) W (isE_nil _ _ _ _)
    refine this.mono fun e w' hh => ?_
    obtain ⟨g, e1, _, _, e4⟩ := hh
    rw [show (leafC (keysE []) (keyB (keyD (⟨#[111, 61, 120]⟩ : ByteArray).data.toList)).data.toList).2 = 32 from awk9_leaf] at e1
    exact ⟨g, e1, e4⟩)
  have HEn := Lib.hid (fun W => entry8_any 0 1 (by decide) (by decide) W)
  have HAd : Hid (∀ (D : ByteArray) (u : Value) (W : World), D.data.toList = (entE 0 1).1 → Below w.heap.size w W → IsA W.heap.size W (entE 0 1).2 u → Calls Tryz.prog 9 #[.slice none 0 0, .agg #[.string D, u]] W fun e w' => ∃ a n c, e = .returned (.tuple #[deltaV ⟨#[]⟩ ⟨#[111, 61, 120]⟩ (.slice a n c), .int .i64 0]) ∧ Below W.heap.size W w') := Lib.hid (fun D u W hD hb hu => by
    have := chAddEnt_any (L := []) (by simp) (by simp) (i := 0) (x := 1) (by decide) (by decide) (.slice none 0 0) D hD u W (hw.below hb) (hlf.below hb) (isE_nil _ _ _ _) hu
    refine this.mono fun e w' hh => ?_
    obtain ⟨d', v', e1, e2, _, e4⟩ := hh
    obtain ⟨f1, f2⟩ := e2 awk9_add
    rw [awk9_add] at e1
    rw [awk9_name] at f1
    obtain ⟨a, n, c, rfl⟩ := f2.sl
    refine ⟨a, n, c, ?_, e4⟩
    rw [e1, show d' = ⟨#[111, 61, 120]⟩ from ByteArray.ext (Array.toList_inj.1 f1)])
  clear hw hlf
  go_enter Tryz.func10, Tryz.ntmps10
  go_upto_region 2 with (first
    | (go_at_call 12; refine (HDl.out _).mono ?_; rintro e w2 ⟨g2, rfl, hb2⟩; have HB2 := Lib.hid hb2; clear hb2))
  obtain ⟨W2, hW2⟩ : ∃ W, W = w2.alloc (.cells #[.int .i64 0, .int .i64 0, .string g2, .string ⟨#[]⟩, .slice none 0 0] 35) := ⟨_, rfl⟩
  have hb2' : Below w.heap.size w W2 := by rw [hW2]; exact HB2.out.alloc HB2.out.size _
  have HB2' := Lib.hid hb2'
  rw [← hW2]
  clear hW2 hb2'
  go_wp2_with (first
    | (go_at_call 5; refine (HEn.out _).mono ?_; rintro e w3 ⟨D3, v3, rfl, hD3, hu3, hb3⟩; have HB3 := Lib.hid (bthen HB2'.out hb3); (obtain ⟨ua, un, uc, rfl⟩ := hu3.sl); have HD3 := Lib.hid hD3; have HU3 := Lib.hid hu3; clear hb3 hD3 hu3)
    | (go_at_call 9; refine (HAd.out _ _ _ HD3.out HB3.out HU3.out).mono ?_; rintro e w4 ⟨ga, gn, gc, rfl, hb4⟩; have HB4 := Lib.hid (bthen HB3.out hb4); clear hb4))
  go_ret
  exact ⟨rfl, HB4.out.alloc HB4.out.size _⟩
end Go.Proofs.YtpnbcmblnplbgaaGreatDoor

