/- Which number of a change a text says: the walk of csn.Read. The world must hold strconv's two errors, its table of powers of ten, and some number in bytealg's MaxLen. -/
import Derived.Test.YtppljlegkdjhpaaDoorCsText
namespace Go.Proofs.YtppljlegkdjhpaaDoor
open Go.RowKit
set_option linter.unusedVariables false
set_option linter.unusedSimpArgs false

def readO (s : List UInt8) : Option (Int × Int) :=
  if mayN (numA (Lib.cut s [46]).1) (numA (Lib.cut s [46]).2.1) = true ∧ textC (numA (Lib.cut s [46]).1) (numA (Lib.cut s [46]).2.1) = s then some (numA (Lib.cut s [46]).1, numA (Lib.cut s [46]).2.1) else none
theorem readO_text {e n : Int} (h : mayN e n = true) : readO (textC e n) = some (e, n) := by
  obtain ⟨⟨h1, h2⟩, h3, h4⟩ := (mayN_iff e n).1 h
  unfold readO
  rw [cut_textC]
  simp only []
  rw [numA_itoa h1 h2, numA_itoa h3 h4, if_pos ⟨h, rfl⟩]
theorem readO_some {s : List UInt8} {e n : Int} (h : readO s = some (e, n)) : mayN e n = true ∧ s = textC e n := by
  unfold readO at h
  split at h
  · rename_i hc
    simp only [Option.some.injEq, Prod.mk.injEq] at h
    rw [h.1, h.2] at hc
    exact ⟨hc.1, hc.2.symm⟩
  · cases h
theorem readO_none {s : List UInt8} (h : ∀ e n, mayN e n = true → s ≠ textC e n) : readO s = none := by
  cases hr : readO s with
  | none => rfl
  | some p =>
    obtain ⟨h1, h2⟩ := readO_some (e := p.1) (n := p.2) hr
    exact absurd h2 (h _ _ h1)

def LaidV (w : World) : Prop := (∃ tp p, w.var? Tryd.prog "strconv.ErrSyntax" = some #[.iface tp p]) ∧ (∃ tp p, w.var? Tryd.prog "strconv.ErrRange" = some #[.iface tp p]) ∧ LaidT w
theorem LaidV.below {w w' : World} (h : LaidV w) (hb : Below w.heap.size w w') : LaidV w' := by
  obtain ⟨⟨t1, p1, h1⟩, ⟨t2, p2, h2⟩, h3⟩ := h
  exact ⟨⟨t1, p1, Joins.var_stays (g := 1) (by kernel_rfl) h1 hb (Nat.le_refl _)⟩, ⟨t2, p2, Joins.var_stays (g := 2) (by kernel_rfl) h2 hb (Nat.le_refl _)⟩, h3.below hb⟩
def LaidM (w : World) : Prop := ∃ m : Int, w.cell? ⟨0, 0, none⟩ = some (.int .i64 m)
theorem LaidM.below {w w' : World} (h : LaidM w) (hb : Below w.heap.size w w') : LaidM w' := by
  obtain ⟨m, h⟩ := h
  refine ⟨m, (hb.cell (p := ⟨0, 0, none⟩) ?_).trans h⟩
  show 0 < w.heap.size
  rcases Nat.lt_or_ge 0 w.heap.size with hn | hn
  · exact hn
  · have hx : w.heap[0]? = none := Array.getElem?_eq_none hn
    simp only [World.cell?, hx] at h
    cases h
theorem atoiV_any (s : ByteArray) (hs : s.size ≤ 1000000) (w : World) (hw : LaidV w) :
    Calls Tryd.prog 28 #[.string s] w fun e w' => ∃ y, e = .returned (.tuple #[.int .i64 (numA s.data.toList), y]) ∧ Below w.heap.size w w' := by
  obtain ⟨⟨t1, p1, h1⟩, ⟨t2, p2, h2⟩, h3⟩ := hw
  unfold numA
  cases e : Lib.atoiAll s.data.toList with
  | ok v => exact (Tryd.strconv_Atoi_ok s (by omega) v e w).mono fun e w' ⟨he, hw⟩ => ⟨_, he, by rcases hw with rfl | ⟨t, rfl⟩; exact Below.refl _ _; exact Lib.bytesWorld_below _ _ _⟩
  | «syntax» => exact (Tryd.strconv_Atoi_syntax_var s (by omega) e t1 p1 w h1).mono fun e w' ⟨N, he, _, _, hb⟩ => ⟨_, he, hb⟩
  | range => exact (Tryd.strconv_Atoi_range_var s (by omega) e t2 p2 w h2).mono fun e w' ⟨N, he, _, _, hb⟩ => ⟨_, he, hb⟩
set_option maxRecDepth 100000 in
theorem numberC_any (s : ByteArray) (hs : s.size ≤ 1000000) (w : World) (hw : LaidV w) :
    Calls Tryd.prog 18 #[.string s] w fun e w' => e = .returned (.int .i64 (numA s.data.toList)) ∧ Below w.heap.size w w' := by
  have HA := Lib.hid (atoiV_any s hs w hw)
  clear hs hw
  go_enter Tryd.func18, Tryd.ntmps18
  go_wp2_with (go_at_call 28; refine (HA.out).mono ?_; rintro e w2 ⟨y, rfl, hb2⟩; have HB2 := Lib.hid hb2; clear hb2)
  go_ret
  exact ⟨rfl, HB2.out⟩
def readV (o : Option (Int × Int)) : Value := match o with
  | some (e, n) => .tuple #[.agg #[.int .i64 e, .int .i64 n], .bool true]
  | none => .tuple #[.agg #[.int .i64 0, .int .i64 0], .bool false]
theorem cut_first_le (s x : List UInt8) : (Lib.cut s x).1.length ≤ s.length ∧ (Lib.cut s x).2.1.length ≤ s.length := by
  unfold Lib.cut
  split
  · simp; omega
  · simp
set_option maxRecDepth 100000 in
set_option maxHeartbeats 4000000 in
theorem readC_any (s : ByteArray) (hs : s.size ≤ 1000000) (w : World) (hw : LaidV w) (hx : LaidM w) :
    Calls Tryd.prog 7 #[.string s] w fun x w' => x = .returned (readV (readO s.data.toList)) ∧ Below w.heap.size w w' := by
  obtain ⟨a, ha⟩ : ∃ a, a = numA (Lib.cut s.data.toList [46]).1 := ⟨_, rfl⟩
  obtain ⟨b, hb⟩ : ∃ b, b = numA (Lib.cut s.data.toList [46]).2.1 := ⟨_, rfl⟩
  unfold readO
  rw [← ha, ← hb]
  obtain ⟨A, hA⟩ : ∃ A : ByteArray, A = ⟨(Lib.cut s.data.toList [46]).1.toArray⟩ := ⟨_, rfl⟩
  obtain ⟨B, hB⟩ : ∃ A : ByteArray, A = ⟨(Lib.cut s.data.toList [46]).2.1.toArray⟩ := ⟨_, rfl⟩
  obtain ⟨q, hq⟩ : ∃ q, q = (Lib.cut s.data.toList [46]).2.2 := ⟨_, rfl⟩
  have hAl : A.data.toList = (Lib.cut s.data.toList [46]).1 := by rw [hA]
  have hBl : B.data.toList = (Lib.cut s.data.toList [46]).2.1 := by rw [hB]
  have hle := cut_first_le s.data.toList [46]
  rw [← hAl, ← hBl, bytes_len, bytes_len, bytes_len] at hle
  rw [← hAl] at ha
  rw [← hBl] at hb
  obtain ⟨W0, hW0⟩ : ∃ W, W = w.alloc (.cells #[.int .i64 0, .int .i64 0] 23) := ⟨_, rfl⟩
  have hb0 : Below w.heap.size w W0 := by rw [hW0]; exact (Below.refl _ _).alloc (Nat.le_refl _) _
  have hs0 : W0.heap.size = w.heap.size + 1 := by rw [hW0]; go_simp
  obtain ⟨r, hr⟩ : ∃ r, r = w.heap.size := ⟨_, rfl⟩
  have r0 : W0.cell? ⟨r, 0, none⟩ = some (.int .i64 0) := by rw [hW0, hr]; go_simp
  have r1 : W0.cell? ⟨r, 1, none⟩ = some (.int .i64 0) := by rw [hW0, hr]; go_simp
  have f0 : W0.frozen? ⟨r, 0, none⟩ = false := by rw [hW0, hr]; go_simp
  have f1 : W0.frozen? ⟨r, 1, none⟩ = false := by rw [hW0, hr]; go_simp
  have hkeep : ∀ W, Below W0.heap.size W0 W → W.cell? ⟨r, 0, none⟩ = some (.int .i64 0) ∧ W.cell? ⟨r, 1, none⟩ = some (.int .i64 0) ∧ W.frozen? ⟨r, 0, none⟩ = false ∧ W.frozen? ⟨r, 1, none⟩ = false := fun W hb =>
    ⟨(hb.cell (p := ⟨r, 0, none⟩) (by show r < W0.heap.size; omega)).trans r0, (hb.cell (p := ⟨r, 1, none⟩) (by show r < W0.heap.size; omega)).trans r1, (hb.frozen (p := ⟨r, 0, none⟩) (by show r < W0.heap.size; omega)).trans f0, (hb.frozen (p := ⟨r, 1, none⟩) (by show r < W0.heap.size; omega)).trans f1⟩
  have hcut : ∀ W, Below W0.heap.size W0 W → Calls Tryd.prog 17 #[.string s, .string ⟨#[46]⟩] W fun e w' => e = .returned (.tuple #[.string A, .string B, .bool q]) ∧ Below W.heap.size W w' := fun W hW => by
    obtain ⟨m, hm⟩ := hx.below (bthen hb0 hW)
    exact (Tryd.strings_Cut s ⟨#[46]⟩ m W (by omega) hm).mono fun e w' ⟨he, n, hn⟩ => ⟨by rw [he, hA, hB, hq], by subst hn; exact below_drewN (Below.refl _ _) n⟩
  have h1 : ∀ W, Below W0.heap.size W0 W → Calls Tryd.prog 18 #[.string A] W fun e w' => e = .returned (.int .i64 a) ∧ Below W.heap.size W w' := fun W hW => by
    rw [ha]; exact numberC_any A (by omega) W (hw.below (bthen hb0 hW))
  have h2 : ∀ W, Below W0.heap.size W0 W → Calls Tryd.prog 18 #[.string B] W fun e w' => e = .returned (.int .i64 b) ∧ Below W.heap.size W w' := fun W hW => by
    rw [hb]; exact numberC_any B (by omega) W (hw.below (bthen hb0 hW))
  have h3 := fun W => mayC_any a b W
  have h4 : mayN a b = true → ∀ W, Below W0.heap.size W0 W → Calls Tryd.prog 13 #[.agg #[.int .i64 a, .int .i64 b]] W fun e w' => e = .returned (.string (ofL (textC a b))) ∧ Below W.heap.size W w' := fun hm W hW => by
    obtain ⟨⟨h1, h2⟩, h3, h4⟩ := (mayN_iff a b).1 hm
    exact textP_any a b ⟨by omega, by omega⟩ ⟨by omega, by omega⟩ W (hw.below (bthen hb0 hW)).2.2
  have hrl : w.heap.size ≤ r := by omega
  have hbx : ∀ W, Below W0.heap.size W0 W → Below W0.heap.size W0 (W.alloc (.cells #[.int .i64 a, .int .i64 b] 23)) := fun W hW => hW.alloc hW.size _
  have hcx : ∀ W W' : World, Below (W.alloc (.cells #[.int .i64 a, .int .i64 b] 23)).heap.size (W.alloc (.cells #[.int .i64 a, .int .i64 b] 23)) W' → W'.cell? ⟨W.heap.size, 0, none⟩ = some (.int .i64 a) ∧ W'.cell? ⟨W.heap.size, 1, none⟩ = some (.int .i64 b) := fun W W' hb => by
    have hlt : W.heap.size < (W.alloc (.cells #[.int .i64 a, .int .i64 b] 23)).heap.size := by
      have : (W.alloc (.cells #[.int .i64 a, .int .i64 b] 23)).heap.size = W.heap.size + 1 := by go_simp
      omega
    exact ⟨(hb.cell (p := ⟨W.heap.size, 0, none⟩) hlt).trans (by go_simp), (hb.cell (p := ⟨W.heap.size, 1, none⟩) hlt).trans (by go_simp)⟩
  have HRL := Lib.hid hrl
  have HK := Lib.hid hkeep
  have HCut := Lib.hid hcut
  have H1 := Lib.hid h1
  have H2 := Lib.hid h2
  have HBx := Lib.hid hbx
  have HCx := Lib.hid hcx
  have HW0 := Lib.hid hW0.symm
  have HB := Lib.hid hb0
  have HR := Lib.hid hr.symm
  cases hm : mayN a b with
  | false =>
    rw [if_neg (by simp)]
    rw [hm] at h3
    have H3 := Lib.hid h3
    clear ha hb hA hB hq hAl hBl hle hW0 hb0 hs0 hr r0 r1 f0 f1 hkeep hcut h1 h2 h3 h4 hrl hbx hcx hm hs hw hx
    go_enter Tryd.func7, Tryd.ntmps7
    go_upto_region 1 with (fail)
    rw [HW0.out, HR.out]
    go_wp2_with (first
      | (go_at_call 17; refine (HCut.out _ (Below.refl _ _)).mono ?_; rintro x w2 ⟨rfl, hb2⟩; have HB2 := Lib.hid hb2; clear hb2)
      | (go_at_call 18; (with_reducible refine (H1.out _ HB2.out).mono ?_); rintro x w3 ⟨rfl, hb3⟩; have HB3 := Lib.hid (bthen HB2.out hb3); clear hb3)
      | (go_at_call 18; (with_reducible refine (H2.out _ HB3.out).mono ?_); rintro x w4 ⟨rfl, hb4⟩; have HB4 := Lib.hid (HBx.out _ (bthen HB3.out hb4)); (obtain ⟨k0, k1⟩ := HCx.out w4 _ (Below.refl _ _)); clear hb4)
      | (go_at_call 9; (with_reducible refine (H3.out _).mono ?_); rintro x w5 ⟨rfl, hb5⟩; have HB5 := Lib.hid (bthen HB4.out hb5); (obtain ⟨k5, k6, k7, k8⟩ := HK.out _ HB5.out); clear hb5))
    refine bodyPost_ret (v := .tuple #[.agg #[.int .i64 0, .int .i64 0], .bool false]) (by simp [results, Tryd.results7, go_sem, k5, k6]) rfl ⟨rfl, ((bthen HB.out HB5.out).setCell HRL.out _).setCell HRL.out _⟩
  | true =>
    rw [hm] at h3
    have H3 := Lib.hid h3
    have H4 := Lib.hid (h4 hm)
    by_cases he : ofL (textC a b) = s
    · have he2 : textC a b = s.data.toList := by rw [← he, ofL_list]
      rw [if_pos ⟨rfl, he2⟩]
      obtain ⟨S, hS⟩ : ∃ S, S = ofL (textC a b) := ⟨_, rfl⟩
      rw [← hS] at he H4
      subst he
      have HS := Lib.hid hS
      have t1 : (S.toList == S.toList) = true := by simp
      clear ha hb hA hB hq hAl hBl hle hW0 hb0 hs0 hr r0 r1 f0 f1 hkeep hcut h1 h2 h3 h4 hrl hbx hcx hm hs hw hx he2 hS
      go_enter Tryd.func7, Tryd.ntmps7
      go_upto_region 1 with (fail)
      rw [HW0.out, HR.out]
      go_wp2_with (first
        | (go_at_call 17; refine (HCut.out _ (Below.refl _ _)).mono ?_; rintro x w2 ⟨rfl, hb2⟩; have HB2 := Lib.hid hb2; clear hb2)
        | (go_at_call 18; (with_reducible refine (H1.out _ HB2.out).mono ?_); rintro x w3 ⟨rfl, hb3⟩; have HB3 := Lib.hid (bthen HB2.out hb3); clear hb3)
        | (go_at_call 18; (with_reducible refine (H2.out _ HB3.out).mono ?_); rintro x w4 ⟨rfl, hb4⟩; have HB4 := Lib.hid (HBx.out _ (bthen HB3.out hb4)); (obtain ⟨k0, k1⟩ := HCx.out w4 _ (Below.refl _ _)); clear hb4)
        | (go_at_call 9; (with_reducible refine (H3.out _).mono ?_); rintro x w5 ⟨rfl, hb5⟩; have HB5 := Lib.hid (bthen HB4.out hb5); (obtain ⟨k3, k4⟩ := HCx.out w4 _ hb5); have HC5 := Lib.hid hb5; clear hb5)
        | (go_at_call 13; (with_reducible refine (H4.out _ HB5.out).mono ?_); rintro x w6 ⟨rfl, hb6⟩; have HB6 := Lib.hid (bthen HB5.out hb6); (obtain ⟨k9, k10⟩ := HCx.out w4 _ (bthen HC5.out hb6)); (obtain ⟨k5, k6, k7, k8⟩ := HK.out _ HB6.out); clear hb6))
      refine bodyPost_ret (v := .tuple #[.agg #[.int .i64 a, .int .i64 b], .bool true]) (by simp [results, Tryd.results7, go_sem, k5, k6]) rfl ⟨rfl, ((bthen HB.out HB6.out).setCell HRL.out _).setCell HRL.out _⟩
    · have he2 : ¬ textC a b = s.data.toList := fun h => he (by rw [h]; exact bytes_ext (by rw [ofL_list]))
      rw [if_neg (by rintro ⟨_, h⟩; exact he2 h)]
      obtain ⟨S, hS⟩ : ∃ S, S = ofL (textC a b) := ⟨_, rfl⟩
      rw [← hS] at he H4
      have t1 := str_ne he
      clear ha hb hA hB hq hAl hBl hle hW0 hb0 hs0 hr r0 r1 f0 f1 hkeep hcut h1 h2 h3 h4 hrl hbx hcx hm hs hw hx he2 he hS
      go_enter Tryd.func7, Tryd.ntmps7
      go_upto_region 1 with (fail)
      rw [HW0.out, HR.out]
      go_wp2_with (first
        | (go_at_call 17; refine (HCut.out _ (Below.refl _ _)).mono ?_; rintro x w2 ⟨rfl, hb2⟩; have HB2 := Lib.hid hb2; clear hb2)
        | (go_at_call 18; (with_reducible refine (H1.out _ HB2.out).mono ?_); rintro x w3 ⟨rfl, hb3⟩; have HB3 := Lib.hid (bthen HB2.out hb3); clear hb3)
        | (go_at_call 18; (with_reducible refine (H2.out _ HB3.out).mono ?_); rintro x w4 ⟨rfl, hb4⟩; have HB4 := Lib.hid (HBx.out _ (bthen HB3.out hb4)); (obtain ⟨k0, k1⟩ := HCx.out w4 _ (Below.refl _ _)); clear hb4)
        | (go_at_call 9; (with_reducible refine (H3.out _).mono ?_); rintro x w5 ⟨rfl, hb5⟩; have HB5 := Lib.hid (bthen HB4.out hb5); (obtain ⟨k3, k4⟩ := HCx.out w4 _ hb5); have HC5 := Lib.hid hb5; clear hb5)
        | (go_at_call 13; (with_reducible refine (H4.out _ HB5.out).mono ?_); rintro x w6 ⟨rfl, hb6⟩; have HB6 := Lib.hid (bthen HB5.out hb6); (obtain ⟨k5, k6, k7, k8⟩ := HK.out _ HB6.out); clear hb6))
      refine bodyPost_ret (v := .tuple #[.agg #[.int .i64 0, .int .i64 0], .bool false]) (by simp [results, Tryd.results7, go_sem, k5, k6]) rfl ⟨rfl, ((bthen HB.out HB6.out).setCell HRL.out _).setCell HRL.out _⟩
end Go.Proofs.YtppljlegkdjhpaaDoor
