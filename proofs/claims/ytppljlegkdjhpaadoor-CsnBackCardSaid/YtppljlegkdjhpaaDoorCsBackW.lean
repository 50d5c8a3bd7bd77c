/- CsnBack: the walk. -/
import Derived.Test.YtppljlegkdjhpaaDoorCsBkP
import Derived.Test.YtppljlegkdjhpaaDoorCsAwk
namespace Go.Proofs.YtppljlegkdjhpaaDoor
open Go.RowKit
set_option linter.unusedVariables false
set_option linter.unusedSimpArgs false

theorem bad_at (S T : ByteArray) (e n : Int) (he : 0 ≤ e) (hn : 0 ≤ n) (hS : S = ofL (textC e n)) (k : Nat) (hk : k < 13) (hT : T.data.toList = badC S.data.toList k) : readO T.data.toList = none := by
  rw [hT, hS, ofL_list]
  exact badC_none he hn k hk
set_option maxRecDepth 100000 in
set_option maxHeartbeats 8000000 in
theorem csnBack_any (e n how : Int) (he : 0 ≤ e ∧ e ≤ 4294967295) (hn : 0 ≤ n ∧ n ≤ 4294967295) (hh : 0 ≤ how ∧ how ≤ 255) (w : World) (hw : LaidV w) (hx : LaidM w) :
    Calls Tryd.prog 4 #[.int .u32 e, .int .u32 n, .int .u8 how] w fun x w' => x = .returned (.bool true) ∧ Below w.heap.size w w' := by
  have hm : mayN e n = true := (mayN_iff e n).2 ⟨⟨by omega, by omega⟩, by omega, by omega⟩
  obtain ⟨S, hS⟩ : ∃ S, S = ofL (textC e n) := ⟨_, rfl⟩
  have hSl : S.data.toList = textC e n := by rw [hS, ofL_list]
  have hSz : S.size ≤ 33 := by rw [hS, ofL_size]; exact (text_len hm).1
  obtain ⟨W0, hW0⟩ : ∃ W, W = w.alloc (.cells #[.int .i64 e, .int .i64 n] 23) := ⟨_, rfl⟩
  have hb0 : Below w.heap.size w W0 := by rw [hW0]; exact box2C w e n
  have hs0 : W0.heap.size = w.heap.size + 1 := by rw [hW0]; go_simp
  obtain ⟨B, hB⟩ : ∃ B, B = w.heap.size := ⟨_, rfl⟩
  have c0 : W0.cell? ⟨B, 0, none⟩ = some (.int .i64 e) := by rw [hW0, hB]; go_simp
  have c1 : W0.cell? ⟨B, 1, none⟩ = some (.int .i64 n) := by rw [hW0, hB]; go_simp
  have hc : ∀ W, Below W0.heap.size W0 W → W.cell? ⟨B, 0, none⟩ = some (.int .i64 e) ∧ W.cell? ⟨B, 1, none⟩ = some (.int .i64 n) := fun W hb =>
    ⟨(hb.cell (p := ⟨B, 0, none⟩) (by show B < W0.heap.size; omega)).trans c0, (hb.cell (p := ⟨B, 1, none⟩) (by show B < W0.heap.size; omega)).trans c1⟩
  have ht : ∀ W, Below W0.heap.size W0 W → Calls Tryd.prog 13 #[.agg #[.int .i64 e, .int .i64 n]] W fun x w' => x = .returned (.string S) ∧ Below W.heap.size W w' := fun W hW => by
    rw [hS]; exact textP_any e n (by omega) (by omega) W (hw.below (bthen hb0 hW)).2.2
  have hr : ∀ W, Below W0.heap.size W0 W → Calls Tryd.prog 7 #[.string S] W fun x w' => x = .returned (.tuple #[.agg #[.int .i64 e, .int .i64 n], .bool true]) ∧ Below W.heap.size W w' := fun W hW => by
    have := readC_any S (by omega) W (hw.below (bthen hb0 hW)) (hx.below (bthen hb0 hW))
    rw [hSl, readO_text hm] at this
    exact this
  have hbad : ∀ (T : ByteArray) (k : Nat), k < 13 → T.size ≤ 100 → T.data.toList = badC S.data.toList k → ∀ W, Below W0.heap.size W0 W → Calls Tryd.prog 7 #[.string T] W fun x w' => x = .returned (.tuple #[.agg #[.int .i64 0, .int .i64 0], .bool false]) ∧ Below W.heap.size W w' := fun T k hk hTs hT W hW => by
    have := readC_any T (by omega) W (hw.below (bthen hb0 hW)) (hx.below (bthen hb0 hW))
    rw [bad_at S T e n he.1 hn.1 hS k hk hT] at this
    exact this
  have haw : ∀ W, Below W0.heap.size W0 W → Calls Tryd.prog 6 #[] W fun x w' => x = .returned (.bool true) ∧ Below W.heap.size W w' := fun W hW => awake12_any W (hw.below (bthen hb0 hW)).2.2
  have we : IntKind.i64.wrap e = e := IntWalk.i64_in _ (by omega)
  have wn : IntKind.i64.wrap n = n := IntWalk.i64_in _ (by omega)
  have we' : wrap64 e = e := IntWalk.wrap64_in _ (by omega)
  have wn' : wrap64 n = n := IntWalk.wrap64_in _ (by omega)
  obtain ⟨T0, hT0⟩ : ∃ T : ByteArray, T = ⟨#[48]⟩ ++ S := ⟨_, rfl⟩
  have hl0 : T0.data.toList = badC S.data.toList 0 := by rw [hT0]; simp [app_list, badC]
  have hz0 : T0.size ≤ 100 := by rw [hT0, ByteArray.size_append]; show 1 + S.size ≤ 100; omega
  have hT0' := hT0.symm
  obtain ⟨T1, hT1⟩ : ∃ T : ByteArray, T = S ++ ⟨#[32]⟩ := ⟨_, rfl⟩
  have hl1 : T1.data.toList = badC S.data.toList 1 := by rw [hT1]; simp [app_list, badC]
  have hz1 : T1.size ≤ 100 := by rw [hT1, ByteArray.size_append]; show S.size + 1 ≤ 100; omega
  have hT1' := hT1.symm
  obtain ⟨T2, hT2⟩ : ∃ T : ByteArray, T = ⟨#[43]⟩ ++ S := ⟨_, rfl⟩
  have hl2 : T2.data.toList = badC S.data.toList 2 := by rw [hT2]; simp [app_list, badC]
  have hz2 : T2.size ≤ 100 := by rw [hT2, ByteArray.size_append]; show 1 + S.size ≤ 100; omega
  have hT2' := hT2.symm
  obtain ⟨T3, hT3⟩ : ∃ T : ByteArray, T = S ++ ⟨#[46]⟩ := ⟨_, rfl⟩
  have hl3 : T3.data.toList = badC S.data.toList 3 := by rw [hT3]; simp [app_list, badC]
  have hz3 : T3.size ≤ 100 := by rw [hT3, ByteArray.size_append]; show S.size + 1 ≤ 100; omega
  have hT3' := hT3.symm
  obtain ⟨T4, hT4⟩ : ∃ T : ByteArray, T = ⟨#[46]⟩ ++ S := ⟨_, rfl⟩
  have hl4 : T4.data.toList = badC S.data.toList 4 := by rw [hT4]; simp [app_list, badC]
  have hz4 : T4.size ≤ 100 := by rw [hT4, ByteArray.size_append]; show 1 + S.size ≤ 100; omega
  have hT4' := hT4.symm
  obtain ⟨T5, hT5⟩ : ∃ T : ByteArray, T = S ++ ⟨#[120]⟩ := ⟨_, rfl⟩
  have hl5 : T5.data.toList = badC S.data.toList 5 := by rw [hT5]; simp [app_list, badC]
  have hz5 : T5.size ≤ 100 := by rw [hT5, ByteArray.size_append]; show S.size + 1 ≤ 100; omega
  have hT5' := hT5.symm
  obtain ⟨T6, hT6⟩ : ∃ T : ByteArray, T = ⟨#[45]⟩ ++ S := ⟨_, rfl⟩
  have hl6 : T6.data.toList = badC S.data.toList 6 := by rw [hT6]; simp [app_list, badC]
  have hz6 : T6.size ≤ 100 := by rw [hT6, ByteArray.size_append]; show 1 + S.size ≤ 100; omega
  have hT6' := hT6.symm
  have z1 : S.size + 1 ≤ 9223372036854775807 := by omega
  have z2 : 1 + S.size ≤ 9223372036854775807 := by omega
  have z3 : ∀ b : UInt8, S.size + (⟨#[b]⟩ : ByteArray).size ≤ 9223372036854775807 := fun b => z1
  have z4 : ∀ b : UInt8, (⟨#[b]⟩ : ByteArray).size + S.size ≤ 9223372036854775807 := fun b => z2
  have hbox : ∀ (W : World) (x y : Int), Below W0.heap.size W0 W → Below W0.heap.size W0 (W.alloc (.cells #[.int .i64 x, .int .i64 y] 23)) := fun W x y hW => hW.alloc hW.size _
  have hrow : ∀ (W : World) (o : Obj), Below W0.heap.size W0 W → Below W0.heap.size W0 (W.alloc o) := fun W o hW => hW.alloc hW.size _
  have hold : ∀ (W W' : World) (x y : Int), Below (W.alloc (.cells #[.int .i64 x, .int .i64 y] 23)).heap.size (W.alloc (.cells #[.int .i64 x, .int .i64 y] 23)) W' → W'.cell? ⟨W.heap.size, 0, none⟩ = some (.int .i64 x) ∧ W'.cell? ⟨W.heap.size, 1, none⟩ = some (.int .i64 y) := fun W W' x y hb => by
    have hlt : W.heap.size < (W.alloc (.cells #[.int .i64 x, .int .i64 y] 23)).heap.size := by
      have : (W.alloc (.cells #[.int .i64 x, .int .i64 y] 23)).heap.size = W.heap.size + 1 := by go_simp
      omega
    exact ⟨(hb.cell (p := ⟨W.heap.size, 0, none⟩) hlt).trans (by go_simp), (hb.cell (p := ⟨W.heap.size, 1, none⟩) hlt).trans (by go_simp)⟩
  have HC := Lib.hid hc
  have HT := Lib.hid ht
  have HR := Lib.hid hr
  have HBad := Lib.hid hbad
  have HAw := Lib.hid haw
  have HBox := Lib.hid hbox
  have HRow := Lib.hid hrow
  have HOld := Lib.hid hold
  have HW0 := Lib.hid hW0.symm
  have HB0 := Lib.hid hb0
  have HBe := Lib.hid hB.symm
  have HL0 := Lib.hid hl0
  have HZ0 := Lib.hid hz0
  have HL1 := Lib.hid hl1
  have HZ1 := Lib.hid hz1
  have HL2 := Lib.hid hl2
  have HZ2 := Lib.hid hz2
  have HL3 := Lib.hid hl3
  have HZ3 := Lib.hid hz3
  have HL4 := Lib.hid hl4
  have HZ4 := Lib.hid hz4
  have HL5 := Lib.hid hl5
  have HZ5 := Lib.hid hz5
  have HL6 := Lib.hid hl6
  have HZ6 := Lib.hid hz6
  clear hm hS hSl hW0 hb0 hs0 hB hc ht hr hbad haw hbox hrow hold hw hx he hn hT0 hl0 hz0 hT1 hl1 hz1 hT2 hl2 hz2 hT3 hl3 hz3 hT4 hl4 hz4 hT5 hl5 hz5 hT6 hl6 hz6
  go_enter Tryd.func4, Tryd.ntmps4
  go_upto_region 2 with (fail)
  rw [HW0.out, HBe.out]
  go_upto_region 4 with (first
    | (go_at_call 13; refine (HT.out _ (Below.refl _ _)).mono ?_; rintro x w2 ⟨rfl, hb2⟩; have HB2 := Lib.hid hb2; clear hb2)
    | (go_at_call 7; refine (HR.out _ HB2.out).mono ?_; rintro x w3 ⟨rfl, hb3⟩; have HB3 := Lib.hid (bthen HB2.out hb3); clear hb3))
  obtain ⟨W4, hW4⟩ : ∃ W, W = w3.alloc (.cells #[.int .i64 e, .int .i64 n] 23) := ⟨_, rfl⟩
  obtain ⟨p, hp⟩ : ∃ p, p = w3.heap.size := ⟨_, rfl⟩
  have hb4 : Below W0.heap.size W0 W4 := by rw [hW4]; exact HBox.out w3 e n HB3.out
  have ho4 : ∀ W', Below W4.heap.size W4 W' → W'.cell? ⟨p, 0, none⟩ = some (.int .i64 e) ∧ W'.cell? ⟨p, 1, none⟩ = some (.int .i64 n) := fun W' hb => by
    rw [hp]
    rw [hW4] at hb
    exact HOld.out w3 W' e n hb
  rw [← hW4, ← hp]
  have HB4 := Lib.hid hb4
  have HO4 := Lib.hid ho4
  clear hW4 hp hb4 ho4
  rcases (show how % 13 = 0 ∨ how % 13 = 1 ∨ how % 13 = 2 ∨ how % 13 = 3 ∨ how % 13 = 4 ∨ how % 13 = 5 ∨ how % 13 = 6 ∨ how % 13 = 7 ∨ how % 13 = 8 ∨ how % 13 = 9 ∨ how % 13 = 10 ∨ how % 13 = 11 ∨ how % 13 = 12 from by omega) with hk | hk | hk | hk | hk | hk | hk | hk | hk | hk | hk | hk | hk
  · have HBk := Lib.hid (HBad.out T0 0 (by decide) HZ0.out HL0.out)
    clear HBad
    go_wp2_with (first
      | (go_at_call 7; (with_reducible refine (HBk.out _ (HRow.out W4 _ HB4.out)).mono ?_); rintro x w6 ⟨rfl, hb6⟩; have HB6 := Lib.hid (HBox.out w6 0 0 (bthen (HRow.out W4 _ HB4.out) hb6)); (obtain ⟨k0, k1⟩ := HC.out _ HB6.out); (obtain ⟨k2, k3⟩ := HO4.out _ ((bthen ((Below.refl W4.heap.size W4).alloc (Nat.le_refl _) _) hb6).alloc (bthen ((Below.refl W4.heap.size W4).alloc (Nat.le_refl _) _) hb6).size (.cells #[.int .i64 0, .int .i64 0] 23))); clear hb6)
      | (go_at_call 6; refine (HAw.out _ HB6.out).mono ?_; rintro x w7 ⟨rfl, hb7⟩; have HB7 := Lib.hid (bthen HB0.out (bthen HB6.out hb7)); clear hb7))
    go_ret
    exact ⟨rfl, HB7.out⟩
  · have HBk := Lib.hid (HBad.out T1 1 (by decide) HZ1.out HL1.out)
    clear HBad
    go_wp2_with (first
      | (go_at_call 7; (with_reducible refine (HBk.out _ (HRow.out W4 _ HB4.out)).mono ?_); rintro x w6 ⟨rfl, hb6⟩; have HB6 := Lib.hid (HBox.out w6 0 0 (bthen (HRow.out W4 _ HB4.out) hb6)); (obtain ⟨k0, k1⟩ := HC.out _ HB6.out); (obtain ⟨k2, k3⟩ := HO4.out _ ((bthen ((Below.refl W4.heap.size W4).alloc (Nat.le_refl _) _) hb6).alloc (bthen ((Below.refl W4.heap.size W4).alloc (Nat.le_refl _) _) hb6).size (.cells #[.int .i64 0, .int .i64 0] 23))); clear hb6)
      | (go_at_call 6; refine (HAw.out _ HB6.out).mono ?_; rintro x w7 ⟨rfl, hb7⟩; have HB7 := Lib.hid (bthen HB0.out (bthen HB6.out hb7)); clear hb7))
    go_ret
    exact ⟨rfl, HB7.out⟩
  · have HBk := Lib.hid (HBad.out T2 2 (by decide) HZ2.out HL2.out)
    clear HBad
    go_wp2_with (first
      | (go_at_call 7; (with_reducible refine (HBk.out _ (HRow.out W4 _ HB4.out)).mono ?_); rintro x w6 ⟨rfl, hb6⟩; have HB6 := Lib.hid (HBox.out w6 0 0 (bthen (HRow.out W4 _ HB4.out) hb6)); (obtain ⟨k0, k1⟩ := HC.out _ HB6.out); (obtain ⟨k2, k3⟩ := HO4.out _ ((bthen ((Below.refl W4.heap.size W4).alloc (Nat.le_refl _) _) hb6).alloc (bthen ((Below.refl W4.heap.size W4).alloc (Nat.le_refl _) _) hb6).size (.cells #[.int .i64 0, .int .i64 0] 23))); clear hb6)
      | (go_at_call 6; refine (HAw.out _ HB6.out).mono ?_; rintro x w7 ⟨rfl, hb7⟩; have HB7 := Lib.hid (bthen HB0.out (bthen HB6.out hb7)); clear hb7))
    go_ret
    exact ⟨rfl, HB7.out⟩
  · have HBk := Lib.hid (HBad.out T3 3 (by decide) HZ3.out HL3.out)
    clear HBad
    go_wp2_with (first
      | (go_at_call 7; (with_reducible refine (HBk.out _ (HRow.out W4 _ HB4.out)).mono ?_); rintro x w6 ⟨rfl, hb6⟩; have HB6 := Lib.hid (HBox.out w6 0 0 (bthen (HRow.out W4 _ HB4.out) hb6)); (obtain ⟨k0, k1⟩ := HC.out _ HB6.out); (obtain ⟨k2, k3⟩ := HO4.out _ ((bthen ((Below.refl W4.heap.size W4).alloc (Nat.le_refl _) _) hb6).alloc (bthen ((Below.refl W4.heap.size W4).alloc (Nat.le_refl _) _) hb6).size (.cells #[.int .i64 0, .int .i64 0] 23))); clear hb6)
      | (go_at_call 6; refine (HAw.out _ HB6.out).mono ?_; rintro x w7 ⟨rfl, hb7⟩; have HB7 := Lib.hid (bthen HB0.out (bthen HB6.out hb7)); clear hb7))
    go_ret
    exact ⟨rfl, HB7.out⟩
  · have HBk := Lib.hid (HBad.out T4 4 (by decide) HZ4.out HL4.out)
    clear HBad
    go_wp2_with (first
      | (go_at_call 7; (with_reducible refine (HBk.out _ (HRow.out W4 _ HB4.out)).mono ?_); rintro x w6 ⟨rfl, hb6⟩; have HB6 := Lib.hid (HBox.out w6 0 0 (bthen (HRow.out W4 _ HB4.out) hb6)); (obtain ⟨k0, k1⟩ := HC.out _ HB6.out); (obtain ⟨k2, k3⟩ := HO4.out _ ((bthen ((Below.refl W4.heap.size W4).alloc (Nat.le_refl _) _) hb6).alloc (bthen ((Below.refl W4.heap.size W4).alloc (Nat.le_refl _) _) hb6).size (.cells #[.int .i64 0, .int .i64 0] 23))); clear hb6)
      | (go_at_call 6; refine (HAw.out _ HB6.out).mono ?_; rintro x w7 ⟨rfl, hb7⟩; have HB7 := Lib.hid (bthen HB0.out (bthen HB6.out hb7)); clear hb7))
    go_ret
    exact ⟨rfl, HB7.out⟩
  · have HBk := Lib.hid (HBad.out T5 5 (by decide) HZ5.out HL5.out)
    clear HBad
    go_wp2_with (first
      | (go_at_call 7; (with_reducible refine (HBk.out _ (HRow.out W4 _ HB4.out)).mono ?_); rintro x w6 ⟨rfl, hb6⟩; have HB6 := Lib.hid (HBox.out w6 0 0 (bthen (HRow.out W4 _ HB4.out) hb6)); (obtain ⟨k0, k1⟩ := HC.out _ HB6.out); (obtain ⟨k2, k3⟩ := HO4.out _ ((bthen ((Below.refl W4.heap.size W4).alloc (Nat.le_refl _) _) hb6).alloc (bthen ((Below.refl W4.heap.size W4).alloc (Nat.le_refl _) _) hb6).size (.cells #[.int .i64 0, .int .i64 0] 23))); clear hb6)
      | (go_at_call 6; refine (HAw.out _ HB6.out).mono ?_; rintro x w7 ⟨rfl, hb7⟩; have HB7 := Lib.hid (bthen HB0.out (bthen HB6.out hb7)); clear hb7))
    go_ret
    exact ⟨rfl, HB7.out⟩
  · have HBk := Lib.hid (HBad.out T6 6 (by decide) HZ6.out HL6.out)
    clear HBad
    go_wp2_with (first
      | (go_at_call 7; (with_reducible refine (HBk.out _ (HRow.out W4 _ HB4.out)).mono ?_); rintro x w6 ⟨rfl, hb6⟩; have HB6 := Lib.hid (HBox.out w6 0 0 (bthen (HRow.out W4 _ HB4.out) hb6)); (obtain ⟨k0, k1⟩ := HC.out _ HB6.out); (obtain ⟨k2, k3⟩ := HO4.out _ ((bthen ((Below.refl W4.heap.size W4).alloc (Nat.le_refl _) _) hb6).alloc (bthen ((Below.refl W4.heap.size W4).alloc (Nat.le_refl _) _) hb6).size (.cells #[.int .i64 0, .int .i64 0] 23))); clear hb6)
      | (go_at_call 6; refine (HAw.out _ HB6.out).mono ?_; rintro x w7 ⟨rfl, hb7⟩; have HB7 := Lib.hid (bthen HB0.out (bthen HB6.out hb7)); clear hb7))
    go_ret
    exact ⟨rfl, HB7.out⟩
  · have HBk := Lib.hid (HBad.out ⟨#[]⟩ 7 (by decide) (by decide) rfl)
    clear HBad
    go_wp2_with (first
      | (go_at_call 7; (with_reducible refine (HBk.out _ (HRow.out W4 _ HB4.out)).mono ?_); rintro x w6 ⟨rfl, hb6⟩; have HB6 := Lib.hid (HBox.out w6 0 0 (bthen (HRow.out W4 _ HB4.out) hb6)); (obtain ⟨k0, k1⟩ := HC.out _ HB6.out); (obtain ⟨k2, k3⟩ := HO4.out _ ((bthen ((Below.refl W4.heap.size W4).alloc (Nat.le_refl _) _) hb6).alloc (bthen ((Below.refl W4.heap.size W4).alloc (Nat.le_refl _) _) hb6).size (.cells #[.int .i64 0, .int .i64 0] 23))); clear hb6)
      | (go_at_call 6; refine (HAw.out _ HB6.out).mono ?_; rintro x w7 ⟨rfl, hb7⟩; have HB7 := Lib.hid (bthen HB0.out (bthen HB6.out hb7)); clear hb7))
    go_ret
    exact ⟨rfl, HB7.out⟩
  · have HBk := Lib.hid (HBad.out ⟨#[49]⟩ 8 (by decide) (by decide) rfl)
    clear HBad
    go_wp2_with (first
      | (go_at_call 7; (with_reducible refine (HBk.out _ (HRow.out W4 _ HB4.out)).mono ?_); rintro x w6 ⟨rfl, hb6⟩; have HB6 := Lib.hid (HBox.out w6 0 0 (bthen (HRow.out W4 _ HB4.out) hb6)); (obtain ⟨k0, k1⟩ := HC.out _ HB6.out); (obtain ⟨k2, k3⟩ := HO4.out _ ((bthen ((Below.refl W4.heap.size W4).alloc (Nat.le_refl _) _) hb6).alloc (bthen ((Below.refl W4.heap.size W4).alloc (Nat.le_refl _) _) hb6).size (.cells #[.int .i64 0, .int .i64 0] 23))); clear hb6)
      | (go_at_call 6; refine (HAw.out _ HB6.out).mono ?_; rintro x w7 ⟨rfl, hb7⟩; have HB7 := Lib.hid (bthen HB0.out (bthen HB6.out hb7)); clear hb7))
    go_ret
    exact ⟨rfl, HB7.out⟩
  · have HBk := Lib.hid (HBad.out ⟨#[49, 46]⟩ 9 (by decide) (by decide) rfl)
    clear HBad
    go_wp2_with (first
      | (go_at_call 7; (with_reducible refine (HBk.out _ (HRow.out W4 _ HB4.out)).mono ?_); rintro x w6 ⟨rfl, hb6⟩; have HB6 := Lib.hid (HBox.out w6 0 0 (bthen (HRow.out W4 _ HB4.out) hb6)); (obtain ⟨k0, k1⟩ := HC.out _ HB6.out); (obtain ⟨k2, k3⟩ := HO4.out _ ((bthen ((Below.refl W4.heap.size W4).alloc (Nat.le_refl _) _) hb6).alloc (bthen ((Below.refl W4.heap.size W4).alloc (Nat.le_refl _) _) hb6).size (.cells #[.int .i64 0, .int .i64 0] 23))); clear hb6)
      | (go_at_call 6; refine (HAw.out _ HB6.out).mono ?_; rintro x w7 ⟨rfl, hb7⟩; have HB7 := Lib.hid (bthen HB0.out (bthen HB6.out hb7)); clear hb7))
    go_ret
    exact ⟨rfl, HB7.out⟩
  · have HBk := Lib.hid (HBad.out ⟨#[46, 49]⟩ 10 (by decide) (by decide) rfl)
    clear HBad
    go_wp2_with (first
      | (go_at_call 7; (with_reducible refine (HBk.out _ (HRow.out W4 _ HB4.out)).mono ?_); rintro x w6 ⟨rfl, hb6⟩; have HB6 := Lib.hid (HBox.out w6 0 0 (bthen (HRow.out W4 _ HB4.out) hb6)); (obtain ⟨k0, k1⟩ := HC.out _ HB6.out); (obtain ⟨k2, k3⟩ := HO4.out _ ((bthen ((Below.refl W4.heap.size W4).alloc (Nat.le_refl _) _) hb6).alloc (bthen ((Below.refl W4.heap.size W4).alloc (Nat.le_refl _) _) hb6).size (.cells #[.int .i64 0, .int .i64 0] 23))); clear hb6)
      | (go_at_call 6; refine (HAw.out _ HB6.out).mono ?_; rintro x w7 ⟨rfl, hb7⟩; have HB7 := Lib.hid (bthen HB0.out (bthen HB6.out hb7)); clear hb7))
    go_ret
    exact ⟨rfl, HB7.out⟩
  · have HBk := Lib.hid (HBad.out ⟨#[49, 46, 48, 49]⟩ 11 (by decide) (by decide) rfl)
    clear HBad
    go_wp2_with (first
      | (go_at_call 7; (with_reducible refine (HBk.out _ (HRow.out W4 _ HB4.out)).mono ?_); rintro x w6 ⟨rfl, hb6⟩; have HB6 := Lib.hid (HBox.out w6 0 0 (bthen (HRow.out W4 _ HB4.out) hb6)); (obtain ⟨k0, k1⟩ := HC.out _ HB6.out); (obtain ⟨k2, k3⟩ := HO4.out _ ((bthen ((Below.refl W4.heap.size W4).alloc (Nat.le_refl _) _) hb6).alloc (bthen ((Below.refl W4.heap.size W4).alloc (Nat.le_refl _) _) hb6).size (.cells #[.int .i64 0, .int .i64 0] 23))); clear hb6)
      | (go_at_call 6; refine (HAw.out _ HB6.out).mono ?_; rintro x w7 ⟨rfl, hb7⟩; have HB7 := Lib.hid (bthen HB0.out (bthen HB6.out hb7)); clear hb7))
    go_ret
    exact ⟨rfl, HB7.out⟩
  · have HBk := Lib.hid (HBad.out ⟨#[52, 53, 48, 51, 53, 57, 57, 54, 50, 55, 51, 55, 48, 52, 57, 55, 46, 49]⟩ 12 (by decide) (by decide) rfl)
    clear HBad
    go_wp2_with (first
      | (go_at_call 7; (with_reducible refine (HBk.out _ (HRow.out W4 _ HB4.out)).mono ?_); rintro x w6 ⟨rfl, hb6⟩; have HB6 := Lib.hid (HBox.out w6 0 0 (bthen (HRow.out W4 _ HB4.out) hb6)); (obtain ⟨k0, k1⟩ := HC.out _ HB6.out); (obtain ⟨k2, k3⟩ := HO4.out _ ((bthen ((Below.refl W4.heap.size W4).alloc (Nat.le_refl _) _) hb6).alloc (bthen ((Below.refl W4.heap.size W4).alloc (Nat.le_refl _) _) hb6).size (.cells #[.int .i64 0, .int .i64 0] 23))); clear hb6)
      | (go_at_call 6; refine (HAw.out _ HB6.out).mono ?_; rintro x w7 ⟨rfl, hb7⟩; have HB7 := Lib.hid (bthen HB0.out (bthen HB6.out hb7)); clear hb7))
    go_ret
    exact ⟨rfl, HB7.out⟩
end Go.Proofs.YtppljlegkdjhpaaDoor
