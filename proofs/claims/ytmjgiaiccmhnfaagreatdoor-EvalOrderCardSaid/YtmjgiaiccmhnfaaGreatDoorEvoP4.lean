/- Several texts in one file: EvOrd. -/
import Derived.Test.YtmjgiaiccmhnfaaGreatDoorEvoP3
/- brooklaw7.EvalOrder: the walk. -/
namespace Go.Proofs.YtmjgiaiccmhnfaaGreatDoor
open Go.RowKit
set_option linter.unusedVariables false
set_option linter.unusedSimpArgs false

theorem bytesLess_tri : ∀ x y : List UInt8, Op.bytesLess y x = (!Op.bytesLess x y && !(x == y))
  | [], [] => rfl
  | [], b :: y => by simp [Op.bytesLess]
  | a :: x, [] => by simp [Op.bytesLess]
  | a :: x, b :: y => by
    have ih := bytesLess_tri x y
    by_cases h1 : a < b
    · have h2 : ¬ b < a := by rw [UInt8.lt_iff_toNat_lt] at *; omega
      have h3 : ¬ a = b := fun e => by subst e; exact h2 h1
      have h4 : ¬ b = a := fun e => h3 e.symm
      simp [Op.bytesLess, h1, h2, h3, h4]
    · by_cases h2 : b < a
      · have h3 : ¬ a = b := fun e => by subst e; exact h1 h2
        have h4 : ¬ b = a := fun e => h3 e.symm
        simp [Op.bytesLess, h1, h2, h3, h4]
      · have h3 : a = b := UInt8.toNat_inj.1 (by rw [UInt8.lt_iff_toNat_lt] at *; omega)
        subst h3
        simp [Op.bytesLess, h1, ih]
/-- The entry that the statement makes: its attributes in a row of two. -/
theorem ordA_at {W : World} {g b1 b2 : Nat} {m : Int} {A C : ByteArray} (hA : A.data.toList = Lib.itoa m) (hC : C.data.toList = 99 :: Lib.itoa m)
    (h1 : W.heap[b1]? = some (.cells #[.string A] 9 (0, 0))) (h2 : W.heap[b2]? = some (.cells #[.string C] 9 (0, 0)))
    (hg : W.heap[g]? = some (.cells #[.string ⟨#[117, 105, 100, 110, 117, 109, 98, 101, 114]⟩, .slice (some ⟨b1, 0, none⟩) 1 1, .string ⟨#[99, 110]⟩, .slice (some ⟨b2, 0, none⟩) 1 1] 45 (0, 0))) :
    IsA W.heap.size W (ordL m) (.slice (some ⟨g, 0, none⟩) 2 2) := by
  have l1 : b1 < W.heap.size := (Array.getElem?_eq_some_iff.1 h1).1
  have l2 : b2 < W.heap.size := (Array.getElem?_eq_some_iff.1 h2).1
  have lg : g < W.heap.size := (Array.getElem?_eq_some_iff.1 hg).1
  have hs : ∀ B : ByteArray, Value.string B = strV B.data.toList := fun A => congrArg Value.string (bytes_ext (ofL_list _).symm)
  have t1 : IsT W.heap.size W [Lib.itoa m] (.slice (some ⟨b1, 0, none⟩) 1 1) := ⟨some ⟨b1, 0, none⟩, 1, rfl, by unfold maxLen; simp, fun j hj => by
    obtain rfl : j = 0 := by simp at hj; omega
    refine ⟨b1, 0, rfl, l1, ?_⟩
    show W.cell? ⟨b1, 0, none⟩ = some (strV (Lib.itoa m))
    rw [← hA, ← hs A]
    simp [World.cell?, h1]⟩
  have t2 : IsT W.heap.size W [99 :: Lib.itoa m] (.slice (some ⟨b2, 0, none⟩) 1 1) := ⟨some ⟨b2, 0, none⟩, 1, rfl, by unfold maxLen; simp, fun j hj => by
    obtain rfl : j = 0 := by simp at hj; omega
    refine ⟨b2, 0, rfl, l2, ?_⟩
    show W.cell? ⟨b2, 0, none⟩ = some (strV (99 :: Lib.itoa m))
    rw [← hC, ← hs C]
    simp [World.cell?, h2]⟩
  refine ⟨some ⟨g, 0, none⟩, 2, rfl, by unfold maxLen; simp [ordL], fun j hj => ?_⟩
  have hj2 : j = 0 ∨ j = 1 := by simp [ordL] at hj; omega
  rcases hj2 with rfl | rfl
  · exact ⟨g, 0, .slice (some ⟨b1, 0, none⟩) 1 1, rfl, lg, by simp [World.cell?, hg, ordL]; rfl, by simp [World.cell?, hg], t1⟩
  · exact ⟨g, 0, .slice (some ⟨b2, 0, none⟩) 1 1, rfl, lg, by simp [World.cell?, hg, ordL]; rfl, by simp [World.cell?, hg], t2⟩
set_option maxRecDepth 100000 in
set_option maxHeartbeats 8000000 in
theorem evalOrder_any (a b : Int) (text : Bool) (w : World) (hw : LaidW w) (hx : LaidX w) (ha : -9223372036854775808 ≤ a ∧ a ≤ 9223372036854775807) (hb : -9223372036854775808 ≤ b ∧ b ≤ 9223372036854775807) :
    Calls Tryz.prog 9 #[.int .i64 a, .int .i64 b, .bool text] w fun e w' => e = .returned (.bool true) ∧ Below w.heap.size w w' := by
  have hrem : ∀ x : Int, (Int.tmod x 1000000).natAbs < 1000000 := fun x => by rw [Int.natAbs_tmod]; exact Nat.mod_lt _ (by decide)
  have hm := hrem a
  have hn := hrem b
  obtain ⟨m, hma⟩ : ∃ m, Int.tmod a 1000000 = m := ⟨_, rfl⟩
  obtain ⟨n, hnb⟩ : ∃ m, Int.tmod b 1000000 = m := ⟨_, rfl⟩
  rw [hma] at hm
  rw [hnb] at hn
  have em : IntKind.i64.wrap m = m := IntWalk.i64_in _ (by omega)
  have en : IntKind.i64.wrap n = n := IntWalk.i64_in _ (by omega)
  have hm9 : m.natAbs < 1000000000000000 := by omega
  have hn9 : n.natAbs < 1000000000000000 := by omega
  have hdm := fun W => digits_any m (by omega) (by omega) W
  have hdn := fun W => digits_any n (by omega) (by omega) W
  obtain ⟨A, hA⟩ : ∃ A, A = ofL (Lib.itoa m) := ⟨_, rfl⟩
  obtain ⟨B, hB⟩ : ∃ A, A = ofL (Lib.itoa n) := ⟨_, rfl⟩
  have hAl : A.data.toList = Lib.itoa m := by rw [hA, ofL_list]
  have hBl : B.data.toList = Lib.itoa n := by rw [hB, ofL_list]
  rw [← hA] at hdm
  rw [← hB] at hdn
  have hAs : A.size ≤ 16 := by rw [← bytes_len, hAl]; exact itoa_len m hm9
  have hBs : B.size ≤ 16 := by rw [← bytes_len, hBl]; exact itoa_len n hn9
  obtain ⟨C, hC⟩ : ∃ C, (⟨#[99]⟩ : ByteArray) ++ A = C := ⟨_, rfl⟩
  obtain ⟨E, hE⟩ : ∃ C, (⟨#[99]⟩ : ByteArray) ++ B = C := ⟨_, rfl⟩
  obtain ⟨V, hV⟩ : ∃ C, (⟨#[67]⟩ : ByteArray) ++ B = C := ⟨_, rfl⟩
  have hCl : C.data.toList = 99 :: Lib.itoa m := by rw [← hC, app_list, hAl]; rfl
  have hEl : E.data.toList = 99 :: Lib.itoa n := by rw [← hE, app_list, hBl]; rfl
  have hVl : V.data.toList = 67 :: Lib.itoa n := by rw [← hV, app_list, hBl]; rfl
  have hVs : V.size ≤ 17 := by rw [← bytes_len, hVl, List.length_cons, ← hBl, bytes_len]; omega
  have qA : 1 + A.size ≤ 9223372036854775807 := by omega
  have qB : 1 + B.size ≤ 9223372036854775807 := by omega
  have HDm := Lib.hid hdm
  have HDn := Lib.hid hdn
  have HW := Lib.hid hw
  have HX := Lib.hid hx
  have HAl := Lib.hid hAl
  have HBl := Lib.hid hBl
  have HCl := Lib.hid hCl
  have HEl := Lib.hid hEl
  have HVl := Lib.hid hVl
  have Hm9 := Lib.hid hm9
  have Hn9 := Lib.hid hn9
  have tok1 : True := trivial
  clear hdm hdn hw hx hA hB hAl hBl hCl hEl hVl hrem hm9 hn9 hm hn ha hb
  go_enter Tryz.func9, Tryz.ntmps9
  go_upto_region 3 with (first
    | (have _t := tok1; go_at_call 23; ((with_reducible refine (HDm.out _).mono ?_); rintro e w1 ⟨rfl, hb1⟩); have HB1 := Lib.hid hb1; clear hb1 _t; clear tok1)
    | (go_at_call 23; ((with_reducible refine (HDm.out _).mono ?_); rintro e w3 ⟨rfl, hb3⟩); have HB3 := Lib.hid hb3; clear hb3))
  obtain ⟨gb, hgb⟩ : ∃ x, x = w3.heap.size + 1 := ⟨_, rfl⟩
  obtain ⟨eb, heb⟩ : ∃ x, x = gb + 1 := ⟨_, rfl⟩
  obtain ⟨W6, hW6⟩ : ∃ W, W = ((w3.alloc (.cells #[.string C] 9)).alloc (.cells #[.string ⟨#[117, 105, 100, 110, 117, 109, 98, 101, 114]⟩, .slice (some ⟨w1.heap.size, 0, none⟩) 1 1, .string ⟨#[99, 110]⟩, .slice (some ⟨w3.heap.size, 0, none⟩) 1 1] 45)).alloc (.cells #[.string ⟨#[]⟩, .slice (some ⟨gb, 0, none⟩) 2 2] 28) := ⟨_, rfl⟩
  have hall : Below w.heap.size w W6 ∧ IsA W6.heap.size W6 (ordL m) (.slice (some ⟨gb, 0, none⟩) 2 2) ∧ EnAt W6 eb ⟨#[]⟩ (.slice (some ⟨gb, 0, none⟩) 2 2) := by
    have h2 := heap_alloc_new w1 (.cells #[.string A] 9)
    have b2 : Below w1.heap.size w1 (w1.alloc (.cells #[.string A] 9)) := (Below.refl _ _).alloc (Nat.le_refl _) _
    have b3 := HB3.out
    have s2 : (w1.alloc (.cells #[.string A] 9)).heap.size = w1.heap.size + 1 := by simp only [World.alloc, Array.size_push]
    generalize w1.alloc (.cells #[.string A] 9) = W2 at h2 b2 b3 s2
    have h3 := (b3.block w1.heap.size (by omega)).trans h2
    have l3 : w1.heap.size < w3.heap.size := (Array.getElem?_eq_some_iff.1 h3).1
    have h4 := heap_alloc_new w3 (.cells #[.string C] 9)
    have k4 := (heap_alloc_old w3 (.cells #[.string C] 9) l3).trans h3
    have b4 : Below w3.heap.size w3 (w3.alloc (.cells #[.string C] 9)) := (Below.refl _ _).alloc (Nat.le_refl _) _
    have s4 : (w3.alloc (.cells #[.string C] 9)).heap.size = gb := by rw [hgb]; simp only [World.alloc, Array.size_push]
    generalize w3.alloc (.cells #[.string C] 9) = W4 at h4 k4 b4 s4 hW6
    generalize hO : Obj.cells #[.string ⟨#[117, 105, 100, 110, 117, 109, 98, 101, 114]⟩, .slice (some ⟨w1.heap.size, 0, none⟩) 1 1, .string ⟨#[99, 110]⟩, .slice (some ⟨w3.heap.size, 0, none⟩) 1 1] 45 = O at hW6
    have h5 := heap_alloc_new W4 O
    rw [s4] at h5
    have k5 := (heap_alloc_old W4 O (show w1.heap.size < W4.heap.size by omega)).trans k4
    have j5 := (heap_alloc_old W4 O (show w3.heap.size < W4.heap.size by omega)).trans h4
    have b5 : Below W4.heap.size W4 (W4.alloc O) := (Below.refl _ _).alloc (Nat.le_refl _) _
    have s5 : (W4.alloc O).heap.size = eb := by rw [heb, ← s4]; simp only [World.alloc, Array.size_push]
    generalize W4.alloc O = W5 at h5 k5 j5 b5 s5 hW6
    have h6 := heap_alloc_new W5 (.cells #[.string ⟨#[]⟩, .slice (some ⟨gb, 0, none⟩) 2 2] 28)
    rw [s5] at h6
    have k6 := (heap_alloc_old W5 (.cells #[.string ⟨#[]⟩, .slice (some ⟨gb, 0, none⟩) 2 2] 28) (show w1.heap.size < W5.heap.size by omega)).trans k5
    have j6 := (heap_alloc_old W5 (.cells #[.string ⟨#[]⟩, .slice (some ⟨gb, 0, none⟩) 2 2] 28) (show w3.heap.size < W5.heap.size by omega)).trans j5
    have g6 := (heap_alloc_old W5 (.cells #[.string ⟨#[]⟩, .slice (some ⟨gb, 0, none⟩) 2 2] 28) (show gb < W5.heap.size by omega)).trans h5
    have b6 : Below W5.heap.size W5 (W5.alloc (.cells #[.string ⟨#[]⟩, .slice (some ⟨gb, 0, none⟩) 2 2] 28)) := (Below.refl _ _).alloc (Nat.le_refl _) _
    rw [← hW6] at h6 k6 j6 g6 b6
    exact ⟨bthen (bthen (bthen (bthen (bthen HB1.out b2) b3) b4) b5) b6, ordA_at HAl.out HCl.out k6 j6 (by rw [g6, ← hO]), h6⟩
  rw [← hgb, ← heb, ← hW6]
  have HB6 := Lib.hid hall.1
  have HEn := Lib.hid hall.2.2
  have hA6 := hall.2.1
  have hw6 := HW.out.below hall.1
  have hx6 := HX.out.below hall.1
  have hsm := ord_small Hm9.out
  have hEv : ∀ (k : Int) (T X : ByteArray) (q : Nat), (Lit.int .i64 k).wf = true → T.size ≤ 1000000 → X.size ≤ 1000000 → evalD (ordL m) (.mk k T.data.toList X.data.toList [] []) = q → ∀ W, Below W6.heap.size W6 W → Calls Tryz.prog 13 #[.agg #[.int .i64 k, .string T, .string X, .slice none 0 0, .slice none 0 0], .agg #[.string ⟨#[]⟩, .slice (some ⟨gb, 0, none⟩) 2 2]] W fun e w' => e = .returned (.int .i64 (q : Int)) ∧ Below W.heap.size W w' := fun k T X q hk hT hX2 hq W hW => by
    have := evalP_any (.mk k T.data.toList X.data.toList [] []) _ (ordL m) ⟨#[]⟩ (some ⟨gb, 0, none⟩) 2 2 W (isFl_leafE _ _ k T X hk hT hX2) hsm (hw6.below hW) (hx6.below hW) (hA6.below hW hW.size)
    rw [hq] at this
    exact this
  have HAw := Lib.hid (fun (W : World) (hW : Below W6.heap.size W6 W) => awake7_any W (hw6.below hW) (hx6.below hW))
  have HBel : Hid (Below W6.heap.size W6 W6) := Lib.hid (Below.refl _ _)
  obtain ⟨e0, e1⟩ := en_cells hall.2.2
  have c1 : ((bN true : Nat) : Int) = 1 := rfl
  have c0 : ((bN false : Nat) : Int) = 0 := rfl
  obtain ⟨eq, heq⟩ : ∃ b, (m == n) = b := ⟨_, rfl⟩
  have hdq : decide (m = n) = eq := by rw [← heq, Bool.eq_iff_iff]; simp
  clear hall hgb heb hW6 HB1 HB3 hma hnb
  cases text with
  | false =>
    obtain ⟨l, hl⟩ : ∃ b, decide (m < n) = b := ⟨_, rfl⟩
    obtain ⟨g, hg⟩ : ∃ b, decide (n < m) = b := ⟨_, rfl⟩
    have h4 := hEv 4 ⟨#[117, 105, 100, 78, 117, 109, 98, 101, 114]⟩ B (bN eq) (by decide) (by decide) (by omega) (by rw [HBl.out, ← hdq]; exact uid_eq Hm9.out Hn9.out)
    have h6 := hEv 6 ⟨#[117, 105, 100, 78, 117, 109, 98, 101, 114]⟩ B (bN (!l)) (by decide) (by decide) (by omega) (by rw [HBl.out, ← hl]; exact uid_ge Hm9.out Hn9.out)
    have h7 := hEv 7 ⟨#[117, 105, 100, 78, 117, 109, 98, 101, 114]⟩ B (bN (!g)) (by decide) (by decide) (by omega) (by rw [HBl.out, ← hg]; exact uid_le Hm9.out Hn9.out)
    have H4 := Lib.hid h4
    have H6 := Lib.hid h6
    have H7 := Lib.hid h7
    clear h4 h6 h7 hEv hdq hA6 hw6 hx6 hsm
    go_upto_region 11 with (first
      | (go_at_call 23; ((with_reducible refine (HDn.out _).mono ?_); rintro e wx ⟨rfl, hb⟩); have HBel := Lib.hid (bthen HBel.out hb); (obtain ⟨e0, e1⟩ := en_cells (en_below HEn.out HBel.out (en_lt HEn.out))); clear hb)
      | (go_at_call 13; refine (H4.out _ HBel.out).mono ?_; rintro e wx ⟨rfl, hb⟩; have HBel := Lib.hid (bthen HBel.out hb); (obtain ⟨e0, e1⟩ := en_cells (en_below HEn.out HBel.out (en_lt HEn.out))); clear hb))
    go_upto_region 12 with (go_at_call 13; refine (H6.out _ HBel.out).mono ?_; rintro e wx ⟨rfl, hb⟩; have HBel := Lib.hid (bthen HBel.out hb); (obtain ⟨e0, e1⟩ := en_cells (en_below HEn.out HBel.out (en_lt HEn.out))); clear hb)
    go_upto_region 13 with (go_at_call 13; refine (H7.out _ HBel.out).mono ?_; rintro e wx ⟨rfl, hb⟩; have HBel := Lib.hid (bthen HBel.out hb); clear hb)
    cases eq <;> cases l <;> cases g <;> simp only [Bool.not_true, Bool.not_false, c1, c0] <;> (
      go_wp2_with (go_at_call 15; refine (HAw.out _ HBel.out).mono ?_; rintro e wy ⟨rfl, hb⟩; have HBf := Lib.hid (bthen HBel.out hb); clear hb)
      go_ret
      exact ⟨rfl, bthen HB6.out HBf.out⟩)
  | true =>
    obtain ⟨l, hl⟩ : ∃ b, Op.bytesLess C.toList E.toList = b := ⟨_, rfl⟩
    have hce : (C.toList == E.toList) = eq := by
      rw [ByteArray.toList_eq, ByteArray.toList_eq, HCl.out, HEl.out, ← hdq, Bool.eq_iff_iff]
      simp only [beq_iff_eq, List.cons.injEq, true_and, decide_eq_true_eq]
      exact ⟨itoa_inj Hm9.out, fun e => by rw [e]⟩
    have hg : Op.bytesLess E.toList C.toList = (!l && !eq) := by rw [bytesLess_tri, hl, hce]
    obtain ⟨g, hgg⟩ : ∃ b, b = (!l && !eq) := ⟨_, rfl⟩
    rw [← hgg] at hg
    have HG := Lib.hid hgg
    clear hgg
    have hl' : Op.bytesLess (99 :: Lib.itoa m) (99 :: Lib.itoa n) = l := by rw [← hl, ByteArray.toList_eq, ByteArray.toList_eq, HCl.out, HEl.out]
    have hg' : Op.bytesLess (99 :: Lib.itoa n) (99 :: Lib.itoa m) = g := by rw [← hg, ByteArray.toList_eq, ByteArray.toList_eq, HCl.out, HEl.out]
    have h4 := hEv 4 ⟨#[99, 110]⟩ V (bN eq) (by decide) (by decide) (by omega) (by rw [HVl.out, ← hdq]; exact cn_eq Hm9.out Hn9.out)
    have h6 := hEv 6 ⟨#[99, 110]⟩ V (bN (!l)) (by decide) (by decide) (by omega) (by rw [HVl.out, ← hl']; exact cn_ge Hm9.out Hn9.out)
    have h7 := hEv 7 ⟨#[99, 110]⟩ V (bN (!g)) (by decide) (by decide) (by omega) (by rw [HVl.out, ← hg']; exact cn_le Hm9.out Hn9.out)
    have H4 := Lib.hid h4
    have H6 := Lib.hid h6
    have H7 := Lib.hid h7
    clear h4 h6 h7 hEv hdq hA6 hw6 hx6 hsm hl' hg' hg
    go_upto_region 10 with (first
      | (go_at_call 23; ((with_reducible refine (HDn.out _).mono ?_); rintro e wx ⟨rfl, hb⟩); have HBel := Lib.hid (bthen HBel.out hb); (obtain ⟨e0, e1⟩ := en_cells (en_below HEn.out HBel.out (en_lt HEn.out))); clear hb)
      | (go_at_call 23; ((with_reducible refine (HDm.out _).mono ?_); rintro e wx ⟨rfl, hb⟩); have HBel := Lib.hid (bthen HBel.out hb); (obtain ⟨e0, e1⟩ := en_cells (en_below HEn.out HBel.out (en_lt HEn.out))); clear hb))
    go_upto_region 11 with (go_at_call 13; refine (H4.out _ HBel.out).mono ?_; rintro e wx ⟨rfl, hb⟩; have HBel := Lib.hid (bthen HBel.out hb); (obtain ⟨e0, e1⟩ := en_cells (en_below HEn.out HBel.out (en_lt HEn.out))); clear hb)
    go_upto_region 12 with (go_at_call 13; refine (H6.out _ HBel.out).mono ?_; rintro e wx ⟨rfl, hb⟩; have HBel := Lib.hid (bthen HBel.out hb); (obtain ⟨e0, e1⟩ := en_cells (en_below HEn.out HBel.out (en_lt HEn.out))); clear hb)
    go_upto_region 13 with (go_at_call 13; refine (H7.out _ HBel.out).mono ?_; rintro e wx ⟨rfl, hb⟩; have HBel := Lib.hid (bthen HBel.out hb); clear hb)
    rw [HG.out]
    clear HG
    cases eq <;> cases l <;> simp only [Bool.not_true, Bool.not_false, Bool.and_true, Bool.and_false, Bool.true_and, Bool.false_and, c1, c0] <;> (
      go_wp2_with (go_at_call 15; refine (HAw.out _ HBel.out).mono ?_; rintro e wy ⟨rfl, hb⟩; have HBf := Lib.hid (bthen HBel.out hb); clear hb)
      go_ret
      exact ⟨rfl, bthen HB6.out HBf.out⟩)
end Go.Proofs.YtmjgiaiccmhnfaaGreatDoor
