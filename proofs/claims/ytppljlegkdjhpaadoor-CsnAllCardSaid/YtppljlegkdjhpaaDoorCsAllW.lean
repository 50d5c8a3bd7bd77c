/- CsnAll: the walk. -/
import Derived.Test.YtppljlegkdjhpaaDoorCsRef
import Derived.Test.YtppljlegkdjhpaaDoorCsAwk
import Derived.Test.YtppljlegkdjhpaaDoorRegDet
namespace Go.Proofs.YtppljlegkdjhpaaDoor
open Go.RowKit
set_option linter.unusedVariables false
set_option linter.unusedSimpArgs false

/-- The boxes: two numbers that were handed in; what was read, and what the document reads. -/
structure Box2 (B : Nat) (e1 n1 e2 n2 : Int) (W0 w : World) : Prop where
  below : Below W0.heap.size W0 w
  a0 : w.cell? ⟨B, 0, none⟩ = some (.int .i64 e1)
  a1 : w.cell? ⟨B, 1, none⟩ = some (.int .i64 n1)
  b0 : w.cell? ⟨B + 1, 0, none⟩ = some (.int .i64 e2)
  b1 : w.cell? ⟨B + 1, 1, none⟩ = some (.int .i64 n2)
theorem Box2.go {B : Nat} {e1 n1 e2 n2 : Int} {W0 w w' : World} (h : Box2 B e1 n1 e2 n2 W0 w) (hB : B + 1 < W0.heap.size) (hb : Below w.heap.size w w') : Box2 B e1 n1 e2 n2 W0 w' := by
  have hs := h.below.size
  exact ⟨bthen h.below hb, (hb.cell (p := ⟨B, 0, none⟩) (by show B < _; omega)).trans h.a0, (hb.cell (p := ⟨B, 1, none⟩) (by show B < _; omega)).trans h.a1, (hb.cell (p := ⟨B + 1, 0, none⟩) (by show B + 1 < _; omega)).trans h.b0, (hb.cell (p := ⟨B + 1, 1, none⟩) (by show B + 1 < _; omega)).trans h.b1⟩
structure Box4 (B c x : Nat) (e1 n1 e2 n2 e n : Int) (o : Bool) (W0 W1 w : World) : Prop where
  two : Box2 B e1 n1 e2 n2 W0 w
  below : Below W1.heap.size W1 w
  c0 : w.cell? ⟨c, 0, none⟩ = some (.int .i64 e)
  c1 : w.cell? ⟨c, 1, none⟩ = some (.int .i64 n)
  x0 : w.cell? ⟨x, 0, none⟩ = some (.int .i64 e)
  x1 : w.cell? ⟨x, 1, none⟩ = some (.int .i64 n)
  x2 : w.cell? ⟨x, 2, none⟩ = some (.bool o)
theorem Box4.go {B c x : Nat} {e1 n1 e2 n2 e n : Int} {o : Bool} {W0 W1 w w' : World} (h : Box4 B c x e1 n1 e2 n2 e n o W0 W1 w) (hB : B + 1 < W0.heap.size) (hc : c < W1.heap.size) (hx : x < W1.heap.size) (hb : Below w.heap.size w w') : Box4 B c x e1 n1 e2 n2 e n o W0 W1 w' := by
  have hs := h.below.size
  exact ⟨h.two.go hB hb, bthen h.below hb, (hb.cell (p := ⟨c, 0, none⟩) (by show c < _; omega)).trans h.c0, (hb.cell (p := ⟨c, 1, none⟩) (by show c < _; omega)).trans h.c1, (hb.cell (p := ⟨x, 0, none⟩) (by show x < _; omega)).trans h.x0, (hb.cell (p := ⟨x, 1, none⟩) (by show x < _; omega)).trans h.x1, (hb.cell (p := ⟨x, 2, none⟩) (by show x < _; omega)).trans h.x2⟩

set_option maxRecDepth 100000 in
set_option maxHeartbeats 8000000 in
theorem csnAll_any (e1 n1 e2 n2 : Int) (s : ByteArray) (ep : Int) (hep : -9223372036854775808 ≤ ep ∧ ep ≤ 9223372036854775807) (hsz : s.size ≤ maxLen) (w : World) (hw : LaidV w) (hx : LaidM w) :
    Calls Tryd.prog 3 #[.agg #[.int .i64 e1, .int .i64 n1], .agg #[.int .i64 e2, .int .i64 n2], .string s, .int .i64 ep] w fun x w' => x = .returned (.bool true) ∧ Below w.heap.size w w' := by
  unfold maxLen at hsz
  obtain ⟨B, hB⟩ : ∃ B, B = w.heap.size := ⟨_, rfl⟩
  obtain ⟨W0, hW0⟩ : ∃ W, W = (w.alloc (.cells #[.int .i64 e1, .int .i64 n1] 23)).alloc (.cells #[.int .i64 e2, .int .i64 n2] 23) := ⟨_, rfl⟩
  have hb0 : Below w.heap.size w W0 := by rw [hW0]; exact (box2C w e1 n1).alloc (by simp) _
  have hs0 : W0.heap.size = B + 2 := by rw [hW0, hB]; go_simp
  have hx0 : Box2 B e1 n1 e2 n2 W0 W0 := by
    refine ⟨Below.refl _ _, ?_, ?_, ?_, ?_⟩ <;> (rw [hW0, hB]; go_simp)
  have hgo : ∀ {a b : World}, Box2 B e1 n1 e2 n2 W0 a → Below a.heap.size a b → Box2 B e1 n1 e2 n2 W0 b := fun h hb => h.go (by omega) hb
  have haw : ∀ W, Below W0.heap.size W0 W → Calls Tryd.prog 6 #[] W fun x w' => x = .returned (.bool true) ∧ Below W.heap.size W w' := fun W h => awake12_any W (hw.below (bthen hb0 h)).2.2
  have HAw := Lib.hid haw
  have HW0 := Lib.hid hW0.symm
  have HB0 := Lib.hid hb0
  have HBe := Lib.hid hB.symm
  have HX0 := Lib.hid hx0
  have HGo := @hgo
  by_cases h100 : 100 < s.size
  · have t1 : decide ((100 : Int) < (s.size : Int)) = true := by simp; omega
    clear hW0 hb0 hB hx0 hgo haw hs0 hw hx
    go_enter Tryd.func3, Tryd.ntmps3
    go_upto_region 1 with (fail)
    rw [HW0.out, HBe.out]
    go_wp2_with (go_at_call 6; refine (HAw.out _ (Below.refl _ _)).mono ?_; rintro x w8 ⟨rfl, hb8⟩; have HB8 := Lib.hid (bthen HB0.out hb8); clear hb8)
    go_ret
    exact ⟨rfl, HB8.out⟩
  · have t1 : decide ((100 : Int) < (s.size : Int)) = false := by simp; omega
    obtain ⟨e, n, o, hro, hrv, hrr⟩ : ∃ (e n : Int) (o : Bool), True ∧ readV (readO s.data.toList) = .tuple #[.agg #[.int .i64 e, .int .i64 n], .bool o] ∧ readRV (readO s.data.toList) = .agg #[.int .i64 e, .int .i64 n, .bool o] := by
      cases readO s.data.toList with
      | none => exact ⟨0, 0, false, trivial, rfl, rfl⟩
      | some p => exact ⟨p.1, p.2, true, trivial, rfl, rfl⟩
    have hrd : ∀ W, Below W0.heap.size W0 W → Calls Tryd.prog 7 #[.string s] W fun x w' => x = .returned (.tuple #[.agg #[.int .i64 e, .int .i64 n], .bool o]) ∧ Below W.heap.size W w' := fun W h => by
      rw [← hrv]; exact readC_any s (by omega) W (hw.below (bthen hb0 h)) (hx.below (bthen hb0 h))
    have hrf : ∀ W, Calls Tryd.prog 8 #[.string s] W fun x w' => x = .returned (.agg #[.int .i64 e, .int .i64 n, .bool o]) ∧ Below W.heap.size W w' := fun W => by
      rw [← hrr]; exact readCR_any s (by omega) W
    have hm1 := fun W => mayC_any e1 n1 W
    have hm2 := fun W => mayR_any e1 n1 W
    have hc1 := fun W => cmpP_any e1 n1 e2 n2 W
    have hc2 := fun W => cmpR_any e1 n1 e2 n2 W
    have htp : mayN e1 n1 = true → ∀ W, Below W0.heap.size W0 W → Calls Tryd.prog 13 #[.agg #[.int .i64 e1, .int .i64 n1]] W fun x w' => x = .returned (.string (ofL (textC e1 n1))) ∧ Below W.heap.size W w' := fun hm W h => by
      obtain ⟨⟨h1, h2⟩, h3, h4⟩ := (mayN_iff e1 n1).1 hm
      exact textP_any e1 n1 ⟨by omega, by omega⟩ ⟨by omega, by omega⟩ W (hw.below (bthen hb0 h)).2.2
    have htr := fun (hm : mayN e1 n1 = true) W => textCR_any e1 n1 hm W
    have hnp := fun W => nextC_any e1 n1 ep W
    have hnr := fun W => nextR_any e1 n1 ep W
    generalize cmpC e1 n1 e2 n2 = X at hc1 hc2
    generalize IntKind.i64.wrap (n1 + 1) = Y at hnp hnr
    generalize ofL (textC e1 n1) = TX at htp htr
    have HRd := Lib.hid hrd
    have HRf := Lib.hid hrf
    have HC1 := Lib.hid hc1
    have HC2 := Lib.hid hc2
    have HNp := Lib.hid hnp
    have HNr := Lib.hid hnr
    have hbox : ∀ (W : World) (x y : Int), Below W.heap.size W (W.alloc (.cells #[.int .i64 x, .int .i64 y] 23)) := fun W x y => (Below.refl _ _).alloc (Nat.le_refl _) _
    have HBox := Lib.hid hbox
    have HS0 := Lib.hid hs0
    have tX : (X == X) = true := by simp
    have tT : (TX.toList == TX.toList) = true := by simp
    have tY : (Y == Y) = true := by simp
    have tee : (e = e) = True := eq_true rfl
    have wnn : (n = n) = True := eq_true rfl
    cases hq : mayN e1 n1 with
    | false =>
      rw [hq] at hm1 hm2
      have HM1 := Lib.hid hm1
      have HM2 := Lib.hid hm2
      clear hW0 hb0 hB hx0 hgo haw hs0 hw hx hrd hrf hm1 hm2 hc1 hc2 htp htr hnp hnr hro hrv hrr hbox hq
      go_enter Tryd.func3, Tryd.ntmps3
      go_upto_region 1 with (fail)
      rw [HW0.out, HBe.out]
      go_upto_region 5 with (first
        | (go_at_call 7; (with_reducible refine (HRd.out _ (Below.refl _ _)).mono ?_); rintro x w2 ⟨rfl, hb2⟩; have HB2 := Lib.hid hb2; clear hb2)
        | (go_at_call 8; (with_reducible refine (HRf.out _).mono ?_); rintro x w3 ⟨rfl, hb3⟩; have HB3 := Lib.hid hb3; clear hb3))
      obtain ⟨W1, hW1⟩ : ∃ W, W = w3.alloc (.cells #[.int .i64 e, .int .i64 n, .bool o] 28) := ⟨_, rfl⟩
      obtain ⟨c, hcc⟩ : ∃ c, c = w2.heap.size := ⟨_, rfl⟩
      obtain ⟨x, hxx⟩ : ∃ c, c = w3.heap.size := ⟨_, rfl⟩
      have hbx : Below w3.heap.size w3 W1 := by rw [hW1]; exact (Below.refl _ _).alloc (Nat.le_refl _) _
      have hb2c := HBox.out w2 e n
      have hcs : (w2.alloc (.cells #[.int .i64 e, .int .i64 n] 23)).heap.size = w2.heap.size + 1 := by go_simp
      have hs1 : W1.heap.size = w3.heap.size + 1 := by rw [hW1]; go_simp
      have hs3 := HB3.out.size
      have hb4 : Box4 B c x e1 n1 e2 n2 e n o W0 W1 W1 := by
        have ha := bthen HB3.out hbx
        refine ⟨HGo (HGo (HGo HX0.out HB2.out) hb2c) ha, Below.refl _ _, ?_, ?_, ?_, ?_, ?_⟩
        · rw [hcc]; exact (ha.cell (p := ⟨w2.heap.size, 0, none⟩) (by show w2.heap.size < _; omega)).trans (by go_simp)
        · rw [hcc]; exact (ha.cell (p := ⟨w2.heap.size, 1, none⟩) (by show w2.heap.size < _; omega)).trans (by go_simp)
        · rw [hxx, hW1]; go_simp
        · rw [hxx, hW1]; go_simp
        · rw [hxx, hW1]; go_simp
      have hgo4 : ∀ {a b : World}, Box4 B c x e1 n1 e2 n2 e n o W0 W1 a → Below a.heap.size a b → Box4 B c x e1 n1 e2 n2 e n o W0 W1 b := fun h hb => h.go (by have := HS0.out; omega) (by omega) (by omega) hb
      rw [← hW1, ← hxx, ← hcc]
      have HGo4 := @hgo4
      have HB4 := Lib.hid hb4
      clear hW1 hcc hxx hbx hb2c hcs hs1 hs3 hb4 hgo4
      refine region_det (by kernel_rfl) (Box4 B c x e1 n1 e2 n2 e n o W0 W1) (HGo4 HB4.out (Below.refl _ _).drew) (by kernel_rfl) ?_
      simp only [List.toList_toArray]
      repeat' (first
        | (refine det_shut (by rfl) ?_; (simp only [Act.put, List.setIfInBounds_toArray, List.set_cons_zero, List.set_cons_succ]))
        | (apply det_val; (case hw => rfl); (case hv => (intro w' hS; (obtain ⟨⟨s0, s1, s2, s3, s4⟩, s5, s6, s7, s8, s9, s10⟩ := hS); go_simp; first | done | with_reducible exact rfl)); (simp only [Act.put, List.setIfInBounds_toArray, List.set_cons_zero, List.set_cons_succ]))
        | (apply det_call; (case hw => rfl); (case hv => (intro w' hS; (obtain ⟨⟨s0, s1, s2, s3, s4⟩, s5, s6, s7, s8, s9, s10⟩ := hS); go_simp; first | done | with_reducible exact rfl | with_reducible exact ⟨rfl, rfl⟩)); (case hc => (intro w' hS; (first | (go_at_call 9; with_reducible exact (HM1.out w').mono (fun e w'' h => ⟨h.1, HGo4 hS h.2⟩)) | (go_at_call 10; with_reducible exact (HM2.out w').mono (fun e w'' h => ⟨h.1, HGo4 hS h.2⟩)) | (go_at_call 11; with_reducible exact (HC1.out w').mono (fun e w'' h => ⟨h.1, HGo4 hS h.2⟩)) | (go_at_call 12; with_reducible exact (HC2.out w').mono (fun e w'' h => ⟨h.1, HGo4 hS h.2⟩))))); (simp only [Act.put, List.setIfInBounds_toArray, List.set_cons_zero, List.set_cons_succ]))
        | fail)
      intro w5 hS5
      have HB5 := Lib.hid hS5
      (obtain ⟨⟨u0, u1, u2, u3, u4⟩, u5, u6, u7, u8, u9, u10⟩ := hS5)
      clear u0 u5
      go_wp2_with (first
        | (go_at_call 10; (with_reducible refine (HM2.out _).mono ?_); rintro x w6 ⟨rfl, hb6⟩; have HB6 := Lib.hid (HGo4 HB5.out hb6); clear hb6)
        | (go_at_call 6; refine (HAw.out _ HB6.out.two.below).mono ?_; rintro x w8 ⟨rfl, hb8⟩; have HB8 := Lib.hid (bthen HB0.out (bthen HB6.out.two.below hb8)); clear hb8))
      go_ret
      exact ⟨rfl, HB8.out⟩
    | true =>
      rw [hq] at hm1 hm2
      have HM1 := Lib.hid hm1
      have HM2 := Lib.hid hm2
      have HTp := Lib.hid (htp hq)
      have HTr := Lib.hid (htr hq)
      clear hW0 hb0 hB hx0 hgo haw hs0 hw hx hrd hrf hm1 hm2 hc1 hc2 htp htr hnp hnr hro hrv hrr hbox hq
      by_cases h0 : ep < 0
      · have t2 : decide (ep < 0) = true := by simp [h0]
        go_enter Tryd.func3, Tryd.ntmps3
        go_upto_region 1 with (fail)
        rw [HW0.out, HBe.out]
        go_upto_region 5 with (first
          | (go_at_call 7; (with_reducible refine (HRd.out _ (Below.refl _ _)).mono ?_); rintro x w2 ⟨rfl, hb2⟩; have HB2 := Lib.hid hb2; clear hb2)
          | (go_at_call 8; (with_reducible refine (HRf.out _).mono ?_); rintro x w3 ⟨rfl, hb3⟩; have HB3 := Lib.hid hb3; clear hb3))
        obtain ⟨W1, hW1⟩ : ∃ W, W = w3.alloc (.cells #[.int .i64 e, .int .i64 n, .bool o] 28) := ⟨_, rfl⟩
        obtain ⟨c, hcc⟩ : ∃ c, c = w2.heap.size := ⟨_, rfl⟩
        obtain ⟨x, hxx⟩ : ∃ c, c = w3.heap.size := ⟨_, rfl⟩
        have hbx : Below w3.heap.size w3 W1 := by rw [hW1]; exact (Below.refl _ _).alloc (Nat.le_refl _) _
        have hb2c := HBox.out w2 e n
        have hcs : (w2.alloc (.cells #[.int .i64 e, .int .i64 n] 23)).heap.size = w2.heap.size + 1 := by go_simp
        have hs1 : W1.heap.size = w3.heap.size + 1 := by rw [hW1]; go_simp
        have hs3 := HB3.out.size
        have hb4 : Box4 B c x e1 n1 e2 n2 e n o W0 W1 W1 := by
          have ha := bthen HB3.out hbx
          refine ⟨HGo (HGo (HGo HX0.out HB2.out) hb2c) ha, Below.refl _ _, ?_, ?_, ?_, ?_, ?_⟩
          · rw [hcc]; exact (ha.cell (p := ⟨w2.heap.size, 0, none⟩) (by show w2.heap.size < _; omega)).trans (by go_simp)
          · rw [hcc]; exact (ha.cell (p := ⟨w2.heap.size, 1, none⟩) (by show w2.heap.size < _; omega)).trans (by go_simp)
          · rw [hxx, hW1]; go_simp
          · rw [hxx, hW1]; go_simp
          · rw [hxx, hW1]; go_simp
        have hgo4 : ∀ {a b : World}, Box4 B c x e1 n1 e2 n2 e n o W0 W1 a → Below a.heap.size a b → Box4 B c x e1 n1 e2 n2 e n o W0 W1 b := fun h hb => h.go (by have := HS0.out; omega) (by omega) (by omega) hb
        rw [← hW1, ← hxx, ← hcc]
        have HGo4 := @hgo4
        have HB4 := Lib.hid hb4
        clear hW1 hcc hxx hbx hb2c hcs hs1 hs3 hb4 hgo4
        refine region_det (by kernel_rfl) (Box4 B c x e1 n1 e2 n2 e n o W0 W1) (HGo4 HB4.out (Below.refl _ _).drew) (by kernel_rfl) ?_
        simp only [List.toList_toArray]
        repeat' (first
          | (refine det_shut (by rfl) ?_; (simp only [Act.put, List.setIfInBounds_toArray, List.set_cons_zero, List.set_cons_succ]))
          | (apply det_val; (case hw => rfl); (case hv => (intro w' hS; (obtain ⟨⟨s0, s1, s2, s3, s4⟩, s5, s6, s7, s8, s9, s10⟩ := hS); go_simp; first | done | with_reducible exact rfl)); (simp only [Act.put, List.setIfInBounds_toArray, List.set_cons_zero, List.set_cons_succ]))
          | (apply det_call; (case hw => rfl); (case hv => (intro w' hS; (obtain ⟨⟨s0, s1, s2, s3, s4⟩, s5, s6, s7, s8, s9, s10⟩ := hS); go_simp; first | done | with_reducible exact rfl | with_reducible exact ⟨rfl, rfl⟩)); (case hc => (intro w' hS; (first | (go_at_call 9; with_reducible exact (HM1.out w').mono (fun e w'' h => ⟨h.1, HGo4 hS h.2⟩)) | (go_at_call 10; with_reducible exact (HM2.out w').mono (fun e w'' h => ⟨h.1, HGo4 hS h.2⟩)) | (go_at_call 11; with_reducible exact (HC1.out w').mono (fun e w'' h => ⟨h.1, HGo4 hS h.2⟩)) | (go_at_call 12; with_reducible exact (HC2.out w').mono (fun e w'' h => ⟨h.1, HGo4 hS h.2⟩))))); (simp only [Act.put, List.setIfInBounds_toArray, List.set_cons_zero, List.set_cons_succ]))
          | fail)
        intro w5 hS5
        have HB5 := Lib.hid hS5
        (obtain ⟨⟨u0, u1, u2, u3, u4⟩, u5, u6, u7, u8, u9, u10⟩ := hS5)
        clear u0 u5
        go_wp2_with (first
          | (go_at_call 10; (with_reducible refine (HM2.out _).mono ?_); rintro x w6 ⟨rfl, hb6⟩; have HB6 := Lib.hid (HGo4 HB5.out hb6); clear hb6)
          | (go_at_call 6; refine (HAw.out _ HB6.out.two.below).mono ?_; rintro x w8 ⟨rfl, hb8⟩; have HB8 := Lib.hid (bthen HB0.out (bthen HB6.out.two.below hb8)); clear hb8))
        go_ret
        exact ⟨rfl, HB8.out⟩
      · have t2 : decide (ep < 0) = false := by simp; omega
        by_cases h9 : 4503599627370496 < ep
        · have t3 : decide (4503599627370496 < ep) = true := by simp [h9]
          go_enter Tryd.func3, Tryd.ntmps3
          go_upto_region 1 with (fail)
          rw [HW0.out, HBe.out]
          go_upto_region 5 with (first
            | (go_at_call 7; (with_reducible refine (HRd.out _ (Below.refl _ _)).mono ?_); rintro x w2 ⟨rfl, hb2⟩; have HB2 := Lib.hid hb2; clear hb2)
            | (go_at_call 8; (with_reducible refine (HRf.out _).mono ?_); rintro x w3 ⟨rfl, hb3⟩; have HB3 := Lib.hid hb3; clear hb3))
          obtain ⟨W1, hW1⟩ : ∃ W, W = w3.alloc (.cells #[.int .i64 e, .int .i64 n, .bool o] 28) := ⟨_, rfl⟩
          obtain ⟨c, hcc⟩ : ∃ c, c = w2.heap.size := ⟨_, rfl⟩
          obtain ⟨x, hxx⟩ : ∃ c, c = w3.heap.size := ⟨_, rfl⟩
          have hbx : Below w3.heap.size w3 W1 := by rw [hW1]; exact (Below.refl _ _).alloc (Nat.le_refl _) _
          have hb2c := HBox.out w2 e n
          have hcs : (w2.alloc (.cells #[.int .i64 e, .int .i64 n] 23)).heap.size = w2.heap.size + 1 := by go_simp
          have hs1 : W1.heap.size = w3.heap.size + 1 := by rw [hW1]; go_simp
          have hs3 := HB3.out.size
          have hb4 : Box4 B c x e1 n1 e2 n2 e n o W0 W1 W1 := by
            have ha := bthen HB3.out hbx
            refine ⟨HGo (HGo (HGo HX0.out HB2.out) hb2c) ha, Below.refl _ _, ?_, ?_, ?_, ?_, ?_⟩
            · rw [hcc]; exact (ha.cell (p := ⟨w2.heap.size, 0, none⟩) (by show w2.heap.size < _; omega)).trans (by go_simp)
            · rw [hcc]; exact (ha.cell (p := ⟨w2.heap.size, 1, none⟩) (by show w2.heap.size < _; omega)).trans (by go_simp)
            · rw [hxx, hW1]; go_simp
            · rw [hxx, hW1]; go_simp
            · rw [hxx, hW1]; go_simp
          have hgo4 : ∀ {a b : World}, Box4 B c x e1 n1 e2 n2 e n o W0 W1 a → Below a.heap.size a b → Box4 B c x e1 n1 e2 n2 e n o W0 W1 b := fun h hb => h.go (by have := HS0.out; omega) (by omega) (by omega) hb
          rw [← hW1, ← hxx, ← hcc]
          have HGo4 := @hgo4
          have HB4 := Lib.hid hb4
          clear hW1 hcc hxx hbx hb2c hcs hs1 hs3 hb4 hgo4
          refine region_det (by kernel_rfl) (Box4 B c x e1 n1 e2 n2 e n o W0 W1) (HGo4 HB4.out (Below.refl _ _).drew) (by kernel_rfl) ?_
          simp only [List.toList_toArray]
          repeat' (first
            | (refine det_shut (by rfl) ?_; (simp only [Act.put, List.setIfInBounds_toArray, List.set_cons_zero, List.set_cons_succ]))
            | (apply det_val; (case hw => rfl); (case hv => (intro w' hS; (obtain ⟨⟨s0, s1, s2, s3, s4⟩, s5, s6, s7, s8, s9, s10⟩ := hS); go_simp; first | done | with_reducible exact rfl)); (simp only [Act.put, List.setIfInBounds_toArray, List.set_cons_zero, List.set_cons_succ]))
            | (apply det_call; (case hw => rfl); (case hv => (intro w' hS; (obtain ⟨⟨s0, s1, s2, s3, s4⟩, s5, s6, s7, s8, s9, s10⟩ := hS); go_simp; first | done | with_reducible exact rfl | with_reducible exact ⟨rfl, rfl⟩)); (case hc => (intro w' hS; (first | (go_at_call 9; with_reducible exact (HM1.out w').mono (fun e w'' h => ⟨h.1, HGo4 hS h.2⟩)) | (go_at_call 10; with_reducible exact (HM2.out w').mono (fun e w'' h => ⟨h.1, HGo4 hS h.2⟩)) | (go_at_call 11; with_reducible exact (HC1.out w').mono (fun e w'' h => ⟨h.1, HGo4 hS h.2⟩)) | (go_at_call 12; with_reducible exact (HC2.out w').mono (fun e w'' h => ⟨h.1, HGo4 hS h.2⟩))))); (simp only [Act.put, List.setIfInBounds_toArray, List.set_cons_zero, List.set_cons_succ]))
            | fail)
          intro w5 hS5
          have HB5 := Lib.hid hS5
          (obtain ⟨⟨u0, u1, u2, u3, u4⟩, u5, u6, u7, u8, u9, u10⟩ := hS5)
          clear u0 u5
          go_wp2_with (first
            | (go_at_call 10; (with_reducible refine (HM2.out _).mono ?_); rintro x w6 ⟨rfl, hb6⟩; have HB6 := Lib.hid (HGo4 HB5.out hb6); clear hb6)
            | (go_at_call 6; refine (HAw.out _ HB6.out.two.below).mono ?_; rintro x w8 ⟨rfl, hb8⟩; have HB8 := Lib.hid (bthen HB0.out (bthen HB6.out.two.below hb8)); clear hb8))
          go_ret
          exact ⟨rfl, HB8.out⟩
        · have t3 : decide (4503599627370496 < ep) = false := by simp; omega
          go_enter Tryd.func3, Tryd.ntmps3
          go_upto_region 1 with (fail)
          rw [HW0.out, HBe.out]
          go_upto_region 5 with (first
            | (go_at_call 7; (with_reducible refine (HRd.out _ (Below.refl _ _)).mono ?_); rintro x w2 ⟨rfl, hb2⟩; have HB2 := Lib.hid hb2; clear hb2)
            | (go_at_call 8; (with_reducible refine (HRf.out _).mono ?_); rintro x w3 ⟨rfl, hb3⟩; have HB3 := Lib.hid hb3; clear hb3))
          obtain ⟨W1, hW1⟩ : ∃ W, W = w3.alloc (.cells #[.int .i64 e, .int .i64 n, .bool o] 28) := ⟨_, rfl⟩
          obtain ⟨c, hcc⟩ : ∃ c, c = w2.heap.size := ⟨_, rfl⟩
          obtain ⟨x, hxx⟩ : ∃ c, c = w3.heap.size := ⟨_, rfl⟩
          have hbx : Below w3.heap.size w3 W1 := by rw [hW1]; exact (Below.refl _ _).alloc (Nat.le_refl _) _
          have hb2c := HBox.out w2 e n
          have hcs : (w2.alloc (.cells #[.int .i64 e, .int .i64 n] 23)).heap.size = w2.heap.size + 1 := by go_simp
          have hs1 : W1.heap.size = w3.heap.size + 1 := by rw [hW1]; go_simp
          have hs3 := HB3.out.size
          have hb4 : Box4 B c x e1 n1 e2 n2 e n o W0 W1 W1 := by
            have ha := bthen HB3.out hbx
            refine ⟨HGo (HGo (HGo HX0.out HB2.out) hb2c) ha, Below.refl _ _, ?_, ?_, ?_, ?_, ?_⟩
            · rw [hcc]; exact (ha.cell (p := ⟨w2.heap.size, 0, none⟩) (by show w2.heap.size < _; omega)).trans (by go_simp)
            · rw [hcc]; exact (ha.cell (p := ⟨w2.heap.size, 1, none⟩) (by show w2.heap.size < _; omega)).trans (by go_simp)
            · rw [hxx, hW1]; go_simp
            · rw [hxx, hW1]; go_simp
            · rw [hxx, hW1]; go_simp
          have hgo4 : ∀ {a b : World}, Box4 B c x e1 n1 e2 n2 e n o W0 W1 a → Below a.heap.size a b → Box4 B c x e1 n1 e2 n2 e n o W0 W1 b := fun h hb => h.go (by have := HS0.out; omega) (by omega) (by omega) hb
          rw [← hW1, ← hxx, ← hcc]
          have HGo4 := @hgo4
          have HB4 := Lib.hid hb4
          clear hW1 hcc hxx hbx hb2c hcs hs1 hs3 hb4 hgo4
          refine region_det (by kernel_rfl) (Box4 B c x e1 n1 e2 n2 e n o W0 W1) (HGo4 HB4.out (Below.refl _ _).drew) (by kernel_rfl) ?_
          simp only [List.toList_toArray]
          repeat' (first
            | (refine det_shut (by rfl) ?_; (simp only [Act.put, List.setIfInBounds_toArray, List.set_cons_zero, List.set_cons_succ]))
            | (apply det_val; (case hw => rfl); (case hv => (intro w' hS; (obtain ⟨⟨s0, s1, s2, s3, s4⟩, s5, s6, s7, s8, s9, s10⟩ := hS); go_simp; first | done | with_reducible exact rfl)); (simp only [Act.put, List.setIfInBounds_toArray, List.set_cons_zero, List.set_cons_succ]))
            | (apply det_call; (case hw => rfl); (case hv => (intro w' hS; (obtain ⟨⟨s0, s1, s2, s3, s4⟩, s5, s6, s7, s8, s9, s10⟩ := hS); go_simp; first | done | with_reducible exact rfl | with_reducible exact ⟨rfl, rfl⟩)); (case hc => (intro w' hS; (first | (go_at_call 9; with_reducible exact (HM1.out w').mono (fun e w'' h => ⟨h.1, HGo4 hS h.2⟩)) | (go_at_call 10; with_reducible exact (HM2.out w').mono (fun e w'' h => ⟨h.1, HGo4 hS h.2⟩)) | (go_at_call 11; with_reducible exact (HC1.out w').mono (fun e w'' h => ⟨h.1, HGo4 hS h.2⟩)) | (go_at_call 12; with_reducible exact (HC2.out w').mono (fun e w'' h => ⟨h.1, HGo4 hS h.2⟩))))); (simp only [Act.put, List.setIfInBounds_toArray, List.set_cons_zero, List.set_cons_succ]))
            | fail)
          intro w5 hS5
          have HB5 := Lib.hid hS5
          (obtain ⟨⟨u0, u1, u2, u3, u4⟩, u5, u6, u7, u8, u9, u10⟩ := hS5)
          clear u0 u5
          go_upto_region 9 with (go_at_call 10; (with_reducible refine (HM2.out _).mono ?_); rintro x w6 ⟨rfl, hb6⟩; have HB6 := Lib.hid (HGo4 HB5.out hb6); clear hb6)
          refine region_det (by kernel_rfl) (Box4 B c x e1 n1 e2 n2 e n o W0 W1) (HGo4 HB6.out (Below.refl _ _).drew) (by kernel_rfl) ?_
          simp only [List.toList_toArray]
          repeat' (first
            | (refine det_shut (by rfl) ?_; (simp only [Act.put, List.setIfInBounds_toArray, List.set_cons_zero, List.set_cons_succ]))
            | (apply det_val; (case hw => rfl); (case hv => (intro w' hS; (obtain ⟨⟨s0, s1, s2, s3, s4⟩, s5, s6, s7, s8, s9, s10⟩ := hS); go_simp; first | done | with_reducible exact rfl)); (simp only [Act.put, List.setIfInBounds_toArray, List.set_cons_zero, List.set_cons_succ]))
            | (apply det_call; (case hw => rfl); (case hv => (intro w' hS; (obtain ⟨⟨s0, s1, s2, s3, s4⟩, s5, s6, s7, s8, s9, s10⟩ := hS); go_simp; first | done | with_reducible exact rfl | with_reducible exact ⟨rfl, rfl⟩)); (case hc => (intro w' hS; (first | (go_at_call 13; with_reducible exact (HTp.out w' hS.two.below).mono (fun e w'' h => ⟨h.1, HGo4 hS h.2⟩)) | (go_at_call 14; with_reducible exact (HTr.out w').mono (fun e w'' h => ⟨h.1, HGo4 hS h.2⟩)) | (go_at_call 15; with_reducible exact (HNp.out w').mono (fun e w'' h => ⟨h.1, HGo4 hS h.2⟩)) | (go_at_call 16; with_reducible exact (HNr.out w').mono (fun e w'' h => ⟨h.1, HGo4 hS h.2⟩)) | (go_at_call 6; with_reducible exact (HAw.out w' hS.two.below).mono (fun e w'' h => ⟨h.1, HGo4 hS h.2⟩))))); (simp only [Act.put, List.setIfInBounds_toArray, List.set_cons_zero, List.set_cons_succ]))
            | fail)
          intro w9 hS9
          have HB9 := Lib.hid (bthen HB0.out hS9.two.below)
          go_wp2
          go_ret
          exact ⟨rfl, HB9.out⟩
end Go.Proofs.YtppljlegkdjhpaaDoor
