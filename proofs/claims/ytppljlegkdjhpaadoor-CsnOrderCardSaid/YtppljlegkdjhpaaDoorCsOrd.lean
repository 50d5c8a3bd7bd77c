/- CsnOrder: the walk. -/
import Derived.Test.YtppljlegkdjhpaaDoorCsAwk
import Derived.Test.YtppljlegkdjhpaaDoorRegDet
namespace Go.Proofs.YtppljlegkdjhpaaDoor
open Go.RowKit
set_option linter.unusedVariables false
set_option linter.unusedSimpArgs false

/-- Three numbers of changes in their boxes. -/
structure Box3 (B : Nat) (e1 n1 e2 n2 e3 n3 : Int) (W0 w : World) : Prop where
  below : Below W0.heap.size W0 w
  a0 : w.cell? ⟨B, 0, none⟩ = some (.int .i64 e1)
  a1 : w.cell? ⟨B, 1, none⟩ = some (.int .i64 n1)
  b0 : w.cell? ⟨B + 1, 0, none⟩ = some (.int .i64 e2)
  b1 : w.cell? ⟨B + 1, 1, none⟩ = some (.int .i64 n2)
  c0 : w.cell? ⟨B + 2, 0, none⟩ = some (.int .i64 e3)
  c1 : w.cell? ⟨B + 2, 1, none⟩ = some (.int .i64 n3)
theorem Box3.go {B : Nat} {e1 n1 e2 n2 e3 n3 : Int} {W0 w w' : World} (h : Box3 B e1 n1 e2 n2 e3 n3 W0 w) (hB : B + 2 < W0.heap.size) (hb : Below w.heap.size w w') : Box3 B e1 n1 e2 n2 e3 n3 W0 w' := by
  have hs := h.below.size
  exact ⟨bthen h.below hb, (hb.cell (p := ⟨B, 0, none⟩) (by show B < _; omega)).trans h.a0, (hb.cell (p := ⟨B, 1, none⟩) (by show B < _; omega)).trans h.a1, (hb.cell (p := ⟨B + 1, 0, none⟩) (by show B + 1 < _; omega)).trans h.b0, (hb.cell (p := ⟨B + 1, 1, none⟩) (by show B + 1 < _; omega)).trans h.b1, (hb.cell (p := ⟨B + 2, 0, none⟩) (by show B + 2 < _; omega)).trans h.c0, (hb.cell (p := ⟨B + 2, 1, none⟩) (by show B + 2 < _; omega)).trans h.c1⟩

/-! ### How they stand -/
theorem cmpC_range (e n f m : Int) : cmpC e n f m = -1 ∨ cmpC e n f m = 0 ∨ cmpC e n f m = 1 := by
  unfold cmpC Lib.compareInt
  (repeat' split) <;> omega
theorem cmpC_neg (e n f m : Int) : cmpC e n f m = -cmpC f m e n := by
  unfold cmpC Lib.compareInt
  (repeat' split) <;> omega
theorem cmpC_zero (e n f m : Int) : cmpC e n f m = 0 ↔ e = f ∧ n = m := by
  unfold cmpC Lib.compareInt
  (repeat' split) <;> omega
theorem cmpC_le (e n f m : Int) : cmpC e n f m ≤ 0 ↔ e < f ∨ e = f ∧ n ≤ m := by
  unfold cmpC Lib.compareInt
  (repeat' split) <;> omega
theorem cmpC_trans {e n f m g k : Int} (h1 : cmpC e n f m ≤ 0) (h2 : cmpC f m g k ≤ 0) : cmpC e n g k ≤ 0 := by
  rw [cmpC_le] at *
  omega
theorem cmpC_next {e n f : Int} (h : e ≤ f) : cmpC f (n + 1) e n = 1 := by
  unfold cmpC Lib.compareInt
  (repeat' split) <;> omega

set_option maxRecDepth 100000 in
set_option maxHeartbeats 4000000 in
theorem csnOrder_any (e1 n1 e2 n2 e3 n3 : Int) (more : Int) (hmo : 0 ≤ more ∧ more ≤ 65535) (w : World) (hw : LaidT w) :
    Calls Tryd.prog 5 #[.agg #[.int .i64 e1, .int .i64 n1], .agg #[.int .i64 e2, .int .i64 n2], .agg #[.int .i64 e3, .int .i64 n3], .int .u16 more] w fun x w' => x = .returned (.bool true) ∧ Below w.heap.size w w' := by
  obtain ⟨B, hB⟩ : ∃ B, B = w.heap.size := ⟨_, rfl⟩
  obtain ⟨W0, hW0⟩ : ∃ W, W = ((w.alloc (.cells #[.int .i64 e1, .int .i64 n1] 23)).alloc (.cells #[.int .i64 e2, .int .i64 n2] 23)).alloc (.cells #[.int .i64 e3, .int .i64 n3] 23) := ⟨_, rfl⟩
  have hb0 : Below w.heap.size w W0 := by rw [hW0]; exact ((box2C w e1 n1).alloc (by simp) _).alloc (by simp; omega) _
  have hsz : W0.heap.size = B + 3 := by rw [hW0, hB]; go_simp
  have hx0 : Box3 B e1 n1 e2 n2 e3 n3 W0 W0 := by
    refine ⟨Below.refl _ _, ?_, ?_, ?_, ?_, ?_, ?_⟩ <;> (rw [hW0, hB]; go_simp)
  have hgo : ∀ {a b : World}, Box3 B e1 n1 e2 n2 e3 n3 W0 a → Below a.heap.size a b → Box3 B e1 n1 e2 n2 e3 n3 W0 b := fun h hb => h.go (by omega) hb
  have haw : ∀ W, Box3 B e1 n1 e2 n2 e3 n3 W0 W → Calls Tryd.prog 6 #[] W fun x w' => x = .returned (.bool true) ∧ Below W.heap.size W w' := fun W h => awake12_any W (hw.below (bthen hb0 h.below))
  obtain ⟨c0, c1, c2, c3, c4, c5⟩ := And.intro hx0.a0 (And.intro hx0.a1 (And.intro hx0.b0 (And.intro hx0.b1 (And.intro hx0.c0 hx0.c1))))
  have hm1 := fun W => mayR_any e1 n1 W
  have hm2 := fun W => mayR_any e2 n2 W
  have hm3 := fun W => mayR_any e3 n3 W
  have hx12 := fun W => cmpP_any e1 n1 e2 n2 W
  have hx21 := fun W => cmpP_any e2 n2 e1 n1 W
  have hx23 := fun W => cmpP_any e2 n2 e3 n3 W
  have hx13 := fun W => cmpP_any e1 n1 e3 n3 W
  have hst : Box3 B e1 n1 e2 n2 e3 n3 W0 W0.drew := hgo hx0 (Below.refl _ _).drew
  cases hq1 : mayN e1 n1 with
  | false =>
    have HAw := Lib.hid haw
    have HGo := @hgo
    have HW0 := Lib.hid hW0.symm
    have HB0 := Lib.hid hb0
    have HBe := Lib.hid hB.symm
    have HX0 := Lib.hid hx0
    rw [hq1] at hm1
    have HM1 := Lib.hid hm1
    clear hm1 hm2 hm3 haw hx12 hx21 hx23 hx13 hW0 hb0 hsz hx0 hgo hq1 hw hB
    go_enter Tryd.func5, Tryd.ntmps5
    go_upto_region 1 with (fail)
    rw [HW0.out, HBe.out]
    go_wp2_with (first
      | (go_at_call 10; (with_reducible refine (HM1.out _).mono ?_); rintro x w1 ⟨rfl, hb1⟩; have HB1 := Lib.hid (HGo HX0.out hb1); (obtain ⟨y10, y11, y12, y13, y14, y15, y16⟩ := HB1.out); clear hb1)
      | (go_at_call 6; (with_reducible refine (HAw.out _ HB1.out).mono ?_); rintro x w8 ⟨rfl, hb8⟩; have HB8 := Lib.hid (bthen HB0.out (bthen HB1.out.below hb8)); clear hb8))
    go_ret
    exact ⟨rfl, HB8.out⟩
  | true =>
    cases hq2 : mayN e2 n2 with
    | false =>
      have HAw := Lib.hid haw
      have HGo := @hgo
      have HW0 := Lib.hid hW0.symm
      have HB0 := Lib.hid hb0
      have HBe := Lib.hid hB.symm
      have HX0 := Lib.hid hx0
      rw [hq1] at hm1
      have HM1 := Lib.hid hm1
      rw [hq2] at hm2
      have HM2 := Lib.hid hm2
      clear hm1 hm2 hm3 haw hx12 hx21 hx23 hx13 hW0 hb0 hsz hx0 hgo hq1 hq2 hw hB
      go_enter Tryd.func5, Tryd.ntmps5
      go_upto_region 1 with (fail)
      rw [HW0.out, HBe.out]
      go_wp2_with (first
        | (go_at_call 10; (with_reducible refine (HM1.out _).mono ?_); rintro x w1 ⟨rfl, hb1⟩; have HB1 := Lib.hid (HGo HX0.out hb1); (obtain ⟨y10, y11, y12, y13, y14, y15, y16⟩ := HB1.out); clear hb1)
        | (go_at_call 10; (with_reducible refine (HM2.out _).mono ?_); rintro x w2 ⟨rfl, hb2⟩; have HB2 := Lib.hid (HGo HB1.out hb2); (obtain ⟨y20, y21, y22, y23, y24, y25, y26⟩ := HB2.out); clear hb2)
        | (go_at_call 6; (with_reducible refine (HAw.out _ HB2.out).mono ?_); rintro x w8 ⟨rfl, hb8⟩; have HB8 := Lib.hid (bthen HB0.out (bthen HB2.out.below hb8)); clear hb8))
      go_ret
      exact ⟨rfl, HB8.out⟩
    | true =>
      cases hq3 : mayN e3 n3 with
      | false =>
        have HAw := Lib.hid haw
        have HGo := @hgo
        have HW0 := Lib.hid hW0.symm
        have HB0 := Lib.hid hb0
        have HBe := Lib.hid hB.symm
        have HX0 := Lib.hid hx0
        rw [hq1] at hm1
        have HM1 := Lib.hid hm1
        rw [hq2] at hm2
        have HM2 := Lib.hid hm2
        rw [hq3] at hm3
        have HM3 := Lib.hid hm3
        clear hm1 hm2 hm3 haw hx12 hx21 hx23 hx13 hW0 hb0 hsz hx0 hgo hq1 hq2 hq3 hw hB
        go_enter Tryd.func5, Tryd.ntmps5
        go_upto_region 1 with (fail)
        rw [HW0.out, HBe.out]
        go_wp2_with (first
          | (go_at_call 10; (with_reducible refine (HM1.out _).mono ?_); rintro x w1 ⟨rfl, hb1⟩; have HB1 := Lib.hid (HGo HX0.out hb1); (obtain ⟨y10, y11, y12, y13, y14, y15, y16⟩ := HB1.out); clear hb1)
          | (go_at_call 10; (with_reducible refine (HM2.out _).mono ?_); rintro x w2 ⟨rfl, hb2⟩; have HB2 := Lib.hid (HGo HB1.out hb2); (obtain ⟨y20, y21, y22, y23, y24, y25, y26⟩ := HB2.out); clear hb2)
          | (go_at_call 10; (with_reducible refine (HM3.out _).mono ?_); rintro x w3 ⟨rfl, hb3⟩; have HB3 := Lib.hid (HGo HB2.out hb3); (obtain ⟨y30, y31, y32, y33, y34, y35, y36⟩ := HB3.out); clear hb3)
          | (go_at_call 6; (with_reducible refine (HAw.out _ HB3.out).mono ?_); rintro x w8 ⟨rfl, hb8⟩; have HB8 := Lib.hid (bthen HB0.out (bthen HB3.out.below hb8)); clear hb8))
        go_ret
        exact ⟨rfl, HB8.out⟩
      | true =>
        rw [hq1] at hm1
        rw [hq2] at hm2
        rw [hq3] at hm3
        obtain ⟨⟨he0, he1⟩, hn0, hn1⟩ := (mayN_iff e1 n1).1 hq1
        have hnx : ∀ W, Calls Tryd.prog 15 #[.agg #[.int .i64 e1, .int .i64 n1], .int .i64 (e1 + more)] W fun x w' => x = .returned (.agg #[.int .i64 (e1 + more), .int .i64 (n1 + 1)]) ∧ Below W.heap.size W w' := fun W => by
          have := nextC_any e1 n1 (e1 + more) W
          rw [IntWalk.i64_in _ (by omega)] at this
          exact this
        have hcn : ∀ W, Calls Tryd.prog 11 #[.agg #[.int .i64 (e1 + more), .int .i64 (n1 + 1)], .agg #[.int .i64 e1, .int .i64 n1]] W fun x w' => x = .returned (.int .i64 1) ∧ Below W.heap.size W w' := fun W => by
          have := cmpP_any (e1 + more) (n1 + 1) e1 n1 W
          rw [cmpC_next (by omega)] at this
          exact this
        have wr1 : IntKind.i64.wrap 1 = 1 := by decide
        have wr0 : IntKind.i64.wrap 0 = 0 := by decide
        have wrm : IntKind.i64.wrap (-1) = -1 := by decide
        have ew : IntKind.i64.wrap more = more := IntWalk.i64_in _ (by omega)
        have ew2 : IntKind.i64.wrap (e1 + more) = e1 + more := IntWalk.i64_in _ (by omega)
        have ew3 : wrap64 (e1 + more) = e1 + more := IntWalk.wrap64_in _ (by omega)
        have ew4 : wrap64 more = more := IntWalk.wrap64_in _ (by omega)
        have hz := cmpC_zero e1 n1 e2 n2
        have hng := cmpC_neg e2 n2 e1 n1
        have hrg := cmpC_range e1 n1 e2 n2
        have htr := @cmpC_trans e1 n1 e2 n2 e3 n3
        generalize cmpC e1 n1 e2 n2 = X12 at hx12 hz hng hrg htr
        generalize cmpC e2 n2 e1 n1 = X21 at hx21 hng
        generalize cmpC e2 n2 e3 n3 = X23 at hx23 htr
        generalize cmpC e1 n1 e3 n3 = X13 at hx13 htr
        subst hng
        have HM1 := Lib.hid hm1
        have HM2 := Lib.hid hm2
        have HM3 := Lib.hid hm3
        have HAw := Lib.hid haw
        have HX12 := Lib.hid hx12
        have HX21 := Lib.hid hx21
        have HX23 := Lib.hid hx23
        have HX13 := Lib.hid hx13
        have HNx := Lib.hid hnx
        have HCn := Lib.hid hcn
        have HGo := @hgo
        have HW0 := Lib.hid hW0.symm
        have HB0 := Lib.hid hb0
        have HBe := Lib.hid hB.symm
        have HX0 := Lib.hid hx0
        clear hm1 hm2 hm3 haw hx12 hx21 hx23 hx13 hnx hcn hW0 hb0 hsz hx0 hgo hq1 hq2 hq3 he0 he1 hn0 hn1 hw hB
        clear hmo
        rcases hrg with rfl | rfl | rfl
        · have hne : ¬ (e1 = e2 ∧ n1 = n2) := fun h => by have := hz.2 h; omega
          clear hz
          by_cases hee : e1 = e2
          · have hnn : ¬ n1 = n2 := fun h => hne ⟨hee, h⟩
            replace hee : (e1 = e2) = True := eq_true hee
            clear hne
            by_cases h23 : X23 ≤ 0
            · have t23 : decide (X23 ≤ 0) = true := by simp [h23]
              have t13 : decide (0 < X13) = false := by have := htr (by omega) h23; simp; omega
              clear htr
              go_enter Tryd.func5, Tryd.ntmps5
              go_upto_region 1 with (fail)
              rw [HW0.out, HBe.out]
              go_upto_region 3 with (first
                | (go_at_call 10; (with_reducible refine (HM1.out _).mono ?_); rintro x w2 ⟨rfl, hb2⟩; have HB2 := Lib.hid (HGo HX0.out hb2); (obtain ⟨y0, y1, y2, y3, y4, y5, y6⟩ := HB2.out); clear hb2)
                | (go_at_call 10; (with_reducible refine (HM2.out _).mono ?_); rintro x w3 ⟨rfl, hb3⟩; have HB3 := Lib.hid (HGo HB2.out hb3); (obtain ⟨z0, z1, z2, z3, z4, z5, z6⟩ := HB3.out); clear hb3)
                | (go_at_call 10; (with_reducible refine (HM3.out _).mono ?_); rintro x w4 ⟨rfl, hb4⟩; have HB4 := Lib.hid (HGo HB3.out hb4); (obtain ⟨x0, x1, x2, x3, x4, x5, x6⟩ := HB4.out); clear hb4))
              refine region_det (by kernel_rfl) (Box3 B e1 n1 e2 n2 e3 n3 W0) (HGo HB4.out (Below.refl _ _).drew) (by kernel_rfl) ?_
              simp only [List.toList_toArray]
              repeat' (first
                | (refine det_shut (by rfl) ?_; (simp only [Act.put, List.setIfInBounds_toArray, List.set_cons_zero, List.set_cons_succ]))
                | (apply det_val; (case hw => rfl); (case hv => (intro w' hS; (obtain ⟨s0, s1, s2, s3, s4, s5, s6⟩ := hS); go_simp; first | done | with_reducible exact rfl)); (simp only [Act.put, List.setIfInBounds_toArray, List.set_cons_zero, List.set_cons_succ]))
                | (apply det_call; (case hw => rfl); (case hv => (intro w' hS; (obtain ⟨s0, s1, s2, s3, s4, s5, s6⟩ := hS); go_simp; first | done | with_reducible exact rfl | with_reducible exact ⟨rfl, rfl⟩)); (case hc => (intro w' hS; (first | (go_at_call 11; with_reducible exact (HX12.out w').mono (fun e w'' h => ⟨h.1, HGo hS h.2⟩)) | (go_at_call 11; with_reducible exact (HX21.out w').mono (fun e w'' h => ⟨h.1, HGo hS h.2⟩)) | (go_at_call 11; with_reducible exact (HX23.out w').mono (fun e w'' h => ⟨h.1, HGo hS h.2⟩)) | (go_at_call 11; with_reducible exact (HX13.out w').mono (fun e w'' h => ⟨h.1, HGo hS h.2⟩)) | (go_at_call 11; with_reducible exact (HCn.out w').mono (fun e w'' h => ⟨h.1, HGo hS h.2⟩)) | (go_at_call 15; with_reducible exact (HNx.out w').mono (fun e w'' h => ⟨h.1, HGo hS h.2⟩)) | (go_at_call 6; with_reducible exact (HAw.out w' hS).mono (fun e w'' h => ⟨h.1, HGo hS h.2⟩))))); (simp only [Act.put, List.setIfInBounds_toArray, List.set_cons_zero, List.set_cons_succ]))
                | fail)
              intro w9 hS9
              have HB9 := Lib.hid (bthen HB0.out hS9.below)
              go_wp2
              go_ret
              exact ⟨rfl, HB9.out⟩
            · have t23 : decide (X23 ≤ 0) = false := by simp [h23]
              clear htr
              go_enter Tryd.func5, Tryd.ntmps5
              go_upto_region 1 with (fail)
              rw [HW0.out, HBe.out]
              go_upto_region 3 with (first
                | (go_at_call 10; (with_reducible refine (HM1.out _).mono ?_); rintro x w2 ⟨rfl, hb2⟩; have HB2 := Lib.hid (HGo HX0.out hb2); (obtain ⟨y0, y1, y2, y3, y4, y5, y6⟩ := HB2.out); clear hb2)
                | (go_at_call 10; (with_reducible refine (HM2.out _).mono ?_); rintro x w3 ⟨rfl, hb3⟩; have HB3 := Lib.hid (HGo HB2.out hb3); (obtain ⟨z0, z1, z2, z3, z4, z5, z6⟩ := HB3.out); clear hb3)
                | (go_at_call 10; (with_reducible refine (HM3.out _).mono ?_); rintro x w4 ⟨rfl, hb4⟩; have HB4 := Lib.hid (HGo HB3.out hb4); (obtain ⟨x0, x1, x2, x3, x4, x5, x6⟩ := HB4.out); clear hb4))
              refine region_det (by kernel_rfl) (Box3 B e1 n1 e2 n2 e3 n3 W0) (HGo HB4.out (Below.refl _ _).drew) (by kernel_rfl) ?_
              simp only [List.toList_toArray]
              repeat' (first
                | (refine det_shut (by rfl) ?_; (simp only [Act.put, List.setIfInBounds_toArray, List.set_cons_zero, List.set_cons_succ]))
                | (apply det_val; (case hw => rfl); (case hv => (intro w' hS; (obtain ⟨s0, s1, s2, s3, s4, s5, s6⟩ := hS); go_simp; first | done | with_reducible exact rfl)); (simp only [Act.put, List.setIfInBounds_toArray, List.set_cons_zero, List.set_cons_succ]))
                | (apply det_call; (case hw => rfl); (case hv => (intro w' hS; (obtain ⟨s0, s1, s2, s3, s4, s5, s6⟩ := hS); go_simp; first | done | with_reducible exact rfl | with_reducible exact ⟨rfl, rfl⟩)); (case hc => (intro w' hS; (first | (go_at_call 11; with_reducible exact (HX12.out w').mono (fun e w'' h => ⟨h.1, HGo hS h.2⟩)) | (go_at_call 11; with_reducible exact (HX21.out w').mono (fun e w'' h => ⟨h.1, HGo hS h.2⟩)) | (go_at_call 11; with_reducible exact (HX23.out w').mono (fun e w'' h => ⟨h.1, HGo hS h.2⟩)) | (go_at_call 11; with_reducible exact (HX13.out w').mono (fun e w'' h => ⟨h.1, HGo hS h.2⟩)) | (go_at_call 11; with_reducible exact (HCn.out w').mono (fun e w'' h => ⟨h.1, HGo hS h.2⟩)) | (go_at_call 15; with_reducible exact (HNx.out w').mono (fun e w'' h => ⟨h.1, HGo hS h.2⟩)) | (go_at_call 6; with_reducible exact (HAw.out w' hS).mono (fun e w'' h => ⟨h.1, HGo hS h.2⟩))))); (simp only [Act.put, List.setIfInBounds_toArray, List.set_cons_zero, List.set_cons_succ]))
                | fail)
              intro w9 hS9
              have HB9 := Lib.hid (bthen HB0.out hS9.below)
              go_wp2
              go_ret
              exact ⟨rfl, HB9.out⟩
          · clear hne
            by_cases h23 : X23 ≤ 0
            · have t23 : decide (X23 ≤ 0) = true := by simp [h23]
              have t13 : decide (0 < X13) = false := by have := htr (by omega) h23; simp; omega
              clear htr
              go_enter Tryd.func5, Tryd.ntmps5
              go_upto_region 1 with (fail)
              rw [HW0.out, HBe.out]
              go_upto_region 3 with (first
                | (go_at_call 10; (with_reducible refine (HM1.out _).mono ?_); rintro x w2 ⟨rfl, hb2⟩; have HB2 := Lib.hid (HGo HX0.out hb2); (obtain ⟨y0, y1, y2, y3, y4, y5, y6⟩ := HB2.out); clear hb2)
                | (go_at_call 10; (with_reducible refine (HM2.out _).mono ?_); rintro x w3 ⟨rfl, hb3⟩; have HB3 := Lib.hid (HGo HB2.out hb3); (obtain ⟨z0, z1, z2, z3, z4, z5, z6⟩ := HB3.out); clear hb3)
                | (go_at_call 10; (with_reducible refine (HM3.out _).mono ?_); rintro x w4 ⟨rfl, hb4⟩; have HB4 := Lib.hid (HGo HB3.out hb4); (obtain ⟨x0, x1, x2, x3, x4, x5, x6⟩ := HB4.out); clear hb4))
              refine region_det (by kernel_rfl) (Box3 B e1 n1 e2 n2 e3 n3 W0) (HGo HB4.out (Below.refl _ _).drew) (by kernel_rfl) ?_
              simp only [List.toList_toArray]
              repeat' (first
                | (refine det_shut (by rfl) ?_; (simp only [Act.put, List.setIfInBounds_toArray, List.set_cons_zero, List.set_cons_succ]))
                | (apply det_val; (case hw => rfl); (case hv => (intro w' hS; (obtain ⟨s0, s1, s2, s3, s4, s5, s6⟩ := hS); go_simp; first | done | with_reducible exact rfl)); (simp only [Act.put, List.setIfInBounds_toArray, List.set_cons_zero, List.set_cons_succ]))
                | (apply det_call; (case hw => rfl); (case hv => (intro w' hS; (obtain ⟨s0, s1, s2, s3, s4, s5, s6⟩ := hS); go_simp; first | done | with_reducible exact rfl | with_reducible exact ⟨rfl, rfl⟩)); (case hc => (intro w' hS; (first | (go_at_call 11; with_reducible exact (HX12.out w').mono (fun e w'' h => ⟨h.1, HGo hS h.2⟩)) | (go_at_call 11; with_reducible exact (HX21.out w').mono (fun e w'' h => ⟨h.1, HGo hS h.2⟩)) | (go_at_call 11; with_reducible exact (HX23.out w').mono (fun e w'' h => ⟨h.1, HGo hS h.2⟩)) | (go_at_call 11; with_reducible exact (HX13.out w').mono (fun e w'' h => ⟨h.1, HGo hS h.2⟩)) | (go_at_call 11; with_reducible exact (HCn.out w').mono (fun e w'' h => ⟨h.1, HGo hS h.2⟩)) | (go_at_call 15; with_reducible exact (HNx.out w').mono (fun e w'' h => ⟨h.1, HGo hS h.2⟩)) | (go_at_call 6; with_reducible exact (HAw.out w' hS).mono (fun e w'' h => ⟨h.1, HGo hS h.2⟩))))); (simp only [Act.put, List.setIfInBounds_toArray, List.set_cons_zero, List.set_cons_succ]))
                | fail)
              intro w9 hS9
              have HB9 := Lib.hid (bthen HB0.out hS9.below)
              go_wp2
              go_ret
              exact ⟨rfl, HB9.out⟩
            · have t23 : decide (X23 ≤ 0) = false := by simp [h23]
              clear htr
              go_enter Tryd.func5, Tryd.ntmps5
              go_upto_region 1 with (fail)
              rw [HW0.out, HBe.out]
              go_upto_region 3 with (first
                | (go_at_call 10; (with_reducible refine (HM1.out _).mono ?_); rintro x w2 ⟨rfl, hb2⟩; have HB2 := Lib.hid (HGo HX0.out hb2); (obtain ⟨y0, y1, y2, y3, y4, y5, y6⟩ := HB2.out); clear hb2)
                | (go_at_call 10; (with_reducible refine (HM2.out _).mono ?_); rintro x w3 ⟨rfl, hb3⟩; have HB3 := Lib.hid (HGo HB2.out hb3); (obtain ⟨z0, z1, z2, z3, z4, z5, z6⟩ := HB3.out); clear hb3)
                | (go_at_call 10; (with_reducible refine (HM3.out _).mono ?_); rintro x w4 ⟨rfl, hb4⟩; have HB4 := Lib.hid (HGo HB3.out hb4); (obtain ⟨x0, x1, x2, x3, x4, x5, x6⟩ := HB4.out); clear hb4))
              refine region_det (by kernel_rfl) (Box3 B e1 n1 e2 n2 e3 n3 W0) (HGo HB4.out (Below.refl _ _).drew) (by kernel_rfl) ?_
              simp only [List.toList_toArray]
              repeat' (first
                | (refine det_shut (by rfl) ?_; (simp only [Act.put, List.setIfInBounds_toArray, List.set_cons_zero, List.set_cons_succ]))
                | (apply det_val; (case hw => rfl); (case hv => (intro w' hS; (obtain ⟨s0, s1, s2, s3, s4, s5, s6⟩ := hS); go_simp; first | done | with_reducible exact rfl)); (simp only [Act.put, List.setIfInBounds_toArray, List.set_cons_zero, List.set_cons_succ]))
                | (apply det_call; (case hw => rfl); (case hv => (intro w' hS; (obtain ⟨s0, s1, s2, s3, s4, s5, s6⟩ := hS); go_simp; first | done | with_reducible exact rfl | with_reducible exact ⟨rfl, rfl⟩)); (case hc => (intro w' hS; (first | (go_at_call 11; with_reducible exact (HX12.out w').mono (fun e w'' h => ⟨h.1, HGo hS h.2⟩)) | (go_at_call 11; with_reducible exact (HX21.out w').mono (fun e w'' h => ⟨h.1, HGo hS h.2⟩)) | (go_at_call 11; with_reducible exact (HX23.out w').mono (fun e w'' h => ⟨h.1, HGo hS h.2⟩)) | (go_at_call 11; with_reducible exact (HX13.out w').mono (fun e w'' h => ⟨h.1, HGo hS h.2⟩)) | (go_at_call 11; with_reducible exact (HCn.out w').mono (fun e w'' h => ⟨h.1, HGo hS h.2⟩)) | (go_at_call 15; with_reducible exact (HNx.out w').mono (fun e w'' h => ⟨h.1, HGo hS h.2⟩)) | (go_at_call 6; with_reducible exact (HAw.out w' hS).mono (fun e w'' h => ⟨h.1, HGo hS h.2⟩))))); (simp only [Act.put, List.setIfInBounds_toArray, List.set_cons_zero, List.set_cons_succ]))
                | fail)
              intro w9 hS9
              have HB9 := Lib.hid (bthen HB0.out hS9.below)
              go_wp2
              go_ret
              exact ⟨rfl, HB9.out⟩
        · obtain ⟨hee, hnn⟩ := hz.1 rfl
          clear hz
          replace hee : (e1 = e2) = True := eq_true hee
          replace hnn : (n1 = n2) = True := eq_true hnn
          by_cases h23 : X23 ≤ 0
          · have t23 : decide (X23 ≤ 0) = true := by simp [h23]
            have t13 : decide (0 < X13) = false := by have := htr (by omega) h23; simp; omega
            clear htr
            go_enter Tryd.func5, Tryd.ntmps5
            go_upto_region 1 with (fail)
            rw [HW0.out, HBe.out]
            go_upto_region 3 with (first
              | (go_at_call 10; (with_reducible refine (HM1.out _).mono ?_); rintro x w2 ⟨rfl, hb2⟩; have HB2 := Lib.hid (HGo HX0.out hb2); (obtain ⟨y0, y1, y2, y3, y4, y5, y6⟩ := HB2.out); clear hb2)
              | (go_at_call 10; (with_reducible refine (HM2.out _).mono ?_); rintro x w3 ⟨rfl, hb3⟩; have HB3 := Lib.hid (HGo HB2.out hb3); (obtain ⟨z0, z1, z2, z3, z4, z5, z6⟩ := HB3.out); clear hb3)
              | (go_at_call 10; (with_reducible refine (HM3.out _).mono ?_); rintro x w4 ⟨rfl, hb4⟩; have HB4 := Lib.hid (HGo HB3.out hb4); (obtain ⟨x0, x1, x2, x3, x4, x5, x6⟩ := HB4.out); clear hb4))
            refine region_det (by kernel_rfl) (Box3 B e1 n1 e2 n2 e3 n3 W0) (HGo HB4.out (Below.refl _ _).drew) (by kernel_rfl) ?_
            simp only [List.toList_toArray]
            repeat' (first
              | (refine det_shut (by rfl) ?_; (simp only [Act.put, List.setIfInBounds_toArray, List.set_cons_zero, List.set_cons_succ]))
              | (apply det_val; (case hw => rfl); (case hv => (intro w' hS; (obtain ⟨s0, s1, s2, s3, s4, s5, s6⟩ := hS); go_simp; first | done | with_reducible exact rfl)); (simp only [Act.put, List.setIfInBounds_toArray, List.set_cons_zero, List.set_cons_succ]))
              | (apply det_call; (case hw => rfl); (case hv => (intro w' hS; (obtain ⟨s0, s1, s2, s3, s4, s5, s6⟩ := hS); go_simp; first | done | with_reducible exact rfl | with_reducible exact ⟨rfl, rfl⟩)); (case hc => (intro w' hS; (first | (go_at_call 11; with_reducible exact (HX12.out w').mono (fun e w'' h => ⟨h.1, HGo hS h.2⟩)) | (go_at_call 11; with_reducible exact (HX21.out w').mono (fun e w'' h => ⟨h.1, HGo hS h.2⟩)) | (go_at_call 11; with_reducible exact (HX23.out w').mono (fun e w'' h => ⟨h.1, HGo hS h.2⟩)) | (go_at_call 11; with_reducible exact (HX13.out w').mono (fun e w'' h => ⟨h.1, HGo hS h.2⟩)) | (go_at_call 11; with_reducible exact (HCn.out w').mono (fun e w'' h => ⟨h.1, HGo hS h.2⟩)) | (go_at_call 15; with_reducible exact (HNx.out w').mono (fun e w'' h => ⟨h.1, HGo hS h.2⟩)) | (go_at_call 6; with_reducible exact (HAw.out w' hS).mono (fun e w'' h => ⟨h.1, HGo hS h.2⟩))))); (simp only [Act.put, List.setIfInBounds_toArray, List.set_cons_zero, List.set_cons_succ]))
              | fail)
            intro w9 hS9
            have HB9 := Lib.hid (bthen HB0.out hS9.below)
            go_wp2
            go_ret
            exact ⟨rfl, HB9.out⟩
          · have t23 : decide (X23 ≤ 0) = false := by simp [h23]
            clear htr
            go_enter Tryd.func5, Tryd.ntmps5
            go_upto_region 1 with (fail)
            rw [HW0.out, HBe.out]
            go_upto_region 3 with (first
              | (go_at_call 10; (with_reducible refine (HM1.out _).mono ?_); rintro x w2 ⟨rfl, hb2⟩; have HB2 := Lib.hid (HGo HX0.out hb2); (obtain ⟨y0, y1, y2, y3, y4, y5, y6⟩ := HB2.out); clear hb2)
              | (go_at_call 10; (with_reducible refine (HM2.out _).mono ?_); rintro x w3 ⟨rfl, hb3⟩; have HB3 := Lib.hid (HGo HB2.out hb3); (obtain ⟨z0, z1, z2, z3, z4, z5, z6⟩ := HB3.out); clear hb3)
              | (go_at_call 10; (with_reducible refine (HM3.out _).mono ?_); rintro x w4 ⟨rfl, hb4⟩; have HB4 := Lib.hid (HGo HB3.out hb4); (obtain ⟨x0, x1, x2, x3, x4, x5, x6⟩ := HB4.out); clear hb4))
            refine region_det (by kernel_rfl) (Box3 B e1 n1 e2 n2 e3 n3 W0) (HGo HB4.out (Below.refl _ _).drew) (by kernel_rfl) ?_
            simp only [List.toList_toArray]
            repeat' (first
              | (refine det_shut (by rfl) ?_; (simp only [Act.put, List.setIfInBounds_toArray, List.set_cons_zero, List.set_cons_succ]))
              | (apply det_val; (case hw => rfl); (case hv => (intro w' hS; (obtain ⟨s0, s1, s2, s3, s4, s5, s6⟩ := hS); go_simp; first | done | with_reducible exact rfl)); (simp only [Act.put, List.setIfInBounds_toArray, List.set_cons_zero, List.set_cons_succ]))
              | (apply det_call; (case hw => rfl); (case hv => (intro w' hS; (obtain ⟨s0, s1, s2, s3, s4, s5, s6⟩ := hS); go_simp; first | done | with_reducible exact rfl | with_reducible exact ⟨rfl, rfl⟩)); (case hc => (intro w' hS; (first | (go_at_call 11; with_reducible exact (HX12.out w').mono (fun e w'' h => ⟨h.1, HGo hS h.2⟩)) | (go_at_call 11; with_reducible exact (HX21.out w').mono (fun e w'' h => ⟨h.1, HGo hS h.2⟩)) | (go_at_call 11; with_reducible exact (HX23.out w').mono (fun e w'' h => ⟨h.1, HGo hS h.2⟩)) | (go_at_call 11; with_reducible exact (HX13.out w').mono (fun e w'' h => ⟨h.1, HGo hS h.2⟩)) | (go_at_call 11; with_reducible exact (HCn.out w').mono (fun e w'' h => ⟨h.1, HGo hS h.2⟩)) | (go_at_call 15; with_reducible exact (HNx.out w').mono (fun e w'' h => ⟨h.1, HGo hS h.2⟩)) | (go_at_call 6; with_reducible exact (HAw.out w' hS).mono (fun e w'' h => ⟨h.1, HGo hS h.2⟩))))); (simp only [Act.put, List.setIfInBounds_toArray, List.set_cons_zero, List.set_cons_succ]))
              | fail)
            intro w9 hS9
            have HB9 := Lib.hid (bthen HB0.out hS9.below)
            go_wp2
            go_ret
            exact ⟨rfl, HB9.out⟩
        · have hne : ¬ (e1 = e2 ∧ n1 = n2) := fun h => by have := hz.2 h; omega
          clear hz
          by_cases hee : e1 = e2
          · have hnn : ¬ n1 = n2 := fun h => hne ⟨hee, h⟩
            replace hee : (e1 = e2) = True := eq_true hee
            clear hne
            clear htr
            go_enter Tryd.func5, Tryd.ntmps5
            go_upto_region 1 with (fail)
            rw [HW0.out, HBe.out]
            go_upto_region 3 with (first
              | (go_at_call 10; (with_reducible refine (HM1.out _).mono ?_); rintro x w2 ⟨rfl, hb2⟩; have HB2 := Lib.hid (HGo HX0.out hb2); (obtain ⟨y0, y1, y2, y3, y4, y5, y6⟩ := HB2.out); clear hb2)
              | (go_at_call 10; (with_reducible refine (HM2.out _).mono ?_); rintro x w3 ⟨rfl, hb3⟩; have HB3 := Lib.hid (HGo HB2.out hb3); (obtain ⟨z0, z1, z2, z3, z4, z5, z6⟩ := HB3.out); clear hb3)
              | (go_at_call 10; (with_reducible refine (HM3.out _).mono ?_); rintro x w4 ⟨rfl, hb4⟩; have HB4 := Lib.hid (HGo HB3.out hb4); (obtain ⟨x0, x1, x2, x3, x4, x5, x6⟩ := HB4.out); clear hb4))
            refine region_det (by kernel_rfl) (Box3 B e1 n1 e2 n2 e3 n3 W0) (HGo HB4.out (Below.refl _ _).drew) (by kernel_rfl) ?_
            simp only [List.toList_toArray]
            repeat' (first
              | (refine det_shut (by rfl) ?_; (simp only [Act.put, List.setIfInBounds_toArray, List.set_cons_zero, List.set_cons_succ]))
              | (apply det_val; (case hw => rfl); (case hv => (intro w' hS; (obtain ⟨s0, s1, s2, s3, s4, s5, s6⟩ := hS); go_simp; first | done | with_reducible exact rfl)); (simp only [Act.put, List.setIfInBounds_toArray, List.set_cons_zero, List.set_cons_succ]))
              | (apply det_call; (case hw => rfl); (case hv => (intro w' hS; (obtain ⟨s0, s1, s2, s3, s4, s5, s6⟩ := hS); go_simp; first | done | with_reducible exact rfl | with_reducible exact ⟨rfl, rfl⟩)); (case hc => (intro w' hS; (first | (go_at_call 11; with_reducible exact (HX12.out w').mono (fun e w'' h => ⟨h.1, HGo hS h.2⟩)) | (go_at_call 11; with_reducible exact (HX21.out w').mono (fun e w'' h => ⟨h.1, HGo hS h.2⟩)) | (go_at_call 11; with_reducible exact (HX23.out w').mono (fun e w'' h => ⟨h.1, HGo hS h.2⟩)) | (go_at_call 11; with_reducible exact (HX13.out w').mono (fun e w'' h => ⟨h.1, HGo hS h.2⟩)) | (go_at_call 11; with_reducible exact (HCn.out w').mono (fun e w'' h => ⟨h.1, HGo hS h.2⟩)) | (go_at_call 15; with_reducible exact (HNx.out w').mono (fun e w'' h => ⟨h.1, HGo hS h.2⟩)) | (go_at_call 6; with_reducible exact (HAw.out w' hS).mono (fun e w'' h => ⟨h.1, HGo hS h.2⟩))))); (simp only [Act.put, List.setIfInBounds_toArray, List.set_cons_zero, List.set_cons_succ]))
              | fail)
            intro w9 hS9
            have HB9 := Lib.hid (bthen HB0.out hS9.below)
            go_wp2
            go_ret
            exact ⟨rfl, HB9.out⟩
          · clear hne
            clear htr
            go_enter Tryd.func5, Tryd.ntmps5
            go_upto_region 1 with (fail)
            rw [HW0.out, HBe.out]
            go_upto_region 3 with (first
              | (go_at_call 10; (with_reducible refine (HM1.out _).mono ?_); rintro x w2 ⟨rfl, hb2⟩; have HB2 := Lib.hid (HGo HX0.out hb2); (obtain ⟨y0, y1, y2, y3, y4, y5, y6⟩ := HB2.out); clear hb2)
              | (go_at_call 10; (with_reducible refine (HM2.out _).mono ?_); rintro x w3 ⟨rfl, hb3⟩; have HB3 := Lib.hid (HGo HB2.out hb3); (obtain ⟨z0, z1, z2, z3, z4, z5, z6⟩ := HB3.out); clear hb3)
              | (go_at_call 10; (with_reducible refine (HM3.out _).mono ?_); rintro x w4 ⟨rfl, hb4⟩; have HB4 := Lib.hid (HGo HB3.out hb4); (obtain ⟨x0, x1, x2, x3, x4, x5, x6⟩ := HB4.out); clear hb4))
            refine region_det (by kernel_rfl) (Box3 B e1 n1 e2 n2 e3 n3 W0) (HGo HB4.out (Below.refl _ _).drew) (by kernel_rfl) ?_
            simp only [List.toList_toArray]
            repeat' (first
              | (refine det_shut (by rfl) ?_; (simp only [Act.put, List.setIfInBounds_toArray, List.set_cons_zero, List.set_cons_succ]))
              | (apply det_val; (case hw => rfl); (case hv => (intro w' hS; (obtain ⟨s0, s1, s2, s3, s4, s5, s6⟩ := hS); go_simp; first | done | with_reducible exact rfl)); (simp only [Act.put, List.setIfInBounds_toArray, List.set_cons_zero, List.set_cons_succ]))
              | (apply det_call; (case hw => rfl); (case hv => (intro w' hS; (obtain ⟨s0, s1, s2, s3, s4, s5, s6⟩ := hS); go_simp; first | done | with_reducible exact rfl | with_reducible exact ⟨rfl, rfl⟩)); (case hc => (intro w' hS; (first | (go_at_call 11; with_reducible exact (HX12.out w').mono (fun e w'' h => ⟨h.1, HGo hS h.2⟩)) | (go_at_call 11; with_reducible exact (HX21.out w').mono (fun e w'' h => ⟨h.1, HGo hS h.2⟩)) | (go_at_call 11; with_reducible exact (HX23.out w').mono (fun e w'' h => ⟨h.1, HGo hS h.2⟩)) | (go_at_call 11; with_reducible exact (HX13.out w').mono (fun e w'' h => ⟨h.1, HGo hS h.2⟩)) | (go_at_call 11; with_reducible exact (HCn.out w').mono (fun e w'' h => ⟨h.1, HGo hS h.2⟩)) | (go_at_call 15; with_reducible exact (HNx.out w').mono (fun e w'' h => ⟨h.1, HGo hS h.2⟩)) | (go_at_call 6; with_reducible exact (HAw.out w' hS).mono (fun e w'' h => ⟨h.1, HGo hS h.2⟩))))); (simp only [Act.put, List.setIfInBounds_toArray, List.set_cons_zero, List.set_cons_succ]))
              | fail)
            intro w9 hS9
            have HB9 := Lib.hid (bthen HB0.out hS9.below)
            go_wp2
            go_ret
            exact ⟨rfl, HB9.out⟩
end Go.Proofs.YtppljlegkdjhpaaDoor
