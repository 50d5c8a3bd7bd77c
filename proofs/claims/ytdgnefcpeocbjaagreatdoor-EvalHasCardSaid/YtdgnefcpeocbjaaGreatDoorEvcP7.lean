/- Several texts in one file: EvHasW. -/
import Derived.Test.YtdgnefcpeocbjaaGreatDoorEvcP6
namespace Go.Proofs.YtdgnefcpeocbjaaGreatDoor
open Go.RowKit
set_option linter.unusedVariables false
set_option linter.unusedSimpArgs false

theorem row2_new (A B : ByteArray) {W W' : World} (h : W.alloc (.cells #[.string A, .string B] 9) = W') : W'.heap.size = W.heap.size + 1 ∧ W'.cell? ⟨W.heap.size, 0, none⟩ = some (.string A) ∧ W'.cell? ⟨W.heap.size, 1, none⟩ = some (.string B) ∧ Below W.heap.size W W' := by
  subst h
  exact ⟨by go_simp, by go_simp, by go_simp, (Below.refl _ _).alloc (Nat.le_refl _) _⟩
set_option maxRecDepth 100000 in
set_option maxHeartbeats 8000000 in
theorem evalHas_any (es : List UInt8) (b0 : Option Addr) (cq : Nat) (which kind : Int) (hwh : 0 ≤ which ∧ which ≤ 255) (hki : 0 ≤ kind ∧ kind ≤ 255) (V : ByteArray) (hSz : V.size ≤ maxLen) (w : World) (hw : LaidW w) (hx : LaidX w) (he : IsB w.heap.size w es b0 cq) :
    Calls Tryz.prog 9 #[.slice b0 es.length cq, .int .u8 which, .int .u8 kind, .string V] w fun e w' => e = .returned (.bool true) ∧ Below w.heap.size w w' := by
  unfold maxLen at hSz
  have HAw := Lib.hid (fun (W : World) (hW : Below w.heap.size w W) => awake7_any W (hw.below hW) (hx.below hW))
  have HB0 := Lib.hid (Below.refl w.heap.size w)
  by_cases h1 : 60 < V.size
  · have t1 : decide ((60 : Int) < (V.size : Int)) = true := by simp; omega
    clear he hw hx
    go_enter Tryz.func9, Tryz.ntmps9
    go_wp2_with (go_at_call 14; refine (HAw.out _ HB0.out).mono ?_; rintro e w4 ⟨rfl, hb4⟩; have HB4 := Lib.hid hb4; clear hb4)
    go_ret
    exact ⟨rfl, HB4.out⟩
  · have t1 : decide ((60 : Int) < (V.size : Int)) = false := by simp; omega
    have hsm := mkLd_small es
    obtain ⟨L, hL⟩ : ∃ L, L = mkLd es := ⟨_, rfl⟩
    have hme := madeE_any es b0 cq w he
    rw [← hL] at hme hsm
    have hev := fun (f : FT) (r : Int) (hr : ((evalD L f : Nat) : Int) = r) (v : Value) (D : ByteArray) (g n c : Nat) (W : World) (hW : Below w.heap.size w W) (h : IsFl (Lt W) W f v) (hA : IsA W.heap.size W L (.slice (some ⟨g, 0, none⟩) n c)) => (show Calls Tryz.prog 12 #[v, .agg #[.string D, .slice (some ⟨g, 0, none⟩) n c]] W fun e w' => e = .returned (.int .i64 r) ∧ Below W.heap.size W w' from hr ▸ evalP_any f v L D _ n c W h hsm (hw.below hW) (hx.below hW) hA)
    have hvl := fun (D T : ByteArray) (hT : T.size ≤ 1000) (v : Value) (W : World) (hA : IsA W.heap.size W L v) => valsRef_any D T (by omega) L hsm v W hA
    obtain ⟨j, hj⟩ : ∃ k, k = es.length := ⟨_, rfl⟩
    rw [← hj] at hme ⊢
    have HMe := Lib.hid hme
    have HEv := Lib.hid hev
    have HVl := Lib.hid hvl
    clear he hw hx hj hL hme hev hsm hvl
    go_enter Tryz.func9, Tryz.ntmps9
    go_upto_region 4 with (go_at_call 16; refine (HMe.out).mono ?_; rintro e w2 ⟨D, g, n, c, rfl, _, hA, hb⟩; have HA := Lib.hid hA; have HB2 := Lib.hid hb; clear hA hb)
    obtain ⟨W4, hW4⟩ : ∃ W, W = w2.alloc (.cells #[.string D, .slice (some ⟨g, 0, none⟩) n c] 28) := ⟨_, rfl⟩
    obtain ⟨p, hp⟩ : ∃ p, p = w2.heap.size := ⟨_, rfl⟩
    have hb24 : Below w2.heap.size w2 W4 := by rw [hW4]; exact (Below.refl _ _).alloc (Nat.le_refl _) _
    have hs4 : W4.heap.size = p + 1 := by rw [hW4, hp]; go_simp
    have hx0 : W4.cell? ⟨p, 0, none⟩ = some (.string D) := by rw [hW4, hp]; go_simp
    have hx1 : W4.cell? ⟨p, 1, none⟩ = some (.slice (some ⟨g, 0, none⟩) n c) := by rw [hW4, hp]; go_simp
    rw [← hW4, ← hp]
    have HE := Lib.hid (fun (W : World) (hW : Below W4.heap.size W4 W) => And.intro ((hW.cell (p := ⟨p, 0, none⟩) (by show p < W4.heap.size; omega)).trans hx0) ((hW.cell (p := ⟨p, 1, none⟩) (by show p < W4.heap.size; omega)).trans hx1))
    have HA4 := Lib.hid (isA_go HA.out hb24)
    have HB4 := Lib.hid (bthen HB2.out hb24)
    clear hW4 hp hb24 hs4 hx0 hx1
    obtain ⟨i, hi, hi8⟩ : ∃ i : Nat, which % 8 = (i : Int) ∧ i < 8 := ⟨(which % 8).toNat, by omega, by omega⟩
    have key : ∀ W W' : World, W.alloc (.cells #[.string ⟨#[99, 110]⟩, .string ⟨#[115, 110]⟩, .string ⟨#[109, 97, 105, 108]⟩, .string ⟨#[100, 101, 115, 99, 114, 105, 112, 116, 105, 111, 110]⟩, .string ⟨#[117, 105, 100]⟩, .string ⟨#[117, 105, 100, 110, 117, 109, 98, 101, 114]⟩, .string ⟨#[111, 98, 106, 101, 99, 116, 99, 108, 97, 115, 115]⟩, .string ⟨#[111]⟩] 9) = W' → ∀ i : Nat, i < 8 → ∃ T : ByteArray, T.data.toList ∈ hasTypes ∧ T.size ≤ 1000 ∧ W'.cell? ⟨W.heap.size, i, none⟩ = some (.string T) := by
      rintro W W' rfl i hi8
      rcases (show i = 0 ∨ i = 1 ∨ i = 2 ∨ i = 3 ∨ i = 4 ∨ i = 5 ∨ i = 6 ∨ i = 7 from by omega) with rfl | rfl | rfl | rfl | rfl | rfl | rfl | rfl
      · exact ⟨⟨#[99, 110]⟩, by decide, by decide, by go_simp⟩
      · exact ⟨⟨#[115, 110]⟩, by decide, by decide, by go_simp⟩
      · exact ⟨⟨#[109, 97, 105, 108]⟩, by decide, by decide, by go_simp⟩
      · exact ⟨⟨#[100, 101, 115, 99, 114, 105, 112, 116, 105, 111, 110]⟩, by decide, by decide, by go_simp⟩
      · exact ⟨⟨#[117, 105, 100]⟩, by decide, by decide, by go_simp⟩
      · exact ⟨⟨#[117, 105, 100, 110, 117, 109, 98, 101, 114]⟩, by decide, by decide, by go_simp⟩
      · exact ⟨⟨#[111, 98, 106, 101, 99, 116, 99, 108, 97, 115, 115]⟩, by decide, by decide, by go_simp⟩
      · exact ⟨⟨#[111]⟩, by decide, by decide, by go_simp⟩
    obtain ⟨W5, hW5⟩ : ∃ W, W4.alloc (.cells #[.string ⟨#[99, 110]⟩, .string ⟨#[115, 110]⟩, .string ⟨#[109, 97, 105, 108]⟩, .string ⟨#[100, 101, 115, 99, 114, 105, 112, 116, 105, 111, 110]⟩, .string ⟨#[117, 105, 100]⟩, .string ⟨#[117, 105, 100, 110, 117, 109, 98, 101, 114]⟩, .string ⟨#[111, 98, 106, 101, 99, 116, 99, 108, 97, 115, 115]⟩, .string ⟨#[111]⟩] 9) = W := ⟨_, rfl⟩
    have hb45 : Below W4.heap.size W4 W5 := by rw [← hW5]; exact (Below.refl _ _).alloc (Nat.le_refl _) _
    obtain ⟨T, hTm, hTs, hTc⟩ := key _ _ hW5 i hi8
    clear key
    have ti0 : (0 : Int) ≤ (i : Int) := by omega
    have ti1 : (i : Int) < 8 := by omega
    have hhs := evalD_has (L := L) hTm
    have hfx := fun (K : Int) (hK : K = 4 ∨ K = 5 ∨ K = 6 ∨ K = 7) (x : List UInt8) (q : List (List UInt8)) => evalD_fit (L := L) (t := T.data.toList) (x := x) (p := q) hK
    have HB5 := Lib.hid (bthen HB4.out hb45)
    have HB45 := Lib.hid hb45
    obtain ⟨b0, b1⟩ := HE.out W5 hb45
    have HHs := Lib.hid hhs
    have HFx := Lib.hid hfx
    have HTm := Lib.hid hTm
    clear hb45 hhs hfx hTm hi8
    obtain ⟨F, hF⟩ : ∃ F, F = findA L T.data.toList := ⟨_, rfl⟩
    obtain ⟨h, hh, hcase⟩ : ∃ h : Int, ((evalD L (.mk 8 T.data.toList [] [] []) : Nat) : Int) = h ∧ ((h = 1 ∧ 0 < F.length) ∨ (h = 0 ∧ F.length = 0)) := by
      by_cases hc : 0 < (findA L T.data.toList).length
      · exact ⟨1, by rw [HHs.out, if_pos hc]; rfl, .inl ⟨rfl, by rw [hF]; exact hc⟩⟩
      · exact ⟨0, by rw [HHs.out, if_neg hc]; rfl, .inr ⟨rfl, by rw [hF]; omega⟩⟩
    have HE1 := Lib.hid (HEv.out (.mk 8 T.data.toList [] [] []) h hh (.agg #[.int .i64 8, .string T, .string ⟨#[]⟩, .slice none 0 0, .slice none 0 0]) D g n c W5 HB5.out (isFl_leafE _ _ 8 T ⟨#[]⟩ (by decide) (by omega) (by decide)) (isA_go HA4.out HB45.out))
    clear hh
    go_upto_region 6 with (go_at_call 12; refine (HE1.out).mono ?_; rintro e w6 ⟨rfl, hb⟩; have HB6 := Lib.hid (bthen HB45.out hb); clear hb)
    clear hi ti0 ti1 hTc b0 b1 hW5
    obtain ⟨b0, b1⟩ := HE.out w6 HB6.out
    obtain ⟨b2, b3⟩ := HE.out w6.drew HB6.out.drew
    have hb6a := HB6.out.alloc HB6.out.size (.cells #[.int .i64 4, .int .i64 6, .int .i64 7] 3)
    obtain ⟨b4, b5⟩ := HE.out _ hb6a
    obtain ⟨b6, b7⟩ := HE.out _ hb6a.drew
    clear hb6a
    have HK : Hid (∀ K : Int, K = 4 ∨ K = 6 ∨ K = 7 → ∃ X : Int, (X = 1 → 0 < F.length) ∧ ∀ W, Below W4.heap.size W4 W → Calls Tryz.prog 12 #[.agg #[.int .i64 K, .string T, .string V, .slice none 0 0, .slice none 0 0], .agg #[.string D, .slice (some ⟨g, 0, none⟩) n c]] W fun e w' => e = .returned (.int .i64 X) ∧ Below W.heap.size W w') := Lib.hid (fun K hK => by
      refine ⟨((evalD L (.mk K T.data.toList V.data.toList [] []) : Nat) : Int), fun hX => ?_, fun W hW => ?_⟩
      · rw [hF]; exact HFx.out K (by omega) V.data.toList [] (by omega)
      · exact HEv.out _ _ rfl _ D g n c W (bthen HB4.out hW) (isFl_leafE _ _ K T V (by rcases hK with rfl | rfl | rfl <;> decide) (by omega) (by omega)) (isA_go HA4.out hW))
    obtain ⟨Y, hY1, hY⟩ : ∃ Y : Int, (Y = 1 → 0 < F.length) ∧ ∀ (q : Nat) (W : World), Below W4.heap.size W4 W → q < W.heap.size → W.cell? ⟨q, 0, none⟩ = some (.string V) → W.cell? ⟨q, 1, none⟩ = some (.string ⟨#[120]⟩) → Calls Tryz.prog 12 #[.agg #[.int .i64 5, .string T, .string ⟨#[]⟩, .slice (some ⟨q, 0, none⟩) 2 2, .slice none 0 0], .agg #[.string D, .slice (some ⟨g, 0, none⟩) n c]] W fun e w' => e = .returned (.int .i64 Y) ∧ Below W.heap.size W w' := by
      refine ⟨((evalD L (.mk 5 T.data.toList [] [V.data.toList, [120]] []) : Nat) : Int), fun hX => ?_, fun q W hW hq h0 h1 => ?_⟩
      · rw [hF]; exact HFx.out 5 (by omega) [] [V.data.toList, [120]] (by omega)
      · exact HEv.out _ _ rfl _ D g n c W (bthen HB4.out hW) (isFl_partsE _ _ 5 T V ⟨#[120]⟩ q (by decide) (by omega) (by omega) (by decide) hq h0 h1) (isA_go HA4.out hW)
    have HY := Lib.hid hY
    have hvv : ∀ W, Below W4.heap.size W4 W → Calls Tryz.prog 22 #[.agg #[.string D, .slice (some ⟨g, 0, none⟩) n c], .string T] W fun e w' => ∃ a cp, e = .returned (.slice a F.length cp) ∧ Below W.heap.size W w' := fun W hW => (HVl.out D T hTs _ W (isA_go HA4.out hW)).mono (fun e w' hh => by
      obtain ⟨u, rfl, hu, hb⟩ := hh
      obtain ⟨a, cp, rfl, _⟩ := hu
      exact ⟨a, cp, by rw [hF], hb⟩)
    have HVv := Lib.hid hvv
    clear hY hvv
    obtain ⟨fl, hfl⟩ : ∃ k, k = F.length := ⟨_, rfl⟩
    rw [← hfl] at hcase hY1
    simp only [← hfl] at HVv HK
    have HWa := Lib.hid (fun (W : World) (hW : Below W4.heap.size W4 W) => HAw.out W (bthen HB4.out hW))
    clear hF HFx HHs hfl HAw HEv HVl HA HB2 HB5 HB45 HE1 HTm
    rcases (show kind.tmod 3 = 0 ∨ kind.tmod 3 = 1 ∨ kind.tmod 3 = 2 from by rw [Int.tmod_eq_emod_of_nonneg hki.1]; omega) with hk | hk | hk
    · obtain ⟨X, hX1, hX⟩ := HK.out 4 (by omega)
      have HX := Lib.hid hX
      clear hX HK
      go_region_law (first
        | (go_simp; go_at_call 12; refine (HX.out _ ((HB6.out.alloc HB6.out.size _).drew)).mono ?_; rintro e w7 ⟨rfl, hb⟩; have HB7 := Lib.hid (bthen ((HB6.out.alloc HB6.out.size (.cells #[.int .i64 4, .int .i64 6, .int .i64 7] 3)).drew) hb); clear hb))
      all_goals
        have hb7 := HB7.out
        clear hk
        obtain ⟨c0, c1⟩ := HE.out w7 hb7
        obtain ⟨W8, hW8⟩ : ∃ W, w7.alloc (.cells #[.string V, .string ⟨#[120]⟩] 9) = W := ⟨_, rfl⟩
        obtain ⟨hs8, r0, r1, hb78⟩ := row2_new _ _ hW8
        obtain ⟨d0, d1⟩ := HE.out W8 (bthen hb7 hb78)
        have hy := HY.out w7.heap.size W8 (bthen hb7 hb78) (by omega) r0 r1
        have HYy := Lib.hid hy
        have HB8 := Lib.hid (bthen hb7 hb78)
        clear hb78 hs8 hy hb7 r0 r1
        go_upto_region 8 with (go_at_call 12; refine (HYy.out).mono ?_; rintro e w9 ⟨rfl, hb⟩; have HB9 := Lib.hid (bthen HB8.out hb); clear hb)
        clear hW8 c0 c1 d0 d1
        obtain ⟨c0, c1⟩ := HE.out w9 HB9.out
        rcases hcase with ⟨rfl, hfp⟩ | ⟨rfl, hfz⟩
        · have f1 : decide (0 < (fl : Int)) = true := by simp; omega
          have f2 : decide (0 < fl) = true := by simp; omega
          by_cases hx : X = 1
          · have x1 : (X == 1) = true := by simpa using hx
            by_cases hy : Y = 1
            · have y1 : (Y == 1) = true := by simpa using hy
              go_wp2_with (first
                | (go_at_call 22; refine (HVv.out _ HB9.out).mono ?_; rintro e w10 ⟨a, cp, rfl, hb⟩; have HB10 := Lib.hid (bthen HB9.out hb); clear hb)
                | (go_at_call 14; refine (HWa.out _ HB10.out).mono ?_; rintro e w11 ⟨rfl, hb⟩; have HB11 := Lib.hid (bthen HB4.out (bthen HB10.out hb)); clear hb))
              go_ret
              exact ⟨rfl, HB11.out⟩
            · have y1 : (Y == 1) = false := by simpa using hy
              go_wp2_with (first
                | (go_at_call 22; refine (HVv.out _ HB9.out).mono ?_; rintro e w10 ⟨a, cp, rfl, hb⟩; have HB10 := Lib.hid (bthen HB9.out hb); clear hb)
                | (go_at_call 14; refine (HWa.out _ HB10.out).mono ?_; rintro e w11 ⟨rfl, hb⟩; have HB11 := Lib.hid (bthen HB4.out (bthen HB10.out hb)); clear hb))
              go_ret
              exact ⟨rfl, HB11.out⟩
          · have x1 : (X == 1) = false := by simpa using hx
            by_cases hy : Y = 1
            · have y1 : (Y == 1) = true := by simpa using hy
              go_wp2_with (first
                | (go_at_call 22; refine (HVv.out _ HB9.out).mono ?_; rintro e w10 ⟨a, cp, rfl, hb⟩; have HB10 := Lib.hid (bthen HB9.out hb); clear hb)
                | (go_at_call 14; refine (HWa.out _ HB10.out).mono ?_; rintro e w11 ⟨rfl, hb⟩; have HB11 := Lib.hid (bthen HB4.out (bthen HB10.out hb)); clear hb))
              go_ret
              exact ⟨rfl, HB11.out⟩
            · have y1 : (Y == 1) = false := by simpa using hy
              go_wp2_with (first
                | (go_at_call 22; refine (HVv.out _ HB9.out).mono ?_; rintro e w10 ⟨a, cp, rfl, hb⟩; have HB10 := Lib.hid (bthen HB9.out hb); clear hb)
                | (go_at_call 14; refine (HWa.out _ HB10.out).mono ?_; rintro e w11 ⟨rfl, hb⟩; have HB11 := Lib.hid (bthen HB4.out (bthen HB10.out hb)); clear hb))
              go_ret
              exact ⟨rfl, HB11.out⟩
        · have f1 : decide (0 < (fl : Int)) = false := by simp; omega
          have f2 : decide (0 < fl) = false := by simp; omega
          have x1 : (X == 1) = false := by simpa using fun h => by have := hX1 h; omega
          have y1 : (Y == 1) = false := by simpa using fun h => by have := hY1 h; omega
          go_wp2_with (first
            | (go_at_call 22; refine (HVv.out _ HB9.out).mono ?_; rintro e w10 ⟨a, cp, rfl, hb⟩; have HB10 := Lib.hid (bthen HB9.out hb); clear hb)
            | (go_at_call 14; refine (HWa.out _ HB10.out).mono ?_; rintro e w11 ⟨rfl, hb⟩; have HB11 := Lib.hid (bthen HB4.out (bthen HB10.out hb)); clear hb))
          go_ret
          exact ⟨rfl, HB11.out⟩
    · obtain ⟨X, hX1, hX⟩ := HK.out 6 (by omega)
      have HX := Lib.hid hX
      clear hX HK
      go_region_law (first
        | (go_simp; go_at_call 12; refine (HX.out _ ((HB6.out.alloc HB6.out.size _).drew)).mono ?_; rintro e w7 ⟨rfl, hb⟩; have HB7 := Lib.hid (bthen ((HB6.out.alloc HB6.out.size (.cells #[.int .i64 4, .int .i64 6, .int .i64 7] 3)).drew) hb); clear hb))
      all_goals
        have hb7 := HB7.out
        clear hk
        obtain ⟨c0, c1⟩ := HE.out w7 hb7
        obtain ⟨W8, hW8⟩ : ∃ W, w7.alloc (.cells #[.string V, .string ⟨#[120]⟩] 9) = W := ⟨_, rfl⟩
        obtain ⟨hs8, r0, r1, hb78⟩ := row2_new _ _ hW8
        obtain ⟨d0, d1⟩ := HE.out W8 (bthen hb7 hb78)
        have hy := HY.out w7.heap.size W8 (bthen hb7 hb78) (by omega) r0 r1
        have HYy := Lib.hid hy
        have HB8 := Lib.hid (bthen hb7 hb78)
        clear hb78 hs8 hy hb7 r0 r1
        go_upto_region 8 with (go_at_call 12; refine (HYy.out).mono ?_; rintro e w9 ⟨rfl, hb⟩; have HB9 := Lib.hid (bthen HB8.out hb); clear hb)
        clear hW8 c0 c1 d0 d1
        obtain ⟨c0, c1⟩ := HE.out w9 HB9.out
        rcases hcase with ⟨rfl, hfp⟩ | ⟨rfl, hfz⟩
        · have f1 : decide (0 < (fl : Int)) = true := by simp; omega
          have f2 : decide (0 < fl) = true := by simp; omega
          by_cases hx : X = 1
          · have x1 : (X == 1) = true := by simpa using hx
            by_cases hy : Y = 1
            · have y1 : (Y == 1) = true := by simpa using hy
              go_wp2_with (first
                | (go_at_call 22; refine (HVv.out _ HB9.out).mono ?_; rintro e w10 ⟨a, cp, rfl, hb⟩; have HB10 := Lib.hid (bthen HB9.out hb); clear hb)
                | (go_at_call 14; refine (HWa.out _ HB10.out).mono ?_; rintro e w11 ⟨rfl, hb⟩; have HB11 := Lib.hid (bthen HB4.out (bthen HB10.out hb)); clear hb))
              go_ret
              exact ⟨rfl, HB11.out⟩
            · have y1 : (Y == 1) = false := by simpa using hy
              go_wp2_with (first
                | (go_at_call 22; refine (HVv.out _ HB9.out).mono ?_; rintro e w10 ⟨a, cp, rfl, hb⟩; have HB10 := Lib.hid (bthen HB9.out hb); clear hb)
                | (go_at_call 14; refine (HWa.out _ HB10.out).mono ?_; rintro e w11 ⟨rfl, hb⟩; have HB11 := Lib.hid (bthen HB4.out (bthen HB10.out hb)); clear hb))
              go_ret
              exact ⟨rfl, HB11.out⟩
          · have x1 : (X == 1) = false := by simpa using hx
            by_cases hy : Y = 1
            · have y1 : (Y == 1) = true := by simpa using hy
              go_wp2_with (first
                | (go_at_call 22; refine (HVv.out _ HB9.out).mono ?_; rintro e w10 ⟨a, cp, rfl, hb⟩; have HB10 := Lib.hid (bthen HB9.out hb); clear hb)
                | (go_at_call 14; refine (HWa.out _ HB10.out).mono ?_; rintro e w11 ⟨rfl, hb⟩; have HB11 := Lib.hid (bthen HB4.out (bthen HB10.out hb)); clear hb))
              go_ret
              exact ⟨rfl, HB11.out⟩
            · have y1 : (Y == 1) = false := by simpa using hy
              go_wp2_with (first
                | (go_at_call 22; refine (HVv.out _ HB9.out).mono ?_; rintro e w10 ⟨a, cp, rfl, hb⟩; have HB10 := Lib.hid (bthen HB9.out hb); clear hb)
                | (go_at_call 14; refine (HWa.out _ HB10.out).mono ?_; rintro e w11 ⟨rfl, hb⟩; have HB11 := Lib.hid (bthen HB4.out (bthen HB10.out hb)); clear hb))
              go_ret
              exact ⟨rfl, HB11.out⟩
        · have f1 : decide (0 < (fl : Int)) = false := by simp; omega
          have f2 : decide (0 < fl) = false := by simp; omega
          have x1 : (X == 1) = false := by simpa using fun h => by have := hX1 h; omega
          have y1 : (Y == 1) = false := by simpa using fun h => by have := hY1 h; omega
          go_wp2_with (first
            | (go_at_call 22; refine (HVv.out _ HB9.out).mono ?_; rintro e w10 ⟨a, cp, rfl, hb⟩; have HB10 := Lib.hid (bthen HB9.out hb); clear hb)
            | (go_at_call 14; refine (HWa.out _ HB10.out).mono ?_; rintro e w11 ⟨rfl, hb⟩; have HB11 := Lib.hid (bthen HB4.out (bthen HB10.out hb)); clear hb))
          go_ret
          exact ⟨rfl, HB11.out⟩
    · obtain ⟨X, hX1, hX⟩ := HK.out 7 (by omega)
      have HX := Lib.hid hX
      clear hX HK
      go_region_law (first
        | (go_simp; go_at_call 12; refine (HX.out _ ((HB6.out.alloc HB6.out.size _).drew)).mono ?_; rintro e w7 ⟨rfl, hb⟩; have HB7 := Lib.hid (bthen ((HB6.out.alloc HB6.out.size (.cells #[.int .i64 4, .int .i64 6, .int .i64 7] 3)).drew) hb); clear hb))
      all_goals
        have hb7 := HB7.out
        clear hk
        obtain ⟨c0, c1⟩ := HE.out w7 hb7
        obtain ⟨W8, hW8⟩ : ∃ W, w7.alloc (.cells #[.string V, .string ⟨#[120]⟩] 9) = W := ⟨_, rfl⟩
        obtain ⟨hs8, r0, r1, hb78⟩ := row2_new _ _ hW8
        obtain ⟨d0, d1⟩ := HE.out W8 (bthen hb7 hb78)
        have hy := HY.out w7.heap.size W8 (bthen hb7 hb78) (by omega) r0 r1
        have HYy := Lib.hid hy
        have HB8 := Lib.hid (bthen hb7 hb78)
        clear hb78 hs8 hy hb7 r0 r1
        go_upto_region 8 with (go_at_call 12; refine (HYy.out).mono ?_; rintro e w9 ⟨rfl, hb⟩; have HB9 := Lib.hid (bthen HB8.out hb); clear hb)
        clear hW8 c0 c1 d0 d1
        obtain ⟨c0, c1⟩ := HE.out w9 HB9.out
        rcases hcase with ⟨rfl, hfp⟩ | ⟨rfl, hfz⟩
        · have f1 : decide (0 < (fl : Int)) = true := by simp; omega
          have f2 : decide (0 < fl) = true := by simp; omega
          by_cases hx : X = 1
          · have x1 : (X == 1) = true := by simpa using hx
            by_cases hy : Y = 1
            · have y1 : (Y == 1) = true := by simpa using hy
              go_wp2_with (first
                | (go_at_call 22; refine (HVv.out _ HB9.out).mono ?_; rintro e w10 ⟨a, cp, rfl, hb⟩; have HB10 := Lib.hid (bthen HB9.out hb); clear hb)
                | (go_at_call 14; refine (HWa.out _ HB10.out).mono ?_; rintro e w11 ⟨rfl, hb⟩; have HB11 := Lib.hid (bthen HB4.out (bthen HB10.out hb)); clear hb))
              go_ret
              exact ⟨rfl, HB11.out⟩
            · have y1 : (Y == 1) = false := by simpa using hy
              go_wp2_with (first
                | (go_at_call 22; refine (HVv.out _ HB9.out).mono ?_; rintro e w10 ⟨a, cp, rfl, hb⟩; have HB10 := Lib.hid (bthen HB9.out hb); clear hb)
                | (go_at_call 14; refine (HWa.out _ HB10.out).mono ?_; rintro e w11 ⟨rfl, hb⟩; have HB11 := Lib.hid (bthen HB4.out (bthen HB10.out hb)); clear hb))
              go_ret
              exact ⟨rfl, HB11.out⟩
          · have x1 : (X == 1) = false := by simpa using hx
            by_cases hy : Y = 1
            · have y1 : (Y == 1) = true := by simpa using hy
              go_wp2_with (first
                | (go_at_call 22; refine (HVv.out _ HB9.out).mono ?_; rintro e w10 ⟨a, cp, rfl, hb⟩; have HB10 := Lib.hid (bthen HB9.out hb); clear hb)
                | (go_at_call 14; refine (HWa.out _ HB10.out).mono ?_; rintro e w11 ⟨rfl, hb⟩; have HB11 := Lib.hid (bthen HB4.out (bthen HB10.out hb)); clear hb))
              go_ret
              exact ⟨rfl, HB11.out⟩
            · have y1 : (Y == 1) = false := by simpa using hy
              go_wp2_with (first
                | (go_at_call 22; refine (HVv.out _ HB9.out).mono ?_; rintro e w10 ⟨a, cp, rfl, hb⟩; have HB10 := Lib.hid (bthen HB9.out hb); clear hb)
                | (go_at_call 14; refine (HWa.out _ HB10.out).mono ?_; rintro e w11 ⟨rfl, hb⟩; have HB11 := Lib.hid (bthen HB4.out (bthen HB10.out hb)); clear hb))
              go_ret
              exact ⟨rfl, HB11.out⟩
        · have f1 : decide (0 < (fl : Int)) = false := by simp; omega
          have f2 : decide (0 < fl) = false := by simp; omega
          have x1 : (X == 1) = false := by simpa using fun h => by have := hX1 h; omega
          have y1 : (Y == 1) = false := by simpa using fun h => by have := hY1 h; omega
          go_wp2_with (first
            | (go_at_call 22; refine (HVv.out _ HB9.out).mono ?_; rintro e w10 ⟨a, cp, rfl, hb⟩; have HB10 := Lib.hid (bthen HB9.out hb); clear hb)
            | (go_at_call 14; refine (HWa.out _ HB10.out).mono ?_; rintro e w11 ⟨rfl, hb⟩; have HB11 := Lib.hid (bthen HB4.out (bthen HB10.out hb)); clear hb))
          go_ret
          exact ⟨rfl, HB11.out⟩
end Go.Proofs.YtdgnefcpeocbjaaGreatDoor

