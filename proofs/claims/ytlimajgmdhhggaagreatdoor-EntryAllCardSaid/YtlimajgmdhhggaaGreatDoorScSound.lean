/- schema.sound: the walk. -/
import Derived.Test.YtlimajgmdhhggaaGreatDoorScOwn
import Derived.Test.YtlimajgmdhhggaaGreatDoorScVal
namespace Go.Proofs.YtlimajgmdhhggaaGreatDoor
open Go.RowKit
set_option linter.unusedVariables false

/-- An attribute in a block of its own. -/
def BoxA (w : World) (b : Nat) (x : ByteArray) (u : Value) : Prop := w.heap[b]? = some (.cells #[.string x, u] 54 (0, 0))
theorem BoxA.below {w w' : World} {b n : Nat} {x : ByteArray} {u : Value} (h : BoxA w b x u) (hb : Below n w w') (hn : b < n) : BoxA w' b x u := (hb.block b hn).trans h
theorem BoxA.cells {w : World} {b : Nat} {x : ByteArray} {u : Value} (h : BoxA w b x u) : w.cell? ⟨b, 0, none⟩ = some (.string x) ∧ w.cell? ⟨b, 1, none⟩ = some u := by
  unfold BoxA at h
  simp [World.cell?, h]
theorem boxA_new (w : World) (x : ByteArray) (u : Value) : BoxA (w.alloc (.cells #[.string x, u] 54)) w.heap.size x u := heap_alloc_new w _

theorem sound_err : ∀ {L A : List AT} {c : Int}, soundR A L = .error c → c ≠ 0
  | [], A, c, h => by simp [soundR] at h
  | a :: l, A, c, h => by
    simp only [soundR] at h
    cases e : canonD a.1 with
    | none => rw [e] at h; simp at h; omega
    | some t =>
      rw [e] at h
      simp only at h
      split at h
      · simp at h; omega
      · split at h
        · exact sound_err h
        · rename_i h2
          simp at h; omega
theorem sound_none {A l : List AT} {a : AT} (h : canonD a.1 = none) : soundR A (a :: l) = .error 17 := by simp [soundR, h]
theorem sound_twice {A l : List AT} {a : AT} {t : List UInt8} (h : canonD a.1 = some t) (h2 : hasS A t = true) : soundR A (a :: l) = .error 20 := by simp [soundR, h, h2]
theorem sound_vals {A l : List AT} {a : AT} {t : List UInt8} (h : canonD a.1 = some t) (h2 : hasS A t = false) (h3 : valsC t a.2 ≠ 0) : soundR A (a :: l) = .error (valsC t a.2) := by simp [soundR, h, h2, h3]
theorem sound_step {A l : List AT} {a : AT} {t : List UInt8} (h : canonD a.1 = some t) (h2 : hasS A t = false) (h3 : valsC t a.2 = 0) : soundR A (a :: l) = soundR (A ++ [(t, a.2)]) l := by simp [soundR, h, h2, h3]

def SoundW (w : World) (o : Except Int (List AT)) (e : Ending) (w' : World) : Prop := Below w.heap.size w w' ∧ match o with
  | .error c => e = .returned (.tuple #[.slice none 0 0, .int .i64 c])
  | .ok A => ∃ u, e = .returned (.tuple #[u, .int .i64 0]) ∧ OwnV w.heap.size w' u A

set_option maxRecDepth 100000 in
set_option maxHeartbeats 4000000 in
theorem sound_any (L : List AT) (hs : L.length ≤ 900) (v : Value) (w : World) (hw : LaidW w) (h : IsA w.heap.size w L v) :
    Calls Tryz.prog 104 #[v] w (SoundW w (soundR [] L)) := by
  obtain ⟨a, c, rfl, hm, hcell⟩ := h
  unfold maxLen at hm
  obtain ⟨R, hR⟩ : ∃ R, R = soundR [] L := ⟨_, rfl⟩
  rw [← hR]
  obtain ⟨n, hn⟩ : ∃ n, n = L.length := ⟨_, rfl⟩
  rw [← hn] at hm hs ⊢
  have HN := Lib.hid hn
  have HC := Lib.hid hcell
  have HW := Lib.hid hw
  have HR := Lib.hid hR
  clear hcell hn hw hR
  go_enter Tryz.func104, Tryz.ntmps104
  go_wp2
  go_loopw [4, 12] (fun l i wr => ∃ (j : Nat) (A : List AT), j ≤ n ∧ i = .int .i64 j ∧ A.length ≤ j ∧ soundR A (L.drop j) = R ∧ OwnV w.heap.size wr l A ∧ Below w.heap.size w wr) (fun _ i wr => n - (intOf i).toNat)
  case atStart => exact ⟨0, [], by omega, rfl, Nat.le_refl _, by rw [List.drop_zero]; exact HR.out.symm, ownV_nil _ _, Below.refl _ _⟩
  case round =>
    obtain ⟨j, A, hj, rfl, hAl, hsr, hown, hbel⟩ := hrel
    have HBel := Lib.hid hbel
    have hbs := hbel.size
    obtain ⟨sa, sc, hsv⟩ := ownV_slice hown
    obtain ⟨sn, hsn⟩ : ∃ k, k = A.length := ⟨_, rfl⟩
    rw [← hsn] at hsv hAl
    subst hsv
    have HSn := Lib.hid hsn
    have HOwn := Lib.hid hown
    by_cases hlt : j < n
    · have t3 : decide ((j : Int) < (n : Int)) = true := by simp; omega
      have t3' : decide (j < n) = true := by simpa using hlt
      have hlL : j < L.length := by rw [← HN.out]; exact hlt
      obtain ⟨b, off, u, rfl, hb0, c0, c1, ht⟩ := HC.out j hlL
      obtain ⟨ua, uc, hu, _⟩ := id ht
      obtain ⟨un, hun⟩ : ∃ k, k = L[j].2.length := ⟨_, rfl⟩
      rw [← hun] at hu
      subst hu
      clear hun
      have HT := Lib.hid ht
      obtain ⟨X, hX⟩ : ∃ X : ByteArray, ⟨L[j].1.toArray⟩ = X := ⟨_, rfl⟩
      have hXl : X.data.toList = L[j].1 := by rw [← hX]
      have d0 : (wr.cell? ⟨b, off + j * 2, none⟩) = some (.string X) := by
        rw [hbel.cell (p := ⟨b, _, none⟩) hb0, c0, ← hX]; rfl
      have d1 := (hbel.cell (p := ⟨b, off + j * 2 + 1, none⟩) hb0).trans c1
      have HA := Lib.hid (Below.alloc hbel hbs (.cells #[.string X, .slice ua un uc] 54))
      have HA0 := Lib.hid (Below.alloc (Below.refl wr.heap.size wr) (Nat.le_refl _) (.cells #[.string X, .slice ua un uc] 54))
      have HBx := Lib.hid (boxA_new wr X (.slice ua un uc))
      rw [List.drop_eq_getElem_cons hlL] at hsr
      have hca := fun w => canon_any X w
      rw [hXl] at hca
      cases hq : canonD L[j].1 with
      | none =>
        rw [hq] at hca
        rw [sound_none hq] at hsr
        subst hsr
        have HCa := Lib.hid hca
        clear hca hX hXl c0 c1 hown hbel ht hq hsn HR
        simp only [canonV] at HCa
        go_wp2_with (go_at_call 100; refine (HCa.out _).mono ?_; rintro e w2 ⟨rfl, hb2⟩; have HB2 := Lib.hid (HA.out.trans (hb2.mono HA.out.size)); clear hb2)
        go_ret2
        exact ⟨HB2.out, rfl⟩
      | some t =>
        rw [hq] at hca
        simp only [canonV] at hca
        obtain ⟨T, hT⟩ : ∃ T : ByteArray, ⟨t.toArray⟩ = T := ⟨_, rfl⟩
        have hTl : T.data.toList = t := by rw [← hT]
        rw [hT] at hca
        have HCa := Lib.hid hca
        have hhs := fun W (h : IsA W.heap.size W A (.slice sa sn sc)) => hasS_any A (by omega) (.slice sa sn sc) T W h
        rw [hTl] at hhs
        cases hq2 : hasS A t with
        | true =>
          rw [hq2] at hhs
          rw [sound_twice hq hq2] at hsr
          subst hsr
          have HHs := Lib.hid hhs
          clear hca hX hXl c0 c1 hown hbel ht hq hsn HR hT hTl hq2 hhs
          go_wp2_with (first
            | (go_at_call 100; refine (HCa.out _).mono ?_; rintro e w2 ⟨rfl, hb2⟩; have HB2 := Lib.hid (HA.out.trans (hb2.mono HA.out.size)); have HO2 := Lib.hid (ownV_below (ownV_below HOwn.out HA0.out hbs) hb2 (by simp; omega)); clear hb2)
            | (go_at_call 139; refine (HHs.out _ (ownV_isA HO2.out (by unfold maxLen; have := HSn.out; omega) HB2.out.size)).mono ?_; rintro e w3 ⟨rfl, hb3⟩; have HB3 := Lib.hid (bthen HB2.out hb3); clear hb3))
          go_ret2
          exact ⟨HB3.out, rfl⟩
        | false =>
          rw [hq2] at hhs
          have HHs := Lib.hid hhs
          have hcv := fun (W : World) (q1 : LaidW W) (q2 : IsT W.heap.size W L[j].2 (.slice ua un uc)) => checkVals_any T L[j].2 (.slice ua un uc) W q1 q2
          rw [hTl] at hcv
          obtain ⟨C, hC⟩ : ∃ C, C = valsC t L[j].2 := ⟨_, rfl⟩
          rw [← hC] at hcv
          have HCv := Lib.hid hcv
          by_cases hC0 : C = 0
          · have t5 : (C != 0) = false := by simpa using hC0
            rw [sound_step hq hq2 (by rw [← hC]; exact hC0)] at hsr
            rw [← hTl] at hsr
            have HSr := Lib.hid hsr
            subst hC0
            have t5' : ((0 : Int) != 0) = false := rfl
            clear hca hX hXl c0 c1 hown hbel ht hq hsn HR hT hTl hq2 hhs hcv hC hsr
            go_wp2_with (first
              | (go_at_call 100; refine (HCa.out _).mono ?_; rintro e w2 ⟨rfl, hb2⟩; have HB2 := Lib.hid (HA.out.trans (hb2.mono HA.out.size)); have HO2 := Lib.hid (ownV_below (ownV_below HOwn.out HA0.out hbs) hb2 (by simp; omega)); have HX2 := Lib.hid (HBx.out.below hb2 (by simp)); obtain ⟨f0, f1⟩ := HX2.out.cells; have hz2 := hb2.size; (simp only [World.size_alloc] at hz2); clear hb2)
              | (go_at_call 139; refine (HHs.out _ (ownV_isA HO2.out (by unfold maxLen; have := HSn.out; omega) HB2.out.size)).mono ?_; rintro e w3 ⟨rfl, hb3⟩; have HB3 := Lib.hid (bthen HB2.out hb3); have HO3 := Lib.hid (ownV_below HO2.out hb3 HB2.out.size); have HX3 := Lib.hid (HX2.out.below hb3 (by omega)); obtain ⟨g0, g1⟩ := HX3.out.cells; have hz3 := hb3.size; clear hb3)
              | (go_at_call 140; refine (HCv.out _ (HW.out.below HB3.out) (HT.out.below HB3.out HB3.out.size)).mono ?_; rintro e w4 ⟨rfl, hb4⟩; have HB4 := Lib.hid (bthen HB3.out hb4); have HO4 := Lib.hid (ownV_below HO3.out hb4 HB3.out.size); have HX4 := Lib.hid (HX3.out.below hb4 (by omega)); obtain ⟨k0, k1⟩ := HX4.out.cells; have hz4 := hb4.size; clear hb4)
              | (at_builtin; refine wpList_append_attrB rfl (.tmp 34) (.tmp 39) rfl w.heap.size (.slice sa sn sc) A rfl T (.slice ua un uc) L[j].2 HO4.out (HT.out.below HB4.out (Nat.le_refl _)) rfl (by have := HSn.out; omega) HB4.out.size ?_; intro v5 w5 hown5 hb5; have HO5 := Lib.hid hown5; have HB5 := Lib.hid (HB4.out.trans hb5); clear hown5 hb5))
            go_roundw
            case rel => exact ⟨j + 1, A ++ [(T.data.toList, L[j].2)], by omega, by go_num, by have := HSn.out; simp; omega, HSr.out, HO5.out, HB5.out⟩
            case measure => simp [intOf]; omega
          · have t5 : (C != 0) = true := by simpa using hC0
            rw [sound_vals hq hq2 (by rw [← hC]; exact hC0), ← hC] at hsr
            subst hsr
            clear hca hX hXl c0 c1 hown hbel ht hq hsn HR hT hTl hq2 hhs hcv hC
            go_wp2_with (first
              | (go_at_call 100; refine (HCa.out _).mono ?_; rintro e w2 ⟨rfl, hb2⟩; have HB2 := Lib.hid (HA.out.trans (hb2.mono HA.out.size)); have HO2 := Lib.hid (ownV_below (ownV_below HOwn.out HA0.out hbs) hb2 (by simp; omega)); have HX2 := Lib.hid (HBx.out.below hb2 (by simp)); obtain ⟨f0, f1⟩ := HX2.out.cells; have hz2 := hb2.size; (simp only [World.size_alloc] at hz2); clear hb2)
              | (go_at_call 139; refine (HHs.out _ (ownV_isA HO2.out (by unfold maxLen; have := HSn.out; omega) HB2.out.size)).mono ?_; rintro e w3 ⟨rfl, hb3⟩; have HB3 := Lib.hid (bthen HB2.out hb3); have HO3 := Lib.hid (ownV_below HO2.out hb3 HB2.out.size); have HX3 := Lib.hid (HX2.out.below hb3 (by omega)); obtain ⟨g0, g1⟩ := HX3.out.cells; have hz3 := hb3.size; clear hb3)
              | (go_at_call 140; refine (HCv.out _ (HW.out.below HB3.out) (HT.out.below HB3.out HB3.out.size)).mono ?_; rintro e w4 ⟨rfl, hb4⟩; have HB4 := Lib.hid (bthen HB3.out hb4); clear hb4))
            go_ret2
            exact ⟨HB4.out, rfl⟩
    · obtain rfl : j = n := by omega
      have t3 : decide ((j : Int) < (j : Int)) = false := by simp
      have t3' : decide (j < j) = false := by simp
      have hA : R = .ok A := by
        rw [← hsr, List.drop_of_length_le (by rw [← HN.out]; exact Nat.le_refl _)]; rfl
      subst hA
      clear hsr hown hbel hsn HR
      go_wp2
      go_ret2
      exact ⟨HBel.out, _, rfl, HOwn.out⟩
end Go.Proofs.YtlimajgmdhhggaaGreatDoor
