/- schema.Check: the walk. -/
import Derived.Test.YtofmpaphafhdpaaGreatDoorScClassed
import Derived.Test.YtofmpaphafhdpaaGreatDoorDnKey
namespace Go.Proofs.YtofmpaphafhdpaaGreatDoor
open Go.RowKit
set_option linter.unusedVariables false

/-- An entry in a block of its own. -/
def BoxN (w : World) (b : Nat) (x : ByteArray) (u : Value) : Prop := w.heap[b]? = some (.cells #[.string x, u] 24 (0, 0))
theorem BoxN.below {w w' : World} {b n : Nat} {x : ByteArray} {u : Value} (h : BoxN w b x u) (hb : Below n w w') (hn : b < n) : BoxN w' b x u := (hb.block b hn).trans h
theorem BoxN.cells {w : World} {b : Nat} {x : ByteArray} {u : Value} (h : BoxN w b x u) : w.cell? ⟨b, 0, none⟩ = some (.string x) ∧ w.cell? ⟨b, 1, none⟩ = some u := by
  unfold BoxN at h
  simp [World.cell?, h]
theorem boxN_new (w : World) (x : ByteArray) (u : Value) : BoxN (w.alloc (.cells #[.string x, u] 24)) w.heap.size x u := heap_alloc_new w _

theorem norm_short {r : Nat} {v x : List UInt8} (h : normD r v = some x) : v.length ≤ 100 := by
  unfold normD at h
  split at h
  · cases h
  · rename_i hn
    have := not_or.1 hn
    omega
theorem norms_short {r : Nat} : ∀ {V l : List (List UInt8)}, normsS r V = some l → ∀ v ∈ V, v.length ≤ 100
  | [], l, h, v, hv => by simp at hv
  | x :: V, l, h, v, hv => by
    simp only [normsS] at h
    cases e : normD r x with
    | none => rw [e] at h; cases h
    | some y =>
      rw [e] at h
      cases e2 : normsS r V with
      | none => rw [e2] at h; cases h
      | some m =>
        rcases List.mem_cons.1 hv with rfl | hv
        · exact norm_short e
        · exact norms_short e2 v hv
theorem most_le (t : List UInt8) : mostS t ≤ 40 := by unfold mostS; split <;> omega
theorem vals_small {t : List UInt8} {V : List (List UInt8)} (h : valsC t V = 0) : V.length ≤ 40 ∧ ∀ v ∈ V, v.length ≤ 100 := by
  unfold valsC at h
  split at h
  · omega
  · rename_i hn
    have hm := most_le t
    have := not_or.1 hn
    refine ⟨by omega, ?_⟩
    cases e : normsS (ruleD t) V with
    | none => rw [e] at h; simp at h
    | some l => exact norms_short e
def soundS (A : List AT) : Prop := ∀ a ∈ A, a.2.length ≤ 40 ∧ ∀ v ∈ a.2, v.length ≤ 100
theorem sound_small : ∀ {L A B : List AT}, soundR A L = .ok B → soundS A → soundS B ∧ B.length ≤ A.length + L.length
  | [], A, B, h, hA => by simp only [soundR, Except.ok.injEq] at h; subst h; exact ⟨hA, by simp⟩
  | a :: l, A, B, h, hA => by
    simp only [soundR] at h
    cases e : canonD a.1 with
    | none => rw [e] at h; simp at h
    | some t =>
      rw [e] at h
      simp only at h
      split at h
      · simp at h
      · split at h
        · rename_i h0
          have := sound_small h (fun x hx => (List.mem_append.1 hx).elim (hA x) (fun hx => by
            rw [List.mem_singleton] at hx
            rw [hx]
            exact vals_small h0))
          exact ⟨this.1, by have := this.2; simp at this ⊢; omega⟩
        · simp at h
theorem vals_of_small {A : List AT} (h : soundS A) (t : List UInt8) : smallT (valsS A t) := by
  unfold valsS
  split
  · rename_i a ha
    have := h a (List.mem_of_find?_eq_some ha)
    exact ⟨by omega, fun v hv => by have := this.2 v hv; omega⟩
  · exact ⟨by simp, fun v hv => by simp at hv⟩
theorem key_parts {d k : List UInt8} (h : keyD d = some k) (hk : k ≠ []) : ∃ r rs, parseD d = some (r :: rs) := by
  rw [keyD_eq] at h
  cases e : parseD d with
  | none => rw [e] at h; cases h
  | some l =>
    cases l with
    | nil =>
      rw [e] at h
      exact absurd (by
        simp only [Option.bind_some, keyL] at h
        simpa [textD] using h.symm) hk
    | cons r rs => exact ⟨r, rs, rfl⟩
theorem check_none {d : List UInt8} {L : List AT} (h : keyD d = none) : checkD d L = 34 := by unfold checkD; rw [h]
theorem check_empty {d : List UInt8} {L : List AT} (h : keyD d = some []) : checkD d L = 34 := by unfold checkD; rw [h]; rfl
theorem check_many {d k : List UInt8} {L : List AT} (h : keyD d = some k) (hk : k ≠ []) (hl : 20 < L.length) : checkD d L = 19 := by unfold checkD; rw [h]; simp only; rw [if_neg hk, if_pos hl]
theorem check_sound {d k : List UInt8} {L : List AT} (h : keyD d = some k) (hk : k ≠ []) (hl : ¬ 20 < L.length) {c : Int} (hs : soundR [] L = .error c) : checkD d L = c := by unfold checkD; rw [h]; simp only; rw [if_neg hk, if_neg hl, hs]
theorem check_behind {d k : List UInt8} {L A : List AT} (h : keyD d = some k) (hk : k ≠ []) (hl : ¬ 20 < L.length) (hs : soundR [] L = .ok A) : checkD d L = behindD A d := by unfold checkD; rw [h]; simp only; rw [if_neg hk, if_neg hl, hs]

set_option maxRecDepth 100000 in
set_option maxHeartbeats 8000000 in
theorem checkE_any (D : ByteArray) (hD : D.size ≤ 1000000) (L : List AT) (v : Value) (w : World) (hw : LaidW w) (hl : LaidF w) (h : IsA w.heap.size w L v) :
    Calls Tryz.prog 13 #[.agg #[.string D, v]] w fun e w' => e = .returned (.int .i64 (checkD D.data.toList L)) ∧ Below w.heap.size w w' := by
  obtain ⟨R, hR⟩ : ∃ R, R = checkD D.data.toList L := ⟨_, rfl⟩
  rw [← hR]
  have hke := fun w => key_any D (by omega) w
  obtain ⟨sa, sc, hv, hmx, _⟩ := id h
  obtain ⟨n, hn⟩ : ∃ n, n = L.length := ⟨_, rfl⟩
  rw [← hn] at hv hmx
  unfold maxLen at hmx
  subst hv
  have HI := Lib.hid h
  have HN := Lib.hid hn
  have HR := Lib.hid hR
  have hb0 : Below w.heap.size w (w.alloc (.cells #[.string D, .slice sa n sc] 24)) := (Below.refl _ _).alloc (Nat.le_refl _) _
  have HB0 := Lib.hid hb0
  have HBx := Lib.hid (boxN_new w D (.slice sa n sc))
  have HW := Lib.hid hw
  have HF := Lib.hid hl
  clear h hn hR hb0 hw hl
  cases hq : keyD D.data.toList with
  | none =>
    have hf : R = 34 := by rw [HR.out, check_none hq]
    subst hf
    rw [hq] at hke
    simp only [keyV] at hke
    have HK := Lib.hid hke
    clear hke hq HR
    go_enter Tryz.func13, Tryz.ntmps13
    go_wp2_with (go_at_call 37; refine (HK.out _).mono ?_; rintro e w2 ⟨rfl, hb2⟩; have HB2 := Lib.hid (HB0.out.trans (hb2.mono HB0.out.size)); clear hb2)
    go_ret
    exact ⟨rfl, HB2.out⟩
  | some k =>
    rw [hq] at hke
    simp only [keyV] at hke
    by_cases hk : k = []
    · subst hk
      have hf : R = 34 := by rw [HR.out, check_empty hq]
      subst hf
      have HK := Lib.hid hke
      clear hke hq HR
      go_enter Tryz.func13, Tryz.ntmps13
      go_wp2_with (go_at_call 37; refine (HK.out _).mono ?_; rintro e w2 ⟨rfl, hb2⟩; have HB2 := Lib.hid (HB0.out.trans (hb2.mono HB0.out.size)); clear hb2)
      go_ret
      exact ⟨rfl, HB2.out⟩
    · obtain ⟨K, hK⟩ : ∃ K : ByteArray, K = ⟨k.toArray⟩ := ⟨_, rfl⟩
      have hKl : K.data.toList = k := by rw [hK]
      rw [← hK] at hke
      have hne : K ≠ ⟨#[]⟩ := fun e => hk (by rw [← hKl, e])
      have e1 := str_ne hne
      have e2 : (K.toList == []) = false := by
        have h2 : K.toList ≠ [] := by rw [ByteArray.toList_eq, hKl]; exact hk
        simpa using h2
      have e3 : K.toList.isEmpty = false := by
        have h2 : K.toList ≠ [] := by rw [ByteArray.toList_eq, hKl]; exact hk
        simpa [List.isEmpty_iff] using h2
      have e4 : (K.toList = []) = False := by
        have h2 : K.toList ≠ [] := by rw [ByteArray.toList_eq, hKl]; exact hk
        simpa using h2
      have HK := Lib.hid hke
      have HQ := Lib.hid hq
      have HKk := Lib.hid hk
      clear hke hq hk hK hKl hne
      by_cases hm : 20 < n
      · have hf : R = 19 := by rw [HR.out, check_many HQ.out HKk.out (by rw [← HN.out]; exact hm)]
        subst hf
        have t1 : decide ((20 : Int) < (n : Int)) = true := by simp; omega
        have t1' : decide (20 < n) = true := by simpa using hm
        clear HR
        go_enter Tryz.func13, Tryz.ntmps13
        go_wp2_with (go_at_call 37; refine (HK.out _).mono ?_; rintro e w2 ⟨rfl, hb2⟩; have HX2 := Lib.hid (HBx.out.below hb2 (by simp)); (obtain ⟨f0, f1⟩ := HX2.out.cells); have HB2 := Lib.hid (HB0.out.trans (hb2.mono HB0.out.size)); clear hb2)
        go_ret
        exact ⟨rfl, HB2.out⟩
      · have t1 : decide ((20 : Int) < (n : Int)) = false := by simp; omega
        have t1' : decide (20 < n) = false := by simpa using hm
        have hL20 : ¬ 20 < L.length := by rw [← HN.out]; exact hm
        have hso := fun (W : World) (q : LaidW W) (q2 : IsA W.heap.size W L (.slice sa n sc)) => sound_any L (by omega) (.slice sa n sc) W q q2
        cases hs : soundR [] L with
        | error c =>
          have hc0 := sound_err hs
          rw [hs] at hso
          have hf : R = c := by rw [HR.out, check_sound HQ.out HKk.out hL20 hs]
          subst hf
          have t2 : (R != 0) = true := by simpa using hc0
          have HSo := Lib.hid hso
          clear HR hso hs hL20 hc0
          go_enter Tryz.func13, Tryz.ntmps13
          go_wp2_with (first
            | (go_at_call 37; refine (HK.out _).mono ?_; rintro e w2 ⟨rfl, hb2⟩; have HX2 := Lib.hid (HBx.out.below hb2 (by simp)); (obtain ⟨f0, f1⟩ := HX2.out.cells); have HB2 := Lib.hid (HB0.out.trans (hb2.mono HB0.out.size)); clear hb2)
            | (go_at_call 38; refine (HSo.out _ (HW.out.below HB2.out) (HI.out.below HB2.out HB2.out.size)).mono ?_; rintro e w3 hsw; (simp only [SoundW] at hsw); (obtain ⟨hb3, rfl⟩ := hsw); have HB3 := Lib.hid (bthen HB2.out hb3); clear hb3))
          go_ret
          exact ⟨rfl, HB3.out⟩
        | ok A =>
          rw [hs] at hso
          obtain ⟨hsm, hAl⟩ := sound_small hs (fun a ha => by simp at ha)
          have hf : R = behindD A D.data.toList := by rw [HR.out, check_behind HQ.out HKk.out hL20 hs]
          obtain ⟨r, rs, hp⟩ := key_parts HQ.out HKk.out
          have hAl2 : A.length ≤ 20 := by simp at hAl; omega
          obtain ⟨an, han⟩ : ∃ k, k = A.length := ⟨_, rfl⟩
          rw [← han] at hAl2
          have HAn := Lib.hid han
          have hcl := fun (u : Value) (W : World) (q : LaidF W) (q2 : IsA W.heap.size W A u) => isClassed_any A (by omega) (vals_of_small hsm objB) u W q q2
          have hnm := fun (u : Value) (W : World) (q : LaidW W) (q2 : IsA W.heap.size W A u) => isNamed_any A (by omega) D hD r rs hp u W q q2
          obtain ⟨c, hc⟩ : ∃ c, classedD A = c := ⟨_, rfl⟩
          obtain ⟨m, hm2⟩ : ∃ c, namedD A D.data.toList = c := ⟨_, rfl⟩
          unfold behindD at hf
          rw [hc, hm2] at hf
          rw [hc] at hcl
          rw [hm2] at hnm
          have HSo := Lib.hid hso
          have HCl := Lib.hid hcl
          have HNm := Lib.hid hnm
          clear HR hso hs hL20 hsm hAl hp han hcl hnm hc hm2
          cases c with
          | false =>
            simp only [if_true] at hf
            subst hf
            go_enter Tryz.func13, Tryz.ntmps13
            go_wp2_with (first
              | (go_at_call 37; refine (HK.out _).mono ?_; rintro e w2 ⟨rfl, hb2⟩; have HX2 := Lib.hid (HBx.out.below hb2 (by simp)); (obtain ⟨f0, f1⟩ := HX2.out.cells); have hz2 := hb2.size; (simp only [World.size_alloc] at hz2); have HB2 := Lib.hid (HB0.out.trans (hb2.mono HB0.out.size)); clear hb2)
              | (go_at_call 38; refine (HSo.out _ (HW.out.below HB2.out) (HI.out.below HB2.out HB2.out.size)).mono ?_; rintro e w3 hsw; (simp only [SoundW] at hsw); (obtain ⟨hb3, u, rfl, ho3⟩ := hsw); (obtain ⟨ua, uc, hue⟩ := ownV_slice ho3); (rw [← HAn.out] at hue); subst hue; have HB3 := Lib.hid (bthen HB2.out hb3); have HA3 := Lib.hid (ownV_isA ho3 (by unfold maxLen; have := HAn.out; omega) hb3.size); clear hb3 ho3)
              | (go_at_call 39; refine (HCl.out _ _ (HF.out.below HB3.out) HA3.out).mono ?_; rintro e w4 ⟨rfl, hb4⟩; have HB4 := Lib.hid (bthen HB3.out hb4); clear hb4))
            go_ret
            exact ⟨rfl, HB4.out⟩
          | true =>
            simp only [Bool.true_eq_false, if_false] at hf
            cases m with
            | false =>
              simp only [if_true] at hf
              subst hf
              go_enter Tryz.func13, Tryz.ntmps13
              go_wp2_with (first
                | (go_at_call 37; refine (HK.out _).mono ?_; rintro e w2 ⟨rfl, hb2⟩; have HX2 := Lib.hid (HBx.out.below hb2 (by simp)); (obtain ⟨f0, f1⟩ := HX2.out.cells); have hz2 := hb2.size; (simp only [World.size_alloc] at hz2); have HB2 := Lib.hid (HB0.out.trans (hb2.mono HB0.out.size)); clear hb2)
                | (go_at_call 38; refine (HSo.out _ (HW.out.below HB2.out) (HI.out.below HB2.out HB2.out.size)).mono ?_; rintro e w3 hsw; (simp only [SoundW] at hsw); (obtain ⟨hb3, u, rfl, ho3⟩ := hsw); (obtain ⟨ua, uc, hue⟩ := ownV_slice ho3); (rw [← HAn.out] at hue); subst hue; have HX3 := Lib.hid (HX2.out.below hb3 (by omega)); have hz3 := hb3.size; have HB3 := Lib.hid (bthen HB2.out hb3); have HA3 := Lib.hid (ownV_isA ho3 (by unfold maxLen; have := HAn.out; omega) hb3.size); clear hb3 ho3)
                | (go_at_call 39; refine (HCl.out _ _ (HF.out.below HB3.out) HA3.out).mono ?_; rintro e w4 ⟨rfl, hb4⟩; have HX4 := Lib.hid (HX3.out.below hb4 (by omega)); (obtain ⟨k0, k1⟩ := HX4.out.cells); have HB4 := Lib.hid (bthen HB3.out hb4); have HA4 := Lib.hid (HA3.out.below hb4 hb4.size); clear hb4)
                | (go_at_call 40; refine (HNm.out _ _ (HW.out.below HB4.out) HA4.out).mono ?_; rintro e w5 ⟨rfl, hb5⟩; have HB5 := Lib.hid (bthen HB4.out hb5); clear hb5))
              go_ret
              exact ⟨rfl, HB5.out⟩
            | true =>
              simp only [Bool.true_eq_false, if_false] at hf
              subst hf
              go_enter Tryz.func13, Tryz.ntmps13
              go_wp2_with (first
                | (go_at_call 37; refine (HK.out _).mono ?_; rintro e w2 ⟨rfl, hb2⟩; have HX2 := Lib.hid (HBx.out.below hb2 (by simp)); (obtain ⟨f0, f1⟩ := HX2.out.cells); have hz2 := hb2.size; (simp only [World.size_alloc] at hz2); have HB2 := Lib.hid (HB0.out.trans (hb2.mono HB0.out.size)); clear hb2)
                | (go_at_call 38; refine (HSo.out _ (HW.out.below HB2.out) (HI.out.below HB2.out HB2.out.size)).mono ?_; rintro e w3 hsw; (simp only [SoundW] at hsw); (obtain ⟨hb3, u, rfl, ho3⟩ := hsw); (obtain ⟨ua, uc, hue⟩ := ownV_slice ho3); (rw [← HAn.out] at hue); subst hue; have HX3 := Lib.hid (HX2.out.below hb3 (by omega)); have hz3 := hb3.size; have HB3 := Lib.hid (bthen HB2.out hb3); have HA3 := Lib.hid (ownV_isA ho3 (by unfold maxLen; have := HAn.out; omega) hb3.size); clear hb3 ho3)
                | (go_at_call 39; refine (HCl.out _ _ (HF.out.below HB3.out) HA3.out).mono ?_; rintro e w4 ⟨rfl, hb4⟩; have HX4 := Lib.hid (HX3.out.below hb4 (by omega)); (obtain ⟨k0, k1⟩ := HX4.out.cells); have HB4 := Lib.hid (bthen HB3.out hb4); have HA4 := Lib.hid (HA3.out.below hb4 hb4.size); clear hb4)
                | (go_at_call 40; refine (HNm.out _ _ (HW.out.below HB4.out) HA4.out).mono ?_; rintro e w5 ⟨rfl, hb5⟩; have HB5 := Lib.hid (bthen HB4.out hb5); clear hb5))
              go_ret
              exact ⟨rfl, HB5.out⟩
end Go.Proofs.YtofmpaphafhdpaaGreatDoor
