/- Several texts in one file: ScClassed, ScCheck, EnSort, EnSetW, EnNorm, EnNext. -/
import Derived.Test.YtpnbcmblnplbgaaGreatDoorChgP3
import Derived.Test.YtpnbcmblnplbgaaGreatDoorDnKey
import Derived.Test.YtpnbcmblnplbgaaGreatDoorChgP1
import Derived.Deep.RegionHeld3
import Derived.Test.YtpnbcmblnplbgaaGreatDoorDnTextW
namespace Go.Proofs.YtpnbcmblnplbgaaGreatDoor
open Go.RowKit
set_option linter.unusedVariables false

theorem class_words : ∀ c ∈ classL, (c.mustL ++ c.mayL).length ≤ 8 := by
  intro c hc
  simp only [classL, List.mem_cons, List.not_mem_nil, or_false] at hc
  rcases hc with rfl | rfl | rfl | rfl | rfl | rfl | rfl <;> decide
theorem chain_mem : ∀ (k : Nat) (n : List UInt8), ∀ c ∈ chainC k n, c ∈ classL
  | 0, n, c, h => by simp [chainC] at h
  | k + 1, n, c, h => by
    simp only [chainC] at h
    cases e : findC n with
    | none => rw [e] at h; simp at h
    | some d =>
      rw [e] at h
      rcases List.mem_cons.1 h with rfl | h
      · exact (findC_mem e).1
      · exact chain_mem k d.sup c h
theorem allC_mem : ∀ {V : List (List UInt8)} {A : List CT} {s : Bool}, allC V = some (A, s) → (∀ c ∈ A, c ∈ classL) ∧ A.length ≤ 3 * V.length
  | [], A, s, h => by simp only [allC, Option.some.injEq, Prod.mk.injEq] at h; rw [← h.1]; simp
  | v :: l, A, s, h => by
    simp only [allC] at h
    cases e : findC (fold v) with
    | none => rw [e] at h; cases h
    | some c =>
      rw [e] at h
      cases e2 : allC l with
      | none => rw [e2] at h; cases h
      | some p =>
        obtain ⟨A2, s2⟩ := p
        rw [e2] at h
        simp only [Option.map_some, Option.some.injEq, Prod.mk.injEq] at h
        obtain ⟨h1, h2⟩ := allC_mem e2
        rw [← h.1]
        have := chain_len (fold v) 3
        exact ⟨fun c hc => (List.mem_append.1 hc).elim (chain_mem 3 _ c) (h1 c), by simp; omega⟩
theorem mayC_len {A : List CT} (h : ∀ c ∈ A, c ∈ classL) : (mayC A).length ≤ 8 * A.length := by
  induction A with
  | nil => simp [mayC]
  | cons c A ih =>
    have h1 := class_words c (h c (by simp))
    have h2 := ih (fun d hd => h d (by simp [hd]))
    simp only [mayC, List.flatMap_cons, List.length_append] at *
    simp only [List.length_cons]
    omega
theorem mayC_take (A : List CT) (j : Nat) (h : j < A.length) : mayC (A.take (j + 1)) = mayC (A.take j) ++ (A[j].mustL ++ A[j].mayL) := by
  unfold mayC
  rw [List.take_succ_eq_append_getElem h, List.flatMap_append]
  simp
theorem classed_none {L : List AT} (h : allC (valsS L objB) = none) : classedD L = false := by unfold classedD; rw [h]
theorem classed_not {L : List AT} {A : List CT} (h : allC (valsS L objB) = some (A, false)) : classedD L = false := by unfold classedD; rw [h]; rfl
theorem classed_must {L : List AT} {A : List CT} {s : Bool} (h : allC (valsS L objB) = some (A, s)) {c : CT} (hc : c ∈ A) {t : List UInt8} (ht : t ∈ c.mustL) (hn : hasS L t = false) : classedD L = false := by
  unfold classedD
  rw [h]
  have : A.all (fun c => c.mustL.all (hasS L)) = false := List.all_eq_false.2 ⟨c, hc, by
    simp only [Bool.not_eq_true]
    exact List.all_eq_false.2 ⟨t, ht, by rw [hn]; simp⟩⟩
  simp [this]
theorem classed_may {L : List AT} {A : List CT} {s : Bool} (h : allC (valsS L objB) = some (A, s)) {a : AT} (ha : a ∈ L) (hn : (mayC A).contains a.1 = false) : classedD L = false := by
  unfold classedD
  rw [h]
  have : L.all (fun a => (mayC A).contains a.1) = false := List.all_eq_false.2 ⟨a, ha, by rw [hn]; simp⟩
  simp only [this]
  simp
theorem classed_is {L : List AT} {A : List CT} (h : allC (valsS L objB) = some (A, true)) (h1 : ∀ c ∈ A, ∀ t ∈ c.mustL, hasS L t = true) (h2 : ∀ a ∈ L, (mayC A).contains a.1 = true) : classedD L = true := by
  unfold classedD
  rw [h]
  have e1 : A.all (fun c => c.mustL.all (hasS L)) = true := List.all_eq_true.2 (fun c hc => List.all_eq_true.2 (h1 c hc))
  have e2 : L.all (fun a => (mayC A).contains a.1) = true := List.all_eq_true.2 h2
  simp only [e1, e2]
  rfl

theorem isTT_three {n0 : Nat} {w : World} {A1 A2 A3 : List (List UInt8)} {u1 u2 u3 : Value} (h1 : IsT w.heap.size w A1 u1) (h2 : IsT w.heap.size w A2 u2) (h3 : IsT w.heap.size w A3 u3) (e : TypeId) :
    IsTT (w.alloc (.cells #[u1, u2, u3] e)).heap.size (w.alloc (.cells #[u1, u2, u3] e)) [A1, A2, A3] (.slice (some ⟨w.heap.size, 0, none⟩) 3 3) := by
  have ha : Below w.heap.size w (w.alloc (.cells #[u1, u2, u3] e)) := (Below.refl _ _).alloc (Nat.le_refl _) _
  have hh : (w.alloc (.cells #[u1, u2, u3] e)).heap[w.heap.size]? = some (.cells #[u1, u2, u3] e (0, 0)) := heap_alloc_new w _
  refine ⟨_, _, rfl, fun j hj => ?_⟩
  match j, hj with
  | 0, _ => exact ⟨w.heap.size, 0, u1, rfl, by simp, by simp only [World.cell?, hh]; rfl, h1.below ha ha.size⟩
  | 1, _ => exact ⟨w.heap.size, 0, u2, rfl, by simp, by simp only [World.cell?, hh]; rfl, h2.below ha ha.size⟩
  | 2, _ => exact ⟨w.heap.size, 0, u3, rfl, by simp, by simp only [World.cell?, hh]; rfl, h3.below ha ha.size⟩

set_option maxRecDepth 100000 in
set_option maxHeartbeats 8000000 in
theorem isClassed_any (L : List AT) (hs : L.length ≤ 900) (hsm : smallT (valsS L objB)) (v : Value) (w : World) (hl : LaidF w) (h : IsA w.heap.size w L v) :
    Calls Tryz.prog 59 #[v] w fun e w' => e = .returned (.bool (classedD L)) ∧ Below w.heap.size w w' := by
  obtain ⟨R, hR⟩ : ∃ R, R = classedD L := ⟨_, rfl⟩
  rw [← hR]
  have HI := Lib.hid h
  obtain ⟨sa, sc, hv, hmx, hcell⟩ := id h
  obtain ⟨n, hn⟩ : ∃ n, n = L.length := ⟨_, rfl⟩
  rw [← hn] at hv hs
  subst hv
  have HN := Lib.hid hn
  have HL := Lib.hid hl
  have HR := Lib.hid hR
  have HSm := Lib.hid hsm
  have HC := Lib.hid hcell
  have hvo := fun (W : World) (q : IsA W.heap.size W L (.slice sa n sc)) => valsOf_any L (by omega) (.slice sa n sc) ⟨#[111, 98, 106, 101, 99, 116, 99, 108, 97, 115, 115]⟩ W q
  have HVo := Lib.hid hvo
  clear hcell hR hl hsm hn h hmx hvo
  cases hq : allC (valsS L objB) with
  | none =>
    have hf : R = false := by rw [HR.out, classed_none hq]
    subst hf
    have HQ := Lib.hid hq
    clear hq HR
    go_enter Tryz.func59, Tryz.ntmps59
    go_wp2_with (first
      | (go_at_call 87; refine (HVo.out _ HI.out).mono ?_; rintro e w2 ⟨u, rfl, hu, hb2⟩; have HU := Lib.hid (hu.below hb2 hb2.size); have HB2 := Lib.hid hb2; clear hu hb2)
      | (go_at_call 86; refine (classesOf_any (valsS L objB) HSm.out _ _ (HL.out.below HB2.out) HU.out).mono ?_; rintro e w3 hcw; (simp only [ClsW, HQ.out] at hcw); (obtain ⟨hb3, rfl⟩ := hcw); have HB3 := Lib.hid (bthen HB2.out hb3); clear hb3))
    go_ret
    exact ⟨rfl, HB3.out⟩
  | some p =>
    obtain ⟨A, s⟩ := p
    have HQ := Lib.hid hq
    cases s with
    | false =>
      have hf : R = false := by rw [HR.out, classed_not hq]
      subst hf
      clear hq HR
      go_enter Tryz.func59, Tryz.ntmps59
      go_wp2_with (first
        | (go_at_call 87; refine (HVo.out _ HI.out).mono ?_; rintro e w2 ⟨u, rfl, hu, hb2⟩; have HU := Lib.hid (hu.below hb2 hb2.size); have HB2 := Lib.hid hb2; clear hu hb2)
        | (go_at_call 86; refine (classesOf_any (valsS L objB) HSm.out _ _ (HL.out.below HB2.out) HU.out).mono ?_; rintro e w3 hcw; (simp only [ClsW, HQ.out] at hcw); (obtain ⟨hb3, g3, v3, rfl, ho3⟩ := hcw); have HB3 := Lib.hid (bthen HB2.out hb3); clear hb3 ho3))
      go_ret
      exact ⟨rfl, HB3.out⟩
    | true =>
      obtain ⟨hmem, hAl⟩ := allC_mem hq
      have hA3 : A.length ≤ 3000 := by have := HSm.out.1; omega
      have hmay := mayC_len hmem
      obtain ⟨m, hm⟩ : ∃ m, m = A.length := ⟨_, rfl⟩
      have HM := Lib.hid hm
      have HMem := Lib.hid hmem
      rw [← hm] at hA3 hmay hAl
      clear hq hm hmem
      go_enter Tryz.func59, Tryz.ntmps59
      go_wp2_with (first
        | (go_at_call 87; refine (HVo.out _ HI.out).mono ?_; rintro e w2 ⟨u, rfl, hu, hb2⟩; have HU := Lib.hid (hu.below hb2 hb2.size); have HB2 := Lib.hid hb2; clear hu hb2)
        | (go_at_call 86; refine (classesOf_any (valsS L objB) HSm.out _ _ (HL.out.below HB2.out) HU.out).mono ?_; rintro e w3 hcw; (simp only [ClsW, HQ.out] at hcw); (obtain ⟨hb3, g3, v3, rfl, ho3⟩ := hcw); (obtain ⟨ca, cc, hcv, _, hck⟩ := ownK_isK ho3 (by unfold maxLen; have := HM.out; omega)); (rw [← HM.out] at hcv); subst hcv; have HK := Lib.hid hck; have HB3 := Lib.hid (bthen HB2.out hb3); clear hb3 ho3 hck))
      go_loopw [5, 22] (fun l i wr => ∃ (j : Nat), j ≤ m ∧ i = .int .i64 j ∧ Hid (∀ k (hk : k < A.length), k < j → ∀ t ∈ A[k].mustL, hasS L t = true) ∧ OwnS w3.heap.size wr l (mayC (A.take j)) ∧ Below w3.heap.size w3 wr) (fun _ i wr => m - (intOf i).toNat)
      case atStart => exact ⟨0, by omega, rfl, Lib.hid (fun k _ h => absurd h (by omega)), ownS_nil _ _, Below.refl _ _⟩
      case round =>
        obtain ⟨j, hj, rfl, HMu, hown, hbel⟩ := hrel
        rename World => wo
        have HBel := Lib.hid hbel
        have hbs := hbel.size
        obtain ⟨la, lc, hlv⟩ := ownS_slice hown
        have hml : (mayC (A.take j)).length ≤ 24000 := by
          have := mayC_len (A := A.take j) (fun c hc => HMem.out c (List.mem_of_mem_take hc))
          rw [List.length_take] at this
          omega
        obtain ⟨ln, hln⟩ : ∃ k, k = (mayC (A.take j)).length := ⟨_, rfl⟩
        rw [← hln] at hlv hml
        subst hlv
        have HOwn := Lib.hid hown
        have HLn := Lib.hid hln
        clear hln hown
        by_cases hlt : j < m
        · have t3 : decide ((j : Int) < (m : Int)) = true := by simp; omega
          have t3' : decide (j < m) = true := by simpa using hlt
          have hlA : j < A.length := by rw [← HM.out]; exact hlt
          obtain ⟨b, off, u1, u2, hae, hb0, c0, c1, c2, c3, c4, ht1, ht2⟩ := HK.out j hlA
          subst hae
          obtain ⟨pa, pc, hx1, _, hmc⟩ := id ht1
          obtain ⟨pn, hpn⟩ : ∃ k, k = A[j].mustL.length := ⟨_, rfl⟩
          rw [← hpn] at hx1
          subst hx1
          obtain ⟨qa, qc, hx2, _⟩ := id ht2
          obtain ⟨qn, hqn⟩ : ∃ k, k = A[j].mayL.length := ⟨_, rfl⟩
          rw [← hqn] at hx2
          subst hx2
          obtain ⟨N2, hN2⟩ : ∃ X : ByteArray, X = ⟨A[j].name.toArray⟩ := ⟨_, rfl⟩
          obtain ⟨S2, hS2⟩ : ∃ X : ByteArray, X = ⟨A[j].sup.toArray⟩ := ⟨_, rfl⟩
          obtain ⟨st, hst⟩ : ∃ b, b = A[j].st := ⟨_, rfl⟩
          simp only [strV, ← hN2, ← hS2, ← hst] at c0 c1 c2
          have d0 := (hbel.cell (p := ⟨b, _, none⟩) hb0).trans c0
          have d1 := (hbel.cell (p := ⟨b, _, none⟩) hb0).trans c1
          have d2 := (hbel.cell (p := ⟨b, _, none⟩) hb0).trans c2
          have d3 := (hbel.cell (p := ⟨b, _, none⟩) hb0).trans c3
          have d4 := (hbel.cell (p := ⟨b, _, none⟩) hb0).trans c4
          have hw8 := class_words A[j] (HMem.out _ (List.getElem_mem _))
          rw [List.length_append, ← hpn, ← hqn] at hw8
          have HPn := Lib.hid hpn
          have HQn := Lib.hid hqn
          have HMc := Lib.hid hmc
          have HT1 := Lib.hid ht1
          have HT2 := Lib.hid ht2
          clear c0 c1 c2 c3 c4 hN2 hS2 hst hpn hqn ht1 ht2 hmc
          obtain ⟨W1, hW1⟩ : ∃ W1, W1 = wo.alloc (.cells #[.string N2, .string S2, .bool st, .slice pa pn pc, .slice qa qn qc] 127) := ⟨_, rfl⟩
          have hba : Below wo.heap.size wo W1 := by rw [hW1]; exact (Below.refl _ _).alloc (Nat.le_refl _) _
          have hbx : BoxC W1 wo.heap.size (.string N2) (.string S2) (.bool st) (.slice pa pn pc) (.slice qa qn qc) := by rw [hW1]; exact boxC_new _ _ _ _ _ _
          have hz1 : W1.heap.size = wo.heap.size + 1 := by rw [hW1]; simp
          have HBa := Lib.hid hba
          have HBx := Lib.hid hbx
          have HW1 := Lib.hid hW1
          clear hba hbx hW1
          go_wp2
          go_loopw [29] (fun i wr => ∃ (q : Nat), q ≤ pn ∧ i = .int .i64 q ∧ Hid (∀ k (hk : k < A[j].mustL.length), k < q → hasS L A[j].mustL[k] = true) ∧ Below W1.heap.size W1 wr) (fun i wr => pn - (intOf i).toNat)
          case atStart => exact ⟨0, by omega, rfl, Lib.hid (fun k _ h => absurd h (by omega)), HW1.out ▸ Below.refl _ _⟩
          case round =>
            obtain ⟨q, hq, rfl, HAll, hbq⟩ := hrel
            have HBq := Lib.hid hbq
            have hbqs := hbq.size
            have HBr : Hid (Below wo.heap.size wo wr) := Lib.hid (HBa.out.trans (hbq.mono (by omega)))
            have HB0 : Hid (Below w3.heap.size w3 wr) := Lib.hid (bthen HBel.out HBr.out)
            have HBw : Hid (Below w.heap.size w wr) := Lib.hid (bthen HB3.out HB0.out)
            clear hbq
            by_cases hlt2 : q < pn
            · have t5 : decide ((q : Int) < (pn : Int)) = true := by simp; omega
              have t5' : decide (q < pn) = true := by simpa using hlt2
              have hlM : q < A[j].mustL.length := by rw [← HPn.out]; exact hlt2
              obtain ⟨b2, off2, hpe, hb2, e0⟩ := HMc.out q hlM
              subst hpe
              obtain ⟨T, hT⟩ : ∃ X : ByteArray, ⟨A[j].mustL[q].toArray⟩ = X := ⟨_, rfl⟩
              have hTl : T.data.toList = A[j].mustL[q] := by rw [← hT]
              have f0 : (wr.cell? ⟨b2, off2 + q, none⟩) = some (.string T) := by
                rw [HB0.out.cell (p := ⟨b2, _, none⟩) hb2, e0, ← hT]; rfl
              have hha := hasS_any L (by have := HN.out; omega) (.slice sa n sc) T wr (HI.out.below HBw.out HBw.out.size)
              rw [hTl] at hha
              obtain ⟨g, hg⟩ : ∃ g, hasS L A[j].mustL[q] = g := ⟨_, rfl⟩
              rw [hg] at hha
              have HHa := Lib.hid hha
              have HG := Lib.hid hg
              have HTl := Lib.hid hTl
              clear hT hTl e0 hha hg
              cases g with
              | true =>
                have HA2 : Hid (∀ k (hk : k < A[j].mustL.length), k < q + 1 → hasS L A[j].mustL[k] = true) := Lib.hid (fun k h1 h3 => by
                  by_cases hk : k < q
                  · exact HAll.out k h1 hk
                  · obtain rfl : k = q := by omega
                    exact HG.out)
                go_wp2_with (go_at_call 84; refine (HHa.out).mono ?_; rintro e w5 ⟨rfl, hb5⟩; have HB5 := Lib.hid (HBq.out.trans (hb5.mono hbqs)); clear hb5)
                go_roundw
                case rel => exact ⟨q + 1, by omega, by go_num, HA2, HB5.out⟩
                case measure => simp [intOf]; omega
              | false =>
                have hf : R = false := by rw [HR.out]; exact classed_must HQ.out (List.getElem_mem hlA) (List.getElem_mem hlM) HG.out
                subst hf
                go_wp2_with (go_at_call 84; refine (HHa.out).mono ?_; rintro e w5 ⟨rfl, hb5⟩; have HB5 := Lib.hid (bthen HBw.out hb5); clear hb5)
                go_ret
                exact ⟨rfl, HB5.out⟩
            · obtain rfl : q = pn := by omega
              have t5 : decide ((q : Int) < (q : Int)) = false := by simp
              have t5' : decide (q < q) = false := by simp
              have HMu2 : Hid (∀ k (hk : k < A.length), k < j + 1 → ∀ t ∈ A[k].mustL, hasS L t = true) := Lib.hid (fun k h1 h3 => by
                by_cases hk : k < j
                · exact HMu.out k h1 hk
                · obtain rfl : k = j := by omega
                  intro t ht
                  obtain ⟨i, hi, rfl⟩ := List.getElem_of_mem ht
                  exact HAll.out i hi (by rw [HPn.out]; exact hi))
              have HX := Lib.hid (HBx.out.below HBq.out (by omega))
              obtain ⟨p0, p1, p2, p3, p4⟩ := HX.out.cells
              have HI1 := Lib.hid ((ownS_isT HOwn.out (by unfold maxLen; have := HLn.out; omega)).below HBr.out HBr.out.size)
              have HI2 := Lib.hid (HT1.out.below HB0.out HB0.out.size)
              have HI3 := Lib.hid (HT2.out.below HB0.out HB0.out.size)
              have hU : [mayC (A.take j), A[j].mustL, A[j].mayL].flatten.length ≤ 100000 := by
                have := HLn.out; have := HPn.out; have := HQn.out
                simp; omega
              have HU2 := Lib.hid hU
              have HFl : Hid ([mayC (A.take j), A[j].mustL, A[j].mayL].flatten = mayC (A.take (j + 1))) := Lib.hid (by rw [mayC_take A j hlA]; simp)
              have hba2 : Below wr.heap.size wr (wr.alloc (.cells #[.slice la ln lc, .slice pa q pc, .slice qa qn qc] 47)) := (Below.refl _ _).alloc (Nat.le_refl _) _
              have HB8 := Lib.hid (bthen HB0.out hba2)
              clear hU hba2
              go_wp2_with (go_at_call 88; refine (concat_any [mayC (A.take j), A[j].mustL, A[j].mayL] HU2.out (by simp) _ _ (isTT_three (n0 := 0) HI1.out HI2.out HI3.out 47)).mono ?_; rintro e w6 ⟨v6, rfl, ho6, hb6⟩; (rw [HFl.out] at ho6); (obtain ⟨ra, rc, hrv⟩ := ownS_slice ho6); subst hrv; have HO6 := Lib.hid (ownS_lower (B' := w3.heap.size) ho6 HB8.out.size); have HB6 := Lib.hid (bthen HB8.out hb6); clear ho6 hb6)
              go_roundw
              case rel => exact ⟨j + 1, by omega, by go_num, HMu2, HO6.out, HB6.out⟩
              case measure => simp [intOf]; omega
        · obtain rfl : j = m := by omega
          have t3 : decide ((j : Int) < (j : Int)) = false := by simp
          have t3' : decide (j < j) = false := by simp
          have HTk : Hid (A.take j = A) := Lib.hid (by rw [HM.out, List.take_length])
          have HMay : Hid (IsT wo.heap.size wo (mayC A) (.slice la ln lc)) := Lib.hid (by have := ownS_isT HOwn.out (by unfold maxLen; have := HLn.out; omega); rwa [HTk.out] at this)
          have HMust : Hid (∀ c ∈ A, ∀ t ∈ c.mustL, hasS L t = true) := Lib.hid (fun c hc => by
            obtain ⟨k, hk, rfl⟩ := List.getElem_of_mem hc
            exact HMu.out k hk (by rw [HM.out]; exact hk))
          clear hbel
          go_wp2
          go_loopw [48] (fun i wr => ∃ (q : Nat), q ≤ n ∧ i = .int .i64 q ∧ Hid (∀ k (hk : k < L.length), k < q → (mayC A).contains L[k].1 = true) ∧ Below wo.heap.size wo wr) (fun i wr => n - (intOf i).toNat)
          case atStart => exact ⟨0, by omega, rfl, Lib.hid (fun k _ h => absurd h (by omega)), Below.refl _ _⟩
          case round =>
            obtain ⟨q, hq, rfl, HAll, hbq⟩ := hrel
            have HBq := Lib.hid hbq
            have hbqs := hbq.size
            by_cases hlt : q < n
            · have t5 : decide ((q : Int) < (n : Int)) = true := by simp; omega
              have t5' : decide (q < n) = true := by simpa using hlt
              have hlL : q < L.length := by rw [← HN.out]; exact hlt
              obtain ⟨b, off, u, hae, hb0, c0, c1, ht⟩ := HC.out q hlL
              subst hae
              obtain ⟨ua, uc, hu, _⟩ := id ht
              obtain ⟨un, hun⟩ : ∃ k, k = L[q].2.length := ⟨_, rfl⟩
              rw [← hun] at hu
              subst hu
              obtain ⟨X, hX⟩ : ∃ X : ByteArray, ⟨L[q].1.toArray⟩ = X := ⟨_, rfl⟩
              have hXl : X.data.toList = L[q].1 := by rw [← hX]
              have hbw : Below w.heap.size w wr := (bthen HB3.out HBel.out).trans (HBq.out.mono (Nat.le_trans HB3.out.size HBel.out.size))
              have d0 : (wr.cell? ⟨b, off + q * 2, none⟩) = some (.string X) := by
                rw [hbw.cell (p := ⟨b, _, none⟩) hb0, c0, ← hX]; rfl
              have d1 := (hbw.cell (p := ⟨b, off + q * 2 + 1, none⟩) hb0).trans c1
              have HA := Lib.hid (Below.alloc HBq.out hbqs (.cells #[.string X, .slice ua un uc] 56))
              have HCo := Lib.hid (containsS_any (mayC A) (.slice la ln lc) X _ (HMay.out.below HA.out HA.out.size))
              rw [hXl] at HCo
              obtain ⟨g, hg⟩ : ∃ g, (mayC A).contains L[q].1 = g := ⟨_, rfl⟩
              rw [hg] at HCo
              have HG := Lib.hid hg
              clear hun hX hXl c0 c1 ht hbq hbw hg
              cases g with
              | true =>
                have HA2 : Hid (∀ k (hk : k < L.length), k < q + 1 → (mayC A).contains L[k].1 = true) := Lib.hid (fun k h1 h3 => by
                  by_cases hk : k < q
                  · exact HAll.out k h1 hk
                  · obtain rfl : k = q := by omega
                    exact HG.out)
                go_wp2_with (go_at_call 89; refine (HCo.out).mono ?_; rintro e w5 ⟨rfl, rfl⟩)
                go_roundw
                case rel => exact ⟨q + 1, by omega, by go_num, HA2, HA.out⟩
                case measure => simp [intOf]; omega
              | false =>
                have hf : R = false := by rw [HR.out]; exact classed_may HQ.out (List.getElem_mem hlL) HG.out
                subst hf
                go_wp2_with (go_at_call 89; refine (HCo.out).mono ?_; rintro e w5 ⟨rfl, rfl⟩)
                go_ret
                exact ⟨rfl, (bthen HB3.out HBel.out).trans (HA.out.mono (Nat.le_trans HB3.out.size HBel.out.size))⟩
            · obtain rfl : q = n := by omega
              have t5 : decide ((q : Int) < (q : Int)) = false := by simp
              have t5' : decide (q < q) = false := by simp
              have hf : R = true := by
                rw [HR.out]
                exact classed_is HQ.out HMust.out (fun a ha => by
                  obtain ⟨k, hk, rfl⟩ := List.getElem_of_mem ha
                  exact HAll.out k hk (by rw [HN.out]; exact hk))
              subst hf
              clear hbq
              go_wp2
              go_ret
              exact ⟨rfl, (bthen HB3.out HBel.out).trans (HBq.out.mono (Nat.le_trans HB3.out.size HBel.out.size))⟩
end Go.Proofs.YtpnbcmblnplbgaaGreatDoor


namespace Go.Proofs.YtpnbcmblnplbgaaGreatDoor
open Go.RowKit
set_option linter.unusedVariables false

def BoxN (w : World) (b : Nat) (x : ByteArray) (u : Value) : Prop := w.heap[b]? = some (.cells #[.string x, u] 27 (0, 0))
theorem BoxN.below {w w' : World} {b n : Nat} {x : ByteArray} {u : Value} (h : BoxN w b x u) (hb : Below n w w') (hn : b < n) : BoxN w' b x u := (hb.block b hn).trans h
theorem BoxN.cells {w : World} {b : Nat} {x : ByteArray} {u : Value} (h : BoxN w b x u) : w.cell? ⟨b, 0, none⟩ = some (.string x) ∧ w.cell? ⟨b, 1, none⟩ = some u := by
  unfold BoxN at h
  simp [World.cell?, h]
theorem boxN_new (w : World) (x : ByteArray) (u : Value) : BoxN (w.alloc (.cells #[.string x, u] 27)) w.heap.size x u := heap_alloc_new w _

theorem norm_short {r : Nat} {v x : List UInt8} (h : normD r v = some x) : v.length ≤ 100 := by
  unfold normD at h
  split at h
  · cases h
  · rename_i hn
    have := not_or.1 hn
    omega
theorem norms_short {r : Nat} : ∀ {V l : List (List UInt8)}, normsS r V = some l → ∀ v ∈ V, v.length ≤ 100
  | [], l, h, v, hv => by simp at hv
  | x :: V, l, h, v, hv => by
    simp only [normsS] at h
    cases e : normD r x with
    | none => rw [e] at h; cases h
    | some y =>
      rw [e] at h
      cases e2 : normsS r V with
      | none => rw [e2] at h; cases h
      | some m =>
        rcases List.mem_cons.1 hv with rfl | hv
        · exact norm_short e
        · exact norms_short e2 v hv
theorem most_le (t : List UInt8) : mostS t ≤ 40 := by unfold mostS; split <;> omega
theorem vals_small {t : List UInt8} {V : List (List UInt8)} (h : valsC t V = 0) : V.length ≤ 40 ∧ ∀ v ∈ V, v.length ≤ 100 := by
  unfold valsC at h
  split at h
  · omega
  · rename_i hn
    have hm := most_le t
    have := not_or.1 hn
    refine ⟨by omega, ?_⟩
    cases e : normsS (ruleD t) V with
    | none => rw [e] at h; simp at h
    | some l => exact norms_short e
def soundS (A : List AT) : Prop := ∀ a ∈ A, a.2.length ≤ 40 ∧ ∀ v ∈ a.2, v.length ≤ 100
theorem sound_small : ∀ {L A B : List AT}, soundR A L = .ok B → soundS A → soundS B ∧ B.length ≤ A.length + L.length
  | [], A, B, h, hA => by simp only [soundR, Except.ok.injEq] at h; subst h; exact ⟨hA, by simp⟩
  | a :: l, A, B, h, hA => by
    simp only [soundR] at h
    cases e : canonD a.1 with
    | none => rw [e] at h; simp at h
    | some t =>
      rw [e] at h
      simp only at h
      split at h
      · simp at h
      · split at h
        · rename_i h0
          have := sound_small h (fun x hx => (List.mem_append.1 hx).elim (hA x) (fun hx => by
            rw [List.mem_singleton] at hx
            rw [hx]
            exact vals_small h0))
          exact ⟨this.1, by have := this.2; simp at this ⊢; omega⟩
        · simp at h
theorem vals_of_small {A : List AT} (h : soundS A) (t : List UInt8) : smallT (valsS A t) := by
  unfold valsS
  split
  · rename_i a ha
    have := h a (List.mem_of_find?_eq_some ha)
    exact ⟨by omega, fun v hv => by have := this.2 v hv; omega⟩
  · exact ⟨by simp, fun v hv => by simp at hv⟩
theorem key_parts {d k : List UInt8} (h : keyD d = some k) (hk : k ≠ []) : ∃ r rs, parseD d = some (r :: rs) := by
  rw [keyD_eq] at h
  cases e : parseD d with
  | none => rw [e] at h; cases h
  | some l =>
    cases l with
    | nil =>
      rw [e] at h
      exact absurd (by
        simp only [Option.bind_some, keyL] at h
        simpa [textD] using h.symm) hk
    | cons r rs => exact ⟨r, rs, rfl⟩
theorem check_none {d : List UInt8} {L : List AT} (h : keyD d = none) : checkD d L = 34 := by unfold checkD; rw [h]
theorem check_empty {d : List UInt8} {L : List AT} (h : keyD d = some []) : checkD d L = 34 := by unfold checkD; rw [h]; rfl
theorem check_many {d k : List UInt8} {L : List AT} (h : keyD d = some k) (hk : k ≠ []) (hl : 20 < L.length) : checkD d L = 19 := by unfold checkD; rw [h]; simp only; rw [if_neg hk, if_pos hl]
theorem check_sound {d k : List UInt8} {L : List AT} (h : keyD d = some k) (hk : k ≠ []) (hl : ¬ 20 < L.length) {c : Int} (hs : soundR [] L = .error c) : checkD d L = c := by unfold checkD; rw [h]; simp only; rw [if_neg hk, if_neg hl, hs]
theorem check_behind {d k : List UInt8} {L A : List AT} (h : keyD d = some k) (hk : k ≠ []) (hl : ¬ 20 < L.length) (hs : soundR [] L = .ok A) : checkD d L = behindD A d := by unfold checkD; rw [h]; simp only; rw [if_neg hk, if_neg hl, hs]

set_option maxRecDepth 100000 in
set_option maxHeartbeats 8000000 in
theorem checkE_any (D : ByteArray) (hD : D.size ≤ 1000000) (L : List AT) (v : Value) (w : World) (hw : LaidW w) (hl : LaidF w) (h : IsA w.heap.size w L v) :
    Calls Tryz.prog 36 #[.agg #[.string D, v]] w fun e w' => e = .returned (.int .i64 (checkD D.data.toList L)) ∧ Below w.heap.size w w' := by
  obtain ⟨R, hR⟩ : ∃ R, R = checkD D.data.toList L := ⟨_, rfl⟩
  rw [← hR]
  have hke := fun w => key_any D (by omega) w
  obtain ⟨sa, sc, hv, hmx, _⟩ := id h
  obtain ⟨n, hn⟩ : ∃ n, n = L.length := ⟨_, rfl⟩
  rw [← hn] at hv hmx
  unfold maxLen at hmx
  subst hv
  have HI := Lib.hid h
  have HN := Lib.hid hn
  have HR := Lib.hid hR
  have hb0 : Below w.heap.size w (w.alloc (.cells #[.string D, .slice sa n sc] 27)) := (Below.refl _ _).alloc (Nat.le_refl _) _
  have HB0 := Lib.hid hb0
  have HBx := Lib.hid (boxN_new w D (.slice sa n sc))
  have HW := Lib.hid hw
  have HF := Lib.hid hl
  clear h hn hR hb0 hw hl
  cases hq : keyD D.data.toList with
  | none =>
    have hf : R = 34 := by rw [HR.out, check_none hq]
    subst hf
    rw [hq] at hke
    simp only [keyV] at hke
    have HK := Lib.hid hke
    clear hke hq HR
    go_enter Tryz.func36, Tryz.ntmps36
    go_wp2_with (go_at_call 57; refine (HK.out _).mono ?_; rintro e w2 ⟨rfl, hb2⟩; have HB2 := Lib.hid (HB0.out.trans (hb2.mono HB0.out.size)); clear hb2)
    go_ret
    exact ⟨rfl, HB2.out⟩
  | some k =>
    rw [hq] at hke
    simp only [keyV] at hke
    by_cases hk : k = []
    · subst hk
      have hf : R = 34 := by rw [HR.out, check_empty hq]
      subst hf
      have HK := Lib.hid hke
      clear hke hq HR
      go_enter Tryz.func36, Tryz.ntmps36
      go_wp2_with (go_at_call 57; refine (HK.out _).mono ?_; rintro e w2 ⟨rfl, hb2⟩; have HB2 := Lib.hid (HB0.out.trans (hb2.mono HB0.out.size)); clear hb2)
      go_ret
      exact ⟨rfl, HB2.out⟩
    · obtain ⟨K, hK⟩ : ∃ K : ByteArray, K = ⟨k.toArray⟩ := ⟨_, rfl⟩
      have hKl : K.data.toList = k := by rw [hK]
      rw [← hK] at hke
      have hne : K ≠ ⟨#[]⟩ := fun e => hk (by rw [← hKl, e])
      have e1 := str_ne hne
      have e2 : (K.toList == []) = false := by
        have h2 : K.toList ≠ [] := by rw [ByteArray.toList_eq, hKl]; exact hk
        simpa using h2
      have e3 : K.toList.isEmpty = false := by
        have h2 : K.toList ≠ [] := by rw [ByteArray.toList_eq, hKl]; exact hk
        simpa [List.isEmpty_iff] using h2
      have e4 : (K.toList = []) = False := by
        have h2 : K.toList ≠ [] := by rw [ByteArray.toList_eq, hKl]; exact hk
        simpa using h2
      have HK := Lib.hid hke
      have HQ := Lib.hid hq
      have HKk := Lib.hid hk
      clear hke hq hk hK hKl hne
      by_cases hm : 20 < n
      · have hf : R = 19 := by rw [HR.out, check_many HQ.out HKk.out (by rw [← HN.out]; exact hm)]
        subst hf
        have t1 : decide ((20 : Int) < (n : Int)) = true := by simp; omega
        have t1' : decide (20 < n) = true := by simpa using hm
        clear HR
        go_enter Tryz.func36, Tryz.ntmps36
        go_wp2_with (go_at_call 57; refine (HK.out _).mono ?_; rintro e w2 ⟨rfl, hb2⟩; have HX2 := Lib.hid (HBx.out.below hb2 (by simp)); (obtain ⟨f0, f1⟩ := HX2.out.cells); have HB2 := Lib.hid (HB0.out.trans (hb2.mono HB0.out.size)); clear hb2)
        go_ret
        exact ⟨rfl, HB2.out⟩
      · have t1 : decide ((20 : Int) < (n : Int)) = false := by simp; omega
        have t1' : decide (20 < n) = false := by simpa using hm
        have hL20 : ¬ 20 < L.length := by rw [← HN.out]; exact hm
        have hso := fun (W : World) (q : LaidW W) (q2 : IsA W.heap.size W L (.slice sa n sc)) => sound_any L (by omega) (.slice sa n sc) W q q2
        cases hs : soundR [] L with
        | error c =>
          have hc0 := sound_err hs
          rw [hs] at hso
          have hf : R = c := by rw [HR.out, check_sound HQ.out HKk.out hL20 hs]
          subst hf
          have t2 : (R != 0) = true := by simpa using hc0
          have HSo := Lib.hid hso
          clear HR hso hs hL20 hc0
          go_enter Tryz.func36, Tryz.ntmps36
          go_wp2_with (first
            | (go_at_call 57; refine (HK.out _).mono ?_; rintro e w2 ⟨rfl, hb2⟩; have HX2 := Lib.hid (HBx.out.below hb2 (by simp)); (obtain ⟨f0, f1⟩ := HX2.out.cells); have HB2 := Lib.hid (HB0.out.trans (hb2.mono HB0.out.size)); clear hb2)
            | (go_at_call 58; refine (HSo.out _ (HW.out.below HB2.out) (HI.out.below HB2.out HB2.out.size)).mono ?_; rintro e w3 hsw; (simp only [SoundW] at hsw); (obtain ⟨hb3, rfl⟩ := hsw); have HB3 := Lib.hid (bthen HB2.out hb3); clear hb3))
          go_ret
          exact ⟨rfl, HB3.out⟩
        | ok A =>
          rw [hs] at hso
          obtain ⟨hsm, hAl⟩ := sound_small hs (fun a ha => by simp at ha)
          have hf : R = behindD A D.data.toList := by rw [HR.out, check_behind HQ.out HKk.out hL20 hs]
          obtain ⟨r, rs, hp⟩ := key_parts HQ.out HKk.out
          have hAl2 : A.length ≤ 20 := by simp at hAl; omega
          obtain ⟨an, han⟩ : ∃ k, k = A.length := ⟨_, rfl⟩
          rw [← han] at hAl2
          have HAn := Lib.hid han
          have hcl := fun (u : Value) (W : World) (q : LaidF W) (q2 : IsA W.heap.size W A u) => isClassed_any A (by omega) (vals_of_small hsm objB) u W q q2
          have hnm := fun (u : Value) (W : World) (q : LaidW W) (q2 : IsA W.heap.size W A u) => isNamed_any A (by omega) D hD r rs hp u W q q2
          obtain ⟨c, hc⟩ : ∃ c, classedD A = c := ⟨_, rfl⟩
          obtain ⟨m, hm2⟩ : ∃ c, namedD A D.data.toList = c := ⟨_, rfl⟩
          unfold behindD at hf
          rw [hc, hm2] at hf
          rw [hc] at hcl
          rw [hm2] at hnm
          have HSo := Lib.hid hso
          have HCl := Lib.hid hcl
          have HNm := Lib.hid hnm
          clear HR hso hs hL20 hsm hAl hp han hcl hnm hc hm2
          cases c with
          | false =>
            simp only [if_true] at hf
            subst hf
            go_enter Tryz.func36, Tryz.ntmps36
            go_wp2_with (first
              | (go_at_call 57; refine (HK.out _).mono ?_; rintro e w2 ⟨rfl, hb2⟩; have HX2 := Lib.hid (HBx.out.below hb2 (by simp)); (obtain ⟨f0, f1⟩ := HX2.out.cells); have hz2 := hb2.size; (simp only [World.size_alloc] at hz2); have HB2 := Lib.hid (HB0.out.trans (hb2.mono HB0.out.size)); clear hb2)
              | (go_at_call 58; refine (HSo.out _ (HW.out.below HB2.out) (HI.out.below HB2.out HB2.out.size)).mono ?_; rintro e w3 hsw; (simp only [SoundW] at hsw); (obtain ⟨hb3, u, rfl, ho3⟩ := hsw); (obtain ⟨ua, uc, hue⟩ := ownV_slice ho3); (rw [← HAn.out] at hue); subst hue; have HB3 := Lib.hid (bthen HB2.out hb3); have HA3 := Lib.hid (ownV_isA ho3 (by unfold maxLen; have := HAn.out; omega) hb3.size); clear hb3 ho3)
              | (go_at_call 59; refine (HCl.out _ _ (HF.out.below HB3.out) HA3.out).mono ?_; rintro e w4 ⟨rfl, hb4⟩; have HB4 := Lib.hid (bthen HB3.out hb4); clear hb4))
            go_ret
            exact ⟨rfl, HB4.out⟩
          | true =>
            simp only [Bool.true_eq_false, if_false] at hf
            cases m with
            | false =>
              simp only [if_true] at hf
              subst hf
              go_enter Tryz.func36, Tryz.ntmps36
              go_wp2_with (first
                | (go_at_call 57; refine (HK.out _).mono ?_; rintro e w2 ⟨rfl, hb2⟩; have HX2 := Lib.hid (HBx.out.below hb2 (by simp)); (obtain ⟨f0, f1⟩ := HX2.out.cells); have hz2 := hb2.size; (simp only [World.size_alloc] at hz2); have HB2 := Lib.hid (HB0.out.trans (hb2.mono HB0.out.size)); clear hb2)
                | (go_at_call 58; refine (HSo.out _ (HW.out.below HB2.out) (HI.out.below HB2.out HB2.out.size)).mono ?_; rintro e w3 hsw; (simp only [SoundW] at hsw); (obtain ⟨hb3, u, rfl, ho3⟩ := hsw); (obtain ⟨ua, uc, hue⟩ := ownV_slice ho3); (rw [← HAn.out] at hue); subst hue; have HX3 := Lib.hid (HX2.out.below hb3 (by omega)); have hz3 := hb3.size; have HB3 := Lib.hid (bthen HB2.out hb3); have HA3 := Lib.hid (ownV_isA ho3 (by unfold maxLen; have := HAn.out; omega) hb3.size); clear hb3 ho3)
                | (go_at_call 59; refine (HCl.out _ _ (HF.out.below HB3.out) HA3.out).mono ?_; rintro e w4 ⟨rfl, hb4⟩; have HX4 := Lib.hid (HX3.out.below hb4 (by omega)); (obtain ⟨k0, k1⟩ := HX4.out.cells); have HB4 := Lib.hid (bthen HB3.out hb4); have HA4 := Lib.hid (HA3.out.below hb4 hb4.size); clear hb4)
                | (go_at_call 60; refine (HNm.out _ _ (HW.out.below HB4.out) HA4.out).mono ?_; rintro e w5 ⟨rfl, hb5⟩; have HB5 := Lib.hid (bthen HB4.out hb5); clear hb5))
              go_ret
              exact ⟨rfl, HB5.out⟩
            | true =>
              simp only [Bool.true_eq_false, if_false] at hf
              subst hf
              go_enter Tryz.func36, Tryz.ntmps36
              go_wp2_with (first
                | (go_at_call 57; refine (HK.out _).mono ?_; rintro e w2 ⟨rfl, hb2⟩; have HX2 := Lib.hid (HBx.out.below hb2 (by simp)); (obtain ⟨f0, f1⟩ := HX2.out.cells); have hz2 := hb2.size; (simp only [World.size_alloc] at hz2); have HB2 := Lib.hid (HB0.out.trans (hb2.mono HB0.out.size)); clear hb2)
                | (go_at_call 58; refine (HSo.out _ (HW.out.below HB2.out) (HI.out.below HB2.out HB2.out.size)).mono ?_; rintro e w3 hsw; (simp only [SoundW] at hsw); (obtain ⟨hb3, u, rfl, ho3⟩ := hsw); (obtain ⟨ua, uc, hue⟩ := ownV_slice ho3); (rw [← HAn.out] at hue); subst hue; have HX3 := Lib.hid (HX2.out.below hb3 (by omega)); have hz3 := hb3.size; have HB3 := Lib.hid (bthen HB2.out hb3); have HA3 := Lib.hid (ownV_isA ho3 (by unfold maxLen; have := HAn.out; omega) hb3.size); clear hb3 ho3)
                | (go_at_call 59; refine (HCl.out _ _ (HF.out.below HB3.out) HA3.out).mono ?_; rintro e w4 ⟨rfl, hb4⟩; have HX4 := Lib.hid (HX3.out.below hb4 (by omega)); (obtain ⟨k0, k1⟩ := HX4.out.cells); have HB4 := Lib.hid (bthen HB3.out hb4); have HA4 := Lib.hid (HA3.out.below hb4 hb4.size); clear hb4)
                | (go_at_call 60; refine (HNm.out _ _ (HW.out.below HB4.out) HA4.out).mono ?_; rintro e w5 ⟨rfl, hb5⟩; have HB5 := Lib.hid (bthen HB4.out hb5); clear hb5))
              go_ret
              exact ⟨rfl, HB5.out⟩
end Go.Proofs.YtpnbcmblnplbgaaGreatDoor


namespace Go.Proofs.YtpnbcmblnplbgaaGreatDoor
open Go.RowKit
set_option linter.unusedVariables false

def PairAt (W : World) (b p q : Nat) (X Y : ByteArray) (x y : Value) (w' : World) : Prop :=
  w'.cell? ⟨b, p, none⟩ = some (.string X) ∧ w'.cell? ⟨b, p + 1, none⟩ = some x ∧ w'.cell? ⟨b, q, none⟩ = some (.string Y) ∧ w'.cell? ⟨b, q + 1, none⟩ = some y ∧ b < W.heap.size ∧ Below W.heap.size W w'
theorem PairAt.go {W w1 w2 : World} {b p q : Nat} {X Y : ByteArray} {x y : Value} (h : PairAt W b p q X Y x y w1) (hb : Below w1.heap.size w1 w2) :
    w2.cell? ⟨b, p, none⟩ = some (.string X) ∧ w2.cell? ⟨b, p + 1, none⟩ = some x ∧ w2.cell? ⟨b, q, none⟩ = some (.string Y) ∧ w2.cell? ⟨b, q + 1, none⟩ = some y ∧ PairAt W b p q X Y x y w2 := by
  obtain ⟨h0, h1, h2, h3, h4, h5⟩ := h
  have hlt : b < w1.heap.size := Nat.lt_of_lt_of_le h4 h5.size
  have g0 := (hb.cell (p := ⟨b, p, none⟩) hlt).trans h0
  have g1 := (hb.cell (p := ⟨b, p + 1, none⟩) hlt).trans h1
  have g2 := (hb.cell (p := ⟨b, q, none⟩) hlt).trans h2
  have g3 := (hb.cell (p := ⟨b, q + 1, none⟩) hlt).trans h3
  exact ⟨g0, g1, g2, g3, g0, g1, g2, g3, h4, h5.trans (hb.mono h5.size)⟩
def inOrder (L : List AT) : Prop := ∀ i (h : i + 1 < L.length), ¬ cmpL L[i + 1].1 L[i].1 < 0
set_option maxRecDepth 100000 in
set_option maxHeartbeats 4000000 in
theorem insertion_any (L : List AT) (hl : L.length < 20) (ho : inOrder L) (v : Value) (w : World) (h : IsA w.heap.size w L v) :
    Calls Tryz.prog 97 #[v, .int .i64 0, .int .i64 L.length, .func (.func 43) #[] #[]] w fun e w' => e = .returned (.tuple #[]) ∧ Below w.heap.size w w' := by
  obtain ⟨a, c, rfl, hm, hcell⟩ := h
  have HC := Lib.hid hcell
  have HO := Lib.hid ho
  obtain ⟨n, hn⟩ : ∃ n, n = L.length := ⟨_, rfl⟩
  have HN := Lib.hid hn
  rw [← hn] at hl ⊢
  clear hcell ho hm hn
  go_enter Tryz.func97, Tryz.ntmps97
  go_wp2
  go_loopw [8] (fun i wr => ∃ j : Nat, 1 ≤ j ∧ j ≤ n + 1 ∧ i = .int .i64 j ∧ Below w.heap.size w wr) (fun i wr => n + 1 - (intOf i).toNat)
  case atStart => exact ⟨1, by omega, by omega, rfl, Below.refl _ _⟩
  case round =>
    obtain ⟨j, hj1, hj, rfl, hbel⟩ := hrel
    have HBel := Lib.hid hbel
    have hbs := hbel.size
    by_cases hlt : j < n
    · have t1 : decide ((j : Int) < (n : Int)) = true := by simp; omega
      have t1' : decide (j < n) = true := by simpa using hlt
      have t2 : decide ((0 : Int) < (j : Int)) = true := by simp; omega
      have t2' : decide (0 < j) = true := by simp; omega
      obtain ⟨k, rfl⟩ : ∃ k, j = k + 1 := ⟨j - 1, by omega⟩
      have hk1 : k + 1 < L.length := by rw [← HN.out]; exact hlt
      have hk0 : k < L.length := by omega
      obtain ⟨b, off, x, rfl, hb0, x0, x1, hx⟩ := HC.out (k + 1) hk1
      obtain ⟨b', off', y, hbe, hb0', y0, y1, hy⟩ := HC.out k hk0
      simp only [Option.some.injEq, Addr.mk.injEq, and_true] at hbe
      obtain ⟨rfl, rfl⟩ := hbe
      obtain ⟨xa, xn, xc, rfl⟩ := (show ∃ a k c, x = .slice a k c from by obtain ⟨a, c, hv, _⟩ := hx; exact ⟨a, _, c, hv⟩)
      obtain ⟨ya, yn, yc, rfl⟩ := (show ∃ a k c, y = .slice a k c from by obtain ⟨a, c, hv, _⟩ := hy; exact ⟨a, _, c, hv⟩)
      have hcmp := HO.out k hk1
      unfold cmpL at hcmp
      obtain ⟨X, hX⟩ : ∃ X : ByteArray, ofL L[k + 1].1 = X := ⟨_, rfl⟩
      obtain ⟨Y, hY⟩ : ∃ Y : ByteArray, ofL L[k].1 = Y := ⟨_, rfl⟩
      rw [hX, hY] at hcmp
      obtain ⟨I, hI⟩ : ∃ I, I = Extern.BytealgCompare.cmp X Y := ⟨_, rfl⟩
      rw [← hI] at hcmp
      have hcl : ∀ (p : Addr), p.block < w.heap.size → wr.cell? p = w.cell? p := fun p hp => hbel.cell hp
      have d0 : wr.cell? ⟨b, off + (k + 1) * 2, none⟩ = some (.string X) := by rw [hcl _ hb0, x0, ← hX]; rfl
      have d1 : wr.cell? ⟨b, off + (k + 1) * 2 + 1, none⟩ = some (.slice xa xn xc) := (hcl _ hb0).trans x1
      have e0 : wr.cell? ⟨b, off + k * 2, none⟩ = some (.string Y) := by rw [hcl _ hb0, y0, ← hY]; rfl
      have e1 : wr.cell? ⟨b, off + k * 2 + 1, none⟩ = some (.slice ya yn yc) := (hcl _ hb0).trans y1
      have t3 : decide (I < 0) = false := by simpa using hcmp
      have HI := Lib.hid hI
      have HCm := Lib.hid (fun w => typesCmp_any X Y (.slice xa xn xc) (.slice ya yn yc) w)
      have q1 : ((k : Int) + 1) < (n : Int) := by omega
      have q2 : (k : Int) < (n : Int) := by omega
      have q3 : (0 : Int) < (k : Int) + 1 := by omega
      have q4 : (0 : Int) ≤ (k : Int) + 1 := by omega
      have q5 : ((k : Int) + 1).toNat = k + 1 := by omega
      have q6 : IntKind.i64.wrap ((k : Int) + 1 - 1) = (k : Int) := by rw [IntKind.wrap_i64]; omega
      have q7 : (k : Int) + 1 - 1 = (k : Int) := by omega
      have q8 : IntKind.i64.wrap (k : Int) = (k : Int) := by rw [IntKind.wrap_i64]; omega
      have q9 : (0 : Int) ≤ (k : Int) := by omega
      have q10 : k < n := by omega
      clear hcl x0 x1 y0 y1 hX hY hI hcmp hx hy hbel hb0'
      go_wp2
      have hdr : Below wr.heap.size wr wr.drew := ⟨rfl, rfl, rfl, Nat.le_refl _, fun _ _ => rfl⟩
      have hbw : b < wr.heap.size := Nat.lt_of_lt_of_le hb0 hbs
      clear hdr
      go_loopw [9] (fun i wx => i = .int .i64 ((k : Int) + 1) ∧ Hid (wx = wr)) (fun i wx => 1)
      case atStart => exact ⟨by go_num, Lib.hid rfl⟩
      case round =>
        obtain ⟨rfl, hwx⟩ := hrel
        have hwx := hwx.out
        subst hwx
        go_wp2
        have hst : PairAt wr b (off + (k + 1) * 2) (off + k * 2) X Y (.slice xa xn xc) (.slice ya yn yc) wr := ⟨d0, d1, e0, e1, hbw, Below.refl _ _⟩
        have hst := hst.go (Below.refl _ _)
        go_region_held3 (fun w' => w'.cell? ⟨b, off + (k + 1) * 2, none⟩ = some (.string X) ∧ w'.cell? ⟨b, off + (k + 1) * 2 + 1, none⟩ = some (.slice xa xn xc) ∧ w'.cell? ⟨b, off + k * 2, none⟩ = some (.string Y) ∧ w'.cell? ⟨b, off + k * 2 + 1, none⟩ = some (.slice ya yn yc) ∧ PairAt wr b (off + (k + 1) * 2) (off + k * 2) X Y (.slice xa xn xc) (.slice ya yn yc) w')
          (first | exact hst | (go_split_ands; exact PairAt.go (by assumption) hb5) | (go_split_ands; exact PairAt.go (by assumption) (Below.refl _ _).drew) | (go_split_ands; exact PairAt.go (by assumption) (Below.refl _ _)))
          (first | (go_at_call 43; go_split_ands; ((with_reducible refine (HCm.out _).mono ?_); rintro e w5 ⟨he, hb5⟩; rw [← HI.out] at he; subst he)))
        go_split_ands
        have hT : PairAt wr b (off + (k + 1) * 2) (off + k * 2) X Y (.slice xa xn xc) (.slice ya yn yc) w5 := by assumption
        have HT := Lib.hid (HBel.out.trans (hT.2.2.2.2.2.mono hbs))
        clear hT
        go_wp2
        go_roundw
        case rel => exact ⟨k + 2, by omega, by omega, by go_num, HT.out⟩
        case measure => simp [intOf]; omega
    · have t1 : decide ((j : Int) < (n : Int)) = false := by simp; omega
      have t1' : decide (j < n) = false := by simp; omega
      clear hbel
      go_wp2
      go_end0
      exact ⟨rfl, HBel.out⟩

set_option maxRecDepth 100000 in
set_option maxHeartbeats 4000000 in
theorem stable_any (L : List AT) (hl : L.length < 20) (ho : inOrder L) (v : Value) (w : World) (h : IsA w.heap.size w L v) :
    Calls Tryz.prog 68 #[v, .int .i64 L.length, .func (.func 43) #[] #[]] w fun e w' => e = .returned (.tuple #[]) ∧ Below w.heap.size w w' := by
  have hi := insertion_any L hl ho v w h
  obtain ⟨sa, sn, sc, rfl⟩ := (show ∃ a k c, v = .slice a k c from by obtain ⟨a, c, hv, _⟩ := h; exact ⟨a, _, c, hv⟩)
  obtain ⟨n, hn⟩ : ∃ n, n = L.length := ⟨_, rfl⟩
  rw [← hn] at hi hl ⊢
  have HI := Lib.hid hi
  have t1 : decide ((20 : Int) ≤ (n : Int)) = false := by simp; omega
  have t1' : decide (20 ≤ n) = false := by simp; omega
  have t2 : decide ((20 : Int) < (n : Int)) = false := by simp; omega
  have t2' : decide (20 < n) = false := by simp; omega
  clear hi hn h ho
  go_enter Tryz.func68, Tryz.ntmps68
  go_wp2
  go_loopw [7, 8] (fun a b wr => a = .int .i64 0 ∧ b = .int .i64 20 ∧ Hid (wr = w)) (fun a b wr => 1)
  case atStart => exact ⟨rfl, rfl, Lib.hid rfl⟩
  case round =>
    obtain ⟨rfl, rfl, hwr⟩ := hrel
    have hwr := hwr.out
    subst hwr
    go_wp2_with (go_at_call 97; refine (HI.out).mono ?_; rintro e w2 ⟨rfl, hb2⟩; have HB2 := Lib.hid hb2; clear hb2)
    go_loopw [6] (fun a wx => a = .int .i64 20 ∧ Hid (wx = w2)) (fun a wx => 1)
    case atStart => exact ⟨rfl, Lib.hid rfl⟩
    case round =>
      obtain ⟨rfl, hwr2⟩ := hrel
      have hwr2 := hwr2.out
      subst hwr2
      go_wp2
      go_end0
      exact ⟨rfl, HB2.out⟩

set_option maxRecDepth 100000 in
set_option maxHeartbeats 1000000 in
theorem sorted_any (L : List AT) (hl : L.length < 20) (ho : inOrder L) (v : Value) (w : World) (h : IsA w.heap.size w L v) :
    Calls Tryz.prog 42 #[v, .func (.func 43) #[] #[]] w fun e w' => e = .returned (.tuple #[]) ∧ Below w.heap.size w w' := by
  have hi := stable_any L hl ho v w h
  obtain ⟨sa, sc, hv, _⟩ := h
  obtain ⟨n, hn⟩ : ∃ n, n = L.length := ⟨_, rfl⟩
  rw [← hn] at hi hv
  subst hv
  have HI := Lib.hid hi
  clear hi hn ho
  go_enter Tryz.func42, Tryz.ntmps42
  go_wp2_with (go_at_call 68; refine (HI.out).mono ?_; rintro e w2 ⟨rfl, hb2⟩; have HB2 := Lib.hid hb2; clear hb2)
  go_end0
  exact ⟨rfl, HB2.out⟩
end Go.Proofs.YtpnbcmblnplbgaaGreatDoor


namespace Go.Proofs.YtpnbcmblnplbgaaGreatDoor
open Go.RowKit
set_option linter.unusedVariables false

def setA (L : List AT) (t : List UInt8) (V : List (List UInt8)) : List AT := if V = [] then withoutA L t else insA (withoutA L t) (nameA t, V)
theorem ownA_lower {B B' : Nat} {w : World} {v : Value} {L : List AT} (h : OwnA B w v L) (hle : B' ≤ B) : OwnA B' w v L := by
  obtain ⟨P, hr, hs⟩ := h
  refine ⟨P, ⟨hr.1, hr.2.imp id fun ⟨g, cap, cur, e1, hb, rest⟩ => ⟨g, cap, cur, e1, Nat.le_trans hle hb, rest⟩⟩, hs.1, fun j h1 h2 => ⟨(hs.2 j h1 h2).1, (hs.2 j h1 h2).2.imp (fun b hb => ⟨Nat.le_trans hle hb.1, hb.2⟩) (fun _ _ _ => rfl)⟩⟩
theorem ownA_set {B : Nat} {w : World} {v : Value} {L : List AT} (h : OwnA B w v L) (a : Addr) (x : Value) (ha : a.block < B) : OwnA B (w.setCell a x) v L := by
  obtain ⟨P, hr, hs⟩ := h
  have hblk : ∀ k, k ≠ a.block → (w.setCell a x).heap[k]? = w.heap[k]? := fun k hk => by
    unfold World.setCell
    simp [Array.getElem?_modify, Ne.symm hk]
  refine ⟨P, ⟨hr.1, hr.2.imp id fun ⟨g, cap, cur, e1, hb, hg, rest⟩ => ⟨g, cap, cur, e1, hb, (hblk g (by omega)).trans hg, rest⟩⟩, hs.1, fun j h1 h2 => ⟨(hs.2 j h1 h2).1, (hs.2 j h1 h2).2.imp (fun b hb => ⟨hb.1, by simpa [World.setCell] using hb.2.1, hb.2.2⟩) (fun b o hb => by
    have := hblk b (by have := hb.1; omega)
    simp only [World.cell?, this])⟩⟩

theorem ownA_sl {B : Nat} {w : World} {v : Value} {L : List AT} (h : OwnA B w v L) : ∃ a n c, v = .slice a n c := by
  obtain ⟨a, c, h⟩ := ownA_slice h
  exact ⟨a, _, c, h⟩
def BoxE (b : Nat) (d : ByteArray) (w : World) : Prop := w.cell? ⟨b, 0, none⟩ = some (.string d) ∧ w.cell? ⟨b + 1, 0, none⟩ = some (.string ⟨#[]⟩) ∧ w.cell? ⟨b + 1, 1, none⟩ = some (.slice none 0 0) ∧ w.frozen? ⟨b + 1, 0, none⟩ = false ∧ w.frozen? ⟨b + 1, 1, none⟩ = false
theorem BoxE.go {b n : Nat} {d : ByteArray} {w w' : World} (h : BoxE b d w) (hb : Below n w w') (hn : b + 2 ≤ n) : BoxE b d w' :=
  ⟨(hb.cell (p := ⟨b, 0, none⟩) (show b < n by omega)).trans h.1, (hb.cell (p := ⟨b + 1, 0, none⟩) (show b + 1 < n by omega)).trans h.2.1, (hb.cell (p := ⟨b + 1, 1, none⟩) (show b + 1 < n by omega)).trans h.2.2.1,
   (hb.frozen (p := ⟨b + 1, 0, none⟩) (show b + 1 < n by omega)).trans h.2.2.2.1, (hb.frozen (p := ⟨b + 1, 1, none⟩) (show b + 1 < n by omega)).trans h.2.2.2.2⟩
theorem boxE_new (w : World) (d : ByteArray) (x : Value) : BoxE w.heap.size d ((w.alloc (.cells #[.string d, x] 27)).alloc (.cells #[.string ⟨#[]⟩, .slice none 0 0] 27)) := by
  refine ⟨by simp, by simp, by simp, by simp, by simp⟩

end Go.Proofs.YtpnbcmblnplbgaaGreatDoor


namespace Go.Proofs.YtpnbcmblnplbgaaGreatDoor
open Go.RowKit
set_option linter.unusedVariables false

def nameN (s : List UInt8) : List UInt8 := match parseD s with
  | some l => textD l
  | none => s
set_option maxRecDepth 100000 in
set_option maxHeartbeats 2000000 in
theorem nameText_any (s : ByteArray) (hs : s.size ≤ 140737488351232) (w : World) : Calls Tryz.prog 45 #[.string s] w fun e w' => e = .returned (strV (nameN s.data.toList)) ∧ Below w.heap.size w w' := by
  have hp := fun w => parse_any s hs w
  have hcl := fun w => clone_any s w (by omega)
  cases e : parseD s.data.toList with
  | none =>
    have hn : strV (nameN s.data.toList) = .string s := by unfold nameN; rw [e]; exact strV_whole s
    rw [hn]
    simp only [e] at hp
    have HP := Lib.hid hp
    have HCl := Lib.hid hcl
    clear hp hcl hn e
    go_enter Tryz.func45, Tryz.ntmps45
    go_wp2_with (first
      | (go_at_call 70; refine (HP.out _).mono ?_; rintro e w1 ⟨hb1, rfl⟩; have HB := Lib.hid hb1; clear hb1)
      | (go_at_call 63; refine (HCl.out _).mono ?_; rintro e w2 ⟨rfl, hb2⟩; have HB := Lib.hid (bthen HB.out hb2); clear hb2))
    go_ret
    exact ⟨rfl, HB.out⟩
  | some l =>
    have hsm := okL_small (parse_ok e)
    have hn : nameN s.data.toList = textD l := by unfold nameN; rw [e]
    rw [hn]
    obtain ⟨T, hT⟩ : ∃ T : ByteArray, strV (textD l) = .string T := ⟨_, rfl⟩
    have ht := fun v w h => text_any l hsm v w h
    simp only [hT] at ht
    rw [hT]
    simp only [e] at hp
    have HP := Lib.hid hp
    have HTx := Lib.hid ht
    have HSm := Lib.hid hsm
    clear hp hcl hn e ht hT hsm
    go_enter Tryz.func45, Tryz.ntmps45
    go_wp2_with (first
      | (go_at_call 70; refine (HP.out _).mono ?_; rintro e w1 ⟨hb1, hpp⟩; (obtain ⟨v1, rfl, hown1⟩ := hpp); have HIL := Lib.hid (ownR_isL hown1 (by have := HSm.out.1; unfold maxLen; omega)); (obtain ⟨sa, sc, hsv⟩ := ownR_slice hown1); (obtain ⟨sn, hsn⟩ : ∃ n, n = l.length := ⟨_, rfl⟩); rw [← hsn] at hsv; subst hsv; have HB := Lib.hid hb1; clear hb1 hown1 hsn)
      | (go_at_call 71; refine (HTx.out _ _ HIL.out).mono ?_; rintro e w2 ⟨rfl, hb2⟩; have HB := Lib.hid (bthen HB.out hb2); clear hb2))
    go_ret
    exact ⟨rfl, HB.out⟩

set_option maxRecDepth 100000 in
set_option maxHeartbeats 1000000 in
theorem more_any (mb : Nat) (sa : Option Addr) (n sc j : Nat) (w : World) (h0 : w.cell? ⟨mb, 0, none⟩ = some (.slice sa n sc)) (h1 : w.cell? ⟨mb, 1, none⟩ = some (.int .i64 j)) :
    Calls Tryz.prog 40 #[.pointer (some ⟨mb, 0, none⟩)] w fun e w' => e = .returned (.bool (decide ((j : Int) < (n : Int)))) ∧ ∃ m, w' = w.drewN m := by
  have hl := fun k => load_any mb 1 j (w.drewN k) h1
  have HL := Lib.hid hl
  obtain ⟨g, hg⟩ : ∃ g, g = decide ((j : Int) < (n : Int)) := ⟨_, rfl⟩
  have hg1 : decide ((j : Int) < (n : Int)) = g := hg.symm
  have hg2 : decide (j < n) = g := by rw [hg]; simp
  rw [← hg]
  clear hl hg
  go_enter Tryz.func40, Tryz.ntmps40
  go_wp2
  go_quiet ((go_at_call 64; refine Calls.quiet_of_same (HL.out _)))
  go_wp2
  go_ret
  exact ⟨rfl, _, rfl⟩
end Go.Proofs.YtpnbcmblnplbgaaGreatDoor


namespace Go.Proofs.YtpnbcmblnplbgaaGreatDoor
open Go.RowKit
set_option linter.unusedVariables false

theorem nextAt_of {W : World} {mb b p : Nat} {v : Value} {X : ByteArray} {x : Value} {j : Nat} (hb : b < mb) (c0 : W.cell? ⟨mb, 0, none⟩ = some v) (c1 : W.cell? ⟨mb, 1, none⟩ = some (.int .i64 j)) (cz : W.frozen? ⟨mb, 1, none⟩ = false)
    (e0 : W.cell? ⟨b, p, none⟩ = some (.string X)) (e1 : W.cell? ⟨b, p + 1, none⟩ = some x) :
    ∀ w5, w5 = W.drew.setCell ⟨mb, 1, none⟩ (.int .i64 ((j : Int) + 1)) → w5.cell? ⟨b, p, none⟩ = some (.string X) ∧ w5.cell? ⟨b, p + 1, none⟩ = some x ∧ w5.cell? ⟨mb, 0, none⟩ = some v ∧ w5.cell? ⟨mb, 1, none⟩ = some (.int .i64 ((j : Int) + 1)) ∧ w5.frozen? ⟨mb, 1, none⟩ = false := by
  intro w5 hw5
  subst hw5
  refine ⟨?_, ?_, ?_, ?_, ?_⟩
  · rw [World.cell?_setCell_other _ _ _ _ (fun e => by have := congrArg Addr.block e; simp at this; omega)]; exact e0
  · rw [World.cell?_setCell_other _ _ _ _ (fun e => by have := congrArg Addr.block e; simp at this; omega)]; exact e1
  · rw [World.cell?_setCell_other _ _ _ _ (fun e => by have := congrArg Addr.off e; simp at this)]; exact c0
  · exact World.cell?_setCell_same _ _ _ c1
  · exact (World.frozen?_setCell ..).trans cz
theorem behind_of {w5 : World} {b p : Nat} {X : ByteArray} {x : Value} (hb : b < w5.heap.size) (e0 : w5.cell? ⟨b, p, none⟩ = some (.string X)) (e1 : w5.cell? ⟨b, p + 1, none⟩ = some x) (o : Obj) :
    (w5.alloc o).cell? ⟨b, p, none⟩ = some (.string X) ∧ (w5.alloc o).cell? ⟨b, p + 1, none⟩ = some x :=
  ⟨(World.cell?_alloc_lt _ _ _ hb).trans e0, (World.cell?_alloc_lt _ _ _ hb).trans e1⟩
theorem ahead_of {W : World} {mb : Nat} (hm : mb < W.heap.size) (y : Value) (w5 : World) (hw5 : w5 = (W.alloc (.cells #[.string ⟨#[]⟩, .slice none 0 0] 56)).drew.setCell ⟨mb, 1, none⟩ y) :
    w5.cell? ⟨W.heap.size, 0, none⟩ = some (.string ⟨#[]⟩) ∧ w5.cell? ⟨W.heap.size, 1, none⟩ = some (.slice none 0 0) ∧ w5.frozen? ⟨W.heap.size, 0, none⟩ = false ∧ w5.frozen? ⟨W.heap.size, 1, none⟩ = false := by
  subst hw5
  have h : (W.alloc (.cells #[.string ⟨#[]⟩, .slice none 0 0] 56)).drew.heap[W.heap.size]? = some (.cells #[.string ⟨#[]⟩, .slice none 0 0] 56 (0, 0)) := heap_alloc_new W _
  refine ⟨?_, ?_, ?_, ?_⟩
  · rw [World.cell?_setCell_other _ _ _ _ (fun e => by have := congrArg Addr.block e; simp at this; omega)]; simp only [World.cell?, h]; rfl
  · rw [World.cell?_setCell_other _ _ _ _ (fun e => by have := congrArg Addr.block e; simp at this; omega)]; simp only [World.cell?, h]; rfl
  · rw [World.frozen?_setCell]; simp only [World.frozen?, h]; rfl
  · rw [World.frozen?_setCell]; simp only [World.frozen?, h]; rfl
theorem size_of {W w5 : World} {a : Addr} {y : Value} (h : w5 = W.setCell a y) : w5.heap.size = W.heap.size := by subst h; simp [World.setCell]
def Tail (w w6 : World) (mb T : Nat) (v : Value) (j : Nat) (X : ByteArray) (x : Value) : Prop :=
  w.grownBy w6 (some mb) ∧ w6.cell? ⟨T, 0, none⟩ = some (.string X) ∧ w6.cell? ⟨T, 1, none⟩ = some x ∧ w6.cell? ⟨w.heap.size, 0, none⟩ = some (.string ⟨#[]⟩) ∧ w6.cell? ⟨w.heap.size, 1, none⟩ = some (.slice none 0 0) ∧ w6.frozen? ⟨w.heap.size, 0, none⟩ = false ∧ w6.frozen? ⟨w.heap.size, 1, none⟩ = false ∧
  w6.cell? ⟨mb, 0, none⟩ = some v ∧ w6.cell? ⟨mb, 1, none⟩ = some (.int .i64 ((j : Int) + 1)) ∧ w6.frozen? ⟨mb, 1, none⟩ = false ∧ T < w6.heap.size ∧ w.heap.size < w6.heap.size ∧ T ≠ w.heap.size ∧ T ≠ mb
theorem heap_set_other (w : World) (a : Addr) (x : Value) (k : Nat) (h : k ≠ a.block) : (w.setCell a x).heap[k]? = w.heap[k]? := by
  unfold World.setCell; simp [Array.getElem?_modify, Ne.symm h]
theorem Tail.go {w w6 w7 : World} {mb T : Nat} {v : Value} {j : Nat} {X : ByteArray} {x : Value} (hm : mb < w.heap.size) (h : Tail w w6 mb T v j X x) (hb : Below w6.heap.size w6 w7) : Tail w w7 mb T v j X x := by
  obtain ⟨h1, h2, h3, h4, h5, h6, h7, h8, h9, h10, h11, h12, h13, h14⟩ := h
  have hm6 : mb < w6.heap.size := Nat.lt_trans hm h12
  exact ⟨⟨hb.os.trans h1.os, hb.tape.trans h1.tape, hb.output.trans h1.output, Nat.le_trans h1.size hb.size, fun k hk hne => (hb.block k (Nat.lt_of_lt_of_le hk h1.size)).trans (h1.block k hk hne)⟩,
    (hb.cell (p := ⟨T, 0, none⟩) h11).trans h2, (hb.cell (p := ⟨T, 1, none⟩) h11).trans h3, (hb.cell (p := ⟨w.heap.size, 0, none⟩) h12).trans h4, (hb.cell (p := ⟨w.heap.size, 1, none⟩) h12).trans h5,
    (hb.frozen (p := ⟨w.heap.size, 0, none⟩) h12).trans h6, (hb.frozen (p := ⟨w.heap.size, 1, none⟩) h12).trans h7, (hb.cell (p := ⟨mb, 0, none⟩) hm6).trans h8, (hb.cell (p := ⟨mb, 1, none⟩) hm6).trans h9, (hb.frozen (p := ⟨mb, 1, none⟩) hm6).trans h10,
    Nat.lt_of_lt_of_le h11 hb.size, Nat.lt_of_lt_of_le h12 hb.size, h13, h14⟩
theorem Tail.grown {w w6 : World} {mb T : Nat} {v : Value} {j : Nat} {X : ByteArray} {x : Value} (h : Tail w w6 mb T v j X x) : w.grownBy w6 (some mb) := h.1
theorem Tail.rsz {w w6 : World} {mb T : Nat} {v : Value} {j : Nat} {X : ByteArray} {x : Value} (h : Tail w w6 mb T v j X x) : w.heap.size < w6.heap.size := by
  obtain ⟨h1, h2, h3, h4, h5, h6, h7, h8, h9, h10, h11, h12, h13, h14⟩ := h; exact h12
theorem isT_grown {mb : Nat} {w w7 : World} {A : List (List UInt8)} {x : Value} (h : IsT mb w A x) (hm : mb < w.heap.size) (hg : w.grownBy w7 (some mb)) : IsT w7.heap.size w7 A x := by
  obtain ⟨a, c, hv, hml, hc⟩ := h
  refine ⟨a, c, hv, hml, fun j hj => ?_⟩
  obtain ⟨b, off, ha, hb, h0⟩ := hc j hj
  have := hg.block b (by omega) (by intro e; have := Option.some.inj e; omega)
  exact ⟨b, off, ha, by have := hg.size; omega, by simp only [World.cell?, this]; exact h0⟩
theorem Tail.fin {w w8 : World} {mb T : Nat} {v : Value} {j : Nat} {X : ByteArray} {x : Value} (hm : mb < w.heap.size) (h : Tail w w8 mb T v j X x) (N : ByteArray) (u : Value) :
    w.grownBy ((w8.setCell ⟨w.heap.size, 0, none⟩ (.string N)).setCell ⟨w.heap.size, 1, none⟩ u) (some mb) ∧ ((w8.setCell ⟨w.heap.size, 0, none⟩ (.string N)).setCell ⟨w.heap.size, 1, none⟩ u).cell? ⟨mb, 0, none⟩ = some v ∧ ((w8.setCell ⟨w.heap.size, 0, none⟩ (.string N)).setCell ⟨w.heap.size, 1, none⟩ u).cell? ⟨mb, 1, none⟩ = some (.int .i64 (j + 1 : Nat)) ∧ ((w8.setCell ⟨w.heap.size, 0, none⟩ (.string N)).setCell ⟨w.heap.size, 1, none⟩ u).frozen? ⟨mb, 1, none⟩ = false ∧
    (∀ b o, b ≠ w.heap.size → ((w8.setCell ⟨w.heap.size, 0, none⟩ (.string N)).setCell ⟨w.heap.size, 1, none⟩ u).cell? ⟨b, o, none⟩ = w8.cell? ⟨b, o, none⟩) := by
  obtain ⟨h1, h2, h3, h4, h5, h6, h7, h8, h9, h10, h11, h12, h13, h14⟩ := h
  have oth : ∀ b o, b ≠ w.heap.size → ((w8.setCell ⟨w.heap.size, 0, none⟩ (.string N)).setCell ⟨w.heap.size, 1, none⟩ u).cell? ⟨b, o, none⟩ = w8.cell? ⟨b, o, none⟩ := fun b o hb => by
    rw [World.cell?_setCell_other _ _ _ _ (fun e => by have := congrArg Addr.block e; simp at this; omega), World.cell?_setCell_other _ _ _ _ (fun e => by have := congrArg Addr.block e; simp at this; omega)]
  refine ⟨⟨h1.os, h1.tape, h1.output, by simp [World.setCell]; exact h1.size, fun k hk hne => ?_⟩, (oth _ _ (by omega)).trans h8, (oth _ _ (by omega)).trans h9, by rw [World.frozen?_setCell, World.frozen?_setCell]; exact h10, oth⟩
  rw [heap_set_other _ _ _ k (show k ≠ w.heap.size by omega), heap_set_other _ _ _ k (show k ≠ w.heap.size by omega)]; exact h1.block k hk hne
theorem tail5 {w W1 W w5 : World} {mb : Nat} {v : Value} {j : Nat} (hm : mb < w.heap.size) (hW1 : W1 = w.alloc (.cells #[.string ⟨#[]⟩, .slice none 0 0] 56)) (hW : Below W1.heap.size W1 W) (hw5 : w5 = W.drew.setCell ⟨mb, 1, none⟩ (.int .i64 ((j : Int) + 1)))
    (f2 : w5.cell? ⟨mb, 0, none⟩ = some v) (f3 : w5.cell? ⟨mb, 1, none⟩ = some (.int .i64 ((j : Int) + 1))) (f4 : w5.frozen? ⟨mb, 1, none⟩ = false) :
    w.grownBy w5 (some mb) ∧ w5.cell? ⟨w.heap.size, 0, none⟩ = some (.string ⟨#[]⟩) ∧ w5.cell? ⟨w.heap.size, 1, none⟩ = some (.slice none 0 0) ∧ w5.frozen? ⟨w.heap.size, 0, none⟩ = false ∧ w5.frozen? ⟨w.heap.size, 1, none⟩ = false ∧ w.heap.size < w5.heap.size := by
  have s1 : W1.heap.size = w.heap.size + 1 := by rw [hW1]; simp
  have s5 : w5.heap.size = W.heap.size := size_of (W := W.drew) hw5
  have hz := hW.size
  have h0 : W1.heap[w.heap.size]? = some (.cells #[.string ⟨#[]⟩, .slice none 0 0] 56 (0, 0)) := by rw [hW1]; exact heap_alloc_new w _
  have hblk : ∀ k, k ≠ mb → w5.heap[k]? = W.heap[k]? := fun k hk => by rw [hw5]; exact heap_set_other _ _ _ k hk
  have h5 : w5.heap[w.heap.size]? = some (.cells #[.string ⟨#[]⟩, .slice none 0 0] 56 (0, 0)) := by rw [hblk _ (by omega), hW.block _ (by omega), h0]
  refine ⟨⟨?_, ?_, ?_, by omega, fun k hk hne => ?_⟩, by simp only [World.cell?, h5]; rfl, by simp only [World.cell?, h5]; rfl, by simp only [World.frozen?, h5]; rfl, by simp only [World.frozen?, h5]; rfl, by omega⟩
  · have h := hW.os; rw [hW1] at h; rw [hw5]; exact h
  · have h := hW.tape; rw [hW1] at h; rw [hw5]; exact h
  · have h := hW.output; rw [hW1] at h; rw [hw5]; exact h
  · have hkm : k ≠ mb := fun e => hne (by rw [e])
    rw [hblk k hkm, hW.block _ (by omega), hW1, heap_alloc_old _ _ hk]
theorem tailA {w W1 w5 : World} {mb : Nat} {v : Value} {j : Nat} (hm : mb < w.heap.size) (hW1 : W1 = w.alloc (.cells #[.string ⟨#[]⟩, .slice none 0 0] 56)) (hw5 : w5 = W1.drew.setCell ⟨mb, 1, none⟩ (.int .i64 ((j : Int) + 1)))
    (f2 : w5.cell? ⟨mb, 0, none⟩ = some v) (f3 : w5.cell? ⟨mb, 1, none⟩ = some (.int .i64 ((j : Int) + 1))) (f4 : w5.frozen? ⟨mb, 1, none⟩ = false) (X : ByteArray) (x : Value) : Tail w (w5.alloc (.cells #[.string X, x] 56)) mb w5.heap.size v j X x := by
  obtain ⟨h1, h2, h3, h4, h5, h6⟩ := tail5 hm hW1 (Below.refl _ _) hw5 f2 f3 f4
  have hb : Below w5.heap.size w5 (w5.alloc (.cells #[.string X, x] 56)) := (Below.refl _ _).alloc (Nat.le_refl _) _
  have hm5 : mb < w5.heap.size := by omega
  exact ⟨⟨hb.os.trans h1.os, hb.tape.trans h1.tape, hb.output.trans h1.output, Nat.le_trans h1.size hb.size, fun k hk hne => (hb.block k (Nat.lt_of_lt_of_le hk h1.size)).trans (h1.block k hk hne)⟩, by simp, by simp, (hb.cell (p := ⟨w.heap.size, 0, none⟩) h6).trans h2, (hb.cell (p := ⟨w.heap.size, 1, none⟩) h6).trans h3, (hb.frozen (p := ⟨w.heap.size, 0, none⟩) h6).trans h4, (hb.frozen (p := ⟨w.heap.size, 1, none⟩) h6).trans h5,
    (hb.cell (p := ⟨mb, 0, none⟩) hm5).trans f2, (hb.cell (p := ⟨mb, 1, none⟩) hm5).trans f3, (hb.frozen (p := ⟨mb, 1, none⟩) hm5).trans f4, by simp, by simp; omega, by omega, by omega⟩
theorem tailB {w W1 w5 : World} {mb : Nat} {v : Value} {j : Nat} (hm : mb < w.heap.size) (hW1 : W1 = w.alloc (.cells #[.string ⟨#[]⟩, .slice none 0 0] 56)) (hw5 : w5 = (W1.alloc (.cells #[.string ⟨#[]⟩, .slice none 0 0] 56)).drew.setCell ⟨mb, 1, none⟩ (.int .i64 ((j : Int) + 1)))
    (f2 : w5.cell? ⟨mb, 0, none⟩ = some v) (f3 : w5.cell? ⟨mb, 1, none⟩ = some (.int .i64 ((j : Int) + 1))) (f4 : w5.frozen? ⟨mb, 1, none⟩ = false) (p0 : w5.cell? ⟨W1.heap.size, 0, none⟩ = some (.string ⟨#[]⟩)) (p1 : w5.cell? ⟨W1.heap.size, 1, none⟩ = some (.slice none 0 0)) (X : ByteArray) (x : Value) :
    Tail w ((w5.setCell ⟨W1.heap.size, 0, none⟩ (.string X)).setCell ⟨W1.heap.size, 1, none⟩ x) mb W1.heap.size v j X x := by
  obtain ⟨h1, h2, h3, h4, h5, h6⟩ := tail5 hm hW1 ((Below.refl _ _).alloc (Nat.le_refl _) _) hw5 f2 f3 f4
  have s1 : W1.heap.size = w.heap.size + 1 := by rw [hW1]; simp
  have s5 : w5.heap.size = W1.heap.size + 1 := by rw [size_of hw5]; simp
  obtain ⟨T, hT⟩ : ∃ T, T = W1.heap.size := ⟨_, rfl⟩
  rw [← hT] at s1 s5 p0 p1 ⊢
  have oth : ∀ b o, b ≠ T → ((w5.setCell ⟨T, 0, none⟩ (.string X)).setCell ⟨T, 1, none⟩ x).cell? ⟨b, o, none⟩ = w5.cell? ⟨b, o, none⟩ := fun b o hb => by
    rw [World.cell?_setCell_other _ _ _ _ (fun e => by have := congrArg Addr.block e; simp at this; omega), World.cell?_setCell_other _ _ _ _ (fun e => by have := congrArg Addr.block e; simp at this; omega)]
  refine ⟨⟨h1.os, h1.tape, h1.output, by simp [World.setCell]; exact h1.size, fun k hk hne => ?_⟩, ?_, ?_, (oth _ _ (by omega)).trans h2, (oth _ _ (by omega)).trans h3, by rw [World.frozen?_setCell, World.frozen?_setCell]; exact h4, by rw [World.frozen?_setCell, World.frozen?_setCell]; exact h5, (oth _ _ (by omega)).trans f2, (oth _ _ (by omega)).trans f3, by rw [World.frozen?_setCell, World.frozen?_setCell]; exact f4, by simp [World.setCell]; omega, by simp [World.setCell]; omega, by omega, by omega⟩
  · rw [heap_set_other _ _ _ k (show k ≠ T by omega), heap_set_other _ _ _ k (show k ≠ T by omega)]; exact h1.block k hk hne
  · rw [World.cell?_setCell_other _ _ _ _ (fun e => by have := congrArg Addr.off e; simp at this)]; exact World.cell?_setCell_same _ _ _ p0
  · exact World.cell?_setCell_same _ _ _ ((World.cell?_setCell_other _ _ _ _ (fun e => by have := congrArg Addr.off e; simp at this)).trans p1)
set_option maxRecDepth 100000 in
set_option maxHeartbeats 4000000 in
theorem next_any (L : List AT) (hs : smallA L) (mb j : Nat) (v : Value) (w : World) (hm : mb < w.heap.size) (hL : IsA mb w L v) (hj : j < L.length) (h0 : w.cell? ⟨mb, 0, none⟩ = some v) (h1 : w.cell? ⟨mb, 1, none⟩ = some (.int .i64 j)) (hz : w.frozen? ⟨mb, 1, none⟩ = false) :
    Calls Tryz.prog 41 #[.pointer (some ⟨mb, 0, none⟩)] w fun e w' => ∃ u, e = .returned (.agg #[.string (ofL (nameA L[j].1)), u]) ∧ IsTo (fun b => w.heap.size ≤ b ∧ b < w'.heap.size) w' L[j].2 u ∧ w.grownBy w' (some mb) ∧ w'.cell? ⟨mb, 0, none⟩ = some v ∧ w'.cell? ⟨mb, 1, none⟩ = some (.int .i64 (j + 1 : Nat)) ∧ w'.frozen? ⟨mb, 1, none⟩ = false := by
  obtain ⟨sa, sc, rfl, hml, hcell⟩ := hL
  obtain ⟨b, off, x, rfl, hb0, x0, x1, hx⟩ := hcell j hj
  obtain ⟨xa, xn, xc, rfl⟩ := (show ∃ a k c, x = .slice a k c from by obtain ⟨a, c, hv, _⟩ := hx; exact ⟨a, _, c, hv⟩)
  unfold maxLen at hml
  obtain ⟨X, hX⟩ : ∃ X : ByteArray, ofL L[j].1 = X := ⟨_, rfl⟩
  have gX : X.data.toList = L[j].1 := by rw [← hX, ofL_list]
  have d0 : w.cell? ⟨b, off + j * 2, none⟩ = some (.string X) := by rw [x0, ← hX]; rfl
  have hXs : X.size ≤ 281474976710656 := by
    have := (hs.2 L[j] (List.getElem_mem _)).1
    rw [← bytes_len, gX]; omega
  obtain ⟨n, hn⟩ : ∃ n, n = L.length := ⟨_, rfl⟩
  rw [← hn] at h0 hml
  have HX := Lib.hid hx
  have hsT := (hs.2 L[j] (List.getElem_mem _)).2
  have hl5 : n ≤ 1000 := by rw [hn]; exact hs.1
  have hjn : j < n := by omega
  have HT := Lib.hid (fun w => typeName_any X hXs w)
  have HGX := Lib.hid gX
  have HST := Lib.hid hsT
  have HN := Lib.hid hn
  have q1 : (j : Int) < (n : Int) := by omega
  have q2 : (0 : Int) ≤ (j : Int) := by omega
  have q3 : IntKind.i64.wrap ((j : Int) + 1 - 1) = (j : Int) := by rw [IntKind.wrap_i64]; omega
  have q4 : (j : Int) + 1 - 1 = (j : Int) := by omega
  have q5 : IntKind.i64.wrap (j : Int) = (j : Int) := by rw [IntKind.wrap_i64]; omega
  have HAdd := Lib.hid (fun w h hz => add_any mb 1 (j : Int) (by omega) (by omega) w h hz)
  clear hcell hs hX gX x0 hx hsT hn hXs
  go_enter Tryz.func41, Tryz.ntmps41
  go_wp2
  obtain ⟨W1, hW1⟩ : ∃ W1, W1 = w.alloc (.cells #[.string ⟨#[]⟩, .slice none 0 0] 56) := ⟨_, rfl⟩
  have hW1b : Below w.heap.size w W1 := by rw [hW1]; exact (Below.refl _ _).alloc (Nat.le_refl _) _
  have c0 := (hW1b.cell (p := ⟨mb, 0, none⟩) hm).trans h0
  have c1 := (hW1b.cell (p := ⟨mb, 1, none⟩) hm).trans h1
  have cz := (hW1b.frozen (p := ⟨mb, 1, none⟩) hm).trans hz
  have hbw : b < w.heap.size := Nat.lt_trans hb0 hm
  have e0 := (hW1b.cell (p := ⟨b, off + j * 2, none⟩) hbw).trans d0
  have e1 := (hW1b.cell (p := ⟨b, off + j * 2 + 1, none⟩) hbw).trans x1
  rw [← hW1]
  have HW1 := Lib.hid hW1
  have HW1b := Lib.hid hW1b
  clear hW1 hW1b h0 h1 hz d0 x1
  obtain ⟨W2, hW2⟩ : ∃ W2, W2 = W1.alloc (.cells #[.string ⟨#[]⟩, .slice none 0 0] 56) := ⟨_, rfl⟩
  have hm1 : mb < W1.heap.size := Nat.lt_of_lt_of_le hm HW1b.out.size
  have hb1 : b < W1.heap.size := Nat.lt_of_lt_of_le hbw HW1b.out.size
  have hW2b : Below W1.heap.size W1 W2 := by rw [hW2]; exact (Below.refl _ _).alloc (Nat.le_refl _) _
  have HD := Lib.hid (nextAt_of (W := W1) (mb := mb) (b := b) (p := off + j * 2) hb0 c0 c1 cz e0 e1)
  have HE := Lib.hid (nextAt_of (W := W2) (mb := mb) (b := b) (p := off + j * 2) hb0 ((hW2b.cell (p := ⟨mb, 0, none⟩) hm1).trans c0) ((hW2b.cell (p := ⟨mb, 1, none⟩) hm1).trans c1) ((hW2b.frozen (p := ⟨mb, 1, none⟩) hm1).trans cz) ((hW2b.cell (p := ⟨b, off + j * 2, none⟩) hb1).trans e0) ((hW2b.cell (p := ⟨b, off + j * 2 + 1, none⟩) hb1).trans e1))
  have C1 : Hid (W1.drew.cell? ⟨mb, 1, none⟩ = some (.int .i64 (j : Int)) ∧ W1.drew.frozen? ⟨mb, 1, none⟩ = false) := Lib.hid ⟨c1, cz⟩
  have C2 : Hid ((W1.alloc (.cells #[.string ⟨#[]⟩, .slice none 0 0] 56)).drew.cell? ⟨mb, 1, none⟩ = some (.int .i64 (j : Int)) ∧ (W1.alloc (.cells #[.string ⟨#[]⟩, .slice none 0 0] 56)).drew.frozen? ⟨mb, 1, none⟩ = false) := Lib.hid (by rw [← hW2]; exact ⟨(hW2b.cell (p := ⟨mb, 1, none⟩) hm1).trans c1, (hW2b.frozen (p := ⟨mb, 1, none⟩) hm1).trans cz⟩)
  have c0a : (W1.alloc (.cells #[.string ⟨#[]⟩, .slice none 0 0] 56)).cell? ⟨mb, 0, none⟩ = some (.slice (some ⟨b, off, none⟩) n sc) := by rw [← hW2]; exact (hW2b.cell (p := ⟨mb, 0, none⟩) hm1).trans c0
  have HW2 := Lib.hid hW2
  clear hW2 hW2b
  go_region_law (go_simp; go_at_call 65; first
    | ((with_reducible refine (HAdd.out W1.drew C1.out.1 C1.out.2).mono ?_); rintro e w5 ⟨rfl, hw5⟩; (obtain ⟨f0, f1, f2, f3, f4⟩ := HD.out w5 hw5); (obtain ⟨g0, g1⟩ := behind_of (by rw [size_of hw5]; exact hb1) f0 f1 (.cells #[.string ⟨#[]⟩, .slice none 0 0] 56)); have g2 := (World.cell?_alloc_lt w5 (.cells #[.string ⟨#[]⟩, .slice none 0 0] 56) ⟨mb, 0, none⟩ (show mb < w5.heap.size by rw [size_of hw5]; exact hm1)).trans f2; have HW5 := Lib.hid hw5; clear hw5)
    | (((with_reducible refine (HAdd.out ((W1.alloc (.cells #[.string ⟨#[]⟩, .slice none 0 0] 56)).drew) C2.out.1 C2.out.2).mono ?_)); rintro e w5 ⟨rfl, hw5⟩; (obtain ⟨f0, f1, f2, f3, f4⟩ := HE.out w5 (by rw [HW2.out]; exact hw5)); (obtain ⟨p0, p1, p2, p3⟩ := ahead_of hm1 _ w5 hw5); have HW5 := Lib.hid hw5; clear hw5))
  all_goals
    first
      | (have htl := tailA hm HW1.out HW5.out f2 f3 f4 X (.slice xa xn xc)
         obtain ⟨w6, hw6⟩ : ∃ w6, w6 = w5.alloc (.cells #[.string X, .slice xa xn xc] 56) := ⟨_, rfl⟩
         rw [← hw6] at htl ⊢
         generalize w5.heap.size = T at htl ⊢
         clear hw6)
      | (have htl := tailB hm HW1.out HW5.out f2 f3 f4 p0 p1 X (.slice xa xn xc)
         obtain ⟨w6, hw6⟩ : ∃ w6, w6 = (w5.setCell ⟨W1.heap.size, 0, none⟩ (.string X)).setCell ⟨W1.heap.size, 1, none⟩ (.slice xa xn xc) := ⟨_, rfl⟩
         rw [← hw6] at htl ⊢
         generalize W1.heap.size = T at htl ⊢
         clear hw6)
    have HTl := Lib.hid htl
    obtain ⟨_, k0, k1, _⟩ := htl
    clear f0 f1 f2 f3 f4 c0 c1 cz e0 e1 c0a
    have hdr : Below w6.heap.size w6 w6.drew := ⟨rfl, rfl, rfl, Nat.le_refl _, fun _ _ => rfl⟩
    have HTd := Lib.hid (HTl.out.go hm hdr)
    clear hdr
    go_simp
    go_wp2
    go_region_law (first
      | (go_simp; go_at_call 66; ((with_reducible refine (HT.out _).mono ?_); rintro e w7 ⟨rfl, hb7⟩; have HT7 := Lib.hid (HTd.out.go hm hb7); (obtain ⟨_, _, m1, _⟩ := HT7.out); clear hb7))
      | (go_simp; go_at_call 67; ((with_reducible refine (copyVals_any _ HST.out _ _ (isT_grown HX.out hm HT7.out.grown)).mono ?_); rintro e w8 ⟨u8, rfl, hu8, hb8⟩; have HU8 := Lib.hid (ownS_isTo hu8 (by have := HST.out.1; unfold maxLen; omega)); have HT8 := Lib.hid (HT7.out.go hm hb8); (obtain ⟨_, _, _, r0, r1, r2, r3, _⟩ := HT8.out); have hz7 : w.heap.size < w7.heap.size := HT7.out.rsz; (obtain ⟨ya, yc, rfl⟩ := ownS_slice hu8); clear hu8 hb8)))
    all_goals
      go_simp
      go_wp2
      obtain ⟨hg, hc0, hc1, hcz, hoth⟩ := HT8.out.fin hm (ofL (nameA X.data.toList)) (.slice ya L[j].2.length yc)
      refine bodyPost_ret (v := .agg #[.string (ofL (nameA X.data.toList)), .slice ya L[j].2.length yc]) (by simp [results, Tryz.results41, go_sem, r0, r1]) rfl ⟨_, by rw [HGX.out], HU8.out.imp (fun b hb => ⟨by have := hb.1; omega, by simp [World.setCell]; exact hb.2⟩) (fun b o hb => hoth b o (by have := hb.1; omega)), hg, by rw [← HN.out]; exact hc0, hc1, hcz⟩
end Go.Proofs.YtpnbcmblnplbgaaGreatDoor

