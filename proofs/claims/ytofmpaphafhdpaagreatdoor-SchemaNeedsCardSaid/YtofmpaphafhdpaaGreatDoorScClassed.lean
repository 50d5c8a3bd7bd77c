/- schema.isClassed: the walk. -/
import Derived.Test.YtofmpaphafhdpaaGreatDoorScCls
import Derived.Test.YtofmpaphafhdpaaGreatDoorScCat
import Derived.Test.YtofmpaphafhdpaaGreatDoorScIdx
import Derived.Test.YtofmpaphafhdpaaGreatDoorScSound
namespace Go.Proofs.YtofmpaphafhdpaaGreatDoor
open Go.RowKit
set_option linter.unusedVariables false

theorem class_words : ∀ c ∈ classL, (c.mustL ++ c.mayL).length ≤ 8 := by
  intro c hc
  simp only [classL, List.mem_cons, List.not_mem_nil, or_false] at hc
  rcases hc with rfl | rfl | rfl | rfl | rfl | rfl | rfl <;> decide
theorem chain_mem : ∀ (k : Nat) (n : List UInt8), ∀ c ∈ chainC k n, c ∈ classL
  | 0, n, c, h => by simp [chainC] at h
  | k + 1, n, c, h => by
    simp only [chainC] at h
    cases e : findC n with
    | none => rw [e] at h; simp at h
    | some d =>
      rw [e] at h
      rcases List.mem_cons.1 h with rfl | h
      · exact (findC_mem e).1
      · exact chain_mem k d.sup c h
theorem allC_mem : ∀ {V : List (List UInt8)} {A : List CT} {s : Bool}, allC V = some (A, s) → (∀ c ∈ A, c ∈ classL) ∧ A.length ≤ 3 * V.length
  | [], A, s, h => by simp only [allC, Option.some.injEq, Prod.mk.injEq] at h; rw [← h.1]; simp
  | v :: l, A, s, h => by
    simp only [allC] at h
    cases e : findC (fold v) with
    | none => rw [e] at h; cases h
    | some c =>
      rw [e] at h
      cases e2 : allC l with
      | none => rw [e2] at h; cases h
      | some p =>
        obtain ⟨A2, s2⟩ := p
        rw [e2] at h
        simp only [Option.map_some, Option.some.injEq, Prod.mk.injEq] at h
        obtain ⟨h1, h2⟩ := allC_mem e2
        rw [← h.1]
        have := chain_len (fold v) 3
        exact ⟨fun c hc => (List.mem_append.1 hc).elim (chain_mem 3 _ c) (h1 c), by simp; omega⟩
theorem mayC_len {A : List CT} (h : ∀ c ∈ A, c ∈ classL) : (mayC A).length ≤ 8 * A.length := by
  induction A with
  | nil => simp [mayC]
  | cons c A ih =>
    have h1 := class_words c (h c (by simp))
    have h2 := ih (fun d hd => h d (by simp [hd]))
    simp only [mayC, List.flatMap_cons, List.length_append] at *
    simp only [List.length_cons]
    omega
theorem mayC_take (A : List CT) (j : Nat) (h : j < A.length) : mayC (A.take (j + 1)) = mayC (A.take j) ++ (A[j].mustL ++ A[j].mayL) := by
  unfold mayC
  rw [List.take_succ_eq_append_getElem h, List.flatMap_append]
  simp
theorem classed_none {L : List AT} (h : allC (valsS L objB) = none) : classedD L = false := by unfold classedD; rw [h]
theorem classed_not {L : List AT} {A : List CT} (h : allC (valsS L objB) = some (A, false)) : classedD L = false := by unfold classedD; rw [h]; rfl
theorem classed_must {L : List AT} {A : List CT} {s : Bool} (h : allC (valsS L objB) = some (A, s)) {c : CT} (hc : c ∈ A) {t : List UInt8} (ht : t ∈ c.mustL) (hn : hasS L t = false) : classedD L = false := by
  unfold classedD
  rw [h]
  have : A.all (fun c => c.mustL.all (hasS L)) = false := List.all_eq_false.2 ⟨c, hc, by
    simp only [Bool.not_eq_true]
    exact List.all_eq_false.2 ⟨t, ht, by rw [hn]; simp⟩⟩
  simp [this]
theorem classed_may {L : List AT} {A : List CT} {s : Bool} (h : allC (valsS L objB) = some (A, s)) {a : AT} (ha : a ∈ L) (hn : (mayC A).contains a.1 = false) : classedD L = false := by
  unfold classedD
  rw [h]
  have : L.all (fun a => (mayC A).contains a.1) = false := List.all_eq_false.2 ⟨a, ha, by rw [hn]; simp⟩
  simp only [this]
  simp
theorem classed_is {L : List AT} {A : List CT} (h : allC (valsS L objB) = some (A, true)) (h1 : ∀ c ∈ A, ∀ t ∈ c.mustL, hasS L t = true) (h2 : ∀ a ∈ L, (mayC A).contains a.1 = true) : classedD L = true := by
  unfold classedD
  rw [h]
  have e1 : A.all (fun c => c.mustL.all (hasS L)) = true := List.all_eq_true.2 (fun c hc => List.all_eq_true.2 (h1 c hc))
  have e2 : L.all (fun a => (mayC A).contains a.1) = true := List.all_eq_true.2 h2
  simp only [e1, e2]
  rfl

/-- Three lists of texts side by side. -/
theorem isTT_three {n0 : Nat} {w : World} {A1 A2 A3 : List (List UInt8)} {u1 u2 u3 : Value} (h1 : IsT w.heap.size w A1 u1) (h2 : IsT w.heap.size w A2 u2) (h3 : IsT w.heap.size w A3 u3) (e : TypeId) :
    IsTT (w.alloc (.cells #[u1, u2, u3] e)).heap.size (w.alloc (.cells #[u1, u2, u3] e)) [A1, A2, A3] (.slice (some ⟨w.heap.size, 0, none⟩) 3 3) := by
  have ha : Below w.heap.size w (w.alloc (.cells #[u1, u2, u3] e)) := (Below.refl _ _).alloc (Nat.le_refl _) _
  have hh : (w.alloc (.cells #[u1, u2, u3] e)).heap[w.heap.size]? = some (.cells #[u1, u2, u3] e (0, 0)) := heap_alloc_new w _
  refine ⟨_, _, rfl, fun j hj => ?_⟩
  match j, hj with
  | 0, _ => exact ⟨w.heap.size, 0, u1, rfl, by simp, by simp only [World.cell?, hh]; rfl, h1.below ha ha.size⟩
  | 1, _ => exact ⟨w.heap.size, 0, u2, rfl, by simp, by simp only [World.cell?, hh]; rfl, h2.below ha ha.size⟩
  | 2, _ => exact ⟨w.heap.size, 0, u3, rfl, by simp, by simp only [World.cell?, hh]; rfl, h3.below ha ha.size⟩

set_option maxRecDepth 100000 in
set_option maxHeartbeats 8000000 in
theorem isClassed_any (L : List AT) (hs : L.length ≤ 900) (hsm : smallT (valsS L objB)) (v : Value) (w : World) (hl : LaidF w) (h : IsA w.heap.size w L v) :
    Calls Tryz.prog 39 #[v] w fun e w' => e = .returned (.bool (classedD L)) ∧ Below w.heap.size w w' := by
  obtain ⟨R, hR⟩ : ∃ R, R = classedD L := ⟨_, rfl⟩
  rw [← hR]
  have HI := Lib.hid h
  obtain ⟨sa, sc, hv, hmx, hcell⟩ := id h
  obtain ⟨n, hn⟩ : ∃ n, n = L.length := ⟨_, rfl⟩
  rw [← hn] at hv hs
  subst hv
  have HN := Lib.hid hn
  have HL := Lib.hid hl
  have HR := Lib.hid hR
  have HSm := Lib.hid hsm
  have HC := Lib.hid hcell
  have hvo := fun (W : World) (q : IsA W.heap.size W L (.slice sa n sc)) => valsOf_any L (by omega) (.slice sa n sc) ⟨#[111, 98, 106, 101, 99, 116, 99, 108, 97, 115, 115]⟩ W q
  have HVo := Lib.hid hvo
  clear hcell hR hl hsm hn h hmx hvo
  cases hq : allC (valsS L objB) with
  | none =>
    have hf : R = false := by rw [HR.out, classed_none hq]
    subst hf
    have HQ := Lib.hid hq
    clear hq HR
    go_enter Tryz.func39, Tryz.ntmps39
    go_wp2_with (first
      | (go_at_call 78; refine (HVo.out _ HI.out).mono ?_; rintro e w2 ⟨u, rfl, hu, hb2⟩; have HU := Lib.hid (hu.below hb2 hb2.size); have HB2 := Lib.hid hb2; clear hu hb2)
      | (go_at_call 77; refine (classesOf_any (valsS L objB) HSm.out _ _ (HL.out.below HB2.out) HU.out).mono ?_; rintro e w3 hcw; (simp only [ClsW, HQ.out] at hcw); (obtain ⟨hb3, rfl⟩ := hcw); have HB3 := Lib.hid (bthen HB2.out hb3); clear hb3))
    go_ret
    exact ⟨rfl, HB3.out⟩
  | some p =>
    obtain ⟨A, s⟩ := p
    have HQ := Lib.hid hq
    cases s with
    | false =>
      have hf : R = false := by rw [HR.out, classed_not hq]
      subst hf
      clear hq HR
      go_enter Tryz.func39, Tryz.ntmps39
      go_wp2_with (first
        | (go_at_call 78; refine (HVo.out _ HI.out).mono ?_; rintro e w2 ⟨u, rfl, hu, hb2⟩; have HU := Lib.hid (hu.below hb2 hb2.size); have HB2 := Lib.hid hb2; clear hu hb2)
        | (go_at_call 77; refine (classesOf_any (valsS L objB) HSm.out _ _ (HL.out.below HB2.out) HU.out).mono ?_; rintro e w3 hcw; (simp only [ClsW, HQ.out] at hcw); (obtain ⟨hb3, g3, v3, rfl, ho3⟩ := hcw); have HB3 := Lib.hid (bthen HB2.out hb3); clear hb3 ho3))
      go_ret
      exact ⟨rfl, HB3.out⟩
    | true =>
      obtain ⟨hmem, hAl⟩ := allC_mem hq
      have hA3 : A.length ≤ 3000 := by have := HSm.out.1; omega
      have hmay := mayC_len hmem
      obtain ⟨m, hm⟩ : ∃ m, m = A.length := ⟨_, rfl⟩
      have HM := Lib.hid hm
      have HMem := Lib.hid hmem
      rw [← hm] at hA3 hmay hAl
      clear hq hm hmem
      go_enter Tryz.func39, Tryz.ntmps39
      go_wp2_with (first
        | (go_at_call 78; refine (HVo.out _ HI.out).mono ?_; rintro e w2 ⟨u, rfl, hu, hb2⟩; have HU := Lib.hid (hu.below hb2 hb2.size); have HB2 := Lib.hid hb2; clear hu hb2)
        | (go_at_call 77; refine (classesOf_any (valsS L objB) HSm.out _ _ (HL.out.below HB2.out) HU.out).mono ?_; rintro e w3 hcw; (simp only [ClsW, HQ.out] at hcw); (obtain ⟨hb3, g3, v3, rfl, ho3⟩ := hcw); (obtain ⟨ca, cc, hcv, _, hck⟩ := ownK_isK ho3 (by unfold maxLen; have := HM.out; omega)); (rw [← HM.out] at hcv); subst hcv; have HK := Lib.hid hck; have HB3 := Lib.hid (bthen HB2.out hb3); clear hb3 ho3 hck))
      go_loopw [5, 22] (fun l i wr => ∃ (j : Nat), j ≤ m ∧ i = .int .i64 j ∧ Hid (∀ k (hk : k < A.length), k < j → ∀ t ∈ A[k].mustL, hasS L t = true) ∧ OwnS w3.heap.size wr l (mayC (A.take j)) ∧ Below w3.heap.size w3 wr) (fun _ i wr => m - (intOf i).toNat)
      case atStart => exact ⟨0, by omega, rfl, Lib.hid (fun k _ h => absurd h (by omega)), ownS_nil _ _, Below.refl _ _⟩
      case round =>
        obtain ⟨j, hj, rfl, HMu, hown, hbel⟩ := hrel
        rename World => wo
        have HBel := Lib.hid hbel
        have hbs := hbel.size
        obtain ⟨la, lc, hlv⟩ := ownS_slice hown
        have hml : (mayC (A.take j)).length ≤ 24000 := by
          have := mayC_len (A := A.take j) (fun c hc => HMem.out c (List.mem_of_mem_take hc))
          rw [List.length_take] at this
          omega
        obtain ⟨ln, hln⟩ : ∃ k, k = (mayC (A.take j)).length := ⟨_, rfl⟩
        rw [← hln] at hlv hml
        subst hlv
        have HOwn := Lib.hid hown
        have HLn := Lib.hid hln
        clear hln hown
        by_cases hlt : j < m
        · have t3 : decide ((j : Int) < (m : Int)) = true := by simp; omega
          have t3' : decide (j < m) = true := by simpa using hlt
          have hlA : j < A.length := by rw [← HM.out]; exact hlt
          obtain ⟨b, off, u1, u2, hae, hb0, c0, c1, c2, c3, c4, ht1, ht2⟩ := HK.out j hlA
          subst hae
          obtain ⟨pa, pc, hx1, _, hmc⟩ := id ht1
          obtain ⟨pn, hpn⟩ : ∃ k, k = A[j].mustL.length := ⟨_, rfl⟩
          rw [← hpn] at hx1
          subst hx1
          obtain ⟨qa, qc, hx2, _⟩ := id ht2
          obtain ⟨qn, hqn⟩ : ∃ k, k = A[j].mayL.length := ⟨_, rfl⟩
          rw [← hqn] at hx2
          subst hx2
          obtain ⟨N2, hN2⟩ : ∃ X : ByteArray, X = ⟨A[j].name.toArray⟩ := ⟨_, rfl⟩
          obtain ⟨S2, hS2⟩ : ∃ X : ByteArray, X = ⟨A[j].sup.toArray⟩ := ⟨_, rfl⟩
          obtain ⟨st, hst⟩ : ∃ b, b = A[j].st := ⟨_, rfl⟩
          simp only [strV, ← hN2, ← hS2, ← hst] at c0 c1 c2
          have d0 := (hbel.cell (p := ⟨b, _, none⟩) hb0).trans c0
          have d1 := (hbel.cell (p := ⟨b, _, none⟩) hb0).trans c1
          have d2 := (hbel.cell (p := ⟨b, _, none⟩) hb0).trans c2
          have d3 := (hbel.cell (p := ⟨b, _, none⟩) hb0).trans c3
          have d4 := (hbel.cell (p := ⟨b, _, none⟩) hb0).trans c4
          have hw8 := class_words A[j] (HMem.out _ (List.getElem_mem _))
          rw [List.length_append, ← hpn, ← hqn] at hw8
          have HPn := Lib.hid hpn
          have HQn := Lib.hid hqn
          have HMc := Lib.hid hmc
          have HT1 := Lib.hid ht1
          have HT2 := Lib.hid ht2
          clear c0 c1 c2 c3 c4 hN2 hS2 hst hpn hqn ht1 ht2 hmc
          obtain ⟨W1, hW1⟩ : ∃ W1, W1 = wo.alloc (.cells #[.string N2, .string S2, .bool st, .slice pa pn pc, .slice qa qn qc] 29) := ⟨_, rfl⟩
          have hba : Below wo.heap.size wo W1 := by rw [hW1]; exact (Below.refl _ _).alloc (Nat.le_refl _) _
          have hbx : BoxC W1 wo.heap.size (.string N2) (.string S2) (.bool st) (.slice pa pn pc) (.slice qa qn qc) := by rw [hW1]; exact boxC_new _ _ _ _ _ _
          have hz1 : W1.heap.size = wo.heap.size + 1 := by rw [hW1]; simp
          have HBa := Lib.hid hba
          have HBx := Lib.hid hbx
          have HW1 := Lib.hid hW1
          clear hba hbx hW1
          go_wp2
          go_loopw [29] (fun i wr => ∃ (q : Nat), q ≤ pn ∧ i = .int .i64 q ∧ Hid (∀ k (hk : k < A[j].mustL.length), k < q → hasS L A[j].mustL[k] = true) ∧ Below W1.heap.size W1 wr) (fun i wr => pn - (intOf i).toNat)
          case atStart => exact ⟨0, by omega, rfl, Lib.hid (fun k _ h => absurd h (by omega)), HW1.out ▸ Below.refl _ _⟩
          case round =>
            obtain ⟨q, hq, rfl, HAll, hbq⟩ := hrel
            have HBq := Lib.hid hbq
            have hbqs := hbq.size
            have HBr : Hid (Below wo.heap.size wo wr) := Lib.hid (HBa.out.trans (hbq.mono (by omega)))
            have HB0 : Hid (Below w3.heap.size w3 wr) := Lib.hid (bthen HBel.out HBr.out)
            have HBw : Hid (Below w.heap.size w wr) := Lib.hid (bthen HB3.out HB0.out)
            clear hbq
            by_cases hlt2 : q < pn
            · have t5 : decide ((q : Int) < (pn : Int)) = true := by simp; omega
              have t5' : decide (q < pn) = true := by simpa using hlt2
              have hlM : q < A[j].mustL.length := by rw [← HPn.out]; exact hlt2
              obtain ⟨b2, off2, hpe, hb2, e0⟩ := HMc.out q hlM
              subst hpe
              obtain ⟨T, hT⟩ : ∃ X : ByteArray, ⟨A[j].mustL[q].toArray⟩ = X := ⟨_, rfl⟩
              have hTl : T.data.toList = A[j].mustL[q] := by rw [← hT]
              have f0 : (wr.cell? ⟨b2, off2 + q, none⟩) = some (.string T) := by
                rw [HB0.out.cell (p := ⟨b2, _, none⟩) hb2, e0, ← hT]; rfl
              have hha := hasS_any L (by have := HN.out; omega) (.slice sa n sc) T wr (HI.out.below HBw.out HBw.out.size)
              rw [hTl] at hha
              obtain ⟨g, hg⟩ : ∃ g, hasS L A[j].mustL[q] = g := ⟨_, rfl⟩
              rw [hg] at hha
              have HHa := Lib.hid hha
              have HG := Lib.hid hg
              have HTl := Lib.hid hTl
              clear hT hTl e0 hha hg
              cases g with
              | true =>
                have HA2 : Hid (∀ k (hk : k < A[j].mustL.length), k < q + 1 → hasS L A[j].mustL[k] = true) := Lib.hid (fun k h1 h3 => by
                  by_cases hk : k < q
                  · exact HAll.out k h1 hk
                  · obtain rfl : k = q := by omega
                    exact HG.out)
                go_wp2_with (go_at_call 75; refine (HHa.out).mono ?_; rintro e w5 ⟨rfl, hb5⟩; have HB5 := Lib.hid (HBq.out.trans (hb5.mono hbqs)); clear hb5)
                go_roundw
                case rel => exact ⟨q + 1, by omega, by go_num, HA2, HB5.out⟩
                case measure => simp [intOf]; omega
              | false =>
                have hf : R = false := by rw [HR.out]; exact classed_must HQ.out (List.getElem_mem hlA) (List.getElem_mem hlM) HG.out
                subst hf
                go_wp2_with (go_at_call 75; refine (HHa.out).mono ?_; rintro e w5 ⟨rfl, hb5⟩; have HB5 := Lib.hid (bthen HBw.out hb5); clear hb5)
                go_ret
                exact ⟨rfl, HB5.out⟩
            · obtain rfl : q = pn := by omega
              have t5 : decide ((q : Int) < (q : Int)) = false := by simp
              have t5' : decide (q < q) = false := by simp
              have HMu2 : Hid (∀ k (hk : k < A.length), k < j + 1 → ∀ t ∈ A[k].mustL, hasS L t = true) := Lib.hid (fun k h1 h3 => by
                by_cases hk : k < j
                · exact HMu.out k h1 hk
                · obtain rfl : k = j := by omega
                  intro t ht
                  obtain ⟨i, hi, rfl⟩ := List.getElem_of_mem ht
                  exact HAll.out i hi (by rw [HPn.out]; exact hi))
              have HX := Lib.hid (HBx.out.below HBq.out (by omega))
              obtain ⟨p0, p1, p2, p3, p4⟩ := HX.out.cells
              have HI1 := Lib.hid ((ownS_isT HOwn.out (by unfold maxLen; have := HLn.out; omega)).below HBr.out HBr.out.size)
              have HI2 := Lib.hid (HT1.out.below HB0.out HB0.out.size)
              have HI3 := Lib.hid (HT2.out.below HB0.out HB0.out.size)
              have hU : [mayC (A.take j), A[j].mustL, A[j].mayL].flatten.length ≤ 100000 := by
                have := HLn.out; have := HPn.out; have := HQn.out
                simp; omega
              have HU2 := Lib.hid hU
              have HFl : Hid ([mayC (A.take j), A[j].mustL, A[j].mayL].flatten = mayC (A.take (j + 1))) := Lib.hid (by rw [mayC_take A j hlA]; simp)
              have hba2 : Below wr.heap.size wr (wr.alloc (.cells #[.slice la ln lc, .slice pa q pc, .slice qa qn qc] 27)) := (Below.refl _ _).alloc (Nat.le_refl _) _
              have HB8 := Lib.hid (bthen HB0.out hba2)
              clear hU hba2
              go_wp2_with (go_at_call 79; refine (concat_any [mayC (A.take j), A[j].mustL, A[j].mayL] HU2.out (by simp) _ _ (isTT_three (n0 := 0) HI1.out HI2.out HI3.out 27)).mono ?_; rintro e w6 ⟨v6, rfl, ho6, hb6⟩; (rw [HFl.out] at ho6); (obtain ⟨ra, rc, hrv⟩ := ownS_slice ho6); subst hrv; have HO6 := Lib.hid (ownS_lower (B' := w3.heap.size) ho6 HB8.out.size); have HB6 := Lib.hid (bthen HB8.out hb6); clear ho6 hb6)
              go_roundw
              case rel => exact ⟨j + 1, by omega, by go_num, HMu2, HO6.out, HB6.out⟩
              case measure => simp [intOf]; omega
        · obtain rfl : j = m := by omega
          have t3 : decide ((j : Int) < (j : Int)) = false := by simp
          have t3' : decide (j < j) = false := by simp
          have HTk : Hid (A.take j = A) := Lib.hid (by rw [HM.out, List.take_length])
          have HMay : Hid (IsT wo.heap.size wo (mayC A) (.slice la ln lc)) := Lib.hid (by have := ownS_isT HOwn.out (by unfold maxLen; have := HLn.out; omega); rwa [HTk.out] at this)
          have HMust : Hid (∀ c ∈ A, ∀ t ∈ c.mustL, hasS L t = true) := Lib.hid (fun c hc => by
            obtain ⟨k, hk, rfl⟩ := List.getElem_of_mem hc
            exact HMu.out k hk (by rw [HM.out]; exact hk))
          clear hbel
          go_wp2
          go_loopw [48] (fun i wr => ∃ (q : Nat), q ≤ n ∧ i = .int .i64 q ∧ Hid (∀ k (hk : k < L.length), k < q → (mayC A).contains L[k].1 = true) ∧ Below wo.heap.size wo wr) (fun i wr => n - (intOf i).toNat)
          case atStart => exact ⟨0, by omega, rfl, Lib.hid (fun k _ h => absurd h (by omega)), Below.refl _ _⟩
          case round =>
            obtain ⟨q, hq, rfl, HAll, hbq⟩ := hrel
            have HBq := Lib.hid hbq
            have hbqs := hbq.size
            by_cases hlt : q < n
            · have t5 : decide ((q : Int) < (n : Int)) = true := by simp; omega
              have t5' : decide (q < n) = true := by simpa using hlt
              have hlL : q < L.length := by rw [← HN.out]; exact hlt
              obtain ⟨b, off, u, hae, hb0, c0, c1, ht⟩ := HC.out q hlL
              subst hae
              obtain ⟨ua, uc, hu, _⟩ := id ht
              obtain ⟨un, hun⟩ : ∃ k, k = L[q].2.length := ⟨_, rfl⟩
              rw [← hun] at hu
              subst hu
              obtain ⟨X, hX⟩ : ∃ X : ByteArray, ⟨L[q].1.toArray⟩ = X := ⟨_, rfl⟩
              have hXl : X.data.toList = L[q].1 := by rw [← hX]
              have hbw : Below w.heap.size w wr := (bthen HB3.out HBel.out).trans (HBq.out.mono (Nat.le_trans HB3.out.size HBel.out.size))
              have d0 : (wr.cell? ⟨b, off + q * 2, none⟩) = some (.string X) := by
                rw [hbw.cell (p := ⟨b, _, none⟩) hb0, c0, ← hX]; rfl
              have d1 := (hbw.cell (p := ⟨b, off + q * 2 + 1, none⟩) hb0).trans c1
              have HA := Lib.hid (Below.alloc HBq.out hbqs (.cells #[.string X, .slice ua un uc] 42))
              have HCo := Lib.hid (containsS_any (mayC A) (.slice la ln lc) X _ (HMay.out.below HA.out HA.out.size))
              rw [hXl] at HCo
              obtain ⟨g, hg⟩ : ∃ g, (mayC A).contains L[q].1 = g := ⟨_, rfl⟩
              rw [hg] at HCo
              have HG := Lib.hid hg
              clear hun hX hXl c0 c1 ht hbq hbw hg
              cases g with
              | true =>
                have HA2 : Hid (∀ k (hk : k < L.length), k < q + 1 → (mayC A).contains L[k].1 = true) := Lib.hid (fun k h1 h3 => by
                  by_cases hk : k < q
                  · exact HAll.out k h1 hk
                  · obtain rfl : k = q := by omega
                    exact HG.out)
                go_wp2_with (go_at_call 80; refine (HCo.out).mono ?_; rintro e w5 ⟨rfl, rfl⟩)
                go_roundw
                case rel => exact ⟨q + 1, by omega, by go_num, HA2, HA.out⟩
                case measure => simp [intOf]; omega
              | false =>
                have hf : R = false := by rw [HR.out]; exact classed_may HQ.out (List.getElem_mem hlL) HG.out
                subst hf
                go_wp2_with (go_at_call 80; refine (HCo.out).mono ?_; rintro e w5 ⟨rfl, rfl⟩)
                go_ret
                exact ⟨rfl, (bthen HB3.out HBel.out).trans (HA.out.mono (Nat.le_trans HB3.out.size HBel.out.size))⟩
            · obtain rfl : q = n := by omega
              have t5 : decide ((q : Int) < (q : Int)) = false := by simp
              have t5' : decide (q < q) = false := by simp
              have hf : R = true := by
                rw [HR.out]
                exact classed_is HQ.out HMust.out (fun a ha => by
                  obtain ⟨k, hk, rfl⟩ := List.getElem_of_mem ha
                  exact HAll.out k hk (by rw [HN.out]; exact hk))
              subst hf
              clear hbq
              go_wp2
              go_ret
              exact ⟨rfl, (bthen HB3.out HBel.out).trans (HBq.out.mono (Nat.le_trans HB3.out.size HBel.out.size))⟩
end Go.Proofs.YtofmpaphafhdpaaGreatDoor
