/- Several texts in one file: ScClassed, ScCheck, ScDocA, MaRef, MaNumP, MaDig, MaRefN. -/
import Derived.Test.YtofmpaphafhdpaaGreatDoorAllP1
import Derived.Test.YtofmpaphafhdpaaGreatDoorScSound
import Derived.Test.YtofmpaphafhdpaaGreatDoorDnKey
import Derived.Test.YtofmpaphafhdpaaGreatDoorMaFind
import Derived.Test.YtofmpaphafhdpaaGreatDoorMaPure
import Derived.Test.YtofmpaphafhdpaaGreatDoorOfL
import Derived.Test.YtofmpaphafhdpaaGreatDoorDnOwn
import Derived.Lib.ItoaLen
import Derived.Lib.ItoaMem
/- schema.isClassed: the walk. -/
namespace Go.Proofs.YtofmpaphafhdpaaGreatDoor
open Go.RowKit
set_option linter.unusedVariables false

theorem class_words : ∀ c ∈ classL, (c.mustL ++ c.mayL).length ≤ 8 := by
  intro c hc
  simp only [classL, List.mem_cons, List.not_mem_nil, or_false] at hc
  rcases hc with rfl | rfl | rfl | rfl | rfl | rfl | rfl <;> decide
theorem chain_mem : ∀ (k : Nat) (n : List UInt8), ∀ c ∈ chainC k n, c ∈ classL
  | 0, n, c, h => by simp [chainC] at h
  | k + 1, n, c, h => by
    simp only [chainC] at h
    cases e : findC n with
    | none => rw [e] at h; simp at h
    | some d =>
      rw [e] at h
      rcases List.mem_cons.1 h with rfl | h
      · exact (findC_mem e).1
      · exact chain_mem k d.sup c h
theorem allC_mem : ∀ {V : List (List UInt8)} {A : List CT} {s : Bool}, allC V = some (A, s) → (∀ c ∈ A, c ∈ classL) ∧ A.length ≤ 3 * V.length
  | [], A, s, h => by simp only [allC, Option.some.injEq, Prod.mk.injEq] at h; rw [← h.1]; simp
  | v :: l, A, s, h => by
    simp only [allC] at h
    cases e : findC (fold v) with
    | none => rw [e] at h; cases h
    | some c =>
      rw [e] at h
      cases e2 : allC l with
      | none => rw [e2] at h; cases h
      | some p =>
        obtain ⟨A2, s2⟩ := p
        rw [e2] at h
        simp only [Option.map_some, Option.some.injEq, Prod.mk.injEq] at h
        obtain ⟨h1, h2⟩ := allC_mem e2
        rw [← h.1]
        have := chain_len (fold v) 3
        exact ⟨fun c hc => (List.mem_append.1 hc).elim (chain_mem 3 _ c) (h1 c), by simp; omega⟩
theorem mayC_len {A : List CT} (h : ∀ c ∈ A, c ∈ classL) : (mayC A).length ≤ 8 * A.length := by
  induction A with
  | nil => simp [mayC]
  | cons c A ih =>
    have h1 := class_words c (h c (by simp))
    have h2 := ih (fun d hd => h d (by simp [hd]))
    simp only [mayC, List.flatMap_cons, List.length_append] at *
    simp only [List.length_cons]
    omega
theorem mayC_take (A : List CT) (j : Nat) (h : j < A.length) : mayC (A.take (j + 1)) = mayC (A.take j) ++ (A[j].mustL ++ A[j].mayL) := by
  unfold mayC
  rw [List.take_succ_eq_append_getElem h, List.flatMap_append]
  simp
theorem classed_none {L : List AT} (h : allC (valsS L objB) = none) : classedD L = false := by unfold classedD; rw [h]
theorem classed_not {L : List AT} {A : List CT} (h : allC (valsS L objB) = some (A, false)) : classedD L = false := by unfold classedD; rw [h]; rfl
theorem classed_must {L : List AT} {A : List CT} {s : Bool} (h : allC (valsS L objB) = some (A, s)) {c : CT} (hc : c ∈ A) {t : List UInt8} (ht : t ∈ c.mustL) (hn : hasS L t = false) : classedD L = false := by
  unfold classedD
  rw [h]
  have : A.all (fun c => c.mustL.all (hasS L)) = false := List.all_eq_false.2 ⟨c, hc, by
    simp only [Bool.not_eq_true]
    exact List.all_eq_false.2 ⟨t, ht, by rw [hn]; simp⟩⟩
  simp [this]
theorem classed_may {L : List AT} {A : List CT} {s : Bool} (h : allC (valsS L objB) = some (A, s)) {a : AT} (ha : a ∈ L) (hn : (mayC A).contains a.1 = false) : classedD L = false := by
  unfold classedD
  rw [h]
  have : L.all (fun a => (mayC A).contains a.1) = false := List.all_eq_false.2 ⟨a, ha, by rw [hn]; simp⟩
  simp only [this]
  simp
theorem classed_is {L : List AT} {A : List CT} (h : allC (valsS L objB) = some (A, true)) (h1 : ∀ c ∈ A, ∀ t ∈ c.mustL, hasS L t = true) (h2 : ∀ a ∈ L, (mayC A).contains a.1 = true) : classedD L = true := by
  unfold classedD
  rw [h]
  have e1 : A.all (fun c => c.mustL.all (hasS L)) = true := List.all_eq_true.2 (fun c hc => List.all_eq_true.2 (h1 c hc))
  have e2 : L.all (fun a => (mayC A).contains a.1) = true := List.all_eq_true.2 h2
  simp only [e1, e2]
  rfl

/-- Three lists of texts side by side. -/
theorem isTT_three {n0 : Nat} {w : World} {A1 A2 A3 : List (List UInt8)} {u1 u2 u3 : Value} (h1 : IsT w.heap.size w A1 u1) (h2 : IsT w.heap.size w A2 u2) (h3 : IsT w.heap.size w A3 u3) (e : TypeId) :
    IsTT (w.alloc (.cells #[u1, u2, u3] e)).heap.size (w.alloc (.cells #[u1, u2, u3] e)) [A1, A2, A3] (.slice (some ⟨w.heap.size, 0, none⟩) 3 3) := by
  have ha : Below w.heap.size w (w.alloc (.cells #[u1, u2, u3] e)) := (Below.refl _ _).alloc (Nat.le_refl _) _
  have hh : (w.alloc (.cells #[u1, u2, u3] e)).heap[w.heap.size]? = some (.cells #[u1, u2, u3] e (0, 0)) := heap_alloc_new w _
  refine ⟨_, _, rfl, fun j hj => ?_⟩
  match j, hj with
  | 0, _ => exact ⟨w.heap.size, 0, u1, rfl, by simp, by simp only [World.cell?, hh]; rfl, h1.below ha ha.size⟩
  | 1, _ => exact ⟨w.heap.size, 0, u2, rfl, by simp, by simp only [World.cell?, hh]; rfl, h2.below ha ha.size⟩
  | 2, _ => exact ⟨w.heap.size, 0, u3, rfl, by simp, by simp only [World.cell?, hh]; rfl, h3.below ha ha.size⟩

set_option maxRecDepth 100000 in
set_option maxHeartbeats 8000000 in
theorem isClassed_any (L : List AT) (hs : L.length ≤ 900) (hsm : smallT (valsS L objB)) (v : Value) (w : World) (hl : LaidF w) (h : IsA w.heap.size w L v) :
    Calls Tryz.prog 39 #[v] w fun e w' => e = .returned (.bool (classedD L)) ∧ Below w.heap.size w w' := by
  obtain ⟨R, hR⟩ : ∃ R, R = classedD L := ⟨_, rfl⟩
  rw [← hR]
  have HI := Lib.hid h
  obtain ⟨sa, sc, hv, hmx, hcell⟩ := id h
  obtain ⟨n, hn⟩ : ∃ n, n = L.length := ⟨_, rfl⟩
  rw [← hn] at hv hs
  subst hv
  have HN := Lib.hid hn
  have HL := Lib.hid hl
  have HR := Lib.hid hR
  have HSm := Lib.hid hsm
  have HC := Lib.hid hcell
  have hvo := fun (W : World) (q : IsA W.heap.size W L (.slice sa n sc)) => valsOf_any L (by omega) (.slice sa n sc) ⟨#[111, 98, 106, 101, 99, 116, 99, 108, 97, 115, 115]⟩ W q
  have HVo := Lib.hid hvo
  clear hcell hR hl hsm hn h hmx hvo
  cases hq : allC (valsS L objB) with
  | none =>
    have hf : R = false := by rw [HR.out, classed_none hq]
    subst hf
    have HQ := Lib.hid hq
    clear hq HR
    go_enter Tryz.func39, Tryz.ntmps39
    go_wp2_with (first
      | (go_at_call 78; refine (HVo.out _ HI.out).mono ?_; rintro e w2 ⟨u, rfl, hu, hb2⟩; have HU := Lib.hid (hu.below hb2 hb2.size); have HB2 := Lib.hid hb2; clear hu hb2)
      | (go_at_call 77; refine (classesOf_any (valsS L objB) HSm.out _ _ (HL.out.below HB2.out) HU.out).mono ?_; rintro e w3 hcw; (simp only [ClsW, HQ.out] at hcw); (obtain ⟨hb3, rfl⟩ := hcw); have HB3 := Lib.hid (bthen HB2.out hb3); clear hb3))
    go_ret
    exact ⟨rfl, HB3.out⟩
  | some p =>
    obtain ⟨A, s⟩ := p
    have HQ := Lib.hid hq
    cases s with
    | false =>
      have hf : R = false := by rw [HR.out, classed_not hq]
      subst hf
      clear hq HR
      go_enter Tryz.func39, Tryz.ntmps39
      go_wp2_with (first
        | (go_at_call 78; refine (HVo.out _ HI.out).mono ?_; rintro e w2 ⟨u, rfl, hu, hb2⟩; have HU := Lib.hid (hu.below hb2 hb2.size); have HB2 := Lib.hid hb2; clear hu hb2)
        | (go_at_call 77; refine (classesOf_any (valsS L objB) HSm.out _ _ (HL.out.below HB2.out) HU.out).mono ?_; rintro e w3 hcw; (simp only [ClsW, HQ.out] at hcw); (obtain ⟨hb3, g3, v3, rfl, ho3⟩ := hcw); have HB3 := Lib.hid (bthen HB2.out hb3); clear hb3 ho3))
      go_ret
      exact ⟨rfl, HB3.out⟩
    | true =>
      obtain ⟨hmem, hAl⟩ := allC_mem hq
      have hA3 : A.length ≤ 3000 := by have := HSm.out.1; omega
      have hmay := mayC_len hmem
      obtain ⟨m, hm⟩ : ∃ m, m = A.length := ⟨_, rfl⟩
      have HM := Lib.hid hm
      have HMem := Lib.hid hmem
      rw [← hm] at hA3 hmay hAl
      clear hq hm hmem
      go_enter Tryz.func39, Tryz.ntmps39
      go_wp2_with (first
        | (go_at_call 78; refine (HVo.out _ HI.out).mono ?_; rintro e w2 ⟨u, rfl, hu, hb2⟩; have HU := Lib.hid (hu.below hb2 hb2.size); have HB2 := Lib.hid hb2; clear hu hb2)
        | (go_at_call 77; refine (classesOf_any (valsS L objB) HSm.out _ _ (HL.out.below HB2.out) HU.out).mono ?_; rintro e w3 hcw; (simp only [ClsW, HQ.out] at hcw); (obtain ⟨hb3, g3, v3, rfl, ho3⟩ := hcw); (obtain ⟨ca, cc, hcv, _, hck⟩ := ownK_isK ho3 (by unfold maxLen; have := HM.out; omega)); (rw [← HM.out] at hcv); subst hcv; have HK := Lib.hid hck; have HB3 := Lib.hid (bthen HB2.out hb3); clear hb3 ho3 hck))
      go_loopw [5, 22] (fun l i wr => ∃ (j : Nat), j ≤ m ∧ i = .int .i64 j ∧ Hid (∀ k (hk : k < A.length), k < j → ∀ t ∈ A[k].mustL, hasS L t = true) ∧ OwnS w3.heap.size wr l (mayC (A.take j)) ∧ Below w3.heap.size w3 wr) (fun _ i wr => m - (intOf i).toNat)
      case atStart => exact ⟨0, by omega, rfl, Lib.hid (fun k _ h => absurd h (by omega)), ownS_nil _ _, Below.refl _ _⟩
      case round =>
        obtain ⟨j, hj, rfl, HMu, hown, hbel⟩ := hrel
        rename World => wo
        have HBel := Lib.hid hbel
        have hbs := hbel.size
        obtain ⟨la, lc, hlv⟩ := ownS_slice hown
        have hml : (mayC (A.take j)).length ≤ 24000 := by
          have := mayC_len (A := A.take j) (fun c hc => HMem.out c (List.mem_of_mem_take hc))
          rw [List.length_take] at this
          omega
        obtain ⟨ln, hln⟩ : ∃ k, k = (mayC (A.take j)).length := ⟨_, rfl⟩
        rw [← hln] at hlv hml
        subst hlv
        have HOwn := Lib.hid hown
        have HLn := Lib.hid hln
        clear hln hown
        by_cases hlt : j < m
        · have t3 : decide ((j : Int) < (m : Int)) = true := by simp; omega
          have t3' : decide (j < m) = true := by simpa using hlt
          have hlA : j < A.length := by rw [← HM.out]; exact hlt
          obtain ⟨b, off, u1, u2, hae, hb0, c0, c1, c2, c3, c4, ht1, ht2⟩ := HK.out j hlA
          subst hae
          obtain ⟨pa, pc, hx1, _, hmc⟩ := id ht1
          obtain ⟨pn, hpn⟩ : ∃ k, k = A[j].mustL.length := ⟨_, rfl⟩
          rw [← hpn] at hx1
          subst hx1
          obtain ⟨qa, qc, hx2, _⟩ := id ht2
          obtain ⟨qn, hqn⟩ : ∃ k, k = A[j].mayL.length := ⟨_, rfl⟩
          rw [← hqn] at hx2
          subst hx2
          obtain ⟨N2, hN2⟩ : ∃ X : ByteArray, X = ⟨A[j].name.toArray⟩ := ⟨_, rfl⟩
          obtain ⟨S2, hS2⟩ : ∃ X : ByteArray, X = ⟨A[j].sup.toArray⟩ := ⟨_, rfl⟩
          obtain ⟨st, hst⟩ : ∃ b, b = A[j].st := ⟨_, rfl⟩
          simp only [strV, ← hN2, ← hS2, ← hst] at c0 c1 c2
          have d0 := (hbel.cell (p := ⟨b, _, none⟩) hb0).trans c0
          have d1 := (hbel.cell (p := ⟨b, _, none⟩) hb0).trans c1
          have d2 := (hbel.cell (p := ⟨b, _, none⟩) hb0).trans c2
          have d3 := (hbel.cell (p := ⟨b, _, none⟩) hb0).trans c3
          have d4 := (hbel.cell (p := ⟨b, _, none⟩) hb0).trans c4
          have hw8 := class_words A[j] (HMem.out _ (List.getElem_mem _))
          rw [List.length_append, ← hpn, ← hqn] at hw8
          have HPn := Lib.hid hpn
          have HQn := Lib.hid hqn
          have HMc := Lib.hid hmc
          have HT1 := Lib.hid ht1
          have HT2 := Lib.hid ht2
          clear c0 c1 c2 c3 c4 hN2 hS2 hst hpn hqn ht1 ht2 hmc
          obtain ⟨W1, hW1⟩ : ∃ W1, W1 = wo.alloc (.cells #[.string N2, .string S2, .bool st, .slice pa pn pc, .slice qa qn qc] 29) := ⟨_, rfl⟩
          have hba : Below wo.heap.size wo W1 := by rw [hW1]; exact (Below.refl _ _).alloc (Nat.le_refl _) _
          have hbx : BoxC W1 wo.heap.size (.string N2) (.string S2) (.bool st) (.slice pa pn pc) (.slice qa qn qc) := by rw [hW1]; exact boxC_new _ _ _ _ _ _
          have hz1 : W1.heap.size = wo.heap.size + 1 := by rw [hW1]; simp
          have HBa := Lib.hid hba
          have HBx := Lib.hid hbx
          have HW1 := Lib.hid hW1
          clear hba hbx hW1
          go_wp2
          go_loopw [29] (fun i wr => ∃ (q : Nat), q ≤ pn ∧ i = .int .i64 q ∧ Hid (∀ k (hk : k < A[j].mustL.length), k < q → hasS L A[j].mustL[k] = true) ∧ Below W1.heap.size W1 wr) (fun i wr => pn - (intOf i).toNat)
          case atStart => exact ⟨0, by omega, rfl, Lib.hid (fun k _ h => absurd h (by omega)), HW1.out ▸ Below.refl _ _⟩
          case round =>
            obtain ⟨q, hq, rfl, HAll, hbq⟩ := hrel
            have HBq := Lib.hid hbq
            have hbqs := hbq.size
            have HBr : Hid (Below wo.heap.size wo wr) := Lib.hid (HBa.out.trans (hbq.mono (by omega)))
            have HB0 : Hid (Below w3.heap.size w3 wr) := Lib.hid (bthen HBel.out HBr.out)
            have HBw : Hid (Below w.heap.size w wr) := Lib.hid (bthen HB3.out HB0.out)
            clear hbq
            by_cases hlt2 : q < pn
            · have t5 : decide ((q : Int) < (pn : Int)) = true := by simp; omega
              have t5' : decide (q < pn) = true := by simpa using hlt2
              have hlM : q < A[j].mustL.length := by rw [← HPn.out]; exact hlt2
              obtain ⟨b2, off2, hpe, hb2, e0⟩ := HMc.out q hlM
              subst hpe
              obtain ⟨T, hT⟩ : ∃ X : ByteArray, ⟨A[j].mustL[q].toArray⟩ = X := ⟨_, rfl⟩
              have hTl : T.data.toList = A[j].mustL[q] := by rw [← hT]
              have f0 : (wr.cell? ⟨b2, off2 + q, none⟩) = some (.string T) := by
                rw [HB0.out.cell (p := ⟨b2, _, none⟩) hb2, e0, ← hT]; rfl
              have hha := hasS_any L (by have := HN.out; omega) (.slice sa n sc) T wr (HI.out.below HBw.out HBw.out.size)
              rw [hTl] at hha
              obtain ⟨g, hg⟩ : ∃ g, hasS L A[j].mustL[q] = g := ⟨_, rfl⟩
              rw [hg] at hha
              have HHa := Lib.hid hha
              have HG := Lib.hid hg
              have HTl := Lib.hid hTl
              clear hT hTl e0 hha hg
              cases g with
              | true =>
                have HA2 : Hid (∀ k (hk : k < A[j].mustL.length), k < q + 1 → hasS L A[j].mustL[k] = true) := Lib.hid (fun k h1 h3 => by
                  by_cases hk : k < q
                  · exact HAll.out k h1 hk
                  · obtain rfl : k = q := by omega
                    exact HG.out)
                go_wp2_with (go_at_call 75; refine (HHa.out).mono ?_; rintro e w5 ⟨rfl, hb5⟩; have HB5 := Lib.hid (HBq.out.trans (hb5.mono hbqs)); clear hb5)
                go_roundw
                case rel => exact ⟨q + 1, by omega, by go_num, HA2, HB5.out⟩
                case measure => simp [intOf]; omega
              | false =>
                have hf : R = false := by rw [HR.out]; exact classed_must HQ.out (List.getElem_mem hlA) (List.getElem_mem hlM) HG.out
                subst hf
                go_wp2_with (go_at_call 75; refine (HHa.out).mono ?_; rintro e w5 ⟨rfl, hb5⟩; have HB5 := Lib.hid (bthen HBw.out hb5); clear hb5)
                go_ret
                exact ⟨rfl, HB5.out⟩
            · obtain rfl : q = pn := by omega
              have t5 : decide ((q : Int) < (q : Int)) = false := by simp
              have t5' : decide (q < q) = false := by simp
              have HMu2 : Hid (∀ k (hk : k < A.length), k < j + 1 → ∀ t ∈ A[k].mustL, hasS L t = true) := Lib.hid (fun k h1 h3 => by
                by_cases hk : k < j
                · exact HMu.out k h1 hk
                · obtain rfl : k = j := by omega
                  intro t ht
                  obtain ⟨i, hi, rfl⟩ := List.getElem_of_mem ht
                  exact HAll.out i hi (by rw [HPn.out]; exact hi))
              have HX := Lib.hid (HBx.out.below HBq.out (by omega))
              obtain ⟨p0, p1, p2, p3, p4⟩ := HX.out.cells
              have HI1 := Lib.hid ((ownS_isT HOwn.out (by unfold maxLen; have := HLn.out; omega)).below HBr.out HBr.out.size)
              have HI2 := Lib.hid (HT1.out.below HB0.out HB0.out.size)
              have HI3 := Lib.hid (HT2.out.below HB0.out HB0.out.size)
              have hU : [mayC (A.take j), A[j].mustL, A[j].mayL].flatten.length ≤ 100000 := by
                have := HLn.out; have := HPn.out; have := HQn.out
                simp; omega
              have HU2 := Lib.hid hU
              have HFl : Hid ([mayC (A.take j), A[j].mustL, A[j].mayL].flatten = mayC (A.take (j + 1))) := Lib.hid (by rw [mayC_take A j hlA]; simp)
              have hba2 : Below wr.heap.size wr (wr.alloc (.cells #[.slice la ln lc, .slice pa q pc, .slice qa qn qc] 27)) := (Below.refl _ _).alloc (Nat.le_refl _) _
              have HB8 := Lib.hid (bthen HB0.out hba2)
              clear hU hba2
              go_wp2_with (go_at_call 79; refine (concat_any [mayC (A.take j), A[j].mustL, A[j].mayL] HU2.out (by simp) _ _ (isTT_three (n0 := 0) HI1.out HI2.out HI3.out 27)).mono ?_; rintro e w6 ⟨v6, rfl, ho6, hb6⟩; (rw [HFl.out] at ho6); (obtain ⟨ra, rc, hrv⟩ := ownS_slice ho6); subst hrv; have HO6 := Lib.hid (ownS_lower (B' := w3.heap.size) ho6 HB8.out.size); have HB6 := Lib.hid (bthen HB8.out hb6); clear ho6 hb6)
              go_roundw
              case rel => exact ⟨j + 1, by omega, by go_num, HMu2, HO6.out, HB6.out⟩
              case measure => simp [intOf]; omega
        · obtain rfl : j = m := by omega
          have t3 : decide ((j : Int) < (j : Int)) = false := by simp
          have t3' : decide (j < j) = false := by simp
          have HTk : Hid (A.take j = A) := Lib.hid (by rw [HM.out, List.take_length])
          have HMay : Hid (IsT wo.heap.size wo (mayC A) (.slice la ln lc)) := Lib.hid (by have := ownS_isT HOwn.out (by unfold maxLen; have := HLn.out; omega); rwa [HTk.out] at this)
          have HMust : Hid (∀ c ∈ A, ∀ t ∈ c.mustL, hasS L t = true) := Lib.hid (fun c hc => by
            obtain ⟨k, hk, rfl⟩ := List.getElem_of_mem hc
            exact HMu.out k hk (by rw [HM.out]; exact hk))
          clear hbel
          go_wp2
          go_loopw [48] (fun i wr => ∃ (q : Nat), q ≤ n ∧ i = .int .i64 q ∧ Hid (∀ k (hk : k < L.length), k < q → (mayC A).contains L[k].1 = true) ∧ Below wo.heap.size wo wr) (fun i wr => n - (intOf i).toNat)
          case atStart => exact ⟨0, by omega, rfl, Lib.hid (fun k _ h => absurd h (by omega)), Below.refl _ _⟩
          case round =>
            obtain ⟨q, hq, rfl, HAll, hbq⟩ := hrel
            have HBq := Lib.hid hbq
            have hbqs := hbq.size
            by_cases hlt : q < n
            · have t5 : decide ((q : Int) < (n : Int)) = true := by simp; omega
              have t5' : decide (q < n) = true := by simpa using hlt
              have hlL : q < L.length := by rw [← HN.out]; exact hlt
              obtain ⟨b, off, u, hae, hb0, c0, c1, ht⟩ := HC.out q hlL
              subst hae
              obtain ⟨ua, uc, hu, _⟩ := id ht
              obtain ⟨un, hun⟩ : ∃ k, k = L[q].2.length := ⟨_, rfl⟩
              rw [← hun] at hu
              subst hu
              obtain ⟨X, hX⟩ : ∃ X : ByteArray, ⟨L[q].1.toArray⟩ = X := ⟨_, rfl⟩
              have hXl : X.data.toList = L[q].1 := by rw [← hX]
              have hbw : Below w.heap.size w wr := (bthen HB3.out HBel.out).trans (HBq.out.mono (Nat.le_trans HB3.out.size HBel.out.size))
              have d0 : (wr.cell? ⟨b, off + q * 2, none⟩) = some (.string X) := by
                rw [hbw.cell (p := ⟨b, _, none⟩) hb0, c0, ← hX]; rfl
              have d1 := (hbw.cell (p := ⟨b, off + q * 2 + 1, none⟩) hb0).trans c1
              have HA := Lib.hid (Below.alloc HBq.out hbqs (.cells #[.string X, .slice ua un uc] 42))
              have HCo := Lib.hid (containsS_any (mayC A) (.slice la ln lc) X _ (HMay.out.below HA.out HA.out.size))
              rw [hXl] at HCo
              obtain ⟨g, hg⟩ : ∃ g, (mayC A).contains L[q].1 = g := ⟨_, rfl⟩
              rw [hg] at HCo
              have HG := Lib.hid hg
              clear hun hX hXl c0 c1 ht hbq hbw hg
              cases g with
              | true =>
                have HA2 : Hid (∀ k (hk : k < L.length), k < q + 1 → (mayC A).contains L[k].1 = true) := Lib.hid (fun k h1 h3 => by
                  by_cases hk : k < q
                  · exact HAll.out k h1 hk
                  · obtain rfl : k = q := by omega
                    exact HG.out)
                go_wp2_with (go_at_call 80; refine (HCo.out).mono ?_; rintro e w5 ⟨rfl, rfl⟩)
                go_roundw
                case rel => exact ⟨q + 1, by omega, by go_num, HA2, HA.out⟩
                case measure => simp [intOf]; omega
              | false =>
                have hf : R = false := by rw [HR.out]; exact classed_may HQ.out (List.getElem_mem hlL) HG.out
                subst hf
                go_wp2_with (go_at_call 80; refine (HCo.out).mono ?_; rintro e w5 ⟨rfl, rfl⟩)
                go_ret
                exact ⟨rfl, (bthen HB3.out HBel.out).trans (HA.out.mono (Nat.le_trans HB3.out.size HBel.out.size))⟩
            · obtain rfl : q = n := by omega
              have t5 : decide ((q : Int) < (q : Int)) = false := by simp
              have t5' : decide (q < q) = false := by simp
              have hf : R = true := by
                rw [HR.out]
                exact classed_is HQ.out HMust.out (fun a ha => by
                  obtain ⟨k, hk, rfl⟩ := List.getElem_of_mem ha
                  exact HAll.out k hk (by rw [HN.out]; exact hk))
              subst hf
              clear hbq
              go_wp2
              go_ret
              exact ⟨rfl, (bthen HB3.out HBel.out).trans (HBq.out.mono (Nat.le_trans HB3.out.size HBel.out.size))⟩
end Go.Proofs.YtofmpaphafhdpaaGreatDoor

/- schema.Check: the walk. -/
namespace Go.Proofs.YtofmpaphafhdpaaGreatDoor
open Go.RowKit
set_option linter.unusedVariables false

/-- An entry in a block of its own. -/
def BoxN (w : World) (b : Nat) (x : ByteArray) (u : Value) : Prop := w.heap[b]? = some (.cells #[.string x, u] 24 (0, 0))
theorem BoxN.below {w w' : World} {b n : Nat} {x : ByteArray} {u : Value} (h : BoxN w b x u) (hb : Below n w w') (hn : b < n) : BoxN w' b x u := (hb.block b hn).trans h
theorem BoxN.cells {w : World} {b : Nat} {x : ByteArray} {u : Value} (h : BoxN w b x u) : w.cell? ⟨b, 0, none⟩ = some (.string x) ∧ w.cell? ⟨b, 1, none⟩ = some u := by
  unfold BoxN at h
  simp [World.cell?, h]
theorem boxN_new (w : World) (x : ByteArray) (u : Value) : BoxN (w.alloc (.cells #[.string x, u] 24)) w.heap.size x u := heap_alloc_new w _

theorem norm_short {r : Nat} {v x : List UInt8} (h : normD r v = some x) : v.length ≤ 100 := by
  unfold normD at h
  split at h
  · cases h
  · rename_i hn
    have := not_or.1 hn
    omega
theorem norms_short {r : Nat} : ∀ {V l : List (List UInt8)}, normsS r V = some l → ∀ v ∈ V, v.length ≤ 100
  | [], l, h, v, hv => by simp at hv
  | x :: V, l, h, v, hv => by
    simp only [normsS] at h
    cases e : normD r x with
    | none => rw [e] at h; cases h
    | some y =>
      rw [e] at h
      cases e2 : normsS r V with
      | none => rw [e2] at h; cases h
      | some m =>
        rcases List.mem_cons.1 hv with rfl | hv
        · exact norm_short e
        · exact norms_short e2 v hv
theorem most_le (t : List UInt8) : mostS t ≤ 40 := by unfold mostS; split <;> omega
theorem vals_small {t : List UInt8} {V : List (List UInt8)} (h : valsC t V = 0) : V.length ≤ 40 ∧ ∀ v ∈ V, v.length ≤ 100 := by
  unfold valsC at h
  split at h
  · omega
  · rename_i hn
    have hm := most_le t
    have := not_or.1 hn
    refine ⟨by omega, ?_⟩
    cases e : normsS (ruleD t) V with
    | none => rw [e] at h; simp at h
    | some l => exact norms_short e
def soundS (A : List AT) : Prop := ∀ a ∈ A, a.2.length ≤ 40 ∧ ∀ v ∈ a.2, v.length ≤ 100
theorem sound_small : ∀ {L A B : List AT}, soundR A L = .ok B → soundS A → soundS B ∧ B.length ≤ A.length + L.length
  | [], A, B, h, hA => by simp only [soundR, Except.ok.injEq] at h; subst h; exact ⟨hA, by simp⟩
  | a :: l, A, B, h, hA => by
    simp only [soundR] at h
    cases e : canonD a.1 with
    | none => rw [e] at h; simp at h
    | some t =>
      rw [e] at h
      simp only at h
      split at h
      · simp at h
      · split at h
        · rename_i h0
          have := sound_small h (fun x hx => (List.mem_append.1 hx).elim (hA x) (fun hx => by
            rw [List.mem_singleton] at hx
            rw [hx]
            exact vals_small h0))
          exact ⟨this.1, by have := this.2; simp at this ⊢; omega⟩
        · simp at h
theorem vals_of_small {A : List AT} (h : soundS A) (t : List UInt8) : smallT (valsS A t) := by
  unfold valsS
  split
  · rename_i a ha
    have := h a (List.mem_of_find?_eq_some ha)
    exact ⟨by omega, fun v hv => by have := this.2 v hv; omega⟩
  · exact ⟨by simp, fun v hv => by simp at hv⟩
theorem key_parts {d k : List UInt8} (h : keyD d = some k) (hk : k ≠ []) : ∃ r rs, parseD d = some (r :: rs) := by
  rw [keyD_eq] at h
  cases e : parseD d with
  | none => rw [e] at h; cases h
  | some l =>
    cases l with
    | nil =>
      rw [e] at h
      exact absurd (by
        simp only [Option.bind_some, keyL] at h
        simpa [textD] using h.symm) hk
    | cons r rs => exact ⟨r, rs, rfl⟩
theorem check_none {d : List UInt8} {L : List AT} (h : keyD d = none) : checkD d L = 34 := by unfold checkD; rw [h]
theorem check_empty {d : List UInt8} {L : List AT} (h : keyD d = some []) : checkD d L = 34 := by unfold checkD; rw [h]; rfl
theorem check_many {d k : List UInt8} {L : List AT} (h : keyD d = some k) (hk : k ≠ []) (hl : 20 < L.length) : checkD d L = 19 := by unfold checkD; rw [h]; simp only; rw [if_neg hk, if_pos hl]
theorem check_sound {d k : List UInt8} {L : List AT} (h : keyD d = some k) (hk : k ≠ []) (hl : ¬ 20 < L.length) {c : Int} (hs : soundR [] L = .error c) : checkD d L = c := by unfold checkD; rw [h]; simp only; rw [if_neg hk, if_neg hl, hs]
theorem check_behind {d k : List UInt8} {L A : List AT} (h : keyD d = some k) (hk : k ≠ []) (hl : ¬ 20 < L.length) (hs : soundR [] L = .ok A) : checkD d L = behindD A d := by unfold checkD; rw [h]; simp only; rw [if_neg hk, if_neg hl, hs]

set_option maxRecDepth 100000 in
set_option maxHeartbeats 8000000 in
theorem checkE_any (D : ByteArray) (hD : D.size ≤ 1000000) (L : List AT) (v : Value) (w : World) (hw : LaidW w) (hl : LaidF w) (h : IsA w.heap.size w L v) :
    Calls Tryz.prog 13 #[.agg #[.string D, v]] w fun e w' => e = .returned (.int .i64 (checkD D.data.toList L)) ∧ Below w.heap.size w w' := by
  obtain ⟨R, hR⟩ : ∃ R, R = checkD D.data.toList L := ⟨_, rfl⟩
  rw [← hR]
  have hke := fun w => key_any D (by omega) w
  obtain ⟨sa, sc, hv, hmx, _⟩ := id h
  obtain ⟨n, hn⟩ : ∃ n, n = L.length := ⟨_, rfl⟩
  rw [← hn] at hv hmx
  unfold maxLen at hmx
  subst hv
  have HI := Lib.hid h
  have HN := Lib.hid hn
  have HR := Lib.hid hR
  have hb0 : Below w.heap.size w (w.alloc (.cells #[.string D, .slice sa n sc] 24)) := (Below.refl _ _).alloc (Nat.le_refl _) _
  have HB0 := Lib.hid hb0
  have HBx := Lib.hid (boxN_new w D (.slice sa n sc))
  have HW := Lib.hid hw
  have HF := Lib.hid hl
  clear h hn hR hb0 hw hl
  cases hq : keyD D.data.toList with
  | none =>
    have hf : R = 34 := by rw [HR.out, check_none hq]
    subst hf
    rw [hq] at hke
    simp only [keyV] at hke
    have HK := Lib.hid hke
    clear hke hq HR
    go_enter Tryz.func13, Tryz.ntmps13
    go_wp2_with (go_at_call 37; refine (HK.out _).mono ?_; rintro e w2 ⟨rfl, hb2⟩; have HB2 := Lib.hid (HB0.out.trans (hb2.mono HB0.out.size)); clear hb2)
    go_ret
    exact ⟨rfl, HB2.out⟩
  | some k =>
    rw [hq] at hke
    simp only [keyV] at hke
    by_cases hk : k = []
    · subst hk
      have hf : R = 34 := by rw [HR.out, check_empty hq]
      subst hf
      have HK := Lib.hid hke
      clear hke hq HR
      go_enter Tryz.func13, Tryz.ntmps13
      go_wp2_with (go_at_call 37; refine (HK.out _).mono ?_; rintro e w2 ⟨rfl, hb2⟩; have HB2 := Lib.hid (HB0.out.trans (hb2.mono HB0.out.size)); clear hb2)
      go_ret
      exact ⟨rfl, HB2.out⟩
    · obtain ⟨K, hK⟩ : ∃ K : ByteArray, K = ⟨k.toArray⟩ := ⟨_, rfl⟩
      have hKl : K.data.toList = k := by rw [hK]
      rw [← hK] at hke
      have hne : K ≠ ⟨#[]⟩ := fun e => hk (by rw [← hKl, e])
      have e1 := str_ne hne
      have e2 : (K.toList == []) = false := by
        have h2 : K.toList ≠ [] := by rw [ByteArray.toList_eq, hKl]; exact hk
        simpa using h2
      have e3 : K.toList.isEmpty = false := by
        have h2 : K.toList ≠ [] := by rw [ByteArray.toList_eq, hKl]; exact hk
        simpa [List.isEmpty_iff] using h2
      have e4 : (K.toList = []) = False := by
        have h2 : K.toList ≠ [] := by rw [ByteArray.toList_eq, hKl]; exact hk
        simpa using h2
      have HK := Lib.hid hke
      have HQ := Lib.hid hq
      have HKk := Lib.hid hk
      clear hke hq hk hK hKl hne
      by_cases hm : 20 < n
      · have hf : R = 19 := by rw [HR.out, check_many HQ.out HKk.out (by rw [← HN.out]; exact hm)]
        subst hf
        have t1 : decide ((20 : Int) < (n : Int)) = true := by simp; omega
        have t1' : decide (20 < n) = true := by simpa using hm
        clear HR
        go_enter Tryz.func13, Tryz.ntmps13
        go_wp2_with (go_at_call 37; refine (HK.out _).mono ?_; rintro e w2 ⟨rfl, hb2⟩; have HX2 := Lib.hid (HBx.out.below hb2 (by simp)); (obtain ⟨f0, f1⟩ := HX2.out.cells); have HB2 := Lib.hid (HB0.out.trans (hb2.mono HB0.out.size)); clear hb2)
        go_ret
        exact ⟨rfl, HB2.out⟩
      · have t1 : decide ((20 : Int) < (n : Int)) = false := by simp; omega
        have t1' : decide (20 < n) = false := by simpa using hm
        have hL20 : ¬ 20 < L.length := by rw [← HN.out]; exact hm
        have hso := fun (W : World) (q : LaidW W) (q2 : IsA W.heap.size W L (.slice sa n sc)) => sound_any L (by omega) (.slice sa n sc) W q q2
        cases hs : soundR [] L with
        | error c =>
          have hc0 := sound_err hs
          rw [hs] at hso
          have hf : R = c := by rw [HR.out, check_sound HQ.out HKk.out hL20 hs]
          subst hf
          have t2 : (R != 0) = true := by simpa using hc0
          have HSo := Lib.hid hso
          clear HR hso hs hL20 hc0
          go_enter Tryz.func13, Tryz.ntmps13
          go_wp2_with (first
            | (go_at_call 37; refine (HK.out _).mono ?_; rintro e w2 ⟨rfl, hb2⟩; have HX2 := Lib.hid (HBx.out.below hb2 (by simp)); (obtain ⟨f0, f1⟩ := HX2.out.cells); have HB2 := Lib.hid (HB0.out.trans (hb2.mono HB0.out.size)); clear hb2)
            | (go_at_call 38; refine (HSo.out _ (HW.out.below HB2.out) (HI.out.below HB2.out HB2.out.size)).mono ?_; rintro e w3 hsw; (simp only [SoundW] at hsw); (obtain ⟨hb3, rfl⟩ := hsw); have HB3 := Lib.hid (bthen HB2.out hb3); clear hb3))
          go_ret
          exact ⟨rfl, HB3.out⟩
        | ok A =>
          rw [hs] at hso
          obtain ⟨hsm, hAl⟩ := sound_small hs (fun a ha => by simp at ha)
          have hf : R = behindD A D.data.toList := by rw [HR.out, check_behind HQ.out HKk.out hL20 hs]
          obtain ⟨r, rs, hp⟩ := key_parts HQ.out HKk.out
          have hAl2 : A.length ≤ 20 := by simp at hAl; omega
          obtain ⟨an, han⟩ : ∃ k, k = A.length := ⟨_, rfl⟩
          rw [← han] at hAl2
          have HAn := Lib.hid han
          have hcl := fun (u : Value) (W : World) (q : LaidF W) (q2 : IsA W.heap.size W A u) => isClassed_any A (by omega) (vals_of_small hsm objB) u W q q2
          have hnm := fun (u : Value) (W : World) (q : LaidW W) (q2 : IsA W.heap.size W A u) => isNamed_any A (by omega) D hD r rs hp u W q q2
          obtain ⟨c, hc⟩ : ∃ c, classedD A = c := ⟨_, rfl⟩
          obtain ⟨m, hm2⟩ : ∃ c, namedD A D.data.toList = c := ⟨_, rfl⟩
          unfold behindD at hf
          rw [hc, hm2] at hf
          rw [hc] at hcl
          rw [hm2] at hnm
          have HSo := Lib.hid hso
          have HCl := Lib.hid hcl
          have HNm := Lib.hid hnm
          clear HR hso hs hL20 hsm hAl hp han hcl hnm hc hm2
          cases c with
          | false =>
            simp only [if_true] at hf
            subst hf
            go_enter Tryz.func13, Tryz.ntmps13
            go_wp2_with (first
              | (go_at_call 37; refine (HK.out _).mono ?_; rintro e w2 ⟨rfl, hb2⟩; have HX2 := Lib.hid (HBx.out.below hb2 (by simp)); (obtain ⟨f0, f1⟩ := HX2.out.cells); have hz2 := hb2.size; (simp only [World.size_alloc] at hz2); have HB2 := Lib.hid (HB0.out.trans (hb2.mono HB0.out.size)); clear hb2)
              | (go_at_call 38; refine (HSo.out _ (HW.out.below HB2.out) (HI.out.below HB2.out HB2.out.size)).mono ?_; rintro e w3 hsw; (simp only [SoundW] at hsw); (obtain ⟨hb3, u, rfl, ho3⟩ := hsw); (obtain ⟨ua, uc, hue⟩ := ownV_slice ho3); (rw [← HAn.out] at hue); subst hue; have HB3 := Lib.hid (bthen HB2.out hb3); have HA3 := Lib.hid (ownV_isA ho3 (by unfold maxLen; have := HAn.out; omega) hb3.size); clear hb3 ho3)
              | (go_at_call 39; refine (HCl.out _ _ (HF.out.below HB3.out) HA3.out).mono ?_; rintro e w4 ⟨rfl, hb4⟩; have HB4 := Lib.hid (bthen HB3.out hb4); clear hb4))
            go_ret
            exact ⟨rfl, HB4.out⟩
          | true =>
            simp only [Bool.true_eq_false, if_false] at hf
            cases m with
            | false =>
              simp only [if_true] at hf
              subst hf
              go_enter Tryz.func13, Tryz.ntmps13
              go_wp2_with (first
                | (go_at_call 37; refine (HK.out _).mono ?_; rintro e w2 ⟨rfl, hb2⟩; have HX2 := Lib.hid (HBx.out.below hb2 (by simp)); (obtain ⟨f0, f1⟩ := HX2.out.cells); have hz2 := hb2.size; (simp only [World.size_alloc] at hz2); have HB2 := Lib.hid (HB0.out.trans (hb2.mono HB0.out.size)); clear hb2)
                | (go_at_call 38; refine (HSo.out _ (HW.out.below HB2.out) (HI.out.below HB2.out HB2.out.size)).mono ?_; rintro e w3 hsw; (simp only [SoundW] at hsw); (obtain ⟨hb3, u, rfl, ho3⟩ := hsw); (obtain ⟨ua, uc, hue⟩ := ownV_slice ho3); (rw [← HAn.out] at hue); subst hue; have HX3 := Lib.hid (HX2.out.below hb3 (by omega)); have hz3 := hb3.size; have HB3 := Lib.hid (bthen HB2.out hb3); have HA3 := Lib.hid (ownV_isA ho3 (by unfold maxLen; have := HAn.out; omega) hb3.size); clear hb3 ho3)
                | (go_at_call 39; refine (HCl.out _ _ (HF.out.below HB3.out) HA3.out).mono ?_; rintro e w4 ⟨rfl, hb4⟩; have HX4 := Lib.hid (HX3.out.below hb4 (by omega)); (obtain ⟨k0, k1⟩ := HX4.out.cells); have HB4 := Lib.hid (bthen HB3.out hb4); have HA4 := Lib.hid (HA3.out.below hb4 hb4.size); clear hb4)
                | (go_at_call 40; refine (HNm.out _ _ (HW.out.below HB4.out) HA4.out).mono ?_; rintro e w5 ⟨rfl, hb5⟩; have HB5 := Lib.hid (bthen HB4.out hb5); clear hb5))
              go_ret
              exact ⟨rfl, HB5.out⟩
            | true =>
              simp only [Bool.true_eq_false, if_false] at hf
              subst hf
              go_enter Tryz.func13, Tryz.ntmps13
              go_wp2_with (first
                | (go_at_call 37; refine (HK.out _).mono ?_; rintro e w2 ⟨rfl, hb2⟩; have HX2 := Lib.hid (HBx.out.below hb2 (by simp)); (obtain ⟨f0, f1⟩ := HX2.out.cells); have hz2 := hb2.size; (simp only [World.size_alloc] at hz2); have HB2 := Lib.hid (HB0.out.trans (hb2.mono HB0.out.size)); clear hb2)
                | (go_at_call 38; refine (HSo.out _ (HW.out.below HB2.out) (HI.out.below HB2.out HB2.out.size)).mono ?_; rintro e w3 hsw; (simp only [SoundW] at hsw); (obtain ⟨hb3, u, rfl, ho3⟩ := hsw); (obtain ⟨ua, uc, hue⟩ := ownV_slice ho3); (rw [← HAn.out] at hue); subst hue; have HX3 := Lib.hid (HX2.out.below hb3 (by omega)); have hz3 := hb3.size; have HB3 := Lib.hid (bthen HB2.out hb3); have HA3 := Lib.hid (ownV_isA ho3 (by unfold maxLen; have := HAn.out; omega) hb3.size); clear hb3 ho3)
                | (go_at_call 39; refine (HCl.out _ _ (HF.out.below HB3.out) HA3.out).mono ?_; rintro e w4 ⟨rfl, hb4⟩; have HX4 := Lib.hid (HX3.out.below hb4 (by omega)); (obtain ⟨k0, k1⟩ := HX4.out.cells); have HB4 := Lib.hid (bthen HB3.out hb4); have HA4 := Lib.hid (HA3.out.below hb4 hb4.size); clear hb4)
                | (go_at_call 40; refine (HNm.out _ _ (HW.out.below HB4.out) HA4.out).mono ?_; rintro e w5 ⟨rfl, hb5⟩; have HB5 := Lib.hid (bthen HB4.out hb5); clear hb5))
              go_ret
              exact ⟨rfl, HB5.out⟩
end Go.Proofs.YtofmpaphafhdpaaGreatDoor

/- The document's Among, attr, Vals, Has: the walks. -/
namespace Go.Proofs.YtofmpaphafhdpaaGreatDoor
open Go.RowKit
set_option linter.unusedVariables false

set_option maxRecDepth 100000 in
set_option maxHeartbeats 2000000 in
theorem amongRef_any (L : List (List UInt8)) (v : Value) (T : ByteArray) (w : World) (h : IsT w.heap.size w L v) :
    Calls Tryz.prog 87 #[v, .string T] w fun e w' => e = .returned (.bool (L.contains T.data.toList)) ∧ w = w' := by
  obtain ⟨a, c, rfl, hm, hcell⟩ := h
  unfold maxLen at hm
  have HC := Lib.hid hcell
  obtain ⟨R, hR⟩ : ∃ R, R = L.contains T.data.toList := ⟨_, rfl⟩
  rw [← hR]
  have HRR := Lib.hid hR
  clear hcell hR
  go_enter Tryz.func87, Tryz.ntmps87
  go_wp2
  go_loopw [5] (fun i wr => ∃ j : Nat, j ≤ L.length ∧ i = .int .i64 j ∧ Hid (∀ k (hk : k < L.length), k < j → L[k] ≠ T.data.toList) ∧ w = wr) (fun i wr => L.length - (intOf i).toNat)
  case atStart => exact ⟨0, by omega, rfl, Lib.hid (fun k _ h => absurd h (by omega)), rfl⟩
  case round =>
    obtain ⟨j, hj, rfl, HNo, rfl⟩ := hrel
    by_cases hlt : j < L.length
    · have t1 : decide ((j : Int) < (L.length : Int)) = true := by simp; omega
      have t1' : decide (j < L.length) = true := by simpa using hlt
      obtain ⟨b, off, rfl, hb0, c0⟩ := HC.out j hlt
      obtain ⟨X, hX⟩ : ∃ X : ByteArray, ⟨L[j].toArray⟩ = X := ⟨_, rfl⟩
      have hXl : X.data.toList = L[j] := by rw [← hX]
      have d0 : (w.cell? ⟨b, off + j, none⟩) = some (.string X) := by
        rw [c0, ← hX]; rfl
      by_cases he : X = T
      · have HR : Hid (R = true) := Lib.hid (by rw [HRR.out, List.contains_iff_mem, ← he, hXl]; exact List.getElem_mem _)
        subst he
        clear hX hXl c0 HNo
        go_wp2
        go_ret
        exact ⟨by rw [HR.out]; rfl, rfl⟩
      · have t2 := str_ne he
        have HN : Hid (∀ k (hk : k < L.length), k < j + 1 → L[k] ≠ T.data.toList) := Lib.hid (fun k h1 h3 => by
            by_cases hk : k < j
            · exact HNo.out k h1 hk
            · obtain rfl : k = j := by omega
              rw [← hXl]
              exact fun e => he (bytes_ext e))
        clear he hX hXl c0 HNo
        go_wp2
        go_roundw
        case rel => exact ⟨j + 1, by omega, by go_num, HN, by first | rfl | trivial⟩
        case measure => simp [intOf]; omega
    · obtain rfl : j = L.length := by omega
      have t1 : decide ((L.length : Int) < (L.length : Int)) = false := by simp
      have t1' : decide (L.length < L.length) = false := by simp
      have HR : Hid (R = false) := Lib.hid (by
        rw [HRR.out, Bool.eq_false_iff, Ne, List.contains_iff_mem]
        intro hx
        obtain ⟨k, hk, e⟩ := List.getElem_of_mem hx
        exact HNo.out k hk hk e)
      go_wp2
      go_ret
      exact ⟨by rw [HR.out]; rfl, rfl⟩

/-- I is the place of the first attribute of a type, or below nought. -/
def AttrP (L : List AT) (t : List UInt8) (I : Int) : Prop := (∃ j, ∃ h : j < L.length, I = (j : Int) ∧ (low L[j].1 == low t) = true ∧ ∀ k (hk : k < L.length), k < j → (low L[k].1 == low t) = false) ∨ (I = -1 ∧ ∀ k (hk : k < L.length), (low L[k].1 == low t) = false)
set_option maxRecDepth 100000 in
set_option maxHeartbeats 4000000 in
theorem attrRef_any (D t : ByteArray) (ht : t.size ≤ 281474976710656) (L : List AT) (hs : smallA L) (v : Value) (w : World) (h : IsA w.heap.size w L v) :
    Calls Tryz.prog 55 #[.agg #[.string D, v], .string t] w fun e w' => ∃ I, e = .returned (.int .i64 I) ∧ AttrP L t.data.toList I ∧ Below w.heap.size w w' := by
  obtain ⟨a, c, hv, hm, hcell⟩ := h
  obtain ⟨n, hn⟩ : ∃ n, n = L.length := ⟨_, rfl⟩
  rw [← hn] at hv hm
  subst hv
  unfold maxLen at hm
  have hbx := boxN_new w D (.slice a n c)
  have HN := Lib.hid hn
  have HC := Lib.hid hcell
  have HS := Lib.hid hs
  have HBx := Lib.hid hbx
  have hB0 : Below w.heap.size w (w.alloc (.cells #[.string D, .slice a n c] 24)) := (Below.refl _ _).alloc (Nat.le_refl _) _
  have HB0 := Lib.hid hB0
  have HLt := Lib.hid (fun W => lowerRef_any t W ht)
  obtain ⟨T, hT⟩ : ∃ T, T = lowB t := ⟨_, rfl⟩
  have hTl : T.data.toList = low t.data.toList := by rw [hT, lowB_list]
  rw [← hT] at HLt
  have HTl := Lib.hid hTl
  clear hcell hn hs hbx hB0 hT hTl
  go_enter Tryz.func55, Tryz.ntmps55
  go_wp2
  go_loopw [5] (fun i wr => ∃ j : Nat, j ≤ n ∧ i = .int .i64 j ∧ Hid (∀ k (hk : k < L.length), k < j → (low L[k].1 == low t.data.toList) = false) ∧ Below (w.alloc (.cells #[.string D, .slice a n c] 24)).heap.size (w.alloc (.cells #[.string D, .slice a n c] 24)) wr) (fun i wr => n - (intOf i).toNat)
  case atStart => exact ⟨0, by omega, rfl, Lib.hid (fun k _ h => absurd h (by omega)), Below.refl _ _⟩
  case round =>
    obtain ⟨j, hj, rfl, HNo, hbel⟩ := hrel
    have HBel := Lib.hid (HB0.out.trans (hbel.mono HB0.out.size))
    obtain ⟨x0, x1⟩ := (HBx.out.below hbel (by simp)).cells
    have HBe := Lib.hid hbel
    have hbs := hbel.size
    clear hbel
    by_cases hlt : j < n
    · have t1 : decide ((j : Int) < (n : Int)) = true := by simp; omega
      have t1' : decide (j < n) = true := by simpa using hlt
      have hlL : j < L.length := by rw [← HN.out]; exact hlt
      obtain ⟨b, off, u, rfl, hb0, c0, c1, _⟩ := HC.out j hlL
      obtain ⟨X, hX⟩ : ∃ X : ByteArray, ⟨L[j].1.toArray⟩ = X := ⟨_, rfl⟩
      have hXl : X.data.toList = L[j].1 := by rw [← hX]
      have d0 : (wr.cell? ⟨b, off + j * 2, none⟩) = some (.string X) := by
        rw [HBel.out.cell (p := ⟨b, _, none⟩) hb0, c0, ← hX]; rfl
      have hXs : X.size ≤ 281474976710656 := by
        have := (HS.out.2 L[j] (List.getElem_mem _)).1
        rw [← bytes_len, hXl]; omega
      have HLx := Lib.hid (fun W => lowerRef_any X W hXs)
      obtain ⟨Y, hY⟩ : ∃ Y, Y = lowB X := ⟨_, rfl⟩
      have hYl : Y.data.toList = low L[j].1 := by rw [hY, lowB_list, hXl]
      rw [← hY] at HLx
      by_cases he : Y = T
      · have HR : Hid ((low L[j].1 == low t.data.toList) = true) := Lib.hid (by rw [← hYl, ← HTl.out, he]; simp)
        subst he
        clear hX hXl c0 c1 hY hYl
        go_wp2_with (first
          | (go_at_call 36; ((with_reducible refine (HLx.out _).mono ?_); rintro e w2 ⟨rfl, hb2⟩); have HB2 := Lib.hid (HBel.out.trans (hb2.mono HBel.out.size)); clear hb2)
          | (go_at_call 36; ((with_reducible refine (HLt.out _).mono ?_); rintro e w3 ⟨rfl, hb3⟩); have HB3 := Lib.hid (bthen HB2.out hb3); clear hb3))
        go_ret
        exact ⟨_, rfl, .inl ⟨j, hlL, rfl, HR.out, HNo.out⟩, HB3.out⟩
      · have t2 := str_ne he
        have HN2 : Hid (∀ k (hk : k < L.length), k < j + 1 → (low L[k].1 == low t.data.toList) = false) := Lib.hid (fun k h1 h3 => by
            by_cases hk : k < j
            · exact HNo.out k h1 hk
            · obtain rfl : k = j := by omega
              rw [← hYl, ← HTl.out]
              exact by simpa using fun e => he (bytes_ext e))
        clear he hX hXl c0 c1 hY hYl HNo
        go_wp2_with (first
          | (go_at_call 36; ((with_reducible refine (HLx.out _).mono ?_); rintro e w2 ⟨rfl, hb2⟩); have HB2 := Lib.hid (HBe.out.trans (hb2.mono hbs)); clear hb2)
          | (go_at_call 36; ((with_reducible refine (HLt.out _).mono ?_); rintro e w3 ⟨rfl, hb3⟩); have HB3 := Lib.hid (HB2.out.trans (hb3.mono HB2.out.size)); clear hb3))
        go_roundw
        case rel => exact ⟨j + 1, by omega, by go_num, HN2, HB3.out⟩
        case measure => simp [intOf]; omega
    · obtain rfl : j = n := by omega
      have t1 : decide ((j : Int) < (j : Int)) = false := by simp
      have t1' : decide (j < j) = false := by simp
      go_wp2
      go_ret
      exact ⟨_, rfl, .inr ⟨rfl, fun k hk => HNo.out k hk (by rw [HN.out]; exact hk)⟩, HBel.out⟩

set_option maxRecDepth 100000 in
set_option maxHeartbeats 4000000 in
theorem valsRef_any (D t : ByteArray) (ht : t.size ≤ 281474976710656) (L : List AT) (hs : smallA L) (v : Value) (w : World) (h : IsA w.heap.size w L v) :
    Calls Tryz.prog 26 #[.agg #[.string D, v], .string t] w fun e w' => ∃ u, e = .returned u ∧ IsT w.heap.size w (findA L t.data.toList) u ∧ Below w.heap.size w w' := by
  obtain ⟨a, c, hv, hm, hcell⟩ := id h
  obtain ⟨n, hn⟩ : ∃ n, n = L.length := ⟨_, rfl⟩
  rw [← hn] at hv hm
  subst hv
  unfold maxLen at hm
  have hbx := boxN_new w D (.slice a n c)
  have hB0 : Below w.heap.size w (w.alloc (.cells #[.string D, .slice a n c] 24)) := (Below.refl _ _).alloc (Nat.le_refl _) _
  have HAt := Lib.hid (attrRef_any D t ht L hs (.slice a n c) (w.alloc (.cells #[.string D, .slice a n c] 24)) (h.below hB0 hB0.size))
  have HN := Lib.hid hn
  have HC := Lib.hid hcell
  have HBx := Lib.hid hbx
  have HB0 := Lib.hid hB0
  clear hcell hn hs hbx hB0 h
  go_enter Tryz.func26, Tryz.ntmps26
  go_upto_region 2 with (go_at_call 55; refine (HAt.out).mono ?_; rintro e w2 ⟨I, rfl, hI, hb2⟩; have HI := Lib.hid hI; have HB2 := Lib.hid (HB0.out.trans (hb2.mono HB0.out.size)); (obtain ⟨x0, x1⟩ := (HBx.out.below hb2 (by simp)).cells); clear hI hb2)
  rcases HI.out with ⟨j, hlL, rfl, h1, h2⟩ | ⟨rfl, h2⟩
  · obtain ⟨b, off, u, rfl, hb0, c0, c1, hit⟩ := HC.out j hlL
    have hlt : j < n := by rw [HN.out]; exact hlL
    have t1 : decide ((j : Int) < 0) = false := by simp
    have d1 := (HB2.out.cell (p := ⟨b, off + j * 2 + 1, none⟩) hb0).trans c1
    have HF := Lib.hid (findA_at j hlL h2 h1)
    have HIt := Lib.hid hit
    obtain ⟨ua, uc, hu, _⟩ := id hit
    obtain ⟨un, hun⟩ : ∃ k, k = L[j].2.length := ⟨_, rfl⟩
    rw [← hun] at hu
    subst hu
    clear h1 h2 HI c0 c1 hit hun
    go_wp2
    go_ret
    exact ⟨_, rfl, by rw [HF.out]; exact HIt.out, HB2.out⟩
  · have t1 : decide ((-1 : Int) < 0) = true := by decide
    have HF := Lib.hid (findA_no h2)
    clear h2 HI
    go_wp2
    go_ret
    exact ⟨_, rfl, by rw [HF.out]; exact isT_nil _ _ _ _, HB2.out⟩
end Go.Proofs.YtofmpaphafhdpaaGreatDoor

/- The document's Rule, Canon: the walks. -/
namespace Go.Proofs.YtofmpaphafhdpaaGreatDoor
open Go.RowKit
set_option linter.unusedVariables false

theorem kinds_mem {n : List UInt8} {k : List UInt8 × Nat} (h : findL n = some k) : k ∈ kindsL := List.mem_of_find?_eq_some h
theorem find_none_ne {n : List UInt8} (h : findL n = none) : ∀ k ∈ kindsL, n ≠ k.1 := by
  intro k hk e
  have := List.find?_eq_none.1 h k hk
  simp [e] at this
theorem ne_str {L : ByteArray} {l : List UInt8} (h : L.data.toList ≠ l) : (L.toList == l) = false := by
  rw [beq_eq_false_iff_ne, ByteArray.toList_eq]; exact h

set_option maxRecDepth 100000 in
set_option maxHeartbeats 4000000 in
theorem ruleRef_any (s : ByteArray) (hs : s.size ≤ 281474976710656) (w : World) : Calls Tryz.prog 31 #[.string s] w fun e w' => e = .returned (.int .i64 (ruleD s.data.toList)) ∧ Below w.heap.size w w' := by
  obtain ⟨L, hL⟩ : ∃ L, L = lowB s := ⟨_, rfl⟩
  have hLl : L.data.toList = low s.data.toList := by rw [hL, lowB_list]
  have hr : ruleD s.data.toList = ruleL L.data.toList := by unfold ruleD; rw [hLl]
  rw [hr]
  have hlo := fun w => lowerRef_any s w hs
  rw [← hL] at hlo
  clear hL hLl hr
  have HLo := Lib.hid hlo
  clear hlo
  cases hf : findL L.data.toList with
  | some k =>
    have hm := kinds_mem hf
    have he := (findL_len hf).1
    have hru : ruleL L.data.toList = k.2 := by unfold ruleL; rw [hf]
    rw [hru]
    clear hru hf
    have hLk : L = ⟨k.1.toArray⟩ := bytes_ext (by rw [← he])
    clear he
    subst hLk
    simp only [kindsL, List.mem_cons, List.not_mem_nil, or_false] at hm
    rcases hm with rfl | rfl | rfl | rfl | rfl | rfl | rfl | rfl | rfl | rfl | rfl
    all_goals
      go_enter Tryz.func31, Tryz.ntmps31
      go_wp2_with (go_at_call 36; refine (HLo.out _).mono ?_; rintro e w1 ⟨rfl, hb1⟩; have HB := Lib.hid hb1; clear hb1)
      go_ret
      exact ⟨rfl, HB.out⟩
  | none =>
    have hru : ruleL L.data.toList = 0 := by unfold ruleL; rw [hf]
    rw [hru]
    have hne := find_none_ne hf
    clear hru hf
    have q0 := ne_str (hne ([111, 98, 106, 101, 99, 116, 99, 108, 97, 115, 115], 1) (by simp [kindsL]))
    have q1 := ne_str (hne ([99, 110], 1) (by simp [kindsL]))
    have q2 := ne_str (hne ([115, 110], 1) (by simp [kindsL]))
    have q3 := ne_str (hne ([111], 1) (by simp [kindsL]))
    have q4 := ne_str (hne ([111, 117], 1) (by simp [kindsL]))
    have q5 := ne_str (hne ([117, 105, 100], 1) (by simp [kindsL]))
    have q6 := ne_str (hne ([109, 97, 105, 108], 1) (by simp [kindsL]))
    have q7 := ne_str (hne ([100, 101, 115, 99, 114, 105, 112, 116, 105, 111, 110], 1) (by simp [kindsL]))
    have q8 := ne_str (hne ([117, 105, 100, 110, 117, 109, 98, 101, 114], 2) (by simp [kindsL]))
    have q9 := ne_str (hne ([109, 101, 109, 98, 101, 114], 3) (by simp [kindsL]))
    have q10 := ne_str (hne ([117, 115, 101, 114, 112, 97, 115, 115, 119, 111, 114, 100], 4) (by simp [kindsL]))
    clear hne
    go_enter Tryz.func31, Tryz.ntmps31
    go_wp2_with (go_at_call 36; refine (HLo.out _).mono ?_; rintro e w1 ⟨rfl, hb1⟩; have HB := Lib.hid hb1; clear hb1)
    go_ret
    exact ⟨rfl, HB.out⟩

/-- A text, or none, in a block of its own. -/
def BoxS (w : World) (b : Nat) (x : ByteArray) (ok : Bool) : Prop := w.heap[b]? = some (.cells #[.string x, .bool ok] 72 (0, 0))
theorem BoxS.below {w w' : World} {b n : Nat} {x : ByteArray} {ok : Bool} (h : BoxS w b x ok) (hb : Below n w w') (hn : b < n) : BoxS w' b x ok := (hb.block b hn).trans h
theorem BoxS.cells {w : World} {b : Nat} {x : ByteArray} {ok : Bool} (h : BoxS w b x ok) : w.cell? ⟨b, 0, none⟩ = some (.string x) ∧ w.cell? ⟨b, 1, none⟩ = some (.bool ok) ∧ w.frozen? ⟨b, 0, none⟩ = false ∧ w.frozen? ⟨b, 1, none⟩ = false := by
  unfold BoxS at h
  simp [World.cell?, World.frozen?, h]
theorem boxS_new (w : World) (x : ByteArray) (ok : Bool) : BoxS (w.alloc (.cells #[.string x, .bool ok] 72)) w.heap.size x ok := heap_alloc_new w _
theorem BoxS.store {w : World} {b : Nat} {x : ByteArray} {ok : Bool} (h : BoxS w b x ok) (x' : ByteArray) (ok' : Bool) : BoxS ((w.setCell ⟨b, 0, none⟩ (.string x')).setCell ⟨b, 1, none⟩ (.bool ok')) b x' ok' := by
  unfold BoxS at h ⊢
  simp [World.setCell, Array.getElem?_modify, h]

def saidR (o : Option (List UInt8)) : Value := match o with
  | some k => .agg #[.string ⟨k.toArray⟩, .bool true]
  | none => .agg #[.string ⟨#[]⟩, .bool false]

set_option maxRecDepth 100000 in
set_option maxHeartbeats 4000000 in
theorem canonRef_any (s : ByteArray) (hs : s.size ≤ 281474976710656) (w : World) : Calls Tryz.prog 45 #[.string s] w fun e w' => e = .returned (saidR (canonD s.data.toList)) ∧ Below w.heap.size w w' := by
  obtain ⟨L, hL⟩ : ∃ L, L = lowB s := ⟨_, rfl⟩
  have hLl : L.data.toList = low s.data.toList := by rw [hL, lowB_list]
  have hLs : L.size ≤ 281474976710656 := by rw [hL, lowB_size]; exact hs
  have hru := fun w => ruleRef_any L hLs w
  have hlo := fun w => lowerRef_any s w hs
  rw [← hL] at hlo
  have hr : ruleD L.data.toList = ruleD s.data.toList := by rw [hLl, ruleD_low]
  simp only [hr] at hru
  have HR := Lib.hid hru
  have HLo := Lib.hid hlo
  clear hlo hru hr
  have HBox := Lib.hid (boxS_new w ⟨#[]⟩ false)
  cases hc : canonD s.data.toList with
  | none =>
    have h0 := (canon_rule _).1 hc
    rw [h0] at HR
    clear h0 hc hL hLl
    go_enter Tryz.func45, Tryz.ntmps45
    go_wp2_with (first | (go_at_call 36; refine (HLo.out _).mono ?_; rintro e w1 ⟨rfl, hb1⟩; have HB := Lib.hid (((Below.refl _ _).alloc (Nat.le_refl _) _).trans (hb1.mono (by simp))); have HX := Lib.hid (HBox.out.below hb1 (by simp)); have hz1 : w.heap.size < w1.heap.size := (by have := hb1.size; simp at this; omega); clear hb1) | (go_at_call 31; refine (HR.out _).mono ?_; rintro e w2 ⟨rfl, hb2⟩; have HB := Lib.hid (bthen HB.out hb2); have HX := Lib.hid (HX.out.below hb2 hz1); obtain ⟨k0, k1, l0, l1⟩ := HX.out.cells; clear hb2))
    obtain ⟨q0, q1, _, _⟩ := (HX.out.store ⟨#[]⟩ false).cells
    refine bodyPost_ret (v := .agg #[.string ⟨#[]⟩, .bool false]) (by simp [results, Tryz.results45, go_sem, q0, q1]) rfl ⟨rfl, ?_⟩
    exact (HB.out.setCell (Nat.le_refl _) _).setCell (Nat.le_refl _) _
  | some k =>
    obtain ⟨e1, e2, _⟩ := canon_eq hc
    have hr1 : ((ruleD s.data.toList : Nat) : Int) ≠ 0 := by omega
    have t0 : (((ruleD s.data.toList : Nat) : Int) == 0) = false := by simpa using hr1
    have hv : saidR (some k) = .agg #[.string L, .bool true] := by rw [e1, ← hLl]; simp [saidR]
    have HV := Lib.hid hv
    generalize ruleD s.data.toList = r at *
    clear hc e1 e2 hr1 hv hL hLl
    go_enter Tryz.func45, Tryz.ntmps45
    go_wp2_with (first | (go_at_call 36; refine (HLo.out _).mono ?_; rintro e w1 ⟨rfl, hb1⟩; have HB := Lib.hid (((Below.refl _ _).alloc (Nat.le_refl _) _).trans (hb1.mono (by simp))); have HX := Lib.hid (HBox.out.below hb1 (by simp)); have hz1 : w.heap.size < w1.heap.size := (by have := hb1.size; simp at this; omega); clear hb1) | (go_at_call 31; refine (HR.out _).mono ?_; rintro e w2 ⟨rfl, hb2⟩; have HB := Lib.hid (bthen HB.out hb2); have HX := Lib.hid (HX.out.below hb2 hz1); obtain ⟨k0, k1, l0, l1⟩ := HX.out.cells; clear hb2))
    obtain ⟨q0, q1, _, _⟩ := (HX.out.store L true).cells
    refine bodyPost_ret (v := .agg #[.string L, .bool true]) (by simp [results, Tryz.results45, go_sem, q0, q1]) rfl ⟨by rw [HV.out], ?_⟩
    exact (HB.out.setCell (Nat.le_refl _) _).setCell (Nat.le_refl _) _
end Go.Proofs.YtofmpaphafhdpaaGreatDoor

/- Numbers by their texts: no program. -/
namespace Go.Proofs.YtofmpaphafhdpaaGreatDoor
set_option linter.unusedVariables false

theorem decFrom_snoc (b : UInt8) : ∀ (l : List UInt8) (acc : Nat), Lib.decFrom acc (l ++ [b]) = (Lib.decFrom acc l).bind fun n => (Lib.digitVal b).map fun d => n * 10 + d
  | [], acc => by
    simp only [List.nil_append, Lib.decFrom, Option.bind_some]
    cases Lib.digitVal b <;> rfl
  | c :: l, acc => by
    simp only [List.cons_append, Lib.decFrom]
    cases Lib.digitVal c with
    | none => rfl
    | some d => exact decFrom_snoc b l _
theorem digitVal_dig (k : Nat) (h : k < 10) : Lib.digitVal (UInt8.ofNat (48 + k)) = some k := by
  have : (UInt8.ofNat (48 + k)).toNat = 48 + k := by simp; omega
  unfold Lib.digitVal
  rw [this, if_pos (by omega)]
  simp
theorem decFrom_dec (u : Nat) : Lib.decFrom 0 (Lib.decDigits u) = some u := by
  induction u using Nat.strongRecOn with
  | _ u ih =>
    by_cases h : u < 10
    · rw [Lib.decDigits_one h]
      simp only [Lib.decFrom, digitVal_dig u h, Nat.zero_mul, Nat.zero_add]
    · rw [Lib.decDigits, dif_neg h, decFrom_snoc, ih (u / 10) (by omega)]
      simp only [Option.bind_some, digitVal_dig _ (Nat.mod_lt u (by decide : 0 < 10)), Option.map_some]
      congr 1
      omega
theorem dec_ne (u : Nat) : Lib.decDigits u ≠ [] := by
  intro e
  have := Lib.decDigits_length u
  have h2 := Lib.nDigits_pos u
  rw [e] at this
  simp at this
  omega
theorem decNat_dec (u : Nat) : Lib.decNat (Lib.decDigits u) = some u := by
  unfold Lib.decNat
  cases h : Lib.decDigits u with
  | nil => exact absurd h (dec_ne u)
  | cons c r =>
    rw [← h]
    have : (Lib.decDigits u).isEmpty = false := by rw [h]; rfl
    rw [this]
    exact decFrom_dec u
/-- All are digits; the first one is none of 0 where there is more than one, or more than 0. -/
theorem dec_digits (u : Nat) : ∀ c ∈ Lib.decDigits u, 48 ≤ c.toNat ∧ c.toNat ≤ 57 := by
  induction u using Nat.strongRecOn with
  | _ u ih =>
    intro c hc
    by_cases h : u < 10
    · rw [Lib.decDigits_one h] at hc
      simp at hc
      subst hc
      simp; omega
    · rw [Lib.decDigits, dif_neg h] at hc
      rcases List.mem_append.1 hc with hc | hc
      · exact ih (u / 10) (by omega) c hc
      · simp at hc
        subst hc
        simp; omega
theorem dec_head (u : Nat) (h0 : 1 ≤ u) : ∀ c r, Lib.decDigits u = c :: r → c.toNat ≠ 48 := by
  induction u using Nat.strongRecOn with
  | _ u ih =>
    intro c r hc
    by_cases h : u < 10
    · rw [Lib.decDigits_one h] at hc
      simp at hc
      rw [← hc.1]
      simp; omega
    · rw [Lib.decDigits, dif_neg h] at hc
      cases hd : Lib.decDigits (u / 10) with
      | nil => exact absurd hd (dec_ne _)
      | cons x y =>
        rw [hd] at hc
        simp at hc
        rw [← hc.1]
        exact ih (u / 10) (by omega) (by omega) x y hd
theorem nDigits_le : ∀ (k u : Nat), u < 10 ^ (k + 1) → Lib.nDigits u ≤ k + 1
  | 0, u, h => by rw [Lib.nDigits_small (by simpa using h)]; exact Nat.le_refl _
  | k + 1, u, h => by
    by_cases h1 : u < 10
    · rw [Lib.nDigits_small h1]; omega
    · rw [Lib.nDigits_big h1]
      have := nDigits_le k (u / 10) (by rw [Nat.pow_succ] at h; omega)
      omega
theorem itoa_ne (v : Int) : Lib.itoa v ≠ [] := by
  unfold Lib.itoa
  split
  · simp
  · exact dec_ne _
theorem itoa_chars (v : Int) : ∀ c ∈ Lib.itoa v, c = 45 ∨ (48 ≤ c.toNat ∧ c.toNat ≤ 57) := by
  intro c hc
  unfold Lib.itoa at hc
  split at hc
  · rcases List.mem_cons.1 hc with h | h
    · exact .inl h
    · exact .inr (dec_digits _ c h)
  · exact .inr (dec_digits _ c hc)
theorem trim_neg (l : List UInt8) : Lib.trimPrefix (45 :: l) [45] = l := by simp [Lib.trimPrefix, Lib.hasPrefix]
theorem trim_not {c : UInt8} {l : List UInt8} (h : c ≠ 45) : Lib.trimPrefix (c :: l) [45] = c :: l := by
  simp [Lib.trimPrefix, Lib.hasPrefix]
  intro e
  exact absurd e.symm h
theorem trim_itoa (v : Int) : Lib.trimPrefix (Lib.itoa v) [45] = Lib.decDigits v.natAbs := by
  unfold Lib.itoa
  split
  · exact trim_neg _
  · rename_i h
    have e : v.toNat = v.natAbs := by omega
    rw [e]
    cases hd : Lib.decDigits v.natAbs with
    | nil => exact absurd hd (dec_ne _)
    | cons c r =>
      refine trim_not ?_
      intro ec
      have := dec_digits v.natAbs c (by rw [hd]; simp)
      rw [ec] at this
      simp at this
theorem atoi_itoa (v : Int) : Lib.atoi (Lib.itoa v) = some v := by
  unfold Lib.itoa
  split
  · rename_i h
    simp only [Lib.atoi, beq_self_eq_true, if_true, decNat_dec, Option.map_some]
    congr 1; omega
  · rename_i h
    cases hd : Lib.decDigits v.toNat with
    | nil => exact absurd hd (dec_ne _)
    | cons c r =>
      have hc := dec_digits v.toNat c (by rw [hd]; simp)
      have h1 : (c == 45) = false := by rw [beq_eq_false_iff_ne]; intro e; rw [e] at hc; simp at hc
      have h2 : (c == 43) = false := by rw [beq_eq_false_iff_ne]; intro e; rw [e] at hc; simp at hc
      have hn := decNat_dec v.toNat
      rw [hd] at hn
      simp only [Lib.atoi, h1, h2, Bool.false_eq_true, if_false, hn, Option.map_some]
      congr 1; omega
theorem numD_itoa (v : Int) (h : v.natAbs < 1000000000000000) : numD (Lib.itoa v) = some v := by
  have h15 : (Lib.decDigits v.natAbs).length ≤ 15 := by rw [Lib.decDigits_length]; exact nDigits_le 14 _ (by simpa using h)
  have hl : (Lib.itoa v).length ≤ 18 := by
    unfold Lib.itoa
    split
    · simp; omega
    · rename_i h; rw [show v.toNat = v.natAbs by omega]; omega
  unfold numD
  rw [trim_itoa, if_pos h15, Lib.parseIntB_64, Lib.atoiAll_short _ hl, atoi_itoa]
  simp [okN, Lib.NumEnd.ofOption]
theorem numD_some {l : List UInt8} {v : Int} (h : numD l = some v) : l = Lib.itoa v ∧ v.natAbs < 1000000000000000 := by
  unfold numD at h
  split at h
  · rename_i h15
    cases hp : Lib.parseIntB 64 l with
    | ok u =>
      rw [hp] at h
      simp only [okN] at h
      split at h
      · rename_i he
        cases h
        refine ⟨he.symm, ?_⟩
        rw [← he, trim_itoa, Lib.decDigits_length] at h15
        have h1 := Lib.lt_pow_nDigits v.natAbs
        have h2 : 10 ^ Lib.nDigits v.natAbs ≤ 10 ^ 15 := Nat.pow_le_pow_right (by decide) h15
        have h3 : (10 : Nat) ^ 15 = 1000000000000000 := by decide
        omega
      · cases h
    | «syntax» => rw [hp] at h; cases h
    | range => rw [hp] at h; cases h
  · cases h
theorem itoa_inj {m n : Int} (hm : m.natAbs < 1000000000000000) (h : Lib.itoa m = Lib.itoa n) : m = n := by
  have h1 := numD_itoa m hm
  rw [h] at h1
  have h2 := (numD_some h1).2
  have h3 := atoi_itoa n
  rw [← h, atoi_itoa] at h3
  exact Option.some.inj h3
theorem itoa_len (v : Int) (h : v.natAbs < 1000000000000000) : (Lib.itoa v).length ≤ 16 := by
  have h15 : (Lib.decDigits v.natAbs).length ≤ 15 := by rw [Lib.decDigits_length]; exact nDigits_le 14 _ (by simpa using h)
  unfold Lib.itoa
  split
  · simp; omega
  · rename_i h; rw [show v.toNat = v.natAbs by omega]; omega

/-- What is written otherwise is no number. -/
theorem numD_char {l : List UInt8} {c : UInt8} (hc : c ∈ l) (h : c ≠ 45 ∧ ¬ (48 ≤ c.toNat ∧ c.toNat ≤ 57)) : numD l = none := by
  cases hn : numD l with
  | none => rfl
  | some v =>
    have := (numD_some hn).1
    subst this
    rcases itoa_chars v c hc with e | e
    · exact absurd e h.1
    · exact absurd e h.2
theorem numD_zero {l : List UInt8} (hl : l ≠ []) : numD (48 :: l) = none := by
  cases hn : numD (48 :: l) with
  | none => rfl
  | some v =>
    have h := (numD_some hn).1
    unfold Lib.itoa at h
    split at h
    · simp at h
    · by_cases h0 : v.toNat = 0
      · rw [h0, Lib.decDigits_one (by decide)] at h
        simp at h
        exact absurd h hl
      · exact absurd rfl (dec_head v.toNat (by omega) 48 l h.symm)
theorem numD_minus : numD [45, 48] = none ∧ numD [45] = none ∧ numD [] = none ∧ numD [49, 50, 51, 52, 53, 54, 55, 56, 57, 48, 49, 50, 51, 52, 53, 54] = none := by
  refine ⟨?_, ?_, ?_, by decide⟩
  · cases hn : numD [45, 48] with
    | none => rfl
    | some v =>
      have h := (numD_some hn).1
      unfold Lib.itoa at h
      split at h
      · simp at h
        exact absurd rfl (dec_head v.natAbs (by omega) 48 [] h.symm)
      · exact absurd rfl ((fun e => by have := dec_digits v.toNat 45 (by rw [← h]; simp); simp at this) : ¬ (45 = 45))
  · cases hn : numD [45] with
    | none => rfl
    | some v =>
      have h := (numD_some hn).1
      unfold Lib.itoa at h
      split at h
      · simp at h
        exact absurd h (dec_ne _)
      · have := dec_digits v.toNat 45 (by rw [← h]; simp); simp at this
  · cases hn : numD [] with
    | none => rfl
    | some v => exact absurd (numD_some hn).1.symm (itoa_ne v)
theorem normD_num {l : List UInt8} (h : numD l = none) : normD 2 l = none := by
  unfold normD
  split
  · rfl
  · rw [if_neg (by decide), if_pos rfl, h]; rfl
theorem normD_itoa (v : Int) (h : v.natAbs < 1000000000000000) : normD 2 (Lib.itoa v) = some (Lib.itoa v) := by
  have := itoa_len v h
  unfold normD
  rw [if_neg (by rintro (e | e); exact itoa_ne v e; omega), if_neg (by decide), if_pos rfl, numD_itoa v h]; rfl
end Go.Proofs.YtofmpaphafhdpaaGreatDoor

/- The document's Digits: the walk. -/
namespace Go.Proofs.YtofmpaphafhdpaaGreatDoor
open Go.RowKit
set_option linter.unusedVariables false

theorem conv_one (m : Int) (b : UInt8) (h : (b.toNat : Int) = m) (w : World) : (convert 38 9 (.slice (some ⟨w.heap.size, 0, none⟩) 1 1)).run Tryz.prog (w.alloc (.cells #[.int .u8 m] 5)) = .ok (.string (ofL [b])) (w.alloc (.cells #[.int .u8 m] 5)) := by
  subst h
  refine run_convert_bytes_back _ 38 9 5 _ 1 [b] Tryz.underlying38 Tryz.underlying5 Tryz.underlying9 fun j hj => ?_
  have : j = 0 := by simp at hj; omega
  subst this
  simp [Addr.add]
theorem decDigits_big {u : Nat} (h : 10 ≤ u) : Lib.decDigits u = Lib.decDigits (u / 10) ++ [UInt8.ofNat (48 + u % 10)] := by rw [Lib.decDigits, dif_neg (by omega)]
theorem digit_val (u : Nat) : ((UInt8.ofNat (48 + u % 10)).toNat : Int) = 48 + (u : Int) % 10 := by simp; omega
theorem digit_val1 (u : Nat) (h : u < 10) : ((UInt8.ofNat (48 + u)).toNat : Int) = 48 + (u : Int) := by simp; omega

theorem wrap_u64 (n : Int) : IntKind.u64.wrap n = n % 18446744073709551616 := by
  unfold IntKind.wrap
  simp [IntKind.bits, IntKind.signed]
set_option maxRecDepth 100000 in
set_option maxHeartbeats 4000000 in
theorem digitsNat_any (neg : Bool) (N : Nat) (hN : N ≤ 1000000000000000000) (hneg : neg = true → 1 ≤ N) (w : World) :
    Calls Tryz.prog 19 #[.int .i64 (if neg then -(N : Int) else N)] w fun e w' => e = .returned (.string (ofL (if neg then 45 :: Lib.decDigits N else Lib.decDigits N))) ∧ Below w.heap.size w w' := by
  have hlen : (Lib.decDigits N).length ≤ 21 := by
    have := Lib.itoa_length_le (N : Int) (by omega) (by omega)
    rw [Lib.itoa_nonneg] at this
    exact this
  obtain ⟨V, hV⟩ : ∃ V, V = (if neg then -(N : Int) else N) := ⟨_, rfl⟩
  rw [← hV]
  obtain ⟨U, hU⟩ : ∃ U, IntKind.u64.wrap V = U := ⟨_, rfl⟩
  have key : decide (V < 0) = neg ∧ (neg = true → IntKind.u64.wrap (-U) = N) ∧ (neg = false → U = N) := by
    cases neg with
    | false =>
      simp at hV
      refine ⟨by simp; omega, by simp, fun _ => ?_⟩
      rw [← hU, hV]; simp only [wrap_u64]; omega
    | true =>
      simp at hV
      have := hneg rfl
      refine ⟨by simp; omega, fun _ => ?_, by simp⟩
      rw [← hU, hV]; simp only [wrap_u64]; omega
  obtain ⟨k1, k2, k3⟩ := key
  clear hV
  have HLen := Lib.hid hlen
  clear hlen
  cases neg with
  | false =>
    have hUN := k3 rfl
    clear k3 k2 hneg
    subst hUN
    go_enter Tryz.func19, Tryz.ntmps19
    go_wp2
    go_loopw [3, 4] (fun u s wr => ∃ (m : Nat) (D : List UInt8), u = .int .u64 m ∧ s = .string (ofL D) ∧ m ≤ 1000000000000000000 ∧ Hid (Lib.decDigits N = Lib.decDigits m ++ D) ∧ D.length ≤ 21 ∧ Below w.heap.size w wr) (fun u _ _ => (intOf u).toNat)
    case atStart => exact ⟨N, [], rfl, rfl, hN, Lib.hid (by simp), by simp, Below.refl _ _⟩
    case round =>
      obtain ⟨m, D, rfl, rfl, hm, HD, hDl, hbel⟩ := hrel
      have HBel := Lib.hid hbel
      have hsz := hbel.size
      clear hbel
      have hs1 := ofL_size D
      by_cases h10 : 10 ≤ m
      · have t1 : decide ((10 : Int) ≤ (m : Int)) = true := by simp; omega
        have hcv := conv_one (48 + (m : Int) % 10) (UInt8.ofNat (48 + m % 10)) (digit_val m) wr
        have hnew : Lib.decDigits N = Lib.decDigits (m / 10) ++ (UInt8.ofNat (48 + m % 10) :: D) := by rw [HD.out, decDigits_big h10]; simp
        have hl2 : (UInt8.ofNat (48 + m % 10) :: D).length ≤ 21 := by have := HLen.out; rw [hnew] at this; simp at this ⊢; omega
        have HNew := Lib.hid hnew
        have hs2 := ofL_size [UInt8.ofNat (48 + m % 10)]
        have hap : ofL [UInt8.ofNat (48 + m % 10)] ++ ofL D = ofL (UInt8.ofNat (48 + m % 10) :: D) := ofL_app _ _
        have hs1' : (ofL D).size ≤ 21 := by omega
        have hs2' : (ofL [UInt8.ofNat (48 + m % 10)]).size ≤ 1 := by rw [hs2]; simp
        have HAp := Lib.hid hap
        clear hnew hs1 hs2 hap
        generalize UInt8.ofNat (48 + m % 10) = b at *
        go_wp2
        go_roundw
        case rel => exact ⟨m / 10, b :: D, by go_num, by rw [HAp.out], by omega, HNew, hl2, HBel.out.alloc hsz _⟩
        case measure => simp [intOf]; omega
      · have t1 : decide ((10 : Int) ≤ (m : Int)) = false := by simp; omega
        have hcv := conv_one (48 + (m : Int)) (UInt8.ofNat (48 + m)) (digit_val1 m (by omega)) wr
        have hnew : Lib.decDigits N = UInt8.ofNat (48 + m) :: D := by rw [HD.out, Lib.decDigits_one (by omega)]; rfl
        have hs2 := ofL_size [UInt8.ofNat (48 + m)]
        have hap : ofL [UInt8.ofNat (48 + m)] ++ ofL D = ofL (Lib.decDigits N) := by rw [ofL_app, hnew]; rfl
        have hs1' : (ofL D).size ≤ 21 := by omega
        have hs2' : (ofL [UInt8.ofNat (48 + m)]).size ≤ 1 := by rw [hs2]; simp
        have hs3 : (ofL (Lib.decDigits N)).size ≤ 21 := by rw [ofL_size]; exact HLen.out
        have hs4 : (⟨#[45]⟩ : ByteArray).size = 1 := rfl
        have hap2 : (⟨#[45]⟩ : ByteArray) ++ ofL (Lib.decDigits N) = ofL (45 :: Lib.decDigits N) := ofL_app [45] _
        have HAp2 := Lib.hid hap2
        clear hnew hs1 hs2 hap2
        generalize UInt8.ofNat (48 + m) = b at *
        obtain ⟨R, hR⟩ : ∃ R, R = ofL (Lib.decDigits N) := ⟨_, rfl⟩
        rw [← hR] at hap hs3 HAp2
        have HR := Lib.hid hR
        clear hR
        go_wp2
        go_ret
        exact ⟨by rw [← HR.out]; rfl, HBel.out.alloc hsz _⟩
  | true =>
    have hN1 := hneg rfl
    have k2' := k2 rfl
    clear k3 k2 hneg
    go_enter Tryz.func19, Tryz.ntmps19
    go_wp2
    go_loopw [3, 4] (fun u s wr => ∃ (m : Nat) (D : List UInt8), u = .int .u64 m ∧ s = .string (ofL D) ∧ m ≤ 1000000000000000000 ∧ Hid (Lib.decDigits N = Lib.decDigits m ++ D) ∧ D.length ≤ 21 ∧ Below w.heap.size w wr) (fun u _ _ => (intOf u).toNat)
    case atStart => exact ⟨N, [], rfl, rfl, hN, Lib.hid (by simp), by simp, Below.refl _ _⟩
    case round =>
      obtain ⟨m, D, rfl, rfl, hm, HD, hDl, hbel⟩ := hrel
      have HBel := Lib.hid hbel
      have hsz := hbel.size
      clear hbel
      have hs1 := ofL_size D
      by_cases h10 : 10 ≤ m
      · have t1 : decide ((10 : Int) ≤ (m : Int)) = true := by simp; omega
        have hcv := conv_one (48 + (m : Int) % 10) (UInt8.ofNat (48 + m % 10)) (digit_val m) wr
        have hnew : Lib.decDigits N = Lib.decDigits (m / 10) ++ (UInt8.ofNat (48 + m % 10) :: D) := by rw [HD.out, decDigits_big h10]; simp
        have hl2 : (UInt8.ofNat (48 + m % 10) :: D).length ≤ 21 := by have := HLen.out; rw [hnew] at this; simp at this ⊢; omega
        have HNew := Lib.hid hnew
        have hs2 := ofL_size [UInt8.ofNat (48 + m % 10)]
        have hap : ofL [UInt8.ofNat (48 + m % 10)] ++ ofL D = ofL (UInt8.ofNat (48 + m % 10) :: D) := ofL_app _ _
        have hs1' : (ofL D).size ≤ 21 := by omega
        have hs2' : (ofL [UInt8.ofNat (48 + m % 10)]).size ≤ 1 := by rw [hs2]; simp
        have HAp := Lib.hid hap
        clear hnew hs1 hs2 hap
        generalize UInt8.ofNat (48 + m % 10) = b at *
        go_wp2
        go_roundw
        case rel => exact ⟨m / 10, b :: D, by go_num, by rw [HAp.out], by omega, HNew, hl2, HBel.out.alloc hsz _⟩
        case measure => simp [intOf]; omega
      · have t1 : decide ((10 : Int) ≤ (m : Int)) = false := by simp; omega
        have hcv := conv_one (48 + (m : Int)) (UInt8.ofNat (48 + m)) (digit_val1 m (by omega)) wr
        have hnew : Lib.decDigits N = UInt8.ofNat (48 + m) :: D := by rw [HD.out, Lib.decDigits_one (by omega)]; rfl
        have hs2 := ofL_size [UInt8.ofNat (48 + m)]
        have hap : ofL [UInt8.ofNat (48 + m)] ++ ofL D = ofL (Lib.decDigits N) := by rw [ofL_app, hnew]; rfl
        have hs1' : (ofL D).size ≤ 21 := by omega
        have hs2' : (ofL [UInt8.ofNat (48 + m)]).size ≤ 1 := by rw [hs2]; simp
        have hs3 : (ofL (Lib.decDigits N)).size ≤ 21 := by rw [ofL_size]; exact HLen.out
        have hs4 : (⟨#[45]⟩ : ByteArray).size = 1 := rfl
        have hap2 : (⟨#[45]⟩ : ByteArray) ++ ofL (Lib.decDigits N) = ofL (45 :: Lib.decDigits N) := ofL_app [45] _
        have HAp2 := Lib.hid hap2
        clear hnew hs1 hs2 hap2
        generalize UInt8.ofNat (48 + m) = b at *
        obtain ⟨R, hR⟩ : ∃ R, R = ofL (Lib.decDigits N) := ⟨_, rfl⟩
        rw [← hR] at hap hs3 HAp2
        have HR := Lib.hid hR
        clear hR
        go_wp2
        go_ret
        exact ⟨by rw [HAp2.out]; rfl, HBel.out.alloc hsz _⟩

theorem digits_any (n : Int) (h0 : -1000000000000000000 ≤ n) (h1 : n ≤ 1000000000000000000) (w : World) :
    Calls Tryz.prog 19 #[.int .i64 n] w fun e w' => e = .returned (.string (ofL (Lib.itoa n))) ∧ Below w.heap.size w w' := by
  by_cases h : n < 0
  · have := digitsNat_any true n.natAbs (by omega) (by intro _; omega) w
    simp only [if_true] at this
    have e : -(n.natAbs : Int) = n := by omega
    rw [e] at this
    unfold Lib.itoa
    rw [if_pos h]
    exact this
  · have := digitsNat_any false n.toNat (by omega) (by intro h; cases h) w
    simp only [Bool.false_eq_true, if_false] at this
    have e : (n.toNat : Int) = n := by omega
    rw [e] at this
    unfold Lib.itoa
    rw [if_neg h]
    exact this
end Go.Proofs.YtofmpaphafhdpaaGreatDoor

/- The document's Number: the walk. -/
namespace Go.Proofs.YtofmpaphafhdpaaGreatDoor
open Go.RowKit
set_option linter.unusedVariables false

theorem decFrom_digits : ∀ (l : List UInt8) (acc n : Nat), Lib.decFrom acc l = some n → ∀ c ∈ l, 48 ≤ c.toNat ∧ c.toNat ≤ 57
  | [], _, _, _, c, hc => absurd hc (by simp)
  | a :: l, acc, n, h, c, hc => by
    simp only [Lib.decFrom, Lib.digitVal] at h
    by_cases hd : 48 ≤ a.toNat ∧ a.toNat ≤ 57
    · rw [if_pos hd] at h
      rcases List.mem_cons.1 hc with rfl | hc
      · exact hd
      · exact decFrom_digits l _ n h c hc
    · rw [if_neg hd] at h; cases h
theorem numD_pos {l : List UInt8} {n : Nat} (h0 : l ≠ []) (hl : l.length ≤ 15) (h : Lib.decFrom 0 l = some n) : numD l = if Lib.itoa (n : Int) = l then some (n : Int) else none := by
  cases l with
  | nil => exact absurd rfl h0
  | cons c r =>
    have hc := decFrom_digits _ _ _ h c (by simp)
    have h45 : c ≠ 45 := by intro e; rw [e] at hc; simp at hc
    have h43 : c ≠ 43 := by intro e; rw [e] at hc; simp at hc
    have hat : Lib.atoi (c :: r) = some (n : Int) := by
      simp only [Lib.atoi]
      rw [if_neg (by simpa using h45), if_neg (by simpa using h43)]
      simp only [Lib.decNat, List.isEmpty_cons, Bool.false_eq_true, if_false, h, Option.map_some]
    unfold numD
    rw [trim_not h45, if_pos hl, Lib.parseIntB_64, Lib.atoiAll_short _ (by omega), hat]
    rfl
theorem numD_neg {l : List UInt8} {n : Nat} (h0 : l ≠ []) (hl : l.length ≤ 15) (h : Lib.decFrom 0 l = some n) : numD (45 :: l) = if Lib.itoa (-(n : Int)) = 45 :: l then some (-(n : Int)) else none := by
  have hat : Lib.atoi (45 :: l) = some (-(n : Int)) := by
    cases l with
    | nil => exact absurd rfl h0
    | cons c r => simp only [Lib.atoi, beq_self_eq_true, if_true, Lib.decNat, List.isEmpty_cons, Bool.false_eq_true, if_false, h, Option.map_some]
  unfold numD
  rw [trim_neg, if_pos hl, Lib.parseIntB_64, Lib.atoiAll_short _ (by simp; omega), hat]
  rfl
theorem numD_bad {l : List UInt8} {c : UInt8} (hc : c ∈ Lib.trimPrefix l [45]) (h : ¬ (48 ≤ c.toNat ∧ c.toNat ≤ 57)) : numD l = none := by
  cases hn : numD l with
  | none => rfl
  | some v =>
    have := (numD_some hn).1
    subst this
    rw [trim_itoa] at hc
    exact absurd (dec_digits _ c hc) h
theorem numD_long {l : List UInt8} (h : 15 < (Lib.trimPrefix l [45]).length) : numD l = none := by unfold numD; rw [if_neg (by omega)]

/-- A number, or none, in a block of its own. -/
def BoxNm (w : World) (b : Nat) (x : Int) (ok : Bool) : Prop := w.heap[b]? = some (.cells #[.int .i64 x, .bool ok] 153 (0, 0))
theorem BoxNm.below {w w' : World} {b n : Nat} {x : Int} {ok : Bool} (h : BoxNm w b x ok) (hb : Below n w w') (hn : b < n) : BoxNm w' b x ok := (hb.block b hn).trans h
theorem BoxNm.cells {w : World} {b : Nat} {x : Int} {ok : Bool} (h : BoxNm w b x ok) : w.cell? ⟨b, 0, none⟩ = some (.int .i64 x) ∧ w.cell? ⟨b, 1, none⟩ = some (.bool ok) ∧ w.frozen? ⟨b, 0, none⟩ = false ∧ w.frozen? ⟨b, 1, none⟩ = false := by
  unfold BoxNm at h
  simp [World.cell?, World.frozen?, h]
theorem boxNm_new (w : World) (x : Int) (ok : Bool) : BoxNm (w.alloc (.cells #[.int .i64 x, .bool ok] 153)) w.heap.size x ok := heap_alloc_new w _
theorem BoxNm.store {w : World} {b : Nat} {x : Int} {ok : Bool} (h : BoxNm w b x ok) (x' : Int) (ok' : Bool) : BoxNm ((w.setCell ⟨b, 0, none⟩ (.int .i64 x')).setCell ⟨b, 1, none⟩ (.bool ok')) b x' ok' := by
  unfold BoxNm at h ⊢
  simp [World.setCell, Array.getElem?_modify, h]

def numR (o : Option Int) : Value := match o with
  | some v => .agg #[.int .i64 v, .bool true]
  | none => .agg #[.int .i64 0, .bool false]

set_option maxRecDepth 100000 in
set_option maxHeartbeats 8000000 in
theorem numberRef_any (s : ByteArray) (hs : s.size ≤ 281474976710656) (w : World) : Calls Tryz.prog 120 #[.string s] w fun e w' => e = .returned (numR (numD s.data.toList)) ∧ Below w.heap.size w w' := by
  have HBox := Lib.hid (boxNm_new w 0 false)
  obtain ⟨q0, q1, _, _⟩ := (HBox.out.store 0 false).cells
  by_cases h0 : s.data.toList = []
  · obtain ⟨e1, e2⟩ := bytes_nil h0
    have hz : s.size = 0 := by rw [← bytes_len, h0]; rfl
    have HNo := Lib.hid (show numD s.data.toList = none by rw [h0]; exact numD_minus.2.2.1)
    have t0 : ((s.size : Int) == 0) = true := by simp [hz]
    clear h0 hz
    go_enter Tryz.func120, Tryz.ntmps120
    go_wp2
    refine bodyPost_ret (v := .agg #[.int .i64 0, .bool false]) (by simp [results, Tryz.results120, go_sem]) rfl ⟨by rw [HNo.out]; rfl, ?_⟩
    first | exact (Below.refl _ _).alloc (Nat.le_refl _) _ | exact (((Below.refl _ _).alloc (Nat.le_refl _) _).setCell (Nat.le_refl _) _).setCell (Nat.le_refl _) _
  obtain ⟨e1, e2⟩ := bytes_some h0
  have hpos : 0 < s.size := by
    rw [← bytes_len]; exact List.length_pos_iff.2 h0
  obtain ⟨a, ha⟩ : ∃ a : UInt8, s[0] = a := ⟨_, rfl⟩
  have hl0 : s.data.toList = a :: s.data.toList.drop 1 := by
    have := List.drop_eq_getElem_cons (l := s.data.toList) (i := 0) (by rw [bytes_len]; exact hpos)
    rw [List.drop_zero] at this
    rw [← ha]
    exact this
  have hal := a.toNat_lt
  by_cases h45 : a.toNat = 45
  · have ea : a = 45 := UInt8.toNat_inj.1 h45
    have t0 : ((a.toNat : Int) == 45) = true := by simp [h45]
    have e45 : (45 : UInt8) :: s.data.toList.drop 1 = s.data.toList := by rw [← ea]; exact hl0.symm
    have htr : Lib.trimPrefix s.data.toList [45] = s.data.toList.drop 1 := by have := trim_neg (s.data.toList.drop 1); rw [e45] at this; exact this
    clear e45
    by_cases h1 : s.size = 1
    · have HNo := Lib.hid (show numD s.data.toList = none by
        have : s.data.toList.drop 1 = [] := List.drop_eq_nil_iff.2 (by rw [bytes_len]; omega)
        rw [hl0, this, ea]; exact numD_minus.2.1)
      have t4 : ((s.size : Int) == 1) = true := by simp [h1]
      clear hl0 htr h45 ea h0 h1
      go_enter Tryz.func120, Tryz.ntmps120
      go_wp2
      refine bodyPost_ret (v := .agg #[.int .i64 0, .bool false]) (by simp [results, Tryz.results120, go_sem]) rfl ⟨by rw [HNo.out]; rfl, ?_⟩
      first | exact (Below.refl _ _).alloc (Nat.le_refl _) _ | exact (((Below.refl _ _).alloc (Nat.le_refl _) _).setCell (Nat.le_refl _) _).setCell (Nat.le_refl _) _
    have t4 : ((s.size : Int) == 1) = false := by simp; omega
    by_cases h15 : 15 < s.size - 1
    · have HNo := Lib.hid (numD_long (l := s.data.toList) (by rw [htr, List.length_drop, bytes_len]; exact h15))
      have t6 : decide ((15 : Int) < (s.size : Int) - 1) = true := by simp; omega
      have t7 : decide ((16 : Int) < (s.size : Int)) = true := by simp; omega
      clear hl0 htr h45 ea h0 h1
      go_enter Tryz.func120, Tryz.ntmps120
      go_wp2
      refine bodyPost_ret (v := .agg #[.int .i64 0, .bool false]) (by simp [results, Tryz.results120, go_sem]) rfl ⟨by rw [HNo.out]; rfl, ?_⟩
      first | exact (Below.refl _ _).alloc (Nat.le_refl _) _ | exact (((Below.refl _ _).alloc (Nat.le_refl _) _).setCell (Nat.le_refl _) _).setCell (Nat.le_refl _) _
    have t6 : decide ((15 : Int) < (s.size : Int) - 1) = false := by simp; omega
    have t7 : decide ((16 : Int) < (s.size : Int)) = false := by simp; omega
    have hbad : ∀ c ∈ s.data.toList.drop 1, ¬ (48 ≤ c.toNat ∧ c.toNat ≤ 57) → numD s.data.toList = none := fun c hc hn => numD_bad (by rw [htr]; exact hc) hn
    have hval : ∀ m : Nat, Lib.decFrom 0 (s.data.toList.drop 1) = some m → numD s.data.toList = if Lib.itoa (-(m : Int)) = s.data.toList then some (-(m : Int)) else none := fun m hm => by
      have hne : s.data.toList.drop 1 ≠ [] := fun e => by have := congrArg List.length e; rw [List.length_drop, bytes_len] at this; simp at this; omega
      have := numD_neg hne (by rw [List.length_drop, bytes_len]; omega) hm
      have e : (45 : UInt8) :: s.data.toList.drop 1 = s.data.toList := by rw [← ea]; exact hl0.symm
      rw [e] at this
      exact this
    clear hl0 htr h45 ea h0 h1
    have HBad := Lib.hid hbad
    have HVal := Lib.hid hval
    clear hbad hval
    go_enter Tryz.func120, Tryz.ntmps120
    go_wp2
    go_loop [3, 5] (fun n i => ∃ (j m : Nat), 1 ≤ j ∧ j ≤ s.size ∧ i = .int .i64 j ∧ n = .int .i64 m ∧ Hid (Lib.decFrom 0 ((s.data.toList.drop 1).take (j - 1)) = some m) ∧ Hid (m < 10 ^ (j - 1))) (fun _ i => s.size - (intOf i).toNat)
    case atStart => exact ⟨1, 0, by omega, by omega, rfl, rfl, Lib.hid (by simp [Lib.decFrom]), Lib.hid (by simp)⟩
    case round =>
      obtain ⟨j, m, hj0, hj, rfl, rfl, HD, HM⟩ := hrel
      by_cases hlt : j < s.size
      · have t1 : decide ((j : Int) < (s.size : Int)) = true := by simp; omega
        have hm14 : m ≤ 99999999999999 := by
          have h1 := HM.out
          have h2 : 10 ^ (j - 1) ≤ 10 ^ 14 := Nat.pow_le_pow_right (by decide) (by omega)
          have h3 : (10 : Nat) ^ 14 = 100000000000000 := by decide
          omega
        obtain ⟨c, hc⟩ : ∃ c : UInt8, s[j] = c := ⟨_, rfl⟩
        have hcl := c.toNat_lt
        have hmem : c ∈ s.data.toList.drop 1 := by
          rw [← hc]
          have e : (s.data.toList.drop 1)[j - 1]'(by rw [List.length_drop, bytes_len]; omega) = s[j] := by
            rw [List.getElem_drop]
            have : 1 + (j - 1) = j := by omega
            simp only [this]
            rfl
          rw [← e]
          exact List.getElem_mem _
        by_cases h48 : c.toNat < 48
        · have t2 : decide ((c.toNat : Int) < 48) = true := by simp; omega
          have HNo := Lib.hid (HBad.out c hmem (by omega))
          clear hmem
          go_wp2
          refine bodyPost_ret (v := .agg #[.int .i64 0, .bool false]) (by simp [results, Tryz.results120, go_sem]) rfl ⟨by rw [HNo.out]; rfl, ?_⟩
          first | exact (Below.refl _ _).alloc (Nat.le_refl _) _ | exact (((Below.refl _ _).alloc (Nat.le_refl _) _).setCell (Nat.le_refl _) _).setCell (Nat.le_refl _) _
        have t2 : decide ((c.toNat : Int) < 48) = false := by simp; omega
        by_cases h57 : 57 < c.toNat
        · have t3 : decide ((57 : Int) < (c.toNat : Int)) = true := by simp; omega
          have HNo := Lib.hid (HBad.out c hmem (by omega))
          clear hmem
          go_wp2
          refine bodyPost_ret (v := .agg #[.int .i64 0, .bool false]) (by simp [results, Tryz.results120, go_sem]) rfl ⟨by rw [HNo.out]; rfl, ?_⟩
          first | exact (Below.refl _ _).alloc (Nat.le_refl _) _ | exact (((Below.refl _ _).alloc (Nat.le_refl _) _).setCell (Nat.le_refl _) _).setCell (Nat.le_refl _) _
        have t3 : decide ((57 : Int) < (c.toNat : Int)) = false := by simp; omega
        have hnew : Lib.decFrom 0 ((s.data.toList.drop 1).take (j + 1 - 1)) = some (m * 10 + (c.toNat - 48)) := by
          rw [show j + 1 - 1 = (j - 1) + 1 by omega, List.take_succ_eq_append_getElem (by rw [List.length_drop, bytes_len]; omega), decFrom_snoc, HD.out]
          have e : (s.data.toList.drop 1)[j - 1]'(by rw [List.length_drop, bytes_len]; omega) = c := by
            rw [← hc, List.getElem_drop]
            have : 1 + (j - 1) = j := by omega
            simp only [this]
            rfl
          rw [e]
          simp only [Option.bind_some, Lib.digitVal]
          rw [if_pos (by omega)]
          rfl
        have hpow : m * 10 + (c.toNat - 48) < 10 ^ (j + 1 - 1) := by
          rw [show j + 1 - 1 = (j - 1) + 1 by omega, Nat.pow_succ]
          have := HM.out
          omega
        have HNew := Lib.hid hnew
        have HPow := Lib.hid hpow
        clear hnew hpow hmem
        go_wp2
        go_round
        case rel => exact ⟨j + 1, m * 10 + (c.toNat - 48), by omega, by omega, by go_num, by (congr 1; omega), HNew, HPow⟩
        case measure => simp [intOf]; omega
      · obtain rfl : j = s.size := by omega
        have t1 : decide ((s.size : Int) < (s.size : Int)) = false := by simp
        have hd := HD.out
        rw [List.take_of_length_le (by rw [List.length_drop, bytes_len]; omega)] at hd
        have hm15 : m < 1000000000000000 := by
          have h1 := HM.out
          have h2 : 10 ^ (s.size - 1) ≤ 10 ^ 15 := Nat.pow_le_pow_right (by decide) (by omega)
          have h3 : (10 : Nat) ^ 15 = 1000000000000000 := by decide
          omega
        have hres := HVal.out m hd
        have hdg := fun w => digits_any (-(m : Int)) (by omega) (by omega) w
        obtain ⟨F, hF⟩ : ∃ F : ByteArray, F = ofL (Lib.itoa (-(m : Int))) := ⟨_, rfl⟩
        have hFl : Lib.itoa (-(m : Int)) = F.data.toList := by rw [hF, ofL_list]
        rw [← hF] at hdg
        rw [hFl] at hres
        have HDg := Lib.hid hdg
        clear hF hFl hdg hd HD HM
        by_cases he : F = s
        · have hr : numD s.data.toList = some (-(m : Int)) := by rw [hres, if_pos (by rw [he])]
          have HR := Lib.hid hr
          subst he
          clear hr hres
          go_wp2_with (go_at_call 19; refine (HDg.out _).mono ?_; rintro e w1 ⟨rfl, hb1⟩; have HB := Lib.hid hb1; have HX := Lib.hid (HBox.out.below hb1 (by simp)); obtain ⟨k0, k1, l0, l1⟩ := HX.out.cells; clear hb1)
          obtain ⟨q0, q1, _, _⟩ := (HX.out.store (-(m : Int)) true).cells
          refine bodyPost_ret (v := .agg #[.int .i64 (-(m : Int)), .bool true]) (by simp [results, Tryz.results120, go_sem, q0, q1]) rfl ⟨by rw [HR.out]; rfl, ?_⟩
          exact ((((Below.refl _ _).alloc (Nat.le_refl _) _).trans (HB.out.mono (by simp))).setCell (Nat.le_refl _) _).setCell (Nat.le_refl _) _
        · have hr : numD s.data.toList = none := by rw [hres, if_neg (fun e => he (bytes_ext e))]
          have HR := Lib.hid hr
          have t5 := str_ne he
          clear hr hres he
          go_wp2_with (go_at_call 19; refine (HDg.out _).mono ?_; rintro e w1 ⟨rfl, hb1⟩; have HB := Lib.hid hb1; have HX := Lib.hid (HBox.out.below hb1 (by simp)); obtain ⟨k0, k1, l0, l1⟩ := HX.out.cells; clear hb1)
          obtain ⟨q0, q1, _, _⟩ := (HX.out.store (0 : Int) false).cells
          refine bodyPost_ret (v := .agg #[.int .i64 0, .bool false]) (by simp [results, Tryz.results120, go_sem, q0, q1]) rfl ⟨by rw [HR.out]; rfl, ?_⟩
          exact ((((Below.refl _ _).alloc (Nat.le_refl _) _).trans (HB.out.mono (by simp))).setCell (Nat.le_refl _) _).setCell (Nat.le_refl _) _
  · have na : a ≠ 45 := fun e => h45 (by rw [e]; rfl)
    have t0 : ((a.toNat : Int) == 45) = false := by simp; omega
    have htr : Lib.trimPrefix s.data.toList [45] = s.data.toList := by rw [hl0]; exact trim_not na
    have t4 : ((s.size : Int) == 0) = false := by rw [beq_eq_false_iff_ne]; omega
    by_cases h15 : 15 < s.size
    · have HNo := Lib.hid (numD_long (l := s.data.toList) (by rw [htr, bytes_len]; exact h15))
      have t6 : decide ((15 : Int) < (s.size : Int)) = true := by simp; omega
      clear hl0 htr h45 na h0
      go_enter Tryz.func120, Tryz.ntmps120
      go_wp2
      refine bodyPost_ret (v := .agg #[.int .i64 0, .bool false]) (by simp [results, Tryz.results120, go_sem]) rfl ⟨by rw [HNo.out]; rfl, ?_⟩
      first | exact (Below.refl _ _).alloc (Nat.le_refl _) _ | exact (((Below.refl _ _).alloc (Nat.le_refl _) _).setCell (Nat.le_refl _) _).setCell (Nat.le_refl _) _
    have t6 : decide ((15 : Int) < (s.size : Int)) = false := by simp; omega
    have hbad : ∀ c ∈ s.data.toList.drop 0, ¬ (48 ≤ c.toNat ∧ c.toNat ≤ 57) → numD s.data.toList = none := fun c hc hn => numD_bad (by rw [htr]; exact hc) hn
    have hval : ∀ m : Nat, Lib.decFrom 0 (s.data.toList.drop 0) = some m → numD s.data.toList = if Lib.itoa (m : Int) = s.data.toList then some (m : Int) else none := fun m hm => numD_pos h0 (by rw [bytes_len]; omega) hm
    clear hl0 htr h45 na h0
    have HBad := Lib.hid hbad
    have HVal := Lib.hid hval
    clear hbad hval
    go_enter Tryz.func120, Tryz.ntmps120
    go_wp2
    go_loop [3, 5] (fun n i => ∃ (j m : Nat), 0 ≤ j ∧ j ≤ s.size ∧ i = .int .i64 j ∧ n = .int .i64 m ∧ Hid (Lib.decFrom 0 ((s.data.toList.drop 0).take (j - 0)) = some m) ∧ Hid (m < 10 ^ (j - 0))) (fun _ i => s.size - (intOf i).toNat)
    case atStart => exact ⟨0, 0, by omega, by omega, rfl, rfl, Lib.hid (by simp [Lib.decFrom]), Lib.hid (by simp)⟩
    case round =>
      obtain ⟨j, m, hj0, hj, rfl, rfl, HD, HM⟩ := hrel
      by_cases hlt : j < s.size
      · have t1 : decide ((j : Int) < (s.size : Int)) = true := by simp; omega
        have hm14 : m ≤ 99999999999999 := by
          have h1 := HM.out
          have h2 : 10 ^ (j - 0) ≤ 10 ^ 14 := Nat.pow_le_pow_right (by decide) (by omega)
          have h3 : (10 : Nat) ^ 14 = 100000000000000 := by decide
          omega
        obtain ⟨c, hc⟩ : ∃ c : UInt8, s[j] = c := ⟨_, rfl⟩
        have hcl := c.toNat_lt
        have hmem : c ∈ s.data.toList.drop 0 := by
          rw [← hc]
          have e : (s.data.toList.drop 0)[j - 0]'(by rw [List.length_drop, bytes_len]; omega) = s[j] := by
            rw [List.getElem_drop]
            have : 0 + (j - 0) = j := by omega
            simp only [this]
            rfl
          rw [← e]
          exact List.getElem_mem _
        by_cases h48 : c.toNat < 48
        · have t2 : decide ((c.toNat : Int) < 48) = true := by simp; omega
          have HNo := Lib.hid (HBad.out c hmem (by omega))
          clear hmem
          go_wp2
          refine bodyPost_ret (v := .agg #[.int .i64 0, .bool false]) (by simp [results, Tryz.results120, go_sem]) rfl ⟨by rw [HNo.out]; rfl, ?_⟩
          first | exact (Below.refl _ _).alloc (Nat.le_refl _) _ | exact (((Below.refl _ _).alloc (Nat.le_refl _) _).setCell (Nat.le_refl _) _).setCell (Nat.le_refl _) _
        have t2 : decide ((c.toNat : Int) < 48) = false := by simp; omega
        by_cases h57 : 57 < c.toNat
        · have t3 : decide ((57 : Int) < (c.toNat : Int)) = true := by simp; omega
          have HNo := Lib.hid (HBad.out c hmem (by omega))
          clear hmem
          go_wp2
          refine bodyPost_ret (v := .agg #[.int .i64 0, .bool false]) (by simp [results, Tryz.results120, go_sem]) rfl ⟨by rw [HNo.out]; rfl, ?_⟩
          first | exact (Below.refl _ _).alloc (Nat.le_refl _) _ | exact (((Below.refl _ _).alloc (Nat.le_refl _) _).setCell (Nat.le_refl _) _).setCell (Nat.le_refl _) _
        have t3 : decide ((57 : Int) < (c.toNat : Int)) = false := by simp; omega
        have hnew : Lib.decFrom 0 ((s.data.toList.drop 0).take (j + 1 - 0)) = some (m * 10 + (c.toNat - 48)) := by
          rw [show j + 1 - 0 = (j - 0) + 1 by omega, List.take_succ_eq_append_getElem (by rw [List.length_drop, bytes_len]; omega), decFrom_snoc, HD.out]
          have e : (s.data.toList.drop 0)[j - 0]'(by rw [List.length_drop, bytes_len]; omega) = c := by
            rw [← hc, List.getElem_drop]
            have : 0 + (j - 0) = j := by omega
            simp only [this]
            rfl
          rw [e]
          simp only [Option.bind_some, Lib.digitVal]
          rw [if_pos (by omega)]
          rfl
        have hpow : m * 10 + (c.toNat - 48) < 10 ^ (j + 1 - 0) := by
          rw [show j + 1 - 0 = (j - 0) + 1 by omega, Nat.pow_succ]
          have := HM.out
          omega
        have HNew := Lib.hid hnew
        have HPow := Lib.hid hpow
        clear hnew hpow hmem
        go_wp2
        go_round
        case rel => exact ⟨j + 1, m * 10 + (c.toNat - 48), by omega, by omega, by go_num, by (congr 1; omega), HNew, HPow⟩
        case measure => simp [intOf]; omega
      · obtain rfl : j = s.size := by omega
        have t1 : decide ((s.size : Int) < (s.size : Int)) = false := by simp
        have hd := HD.out
        rw [List.take_of_length_le (by rw [List.length_drop, bytes_len]; omega)] at hd
        have hm15 : m < 1000000000000000 := by
          have h1 := HM.out
          have h2 : 10 ^ (s.size - 0) ≤ 10 ^ 15 := Nat.pow_le_pow_right (by decide) (by omega)
          have h3 : (10 : Nat) ^ 15 = 1000000000000000 := by decide
          omega
        have hres := HVal.out m hd
        have hdg := fun w => digits_any ((m : Int)) (by omega) (by omega) w
        obtain ⟨F, hF⟩ : ∃ F : ByteArray, F = ofL (Lib.itoa ((m : Int))) := ⟨_, rfl⟩
        have hFl : Lib.itoa ((m : Int)) = F.data.toList := by rw [hF, ofL_list]
        rw [← hF] at hdg
        rw [hFl] at hres
        have HDg := Lib.hid hdg
        clear hF hFl hdg hd HD HM
        by_cases he : F = s
        · have hr : numD s.data.toList = some ((m : Int)) := by rw [hres, if_pos (by rw [he])]
          have HR := Lib.hid hr
          subst he
          clear hr hres
          go_wp2_with (go_at_call 19; refine (HDg.out _).mono ?_; rintro e w1 ⟨rfl, hb1⟩; have HB := Lib.hid hb1; have HX := Lib.hid (HBox.out.below hb1 (by simp)); obtain ⟨k0, k1, l0, l1⟩ := HX.out.cells; clear hb1)
          obtain ⟨q0, q1, _, _⟩ := (HX.out.store ((m : Int)) true).cells
          refine bodyPost_ret (v := .agg #[.int .i64 ((m : Int)), .bool true]) (by simp [results, Tryz.results120, go_sem, q0, q1]) rfl ⟨by rw [HR.out]; rfl, ?_⟩
          exact ((((Below.refl _ _).alloc (Nat.le_refl _) _).trans (HB.out.mono (by simp))).setCell (Nat.le_refl _) _).setCell (Nat.le_refl _) _
        · have hr : numD s.data.toList = none := by rw [hres, if_neg (fun e => he (bytes_ext e))]
          have HR := Lib.hid hr
          have t5 := str_ne he
          clear hr hres he
          go_wp2_with (go_at_call 19; refine (HDg.out _).mono ?_; rintro e w1 ⟨rfl, hb1⟩; have HB := Lib.hid hb1; have HX := Lib.hid (HBox.out.below hb1 (by simp)); obtain ⟨k0, k1, l0, l1⟩ := HX.out.cells; clear hb1)
          obtain ⟨q0, q1, _, _⟩ := (HX.out.store (0 : Int) false).cells
          refine bodyPost_ret (v := .agg #[.int .i64 0, .bool false]) (by simp [results, Tryz.results120, go_sem, q0, q1]) rfl ⟨by rw [HR.out]; rfl, ?_⟩
          exact ((((Below.refl _ _).alloc (Nat.le_refl _) _).trans (HB.out.mono (by simp))).setCell (Nat.le_refl _) _).setCell (Nat.le_refl _) _
end Go.Proofs.YtofmpaphafhdpaaGreatDoor
