/- Several texts in one file: ScClassed, ScCheck, ScPer, MaUp, MaAwake, MaCasesW, ScFst, MaDig, ScFstW, RegInv. -/
import Derived.Test.YtaapdipejpbdeaaGreatDoorMadeP1
import Derived.Test.YtaapdipejpbdeaaGreatDoorScSound
import Derived.Test.YtaapdipejpbdeaaGreatDoorDnKey
import Derived.Test.YtaapdipejpbdeaaGreatDoorDnLow
import Derived.Test.YtaapdipejpbdeaaGreatDoorOfL
import Derived.Test.YtaapdipejpbdeaaGreatDoorMaPure
import Derived.Test.YtaapdipejpbdeaaGreatDoorMaSame
import Derived.Test.YtaapdipejpbdeaaGreatDoorDnOwn
import Derived.Lib.ItoaLen
import Derived.Lib.ItoaMem
import Derived.Deep.CutRange
import Derived.RegionTactic
/- schema.isClassed: the walk. -/
namespace Go.Proofs.YtaapdipejpbdeaaGreatDoor
open Go.RowKit
set_option linter.unusedVariables false

theorem class_words : ∀ c ∈ classL, (c.mustL ++ c.mayL).length ≤ 8 := by
  intro c hc
  simp only [classL, List.mem_cons, List.not_mem_nil, or_false] at hc
  rcases hc with rfl | rfl | rfl | rfl | rfl | rfl | rfl <;> decide
theorem chain_mem : ∀ (k : Nat) (n : List UInt8), ∀ c ∈ chainC k n, c ∈ classL
  | 0, n, c, h => by simp [chainC] at h
  | k + 1, n, c, h => by
    simp only [chainC] at h
    cases e : findC n with
    | none => rw [e] at h; simp at h
    | some d =>
      rw [e] at h
      rcases List.mem_cons.1 h with rfl | h
      · exact (findC_mem e).1
      · exact chain_mem k d.sup c h
theorem allC_mem : ∀ {V : List (List UInt8)} {A : List CT} {s : Bool}, allC V = some (A, s) → (∀ c ∈ A, c ∈ classL) ∧ A.length ≤ 3 * V.length
  | [], A, s, h => by simp only [allC, Option.some.injEq, Prod.mk.injEq] at h; rw [← h.1]; simp
  | v :: l, A, s, h => by
    simp only [allC] at h
    cases e : findC (fold v) with
    | none => rw [e] at h; cases h
    | some c =>
      rw [e] at h
      cases e2 : allC l with
      | none => rw [e2] at h; cases h
      | some p =>
        obtain ⟨A2, s2⟩ := p
        rw [e2] at h
        simp only [Option.map_some, Option.some.injEq, Prod.mk.injEq] at h
        obtain ⟨h1, h2⟩ := allC_mem e2
        rw [← h.1]
        have := chain_len (fold v) 3
        exact ⟨fun c hc => (List.mem_append.1 hc).elim (chain_mem 3 _ c) (h1 c), by simp; omega⟩
theorem mayC_len {A : List CT} (h : ∀ c ∈ A, c ∈ classL) : (mayC A).length ≤ 8 * A.length := by
  induction A with
  | nil => simp [mayC]
  | cons c A ih =>
    have h1 := class_words c (h c (by simp))
    have h2 := ih (fun d hd => h d (by simp [hd]))
    simp only [mayC, List.flatMap_cons, List.length_append] at *
    simp only [List.length_cons]
    omega
theorem mayC_take (A : List CT) (j : Nat) (h : j < A.length) : mayC (A.take (j + 1)) = mayC (A.take j) ++ (A[j].mustL ++ A[j].mayL) := by
  unfold mayC
  rw [List.take_succ_eq_append_getElem h, List.flatMap_append]
  simp
theorem classed_none {L : List AT} (h : allC (valsS L objB) = none) : classedD L = false := by unfold classedD; rw [h]
theorem classed_not {L : List AT} {A : List CT} (h : allC (valsS L objB) = some (A, false)) : classedD L = false := by unfold classedD; rw [h]; rfl
theorem classed_must {L : List AT} {A : List CT} {s : Bool} (h : allC (valsS L objB) = some (A, s)) {c : CT} (hc : c ∈ A) {t : List UInt8} (ht : t ∈ c.mustL) (hn : hasS L t = false) : classedD L = false := by
  unfold classedD
  rw [h]
  have : A.all (fun c => c.mustL.all (hasS L)) = false := List.all_eq_false.2 ⟨c, hc, by
    simp only [Bool.not_eq_true]
    exact List.all_eq_false.2 ⟨t, ht, by rw [hn]; simp⟩⟩
  simp [this]
theorem classed_may {L : List AT} {A : List CT} {s : Bool} (h : allC (valsS L objB) = some (A, s)) {a : AT} (ha : a ∈ L) (hn : (mayC A).contains a.1 = false) : classedD L = false := by
  unfold classedD
  rw [h]
  have : L.all (fun a => (mayC A).contains a.1) = false := List.all_eq_false.2 ⟨a, ha, by rw [hn]; simp⟩
  simp only [this]
  simp
theorem classed_is {L : List AT} {A : List CT} (h : allC (valsS L objB) = some (A, true)) (h1 : ∀ c ∈ A, ∀ t ∈ c.mustL, hasS L t = true) (h2 : ∀ a ∈ L, (mayC A).contains a.1 = true) : classedD L = true := by
  unfold classedD
  rw [h]
  have e1 : A.all (fun c => c.mustL.all (hasS L)) = true := List.all_eq_true.2 (fun c hc => List.all_eq_true.2 (h1 c hc))
  have e2 : L.all (fun a => (mayC A).contains a.1) = true := List.all_eq_true.2 h2
  simp only [e1, e2]
  rfl

/-- Three lists of texts side by side. -/
theorem isTT_three {n0 : Nat} {w : World} {A1 A2 A3 : List (List UInt8)} {u1 u2 u3 : Value} (h1 : IsT w.heap.size w A1 u1) (h2 : IsT w.heap.size w A2 u2) (h3 : IsT w.heap.size w A3 u3) (e : TypeId) :
    IsTT (w.alloc (.cells #[u1, u2, u3] e)).heap.size (w.alloc (.cells #[u1, u2, u3] e)) [A1, A2, A3] (.slice (some ⟨w.heap.size, 0, none⟩) 3 3) := by
  have ha : Below w.heap.size w (w.alloc (.cells #[u1, u2, u3] e)) := (Below.refl _ _).alloc (Nat.le_refl _) _
  have hh : (w.alloc (.cells #[u1, u2, u3] e)).heap[w.heap.size]? = some (.cells #[u1, u2, u3] e (0, 0)) := heap_alloc_new w _
  refine ⟨_, _, rfl, fun j hj => ?_⟩
  match j, hj with
  | 0, _ => exact ⟨w.heap.size, 0, u1, rfl, by simp, by simp only [World.cell?, hh]; rfl, h1.below ha ha.size⟩
  | 1, _ => exact ⟨w.heap.size, 0, u2, rfl, by simp, by simp only [World.cell?, hh]; rfl, h2.below ha ha.size⟩
  | 2, _ => exact ⟨w.heap.size, 0, u3, rfl, by simp, by simp only [World.cell?, hh]; rfl, h3.below ha ha.size⟩

set_option maxRecDepth 100000 in
set_option maxHeartbeats 8000000 in
theorem isClassed_any (L : List AT) (hs : L.length ≤ 900) (hsm : smallT (valsS L objB)) (v : Value) (w : World) (hl : LaidF w) (h : IsA w.heap.size w L v) :
    Calls Tryz.prog 30 #[v] w fun e w' => e = .returned (.bool (classedD L)) ∧ Below w.heap.size w w' := by
  obtain ⟨R, hR⟩ : ∃ R, R = classedD L := ⟨_, rfl⟩
  rw [← hR]
  have HI := Lib.hid h
  obtain ⟨sa, sc, hv, hmx, hcell⟩ := id h
  obtain ⟨n, hn⟩ : ∃ n, n = L.length := ⟨_, rfl⟩
  rw [← hn] at hv hs
  subst hv
  have HN := Lib.hid hn
  have HL := Lib.hid hl
  have HR := Lib.hid hR
  have HSm := Lib.hid hsm
  have HC := Lib.hid hcell
  have hvo := fun (W : World) (q : IsA W.heap.size W L (.slice sa n sc)) => valsOf_any L (by omega) (.slice sa n sc) ⟨#[111, 98, 106, 101, 99, 116, 99, 108, 97, 115, 115]⟩ W q
  have HVo := Lib.hid hvo
  clear hcell hR hl hsm hn h hmx hvo
  cases hq : allC (valsS L objB) with
  | none =>
    have hf : R = false := by rw [HR.out, classed_none hq]
    subst hf
    have HQ := Lib.hid hq
    clear hq HR
    go_enter Tryz.func30, Tryz.ntmps30
    go_wp2_with (first
      | (go_at_call 66; refine (HVo.out _ HI.out).mono ?_; rintro e w2 ⟨u, rfl, hu, hb2⟩; have HU := Lib.hid (hu.below hb2 hb2.size); have HB2 := Lib.hid hb2; clear hu hb2)
      | (go_at_call 65; refine (classesOf_any (valsS L objB) HSm.out _ _ (HL.out.below HB2.out) HU.out).mono ?_; rintro e w3 hcw; (simp only [ClsW, HQ.out] at hcw); (obtain ⟨hb3, rfl⟩ := hcw); have HB3 := Lib.hid (bthen HB2.out hb3); clear hb3))
    go_ret
    exact ⟨rfl, HB3.out⟩
  | some p =>
    obtain ⟨A, s⟩ := p
    have HQ := Lib.hid hq
    cases s with
    | false =>
      have hf : R = false := by rw [HR.out, classed_not hq]
      subst hf
      clear hq HR
      go_enter Tryz.func30, Tryz.ntmps30
      go_wp2_with (first
        | (go_at_call 66; refine (HVo.out _ HI.out).mono ?_; rintro e w2 ⟨u, rfl, hu, hb2⟩; have HU := Lib.hid (hu.below hb2 hb2.size); have HB2 := Lib.hid hb2; clear hu hb2)
        | (go_at_call 65; refine (classesOf_any (valsS L objB) HSm.out _ _ (HL.out.below HB2.out) HU.out).mono ?_; rintro e w3 hcw; (simp only [ClsW, HQ.out] at hcw); (obtain ⟨hb3, g3, v3, rfl, ho3⟩ := hcw); have HB3 := Lib.hid (bthen HB2.out hb3); clear hb3 ho3))
      go_ret
      exact ⟨rfl, HB3.out⟩
    | true =>
      obtain ⟨hmem, hAl⟩ := allC_mem hq
      have hA3 : A.length ≤ 3000 := by have := HSm.out.1; omega
      have hmay := mayC_len hmem
      obtain ⟨m, hm⟩ : ∃ m, m = A.length := ⟨_, rfl⟩
      have HM := Lib.hid hm
      have HMem := Lib.hid hmem
      rw [← hm] at hA3 hmay hAl
      clear hq hm hmem
      go_enter Tryz.func30, Tryz.ntmps30
      go_wp2_with (first
        | (go_at_call 66; refine (HVo.out _ HI.out).mono ?_; rintro e w2 ⟨u, rfl, hu, hb2⟩; have HU := Lib.hid (hu.below hb2 hb2.size); have HB2 := Lib.hid hb2; clear hu hb2)
        | (go_at_call 65; refine (classesOf_any (valsS L objB) HSm.out _ _ (HL.out.below HB2.out) HU.out).mono ?_; rintro e w3 hcw; (simp only [ClsW, HQ.out] at hcw); (obtain ⟨hb3, g3, v3, rfl, ho3⟩ := hcw); (obtain ⟨ca, cc, hcv, _, hck⟩ := ownK_isK ho3 (by unfold maxLen; have := HM.out; omega)); (rw [← HM.out] at hcv); subst hcv; have HK := Lib.hid hck; have HB3 := Lib.hid (bthen HB2.out hb3); clear hb3 ho3 hck))
      go_loopw [5, 22] (fun l i wr => ∃ (j : Nat), j ≤ m ∧ i = .int .i64 j ∧ Hid (∀ k (hk : k < A.length), k < j → ∀ t ∈ A[k].mustL, hasS L t = true) ∧ OwnS w3.heap.size wr l (mayC (A.take j)) ∧ Below w3.heap.size w3 wr) (fun _ i wr => m - (intOf i).toNat)
      case atStart => exact ⟨0, by omega, rfl, Lib.hid (fun k _ h => absurd h (by omega)), ownS_nil _ _, Below.refl _ _⟩
      case round =>
        obtain ⟨j, hj, rfl, HMu, hown, hbel⟩ := hrel
        rename World => wo
        have HBel := Lib.hid hbel
        have hbs := hbel.size
        obtain ⟨la, lc, hlv⟩ := ownS_slice hown
        have hml : (mayC (A.take j)).length ≤ 24000 := by
          have := mayC_len (A := A.take j) (fun c hc => HMem.out c (List.mem_of_mem_take hc))
          rw [List.length_take] at this
          omega
        obtain ⟨ln, hln⟩ : ∃ k, k = (mayC (A.take j)).length := ⟨_, rfl⟩
        rw [← hln] at hlv hml
        subst hlv
        have HOwn := Lib.hid hown
        have HLn := Lib.hid hln
        clear hln hown
        by_cases hlt : j < m
        · have t3 : decide ((j : Int) < (m : Int)) = true := by simp; omega
          have t3' : decide (j < m) = true := by simpa using hlt
          have hlA : j < A.length := by rw [← HM.out]; exact hlt
          obtain ⟨b, off, u1, u2, hae, hb0, c0, c1, c2, c3, c4, ht1, ht2⟩ := HK.out j hlA
          subst hae
          obtain ⟨pa, pc, hx1, _, hmc⟩ := id ht1
          obtain ⟨pn, hpn⟩ : ∃ k, k = A[j].mustL.length := ⟨_, rfl⟩
          rw [← hpn] at hx1
          subst hx1
          obtain ⟨qa, qc, hx2, _⟩ := id ht2
          obtain ⟨qn, hqn⟩ : ∃ k, k = A[j].mayL.length := ⟨_, rfl⟩
          rw [← hqn] at hx2
          subst hx2
          obtain ⟨N2, hN2⟩ : ∃ X : ByteArray, X = ⟨A[j].name.toArray⟩ := ⟨_, rfl⟩
          obtain ⟨S2, hS2⟩ : ∃ X : ByteArray, X = ⟨A[j].sup.toArray⟩ := ⟨_, rfl⟩
          obtain ⟨st, hst⟩ : ∃ b, b = A[j].st := ⟨_, rfl⟩
          simp only [strV, ← hN2, ← hS2, ← hst] at c0 c1 c2
          have d0 := (hbel.cell (p := ⟨b, _, none⟩) hb0).trans c0
          have d1 := (hbel.cell (p := ⟨b, _, none⟩) hb0).trans c1
          have d2 := (hbel.cell (p := ⟨b, _, none⟩) hb0).trans c2
          have d3 := (hbel.cell (p := ⟨b, _, none⟩) hb0).trans c3
          have d4 := (hbel.cell (p := ⟨b, _, none⟩) hb0).trans c4
          have hw8 := class_words A[j] (HMem.out _ (List.getElem_mem _))
          rw [List.length_append, ← hpn, ← hqn] at hw8
          have HPn := Lib.hid hpn
          have HQn := Lib.hid hqn
          have HMc := Lib.hid hmc
          have HT1 := Lib.hid ht1
          have HT2 := Lib.hid ht2
          clear c0 c1 c2 c3 c4 hN2 hS2 hst hpn hqn ht1 ht2 hmc
          obtain ⟨W1, hW1⟩ : ∃ W1, W1 = wo.alloc (.cells #[.string N2, .string S2, .bool st, .slice pa pn pc, .slice qa qn qc] 97) := ⟨_, rfl⟩
          have hba : Below wo.heap.size wo W1 := by rw [hW1]; exact (Below.refl _ _).alloc (Nat.le_refl _) _
          have hbx : BoxC W1 wo.heap.size (.string N2) (.string S2) (.bool st) (.slice pa pn pc) (.slice qa qn qc) := by rw [hW1]; exact boxC_new _ _ _ _ _ _
          have hz1 : W1.heap.size = wo.heap.size + 1 := by rw [hW1]; simp
          have HBa := Lib.hid hba
          have HBx := Lib.hid hbx
          have HW1 := Lib.hid hW1
          clear hba hbx hW1
          go_wp2
          go_loopw [29] (fun i wr => ∃ (q : Nat), q ≤ pn ∧ i = .int .i64 q ∧ Hid (∀ k (hk : k < A[j].mustL.length), k < q → hasS L A[j].mustL[k] = true) ∧ Below W1.heap.size W1 wr) (fun i wr => pn - (intOf i).toNat)
          case atStart => exact ⟨0, by omega, rfl, Lib.hid (fun k _ h => absurd h (by omega)), HW1.out ▸ Below.refl _ _⟩
          case round =>
            obtain ⟨q, hq, rfl, HAll, hbq⟩ := hrel
            have HBq := Lib.hid hbq
            have hbqs := hbq.size
            have HBr : Hid (Below wo.heap.size wo wr) := Lib.hid (HBa.out.trans (hbq.mono (by omega)))
            have HB0 : Hid (Below w3.heap.size w3 wr) := Lib.hid (bthen HBel.out HBr.out)
            have HBw : Hid (Below w.heap.size w wr) := Lib.hid (bthen HB3.out HB0.out)
            clear hbq
            by_cases hlt2 : q < pn
            · have t5 : decide ((q : Int) < (pn : Int)) = true := by simp; omega
              have t5' : decide (q < pn) = true := by simpa using hlt2
              have hlM : q < A[j].mustL.length := by rw [← HPn.out]; exact hlt2
              obtain ⟨b2, off2, hpe, hb2, e0⟩ := HMc.out q hlM
              subst hpe
              obtain ⟨T, hT⟩ : ∃ X : ByteArray, ⟨A[j].mustL[q].toArray⟩ = X := ⟨_, rfl⟩
              have hTl : T.data.toList = A[j].mustL[q] := by rw [← hT]
              have f0 : (wr.cell? ⟨b2, off2 + q, none⟩) = some (.string T) := by
                rw [HB0.out.cell (p := ⟨b2, _, none⟩) hb2, e0, ← hT]; rfl
              have hha := hasS_any L (by have := HN.out; omega) (.slice sa n sc) T wr (HI.out.below HBw.out HBw.out.size)
              rw [hTl] at hha
              obtain ⟨g, hg⟩ : ∃ g, hasS L A[j].mustL[q] = g := ⟨_, rfl⟩
              rw [hg] at hha
              have HHa := Lib.hid hha
              have HG := Lib.hid hg
              have HTl := Lib.hid hTl
              clear hT hTl e0 hha hg
              cases g with
              | true =>
                have HA2 : Hid (∀ k (hk : k < A[j].mustL.length), k < q + 1 → hasS L A[j].mustL[k] = true) := Lib.hid (fun k h1 h3 => by
                  by_cases hk : k < q
                  · exact HAll.out k h1 hk
                  · obtain rfl : k = q := by omega
                    exact HG.out)
                go_wp2_with (go_at_call 63; refine (HHa.out).mono ?_; rintro e w5 ⟨rfl, hb5⟩; have HB5 := Lib.hid (HBq.out.trans (hb5.mono hbqs)); clear hb5)
                go_roundw
                case rel => exact ⟨q + 1, by omega, by go_num, HA2, HB5.out⟩
                case measure => simp [intOf]; omega
              | false =>
                have hf : R = false := by rw [HR.out]; exact classed_must HQ.out (List.getElem_mem hlA) (List.getElem_mem hlM) HG.out
                subst hf
                go_wp2_with (go_at_call 63; refine (HHa.out).mono ?_; rintro e w5 ⟨rfl, hb5⟩; have HB5 := Lib.hid (bthen HBw.out hb5); clear hb5)
                go_ret
                exact ⟨rfl, HB5.out⟩
            · obtain rfl : q = pn := by omega
              have t5 : decide ((q : Int) < (q : Int)) = false := by simp
              have t5' : decide (q < q) = false := by simp
              have HMu2 : Hid (∀ k (hk : k < A.length), k < j + 1 → ∀ t ∈ A[k].mustL, hasS L t = true) := Lib.hid (fun k h1 h3 => by
                by_cases hk : k < j
                · exact HMu.out k h1 hk
                · obtain rfl : k = j := by omega
                  intro t ht
                  obtain ⟨i, hi, rfl⟩ := List.getElem_of_mem ht
                  exact HAll.out i hi (by rw [HPn.out]; exact hi))
              have HX := Lib.hid (HBx.out.below HBq.out (by omega))
              obtain ⟨p0, p1, p2, p3, p4⟩ := HX.out.cells
              have HI1 := Lib.hid ((ownS_isT HOwn.out (by unfold maxLen; have := HLn.out; omega)).below HBr.out HBr.out.size)
              have HI2 := Lib.hid (HT1.out.below HB0.out HB0.out.size)
              have HI3 := Lib.hid (HT2.out.below HB0.out HB0.out.size)
              have hU : [mayC (A.take j), A[j].mustL, A[j].mayL].flatten.length ≤ 100000 := by
                have := HLn.out; have := HPn.out; have := HQn.out
                simp; omega
              have HU2 := Lib.hid hU
              have HFl : Hid ([mayC (A.take j), A[j].mustL, A[j].mayL].flatten = mayC (A.take (j + 1))) := Lib.hid (by rw [mayC_take A j hlA]; simp)
              have hba2 : Below wr.heap.size wr (wr.alloc (.cells #[.slice la ln lc, .slice pa q pc, .slice qa qn qc] 29)) := (Below.refl _ _).alloc (Nat.le_refl _) _
              have HB8 := Lib.hid (bthen HB0.out hba2)
              clear hU hba2
              go_wp2_with (go_at_call 67; refine (concat_any [mayC (A.take j), A[j].mustL, A[j].mayL] HU2.out (by simp) _ _ (isTT_three (n0 := 0) HI1.out HI2.out HI3.out 29)).mono ?_; rintro e w6 ⟨v6, rfl, ho6, hb6⟩; (rw [HFl.out] at ho6); (obtain ⟨ra, rc, hrv⟩ := ownS_slice ho6); subst hrv; have HO6 := Lib.hid (ownS_lower (B' := w3.heap.size) ho6 HB8.out.size); have HB6 := Lib.hid (bthen HB8.out hb6); clear ho6 hb6)
              go_roundw
              case rel => exact ⟨j + 1, by omega, by go_num, HMu2, HO6.out, HB6.out⟩
              case measure => simp [intOf]; omega
        · obtain rfl : j = m := by omega
          have t3 : decide ((j : Int) < (j : Int)) = false := by simp
          have t3' : decide (j < j) = false := by simp
          have HTk : Hid (A.take j = A) := Lib.hid (by rw [HM.out, List.take_length])
          have HMay : Hid (IsT wo.heap.size wo (mayC A) (.slice la ln lc)) := Lib.hid (by have := ownS_isT HOwn.out (by unfold maxLen; have := HLn.out; omega); rwa [HTk.out] at this)
          have HMust : Hid (∀ c ∈ A, ∀ t ∈ c.mustL, hasS L t = true) := Lib.hid (fun c hc => by
            obtain ⟨k, hk, rfl⟩ := List.getElem_of_mem hc
            exact HMu.out k hk (by rw [HM.out]; exact hk))
          clear hbel
          go_wp2
          go_loopw [48] (fun i wr => ∃ (q : Nat), q ≤ n ∧ i = .int .i64 q ∧ Hid (∀ k (hk : k < L.length), k < q → (mayC A).contains L[k].1 = true) ∧ Below wo.heap.size wo wr) (fun i wr => n - (intOf i).toNat)
          case atStart => exact ⟨0, by omega, rfl, Lib.hid (fun k _ h => absurd h (by omega)), Below.refl _ _⟩
          case round =>
            obtain ⟨q, hq, rfl, HAll, hbq⟩ := hrel
            have HBq := Lib.hid hbq
            have hbqs := hbq.size
            by_cases hlt : q < n
            · have t5 : decide ((q : Int) < (n : Int)) = true := by simp; omega
              have t5' : decide (q < n) = true := by simpa using hlt
              have hlL : q < L.length := by rw [← HN.out]; exact hlt
              obtain ⟨b, off, u, hae, hb0, c0, c1, ht⟩ := HC.out q hlL
              subst hae
              obtain ⟨ua, uc, hu, _⟩ := id ht
              obtain ⟨un, hun⟩ : ∃ k, k = L[q].2.length := ⟨_, rfl⟩
              rw [← hun] at hu
              subst hu
              obtain ⟨X, hX⟩ : ∃ X : ByteArray, ⟨L[q].1.toArray⟩ = X := ⟨_, rfl⟩
              have hXl : X.data.toList = L[q].1 := by rw [← hX]
              have hbw : Below w.heap.size w wr := (bthen HB3.out HBel.out).trans (HBq.out.mono (Nat.le_trans HB3.out.size HBel.out.size))
              have d0 : (wr.cell? ⟨b, off + q * 2, none⟩) = some (.string X) := by
                rw [hbw.cell (p := ⟨b, _, none⟩) hb0, c0, ← hX]; rfl
              have d1 := (hbw.cell (p := ⟨b, off + q * 2 + 1, none⟩) hb0).trans c1
              have HA := Lib.hid (Below.alloc HBq.out hbqs (.cells #[.string X, .slice ua un uc] 31))
              have HCo := Lib.hid (containsS_any (mayC A) (.slice la ln lc) X _ (HMay.out.below HA.out HA.out.size))
              rw [hXl] at HCo
              obtain ⟨g, hg⟩ : ∃ g, (mayC A).contains L[q].1 = g := ⟨_, rfl⟩
              rw [hg] at HCo
              have HG := Lib.hid hg
              clear hun hX hXl c0 c1 ht hbq hbw hg
              cases g with
              | true =>
                have HA2 : Hid (∀ k (hk : k < L.length), k < q + 1 → (mayC A).contains L[k].1 = true) := Lib.hid (fun k h1 h3 => by
                  by_cases hk : k < q
                  · exact HAll.out k h1 hk
                  · obtain rfl : k = q := by omega
                    exact HG.out)
                go_wp2_with (go_at_call 68; refine (HCo.out).mono ?_; rintro e w5 ⟨rfl, rfl⟩)
                go_roundw
                case rel => exact ⟨q + 1, by omega, by go_num, HA2, HA.out⟩
                case measure => simp [intOf]; omega
              | false =>
                have hf : R = false := by rw [HR.out]; exact classed_may HQ.out (List.getElem_mem hlL) HG.out
                subst hf
                go_wp2_with (go_at_call 68; refine (HCo.out).mono ?_; rintro e w5 ⟨rfl, rfl⟩)
                go_ret
                exact ⟨rfl, (bthen HB3.out HBel.out).trans (HA.out.mono (Nat.le_trans HB3.out.size HBel.out.size))⟩
            · obtain rfl : q = n := by omega
              have t5 : decide ((q : Int) < (q : Int)) = false := by simp
              have t5' : decide (q < q) = false := by simp
              have hf : R = true := by
                rw [HR.out]
                exact classed_is HQ.out HMust.out (fun a ha => by
                  obtain ⟨k, hk, rfl⟩ := List.getElem_of_mem ha
                  exact HAll.out k hk (by rw [HN.out]; exact hk))
              subst hf
              clear hbq
              go_wp2
              go_ret
              exact ⟨rfl, (bthen HB3.out HBel.out).trans (HBq.out.mono (Nat.le_trans HB3.out.size HBel.out.size))⟩
end Go.Proofs.YtaapdipejpbdeaaGreatDoor

/- schema.Check: the walk. -/
namespace Go.Proofs.YtaapdipejpbdeaaGreatDoor
open Go.RowKit
set_option linter.unusedVariables false

/-- An entry in a block of its own. -/
def BoxN (w : World) (b : Nat) (x : ByteArray) (u : Value) : Prop := w.heap[b]? = some (.cells #[.string x, u] 25 (0, 0))
theorem BoxN.below {w w' : World} {b n : Nat} {x : ByteArray} {u : Value} (h : BoxN w b x u) (hb : Below n w w') (hn : b < n) : BoxN w' b x u := (hb.block b hn).trans h
theorem BoxN.cells {w : World} {b : Nat} {x : ByteArray} {u : Value} (h : BoxN w b x u) : w.cell? ⟨b, 0, none⟩ = some (.string x) ∧ w.cell? ⟨b, 1, none⟩ = some u := by
  unfold BoxN at h
  simp [World.cell?, h]
theorem boxN_new (w : World) (x : ByteArray) (u : Value) : BoxN (w.alloc (.cells #[.string x, u] 25)) w.heap.size x u := heap_alloc_new w _

theorem norm_short {r : Nat} {v x : List UInt8} (h : normD r v = some x) : v.length ≤ 100 := by
  unfold normD at h
  split at h
  · cases h
  · rename_i hn
    have := not_or.1 hn
    omega
theorem norms_short {r : Nat} : ∀ {V l : List (List UInt8)}, normsS r V = some l → ∀ v ∈ V, v.length ≤ 100
  | [], l, h, v, hv => by simp at hv
  | x :: V, l, h, v, hv => by
    simp only [normsS] at h
    cases e : normD r x with
    | none => rw [e] at h; cases h
    | some y =>
      rw [e] at h
      cases e2 : normsS r V with
      | none => rw [e2] at h; cases h
      | some m =>
        rcases List.mem_cons.1 hv with rfl | hv
        · exact norm_short e
        · exact norms_short e2 v hv
theorem most_le (t : List UInt8) : mostS t ≤ 40 := by unfold mostS; split <;> omega
theorem vals_small {t : List UInt8} {V : List (List UInt8)} (h : valsC t V = 0) : V.length ≤ 40 ∧ ∀ v ∈ V, v.length ≤ 100 := by
  unfold valsC at h
  split at h
  · omega
  · rename_i hn
    have hm := most_le t
    have := not_or.1 hn
    refine ⟨by omega, ?_⟩
    cases e : normsS (ruleD t) V with
    | none => rw [e] at h; simp at h
    | some l => exact norms_short e
def soundS (A : List AT) : Prop := ∀ a ∈ A, a.2.length ≤ 40 ∧ ∀ v ∈ a.2, v.length ≤ 100
theorem sound_small : ∀ {L A B : List AT}, soundR A L = .ok B → soundS A → soundS B ∧ B.length ≤ A.length + L.length
  | [], A, B, h, hA => by simp only [soundR, Except.ok.injEq] at h; subst h; exact ⟨hA, by simp⟩
  | a :: l, A, B, h, hA => by
    simp only [soundR] at h
    cases e : canonD a.1 with
    | none => rw [e] at h; simp at h
    | some t =>
      rw [e] at h
      simp only at h
      split at h
      · simp at h
      · split at h
        · rename_i h0
          have := sound_small h (fun x hx => (List.mem_append.1 hx).elim (hA x) (fun hx => by
            rw [List.mem_singleton] at hx
            rw [hx]
            exact vals_small h0))
          exact ⟨this.1, by have := this.2; simp at this ⊢; omega⟩
        · simp at h
theorem vals_of_small {A : List AT} (h : soundS A) (t : List UInt8) : smallT (valsS A t) := by
  unfold valsS
  split
  · rename_i a ha
    have := h a (List.mem_of_find?_eq_some ha)
    exact ⟨by omega, fun v hv => by have := this.2 v hv; omega⟩
  · exact ⟨by simp, fun v hv => by simp at hv⟩
theorem key_parts {d k : List UInt8} (h : keyD d = some k) (hk : k ≠ []) : ∃ r rs, parseD d = some (r :: rs) := by
  rw [keyD_eq] at h
  cases e : parseD d with
  | none => rw [e] at h; cases h
  | some l =>
    cases l with
    | nil =>
      rw [e] at h
      exact absurd (by
        simp only [Option.bind_some, keyL] at h
        simpa [textD] using h.symm) hk
    | cons r rs => exact ⟨r, rs, rfl⟩
theorem check_none {d : List UInt8} {L : List AT} (h : keyD d = none) : checkD d L = 34 := by unfold checkD; rw [h]
theorem check_empty {d : List UInt8} {L : List AT} (h : keyD d = some []) : checkD d L = 34 := by unfold checkD; rw [h]; rfl
theorem check_many {d k : List UInt8} {L : List AT} (h : keyD d = some k) (hk : k ≠ []) (hl : 20 < L.length) : checkD d L = 19 := by unfold checkD; rw [h]; simp only; rw [if_neg hk, if_pos hl]
theorem check_sound {d k : List UInt8} {L : List AT} (h : keyD d = some k) (hk : k ≠ []) (hl : ¬ 20 < L.length) {c : Int} (hs : soundR [] L = .error c) : checkD d L = c := by unfold checkD; rw [h]; simp only; rw [if_neg hk, if_neg hl, hs]
theorem check_behind {d k : List UInt8} {L A : List AT} (h : keyD d = some k) (hk : k ≠ []) (hl : ¬ 20 < L.length) (hs : soundR [] L = .ok A) : checkD d L = behindD A d := by unfold checkD; rw [h]; simp only; rw [if_neg hk, if_neg hl, hs]

set_option maxRecDepth 100000 in
set_option maxHeartbeats 8000000 in
theorem checkE_any (D : ByteArray) (hD : D.size ≤ 1000000) (L : List AT) (v : Value) (w : World) (hw : LaidW w) (hl : LaidF w) (h : IsA w.heap.size w L v) :
    Calls Tryz.prog 10 #[.agg #[.string D, v]] w fun e w' => e = .returned (.int .i64 (checkD D.data.toList L)) ∧ Below w.heap.size w w' := by
  obtain ⟨R, hR⟩ : ∃ R, R = checkD D.data.toList L := ⟨_, rfl⟩
  rw [← hR]
  have hke := fun w => key_any D (by omega) w
  obtain ⟨sa, sc, hv, hmx, _⟩ := id h
  obtain ⟨n, hn⟩ : ∃ n, n = L.length := ⟨_, rfl⟩
  rw [← hn] at hv hmx
  unfold maxLen at hmx
  subst hv
  have HI := Lib.hid h
  have HN := Lib.hid hn
  have HR := Lib.hid hR
  have hb0 : Below w.heap.size w (w.alloc (.cells #[.string D, .slice sa n sc] 25)) := (Below.refl _ _).alloc (Nat.le_refl _) _
  have HB0 := Lib.hid hb0
  have HBx := Lib.hid (boxN_new w D (.slice sa n sc))
  have HW := Lib.hid hw
  have HF := Lib.hid hl
  clear h hn hR hb0 hw hl
  cases hq : keyD D.data.toList with
  | none =>
    have hf : R = 34 := by rw [HR.out, check_none hq]
    subst hf
    rw [hq] at hke
    simp only [keyV] at hke
    have HK := Lib.hid hke
    clear hke hq HR
    go_enter Tryz.func10, Tryz.ntmps10
    go_wp2_with (go_at_call 28; refine (HK.out _).mono ?_; rintro e w2 ⟨rfl, hb2⟩; have HB2 := Lib.hid (HB0.out.trans (hb2.mono HB0.out.size)); clear hb2)
    go_ret
    exact ⟨rfl, HB2.out⟩
  | some k =>
    rw [hq] at hke
    simp only [keyV] at hke
    by_cases hk : k = []
    · subst hk
      have hf : R = 34 := by rw [HR.out, check_empty hq]
      subst hf
      have HK := Lib.hid hke
      clear hke hq HR
      go_enter Tryz.func10, Tryz.ntmps10
      go_wp2_with (go_at_call 28; refine (HK.out _).mono ?_; rintro e w2 ⟨rfl, hb2⟩; have HB2 := Lib.hid (HB0.out.trans (hb2.mono HB0.out.size)); clear hb2)
      go_ret
      exact ⟨rfl, HB2.out⟩
    · obtain ⟨K, hK⟩ : ∃ K : ByteArray, K = ⟨k.toArray⟩ := ⟨_, rfl⟩
      have hKl : K.data.toList = k := by rw [hK]
      rw [← hK] at hke
      have hne : K ≠ ⟨#[]⟩ := fun e => hk (by rw [← hKl, e])
      have e1 := str_ne hne
      have e2 : (K.toList == []) = false := by
        have h2 : K.toList ≠ [] := by rw [ByteArray.toList_eq, hKl]; exact hk
        simpa using h2
      have e3 : K.toList.isEmpty = false := by
        have h2 : K.toList ≠ [] := by rw [ByteArray.toList_eq, hKl]; exact hk
        simpa [List.isEmpty_iff] using h2
      have e4 : (K.toList = []) = False := by
        have h2 : K.toList ≠ [] := by rw [ByteArray.toList_eq, hKl]; exact hk
        simpa using h2
      have HK := Lib.hid hke
      have HQ := Lib.hid hq
      have HKk := Lib.hid hk
      clear hke hq hk hK hKl hne
      by_cases hm : 20 < n
      · have hf : R = 19 := by rw [HR.out, check_many HQ.out HKk.out (by rw [← HN.out]; exact hm)]
        subst hf
        have t1 : decide ((20 : Int) < (n : Int)) = true := by simp; omega
        have t1' : decide (20 < n) = true := by simpa using hm
        clear HR
        go_enter Tryz.func10, Tryz.ntmps10
        go_wp2_with (go_at_call 28; refine (HK.out _).mono ?_; rintro e w2 ⟨rfl, hb2⟩; have HX2 := Lib.hid (HBx.out.below hb2 (by simp)); (obtain ⟨f0, f1⟩ := HX2.out.cells); have HB2 := Lib.hid (HB0.out.trans (hb2.mono HB0.out.size)); clear hb2)
        go_ret
        exact ⟨rfl, HB2.out⟩
      · have t1 : decide ((20 : Int) < (n : Int)) = false := by simp; omega
        have t1' : decide (20 < n) = false := by simpa using hm
        have hL20 : ¬ 20 < L.length := by rw [← HN.out]; exact hm
        have hso := fun (W : World) (q : LaidW W) (q2 : IsA W.heap.size W L (.slice sa n sc)) => sound_any L (by omega) (.slice sa n sc) W q q2
        cases hs : soundR [] L with
        | error c =>
          have hc0 := sound_err hs
          rw [hs] at hso
          have hf : R = c := by rw [HR.out, check_sound HQ.out HKk.out hL20 hs]
          subst hf
          have t2 : (R != 0) = true := by simpa using hc0
          have HSo := Lib.hid hso
          clear HR hso hs hL20 hc0
          go_enter Tryz.func10, Tryz.ntmps10
          go_wp2_with (first
            | (go_at_call 28; refine (HK.out _).mono ?_; rintro e w2 ⟨rfl, hb2⟩; have HX2 := Lib.hid (HBx.out.below hb2 (by simp)); (obtain ⟨f0, f1⟩ := HX2.out.cells); have HB2 := Lib.hid (HB0.out.trans (hb2.mono HB0.out.size)); clear hb2)
            | (go_at_call 29; refine (HSo.out _ (HW.out.below HB2.out) (HI.out.below HB2.out HB2.out.size)).mono ?_; rintro e w3 hsw; (simp only [SoundW] at hsw); (obtain ⟨hb3, rfl⟩ := hsw); have HB3 := Lib.hid (bthen HB2.out hb3); clear hb3))
          go_ret
          exact ⟨rfl, HB3.out⟩
        | ok A =>
          rw [hs] at hso
          obtain ⟨hsm, hAl⟩ := sound_small hs (fun a ha => by simp at ha)
          have hf : R = behindD A D.data.toList := by rw [HR.out, check_behind HQ.out HKk.out hL20 hs]
          obtain ⟨r, rs, hp⟩ := key_parts HQ.out HKk.out
          have hAl2 : A.length ≤ 20 := by simp at hAl; omega
          obtain ⟨an, han⟩ : ∃ k, k = A.length := ⟨_, rfl⟩
          rw [← han] at hAl2
          have HAn := Lib.hid han
          have hcl := fun (u : Value) (W : World) (q : LaidF W) (q2 : IsA W.heap.size W A u) => isClassed_any A (by omega) (vals_of_small hsm objB) u W q q2
          have hnm := fun (u : Value) (W : World) (q : LaidW W) (q2 : IsA W.heap.size W A u) => isNamed_any A (by omega) D hD r rs hp u W q q2
          obtain ⟨c, hc⟩ : ∃ c, classedD A = c := ⟨_, rfl⟩
          obtain ⟨m, hm2⟩ : ∃ c, namedD A D.data.toList = c := ⟨_, rfl⟩
          unfold behindD at hf
          rw [hc, hm2] at hf
          rw [hc] at hcl
          rw [hm2] at hnm
          have HSo := Lib.hid hso
          have HCl := Lib.hid hcl
          have HNm := Lib.hid hnm
          clear HR hso hs hL20 hsm hAl hp han hcl hnm hc hm2
          cases c with
          | false =>
            simp only [if_true] at hf
            subst hf
            go_enter Tryz.func10, Tryz.ntmps10
            go_wp2_with (first
              | (go_at_call 28; refine (HK.out _).mono ?_; rintro e w2 ⟨rfl, hb2⟩; have HX2 := Lib.hid (HBx.out.below hb2 (by simp)); (obtain ⟨f0, f1⟩ := HX2.out.cells); have hz2 := hb2.size; (simp only [World.size_alloc] at hz2); have HB2 := Lib.hid (HB0.out.trans (hb2.mono HB0.out.size)); clear hb2)
              | (go_at_call 29; refine (HSo.out _ (HW.out.below HB2.out) (HI.out.below HB2.out HB2.out.size)).mono ?_; rintro e w3 hsw; (simp only [SoundW] at hsw); (obtain ⟨hb3, u, rfl, ho3⟩ := hsw); (obtain ⟨ua, uc, hue⟩ := ownV_slice ho3); (rw [← HAn.out] at hue); subst hue; have HB3 := Lib.hid (bthen HB2.out hb3); have HA3 := Lib.hid (ownV_isA ho3 (by unfold maxLen; have := HAn.out; omega) hb3.size); clear hb3 ho3)
              | (go_at_call 30; refine (HCl.out _ _ (HF.out.below HB3.out) HA3.out).mono ?_; rintro e w4 ⟨rfl, hb4⟩; have HB4 := Lib.hid (bthen HB3.out hb4); clear hb4))
            go_ret
            exact ⟨rfl, HB4.out⟩
          | true =>
            simp only [Bool.true_eq_false, if_false] at hf
            cases m with
            | false =>
              simp only [if_true] at hf
              subst hf
              go_enter Tryz.func10, Tryz.ntmps10
              go_wp2_with (first
                | (go_at_call 28; refine (HK.out _).mono ?_; rintro e w2 ⟨rfl, hb2⟩; have HX2 := Lib.hid (HBx.out.below hb2 (by simp)); (obtain ⟨f0, f1⟩ := HX2.out.cells); have hz2 := hb2.size; (simp only [World.size_alloc] at hz2); have HB2 := Lib.hid (HB0.out.trans (hb2.mono HB0.out.size)); clear hb2)
                | (go_at_call 29; refine (HSo.out _ (HW.out.below HB2.out) (HI.out.below HB2.out HB2.out.size)).mono ?_; rintro e w3 hsw; (simp only [SoundW] at hsw); (obtain ⟨hb3, u, rfl, ho3⟩ := hsw); (obtain ⟨ua, uc, hue⟩ := ownV_slice ho3); (rw [← HAn.out] at hue); subst hue; have HX3 := Lib.hid (HX2.out.below hb3 (by omega)); have hz3 := hb3.size; have HB3 := Lib.hid (bthen HB2.out hb3); have HA3 := Lib.hid (ownV_isA ho3 (by unfold maxLen; have := HAn.out; omega) hb3.size); clear hb3 ho3)
                | (go_at_call 30; refine (HCl.out _ _ (HF.out.below HB3.out) HA3.out).mono ?_; rintro e w4 ⟨rfl, hb4⟩; have HX4 := Lib.hid (HX3.out.below hb4 (by omega)); (obtain ⟨k0, k1⟩ := HX4.out.cells); have HB4 := Lib.hid (bthen HB3.out hb4); have HA4 := Lib.hid (HA3.out.below hb4 hb4.size); clear hb4)
                | (go_at_call 31; refine (HNm.out _ _ (HW.out.below HB4.out) HA4.out).mono ?_; rintro e w5 ⟨rfl, hb5⟩; have HB5 := Lib.hid (bthen HB4.out hb5); clear hb5))
              go_ret
              exact ⟨rfl, HB5.out⟩
            | true =>
              simp only [Bool.true_eq_false, if_false] at hf
              subst hf
              go_enter Tryz.func10, Tryz.ntmps10
              go_wp2_with (first
                | (go_at_call 28; refine (HK.out _).mono ?_; rintro e w2 ⟨rfl, hb2⟩; have HX2 := Lib.hid (HBx.out.below hb2 (by simp)); (obtain ⟨f0, f1⟩ := HX2.out.cells); have hz2 := hb2.size; (simp only [World.size_alloc] at hz2); have HB2 := Lib.hid (HB0.out.trans (hb2.mono HB0.out.size)); clear hb2)
                | (go_at_call 29; refine (HSo.out _ (HW.out.below HB2.out) (HI.out.below HB2.out HB2.out.size)).mono ?_; rintro e w3 hsw; (simp only [SoundW] at hsw); (obtain ⟨hb3, u, rfl, ho3⟩ := hsw); (obtain ⟨ua, uc, hue⟩ := ownV_slice ho3); (rw [← HAn.out] at hue); subst hue; have HX3 := Lib.hid (HX2.out.below hb3 (by omega)); have hz3 := hb3.size; have HB3 := Lib.hid (bthen HB2.out hb3); have HA3 := Lib.hid (ownV_isA ho3 (by unfold maxLen; have := HAn.out; omega) hb3.size); clear hb3 ho3)
                | (go_at_call 30; refine (HCl.out _ _ (HF.out.below HB3.out) HA3.out).mono ?_; rintro e w4 ⟨rfl, hb4⟩; have HX4 := Lib.hid (HX3.out.below hb4 (by omega)); (obtain ⟨k0, k1⟩ := HX4.out.cells); have HB4 := Lib.hid (bthen HB3.out hb4); have HA4 := Lib.hid (HA3.out.below hb4 hb4.size); clear hb4)
                | (go_at_call 31; refine (HNm.out _ _ (HW.out.below HB4.out) HA4.out).mono ?_; rintro e w5 ⟨rfl, hb5⟩; have HB5 := Lib.hid (bthen HB4.out hb5); clear hb5))
              go_ret
              exact ⟨rfl, HB5.out⟩
end Go.Proofs.YtaapdipejpbdeaaGreatDoor

/- brooklaw4.Person, awake: the walks. -/
namespace Go.Proofs.YtaapdipejpbdeaaGreatDoor
open Go.RowKit
set_option linter.unusedVariables false

def perL (n : List UInt8) : List AT := [([99, 110], [n]), ([111, 98, 106, 101, 99, 116, 99, 108, 97, 115, 115], [[112, 101, 114, 115, 111, 110]]), ([115, 110], [[115]])]
def perD (n : List UInt8) : List UInt8 := [99, 110, 61] ++ n ++ [44, 111, 61, 120]

/-- The blocks of a person's attributes. -/
structure PerAt (w : World) (g : Nat) (N : ByteArray) : Prop where
  b1 : w.heap[g - 3]? = some (.cells #[.string N] 9 (0, 0))
  b2 : w.heap[g - 2]? = some (.cells #[.string ⟨#[112, 101, 114, 115, 111, 110]⟩] 9 (0, 0))
  b3 : w.heap[g - 1]? = some (.cells #[.string ⟨#[115]⟩] 9 (0, 0))
  b4 : w.heap[g]? = some (.cells #[.string ⟨#[99, 110]⟩, .slice (some ⟨g - 3, 0, none⟩) 1 1, .string ⟨#[111, 98, 106, 101, 99, 116, 99, 108, 97, 115, 115]⟩, .slice (some ⟨g - 2, 0, none⟩) 1 1, .string ⟨#[115, 110]⟩, .slice (some ⟨g - 1, 0, none⟩) 1 1] 31 (0, 0))
  lt : g < w.heap.size
theorem PerAt.below {w w' : World} {g n : Nat} {N : ByteArray} (h : PerAt w g N) (hb : Below n w w') (hn : g < n) : PerAt w' g N :=
  ⟨(hb.block _ (by omega)).trans h.b1, (hb.block _ (by omega)).trans h.b2, (hb.block _ (by omega)).trans h.b3, (hb.block _ hn).trans h.b4, Nat.lt_of_lt_of_le h.lt hb.size⟩
theorem isT_block {w : World} {b n0 : Nat} {X : ByteArray} {e : TypeId} (h : w.heap[b]? = some (.cells #[.string X] e (0, 0))) (hn : b < n0) : IsT n0 w [X.data.toList] (.slice (some ⟨b, 0, none⟩) 1 1) :=
  ⟨_, _, rfl, by unfold maxLen; simp, fun j hj => by
    have : j = 0 := by simp at hj; omega
    subst this
    refine ⟨b, 0, rfl, hn, ?_⟩
    rw [show [X.data.toList][0] = X.data.toList from rfl, strV_whole]
    simp only [World.cell?, h]; rfl⟩
theorem PerAt.isA {w : World} {g : Nat} {N : ByteArray} (h : PerAt w g N) : IsA w.heap.size w (perL N.data.toList) (.slice (some ⟨g, 0, none⟩) 3 3) := by
  have hg := h.lt
  refine ⟨_, _, rfl, by unfold maxLen perL; simp, fun j hj => ?_⟩
  match j, hj with
  | 0, _ => exact ⟨g, 0, _, rfl, hg, by simp only [World.cell?, h.b4]; rfl, by simp only [World.cell?, h.b4]; rfl, isT_block h.b1 (by omega)⟩
  | 1, _ => exact ⟨g, 0, _, rfl, hg, by simp only [World.cell?, h.b4]; rfl, by simp only [World.cell?, h.b4]; rfl, isT_block h.b2 (by omega)⟩
  | 2, _ => exact ⟨g, 0, _, rfl, hg, by simp only [World.cell?, h.b4]; rfl, by simp only [World.cell?, h.b4]; rfl, isT_block h.b3 (by omega)⟩

theorem PerAt.cells {w : World} {g : Nat} {N : ByteArray} (h : PerAt w g N) : w.cell? ⟨g, 2, none⟩ = some (.string ⟨#[111, 98, 106, 101, 99, 116, 99, 108, 97, 115, 115]⟩) ∧ w.cell? ⟨g, 3, none⟩ = some (.slice (some ⟨g - 2, 0, none⟩) 1 1) ∧ w.cell? ⟨g, 4, none⟩ = some (.string ⟨#[115, 110]⟩) ∧ w.cell? ⟨g, 5, none⟩ = some (.slice (some ⟨g - 1, 0, none⟩) 1 1) :=
  ⟨by simp only [World.cell?, h.b4]; rfl, by simp only [World.cell?, h.b4]; rfl, by simp only [World.cell?, h.b4]; rfl, by simp only [World.cell?, h.b4]; rfl⟩
theorem per_blocks (w : World) (N : ByteArray) (o : Obj) : PerAt (((((w.alloc o).alloc (.cells #[.string N] 9)).alloc (.cells #[.string ⟨#[112, 101, 114, 115, 111, 110]⟩] 9)).alloc (.cells #[.string ⟨#[115]⟩] 9)).alloc (.cells #[.string ⟨#[99, 110]⟩, .slice (some ⟨w.heap.size + 1, 0, none⟩) 1 1, .string ⟨#[111, 98, 106, 101, 99, 116, 99, 108, 97, 115, 115]⟩, .slice (some ⟨w.heap.size + 1 + 1, 0, none⟩) 1 1, .string ⟨#[115, 110]⟩, .slice (some ⟨w.heap.size + 1 + 1 + 1, 0, none⟩) 1 1] 31)) (w.heap.size + 4) N := by
  have s1 : (w.alloc o).heap.size = w.heap.size + 1 := by simp
  have e1 := heap_alloc_new (w.alloc o) (.cells #[.string N] 9)
  rw [s1] at e1
  generalize w.alloc o = W1 at s1 e1 ⊢
  have s2 : (W1.alloc (.cells #[.string N] 9)).heap.size = w.heap.size + 2 := by simp; omega
  have e2 := heap_alloc_new (W1.alloc (.cells #[.string N] 9)) (.cells #[.string ⟨#[112, 101, 114, 115, 111, 110]⟩] 9)
  rw [s2] at e2
  generalize W1.alloc (.cells #[.string N] 9) = W2 at s2 e1 e2 ⊢
  have s3 : (W2.alloc (.cells #[.string ⟨#[112, 101, 114, 115, 111, 110]⟩] 9)).heap.size = w.heap.size + 3 := by simp; omega
  have f1 := (heap_alloc_old W2 (.cells #[.string ⟨#[112, 101, 114, 115, 111, 110]⟩] 9) (show w.heap.size + 1 < W2.heap.size by omega)).trans e1
  have e3 := heap_alloc_new (W2.alloc (.cells #[.string ⟨#[112, 101, 114, 115, 111, 110]⟩] 9)) (.cells #[.string ⟨#[115]⟩] 9)
  rw [s3] at e3
  generalize W2.alloc (.cells #[.string ⟨#[112, 101, 114, 115, 111, 110]⟩] 9) = W3 at s3 e2 e3 f1 ⊢
  have s4 : (W3.alloc (.cells #[.string ⟨#[115]⟩] 9)).heap.size = w.heap.size + 4 := by simp; omega
  have g1 := (heap_alloc_old W3 (.cells #[.string ⟨#[115]⟩] 9) (show w.heap.size + 1 < W3.heap.size by omega)).trans f1
  have g2 := (heap_alloc_old W3 (.cells #[.string ⟨#[115]⟩] 9) (show w.heap.size + 2 < W3.heap.size by omega)).trans e2
  generalize W3.alloc (.cells #[.string ⟨#[115]⟩] 9) = W4 at s4 e3 g1 g2 ⊢
  generalize hO : Obj.cells #[.string ⟨#[99, 110]⟩, .slice (some ⟨w.heap.size + 1, 0, none⟩) 1 1, .string ⟨#[111, 98, 106, 101, 99, 116, 99, 108, 97, 115, 115]⟩, .slice (some ⟨w.heap.size + 1 + 1, 0, none⟩) 1 1, .string ⟨#[115, 110]⟩, .slice (some ⟨w.heap.size + 1 + 1 + 1, 0, none⟩) 1 1] 31 = O
  have e4 := heap_alloc_new W4 O
  rw [s4] at e4
  have k1 := (heap_alloc_old W4 O (show w.heap.size + 1 < W4.heap.size by omega)).trans g1
  have k2 := (heap_alloc_old W4 O (show w.heap.size + 2 < W4.heap.size by omega)).trans g2
  have k3 := (heap_alloc_old W4 O (show w.heap.size + 3 < W4.heap.size by omega)).trans e3
  exact ⟨k1, k2, k3, by rw [e4, ← hO]; rfl, by simp; omega⟩

theorem perAt_set {w : World} {g b : Nat} {N : ByteArray} {i : Nat} {x : Value} (h : PerAt w g N) (hb : b < g - 3) : PerAt (w.setCell ⟨b, i, none⟩ x) g N :=
  ⟨(block_ne w _ _ (show g - 3 ≠ b by omega)).trans h.b1, (block_ne w _ _ (show g - 2 ≠ b by omega)).trans h.b2, (block_ne w _ _ (show g - 1 ≠ b by omega)).trans h.b3, (block_ne w _ _ (show g ≠ b by omega)).trans h.b4, by rw [lt_set]; exact h.lt⟩

set_option maxRecDepth 100000 in
set_option maxHeartbeats 4000000 in
theorem person_any (N : ByteArray) (hN : N.size ≤ 1000) (w : World) : Calls Tryz.prog 27 #[.string N] w fun e w' => ∃ D g, e = .returned (.agg #[.string D, .slice (some ⟨g, 0, none⟩) 3 3]) ∧ D.data.toList = perD N.data.toList ∧ PerAt w' g N ∧ w.heap.size + 4 = g ∧ Below w.heap.size w w' := by
  obtain ⟨T, hT⟩ : ∃ T, (⟨#[99, 110, 61]⟩ : ByteArray) ++ N = T := ⟨_, rfl⟩
  obtain ⟨D, hD⟩ : ∃ D, T ++ (⟨#[44, 111, 61, 120]⟩ : ByteArray) = D := ⟨_, rfl⟩
  have hTs : T.size = 3 + N.size := by rw [← hT, ← bytes_len, app_list, List.length_append, bytes_len, bytes_len]; rfl
  have hDl : D.data.toList = perD N.data.toList := by rw [← hD, ← hT, app_list, app_list]; rfl
  have q1 : 3 + N.size ≤ 9223372036854775807 := by omega
  have q2 : T.size + 4 ≤ 9223372036854775807 := by omega
  have HDl := Lib.hid hDl
  have HP := Lib.hid (fun o => per_blocks w N o)
  have HB := Lib.hid (fun o => ((((((Below.refl w.heap.size w).alloc (Nat.le_refl _) o).alloc (by simp) (.cells #[.string N] 9)).alloc (by simp; omega) (.cells #[.string ⟨#[112, 101, 114, 115, 111, 110]⟩] 9)).alloc (by simp; omega) (.cells #[.string ⟨#[115]⟩] 9)).alloc (by simp; omega) (.cells #[.string ⟨#[99, 110]⟩, .slice (some ⟨w.heap.size + 1, 0, none⟩) 1 1, .string ⟨#[111, 98, 106, 101, 99, 116, 99, 108, 97, 115, 115]⟩, .slice (some ⟨w.heap.size + 1 + 1, 0, none⟩) 1 1, .string ⟨#[115, 110]⟩, .slice (some ⟨w.heap.size + 1 + 1 + 1, 0, none⟩) 1 1] 31)))
  clear hTs hDl
  go_enter Tryz.func27, Tryz.ntmps27
  go_wp2
  refine bodyPost_ret (v := .agg #[.string D, .slice (some ⟨w.heap.size + 4, 0, none⟩) 3 3]) (by simp [results, Tryz.results27, go_sem]) rfl ⟨D, w.heap.size + 4, rfl, HDl.out, ?_, rfl, ?_⟩
  · exact HP.out _
  · exact HB.out _

theorem awake_0 : checkD [] [] = 34 := by decide +kernel
theorem awake_1 : checkD (perD [97, 110, 110]) (perL [97, 110, 110]) = 0 := by decide +kernel
theorem awake_2 : checkD [99, 110, 61, 97, 110, 110] [] = 65 := by decide +kernel

set_option maxRecDepth 100000 in
set_option maxHeartbeats 4000000 in
theorem awake4_any (w : World) (hw : LaidW w) (hl : LaidF w) : Calls Tryz.prog 9 #[] w fun e w' => e = .returned (.bool true) ∧ Below w.heap.size w w' := by
  have hc1 := checkE_any ⟨#[]⟩ (by decide) [] (.slice none 0 0) w hw hl (isA_nil _ _ _ _)
  rw [show (⟨#[]⟩ : ByteArray).data.toList = [] from rfl, awake_0] at hc1
  have hc3 := fun (W : World) (q : LaidW W) (q2 : LaidF W) => checkE_any ⟨#[99, 110, 61, 97, 110, 110]⟩ (by decide) [] (.slice none 0 0) W q q2 (isA_nil _ _ _ _)
  rw [show (⟨#[99, 110, 61, 97, 110, 110]⟩ : ByteArray).data.toList = [99, 110, 61, 97, 110, 110] from rfl, awake_2] at hc3
  have HC1 := Lib.hid hc1
  have HC3 := Lib.hid hc3
  have HW := Lib.hid hw
  have HL := Lib.hid hl
  have HPe := Lib.hid (fun W => person_any ⟨#[97, 110, 110]⟩ (by decide) W)
  have tok1 : True := trivial
  clear hc1 hc3 hw hl
  go_enter Tryz.func9, Tryz.ntmps9
  go_wp2_with (first
    | (have _t := tok1; go_at_call 10; ((with_reducible refine (HC1.out).mono ?_); rintro e w2 ⟨rfl, hb2⟩); have HB2 := Lib.hid hb2; clear hb2 _t; clear tok1)
    | (go_at_call 27; go_loud ((with_reducible refine (HPe.out _).mono ?_); rintro e w3 ⟨D, g, rfl, hD, hp, hg, hb3⟩; have HB3 := Lib.hid (bthen HB2.out hb3); have HP := Lib.hid hp; have hc2 := checkE_any D (by rw [← bytes_len, hD]; simp [perD]) (perL [97, 110, 110]) _ _ (HW.out.below HB3.out) (HL.out.below HB3.out) hp.isA; (rw [hD] at hc2); (replace hc2 := (show Calls _ _ _ _ (fun e w' => e = .returned (.int .i64 (checkD (perD [97, 110, 110]) (perL [97, 110, 110]))) ∧ Below w3.heap.size w3 w') from hc2)); (rw [awake_1] at hc2); have HC2 := Lib.hid hc2; clear hD hp hc2 hb3))
    | (go_at_call 10; ((with_reducible refine (HC2.out).mono ?_); rintro e w4 ⟨rfl, hb4⟩); have HB4 := Lib.hid (bthen HB3.out hb4); clear hb4)
    | (go_at_call 10; ((with_reducible refine (HC3.out _ (HW.out.below HB4.out) (HL.out.below HB4.out)).mono ?_); rintro e w5 ⟨rfl, hb5⟩); have HB5 := Lib.hid (bthen HB4.out hb5); clear hb5))
  go_ret
  exact ⟨rfl, HB5.out⟩
end Go.Proofs.YtaapdipejpbdeaaGreatDoor

/- A row of bytes of the call's own, put through a function byte by byte; letters made great; what stays of it by Fold. -/
namespace Go.Proofs.YtaapdipejpbdeaaGreatDoor
open Go.RowKit
set_option linter.unusedVariables false

/-- The first j bytes of s have been put through f, in a row of the call's own. -/
def MapAt (f : UInt8 → UInt8) (w : World) (s : ByteArray) (j : Nat) (wr : World) : Prop :=
  Below w.heap.size w wr ∧ ∃ A : Array Value, wr.heap[w.heap.size]? = some (.cells A 5 (A.size, A.size + 1)) ∧ s.size ≤ A.size ∧ ∀ k (h : k < s.size), A[k]? = some (.int .u8 ((if k < j then f s[k] else s[k]).toNat : Int))

theorem mapAt_start (f : UInt8 → UInt8) (w : World) (s : ByteArray) : MapAt f w s 0 (Lib.bytesWorld w 5 s) := by
  refine ⟨⟨rfl, rfl, rfl, by rw [Lib.bytesWorld_size]; omega, fun k hk => Lib.bytesWorld_at_old w _ s k hk⟩, _, Lib.bytesWorld_at_new w _ s, by simp [Lib.bytesCells], fun k h => ?_⟩
  have hw := Lib.bytesWorld_cell w 5 s k h
  have h1 : k < s.data.toList.length := by simpa using h
  simp only [World.cell?, Lib.bytesWorld_at_new] at hw
  have hb : k < (Lib.bytesCells w 5 s).size := by simp [Lib.bytesCells]; omega
  rw [if_neg (by omega)]
  simp [List.getD, List.getElem?_eq_getElem h1] at hw
  exact hw

theorem MapAt.cell {f : UInt8 → UInt8} {w wr : World} {s : ByteArray} {j : Nat} (h : MapAt f w s j wr) (hj : j < s.size) : wr.cell? ⟨w.heap.size, j, none⟩ = some (.int .u8 (s[j].toNat : Int)) ∧ wr.frozen? ⟨w.heap.size, j, none⟩ = false := by
  obtain ⟨_, A, hA, hs, hc⟩ := h
  have := hc j hj
  rw [if_neg (by omega)] at this
  refine ⟨by simp only [World.cell?, hA]; simpa using this, by simp only [World.frozen?, hA]; simp; omega⟩
theorem MapAt.skip {f : UInt8 → UInt8} {w wr : World} {s : ByteArray} {j : Nat} (h : MapAt f w s j wr) (hj : j < s.size) (he : f s[j] = s[j]) : MapAt f w s (j + 1) wr := by
  obtain ⟨hb, A, hA, hs, hc⟩ := h
  refine ⟨hb, A, hA, hs, fun k hk => ?_⟩
  rw [hc k hk]
  by_cases h1 : k < j
  · rw [if_pos h1, if_pos (by omega)]
  · rw [if_neg h1]
    by_cases h2 : k = j
    · subst h2; rw [if_pos (by omega), he]
    · rw [if_neg (by omega)]
theorem MapAt.store {f : UInt8 → UInt8} {w wr : World} {s : ByteArray} {j : Nat} (h : MapAt f w s j wr) (hj : j < s.size) (n : Int) (hn : n = ((f s[j]).toNat : Int)) : MapAt f w s (j + 1) (wr.setCell ⟨w.heap.size, j, none⟩ (.int .u8 n)) := by
  subst hn
  obtain ⟨hb, A, hA, hs, hc⟩ := h
  refine ⟨hb.setCell (p := ⟨w.heap.size, j, none⟩) (Nat.le_refl _) _, A.setIfInBounds j (.int .u8 (f s[j]).toNat), ?_, by simpa using hs, fun k hk => ?_⟩
  · obtain ⟨hlt, hv⟩ := Array.getElem?_eq_some_iff.1 hA
    show (wr.heap.modify w.heap.size _)[w.heap.size]? = _
    rw [Array.getElem?_eq_getElem (by rw [Array.size_modify]; exact hlt), Array.getElem_modify_self, hv]
    simp
  · rw [Array.getElem?_setIfInBounds]
    by_cases h2 : j = k
    · subst h2; rw [if_pos rfl, if_pos (by omega), if_pos (by omega)]
    · rw [if_neg h2, hc k hk]
      by_cases h1 : k < j
      · rw [if_pos h1, if_pos (by omega)]
      · rw [if_neg h1, if_neg (by omega)]
theorem MapAt.conv {f : UInt8 → UInt8} {w wr : World} {s : ByteArray} {cap : Nat} (h : MapAt f w s s.size wr) :
    (convert 22 9 (.slice (some ⟨w.heap.size, 0, none⟩) s.size cap)).run Tryz.prog wr = .ok (.string ⟨(s.data.toList.map f).toArray⟩) wr := by
  obtain ⟨_, A, hA, hs, hc⟩ := h
  have hl : s.size = (s.data.toList.map f).length := by simp
  conv => lhs; rw [hl]
  refine run_convert_bytes_back wr 22 9 5 _ cap (s.data.toList.map f) Tryz.underlying22 Tryz.underlying5 Tryz.underlying9 fun j hj => ?_
  have hj' : j < s.size := by rw [hl]; exact hj
  have e : ((⟨w.heap.size, 0, none⟩ : Addr).add j) = ⟨w.heap.size, j, none⟩ := by simp [Addr.add]; omega
  have := hc j hj'
  rw [if_pos hj'] at this
  rw [e]
  simp only [World.cell?, hA]
  simp
  exact this


def upC (c : UInt8) : UInt8 := if 97 ≤ c.toNat ∧ c.toNat ≤ 122 then UInt8.ofNat (c.toNat - 32) else c
def upL (l : List UInt8) : List UInt8 := l.map upC
theorem upC_toNat (c : UInt8) : (upC c).toNat = if 97 ≤ c.toNat ∧ c.toNat ≤ 122 then c.toNat - 32 else c.toNat := by
  unfold upC; split
  · simp; omega
  · rfl
theorem lowC_upC (c : UInt8) : lowC (upC c) = lowC c := by
  have := all_bytes (fun c => lowC (upC c) == lowC c) (by decide +kernel) c
  simpa using this
theorem low_upL (l : List UInt8) : low (upL l) = low l := by simp [low, upL, lowC_upC]
theorem upL_length (l : List UInt8) : (upL l).length = l.length := by simp [upL]
theorem fold_up (n : Nat) (l : List UInt8) : fold (List.replicate n 32 ++ upL l ++ List.replicate n 32) = fold l := by
  rw [← fold_low, low_append, low_append, low_upL]
  have e : low (List.replicate n 32) = List.replicate n 32 := by simp [low, lowC]
  rw [e, fold_round]
theorem fold_more (n : Nat) (l : List UInt8) : fold (List.replicate n 32 ++ upL l ++ List.replicate n 32 ++ [32, 32, 90]) = fold (l ++ [32, 122]) := by
  have e : low (List.replicate n 32) = List.replicate n 32 := by simp [low, lowC]
  have e1 : fold (List.replicate n 32 ++ upL l ++ List.replicate n 32 ++ [32, 32, 90]) = fold (List.replicate n 32 ++ (low l ++ (List.replicate n 32 ++ [32, 32, 122]))) := by
    rw [← fold_low]
    simp only [low_append, low_upL, e]
    simp only [List.append_assoc]
    rfl
  have e2 : fold (l ++ [32, 122]) = fold (low l ++ [32, 122]) := by rw [← fold_low, low_append]; rfl
  rw [e1, e2]
  unfold fold
  rw [frun_ahead]
  have hb : ∀ (k : Nat) (st : List UInt8 × Bool), (List.replicate (k + 1) 32).foldl fstep st = (st.1, !st.1.isEmpty) := by
    intro k
    induction k with
    | zero => intro st; simp [fstep]
    | succ k ih => intro st; rw [List.replicate_succ, List.foldl_cons, ih]; simp [fstep]
  have h3 : List.replicate n 32 ++ ([32, 32, 122] : List UInt8) = List.replicate (n + 2) 32 ++ [122] := by
    rw [List.replicate_succ', List.replicate_succ']; simp
  rw [h3]
  unfold frun
  rw [List.foldl_append, List.foldl_append, hb, List.foldl_append]
  simp [fstep]
end Go.Proofs.YtaapdipejpbdeaaGreatDoor

/- The document's example of chapter 3: the walk. -/
namespace Go.Proofs.YtaapdipejpbdeaaGreatDoor
open Go.RowKit
set_option linter.unusedVariables false

theorem rule_cn : ruleD [99, 110] = 1 := by decide
theorem rule_sn : ruleD [115, 110] = 1 := by decide
theorem rule_mail : ruleD [109, 97, 105, 108] = 1 := by decide
theorem rule_pass : ruleD [117, 115, 101, 114, 80, 97, 115, 115, 119, 111, 114, 100] = 4 := by decide

end Go.Proofs.YtaapdipejpbdeaaGreatDoor

/- Letters in whatever case, blanks around and in rows: the walk. -/
namespace Go.Proofs.YtaapdipejpbdeaaGreatDoor
open Go.RowKit
set_option linter.unusedVariables false

theorem sameO_self {p q : Option (List UInt8)} {x : List UInt8} (h : p = some x) (k : q = some x) : sameO p q = true := by rw [h, k]; simp [sameO]
theorem bytesLess_self : ∀ l : List UInt8, Op.bytesLess l l = false
  | [] => rfl
  | c :: l => by
    have := bytesLess_self l
    simp [Op.bytesLess, this]
theorem normD_text {v : List UInt8} (h0 : v ≠ []) (h1 : v.length ≤ 100) (h2 : fold v ≠ []) : normD 1 v = some (fold v) := by
  unfold normD
  rw [if_neg (by rintro (h | h); exact h0 h; omega), if_pos rfl, if_neg h2]
theorem normD_pass {v : List UInt8} (h0 : v ≠ []) (h1 : v.length ≤ 100) : normD 4 v = some v := by
  unfold normD
  rw [if_neg (by rintro (h | h); exact h0 h; omega), if_neg (by decide), if_neg (by decide), if_neg (by decide), if_pos rfl]

end Go.Proofs.YtaapdipejpbdeaaGreatDoor

/- SchemaFirst: what is wrong first; no program. -/
namespace Go.Proofs.YtaapdipejpbdeaaGreatDoor
open Go.RowKit
set_option linter.unusedVariables false

theorem fstep_pre2 (st : List UInt8 × Bool) (c : UInt8) : st.1 <+: (fstep st c).1 := by
  by_cases h : c.toNat = 32
  · rw [fstep_blank st c h]; exact List.prefix_refl _
  · rw [fstep_other st c h]; simp only [List.append_assoc]; exact List.prefix_append _ _
theorem fsteps_pre2 : ∀ (l : List UInt8) (st : List UInt8 × Bool), st.1 <+: (l.foldl fstep st).1
  | [], st => List.prefix_refl _
  | c :: l, st => (fstep_pre2 st c).trans (fsteps_pre2 l (fstep st c))
theorem fold_head2 {c : UInt8} {l : List UInt8} (h : c.toNat ≠ 32) : ∃ r, fold (c :: l) = lowC c :: r := by
  have := fsteps_pre2 l (fstep ([], false) c)
  rw [fstep_other _ c h] at this
  obtain ⟨r, hr⟩ := this
  exact ⟨r, by show (List.foldl fstep ([], false) (c :: l)).1 = _; rw [List.foldl_cons, fstep_other _ c h]; simpa using hr.symm⟩

def codeL : List Int := [17, 19, 21, 19, 20, 20]
def badL : List AT := [([110, 111, 110, 101], [[120]]), ([100, 101, 115, 99, 114, 105, 112, 116, 105, 111, 110], []), ([117, 105, 100, 110, 117, 109, 98, 101, 114], [[120]]), ([117, 105, 100, 110, 117, 109, 98, 101, 114], [[49], [50]]), ([109, 97, 105, 108], [[97], [65, 32]]), ([67, 78], [[122]])]
def othD : List UInt8 := [99, 110, 61, 111, 116, 104, 101, 114]
/-- A person's name: p, and what is behind. -/
def pName (d : List UInt8) : List UInt8 := 112 :: d
theorem p_norm (d : List UInt8) (h : d.length ≤ 90) : ∃ r, normD 1 (pName d) = some (112 :: r) := by
  obtain ⟨r, hr⟩ := fold_head2 (c := 112) (l := d) (by decide)
  have hr2 : fold (pName d) = 112 :: r := hr
  exact ⟨r, by rw [normD_text (by simp [pName]) (by simp [pName]; omega) (by rw [hr2]; simp), hr2]⟩
theorem p_vals (d : List UInt8) (h : d.length ≤ 90) : valsC [99, 110] [pName d] = 0 := by
  obtain ⟨r, hr⟩ := p_norm d h
  unfold valsC
  rw [if_neg (by simp [mostS]), show ruleD [99, 110] = 1 from by decide]
  have e : normsS 1 [pName d] = some [112 :: r] := by
    simp only [normsS]
    rw [hr]
    rfl
  rw [e]
  simp
theorem p_step (d : List UInt8) (h : d.length ≤ 90) (l : List AT) : soundR [] (([99, 110], [pName d]) :: l) = soundR [([99, 110], [pName d])] l :=
  sound_step (show canonD [99, 110] = some [99, 110] from by decide) rfl (p_vals d h)
theorem fst_sound (d : List UInt8) (h : d.length ≤ 90) (k : Nat) (hk : k < badL.length) (hk2 : k < codeL.length) (l : List AT) : soundR [] (([99, 110], [pName d]) :: badL[k] :: l) = .error codeL[k] := by
  rw [p_step d h]
  generalize pName d = X
  match k, hk, hk2 with
  | 0, _, _ => exact sound_none (show canonD [110, 111, 110, 101] = none from by decide)
  | 1, _, _ => exact (sound_vals (a := ([100, 101, 115, 99, 114, 105, 112, 116, 105, 111, 110], [])) (t := [100, 101, 115, 99, 114, 105, 112, 116, 105, 111, 110]) (by decide) rfl (by decide +kernel)).trans (congrArg Except.error (show valsC [100, 101, 115, 99, 114, 105, 112, 116, 105, 111, 110] [] = 19 by decide +kernel))
  | 2, _, _ => exact (sound_vals (a := ([117, 105, 100, 110, 117, 109, 98, 101, 114], [[120]])) (t := [117, 105, 100, 110, 117, 109, 98, 101, 114]) (by decide) rfl (by decide +kernel)).trans (congrArg Except.error (show valsC [117, 105, 100, 110, 117, 109, 98, 101, 114] [[120]] = 21 by decide +kernel))
  | 3, _, _ => exact (sound_vals (a := ([117, 105, 100, 110, 117, 109, 98, 101, 114], [[49], [50]])) (t := [117, 105, 100, 110, 117, 109, 98, 101, 114]) (by decide) rfl (by decide +kernel)).trans (congrArg Except.error (show valsC [117, 105, 100, 110, 117, 109, 98, 101, 114] [[49], [50]] = 19 by decide +kernel))
  | 4, _, _ => exact (sound_vals (a := ([109, 97, 105, 108], [[97], [65, 32]])) (t := [109, 97, 105, 108]) (by decide) rfl (by decide +kernel)).trans (congrArg Except.error (show valsC [109, 97, 105, 108] [[97], [65, 32]] = 20 by decide +kernel))
  | 5, _, _ => exact sound_twice (show canonD [67, 78] = some [99, 110] from by decide) rfl
theorem oth_key : keyD othD = some [99, 110, 61, 111, 116, 104, 101, 114] := by decide +kernel
theorem fst_x (d : List UInt8) (h : d.length ≤ 90) (k m : Nat) (hk : k < badL.length) (hk2 : k < codeL.length) (hm : m < badL.length) : checkD othD [([99, 110], [pName d]), badL[k], badL[m]] = codeL[k] :=
  check_sound oth_key (by simp) (by simp) (fst_sound d h k hk hk2 _)
theorem fst_y (L : List AT) : checkD [99, 110] L = 34 := check_none (by decide +kernel)
def ouA : AT := ([111, 117], [[97]])
theorem fst_z (d : List UInt8) (h : d.length ≤ 90) : checkD othD (perL (pName d) ++ [ouA]) = 65 := by
  have hs : soundR [] (perL (pName d) ++ [ouA]) = .ok (perL (pName d) ++ [ouA]) := by
    show soundR [] (([99, 110], [pName d]) :: _) = _
    rw [p_step d h]
    show _ = Except.ok (([99, 110], [pName d]) :: _)
    generalize pName d = X
    rfl
  rw [check_behind oth_key (by simp) (by simp [perL, ouA]) hs]
  unfold behindD
  rw [if_pos]
  generalize pName d = X
  rfl
theorem fst_e (d : List UInt8) (h : d.length ≤ 90) : checkD othD (perL (pName d)) = 64 := by
  have hs : soundR [] (perL (pName d)) = .ok (perL (pName d)) := by
    show soundR [] (([99, 110], [pName d]) :: _) = _
    rw [p_step d h]
    show _ = Except.ok (([99, 110], [pName d]) :: _)
    generalize pName d = X
    rfl
  rw [check_behind oth_key (by simp) (by simp [perL]) hs]
  unfold behindD
  have hc : classedD (perL (pName d)) = true := by generalize pName d = X; rfl
  rw [hc, if_neg (by simp), if_pos]
  unfold namedD
  rw [show parseD othD = some [([99, 110], [111, 116, 104, 101, 114])] from by decide +kernel]
  simp only
  obtain ⟨r, hr⟩ := p_norm d h
  rw [show (canonD [99, 110]).getD [] = [99, 110] from by decide, show valsS (perL (pName d)) [99, 110] = [pName d] from rfl, show ruleD [99, 110] = 1 from by decide]
  simp only [List.any_cons, List.any_nil, Bool.or_false]
  rw [hr, show normD 1 [111, 116, 104, 101, 114] = some [111, 116, 104, 101, 114] from by decide]
  simp [sameO]
end Go.Proofs.YtaapdipejpbdeaaGreatDoor

/- The document's Digits: the walk. -/
namespace Go.Proofs.YtaapdipejpbdeaaGreatDoor
open Go.RowKit
set_option linter.unusedVariables false

theorem conv_one (m : Int) (b : UInt8) (h : (b.toNat : Int) = m) (w : World) : (convert 22 9 (.slice (some ⟨w.heap.size, 0, none⟩) 1 1)).run Tryz.prog (w.alloc (.cells #[.int .u8 m] 5)) = .ok (.string (ofL [b])) (w.alloc (.cells #[.int .u8 m] 5)) := by
  subst h
  refine run_convert_bytes_back _ 22 9 5 _ 1 [b] Tryz.underlying22 Tryz.underlying5 Tryz.underlying9 fun j hj => ?_
  have : j = 0 := by simp at hj; omega
  subst this
  simp [Addr.add]
theorem decDigits_big {u : Nat} (h : 10 ≤ u) : Lib.decDigits u = Lib.decDigits (u / 10) ++ [UInt8.ofNat (48 + u % 10)] := by rw [Lib.decDigits, dif_neg (by omega)]
theorem digit_val (u : Nat) : ((UInt8.ofNat (48 + u % 10)).toNat : Int) = 48 + (u : Int) % 10 := by simp; omega
theorem digit_val1 (u : Nat) (h : u < 10) : ((UInt8.ofNat (48 + u)).toNat : Int) = 48 + (u : Int) := by simp; omega

theorem wrap_u64 (n : Int) : IntKind.u64.wrap n = n % 18446744073709551616 := by
  unfold IntKind.wrap
  simp [IntKind.bits, IntKind.signed]
set_option maxRecDepth 100000 in
set_option maxHeartbeats 4000000 in
theorem digitsNat_any (neg : Bool) (N : Nat) (hN : N ≤ 1000000000000000000) (hneg : neg = true → 1 ≤ N) (w : World) :
    Calls Tryz.prog 26 #[.int .i64 (if neg then -(N : Int) else N)] w fun e w' => e = .returned (.string (ofL (if neg then 45 :: Lib.decDigits N else Lib.decDigits N))) ∧ Below w.heap.size w w' := by
  have hlen : (Lib.decDigits N).length ≤ 21 := by
    have := Lib.itoa_length_le (N : Int) (by omega) (by omega)
    rw [Lib.itoa_nonneg] at this
    exact this
  obtain ⟨V, hV⟩ : ∃ V, V = (if neg then -(N : Int) else N) := ⟨_, rfl⟩
  rw [← hV]
  obtain ⟨U, hU⟩ : ∃ U, IntKind.u64.wrap V = U := ⟨_, rfl⟩
  have key : decide (V < 0) = neg ∧ (neg = true → IntKind.u64.wrap (-U) = N) ∧ (neg = false → U = N) := by
    cases neg with
    | false =>
      simp at hV
      refine ⟨by simp; omega, by simp, fun _ => ?_⟩
      rw [← hU, hV]; simp only [wrap_u64]; omega
    | true =>
      simp at hV
      have := hneg rfl
      refine ⟨by simp; omega, fun _ => ?_, by simp⟩
      rw [← hU, hV]; simp only [wrap_u64]; omega
  obtain ⟨k1, k2, k3⟩ := key
  clear hV
  have HLen := Lib.hid hlen
  clear hlen
  cases neg with
  | false =>
    have hUN := k3 rfl
    clear k3 k2 hneg
    subst hUN
    go_enter Tryz.func26, Tryz.ntmps26
    go_wp2
    go_loopw [3, 4] (fun u s wr => ∃ (m : Nat) (D : List UInt8), u = .int .u64 m ∧ s = .string (ofL D) ∧ m ≤ 1000000000000000000 ∧ Hid (Lib.decDigits N = Lib.decDigits m ++ D) ∧ D.length ≤ 21 ∧ Below w.heap.size w wr) (fun u _ _ => (intOf u).toNat)
    case atStart => exact ⟨N, [], rfl, rfl, hN, Lib.hid (by simp), by simp, Below.refl _ _⟩
    case round =>
      obtain ⟨m, D, rfl, rfl, hm, HD, hDl, hbel⟩ := hrel
      have HBel := Lib.hid hbel
      have hsz := hbel.size
      clear hbel
      have hs1 := ofL_size D
      by_cases h10 : 10 ≤ m
      · have t1 : decide ((10 : Int) ≤ (m : Int)) = true := by simp; omega
        have hcv := conv_one (48 + (m : Int) % 10) (UInt8.ofNat (48 + m % 10)) (digit_val m) wr
        have hnew : Lib.decDigits N = Lib.decDigits (m / 10) ++ (UInt8.ofNat (48 + m % 10) :: D) := by rw [HD.out, decDigits_big h10]; simp
        have hl2 : (UInt8.ofNat (48 + m % 10) :: D).length ≤ 21 := by have := HLen.out; rw [hnew] at this; simp at this ⊢; omega
        have HNew := Lib.hid hnew
        have hs2 := ofL_size [UInt8.ofNat (48 + m % 10)]
        have hap : ofL [UInt8.ofNat (48 + m % 10)] ++ ofL D = ofL (UInt8.ofNat (48 + m % 10) :: D) := ofL_app _ _
        have hs1' : (ofL D).size ≤ 21 := by omega
        have hs2' : (ofL [UInt8.ofNat (48 + m % 10)]).size ≤ 1 := by rw [hs2]; simp
        have HAp := Lib.hid hap
        clear hnew hs1 hs2 hap
        generalize UInt8.ofNat (48 + m % 10) = b at *
        go_wp2
        go_roundw
        case rel => exact ⟨m / 10, b :: D, by go_num, by rw [HAp.out], by omega, HNew, hl2, HBel.out.alloc hsz _⟩
        case measure => simp [intOf]; omega
      · have t1 : decide ((10 : Int) ≤ (m : Int)) = false := by simp; omega
        have hcv := conv_one (48 + (m : Int)) (UInt8.ofNat (48 + m)) (digit_val1 m (by omega)) wr
        have hnew : Lib.decDigits N = UInt8.ofNat (48 + m) :: D := by rw [HD.out, Lib.decDigits_one (by omega)]; rfl
        have hs2 := ofL_size [UInt8.ofNat (48 + m)]
        have hap : ofL [UInt8.ofNat (48 + m)] ++ ofL D = ofL (Lib.decDigits N) := by rw [ofL_app, hnew]; rfl
        have hs1' : (ofL D).size ≤ 21 := by omega
        have hs2' : (ofL [UInt8.ofNat (48 + m)]).size ≤ 1 := by rw [hs2]; simp
        have hs3 : (ofL (Lib.decDigits N)).size ≤ 21 := by rw [ofL_size]; exact HLen.out
        have hs4 : (⟨#[45]⟩ : ByteArray).size = 1 := rfl
        have hap2 : (⟨#[45]⟩ : ByteArray) ++ ofL (Lib.decDigits N) = ofL (45 :: Lib.decDigits N) := ofL_app [45] _
        have HAp2 := Lib.hid hap2
        clear hnew hs1 hs2 hap2
        generalize UInt8.ofNat (48 + m) = b at *
        obtain ⟨R, hR⟩ : ∃ R, R = ofL (Lib.decDigits N) := ⟨_, rfl⟩
        rw [← hR] at hap hs3 HAp2
        have HR := Lib.hid hR
        clear hR
        go_wp2
        go_ret
        exact ⟨by rw [← HR.out]; rfl, HBel.out.alloc hsz _⟩
  | true =>
    have hN1 := hneg rfl
    have k2' := k2 rfl
    clear k3 k2 hneg
    go_enter Tryz.func26, Tryz.ntmps26
    go_wp2
    go_loopw [3, 4] (fun u s wr => ∃ (m : Nat) (D : List UInt8), u = .int .u64 m ∧ s = .string (ofL D) ∧ m ≤ 1000000000000000000 ∧ Hid (Lib.decDigits N = Lib.decDigits m ++ D) ∧ D.length ≤ 21 ∧ Below w.heap.size w wr) (fun u _ _ => (intOf u).toNat)
    case atStart => exact ⟨N, [], rfl, rfl, hN, Lib.hid (by simp), by simp, Below.refl _ _⟩
    case round =>
      obtain ⟨m, D, rfl, rfl, hm, HD, hDl, hbel⟩ := hrel
      have HBel := Lib.hid hbel
      have hsz := hbel.size
      clear hbel
      have hs1 := ofL_size D
      by_cases h10 : 10 ≤ m
      · have t1 : decide ((10 : Int) ≤ (m : Int)) = true := by simp; omega
        have hcv := conv_one (48 + (m : Int) % 10) (UInt8.ofNat (48 + m % 10)) (digit_val m) wr
        have hnew : Lib.decDigits N = Lib.decDigits (m / 10) ++ (UInt8.ofNat (48 + m % 10) :: D) := by rw [HD.out, decDigits_big h10]; simp
        have hl2 : (UInt8.ofNat (48 + m % 10) :: D).length ≤ 21 := by have := HLen.out; rw [hnew] at this; simp at this ⊢; omega
        have HNew := Lib.hid hnew
        have hs2 := ofL_size [UInt8.ofNat (48 + m % 10)]
        have hap : ofL [UInt8.ofNat (48 + m % 10)] ++ ofL D = ofL (UInt8.ofNat (48 + m % 10) :: D) := ofL_app _ _
        have hs1' : (ofL D).size ≤ 21 := by omega
        have hs2' : (ofL [UInt8.ofNat (48 + m % 10)]).size ≤ 1 := by rw [hs2]; simp
        have HAp := Lib.hid hap
        clear hnew hs1 hs2 hap
        generalize UInt8.ofNat (48 + m % 10) = b at *
        go_wp2
        go_roundw
        case rel => exact ⟨m / 10, b :: D, by go_num, by rw [HAp.out], by omega, HNew, hl2, HBel.out.alloc hsz _⟩
        case measure => simp [intOf]; omega
      · have t1 : decide ((10 : Int) ≤ (m : Int)) = false := by simp; omega
        have hcv := conv_one (48 + (m : Int)) (UInt8.ofNat (48 + m)) (digit_val1 m (by omega)) wr
        have hnew : Lib.decDigits N = UInt8.ofNat (48 + m) :: D := by rw [HD.out, Lib.decDigits_one (by omega)]; rfl
        have hs2 := ofL_size [UInt8.ofNat (48 + m)]
        have hap : ofL [UInt8.ofNat (48 + m)] ++ ofL D = ofL (Lib.decDigits N) := by rw [ofL_app, hnew]; rfl
        have hs1' : (ofL D).size ≤ 21 := by omega
        have hs2' : (ofL [UInt8.ofNat (48 + m)]).size ≤ 1 := by rw [hs2]; simp
        have hs3 : (ofL (Lib.decDigits N)).size ≤ 21 := by rw [ofL_size]; exact HLen.out
        have hs4 : (⟨#[45]⟩ : ByteArray).size = 1 := rfl
        have hap2 : (⟨#[45]⟩ : ByteArray) ++ ofL (Lib.decDigits N) = ofL (45 :: Lib.decDigits N) := ofL_app [45] _
        have HAp2 := Lib.hid hap2
        clear hnew hs1 hs2 hap2
        generalize UInt8.ofNat (48 + m) = b at *
        obtain ⟨R, hR⟩ : ∃ R, R = ofL (Lib.decDigits N) := ⟨_, rfl⟩
        rw [← hR] at hap hs3 HAp2
        have HR := Lib.hid hR
        clear hR
        go_wp2
        go_ret
        exact ⟨by rw [HAp2.out]; rfl, HBel.out.alloc hsz _⟩

theorem digits_any (n : Int) (h0 : -1000000000000000000 ≤ n) (h1 : n ≤ 1000000000000000000) (w : World) :
    Calls Tryz.prog 26 #[.int .i64 n] w fun e w' => e = .returned (.string (ofL (Lib.itoa n))) ∧ Below w.heap.size w w' := by
  by_cases h : n < 0
  · have := digitsNat_any true n.natAbs (by omega) (by intro _; omega) w
    simp only [if_true] at this
    have e : -(n.natAbs : Int) = n := by omega
    rw [e] at this
    unfold Lib.itoa
    rw [if_pos h]
    exact this
  · have := digitsNat_any false n.toNat (by omega) (by intro h; cases h) w
    simp only [Bool.false_eq_true, if_false] at this
    have e : (n.toNat : Int) = n := by omega
    rw [e] at this
    unfold Lib.itoa
    rw [if_neg h]
    exact this
end Go.Proofs.YtaapdipejpbdeaaGreatDoor

/- SchemaFirst: the walk. -/
namespace Go.Proofs.YtaapdipejpbdeaaGreatDoor
open Go.RowKit
set_option linter.unusedVariables false

theorem itoa_short : ∀ n : Fin 256, (Lib.itoa (n.1 : Int)).length ≤ 3 := by decide +kernel
def bA (k : Nat) : AT := badL.getD k ([], [])
def bT (k : Nat) : ByteArray := ofL (bA k).1
def cK (k : Nat) : Int := codeL.getD k 0
def bV (h : Nat) (k : Nat) : Value := [.slice (some ⟨h + 1, 0, none⟩) 1 1, .slice none 0 0, .slice (some ⟨h + 2, 0, none⟩) 1 1, .slice (some ⟨h + 3, 0, none⟩) 2 2, .slice (some ⟨h + 4, 0, none⟩) 2 2, .slice (some ⟨h + 5, 0, none⟩) 1 1].getD k .nilIface
theorem fst_xk (d : List UInt8) (h : d.length ≤ 90) (k m : Nat) (hk : k < 6) (hm : m < 6) : checkD othD [([99, 110], [pName d]), bA k, bA m] = cK k := by
  have e := fst_x d h k m (show k < badL.length from hk) (show k < codeL.length from hk) (show m < badL.length from hm)
  have e1 : bA k = badL[k]'(show k < badL.length from hk) := by unfold bA; rw [List.getD_eq_getElem?_getD, List.getElem?_eq_getElem (show k < badL.length from hk)]; rfl
  have e2 : bA m = badL[m]'(show m < badL.length from hm) := by unfold bA; rw [List.getD_eq_getElem?_getD, List.getElem?_eq_getElem (show m < badL.length from hm)]; rfl
  have e3 : cK k = codeL[k]'(show k < codeL.length from hk) := by unfold cK; rw [List.getD_eq_getElem?_getD, List.getElem?_eq_getElem (show k < codeL.length from hk)]; rfl
  rw [e1, e2, e3]
  exact e
theorem bV_slice (h k : Nat) (hk : k < 6) : ∃ a n c, bV h k = .slice a n c := by
  match k, hk with
  | 0, _ => exact ⟨_, _, _, rfl⟩
  | 1, _ => exact ⟨_, _, _, rfl⟩
  | 2, _ => exact ⟨_, _, _, rfl⟩
  | 3, _ => exact ⟨_, _, _, rfl⟩
  | 4, _ => exact ⟨_, _, _, rfl⟩
  | 5, _ => exact ⟨_, _, _, rfl⟩

/-- The lists of what is wrong, and of the codes, as they lie. -/
structure FstAt (h : Nat) (W : World) (E : ByteArray) (u : Value) : Prop where
  box : BoxN W h E u
  b1 : W.heap[h + 1]? = some (.cells #[.string ⟨#[120]⟩] 9 (0, 0))
  b2 : W.heap[h + 2]? = some (.cells #[.string ⟨#[120]⟩] 9 (0, 0))
  b3 : W.heap[h + 3]? = some (.cells #[.string ⟨#[49]⟩, .string ⟨#[50]⟩] 9 (0, 0))
  b4 : W.heap[h + 4]? = some (.cells #[.string ⟨#[97]⟩, .string ⟨#[65, 32]⟩] 9 (0, 0))
  b5 : W.heap[h + 5]? = some (.cells #[.string ⟨#[122]⟩] 9 (0, 0))
  b6 : W.heap[h + 6]? = some (.cells #[.string ⟨#[110, 111, 110, 101]⟩, .slice (some ⟨h + 1, 0, none⟩) 1 1, .string ⟨#[100, 101, 115, 99, 114, 105, 112, 116, 105, 111, 110]⟩, .slice none 0 0, .string ⟨#[117, 105, 100, 110, 117, 109, 98, 101, 114]⟩, .slice (some ⟨h + 2, 0, none⟩) 1 1, .string ⟨#[117, 105, 100, 110, 117, 109, 98, 101, 114]⟩, .slice (some ⟨h + 3, 0, none⟩) 2 2, .string ⟨#[109, 97, 105, 108]⟩, .slice (some ⟨h + 4, 0, none⟩) 2 2, .string ⟨#[67, 78]⟩, .slice (some ⟨h + 5, 0, none⟩) 1 1] 31 (0, 0))
  b7 : W.heap[h + 7]? = some (.cells #[.int .i64 17, .int .i64 19, .int .i64 21, .int .i64 19, .int .i64 20, .int .i64 20] 3 (0, 0))
  size : W.heap.size = h + 8

theorem step_alloc {W : World} {h k : Nat} {o : Obj} (hs : W.heap.size = h + k) : (W.alloc o).heap.size = h + k + 1 := by simp; omega
theorem fst_blocks (w : World) (E : ByteArray) (u : Value) : FstAt w.heap.size ((((((((w.alloc (.cells #[.string E, u] 25)).alloc (.cells #[.string ⟨#[120]⟩] 9)).alloc (.cells #[.string ⟨#[120]⟩] 9)).alloc (.cells #[.string ⟨#[49]⟩, .string ⟨#[50]⟩] 9)).alloc (.cells #[.string ⟨#[97]⟩, .string ⟨#[65, 32]⟩] 9)).alloc (.cells #[.string ⟨#[122]⟩] 9)).alloc (.cells #[.string ⟨#[110, 111, 110, 101]⟩, .slice (some ⟨w.heap.size + 1, 0, none⟩) 1 1, .string ⟨#[100, 101, 115, 99, 114, 105, 112, 116, 105, 111, 110]⟩, .slice none 0 0, .string ⟨#[117, 105, 100, 110, 117, 109, 98, 101, 114]⟩, .slice (some ⟨w.heap.size + 2, 0, none⟩) 1 1, .string ⟨#[117, 105, 100, 110, 117, 109, 98, 101, 114]⟩, .slice (some ⟨w.heap.size + 3, 0, none⟩) 2 2, .string ⟨#[109, 97, 105, 108]⟩, .slice (some ⟨w.heap.size + 4, 0, none⟩) 2 2, .string ⟨#[67, 78]⟩, .slice (some ⟨w.heap.size + 5, 0, none⟩) 1 1] 31)).alloc (.cells #[.int .i64 17, .int .i64 19, .int .i64 21, .int .i64 19, .int .i64 20, .int .i64 20] 3)) E u ∧
    Below w.heap.size w ((((((((w.alloc (.cells #[.string E, u] 25)).alloc (.cells #[.string ⟨#[120]⟩] 9)).alloc (.cells #[.string ⟨#[120]⟩] 9)).alloc (.cells #[.string ⟨#[49]⟩, .string ⟨#[50]⟩] 9)).alloc (.cells #[.string ⟨#[97]⟩, .string ⟨#[65, 32]⟩] 9)).alloc (.cells #[.string ⟨#[122]⟩] 9)).alloc (.cells #[.string ⟨#[110, 111, 110, 101]⟩, .slice (some ⟨w.heap.size + 1, 0, none⟩) 1 1, .string ⟨#[100, 101, 115, 99, 114, 105, 112, 116, 105, 111, 110]⟩, .slice none 0 0, .string ⟨#[117, 105, 100, 110, 117, 109, 98, 101, 114]⟩, .slice (some ⟨w.heap.size + 2, 0, none⟩) 1 1, .string ⟨#[117, 105, 100, 110, 117, 109, 98, 101, 114]⟩, .slice (some ⟨w.heap.size + 3, 0, none⟩) 2 2, .string ⟨#[109, 97, 105, 108]⟩, .slice (some ⟨w.heap.size + 4, 0, none⟩) 2 2, .string ⟨#[67, 78]⟩, .slice (some ⟨w.heap.size + 5, 0, none⟩) 1 1] 31)).alloc (.cells #[.int .i64 17, .int .i64 19, .int .i64 21, .int .i64 19, .int .i64 20, .int .i64 20] 3)) := by
  generalize hO6 : Obj.cells #[.string ⟨#[110, 111, 110, 101]⟩, .slice (some ⟨w.heap.size + 1, 0, none⟩) 1 1, .string ⟨#[100, 101, 115, 99, 114, 105, 112, 116, 105, 111, 110]⟩, .slice none 0 0, .string ⟨#[117, 105, 100, 110, 117, 109, 98, 101, 114]⟩, .slice (some ⟨w.heap.size + 2, 0, none⟩) 1 1, .string ⟨#[117, 105, 100, 110, 117, 109, 98, 101, 114]⟩, .slice (some ⟨w.heap.size + 3, 0, none⟩) 2 2, .string ⟨#[109, 97, 105, 108]⟩, .slice (some ⟨w.heap.size + 4, 0, none⟩) 2 2, .string ⟨#[67, 78]⟩, .slice (some ⟨w.heap.size + 5, 0, none⟩) 1 1] 31 = O6
  have e0 := heap_alloc_new w (.cells #[.string E, u] 25)
  have s0 := step_alloc (o := .cells #[.string E, u] 25) (show w.heap.size = w.heap.size + 0 from rfl)
  have l0 : Below w.heap.size w (w.alloc (.cells #[.string E, u] 25)) := (Below.refl _ _).alloc (Nat.le_refl _) _
  generalize w.alloc (.cells #[.string E, u] 25) = W0 at e0 s0 l0 ⊢
  have e1 := heap_alloc_new W0 (.cells #[.string ⟨#[120]⟩] 9)
  have s1 := step_alloc (o := .cells #[.string ⟨#[120]⟩] 9) s0
  have l1 : Below W0.heap.size W0 (W0.alloc (.cells #[.string ⟨#[120]⟩] 9)) := (Below.refl _ _).alloc (Nat.le_refl _) _
  rw [s0] at e1
  generalize W0.alloc (.cells #[.string ⟨#[120]⟩] 9) = W1 at e1 s1 l1 ⊢
  have e2 := heap_alloc_new W1 (.cells #[.string ⟨#[120]⟩] 9)
  have s2 := step_alloc (o := .cells #[.string ⟨#[120]⟩] 9) s1
  have l2 : Below W1.heap.size W1 (W1.alloc (.cells #[.string ⟨#[120]⟩] 9)) := (Below.refl _ _).alloc (Nat.le_refl _) _
  rw [s1] at e2
  generalize W1.alloc (.cells #[.string ⟨#[120]⟩] 9) = W2 at e2 s2 l2 ⊢
  have e3 := heap_alloc_new W2 (.cells #[.string ⟨#[49]⟩, .string ⟨#[50]⟩] 9)
  have s3 := step_alloc (o := .cells #[.string ⟨#[49]⟩, .string ⟨#[50]⟩] 9) s2
  have l3 : Below W2.heap.size W2 (W2.alloc (.cells #[.string ⟨#[49]⟩, .string ⟨#[50]⟩] 9)) := (Below.refl _ _).alloc (Nat.le_refl _) _
  rw [s2] at e3
  generalize W2.alloc (.cells #[.string ⟨#[49]⟩, .string ⟨#[50]⟩] 9) = W3 at e3 s3 l3 ⊢
  have e4 := heap_alloc_new W3 (.cells #[.string ⟨#[97]⟩, .string ⟨#[65, 32]⟩] 9)
  have s4 := step_alloc (o := .cells #[.string ⟨#[97]⟩, .string ⟨#[65, 32]⟩] 9) s3
  have l4 : Below W3.heap.size W3 (W3.alloc (.cells #[.string ⟨#[97]⟩, .string ⟨#[65, 32]⟩] 9)) := (Below.refl _ _).alloc (Nat.le_refl _) _
  rw [s3] at e4
  generalize W3.alloc (.cells #[.string ⟨#[97]⟩, .string ⟨#[65, 32]⟩] 9) = W4 at e4 s4 l4 ⊢
  have e5 := heap_alloc_new W4 (.cells #[.string ⟨#[122]⟩] 9)
  have s5 := step_alloc (o := .cells #[.string ⟨#[122]⟩] 9) s4
  have l5 : Below W4.heap.size W4 (W4.alloc (.cells #[.string ⟨#[122]⟩] 9)) := (Below.refl _ _).alloc (Nat.le_refl _) _
  rw [s4] at e5
  generalize W4.alloc (.cells #[.string ⟨#[122]⟩] 9) = W5 at e5 s5 l5 ⊢
  have e6 := heap_alloc_new W5 O6
  have s6 := step_alloc (o := O6) s5
  have l6 : Below W5.heap.size W5 (W5.alloc O6) := (Below.refl _ _).alloc (Nat.le_refl _) _
  rw [s5] at e6
  generalize W5.alloc O6 = W6 at e6 s6 l6 ⊢
  have e7 := heap_alloc_new W6 (.cells #[.int .i64 17, .int .i64 19, .int .i64 21, .int .i64 19, .int .i64 20, .int .i64 20] 3)
  have s7 := step_alloc (o := .cells #[.int .i64 17, .int .i64 19, .int .i64 21, .int .i64 19, .int .i64 20, .int .i64 20] 3) s6
  have l7 : Below W6.heap.size W6 (W6.alloc (.cells #[.int .i64 17, .int .i64 19, .int .i64 21, .int .i64 19, .int .i64 20, .int .i64 20] 3)) := (Below.refl _ _).alloc (Nat.le_refl _) _
  rw [s6] at e7
  generalize W6.alloc (.cells #[.int .i64 17, .int .i64 19, .int .i64 21, .int .i64 19, .int .i64 20, .int .i64 20] 3) = W7 at e7 s7 l7 ⊢
  have m6 := l7
  have m5 : Below W5.heap.size W5 W7 := l6.trans (m6.mono (by omega))
  have m4 : Below W4.heap.size W4 W7 := l5.trans (m5.mono (by omega))
  have m3 : Below W3.heap.size W3 W7 := l4.trans (m4.mono (by omega))
  have m2 : Below W2.heap.size W2 W7 := l3.trans (m3.mono (by omega))
  have m1 : Below W1.heap.size W1 W7 := l2.trans (m2.mono (by omega))
  have m0 : Below W0.heap.size W0 W7 := l1.trans (m1.mono (by omega))
  subst hO6
  exact ⟨⟨(m0.block _ (by omega)).trans e0, (m1.block _ (by omega)).trans e1, (m2.block _ (by omega)).trans e2, (m3.block _ (by omega)).trans e3, (m4.block _ (by omega)).trans e4, (m5.block _ (by omega)).trans e5, (m6.block _ (by omega)).trans e6, e7, by omega⟩, l0.trans (m0.mono (by omega))⟩

theorem isT_two {w : World} {b n0 : Nat} {X Y : ByteArray} {e : TypeId} (h : w.heap[b]? = some (.cells #[.string X, .string Y] e (0, 0))) (hn : b < n0) : IsT n0 w [X.data.toList, Y.data.toList] (.slice (some ⟨b, 0, none⟩) 2 2) :=
  ⟨_, _, rfl, by unfold maxLen; simp, fun j hj => by
    refine ⟨b, 0, rfl, hn, ?_⟩
    match j, hj with
    | 0, _ =>
      show _ = some (strV X.data.toList)
      rw [strV_whole]
      simp only [World.cell?, h]; rfl
    | 1, _ =>
      show _ = some (strV Y.data.toList)
      rw [strV_whole]
      simp only [World.cell?, h]; rfl⟩
theorem FstAt.bad {h : Nat} {W : World} {E : ByteArray} {u : Value} (H : FstAt h W E u) (k : Nat) (hk : k < 6) : W.cell? ⟨h + 6, k * 2, none⟩ = some (.string (bT k)) ∧ W.cell? ⟨h + 6, k * 2 + 1, none⟩ = some (bV h k) ∧ IsT W.heap.size W (bA k).2 (bV h k) ∧ W.cell? ⟨h + 7, k, none⟩ = some (.int .i64 (cK k)) := by
  have hz := H.size
  match k, hk with
  | 0, _ => exact ⟨by simp only [World.cell?, H.b6]; rfl, by simp only [World.cell?, H.b6]; rfl, isT_block H.b1 (by omega), by simp only [World.cell?, H.b7]; rfl⟩
  | 1, _ => exact ⟨by simp only [World.cell?, H.b6]; rfl, by simp only [World.cell?, H.b6]; rfl, isT_nil _ _ _ _, by simp only [World.cell?, H.b7]; rfl⟩
  | 2, _ => exact ⟨by simp only [World.cell?, H.b6]; rfl, by simp only [World.cell?, H.b6]; rfl, isT_block H.b2 (by omega), by simp only [World.cell?, H.b7]; rfl⟩
  | 3, _ => exact ⟨by simp only [World.cell?, H.b6]; rfl, by simp only [World.cell?, H.b6]; rfl, isT_two H.b3 (by omega), by simp only [World.cell?, H.b7]; rfl⟩
  | 4, _ => exact ⟨by simp only [World.cell?, H.b6]; rfl, by simp only [World.cell?, H.b6]; rfl, isT_two H.b4 (by omega), by simp only [World.cell?, H.b7]; rfl⟩
  | 5, _ => exact ⟨by simp only [World.cell?, H.b6]; rfl, by simp only [World.cell?, H.b6]; rfl, isT_block H.b5 (by omega), by simp only [World.cell?, H.b7]; rfl⟩
theorem PerAt.cell01 {w : World} {g : Nat} {N : ByteArray} (h : PerAt w g N) : w.cell? ⟨g, 0, none⟩ = some (.string ⟨#[99, 110]⟩) ∧ w.cell? ⟨g, 1, none⟩ = some (.slice (some ⟨g - 3, 0, none⟩) 1 1) :=
  ⟨by simp only [World.cell?, h.b4]; rfl, by simp only [World.cell?, h.b4]; rfl⟩

/-- The entry of three attributes, whichever way it was made. -/
def XAt (W7 : World) (E : ByteArray) (L : List AT) (wx : World) (b : Nat) (u : Value) : Prop := W7.heap.size ≤ b ∧ b < wx.heap.size ∧ BoxN wx b E u ∧ IsA wx.heap.size wx L u ∧ Below W7.heap.size W7 wx
theorem XAt.drew {W7 wx : World} {E : ByteArray} {L : List AT} {b : Nat} {u : Value} (h : XAt W7 E L wx b u) : XAt W7 E L wx.drew b u := ⟨h.1, h.2.1, h.2.2.1, h.2.2.2.1, h.2.2.2.2.drew⟩
theorem XAt.from {W7 wx : World} {E : ByteArray} {L : List AT} {b : Nat} {u : Value} (h : XAt W7.drew E L wx b u) : XAt W7 E L wx b u := ⟨h.1, h.2.1, h.2.2.1, h.2.2.2.1, (Below.refl W7.heap.size W7).drew.trans h.2.2.2.2⟩
/-- What lies below is as it was. -/
def At9 (w9 w : World) : Prop := Below w9.heap.size w9 w
theorem At9.go {w9 w w' : World} (h : At9 w9 w) (hb : Below w.heap.size w w') : At9 w9 w' := bthen h hb
theorem At9.mono {w9 w : World} (h : At9 w9 w) {n : Nat} (hn : n ≤ w9.heap.size) : Below n w9 w := Below.mono h hn
theorem At9.size {w9 w : World} (h : At9 w9 w) : w9.heap.size ≤ w.heap.size := Below.size h
theorem At9.cell {w9 w : World} (h : At9 w9 w) {p : Addr} (hp : p.block < w9.heap.size) : w.cell? p = w9.cell? p := Below.cell h hp
/-- Three attributes in a block. -/
abbrev C6 (N1 N2 N3 : ByteArray) (v1 v2 v3 : Value) : Obj := .cells #[.string N1, v1, .string N2, v2, .string N3, v3] 31
theorem isA_three {w : World} {c n0 : Nat} {N1 N2 N3 : ByteArray} {v1 v2 v3 : Value} {A1 A2 A3 : List (List UInt8)} (h : w.heap[c]? = some (.cells #[.string N1, v1, .string N2, v2, .string N3, v3] 31 (0, 0))) (hc : c < n0) (h1 : IsT n0 w A1 v1) (h2 : IsT n0 w A2 v2) (h3 : IsT n0 w A3 v3) :
    IsA n0 w [(N1.data.toList, A1), (N2.data.toList, A2), (N3.data.toList, A3)] (.slice (some ⟨c, 0, none⟩) 3 3) := by
  refine ⟨_, _, rfl, by unfold maxLen; simp, fun j hj => ?_⟩
  match j, hj with
  | 0, _ => exact ⟨c, 0, _, rfl, hc, by show _ = some (strV N1.data.toList); rw [strV_whole]; simp only [World.cell?, h]; rfl, by simp only [World.cell?, h]; rfl, h1⟩
  | 1, _ => exact ⟨c, 0, _, rfl, hc, by show _ = some (strV N2.data.toList); rw [strV_whole]; simp only [World.cell?, h]; rfl, by simp only [World.cell?, h]; rfl, h2⟩
  | 2, _ => exact ⟨c, 0, _, rfl, hc, by show _ = some (strV N3.data.toList); rw [strV_whole]; simp only [World.cell?, h]; rfl, by simp only [World.cell?, h]; rfl, h3⟩
theorem x_one {W : World} {E N1 N2 N3 : ByteArray} {v1 v2 v3 : Value} {A1 A2 A3 : List (List UInt8)} (h1 : IsT W.heap.size W A1 v1) (h2 : IsT W.heap.size W A2 v2) (h3 : IsT W.heap.size W A3 v3) :
    XAt W E [(N1.data.toList, A1), (N2.data.toList, A2), (N3.data.toList, A3)] ((W.alloc (C6 N1 N2 N3 v1 v2 v3)).alloc (.cells #[.string E, .slice (some ⟨W.heap.size, 0, none⟩) 3 3] 25)) (W.heap.size + 1) (.slice (some ⟨W.heap.size, 0, none⟩) 3 3) := by
  have e0 := heap_alloc_new W (.cells #[.string N1, v1, .string N2, v2, .string N3, v3] 31)
  have l0 : Below W.heap.size W (W.alloc (C6 N1 N2 N3 v1 v2 v3)) := (Below.refl _ _).alloc (Nat.le_refl _) _
  have s0 : (W.alloc (C6 N1 N2 N3 v1 v2 v3)).heap.size = W.heap.size + 1 := by simp
  generalize W.alloc (C6 N1 N2 N3 v1 v2 v3) = W0 at e0 l0 s0 ⊢
  have e1 := boxN_new W0 E (.slice (some ⟨W.heap.size, 0, none⟩) 3 3)
  have l1 : Below W0.heap.size W0 (W0.alloc (.cells #[.string E, .slice (some ⟨W.heap.size, 0, none⟩) 3 3] 25)) := (Below.refl _ _).alloc (Nat.le_refl _) _
  have s1 : (W0.alloc (.cells #[.string E, .slice (some ⟨W.heap.size, 0, none⟩) 3 3] 25)).heap.size = W0.heap.size + 1 := by simp
  rw [s0] at e1
  generalize W0.alloc (.cells #[.string E, .slice (some ⟨W.heap.size, 0, none⟩) 3 3] 25) = W1 at e1 l1 s1 ⊢
  have hb : Below W.heap.size W W1 := l0.trans (l1.mono (by omega))
  exact ⟨by omega, by omega, e1, isA_three ((l1.block _ (by omega)).trans e0) (by omega) (h1.below hb hb.size) (h2.below hb hb.size) (h3.below hb hb.size), hb⟩
theorem x_two {W : World} {E N1 N2 N3 : ByteArray} {v1 v2 v3 : Value} {A1 A2 A3 : List (List UInt8)} (h1 : IsT W.heap.size W A1 v1) (h2 : IsT W.heap.size W A2 v2) (h3 : IsT W.heap.size W A3 v3) :
    XAt W E [(N1.data.toList, A1), (N2.data.toList, A2), (N3.data.toList, A3)] ((W.alloc (.cells #[.string E, .slice (some ⟨W.heap.size + 1, 0, none⟩) 3 3] 25)).alloc (C6 N1 N2 N3 v1 v2 v3)) W.heap.size (.slice (some ⟨W.heap.size + 1, 0, none⟩) 3 3) := by
  have e0 := boxN_new W E (.slice (some ⟨W.heap.size + 1, 0, none⟩) 3 3)
  have l0 : Below W.heap.size W (W.alloc (.cells #[.string E, .slice (some ⟨W.heap.size + 1, 0, none⟩) 3 3] 25)) := (Below.refl _ _).alloc (Nat.le_refl _) _
  have s0 : (W.alloc (.cells #[.string E, .slice (some ⟨W.heap.size + 1, 0, none⟩) 3 3] 25)).heap.size = W.heap.size + 1 := by simp
  generalize W.alloc (.cells #[.string E, .slice (some ⟨W.heap.size + 1, 0, none⟩) 3 3] 25) = W0 at e0 l0 s0 ⊢
  have e1 := heap_alloc_new W0 (.cells #[.string N1, v1, .string N2, v2, .string N3, v3] 31)
  have l1 : Below W0.heap.size W0 (W0.alloc (C6 N1 N2 N3 v1 v2 v3)) := (Below.refl _ _).alloc (Nat.le_refl _) _
  have s1 : (W0.alloc (C6 N1 N2 N3 v1 v2 v3)).heap.size = W0.heap.size + 1 := by simp
  rw [s0] at e1
  generalize W0.alloc (C6 N1 N2 N3 v1 v2 v3) = W1 at e1 l1 s1 ⊢
  have hb : Below W.heap.size W W1 := l0.trans (l1.mono (by omega))
  exact ⟨Nat.le_refl _, by omega, e0.below l1 (by omega), isA_three e1 (by omega) (h1.below hb hb.size) (h2.below hb hb.size) (h3.below hb hb.size), hb⟩

theorem heap3 (W : World) (a b c : Array Value) (ta tb tc : TypeId) : (((W.alloc (.cells a ta)).alloc (.cells b tb)).alloc (.cells c tc)).heap[W.heap.size]? = some (.cells a ta (0, 0)) ∧ (((W.alloc (.cells a ta)).alloc (.cells b tb)).alloc (.cells c tc)).heap[W.heap.size + 1]? = some (.cells b tb (0, 0)) ∧ (((W.alloc (.cells a ta)).alloc (.cells b tb)).alloc (.cells c tc)).heap[W.heap.size + 2]? = some (.cells c tc (0, 0)) ∧ Below W.heap.size W (((W.alloc (.cells a ta)).alloc (.cells b tb)).alloc (.cells c tc)) ∧ (((W.alloc (.cells a ta)).alloc (.cells b tb)).alloc (.cells c tc)).heap.size = W.heap.size + 3 := by
  have e0 := heap_alloc_new W (.cells a ta)
  have l0 : Below W.heap.size W (W.alloc (.cells a ta)) := (Below.refl _ _).alloc (Nat.le_refl _) _
  have s0 : (W.alloc (.cells a ta)).heap.size = W.heap.size + 1 := by simp
  generalize W.alloc (.cells a ta) = W0 at e0 l0 s0 ⊢
  have e1 := heap_alloc_new W0 (.cells b tb)
  have l1 : Below W0.heap.size W0 (W0.alloc (.cells b tb)) := (Below.refl _ _).alloc (Nat.le_refl _) _
  have s1 : (W0.alloc (.cells b tb)).heap.size = W0.heap.size + 1 := by simp
  rw [s0] at e1
  generalize W0.alloc (.cells b tb) = W1 at e1 l1 s1 ⊢
  have e2 := heap_alloc_new W1 (.cells c tc)
  have l2 : Below W1.heap.size W1 (W1.alloc (.cells c tc)) := (Below.refl _ _).alloc (Nat.le_refl _) _
  have s2 : (W1.alloc (.cells c tc)).heap.size = W1.heap.size + 1 := by simp
  rw [s1, s0] at e2
  generalize W1.alloc (.cells c tc) = W2 at e2 l2 s2 ⊢
  exact ⟨(l2.block _ (by omega)).trans ((l1.block _ (by omega)).trans e0), (l2.block _ (by omega)).trans e1, e2, l0.trans ((l1.mono (by omega)).trans (l2.mono (by omega))), by omega⟩
theorem isA_ou {w : World} {c g q : Nat} {P : ByteArray} (hp : PerAt w g P) (h : w.heap[c]? = some (.cells #[.string ⟨#[99, 110]⟩, .slice (some ⟨g - 3, 0, none⟩) 1 1, .string ⟨#[111, 98, 106, 101, 99, 116, 99, 108, 97, 115, 115]⟩, .slice (some ⟨g - 2, 0, none⟩) 1 1, .string ⟨#[115, 110]⟩, .slice (some ⟨g - 1, 0, none⟩) 1 1, .string ⟨#[111, 117]⟩, .slice (some ⟨q, 0, none⟩) 1 1] 31 (0, 0))) (hq : w.heap[q]? = some (.cells #[.string ⟨#[97]⟩] 9 (0, 0))) (hc : c < w.heap.size) (hqs : q < w.heap.size) :
    IsA w.heap.size w (perL P.data.toList ++ [ouA]) (.slice (some ⟨c, 0, none⟩) 4 4) := by
  have hg := hp.lt
  refine ⟨_, _, rfl, by unfold maxLen perL ouA; simp, fun j hj => ?_⟩
  match j, hj with
  | 0, _ => exact ⟨c, 0, _, rfl, hc, by simp only [World.cell?, h]; rfl, by simp only [World.cell?, h]; rfl, isT_block hp.b1 (by omega)⟩
  | 1, _ => exact ⟨c, 0, _, rfl, hc, by simp only [World.cell?, h]; rfl, by simp only [World.cell?, h]; rfl, isT_block hp.b2 (by omega)⟩
  | 2, _ => exact ⟨c, 0, _, rfl, hc, by simp only [World.cell?, h]; rfl, by simp only [World.cell?, h]; rfl, isT_block hp.b3 (by omega)⟩
  | 3, _ => exact ⟨c, 0, _, rfl, hc, by simp only [World.cell?, h]; rfl, by simp only [World.cell?, h]; rfl, isT_block hq hqs⟩
abbrev C8 (g q : Nat) : Array Value := #[.string ⟨#[99, 110]⟩, .slice (some ⟨g - 3, 0, none⟩) 1 1, .string ⟨#[111, 98, 106, 101, 99, 116, 99, 108, 97, 115, 115]⟩, .slice (some ⟨g - 2, 0, none⟩) 1 1, .string ⟨#[115, 110]⟩, .slice (some ⟨g - 1, 0, none⟩) 1 1, .string ⟨#[111, 117]⟩, .slice (some ⟨q, 0, none⟩) 1 1]
theorem z_one {W : World} {E P : ByteArray} {g : Nat} (hp : PerAt W g P) : XAt W E (perL P.data.toList ++ [ouA]) (((W.alloc (.cells #[.string ⟨#[97]⟩] 9)).alloc (.cells (C8 g W.heap.size) 31)).alloc (.cells #[.string E, .slice (some ⟨W.heap.size + 1, 0, none⟩) 4 4] 25)) (W.heap.size + 1 + 1) (.slice (some ⟨W.heap.size + 1, 0, none⟩) 4 4) := by
  obtain ⟨a, b, c, d, e⟩ := heap3 W #[.string ⟨#[97]⟩] (C8 g W.heap.size) #[.string E, .slice (some ⟨W.heap.size + 1, 0, none⟩) 4 4] 9 31 25
  exact ⟨by omega, by omega, c, isA_ou (hp.below d hp.lt) b a (by omega) (by omega), d⟩
theorem z_two {W : World} {E P : ByteArray} {g : Nat} (hp : PerAt W g P) : XAt W E (perL P.data.toList ++ [ouA]) (((W.alloc (.cells #[.string ⟨#[97]⟩] 9)).alloc (.cells #[.string E, .slice (some ⟨W.heap.size + 1 + 1, 0, none⟩) 4 4] 25)).alloc (.cells (C8 g W.heap.size) 31)) (W.heap.size + 1) (.slice (some ⟨W.heap.size + 1 + 1, 0, none⟩) 4 4) := by
  obtain ⟨a, b, c, d, e⟩ := heap3 W #[.string ⟨#[97]⟩] #[.string E, .slice (some ⟨W.heap.size + 1 + 1, 0, none⟩) 4 4] (C8 g W.heap.size) 9 25 31
  exact ⟨by omega, by omega, b, isA_ou (hp.below d hp.lt) c a (by omega) (by omega), d⟩
theorem z_three {W : World} {E P : ByteArray} {g : Nat} (hp : PerAt W g P) : XAt W E (perL P.data.toList ++ [ouA]) (((W.alloc (.cells #[.string E, .slice (some ⟨W.heap.size + 1 + 1, 0, none⟩) 4 4] 25)).alloc (.cells #[.string ⟨#[97]⟩] 9)).alloc (.cells (C8 g (W.heap.size + 1)) 31)) W.heap.size (.slice (some ⟨W.heap.size + 1 + 1, 0, none⟩) 4 4) := by
  obtain ⟨a, b, c, d, e⟩ := heap3 W #[.string E, .slice (some ⟨W.heap.size + 1 + 1, 0, none⟩) 4 4] #[.string ⟨#[97]⟩] (C8 g (W.heap.size + 1)) 25 9 31
  exact ⟨by omega, by omega, a, isA_ou (hp.below d hp.lt) c b (by omega) (by omega), d⟩

end Go.Proofs.YtaapdipejpbdeaaGreatDoor

/- A region that draws its order, by ONE invariant over its steps: each operation is proved once, in whatever order they come. -/
namespace Go.Proofs.YtaapdipejpbdeaaGreatDoor
set_option linter.unusedVariables false

section
variable {P : Program} {ops : Array Oper} {Q : Exit → Act → World → Prop} {md : Region.Mode}

/-- How many operations are still to come. -/
def toCome (l : Array Bool) : Nat := l.toList.count false

theorem toCome_some {l : Array Bool} {i : Nat} (h : l.getD i true = false) : ∃ hi : i < l.size, l[i] = false := by
  rcases Nat.lt_or_ge i l.size with hi | hi
  · refine ⟨hi, ?_⟩
    simpa [hi] using h
  · simp [Array.getElem?_eq_none hi] at h

theorem toCome_set {l : Array Bool} {i : Nat} (h : l.getD i true = false) : toCome (l.setIfInBounds i true) + 1 = toCome l := by
  obtain ⟨hi, he⟩ := toCome_some h
  unfold toCome
  have hi' : i < l.toList.length := by simpa using hi
  have he' : l.toList[i] = false := by simpa using he
  have hpos : 0 < l.toList.count false := List.count_pos_iff.2 (by rw [← he']; exact List.getElem_mem hi')
  rw [Array.toList_setIfInBounds, List.count_set hi', he']
  rw [if_pos (by rfl), if_neg (by decide)]
  omega

theorem toCome_none {l : Array Bool} (h : toCome l = 0) {i : Nat} : l.getD i true ≠ false := fun hf => by
  have := toCome_set hf
  omega

theorem wpAny_inv (Inv : Array Bool → Act → World → Prop)
    (hstep : ∀ listed a w, Inv listed a w → ∀ i ∈ Region.ready md ops listed, wpOp P ops Q i (Inv (listed.setIfInBounds i true)) a w)
    (hend : ∀ listed a w, Inv listed a w → Region.ready md ops listed = [] → Q .normal a w) :
    ∀ (fuel : Nat) (listed : Array Bool) (a : Act) (w : World), toCome listed ≤ fuel → Inv listed a w → wpAny P md ops Q fuel listed a w
  | 0, listed, a, w, hf, hI => by
    have hr : Region.ready md ops listed = [] := by
      cases hc : Region.ready md ops listed with
      | nil => rfl
      | cons j rs => exact absurd (mem_ready.1 (hc ▸ List.mem_cons_self : j ∈ Region.ready md ops listed)).1 (toCome_none (by omega))
    exact ⟨hr, hend _ _ _ hI hr⟩
  | fuel + 1, listed, a, w, hf, hI => by
    refine ⟨fun hr => hend _ _ _ hI hr, fun i hi => wpOp_mono (fun a' w' h => ?_) (hstep _ _ _ hI i hi)⟩
    have := toCome_set (mem_ready.1 hi).1
    exact wpAny_inv Inv hstep hend fuel _ a' w' (by omega) h

/-- Where each operation comes behind operations of lesser numbers alone, none is ready only when all have come. -/
theorem all_come {listed : Array Bool} (hb : ∀ (i : Nat) (o : Oper), ops[i]? = some o → ∀ e ∈ o.after, e.on < i) (hs : listed.size = ops.size) (hr : Region.ready md ops listed = []) :
    ∀ (n i : Nat), i < n → i < ops.size → listed.getD i false = true
  | 0, i, h, _ => by omega
  | n + 1, i, h, hi => by
    have ih := all_come hb hs hr n
    cases hc : listed.getD i false with
    | true => rfl
    | false =>
      exfalso
      have hm : i ∈ Region.ready md ops listed := by
        refine mem_ready.2 ⟨?_, ops[i], Array.getElem?_eq_getElem hi, fun e he _ => ?_⟩
        · have hi' : i < listed.size := by omega
          simpa [hi'] using hc
        · have := hb i _ (Array.getElem?_eq_getElem hi) e he
          exact ih e.on (by omega) (by omega)
      rw [hr] at hm
      cases hm

/-- The region: an invariant that holds at its start and that each operation, once those it waits for have come, keeps. -/
theorem region_inv {id : Nat} {a : Act} {w : World} (hm : P.follows .mixedOrders = true) (Inv : Array Bool → Act → World → Prop)
    (h0 : Inv (Array.replicate ops.size false) a { w with drawn := w.drawn + 1 })
    (hb : ∀ (i : Nat) (o : Oper), ops[i]? = some o → ∀ e ∈ o.after, e.on < i)
    (hsize : ∀ listed a w, Inv listed a w → listed.size = ops.size)
    (hstep : ∀ listed a w, Inv listed a w → ∀ (i : Nat) (o : Oper), ops[i]? = some o → listed.getD i true = false → (∀ e ∈ o.after, Region.binds .any e = true → listed.getD e.on false = true) →
      wpOp P ops Q i (Inv (listed.setIfInBounds i true)) a w)
    (hend : ∀ listed a w, Inv listed a w → (∀ i, i < ops.size → listed.getD i false = true) → Q .normal a w) : (Code.region id ops true).wp P Q a w := by
  refine wp_region_any hm (wpAny_inv Inv (fun listed a w hI i hi => ?_) (fun listed a w hI hr => ?_) _ _ _ _ ?_ h0)
  · obtain ⟨h1, o, h2, h3⟩ := mem_ready.1 hi
    exact hstep listed a w hI i o h2 h1 h3
  · exact hend listed a w hI fun i hi => all_come hb (hsize _ _ _ hI) hr (i + 1) i (by omega) hi
  · unfold toCome
    refine Nat.le_trans List.count_le_length ?_
    simp
end
end Go.Proofs.YtaapdipejpbdeaaGreatDoor
