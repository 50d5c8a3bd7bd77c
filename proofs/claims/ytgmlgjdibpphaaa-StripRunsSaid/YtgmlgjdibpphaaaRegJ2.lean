/- A region that draws its order, with two loud operations, the second of which waits for the first by one between them. -/
import Derived.Test.YtgmlgjdibpphaaaRegJ
namespace Go.Proofs.Ytgmlgjdibpphaaa
open Go.RowKit
set_option linter.unusedVariables false

section
variable {P : Program} {ops : Array Oper} {Q : Exit → Act → World → Prop}
theorem dep_at {l2 l1 : Nat} {listed : Array Bool} (h : depOn ops l2 l1 = true) (hc : ∀ o2, ops[l2]? = some o2 → Came listed o2) : listed.getD l1 false = true := by
  unfold depOn at h
  cases eo : ops[l2]? with
  | none => rw [eo] at h; cases h
  | some o2 =>
    rw [eo] at h
    obtain ⟨x, hx, hxe⟩ := Array.any_eq_true'.1 h
    simp only [Bool.and_eq_true, decide_eq_true_eq] at hxe
    have := hc o2 eo x hx hxe.1
    rwa [hxe.2] at this
/-- The region. F p q i v w: what holds of operation i's value, ahead of the loud ones l1, l2 (false) and behind them (true); J p q w: what holds of the world. -/
theorem region_J2 {id : Nat} {a0 : Act} {w0 : World} (hm : P.follows .mixedOrders = true) (n0 l1 lm l2 : Nat) (F : Bool → Bool → Nat → Value → World → Prop) (J : Bool → Bool → World → Prop)
    (hJ : ∀ p q w w', n0 ≤ w.heap.size → J p q w → Below w.heap.size w w' → J p q w') (hJ0 : J false false w0)
    (hF : ∀ p q i v w w', n0 ≤ w.heap.size → F p q i v w → Below w.heap.size w w' → F p q i v w') (hn : n0 ≤ w0.heap.size)
    (hok : regOk ops a0.tmps.size = true) (h12 : depOn ops l2 lm = true) (h1m : depOn ops lm l1 = true) (h2 : decide (l1 < l2 ∧ l2 + 1 < ops.size) = true) {l : Oper} (hl : ops[ops.size - 1]? = some l)
    (hstep : ∀ listed a w p q, n0 ≤ w.heap.size → J p q w → Kept ops (F p q) (Below n0) a0 w0 listed a w → ∀ (i : Nat) (o : Oper), ops[i]? = some o → i + 1 < ops.size → i ≠ l1 → i ≠ l2 → Came listed o →
      wpOp P ops Q i (fun a' w' => ∃ d v, o.dst = some d ∧ a' = a.put (some d) v ∧ Below w.heap.size w w' ∧ F p q i v w') a w)
    (hloud1 : ∀ listed a w, n0 ≤ w.heap.size → J false false w → Kept ops (F false false) (Below n0) a0 w0 listed a w → ∀ o, ops[l1]? = some o → Came listed o →
      wpOp P ops Q l1 (fun a' w' => ∃ d v, o.dst = some d ∧ a' = a.put (some d) v ∧ Below n0 w w' ∧ F true false l1 v w' ∧ J true false w' ∧ ∀ j u, j ≠ l1 → F false false j u w → F true false j u w') a w)
    (hloud2 : ∀ listed a w, n0 ≤ w.heap.size → J true false w → Kept ops (F true false) (Below n0) a0 w0 listed a w → ∀ o, ops[l2]? = some o → Came listed o →
      wpOp P ops Q l2 (fun a' w' => ∃ d v, o.dst = some d ∧ a' = a.put (some d) v ∧ Below n0 w w' ∧ F true true l2 v w' ∧ J true true w' ∧ ∀ j u, j ≠ l2 → F true false j u w → F true true j u w') a w)
    (hlast : ∀ listed a w, n0 ≤ w.heap.size → J true true w → Kept ops (F true true) (Below n0) a0 w0 listed a w → (∀ i, i + 1 < ops.size → listed.getD i false = true) → wpOp P ops Q (ops.size - 1) (fun a' w' => Q .normal a' w') a w) :
    (Code.region id ops true).wp P Q a0 w0 := by
  have hne : 0 < ops.size := by
    have := (Array.getElem?_eq_some_iff.1 hl).1
    omega
  obtain ⟨hlt12, h2⟩ := of_decide_eq_true h2
  have hb := fun (i : Nat) (o : Oper) (ho : ops[i]? = some o) => (regOk_at hok ho).1
  have hd := fun (i j : Nat) (o o' : Oper) (d : Tmp) (ho : ops[i]? = some o) (ho' : ops[j]? = some o') (hd : o.dst = some d) (hd' : o'.dst = some d) => ((regOk_at hok ho).2.1 d hd).2 j o' ho' hd'
  have hin := fun (i : Nat) (o : Oper) (d : Tmp) (ho : ops[i]? = some o) (hd : o.dst = some d) => ((regOk_at hok ho).2.1 d hd).1
  have hw := fun i (hi : i + 1 < ops.size) => (regOk_at hok (Array.getElem?_eq_getElem (show i < ops.size by omega))).2.2 hi
  have hno : ∀ i, (Array.replicate ops.size false).getD i false = false := fun i => by
    rcases Nat.lt_or_ge i ops.size with h | h <;> simp [h]
  refine region_inv hm (fun listed a w => (Kept ops (F (listed.getD l1 false) (listed.getD l2 false)) (Below n0) a0 w0 listed a w ∧ J (listed.getD l1 false) (listed.getD l2 false) w ∧ listed.getD (ops.size - 1) false = false) ∨ (listed.size = ops.size ∧ (∀ i, i < ops.size → listed.getD i false = true) ∧ Q .normal a w)) ?_ hb ?_ ?_ ?_
  · exact .inl ⟨⟨by simp, fun i o _ h => (by rw [hno] at h; cases h), rfl, rfl, (Below.refl n0 w0).drew, fun _ _ => rfl, fun i o d _ _ h => (by rw [hno] at h; cases h)⟩, by rw [hno, hno]; exact hJ _ _ _ _ hn hJ0 (Below.refl _ _).drew, hno _⟩
  · rintro listed a w (⟨h, _⟩ | ⟨h, _⟩)
    · exact h.size
    · exact h
  · rintro listed a w (⟨hk, hjw, hnl⟩ | ⟨hs, ha, _⟩) i o ho hi hc
    · have hio : i < ops.size := (Array.getElem?_eq_some_iff.1 ho).1
      have hsz : n0 ≤ w.heap.size := Nat.le_trans hn hk.grown.size
      have hpi : listed.getD i false = false := by
        have hi' : i < listed.size := by rw [hk.size]; exact hio
        simpa [hi'] using hi
      have hsl : (listed.setIfInBounds i true).getD i false = true := getD_set_self (by rw [hk.size]; exact hio)
      by_cases hlst : i = ops.size - 1
      · subst hlst
        rw [ho] at hl; cases hl
        have hall := fun j => rest_came hk.shut hw ho hc ops.size j (by omega)
        rw [hall l2 h2, hall l1 (by omega)] at hk hjw
        refine wpOp_mono (fun a' w' hq => .inr ⟨by simp [hk.size], fun j hj => ?_, hq⟩) (hlast listed a w hsz hjw hk hall)
        by_cases hjl : j = ops.size - 1
        · subst hjl; exact hsl
        · exact getD_set_true (hall j (by omega))
      · by_cases hi1 : i = l1
        · subst hi1
          have hp2 : listed.getD l2 false = false := by
            cases e : listed.getD l2 false with
            | false => rfl
            | true =>
              exfalso
              have h8 := dep_at h12 fun o2 ho2 => hk.shut l2 o2 ho2 e
              have h9 := dep_at h1m fun o2 ho2 => hk.shut lm o2 ho2 h8
              rw [hpi] at h9
              cases h9
          rw [hpi, hp2] at hk hjw
          refine wpOp_mono (fun a' w' hq => ?_) (hloud1 listed a w hsz hjw hk o ho hc)
          obtain ⟨d, v, hod, rfl, hg, hv, hj2, hj⟩ := hq
          refine .inl ⟨?_, by rw [hsl, getD_set_ne false (show i ≠ l2 by omega), hp2]; exact hj2, by rw [getD_set_ne false hlst]; exact hnl⟩
          rw [hsl, getD_set_ne false (show i ≠ l2 by omega), hp2]
          exact hk.more2 hj (hk.grown.trans hg) hd hin ho hod hc hv
        · by_cases hi2 : i = l2
          · subst hi2
            have hp1 : listed.getD l1 false = true := by
              have h8 := dep_at h12 fun o2 ho2 => by rw [ho] at ho2; cases ho2; exact hc
              exact dep_at h1m fun o2 ho2 => hk.shut lm o2 ho2 h8
            rw [hp1, hpi] at hk hjw
            refine wpOp_mono (fun a' w' hq => ?_) (hloud2 listed a w hsz hjw hk o ho hc)
            obtain ⟨d, v, hod, rfl, hg, hv, hj2, hj⟩ := hq
            refine .inl ⟨?_, by rw [hsl, getD_set_ne false (show i ≠ l1 by omega), hp1]; exact hj2, by rw [getD_set_ne false hlst]; exact hnl⟩
            rw [hsl, getD_set_ne false (show i ≠ l1 by omega), hp1]
            exact hk.more2 hj (hk.grown.trans hg) hd hin ho hod hc hv
          · refine wpOp_mono (fun a' w' hq => ?_) (hstep listed a w _ _ hsz hjw hk i o ho (by omega) hi1 hi2 hc)
            obtain ⟨d, v, hod, rfl, hg, hv⟩ := hq
            refine .inl ⟨?_, by rw [getD_set_ne false hi1, getD_set_ne false hi2]; exact hJ _ _ _ _ hsz hjw hg, by rw [getD_set_ne false hlst]; exact hnl⟩
            rw [getD_set_ne false hi1, getD_set_ne false hi2]
            exact hk.more2 (fun j u _ h => hF _ _ _ _ _ _ hsz h hg) (hk.grown.trans (hg.mono hsz)) hd hin ho hod hc hv
    · exfalso
      have hio : i < ops.size := (Array.getElem?_eq_some_iff.1 ho).1
      have := ha i hio
      have hi' : i < listed.size := by omega
      simp [hi'] at this hi
      rw [this] at hi; cases hi
  · rintro listed a w (⟨hk, _, hnl⟩ | ⟨_, _, hq⟩) ha
    · rw [ha _ (by omega)] at hnl; cases hnl
    · exact hq


theorem wpOp_valD {i : Nat} {o : Oper} {a : Act} {w w' : World} {v : Value} {dd : Option Tmp} {K : Act → World → Prop} (ho : ops[i]? = some o) (hd : o.dst = dd) (hg : o.guard = none) (hr : (execOp a.eval o).run P w = .ok (.value v) w') (hk : K (a.put dd v) w') : wpOp P ops Q i K a w := by
  subst hd
  exact wpOp_val ho hg hr hk
end
end Go.Proofs.Ytgmlgjdibpphaaa
