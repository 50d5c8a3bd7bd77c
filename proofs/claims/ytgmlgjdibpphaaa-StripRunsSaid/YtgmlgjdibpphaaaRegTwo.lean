/- A region that draws its order, with ONE operation that may write into what was there (an append onto a row of one's own): the facts ahead of it and behind it; each operation is proved once. -/
import Derived.Test.YtgmlgjdibpphaaaRegFact
import Derived.Below
namespace Go.Proofs.Ytgmlgjdibpphaaa
open Go.RowKit
set_option linter.unusedVariables false

section
variable {P : Program} {ops : Array Oper} {Q : Exit → Act → World → Prop}

theorem Kept.more2 {F F' : Nat → Value → World → Prop} {G : World → World → Prop} {a0 a : Act} {w0 w w' : World} {listed : Array Bool} (hk : Kept ops F G a0 w0 listed a w) {i : Nat} {o : Oper} {d : Tmp} {v : Value}
    (hF : ∀ j u, j ≠ i → F j u w → F' j u w') (hgr : G w0 w')
    (hd : ∀ (i j : Nat) (o o' : Oper) (d : Tmp), ops[i]? = some o → ops[j]? = some o' → o.dst = some d → o'.dst = some d → i = j)
    (hin : ∀ (i : Nat) (o : Oper) (d : Tmp), ops[i]? = some o → o.dst = some d → d < a0.tmps.size)
    (ho : ops[i]? = some o) (hod : o.dst = some d) (hc : Came listed o) (hv : F' i v w') : Kept ops F' G a0 w0 (listed.setIfInBounds i true) (a.put (some d) v) w' := by
  have hi : i < listed.size := by rw [hk.size]; exact (Array.getElem?_eq_some_iff.1 ho).1
  refine ⟨by simp [hk.size], fun j o' ho' hl => ?_, hk.defers, by simp [Act.put, hk.slots], hgr, fun t ht => ?_, fun j o' d' ho' hd' hl => ?_⟩
  · by_cases hij : i = j
    · subst hij
      rw [ho] at ho'; cases ho'
      exact came_more hc
    · rw [getD_set_ne false hij] at hl
      exact came_more (hk.shut j o' ho' hl)
  · have : d ≠ t := fun h => ht i o ho (by rw [hod, h])
    simp only [Act.put]
    rw [Array.getElem?_setIfInBounds_ne this]
    exact hk.other t ht
  · by_cases hij : i = j
    · subst hij
      rw [ho] at ho'; cases ho'
      rw [hod] at hd'; cases hd'
      refine ⟨v, ?_, hv⟩
      have : d < a.tmps.size := by rw [hk.slots]; exact hin i o d ho hod
      simp [Act.put, this]
    · rw [getD_set_ne false hij] at hl
      obtain ⟨u, hu, hf⟩ := hk.fact j o' d' ho' hd' hl
      have : d ≠ d' := fun h => hij (hd i j o o' d ho ho' hod (by rw [hd', h]))
      refine ⟨u, ?_, hF _ _ (fun h => hij h.symm) hf⟩
      simp only [Act.put]
      rw [Array.getElem?_setIfInBounds_ne this]
      exact hu

/-- Operation l2 waits for l1. -/
def depOn (ops : Array Oper) (l2 l1 : Nat) : Bool := match ops[l2]? with
  | none => false
  | some o => o.after.any fun e => Region.binds .any e && decide (e.on = l1)

/-- The region. F p q i v w: what holds of operation i's value, ahead of the loud ones l1, l2 (false) and behind them (true). -/
theorem region_two {id : Nat} {a0 : Act} {w0 : World} (hm : P.follows .mixedOrders = true) (n0 l1 l2 : Nat) (F : Bool → Bool → Nat → Value → World → Prop)
    (hF : ∀ p q i v w w', n0 ≤ w.heap.size → F p q i v w → Below w.heap.size w w' → F p q i v w') (hn : n0 ≤ w0.heap.size)
    (hok : regOk ops a0.tmps.size = true) (h12 : depOn ops l2 l1 = true) (h2 : decide (l1 < l2 ∧ l2 + 1 < ops.size) = true) {l : Oper} (hl : ops[ops.size - 1]? = some l)
    (hstep : ∀ listed a w p q, n0 ≤ w.heap.size → Kept ops (F p q) (Below n0) a0 w0 listed a w → ∀ (i : Nat) (o : Oper), ops[i]? = some o → i + 1 < ops.size → i ≠ l1 → i ≠ l2 → Came listed o →
      wpOp P ops Q i (fun a' w' => ∃ d v, o.dst = some d ∧ a' = a.put (some d) v ∧ Below w.heap.size w w' ∧ F p q i v w') a w)
    (hloud1 : ∀ listed a w, n0 ≤ w.heap.size → Kept ops (F false false) (Below n0) a0 w0 listed a w → ∀ o, ops[l1]? = some o → Came listed o →
      wpOp P ops Q l1 (fun a' w' => ∃ d v, o.dst = some d ∧ a' = a.put (some d) v ∧ Below n0 w w' ∧ F true false l1 v w' ∧ ∀ j u, j ≠ l1 → F false false j u w → F true false j u w') a w)
    (hloud2 : ∀ listed a w, n0 ≤ w.heap.size → Kept ops (F true false) (Below n0) a0 w0 listed a w → ∀ o, ops[l2]? = some o → Came listed o →
      wpOp P ops Q l2 (fun a' w' => ∃ d v, o.dst = some d ∧ a' = a.put (some d) v ∧ Below n0 w w' ∧ F true true l2 v w' ∧ ∀ j u, j ≠ l2 → F true false j u w → F true true j u w') a w)
    (hlast : ∀ listed a w, n0 ≤ w.heap.size → Kept ops (F true true) (Below n0) a0 w0 listed a w → (∀ i, i + 1 < ops.size → listed.getD i false = true) → wpOp P ops Q (ops.size - 1) (fun a' w' => Q .normal a' w') a w) :
    (Code.region id ops true).wp P Q a0 w0 := by
  have hne : 0 < ops.size := by
    have := (Array.getElem?_eq_some_iff.1 hl).1
    omega
  obtain ⟨hlt12, h2⟩ := of_decide_eq_true h2
  have hb := fun (i : Nat) (o : Oper) (ho : ops[i]? = some o) => (regOk_at hok ho).1
  have hd := fun (i j : Nat) (o o' : Oper) (d : Tmp) (ho : ops[i]? = some o) (ho' : ops[j]? = some o') (hd : o.dst = some d) (hd' : o'.dst = some d) => ((regOk_at hok ho).2.1 d hd).2 j o' ho' hd'
  have hin := fun (i : Nat) (o : Oper) (d : Tmp) (ho : ops[i]? = some o) (hd : o.dst = some d) => ((regOk_at hok ho).2.1 d hd).1
  have hw := fun i (hi : i + 1 < ops.size) => (regOk_at hok (Array.getElem?_eq_getElem (show i < ops.size by omega))).2.2 hi
  have hno : ∀ i, (Array.replicate ops.size false).getD i false = false := fun i => by
    rcases Nat.lt_or_ge i ops.size with h | h <;> simp [h]
  refine region_inv hm (fun listed a w => (Kept ops (F (listed.getD l1 false) (listed.getD l2 false)) (Below n0) a0 w0 listed a w ∧ listed.getD (ops.size - 1) false = false) ∨ (listed.size = ops.size ∧ (∀ i, i < ops.size → listed.getD i false = true) ∧ Q .normal a w)) ?_ hb ?_ ?_ ?_
  · exact .inl ⟨⟨by simp, fun i o _ h => (by rw [hno] at h; cases h), rfl, rfl, (Below.refl n0 w0).drew, fun _ _ => rfl, fun i o d _ _ h => (by rw [hno] at h; cases h)⟩, hno _⟩
  · rintro listed a w (⟨h, _⟩ | ⟨h, _⟩)
    · exact h.size
    · exact h
  · rintro listed a w (⟨hk, hnl⟩ | ⟨hs, ha, _⟩) i o ho hi hc
    · have hio : i < ops.size := (Array.getElem?_eq_some_iff.1 ho).1
      have hsz : n0 ≤ w.heap.size := Nat.le_trans hn hk.grown.size
      have hpi : listed.getD i false = false := by
        have hi' : i < listed.size := by rw [hk.size]; exact hio
        simpa [hi'] using hi
      have hsl : (listed.setIfInBounds i true).getD i false = true := getD_set_self (by rw [hk.size]; exact hio)
      by_cases hlst : i = ops.size - 1
      · subst hlst
        rw [ho] at hl; cases hl
        have hall := fun j => rest_came hk.shut hw ho hc ops.size j (by omega)
        rw [hall l2 h2, hall l1 (by omega)] at hk
        refine wpOp_mono (fun a' w' hq => .inr ⟨by simp [hk.size], fun j hj => ?_, hq⟩) (hlast listed a w hsz hk hall)
        by_cases hjl : j = ops.size - 1
        · subst hjl; exact hsl
        · exact getD_set_true (hall j (by omega))
      · by_cases hi1 : i = l1
        · subst hi1
          have hp2 : listed.getD l2 false = false := by
            cases e : listed.getD l2 false with
            | false => rfl
            | true =>
              exfalso
              unfold depOn at h12
              cases eo : ops[l2]? with
              | none => rw [eo] at h12; cases h12
              | some o2 =>
                rw [eo] at h12
                obtain ⟨x, hx, hxe⟩ := Array.any_eq_true'.1 h12
                simp only [Bool.and_eq_true, decide_eq_true_eq] at hxe
                have := hk.shut l2 o2 eo e x hx hxe.1
                rw [hxe.2, hpi] at this
                cases this
          rw [hpi, hp2] at hk
          refine wpOp_mono (fun a' w' hq => ?_) (hloud1 listed a w hsz hk o ho hc)
          obtain ⟨d, v, hod, rfl, hg, hv, hj⟩ := hq
          refine .inl ⟨?_, by rw [getD_set_ne false hlst]; exact hnl⟩
          rw [hsl, getD_set_ne false (show i ≠ l2 by omega), hp2]
          exact hk.more2 hj (hk.grown.trans hg) hd hin ho hod hc hv
        · by_cases hi2 : i = l2
          · subst hi2
            have hp1 : listed.getD l1 false = true := by
              unfold depOn at h12
              rw [ho] at h12
              obtain ⟨x, hx, hxe⟩ := Array.any_eq_true'.1 h12
              simp only [Bool.and_eq_true, decide_eq_true_eq] at hxe
              have := hc x hx hxe.1
              rwa [hxe.2] at this
            rw [hp1, hpi] at hk
            refine wpOp_mono (fun a' w' hq => ?_) (hloud2 listed a w hsz hk o ho hc)
            obtain ⟨d, v, hod, rfl, hg, hv, hj⟩ := hq
            refine .inl ⟨?_, by rw [getD_set_ne false hlst]; exact hnl⟩
            rw [hsl, getD_set_ne false (show i ≠ l1 by omega), hp1]
            exact hk.more2 hj (hk.grown.trans hg) hd hin ho hod hc hv
          · refine wpOp_mono (fun a' w' hq => ?_) (hstep listed a w _ _ hsz hk i o ho (by omega) hi1 hi2 hc)
            obtain ⟨d, v, hod, rfl, hg, hv⟩ := hq
            refine .inl ⟨?_, by rw [getD_set_ne false hlst]; exact hnl⟩
            rw [getD_set_ne false hi1, getD_set_ne false hi2]
            exact hk.more2 (fun j u _ h => hF _ _ _ _ _ _ hsz h hg) (hk.grown.trans (hg.mono hsz)) hd hin ho hod hc hv
    · exfalso
      have hio : i < ops.size := (Array.getElem?_eq_some_iff.1 ho).1
      have := ha i hio
      have hi' : i < listed.size := by omega
      simp [hi'] at this hi
      rw [this] at hi; cases hi
  · rintro listed a w (⟨hk, hnl⟩ | ⟨_, _, hq⟩) ha
    · rw [ha _ (by omega)] at hnl; cases hnl
    · exact hq

/-- The frame behind a region, slot by slot: what the operations lay, else what was there. -/
def laidT (a : Array Value) : List Oper → Array Value → Array Value
  | [], r => r
  | o :: l, r => laidT a l (match o.dst with | none => r | some d => r.setIfInBounds d (a[d]?.getD undef))
theorem laidT_size (a : Array Value) : ∀ (l : List Oper) (r : Array Value), (laidT a l r).size = r.size
  | [], r => rfl
  | o :: l, r => by
    rw [laidT, laidT_size a l]
    cases o.dst <;> simp
theorem laidT_at (a : Array Value) (t : Nat) : ∀ (l : List Oper) (r : Array Value), r[t]? = a[t]? ∨ (∃ o ∈ l, o.dst = some t) → a.size = r.size → (laidT a l r)[t]? = a[t]?
  | [], r, h, _ => by
    rcases h with h | ⟨o, ho, _⟩
    · exact h
    · simp at ho
  | o :: l, r, h, hs => by
    rw [laidT]
    cases e : o.dst with
    | none =>
      refine laidT_at a t l r ?_ hs
      rcases h with h | ⟨o', ho', he⟩
      · exact .inl h
      · rcases List.mem_cons.1 ho' with rfl | ho'
        · rw [e] at he; cases he
        · exact .inr ⟨o', ho', he⟩
    | some d =>
      simp only
      refine laidT_at a t l _ ?_ (by simpa using hs)
      by_cases hdt : d = t
      · subst hdt
        left
        rcases Nat.lt_or_ge d a.size with hlt | hge
        · rw [Array.getElem?_setIfInBounds_self_of_lt (by omega), Array.getElem?_eq_getElem hlt]
          rfl
        · rw [Array.getElem?_eq_none hge, Array.getElem?_eq_none (by simp; omega)]
      · rcases h with h | ⟨o', ho', he⟩
        · left
          rw [Array.getElem?_setIfInBounds_ne hdt]
          exact h
        · rcases List.mem_cons.1 ho' with rfl | ho'
          · rw [e] at he; cases he; exact absurd rfl hdt
          · exact .inr ⟨o', ho', he⟩
theorem Kept.frame {F : Nat → Value → World → Prop} {G : World → World → Prop} {a0 a : Act} {w0 w : World} {listed : Array Bool} (hk : Kept ops F G a0 w0 listed a w) : a = { a0 with tmps := laidT a.tmps ops.toList a0.tmps } := by
  have h1 : a.tmps = laidT a.tmps ops.toList a0.tmps := by
    refine Array.ext_getElem? fun t => ?_
    symm
    refine laidT_at a.tmps t _ _ ?_ hk.slots
    by_cases h : ∃ o ∈ ops.toList, o.dst = some t
    · exact .inr h
    · left
      refine (hk.other t fun i o ho hd => h ⟨o, ?_, hd⟩).symm
      exact List.mem_of_getElem? (i := i) (by simpa using ho)
  cases a
  cases a0
  have h2 := hk.defers
  simp only at h1 h2
  simp only [← h1, h2]
/-- The same, by puts. -/
def putT (t : Array Value) : List Oper → Act → Act
  | [], r => r
  | o :: l, r => putT t l (r.put o.dst (match o.dst with | none => undef | some d => t[d]?.getD undef))
theorem putT_eq (t : Array Value) : ∀ (l : List Oper) (r : Act), putT t l r = { r with tmps := laidT t l r.tmps }
  | [], r => rfl
  | o :: l, r => by
    rw [putT, putT_eq t l, laidT]
    cases o.dst <;> rfl
theorem Kept.puts {F : Nat → Value → World → Prop} {G : World → World → Prop} {a0 a : Act} {w0 w : World} {listed : Array Bool} (hk : Kept ops F G a0 w0 listed a w) : a = putT a.tmps ops.toList a0 := by
  rw [putT_eq]
  exact hk.frame
end
end Go.Proofs.Ytgmlgjdibpphaaa
