/- A region that draws its order, by a fact for each operation's value: the facts stand whatever comes behind them (G: how the world may grow), the last operation (a store, say) ends it. -/
import Derived.Test.YtgmlgjdibpphaaaRegInv
namespace Go.Proofs.Ytgmlgjdibpphaaa
set_option linter.unusedVariables false

section
variable {P : Program} {ops : Array Oper} {Q : Exit → Act → World → Prop}

/-- What an operation waits for has come. -/
def Came (listed : Array Bool) (o : Oper) : Prop := ∀ e ∈ o.after, Region.binds .any e = true → listed.getD e.on false = true

/-- The frame and the world in the midst of a region: what has come has its fact; the slots of no operation are as they were. -/
structure Kept (ops : Array Oper) (F : Nat → Value → World → Prop) (G : World → World → Prop) (a0 : Act) (w0 : World) (listed : Array Bool) (a : Act) (w : World) : Prop where
  size : listed.size = ops.size
  shut : ∀ (i : Nat) (o : Oper), ops[i]? = some o → listed.getD i false = true → Came listed o
  defers : a.defers = a0.defers
  slots : a.tmps.size = a0.tmps.size
  grown : G w0 w
  other : ∀ t, (∀ (i : Nat) (o : Oper), ops[i]? = some o → o.dst ≠ some t) → a.tmps[t]? = a0.tmps[t]?
  fact : ∀ (i : Nat) (o : Oper) (d : Tmp), ops[i]? = some o → o.dst = some d → listed.getD i false = true → ∃ v, a.tmps[d]? = some v ∧ F i v w

theorem came_more {listed : Array Bool} {i : Nat} {o : Oper} (h : Came listed o) : Came (listed.setIfInBounds i true) o := fun e he hb => getD_set_true (h e he hb)

theorem getD_set_self {listed : Array Bool} {i : Nat} (h : i < listed.size) : (listed.setIfInBounds i true).getD i false = true := by simp [h]

theorem Kept.more {F : Nat → Value → World → Prop} {G : World → World → Prop} {a0 a : Act} {w0 w w' : World} {listed : Array Bool} (hk : Kept ops F G a0 w0 listed a w) {i : Nat} {o : Oper} {d : Tmp} {v : Value}
    (hF : ∀ i v w w', F i v w → G w w' → F i v w') (hG : ∀ w w' w'', G w w' → G w' w'' → G w w'')
    (hd : ∀ (i j : Nat) (o o' : Oper) (d : Tmp), ops[i]? = some o → ops[j]? = some o' → o.dst = some d → o'.dst = some d → i = j)
    (hin : ∀ (i : Nat) (o : Oper) (d : Tmp), ops[i]? = some o → o.dst = some d → d < a0.tmps.size)
    (ho : ops[i]? = some o) (hod : o.dst = some d) (hc : Came listed o) (hg : G w w') (hv : F i v w') : Kept ops F G a0 w0 (listed.setIfInBounds i true) (a.put (some d) v) w' := by
  have hi : i < listed.size := by rw [hk.size]; exact (Array.getElem?_eq_some_iff.1 ho).1
  refine ⟨by simp [hk.size], fun j o' ho' hl => ?_, hk.defers, by simp [Act.put, hk.slots], hG _ _ _ hk.grown hg, fun t ht => ?_, fun j o' d' ho' hd' hl => ?_⟩
  · by_cases hij : i = j
    · subst hij
      rw [ho] at ho'; cases ho'
      exact came_more hc
    · rw [getD_set_ne false hij] at hl
      exact came_more (hk.shut j o' ho' hl)
  · have : d ≠ t := fun h => ht i o ho (by rw [hod, h])
    simp only [Act.put]
    rw [Array.getElem?_setIfInBounds_ne this]
    exact hk.other t ht
  · by_cases hij : i = j
    · subst hij
      rw [ho] at ho'; cases ho'
      rw [hod] at hd'; cases hd'
      refine ⟨v, ?_, hv⟩
      have : d < a.tmps.size := by rw [hk.slots]; exact hin i o d ho hod
      simp [Act.put, this]
    · rw [getD_set_ne false hij] at hl
      obtain ⟨u, hu, hf⟩ := hk.fact j o' d' ho' hd' hl
      have : d ≠ d' := fun h => hij (hd i j o o' d ho ho' hod (by rw [hd', h]))
      refine ⟨u, ?_, hF _ _ _ _ hf hg⟩
      simp only [Act.put]
      rw [Array.getElem?_setIfInBounds_ne this]
      exact hu

/-- Where the last operation may come, all others have come: each but it is waited for by a later one. -/
theorem rest_came {listed : Array Bool} (hs : ∀ (i : Nat) (o : Oper), ops[i]? = some o → listed.getD i false = true → Came listed o)
    (hw : ∀ i, i + 1 < ops.size → ∃ (j : Nat) (o : Oper), i < j ∧ ops[j]? = some o ∧ ∃ e ∈ o.after, Region.binds .any e = true ∧ e.on = i)
    {l : Oper} (hl : ops[ops.size - 1]? = some l) (hc : Came listed l) : ∀ (n i : Nat), ops.size ≤ i + 1 + n → i + 1 < ops.size → listed.getD i false = true
  | 0, i, h, hi => by omega
  | n + 1, i, h, hi => by
    obtain ⟨j, o, hij, ho, e, he, hb, rfl⟩ := hw i hi
    have hj : j < ops.size := (Array.getElem?_eq_some_iff.1 ho).1
    by_cases hlast : j = ops.size - 1
    · subst hlast
      rw [ho] at hl; cases hl
      exact hc e he hb
    · exact hs j o ho (rest_came hs hw hl hc n j (by omega) (by omega)) e he hb

/-- The region: each operation but the last lays a value that has its fact, from the facts of those it waits for; the last one, with all the facts, ends it. -/
theorem region_facts {id : Nat} {a0 : Act} {w0 : World} (hm : P.follows .mixedOrders = true) (F : Nat → Value → World → Prop) (G : World → World → Prop)
    (hF : ∀ i v w w', F i v w → G w w' → F i v w') (hG : ∀ w w' w'', G w w' → G w' w'' → G w w'') (h0 : G w0 { w0 with drawn := w0.drawn + 1 })
    (hb : ∀ (i : Nat) (o : Oper), ops[i]? = some o → ∀ e ∈ o.after, e.on < i)
    (hd : ∀ (i j : Nat) (o o' : Oper) (d : Tmp), ops[i]? = some o → ops[j]? = some o' → o.dst = some d → o'.dst = some d → i = j)
    (hin : ∀ (i : Nat) (o : Oper) (d : Tmp), ops[i]? = some o → o.dst = some d → d < a0.tmps.size)
    (hw : ∀ i, i + 1 < ops.size → ∃ (j : Nat) (o : Oper), i < j ∧ ops[j]? = some o ∧ ∃ e ∈ o.after, Region.binds .any e = true ∧ e.on = i)
    {l : Oper} (hl : ops[ops.size - 1]? = some l)
    (hstep : ∀ listed a w, Kept ops F G a0 w0 listed a w → ∀ (i : Nat) (o : Oper), ops[i]? = some o → i + 1 < ops.size → Came listed o →
      wpOp P ops Q i (fun a' w' => ∃ d v, o.dst = some d ∧ a' = a.put (some d) v ∧ G w w' ∧ F i v w') a w)
    (hlast : ∀ listed a w, Kept ops F G a0 w0 listed a w → (∀ i, i + 1 < ops.size → listed.getD i false = true) → wpOp P ops Q (ops.size - 1) (fun a' w' => Q .normal a' w') a w) :
    (Code.region id ops true).wp P Q a0 w0 := by
  have hne : 0 < ops.size := by
    have := (Array.getElem?_eq_some_iff.1 hl).1
    omega
  refine region_inv hm (fun listed a w => (Kept ops F G a0 w0 listed a w ∧ listed.getD (ops.size - 1) false = false) ∨ (listed.size = ops.size ∧ (∀ i, i < ops.size → listed.getD i false = true) ∧ Q .normal a w)) ?_ hb ?_ ?_ ?_
  · have hno : ∀ i, (Array.replicate ops.size false).getD i false = false := fun i => by
      rcases Nat.lt_or_ge i ops.size with h | h <;> simp [h]
    exact .inl ⟨⟨by simp, fun i o _ h => (by rw [hno] at h; cases h), rfl, rfl, h0, fun _ _ => rfl, fun i o d _ _ h => (by rw [hno] at h; cases h)⟩, hno _⟩
  · rintro listed a w (⟨h, _⟩ | ⟨h, _⟩)
    · exact h.size
    · exact h
  · rintro listed a w (⟨hk, hn⟩ | ⟨hs, ha, _⟩) i o ho hi hc
    · have hio : i < ops.size := (Array.getElem?_eq_some_iff.1 ho).1
      by_cases hlst : i = ops.size - 1
      · subst hlst
        rw [ho] at hl; cases hl
        have hall := fun j => rest_came hk.shut hw ho hc ops.size j (by omega)
        refine wpOp_mono (fun a' w' hq => .inr ⟨by simp [hk.size], fun j hj => ?_, hq⟩) (hlast listed a w hk hall)
        by_cases hjl : j = ops.size - 1
        · subst hjl; exact getD_set_self (by rw [hk.size]; exact hio)
        · exact getD_set_true (hall j (by omega))
      · refine wpOp_mono (fun a' w' hq => ?_) (hstep listed a w hk i o ho (by omega) hc)
        obtain ⟨d, v, hod, rfl, hg, hv⟩ := hq
        exact .inl ⟨hk.more hF hG hd hin ho hod hc hg hv, by rw [getD_set_ne false hlst]; exact hn⟩
    · exfalso
      have hio : i < ops.size := (Array.getElem?_eq_some_iff.1 ho).1
      have := ha i hio
      have hi' : i < listed.size := by omega
      simp [hi'] at this hi
      rw [this] at hi; cases hi
  · rintro listed a w (⟨hk, hn⟩ | ⟨_, _, hq⟩) ha
    · rw [ha _ (by omega)] at hn; cases hn
    · exact hq

/-- What region_facts asks of the operations' numbers, reckoned. -/
def regOk (ops : Array Oper) (n : Nat) : Bool := (List.range ops.size).all fun i => match ops[i]? with
  | none => true
  | some o => (o.after.all fun e => decide (e.on < i)) && (match o.dst with
      | none => true
      | some d => decide (d < n) && (List.range ops.size).all fun j => match ops[j]? with
        | none => true
        | some o' => decide (o'.dst ≠ some d) || decide (i = j)) &&
    (decide (ops.size ≤ i + 1) || (List.range ops.size).any fun j => match ops[j]? with
        | none => false
        | some o' => decide (i < j) && o'.after.any fun e => Region.binds .any e && decide (e.on = i))

theorem regOk_at {n : Nat} (h : regOk ops n = true) {i : Nat} {o : Oper} (ho : ops[i]? = some o) :
    (∀ e ∈ o.after, e.on < i) ∧ (∀ d, o.dst = some d → d < n ∧ ∀ (j : Nat) (o' : Oper), ops[j]? = some o' → o'.dst = some d → i = j) ∧
      (i + 1 < ops.size → ∃ (j : Nat) (o' : Oper), i < j ∧ ops[j]? = some o' ∧ ∃ e ∈ o'.after, Region.binds .any e = true ∧ e.on = i) := by
  have hi : i < ops.size := (Array.getElem?_eq_some_iff.1 ho).1
  have h1 := List.all_eq_true.1 h i (List.mem_range.2 hi)
  rw [ho] at h1
  simp only [Bool.and_eq_true, Bool.or_eq_true, decide_eq_true_eq] at h1
  obtain ⟨⟨ha, hb⟩, hc⟩ := h1
  refine ⟨fun e he => ?_, fun d hd => ?_, fun hlt => ?_⟩
  · have := Array.all_eq_true_iff_forall_mem.1 ha e he
    simpa using this
  · rw [hd] at hb
    simp only [Bool.and_eq_true, decide_eq_true_eq] at hb
    refine ⟨hb.1, fun j o' ho' hd' => ?_⟩
    have h2 := List.all_eq_true.1 hb.2 j (List.mem_range.2 (Array.getElem?_eq_some_iff.1 ho').1)
    rw [ho'] at h2
    simp only [Bool.or_eq_true, decide_eq_true_eq] at h2
    rcases h2 with h2 | h2
    · exact absurd hd' h2
    · exact h2
  · rcases hc with hc | hc
    · omega
    · obtain ⟨j, _, hj⟩ := List.any_eq_true.1 hc
      cases ho' : ops[j]? with
      | none => rw [ho'] at hj; cases hj
      | some o' =>
        rw [ho'] at hj
        simp only [Bool.and_eq_true, decide_eq_true_eq] at hj
        obtain ⟨e, he, hbe⟩ := Array.any_eq_true'.1 hj.2
        simp only [Bool.and_eq_true, decide_eq_true_eq] at hbe
        exact ⟨j, o', hj.1, ho', e, he, hbe.1, hbe.2⟩

theorem region_factsB {id : Nat} {a0 : Act} {w0 : World} (hm : P.follows .mixedOrders = true) (F : Nat → Value → World → Prop) (G : World → World → Prop)
    (hF : ∀ i v w w', F i v w → G w w' → F i v w') (hG : ∀ w w' w'', G w w' → G w' w'' → G w w'') (h0 : G w0 { w0 with drawn := w0.drawn + 1 })
    (hok : regOk ops a0.tmps.size = true) {l : Oper} (hl : ops[ops.size - 1]? = some l)
    (hstep : ∀ listed a w, Kept ops F G a0 w0 listed a w → ∀ (i : Nat) (o : Oper), ops[i]? = some o → i + 1 < ops.size → Came listed o →
      wpOp P ops Q i (fun a' w' => ∃ d v, o.dst = some d ∧ a' = a.put (some d) v ∧ G w w' ∧ F i v w') a w)
    (hlast : ∀ listed a w, Kept ops F G a0 w0 listed a w → (∀ i, i + 1 < ops.size → listed.getD i false = true) → wpOp P ops Q (ops.size - 1) (fun a' w' => Q .normal a' w') a w) :
    (Code.region id ops true).wp P Q a0 w0 :=
  region_facts hm F G hF hG h0 (fun i o ho => (regOk_at hok ho).1) (fun i j o o' d ho ho' hd hd' => ((regOk_at hok ho).2.1 d hd).2 j o' ho' hd') (fun i o d ho hd => ((regOk_at hok ho).2.1 d hd).1)
    (fun i hi => (regOk_at hok (Array.getElem?_eq_getElem (show i < ops.size by omega))).2.2 hi) hl hstep hlast

/-- An operation that lays a value. -/
theorem wpOp_val {i : Nat} {o : Oper} {a : Act} {w w' : World} {v : Value} {K : Act → World → Prop} (ho : ops[i]? = some o) (hg : o.guard = none) (hr : (execOp a.eval o).run P w = .ok (.value v) w') (hk : K (a.put o.dst v) w') : wpOp P ops Q i K a w := by
  unfold wpOp
  rw [ho]
  show if Region.wanted o (yielded ops a.tmps) = true then _ else _
  rw [if_pos (by unfold Region.wanted; rw [hg])]
  refine .inl ?_
  unfold Oper.wp
  rw [hr]
  exact hk

/-- No operation writes this slot. -/
def noDst (ops : Array Oper) (t : Nat) : Bool := (List.range ops.size).all fun i => match ops[i]? with
  | none => true
  | some o => decide (o.dst ≠ some t)

theorem Kept.read {F : Nat → Value → World → Prop} {G : World → World → Prop} {a0 a : Act} {w0 w : World} {listed : Array Bool} (hk : Kept ops F G a0 w0 listed a w) {t : Nat} {v : Value} (hn : noDst ops t = true) (h : a0.tmps[t]? = some v) : a.tmps[t]?.getD undef = v := by
  have h1 := hk.other t fun i o ho => by
    have h2 := List.all_eq_true.1 hn i (List.mem_range.2 (Array.getElem?_eq_some_iff.1 ho).1)
    rw [ho] at h2
    simpa using h2
  rw [h1, h]
  rfl

theorem Kept.got {F : Nat → Value → World → Prop} {G : World → World → Prop} {a0 a : Act} {w0 w : World} {listed : Array Bool} (hk : Kept ops F G a0 w0 listed a w) {j : Nat} {o : Oper} {d : Tmp} (ho : ops[j]? = some o) (hd : o.dst = some d) (hl : listed.getD j false = true) :
    ∃ v, a.tmps[d]?.getD undef = v ∧ F j v w := by
  obtain ⟨v, h, hf⟩ := hk.fact j o d ho hd hl
  refine ⟨v, ?_, hf⟩
  rw [h]
  rfl
end
end Go.Proofs.Ytgmlgjdibpphaaa
