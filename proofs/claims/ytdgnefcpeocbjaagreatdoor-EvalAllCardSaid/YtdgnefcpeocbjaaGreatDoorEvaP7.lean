/- Several texts in one file: RegInv, RegDet, EvAllW, ArgE, FiHold, FiHead, FiParse, FiAwake, FiDeep, FiOpen. -/
import Derived.RegionTactic
import Derived.RowKit
import Derived.Test.YtdgnefcpeocbjaaGreatDoorEvaP6
import Derived.Deep.RegionLaw
import Derived.Deep.RegionHeld3
import Derived.Test.YtdgnefcpeocbjaaGreatDoorEnFind
import Derived.OpenShut
import Derived.Carry
import Derived.ChangeSame
import Derived.ChangeSlices
import Derived.Deep.Strs
import Derived.Deep.SlicePairs
import Derived.Test.YtdgnefcpeocbjaaGreatDoorEvaP2
import Derived.Test.YtdgnefcpeocbjaaGreatDoorFiSamR
import Derived.Laws.MakeOwn
import Derived.Laws.Rows
import Derived.ChangeArms
/- A region that draws its order, by ONE invariant over its steps: each operation is proved once, in whatever order they come. -/
namespace Go.Proofs.YtdgnefcpeocbjaaGreatDoor
set_option linter.unusedVariables false

section
variable {P : Program} {ops : Array Oper} {Q : Exit → Act → World → Prop} {md : Region.Mode}

/-- How many operations are still to come. -/
def toCome (l : Array Bool) : Nat := l.toList.count false

theorem toCome_some {l : Array Bool} {i : Nat} (h : l.getD i true = false) : ∃ hi : i < l.size, l[i] = false := by
  rcases Nat.lt_or_ge i l.size with hi | hi
  · refine ⟨hi, ?_⟩
    simpa [hi] using h
  · simp [Array.getElem?_eq_none hi] at h

theorem toCome_set {l : Array Bool} {i : Nat} (h : l.getD i true = false) : toCome (l.setIfInBounds i true) + 1 = toCome l := by
  obtain ⟨hi, he⟩ := toCome_some h
  unfold toCome
  have hi' : i < l.toList.length := by simpa using hi
  have he' : l.toList[i] = false := by simpa using he
  have hpos : 0 < l.toList.count false := List.count_pos_iff.2 (by rw [← he']; exact List.getElem_mem hi')
  rw [Array.toList_setIfInBounds, List.count_set hi', he']
  rw [if_pos (by rfl), if_neg (by decide)]
  omega

theorem toCome_none {l : Array Bool} (h : toCome l = 0) {i : Nat} : l.getD i true ≠ false := fun hf => by
  have := toCome_set hf
  omega

theorem wpAny_inv (Inv : Array Bool → Act → World → Prop)
    (hstep : ∀ listed a w, Inv listed a w → ∀ i ∈ Region.ready md ops listed, wpOp P ops Q i (Inv (listed.setIfInBounds i true)) a w)
    (hend : ∀ listed a w, Inv listed a w → Region.ready md ops listed = [] → Q .normal a w) :
    ∀ (fuel : Nat) (listed : Array Bool) (a : Act) (w : World), toCome listed ≤ fuel → Inv listed a w → wpAny P md ops Q fuel listed a w
  | 0, listed, a, w, hf, hI => by
    have hr : Region.ready md ops listed = [] := by
      cases hc : Region.ready md ops listed with
      | nil => rfl
      | cons j rs => exact absurd (mem_ready.1 (hc ▸ List.mem_cons_self : j ∈ Region.ready md ops listed)).1 (toCome_none (by omega))
    exact ⟨hr, hend _ _ _ hI hr⟩
  | fuel + 1, listed, a, w, hf, hI => by
    refine ⟨fun hr => hend _ _ _ hI hr, fun i hi => wpOp_mono (fun a' w' h => ?_) (hstep _ _ _ hI i hi)⟩
    have := toCome_set (mem_ready.1 hi).1
    exact wpAny_inv Inv hstep hend fuel _ a' w' (by omega) h

/-- Where each operation comes behind operations of lesser numbers alone, none is ready only when all have come. -/
theorem all_come {listed : Array Bool} (hb : ∀ (i : Nat) (o : Oper), ops[i]? = some o → ∀ e ∈ o.after, e.on < i) (hs : listed.size = ops.size) (hr : Region.ready md ops listed = []) :
    ∀ (n i : Nat), i < n → i < ops.size → listed.getD i false = true
  | 0, i, h, _ => by omega
  | n + 1, i, h, hi => by
    have ih := all_come hb hs hr n
    cases hc : listed.getD i false with
    | true => rfl
    | false =>
      exfalso
      have hm : i ∈ Region.ready md ops listed := by
        refine mem_ready.2 ⟨?_, ops[i], Array.getElem?_eq_getElem hi, fun e he _ => ?_⟩
        · have hi' : i < listed.size := by omega
          simpa [hi'] using hc
        · have := hb i _ (Array.getElem?_eq_getElem hi) e he
          exact ih e.on (by omega) (by omega)
      rw [hr] at hm
      cases hm

/-- The region: an invariant that holds at its start and that each operation, once those it waits for have come, keeps. -/
theorem region_inv {id : Nat} {a : Act} {w : World} (hm : P.follows .mixedOrders = true) (Inv : Array Bool → Act → World → Prop)
    (h0 : Inv (Array.replicate ops.size false) a { w with drawn := w.drawn + 1 })
    (hb : ∀ (i : Nat) (o : Oper), ops[i]? = some o → ∀ e ∈ o.after, e.on < i)
    (hsize : ∀ listed a w, Inv listed a w → listed.size = ops.size)
    (hstep : ∀ listed a w, Inv listed a w → ∀ (i : Nat) (o : Oper), ops[i]? = some o → listed.getD i true = false → (∀ e ∈ o.after, Region.binds .any e = true → listed.getD e.on false = true) →
      wpOp P ops Q i (Inv (listed.setIfInBounds i true)) a w)
    (hend : ∀ listed a w, Inv listed a w → (∀ i, i < ops.size → listed.getD i false = true) → Q .normal a w) : (Code.region id ops true).wp P Q a w := by
  refine wp_region_any hm (wpAny_inv Inv (fun listed a w hI i hi => ?_) (fun listed a w hI hr => ?_) _ _ _ _ ?_ h0)
  · obtain ⟨h1, o, h2, h3⟩ := mem_ready.1 hi
    exact hstep listed a w hI i o h2 h1 h3
  · exact hend listed a w hI fun i hi => all_come hb (hsize _ _ _ hI) hr (i + 1) i (by omega) hi
  · unfold toCome
    refine Nat.le_trans List.count_le_length ?_
    simp
end
end Go.Proofs.YtdgnefcpeocbjaaGreatDoor

/- A region that draws its order, each of whose operations lays ONE value in whatever world meets S (a load, a sum, a call that answers so and leaves S as it is; one that its guard shuts lays nothing): walked once, in the order of its text. -/
namespace Go.Proofs.YtdgnefcpeocbjaaGreatDoor
set_option linter.unusedVariables false
set_option linter.unusedSimpArgs false

section
variable {P : Program} {ops : Array Oper} {Q : Exit → Act → World → Prop} {S : World → Prop}

/-- In every world that meets S operation o lays v, and S stays. -/
def Det (P : Program) (ops : Array Oper) (S : World → Prop) (o : Oper) (v : Value) (a : Act) : Prop :=
  (Region.wanted o (yielded ops a.tmps) = true ∧ ∀ w, S w → (execOp a.eval o).run P w = .ok (.value v) w ∨
    ∃ f args, (execOp a.eval o).run P w = .ok (.enter f args) w ∧ Calls P f args w fun e w' => e = .returned v ∧ S w') ∨
  (Region.wanted o (yielded ops a.tmps) = false ∧ v = undef)

theorem Det.wpOp {i : Nat} {o : Oper} {v : Value} {a : Act} {w : World} {K : Act → World → Prop} (hi : ops[i]? = some o) (hd : Det P ops S o v a) (hS : S w) (hk : ∀ w', S w' → K (a.put o.dst v) w') : wpOp P ops Q i K a w := by
  unfold Go.wpOp
  simp only [hi]
  rcases hd with ⟨hw, hv⟩ | ⟨hw, rfl⟩
  · simp only [hw, if_true]
    refine .inl ?_
    unfold Oper.wp
    rcases hv w hS with h | ⟨f, args, h, hc⟩
    · rw [h]
      exact hk w hS
    · rw [h]
      exact Calls.mono hc fun e w' he => by
        obtain ⟨rfl, h⟩ := he
        exact hk w' h
  · simp only [hw, Bool.false_eq_true, if_false]
    exact hk w hS

/-- What the operations read, and write: each slot that one reads and another one writes, the two wait for one another; each is written by one alone. -/
def hasOn (o : Oper) (i : Nat) : Bool := o.after.any fun e => Region.binds .any e && decide (e.on = i)
def detOk (ops : Array Oper) (n : Nat) : Bool := (List.range ops.size).all fun i => match ops[i]? with
  | none => true
  | some o => (o.after.all fun e => decide (e.on < i)) && (match o.op with | .select _ _ => false | _ => true) && (match o.dst with
      | none => true
      | some d => decide (d < n) && (List.range ops.size).all fun j => match ops[j]? with
        | none => true
        | some o' => decide (i = j) || (decide (o'.dst ≠ some d) && (!(o'.looksAt ops).contains d || (if i < j then hasOn o' i else hasOn o j))))

structure DetOk (ops : Array Oper) (n : Nat) : Prop where
  back : ∀ (i : Nat) (o : Oper), ops[i]? = some o → ∀ e ∈ o.after, e.on < i
  sel : ∀ (i : Nat) (o : Oper), ops[i]? = some o → ∀ cs b, o.op ≠ .select cs b
  inn : ∀ (i : Nat) (o : Oper) (d : Tmp), ops[i]? = some o → o.dst = some d → d < n
  one : ∀ (i j : Nat) (o o' : Oper) (d : Tmp), ops[i]? = some o → ops[j]? = some o' → o.dst = some d → o'.dst = some d → i = j
  looks : ∀ (i j : Nat) (o o' : Oper) (d : Tmp), ops[i]? = some o → ops[j]? = some o' → o.dst = some d → d ∈ o'.looksAt ops → i ≠ j → (if i < j then hasOn o' i else hasOn o j) = true

theorem detOk_at {n : Nat} (h : detOk ops n = true) : DetOk ops n := by
  have key : ∀ (i : Nat) (o : Oper), ops[i]? = some o → (o.after.all fun e => decide (e.on < i)) = true ∧ (match o.op with | .select _ _ => false | _ => true) = true ∧ ∀ d, o.dst = some d → d < n ∧ ∀ (j : Nat) (o' : Oper), ops[j]? = some o' → i ≠ j → o'.dst ≠ some d ∧ (d ∈ o'.looksAt ops → (if i < j then hasOn o' i else hasOn o j) = true) := by
    intro i o ho
    have hi : i < ops.size := (Array.getElem?_eq_some_iff.1 ho).1
    have h1 := List.all_eq_true.1 h i (List.mem_range.2 hi)
    rw [ho] at h1
    simp only [Bool.and_eq_true] at h1
    obtain ⟨⟨ha, hs⟩, hb⟩ := h1
    refine ⟨ha, hs, fun d hd => ?_⟩
    rw [hd] at hb
    simp only [Bool.and_eq_true, decide_eq_true_eq] at hb
    refine ⟨hb.1, fun j o' ho' hne => ?_⟩
    have h2 := List.all_eq_true.1 hb.2 j (List.mem_range.2 (Array.getElem?_eq_some_iff.1 ho').1)
    rw [ho'] at h2
    simp only [Bool.or_eq_true, Bool.and_eq_true, decide_eq_true_eq, Bool.not_eq_true'] at h2
    rcases h2 with h2 | ⟨h2, h3⟩
    · exact absurd h2 hne
    · refine ⟨h2, fun hm => ?_⟩
      rcases h3 with h3 | h3
      · have : (o'.looksAt ops).contains d = true := by simpa using hm
        rw [this] at h3
        cases h3
      · exact h3
  refine ⟨fun i o ho e he => ?_, fun i o ho cs b hc => ?_, fun i o d ho hd => ((key i o ho).2.2 d hd).1, fun i j o o' d ho ho' hd hd' => ?_, fun i j o o' d ho ho' hd hm hne => (((key i o ho).2.2 d hd).2 j o' ho' hne).2 hm⟩
  · have := Array.all_eq_true_iff_forall_mem.1 (key i o ho).1 e he
    simpa using this
  · have := (key i o ho).2.1
    rw [hc] at this
    cases this
  · rcases Nat.decEq i j with hne | heq
    · exact absurd hd' (((key i o ho).2.2 d hd).2 j o' ho' hne).1
    · exact heq

/-- The frame when the operations of L have come: their slots hold their values, the other ones what they held. -/
structure FrameAt (ops : Array Oper) (vs : List Value) (a0 : Act) (L : Nat → Prop) (a : Act) : Prop where
  defers : a.defers = a0.defers
  slots : a.tmps.size = a0.tmps.size
  come : ∀ (i : Nat) (o : Oper) (d : Tmp), ops[i]? = some o → o.dst = some d → L i → a.tmps[d]? = vs[i]?
  rest : ∀ t, (∀ (i : Nat) (o : Oper), ops[i]? = some o → o.dst = some t → ¬ L i) → a.tmps[t]? = a0.tmps[t]?

theorem FrameAt.put {vs : List Value} {a0 a : Act} {L : Nat → Prop} {n : Nat} (hn : n = a0.tmps.size) (hok : DetOk ops n) (h : FrameAt ops vs a0 L a) {i : Nat} {o : Oper} {v : Value} (ho : ops[i]? = some o) (hv : vs[i]? = some v) :
    FrameAt ops vs a0 (fun j => L j ∨ j = i) (a.put o.dst v) := by
  subst hn
  cases hd : o.dst with
  | none =>
    refine ⟨h.defers, h.slots, fun j o' d ho' hd' hl => ?_, fun t ht => h.rest t fun j o' ho' hd' hl => ht j o' ho' hd' (.inl hl)⟩
    rcases hl with hl | rfl
    · exact h.come j o' d ho' hd' hl
    · rw [ho] at ho'; cases ho'
      rw [hd] at hd'; cases hd'
  | some d =>
    have hdl := hok.inn i o d ho hd
    refine ⟨h.defers, by simp [Act.put, h.slots], fun j o' d' ho' hd' hl => ?_, fun t ht => ?_⟩
    · by_cases hji : j = i
      · subst hji
        rw [ho] at ho'; cases ho'
        rw [hd] at hd'; cases hd'
        have : d < a.tmps.size := by rw [h.slots]; exact hdl
        simp [Act.put, this, hv]
      · have hl' : L j := hl.resolve_right hji
        have hne : d ≠ d' := fun e => hji (hok.one j i o' o d' ho' ho hd' (by rw [hd, e]))
        simp only [Act.put]
        rw [Array.getElem?_setIfInBounds_ne hne]
        exact h.come j o' d' ho' hd' hl'
    · have hne : d ≠ t := fun e => ht i o ho (by rw [hd, e]) (.inr rfl)
      simp only [Act.put]
      rw [Array.getElem?_setIfInBounds_ne hne]
      exact h.rest t fun j o' ho' hd' hl => ht j o' ho' hd' (.inl hl)

/-- Two frames agree on a slot whose writer has come in both or in none. -/
theorem FrameAt.same {vs : List Value} {a0 a a' : Act} {L L' : Nat → Prop} {n : Nat} (hok : DetOk ops n) (h : FrameAt ops vs a0 L a) (h' : FrameAt ops vs a0 L' a') {t : Tmp}
    (ht : ∀ (i : Nat) (o : Oper), ops[i]? = some o → o.dst = some t → (L i ↔ L' i)) : a.tmps[t]? = a'.tmps[t]? := by
  by_cases hx : ∃ (i : Nat) (o : Oper), ops[i]? = some o ∧ o.dst = some t ∧ L i
  · obtain ⟨i, o, ho, hd, hl⟩ := hx
    rw [h.come i o t ho hd hl, h'.come i o t ho hd ((ht i o ho hd).1 hl)]
  · rw [h.rest t fun i o ho hd hl => hx ⟨i, o, ho, hd, hl⟩, h'.rest t fun i o ho hd hl => hx ⟨i, o, ho, hd, (ht i o ho hd).2 hl⟩]

theorem FrameAt.imp {vs : List Value} {a0 a : Act} {L L' : Nat → Prop} (h : FrameAt ops vs a0 L a) (hl : ∀ i, i < ops.size → (L i ↔ L' i)) : FrameAt ops vs a0 L' a :=
  have lt : ∀ {i : Nat} {o : Oper}, ops[i]? = some o → i < ops.size := fun ho => (Array.getElem?_eq_some_iff.1 ho).1
  ⟨h.defers, h.slots, fun i o d ho hd hL => h.come i o d ho hd ((hl i (lt ho)).2 hL), fun t ht => h.rest t fun i o ho hd hL => ht i o ho hd ((hl i (lt ho)).1 hL)⟩

theorem Det.same {vs : List Value} {a0 a a' : Act} {L L' : Nat → Prop} {n : Nat} (hok : DetOk ops n) (h : FrameAt ops vs a0 L a) (h' : FrameAt ops vs a0 L' a') {i : Nat} {o : Oper} {v : Value} (ho : ops[i]? = some o)
    (ht : ∀ (j : Nat) (o' : Oper) (d : Tmp), ops[j]? = some o' → o'.dst = some d → d ∈ o.looksAt ops → (L j ↔ L' j)) (hd : Det P ops S o v a) : Det P ops S o v a' := by
  have hs : ∀ d, d ∈ o.looksAt ops → a.tmps[d]? = a'.tmps[d]? := fun d hm => h.same hok h' fun j o' ho' hd' => ht j o' d ho' hd' hm
  have he : execOp a'.eval o = execOp a.eval o := execOp_congr o (hok.sel i o ho) fun x hx => by
    cases x with
    | tmp t =>
      have : t ∈ o.looksAt ops := List.mem_append_left _ (List.mem_filterMap.2 ⟨.tmp t, by simpa using hx, rfl⟩)
      have hh := hs t this
      simp [Act.eval, hh]
    | _ => rfl
  have hw : Region.wanted o (yielded ops a'.tmps) = Region.wanted o (yielded ops a.tmps) := by
    unfold Region.wanted
    cases hg : o.guard with
    | none => rfl
    | some gw =>
      obtain ⟨g, want⟩ := gw
      have hy : yielded ops a'.tmps g = yielded ops a.tmps g := by
        unfold yielded
        cases hb : (ops[g]?).bind (·.dst) with
        | none => rfl
        | some t =>
          have : t ∈ o.looksAt ops := List.mem_append_right _ (by simp [hg, hb])
          have hh := hs t this
          simp [hh]
      simp only [hy]
  unfold Det at *
  rw [he, hw]
  exact hd

/-- The walk in the order of the text. -/
def DetSeq (P : Program) (ops : Array Oper) (S : World → Prop) : List Oper → Act → (Act → Prop) → Prop
  | [], a, K => K a
  | o :: rest, a, K => ∃ v, Det P ops S o v a ∧ DetSeq P ops S rest (a.put o.dst v) K

theorem detSeq_get {K : Act → Prop} : ∀ (l : List Oper) (k : Nat) (vs : List Value) (a0 a : Act) (n : Nat), n = a0.tmps.size → DetOk ops n → ops.toList.drop k = l → k ≤ ops.size → vs.length = k →
    (∀ i, i < k → ∀ o, ops[i]? = some o → ∃ b v, vs[i]? = some v ∧ FrameAt ops vs a0 (fun j => j < i) b ∧ Det P ops S o v b) → FrameAt ops vs a0 (fun j => j < k) a → DetSeq P ops S l a K →
    ∃ us : List Value, us.length = ops.size ∧ (∀ i, i < ops.size → ∀ o, ops[i]? = some o → ∃ b v, us[i]? = some v ∧ FrameAt ops us a0 (fun j => j < i) b ∧ Det P ops S o v b) ∧ ∃ b, FrameAt ops us a0 (fun _ => True) b ∧ K b
  | [], k, vs, a0, a, n, hn, hok, hl, hk, hv, hD, hF, hseq => by
    have hke : k = ops.size := by
      have := congrArg List.length hl
      simp at this
      omega
    subst hke
    exact ⟨vs, hv, hD, a, hF.imp fun i hi => ⟨fun _ => trivial, fun _ => hi⟩, hseq⟩
  | o :: l, k, vs, a0, a, n, hn, hok, hl, hk, hv, hD, hF, ⟨v, hd, hrest⟩ => by
    have hlt : k < ops.size := by
      have := congrArg List.length hl
      simp at this
      omega
    have ho : ops[k]? = some o := by
      have h1 : (ops.toList.drop k)[0]? = some o := by rw [hl]; rfl
      rw [List.getElem?_drop] at h1
      simpa using h1
    have old : ∀ i, i < k → (vs ++ [v])[i]? = vs[i]? := fun i hi => List.getElem?_append_left (by omega)
    have mv : ∀ (i : Nat) (b : Act), i ≤ k → FrameAt ops vs a0 (fun j => j < i) b → FrameAt ops (vs ++ [v]) a0 (fun j => j < i) b := fun i b hi hb =>
      ⟨hb.defers, hb.slots, fun j o' d ho' hd' hl' => by
        have hl' : j < i := hl'
        rw [hb.come j o' d ho' hd' hl', old j (by omega)], hb.rest⟩
    refine detSeq_get l (k + 1) (vs ++ [v]) a0 (a.put o.dst v) n hn hok ?_ (by omega) (by simp [hv]) (fun i hi o' ho' => ?_) ?_ hrest
    · have : (ops.toList.drop k).drop 1 = l := by rw [hl]; rfl
      rw [List.drop_drop] at this
      exact this
    · by_cases hik : i = k
      · subst hik
        rw [ho] at ho'; cases ho'
        exact ⟨a, v, by simp [← hv], mv i a (by omega) hF, hd⟩
      · obtain ⟨b, u, h1, h2, h3⟩ := hD i (by omega) o' ho'
        exact ⟨b, u, by rw [old i (by omega)]; exact h1, mv i b (by omega) h2, h3⟩
    · exact ((mv k a (by omega) hF).put hn hok ho (by simp [← hv])).imp fun j _ => ⟨fun h => by omega, fun h => by omega⟩

/-- The region. -/
theorem region_det {id : Nat} {a0 : Act} {w0 : World} (hm : P.follows .mixedOrders = true) (S : World → Prop) (hS : S w0.drew) (hok : detOk ops a0.tmps.size = true)
    (h : DetSeq P ops S ops.toList a0 fun a => ∀ w, S w → Q .normal a w) : (Code.region id ops true).wp P Q a0 w0 := by
  have hk := detOk_at hok
  obtain ⟨us, hul, hD, b, hb, hQ⟩ := detSeq_get ops.toList 0 [] a0 a0 a0.tmps.size rfl hk (by simp) (by omega) rfl (fun i hi => absurd hi (by omega)) ⟨rfl, rfl, fun i o d _ _ hl => absurd hl (Nat.not_lt_zero i), fun _ _ => rfl⟩ h
  have hno : ∀ i, (Array.replicate ops.size false).getD i false = false := fun i => by
    rcases Nat.lt_or_ge i ops.size with h | h <;> simp [h]
  refine region_inv hm (fun listed a w => listed.size = ops.size ∧ S w ∧ (∀ (i : Nat) (o : Oper), ops[i]? = some o → listed.getD i false = true → ∀ e ∈ o.after, Region.binds .any e = true → listed.getD e.on false = true) ∧ FrameAt ops us a0 (fun j => listed.getD j false = true) a) ?_ hk.back (fun listed a w hI => hI.1) ?_ ?_
  · refine ⟨by simp, hS, fun i o _ hl => (by rw [hno] at hl; cases hl), rfl, rfl, fun i o d _ _ hl => (by rw [hno] at hl; cases hl), fun _ _ => rfl⟩
  · rintro listed a w ⟨hs, hSw, hshut, hF⟩ i o ho hi hc
    have hio : i < ops.size := (Array.getElem?_eq_some_iff.1 ho).1
    have hil : i < listed.size := by omega
    have hnl : ¬ listed.getD i false = true := by
      have : listed[i] = false := by simpa [hil] using hi
      simp [hil, this]
    obtain ⟨c, v, hv, hFc, hd⟩ := hD i hio o ho
    have hd' : Det P ops S o v a := hd.same hk hFc hF ho fun j o' d ho' hd' hm => by
      by_cases hji : j = i
      · subst hji
        exact ⟨fun h => absurd h (Nat.lt_irrefl _), fun h => absurd h hnl⟩
      · have hlk := hk.looks j i o' o d ho' ho hd' hm hji
        by_cases hlt : j < i
        · rw [if_pos hlt] at hlk
          obtain ⟨e, he, hbe⟩ := Array.any_eq_true'.1 hlk
          simp only [Bool.and_eq_true, decide_eq_true_eq] at hbe
          have := hc e he hbe.1
          rw [hbe.2] at this
          exact ⟨fun _ => this, fun _ => hlt⟩
        · rw [if_neg hlt] at hlk
          obtain ⟨e, he, hbe⟩ := Array.any_eq_true'.1 hlk
          simp only [Bool.and_eq_true, decide_eq_true_eq] at hbe
          refine ⟨fun h => absurd h hlt, fun h => ?_⟩
          have := hshut j o' ho' h e he hbe.1
          rw [hbe.2] at this
          exact absurd this hnl
    refine hd'.wpOp ho hSw fun w' hSw' => ⟨by simp [hs], hSw', fun j o' ho' hl e he hb => ?_, ?_⟩
    · by_cases hij : i = j
      · subst hij
        rw [ho] at ho'; cases ho'
        exact getD_set_true (hc e he hb)
      · rw [getD_set_ne false hij] at hl
        exact getD_set_true (hshut j o' ho' hl e he hb)
    · refine (hF.put rfl hk ho hv).imp fun j hj => ?_
      by_cases hij : i = j
      · subst hij
        exact ⟨fun _ => by simp [hil], fun _ => .inr rfl⟩
      · rw [getD_set_ne false hij]
        exact ⟨fun h => h.resolve_right fun e => hij e.symm, .inl⟩
  · rintro listed a w ⟨hs, hSw, _, hF⟩ ha
    have hF' := hF.imp (L' := fun _ => True) fun i hi => ⟨fun _ => trivial, fun _ => ha i hi⟩
    have : a = b := by
      obtain ⟨t1, d1⟩ := a
      obtain ⟨t2, d2⟩ := b
      have h1 : t1 = t2 := Array.ext_getElem? fun t => hF'.same hk hb fun _ _ _ _ => Iff.rfl
      have h2 : d1 = d2 := hF'.defers.trans hb.defers.symm
      rw [h1, h2]
    rw [this]
    exact hQ w hSw

/-! ### The steps of the walk -/
theorem det_val {o : Oper} {v : Value} {rest : List Oper} {a : Act} {K : Act → Prop} (hw : Region.wanted o (yielded ops a.tmps) = true) (hv : ∀ w, S w → (execOp a.eval o).run P w = .ok (.value v) w)
    (h : DetSeq P ops S rest (a.put o.dst v) K) : DetSeq P ops S (o :: rest) a K := ⟨v, .inl ⟨hw, fun w hS => .inl (hv w hS)⟩, h⟩
theorem det_shut {o : Oper} {rest : List Oper} {a : Act} {K : Act → Prop} (hw : Region.wanted o (yielded ops a.tmps) = false)
    (h : DetSeq P ops S rest (a.put o.dst undef) K) : DetSeq P ops S (o :: rest) a K := ⟨undef, .inr ⟨hw, rfl⟩, h⟩
theorem det_call {o : Oper} {v : Value} {f : FuncId} {args : Array Value} {rest : List Oper} {a : Act} {K : Act → Prop} (hw : Region.wanted o (yielded ops a.tmps) = true) (hv : ∀ w, S w → (execOp a.eval o).run P w = .ok (.enter f args) w)
    (hc : ∀ w, S w → Calls P f args w fun e w' => e = .returned v ∧ S w')
    (h : DetSeq P ops S rest (a.put o.dst v) K) : DetSeq P ops S (o :: rest) a K := ⟨v, .inl ⟨hw, fun w hS => .inr ⟨f, args, hv w hS, hc w hS⟩⟩, h⟩
end
end Go.Proofs.YtdgnefcpeocbjaaGreatDoor

/- EvalAll: the walk. -/
namespace Go.Proofs.YtdgnefcpeocbjaaGreatDoor
open Go.RowKit
set_option linter.unusedVariables false
set_option linter.unusedSimpArgs false

theorem greatD_small {d : List UInt8} {L : List AT} (h : greatD d L = false) : smallA L := by
  obtain ⟨h1, _, h3⟩ := great_no h
  refine ⟨by omega, fun a ha => ?_⟩
  obtain ⟨h4, h5, h6⟩ := h3 a ha
  exact ⟨by omega, by omega, fun s hs => by have := h6 s hs; omega⟩
set_option maxRecDepth 100000 in
set_option maxHeartbeats 8000000 in
theorem evalAll_any (f : FT) (v : Value) (L : List AT) (D : ByteArray) (u : Value) (w : World) (h : IsFl (Lt w) w f v) (hA : IsA w.heap.size w L u) (hw : LaidW w) (hx : LaidX w) :
    Calls Tryz.prog 3 #[v, .agg #[.string D, u]] w fun e w' => e = .returned (.bool true) ∧ Below w.heap.size w w' := by
  obtain ⟨va, vc, rfl, _⟩ := id hA
  obtain ⟨vn, hvn⟩ : ∃ n, n = L.length := ⟨_, rfl⟩
  rw [← hvn] at hA ⊢
  obtain ⟨k, T, X, pa, m, pc, ka, n, kc, rfl⟩ := h.shape
  obtain ⟨W0, hW0⟩ : ∃ W, W = w.alloc (.cells #[.int .i64 k, .string T, .string X, .slice pa m pc, .slice ka n kc] 25) := ⟨_, rfl⟩
  obtain ⟨W1, hW1⟩ : ∃ W, W = W0.alloc (.cells #[.string D, .slice va vn vc] 28) := ⟨_, rfl⟩
  have hb0 : Below w.heap.size w W0 := by rw [hW0]; exact box5 w _ _ _ _ _
  have hb01 : Below W0.heap.size W0 W1 := by rw [hW1]; exact (Below.refl _ _).alloc (Nat.le_refl _) _
  have hb1 : Below w.heap.size w W1 := bthen hb0 hb01
  have hf0 : FlAt W0 w.heap.size (.int .i64 k) (.string T) (.string X) (.slice pa m pc) (.slice ka n kc) := by rw [hW0]; exact heap_alloc_new w _
  have hf : FlAt W1 w.heap.size (.int .i64 k) (.string T) (.string X) (.slice pa m pc) (.slice ka n kc) := fl_below hf0 hb01 (fl_lt hf0)
  obtain ⟨eb, heb⟩ : ∃ b, b = w.heap.size + 1 := ⟨_, rfl⟩
  have hsz : W0.heap.size = eb := by rw [heb, hW0]; simp only [World.alloc, Array.size_push]
  have he : EnAt W1 eb D (.slice va vn vc) := by rw [← hsz, hW1]; exact heap_alloc_new W0 _
  have hE : ∀ W, Below W1.heap.size W1 W → FlAt W w.heap.size (.int .i64 k) (.string T) (.string X) (.slice pa m pc) (.slice ka n kc) ∧ EnAt W eb D (.slice va vn vc) := fun W hW => ⟨fl_below hf hW (fl_lt hf), en_below he hW (en_lt he)⟩
  have HE := Lib.hid hE
  have HW0 := Lib.hid hW0.symm
  have HW1 := Lib.hid hW1.symm
  have HEb := Lib.hid heb.symm
  have HB1 := Lib.hid hb1
  obtain ⟨d0, d1, d2, d3, d4⟩ := fl_cells hf
  obtain ⟨e0, e1⟩ := en_cells he
  have hgf := fun (W : World) (hW : Below W1.heap.size W1 W) => greatFl_says f _ W (h.below (bthen hb1 hW))
  have hge := fun (W : World) (hW : Below W1.heap.size W1 W) => great_any D L (.slice va vn vc) W (hA.below (bthen hb1 hW) (bthen hb1 hW).size)
  have HAw := Lib.hid (fun (W : World) (hW : Below W1.heap.size W1 W) => awake7_any W (hw.below (bthen hb1 hW)) (hx.below (bthen hb1 hW)))
  have hev := fun (hs : smallA L) (W : World) (hW : Below W1.heap.size W1 W) => evalP_any f _ L D va vn vc W (h.below (bthen hb1 hW)) hs (hw.below (bthen hb1 hW)) (hx.below (bthen hb1 hW)) (hA.below (bthen hb1 hW) (bthen hb1 hW).size)
  have her := fun (hs : smallA L) (W : World) (hW : Below W1.heap.size W1 W) => evalR_any f _ L D va vn vc W (h.below (bthen hb1 hW)) hs (hA.below (bthen hb1 hW) (bthen hb1 hW).size)
  obtain ⟨R, hR⟩ : ∃ R, R = evalD L f := ⟨_, rfl⟩
  rw [← hR] at hev her
  have HDr : Hid (Below W1.heap.size W1 W1.drew) := Lib.hid (Below.refl _ _).drew
  have t1 : decide ((R : Int) = (R : Int)) = true := by simp
  have t2 : ((R : Int) == (R : Int)) = true := by simp
  have HC : Hid (∀ W, Below W1.heap.size W1 W → W.cell? ⟨w.heap.size, 0, none⟩ = some (.int .i64 k) ∧ W.cell? ⟨w.heap.size, 1, none⟩ = some (.string T) ∧ W.cell? ⟨w.heap.size, 2, none⟩ = some (.string X) ∧ W.cell? ⟨w.heap.size, 3, none⟩ = some (.slice pa m pc) ∧ W.cell? ⟨w.heap.size, 4, none⟩ = some (.slice ka n kc) ∧ W.cell? ⟨eb, 0, none⟩ = some (.string D) ∧ W.cell? ⟨eb, 1, none⟩ = some (.slice va vn vc) ∧ Below W1.heap.size W1 W) := Lib.hid (fun W hW => by
    obtain ⟨g0, g1, g2, g3, g4⟩ := fl_cells (HE.out _ hW).1
    obtain ⟨z0, z1⟩ := en_cells (HE.out _ hW).2
    exact ⟨g0, g1, g2, g3, g4, z0, z1, hW⟩)
  have hst := HC.out _ HDr.out
  cases hgq : greatF f with
  | true =>
    have hgf2 := fun W hW => (hgf W hW).mono (fun _ _ h => show _ ∧ _ from ⟨h.1.trans (by rw [hgq]), h.2.2⟩)
    have HGf := Lib.hid hgf2
    clear hW0 hW1 hb0 hb01 hb1 hf0 hf heb hsz he hE h hA hw hx hge hev her hR hvn hgf hgf2 hgq
    go_enter Tryz.func3, Tryz.ntmps3
    go_upto_region 1 with (fail)
    rw [HW0.out, HW1.out, HEb.out]
    refine region_det (by kernel_rfl) (fun w' => w'.cell? ⟨w.heap.size, 0, none⟩ = some (.int .i64 k) ∧ w'.cell? ⟨w.heap.size, 1, none⟩ = some (.string T) ∧ w'.cell? ⟨w.heap.size, 2, none⟩ = some (.string X) ∧ w'.cell? ⟨w.heap.size, 3, none⟩ = some (.slice pa m pc) ∧ w'.cell? ⟨w.heap.size, 4, none⟩ = some (.slice ka n kc) ∧ w'.cell? ⟨eb, 0, none⟩ = some (.string D) ∧ w'.cell? ⟨eb, 1, none⟩ = some (.slice va vn vc) ∧ Below W1.heap.size W1 w') (hst) (by kernel_rfl) ?_
    simp only [List.toList_toArray]
    repeat' (first
      | (refine det_shut (by rfl) ?_; (simp only [Act.put, List.setIfInBounds_toArray, List.set_cons_zero, List.set_cons_succ]))
      | (apply det_val; (case hw => rfl); (case hv => (intro w' hS; (obtain ⟨s0, s1, s2, s3, s4, s5, s6, s7⟩ := hS); go_simp; first | done | with_reducible exact rfl)); (simp only [Act.put, List.setIfInBounds_toArray, List.set_cons_zero, List.set_cons_succ]))
      | (apply det_call; (case hw => rfl); (case hv => (intro w' hS; (obtain ⟨s0, s1, s2, s3, s4, s5, s6, s7⟩ := hS); go_simp; first | done | with_reducible exact rfl | with_reducible exact ⟨rfl, rfl⟩)); (case hc => (intro w' hS; (first | (go_at_call 10; with_reducible exact (HGf.out w' hS.2.2.2.2.2.2.2).mono (fun e w'' h => ⟨h.1, HC.out w'' (bthen hS.2.2.2.2.2.2.2 h.2)⟩))))); (simp only [Act.put, List.setIfInBounds_toArray, List.set_cons_zero, List.set_cons_succ]))
      | fail)
    intro w9 hS9
    have HB9 := Lib.hid (bthen HB1.out hS9.2.2.2.2.2.2.2)
    go_wp2
    go_ret
    exact ⟨rfl, HB9.out⟩
  | false =>
    have hgf2 := fun W hW => (hgf W hW).mono (fun _ _ h => show _ ∧ _ from ⟨h.1.trans (by rw [hgq]), h.2.2⟩)
    have HGf := Lib.hid hgf2
    cases hg : greatD D.data.toList L with
    | true =>
      rw [hg] at hge
      have HGe := Lib.hid hge
      clear hW0 hW1 hb0 hb01 hb1 hf0 hf heb hsz he hE h hA hw hx hge hev her hR hg hvn hgf hgf2 hgq
      go_enter Tryz.func3, Tryz.ntmps3
      go_upto_region 1 with (fail)
      rw [HW0.out, HW1.out, HEb.out]
      refine region_det (by kernel_rfl) (fun w' => w'.cell? ⟨w.heap.size, 0, none⟩ = some (.int .i64 k) ∧ w'.cell? ⟨w.heap.size, 1, none⟩ = some (.string T) ∧ w'.cell? ⟨w.heap.size, 2, none⟩ = some (.string X) ∧ w'.cell? ⟨w.heap.size, 3, none⟩ = some (.slice pa m pc) ∧ w'.cell? ⟨w.heap.size, 4, none⟩ = some (.slice ka n kc) ∧ w'.cell? ⟨eb, 0, none⟩ = some (.string D) ∧ w'.cell? ⟨eb, 1, none⟩ = some (.slice va vn vc) ∧ Below W1.heap.size W1 w') (hst) (by kernel_rfl) ?_
      simp only [List.toList_toArray]
      repeat' (first
        | (refine det_shut (by rfl) ?_; (simp only [Act.put, List.setIfInBounds_toArray, List.set_cons_zero, List.set_cons_succ]))
        | (apply det_val; (case hw => rfl); (case hv => (intro w' hS; (obtain ⟨s0, s1, s2, s3, s4, s5, s6, s7⟩ := hS); go_simp; first | done | with_reducible exact rfl)); (simp only [Act.put, List.setIfInBounds_toArray, List.set_cons_zero, List.set_cons_succ]))
        | (apply det_call; (case hw => rfl); (case hv => (intro w' hS; (obtain ⟨s0, s1, s2, s3, s4, s5, s6, s7⟩ := hS); go_simp; first | done | with_reducible exact rfl | with_reducible exact ⟨rfl, rfl⟩)); (case hc => (intro w' hS; (first | (go_at_call 10; with_reducible exact (HGf.out w' hS.2.2.2.2.2.2.2).mono (fun e w'' h => ⟨h.1, HC.out w'' (bthen hS.2.2.2.2.2.2.2 h.2)⟩)) | (go_at_call 11; with_reducible exact (HGe.out w' hS.2.2.2.2.2.2.2).mono (fun e w'' h => ⟨h.1, HC.out w'' (bthen hS.2.2.2.2.2.2.2 h.2)⟩))))); (simp only [Act.put, List.setIfInBounds_toArray, List.set_cons_zero, List.set_cons_succ]))
        | fail)
      intro w9 hS9
      have HB9 := Lib.hid (bthen HB1.out hS9.2.2.2.2.2.2.2)
      go_wp2
      go_ret
      exact ⟨rfl, HB9.out⟩
    | false =>
      rw [hg] at hge
      have HGe := Lib.hid hge
      have HEv := Lib.hid (hev (greatD_small hg))
      have HEr := Lib.hid (her (greatD_small hg))
      clear hW0 hW1 hb0 hb01 hb1 hf0 hf heb hsz he hE h hA hw hx hge hev her hR hg hvn hgf hgf2 hgq
      go_enter Tryz.func3, Tryz.ntmps3
      go_upto_region 1 with (fail)
      rw [HW0.out, HW1.out, HEb.out]
      refine region_det (by kernel_rfl) (fun w' => w'.cell? ⟨w.heap.size, 0, none⟩ = some (.int .i64 k) ∧ w'.cell? ⟨w.heap.size, 1, none⟩ = some (.string T) ∧ w'.cell? ⟨w.heap.size, 2, none⟩ = some (.string X) ∧ w'.cell? ⟨w.heap.size, 3, none⟩ = some (.slice pa m pc) ∧ w'.cell? ⟨w.heap.size, 4, none⟩ = some (.slice ka n kc) ∧ w'.cell? ⟨eb, 0, none⟩ = some (.string D) ∧ w'.cell? ⟨eb, 1, none⟩ = some (.slice va vn vc) ∧ Below W1.heap.size W1 w') (hst) (by kernel_rfl) ?_
      simp only [List.toList_toArray]
      repeat' (first
        | (refine det_shut (by rfl) ?_; (simp only [Act.put, List.setIfInBounds_toArray, List.set_cons_zero, List.set_cons_succ]))
        | (apply det_val; (case hw => rfl); (case hv => (intro w' hS; (obtain ⟨s0, s1, s2, s3, s4, s5, s6, s7⟩ := hS); go_simp; first | done | with_reducible exact rfl)); (simp only [Act.put, List.setIfInBounds_toArray, List.set_cons_zero, List.set_cons_succ]))
        | (apply det_call; (case hw => rfl); (case hv => (intro w' hS; (obtain ⟨s0, s1, s2, s3, s4, s5, s6, s7⟩ := hS); go_simp; first | done | with_reducible exact rfl | with_reducible exact ⟨rfl, rfl⟩)); (case hc => (intro w' hS; (first | (go_at_call 10; with_reducible exact (HGf.out w' hS.2.2.2.2.2.2.2).mono (fun e w'' h => ⟨h.1, HC.out w'' (bthen hS.2.2.2.2.2.2.2 h.2)⟩)) | (go_at_call 11; with_reducible exact (HGe.out w' hS.2.2.2.2.2.2.2).mono (fun e w'' h => ⟨h.1, HC.out w'' (bthen hS.2.2.2.2.2.2.2 h.2)⟩)) | (go_at_call 12; with_reducible exact (HEv.out w' hS.2.2.2.2.2.2.2).mono (fun e w'' h => ⟨h.1, HC.out w'' (bthen hS.2.2.2.2.2.2.2 h.2)⟩)) | (go_at_call 13; with_reducible exact (HEr.out w' hS.2.2.2.2.2.2.2).mono (fun e w'' h => ⟨h.1, HC.out w'' (bthen hS.2.2.2.2.2.2.2 h.2)⟩)) | (go_at_call 14; with_reducible exact (HAw.out w' hS.2.2.2.2.2.2.2).mono (fun e w'' h => ⟨h.1, HC.out w'' (bthen hS.2.2.2.2.2.2.2 h.2)⟩))))); (simp only [Act.put, List.setIfInBounds_toArray, List.set_cons_zero, List.set_cons_succ]))
        | fail)
      intro w9 hS9
      have HB9 := Lib.hid (bthen HB1.out hS9.2.2.2.2.2.2.2)
      go_wp2
      go_ret
      exact ⟨rfl, HB9.out⟩
end Go.Proofs.YtdgnefcpeocbjaaGreatDoor

/- An entry among the arguments. -/
namespace Go.Proofs.YtdgnefcpeocbjaaGreatDoor
open Go.RowKit
set_option linter.unusedVariables false

set_option maxRecDepth 100000 in
theorem open_isT {H : Type} {enc : TypeId × Value → H} {W : World} {fuel : Nat} {cs : List Value} {x : DataW H × List MemPlace} (h : DataW.trod enc Tryz.prog W 0 (fun _ => true) true fuel 22 cs = some x) :
    ∃ v L, cs = [v] ∧ IsT W.heap.size W L v := by
  have hc : Tryz.prog.cellsOf 9 = 1 := by kernel_rfl
  rcases Go.Deep.open_strs Tryz.underlying22 Tryz.underlying9 hc h with ⟨hcs, _⟩ | ⟨a, len, cap, m, Sx, hcs, _, hle, hmax, hm, _, hcell⟩
  · exact ⟨_, [], hcs, none, 0, rfl, Nat.zero_le _, fun j h => absurd h (by simp)⟩
  · simp only [if_true] at hm
    have hlen : ((List.range len).map fun i => (Sx i).data.toList).length = len := by simp
    refine ⟨_, (List.range len).map fun i => (Sx i).data.toList, hcs, some a, cap, by rw [hlen], by omega, fun j hj => ?_⟩
    rw [hlen] at hj
    obtain ⟨b, off, spot⟩ := a
    have h1 := (hcell j (by omega)).1
    have hspot : spot = none := by simpa [Addr.add] using World.cell?_spot (hcell 0 (by omega)).1
    subst hspot
    rw [Go.WideShapes.add_plain] at h1
    refine ⟨b, off, rfl, World.block_lt_of_cell? W _ h1, ?_⟩
    rw [h1]
    simp only [List.getElem_map, List.getElem_range]
    show some (Value.string (Sx j)) = some (.string ⟨(Sx j).data.toList.toArray⟩)
    rw [whole_ext]

set_option maxRecDepth 100000 in
theorem open_isA {H : Type} {enc : TypeId × Value → H} {W : World} {fuel : Nat} {cs : List Value} {x : DataW H × List MemPlace} (h : DataW.trod enc Tryz.prog W 0 (fun _ => true) true fuel 26 cs = some x) :
    ∃ v L, cs = [v] ∧ IsA W.heap.size W L v := by
  rcases Go.Deep.open_slice_pairs Tryz.underlying26 Tryz.underlying45 (by kernel_rfl) rfl rfl (by kernel_rfl) (by kernel_rfl) h with ⟨hcs, _⟩ | ⟨a, len, cap, m, n, V0, V1, D0, D1, P0, P1, hcs, _, hle, hmax, hm, _, hcell⟩
  · exact ⟨_, [], hcs, none, 0, rfl, Nat.zero_le _, fun j h => absurd h (by simp)⟩
  · simp only [if_true] at hm
    have each : ∀ i, ∃ r : AT, i < len → W.cell? (a.add (i * 2)) = some (strV r.1) ∧ ∃ u, W.cell? (a.add (i * 2 + 1)) = some u ∧ IsT W.heap.size W r.2 u := fun i => by
      by_cases h : i < len
      · obtain ⟨h0, h1, g0, g1⟩ := hcell i (by omega)
        obtain ⟨x, e0, _⟩ := DataW.trod_string Tryz.underlying9 g0
        simp only [List.cons.injEq, and_true] at e0
        obtain ⟨u, L, e1, hL⟩ := open_isT g1
        simp only [List.cons.injEq, and_true] at e1
        refine ⟨(x.data.toList, L), fun _ => ⟨?_, u, by rw [h1, e1], hL⟩⟩
        rw [h0, e0]; show some (Value.string x) = some (.string ⟨x.data.toList.toArray⟩); rw [whole_ext]
      · exact ⟨([], []), fun h' => absurd h' h⟩
    obtain ⟨f, hfl⟩ := Classical.skolem.1 each
    have hL : ((List.range len).map f).length = len := by simp
    refine ⟨_, (List.range len).map f, hcs, some a, cap, by rw [hL], by rw [hL]; omega, fun j hj => ?_⟩
    rw [hL] at hj
    obtain ⟨h0, u, h1, h2⟩ := hfl j hj
    obtain ⟨b, off, spot⟩ := a
    have hspot : spot = none := by simpa [Addr.add] using World.cell?_spot (hfl 0 (by omega)).1
    subst hspot
    rw [Go.WideShapes.add_plain] at h0 h1
    refine ⟨b, off, u, rfl, World.block_lt_of_cell? W _ h0, ?_, ?_, ?_⟩
    · rw [h0]; simp
    · rw [show off + j * 2 + 1 = off + (j * 2 + 1) from by omega, h1]
    · simpa using h2

set_option maxRecDepth 100000 in
theorem open_entry {H : Type} {enc : TypeId × Value → H} {W : World} {v : Value} {d : DataW H} {ps : List MemPlace} (hval : Value.okWide Tryz.prog W .any 0 28 v) (hd : DataW.Trod enc Tryz.prog W 0 (fun _ => true) true 28 v d ps) :
    ∃ (D : ByteArray) (L : List AT) (u : Value), v = .agg #[.string D, u] ∧ D.size ≤ maxLen ∧ IsA W.heap.size W L u := by
  obtain ⟨cs, rfl, _⟩ := Go.WideShapes.okWide_struct Tryz.underlying28 hval
  obtain ⟨fuel, hf⟩ := hd
  obtain ⟨y0, y1, n, _, hl, g0, g1⟩ := Go.ChangeShapes.trod_struct2 Tryz.underlying28 hf
  rw [show Tryz.prog.cellsOf 28 = 2 from by kernel_rfl] at hl
  obtain ⟨v0, v1, hcs⟩ : ∃ v0 v1, (Value.agg cs).cells.toList = [v0, v1] := by
    match h : (Value.agg cs).cells.toList, hl with
    | [v0, v1], _ => exact ⟨v0, v1, rfl⟩
  rw [hcs] at g0 g1
  have f0 : DataW.trod enc Tryz.prog W 0 (fun _ => true) true n 9 (([v0, v1].drop 0).take (Tryz.prog.cellsOf 9)) = some y0 := g0
  have f1 : DataW.trod enc Tryz.prog W 0 (fun _ => true) true n 26 (([v0, v1].drop 1).take (Tryz.prog.cellsOf 26)) = some y1 := g1
  rw [show Tryz.prog.cellsOf 9 = 1 from by kernel_rfl] at f0
  rw [show Tryz.prog.cellsOf 26 = 1 from by kernel_rfl] at f1
  simp only [List.drop_zero, List.take_succ_cons, List.take_zero, List.drop_succ_cons] at f0 f1
  obtain ⟨s, e0, _, hs⟩ := DataW.trod_string Tryz.underlying9 f0
  obtain ⟨u, L, e1, hL⟩ := open_isA f1
  simp only [List.cons.injEq, and_true] at e0 e1
  subst e0 e1
  refine ⟨s, L, _, ?_, hs, hL⟩
  have : cs = #[.string s, v1] := by
    cases cs
    simpa [Value.cells] using hcs
  rw [this]
end Go.Proofs.YtdgnefcpeocbjaaGreatDoor

/- filter.holder: the walk. -/
namespace Go.Proofs.YtdgnefcpeocbjaaGreatDoor
open Go.RowKit
set_option linter.unusedVariables false
set_option linter.unusedSimpArgs false

theorem ownF_grown {B g : Nat} {w w' : World} {v : Value} {l : List FT} (h : OwnF B w v l) (hg : w.grownBy w' (some g)) (hB : g < B) : OwnF B w' v l := by
  obtain ⟨xs, h1, h2⟩ := h
  refine ⟨xs, h1.imp (fun b hb => ⟨hb.1, Nat.lt_of_lt_of_le hb.2.1 hg.size, hb.2.2⟩) (fun b o hb => ?_), World.ownsRow.kept h2 hg ?_⟩
  · unfold World.cell?
    rw [hg.block b hb.2.1 (fun e => by have := Option.some.inj e; have := hb.1; omega)]
  · rcases h2.2 with ⟨rfl, _⟩ | ⟨c, cap, cur, rfl, hc, _⟩
    · exact .inl rfl
    · right
      intro e
      have : c = g := by simpa [Value.ownBlock] using e
      omega
theorem wpList_append_F {ops : Array Oper} {rest : List Oper} {o : Oper} {a : Act} {w : World} {Q : Exit → Act → World → Prop} (hgd : o.guard = none) (sl x : Operand)
    (ho : o.op = .call { callee := .builtin .append, args := #[sl, x], argTypes := #[23, 23] })
    (B c : Nat) (v : Value) (l : List FT) (hs : a.eval sl = v) (hown : OwnF B w v l) (hB : B ≤ w.heap.size) {f : FT} {x0 x1 x2 x3 x4 : Value} (hf : IsFl (NewB B w v.ownBlock) w f (.agg #[x0, x1, x2, x3, x4]))
    (hc : w.heap[c]? = some (.cells #[x0, x1, x2, x3, x4] 25 (0, 0))) (hx : a.eval x = .slice (some ⟨c, 0, none⟩) 1 1) (hlen : l.length ≤ 1000)
    (h : ∀ v' w', OwnF B w' v' (l ++ [f]) → Below B w w' → wpList Tryz.prog ops Q rest (a.put o.dst v') w') : wpList Tryz.prog ops Q (o :: rest) a w := by
  refine wpList_plain hgd fun K hK => ?_
  obtain ⟨v', w', hr, h2, h3, _⟩ := run_append_F hown hB hf hc hlen o.type
  unfold Oper.wp execOp
  simp only [ho, resolve, invoke, builtin, Sem.run_bind, Sem.run_pure, Result.andThen_ok, List.map_toArray, List.map_cons, List.map_nil, hs, hx, hr]
  exact hK _ _ (h v' w' h2 h3)
theorem kidsC_le {k : Int} {n : Nat} (h : kidsC k n = true) : n ≤ 40 := by
  unfold kidsC at h
  split at h
  · simp only [decide_eq_true_eq] at h; omega
  · simpa using h
/-- What is still to be read tells the same as all did. -/
def KidsInv (D : List UInt8 → Option (FT × List UInt8)) (k : Int) (s : List UInt8) (L : List FT) (q : List UInt8) : Prop :=
  ∃ fu, q.length < fu ∧ kidsD D k (s.length + 1) 0 s = (kidsD D k fu L.length q).map fun x => (L ++ x.1, x.2)
theorem kidsInv_start (D : List UInt8 → Option (FT × List UInt8)) (k : Int) (s : List UInt8) : KidsInv D k s [] s :=
  ⟨s.length + 1, Nat.lt_succ_self _, by
    show _ = (kidsD D k (s.length + 1) 0 s).map _
    cases kidsD D k (s.length + 1) 0 s <;> rfl⟩
theorem kidsInv_step {D : List UInt8 → Option (FT × List UInt8)} {k : Int} {s : List UInt8} {L : List FT} {q r : List UInt8} {f : FT} (h : KidsInv D k s L q) (h41 : ¬ q.head? = some 41) (hd : D q = some (f, r)) (hl : r.length < q.length) (hk : kidsC k (L.length + 1) = true) : KidsInv D k s (L ++ [f]) r := by
  obtain ⟨fu, hfu, e⟩ := h
  match fu, hfu with
  | fu + 1, hfu =>
    refine ⟨fu, by omega, e.trans ?_⟩
    show ((if q.head? = some 41 then some ([], q) else match D q with
      | none => none
      | some (f, r) => if kidsC k (L.length + 1) then (kidsD D k fu (L.length + 1) r).map fun x => (f :: x.1, x.2) else none)).map _ = _
    rw [if_neg h41, hd]
    show (if kidsC k (L.length + 1) then (kidsD D k fu (L.length + 1) r).map fun x => (f :: x.1, x.2) else none).map _ = _
    rw [if_pos hk, List.length_append]
    show _ = (kidsD D k fu (L.length + 1) r).map _
    cases kidsD D k fu (L.length + 1) r with
    | none => rfl
    | some x => simp
theorem kidsInv_none {D : List UInt8 → Option (FT × List UInt8)} {k : Int} {s : List UInt8} {L : List FT} {q : List UInt8} (h : KidsInv D k s L q) (h41 : ¬ q.head? = some 41) (hd : D q = none) : holdD D k s = none := by
  obtain ⟨fu, hfu, e⟩ := h
  match fu, hfu with
  | fu + 1, hfu =>
    have e1 : kidsD D k (fu + 1) L.length q = none := by
      show (if q.head? = some 41 then some ([], q) else match D q with
        | none => none
        | some (f, r) => if kidsC k (L.length + 1) then (kidsD D k fu (L.length + 1) r).map fun x => (f :: x.1, x.2) else none) = none
      rw [if_neg h41, hd]
    rw [e1] at e
    unfold holdD
    rw [e]
    rfl
theorem kidsInv_many {D : List UInt8 → Option (FT × List UInt8)} {k : Int} {s : List UInt8} {L : List FT} {q r : List UInt8} {f : FT} (h : KidsInv D k s L q) (h41 : ¬ q.head? = some 41) (hd : D q = some (f, r)) (hk : kidsC k (L.length + 1) = false) : holdD D k s = none := by
  obtain ⟨fu, hfu, e⟩ := h
  match fu, hfu with
  | fu + 1, hfu =>
    have e1 : kidsD D k (fu + 1) L.length q = none := by
      show (if q.head? = some 41 then some ([], q) else match D q with
        | none => none
        | some (f, r) => if kidsC k (L.length + 1) then (kidsD D k fu (L.length + 1) r).map fun x => (f :: x.1, x.2) else none) = none
      rw [if_neg h41, hd]
      show (if kidsC k (L.length + 1) then (kidsD D k fu (L.length + 1) r).map fun x => (f :: x.1, x.2) else none) = none
      rw [hk]
      rfl
    rw [e1] at e
    unfold holdD
    rw [e]
    rfl
theorem kidsInv_end {D : List UInt8 → Option (FT × List UInt8)} {k : Int} {s : List UInt8} {L : List FT} {q : List UInt8} (h : KidsInv D k s L q) (h41 : q.head? = some 41) : holdD D k s = if kidsC k L.length then some (.mk k [] [] [] L, q.drop 1) else none := by
  obtain ⟨fu, hfu, e⟩ := h
  match fu, hfu with
  | fu + 1, hfu =>
    have e1 : kidsD D k (fu + 1) L.length q = some ([], q) := by
      show (if q.head? = some 41 then some ([], q) else match D q with
        | none => none
        | some (f, r) => if kidsC k (L.length + 1) then (kidsD D k fu (L.length + 1) r).map fun x => (f :: x.1, x.2) else none) = _
      rw [if_pos h41]
    rw [e1] at e
    unfold holdD
    rw [e]
    simp
theorem pre41 (l : List UInt8) : Lib.hasPrefix l [41] = true ↔ l.head? = some 41 := by
  cases l with
  | nil => simp [Lib.hasPrefix]
  | cons c r =>
    show ((41 == c && List.isPrefixOf [] r) = true) ↔ some c = some 41
    rw [Bool.and_eq_true, beq_iff_eq]
    constructor
    · rintro ⟨rfl, _⟩; rfl
    · intro h; cases h; exact ⟨rfl, rfl⟩
theorem belowFl_grown {n g : Nat} {w w' : World} (h : w.grownBy w' (some g)) (hn : n ≤ g) (hw : n ≤ w.heap.size) : Below n w w' :=
  { size := h.size, block := fun k hk => h.block k (Nat.lt_of_lt_of_le hk hw) (fun e => by have := Option.some.inj e; omega), os := h.os, tape := h.tape, output := h.output }
def rdLen (w : World) (g : Nat) : Nat := match w.cell? ⟨g, 0, none⟩ with
  | some (.string r) => r.size
  | _ => 0
end Go.Proofs.YtdgnefcpeocbjaaGreatDoor

/- filter.head: the walk. -/
namespace Go.Proofs.YtdgnefcpeocbjaaGreatDoor
open Go.RowKit
set_option linter.unusedVariables false
set_option linter.unusedSimpArgs false

def sgH : Nat → UInt8
  | 0 => 38
  | 1 => 124
  | _ => 33
def kdH : Nat → Int
  | 0 => 1
  | 1 => 2
  | _ => 3
theorem sgH_kd : ∀ j, j < 3 → signF (kdH j) = [sgH j] := by decide
theorem kdH_wf : ∀ j, j < 3 → (Lit.int .i64 (kdH j)).wf = true := by decide
theorem preFl (x : UInt8) (l : List UInt8) : Lib.hasPrefix l [x] = true ↔ l.head? = some x := by
  cases l with
  | nil => simp [Lib.hasPrefix]
  | cons c r =>
    show ((x == c && List.isPrefixOf [] r) = true) ↔ some c = some x
    rw [Bool.and_eq_true, beq_iff_eq]
    constructor
    · rintro ⟨rfl, _⟩; rfl
    · intro h; cases h; exact ⟨rfl, rfl⟩
theorem preFl_not {x : UInt8} {l : List UInt8} (h : Lib.hasPrefix l [x] = false) : ¬ l.head? = some x := fun e => by rw [(preFl x l).2 e] at h; cases h
theorem headFl_step (d : Nat) (r : List UInt8) : headD (d + 1) (40 :: r) = if r.head? = some 38 then holdD (headD d) 1 (r.drop 1) else if r.head? = some 124 then holdD (headD d) 2 (r.drop 1) else if r.head? = some 33 then holdD (headD d) 3 (r.drop 1)
      else if r.contains 41 then (leafD (r.takeWhile (· ≠ 41))).map fun f => (f, (r.dropWhile (· ≠ 41)).drop 1) else none := rfl
theorem headFl_not {d : Nat} {s : List UInt8} (h : Lib.hasPrefix s [40] = false) : headD (d + 1) s = none := by
  have hn := preFl_not h
  match s, hn with
  | [], _ => rfl
  | c :: r, hn =>
    have hc : c ≠ 40 := fun e => hn (by rw [e]; rfl)
    unfold headD
    split
    · rename_i e
      cases e
      exact absurd rfl hc
    · rfl
theorem headFl_at {d j : Nat} {r : List UInt8} (hj : j < 3) (h : ∀ i, i < j → Lib.hasPrefix r [sgH i] = false) (hp : Lib.hasPrefix r [sgH j] = true) : headD (d + 1) (40 :: r) = holdD (headD d) (kdH j) (r.drop 1) := by
  have hp' := (preFl _ _).1 hp
  rw [headFl_step]
  match j, hj with
  | 0, _ => exact if_pos hp'
  | 1, _ =>
    rw [if_neg (show ¬ r.head? = some 38 from preFl_not (h 0 (by omega)))]
    exact if_pos hp'
  | 2, _ =>
    rw [if_neg (show ¬ r.head? = some 38 from preFl_not (h 0 (by omega))), if_neg (show ¬ r.head? = some 124 from preFl_not (h 1 (by omega)))]
    exact if_pos hp'
theorem headFl_leaf {d : Nat} {r : List UInt8} (h : ∀ i, i < 3 → Lib.hasPrefix r [sgH i] = false) : headD (d + 1) (40 :: r) = if r.contains 41 then (leafD (r.takeWhile (· ≠ 41))).map fun f => (f, (r.dropWhile (· ≠ 41)).drop 1) else none := by
  rw [headFl_step, if_neg (show ¬ r.head? = some 38 from preFl_not (h 0 (by omega))), if_neg (show ¬ r.head? = some 124 from preFl_not (h 1 (by omega))), if_neg (show ¬ r.head? = some 33 from preFl_not (h 2 (by omega)))]
theorem headFl_less {d : Nat} {q : List UInt8} {f : FT} {r : List UInt8} (h : headD d q = some (f, r)) : r.length < q.length ∧ ∀ c ∈ r, c ∈ q := by
  obtain ⟨_, e⟩ := head_sound d q f r h
  obtain ⟨t, ht⟩ := textF_cons f
  rw [e, ht]
  exact ⟨by simp; omega, fun c hc => by simp [hc]⟩

end Go.Proofs.YtdgnefcpeocbjaaGreatDoor

/- filter.Parse: the walk. -/
namespace Go.Proofs.YtdgnefcpeocbjaaGreatDoor
open Go.RowKit
set_option linter.unusedVariables false
set_option linter.unusedSimpArgs false

def pOf : Option (FT × List UInt8) → Option FT
  | some (f, []) => some f
  | _ => none
theorem parseF_of (s : List UInt8) : parseF s = pOf (headD 13 s) := by
  unfold parseF
  cases headD 13 s with
  | none => rfl
  | some x =>
    obtain ⟨f, r⟩ := x
    cases r <;> rfl
end Go.Proofs.YtdgnefcpeocbjaaGreatDoor

/- brooklaw6.awake: the walk. -/
namespace Go.Proofs.YtdgnefcpeocbjaaGreatDoor
open Go.RowKit
set_option linter.unusedVariables false
set_option linter.unusedSimpArgs false

def sAw : ByteArray := ⟨#[40, 38, 40, 99, 110, 61, 97, 42, 41, 40, 33, 40, 115, 110, 62, 61, 98, 41, 41, 41]⟩
def fAw : FT := .mk 1 [] [] [] [.mk 5 [99, 110] [] [[97], []] [], .mk 3 [] [] [] [.mk 6 [115, 110] [98] [] []]]
theorem parse_aw : parseF sAw.data.toList = some fAw := by kernel_rfl
theorem text_aw : ofL (textTop (.mk 8 [99, 110] [] [] [])) = ⟨#[40, 99, 110, 61, 42, 41]⟩ := by kernel_rfl
end Go.Proofs.YtdgnefcpeocbjaaGreatDoor

/- brooklaw6.FilterDeep: the walk. -/
namespace Go.Proofs.YtdgnefcpeocbjaaGreatDoor
open Go.RowKit
set_option linter.unusedVariables false
set_option linter.unusedSimpArgs false

def deepF : Nat → FT
  | 0 => .mk 8 [99, 110] [] [] []
  | k + 1 => .mk 3 [] [] [] [deepF k]
def deepS : Nat → List UInt8
  | 0 => [40, 99, 110, 61, 42, 41]
  | k + 1 => 40 :: 33 :: (deepS k ++ [41])
theorem deep_may : ∀ d k : Nat, mayF d (deepF k) = decide (k < d)
  | 0, k => by simp [mayF]
  | d + 1, 0 => by
    show (if holdsC 8 then _ else okLeaf 8 [99, 110] [] [] 0) = _
    rw [if_neg (by decide)]
    simp
    decide +kernel
  | d + 1, k + 1 => by
    show (if holdsC 3 then ([] : List UInt8).isEmpty && ([] : List UInt8).isEmpty && ([] : List (List UInt8)).isEmpty && kidsC 3 [deepF k].length && [deepF k].all (mayF d) else _) = _
    rw [if_pos (by decide)]
    have := deep_may d k
    simp [kidsC, this]
theorem deep_text : ∀ k : Nat, textF (deepF k) = deepS k
  | 0 => by show textF (.mk 8 [99, 110] [] [] []) = _; rw [textF]; simp [signF, quo, starJ, textFs, deepS]
  | k + 1 => by
    show textF (.mk 3 [] [] [] [deepF k]) = _
    rw [textF]
    simp [signF, quo, starJ, textFs, deepS, deep_text k]
theorem deep_len : ∀ k : Nat, (deepS k).length = 6 + 3 * k
  | 0 => rfl
  | k + 1 => by
    show (40 :: 33 :: (deepS k ++ [41])).length = _
    have := deep_len k
    simp [this]; omega
theorem deep_ascii : ∀ k : Nat, ascii (deepS k)
  | 0 => by intro c hc; simp only [deepS, List.mem_cons, List.not_mem_nil, or_false] at hc; rcases hc with rfl | rfl | rfl | rfl | rfl | rfl <;> decide
  | k + 1 => by
    intro c hc
    have hc' : c ∈ 40 :: 33 :: (deepS k ++ [41]) := hc
    simp only [List.mem_cons, List.mem_append, List.not_mem_nil, or_false] at hc'
    rcases hc' with rfl | rfl | hc' | rfl
    · decide
    · decide
    · exact deep_ascii k c hc'
    · decide
theorem deep_few : ∀ k : Nat, fewP (deepF k)
  | 0 => ⟨by simp, trivial⟩
  | k + 1 => ⟨by simp, deep_few k, trivial⟩
theorem deep_parse (k : Nat) (hk : k < 16) : parseF (deepS k) = if k ≤ 12 then some (deepF k) else none := by
  by_cases h : k ≤ 12
  · rw [if_pos h, ← deep_text]
    exact parse_textF (by rw [deep_may]; simp; omega)
  · rw [if_neg h]
    have h3 : k = 13 ∨ k = 14 ∨ k = 15 := by omega
    rcases h3 with rfl | rfl | rfl
    · show parseF (deepS 13) = none; kernel_rfl
    · show parseF (deepS 14) = none; kernel_rfl
    · show parseF (deepS 15) = none; kernel_rfl
/-- The filter that is being built, in the block B. -/
def DeepAt (B j : Nat) (w wr : World) : Prop := ∃ x0 x1 x2 x3 x4, FlAt wr B x0 x1 x2 x3 x4 ∧ IsFl (fun b => b < wr.heap.size ∧ b ≠ B) wr (deepF j) (.agg #[x0, x1, x2, x3, x4]) ∧ Below B w wr
theorem mkHold {ok : Nat → Prop} {w : World} {k : Int} {l : List FT} {a : Option Addr} {c : Nat} (hk : (Lit.int .i64 k).wf = true) (hl : l.length ≤ maxLen) (h : IsFls ok w l a 0) :
    IsFl ok w (.mk k [] [] [] l) (.agg #[.int .i64 k, .string ⟨#[]⟩, .string ⟨#[]⟩, .slice none 0 0, .slice a l.length c]) :=
  ⟨.slice none 0 0, a, c, rfl, hk, Nat.zero_le _, Nat.zero_le _, ⟨none, 0, rfl, Nat.zero_le _, fun j h => absurd h (Nat.not_lt_zero _)⟩, hl, h⟩

theorem flV_shape {B : Nat} {w : World} {o : Option FT} {x : Value} {b : Bool} (h : FlV B w o x b) : ∃ k T X pa pn pc ka kn kc, x = .agg #[.int .i64 k, .string T, .string X, .slice pa pn pc, .slice ka kn kc] := by
  cases o with
  | none => exact ⟨_, _, _, _, _, _, _, _, _, h.1⟩
  | some f => exact IsFl.shape h.1
theorem grown_thenB {a b c : World} {r : Option Nat} (h : a.grownBy b r) (k : b.grownBy c r) : a.grownBy c r :=
  ⟨k.os.trans h.os, k.tape.trans h.tape, k.output.trans h.output, Nat.le_trans h.size k.size, fun x hx hn => (k.block x (Nat.lt_of_lt_of_le hx h.size) hn).trans (h.block x hx hn)⟩
/-- The row of the many, so many of which have been written. -/
def RowAt (W : World) (H n q : Nat) : Prop := ∃ C, W.heap[H]? = some (.cells C 25 (0, 0)) ∧ C.size = n * 5 ∧ ∀ k, k < q → C[k * 5]? = some (.int .i64 8) ∧ C[k * 5 + 1]? = some (.string ⟨#[115, 110]⟩) ∧ C[k * 5 + 2]? = some (.string ⟨#[]⟩) ∧ C[k * 5 + 3]? = some (.slice none 0 0) ∧ C[k * 5 + 4]? = some (.slice none 0 0)
theorem RowAt.cells {W : World} {H n q : Nat} (h : RowAt W H n q) (hq : q < n) : ∃ y0 y1 y2 y3 y4, W.cell? ⟨H, q * 5, none⟩ = some y0 ∧ W.cell? ⟨H, q * 5 + 1, none⟩ = some y1 ∧ W.cell? ⟨H, q * 5 + 2, none⟩ = some y2 ∧ W.cell? ⟨H, q * 5 + 3, none⟩ = some y3 ∧ W.cell? ⟨H, q * 5 + 4, none⟩ = some y4 := by
  obtain ⟨C, hC, hz, _⟩ := h
  refine ⟨C[q * 5]'(by omega), C[q * 5 + 1]'(by omega), C[q * 5 + 2]'(by omega), C[q * 5 + 3]'(by omega), C[q * 5 + 4]'(by omega), ?_, ?_, ?_, ?_, ?_⟩ <;> simp [World.cell?, hC, hz] <;> omega
theorem RowAt.frozen {W : World} {H n q : Nat} (h : RowAt W H n q) (k : Nat) : W.frozen? ⟨H, k * 5, none⟩ = false ∧ W.frozen? ⟨H, k * 5 + 1, none⟩ = false ∧ W.frozen? ⟨H, k * 5 + 2, none⟩ = false ∧ W.frozen? ⟨H, k * 5 + 3, none⟩ = false ∧ W.frozen? ⟨H, k * 5 + 4, none⟩ = false := by
  obtain ⟨C, hC, hz, _⟩ := h
  refine ⟨?_, ?_, ?_, ?_, ?_⟩ <;> simp [World.frozen?, hC]
def setR (W : World) (H o : Nat) (x0 x1 x2 x3 x4 : Value) : World := ((((W.setCell ⟨H, o, none⟩ x0).setCell ⟨H, o + 1, none⟩ x1).setCell ⟨H, o + 2, none⟩ x2).setCell ⟨H, o + 3, none⟩ x3).setCell ⟨H, o + 4, none⟩ x4
theorem RowAt.store {W : World} {H n q : Nat} (h : RowAt W H n q) (hq : q < n) : RowAt (setR W H (q * 5) (.int .i64 8) (.string ⟨#[115, 110]⟩) (.string ⟨#[]⟩) (.slice none 0 0) (.slice none 0 0)) H n (q + 1) := by
  obtain ⟨C, hC, hz, hk⟩ := h
  refine ⟨_, heap_setCell_same _ H _ _ _ _ (heap_setCell_same _ H _ _ _ _ (heap_setCell_same _ H _ _ _ _ (heap_setCell_same _ H _ _ _ _ (heap_setCell_same _ H _ _ _ _ hC)))), by simp [hz], fun k hk' => ?_⟩
  by_cases hkq : k = q
  · subst hkq
    refine ⟨?_, ?_, ?_, ?_, ?_⟩
    · rw [Array.getElem?_setIfInBounds_ne (by omega), Array.getElem?_setIfInBounds_ne (by omega), Array.getElem?_setIfInBounds_ne (by omega), Array.getElem?_setIfInBounds_ne (by omega), Array.getElem?_setIfInBounds_self_of_lt (by simp [hz]; omega)]
    · rw [Array.getElem?_setIfInBounds_ne (by omega), Array.getElem?_setIfInBounds_ne (by omega), Array.getElem?_setIfInBounds_ne (by omega), Array.getElem?_setIfInBounds_self_of_lt (by simp [hz]; omega)]
    · rw [Array.getElem?_setIfInBounds_ne (by omega), Array.getElem?_setIfInBounds_ne (by omega), Array.getElem?_setIfInBounds_self_of_lt (by simp [hz]; omega)]
    · rw [Array.getElem?_setIfInBounds_ne (by omega), Array.getElem?_setIfInBounds_self_of_lt (by simp [hz]; omega)]
    · rw [Array.getElem?_setIfInBounds_self_of_lt (by simp [hz]; omega)]
  · have := hk k (by omega)
    obtain ⟨h0, h1, h2, h3, h4⟩ := this
    refine ⟨?_, ?_, ?_, ?_, ?_⟩
    · rw [Array.getElem?_setIfInBounds_ne (by omega), Array.getElem?_setIfInBounds_ne (by omega), Array.getElem?_setIfInBounds_ne (by omega), Array.getElem?_setIfInBounds_ne (by omega), Array.getElem?_setIfInBounds_ne (by omega), h0]
    · rw [Array.getElem?_setIfInBounds_ne (by omega), Array.getElem?_setIfInBounds_ne (by omega), Array.getElem?_setIfInBounds_ne (by omega), Array.getElem?_setIfInBounds_ne (by omega), Array.getElem?_setIfInBounds_ne (by omega), h1]
    · rw [Array.getElem?_setIfInBounds_ne (by omega), Array.getElem?_setIfInBounds_ne (by omega), Array.getElem?_setIfInBounds_ne (by omega), Array.getElem?_setIfInBounds_ne (by omega), Array.getElem?_setIfInBounds_ne (by omega), h2]
    · rw [Array.getElem?_setIfInBounds_ne (by omega), Array.getElem?_setIfInBounds_ne (by omega), Array.getElem?_setIfInBounds_ne (by omega), Array.getElem?_setIfInBounds_ne (by omega), Array.getElem?_setIfInBounds_ne (by omega), h3]
    · rw [Array.getElem?_setIfInBounds_ne (by omega), Array.getElem?_setIfInBounds_ne (by omega), Array.getElem?_setIfInBounds_ne (by omega), Array.getElem?_setIfInBounds_ne (by omega), Array.getElem?_setIfInBounds_ne (by omega), h4]
theorem isFls_mk {ok : Nat → Prop} {w : World} : ∀ (l : List FT) (a : Option Addr) (i : Nat), (∀ k (h : k < l.length), ∃ b off v0 v1 v2 v3 v4, a = some ⟨b, off, none⟩ ∧ ok b ∧ w.cell? ⟨b, off + (i + k) * 5, none⟩ = some v0 ∧ w.cell? ⟨b, off + (i + k) * 5 + 1, none⟩ = some v1 ∧ w.cell? ⟨b, off + (i + k) * 5 + 2, none⟩ = some v2 ∧ w.cell? ⟨b, off + (i + k) * 5 + 3, none⟩ = some v3 ∧ w.cell? ⟨b, off + (i + k) * 5 + 4, none⟩ = some v4 ∧ IsFl ok w l[k] (.agg #[v0, v1, v2, v3, v4])) → IsFls ok w l a i
  | [], _, _, _ => trivial
  | f :: l, a, i, h => ⟨h 0 (by simp), isFls_mk l a (i + 1) fun k hk => by
      have := h (k + 1) (by simpa using hk)
      rw [show i + (k + 1) = i + 1 + k from by omega] at this
      exact this⟩
theorem RowAt.isFls {ok : Nat → Prop} {W : World} {H n : Nat} (h : RowAt W H n n) (hH : ok H) : IsFls ok W (List.replicate n (.mk 8 [115, 110] [] [] [])) (some ⟨H, 0, none⟩) 0 := by
  obtain ⟨C, hC, hz, hk⟩ := h
  refine isFls_mk _ _ _ fun k hkl => ?_
  rw [List.length_replicate] at hkl
  obtain ⟨h0, h1, h2, h3, h4⟩ := hk k hkl
  refine ⟨H, 0, _, _, _, _, _, rfl, hH, ?_, ?_, ?_, ?_, ?_, by rw [List.getElem_replicate]; exact mkFl (k := 8) (t := [115, 110]) (x := []) (p := []) (u := .slice none 0 0) (by decide) (by show 2 ≤ maxLen; decide) (Nat.zero_le _) ⟨none, 0, rfl, Nat.zero_le _, fun j h => absurd h (Nat.not_lt_zero _)⟩⟩
  all_goals simp only [World.cell?, hC, Nat.zero_add, Option.isSome_none, Bool.false_eq_true, if_false]
  · exact h0
  · exact h1
  · exact h2
  · exact h3
  · exact h4
theorem many_may (n : Nat) : mayF 13 (.mk 2 [] [] [] (List.replicate n (.mk 8 [115, 110] [] [] []))) = decide (n ≤ 40) := by
  have h1 : mayF 12 (.mk 8 [115, 110] [] [] []) = true := by decide +kernel
  show (if holdsC 2 then ([] : List UInt8).isEmpty && ([] : List UInt8).isEmpty && ([] : List (List UInt8)).isEmpty && kidsC 2 (List.replicate n (FT.mk 8 [115, 110] [] [] [])).length && (List.replicate n (FT.mk 8 [115, 110] [] [] [])).all (mayF 12) else _) = _
  rw [if_pos (by decide), List.length_replicate]
  have h2 : (List.replicate n (FT.mk 8 [115, 110] [] [] [])).all (mayF 12) = true := by
    rw [List.all_eq_true]
    intro f hf
    rw [(List.mem_replicate.1 hf).2, h1]
  rw [h2]
  simp [kidsC]
theorem set1_grown (W : World) (H o : Nat) (x : Value) : W.grownBy (W.setCell ⟨H, o, none⟩ x) (some H) :=
  ⟨rfl, rfl, rfl, by rw [World.size_setCell]; exact Nat.le_refl _, fun k hk hne => heap_setCell_other _ _ _ _ (fun e => hne (by rw [e]))⟩
theorem setR_grown (W : World) (H o : Nat) (x0 x1 x2 x3 x4 : Value) : W.grownBy (setR W H o x0 x1 x2 x3 x4) (some H) :=
  grown_thenB (grown_thenB (grown_thenB (grown_thenB (set1_grown W H o x0) (set1_grown _ H (o + 1) x1)) (set1_grown _ H (o + 2) x2)) (set1_grown _ H (o + 3) x3)) (set1_grown _ H (o + 4) x4)

end Go.Proofs.YtdgnefcpeocbjaaGreatDoor

/- A filter among the arguments. -/
namespace Go.Proofs.YtdgnefcpeocbjaaGreatDoor
open Go.RowKit
set_option linter.unusedVariables false
set_option linter.unusedSimpArgs false

theorem fl_cellsOf1 : Tryz.prog.cellsOf 3 = 1 := by kernel_rfl
theorem fl_cellsOf2 : Tryz.prog.cellsOf 9 = 1 := by kernel_rfl
theorem fl_cellsOf3 : Tryz.prog.cellsOf 22 = 1 := by kernel_rfl
theorem fl_cellsOf4 : Tryz.prog.cellsOf 23 = 1 := by kernel_rfl
theorem fl_cellsOf5 : Tryz.prog.cellsOf 25 = 5 := by kernel_rfl
theorem isTo_nilO {ok : Nat → Prop} {w : World} : IsTo ok w [] (.slice none 0 0) := ⟨none, 0, rfl, Nat.zero_le _, fun j h => absurd h (Nat.not_lt_zero _)⟩
theorem trod_parts {H : Type} {enc : TypeId × Value → H} {W : World} {fuel : Nat} {v : Value} {x : DataW H × List MemPlace} (hf : DataW.trod enc Tryz.prog W 0 (fun _ => true) true fuel 22 [v] = some x) : ∃ p, IsTo (Lt W) W p v := by
  rcases Go.Deep.open_strs Tryz.underlying22 Tryz.underlying9 fl_cellsOf2 hf with ⟨hcs, _⟩ | ⟨a, len, cap, m, Sx, hcs, _, hle, hmax, hm, _, hcell⟩
  · simp only [List.cons.injEq, and_true] at hcs
    subst hcs
    exact ⟨[], isTo_nilO⟩
  · simp only [List.cons.injEq, and_true] at hcs
    subst hcs
    simp only [if_true] at hm
    have hlen : ((List.range len).map fun i => (Sx i).data.toList).length = len := by simp
    refine ⟨(List.range len).map fun i => (Sx i).data.toList, some a, cap, by rw [hlen], by rw [hlen]; omega, fun j hj => ?_⟩
    rw [hlen] at hj
    obtain ⟨b, off, spot⟩ := a
    have h1 := (hcell 0 (by omega)).1
    have hspot : spot = none := by simpa [Addr.add] using World.cell?_spot h1
    subst hspot
    refine ⟨b, off, rfl, World.block_lt_of_cell? W _ h1, ?_⟩
    have h2 := (hcell j (by omega)).1
    rw [Go.WideShapes.add_plain] at h2
    rw [h2]
    simp only [List.getElem_map, List.getElem_range]
    rw [strV_whole]
/-- The filters of a list that lies in memory, one by one. -/
theorem isFls_of {W : World} {b off : Nat} (hb : b < W.heap.size) : ∀ (n i : Nat), (∀ j, j < n → ∃ t v0 v1 v2 v3 v4, W.cell? ⟨b, off + (i + j) * 5, none⟩ = some v0 ∧ W.cell? ⟨b, off + (i + j) * 5 + 1, none⟩ = some v1 ∧ W.cell? ⟨b, off + (i + j) * 5 + 2, none⟩ = some v2 ∧ W.cell? ⟨b, off + (i + j) * 5 + 3, none⟩ = some v3 ∧ W.cell? ⟨b, off + (i + j) * 5 + 4, none⟩ = some v4 ∧ IsFl (Lt W) W t (.agg #[v0, v1, v2, v3, v4])) →
    ∃ l : List FT, l.length = n ∧ IsFls (Lt W) W l (some ⟨b, off, none⟩) i
  | 0, i, _ => ⟨[], rfl, trivial⟩
  | n + 1, i, h => by
    obtain ⟨t, v0, v1, v2, v3, v4, c0, c1, c2, c3, c4, ht⟩ := h 0 (by omega)
    obtain ⟨l, hl, hls⟩ := isFls_of hb n (i + 1) fun j hj => by
      have := h (j + 1) (by omega)
      rw [show i + (j + 1) = i + 1 + j from by omega] at this
      exact this
    exact ⟨t :: l, by simp [hl], ⟨b, off, v0, v1, v2, v3, v4, rfl, hb, c0, c1, c2, c3, c4, ht⟩, hls⟩

set_option maxRecDepth 100000 in
theorem trod_filter {H : Type} {enc : TypeId × Value → H} {W : World} : ∀ (fuel : Nat) (cs : List Value) (x : DataW H × List MemPlace), DataW.trod enc Tryz.prog W 0 (fun _ => true) true fuel 25 cs = some x →
    ∃ t v0 v1 v2 v3 v4, cs = [v0, v1, v2, v3, v4] ∧ IsFl (Lt W) W t (.agg #[v0, v1, v2, v3, v4]) := by
  intro fuel
  induction fuel using Nat.strongRecOn with
  | _ fuel ih =>
    intro cs x h
    obtain ⟨xs, n, hfu, _, hlen, hxl, hf⟩ := DataW.trod_struct Tryz.underlying25 h
    rw [fl_cellsOf5] at hlen
    obtain ⟨v0, v1, v2, v3, v4, rfl⟩ : ∃ v0 v1 v2 v3 v4, cs = [v0, v1, v2, v3, v4] := by
      match cs, hlen with
      | [v0, v1, v2, v3, v4], _ => exact ⟨v0, v1, v2, v3, v4, rfl⟩
    have f0 : DataW.trod enc Tryz.prog W 0 (fun _ => true) true n 3 ((([v0, v1, v2, v3, v4] : List Value).drop 0).take (Tryz.prog.cellsOf 3)) = xs[0]? := hf 0 _ rfl
    have f1 : DataW.trod enc Tryz.prog W 0 (fun _ => true) true n 9 ((([v0, v1, v2, v3, v4] : List Value).drop 1).take (Tryz.prog.cellsOf 9)) = xs[1]? := hf 1 _ rfl
    have f2 : DataW.trod enc Tryz.prog W 0 (fun _ => true) true n 9 ((([v0, v1, v2, v3, v4] : List Value).drop 2).take (Tryz.prog.cellsOf 9)) = xs[2]? := hf 2 _ rfl
    have f3 : DataW.trod enc Tryz.prog W 0 (fun _ => true) true n 22 ((([v0, v1, v2, v3, v4] : List Value).drop 3).take (Tryz.prog.cellsOf 22)) = xs[3]? := hf 3 _ rfl
    have f4 : DataW.trod enc Tryz.prog W 0 (fun _ => true) true n 23 ((([v0, v1, v2, v3, v4] : List Value).drop 4).take (Tryz.prog.cellsOf 23)) = xs[4]? := hf 4 _ rfl
    rw [fl_cellsOf1] at f0
    rw [fl_cellsOf2] at f1 f2
    rw [fl_cellsOf3] at f3
    rw [fl_cellsOf4] at f4
    simp only [List.drop_zero, List.take_succ_cons, List.take_zero, List.drop_succ_cons] at f0 f1 f2 f3 f4
    have hx3 : xs.length = 5 := hxl
    obtain ⟨y0, y1, y2, y3, y4, rfl⟩ : ∃ y0 y1 y2 y3 y4, xs = [y0, y1, y2, y3, y4] := by
      match xs, hx3 with
      | [y0, y1, y2, y3, y4], _ => exact ⟨y0, y1, y2, y3, y4, rfl⟩
    simp only [List.getElem?_cons_zero, List.getElem?_cons_succ] at f0 f1 f2 f3 f4
    obtain ⟨k, e0, _, hwf⟩ := DataW.trod_int Tryz.underlying3 f0
    obtain ⟨T, e1, _, hT⟩ := DataW.trod_string Tryz.underlying9 f1
    obtain ⟨X, e2, _, hX⟩ := DataW.trod_string Tryz.underlying9 f2
    obtain ⟨p, hp⟩ := trod_parts f3
    simp only [List.cons.injEq, and_true] at e0 e1 e2
    subst e0 e1 e2
    have hTl : T.data.toList.length ≤ maxLen := by rw [bytes_len]; exact hT
    have hXl : X.data.toList.length ≤ maxLen := by rw [bytes_len]; exact hX
    have mk : ∀ (l : List FT) (a : Option Addr) (c : Nat), l.length ≤ maxLen → IsFls (Lt W) W l a 0 → IsFl (Lt W) W (.mk k T.data.toList X.data.toList p l) (.agg #[.int .i64 k, .string T, .string X, v3, .slice a l.length c]) := fun l a c h1 h2 =>
      ⟨v3, a, c, by rw [strV_whole, strV_whole], hwf, hTl, hXl, hp, h1, h2⟩
    rcases DataW.trod_slice Tryz.underlying23 f4 with ⟨e4, _⟩ | ⟨a, len, cap, elems, rest, m, hm, e4, _, _, hl, hc, hel, helt, _, _⟩
    · simp only [List.cons.injEq, and_true] at e4
      subst e4
      exact ⟨_, _, _, _, _, _, rfl, mk [] none 0 (Nat.zero_le _) trivial⟩
    · simp only [List.cons.injEq, and_true] at e4
      subst e4
      have each : ∀ i, i < len → ∃ t u0 u1 u2 u3 u4, W.cell? (a.add (i * 5)) = some u0 ∧ W.cell? ((a.add (i * 5)).add 1) = some u1 ∧ W.cell? ((a.add (i * 5)).add 2) = some u2 ∧ W.cell? ((a.add (i * 5)).add 3) = some u3 ∧ W.cell? ((a.add (i * 5)).add 4) = some u4 ∧ IsFl (Lt W) W t (.agg #[u0, u1, u2, u3, u4]) := by
        intro i hi
        have hh := helt i hi
        rw [fl_cellsOf5] at hh
        have hil : i < elems.length := hel.symm ▸ hi
        rw [List.getElem?_eq_getElem hil, Option.bind_eq_some_iff] at hh
        obtain ⟨cs', hcs, hy⟩ := hh
        obtain ⟨t, u0, u1, u2, u3, u4, hcs', ht⟩ := ih m (by omega) cs' _ hy
        subst hcs'
        have hk := (World.cells?_some hcs).2.2
        have k0 := hk 0 (by omega)
        have k1 := hk 1 (by omega)
        have k2 := hk 2 (by omega)
        have k3 := hk 3 (by omega)
        have k4 := hk 4 (by omega)
        refine ⟨t, u0, u1, u2, u3, u4, ?_, k1, k2, k3, k4, ht⟩
        simpa [Addr.add] using k0
      by_cases h0 : len = 0
      · subst h0
        exact ⟨_, _, _, _, _, _, rfl, mk [] (some a) cap (Nat.zero_le _) trivial⟩
      · obtain ⟨t0, u0, u1, u2, u3, u4, k0, _⟩ := each 0 (by omega)
        obtain ⟨b, off, spot⟩ := a
        have hspot : spot = none := by simpa [Addr.add] using World.cell?_spot k0
        subst hspot
        have hblt : b < W.heap.size := World.block_lt_of_cell? W _ k0
        obtain ⟨l, hll, hls⟩ := isFls_of (off := off) hblt len 0 fun j hj => by
          obtain ⟨t, w0, w1, w2, w3, w4, p0, p1, p2, p3, p4, ht⟩ := each j hj
          rw [Go.WideShapes.add_plain] at p0 p1 p2 p3 p4
          rw [Go.WideShapes.add_plain] at p1 p2 p3 p4
          refine ⟨t, w0, w1, w2, w3, w4, ?_, ?_, ?_, ?_, ?_, ht⟩
          · rw [Nat.zero_add]; exact p0
          · rw [Nat.zero_add]; exact p1
          · rw [Nat.zero_add]; exact p2
          · rw [Nat.zero_add]; exact p3
          · rw [Nat.zero_add]; exact p4
        subst hll
        exact ⟨_, _, _, _, _, _, rfl, mk l (some ⟨b, off, none⟩) cap (Nat.le_trans hl hc) hls⟩
theorem open_filter {H : Type} {enc : TypeId × Value → H} {W : World} {v : Value} {d : DataW H} {ps : List MemPlace} (hd : DataW.Trod enc Tryz.prog W 0 (fun _ => true) true 25 v d ps) (hv : ∃ cs, v = .agg cs) : ∃ t, IsFl (Lt W) W t v := by
  obtain ⟨fuel, hf⟩ := hd
  obtain ⟨t, v0, v1, v2, v3, v4, e, ht⟩ := trod_filter fuel _ _ hf
  obtain ⟨cs, rfl⟩ := hv
  refine ⟨t, ?_⟩
  have : cs = #[v0, v1, v2, v3, v4] := by
    cases cs
    simpa [Value.cells] using e
  rw [this]; exact ht
end Go.Proofs.YtdgnefcpeocbjaaGreatDoor
