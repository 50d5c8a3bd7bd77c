/- Several texts in one file: RegDet, EvLogW. -/
import Derived.Test.YtmilgbkkibahlaaGreatDoorEvdP1
import Derived.RowKit
import Derived.Test.YtmilgbkkibahlaaGreatDoorEvdP4
import Derived.Test.YtmilgbkkibahlaaGreatDoorFiRMay
import Derived.Deep.RegionHeld3
import Derived.Deep.Cut
import Derived.Deep.CutRange
namespace Go.Proofs.YtmilgbkkibahlaaGreatDoor
set_option linter.unusedVariables false
set_option linter.unusedSimpArgs false

section
variable {P : Program} {ops : Array Oper} {Q : Exit → Act → World → Prop} {S : World → Prop}

def Det (P : Program) (ops : Array Oper) (S : World → Prop) (o : Oper) (v : Value) (a : Act) : Prop :=
  (Region.wanted o (yielded ops a.tmps) = true ∧ ∀ w, S w → (execOp a.eval o).run P w = .ok (.value v) w ∨
    ∃ f args, (execOp a.eval o).run P w = .ok (.enter f args) w ∧ Calls P f args w fun e w' => e = .returned v ∧ S w') ∨
  (Region.wanted o (yielded ops a.tmps) = false ∧ v = undef)

theorem Det.wpOp {i : Nat} {o : Oper} {v : Value} {a : Act} {w : World} {K : Act → World → Prop} (hi : ops[i]? = some o) (hd : Det P ops S o v a) (hS : S w) (hk : ∀ w', S w' → K (a.put o.dst v) w') : wpOp P ops Q i K a w := by
  unfold Go.wpOp
  simp only [hi]
  rcases hd with ⟨hw, hv⟩ | ⟨hw, rfl⟩
  · simp only [hw, if_true]
    refine .inl ?_
    unfold Oper.wp
    rcases hv w hS with h | ⟨f, args, h, hc⟩
    · rw [h]
      exact hk w hS
    · rw [h]
      exact Calls.mono hc fun e w' he => by
        obtain ⟨rfl, h⟩ := he
        exact hk w' h
  · simp only [hw, Bool.false_eq_true, if_false]
    exact hk w hS

def hasOn (o : Oper) (i : Nat) : Bool := o.after.any fun e => Region.binds .any e && decide (e.on = i)
def detOk (ops : Array Oper) (n : Nat) : Bool := (List.range ops.size).all fun i => match ops[i]? with
  | none => true
  | some o => (o.after.all fun e => decide (e.on < i)) && (match o.op with | .select _ _ => false | _ => true) && (match o.dst with
      | none => true
      | some d => decide (d < n) && (List.range ops.size).all fun j => match ops[j]? with
        | none => true
        | some o' => decide (i = j) || (decide (o'.dst ≠ some d) && (!(o'.looksAt ops).contains d || (if i < j then hasOn o' i else hasOn o j))))

structure DetOk (ops : Array Oper) (n : Nat) : Prop where
  back : ∀ (i : Nat) (o : Oper), ops[i]? = some o → ∀ e ∈ o.after, e.on < i
  sel : ∀ (i : Nat) (o : Oper), ops[i]? = some o → ∀ cs b, o.op ≠ .select cs b
  inn : ∀ (i : Nat) (o : Oper) (d : Tmp), ops[i]? = some o → o.dst = some d → d < n
  one : ∀ (i j : Nat) (o o' : Oper) (d : Tmp), ops[i]? = some o → ops[j]? = some o' → o.dst = some d → o'.dst = some d → i = j
  looks : ∀ (i j : Nat) (o o' : Oper) (d : Tmp), ops[i]? = some o → ops[j]? = some o' → o.dst = some d → d ∈ o'.looksAt ops → i ≠ j → (if i < j then hasOn o' i else hasOn o j) = true

theorem detOk_at {n : Nat} (h : detOk ops n = true) : DetOk ops n := by
  have key : ∀ (i : Nat) (o : Oper), ops[i]? = some o → (o.after.all fun e => decide (e.on < i)) = true ∧ (match o.op with | .select _ _ => false | _ => true) = true ∧ ∀ d, o.dst = some d → d < n ∧ ∀ (j : Nat) (o' : Oper), ops[j]? = some o' → i ≠ j → o'.dst ≠ some d ∧ (d ∈ o'.looksAt ops → (if i < j then hasOn o' i else hasOn o j) = true) := by
    intro i o ho
    have hi : i < ops.size := (Array.getElem?_eq_some_iff.1 ho).1
    have h1 := List.all_eq_true.1 h i (List.mem_range.2 hi)
    rw [ho] at h1
    simp only [Bool.and_eq_true] at h1
    obtain ⟨⟨ha, hs⟩, hb⟩ := h1
    refine ⟨ha, hs, fun d hd => ?_⟩
    rw [hd] at hb
    simp only [Bool.and_eq_true, decide_eq_true_eq] at hb
    refine ⟨hb.1, fun j o' ho' hne => ?_⟩
    have h2 := List.all_eq_true.1 hb.2 j (List.mem_range.2 (Array.getElem?_eq_some_iff.1 ho').1)
    rw [ho'] at h2
    simp only [Bool.or_eq_true, Bool.and_eq_true, decide_eq_true_eq, Bool.not_eq_true'] at h2
    rcases h2 with h2 | ⟨h2, h3⟩
    · exact absurd h2 hne
    · refine ⟨h2, fun hm => ?_⟩
      rcases h3 with h3 | h3
      · have : (o'.looksAt ops).contains d = true := by simpa using hm
        rw [this] at h3
        cases h3
      · exact h3
  refine ⟨fun i o ho e he => ?_, fun i o ho cs b hc => ?_, fun i o d ho hd => ((key i o ho).2.2 d hd).1, fun i j o o' d ho ho' hd hd' => ?_, fun i j o o' d ho ho' hd hm hne => (((key i o ho).2.2 d hd).2 j o' ho' hne).2 hm⟩
  · have := Array.all_eq_true_iff_forall_mem.1 (key i o ho).1 e he
    simpa using this
  · have := (key i o ho).2.1
    rw [hc] at this
    cases this
  · rcases Nat.decEq i j with hne | heq
    · exact absurd hd' (((key i o ho).2.2 d hd).2 j o' ho' hne).1
    · exact heq

structure FrameAt (ops : Array Oper) (vs : List Value) (a0 : Act) (L : Nat → Prop) (a : Act) : Prop where
  defers : a.defers = a0.defers
  slots : a.tmps.size = a0.tmps.size
  come : ∀ (i : Nat) (o : Oper) (d : Tmp), ops[i]? = some o → o.dst = some d → L i → a.tmps[d]? = vs[i]?
  rest : ∀ t, (∀ (i : Nat) (o : Oper), ops[i]? = some o → o.dst = some t → ¬ L i) → a.tmps[t]? = a0.tmps[t]?

theorem FrameAt.put {vs : List Value} {a0 a : Act} {L : Nat → Prop} {n : Nat} (hn : n = a0.tmps.size) (hok : DetOk ops n) (h : FrameAt ops vs a0 L a) {i : Nat} {o : Oper} {v : Value} (ho : ops[i]? = some o) (hv : vs[i]? = some v) :
    FrameAt ops vs a0 (fun j => L j ∨ j = i) (a.put o.dst v) := by
  subst hn
  cases hd : o.dst with
  | none =>
    refine ⟨h.defers, h.slots, fun j o' d ho' hd' hl => ?_, fun t ht => h.rest t fun j o' ho' hd' hl => ht j o' ho' hd' (.inl hl)⟩
    rcases hl with hl | rfl
    · exact h.come j o' d ho' hd' hl
    · rw [ho] at ho'; cases ho'
      rw [hd] at hd'; cases hd'
  | some d =>
    have hdl := hok.inn i o d ho hd
    refine ⟨h.defers, by simp [Act.put, h.slots], fun j o' d' ho' hd' hl => ?_, fun t ht => ?_⟩
    · by_cases hji : j = i
      · subst hji
        rw [ho] at ho'; cases ho'
        rw [hd] at hd'; cases hd'
        have : d < a.tmps.size := by rw [h.slots]; exact hdl
        simp [Act.put, this, hv]
      · have hl' : L j := hl.resolve_right hji
        have hne : d ≠ d' := fun e => hji (hok.one j i o' o d' ho' ho hd' (by rw [hd, e]))
        simp only [Act.put]
        rw [Array.getElem?_setIfInBounds_ne hne]
        exact h.come j o' d' ho' hd' hl'
    · have hne : d ≠ t := fun e => ht i o ho (by rw [hd, e]) (.inr rfl)
      simp only [Act.put]
      rw [Array.getElem?_setIfInBounds_ne hne]
      exact h.rest t fun j o' ho' hd' hl => ht j o' ho' hd' (.inl hl)

theorem FrameAt.same {vs : List Value} {a0 a a' : Act} {L L' : Nat → Prop} {n : Nat} (hok : DetOk ops n) (h : FrameAt ops vs a0 L a) (h' : FrameAt ops vs a0 L' a') {t : Tmp}
    (ht : ∀ (i : Nat) (o : Oper), ops[i]? = some o → o.dst = some t → (L i ↔ L' i)) : a.tmps[t]? = a'.tmps[t]? := by
  by_cases hx : ∃ (i : Nat) (o : Oper), ops[i]? = some o ∧ o.dst = some t ∧ L i
  · obtain ⟨i, o, ho, hd, hl⟩ := hx
    rw [h.come i o t ho hd hl, h'.come i o t ho hd ((ht i o ho hd).1 hl)]
  · rw [h.rest t fun i o ho hd hl => hx ⟨i, o, ho, hd, hl⟩, h'.rest t fun i o ho hd hl => hx ⟨i, o, ho, hd, (ht i o ho hd).2 hl⟩]

theorem FrameAt.imp {vs : List Value} {a0 a : Act} {L L' : Nat → Prop} (h : FrameAt ops vs a0 L a) (hl : ∀ i, i < ops.size → (L i ↔ L' i)) : FrameAt ops vs a0 L' a :=
  have lt : ∀ {i : Nat} {o : Oper}, ops[i]? = some o → i < ops.size := fun ho => (Array.getElem?_eq_some_iff.1 ho).1
  ⟨h.defers, h.slots, fun i o d ho hd hL => h.come i o d ho hd ((hl i (lt ho)).2 hL), fun t ht => h.rest t fun i o ho hd hL => ht i o ho hd ((hl i (lt ho)).1 hL)⟩

theorem Det.same {vs : List Value} {a0 a a' : Act} {L L' : Nat → Prop} {n : Nat} (hok : DetOk ops n) (h : FrameAt ops vs a0 L a) (h' : FrameAt ops vs a0 L' a') {i : Nat} {o : Oper} {v : Value} (ho : ops[i]? = some o)
    (ht : ∀ (j : Nat) (o' : Oper) (d : Tmp), ops[j]? = some o' → o'.dst = some d → d ∈ o.looksAt ops → (L j ↔ L' j)) (hd : Det P ops S o v a) : Det P ops S o v a' := by
  have hs : ∀ d, d ∈ o.looksAt ops → a.tmps[d]? = a'.tmps[d]? := fun d hm => h.same hok h' fun j o' ho' hd' => ht j o' d ho' hd' hm
  have he : execOp a'.eval o = execOp a.eval o := execOp_congr o (hok.sel i o ho) fun x hx => by
    cases x with
    | tmp t =>
      have : t ∈ o.looksAt ops := List.mem_append_left _ (List.mem_filterMap.2 ⟨.tmp t, by simpa using hx, rfl⟩)
      have hh := hs t this
      simp [Act.eval, hh]
    | _ => rfl
  have hw : Region.wanted o (yielded ops a'.tmps) = Region.wanted o (yielded ops a.tmps) := by
    unfold Region.wanted
    cases hg : o.guard with
    | none => rfl
    | some gw =>
      obtain ⟨g, want⟩ := gw
      have hy : yielded ops a'.tmps g = yielded ops a.tmps g := by
        unfold yielded
        cases hb : (ops[g]?).bind (·.dst) with
        | none => rfl
        | some t =>
          have : t ∈ o.looksAt ops := List.mem_append_right _ (by simp [hg, hb])
          have hh := hs t this
          simp [hh]
      simp only [hy]
  unfold Det at *
  rw [he, hw]
  exact hd

def DetSeq (P : Program) (ops : Array Oper) (S : World → Prop) : List Oper → Act → (Act → Prop) → Prop
  | [], a, K => K a
  | o :: rest, a, K => ∃ v, Det P ops S o v a ∧ DetSeq P ops S rest (a.put o.dst v) K

theorem detSeq_get {K : Act → Prop} : ∀ (l : List Oper) (k : Nat) (vs : List Value) (a0 a : Act) (n : Nat), n = a0.tmps.size → DetOk ops n → ops.toList.drop k = l → k ≤ ops.size → vs.length = k →
    (∀ i, i < k → ∀ o, ops[i]? = some o → ∃ b v, vs[i]? = some v ∧ FrameAt ops vs a0 (fun j => j < i) b ∧ Det P ops S o v b) → FrameAt ops vs a0 (fun j => j < k) a → DetSeq P ops S l a K →
    ∃ us : List Value, us.length = ops.size ∧ (∀ i, i < ops.size → ∀ o, ops[i]? = some o → ∃ b v, us[i]? = some v ∧ FrameAt ops us a0 (fun j => j < i) b ∧ Det P ops S o v b) ∧ ∃ b, FrameAt ops us a0 (fun _ => True) b ∧ K b
  | [], k, vs, a0, a, n, hn, hok, hl, hk, hv, hD, hF, hseq => by
    have hke : k = ops.size := by
      have := congrArg List.length hl
      simp at this
      omega
    subst hke
    exact ⟨vs, hv, hD, a, hF.imp fun i hi => ⟨fun _ => trivial, fun _ => hi⟩, hseq⟩
  | o :: l, k, vs, a0, a, n, hn, hok, hl, hk, hv, hD, hF, ⟨v, hd, hrest⟩ => by
    have hlt : k < ops.size := by
      have := congrArg List.length hl
      simp at this
      omega
    have ho : ops[k]? = some o := by
      have h1 : (ops.toList.drop k)[0]? = some o := by rw [hl]; rfl
      rw [List.getElem?_drop] at h1
      simpa using h1
    have old : ∀ i, i < k → (vs ++ [v])[i]? = vs[i]? := fun i hi => List.getElem?_append_left (by omega)
    have mv : ∀ (i : Nat) (b : Act), i ≤ k → FrameAt ops vs a0 (fun j => j < i) b → FrameAt ops (vs ++ [v]) a0 (fun j => j < i) b := fun i b hi hb =>
      ⟨hb.defers, hb.slots, fun j o' d ho' hd' hl' => by
        have hl' : j < i := hl'
        rw [hb.come j o' d ho' hd' hl', old j (by omega)], hb.rest⟩
    refine detSeq_get l (k + 1) (vs ++ [v]) a0 (a.put o.dst v) n hn hok ?_ (by omega) (by simp [hv]) (fun i hi o' ho' => ?_) ?_ hrest
    · have : (ops.toList.drop k).drop 1 = l := by rw [hl]; rfl
      rw [List.drop_drop] at this
      exact this
    · by_cases hik : i = k
      · subst hik
        rw [ho] at ho'; cases ho'
        exact ⟨a, v, by simp [← hv], mv i a (by omega) hF, hd⟩
      · obtain ⟨b, u, h1, h2, h3⟩ := hD i (by omega) o' ho'
        exact ⟨b, u, by rw [old i (by omega)]; exact h1, mv i b (by omega) h2, h3⟩
    · exact ((mv k a (by omega) hF).put hn hok ho (by simp [← hv])).imp fun j _ => ⟨fun h => by omega, fun h => by omega⟩

theorem region_det {id : Nat} {a0 : Act} {w0 : World} (hm : P.follows .mixedOrders = true) (S : World → Prop) (hS : S w0.drew) (hok : detOk ops a0.tmps.size = true)
    (h : DetSeq P ops S ops.toList a0 fun a => ∀ w, S w → Q .normal a w) : (Code.region id ops true).wp P Q a0 w0 := by
  have hk := detOk_at hok
  obtain ⟨us, hul, hD, b, hb, hQ⟩ := detSeq_get ops.toList 0 [] a0 a0 a0.tmps.size rfl hk (by simp) (by omega) rfl (fun i hi => absurd hi (by omega)) ⟨rfl, rfl, fun i o d _ _ hl => absurd hl (Nat.not_lt_zero i), fun _ _ => rfl⟩ h
  have hno : ∀ i, (Array.replicate ops.size false).getD i false = false := fun i => by
    rcases Nat.lt_or_ge i ops.size with h | h <;> simp [h]
  refine region_inv hm (fun listed a w => listed.size = ops.size ∧ S w ∧ (∀ (i : Nat) (o : Oper), ops[i]? = some o → listed.getD i false = true → ∀ e ∈ o.after, Region.binds .any e = true → listed.getD e.on false = true) ∧ FrameAt ops us a0 (fun j => listed.getD j false = true) a) ?_ hk.back (fun listed a w hI => hI.1) ?_ ?_
  · refine ⟨by simp, hS, fun i o _ hl => (by rw [hno] at hl; cases hl), rfl, rfl, fun i o d _ _ hl => (by rw [hno] at hl; cases hl), fun _ _ => rfl⟩
  · rintro listed a w ⟨hs, hSw, hshut, hF⟩ i o ho hi hc
    have hio : i < ops.size := (Array.getElem?_eq_some_iff.1 ho).1
    have hil : i < listed.size := by omega
    have hnl : ¬ listed.getD i false = true := by
      have : listed[i] = false := by simpa [hil] using hi
      simp [hil, this]
    obtain ⟨c, v, hv, hFc, hd⟩ := hD i hio o ho
    have hd' : Det P ops S o v a := hd.same hk hFc hF ho fun j o' d ho' hd' hm => by
      by_cases hji : j = i
      · subst hji
        exact ⟨fun h => absurd h (Nat.lt_irrefl _), fun h => absurd h hnl⟩
      · have hlk := hk.looks j i o' o d ho' ho hd' hm hji
        by_cases hlt : j < i
        · rw [if_pos hlt] at hlk
          obtain ⟨e, he, hbe⟩ := Array.any_eq_true'.1 hlk
          simp only [Bool.and_eq_true, decide_eq_true_eq] at hbe
          have := hc e he hbe.1
          rw [hbe.2] at this
          exact ⟨fun _ => this, fun _ => hlt⟩
        · rw [if_neg hlt] at hlk
          obtain ⟨e, he, hbe⟩ := Array.any_eq_true'.1 hlk
          simp only [Bool.and_eq_true, decide_eq_true_eq] at hbe
          refine ⟨fun h => absurd h hlt, fun h => ?_⟩
          have := hshut j o' ho' h e he hbe.1
          rw [hbe.2] at this
          exact absurd this hnl
    refine hd'.wpOp ho hSw fun w' hSw' => ⟨by simp [hs], hSw', fun j o' ho' hl e he hb => ?_, ?_⟩
    · by_cases hij : i = j
      · subst hij
        rw [ho] at ho'; cases ho'
        exact getD_set_true (hc e he hb)
      · rw [getD_set_ne false hij] at hl
        exact getD_set_true (hshut j o' ho' hl e he hb)
    · refine (hF.put rfl hk ho hv).imp fun j hj => ?_
      by_cases hij : i = j
      · subst hij
        exact ⟨fun _ => by simp [hil], fun _ => .inr rfl⟩
      · rw [getD_set_ne false hij]
        exact ⟨fun h => h.resolve_right fun e => hij e.symm, .inl⟩
  · rintro listed a w ⟨hs, hSw, _, hF⟩ ha
    have hF' := hF.imp (L' := fun _ => True) fun i hi => ⟨fun _ => trivial, fun _ => ha i hi⟩
    have : a = b := by
      obtain ⟨t1, d1⟩ := a
      obtain ⟨t2, d2⟩ := b
      have h1 : t1 = t2 := Array.ext_getElem? fun t => hF'.same hk hb fun _ _ _ _ => Iff.rfl
      have h2 : d1 = d2 := hF'.defers.trans hb.defers.symm
      rw [h1, h2]
    rw [this]
    exact hQ w hSw

theorem det_val {o : Oper} {v : Value} {rest : List Oper} {a : Act} {K : Act → Prop} (hw : Region.wanted o (yielded ops a.tmps) = true) (hv : ∀ w, S w → (execOp a.eval o).run P w = .ok (.value v) w)
    (h : DetSeq P ops S rest (a.put o.dst v) K) : DetSeq P ops S (o :: rest) a K := ⟨v, .inl ⟨hw, fun w hS => .inl (hv w hS)⟩, h⟩
theorem det_shut {o : Oper} {rest : List Oper} {a : Act} {K : Act → Prop} (hw : Region.wanted o (yielded ops a.tmps) = false)
    (h : DetSeq P ops S rest (a.put o.dst undef) K) : DetSeq P ops S (o :: rest) a K := ⟨undef, .inr ⟨hw, rfl⟩, h⟩
theorem det_call {o : Oper} {v : Value} {f : FuncId} {args : Array Value} {rest : List Oper} {a : Act} {K : Act → Prop} (hw : Region.wanted o (yielded ops a.tmps) = true) (hv : ∀ w, S w → (execOp a.eval o).run P w = .ok (.enter f args) w)
    (hc : ∀ w, S w → Calls P f args w fun e w' => e = .returned v ∧ S w')
    (h : DetSeq P ops S rest (a.put o.dst v) K) : DetSeq P ops S (o :: rest) a K := ⟨v, .inl ⟨hw, fun w hS => .inr ⟨f, args, hv w hS, hc w hS⟩⟩, h⟩
end
end Go.Proofs.YtmilgbkkibahlaaGreatDoor


namespace Go.Proofs.YtmilgbkkibahlaaGreatDoor
open Go.RowKit
set_option linter.unusedVariables false
set_option linter.unusedSimpArgs false

set_option maxRecDepth 100000 in
set_option maxHeartbeats 8000000 in
theorem evalLogic_any (na nb nc es : List UInt8) (a0 b0 c0 d0 : Option Addr) (ca cb cc cd : Nat) (S : ByteArray) (hSz : S.size ≤ maxLen) (w : World) (hw : LaidW w) (hx : LaidX w) (ha : IsC w.heap.size w na a0 ca) (hb : IsC w.heap.size w nb b0 cb) (hc : IsC w.heap.size w nc c0 cc) (he : IsB w.heap.size w es d0 cd) :
    Calls Tryz.prog 4 #[.slice a0 na.length ca, .slice b0 nb.length cb, .slice c0 nc.length cc, .slice d0 es.length cd, .string S] w fun e w' => e = .returned (.bool true) ∧ Below w.heap.size w w' := by
  unfold maxLen at hSz
  have hal : na.length ≤ 9223372036854775807 := by have h1 := ha.1; have h2 := ha.2.1; unfold maxLen at h2; omega
  have hbl : nb.length ≤ 9223372036854775807 := by have h1 := hb.1; have h2 := hb.2.1; unfold maxLen at h2; omega
  have hcl : nc.length ≤ 9223372036854775807 := by have h1 := hc.1; have h2 := hc.2.1; unfold maxLen at h2; omega
  have HAw := Lib.hid (fun (W : World) (hW : Below w.heap.size w W) => awake7_any W (hw.below hW) (hx.below hW))
  have HB0 := Lib.hid (Below.refl w.heap.size w)
  have hmf1 := fun (hl : na.length ≤ 12) (hS : S.size ≤ 1000) (W : World) (hW : Below w.heap.size w W) => makes_any S hS 12 na a0 ca W hl (isC_go ha hW)
  have hmf2 := fun (hl : nb.length ≤ 12) (hS : S.size ≤ 1000) (W : World) (hW : Below w.heap.size w W) => makes_any S hS 12 nb b0 cb W hl (isC_go hb hW)
  have hmf3 := fun (hl : nc.length ≤ 12) (hS : S.size ≤ 1000) (W : World) (hW : Below w.heap.size w W) => makes_any S hS 12 nc c0 cc W hl (isC_go hc hW)
  have hme := fun (W : World) (hW : Below w.heap.size w W) => madeE_any es d0 cd W (isB_go he hW)
  have hsm := mkLd_small es
  obtain ⟨fa, hfa⟩ : ∃ f, f = makeFu S.data.toList 12 na := ⟨_, rfl⟩
  obtain ⟨fb, hfb⟩ : ∃ f, f = makeFu S.data.toList 12 nb := ⟨_, rfl⟩
  obtain ⟨fc, hfc⟩ : ∃ f, f = makeFu S.data.toList 12 nc := ⟨_, rfl⟩
  obtain ⟨L, hL⟩ : ∃ L, L = mkLd es := ⟨_, rfl⟩
  rw [← hfa] at hmf1
  rw [← hfb] at hmf2
  rw [← hfc] at hmf3
  rw [← hL] at hme hsm
  have hev := fun (f : FT) (v : Value) (D : ByteArray) (g n c : Nat) (W : World) (hW : Below w.heap.size w W) (h : IsFl (Lt W) W f v) (hA : IsA W.heap.size W L (.slice (some ⟨g, 0, none⟩) n c)) => evalP_any f v L D _ n c W h hsm (hw.below hW) (hx.below hW) hA
  obtain ⟨k, hk⟩ : ∃ k, k = na.length := ⟨_, rfl⟩
  obtain ⟨j, hj⟩ : ∃ k, k = nb.length := ⟨_, rfl⟩
  obtain ⟨m, hm⟩ : ∃ k, k = nc.length := ⟨_, rfl⟩
  obtain ⟨i, hi⟩ : ∃ k, k = es.length := ⟨_, rfl⟩
  rw [← hk] at hmf1 hal ⊢
  rw [← hj] at hmf2 hbl ⊢
  rw [← hm] at hmf3 hcl ⊢
  rw [← hi] at hme ⊢
  have HMf1 := Lib.hid hmf1
  have HMf2 := Lib.hid hmf2
  have HMf3 := Lib.hid hmf3
  have HMe := Lib.hid hme
  have HEv := Lib.hid hev
  clear ha hb hc he hw hx hk hj hm hi hfa hfb hfc hL hmf1 hmf2 hmf3 hme hev hsm
  by_cases g0 : 8 < k
  · have t0 : decide ((8 : Int) < (k : Int)) = true := by simp; omega
    have t0' : decide (8 < k) = true := by simp; omega
    go_enter Tryz.func4, Tryz.ntmps4
    go_wp2_with (go_at_call 6; (with_reducible refine (HAw.out _ HB0.out).mono ?_); rintro e w4 ⟨rfl, hb4⟩; have HB4 := Lib.hid hb4; clear hb4)
    go_ret
    exact ⟨rfl, HB4.out⟩
  · have t0 : decide ((8 : Int) < (k : Int)) = false := by simp; omega
    have t0' : decide (8 < k) = false := by simp; omega
    by_cases g1 : 8 < j
    · have t1 : decide ((8 : Int) < (j : Int)) = true := by simp; omega
      have t1' : decide (8 < j) = true := by simp; omega
      go_enter Tryz.func4, Tryz.ntmps4
      go_wp2_with (go_at_call 6; (with_reducible refine (HAw.out _ HB0.out).mono ?_); rintro e w4 ⟨rfl, hb4⟩; have HB4 := Lib.hid hb4; clear hb4)
      go_ret
      exact ⟨rfl, HB4.out⟩
    · have t1 : decide ((8 : Int) < (j : Int)) = false := by simp; omega
      have t1' : decide (8 < j) = false := by simp; omega
      by_cases g2 : 8 < m
      · have t2 : decide ((8 : Int) < (m : Int)) = true := by simp; omega
        have t2' : decide (8 < m) = true := by simp; omega
        go_enter Tryz.func4, Tryz.ntmps4
        go_wp2_with (go_at_call 6; (with_reducible refine (HAw.out _ HB0.out).mono ?_); rintro e w4 ⟨rfl, hb4⟩; have HB4 := Lib.hid hb4; clear hb4)
        go_ret
        exact ⟨rfl, HB4.out⟩
      · have t2 : decide ((8 : Int) < (m : Int)) = false := by simp; omega
        have t2' : decide (8 < m) = false := by simp; omega
        by_cases g3 : 20 < S.size
        · have t3 : decide ((20 : Int) < (S.size : Int)) = true := by simp; omega
          have t3' : decide (20 < S.size) = true := by simp; omega
          go_enter Tryz.func4, Tryz.ntmps4
          go_wp2_with (go_at_call 6; (with_reducible refine (HAw.out _ HB0.out).mono ?_); rintro e w4 ⟨rfl, hb4⟩; have HB4 := Lib.hid hb4; clear hb4)
          go_ret
          exact ⟨rfl, HB4.out⟩
        · have t3 : decide ((20 : Int) < (S.size : Int)) = false := by simp; omega
          have t3' : decide (20 < S.size) = false := by simp; omega
          have hmf1 := HMf1.out (by omega) (by omega)
          have hmf2 := HMf2.out (by omega) (by omega)
          have hmf3 := HMf3.out (by omega) (by omega)
          have HMa := Lib.hid hmf1
          have HMb := Lib.hid hmf2
          have HMc := Lib.hid hmf3
          clear hmf1 hmf2 hmf3 HMf1 HMf2 HMf3 g0 g1 g2 g3
          go_enter Tryz.func4, Tryz.ntmps4
          go_upto_region 5 with (first
            | (go_at_call 7; (with_reducible refine (HMe.out _ HB0.out).mono ?_); rintro e w1 ⟨D, g, n, c, rfl, _, hA, hb⟩; have HA1 := Lib.hid hA; have HB1 := Lib.hid hb; clear hA hb)
            | (go_at_call 8; have hba := (Below.refl w1.heap.size w1).alloc (Nat.le_refl _) (.cells #[.string D, .slice (some ⟨g, 0, none⟩) n c] 26); (with_reducible refine (HMa.out _ (bthen HB1.out hba)).mono ?_); rintro e w2 ⟨v, rfl, hf, hb⟩; have HFa := Lib.hid (hf.imp (fun b h => h.2) (fun b o h => rfl) : IsFl (Lt w2) w2 fa v); have HB2 := Lib.hid (bthen HB1.out (bthen hba hb)); have HX2 := Lib.hid hb; clear hba; (obtain ⟨ka, Ta, Xa, pa1, pa2, pa3, qa1, qa2, qa3, rfl⟩ := hf.shape); clear hf hb)
            | (go_at_call 8; (with_reducible refine (HMb.out _ HB2.out).mono ?_); rintro e w3 ⟨v, rfl, hf, hb⟩; have HFb := Lib.hid (hf.imp (fun b h => h.2) (fun b o h => rfl) : IsFl (Lt w3) w3 fb v); have HB3 := Lib.hid (bthen HB2.out hb); have HX3 := Lib.hid hb; (obtain ⟨kb, Tb, Xb, pb1, pb2, pb3, qb1, qb2, qb3, rfl⟩ := hf.shape); clear hf hb)
            | (go_at_call 8; (with_reducible refine (HMc.out _ HB3.out).mono ?_); rintro e w4 ⟨v, rfl, hf, hb⟩; have HFc := Lib.hid (hf.imp (fun b h => h.2) (fun b o h => rfl) : IsFl (Lt w4) w4 fc v); have HB4 := Lib.hid (bthen HB3.out hb); have HX4 := Lib.hid hb; (obtain ⟨kc, Tc, Xc, pc1, pc2, pc3, qc1, qc2, qc3, rfl⟩ := hf.shape); clear hf hb))
          obtain ⟨W5, hW5⟩ : ∃ W, W = w4.alloc (.cells #[.int .i64 ka, .string Ta, .string Xa, .slice pa1 pa2 pa3, .slice qa1 qa2 qa3, .int .i64 kb, .string Tb, .string Xb, .slice pb1 pb2 pb3, .slice qb1 qb2 qb3, .int .i64 kc, .string Tc, .string Xc, .slice pc1 pc2 pc3, .slice qc1 qc2 qc3] 31) := ⟨_, rfl⟩
          obtain ⟨gl, hgl⟩ : ∃ p, p = w4.heap.size := ⟨_, rfl⟩
          obtain ⟨pe, hpe⟩ : ∃ p, p = w1.heap.size := ⟨_, rfl⟩
          have hb45 : Below w4.heap.size w4 W5 := by rw [hW5]; exact (Below.refl _ _).alloc (Nat.le_refl _) _
          have hbe : Below w1.heap.size w1 (w1.alloc (.cells #[.string D, .slice (some ⟨g, 0, none⟩) n c] 26)) := (Below.refl _ _).alloc (Nat.le_refl _) _
          have hw15 := bthen (bthen (bthen HX2.out HX3.out) HX4.out) hb45
          have hes : pe < (w1.alloc (.cells #[.string D, .slice (some ⟨g, 0, none⟩) n c] 26)).heap.size := by rw [hpe]; simp
          have hE0 : W5.cell? ⟨pe, 0, none⟩ = some (.string D) := (hw15.cell (p := ⟨pe, 0, none⟩) hes).trans (by rw [hpe]; go_simp)
          have hE1 : W5.cell? ⟨pe, 1, none⟩ = some (.slice (some ⟨g, 0, none⟩) n c) := (hw15.cell (p := ⟨pe, 1, none⟩) hes).trans (by rw [hpe]; go_simp)
          have hpe5 : pe < W5.heap.size := Nat.lt_of_lt_of_le hes hw15.size
          have hrow : W5.heap[gl]? = some (.cells #[.int .i64 ka, .string Ta, .string Xa, .slice pa1 pa2 pa3, .slice qa1 qa2 qa3, .int .i64 kb, .string Tb, .string Xb, .slice pb1 pb2 pb3, .slice qb1 qb2 qb3, .int .i64 kc, .string Tc, .string Xc, .slice pc1 pc2 pc3, .slice qc1 qc2 qc3] 31 (0, 0)) := by rw [hW5, hgl]; exact heap_alloc_new w4 _
          have hg5 : gl < W5.heap.size := (Array.getElem?_eq_some_iff.1 hrow).1
          have HFa5 := Lib.hid (HFa.out.below (bthen (bthen HX3.out HX4.out) hb45))
          have HFb5 := Lib.hid (HFb.out.below (bthen HX4.out hb45))
          have HFc5 := Lib.hid (HFc.out.below hb45)
          have HL5 : Hid (IsFls (Lt W5) W5 [fa, fb, fc] (some ⟨gl, 0, none⟩) 0) := Lib.hid (isFls_three hg5 hrow HFa5.out HFb5.out HFc5.out)
          have HA5 := Lib.hid ((HA1.out.below hbe hbe.size).below hw15 hw15.size)
          have HB5 := Lib.hid (bthen (bthen HB1.out hbe) hw15)
          have HE5 := Lib.hid (And.intro hpe5 (And.intro hE0 hE1))
          have HR5 := Lib.hid hrow
          rw [← hW5, ← hgl, ← hpe]
          clear hb45 hbe hw15 hes hE0 hE1 hpe5 hg5 hrow hpe hgl hW5 HFa HFb HFc HA1 HX2 HX3 HX4 HB1 HB2 HB3 HB4
          refine region_factsB (by kernel_rfl) (FR W5.heap.size [.is (.slice (some ⟨gl, 0, none⟩) 3 3), .is (.pointer (some ⟨gl, 10, none⟩)), .is (.agg #[.int .i64 kc, .string Tc, .string Xc, .slice pc1 pc2 pc3, .slice qc1 qc2 qc3]), .is (.slice (some ⟨gl, 0, none⟩) 3 3), .is (.pointer (some ⟨gl, 0, none⟩)), .is (.agg #[.int .i64 ka, .string Ta, .string Xa, .slice pa1 pa2 pa3, .slice qa1 qa2 qa3]), .is (.slice (some ⟨gl, 0, none⟩) 3 3), .is (.pointer (some ⟨gl, 5, none⟩)), .is (.agg #[.int .i64 kb, .string Tb, .string Xb, .slice pb1 pb2 pb3, .slice qb1 qb2 qb3]), .row #[.int .i64 kc, .string Tc, .string Xc, .slice pc1 pc2 pc3, .slice qc1 qc2 qc3, .int .i64 ka, .string Ta, .string Xa, .slice pa1 pa2 pa3, .slice qa1 qa2 qa3, .int .i64 kb, .string Tb, .string Xb, .slice pb1 pb2 pb3, .slice qb1 qb2 qb3]]) (fun w w' => Below w.heap.size w w') (fun _ _ _ _ h hb => h.go hb) (fun _ _ _ h1 h2 => bthen h1 h2) (Below.refl _ _).drew (by kernel_rfl) rfl ?hs ?hl
          case hs =>
            intro listed a W hk i o ho hi hc
            have e12 := hk.read (t := 12) (by kernel_rfl) rfl
            have hgr : Below W5.heap.size W5 W := hk.grown
            have hrow := (hgr.block gl (Array.getElem?_eq_some_iff.1 HR5.out).1).trans HR5.out
            have c0 : W.cell? ⟨gl, 0, none⟩ = some (.int .i64 ka) := by simp [World.cell?, hrow]
            have c1 : W.cell? ⟨gl, 1, none⟩ = some (.string Ta) := by simp [World.cell?, hrow]
            have c2 : W.cell? ⟨gl, 2, none⟩ = some (.string Xa) := by simp [World.cell?, hrow]
            have c3 : W.cell? ⟨gl, 3, none⟩ = some (.slice pa1 pa2 pa3) := by simp [World.cell?, hrow]
            have c4 : W.cell? ⟨gl, 4, none⟩ = some (.slice qa1 qa2 qa3) := by simp [World.cell?, hrow]
            have c5 : W.cell? ⟨gl, 5, none⟩ = some (.int .i64 kb) := by simp [World.cell?, hrow]
            have c6 : W.cell? ⟨gl, 6, none⟩ = some (.string Tb) := by simp [World.cell?, hrow]
            have c7 : W.cell? ⟨gl, 7, none⟩ = some (.string Xb) := by simp [World.cell?, hrow]
            have c8 : W.cell? ⟨gl, 8, none⟩ = some (.slice pb1 pb2 pb3) := by simp [World.cell?, hrow]
            have c9 : W.cell? ⟨gl, 9, none⟩ = some (.slice qb1 qb2 qb3) := by simp [World.cell?, hrow]
            have c10 : W.cell? ⟨gl, 10, none⟩ = some (.int .i64 kc) := by simp [World.cell?, hrow]
            have c11 : W.cell? ⟨gl, 11, none⟩ = some (.string Tc) := by simp [World.cell?, hrow]
            have c12 : W.cell? ⟨gl, 12, none⟩ = some (.string Xc) := by simp [World.cell?, hrow]
            have c13 : W.cell? ⟨gl, 13, none⟩ = some (.slice pc1 pc2 pc3) := by simp [World.cell?, hrow]
            have c14 : W.cell? ⟨gl, 14, none⟩ = some (.slice qc1 qc2 qc3) := by simp [World.cell?, hrow]
            clear hrow
            match i, hi with
            | 0, _ =>
              obtain rfl := Option.some.inj ho
              exact wpOp_val rfl rfl (v := .slice (some ⟨gl, 0, none⟩) 3 3) (w' := W) (by simp [go_sem, e12]) ⟨_, _, rfl, rfl, Below.refl _ _, rfl⟩
            | 1, _ =>
              obtain rfl := Option.some.inj ho
              obtain ⟨v0, g0, f0⟩ := hk.got (j := 0) rfl rfl (hc ⟨0, .data⟩ (by simp) rfl); obtain rfl : v0 = _ := f0
              exact wpOp_val rfl rfl (v := .pointer (some ⟨gl, 10, none⟩)) (w' := W) (by simp [go_sem, g0]) ⟨_, _, rfl, rfl, Below.refl _ _, rfl⟩
            | 2, _ =>
              obtain rfl := Option.some.inj ho
              obtain ⟨v1, g1, f1⟩ := hk.got (j := 1) rfl rfl (hc ⟨1, .data⟩ (by simp) rfl); obtain rfl : v1 = _ := f1
              exact wpOp_val rfl rfl (v := .agg #[.int .i64 kc, .string Tc, .string Xc, .slice pc1 pc2 pc3, .slice qc1 qc2 qc3]) (w' := W) (by simp [go_sem, g1, c10, c11, c12, c13, c14]) ⟨_, _, rfl, rfl, Below.refl _ _, rfl⟩
            | 3, _ =>
              obtain rfl := Option.some.inj ho
              exact wpOp_val rfl rfl (v := .slice (some ⟨gl, 0, none⟩) 3 3) (w' := W) (by simp [go_sem, e12]) ⟨_, _, rfl, rfl, Below.refl _ _, rfl⟩
            | 4, _ =>
              obtain rfl := Option.some.inj ho
              obtain ⟨v3, g3, f3⟩ := hk.got (j := 3) rfl rfl (hc ⟨3, .data⟩ (by simp) rfl); obtain rfl : v3 = _ := f3
              exact wpOp_val rfl rfl (v := .pointer (some ⟨gl, 0, none⟩)) (w' := W) (by simp [go_sem, g3]) ⟨_, _, rfl, rfl, Below.refl _ _, rfl⟩
            | 5, _ =>
              obtain rfl := Option.some.inj ho
              obtain ⟨v4, g4, f4⟩ := hk.got (j := 4) rfl rfl (hc ⟨4, .data⟩ (by simp) rfl); obtain rfl : v4 = _ := f4
              exact wpOp_val rfl rfl (v := .agg #[.int .i64 ka, .string Ta, .string Xa, .slice pa1 pa2 pa3, .slice qa1 qa2 qa3]) (w' := W) (by simp [go_sem, g4, c0, c1, c2, c3, c4]) ⟨_, _, rfl, rfl, Below.refl _ _, rfl⟩
            | 6, _ =>
              obtain rfl := Option.some.inj ho
              exact wpOp_val rfl rfl (v := .slice (some ⟨gl, 0, none⟩) 3 3) (w' := W) (by simp [go_sem, e12]) ⟨_, _, rfl, rfl, Below.refl _ _, rfl⟩
            | 7, _ =>
              obtain rfl := Option.some.inj ho
              obtain ⟨v6, g6, f6⟩ := hk.got (j := 6) rfl rfl (hc ⟨6, .data⟩ (by simp) rfl); obtain rfl : v6 = _ := f6
              exact wpOp_val rfl rfl (v := .pointer (some ⟨gl, 5, none⟩)) (w' := W) (by simp [go_sem, g6]) ⟨_, _, rfl, rfl, Below.refl _ _, rfl⟩
            | 8, _ =>
              obtain rfl := Option.some.inj ho
              obtain ⟨v7, g7, f7⟩ := hk.got (j := 7) rfl rfl (hc ⟨7, .data⟩ (by simp) rfl); obtain rfl : v7 = _ := f7
              exact wpOp_val rfl rfl (v := .agg #[.int .i64 kb, .string Tb, .string Xb, .slice pb1 pb2 pb3, .slice qb1 qb2 qb3]) (w' := W) (by simp [go_sem, g7, c5, c6, c7, c8, c9]) ⟨_, _, rfl, rfl, Below.refl _ _, rfl⟩
            | 9, _ =>
              obtain rfl := Option.some.inj ho
              obtain ⟨v2, g2, f2⟩ := hk.got (j := 2) rfl rfl (hc ⟨2, .data⟩ (by simp) rfl); obtain rfl : v2 = _ := f2
              obtain ⟨v5, g5, f5⟩ := hk.got (j := 5) rfl rfl (hc ⟨5, .data⟩ (by simp) rfl); obtain rfl : v5 = _ := f5
              obtain ⟨v8, g8, f8⟩ := hk.got (j := 8) rfl rfl (hc ⟨8, .data⟩ (by simp) rfl); obtain rfl : v8 = _ := f8
              exact wpOp_val rfl rfl (v := .slice (some ⟨W.heap.size, 0, none⟩) 3 3) (w' := W.alloc (.cells #[.int .i64 kc, .string Tc, .string Xc, .slice pc1 pc2 pc3, .slice qc1 qc2 qc3, .int .i64 ka, .string Ta, .string Xa, .slice pa1 pa2 pa3, .slice qa1 qa2 qa3, .int .i64 kb, .string Tb, .string Xb, .slice pb1 pb2 pb3, .slice qb1 qb2 qb3] 31)) (by simp [go_sem, g2, g5, g8]) ⟨_, _, rfl, rfl, (Below.refl _ _).alloc (Nat.le_refl _) _, ⟨_, rfl, hgr.size, heap_alloc_new W _⟩⟩
            | k + 10, h => exact absurd h (by simp)
          case hl =>
            intro listed a W hk hall
            obtain ⟨v9, g9, k9⟩ := hk.got (j := 9) rfl rfl (hall 9 (by simp))
            obtain ⟨gr, rfl, hrB, hrc⟩ := k9
            have hgr : Below W5.heap.size W5 W := hk.grown
            have hput := hk.puts
            refine wpOp_val rfl rfl (v := .slice (some ⟨gr, 0, none⟩) 3 3) (w' := W) (by simp [go_sem, g9]) ?_
            rw [hput]
            simp only [putT, g9]
            generalize a.tmps[52]?.getD undef = x52
            generalize a.tmps[53]?.getD undef = x53
            generalize a.tmps[54]?.getD undef = x54
            generalize a.tmps[55]?.getD undef = x55
            generalize a.tmps[56]?.getD undef = x56
            generalize a.tmps[57]?.getD undef = x57
            generalize a.tmps[58]?.getD undef = x58
            generalize a.tmps[59]?.getD undef = x59
            generalize a.tmps[60]?.getD undef = x60
            generalize a.tmps[61]?.getD undef = x61
            generalize a.tmps[13]?.getD undef = x13
            have HBq := Lib.hid hgr
            have HRr := Lib.hid hrc
            clear hall hput g9 hrB hrc hgr hk
            obtain ⟨W6, hW6⟩ : ∃ W', W' = W.alloc (.cells #[.int .i64 0, .int .i64 2, .int .i64 1] 3) := ⟨_, rfl⟩
            obtain ⟨rk, hrk⟩ : ∃ p, p = W.heap.size := ⟨_, rfl⟩
            have hb6 : Below W.heap.size W W6 := by rw [hW6]; exact (Below.refl _ _).alloc (Nat.le_refl _) _
            have hrn : W6.heap[rk]? = some (.cells #[.int .i64 0, .int .i64 2, .int .i64 1] 3 (0, 0)) := by rw [hW6, hrk]; exact heap_alloc_new W _
            have hb56 := bthen HBq.out hb6
            have hrow6 := (hb6.block gr (Array.getElem?_eq_some_iff.1 HRr.out).1).trans HRr.out
            have HA6 := Lib.hid (HA5.out.below hb56 hb56.size)
            have HL6 := Lib.hid (HL5.out.below hb56)
            have HRl6 : Hid (IsFls (Lt W6) W6 [fc, fa, fb] (some ⟨gr, 0, none⟩) 0) := Lib.hid (isFls_three (Array.getElem?_eq_some_iff.1 hrow6).1 hrow6 (HFc5.out.below hb56) (HFa5.out.below hb56) (HFb5.out.below hb56))
            have HB6 := Lib.hid (bthen HB5.out hb56)
            have HE6 : Hid (∀ W', Below W6.heap.size W6 W' → W'.cell? ⟨pe, 0, none⟩ = some (.string D) ∧ W'.cell? ⟨pe, 1, none⟩ = some (.slice (some ⟨g, 0, none⟩) n c) ∧ (∀ v, v ≤ 2 → W'.cell? ⟨rk, v, none⟩ = some (.int .i64 (rkN v : Nat)))) := Lib.hid (fun W' hW => by
              have h5 := bthen hb56 hW
              refine ⟨(h5.cell (p := ⟨pe, 0, none⟩) HE5.out.1).trans HE5.out.2.1, (h5.cell (p := ⟨pe, 1, none⟩) HE5.out.1).trans HE5.out.2.2, fun v hv => ?_⟩
              exact (hW.cell (p := ⟨rk, v, none⟩) (Array.getElem?_eq_some_iff.1 hrn).1).trans (rank_cell hrn v hv))
            clear HFa5 HFb5 HFc5 HA5 HL5 HR5 HE5 HB5 HRr HBq hb56 hrow6 hrn hb6
            go_upto_region 8 with (fail)
            rw [← hW6, ← hrk]
            clear hW6 hrk
            obtain ⟨FS, hFS⟩ : ∃ l, l = [fa, fb, fc] := ⟨_, rfl⟩
            obtain ⟨VS, hVS⟩ : ∃ l, l = FS.map (evalD L) := ⟨_, rfl⟩
            have hl3 : FS.length = 3 := by rw [hFS]; rfl
            have hvl3 : VS.length = 3 := by rw [hVS, List.length_map]; exact hl3
            rw [← hFS] at HL6
            have HFS := Lib.hid hFS
            have HVS := Lib.hid hVS
            clear hFS hVS
            go_wp2
            go_loopw [15, 16, 17, 18] (fun le mo ii vv wr => ∃ q : Nat, q ≤ 3 ∧ ii = .int .i64 q ∧ le = .int .i64 (leastN (VS.take q) : Nat) ∧ mo = .int .i64 (mostN (VS.take q) : Nat) ∧ Hid (∀ t (h : t < FS.length), t < q → mayF 13 (bothF 1 [FS[t]]) = true) ∧ Below W6.heap.size W6 wr) (fun _ _ ii _ _ => 3 - (intOf ii).toNat)
            case atStart => exact ⟨0, by omega, rfl, rfl, rfl, Lib.hid (fun t _ h => absurd h (by omega)), Below.refl _ _⟩
            case round =>
              obtain ⟨q, hq, rfl, rfl, rfl, HMy, hbr⟩ := hrel
              by_cases hlt : q < 3
              · have t5 : decide ((q : Int) < 3) = true := by simp; omega
                have ti0 : (0 : Int) ≤ (q : Int) := by omega
                have ti1 : (q : Int) < 3 := by omega
                have hql : q < FS.length := by omega
                obtain ⟨kq, Tq, Xq, pq1, pq2, pq3, qq1, qq2, qq3, hgl, c0, c1, c2, c3, c4, hf⟩ := fls_at HL6.out q hql
                have HC : Hid (∀ W', Below W6.heap.size W6 W' → W'.cell? ⟨gl, q * 5, none⟩ = some (.int .i64 kq) ∧ W'.cell? ⟨gl, q * 5 + 1, none⟩ = some (.string Tq) ∧ W'.cell? ⟨gl, q * 5 + 2, none⟩ = some (.string Xq) ∧ W'.cell? ⟨gl, q * 5 + 3, none⟩ = some (.slice pq1 pq2 pq3) ∧ W'.cell? ⟨gl, q * 5 + 4, none⟩ = some (.slice qq1 qq2 qq3)) := Lib.hid (fun W' hW => ⟨(hW.cell (p := ⟨gl, _, none⟩) hgl).trans c0, (hW.cell (p := ⟨gl, _, none⟩) hgl).trans c1, (hW.cell (p := ⟨gl, _, none⟩) hgl).trans c2, (hW.cell (p := ⟨gl, _, none⟩) hgl).trans c3, (hW.cell (p := ⟨gl, _, none⟩) hgl).trans c4⟩)
                have HF := Lib.hid hf
                clear c0 c1 c2 c3 c4 hf hgl
                obtain ⟨c0, c1, c2, c3, c4⟩ := HC.out _ hbr
                have hba : Below wr.heap.size wr (wr.alloc (.cells #[.int .i64 kq, .string Tq, .string Xq, .slice pq1 pq2 pq3, .slice qq1 qq2 qq3] 31)) := (Below.refl _ _).alloc (Nat.le_refl _) _
                have HBr := Lib.hid hbr
                have HBa := Lib.hid (bthen hbr hba)
                have HM : Hid (IsFl (Lt (wr.alloc (.cells #[.int .i64 kq, .string Tq, .string Xq, .slice pq1 pq2 pq3, .slice qq1 qq2 qq3] 31))) (wr.alloc (.cells #[.int .i64 kq, .string Tq, .string Xq, .slice pq1 pq2 pq3, .slice qq1 qq2 qq3] 31)) (bothF 1 [FS[q]]) (.agg #[.int .i64 1, .string ⟨#[]⟩, .string ⟨#[]⟩, .slice none 0 0, .slice (some ⟨wr.heap.size, 0, none⟩) 1 1])) := Lib.hid (mkHold (l := [FS[q]]) (by decide) (show 1 ≤ maxLen by decide) (isFls_one (show wr.heap.size < _ by simp) (heap_alloc_new wr _) (HF.out.below (bthen hbr hba))))
                obtain ⟨mq, hmq⟩ : ∃ b, mayF 13 (bothF 1 [FS[q]]) = b := ⟨_, rfl⟩
                have HMq := Lib.hid hmq
                clear hbr hba hmq
                cases mq with
                | false =>
                  go_wp2_with (first
                    | (go_at_call 10; (with_reducible refine (mayFilter_any _ _ _ HM.out).mono ?_); rintro e w7 ⟨he, hb7⟩; rw [HMq.out] at he; subst he; have HB7 := Lib.hid (bthen HBa.out hb7); clear hb7)
                    | (go_at_call 6; (with_reducible refine (HAw.out _ (bthen HB6.out HB7.out)).mono ?_); rintro e w8 ⟨rfl, hb8⟩; have HB8 := Lib.hid (bthen (bthen HB6.out HB7.out) hb8); clear hb8))
                  go_ret
                  exact ⟨rfl, HB8.out⟩
                | true =>
                  have hv2 := evalD_one (L := L) HMq.out
                  obtain ⟨vq, hvq⟩ : ∃ v, v = evalD L FS[q] := ⟨_, rfl⟩
                  rw [← hvq] at hv2
                  have hle := hv2.2
                  have HVq := Lib.hid hvq
                  have HY : Hid (∀ t (h : t < FS.length), t < q + 1 → mayF 13 (bothF 1 [FS[t]]) = true) := Lib.hid (fun t ht h => by
                    rcases Nat.lt_or_ge t q with h1 | h1
                    · exact HMy.out t ht h1
                    · obtain rfl : t = q := by omega
                      exact HMq.out)
                  have HS : Hid (∀ W', Below W6.heap.size W6 W' → W'.cell? ⟨gl, q * 5, none⟩ = some (.int .i64 kq) ∧ W'.cell? ⟨gl, q * 5 + 1, none⟩ = some (.string Tq) ∧ W'.cell? ⟨gl, q * 5 + 2, none⟩ = some (.string Xq) ∧ W'.cell? ⟨gl, q * 5 + 3, none⟩ = some (.slice pq1 pq2 pq3) ∧ W'.cell? ⟨gl, q * 5 + 4, none⟩ = some (.slice qq1 qq2 qq3) ∧ W'.cell? ⟨pe, 0, none⟩ = some (.string D) ∧ W'.cell? ⟨pe, 1, none⟩ = some (.slice (some ⟨g, 0, none⟩) n c) ∧ Below W6.heap.size W6 W') := Lib.hid (fun W' hW => by
                    obtain ⟨x0, x1, x2, x3, x4⟩ := HC.out W' hW
                    obtain ⟨y0, y1, -⟩ := HE6.out W' hW
                    exact ⟨x0, x1, x2, x3, x4, y0, y1, hW⟩)
                  have HEq : Hid (∀ W', Below W6.heap.size W6 W' → Calls Tryz.prog 11 #[.agg #[.int .i64 kq, .string Tq, .string Xq, .slice pq1 pq2 pq3, .slice qq1 qq2 qq3], .agg #[.string D, .slice (some ⟨g, 0, none⟩) n c]] W' (fun e w'' => e = .returned (.int .i64 (vq : Nat)) ∧ (fun w' => w'.cell? ⟨gl, q * 5, none⟩ = some (.int .i64 kq) ∧ w'.cell? ⟨gl, q * 5 + 1, none⟩ = some (.string Tq) ∧ w'.cell? ⟨gl, q * 5 + 2, none⟩ = some (.string Xq) ∧ w'.cell? ⟨gl, q * 5 + 3, none⟩ = some (.slice pq1 pq2 pq3) ∧ w'.cell? ⟨gl, q * 5 + 4, none⟩ = some (.slice qq1 qq2 qq3) ∧ w'.cell? ⟨pe, 0, none⟩ = some (.string D) ∧ w'.cell? ⟨pe, 1, none⟩ = some (.slice (some ⟨g, 0, none⟩) n c) ∧ Below W6.heap.size W6 w') w'')) := Lib.hid (fun W' hW => (HEv.out FS[q] _ D g n c W' (bthen HB6.out hW) (HF.out.below hW) (HA6.out.below hW hW.size)).mono (fun e w'' h => ⟨by rw [h.1, ← HVq.out], HS.out w'' (bthen hW h.2)⟩))
                  clear hv2 hvq
                  go_upto_region 13 with (go_at_call 10; (with_reducible refine (mayFilter_any _ _ _ HM.out).mono ?_); rintro e w7 ⟨he, hb7⟩; rw [HMq.out] at he; subst he; have HB7 := Lib.hid (bthen HBa.out hb7); clear hb7)
                  have hst := HS.out _ HB7.out.drew
                  refine region_det (by kernel_rfl) (fun w' => w'.cell? ⟨gl, q * 5, none⟩ = some (.int .i64 kq) ∧ w'.cell? ⟨gl, q * 5 + 1, none⟩ = some (.string Tq) ∧ w'.cell? ⟨gl, q * 5 + 2, none⟩ = some (.string Xq) ∧ w'.cell? ⟨gl, q * 5 + 3, none⟩ = some (.slice pq1 pq2 pq3) ∧ w'.cell? ⟨gl, q * 5 + 4, none⟩ = some (.slice qq1 qq2 qq3) ∧ w'.cell? ⟨pe, 0, none⟩ = some (.string D) ∧ w'.cell? ⟨pe, 1, none⟩ = some (.slice (some ⟨g, 0, none⟩) n c) ∧ Below W6.heap.size W6 w') (hst) (by kernel_rfl) ?_
                  simp only [List.toList_toArray]
                  repeat' (first
                    | (refine det_shut (by rfl) ?_; (simp only [Act.put, List.setIfInBounds_toArray, List.set_cons_zero, List.set_cons_succ]))
                    | (apply det_val; (case hw => rfl); (case hv => (intro w' hS; (obtain ⟨s0, s1, s2, s3, s4, s5, s6, s7⟩ := hS); go_simp; first | done | with_reducible exact rfl)); (simp only [Act.put, List.setIfInBounds_toArray, List.set_cons_zero, List.set_cons_succ]))
                    | (apply det_call; (case hw => rfl); (case hv => (intro w' hS; (obtain ⟨s0, s1, s2, s3, s4, s5, s6, s7⟩ := hS); go_simp; first | done | with_reducible exact rfl | with_reducible exact ⟨rfl, rfl⟩)); (case hc => (intro w' hS; (first | (go_at_call 11; with_reducible exact HEq.out w' hS.2.2.2.2.2.2.2)))); (simp only [Act.put, List.setIfInBounds_toArray, List.set_cons_zero, List.set_cons_succ]))
                    | fail)
                  intro wz hSz
                  have HBz := Lib.hid hSz.2.2.2.2.2.2.2
                  have r0 := (HE6.out wz HBz.out).2.2 vq hle
                  clear hSz
                  have u0 : decide ((vq : Int) < 0) = false := by simp
                  have u1 : decide ((2 : Int) < (vq : Int)) = false := by simp; omega
                  have u2 : (0 : Int) ≤ (vq : Int) := by omega
                  have u3 : (vq : Int) < 3 := by omega
                  have hqv : q < VS.length := by omega
                  have hvs : VS.take (q + 1) = VS.take q ++ [vq] := by
                    rw [List.take_succ_eq_append_getElem hqv]
                    simp only [HVS.out, List.getElem_map, HVq.out]
                  have HN1 : Hid (leastN (VS.take (q + 1)) = min (leastN (VS.take q)) (rkN vq)) := Lib.hid (by rw [hvs, leastN_snoc])
                  have HN2 : Hid (mostN (VS.take (q + 1)) = max (mostN (VS.take q)) (rkN vq)) := Lib.hid (by rw [hvs, mostN_snoc])
                  clear hqv hvs
                  go_wp2
                  go_roundw
                  case rel => exact ⟨q + 1, by omega, by go_num, by rw [HN1.out]; congr 1; omega, by rw [HN2.out]; congr 1; omega, HY, HBz.out⟩
                  case measure => simp [intOf]; omega
              · obtain rfl : q = 3 := by omega
                have t5 : decide ((3 : Int) < 3) = false := by simp
                have hla := HMy.out 0 (by omega) (by omega)
                have hlb := HMy.out 1 (by omega) (by omega)
                have hlc := HMy.out 2 (by omega) (by omega)
                simp only [HFS.out, List.getElem_cons_zero, List.getElem_cons_succ] at hla hlb hlc
                obtain ⟨A, B, hA, hB, r0, r1, r2, r3, r4, r5⟩ := logic_L L fa fb fc hla hlb hlc
                have e0 : VS.take 3 = [evalD L fa, evalD L fb, evalD L fc] := by rw [HVS.out, HFS.out]; rfl
                rw [e0, ← r2, ← r3]
                have HBr := Lib.hid hbr
                have hL6 := HL6.out
                rw [HFS.out] at hL6
                have HL6 := Lib.hid hL6
                have hv1 := fun (c1 : Nat) (W' : World) (hW : Below W6.heap.size W6 W') => HEv.out (bothF 1 [fa, fb, fc]) (.agg #[.int .i64 1, .string ⟨#[]⟩, .string ⟨#[]⟩, .slice none 0 0, .slice (some ⟨gl, 0, none⟩) 3 3]) D g n c W' (bthen HB6.out hW) (mkHold (l := [fa, fb, fc]) (by decide) (show 3 ≤ maxLen by decide) (HL6.out.below hW)) (HA6.out.below hW hW.size)
                have hv2 := fun (c1 : Nat) (W' : World) (hW : Below W6.heap.size W6 W') => HEv.out (bothF 2 [fa, fb, fc]) (.agg #[.int .i64 2, .string ⟨#[]⟩, .string ⟨#[]⟩, .slice none 0 0, .slice (some ⟨gl, 0, none⟩) 3 3]) D g n c W' (bthen HB6.out hW) (mkHold (l := [fa, fb, fc]) (by decide) (show 3 ≤ maxLen by decide) (HL6.out.below hW)) (HA6.out.below hW hW.size)
                have hv3 := fun (W' : World) (hW : Below W6.heap.size W6 W') => HEv.out (bothF 1 [fc, fa, fb]) (.agg #[.int .i64 1, .string ⟨#[]⟩, .string ⟨#[]⟩, .slice none 0 0, .slice (some ⟨gr, 0, none⟩) 3 3]) D g n c W' (bthen HB6.out hW) (mkHold (l := [fc, fa, fb]) (by decide) (show 3 ≤ maxLen by decide) (HRl6.out.below hW)) (HA6.out.below hW hW.size)
                have hv4 := fun (W' : World) (hW : Below W6.heap.size W6 W') => HEv.out (bothF 2 [fc, fa, fb]) (.agg #[.int .i64 2, .string ⟨#[]⟩, .string ⟨#[]⟩, .slice none 0 0, .slice (some ⟨gr, 0, none⟩) 3 3]) D g n c W' (bthen HB6.out hW) (mkHold (l := [fc, fa, fb]) (by decide) (show 3 ≤ maxLen by decide) (HRl6.out.below hW)) (HA6.out.below hW hW.size)
                rw [r0] at hv1
                rw [r1] at hv2
                rw [r4] at hv3
                rw [r5] at hv4
                have HS : Hid (∀ W', Below W6.heap.size W6 W' → W'.cell? ⟨pe, 0, none⟩ = some (.string D) ∧ W'.cell? ⟨pe, 1, none⟩ = some (.slice (some ⟨g, 0, none⟩) n c) ∧ Below W6.heap.size W6 W') := Lib.hid (fun W' hW => ⟨(HE6.out W' hW).1, (HE6.out W' hW).2.1, hW⟩)
                have HV1 : Hid (∀ W', Below W6.heap.size W6 W' → Calls Tryz.prog 11 #[.agg #[.int .i64 1, .string ⟨#[]⟩, .string ⟨#[]⟩, .slice none 0 0, .slice (some ⟨gl, 0, none⟩) 3 3], .agg #[.string D, .slice (some ⟨g, 0, none⟩) n c]] W' (fun e w'' => e = .returned (.int .i64 (A : Nat)) ∧ (fun w' => w'.cell? ⟨pe, 0, none⟩ = some (.string D) ∧ w'.cell? ⟨pe, 1, none⟩ = some (.slice (some ⟨g, 0, none⟩) n c) ∧ Below W6.heap.size W6 w') w'')) := Lib.hid (fun W' hW => (hv1 0 W' hW).mono (fun e w'' h => ⟨h.1, HS.out w'' (bthen hW h.2)⟩))
                have HV2 : Hid (∀ W', Below W6.heap.size W6 W' → Calls Tryz.prog 11 #[.agg #[.int .i64 2, .string ⟨#[]⟩, .string ⟨#[]⟩, .slice none 0 0, .slice (some ⟨gl, 0, none⟩) 3 3], .agg #[.string D, .slice (some ⟨g, 0, none⟩) n c]] W' (fun e w'' => e = .returned (.int .i64 (B : Nat)) ∧ (fun w' => w'.cell? ⟨pe, 0, none⟩ = some (.string D) ∧ w'.cell? ⟨pe, 1, none⟩ = some (.slice (some ⟨g, 0, none⟩) n c) ∧ Below W6.heap.size W6 w') w'')) := Lib.hid (fun W' hW => (hv2 0 W' hW).mono (fun e w'' h => ⟨h.1, HS.out w'' (bthen hW h.2)⟩))
                have HV3 := Lib.hid hv3
                have HV4 := Lib.hid hv4
                clear hv1 hv2 hv3 hv4 r0 r1 r2 r3 r4 r5 hla hlb hlc e0 hL6 hbr hl3 hvl3
                go_upto_region 18 with (fail)
                have hst := HS.out _ HBr.out.drew
                refine region_det (by kernel_rfl) (fun w' => w'.cell? ⟨pe, 0, none⟩ = some (.string D) ∧ w'.cell? ⟨pe, 1, none⟩ = some (.slice (some ⟨g, 0, none⟩) n c) ∧ Below W6.heap.size W6 w') (hst) (by kernel_rfl) ?_
                simp only [List.toList_toArray]
                repeat' (first
                  | (refine det_shut (by rfl) ?_; (simp only [Act.put, List.setIfInBounds_toArray, List.set_cons_zero, List.set_cons_succ]))
                  | (apply det_val; (case hw => rfl); (case hv => (intro w' hS; (obtain ⟨s0, s1, s2⟩ := hS); go_simp; first | done | with_reducible exact rfl)); (simp only [Act.put, List.setIfInBounds_toArray, List.set_cons_zero, List.set_cons_succ]))
                  | (apply det_call; (case hw => rfl); (case hv => (intro w' hS; (obtain ⟨s0, s1, s2⟩ := hS); go_simp; first | done | with_reducible exact rfl | with_reducible exact ⟨rfl, rfl⟩)); (case hc => (intro w' hS; (first | (go_at_call 11; with_reducible exact HV1.out w' hS.2.2) | (go_at_call 11; with_reducible exact HV2.out w' hS.2.2)))); (simp only [Act.put, List.setIfInBounds_toArray, List.set_cons_zero, List.set_cons_succ]))
                  | fail)
                intro wz hSz
                have HBz := Lib.hid hSz.2.2
                have y0 := (HE6.out wz HBz.out).2.2 A hA
                have y1 := (HE6.out wz HBz.out).2.2 B hB
                obtain ⟨s0, s1, -⟩ := hSz
                have u0 : decide ((A : Int) < 0) = false := by simp
                have u1 : decide ((2 : Int) < (A : Int)) = false := by simp; omega
                have u2 : (0 : Int) ≤ (A : Int) := by omega
                have u3 : (A : Int) < 3 := by omega
                have u4 : decide ((B : Int) < 0) = false := by simp
                have u5 : decide ((2 : Int) < (B : Int)) = false := by simp; omega
                have u6 : (0 : Int) ≤ (B : Int) := by omega
                have u7 : (B : Int) < 3 := by omega
                go_wp2_with (first
                  | (go_at_call 11; (with_reducible refine (HV3.out _ HBz.out).mono ?_); rintro e w8 ⟨rfl, hb8⟩; have HB8 := Lib.hid (bthen HBz.out hb8); (obtain ⟨s0, s1, -⟩ := HS.out _ (bthen HBz.out hb8)); clear hb8)
                  | (go_at_call 11; (with_reducible refine (HV4.out _ HB8.out).mono ?_); rintro e w9 ⟨rfl, hb9⟩; have HB9 := Lib.hid (bthen HB8.out hb9); clear hb9)
                  | (go_at_call 6; (with_reducible refine (HAw.out _ (bthen HB6.out HB9.out)).mono ?_); rintro e w10 ⟨rfl, hb10⟩; have HB10 := Lib.hid (bthen (bthen HB6.out HB9.out) hb10); clear hb10))
                go_ret
                exact ⟨rfl, HB10.out⟩
end Go.Proofs.YtmilgbkkibahlaaGreatDoor

