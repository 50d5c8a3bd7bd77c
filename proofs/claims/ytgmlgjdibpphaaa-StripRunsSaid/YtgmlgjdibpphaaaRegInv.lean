/- A region that draws its order, by ONE invariant over its steps: each operation is proved once, in whatever order they come. -/
import Derived.RegionTactic
namespace Go.Proofs.Ytgmlgjdibpphaaa
set_option linter.unusedVariables false

section
variable {P : Program} {ops : Array Oper} {Q : Exit → Act → World → Prop} {md : Region.Mode}

/-- How many operations are still to come. -/
def toCome (l : Array Bool) : Nat := l.toList.count false

theorem toCome_some {l : Array Bool} {i : Nat} (h : l.getD i true = false) : ∃ hi : i < l.size, l[i] = false := by
  rcases Nat.lt_or_ge i l.size with hi | hi
  · refine ⟨hi, ?_⟩
    simpa [hi] using h
  · simp [Array.getElem?_eq_none hi] at h

theorem toCome_set {l : Array Bool} {i : Nat} (h : l.getD i true = false) : toCome (l.setIfInBounds i true) + 1 = toCome l := by
  obtain ⟨hi, he⟩ := toCome_some h
  unfold toCome
  have hi' : i < l.toList.length := by simpa using hi
  have he' : l.toList[i] = false := by simpa using he
  have hpos : 0 < l.toList.count false := List.count_pos_iff.2 (by rw [← he']; exact List.getElem_mem hi')
  rw [Array.toList_setIfInBounds, List.count_set hi', he']
  rw [if_pos (by rfl), if_neg (by decide)]
  omega

theorem toCome_none {l : Array Bool} (h : toCome l = 0) {i : Nat} : l.getD i true ≠ false := fun hf => by
  have := toCome_set hf
  omega

theorem wpAny_inv (Inv : Array Bool → Act → World → Prop)
    (hstep : ∀ listed a w, Inv listed a w → ∀ i ∈ Region.ready md ops listed, wpOp P ops Q i (Inv (listed.setIfInBounds i true)) a w)
    (hend : ∀ listed a w, Inv listed a w → Region.ready md ops listed = [] → Q .normal a w) :
    ∀ (fuel : Nat) (listed : Array Bool) (a : Act) (w : World), toCome listed ≤ fuel → Inv listed a w → wpAny P md ops Q fuel listed a w
  | 0, listed, a, w, hf, hI => by
    have hr : Region.ready md ops listed = [] := by
      cases hc : Region.ready md ops listed with
      | nil => rfl
      | cons j rs => exact absurd (mem_ready.1 (hc ▸ List.mem_cons_self : j ∈ Region.ready md ops listed)).1 (toCome_none (by omega))
    exact ⟨hr, hend _ _ _ hI hr⟩
  | fuel + 1, listed, a, w, hf, hI => by
    refine ⟨fun hr => hend _ _ _ hI hr, fun i hi => wpOp_mono (fun a' w' h => ?_) (hstep _ _ _ hI i hi)⟩
    have := toCome_set (mem_ready.1 hi).1
    exact wpAny_inv Inv hstep hend fuel _ a' w' (by omega) h

/-- Where each operation comes behind operations of lesser numbers alone, none is ready only when all have come. -/
theorem all_come {listed : Array Bool} (hb : ∀ (i : Nat) (o : Oper), ops[i]? = some o → ∀ e ∈ o.after, e.on < i) (hs : listed.size = ops.size) (hr : Region.ready md ops listed = []) :
    ∀ (n i : Nat), i < n → i < ops.size → listed.getD i false = true
  | 0, i, h, _ => by omega
  | n + 1, i, h, hi => by
    have ih := all_come hb hs hr n
    cases hc : listed.getD i false with
    | true => rfl
    | false =>
      exfalso
      have hm : i ∈ Region.ready md ops listed := by
        refine mem_ready.2 ⟨?_, ops[i], Array.getElem?_eq_getElem hi, fun e he _ => ?_⟩
        · have hi' : i < listed.size := by omega
          simpa [hi'] using hc
        · have := hb i _ (Array.getElem?_eq_getElem hi) e he
          exact ih e.on (by omega) (by omega)
      rw [hr] at hm
      cases hm

/-- The region: an invariant that holds at its start and that each operation, once those it waits for have come, keeps. -/
theorem region_inv {id : Nat} {a : Act} {w : World} (hm : P.follows .mixedOrders = true) (Inv : Array Bool → Act → World → Prop)
    (h0 : Inv (Array.replicate ops.size false) a { w with drawn := w.drawn + 1 })
    (hb : ∀ (i : Nat) (o : Oper), ops[i]? = some o → ∀ e ∈ o.after, e.on < i)
    (hsize : ∀ listed a w, Inv listed a w → listed.size = ops.size)
    (hstep : ∀ listed a w, Inv listed a w → ∀ (i : Nat) (o : Oper), ops[i]? = some o → listed.getD i true = false → (∀ e ∈ o.after, Region.binds .any e = true → listed.getD e.on false = true) →
      wpOp P ops Q i (Inv (listed.setIfInBounds i true)) a w)
    (hend : ∀ listed a w, Inv listed a w → (∀ i, i < ops.size → listed.getD i false = true) → Q .normal a w) : (Code.region id ops true).wp P Q a w := by
  refine wp_region_any hm (wpAny_inv Inv (fun listed a w hI i hi => ?_) (fun listed a w hI hr => ?_) _ _ _ _ ?_ h0)
  · obtain ⟨h1, o, h2, h3⟩ := mem_ready.1 hi
    exact hstep listed a w hI i o h2 h1 h3
  · exact hend listed a w hI fun i hi => all_come hb (hsize _ _ _ hI) hr (i + 1) i (by omega) hi
  · unfold toCome
    refine Nat.le_trans List.count_le_length ?_
    simp
end
end Go.Proofs.Ytgmlgjdibpphaaa
