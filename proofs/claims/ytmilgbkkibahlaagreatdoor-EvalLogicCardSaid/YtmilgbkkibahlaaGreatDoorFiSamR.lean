/- The document's SameFilter: the walk. -/
import Derived.Test.YtmilgbkkibahlaaGreatDoorFiAsk
import Derived.Test.YtmilgbkkibahlaaGreatDoorEnSame
import Derived.Deep.RegionHeld3
namespace Go.Proofs.YtmilgbkkibahlaaGreatDoor
open Go.RowKit
set_option linter.unusedVariables false
set_option linter.unusedSimpArgs false

/-- Are two filters one? -/
noncomputable def sameFT (f g : FT) : Bool := @decide (f = g) (Classical.propDecidable _)
theorem sameFT_pos {f g : FT} (h : f = g) : sameFT f g = true := @decide_eq_true _ (Classical.propDecidable _) h
theorem sameFT_neg {f g : FT} (h : ¬ f = g) : sameFT f g = false := @decide_eq_false _ (Classical.propDecidable _) h
mutual
/-- Its parts are few. -/
def fewP : FT → Prop
  | .mk _ _ _ p l => p.length ≤ 1000000 ∧ fewPs l
def fewPs : List FT → Prop
  | [] => True
  | f :: l => fewP f ∧ fewPs l
end
theorem fewPs_at : ∀ {l : List FT}, fewPs l → ∀ f ∈ l, fewP f
  | g :: l, ⟨h1, h2⟩, f, hf => by
    rcases List.mem_cons.1 hf with rfl | hf
    · exact h1
    · exact fewPs_at h2 f hf
theorem fewPs_mk : ∀ {l : List FT}, (∀ f ∈ l, fewP f) → fewPs l
  | [], _ => trivial
  | g :: l, h => ⟨h g (by simp), fewPs_mk fun f hf => h f (by simp [hf])⟩
theorem few_may : ∀ (d : Nat) (f : FT), mayF d f = true → fewP f
  | 0, _, h => by cases h
  | d + 1, .mk k t v p l, h => by
    have h' : (if holdsC k then t.isEmpty && v.isEmpty && p.isEmpty && kidsC k l.length && l.all (mayF d) else okLeaf k t v p l.length) = true := h
    split at h'
    · simp only [Bool.and_eq_true] at h'
      obtain ⟨⟨⟨_, hp⟩, _⟩, hl⟩ := h'
      have : p = [] := by cases p <;> simp_all
      subst this
      exact ⟨by simp, fewPs_mk fun f hf => few_may d f (List.all_eq_true.1 hl f hf)⟩
    · unfold okLeaf at h'
      simp only [Bool.and_eq_true, decide_eq_true_eq] at h'
      obtain ⟨⟨_, hl⟩, hp⟩ := h'
      have hl0 : l = [] := List.eq_nil_of_length_eq_zero hl
      subst hl0
      refine ⟨?_, trivial⟩
      split at hp
      · simp only [Bool.and_eq_true] at hp
        have : p = [] := by cases p <;> simp_all
        subst this; simp
      · split at hp
        · unfold okParts at hp
          simp only [Bool.and_eq_true, decide_eq_true_eq] at hp
          omega
        · split at hp
          · simp only [Bool.and_eq_true] at hp
            have : p = [] := by cases p <;> simp_all
            subst this; simp
          · cases hp
/-- What has been made since. -/
def SamB (w0 : World) (W : World) : Prop := Below w0.heap.size w0 W
theorem SamB.cell {w0 W W' : World} (h : SamB w0 W) (hb : Below W.heap.size W W') {b o : Nat} {x : Value} (hl : b < w0.heap.size) (hc : w0.cell? ⟨b, o, none⟩ = some x) : W'.cell? ⟨b, o, none⟩ = some x :=
  ((bthen h hb).cell (p := ⟨b, o, none⟩) hl).trans hc
theorem SamB.size {w0 W : World} (h : SamB w0 W) : w0.heap.size ≤ W.heap.size := Below.size h
theorem SamB.cell' {w0 W : World} (h : SamB w0 W) {p : Addr} (hp : p.block < w0.heap.size) : W.cell? p = w0.cell? p := Below.cell h hp
theorem SamB.go {w0 W W' : World} (h : SamB w0 W) (hb : Below W.heap.size W W') : SamB w0 W' := bthen h hb
end Go.Proofs.YtmilgbkkibahlaaGreatDoor
