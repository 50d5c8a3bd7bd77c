/- schema.sound: the walk. -/
import Derived.Test.YtjenbkdfbendlaaGreatDoorScOwn
import Derived.Test.YtjenbkdfbendlaaGreatDoorScVal
namespace Go.Proofs.YtjenbkdfbendlaaGreatDoor
open Go.RowKit
set_option linter.unusedVariables false

/-- An attribute in a block of its own. -/
def BoxA (w : World) (b : Nat) (x : ByteArray) (u : Value) : Prop := w.heap[b]? = some (.cells #[.string x, u] 40 (0, 0))
theorem BoxA.below {w w' : World} {b n : Nat} {x : ByteArray} {u : Value} (h : BoxA w b x u) (hb : Below n w w') (hn : b < n) : BoxA w' b x u := (hb.block b hn).trans h
theorem BoxA.cells {w : World} {b : Nat} {x : ByteArray} {u : Value} (h : BoxA w b x u) : w.cell? ⟨b, 0, none⟩ = some (.string x) ∧ w.cell? ⟨b, 1, none⟩ = some u := by
  unfold BoxA at h
  simp [World.cell?, h]
theorem boxA_new (w : World) (x : ByteArray) (u : Value) : BoxA (w.alloc (.cells #[.string x, u] 40)) w.heap.size x u := heap_alloc_new w _

theorem sound_err : ∀ {L A : List AT} {c : Int}, soundR A L = .error c → c ≠ 0
  | [], A, c, h => by simp [soundR] at h
  | a :: l, A, c, h => by
    simp only [soundR] at h
    cases e : canonD a.1 with
    | none => rw [e] at h; simp at h; omega
    | some t =>
      rw [e] at h
      simp only at h
      split at h
      · simp at h; omega
      · split at h
        · exact sound_err h
        · rename_i h2
          simp at h; omega
theorem sound_none {A l : List AT} {a : AT} (h : canonD a.1 = none) : soundR A (a :: l) = .error 17 := by simp [soundR, h]
theorem sound_twice {A l : List AT} {a : AT} {t : List UInt8} (h : canonD a.1 = some t) (h2 : hasS A t = true) : soundR A (a :: l) = .error 20 := by simp [soundR, h, h2]
theorem sound_vals {A l : List AT} {a : AT} {t : List UInt8} (h : canonD a.1 = some t) (h2 : hasS A t = false) (h3 : valsC t a.2 ≠ 0) : soundR A (a :: l) = .error (valsC t a.2) := by simp [soundR, h, h2, h3]
theorem sound_step {A l : List AT} {a : AT} {t : List UInt8} (h : canonD a.1 = some t) (h2 : hasS A t = false) (h3 : valsC t a.2 = 0) : soundR A (a :: l) = soundR (A ++ [(t, a.2)]) l := by simp [soundR, h, h2, h3]

def SoundW (w : World) (o : Except Int (List AT)) (e : Ending) (w' : World) : Prop := Below w.heap.size w w' ∧ match o with
  | .error c => e = .returned (.tuple #[.slice none 0 0, .int .i64 c])
  | .ok A => ∃ u, e = .returned (.tuple #[u, .int .i64 0]) ∧ OwnV w.heap.size w' u A

end Go.Proofs.YtjenbkdfbendlaaGreatDoor
