/- Names of entries: letters, folded texts, parts between commas: no program. -/
import Derived.WalkKit
namespace Go.Proofs.YtpnbcmblnplbgaaGreatDoor

theorem snoc_ind {α : Type} {P : List α → Prop} (h0 : P []) (hs : ∀ l c, P l → P (l ++ [c])) (l : List α) : P l := by
  have h : ∀ m : List α, P m.reverse := by
    intro m
    induction m with
    | nil => exact h0
    | cons c m ih => rw [List.reverse_cons]; exact hs _ _ ih
  have := h l.reverse
  rwa [List.reverse_reverse] at this

/-- A letter A to Z as a to z. -/
def lowC (c : UInt8) : UInt8 := if 65 ≤ c.toNat ∧ c.toNat ≤ 90 then UInt8.ofNat (c.toNat + 32) else c
def low (l : List UInt8) : List UInt8 := l.map lowC
def lowB (s : ByteArray) : ByteArray := ⟨(low s.data.toList).toArray⟩

theorem lowC_toNat (c : UInt8) : (lowC c).toNat = if 65 ≤ c.toNat ∧ c.toNat ≤ 90 then c.toNat + 32 else c.toNat := by
  unfold lowC; split
  · simp; omega
  · rfl
theorem lowC_blank (c : UInt8) : (lowC c).toNat = 32 ↔ c.toNat = 32 := by rw [lowC_toNat]; split <;> omega
theorem lowC_low (c : UInt8) : lowC (lowC c) = lowC c := by
  have h := lowC_toNat c
  unfold lowC
  by_cases h1 : 65 ≤ c.toNat ∧ c.toNat ≤ 90
  · rw [if_pos h1]
    have : (UInt8.ofNat (c.toNat + 32)).toNat = c.toNat + 32 := by simp; omega
    rw [if_neg (by omega)]
  · rw [if_neg h1, if_neg h1]
theorem low_length (l : List UInt8) : (low l).length = l.length := by simp [low]
theorem low_low (l : List UInt8) : low (low l) = low l := by simp [low, lowC_low]

/-- Fold: what has come out, and whether a blank waits. -/
def fstep (st : List UInt8 × Bool) (c : UInt8) : List UInt8 × Bool :=
  if c.toNat = 32 then (st.1, !st.1.isEmpty) else (st.1 ++ (if st.2 then [32] else []) ++ [lowC c], false)
def frun (l : List UInt8) : List UInt8 × Bool := l.foldl fstep ([], false)
def fold (l : List UInt8) : List UInt8 := (frun l).1
def foldB (s : ByteArray) : ByteArray := ⟨(fold s.data.toList).toArray⟩

theorem frun_snoc (l : List UInt8) (c : UInt8) : frun (l ++ [c]) = fstep (frun l) c := by simp [frun]
theorem frun_take (l : List UInt8) (j : Nat) (h : j < l.length) : frun (l.take (j + 1)) = fstep (frun (l.take j)) l[j] := by
  rw [List.take_succ_eq_append_getElem h, frun_snoc]
theorem fstep_low (st : List UInt8 × Bool) (c : UInt8) : fstep st (lowC c) = fstep st c := by
  unfold fstep
  by_cases h : c.toNat = 32
  · rw [if_pos ((lowC_blank c).2 h), if_pos h]
  · rw [if_neg (fun e => h ((lowC_blank c).1 e)), if_neg h, lowC_low]
theorem frun_low (l : List UInt8) : frun (low l) = frun l := by
  unfold frun low
  rw [List.foldl_map]
  congr 1
  funext st c
  exact fstep_low st c
theorem fold_low (l : List UInt8) : fold (low l) = fold l := by unfold fold; rw [frun_low]

theorem frun_len : ∀ l : List UInt8, (frun l).1.length + (if (frun l).2 then 1 else 0) ≤ l.length := by
  refine snoc_ind (by simp [frun]) ?_
  · intro l c ih
    rw [frun_snoc]
    unfold fstep
    split
    · simp only [List.length_append, List.length_singleton]
      split <;> split at ih <;> omega
    · simp only [List.length_append, List.length_singleton]
      split at ih <;> simp_all <;> omega
theorem fold_len (l : List UInt8) : (fold l).length ≤ l.length := by
  have := frun_len l; unfold fold; split at this <;> omega

/-- A waiting blank waits behind something. -/
theorem frun_gap : ∀ l : List UInt8, (frun l).2 = true → (frun l).1 ≠ [] := by
  refine snoc_ind (by simp [frun]) ?_
  · intro l c ih
    rw [frun_snoc]
    unfold fstep
    split
    · intro h e
      simp only [Bool.not_eq_true', List.isEmpty_eq_false_iff] at h
      exact h e
    · intro h; cases h

/-- A text parted at its first comma that is not behind a mark. -/
def cutD : List UInt8 → List UInt8 × List UInt8 × Bool
  | [] => ([], [], false)
  | c :: r =>
    if c.toNat = 44 then ([], r, true)
    else if c.toNat = 92 then
      match r with
      | [] => ([c], [], false)
      | x :: r' => (c :: x :: (cutD r').1, (cutD r').2.1, (cutD r').2.2)
    else (c :: (cutD r).1, (cutD r).2.1, (cutD r).2.2)

/-- Where the comma stands, from a place on. -/
def upD (l : List UInt8) : List UInt8 := (cutD l).2.1
def letC (c : UInt8) : Bool := decide (97 ≤ (lowC c).toNat) && decide ((lowC c).toNat ≤ 122)
def digC (c : UInt8) : Bool := decide (48 ≤ c.toNat) && decide (c.toNat ≤ 57)
def typC (c : UInt8) : Bool := letC c || digC c || decide (c.toNat = 45)
def okType (l : List UInt8) : Bool := !l.isEmpty && decide (l.length ≤ 30) && letC (l.headD 0) && l.all typC

end Go.Proofs.YtpnbcmblnplbgaaGreatDoor
