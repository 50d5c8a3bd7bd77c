/- FilterSigns: what the law's two filters are, and their texts. No program. -/
import Derived.Test.YtdcfmgnpjmpboaaDoorFiRead
namespace Go.Proofs.YtdcfmgnpjmpboaaDoor
set_option linter.unusedVariables false
set_option linter.unusedSimpArgs false

/-- A sign of a text, no bracket. -/
def signC (c : UInt8) : Bool := decide (32 ≤ c.toNat) && decide (c.toNat ≤ 126) && c != 40 && c != 41
def quoSign (c : UInt8) : Bool := (quoC c).all signC
theorem quo_sign (v : List UInt8) : (quo v).all signC = true := by
  induction v with
  | nil => rfl
  | cons c r ih =>
    show (quoC c ++ quo r).all signC = true
    rw [List.all_append, ih, Bool.and_true]
    exact all_bytes quoSign (by decide +kernel) c
theorem quo_star0 (v : List UInt8) : (quo v).count 42 = 0 := List.count_eq_zero.2 (fun h => by
  have := List.all_eq_true.1 (quo_clean v) _ h
  revert this; decide)
theorem quoC_len3 (c : UInt8) : (quoC c).length ≤ 3 := by unfold quoC; split <;> simp
theorem quo_len3 : ∀ v : List UInt8, (quo v).length ≤ 3 * v.length
  | [] => by simp [quo]
  | c :: r => by
    have := quoC_len3 c
    have := quo_len3 r
    simp only [quo, List.length_append, List.length_cons]; omega
def sgF (s : List UInt8) : FT := .mk 4 [99, 110] s [] []
def sgG (s t : List UInt8) : FT := .mk 5 [99, 110] [] [s ++ [120], t] []
theorem okType_cn : okType [99, 110] = true := by decide +kernel
theorem sgF_may {s : List UInt8} (hs : s.length ≤ 90) : mayF 13 (sgF s) = true := by
  show (if holdsC 4 then _ else okLeaf 4 [99, 110] s [] 0) = true
  rw [if_neg (by decide)]
  unfold okLeaf
  rw [okType_cn, if_pos (by decide)]
  simp; omega
theorem sgG_may {s t : List UInt8} (hs : s.length ≤ 90) (ht : t.length ≤ 90) : mayF 13 (sgG s t) = true := by
  show (if holdsC 5 then _ else okLeaf 5 [99, 110] [] [s ++ [120], t] 0) = true
  rw [if_neg (by decide)]
  unfold okLeaf
  rw [okType_cn, if_neg (by decide), if_pos rfl]
  unfold okParts
  simp [midNe]
  omega
def inB (s t : List UInt8) : List UInt8 := 99 :: 110 :: 61 :: (quo (s ++ [120]) ++ 42 :: quo t)
theorem sgF_text (s : List UInt8) : textF (sgF s) = 40 :: 99 :: 110 :: 61 :: (quo s ++ [41]) := by
  show textF (.mk 4 [99, 110] s [] []) = _
  rw [textF]
  simp [signF, starJ, textFs]
theorem sgG_text (s t : List UInt8) : textF (sgG s t) = 40 :: (inB s t ++ [41]) := by
  show textF (.mk 5 [99, 110] [] [s ++ [120], t] []) = _
  rw [textF]
  simp [signF, starJ, textFs, quo, inB]
theorem inB_sign (s t : List UInt8) : (inB s t).all signC = true := by
  unfold inB
  simp only [List.all_cons, List.all_append, quo_sign, Bool.and_true, Bool.true_and]
  decide
theorem inB_star (s t : List UInt8) : (inB s t).count 42 = 1 := by
  unfold inB
  simp [List.count_cons, List.count_append, quo_star0]
/-- Each byte of the second text. -/
theorem sgG_at (s t : List UInt8) (j : Nat) (h : j < (40 :: (inB s t ++ [41])).length) : 32 ≤ (40 :: (inB s t ++ [41]))[j].toNat ∧ (40 :: (inB s t ++ [41]))[j].toNat ≤ 126 ∧ (0 < j → j + 1 < (40 :: (inB s t ++ [41])).length → (40 :: (inB s t ++ [41]))[j].toNat ≠ 40 ∧ (40 :: (inB s t ++ [41]))[j].toNat ≠ 41) := by
  obtain ⟨M, hM⟩ : ∃ M, M = inB s t := ⟨_, rfl⟩
  have hs := inB_sign s t
  simp only [← hM] at h hs ⊢
  cases j with
  | zero => exact ⟨(by decide : 32 ≤ (40 : UInt8).toNat), (by decide : (40 : UInt8).toNat ≤ 126), fun h => absurd h (Nat.lt_irrefl _)⟩
  | succ j =>
    simp only [List.getElem_cons_succ]
    by_cases hj : j < M.length
    · rw [List.getElem_append_left hj]
      have := List.all_eq_true.1 hs _ (List.getElem_mem hj)
      unfold signC at this
      simp only [Bool.and_eq_true, decide_eq_true_eq, bne_iff_ne, ne_eq] at this
      obtain ⟨⟨⟨h1, h2⟩, h3⟩, h4⟩ := this
      exact ⟨h1, h2, fun _ _ => ⟨fun e => h3 (UInt8.toNat_inj.1 e), fun e => h4 (UInt8.toNat_inj.1 e)⟩⟩
    · have hl : j = M.length := by simp at h; omega
      subst hl
      rw [List.getElem_append_right (Nat.le_refl _)]
      simp
theorem sgG_stars (s t : List UInt8) : (40 :: (inB s t ++ [41])).count 42 = 1 := by
  simp [List.count_cons, List.count_append, inB_star]
theorem count_step {l : List UInt8} {j : Nat} (h : j < l.length) : (l.take (j + 1)).count 42 = (l.take j).count 42 + (if l[j].toNat = 42 then 1 else 0) := by
  rw [List.take_succ_eq_append_getElem h, List.count_append]
  congr 1
  rw [List.count_cons, List.count_nil, Nat.zero_add]
  by_cases he : l[j] = 42
  · rw [he]; rfl
  · rw [if_neg (by simpa using he), if_neg (fun e => he (UInt8.toNat_inj.1 (e.trans (by decide : 42 = (42 : UInt8).toNat))))]
theorem sgG_len (s t : List UInt8) (hs : s.length ≤ 90) (ht : t.length ≤ 90) : (40 :: (inB s t ++ [41])).length ≤ 600 ∧ 6 ≤ (40 :: (inB s t ++ [41])).length := by
  have h1 := quo_len3 (s ++ [120])
  have h2 := quo_len3 t
  have h3 : (quo (s ++ [120])).length = (quo s).length + 1 := by rw [quo_append, List.length_append]; rfl
  have h4 := quo_len3 s
  unfold inB
  simp
  omega
end Go.Proofs.YtdcfmgnpjmpboaaDoor
