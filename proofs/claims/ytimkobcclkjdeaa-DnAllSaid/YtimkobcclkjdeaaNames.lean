/- Names by numbers may be; their keys, and what is above them; no walk. -/
import Derived.Test.YtimkobcclkjdeaaMake
namespace Go.Proofs.Ytimkobcclkjdeaa
open Go.RowKit
set_option linter.unusedVariables false

theorem tName_ok (n : Nat) : okType (tName n) = true := by
  have h : n % 5 < 5 := Nat.mod_lt _ (by decide)
  unfold tName
  rcases (show n % 5 = 0 ∨ n % 5 = 1 ∨ n % 5 = 2 ∨ n % 5 = 3 ∨ n % 5 = 4 from by omega) with e | e | e | e | e <;> rw [e] <;> decide
theorem typR_ok (ns : List UInt8) (j : Nat) : okType (typR ns j) = true := by
  unfold typR
  split
  · exact tName_ok _
  · decide
theorem mkR_ok (vals : List ByteArray) (ns : List UInt8) (j : Nat) : okR (mkR vals ns j) = true := by
  unfold okR mkR
  simp only [Bool.and_eq_true, decide_eq_true_eq]
  refine ⟨⟨typR_ok ns j, rfl⟩, ?_⟩
  simp only [List.length_cons, List.length_take]
  omega
theorem fold_some {c : UInt8} {l : List UInt8} (h : c.toNat ≠ 32) : fold (c :: l) ≠ [] := by
  intro e
  have := nonb_fold (c :: l)
  rw [e] at this
  rw [show c :: l = [c] ++ l from rfl, nonb_append, nonb_one, if_neg h] at this
  simp [low, nonb] at this
theorem mkR_okF (vals : List ByteArray) (ns : List UInt8) (j : Nat) : okF (mkR vals ns j) = true := by
  unfold okF mkR
  cases h : fold (118 :: List.take 60 (vals.getD j ⟨#[]⟩).data.toList) with
  | nil => exact absurd h (fold_some (by decide))
  | cons x r => rfl
theorem makeL_all (vals : List ByteArray) (ns : List UInt8) : (makeL vals ns).all okR = true ∧ (makeL vals ns).all okF = true ∧ (makeL vals ns).length ≤ 5 := by
  unfold makeL makeN
  refine ⟨?_, ?_, by simp; omega⟩
  · rw [List.all_map, List.all_eq_true]; intro x hx; exact mkR_ok vals ns x
  · rw [List.all_map, List.all_eq_true]; intro x hx; exact mkR_okF vals ns x

theorem okL_part {l l' : List R} (hs : ∀ r ∈ l', r ∈ l) (hl : l'.length ≤ l.length) (h : okL l = true) : okL l' = true := by
  unfold okL at h ⊢
  simp only [Bool.and_eq_true, decide_eq_true_eq, List.all_eq_true] at h ⊢
  exact ⟨by omega, fun r hr => h.2 r (hs r hr)⟩
theorem all_part {l l' : List R} {p : R → Bool} (hs : ∀ r ∈ l', r ∈ l) (h : l.all p = true) : l'.all p = true := by
  rw [List.all_eq_true] at h ⊢; exact fun r hr => h r (hs r hr)
theorem makeL_ok (vals : List ByteArray) (ns : List UInt8) : okL (makeL vals ns) = true := by
  obtain ⟨h1, h2, h3⟩ := makeL_all vals ns
  unfold okL
  simp only [Bool.and_eq_true, decide_eq_true_eq]
  exact ⟨by omega, h1⟩

theorem up_drop {l : List R} (h : okL l = true) (i : Nat) (hi : i < l.length) : upD (textD (l.drop i)) = textD (l.drop (i + 1)) := by
  rw [List.drop_eq_getElem_cons hi]
  refine up_text ?_
  unfold okL at h
  simp only [Bool.and_eq_true, List.all_eq_true] at h
  have := h.2 _ (List.getElem_mem hi)
  unfold okR at this
  simp only [Bool.and_eq_true] at this
  exact this.1.1
theorem text_lt (r : R) (l : List R) : (textD l).length < (textD (r :: l)).length := by
  cases l with
  | nil => simp [textD, textR]; omega
  | cons x l => rw [text_cons]; simp; omega
theorem text_drop_lt (l : List R) : ∀ (i : Nat), i < l.length → (textD (l.drop (i + 1))).length < (textD (l.drop i)).length := by
  intro i hi
  rw [List.drop_eq_getElem_cons hi]
  exact text_lt _ _
theorem text_drop_lt0 (l : List R) : ∀ (i : Nat), i < l.length → (textD (l.drop (i + 1))).length < (textD l).length
  | 0, h => by have := text_drop_lt l 0 h; simpa using this
  | i + 1, h => Nat.lt_trans (text_drop_lt l (i + 1) h) (text_drop_lt0 l i (by omega))
theorem under_drop {l : List R} (h : okL l = true) : ∀ (i k : Nat), i + k ≤ l.length → underD (textD (l.drop i)) (textD (l.drop (i + k))) = true
  | i, 0, _ => by rw [Nat.add_zero]; exact under_self _
  | i, k + 1, hik => by
    by_cases e : textD (l.drop i) = textD (l.drop (i + (k + 1)))
    · rw [e]; exact under_self _
    · have hi : i < l.length := by omega
      have hne : textD (l.drop i) ≠ [] := by rw [List.drop_eq_getElem_cons hi]; exact text_ne
      rw [under_up e hne, up_drop h i hi]
      have := under_drop h (i + 1) k (by omega)
      rw [show i + (k + 1) = i + 1 + k from by omega]
      exact this

theorem esc_char (f g : Bool) (c x : UInt8) (hx : x ∈ escC f g c) : 32 ≤ x.toNat ∧ x.toNat ≤ 126 := by
  unfold escC at hx
  split at hx
  · have d1 := kind_dig (c.toNat / 16) (by have := c.toNat_lt; omega)
    have d2 := kind_dig (c.toNat % 16) (by omega)
    simp only [List.mem_cons, List.not_mem_nil, or_false] at hx
    rcases hx with rfl | rfl | rfl
    · decide
    · exact ⟨d1.2.2.2.2.2.1, d1.2.2.2.2.2.2⟩
    · exact ⟨d2.2.2.2.2.2.1, d2.2.2.2.2.2.2⟩
  · rename_i h0
    have hc : 32 ≤ c.toNat ∧ c.toNat ≤ 126 := by
      unfold kindC at h0
      split at h0
      · exact absurd rfl h0
      · rename_i h; omega
    split at hx
    · simp only [List.mem_cons, List.not_mem_nil, or_false] at hx
      rcases hx with rfl | rfl
      · decide
      · exact hc
    · simp only [List.mem_cons, List.not_mem_nil, or_false] at hx
      rw [hx]; exact hc
theorem escR_char : ∀ (v : List UInt8) (f : Bool) (x : UInt8), x ∈ escR f v → 32 ≤ x.toNat ∧ x.toNat ≤ 126
  | [], f, x, h => by simp [escR] at h
  | c :: r, f, x, h => by
    simp only [escR, List.mem_append] at h
    rcases h with h | h
    · exact esc_char _ _ _ _ h
    · exact escR_char r false x h
theorem textR_char {r : R} (h : okR r = true) (x : UInt8) (hx : x ∈ textR r) : 32 ≤ x.toNat ∧ x.toNat ≤ 126 := by
  unfold okR at h
  simp only [Bool.and_eq_true] at h
  unfold textR at hx
  simp only [List.mem_append, List.mem_cons] at hx
  rcases hx with hx | rfl | hx
  · have := typ_no x (List.all_eq_true.1 (okType_all h.1.1) x hx)
    omega
  · decide
  · exact escR_char _ _ _ hx
theorem text_char : ∀ (l : List R), l.all okR = true → ∀ x ∈ textD l, 32 ≤ x.toNat ∧ x.toNat ≤ 126
  | [], _, x, hx => by simp [textD] at hx
  | [r], h, x, hx => textR_char (by simpa using h) x hx
  | r :: y :: l, h, x, hx => by
    rw [List.all_cons, Bool.and_eq_true] at h
    rw [text_cons] at hx
    simp only [List.mem_append, List.mem_cons] at hx
    rcases hx with hx | rfl | hx
    · exact textR_char h.1 x hx
    · decide
    · exact text_char (y :: l) h.2 x hx
end Go.Proofs.Ytimkobcclkjdeaa
