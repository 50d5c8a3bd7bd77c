/- StripRuns: a strip as the document has it, and how the program's stands to it. No walk. -/
import Derived.Test.YtgmlgjdibpphaaaStFall
namespace Go.Proofs.Ytgmlgjdibpphaaa
open Go.RowKit
set_option linter.unusedVariables false
set_option linter.unusedSimpArgs false

/-- The document's strip. -/
structure Dt where
  sf : List Blk
  lo : List (Nat × Blk)
  left : Nat
  off : Bool
def applyB (s : List Blk) (L : List (Nat × Blk)) : List Blk := L.foldl (fun b c => b.set c.1 c.2) s
def wasL : List Blk → List (Nat × Blk) → List (Nat × Blk)
  | _, [] => []
  | s, c :: L => (c.1, s.getD c.1 []) :: wasL (s.set c.1 c.2) L
theorem applyB_cons (s : List Blk) (c : Nat × Blk) (L : List (Nat × Blk)) : applyB s (c :: L) = applyB (s.set c.1 c.2) L := rfl
theorem applyB_snoc (s : List Blk) (c : Nat × Blk) (L : List (Nat × Blk)) : applyB s (L ++ [c]) = (applyB s L).set c.1 c.2 := by simp [applyB]
theorem applyB_app (s : List Blk) (L M : List (Nat × Blk)) : applyB s (L ++ M) = applyB (applyB s L) M := by simp [applyB]
theorem applyB_len : ∀ (L : List (Nat × Blk)) (s : List Blk), (applyB s L).length = s.length
  | [], _ => rfl
  | c :: L, s => by rw [applyB_cons, applyB_len L, List.length_set]
theorem wasL_len : ∀ (L : List (Nat × Blk)) (s : List Blk), (wasL s L).length = L.length
  | [], _ => rfl
  | c :: L, s => by simp [wasL, wasL_len L]
theorem wasL_app : ∀ (L M : List (Nat × Blk)) (s : List Blk), wasL s (L ++ M) = wasL s L ++ wasL (applyB s L) M
  | [], _, _ => rfl
  | c :: L, M, s => by simp [wasL, wasL_app L, applyB_cons]
theorem wasL_drop : ∀ (k : Nat) (L : List (Nat × Blk)) (s : List Blk), (wasL s L).drop k = wasL (applyB s (L.take k)) (L.drop k)
  | 0, L, s => rfl
  | k + 1, [], s => by simp [wasL]
  | k + 1, c :: L, s => by simp [wasL, wasL_drop k L, applyB_cons]
theorem set_back (s : List Blk) (i : Nat) (x : Blk) (h : i < s.length) : (s.set i x).set i (s.getD i []) = s := by
  rw [List.set_set, List.getD_eq_getElem?_getD, List.getElem?_eq_getElem h]
  exact List.set_getElem_self h
theorem back_apply : ∀ (L : List (Nat × Blk)) (s : List Blk), (∀ c ∈ L, c.1 < s.length) → backB (applyB s L) (wasL s L) = s
  | [], _, _ => rfl
  | c :: L, s, h => by
    have hc := h c (by simp)
    show (backB (applyB (s.set c.1 c.2) L) (wasL (s.set c.1 c.2) L)).set c.1 (s.getD c.1 []) = s
    rw [back_apply L _ (fun d hd => by rw [List.length_set]; exact h d (by simp [hd])), set_back s c.1 c.2 hc]
/-- What the document's fall leaves. -/
def fallD (s : List Blk) (L : List (Nat × Blk)) (k t : Nat) : List Blk := match L[k]? with
  | none => applyB s (L.take k)
  | some c => (applyB s (L.take k)).set c.1 (c.2.take t ++ ((applyB s (L.take k)).getD c.1 []).drop t)
theorem back_drop (s : List Blk) (L : List (Nat × Blk)) (k : Nat) (h : ∀ c ∈ L, c.1 < s.length) : backB (applyB s L) ((wasL s L).drop k) = applyB s (L.take k) := by
  rw [wasL_drop]
  have h2 := back_apply (L.drop k) (applyB s (L.take k)) (fun c hc => by rw [applyB_len]; exact h c (List.mem_of_mem_drop hc))
  rw [← applyB_app, List.take_append_drop] at h2
  exact h2
theorem wasL_at : ∀ (k : Nat) (L : List (Nat × Blk)) (s : List Blk), (wasL s L)[k]? = (L[k]?).map fun c => (c.1, (applyB s (L.take k)).getD c.1 [])
  | k, [], s => by simp [wasL]
  | 0, c :: L, s => by simp [wasL, applyB]
  | k + 1, c :: L, s => by simp [wasL, wasL_at k L, applyB_cons]
theorem fall_same (s : List Blk) (L : List (Nat × Blk)) (k t : Nat) (h : ∀ c ∈ L, c.1 < s.length) (hk : k ≤ L.length) : fallB (applyB s L) (wasL s L) k t = fallD s L k t := by
  unfold fallB fallD
  rw [wasL_at]
  cases hc : L[k]? with
  | none =>
    show backB (applyB s L) ((wasL s L).drop (k + 1)) = _
    rw [back_drop s L (k + 1) h]
    have hl := List.getElem?_eq_none_iff.1 hc
    show applyB s (L.take (k + 1)) = applyB s (L.take k)
    rw [List.take_of_length_le (by omega), List.take_of_length_le hl]
  | some c =>
    show (backB (applyB s L) ((wasL s L).drop (k + 1))).set c.1 (((backB (applyB s L) ((wasL s L).drop (k + 1))).getD c.1 []).take t ++ ((applyB s (L.take k)).getD c.1 []).drop t) = (applyB s (L.take k)).set c.1 (c.2.take t ++ ((applyB s (L.take k)).getD c.1 []).drop t)
    rw [back_drop s L (k + 1) h]
    obtain ⟨hkl, hce⟩ := List.getElem?_eq_some_iff.1 hc
    have e : L.take (k + 1) = L.take k ++ [c] := by rw [List.take_add_one, hc]; rfl
    have hlt : c.1 < (applyB s (L.take k)).length := by rw [applyB_len]; exact h c (List.mem_of_getElem? hc)
    rw [e, applyB_snoc, List.set_set]
    congr 2
    rw [List.getD_eq_getElem?_getD, List.getElem?_set_self hlt]
    rfl
/-- How the two stand to one another, behind n steps. -/
structure SimS (n : Nat) (S : St) (D : Dt) : Prop where
  bl : S.bl = applyB D.sf D.lo
  lo : S.lo = wasL D.sf D.lo
  dn : S.dn = D.off
  ok : ok32 D.sf
  okc : okC D.sf.length D.lo
  few : D.lo.length ≤ n
  most : D.sf.length ≤ 40
  c0 : 0 ≤ S.ch
  c1 : S.ch ≤ n
  left : (D.left : Int) = max 0 (S.cr - S.ch)
  up : D.off = false → S.cr ≤ 0 ∨ S.ch < S.cr
theorem SimS.len {n : Nat} {S : St} {D : Dt} (h : SimS n S D) : S.bl.length = D.sf.length := by rw [h.bl, applyB_len]
theorem SimS.lo_len {n : Nat} {S : St} {D : Dt} (h : SimS n S D) : S.lo.length = D.lo.length := by rw [h.lo, wasL_len]
theorem SimS.more {n m : Nat} {S : St} {D : Dt} (h : SimS n S D) (hm : n ≤ m) : SimS m S D :=
  ⟨h.bl, h.lo, h.dn, h.ok, h.okc, Nat.le_trans h.few hm, h.most, h.c0, by have := h.c1; omega, h.left, h.up⟩
theorem okC_apply {s : List Blk} {L : List (Nat × Blk)} (h : ok32 s) (hc : okC s.length L) : ok32 (applyB s L) := by
  revert s
  induction L with
  | nil => intro s h _; exact h
  | cons c L ih =>
    intro s h hc
    rw [applyB_cons]
    refine ih (ok32_set h _ _ (hc c (by simp)).2) fun d hd => ?_
    rw [List.length_set]
    exact hc d (by simp [hd])
/-- One more change. -/
theorem SimS.write {n : Nat} {S : St} {D : Dt} (h : SimS n S D) (hoff : D.off = false) (hq : S.ch + 1 ≠ S.cr) (i : Nat) (hi : i < D.sf.length) (hi2 : i < S.bl.length) (x : Blk) (hx : x.length = 32) (L : Nat) (hL : L = if 0 < D.left then D.left - 1 else 0) : SimS (n + 1) ⟨S.bl.set i x, S.lo ++ [(i, S.bl[i])], S.ch + 1, S.cr, false⟩ ⟨D.sf, D.lo ++ [(i, x)], L, false⟩ := by
  have h1 := h.left
  have h2 := h.up hoff
  have h3 := h.c0
  have h4 := h.c1
  refine ⟨?_, ?_, rfl, h.ok, fun c hc => ?_, ?_, h.most, ?_, ?_, ?_, fun _ => ?_⟩
  · show S.bl.set i x = _
    rw [applyB_snoc, h.bl]
  · show S.lo ++ [(i, S.bl[i])] = _
    rw [wasL_app, h.lo]
    have : (applyB D.sf D.lo).getD i [] = S.bl[i] := by
      rw [List.getD_eq_getElem?_getD, ← h.bl, List.getElem?_eq_getElem hi2]
      rfl
    simp only [wasL, this]
  · rcases List.mem_append.1 hc with hc | hc
    · exact h.okc c hc
    · obtain rfl := List.mem_singleton.1 hc
      exact ⟨hi, hx⟩
  · have := h.few
    simp; omega
  · show 0 ≤ S.ch + 1
    omega
  · show S.ch + 1 ≤ ((n + 1 : Nat) : Int)
    omega
  · show (L : Int) = max 0 (S.cr - (S.ch + 1))
    rw [hL]
    split <;> omega
  · show S.cr ≤ 0 ∨ S.ch + 1 < S.cr
    omega
theorem SimS.crash {n : Nat} {S : St} {D : Dt} (h : SimS n S D) (hq : S.ch + 1 = S.cr) : SimS (n + 1) ⟨S.bl, S.lo, S.ch + 1, S.cr, true⟩ ⟨D.sf, D.lo, 0, true⟩ := by
  have h3 := h.c0
  have h4 := h.c1
  have h5 := h.few
  refine ⟨h.bl, h.lo, rfl, h.ok, h.okc, by show D.lo.length ≤ _; omega, h.most, ?_, ?_, ?_, fun e => by cases e⟩
  · show 0 ≤ S.ch + 1
    omega
  · show S.ch + 1 ≤ ((n + 1 : Nat) : Int)
    omega
  · show ((0 : Nat) : Int) = max 0 (S.cr - (S.ch + 1))
    omega
/-- Whether the next change is the one that is not done. -/
theorem SimS.next {n : Nat} {S : St} {D : Dt} (h : SimS n S D) (hoff : D.off = false) : S.ch + 1 = S.cr ↔ D.left = 1 := by
  have h1 := h.left
  have h2 := h.up hoff
  have h3 := h.c0
  omega
theorem SimS.sync {n : Nat} {S : St} {D : Dt} (h : SimS n S D) (hoff : D.off = false) (hq : S.ch + 1 ≠ S.cr) (L : Nat) (hL : L = if 0 < D.left then D.left - 1 else 0) : SimS (n + 1) ⟨S.bl, [], S.ch + 1, S.cr, false⟩ ⟨applyB D.sf D.lo, [], L, false⟩ := by
  have h1 := h.left
  have h2 := h.up hoff
  have h3 := h.c0
  have h4 := h.c1
  refine ⟨h.bl, rfl, rfl, okC_apply h.ok h.okc, (fun c hc => absurd hc (by simp)), by simp, ?_, ?_, ?_, ?_, fun _ => ?_⟩
  · show (applyB D.sf D.lo).length ≤ 40
    rw [applyB_len]
    exact h.most
  · show 0 ≤ S.ch + 1
    omega
  · show S.ch + 1 ≤ ((n + 1 : Nat) : Int)
    omega
  · show (L : Int) = max 0 (S.cr - (S.ch + 1))
    rw [hL]
    split <;> omega
  · show S.cr ≤ 0 ∨ S.ch + 1 < S.cr
    omega
theorem SimS.tear {n : Nat} {S : St} {D : Dt} (h : SimS n S D) (c : Int) (hd : D.off = true → False ∨ True) : SimS (n + 1) ⟨S.bl, S.lo, 0, c, S.dn⟩ ⟨D.sf, D.lo, (max 0 c).toNat, D.off⟩ := by
  have h5 := h.few
  refine ⟨h.bl, h.lo, h.dn, h.ok, h.okc, by show D.lo.length ≤ _; omega, h.most, Int.le_refl _, by show (0 : Int) ≤ ((n + 1 : Nat) : Int); omega, ?_, fun _ => ?_⟩
  · show (((max 0 c).toNat : Nat) : Int) = max 0 (c - 0)
    omega
  · show c ≤ 0 ∨ (0 : Int) < c
    omega
theorem SimS.fall {n : Nat} {S : St} {D : Dt} (h : SimS n S D) (c : Int) (k t : Nat) (hk : k ≤ D.lo.length) (ht : t ≤ 32) (hok : ok32 (fallB S.bl S.lo k t)) : SimS (n + 1) ⟨fallB S.bl S.lo k t, [], 0, c, false⟩ ⟨fallD D.sf D.lo k t, [], (max 0 c).toNat, false⟩ := by
  have e : fallB S.bl S.lo k t = fallD D.sf D.lo k t := by rw [h.bl, h.lo]; exact fall_same _ _ _ _ (fun c hc => (h.okc c hc).1) hk
  refine ⟨e, rfl, rfl, e ▸ hok, (fun c hc => absurd hc (by simp)), by simp, ?_, Int.le_refl _, by show (0 : Int) ≤ ((n + 1 : Nat) : Int); omega, ?_, fun _ => ?_⟩
  · show (fallD D.sf D.lo k t).length ≤ 40
    rw [← e, fallB_len, h.len]
    exact h.most
  · show (((max 0 c).toNat : Nat) : Int) = max 0 (c - 0)
    omega
  · show c ≤ 0 ∨ (0 : Int) < c
    omega
end Go.Proofs.Ytgmlgjdibpphaaa
