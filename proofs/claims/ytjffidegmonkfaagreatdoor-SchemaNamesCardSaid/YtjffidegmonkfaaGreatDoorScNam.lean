/- SchemaNames: the walk. -/
import Derived.Test.YtjffidegmonkfaaGreatDoorScPer
import Derived.Test.YtjffidegmonkfaaGreatDoorRefTextW
import Derived.Test.YtjffidegmonkfaaGreatDoorMaCasesW
namespace Go.Proofs.YtjffidegmonkfaaGreatDoor
open Go.RowKit
set_option linter.unusedVariables false

theorem fstep_pre (st : List UInt8 × Bool) (c : UInt8) : st.1 <+: (fstep st c).1 := by
  by_cases h : c.toNat = 32
  · rw [fstep_blank st c h]; exact List.prefix_refl _
  · rw [fstep_other st c h]; simp only [List.append_assoc]; exact List.prefix_append _ _
theorem fsteps_pre : ∀ (l : List UInt8) (st : List UInt8 × Bool), st.1 <+: (l.foldl fstep st).1
  | [], st => List.prefix_refl _
  | c :: l, st => (fstep_pre st c).trans (fsteps_pre l (fstep st c))
theorem fold_head {c : UInt8} {l : List UInt8} (h : c.toNat ≠ 32) : ∃ r, fold (c :: l) = lowC c :: r := by
  have := fsteps_pre l (fstep ([], false) c)
  rw [fstep_other _ c h] at this
  obtain ⟨r, hr⟩ := this
  exact ⟨r, by show (List.foldl fstep ([], false) (c :: l)).1 = _; rw [List.foldl_cons, fstep_other _ c h]; simpa using hr.symm⟩
theorem fold_bl (v : List UInt8) : fold (32 :: v) = fold v := by
  have := frun_ahead 1 v
  unfold fold
  rw [show (32 : UInt8) :: v = List.replicate 1 32 ++ v from rfl, this]
theorem fold_lw (l : List UInt8) : fold (low l) = fold l := by
  have := fold_round 0 l
  simpa using this
/-- The name's part, and the entry with it as a value. -/
def namV (s : List UInt8) : List UInt8 := 118 :: (s ++ [119])
def namD (s : List UInt8) : List UInt8 := textD [([67, 78], namV s), ([111], [120])]
def namL (s : List UInt8) : List AT := [([99, 110], [[111, 116, 104, 101, 114], 32 :: 32 :: low (namV s)]), ([111, 98, 106, 101, 99, 116, 99, 108, 97, 115, 115], [[112, 101, 114, 115, 111, 110]]), ([115, 110], [[115]])]
theorem nam_head (s : List UInt8) : ∃ r, fold (namV s) = 118 :: r := fold_head (c := 118) (by decide)
theorem nam_ne (s : List UInt8) : fold (namV s) ≠ [] := by obtain ⟨r, h⟩ := nam_head s; rw [h]; simp
theorem nam_parse (s : List UInt8) (h : s.length ≤ 30) : parseD (namD s) = some [([67, 78], namV s), ([111], [120])] := by
  refine parse_text _ ?_
  unfold okL
  simp only [Bool.and_eq_true, decide_eq_true_eq]
  refine ⟨by simp, ?_⟩
  rw [List.all_cons, List.all_cons, List.all_nil, Bool.and_true, Bool.and_eq_true]
  refine ⟨?_, by decide⟩
  unfold okR
  simp only [Bool.and_eq_true, decide_eq_true_eq]
  refine ⟨⟨by decide, by rfl⟩, by simp [namV]; omega⟩
theorem nam_key (s : List UInt8) (h : s.length ≤ 30) : ∃ k, keyD (namD s) = some k ∧ k ≠ [] := by
  rw [keyD_eq, nam_parse s h]
  simp only [Option.bind_some, keyL]
  rw [if_pos (by
    rw [List.all_cons, List.all_cons, List.all_nil, Bool.and_true, Bool.and_eq_true]
    refine ⟨?_, by decide⟩
    unfold okF
    have := nam_ne s
    simpa [List.isEmpty_iff] using this)]
  exact ⟨_, rfl, text_ne⟩
theorem nam_norm (s : List UInt8) (h : s.length ≤ 30) : normD 1 (namV s) = some (fold (namV s)) := normD_text (by simp [namV]) (by simp [namV]; omega) (nam_ne s)
theorem nam_norm2 (s : List UInt8) (h : s.length ≤ 30) : normD 1 (32 :: 32 :: low (namV s)) = some (fold (namV s)) := by
  have e : fold (32 :: 32 :: low (namV s)) = fold (namV s) := by rw [fold_bl, fold_bl, fold_lw]
  rw [normD_text (by simp) (by simp [namV, low_length]; omega) (by rw [e]; exact nam_ne s), e]
theorem nam_no (s : List UInt8) (h : s.length ≤ 30) : checkD (namD s) (perL [97, 110, 110]) = 64 := by
  obtain ⟨k, hk, hne⟩ := nam_key s h
  rw [check_behind hk hne (by simp [perL]) (show soundR [] (perL [97, 110, 110]) = .ok (perL [97, 110, 110]) from rfl)]
  unfold behindD
  rw [if_neg (by decide +kernel), if_pos]
  unfold namedD
  rw [nam_parse s h]
  simp only
  obtain ⟨r, hr⟩ := nam_head s
  rw [show (canonD [67, 78]).getD [] = [99, 110] from by decide, show valsS (perL [97, 110, 110]) [99, 110] = [[97, 110, 110]] from rfl, show ruleD [99, 110] = 1 from by decide, nam_norm s h, hr]
  simp only [List.any_cons, List.any_nil, Bool.or_false]
  rw [show normD 1 [97, 110, 110] = some [97, 110, 110] from by decide]
  simp [sameO]
theorem nam_sound (s : List UInt8) (h : s.length ≤ 30) : soundR [] (namL s) = .ok (namL s) := by
  obtain ⟨r, hr⟩ := nam_head s
  have hv : valsC [99, 110] [[111, 116, 104, 101, 114], 32 :: 32 :: low (namV s)] = 0 := by
    unfold valsC
    rw [if_neg (by simp [mostS]), show ruleD [99, 110] = 1 from by decide]
    have e : normsS 1 [[111, 116, 104, 101, 114], 32 :: 32 :: low (namV s)] = some [[111, 116, 104, 101, 114], 118 :: r] := by
      simp only [normsS]
      rw [show normD 1 [111, 116, 104, 101, 114] = some [111, 116, 104, 101, 114] from by decide, nam_norm2 s h, hr]
      rfl
    rw [e]
    simp
  unfold namL
  rw [sound_step (show canonD [99, 110] = some [99, 110] from by decide) rfl hv]
  generalize [[111, 116, 104, 101, 114], 32 :: 32 :: low (namV s)] = X
  rfl
theorem nam_is (s : List UInt8) (h : s.length ≤ 30) : checkD (namD s) (namL s) = 0 := by
  obtain ⟨k, hk, hne⟩ := nam_key s h
  rw [check_behind hk hne (by simp [namL]) (nam_sound s h)]
  have hc : classedD (namL s) = true := by
    unfold namL
    generalize 32 :: 32 :: low (namV s) = X
    rfl
  have hn : namedD (namL s) (namD s) = true := by
    unfold namedD
    rw [nam_parse s h]
    simp only
    rw [show (canonD [67, 78]).getD [] = [99, 110] from by decide, show valsS (namL s) [99, 110] = [[111, 116, 104, 101, 114], 32 :: 32 :: low (namV s)] from rfl, show ruleD [99, 110] = 1 from by decide, nam_norm s h]
    simp only [List.any_cons, List.any_nil, Bool.or_false]
    rw [nam_norm2 s h]
    simp [sameO]
  unfold behindD
  rw [hc, hn]
  rfl
end Go.Proofs.YtjffidegmonkfaaGreatDoor
