/- SchemaFirst: what is wrong first; no program. -/
import Derived.Test.YtjffidegmonkfaaGreatDoorScPer
import Derived.Test.YtjffidegmonkfaaGreatDoorMaCasesW
namespace Go.Proofs.YtjffidegmonkfaaGreatDoor
open Go.RowKit
set_option linter.unusedVariables false

theorem fstep_pre2 (st : List UInt8 × Bool) (c : UInt8) : st.1 <+: (fstep st c).1 := by
  by_cases h : c.toNat = 32
  · rw [fstep_blank st c h]; exact List.prefix_refl _
  · rw [fstep_other st c h]; simp only [List.append_assoc]; exact List.prefix_append _ _
theorem fsteps_pre2 : ∀ (l : List UInt8) (st : List UInt8 × Bool), st.1 <+: (l.foldl fstep st).1
  | [], st => List.prefix_refl _
  | c :: l, st => (fstep_pre2 st c).trans (fsteps_pre2 l (fstep st c))
theorem fold_head2 {c : UInt8} {l : List UInt8} (h : c.toNat ≠ 32) : ∃ r, fold (c :: l) = lowC c :: r := by
  have := fsteps_pre2 l (fstep ([], false) c)
  rw [fstep_other _ c h] at this
  obtain ⟨r, hr⟩ := this
  exact ⟨r, by show (List.foldl fstep ([], false) (c :: l)).1 = _; rw [List.foldl_cons, fstep_other _ c h]; simpa using hr.symm⟩

def codeL : List Int := [17, 19, 21, 19, 20, 20]
def badL : List AT := [([110, 111, 110, 101], [[120]]), ([100, 101, 115, 99, 114, 105, 112, 116, 105, 111, 110], []), ([117, 105, 100, 110, 117, 109, 98, 101, 114], [[120]]), ([117, 105, 100, 110, 117, 109, 98, 101, 114], [[49], [50]]), ([109, 97, 105, 108], [[97], [65, 32]]), ([67, 78], [[122]])]
def othD : List UInt8 := [99, 110, 61, 111, 116, 104, 101, 114]
/-- A person's name: p, and what is behind. -/
def pName (d : List UInt8) : List UInt8 := 112 :: d
theorem p_norm (d : List UInt8) (h : d.length ≤ 90) : ∃ r, normD 1 (pName d) = some (112 :: r) := by
  obtain ⟨r, hr⟩ := fold_head2 (c := 112) (l := d) (by decide)
  have hr2 : fold (pName d) = 112 :: r := hr
  exact ⟨r, by rw [normD_text (by simp [pName]) (by simp [pName]; omega) (by rw [hr2]; simp), hr2]⟩
theorem p_vals (d : List UInt8) (h : d.length ≤ 90) : valsC [99, 110] [pName d] = 0 := by
  obtain ⟨r, hr⟩ := p_norm d h
  unfold valsC
  rw [if_neg (by simp [mostS]), show ruleD [99, 110] = 1 from by decide]
  have e : normsS 1 [pName d] = some [112 :: r] := by
    simp only [normsS]
    rw [hr]
    rfl
  rw [e]
  simp
theorem p_step (d : List UInt8) (h : d.length ≤ 90) (l : List AT) : soundR [] (([99, 110], [pName d]) :: l) = soundR [([99, 110], [pName d])] l :=
  sound_step (show canonD [99, 110] = some [99, 110] from by decide) rfl (p_vals d h)
theorem fst_sound (d : List UInt8) (h : d.length ≤ 90) (k : Nat) (hk : k < badL.length) (hk2 : k < codeL.length) (l : List AT) : soundR [] (([99, 110], [pName d]) :: badL[k] :: l) = .error codeL[k] := by
  rw [p_step d h]
  generalize pName d = X
  match k, hk, hk2 with
  | 0, _, _ => exact sound_none (show canonD [110, 111, 110, 101] = none from by decide)
  | 1, _, _ => exact (sound_vals (a := ([100, 101, 115, 99, 114, 105, 112, 116, 105, 111, 110], [])) (t := [100, 101, 115, 99, 114, 105, 112, 116, 105, 111, 110]) (by decide) rfl (by decide +kernel)).trans (congrArg Except.error (show valsC [100, 101, 115, 99, 114, 105, 112, 116, 105, 111, 110] [] = 19 by decide +kernel))
  | 2, _, _ => exact (sound_vals (a := ([117, 105, 100, 110, 117, 109, 98, 101, 114], [[120]])) (t := [117, 105, 100, 110, 117, 109, 98, 101, 114]) (by decide) rfl (by decide +kernel)).trans (congrArg Except.error (show valsC [117, 105, 100, 110, 117, 109, 98, 101, 114] [[120]] = 21 by decide +kernel))
  | 3, _, _ => exact (sound_vals (a := ([117, 105, 100, 110, 117, 109, 98, 101, 114], [[49], [50]])) (t := [117, 105, 100, 110, 117, 109, 98, 101, 114]) (by decide) rfl (by decide +kernel)).trans (congrArg Except.error (show valsC [117, 105, 100, 110, 117, 109, 98, 101, 114] [[49], [50]] = 19 by decide +kernel))
  | 4, _, _ => exact (sound_vals (a := ([109, 97, 105, 108], [[97], [65, 32]])) (t := [109, 97, 105, 108]) (by decide) rfl (by decide +kernel)).trans (congrArg Except.error (show valsC [109, 97, 105, 108] [[97], [65, 32]] = 20 by decide +kernel))
  | 5, _, _ => exact sound_twice (show canonD [67, 78] = some [99, 110] from by decide) rfl
theorem oth_key : keyD othD = some [99, 110, 61, 111, 116, 104, 101, 114] := by decide +kernel
theorem fst_x (d : List UInt8) (h : d.length ≤ 90) (k m : Nat) (hk : k < badL.length) (hk2 : k < codeL.length) (hm : m < badL.length) : checkD othD [([99, 110], [pName d]), badL[k], badL[m]] = codeL[k] :=
  check_sound oth_key (by simp) (by simp) (fst_sound d h k hk hk2 _)
theorem fst_y (L : List AT) : checkD [99, 110] L = 34 := check_none (by decide +kernel)
def ouA : AT := ([111, 117], [[97]])
theorem fst_z (d : List UInt8) (h : d.length ≤ 90) : checkD othD (perL (pName d) ++ [ouA]) = 65 := by
  have hs : soundR [] (perL (pName d) ++ [ouA]) = .ok (perL (pName d) ++ [ouA]) := by
    show soundR [] (([99, 110], [pName d]) :: _) = _
    rw [p_step d h]
    show _ = Except.ok (([99, 110], [pName d]) :: _)
    generalize pName d = X
    rfl
  rw [check_behind oth_key (by simp) (by simp [perL, ouA]) hs]
  unfold behindD
  rw [if_pos]
  generalize pName d = X
  rfl
theorem fst_e (d : List UInt8) (h : d.length ≤ 90) : checkD othD (perL (pName d)) = 64 := by
  have hs : soundR [] (perL (pName d)) = .ok (perL (pName d)) := by
    show soundR [] (([99, 110], [pName d]) :: _) = _
    rw [p_step d h]
    show _ = Except.ok (([99, 110], [pName d]) :: _)
    generalize pName d = X
    rfl
  rw [check_behind oth_key (by simp) (by simp [perL]) hs]
  unfold behindD
  have hc : classedD (perL (pName d)) = true := by generalize pName d = X; rfl
  rw [hc, if_neg (by simp), if_pos]
  unfold namedD
  rw [show parseD othD = some [([99, 110], [111, 116, 104, 101, 114])] from by decide +kernel]
  simp only
  obtain ⟨r, hr⟩ := p_norm d h
  rw [show (canonD [99, 110]).getD [] = [99, 110] from by decide, show valsS (perL (pName d)) [99, 110] = [pName d] from rfl, show ruleD [99, 110] = 1 from by decide]
  simp only [List.any_cons, List.any_nil, Bool.or_false]
  rw [hr, show normD 1 [111, 116, 104, 101, 114] = some [111, 116, 104, 101, 114] from by decide]
  simp [sameO]
end Go.Proofs.YtjffidegmonkfaaGreatDoor
