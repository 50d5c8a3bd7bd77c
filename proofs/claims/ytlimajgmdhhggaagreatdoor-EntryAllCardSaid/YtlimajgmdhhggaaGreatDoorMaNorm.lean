/- match.Norm, norms, Same, Less: the walks. -/
import Derived.Test.YtlimajgmdhhggaaGreatDoorMaNum
import Derived.OwnWalk
namespace Go.Proofs.YtlimajgmdhhggaaGreatDoor
open Go.RowKit
set_option linter.unusedVariables false

def saidP (o : Option (List UInt8)) : Value := match o with
  | some k => .tuple #[.string ⟨k.toArray⟩, .bool true]
  | none => .tuple #[.string ⟨#[]⟩, .bool false]
theorem self_arr (s : ByteArray) : (⟨s.data.toList.toArray⟩ : ByteArray) = s := by simp

set_option maxRecDepth 100000 in
set_option maxHeartbeats 4000000 in
theorem norm_any (t s : ByteArray) (w : World) (hw : LaidW w) :
    Calls Tryz.prog 134 #[.string t, .string s] w fun e w' => e = .returned (saidP (normD (ruleD t.data.toList) s.data.toList)) ∧ Below w.heap.size w w' := by
  have hr := fun w => rule_any t w
  generalize ruleD t.data.toList = r at hr ⊢
  have HR := Lib.hid hr
  clear hr
  have HW := Lib.hid hw
  clear hw
  by_cases h0 : s.data.toList = []
  · obtain ⟨e1, e2⟩ := bytes_nil h0
    have hv : normD r s.data.toList = none := by unfold normD; rw [if_pos (.inl h0)]
    have HV := Lib.hid hv
    clear hv h0
    go_enter Tryz.func134, Tryz.ntmps134
    go_wp2
    go_ret2
    exact ⟨by rw [HV.out]; rfl, Below.refl _ _⟩
  obtain ⟨e1, e2⟩ := bytes_some h0
  by_cases h100 : 100 < s.size
  · have t1 : decide ((100 : Int) < (s.size : Int)) = true := by simp; omega
    have hv : normD r s.data.toList = none := by unfold normD; rw [if_pos (.inr (by rw [bytes_len]; exact h100))]
    have HV := Lib.hid hv
    clear hv h0
    go_enter Tryz.func134, Tryz.ntmps134
    go_wp2
    go_ret2
    exact ⟨by rw [HV.out]; rfl, Below.refl _ _⟩
  have t1 : decide ((100 : Int) < (s.size : Int)) = false := by simp; omega
  have hd : normD r s.data.toList = if r = 1 then (if fold s.data.toList = [] then none else some (fold s.data.toList)) else if r = 2 then (if (numD s.data.toList).isSome then some s.data.toList else none)
      else if r = 3 then (match keyD s.data.toList with | some k => if k = [] then none else some k | none => none) else if r = 4 then some s.data.toList else none := by
    unfold normD; rw [if_neg (by rw [bytes_len]; rintro (h | h); exact h0 h; exact h100 h)]; rfl
  have HD := Lib.hid hd
  clear hd h0
  by_cases h1 : r = 1
  · subst h1
    have hf := fun w => fold_any trim_any s w (by omega)
    obtain ⟨F, hF⟩ : ∃ F : ByteArray, F = foldB s := ⟨_, rfl⟩
    have hFl : fold s.data.toList = F.data.toList := by rw [hF]; simp [foldB]
    rw [← hF] at hf
    have HF := Lib.hid hf
    have hD := HD.out
    rw [if_pos rfl, hFl] at hD
    clear hf hF hFl HD
    by_cases hne : F.data.toList = []
    · obtain ⟨n1, n2⟩ := bytes_nil hne
      rw [if_pos hne] at hD
      have hFe : F = ⟨#[]⟩ := bytes_ext hne
      have HD := Lib.hid hD
      have HFe := Lib.hid hFe
      clear hD hFe hne
      go_enter Tryz.func134, Tryz.ntmps134
      go_wp2_with (first | (go_at_call 161; refine (HR.out _).mono ?_; rintro e w1 ⟨rfl, hb1⟩; have HB := Lib.hid hb1; clear hb1) | (go_at_call 115; refine (HF.out _).mono ?_; rintro e w2 ⟨rfl, hb2⟩; have HB := Lib.hid (bthen HB.out hb2); clear hb2))
      go_ret2
      exact ⟨by rw [HD.out, HFe.out]; rfl, HB.out⟩
    · obtain ⟨n1, n2⟩ := bytes_some hne
      rw [if_neg hne] at hD
      have HD := Lib.hid hD
      clear hD hne
      go_enter Tryz.func134, Tryz.ntmps134
      go_wp2_with (first | (go_at_call 161; refine (HR.out _).mono ?_; rintro e w1 ⟨rfl, hb1⟩; have HB := Lib.hid hb1; clear hb1) | (go_at_call 115; refine (HF.out _).mono ?_; rintro e w2 ⟨rfl, hb2⟩; have HB := Lib.hid (bthen HB.out hb2); clear hb2))
      go_ret2
      exact ⟨by rw [HD.out]; simp [saidP], HB.out⟩
  have u1 : ((r : Int) == 1) = false := by simp; omega
  by_cases h2 : r = 2
  · subst h2
    have hn := fun w hw => number_any s (by omega) w hw
    have HN := Lib.hid hn
    clear hn u1 h1
    have hD : normD 2 s.data.toList = (if (numD s.data.toList).isSome = true then some s.data.toList else none) := (HD.out.trans (if_neg (by decide))).trans (if_pos rfl)
    clear HD
    cases hnum : numD s.data.toList with
    | none =>
      rw [hnum] at hD HN
      have HD := Lib.hid hD
      clear hD hnum
      go_enter Tryz.func134, Tryz.ntmps134
      go_wp2_with (first | (go_at_call 161; refine (HR.out _).mono ?_; rintro e w1 ⟨rfl, hb1⟩; have HB := Lib.hid hb1; clear hb1) | (go_at_call 162; refine (HN.out _ (HW.out.below HB.out)).mono ?_; rintro e w2 ⟨he, hb2⟩; simp only [numV] at he; subst he; have HB := Lib.hid (bthen HB.out hb2); clear hb2))
      go_ret2
      exact ⟨by rw [HD.out]; rfl, HB.out⟩
    | some v =>
      rw [hnum] at hD HN
      have HD := Lib.hid hD
      clear hD hnum
      have hcl := fun w => clone_any s w (by omega)
      have HCl := Lib.hid hcl
      clear hcl
      go_enter Tryz.func134, Tryz.ntmps134
      go_wp2_with (first | (go_at_call 161; refine (HR.out _).mono ?_; rintro e w1 ⟨rfl, hb1⟩; have HB := Lib.hid hb1; clear hb1) | (go_at_call 162; refine (HN.out _ (HW.out.below HB.out)).mono ?_; rintro e w2 ⟨he, hb2⟩; simp only [numV] at he; subst he; have HB := Lib.hid (bthen HB.out hb2); clear hb2) | (go_at_call 61; refine (HCl.out _).mono ?_; rintro e w3 ⟨rfl, hb3⟩; have HB := Lib.hid (bthen HB.out hb3); clear hb3))
      go_ret2
      exact ⟨by rw [HD.out]; simp [saidP], HB.out⟩
  have u2 : ((r : Int) == 2) = false := by simp; omega
  by_cases h3 : r = 3
  · subst h3
    have hk := fun w => key_any s (by omega) w
    have HK := Lib.hid hk
    clear hk u1 u2 h1 h2
    have hD : normD 3 s.data.toList = (match keyD s.data.toList with | some k => if k = [] then none else some k | none => none) := ((HD.out.trans (if_neg (by decide))).trans (if_neg (by decide))).trans (if_pos rfl)
    clear HD
    cases hkey : keyD s.data.toList with
    | none =>
      rw [hkey] at hD HK
      have HD := Lib.hid hD
      clear hD hkey
      go_enter Tryz.func134, Tryz.ntmps134
      go_wp2_with (first | (go_at_call 161; refine (HR.out _).mono ?_; rintro e w1 ⟨rfl, hb1⟩; have HB := Lib.hid hb1; clear hb1) | (go_at_call 79; refine (HK.out _).mono ?_; rintro e w2 ⟨he, hb2⟩; simp only [keyV] at he; subst he; have HB := Lib.hid (bthen HB.out hb2); clear hb2))
      go_ret2
      exact ⟨by rw [HD.out]; rfl, HB.out⟩
    | some k =>
      rw [hkey] at hD HK
      obtain ⟨K, hKB⟩ : ∃ K : ByteArray, K = ⟨k.toArray⟩ := ⟨_, rfl⟩
      have hKl : k = K.data.toList := by rw [hKB]
      have hk2 := HK.out
      simp only [keyV, ← hKB] at hk2
      have HK2 := Lib.hid hk2
      clear hk2 HK hkey hKB
      simp only at hD
      subst hKl
      by_cases hne : K.data.toList = []
      · obtain ⟨n1, n2⟩ := bytes_nil hne
        rw [if_pos hne] at hD
        have hFe : K = ⟨#[]⟩ := bytes_ext hne
        have HD := Lib.hid hD
        have HFe := Lib.hid hFe
        clear hD hFe hne
        go_enter Tryz.func134, Tryz.ntmps134
        go_wp2_with (first | (go_at_call 161; refine (HR.out _).mono ?_; rintro e w1 ⟨rfl, hb1⟩; have HB := Lib.hid hb1; clear hb1) | (go_at_call 79; refine (HK2.out _).mono ?_; rintro e w2 ⟨rfl, hb2⟩; have HB := Lib.hid (bthen HB.out hb2); clear hb2))
        go_ret2
        exact ⟨by rw [HD.out, HFe.out]; rfl, HB.out⟩
      · obtain ⟨n1, n2⟩ := bytes_some hne
        rw [if_neg hne] at hD
        have HD := Lib.hid hD
        clear hD hne
        go_enter Tryz.func134, Tryz.ntmps134
        go_wp2_with (first | (go_at_call 161; refine (HR.out _).mono ?_; rintro e w1 ⟨rfl, hb1⟩; have HB := Lib.hid hb1; clear hb1) | (go_at_call 79; refine (HK2.out _).mono ?_; rintro e w2 ⟨rfl, hb2⟩; have HB := Lib.hid (bthen HB.out hb2); clear hb2))
        go_ret2
        exact ⟨by rw [HD.out]; simp [saidP], HB.out⟩
  have u3 : ((r : Int) == 3) = false := by simp; omega
  have hD := HD.out
  rw [if_neg h1, if_neg h2, if_neg h3] at hD
  by_cases h4 : r = 4
  · subst h4
    rw [if_pos rfl] at hD
    have HD := Lib.hid hD
    have hcl := fun w => clone_any s w (by omega)
    have HCl := Lib.hid hcl
    clear hcl hD u1 u2 u3 h1 h2 h3
    go_enter Tryz.func134, Tryz.ntmps134
    go_wp2_with (first | (go_at_call 161; refine (HR.out _).mono ?_; rintro e w1 ⟨rfl, hb1⟩; have HB := Lib.hid hb1; clear hb1) | (go_at_call 61; refine (HCl.out _).mono ?_; rintro e w3 ⟨rfl, hb3⟩; have HB := Lib.hid (bthen HB.out hb3); clear hb3))
    go_ret2
    exact ⟨by rw [HD.out]; simp [saidP], HB.out⟩
  · rw [if_neg h4] at hD
    have u4 : ((r : Int) == 4) = false := by simp; omega
    have HD := Lib.hid hD
    clear hD h1 h2 h3 h4
    go_enter Tryz.func134, Tryz.ntmps134
    go_wp2_with (go_at_call 161; refine (HR.out _).mono ?_; rintro e w1 ⟨rfl, hb1⟩; have HB := Lib.hid hb1; clear hb1)
    go_ret2
    exact ⟨by rw [HD.out]; rfl, HB.out⟩

theorem saidP_some {x : List UInt8} {X : ByteArray} (h : X = ⟨x.toArray⟩) : saidP (some x) = .tuple #[.string X, .bool true] := by rw [h]; rfl
def normsV (o : Option (List UInt8)) (q : Option (List UInt8)) : Value := match o, q with
  | some x, some y => .tuple #[.string ⟨x.toArray⟩, .string ⟨y.toArray⟩, .bool true]
  | _, _ => .tuple #[.string ⟨#[]⟩, .string ⟨#[]⟩, .bool false]

set_option maxRecDepth 100000 in
set_option maxHeartbeats 4000000 in
theorem norms_any (t a b : ByteArray) (w : World) (hw : LaidW w) :
    Calls Tryz.prog 95 #[.string t, .string a, .string b] w fun e w' => e = .returned (normsV (normD (ruleD t.data.toList) a.data.toList) (normD (ruleD t.data.toList) b.data.toList)) ∧ Below w.heap.size w w' := by
  have ha := fun w hw => norm_any t a w hw
  have hb := fun w hw => norm_any t b w hw
  generalize normD (ruleD t.data.toList) a.data.toList = p at ha ⊢
  generalize normD (ruleD t.data.toList) b.data.toList = q at hb ⊢
  have HW := Lib.hid hw
  clear hw
  cases p with
  | none =>
    have HA := Lib.hid ha
    clear ha hb
    go_enter Tryz.func95, Tryz.ntmps95
    go_wp2_with (go_at_call 134; refine (HA.out _ HW.out).mono ?_; rintro e w1 ⟨he, hb1⟩; simp only [saidP] at he; subst he; have HB := Lib.hid hb1; clear hb1)
    go_ret3
    exact ⟨rfl, HB.out⟩
  | some x =>
    obtain ⟨X, hX⟩ : ∃ X : ByteArray, X = ⟨x.toArray⟩ := ⟨_, rfl⟩
    simp only [saidP_some hX] at ha
    have HA := Lib.hid ha
    clear ha
    cases q with
    | none =>
      have HQ := Lib.hid hb
      clear hb hX
      have tok : True := trivial
      go_enter Tryz.func95, Tryz.ntmps95
      go_wp2_with (go_at_call 134; first | (have _t := tok; refine (HA.out _ HW.out).mono ?_; rintro e w1 ⟨rfl, hb1⟩; have HB := Lib.hid hb1; clear hb1 tok) | (refine (HQ.out _ (HW.out.below HB.out)).mono ?_; rintro e w2 ⟨he, hb2⟩; simp only [saidP] at he; subst he; have HB := Lib.hid (bthen HB.out hb2); clear hb2))
      go_ret3
      exact ⟨rfl, HB.out⟩
    | some y =>
      obtain ⟨Y, hY⟩ : ∃ Y : ByteArray, Y = ⟨y.toArray⟩ := ⟨_, rfl⟩
      simp only [saidP_some hY] at hb
      have hv : normsV (some x) (some y) = .tuple #[.string X, .string Y, .bool true] := by rw [hX, hY]; rfl
      rw [hv]
      have HQ := Lib.hid hb
      clear hb hX hY hv
      have tok : True := trivial
      go_enter Tryz.func95, Tryz.ntmps95
      go_wp2_with (go_at_call 134; first | (have _t := tok; refine (HA.out _ HW.out).mono ?_; rintro e w1 ⟨rfl, hb1⟩; have HB := Lib.hid hb1; clear hb1 tok) | (refine (HQ.out _ (HW.out.below HB.out)).mono ?_; rintro e w2 ⟨rfl, hb2⟩; have HB := Lib.hid (bthen HB.out hb2); clear hb2))
      go_ret3
      exact ⟨rfl, HB.out⟩
end Go.Proofs.YtlimajgmdhhggaaGreatDoor
