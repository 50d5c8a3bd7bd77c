/- Several texts in one file: MaNorm, MaSame, ScPure, ScOwn, ScRow, ScClass, ScFind. -/
import Derived.Test.YtpnbcmblnplbgaaGreatDoorChgP1
import Derived.OwnWalk
import Derived.Lib.Fields
import Derived.Lib.SlicesCompact
import Derived.Sort.KeysCollected
import Derived.Sort.OwnSorted
import Derived.BigQuiet
import Derived.Deep.RegionLaw
import Derived.Deep.RegionHeld3
namespace Go.Proofs.YtpnbcmblnplbgaaGreatDoor
open Go.RowKit
set_option linter.unusedVariables false

def saidP (o : Option (List UInt8)) : Value := match o with
  | some k => .tuple #[.string ⟨k.toArray⟩, .bool true]
  | none => .tuple #[.string ⟨#[]⟩, .bool false]
set_option maxRecDepth 100000 in
set_option maxHeartbeats 4000000 in
theorem norm_any (t s : ByteArray) (w : World) (hw : LaidW w) :
    Calls Tryz.prog 113 #[.string t, .string s] w fun e w' => e = .returned (saidP (normD (ruleD t.data.toList) s.data.toList)) ∧ Below w.heap.size w w' := by
  have hr := fun w => rule_any t w
  generalize ruleD t.data.toList = r at hr ⊢
  have HR := Lib.hid hr
  clear hr
  have HW := Lib.hid hw
  clear hw
  by_cases h0 : s.data.toList = []
  · obtain ⟨e1, e2⟩ := bytes_nil h0
    have hv : normD r s.data.toList = none := by unfold normD; rw [if_pos (.inl h0)]
    have HV := Lib.hid hv
    clear hv h0
    go_enter Tryz.func113, Tryz.ntmps113
    go_wp2
    go_ret2
    exact ⟨by rw [HV.out]; rfl, Below.refl _ _⟩
  obtain ⟨e1, e2⟩ := bytes_some h0
  by_cases h100 : 100 < s.size
  · have t1 : decide ((100 : Int) < (s.size : Int)) = true := by simp; omega
    have hv : normD r s.data.toList = none := by unfold normD; rw [if_pos (.inr (by rw [bytes_len]; exact h100))]
    have HV := Lib.hid hv
    clear hv h0
    go_enter Tryz.func113, Tryz.ntmps113
    go_wp2
    go_ret2
    exact ⟨by rw [HV.out]; rfl, Below.refl _ _⟩
  have t1 : decide ((100 : Int) < (s.size : Int)) = false := by simp; omega
  have hd : normD r s.data.toList = if r = 1 then (if fold s.data.toList = [] then none else some (fold s.data.toList)) else if r = 2 then (if (numD s.data.toList).isSome then some s.data.toList else none)
      else if r = 3 then (match keyD s.data.toList with | some k => if k = [] then none else some k | none => none) else if r = 4 then some s.data.toList else none := by
    unfold normD; rw [if_neg (by rw [bytes_len]; rintro (h | h); exact h0 h; exact h100 h)]; rfl
  have HD := Lib.hid hd
  clear hd h0
  by_cases h1 : r = 1
  · subst h1
    have hf := fun w => fold_any trim_any s w (by omega)
    obtain ⟨F, hF⟩ : ∃ F : ByteArray, F = foldB s := ⟨_, rfl⟩
    have hFl : fold s.data.toList = F.data.toList := by rw [hF]; simp [foldB]
    rw [← hF] at hf
    have HF := Lib.hid hf
    have hD := HD.out
    rw [if_pos rfl, hFl] at hD
    clear hf hF hFl HD
    by_cases hne : F.data.toList = []
    · obtain ⟨n1, n2⟩ := bytes_nil hne
      rw [if_pos hne] at hD
      have hFe : F = ⟨#[]⟩ := bytes_ext hne
      have HD := Lib.hid hD
      have HFe := Lib.hid hFe
      clear hD hFe hne
      go_enter Tryz.func113, Tryz.ntmps113
      go_wp2_with (first | (go_at_call 134; refine (HR.out _).mono ?_; rintro e w1 ⟨rfl, hb1⟩; have HB := Lib.hid hb1; clear hb1) | (go_at_call 81; refine (HF.out _).mono ?_; rintro e w2 ⟨rfl, hb2⟩; have HB := Lib.hid (bthen HB.out hb2); clear hb2))
      go_ret2
      exact ⟨by rw [HD.out, HFe.out]; rfl, HB.out⟩
    · obtain ⟨n1, n2⟩ := bytes_some hne
      rw [if_neg hne] at hD
      have HD := Lib.hid hD
      clear hD hne
      go_enter Tryz.func113, Tryz.ntmps113
      go_wp2_with (first | (go_at_call 134; refine (HR.out _).mono ?_; rintro e w1 ⟨rfl, hb1⟩; have HB := Lib.hid hb1; clear hb1) | (go_at_call 81; refine (HF.out _).mono ?_; rintro e w2 ⟨rfl, hb2⟩; have HB := Lib.hid (bthen HB.out hb2); clear hb2))
      go_ret2
      exact ⟨by rw [HD.out]; simp [saidP], HB.out⟩
  have u1 : ((r : Int) == 1) = false := by simp; omega
  by_cases h2 : r = 2
  · subst h2
    have hn := fun w hw => number_any s (by omega) w hw
    have HN := Lib.hid hn
    clear hn u1 h1
    have hD : normD 2 s.data.toList = (if (numD s.data.toList).isSome = true then some s.data.toList else none) := (HD.out.trans (if_neg (by decide))).trans (if_pos rfl)
    clear HD
    cases hnum : numD s.data.toList with
    | none =>
      rw [hnum] at hD HN
      have HD := Lib.hid hD
      clear hD hnum
      go_enter Tryz.func113, Tryz.ntmps113
      go_wp2_with (first | (go_at_call 134; refine (HR.out _).mono ?_; rintro e w1 ⟨rfl, hb1⟩; have HB := Lib.hid hb1; clear hb1) | (go_at_call 135; refine (HN.out _ (HW.out.below HB.out)).mono ?_; rintro e w2 ⟨he, hb2⟩; simp only [numV] at he; subst he; have HB := Lib.hid (bthen HB.out hb2); clear hb2))
      go_ret2
      exact ⟨by rw [HD.out]; rfl, HB.out⟩
    | some v =>
      rw [hnum] at hD HN
      have HD := Lib.hid hD
      clear hD hnum
      have hcl := fun w => clone_any s w (by omega)
      have HCl := Lib.hid hcl
      clear hcl
      go_enter Tryz.func113, Tryz.ntmps113
      go_wp2_with (first | (go_at_call 134; refine (HR.out _).mono ?_; rintro e w1 ⟨rfl, hb1⟩; have HB := Lib.hid hb1; clear hb1) | (go_at_call 135; refine (HN.out _ (HW.out.below HB.out)).mono ?_; rintro e w2 ⟨he, hb2⟩; simp only [numV] at he; subst he; have HB := Lib.hid (bthen HB.out hb2); clear hb2) | (go_at_call 63; refine (HCl.out _).mono ?_; rintro e w3 ⟨rfl, hb3⟩; have HB := Lib.hid (bthen HB.out hb3); clear hb3))
      go_ret2
      exact ⟨by rw [HD.out]; simp [saidP], HB.out⟩
  have u2 : ((r : Int) == 2) = false := by simp; omega
  by_cases h3 : r = 3
  · subst h3
    have hk := fun w => key_any s (by omega) w
    have HK := Lib.hid hk
    clear hk u1 u2 h1 h2
    have hD : normD 3 s.data.toList = (match keyD s.data.toList with | some k => if k = [] then none else some k | none => none) := ((HD.out.trans (if_neg (by decide))).trans (if_neg (by decide))).trans (if_pos rfl)
    clear HD
    cases hkey : keyD s.data.toList with
    | none =>
      rw [hkey] at hD HK
      have HD := Lib.hid hD
      clear hD hkey
      go_enter Tryz.func113, Tryz.ntmps113
      go_wp2_with (first | (go_at_call 134; refine (HR.out _).mono ?_; rintro e w1 ⟨rfl, hb1⟩; have HB := Lib.hid hb1; clear hb1) | (go_at_call 57; refine (HK.out _).mono ?_; rintro e w2 ⟨he, hb2⟩; simp only [keyV] at he; subst he; have HB := Lib.hid (bthen HB.out hb2); clear hb2))
      go_ret2
      exact ⟨by rw [HD.out]; rfl, HB.out⟩
    | some k =>
      rw [hkey] at hD HK
      obtain ⟨K, hKB⟩ : ∃ K : ByteArray, K = ⟨k.toArray⟩ := ⟨_, rfl⟩
      have hKl : k = K.data.toList := by rw [hKB]
      have hk2 := HK.out
      simp only [keyV, ← hKB] at hk2
      have HK2 := Lib.hid hk2
      clear hk2 HK hkey hKB
      simp only at hD
      subst hKl
      by_cases hne : K.data.toList = []
      · obtain ⟨n1, n2⟩ := bytes_nil hne
        rw [if_pos hne] at hD
        have hFe : K = ⟨#[]⟩ := bytes_ext hne
        have HD := Lib.hid hD
        have HFe := Lib.hid hFe
        clear hD hFe hne
        go_enter Tryz.func113, Tryz.ntmps113
        go_wp2_with (first | (go_at_call 134; refine (HR.out _).mono ?_; rintro e w1 ⟨rfl, hb1⟩; have HB := Lib.hid hb1; clear hb1) | (go_at_call 57; refine (HK2.out _).mono ?_; rintro e w2 ⟨rfl, hb2⟩; have HB := Lib.hid (bthen HB.out hb2); clear hb2))
        go_ret2
        exact ⟨by rw [HD.out, HFe.out]; rfl, HB.out⟩
      · obtain ⟨n1, n2⟩ := bytes_some hne
        rw [if_neg hne] at hD
        have HD := Lib.hid hD
        clear hD hne
        go_enter Tryz.func113, Tryz.ntmps113
        go_wp2_with (first | (go_at_call 134; refine (HR.out _).mono ?_; rintro e w1 ⟨rfl, hb1⟩; have HB := Lib.hid hb1; clear hb1) | (go_at_call 57; refine (HK2.out _).mono ?_; rintro e w2 ⟨rfl, hb2⟩; have HB := Lib.hid (bthen HB.out hb2); clear hb2))
        go_ret2
        exact ⟨by rw [HD.out]; simp [saidP], HB.out⟩
  have u3 : ((r : Int) == 3) = false := by simp; omega
  have hD := HD.out
  rw [if_neg h1, if_neg h2, if_neg h3] at hD
  by_cases h4 : r = 4
  · subst h4
    rw [if_pos rfl] at hD
    have HD := Lib.hid hD
    have hcl := fun w => clone_any s w (by omega)
    have HCl := Lib.hid hcl
    clear hcl hD u1 u2 u3 h1 h2 h3
    go_enter Tryz.func113, Tryz.ntmps113
    go_wp2_with (first | (go_at_call 134; refine (HR.out _).mono ?_; rintro e w1 ⟨rfl, hb1⟩; have HB := Lib.hid hb1; clear hb1) | (go_at_call 63; refine (HCl.out _).mono ?_; rintro e w3 ⟨rfl, hb3⟩; have HB := Lib.hid (bthen HB.out hb3); clear hb3))
    go_ret2
    exact ⟨by rw [HD.out]; simp [saidP], HB.out⟩
  · rw [if_neg h4] at hD
    have u4 : ((r : Int) == 4) = false := by simp; omega
    have HD := Lib.hid hD
    clear hD h1 h2 h3 h4
    go_enter Tryz.func113, Tryz.ntmps113
    go_wp2_with (go_at_call 134; refine (HR.out _).mono ?_; rintro e w1 ⟨rfl, hb1⟩; have HB := Lib.hid hb1; clear hb1)
    go_ret2
    exact ⟨by rw [HD.out]; rfl, HB.out⟩

theorem saidP_some {x : List UInt8} {X : ByteArray} (h : X = ⟨x.toArray⟩) : saidP (some x) = .tuple #[.string X, .bool true] := by rw [h]; rfl
def normsV (o : Option (List UInt8)) (q : Option (List UInt8)) : Value := match o, q with
  | some x, some y => .tuple #[.string ⟨x.toArray⟩, .string ⟨y.toArray⟩, .bool true]
  | _, _ => .tuple #[.string ⟨#[]⟩, .string ⟨#[]⟩, .bool false]

set_option maxRecDepth 100000 in
set_option maxHeartbeats 4000000 in
theorem norms_any (t a b : ByteArray) (w : World) (hw : LaidW w) :
    Calls Tryz.prog 120 #[.string t, .string a, .string b] w fun e w' => e = .returned (normsV (normD (ruleD t.data.toList) a.data.toList) (normD (ruleD t.data.toList) b.data.toList)) ∧ Below w.heap.size w w' := by
  have ha := fun w hw => norm_any t a w hw
  have hb := fun w hw => norm_any t b w hw
  generalize normD (ruleD t.data.toList) a.data.toList = p at ha ⊢
  generalize normD (ruleD t.data.toList) b.data.toList = q at hb ⊢
  have HW := Lib.hid hw
  clear hw
  cases p with
  | none =>
    have HA := Lib.hid ha
    clear ha hb
    go_enter Tryz.func120, Tryz.ntmps120
    go_wp2_with (go_at_call 113; refine (HA.out _ HW.out).mono ?_; rintro e w1 ⟨he, hb1⟩; simp only [saidP] at he; subst he; have HB := Lib.hid hb1; clear hb1)
    go_ret3
    exact ⟨rfl, HB.out⟩
  | some x =>
    obtain ⟨X, hX⟩ : ∃ X : ByteArray, X = ⟨x.toArray⟩ := ⟨_, rfl⟩
    simp only [saidP_some hX] at ha
    have HA := Lib.hid ha
    clear ha
    cases q with
    | none =>
      have HQ := Lib.hid hb
      clear hb hX
      have tok : True := trivial
      go_enter Tryz.func120, Tryz.ntmps120
      go_wp2_with (go_at_call 113; first | (have _t := tok; refine (HA.out _ HW.out).mono ?_; rintro e w1 ⟨rfl, hb1⟩; have HB := Lib.hid hb1; clear hb1 tok) | (refine (HQ.out _ (HW.out.below HB.out)).mono ?_; rintro e w2 ⟨he, hb2⟩; simp only [saidP] at he; subst he; have HB := Lib.hid (bthen HB.out hb2); clear hb2))
      go_ret3
      exact ⟨rfl, HB.out⟩
    | some y =>
      obtain ⟨Y, hY⟩ : ∃ Y : ByteArray, Y = ⟨y.toArray⟩ := ⟨_, rfl⟩
      simp only [saidP_some hY] at hb
      have hv : normsV (some x) (some y) = .tuple #[.string X, .string Y, .bool true] := by rw [hX, hY]; rfl
      rw [hv]
      have HQ := Lib.hid hb
      clear hb hX hY hv
      have tok : True := trivial
      go_enter Tryz.func120, Tryz.ntmps120
      go_wp2_with (go_at_call 113; first | (have _t := tok; refine (HA.out _ HW.out).mono ?_; rintro e w1 ⟨rfl, hb1⟩; have HB := Lib.hid hb1; clear hb1 tok) | (refine (HQ.out _ (HW.out.below HB.out)).mono ?_; rintro e w2 ⟨rfl, hb2⟩; have HB := Lib.hid (bthen HB.out hb2); clear hb2))
      go_ret3
      exact ⟨rfl, HB.out⟩
end Go.Proofs.YtpnbcmblnplbgaaGreatDoor


namespace Go.Proofs.YtpnbcmblnplbgaaGreatDoor
open Go.RowKit
set_option linter.unusedVariables false

def sameO (p q : Option (List UInt8)) : Bool := match p, q with
  | some x, some y => x == y
  | _, _ => false

set_option maxRecDepth 100000 in
set_option maxHeartbeats 4000000 in
theorem same_any (t a b : ByteArray) (w : World) (hw : LaidW w) :
    Calls Tryz.prog 92 #[.string t, .string a, .string b] w fun e w' => e = .returned (.bool (sameO (normD (ruleD t.data.toList) a.data.toList) (normD (ruleD t.data.toList) b.data.toList))) ∧ Below w.heap.size w w' := by
  have hn := norms_any t a b w hw
  generalize normD (ruleD t.data.toList) a.data.toList = p at hn ⊢
  generalize normD (ruleD t.data.toList) b.data.toList = q at hn ⊢
  have key : (∃ x y, p = some x ∧ q = some y) ∨ (normsV p q = .tuple #[.string ⟨#[]⟩, .string ⟨#[]⟩, .bool false] ∧ sameO p q = false) := by
    cases p with
    | none => exact .inr ⟨rfl, rfl⟩
    | some x => cases q with
      | none => exact .inr ⟨rfl, rfl⟩
      | some y => exact .inl ⟨x, y, rfl, rfl⟩
  rcases key with ⟨x, y, rfl, rfl⟩ | ⟨hv, hs⟩
  · obtain ⟨X, hX⟩ : ∃ X : ByteArray, X = ⟨x.toArray⟩ := ⟨_, rfl⟩
    obtain ⟨Y, hY⟩ : ∃ Y : ByteArray, Y = ⟨y.toArray⟩ := ⟨_, rfl⟩
    have hv : normsV (some x) (some y) = .tuple #[.string X, .string Y, .bool true] := by rw [hX, hY]; rfl
    rw [hv] at hn
    have HN := Lib.hid hn
    by_cases he : X = Y
    · have hs : sameO (some x) (some y) = true := by
        have : x = y := by have h2 : X.data.toList = Y.data.toList := by rw [he]
                           rw [hX, hY] at h2; simpa using h2
        simp [sameO, this]
      rw [hs]
      subst he
      clear hn hv hX hY hs
      go_enter Tryz.func92, Tryz.ntmps92
      go_wp2_with (go_at_call 120; refine HN.out.mono ?_; rintro e w1 ⟨rfl, hb1⟩; have HB := Lib.hid hb1; clear hb1)
      go_ret
      exact ⟨rfl, HB.out⟩
    · have hs : sameO (some x) (some y) = false := by
        have : x ≠ y := fun e => he (by rw [hX, hY, e])
        simp [sameO, this]
      rw [hs]
      have t1 := str_ne he
      clear hn hv hX hY hs he
      go_enter Tryz.func92, Tryz.ntmps92
      go_wp2_with (go_at_call 120; refine HN.out.mono ?_; rintro e w1 ⟨rfl, hb1⟩; have HB := Lib.hid hb1; clear hb1)
      go_ret
      exact ⟨rfl, HB.out⟩
  · rw [hv] at hn
    rw [hs]
    have HN := Lib.hid hn
    clear hn hv hs
    go_enter Tryz.func92, Tryz.ntmps92
    go_wp2_with (go_at_call 120; refine HN.out.mono ?_; rintro e w1 ⟨rfl, hb1⟩; have HB := Lib.hid hb1; clear hb1)
    go_ret
    exact ⟨rfl, HB.out⟩

end Go.Proofs.YtpnbcmblnplbgaaGreatDoor


namespace Go.Proofs.YtpnbcmblnplbgaaGreatDoor
open Go.RowKit
set_option linter.unusedVariables false

structure CT where
  name : List UInt8
  sup : List UInt8
  st : Bool
  must : List UInt8
  may : List UInt8
def CT.mustL (c : CT) : List (List UInt8) := Lib.fields c.must
def CT.mayL (c : CT) : List (List UInt8) := Lib.fields c.may
def classL : List CT := [
  ⟨[116, 111, 112], [], false, [111, 98, 106, 101, 99, 116, 99, 108, 97, 115, 115], []⟩,
  ⟨[111, 114, 103, 97, 110, 105, 122, 97, 116, 105, 111, 110], [116, 111, 112], true, [111], [100, 101, 115, 99, 114, 105, 112, 116, 105, 111, 110]⟩,
  ⟨[111, 114, 103, 97, 110, 105, 122, 97, 116, 105, 111, 110, 97, 108, 117, 110, 105, 116], [116, 111, 112], true, [111, 117], [100, 101, 115, 99, 114, 105, 112, 116, 105, 111, 110]⟩,
  ⟨[112, 101, 114, 115, 111, 110], [116, 111, 112], true, [99, 110, 32, 115, 110], [100, 101, 115, 99, 114, 105, 112, 116, 105, 111, 110, 32, 117, 115, 101, 114, 112, 97, 115, 115, 119, 111, 114, 100]⟩,
  ⟨[105, 110, 101, 116, 111, 114, 103, 112, 101, 114, 115, 111, 110], [112, 101, 114, 115, 111, 110], true, [], [117, 105, 100, 32, 109, 97, 105, 108]⟩,
  ⟨[112, 111, 115, 105, 120], [116, 111, 112], false, [117, 105, 100, 32, 117, 105, 100, 110, 117, 109, 98, 101, 114], []⟩,
  ⟨[103, 114, 111, 117, 112, 111, 102, 110, 97, 109, 101, 115], [116, 111, 112], true, [99, 110, 32, 109, 101, 109, 98, 101, 114], [100, 101, 115, 99, 114, 105, 112, 116, 105, 111, 110]⟩]
def findC (n : List UInt8) : Option CT := classL.find? (fun c => c.name == n)
theorem findC_at {n : List UInt8} {k : Nat} (hk : k < classL.length) (h : ∀ i, (h : i < classL.length) → i < k → classL[i].name ≠ n) (he : classL[k].name = n) : findC n = some classL[k] := by
  unfold findC
  rw [List.find?_eq_some_iff_getElem]
  refine ⟨by simpa using he, k, hk, rfl, fun j hj => ?_⟩
  have := h j (by omega) hj
  simpa using this
theorem findC_no {n : List UInt8} (h : ∀ i, (h : i < classL.length) → classL[i].name ≠ n) : findC n = none := by
  unfold findC
  rw [List.find?_eq_none]
  intro a ha
  obtain ⟨k, hk, rfl⟩ := List.getElem_of_mem ha
  simpa using h k hk
theorem findC_mem {n : List UInt8} {c : CT} (h : findC n = some c) : c ∈ classL ∧ c.name = n := ⟨List.mem_of_find?_eq_some h, by simpa using List.find?_some h⟩

def chainC : Nat → List UInt8 → List CT
  | 0, _ => []
  | k + 1, n => match findC n with
    | none => []
    | some c => c :: chainC k c.sup
theorem chain_end : ∀ c ∈ classL, chainC 3 c.sup = chainC 2 c.sup := by
  intro c hc
  simp only [classL, List.mem_cons, List.not_mem_nil, or_false] at hc
  rcases hc with rfl | rfl | rfl | rfl | rfl | rfl | rfl <;> rfl
theorem chain_step {n : List UInt8} {c : CT} (h : findC n = some c) : chainC 3 n = c :: chainC 3 c.sup := by
  rw [chain_end c (findC_mem h).1]
  show (match findC n with | none => [] | some c => c :: chainC 2 c.sup) = _
  rw [h]
theorem chain_none {n : List UInt8} (h : findC n = none) : chainC 3 n = [] := by
  show (match findC n with | none => [] | some c => c :: chainC 2 c.sup) = _
  rw [h]

def objB : List UInt8 := [111, 98, 106, 101, 99, 116, 99, 108, 97, 115, 115]
def allC : List (List UInt8) → Option (List CT × Bool)
  | [] => some ([], false)
  | v :: l => match findC (fold v) with
    | none => none
    | some c => (allC l).map fun p => (chainC 3 (fold v) ++ p.1, c.st || p.2)
def allR (A : List CT) (b : Bool) (l : List (List UInt8)) : Option (List CT × Bool) := (allC l).map fun p => (A ++ p.1, b || p.2)
theorem allR_none {A : List CT} {b : Bool} {v : List UInt8} {l : List (List UInt8)} (h : findC (fold v) = none) : allR A b (v :: l) = none := by
  simp [allR, allC, h]
theorem allR_step {A : List CT} {b : Bool} {v : List UInt8} {l : List (List UInt8)} {c : CT} (h : findC (fold v) = some c) : allR A b (v :: l) = allR (A ++ chainC 3 (fold v)) (b || c.st) l := by
  simp only [allR, allC, h]
  cases allC l with
  | none => rfl
  | some p => simp [List.append_assoc, Bool.or_assoc]
theorem allR_end (A : List CT) (b : Bool) : allR A b [] = some (A, b) := by simp [allR, allC]
theorem allR_start (l : List (List UInt8)) : allR [] false l = allC l := by
  unfold allR
  cases allC l <;> simp

def mayC (A : List CT) : List (List UInt8) := A.flatMap fun c => c.mustL ++ c.mayL
def classedD (L : List AT) : Bool := match allC (valsS L objB) with
  | none => false
  | some (A, s) => s && (A.all (fun c => c.mustL.all (hasS L)) && L.all (fun a => (mayC A).contains a.1))

theorem leB_le {a b : List UInt8} (h : leB a b = true) : a ≤ b := by simpa only [leB, decide_eq_true_eq] using h
theorem compact_len_lt {zs : List (List UInt8)} : (Lib.compact zs).length < zs.length ↔ ∃ j, 0 < j ∧ j < zs.length ∧ zs[j]? = zs[j - 1]? := by
  unfold Lib.compact Lib.compactUpTo
  rw [List.length_map]
  constructor
  · intro h
    have : ¬ ∀ j ∈ List.range zs.length, Lib.keeps zs.toArray j = true := fun e => by
      rw [List.filter_eq_self.2 e, List.length_range] at h
      omega
    obtain ⟨j, hj⟩ := Classical.not_forall.1 this
    obtain ⟨hm, hk⟩ := Classical.not_imp.1 hj
    rw [List.mem_range] at hm
    simp only [Lib.keeps, decide_eq_true_eq, not_or, Decidable.not_not] at hk
    refine ⟨j, by omega, hm, ?_⟩
    have h1 : j < zs.toArray.size := by simpa using hm
    have h2 : j - 1 < zs.toArray.size := by simp; omega
    have e := hk.2
    rw [getElem!_pos _ j h1, getElem!_pos _ (j - 1) h2] at e
    simp only [List.getElem_toArray] at e
    rw [List.getElem?_eq_getElem hm, List.getElem?_eq_getElem (by omega), e]
  · rintro ⟨j, h0, hm, e⟩
    have h1 : j < zs.toArray.size := by simpa using hm
    have h2 : j - 1 < zs.toArray.size := by simp; omega
    have hk : Lib.keeps zs.toArray j = false := by
      refine Lib.keeps_neg h0 ?_
      rw [getElem!_pos _ j h1, getElem!_pos _ (j - 1) h2]
      simp only [List.getElem_toArray]
      rw [List.getElem?_eq_getElem hm, List.getElem?_eq_getElem (by omega)] at e
      exact Option.some.inj e
    have hlt : ((List.range zs.length).filter (Lib.keeps zs.toArray)).length < (List.range zs.length).length := List.length_filter_lt_length_iff_exists.2 ⟨j, List.mem_range.2 hm, by rw [hk]; simp⟩
    rw [List.length_range] at hlt
    exact hlt
theorem dup_iff (l : List (List UInt8)) : (Lib.compact (l.mergeSort leB)).length < l.length ↔ ¬ l.Nodup := by
  have tr : ∀ a b c : List UInt8, leB a b = true → leB b c = true → leB a c = true := fun a b c h1 h2 => by simp only [leB, decide_eq_true_eq] at *; exact List.le_trans h1 h2
  have tot : ∀ a b : List UInt8, (leB a b || leB b a) = true := fun a b => by simp only [leB, Bool.or_eq_true, decide_eq_true_eq]; exact List.le_total a b
  have hp := List.mergeSort_perm l leB
  have hs := List.pairwise_mergeSort tr tot l
  rw [← hp.nodup_iff, ← hp.length_eq, compact_len_lt]
  generalize l.mergeSort leB = m at hs
  rw [List.pairwise_iff_getElem] at hs
  constructor
  · rintro ⟨j, h0, hm, e⟩ hn
    have := List.pairwise_iff_getElem.1 hn (j - 1) j (by omega) hm (by omega)
    rw [List.getElem?_eq_getElem hm, List.getElem?_eq_getElem (by omega)] at e
    exact this (Option.some.inj e).symm
  · intro hn
    refine Classical.byContradiction fun hno => hn (List.pairwise_iff_getElem.2 fun i j hi hj hij e => hno ⟨i + 1, by omega, by omega, ?_⟩)
    have h1 : i + 1 < m.length := by omega
    have a := leB_le (hs i (i + 1) hi h1 (by omega))
    have b : m[i + 1] ≤ m[j] := by
      by_cases q : i + 1 = j
      · subst q; exact List.le_refl _
      · exact leB_le (hs (i + 1) j h1 hj (by omega))
    rw [← e] at b
    rw [List.getElem?_eq_getElem h1, show i + 1 - 1 = i from by omega, List.getElem?_eq_getElem hi, List.le_antisymm b a]

def normsS (r : Nat) : List (List UInt8) → Option (List (List UInt8))
  | [] => some []
  | v :: l => match normD r v with
    | none => none
    | some x => (normsS r l).map (x :: ·)
def valsC (t : List UInt8) (V : List (List UInt8)) : Int :=
  if V.length = 0 ∨ mostS t < (V.length : Int) then 19 else match normsS (ruleD t) V with
  | none => 21
  | some l => if l.Nodup then 0 else 20
def normsR (r : Nat) (A : List (List UInt8)) (l : List (List UInt8)) : Option (List (List UInt8)) := (normsS r l).map (A ++ ·)
theorem normsR_none {r : Nat} {A l : List (List UInt8)} {v : List UInt8} (h : normD r v = none) : normsR r A (v :: l) = none := by
  simp [normsR, normsS, h]
theorem normsR_step {r : Nat} {A l : List (List UInt8)} {v x : List UInt8} (h : normD r v = some x) : normsR r A (v :: l) = normsR r (A ++ [x]) l := by
  simp only [normsR, normsS, h]
  cases normsS r l <;> simp
theorem normsR_end (r : Nat) (A : List (List UInt8)) : normsR r A [] = some A := by simp [normsR, normsS]
theorem normsR_start (r : Nat) (l : List (List UInt8)) : normsR r [] l = normsS r l := by
  unfold normsR
  cases normsS r l <;> simp

def soundR : List AT → List AT → Except Int (List AT)
  | A, [] => .ok A
  | A, a :: l => match canonD a.1 with
    | none => .error 17
    | some t => if hasS A t then .error 20 else if valsC t a.2 = 0 then soundR (A ++ [(t, a.2)]) l else .error (valsC t a.2)
def namedD (L : List AT) (d : List UInt8) : Bool := match parseD d with
  | some (r :: _) => (valsS L ((canonD r.1).getD [])).any fun v => sameO (normD (ruleD ((canonD r.1).getD [])) v) (normD (ruleD ((canonD r.1).getD [])) r.2)
  | _ => false
def behindD (L : List AT) (d : List UInt8) : Int := if classedD L = false then 65 else if namedD L d = false then 64 else 0
def checkD (d : List UInt8) (L : List AT) : Int := match keyD d with
  | none => 34
  | some k => if k = [] then 34 else if 20 < L.length then 19 else match soundR [] L with
    | .error c => c
    | .ok A => behindD A d
end Go.Proofs.YtpnbcmblnplbgaaGreatDoor


namespace Go.Proofs.YtpnbcmblnplbgaaGreatDoor
open Go.RowKit
set_option linter.unusedVariables false

def SaysV (B : Nat) (w : World) (P : List PT) (L : List AT) : Prop := P.length = L.length ∧ ∀ j (h : j < L.length) (h' : j < P.length), P[j].1 = L[j].1 ∧ IsT B w L[j].2 P[j].2
def OwnV (B : Nat) (w : World) (v : Value) (L : List AT) : Prop := ∃ P, RowP B w v P ∧ SaysV B w P L
theorem saysV_go {B n : Nat} {w w' : World} {P : List PT} {L : List AT} (h : SaysV B w P L) (hb : Below n w w') (hn : B ≤ n) : SaysV B w' P L :=
  ⟨h.1, fun j h1 h2 => ⟨(h.2 j h1 h2).1, (h.2 j h1 h2).2.below (hb.mono hn) (Nat.le_refl _)⟩⟩
theorem ownV_below {B : Nat} {w w' : World} {v : Value} {L : List AT} (h : OwnV B w v L) (hb : Below w.heap.size w w') (hB : B ≤ w.heap.size) : OwnV B w' v L := by
  obtain ⟨P, h1, h2⟩ := h
  exact ⟨P, rowP_below h1 hb, saysV_go h2 hb hB⟩
theorem ownV_slice {B : Nat} {w : World} {v : Value} {L : List AT} (h : OwnV B w v L) : ∃ a c, v = .slice a L.length c := by
  obtain ⟨P, h1, h2⟩ := h
  rw [← h2.1]
  exact rowP_slice h1
theorem ownV_nil (B : Nat) (w : World) : OwnV B w (.slice none 0 0) [] := ⟨[], World.ownsRow_nil _ _ _ _, rfl, fun j h => absurd h (by simp)⟩
theorem ownV_isA {B : Nat} {w : World} {v : Value} {L : List AT} (h : OwnV B w v L) (hl : L.length ≤ maxLen) (hB : B ≤ w.heap.size) : IsA w.heap.size w L v := by
  obtain ⟨P, h1, h2⟩ := h
  by_cases hne : P = []
  · subst hne
    obtain ⟨a, c, hv⟩ := rowP_slice h1
    have : L = [] := List.eq_nil_of_length_eq_zero (by have := h2.1; simpa using this.symm)
    subst this
    exact ⟨a, c, hv, hl, fun j hj => absurd hj (by simp)⟩
  · obtain ⟨g, c, hv, _, hg, hc⟩ := rowP_at h1 hne
    refine ⟨_, c, by rw [hv, h2.1], hl, fun j hj => ?_⟩
    have hj' : j < P.length := by rw [h2.1]; exact hj
    obtain ⟨e1, e2⟩ := h2.2 j hj hj'
    refine ⟨g, 0, P[j].2, rfl, hg, ?_, ?_, e2.below (Below.refl _ _) hB⟩
    · rw [Nat.zero_add, ← e1]; exact (hc j hj').1
    · rw [Nat.zero_add]; exact (hc j hj').2
theorem saysV_more {B : Nat} {w w' : World} {P : List PT} {L : List AT} {X : List UInt8} {u : Value} {A : List (List UInt8)} (h : SaysV B w P L) (hu : IsT B w A u) (hb : Below B w w') : SaysV B w' (P ++ [(X, u)]) (L ++ [(X, A)]) := by
  refine ⟨by simp [h.1], fun j h1 h2 => ?_⟩
  by_cases hj : j < L.length
  · have hj' : j < P.length := by rw [h.1]; exact hj
    rw [List.getElem_append_left hj', List.getElem_append_left hj]
    exact ⟨(h.2 j hj hj').1, (h.2 j hj hj').2.below hb (Nat.le_refl _)⟩
  · have e1 : j = L.length := by simp at h1; omega
    have e2 : j = P.length := by rw [h.1]; exact e1
    have g1 : (P ++ [(X, u)])[j] = (X, u) := by simp [e2]
    have g2 : (L ++ [(X, A)])[j] = (X, A) := by simp [e1]
    rw [g1, g2]
    exact ⟨rfl, hu.below hb (Nat.le_refl _)⟩
theorem ownV_more {B : Nat} {w w' : World} {v' : Value} {P : List PT} {L : List AT} {X : ByteArray} {u : Value} {A : List (List UInt8)} (hs : SaysV B w P L) (hu : IsT B w A u)
    (hr : w'.ownsRow B 56 2 v' (P.length + 1) (cellsP P ++ [.string X, u])) (hb : Below B w w') : OwnV B w' v' (L ++ [(X.data.toList, A)]) := by
  refine ⟨P ++ [(X.data.toList, u)], ?_, saysV_more hs hu hb⟩
  unfold RowP
  rw [List.length_append, cellsP_append]
  show w'.ownsRow B 56 2 v' (P.length + 1) (cellsP P ++ [strV X.data.toList, u])
  rw [strV_whole]
  exact hr
theorem wpList_append_attrB {ops : Array Oper} {rest : List Oper} {o : Oper} {a : Act} {w : World} {Q : Exit → Act → World → Prop} (hgd : o.guard = none) (sl x : Operand)
    (ho : o.op = .call { callee := .builtin .append, args := #[sl, x], argTypes := #[25, 25] })
    (base : Nat) (v : Value) (L : List AT) (hs : a.eval sl = v) (X : ByteArray) (u : Value) (A : List (List UInt8)) (hown : OwnV base w v L) (hu : IsT base w A u) (hx : a.eval x = .slice (some ⟨w.heap.size, 0, none⟩) 1 1)
    (h63 : L.length + 1 ≤ 1000000) (hbase : base ≤ w.heap.size)
    (h : ∀ v' w', OwnV base w' v' (L ++ [(X.data.toList, A)]) → Below base w w' → wpList Tryz.prog ops Q rest (a.put o.dst v') w') : wpList Tryz.prog ops Q (o :: rest) a (w.alloc (.cells #[.string X, u] 56)) := by
  obtain ⟨i0, hi, hz0, hz1, hz2⟩ := info_parts infoA
  obtain ⟨P, hr, hsay⟩ := hown
  have hb : Below w.heap.size w (w.alloc (.cells #[.string X, u] 56)) := (Below.refl _ _).alloc (Nat.le_refl _) _
  have hPL := hsay.1
  have hu1 : u.oneCell' = true := by obtain ⟨_, _, rfl, _⟩ := hu; rfl
  refine wpList_append_own_at _ hgd sl x 25 ho base 56 i0 (.agg #[.string ⟨#[]⟩, .slice none 0 0]) 2 40 Tryz.underlying25 hi hz0 hz1 hz2 rfl (by decide) v P.length (cellsP P) hs (World.ownsRow.alloc hr _) ⟨w.heap.size, 0, none⟩ 1 1 [.string X, u] hx rfl (newsA w _ _) (by intro u' hu'; simp at hu'; rcases hu' with rfl | rfl; rfl; exact hu1) (by unfold maxLen; omega) (by omega) (by simp; omega) ?_
  intro v' w' hown' hgrow _ hat
  have hbb : Below base w w' := ((Below.refl base w).alloc hbase _).grown hgrow (by simp; omega) (fun k e => (World.ownsRow.lt hr k e).1)
  exact h v' w' (ownV_more hsay hu hown' hbb) hbb

abbrev KT := CT × Value × Value
def cellsK : List KT → List Value
  | [] => []
  | r :: l => strV r.1.name :: strV r.1.sup :: .bool r.1.st :: r.2.1 :: r.2.2 :: cellsK l
theorem cellsK_append : ∀ a b : List KT, cellsK (a ++ b) = cellsK a ++ cellsK b
  | [], _ => rfl
  | r :: a, b => by show _ :: _ :: _ :: _ :: _ :: cellsK (a ++ b) = _; rw [cellsK_append a b]; rfl
theorem cellsK_get : ∀ (l : List KT) (j : Nat) (h : j < l.length), (cellsK l)[j * 5]? = some (strV l[j].1.name) ∧ (cellsK l)[j * 5 + 1]? = some (strV l[j].1.sup) ∧ (cellsK l)[j * 5 + 2]? = some (.bool l[j].1.st) ∧ (cellsK l)[j * 5 + 3]? = some l[j].2.1 ∧ (cellsK l)[j * 5 + 4]? = some l[j].2.2
  | r :: l, 0, _ => ⟨rfl, rfl, rfl, rfl, rfl⟩
  | r :: l, j + 1, h => by
    have := cellsK_get l j (by simpa using h)
    rw [show (j + 1) * 5 = j * 5 + 5 from by omega]
    exact this
theorem infoK : (Tryz.prog.info? 127).map (fun i => (i.zero, i.size, i.bytes)) = some (some (.agg #[.string ⟨#[]⟩, .string ⟨#[]⟩, .bool false, .slice none 0 0, .slice none 0 0]), 5, 88) := by kernel_rfl
def RowK (B : Nat) (w : World) (v : Value) (P : List KT) : Prop := w.ownsRow B 127 5 v P.length (cellsK P)
abbrev Apart (B g : Nat) (w : World) (v : Value) (b : Nat) : Prop := B ≤ b ∧ b < w.heap.size ∧ some b ≠ v.ownBlock ∧ b ≠ g
def SaysK (B g : Nat) (w : World) (v : Value) (P : List KT) : Prop := ∀ j (h : j < P.length), IsTo (Apart B g w v) w P[j].1.mustL P[j].2.1 ∧ IsTo (Apart B g w v) w P[j].1.mayL P[j].2.2
def OwnK (B g : Nat) (w : World) (v : Value) (L : List CT) : Prop := ∃ P : List KT, P.map (·.1) = L ∧ RowK B w v P ∧ SaysK B g w v P
theorem rowK_below {B : Nat} {w w' : World} {v : Value} {P : List KT} (h : RowK B w v P) (hb : Below w.heap.size w w') : RowK B w' v P :=
  World.ownsRow.kept h (row := none) ⟨hb.os, hb.tape, hb.output, hb.size, fun k hk _ => hb.block k hk⟩ (by cases v.ownBlock <;> simp)
theorem saysK_below {B g : Nat} {w w' : World} {v : Value} {P : List KT} (h : SaysK B g w v P) (hb : Below w.heap.size w w') : SaysK B g w' v P :=
  fun j h1 => ⟨(h j h1).1.imp (fun b hk => ⟨hk.1, Nat.lt_of_lt_of_le hk.2.1 hb.size, hk.2.2⟩) (fun b o hk => hb.cell (p := ⟨b, o, none⟩) hk.2.1), (h j h1).2.imp (fun b hk => ⟨hk.1, Nat.lt_of_lt_of_le hk.2.1 hb.size, hk.2.2⟩) (fun b o hk => hb.cell (p := ⟨b, o, none⟩) hk.2.1)⟩
theorem ownK_below {B g : Nat} {w w' : World} {v : Value} {L : List CT} (h : OwnK B g w v L) (hb : Below w.heap.size w w') : OwnK B g w' v L := by
  obtain ⟨P, h0, h1, h2⟩ := h
  exact ⟨P, h0, rowK_below h1 hb, saysK_below h2 hb⟩
theorem ownK_slice {B g : Nat} {w : World} {v : Value} {L : List CT} (h : OwnK B g w v L) : ∃ a c, v = .slice a L.length c := by
  obtain ⟨P, h0, h1, h2⟩ := h
  have : P.length = L.length := by rw [← h0, List.length_map]
  rw [← this]
  rcases h1.2 with ⟨rfl, hz⟩ | ⟨g, cap, cur, rfl, _⟩
  · exact ⟨_, _, by rw [hz]⟩
  · exact ⟨_, _, rfl⟩
theorem ownK_nil (B g : Nat) (w : World) : OwnK B g w (.slice none 0 0) [] := ⟨[], rfl, World.ownsRow_nil _ _ _ _, fun j h => absurd h (by simp)⟩
theorem ownK_lt {B g : Nat} {w : World} {v : Value} {L : List CT} (h : OwnK B g w v L) (k : Nat) (e : v.ownBlock = some k) : k < w.heap.size := by
  obtain ⟨P, _, h1, _⟩ := h
  exact (World.ownsRow.lt h1 k e).2
def IsK (n0 : Nat) (w : World) (L : List CT) (v : Value) : Prop := ∃ a c, v = .slice a L.length c ∧ L.length ≤ maxLen ∧
  ∀ j, (h : j < L.length) → ∃ b off u1 u2, a = some ⟨b, off, none⟩ ∧ b < n0 ∧ w.cell? ⟨b, off + j * 5, none⟩ = some (strV L[j].name) ∧ w.cell? ⟨b, off + j * 5 + 1, none⟩ = some (strV L[j].sup) ∧ w.cell? ⟨b, off + j * 5 + 2, none⟩ = some (.bool L[j].st) ∧ w.cell? ⟨b, off + j * 5 + 3, none⟩ = some u1 ∧ w.cell? ⟨b, off + j * 5 + 4, none⟩ = some u2 ∧ IsT n0 w L[j].mustL u1 ∧ IsT n0 w L[j].mayL u2
theorem IsK.below {n0 n1 : Nat} {w w' : World} {L : List CT} {v : Value} (h : IsK n0 w L v) (hb : Below n0 w w') (hn : n0 ≤ n1) : IsK n1 w' L v := by
  obtain ⟨a, c, hv, hm, hc⟩ := h
  refine ⟨a, c, hv, hm, fun j hj => ?_⟩
  obtain ⟨b, off, u1, u2, ha, hlt, c0, c1, c2, c3, c4, ht, hu⟩ := hc j hj
  exact ⟨b, off, u1, u2, ha, Nat.lt_of_lt_of_le hlt hn, (hb.cell (p := ⟨b, _, none⟩) hlt).trans c0, (hb.cell (p := ⟨b, _, none⟩) hlt).trans c1, (hb.cell (p := ⟨b, _, none⟩) hlt).trans c2, (hb.cell (p := ⟨b, _, none⟩) hlt).trans c3, (hb.cell (p := ⟨b, _, none⟩) hlt).trans c4, ht.below hb hn, hu.below hb hn⟩
theorem ownK_isK {B g : Nat} {w : World} {v : Value} {L : List CT} (h : OwnK B g w v L) (hl : L.length ≤ maxLen) : IsK w.heap.size w L v := by
  obtain ⟨a, c, hv⟩ := ownK_slice h
  obtain ⟨P, h0, h1, h2⟩ := h
  have hPL : P.length = L.length := by rw [← h0, List.length_map]
  refine ⟨a, c, hv, hl, fun j hj => ?_⟩
  have hj' : j < P.length := by omega
  have hLj : L[j] = P[j].1 := by subst h0; simp
  have hc := fun q (hg : v.ownBlock = some q) => World.ownsRow.cells h1 hg
  rcases h1.2 with ⟨_, hz⟩ | ⟨q, cap, cur, hv2, hB, hg, _⟩
  · omega
  · have hva : a = some ⟨q, 0, none⟩ := by rw [hv] at hv2; simpa using (Value.slice.inj hv2).1
    subst hva
    subst hv
    obtain ⟨g0, g1, g2, g3, g4⟩ := cellsK_get P j hj'
    have f := fun k u e => hc q rfl k u e
    have ea : ∀ k, ((⟨q, 0, none⟩ : Addr).add k) = ⟨q, k, none⟩ := by intro k; simp [Addr.add]; omega
    have q0 := f _ _ g0
    have q1 := f _ _ g1
    have q2 := f _ _ g2
    have q3 := f _ _ g3
    have q4 := f _ _ g4
    simp only [ea] at q0 q1 q2 q3 q4
    rw [hLj]
    obtain ⟨e1, e2⟩ := h2 j hj'
    exact ⟨q, 0, _, _, rfl, (Array.getElem?_eq_some_iff.1 hg).1, by simpa using q0, by simpa using q1, by simpa using q2, by simpa using q3, by simpa using q4, e1.to (fun b hb => hb.2.1), e2.to (fun b hb => hb.2.1)⟩
theorem saysK_more {B g : Nat} {w w' : World} {v v' : Value} {P : List KT} {r : KT} (h : SaysK B g w v P) (hu : IsTo (Apart B g w v) w r.1.mustL r.2.1) (hv : IsTo (Apart B g w v) w r.1.mayL r.2.2)
    (hg : w.grownBy w' v.ownBlock) (hat : v'.ownBlock = v.ownBlock ∨ v'.ownBlock = some w.heap.size) : SaysK B g w' v' (P ++ [r]) := by
  have ok : ∀ b, Apart B g w v b → Apart B g w' v' b := fun b hb => ⟨hb.1, Nat.lt_of_lt_of_le hb.2.1 hg.size, by
    rcases hat with e | e
    · rw [e]; exact hb.2.2.1
    · rw [e]; intro h; have := Option.some.inj h; have := hb.2.1; omega, hb.2.2.2⟩
  have hc : ∀ b o, Apart B g w v b → w'.cell? ⟨b, o, none⟩ = w.cell? ⟨b, o, none⟩ := fun b o hb => by
    have := hg.block b hb.2.1 hb.2.2.1
    simp only [World.cell?, this]
  intro j h1
  by_cases hj : j < P.length
  · rw [List.getElem_append_left hj]
    exact ⟨(h j hj).1.imp ok hc, (h j hj).2.imp ok hc⟩
  · have e2 : j = P.length := by simp at h1; omega
    have g1 : (P ++ [r])[j] = r := by simp [e2]
    rw [g1]
    exact ⟨hu.imp ok hc, hv.imp ok hc⟩
theorem newsK (w : World) (x0 x1 x2 x3 x4 : Value) : ∀ j u, [x0, x1, x2, x3, x4][j]? = some u → (w.alloc (.cells #[x0, x1, x2, x3, x4] 127)).cell? ((⟨w.heap.size, 0, none⟩ : Addr).add j) = some u := by
  intro j u hu
  have h : (w.alloc (.cells #[x0, x1, x2, x3, x4] 127)).heap[w.heap.size]? = some (.cells #[x0, x1, x2, x3, x4] 127 (0, 0)) := heap_alloc_new w _
  have hadd : (⟨w.heap.size, 0, none⟩ : Addr).add j = ⟨w.heap.size, j, none⟩ := by unfold Addr.add; split <;> simp_all
  rw [hadd]
  simp only [World.cell?, h]
  simpa using hu
theorem wpList_append_class {ops : Array Oper} {rest : List Oper} {o : Oper} {a : Act} {w : World} {Q : Exit → Act → World → Prop} (hgd : o.guard = none) (sl x : Operand)
    (ho : o.op = .call { callee := .builtin .append, args := #[sl, x], argTypes := #[135, 135] })
    (base g : Nat) (v : Value) (L : List CT) (hs : a.eval sl = v) (N S : ByteArray) (C : CT) (u1 u2 : Value) (hN : N.data.toList = C.name) (hS : S.data.toList = C.sup) (hown : OwnK base g w v L) (hu : IsTo (Apart base g w v) w C.mustL u1) (hv : IsTo (Apart base g w v) w C.mayL u2) (hx : a.eval x = .slice (some ⟨w.heap.size, 0, none⟩) 1 1)
    (h63 : L.length + 1 ≤ 1000000) (hbase : base ≤ w.heap.size)
    (h : ∀ v' w', OwnK base g w' v' (L ++ [C]) → Below base w w' → (∀ k, k < w.heap.size → some k ≠ v.ownBlock → w'.heap[k]? = w.heap[k]?) → (∀ k, v'.ownBlock = some k → v.ownBlock = some k ∨ w.heap.size ≤ k) → w.heap.size ≤ w'.heap.size → wpList Tryz.prog ops Q rest (a.put o.dst v') w') : wpList Tryz.prog ops Q (o :: rest) a (w.alloc (.cells #[.string N, .string S, .bool C.st, u1, u2] 127)) := by
  obtain ⟨i0, hi, hz0, hz1, hz2⟩ := info_parts infoK
  obtain ⟨P, h0, hr, hsay⟩ := hown
  have hb : Below w.heap.size w (w.alloc (.cells #[.string N, .string S, .bool C.st, u1, u2] 127)) := (Below.refl _ _).alloc (Nat.le_refl _) _
  have hPL : P.length = L.length := by rw [← h0, List.length_map]
  have hu1 : u1.oneCell' = true := by obtain ⟨_, _, rfl, _⟩ := hu; rfl
  have hu2 : u2.oneCell' = true := by obtain ⟨_, _, rfl, _⟩ := hv; rfl
  refine wpList_append_own_at _ hgd sl x 135 ho base 127 i0 (.agg #[.string ⟨#[]⟩, .string ⟨#[]⟩, .bool false, .slice none 0 0, .slice none 0 0]) 5 88 Tryz.underlying135 hi hz0 hz1 hz2 rfl (by decide) v P.length (cellsK P) hs (World.ownsRow.alloc hr _) ⟨w.heap.size, 0, none⟩ 1 1 [.string N, .string S, .bool C.st, u1, u2] hx rfl (newsK w _ _ _ _ _) (by intro u' hu'; simp at hu'; rcases hu' with rfl | rfl | rfl | rfl | rfl; rfl; rfl; rfl; exact hu1; exact hu2) (by unfold maxLen; omega) (by omega) (by simp; omega) ?_
  intro v' w' hown' hgrow _ hat
  have up : ∀ {A : List (List UInt8)} {u : Value}, IsTo (Apart base g w v) w A u → IsTo (Apart base g (w.alloc (.cells #[.string N, .string S, .bool C.st, u1, u2] 127)) v) (w.alloc (.cells #[.string N, .string S, .bool C.st, u1, u2] 127)) A u := fun hu => hu.imp (fun b hk => ⟨hk.1, Nat.lt_of_lt_of_le hk.2.1 hb.size, hk.2.2⟩) (fun b o hk => hb.cell (p := ⟨b, o, none⟩) hk.2.1)
  refine h v' w' ⟨P ++ [(C, u1, u2)], by simp [h0], ?_, saysK_more (saysK_below hsay hb) (up hu) (up hv) hgrow hat⟩ ?_ (fun k hk hne => (hgrow.block k (by simp; omega) hne).trans (hb.block k hk)) (fun k e => hat.elim (fun q => .inl (q ▸ e)) (fun q => .inr (by rw [q] at e; have := Option.some.inj e; simp at this; omega))) (Nat.le_trans hb.size hgrow.size)
  · unfold RowK
    rw [List.length_append, cellsK_append]
    show w'.ownsRow base 127 5 v' (P.length + 1) (cellsK P ++ [strV C.name, strV C.sup, .bool C.st, u1, u2])
    rw [← hN, ← hS, strV_whole, strV_whole]
    exact hown'
  · exact ((Below.refl base w).alloc hbase _).grown hgrow (by simp; omega) (fun k e => (World.ownsRow.lt hr k e).1)
end Go.Proofs.YtpnbcmblnplbgaaGreatDoor


namespace Go.Proofs.YtpnbcmblnplbgaaGreatDoor
open Go.RowKit
set_option linter.unusedVariables false

def LaidF (w : World) : Prop := Lib.TabIs Tryz.prog w "strings.asciiSpace" .u8 Lib.asciiSpaceTab
theorem LaidF.below {w w' : World} (h : LaidF w) (hb : Below w.heap.size w w') : LaidF w' := Joins.tab_stays (g := 1) (by kernel_rfl) h hb (Nat.le_refl _)

def plainB (l : List UInt8) : Bool := l.all (fun b => decide (b.toNat < 128)) && decide (l.length < 1000)
abbrev New (B : Nat) (w : World) (b : Nat) : Prop := B ≤ b ∧ b < w.heap.size
def rowCells : Array Value := #[.string { data := #[116, 111, 112] }, .string { data := #[] }, .bool false, .string { data := #[111, 98, 106, 101, 99, 116, 99, 108, 97, 115, 115] }, .string { data := #[] }, .string { data := #[111, 114, 103, 97, 110, 105, 122, 97, 116, 105, 111, 110] }, .string { data := #[116, 111, 112] }, .bool true, .string { data := #[111] }, .string { data := #[100, 101, 115, 99, 114, 105, 112, 116, 105, 111, 110] }, .string { data := #[111, 114, 103, 97, 110, 105, 122, 97, 116, 105, 111, 110, 97, 108, 117, 110, 105, 116] }, .string { data := #[116, 111, 112] }, .bool true, .string { data := #[111, 117] }, .string { data := #[100, 101, 115, 99, 114, 105, 112, 116, 105, 111, 110] }, .string { data := #[112, 101, 114, 115, 111, 110] }, .string { data := #[116, 111, 112] }, .bool true, .string { data := #[99, 110, 32, 115, 110] }, .string { data := #[100, 101, 115, 99, 114, 105, 112, 116, 105, 111, 110, 32, 117, 115, 101, 114, 112, 97, 115, 115, 119, 111, 114, 100] }, .string { data := #[105, 110, 101, 116, 111, 114, 103, 112, 101, 114, 115, 111, 110] }, .string { data := #[112, 101, 114, 115, 111, 110] }, .bool true, .string { data := #[] }, .string { data := #[117, 105, 100, 32, 109, 97, 105, 108] }, .string { data := #[112, 111, 115, 105, 120] }, .string { data := #[116, 111, 112] }, .bool false, .string { data := #[117, 105, 100, 32, 117, 105, 100, 110, 117, 109, 98, 101, 114] }, .string { data := #[] }, .string { data := #[103, 114, 111, 117, 112, 111, 102, 110, 97, 109, 101, 115] }, .string { data := #[116, 111, 112] }, .bool true, .string { data := #[99, 110, 32, 109, 101, 109, 98, 101, 114] }, .string { data := #[100, 101, 115, 99, 114, 105, 112, 116, 105, 111, 110] }]
def rowsV : Value := .agg rowCells
theorem row_row : (Tryz.prog.info? 195).map (·.size) = some rowCells.size := by kernel_rfl
set_option maxRecDepth 100000 in
set_option maxHeartbeats 1000000 in
theorem rows_any (w : World) : Calls Tryz.prog 138 #[] w fun e w' => e = .returned rowsV ∧ Below w.heap.size w w' := by
  have hld := run_loadVar_new (P := Tryz.prog) w 195 rowCells 7 194 Tryz.underlying195 row_row
  go_enter Tryz.func138, Tryz.ntmps138
  go_wp2_with (first | (refine wpList_buildTo rfl 195 _ rfl (some 8) rfl rowCells (by kernel_rfl) ?_) | (refine wpList_store_row rfl 195 (.tmp 0) (.tmp 8) rfl w.heap.size rowCells rfl rfl 195 _ (Array.getElem?_push_size ..) (by kernel_rfl) (by kernel_rfl) (by kernel_rfl) ?_; rw [World.setRow_alloc_new]))
  refine bodyPost_ret (v := rowsV) ?_ rfl ⟨rfl, (Below.refl _ _).alloc (Nat.le_refl _) _⟩
  exact results_one rfl rfl hld

def rowV (c : CT) : Value := .agg #[strV c.name, strV c.sup, .bool c.st, strV c.must, strV c.may]
theorem row_all (w : World) : ∀ k : Fin 7, (Instr.index 195 rowsV (.int .i64 k.1)).run Tryz.prog w = .ok (rowV (classL.getD k.1 ⟨[], [], false, [], []⟩)) w
  | ⟨0, _⟩ => by show (Instr.index 195 rowsV (.int .i64 ((0 : Nat) : Int))).run Tryz.prog w = _; kernel_rfl
  | ⟨1, _⟩ => by show (Instr.index 195 rowsV (.int .i64 ((1 : Nat) : Int))).run Tryz.prog w = _; kernel_rfl
  | ⟨2, _⟩ => by show (Instr.index 195 rowsV (.int .i64 ((2 : Nat) : Int))).run Tryz.prog w = _; kernel_rfl
  | ⟨3, _⟩ => by show (Instr.index 195 rowsV (.int .i64 ((3 : Nat) : Int))).run Tryz.prog w = _; kernel_rfl
  | ⟨4, _⟩ => by show (Instr.index 195 rowsV (.int .i64 ((4 : Nat) : Int))).run Tryz.prog w = _; kernel_rfl
  | ⟨5, _⟩ => by show (Instr.index 195 rowsV (.int .i64 ((5 : Nat) : Int))).run Tryz.prog w = _; kernel_rfl
  | ⟨6, _⟩ => by show (Instr.index 195 rowsV (.int .i64 ((6 : Nat) : Int))).run Tryz.prog w = _; kernel_rfl
theorem row_at (k : Nat) (h : k < classL.length) (w : World) : (Instr.index 195 rowsV (.int .i64 k)).run Tryz.prog w = .ok (rowV classL[k]) w := by
  have := row_all w ⟨k, h⟩
  have e : classL.getD k ⟨[], [], false, [], []⟩ = classL[k] := by simp [List.getD, h]
  simp only [e] at this
  exact this
theorem class_plain : ∀ c ∈ classL, plainB c.must = true ∧ plainB c.may = true := by
  intro c hc
  simp only [classL, List.mem_cons, List.not_mem_nil, or_false] at hc
  rcases hc with rfl | rfl | rfl | rfl | rfl | rfl | rfl <;> decide
theorem fields_len (l : List UInt8) : (Lib.fields l).length ≤ l.length + 1 := by
  have h : ∀ (l cur : List UInt8), (Lib.fieldsGo cur l).length ≤ l.length + 1 := by
    intro l
    induction l with
    | nil => intro cur; unfold Lib.fieldsGo; split <;> simp
    | cons b l ih =>
      intro cur
      unfold Lib.fieldsGo
      split
      · split
        · have := ih []; simp; omega
        · have := ih []; simp; omega
      · have := ih (cur ++ [b]); simp; omega
  exact h l []

theorem fields_any (s : ByteArray) (w : World) (hl : LaidF w) (hp : plainB s.data.toList = true) :
    Calls Tryz.prog 166 #[.string s] w fun e w' => ∃ u, e = .returned u ∧ IsTo (New w.heap.size w') w' (Lib.fields s.data.toList) u ∧ Below w.heap.size w w' := by
  unfold plainB at hp
  simp only [Bool.and_eq_true, decide_eq_true_eq, List.all_eq_true] at hp
  have hsz : s.size < 1000 := by rw [← bytes_len]; exact hp.2
  have hf := fields_len s.data.toList
  rw [bytes_len] at hf
  refine (Tryz.strings_Fields s w (by omega) (fun j b hj => hp.1 b (List.mem_of_getElem? hj)) hl).mono ?_
  rintro e w' ⟨rfl, rfl⟩
  refine ⟨_, rfl, ⟨_, _, rfl, by unfold maxLen; omega, fun j hj => ⟨w.heap.size, 0, rfl, ⟨Nat.le_refl _, by simp⟩, ?_⟩⟩, (Below.refl _ _).alloc (Nat.le_refl _) _⟩
  have h : (w.alloc (.cells ((Lib.fields s.data.toList).map fun l => Value.string ⟨l.toArray⟩).toArray 9)).heap[w.heap.size]? = some (.cells ((Lib.fields s.data.toList).map fun l => Value.string ⟨l.toArray⟩).toArray 9 (0, 0)) := heap_alloc_new w _
  simp only [World.cell?]
  rw [h]
  simp [hj, strV]

theorem isTo_slice {ok : Nat → Prop} {w : World} {L : List (List UInt8)} {v : Value} (h : IsTo ok w L v) : ∃ a n c, v = .slice a n c := by
  obtain ⟨a, c, h, _⟩ := h
  exact ⟨a, _, c, h⟩
def noC : Value := .agg #[.string ⟨#[]⟩, .string ⟨#[]⟩, .bool false, .slice none 0 0, .slice none 0 0]

theorem cell_ne (w : World) (a : Addr) (x : Value) {b : Nat} (o : Nat) (h : b ≠ a.block) : (w.setCell a x).cell? ⟨b, o, none⟩ = w.cell? ⟨b, o, none⟩ := by
  have : (w.setCell a x).heap[b]? = w.heap[b]? := by
    unfold World.setCell
    simp [Array.getElem?_modify, Ne.symm h]
  simp only [World.cell?, this]
abbrev set5 (w : World) (b : Nat) (x0 x1 x2 x3 x4 : Value) : World := ((((w.setCell ⟨b, 0, none⟩ x0).setCell ⟨b, 1, none⟩ x1).setCell ⟨b, 2, none⟩ x2).setCell ⟨b, 3, none⟩ x3).setCell ⟨b, 4, none⟩ x4
theorem set5_cell (w : World) (b : Nat) (x0 x1 x2 x3 x4 : Value) {k : Nat} (o : Nat) (h : k ≠ b) : (set5 w b x0 x1 x2 x3 x4).cell? ⟨k, o, none⟩ = w.cell? ⟨k, o, none⟩ := by
  simp only [set5]
  rw [cell_ne _ ⟨b, 4, none⟩ _ o h, cell_ne _ ⟨b, 3, none⟩ _ o h, cell_ne _ ⟨b, 2, none⟩ _ o h, cell_ne _ ⟨b, 1, none⟩ _ o h, cell_ne _ ⟨b, 0, none⟩ _ o h]
theorem set5_below {n b : Nat} {w w' : World} (h : Below n w w') (hb : n ≤ b) (x0 x1 x2 x3 x4 : Value) : Below n w (set5 w' b x0 x1 x2 x3 x4) :=
  ((((h.setCell (p := ⟨b, 0, none⟩) hb _).setCell (p := ⟨b, 1, none⟩) hb _).setCell (p := ⟨b, 2, none⟩) hb _).setCell (p := ⟨b, 3, none⟩) hb _).setCell (p := ⟨b, 4, none⟩) hb _
theorem set5_size (w : World) (b : Nat) (x0 x1 x2 x3 x4 : Value) : (set5 w b x0 x1 x2 x3 x4).heap.size = w.heap.size := by simp [set5, World.setCell]
theorem isTo_set5 {B : Nat} {w : World} {L : List (List UInt8)} {v : Value} (h : IsTo (New B w) w L v) {b : Nat} (hb : b < B) {B' : Nat} (hB : B' ≤ B) (x0 x1 x2 x3 x4 : Value) : IsTo (New B' (set5 w b x0 x1 x2 x3 x4)) (set5 w b x0 x1 x2 x3 x4) L v :=
  h.imp (fun k hk => ⟨Nat.le_trans hB hk.1, by rw [set5_size]; exact hk.2⟩) (fun k o hk => set5_cell w b x0 x1 x2 x3 x4 o (by have := hk.1; omega))
theorem isTo_go {B : Nat} {w w' : World} {L : List (List UInt8)} {v : Value} (h : IsTo (New B w) w L v) (hb : Below w.heap.size w w') {B' : Nat} (hB : B' ≤ B) : IsTo (New B' w') w' L v :=
  h.imp (fun k hk => ⟨Nat.le_trans hB hk.1, Nat.lt_of_lt_of_le hk.2 hb.size⟩) (fun k o hk => hb.cell (p := ⟨k, o, none⟩) hk.2)
def BoxC (w : World) (b : Nat) (x0 x1 x2 x3 x4 : Value) : Prop := w.heap[b]? = some (.cells #[x0, x1, x2, x3, x4] 127 (0, 0))
theorem BoxC.below {w w' : World} {b n : Nat} {x0 x1 x2 x3 x4 : Value} (h : BoxC w b x0 x1 x2 x3 x4) (hb : Below n w w') (hn : b < n) : BoxC w' b x0 x1 x2 x3 x4 := (hb.block b hn).trans h
theorem BoxC.cells {w : World} {b : Nat} {x0 x1 x2 x3 x4 : Value} (h : BoxC w b x0 x1 x2 x3 x4) : w.cell? ⟨b, 0, none⟩ = some x0 ∧ w.cell? ⟨b, 1, none⟩ = some x1 ∧ w.cell? ⟨b, 2, none⟩ = some x2 ∧ w.cell? ⟨b, 3, none⟩ = some x3 ∧ w.cell? ⟨b, 4, none⟩ = some x4 := by
  unfold BoxC at h
  simp [World.cell?, h]
theorem BoxC.frozen {w : World} {b : Nat} {x0 x1 x2 x3 x4 : Value} (h : BoxC w b x0 x1 x2 x3 x4) : w.frozen? ⟨b, 0, none⟩ = false ∧ w.frozen? ⟨b, 1, none⟩ = false ∧ w.frozen? ⟨b, 2, none⟩ = false ∧ w.frozen? ⟨b, 3, none⟩ = false ∧ w.frozen? ⟨b, 4, none⟩ = false := by
  unfold BoxC at h
  simp [World.frozen?, h]
theorem boxC_new (w : World) (x0 x1 x2 x3 x4 : Value) : BoxC (w.alloc (.cells #[x0, x1, x2, x3, x4] 127)) w.heap.size x0 x1 x2 x3 x4 := heap_alloc_new w _
theorem BoxC.store {w : World} {b : Nat} {x0 x1 x2 x3 x4 : Value} (h : BoxC w b x0 x1 x2 x3 x4) (y0 y1 y2 y3 y4 : Value) : BoxC (set5 w b y0 y1 y2 y3 y4) b y0 y1 y2 y3 y4 := by
  unfold BoxC at h ⊢
  simp [set5, World.setCell, Array.getElem?_modify, h]

end Go.Proofs.YtpnbcmblnplbgaaGreatDoor


namespace Go.Proofs.YtpnbcmblnplbgaaGreatDoor
open Go.RowKit
set_option linter.unusedVariables false

set_option maxRecDepth 100000 in
set_option maxHeartbeats 4000000 in
theorem class_any (N S M Y : ByteArray) (st : Bool) (w : World) (hl : LaidF w) (hM : plainB M.data.toList = true) (hY : plainB Y.data.toList = true) :
    Calls Tryz.prog 139 #[.agg #[.string N, .string S, .bool st, .string M, .string Y]] w fun e w' => ∃ u1 u2, e = .returned (.agg #[.string N, .string S, .bool st, u1, u2]) ∧ IsTo (New w.heap.size w') w' (Lib.fields M.data.toList) u1 ∧ IsTo (New w.heap.size w') w' (Lib.fields Y.data.toList) u2 ∧ Below w.heap.size w w' := by
  obtain ⟨W2, hW2⟩ : ∃ W2, W2 = (w.alloc (.cells #[.string N, .string S, .bool st, .string M, .string Y] 194)).alloc (.cells #[.string ⟨#[]⟩, .string ⟨#[]⟩, .bool false, .slice none 0 0, .slice none 0 0] 127) := ⟨_, rfl⟩
  have hB : Below w.heap.size w W2 := by rw [hW2]; exact ((Below.refl _ _).alloc (Nat.le_refl _) _).alloc (by simp) _
  have hz : W2.heap.size = w.heap.size + 2 := by rw [hW2]; simp
  have hLF : LaidF W2 := hl.below hB
  have a0 : W2.cell? ⟨w.heap.size, 0, none⟩ = some (.string N) := by rw [hW2]; simp
  have a1 : W2.cell? ⟨w.heap.size, 1, none⟩ = some (.string S) := by rw [hW2]; simp
  have a2 : W2.cell? ⟨w.heap.size, 2, none⟩ = some (.bool st) := by rw [hW2]; simp
  have a3 : W2.cell? ⟨w.heap.size, 3, none⟩ = some (.string M) := by rw [hW2]; simp
  have a4 : W2.cell? ⟨w.heap.size, 4, none⟩ = some (.string Y) := by rw [hW2]; simp
  have hbx : BoxC W2 (w.heap.size + 1) (.string ⟨#[]⟩) (.string ⟨#[]⟩) (.bool false) (.slice none 0 0) (.slice none 0 0) := by
    have := boxC_new (w.alloc (.cells #[.string N, .string S, .bool st, .string M, .string Y] 194)) (.string ⟨#[]⟩) (.string ⟨#[]⟩) (.bool false) (.slice none 0 0) (.slice none 0 0)
    rw [hW2]; simpa using this
  have HLF := Lib.hid (hLF.below (Below.refl _ _).drew)
  have HB := Lib.hid hB
  have HBx := Lib.hid hbx
  have HFM := Lib.hid (fun (W : World) (h : LaidF W) => fields_any M W h hM)
  have HFY := Lib.hid (fun (W : World) (h : LaidF W) => fields_any Y W h hY)
  have HW2 := Lib.hid hW2.symm
  clear hl hM hY hB hLF hW2 hbx
  go_enter Tryz.func139, Tryz.ntmps139
  go_upto_region 1 with (fail)
  rw [HW2.out]
  have hst : W2.cell? ⟨w.heap.size, 0, none⟩ = some (.string N) ∧ W2.cell? ⟨w.heap.size, 1, none⟩ = some (.string S) ∧ W2.cell? ⟨w.heap.size, 2, none⟩ = some (.bool st) ∧ W2.cell? ⟨w.heap.size, 3, none⟩ = some (.string M) ∧ W2.cell? ⟨w.heap.size, 4, none⟩ = some (.string Y) := ⟨a0, a1, a2, a3, a4⟩
  have HA := Lib.hid hst
  have hst0 : W2.drew.cell? ⟨w.heap.size, 0, none⟩ = some (.string N) ∧ W2.drew.cell? ⟨w.heap.size, 1, none⟩ = some (.string S) ∧ W2.drew.cell? ⟨w.heap.size, 2, none⟩ = some (.bool st) ∧ W2.drew.cell? ⟨w.heap.size, 3, none⟩ = some (.string M) ∧ W2.drew.cell? ⟨w.heap.size, 4, none⟩ = some (.string Y) := hst
  clear hst
  clear a0 a1 a2 a3 a4
  go_region_held3 (fun w' => w'.cell? ⟨w.heap.size, 0, none⟩ = some (.string N) ∧ w'.cell? ⟨w.heap.size, 1, none⟩ = some (.string S) ∧ w'.cell? ⟨w.heap.size, 2, none⟩ = some (.bool st) ∧ w'.cell? ⟨w.heap.size, 3, none⟩ = some (.string M) ∧ w'.cell? ⟨w.heap.size, 4, none⟩ = some (.string Y))
    (first | (with_reducible exact hst0) | (with_reducible exact hst3) | (with_reducible exact hst4) | exact ⟨(set5_cell _ _ _ _ _ _ _ 0 (by omega)).trans hst4.1, (set5_cell _ _ _ _ _ _ _ 1 (by omega)).trans hst4.2.1, (set5_cell _ _ _ _ _ _ _ 2 (by omega)).trans hst4.2.2.1, (set5_cell _ _ _ _ _ _ _ 3 (by omega)).trans hst4.2.2.2.1, (set5_cell _ _ _ _ _ _ _ 4 (by omega)).trans hst4.2.2.2.2⟩)
    (first
      | (go_at_call 166; (with_reducible refine (HFM.out _ HLF.out).mono ?_); rintro e w3 ⟨v1, rfl, hv1, hb3⟩; (obtain ⟨xa, xn, xc, hx1⟩ := isTo_slice hv1); subst hx1; have hz3 : w.heap.size + 2 ≤ w3.heap.size := by { have := hb3.size; simpa [hz] using this }; have hst3 : w3.cell? ⟨w.heap.size, 0, none⟩ = some (.string N) ∧ w3.cell? ⟨w.heap.size, 1, none⟩ = some (.string S) ∧ w3.cell? ⟨w.heap.size, 2, none⟩ = some (.bool st) ∧ w3.cell? ⟨w.heap.size, 3, none⟩ = some (.string M) ∧ w3.cell? ⟨w.heap.size, 4, none⟩ = some (.string Y) := ⟨(hb3.cell (p := ⟨w.heap.size, 0, none⟩) (by simp; omega)).trans HA.out.1, (hb3.cell (p := ⟨w.heap.size, 1, none⟩) (by simp; omega)).trans HA.out.2.1, (hb3.cell (p := ⟨w.heap.size, 2, none⟩) (by simp; omega)).trans HA.out.2.2.1, (hb3.cell (p := ⟨w.heap.size, 3, none⟩) (by simp; omega)).trans HA.out.2.2.2.1, (hb3.cell (p := ⟨w.heap.size, 4, none⟩) (by simp; omega)).trans HA.out.2.2.2.2⟩; have HX3 := Lib.hid ((HBx.out.below (n := W2.heap.size) (Below.refl _ _).drew (by omega)).below hb3 (by simp; omega)); have HLF3 := Lib.hid (HLF.out.below hb3); have HB3 := Lib.hid ((HB.out.trans ((Below.refl W2.heap.size W2).drew.mono (by omega))).trans (hb3.mono (by simp; omega))); have HV1 := Lib.hid hv1; clear hv1 hb3)
      | (go_at_call 166; (with_reducible refine (HFY.out _ HLF3.out).mono ?_); rintro e w4 ⟨v2, rfl, hv2, hb4⟩; (obtain ⟨ya, yn, yc, hx2⟩ := isTo_slice hv2); subst hx2; have hz4 := hb4.size; have hst4 : w4.cell? ⟨w.heap.size, 0, none⟩ = some (.string N) ∧ w4.cell? ⟨w.heap.size, 1, none⟩ = some (.string S) ∧ w4.cell? ⟨w.heap.size, 2, none⟩ = some (.bool st) ∧ w4.cell? ⟨w.heap.size, 3, none⟩ = some (.string M) ∧ w4.cell? ⟨w.heap.size, 4, none⟩ = some (.string Y) := ⟨(hb4.cell (p := ⟨w.heap.size, 0, none⟩) (show w.heap.size < w3.heap.size by omega)).trans hst3.1, (hb4.cell (p := ⟨w.heap.size, 1, none⟩) (show w.heap.size < w3.heap.size by omega)).trans hst3.2.1, (hb4.cell (p := ⟨w.heap.size, 2, none⟩) (show w.heap.size < w3.heap.size by omega)).trans hst3.2.2.1, (hb4.cell (p := ⟨w.heap.size, 3, none⟩) (show w.heap.size < w3.heap.size by omega)).trans hst3.2.2.2.1, (hb4.cell (p := ⟨w.heap.size, 4, none⟩) (show w.heap.size < w3.heap.size by omega)).trans hst3.2.2.2.2⟩; have HX4 := Lib.hid (HX3.out.below hb4 (by omega)); (obtain ⟨m0, m1, m2, m3, m4⟩ := HX4.out.cells); (obtain ⟨n0, n1, n2, n3, n4⟩ := HX4.out.frozen); have HB4 := Lib.hid (bthen HB3.out hb4); have HV1' := Lib.hid (isTo_go HV1.out hb4 (Nat.le_refl _)); have HV2 := Lib.hid hv2; clear hv2 hb4))
  all_goals
    go_split_ands
    go_wp2
    refine bodyPost_ret (v := .agg #[.string N, .string S, .bool st, .slice xa xn xc, .slice ya yn yc]) (by
      have hbx := (HX4.out.store (.string N) (.string S) (.bool st) (.slice xa xn xc) (.slice ya yn yc)).cells
      obtain ⟨p0, p1, p2, p3, p4⟩ := hbx
      simp [results, Tryz.results139, go_sem, p0, p1, p2, p3, p4]) rfl ⟨.slice xa xn xc, .slice ya yn yc, rfl, ?_, ?_, ?_⟩
    · exact isTo_set5 HV1'.out (by simp; omega) (by simp; omega) _ _ _ _ _
    · exact isTo_set5 HV2.out (by omega) (by omega) _ _ _ _ _
    · exact set5_below HB4.out (by omega) _ _ _ _ _
end Go.Proofs.YtpnbcmblnplbgaaGreatDoor


namespace Go.Proofs.YtpnbcmblnplbgaaGreatDoor
open Go.RowKit
set_option linter.unusedVariables false

def FindW (w : World) (o : Option CT) (e : Ending) (w' : World) : Prop := Below w.heap.size w w' ∧ match o with
  | none => e = .returned (.tuple #[noC, .bool false])
  | some c => ∃ u1 u2, e = .returned (.tuple #[.agg #[strV c.name, strV c.sup, .bool c.st, u1, u2], .bool true]) ∧ IsTo (New w.heap.size w') w' c.mustL u1 ∧ IsTo (New w.heap.size w') w' c.mayL u2

set_option maxRecDepth 100000 in
set_option maxHeartbeats 4000000 in
theorem findC_any (n : ByteArray) (w : World) (hl : LaidF w) : Calls Tryz.prog 116 #[.string n] w (FindW w (findC n.data.toList)) := by
  obtain ⟨R, hR⟩ : ∃ R, R = findC n.data.toList := ⟨_, rfl⟩
  rw [← hR]
  have HR := Lib.hid hR
  obtain ⟨W0, hW0⟩ : ∃ W0, W0 = w.alloc (.cells #[.string ⟨#[]⟩, .string ⟨#[]⟩, .bool false, .slice none 0 0, .slice none 0 0] 127) := ⟨_, rfl⟩
  have hB0 : Below w.heap.size w W0 := by rw [hW0]; exact (Below.refl _ _).alloc (Nat.le_refl _) _
  have hbx : BoxC W0 w.heap.size (.string ⟨#[]⟩) (.string ⟨#[]⟩) (.bool false) (.slice none 0 0) (.slice none 0 0) := by rw [hW0]; exact boxC_new _ _ _ _ _ _
  have hz0 : W0.heap.size = w.heap.size + 1 := by rw [hW0]; simp
  have HB0 := Lib.hid hB0
  have HBx := Lib.hid hbx
  have HLF := Lib.hid (hl.below hB0)
  have HW0 := Lib.hid hW0.symm
  clear hR hW0 hB0 hbx hl
  go_enter Tryz.func116, Tryz.ntmps116
  go_upto_region 1 with (fail)
  rw [HW0.out]
  go_wp2_with (go_at_call 138; refine (rows_any _).mono ?_; rintro e w2 ⟨rfl, hb2⟩; have HB2 := Lib.hid hb2; clear hb2)
  go_loopw [7] (fun i wr => ∃ k : Nat, k ≤ 7 ∧ i = .int .i64 k ∧ Hid (∀ i, (h : i < classL.length) → i < k → classL[i].name ≠ n.data.toList) ∧ Below W0.heap.size W0 wr) (fun i _ => 7 - (intOf i).toNat)
  case atStart => exact ⟨0, by omega, rfl, Lib.hid (fun i _ h => absurd h (by omega)), HB2.out⟩
  case round =>
    obtain ⟨k, hk, rfl, HN, hb⟩ := hrel
    have HB := Lib.hid hb
    have hsz := hb.size
    have HX := Lib.hid (HBx.out.below hb (by omega))
    clear hb
    by_cases hlt : k < 7
    · have t1 : decide ((k : Int) < 7) = true := by simp; omega
      have hkl : k < classL.length := hlt
      have hix := row_at k hkl
      obtain ⟨X, hX⟩ : ∃ X : ByteArray, X = ⟨classL[k].name.toArray⟩ := ⟨_, rfl⟩
      obtain ⟨S, hS⟩ : ∃ X : ByteArray, X = ⟨classL[k].sup.toArray⟩ := ⟨_, rfl⟩
      obtain ⟨M, hM⟩ : ∃ X : ByteArray, X = ⟨classL[k].must.toArray⟩ := ⟨_, rfl⟩
      obtain ⟨Y, hY⟩ : ∃ X : ByteArray, X = ⟨classL[k].may.toArray⟩ := ⟨_, rfl⟩
      obtain ⟨st, hst⟩ : ∃ b, b = classL[k].st := ⟨_, rfl⟩
      have hpl := class_plain classL[k] (List.getElem_mem _)
      have hMl : M.data.toList = classL[k].must := by rw [hM]
      have hYl : Y.data.toList = classL[k].may := by rw [hY]
      simp only [rowV, strV, ← hX, ← hS, ← hM, ← hY, ← hst] at hix
      have hcl := fun W (h : LaidF W) => class_any X S M Y st W h (by rw [hMl]; exact hpl.1) (by rw [hYl]; exact hpl.2)
      have HCl := Lib.hid hcl
      by_cases he : X = n
      · have hf : R = some classL[k] := by rw [HR.out]; exact findC_at hkl HN.out (by rw [← he, hX])
        subst he
        subst hf
        have HMl := Lib.hid hMl
        have HYl := Lib.hid hYl
        have HXX := Lib.hid hX
        have HSS := Lib.hid hS
        have HST := Lib.hid hst
        clear hpl hMl hYl hcl HN hX hS hM hY hst HR
        have HA := Lib.hid (HB.out.alloc hsz (.cells #[.string X, .string S, .bool st, .string M, .string Y] 194))
        go_wp2_with (go_at_call 139; refine (HCl.out _ (HLF.out.below HA.out)).mono ?_; rintro e w3 ⟨u1, u2, rfl, h1, h2, hb3⟩; (obtain ⟨xa, xn, xc, hx1⟩ := isTo_slice h1); subst hx1; (obtain ⟨ya, yn, yc, hx2⟩ := isTo_slice h2); subst hx2; have HX3 := Lib.hid (HX.out.below (((Below.refl wr.heap.size wr).alloc (Nat.le_refl _) (.cells #[.string X, .string S, .bool st, .string M, .string Y] 194)).trans (hb3.mono (by simp))) (by omega)); (obtain ⟨m0, m1, m2, m3, m4⟩ := HX3.out.cells); (obtain ⟨n0, n1, n2, n3, n4⟩ := HX3.out.frozen); have hz3 := hb3.size; (simp only [World.size_alloc] at hz3); have HB3 := Lib.hid (HA.out.trans (hb3.mono (by simp; omega))); have H1 := Lib.hid h1; have H2 := Lib.hid h2; clear hb3 h1 h2)
        refine bodyPost_ret (v := .tuple #[.agg #[.string X, .string S, .bool st, .slice xa xn xc, .slice ya yn yc], .bool true]) (by
          have hbx := (HX3.out.store (.string X) (.string S) (.bool st) (.slice xa xn xc) (.slice ya yn yc)).cells
          obtain ⟨p0, p1, p2, p3, p4⟩ := hbx
          simp [results, Tryz.results116, go_sem, p0, p1, p2, p3, p4]) rfl ⟨?_, .slice xa xn xc, .slice ya yn yc, ?_, ?_, ?_⟩
        · exact set5_below (HB0.out.trans (HB3.out.mono HB0.out.size)) (Nat.le_refl _) _ _ _ _ _
        · rw [HXX.out, HSS.out, HST.out]; rfl
        · have := isTo_set5 (b := w.heap.size) H1.out (by simp; omega) (B' := w.heap.size) (by simp; omega) (.string X) (.string S) (.bool st) (.slice xa xn xc) (.slice ya yn yc)
          rw [HMl.out] at this
          exact this
        · have := isTo_set5 (b := w.heap.size) H2.out (by simp; omega) (B' := w.heap.size) (by simp; omega) (.string X) (.string S) (.bool st) (.slice xa xn xc) (.slice ya yn yc)
          rw [HYl.out] at this
          exact this
      · have hne : classL[k].name ≠ n.data.toList := fun e => he (by rw [hX, e])
        have HN2 := Lib.hid (fun i (h : i < classL.length) (hi : i < k + 1) => (show classL[i].name ≠ n.data.toList from if e : i = k then by subst e; exact hne else HN.out i h (by omega)))
        have t2 := str_ne he
        clear hne hX hS hM hY hst HN hpl hMl hYl hcl HR
        go_wp2
        exact ⟨⟨k + 1, by omega, by go_num, HN2, HB.out.alloc (by omega) _⟩, by simp [intOf]; omega⟩
    · obtain rfl : k = 7 := by omega
      have hf : R = none := by rw [HR.out]; exact findC_no (fun i h => HN.out i h (by simpa [classL] using h))
      subst hf
      obtain ⟨m0, m1, m2, m3, m4⟩ := HX.out.cells
      obtain ⟨n0, n1, n2, n3, n4⟩ := HX.out.frozen
      clear HN HR
      go_wp2
      refine bodyPost_ret (v := .tuple #[noC, .bool false]) (by
        have hbx := (HX.out.store (.string ⟨#[]⟩) (.string ⟨#[]⟩) (.bool false) (.slice none 0 0) (.slice none 0 0)).cells
        obtain ⟨p0, p1, p2, p3, p4⟩ := hbx
        simp [results, Tryz.results116, go_sem, p0, p1, p2, p3, p4, noC]) rfl ⟨?_, rfl⟩
      exact set5_below (HB0.out.trans (HB.out.mono HB0.out.size)) (Nat.le_refl _) _ _ _ _ _
end Go.Proofs.YtpnbcmblnplbgaaGreatDoor

