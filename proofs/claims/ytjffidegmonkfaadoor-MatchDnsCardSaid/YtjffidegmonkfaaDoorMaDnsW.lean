/- Members are alike as names are: the walk. -/
import Derived.Test.YtjffidegmonkfaaDoorMaNormsW
import Derived.Test.YtjffidegmonkfaaDoorRefKeyW
import Derived.Deep.Cut
namespace Go.Proofs.YtjffidegmonkfaaDoor
open Go.RowKit
set_option linter.unusedVariables false

theorem field_said0' (w : World) (s : ByteArray) (b : Bool) : (Instr.field 33 (.agg #[.string s, .bool b]) 0).run Tryd.prog w = .ok (.string s) w := by kernel_rfl
theorem field_said1' (w : World) (s : ByteArray) (b : Bool) : (Instr.field 33 (.agg #[.string s, .bool b]) 1).run Tryd.prog w = .ok (.bool b) w := by kernel_rfl
theorem rule_member : ruleD [109, 101, 109, 98, 101, 114] = 3 := by decide
theorem rule_MEMBER : ruleD [77, 69, 77, 66, 69, 82] = 3 := by decide
theorem isL_two (w : World) (T1 V1 T2 V2 : ByteArray) : IsL (w.alloc (.cells #[.string T1, .string V1, .string T2, .string V2] 25)).heap.size (w.alloc (.cells #[.string T1, .string V1, .string T2, .string V2] 25))
    [(T1.data.toList, V1.data.toList), (T2.data.toList, V2.data.toList)] (.slice (some ⟨w.heap.size, 0, none⟩) 2 2) := by
  refine ⟨_, _, rfl, by unfold maxLen; simp, fun j hj => ⟨w.heap.size, 0, rfl, by simp, ?_⟩⟩
  have : j = 0 ∨ j = 1 := by simp at hj; omega
  rcases this with rfl | rfl <;> simp [strV]
theorem text2_any (w : World) (T1 V1 T2 V2 : ByteArray) (h1 : T1.size ≤ 1000) (h2 : V1.size ≤ 1000) (h3 : T2.size ≤ 1000) (h4 : V2.size ≤ 1000) (A : ByteArray) (hA : A.data.toList = textD [(T1.data.toList, V1.data.toList), (T2.data.toList, V2.data.toList)]) :
    Calls Tryd.prog 5 #[.slice (some ⟨w.heap.size, 0, none⟩) 2 2] (w.alloc (.cells #[.string T1, .string V1, .string T2, .string V2] 25)) fun e w' => e = .returned (.string A) ∧ Below w.heap.size w w' := by
  have hsm : smallL [(T1.data.toList, V1.data.toList), (T2.data.toList, V2.data.toList)] := by
    refine ⟨by simp, fun r hr => ?_⟩
    simp only [List.mem_cons, List.not_mem_nil, or_false] at hr
    rcases hr with rfl | rfl
    · exact ⟨by rw [bytes_len]; exact h1, by rw [bytes_len]; exact h2⟩
    · exact ⟨by rw [bytes_len]; exact h3, by rw [bytes_len]; exact h4⟩
  refine (textRef_any _ hsm _ _ (isL_two w T1 V1 T2 V2)).mono fun e w' ⟨he, hb⟩ => ⟨?_, ((Below.refl _ _).alloc (Nat.le_refl _) _).trans (hb.mono (by simp))⟩
  rw [he, ← hA]; simp [strV]

theorem two_ok (t v : List UInt8) (u x : List UInt8) (ht : okType t = true) (hu : okType u = true) (hv : v ≠ []) (hv1 : v.length ≤ 100) (hx : x ≠ []) (hx1 : x.length ≤ 100) (fv : fold v ≠ []) (fx : fold x ≠ []) :
    keyD (textD [(t, v), (u, x)]) = some (textD [(low t, fold v), (low u, fold x)]) := by
  have e : ∀ l : List UInt8, l ≠ [] → l.isEmpty = false := fun l h => by cases l with | nil => exact absurd rfl h | cons _ _ => rfl
  have h1 : okL [(t, v), (u, x)] = true := by
    unfold okL okR
    simp [ht, hu, e _ hv, e _ hx, hv1, hx1]
  have h2 : [(t, v), (u, x)].all okF = true := by simp [okF, e _ fv, e _ fx]
  exact key_text h1 h2
theorem normD_dn {v k : List UInt8} (h0 : v ≠ []) (h1 : v.length ≤ 100) (hk : keyD v = some k) (hne : k ≠ []) : normD 3 v = some k := by
  unfold normD
  rw [if_neg (by rintro (h | h); exact h0 h; omega), if_neg (by decide), if_neg (by decide), if_pos rfl, hk]
  simp only
  rw [if_neg hne]
theorem normD_dno {v : List UInt8} (h0 : v ≠ []) (h1 : v.length ≤ 100) (hk : keyD v = none) : normD 3 v = none := by
  unfold normD
  rw [if_neg (by rintro (h | h); exact h0 h; omega), if_neg (by decide), if_neg (by decide), if_pos rfl, hk]
theorem normD_great {r : Nat} {v : List UInt8} (h1 : 100 < v.length) : normD r v = none := by unfold normD; rw [if_pos (.inr h1)]
theorem key_ne {v k : List UInt8} (h0 : v ≠ []) (hk : keyD v = some k) : k ≠ [] := by
  unfold keyD at hk
  cases hp : parseD v with
  | none => rw [hp] at hk; cases hk
  | some l =>
    rw [hp] at hk
    simp only at hk
    split at hk
    · cases hk
      cases l with
      | nil =>
        unfold parseD at hp
        rw [if_neg h0] at hp
        exact absurd rfl (par_ok 8 _ _ hp).2.2
      | cons r l => exact text_ne
    · cases hk

set_option maxRecDepth 100000 in
set_option maxHeartbeats 8000000 in
theorem dns_walk (s t : ByteArray) (w : World) (hw : LaidW w) :
    Calls Tryd.prog 3 #[.string s, .string t] w fun e w' => e = .returned (.bool true) ∧ Below w.heap.size w w' := by
  have HW := Lib.hid hw
  clear hw
  by_cases hs : 30 < s.size
  · have t1 : decide ((30 : Int) < (s.size : Int)) = true := by simp; omega
    go_enter Tryd.func3, Tryd.ntmps3
    go_wp2_with (go_at_call 4; refine (awake3_any _ HW.out).mono ?_; rintro e w2 ⟨rfl, hb2⟩; have HB := Lib.hid hb2; clear hb2)
    go_ret
    exact ⟨rfl, HB.out⟩
  have t1 : decide ((30 : Int) < (s.size : Int)) = false := by simp; omega
  by_cases ht : 30 < t.size
  · have t2 : decide ((30 : Int) < (t.size : Int)) = true := by simp; omega
    go_enter Tryd.func3, Tryd.ntmps3
    go_wp2_with (go_at_call 4; refine (awake3_any _ HW.out).mono ?_; rintro e w2 ⟨rfl, hb2⟩; have HB := Lib.hid hb2; clear hb2)
    go_ret
    exact ⟨rfl, HB.out⟩
  have t2 : decide ((30 : Int) < (t.size : Int)) = false := by simp; omega
  -- the texts
  obtain ⟨S, hS⟩ : ∃ S, S = lowB s := ⟨_, rfl⟩
  have hSl : S.data.toList = low s.data.toList := by rw [hS, lowB_list]
  have hSs : S.size ≤ 30 := by rw [hS, lowB_size]; omega
  have hlo := fun w => lowerRef_any s w (by omega)
  rw [← hS] at hlo
  obtain ⟨VA, hVA⟩ : ∃ V : ByteArray, ⟨#[97]⟩ ++ s ++ ⟨#[98]⟩ = V := ⟨_, rfl⟩
  obtain ⟨VB, hVB⟩ : ∃ V : ByteArray, ⟨#[65]⟩ ++ S ++ ⟨#[66]⟩ = V := ⟨_, rfl⟩
  obtain ⟨VC, hVC⟩ : ∃ V : ByteArray, ⟨#[97]⟩ ++ t ++ ⟨#[98]⟩ = V := ⟨_, rfl⟩
  obtain ⟨XS, hXS⟩ : ∃ V : ByteArray, ⟨#[120]⟩ ++ s = V := ⟨_, rfl⟩
  have lVA : VA.data.toList = 97 :: (s.data.toList ++ [98]) := by rw [← hVA, app_list, app_list]; rfl
  have lVB : VB.data.toList = 65 :: (S.data.toList ++ [66]) := by rw [← hVB, app_list, app_list]; rfl
  have lVC : VC.data.toList = 97 :: (t.data.toList ++ [98]) := by rw [← hVC, app_list, app_list]; rfl
  have lXS : XS.data.toList = 120 :: s.data.toList := by rw [← hXS, app_list]; rfl
  have zVA : VA.size ≤ 32 := by rw [← bytes_len, lVA]; simp; omega
  have zVB : VB.size ≤ 32 := by rw [← bytes_len, lVB]; simp; omega
  have zVC : VC.size ≤ 32 := by rw [← bytes_len, lVC]; simp; omega
  have zXS : XS.size ≤ 31 := by rw [← bytes_len, lXS]; simp; omega
  have y1 : (⟨#[97]⟩ ++ s : ByteArray).size ≤ 31 := by rw [← bytes_len, app_list]; simp; omega
  have y2 : (⟨#[65]⟩ ++ S : ByteArray).size ≤ 31 := by rw [← bytes_len, app_list]; simp; omega
  have y3 : (⟨#[97]⟩ ++ t : ByteArray).size ≤ 31 := by rw [← bytes_len, app_list]; simp; omega
  have z1 : (⟨#[97]⟩ : ByteArray).size = 1 := rfl
  have z2 : (⟨#[98]⟩ : ByteArray).size = 1 := rfl
  have z3 : (⟨#[65]⟩ : ByteArray).size = 1 := rfl
  have z4 : (⟨#[66]⟩ : ByteArray).size = 1 := rfl
  have z5 : (⟨#[120]⟩ : ByteArray).size = 1 := rfl
  obtain ⟨A, lA⟩ : ∃ A : ByteArray, A.data.toList = textD [([67, 78], VA.data.toList), ([111], [120])] := ⟨ofL _, ofL_list _⟩
  obtain ⟨B, lB⟩ : ∃ A : ByteArray, A.data.toList = textD [([99, 110], VB.data.toList), ([79], [88, 32])] := ⟨ofL _, ofL_list _⟩
  obtain ⟨C, lC⟩ : ∃ A : ByteArray, A.data.toList = textD [([99, 110], VC.data.toList), ([111], [120])] := ⟨ofL _, ofL_list _⟩
  have fA : fold VA.data.toList ≠ [] := by rw [lVA]; exact fold_some (by decide)
  have fC : fold VC.data.toList ≠ [] := by rw [lVC]; exact fold_some (by decide)
  have fB : fold VB.data.toList ≠ [] := by rw [lVB]; exact fold_some (by decide)
  have fAB : fold VB.data.toList = fold VA.data.toList := by
    rw [← fold_low VB.data.toList, ← fold_low VA.data.toList, lVA, lVB, hSl]
    simp only [low, List.map_cons, List.map_append, List.map_map]
    have e : (lowC ∘ lowC) = lowC := by funext c; exact lowC_low c
    rw [e]
    rfl
  have neA : VA.data.toList ≠ [] := by rw [lVA]; simp
  have neB : VB.data.toList ≠ [] := by rw [lVB]; simp
  have neC : VC.data.toList ≠ [] := by rw [lVC]; simp
  obtain ⟨K, lK⟩ : ∃ A : ByteArray, A.data.toList = textD [([99, 110], fold VA.data.toList), ([111], [120])] := ⟨ofL _, ofL_list _⟩
  obtain ⟨KC, lKC⟩ : ∃ A : ByteArray, A.data.toList = textD [([99, 110], fold VC.data.toList), ([111], [120])] := ⟨ofL _, ofL_list _⟩
  have kA : keyD A.data.toList = some K.data.toList := by
    rw [lA, lK]; exact two_ok _ _ _ _ (by decide) (by decide) neA (by rw [bytes_len]; omega) (by simp) (by simp) fA (by decide)
  have kB : keyD B.data.toList = some K.data.toList := by
    rw [lB, lK, ← fAB]; exact two_ok _ _ _ _ (by decide) (by decide) neB (by rw [bytes_len]; omega) (by simp) (by simp) fB (by decide)
  have kC : keyD C.data.toList = some KC.data.toList := by
    rw [lC, lKC]; exact two_ok _ _ _ _ (by decide) (by decide) neC (by rw [bytes_len]; omega) (by simp) (by simp) fC (by decide)
  have nA : A.data.toList ≠ [] := by rw [lA]; exact text_ne
  have nB : B.data.toList ≠ [] := by rw [lB]; exact text_ne
  have nC : C.data.toList ≠ [] := by rw [lC]; exact text_ne
  have nK : K.data.toList ≠ [] := by rw [lK]; exact text_ne
  have nKC : KC.data.toList ≠ [] := by rw [lKC]; exact text_ne
  have big : ∀ (V : ByteArray) (T u x : List UInt8) (Z : ByteArray), Z.data.toList = textD [(T, V.data.toList), (u, x)] → T.length ≤ 2 → u.length ≤ 2 → x.length ≤ 2 → V.size ≤ 32 → Z.size ≤ 100000 := by
    intro V T u x Z hZ h1 h2 h3 h4
    have hsm : smallL [(T, V.data.toList), (u, x)] := by
      refine ⟨by simp, fun r hr => ?_⟩
      simp only [List.mem_cons, List.not_mem_nil, or_false] at hr
      rcases hr with rfl | rfl
      · exact ⟨by simp; omega, by simp; omega⟩
      · exact ⟨by simp; omega, by simp; omega⟩
    have h5 := textT_len [(T, V.data.toList), (u, x)] true hsm.2
    rw [textT_true, ← hZ, bytes_len] at h5
    simp at h5
    omega
  have zA : A.size ≤ 100000 := big VA _ _ _ A lA (by simp) (by simp) (by simp) zVA
  have zC : C.size ≤ 100000 := big VC _ _ _ C lC (by simp) (by simp) (by simp) zVC
  obtain ⟨nb, hnb⟩ : ∃ nb, (keyD XS.data.toList).isSome = nb := ⟨_, rfl⟩
  -- what each call answers
  have cA := fun w => text2_any w ⟨#[67, 78]⟩ VA ⟨#[111]⟩ ⟨#[120]⟩ (by decide) (by omega) (by decide) (by decide) A lA
  have cB := fun w => text2_any w ⟨#[99, 110]⟩ VB ⟨#[79]⟩ ⟨#[88, 32]⟩ (by decide) (by omega) (by decide) (by decide) B lB
  have cC := fun w => text2_any w ⟨#[99, 110]⟩ VC ⟨#[111]⟩ ⟨#[120]⟩ (by decide) (by omega) (by decide) (by decide) C lC
  have rA : ∀ w, Calls Tryd.prog 9 #[.string A] w fun e w' => e = .returned (.agg #[.string K, .bool true]) ∧ Below w.heap.size w w' := fun w => by
    have := keyRef_any A zA w
    rw [kA] at this
    simpa [saidV] using this
  have rC : ∀ w, Calls Tryd.prog 9 #[.string C] w fun e w' => e = .returned (.agg #[.string KC, .bool true]) ∧ Below w.heap.size w w' := fun w => by
    have := keyRef_any C zC w
    rw [kC] at this
    simpa [saidV] using this
  have rX : ∃ Z : ByteArray, (∀ w, Calls Tryd.prog 9 #[.string XS] w fun e w' => e = .returned (.agg #[.string Z, .bool nb]) ∧ Below w.heap.size w w') ∧ (∀ w, LaidW w → Calls Tryd.prog 7 #[.string ⟨#[109, 101, 109, 98, 101, 114]⟩, .string XS] w fun e w' => e = .returned (.tuple #[.string Z, .bool nb]) ∧ Below w.heap.size w w') := by
    have h1 := fun w => keyRef_any XS (by omega) w
    have nX : XS.data.toList ≠ [] := by rw [lXS]; simp
    cases hk : keyD XS.data.toList with
    | none =>
      rw [hk] at h1 hnb
      subst hnb
      exact ⟨⟨#[]⟩, h1, fun w hw => norm_at _ XS 3 rule_member none (normD_dno nX (by rw [bytes_len]; omega) hk) _ rfl w hw⟩
    | some k =>
      rw [hk] at h1 hnb
      subst hnb
      exact ⟨⟨k.toArray⟩, h1, fun w hw => norm_at _ XS 3 rule_member (some k) (normD_dn nX (by rw [bytes_len]; omega) hk (key_ne nX hk)) _ rfl w hw⟩
  obtain ⟨Z, rX, mX⟩ := rX
  have lAC := fun w hw => less_no ⟨#[109, 101, 109, 98, 101, 114]⟩ A C w hw (.inr (.inr (by rw [show ruleD (⟨#[109, 101, 109, 98, 101, 114]⟩ : ByteArray).data.toList = 3 from rule_member]; decide)))
  have q1 : (nb == nb) = true := by simp
  obtain ⟨kb, hkb⟩ : ∃ kb, (K.toList == KC.toList) = kb := ⟨_, rfl⟩
  have q2 : (kb == kb) = true := by simp
  have hfl0 := field_said0'
  have hfl1 := field_said1'
  have u100 : decide ((s.size : Int) < 100) = true := by simp; omega
  have HLo := Lib.hid hlo
  have CA := Lib.hid cA
  have CB := Lib.hid cB
  have CC := Lib.hid cC
  have RA := Lib.hid rA
  have RC := Lib.hid rC
  have RX := Lib.hid rX
  have MX := Lib.hid mX
  have LAC := Lib.hid lAC
  clear hlo cA cB cC rA rC rX mX lAC big
  by_cases hA : 100 < A.size
  · have g1 : decide ((100 : Int) < (A.size : Int)) = true := by simp; omega
    have MA := Lib.hid (fun w hw => norm_at ⟨#[109, 101, 109, 98, 101, 114]⟩ A 3 rule_member none (normD_great (by rw [bytes_len]; exact hA)) _ rfl w hw)
    simp only [saidP] at MA
    have SAB := Lib.hid True.intro
    have SAC := Lib.hid True.intro
    clear hSl lVA lVB lVC lXS lA lB lC fA fB fC fAB neA neB neC lK lKC kA kB kC nA nB nC nK nKC hnb hS
    go_enter Tryd.func3, Tryd.ntmps3
    have HB := Lib.hid (Below.refl w.heap.size w)
    go_upto_region 9 with (first
      | (go_at_call 5; first | ((with_reducible refine (CA.out _).mono ?_); rintro e w9 ⟨rfl, hb9⟩; have HB := Lib.hid (bthen HB.out hb9); clear hb9) | ((with_reducible refine (CB.out _).mono ?_); rintro e w9 ⟨rfl, hb9⟩; have HB := Lib.hid (bthen HB.out hb9); clear hb9) | ((with_reducible refine (CC.out _).mono ?_); rintro e w9 ⟨rfl, hb9⟩; have HB := Lib.hid (bthen HB.out hb9); clear hb9))
      | (go_at_call 6; ((with_reducible refine (HLo.out _).mono ?_); rintro e w9 ⟨rfl, hb9⟩; have HB := Lib.hid (bthen HB.out hb9); clear hb9))
      | (go_at_call 7; first | ((with_reducible refine (MA.out _ (HW.out.below HB.out)).mono ?_); rintro e w9 ⟨rfl, hb9⟩; have HB := Lib.hid (bthen HB.out hb9); clear hb9) | ((with_reducible refine (MX.out _ (HW.out.below HB.out)).mono ?_); rintro e w9 ⟨rfl, hb9⟩; have HB := Lib.hid (bthen HB.out hb9); clear hb9))
      | (go_at_call 8; ((with_reducible refine (LAC.out _ (HW.out.below HB.out)).mono ?_); rintro e w9 ⟨rfl, hb9⟩; have HB := Lib.hid (bthen HB.out hb9); clear hb9))
      | (go_at_call 4; ((with_reducible refine (awake3_any _ (HW.out.below HB.out)).mono ?_); rintro e w9 ⟨rfl, hb9⟩; have HB := Lib.hid (bthen HB.out hb9); clear hb9)))
    clear t1 t2 hVA hVB hVC y1 y2 y3 z1 z2 z3 z4 zVA zVB zVC zA zC
    simp only [List.append_eq, List.cons_append, List.nil_append]
    go_wp2_with (first
      | (go_at_call 9; first | ((with_reducible refine (RA.out _).mono ?_); rintro e w9 ⟨rfl, hb9⟩; have HB := Lib.hid (bthen HB.out hb9); clear hb9) | ((with_reducible refine (RC.out _).mono ?_); rintro e w9 ⟨rfl, hb9⟩; have HB := Lib.hid (bthen HB.out hb9); clear hb9) | ((with_reducible refine (RX.out _).mono ?_); rintro e w9 ⟨rfl, hb9⟩; have HB := Lib.hid (bthen HB.out hb9); clear hb9))
      | (go_at_call 10; first | ((with_reducible refine (SAB.out _ (HW.out.below HB.out)).mono ?_); rintro e w9 ⟨rfl, hb9⟩; have HB := Lib.hid (bthen HB.out hb9); clear hb9) | ((with_reducible refine (SAC.out _ (HW.out.below HB.out)).mono ?_); rintro e w9 ⟨rfl, hb9⟩; have HB := Lib.hid (bthen HB.out hb9); clear hb9))
      | (go_at_call 4; ((with_reducible refine (awake3_any _ (HW.out.below HB.out)).mono ?_); rintro e w9 ⟨rfl, hb9⟩; have HB := Lib.hid (bthen HB.out hb9); clear hb9)))
    all_goals (go_ret; exact ⟨rfl, HB.out⟩)
  have g1 : decide ((100 : Int) < (A.size : Int)) = false := by simp; omega
  have mA := normD_dn nA (by rw [bytes_len]; omega) kA nK
  have MA := Lib.hid (fun w hw => norm_at ⟨#[109, 101, 109, 98, 101, 114]⟩ A 3 rule_member (some K.data.toList) mA (.tuple #[.string K, .bool true]) (by simp [saidP]) w hw)
  by_cases hB : 100 < B.size
  · have g2 : decide ((100 : Int) < (B.size : Int)) = true := by simp; omega
    have SAB := Lib.hid True.intro
    by_cases hC : 100 < C.size
    · have g3 : decide ((100 : Int) < (C.size : Int)) = true := by simp; omega
      have SAC := Lib.hid True.intro
      clear hSl lVA lVB lVC lXS lA lB lC fA fB fC fAB neA neB neC lK lKC kA kB kC nA nB nC nK nKC hnb hS mA
      go_enter Tryd.func3, Tryd.ntmps3
      have HB := Lib.hid (Below.refl w.heap.size w)
      go_upto_region 9 with (first
        | (go_at_call 5; first | ((with_reducible refine (CA.out _).mono ?_); rintro e w9 ⟨rfl, hb9⟩; have HB := Lib.hid (bthen HB.out hb9); clear hb9) | ((with_reducible refine (CB.out _).mono ?_); rintro e w9 ⟨rfl, hb9⟩; have HB := Lib.hid (bthen HB.out hb9); clear hb9) | ((with_reducible refine (CC.out _).mono ?_); rintro e w9 ⟨rfl, hb9⟩; have HB := Lib.hid (bthen HB.out hb9); clear hb9))
        | (go_at_call 6; ((with_reducible refine (HLo.out _).mono ?_); rintro e w9 ⟨rfl, hb9⟩; have HB := Lib.hid (bthen HB.out hb9); clear hb9))
        | (go_at_call 7; first | ((with_reducible refine (MA.out _ (HW.out.below HB.out)).mono ?_); rintro e w9 ⟨rfl, hb9⟩; have HB := Lib.hid (bthen HB.out hb9); clear hb9) | ((with_reducible refine (MX.out _ (HW.out.below HB.out)).mono ?_); rintro e w9 ⟨rfl, hb9⟩; have HB := Lib.hid (bthen HB.out hb9); clear hb9))
        | (go_at_call 8; ((with_reducible refine (LAC.out _ (HW.out.below HB.out)).mono ?_); rintro e w9 ⟨rfl, hb9⟩; have HB := Lib.hid (bthen HB.out hb9); clear hb9))
        | (go_at_call 4; ((with_reducible refine (awake3_any _ (HW.out.below HB.out)).mono ?_); rintro e w9 ⟨rfl, hb9⟩; have HB := Lib.hid (bthen HB.out hb9); clear hb9)))
      clear t1 t2 hVA hVB hVC y1 y2 y3 z1 z2 z3 z4 zVA zVB zVC zA zC
      simp only [List.append_eq, List.cons_append, List.nil_append]
      go_wp2_with (first
        | (go_at_call 9; first | ((with_reducible refine (RA.out _).mono ?_); rintro e w9 ⟨rfl, hb9⟩; have HB := Lib.hid (bthen HB.out hb9); clear hb9) | ((with_reducible refine (RC.out _).mono ?_); rintro e w9 ⟨rfl, hb9⟩; have HB := Lib.hid (bthen HB.out hb9); clear hb9) | ((with_reducible refine (RX.out _).mono ?_); rintro e w9 ⟨rfl, hb9⟩; have HB := Lib.hid (bthen HB.out hb9); clear hb9))
        | (go_at_call 10; first | ((with_reducible refine (SAB.out _ (HW.out.below HB.out)).mono ?_); rintro e w9 ⟨rfl, hb9⟩; have HB := Lib.hid (bthen HB.out hb9); clear hb9) | ((with_reducible refine (SAC.out _ (HW.out.below HB.out)).mono ?_); rintro e w9 ⟨rfl, hb9⟩; have HB := Lib.hid (bthen HB.out hb9); clear hb9))
        | (go_at_call 4; ((with_reducible refine (awake3_any _ (HW.out.below HB.out)).mono ?_); rintro e w9 ⟨rfl, hb9⟩; have HB := Lib.hid (bthen HB.out hb9); clear hb9)))
      all_goals (go_ret; exact ⟨rfl, HB.out⟩)
    · have g3 : decide ((100 : Int) < (C.size : Int)) = false := by simp; omega
      have mC := normD_dn nC (by rw [bytes_len]; omega) kC nKC
      have SAC := Lib.hid (fun w hw => same_at ⟨#[77, 69, 77, 66, 69, 82]⟩ A C 3 rule_MEMBER (some K.data.toList) (some KC.data.toList) mA mC kb (by rw [← hkb]; simp only [sameO, ByteArray.toList_eq]) w hw)
      clear hSl lVA lVB lVC lXS lA lB lC fA fB fC fAB neA neB neC lK lKC kA kB kC nA nB nC nK nKC hnb hS mA mC
      go_enter Tryd.func3, Tryd.ntmps3
      have HB := Lib.hid (Below.refl w.heap.size w)
      go_upto_region 9 with (first
        | (go_at_call 5; first | ((with_reducible refine (CA.out _).mono ?_); rintro e w9 ⟨rfl, hb9⟩; have HB := Lib.hid (bthen HB.out hb9); clear hb9) | ((with_reducible refine (CB.out _).mono ?_); rintro e w9 ⟨rfl, hb9⟩; have HB := Lib.hid (bthen HB.out hb9); clear hb9) | ((with_reducible refine (CC.out _).mono ?_); rintro e w9 ⟨rfl, hb9⟩; have HB := Lib.hid (bthen HB.out hb9); clear hb9))
        | (go_at_call 6; ((with_reducible refine (HLo.out _).mono ?_); rintro e w9 ⟨rfl, hb9⟩; have HB := Lib.hid (bthen HB.out hb9); clear hb9))
        | (go_at_call 7; first | ((with_reducible refine (MA.out _ (HW.out.below HB.out)).mono ?_); rintro e w9 ⟨rfl, hb9⟩; have HB := Lib.hid (bthen HB.out hb9); clear hb9) | ((with_reducible refine (MX.out _ (HW.out.below HB.out)).mono ?_); rintro e w9 ⟨rfl, hb9⟩; have HB := Lib.hid (bthen HB.out hb9); clear hb9))
        | (go_at_call 8; ((with_reducible refine (LAC.out _ (HW.out.below HB.out)).mono ?_); rintro e w9 ⟨rfl, hb9⟩; have HB := Lib.hid (bthen HB.out hb9); clear hb9))
        | (go_at_call 4; ((with_reducible refine (awake3_any _ (HW.out.below HB.out)).mono ?_); rintro e w9 ⟨rfl, hb9⟩; have HB := Lib.hid (bthen HB.out hb9); clear hb9)))
      clear t1 t2 hVA hVB hVC y1 y2 y3 z1 z2 z3 z4 zVA zVB zVC zA zC
      simp only [List.append_eq, List.cons_append, List.nil_append]
      go_wp2_with (first
        | (go_at_call 9; first | ((with_reducible refine (RA.out _).mono ?_); rintro e w9 ⟨rfl, hb9⟩; have HB := Lib.hid (bthen HB.out hb9); clear hb9) | ((with_reducible refine (RC.out _).mono ?_); rintro e w9 ⟨rfl, hb9⟩; have HB := Lib.hid (bthen HB.out hb9); clear hb9) | ((with_reducible refine (RX.out _).mono ?_); rintro e w9 ⟨rfl, hb9⟩; have HB := Lib.hid (bthen HB.out hb9); clear hb9))
        | (go_at_call 10; first | ((with_reducible refine (SAB.out _ (HW.out.below HB.out)).mono ?_); rintro e w9 ⟨rfl, hb9⟩; have HB := Lib.hid (bthen HB.out hb9); clear hb9) | ((with_reducible refine (SAC.out _ (HW.out.below HB.out)).mono ?_); rintro e w9 ⟨rfl, hb9⟩; have HB := Lib.hid (bthen HB.out hb9); clear hb9))
        | (go_at_call 4; ((with_reducible refine (awake3_any _ (HW.out.below HB.out)).mono ?_); rintro e w9 ⟨rfl, hb9⟩; have HB := Lib.hid (bthen HB.out hb9); clear hb9)))
      all_goals (go_ret; exact ⟨rfl, HB.out⟩)
  · have g2 : decide ((100 : Int) < (B.size : Int)) = false := by simp; omega
    have mB := normD_dn nB (by rw [bytes_len]; omega) kB nK
    have SAB := Lib.hid (fun w hw => same_at ⟨#[109, 101, 109, 98, 101, 114]⟩ A B 3 rule_member (some K.data.toList) (some K.data.toList) mA mB true (by simp [sameO]) w hw)
    by_cases hC : 100 < C.size
    · have g3 : decide ((100 : Int) < (C.size : Int)) = true := by simp; omega
      have SAC := Lib.hid True.intro
      clear hSl lVA lVB lVC lXS lA lB lC fA fB fC fAB neA neB neC lK lKC kA kB kC nA nB nC nK nKC hnb hS mA mB
      go_enter Tryd.func3, Tryd.ntmps3
      have HB := Lib.hid (Below.refl w.heap.size w)
      go_upto_region 9 with (first
        | (go_at_call 5; first | ((with_reducible refine (CA.out _).mono ?_); rintro e w9 ⟨rfl, hb9⟩; have HB := Lib.hid (bthen HB.out hb9); clear hb9) | ((with_reducible refine (CB.out _).mono ?_); rintro e w9 ⟨rfl, hb9⟩; have HB := Lib.hid (bthen HB.out hb9); clear hb9) | ((with_reducible refine (CC.out _).mono ?_); rintro e w9 ⟨rfl, hb9⟩; have HB := Lib.hid (bthen HB.out hb9); clear hb9))
        | (go_at_call 6; ((with_reducible refine (HLo.out _).mono ?_); rintro e w9 ⟨rfl, hb9⟩; have HB := Lib.hid (bthen HB.out hb9); clear hb9))
        | (go_at_call 7; first | ((with_reducible refine (MA.out _ (HW.out.below HB.out)).mono ?_); rintro e w9 ⟨rfl, hb9⟩; have HB := Lib.hid (bthen HB.out hb9); clear hb9) | ((with_reducible refine (MX.out _ (HW.out.below HB.out)).mono ?_); rintro e w9 ⟨rfl, hb9⟩; have HB := Lib.hid (bthen HB.out hb9); clear hb9))
        | (go_at_call 8; ((with_reducible refine (LAC.out _ (HW.out.below HB.out)).mono ?_); rintro e w9 ⟨rfl, hb9⟩; have HB := Lib.hid (bthen HB.out hb9); clear hb9))
        | (go_at_call 4; ((with_reducible refine (awake3_any _ (HW.out.below HB.out)).mono ?_); rintro e w9 ⟨rfl, hb9⟩; have HB := Lib.hid (bthen HB.out hb9); clear hb9)))
      clear t1 t2 hVA hVB hVC y1 y2 y3 z1 z2 z3 z4 zVA zVB zVC zA zC
      simp only [List.append_eq, List.cons_append, List.nil_append]
      go_wp2_with (first
        | (go_at_call 9; first | ((with_reducible refine (RA.out _).mono ?_); rintro e w9 ⟨rfl, hb9⟩; have HB := Lib.hid (bthen HB.out hb9); clear hb9) | ((with_reducible refine (RC.out _).mono ?_); rintro e w9 ⟨rfl, hb9⟩; have HB := Lib.hid (bthen HB.out hb9); clear hb9) | ((with_reducible refine (RX.out _).mono ?_); rintro e w9 ⟨rfl, hb9⟩; have HB := Lib.hid (bthen HB.out hb9); clear hb9))
        | (go_at_call 10; first | ((with_reducible refine (SAB.out _ (HW.out.below HB.out)).mono ?_); rintro e w9 ⟨rfl, hb9⟩; have HB := Lib.hid (bthen HB.out hb9); clear hb9) | ((with_reducible refine (SAC.out _ (HW.out.below HB.out)).mono ?_); rintro e w9 ⟨rfl, hb9⟩; have HB := Lib.hid (bthen HB.out hb9); clear hb9))
        | (go_at_call 4; ((with_reducible refine (awake3_any _ (HW.out.below HB.out)).mono ?_); rintro e w9 ⟨rfl, hb9⟩; have HB := Lib.hid (bthen HB.out hb9); clear hb9)))
      all_goals (go_ret; exact ⟨rfl, HB.out⟩)
    · have g3 : decide ((100 : Int) < (C.size : Int)) = false := by simp; omega
      have mC := normD_dn nC (by rw [bytes_len]; omega) kC nKC
      have SAC := Lib.hid (fun w hw => same_at ⟨#[77, 69, 77, 66, 69, 82]⟩ A C 3 rule_MEMBER (some K.data.toList) (some KC.data.toList) mA mC kb (by rw [← hkb]; simp only [sameO, ByteArray.toList_eq]) w hw)
      clear hSl lVA lVB lVC lXS lA lB lC fA fB fC fAB neA neB neC lK lKC kA kB kC nA nB nC nK nKC hnb hS mA mB mC
      go_enter Tryd.func3, Tryd.ntmps3
      have HB := Lib.hid (Below.refl w.heap.size w)
      go_upto_region 9 with (first
        | (go_at_call 5; first | ((with_reducible refine (CA.out _).mono ?_); rintro e w9 ⟨rfl, hb9⟩; have HB := Lib.hid (bthen HB.out hb9); clear hb9) | ((with_reducible refine (CB.out _).mono ?_); rintro e w9 ⟨rfl, hb9⟩; have HB := Lib.hid (bthen HB.out hb9); clear hb9) | ((with_reducible refine (CC.out _).mono ?_); rintro e w9 ⟨rfl, hb9⟩; have HB := Lib.hid (bthen HB.out hb9); clear hb9))
        | (go_at_call 6; ((with_reducible refine (HLo.out _).mono ?_); rintro e w9 ⟨rfl, hb9⟩; have HB := Lib.hid (bthen HB.out hb9); clear hb9))
        | (go_at_call 7; first | ((with_reducible refine (MA.out _ (HW.out.below HB.out)).mono ?_); rintro e w9 ⟨rfl, hb9⟩; have HB := Lib.hid (bthen HB.out hb9); clear hb9) | ((with_reducible refine (MX.out _ (HW.out.below HB.out)).mono ?_); rintro e w9 ⟨rfl, hb9⟩; have HB := Lib.hid (bthen HB.out hb9); clear hb9))
        | (go_at_call 8; ((with_reducible refine (LAC.out _ (HW.out.below HB.out)).mono ?_); rintro e w9 ⟨rfl, hb9⟩; have HB := Lib.hid (bthen HB.out hb9); clear hb9))
        | (go_at_call 4; ((with_reducible refine (awake3_any _ (HW.out.below HB.out)).mono ?_); rintro e w9 ⟨rfl, hb9⟩; have HB := Lib.hid (bthen HB.out hb9); clear hb9)))
      clear t1 t2 hVA hVB hVC y1 y2 y3 z1 z2 z3 z4 zVA zVB zVC zA zC
      simp only [List.append_eq, List.cons_append, List.nil_append]
      go_wp2_with (first
        | (go_at_call 9; first | ((with_reducible refine (RA.out _).mono ?_); rintro e w9 ⟨rfl, hb9⟩; have HB := Lib.hid (bthen HB.out hb9); clear hb9) | ((with_reducible refine (RC.out _).mono ?_); rintro e w9 ⟨rfl, hb9⟩; have HB := Lib.hid (bthen HB.out hb9); clear hb9) | ((with_reducible refine (RX.out _).mono ?_); rintro e w9 ⟨rfl, hb9⟩; have HB := Lib.hid (bthen HB.out hb9); clear hb9))
        | (go_at_call 10; first | ((with_reducible refine (SAB.out _ (HW.out.below HB.out)).mono ?_); rintro e w9 ⟨rfl, hb9⟩; have HB := Lib.hid (bthen HB.out hb9); clear hb9) | ((with_reducible refine (SAC.out _ (HW.out.below HB.out)).mono ?_); rintro e w9 ⟨rfl, hb9⟩; have HB := Lib.hid (bthen HB.out hb9); clear hb9))
        | (go_at_call 4; ((with_reducible refine (awake3_any _ (HW.out.below HB.out)).mono ?_); rintro e w9 ⟨rfl, hb9⟩; have HB := Lib.hid (bthen HB.out hb9); clear hb9)))
      all_goals (go_ret; exact ⟨rfl, HB.out⟩)
end Go.Proofs.YtjffidegmonkfaaDoor
