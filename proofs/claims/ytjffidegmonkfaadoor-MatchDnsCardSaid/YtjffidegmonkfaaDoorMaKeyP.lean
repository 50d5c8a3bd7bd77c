/- The norm of a norm is that: no program. -/
import Derived.Test.YtjffidegmonkfaaDoorMaPure
namespace Go.Proofs.YtjffidegmonkfaaDoor
set_option linter.unusedVariables false

theorem escC_zero {f l : Bool} {c : UInt8} (h : kindC c = 0) : (escC f l c).length = 3 := by unfold escC; rw [if_pos h]; rfl
theorem escC_need {f l : Bool} {c : UInt8} (h : kindC c ≠ 0) (hn : needC c f l = true) : (escC f l c).length = 2 := by unfold escC; rw [if_neg h, if_pos hn]; rfl
theorem escC_one {f l : Bool} {c : UInt8} (h : kindC c ≠ 0) (hn : ¬ needC c f l = true) : (escC f l c).length = 1 := by unfold escC; rw [if_neg h, if_neg hn]; rfl
theorem escC_le3 (f l : Bool) (c : UInt8) : (escC f l c).length ≤ 3 := by unfold escC; split <;> (try split) <;> simp
theorem escC_le2 {f l : Bool} {c : UInt8} (h : kindC c ≠ 0) : (escC f l c).length ≤ 2 := by unfold escC; rw [if_neg h]; split <;> simp
theorem escC_ge1 (f l : Bool) (c : UInt8) : 1 ≤ (escC f l c).length := by unfold escC; split <;> (try split) <;> simp

theorem valN_empty {n : Nat} {f : Bool} {s : List UInt8} (h : valN n f s = some []) : s = [] := by
  cases n with
  | zero => unfold valN at h; split at h; assumption; cases h
  | succ n =>
    unfold valN at h
    split at h
    · assumption
    · split at h
      · cases h
      · cases hv : valN n false (s.drop (oneD f s).2) with
        | none => rw [hv] at h; cases h
        | some v => rw [hv] at h; simp at h
theorem valN_of_nil {n : Nat} {f : Bool} {v : List UInt8} (h : valN n f [] = some v) : v = [] := by
  cases n with
  | zero => simp [valN] at h; exact h
  | succ n => simp [valN] at h; exact h

/-- A value's text is the shortest one. -/
theorem val_len : ∀ (n : Nat) (f : Bool) (s v : List UInt8), valN n f s = some v → (escR f v).length ≤ s.length
  | 0, f, s, v, h => by
    unfold valN at h
    split at h
    · cases h; simp [escR]
    · cases h
  | n + 1, f, s, v, h => by
    unfold valN at h
    split at h
    · cases h; simp [escR]
    · rename_i hne
      split at h
      · cases h
      · rename_i hk
        cases hv : valN n false (s.drop (oneD f s).2) with
        | none => rw [hv] at h; cases h
        | some v' =>
          rw [hv] at h
          simp only [Option.map_some, Option.some.injEq] at h
          subst h
          have ih := val_len n false _ _ hv
          rw [List.length_drop] at ih
          have key : (escC f v'.isEmpty (oneD f s).1).length ≤ (oneD f s).2 ∧ (oneD f s).2 ≤ s.length := by
            cases s with
            | nil => exact absurd rfl hne
            | cons a r =>
              by_cases h92 : a.toNat = 92
              · have e1 : oneD f (a :: r) = behD r := by simp only [oneD]; rw [if_pos h92]
                rw [e1] at hk ⊢
                cases r with
                | nil => exact absurd rfl hk
                | cons x r' =>
                  by_cases h2 : 2 ≤ kindC x
                  · rw [behD_free h2]
                    exact ⟨escC_le2 (by show kindC x ≠ 0; omega), by simp⟩
                  · cases r' with
                    | nil => rw [behD_nil h2] at hk; exact absurd rfl hk
                    | cons y r'' =>
                      rw [behD_hex h2] at hk ⊢
                      split
                      · exact ⟨escC_le3 _ _ _, by simp⟩
                      · rename_i hh
                        rw [if_neg hh] at hk
                        exact absurd rfl hk
              · by_cases hb : kindC a = 0 ∨ needC a f r.isEmpty = true
                · have e1 : oneD f (a :: r) = (0, 0) := by simp only [oneD]; rw [if_neg h92, if_pos hb]
                  rw [e1] at hk
                  exact absurd rfl hk
                · have e1 : oneD f (a :: r) = (a, 1) := by simp only [oneD]; rw [if_neg h92, if_neg hb]
                  rw [e1] at hv ⊢
                  have he : v'.isEmpty = r.isEmpty := by
                    simp only [List.drop_succ_cons, List.drop_zero] at hv
                    cases r with
                    | nil => rw [valN_of_nil hv]
                    | cons x y =>
                      cases v' with
                      | nil => exact absurd (valN_empty hv) (by simp)
                      | cons p q => rfl
                  rw [he]
                  refine ⟨?_, by simp⟩
                  have := escC_one (f := f) (l := r.isEmpty) (c := a) (fun e => hb (.inl e)) (fun e => hb (.inr e))
                  show (escC f r.isEmpty a).length ≤ 1
                  omega
          simp only [escR, List.length_append]
          omega
theorem cut_len : ∀ (s : List UInt8), (cutD s).1.length + (if (cutD s).2.2 = true then 1 + (cutD s).2.1.length else 0) ≤ s.length := by
  intro s
  induction s using cutD.induct with
  | case1 => simp [cutD]
  | case2 c r h => rw [cutD_com h]; simp; omega
  | case3 c h1 h2 => 
    have e : c = 92 := UInt8.toNat_inj.1 h2
    subst e
    simp [cutD]
  | case4 c h1 h2 x r ih =>
    have e : c = 92 := UInt8.toNat_inj.1 h2
    subst e
    rw [cutD_two]
    simp only [List.length_cons]
    split at ih <;> rename_i hh <;> simp only [hh, if_true, Bool.false_eq_true, if_false] at ih ⊢ <;> omega
  | case5 c r h1 h2 ih =>
    rw [cutD_one ⟨h1, h2⟩]
    simp only [List.length_cons]
    split at ih <;> rename_i hh <;> simp only [hh, if_true, Bool.false_eq_true, if_false] at ih ⊢ <;> omega
theorem rdn_len {s : List UInt8} {r : R} (h : rdnD s = some r) : (textR r).length ≤ s.length := by
  unfold rdnD at h
  split at h
  · split at h
    · rename_i v hv
      split at h
      · rename_i h2
        cases h
        have h3 := val_len _ _ _ _ hv
        have h4 : (nameD s).length + (s.dropWhile (· ≠ 61)).length = s.length := by
          have := congrArg List.length (List.takeWhile_append_dropWhile (p := (· ≠ (61 : UInt8))) (l := s))
          rw [List.length_append] at this
          exact this
        have h5 : afterD s ≠ [] := by
          intro e
          rw [e] at hv
          exact h2.1 (valN_of_nil hv)
        have h6 : (afterD s).length + 1 = (s.dropWhile (· ≠ 61)).length := by
          unfold afterD at h5 ⊢
          rw [List.length_drop]
          cases hd : s.dropWhile (· ≠ 61) with
          | nil => rw [hd] at h5; exact absurd rfl h5
          | cons a b => simp
        unfold textR escV
        simp only [List.length_append, List.length_cons]
        omega
      · cases h
    · cases h
  · cases h
theorem par_len : ∀ (k : Nat) (s : List UInt8) (l : List R), parN k s = some l → (textD l).length ≤ s.length
  | 0, s, l, h => by cases h
  | k + 1, s, l, h => by
    unfold parN at h
    split at h
    · cases h
    · rename_i r hr
      have hl := rdn_len hr
      have hc := cut_len s
      split at h
      · rename_i hm
        rw [if_pos hm] at hc
        cases hp : parN k (cutD s).2.1 with
        | none => rw [hp] at h; cases h
        | some l' =>
          rw [hp] at h
          simp only [Option.map_some, Option.some.injEq] at h
          subst h
          have ih := par_len k _ _ hp
          have hne := (par_ok k _ _ hp).2.2
          cases l' with
          | nil => exact absurd rfl hne
          | cons x y =>
            rw [text_cons]
            simp only [List.length_append, List.length_cons]
            omega
      · cases h
        show (textR r).length ≤ _
        omega
theorem parse_len {s : List UInt8} {l : List R} (h : parseD s = some l) : (textD l).length ≤ s.length := by
  unfold parseD at h
  split at h
  · cases h; simp [textD]
  · exact par_len 8 s l h

-- a folded value's text is no longer than the value's
def baseC (c : UInt8) : Nat := if kindC c = 0 then 3 else if kindC c = 5 then 2 else 1
def sumB (l : List UInt8) : Nat := (l.map baseC).sum
theorem sumB_app (a b : List UInt8) : sumB (a ++ b) = sumB a + sumB b := by simp [sumB]
theorem sumB_one (c : UInt8) : sumB [c] = baseC c := by simp [sumB]
theorem sumB_cons (c : UInt8) (l : List UInt8) : sumB (c :: l) = baseC c + sumB l := by simp [sumB]
theorem baseC_low (c : UInt8) : baseC (lowC c) = baseC c := by
  have := all_bytes (fun c => baseC (lowC c) == baseC c) (by decide +kernel) c
  simpa using this
theorem kind_spec (c : UInt8) : (kindC c = 4 → c.toNat = 32) ∧ (kindC c = 3 → c.toNat = 35) := by
  have := all_bytes (fun c => (!(kindC c == 4) || decide (c.toNat = 32)) && (!(kindC c == 3) || decide (c.toNat = 35))) (by decide +kernel) c
  simp only [Bool.and_eq_true, Bool.or_eq_true, Bool.not_eq_true', beq_eq_false_iff_ne, decide_eq_true_eq] at this
  exact ⟨fun h => this.1.resolve_left (fun e => e h), fun h => this.2.resolve_left (fun e => e h)⟩
theorem kind_of (c : UInt8) : (c.toNat = 32 → kindC c = 4) ∧ (c.toNat = 35 → kindC c = 3) := by
  have := all_bytes (fun c => (!decide (c.toNat = 32) || kindC c == 4) && (!decide (c.toNat = 35) || kindC c == 3)) (by decide +kernel) c
  simp only [Bool.and_eq_true, Bool.or_eq_true, Bool.not_eq_true', decide_eq_false_iff_not, beq_iff_eq] at this
  exact ⟨fun h => this.1.resolve_left (fun e => e h), fun h => this.2.resolve_left (fun e => e h)⟩
theorem esc_up : ∀ (w : List UInt8) (f : Bool), (∀ y, w.getLast? = some y → y.toNat ≠ 32) → (f = true → ∀ y, w.head? = some y → y.toNat ≠ 32) →
    (escR f w).length ≤ sumB w + (if f = true ∧ (∃ y, w.head? = some y ∧ y.toNat = 35) then 1 else 0)
  | [], f, _, _ => by simp [escR, sumB]
  | c :: r, f, hl, hh => by
    have ih := esc_up r false (fun y hy => by
      cases r with
      | nil => simp at hy
      | cons a b => exact hl y (by rw [List.getLast?_cons_cons]; exact hy)) (fun h => by cases h)
    simp only [Bool.false_eq_true, false_and, if_false, Nat.add_zero] at ih
    have hc : (escC f r.isEmpty c).length ≤ baseC c + (if f = true ∧ c.toNat = 35 then 1 else 0) := by
      by_cases h0 : kindC c = 0
      · rw [escC_zero h0]; unfold baseC; rw [if_pos h0]; omega
      · by_cases hn : needC c f r.isEmpty = true
        · rw [escC_need h0 hn]
          unfold baseC
          rw [if_neg h0]
          unfold needC at hn
          simp only [Bool.or_eq_true, beq_iff_eq, Bool.and_eq_true] at hn
          rcases hn with (h5 | ⟨h3, hf⟩) | ⟨h4, hfl⟩
          · rw [if_pos h5]; omega
          · rw [if_pos (⟨hf, (kind_spec c).2 h3⟩ : f = true ∧ c.toNat = 35)]; split <;> omega
          · exfalso
            have h32 := (kind_spec c).1 h4
            rcases hfl with hf | hlast
            · exact hh hf c rfl h32
            · cases r with
              | nil => exact hl c rfl h32
              | cons a b => simp at hlast
        · rw [escC_one h0 hn]; unfold baseC; rw [if_neg h0]; split <;> omega
    simp only [escR, List.length_append, sumB_cons]
    have e : (f = true ∧ ∃ y, (c :: r).head? = some y ∧ y.toNat = 35) ↔ (f = true ∧ c.toNat = 35) := by simp
    simp only [e]
    omega
theorem esc_low : ∀ (v : List UInt8) (f : Bool), sumB v + (if f = true ∧ (∃ y, v.head? = some y ∧ (y.toNat = 35 ∨ y.toNat = 32)) then 1 else 0) ≤ (escR f v).length
  | [], f => by simp [escR, sumB]
  | c :: r, f => by
    have ih := esc_low r false
    simp only [Bool.false_eq_true, false_and, if_false, Nat.add_zero] at ih
    have hc : baseC c + (if f = true ∧ (c.toNat = 35 ∨ c.toNat = 32) then 1 else 0) ≤ (escC f r.isEmpty c).length := by
      by_cases hx : f = true ∧ (c.toNat = 35 ∨ c.toNat = 32)
      · rw [if_pos hx]
        have hk : (kindC c = 3 ∨ kindC c = 4) := by
          rcases hx.2 with h | h
          · exact .inl ((kind_of c).2 h)
          · exact .inr ((kind_of c).1 h)
        have hn : needC c f r.isEmpty = true := by
          unfold needC
          rw [hx.1]
          rcases hk with h | h <;> simp [h]
        have h0 : kindC c ≠ 0 := by omega
        rw [escC_need h0 hn]
        unfold baseC
        rw [if_neg h0, if_neg (by omega)]
        omega
      · rw [if_neg hx]
        unfold baseC
        by_cases h0 : kindC c = 0
        · rw [if_pos h0, escC_zero h0]; omega
        · rw [if_neg h0]
          by_cases h5 : kindC c = 5
          · rw [if_pos h5, escC_need h0 (by unfold needC; simp [h5])]; omega
          · rw [if_neg h5]; have := escC_ge1 f r.isEmpty c; omega
    simp only [escR, List.length_append, sumB_cons]
    have e : (f = true ∧ ∃ y, (c :: r).head? = some y ∧ (y.toNat = 35 ∨ y.toNat = 32)) ↔ (f = true ∧ (c.toNat = 35 ∨ c.toNat = 32)) := by simp
    simp only [e]
    omega
theorem frun_sum : ∀ l : List UInt8, sumB (frun l).1 + (if (frun l).2 = true then 1 else 0) ≤ sumB l := by
  refine snoc_ind (by simp [frun, sumB]) ?_
  intro l c ih
  rw [frun_snoc, sumB_app, sumB_one]
  by_cases h : c.toNat = 32
  · rw [fstep_blank _ _ h]
    have hb : baseC c = 1 := by unfold baseC; rw [(kind_of c).1 h]; rfl
    rw [hb]
    dsimp only
    split <;> split at ih <;> omega
  · rw [fstep_other _ _ h]
    simp only [sumB_app, sumB_one, baseC_low]
    have : sumB (if (frun l).2 = true then ([32] : List UInt8) else []) = if (frun l).2 = true then 1 else 0 := by
      split
      · rw [sumB_one]; decide
      · rfl
    rw [this]
    simp only [Bool.false_eq_true, if_false]
    omega
theorem frun_first : ∀ l : List UInt8, ∀ y, (frun l).1.head? = some y → y.toNat ≠ 32 := by
  refine snoc_ind (by simp [frun]) ?_
  intro l c ih y hy
  rw [frun_snoc] at hy
  by_cases h : c.toNat = 32
  · rw [fstep_blank _ _ h] at hy
    exact ih y hy
  · rw [fstep_other _ _ h] at hy
    cases ho : (frun l).1 with
    | nil =>
      have hg : (frun l).2 = false := by
        cases hw : (frun l).2 with
        | false => rfl
        | true => exact absurd ho (frun_gap l hw)
      rw [ho, hg] at hy
      simp at hy
      rw [← hy]
      exact fun e => h ((lowC_blank c).1 e)
    | cons a b =>
      rw [ho] at hy
      simp at hy
      exact ih y (by rw [ho]; simpa using hy)
theorem foldl_head : ∀ (r : List UInt8) (st : List UInt8 × Bool) (x : UInt8), st.1.head? = some x → (r.foldl fstep st).1.head? = some x
  | [], _, _, h => h
  | c :: r, st, x, h => by
    rw [List.foldl_cons]
    refine foldl_head r _ x ?_
    unfold fstep
    split
    · exact h
    · cases hs : st.1 with
      | nil => rw [hs] at h; cases h
      | cons a b => rw [hs] at h; simpa using h
theorem fold_head {c : UInt8} {r : List UInt8} (h : c.toNat ≠ 32) : (fold (c :: r)).head? = some (lowC c) := by
  unfold fold frun
  rw [List.foldl_cons]
  refine foldl_head r _ _ ?_
  rw [fstep_other _ _ h]; rfl
theorem esc_fold (v : List UInt8) : (escV (fold v)).length ≤ (escV v).length := by
  have h1 := esc_up (fold v) true (frun_spaced v).2 (fun _ => frun_first v)
  have h2 := esc_low v true
  have h3 := frun_sum v
  have h3' : sumB (fold v) ≤ sumB v := by unfold fold; split at h3 <;> omega
  unfold escV
  by_cases hx : ∃ y, (fold v).head? = some y ∧ y.toNat = 35
  · rw [if_pos ⟨rfl, hx⟩] at h1
    have hv : ∃ y, v.head? = some y ∧ (y.toNat = 35 ∨ y.toNat = 32) := by
      obtain ⟨y, hy, h35⟩ := hx
      cases v with
      | nil => simp [fold, frun] at hy
      | cons c r =>
        refine ⟨c, rfl, ?_⟩
        by_cases h32 : c.toNat = 32
        · exact .inr h32
        · rw [fold_head h32] at hy
          simp only [Option.some.injEq] at hy
          rw [← hy, lowC_toNat] at h35
          split at h35
          · omega
          · exact .inl h35
    rw [if_pos ⟨rfl, hv⟩] at h2
    omega
  · rw [if_neg (fun e => hx e.2)] at h1
    split at h2 <;> omega
theorem text_norm_len : ∀ l : List R, (textD (l.map normR)).length ≤ (textD l).length
  | [] => by simp [textD]
  | [r] => by
    show (textR (normR r)).length ≤ (textR r).length
    have := esc_fold r.2
    unfold textR normR
    simp only [List.length_append, List.length_cons, low_length]
    omega
  | r :: x :: l => by
    have ih := text_norm_len (x :: l)
    have := esc_fold r.2
    rw [List.map_cons, List.map_cons, text_cons, text_cons]
    rw [List.map_cons] at ih
    have e : (textR (normR r)).length ≤ (textR r).length := by
      unfold textR normR
      simp only [List.length_append, List.length_cons, low_length]
      omega
    simp only [List.length_append, List.length_cons]
    omega
theorem normR_norm (r : R) : normR (normR r) = normR r := by simp [normR, low_low, fold_fold]
theorem key_key {v k : List UInt8} (h : keyD v = some k) : keyD k = some k ∧ k.length ≤ v.length := by
  unfold keyD at h
  cases hp : parseD v with
  | none => rw [hp] at h; cases h
  | some l =>
    rw [hp] at h
    simp only at h
    split at h
    · rename_i hf
      cases h
      have hok := parse_ok hp
      have h1 := okL_norm hok hf
      have h2 : (l.map normR).all okF = true := by
        rw [List.all_map]
        have : (okF ∘ normR) = okF := by funext r; simp [okF, normR, fold_fold]
        rw [this]; exact hf
      have h3 := key_text h1 h2
      have h4 : (l.map normR).map normR = l.map normR := by
        rw [List.map_map]
        congr 1
        funext r
        exact normR_norm r
      rw [h4] at h3
      exact ⟨h3, Nat.le_trans (text_norm_len l) (parse_len hp)⟩
    · cases h
/-- 3.3: the norm of a norm is that. -/
theorem norm_norm {r : Nat} {v x : List UInt8} (h : normD r v = some x) : normD r x = some x := by
  unfold normD at h
  split at h
  · cases h
  · rename_i h0
    have hv : v ≠ [] ∧ v.length ≤ 100 := ⟨fun e => h0 (.inl e), by omega⟩
    split at h
    · split at h
      · cases h
      · rename_i h1 hf
        cases h
        subst h1
        have := fold_len v
        unfold normD
        rw [if_neg (by rintro (e | e); exact hf e; omega), if_pos rfl, fold_fold, if_neg hf]
    · rename_i h1
      split at h
      · split at h
        · rename_i h2 hn
          cases h
          unfold normD
          rw [if_neg h0, if_neg h1, if_pos h2, if_pos hn]
        · cases h
      · rename_i h2
        split at h
        · rename_i h3
          split at h
          · rename_i k hk
            split at h
            · cases h
            · rename_i hne
              cases h
              have := key_key hk
              unfold normD
              rw [if_neg (by rintro (e | e); exact hne e; omega), if_neg h1, if_neg h2, if_pos h3, this.1]
              simp only
              rw [if_neg hne]
          · cases h
        · rename_i h3
          split at h
          · rename_i h4
            cases h
            unfold normD
            rw [if_neg h0, if_neg h1, if_neg h2, if_neg h3, if_pos h4]
          · cases h
end Go.Proofs.YtjffidegmonkfaaDoor
