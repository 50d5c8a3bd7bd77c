/- Several texts in one file: MaKeyP, EvLess, EvPrt, EvFit, EvTru, EvTal, EvDocP, EvDoc, MaRef, MaNumP, MaDig, MaRefN, RefVal, RefTextW, May, RefParse, RefParseW, RefKeyW, MaRefM, MaRefL, ScVals, ScPure, ScOwn, ScRow, ScClass, ScFind, ScCls, ScCat, ScIdx, ScVal, ScSound, ScClassed, ScCheck, ScDocA, ScDocH, EvRPu, EvRL1, EvRL2, EvRL3, EvRL4, EvEval, EvREv, ScPer, EvOrdP. -/
import Derived.Test.YtmilgbkkibahlaaGreatDoorMaPure
import Derived.Test.YtmilgbkkibahlaaGreatDoorEvdP1
import Derived.Test.YtmilgbkkibahlaaGreatDoorFiAsk
import Derived.Test.YtmilgbkkibahlaaGreatDoorFiMayW
import Derived.Deep.RegionLaw
import Derived.Deep.AppendLies
import Derived.RegionTactic
import Derived.Test.YtmilgbkkibahlaaGreatDoorFiSamR
import Derived.Deep.RegionHeld3
import Derived.Lib.IndexLaws
import Derived.Lib.IndexMore
import Derived.Test.YtmilgbkkibahlaaGreatDoorDnFoldR
import Derived.Test.YtmilgbkkibahlaaGreatDoorMaFind
import Derived.Test.YtmilgbkkibahlaaGreatDoorOfL
import Derived.Test.YtmilgbkkibahlaaGreatDoorDnOwn
import Derived.Lib.ItoaLen
import Derived.Lib.ItoaMem
import Derived.Test.YtmilgbkkibahlaaGreatDoorRefCut
import Derived.BigRegion
import Derived.Test.YtmilgbkkibahlaaGreatDoorRefText
import Derived.Test.YtmilgbkkibahlaaGreatDoorDnTypeR
import Derived.OneCell
import Derived.Test.YtmilgbkkibahlaaGreatDoorEnFind
import Derived.Lib.Fields
import Derived.Lib.SlicesCompact
import Derived.Sort.KeysCollected
import Derived.Test.YtmilgbkkibahlaaGreatDoorEnOwn
import Derived.Sort.OwnSorted
import Derived.BigQuiet
import Derived.Test.YtmilgbkkibahlaaGreatDoorDnParse
import Derived.Lib.AppendZerosOnto
import Derived.Deep.Upon
import Derived.Deep.Cut
import Derived.Test.YtmilgbkkibahlaaGreatDoorFiRMay
namespace Go.Proofs.YtmilgbkkibahlaaGreatDoor
set_option linter.unusedVariables false

theorem escC_zero {f l : Bool} {c : UInt8} (h : kindC c = 0) : (escC f l c).length = 3 := by unfold escC; rw [if_pos h]; rfl
theorem escC_need {f l : Bool} {c : UInt8} (h : kindC c ≠ 0) (hn : needC c f l = true) : (escC f l c).length = 2 := by unfold escC; rw [if_neg h, if_pos hn]; rfl
theorem escC_one {f l : Bool} {c : UInt8} (h : kindC c ≠ 0) (hn : ¬ needC c f l = true) : (escC f l c).length = 1 := by unfold escC; rw [if_neg h, if_neg hn]; rfl
theorem escC_le3 (f l : Bool) (c : UInt8) : (escC f l c).length ≤ 3 := by unfold escC; split <;> (try split) <;> simp
theorem escC_le2 {f l : Bool} {c : UInt8} (h : kindC c ≠ 0) : (escC f l c).length ≤ 2 := by unfold escC; rw [if_neg h]; split <;> simp
theorem escC_ge1 (f l : Bool) (c : UInt8) : 1 ≤ (escC f l c).length := by unfold escC; split <;> (try split) <;> simp

theorem valN_empty {n : Nat} {f : Bool} {s : List UInt8} (h : valN n f s = some []) : s = [] := by
  cases n with
  | zero => unfold valN at h; split at h; assumption; cases h
  | succ n =>
    unfold valN at h
    split at h
    · assumption
    · split at h
      · cases h
      · cases hv : valN n false (s.drop (oneD f s).2) with
        | none => rw [hv] at h; cases h
        | some v => rw [hv] at h; simp at h
theorem valN_of_nil {n : Nat} {f : Bool} {v : List UInt8} (h : valN n f [] = some v) : v = [] := by
  cases n with
  | zero => simp [valN] at h; exact h
  | succ n => simp [valN] at h; exact h

theorem val_len : ∀ (n : Nat) (f : Bool) (s v : List UInt8), valN n f s = some v → (escR f v).length ≤ s.length
  | 0, f, s, v, h => by
    unfold valN at h
    split at h
    · cases h; simp [escR]
    · cases h
  | n + 1, f, s, v, h => by
    unfold valN at h
    split at h
    · cases h; simp [escR]
    · rename_i hne
      split at h
      · cases h
      · rename_i hk
        cases hv : valN n false (s.drop (oneD f s).2) with
        | none => rw [hv] at h; cases h
        | some v' =>
          rw [hv] at h
          simp only [Option.map_some, Option.some.injEq] at h
          subst h
          have ih := val_len n false _ _ hv
          rw [List.length_drop] at ih
          have key : (escC f v'.isEmpty (oneD f s).1).length ≤ (oneD f s).2 ∧ (oneD f s).2 ≤ s.length := by
            cases s with
            | nil => exact absurd rfl hne
            | cons a r =>
              by_cases h92 : a.toNat = 92
              · have e1 : oneD f (a :: r) = behD r := by simp only [oneD]; rw [if_pos h92]
                rw [e1] at hk ⊢
                cases r with
                | nil => exact absurd rfl hk
                | cons x r' =>
                  by_cases h2 : 2 ≤ kindC x
                  · rw [behD_free h2]
                    exact ⟨escC_le2 (by show kindC x ≠ 0; omega), by simp⟩
                  · cases r' with
                    | nil => rw [behD_nil h2] at hk; exact absurd rfl hk
                    | cons y r'' =>
                      rw [behD_hex h2] at hk ⊢
                      split
                      · exact ⟨escC_le3 _ _ _, by simp⟩
                      · rename_i hh
                        rw [if_neg hh] at hk
                        exact absurd rfl hk
              · by_cases hb : kindC a = 0 ∨ needC a f r.isEmpty = true
                · have e1 : oneD f (a :: r) = (0, 0) := by simp only [oneD]; rw [if_neg h92, if_pos hb]
                  rw [e1] at hk
                  exact absurd rfl hk
                · have e1 : oneD f (a :: r) = (a, 1) := by simp only [oneD]; rw [if_neg h92, if_neg hb]
                  rw [e1] at hv ⊢
                  have he : v'.isEmpty = r.isEmpty := by
                    simp only [List.drop_succ_cons, List.drop_zero] at hv
                    cases r with
                    | nil => rw [valN_of_nil hv]
                    | cons x y =>
                      cases v' with
                      | nil => exact absurd (valN_empty hv) (by simp)
                      | cons p q => rfl
                  rw [he]
                  refine ⟨?_, by simp⟩
                  have := escC_one (f := f) (l := r.isEmpty) (c := a) (fun e => hb (.inl e)) (fun e => hb (.inr e))
                  show (escC f r.isEmpty a).length ≤ 1
                  omega
          simp only [escR, List.length_append]
          omega
theorem cut_len : ∀ (s : List UInt8), (cutD s).1.length + (if (cutD s).2.2 = true then 1 + (cutD s).2.1.length else 0) ≤ s.length := by
  intro s
  induction s using cutD.induct with
  | case1 => simp [cutD]
  | case2 c r h => rw [cutD_com h]; simp; omega
  | case3 c h1 h2 => 
    have e : c = 92 := UInt8.toNat_inj.1 h2
    subst e
    simp [cutD]
  | case4 c h1 h2 x r ih =>
    have e : c = 92 := UInt8.toNat_inj.1 h2
    subst e
    rw [cutD_two]
    simp only [List.length_cons]
    split at ih <;> rename_i hh <;> simp only [hh, if_true, Bool.false_eq_true, if_false] at ih ⊢ <;> omega
  | case5 c r h1 h2 ih =>
    rw [cutD_one ⟨h1, h2⟩]
    simp only [List.length_cons]
    split at ih <;> rename_i hh <;> simp only [hh, if_true, Bool.false_eq_true, if_false] at ih ⊢ <;> omega
theorem rdn_len {s : List UInt8} {r : R} (h : rdnD s = some r) : (textR r).length ≤ s.length := by
  unfold rdnD at h
  split at h
  · split at h
    · rename_i v hv
      split at h
      · rename_i h2
        cases h
        have h3 := val_len _ _ _ _ hv
        have h4 : (nameD s).length + (s.dropWhile (· ≠ 61)).length = s.length := by
          have := congrArg List.length (List.takeWhile_append_dropWhile (p := (· ≠ (61 : UInt8))) (l := s))
          rw [List.length_append] at this
          exact this
        have h5 : afterD s ≠ [] := by
          intro e
          rw [e] at hv
          exact h2.1 (valN_of_nil hv)
        have h6 : (afterD s).length + 1 = (s.dropWhile (· ≠ 61)).length := by
          unfold afterD at h5 ⊢
          rw [List.length_drop]
          cases hd : s.dropWhile (· ≠ 61) with
          | nil => rw [hd] at h5; exact absurd rfl h5
          | cons a b => simp
        unfold textR escV
        simp only [List.length_append, List.length_cons]
        omega
      · cases h
    · cases h
  · cases h
theorem par_len : ∀ (k : Nat) (s : List UInt8) (l : List R), parN k s = some l → (textD l).length ≤ s.length
  | 0, s, l, h => by cases h
  | k + 1, s, l, h => by
    unfold parN at h
    split at h
    · cases h
    · rename_i r hr
      have hl := rdn_len hr
      have hc := cut_len s
      split at h
      · rename_i hm
        rw [if_pos hm] at hc
        cases hp : parN k (cutD s).2.1 with
        | none => rw [hp] at h; cases h
        | some l' =>
          rw [hp] at h
          simp only [Option.map_some, Option.some.injEq] at h
          subst h
          have ih := par_len k _ _ hp
          have hne := (par_ok k _ _ hp).2.2
          cases l' with
          | nil => exact absurd rfl hne
          | cons x y =>
            rw [text_cons]
            simp only [List.length_append, List.length_cons]
            omega
      · cases h
        show (textR r).length ≤ _
        omega
theorem parse_len {s : List UInt8} {l : List R} (h : parseD s = some l) : (textD l).length ≤ s.length := by
  unfold parseD at h
  split at h
  · cases h; simp [textD]
  · exact par_len 8 s l h

-- a folded value's text is no longer than the value's
def baseC (c : UInt8) : Nat := if kindC c = 0 then 3 else if kindC c = 5 then 2 else 1
def sumB (l : List UInt8) : Nat := (l.map baseC).sum
theorem sumB_app (a b : List UInt8) : sumB (a ++ b) = sumB a + sumB b := by simp [sumB]
theorem sumB_one (c : UInt8) : sumB [c] = baseC c := by simp [sumB]
theorem sumB_cons (c : UInt8) (l : List UInt8) : sumB (c :: l) = baseC c + sumB l := by simp [sumB]
theorem baseC_low (c : UInt8) : baseC (lowC c) = baseC c := by
  have := all_bytes (fun c => baseC (lowC c) == baseC c) (by decide +kernel) c
  simpa using this
theorem kind_spec (c : UInt8) : (kindC c = 4 → c.toNat = 32) ∧ (kindC c = 3 → c.toNat = 35) := by
  have := all_bytes (fun c => (!(kindC c == 4) || decide (c.toNat = 32)) && (!(kindC c == 3) || decide (c.toNat = 35))) (by decide +kernel) c
  simp only [Bool.and_eq_true, Bool.or_eq_true, Bool.not_eq_true', beq_eq_false_iff_ne, decide_eq_true_eq] at this
  exact ⟨fun h => this.1.resolve_left (fun e => e h), fun h => this.2.resolve_left (fun e => e h)⟩
theorem kind_of (c : UInt8) : (c.toNat = 32 → kindC c = 4) ∧ (c.toNat = 35 → kindC c = 3) := by
  have := all_bytes (fun c => (!decide (c.toNat = 32) || kindC c == 4) && (!decide (c.toNat = 35) || kindC c == 3)) (by decide +kernel) c
  simp only [Bool.and_eq_true, Bool.or_eq_true, Bool.not_eq_true', decide_eq_false_iff_not, beq_iff_eq] at this
  exact ⟨fun h => this.1.resolve_left (fun e => e h), fun h => this.2.resolve_left (fun e => e h)⟩
theorem esc_up : ∀ (w : List UInt8) (f : Bool), (∀ y, w.getLast? = some y → y.toNat ≠ 32) → (f = true → ∀ y, w.head? = some y → y.toNat ≠ 32) →
    (escR f w).length ≤ sumB w + (if f = true ∧ (∃ y, w.head? = some y ∧ y.toNat = 35) then 1 else 0)
  | [], f, _, _ => by simp [escR, sumB]
  | c :: r, f, hl, hh => by
    have ih := esc_up r false (fun y hy => by
      cases r with
      | nil => simp at hy
      | cons a b => exact hl y (by rw [List.getLast?_cons_cons]; exact hy)) (fun h => by cases h)
    simp only [Bool.false_eq_true, false_and, if_false, Nat.add_zero] at ih
    have hc : (escC f r.isEmpty c).length ≤ baseC c + (if f = true ∧ c.toNat = 35 then 1 else 0) := by
      by_cases h0 : kindC c = 0
      · rw [escC_zero h0]; unfold baseC; rw [if_pos h0]; omega
      · by_cases hn : needC c f r.isEmpty = true
        · rw [escC_need h0 hn]
          unfold baseC
          rw [if_neg h0]
          unfold needC at hn
          simp only [Bool.or_eq_true, beq_iff_eq, Bool.and_eq_true] at hn
          rcases hn with (h5 | ⟨h3, hf⟩) | ⟨h4, hfl⟩
          · rw [if_pos h5]; omega
          · rw [if_pos (⟨hf, (kind_spec c).2 h3⟩ : f = true ∧ c.toNat = 35)]; split <;> omega
          · exfalso
            have h32 := (kind_spec c).1 h4
            rcases hfl with hf | hlast
            · exact hh hf c rfl h32
            · cases r with
              | nil => exact hl c rfl h32
              | cons a b => simp at hlast
        · rw [escC_one h0 hn]; unfold baseC; rw [if_neg h0]; split <;> omega
    simp only [escR, List.length_append, sumB_cons]
    have e : (f = true ∧ ∃ y, (c :: r).head? = some y ∧ y.toNat = 35) ↔ (f = true ∧ c.toNat = 35) := by simp
    simp only [e]
    omega
theorem esc_low : ∀ (v : List UInt8) (f : Bool), sumB v + (if f = true ∧ (∃ y, v.head? = some y ∧ (y.toNat = 35 ∨ y.toNat = 32)) then 1 else 0) ≤ (escR f v).length
  | [], f => by simp [escR, sumB]
  | c :: r, f => by
    have ih := esc_low r false
    simp only [Bool.false_eq_true, false_and, if_false, Nat.add_zero] at ih
    have hc : baseC c + (if f = true ∧ (c.toNat = 35 ∨ c.toNat = 32) then 1 else 0) ≤ (escC f r.isEmpty c).length := by
      by_cases hx : f = true ∧ (c.toNat = 35 ∨ c.toNat = 32)
      · rw [if_pos hx]
        have hk : (kindC c = 3 ∨ kindC c = 4) := by
          rcases hx.2 with h | h
          · exact .inl ((kind_of c).2 h)
          · exact .inr ((kind_of c).1 h)
        have hn : needC c f r.isEmpty = true := by
          unfold needC
          rw [hx.1]
          rcases hk with h | h <;> simp [h]
        have h0 : kindC c ≠ 0 := by omega
        rw [escC_need h0 hn]
        unfold baseC
        rw [if_neg h0, if_neg (by omega)]
        omega
      · rw [if_neg hx]
        unfold baseC
        by_cases h0 : kindC c = 0
        · rw [if_pos h0, escC_zero h0]; omega
        · rw [if_neg h0]
          by_cases h5 : kindC c = 5
          · rw [if_pos h5, escC_need h0 (by unfold needC; simp [h5])]; omega
          · rw [if_neg h5]; have := escC_ge1 f r.isEmpty c; omega
    simp only [escR, List.length_append, sumB_cons]
    have e : (f = true ∧ ∃ y, (c :: r).head? = some y ∧ (y.toNat = 35 ∨ y.toNat = 32)) ↔ (f = true ∧ (c.toNat = 35 ∨ c.toNat = 32)) := by simp
    simp only [e]
    omega
theorem frun_sum : ∀ l : List UInt8, sumB (frun l).1 + (if (frun l).2 = true then 1 else 0) ≤ sumB l := by
  refine snoc_ind (by simp [frun, sumB]) ?_
  intro l c ih
  rw [frun_snoc, sumB_app, sumB_one]
  by_cases h : c.toNat = 32
  · rw [fstep_blank _ _ h]
    have hb : baseC c = 1 := by unfold baseC; rw [(kind_of c).1 h]; rfl
    rw [hb]
    dsimp only
    split <;> split at ih <;> omega
  · rw [fstep_other _ _ h]
    simp only [sumB_app, sumB_one, baseC_low]
    have : sumB (if (frun l).2 = true then ([32] : List UInt8) else []) = if (frun l).2 = true then 1 else 0 := by
      split
      · rw [sumB_one]; decide
      · rfl
    rw [this]
    simp only [Bool.false_eq_true, if_false]
    omega
theorem frun_first : ∀ l : List UInt8, ∀ y, (frun l).1.head? = some y → y.toNat ≠ 32 := by
  refine snoc_ind (by simp [frun]) ?_
  intro l c ih y hy
  rw [frun_snoc] at hy
  by_cases h : c.toNat = 32
  · rw [fstep_blank _ _ h] at hy
    exact ih y hy
  · rw [fstep_other _ _ h] at hy
    cases ho : (frun l).1 with
    | nil =>
      have hg : (frun l).2 = false := by
        cases hw : (frun l).2 with
        | false => rfl
        | true => exact absurd ho (frun_gap l hw)
      rw [ho, hg] at hy
      simp at hy
      rw [← hy]
      exact fun e => h ((lowC_blank c).1 e)
    | cons a b =>
      rw [ho] at hy
      simp at hy
      exact ih y (by rw [ho]; simpa using hy)
theorem foldl_head : ∀ (r : List UInt8) (st : List UInt8 × Bool) (x : UInt8), st.1.head? = some x → (r.foldl fstep st).1.head? = some x
  | [], _, _, h => h
  | c :: r, st, x, h => by
    rw [List.foldl_cons]
    refine foldl_head r _ x ?_
    unfold fstep
    split
    · exact h
    · cases hs : st.1 with
      | nil => rw [hs] at h; cases h
      | cons a b => rw [hs] at h; simpa using h
theorem fold_head {c : UInt8} {r : List UInt8} (h : c.toNat ≠ 32) : (fold (c :: r)).head? = some (lowC c) := by
  unfold fold frun
  rw [List.foldl_cons]
  refine foldl_head r _ _ ?_
  rw [fstep_other _ _ h]; rfl
theorem esc_fold (v : List UInt8) : (escV (fold v)).length ≤ (escV v).length := by
  have h1 := esc_up (fold v) true (frun_spaced v).2 (fun _ => frun_first v)
  have h2 := esc_low v true
  have h3 := frun_sum v
  have h3' : sumB (fold v) ≤ sumB v := by unfold fold; split at h3 <;> omega
  unfold escV
  by_cases hx : ∃ y, (fold v).head? = some y ∧ y.toNat = 35
  · rw [if_pos ⟨rfl, hx⟩] at h1
    have hv : ∃ y, v.head? = some y ∧ (y.toNat = 35 ∨ y.toNat = 32) := by
      obtain ⟨y, hy, h35⟩ := hx
      cases v with
      | nil => simp [fold, frun] at hy
      | cons c r =>
        refine ⟨c, rfl, ?_⟩
        by_cases h32 : c.toNat = 32
        · exact .inr h32
        · rw [fold_head h32] at hy
          simp only [Option.some.injEq] at hy
          rw [← hy, lowC_toNat] at h35
          split at h35
          · omega
          · exact .inl h35
    rw [if_pos ⟨rfl, hv⟩] at h2
    omega
  · rw [if_neg (fun e => hx e.2)] at h1
    split at h2 <;> omega
theorem text_norm_len : ∀ l : List R, (textD (l.map normR)).length ≤ (textD l).length
  | [] => by simp [textD]
  | [r] => by
    show (textR (normR r)).length ≤ (textR r).length
    have := esc_fold r.2
    unfold textR normR
    simp only [List.length_append, List.length_cons, low_length]
    omega
  | r :: x :: l => by
    have ih := text_norm_len (x :: l)
    have := esc_fold r.2
    rw [List.map_cons, List.map_cons, text_cons, text_cons]
    rw [List.map_cons] at ih
    have e : (textR (normR r)).length ≤ (textR r).length := by
      unfold textR normR
      simp only [List.length_append, List.length_cons, low_length]
      omega
    simp only [List.length_append, List.length_cons]
    omega
theorem normR_norm (r : R) : normR (normR r) = normR r := by simp [normR, low_low, fold_fold]
theorem key_key {v k : List UInt8} (h : keyD v = some k) : keyD k = some k ∧ k.length ≤ v.length := by
  unfold keyD at h
  cases hp : parseD v with
  | none => rw [hp] at h; cases h
  | some l =>
    rw [hp] at h
    simp only at h
    split at h
    · rename_i hf
      cases h
      have hok := parse_ok hp
      have h1 := okL_norm hok hf
      have h2 : (l.map normR).all okF = true := by
        rw [List.all_map]
        have : (okF ∘ normR) = okF := by funext r; simp [okF, normR, fold_fold]
        rw [this]; exact hf
      have h3 := key_text h1 h2
      have h4 : (l.map normR).map normR = l.map normR := by
        rw [List.map_map]
        congr 1
        funext r
        exact normR_norm r
      rw [h4] at h3
      exact ⟨h3, Nat.le_trans (text_norm_len l) (parse_len hp)⟩
    · cases h
end Go.Proofs.YtmilgbkkibahlaaGreatDoor


namespace Go.Proofs.YtmilgbkkibahlaaGreatDoor
open Go.RowKit
set_option linter.unusedVariables false
set_option linter.unusedSimpArgs false

def lessV (o : Option Bool) : Value := match o with
  | some b => .tuple #[.bool b, .bool true]
  | none => .tuple #[.bool false, .bool false]
theorem norm2_self {v x : List UInt8} (h : normD 2 v = some x) : x = v ∧ ∃ n, numD v = some n := by
  unfold normD at h
  rw [if_neg (fun e => by rw [if_pos e] at h; cases h)] at h
  rw [if_neg (by decide), if_pos rfl] at h
  split at h
  · rename_i hn
    obtain ⟨n, hn⟩ := Option.isSome_iff_exists.1 hn
    exact ⟨(Option.some.inj h).symm, n, hn⟩
  · cases h
theorem lessFl_any (t a b : ByteArray) (ha : a.size ≤ 281474976710656) (hb : b.size ≤ 281474976710656) (w : World) (hw : LaidW w) :
    Calls Tryz.prog 41 #[.string t, .string a, .string b] w fun e w' => e = .returned (lessV (lessD (ruleD t.data.toList) a.data.toList b.data.toList)) ∧ Below w.heap.size w w' := by
  cases hp : normD (ruleD t.data.toList) a.data.toList with
  | none =>
    have h := less_no t a b w hw (.inl hp)
    rw [show lessD (ruleD t.data.toList) a.data.toList b.data.toList = none from by unfold lessD; rw [hp]]
    exact h
  | some x =>
    cases hq : normD (ruleD t.data.toList) b.data.toList with
    | none =>
      have h := less_no t a b w hw (.inr (.inl hq))
      rw [show lessD (ruleD t.data.toList) a.data.toList b.data.toList = none from by unfold lessD; rw [hp, hq]]
      exact h
    | some y =>
      by_cases h1 : ruleD t.data.toList = 1
      · have hd : lessD (ruleD t.data.toList) a.data.toList b.data.toList = some (Op.bytesLess x y) := by unfold lessD; rw [hp, hq]; simp only [h1, if_true]
        rw [hd]
        rw [h1] at hp hq
        have h := less_text t a b ⟨x.toArray⟩ ⟨y.toArray⟩ w hw h1 (by rw [hp]) (by rw [hq])
        rw [ByteArray.toList_eq, ByteArray.toList_eq] at h
        exact h
      · by_cases h2 : ruleD t.data.toList = 2
        · rw [h2] at hp hq
          obtain ⟨rfl, m, hm⟩ := norm2_self hp
          obtain ⟨rfl, n, hn⟩ := norm2_self hq
          have hd : lessD (ruleD t.data.toList) a.data.toList b.data.toList = some (decide (m < n)) := by unfold lessD; rw [h2, hp, hq]; simp only [hm, hn]; rfl
          rw [hd]
          exact less_int t a b m n w ha hb hw h2 hp hq hm hn
        · have h := less_no t a b w hw (.inr (.inr ⟨h1, h2⟩))
          rw [show lessD (ruleD t.data.toList) a.data.toList b.data.toList = none from by unfold lessD; rw [hp, hq]; simp only; rw [if_neg h1, if_neg h2]]
          exact h
set_option maxRecDepth 100000 in
set_option maxHeartbeats 2000000 in
theorem notBelow_any (t a b : ByteArray) (ha : a.size ≤ 281474976710656) (hb : b.size ≤ 281474976710656) (w : World) (hw : LaidW w) :
    Calls Tryz.prog 47 #[.string t, .string a, .string b] w fun e w' => e = .returned (.bool (aboveE (ruleD t.data.toList) a.data.toList b.data.toList)) ∧ Below w.heap.size w w' := by
  have hl := lessFl_any t a b ha hb w hw
  unfold aboveE
  obtain ⟨o, ho⟩ : ∃ o, o = lessD (ruleD t.data.toList) a.data.toList b.data.toList := ⟨_, rfl⟩
  rw [← ho] at hl ⊢
  have HL := Lib.hid hl
  clear hl ho
  match o with
  | none =>
    go_enter Tryz.func47, Tryz.ntmps47
    go_wp2_with (go_at_call 41; refine (HL.out).mono ?_; rintro e w2 ⟨rfl, hb2⟩; have HB := Lib.hid hb2; clear hb2; unfold lessV)
    go_ret
    exact ⟨rfl, HB.out⟩
  | some true =>
    go_enter Tryz.func47, Tryz.ntmps47
    go_wp2_with (go_at_call 41; refine (HL.out).mono ?_; rintro e w2 ⟨rfl, hb2⟩; have HB := Lib.hid hb2; clear hb2; unfold lessV)
    go_ret
    exact ⟨rfl, HB.out⟩
  | some false =>
    go_enter Tryz.func47, Tryz.ntmps47
    go_wp2_with (go_at_call 41; refine (HL.out).mono ?_; rintro e w2 ⟨rfl, hb2⟩; have HB := Lib.hid hb2; clear hb2; unfold lessV)
    go_ret
    exact ⟨rfl, HB.out⟩
set_option maxRecDepth 100000 in
set_option maxHeartbeats 1000000 in
theorem lowEv_any (s : ByteArray) (w : World) (hs : s.size ≤ 281474976710656) :
    Calls Tryz.prog 63 #[.string s] w fun e w' => e = .returned (.string (lowB s)) ∧ Below w.heap.size w w' := by
  have hcv := fun w => Lib.run_convert_string_bytes (P := Tryz.prog) w 9 22 5 s Tryz.underlying9 Tryz.underlying22 Tryz.underlying5
  go_enter Tryz.func63, Tryz.ntmps63
  go_wp2
  clear hcv
  generalize grownCap w s.size 0 5 = cap
  go_loopw [10] (fun i wr => ∃ j : Nat, j ≤ s.size ∧ i = .int .i64 j ∧ LowAt w s j wr) (fun i _ => s.size - (intOf i).toNat)
  case atStart => exact ⟨0, by omega, rfl, lowAt_start w s⟩
  case round =>
    obtain ⟨j, hj, rfl, hlow⟩ := hrel
    by_cases hlt : j < s.size
    · have t1 : decide ((j : Int) < (s.size : Int)) = true := by simp; omega
      obtain ⟨c0, f0⟩ := hlow.cell hlt
      obtain ⟨c, hc⟩ : ∃ c : UInt8, c = s[j] := ⟨_, rfl⟩
      rw [← hc] at c0
      have hcl := c.toNat_lt
      have HLow := Lib.hid hlow
      clear hlow
      by_cases h1 : 65 ≤ c.toNat
      · have t2 : decide ((65 : Int) ≤ (c.toNat : Int)) = true := by simp; omega
        by_cases h2 : c.toNat ≤ 90
        · have t3 : decide ((c.toNat : Int) ≤ 90) = true := by simp; omega
          have HSt := Lib.hid (HLow.out.store hlt ((c.toNat : Int) + 97 - 65) (by rw [show (c.toNat : Int) + 97 - 65 = (c.toNat : Int) + 32 by omega, lowC_up h1 h2, hc]))
          clear hc
          go_wp2
          go_roundw
          case rel => exact ⟨j + 1, by omega, by go_num, HSt.out⟩
          case measure => simp [intOf]; omega
        · have t3 : decide ((c.toNat : Int) ≤ 90) = false := by simp; omega
          have HSt := Lib.hid (HLow.out.skip hlt (by rw [← hc]; exact lowC_no (by omega)))
          clear hc
          go_wp2
          go_roundw
          case rel => exact ⟨j + 1, by omega, by go_num, HSt.out⟩
          case measure => simp [intOf]; omega
      · have t2 : decide ((65 : Int) ≤ (c.toNat : Int)) = false := by simp; omega
        have HSt := Lib.hid (HLow.out.skip hlt (by rw [← hc]; exact lowC_no (by omega)))
        clear hc
        go_wp2
        go_roundw
        case rel => exact ⟨j + 1, by omega, by go_num, HSt.out⟩
        case measure => simp [intOf]; omega
    · obtain rfl : j = s.size := by omega
      have t1 : decide ((s.size : Int) < (s.size : Int)) = false := by simp
      have hcv := hlow.conv (cap := cap)
      have HLow := Lib.hid hlow
      clear hlow
      go_wp2
      go_ret
      exact ⟨rfl, HLow.out.1⟩
end Go.Proofs.YtmilgbkkibahlaaGreatDoor


namespace Go.Proofs.YtmilgbkkibahlaaGreatDoor
open Go.RowKit
set_option linter.unusedVariables false
set_option linter.unusedSimpArgs false

theorem step_append_textS {ops : Array Oper} {o : Oper} {a : Act} {w : World} {K : Act → World → Prop} {Q : Exit → Act → World → Prop} {E : Prop} (hgd : o.guard = none) (sl x : Operand)
    (ho : o.op = .call { callee := .builtin .append, args := #[sl, x], argTypes := #[28, 28] })
    (base : Nat) (v : Value) (L : List (List UInt8)) (hs : a.eval sl = v) (X : ByteArray) (hown : OwnS base w v L) (hx : a.eval x = .slice (some ⟨w.heap.size, 0, none⟩) 1 1)
    (h63 : L.length + 1 ≤ 1000000) (hbase : base ≤ w.heap.size)
    (h : ∀ v' w', OwnS base w' v' (L ++ [X.data.toList]) → Below base w w' → K (a.put o.dst v') w') :
    if Region.wanted o (yielded ops a.tmps) = true then Oper.wp Tryz.prog o a (w.alloc (.cells #[.string X] 9)) K Q else E := by
  obtain ⟨i0, hi, hz0, hz1, hz2⟩ := info_parts infoS
  refine step_append_lies _ hgd sl x 28 ho base 9 i0 (.string ⟨#[]⟩) 1 16 Tryz.underlying28 hi hz0 hz1 hz2 rfl (by decide) v L.length (L.map strV) hs (World.ownsRow.alloc hown _) ⟨w.heap.size, 0, none⟩ 1 1 [.string X] hx rfl (cell_one_new w (.string X) 9) (by intro u hu; simp at hu; rw [hu]; rfl) (by decide) (by unfold maxLen; omega) (by omega) (by simp; omega) _ rfl ?_
  intro g cap w' hown' hgrow hat hlt
  refine h _ w' ?_ ?_
  · unfold OwnS
    rw [List.length_append, List.map_append]
    have : [X.data.toList].map strV = [Value.string X] := by show [Value.string ⟨X.data.toList.toArray⟩] = _; rw [whole_ext]
    rw [this]
    exact hown'
  · exact ((Below.refl base w).alloc hbase _).grown hgrow (by simp; omega) (fun k e => (World.ownsRow.lt hown k e).1)
theorem normD_len {r : Nat} {v x : List UInt8} (h : normD r v = some x) : x.length ≤ 100 := by
  unfold normD at h
  split at h
  · cases h
  · rename_i h0
    have hv : v.length ≤ 100 := by omega
    split at h
    · split at h
      · cases h
      · rw [← Option.some.inj h]
        exact Nat.le_trans (fold_len v) hv
    · split at h
      · split at h
        · rw [← Option.some.inj h]; exact hv
        · cases h
      · split at h
        · split at h
          · rename_i k hk
            split at h
            · cases h
            · rw [← Option.some.inj h]
              exact Nat.le_trans (key_key hk).2 hv
          · cases h
        · split at h
          · rw [← Option.some.inj h]; exact hv
          · cases h
abbrev PvAt (W : World) (b : Nat) (v : Value) : Prop := W.heap[b]? = some (.cells #[v] 28 (0, 0))
theorem pv_lt {W : World} {b : Nat} {v : Value} (h : PvAt W b v) : b < W.heap.size := (Array.getElem?_eq_some_iff.1 h).1
theorem pv_below {W W' : World} {b m : Nat} {v : Value} (h : PvAt W b v) (hb : Below m W W') (hn : b < m) : PvAt W' b v := (hb.block b hn).trans h
theorem pv_cell {W : World} {b : Nat} {v : Value} (h : PvAt W b v) : W.cell? ⟨b, 0, none⟩ = some v ∧ W.frozen? ⟨b, 0, none⟩ = false := by
  have h' : W.heap[b]? = some (.cells #[v] 28 (0, 0)) := h
  refine ⟨?_, ?_⟩
  · simp [World.cell?, h']
  · simp [World.frozen?, h']
structure PrtAt (w wr : World) (x0 x1 x2 x3 x4 v : Value) (L : List (List UInt8)) : Prop where
  fl : FlAt wr w.heap.size x0 x1 x2 x3 x4
  pv : PvAt wr (w.heap.size + 1) v
  own : OwnS (w.heap.size + 2) wr v L
  bel : Below w.heap.size w wr
theorem PrtAt.lt {w wr : World} {x0 x1 x2 x3 x4 v : Value} {L : List (List UInt8)} (h : PrtAt w wr x0 x1 x2 x3 x4 v L) : w.heap.size + 2 ≤ wr.heap.size := by have := pv_lt h.pv; omega
theorem PrtAt.go {w wr wx : World} {x0 x1 x2 x3 x4 v : Value} {L : List (List UInt8)} (h : PrtAt w wr x0 x1 x2 x3 x4 v L) (hb : Below wr.heap.size wr wx) : PrtAt w wx x0 x1 x2 x3 x4 v L :=
  ⟨fl_below h.fl hb (fl_lt h.fl), pv_below h.pv hb (pv_lt h.pv), ownS_below h.own hb, bthen h.bel hb⟩
theorem prt_new (w : World) (x0 x1 x2 x3 x4 : Value) : PrtAt w ((w.alloc (.cells #[x0, x1, x2, x3, x4] 31)).alloc (.cells #[.slice none 0 0] 28)) x0 x1 x2 x3 x4 (.slice none 0 0) [] := by
  have h1 := box5 w x0 x1 x2 x3 x4
  have h2 : Below (w.alloc (.cells #[x0, x1, x2, x3, x4] 31)).heap.size (w.alloc (.cells #[x0, x1, x2, x3, x4] 31)) ((w.alloc (.cells #[x0, x1, x2, x3, x4] 31)).alloc (.cells #[.slice none 0 0] 28)) := (Below.refl _ _).alloc (Nat.le_refl _) _
  have hz : FlAt (w.alloc (.cells #[x0, x1, x2, x3, x4] 31)) w.heap.size x0 x1 x2 x3 x4 := heap_alloc_new w _
  have hs : (w.alloc (.cells #[x0, x1, x2, x3, x4] 31)).heap.size = w.heap.size + 1 := by simp only [World.alloc, Array.size_push]
  have hn := heap_alloc_new (w.alloc (.cells #[x0, x1, x2, x3, x4] 31)) (.cells #[.slice none 0 0] 28)
  rw [hs] at hn
  exact ⟨fl_below hz h2 (fl_lt hz), hn, ownS_nil _ _, bthen h1 h2⟩
theorem prt_next {w wr w4 w6 : World} {x0 x1 x2 x3 x4 v v6 : Value} {L L' : List (List UInt8)} (h : PrtAt w wr x0 x1 x2 x3 x4 v L) (h4 : Below wr.heap.size wr w4) (h6 : Below (w.heap.size + 2) w4 w6) (ho : OwnS (w.heap.size + 2) w6 v6 L') :
    PvAt w6 (w.heap.size + 1) v ∧ PrtAt w (w6.setCell ⟨w.heap.size + 1, 0, none⟩ v6) x0 x1 x2 x3 x4 v6 L' := by
  have hlt := h.lt
  have hg := h.go h4
  have hp6 := pv_below hg.pv h6 (Nat.lt_succ_self _)
  have hf6 := fl_below hg.fl h6 (by omega)
  refine ⟨hp6, (blockFl_ne _ ⟨w.heap.size + 1, 0, none⟩ _ (by show w.heap.size ≠ w.heap.size + 1; omega)).trans hf6, ?_, ?_, (hg.bel.trans (h6.mono (by omega))).setCell (p := ⟨w.heap.size + 1, 0, none⟩) (by show w.heap.size ≤ w.heap.size + 1; omega) _⟩
  · have h' : w6.heap[w.heap.size + 1]? = some (.cells #[v] 28 (0, 0)) := hp6
    show (w6.setCell ⟨w.heap.size + 1, 0, none⟩ v6).heap[w.heap.size + 1]? = _
    simp [World.setCell, Array.getElem?_modify, h']
  · refine World.ownsRow.kept ho (row := some (w.heap.size + 1)) ⟨rfl, rfl, rfl, by rw [World.size_setCell]; exact Nat.le_refl _, fun k hk hne => heap_setCell_other _ _ _ _ (fun e => hne (by rw [e]))⟩ ?_
    right
    intro e
    have := (World.ownsRow.lt ho _ e).1
    omega
set_option maxRecDepth 100000 in
set_option maxHeartbeats 4000000 in
theorem hasParts_any (k : Int) (T X : ByteArray) (p : List (List UInt8)) (pa ka : Option Addr) (n pc kn kc : Nat) (w : World) (hn : n = p.length) (hn3 : n ≤ 1000) (hpl : ∀ x ∈ p, x.length ≤ 1000000) (h : IsTo (Lt w) w p (.slice pa n pc)) :
    Calls Tryz.prog 49 #[.agg #[.int .i64 k, .string T, .string X, .slice pa n pc, .slice ka kn kc]] w fun e w' => ∃ v, e = .returned (.func (.func 64) #[] #[.pointer (some ⟨w.heap.size, 0, none⟩), .pointer (some ⟨w.heap.size + 1, 0, none⟩)]) ∧ PrtAt w w' (.int .i64 k) (.string T) (.string X) (.slice pa n pc) (.slice ka kn kc) v (p.map low) := by
  have hmf : ∀ (fn : Fn) (first cap : Array Value) (w : World), (Instr.makeFunc fn first cap).run Tryz.prog w = .ok (.func fn first cap) w := fun _ _ _ _ => rfl
  obtain ⟨W1, hW1⟩ : ∃ W, W = (w.alloc (.cells #[.int .i64 k, .string T, .string X, .slice pa n pc, .slice ka kn kc] 31)).alloc (.cells #[.slice none 0 0] 28) := ⟨_, rfl⟩
  have HP1 : Hid (PrtAt w W1 (.int .i64 k) (.string T) (.string X) (.slice pa n pc) (.slice ka kn kc) (.slice none 0 0) []) := Lib.hid (by rw [hW1]; exact prt_new w _ _ _ _ _)
  have HW1 := Lib.hid hW1.symm
  obtain ⟨a0, c0, e0, _, hcell⟩ := h
  have e1 : a0 = pa := by injection e0 with e1 _ _; exact e1.symm
  subst e1
  have HC := Lib.hid hcell
  have HN := Lib.hid hn
  have HPl := Lib.hid hpl
  obtain ⟨q0, q1, q2, q3, q4⟩ := fl_cells HP1.out.fl
  clear hW1 e0 hcell hn hpl
  go_enter Tryz.func49, Tryz.ntmps49
  go_upto_region 2 with (fail)
  rw [HW1.out]
  go_wp2
  clear q0 q1 q2 q3 q4
  go_loopw [9] (fun i wr => ∃ (j : Nat) (v : Value), j ≤ n ∧ i = .int .i64 j ∧ Hid (PrtAt w wr (.int .i64 k) (.string T) (.string X) (.slice a0 n pc) (.slice ka kn kc) v ((p.take j).map low))) (fun i _ => n - (intOf i).toNat)
  case atStart => exact ⟨0, .slice none 0 0, by omega, rfl, HP1⟩
  case round =>
    obtain ⟨j, v, hj, rfl, HP⟩ := hrel
    by_cases hlt : j < n
    · have t1 : decide ((j : Int) < (n : Int)) = true := by simp; omega
      have t1' : decide (j < n) = true := by simpa using hlt
      have hjp : j < p.length := by rw [← HN.out]; exact hlt
      obtain ⟨b, off, rfl, hbl, hc⟩ := HC.out j hjp
      obtain ⟨Y, hY, hYl⟩ := strV_text p[j]
      have d0 : wr.cell? ⟨b, off + j, none⟩ = some (.string Y) := by rw [HP.out.bel.cell (p := ⟨b, _, none⟩) hbl, hc, hY]
      have hYs : Y.size ≤ 281474976710656 := by rw [← bytes_len, hYl]; have := HPl.out _ (List.getElem_mem hjp); omega
      have hlo := fun W => lowEv_any Y W hYs
      have HLo := Lib.hid hlo
      have htk : ((p.take j).map low) ++ [(lowB Y).data.toList] = (p.take (j + 1)).map low := by
        rw [List.take_succ_eq_append_getElem hjp, List.map_append, lowB_list, hYl]
        rfl
      have HTk := Lib.hid htk
      obtain ⟨Z, hZ⟩ : ∃ Z, Z = lowB Y := ⟨_, rfl⟩
      rw [← hZ] at HLo HTk
      obtain ⟨va, vc, hv⟩ := ownS_slice HP.out.own
      have hll : ((p.take j).map low).length = j := by rw [List.length_map, List.length_take, ← HN.out]; omega
      rw [hll] at hv
      subst hv
      have HLl := Lib.hid hll
      obtain ⟨p0, p1⟩ := pv_cell HP.out.pv
      obtain ⟨pb, hpb⟩ : ∃ b, b = w.heap.size + 1 := ⟨_, rfl⟩
      have HPb := Lib.hid hpb
      rw [← hpb] at p0 p1
      have hlw := HP.out.lt
      rw [← hpb]
      clear hc hY hYl hlo htk hZ hpb hll
      go_upto_region 5 with (fail)
      have p0d : wr.drew.cell? ⟨pb, 0, none⟩ = some (.slice va j vc) := p0
      go_region_law (first
        | (go_simp; go_at_call 63; refine (HLo.out wr.drew).mono ?_; rintro e w4 ⟨rfl, hb4⟩; have hb4' : Below wr.heap.size wr w4 := ⟨hb4.1, hb4.2, hb4.3, hb4.4, hb4.5⟩; have hpl : pb < wr.heap.size := (by rw [HPb.out]; exact pv_lt HP.out.pv); have r0 : w4.cell? ⟨pb, 0, none⟩ = some (.slice va j vc) := (hb4'.cell (p := ⟨pb, 0, none⟩) hpl).trans p0; have r1 : (w4.alloc (.cells #[.string Z] 9)).cell? ⟨pb, 0, none⟩ = some (.slice va j vc) := (Below.cell (p := ⟨pb, 0, none⟩) ((Below.refl w4.heap.size w4).alloc (Nat.le_refl _) _) (Nat.lt_of_lt_of_le hpl hb4'.size)).trans r0; have HB4 := Lib.hid hb4'; clear hb4 hb4')
        | (refine step_append_textS rfl (.tmp 13) (.tmp 16) rfl (w.heap.size + 2) (.slice va j vc) ((p.take j).map low) rfl Z (ownS_below HP.out.own HB4.out) rfl (by rw [HLl.out]; omega) (by have := HB4.out.size; omega) ?_; intro v6 w6 hown6 hb6; have hx := prt_next HP.out HB4.out hb6 hown6; have hs6 := pv_cell hx.1; rw [← HPb.out] at hs6; (obtain ⟨s0, s1⟩ := hs6); (obtain ⟨ga, gc, hv6⟩ := ownS_slice hown6); (obtain ⟨m6, hm6⟩ : ∃ m, m = ((p.take j).map low ++ [Z.data.toList]).length := ⟨_, rfl⟩); rw [← hm6] at hv6; subst hv6; have HNx : Hid (PrtAt w (w6.setCell ⟨pb, 0, none⟩ (.slice ga m6 gc)) (.int .i64 k) (.string T) (.string X) (.slice (some ⟨b, off, none⟩) n pc) (.slice ka kn kc) (.slice ga m6 gc) ((p.take (j + 1)).map low)) := Lib.hid (by { rw [HPb.out, ← HTk.out]; exact hx.2 }); clear hown6 hb6 hx hm6))
      all_goals
        go_wp2
        go_roundw
        case rel => exact ⟨j + 1, _, by omega, by go_num, HNx⟩
        case measure => simp [intOf]; omega
    · obtain rfl : j = n := by omega
      have t1 : decide ((j : Int) < (j : Int)) = false := by simp
      have t1' : decide (j < j) = false := by simp
      have HE : Hid ((p.take j).map low = p.map low) := Lib.hid (by rw [List.take_of_length_le (by rw [← HN.out]; exact Nat.le_refl _)])
      go_wp2
      go_ret
      exact ⟨v, rfl, by rw [← HE.out]; exact HP.out⟩
set_option maxRecDepth 100000 in
set_option maxHeartbeats 4000000 in
theorem askParts_any (k : Int) (T X V : ByteArray) (p : List (List UInt8)) (b6 b7 : Nat) (x3 x4 v : Value) (q : List (List UInt8)) (w0 w1 w : World) (hw : LaidW w) (hX : LaidX w) (hP : PrtAt w0 w1 (.int .i64 k) (.string T) (.string X) x3 x4 v q) (hb : Below w1.heap.size w1 w) (hq : q = p.map low)
    (hq2 : 2 ≤ p.length) (hq3 : p.length ≤ 1000) (hpl : ∀ x ∈ p, x.length ≤ 1000000) (hV : V.size ≤ 1000000) (h6 : b6 = w0.heap.size) (h7 : b7 = w0.heap.size + 1) :
    Calls Tryz.prog 64 #[.string V, .pointer (some ⟨b6, 0, none⟩), .pointer (some ⟨b7, 0, none⟩)] w fun e w' => e = .returned (.bool (partsE (ruleD T.data.toList) p V.data.toList)) ∧ Below w.heap.size w w' := by
  have hP' := hP.go hb
  subst h6
  subst h7
  obtain ⟨c0, c1, c2, c3, c4⟩ := fl_cells hP'.fl
  obtain ⟨p0, _⟩ := pv_cell hP'.pv
  have hnm := norm_any T V w hw
  obtain ⟨R, hR⟩ : ∃ R, R = partsE (ruleD T.data.toList) p V.data.toList := ⟨_, rfl⟩
  rw [← hR]
  unfold partsE at hR
  have hql : q.length = p.length := by rw [hq, List.length_map]
  have hqp : ∀ x ∈ q, x.length ≤ 1000000 := by
    rw [hq]
    intro x hx
    obtain ⟨y, hy, rfl⟩ := List.mem_map.1 hx
    rw [low_length]
    exact hpl y hy
  have hne : q ≠ [] := fun e => by rw [e] at hql; simp at hql; omega
  obtain ⟨g, cp, hv, hg0, hg1, hcell⟩ := ownS_at hP'.own hne
  subst hv
  have hcp : q.length ≤ cp := by
    rcases hP'.own.2 with ⟨e, _⟩ | ⟨g', cap, cur, e, _, hc, _, hle, _⟩
    · cases e
    · cases e
      omega
  have hnl : ∀ x, normD (ruleD T.data.toList) V.data.toList = some x → x.length ≤ 1000000 := fun x hx => Nat.le_trans (normD_len hx) (by omega)
  obtain ⟨o, ho⟩ : ∃ o, o = normD (ruleD T.data.toList) V.data.toList := ⟨_, rfl⟩
  rw [← ho] at hR hnm hnl
  have HNm := Lib.hid hnm
  have HR := Lib.hid hR
  cases o with
  | none =>
    clear hnm hR hP hP' hb hcell ho
    go_enter Tryz.func64, Tryz.ntmps64
    go_wp2_with (go_at_call 40; refine (HNm.out).mono ?_; rintro e w2 ⟨rfl, hb2⟩; have HB := Lib.hid hb2; clear hb2; unfold saidP)
    go_ret
    exact ⟨by rw [HR.out]; rfl, HB.out⟩
  | some x =>
    obtain ⟨N, hN⟩ : ∃ N : ByteArray, N = ⟨x.toArray⟩ := ⟨_, rfl⟩
    have hNl : N.data.toList = x := by rw [hN]
    have hNs : N.size ≤ 1000000 := by rw [← bytes_len, hNl]; exact hnl x rfl
    have hmd := fun W (hW : Below w.heap.size w W) => madeOf_any N hNs q g 0 cp q.length W (hX.below hW) rfl (by omega) (by omega) hcp hqp (fun j h => by rw [Nat.zero_add]; exact (hW.cell (p := ⟨g, j, none⟩) hg1).trans (hcell j h)) (Nat.lt_of_lt_of_le hg1 hW.size)
    rw [hNl] at hmd
    have hR2 : R = madeO x q := by rw [hR, hq]
    rw [← hR2] at hmd
    have HMd := Lib.hid hmd
    have hsv : saidP (some x) = .tuple #[.string N, .bool true] := by rw [hN]; rfl
    rw [hsv] at HNm
    have p0' := fun W (hW : Below w.heap.size w W) => (hW.cell (p := ⟨w0.heap.size + 1, 0, none⟩) (pv_lt hP'.pv)).trans p0
    have HP0 := Lib.hid p0'
    obtain ⟨ql, hqq⟩ : ∃ n, n = q.length := ⟨_, rfl⟩
    rw [← hqq] at HMd HP0 p0
    clear hnm hR hP hP' hb hcell ho hmd hsv hN hNl hR2 p0' hqq
    go_enter Tryz.func64, Tryz.ntmps64
    go_wp2_with (first
      | (go_at_call 40; refine (HNm.out).mono ?_; rintro e w2 ⟨rfl, hb2⟩; have HB := Lib.hid hb2; have p2 := HP0.out _ hb2; clear hb2)
      | (go_at_call 65; refine (HMd.out _ HB.out).mono ?_; rintro e w3 ⟨rfl, hb3⟩; have HB3 := Lib.hid (bthen HB.out hb3); clear hb3))
    go_ret
    exact ⟨rfl, HB3.out⟩
end Go.Proofs.YtmilgbkkibahlaaGreatDoor


namespace Go.Proofs.YtmilgbkkibahlaaGreatDoor
open Go.RowKit
set_option linter.unusedVariables false
set_option linter.unusedSimpArgs false

set_option maxRecDepth 100000 in
set_option maxHeartbeats 2000000 in
theorem askG_any (T X V : ByteArray) (x0 x3 x4 : Value) (b : Nat) (hX : X.size ≤ 281474976710656) (hV : V.size ≤ 281474976710656) (w : World) (hw : LaidW w) (hf : FlAt w b x0 (.string T) (.string X) x3 x4) :
    Calls Tryz.prog 46 #[.string V, .pointer (some ⟨b, 0, none⟩)] w fun e w' => e = .returned (.bool (aboveE (ruleD T.data.toList) V.data.toList X.data.toList)) ∧ Below w.heap.size w w' := by
  have hn := notBelow_any T V X (by omega) (by omega) w hw
  obtain ⟨c0, c1, c2, c3, c4⟩ := fl_cells hf
  have HN := Lib.hid hn
  clear hn hf
  go_enter Tryz.func46, Tryz.ntmps46
  go_wp2_with (go_at_call 47; refine (HN.out).mono ?_; rintro e w2 ⟨rfl, hb2⟩; have HB := Lib.hid hb2; clear hb2)
  go_ret
  exact ⟨rfl, HB.out⟩
set_option maxRecDepth 100000 in
set_option maxHeartbeats 2000000 in
theorem askL_any (T X V : ByteArray) (x0 x3 x4 : Value) (b : Nat) (hX : X.size ≤ 281474976710656) (hV : V.size ≤ 281474976710656) (w : World) (hw : LaidW w) (hf : FlAt w b x0 (.string T) (.string X) x3 x4) :
    Calls Tryz.prog 48 #[.string V, .pointer (some ⟨b, 0, none⟩)] w fun e w' => e = .returned (.bool (aboveE (ruleD T.data.toList) X.data.toList V.data.toList)) ∧ Below w.heap.size w w' := by
  have hn := notBelow_any T X V (by omega) (by omega) w hw
  obtain ⟨c0, c1, c2, c3, c4⟩ := fl_cells hf
  have HN := Lib.hid hn
  clear hn hf
  go_enter Tryz.func48, Tryz.ntmps48
  go_wp2_with (go_at_call 47; refine (HN.out).mono ?_; rintro e w2 ⟨rfl, hb2⟩; have HB := Lib.hid hb2; clear hb2)
  go_ret
  exact ⟨rfl, HB.out⟩
set_option maxRecDepth 100000 in
set_option maxHeartbeats 2000000 in
theorem someG_any (d T : ByteArray) (L : List AT) (hs : smallA L) (va : Option Addr) (vn vc : Nat) (b1 : Nat) (q : List UInt8 → Bool) (w : World) (h : IsA w.heap.size w L (.slice va vn vc))
    (HQ : ∀ (X : ByteArray) (W : World), Below w.heap.size w W → X.data.toList ∈ findA L T.data.toList → Calls Tryz.prog 46 #[.string X, .pointer (some ⟨b1, 0, none⟩)] W fun e w' => e = .returned (.bool (q X.data.toList)) ∧ Below W.heap.size W w') :
    Calls Tryz.prog 45 #[.agg #[.string d, .slice va vn vc], .string T, .func (.func 46) #[] #[.pointer (some ⟨b1, 0, none⟩)]] w fun e w' => e = .returned (.bool ((findA L T.data.toList).any q)) ∧ Below w.heap.size w w' := by
  have hfl : (findA L T.data.toList).length ≤ 1000000 := by
    unfold findA
    split
    · rename_i a ha
      have := ((hs.2 a (List.mem_of_find?_eq_some ha)).2).1
      omega
    · simp
  obtain ⟨W1, hW1⟩ : ∃ W, W = w.alloc (.cells #[.string d, .slice va vn vc] 26) := ⟨_, rfl⟩
  have hb1 : Below w.heap.size w W1 := by rw [hW1]; exact (Below.refl _ _).alloc (Nat.le_refl _) _
  have hv1 := vals_any d L hs (.slice va vn vc) T W1 (h.below hb1 hb1.size)
  have HV := Lib.hid hv1
  have HC := Lib.hid (fun (u : Value) (W : World) (hW : Below w.heap.size w W) (hu : IsT W.heap.size W (findA L T.data.toList) u) => containsQG_any (findA L T.data.toList) hfl u b1 q W hu (fun X W' hW' hm => HQ X W' (bthen hW hW') hm))
  have HB1 := Lib.hid hb1
  have HW1 := Lib.hid hW1.symm
  have HFl := Lib.hid hfl
  clear hW1 hb1 hv1 HQ h hfl
  go_enter Tryz.func45, Tryz.ntmps45
  go_upto_region 1 with (fail)
  rw [HW1.out]
  have e0 : W1.cell? ⟨w.heap.size, 0, none⟩ = some (.string d) ∧ W1.cell? ⟨w.heap.size, 1, none⟩ = some (.slice va vn vc) := by
    have := heap_alloc_new w (.cells #[.string d, .slice va vn vc] 26)
    rw [HW1.out] at this
    exact ⟨by simp [World.cell?, this], by simp [World.cell?, this]⟩
  obtain ⟨e0, e1⟩ := e0
  go_wp2_with (first
    | (go_at_call 50; refine (HV.out).mono ?_; rintro e w2 ⟨u, rfl, hown, hb2⟩; have HB2 := Lib.hid (bthen HB1.out hb2); have HU := Lib.hid (ownS_isT hown (by have := HFl.out; unfold maxLen; omega)); clear hown hb2)
    | (go_at_call 59; refine (HC.out _ _ HB2.out HU.out).mono ?_; rintro e w3 ⟨rfl, hb3⟩; have HB3 := Lib.hid (bthen HB2.out hb3); clear hb3))
  go_ret
  exact ⟨rfl, HB3.out⟩
set_option maxRecDepth 100000 in
set_option maxHeartbeats 2000000 in
theorem someL_any (d T : ByteArray) (L : List AT) (hs : smallA L) (va : Option Addr) (vn vc : Nat) (b1 : Nat) (q : List UInt8 → Bool) (w : World) (h : IsA w.heap.size w L (.slice va vn vc))
    (HQ : ∀ (X : ByteArray) (W : World), Below w.heap.size w W → X.data.toList ∈ findA L T.data.toList → Calls Tryz.prog 48 #[.string X, .pointer (some ⟨b1, 0, none⟩)] W fun e w' => e = .returned (.bool (q X.data.toList)) ∧ Below W.heap.size W w') :
    Calls Tryz.prog 45 #[.agg #[.string d, .slice va vn vc], .string T, .func (.func 48) #[] #[.pointer (some ⟨b1, 0, none⟩)]] w fun e w' => e = .returned (.bool ((findA L T.data.toList).any q)) ∧ Below w.heap.size w w' := by
  have hfl : (findA L T.data.toList).length ≤ 1000000 := by
    unfold findA
    split
    · rename_i a ha
      have := ((hs.2 a (List.mem_of_find?_eq_some ha)).2).1
      omega
    · simp
  obtain ⟨W1, hW1⟩ : ∃ W, W = w.alloc (.cells #[.string d, .slice va vn vc] 26) := ⟨_, rfl⟩
  have hb1 : Below w.heap.size w W1 := by rw [hW1]; exact (Below.refl _ _).alloc (Nat.le_refl _) _
  have hv1 := vals_any d L hs (.slice va vn vc) T W1 (h.below hb1 hb1.size)
  have HV := Lib.hid hv1
  have HC := Lib.hid (fun (u : Value) (W : World) (hW : Below w.heap.size w W) (hu : IsT W.heap.size W (findA L T.data.toList) u) => containsQL_any (findA L T.data.toList) hfl u b1 q W hu (fun X W' hW' hm => HQ X W' (bthen hW hW') hm))
  have HB1 := Lib.hid hb1
  have HW1 := Lib.hid hW1.symm
  have HFl := Lib.hid hfl
  clear hW1 hb1 hv1 HQ h hfl
  go_enter Tryz.func45, Tryz.ntmps45
  go_upto_region 1 with (fail)
  rw [HW1.out]
  have e0 : W1.cell? ⟨w.heap.size, 0, none⟩ = some (.string d) ∧ W1.cell? ⟨w.heap.size, 1, none⟩ = some (.slice va vn vc) := by
    have := heap_alloc_new w (.cells #[.string d, .slice va vn vc] 26)
    rw [HW1.out] at this
    exact ⟨by simp [World.cell?, this], by simp [World.cell?, this]⟩
  obtain ⟨e0, e1⟩ := e0
  go_wp2_with (first
    | (go_at_call 50; refine (HV.out).mono ?_; rintro e w2 ⟨u, rfl, hown, hb2⟩; have HB2 := Lib.hid (bthen HB1.out hb2); have HU := Lib.hid (ownS_isT hown (by have := HFl.out; unfold maxLen; omega)); clear hown hb2)
    | (go_at_call 59; refine (HC.out _ _ HB2.out HU.out).mono ?_; rintro e w3 ⟨rfl, hb3⟩; have HB3 := Lib.hid (bthen HB2.out hb3); clear hb3))
  go_ret
  exact ⟨rfl, HB3.out⟩
set_option maxRecDepth 100000 in
set_option maxHeartbeats 2000000 in
theorem someP_any (d T : ByteArray) (L : List AT) (hs : smallA L) (va : Option Addr) (vn vc : Nat) (b1 b2 : Nat) (q : List UInt8 → Bool) (w : World) (h : IsA w.heap.size w L (.slice va vn vc))
    (HQ : ∀ (X : ByteArray) (W : World), Below w.heap.size w W → X.data.toList ∈ findA L T.data.toList → Calls Tryz.prog 64 #[.string X, .pointer (some ⟨b1, 0, none⟩), .pointer (some ⟨b2, 0, none⟩)] W fun e w' => e = .returned (.bool (q X.data.toList)) ∧ Below W.heap.size W w') :
    Calls Tryz.prog 45 #[.agg #[.string d, .slice va vn vc], .string T, .func (.func 64) #[] #[.pointer (some ⟨b1, 0, none⟩), .pointer (some ⟨b2, 0, none⟩)]] w fun e w' => e = .returned (.bool ((findA L T.data.toList).any q)) ∧ Below w.heap.size w w' := by
  have hfl : (findA L T.data.toList).length ≤ 1000000 := by
    unfold findA
    split
    · rename_i a ha
      have := ((hs.2 a (List.mem_of_find?_eq_some ha)).2).1
      omega
    · simp
  obtain ⟨W1, hW1⟩ : ∃ W, W = w.alloc (.cells #[.string d, .slice va vn vc] 26) := ⟨_, rfl⟩
  have hb1 : Below w.heap.size w W1 := by rw [hW1]; exact (Below.refl _ _).alloc (Nat.le_refl _) _
  have hv1 := vals_any d L hs (.slice va vn vc) T W1 (h.below hb1 hb1.size)
  have HV := Lib.hid hv1
  have HC := Lib.hid (fun (u : Value) (W : World) (hW : Below w.heap.size w W) (hu : IsT W.heap.size W (findA L T.data.toList) u) => containsQP_any (findA L T.data.toList) hfl u b1 b2 q W hu (fun X W' hW' hm => HQ X W' (bthen hW hW') hm))
  have HB1 := Lib.hid hb1
  have HW1 := Lib.hid hW1.symm
  have HFl := Lib.hid hfl
  clear hW1 hb1 hv1 HQ h hfl
  go_enter Tryz.func45, Tryz.ntmps45
  go_upto_region 1 with (fail)
  rw [HW1.out]
  have e0 : W1.cell? ⟨w.heap.size, 0, none⟩ = some (.string d) ∧ W1.cell? ⟨w.heap.size, 1, none⟩ = some (.slice va vn vc) := by
    have := heap_alloc_new w (.cells #[.string d, .slice va vn vc] 26)
    rw [HW1.out] at this
    exact ⟨by simp [World.cell?, this], by simp [World.cell?, this]⟩
  obtain ⟨e0, e1⟩ := e0
  go_wp2_with (first
    | (go_at_call 50; refine (HV.out).mono ?_; rintro e w2 ⟨u, rfl, hown, hb2⟩; have HB2 := Lib.hid (bthen HB1.out hb2); have HU := Lib.hid (ownS_isT hown (by have := HFl.out; unfold maxLen; omega)); clear hown hb2)
    | (go_at_call 59; refine (HC.out _ _ HB2.out HU.out).mono ?_; rintro e w3 ⟨rfl, hb3⟩; have HB3 := Lib.hid (bthen HB2.out hb3); clear hb3))
  go_ret
  exact ⟨rfl, HB3.out⟩
set_option maxRecDepth 100000 in
set_option maxHeartbeats 4000000 in
theorem mayAsk_any (k : Int) (T X : ByteArray) (x3 x4 : Value) (hX : X.size ≤ 281474976710656) (s3 : ∃ a n c, x3 = .slice a n c) (s4 : ∃ a n c, x4 = .slice a n c) (w : World) (hw : LaidW w) :
    Calls Tryz.prog 33 #[.agg #[.int .i64 k, .string T, .string X, x3, x4]] w fun e w' => e = .returned (.bool (askE k T.data.toList X.data.toList)) ∧ Below w.heap.size w w' := by
  obtain ⟨a3, n3, c3, rfl⟩ := s3
  obtain ⟨a4, n4, c4, rfl⟩ := s4
  obtain ⟨W1, hW1⟩ : ∃ W, W = w.alloc (.cells #[.int .i64 k, .string T, .string X, .slice a3 n3 c3, .slice a4 n4 c4] 31) := ⟨_, rfl⟩
  have hb1 : Below w.heap.size w W1 := by rw [hW1]; exact box5 w _ _ _ _ _
  have hf : FlAt W1 w.heap.size (.int .i64 k) (.string T) (.string X) (.slice a3 n3 c3) (.slice a4 n4 c4) := by rw [hW1]; exact heap_alloc_new w _
  obtain ⟨d0, d1, d2, d3, d4⟩ := fl_cells hf
  have HW1 := Lib.hid hW1.symm
  have HB1 := Lib.hid hb1
  have HNm := Lib.hid (norm_any T X W1 (hw.below hb1))
  have HLs := Lib.hid (lessFl_any T X X hX hX W1 (hw.below hb1))
  have HRu := Lib.hid (rule_any T W1)
  have HCa := Lib.hid (canon_any T W1)
  obtain ⟨R, hR⟩ : ∃ R, R = askE k T.data.toList X.data.toList := ⟨_, rfl⟩
  rw [← hR]
  unfold askE at hR
  have HR := Lib.hid hR
  clear hW1 hb1 hf hR hw
  by_cases k4 : k = 4
  · have t4 : ((k : Int) == 4) = true := by simp [k4]
    have HR2 : Hid (R = (normD (ruleD T.data.toList) X.data.toList).isSome) := Lib.hid (by rw [HR.out, if_pos k4])
    obtain ⟨o, ho⟩ : ∃ o, o = normD (ruleD T.data.toList) X.data.toList := ⟨_, rfl⟩
    rw [← ho] at HNm HR2
    clear ho k4
    cases o with
    | none =>
      go_enter Tryz.func33, Tryz.ntmps33
      go_upto_region 1 with (fail)
      rw [HW1.out]
      go_wp2_with (go_at_call 40; refine (HNm.out).mono ?_; rintro e w2 ⟨rfl, hb2⟩; have HB2 := Lib.hid (bthen HB1.out hb2); clear hb2; unfold saidP)
      go_ret
      exact ⟨by rw [HR2.out]; rfl, HB2.out⟩
    | some y =>
      go_enter Tryz.func33, Tryz.ntmps33
      go_upto_region 1 with (fail)
      rw [HW1.out]
      go_wp2_with (go_at_call 40; refine (HNm.out).mono ?_; rintro e w2 ⟨rfl, hb2⟩; have HB2 := Lib.hid (bthen HB1.out hb2); clear hb2; unfold saidP)
      go_ret
      exact ⟨by rw [HR2.out]; rfl, HB2.out⟩
  · have t4 : ((k : Int) == 4) = false := by simp; omega
    by_cases k67 : k = 6 ∨ k = 7
    · have HR2 : Hid (R = (lessD (ruleD T.data.toList) X.data.toList X.data.toList).isSome) := Lib.hid (by rw [HR.out, if_neg k4, if_pos k67])
      obtain ⟨o, ho⟩ : ∃ o, o = lessD (ruleD T.data.toList) X.data.toList X.data.toList := ⟨_, rfl⟩
      rw [← ho] at HLs HR2
      clear ho
      obtain ⟨b6, t6⟩ : ∃ b, ((k : Int) == 6) = b := ⟨_, rfl⟩
      obtain ⟨b7, t7⟩ : ∃ b, ((k : Int) == 7) = b := ⟨_, rfl⟩
      have hor : b6 = true ∨ b7 = true := by rcases k67 with h | h <;> subst h <;> simp [← t6, ← t7]
      clear k4 k67
      cases b6 with
      | true =>
        clear hor
        cases o with
        | none =>
          go_enter Tryz.func33, Tryz.ntmps33
          go_upto_region 1 with (fail)
          rw [HW1.out]
          go_wp2_with (go_at_call 41; refine (HLs.out).mono ?_; rintro e w2 ⟨rfl, hb2⟩; have HB2 := Lib.hid (bthen HB1.out hb2); clear hb2; unfold lessV)
          go_ret
          exact ⟨by rw [HR2.out]; rfl, HB2.out⟩
        | some y =>
          go_enter Tryz.func33, Tryz.ntmps33
          go_upto_region 1 with (fail)
          rw [HW1.out]
          go_wp2_with (go_at_call 41; refine (HLs.out).mono ?_; rintro e w2 ⟨rfl, hb2⟩; have HB2 := Lib.hid (bthen HB1.out hb2); clear hb2; unfold lessV)
          go_ret
          exact ⟨by rw [HR2.out]; rfl, HB2.out⟩
      | false =>
        have hb7 : b7 = true := by simpa using hor
        subst hb7
        clear hor
        cases o with
        | none =>
          go_enter Tryz.func33, Tryz.ntmps33
          go_upto_region 1 with (fail)
          rw [HW1.out]
          go_wp2_with (go_at_call 41; refine (HLs.out).mono ?_; rintro e w2 ⟨rfl, hb2⟩; have HB2 := Lib.hid (bthen HB1.out hb2); clear hb2; unfold lessV)
          go_ret
          exact ⟨by rw [HR2.out]; rfl, HB2.out⟩
        | some y =>
          go_enter Tryz.func33, Tryz.ntmps33
          go_upto_region 1 with (fail)
          rw [HW1.out]
          go_wp2_with (go_at_call 41; refine (HLs.out).mono ?_; rintro e w2 ⟨rfl, hb2⟩; have HB2 := Lib.hid (bthen HB1.out hb2); clear hb2; unfold lessV)
          go_ret
          exact ⟨by rw [HR2.out]; rfl, HB2.out⟩
    · have t6 : ((k : Int) == 6) = false := by simp; omega
      have t7 : ((k : Int) == 7) = false := by simp; omega
      by_cases k5 : k = 5
      · have t5 : ((k : Int) == 5) = true := by simp [k5]
        have HR2 : Hid (R = decide (ruleD T.data.toList = 1)) := Lib.hid (by rw [HR.out, if_neg k4, if_neg k67, if_pos k5])
        obtain ⟨o, ho⟩ : ∃ o, o = ruleD T.data.toList := ⟨_, rfl⟩
        rw [← ho] at HRu HR2
        have HD : Hid (decide (o = 1) = ((o : Int) == 1)) := Lib.hid (by rw [Bool.eq_iff_iff]; simp; omega)
        clear ho k4 k5 k67
        go_enter Tryz.func33, Tryz.ntmps33
        go_upto_region 1 with (fail)
        rw [HW1.out]
        go_wp2_with (go_at_call 42; refine (HRu.out).mono ?_; rintro e w2 ⟨rfl, hb2⟩; have HB2 := Lib.hid (bthen HB1.out hb2); clear hb2)
        go_ret
        exact ⟨by rw [HR2.out, HD.out]; rfl, HB2.out⟩
      · have t5 : ((k : Int) == 5) = false := by simp; omega
        have HR2 : Hid (R = (canonD T.data.toList).isSome) := Lib.hid (by rw [HR.out, if_neg k4, if_neg k67, if_neg k5])
        obtain ⟨o, ho⟩ : ∃ o, o = canonD T.data.toList := ⟨_, rfl⟩
        rw [← ho] at HCa HR2
        clear ho k4 k5 k67
        cases o with
        | none =>
          go_enter Tryz.func33, Tryz.ntmps33
          go_upto_region 1 with (fail)
          rw [HW1.out]
          go_wp2_with (go_at_call 43; refine (HCa.out).mono ?_; rintro e w2 ⟨rfl, hb2⟩; have HB2 := Lib.hid (bthen HB1.out hb2); clear hb2; unfold canonV)
          go_ret
          exact ⟨by rw [HR2.out]; rfl, HB2.out⟩
        | some y =>
          go_enter Tryz.func33, Tryz.ntmps33
          go_upto_region 1 with (fail)
          rw [HW1.out]
          go_wp2_with (go_at_call 43; refine (HCa.out).mono ?_; rintro e w2 ⟨rfl, hb2⟩; have HB2 := Lib.hid (bthen HB1.out hb2); clear hb2; unfold canonV)
          go_ret
          exact ⟨by rw [HR2.out]; rfl, HB2.out⟩
theorem findA_short {L : List AT} {t : List UInt8} (hs : smallA L) : ∀ x ∈ findA L t, x.length ≤ 1000000 := by
  unfold findA
  intro x hx
  split at hx
  · rename_i a ha
    exact ((hs.2 a (List.mem_of_find?_eq_some ha)).2).2 x hx
  · cases hx
set_option maxRecDepth 100000 in
set_option maxHeartbeats 8000000 in
theorem fits_any (k : Int) (T X d : ByteArray) (p : List (List UInt8)) (L : List AT) (pa ka va : Option Addr) (n pc kn kc vn vc : Nat) (hX : X.size ≤ 1000000) (hn : n = p.length) (hp5 : k = 5 → 2 ≤ p.length) (hp3 : p.length ≤ 1000) (hpl : ∀ x ∈ p, x.length ≤ 1000000)
    (hs : smallA L) (w : World) (hw : LaidW w) (hx : LaidX w) (hp : IsTo (Lt w) w p (.slice pa n pc)) (h : IsA w.heap.size w L (.slice va vn vc)) :
    Calls Tryz.prog 34 #[.agg #[.int .i64 k, .string T, .string X, .slice pa n pc, .slice ka kn kc], .agg #[.string d, .slice va vn vc]] w fun e w' => e = .returned (.bool (fitE L k T.data.toList X.data.toList p)) ∧ Below w.heap.size w w' := by
  have hmf : ∀ (fn : Fn) (first cap : Array Value) (w : World), (Instr.makeFunc fn first cap).run Tryz.prog w = .ok (.func fn first cap) w := fun _ _ _ _ => rfl
  obtain ⟨W0, hW0⟩ : ∃ W, W = w.alloc (.cells #[.int .i64 k, .string T, .string X, .slice pa n pc, .slice ka kn kc] 31) := ⟨_, rfl⟩
  obtain ⟨W1, hW1⟩ : ∃ W, W = W0.alloc (.cells #[.string d, .slice va vn vc] 26) := ⟨_, rfl⟩
  have hb0 : Below w.heap.size w W0 := by rw [hW0]; exact box5 w _ _ _ _ _
  have hb01 : Below W0.heap.size W0 W1 := by rw [hW1]; exact (Below.refl _ _).alloc (Nat.le_refl _) _
  have hb1 : Below w.heap.size w W1 := bthen hb0 hb01
  have hf0 : FlAt W0 w.heap.size (.int .i64 k) (.string T) (.string X) (.slice pa n pc) (.slice ka kn kc) := by rw [hW0]; exact heap_alloc_new w _
  have hf : FlAt W1 w.heap.size (.int .i64 k) (.string T) (.string X) (.slice pa n pc) (.slice ka kn kc) := fl_below hf0 hb01 (fl_lt hf0)
  obtain ⟨eb, heb⟩ : ∃ b, b = w.heap.size + 1 := ⟨_, rfl⟩
  have hsz : W0.heap.size = eb := by rw [heb, hW0]; simp only [World.alloc, Array.size_push]
  have he : W1.heap[eb]? = some (.cells #[.string d, .slice va vn vc] 26 (0, 0)) := by rw [← hsz, hW1]; exact heap_alloc_new W0 _
  have hebl : eb < W1.heap.size := (Array.getElem?_eq_some_iff.1 he).1
  have hE : ∀ W, SamB W1 W → W.cell? ⟨w.heap.size, 0, none⟩ = some (.int .i64 k) ∧ W.cell? ⟨w.heap.size, 1, none⟩ = some (.string T) ∧ W.cell? ⟨w.heap.size, 2, none⟩ = some (.string X) ∧ W.cell? ⟨w.heap.size, 3, none⟩ = some (.slice pa n pc) ∧ W.cell? ⟨w.heap.size, 4, none⟩ = some (.slice ka kn kc) ∧ W.cell? ⟨eb, 0, none⟩ = some (.string d) ∧ W.cell? ⟨eb, 1, none⟩ = some (.slice va vn vc) ∧ SamB W1 W := fun W hW => by
    obtain ⟨a0, a1, a2, a3, a4⟩ := fl_cells (fl_below hf hW (fl_lt hf))
    have := (Below.block hW eb hebl).trans he
    exact ⟨a0, a1, a2, a3, a4, by simp [World.cell?, this], by simp [World.cell?, this], hW⟩
  have hA1 : IsA W1.heap.size W1 L (.slice va vn vc) := h.below hb1 hb1.size
  have HE := Lib.hid hE
  have HW0 := Lib.hid hW0.symm
  have HW1 := Lib.hid hW1.symm
  have HEb := Lib.hid heb.symm
  have HB1 := Lib.hid hb1
  have hw1 := hw.below hb1
  have hx1 := hx.below hb1
  have hp1 : IsTo (Lt W1) W1 p (.slice pa n pc) := hp.imp (fun b h => Nat.lt_of_lt_of_le h hb1.size) (fun b o h => hb1.cell (p := ⟨b, o, none⟩) h)
  have hsv := findA_short (t := T.data.toList) hs
  have HHas := Lib.hid (has_any d T X L hs (.slice va vn vc) W1 hw1 hA1)
  have HG := Lib.hid (someG_any d T L hs va vn vc w.heap.size (fun v => aboveE (ruleD T.data.toList) v X.data.toList) W1 hA1 (fun V W hW hm => askG_any T X V (.int .i64 k) (.slice pa n pc) (.slice ka kn kc) w.heap.size (by omega) (by have := hsv _ hm; rw [bytes_len] at this; omega) W (hw1.below hW) (fl_below hf hW (fl_lt hf))))
  have HLl := Lib.hid (someL_any d T L hs va vn vc w.heap.size (fun v => aboveE (ruleD T.data.toList) X.data.toList v) W1 hA1 (fun V W hW hm => askL_any T X V (.int .i64 k) (.slice pa n pc) (.slice ka kn kc) w.heap.size (by omega) (by have := hsv _ hm; rw [bytes_len] at this; omega) W (hw1.below hW) (fl_below hf hW (fl_lt hf))))
  have HPr := Lib.hid (fun (W : World) (hW : SamB W1 W) => hasParts_any k T X p pa ka n pc kn kc W hn (by omega) hpl (hp1.imp (fun b h => Nat.lt_of_lt_of_le h (Below.size hW)) (fun b o h => Below.cell (p := ⟨b, o, none⟩) hW h)))
  have HSo := Lib.hid (fun (h5 : k = 5) (N : Nat) (W wx : World) (v : Value) (hN : N = W.heap.size) (hW : SamB W1 wx) (hP : PrtAt W wx (.int .i64 k) (.string T) (.string X) (.slice pa n pc) (.slice ka kn kc) v (p.map low)) => someP_any d T L hs va vn vc N (N + 1) (partsE (ruleD T.data.toList) p) wx (hA1.below hW (Below.size hW)) (fun V W' hW' hm => askParts_any k T X V p _ _ _ _ v (p.map low) W wx W' (hw1.below (bthen hW hW')) (hx1.below (bthen hW hW')) hP hW' rfl (hp5 h5) hp3 hpl (by have := hsv _ hm; rw [bytes_len] at this; omega) hN (by rw [hN])))
  have HV := Lib.hid (vals_any d L hs (.slice va vn vc) T W1 hA1)
  obtain ⟨R, hR⟩ : ∃ R, R = fitE L k T.data.toList X.data.toList p := ⟨_, rfl⟩
  rw [← hR]
  unfold fitE at hR
  have HR := Lib.hid hR
  have hst5 := hE W1 (Below.refl _ _)
  have hst6 := hE W1.drew (Below.drew (Below.refl _ _))
  obtain ⟨d0, d1, d2, d3, d4, e0, e1, _⟩ := hE W1 (Below.refl _ _)
  clear hW0 hW1 hb0 hb01 hb1 hf0 hf heb hsz he hebl hE hA1 hw1 hx1 hp1 hsv hR hs hw hx hp h hpl hp3 hX hn
  by_cases k4 : k = 4
  · have t4 : ((k : Int) == 4) = true := by simp [k4]
    have HR2 : Hid (hasA L T.data.toList X.data.toList = R) := Lib.hid (by rw [HR.out, if_pos k4])
    rw [HR2.out] at HHas
    clear k4 hp5 hst5 hst6
    go_enter Tryz.func34, Tryz.ntmps34
    go_upto_region 1 with (fail)
    rw [HW0.out, HW1.out, HEb.out]
    go_wp2_with (go_at_call 44; refine (HHas.out).mono ?_; rintro e w2 ⟨rfl, hb2⟩; have HB2 := Lib.hid (bthen HB1.out hb2); clear hb2)
    go_ret
    exact ⟨rfl, HB2.out⟩
  · have t4 : ((k : Int) == 4) = false := by simp; omega
    by_cases k6 : k = 6
    · have t6 : ((k : Int) == 6) = true := by simp [k6]
      have HR2 : Hid ((findA L T.data.toList).any (fun v => aboveE (ruleD T.data.toList) v X.data.toList) = R) := Lib.hid (by rw [HR.out, if_neg k4, if_pos k6])
      rw [HR2.out] at HG
      clear k4 k6 hp5 hst5 hst6
      go_enter Tryz.func34, Tryz.ntmps34
      go_upto_region 1 with (fail)
      rw [HW0.out, HW1.out, HEb.out]
      go_wp2_with (go_at_call 45; refine (HG.out).mono ?_; rintro e w2 ⟨rfl, hb2⟩; have HB2 := Lib.hid (bthen HB1.out hb2); clear hb2)
      go_ret
      exact ⟨rfl, HB2.out⟩
    · have t6 : ((k : Int) == 6) = false := by simp; omega
      by_cases k7 : k = 7
      · have t7 : ((k : Int) == 7) = true := by simp [k7]
        have HR2 : Hid ((findA L T.data.toList).any (fun v => aboveE (ruleD T.data.toList) X.data.toList v) = R) := Lib.hid (by rw [HR.out, if_neg k4, if_neg k6, if_pos k7])
        rw [HR2.out] at HLl
        clear k4 k6 k7 hp5 hst5 hst6
        go_enter Tryz.func34, Tryz.ntmps34
        go_upto_region 1 with (fail)
        rw [HW0.out, HW1.out, HEb.out]
        go_wp2_with (go_at_call 45; refine (HLl.out).mono ?_; rintro e w2 ⟨rfl, hb2⟩; have HB2 := Lib.hid (bthen HB1.out hb2); clear hb2)
        go_ret
        exact ⟨rfl, HB2.out⟩
      · have t7 : ((k : Int) == 7) = false := by simp; omega
        by_cases k5 : k = 5
        · have t5 : ((k : Int) == 5) = true := by simp [k5]
          have HR2 : Hid ((findA L T.data.toList).any (partsE (ruleD T.data.toList) p) = R) := Lib.hid (by rw [HR.out, if_neg k4, if_neg k6, if_neg k7, if_pos k5])
          have HK := Lib.hid k5
          clear k4 k5 k6 k7 hp5
          go_enter Tryz.func34, Tryz.ntmps34
          go_upto_region 1 with (fail)
          rw [HW0.out, HW1.out, HEb.out]
          go_upto_region 9 with (fail)
          go_region_held3 (fun W => W.cell? ⟨w.heap.size, 0, none⟩ = some (.int .i64 k) ∧ W.cell? ⟨w.heap.size, 1, none⟩ = some (.string T) ∧ W.cell? ⟨w.heap.size, 2, none⟩ = some (.string X) ∧ W.cell? ⟨w.heap.size, 3, none⟩ = some (.slice pa n pc) ∧ W.cell? ⟨w.heap.size, 4, none⟩ = some (.slice ka kn kc) ∧ W.cell? ⟨eb, 0, none⟩ = some (.string d) ∧ W.cell? ⟨eb, 1, none⟩ = some (.slice va vn vc) ∧ SamB W1 W)
            (first | (with_reducible exact hst5) | (with_reducible exact hst6) | (go_split_ands; exact HE.out _ (SamB.go (by assumption) hbx)))
            (first
              | (go_at_call 49; go_split_ands; (with_reducible refine (HPr.out _ (by assumption)).mono ?_); rintro e wx ⟨v, rfl, hprt⟩; have hbx := hprt.bel; have HPt := Lib.hid hprt; clear hprt)
              | (go_at_call 45; go_split_ands; (with_reducible refine (HSo.out HK.out W1.heap.size W1.drew wx v rfl (by assumption) HPt.out).mono ?_); rintro e wy ⟨rfl, hbx⟩))
          all_goals
            go_split_ands
            have hT : SamB W1 wy := by assumption
            go_wp2
            go_ret
            exact ⟨by rw [← HR2.out]; rfl, bthen HB1.out hT⟩
        · have t5 : ((k : Int) == 5) = false := by simp; omega
          have HR2 : Hid (decide (0 < (findA L T.data.toList).length) = R) := Lib.hid (by rw [HR.out, if_neg k4, if_neg k6, if_neg k7, if_neg k5])
          obtain ⟨m, hm⟩ : ∃ m, m = (findA L T.data.toList).length := ⟨_, rfl⟩
          rw [← hm] at HR2
          have HM := Lib.hid hm
          clear k4 k5 k6 k7 hp5 hst5 hst6 hm
          go_enter Tryz.func34, Tryz.ntmps34
          go_upto_region 1 with (fail)
          rw [HW0.out, HW1.out, HEb.out]
          go_wp2_with (go_at_call 50; refine (HV.out).mono ?_; rintro e w2 ⟨u, rfl, hu, hb2⟩; (obtain ⟨ua, uc, hue⟩ := ownS_slice hu); rw [← HM.out] at hue; subst hue; have HB2 := Lib.hid (bthen HB1.out hb2); clear hb2 hu)
          go_ret
          exact ⟨by rw [← HR2.out]; simp, HB2.out⟩
set_option maxRecDepth 100000 in
set_option maxHeartbeats 4000000 in
theorem leafEv_any (k : Int) (T X d : ByteArray) (p : List (List UInt8)) (L : List AT) (pa ka va : Option Addr) (n pc kn kc vn vc : Nat) (hX : X.size ≤ 1000000) (hn : n = p.length) (hp5 : k = 5 → 2 ≤ p.length) (hp3 : p.length ≤ 1000) (hpl : ∀ x ∈ p, x.length ≤ 1000000)
    (hs : smallA L) (w : World) (hw : LaidW w) (hx : LaidX w) (hp : IsTo (Lt w) w p (.slice pa n pc)) (h : IsA w.heap.size w L (.slice va vn vc)) :
    Calls Tryz.prog 26 #[.agg #[.int .i64 k, .string T, .string X, .slice pa n pc, .slice ka kn kc], .agg #[.string d, .slice va vn vc]] w fun e w' => e = .returned (.int .i64 (leafE L k T.data.toList X.data.toList p : Nat)) ∧ Below w.heap.size w w' := by
  obtain ⟨W0, hW0⟩ : ∃ W, W = w.alloc (.cells #[.int .i64 k, .string T, .string X, .slice pa n pc, .slice ka kn kc] 31) := ⟨_, rfl⟩
  obtain ⟨W1, hW1⟩ : ∃ W, W = W0.alloc (.cells #[.string d, .slice va vn vc] 26) := ⟨_, rfl⟩
  have hb0 : Below w.heap.size w W0 := by rw [hW0]; exact box5 w _ _ _ _ _
  have hb01 : Below W0.heap.size W0 W1 := by rw [hW1]; exact (Below.refl _ _).alloc (Nat.le_refl _) _
  have hb1 : Below w.heap.size w W1 := bthen hb0 hb01
  have hf0 : FlAt W0 w.heap.size (.int .i64 k) (.string T) (.string X) (.slice pa n pc) (.slice ka kn kc) := by rw [hW0]; exact heap_alloc_new w _
  have hf : FlAt W1 w.heap.size (.int .i64 k) (.string T) (.string X) (.slice pa n pc) (.slice ka kn kc) := fl_below hf0 hb01 (fl_lt hf0)
  obtain ⟨eb, heb⟩ : ∃ b, b = w.heap.size + 1 := ⟨_, rfl⟩
  have hsz : W0.heap.size = eb := by rw [heb, hW0]; simp only [World.alloc, Array.size_push]
  have he : W1.heap[eb]? = some (.cells #[.string d, .slice va vn vc] 26 (0, 0)) := by rw [← hsz, hW1]; exact heap_alloc_new W0 _
  have hebl : eb < W1.heap.size := (Array.getElem?_eq_some_iff.1 he).1
  have hE : ∀ W, Below W1.heap.size W1 W → FlAt W w.heap.size (.int .i64 k) (.string T) (.string X) (.slice pa n pc) (.slice ka kn kc) ∧ W.cell? ⟨eb, 0, none⟩ = some (.string d) ∧ W.cell? ⟨eb, 1, none⟩ = some (.slice va vn vc) := fun W hW => by
    have := (Below.block hW eb hebl).trans he
    exact ⟨fl_below hf hW (fl_lt hf), by simp [World.cell?, this], by simp [World.cell?, this]⟩
  have HE := Lib.hid hE
  have HW0 := Lib.hid hW0.symm
  have HW1 := Lib.hid hW1.symm
  have HEb := Lib.hid heb.symm
  have HB1 := Lib.hid hb1
  have HM := Lib.hid (mayAsk_any k T X (.slice pa n pc) (.slice ka kn kc) (by omega) ⟨_, _, _, rfl⟩ ⟨_, _, _, rfl⟩ W1 (hw.below hb1))
  have HF := Lib.hid (fun (W : World) (hW : Below W1.heap.size W1 W) => fits_any k T X d p L pa ka va n pc kn kc vn vc hX hn hp5 hp3 hpl hs W (hw.below (bthen hb1 hW)) (hx.below (bthen hb1 hW)) (hp.imp (fun b h => Nat.lt_of_lt_of_le h (bthen hb1 hW).size) (fun b o h => (bthen hb1 hW).cell (p := ⟨b, o, none⟩) h)) (h.below (bthen hb1 hW) (bthen hb1 hW).size))
  obtain ⟨R, hR⟩ : ∃ R, R = leafE L k T.data.toList X.data.toList p := ⟨_, rfl⟩
  rw [← hR]
  unfold leafE at hR
  obtain ⟨a, ha⟩ : ∃ a, a = askE k T.data.toList X.data.toList := ⟨_, rfl⟩
  obtain ⟨f, hff⟩ : ∃ a, a = fitE L k T.data.toList X.data.toList p := ⟨_, rfl⟩
  rw [← ha] at HM
  rw [← hff] at HF
  rw [← ha, ← hff] at hR
  obtain ⟨hf1, e0, e1⟩ := hE W1 (Below.refl _ _)
  obtain ⟨d0, d1, d2, d3, d4⟩ := fl_cells hf1
  have HR := Lib.hid hR
  clear hW0 hW1 hb0 hb01 hb1 hf0 hf heb hsz he hebl hE hR hs hw hx hp h hpl hp3 hX hp5 hf1 ha hff hn
  cases a with
  | false =>
    go_enter Tryz.func26, Tryz.ntmps26
    go_upto_region 1 with (fail)
    rw [HW0.out, HW1.out, HEb.out]
    go_wp2_with (go_at_call 33; refine (HM.out).mono ?_; rintro e w2 ⟨rfl, hb2⟩; have HB2 := Lib.hid (bthen HB1.out hb2); clear hb2)
    go_ret
    exact ⟨by rw [HR.out]; rfl, HB2.out⟩
  | true =>
    cases f with
    | false =>
      go_enter Tryz.func26, Tryz.ntmps26
      go_upto_region 1 with (fail)
      rw [HW0.out, HW1.out, HEb.out]
      go_wp2_with (first
        | (go_at_call 33; refine (HM.out).mono ?_; rintro e w2 ⟨rfl, hb2⟩; have HX2 := Lib.hid hb2; have HB2 := Lib.hid (bthen HB1.out hb2); (obtain ⟨hf2, g0, g1⟩ := HE.out _ hb2); (obtain ⟨q0, q1, q2, q3, q4⟩ := fl_cells hf2); clear hb2 hf2)
        | (go_at_call 34; refine (HF.out _ HX2.out).mono ?_; rintro e w3 ⟨rfl, hb3⟩; have HB3 := Lib.hid (bthen HB2.out hb3); clear hb3))
      go_ret
      exact ⟨by rw [HR.out]; rfl, HB3.out⟩
    | true =>
      go_enter Tryz.func26, Tryz.ntmps26
      go_upto_region 1 with (fail)
      rw [HW0.out, HW1.out, HEb.out]
      go_wp2_with (first
        | (go_at_call 33; refine (HM.out).mono ?_; rintro e w2 ⟨rfl, hb2⟩; have HX2 := Lib.hid hb2; have HB2 := Lib.hid (bthen HB1.out hb2); (obtain ⟨hf2, g0, g1⟩ := HE.out _ hb2); (obtain ⟨q0, q1, q2, q3, q4⟩ := fl_cells hf2); clear hb2 hf2)
        | (go_at_call 34; refine (HF.out _ HX2.out).mono ?_; rintro e w3 ⟨rfl, hb3⟩; have HB3 := Lib.hid (bthen HB2.out hb3); clear hb3))
      go_ret
      exact ⟨by rw [HR.out]; rfl, HB3.out⟩
end Go.Proofs.YtmilgbkkibahlaaGreatDoor


namespace Go.Proofs.YtmilgbkkibahlaaGreatDoor
open Go.RowKit
set_option linter.unusedVariables false
set_option linter.unusedSimpArgs false

set_option maxRecDepth 100000 in
theorem notEv_any (r : Nat) (hr : r ≤ 2) (w : World) : Calls Tryz.prog 25 #[.int .i64 r] w fun e w' => e = .returned (.int .i64 (flipE r : Nat)) ∧ w = w' := by
  obtain rfl | rfl | rfl : r = 0 ∨ r = 1 ∨ r = 2 := by omega
  all_goals
    go_enter Tryz.func25, Tryz.ntmps25
    go_wp2
    go_ret
    exact ⟨rfl, rfl⟩
abbrev TaAt (W : World) (b c0 c1 c2 : Nat) : Prop := W.heap[b]? = some (.cells #[.int .i64 c0, .int .i64 c1, .int .i64 c2] 62 (0, 0))
theorem ta_lt {W : World} {b c0 c1 c2 : Nat} (h : TaAt W b c0 c1 c2) : b < W.heap.size := (Array.getElem?_eq_some_iff.1 h).1
theorem ta_below {W W' : World} {b c0 c1 c2 m : Nat} (h : TaAt W b c0 c1 c2) (hb : Below m W W') (hn : b < m) : TaAt W' b c0 c1 c2 := (hb.block b hn).trans h
theorem ta_cells {W : World} {b c0 c1 c2 : Nat} (h : TaAt W b c0 c1 c2) : W.cell? ⟨b, 0, none⟩ = some (.int .i64 c0) ∧ W.cell? ⟨b, 1, none⟩ = some (.int .i64 c1) ∧ W.cell? ⟨b, 2, none⟩ = some (.int .i64 c2) ∧ W.frozen? ⟨b, 0, none⟩ = false ∧ W.frozen? ⟨b, 1, none⟩ = false ∧ W.frozen? ⟨b, 2, none⟩ = false := by
  have h' : W.heap[b]? = some (.cells #[.int .i64 c0, .int .i64 c1, .int .i64 c2] 62 (0, 0)) := h
  refine ⟨?_, ?_, ?_, ?_, ?_, ?_⟩ <;> simp [World.cell?, World.frozen?, h']
theorem ta_add0 {W : World} {b c0 c1 c2 : Nat} (h : TaAt W b c0 c1 c2) : TaAt (W.setCell ⟨b, 0, none⟩ (.int .i64 ((c0 : Int) + 1))) b (c0 + 1) c1 c2 := by
  have h' : W.heap[b]? = some (.cells #[.int .i64 c0, .int .i64 c1, .int .i64 c2] 62 (0, 0)) := h
  show (W.setCell ⟨b, 0, none⟩ (.int .i64 ((c0 : Int) + 1))).heap[b]? = _
  simp [World.setCell, Array.getElem?_modify, h']
theorem ta_add1 {W : World} {b c0 c1 c2 : Nat} (h : TaAt W b c0 c1 c2) : TaAt (W.setCell ⟨b, 1, none⟩ (.int .i64 ((c1 : Int) + 1))) b c0 (c1 + 1) c2 := by
  have h' : W.heap[b]? = some (.cells #[.int .i64 c0, .int .i64 c1, .int .i64 c2] 62 (0, 0)) := h
  show (W.setCell ⟨b, 1, none⟩ (.int .i64 ((c1 : Int) + 1))).heap[b]? = _
  simp [World.setCell, Array.getElem?_modify, h']
theorem ta_add2 {W : World} {b c0 c1 c2 : Nat} (h : TaAt W b c0 c1 c2) : TaAt (W.setCell ⟨b, 2, none⟩ (.int .i64 ((c2 : Int) + 1))) b c0 c1 (c2 + 1) := by
  have h' : W.heap[b]? = some (.cells #[.int .i64 c0, .int .i64 c1, .int .i64 c2] 62 (0, 0)) := h
  show (W.setCell ⟨b, 2, none⟩ (.int .i64 ((c2 : Int) + 1))).heap[b]? = _
  simp [World.setCell, Array.getElem?_modify, h']
def cntE (c0 c1 c2 : Nat) : Nat → Nat
  | 0 => c0
  | 1 => c1
  | _ => c2
theorem ta_at {W : World} {b c0 c1 c2 : Nat} (h : TaAt W b c0 c1 c2) (x : Nat) (hx : x ≤ 2) : W.cell? ⟨b, x, none⟩ = some (.int .i64 (cntE c0 c1 c2 x : Nat)) := by
  obtain ⟨h0, h1, h2, _⟩ := ta_cells h
  obtain rfl | rfl | rfl : x = 0 ∨ x = 1 ∨ x = 2 := by omega
  · exact h0
  · exact h1
  · exact h2
set_option maxRecDepth 100000 in
set_option maxHeartbeats 4000000 in
theorem firstEv_any (b c0 c1 c2 x y o : Nat) (hx : x ≤ 2) (hy : y ≤ 2) (w : World) (h : TaAt w b c0 c1 c2) :
    Calls Tryz.prog 24 #[.pointer (some ⟨b, 0, none⟩), .int .i64 x, .int .i64 y, .int .i64 o] w fun e w' => e = .returned (.int .i64 ((if 0 < cntE c0 c1 c2 x then x else if 0 < cntE c0 c1 c2 y then y else o : Nat) : Int)) ∧ Below w.heap.size w w' := by
  obtain ⟨W1, hW1⟩ : ∃ W, W = w.alloc (.cells #[.int .i64 x, .int .i64 y] 3) := ⟨_, rfl⟩
  have hb1 : Below w.heap.size w W1 := by rw [hW1]; exact (Below.refl _ _).alloc (Nat.le_refl _) _
  have hr : W1.heap[w.heap.size]? = some (.cells #[.int .i64 x, .int .i64 y] 3 (0, 0)) := by rw [hW1]; exact heap_alloc_new w _
  have r0 : W1.cell? ⟨w.heap.size, 0, none⟩ = some (.int .i64 x) := by simp [World.cell?, hr]
  have r1 : W1.cell? ⟨w.heap.size, 1, none⟩ = some (.int .i64 y) := by simp [World.cell?, hr]
  have h1 := ta_below h hb1 (ta_lt h)
  obtain ⟨n, hn⟩ : ∃ n, n = cntE c0 c1 c2 x := ⟨_, rfl⟩
  obtain ⟨m, hm⟩ : ∃ n, n = cntE c0 c1 c2 y := ⟨_, rfl⟩
  have lx := loadFl_any b x (n : Int) W1 (by rw [hn]; exact ta_at h1 x hx)
  have ly := loadFl_any b y (m : Int) W1 (by rw [hm]; exact ta_at h1 y hy)
  rw [← hn, ← hm]
  obtain ⟨R, hR⟩ : ∃ R, R = (if 0 < n then x else if 0 < m then y else o) := ⟨_, rfl⟩
  rw [← hR]
  have HR := Lib.hid hR
  clear hR
  have HX := Lib.hid lx
  have HY := Lib.hid ly
  have HW1 := Lib.hid hW1.symm
  have HB1 := Lib.hid hb1
  have x0 : (0 : Int) ≤ (x : Int) := by omega
  have x3 : (x : Int) < 3 := by omega
  have y0 : (0 : Int) ≤ (y : Int) := by omega
  have y3 : (y : Int) < 3 := by omega
  clear hW1 hb1 hr h1 hn hm lx ly h
  go_enter Tryz.func24, Tryz.ntmps24
  go_upto_region 2 with (fail)
  rw [HW1.out]
  go_wp2
  go_loop [15] (fun i => ∃ j : Nat, j ≤ 2 ∧ i = .int .i64 j ∧ Hid (1 ≤ j → n = 0) ∧ Hid (2 ≤ j → m = 0)) (fun i => 2 - (intOf i).toNat)
  case atStart => exact ⟨0, by omega, rfl, Lib.hid (by omega), Lib.hid (by omega)⟩
  case round =>
    obtain ⟨j, hj, rfl, H1, H2⟩ := hrel
    obtain rfl | rfl | rfl : j = 0 ∨ j = 1 ∨ j = 2 := by omega
    · by_cases hn : 0 < n
      · have t1 : decide ((0 : Int) < (n : Int)) = true := by simp; omega
        have t1' : decide (0 < n) = true := by simpa using hn
        have HF : Hid (R = x) := Lib.hid (by rw [HR.out, if_pos hn])
        clear hn
        go_wp2_with (go_at_call 32; refine (HX.out).mono ?_; rintro e w2 ⟨rfl, hw⟩; subst hw)
        go_ret
        exact ⟨by rw [HF.out]; rfl, HB1.out⟩
      · have t1 : decide ((0 : Int) < (n : Int)) = false := by simp; omega
        have t1' : decide (0 < n) = false := by simpa using hn
        have HN := Lib.hid (show n = 0 from by omega)
        clear hn
        go_wp2_with (go_at_call 32; refine (HX.out).mono ?_; rintro e w2 ⟨rfl, hw⟩; subst hw)
        go_round
        case rel => exact ⟨1, by omega, by first | rfl | go_num, Lib.hid (fun _ => HN.out), Lib.hid (by omega)⟩
        case measure => simp [intOf]
    · by_cases hm : 0 < m
      · have t1 : decide ((0 : Int) < (m : Int)) = true := by simp; omega
        have t1' : decide (0 < m) = true := by simpa using hm
        have HF : Hid (R = y) := Lib.hid (by rw [HR.out, if_neg (by have := H1.out (by omega); omega), if_pos hm])
        clear hm
        go_wp2_with (go_at_call 32; refine (HY.out).mono ?_; rintro e w2 ⟨rfl, hw⟩; subst hw)
        go_ret
        exact ⟨by rw [HF.out]; rfl, HB1.out⟩
      · have t1 : decide ((0 : Int) < (m : Int)) = false := by simp; omega
        have t1' : decide (0 < m) = false := by simpa using hm
        have HM := Lib.hid (show m = 0 from by omega)
        clear hm
        go_wp2_with (go_at_call 32; refine (HY.out).mono ?_; rintro e w2 ⟨rfl, hw⟩; subst hw)
        go_round
        case rel => exact ⟨2, by omega, by first | rfl | go_num, Lib.hid (fun _ => H1.out (by omega)), Lib.hid (fun _ => HM.out)⟩
        case measure => simp [intOf]
    · have HF : Hid (R = o) := Lib.hid (by rw [HR.out, if_neg (by have := H1.out (by omega); omega), if_neg (by have := H2.out (by omega); omega)])
      go_wp2
      go_ret
      exact ⟨by rw [HF.out]; rfl, HB1.out⟩
end Go.Proofs.YtmilgbkkibahlaaGreatDoor


namespace Go.Proofs.YtmilgbkkibahlaaGreatDoor
open Go.RowKit
set_option linter.unusedVariables false
set_option linter.unusedSimpArgs false

def TruthIs (d : Nat) : Prop := ∀ (f : FT) (v : Value) (L : List AT) (D : ByteArray) (va : Option Addr) (vn vc : Nat) (w : World), mayF d f = true → IsFl (Lt w) w f v → smallA L → LaidW w → LaidX w → IsA w.heap.size w L (.slice va vn vc) →
  Calls Tryz.prog 19 #[v, .agg #[.string D, .slice va vn vc]] w fun e w' => e = .returned (.int .i64 (evF L f : Nat)) ∧ Below w.heap.size w w'
abbrev EnAt (W : World) (b : Nat) (D : ByteArray) (u : Value) : Prop := W.heap[b]? = some (.cells #[.string D, u] 26 (0, 0))
theorem en_lt {W : World} {b : Nat} {D : ByteArray} {u : Value} (h : EnAt W b D u) : b < W.heap.size := (Array.getElem?_eq_some_iff.1 h).1
theorem en_below {W W' : World} {b m : Nat} {D : ByteArray} {u : Value} (h : EnAt W b D u) (hb : Below m W W') (hn : b < m) : EnAt W' b D u := (hb.block b hn).trans h
theorem en_cells {W : World} {b : Nat} {D : ByteArray} {u : Value} (h : EnAt W b D u) : W.cell? ⟨b, 0, none⟩ = some (.string D) ∧ W.cell? ⟨b, 1, none⟩ = some u := by
  have h' : W.heap[b]? = some (.cells #[.string D, u] 26 (0, 0)) := h
  refine ⟨?_, ?_⟩ <;> simp [World.cell?, h']
structure TalAt (w wr : World) (D : ByteArray) (u : Value) (c0 c1 c2 : Nat) : Prop where
  en : EnAt wr w.heap.size D u
  ta : TaAt wr (w.heap.size + 1) c0 c1 c2
  bel : Below w.heap.size w wr
theorem TalAt.go {w wr wx : World} {D : ByteArray} {u : Value} {c0 c1 c2 : Nat} (h : TalAt w wr D u c0 c1 c2) (hb : Below wr.heap.size wr wx) : TalAt w wx D u c0 c1 c2 :=
  ⟨en_below h.en hb (en_lt h.en), ta_below h.ta hb (ta_lt h.ta), bthen h.bel hb⟩
theorem tal_new (w : World) (D : ByteArray) (u : Value) : TalAt w ((w.alloc (.cells #[.string D, u] 26)).alloc (.cells #[.int .i64 0, .int .i64 0, .int .i64 0] 62)) D u 0 0 0 := by
  have h1 : Below w.heap.size w (w.alloc (.cells #[.string D, u] 26)) := (Below.refl _ _).alloc (Nat.le_refl _) _
  have h2 : Below (w.alloc (.cells #[.string D, u] 26)).heap.size (w.alloc (.cells #[.string D, u] 26)) ((w.alloc (.cells #[.string D, u] 26)).alloc (.cells #[.int .i64 0, .int .i64 0, .int .i64 0] 62)) := (Below.refl _ _).alloc (Nat.le_refl _) _
  have hz : EnAt (w.alloc (.cells #[.string D, u] 26)) w.heap.size D u := heap_alloc_new w _
  have hs : (w.alloc (.cells #[.string D, u] 26)).heap.size = w.heap.size + 1 := by simp only [World.alloc, Array.size_push]
  have hn := heap_alloc_new (w.alloc (.cells #[.string D, u] 26)) (.cells #[.int .i64 0, .int .i64 0, .int .i64 0] 62)
  rw [hs] at hn
  exact ⟨en_below hz h2 (en_lt hz), hn, bthen h1 h2⟩
theorem tal_set {w wr : World} {D : ByteArray} {u : Value} {c0 c1 c2 : Nat} (h : TalAt w wr D u c0 c1 c2) (o : Nat) (x : Value) : EnAt (wr.setCell ⟨w.heap.size + 1, o, none⟩ x) w.heap.size D u ∧ Below w.heap.size w (wr.setCell ⟨w.heap.size + 1, o, none⟩ x) :=
  ⟨(blockFl_ne _ ⟨w.heap.size + 1, o, none⟩ _ (by show w.heap.size ≠ w.heap.size + 1; omega)).trans h.en, h.bel.setCell (p := ⟨w.heap.size + 1, o, none⟩) (by show w.heap.size ≤ w.heap.size + 1; omega) _⟩
def CntAt (l : List Nat) (c0 c1 c2 : Nat) : Prop := c0 = l.count 0 ∧ c1 = l.count 1 ∧ c2 = l.count 2
theorem cnt_len {l : List Nat} {c0 c1 c2 : Nat} (h : CntAt l c0 c1 c2) : c0 ≤ l.length ∧ c1 ≤ l.length ∧ c2 ≤ l.length := by
  obtain ⟨rfl, rfl, rfl⟩ := h
  exact ⟨List.count_le_length, List.count_le_length, List.count_le_length⟩
theorem cnt_first {l : List Nat} {c0 c1 c2 : Nat} (h : CntAt l c0 c1 c2) (x y o : Nat) (hx : x ≤ 2) (hy : y ≤ 2) : (if 0 < cntE c0 c1 c2 x then x else if 0 < cntE c0 c1 c2 y then y else o) = firstE x y o l := by
  have hc : ∀ z, z ≤ 2 → cntE c0 c1 c2 z = l.count z := fun z hz => by
    obtain ⟨h0, h1, h2⟩ := h
    obtain rfl | rfl | rfl : z = 0 ∨ z = 1 ∨ z = 2 := by omega
    · exact h0
    · exact h1
    · exact h2
  unfold firstE
  rw [hc x hx, hc y hy]
  simp only [List.count_pos_iff]

set_option maxRecDepth 100000 in
set_option maxHeartbeats 8000000 in
theorem tallied_any (d : Nat) (ih : TruthIs d) (l : List FT) (hl : l.all (mayF d) = true) (hln : l.length ≤ 1000) (L : List AT) (D : ByteArray) (ka va : Option Addr) (n kc vn vc : Nat) (hn : n = l.length) (hs : smallA L) (w : World) (hw : LaidW w) (hx : LaidX w)
    (hk : IsFls (Lt w) w l ka 0) (h : IsA w.heap.size w L (.slice va vn vc)) :
    Calls Tryz.prog 23 #[.slice ka n kc, .agg #[.string D, .slice va vn vc]] w fun e w' => ∃ c0 c1 c2, e = .returned (.pointer (some ⟨w.heap.size + 1, 0, none⟩)) ∧ TalAt w w' D (.slice va vn vc) c0 c1 c2 ∧ CntAt (evFs L l) c0 c1 c2 := by
  obtain ⟨W1, hW1⟩ : ∃ W, W = (w.alloc (.cells #[.string D, .slice va vn vc] 26)).alloc (.cells #[.int .i64 0, .int .i64 0, .int .i64 0] 62) := ⟨_, rfl⟩
  have HT1 : Hid (TalAt w W1 D (.slice va vn vc) 0 0 0) := Lib.hid (by rw [hW1]; exact tal_new w D _)
  have HW1 := Lib.hid hW1.symm
  obtain ⟨tb, htb⟩ : ∃ b, b = w.heap.size + 1 := ⟨_, rfl⟩
  have HTb := Lib.hid htb
  have HIh := Lib.hid (fun (j : Nat) (hj : j < l.length) (v : Value) (W : World) (hW : Below w.heap.size w W) (hv : IsFl (Lt W) W l[j] v) => ih l[j] v L D va vn vc W (List.all_eq_true.1 hl _ (List.getElem_mem hj)) hv hs (hw.below hW) (hx.below hW) (h.below hW hW.size))
  have HK := Lib.hid hk
  have HN := Lib.hid hn
  have HLn := Lib.hid hln
  have hn1 : n ≤ 1000 := by omega
  clear hW1 hl hs hw hx hk h hn hln ih
  go_enter Tryz.func23, Tryz.ntmps23
  go_upto_region 2 with (fail)
  rw [HW1.out, ← htb]
  clear htb
  go_wp2
  go_loopw [12] (fun i wr => ∃ j c0 c1 c2 : Nat, j ≤ n ∧ i = .int .i64 j ∧ Hid (TalAt w wr D (.slice va vn vc) c0 c1 c2) ∧ Hid (CntAt (evFs L (l.take j)) c0 c1 c2)) (fun i _ => n - (intOf i).toNat)
  case atStart => exact ⟨0, 0, 0, 0, by omega, rfl, HT1, Lib.hid ⟨rfl, rfl, rfl⟩⟩
  case round =>
    obtain ⟨j, c0, c1, c2, hj, rfl, HT, HC⟩ := hrel
    rename World => wo
    by_cases hlt : j < n
    · have ti1 : (j : Int) < (n : Int) := by omega
      have ti2 : decide (j < n) = true := by simpa using hlt
      have ti3 : decide ((j : Int) < (n : Int)) = true := by simp; omega
      have hjl : j < l.length := by rw [← HN.out]; exact hlt
      obtain ⟨b, off, v0, v1, v2, v3, v4, rfl, hb, k0, k1, k2, k3, k4, hf⟩ := HK.out.get l _ 0 j l[j] (List.getElem?_eq_getElem hjl)
      rw [Nat.zero_add] at k0 k1 k2 k3 k4
      have hbel := HT.out.bel
      have hcw : ∀ o, wo.cell? ⟨b, o, none⟩ = w.cell? ⟨b, o, none⟩ := fun o => hbel.cell (p := ⟨b, o, none⟩) hb
      rw [← hcw] at k0 k1 k2 k3 k4
      have hf2 : IsFl (Lt wo) wo l[j] (.agg #[v0, v1, v2, v3, v4]) := hf.imp (fun b h => Nat.lt_of_lt_of_le h hbel.size) (fun b o h => hbel.cell (p := ⟨b, o, none⟩) h)
      obtain ⟨k', T', X', pa', pn', pc', ka', kn', kc', e⟩ := hf2.shape
      simp only [Value.agg.injEq, Array.mk.injEq, List.cons.injEq, and_true] at e
      obtain ⟨rfl, rfl, rfl, rfl, rfl⟩ := e
      obtain ⟨W5, hW5⟩ : ∃ W, W = wo.alloc (.cells #[.int .i64 k', .string T', .string X', .slice pa' pn' pc', .slice ka' kn' kc'] 31) := ⟨_, rfl⟩
      have hb5 : Below wo.heap.size wo W5 := by rw [hW5]; exact box5 wo _ _ _ _ _
      have hT5 := HT.out.go hb5
      have hfl5 : FlAt W5 wo.heap.size (.int .i64 k') (.string T') (.string X') (.slice pa' pn' pc') (.slice ka' kn' kc') := by rw [hW5]; exact heap_alloc_new wo _
      have hca := HIh.out j hjl _ W5 (bthen hbel hb5) (hf2.below hb5)
      have hr := evF_lt L l[j]
      obtain ⟨r, hrr⟩ : ∃ r, r = evF L l[j] := ⟨_, rfl⟩
      rw [← hrr] at hca hr
      have htk : evFs L (l.take (j + 1)) = evFs L (l.take j) ++ [r] := by rw [evFs_map, evFs_map, List.take_succ_eq_append_getElem hjl, List.map_append, hrr]; rfl
      have hlen : (evFs L (l.take j)).length ≤ 1000 := by rw [evFs_map, List.length_map, List.length_take]; omega
      obtain ⟨l0, l1, l2⟩ := cnt_len HC.out
      have HCa := Lib.hid (show Calls Tryz.prog 19 #[.agg #[.int .i64 k', .string T', .string X', .slice pa' pn' pc', .slice ka' kn' kc'], .agg #[.string D, .slice va vn vc]] W5.drew fun e w' => e = .returned (.int .i64 (r : Int)) ∧ Below W5.heap.size W5 w' from by
        have := HIh.out j hjl _ W5.drew ((bthen hbel hb5).drew) (hf2.below (hb5.drew))
        rw [← hrr] at this
        exact this.mono (fun e w' h => ⟨h.1, ⟨h.2.1, h.2.2, h.2.3, h.2.4, h.2.5⟩⟩))
      have HTk := Lib.hid htk
      have HT5 := Lib.hid hT5
      have HF5 := Lib.hid hfl5
      have HW5 := Lib.hid hW5.symm
      obtain ⟨p0, p1, p2, p3, p4⟩ := fl_cells hfl5
      obtain ⟨e0, e1⟩ := en_cells hT5.en
      have m0 : c0 ≤ 1000 := by omega
      have m1 : c1 ≤ 1000 := by omega
      have m2 : c2 ≤ 1000 := by omega
      clear hrr htk hlen l0 l1 l2 hT5 hfl5 hf hf2 hb5 hca hbel hcw hjl
      go_upto_region 5 with (fail)
      rw [HW5.out]
      clear hW5
      obtain rfl | rfl | rfl : r = 0 ∨ r = 1 ∨ r = 2 := by omega
      · have HCb := HCa.out
        rw [show ((0 : Nat) : Int) = 0 from rfl] at HCb
        have HCc := Lib.hid HCb
        clear HCb
        go_region_law (first
          | (go_simp; go_at_call 19; refine (HCc.out).mono ?_; rintro e w4 ⟨rfl, hb4⟩; have hT4 := HT5.out.go hb4; have hta : TaAt w4 tb c0 c1 c2 := (by rw [HTb.out]; exact hT4.ta); (obtain ⟨t0, t1, t2, f0, f1, f2⟩ := ta_cells hta); (obtain ⟨p0', p1', p2', p3', p4'⟩ := fl_cells (fl_below HF5.out hb4 (fl_lt HF5.out))); (obtain ⟨e0', e1'⟩ := en_cells hT4.en); have HT4 := Lib.hid hT4; clear hT4 hta hb4)
          | (go_simp; go_at_call 31; refine (addFl_any tb 0 (c0 : Int) (by omega) (by omega) _ t0 f0).mono ?_; rintro e w6 ⟨rfl, hw6⟩; subst hw6))
        all_goals
          go_wp2
          go_roundw
          case rel =>
            refine ⟨j + 1, c0 + 1, c1, c2, by omega, by go_num, Lib.hid (by rw [HTb.out]; exact ⟨(tal_set HT4.out 0 _).1, ta_add0 HT4.out.ta, (tal_set HT4.out 0 _).2⟩), Lib.hid ?_⟩
            rw [HTk.out]
            obtain ⟨h0, h1, h2⟩ := HC.out
            exact ⟨by rw [List.count_append, ← h0]; rfl, by rw [List.count_append, ← h1]; rfl, by rw [List.count_append, ← h2]; rfl⟩
          case measure => simp [intOf]; omega
      · have HCb := HCa.out
        rw [show ((1 : Nat) : Int) = 1 from rfl] at HCb
        have HCc := Lib.hid HCb
        clear HCb
        go_region_law (first
          | (go_simp; go_at_call 19; refine (HCc.out).mono ?_; rintro e w4 ⟨rfl, hb4⟩; have hT4 := HT5.out.go hb4; have hta : TaAt w4 tb c0 c1 c2 := (by rw [HTb.out]; exact hT4.ta); (obtain ⟨t0, t1, t2, f0, f1, f2⟩ := ta_cells hta); (obtain ⟨p0', p1', p2', p3', p4'⟩ := fl_cells (fl_below HF5.out hb4 (fl_lt HF5.out))); (obtain ⟨e0', e1'⟩ := en_cells hT4.en); have HT4 := Lib.hid hT4; clear hT4 hta hb4)
          | (go_simp; go_at_call 31; refine (addFl_any tb 1 (c1 : Int) (by omega) (by omega) _ t1 f1).mono ?_; rintro e w6 ⟨rfl, hw6⟩; subst hw6))
        all_goals
          go_wp2
          go_roundw
          case rel =>
            refine ⟨j + 1, c0, c1 + 1, c2, by omega, by go_num, Lib.hid (by rw [HTb.out]; exact ⟨(tal_set HT4.out 1 _).1, ta_add1 HT4.out.ta, (tal_set HT4.out 1 _).2⟩), Lib.hid ?_⟩
            rw [HTk.out]
            obtain ⟨h0, h1, h2⟩ := HC.out
            exact ⟨by rw [List.count_append, ← h0]; rfl, by rw [List.count_append, ← h1]; rfl, by rw [List.count_append, ← h2]; rfl⟩
          case measure => simp [intOf]; omega
      · have HCb := HCa.out
        rw [show ((2 : Nat) : Int) = 2 from rfl] at HCb
        have HCc := Lib.hid HCb
        clear HCb
        go_region_law (first
          | (go_simp; go_at_call 19; refine (HCc.out).mono ?_; rintro e w4 ⟨rfl, hb4⟩; have hT4 := HT5.out.go hb4; have hta : TaAt w4 tb c0 c1 c2 := (by rw [HTb.out]; exact hT4.ta); (obtain ⟨t0, t1, t2, f0, f1, f2⟩ := ta_cells hta); (obtain ⟨p0', p1', p2', p3', p4'⟩ := fl_cells (fl_below HF5.out hb4 (fl_lt HF5.out))); (obtain ⟨e0', e1'⟩ := en_cells hT4.en); have HT4 := Lib.hid hT4; clear hT4 hta hb4)
          | (go_simp; go_at_call 31; refine (addFl_any tb 2 (c2 : Int) (by omega) (by omega) _ t2 f2).mono ?_; rintro e w6 ⟨rfl, hw6⟩; subst hw6))
        all_goals
          go_wp2
          go_roundw
          case rel =>
            refine ⟨j + 1, c0, c1, c2 + 1, by omega, by go_num, Lib.hid (by rw [HTb.out]; exact ⟨(tal_set HT4.out 2 _).1, ta_add2 HT4.out.ta, (tal_set HT4.out 2 _).2⟩), Lib.hid ?_⟩
            rw [HTk.out]
            obtain ⟨h0, h1, h2⟩ := HC.out
            exact ⟨by rw [List.count_append, ← h0]; rfl, by rw [List.count_append, ← h1]; rfl, by rw [List.count_append, ← h2]; rfl⟩
          case measure => simp [intOf]; omega
    · obtain rfl : j = n := by omega
      have t1 : decide ((j : Int) < (j : Int)) = false := by simp
      have t1' : decide (j < j) = false := by simp
      have HE : Hid (l.take j = l) := Lib.hid (List.take_of_length_le (by rw [← HN.out]; exact Nat.le_refl _))
      go_wp2
      go_ret
      exact ⟨c0, c1, c2, by rw [HTb.out]; rfl, HT.out, by have := HC.out; rwa [HE.out] at this⟩
end Go.Proofs.YtmilgbkkibahlaaGreatDoor


namespace Go.Proofs.YtmilgbkkibahlaaGreatDoor
set_option linter.unusedVariables false
set_option linter.unusedSimpArgs false

def endsO (n a b : List UInt8) : Bool := decide (a.length + b.length ≤ n.length) && (n.take a.length == a) && (n.drop (n.length - b.length) == b)
end Go.Proofs.YtmilgbkkibahlaaGreatDoor


namespace Go.Proofs.YtmilgbkkibahlaaGreatDoor
open Go.RowKit
set_option linter.unusedVariables false
set_option linter.unusedSimpArgs false

end Go.Proofs.YtmilgbkkibahlaaGreatDoor


namespace Go.Proofs.YtmilgbkkibahlaaGreatDoor
open Go.RowKit
set_option linter.unusedVariables false

def saidR (o : Option (List UInt8)) : Value := match o with
  | some k => .agg #[.string ⟨k.toArray⟩, .bool true]
  | none => .agg #[.string ⟨#[]⟩, .bool false]

end Go.Proofs.YtmilgbkkibahlaaGreatDoor


namespace Go.Proofs.YtmilgbkkibahlaaGreatDoor
set_option linter.unusedVariables false

theorem nDigits_le : ∀ (k u : Nat), u < 10 ^ (k + 1) → Lib.nDigits u ≤ k + 1
  | 0, u, h => by rw [Lib.nDigits_small (by simpa using h)]; exact Nat.le_refl _
  | k + 1, u, h => by
    by_cases h1 : u < 10
    · rw [Lib.nDigits_small h1]; omega
    · rw [Lib.nDigits_big h1]
      have := nDigits_le k (u / 10) (by rw [Nat.pow_succ] at h; omega)
      omega
theorem itoa_len (v : Int) (h : v.natAbs < 1000000000000000) : (Lib.itoa v).length ≤ 16 := by
  have h15 : (Lib.decDigits v.natAbs).length ≤ 15 := by rw [Lib.decDigits_length]; exact nDigits_le 14 _ (by simpa using h)
  unfold Lib.itoa
  split
  · simp; omega
  · rename_i h; rw [show v.toNat = v.natAbs by omega]; omega

end Go.Proofs.YtmilgbkkibahlaaGreatDoor


namespace Go.Proofs.YtmilgbkkibahlaaGreatDoor
open Go.RowKit
set_option linter.unusedVariables false

theorem conv_one (m : Int) (b : UInt8) (h : (b.toNat : Int) = m) (w : World) : (convert 22 9 (.slice (some ⟨w.heap.size, 0, none⟩) 1 1)).run Tryz.prog (w.alloc (.cells #[.int .u8 m] 5)) = .ok (.string (ofL [b])) (w.alloc (.cells #[.int .u8 m] 5)) := by
  subst h
  refine run_convert_bytes_back _ 22 9 5 _ 1 [b] Tryz.underlying22 Tryz.underlying5 Tryz.underlying9 fun j hj => ?_
  have : j = 0 := by simp at hj; omega
  subst this
  simp [Addr.add]
theorem decDigits_big {u : Nat} (h : 10 ≤ u) : Lib.decDigits u = Lib.decDigits (u / 10) ++ [UInt8.ofNat (48 + u % 10)] := by rw [Lib.decDigits, dif_neg (by omega)]
theorem digit_val (u : Nat) : ((UInt8.ofNat (48 + u % 10)).toNat : Int) = 48 + (u : Int) % 10 := by simp; omega
theorem digit_val1 (u : Nat) (h : u < 10) : ((UInt8.ofNat (48 + u)).toNat : Int) = 48 + (u : Int) := by simp; omega

theorem wrap_u64 (n : Int) : IntKind.u64.wrap n = n % 18446744073709551616 := by
  unfold IntKind.wrap
  simp [IntKind.bits, IntKind.signed]
set_option maxRecDepth 100000 in
set_option maxHeartbeats 4000000 in
theorem digitsNat_any (neg : Bool) (N : Nat) (hN : N ≤ 1000000000000000000) (hneg : neg = true → 1 ≤ N) (w : World) :
    Calls Tryz.prog 16 #[.int .i64 (if neg then -(N : Int) else N)] w fun e w' => e = .returned (.string (ofL (if neg then 45 :: Lib.decDigits N else Lib.decDigits N))) ∧ Below w.heap.size w w' := by
  have hlen : (Lib.decDigits N).length ≤ 21 := by
    have := Lib.itoa_length_le (N : Int) (by omega) (by omega)
    rw [Lib.itoa_nonneg] at this
    exact this
  obtain ⟨V, hV⟩ : ∃ V, V = (if neg then -(N : Int) else N) := ⟨_, rfl⟩
  rw [← hV]
  obtain ⟨U, hU⟩ : ∃ U, IntKind.u64.wrap V = U := ⟨_, rfl⟩
  have key : decide (V < 0) = neg ∧ (neg = true → IntKind.u64.wrap (-U) = N) ∧ (neg = false → U = N) := by
    cases neg with
    | false =>
      simp at hV
      refine ⟨by simp; omega, by simp, fun _ => ?_⟩
      rw [← hU, hV]; simp only [wrap_u64]; omega
    | true =>
      simp at hV
      have := hneg rfl
      refine ⟨by simp; omega, fun _ => ?_, by simp⟩
      rw [← hU, hV]; simp only [wrap_u64]; omega
  obtain ⟨k1, k2, k3⟩ := key
  clear hV
  have HLen := Lib.hid hlen
  clear hlen
  cases neg with
  | false =>
    have hUN := k3 rfl
    clear k3 k2 hneg
    subst hUN
    go_enter Tryz.func16, Tryz.ntmps16
    go_wp2
    go_loopw [3, 4] (fun u s wr => ∃ (m : Nat) (D : List UInt8), u = .int .u64 m ∧ s = .string (ofL D) ∧ m ≤ 1000000000000000000 ∧ Hid (Lib.decDigits N = Lib.decDigits m ++ D) ∧ D.length ≤ 21 ∧ Below w.heap.size w wr) (fun u _ _ => (intOf u).toNat)
    case atStart => exact ⟨N, [], rfl, rfl, hN, Lib.hid (by simp), by simp, Below.refl _ _⟩
    case round =>
      obtain ⟨m, D, rfl, rfl, hm, HD, hDl, hbel⟩ := hrel
      have HBel := Lib.hid hbel
      have hsz := hbel.size
      clear hbel
      have hs1 := ofL_size D
      by_cases h10 : 10 ≤ m
      · have t1 : decide ((10 : Int) ≤ (m : Int)) = true := by simp; omega
        have hcv := conv_one (48 + (m : Int) % 10) (UInt8.ofNat (48 + m % 10)) (digit_val m) wr
        have hnew : Lib.decDigits N = Lib.decDigits (m / 10) ++ (UInt8.ofNat (48 + m % 10) :: D) := by rw [HD.out, decDigits_big h10]; simp
        have hl2 : (UInt8.ofNat (48 + m % 10) :: D).length ≤ 21 := by have := HLen.out; rw [hnew] at this; simp at this ⊢; omega
        have HNew := Lib.hid hnew
        have hs2 := ofL_size [UInt8.ofNat (48 + m % 10)]
        have hap : ofL [UInt8.ofNat (48 + m % 10)] ++ ofL D = ofL (UInt8.ofNat (48 + m % 10) :: D) := ofL_app _ _
        have hs1' : (ofL D).size ≤ 21 := by omega
        have hs2' : (ofL [UInt8.ofNat (48 + m % 10)]).size ≤ 1 := by rw [hs2]; simp
        have HAp := Lib.hid hap
        clear hnew hs1 hs2 hap
        generalize UInt8.ofNat (48 + m % 10) = b at *
        go_wp2
        go_roundw
        case rel => exact ⟨m / 10, b :: D, by go_num, by rw [HAp.out], by omega, HNew, hl2, HBel.out.alloc hsz _⟩
        case measure => simp [intOf]; omega
      · have t1 : decide ((10 : Int) ≤ (m : Int)) = false := by simp; omega
        have hcv := conv_one (48 + (m : Int)) (UInt8.ofNat (48 + m)) (digit_val1 m (by omega)) wr
        have hnew : Lib.decDigits N = UInt8.ofNat (48 + m) :: D := by rw [HD.out, Lib.decDigits_one (by omega)]; rfl
        have hs2 := ofL_size [UInt8.ofNat (48 + m)]
        have hap : ofL [UInt8.ofNat (48 + m)] ++ ofL D = ofL (Lib.decDigits N) := by rw [ofL_app, hnew]; rfl
        have hs1' : (ofL D).size ≤ 21 := by omega
        have hs2' : (ofL [UInt8.ofNat (48 + m)]).size ≤ 1 := by rw [hs2]; simp
        have hs3 : (ofL (Lib.decDigits N)).size ≤ 21 := by rw [ofL_size]; exact HLen.out
        have hs4 : (⟨#[45]⟩ : ByteArray).size = 1 := rfl
        have hap2 : (⟨#[45]⟩ : ByteArray) ++ ofL (Lib.decDigits N) = ofL (45 :: Lib.decDigits N) := ofL_app [45] _
        have HAp2 := Lib.hid hap2
        clear hnew hs1 hs2 hap2
        generalize UInt8.ofNat (48 + m) = b at *
        obtain ⟨R, hR⟩ : ∃ R, R = ofL (Lib.decDigits N) := ⟨_, rfl⟩
        rw [← hR] at hap hs3 HAp2
        have HR := Lib.hid hR
        clear hR
        go_wp2
        go_ret
        exact ⟨by rw [← HR.out]; rfl, HBel.out.alloc hsz _⟩
  | true =>
    have hN1 := hneg rfl
    have k2' := k2 rfl
    clear k3 k2 hneg
    go_enter Tryz.func16, Tryz.ntmps16
    go_wp2
    go_loopw [3, 4] (fun u s wr => ∃ (m : Nat) (D : List UInt8), u = .int .u64 m ∧ s = .string (ofL D) ∧ m ≤ 1000000000000000000 ∧ Hid (Lib.decDigits N = Lib.decDigits m ++ D) ∧ D.length ≤ 21 ∧ Below w.heap.size w wr) (fun u _ _ => (intOf u).toNat)
    case atStart => exact ⟨N, [], rfl, rfl, hN, Lib.hid (by simp), by simp, Below.refl _ _⟩
    case round =>
      obtain ⟨m, D, rfl, rfl, hm, HD, hDl, hbel⟩ := hrel
      have HBel := Lib.hid hbel
      have hsz := hbel.size
      clear hbel
      have hs1 := ofL_size D
      by_cases h10 : 10 ≤ m
      · have t1 : decide ((10 : Int) ≤ (m : Int)) = true := by simp; omega
        have hcv := conv_one (48 + (m : Int) % 10) (UInt8.ofNat (48 + m % 10)) (digit_val m) wr
        have hnew : Lib.decDigits N = Lib.decDigits (m / 10) ++ (UInt8.ofNat (48 + m % 10) :: D) := by rw [HD.out, decDigits_big h10]; simp
        have hl2 : (UInt8.ofNat (48 + m % 10) :: D).length ≤ 21 := by have := HLen.out; rw [hnew] at this; simp at this ⊢; omega
        have HNew := Lib.hid hnew
        have hs2 := ofL_size [UInt8.ofNat (48 + m % 10)]
        have hap : ofL [UInt8.ofNat (48 + m % 10)] ++ ofL D = ofL (UInt8.ofNat (48 + m % 10) :: D) := ofL_app _ _
        have hs1' : (ofL D).size ≤ 21 := by omega
        have hs2' : (ofL [UInt8.ofNat (48 + m % 10)]).size ≤ 1 := by rw [hs2]; simp
        have HAp := Lib.hid hap
        clear hnew hs1 hs2 hap
        generalize UInt8.ofNat (48 + m % 10) = b at *
        go_wp2
        go_roundw
        case rel => exact ⟨m / 10, b :: D, by go_num, by rw [HAp.out], by omega, HNew, hl2, HBel.out.alloc hsz _⟩
        case measure => simp [intOf]; omega
      · have t1 : decide ((10 : Int) ≤ (m : Int)) = false := by simp; omega
        have hcv := conv_one (48 + (m : Int)) (UInt8.ofNat (48 + m)) (digit_val1 m (by omega)) wr
        have hnew : Lib.decDigits N = UInt8.ofNat (48 + m) :: D := by rw [HD.out, Lib.decDigits_one (by omega)]; rfl
        have hs2 := ofL_size [UInt8.ofNat (48 + m)]
        have hap : ofL [UInt8.ofNat (48 + m)] ++ ofL D = ofL (Lib.decDigits N) := by rw [ofL_app, hnew]; rfl
        have hs1' : (ofL D).size ≤ 21 := by omega
        have hs2' : (ofL [UInt8.ofNat (48 + m)]).size ≤ 1 := by rw [hs2]; simp
        have hs3 : (ofL (Lib.decDigits N)).size ≤ 21 := by rw [ofL_size]; exact HLen.out
        have hs4 : (⟨#[45]⟩ : ByteArray).size = 1 := rfl
        have hap2 : (⟨#[45]⟩ : ByteArray) ++ ofL (Lib.decDigits N) = ofL (45 :: Lib.decDigits N) := ofL_app [45] _
        have HAp2 := Lib.hid hap2
        clear hnew hs1 hs2 hap2
        generalize UInt8.ofNat (48 + m) = b at *
        obtain ⟨R, hR⟩ : ∃ R, R = ofL (Lib.decDigits N) := ⟨_, rfl⟩
        rw [← hR] at hap hs3 HAp2
        have HR := Lib.hid hR
        clear hR
        go_wp2
        go_ret
        exact ⟨by rw [HAp2.out]; rfl, HBel.out.alloc hsz _⟩

theorem digits_any (n : Int) (h0 : -1000000000000000000 ≤ n) (h1 : n ≤ 1000000000000000000) (w : World) :
    Calls Tryz.prog 16 #[.int .i64 n] w fun e w' => e = .returned (.string (ofL (Lib.itoa n))) ∧ Below w.heap.size w w' := by
  by_cases h : n < 0
  · have := digitsNat_any true n.natAbs (by omega) (by intro _; omega) w
    simp only [if_true] at this
    have e : -(n.natAbs : Int) = n := by omega
    rw [e] at this
    unfold Lib.itoa
    rw [if_pos h]
    exact this
  · have := digitsNat_any false n.toNat (by omega) (by intro h; cases h) w
    simp only [Bool.false_eq_true, if_false] at this
    have e : (n.toNat : Int) = n := by omega
    rw [e] at this
    unfold Lib.itoa
    rw [if_neg h]
    exact this
end Go.Proofs.YtmilgbkkibahlaaGreatDoor


namespace Go.Proofs.YtmilgbkkibahlaaGreatDoor
open Go.RowKit
set_option linter.unusedVariables false

def numR (o : Option Int) : Value := match o with
  | some v => .agg #[.int .i64 v, .bool true]
  | none => .agg #[.int .i64 0, .bool false]

end Go.Proofs.YtmilgbkkibahlaaGreatDoor


namespace Go.Proofs.YtmilgbkkibahlaaGreatDoor
open Go.RowKit
set_option linter.unusedVariables false

end Go.Proofs.YtmilgbkkibahlaaGreatDoor


namespace Go.Proofs.YtmilgbkkibahlaaGreatDoor
open Go.RowKit
set_option linter.unusedVariables false

end Go.Proofs.YtmilgbkkibahlaaGreatDoor


namespace Go.Proofs.YtmilgbkkibahlaaGreatDoor
open Go.RowKit
set_option linter.unusedVariables false

end Go.Proofs.YtmilgbkkibahlaaGreatDoor


namespace Go.Proofs.YtmilgbkkibahlaaGreatDoor
open Go.RowKit
set_option linter.unusedVariables false

def preD (p : List UInt8) : Option R := if p.contains 61 = true then (valD (afterD p)).map (fun v => (nameD p, v)) else none
def allO : List (List UInt8) → Option (List R)
  | [] => some []
  | p :: l => match preD p with
    | none => none
    | some r => (allO l).map (r :: ·)
def PRef (w : World) (o : Option (List R)) (e : Ending) (w' : World) : Prop :=
  Below w.heap.size w w' ∧ match o with
  | none => e = .returned (.agg #[.slice none 0 0, .bool false])
  | some l => ∃ v, e = .returned (.agg #[v, .bool true]) ∧ IsL w'.heap.size w' l v
end Go.Proofs.YtmilgbkkibahlaaGreatDoor


namespace Go.Proofs.YtmilgbkkibahlaaGreatDoor
open Go.RowKit
set_option linter.unusedVariables false

end Go.Proofs.YtmilgbkkibahlaaGreatDoor


namespace Go.Proofs.YtmilgbkkibahlaaGreatDoor
open Go.RowKit
set_option linter.unusedVariables false



def saidV (o : Option (List UInt8)) : Value := match o with
  | some k => .agg #[.string ⟨k.toArray⟩, .bool true]
  | none => .agg #[.string ⟨#[]⟩, .bool false]

end Go.Proofs.YtmilgbkkibahlaaGreatDoor


namespace Go.Proofs.YtmilgbkkibahlaaGreatDoor
open Go.RowKit
set_option linter.unusedVariables false

def sB (o : Option (List UInt8)) : ByteArray := match o with
  | some x => ⟨x.toArray⟩
  | none => ⟨#[]⟩
end Go.Proofs.YtmilgbkkibahlaaGreatDoor


namespace Go.Proofs.YtmilgbkkibahlaaGreatDoor
open Go.RowKit
set_option linter.unusedVariables false

def TwoAt (W : World) (b : Nat) (x y : Value) (w : World) : Prop := w.cell? ⟨b, 0, none⟩ = some x ∧ w.cell? ⟨b + 1, 0, none⟩ = some y ∧ b + 1 < W.heap.size ∧ Below W.heap.size W w
theorem TwoAt.go {W w w1 : World} {b : Nat} {x y : Value} (h : TwoAt W b x y w) (hb : Below w.heap.size w w1) : w1.cell? ⟨b, 0, none⟩ = some x ∧ w1.cell? ⟨b + 1, 0, none⟩ = some y ∧ TwoAt W b x y w1 := by
  obtain ⟨h1, h2, h3, h4⟩ := h
  have hs := h4.size
  have c1 := (hb.cell (p := ⟨b, 0, none⟩) (by show b < _; omega)).trans h1
  have c2 := (hb.cell (p := ⟨b + 1, 0, none⟩) (by show b + 1 < _; omega)).trans h2
  exact ⟨c1, c2, c1, c2, h3, h4.trans (hb.mono hs)⟩

end Go.Proofs.YtmilgbkkibahlaaGreatDoor


namespace Go.Proofs.YtmilgbkkibahlaaGreatDoor
open Go.RowKit
set_option linter.unusedVariables false

def valsS (L : List AT) (t : List UInt8) : List (List UInt8) := match L.find? (fun a => a.1 == t) with
  | some a => a.2
  | none => []
def hasS (L : List AT) (t : List UInt8) : Bool := decide (0 < (valsS L t).length)
def mostS (t : List UInt8) : Int := if t = [117, 105, 100, 110, 117, 109, 98, 101, 114] then 1 else 40
end Go.Proofs.YtmilgbkkibahlaaGreatDoor


namespace Go.Proofs.YtmilgbkkibahlaaGreatDoor
open Go.RowKit
set_option linter.unusedVariables false

structure CT where
  name : List UInt8
  sup : List UInt8
  st : Bool
  must : List UInt8
  may : List UInt8
def CT.mustL (c : CT) : List (List UInt8) := Lib.fields c.must
def CT.mayL (c : CT) : List (List UInt8) := Lib.fields c.may
def classL : List CT := [
  ⟨[116, 111, 112], [], false, [111, 98, 106, 101, 99, 116, 99, 108, 97, 115, 115], []⟩,
  ⟨[111, 114, 103, 97, 110, 105, 122, 97, 116, 105, 111, 110], [116, 111, 112], true, [111], [100, 101, 115, 99, 114, 105, 112, 116, 105, 111, 110]⟩,
  ⟨[111, 114, 103, 97, 110, 105, 122, 97, 116, 105, 111, 110, 97, 108, 117, 110, 105, 116], [116, 111, 112], true, [111, 117], [100, 101, 115, 99, 114, 105, 112, 116, 105, 111, 110]⟩,
  ⟨[112, 101, 114, 115, 111, 110], [116, 111, 112], true, [99, 110, 32, 115, 110], [100, 101, 115, 99, 114, 105, 112, 116, 105, 111, 110, 32, 117, 115, 101, 114, 112, 97, 115, 115, 119, 111, 114, 100]⟩,
  ⟨[105, 110, 101, 116, 111, 114, 103, 112, 101, 114, 115, 111, 110], [112, 101, 114, 115, 111, 110], true, [], [117, 105, 100, 32, 109, 97, 105, 108]⟩,
  ⟨[112, 111, 115, 105, 120], [116, 111, 112], false, [117, 105, 100, 32, 117, 105, 100, 110, 117, 109, 98, 101, 114], []⟩,
  ⟨[103, 114, 111, 117, 112, 111, 102, 110, 97, 109, 101, 115], [116, 111, 112], true, [99, 110, 32, 109, 101, 109, 98, 101, 114], [100, 101, 115, 99, 114, 105, 112, 116, 105, 111, 110]⟩]
def findC (n : List UInt8) : Option CT := classL.find? (fun c => c.name == n)
def chainC : Nat → List UInt8 → List CT
  | 0, _ => []
  | k + 1, n => match findC n with
    | none => []
    | some c => c :: chainC k c.sup
def objB : List UInt8 := [111, 98, 106, 101, 99, 116, 99, 108, 97, 115, 115]
def allC : List (List UInt8) → Option (List CT × Bool)
  | [] => some ([], false)
  | v :: l => match findC (fold v) with
    | none => none
    | some c => (allC l).map fun p => (chainC 3 (fold v) ++ p.1, c.st || p.2)
def allR (A : List CT) (b : Bool) (l : List (List UInt8)) : Option (List CT × Bool) := (allC l).map fun p => (A ++ p.1, b || p.2)
def mayC (A : List CT) : List (List UInt8) := A.flatMap fun c => c.mustL ++ c.mayL
def classedD (L : List AT) : Bool := match allC (valsS L objB) with
  | none => false
  | some (A, s) => s && (A.all (fun c => c.mustL.all (hasS L)) && L.all (fun a => (mayC A).contains a.1))

def normsS (r : Nat) : List (List UInt8) → Option (List (List UInt8))
  | [] => some []
  | v :: l => match normD r v with
    | none => none
    | some x => (normsS r l).map (x :: ·)
def valsC (t : List UInt8) (V : List (List UInt8)) : Int :=
  if V.length = 0 ∨ mostS t < (V.length : Int) then 19 else match normsS (ruleD t) V with
  | none => 21
  | some l => if l.Nodup then 0 else 20
def normsR (r : Nat) (A : List (List UInt8)) (l : List (List UInt8)) : Option (List (List UInt8)) := (normsS r l).map (A ++ ·)
def soundR : List AT → List AT → Except Int (List AT)
  | A, [] => .ok A
  | A, a :: l => match canonD a.1 with
    | none => .error 17
    | some t => if hasS A t then .error 20 else if valsC t a.2 = 0 then soundR (A ++ [(t, a.2)]) l else .error (valsC t a.2)
def namedD (L : List AT) (d : List UInt8) : Bool := match parseD d with
  | some (r :: _) => (valsS L ((canonD r.1).getD [])).any fun v => sameO (normD (ruleD ((canonD r.1).getD [])) v) (normD (ruleD ((canonD r.1).getD [])) r.2)
  | _ => false
def behindD (L : List AT) (d : List UInt8) : Int := if classedD L = false then 65 else if namedD L d = false then 64 else 0
def checkD (d : List UInt8) (L : List AT) : Int := match keyD d with
  | none => 34
  | some k => if k = [] then 34 else if 20 < L.length then 19 else match soundR [] L with
    | .error c => c
    | .ok A => behindD A d
end Go.Proofs.YtmilgbkkibahlaaGreatDoor


namespace Go.Proofs.YtmilgbkkibahlaaGreatDoor
open Go.RowKit
set_option linter.unusedVariables false

def SaysV (B : Nat) (w : World) (P : List PT) (L : List AT) : Prop := P.length = L.length ∧ ∀ j (h : j < L.length) (h' : j < P.length), P[j].1 = L[j].1 ∧ IsT B w L[j].2 P[j].2
def OwnV (B : Nat) (w : World) (v : Value) (L : List AT) : Prop := ∃ P, RowP B w v P ∧ SaysV B w P L
abbrev KT := CT × Value × Value
def cellsK : List KT → List Value
  | [] => []
  | r :: l => strV r.1.name :: strV r.1.sup :: .bool r.1.st :: r.2.1 :: r.2.2 :: cellsK l
abbrev Apart (B g : Nat) (w : World) (v : Value) (b : Nat) : Prop := B ≤ b ∧ b < w.heap.size ∧ some b ≠ v.ownBlock ∧ b ≠ g
def SaysK (B g : Nat) (w : World) (v : Value) (P : List KT) : Prop := ∀ j (h : j < P.length), IsTo (Apart B g w v) w P[j].1.mustL P[j].2.1 ∧ IsTo (Apart B g w v) w P[j].1.mayL P[j].2.2
def IsK (n0 : Nat) (w : World) (L : List CT) (v : Value) : Prop := ∃ a c, v = .slice a L.length c ∧ L.length ≤ maxLen ∧
  ∀ j, (h : j < L.length) → ∃ b off u1 u2, a = some ⟨b, off, none⟩ ∧ b < n0 ∧ w.cell? ⟨b, off + j * 5, none⟩ = some (strV L[j].name) ∧ w.cell? ⟨b, off + j * 5 + 1, none⟩ = some (strV L[j].sup) ∧ w.cell? ⟨b, off + j * 5 + 2, none⟩ = some (.bool L[j].st) ∧ w.cell? ⟨b, off + j * 5 + 3, none⟩ = some u1 ∧ w.cell? ⟨b, off + j * 5 + 4, none⟩ = some u2 ∧ IsT n0 w L[j].mustL u1 ∧ IsT n0 w L[j].mayL u2
theorem IsK.below {n0 n1 : Nat} {w w' : World} {L : List CT} {v : Value} (h : IsK n0 w L v) (hb : Below n0 w w') (hn : n0 ≤ n1) : IsK n1 w' L v := by
  obtain ⟨a, c, hv, hm, hc⟩ := h
  refine ⟨a, c, hv, hm, fun j hj => ?_⟩
  obtain ⟨b, off, u1, u2, ha, hlt, c0, c1, c2, c3, c4, ht, hu⟩ := hc j hj
  exact ⟨b, off, u1, u2, ha, Nat.lt_of_lt_of_le hlt hn, (hb.cell (p := ⟨b, _, none⟩) hlt).trans c0, (hb.cell (p := ⟨b, _, none⟩) hlt).trans c1, (hb.cell (p := ⟨b, _, none⟩) hlt).trans c2, (hb.cell (p := ⟨b, _, none⟩) hlt).trans c3, (hb.cell (p := ⟨b, _, none⟩) hlt).trans c4, ht.below hb hn, hu.below hb hn⟩
end Go.Proofs.YtmilgbkkibahlaaGreatDoor


namespace Go.Proofs.YtmilgbkkibahlaaGreatDoor
open Go.RowKit
set_option linter.unusedVariables false

def LaidF (w : World) : Prop := Lib.TabIs Tryz.prog w "strings.asciiSpace" .u8 Lib.asciiSpaceTab
def plainB (l : List UInt8) : Bool := l.all (fun b => decide (b.toNat < 128)) && decide (l.length < 1000)
abbrev New (B : Nat) (w : World) (b : Nat) : Prop := B ≤ b ∧ b < w.heap.size
def rowCells : Array Value := #[.string { data := #[116, 111, 112] }, .string { data := #[] }, .bool false, .string { data := #[111, 98, 106, 101, 99, 116, 99, 108, 97, 115, 115] }, .string { data := #[] }, .string { data := #[111, 114, 103, 97, 110, 105, 122, 97, 116, 105, 111, 110] }, .string { data := #[116, 111, 112] }, .bool true, .string { data := #[111] }, .string { data := #[100, 101, 115, 99, 114, 105, 112, 116, 105, 111, 110] }, .string { data := #[111, 114, 103, 97, 110, 105, 122, 97, 116, 105, 111, 110, 97, 108, 117, 110, 105, 116] }, .string { data := #[116, 111, 112] }, .bool true, .string { data := #[111, 117] }, .string { data := #[100, 101, 115, 99, 114, 105, 112, 116, 105, 111, 110] }, .string { data := #[112, 101, 114, 115, 111, 110] }, .string { data := #[116, 111, 112] }, .bool true, .string { data := #[99, 110, 32, 115, 110] }, .string { data := #[100, 101, 115, 99, 114, 105, 112, 116, 105, 111, 110, 32, 117, 115, 101, 114, 112, 97, 115, 115, 119, 111, 114, 100] }, .string { data := #[105, 110, 101, 116, 111, 114, 103, 112, 101, 114, 115, 111, 110] }, .string { data := #[112, 101, 114, 115, 111, 110] }, .bool true, .string { data := #[] }, .string { data := #[117, 105, 100, 32, 109, 97, 105, 108] }, .string { data := #[112, 111, 115, 105, 120] }, .string { data := #[116, 111, 112] }, .bool false, .string { data := #[117, 105, 100, 32, 117, 105, 100, 110, 117, 109, 98, 101, 114] }, .string { data := #[] }, .string { data := #[103, 114, 111, 117, 112, 111, 102, 110, 97, 109, 101, 115] }, .string { data := #[116, 111, 112] }, .bool true, .string { data := #[99, 110, 32, 109, 101, 109, 98, 101, 114] }, .string { data := #[100, 101, 115, 99, 114, 105, 112, 116, 105, 111, 110] }]
def rowsV : Value := .agg rowCells
def rowV (c : CT) : Value := .agg #[strV c.name, strV c.sup, .bool c.st, strV c.must, strV c.may]
def noC : Value := .agg #[.string ⟨#[]⟩, .string ⟨#[]⟩, .bool false, .slice none 0 0, .slice none 0 0]

abbrev set5 (w : World) (b : Nat) (x0 x1 x2 x3 x4 : Value) : World := ((((w.setCell ⟨b, 0, none⟩ x0).setCell ⟨b, 1, none⟩ x1).setCell ⟨b, 2, none⟩ x2).setCell ⟨b, 3, none⟩ x3).setCell ⟨b, 4, none⟩ x4
end Go.Proofs.YtmilgbkkibahlaaGreatDoor


namespace Go.Proofs.YtmilgbkkibahlaaGreatDoor
open Go.RowKit
set_option linter.unusedVariables false

end Go.Proofs.YtmilgbkkibahlaaGreatDoor


namespace Go.Proofs.YtmilgbkkibahlaaGreatDoor
open Go.RowKit
set_option linter.unusedVariables false

def FindW (w : World) (o : Option CT) (e : Ending) (w' : World) : Prop := Below w.heap.size w w' ∧ match o with
  | none => e = .returned (.tuple #[noC, .bool false])
  | some c => ∃ u1 u2, e = .returned (.tuple #[.agg #[strV c.name, strV c.sup, .bool c.st, u1, u2], .bool true]) ∧ IsTo (New w.heap.size w') w' c.mustL u1 ∧ IsTo (New w.heap.size w') w' c.mayL u2

end Go.Proofs.YtmilgbkkibahlaaGreatDoor


namespace Go.Proofs.YtmilgbkkibahlaaGreatDoor
open Go.RowKit
set_option linter.unusedVariables false

def restC : Option CT → List CT
  | none => []
  | some c => c :: chainC 3 c.sup
theorem block_ne (w : World) (a : Addr) (x : Value) {b : Nat} (h : b ≠ a.block) : (w.setCell a x).heap[b]? = w.heap[b]? := by
  unfold World.setCell
  simp [Array.getElem?_modify, Ne.symm h]
end Go.Proofs.YtmilgbkkibahlaaGreatDoor


namespace Go.Proofs.YtmilgbkkibahlaaGreatDoor
open Go.RowKit
set_option linter.unusedVariables false

def IsTT (n0 : Nat) (w : World) (U : List (List (List UInt8))) (v : Value) : Prop := ∃ a c, v = .slice a U.length c ∧ ∀ j, (h : j < U.length) → ∃ b off u, a = some ⟨b, off, none⟩ ∧ b < n0 ∧ w.cell? ⟨b, off + j, none⟩ = some u ∧ IsT n0 w U[j] u

end Go.Proofs.YtmilgbkkibahlaaGreatDoor


namespace Go.Proofs.YtmilgbkkibahlaaGreatDoor
open Go.RowKit
set_option linter.unusedVariables false

def Box1 (w : World) (b : Nat) (x : Value) : Prop := w.cell? ⟨b, 0, none⟩ = some x
theorem Box1.below {w w' : World} {b n : Nat} {x : Value} (h : Box1 w b x) (hb : Below n w w') (hn : b < n) : Box1 w' b x := (hb.cell (p := ⟨b, 0, none⟩) hn).trans h
end Go.Proofs.YtmilgbkkibahlaaGreatDoor


namespace Go.Proofs.YtmilgbkkibahlaaGreatDoor
open Go.RowKit
set_option linter.unusedVariables false

end Go.Proofs.YtmilgbkkibahlaaGreatDoor


namespace Go.Proofs.YtmilgbkkibahlaaGreatDoor
open Go.RowKit
set_option linter.unusedVariables false

def BoxA (w : World) (b : Nat) (x : ByteArray) (u : Value) : Prop := w.heap[b]? = some (.cells #[.string x, u] 42 (0, 0))
theorem BoxA.below {w w' : World} {b n : Nat} {x : ByteArray} {u : Value} (h : BoxA w b x u) (hb : Below n w w') (hn : b < n) : BoxA w' b x u := (hb.block b hn).trans h
theorem BoxA.cells {w : World} {b : Nat} {x : ByteArray} {u : Value} (h : BoxA w b x u) : w.cell? ⟨b, 0, none⟩ = some (.string x) ∧ w.cell? ⟨b, 1, none⟩ = some u := by
  unfold BoxA at h
  simp [World.cell?, h]
def SoundW (w : World) (o : Except Int (List AT)) (e : Ending) (w' : World) : Prop := Below w.heap.size w w' ∧ match o with
  | .error c => e = .returned (.tuple #[.slice none 0 0, .int .i64 c])
  | .ok A => ∃ u, e = .returned (.tuple #[u, .int .i64 0]) ∧ OwnV w.heap.size w' u A

end Go.Proofs.YtmilgbkkibahlaaGreatDoor


namespace Go.Proofs.YtmilgbkkibahlaaGreatDoor
open Go.RowKit
set_option linter.unusedVariables false

end Go.Proofs.YtmilgbkkibahlaaGreatDoor


namespace Go.Proofs.YtmilgbkkibahlaaGreatDoor
open Go.RowKit
set_option linter.unusedVariables false

def BoxN (w : World) (b : Nat) (x : ByteArray) (u : Value) : Prop := w.heap[b]? = some (.cells #[.string x, u] 26 (0, 0))
theorem BoxN.below {w w' : World} {b n : Nat} {x : ByteArray} {u : Value} (h : BoxN w b x u) (hb : Below n w w') (hn : b < n) : BoxN w' b x u := (hb.block b hn).trans h
theorem BoxN.cells {w : World} {b : Nat} {x : ByteArray} {u : Value} (h : BoxN w b x u) : w.cell? ⟨b, 0, none⟩ = some (.string x) ∧ w.cell? ⟨b, 1, none⟩ = some u := by
  unfold BoxN at h
  simp [World.cell?, h]
theorem boxN_new (w : World) (x : ByteArray) (u : Value) : BoxN (w.alloc (.cells #[.string x, u] 26)) w.heap.size x u := heap_alloc_new w _

def soundS (A : List AT) : Prop := ∀ a ∈ A, a.2.length ≤ 40 ∧ ∀ v ∈ a.2, v.length ≤ 100
end Go.Proofs.YtmilgbkkibahlaaGreatDoor


namespace Go.Proofs.YtmilgbkkibahlaaGreatDoor
open Go.RowKit
set_option linter.unusedVariables false

def AttrP (L : List AT) (t : List UInt8) (I : Int) : Prop := (∃ j, ∃ h : j < L.length, I = (j : Int) ∧ (low L[j].1 == low t) = true ∧ ∀ k (hk : k < L.length), k < j → (low L[k].1 == low t) = false) ∨ (I = -1 ∧ ∀ k (hk : k < L.length), (low L[k].1 == low t) = false)
end Go.Proofs.YtmilgbkkibahlaaGreatDoor


namespace Go.Proofs.YtmilgbkkibahlaaGreatDoor
open Go.RowKit
set_option linter.unusedVariables false

end Go.Proofs.YtmilgbkkibahlaaGreatDoor


namespace Go.Proofs.YtmilgbkkibahlaaGreatDoor
open Go.RowKit
set_option linter.unusedVariables false
set_option linter.unusedSimpArgs false

def ordR (k : Int) (r : Nat) (x v : List UInt8) : Option Bool := if k = 7 then lessD r x v else lessD r v x
end Go.Proofs.YtmilgbkkibahlaaGreatDoor


namespace Go.Proofs.YtmilgbkkibahlaaGreatDoor
open Go.RowKit
set_option linter.unusedVariables false
set_option linter.unusedSimpArgs false

end Go.Proofs.YtmilgbkkibahlaaGreatDoor


namespace Go.Proofs.YtmilgbkkibahlaaGreatDoor
open Go.RowKit
set_option linter.unusedVariables false
set_option linter.unusedSimpArgs false

end Go.Proofs.YtmilgbkkibahlaaGreatDoor


namespace Go.Proofs.YtmilgbkkibahlaaGreatDoor
open Go.RowKit
set_option linter.unusedVariables false
set_option linter.unusedSimpArgs false

end Go.Proofs.YtmilgbkkibahlaaGreatDoor


namespace Go.Proofs.YtmilgbkkibahlaaGreatDoor
open Go.RowKit
set_option linter.unusedVariables false
set_option linter.unusedSimpArgs false

end Go.Proofs.YtmilgbkkibahlaaGreatDoor


namespace Go.Proofs.YtmilgbkkibahlaaGreatDoor
open Go.RowKit
set_option linter.unusedVariables false
set_option linter.unusedSimpArgs false

theorem okLeaf_parts {k : Int} {t x : List UInt8} {p : List (List UInt8)} {m : Nat} (h : okLeaf k t x p m = true) : (k = 5 → 2 ≤ p.length) ∧ p.length ≤ 8 ∧ (∀ y ∈ p, y.length ≤ 100) ∧ x.length ≤ 100 := by
  unfold okLeaf at h
  simp only [Bool.and_eq_true] at h
  obtain ⟨_, h⟩ := h
  split at h
  · rename_i hk
    simp only [Bool.and_eq_true, decide_eq_true_eq, List.isEmpty_iff] at h
    obtain ⟨h1, rfl⟩ := h
    exact ⟨fun e => by omega, by simp, by simp, h1⟩
  · split at h
    · simp only [Bool.and_eq_true, List.isEmpty_iff] at h
      obtain ⟨rfl, h1⟩ := h
      obtain ⟨⟨h2, h3⟩, h4, _⟩ := (okParts_iff p).1 h1
      exact ⟨fun _ => h2, h3, fun y hy => by obtain ⟨i, hi, rfl⟩ := List.getElem_of_mem hy; exact (h4 i hi).1, by simp⟩
    · split at h
      · rename_i h5 _
        simp only [Bool.and_eq_true, List.isEmpty_iff] at h
        obtain ⟨rfl, rfl⟩ := h
        exact ⟨fun e => absurd e h5, by simp, by simp, by simp⟩
      · cases h
theorem mayEv_kids {d : Nat} {k : Int} {t x : List UInt8} {p : List (List UInt8)} {l : List FT} (h : mayF (d + 1) (.mk k t x p l) = true) (hk : holdsC k = true) : l.all (mayF d) = true ∧ l.length ≤ 40 ∧ (k = 3 → l.length = 1) := by
  rw [mayFl_hold hk] at h
  simp only [Bool.and_eq_true] at h
  obtain ⟨⟨_, hc⟩, ha⟩ := h
  refine ⟨ha, ?_, ?_⟩
  · unfold kidsC at hc
    split at hc <;> simp at hc <;> omega
  · intro h3
    unfold kidsC at hc
    rw [if_pos h3] at hc
    simpa using hc
theorem mayEv_leaf {d : Nat} {k : Int} {t x : List UInt8} {p : List (List UInt8)} {l : List FT} (h : mayF (d + 1) (.mk k t x p l) = true) (hk : ¬ holdsC k = true) : okLeaf k t x p l.length = true := by
  have h' : (if holdsC k then t.isEmpty && x.isEmpty && p.isEmpty && kidsC k l.length && l.all (mayF d) else okLeaf k t x p l.length) = true := h
  rwa [if_neg hk] at h'
set_option maxRecDepth 100000 in
set_option maxHeartbeats 8000000 in
theorem truth_all : ∀ d : Nat, TruthIs d := by
  intro d
  induction d with
  | zero => intro f v L D va vn vc w hm; cases f; cases hm
  | succ d ih =>
    intro f v L D va vn vc w hm h hs hw hx hA
    obtain ⟨k, t, x, p, l⟩ := f
    obtain ⟨pa, pc, ka, kc, rfl, hwf, ht, hxl, hp, hl, hkids⟩ := h.parts
    obtain ⟨T, hT, hTl⟩ := strV_text t
    obtain ⟨X, hX, hXl⟩ := strV_text x
    rw [hT, hX]
    obtain ⟨n, hn⟩ : ∃ n, n = l.length := ⟨_, rfl⟩
    obtain ⟨m, hmm⟩ : ∃ m, m = p.length := ⟨_, rfl⟩
    rw [← hn, ← hmm]
    obtain ⟨W0, hW0⟩ : ∃ W, W = w.alloc (.cells #[.int .i64 k, .string T, .string X, .slice pa m pc, .slice ka n kc] 31) := ⟨_, rfl⟩
    obtain ⟨W1, hW1⟩ : ∃ W, W = W0.alloc (.cells #[.string D, .slice va vn vc] 26) := ⟨_, rfl⟩
    have hb0 : Below w.heap.size w W0 := by rw [hW0]; exact box5 w _ _ _ _ _
    have hb01 : Below W0.heap.size W0 W1 := by rw [hW1]; exact (Below.refl _ _).alloc (Nat.le_refl _) _
    have hb1 : Below w.heap.size w W1 := bthen hb0 hb01
    have hf0 : FlAt W0 w.heap.size (.int .i64 k) (.string T) (.string X) (.slice pa m pc) (.slice ka n kc) := by rw [hW0]; exact heap_alloc_new w _
    have hf : FlAt W1 w.heap.size (.int .i64 k) (.string T) (.string X) (.slice pa m pc) (.slice ka n kc) := fl_below hf0 hb01 (fl_lt hf0)
    obtain ⟨eb, heb⟩ : ∃ b, b = w.heap.size + 1 := ⟨_, rfl⟩
    have hsz : W0.heap.size = eb := by rw [heb, hW0]; simp only [World.alloc, Array.size_push]
    have he : EnAt W1 eb D (.slice va vn vc) := by rw [← hsz, hW1]; exact heap_alloc_new W0 _
    have HW0 := Lib.hid hW0.symm
    have HW1 := Lib.hid hW1.symm
    have HEb := Lib.hid heb.symm
    have HB1 := Lib.hid hb1
    have hw1 := hw.below hb1
    have hx1 := hx.below hb1
    have hA1 : IsA W1.heap.size W1 L (.slice va vn vc) := hA.below hb1 hb1.size
    have hk1 : IsFls (Lt W1) W1 l ka 0 := hkids.below hb1
    have hp1 : IsTo (Lt W1) W1 p (.slice pa m pc) := by rw [hmm]; exact hp.imp (fun b h => Nat.lt_of_lt_of_le h hb1.size) (fun b o h => hb1.cell (p := ⟨b, o, none⟩) h)
    obtain ⟨d0, d1, d2, d3, d4⟩ := fl_cells hf
    obtain ⟨e0, e1⟩ := en_cells he
    obtain ⟨R, hR⟩ : ∃ R, R = evF L (.mk k t x p l) := ⟨_, rfl⟩
    rw [← hR]
    rw [evF] at hR
    by_cases k1 : k = 1
    · have t1 : ((k : Int) == 1) = true := by simp [k1]
      obtain ⟨ha, h40, _⟩ := mayEv_kids hm (by rw [k1]; rfl)
      have hta := tallied_any d ih l ha (by omega) L D ka va n kc vn vc hn hs W1 hw1 hx1 hk1 hA1
      have HR2 : Hid (R = firstE 0 2 1 (evFs L l)) := Lib.hid (by rw [hR, if_pos k1])
      have hfi : ∀ (W : World) (b c0 c1 c2 : Nat), TaAt W b c0 c1 c2 → CntAt (evFs L l) c0 c1 c2 → Calls Tryz.prog 24 #[.pointer (some ⟨b, 0, none⟩), .int .i64 0, .int .i64 2, .int .i64 1] W fun e w' => e = .returned (.int .i64 (R : Nat)) ∧ Below W.heap.size W w' := fun W b c0 c1 c2 hTA hC => by
        have hh := firstEv_any b c0 c1 c2 0 2 1 (by omega) (by omega) W hTA
        rw [cnt_first hC 0 2 1 (by omega) (by omega), ← HR2.out] at hh
        exact hh
      have HTa := Lib.hid hta
      have HFi := Lib.hid hfi
      clear hW0 hW1 hb0 hb01 hb1 hf0 hf heb hsz he hR hs hw hx hp h hp1 hA hA1 hw1 hx1 hk1 hkids hm ha h40 hta hfi hT hX hTl hXl hn hmm ht hxl hl ih k1 hwf
      go_enter Tryz.func19, Tryz.ntmps19
      go_upto_region 1 with (fail)
      rw [HW0.out, HW1.out, HEb.out]
      go_wp2_with (first
        | (go_at_call 23; refine (HTa.out).mono ?_; rintro e w2 ⟨c0, c1, c2, rfl, hta, hcn⟩; have HTA := Lib.hid hta; have HCn := Lib.hid hcn; clear hta hcn)
        | (go_at_call 24; refine (HFi.out _ _ c0 c1 c2 HTA.out.ta HCn.out).mono ?_; rintro e w3 ⟨rfl, hb3⟩; have HB3 := Lib.hid (bthen (bthen HB1.out HTA.out.bel) hb3); clear hb3))
      go_ret
      exact ⟨rfl, HB3.out⟩
    · have t1 : ((k : Int) == 1) = false := by simp; omega
      by_cases k2 : k = 2
      · have t2 : ((k : Int) == 2) = true := by simp [k2]
        obtain ⟨ha, h40, _⟩ := mayEv_kids hm (by rw [k2]; rfl)
        have hta := tallied_any d ih l ha (by omega) L D ka va n kc vn vc hn hs W1 hw1 hx1 hk1 hA1
        have HR2 : Hid (R = firstE 1 2 0 (evFs L l)) := Lib.hid (by rw [hR, if_neg k1, if_pos k2])
        have hfi : ∀ (W : World) (b c0 c1 c2 : Nat), TaAt W b c0 c1 c2 → CntAt (evFs L l) c0 c1 c2 → Calls Tryz.prog 24 #[.pointer (some ⟨b, 0, none⟩), .int .i64 1, .int .i64 2, .int .i64 0] W fun e w' => e = .returned (.int .i64 (R : Nat)) ∧ Below W.heap.size W w' := fun W b c0 c1 c2 hTA hC => by
          have hh := firstEv_any b c0 c1 c2 1 2 0 (by omega) (by omega) W hTA
          rw [cnt_first hC 1 2 0 (by omega) (by omega), ← HR2.out] at hh
          exact hh
        have HTa := Lib.hid hta
        have HFi := Lib.hid hfi
        clear hW0 hW1 hb0 hb01 hb1 hf0 hf heb hsz he hR hs hw hx hp h hp1 hA hA1 hw1 hx1 hk1 hkids hm ha h40 hta hfi hT hX hTl hXl hn hmm ht hxl hl ih k1 k2 hwf
        go_enter Tryz.func19, Tryz.ntmps19
        go_upto_region 1 with (fail)
        rw [HW0.out, HW1.out, HEb.out]
        go_wp2_with (first
          | (go_at_call 23; refine (HTa.out).mono ?_; rintro e w2 ⟨c0, c1, c2, rfl, hta, hcn⟩; have HTA := Lib.hid hta; have HCn := Lib.hid hcn; clear hta hcn)
          | (go_at_call 24; refine (HFi.out _ _ c0 c1 c2 HTA.out.ta HCn.out).mono ?_; rintro e w3 ⟨rfl, hb3⟩; have HB3 := Lib.hid (bthen (bthen HB1.out HTA.out.bel) hb3); clear hb3))
        go_ret
        exact ⟨rfl, HB3.out⟩
      · have t2 : ((k : Int) == 2) = false := by simp; omega
        by_cases k3 : k = 3
        · have t3 : ((k : Int) == 3) = true := by simp [k3]
          obtain ⟨ha, _, hl1⟩ := mayEv_kids hm (by rw [k3]; rfl)
          obtain ⟨g, rfl⟩ : ∃ g, l = [g] := List.length_eq_one_iff.1 (hl1 k3)
          obtain rfl : n = 1 := by rw [hn]; rfl
          obtain ⟨b, off, v0, v1, v2, v3, v4, rfl, hb, q0, q1, q2, q3, q4, hg⟩ := hk1.get [g] _ 0 0 g rfl
          rw [show off + (0 + 0) * 5 = off from by omega] at q0 q1 q2 q3 q4
          obtain ⟨k', T', X', pa', pn', pc', ka', kn', kc', e⟩ := hg.shape
          simp only [Value.agg.injEq, Array.mk.injEq, List.cons.injEq, and_true] at e
          obtain ⟨rfl, rfl, rfl, rfl, rfl⟩ := e
          have hgm : mayF d g = true := by simpa using ha
          have hr := evF_lt L g
          obtain ⟨r, hrr⟩ : ∃ r, r = evF L g := ⟨_, rfl⟩
          have hcall : ∀ W, SamB W1 W → Calls Tryz.prog 19 #[.agg #[.int .i64 k', .string T', .string X', .slice pa' pn' pc', .slice ka' kn' kc'], .agg #[.string D, .slice va vn vc]] W fun e w' => e = .returned (.int .i64 (r : Int)) ∧ Below W.heap.size W w' := fun W hW => by
            rw [hrr]
            exact ih g _ L D va vn vc W hgm (hg.below hW) hs (hw1.below hW) (hx1.below hW) (hA1.below hW (Below.size hW))
          have hnot : ∀ W, SamB W1 W → Calls Tryz.prog 25 #[.int .i64 (r : Int)] W fun e w' => e = .returned (.int .i64 (flipE r : Nat)) ∧ Below W.heap.size W w' := fun W _ => (notEv_any r (by rw [hrr]; exact hr) W).mono (fun e w' h => ⟨h.1, by rw [← h.2]; exact Below.refl _ _⟩)
          have hE : ∀ W, SamB W1 W → W.cell? ⟨w.heap.size, 4, none⟩ = some (.slice (some ⟨b, off, none⟩) 1 kc) ∧ W.cell? ⟨eb, 0, none⟩ = some (.string D) ∧ W.cell? ⟨eb, 1, none⟩ = some (.slice va vn vc) ∧ W.cell? ⟨b, off, none⟩ = some (.int .i64 k') ∧ W.cell? ⟨b, off + 1, none⟩ = some (.string T') ∧ W.cell? ⟨b, off + 2, none⟩ = some (.string X') ∧ W.cell? ⟨b, off + 3, none⟩ = some (.slice pa' pn' pc') ∧ W.cell? ⟨b, off + 4, none⟩ = some (.slice ka' kn' kc') ∧ SamB W1 W := fun W hW => by
            have a4 := (fl_cells (fl_below hf hW (fl_lt hf))).2.2.2.2
            obtain ⟨z0, z1⟩ := en_cells (en_below he hW (en_lt he))
            exact ⟨a4, z0, z1, (Below.cell hW (p := ⟨b, off, none⟩) hb).trans q0, (Below.cell hW (p := ⟨b, off + 1, none⟩) hb).trans q1, (Below.cell hW (p := ⟨b, off + 2, none⟩) hb).trans q2, (Below.cell hW (p := ⟨b, off + 3, none⟩) hb).trans q3, (Below.cell hW (p := ⟨b, off + 4, none⟩) hb).trans q4, hW⟩
          have HE := Lib.hid hE
          have HCl := Lib.hid hcall
          have HNt := Lib.hid hnot
          have HR2 : Hid (R = flipE r) := Lib.hid (by rw [hR, if_neg k1, if_neg k2, if_pos k3, hrr]; rfl)
          have hst5 := hE W1 (Below.refl _ _)
          have hst6 := hE W1.drew (Below.drew (Below.refl _ _))
          clear hW0 hW1 hb0 hb01 hb1 hf0 hf heb hsz he hR hs hw hx hp h hp1 hA hA1 hw1 hx1 hk1 hkids hm ha hl1 hT hX hTl hXl hn hmm ht hxl hl ih k1 k2 k3 hwf hE hcall hnot hgm hr hrr hg hb
          go_enter Tryz.func19, Tryz.ntmps19
          go_upto_region 1 with (fail)
          rw [HW0.out, HW1.out, HEb.out]
          go_upto_region 7 with (fail)
          go_region_held3 (fun W => W.cell? ⟨w.heap.size, 4, none⟩ = some (.slice (some ⟨b, off, none⟩) 1 kc) ∧ W.cell? ⟨eb, 0, none⟩ = some (.string D) ∧ W.cell? ⟨eb, 1, none⟩ = some (.slice va vn vc) ∧ W.cell? ⟨b, off, none⟩ = some (.int .i64 k') ∧ W.cell? ⟨b, off + 1, none⟩ = some (.string T') ∧ W.cell? ⟨b, off + 2, none⟩ = some (.string X') ∧ W.cell? ⟨b, off + 3, none⟩ = some (.slice pa' pn' pc') ∧ W.cell? ⟨b, off + 4, none⟩ = some (.slice ka' kn' kc') ∧ SamB W1 W)
            (first | (with_reducible exact hst5) | (with_reducible exact hst6) | (go_split_ands; exact HE.out _ (SamB.go (by assumption) hbx)))
            (first
              | (go_at_call 19; go_split_ands; (with_reducible refine (HCl.out _ (by assumption)).mono ?_); rintro e wx ⟨rfl, hbx⟩)
              | (go_at_call 25; go_split_ands; (with_reducible refine (HNt.out _ (by assumption)).mono ?_); rintro e wy ⟨rfl, hbx⟩))
          all_goals
            go_split_ands
            have hT : SamB W1 wy := by assumption
            go_wp2
            go_ret
            exact ⟨by rw [HR2.out]; rfl, bthen HB1.out hT⟩
        · have t3 : ((k : Int) == 3) = false := by simp; omega
          have hnh : ¬ holdsC k = true := by unfold holdsC; simp [k1, k2, k3]
          obtain ⟨h5, h8, hpl, hx100⟩ := okLeaf_parts (mayEv_leaf hm hnh)
          have hlf := leafEv_any k T X D p L pa ka va m pc n kc vn vc (by rw [← bytes_len, hXl]; omega) hmm h5 (by omega) (fun y hy => by have := hpl y hy; omega) hs W1 hw1 hx1 hp1 hA1
          rw [hTl, hXl] at hlf
          have HLf := Lib.hid hlf
          have HR2 : Hid (leafE L k t x p = R) := Lib.hid (by rw [hR, if_neg k1, if_neg k2, if_neg k3])
          rw [HR2.out] at HLf
          clear hW0 hW1 hb0 hb01 hb1 hf0 hf heb hsz he hR hs hw hx hp h hp1 hA hA1 hw1 hx1 hk1 hkids hm hT hX hTl hXl hn hmm ht hxl hl ih k1 k2 k3 hwf h5 h8 hpl hx100 hlf hnh
          go_enter Tryz.func19, Tryz.ntmps19
          go_upto_region 1 with (fail)
          rw [HW0.out, HW1.out, HEb.out]
          go_wp2_with (go_at_call 26; refine (HLf.out).mono ?_; rintro e w2 ⟨rfl, hb2⟩; have HB2 := Lib.hid (bthen HB1.out hb2); clear hb2)
          go_ret
          exact ⟨rfl, HB2.out⟩
set_option maxRecDepth 100000 in
set_option maxHeartbeats 4000000 in
theorem evalP_any (f : FT) (v : Value) (L : List AT) (D : ByteArray) (va : Option Addr) (vn vc : Nat) (w : World) (h : IsFl (Lt w) w f v) (hs : smallA L) (hw : LaidW w) (hx : LaidX w) (hA : IsA w.heap.size w L (.slice va vn vc)) :
    Calls Tryz.prog 11 #[v, .agg #[.string D, .slice va vn vc]] w fun e w' => e = .returned (.int .i64 (evalD L f : Nat)) ∧ Below w.heap.size w w' := by
  obtain ⟨k, T, X, pa, m, pc, ka, n, kc, rfl⟩ := h.shape
  obtain ⟨W0, hW0⟩ : ∃ W, W = w.alloc (.cells #[.int .i64 k, .string T, .string X, .slice pa m pc, .slice ka n kc] 31) := ⟨_, rfl⟩
  obtain ⟨W1, hW1⟩ : ∃ W, W = W0.alloc (.cells #[.string D, .slice va vn vc] 26) := ⟨_, rfl⟩
  have hb0 : Below w.heap.size w W0 := by rw [hW0]; exact box5 w _ _ _ _ _
  have hb01 : Below W0.heap.size W0 W1 := by rw [hW1]; exact (Below.refl _ _).alloc (Nat.le_refl _) _
  have hb1 : Below w.heap.size w W1 := bthen hb0 hb01
  have hf0 : FlAt W0 w.heap.size (.int .i64 k) (.string T) (.string X) (.slice pa m pc) (.slice ka n kc) := by rw [hW0]; exact heap_alloc_new w _
  have hf : FlAt W1 w.heap.size (.int .i64 k) (.string T) (.string X) (.slice pa m pc) (.slice ka n kc) := fl_below hf0 hb01 (fl_lt hf0)
  obtain ⟨eb, heb⟩ : ∃ b, b = w.heap.size + 1 := ⟨_, rfl⟩
  have hsz : W0.heap.size = eb := by rw [heb, hW0]; simp only [World.alloc, Array.size_push]
  have he : EnAt W1 eb D (.slice va vn vc) := by rw [← hsz, hW1]; exact heap_alloc_new W0 _
  have HW0 := Lib.hid hW0.symm
  have HW1 := Lib.hid hW1.symm
  have HEb := Lib.hid heb.symm
  have HB1 := Lib.hid hb1
  have hfl1 : IsFl (Lt W1) W1 f (.agg #[.int .i64 k, .string T, .string X, .slice pa m pc, .slice ka n kc]) := h.below hb1
  have hmy := mayTop_any f _ W1 hfl1
  obtain ⟨q, hq⟩ : ∃ q, q = mayF 13 f := ⟨_, rfl⟩
  rw [← hq] at hmy
  have HMy := Lib.hid hmy
  have HTr := Lib.hid (fun (hm : mayF 13 f = true) (W : World) (hW : Below W1.heap.size W1 W) => truth_all 13 f _ L D va vn vc W hm (hfl1.below hW) hs (hw.below (bthen hb1 hW)) (hx.below (bthen hb1 hW)) (hA.below (bthen hb1 hW) (bthen hb1 hW).size))
  have HFl := Lib.hid hf
  have HEn := Lib.hid he
  obtain ⟨d0, d1, d2, d3, d4⟩ := fl_cells hf
  obtain ⟨R, hR⟩ : ∃ R, R = evalD L f := ⟨_, rfl⟩
  rw [← hR]
  unfold evalD at hR
  rw [← hq] at hR
  have HR := Lib.hid hR
  have HQ := Lib.hid hq
  clear hW0 hW1 hb0 hb01 hb1 hf0 hf heb hsz he hfl1 hmy hq hR h hs hw hx hA
  cases q with
  | false =>
    go_enter Tryz.func11, Tryz.ntmps11
    go_upto_region 1 with (fail)
    rw [HW0.out, HW1.out, HEb.out]
    go_wp2_with (go_at_call 18; refine (HMy.out).mono ?_; rintro e w2 ⟨rfl, hb2⟩; have HB2 := Lib.hid (bthen HB1.out hb2); clear hb2)
    go_ret
    exact ⟨by rw [HR.out]; rfl, HB2.out⟩
  | true =>
    have HR2 : Hid (evF L f = R) := Lib.hid (by rw [HR.out, if_pos rfl])
    go_enter Tryz.func11, Tryz.ntmps11
    go_upto_region 1 with (fail)
    rw [HW0.out, HW1.out, HEb.out]
    go_wp2_with (first
      | (go_at_call 18; refine (HMy.out).mono ?_; rintro e w2 ⟨rfl, hb2⟩; have HX2 := Lib.hid hb2; have HB2 := Lib.hid (bthen HB1.out hb2); (obtain ⟨g0, g1, g2, g3, g4⟩ := fl_cells (fl_below HFl.out hb2 (fl_lt HFl.out))); (obtain ⟨e0, e1⟩ := en_cells (en_below HEn.out hb2 (en_lt HEn.out))); clear hb2)
      | (go_at_call 19; refine (HTr.out HQ.out.symm _ HX2.out).mono ?_; rintro e w3 ⟨rfl, hb3⟩; have HB3 := Lib.hid (bthen HB2.out hb3); clear hb3))
    go_ret
    exact ⟨by rw [← HR2.out]; rfl, HB3.out⟩
end Go.Proofs.YtmilgbkkibahlaaGreatDoor


namespace Go.Proofs.YtmilgbkkibahlaaGreatDoor
open Go.RowKit
set_option linter.unusedVariables false
set_option linter.unusedSimpArgs false

end Go.Proofs.YtmilgbkkibahlaaGreatDoor


namespace Go.Proofs.YtmilgbkkibahlaaGreatDoor
open Go.RowKit
set_option linter.unusedVariables false

def perL (n : List UInt8) : List AT := [([99, 110], [n]), ([111, 98, 106, 101, 99, 116, 99, 108, 97, 115, 115], [[112, 101, 114, 115, 111, 110]]), ([115, 110], [[115]])]
def perD (n : List UInt8) : List UInt8 := [99, 110, 61] ++ n ++ [44, 111, 61, 120]

structure PerAt (w : World) (g : Nat) (N : ByteArray) : Prop where
  b1 : w.heap[g - 3]? = some (.cells #[.string N] 9 (0, 0))
  b2 : w.heap[g - 2]? = some (.cells #[.string ⟨#[112, 101, 114, 115, 111, 110]⟩] 9 (0, 0))
  b3 : w.heap[g - 1]? = some (.cells #[.string ⟨#[115]⟩] 9 (0, 0))
  b4 : w.heap[g]? = some (.cells #[.string ⟨#[99, 110]⟩, .slice (some ⟨g - 3, 0, none⟩) 1 1, .string ⟨#[111, 98, 106, 101, 99, 116, 99, 108, 97, 115, 115]⟩, .slice (some ⟨g - 2, 0, none⟩) 1 1, .string ⟨#[115, 110]⟩, .slice (some ⟨g - 1, 0, none⟩) 1 1] 42 (0, 0))
  lt : g < w.heap.size
theorem PerAt.below {w w' : World} {g n : Nat} {N : ByteArray} (h : PerAt w g N) (hb : Below n w w') (hn : g < n) : PerAt w' g N :=
  ⟨(hb.block _ (by omega)).trans h.b1, (hb.block _ (by omega)).trans h.b2, (hb.block _ (by omega)).trans h.b3, (hb.block _ hn).trans h.b4, Nat.lt_of_lt_of_le h.lt hb.size⟩
theorem isT_block {w : World} {b n0 : Nat} {X : ByteArray} {e : TypeId} (h : w.heap[b]? = some (.cells #[.string X] e (0, 0))) (hn : b < n0) : IsT n0 w [X.data.toList] (.slice (some ⟨b, 0, none⟩) 1 1) :=
  ⟨_, _, rfl, by unfold maxLen; simp, fun j hj => by
    have : j = 0 := by simp at hj; omega
    subst this
    refine ⟨b, 0, rfl, hn, ?_⟩
    rw [show [X.data.toList][0] = X.data.toList from rfl, strV_whole]
    simp only [World.cell?, h]; rfl⟩
theorem PerAt.isA {w : World} {g : Nat} {N : ByteArray} (h : PerAt w g N) : IsA w.heap.size w (perL N.data.toList) (.slice (some ⟨g, 0, none⟩) 3 3) := by
  have hg := h.lt
  refine ⟨_, _, rfl, by unfold maxLen perL; simp, fun j hj => ?_⟩
  match j, hj with
  | 0, _ => exact ⟨g, 0, _, rfl, hg, by simp only [World.cell?, h.b4]; rfl, by simp only [World.cell?, h.b4]; rfl, isT_block h.b1 (by omega)⟩
  | 1, _ => exact ⟨g, 0, _, rfl, hg, by simp only [World.cell?, h.b4]; rfl, by simp only [World.cell?, h.b4]; rfl, isT_block h.b2 (by omega)⟩
  | 2, _ => exact ⟨g, 0, _, rfl, hg, by simp only [World.cell?, h.b4]; rfl, by simp only [World.cell?, h.b4]; rfl, isT_block h.b3 (by omega)⟩

theorem PerAt.cells {w : World} {g : Nat} {N : ByteArray} (h : PerAt w g N) : w.cell? ⟨g, 2, none⟩ = some (.string ⟨#[111, 98, 106, 101, 99, 116, 99, 108, 97, 115, 115]⟩) ∧ w.cell? ⟨g, 3, none⟩ = some (.slice (some ⟨g - 2, 0, none⟩) 1 1) ∧ w.cell? ⟨g, 4, none⟩ = some (.string ⟨#[115, 110]⟩) ∧ w.cell? ⟨g, 5, none⟩ = some (.slice (some ⟨g - 1, 0, none⟩) 1 1) :=
  ⟨by simp only [World.cell?, h.b4]; rfl, by simp only [World.cell?, h.b4]; rfl, by simp only [World.cell?, h.b4]; rfl, by simp only [World.cell?, h.b4]; rfl⟩
theorem per_blocks (w : World) (N : ByteArray) (o : Obj) : PerAt (((((w.alloc o).alloc (.cells #[.string N] 9)).alloc (.cells #[.string ⟨#[112, 101, 114, 115, 111, 110]⟩] 9)).alloc (.cells #[.string ⟨#[115]⟩] 9)).alloc (.cells #[.string ⟨#[99, 110]⟩, .slice (some ⟨w.heap.size + 1, 0, none⟩) 1 1, .string ⟨#[111, 98, 106, 101, 99, 116, 99, 108, 97, 115, 115]⟩, .slice (some ⟨w.heap.size + 1 + 1, 0, none⟩) 1 1, .string ⟨#[115, 110]⟩, .slice (some ⟨w.heap.size + 1 + 1 + 1, 0, none⟩) 1 1] 42)) (w.heap.size + 4) N := by
  have s1 : (w.alloc o).heap.size = w.heap.size + 1 := by simp
  have e1 := heap_alloc_new (w.alloc o) (.cells #[.string N] 9)
  rw [s1] at e1
  generalize w.alloc o = W1 at s1 e1 ⊢
  have s2 : (W1.alloc (.cells #[.string N] 9)).heap.size = w.heap.size + 2 := by simp; omega
  have e2 := heap_alloc_new (W1.alloc (.cells #[.string N] 9)) (.cells #[.string ⟨#[112, 101, 114, 115, 111, 110]⟩] 9)
  rw [s2] at e2
  generalize W1.alloc (.cells #[.string N] 9) = W2 at s2 e1 e2 ⊢
  have s3 : (W2.alloc (.cells #[.string ⟨#[112, 101, 114, 115, 111, 110]⟩] 9)).heap.size = w.heap.size + 3 := by simp; omega
  have f1 := (heap_alloc_old W2 (.cells #[.string ⟨#[112, 101, 114, 115, 111, 110]⟩] 9) (show w.heap.size + 1 < W2.heap.size by omega)).trans e1
  have e3 := heap_alloc_new (W2.alloc (.cells #[.string ⟨#[112, 101, 114, 115, 111, 110]⟩] 9)) (.cells #[.string ⟨#[115]⟩] 9)
  rw [s3] at e3
  generalize W2.alloc (.cells #[.string ⟨#[112, 101, 114, 115, 111, 110]⟩] 9) = W3 at s3 e2 e3 f1 ⊢
  have s4 : (W3.alloc (.cells #[.string ⟨#[115]⟩] 9)).heap.size = w.heap.size + 4 := by simp; omega
  have g1 := (heap_alloc_old W3 (.cells #[.string ⟨#[115]⟩] 9) (show w.heap.size + 1 < W3.heap.size by omega)).trans f1
  have g2 := (heap_alloc_old W3 (.cells #[.string ⟨#[115]⟩] 9) (show w.heap.size + 2 < W3.heap.size by omega)).trans e2
  generalize W3.alloc (.cells #[.string ⟨#[115]⟩] 9) = W4 at s4 e3 g1 g2 ⊢
  generalize hO : Obj.cells #[.string ⟨#[99, 110]⟩, .slice (some ⟨w.heap.size + 1, 0, none⟩) 1 1, .string ⟨#[111, 98, 106, 101, 99, 116, 99, 108, 97, 115, 115]⟩, .slice (some ⟨w.heap.size + 1 + 1, 0, none⟩) 1 1, .string ⟨#[115, 110]⟩, .slice (some ⟨w.heap.size + 1 + 1 + 1, 0, none⟩) 1 1] 42 = O
  have e4 := heap_alloc_new W4 O
  rw [s4] at e4
  have k1 := (heap_alloc_old W4 O (show w.heap.size + 1 < W4.heap.size by omega)).trans g1
  have k2 := (heap_alloc_old W4 O (show w.heap.size + 2 < W4.heap.size by omega)).trans g2
  have k3 := (heap_alloc_old W4 O (show w.heap.size + 3 < W4.heap.size by omega)).trans e3
  exact ⟨k1, k2, k3, by rw [e4, ← hO]; rfl, by simp; omega⟩

set_option maxRecDepth 100000 in
set_option maxHeartbeats 4000000 in
theorem person_any (N : ByteArray) (hN : N.size ≤ 1000) (w : World) : Calls Tryz.prog 15 #[.string N] w fun e w' => ∃ D g, e = .returned (.agg #[.string D, .slice (some ⟨g, 0, none⟩) 3 3]) ∧ D.data.toList = perD N.data.toList ∧ PerAt w' g N ∧ w.heap.size + 4 = g ∧ Below w.heap.size w w' := by
  obtain ⟨T, hT⟩ : ∃ T, (⟨#[99, 110, 61]⟩ : ByteArray) ++ N = T := ⟨_, rfl⟩
  obtain ⟨D, hD⟩ : ∃ D, T ++ (⟨#[44, 111, 61, 120]⟩ : ByteArray) = D := ⟨_, rfl⟩
  have hTs : T.size = 3 + N.size := by rw [← hT, ← bytes_len, app_list, List.length_append, bytes_len, bytes_len]; rfl
  have hDl : D.data.toList = perD N.data.toList := by rw [← hD, ← hT, app_list, app_list]; rfl
  have q1 : 3 + N.size ≤ 9223372036854775807 := by omega
  have q2 : T.size + 4 ≤ 9223372036854775807 := by omega
  have HDl := Lib.hid hDl
  have HP := Lib.hid (fun o => per_blocks w N o)
  have HB := Lib.hid (fun o => ((((((Below.refl w.heap.size w).alloc (Nat.le_refl _) o).alloc (by simp) (.cells #[.string N] 9)).alloc (by simp; omega) (.cells #[.string ⟨#[112, 101, 114, 115, 111, 110]⟩] 9)).alloc (by simp; omega) (.cells #[.string ⟨#[115]⟩] 9)).alloc (by simp; omega) (.cells #[.string ⟨#[99, 110]⟩, .slice (some ⟨w.heap.size + 1, 0, none⟩) 1 1, .string ⟨#[111, 98, 106, 101, 99, 116, 99, 108, 97, 115, 115]⟩, .slice (some ⟨w.heap.size + 1 + 1, 0, none⟩) 1 1, .string ⟨#[115, 110]⟩, .slice (some ⟨w.heap.size + 1 + 1 + 1, 0, none⟩) 1 1] 42)))
  clear hTs hDl
  go_enter Tryz.func15, Tryz.ntmps15
  go_wp2
  refine bodyPost_ret (v := .agg #[.string D, .slice (some ⟨w.heap.size + 4, 0, none⟩) 3 3]) (by simp [results, Tryz.results15, go_sem]) rfl ⟨D, w.heap.size + 4, rfl, HDl.out, ?_, rfl, ?_⟩
  · exact HP.out _
  · exact HB.out _

end Go.Proofs.YtmilgbkkibahlaaGreatDoor


namespace Go.Proofs.YtmilgbkkibahlaaGreatDoor
set_option linter.unusedVariables false
set_option linter.unusedSimpArgs false

def numOk (c : UInt8) : Bool := !(c == 45 || (decide (48 ≤ c.toNat) && decide (c.toNat ≤ 57))) || (lowC c == c && decide (c.toNat ≠ 32))
def ordL (m : Int) : List AT := [([117, 105, 100, 110, 117, 109, 98, 101, 114], [Lib.itoa m]), ([99, 110], [99 :: Lib.itoa m])]
abbrev uidN : List UInt8 := [117, 105, 100, 78, 117, 109, 98, 101, 114]
def bN (b : Bool) : Nat := if b then 1 else 0
theorem awE_1 : evalD [] (.mk 1 [] [] [] []) = 1 := by decide +kernel
theorem awE_2 : evalD (perL [97, 110, 110]) (.mk 4 [99, 110] [65, 78, 78] [] []) = 1 := by decide +kernel
end Go.Proofs.YtmilgbkkibahlaaGreatDoor

