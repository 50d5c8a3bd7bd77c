/- Lists in one another; no program. -/
import Derived.Test.YtiagcegclgallaaCanon
namespace Go.Proofs.Ytiagcegclgallaa
set_option linter.unusedVariables false

/-- t within i lists. -/
def nest : Nat → T → T
  | 0, t => t
  | i + 1, t => .mk 48 ⟨#[]⟩ [nest i t]

/-- What stands within them all. -/
def core (leaf : Bool) : T := if leaf then .mk 4 ⟨#[120]⟩ [] else .mk 48 ⟨#[]⟩ []
def coreN (leaf : Bool) : Nat := if leaf then 3 else 2

theorem enc_core (leaf : Bool) : enc (core leaf) = if leaf then [4, 1, 120] else [48, 0] := by cases leaf <;> decide +kernel

theorem enc_nest_succ (i : Nat) (t : T) (h : (enc (nest i t)).length < 128) : enc (nest (i + 1) t) = 48 :: byteAt ((enc (nest i t)).length : Nat) 0 :: enc (nest i t) := by
  show enc (.mk 48 ⟨#[]⟩ [nest i t]) = _
  rw [enc_eq]
  have hb : body (.mk 48 ⟨#[]⟩ [nest i t]) = enc (nest i t) := by show _ ++ encs [nest i t] = _; rw [encs_cons]; simp [encs, T.s]
  rw [hb]
  show headB 48 _ ++ _ = _
  unfold headB lenB
  rw [if_pos h, show byteAt 48 0 = 48 from by decide]
  rfl

theorem enc_nest_len (leaf : Bool) : ∀ i : Nat, i ≤ 16 → (enc (nest i (core leaf))).length = coreN leaf + 2 * i
  | 0, _ => by show (enc (core leaf)).length = _; rw [enc_core]; cases leaf <;> rfl
  | i + 1, h => by
    have ih := enc_nest_len leaf i (by omega)
    have hc : coreN leaf ≤ 3 := by cases leaf <;> decide
    rw [enc_nest_succ i _ (by omega)]
    simp [ih]; omega

theorem nest_ok (leaf : Bool) : ∀ i d : Nat, i ≤ 16 → okT d (nest i (core leaf)) = decide (i + (if leaf then 0 else 1) ≤ d)
  | 0, d, _ => by
    cases leaf
    · show okT d (.mk 48 ⟨#[]⟩ []) = _
      simp [okT, mayTagB, isListB, okTs, encs]
      exact fun _ => rfl
    · show okT d (.mk 4 ⟨#[120]⟩ []) = _
      simp [okT, mayTagB, isListB]
      decide
  | i + 1, d, h => by
    have ih := nest_ok leaf i (d - 1) (by omega)
    have hl := enc_nest_len leaf i (by omega)
    have hc : coreN leaf ≤ 3 := by cases leaf <;> decide
    show okT d (.mk 48 ⟨#[]⟩ [nest i (core leaf)]) = _
    have he : (encs [nest i (core leaf)]).length = coreN leaf + 2 * i := by rw [encs_cons]; simp [encs, hl]
    simp only [okT, okTs, ih, he]
    have h1 : mayTagB 48 = true := by decide
    have h2 : isListB 48 = true := by decide
    have h3 : decide ((⟨#[]⟩ : ByteArray).size = 0) = true := by decide
    rw [h1, h2, h3]
    have h4 : decide (coreN leaf + 2 * i ≤ 1048576) = true := by simp; omega
    simp only [h4, if_true, Bool.true_and, Bool.and_true]
    by_cases hd : 1 ≤ d
    · have : decide (1 ≤ d) = true := by simpa using hd
      rw [this, Bool.true_and, decide_eq_decide]; omega
    · have : decide (1 ≤ d) = false := by simpa using hd
      rw [this, Bool.false_and]
      symm; simp; omega

/-- A list of so many bytes, as they stand. -/
theorem dec_list_bytes (d : Nat) (b : List UInt8) (h : b.length < 128) : dec d (48 :: byteAt (b.length : Nat) 0 :: b) = match d with
    | 0 => .error 5
    | d' + 1 => match decsWith (dec d') b.length b with
      | none => .error 5
      | some ts => .ok (.mk 48 ⟨#[]⟩ ts, 2 + b.length) := by
  have hby := byteAt_small (n := (b.length : Int)) (by omega) (by omega)
  have hL : lenD (byteAt (b.length : Nat) 0 :: b) = (((b.length : Nat) : Int), 0, 1) := by
    generalize byteAt ((b.length : Nat) : Int) 0 = f at hby ⊢
    rw [lenD_cons2, if_pos (by omega), hby]
  have hT : tagD (48 :: byteAt (b.length : Nat) 0 :: b) = (48, 0, 1) := rfl
  have e1 : ¬ (tagD (48 :: byteAt (b.length : Nat) 0 :: b)).2.1 ≠ 0 := by rw [hT]; simp
  have e2 : ¬ (lenD ((48 :: byteAt (b.length : Nat) 0 :: b).drop 1)).2.1 ≠ 0 := by rw [List.drop_one, List.tail_cons, hL]; simp
  have e3 : (lenD ((48 :: byteAt (b.length : Nat) 0 :: b).drop 1)).1.toNat = b.length := by rw [List.drop_one, List.tail_cons, hL]; simp
  have e4 : 1 = (lenD ((48 :: byteAt (b.length : Nat) 0 :: b).drop 1)).2.2 := by rw [List.drop_one, List.tail_cons, hL]
  have e5 : ¬ (48 :: byteAt (b.length : Nat) 0 :: b).length < 1 + 1 + b.length := by simp; omega
  cases d with
  | zero => exact dec_list0 _ b.length 1 e1 e2 e3 e4 e5 (by rw [hT]; decide)
  | succ d' =>
    rw [dec_listS d' _ b.length 1 e1 e2 e3 e4 e5 (by rw [hT]; decide), hT]
    have : ((48 :: byteAt (b.length : Nat) 0 :: b).drop (1 + 1)).take b.length = b := by simp
    rw [this]
    show _ = (match decsWith (dec d') b.length b with | none => (Except.error 5 : Except Int (T × Nat)) | some ts => .ok (.mk 48 ⟨#[]⟩ ts, 2 + b.length))
    generalize decsWith (dec d') b.length b = r
    cases r with
    | none => rfl
    | some ts => simp

theorem dec_nest_deep (leaf : Bool) : ∀ i d : Nat, i ≤ 16 → d < i + (if leaf then 0 else 1) → dec d (enc (nest i (core leaf))) = .error 5
  | 0, d, _, h => by
    cases leaf
    · have hd : d = 0 := by simp at h; omega
      subst hd
      show dec 0 (enc (core false)) = _
      rw [enc_core]
      exact dec_list_bytes 0 [] (by decide)
    · simp at h
  | i + 1, d, hi, h => by
    have hl := enc_nest_len leaf i (by omega)
    have hc : coreN leaf ≤ 3 := by cases leaf <;> decide
    have hc2 : 2 ≤ coreN leaf := by cases leaf <;> decide
    rw [enc_nest_succ i _ (by omega), dec_list_bytes d _ (by omega)]
    cases d with
    | zero => rfl
    | succ d' =>
      have ih := dec_nest_deep leaf i d' (by omega) (by omega)
      have hne : enc (nest i (core leaf)) ≠ [] := by intro e; rw [e] at hl; simp at hl; omega
      show (match decsWith (dec d') _ (enc (nest i (core leaf))) with | none => _ | some ts => _) = _
      rw [decs_err ih hne]
end Go.Proofs.Ytiagcegclgallaa
