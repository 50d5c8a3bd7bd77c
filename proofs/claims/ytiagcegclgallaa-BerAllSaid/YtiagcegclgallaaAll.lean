/- How many tlvs there are within, how great and how deep they are: no program. -/
import Derived.Test.YtiagcegclgallaaMk
namespace Go.Proofs.Ytiagcegclgallaa

mutual
/-- many. -/
def mny : T → Nat → Int
  | .mk _ s l, d => if 20 < d ∨ 100 < l.length ∨ 700 < s.size then 1000 else mnys l d 1
def mnys : List T → Nat → Int → Int
  | [], _, n => n
  | t :: l, d, n => if n < 1000 then mnys l d (n + mny t (d + 1)) else n
end

mutual
theorem mny_bd : ∀ (t : T) (d : Nat), 1 ≤ mny t d ∧ mny t d ≤ 1000 + 1000 * ((21 - d : Nat) : Int)
  | .mk tag s l, d => by
    rw [mny]
    split
    · omega
    · have := mnys_bd l d 1 (by omega) (by omega) (by omega); omega
theorem mnys_bd : ∀ (l : List T) (d : Nat) (n : Int), 1 ≤ n → n ≤ 1000 + 1000 * ((21 - d : Nat) : Int) → d ≤ 20 → n ≤ mnys l d n ∧ mnys l d n ≤ 1000 + 1000 * ((21 - d : Nat) : Int)
  | [], d, n, h1, h2, _ => by rw [mnys]; omega
  | t :: l, d, n, h1, h2, hd => by
    rw [mnys]
    split
    · have h3 := mny_bd t (d + 1)
      have h4 := mnys_bd l d (n + mny t (d + 1)) (by omega) (by omega) hd
      omega
    · omega
end

mutual
def wt : T → Nat
  | .mk _ s l => s.size + 5 + wts l
def wts : List T → Nat
  | [] => 0
  | t :: l => wt t + wts l
end

mutual
theorem mny_wt : ∀ (t : T) (d : Nat), mny t d ≤ 300 → (wt t : Int) ≤ 705 * mny t d
  | .mk tag s l, d, h => by
    rw [mny] at h ⊢
    split at h
    · omega
    · rename_i hc
      rw [if_neg hc]
      have := mnys_wt l d 1 (by omega) (by omega) h
      rw [wt]
      omega
theorem mnys_wt : ∀ (l : List T) (d : Nat) (n : Int), 1 ≤ n → d ≤ 20 → mnys l d n ≤ 300 → (wts l : Int) ≤ 705 * (mnys l d n - n)
  | [], d, n, _, _, h => by rw [mnys, wts]; omega
  | t :: l, d, n, h1, hd, h => by
    rw [mnys] at h ⊢
    split at h
    · rename_i hc
      rw [if_pos hc]
      have h3 := mny_bd t (d + 1)
      have h4 := mnys_bd l d (n + mny t (d + 1)) (by omega) (by omega) hd
      have h5 := mny_wt t (d + 1) (by omega)
      have h6 := mnys_wt l d (n + mny t (d + 1)) (by omega) hd h
      rw [wts]
      omega
    · omega
end

mutual
theorem enc_wt : ∀ t : T, wt t ≤ 16000000 → (enc t).length ≤ wt t
  | .mk tag s l, h => by
    rw [wt] at h ⊢
    have h1 := encs_wt l (by omega)
    rw [enc_length]
    have hb : (body (.mk tag s l)).length = s.size + (encs l).length := by simp [body, T.s, T.l]
    have h2 := @headB_length tag (body (.mk tag s l)).length
    have h3 := lenB_le (n := (body (.mk tag s l)).length) (by omega)
    show (headB tag _).length + _ ≤ _
    omega
theorem encs_wt : ∀ l : List T, wts l ≤ 16000000 → (encs l).length ≤ wts l
  | [], _ => by simp [encs]
  | t :: l, h => by
    rw [wts] at h ⊢
    have h1 := enc_wt t (by omega)
    have h2 := encs_wt l (by omega)
    rw [encs, List.length_append]; omega
end

theorem wts_get : ∀ (l : List T) (j : Nat) (h : j < l.length), wt l[j] ≤ wts l
  | t :: l, 0, _ => by rw [wts]; simp
  | t :: l, j + 1, h => by
    have := wts_get l j (by simpa using h)
    rw [wts]; simp only [List.getElem_cons_succ]; omega

mutual
/-- How many lists stand in one another. -/
def dp : T → Nat
  | .mk tag _ l => if isListB tag then max 1 (dps l) else 0
def dps : List T → Nat
  | [] => 0
  | t :: l => max (dp t + 1) (dps l)
end

mutual
theorem okT_dp : ∀ (t : T) (d : Nat), d ≤ 12 → okT d t = (okT 12 t && decide (dp t ≤ d))
  | .mk tag s l, d, hd => by
    rw [dp]
    simp only [okT]
    cases h1 : mayTagB tag
    · simp
    · cases h2 : isListB tag
      · simp
      · simp only [Bool.true_and, if_true]
        by_cases h3 : 1 ≤ d
        · rw [okTs_dp l (d - 1) (by omega), okTs_dp l (12 - 1) (by omega)]
          cases h4 : okTs 12 l
          · simp
          · cases h5 : decide (s.size = 0)
            · simp
            · cases h6 : decide ((encs l).length ≤ 1048576)
              · simp
              · simp only [Bool.true_and, Bool.and_true, h3, decide_true]
                rw [Bool.eq_iff_iff]
                simp
                omega
        · rw [Bool.eq_iff_iff]
          simp only [Bool.and_eq_true, decide_eq_true_eq]
          constructor
          · intro h; exact absurd h.1.1.2 h3
          · intro h; omega
theorem okTs_dp : ∀ (l : List T) (d : Nat), d ≤ 12 → okTs d l = (okTs 12 l && decide (dps l ≤ d + 1))
  | [], d, _ => by simp [okTs, dps]
  | t :: l, d, hd => by
    rw [dps]
    simp only [okTs]
    rw [okT_dp t d hd, okTs_dp l d hd]
    cases okT 12 t
    · simp
    · cases okTs 12 l
      · simp
      · rw [Bool.eq_iff_iff]; simp; omega
end

theorem dps_append (l m : List T) : dps (l ++ m) = max (dps l) (dps m) := by
  induction l with
  | nil => simp [dps]
  | cons t l ih => simp only [List.cons_append, dps, ih]; omega
theorem dps_take (l : List T) (j : Nat) (h : j < l.length) : dps (l.take (j + 1)) = max (dps (l.take j)) (dp l[j] + 1) := by
  rw [take_succ_T l j h, dps_append]; simp [dps]
theorem dps_le (l : List T) (h : okTs 12 l = true) (d : Nat) (hd : d ≤ 12) (h2 : dps l ≤ d + 1) : okTs d l = true := by rw [okTs_dp l d hd, h]; simpa using h2

theorem dp_le {t : T} (h : okT 12 t = true) : dp t ≤ 12 := by
  have := okT_dp t 12 (Nat.le_refl _)
  rw [h] at this
  simpa using this.symm

/-- What the document's size tells. -/
def rsN (t : T) : Int := if okT 12 t then ((body t).length : Int) else -1
def rsD (t : T) : Int := if okT 12 t then (dp t : Int) else 0

theorem rs_kid {t : T} : (decide (rsN t < 0) || decide ((12 : Int) ≤ rsD t)) = !okT 11 t := by
  rw [okT_dp t 11 (by omega)]
  unfold rsN rsD
  cases h : okT 12 t
  · simp
  · rw [Bool.eq_iff_iff]; simp; omega
end Go.Proofs.Ytiagcegclgallaa
