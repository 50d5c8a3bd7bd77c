/- What may be is told again by its bytes; no program. -/
import Derived.Test.YtiagcegclgallaaEls
namespace Go.Proofs.Ytiagcegclgallaa
set_option linter.unusedVariables false

theorem lenK_facts {n : Nat} (h : 128 ≤ n) (h2 : n ≤ 1048576) : 1 ≤ lenK n ∧ lenK n ≤ 3 ∧ 2 ^ (8 * (lenK n - 1)) ≤ n ∧ n < 2 ^ (8 * lenK n) := by
  have hb := bitLen_bounds n (by omega) (by omega)
  have h3 := lenK_le (n := n) (by omega)
  have hk : lenK n = (Lib.bitLen n + 7) / 8 := rfl
  refine ⟨by omega, h3, Nat.le_trans (Nat.pow_le_pow_right (by decide) (by omega)) hb.1, Nat.lt_of_lt_of_le hb.2.1 (Nat.pow_le_pow_right (by decide) (by omega))⟩

theorem byteAt_small {n : Int} (h0 : 0 ≤ n) (h1 : n < 256) : ((byteAt n 0).toNat : Int) = n := by
  rw [byteAt_int]; simp; omega

theorem lenD_cons2 (f : UInt8) (r : List UInt8) : lenD (f :: r) = if f.toNat < 128 then ((f.toNat : Int), 0, 1)
    else if f.toNat = 128 ∨ 131 < f.toNat then (0, 5, 1)
    else if r.length < f.toNat - 128 then (0, 6, 1)
    else if (r[0]?.getD 0).toNat = 0 ∨ rdFrom 0 (r.take (f.toNat - 128)) < 128 ∨ 1048576 < rdFrom 0 (r.take (f.toNat - 128)) then (0, 5, 1 + (f.toNat - 128))
    else (rdFrom 0 (r.take (f.toNat - 128)), 0, 1 + (f.toNat - 128)) := rfl

theorem encs_cons (t : T) (l : List T) : encs (t :: l) = enc t ++ encs l := by rw [encs]

theorem lenD_lenB {n : Nat} (h : n ≤ 1048576) (x : List UInt8) : lenD (lenB n ++ x) = ((n : Int), 0, (lenB n).length) := by
  unfold lenB
  by_cases h1 : n < 128
  · rw [if_pos h1]
    have hb := byteAt_small (n := (n : Int)) (by omega) (by omega)
    show lenD (byteAt n 0 :: x) = _
    generalize byteAt (n : Int) 0 = f at hb ⊢
    have hf : f.toNat < 128 := by omega
    show (if f.toNat < 128 then ((f.toNat : Int), 0, 1) else _) = _
    rw [if_pos hf, hb]; rfl
  · rw [if_neg h1]
    obtain ⟨k1, k3, kl, kh⟩ := lenK_facts (n := n) (by omega) h
    have hb := byteAt_small (n := ((128 + lenK n : Nat) : Int)) (by omega) (by omega)
    have hlen := nb_length (n : Int) (lenK n)
    have hr : rdFrom 0 (nb n (lenK n)) = n := by
      have h0 : (n : Int) / 2 ^ (8 * lenK n) = 0 := Int.ediv_eq_zero_of_lt (by omega) (by exact_mod_cast kh)
      have := rdFrom_nb (lenK n) (n : Int)
      rw [h0] at this; exact this
    have hg := nb_get (n : Int) (lenK n) 0 (by omega)
    have hz : (byteAt (n : Int) (lenK n - 1)).toNat ≠ 0 := by
      have e := byteAt_int (n : Int) (lenK n - 1)
      have hc : ((2 : Int) ^ (8 * (lenK n - 1))) = ((2 ^ (8 * (lenK n - 1)) : Nat) : Int) := (Int.natCast_pow 2 _).symm
      have h1 : 1 ≤ n / 2 ^ (8 * (lenK n - 1)) := by
        have := Nat.div_le_div_right (c := 2 ^ (8 * (lenK n - 1))) kl
        rw [Nat.div_self (Nat.two_pow_pos _)] at this
        exact this
      have h2 : n / 2 ^ (8 * (lenK n - 1)) < 256 := by
        have : n < 2 ^ (8 * (lenK n - 1)) * 256 := by
          rw [show (256 : Nat) = 2 ^ 8 from rfl, ← Nat.pow_add, show 8 * (lenK n - 1) + 8 = 8 * lenK n from by omega]; exact kh
        exact Nat.div_lt_of_lt_mul this
      rw [hc, ← Int.natCast_ediv] at e
      generalize n / 2 ^ (8 * (lenK n - 1)) = m at e h1 h2
      omega
    rw [show lenK n - 1 - 0 = lenK n - 1 from by omega] at hg
    show lenD (byteAt ((128 + lenK n : Nat) : Int) 0 :: (nb n (lenK n) ++ x)) = _
    generalize byteAt ((128 + lenK n : Nat) : Int) 0 = f at hb ⊢
    have hf : f.toNat - 128 = lenK n := by omega
    have hg2 : (nb (n : Int) (lenK n) ++ x)[0]?.getD 0 = byteAt n (lenK n - 1) := by
      rw [List.getElem?_append_left (by omega), hg]; rfl
    have ht : (nb (n : Int) (lenK n) ++ x).take (f.toNat - 128) = nb n (lenK n) := by
      rw [hf]; exact List.take_left' hlen
    rw [lenD_cons2, if_neg (by omega), if_neg (by omega), if_neg (by rw [List.length_append]; omega), hg2, ht, hr, if_neg (by omega), hf]
    simp [hlen]; omega

mutual
theorem dec_enc : ∀ (t : T) (d : Nat) (rest : List UInt8), okT d t = true → dec d (enc t ++ rest) = .ok (t, (enc t).length)
  | .mk tag s l, d, rest, h => by
    have hbd := okT_body h
    have htg := okT_tag h
    have he := enc_eq (.mk tag s l)
    have hb : body (.mk tag s l) = s.data.toList ++ encs l := rfl
    simp only [T.tag] at he htg
    obtain ⟨n, hn⟩ : ∃ n, n = (body (.mk tag s l)).length := ⟨_, rfl⟩
    rw [← hn] at he hbd
    have hby := byteAt_small htg.1 (by omega : tag < 256)
    have hel : (enc (.mk tag s l)).length = 1 + (lenB n).length + n := by rw [he, List.length_append, headB_length, ← hn]
    have hall : enc (.mk tag s l) ++ rest = byteAt tag 0 :: (lenB n ++ (body (.mk tag s l) ++ rest)) := by rw [he]; simp [headB]
    rw [hall, hel]
    have hld := lenD_lenB hbd (body (.mk tag s l) ++ rest)
    simp only [okT, Bool.and_eq_true, mayTagB, Bool.not_eq_true', decide_eq_true_eq, decide_eq_false_iff_not] at h
    obtain ⟨⟨_, h31⟩, hk⟩ := h
    have hT : tagD (byteAt tag 0 :: (lenB n ++ (body (.mk tag s l) ++ rest))) = (tag, 0, 1) := by
      generalize byteAt tag 0 = c at hby ⊢
      show (if (c.toNat : Int) % 32 = 31 then _ else ((c.toNat : Int), 0, 1)) = _
      rw [hby, if_neg h31]
    have e1 : ¬ (tagD (byteAt tag 0 :: (lenB n ++ (body (.mk tag s l) ++ rest)))).2.1 ≠ 0 := by rw [hT]; simp
    have e2 : ¬ (lenD ((byteAt tag 0 :: (lenB n ++ (body (.mk tag s l) ++ rest))).drop 1)).2.1 ≠ 0 := by rw [List.drop_one, List.tail_cons, hld]; simp
    have e3 : (lenD ((byteAt tag 0 :: (lenB n ++ (body (.mk tag s l) ++ rest))).drop 1)).1.toNat = n := by rw [List.drop_one, List.tail_cons, hld]; simp
    have e4 : (lenB n).length = (lenD ((byteAt tag 0 :: (lenB n ++ (body (.mk tag s l) ++ rest))).drop 1)).2.2 := by rw [List.drop_one, List.tail_cons, hld]
    have e5 : ¬ (byteAt tag 0 :: (lenB n ++ (body (.mk tag s l) ++ rest))).length < 1 + (lenB n).length + n := by simp [← hn]; omega
    have hcont : ((byteAt tag 0 :: (lenB n ++ (body (.mk tag s l) ++ rest))).drop (1 + (lenB n).length)).take n = body (.mk tag s l) := by
      rw [Nat.add_comm 1, List.drop_succ_cons, List.drop_left' rfl]; exact List.take_left' hn.symm
    by_cases hi : isListB tag = true
    · rw [if_pos hi] at hk
      simp only [Bool.and_eq_true, decide_eq_true_eq] at hk
      obtain ⟨⟨⟨hs0, hd1⟩, hl⟩, _⟩ := hk
      obtain ⟨d', rfl⟩ : ∃ d', d = d' + 1 := ⟨d - 1, by omega⟩
      have hsn : s.data.toList = [] := List.eq_nil_of_length_eq_zero (by simpa using hs0)
      have hse : s = ⟨#[]⟩ := by cases s with | mk a => cases a with | mk b => simp at hsn; subst hsn; rfl
      have hbe : body (.mk tag s l) = encs l := by rw [hb, hsn]; rfl
      rw [dec_listS d' _ n (lenB n).length e1 e2 e3 e4 e5 (by rw [hT]; exact hi), hcont, hT]
      rw [hbe] at hn ⊢
      rw [decs_encs l d' n (by simpa using hl) (by omega), hse]
    · have hi' : isListB tag = false := by simpa using hi
      rw [if_neg hi] at hk
      simp only [Bool.and_eq_true, decide_eq_true_eq] at hk
      have hln : l = [] := List.eq_nil_of_length_eq_zero hk.1
      subst hln
      rw [dec_leaf d _ n (lenB n).length e1 e2 e3 e4 e5 (by rw [hT]; exact hi'), hcont, hT]
      have : body (.mk tag s []) = s.data.toList := by rw [hb]; simp [encs]
      rw [this]
theorem decs_encs : ∀ (l : List T) (d f : Nat), okTs d l = true → (encs l).length ≤ f → decsWith (dec d) f (encs l) = some l
  | [], d, f, _, _ => decs_nil _ _
  | t :: l, d, f, h, hf => by
    simp only [okTs, Bool.and_eq_true] at h
    have hd := dec_enc t d (encs l) h.1
    have hne : enc t ++ encs l ≠ [] := by
      intro e
      have := (dec_pos hd).1
      rw [(List.append_eq_nil_iff.1 e).1] at this
      exact absurd this (by decide)
    have hpos := (dec_pos hd).1
    rw [encs_cons, List.length_append] at hf
    obtain ⟨f', rfl⟩ : ∃ f', f = f' + 1 := ⟨f - 1, by omega⟩
    rw [encs_cons, decs_ok hd hne, List.drop_left' rfl, decs_encs l d f' h.2 (by omega)]
    rfl
end
end Go.Proofs.Ytiagcegclgallaa
