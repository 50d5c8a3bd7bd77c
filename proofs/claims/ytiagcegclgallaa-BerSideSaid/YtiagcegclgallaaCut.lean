/- Of a beginning of its bytes more is asked for; no program. -/
import Derived.Test.YtiagcegclgallaaTrip
namespace Go.Proofs.Ytiagcegclgallaa
set_option linter.unusedVariables false

theorem lenD_short {n : Nat} (h : n ≤ 1048576) (k : Nat) (hk : k < (lenB n).length) : (lenD ((lenB n).take k)).2.1 = 6 := by
  cases k with
  | zero => rfl
  | succ k =>
    rw [lenB_length] at hk
    by_cases h1 : n < 128
    · rw [if_pos h1] at hk; omega
    · rw [if_neg h1] at hk
      obtain ⟨k1, k3, _, _⟩ := lenK_facts (n := n) (by omega) h
      have hb := byteAt_small (n := ((128 + lenK n : Nat) : Int)) (by omega) (by omega)
      have hlen := nb_length (n : Int) (lenK n)
      unfold lenB
      rw [if_neg h1, List.take_succ_cons]
      generalize byteAt ((128 + lenK n : Nat) : Int) 0 = f at hb ⊢
      rw [lenD_cons2, if_neg (by omega), if_neg (by omega), if_pos (by rw [List.length_take]; omega)]

theorem dec_none (d : Nat) : dec d [] = .error 6 := by
  unfold dec; rw [if_pos (by decide)]; rfl

theorem dec_cut (t : T) (d k : Nat) (h : okT d t = true) (hk : k < (enc t).length) : dec d ((enc t).take k) = .error 6 := by
  cases k with
  | zero => rw [List.take_zero]; exact dec_none d
  | succ k =>
    cases t with
    | mk tag s l =>
      have hbd := okT_body h
      have htg := okT_tag h
      have he := enc_eq (.mk tag s l)
      simp only [T.tag] at he htg
      obtain ⟨n, hn⟩ : ∃ n, n = (body (.mk tag s l)).length := ⟨_, rfl⟩
      rw [← hn] at he hbd
      have hby := byteAt_small htg.1 (by omega : tag < 256)
      simp only [okT, Bool.and_eq_true, mayTagB, Bool.not_eq_true', decide_eq_true_eq, decide_eq_false_iff_not] at h
      obtain ⟨⟨_, h31⟩, _⟩ := h
      have hel : (enc (.mk tag s l)).length = 1 + (lenB n).length + n := by rw [he, List.length_append, headB_length, ← hn]
      rw [hel] at hk
      have hall : (enc (.mk tag s l)).take (k + 1) = byteAt tag 0 :: (lenB n ++ body (.mk tag s l)).take k := by rw [he]; simp [headB]
      rw [hall]
      have hT : ∀ x, tagD (byteAt tag 0 :: x) = (tag, 0, 1) := by
        intro x
        generalize byteAt tag 0 = c at hby ⊢
        show (if (c.toNat : Int) % 32 = 31 then _ else ((c.toNat : Int), 0, 1)) = _
        rw [hby, if_neg h31]
      by_cases hs : k < (lenB n).length
      · rw [List.take_append_of_le_length (by omega)]
        have hL := lenD_short hbd k hs
        unfold dec
        rw [hT, if_neg (by simp), if_pos (by rw [List.drop_one, List.tail_cons, hL]; decide), List.drop_one, List.tail_cons, hL]
      · have hx : (lenB n ++ body (.mk tag s l)).take k = lenB n ++ (body (.mk tag s l)).take (k - (lenB n).length) := by
          rw [List.take_append, List.take_of_length_le (by omega)]
        rw [hx]
        have hld := lenD_lenB hbd ((body (.mk tag s l)).take (k - (lenB n).length))
        refine dec_more d _ n (lenB n).length (by rw [hT]; simp) (by rw [List.drop_one, List.tail_cons, hld]; simp) (by rw [List.drop_one, List.tail_cons, hld]; simp) (by rw [List.drop_one, List.tail_cons, hld]) ?_
        simp only [List.length_cons, List.length_append, List.length_take]
        omega
/-! ### What is told has those bytes -/

theorem byteAt_eq {f : UInt8} {n : Int} (h : (f.toNat : Int) = n) : byteAt n 0 = f := by
  have hf := f.toNat_lt
  have := byteAt_small (n := n) (by omega) (by omega)
  exact UInt8.toNat_inj.1 (by omega)

/-- Bytes that say n, the highest first, are n's. -/
theorem nb_rdFrom (v : Int) : ∀ (k : Nat) (l : List UInt8), l.length = k → nb (rdFrom v l) k = l
  | 0, l, h => by rw [List.eq_nil_of_length_eq_zero h]; rfl
  | k + 1, l, h => by
    have hne : l ≠ [] := by intro e; rw [e] at h; simp at h
    have hl := List.dropLast_concat_getLast hne
    obtain ⟨b, hb⟩ : ∃ b, b = l.getLast hne := ⟨_, rfl⟩
    rw [← hb] at hl
    have hk : l.dropLast.length = k := by rw [List.length_dropLast, h]; rfl
    obtain ⟨m, hm⟩ : ∃ m, m = l.dropLast := ⟨_, rfl⟩
    rw [← hm] at hl hk
    have ih := nb_rdFrom v k m hk
    rw [← hl, rdFrom_snoc, nb_snoc]
    have hbl := b.toNat_lt
    have e1 : (rdFrom v m * 256 + (b.toNat : Int)) / 256 = rdFrom v m := by omega
    rw [e1, ih]
    congr 2
    refine UInt8.toNat_inj.1 ?_
    have := byteAt_int (rdFrom v m * 256 + (b.toNat : Int)) 0
    simp at this
    omega

/-- A length that is told is its own bytes. -/
theorem lenB_lenD (l : List UInt8) (h : (lenD l).2.1 = 0) : lenB (lenD l).1.toNat = l.take (lenD l).2.2 := by
  cases l with
  | nil => exact absurd h (by decide)
  | cons f r =>
    have hf := f.toNat_lt
    by_cases h1 : f.toNat < 128
    · have hL : lenD (f :: r) = ((f.toNat : Int), 0, 1) := if_pos h1
      rw [hL]
      show lenB ((f.toNat : Int)).toNat = [f]
      rw [Int.toNat_natCast]
      unfold lenB
      rw [if_pos h1, byteAt_eq rfl]
    · by_cases h2 : f.toNat = 128 ∨ 131 < f.toNat
      · rw [show lenD (f :: r) = (0, 5, 1) from (if_neg h1).trans (if_pos h2)] at h; exact absurd h (by decide)
      · by_cases h3 : r.length < f.toNat - 128
        · rw [show lenD (f :: r) = (0, 6, 1) from (if_neg h1).trans ((if_neg h2).trans (if_pos h3))] at h; exact absurd h (by decide)
        · by_cases h4 : (r[0]?.getD 0).toNat = 0 ∨ rdFrom 0 (r.take (f.toNat - 128)) < 128 ∨ 1048576 < rdFrom 0 (r.take (f.toNat - 128))
          · rw [show lenD (f :: r) = (0, 5, 1 + (f.toNat - 128)) from (if_neg h1).trans ((if_neg h2).trans ((if_neg h3).trans (if_pos h4)))] at h; exact absurd (show (5 : Int) = 0 from h) (by decide)
          · have hL : lenD (f :: r) = (rdFrom 0 (r.take (f.toNat - 128)), 0, 1 + (f.toNat - 128)) := (if_neg h1).trans ((if_neg h2).trans ((if_neg h3).trans (if_neg h4)))
            rw [hL]
            obtain ⟨k, hk⟩ : ∃ k, k = f.toNat - 128 := ⟨_, rfl⟩
            rw [← hk] at h3 h4 ⊢
            have hlen : (r.take k).length = k := by rw [List.length_take]; omega
            have hnb := nb_rdFrom 0 k (r.take k) hlen
            obtain ⟨v, hv⟩ : ∃ v : Nat, rdFrom 0 (r.take k) = (v : Int) := ⟨(rdFrom 0 (r.take k)).toNat, by omega⟩
            rw [hv] at h4 hnb ⊢
            have hv1 : 128 ≤ v ∧ v ≤ 1048576 := by omega
            obtain ⟨k1, k3, kl, kh⟩ := lenK_facts hv1.1 hv1.2
            -- the first byte is not nought: so many bytes, and no fewer
            have hb0 : (r[0]?.getD 0) = byteAt (v : Int) (k - 1) := by
              have e : (r.take k)[0]? = some (byteAt (v : Int) (k - 1)) := by
                have := nb_get (v : Int) k 0 (by omega)
                rw [hnb] at this; simpa using this
              rw [List.getElem?_take, if_pos (by omega)] at e
              rw [e]; rfl
            rw [hb0] at h4
            have hbi := byteAt_int (v : Int) (k - 1)
            have hc : ((2 : Int) ^ (8 * (k - 1))) = ((2 ^ (8 * (k - 1)) : Nat) : Int) := (Int.natCast_pow 2 _).symm
            rw [hc, ← Int.natCast_ediv] at hbi
            have hge : 2 ^ (8 * (k - 1)) ≤ v := by
              rcases Nat.lt_or_ge v (2 ^ (8 * (k - 1))) with hlt | hge
              · rw [Nat.div_eq_of_lt hlt] at hbi
                exact absurd (by simpa using hbi) (fun e : (byteAt (v : Int) (k - 1)).toNat = 0 => h4 (.inl e))
              · exact hge
            have hlt : v < 2 ^ (8 * k) := by
              have hb := (rd0_bound (r.take k) k (by omega)).2
              rw [List.take_of_length_le (by omega), hv] at hb
              have e : ((256 : Int) ^ k) = ((2 ^ (8 * k) : Nat) : Int) := by
                rw [Nat.pow_mul]; exact (Int.natCast_pow (2 ^ 8) k).symm
              rw [e] at hb
              exact Int.ofNat_lt.1 hb
            have hkk : lenK v = k := by
              have a1 : 8 * (lenK v - 1) < 8 * k := (Nat.pow_lt_pow_iff_right (by decide : 1 < 2)).1 (Nat.lt_of_le_of_lt kl hlt)
              have a2 : 8 * (k - 1) < 8 * lenK v := (Nat.pow_lt_pow_iff_right (by decide : 1 < 2)).1 (Nat.lt_of_le_of_lt hge kh)
              omega
            rw [Int.toNat_natCast]
            unfold lenB
            rw [if_neg (by omega), hkk, hnb, byteAt_eq (f := f) (by omega), Nat.add_comm 1, List.take_succ_cons]

end Go.Proofs.Ytiagcegclgallaa
