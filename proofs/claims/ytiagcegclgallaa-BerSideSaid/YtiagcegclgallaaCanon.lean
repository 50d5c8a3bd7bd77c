/- Bytes that say a tlv are its own; no program. -/
import Derived.Test.YtiagcegclgallaaCut
namespace Go.Proofs.Ytiagcegclgallaa
set_option linter.unusedVariables false

theorem decs_canon {d : Nat} {D : List UInt8 → Except Int (T × Nat)} (hD : ∀ l t n, D l = .ok (t, n) → okT d t = true ∧ enc t = l.take n) :
    ∀ (f : Nat) (l : List UInt8) (ts : List T), decsWith D f l = some ts → okTs d ts = true ∧ encs ts = l
  | f, [], ts, h => by
    rw [decs_nil] at h; cases h; exact ⟨rfl, rfl⟩
  | 0, c :: l, ts, h => by cases h
  | f + 1, c :: l, ts, h => by
    cases hd : D (c :: l) with
    | error e => rw [decs_err hd (by simp)] at h; cases h
    | ok tn =>
      obtain ⟨t, n⟩ := tn
      rw [decs_ok hd (by simp)] at h
      cases hr : decsWith D f ((c :: l).drop n) with
      | none => rw [hr] at h; cases h
      | some us =>
        rw [hr] at h
        simp only [Option.map_some, Option.some.injEq] at h
        obtain ⟨h1, h2⟩ := hD _ _ _ hd
        obtain ⟨h3, h4⟩ := decs_canon hD f _ _ hr
        rw [← h]
        refine ⟨by simp [okTs, h1, h3], ?_⟩
        rw [encs_cons, h2, h4, List.take_append_drop]

theorem dec_canon : ∀ (d : Nat) (l : List UInt8) (t : T) (n : Nat), dec d l = .ok (t, n) → okT d t = true ∧ enc t = l.take n := by
  intro d
  induction d with
  | zero => 
    intro l t n h
    exact main 0 l t n h (fun d' e => by omega)
  | succ d ih =>
    intro l t n h
    exact main (d + 1) l t n h (fun d' e => by cases e; exact ih)
where
  main (d : Nat) (l : List UInt8) (t : T) (n : Nat) (h : dec d l = .ok (t, n)) (ih : ∀ d', d = d' + 1 → ∀ (l : List UInt8) (t : T) (n : Nat), dec d' l = .ok (t, n) → okT d' t = true ∧ enc t = l.take n) : okT d t = true ∧ enc t = l.take n := by
    by_cases e1 : (tagD l).2.1 ≠ 0
    · unfold dec at h; rw [if_pos e1] at h; cases h
    · by_cases e2 : (lenD (l.drop 1)).2.1 ≠ 0
      · unfold dec at h; rw [if_neg e1, if_pos e2] at h; cases h
      · obtain ⟨m, e3⟩ : ∃ m, (lenD (l.drop 1)).1.toNat = m := ⟨_, rfl⟩
        by_cases e5 : l.length < 1 + (lenD (l.drop 1)).2.2 + m
        · rw [dec_more d l m _ e1 e2 e3 rfl e5] at h; cases h
        · cases l with
          | nil => exact absurd (show ((6 : Int) ≠ 0) by decide) e1
          | cons c r =>
            have hcl := c.toNat_lt
            by_cases h31 : (c.toNat : Int) % 32 = 31
            · exact absurd (show (tagD (c :: r)).2.1 ≠ 0 by rw [show tagD (c :: r) = (0, 5, 1) from if_pos h31]; decide) e1
            · have hT : tagD (c :: r) = ((c.toNat : Int), 0, 1) := if_neg h31
              have e2' : (lenD r).2.1 = 0 := by simpa using e2
              have hok := lenD_ok r e2'
              have hlb := lenB_lenD r e2'
              rw [List.drop_one, List.tail_cons] at e3 e5
              rw [e3] at hlb
              obtain ⟨ln, hln⟩ : ∃ ln, ln = (lenD r).2.2 := ⟨_, rfl⟩
              rw [← hln] at hok hlb e5
              have hm : m ≤ 1048576 := by omega
              have hcont : ((c :: r).drop (1 + ln)).take m = (r.drop ln).take m := by rw [Nat.add_comm 1, List.drop_succ_cons]
              have hclen : ((r.drop ln).take m).length = m := by
                rw [List.length_take, List.length_drop]; simp only [List.length_cons] at e5; omega
              have htake : (c :: r).take (1 + ln + m) = c :: (r.take ln ++ (r.drop ln).take m) := by
                rw [show 1 + ln + m = (ln + m) + 1 from by omega, List.take_succ_cons, List.take_add]
              have hhead : ∀ b : List UInt8, b.length = m → headB (c.toNat : Int) b.length ++ b = c :: (r.take ln ++ b) := by
                intro b hb; rw [hb, headB, byteAt_eq (f := c) rfl, hlb]; rfl
              have hmay : mayTagB (c.toNat : Int) = true := by
                simp only [mayTagB, Bool.and_eq_true, Bool.not_eq_true', decide_eq_true_eq, decide_eq_false_iff_not]
                exact ⟨⟨by omega, by omega⟩, h31⟩
              have e4 : ln = (lenD ((c :: r).drop 1)).2.2 := hln
              by_cases e6 : isListB (c.toNat : Int) = true
              · have e6' : isListB (tagD (c :: r)).1 = true := by rw [hT]; exact e6
                cases d with
                | zero => rw [dec_list0 (c :: r) m ln e1 e2 e3 e4 e5 e6'] at h; cases h
                | succ d' =>
                  rw [dec_listS d' (c :: r) m ln e1 e2 e3 e4 e5 e6', hcont, hT] at h
                  cases hr : decsWith (dec d') m ((r.drop ln).take m) with
                  | none => rw [hr] at h; cases h
                  | some ts =>
                    rw [hr] at h
                    simp only [Except.ok.injEq, Prod.mk.injEq] at h
                    obtain ⟨h3, h4⟩ := decs_canon (ih d' rfl) m _ _ hr
                    rw [← h.1, ← h.2, htake, enc_eq]
                    have hb : body (.mk (c.toNat : Int) ⟨#[]⟩ ts) = (r.drop ln).take m := by
                      show _ ++ encs ts = _; rw [h4]; rfl
                    refine ⟨?_, by rw [hb]; exact hhead _ hclen⟩
                    simp only [okT, hmay, e6, if_true, Bool.true_and, Bool.and_eq_true, decide_eq_true_eq]
                    exact ⟨⟨⟨rfl, by omega⟩, by simpa using h3⟩, by rw [h4, hclen]; exact hm⟩
              · have e6' : isListB (tagD (c :: r)).1 = false := by rw [hT]; simpa using e6
                rw [dec_leaf d (c :: r) m ln e1 e2 e3 e4 e5 e6', hcont, hT] at h
                simp only [Except.ok.injEq, Prod.mk.injEq] at h
                rw [← h.1, ← h.2, htake, enc_eq]
                have hb : body (.mk (c.toNat : Int) ⟨((r.drop ln).take m).toArray⟩ []) = (r.drop ln).take m := by
                  show _ ++ encs [] = _; simp [encs, T.s]
                refine ⟨?_, by rw [hb]; exact hhead _ hclen⟩
                simp only [okT, hmay, e6, Bool.true_and]
                have : (⟨((r.drop ln).take m).toArray⟩ : ByteArray).size = m := by
                  show ((r.drop ln).take m).toArray.size = m
                  rw [List.size_toArray]; exact hclen
                simp [this, hm]
end Go.Proofs.Ytiagcegclgallaa
