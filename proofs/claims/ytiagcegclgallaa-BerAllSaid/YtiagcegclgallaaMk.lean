/- Tlvs by numbers: no program. -/
import Derived.Test.YtiagcegclgallaaTlv
namespace Go.Proofs.Ytiagcegclgallaa

def tagLeaf (k : Nat) : Int := match k with | 0 => 4 | 1 => 2 | 2 => 10 | 3 => 128 | 4 => 66 | _ => 30
def tagNode (k : Nat) : Int := match k with | 0 => 48 | 1 => 49 | 2 => 160 | _ => 96

/-- A tlv by numbers, of some text. -/
def mkT (s : ByteArray) : Nat → List UInt8 → T
  | _, [] => .mk 48 ⟨#[]⟩ []
  | 0, _ :: _ => .mk 48 ⟨#[]⟩ []
  | f + 1, c :: r =>
    if c.toNat % 3 > 0 then .mk (tagLeaf (c.toNat / 3 % 6)) (s.extract 0 (min s.size (c.toNat / 2))) []
    else .mk (tagNode (c.toNat / 3 % 4)) ⟨#[]⟩ ((List.range (min r.length (c.toNat / 12 % 5))).map fun j => mkT s f (((c :: r).drop (j + 1)).take (c.toNat / 60 + 1)))

theorem mkT_nil (s : ByteArray) (f : Nat) : mkT s f [] = .mk 48 ⟨#[]⟩ [] := by cases f <;> rfl
theorem mkT_leaf (s : ByteArray) (f : Nat) (c : UInt8) (r : List UInt8) (h : c.toNat % 3 > 0) : mkT s (f + 1) (c :: r) = .mk (tagLeaf (c.toNat / 3 % 6)) (s.extract 0 (min s.size (c.toNat / 2))) [] := by
  rw [mkT.eq_def]; exact if_pos h
theorem mkT_node (s : ByteArray) (f : Nat) (c : UInt8) (r : List UInt8) (h : ¬ c.toNat % 3 > 0) : mkT s (f + 1) (c :: r) = .mk (tagNode (c.toNat / 3 % 4)) ⟨#[]⟩ ((List.range (min r.length (c.toNat / 12 % 5))).map fun j => mkT s f (((c :: r).drop (j + 1)).take (c.toNat / 60 + 1))) := by
  rw [mkT.eq_def]; exact if_neg h

theorem tagLeaf_ok (k : Nat) : mayTagB (tagLeaf k) = true ∧ isListB (tagLeaf k) = false := by
  unfold tagLeaf; split <;> decide
theorem tagNode_ok (k : Nat) : mayTagB (tagNode k) = true ∧ isListB (tagNode k) = true := by
  unfold tagNode; split <;> decide

def bigB : Nat → Nat
  | 0 => 135
  | k + 1 => 5 + 4 * bigB k

theorem bigB_le (k : Nat) : 135 ≤ bigB k := by
  induction k with
  | zero => exact Nat.le_refl _
  | succ k ih => unfold bigB; omega

theorem okTs_all {d : Nat} {l : List T} (h : ∀ x ∈ l, okT d x = true) : okTs d l = true := by
  induction l with
  | nil => simp [okTs]
  | cons t l ih => simp only [okTs, Bool.and_eq_true]; exact ⟨h t (by simp), ih fun x hx => h x (by simp [hx])⟩

theorem encs_le {B : Nat} {l : List T} (h : ∀ x ∈ l, (enc x).length ≤ B) : (encs l).length ≤ l.length * B := by
  induction l with
  | nil => simp [encs]
  | cons t l ih =>
    have h1 := h t (by simp)
    have h2 := ih fun x hx => h x (by simp [hx])
    simp only [encs, List.length_append, List.length_cons, Nat.add_mul]
    omega

theorem okT_mono {d d' : Nat} (hd : d ≤ d') : ∀ t : T, okT d t = true → okT d' t = true := by
  intro t
  induction d generalizing d' t with
  | zero =>
    cases t with
    | mk tag s l =>
      intro h
      simp only [okT, Bool.and_eq_true] at h ⊢
      refine ⟨h.1, ?_⟩
      have h := h.2
      split at h
      · simp only [Bool.and_eq_true, decide_eq_true_eq] at h; omega
      · rename_i hl; rw [if_neg hl]; exact h
  | succ d ih =>
    cases t with
    | mk tag s l =>
      intro h
      simp only [okT, Bool.and_eq_true] at h ⊢
      refine ⟨h.1, ?_⟩
      have h := h.2
      split at h
      · rename_i hl
        rw [if_pos hl]
        simp only [Bool.and_eq_true, decide_eq_true_eq] at h ⊢
        refine ⟨⟨⟨h.1.1.1, by omega⟩, ?_⟩, h.2⟩
        apply okTs_all
        intro x hx
        obtain ⟨j, hj, rfl⟩ := List.mem_iff_getElem.1 hx
        exact ih (d' := d' - 1) (by omega) _ (okTs_get h.1.2 j hj)
      · rename_i hl; rw [if_neg hl]; exact h

/-- What is made may be, and is not great. -/
theorem mkT_ok (s : ByteArray) : ∀ (k : Nat) (f : Nat) (l : List UInt8), k ≤ 6 → l.length ≤ k → l.length ≤ f → okT (k + 1) (mkT s f l) = true ∧ (enc (mkT s f l)).length ≤ bigB k := by
  intro k
  induction k with
  | zero =>
    intro f l hk hl hf
    obtain rfl : l = [] := List.eq_nil_of_length_eq_zero (by omega)
    rw [mkT_nil]
    exact ⟨by decide, by decide⟩
  | succ k ih =>
    intro f l hk hl hf
    cases l with
    | nil =>
      rw [mkT_nil]
      refine ⟨okT_mono (d := 1) (by omega) _ (by decide), Nat.le_trans ?_ (bigB_le _)⟩
      decide
    | cons c r =>
      cases f with
      | zero => simp at hf
      | succ f =>
        have hc := c.toNat_lt
        by_cases h3 : c.toNat % 3 > 0
        · rw [mkT_leaf s f c r h3]
          have ht := tagLeaf_ok (c.toNat / 3 % 6)
          generalize tagLeaf (c.toNat / 3 % 6) = tg at ht ⊢
          have hsz : (s.extract 0 (min s.size (c.toNat / 2))).size ≤ 127 := by simp; omega
          have hok : okT (k + 1 + 1) (.mk tg (s.extract 0 (min s.size (c.toNat / 2))) []) = true := by
            simp only [okT, ht.1, ht.2, Bool.true_and, Bool.false_eq_true, if_false, List.length_nil, decide_true, Bool.and_true]
            simp only [decide_eq_true_eq]; omega
          refine ⟨hok, ?_⟩
          have hb : (body (.mk tg (s.extract 0 (min s.size (c.toNat / 2))) [])).length = (s.extract 0 (min s.size (c.toNat / 2))).size := by simp [body, T.s, T.l, encs]
          have h1 := @headB_length tg (body (.mk tg (s.extract 0 (min s.size (c.toNat / 2))) [])).length
          have h2 := lenB_le (n := (body (.mk tg (s.extract 0 (min s.size (c.toNat / 2))) [])).length) (by omega)
          rw [enc_length]
          show (headB tg _).length + _ ≤ _
          have := bigB_le (k + 1)
          omega
        · rw [mkT_node s f c r h3]
          have ht := tagNode_ok (c.toNat / 3 % 4)
          generalize tagNode (c.toNat / 3 % 4) = tg at ht ⊢
          obtain ⟨ks, hks⟩ : ∃ ks, ks = (List.range (min r.length (c.toNat / 12 % 5))).map fun j => mkT s f (((c :: r).drop (j + 1)).take (c.toNat / 60 + 1)) := ⟨_, rfl⟩
          rw [← hks]
          have hall : ∀ x ∈ ks, okT (k + 1) x = true ∧ (enc x).length ≤ bigB k := by
            intro x hx
            rw [hks, List.mem_map] at hx
            obtain ⟨j, _, rfl⟩ := hx
            simp only [List.length_cons] at hl hf
            exact ih f _ (by omega) (by simp; omega) (by simp; omega)
          have hlen : ks.length ≤ 4 := by rw [hks]; simp; omega
          have hes := encs_le (B := bigB k) fun x hx => (hall x hx).2
          have hes2 : (encs ks).length ≤ 4 * bigB k := Nat.le_trans hes (Nat.mul_le_mul_right _ hlen)
          have hbk : bigB k ≤ 139945 := by
            have : k = 0 ∨ k = 1 ∨ k = 2 ∨ k = 3 ∨ k = 4 ∨ k = 5 := by omega
            rcases this with rfl | rfl | rfl | rfl | rfl | rfl <;> decide
          have hok : okT (k + 1 + 1) (.mk tg ⟨#[]⟩ ks) = true := by
            have := okTs_all fun x hx => (hall x hx).1
            simp only [okT, ht.1, ht.2, Bool.true_and, if_true, Nat.add_sub_cancel, this, Bool.and_true]
            have : (encs ks).length ≤ 1048576 := by omega
            simp [this]; rfl
          refine ⟨hok, ?_⟩
          have hb : (body (.mk tg ⟨#[]⟩ ks)).length = (encs ks).length := by simp [body, T.s, T.l]
          have h1 := @headB_length tg (body (.mk tg ⟨#[]⟩ ks)).length
          have h2 := lenB_le (n := (body (.mk tg ⟨#[]⟩ ks)).length) (by omega)
          rw [enc_length]
          show (headB tg _).length + _ ≤ _
          unfold bigB
          omega

theorem mkT_fuel (s : ByteArray) : ∀ (f g : Nat) (l : List UInt8), l.length ≤ f → l.length ≤ g → mkT s f l = mkT s g l := by
  intro f
  induction f with
  | zero =>
    intro g l hf hg
    obtain rfl : l = [] := List.eq_nil_of_length_eq_zero (by omega)
    rw [mkT_nil, mkT_nil]
  | succ f ih =>
    intro g l hf hg
    cases l with
    | nil => rw [mkT_nil, mkT_nil]
    | cons c r =>
      cases g with
      | zero => simp at hg
      | succ g =>
        simp only [List.length_cons] at hf hg
        by_cases h3 : c.toNat % 3 > 0
        · rw [mkT_leaf s f c r h3, mkT_leaf s g c r h3]
        · rw [mkT_node s f c r h3, mkT_node s g c r h3]
          congr 1
          apply List.map_congr_left
          intro j _
          exact ih g _ (by simp; omega) (by simp; omega)

/-- A tlv by numbers. -/
def mk (s : ByteArray) (l : List UInt8) : T := mkT s l.length l
def kid (s : ByteArray) (c : UInt8) (r : List UInt8) (j : Nat) : T := mk s (((c :: r).drop (j + 1)).take (c.toNat / 60 + 1))
def kids (s : ByteArray) (c : UInt8) (r : List UInt8) (n : Nat) : List T := (List.range n).map (kid s c r)
theorem kids_length (s : ByteArray) (c : UInt8) (r : List UInt8) (n : Nat) : (kids s c r n).length = n := by simp [kids]
theorem kids_succ (s : ByteArray) (c : UInt8) (r : List UInt8) (n : Nat) : kids s c r (n + 1) = kids s c r n ++ [kid s c r n] := by
  unfold kids; rw [List.range_succ, List.map_append]; rfl

theorem mk_nil (s : ByteArray) : mk s [] = .mk 48 ⟨#[]⟩ [] := mkT_nil s 0
theorem mk_leaf (s : ByteArray) (c : UInt8) (r : List UInt8) (h : c.toNat % 3 > 0) : mk s (c :: r) = .mk (tagLeaf (c.toNat / 3 % 6)) (s.extract 0 (min s.size (c.toNat / 2))) [] := mkT_leaf s r.length c r h
theorem mk_node (s : ByteArray) (c : UInt8) (r : List UInt8) (h : ¬ c.toNat % 3 > 0) : mk s (c :: r) = .mk (tagNode (c.toNat / 3 % 4)) ⟨#[]⟩ (kids s c r (min r.length (c.toNat / 12 % 5))) := by
  refine (mkT_node s r.length c r h).trans ?_
  congr 1
  apply List.map_congr_left
  intro j _
  exact mkT_fuel s _ _ _ (by simp; omega) (Nat.le_refl _)

theorem mk_ok (s : ByteArray) (l : List UInt8) : okT 12 (mk s l) = true := by
  cases l with
  | nil => rw [mk_nil]; exact okT_mono (d := 1) (by omega) _ (by decide)
  | cons c r =>
    have hc := c.toNat_lt
    by_cases h3 : c.toNat % 3 > 0
    · rw [mk_leaf s c r h3]
      have ht := tagLeaf_ok (c.toNat / 3 % 6)
      generalize tagLeaf (c.toNat / 3 % 6) = tg at ht ⊢
      have hsz : (s.extract 0 (min s.size (c.toNat / 2))).size ≤ 127 := by simp; omega
      simp only [okT, ht.1, ht.2, Bool.true_and, Bool.false_eq_true, if_false, List.length_nil, decide_true]
      simp only [decide_eq_true_eq]; omega
    · rw [mk_node s c r h3]
      have ht := tagNode_ok (c.toNat / 3 % 4)
      generalize tagNode (c.toNat / 3 % 4) = tg at ht ⊢
      obtain ⟨ks, hks⟩ : ∃ ks, ks = kids s c r (min r.length (c.toNat / 12 % 5)) := ⟨_, rfl⟩
      rw [← hks]
      have hall : ∀ x ∈ ks, okT 6 x = true ∧ (enc x).length ≤ bigB 5 := by
        intro x hx
        rw [hks, kids, List.mem_map] at hx
        obtain ⟨j, _, rfl⟩ := hx
        exact mkT_ok s 5 _ _ (by omega) (by simp; omega) (Nat.le_refl _)
      have hlen : ks.length ≤ 4 := by rw [hks, kids_length]; omega
      have hes := encs_le (B := bigB 5) fun x hx => (hall x hx).2
      have hes2 : (encs ks).length ≤ 4 * bigB 5 := Nat.le_trans hes (Nat.mul_le_mul_right _ hlen)
      have hb : bigB 5 ≤ 139945 := by decide
      have h11 := okTs_all (d := 11) fun x hx => okT_mono (d' := 11) (by omega) x (hall x hx).1
      simp only [okT, ht.1, ht.2, Bool.true_and, if_true, h11, Bool.and_true]
      have : (encs ks).length ≤ 1048576 := by omega
      simp [this]; rfl
end Go.Proofs.Ytiagcegclgallaa
