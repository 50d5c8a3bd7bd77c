/- Tlvs as trees: what may be, their bytes. No program. -/
import Derived.Test.YtiagcegclgallaaPlain
namespace Go.Proofs.Ytiagcegclgallaa

inductive T where
  | mk : Int → ByteArray → List T → T

/-- A length as bytes. -/
def lenK (n : Nat) : Nat := (Lib.bitLen n + 7) / 8
def lenB (n : Nat) : List UInt8 := if n < 128 then [byteAt n 0] else byteAt (128 + lenK n : Nat) 0 :: nb n (lenK n)
def headB (tag : Int) (n : Nat) : List UInt8 := byteAt tag 0 :: lenB n

mutual
/-- Put of a tlv. -/
def enc : T → List UInt8
  | .mk tag s l => headB tag (s.data.toList ++ encs l).length ++ (s.data.toList ++ encs l)
def encs : List T → List UInt8
  | [] => []
  | t :: l => enc t ++ encs l
end

def T.tag : T → Int | .mk tag _ _ => tag
def T.s : T → ByteArray | .mk _ s _ => s
def T.l : T → List T | .mk _ _ l => l
/-- The content. -/
def body (t : T) : List UInt8 := t.s.data.toList ++ encs t.l
theorem enc_eq (t : T) : enc t = headB t.tag (body t).length ++ body t := by cases t; simp [enc, body, T.s, T.l, T.tag]

theorem lenK_le {n : Nat} (h : n < 16777216) : lenK n ≤ 3 := by
  have := Lib.bitLen_le n 24 (by decide) h
  unfold lenK; omega

theorem lenB_length {n : Nat} : (lenB n).length = if n < 128 then 1 else 1 + lenK n := by
  unfold lenB; split <;> simp [nb_length]; omega

theorem lenB_le {n : Nat} (h : n < 16777216) : 1 ≤ (lenB n).length ∧ (lenB n).length ≤ 4 := by
  rw [lenB_length]; have := lenK_le h; split <;> omega

theorem headB_length {tag : Int} {n : Nat} : (headB tag n).length = 1 + (lenB n).length := by simp [headB]; omega

mutual
/-- Nowhere both a text and others. -/
def NoMix : T → Prop
  | .mk _ s l => (s.size = 0 ∨ l = []) ∧ NoMixs l
def NoMixs : List T → Prop
  | [] => True
  | t :: l => NoMix t ∧ NoMixs l
end

theorem NoMixs.get {l : List T} (h : NoMixs l) : ∀ x ∈ l, NoMix x := by
  induction l with
  | nil => intro x hx; cases hx
  | cons t l ih => intro x hx; cases hx with
    | head => exact h.1
    | tail _ hx => exact ih h.2 x hx

theorem encs_append (l m : List T) : encs (l ++ m) = encs l ++ encs m := by
  induction l with
  | nil => simp [encs]
  | cons t l ih => simp [encs, ih]

theorem encs_drop (l : List T) (j : Nat) (x : T) (h : l[j]? = some x) : encs (l.drop j) = enc x ++ encs (l.drop (j + 1)) := by
  obtain ⟨hj, rfl⟩ := List.getElem?_eq_some_iff.1 h
  rw [List.drop_eq_getElem_cons hj, encs]

theorem encs_drop_le (l : List T) (j : Nat) : (encs (l.drop j)).length ≤ (encs l).length := by
  have := encs_append (l.take j) (l.drop j)
  rw [List.take_append_drop] at this
  rw [this, List.length_append]; omega

theorem body_nomix {tag : Int} {s : ByteArray} {l : List T} (h : s.size = 0 ∨ l = []) : body (.mk tag s l) = encs l ++ s.data.toList := by
  rcases h with h | rfl
  · have : s.data.toList = [] := List.eq_nil_of_length_eq_zero (by simpa using h)
    simp [body, T.s, T.l, this]
  · simp [body, T.s, T.l, encs]

/-! ### What may be -/
def mayTagB (tag : Int) : Bool := decide (0 ≤ tag) && decide (tag ≤ 255) && !decide (tag % 32 = 31)
def isListB (tag : Int) : Bool := decide (tag / 32 % 2 = 1)

mutual
/-- t may be, with d lists in one another at most. -/
def okT : Nat → T → Bool
  | d, .mk tag s l => mayTagB tag && (if isListB tag then decide (s.size = 0) && decide (1 ≤ d) && okTs (d - 1) l && decide ((encs l).length ≤ 1048576) else decide (l.length = 0) && decide (s.size ≤ 1048576))
def okTs : Nat → List T → Bool
  | _, [] => true
  | d, t :: l => okT d t && okTs d l
end

theorem okTs_append (d : Nat) (l m : List T) : okTs d (l ++ m) = (okTs d l && okTs d m) := by
  induction l with
  | nil => simp [okTs]
  | cons t l ih => simp [okTs, ih, Bool.and_assoc]

theorem take_succ_T (l : List T) (j : Nat) (h : j < l.length) : l.take (j + 1) = l.take j ++ [l[j]] := List.take_succ_eq_append_getElem h

theorem encs_take (l : List T) (j : Nat) (h : j < l.length) : encs (l.take (j + 1)) = encs (l.take j) ++ enc l[j] := by
  rw [take_succ_T l j h, encs_append]; simp [encs]

theorem okTs_take (d : Nat) (l : List T) (j : Nat) (h : j < l.length) : okTs d (l.take (j + 1)) = (okTs d (l.take j) && okT d l[j]) := by
  rw [take_succ_T l j h, okTs_append]; simp [okTs]

theorem okTs_get {d : Nat} {l : List T} (h : okTs d l = true) (j : Nat) (hj : j < l.length) : okT d l[j] = true := by
  have := okTs_append d (l.take j) (l.drop j)
  rw [List.take_append_drop, h, List.drop_eq_getElem_cons hj] at this
  simp [okTs] at this
  exact this.2.1

theorem encs_take_le (l : List T) (j : Nat) : (encs (l.take j)).length ≤ (encs l).length := by
  have := encs_append (l.take j) (l.drop j)
  rw [List.take_append_drop] at this
  rw [this, List.length_append]; omega

theorem okT_body {d : Nat} {t : T} (h : okT d t = true) : (body t).length ≤ 1048576 := by
  cases t with
  | mk tag s l =>
    simp only [okT, Bool.and_eq_true] at h
    obtain ⟨_, h⟩ := h
    split at h
    · simp only [Bool.and_eq_true, decide_eq_true_eq] at h; simp [body, T.s, T.l]; omega
    · simp only [Bool.and_eq_true, decide_eq_true_eq] at h
      have : l = [] := List.eq_nil_of_length_eq_zero h.1
      subst this
      simp [body, T.s, T.l, encs]; omega

theorem okT_tag {d : Nat} {t : T} (h : okT d t = true) : 0 ≤ t.tag ∧ t.tag ≤ 255 := by
  cases t; simp [okT, mayTagB] at h; exact ⟨h.1.1.1, h.1.1.2⟩

mutual
theorem okT_nomix : ∀ (d : Nat) (t : T), okT d t = true → NoMix t
  | d, .mk tag s l, h => by
    simp only [okT, Bool.and_eq_true] at h
    obtain ⟨_, h⟩ := h
    split at h
    · simp only [Bool.and_eq_true, decide_eq_true_eq] at h
      exact ⟨.inl h.1.1.1, okTs_nomix (d - 1) l h.1.2⟩
    · simp only [Bool.and_eq_true, decide_eq_true_eq] at h
      have : l = [] := List.eq_nil_of_length_eq_zero h.1
      subst this
      exact ⟨.inr rfl, trivial⟩
theorem okTs_nomix : ∀ (d : Nat) (l : List T), okTs d l = true → NoMixs l
  | _, [], _ => trivial
  | d, t :: l, h => by simp [okTs] at h; exact ⟨okT_nomix d t h.1, okTs_nomix d l h.2⟩
end

theorem enc_length (t : T) : (enc t).length = (headB t.tag (body t).length).length + (body t).length := by rw [enc_eq]; simp

theorem enc_le {d : Nat} {t : T} (h : okT d t = true) : (enc t).length ≤ 1048581 := by
  have := okT_body h
  have := @headB_length t.tag (body t).length
  have := lenB_le (n := (body t).length) (by omega)
  rw [enc_length]; omega

end Go.Proofs.Ytiagcegclgallaa
