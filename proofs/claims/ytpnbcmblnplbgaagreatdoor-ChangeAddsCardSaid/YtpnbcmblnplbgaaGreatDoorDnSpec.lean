/- Names' texts, and what texts say: what they are; no program. -/
import Derived.Test.YtpnbcmblnplbgaaGreatDoorDnPure
namespace Go.Proofs.YtpnbcmblnplbgaaGreatDoor
set_option linter.unusedVariables false

/-- How a byte stands in a value's text: 0 as a mark and two digits, 1 as it is, 2 so, too, but it may be behind a mark, 3 behind a mark where it is the first, 4 where it is the first or the last, 5 always. -/
def kindC (c : UInt8) : Nat :=
  if c.toNat < 32 ∨ 126 < c.toNat then 0 else if c.toNat = 61 then 2 else if c.toNat = 35 then 3 else if c.toNat = 32 then 4
  else if ([44, 43, 34, 92, 60, 62, 59] : List UInt8).contains c then 5 else 1
def needC (c : UInt8) (first last : Bool) : Bool := kindC c == 5 || (kindC c == 3 && first) || (kindC c == 4 && (first || last))
def digs : List UInt8 := [48, 49, 50, 51, 52, 53, 54, 55, 56, 57, 97, 98, 99, 100, 101, 102]
def digL (n : Nat) : UInt8 := digs.getD n 0
def hexB (c : UInt8) : Bool := digs.contains (lowC c)
def hexN (c : UInt8) : Nat := if c.toNat ≤ 57 then c.toNat - 48 else (lowC c).toNat - 87

def escC (first last : Bool) (c : UInt8) : List UInt8 :=
  if kindC c = 0 then [92, digL (c.toNat / 16), digL (c.toNat % 16)] else if needC c first last = true then [92, c] else [c]
def escR : Bool → List UInt8 → List UInt8
  | _, [] => []
  | f, c :: r => escC f r.isEmpty c ++ escR false r
def escV (v : List UInt8) : List UInt8 := escR true v

abbrev R := List UInt8 × List UInt8
def textR (r : R) : List UInt8 := r.1 ++ 61 :: escV r.2
def textD : List R → List UInt8
  | [] => []
  | [r] => textR r
  | r :: l => textR r ++ 44 :: textD l

/-- What stands behind a mark: the byte, and how many bytes say it, with the mark; 0: none. -/
def behD : List UInt8 → UInt8 × Nat
  | [] => (0, 0)
  | x :: r => if 2 ≤ kindC x then (x, 2) else match r with
    | [] => (0, 0)
    | y :: _ => if hexB x = true ∧ hexB y = true then (UInt8.ofNat (hexN x * 16 + hexN y), 3) else (0, 0)
def oneD (f : Bool) : List UInt8 → UInt8 × Nat
  | [] => (0, 0)
  | c :: r => if c.toNat = 92 then behD r else if kindC c = 0 ∨ needC c f r.isEmpty = true then (0, 0) else (c, 1)
def valN : Nat → Bool → List UInt8 → Option (List UInt8)
  | 0, _, l => if l = [] then some [] else none
  | n + 1, f, l => if l = [] then some [] else if (oneD f l).2 = 0 then none else (valN n false (l.drop (oneD f l).2)).map ((oneD f l).1 :: ·)
def valD (l : List UInt8) : Option (List UInt8) := valN l.length true l

def nameD (l : List UInt8) : List UInt8 := l.takeWhile (· ≠ 61)
def afterD (l : List UInt8) : List UInt8 := (l.dropWhile (· ≠ 61)).drop 1
def rdnD (l : List UInt8) : Option R :=
  if okType (nameD l) = true then match valD (afterD l) with
    | some v => if v ≠ [] ∧ v.length ≤ 100 then some (nameD l, v) else none
    | none => none
  else none
def parN : Nat → List UInt8 → Option (List R)
  | 0, _ => none
  | k + 1, s => match rdnD (cutD s).1 with
    | none => none
    | some r => if (cutD s).2.2 = true then (parN k (cutD s).2.1).map (r :: ·) else some [r]
def parseD (s : List UInt8) : Option (List R) := if s = [] then some [] else parN 8 s

def normR (r : R) : R := (low r.1, fold r.2)
def keyD (s : List UInt8) : Option (List UInt8) :=
  match parseD s with
  | none => none
  | some l => if l.all (fun r => !(fold r.2).isEmpty) = true then some (textD (l.map normR)) else none

def okR (r : R) : Bool := okType r.1 && !r.2.isEmpty && decide (r.2.length ≤ 100)
def okL (l : List R) : Bool := decide (l.length ≤ 8) && l.all okR

-- bytes, one by one
theorem all_bytes (P : UInt8 → Bool) (h : ((List.range 256).all fun n => P (UInt8.ofNat n)) = true) (c : UInt8) : P c = true := by
  have := List.all_eq_true.1 h c.toNat (List.mem_range.2 c.toNat_lt)
  simpa using this

theorem kind_dig : ∀ n, n < 16 → kindC (digL n) = 1 ∧ hexB (digL n) = true ∧ hexN (digL n) = n ∧ (digL n).toNat ≠ 44 ∧ (digL n).toNat ≠ 92 ∧ 32 ≤ (digL n).toNat ∧ (digL n).toNat ≤ 126 := by decide
theorem kind_need (c : UInt8) (f l : Bool) (h0 : kindC c ≠ 0) (h : needC c f l = true) : 2 ≤ kindC c := by
  unfold needC at h
  simp only [Bool.or_eq_true, beq_iff_eq, Bool.and_eq_true] at h
  omega
theorem kind5 (c : UInt8) (h : c.toNat = 44 ∨ c.toNat = 92) : kindC c = 5 := by
  have h1 : c = 44 ∨ c = 92 := by
    rcases h with h | h
    · left; exact UInt8.toNat_inj.1 h
    · right; exact UInt8.toNat_inj.1 h
  rcases h1 with rfl | rfl <;> decide
theorem kind_plain (c : UInt8) (f l : Bool) (h : ¬ needC c f l = true) : c.toNat ≠ 44 ∧ c.toNat ≠ 92 := by
  refine ⟨fun e => h ?_, fun e => h ?_⟩ <;> (unfold needC; rw [kind5 c (by omega)]; rfl)

theorem escR_nil {f : Bool} {v : List UInt8} : escR f v = [] ↔ v = [] := by
  cases v with
  | nil => simp [escR]
  | cons c r => simp only [escR, escC]; split <;> (try split) <;> simp

theorem cutD_com {c : UInt8} {r : List UInt8} (h : c.toNat = 44) : cutD (c :: r) = ([], r, true) := by rw [cutD.eq_def]; exact if_pos h
theorem cutD_two {x : UInt8} {r : List UInt8} : cutD (92 :: x :: r) = (92 :: x :: (cutD r).1, (cutD r).2.1, (cutD r).2.2) := by rw [cutD.eq_def]; rfl
theorem cutD_one {c : UInt8} {r : List UInt8} (h : c.toNat ≠ 44 ∧ c.toNat ≠ 92) : cutD (c :: r) = (c :: (cutD r).1, (cutD r).2.1, (cutD r).2.2) := by rw [cutD.eq_def]; simp [h.1, h.2]

/-- A value's text has no comma of its own. -/
theorem cut_esc : ∀ (v : List UInt8) (f : Bool) (X : List UInt8), cutD (escR f v ++ X) = (escR f v ++ (cutD X).1, (cutD X).2.1, (cutD X).2.2)
  | [], f, X => by simp [escR]
  | c :: r, f, X => by
    have ih := cut_esc r false X
    simp only [escR]
    unfold escC
    by_cases h0 : kindC c = 0
    · rw [if_pos h0]
      have d2 := kind_dig (c.toNat % 16) (by omega)
      simp only [List.cons_append, List.nil_append]
      rw [cutD_two, cutD_one ⟨d2.2.2.2.1, d2.2.2.2.2.1⟩, ih]
    · rw [if_neg h0]
      by_cases h1 : needC c f r.isEmpty = true
      · rw [if_pos h1]
        simp only [List.cons_append, List.nil_append]
        rw [cutD_two, ih]
      · rw [if_neg h1]
        simp only [List.cons_append, List.nil_append]
        rw [cutD_one (kind_plain c _ _ h1), ih]

theorem typ_no (c : UInt8) (h : typC c = true) : c.toNat ≠ 44 ∧ c.toNat ≠ 92 ∧ c.toNat ≠ 61 ∧ 32 ≤ c.toNat ∧ c.toNat ≤ 126 := by
  have := all_bytes (fun c => !typC c || (decide (c.toNat ≠ 44 ∧ c.toNat ≠ 92 ∧ c.toNat ≠ 61 ∧ 32 ≤ c.toNat ∧ c.toNat ≤ 126))) (by decide +kernel) c
  rw [h] at this
  simpa using this
theorem cut_typ : ∀ (t X : List UInt8), t.all typC = true → cutD (t ++ X) = (t ++ (cutD X).1, (cutD X).2.1, (cutD X).2.2)
  | [], X, _ => by simp
  | c :: r, X, h => by
    rw [List.all_cons, Bool.and_eq_true] at h
    have hc := typ_no c h.1
    rw [List.cons_append, cutD_one ⟨hc.1, hc.2.1⟩, cut_typ r X h.2]; rfl
theorem okType_all {t : List UInt8} (h : okType t = true) : t.all typC = true := by
  unfold okType at h; simp only [Bool.and_eq_true] at h; exact h.2
theorem cut_text (r : R) (h : okType r.1 = true) (X : List UInt8) : cutD (textR r ++ X) = (textR r ++ (cutD X).1, (cutD X).2.1, (cutD X).2.2) := by
  unfold textR
  have e : r.1 ++ 61 :: escV r.2 ++ X = r.1 ++ (61 :: (escV r.2 ++ X)) := by simp
  rw [e, cut_typ _ _ (okType_all h), cutD_one (by decide)]
  unfold escV
  rw [cut_esc]
  simp

theorem cut_end (r : R) (h : okType r.1 = true) : cutD (textR r) = (textR r, [], false) := by
  have := cut_text r h []
  simpa [cutD] using this
theorem cut_more (r : R) (h : okType r.1 = true) (X : List UInt8) : cutD (textR r ++ 44 :: X) = (textR r, X, true) := by
  have := cut_text r h (44 :: X)
  rw [cutD_com (by decide)] at this
  simpa using this

theorem behD_free {x : UInt8} {r : List UInt8} (h : 2 ≤ kindC x) : behD (x :: r) = (x, 2) := by
  show (if 2 ≤ kindC x then (x, 2) else _) = _
  rw [if_pos h]
theorem behD_nil {x : UInt8} (h : ¬ 2 ≤ kindC x) : behD [x] = (0, 0) := by
  show (if 2 ≤ kindC x then (x, 2) else _) = _
  rw [if_neg h]
theorem behD_hex {x y : UInt8} {r : List UInt8} (h : ¬ 2 ≤ kindC x) : behD (x :: y :: r) = if hexB x = true ∧ hexB y = true then (UInt8.ofNat (hexN x * 16 + hexN y), 3) else (0, 0) := by
  show (if 2 ≤ kindC x then (x, 2) else _) = _
  rw [if_neg h]
/-- A value is told again by its text. -/
theorem val_esc : ∀ (v : List UInt8) (f : Bool) (n : Nat), (escR f v).length ≤ n → valN n f (escR f v) = some v
  | [], f, n, _ => by cases n <;> simp [escR, valN]
  | c :: r, f, 0, h => by
    exfalso
    have : escR f (c :: r) = [] := List.eq_nil_of_length_eq_zero (by omega)
    rw [escR_nil] at this; cases this
  | c :: r, f, n + 1, h => by
    have hne : escR f (c :: r) ≠ [] := by intro e; rw [escR_nil] at e; cases e
    have hone : oneD f (escR f (c :: r)) = (c, (escC f r.isEmpty c).length) := by
      simp only [escR]
      unfold escC
      by_cases h0 : kindC c = 0
      · rw [if_pos h0]
        have d1 := kind_dig (c.toNat / 16) (by have := c.toNat_lt; omega)
        have d2 := kind_dig (c.toNat % 16) (by omega)
        simp only [List.cons_append, List.nil_append, oneD]
        rw [if_pos (by decide)]
        rw [behD_hex (by rw [d1.1]; omega), if_pos ⟨d1.2.1, d2.2.1⟩, d1.2.2.1, d2.2.2.1]
        have : c.toNat / 16 * 16 + c.toNat % 16 = c.toNat := by omega
        rw [this]; simp
      · rw [if_neg h0]
        by_cases h1 : needC c f r.isEmpty = true
        · rw [if_pos h1]
          simp only [List.cons_append, List.nil_append, oneD]
          rw [if_pos (by decide)]
          rw [behD_free (kind_need c _ _ h0 h1)]; rfl
        · rw [if_neg h1]
          simp only [List.cons_append, List.nil_append, oneD]
          rw [if_neg (kind_plain c _ _ h1).2]
          have he : (escR false r).isEmpty = r.isEmpty := by
            cases r with
            | nil => rfl
            | cons x y => 
              have : escR false (x :: y) ≠ [] := by intro e; rw [escR_nil] at e; cases e
              cases hx : escR false (x :: y) with
              | nil => exact absurd hx this
              | cons a b => rfl
          rw [he, if_neg (by rintro (h | h); exact h0 h; exact h1 h)]; rfl
    have hpos : (escC f r.isEmpty c).length ≠ 0 := by unfold escC; split <;> (try split) <;> simp
    have hdrop : (escR f (c :: r)).drop (escC f r.isEmpty c).length = escR false r := by simp only [escR]; simp
    have hlen : (escR false r).length ≤ n := by
      have : (escR f (c :: r)).length = (escC f r.isEmpty c).length + (escR false r).length := by simp only [escR]; simp
      omega
    unfold valN
    rw [if_neg hne, hone]
    simp only
    rw [if_neg hpos, hdrop, val_esc r false n hlen]
    rfl

theorem take_name (t X : List UInt8) (h : t.all typC = true) : (t ++ 61 :: X).takeWhile (· ≠ 61) = t ∧ (t ++ 61 :: X).dropWhile (· ≠ 61) = 61 :: X := by
  have ht : ∀ c ∈ t, (decide (c ≠ 61)) = true := fun c hc => by
    have := (typ_no c (List.all_eq_true.1 h c hc)).2.2.1
    simp only [decide_eq_true_eq]
    intro e; subst e; exact this rfl
  constructor
  · rw [List.takeWhile_append_of_pos ht]; simp
  · rw [List.dropWhile_append_of_pos ht]; simp

theorem rdn_text (r : R) (h : okR r = true) : rdnD (textR r) = some r := by
  unfold okR at h
  simp only [Bool.and_eq_true, decide_eq_true_eq, Bool.not_eq_true', List.isEmpty_eq_false_iff] at h
  obtain ⟨⟨h1, h2⟩, h3⟩ := h
  have ht := take_name r.1 (escV r.2) (okType_all h1)
  have hn : nameD (textR r) = r.1 := ht.1
  have ha : afterD (textR r) = escV r.2 := by show List.drop 1 _ = _; rw [show (textR r).dropWhile (· ≠ 61) = 61 :: escV r.2 from ht.2]; rfl
  have hv : valD (escV r.2) = some r.2 := val_esc r.2 true _ (Nat.le_refl _)
  unfold rdnD
  rw [hn, ha, if_pos h1, hv]
  simp only
  rw [if_pos ⟨h2, h3⟩]

theorem text_ne {r : R} {l : List R} : textD (r :: l) ≠ [] := by
  cases l <;> simp [textD, textR]
theorem text_cons {r x : R} {l : List R} : textD (r :: x :: l) = textR r ++ 44 :: textD (x :: l) := rfl

theorem par_text : ∀ (k : Nat) (l : List R), l ≠ [] → l.length ≤ k → l.all okR = true → parN k (textD l) = some l
  | k, [], h, _, _ => absurd rfl h
  | 0, r :: l, _, h, _ => by simp at h
  | k + 1, [r], _, _, ho => by
    simp only [List.all_cons, List.all_nil, Bool.and_true] at ho
    have h1 : okType r.1 = true := by unfold okR at ho; simp only [Bool.and_eq_true] at ho; exact ho.1.1
    unfold parN
    rw [show textD [r] = textR r from rfl, cut_end r h1]
    simp only
    rw [rdn_text r ho]
    simp
  | k + 1, r :: x :: l, _, h, ho => by
    rw [List.all_cons, Bool.and_eq_true] at ho
    have h1 : okType r.1 = true := by have h := ho.1; unfold okR at h; simp only [Bool.and_eq_true] at h; exact h.1.1
    unfold parN
    rw [text_cons, cut_more r h1]
    simp only
    rw [rdn_text r ho.1]
    simp only [if_true]
    rw [par_text k (x :: l) (by simp) (by simpa using h) ho.2]
    rfl

/-- 2.4: a name is told again by its text. -/
theorem parse_text (l : List R) (h : okL l = true) : parseD (textD l) = some l := by
  unfold okL at h
  simp only [Bool.and_eq_true, decide_eq_true_eq] at h
  unfold parseD
  cases l with
  | nil => rfl
  | cons r l => rw [if_neg text_ne, par_text 8 _ (by simp) h.1 h.2]

-- what Parse tells may be
theorem rdn_ok {s : List UInt8} {r : R} (h : rdnD s = some r) : okR r = true := by
  unfold rdnD at h
  split at h
  · rename_i h1
    split at h
    · rename_i v hv
      split at h
      · rename_i h2
        cases h
        unfold okR
        simp only [Bool.and_eq_true, decide_eq_true_eq, Bool.not_eq_true', List.isEmpty_eq_false_iff]
        exact ⟨⟨h1, h2.1⟩, h2.2⟩
      · cases h
    · cases h
  · cases h
theorem par_ok : ∀ (k : Nat) (s : List UInt8) (l : List R), parN k s = some l → l.length ≤ k ∧ l.all okR = true ∧ l ≠ []
  | 0, s, l, h => by cases h
  | k + 1, s, l, h => by
    unfold parN at h
    split at h
    · cases h
    · rename_i r hr
      have ho := rdn_ok hr
      split at h
      · cases hp : parN k (cutD s).2.1 with
        | none => rw [hp] at h; cases h
        | some l' =>
          rw [hp] at h
          simp only [Option.map_some, Option.some.injEq] at h
          subst h
          have := par_ok k _ _ hp
          exact ⟨by simp; omega, by rw [List.all_cons, ho, this.2.1]; rfl, by simp⟩
      · cases h
        exact ⟨by simp, by simp [ho], by simp⟩
theorem parse_ok {s : List UInt8} {l : List R} (h : parseD s = some l) : okL l = true := by
  unfold parseD at h
  split at h
  · cases h; rfl
  · have := par_ok 8 s l h
    unfold okL
    simp only [Bool.and_eq_true, decide_eq_true_eq]
    exact ⟨this.1, this.2.1⟩

-- folded names
theorem letC_low (c : UInt8) : letC (lowC c) = letC c := by unfold letC; rw [lowC_low]
theorem typC_low (c : UInt8) : typC (lowC c) = typC c := by
  have := all_bytes (fun c => typC (lowC c) == typC c) (by decide +kernel) c
  simpa using this
theorem okType_low (t : List UInt8) : okType (low t) = okType t := by
  unfold okType
  rw [low_length]
  have h1 : (low t).isEmpty = t.isEmpty := by cases t <;> rfl
  have h2 : letC ((low t).headD 0) = letC (t.headD 0) := by cases t with | nil => rfl | cons c r => exact letC_low c
  have h3 : (low t).all typC = t.all typC := by
    unfold low; rw [List.all_map]; congr 1; funext c; exact typC_low c
  rw [h1, h2, h3]
def okF (r : R) : Bool := !(fold r.2).isEmpty
theorem okR_norm {r : R} (h : okR r = true) (hf : okF r = true) : okR (normR r) = true := by
  unfold okR at h ⊢
  unfold normR
  unfold okF at hf
  simp only [Bool.and_eq_true, decide_eq_true_eq] at h ⊢
  rw [okType_low]
  exact ⟨⟨h.1.1, hf⟩, Nat.le_trans (fold_len _) h.2⟩
theorem okL_norm {l : List R} (h : okL l = true) (hf : l.all okF = true) : okL (l.map normR) = true := by
  unfold okL at h ⊢
  simp only [Bool.and_eq_true, decide_eq_true_eq, List.length_map] at h ⊢
  refine ⟨h.1, ?_⟩
  rw [List.all_map, List.all_eq_true]
  intro r hr
  exact okR_norm (List.all_eq_true.1 h.2 r hr) (List.all_eq_true.1 hf r hr)
theorem key_text {l : List R} (h : okL l = true) (hf : l.all okF = true) : keyD (textD l) = some (textD (l.map normR)) := by
  unfold keyD
  rw [parse_text l h]
  simp only
  exact if_pos hf

-- what is above
theorem up_text {r : R} {l : List R} (h : okType r.1 = true) : upD (textD (r :: l)) = textD l := by
  unfold upD
  cases l with
  | nil => rw [show textD [r] = textR r from rfl, cut_end r h]; rfl
  | cons x l => rw [text_cons, cut_more r h]
end Go.Proofs.YtpnbcmblnplbgaaGreatDoor
