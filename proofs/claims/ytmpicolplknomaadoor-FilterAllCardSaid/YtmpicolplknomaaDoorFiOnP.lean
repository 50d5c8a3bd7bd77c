/- The document's reading of filters (plain, one, ParseFilter) as functions, and that what is written is read again. No program. -/
import Derived.Test.YtmpicolplknomaaDoorFiRead
import Derived.Test.YtmpicolplknomaaDoorRefCut
namespace Go.Proofs.YtmpicolplknomaaDoor
set_option linter.unusedVariables false
set_option linter.unusedSimpArgs false

/-- A byte by two digits, as the document reads it. -/
def escO (x y : UInt8) : Option UInt8 := if hexB x && hexB y then some (UInt8.ofNat (hexN x * 16 + hexN y)) else none
/-- plain: the parts of a value's text, and what stands behind it. -/
def plainO : List UInt8 → List UInt8 → List (List UInt8) × List UInt8
  | cur, [] => ([cur], [])
  | cur, 92 :: x :: y :: r => match escO x y with
    | some b => plainO (cur ++ [b]) r
    | none => plainO (cur ++ [92]) (x :: y :: r)
  | cur, c :: r => if c = 41 ∨ c = 40 then ([cur], c :: r) else if c = 42 then (cur :: (plainO [] r).1, (plainO [] r).2) else plainO (cur ++ [c]) r
termination_by _ l => l.length
theorem plainO_nil (cur : List UInt8) : plainO cur [] = ([cur], []) := by rw [plainO]
theorem plainO_esc (cur : List UInt8) {x y b : UInt8} (r : List UInt8) (h : escO x y = some b) : plainO cur (92 :: x :: y :: r) = plainO (cur ++ [b]) r := by rw [plainO, h]
theorem plainO_no (cur : List UInt8) {x y : UInt8} (r : List UInt8) (h : escO x y = none) : plainO cur (92 :: x :: y :: r) = plainO (cur ++ [92]) (x :: y :: r) := by rw [plainO, h]
theorem plainO_end (cur : List UInt8) {c : UInt8} (r : List UInt8) (h : c = 41 ∨ c = 40) : plainO cur (c :: r) = ([cur], c :: r) := by
  rw [plainO, if_pos h]
  rintro x y r' rfl
  rcases h with h | h <;> cases h
theorem plainO_star (cur : List UInt8) (r : List UInt8) : plainO cur (42 :: r) = (cur :: (plainO [] r).1, (plainO [] r).2) := by
  rw [plainO, if_neg (by decide), if_pos rfl]
  rintro x y r' h
  cases h
theorem plainO_one (cur : List UInt8) {c : UInt8} (r : List UInt8) (h1 : c ≠ 41) (h2 : c ≠ 40) (h3 : c ≠ 42) (h4 : c ≠ 92) : plainO cur (c :: r) = plainO (cur ++ [c]) r := by
  rw [plainO, if_neg (by simp [h1, h2]), if_neg h3]
  rintro x y r' rfl
  exact absurd rfl h4
theorem plainO_gen (cur : List UInt8) (c : UInt8) (r : List UInt8) (h : ∀ (x y : UInt8) (r' : List UInt8), c = 92 → r = x :: y :: r' → False) : plainO cur (c :: r) = if c = 41 ∨ c = 40 then ([cur], c :: r) else if c = 42 then (cur :: (plainO [] r).1, (plainO [] r).2) else plainO (cur ++ [c]) r := by
  rw [plainO]
  exact h
theorem plainO_mark (cur : List UInt8) : plainO cur [92] = plainO (cur ++ [92]) [] :=
  (plainO_gen cur 92 [] (fun x y r' h0 h => by cases h)).trans (by rw [if_neg (by decide), if_neg (by decide)])
theorem plainO_mark1 (cur : List UInt8) (x : UInt8) : plainO cur [92, x] = plainO (cur ++ [92]) [x] :=
  (plainO_gen cur 92 [x] (fun x y r' h0 h => by simp at h)).trans (by rw [if_neg (by decide), if_neg (by decide)])
def plainEsc (c : UInt8) : Bool := plainC c || (escO (digL (c.toNat / 16)) (digL (c.toNat % 16)) == some c)
theorem plain_esc {c : UInt8} (h : plainC c = false) : escO (digL (c.toNat / 16)) (digL (c.toNat % 16)) = some c := by
  have := all_bytes plainEsc (by decide +kernel) c
  unfold plainEsc at this
  rw [h] at this
  simpa using this
theorem plain_not {c : UInt8} (h : plainC c = true) : c ≠ 41 ∧ c ≠ 40 ∧ c ≠ 42 ∧ c ≠ 92 := by
  unfold plainC at h
  simp only [Bool.and_eq_true, Bool.not_eq_true', Bool.or_eq_false_iff, beq_eq_false_iff_ne] at h
  obtain ⟨_, ⟨⟨h1, h2⟩, h3⟩, h4⟩ := h
  exact ⟨h3, h2, h1, h4⟩
theorem plainO_quo : ∀ (v cur X : List UInt8), plainO cur (quo v ++ X) = plainO (cur ++ v) X
  | [], cur, X => by simp [quo]
  | c :: r, cur, X => by
    have ih := plainO_quo r (cur ++ [c]) X
    rw [show cur ++ (c :: r) = cur ++ [c] ++ r from by simp, ← ih]
    show plainO cur (quoC c ++ quo r ++ X) = _
    cases h : plainC c with
    | true =>
      obtain ⟨h1, h2, h3, h4⟩ := plain_not h
      unfold quoC
      rw [if_pos h]
      show plainO cur (c :: (quo r ++ X)) = _
      rw [plainO_one cur _ h1 h2 h3 h4]
    | false =>
      unfold quoC
      rw [if_neg (by rw [h]; decide)]
      show plainO cur (92 :: digL (c.toNat / 16) :: digL (c.toNat % 16) :: (quo r ++ X)) = _
      rw [plainO_esc cur _ (plain_esc h)]
theorem plainO_parts : ∀ (x : List UInt8) (p : List (List UInt8)) (cur X : List UInt8), plainO cur (starJ (x :: p) ++ 41 :: X) = ((cur ++ x) :: p, 41 :: X)
  | x, [], cur, X => by
    show plainO cur (quo x ++ 41 :: X) = _
    rw [plainO_quo, plainO_end _ _ (.inl rfl)]
  | x, y :: p, cur, X => by
    have ih := plainO_parts y p [] X
    show plainO cur ((quo x ++ 42 :: starJ (y :: p)) ++ 41 :: X) = _
    rw [List.append_assoc, plainO_quo]
    show plainO (cur ++ x) (42 :: (starJ (y :: p) ++ 41 :: X)) = _
    rw [plainO_star, ih]
    simp
/-- The kids. -/
def kidsO (D : List UInt8 → Option (FT × List UInt8)) : Nat → List UInt8 → Option (List FT × List UInt8)
  | 0, s => some ([], s)
  | fu + 1, s => if s.head? = some 40 then match D s with
      | none => none
      | some (f, r) => (kidsO D fu r).map fun x => (f :: x.1, x.2)
    else some ([], s)
/-- What a leaf says behind its type and its sign. -/
def valO (k : Int) (p : List (List UInt8)) : Int × List UInt8 × List (List UInt8) := if k = 4 ∧ 1 < p.length then (if p = [[], []] then (8, [], []) else (5, [], p)) else (k, p.headD [], [])
def signO (s : List UInt8) : Int × List UInt8 := match s with
  | 62 :: r => (6, r)
  | 60 :: r => (7, r)
  | r => (4, r)
def leafO (s : List UInt8) : Option (FT × List UInt8) :=
  let t := s.takeWhile typC
  let q := signO (s.dropWhile typC)
  match q.2 with
  | 61 :: r => let u := plainO [] r; let x := valO q.1 u.1; some (.mk x.1 t x.2.1 x.2.2 [], u.2)
  | _ => none
def holdO (c : UInt8) : Int := if c = 38 then 1 else if c = 124 then 2 else 3
def bodyO (D : List UInt8 → Option (FT × List UInt8)) (c : UInt8) (r : List UInt8) : Option (FT × List UInt8) :=
  if c = 38 ∨ c = 124 ∨ c = 33 then (kidsO D r.length r).map fun x => (.mk (holdO c) [] [] [] x.1, x.2) else leafO (c :: r)
/-- one: so deep at most. -/
def oneO : Nat → List UInt8 → Option (FT × List UInt8)
  | 0, _ => none
  | d + 1, s => match s with
    | 40 :: c :: r => match bodyO (oneO d) c r with
      | some (f, 41 :: X) => some (f, X)
      | _ => none
    | _ => none

/-! ### What is written is read again -/
theorem kidsO_text {D : List UInt8 → Option (FT × List UInt8)} : ∀ (l : List FT) (fu : Nat) (X : List UInt8), (∀ f ∈ l, ∀ Y, D (textF f ++ Y) = some (f, Y)) → l.length ≤ fu → kidsO D fu (textFs l ++ 41 :: X) = some (l, 41 :: X)
  | [], 0, X, hD, hl => rfl
  | [], fu + 1, X, hD, hl => rfl
  | f :: l, 0, X, hD, hl => by simp at hl
  | f :: l, fu + 1, X, hD, hl => by
    obtain ⟨r, hr⟩ := textF_cons f
    have hh : (textFs (f :: l) ++ 41 :: X).head? = some 40 := by rw [textFs, hr]; rfl
    show (if (textFs (f :: l) ++ 41 :: X).head? = some 40 then _ else _) = _
    rw [if_pos hh]
    have hs : textFs (f :: l) ++ 41 :: X = textF f ++ (textFs l ++ 41 :: X) := by rw [textFs, List.append_assoc]
    rw [hs, hD f (by simp)]
    show (kidsO D fu (textFs l ++ 41 :: X)).map _ = _
    rw [kidsO_text l fu X (fun g hg => hD g (by simp [hg])) (by simpa using hl)]
    rfl
theorem typ_sign (k : Int) (h : ¬ holdsC k = true) : ∃ c r, signF k = c :: r ∧ typC c = false := by
  obtain ⟨c, r, e, ho, _⟩ := sign_op h
  refine ⟨c, r, e, ?_⟩
  cases hc : typC c with
  | false => rfl
  | true => rw [typ_op c hc] at ho; cases ho
theorem leafO_text {k : Int} {t v : List UInt8} {p : List (List UInt8)} (h : okLeaf k t v p 0 = true) (X : List UInt8) : leafO (t ++ (signF k ++ (quo v ++ (starJ p ++ 41 :: X)))) = some (.mk k t v p [], 41 :: X) := by
  obtain ⟨c, r, hs, hc⟩ := typ_sign k (okLeaf_holds h)
  have ht := okType_all (okLeaf_type h).1
  obtain ⟨w1, w2⟩ := tw_cut typC t c (r ++ (quo v ++ (starJ p ++ 41 :: X))) ht hc
  have he : t ++ (signF k ++ (quo v ++ (starJ p ++ 41 :: X))) = t ++ c :: (r ++ (quo v ++ (starJ p ++ 41 :: X))) := by rw [hs]; rfl
  unfold leafO
  simp only [he, w1, w2]
  rw [show c :: (r ++ (quo v ++ (starJ p ++ 41 :: X))) = signF k ++ (quo v ++ (starJ p ++ 41 :: X)) from by rw [hs]; rfl]
  unfold okLeaf at h
  simp only [Bool.and_eq_true] at h
  obtain ⟨_, h⟩ := h
  by_cases h4 : k = 4 ∨ k = 6 ∨ k = 7
  · rw [if_pos h4] at h
    simp only [Bool.and_eq_true, List.isEmpty_iff] at h
    obtain ⟨_, rfl⟩ := h
    have hp := plainO_quo v [] (41 :: X)
    rw [List.nil_append, plainO_end v X (.inl rfl)] at hp
    rcases h4 with rfl | rfl | rfl
    · show (let u := plainO [] (quo v ++ 41 :: X); let x := valO 4 u.1; some (FT.mk x.1 t x.2.1 x.2.2 [], u.2)) = _
      rw [hp]
      simp [valO]
    · show (let u := plainO [] (quo v ++ 41 :: X); let x := valO 6 u.1; some (FT.mk x.1 t x.2.1 x.2.2 [], u.2)) = _
      rw [hp]
      simp [valO]
    · show (let u := plainO [] (quo v ++ 41 :: X); let x := valO 7 u.1; some (FT.mk x.1 t x.2.1 x.2.2 [], u.2)) = _
      rw [hp]
      simp [valO]
  · rw [if_neg h4] at h
    by_cases h5 : k = 5
    · subst h5
      rw [if_pos rfl] at h
      simp only [Bool.and_eq_true, List.isEmpty_iff] at h
      obtain ⟨rfl, hok⟩ := h
      obtain ⟨x, y, q, rfl⟩ : ∃ x y q, p = x :: y :: q := by
        unfold okParts at hok
        simp only [Bool.and_eq_true, decide_eq_true_eq] at hok
        match p, hok with
        | x :: y :: q, _ => exact ⟨x, y, q, rfl⟩
        | [x], h => simp at h
        | [], h => simp at h
      have hne : x :: y :: q ≠ [[], []] := by
        intro e
        rw [e] at hok
        exact absurd hok (by decide)
      have hp := plainO_parts x (y :: q) [] X
      rw [List.nil_append] at hp
      show (let u := plainO [] (starJ (x :: y :: q) ++ 41 :: X); let z := valO 4 u.1; some (FT.mk z.1 t z.2.1 z.2.2 [], u.2)) = _
      rw [hp]
      have hv : valO 4 (x :: y :: q) = (5, [], x :: y :: q) := by unfold valO; rw [if_pos ⟨rfl, by simp⟩, if_neg hne]
      simp only [hv]
    · rw [if_neg h5] at h
      by_cases h8 : k = 8
      · subst h8
        rw [if_pos rfl] at h
        simp only [Bool.and_eq_true, List.isEmpty_iff] at h
        obtain ⟨rfl, rfl⟩ := h
        have hp : plainO [] (42 :: 41 :: X) = ([[], []], 41 :: X) := by rw [plainO_star, plainO_end _ _ (.inl rfl)]
        show (let u := plainO [] (42 :: 41 :: X); let z := valO 4 u.1; some (FT.mk z.1 t z.2.1 z.2.2 [], u.2)) = _
        rw [hp]
        rfl
      · rw [if_neg h8] at h; cases h
theorem oneO_text : ∀ (d : Nat) (f : FT) (X : List UInt8), mayF d f = true → oneO d (textF f ++ X) = some (f, X)
  | 0, f, X, h => by cases f; cases h
  | d + 1, .mk k t v p l, X, h => by
    have h' : (if holdsC k then t.isEmpty && v.isEmpty && p.isEmpty && kidsC k l.length && l.all (mayF d) else okLeaf k t v p l.length) = true := h
    by_cases hk : holdsC k = true
    · rw [if_pos hk] at h'
      simp only [Bool.and_eq_true, List.isEmpty_iff] at h'
      obtain ⟨⟨⟨⟨rfl, rfl⟩, rfl⟩, hkc⟩, hall⟩ := h'
      have hD : ∀ f ∈ l, ∀ Y, oneO d (textF f ++ Y) = some (f, Y) := fun f hf Y => oneO_text d f Y (List.all_eq_true.1 hall f hf)
      have hT : textF (.mk k [] [] [] l) ++ X = 40 :: (signF k ++ (textFs l ++ 41 :: X)) := by
        rw [textF]
        simp [quo, starJ]
      have hkd := kidsO_text l (textFs l ++ 41 :: X).length X hD (by have := textFs_len l; simp; omega)
      rw [hT]
      unfold holdsC at hk
      simp only [Bool.or_eq_true, decide_eq_true_eq] at hk
      have hb : ∀ c, (c = 38 ∨ c = 124 ∨ c = 33) → bodyO (oneO d) c (textFs l ++ 41 :: X) = some (.mk (holdO c) [] [] [] l, 41 :: X) := fun c hc => by
        unfold bodyO
        rw [if_pos hc, hkd]
        rfl
      rcases hk with (rfl | rfl) | rfl
      · show (match bodyO (oneO d) 38 (textFs l ++ 41 :: X) with
          | some (f, 41 :: X) => some (f, X)
          | _ => none) = _
        rw [hb 38 (by decide)]; rfl
      · show (match bodyO (oneO d) 124 (textFs l ++ 41 :: X) with
          | some (f, 41 :: X) => some (f, X)
          | _ => none) = _
        rw [hb 124 (by decide)]; rfl
      · show (match bodyO (oneO d) 33 (textFs l ++ 41 :: X) with
          | some (f, 41 :: X) => some (f, X)
          | _ => none) = _
        rw [hb 33 (by decide)]; rfl
    · rw [if_neg hk] at h'
      obtain ⟨hty, hl⟩ := okLeaf_type h'
      have : l = [] := List.eq_nil_of_length_eq_zero hl
      subst this
      have hT : textF (.mk k t v p []) ++ X = 40 :: (t ++ (signF k ++ (quo v ++ (starJ p ++ 41 :: X)))) := by
        rw [textF]
        simp [textFs]
      rw [hT]
      obtain ⟨c, r, ht, hc⟩ : ∃ c r, t = c :: r ∧ letC c = true := by
        unfold okType at hty
        simp only [Bool.and_eq_true] at hty
        cases t with
        | nil => simp at hty
        | cons c r => exact ⟨c, r, rfl, hty.1.2⟩
      have hcs : ¬ (c = 38 ∨ c = 124 ∨ c = 33) := by
        have hh : (!letC c || (c != 38 && c != 124 && c != 33)) = true := all_bytes (fun c => !letC c || (c != 38 && c != 124 && c != 33)) (by decide +kernel) c
        rw [hc] at hh
        simp at hh
        rintro (e | e | e)
        · exact hh.1.1 e
        · exact hh.1.2 e
        · exact hh.2 e
      have hlf := leafO_text (k := k) (t := t) (v := v) (p := p) (by simpa using h') X
      rw [ht] at hlf
      have hb : bodyO (oneO d) c (r ++ (signF k ++ (quo v ++ (starJ p ++ 41 :: X)))) = some (.mk k t v p [], 41 :: X) := by
        unfold bodyO
        rw [if_neg hcs, ht]
        exact hlf
      rw [ht] at hb ⊢
      show (match bodyO (oneO d) c (r ++ (signF k ++ (quo v ++ (starJ p ++ 41 :: X)))) with
        | some (f, 41 :: X) => some (f, X)
        | _ => none) = _
      rw [hb]
      rfl
/-- ParseFilter. -/
noncomputable def gotO (s : List UInt8) : Option FT := match oneO 13 s with
  | some (f, []) => if mayF 13 f = true ∧ textF f = s then some f else none
  | _ => none
theorem gotO_parse (s : List UInt8) : gotO s = parseF s := by
  cases hp : parseF s with
  | some g =>
    obtain ⟨hm, ht⟩ := parse_soundF hp
    have h1 := oneO_text 13 g [] hm
    rw [List.append_nil, ht] at h1
    unfold gotO
    rw [h1]
    simp [hm, ht]
  | none =>
    unfold gotO
    split
    · rename_i f h
      split
      · rename_i h2
        have := parse_textF h2.1
        rw [h2.2, hp] at this
        cases this
      · rfl
    · rfl
end Go.Proofs.YtmpicolplknomaaDoor
