/- Filters: what reads a text tells the filter whose text it is, and no other. No program. -/
import Derived.Test.YtmilgbkkibahlaaGreatDoorFiPure
namespace Go.Proofs.YtmilgbkkibahlaaGreatDoor
set_option linter.unusedVariables false
set_option linter.unusedSimpArgs false

theorem tw_cut (P : UInt8 → Bool) : ∀ (a : List UInt8) (c : UInt8) (X : List UInt8), a.all P = true → P c = false → (a ++ c :: X).takeWhile P = a ∧ (a ++ c :: X).dropWhile P = c :: X
  | [], c, X, _, hc => by simp [List.takeWhile_cons, List.dropWhile_cons, hc]
  | b :: a, c, X, h, hc => by
    simp only [List.all_cons, Bool.and_eq_true] at h
    obtain ⟨h1, h2⟩ := tw_cut P a c X h.2 hc
    simp [List.takeWhile_cons, List.dropWhile_cons, h.1, h1, h2]
theorem no_of_all {P : UInt8 → Bool} {a : List UInt8} {c : UInt8} (h : a.all P = true) (hc : P c = false) : a.contains c = false := by
  cases e : a.contains c with
  | false => rfl
  | true =>
    have := List.all_eq_true.1 h c (List.contains_iff_mem.1 e)
    rw [hc] at this
    cases this
theorem ne_all (x : UInt8) {a : List UInt8} (h : a.contains x = false) : a.all (fun c => decide (c ≠ x)) = true := by
  rw [List.all_eq_true]
  intro c hc
  simp only [decide_eq_true_eq]
  intro e
  subst e
  rw [List.contains_iff_mem.2 hc] at h
  cases h
theorem split_at (x : UInt8) {r : List UInt8} (h : r.contains x = true) : r = r.takeWhile (· ≠ x) ++ x :: (r.dropWhile (· ≠ x)).drop 1 ∧ (r.takeWhile (· ≠ x)).contains x = false := by
  have hm : x ∈ r := List.contains_iff_mem.1 h
  induction r with
  | nil => cases hm
  | cons c r ih =>
    by_cases hc : c = x
    · subst hc
      simp [List.takeWhile_cons, List.dropWhile_cons]
    · have hm' : x ∈ r := by
        rcases List.mem_cons.1 hm with e | e
        · exact absurd e.symm hc
        · exact e
      obtain ⟨e1, e2⟩ := ih (List.contains_iff_mem.2 hm') hm'
      have ht : (c :: r).takeWhile (· ≠ x) = c :: r.takeWhile (· ≠ x) := by simp [List.takeWhile_cons, hc]
      have hdr : (c :: r).dropWhile (· ≠ x) = r.dropWhile (· ≠ x) := by simp [List.dropWhile_cons, hc]
      rw [ht, hdr]
      refine ⟨by rw [List.cons_append, ← e1], ?_⟩
      rw [List.contains_cons, e2]
      simpa using fun e => hc e.symm

/-! ### Parts -/
theorem quo_no {v : List UInt8} {x : UInt8} (hx : cleanC x = false) : (quo v).contains x = false := no_of_all (quo_clean v) hx
theorem spl_none : ∀ (n : Nat) {l : List UInt8}, l.contains 42 = false → splS n l = [l]
  | 0, _, _ => rfl
  | n + 1, l, h => by
    show (if l.contains 42 then _ else [l]) = [l]
    rw [if_neg (by rw [h]; decide)]
theorem spl_star : ∀ (p : List (List UInt8)) (n : Nat), p ≠ [] → p.length ≤ n + 1 → splS n (starJ p) = p.map quo
  | [], _, h, _ => absurd rfl h
  | [x], n, _, _ => spl_none n (quo_no (by decide))
  | x :: y :: l, 0, _, h => by simp at h
  | x :: y :: l, n + 1, _, h => by
    have e : starJ (x :: y :: l) = quo x ++ 42 :: starJ (y :: l) := rfl
    have hc : (starJ (x :: y :: l)).contains 42 = true := by rw [e]; exact List.contains_iff_mem.2 (by simp)
    show (if (starJ (x :: y :: l)).contains 42 then (starJ (x :: y :: l)).takeWhile (· ≠ 42) :: splS n (((starJ (x :: y :: l)).dropWhile (· ≠ 42)).drop 1) else _) = _
    rw [if_pos hc]
    obtain ⟨h1, h2⟩ := tw_cut (fun c => decide (c ≠ 42)) (quo x) 42 (starJ (y :: l)) (ne_all 42 (quo_no (by decide))) (by decide)
    rw [e, h1, h2]
    show quo x :: splS n (starJ (y :: l)) = _
    rw [spl_star (y :: l) n (by simp) (by simpa using h)]
    rfl
theorem all_quo : ∀ (p : List (List UInt8)), p.all (fun x => decide (x.length ≤ 100)) = true → allV (p.map quo) = some p
  | [], _ => rfl
  | x :: l, h => by
    simp only [List.all_cons, Bool.and_eq_true, decide_eq_true_eq] at h
    show (match valQ 100 (quo x), allV (l.map quo) with
      | some v, some r => some (v :: r)
      | _, _ => none) = _
    rw [val_quo, if_pos h.1, all_quo l h.2]
/-- Texts with stars between, as they are. -/
def joinS : List (List UInt8) → List UInt8
  | [] => []
  | [x] => x
  | x :: y :: l => x ++ 42 :: joinS (y :: l)
theorem star_join : ∀ p : List (List UInt8), starJ p = joinS (p.map quo)
  | [] => rfl
  | [x] => rfl
  | x :: y :: l => by
    show quo x ++ 42 :: starJ (y :: l) = quo x ++ 42 :: joinS ((y :: l).map quo)
    rw [star_join (y :: l)]
theorem spl_ne : ∀ (n : Nat) (l : List UInt8), splS n l ≠ []
  | 0, _ => by simp [splS]
  | n + 1, l => by
    show (if l.contains 42 then _ else [l]) ≠ []
    split <;> simp
theorem spl_join : ∀ (n : Nat) (l : List UInt8), joinS (splS n l) = l
  | 0, _ => rfl
  | n + 1, l => by
    show joinS (if l.contains 42 then l.takeWhile (· ≠ 42) :: splS n ((l.dropWhile (· ≠ 42)).drop 1) else [l]) = l
    by_cases h : l.contains 42 = true
    · rw [if_pos h]
      have ih := spl_join n ((l.dropWhile (· ≠ 42)).drop 1)
      have hs := split_at 42 h
      cases e : splS n ((l.dropWhile (· ≠ 42)).drop 1) with
      | nil => exact absurd e (spl_ne n _)
      | cons y q =>
        rw [e] at ih
        show l.takeWhile (· ≠ 42) ++ 42 :: joinS (y :: q) = l
        rw [ih]
        exact hs.1.symm
    · rw [if_neg h]
      rfl
theorem all_sound : ∀ (q p : List (List UInt8)), allV q = some p → q = p.map quo
  | [], p, h => by
    have : p = [] := by simpa [allV] using h.symm
    subst this
    rfl
  | x :: l, p, h => by
    have h' : (match valQ 100 x, allV l with
      | some v, some r => some (v :: r)
      | _, _ => none) = some p := h
    cases h1 : valQ 100 x with
    | none => rw [h1] at h'; cases h'
    | some v =>
      cases h2 : allV l with
      | none => rw [h1, h2] at h'; cases h'
      | some r =>
        rw [h1, h2] at h'
        obtain rfl : v :: r = p := Option.some.inj h'
        rw [(val_sound 100 x v h1).1, all_sound l r h2]
        rfl

/-! ### Leaves -/
theorem star_has {p : List (List UInt8)} (h : 2 ≤ p.length) : (starJ p).contains 42 = true := by
  match p, h with
  | x :: y :: l, _ => exact List.contains_iff_mem.2 (by show (42 : UInt8) ∈ quo x ++ 42 :: starJ (y :: l); simp)
theorem star_not {p : List (List UInt8)} (h : okParts p = true) : starJ p ≠ [42] := by
  unfold okParts at h
  simp only [Bool.and_eq_true, decide_eq_true_eq, Bool.or_eq_true] at h
  obtain ⟨⟨⟨⟨h1, h2⟩, h3⟩, h4⟩, h5⟩ := h
  match p, h1 with
  | [x, y], _ =>
    intro e
    have e' : quo x ++ 42 :: quo y = [42] := e
    have hx : quo x = [] := by
      cases hq : quo x with
      | nil => rfl
      | cons c r => rw [hq] at e'; simp at e'
    rw [hx] at e'
    have hy : quo y = [] := by simpa using e'
    have := quo_nil hx
    have := quo_nil hy
    subst_vars
    simp at h5
  | x :: y :: z :: l, _ =>
    intro e
    have e' : quo x ++ 42 :: (quo y ++ 42 :: starJ (z :: l)) = [42] := by
      cases l <;> exact e
    have := congrArg List.length e'
    simp at this
    omega
theorem ask_text {k : Int} {t v : List UInt8} {p : List (List UInt8)} (h : okLeaf k t v p 0 = true) : askD (signF k ++ (quo v ++ starJ p)) = some (k, v, p) := by
  unfold okLeaf at h
  simp only [Bool.and_eq_true] at h
  obtain ⟨_, h⟩ := h
  have eq_v : ∀ w : List UInt8, w.length ≤ 100 → valQ 100 (quo w ++ starJ []) = some w := fun w hw => by rw [show starJ [] = [] from rfl, List.append_nil, val_quo, if_pos hw]
  by_cases hk : k = 4 ∨ k = 6 ∨ k = 7
  · rw [if_pos hk] at h
    simp only [Bool.and_eq_true, decide_eq_true_eq, List.isEmpty_iff] at h
    obtain ⟨hv, rfl⟩ := h
    rcases hk with rfl | rfl | rfl
    · show askD (61 :: (quo v ++ starJ [])) = _
      have hn : (61 :: (quo v ++ starJ [])) ≠ [61, 42] := fun e => by
        have : quo v = [42] := by simpa [starJ] using e
        have h2 := quo_no (v := v) (x := 42) (by decide)
        rw [this] at h2
        simp at h2
      unfold askD
      rw [if_neg hn]
      show (if (quo v ++ starJ []).contains 42 then _ else (valQ 100 (quo v ++ starJ [])).map fun v => (4, v, [])) = _
      rw [if_neg (by rw [show starJ [] = [] from rfl, List.append_nil, quo_no (by decide)]; decide), eq_v v hv]
      rfl
    · show askD (62 :: 61 :: (quo v ++ starJ [])) = _
      unfold askD
      rw [if_neg (by simp)]
      show (valQ 100 (quo v ++ starJ [])).map _ = _
      rw [eq_v v hv]
      rfl
    · show askD (60 :: 61 :: (quo v ++ starJ [])) = _
      unfold askD
      rw [if_neg (by simp)]
      show (valQ 100 (quo v ++ starJ [])).map _ = _
      rw [eq_v v hv]
      rfl
  · rw [if_neg hk] at h
    by_cases h5 : k = 5
    · subst h5
      rw [if_pos rfl] at h
      simp only [Bool.and_eq_true, List.isEmpty_iff] at h
      obtain ⟨rfl, hp⟩ := h
      have hp' := hp
      unfold okParts at hp'
      simp only [Bool.and_eq_true, decide_eq_true_eq] at hp'
      obtain ⟨⟨⟨⟨h1, h2⟩, h3⟩, _⟩, _⟩ := hp'
      show askD (61 :: starJ p) = _
      unfold askD
      rw [if_neg (fun e => star_not hp (by simpa using e))]
      show (if (starJ p).contains 42 then (allV (splS 8 (starJ p))).map fun p => (5, [], p) else _) = _
      rw [if_pos (star_has h1), spl_star p 8 (by intro e; subst e; simp at h1) (by omega), all_quo p h3]
      rfl
    · rw [if_neg h5] at h
      by_cases h8 : k = 8
      · subst h8
        rw [if_pos rfl] at h
        simp only [Bool.and_eq_true, List.isEmpty_iff] at h
        obtain ⟨rfl, rfl⟩ := h
        rfl
      · rw [if_neg h8] at h
        cases h
theorem ask_sound {l v : List UInt8} {k : Int} {p : List (List UInt8)} (h : askD l = some (k, v, p)) : l = signF k ++ (quo v ++ starJ p) := by
  unfold askD at h
  split at h
  · rename_i e
    simp only [Option.some.injEq, Prod.mk.injEq] at h
    obtain ⟨rfl, rfl, rfl⟩ := h
    exact e
  · split at h
    · rename_i r _h
      split at h
      · obtain ⟨q, hq, e⟩ := Option.map_eq_some_iff.1 h
        simp only [Prod.mk.injEq] at e
        obtain ⟨rfl, rfl, rfl⟩ := e
        have := all_sound _ _ hq
        have hj := spl_join 8 r
        rw [this, ← star_join] at hj
        rw [← hj]
        rfl
      · obtain ⟨q, hq, e⟩ := Option.map_eq_some_iff.1 h
        simp only [Prod.mk.injEq] at e
        obtain ⟨rfl, rfl, rfl⟩ := e
        rw [(val_sound 100 r _ hq).1]
        simp [signF, starJ]
    · rename_i r _h
      obtain ⟨q, hq, e⟩ := Option.map_eq_some_iff.1 h
      simp only [Prod.mk.injEq] at e
      obtain ⟨rfl, rfl, rfl⟩ := e
      rw [(val_sound 100 r _ hq).1]
      simp [signF, starJ]
    · rename_i r _h
      obtain ⟨q, hq, e⟩ := Option.map_eq_some_iff.1 h
      simp only [Prod.mk.injEq] at e
      obtain ⟨rfl, rfl, rfl⟩ := e
      rw [(val_sound 100 r _ hq).1]
      simp [signF, starJ]
    · cases h
theorem typ_op (c : UInt8) (h : typC c = true) : opC c = false := by
  have := typ_no c h
  have : (typC c && opC c) = false := by
    have hh : (!(typC c && opC c)) = true := all_bytes (fun c => !(typC c && opC c)) (by decide +kernel) c
    simp only [Bool.not_eq_true', Bool.and_eq_false_iff] at hh ⊢
    exact hh
  rw [h] at this
  simpa using this
theorem sign_op {k : Int} (h : ¬ holdsC k = true) : ∃ c r, signF k = c :: r ∧ opC c = true ∧ c ≠ 41 ∧ r.contains 41 = false := by
  unfold holdsC at h
  simp only [Bool.or_eq_true, decide_eq_true_eq, not_or] at h
  unfold signF
  rw [if_neg h.1.1, if_neg h.1.2, if_neg h.2]
  split
  · exact ⟨_, _, rfl, by decide, by decide, by decide⟩
  · split
    · exact ⟨_, _, rfl, by decide, by decide, by decide⟩
    · split
      · exact ⟨_, _, rfl, by decide, by decide, by decide⟩
      · exact ⟨_, _, rfl, by decide, by decide, by decide⟩
theorem okLeaf_holds {k : Int} {t v : List UInt8} {p : List (List UInt8)} {n : Nat} (h : okLeaf k t v p n = true) : ¬ holdsC k = true := by
  unfold okLeaf at h
  simp only [Bool.and_eq_true] at h
  obtain ⟨_, h⟩ := h
  intro hk
  unfold holdsC at hk
  simp only [Bool.or_eq_true, decide_eq_true_eq] at hk
  rcases hk with (rfl | rfl) | rfl <;> simp at h
theorem okLeaf_type {k : Int} {t v : List UInt8} {p : List (List UInt8)} {n : Nat} (h : okLeaf k t v p n = true) : okType t = true ∧ n = 0 := by
  unfold okLeaf at h
  simp only [Bool.and_eq_true, decide_eq_true_eq] at h
  exact ⟨h.1.1, h.1.2⟩
theorem leaf_text {k : Int} {t v : List UInt8} {p : List (List UInt8)} (h : okLeaf k t v p 0 = true) : leafD (t ++ (signF k ++ (quo v ++ starJ p))) = some (.mk k t v p []) := by
  obtain ⟨c, r, hs, ho, _⟩ := sign_op (okLeaf_holds h)
  have ht := okType_all (okLeaf_type h).1
  have hall : t.all (fun c => !opC c) = true := by
    rw [List.all_eq_true]
    intro c hc
    rw [typ_op c (List.all_eq_true.1 ht c hc)]
    rfl
  obtain ⟨h1, h2⟩ := tw_cut (fun c => !opC c) t c (r ++ (quo v ++ starJ p)) hall (by rw [ho]; rfl)
  have e : t ++ (signF k ++ (quo v ++ starJ p)) = t ++ c :: (r ++ (quo v ++ starJ p)) := by rw [hs]; rfl
  have ha := ask_text h
  rw [hs] at ha
  unfold leafD
  rw [e, h1, h2]
  rw [show c :: (r ++ (quo v ++ starJ p)) = c :: r ++ (quo v ++ starJ p) from rfl, ha]
  show (if okLeaf k t v p 0 then _ else none) = _
  rw [if_pos h]
theorem leaf_sound {s : List UInt8} {f : FT} (h : leafD s = some f) : ∃ k t v p, f = .mk k t v p [] ∧ okLeaf k t v p 0 = true ∧ s = t ++ (signF k ++ (quo v ++ starJ p)) := by
  unfold leafD at h
  split at h
  · rename_i k v p ha
    split at h
    · rename_i hok
      obtain rfl := Option.some.inj h
      refine ⟨k, _, v, p, rfl, hok, ?_⟩
      rw [← ask_sound ha, List.takeWhile_append_dropWhile]
    · cases h
  · cases h

/-! ### Filters -/
theorem kids_le {k : Int} {n m : Nat} (h : kidsC k n = true) (h1 : 1 ≤ m) (hm : m ≤ n) : kidsC k m = true := by
  unfold kidsC at h ⊢
  split at h
  · rename_i e; rw [if_pos e]; simp only [decide_eq_true_eq] at h ⊢; omega
  · rename_i e; rw [if_neg e]; simp only [decide_eq_true_eq] at h ⊢; omega
theorem textF_cons (f : FT) : ∃ r, textF f = 40 :: r := by cases f; exact ⟨_, by rw [textF]⟩
theorem textFs_len : ∀ l : List FT, l.length ≤ (textFs l).length
  | [] => by simp [textFs]
  | f :: l => by
    obtain ⟨r, e⟩ := textF_cons f
    have := textFs_len l
    rw [textFs, e]
    simp
    omega
theorem textFs_append : ∀ (a b : List FT), textFs (a ++ b) = textFs a ++ textFs b
  | [], _ => by simp [textFs]
  | f :: a, b => by rw [List.cons_append, textFs, textFs_append a b, textFs, List.append_assoc]
theorem kids_text {D : List UInt8 → Option (FT × List UInt8)} {k : Int} : ∀ (l : List FT) (fu n : Nat) (X : List UInt8), (∀ f ∈ l, ∀ Y, D (textF f ++ Y) = some (f, Y)) → l.length < fu → (l ≠ [] → kidsC k (n + l.length) = true) → kidsD D k fu n (textFs l ++ 41 :: X) = some (l, 41 :: X)
  | [], 0, _, _, _, h, _ => absurd h (by simp)
  | [], fu + 1, n, X, _, _, _ => by
    show (if (textFs [] ++ 41 :: X).head? = some 41 then _ else _) = _
    rw [show textFs [] = [] from by rw [textFs]]
    exact if_pos rfl
  | f :: l, 0, _, _, _, h, _ => absurd h (by simp)
  | f :: l, fu + 1, n, X, hD, hf, hk => by
    obtain ⟨r, e⟩ := textF_cons f
    have e2 : textFs (f :: l) ++ 41 :: X = textF f ++ (textFs l ++ 41 :: X) := by rw [textFs, List.append_assoc]
    have hh : (textFs (f :: l) ++ 41 :: X).head? ≠ some 41 := by rw [e2, e]; simp
    show (if (textFs (f :: l) ++ 41 :: X).head? = some 41 then _ else match D (textFs (f :: l) ++ 41 :: X) with
      | none => none
      | some (f, r) => if kidsC k (n + 1) then (kidsD D k fu (n + 1) r).map fun (x : List FT × List UInt8) => (f :: x.1, x.2) else none) = _
    rw [if_neg hh, e2, hD f (by simp)]
    have hkl := hk (by simp)
    show (if kidsC k (n + 1) then (kidsD D k fu (n + 1) (textFs l ++ 41 :: X)).map fun (x : List FT × List UInt8) => (f :: x.1, x.2) else none) = _
    rw [if_pos (kids_le hkl (by omega) (by simp)), kids_text l fu (n + 1) X (fun g hg => hD g (by simp [hg])) (by simpa using hf) (fun _ => by rw [show n + 1 + l.length = n + (f :: l).length from by simp; omega]; exact hkl)]
    rfl
theorem hold_text {D : List UInt8 → Option (FT × List UInt8)} {k : Int} {l : List FT} {X : List UInt8} (hD : ∀ f ∈ l, ∀ Y, D (textF f ++ Y) = some (f, Y)) (hk : kidsC k l.length = true) : holdD D k (textFs l ++ 41 :: X) = some (.mk k [] [] [] l, X) := by
  unfold holdD
  rw [kids_text l _ 0 X hD (by have := textFs_len l; simp; omega) (fun _ => by rw [Nat.zero_add]; exact hk)]
  show (if kidsC k l.length then _ else none) = _
  rw [if_pos hk]
  rfl
theorem typ_41 {t : List UInt8} (h : t.all typC = true) : t.contains 41 = false := no_of_all h (by decide)
theorem star_no : ∀ p : List (List UInt8), (starJ p).contains 41 = false
  | [] => rfl
  | [x] => quo_no (by decide)
  | x :: y :: l => by
    show (quo x ++ 42 :: starJ (y :: l)).contains 41 = false
    have h1 := quo_no (v := x) (x := 41) (by decide)
    have h2 := star_no (y :: l)
    rw [← Bool.not_eq_true, List.contains_iff_mem] at h1 h2 ⊢
    simp only [List.mem_append, List.mem_cons, not_or]
    exact ⟨h1, by decide, h2⟩
theorem head_text : ∀ (d : Nat) (f : FT) (X : List UInt8), mayF d f = true → headD d (textF f ++ X) = some (f, X)
  | 0, f, X, h => by cases f; cases h
  | d + 1, .mk k t v p l, X, h => by
    have h' : (if holdsC k then t.isEmpty && v.isEmpty && p.isEmpty && kidsC k l.length && l.all (mayF d) else okLeaf k t v p l.length) = true := h
    by_cases hk : holdsC k = true
    · rw [if_pos hk] at h'
      simp only [Bool.and_eq_true, List.isEmpty_iff] at h'
      obtain ⟨⟨⟨⟨rfl, rfl⟩, rfl⟩, hkc⟩, hall⟩ := h'
      have hD : ∀ f ∈ l, ∀ Y, headD d (textF f ++ Y) = some (f, Y) := fun f hf Y => head_text d f Y (List.all_eq_true.1 hall f hf)
      have hT : textF (.mk k [] [] [] l) ++ X = 40 :: (signF k ++ (textFs l ++ 41 :: X)) := by
        rw [textF]
        simp [quo, starJ]
      rw [hT]
      unfold holdsC at hk
      simp only [Bool.or_eq_true, decide_eq_true_eq] at hk
      rcases hk with (rfl | rfl) | rfl
      · exact hold_text hD hkc
      · exact hold_text hD hkc
      · exact hold_text hD hkc
    · rw [if_neg hk] at h'
      obtain ⟨hty, hl⟩ := okLeaf_type h'
      have : l = [] := List.eq_nil_of_length_eq_zero hl
      subst this
      have hT : textF (.mk k t v p []) ++ X = 40 :: ((t ++ (signF k ++ (quo v ++ starJ p))) ++ 41 :: X) := by
        rw [textF]
        simp [textFs]
      rw [hT]
      obtain ⟨c, r, ht, hc⟩ : ∃ c r, t = c :: r ∧ letC c = true := by
        unfold okType at hty
        simp only [Bool.and_eq_true] at hty
        cases t with
        | nil => simp at hty
        | cons c r => exact ⟨c, r, rfl, hty.1.2⟩
      have hcs : c ≠ 38 ∧ c ≠ 124 ∧ c ≠ 33 := by
        have hh : (!letC c || (c != 38 && c != 124 && c != 33)) = true := all_bytes (fun c => !letC c || (c != 38 && c != 124 && c != 33)) (by decide +kernel) c
        rw [hc] at hh
        simp at hh
        exact ⟨hh.1.1, hh.1.2, hh.2⟩
      have hno : (t ++ (signF k ++ (quo v ++ starJ p))).contains 41 = false := by
        obtain ⟨c', r', hs, _, h41, hr41⟩ := sign_op hk
        have h1 := typ_41 (okType_all hty)
        have h2 := quo_no (v := v) (x := 41) (by decide)
        have h3 := star_no p
        rw [← Bool.not_eq_true, List.contains_iff_mem] at h1 h2 h3 hr41 ⊢
        rw [hs]
        simp only [List.mem_append, List.mem_cons, not_or]
        exact ⟨h1, ⟨fun e => h41 e.symm, hr41⟩, h2, h3⟩
      obtain ⟨w1, w2⟩ := tw_cut (fun c => decide (c ≠ 41)) _ 41 X (ne_all 41 hno) (by decide)
      have hcon : ((t ++ (signF k ++ (quo v ++ starJ p))) ++ 41 :: X).contains 41 = true := List.contains_iff_mem.2 (by simp)
      have hhd : ((t ++ (signF k ++ (quo v ++ starJ p))) ++ 41 :: X).head? = some c := by rw [ht]; rfl
      generalize hA : (t ++ (signF k ++ (quo v ++ starJ p))) ++ 41 :: X = A at w1 w2 hcon hhd ⊢
      show (if A.head? = some 38 then _ else if A.head? = some 124 then _ else if A.head? = some 33 then _
        else if A.contains 41 then (leafD (A.takeWhile (· ≠ 41))).map fun f => (f, (A.dropWhile (· ≠ 41)).drop 1) else none) = _
      rw [hhd, if_neg (by simpa using hcs.1), if_neg (by simpa using hcs.2.1), if_neg (by simpa using hcs.2.2), if_pos hcon, w1, w2, leaf_text (by rw [← hl]; exact h')]
      rfl
theorem kids_sound {D : List UInt8 → Option (FT × List UInt8)} {k : Int} {d : Nat} (hD : ∀ s f r, D s = some (f, r) → mayF d f = true ∧ s = textF f ++ r) : ∀ (fu n : Nat) (s : List UInt8) (l : List FT) (r : List UInt8), kidsD D k fu n s = some (l, r) → l.all (mayF d) = true ∧ s = textFs l ++ r ∧ ∃ q, r = 41 :: q
  | 0, _, _, _, _, h => by cases h
  | fu + 1, n, s, l, r, h => by
    have h' : (if s.head? = some 41 then some ([], s) else match D s with
      | none => none
      | some (f, r) => if kidsC k (n + 1) then (kidsD D k fu (n + 1) r).map fun (x : List FT × List UInt8) => (f :: x.1, x.2) else none) = some (l, r) := h
    by_cases hh : s.head? = some 41
    · rw [if_pos hh] at h'
      simp only [Option.some.injEq, Prod.mk.injEq] at h'
      obtain ⟨rfl, rfl⟩ := h'
      refine ⟨rfl, by rw [textFs]; rfl, ?_⟩
      cases s with
      | nil => cases hh
      | cons c q => simp at hh; exact ⟨q, by rw [hh]⟩
    · rw [if_neg hh] at h'
      cases e : D s with
      | none => rw [e] at h'; cases h'
      | some x =>
        obtain ⟨f, r1⟩ := x
        rw [e] at h'
        obtain ⟨h1, h2⟩ := hD s f r1 e
        have h'' : (if kidsC k (n + 1) then (kidsD D k fu (n + 1) r1).map fun (x : List FT × List UInt8) => (f :: x.1, x.2) else none) = some (l, r) := h'
        split at h''
        · obtain ⟨y, hy, e2⟩ := Option.map_eq_some_iff.1 h''
          obtain ⟨l1, r2⟩ := y
          simp only [Prod.mk.injEq] at e2
          obtain ⟨rfl, rfl⟩ := e2
          obtain ⟨g1, g2, g3⟩ := kids_sound hD fu (n + 1) r1 l1 r2 hy
          refine ⟨by rw [List.all_cons, h1, g1]; rfl, ?_, g3⟩
          rw [textFs, h2, g2, List.append_assoc]
        · cases h''
theorem hold_sound {D : List UInt8 → Option (FT × List UInt8)} {k : Int} {d : Nat} (hD : ∀ s f r, D s = some (f, r) → mayF d f = true ∧ s = textF f ++ r) (hk : holdsC k = true) {s : List UInt8} {f : FT} {r : List UInt8} (h : holdD D k s = some (f, r)) : mayF (d + 1) f = true ∧ 40 :: (signF k ++ s) = textF f ++ r := by
  unfold holdD at h
  split at h
  · cases h
  · rename_i l r1 hkd
    split at h
    · rename_i hkc
      simp only [Option.some.injEq, Prod.mk.injEq] at h
      obtain ⟨rfl, rfl⟩ := h
      obtain ⟨g1, g2, q, g3⟩ := kids_sound hD _ _ _ _ _ hkd
      refine ⟨?_, ?_⟩
      · show (if holdsC k then _ else _) = true
        rw [if_pos hk, g1, hkc]
        rfl
      · rw [g2, g3, textF]
        simp [quo, starJ]
    · cases h
theorem head_sound : ∀ (d : Nat) (s : List UInt8) (f : FT) (r : List UInt8), headD d s = some (f, r) → mayF d f = true ∧ s = textF f ++ r
  | 0, _, _, _, h => by cases h
  | d + 1, [], _, _, h => by cases h
  | d + 1, c :: r0, f, r, h => by
    by_cases hc : c = 40
    · subst hc
      have h' : (if r0.head? = some 38 then holdD (headD d) 1 (r0.drop 1) else if r0.head? = some 124 then holdD (headD d) 2 (r0.drop 1) else if r0.head? = some 33 then holdD (headD d) 3 (r0.drop 1)
        else if r0.contains 41 then (leafD (r0.takeWhile (· ≠ 41))).map fun f => (f, (r0.dropWhile (· ≠ 41)).drop 1) else none) = some (f, r) := h
      have hcut : ∀ x : UInt8, r0.head? = some x → r0 = x :: r0.drop 1 := fun x hx => by
        cases r0 with
        | nil => cases hx
        | cons y q => simp at hx; rw [hx]; rfl
      by_cases h1 : r0.head? = some 38
      · rw [if_pos h1] at h'
        obtain ⟨g1, g2⟩ := hold_sound (head_sound d) (by decide) h'
        refine ⟨g1, ?_⟩
        rw [← g2, hcut _ h1]
        rfl
      · rw [if_neg h1] at h'
        by_cases h2 : r0.head? = some 124
        · rw [if_pos h2] at h'
          obtain ⟨g1, g2⟩ := hold_sound (head_sound d) (by decide) h'
          refine ⟨g1, ?_⟩
          rw [← g2, hcut _ h2]
          rfl
        · rw [if_neg h2] at h'
          by_cases h3 : r0.head? = some 33
          · rw [if_pos h3] at h'
            obtain ⟨g1, g2⟩ := hold_sound (head_sound d) (by decide) h'
            refine ⟨g1, ?_⟩
            rw [← g2, hcut _ h3]
            rfl
          · rw [if_neg h3] at h'
            by_cases h4 : r0.contains 41 = true
            · rw [if_pos h4] at h'
              obtain ⟨g, hg, e⟩ := Option.map_eq_some_iff.1 h'
              simp only [Prod.mk.injEq] at e
              obtain ⟨rfl, rfl⟩ := e
              obtain ⟨k, t, v, p, rfl, hok, hs⟩ := leaf_sound hg
              obtain ⟨e1, _⟩ := split_at 41 h4
              refine ⟨?_, ?_⟩
              · show (if holdsC k then _ else okLeaf k t v p ([] : List FT).length) = true
                rw [if_neg (okLeaf_holds hok)]
                exact hok
              · rw [textF]
                rw [hs] at e1
                simp only [textFs, List.nil_append]
                conv => lhs; rw [e1]
                simp
            · rw [if_neg h4] at h'
              cases h'
    · exfalso
      have : headD (d + 1) (c :: r0) = none := by
        unfold headD
        split
        · rename_i r1 e
          simp only [List.cons.injEq] at e
          exact absurd e.1 hc
        · rfl
      rw [this] at h
      cases h
theorem parse_textF {f : FT} (h : mayF 13 f = true) : parseF (textF f) = some f := by
  have := head_text 13 f [] h
  rw [List.append_nil] at this
  unfold parseF
  rw [this]
theorem parse_soundF {s : List UInt8} {f : FT} (h : parseF s = some f) : mayF 13 f = true ∧ textF f = s := by
  unfold parseF at h
  split at h
  · rename_i g e
    obtain rfl := Option.some.inj h
    obtain ⟨h1, h2⟩ := head_sound 13 s g [] e
    rw [List.append_nil] at h2
    exact ⟨h1, h2.symm⟩
  · cases h
end Go.Proofs.YtmilgbkkibahlaaGreatDoor
