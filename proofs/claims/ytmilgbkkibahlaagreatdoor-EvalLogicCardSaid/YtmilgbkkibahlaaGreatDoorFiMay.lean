/- filter.holdsKids, mayKids, mayParts, mayLeaf, may, May: the walks. -/
import Derived.Test.YtmilgbkkibahlaaGreatDoorFiMem
import Derived.Deep.Cut
import Derived.Test.YtmilgbkkibahlaaGreatDoorFiType
namespace Go.Proofs.YtmilgbkkibahlaaGreatDoor
open Go.RowKit
set_option linter.unusedVariables false
set_option linter.unusedSimpArgs false

set_option maxHeartbeats 400000 in
theorem holds_any (k : Int) (w : World) : Calls Tryz.prog 28 #[.int .i64 k] w fun e w' => e = .returned (.bool (holdsC k)) ∧ w = w' := by
  obtain ⟨t1, h1⟩ : ∃ b, (k == 1) = b := ⟨_, rfl⟩
  obtain ⟨t2, h2⟩ : ∃ b, (k == 2) = b := ⟨_, rfl⟩
  obtain ⟨t3, h3⟩ : ∃ b, (k == 3) = b := ⟨_, rfl⟩
  have hr : holdsC k = (t1 || t2 || t3) := by rw [← h1, ← h2, ← h3]; unfold holdsC; rfl
  rw [hr]
  clear hr
  cases t1 <;> cases t2 <;> cases t3 <;> (go_enter Tryz.func28, Tryz.ntmps28; go_wp2; go_ret; exact ⟨rfl, rfl⟩)

set_option maxHeartbeats 400000 in
theorem mayKids_any (k : Int) (n : Nat) (w : World) : Calls Tryz.prog 30 #[.int .i64 k, .int .i64 n] w fun e w' => e = .returned (.bool (kidsC k n)) ∧ w = w' := by
  by_cases hk : k = 3
  · subst hk
    obtain ⟨t, h⟩ : ∃ b, ((n : Int) == 1) = b := ⟨_, rfl⟩
    have hr : kidsC 3 n = t := by rw [← h]; unfold kidsC; rw [if_pos rfl, Bool.eq_iff_iff]; simp; omega
    rw [hr]
    clear hr
    cases t <;> (go_enter Tryz.func30, Tryz.ntmps30; go_wp2; go_ret; exact ⟨rfl, rfl⟩)
  · have t1 : (k == 3) = false := by simpa using hk
    obtain ⟨t, h⟩ : ∃ b, decide ((n : Int) ≤ 40) = b := ⟨_, rfl⟩
    have hr : kidsC k n = t := by rw [← h]; unfold kidsC; rw [if_neg hk, Bool.eq_iff_iff]; simp; omega
    rw [hr]
    clear hr hk
    cases t <;> (go_enter Tryz.func30, Tryz.ntmps30; go_wp2; go_ret; exact ⟨rfl, rfl⟩)

theorem midNe_iff : ∀ (q : List (List UInt8)), midNe q = true ↔ ∀ i (h : i < q.length), i + 1 < q.length → q[i] ≠ []
  | [] => by simp [midNe]
  | [x] => by simp [midNe]
  | x :: y :: l => by
    rw [show midNe (x :: y :: l) = (!x.isEmpty && midNe (y :: l)) from rfl, Bool.and_eq_true, midNe_iff (y :: l)]
    constructor
    · rintro ⟨h1, h2⟩ i hi hl
      cases i with
      | zero => intro e; have : x = [] := e; rw [this] at h1; simp at h1
      | succ i => exact h2 i (by simpa using hi) (by simpa using hl)
    · intro h
      refine ⟨?_, fun i hi hl => h (i + 1) (by simpa using hi) (by simpa using hl)⟩
      have := h 0 (by simp) (by simp)
      cases x with
      | nil => exact absurd rfl this
      | cons c r => rfl
theorem okParts_iff (p : List (List UInt8)) : okParts p = true ↔ (2 ≤ p.length ∧ p.length ≤ 8) ∧ (∀ i (h : i < p.length), p[i].length ≤ 100 ∧ (0 < i → i + 1 < p.length → p[i] ≠ [])) ∧ (2 < p.length ∨ p.getD 0 [] ≠ [] ∨ p.getD (p.length - 1) [] ≠ []) := by
  have e : ∀ x : List UInt8, (!x.isEmpty) = true ↔ x ≠ [] := fun x => by cases x <;> simp
  unfold okParts
  simp only [Bool.and_eq_true, Bool.or_eq_true, decide_eq_true_eq, List.all_eq_true, midNe_iff, e]
  constructor
  · rintro ⟨⟨⟨⟨h1, h2⟩, h3⟩, h4⟩, h5⟩
    refine ⟨⟨h1, h2⟩, fun i hi => ⟨by simpa using h3 _ (List.getElem_mem hi), fun h0 hl => ?_⟩, by rcases h5 with (h | h) | h; exact .inl h; exact .inr (.inl h); exact .inr (.inr h)⟩
    have := h4 (i - 1) (by simp; omega) (by simp; omega)
    rw [List.getElem_drop] at this
    simpa [show 1 + (i - 1) = i from by omega] using this
  · rintro ⟨⟨h1, h2⟩, h3, h5⟩
    refine ⟨⟨⟨⟨h1, h2⟩, fun x hx => ?_⟩, fun i hi hl => ?_⟩, by rcases h5 with h | h | h; exact .inl (.inl h); exact .inl (.inr h); exact .inr h⟩
    · obtain ⟨i, hi, rfl⟩ := List.getElem_of_mem hx
      exact (h3 i hi).1
    · rw [List.getElem_drop]
      refine (h3 (1 + i) (by simp at hi; omega)).2 (by omega) ?_
      simp at hl
      omega
theorem strV_text (t : List UInt8) : ∃ T : ByteArray, strV t = .string T ∧ T.data.toList = t := ⟨ofL t, rfl, ofL_list t⟩

set_option maxRecDepth 100000 in
set_option maxHeartbeats 4000000 in
theorem mayParts_any (p : List (List UInt8)) (v : Value) (w : World) (h : IsTo (Lt w) w p v) : Calls Tryz.prog 37 #[v] w fun e w' => e = .returned (.bool (okParts p)) ∧ w = w' := by
  obtain ⟨a, c, rfl, hm, hcell⟩ := h
  obtain ⟨n, hn⟩ : ∃ n, n = p.length := ⟨_, rfl⟩
  have HI : Hid (okParts p = true ↔ (2 ≤ n ∧ n ≤ 8) ∧ (∀ i (h : i < p.length), p[i].length ≤ 100 ∧ (0 < i → i + 1 < n → p[i] ≠ [])) ∧ (2 < n ∨ p.getD 0 [] ≠ [] ∨ p.getD (n - 1) [] ≠ [])) := Lib.hid (by rw [hn]; exact okParts_iff p)
  rw [← hn] at hm ⊢
  unfold maxLen at hm
  have HN := Lib.hid hn
  have HC := Lib.hid hcell
  clear hcell hn
  by_cases h2 : n < 2
  · have t1 : decide (n < 2) = true := by simpa using h2
    have t1' : decide ((n : Int) < 2) = true := by simp; omega
    have hr : okParts p = false := by rw [← Bool.not_eq_true, HI.out]; omega
    rw [hr]
    go_enter Tryz.func37, Tryz.ntmps37
    go_wp2
    go_ret
    exact ⟨rfl, rfl⟩
  · have t1 : decide ((n : Int) < 2) = false := by simp; omega
    by_cases h8 : 8 < n
    · have t2 : decide ((8 : Int) < (n : Int)) = true := by simp; omega
      have hr : okParts p = false := by rw [← Bool.not_eq_true, HI.out]; omega
      rw [hr]
      go_enter Tryz.func37, Tryz.ntmps37
      go_wp2
      go_ret
      exact ⟨rfl, rfl⟩
    · have t2 : decide ((8 : Int) < (n : Int)) = false := by simp; omega
      obtain ⟨b, off, rfl, hb, hc⟩ : ∃ b off, a = some ⟨b, off, none⟩ ∧ b < w.heap.size ∧ ∀ j, (h : j < p.length) → w.cell? ⟨b, off + j, none⟩ = some (strV p[j]) := by
        obtain ⟨b, off, e, hb, _⟩ := HC.out 0 (by rw [← HN.out]; omega)
        refine ⟨b, off, e, hb, fun j hj => ?_⟩
        obtain ⟨b', off', e', _, h'⟩ := HC.out j hj
        rw [e] at e'
        simp only [Option.some.injEq, Addr.mk.injEq, and_true] at e'
        obtain ⟨rfl, rfl⟩ := e'
        exact h'
      have HCe := Lib.hid hc
      clear HC hc
      go_enter Tryz.func37, Tryz.ntmps37
      go_wp2
      go_loop [19] (fun i => ∃ j : Nat, j ≤ n ∧ i = .int .i64 j ∧ Hid (∀ i (h : i < p.length), i < j → p[i].length ≤ 100 ∧ (0 < i → i + 1 < n → p[i] ≠ []))) (fun i => n - (intOf i).toNat)
      case atStart => exact ⟨0, by omega, rfl, Lib.hid (fun i _ h => absurd h (by omega))⟩
      case round =>
        obtain ⟨j, hj, rfl, HA⟩ := hrel
        by_cases hlt : j < n
        · have hjl : j < p.length := by rw [← HN.out]; exact hlt
          have ti0 : (0 : Int) ≤ (j : Int) := by omega
          have ti1 : (j : Int) < (n : Int) := by omega
          obtain ⟨T, hT, hTl⟩ := strV_text p[j]
          have hcj : w.cell? ⟨b, off + j, none⟩ = some (.string T) := by rw [← hT]; exact HCe.out j hjl
          have hTs : T.size = p[j].length := by rw [← bytes_len, hTl]
          by_cases hbig : 100 < T.size
          · have t3 : decide ((100 : Int) < (T.size : Int)) = true := by simp; omega
            have hr : okParts p = false := by rw [← Bool.not_eq_true, HI.out]; rintro ⟨_, h, _⟩; have := (h j (by rw [← HN.out]; exact hlt)).1; omega
            have HRr := Lib.hid hr
            clear hr
            clear hT hTl hTs
            go_wp2
            go_ret
            exact ⟨by rw [HRr.out]; rfl, rfl⟩
          · have t3 : decide ((100 : Int) < (T.size : Int)) = false := by simp; omega
            by_cases he : T.data.toList = []
            · obtain ⟨e1, e2⟩ := bytes_nil he
              by_cases hmid : 0 < j ∧ j + 1 < n
              · have t4 : decide ((0 : Int) < (j : Int)) = true := by simp; omega
                have t4' : decide (0 < j) = true := by simp; omega
                have t5 : decide ((j : Int) < (n : Int) - 1) = true := by simp; omega
                have hr : okParts p = false := by
                  rw [← Bool.not_eq_true, HI.out]
                  rintro ⟨_, h, _⟩
                  exact (h j (by rw [← HN.out]; exact hlt)).2 hmid.1 (by omega) (by rw [← hTl]; exact he)
                have HRr := Lib.hid hr
                clear hr
                clear hT hTl hTs he
                go_wp2
                go_ret
                exact ⟨by rw [HRr.out]; rfl, rfl⟩
              · have HA2 : Hid (∀ i (h : i < p.length), i < j + 1 → p[i].length ≤ 100 ∧ (0 < i → i + 1 < n → p[i] ≠ [])) := Lib.hid (fun i hi hij => by
                  by_cases e : i = j
                  · subst e
                    exact ⟨by omega, fun h0 h1 => absurd ⟨h0, h1⟩ hmid⟩
                  · exact HA.out i hi (by omega))
                clear hT hTl hTs he
                by_cases h0 : 0 < j
                · have t4 : decide ((0 : Int) < (j : Int)) = true := by simp; omega
                  have t4' : decide (0 < j) = true := by simp; omega
                  have t5 : decide ((j : Int) < (n : Int) - 1) = false := by simp; omega
                  go_wp2
                  go_round
                  case rel => exact ⟨j + 1, by omega, by go_num, HA2⟩
                  case measure => simp [intOf]; omega
                · have t4 : decide ((0 : Int) < (j : Int)) = false := by simp; omega
                  have t4' : decide (0 < j) = false := by simp; omega
                  go_wp2
                  go_round
                  case rel => exact ⟨j + 1, by omega, by go_num, HA2⟩
                  case measure => simp [intOf]; omega
            · obtain ⟨e1, e2⟩ := bytes_some he
              have HA2 : Hid (∀ i (h : i < p.length), i < j + 1 → p[i].length ≤ 100 ∧ (0 < i → i + 1 < n → p[i] ≠ [])) := Lib.hid (fun i hi hij => by
                by_cases e : i = j
                · subst e
                  exact ⟨by omega, fun _ _ e => he (by rw [hTl]; exact e)⟩
                · exact HA.out i hi (by omega))
              clear hT hTl hTs he
              go_wp2
              go_round
              case rel => exact ⟨j + 1, by omega, by go_num, HA2⟩
              case measure => simp [intOf]; omega
        · have hend : j = n := by omega
          have HAll : Hid (∀ i (h : i < p.length), p[i].length ≤ 100 ∧ (0 < i → i + 1 < n → p[i] ≠ [])) := Lib.hid (fun i hi => HA.out i hi (by rw [← HN.out] at hi; omega))
          obtain ⟨T0, hT0, hTl0⟩ := strV_text (p.getD 0 [])
          obtain ⟨T1, hT1, hTl1⟩ := strV_text (p.getD (n - 1) [])
          have hc0 : w.cell? ⟨b, off, none⟩ = some (.string T0) := by
            have := HCe.out 0 (by rw [← HN.out]; omega)
            rw [Nat.add_zero] at this
            rw [this, ← hT0, List.getD_eq_getElem?_getD, List.getElem?_eq_getElem (by rw [← HN.out]; omega)]
            rfl
          have hc1 : w.cell? ⟨b, off + (n - 1), none⟩ = some (.string T1) := by
            rw [HCe.out (n - 1) (by rw [← HN.out]; omega), ← hT1, List.getD_eq_getElem?_getD, List.getElem?_eq_getElem (by rw [← HN.out]; omega)]
            rfl
          have ti2 : (0 : Int) ≤ (n : Int) - 1 := by omega
          have ti3 : (n : Int) - 1 < (n : Int) := by omega
          have ti4 : (0 : Int) < (n : Int) := by omega
          have ti5 : ((n : Int) - 1).toNat = n - 1 := by omega
          have ti6 : ¬ n = 0 := by omega
          by_cases hn2 : 2 < n
          · have t6 : decide ((1 : Int) < (n : Int) - 1) = true := by simp; omega
            have hr : okParts p = true := HI.out.2 ⟨⟨by omega, by omega⟩, HAll.out, .inl hn2⟩
            have HRr := Lib.hid hr
            clear hr
            clear hend hT0 hTl0 hT1 hTl1
            go_wp2
            go_ret
            exact ⟨by rw [HRr.out]; rfl, rfl⟩
          · have t6 : decide ((1 : Int) < (n : Int) - 1) = false := by simp; omega
            by_cases g0 : T0.data.toList = []
            · obtain ⟨e1, e2⟩ := bytes_nil g0
              by_cases g1 : T1.data.toList = []
              · obtain ⟨e3, e4⟩ := bytes_nil g1
                have hr : okParts p = false := by
                  rw [← Bool.not_eq_true, HI.out]
                  rintro ⟨_, _, h | h | h⟩
                  · omega
                  · exact h (by rw [← hTl0]; exact g0)
                  · exact h (by rw [← hTl1]; exact g1)
                have HRr := Lib.hid hr
                clear hr
                clear hend hT0 hTl0 hT1 hTl1 g0 g1
                go_wp2
                go_ret
                exact ⟨by rw [HRr.out]; rfl, rfl⟩
              · obtain ⟨e3, e4⟩ := bytes_some g1
                have hr : okParts p = true := HI.out.2 ⟨⟨by omega, by omega⟩, HAll.out, .inr (.inr (by rw [← hTl1]; exact g1))⟩
                have HRr := Lib.hid hr
                clear hr
                clear hend hT0 hTl0 hT1 hTl1 g0 g1
                go_wp2
                go_ret
                exact ⟨by rw [HRr.out]; rfl, rfl⟩
            · obtain ⟨e1, e2⟩ := bytes_some g0
              have hr : okParts p = true := HI.out.2 ⟨⟨by omega, by omega⟩, HAll.out, .inr (.inl (by rw [← hTl0]; exact g0))⟩
              have HRr := Lib.hid hr
              clear hr
              clear hend hT0 hTl0 hT1 hTl1 g0
              go_wp2
              go_ret
              exact ⟨by rw [HRr.out]; rfl, rfl⟩

/-- A box that holds a filter's five cells. -/
theorem box5 (w : World) (x0 x1 x2 x3 x4 : Value) : Below w.heap.size w (w.alloc (.cells #[x0, x1, x2, x3, x4] 31)) := (Below.refl _ _).alloc (Nat.le_refl _) _

set_option maxRecDepth 100000 in
set_option maxHeartbeats 4000000 in
theorem mayLeaf_any (k : Int) (t x : List UInt8) (p : List (List UInt8)) (l : List FT) (v : Value) (w : World) (h : IsFl (Lt w) w (.mk k t x p l) v) :
    Calls Tryz.prog 29 #[v] w fun e w' => e = .returned (.bool (okLeaf k t x p l.length)) ∧ Below w.heap.size w w' := by
  obtain ⟨pa, pc, ka, kc, rfl, hwf, ht, hx, hp, hl, _⟩ := h.parts
  obtain ⟨T, hT, hTl⟩ := strV_text t
  obtain ⟨X, hX, hXl⟩ := strV_text x
  rw [hT, hX]
  obtain ⟨n, hn⟩ : ∃ n, n = l.length := ⟨_, rfl⟩
  obtain ⟨m, hm⟩ : ∃ m, m = p.length := ⟨_, rfl⟩
  rw [← hn] at hl ⊢
  rw [← hm] at hp ⊢
  have hXs : X.size = x.length := by rw [← bytes_len, hXl]
  have hme : p.isEmpty = decide (m = 0) := by rw [hm]; cases p <;> simp
  have hxe : x.isEmpty = decide (X.data.toList = []) := by rw [hXl]; cases x <;> simp
  have hmm : m ≤ maxLen := by rw [hm]; exact hp.choose_spec.choose_spec.2.1
  have hb := box5 w (.int .i64 k) (.string T) (.string X) (.slice pa m pc) (.slice ka n kc)
  have hpt : ∀ W, Below w.heap.size w W → Calls Tryz.prog 37 #[.slice pa m pc] W fun e w' => e = .returned (.bool (okParts p)) ∧ W = w' := fun W hW => by
    have := hp.imp (ok' := Lt W) (w' := W) (fun b h => Nat.lt_of_lt_of_le h hW.size) (fun b o h => hW.cell (p := ⟨b, o, none⟩) h)
    exact mayParts_any p _ W this
  have hty := fun W => mayTypeFl_any T W
  rw [hTl] at hty
  unfold maxLen at hl hmm
  have HT := Lib.hid hty
  have HP := Lib.hid hpt
  have HB := Lib.hid hb
  have HL : Hid (okLeaf k t x p n = (okType t && decide (n = 0) && (if k = 4 ∨ k = 6 ∨ k = 7 then decide (X.size ≤ 100) && decide (m = 0) else if k = 5 then decide (X.data.toList = []) && okParts p else if k = 8 then decide (X.data.toList = []) && decide (m = 0) else false))) := Lib.hid (by unfold okLeaf; rw [hme, hxe, hXs])
  clear hty hpt hb hT hTl hX hXl hn hm hXs hme hxe hp h ht hx hwf
  rw [HL.out]
  cases hb0 : okType t with
  | false =>
    rw [hb0] at HT
    rw [Bool.false_and, Bool.false_and]
    go_enter Tryz.func29, Tryz.ntmps29
    go_wp2_with (go_at_call 36; refine (HT.out _).mono ?_; rintro e w2 ⟨rfl, rfl⟩)
    go_ret
    exact ⟨rfl, HB.out⟩
  | true =>
    rw [hb0] at HT
    by_cases hn0 : n = 0
    · have tn : decide ((0 : Int) < (n : Int)) = false := by simp; omega
      have tn' : decide (0 < n) = false := by simp; omega
      rw [decide_eq_true hn0]
      clear hn0 hb0
      by_cases h4 : k = 4 ∨ k = 6 ∨ k = 7
      · rw [if_pos h4]
        by_cases hv : X.size ≤ 100
        · have t3 : decide ((X.size : Int) ≤ 100) = true := by simp; omega
          rw [decide_eq_true hv]
          by_cases hm0 : m = 0
          · have t4 : ((m : Int) == 0) = true := by simp; omega
            rw [decide_eq_true hm0]
            clear hm0 hv
            rcases h4 with rfl | rfl | rfl
            all_goals
              go_enter Tryz.func29, Tryz.ntmps29
              go_wp2_with (go_at_call 36; refine (HT.out _).mono ?_; rintro e w2 ⟨rfl, rfl⟩)
              go_ret
              exact ⟨rfl, HB.out⟩
          · have t4 : ((m : Int) == 0) = false := by simp; omega
            rw [decide_eq_false hm0]
            clear hm0 hv
            rcases h4 with rfl | rfl | rfl
            all_goals
              go_enter Tryz.func29, Tryz.ntmps29
              go_wp2_with (go_at_call 36; refine (HT.out _).mono ?_; rintro e w2 ⟨rfl, rfl⟩)
              go_ret
              exact ⟨rfl, HB.out⟩
        · have t3 : decide ((X.size : Int) ≤ 100) = false := by simp; omega
          rw [decide_eq_false hv]
          clear hv
          rcases h4 with rfl | rfl | rfl
          all_goals
            go_enter Tryz.func29, Tryz.ntmps29
            go_wp2_with (go_at_call 36; refine (HT.out _).mono ?_; rintro e w2 ⟨rfl, rfl⟩)
            go_ret
            exact ⟨rfl, HB.out⟩
      · rw [if_neg h4]
        simp only [not_or] at h4
        have k4 : (k == 4) = false := by simpa using h4.1
        have k6 : (k == 6) = false := by simpa using h4.2.1
        have k7 : (k == 7) = false := by simpa using h4.2.2
        clear h4
        by_cases h5 : k = 5
        · subst h5
          rw [if_pos rfl]
          by_cases he : X.data.toList = []
          · obtain ⟨e1, e2⟩ := bytes_nil he
            rw [decide_eq_true he]
            obtain ⟨pb, hpb⟩ : ∃ b, b = okParts p := ⟨_, rfl⟩
            rw [← hpb] at HP ⊢
            clear he hpb
            go_enter Tryz.func29, Tryz.ntmps29
            go_wp2_with (first
              | (go_at_call 36; refine (HT.out _).mono ?_; rintro e w2 ⟨rfl, rfl⟩)
              | (go_at_call 37; refine (HP.out _ HB.out).mono ?_; rintro e w3 ⟨rfl, rfl⟩))
            go_ret
            exact ⟨rfl, HB.out⟩
          · obtain ⟨e1, e2⟩ := bytes_some he
            rw [decide_eq_false he]
            clear he
            go_enter Tryz.func29, Tryz.ntmps29
            go_wp2_with (go_at_call 36; refine (HT.out _).mono ?_; rintro e w2 ⟨rfl, rfl⟩)
            go_ret
            exact ⟨rfl, HB.out⟩
        · have k5 : (k == 5) = false := by simpa using h5
          rw [if_neg h5]
          clear h5
          by_cases h8 : k = 8
          · subst h8
            rw [if_pos rfl]
            by_cases he : X.data.toList = []
            · obtain ⟨e1, e2⟩ := bytes_nil he
              rw [decide_eq_true he]
              by_cases hm0 : m = 0
              · have t4 : ((m : Int) == 0) = true := by simp; omega
                rw [decide_eq_true hm0]
                clear hm0 he
                go_enter Tryz.func29, Tryz.ntmps29
                go_wp2_with (go_at_call 36; refine (HT.out _).mono ?_; rintro e w2 ⟨rfl, rfl⟩)
                go_ret
                exact ⟨rfl, HB.out⟩
              · have t4 : ((m : Int) == 0) = false := by simp; omega
                rw [decide_eq_false hm0]
                clear hm0 he
                go_enter Tryz.func29, Tryz.ntmps29
                go_wp2_with (go_at_call 36; refine (HT.out _).mono ?_; rintro e w2 ⟨rfl, rfl⟩)
                go_ret
                exact ⟨rfl, HB.out⟩
            · obtain ⟨e1, e2⟩ := bytes_some he
              rw [decide_eq_false he]
              clear he
              go_enter Tryz.func29, Tryz.ntmps29
              go_wp2_with (go_at_call 36; refine (HT.out _).mono ?_; rintro e w2 ⟨rfl, rfl⟩)
              go_ret
              exact ⟨rfl, HB.out⟩
          · have k8 : (k == 8) = false := by simpa using h8
            rw [if_neg h8]
            clear h8
            go_enter Tryz.func29, Tryz.ntmps29
            go_wp2_with (go_at_call 36; refine (HT.out _).mono ?_; rintro e w2 ⟨rfl, rfl⟩)
            go_ret
            exact ⟨rfl, HB.out⟩
    · have tn : decide ((0 : Int) < (n : Int)) = true := by simp; omega
      have tn' : decide (0 < n) = true := by simp; omega
      rw [decide_eq_false hn0, Bool.and_false, Bool.false_and]
      clear hn0 hb0
      go_enter Tryz.func29, Tryz.ntmps29
      go_wp2_with (go_at_call 36; refine (HT.out _).mono ?_; rintro e w2 ⟨rfl, rfl⟩)
      go_ret
      exact ⟨rfl, HB.out⟩
end Go.Proofs.YtmilgbkkibahlaaGreatDoor
