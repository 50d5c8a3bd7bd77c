/- The document's may, MayFilter: the walks. -/
import Derived.Test.YtmilgbkkibahlaaGreatDoorFiRSim
namespace Go.Proofs.YtmilgbkkibahlaaGreatDoor
open Go.RowKit
set_option linter.unusedVariables false
set_option linter.unusedSimpArgs false

theorem mayFl_leaf {d : Nat} {k : Int} {t x : List UInt8} {p : List (List UInt8)} {l : List FT} (h : ¬ holdsC k = true) : mayF (d + 1) (.mk k t x p l) = (decide (l.length = 0) && simpleD k t x p) := by
  show (if holdsC k then _ else okLeaf k t x p l.length) = _
  rw [if_neg h, simple_leaf]
theorem mayFl_hold {d : Nat} {k : Int} {t x : List UInt8} {p : List (List UInt8)} {l : List FT} (h : holdsC k = true) : mayF (d + 1) (.mk k t x p l) = (t.isEmpty && x.isEmpty && p.isEmpty && kidsC k l.length && l.all (mayF d)) := by
  show (if holdsC k then _ else okLeaf k t x p l.length) = _
  rw [if_pos h]
/-- What may asks of its kids, the limit being d. -/
def KidsOk (d : Nat) (l : List FT) : Bool := l.all (mayF d)
theorem kidsOk_zero {l : List FT} (h : l ≠ []) : KidsOk 0 l = false := by
  cases l with
  | nil => exact absurd rfl h
  | cons f l => rfl
/-- What may tells, one deeper. -/
def MaysR (d : Nat) : Prop := ∀ (f : FT) (v : Value) (w : World), IsFl (Lt w) w f v →
  Calls Tryz.prog 17 #[v, .int .i64 (d : Nat)] w fun e w' => e = .returned (.bool (mayF (d + 1) f)) ∧ Below w.heap.size w w'

set_option maxRecDepth 100000 in
set_option maxHeartbeats 8000000 in
theorem mayR_zero (f : FT) (v : Value) (w : World) (h : IsFl (Lt w) w f v) :
    Calls Tryz.prog 17 #[v, .int .i64 0] w fun e w' => e = .returned (.bool (mayF (0 + 1) f)) ∧ Below w.heap.size w w' := by
  obtain ⟨k, t, x, p, l⟩ := f
  have hsim := fun W (hW : Below w.heap.size w W) => simpleR_any k t x p l v W (h.imp (fun b h => Nat.lt_of_lt_of_le h hW.size) (fun b o h => hW.cell (p := ⟨b, o, none⟩) h))
  obtain ⟨pa, pc, ka, kc, rfl, hwf, ht, hx, hp, hl, hkids⟩ := h.parts
  obtain ⟨T, hT, hTl⟩ := strV_text t
  obtain ⟨X, hX, hXl⟩ := strV_text x
  rw [hT, hX] at hsim ⊢
  have hte : t.isEmpty = decide (T.data.toList = []) := by rw [hTl]; cases t <;> simp
  have hxe : x.isEmpty = decide (X.data.toList = []) := by rw [hXl]; cases x <;> simp
  have hpe : p.isEmpty = decide (p.length = 0) := by cases p <;> simp
  obtain ⟨R, hR⟩ : ∃ R, R = mayF (0 + 1) (.mk k t x p l) := ⟨_, rfl⟩
  rw [← hR]
  have hr1 : ¬ holdsC k = true → R = (decide (l.length = 0) && simpleD k t x p) := fun h => hR.trans (mayFl_leaf h)
  have hr2 : holdsC k = true → R = (decide (T.data.toList = []) && decide (X.data.toList = []) && decide (p.length = 0) && kidsC k l.length && KidsOk 0 l) := fun h => by rw [hR, mayFl_hold h, hte, hxe, hpe]; rfl
  obtain ⟨q, hq⟩ : ∃ q, q = l.length := ⟨_, rfl⟩
  obtain ⟨m, hm⟩ : ∃ m, m = p.length := ⟨_, rfl⟩
  rw [← hq] at hl hsim hr1 hr2 ⊢
  rw [← hm] at hsim hr2 ⊢
  have hmm : m ≤ maxLen := by rw [hm]; exact hp.choose_spec.choose_spec.2.1
  unfold maxLen at hl hmm
  obtain ⟨W0, hW0⟩ : ∃ W, W = w.alloc (.cells #[.int .i64 k, .string T, .string X, .slice pa m pc, .slice ka q kc] 31) := ⟨_, rfl⟩
  have hb0 : Below w.heap.size w W0 := by rw [hW0]; exact box5 w _ _ _ _ _
  have hx0 : FlAt W0 w.heap.size (.int .i64 k) (.string T) (.string X) (.slice pa m pc) (.slice ka q kc) := by rw [hW0]; exact heap_alloc_new w _
  obtain ⟨c0, c1, c2, c3, c4⟩ := fl_cells hx0
  have HR1 := Lib.hid hr1
  have HR2 := Lib.hid hr2
  have HQ := Lib.hid hq
  have HW0 := Lib.hid hW0.symm
  have HB0 := Lib.hid hb0
  have HX0 := Lib.hid hx0
  have HSim := Lib.hid (hsim W0 hb0)
  have HKids := Lib.hid hkids
  clear hsim hT hTl hX hXl hte hxe hpe hR hr1 hr2 hq hm hb0 hx0 hW0 hwf ht hx hp h hkids
  by_cases hk : holdsC k = true
  · have h3 : k = 1 ∨ k = 2 ∨ k = 3 := by
      unfold holdsC at hk
      simp only [Bool.or_eq_true, decide_eq_true_eq] at hk
      omega
    have hr := HR2.out hk
    clear hk
    by_cases hT0 : T.data.toList = []
    · obtain ⟨e1, e2⟩ := bytes_nil hT0
      rw [decide_eq_true hT0, Bool.true_and] at hr
      clear hT0
      by_cases hX0 : X.data.toList = []
      · obtain ⟨e3, e4⟩ := bytes_nil hX0
        rw [decide_eq_true hX0, Bool.true_and] at hr
        clear hX0
        by_cases hm0 : m = 0
        · have t3 : decide ((0 : Int) < (m : Int)) = false := by simp; omega
          have t3' : decide (0 < m) = false := by simp; omega
          rw [decide_eq_true hm0, Bool.true_and] at hr
          clear hm0
          rcases h3 with rfl | rfl | rfl
          · by_cases hq40 : q ≤ 40
            · have t4 : decide ((40 : Int) < (q : Int)) = false := by simp; omega
              have t4' : decide (40 < q) = false := by simp; omega
              have hkc : kidsC 1 q = true := by unfold kidsC; rw [if_neg (by decide)]; simpa using hq40
              rw [hkc, Bool.true_and] at hr
              clear hkc
              by_cases hq0 : q = 0
              · have t6 : decide ((0 : Int) < (q : Int)) = false := by simp; omega
                have t6' : decide (0 < q) = false := by simp; omega
                have hk0 : KidsOk 0 l = true := by
                  have : l = [] := List.eq_nil_of_length_eq_zero (by rw [← HQ.out]; exact hq0)
                  rw [this]; rfl
                rw [hk0] at hr
                have HR := Lib.hid hr
                clear hk0 hr hq0
                go_enter Tryz.func17, Tryz.ntmps17
                go_upto_region 1 with (fail)
                rw [HW0.out]
                go_wp2
                go_loop [6] (fun i => i = .int .i64 0) (fun _ => 0)
                case atStart => rfl
                case round =>
                  obtain rfl := hrel
                  go_wp2
                  go_ret
                  exact ⟨by rw [HR.out]; rfl, HB0.out⟩
              · have t6 : decide ((0 : Int) < (q : Int)) = true := by simp; omega
                have t6' : decide (0 < q) = true := by simp; omega
                have hk0 : KidsOk 0 l = false := kidsOk_zero (fun e => hq0 (by rw [HQ.out, e]; rfl))
                rw [hk0] at hr
                have HR := Lib.hid hr
                clear hk0 hr hq0
                go_enter Tryz.func17, Tryz.ntmps17
                go_upto_region 1 with (fail)
                rw [HW0.out]
                go_wp2
                go_ret
                exact ⟨by rw [HR.out]; rfl, HB0.out⟩
            · have t4 : decide ((40 : Int) < (q : Int)) = true := by simp; omega
              have t4' : decide (40 < q) = true := by simp; omega
              have hkc : kidsC 1 q = false := by unfold kidsC; rw [if_neg (by decide)]; simpa using hq40
              rw [hkc, Bool.false_and] at hr
              have HR := Lib.hid hr
              clear hkc hr
              go_enter Tryz.func17, Tryz.ntmps17
              go_upto_region 1 with (fail)
              rw [HW0.out]
              go_wp2
              go_ret
              exact ⟨by rw [HR.out]; rfl, HB0.out⟩
          · by_cases hq40 : q ≤ 40
            · have t4 : decide ((40 : Int) < (q : Int)) = false := by simp; omega
              have t4' : decide (40 < q) = false := by simp; omega
              have hkc : kidsC 2 q = true := by unfold kidsC; rw [if_neg (by decide)]; simpa using hq40
              rw [hkc, Bool.true_and] at hr
              clear hkc
              by_cases hq0 : q = 0
              · have t6 : decide ((0 : Int) < (q : Int)) = false := by simp; omega
                have t6' : decide (0 < q) = false := by simp; omega
                have hk0 : KidsOk 0 l = true := by
                  have : l = [] := List.eq_nil_of_length_eq_zero (by rw [← HQ.out]; exact hq0)
                  rw [this]; rfl
                rw [hk0] at hr
                have HR := Lib.hid hr
                clear hk0 hr hq0
                go_enter Tryz.func17, Tryz.ntmps17
                go_upto_region 1 with (fail)
                rw [HW0.out]
                go_wp2
                go_loop [6] (fun i => i = .int .i64 0) (fun _ => 0)
                case atStart => rfl
                case round =>
                  obtain rfl := hrel
                  go_wp2
                  go_ret
                  exact ⟨by rw [HR.out]; rfl, HB0.out⟩
              · have t6 : decide ((0 : Int) < (q : Int)) = true := by simp; omega
                have t6' : decide (0 < q) = true := by simp; omega
                have hk0 : KidsOk 0 l = false := kidsOk_zero (fun e => hq0 (by rw [HQ.out, e]; rfl))
                rw [hk0] at hr
                have HR := Lib.hid hr
                clear hk0 hr hq0
                go_enter Tryz.func17, Tryz.ntmps17
                go_upto_region 1 with (fail)
                rw [HW0.out]
                go_wp2
                go_ret
                exact ⟨by rw [HR.out]; rfl, HB0.out⟩
            · have t4 : decide ((40 : Int) < (q : Int)) = true := by simp; omega
              have t4' : decide (40 < q) = true := by simp; omega
              have hkc : kidsC 2 q = false := by unfold kidsC; rw [if_neg (by decide)]; simpa using hq40
              rw [hkc, Bool.false_and] at hr
              have HR := Lib.hid hr
              clear hkc hr
              go_enter Tryz.func17, Tryz.ntmps17
              go_upto_region 1 with (fail)
              rw [HW0.out]
              go_wp2
              go_ret
              exact ⟨by rw [HR.out]; rfl, HB0.out⟩
          · by_cases hq1 : q = 1
            · have t4 : decide ((1 : Int) < (q : Int)) = false := by simp; omega
              have t4' : decide (1 < q) = false := by simp; omega
              have t5 : ((q : Int) != 1) = false := by simp; omega
              have hkc : kidsC 3 q = true := by unfold kidsC; rw [if_pos rfl]; simpa using hq1
              rw [hkc, Bool.true_and] at hr
              have hq40 : q ≤ 40 := by omega
              clear hkc hq1
              by_cases hq0 : q = 0
              · have t6 : decide ((0 : Int) < (q : Int)) = false := by simp; omega
                have t6' : decide (0 < q) = false := by simp; omega
                have hk0 : KidsOk 0 l = true := by
                  have : l = [] := List.eq_nil_of_length_eq_zero (by rw [← HQ.out]; exact hq0)
                  rw [this]; rfl
                rw [hk0] at hr
                have HR := Lib.hid hr
                clear hk0 hr hq0
                go_enter Tryz.func17, Tryz.ntmps17
                go_upto_region 1 with (fail)
                rw [HW0.out]
                go_wp2
                go_loop [6] (fun i => i = .int .i64 0) (fun _ => 0)
                case atStart => rfl
                case round =>
                  obtain rfl := hrel
                  go_wp2
                  go_ret
                  exact ⟨by rw [HR.out]; rfl, HB0.out⟩
              · have t6 : decide ((0 : Int) < (q : Int)) = true := by simp; omega
                have t6' : decide (0 < q) = true := by simp; omega
                have hk0 : KidsOk 0 l = false := kidsOk_zero (fun e => hq0 (by rw [HQ.out, e]; rfl))
                rw [hk0] at hr
                have HR := Lib.hid hr
                clear hk0 hr hq0
                go_enter Tryz.func17, Tryz.ntmps17
                go_upto_region 1 with (fail)
                rw [HW0.out]
                go_wp2
                go_ret
                exact ⟨by rw [HR.out]; rfl, HB0.out⟩
            · have hkc : kidsC 3 q = false := by unfold kidsC; rw [if_pos rfl]; simpa using hq1
              rw [hkc, Bool.false_and] at hr
              have HR := Lib.hid hr
              have t5 : ((q : Int) != 1) = true := by simp; omega
              clear hkc hr
              by_cases hq2 : 1 < q
              · have t4 : decide ((1 : Int) < (q : Int)) = true := by simp; omega
                have t4' : decide (1 < q) = true := by simp; omega
                clear hq1
                go_enter Tryz.func17, Tryz.ntmps17
                go_upto_region 1 with (fail)
                rw [HW0.out]
                go_wp2
                go_ret
                exact ⟨by rw [HR.out]; rfl, HB0.out⟩
              · have t4 : decide ((1 : Int) < (q : Int)) = false := by simp; omega
                have t4' : decide (1 < q) = false := by simp; omega
                clear hq1
                go_enter Tryz.func17, Tryz.ntmps17
                go_upto_region 1 with (fail)
                rw [HW0.out]
                go_wp2
                go_ret
                exact ⟨by rw [HR.out]; rfl, HB0.out⟩
        · have t3 : decide ((0 : Int) < (m : Int)) = true := by simp; omega
          have t3' : decide (0 < m) = true := by simp; omega
          rw [decide_eq_false hm0, Bool.false_and, Bool.false_and] at hr
          have HR := Lib.hid hr
          clear hm0 hr
          rcases h3 with rfl | rfl | rfl
          all_goals
            go_enter Tryz.func17, Tryz.ntmps17
            go_upto_region 1 with (fail)
            rw [HW0.out]
            go_wp2
            go_ret
            exact ⟨by rw [HR.out]; rfl, HB0.out⟩
      · obtain ⟨e3, e4⟩ := bytes_some hX0
        rw [decide_eq_false hX0, Bool.false_and, Bool.false_and, Bool.false_and] at hr
        have HR := Lib.hid hr
        clear hX0 hr
        rcases h3 with rfl | rfl | rfl
        all_goals
          go_enter Tryz.func17, Tryz.ntmps17
          go_upto_region 1 with (fail)
          rw [HW0.out]
          go_wp2
          go_ret
          exact ⟨by rw [HR.out]; rfl, HB0.out⟩
    · obtain ⟨e1, e2⟩ := bytes_some hT0
      rw [decide_eq_false hT0, Bool.false_and, Bool.false_and, Bool.false_and, Bool.false_and] at hr
      have HR := Lib.hid hr
      clear hT0 hr
      rcases h3 with rfl | rfl | rfl
      all_goals
        go_enter Tryz.func17, Tryz.ntmps17
        go_upto_region 1 with (fail)
        rw [HW0.out]
        go_wp2
        go_ret
        exact ⟨by rw [HR.out]; rfl, HB0.out⟩
  · have hr := HR1.out hk
    have k1 : (k == 1) = false := by simp; intro e; subst e; exact hk rfl
    have k2 : (k == 2) = false := by simp; intro e; subst e; exact hk rfl
    have k3 : (k == 3) = false := by simp; intro e; subst e; exact hk rfl
    clear hk
    obtain ⟨sd, hsd⟩ : ∃ b, b = simpleD k t x p := ⟨_, rfl⟩
    rw [← hsd] at hr HSim
    by_cases hq0 : q = 0
    · have tq : ((q : Int) == 0) = true := by simp; omega
      rw [decide_eq_true hq0, Bool.true_and] at hr
      have HR := Lib.hid hr
      clear hr hsd hq0
      go_enter Tryz.func17, Tryz.ntmps17
      go_upto_region 1 with (fail)
      rw [HW0.out]
      go_wp2_with (go_at_call 21; refine (HSim.out).mono ?_; rintro e w2 ⟨rfl, hb2⟩; have HB2 := Lib.hid (bthen HB0.out hb2); clear hb2)
      go_ret
      exact ⟨by rw [HR.out]; rfl, HB2.out⟩
    · have tq : ((q : Int) == 0) = false := by simp; omega
      rw [decide_eq_false hq0, Bool.false_and] at hr
      have HR := Lib.hid hr
      clear hr hsd hq0
      go_enter Tryz.func17, Tryz.ntmps17
      go_upto_region 1 with (fail)
      rw [HW0.out]
      go_wp2
      go_ret
      exact ⟨by rw [HR.out]; rfl, HB0.out⟩

set_option maxRecDepth 100000 in
set_option maxHeartbeats 8000000 in
theorem mayR_succ (d : Nat) (hd : d ≤ 11) (ih : MaysR d) (f : FT) (v : Value) (w : World) (h : IsFl (Lt w) w f v) :
    Calls Tryz.prog 17 #[v, .int .i64 ((d : Int) + 1)] w fun e w' => e = .returned (.bool (mayF ((d + 1) + 1) f)) ∧ Below w.heap.size w w' := by
  obtain ⟨k, t, x, p, l⟩ := f
  have hsim := fun W (hW : Below w.heap.size w W) => simpleR_any k t x p l v W (h.imp (fun b h => Nat.lt_of_lt_of_le h hW.size) (fun b o h => hW.cell (p := ⟨b, o, none⟩) h))
  obtain ⟨pa, pc, ka, kc, rfl, hwf, ht, hx, hp, hl, hkids⟩ := h.parts
  obtain ⟨T, hT, hTl⟩ := strV_text t
  obtain ⟨X, hX, hXl⟩ := strV_text x
  rw [hT, hX] at hsim ⊢
  have hte : t.isEmpty = decide (T.data.toList = []) := by rw [hTl]; cases t <;> simp
  have hxe : x.isEmpty = decide (X.data.toList = []) := by rw [hXl]; cases x <;> simp
  have hpe : p.isEmpty = decide (p.length = 0) := by cases p <;> simp
  obtain ⟨R, hR⟩ : ∃ R, R = mayF ((d + 1) + 1) (.mk k t x p l) := ⟨_, rfl⟩
  rw [← hR]
  have hr1 : ¬ holdsC k = true → R = (decide (l.length = 0) && simpleD k t x p) := fun h => hR.trans (mayFl_leaf h)
  have hr2 : holdsC k = true → R = (decide (T.data.toList = []) && decide (X.data.toList = []) && decide (p.length = 0) && kidsC k l.length && KidsOk (d + 1) l) := fun h => by rw [hR, mayFl_hold h, hte, hxe, hpe]; rfl
  obtain ⟨q, hq⟩ : ∃ q, q = l.length := ⟨_, rfl⟩
  obtain ⟨m, hm⟩ : ∃ m, m = p.length := ⟨_, rfl⟩
  rw [← hq] at hl hsim hr1 hr2 ⊢
  rw [← hm] at hsim hr2 ⊢
  have hmm : m ≤ maxLen := by rw [hm]; exact hp.choose_spec.choose_spec.2.1
  unfold maxLen at hl hmm
  obtain ⟨W0, hW0⟩ : ∃ W, W = w.alloc (.cells #[.int .i64 k, .string T, .string X, .slice pa m pc, .slice ka q kc] 31) := ⟨_, rfl⟩
  have hb0 : Below w.heap.size w W0 := by rw [hW0]; exact box5 w _ _ _ _ _
  have hx0 : FlAt W0 w.heap.size (.int .i64 k) (.string T) (.string X) (.slice pa m pc) (.slice ka q kc) := by rw [hW0]; exact heap_alloc_new w _
  obtain ⟨c0, c1, c2, c3, c4⟩ := fl_cells hx0
  have HR1 := Lib.hid hr1
  have HR2 := Lib.hid hr2
  have HQ := Lib.hid hq
  have HW0 := Lib.hid hW0.symm
  have HB0 := Lib.hid hb0
  have HX0 := Lib.hid hx0
  have HSim := Lib.hid (hsim W0 hb0)
  have HKids := Lib.hid hkids
  clear hsim hT hTl hX hXl hte hxe hpe hR hr1 hr2 hq hm hb0 hx0 hW0 hwf ht hx hp h hkids
  by_cases hk : holdsC k = true
  · have h3 : k = 1 ∨ k = 2 ∨ k = 3 := by
      unfold holdsC at hk
      simp only [Bool.or_eq_true, decide_eq_true_eq] at hk
      omega
    have hr := HR2.out hk
    clear hk
    by_cases hT0 : T.data.toList = []
    · obtain ⟨e1, e2⟩ := bytes_nil hT0
      rw [decide_eq_true hT0, Bool.true_and] at hr
      clear hT0
      by_cases hX0 : X.data.toList = []
      · obtain ⟨e3, e4⟩ := bytes_nil hX0
        rw [decide_eq_true hX0, Bool.true_and] at hr
        clear hX0
        by_cases hm0 : m = 0
        · have t3 : decide ((0 : Int) < (m : Int)) = false := by simp; omega
          have t3' : decide (0 < m) = false := by simp; omega
          rw [decide_eq_true hm0, Bool.true_and] at hr
          clear hm0
          rcases h3 with rfl | rfl | rfl
          · by_cases hq40 : q ≤ 40
            · have t4 : decide ((40 : Int) < (q : Int)) = false := by simp; omega
              have t4' : decide (40 < q) = false := by simp; omega
              have hkc : kidsC 1 q = true := by unfold kidsC; rw [if_neg (by decide)]; simpa using hq40
              rw [hkc, Bool.true_and] at hr
              clear hkc
              have t7 : decide ((d : Int) + 1 < 1) = false := by simp; omega
              obtain ⟨t6, h6⟩ : ∃ b, decide ((0 : Int) < (q : Int)) = b := ⟨_, rfl⟩
              obtain ⟨t8, h8⟩ : ∃ b, decide (0 < q) = b := ⟨_, rfl⟩
              have HR := Lib.hid hr
              have HI := Lib.hid ih
              clear hr ih
              cases t6 <;> cases t8
              all_goals
                go_enter Tryz.func17, Tryz.ntmps17
                go_upto_region 1 with (fail)
                rw [HW0.out]
                go_wp2
                go_loopw [6] (fun i wr => ∃ j : Nat, j ≤ q ∧ i = .int .i64 j ∧ Hid ((l.take j).all (mayF (d + 1)) = true) ∧ Hid (Below W0.heap.size W0 wr)) (fun i _ => q - (intOf i).toNat)
                case atStart => exact ⟨0, by omega, rfl, Lib.hid rfl, Lib.hid (Below.refl _ _)⟩
                case round =>
                  obtain ⟨j, hj, rfl, HAll, HBr⟩ := hrel
                  obtain ⟨x0, x1, x2, x3, x4⟩ := fl_cells (fl_below HX0.out HBr.out (fl_lt HX0.out))
                  by_cases hlt : j < q
                  · have hjl : j < l.length := by rw [← HQ.out]; exact hlt
                    have t9 : decide ((j : Int) < (q : Int)) = true := by simp; omega
                    have t9' : decide (j < q) = true := by simp; omega
                    obtain ⟨b, off, v0, v1, v2, v3, v4, rfl, hb, g0, g1, g2, g3, g4, hf⟩ := HKids.out.get l _ 0 j l[j] (List.getElem?_eq_getElem hjl)
                    rw [Nat.zero_add] at g0 g1 g2 g3 g4
                    have hbel := bthen HB0.out HBr.out
                    have hcw : ∀ o, wr.cell? ⟨b, o, none⟩ = w.cell? ⟨b, o, none⟩ := fun o => hbel.cell (p := ⟨b, o, none⟩) hb
                    rw [← hcw] at g0 g1 g2 g3 g4
                    have hf2 : IsFl (Lt wr) wr l[j] (.agg #[v0, v1, v2, v3, v4]) := hf.imp (fun b h => Nat.lt_of_lt_of_le h hbel.size) (fun b o h => hbel.cell (p := ⟨b, o, none⟩) h)
                    obtain ⟨fk, fT, fX, fpa, fpn, fpc, fka, fkn, fkc, e⟩ := hf2.shape
                    simp only [Value.agg.injEq, Array.mk.injEq, List.cons.injEq, and_true] at e
                    obtain ⟨rfl, rfl, rfl, rfl, rfl⟩ := e
                    have hca := HI.out l[j] _ wr hf2
                    obtain ⟨r, hr⟩ : ∃ r, r = mayF (d + 1) l[j] := ⟨_, rfl⟩
                    rw [← hr] at hca
                    have HCa := Lib.hid hca
                    have ti0 : (0 : Int) ≤ (j : Int) := by omega
                    have ti1 : (j : Int) < (q : Int) := by omega
                    have td : IntKind.i64.wrap (d : Int) = (d : Int) := IntWalk.i64_in _ (by omega)
                    cases r with
                    | false =>
                      have HF : Hid (R = false) := Lib.hid (by rw [HR.out]; exact all_at hjl hr.symm)
                      clear hca hf hf2 hcw hbel hr hjl
                      go_wp2_with (go_at_call 17; refine (HCa.out).mono ?_; rintro e w3 ⟨rfl, hb3⟩; have HB3 := Lib.hid (bthen HBr.out hb3); clear hb3)
                      go_ret
                      exact ⟨by rw [HF.out]; rfl, bthen HB0.out HB3.out⟩
                    | true =>
                      have HAll2 : Hid ((l.take (j + 1)).all (mayF (d + 1)) = true) := Lib.hid (by rw [all_take hjl HAll.out]; exact hr.symm)
                      clear hca hf hf2 hcw hbel hr hjl
                      go_wp2_with (go_at_call 17; refine (HCa.out).mono ?_; rintro e w3 ⟨rfl, hb3⟩; have HB3 := Lib.hid (bthen HBr.out hb3); clear hb3)
                      go_roundw
                      case rel => exact ⟨j + 1, by omega, by go_num, HAll2, HB3⟩
                      case measure => simp [intOf]; omega
                  · obtain rfl : j = q := by omega
                    have t9 : decide ((j : Int) < (j : Int)) = false := by simp
                    have t9' : decide (j < j) = false := by simp
                    have HF : Hid (R = true) := Lib.hid (by
                      rw [HR.out]
                      have := HAll.out
                      rwa [List.take_of_length_le (by rw [← HQ.out]; omega)] at this)
                    go_wp2
                    go_ret
                    exact ⟨by rw [HF.out]; rfl, bthen HB0.out HBr.out⟩
            · have t4 : decide ((40 : Int) < (q : Int)) = true := by simp; omega
              have t4' : decide (40 < q) = true := by simp; omega
              have hkc : kidsC 1 q = false := by unfold kidsC; rw [if_neg (by decide)]; simpa using hq40
              rw [hkc, Bool.false_and] at hr
              have HR := Lib.hid hr
              clear hkc hr
              go_enter Tryz.func17, Tryz.ntmps17
              go_upto_region 1 with (fail)
              rw [HW0.out]
              go_wp2
              go_ret
              exact ⟨by rw [HR.out]; rfl, HB0.out⟩
          · by_cases hq40 : q ≤ 40
            · have t4 : decide ((40 : Int) < (q : Int)) = false := by simp; omega
              have t4' : decide (40 < q) = false := by simp; omega
              have hkc : kidsC 2 q = true := by unfold kidsC; rw [if_neg (by decide)]; simpa using hq40
              rw [hkc, Bool.true_and] at hr
              clear hkc
              have t7 : decide ((d : Int) + 1 < 1) = false := by simp; omega
              obtain ⟨t6, h6⟩ : ∃ b, decide ((0 : Int) < (q : Int)) = b := ⟨_, rfl⟩
              obtain ⟨t8, h8⟩ : ∃ b, decide (0 < q) = b := ⟨_, rfl⟩
              have HR := Lib.hid hr
              have HI := Lib.hid ih
              clear hr ih
              cases t6 <;> cases t8
              all_goals
                go_enter Tryz.func17, Tryz.ntmps17
                go_upto_region 1 with (fail)
                rw [HW0.out]
                go_wp2
                go_loopw [6] (fun i wr => ∃ j : Nat, j ≤ q ∧ i = .int .i64 j ∧ Hid ((l.take j).all (mayF (d + 1)) = true) ∧ Hid (Below W0.heap.size W0 wr)) (fun i _ => q - (intOf i).toNat)
                case atStart => exact ⟨0, by omega, rfl, Lib.hid rfl, Lib.hid (Below.refl _ _)⟩
                case round =>
                  obtain ⟨j, hj, rfl, HAll, HBr⟩ := hrel
                  obtain ⟨x0, x1, x2, x3, x4⟩ := fl_cells (fl_below HX0.out HBr.out (fl_lt HX0.out))
                  by_cases hlt : j < q
                  · have hjl : j < l.length := by rw [← HQ.out]; exact hlt
                    have t9 : decide ((j : Int) < (q : Int)) = true := by simp; omega
                    have t9' : decide (j < q) = true := by simp; omega
                    obtain ⟨b, off, v0, v1, v2, v3, v4, rfl, hb, g0, g1, g2, g3, g4, hf⟩ := HKids.out.get l _ 0 j l[j] (List.getElem?_eq_getElem hjl)
                    rw [Nat.zero_add] at g0 g1 g2 g3 g4
                    have hbel := bthen HB0.out HBr.out
                    have hcw : ∀ o, wr.cell? ⟨b, o, none⟩ = w.cell? ⟨b, o, none⟩ := fun o => hbel.cell (p := ⟨b, o, none⟩) hb
                    rw [← hcw] at g0 g1 g2 g3 g4
                    have hf2 : IsFl (Lt wr) wr l[j] (.agg #[v0, v1, v2, v3, v4]) := hf.imp (fun b h => Nat.lt_of_lt_of_le h hbel.size) (fun b o h => hbel.cell (p := ⟨b, o, none⟩) h)
                    obtain ⟨fk, fT, fX, fpa, fpn, fpc, fka, fkn, fkc, e⟩ := hf2.shape
                    simp only [Value.agg.injEq, Array.mk.injEq, List.cons.injEq, and_true] at e
                    obtain ⟨rfl, rfl, rfl, rfl, rfl⟩ := e
                    have hca := HI.out l[j] _ wr hf2
                    obtain ⟨r, hr⟩ : ∃ r, r = mayF (d + 1) l[j] := ⟨_, rfl⟩
                    rw [← hr] at hca
                    have HCa := Lib.hid hca
                    have ti0 : (0 : Int) ≤ (j : Int) := by omega
                    have ti1 : (j : Int) < (q : Int) := by omega
                    have td : IntKind.i64.wrap (d : Int) = (d : Int) := IntWalk.i64_in _ (by omega)
                    cases r with
                    | false =>
                      have HF : Hid (R = false) := Lib.hid (by rw [HR.out]; exact all_at hjl hr.symm)
                      clear hca hf hf2 hcw hbel hr hjl
                      go_wp2_with (go_at_call 17; refine (HCa.out).mono ?_; rintro e w3 ⟨rfl, hb3⟩; have HB3 := Lib.hid (bthen HBr.out hb3); clear hb3)
                      go_ret
                      exact ⟨by rw [HF.out]; rfl, bthen HB0.out HB3.out⟩
                    | true =>
                      have HAll2 : Hid ((l.take (j + 1)).all (mayF (d + 1)) = true) := Lib.hid (by rw [all_take hjl HAll.out]; exact hr.symm)
                      clear hca hf hf2 hcw hbel hr hjl
                      go_wp2_with (go_at_call 17; refine (HCa.out).mono ?_; rintro e w3 ⟨rfl, hb3⟩; have HB3 := Lib.hid (bthen HBr.out hb3); clear hb3)
                      go_roundw
                      case rel => exact ⟨j + 1, by omega, by go_num, HAll2, HB3⟩
                      case measure => simp [intOf]; omega
                  · obtain rfl : j = q := by omega
                    have t9 : decide ((j : Int) < (j : Int)) = false := by simp
                    have t9' : decide (j < j) = false := by simp
                    have HF : Hid (R = true) := Lib.hid (by
                      rw [HR.out]
                      have := HAll.out
                      rwa [List.take_of_length_le (by rw [← HQ.out]; omega)] at this)
                    go_wp2
                    go_ret
                    exact ⟨by rw [HF.out]; rfl, bthen HB0.out HBr.out⟩
            · have t4 : decide ((40 : Int) < (q : Int)) = true := by simp; omega
              have t4' : decide (40 < q) = true := by simp; omega
              have hkc : kidsC 2 q = false := by unfold kidsC; rw [if_neg (by decide)]; simpa using hq40
              rw [hkc, Bool.false_and] at hr
              have HR := Lib.hid hr
              clear hkc hr
              go_enter Tryz.func17, Tryz.ntmps17
              go_upto_region 1 with (fail)
              rw [HW0.out]
              go_wp2
              go_ret
              exact ⟨by rw [HR.out]; rfl, HB0.out⟩
          · by_cases hq1 : q = 1
            · have t4 : decide ((1 : Int) < (q : Int)) = false := by simp; omega
              have t4' : decide (1 < q) = false := by simp; omega
              have t5 : ((q : Int) != 1) = false := by simp; omega
              have hkc : kidsC 3 q = true := by unfold kidsC; rw [if_pos rfl]; simpa using hq1
              rw [hkc, Bool.true_and] at hr
              have hq40 : q ≤ 40 := by omega
              clear hkc hq1
              have t7 : decide ((d : Int) + 1 < 1) = false := by simp; omega
              obtain ⟨t6, h6⟩ : ∃ b, decide ((0 : Int) < (q : Int)) = b := ⟨_, rfl⟩
              obtain ⟨t8, h8⟩ : ∃ b, decide (0 < q) = b := ⟨_, rfl⟩
              have HR := Lib.hid hr
              have HI := Lib.hid ih
              clear hr ih
              cases t6 <;> cases t8
              all_goals
                go_enter Tryz.func17, Tryz.ntmps17
                go_upto_region 1 with (fail)
                rw [HW0.out]
                go_wp2
                go_loopw [6] (fun i wr => ∃ j : Nat, j ≤ q ∧ i = .int .i64 j ∧ Hid ((l.take j).all (mayF (d + 1)) = true) ∧ Hid (Below W0.heap.size W0 wr)) (fun i _ => q - (intOf i).toNat)
                case atStart => exact ⟨0, by omega, rfl, Lib.hid rfl, Lib.hid (Below.refl _ _)⟩
                case round =>
                  obtain ⟨j, hj, rfl, HAll, HBr⟩ := hrel
                  obtain ⟨x0, x1, x2, x3, x4⟩ := fl_cells (fl_below HX0.out HBr.out (fl_lt HX0.out))
                  by_cases hlt : j < q
                  · have hjl : j < l.length := by rw [← HQ.out]; exact hlt
                    have t9 : decide ((j : Int) < (q : Int)) = true := by simp; omega
                    have t9' : decide (j < q) = true := by simp; omega
                    obtain ⟨b, off, v0, v1, v2, v3, v4, rfl, hb, g0, g1, g2, g3, g4, hf⟩ := HKids.out.get l _ 0 j l[j] (List.getElem?_eq_getElem hjl)
                    rw [Nat.zero_add] at g0 g1 g2 g3 g4
                    have hbel := bthen HB0.out HBr.out
                    have hcw : ∀ o, wr.cell? ⟨b, o, none⟩ = w.cell? ⟨b, o, none⟩ := fun o => hbel.cell (p := ⟨b, o, none⟩) hb
                    rw [← hcw] at g0 g1 g2 g3 g4
                    have hf2 : IsFl (Lt wr) wr l[j] (.agg #[v0, v1, v2, v3, v4]) := hf.imp (fun b h => Nat.lt_of_lt_of_le h hbel.size) (fun b o h => hbel.cell (p := ⟨b, o, none⟩) h)
                    obtain ⟨fk, fT, fX, fpa, fpn, fpc, fka, fkn, fkc, e⟩ := hf2.shape
                    simp only [Value.agg.injEq, Array.mk.injEq, List.cons.injEq, and_true] at e
                    obtain ⟨rfl, rfl, rfl, rfl, rfl⟩ := e
                    have hca := HI.out l[j] _ wr hf2
                    obtain ⟨r, hr⟩ : ∃ r, r = mayF (d + 1) l[j] := ⟨_, rfl⟩
                    rw [← hr] at hca
                    have HCa := Lib.hid hca
                    have ti0 : (0 : Int) ≤ (j : Int) := by omega
                    have ti1 : (j : Int) < (q : Int) := by omega
                    have td : IntKind.i64.wrap (d : Int) = (d : Int) := IntWalk.i64_in _ (by omega)
                    cases r with
                    | false =>
                      have HF : Hid (R = false) := Lib.hid (by rw [HR.out]; exact all_at hjl hr.symm)
                      clear hca hf hf2 hcw hbel hr hjl
                      go_wp2_with (go_at_call 17; refine (HCa.out).mono ?_; rintro e w3 ⟨rfl, hb3⟩; have HB3 := Lib.hid (bthen HBr.out hb3); clear hb3)
                      go_ret
                      exact ⟨by rw [HF.out]; rfl, bthen HB0.out HB3.out⟩
                    | true =>
                      have HAll2 : Hid ((l.take (j + 1)).all (mayF (d + 1)) = true) := Lib.hid (by rw [all_take hjl HAll.out]; exact hr.symm)
                      clear hca hf hf2 hcw hbel hr hjl
                      go_wp2_with (go_at_call 17; refine (HCa.out).mono ?_; rintro e w3 ⟨rfl, hb3⟩; have HB3 := Lib.hid (bthen HBr.out hb3); clear hb3)
                      go_roundw
                      case rel => exact ⟨j + 1, by omega, by go_num, HAll2, HB3⟩
                      case measure => simp [intOf]; omega
                  · obtain rfl : j = q := by omega
                    have t9 : decide ((j : Int) < (j : Int)) = false := by simp
                    have t9' : decide (j < j) = false := by simp
                    have HF : Hid (R = true) := Lib.hid (by
                      rw [HR.out]
                      have := HAll.out
                      rwa [List.take_of_length_le (by rw [← HQ.out]; omega)] at this)
                    go_wp2
                    go_ret
                    exact ⟨by rw [HF.out]; rfl, bthen HB0.out HBr.out⟩
            · have hkc : kidsC 3 q = false := by unfold kidsC; rw [if_pos rfl]; simpa using hq1
              rw [hkc, Bool.false_and] at hr
              have HR := Lib.hid hr
              have t5 : ((q : Int) != 1) = true := by simp; omega
              clear hkc hr
              by_cases hq2 : 1 < q
              · have t4 : decide ((1 : Int) < (q : Int)) = true := by simp; omega
                have t4' : decide (1 < q) = true := by simp; omega
                clear hq1
                go_enter Tryz.func17, Tryz.ntmps17
                go_upto_region 1 with (fail)
                rw [HW0.out]
                go_wp2
                go_ret
                exact ⟨by rw [HR.out]; rfl, HB0.out⟩
              · have t4 : decide ((1 : Int) < (q : Int)) = false := by simp; omega
                have t4' : decide (1 < q) = false := by simp; omega
                clear hq1
                go_enter Tryz.func17, Tryz.ntmps17
                go_upto_region 1 with (fail)
                rw [HW0.out]
                go_wp2
                go_ret
                exact ⟨by rw [HR.out]; rfl, HB0.out⟩
        · have t3 : decide ((0 : Int) < (m : Int)) = true := by simp; omega
          have t3' : decide (0 < m) = true := by simp; omega
          rw [decide_eq_false hm0, Bool.false_and, Bool.false_and] at hr
          have HR := Lib.hid hr
          clear hm0 hr
          rcases h3 with rfl | rfl | rfl
          all_goals
            go_enter Tryz.func17, Tryz.ntmps17
            go_upto_region 1 with (fail)
            rw [HW0.out]
            go_wp2
            go_ret
            exact ⟨by rw [HR.out]; rfl, HB0.out⟩
      · obtain ⟨e3, e4⟩ := bytes_some hX0
        rw [decide_eq_false hX0, Bool.false_and, Bool.false_and, Bool.false_and] at hr
        have HR := Lib.hid hr
        clear hX0 hr
        rcases h3 with rfl | rfl | rfl
        all_goals
          go_enter Tryz.func17, Tryz.ntmps17
          go_upto_region 1 with (fail)
          rw [HW0.out]
          go_wp2
          go_ret
          exact ⟨by rw [HR.out]; rfl, HB0.out⟩
    · obtain ⟨e1, e2⟩ := bytes_some hT0
      rw [decide_eq_false hT0, Bool.false_and, Bool.false_and, Bool.false_and, Bool.false_and] at hr
      have HR := Lib.hid hr
      clear hT0 hr
      rcases h3 with rfl | rfl | rfl
      all_goals
        go_enter Tryz.func17, Tryz.ntmps17
        go_upto_region 1 with (fail)
        rw [HW0.out]
        go_wp2
        go_ret
        exact ⟨by rw [HR.out]; rfl, HB0.out⟩
  · have hr := HR1.out hk
    have k1 : (k == 1) = false := by simp; intro e; subst e; exact hk rfl
    have k2 : (k == 2) = false := by simp; intro e; subst e; exact hk rfl
    have k3 : (k == 3) = false := by simp; intro e; subst e; exact hk rfl
    clear hk
    obtain ⟨sd, hsd⟩ : ∃ b, b = simpleD k t x p := ⟨_, rfl⟩
    rw [← hsd] at hr HSim
    by_cases hq0 : q = 0
    · have tq : ((q : Int) == 0) = true := by simp; omega
      rw [decide_eq_true hq0, Bool.true_and] at hr
      have HR := Lib.hid hr
      clear hr hsd hq0
      go_enter Tryz.func17, Tryz.ntmps17
      go_upto_region 1 with (fail)
      rw [HW0.out]
      go_wp2_with (go_at_call 21; refine (HSim.out).mono ?_; rintro e w2 ⟨rfl, hb2⟩; have HB2 := Lib.hid (bthen HB0.out hb2); clear hb2)
      go_ret
      exact ⟨by rw [HR.out]; rfl, HB2.out⟩
    · have tq : ((q : Int) == 0) = false := by simp; omega
      rw [decide_eq_false hq0, Bool.false_and] at hr
      have HR := Lib.hid hr
      clear hr hsd hq0
      go_enter Tryz.func17, Tryz.ntmps17
      go_upto_region 1 with (fail)
      rw [HW0.out]
      go_wp2
      go_ret
      exact ⟨by rw [HR.out]; rfl, HB0.out⟩

theorem mayR_all : ∀ d : Nat, d ≤ 12 → MaysR d
  | 0, _, f, v, w, h => mayR_zero f v w h
  | d + 1, hd, f, v, w, h => mayR_succ d (by omega) (mayR_all d (by omega)) f v w h

set_option maxRecDepth 100000 in
set_option maxHeartbeats 2000000 in
theorem mayFilter_any (f : FT) (v : Value) (w : World) (h : IsFl (Lt w) w f v) :
    Calls Tryz.prog 10 #[v] w fun e w' => e = .returned (.bool (mayF 13 f)) ∧ Below w.heap.size w w' := by
  have hm := fun W (hW : Below w.heap.size w W) => mayR_all 12 (Nat.le_refl _) f v W (h.imp (fun b h => Nat.lt_of_lt_of_le h hW.size) (fun b o h => hW.cell (p := ⟨b, o, none⟩) h))
  obtain ⟨k, T, X, pa, pn, pc, ka, kn, kc, rfl⟩ := h.shape
  have hb := box5 w (.int .i64 k) (.string T) (.string X) (.slice pa pn pc) (.slice ka kn kc)
  have HM : Hid (∀ W, Below w.heap.size w W → Calls Tryz.prog 17 #[.agg #[.int .i64 k, .string T, .string X, .slice pa pn pc, .slice ka kn kc], .int .i64 12] W fun e w' => e = .returned (.bool (mayF 13 f)) ∧ Below W.heap.size W w') := Lib.hid hm
  have HB := Lib.hid hb
  clear hm hb h
  go_enter Tryz.func10, Tryz.ntmps10
  go_wp2_with (go_at_call 17; refine (HM.out _ HB.out).mono ?_; rintro e w3 ⟨rfl, hb3⟩; have HB3 := Lib.hid (bthen HB.out hb3); clear hb3)
  go_ret
  exact ⟨rfl, HB3.out⟩
end Go.Proofs.YtmilgbkkibahlaaGreatDoor
