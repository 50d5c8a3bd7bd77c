/- The document's simple, may, MayFilter: the walks. -/
import Derived.Test.YtmilgbkkibahlaaGreatDoorFiSamR
import Derived.Test.YtmilgbkkibahlaaGreatDoorDnTypeR
namespace Go.Proofs.YtmilgbkkibahlaaGreatDoor
open Go.RowKit
set_option linter.unusedVariables false
set_option linter.unusedSimpArgs false

def simpleD (k : Int) (t x : List UInt8) (p : List (List UInt8)) : Bool :=
  okType t && decide (x.length ≤ 100) && (if k = 4 ∨ k = 6 ∨ k = 7 then p.isEmpty else if k = 8 then x.isEmpty && p.isEmpty else if k = 5 then x.isEmpty && okParts p else false)
theorem simple_leaf (k : Int) (t x : List UInt8) (p : List (List UInt8)) (n : Nat) : okLeaf k t x p n = (decide (n = 0) && simpleD k t x p) := by
  have he : x.isEmpty = true → x.length ≤ 100 := fun h => by cases x with | nil => simp | cons c r => cases h
  unfold okLeaf simpleD
  by_cases h4 : k = 4 ∨ k = 6 ∨ k = 7
  · rw [if_pos h4, if_pos h4]
    cases okType t <;> cases decide (n = 0) <;> cases decide (x.length ≤ 100) <;> cases p.isEmpty <;> rfl
  · rw [if_neg h4, if_neg h4]
    by_cases h5 : k = 5
    · subst h5
      rw [if_pos rfl, if_neg (by decide), if_pos rfl]
      cases hx : x.isEmpty with
      | false => cases okType t <;> cases decide (n = 0) <;> cases decide (x.length ≤ 100) <;> rfl
      | true => rw [decide_eq_true (he hx)]; cases okType t <;> cases decide (n = 0) <;> cases okParts p <;> rfl
    · rw [if_neg h5]
      by_cases h8 : k = 8
      · subst h8
        rw [if_pos rfl, if_pos rfl]
        cases hx : x.isEmpty with
        | false => cases okType t <;> cases decide (n = 0) <;> cases decide (x.length ≤ 100) <;> rfl
        | true => rw [decide_eq_true (he hx)]; cases okType t <;> cases decide (n = 0) <;> cases p.isEmpty <;> rfl
      · rw [if_neg h8, if_neg h8, if_neg h5]
        cases okType t <;> cases decide (n = 0) <;> cases decide (x.length ≤ 100) <;> rfl

set_option maxRecDepth 100000 in
set_option maxHeartbeats 8000000 in
theorem simpleR_any (k : Int) (t x : List UInt8) (p : List (List UInt8)) (l : List FT) (v : Value) (w : World) (h : IsFl (Lt w) w (.mk k t x p l) v) :
    Calls Tryz.prog 21 #[v] w fun e w' => e = .returned (.bool (simpleD k t x p)) ∧ Below w.heap.size w w' := by
  obtain ⟨pa, pc, ka, kc, rfl, hwf, ht, hx, hp, hl, _⟩ := h.parts
  obtain ⟨T, hT, hTl⟩ := strV_text t
  obtain ⟨X, hX, hXl⟩ := strV_text x
  rw [hT, hX]
  obtain ⟨q, hq⟩ : ∃ q, q = l.length := ⟨_, rfl⟩
  obtain ⟨n, hn⟩ : ∃ n, n = p.length := ⟨_, rfl⟩
  rw [← hq]
  rw [← hn] at hp ⊢
  have hXs : X.size = x.length := by rw [← bytes_len, hXl]
  have hme : p.isEmpty = decide (n = 0) := by rw [hn]; cases p <;> simp
  have hxe : x.isEmpty = decide (X.data.toList = []) := by rw [hXl]; cases x <;> simp
  have hmm : n ≤ maxLen := by rw [hn]; exact hp.choose_spec.choose_spec.2.1
  obtain ⟨W0, hW0⟩ : ∃ W, W = w.alloc (.cells #[.int .i64 k, .string T, .string X, .slice pa n pc, .slice ka q kc] 31) := ⟨_, rfl⟩
  have hb : Below w.heap.size w W0 := by rw [hW0]; exact box5 w _ _ _ _ _
  have hbx : FlAt W0 w.heap.size (.int .i64 k) (.string T) (.string X) (.slice pa n pc) (.slice ka q kc) := by rw [hW0]; exact heap_alloc_new w _
  have hp0 := hp.imp (ok' := Lt W0) (w' := W0) (fun b h => Nat.lt_of_lt_of_le h hb.size) (fun b o h => hb.cell (p := ⟨b, o, none⟩) h)
  have hty := fun W => mayTypeRef_any T W
  rw [hTl] at hty
  unfold maxLen at hmm
  have HT := Lib.hid hty
  have HB := Lib.hid hb
  have HW0 := Lib.hid hW0.symm
  have HP := Lib.hid hp0
  have HN := Lib.hid hn
  have HL : Hid (simpleD k t x p = (okType t && decide (X.size ≤ 100) && (if k = 4 ∨ k = 6 ∨ k = 7 then decide (n = 0) else if k = 8 then decide (X.data.toList = []) && decide (n = 0) else if k = 5 then decide (X.data.toList = []) && okParts p else false))) := Lib.hid (by unfold simpleD; rw [hme, hxe, hXs])
  obtain ⟨c0, c1, c2, c3, c4⟩ := fl_cells hbx
  clear hty hb hbx hW0 hT hTl hX hXl hn hq hXs hme hxe hp hp0 h ht hx hwf hl
  rw [HL.out]
  cases hb0 : okType t with
  | false =>
    rw [hb0] at HT
    rw [Bool.false_and, Bool.false_and]
    go_enter Tryz.func21, Tryz.ntmps21
    go_upto_region 1 with (fail)
    rw [HW0.out]
    go_wp2_with (go_at_call 27; refine (HT.out _).mono ?_; rintro e w2 ⟨rfl, rfl⟩)
    go_ret
    exact ⟨rfl, HB.out⟩
  | true =>
    rw [hb0] at HT
    clear hb0
    by_cases hv : X.size ≤ 100
    · have t3 : decide ((100 : Int) < (X.size : Int)) = false := by simp; omega
      rw [decide_eq_true hv]
      clear hv
      by_cases h4 : k = 4 ∨ k = 6 ∨ k = 7
      · rw [if_pos h4]
        by_cases hm0 : n = 0
        · have t4 : ((n : Int) == 0) = true := by simp; omega
          rw [decide_eq_true hm0]
          clear hm0
          rcases h4 with rfl | rfl | rfl
          all_goals
            go_enter Tryz.func21, Tryz.ntmps21
            go_upto_region 1 with (fail)
            rw [HW0.out]
            go_wp2_with (go_at_call 27; refine (HT.out _).mono ?_; rintro e w2 ⟨rfl, rfl⟩)
            go_ret
            exact ⟨rfl, HB.out⟩
        · have t4 : ((n : Int) == 0) = false := by simp; omega
          rw [decide_eq_false hm0]
          clear hm0
          rcases h4 with rfl | rfl | rfl
          all_goals
            go_enter Tryz.func21, Tryz.ntmps21
            go_upto_region 1 with (fail)
            rw [HW0.out]
            go_wp2_with (go_at_call 27; refine (HT.out _).mono ?_; rintro e w2 ⟨rfl, rfl⟩)
            go_ret
            exact ⟨rfl, HB.out⟩
      · rw [if_neg h4]
        simp only [not_or] at h4
        have k4 : (k == 4) = false := by simpa using h4.1
        have k6 : (k == 6) = false := by simpa using h4.2.1
        have k7 : (k == 7) = false := by simpa using h4.2.2
        clear h4
        by_cases h8 : k = 8
        · subst h8
          rw [if_pos rfl]
          by_cases he : X.data.toList = []
          · obtain ⟨e1, e2⟩ := bytes_nil he
            rw [decide_eq_true he]
            by_cases hm0 : n = 0
            · have t4 : ((n : Int) == 0) = true := by simp; omega
              rw [decide_eq_true hm0]
              clear hm0 he
              go_enter Tryz.func21, Tryz.ntmps21
              go_upto_region 1 with (fail)
              rw [HW0.out]
              go_wp2_with (go_at_call 27; refine (HT.out _).mono ?_; rintro e w2 ⟨rfl, rfl⟩)
              go_ret
              exact ⟨rfl, HB.out⟩
            · have t4 : ((n : Int) == 0) = false := by simp; omega
              rw [decide_eq_false hm0]
              clear hm0 he
              go_enter Tryz.func21, Tryz.ntmps21
              go_upto_region 1 with (fail)
              rw [HW0.out]
              go_wp2_with (go_at_call 27; refine (HT.out _).mono ?_; rintro e w2 ⟨rfl, rfl⟩)
              go_ret
              exact ⟨rfl, HB.out⟩
          · obtain ⟨e1, e2⟩ := bytes_some he
            rw [decide_eq_false he]
            clear he
            go_enter Tryz.func21, Tryz.ntmps21
            go_upto_region 1 with (fail)
            rw [HW0.out]
            go_wp2_with (go_at_call 27; refine (HT.out _).mono ?_; rintro e w2 ⟨rfl, rfl⟩)
            go_ret
            exact ⟨rfl, HB.out⟩
        · have k8 : (k == 8) = false := by simpa using h8
          rw [if_neg h8]
          clear h8
          by_cases h5 : k = 5
          · subst h5
            rw [if_pos rfl]
            by_cases he : X.data.toList = []
            · obtain ⟨e1, e2⟩ := bytes_nil he
              rw [decide_eq_true he, Bool.true_and, Bool.true_and, Bool.true_and]
              have HI : Hid (okParts p = true ↔ (2 ≤ n ∧ n ≤ 8) ∧ (∀ i (h : i < p.length), p[i].length ≤ 100 ∧ (0 < i → i + 1 < n → p[i] ≠ [])) ∧ (2 < n ∨ p.getD 0 [] ≠ [] ∨ p.getD (n - 1) [] ≠ [])) := Lib.hid (by rw [HN.out]; exact okParts_iff p)
              clear he
              by_cases h2 : n < 2
              · have t5 : decide ((n : Int) < 2) = true := by simp; omega
                have hr : okParts p = false := by rw [← Bool.not_eq_true, HI.out]; omega
                rw [hr]
                clear hr
                go_enter Tryz.func21, Tryz.ntmps21
                go_upto_region 1 with (fail)
                rw [HW0.out]
                go_wp2_with (go_at_call 27; refine (HT.out _).mono ?_; rintro e w2 ⟨rfl, rfl⟩)
                go_ret
                exact ⟨rfl, HB.out⟩
              · have t5 : decide ((n : Int) < 2) = false := by simp; omega
                by_cases h9 : 8 < n
                · have t6 : decide ((8 : Int) < (n : Int)) = true := by simp; omega
                  have hr : okParts p = false := by rw [← Bool.not_eq_true, HI.out]; omega
                  rw [hr]
                  clear hr
                  go_enter Tryz.func21, Tryz.ntmps21
                  go_upto_region 1 with (fail)
                  rw [HW0.out]
                  go_wp2_with (go_at_call 27; refine (HT.out _).mono ?_; rintro e w2 ⟨rfl, rfl⟩)
                  go_ret
                  exact ⟨rfl, HB.out⟩
                · have t6 : decide ((8 : Int) < (n : Int)) = false := by simp; omega
                  obtain ⟨b, off, hpa, hb, hc⟩ : ∃ b off, pa = some ⟨b, off, none⟩ ∧ b < W0.heap.size ∧ ∀ j, (h : j < p.length) → W0.cell? ⟨b, off + j, none⟩ = some (strV p[j]) := by
                    obtain ⟨a, c, ha, _, hC⟩ := HP.out
                    obtain ⟨b, off, e, hb, _⟩ := hC 0 (by rw [← HN.out]; omega)
                    refine ⟨b, off, (Value.slice.inj ha).1.trans e, hb, fun j hj => ?_⟩
                    obtain ⟨b', off', e', _, h'⟩ := hC j hj
                    rw [e] at e'
                    simp only [Option.some.injEq, Addr.mk.injEq, and_true] at e'
                    obtain ⟨rfl, rfl⟩ := e'
                    exact h'
                  subst hpa
                  obtain ⟨T0, hT0, hTl0⟩ := strV_text (p.getD 0 [])
                  obtain ⟨T1, hT1, hTl1⟩ := strV_text (p.getD 1 [])
                  have hc0 : W0.cell? ⟨b, off, none⟩ = some (.string T0) := by
                    have := hc 0 (by rw [← HN.out]; omega)
                    rw [Nat.add_zero] at this
                    rw [this, ← hT0, List.getD_eq_getElem?_getD, List.getElem?_eq_getElem (by rw [← HN.out]; omega)]
                    rfl
                  have hc1 : W0.cell? ⟨b, off + 1, none⟩ = some (.string T1) := by
                    rw [hc 1 (by rw [← HN.out]; omega), ← hT1, List.getD_eq_getElem?_getD, List.getElem?_eq_getElem (by rw [← HN.out]; omega)]
                    rfl
                  have tn0 : (0 : Int) < (n : Int) := by omega
                  have tn1 : (1 : Int) < (n : Int) := by omega
                  have HCe := Lib.hid hc
                  have H1 := Lib.hid hTl0
                  have H2 := Lib.hid hTl1
                  clear hc hT0 hT1 hTl0 hTl1
                  by_cases hn2 : n = 2
                  · have t7 : ((n : Int) == 2) = true := by simp; omega
                    by_cases g0 : T0.data.toList = []
                    · obtain ⟨e3, e4⟩ := bytes_nil g0
                      by_cases g1 : T1.data.toList = []
                      · obtain ⟨e5, e6⟩ := bytes_nil g1
                        have hr : okParts p = false := by
                          rw [← Bool.not_eq_true, HI.out]
                          rintro ⟨_, _, h | h | h⟩
                          · omega
                          · exact h (by rw [← H1.out]; exact g0)
                          · exact h (by rw [hn2, ← H2.out]; exact g1)
                        rw [hr]
                        clear hr g0 g1 hn2
                        go_enter Tryz.func21, Tryz.ntmps21
                        go_upto_region 1 with (fail)
                        rw [HW0.out]
                        go_wp2_with (go_at_call 27; refine (HT.out _).mono ?_; rintro e w2 ⟨rfl, rfl⟩)
                        go_ret
                        exact ⟨rfl, HB.out⟩
                      · obtain ⟨e5, e6⟩ := bytes_some g1
                        have HE : Hid (2 < n ∨ p.getD 0 [] ≠ [] ∨ p.getD (n - 1) [] ≠ []) := Lib.hid (.inr (.inr (by rw [hn2, ← H2.out]; exact g1)))
                        clear g0 g1 hn2
                        go_enter Tryz.func21, Tryz.ntmps21
                        go_upto_region 1 with (fail)
                        rw [HW0.out]
                        go_wp2_with (go_at_call 27; refine (HT.out _).mono ?_; rintro e w2 ⟨rfl, rfl⟩)
                        go_loop [4] (fun i => ∃ j : Nat, j ≤ n ∧ i = .int .i64 j ∧ Hid (∀ i (h : i < p.length), i < j → p[i].length ≤ 100 ∧ (0 < i → i + 1 < n → p[i] ≠ []))) (fun i => n - (intOf i).toNat)
                        case atStart => exact ⟨0, by omega, rfl, Lib.hid (fun i _ h => absurd h (by omega))⟩
                        case round =>
                          obtain ⟨j, hj, rfl, HA⟩ := hrel
                          by_cases hlt : j < n
                          · have hjl : j < p.length := by rw [← HN.out]; exact hlt
                            have ti0 : (0 : Int) ≤ (j : Int) := by omega
                            have ti1 : (j : Int) < (n : Int) := by omega
                            obtain ⟨U, hU, hUl⟩ := strV_text p[j]
                            have hcj : W0.cell? ⟨b, off + j, none⟩ = some (.string U) := by rw [← hU]; exact HCe.out j hjl
                            have hUs : U.size = p[j].length := by rw [← bytes_len, hUl]
                            by_cases hbig : 100 < U.size
                            · have t9 : decide ((100 : Int) < (U.size : Int)) = true := by simp; omega
                              have hr : okParts p = false := by rw [← Bool.not_eq_true, HI.out]; rintro ⟨_, h, _⟩; have := (h j (by rw [← HN.out]; exact hlt)).1; omega
                              have HRr := Lib.hid hr
                              clear hr
                              clear hU hUl hUs
                              go_wp2
                              go_ret
                              exact ⟨by rw [HRr.out]; rfl, HB.out⟩
                            · have t9 : decide ((100 : Int) < (U.size : Int)) = false := by simp; omega
                              by_cases he : U.data.toList = []
                              · obtain ⟨u1, u2⟩ := bytes_nil he
                                by_cases hmid : 0 < j ∧ j + 1 < n
                                · have u4 : decide ((0 : Int) < (j : Int)) = true := by simp; omega
                                  have u4' : decide (0 < j) = true := by simp; omega
                                  have u5 : decide ((j : Int) < (n : Int) - 1) = true := by simp; omega
                                  have hr : okParts p = false := by
                                    rw [← Bool.not_eq_true, HI.out]
                                    rintro ⟨_, h, _⟩
                                    exact (h j (by rw [← HN.out]; exact hlt)).2 hmid.1 (by omega) (by rw [← hUl]; exact he)
                                  have HRr := Lib.hid hr
                                  clear hr
                                  clear hU hUl hUs he
                                  go_wp2
                                  go_ret
                                  exact ⟨by rw [HRr.out]; rfl, HB.out⟩
                                · have HA2 : Hid (∀ i (h : i < p.length), i < j + 1 → p[i].length ≤ 100 ∧ (0 < i → i + 1 < n → p[i] ≠ [])) := Lib.hid (fun i hi hij => by
                                    by_cases e : i = j
                                    · subst e
                                      exact ⟨by omega, fun h0 h1 => absurd ⟨h0, h1⟩ hmid⟩
                                    · exact HA.out i hi (by omega))
                                  clear hU hUl hUs he
                                  by_cases h0 : 0 < j
                                  · have u4 : decide ((0 : Int) < (j : Int)) = true := by simp; omega
                                    have u4' : decide (0 < j) = true := by simp; omega
                                    have u5 : decide ((j : Int) < (n : Int) - 1) = false := by simp; omega
                                    go_wp2
                                    go_round
                                    case rel => exact ⟨j + 1, by omega, by go_num, HA2⟩
                                    case measure => simp [intOf]; omega
                                  · have u4 : decide ((0 : Int) < (j : Int)) = false := by simp; omega
                                    have u4' : decide (0 < j) = false := by simp; omega
                                    go_wp2
                                    go_round
                                    case rel => exact ⟨j + 1, by omega, by go_num, HA2⟩
                                    case measure => simp [intOf]; omega
                              · obtain ⟨u1, u2⟩ := bytes_some he
                                have HA2 : Hid (∀ i (h : i < p.length), i < j + 1 → p[i].length ≤ 100 ∧ (0 < i → i + 1 < n → p[i] ≠ [])) := Lib.hid (fun i hi hij => by
                                  by_cases e : i = j
                                  · subst e
                                    exact ⟨by omega, fun _ _ e => he (by rw [hUl]; exact e)⟩
                                  · exact HA.out i hi (by omega))
                                clear hU hUl hUs
                                by_cases h0 : 0 < j
                                · have u4 : decide ((0 : Int) < (j : Int)) = true := by simp; omega
                                  have u4' : decide (0 < j) = true := by simp; omega
                                  by_cases h1 : j + 1 < n
                                  · have u5 : decide ((j : Int) < (n : Int) - 1) = true := by simp; omega
                                    clear he
                                    go_wp2
                                    go_round
                                    case rel => exact ⟨j + 1, by omega, by go_num, HA2⟩
                                    case measure => simp [intOf]; omega
                                  · have u5 : decide ((j : Int) < (n : Int) - 1) = false := by simp; omega
                                    clear he
                                    go_wp2
                                    go_round
                                    case rel => exact ⟨j + 1, by omega, by go_num, HA2⟩
                                    case measure => simp [intOf]; omega
                                · have u4 : decide ((0 : Int) < (j : Int)) = false := by simp; omega
                                  have u4' : decide (0 < j) = false := by simp; omega
                                  clear he
                                  go_wp2
                                  go_round
                                  case rel => exact ⟨j + 1, by omega, by go_num, HA2⟩
                                  case measure => simp [intOf]; omega
                          · obtain rfl : j = n := by omega
                            have t9 : decide ((j : Int) < (j : Int)) = false := by simp
                            have t9' : decide (j < j) = false := by simp
                            have hr : okParts p = true := HI.out.2 ⟨⟨by omega, by omega⟩, fun i hi => HA.out i hi (by rw [← HN.out] at hi; exact hi), HE.out⟩
                            have HRr := Lib.hid hr
                            clear hr
                            go_wp2
                            go_ret
                            exact ⟨by rw [HRr.out]; rfl, HB.out⟩
                    · obtain ⟨e3, e4⟩ := bytes_some g0
                      have HE : Hid (2 < n ∨ p.getD 0 [] ≠ [] ∨ p.getD (n - 1) [] ≠ []) := Lib.hid (.inr (.inl (by rw [← H1.out]; exact g0)))
                      clear g0 hn2
                      go_enter Tryz.func21, Tryz.ntmps21
                      go_upto_region 1 with (fail)
                      rw [HW0.out]
                      go_wp2_with (go_at_call 27; refine (HT.out _).mono ?_; rintro e w2 ⟨rfl, rfl⟩)
                      go_loop [4] (fun i => ∃ j : Nat, j ≤ n ∧ i = .int .i64 j ∧ Hid (∀ i (h : i < p.length), i < j → p[i].length ≤ 100 ∧ (0 < i → i + 1 < n → p[i] ≠ []))) (fun i => n - (intOf i).toNat)
                      case atStart => exact ⟨0, by omega, rfl, Lib.hid (fun i _ h => absurd h (by omega))⟩
                      case round =>
                        obtain ⟨j, hj, rfl, HA⟩ := hrel
                        by_cases hlt : j < n
                        · have hjl : j < p.length := by rw [← HN.out]; exact hlt
                          have ti0 : (0 : Int) ≤ (j : Int) := by omega
                          have ti1 : (j : Int) < (n : Int) := by omega
                          obtain ⟨U, hU, hUl⟩ := strV_text p[j]
                          have hcj : W0.cell? ⟨b, off + j, none⟩ = some (.string U) := by rw [← hU]; exact HCe.out j hjl
                          have hUs : U.size = p[j].length := by rw [← bytes_len, hUl]
                          by_cases hbig : 100 < U.size
                          · have t9 : decide ((100 : Int) < (U.size : Int)) = true := by simp; omega
                            have hr : okParts p = false := by rw [← Bool.not_eq_true, HI.out]; rintro ⟨_, h, _⟩; have := (h j (by rw [← HN.out]; exact hlt)).1; omega
                            have HRr := Lib.hid hr
                            clear hr
                            clear hU hUl hUs
                            go_wp2
                            go_ret
                            exact ⟨by rw [HRr.out]; rfl, HB.out⟩
                          · have t9 : decide ((100 : Int) < (U.size : Int)) = false := by simp; omega
                            by_cases he : U.data.toList = []
                            · obtain ⟨u1, u2⟩ := bytes_nil he
                              by_cases hmid : 0 < j ∧ j + 1 < n
                              · have u4 : decide ((0 : Int) < (j : Int)) = true := by simp; omega
                                have u4' : decide (0 < j) = true := by simp; omega
                                have u5 : decide ((j : Int) < (n : Int) - 1) = true := by simp; omega
                                have hr : okParts p = false := by
                                  rw [← Bool.not_eq_true, HI.out]
                                  rintro ⟨_, h, _⟩
                                  exact (h j (by rw [← HN.out]; exact hlt)).2 hmid.1 (by omega) (by rw [← hUl]; exact he)
                                have HRr := Lib.hid hr
                                clear hr
                                clear hU hUl hUs he
                                go_wp2
                                go_ret
                                exact ⟨by rw [HRr.out]; rfl, HB.out⟩
                              · have HA2 : Hid (∀ i (h : i < p.length), i < j + 1 → p[i].length ≤ 100 ∧ (0 < i → i + 1 < n → p[i] ≠ [])) := Lib.hid (fun i hi hij => by
                                  by_cases e : i = j
                                  · subst e
                                    exact ⟨by omega, fun h0 h1 => absurd ⟨h0, h1⟩ hmid⟩
                                  · exact HA.out i hi (by omega))
                                clear hU hUl hUs he
                                by_cases h0 : 0 < j
                                · have u4 : decide ((0 : Int) < (j : Int)) = true := by simp; omega
                                  have u4' : decide (0 < j) = true := by simp; omega
                                  have u5 : decide ((j : Int) < (n : Int) - 1) = false := by simp; omega
                                  go_wp2
                                  go_round
                                  case rel => exact ⟨j + 1, by omega, by go_num, HA2⟩
                                  case measure => simp [intOf]; omega
                                · have u4 : decide ((0 : Int) < (j : Int)) = false := by simp; omega
                                  have u4' : decide (0 < j) = false := by simp; omega
                                  go_wp2
                                  go_round
                                  case rel => exact ⟨j + 1, by omega, by go_num, HA2⟩
                                  case measure => simp [intOf]; omega
                            · obtain ⟨u1, u2⟩ := bytes_some he
                              have HA2 : Hid (∀ i (h : i < p.length), i < j + 1 → p[i].length ≤ 100 ∧ (0 < i → i + 1 < n → p[i] ≠ [])) := Lib.hid (fun i hi hij => by
                                by_cases e : i = j
                                · subst e
                                  exact ⟨by omega, fun _ _ e => he (by rw [hUl]; exact e)⟩
                                · exact HA.out i hi (by omega))
                              clear hU hUl hUs
                              by_cases h0 : 0 < j
                              · have u4 : decide ((0 : Int) < (j : Int)) = true := by simp; omega
                                have u4' : decide (0 < j) = true := by simp; omega
                                by_cases h1 : j + 1 < n
                                · have u5 : decide ((j : Int) < (n : Int) - 1) = true := by simp; omega
                                  clear he
                                  go_wp2
                                  go_round
                                  case rel => exact ⟨j + 1, by omega, by go_num, HA2⟩
                                  case measure => simp [intOf]; omega
                                · have u5 : decide ((j : Int) < (n : Int) - 1) = false := by simp; omega
                                  clear he
                                  go_wp2
                                  go_round
                                  case rel => exact ⟨j + 1, by omega, by go_num, HA2⟩
                                  case measure => simp [intOf]; omega
                              · have u4 : decide ((0 : Int) < (j : Int)) = false := by simp; omega
                                have u4' : decide (0 < j) = false := by simp; omega
                                clear he
                                go_wp2
                                go_round
                                case rel => exact ⟨j + 1, by omega, by go_num, HA2⟩
                                case measure => simp [intOf]; omega
                        · obtain rfl : j = n := by omega
                          have t9 : decide ((j : Int) < (j : Int)) = false := by simp
                          have t9' : decide (j < j) = false := by simp
                          have hr : okParts p = true := HI.out.2 ⟨⟨by omega, by omega⟩, fun i hi => HA.out i hi (by rw [← HN.out] at hi; exact hi), HE.out⟩
                          have HRr := Lib.hid hr
                          clear hr
                          go_wp2
                          go_ret
                          exact ⟨by rw [HRr.out]; rfl, HB.out⟩
                  · have t7 : ((n : Int) == 2) = false := by simp; omega
                    have HE : Hid (2 < n ∨ p.getD 0 [] ≠ [] ∨ p.getD (n - 1) [] ≠ []) := Lib.hid (.inl (by omega))
                    clear hn2
                    go_enter Tryz.func21, Tryz.ntmps21
                    go_upto_region 1 with (fail)
                    rw [HW0.out]
                    go_wp2_with (go_at_call 27; refine (HT.out _).mono ?_; rintro e w2 ⟨rfl, rfl⟩)
                    go_loop [4] (fun i => ∃ j : Nat, j ≤ n ∧ i = .int .i64 j ∧ Hid (∀ i (h : i < p.length), i < j → p[i].length ≤ 100 ∧ (0 < i → i + 1 < n → p[i] ≠ []))) (fun i => n - (intOf i).toNat)
                    case atStart => exact ⟨0, by omega, rfl, Lib.hid (fun i _ h => absurd h (by omega))⟩
                    case round =>
                      obtain ⟨j, hj, rfl, HA⟩ := hrel
                      by_cases hlt : j < n
                      · have hjl : j < p.length := by rw [← HN.out]; exact hlt
                        have ti0 : (0 : Int) ≤ (j : Int) := by omega
                        have ti1 : (j : Int) < (n : Int) := by omega
                        obtain ⟨U, hU, hUl⟩ := strV_text p[j]
                        have hcj : W0.cell? ⟨b, off + j, none⟩ = some (.string U) := by rw [← hU]; exact HCe.out j hjl
                        have hUs : U.size = p[j].length := by rw [← bytes_len, hUl]
                        by_cases hbig : 100 < U.size
                        · have t9 : decide ((100 : Int) < (U.size : Int)) = true := by simp; omega
                          have hr : okParts p = false := by rw [← Bool.not_eq_true, HI.out]; rintro ⟨_, h, _⟩; have := (h j (by rw [← HN.out]; exact hlt)).1; omega
                          have HRr := Lib.hid hr
                          clear hr
                          clear hU hUl hUs
                          go_wp2
                          go_ret
                          exact ⟨by rw [HRr.out]; rfl, HB.out⟩
                        · have t9 : decide ((100 : Int) < (U.size : Int)) = false := by simp; omega
                          by_cases he : U.data.toList = []
                          · obtain ⟨u1, u2⟩ := bytes_nil he
                            by_cases hmid : 0 < j ∧ j + 1 < n
                            · have u4 : decide ((0 : Int) < (j : Int)) = true := by simp; omega
                              have u4' : decide (0 < j) = true := by simp; omega
                              have u5 : decide ((j : Int) < (n : Int) - 1) = true := by simp; omega
                              have hr : okParts p = false := by
                                rw [← Bool.not_eq_true, HI.out]
                                rintro ⟨_, h, _⟩
                                exact (h j (by rw [← HN.out]; exact hlt)).2 hmid.1 (by omega) (by rw [← hUl]; exact he)
                              have HRr := Lib.hid hr
                              clear hr
                              clear hU hUl hUs he
                              go_wp2
                              go_ret
                              exact ⟨by rw [HRr.out]; rfl, HB.out⟩
                            · have HA2 : Hid (∀ i (h : i < p.length), i < j + 1 → p[i].length ≤ 100 ∧ (0 < i → i + 1 < n → p[i] ≠ [])) := Lib.hid (fun i hi hij => by
                                by_cases e : i = j
                                · subst e
                                  exact ⟨by omega, fun h0 h1 => absurd ⟨h0, h1⟩ hmid⟩
                                · exact HA.out i hi (by omega))
                              clear hU hUl hUs he
                              by_cases h0 : 0 < j
                              · have u4 : decide ((0 : Int) < (j : Int)) = true := by simp; omega
                                have u4' : decide (0 < j) = true := by simp; omega
                                have u5 : decide ((j : Int) < (n : Int) - 1) = false := by simp; omega
                                go_wp2
                                go_round
                                case rel => exact ⟨j + 1, by omega, by go_num, HA2⟩
                                case measure => simp [intOf]; omega
                              · have u4 : decide ((0 : Int) < (j : Int)) = false := by simp; omega
                                have u4' : decide (0 < j) = false := by simp; omega
                                go_wp2
                                go_round
                                case rel => exact ⟨j + 1, by omega, by go_num, HA2⟩
                                case measure => simp [intOf]; omega
                          · obtain ⟨u1, u2⟩ := bytes_some he
                            have HA2 : Hid (∀ i (h : i < p.length), i < j + 1 → p[i].length ≤ 100 ∧ (0 < i → i + 1 < n → p[i] ≠ [])) := Lib.hid (fun i hi hij => by
                              by_cases e : i = j
                              · subst e
                                exact ⟨by omega, fun _ _ e => he (by rw [hUl]; exact e)⟩
                              · exact HA.out i hi (by omega))
                            clear hU hUl hUs
                            by_cases h0 : 0 < j
                            · have u4 : decide ((0 : Int) < (j : Int)) = true := by simp; omega
                              have u4' : decide (0 < j) = true := by simp; omega
                              by_cases h1 : j + 1 < n
                              · have u5 : decide ((j : Int) < (n : Int) - 1) = true := by simp; omega
                                clear he
                                go_wp2
                                go_round
                                case rel => exact ⟨j + 1, by omega, by go_num, HA2⟩
                                case measure => simp [intOf]; omega
                              · have u5 : decide ((j : Int) < (n : Int) - 1) = false := by simp; omega
                                clear he
                                go_wp2
                                go_round
                                case rel => exact ⟨j + 1, by omega, by go_num, HA2⟩
                                case measure => simp [intOf]; omega
                            · have u4 : decide ((0 : Int) < (j : Int)) = false := by simp; omega
                              have u4' : decide (0 < j) = false := by simp; omega
                              clear he
                              go_wp2
                              go_round
                              case rel => exact ⟨j + 1, by omega, by go_num, HA2⟩
                              case measure => simp [intOf]; omega
                      · obtain rfl : j = n := by omega
                        have t9 : decide ((j : Int) < (j : Int)) = false := by simp
                        have t9' : decide (j < j) = false := by simp
                        have hr : okParts p = true := HI.out.2 ⟨⟨by omega, by omega⟩, fun i hi => HA.out i hi (by rw [← HN.out] at hi; exact hi), HE.out⟩
                        have HRr := Lib.hid hr
                        clear hr
                        go_wp2
                        go_ret
                        exact ⟨by rw [HRr.out]; rfl, HB.out⟩
            · obtain ⟨e1, e2⟩ := bytes_some he
              rw [decide_eq_false he]
              clear he
              go_enter Tryz.func21, Tryz.ntmps21
              go_upto_region 1 with (fail)
              rw [HW0.out]
              go_wp2_with (go_at_call 27; refine (HT.out _).mono ?_; rintro e w2 ⟨rfl, rfl⟩)
              go_ret
              exact ⟨rfl, HB.out⟩
          · have k5 : (k == 5) = false := by simpa using h5
            rw [if_neg h5]
            clear h5
            go_enter Tryz.func21, Tryz.ntmps21
            go_upto_region 1 with (fail)
            rw [HW0.out]
            go_wp2_with (go_at_call 27; refine (HT.out _).mono ?_; rintro e w2 ⟨rfl, rfl⟩)
            go_ret
            exact ⟨rfl, HB.out⟩
    · have t3 : decide ((100 : Int) < (X.size : Int)) = true := by simp; omega
      rw [decide_eq_false hv]
      clear hv
      go_enter Tryz.func21, Tryz.ntmps21
      go_upto_region 1 with (fail)
      rw [HW0.out]
      go_wp2_with (go_at_call 27; refine (HT.out _).mono ?_; rintro e w2 ⟨rfl, rfl⟩)
      all_goals
        go_ret
        exact ⟨rfl, HB.out⟩
end Go.Proofs.YtmilgbkkibahlaaGreatDoor
