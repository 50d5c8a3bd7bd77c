/- filter.may, May: the walks. -/
import Derived.Test.YtmilgbkkibahlaaGreatDoorFiMay
namespace Go.Proofs.YtmilgbkkibahlaaGreatDoor
open Go.RowKit
set_option linter.unusedVariables false
set_option linter.unusedSimpArgs false

theorem all_take {P : FT → Bool} {l : List FT} {j : Nat} (hj : j < l.length) (h : (l.take j).all P = true) : (l.take (j + 1)).all P = P l[j] := by
  rw [List.take_succ_eq_append_getElem hj, List.all_append, h]
  simp
theorem all_at {P : FT → Bool} {l : List FT} {j : Nat} (hj : j < l.length) (h : P l[j] = false) : l.all P = false := by
  rw [← Bool.not_eq_true, List.all_eq_true]
  intro ha
  have := ha _ (List.getElem_mem hj)
  rw [h] at this
  cases this

set_option maxRecDepth 100000 in
set_option maxHeartbeats 8000000 in
theorem may_all : ∀ (d above : Nat) (f : FT) (v : Value) (w : World), above + d = 13 → IsFl (Lt w) w f v →
    Calls Tryz.prog 22 #[v, .int .i64 above] w fun e w' => e = .returned (.bool (mayF d f)) ∧ Below w.heap.size w w' := by
  intro d
  induction d with
  | zero =>
    intro above f v w hd h
    obtain ⟨k, T, X, pa, pn, pc, ka, kn, kc, rfl⟩ := h.shape
    have hb := box5 w (.int .i64 k) (.string T) (.string X) (.slice pa pn pc) (.slice ka kn kc)
    have t1 : decide ((12 : Int) < (above : Int)) = true := by simp; omega
    have HB := Lib.hid hb
    clear hd hb h
    go_enter Tryz.func22, Tryz.ntmps22
    go_wp2
    go_ret
    exact ⟨by cases f; rfl, HB.out⟩
  | succ d ih =>
    intro above f v w hd h
    obtain ⟨k, t, x, p, l⟩ := f
    have hleaf := fun W (hW : Below w.heap.size w W) => mayLeaf_any k t x p l v W (h.imp (fun b h => Nat.lt_of_lt_of_le h hW.size) (fun b o h => hW.cell (p := ⟨b, o, none⟩) h))
    obtain ⟨pa, pc, ka, kc, rfl, hwf, ht, hx, hp, hl, hkids⟩ := h.parts
    obtain ⟨T, hT, hTl⟩ := strV_text t
    obtain ⟨X, hX, hXl⟩ := strV_text x
    rw [hT, hX] at hleaf ⊢
    have hte : t.isEmpty = decide (T.data.toList = []) := by rw [hTl]; cases t <;> simp
    have hxe : x.isEmpty = decide (X.data.toList = []) := by rw [hXl]; cases x <;> simp
    have hpe : p.isEmpty = decide (p.length = 0) := by cases p <;> simp
    have hr0 : mayF (d + 1) (.mk k t x p l) = if holdsC k then decide (T.data.toList = []) && decide (X.data.toList = []) && decide (p.length = 0) && kidsC k l.length && l.all (mayF d) else okLeaf k t x p l.length := by
      rw [← hte, ← hxe, ← hpe]; rfl
    obtain ⟨n, hn⟩ : ∃ n, n = l.length := ⟨_, rfl⟩
    obtain ⟨m, hm⟩ : ∃ m, m = p.length := ⟨_, rfl⟩
    rw [← hn] at hl hleaf hr0 ⊢
    rw [← hm] at hleaf hr0 ⊢
    have hmm : m ≤ maxLen := by rw [hm]; exact hp.choose_spec.choose_spec.2.1
    unfold maxLen at hl hmm
    obtain ⟨W0, hW0⟩ : ∃ W, W = w.alloc (.cells #[.int .i64 k, .string T, .string X, .slice pa m pc, .slice ka n kc] 31) := ⟨_, rfl⟩
    have hb0 : Below w.heap.size w W0 := by rw [hW0]; exact box5 w _ _ _ _ _
    have hbx : W0.heap[w.heap.size]? = some (.cells #[.int .i64 k, .string T, .string X, .slice pa m pc, .slice ka n kc] 31 (0, 0)) := by rw [hW0]; exact heap_alloc_new w _
    have q0 : W0.cell? ⟨w.heap.size, 0, none⟩ = some (.int .i64 k) := by simp [World.cell?, hbx]
    have q1 : W0.cell? ⟨w.heap.size, 1, none⟩ = some (.string T) := by simp [World.cell?, hbx]
    have q2 : W0.cell? ⟨w.heap.size, 2, none⟩ = some (.string X) := by simp [World.cell?, hbx]
    have q3 : W0.cell? ⟨w.heap.size, 3, none⟩ = some (.slice pa m pc) := by simp [World.cell?, hbx]
    have q4 : W0.cell? ⟨w.heap.size, 4, none⟩ = some (.slice ka n kc) := by simp [World.cell?, hbx]
    have t1 : decide ((12 : Int) < (above : Int)) = false := by simp; omega
    have hab12 : (above : Int) ≤ 12 := by omega
    have HR := Lib.hid hr0
    have HN := Lib.hid hn
    have HW0 := Lib.hid hW0.symm
    have HB0 := Lib.hid hb0
    have HLeaf := Lib.hid (hleaf W0 hb0)
    have HKids := Lib.hid hkids
    have HH := fun w => holds_any k w
    have HMk := fun w => mayKids_any k n w
    have HI : Hid (∀ (f : FT) (v : Value) (w : World), above + 1 + d = 13 → IsFl (Lt w) w f v → Calls Tryz.prog 22 #[v, .int .i64 ((above : Int) + 1)] w fun e w' => e = .returned (.bool (mayF d f)) ∧ Below w.heap.size w w') := Lib.hid (fun f v w h1 h2 => by have := ih (above + 1) f v w h1 h2; rwa [show (((above + 1 : Nat)) : Int) = (above : Int) + 1 from by omega] at this)
    have HD := Lib.hid hd
    clear hleaf hkids hT hTl hX hXl hte hxe hpe hr0 hn hm hb0 hbx hW0 hwf ht hx hp h ih hd
    rw [HR.out]
    obtain ⟨hk, hhk⟩ : ∃ b, b = holdsC k := ⟨_, rfl⟩
    rw [← hhk] at HH ⊢
    have HH2 := Lib.hid HH
    clear HH hhk
    cases hk with
    | false =>
      obtain ⟨r, hr⟩ : ∃ r, r = okLeaf k t x p n := ⟨_, rfl⟩
      rw [← hr] at HLeaf
      show Calls _ _ _ _ fun e w' => e = .returned (.bool (if false = true then _ else okLeaf k t x p n)) ∧ _
      rw [if_neg (by decide), ← hr]
      clear hr
      go_enter Tryz.func22, Tryz.ntmps22
      go_upto_region 1 with (fail)
      rw [HW0.out]
      go_wp2_with (first
        | (go_at_call 28; refine (HH2.out _).mono ?_; rintro e w2 ⟨rfl, rfl⟩)
        | (go_at_call 29; refine (HLeaf.out).mono ?_; rintro e w3 ⟨rfl, hb3⟩; have HB3 := Lib.hid (bthen HB0.out hb3); clear hb3))
      go_ret
      exact ⟨rfl, HB3.out⟩
    | true =>
      rw [if_pos rfl]
      by_cases hT0 : T.data.toList = []
      · obtain ⟨e1, e2⟩ := bytes_nil hT0
        rw [decide_eq_true hT0, Bool.true_and]
        clear hT0
        by_cases hX0 : X.data.toList = []
        · obtain ⟨e3, e4⟩ := bytes_nil hX0
          rw [decide_eq_true hX0, Bool.true_and]
          clear hX0
          by_cases hm0 : m = 0
          · have t3 : decide ((0 : Int) < (m : Int)) = false := by simp; omega
            have t3' : decide (0 < m) = false := by simp; omega
            rw [decide_eq_true hm0, Bool.true_and]
            clear hm0
            obtain ⟨kb, hkb⟩ : ∃ b, b = kidsC k n := ⟨_, rfl⟩
            rw [← hkb] at HMk ⊢
            have HM2 := Lib.hid HMk
            clear HMk hkb
            cases kb with
            | false =>
              rw [Bool.false_and]
              go_enter Tryz.func22, Tryz.ntmps22
              go_upto_region 1 with (fail)
              rw [HW0.out]
              go_wp2_with (first
                | (go_at_call 28; refine (HH2.out _).mono ?_; rintro e w2 ⟨rfl, rfl⟩)
                | (go_at_call 30; refine (HM2.out _).mono ?_; rintro e w2 ⟨rfl, rfl⟩))
              go_ret
              exact ⟨rfl, HB0.out⟩
            | true =>
              rw [Bool.true_and]
              go_enter Tryz.func22, Tryz.ntmps22
              go_upto_region 1 with (fail)
              rw [HW0.out]
              go_wp2_with (first
                | (go_at_call 28; refine (HH2.out _).mono ?_; rintro e w2 ⟨rfl, rfl⟩)
                | (go_at_call 30; refine (HM2.out _).mono ?_; rintro e w2 ⟨rfl, rfl⟩))
              clear q0 q1 q2 q3 q4
              go_loopw [41] (fun i wr => ∃ j : Nat, j ≤ n ∧ i = .int .i64 j ∧ Hid ((l.take j).all (mayF d) = true) ∧ Below w.heap.size w wr) (fun i _ => n - (intOf i).toNat)
              case atStart => exact ⟨0, by omega, rfl, Lib.hid rfl, HB0.out⟩
              case round =>
                obtain ⟨j, hj, rfl, HAll, hbel⟩ := hrel
                rename World => wo
                have HBr := Lib.hid hbel
                by_cases hlt : j < n
                · have hjl : j < l.length := by rw [← HN.out]; exact hlt
                  obtain ⟨b, off, v0, v1, v2, v3, v4, rfl, hb, c0, c1, c2, c3, c4, hf⟩ := HKids.out.get l _ 0 j l[j] (List.getElem?_eq_getElem hjl)
                  rw [Nat.zero_add] at c0 c1 c2 c3 c4
                  have hcw : ∀ o, wo.cell? ⟨b, o, none⟩ = w.cell? ⟨b, o, none⟩ := fun o => hbel.cell (p := ⟨b, o, none⟩) hb
                  rw [← hcw] at c0 c1 c2 c3 c4
                  have hf2 : IsFl (Lt wo) wo l[j] (.agg #[v0, v1, v2, v3, v4]) := hf.imp (fun b h => Nat.lt_of_lt_of_le h hbel.size) (fun b o h => hbel.cell (p := ⟨b, o, none⟩) h)
                  obtain ⟨k', T', X', pa', pn', pc', ka', kn', kc', e⟩ := hf2.shape
                  simp only [Value.agg.injEq, Array.mk.injEq, List.cons.injEq, and_true] at e
                  obtain ⟨rfl, rfl, rfl, rfl, rfl⟩ := e
                  have hb5 := box5 wo (.int .i64 k') (.string T') (.string X') (.slice pa' pn' pc') (.slice ka' kn' kc')
                  have hca := HI.out l[j] _ _ (by have := HD.out; omega) (hf2.below hb5)
                  obtain ⟨r, hr⟩ : ∃ r, r = mayF d l[j] := ⟨_, rfl⟩
                  rw [← hr] at hca
                  have HCa := Lib.hid hca
                  have HBk := Lib.hid (bthen HBr.out hb5)
                  have ti0 : (0 : Int) ≤ (j : Int) := by omega
                  have ti1 : (j : Int) < (n : Int) := by omega
                  cases r with
                  | false =>
                    have hfin : l.all (mayF d) = false := all_at hjl hr.symm
                    have HFin := Lib.hid hfin
                    clear hca hf hf2 hb5 hcw hbel hr hfin hjl
                    go_wp2_with (go_at_call 22; refine (HCa.out).mono ?_; rintro e w3 ⟨rfl, hb3⟩; have HB3 := Lib.hid (bthen HBk.out hb3); clear hb3)
                    go_ret
                    exact ⟨by rw [HFin.out]; rfl, HB3.out⟩
                  | true =>
                    have HAll2 : Hid ((l.take (j + 1)).all (mayF d) = true) := Lib.hid (by rw [all_take hjl HAll.out]; exact hr.symm)
                    clear hca hf hf2 hb5 hcw hbel hr hjl
                    go_wp2_with (go_at_call 22; refine (HCa.out).mono ?_; rintro e w3 ⟨rfl, hb3⟩; have HB3 := Lib.hid (bthen HBk.out hb3); clear hb3)
                    go_roundw
                    case rel => exact ⟨j + 1, by omega, by go_num, HAll2, HB3.out⟩
                    case measure => simp [intOf]; omega
                · have hfin : l.all (mayF d) = true := by
                    have := HAll.out
                    rwa [List.take_of_length_le (by rw [← HN.out]; omega)] at this
                  have t9 : decide (j < n) = false := by simp; omega
                  have HFin := Lib.hid hfin
                  clear hbel hfin
                  go_wp2
                  go_ret
                  exact ⟨by rw [HFin.out]; rfl, HBr.out⟩
          · have t3 : decide ((0 : Int) < (m : Int)) = true := by simp; omega
            have t3' : decide (0 < m) = true := by simp; omega
            rw [decide_eq_false hm0]
            clear hm0
            go_enter Tryz.func22, Tryz.ntmps22
            go_upto_region 1 with (fail)
            rw [HW0.out]
            go_wp2_with (go_at_call 28; refine (HH2.out _).mono ?_; rintro e w2 ⟨rfl, rfl⟩)
            go_ret
            exact ⟨rfl, HB0.out⟩
        · obtain ⟨e3, e4⟩ := bytes_some hX0
          rw [decide_eq_false hX0]
          clear hX0
          go_enter Tryz.func22, Tryz.ntmps22
          go_upto_region 1 with (fail)
          rw [HW0.out]
          go_wp2_with (go_at_call 28; refine (HH2.out _).mono ?_; rintro e w2 ⟨rfl, rfl⟩)
          go_ret
          exact ⟨rfl, HB0.out⟩
      · obtain ⟨e1, e2⟩ := bytes_some hT0
        rw [decide_eq_false hT0]
        clear hT0
        go_enter Tryz.func22, Tryz.ntmps22
        go_upto_region 1 with (fail)
        rw [HW0.out]
        go_wp2_with (go_at_call 28; refine (HH2.out _).mono ?_; rintro e w2 ⟨rfl, rfl⟩)
        go_ret
        exact ⟨rfl, HB0.out⟩

set_option maxRecDepth 100000 in
set_option maxHeartbeats 2000000 in
theorem mayTop_any (f : FT) (v : Value) (w : World) (h : IsFl (Lt w) w f v) :
    Calls Tryz.prog 18 #[v] w fun e w' => e = .returned (.bool (mayF 13 f)) ∧ Below w.heap.size w w' := by
  have hm := fun W (hW : Below w.heap.size w W) => may_all 13 0 f v W rfl (h.imp (fun b h => Nat.lt_of_lt_of_le h hW.size) (fun b o h => hW.cell (p := ⟨b, o, none⟩) h))
  obtain ⟨k, T, X, pa, pn, pc, ka, kn, kc, rfl⟩ := h.shape
  have hb := box5 w (.int .i64 k) (.string T) (.string X) (.slice pa pn pc) (.slice ka kn kc)
  have HM := Lib.hid (hm _ hb)
  have HB := Lib.hid hb
  clear hm hb h
  go_enter Tryz.func18, Tryz.ntmps18
  go_wp2_with (go_at_call 22; refine (HM.out).mono ?_; rintro e w3 ⟨rfl, hb3⟩; have HB3 := Lib.hid (bthen HB.out hb3); clear hb3)
  go_ret
  exact ⟨rfl, HB3.out⟩
end Go.Proofs.YtmilgbkkibahlaaGreatDoor
