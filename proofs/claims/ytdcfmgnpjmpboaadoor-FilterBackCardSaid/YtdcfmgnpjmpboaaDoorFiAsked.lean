/- filter.asked: the walk. -/
import Derived.Test.YtdcfmgnpjmpboaaDoorFiAsk
import Derived.Test.YtdcfmgnpjmpboaaDoorFiText
namespace Go.Proofs.YtdcfmgnpjmpboaaDoor
open Go.RowKit
set_option linter.unusedVariables false
set_option linter.unusedSimpArgs false

def sgA : Nat → List UInt8
  | 0 => [61]
  | 1 => [62, 61]
  | _ => [60, 61]
def kdA : Nat → Int
  | 0 => 4
  | 1 => 6
  | _ => 7
theorem sgA_kd : ∀ j, j < 3 → signF (kdA j) = sgA j := by decide
theorem sgA_len (j : Nat) : (sgA j).length ≤ 2 := by
  match j with
  | 0 => decide
  | 1 => decide
  | _ + 2 => exact Nat.le_refl 2
theorem ask_none {l : List UInt8} (h : ∀ i, i < 3 → Lib.hasPrefix l (sgA i) = false) : askD l = none := by
  have h0 := h 0 (by omega)
  have h1 := h 1 (by omega)
  have h2 := h 2 (by omega)
  unfold askD
  split
  · rename_i hl
    subst hl
    simp [Lib.hasPrefix, sgA] at h0
  · split
    · simp [Lib.hasPrefix, sgA] at h0
    · simp [Lib.hasPrefix, sgA] at h1
    · simp [Lib.hasPrefix, sgA] at h2
    · rfl
theorem pre_eqFl {l p : List UInt8} (h : Lib.hasPrefix l p = true) : l = p ++ l.drop p.length := by
  have hp : p <+: l := List.isPrefixOf_iff_prefix.1 h
  obtain ⟨r, rfl⟩ := hp
  simp
theorem ask_at {l : List UInt8} {j : Nat} (hj : j < 3) (hn : l ≠ [61, 42]) (hp : Lib.hasPrefix l (sgA j) = true) (hc : j = 0 → (l.drop 1).contains 42 = false) : askD l = (valQ 100 (l.drop (sgA j).length)).map fun v => (kdA j, v, []) := by
  have he := pre_eqFl hp
  generalize hr : l.drop (sgA j).length = r at he ⊢
  match j, hj with
  | 0, _ =>
    have hc' := hc rfl
    have : l.drop 1 = r := hr
    rw [this] at hc'
    have he' : l = 61 :: r := he
    subst he'
    unfold askD
    rw [if_neg hn]
    show (if r.contains 42 then (allV (splS 8 r)).map fun p => (5, [], p) else (valQ 100 r).map fun v => (4, v, [])) = _
    rw [hc']
    rfl
  | 1, _ =>
    have he' : l = 62 :: 61 :: r := he
    subst he'
    unfold askD
    rw [if_neg hn]
    rfl
  | 2, _ =>
    have he' : l = 60 :: 61 :: r := he
    subst he'
    unfold askD
    rw [if_neg hn]
    rfl
theorem ask_parts {l : List UInt8} (hn : l ≠ [61, 42]) (hp : Lib.hasPrefix l [61] = true) (hc : (l.drop 1).contains 42 = true) : askD l = (allV (splS 8 (l.drop 1))).map fun p => (5, [], p) := by
  have he : l = 61 :: l.drop 1 := pre_eqFl hp
  generalize l.drop 1 = r at he hc ⊢
  subst he
  unfold askD
  rw [if_neg hn]
  show (if r.contains 42 then (allV (splS 8 r)).map fun p => (5, [], p) else (valQ 100 r).map fun v => (4, v, [])) = _
  rw [hc]
  rfl
theorem has_idx (s : List UInt8) (c : UInt8) : decide (0 ≤ Lib.indexByte s c) = s.contains c := by
  rcases byte_idx c s with ⟨h, hc⟩ | ⟨n, h, _, hc, _⟩
  · rw [h, hc]; rfl
  · rw [h, hc]; simp

set_option maxRecDepth 100000 in
set_option maxHeartbeats 8000000 in
theorem asked_any (s : ByteArray) (hs : s.size ≤ 1000000) (w : World) :
    Calls Tryd.prog 50 #[.string s] w fun e w' => ∃ v, e = .returned v ∧ AskV w.heap.size w' (askD s.data.toList) v ∧ Below w.heap.size w w' := by
  obtain ⟨l, hl⟩ : ∃ l, l = s.data.toList := ⟨_, rfl⟩
  rw [← hl]
  obtain ⟨W0, hW0⟩ : ∃ W, W = w.alloc (.cells #[.int .i64 0, .string ⟨#[]⟩, .string ⟨#[]⟩, .slice none 0 0, .slice none 0 0] 25) := ⟨_, rfl⟩
  have hb0 : Below w.heap.size w W0 := by rw [hW0]; exact box5 w _ _ _ _ _
  have hx0 : FzAt W0 w.heap.size := by rw [hW0]; exact heap_alloc_new w _
  have HB0 := Lib.hid hb0
  have HX0 := Lib.hid hx0
  have HW0 := Lib.hid hW0.symm
  have HL := Lib.hid hl
  clear hb0 hW0
  obtain ⟨c0, c1, c2, c3, c4⟩ := fl_cells hx0
  obtain ⟨f0, f1, f2, f3, f4⟩ := fl_frozen hx0
  by_cases h1 : l = [61, 42]
  · have hse : s = ⟨#[61, 42]⟩ := by
      cases s with
      | mk a =>
        rw [h1] at hl
        rw [ByteArray.mk.injEq]
        exact Array.ext' hl.symm
    subst hse
    obtain ⟨z0, z1, z2, z3, z4⟩ := fl_cells (fl_set hx0 (.int .i64 8) (.string ⟨#[]⟩) (.string ⟨#[]⟩) (.slice none 0 0) (.slice none 0 0))
    unfold set5F at z0 z1 z2 z3 z4
    have HF := Lib.hid (fl_setB HB0.out (Nat.le_refl w.heap.size) (.int .i64 8) (.string ⟨#[]⟩) (.string ⟨#[]⟩) (.slice none 0 0) (.slice none 0 0))
    have HA : Hid (askD l = some (8, [], [])) := Lib.hid (by rw [h1]; rfl)
    have hsg := fun W => sign_any 8 W
    have e8 : ofL (signF 8) = ⟨#[61, 42]⟩ := by decide
    rw [e8] at hsg
    have HS := Lib.hid hsg
    clear hl h1 hx0 hsg e8
    go_enter Tryd.func50, Tryd.ntmps50
    go_upto_region 1 with (fail)
    rw [HW0.out]
    go_wp2_with (go_at_call 31; refine (HS.out _).mono ?_; rintro e w2 ⟨rfl, rfl⟩)
    refine bodyPost_ret (v := .tuple #[.agg #[.int .i64 8, .string ⟨#[]⟩, .string ⟨#[]⟩, .slice none 0 0, .slice none 0 0], .bool true]) (by simp [results, Tryd.results50, go_sem, z0, z1, z2, z3, z4]) rfl ⟨_, rfl, ?_, HF.out⟩
    rw [HA.out]
    exact ⟨_, rfl, ownS_nil _ _⟩
  · have hne : ¬ s = ⟨#[61, 42]⟩ := by
      intro e
      rw [e] at hl
      exact h1 hl
    have hsg := fun W => sign_any 8 W
    have e8 : ofL (signF 8) = ⟨#[61, 42]⟩ := by decide
    rw [e8] at hsg
    have HS := Lib.hid hsg
    have hsg5 := fun W => sign_any 5 W
    have e5 : ofL (signF 5) = ⟨#[61]⟩ := by decide
    rw [e5] at hsg5
    have HS5 := Lib.hid hsg5
    have hcp := fun W => cutPre_any s ⟨#[61]⟩ (by decide) W
    have HN1 := Lib.hid h1
    clear hsg e8 hsg5 e5 h1
    have hs0 : (s.toList == [61, 42]) = false := by
      rw [ByteArray.toList_eq, ← hl]
      simpa using HN1.out
    have hs1 : (s.toList == (⟨#[61, 42]⟩ : ByteArray).toList) = false := by
      rw [ByteArray.toList_eq, ByteArray.toList_eq, ← hl]
      simpa using HN1.out
    obtain ⟨X, hX⟩ : ∃ X, X = s.extract 1 s.size := ⟨_, rfl⟩
    have hXl : X.data.toList = l.drop 1 := by rw [hX, ext_list, hl]
    have hXs : X.size ≤ 1000000 := by rw [← bytes_len, hXl, List.length_drop, hl, bytes_len]; omega
    rw [← hl] at hcp
    have hcp' : ∀ W, Calls Tryd.prog 30 #[.string s, .string ⟨#[61]⟩] W fun e w' => e = .returned (if Lib.hasPrefix l [61] then .tuple #[.string X, .bool true] else .tuple #[.string s, .bool false]) ∧ W = w' := by
      rw [hX]
      exact hcp
    clear hcp
    have hct := fun W => Tryd.strings_Contains_one X 42 W
    rw [hXl, has_idx] at hct
    by_cases hp : Lib.hasPrefix l [61] = true ∧ (l.drop 1).contains 42 = true
    · rw [if_pos hp.1] at hcp'
      rw [hp.2] at hct
      have HCp := Lib.hid hcp'
      have HCt := Lib.hid hct
      have HA := Lib.hid (ask_parts HN1.out hp.1 hp.2)
      have hpa := partsFl_any X hXs W0
      rw [hXl] at hpa
      obtain ⟨D, hD⟩ : ∃ D, D = (allV (splS 8 (l.drop 1))).map fun p => ((5 : Int), ([] : List UInt8), p) := ⟨_, rfl⟩
      rw [← hD] at HA hpa
      have HPa := Lib.hid hpa
      clear hcp' hct hp hpa hD hXl hX hl hx0 c0 c1 c2 c3 c4 f0 f1 f2 f3 f4 hne
      go_enter Tryd.func50, Tryd.ntmps50
      go_upto_region 1 with (fail)
      rw [HW0.out]
      go_upto_region 3 with (go_at_call 31; refine (HS.out _).mono ?_; rintro e w2 ⟨rfl, rfl⟩)
      go_upto_region 4 with (first
        | (go_at_call 31; refine (HS5.out _).mono ?_; rintro e w2 ⟨rfl, rfl⟩)
        | (go_at_call 30; refine (HCp.out _).mono ?_; rintro e w2 ⟨rfl, rfl⟩))
      go_upto_region 5 with (go_at_call 69; refine (HCt.out _).mono ?_; rintro e w2 ⟨rfl, rfl⟩)
      cases D with
      | none =>
        go_wp2_with (go_at_call 70; refine (HPa.out).mono ?_; rintro e w3 ⟨v, rfl, ⟨k, rfl⟩, hb3⟩; have HB3 := Lib.hid hb3; have hx3 := fl_below HX0.out hb3 (fl_lt HX0.out); clear hb3; obtain ⟨c0, c1, c2, c3, c4⟩ := fl_cells hx3; obtain ⟨f0, f1, f2, f3, f4⟩ := fl_frozen hx3; obtain ⟨z0, z1, z2, z3, z4⟩ := fl_cells (fl_set hx3 (.int .i64 k) (.string ⟨#[]⟩) (.string ⟨#[]⟩) (.slice none 0 0) (.slice none 0 0)); unfold set5F at z0 z1 z2 z3 z4; clear hx3)
        have HF := fl_setB (bthen HB0.out HB3.out) (Nat.le_refl w.heap.size) (.int .i64 k) (.string ⟨#[]⟩) (.string ⟨#[]⟩) (.slice none 0 0) (.slice none 0 0)
        refine bodyPost_ret (v := .tuple #[.agg #[.int .i64 k, .string ⟨#[]⟩, .string ⟨#[]⟩, .slice none 0 0, .slice none 0 0], .bool false]) (by simp [results, Tryd.results50, go_sem, z0, z1, z2, z3, z4]) rfl ⟨_, rfl, ?_, HF⟩
        rw [HA.out]
        exact ⟨k, rfl⟩
      | some q =>
        obtain ⟨k, x, P⟩ := q
        obtain ⟨T, hT, hTl⟩ := strV_text x
        have HT := Lib.hid hT
        clear hT hTl
        go_wp2_with (go_at_call 70; refine (HPa.out).mono ?_; rintro e w3 ⟨v, rfl, ⟨u, rfl, hu⟩, hb3⟩; rw [HT.out]; obtain ⟨la, lc, hlv⟩ := ownS_slice hu; subst hlv; have HU := Lib.hid hu; have HB3 := Lib.hid hb3; have hx3 := fl_below HX0.out hb3 (fl_lt HX0.out); have HX3 := Lib.hid hx3; clear hb3 hu; obtain ⟨c0, c1, c2, c3, c4⟩ := fl_cells hx3; obtain ⟨f0, f1, f2, f3, f4⟩ := fl_frozen hx3; obtain ⟨z0, z1, z2, z3, z4⟩ := fl_cells (fl_set hx3 (.int .i64 k) (.string ⟨#[]⟩) (.string T) (.slice la P.length lc) (.slice none 0 0)); unfold set5F at z0 z1 z2 z3 z4; clear hx3)
        have HF := fl_setB (bthen HB0.out HB3.out) (Nat.le_refl w.heap.size) (.int .i64 k) (.string ⟨#[]⟩) (.string T) (.slice la P.length lc) (.slice none 0 0)
        have HU2 := ownS_fl HX3.out (ownS_lower HU.out (Nat.le_of_lt (fl_lt HX0.out))) (.int .i64 k) (.string ⟨#[]⟩) (.string T) (.slice la P.length lc) (.slice none 0 0)
        refine bodyPost_ret (v := .tuple #[.agg #[.int .i64 k, .string ⟨#[]⟩, .string T, .slice la P.length lc, .slice none 0 0], .bool true]) (by simp [results, Tryd.results50, go_sem, z0, z1, z2, z3, z4]) rfl ⟨_, rfl, ?_, HF⟩
        rw [HA.out]
        exact ⟨_, by rw [HT.out], HU2⟩
    · have hB : Lib.hasPrefix l [61] = true → (l.drop 1).contains 42 = false := fun h => by
        cases h2 : (l.drop 1).contains 42 with
        | false => rfl
        | true => exact absurd ⟨h, h2⟩ hp
      have HC0 := Lib.hid hB
      obtain ⟨Y, y, hcall, hcont⟩ : ∃ (Y : ByteArray) (y : Bool), (∀ W, Calls Tryd.prog 30 #[.string s, .string ⟨#[61]⟩] W fun e w' => e = .returned (.tuple #[.string Y, .bool y]) ∧ W = w') ∧ (y = true → ∀ W, Calls Tryd.prog 69 #[.string Y, .string ⟨#[42]⟩] W fun e w' => e = .returned (.bool false) ∧ w' = W) := by
        cases h : Lib.hasPrefix l [61] with
        | false =>
          rw [h, if_neg (by decide)] at hcp'
          exact ⟨s, false, hcp', fun e => by cases e⟩
        | true =>
          rw [h, if_pos rfl] at hcp'
          rw [hB h] at hct
          exact ⟨X, true, hcp', fun _ => hct⟩
      have HCp := Lib.hid hcall
      have HCt := Lib.hid hcont
      have HSg : Hid (∀ j, j < 3 → ∀ W, Calls Tryd.prog 31 #[.int .i64 (kdA j)] W fun e w' => e = .returned (.string (ofL (sgA j))) ∧ W = w') := Lib.hid (fun j hj W => by
        have := sign_any (kdA j) W
        rwa [sgA_kd j hj] at this)
      have HCq : Hid (∀ j W, Calls Tryd.prog 30 #[.string s, .string (ofL (sgA j))] W fun e w' => e = .returned (if Lib.hasPrefix l (sgA j) then .tuple #[.string (s.extract (sgA j).length s.size), .bool true] else .tuple #[.string s, .bool false]) ∧ W = w') := Lib.hid (fun j W => by
        have hz : (ofL (sgA j)).size = (sgA j).length := by rw [← bytes_len, ofL_list]
        have := cutPre_any s (ofL (sgA j)) (by rw [hz]; have := sgA_len j; omega) W
        rwa [ofL_list, hz, ← hl] at this)
      obtain ⟨W6, hW6⟩ : ∃ W, W = W0.alloc (.cells #[.int .i64 4, .int .i64 6, .int .i64 7] 3) := ⟨_, rfl⟩
      have HW6 := Lib.hid hW6.symm
      have HB6 : Hid (Below W0.heap.size W0 W6) := Lib.hid (by rw [hW6]; exact (Below.refl _ _).alloc (Nat.le_refl _) _)
      have HK6 : Hid (∀ j, j < 3 → W6.cell? ⟨W0.heap.size, j, none⟩ = some (.int .i64 (kdA j))) := Lib.hid (fun j hj => by
        have hb : W6.heap[W0.heap.size]? = some (.cells #[.int .i64 4, .int .i64 6, .int .i64 7] 3 (0, 0)) := by rw [hW6]; exact heap_alloc_new _ _
        match j, hj with
        | 0, _ => simp [World.cell?, hb, kdA]
        | 1, _ => simp [World.cell?, hb, kdA]
        | 2, _ => simp [World.cell?, hb, kdA])
      have HX6 := Lib.hid (fl_below HX0.out HB6.out (fl_lt HX0.out))
      have HB06 := Lib.hid (bthen HB0.out HB6.out)
      have HLs : Hid (∀ j, j < 3 → (s.extract (sgA j).length s.size).data.toList = l.drop (sgA j).length) := Lib.hid (fun j _ => by rw [ext_list, hl])
      have HSz : Hid (l.length ≤ 1000000) := Lib.hid (by rw [hl, bytes_len]; exact hs)
      clear hp hB hcall hcont hcp' hct hW6 hXl hX hl hx0 c0 c1 c2 c3 c4 f0 f1 f2 f3 f4 hne
      go_enter Tryd.func50, Tryd.ntmps50
      go_upto_region 1 with (fail)
      rw [HW0.out]
      go_upto_region 3 with (go_at_call 31; refine (HS.out _).mono ?_; rintro e w2 ⟨rfl, rfl⟩)
      go_upto_region 4 with (first
        | (go_at_call 31; refine (HS5.out _).mono ?_; rintro e w2 ⟨rfl, rfl⟩)
        | (go_at_call 30; refine (HCp.out _).mono ?_; rintro e w2 ⟨rfl, rfl⟩))
      cases y
      all_goals
        go_upto_region 6 with (go_at_call 69; refine (HCt.out rfl _).mono ?_; rintro e w2 ⟨rfl, rfl⟩)
        go_wp2
        rw [HW6.out]
        go_loopw [31] (fun s31 wr => ∃ j : Nat, j ≤ 3 ∧ s31 = .int .i64 j ∧ Hid (W6 = wr) ∧ Hid (∀ i, i < j → Lib.hasPrefix l (sgA i) = false)) (fun s31 _ => 3 - (intOf s31).toNat)
        case atStart => exact ⟨0, by omega, rfl, (by first | exact Lib.hid rfl | exact Lib.hid trivial), Lib.hid (fun i hi => absurd hi (Nat.not_lt_zero _))⟩
        case round =>
          obtain ⟨j, hj, rfl, HWr, HNo⟩ := hrel
          rename World => wo
          obtain rfl := HWr.out
          by_cases hlt : j < 3
          · have hcj := HK6.out j hlt
            have HSj := Lib.hid (HSg.out j hlt)
            have hcq := HCq.out j
            have ti0 : (0 : Int) ≤ (j : Int) := by omega
            have ti1 : (j : Int) < 3 := by omega
            cases hpre : Lib.hasPrefix l (sgA j) with
            | false =>
              rw [hpre, if_neg (by decide)] at hcq
              have HCj := Lib.hid hcq
              have HNo2 : Hid (∀ i, i < j + 1 → Lib.hasPrefix l (sgA i) = false) := Lib.hid (fun i hi => by
                by_cases e : i = j
                · rw [e]; exact hpre
                · exact HNo.out i (by omega))
              clear hcq hpre
              go_wp2_with (first
                | (go_at_call 31; refine (HSj.out _).mono ?_; rintro e w2 ⟨rfl, rfl⟩)
                | (go_at_call 30; refine (HCj.out _).mono ?_; rintro e w2 ⟨rfl, rfl⟩))
              go_roundw
              case rel => exact ⟨j + 1, by omega, by go_num, (by first | exact Lib.hid rfl | exact Lib.hid trivial), HNo2⟩
              case measure => simp [intOf]; omega
            | true =>
              rw [hpre, if_pos rfl] at hcq
              have HA := Lib.hid (ask_at hlt HN1.out hpre (fun e => HC0.out (by subst e; exact hpre)))
              have hTl := HLs.out j hlt
              obtain ⟨T, hT⟩ : ∃ T, T = s.extract (sgA j).length s.size := ⟨_, rfl⟩
              rw [← hT] at hcq hTl
              have HCj := Lib.hid hcq
              have hTs : T.size ≤ 1000000 := by
                rw [← bytes_len, hTl, List.length_drop]
                have := HSz.out
                omega
              have hva := fun W => valueFl_any T (by omega) W
              rw [hTl] at hva
              obtain ⟨q, hq⟩ : ∃ q, q = valQ 100 (l.drop (sgA j).length) := ⟨_, rfl⟩
              rw [← hq] at HA hva
              clear hcq hpre hT hTl hq
              cases q with
              | none =>
                simp only [valV2] at hva
                have HVa := Lib.hid hva
                clear hva
                go_wp2_with (first
                  | (go_at_call 31; refine (HSj.out _).mono ?_; rintro e w2 ⟨rfl, rfl⟩)
                  | (go_at_call 30; refine (HCj.out _).mono ?_; rintro e w2 ⟨rfl, rfl⟩)
                  | (go_at_call 71; refine (HVa.out _).mono ?_; rintro e w3 ⟨rfl, hb3⟩; have HB3 := Lib.hid hb3; have hx3 := fl_below HX6.out hb3 (fl_lt HX6.out); clear hb3; obtain ⟨c0, c1, c2, c3, c4⟩ := fl_cells hx3; obtain ⟨f0, f1, f2, f3, f4⟩ := fl_frozen hx3; obtain ⟨z0, z1, z2, z3, z4⟩ := fl_cells (fl_set hx3 (.int .i64 (kdA j)) (.string ⟨#[]⟩) (.string ⟨#[]⟩) (.slice none 0 0) (.slice none 0 0)); unfold set5F at z0 z1 z2 z3 z4; clear hx3))
                have HF := fl_setB (bthen HB06.out HB3.out) (Nat.le_refl w.heap.size) (.int .i64 (kdA j)) (.string ⟨#[]⟩) (.string ⟨#[]⟩) (.slice none 0 0) (.slice none 0 0)
                refine bodyPost_ret (v := .tuple #[.agg #[.int .i64 (kdA j), .string ⟨#[]⟩, .string ⟨#[]⟩, .slice none 0 0, .slice none 0 0], .bool false]) (by simp [results, Tryd.results50, go_sem, z0, z1, z2, z3, z4]) rfl ⟨_, rfl, ?_, HF⟩
                rw [HA.out]
                exact ⟨kdA j, rfl⟩
              | some v =>
                obtain ⟨Z, hZ, hZl⟩ := strV_text v
                have hZ' : (.string ⟨v.toArray⟩ : Value) = .string Z := hZ
                simp only [valV2, hZ'] at hva
                have HVa := Lib.hid hva
                have HZ := Lib.hid hZ
                clear hva hZ hZ' hZl
                go_wp2_with (first
                  | (go_at_call 31; refine (HSj.out _).mono ?_; rintro e w2 ⟨rfl, rfl⟩)
                  | (go_at_call 30; refine (HCj.out _).mono ?_; rintro e w2 ⟨rfl, rfl⟩)
                  | (go_at_call 71; refine (HVa.out _).mono ?_; rintro e w3 ⟨rfl, hb3⟩; have HB3 := Lib.hid hb3; have hx3 := fl_below HX6.out hb3 (fl_lt HX6.out); clear hb3; obtain ⟨c0, c1, c2, c3, c4⟩ := fl_cells hx3; obtain ⟨f0, f1, f2, f3, f4⟩ := fl_frozen hx3; obtain ⟨z0, z1, z2, z3, z4⟩ := fl_cells (fl_set hx3 (.int .i64 (kdA j)) (.string ⟨#[]⟩) (.string Z) (.slice none 0 0) (.slice none 0 0)); unfold set5F at z0 z1 z2 z3 z4; clear hx3))
                have HF := fl_setB (bthen HB06.out HB3.out) (Nat.le_refl w.heap.size) (.int .i64 (kdA j)) (.string ⟨#[]⟩) (.string Z) (.slice none 0 0) (.slice none 0 0)
                refine bodyPost_ret (v := .tuple #[.agg #[.int .i64 (kdA j), .string ⟨#[]⟩, .string Z, .slice none 0 0, .slice none 0 0], .bool true]) (by simp [results, Tryd.results50, go_sem, z0, z1, z2, z3, z4]) rfl ⟨_, rfl, ?_, HF⟩
                rw [HA.out]
                exact ⟨.slice none 0 0, by rw [HZ.out], ownS_nil _ _⟩
          · have h3 : j = 3 := by omega
            subst h3
            have HA := Lib.hid (ask_none HNo.out)
            have hx6 := HX6.out
            obtain ⟨c0, c1, c2, c3, c4⟩ := fl_cells hx6
            obtain ⟨f0, f1, f2, f3, f4⟩ := fl_frozen hx6
            obtain ⟨z0, z1, z2, z3, z4⟩ := fl_cells (fl_set hx6 (.int .i64 0) (.string ⟨#[]⟩) (.string ⟨#[]⟩) (.slice none 0 0) (.slice none 0 0))
            unfold set5F at z0 z1 z2 z3 z4
            clear hx6
            go_wp2
            have HF := fl_setB HB06.out (Nat.le_refl w.heap.size) (.int .i64 0) (.string ⟨#[]⟩) (.string ⟨#[]⟩) (.slice none 0 0) (.slice none 0 0)
            refine bodyPost_ret (v := .tuple #[.agg #[.int .i64 0, .string ⟨#[]⟩, .string ⟨#[]⟩, .slice none 0 0, .slice none 0 0], .bool false]) (by simp [results, Tryd.results50, go_sem, z0, z1, z2, z3, z4]) rfl ⟨_, rfl, ?_, HF⟩
            rw [HA.out]
            exact ⟨0, rfl⟩
end Go.Proofs.YtdcfmgnpjmpboaaDoor
