/- Several texts in one file: FiAsked, FiLeaf, FiOnM, FiOnL. -/
import Derived.Test.YtmpicolplknomaaDoorFiAsk
import Derived.Test.YtmpicolplknomaaDoorFiText
import Derived.Test.YtmpicolplknomaaDoorAllF1
import Derived.Test.YtmpicolplknomaaDoorFiPln
import Derived.Deep.Cut
import Derived.Deep.CutBlock
/- filter.asked: the walk. -/
namespace Go.Proofs.YtmpicolplknomaaDoor
open Go.RowKit
set_option linter.unusedVariables false
set_option linter.unusedSimpArgs false

def sgA : Nat → List UInt8
  | 0 => [61]
  | 1 => [62, 61]
  | _ => [60, 61]
def kdA : Nat → Int
  | 0 => 4
  | 1 => 6
  | _ => 7
theorem sgA_kd : ∀ j, j < 3 → signF (kdA j) = sgA j := by decide
theorem sgA_len (j : Nat) : (sgA j).length ≤ 2 := by
  match j with
  | 0 => decide
  | 1 => decide
  | _ + 2 => exact Nat.le_refl 2
theorem ask_none {l : List UInt8} (h : ∀ i, i < 3 → Lib.hasPrefix l (sgA i) = false) : askD l = none := by
  have h0 := h 0 (by omega)
  have h1 := h 1 (by omega)
  have h2 := h 2 (by omega)
  unfold askD
  split
  · rename_i hl
    subst hl
    simp [Lib.hasPrefix, sgA] at h0
  · split
    · simp [Lib.hasPrefix, sgA] at h0
    · simp [Lib.hasPrefix, sgA] at h1
    · simp [Lib.hasPrefix, sgA] at h2
    · rfl
theorem pre_eqFl {l p : List UInt8} (h : Lib.hasPrefix l p = true) : l = p ++ l.drop p.length := by
  have hp : p <+: l := List.isPrefixOf_iff_prefix.1 h
  obtain ⟨r, rfl⟩ := hp
  simp
theorem ask_at {l : List UInt8} {j : Nat} (hj : j < 3) (hn : l ≠ [61, 42]) (hp : Lib.hasPrefix l (sgA j) = true) (hc : j = 0 → (l.drop 1).contains 42 = false) : askD l = (valQ 100 (l.drop (sgA j).length)).map fun v => (kdA j, v, []) := by
  have he := pre_eqFl hp
  generalize hr : l.drop (sgA j).length = r at he ⊢
  match j, hj with
  | 0, _ =>
    have hc' := hc rfl
    have : l.drop 1 = r := hr
    rw [this] at hc'
    have he' : l = 61 :: r := he
    subst he'
    unfold askD
    rw [if_neg hn]
    show (if r.contains 42 then (allV (splS 8 r)).map fun p => (5, [], p) else (valQ 100 r).map fun v => (4, v, [])) = _
    rw [hc']
    rfl
  | 1, _ =>
    have he' : l = 62 :: 61 :: r := he
    subst he'
    unfold askD
    rw [if_neg hn]
    rfl
  | 2, _ =>
    have he' : l = 60 :: 61 :: r := he
    subst he'
    unfold askD
    rw [if_neg hn]
    rfl
theorem ask_parts {l : List UInt8} (hn : l ≠ [61, 42]) (hp : Lib.hasPrefix l [61] = true) (hc : (l.drop 1).contains 42 = true) : askD l = (allV (splS 8 (l.drop 1))).map fun p => (5, [], p) := by
  have he : l = 61 :: l.drop 1 := pre_eqFl hp
  generalize l.drop 1 = r at he hc ⊢
  subst he
  unfold askD
  rw [if_neg hn]
  show (if r.contains 42 then (allV (splS 8 r)).map fun p => (5, [], p) else (valQ 100 r).map fun v => (4, v, [])) = _
  rw [hc]
  rfl
theorem has_idx (s : List UInt8) (c : UInt8) : decide (0 ≤ Lib.indexByte s c) = s.contains c := by
  rcases byte_idx c s with ⟨h, hc⟩ | ⟨n, h, _, hc, _⟩
  · rw [h, hc]; rfl
  · rw [h, hc]; simp

set_option maxRecDepth 100000 in
set_option maxHeartbeats 8000000 in
theorem asked_any (s : ByteArray) (hs : s.size ≤ 1000000) (w : World) :
    Calls Tryd.prog 45 #[.string s] w fun e w' => ∃ v, e = .returned v ∧ AskV w.heap.size w' (askD s.data.toList) v ∧ Below w.heap.size w w' := by
  obtain ⟨l, hl⟩ : ∃ l, l = s.data.toList := ⟨_, rfl⟩
  rw [← hl]
  obtain ⟨W0, hW0⟩ : ∃ W, W = w.alloc (.cells #[.int .i64 0, .string ⟨#[]⟩, .string ⟨#[]⟩, .slice none 0 0, .slice none 0 0] 25) := ⟨_, rfl⟩
  have hb0 : Below w.heap.size w W0 := by rw [hW0]; exact box5 w _ _ _ _ _
  have hx0 : FzAt W0 w.heap.size := by rw [hW0]; exact heap_alloc_new w _
  have HB0 := Lib.hid hb0
  have HX0 := Lib.hid hx0
  have HW0 := Lib.hid hW0.symm
  have HL := Lib.hid hl
  clear hb0 hW0
  obtain ⟨c0, c1, c2, c3, c4⟩ := fl_cells hx0
  obtain ⟨f0, f1, f2, f3, f4⟩ := fl_frozen hx0
  by_cases h1 : l = [61, 42]
  · have hse : s = ⟨#[61, 42]⟩ := by
      cases s with
      | mk a =>
        rw [h1] at hl
        rw [ByteArray.mk.injEq]
        exact Array.ext' hl.symm
    subst hse
    obtain ⟨z0, z1, z2, z3, z4⟩ := fl_cells (fl_set hx0 (.int .i64 8) (.string ⟨#[]⟩) (.string ⟨#[]⟩) (.slice none 0 0) (.slice none 0 0))
    unfold set5F at z0 z1 z2 z3 z4
    have HF := Lib.hid (fl_setB HB0.out (Nat.le_refl w.heap.size) (.int .i64 8) (.string ⟨#[]⟩) (.string ⟨#[]⟩) (.slice none 0 0) (.slice none 0 0))
    have HA : Hid (askD l = some (8, [], [])) := Lib.hid (by rw [h1]; rfl)
    have hsg := fun W => sign_any 8 W
    have e8 : ofL (signF 8) = ⟨#[61, 42]⟩ := by decide
    rw [e8] at hsg
    have HS := Lib.hid hsg
    clear hl h1 hx0 hsg e8
    go_enter Tryd.func45, Tryd.ntmps45
    go_upto_region 1 with (fail)
    rw [HW0.out]
    go_wp2_with (go_at_call 26; refine (HS.out _).mono ?_; rintro e w2 ⟨rfl, rfl⟩)
    refine bodyPost_ret (v := .tuple #[.agg #[.int .i64 8, .string ⟨#[]⟩, .string ⟨#[]⟩, .slice none 0 0, .slice none 0 0], .bool true]) (by simp [results, Tryd.results45, go_sem, z0, z1, z2, z3, z4]) rfl ⟨_, rfl, ?_, HF.out⟩
    rw [HA.out]
    exact ⟨_, rfl, ownS_nil _ _⟩
  · have hne : ¬ s = ⟨#[61, 42]⟩ := by
      intro e
      rw [e] at hl
      exact h1 hl
    have hsg := fun W => sign_any 8 W
    have e8 : ofL (signF 8) = ⟨#[61, 42]⟩ := by decide
    rw [e8] at hsg
    have HS := Lib.hid hsg
    have hsg5 := fun W => sign_any 5 W
    have e5 : ofL (signF 5) = ⟨#[61]⟩ := by decide
    rw [e5] at hsg5
    have HS5 := Lib.hid hsg5
    have hcp := fun W => cutPre_any s ⟨#[61]⟩ (by decide) W
    have HN1 := Lib.hid h1
    clear hsg e8 hsg5 e5 h1
    have hs0 : (s.toList == [61, 42]) = false := by
      rw [ByteArray.toList_eq, ← hl]
      simpa using HN1.out
    have hs1 : (s.toList == (⟨#[61, 42]⟩ : ByteArray).toList) = false := by
      rw [ByteArray.toList_eq, ByteArray.toList_eq, ← hl]
      simpa using HN1.out
    obtain ⟨X, hX⟩ : ∃ X, X = s.extract 1 s.size := ⟨_, rfl⟩
    have hXl : X.data.toList = l.drop 1 := by rw [hX, ext_list, hl]
    have hXs : X.size ≤ 1000000 := by rw [← bytes_len, hXl, List.length_drop, hl, bytes_len]; omega
    rw [← hl] at hcp
    have hcp' : ∀ W, Calls Tryd.prog 25 #[.string s, .string ⟨#[61]⟩] W fun e w' => e = .returned (if Lib.hasPrefix l [61] then .tuple #[.string X, .bool true] else .tuple #[.string s, .bool false]) ∧ W = w' := by
      rw [hX]
      exact hcp
    clear hcp
    have hct := fun W => Tryd.strings_Contains_one X 42 W
    rw [hXl, has_idx] at hct
    by_cases hp : Lib.hasPrefix l [61] = true ∧ (l.drop 1).contains 42 = true
    · rw [if_pos hp.1] at hcp'
      rw [hp.2] at hct
      have HCp := Lib.hid hcp'
      have HCt := Lib.hid hct
      have HA := Lib.hid (ask_parts HN1.out hp.1 hp.2)
      have hpa := partsFl_any X hXs W0
      rw [hXl] at hpa
      obtain ⟨D, hD⟩ : ∃ D, D = (allV (splS 8 (l.drop 1))).map fun p => ((5 : Int), ([] : List UInt8), p) := ⟨_, rfl⟩
      rw [← hD] at HA hpa
      have HPa := Lib.hid hpa
      clear hcp' hct hp hpa hD hXl hX hl hx0 c0 c1 c2 c3 c4 f0 f1 f2 f3 f4 hne
      go_enter Tryd.func45, Tryd.ntmps45
      go_upto_region 1 with (fail)
      rw [HW0.out]
      go_upto_region 3 with (go_at_call 26; refine (HS.out _).mono ?_; rintro e w2 ⟨rfl, rfl⟩)
      go_upto_region 4 with (first
        | (go_at_call 26; refine (HS5.out _).mono ?_; rintro e w2 ⟨rfl, rfl⟩)
        | (go_at_call 25; refine (HCp.out _).mono ?_; rintro e w2 ⟨rfl, rfl⟩))
      go_upto_region 5 with (go_at_call 64; refine (HCt.out _).mono ?_; rintro e w2 ⟨rfl, rfl⟩)
      cases D with
      | none =>
        go_wp2_with (go_at_call 65; refine (HPa.out).mono ?_; rintro e w3 ⟨v, rfl, ⟨k, rfl⟩, hb3⟩; have HB3 := Lib.hid hb3; have hx3 := fl_below HX0.out hb3 (fl_lt HX0.out); clear hb3; obtain ⟨c0, c1, c2, c3, c4⟩ := fl_cells hx3; obtain ⟨f0, f1, f2, f3, f4⟩ := fl_frozen hx3; obtain ⟨z0, z1, z2, z3, z4⟩ := fl_cells (fl_set hx3 (.int .i64 k) (.string ⟨#[]⟩) (.string ⟨#[]⟩) (.slice none 0 0) (.slice none 0 0)); unfold set5F at z0 z1 z2 z3 z4; clear hx3)
        have HF := fl_setB (bthen HB0.out HB3.out) (Nat.le_refl w.heap.size) (.int .i64 k) (.string ⟨#[]⟩) (.string ⟨#[]⟩) (.slice none 0 0) (.slice none 0 0)
        refine bodyPost_ret (v := .tuple #[.agg #[.int .i64 k, .string ⟨#[]⟩, .string ⟨#[]⟩, .slice none 0 0, .slice none 0 0], .bool false]) (by simp [results, Tryd.results45, go_sem, z0, z1, z2, z3, z4]) rfl ⟨_, rfl, ?_, HF⟩
        rw [HA.out]
        exact ⟨k, rfl⟩
      | some q =>
        obtain ⟨k, x, P⟩ := q
        obtain ⟨T, hT, hTl⟩ := strV_text x
        have HT := Lib.hid hT
        clear hT hTl
        go_wp2_with (go_at_call 65; refine (HPa.out).mono ?_; rintro e w3 ⟨v, rfl, ⟨u, rfl, hu⟩, hb3⟩; rw [HT.out]; obtain ⟨la, lc, hlv⟩ := ownS_slice hu; subst hlv; have HU := Lib.hid hu; have HB3 := Lib.hid hb3; have hx3 := fl_below HX0.out hb3 (fl_lt HX0.out); have HX3 := Lib.hid hx3; clear hb3 hu; obtain ⟨c0, c1, c2, c3, c4⟩ := fl_cells hx3; obtain ⟨f0, f1, f2, f3, f4⟩ := fl_frozen hx3; obtain ⟨z0, z1, z2, z3, z4⟩ := fl_cells (fl_set hx3 (.int .i64 k) (.string ⟨#[]⟩) (.string T) (.slice la P.length lc) (.slice none 0 0)); unfold set5F at z0 z1 z2 z3 z4; clear hx3)
        have HF := fl_setB (bthen HB0.out HB3.out) (Nat.le_refl w.heap.size) (.int .i64 k) (.string ⟨#[]⟩) (.string T) (.slice la P.length lc) (.slice none 0 0)
        have HU2 := ownS_fl HX3.out (ownS_lower HU.out (Nat.le_of_lt (fl_lt HX0.out))) (.int .i64 k) (.string ⟨#[]⟩) (.string T) (.slice la P.length lc) (.slice none 0 0)
        refine bodyPost_ret (v := .tuple #[.agg #[.int .i64 k, .string ⟨#[]⟩, .string T, .slice la P.length lc, .slice none 0 0], .bool true]) (by simp [results, Tryd.results45, go_sem, z0, z1, z2, z3, z4]) rfl ⟨_, rfl, ?_, HF⟩
        rw [HA.out]
        exact ⟨_, by rw [HT.out], HU2⟩
    · have hB : Lib.hasPrefix l [61] = true → (l.drop 1).contains 42 = false := fun h => by
        cases h2 : (l.drop 1).contains 42 with
        | false => rfl
        | true => exact absurd ⟨h, h2⟩ hp
      have HC0 := Lib.hid hB
      obtain ⟨Y, y, hcall, hcont⟩ : ∃ (Y : ByteArray) (y : Bool), (∀ W, Calls Tryd.prog 25 #[.string s, .string ⟨#[61]⟩] W fun e w' => e = .returned (.tuple #[.string Y, .bool y]) ∧ W = w') ∧ (y = true → ∀ W, Calls Tryd.prog 64 #[.string Y, .string ⟨#[42]⟩] W fun e w' => e = .returned (.bool false) ∧ w' = W) := by
        cases h : Lib.hasPrefix l [61] with
        | false =>
          rw [h, if_neg (by decide)] at hcp'
          exact ⟨s, false, hcp', fun e => by cases e⟩
        | true =>
          rw [h, if_pos rfl] at hcp'
          rw [hB h] at hct
          exact ⟨X, true, hcp', fun _ => hct⟩
      have HCp := Lib.hid hcall
      have HCt := Lib.hid hcont
      have HSg : Hid (∀ j, j < 3 → ∀ W, Calls Tryd.prog 26 #[.int .i64 (kdA j)] W fun e w' => e = .returned (.string (ofL (sgA j))) ∧ W = w') := Lib.hid (fun j hj W => by
        have := sign_any (kdA j) W
        rwa [sgA_kd j hj] at this)
      have HCq : Hid (∀ j W, Calls Tryd.prog 25 #[.string s, .string (ofL (sgA j))] W fun e w' => e = .returned (if Lib.hasPrefix l (sgA j) then .tuple #[.string (s.extract (sgA j).length s.size), .bool true] else .tuple #[.string s, .bool false]) ∧ W = w') := Lib.hid (fun j W => by
        have hz : (ofL (sgA j)).size = (sgA j).length := by rw [← bytes_len, ofL_list]
        have := cutPre_any s (ofL (sgA j)) (by rw [hz]; have := sgA_len j; omega) W
        rwa [ofL_list, hz, ← hl] at this)
      obtain ⟨W6, hW6⟩ : ∃ W, W = W0.alloc (.cells #[.int .i64 4, .int .i64 6, .int .i64 7] 3) := ⟨_, rfl⟩
      have HW6 := Lib.hid hW6.symm
      have HB6 : Hid (Below W0.heap.size W0 W6) := Lib.hid (by rw [hW6]; exact (Below.refl _ _).alloc (Nat.le_refl _) _)
      have HK6 : Hid (∀ j, j < 3 → W6.cell? ⟨W0.heap.size, j, none⟩ = some (.int .i64 (kdA j))) := Lib.hid (fun j hj => by
        have hb : W6.heap[W0.heap.size]? = some (.cells #[.int .i64 4, .int .i64 6, .int .i64 7] 3 (0, 0)) := by rw [hW6]; exact heap_alloc_new _ _
        match j, hj with
        | 0, _ => simp [World.cell?, hb, kdA]
        | 1, _ => simp [World.cell?, hb, kdA]
        | 2, _ => simp [World.cell?, hb, kdA])
      have HX6 := Lib.hid (fl_below HX0.out HB6.out (fl_lt HX0.out))
      have HB06 := Lib.hid (bthen HB0.out HB6.out)
      have HLs : Hid (∀ j, j < 3 → (s.extract (sgA j).length s.size).data.toList = l.drop (sgA j).length) := Lib.hid (fun j _ => by rw [ext_list, hl])
      have HSz : Hid (l.length ≤ 1000000) := Lib.hid (by rw [hl, bytes_len]; exact hs)
      clear hp hB hcall hcont hcp' hct hW6 hXl hX hl hx0 c0 c1 c2 c3 c4 f0 f1 f2 f3 f4 hne
      go_enter Tryd.func45, Tryd.ntmps45
      go_upto_region 1 with (fail)
      rw [HW0.out]
      go_upto_region 3 with (go_at_call 26; refine (HS.out _).mono ?_; rintro e w2 ⟨rfl, rfl⟩)
      go_upto_region 4 with (first
        | (go_at_call 26; refine (HS5.out _).mono ?_; rintro e w2 ⟨rfl, rfl⟩)
        | (go_at_call 25; refine (HCp.out _).mono ?_; rintro e w2 ⟨rfl, rfl⟩))
      cases y
      all_goals
        go_upto_region 6 with (go_at_call 64; refine (HCt.out rfl _).mono ?_; rintro e w2 ⟨rfl, rfl⟩)
        go_wp2
        rw [HW6.out]
        go_loopw [31] (fun s31 wr => ∃ j : Nat, j ≤ 3 ∧ s31 = .int .i64 j ∧ Hid (W6 = wr) ∧ Hid (∀ i, i < j → Lib.hasPrefix l (sgA i) = false)) (fun s31 _ => 3 - (intOf s31).toNat)
        case atStart => exact ⟨0, by omega, rfl, (by first | exact Lib.hid rfl | exact Lib.hid trivial), Lib.hid (fun i hi => absurd hi (Nat.not_lt_zero _))⟩
        case round =>
          obtain ⟨j, hj, rfl, HWr, HNo⟩ := hrel
          rename World => wo
          obtain rfl := HWr.out
          by_cases hlt : j < 3
          · have hcj := HK6.out j hlt
            have HSj := Lib.hid (HSg.out j hlt)
            have hcq := HCq.out j
            have ti0 : (0 : Int) ≤ (j : Int) := by omega
            have ti1 : (j : Int) < 3 := by omega
            cases hpre : Lib.hasPrefix l (sgA j) with
            | false =>
              rw [hpre, if_neg (by decide)] at hcq
              have HCj := Lib.hid hcq
              have HNo2 : Hid (∀ i, i < j + 1 → Lib.hasPrefix l (sgA i) = false) := Lib.hid (fun i hi => by
                by_cases e : i = j
                · rw [e]; exact hpre
                · exact HNo.out i (by omega))
              clear hcq hpre
              go_wp2_with (first
                | (go_at_call 26; refine (HSj.out _).mono ?_; rintro e w2 ⟨rfl, rfl⟩)
                | (go_at_call 25; refine (HCj.out _).mono ?_; rintro e w2 ⟨rfl, rfl⟩))
              go_roundw
              case rel => exact ⟨j + 1, by omega, by go_num, (by first | exact Lib.hid rfl | exact Lib.hid trivial), HNo2⟩
              case measure => simp [intOf]; omega
            | true =>
              rw [hpre, if_pos rfl] at hcq
              have HA := Lib.hid (ask_at hlt HN1.out hpre (fun e => HC0.out (by subst e; exact hpre)))
              have hTl := HLs.out j hlt
              obtain ⟨T, hT⟩ : ∃ T, T = s.extract (sgA j).length s.size := ⟨_, rfl⟩
              rw [← hT] at hcq hTl
              have HCj := Lib.hid hcq
              have hTs : T.size ≤ 1000000 := by
                rw [← bytes_len, hTl, List.length_drop]
                have := HSz.out
                omega
              have hva := fun W => valueFl_any T (by omega) W
              rw [hTl] at hva
              obtain ⟨q, hq⟩ : ∃ q, q = valQ 100 (l.drop (sgA j).length) := ⟨_, rfl⟩
              rw [← hq] at HA hva
              clear hcq hpre hT hTl hq
              cases q with
              | none =>
                simp only [valV2] at hva
                have HVa := Lib.hid hva
                clear hva
                go_wp2_with (first
                  | (go_at_call 26; refine (HSj.out _).mono ?_; rintro e w2 ⟨rfl, rfl⟩)
                  | (go_at_call 25; refine (HCj.out _).mono ?_; rintro e w2 ⟨rfl, rfl⟩)
                  | (go_at_call 66; refine (HVa.out _).mono ?_; rintro e w3 ⟨rfl, hb3⟩; have HB3 := Lib.hid hb3; have hx3 := fl_below HX6.out hb3 (fl_lt HX6.out); clear hb3; obtain ⟨c0, c1, c2, c3, c4⟩ := fl_cells hx3; obtain ⟨f0, f1, f2, f3, f4⟩ := fl_frozen hx3; obtain ⟨z0, z1, z2, z3, z4⟩ := fl_cells (fl_set hx3 (.int .i64 (kdA j)) (.string ⟨#[]⟩) (.string ⟨#[]⟩) (.slice none 0 0) (.slice none 0 0)); unfold set5F at z0 z1 z2 z3 z4; clear hx3))
                have HF := fl_setB (bthen HB06.out HB3.out) (Nat.le_refl w.heap.size) (.int .i64 (kdA j)) (.string ⟨#[]⟩) (.string ⟨#[]⟩) (.slice none 0 0) (.slice none 0 0)
                refine bodyPost_ret (v := .tuple #[.agg #[.int .i64 (kdA j), .string ⟨#[]⟩, .string ⟨#[]⟩, .slice none 0 0, .slice none 0 0], .bool false]) (by simp [results, Tryd.results45, go_sem, z0, z1, z2, z3, z4]) rfl ⟨_, rfl, ?_, HF⟩
                rw [HA.out]
                exact ⟨kdA j, rfl⟩
              | some v =>
                obtain ⟨Z, hZ, hZl⟩ := strV_text v
                have hZ' : (.string ⟨v.toArray⟩ : Value) = .string Z := hZ
                simp only [valV2, hZ'] at hva
                have HVa := Lib.hid hva
                have HZ := Lib.hid hZ
                clear hva hZ hZ' hZl
                go_wp2_with (first
                  | (go_at_call 26; refine (HSj.out _).mono ?_; rintro e w2 ⟨rfl, rfl⟩)
                  | (go_at_call 25; refine (HCj.out _).mono ?_; rintro e w2 ⟨rfl, rfl⟩)
                  | (go_at_call 66; refine (HVa.out _).mono ?_; rintro e w3 ⟨rfl, hb3⟩; have HB3 := Lib.hid hb3; have hx3 := fl_below HX6.out hb3 (fl_lt HX6.out); clear hb3; obtain ⟨c0, c1, c2, c3, c4⟩ := fl_cells hx3; obtain ⟨f0, f1, f2, f3, f4⟩ := fl_frozen hx3; obtain ⟨z0, z1, z2, z3, z4⟩ := fl_cells (fl_set hx3 (.int .i64 (kdA j)) (.string ⟨#[]⟩) (.string Z) (.slice none 0 0) (.slice none 0 0)); unfold set5F at z0 z1 z2 z3 z4; clear hx3))
                have HF := fl_setB (bthen HB06.out HB3.out) (Nat.le_refl w.heap.size) (.int .i64 (kdA j)) (.string ⟨#[]⟩) (.string Z) (.slice none 0 0) (.slice none 0 0)
                refine bodyPost_ret (v := .tuple #[.agg #[.int .i64 (kdA j), .string ⟨#[]⟩, .string Z, .slice none 0 0, .slice none 0 0], .bool true]) (by simp [results, Tryd.results45, go_sem, z0, z1, z2, z3, z4]) rfl ⟨_, rfl, ?_, HF⟩
                rw [HA.out]
                exact ⟨.slice none 0 0, by rw [HZ.out], ownS_nil _ _⟩
          · have h3 : j = 3 := by omega
            subst h3
            have HA := Lib.hid (ask_none HNo.out)
            have hx6 := HX6.out
            obtain ⟨c0, c1, c2, c3, c4⟩ := fl_cells hx6
            obtain ⟨f0, f1, f2, f3, f4⟩ := fl_frozen hx6
            obtain ⟨z0, z1, z2, z3, z4⟩ := fl_cells (fl_set hx6 (.int .i64 0) (.string ⟨#[]⟩) (.string ⟨#[]⟩) (.slice none 0 0) (.slice none 0 0))
            unfold set5F at z0 z1 z2 z3 z4
            clear hx6
            go_wp2
            have HF := fl_setB HB06.out (Nat.le_refl w.heap.size) (.int .i64 0) (.string ⟨#[]⟩) (.string ⟨#[]⟩) (.slice none 0 0) (.slice none 0 0)
            refine bodyPost_ret (v := .tuple #[.agg #[.int .i64 0, .string ⟨#[]⟩, .string ⟨#[]⟩, .slice none 0 0, .slice none 0 0], .bool false]) (by simp [results, Tryd.results45, go_sem, z0, z1, z2, z3, z4]) rfl ⟨_, rfl, ?_, HF⟩
            rw [HA.out]
            exact ⟨0, rfl⟩
end Go.Proofs.YtmpicolplknomaaDoor

/- filter.leaf: the walk. -/
namespace Go.Proofs.YtmpicolplknomaaDoor
open Go.RowKit
set_option linter.unusedVariables false
set_option linter.unusedSimpArgs false

theorem ask_facts {l : List UInt8} {k : Int} {x : List UInt8} {p : List (List UInt8)} (h : askD l = some (k, x, p)) : 4 ≤ k ∧ k ≤ 8 ∧ x.length ≤ 100 := by
  unfold askD at h
  split at h
  · cases h; decide
  · split at h
    · split at h
      · obtain ⟨q, hq, e⟩ := Option.map_eq_some_iff.1 h
        cases e
        decide
      · obtain ⟨q, hq, e⟩ := Option.map_eq_some_iff.1 h
        cases e
        exact ⟨by decide, by decide, val_len hq⟩
    · obtain ⟨q, hq, e⟩ := Option.map_eq_some_iff.1 h
      cases e
      exact ⟨by decide, by decide, val_len hq⟩
    · obtain ⟨q, hq, e⟩ := Option.map_eq_some_iff.1 h
      cases e
      exact ⟨by decide, by decide, val_len hq⟩
    · cases h
theorem mkFl {ok : Nat → Prop} {w : World} {k : Int} {t x : List UInt8} {p : List (List UInt8)} {u : Value} (hk : 4 ≤ k ∧ k ≤ 8) (ht : t.length ≤ maxLen) (hx : x.length ≤ maxLen) (hu : IsTo ok w p u) :
    IsFl ok w (.mk k t x p []) (.agg #[.int .i64 k, strV t, strV x, u, .slice none 0 0]) := by
  have hw : (Lit.int .i64 k).wf = true := by
    have := hk.1
    have := hk.2
    have h5 : k = 4 ∨ k = 5 ∨ k = 6 ∨ k = 7 ∨ k = 8 := by omega
    rcases h5 with rfl | rfl | rfl | rfl | rfl <;> rfl
  exact ⟨u, none, 0, rfl, hw, ht, hx, hu, by simp, trivial⟩
/-- What leaf, next and head tell. -/
def FlV (B : Nat) (w : World) (o : Option FT) (x : Value) (b : Bool) : Prop := match o with
  | none => x = .agg #[.int .i64 0, .string ⟨#[]⟩, .string ⟨#[]⟩, .slice none 0 0, .slice none 0 0] ∧ b = false
  | some f => IsFl (fun k => B ≤ k ∧ k < w.heap.size) w f x ∧ b = true
theorem fl_set1 {W : World} {b : Nat} {y0 y1 y2 y3 y4 : Value} (h : FlAt W b y0 y1 y2 y3 y4) (x1 : Value) : FlAt (W.setCell ⟨b, 1, none⟩ x1) b y0 x1 y2 y3 y4 := by
  have h' : W.heap[b]? = some (.cells #[y0, y1, y2, y3, y4] 25 (0, 0)) := h
  show (W.setCell ⟨b, 1, none⟩ x1).heap[b]? = _
  simp [World.setCell, Array.getElem?_modify, h']
theorem ownS_fl1 {W : World} {b B : Nat} {y0 y1 y2 y3 y4 : Value} (h : FlAt W b y0 y1 y2 y3 y4) {u : Value} {p : List (List UInt8)} (hu : OwnS B W u p) (x1 : Value) : OwnS B (W.setCell ⟨b, 1, none⟩ x1) u p := by
  have hg : W.grownBy (W.setCell ⟨b, 1, none⟩ x1) (some b) := ⟨by simp [World.setCell], by simp [World.setCell], by simp [World.setCell], by simp [World.setCell], fun k hk hn => blockFl_ne _ _ _ (fun e => hn (by rw [e]))⟩
  refine World.ownsRow.kept hu hg ?_
  rcases hu.2 with ⟨rfl, _⟩ | ⟨g, cap, cur, rfl, _, hgc, _⟩
  · exact .inl rfl
  · right
    intro e
    have : g = b := by simpa [Value.ownBlock] using e
    subst this
    rw [h] at hgc
    cases hgc
theorem fl_setC {W : World} {b k o : Nat} {x0 x1 x2 x3 x4 : Value} (h : k ≠ b) : (set5F W b x0 x1 x2 x3 x4).cell? ⟨k, o, none⟩ = W.cell? ⟨k, o, none⟩ := by
  unfold World.cell?
  rw [fl_setO h]
theorem OwnS.slice_len {B : Nat} {w : World} {u : Value} {p : List (List UInt8)} (h : OwnS B w u p) : p.length ≤ maxLen := by
  rcases h.2 with ⟨_, hn⟩ | ⟨g, cap, cur, _, _, _, h1, h2, _⟩
  · rw [hn]; exact Nat.zero_le _
  · exact Nat.le_trans h1 h2
theorem cloneFl_any (s : ByteArray) (hs : s.size ≤ 281474976710656) (w : World) : Calls Tryd.prog 46 #[.string s] w fun e w' => e = .returned (.string s) ∧ Below w.heap.size w w' := by
  have HH := Lib.hid (fun W => Tryd.stringslite_Clone s W hs)
  go_enter Tryd.func46, Tryd.ntmps46
  go_wp2_with (go_at_call 67; refine (HH.out _).mono ?_; rintro e w2 ⟨rfl, hb2⟩; have HB2 := Lib.hid hb2; clear hb2)
  go_ret
  exact ⟨rfl, HB2.out⟩

set_option maxRecDepth 100000 in
set_option maxHeartbeats 8000000 in
theorem leaf_any (s : ByteArray) (hs : s.size ≤ 1000000) (ha : ascii s.data.toList) (w : World) :
    Calls Tryd.prog 29 #[.string s] w fun e w' => ∃ x b, e = .returned (.tuple #[x, .bool b]) ∧ FlV w.heap.size w' (leafD s.data.toList) x b ∧ Below w.heap.size w w' := by
  obtain ⟨l, hl⟩ : ∃ l, l = s.data.toList := ⟨_, rfl⟩
  have hix := fun W => indexAny_any s (by omega) ha W
  rw [← hl] at hix ⊢
  obtain ⟨W0, hW0⟩ : ∃ W, W = w.alloc (.cells #[.int .i64 0, .string ⟨#[]⟩, .string ⟨#[]⟩, .slice none 0 0, .slice none 0 0] 25) := ⟨_, rfl⟩
  have hb0 : Below w.heap.size w W0 := by rw [hW0]; exact box5 w _ _ _ _ _
  have hx0 : FzAt W0 w.heap.size := by rw [hW0]; exact heap_alloc_new w _
  have HB0 := Lib.hid hb0
  have HX0 := Lib.hid hx0
  have HW0 := Lib.hid hW0.symm
  have HL := Lib.hid hl
  clear hb0 hW0 hx0 ha
  rcases any_idx l with ⟨h1, h2⟩ | ⟨n, h1, h2, h3, h4⟩
  · rw [h1] at hix
    have HIx := Lib.hid hix
    have HA : Hid (leafD l = none) := Lib.hid (by unfold leafD; rw [h2]; rfl)
    clear hix h1 h2 hl
    go_enter Tryd.func29, Tryd.ntmps29
    go_upto_region 1 with (fail)
    rw [HW0.out]
    go_wp2_with (go_at_call 44; refine (HIx.out _).mono ?_; rintro e w3 ⟨rfl, hb3⟩; have HB3 := Lib.hid hb3; have hx3 := fl_below HX0.out hb3 (fl_lt HX0.out); clear hb3; obtain ⟨c0, c1, c2, c3, c4⟩ := fl_cells hx3; obtain ⟨f0, f1, f2, f3, f4⟩ := fl_frozen hx3; obtain ⟨z0, z1, z2, z3, z4⟩ := fl_cells (fl_set hx3 (.int .i64 0) (.string ⟨#[]⟩) (.string ⟨#[]⟩) (.slice none 0 0) (.slice none 0 0)); unfold set5F at z0 z1 z2 z3 z4; clear hx3)
    have HF := fl_setB (bthen HB0.out HB3.out) (Nat.le_refl w.heap.size) (.int .i64 0) (.string ⟨#[]⟩) (.string ⟨#[]⟩) (.slice none 0 0) (.slice none 0 0)
    refine bodyPost_ret (v := .tuple #[.agg #[.int .i64 0, .string ⟨#[]⟩, .string ⟨#[]⟩, .slice none 0 0, .slice none 0 0], .bool false]) (by simp [results, Tryd.results29, go_sem, z0, z1, z2, z3, z4]) rfl ⟨_, _, rfl, ?_, HF⟩
    rw [HA.out]
    exact ⟨rfl, rfl⟩
  · rw [h1] at hix
    have HIx := Lib.hid hix
    have hls : l.length = s.size := by rw [hl, bytes_len]
    obtain ⟨X, hX⟩ : ∃ X, X = s.extract n s.size := ⟨_, rfl⟩
    obtain ⟨T, hT⟩ : ∃ T, T = s.extract 0 n := ⟨_, rfl⟩
    have hXl : X.data.toList = l.drop n := by rw [hX, ext_list, hl]
    have hTl : T.data.toList = l.take n := by rw [hT, head_list, hl]
    have hXs : X.size ≤ 1000000 := by rw [← bytes_len, hXl, List.length_drop]; omega
    have hTs : T.size ≤ 1000000 := by rw [← bytes_len, hTl, List.length_take]; omega
    have hns : n < s.size := by omega
    have hak := fun W => asked_any X hXs W
    rw [hXl] at hak
    have HLd : Hid (leafD l = match askD (l.drop n) with
      | some (k, v, p) => if okLeaf k (l.take n) v p 0 then some (.mk k (l.take n) v p []) else none
      | none => none) := Lib.hid (by unfold leafD; rw [h3, h4]; rfl)
    obtain ⟨o, ho⟩ : ∃ o, o = askD (l.drop n) := ⟨_, rfl⟩
    have HO := Lib.hid ho
    rw [← ho] at hak HLd
    have HAk := Lib.hid hak
    have HTl := Lib.hid hTl
    have HX := Lib.hid hX.symm
    have HT := Lib.hid hT.symm
    have HCl := Lib.hid (fun W => cloneFl_any T (by omega) W)
    clear hix h1 h3 h4 hak ho hXl hTl hX hT hl
    go_enter Tryd.func29, Tryd.ntmps29
    go_upto_region 1 with (fail)
    rw [HW0.out]
    have ti0 : (0 : Int) ≤ (n : Int) := by omega
    have ti1 : (n : Int) ≤ (s.size : Int) := by omega
    have ti2 : n ≤ s.size := by omega
    have ti3 : decide ((n : Int) < 0) = false := by simp
    go_upto_region 4 with (go_at_call 44; refine (HIx.out _).mono ?_; rintro e w1 ⟨rfl, hb1⟩; have HB1 := Lib.hid hb1; clear hb1)
    cases o with
    | none =>
      go_upto_region 5 with (go_at_call 45; (try rw [HX.out]); refine (HAk.out _).mono ?_; rintro e w2 ⟨v, rfl, ⟨k, rfl⟩, hb2⟩; have HB2 := Lib.hid hb2; clear hb2)
      obtain ⟨W3, hW3⟩ : ∃ W, W = w2.alloc (.cells #[.int .i64 k, .string ⟨#[]⟩, .string ⟨#[]⟩, .slice none 0 0, .slice none 0 0] 25) := ⟨_, rfl⟩
      rw [← hW3]
      have hx5 : FlAt W3 w2.heap.size (.int .i64 k) (.string ⟨#[]⟩) (.string ⟨#[]⟩) (.slice none 0 0) (.slice none 0 0) := by rw [hW3]; exact heap_alloc_new w2 _
      have hB2 : Below w.heap.size w w2 := bthen (bthen HB0.out HB1.out) HB2.out
      have hB3 : Below w.heap.size w W3 := bthen hB2 (by rw [hW3]; exact box5 w2 _ _ _ _ _)
      have hlt2 : w.heap.size < w2.heap.size := Nat.lt_of_lt_of_le (Nat.lt_of_lt_of_le (fl_lt HX0.out) HB1.out.size) HB2.out.size
      have hx3 : FzAt W3 w.heap.size := fl_below (fl_below (fl_below HX0.out HB1.out (fl_lt HX0.out)) HB2.out (Nat.lt_of_lt_of_le (fl_lt HX0.out) HB1.out.size)) (by rw [hW3]; exact box5 w2 _ _ _ _ _) hlt2
      have HX5 := Lib.hid hx5
      have HX3 := Lib.hid hx3
      have HB3 := Lib.hid hB3
      have HLt := Lib.hid hlt2
      clear hW3 hx5 hB2 hB3 hlt2 hx3
      go_upto_region 6 with (go_at_call 46; (try rw [HT.out]); refine (HCl.out _).mono ?_; rintro e w4 ⟨rfl, hb4⟩; have HB4 := Lib.hid hb4; have hx4 := fl_below HX5.out hb4 (fl_lt HX5.out); have HX4 := Lib.hid hx4; clear hb4; obtain ⟨c0, c1, c2, c3, c4⟩ := fl_cells hx4; obtain ⟨f0, f1, f2, f3, f4⟩ := fl_frozen hx4; clear hx4)
      obtain ⟨W5, hW5⟩ : ∃ W, W = w4.setCell ⟨w2.heap.size, 1, none⟩ (.string T) := ⟨_, rfl⟩
      rw [← hW5]
      have hz5 : FzAt W5 w.heap.size := by
        rw [hW5]
        exact (blockFl_ne w4 ⟨w2.heap.size, 1, none⟩ (.string T) (Nat.ne_of_lt HLt.out)).trans (fl_below HX3.out HB4.out (fl_lt HX3.out))
      have hb5 : Below w.heap.size w W5 := by
        rw [hW5]
        exact (bthen HB3.out HB4.out).setCell (p := ⟨w2.heap.size, 1, none⟩) (Nat.le_of_lt HLt.out) _
      have HB5 := Lib.hid hb5
      clear hW5 hb5 c0 c1 c2 c3 c4 f0 f1 f2 f3 f4
      obtain ⟨c0, c1, c2, c3, c4⟩ := fl_cells hz5
      obtain ⟨f0, f1, f2, f3, f4⟩ := fl_frozen hz5
      obtain ⟨z0, z1, z2, z3, z4⟩ := fl_cells (fl_set hz5 (.int .i64 0) (.string ⟨#[]⟩) (.string ⟨#[]⟩) (.slice none 0 0) (.slice none 0 0))
      unfold set5F at z0 z1 z2 z3 z4
      clear hz5
      go_wp2
      have HF := fl_setB HB5.out (Nat.le_refl w.heap.size) (.int .i64 0) (.string ⟨#[]⟩) (.string ⟨#[]⟩) (.slice none 0 0) (.slice none 0 0)
      refine bodyPost_ret (v := .tuple #[.agg #[.int .i64 0, .string ⟨#[]⟩, .string ⟨#[]⟩, .slice none 0 0, .slice none 0 0], .bool false]) (by simp [results, Tryd.results29, go_sem, z0, z1, z2, z3, z4]) rfl ⟨_, _, rfl, ?_, HF⟩
      rw [HLd.out]
      exact ⟨rfl, rfl⟩
    | some q =>
      obtain ⟨k, x, P⟩ := q
      have hfk := ask_facts HO.out.symm
      obtain ⟨Z, hZ, hZl⟩ := strV_text x
      have HZ := Lib.hid hZ
      have HFk := Lib.hid hfk
      clear hfk hZ hZl
      go_upto_region 5 with (go_at_call 45; (try rw [HX.out]); refine (HAk.out _).mono ?_; rintro e w2 ⟨v, rfl, ⟨u, rfl, hu⟩, hb2⟩; rw [HZ.out]; obtain ⟨la, lc, hlv⟩ := ownS_slice hu; subst hlv; have HU := Lib.hid hu; have HB2 := Lib.hid hb2; clear hb2 hu)
      obtain ⟨W3, hW3⟩ : ∃ W, W = w2.alloc (.cells #[.int .i64 k, .string ⟨#[]⟩, .string Z, .slice la P.length lc, .slice none 0 0] 25) := ⟨_, rfl⟩
      rw [← hW3]
      have hx5 : FlAt W3 w2.heap.size (.int .i64 k) (.string ⟨#[]⟩) (.string Z) (.slice la P.length lc) (.slice none 0 0) := by rw [hW3]; exact heap_alloc_new w2 _
      have hB2 : Below w.heap.size w w2 := bthen (bthen HB0.out HB1.out) HB2.out
      have hb23 : Below w2.heap.size w2 W3 := by rw [hW3]; exact box5 w2 _ _ _ _ _
      have hB3 : Below w.heap.size w W3 := bthen hB2 hb23
      have hlt1 : w.heap.size < w1.heap.size := Nat.lt_of_lt_of_le (fl_lt HX0.out) HB1.out.size
      have hlt2 : w.heap.size < w2.heap.size := Nat.lt_of_lt_of_le hlt1 HB2.out.size
      have hx3 : FzAt W3 w.heap.size := fl_below (fl_below (fl_below HX0.out HB1.out (fl_lt HX0.out)) HB2.out hlt1) hb23 hlt2
      have hu3 : OwnS (w.heap.size + 1) W3 (.slice la P.length lc) P := ownS_below (ownS_lower HU.out hlt1) hb23
      have HX5 := Lib.hid hx5
      have HX3 := Lib.hid hx3
      have HB3 := Lib.hid hB3
      have HLt := Lib.hid hlt2
      have HU3 := Lib.hid hu3
      clear hW3 hx5 hB2 hB3 hlt2 hx3 hu3 hb23 hlt1
      go_upto_region 6 with (go_at_call 46; (try rw [HT.out]); refine (HCl.out _).mono ?_; rintro e w4 ⟨rfl, hb4⟩; have HB4 := Lib.hid hb4; have hx4 := fl_below HX5.out hb4 (fl_lt HX5.out); have HX4 := Lib.hid hx4; clear hb4; obtain ⟨c0, c1, c2, c3, c4⟩ := fl_cells hx4; obtain ⟨f0, f1, f2, f3, f4⟩ := fl_frozen hx4; clear hx4)
      obtain ⟨W5, hW5⟩ : ∃ W, W = w4.setCell ⟨w2.heap.size, 1, none⟩ (.string T) := ⟨_, rfl⟩
      rw [← hW5]
      have hz5 : FzAt W5 w.heap.size := by
        rw [hW5]
        exact (blockFl_ne w4 ⟨w2.heap.size, 1, none⟩ (.string T) (Nat.ne_of_lt HLt.out)).trans (fl_below HX3.out HB4.out (fl_lt HX3.out))
      have hb5 : Below w.heap.size w W5 := by
        rw [hW5]
        exact (bthen HB3.out HB4.out).setCell (p := ⟨w2.heap.size, 1, none⟩) (Nat.le_of_lt HLt.out) _
      have hy5 : FlAt W5 w2.heap.size (.int .i64 k) (.string T) (.string Z) (.slice la P.length lc) (.slice none 0 0) := by rw [hW5]; exact fl_set1 HX4.out (.string T)
      have hu5 : OwnS (w.heap.size + 1) W5 (.slice la P.length lc) P := by rw [hW5]; exact ownS_fl1 HX4.out (ownS_below HU3.out HB4.out) (.string T)
      have hTv : strV (l.take n) = .string T := by rw [← HTl.out]; exact strV_whole T
      have hpl : P.length ≤ maxLen := hu5.slice_len
      have hfl : IsFl (fun b => w.heap.size + 1 ≤ b ∧ b < W5.heap.size) W5 (.mk k (l.take n) x P []) (.agg #[.int .i64 k, .string T, .string Z, .slice la P.length lc, .slice none 0 0]) := by
        have h := mkFl (t := l.take n) (x := x) ⟨HFk.out.1, HFk.out.2.1⟩ (by rw [List.length_take]; unfold maxLen; omega) (by have := HFk.out.2.2; unfold maxLen; omega) (ownS_isTo hu5 hpl)
        rw [hTv, HZ.out] at h
        exact h
      have hml := mayLeaf_any k (l.take n) x P [] _ W5 (hfl.imp (fun b h => h.2) (fun _ _ _ => rfl))
      obtain ⟨g, hg⟩ : ∃ g, g = okLeaf k (l.take n) x P 0 := ⟨_, rfl⟩
      have hld := HLd.out
      rw [← hg] at hld
      rw [show ([] : List FT).length = 0 from rfl, ← hg] at hml
      have HMl := Lib.hid hml
      have HFl := Lib.hid hfl
      have HA := Lib.hid hld
      have HB5 := Lib.hid hb5
      have HZ5 := Lib.hid hz5
      have HY5 := Lib.hid hy5
      clear hW5 hb5 c0 c1 c2 c3 c4 f0 f1 f2 f3 f4 hu5 hTv hpl hfl hml hg hld hz5
      obtain ⟨d0, d1, d2, d3, d4⟩ := fl_cells hy5
      clear hy5
      cases g with
      | false =>
        go_wp2_with (go_at_call 33; refine (HMl.out).mono ?_; rintro e w6 ⟨rfl, hb6⟩; have HB6 := Lib.hid hb6; have hx3 := fl_below HZ5.out hb6 (fl_lt HZ5.out); clear hb6; obtain ⟨c0, c1, c2, c3, c4⟩ := fl_cells hx3; obtain ⟨f0, f1, f2, f3, f4⟩ := fl_frozen hx3; obtain ⟨z0, z1, z2, z3, z4⟩ := fl_cells (fl_set hx3 (.int .i64 0) (.string ⟨#[]⟩) (.string ⟨#[]⟩) (.slice none 0 0) (.slice none 0 0)); unfold set5F at z0 z1 z2 z3 z4; clear hx3)
        have HF := fl_setB (bthen HB5.out HB6.out) (Nat.le_refl w.heap.size) (.int .i64 0) (.string ⟨#[]⟩) (.string ⟨#[]⟩) (.slice none 0 0) (.slice none 0 0)
        refine bodyPost_ret (v := .tuple #[.agg #[.int .i64 0, .string ⟨#[]⟩, .string ⟨#[]⟩, .slice none 0 0, .slice none 0 0], .bool false]) (by simp [results, Tryd.results29, go_sem, z0, z1, z2, z3, z4]) rfl ⟨_, _, rfl, ?_, HF⟩
        rw [HA.out]
        exact ⟨rfl, rfl⟩
      | true =>
        go_wp2_with (go_at_call 33; refine (HMl.out).mono ?_; rintro e w6 ⟨rfl, hb6⟩; have HB6 := Lib.hid hb6; have hx3 := fl_below HZ5.out hb6 (fl_lt HZ5.out); have hy6 := fl_below HY5.out hb6 (fl_lt HY5.out); clear hb6 d0 d1 d2 d3 d4; obtain ⟨d0, d1, d2, d3, d4⟩ := fl_cells hy6; obtain ⟨c0, c1, c2, c3, c4⟩ := fl_cells hx3; obtain ⟨f0, f1, f2, f3, f4⟩ := fl_frozen hx3; obtain ⟨z0, z1, z2, z3, z4⟩ := fl_cells (fl_set hx3 (.int .i64 k) (.string T) (.string Z) (.slice la P.length lc) (.slice none 0 0)); unfold set5F at z0 z1 z2 z3 z4; clear hx3 hy6)
        have HF := fl_setB (bthen HB5.out HB6.out) (Nat.le_refl w.heap.size) (.int .i64 k) (.string T) (.string Z) (.slice la P.length lc) (.slice none 0 0)
        have HFn : IsFl (fun b => w.heap.size ≤ b ∧ b < (set5F w6 w.heap.size (.int .i64 k) (.string T) (.string Z) (.slice la P.length lc) (.slice none 0 0)).heap.size) (set5F w6 w.heap.size (.int .i64 k) (.string T) (.string Z) (.slice la P.length lc) (.slice none 0 0)) (.mk k (l.take n) x P []) (.agg #[.int .i64 k, .string T, .string Z, .slice la P.length lc, .slice none 0 0]) := by
          refine (HFl.out).imp (fun b h => ⟨by omega, by rw [set5F_size]; exact Nat.lt_of_lt_of_le h.2 HB6.out.size⟩) (fun b o h => ?_)
          rw [fl_setC (by omega)]
          exact HB6.out.cell (p := ⟨b, o, none⟩) h.2
        refine bodyPost_ret (v := .tuple #[.agg #[.int .i64 k, .string T, .string Z, .slice la P.length lc, .slice none 0 0], .bool true]) (by simp [results, Tryd.results29, go_sem, z0, z1, z2, z3, z4]) rfl ⟨_, _, rfl, ?_, HF⟩
        rw [HA.out]
        exact ⟨HFn, rfl⟩
end Go.Proofs.YtmpicolplknomaaDoor

/- What the document's one has in memory: its answer's block, its filter's block. -/
namespace Go.Proofs.YtmpicolplknomaaDoor
open Go.RowKit
set_option linter.unusedVariables false
set_option linter.unusedSimpArgs false

abbrev zG : Obj := .cells #[.int .i64 0, .string ⟨#[]⟩, .string ⟨#[]⟩, .slice none 0 0, .slice none 0 0, .int .i64 0] 40
abbrev GlAt (W : World) (b : Nat) (x0 x1 x2 x3 x4 : Value) (n : Int) : Prop := W.heap[b]? = some (.cells #[x0, x1, x2, x3, x4, .int .i64 n] 40 (0, 0))
abbrev GzAt (W : World) (b : Nat) : Prop := GlAt W b (.int .i64 0) (.string ⟨#[]⟩) (.string ⟨#[]⟩) (.slice none 0 0) (.slice none 0 0) 0
def set6G (W : World) (b : Nat) (x0 x1 x2 x3 x4 : Value) (n : Int) : World := (((((W.setCell ⟨b, 0, none⟩ x0).setCell ⟨b, 1, none⟩ x1).setCell ⟨b, 2, none⟩ x2).setCell ⟨b, 3, none⟩ x3).setCell ⟨b, 4, none⟩ x4).setCell ⟨b, 5, none⟩ (.int .i64 n)
theorem gl_lt {W : World} {b : Nat} {x0 x1 x2 x3 x4 : Value} {n : Int} (h : GlAt W b x0 x1 x2 x3 x4 n) : b < W.heap.size := (Array.getElem?_eq_some_iff.1 h).1
theorem gl_below {W W' : World} {b m : Nat} {x0 x1 x2 x3 x4 : Value} {n : Int} (h : GlAt W b x0 x1 x2 x3 x4 n) (hb : Below m W W') (hn : b < m) : GlAt W' b x0 x1 x2 x3 x4 n := (hb.block b hn).trans h
theorem gl_cells {W : World} {b : Nat} {x0 x1 x2 x3 x4 : Value} {n : Int} (h : GlAt W b x0 x1 x2 x3 x4 n) : W.cell? ⟨b, 0, none⟩ = some x0 ∧ W.cell? ⟨b, 1, none⟩ = some x1 ∧ W.cell? ⟨b, 2, none⟩ = some x2 ∧ W.cell? ⟨b, 3, none⟩ = some x3 ∧ W.cell? ⟨b, 4, none⟩ = some x4 ∧ W.cell? ⟨b, 5, none⟩ = some (.int .i64 n) := by
  have h' : W.heap[b]? = some (.cells #[x0, x1, x2, x3, x4, .int .i64 n] 40 (0, 0)) := h
  refine ⟨?_, ?_, ?_, ?_, ?_, ?_⟩ <;> simp [World.cell?, h']
theorem gl_frozen {W : World} {b : Nat} {x0 x1 x2 x3 x4 : Value} {n : Int} (h : GlAt W b x0 x1 x2 x3 x4 n) : W.frozen? ⟨b, 0, none⟩ = false ∧ W.frozen? ⟨b, 1, none⟩ = false ∧ W.frozen? ⟨b, 2, none⟩ = false ∧ W.frozen? ⟨b, 3, none⟩ = false ∧ W.frozen? ⟨b, 4, none⟩ = false ∧ W.frozen? ⟨b, 5, none⟩ = false := by
  have h' : W.heap[b]? = some (.cells #[x0, x1, x2, x3, x4, .int .i64 n] 40 (0, 0)) := h
  refine ⟨?_, ?_, ?_, ?_, ?_, ?_⟩ <;> simp [World.frozen?, h']
theorem gl_set {W : World} {b : Nat} {y0 y1 y2 y3 y4 : Value} {m : Int} (h : GlAt W b y0 y1 y2 y3 y4 m) (x0 x1 x2 x3 x4 : Value) (n : Int) : GlAt (set6G W b x0 x1 x2 x3 x4 n) b x0 x1 x2 x3 x4 n := by
  have h' : W.heap[b]? = some (.cells #[y0, y1, y2, y3, y4, .int .i64 m] 40 (0, 0)) := h
  show (set6G W b x0 x1 x2 x3 x4 n).heap[b]? = _
  simp [set6G, World.setCell, Array.getElem?_modify, h']
theorem gl_setB {W W0 : World} {b m : Nat} (h : Below m W0 W) (hn : m ≤ b) (x0 x1 x2 x3 x4 : Value) (n : Int) : Below m W0 (set6G W b x0 x1 x2 x3 x4 n) :=
  (((((h.setCell (p := ⟨b, 0, none⟩) hn x0).setCell (p := ⟨b, 1, none⟩) hn x1).setCell (p := ⟨b, 2, none⟩) hn x2).setCell (p := ⟨b, 3, none⟩) hn x3).setCell (p := ⟨b, 4, none⟩) hn x4).setCell (p := ⟨b, 5, none⟩) hn (.int .i64 n)
theorem gl_setO {W : World} {b k : Nat} (h : k ≠ b) (x0 x1 x2 x3 x4 : Value) (n : Int) : (set6G W b x0 x1 x2 x3 x4 n).heap[k]? = W.heap[k]? := by
  unfold set6G
  rw [blockFl_ne _ ⟨b, 5, none⟩ _ h, blockFl_ne _ ⟨b, 4, none⟩ _ h, blockFl_ne _ ⟨b, 3, none⟩ _ h, blockFl_ne _ ⟨b, 2, none⟩ _ h, blockFl_ne _ ⟨b, 1, none⟩ _ h, blockFl_ne _ ⟨b, 0, none⟩ _ h]
theorem gl_setC {W : World} {b k o : Nat} {x0 x1 x2 x3 x4 : Value} {n : Int} (h : k ≠ b) : (set6G W b x0 x1 x2 x3 x4 n).cell? ⟨k, o, none⟩ = W.cell? ⟨k, o, none⟩ := by
  unfold World.cell?
  rw [gl_setO h]
theorem set6G_size (W : World) (b : Nat) (x0 x1 x2 x3 x4 : Value) (n : Int) : (set6G W b x0 x1 x2 x3 x4 n).heap.size = W.heap.size := by simp [set6G, World.setCell]
theorem box6G (w : World) (x0 x1 x2 x3 x4 : Value) (n : Int) : Below w.heap.size w (w.alloc (.cells #[x0, x1, x2, x3, x4, .int .i64 n] 40)) := (Below.refl _ _).alloc (Nat.le_refl _) _

/-- Both blocks of a call of one: the answer's, still as it was made, and the filter's. -/
structure OnAt (w : World) (fb : Nat) (wx : World) (x0 x1 x2 x3 x4 : Value) : Prop where
  at1 : fb = w.heap.size + 1
  res : GzAt wx w.heap.size
  flt : FlAt wx fb x0 x1 x2 x3 x4
  bel : Below w.heap.size w wx
theorem OnAt.lt {w wx : World} {fb : Nat} {x0 x1 x2 x3 x4 : Value} (h : OnAt w fb wx x0 x1 x2 x3 x4) : fb < wx.heap.size := fl_lt h.flt
theorem OnAt.go {w wx wy : World} {fb : Nat} {x0 x1 x2 x3 x4 : Value} (h : OnAt w fb wx x0 x1 x2 x3 x4) (hb : Below wx.heap.size wx wy) : OnAt w fb wy x0 x1 x2 x3 x4 :=
  ⟨h.at1, gl_below h.res hb (gl_lt h.res), fl_below h.flt hb (fl_lt h.flt), bthen h.bel hb⟩
theorem onAt_new (w : World) : OnAt w (w.alloc zG).heap.size ((w.alloc zG).alloc (.cells #[.int .i64 0, .string ⟨#[]⟩, .string ⟨#[]⟩, .slice none 0 0, .slice none 0 0] 25)) (.int .i64 0) (.string ⟨#[]⟩) (.string ⟨#[]⟩) (.slice none 0 0) (.slice none 0 0) := by
  have h0 := box6G w (.int .i64 0) (.string ⟨#[]⟩) (.string ⟨#[]⟩) (.slice none 0 0) (.slice none 0 0) 0
  have hz : GzAt (w.alloc zG) w.heap.size := heap_alloc_new w _
  refine ⟨by simp only [World.alloc, Array.size_push], gl_below hz (box5 _ _ _ _ _ _) (gl_lt hz), heap_alloc_new _ _, bthen h0 (box5 _ _ _ _ _ _)⟩
theorem on_set {w wx : World} {fb : Nat} {x0 x1 x2 x3 x4 : Value} (h : OnAt w fb wx x0 x1 x2 x3 x4) (o : Nat) (x : Value) :
    GzAt (wx.setCell ⟨fb, o, none⟩ x) w.heap.size ∧ Below w.heap.size w (wx.setCell ⟨fb, o, none⟩ x) := by
  have h1 := h.at1
  exact ⟨(blockFl_ne _ ⟨fb, o, none⟩ _ (by show w.heap.size ≠ fb; omega)).trans h.res, h.bel.setCell (p := ⟨fb, o, none⟩) (by show w.heap.size ≤ fb; omega) _⟩
theorem OnAt.set0 {w wx : World} {fb : Nat} {x0 x1 x2 x3 x4 : Value} (h : OnAt w fb wx x0 x1 x2 x3 x4) (x : Value) : OnAt w fb (wx.setCell ⟨fb, 0, none⟩ x) x x1 x2 x3 x4 := by
  have h' : wx.heap[fb]? = some (.cells #[x0, x1, x2, x3, x4] 25 (0, 0)) := h.flt
  exact ⟨h.at1, (on_set h 0 x).1, by show (wx.setCell ⟨fb, 0, none⟩ x).heap[fb]? = _; simp [World.setCell, Array.getElem?_modify, h'], (on_set h 0 x).2⟩
theorem OnAt.set1 {w wx : World} {fb : Nat} {x0 x1 x2 x3 x4 : Value} (h : OnAt w fb wx x0 x1 x2 x3 x4) (x : Value) : OnAt w fb (wx.setCell ⟨fb, 1, none⟩ x) x0 x x2 x3 x4 := by
  have h' : wx.heap[fb]? = some (.cells #[x0, x1, x2, x3, x4] 25 (0, 0)) := h.flt
  exact ⟨h.at1, (on_set h 1 x).1, by show (wx.setCell ⟨fb, 1, none⟩ x).heap[fb]? = _; simp [World.setCell, Array.getElem?_modify, h'], (on_set h 1 x).2⟩
theorem OnAt.set2 {w wx : World} {fb : Nat} {x0 x1 x2 x3 x4 : Value} (h : OnAt w fb wx x0 x1 x2 x3 x4) (x : Value) : OnAt w fb (wx.setCell ⟨fb, 2, none⟩ x) x0 x1 x x3 x4 := by
  have h' : wx.heap[fb]? = some (.cells #[x0, x1, x2, x3, x4] 25 (0, 0)) := h.flt
  exact ⟨h.at1, (on_set h 2 x).1, by show (wx.setCell ⟨fb, 2, none⟩ x).heap[fb]? = _; simp [World.setCell, Array.getElem?_modify, h'], (on_set h 2 x).2⟩
theorem OnAt.set3 {w wx : World} {fb : Nat} {x0 x1 x2 x3 x4 : Value} (h : OnAt w fb wx x0 x1 x2 x3 x4) (x : Value) : OnAt w fb (wx.setCell ⟨fb, 3, none⟩ x) x0 x1 x2 x x4 := by
  have h' : wx.heap[fb]? = some (.cells #[x0, x1, x2, x3, x4] 25 (0, 0)) := h.flt
  exact ⟨h.at1, (on_set h 3 x).1, by show (wx.setCell ⟨fb, 3, none⟩ x).heap[fb]? = _; simp [World.setCell, Array.getElem?_modify, h'], (on_set h 3 x).2⟩
theorem OnAt.set4 {w wx : World} {fb : Nat} {x0 x1 x2 x3 x4 : Value} (h : OnAt w fb wx x0 x1 x2 x3 x4) (x : Value) : OnAt w fb (wx.setCell ⟨fb, 4, none⟩ x) x0 x1 x2 x3 x := by
  have h' : wx.heap[fb]? = some (.cells #[x0, x1, x2, x3, x4] 25 (0, 0)) := h.flt
  exact ⟨h.at1, (on_set h 4 x).1, by show (wx.setCell ⟨fb, 4, none⟩ x).heap[fb]? = _; simp [World.setCell, Array.getElem?_modify, h'], (on_set h 4 x).2⟩
/-- Texts in other blocks than the filter's. -/
theorem isTo_setF {n fb o : Nat} {wx : World} {p : List (List UInt8)} {v : Value} (h : IsTo (fun b => n ≤ b ∧ b < wx.heap.size) wx p v) (hn : fb < n) (x : Value) :
    IsTo (fun b => n ≤ b ∧ b < (wx.setCell ⟨fb, o, none⟩ x).heap.size) (wx.setCell ⟨fb, o, none⟩ x) p v :=
  h.imp (fun b hb => by rw [World.size_setCell]; exact hb) (fun b k hb => World.cell?_of_block (a := ⟨b, k, none⟩) (heap_setCell_other _ _ _ _ (by show b ≠ fb; omega)))

/-- What one answers. -/
def OneV (B : Nat) (W : World) (s : ByteArray) (o : Option (FT × List UInt8)) (x0 x1 x2 x3 x4 : Value) (n : Int) : Prop := match o with
  | none => x0 = .int .i64 0 ∧ x1 = .string ⟨#[]⟩ ∧ x2 = .string ⟨#[]⟩ ∧ x3 = .slice none 0 0 ∧ x4 = .slice none 0 0 ∧ n = -1
  | some (f, r) => ∃ m : Nat, n = m ∧ m ≤ s.size ∧ s.data.toList.drop m = r ∧ IsFl (fun b => B ≤ b ∧ b < W.heap.size) W f (.agg #[x0, x1, x2, x3, x4])
def OneIs (s : ByteArray) (at' : Int) (m : Int) (o : Option (FT × List UInt8)) (w : World) : Prop := Calls Tryd.prog 16 #[.string s, .int .i64 at', .int .i64 m] w fun e w' => ∃ x0 x1 x2 x3 x4 n, e = .returned (.agg #[x0, x1, x2, x3, x4, .int .i64 n]) ∧ OneV w.heap.size w' s o x0 x1 x2 x3 x4 n ∧ Below w.heap.size w w'
/-- one at a depth. -/
def OnesR (d : Nat) : Prop := ∀ (s : ByteArray) (at' : Nat) (w : World), s.size ≤ 1000 → at' ≤ s.size → OneIs s at' ((d : Int) - 1) (oneO d (s.data.toList.drop at')) w
/-- What stands behind a filter's beginning. -/
def endO (f : FT) : List UInt8 → Option (FT × List UInt8)
  | 41 :: X => some (f, X)
  | _ => none
theorem endO_nil (f : FT) : endO f [] = none := rfl
theorem endO_one (f : FT) (X : List UInt8) : endO f (41 :: X) = some (f, X) := rfl
theorem endO_not (f : FT) {c : UInt8} (X : List UInt8) (h : c ≠ 41) : endO f (c :: X) = none := by
  unfold endO
  split
  · rename_i Y e
    injection e with e1 _
    exact absurd e1 h
  · rfl

/-! ### Nothing to be read -/
theorem oneO_short (d : Nat) {l : List UInt8} (h : l.length ≤ 1) : oneO d l = none := by
  cases d with
  | zero => rfl
  | succ d =>
    match l, h with
    | [], _ => rfl
    | [x], _ =>
      unfold oneO
      split
      · rename_i h; simp at h
      · rfl
theorem oneO_not (d : Nat) {c : UInt8} (X : List UInt8) (h : c ≠ 40) : oneO d (c :: X) = none := by
  cases d with
  | zero => rfl
  | succ d =>
    unfold oneO
    split
    · rename_i e
      injection e with e1 _
      exact absurd e1 h
    · rfl
theorem oneO_zero (l : List UInt8) : oneO 0 l = none := rfl
set_option maxRecDepth 100000 in
set_option maxHeartbeats 4000000 in
theorem oneNone (s : ByteArray) (hs : s.size ≤ 100000) (at' : Nat) (m : Int) (hm : -1 ≤ m ∧ m ≤ 100) (h : s.size ≤ at' + 1 ∨ (∃ hl : at' < s.size, s[at'] ≠ 40) ∨ m = -1) (ha : at' ≤ s.size) (w : World) : OneIs s at' m none w := by
  obtain ⟨W0, hW0⟩ : ∃ W, W = w.alloc zG := ⟨_, rfl⟩
  have hb0 : Below w.heap.size w W0 := by rw [hW0]; exact box6G w _ _ _ _ _ _
  have hx0 : GzAt W0 w.heap.size := by rw [hW0]; exact heap_alloc_new w _
  have HW0 := Lib.hid hW0.symm
  have HB0 := Lib.hid hb0
  have ew : IntKind.i64.wrap ((at' : Int) + 1) = (at' : Int) + 1 := IntWalk.i64_in _ (by omega)
  obtain ⟨c0, c1, c2, c3, c4, c5⟩ := gl_cells hx0
  obtain ⟨f0, f1, f2, f3, f4, f5⟩ := gl_frozen hx0
  obtain ⟨z0, z1, z2, z3, z4, z5⟩ := gl_cells (gl_set hx0 (.int .i64 0) (.string ⟨#[]⟩) (.string ⟨#[]⟩) (.slice none 0 0) (.slice none 0 0) (-1))
  unfold set6G at z0 z1 z2 z3 z4 z5
  clear hW0 hb0 hx0
  unfold OneIs
  by_cases h1 : s.size ≤ at' + 1
  · have t1 : decide ((s.size : Int) ≤ (at' : Int) + 1) = true := by simp; omega
    clear h
    go_enter Tryd.func16, Tryd.ntmps16
    go_upto_region 1 with (fail)
    rw [HW0.out]
    go_wp2
    have hbz := gl_setB HB0.out (Nat.le_refl w.heap.size) (.int .i64 0) (.string ⟨#[]⟩) (.string ⟨#[]⟩) (.slice none 0 0) (.slice none 0 0) (-1)
    refine bodyPost_ret (v := .agg #[.int .i64 0, .string ⟨#[]⟩, .string ⟨#[]⟩, .slice none 0 0, .slice none 0 0, .int .i64 (-1)]) (by simp [results, Tryd.results16, go_sem, z0, z1, z2, z3, z4, z5]) rfl ⟨_, _, _, _, _, _, rfl, ⟨rfl, rfl, rfl, rfl, rfl, rfl⟩, hbz⟩
  · have t1 : decide ((s.size : Int) ≤ (at' : Int) + 1) = false := by simp; omega
    have hlt : at' < s.size := by omega
    obtain ⟨c, hc⟩ : ∃ c : UInt8, c = s[at'] := ⟨_, rfl⟩
    have hc' : s[at']'hlt = c := hc.symm
    have hcl := c.toNat_lt
    by_cases h2 : c.toNat = 40
    · have hm1 : m = -1 := by
        rcases h with h | ⟨hl, h⟩ | h
        · omega
        · exact absurd (UInt8.toNat_inj.1 (by rw [hc', h2]; rfl)) h
        · exact h
      subst hm1
      have t2 : ((c.toNat : Int) != 40) = false := by simp [h2]
      clear h hc
      go_enter Tryd.func16, Tryd.ntmps16
      go_upto_region 1 with (fail)
      rw [HW0.out]
      go_wp2
      have hbz := gl_setB HB0.out (Nat.le_refl w.heap.size) (.int .i64 0) (.string ⟨#[]⟩) (.string ⟨#[]⟩) (.slice none 0 0) (.slice none 0 0) (-1)
      refine bodyPost_ret (v := .agg #[.int .i64 0, .string ⟨#[]⟩, .string ⟨#[]⟩, .slice none 0 0, .slice none 0 0, .int .i64 (-1)]) (by simp [results, Tryd.results16, go_sem, z0, z1, z2, z3, z4, z5]) rfl ⟨_, _, _, _, _, _, rfl, ⟨rfl, rfl, rfl, rfl, rfl, rfl⟩, hbz⟩
    · have t2 : ((c.toNat : Int) != 40) = true := by simp; omega
      clear h hc h2
      go_enter Tryd.func16, Tryd.ntmps16
      go_upto_region 1 with (fail)
      rw [HW0.out]
      go_wp2
      have hbz := gl_setB HB0.out (Nat.le_refl w.heap.size) (.int .i64 0) (.string ⟨#[]⟩) (.string ⟨#[]⟩) (.slice none 0 0) (.slice none 0 0) (-1)
      refine bodyPost_ret (v := .agg #[.int .i64 0, .string ⟨#[]⟩, .string ⟨#[]⟩, .slice none 0 0, .slice none 0 0, .int .i64 (-1)]) (by simp [results, Tryd.results16, go_sem, z0, z1, z2, z3, z4, z5]) rfl ⟨_, _, _, _, _, _, rfl, ⟨rfl, rfl, rfl, rfl, rfl, rfl⟩, hbz⟩
end Go.Proofs.YtmpicolplknomaaDoor

/- The document's one, at a leaf: the walk. -/
namespace Go.Proofs.YtmpicolplknomaaDoor
open Go.RowKit
set_option linter.unusedVariables false
set_option linter.unusedSimpArgs false

theorem oneO_leaf (d : Nat) {c : UInt8} (r : List UInt8) (h : c ≠ 38 ∧ c ≠ 124 ∧ c ≠ 33) : oneO (d + 1) (40 :: c :: r) = match leafO (c :: r) with
    | some (f, R) => endO f R
    | none => none := by
  have hb : bodyO (oneO d) c r = leafO (c :: r) := by
    unfold bodyO
    rw [if_neg (by rintro (e | e | e); exact h.1 e; exact h.2.1 e; exact h.2.2 e)]
  show (match bodyO (oneO d) c r with
    | some (f, 41 :: X) => some (f, X)
    | _ => none) = _
  rw [hb]
  cases leafO (c :: r) with
  | none => rfl
  | some x =>
    obtain ⟨f, R⟩ := x
    show _ = endO f R
    unfold endO
    split <;> rename_i e
    · cases e; rfl
    · split
      · exact absurd rfl (e _ _)
      · rfl
theorem leafO_not {s : List UInt8} (h : (signO (s.dropWhile typC)).2.head? ≠ some 61) : leafO s = none := by
  unfold leafO
  simp only
  split
  · rename_i r e
    rw [e] at h
    exact absurd rfl h
  · rfl
theorem leafO_yes {s r : List UInt8} {K : Int} (h : signO (s.dropWhile typC) = (K, 61 :: r)) : leafO s = some (.mk (valO K (plainO [] r).1).1 (s.takeWhile typC) (valO K (plainO [] r).1).2.1 (valO K (plainO [] r).1).2.2 [], (plainO [] r).2) := by
  unfold leafO
  simp only [h]
theorem signO_at (s : ByteArray) (j : Nat) (hj : j ≤ s.size) : ∃ (K : Int) (k1 : Nat), signO (s.data.toList.drop j) = (K, s.data.toList.drop k1) ∧ k1 ≤ s.size ∧ j ≤ k1 ∧
    ((K = 6 ∧ k1 = j + 1 ∧ ∃ h : j < s.size, s[j] = 62) ∨ (K = 7 ∧ k1 = j + 1 ∧ ∃ h : j < s.size, s[j] = 60) ∨ (K = 4 ∧ k1 = j ∧ ∀ h : j < s.size, s[j] ≠ 62 ∧ s[j] ≠ 60)) := by
  by_cases h : j < s.size
  · have hd := drop_at s j h
    by_cases h62 : s[j] = 62
    · exact ⟨6, j + 1, by rw [hd, h62]; rfl, h, by omega, .inl ⟨rfl, rfl, h, h62⟩⟩
    · by_cases h60 : s[j] = 60
      · exact ⟨7, j + 1, by rw [hd, h60]; rfl, h, by omega, .inr (.inl ⟨rfl, rfl, h, h60⟩)⟩
      · refine ⟨4, j, ?_, hj, Nat.le_refl _, .inr (.inr ⟨rfl, rfl, fun _ => ⟨h62, h60⟩⟩)⟩
        rw [hd]
        unfold signO
        split
        · rename_i e; injection e with e1 _; exact absurd e1 h62
        · rename_i e; injection e with e1 _; exact absurd e1 h60
        · rfl
  · refine ⟨4, j, ?_, hj, Nat.le_refl _, .inr (.inr ⟨rfl, rfl, fun h' => absurd h' h⟩)⟩
    rw [List.drop_of_length_le (by rw [bytes_len]; omega)]
    rfl
theorem tw_all (p : UInt8 → Bool) : ∀ l : List UInt8, (∀ x ∈ l, p x = true) → l.takeWhile p = l ∧ l.dropWhile p = []
  | [], _ => ⟨rfl, rfl⟩
  | x :: l, h => by
    obtain ⟨h1, h2⟩ := tw_all p l (fun y hy => h y (by simp [hy]))
    simp [List.takeWhile_cons, List.dropWhile_cons, h x (by simp), h1, h2]
/-- Where the type ends. -/
theorem typ_end (s : ByteArray) (a j : Nat) (ha : a ≤ j) (hj : j ≤ s.size) (hall : ∀ x ∈ (s.data.toList.drop a).take (j - a), typC x = true) (hend : ∀ h : j < s.size, typC s[j] = false) :
    (s.data.toList.drop a).takeWhile typC = (s.extract a j).data.toList ∧ (s.data.toList.drop a).dropWhile typC = s.data.toList.drop j := by
  have he : (s.extract a j).data.toList = (s.data.toList.drop a).take (j - a) := by simp [ByteArray.data_extract, Array.toList_extract, List.extract]
  have hsp : s.data.toList.drop a = (s.data.toList.drop a).take (j - a) ++ s.data.toList.drop j := by
    have h1 := (List.take_append_drop (j - a) (s.data.toList.drop a)).symm
    rw [List.drop_drop, show a + (j - a) = j from by omega] at h1
    exact h1
  rw [he]
  by_cases h : j < s.size
  · have hd := drop_at s j h
    rw [hd] at hsp ⊢
    have hw := tw_cut typC _ s[j] (s.data.toList.drop (j + 1)) (List.all_eq_true.2 hall) (hend h)
    rw [← hsp] at hw
    exact hw
  · have hn : s.data.toList.drop j = [] := List.drop_of_length_le (by rw [bytes_len]; omega)
    rw [hn, List.append_nil] at hsp
    rw [hn]
    have hal : ∀ x ∈ s.data.toList.drop a, typC x = true := by rw [hsp]; exact hall
    rw [← hsp]
    exact tw_all typC _ hal

set_option maxRecDepth 100000 in
set_option maxHeartbeats 8000000 in
theorem oneLeaf (d : Nat) (hd : d ≤ 100) (s : ByteArray) (hs : s.size ≤ 100000) (at' : Nat) (hat : at' + 1 < s.size) (h40 : (s[at']'(by omega)) = 40) (hc : s[at' + 1] ≠ 38 ∧ s[at' + 1] ≠ 124 ∧ s[at' + 1] ≠ 33) (w : World) :
    OneIs s at' d (oneO (d + 1) (s.data.toList.drop at')) w := by
  have hdr : s.data.toList.drop at' = 40 :: s[at' + 1] :: s.data.toList.drop (at' + 2) := by rw [drop_at s at' (by omega), h40, drop_at s (at' + 1) hat]
  have hdl : s.data.toList.drop (at' + 1) = s[at' + 1] :: s.data.toList.drop (at' + 2) := drop_at s (at' + 1) hat
  have ho := oneO_leaf d (s.data.toList.drop (at' + 2)) hc
  rw [← hdr, ← hdl] at ho
  obtain ⟨o, hoo⟩ : ∃ o, o = oneO (d + 1) (s.data.toList.drop at') := ⟨_, rfl⟩
  rw [← hoo] at ho ⊢
  have HO := Lib.hid ho
  clear ho hoo hdr hdl
  unfold OneIs
  obtain ⟨c, hcc⟩ : ∃ c : UInt8, c = s[at' + 1] := ⟨_, rfl⟩
  have hc' : s[at' + 1]'hat = c := hcc.symm
  rw [← hcc] at hc
  have hcl := c.toNat_lt
  have t38 : ((c.toNat : Int) == 38) = false := by simp; intro h; exact hc.1 (UInt8.toNat_inj.1 (by rw [show c.toNat = 38 from by omega]; rfl))
  have t124 : ((c.toNat : Int) == 124) = false := by simp; intro h; exact hc.2.1 (UInt8.toNat_inj.1 (by rw [show c.toNat = 124 from by omega]; rfl))
  have t33 : ((c.toNat : Int) == 33) = false := by simp; intro h; exact hc.2.2 (UInt8.toNat_inj.1 (by rw [show c.toNat = 33 from by omega]; rfl))
  have hlt0 : at' < s.size := by omega
  obtain ⟨c9, hc9⟩ : ∃ c : UInt8, c = s[at'] := ⟨_, rfl⟩
  have hc9' : s[at']'hlt0 = c9 := hc9.symm
  have t40 : ((c9.toNat : Int) != 40) = false := by rw [hc9, h40]; rfl
  have t1 : decide ((s.size : Int) ≤ (at' : Int) + 1) = false := by simp; omega
  have t0 : decide ((d : Int) < 0) = false := by simp
  have ew : IntKind.i64.wrap ((at' : Int) + 1) = (at' : Int) + 1 := IntWalk.i64_in _ (by omega)
  have hi0 : (0 : Int) ≤ (at' : Int) + 1 := by omega
  have hi1 : (at' : Int) + 1 < (s.size : Int) := by omega
  have hi2 : ((at' : Int) + 1).toNat = at' + 1 := by omega
  obtain ⟨W0, hW0⟩ : ∃ W, W = w.alloc zG := ⟨_, rfl⟩
  obtain ⟨W1, hW1⟩ : ∃ W, W = W0.alloc (.cells #[.int .i64 0, .string ⟨#[]⟩, .string ⟨#[]⟩, .slice none 0 0, .slice none 0 0] 25) := ⟨_, rfl⟩
  obtain ⟨fb, hfb⟩ : ∃ b, b = W0.heap.size := ⟨_, rfl⟩
  have HOn : Hid (OnAt w fb W1 (.int .i64 0) (.string ⟨#[]⟩) (.string ⟨#[]⟩) (.slice none 0 0) (.slice none 0 0)) := Lib.hid (by rw [hfb, hW1, hW0]; exact onAt_new w)
  have HW0 := Lib.hid hW0.symm
  have HW1 := Lib.hid hW1.symm
  have HFb := Lib.hid hfb.symm
  obtain ⟨c0, c1, c2, c3, c4⟩ := fl_cells HOn.out.flt
  obtain ⟨f0, f1, f2, f3, f4⟩ := fl_frozen HOn.out.flt
  clear hW0 hW1 hfb hcc hc hc9 h40
  go_enter Tryd.func16, Tryd.ntmps16
  go_upto_region 1 with (fail)
  rw [HW0.out]
  go_upto_region 4 with (fail)
  rw [HW1.out, HFb.out]
  go_wp2
  go_loop [8] (fun i => ∃ j : Nat, i = .int .i64 j ∧ at' + 1 ≤ j ∧ j ≤ s.size ∧ Hid (∀ x ∈ (s.data.toList.drop (at' + 1)).take (j - (at' + 1)), typC x = true)) (fun i => s.size - (intOf i).toNat)
  case atStart => exact ⟨at' + 1, by go_num, Nat.le_refl _, by omega, Lib.hid (by simp)⟩
  case round =>
    obtain ⟨j, rfl, hj0, hj1, HAll⟩ := hrel
    obtain ⟨go, hgo⟩ : ∃ b : Bool, b = decide (∃ h : j < s.size, typC s[j] = true) := ⟨_, rfl⟩
    have HGo := Lib.hid hgo
    clear hgo
    go_upto_region 6 with (fail)
    go_cut [60] from 33 to 60 (fun s60 wx => s60 = .bool go ∧ W1 = wx)
    case first =>
      by_cases hlt : j < s.size
      · have u1 : decide ((j : Int) < (s.size : Int)) = true := by simp; omega
        obtain ⟨x, hx⟩ : ∃ x : UInt8, x = s[j] := ⟨_, rfl⟩
        have hx' : s[j]'hlt = x := hx.symm
        have hxl := x.toNat_lt
        obtain ⟨b1, hb1⟩ : ∃ b, b = letC x := ⟨_, rfl⟩
        have hl := fun w => letterRef_any x w
        rw [← hb1] at hl
        have HL := Lib.hid hl
        obtain ⟨d1, e1⟩ : ∃ b, decide ((48 : Int) ≤ (x.toNat : Int)) = b := ⟨_, rfl⟩
        obtain ⟨d2, e2⟩ : ∃ b, decide ((x.toNat : Int) ≤ 57) = b := ⟨_, rfl⟩
        obtain ⟨d3, e3⟩ : ∃ b, ((x.toNat : Int) == 45) = b := ⟨_, rfl⟩
        have hty : typC x = (b1 || (d1 && d2) || d3) := by
          unfold typC
          rw [← hb1, ← e1, ← e2, ← e3]
          have h1 : digC x = (decide ((48 : Int) ≤ (x.toNat : Int)) && decide ((x.toNat : Int) ≤ 57)) := by unfold digC; rw [Bool.eq_iff_iff]; simp; omega
          have h2 : decide (x.toNat = 45) = ((x.toNat : Int) == 45) := by rw [Bool.eq_iff_iff]; simp; omega
          rw [h1, h2]
        have hg : go = (b1 || (d1 && d2) || d3) := by
          rw [HGo.out, ← hty, Bool.eq_iff_iff]
          simp only [decide_eq_true_eq]
          exact ⟨fun ⟨_, h⟩ => by rw [hx]; exact h, fun h => ⟨hlt, by rw [← hx]; exact h⟩⟩
        clear hl hb1 hty hx HGo
        subst hg
        cases b1 <;> cases d1 <;> cases d2 <;> cases d3 <;> (
          go_wp2_with (go_at_call 30; refine (HL.out _).mono ?_; rintro e w2 ⟨rfl, rfl⟩)
          go_meet
          exact ⟨rfl, by first | rfl | trivial⟩)
      · have u1 : decide ((j : Int) < (s.size : Int)) = false := by simp; omega
        have hg : go = false := by rw [HGo.out]; simp; intro h; exact absurd h hlt
        clear HGo
        subst hg
        go_wp2
        go_meet
        exact ⟨rfl, by first | rfl | trivial⟩
    case rest =>
      obtain ⟨rfl, hww⟩ := hcut
      subst hww
      cases go with
      | true =>
        obtain ⟨hlt, hty⟩ : ∃ h : j < s.size, typC s[j] = true := by have := HGo.out; simpa using this.symm
        go_wp2
        go_round
        case rel =>
          refine ⟨j + 1, by go_num, by omega, by omega, Lib.hid ?_⟩
          rw [show j + 1 - (at' + 1) = (j - (at' + 1)) + 1 from by omega]
          have hl2 : j - (at' + 1) < (s.data.toList.drop (at' + 1)).length := by rw [List.length_drop, bytes_len]; omega
          rw [List.take_succ_eq_append_getElem hl2]
          intro x hx
          rcases List.mem_append.1 hx with h | h
          · exact HAll.out x h
          · simp only [List.mem_singleton] at h
            rw [h, List.getElem_drop]
            have e : at' + 1 + (j - (at' + 1)) = j := by omega
            simp only [e]
            exact hty
        case measure => simp [intOf]; omega
      | false =>
        have hnt : ∀ h : j < s.size, typC s[j] = false := fun h => by
          have := HGo.out
          cases hh : typC s[j] with
          | false => rfl
          | true => rw [eq_comm, decide_eq_false_iff_not] at this; exact absurd ⟨h, hh⟩ this
        obtain ⟨htw, hdw⟩ := typ_end s (at' + 1) j hj0 hj1 HAll.out hnt
        obtain ⟨K, k1, hsg, hk1, hjk, hK⟩ := signO_at s j hj1
        rw [← hdw] at hsg
        obtain ⟨T, hT⟩ : ∃ T, s.extract (at' + 1) j = T := ⟨_, rfl⟩
        obtain ⟨t, ht⟩ : ∃ t, t = T.data.toList := ⟨_, rfl⟩
        rw [hT, ← ht] at htw
        have HTv : Hid (Value.string T = strV t) := Lib.hid (by rw [ht]; exact congrArg Value.string (bytes_ext (ofL_list _).symm))
        have htl : t.length ≤ 100000 := by rw [ht, ← hT]; simp [ByteArray.data_extract, Array.toList_extract, List.extract]; omega
        have b1 : (at' : Int) + 1 ≤ (j : Int) := by omega
        have b2 : (j : Int) ≤ (s.size : Int) := by omega
        have HTw := Lib.hid htw
        have HSg := Lib.hid hsg
        have HK := Lib.hid hK
        have HTl := Lib.hid htl
        clear hnt htw hdw hsg hK ht htl HAll HGo
        go_upto_region 10 with (fail)
        obtain ⟨W2, hW2⟩ : ∃ W, W = (W1.setCell ⟨fb, 1, none⟩ (.string T)).setCell ⟨fb, 0, none⟩ (.int .i64 4) := ⟨_, rfl⟩
        have HOn2 : Hid (OnAt w fb W2 (.int .i64 4) (.string T) (.string ⟨#[]⟩) (.slice none 0 0) (.slice none 0 0)) := Lib.hid (by rw [hW2]; exact (HOn.out.set1 _).set0 _)
        rw [← hW2]
        clear c0 c1 c2 c3 c4 f0 f1 f2 f3 f4 hW2 HOn
        obtain ⟨gt, hgt⟩ : ∃ b : Bool, b = decide (K = 6) := ⟨_, rfl⟩
        have HGt := Lib.hid hgt
        clear hgt
        go_cut [79] from 70 to 79 (fun s79 wx => s79 = .bool gt ∧ W2 = wx)
        case first =>
          rcases HK.out with ⟨h1, h2, hl, h3⟩ | ⟨h1, h2, hl, h3⟩ | ⟨h1, h2, h3⟩
          · have u1 : decide ((j : Int) < (s.size : Int)) = true := by simp; omega
            obtain ⟨x, hx⟩ : ∃ x : UInt8, x = s[j] := ⟨_, rfl⟩
            have hx' : s[j]'hl = x := hx.symm
            have u2 : ((x.toNat : Int) == 62) = true := by rw [hx, h3]; rfl
            have hg : gt = true := by rw [HGt.out, h1]; rfl
            clear hx h1 h2 h3 HGt
            subst hg
            go_wp2
            go_meet
            exact ⟨rfl, by first | rfl | trivial⟩
          · have u1 : decide ((j : Int) < (s.size : Int)) = true := by simp; omega
            obtain ⟨x, hx⟩ : ∃ x : UInt8, x = s[j] := ⟨_, rfl⟩
            have hx' : s[j]'hl = x := hx.symm
            have u2 : ((x.toNat : Int) == 62) = false := by rw [hx, h3]; rfl
            have hg : gt = false := by rw [HGt.out, h1]; rfl
            clear hx h1 h2 h3 HGt
            subst hg
            go_wp2
            go_meet
            exact ⟨rfl, by first | rfl | trivial⟩
          · have hg : gt = false := by rw [HGt.out, h1]; rfl
            by_cases hl : j < s.size
            · have u1 : decide ((j : Int) < (s.size : Int)) = true := by simp; omega
              obtain ⟨x, hx⟩ : ∃ x : UInt8, x = s[j] := ⟨_, rfl⟩
              have hx' : s[j]'hl = x := hx.symm
              have u2 : ((x.toNat : Int) == 62) = false := by
                have h4 := (h3 hl).1
                rw [hx'] at h4
                simp
                intro e
                exact h4 (UInt8.toNat_inj.1 (by rw [show x.toNat = 62 from by omega]; rfl))
              clear hx h1 h2 h3 HGt
              subst hg
              go_wp2
              go_meet
              exact ⟨rfl, by first | rfl | trivial⟩
            · have u1 : decide ((j : Int) < (s.size : Int)) = false := by simp; omega
              clear h1 h2 h3 HGt
              subst hg
              go_wp2
              go_meet
              exact ⟨rfl, by first | rfl | trivial⟩
        case rest =>
          obtain ⟨rfl, hww⟩ := hcut
          subst hww
          go_upto_if 79 with (fail)
          go_cut [8, 79] from 70 to 96 (fun s8 s79 wx => s8 = .int .i64 k1 ∧ OnAt w fb wx (.int .i64 K) (.string T) (.string ⟨#[]⟩) (.slice none 0 0) (.slice none 0 0))
          case first =>
            obtain ⟨c0, c1, c2, c3, c4⟩ := fl_cells HOn2.out.flt
            obtain ⟨f0, f1, f2, f3, f4⟩ := fl_frozen HOn2.out.flt
            have ej : IntKind.i64.wrap ((j : Int) + 1) = (j : Int) + 1 := IntWalk.i64_in _ (by omega)
            rcases HK.out with ⟨h1, h2, hl, h3⟩ | ⟨h1, h2, hl, h3⟩ | ⟨h1, h2, h3⟩
            · have hg : gt = true := by rw [HGt.out, h1]; rfl
              have HH1 := Lib.hid h1
              have HH2 := Lib.hid h2
              clear h1 h2 h3 HGt
              subst hg
              go_wp2
              go_meet
              exact ⟨by rw [HH2.out]; push_cast; rfl, by rw [HH1.out]; exact HOn2.out.set0 _⟩
            · have hg : gt = false := by rw [HGt.out, h1]; rfl
              have u1 : decide ((j : Int) < (s.size : Int)) = true := by simp; omega
              obtain ⟨x, hx⟩ : ∃ x : UInt8, x = s[j] := ⟨_, rfl⟩
              have hx' : s[j]'hl = x := hx.symm
              have u2 : ((x.toNat : Int) == 60) = true := by rw [hx, h3]; rfl
              have HH1 := Lib.hid h1
              have HH2 := Lib.hid h2
              clear hx h1 h2 h3 HGt
              subst hg
              go_wp2
              go_meet
              exact ⟨by rw [HH2.out]; push_cast; rfl, by rw [HH1.out]; exact HOn2.out.set0 _⟩
            · have hg : gt = false := by rw [HGt.out, h1]; rfl
              have HH1 := Lib.hid h1
              have HH2 := Lib.hid h2
              by_cases hl : j < s.size
              · have u1 : decide ((j : Int) < (s.size : Int)) = true := by simp; omega
                obtain ⟨x, hx⟩ : ∃ x : UInt8, x = s[j] := ⟨_, rfl⟩
                have hx' : s[j]'hl = x := hx.symm
                have u2 : ((x.toNat : Int) == 60) = false := by
                  have h4 := (h3 hl).2
                  rw [hx'] at h4
                  simp
                  intro e
                  exact h4 (UInt8.toNat_inj.1 (by rw [show x.toNat = 60 from by omega]; rfl))
                clear hx h1 h2 h3 HGt
                subst hg
                go_wp2
                go_meet
                exact ⟨by rw [HH2.out], by rw [HH1.out]; exact HOn2.out⟩
              · have u1 : decide ((j : Int) < (s.size : Int)) = false := by simp; omega
                clear h1 h2 h3 HGt
                subst hg
                go_wp2
                go_meet
                exact ⟨by rw [HH2.out], by rw [HH1.out]; exact HOn2.out⟩
          case rest =>
            obtain ⟨rfl, hon⟩ := hcut
            have HOn := Lib.hid hon
            have HKs : Hid (K = 4 ∨ K = 6 ∨ K = 7) := Lib.hid (by rcases HK.out with ⟨h1, _⟩ | ⟨h1, _⟩ | ⟨h1, _⟩ <;> simp [h1])
            clear hon HOn2 HK HGt hjk hj0 hj1 b1 b2 hlt0 hc9' hc' t38 t124 t33 t40 t1 t0 hi0 hi1 hi2 ew
            by_cases hk : k1 < s.size
            · have u1 : decide ((s.size : Int) ≤ (k1 : Int)) = false := by simp; omega
              obtain ⟨x, hx⟩ : ∃ x : UInt8, x = s[k1] := ⟨_, rfl⟩
              have hx' : s[k1]'hk = x := hx.symm
              have hdk := drop_at s k1 hk
              rw [hx'] at hdk
              by_cases h61 : x.toNat = 61
              · have u2 : ((x.toNat : Int) != 61) = false := by simp [h61]
                have hxe : x = 61 := UInt8.toNat_inj.1 h61
                have hsg := HSg.out
                rw [hdk, hxe] at hsg
                have hlf := leafO_yes hsg
                have hoe := HO.out
                rw [hlf, HTw.out] at hoe
                obtain ⟨P, hP⟩ : ∃ P, P = (plainO [] (s.data.toList.drop (k1 + 1))).1 := ⟨_, rfl⟩
                obtain ⟨R, hR⟩ : ∃ R, R = (plainO [] (s.data.toList.drop (k1 + 1))).2 := ⟨_, rfl⟩
                have hPne : P ≠ [] := by rw [hP]; exact plainO_ne _ _ _ (Nat.le_refl _)
                have hPl : lenP P ≤ 100001 := by
                  have := (plainO_le _ (s.data.toList.drop (k1 + 1)) [] (Nat.le_refl _)).1
                  rw [← hP, List.length_drop, bytes_len] at this
                  simp at this
                  omega
                have hpl : ∀ W, Calls Tryd.prog 31 #[.string s, .int .i64 ((k1 : Int) + 1)] W fun e w' => ∃ v n, e = .returned (.tuple #[v, .int .i64 (n : Nat)]) ∧ OwnS W.heap.size w' v P ∧ n ≤ s.size ∧ s.data.toList.drop n = R ∧ Below W.heap.size W w' := by
                  intro W
                  have := plainRef_any s hs (k1 + 1) (by omega) W
                  rw [← hP, ← hR] at this
                  rw [show (k1 : Int) + 1 = ((k1 + 1 : Nat) : Int) from by push_cast; rfl]
                  exact this
                rw [← hP, ← hR] at hoe
                have HPl := Lib.hid hpl
                have HOe : Hid (o = endO (.mk (valO K P).1 t (valO K P).2.1 (valO K P).2.2 []) R) := Lib.hid hoe
                have HPne := Lib.hid hPne
                have HPL := Lib.hid hPl
                have ek : IntKind.i64.wrap ((k1 : Int) + 1) = (k1 : Int) + 1 := IntWalk.i64_in _ (by omega)
                clear hx hdk hxe hsg hlf hoe hP hR hPne hPl hpl h61 HO HSg
                go_upto_region 19 with (go_at_call 31; refine (HPl.out _).mono ?_; rintro e w3 ⟨v, n, rfl, hown, hn, hrn, hb3⟩; (obtain ⟨g, cp, rfl, hgB, hgl, hcell⟩ := ownS_at hown HPne.out); have HOwn := Lib.hid hown; have HRn := Lib.hid hrn; have HB3 := Lib.hid hb3; have HCell := Lib.hid hcell; have HGB := Lib.hid hgB; have HGl := Lib.hid hgl; clear hown hrn hb3 hcell hgB hgl)
                obtain ⟨pl, hpl⟩ : ∃ n, n = P.length := ⟨_, rfl⟩
                have hpl1 : 1 ≤ pl := by rw [hpl]; exact List.length_pos_iff.2 HPne.out
                obtain ⟨V0, hV0, hVl0⟩ := strV_text (P.getD 0 [])
                have hc0 : w3.cell? ⟨g, 0, none⟩ = some (.string V0) := by
                  rw [HCell.out 0 (by omega), ← hV0, List.getD_eq_getElem?_getD, List.getElem?_eq_getElem (by omega)]
                  rfl
                have hto3 : IsTo (fun b => wc.heap.size ≤ b ∧ b < w3.heap.size) w3 P (.slice (some ⟨g, 0, none⟩) P.length cp) := ownS_isTo HOwn.out (OwnS.slice_len HOwn.out)
                have hwb : fb < wc.heap.size := HOn.out.lt
                obtain ⟨nb, hnb⟩ : ∃ n, n = wc.heap.size := ⟨_, rfl⟩
                have hgf : g ≠ fb := by have := HGB.out; omega
                rw [← hnb] at hto3 hwb
                rw [← hpl] at hto3 ⊢
                have HOn3 : Hid (OnAt w fb w3 (.int .i64 K) (.string T) (.string ⟨#[]⟩) (.slice none 0 0) (.slice none 0 0)) := Lib.hid (HOn.out.go HB3.out)
                have HTo3 := Lib.hid hto3
                have HPln := Lib.hid hpl
                have HV0 := Lib.hid hVl0
                have HWb := Lib.hid hwb
                have HGf := Lib.hid hgf
                have b0 : (0 : Int) < (pl : Int) := by omega
                obtain ⟨c0, c1, c2, c3, c4⟩ := fl_cells HOn3.out.flt
                obtain ⟨f0, f1, f2, f3, f4⟩ := fl_frozen HOn3.out.flt
                clear hto3 hpl hV0 hVl0 hwb hnb hgf HOn HOwn HB3 HPl
                go_upto_region 20 with (fail)
                obtain ⟨W4, hW4⟩ : ∃ W, W = w3.setCell ⟨fb, 2, none⟩ (.string V0) := ⟨_, rfl⟩
                have HOn4 : Hid (OnAt w fb W4 (.int .i64 K) (.string T) (.string V0) (.slice none 0 0) (.slice none 0 0)) := Lib.hid (by rw [hW4]; exact HOn3.out.set2 _)
                have HTo4 : Hid (IsTo (fun b => nb ≤ b ∧ b < W4.heap.size) W4 P (.slice (some ⟨g, 0, none⟩) pl cp)) := Lib.hid (by rw [hW4]; exact isTo_setF HTo3.out HWb.out _)
                have hcg : ∀ k, W4.cell? ⟨g, k, none⟩ = w3.cell? ⟨g, k, none⟩ := fun k => by rw [hW4]; exact World.cell?_of_block (a := ⟨g, k, none⟩) (heap_setCell_other _ _ _ _ HGf.out)
                have hd0 : W4.cell? ⟨g, 0, none⟩ = some (.string V0) := (hcg 0).trans hc0
                have HCg := Lib.hid hcg
                rw [← hW4]
                clear c0 c1 c2 c3 c4 f0 f1 f2 f3 f4 hW4 hcg hc0 HOn3 HTo3
                obtain ⟨c0, c1, c2, c3, c4⟩ := fl_cells HOn4.out.flt
                obtain ⟨f0, f1, f2, f3, f4⟩ := fl_frozen HOn4.out.flt
                obtain ⟨sb, hsb⟩ : ∃ b : Bool, b = decide (K = 4 ∧ 1 < pl) := ⟨_, rfl⟩
                have HSb := Lib.hid hsb
                clear hsb
                go_cut [125] from 118 to 125 (fun s125 wx => s125 = .bool sb ∧ W4 = wx)
                case first =>
                  by_cases hp : 1 < pl
                  · have u3 : decide ((1 : Int) < (pl : Int)) = true := by simp; omega
                    rcases HKs.out with h | h | h
                    · have u4 : ((K : Int) == 4) = true := by simp; omega
                      have hg : sb = true := by rw [HSb.out]; simp; exact ⟨h, hp⟩
                      clear h HSb
                      subst hg
                      go_wp2
                      go_meet
                      exact ⟨rfl, by first | rfl | trivial⟩
                    all_goals
                      have u4 : ((K : Int) == 4) = false := by simp; omega
                      have hg : sb = false := by rw [HSb.out]; simp; omega
                      clear h HSb
                      subst hg
                      go_wp2
                      go_meet
                      exact ⟨rfl, by first | rfl | trivial⟩
                  · have u3 : decide ((1 : Int) < (pl : Int)) = false := by simp; omega
                    have hg : sb = false := by rw [HSb.out]; simp; omega
                    obtain ⟨u, hu⟩ : ∃ u, ((K : Int) == 4) = u := ⟨_, rfl⟩
                    clear HSb
                    subst hg
                    cases u <;> (
                      go_wp2
                      go_meet
                      exact ⟨rfl, by first | rfl | trivial⟩)
                case rest =>
                  obtain ⟨rfl, hww⟩ := hcut
                  subst hww
                  go_upto_if 125 with (fail)
                  go_cut [125] from 118 to 147 (fun s125 wx => ∃ V3 pv, OnAt w fb wx (.int .i64 (valO K P).1) (.string T) (.string V3) pv (.slice none 0 0) ∧ V3.data.toList = (valO K P).2.1 ∧ IsTo (fun b => nb ≤ b ∧ b < wx.heap.size) wx (valO K P).2.2 pv)
                  case first =>
                    cases sb with
                    | false =>
                      have hn : ¬ (K = 4 ∧ 1 < P.length) := by have := HSb.out; rw [HPln.out] at this; exact of_decide_eq_false this.symm
                      have hv : valO K P = (K, P.headD [], []) := by unfold valO; rw [if_neg hn]
                      have HV := Lib.hid hv
                      clear hn hv HSb
                      go_wp2
                      go_meet
                      refine ⟨V0, .slice none 0 0, ?_, ?_, ?_⟩
                      · rw [HV.out]; exact HOn4.out
                      · rw [HV.out, HV0.out]; cases P <;> rfl
                      · rw [HV.out]; exact ⟨none, 0, rfl, Nat.zero_le _, fun j h => absurd h (Nat.not_lt_zero _)⟩
                    | true =>
                      have hn : K = 4 ∧ 1 < P.length := by have := HSb.out; rw [HPln.out] at this; exact of_decide_eq_true this.symm
                      have hv : valO K P = if P = [[], []] then (8, [], []) else (5, [], P) := by unfold valO; rw [if_pos hn]
                      have hp2 : 1 < pl := by rw [HPln.out]; exact hn.2
                      obtain ⟨V1, hV1, hVl1⟩ := strV_text (P.getD 1 [])
                      have hd1 : W4.cell? ⟨g, 1, none⟩ = some (.string V1) := by
                        rw [HCg.out 1, HCell.out 1 hn.2, ← hV1, List.getD_eq_getElem?_getD, List.getElem?_eq_getElem hn.2]
                        rfl
                      obtain ⟨W5, hW5⟩ : ∃ W, W = ((W4.setCell ⟨fb, 0, none⟩ (.int .i64 5)).setCell ⟨fb, 2, none⟩ (.string ⟨#[]⟩)).setCell ⟨fb, 3, none⟩ (.slice (some ⟨g, 0, none⟩) pl cp) := ⟨_, rfl⟩
                      have HOn5 : Hid (OnAt w fb W5 (.int .i64 5) (.string T) (.string ⟨#[]⟩) (.slice (some ⟨g, 0, none⟩) pl cp) (.slice none 0 0)) := Lib.hid (by rw [hW5]; exact ((HOn4.out.set0 _).set2 _).set3 _)
                      have HTo5 : Hid (IsTo (fun b => nb ≤ b ∧ b < W5.heap.size) W5 P (.slice (some ⟨g, 0, none⟩) pl cp)) := Lib.hid (by rw [hW5]; exact isTo_setF (isTo_setF (isTo_setF HTo4.out HWb.out _) HWb.out _) HWb.out _)
                      have hc5 : ∀ k, W5.cell? ⟨g, k, none⟩ = W4.cell? ⟨g, k, none⟩ := fun k => by
                        rw [hW5]
                        exact ((World.cell?_of_block (a := ⟨g, k, none⟩) (heap_setCell_other _ _ _ _ HGf.out)).trans (World.cell?_of_block (a := ⟨g, k, none⟩) (heap_setCell_other _ _ _ _ HGf.out))).trans (World.cell?_of_block (a := ⟨g, k, none⟩) (heap_setCell_other _ _ _ _ HGf.out))
                      have hx0 := (hc5 0).trans hd0
                      have hx1 := (hc5 1).trans hd1
                      have b1 : (1 : Int) < (pl : Int) := by omega
                      have HV := Lib.hid hv
                      have HV1 := Lib.hid hVl1
                      have HW5 := Lib.hid hW5.symm
                      clear hn hv hV1 hVl1 hd1 hW5 hc5 HSb hd0
                      go_upto_region 24 with (fail)
                      rw [HW5.out]
                      clear c0 c1 c2 c3 c4 f0 f1 f2 f3 f4
                      obtain ⟨c0, c1, c2, c3, c4⟩ := fl_cells HOn5.out.flt
                      obtain ⟨f0, f1, f2, f3, f4⟩ := fl_frozen HOn5.out.flt
                      by_cases hn2 : pl = 2
                      · have t7 : ((pl : Int) == 2) = true := by simp; omega
                        by_cases g0 : V0.data.toList = []
                        · obtain ⟨e3, e4⟩ := bytes_nil g0
                          by_cases g1 : V1.data.toList = []
                          · obtain ⟨e5, e6⟩ := bytes_nil g1
                            have hq : P = [[], []] := by
                              have h2 := HPln.out
                              rw [HV0.out] at g0
                              rw [HV1.out] at g1
                              match P, h2 with
                              | [a, b], _ => simp at g0 g1; rw [g0, g1]
                              | [], h2 => simp at h2; omega
                              | [a], h2 => simp at h2; omega
                              | a :: b :: c :: r, h2 => simp at h2; omega
                            have HV2 : Hid (valO K P = (8, [], [])) := Lib.hid (by rw [HV.out, if_pos hq])
                            clear g0 g1 hn2 hq
                            go_wp2
                            go_meet
                            refine ⟨⟨#[]⟩, .slice none 0 0, ?_, ?_, ?_⟩
                            · rw [HV2.out]; exact (HOn5.out.set0 _).set3 _
                            · rw [HV2.out]
                            · rw [HV2.out]; exact ⟨none, 0, rfl, Nat.zero_le _, fun j h => absurd h (Nat.not_lt_zero _)⟩
                          · obtain ⟨e5, e6⟩ := bytes_some g1
                            have HV2 : Hid (valO K P = (5, [], P)) := Lib.hid (by rw [HV.out, if_neg (fun e => g1 (by rw [HV1.out, e]; rfl))])
                            clear g0 g1 hn2
                            go_wp2
                            go_meet
                            refine ⟨⟨#[]⟩, .slice (some ⟨g, 0, none⟩) pl cp, ?_, ?_, ?_⟩
                            · rw [HV2.out]; exact HOn5.out
                            · rw [HV2.out]
                            · rw [HV2.out]; exact HTo5.out
                        · obtain ⟨e3, e4⟩ := bytes_some g0
                          have HV2 : Hid (valO K P = (5, [], P)) := Lib.hid (by rw [HV.out, if_neg (fun e => g0 (by rw [HV0.out, e]; rfl))])
                          clear g0 hn2
                          go_wp2
                          go_meet
                          refine ⟨⟨#[]⟩, .slice (some ⟨g, 0, none⟩) pl cp, ?_, ?_, ?_⟩
                          · rw [HV2.out]; exact HOn5.out
                          · rw [HV2.out]
                          · rw [HV2.out]; exact HTo5.out
                      · have t7 : ((pl : Int) == 2) = false := by simp; omega
                        have HV2 : Hid (valO K P = (5, [], P)) := Lib.hid (by rw [HV.out, if_neg (fun e => hn2 (by rw [HPln.out, e]; rfl))])
                        clear hn2
                        go_wp2
                        go_meet
                        refine ⟨⟨#[]⟩, .slice (some ⟨g, 0, none⟩) pl cp, ?_, ?_, ?_⟩
                        · rw [HV2.out]; exact HOn5.out
                        · rw [HV2.out]
                        · rw [HV2.out]; exact HTo5.out
                  case rest =>
                    obtain ⟨V3, pv, hon, hsv, hto⟩ := hcut
                    have hkw : (Lit.int .i64 (valO K P).1).wf = true := by
                      unfold valO
                      split
                      · split
                        · show (Lit.int .i64 8).wf = true; decide
                        · show (Lit.int .i64 5).wf = true; decide
                      · rcases HKs.out with h | h | h
                        · rw [h]; show (Lit.int .i64 4).wf = true; decide
                        · rw [h]; show (Lit.int .i64 6).wf = true; decide
                        · rw [h]; show (Lit.int .i64 7).wf = true; decide
                    have hxl : (valO K P).2.1.length ≤ 100001 := by
                      have h1 := HPL.out
                      unfold valO
                      split
                      · split <;> simp
                      · cases P with
                        | nil => simp
                        | cons a l => simp [lenP] at h1 ⊢; omega
                    have hoe := HOe.out
                    obtain ⟨k3, hk3⟩ : ∃ k, k = (valO K P).1 := ⟨_, rfl⟩
                    obtain ⟨x3, hx3⟩ : ∃ k, k = (valO K P).2.1 := ⟨_, rfl⟩
                    obtain ⟨p3, hp3⟩ : ∃ k, k = (valO K P).2.2 := ⟨_, rfl⟩
                    rw [← hk3] at hon hkw hoe
                    rw [← hx3] at hsv hxl hoe
                    rw [← hp3] at hto hoe
                    obtain ⟨pa, pc, hpv, _⟩ := id hto
                    subst hpv
                    have HOn := Lib.hid hon
                    have HEnd : Hid (o = endO (.mk k3 t x3 p3 []) (s.data.toList.drop n)) := Lib.hid (by rw [HRn.out]; exact hoe)
                    have HV3 : Hid (Value.string V3 = strV x3) := Lib.hid (by rw [← hsv]; exact congrArg Value.string (bytes_ext (ofL_list _).symm))
                    have HLf : Hid ((Lit.int .i64 k3).wf = true ∧ t.length ≤ maxLen ∧ x3.length ≤ maxLen ∧ IsTo (fun b => nb ≤ b ∧ b < wc.heap.size) wc p3 (.slice pa p3.length pc)) := Lib.hid ⟨hkw, by have := HTl.out; unfold maxLen; omega, by unfold maxLen; omega, hto⟩
                    clear hon hsv hto hkw hxl hoe hk3 hx3 hp3 HOe HRn HPL HOn4 HTo4 HCg HSb HV0 HPln HCell HGB HGl HKs c0 c1 c2 c3 c4 f0 f1 f2 f3 f4 hd0 b0 u1 u2 ek hpl1
                    by_cases hend : n < s.size
                    · have u1 : decide ((s.size : Int) ≤ (n : Int)) = false := by simp; omega
                      obtain ⟨q, hq⟩ : ∃ q : UInt8, q = s[n] := ⟨_, rfl⟩
                      have hq' : s[n]'hend = q := hq.symm
                      have hql := q.toNat_lt
                      have hdn := drop_at s n hend
                      rw [hq'] at hdn
                      by_cases h41 : q.toNat = 41
                      · have u2 : ((q.toNat : Int) != 41) = false := by simp [h41]
                        have hqe : q = 41 := UInt8.toNat_inj.1 h41
                        have HSay : Hid (o = some (.mk k3 t x3 p3 [], s.data.toList.drop (n + 1))) := Lib.hid (by rw [HEnd.out, hdn, hqe]; exact endO_one _ _)
                        have en : IntKind.i64.wrap ((n : Int) + 1) = (n : Int) + 1 := IntWalk.i64_in _ (by omega)
                        obtain ⟨c0, c1, c2, c3, c4, c5⟩ := gl_cells HOn.out.res
                        obtain ⟨f0, f1, f2, f3, f4, f5⟩ := gl_frozen HOn.out.res
                        obtain ⟨e0, e1, e2, e3, e4⟩ := fl_cells HOn.out.flt
                        clear hdn hq h41 hqe
                        go_wp2
                        obtain ⟨z0, z1, z2, z3, z4, z5⟩ := gl_cells (gl_set HOn.out.res (.int .i64 k3) (.string T) (.string V3) (.slice pa p3.length pc) (.slice none 0 0) ((n : Int) + 1))
                        unfold set6G at z0 z1 z2 z3 z4 z5
                        have hbz := gl_setB HOn.out.bel (Nat.le_refl w.heap.size) (.int .i64 k3) (.string T) (.string V3) (.slice pa p3.length pc) (.slice none 0 0) ((n : Int) + 1)
                        refine bodyPost_ret (v := .agg #[(.int .i64 k3), (.string T), (.string V3), (.slice pa p3.length pc), (.slice none 0 0), .int .i64 ((n : Int) + 1)]) (by simp [results, Tryd.results16, go_sem, z0, z1, z2, z3, z4, z5]) rfl ⟨_, _, _, _, _, _, rfl, ?_, hbz⟩
                        rw [HSay.out]
                        refine ⟨n + 1, by push_cast; rfl, hend, rfl, ?_⟩
                        rw [HTv.out, HV3.out]
                        refine ⟨.slice pa p3.length pc, none, 0, rfl, HLf.out.1, HLf.out.2.1, HLf.out.2.2.1, ?_, Nat.zero_le _, trivial⟩
                        refine HLf.out.2.2.2.imp (fun b hb => ⟨?_, ?_⟩) (fun b k hb => gl_setC ?_)
                        · have := HOn.out.at1; have := HWb.out; omega
                        · simpa [World.size_setCell] using hb.2
                        · have := HOn.out.at1; have := HWb.out; omega
                      · have u2 : ((q.toNat : Int) != 41) = true := by simp; omega
                        have HSay : Hid (o = none) := Lib.hid (by rw [HEnd.out, hdn]; exact endO_not _ _ (fun e => h41 (by rw [e]; rfl)))
                        clear hdn hq h41
                        obtain ⟨c0, c1, c2, c3, c4, c5⟩ := gl_cells HOn.out.res
                        obtain ⟨f0, f1, f2, f3, f4, f5⟩ := gl_frozen HOn.out.res
                        obtain ⟨z0, z1, z2, z3, z4, z5⟩ := gl_cells (gl_set HOn.out.res (.int .i64 0) (.string ⟨#[]⟩) (.string ⟨#[]⟩) (.slice none 0 0) (.slice none 0 0) (-1))
                        unfold set6G at z0 z1 z2 z3 z4 z5
                        go_wp2
                        have hbz := gl_setB HOn.out.bel (Nat.le_refl w.heap.size) (.int .i64 0) (.string ⟨#[]⟩) (.string ⟨#[]⟩) (.slice none 0 0) (.slice none 0 0) (-1)
                        refine bodyPost_ret (v := .agg #[.int .i64 0, .string ⟨#[]⟩, .string ⟨#[]⟩, .slice none 0 0, .slice none 0 0, .int .i64 (-1)]) (by simp [results, Tryd.results16, go_sem, z0, z1, z2, z3, z4, z5]) rfl ⟨_, _, _, _, _, _, rfl, ?_, hbz⟩
                        rw [HSay.out]
                        exact ⟨rfl, rfl, rfl, rfl, rfl, rfl⟩
                    · have u1 : decide ((s.size : Int) ≤ (n : Int)) = true := by simp; omega
                      have HSay : Hid (o = none) := Lib.hid (by rw [HEnd.out, List.drop_of_length_le (by rw [bytes_len]; omega)]; exact endO_nil _)
                      obtain ⟨c0, c1, c2, c3, c4, c5⟩ := gl_cells HOn.out.res
                      obtain ⟨f0, f1, f2, f3, f4, f5⟩ := gl_frozen HOn.out.res
                      obtain ⟨z0, z1, z2, z3, z4, z5⟩ := gl_cells (gl_set HOn.out.res (.int .i64 0) (.string ⟨#[]⟩) (.string ⟨#[]⟩) (.slice none 0 0) (.slice none 0 0) (-1))
                      unfold set6G at z0 z1 z2 z3 z4 z5
                      go_wp2
                      have hbz := gl_setB HOn.out.bel (Nat.le_refl w.heap.size) (.int .i64 0) (.string ⟨#[]⟩) (.string ⟨#[]⟩) (.slice none 0 0) (.slice none 0 0) (-1)
                      refine bodyPost_ret (v := .agg #[.int .i64 0, .string ⟨#[]⟩, .string ⟨#[]⟩, .slice none 0 0, .slice none 0 0, .int .i64 (-1)]) (by simp [results, Tryd.results16, go_sem, z0, z1, z2, z3, z4, z5]) rfl ⟨_, _, _, _, _, _, rfl, ?_, hbz⟩
                      rw [HSay.out]
                      exact ⟨rfl, rfl, rfl, rfl, rfl, rfl⟩
              · have u2 : ((x.toNat : Int) != 61) = true := by simp; omega
                have HNo : Hid (o = none) := Lib.hid (by
                  rw [HO.out, leafO_not (by
                    rw [HSg.out, hdk]
                    intro e
                    simp only [List.head?_cons, Option.some.injEq] at e
                    exact h61 (by rw [e]; rfl))])
                clear hx hdk h61 HO HSg
                obtain ⟨c0, c1, c2, c3, c4, c5⟩ := gl_cells HOn.out.res
                obtain ⟨f0, f1, f2, f3, f4, f5⟩ := gl_frozen HOn.out.res
                obtain ⟨z0, z1, z2, z3, z4, z5⟩ := gl_cells (gl_set HOn.out.res (.int .i64 0) (.string ⟨#[]⟩) (.string ⟨#[]⟩) (.slice none 0 0) (.slice none 0 0) (-1))
                unfold set6G at z0 z1 z2 z3 z4 z5
                go_wp2
                have hbz := gl_setB HOn.out.bel (Nat.le_refl w.heap.size) (.int .i64 0) (.string ⟨#[]⟩) (.string ⟨#[]⟩) (.slice none 0 0) (.slice none 0 0) (-1)
                refine bodyPost_ret (v := .agg #[.int .i64 0, .string ⟨#[]⟩, .string ⟨#[]⟩, .slice none 0 0, .slice none 0 0, .int .i64 (-1)]) (by simp [results, Tryd.results16, go_sem, z0, z1, z2, z3, z4, z5]) rfl ⟨_, _, _, _, _, _, rfl, ?_, hbz⟩
                rw [HNo.out]
                exact ⟨rfl, rfl, rfl, rfl, rfl, rfl⟩
            · have u1 : decide ((s.size : Int) ≤ (k1 : Int)) = true := by simp; omega
              have HNo : Hid (o = none) := Lib.hid (by
                rw [HO.out, leafO_not (by
                  rw [HSg.out, List.drop_of_length_le (by rw [bytes_len]; omega)]
                  simp)])
              clear HO HSg
              obtain ⟨c0, c1, c2, c3, c4, c5⟩ := gl_cells HOn.out.res
              obtain ⟨f0, f1, f2, f3, f4, f5⟩ := gl_frozen HOn.out.res
              obtain ⟨z0, z1, z2, z3, z4, z5⟩ := gl_cells (gl_set HOn.out.res (.int .i64 0) (.string ⟨#[]⟩) (.string ⟨#[]⟩) (.slice none 0 0) (.slice none 0 0) (-1))
              unfold set6G at z0 z1 z2 z3 z4 z5
              go_wp2
              have hbz := gl_setB HOn.out.bel (Nat.le_refl w.heap.size) (.int .i64 0) (.string ⟨#[]⟩) (.string ⟨#[]⟩) (.slice none 0 0) (.slice none 0 0) (-1)
              refine bodyPost_ret (v := .agg #[.int .i64 0, .string ⟨#[]⟩, .string ⟨#[]⟩, .slice none 0 0, .slice none 0 0, .int .i64 (-1)]) (by simp [results, Tryd.results16, go_sem, z0, z1, z2, z3, z4, z5]) rfl ⟨_, _, _, _, _, _, rfl, ?_, hbz⟩
              rw [HNo.out]
              exact ⟨rfl, rfl, rfl, rfl, rfl, rfl⟩
end Go.Proofs.YtmpicolplknomaaDoor
