/- Several texts in one file: ScCheck, ScDocA, ScDocH, EvRPu, EvRL1, EvRL2, EvRL3. -/
import Derived.Test.YtdgnefcpeocbjaaGreatDoorEvaP4
import Derived.Test.YtdgnefcpeocbjaaGreatDoorEvaP1
import Derived.Deep.Cut
import Derived.Test.YtdgnefcpeocbjaaGreatDoorEvaP2
import Derived.Deep.RegionHeld3
import Derived.Deep.RegionLaw
import Derived.RegionTactic
/- schema.Check: the walk. -/
namespace Go.Proofs.YtdgnefcpeocbjaaGreatDoor
open Go.RowKit
set_option linter.unusedVariables false

/-- An entry in a block of its own. -/
def BoxN (w : World) (b : Nat) (x : ByteArray) (u : Value) : Prop := w.heap[b]? = some (.cells #[.string x, u] 28 (0, 0))
theorem BoxN.below {w w' : World} {b n : Nat} {x : ByteArray} {u : Value} (h : BoxN w b x u) (hb : Below n w w') (hn : b < n) : BoxN w' b x u := (hb.block b hn).trans h
theorem BoxN.cells {w : World} {b : Nat} {x : ByteArray} {u : Value} (h : BoxN w b x u) : w.cell? ⟨b, 0, none⟩ = some (.string x) ∧ w.cell? ⟨b, 1, none⟩ = some u := by
  unfold BoxN at h
  simp [World.cell?, h]
theorem boxN_new (w : World) (x : ByteArray) (u : Value) : BoxN (w.alloc (.cells #[.string x, u] 28)) w.heap.size x u := heap_alloc_new w _

theorem norm_short {r : Nat} {v x : List UInt8} (h : normD r v = some x) : v.length ≤ 100 := by
  unfold normD at h
  split at h
  · cases h
  · rename_i hn
    have := not_or.1 hn
    omega
theorem norms_short {r : Nat} : ∀ {V l : List (List UInt8)}, normsS r V = some l → ∀ v ∈ V, v.length ≤ 100
  | [], l, h, v, hv => by simp at hv
  | x :: V, l, h, v, hv => by
    simp only [normsS] at h
    cases e : normD r x with
    | none => rw [e] at h; cases h
    | some y =>
      rw [e] at h
      cases e2 : normsS r V with
      | none => rw [e2] at h; cases h
      | some m =>
        rcases List.mem_cons.1 hv with rfl | hv
        · exact norm_short e
        · exact norms_short e2 v hv
theorem most_le (t : List UInt8) : mostS t ≤ 40 := by unfold mostS; split <;> omega
theorem vals_small {t : List UInt8} {V : List (List UInt8)} (h : valsC t V = 0) : V.length ≤ 40 ∧ ∀ v ∈ V, v.length ≤ 100 := by
  unfold valsC at h
  split at h
  · omega
  · rename_i hn
    have hm := most_le t
    have := not_or.1 hn
    refine ⟨by omega, ?_⟩
    cases e : normsS (ruleD t) V with
    | none => rw [e] at h; simp at h
    | some l => exact norms_short e
def soundS (A : List AT) : Prop := ∀ a ∈ A, a.2.length ≤ 40 ∧ ∀ v ∈ a.2, v.length ≤ 100
theorem sound_small : ∀ {L A B : List AT}, soundR A L = .ok B → soundS A → soundS B ∧ B.length ≤ A.length + L.length
  | [], A, B, h, hA => by simp only [soundR, Except.ok.injEq] at h; subst h; exact ⟨hA, by simp⟩
  | a :: l, A, B, h, hA => by
    simp only [soundR] at h
    cases e : canonD a.1 with
    | none => rw [e] at h; simp at h
    | some t =>
      rw [e] at h
      simp only at h
      split at h
      · simp at h
      · split at h
        · rename_i h0
          have := sound_small h (fun x hx => (List.mem_append.1 hx).elim (hA x) (fun hx => by
            rw [List.mem_singleton] at hx
            rw [hx]
            exact vals_small h0))
          exact ⟨this.1, by have := this.2; simp at this ⊢; omega⟩
        · simp at h
theorem vals_of_small {A : List AT} (h : soundS A) (t : List UInt8) : smallT (valsS A t) := by
  unfold valsS
  split
  · rename_i a ha
    have := h a (List.mem_of_find?_eq_some ha)
    exact ⟨by omega, fun v hv => by have := this.2 v hv; omega⟩
  · exact ⟨by simp, fun v hv => by simp at hv⟩
theorem key_parts {d k : List UInt8} (h : keyD d = some k) (hk : k ≠ []) : ∃ r rs, parseD d = some (r :: rs) := by
  rw [keyD_eq] at h
  cases e : parseD d with
  | none => rw [e] at h; cases h
  | some l =>
    cases l with
    | nil =>
      rw [e] at h
      exact absurd (by
        simp only [Option.bind_some, keyL] at h
        simpa [textD] using h.symm) hk
    | cons r rs => exact ⟨r, rs, rfl⟩
theorem check_none {d : List UInt8} {L : List AT} (h : keyD d = none) : checkD d L = 34 := by unfold checkD; rw [h]
theorem check_empty {d : List UInt8} {L : List AT} (h : keyD d = some []) : checkD d L = 34 := by unfold checkD; rw [h]; rfl
theorem check_many {d k : List UInt8} {L : List AT} (h : keyD d = some k) (hk : k ≠ []) (hl : 20 < L.length) : checkD d L = 19 := by unfold checkD; rw [h]; simp only; rw [if_neg hk, if_pos hl]
theorem check_sound {d k : List UInt8} {L : List AT} (h : keyD d = some k) (hk : k ≠ []) (hl : ¬ 20 < L.length) {c : Int} (hs : soundR [] L = .error c) : checkD d L = c := by unfold checkD; rw [h]; simp only; rw [if_neg hk, if_neg hl, hs]
theorem check_behind {d k : List UInt8} {L A : List AT} (h : keyD d = some k) (hk : k ≠ []) (hl : ¬ 20 < L.length) (hs : soundR [] L = .ok A) : checkD d L = behindD A d := by unfold checkD; rw [h]; simp only; rw [if_neg hk, if_neg hl, hs]

end Go.Proofs.YtdgnefcpeocbjaaGreatDoor

/- The document's Among, attr, Vals, Has: the walks. -/
namespace Go.Proofs.YtdgnefcpeocbjaaGreatDoor
open Go.RowKit
set_option linter.unusedVariables false

/-- I is the place of the first attribute of a type, or below nought. -/
def AttrP (L : List AT) (t : List UInt8) (I : Int) : Prop := (∃ j, ∃ h : j < L.length, I = (j : Int) ∧ (low L[j].1 == low t) = true ∧ ∀ k (hk : k < L.length), k < j → (low L[k].1 == low t) = false) ∨ (I = -1 ∧ ∀ k (hk : k < L.length), (low L[k].1 == low t) = false)
set_option maxRecDepth 100000 in
set_option maxHeartbeats 4000000 in
theorem attrRef_any (D t : ByteArray) (ht : t.size ≤ 281474976710656) (L : List AT) (hs : smallA L) (v : Value) (w : World) (h : IsA w.heap.size w L v) :
    Calls Tryz.prog 31 #[.agg #[.string D, v], .string t] w fun e w' => ∃ I, e = .returned (.int .i64 I) ∧ AttrP L t.data.toList I ∧ Below w.heap.size w w' := by
  obtain ⟨a, c, hv, hm, hcell⟩ := h
  obtain ⟨n, hn⟩ : ∃ n, n = L.length := ⟨_, rfl⟩
  rw [← hn] at hv hm
  subst hv
  unfold maxLen at hm
  have hbx := boxN_new w D (.slice a n c)
  have HN := Lib.hid hn
  have HC := Lib.hid hcell
  have HS := Lib.hid hs
  have HBx := Lib.hid hbx
  have hB0 : Below w.heap.size w (w.alloc (.cells #[.string D, .slice a n c] 28)) := (Below.refl _ _).alloc (Nat.le_refl _) _
  have HB0 := Lib.hid hB0
  have HLt := Lib.hid (fun W => lowerRef_any t W ht)
  obtain ⟨T, hT⟩ : ∃ T, T = lowB t := ⟨_, rfl⟩
  have hTl : T.data.toList = low t.data.toList := by rw [hT, lowB_list]
  rw [← hT] at HLt
  have HTl := Lib.hid hTl
  clear hcell hn hs hbx hB0 hT hTl
  go_enter Tryz.func31, Tryz.ntmps31
  go_wp2
  go_loopw [5] (fun i wr => ∃ j : Nat, j ≤ n ∧ i = .int .i64 j ∧ Hid (∀ k (hk : k < L.length), k < j → (low L[k].1 == low t.data.toList) = false) ∧ Below (w.alloc (.cells #[.string D, .slice a n c] 28)).heap.size (w.alloc (.cells #[.string D, .slice a n c] 28)) wr) (fun i wr => n - (intOf i).toNat)
  case atStart => exact ⟨0, by omega, rfl, Lib.hid (fun k _ h => absurd h (by omega)), Below.refl _ _⟩
  case round =>
    obtain ⟨j, hj, rfl, HNo, hbel⟩ := hrel
    have HBel := Lib.hid (HB0.out.trans (hbel.mono HB0.out.size))
    obtain ⟨x0, x1⟩ := (HBx.out.below hbel (by simp)).cells
    have HBe := Lib.hid hbel
    have hbs := hbel.size
    clear hbel
    by_cases hlt : j < n
    · have t1 : decide ((j : Int) < (n : Int)) = true := by simp; omega
      have t1' : decide (j < n) = true := by simpa using hlt
      have hlL : j < L.length := by rw [← HN.out]; exact hlt
      obtain ⟨b, off, u, rfl, hb0, c0, c1, _⟩ := HC.out j hlL
      obtain ⟨X, hX⟩ : ∃ X : ByteArray, ⟨L[j].1.toArray⟩ = X := ⟨_, rfl⟩
      have hXl : X.data.toList = L[j].1 := by rw [← hX]
      have d0 : (wr.cell? ⟨b, off + j * 2, none⟩) = some (.string X) := by
        rw [HBel.out.cell (p := ⟨b, _, none⟩) hb0, c0, ← hX]; rfl
      have hXs : X.size ≤ 281474976710656 := by
        have := (HS.out.2 L[j] (List.getElem_mem _)).1
        rw [← bytes_len, hXl]; omega
      have HLx := Lib.hid (fun W => lowerRef_any X W hXs)
      obtain ⟨Y, hY⟩ : ∃ Y, Y = lowB X := ⟨_, rfl⟩
      have hYl : Y.data.toList = low L[j].1 := by rw [hY, lowB_list, hXl]
      rw [← hY] at HLx
      by_cases he : Y = T
      · have HR : Hid ((low L[j].1 == low t.data.toList) = true) := Lib.hid (by rw [← hYl, ← HTl.out, he]; simp)
        subst he
        clear hX hXl c0 c1 hY hYl
        go_wp2_with (first
          | (go_at_call 30; ((with_reducible refine (HLx.out _).mono ?_); rintro e w2 ⟨rfl, hb2⟩); have HB2 := Lib.hid (HBel.out.trans (hb2.mono HBel.out.size)); clear hb2)
          | (go_at_call 30; ((with_reducible refine (HLt.out _).mono ?_); rintro e w3 ⟨rfl, hb3⟩); have HB3 := Lib.hid (bthen HB2.out hb3); clear hb3))
        go_ret
        exact ⟨_, rfl, .inl ⟨j, hlL, rfl, HR.out, HNo.out⟩, HB3.out⟩
      · have t2 := str_ne he
        have HN2 : Hid (∀ k (hk : k < L.length), k < j + 1 → (low L[k].1 == low t.data.toList) = false) := Lib.hid (fun k h1 h3 => by
            by_cases hk : k < j
            · exact HNo.out k h1 hk
            · obtain rfl : k = j := by omega
              rw [← hYl, ← HTl.out]
              exact by simpa using fun e => he (bytes_ext e))
        clear he hX hXl c0 c1 hY hYl HNo
        go_wp2_with (first
          | (go_at_call 30; ((with_reducible refine (HLx.out _).mono ?_); rintro e w2 ⟨rfl, hb2⟩); have HB2 := Lib.hid (HBe.out.trans (hb2.mono hbs)); clear hb2)
          | (go_at_call 30; ((with_reducible refine (HLt.out _).mono ?_); rintro e w3 ⟨rfl, hb3⟩); have HB3 := Lib.hid (HB2.out.trans (hb3.mono HB2.out.size)); clear hb3))
        go_roundw
        case rel => exact ⟨j + 1, by omega, by go_num, HN2, HB3.out⟩
        case measure => simp [intOf]; omega
    · obtain rfl : j = n := by omega
      have t1 : decide ((j : Int) < (j : Int)) = false := by simp
      have t1' : decide (j < j) = false := by simp
      go_wp2
      go_ret
      exact ⟨_, rfl, .inr ⟨rfl, fun k hk => HNo.out k hk (by rw [HN.out]; exact hk)⟩, HBel.out⟩

set_option maxRecDepth 100000 in
set_option maxHeartbeats 4000000 in
theorem valsRef_any (D t : ByteArray) (ht : t.size ≤ 281474976710656) (L : List AT) (hs : smallA L) (v : Value) (w : World) (h : IsA w.heap.size w L v) :
    Calls Tryz.prog 22 #[.agg #[.string D, v], .string t] w fun e w' => ∃ u, e = .returned u ∧ IsT w.heap.size w (findA L t.data.toList) u ∧ Below w.heap.size w w' := by
  obtain ⟨a, c, hv, hm, hcell⟩ := id h
  obtain ⟨n, hn⟩ : ∃ n, n = L.length := ⟨_, rfl⟩
  rw [← hn] at hv hm
  subst hv
  unfold maxLen at hm
  have hbx := boxN_new w D (.slice a n c)
  have hB0 : Below w.heap.size w (w.alloc (.cells #[.string D, .slice a n c] 28)) := (Below.refl _ _).alloc (Nat.le_refl _) _
  have HAt := Lib.hid (attrRef_any D t ht L hs (.slice a n c) (w.alloc (.cells #[.string D, .slice a n c] 28)) (h.below hB0 hB0.size))
  have HN := Lib.hid hn
  have HC := Lib.hid hcell
  have HBx := Lib.hid hbx
  have HB0 := Lib.hid hB0
  clear hcell hn hs hbx hB0 h
  go_enter Tryz.func22, Tryz.ntmps22
  go_upto_region 2 with (go_at_call 31; refine (HAt.out).mono ?_; rintro e w2 ⟨I, rfl, hI, hb2⟩; have HI := Lib.hid hI; have HB2 := Lib.hid (HB0.out.trans (hb2.mono HB0.out.size)); (obtain ⟨x0, x1⟩ := (HBx.out.below hb2 (by simp)).cells); clear hI hb2)
  rcases HI.out with ⟨j, hlL, rfl, h1, h2⟩ | ⟨rfl, h2⟩
  · obtain ⟨b, off, u, rfl, hb0, c0, c1, hit⟩ := HC.out j hlL
    have hlt : j < n := by rw [HN.out]; exact hlL
    have t1 : decide ((j : Int) < 0) = false := by simp
    have d1 := (HB2.out.cell (p := ⟨b, off + j * 2 + 1, none⟩) hb0).trans c1
    have HF := Lib.hid (findA_at j hlL h2 h1)
    have HIt := Lib.hid hit
    obtain ⟨ua, uc, hu, _⟩ := id hit
    obtain ⟨un, hun⟩ : ∃ k, k = L[j].2.length := ⟨_, rfl⟩
    rw [← hun] at hu
    subst hu
    clear h1 h2 HI c0 c1 hit hun
    go_wp2
    go_ret
    exact ⟨_, rfl, by rw [HF.out]; exact HIt.out, HB2.out⟩
  · have t1 : decide ((-1 : Int) < 0) = true := by decide
    have HF := Lib.hid (findA_no h2)
    clear h2 HI
    go_wp2
    go_ret
    exact ⟨_, rfl, by rw [HF.out]; exact isT_nil _ _ _ _, HB2.out⟩
end Go.Proofs.YtdgnefcpeocbjaaGreatDoor

/- The document's Has: the walk. -/
namespace Go.Proofs.YtdgnefcpeocbjaaGreatDoor
open Go.RowKit
set_option linter.unusedVariables false

set_option maxRecDepth 100000 in
set_option maxHeartbeats 4000000 in
theorem hasRef_any (D t x : ByteArray) (ht : t.size ≤ 281474976710656) (L : List AT) (hs : smallA L) (v : Value) (w : World) (h : IsA w.heap.size w L v) :
    Calls Tryz.prog 40 #[.agg #[.string D, v], .string t, .string x] w fun e w' => e = .returned (.bool ((findA L t.data.toList).any fun y => sameO (normD (ruleD t.data.toList) y) (normD (ruleD t.data.toList) x.data.toList))) ∧ Below w.heap.size w w' := by
  obtain ⟨a, c, hv, hm, _⟩ := id h
  obtain ⟨n, hn⟩ : ∃ n, n = L.length := ⟨_, rfl⟩
  rw [← hn] at hv
  subst hv
  have hbx := boxN_new w D (.slice a n c)
  have hB0 : Below w.heap.size w (w.alloc (.cells #[.string D, .slice a n c] 28)) := (Below.refl _ _).alloc (Nat.le_refl _) _
  have hva := valsRef_any D t ht L hs (.slice a n c) (w.alloc (.cells #[.string D, .slice a n c] 28)) (h.below hB0 hB0.size)
  obtain ⟨V, hV⟩ : ∃ V, V = findA L t.data.toList := ⟨_, rfl⟩
  rw [← hV] at hva ⊢
  obtain ⟨R, hR⟩ : ∃ R, R = V.any fun y => sameO (normD (ruleD t.data.toList) y) (normD (ruleD t.data.toList) x.data.toList) := ⟨_, rfl⟩
  rw [← hR]
  obtain ⟨m, hml⟩ : ∃ m, m = V.length := ⟨_, rfl⟩
  have HVa := Lib.hid hva
  have HR := Lib.hid hR
  have HMl := Lib.hid hml
  have HB0 := Lib.hid hB0
  have HSv := Lib.hid (fun Y W => sameVal_any t Y x ht W)
  clear hva hR hV hn hB0 h hbx hs hml
  go_enter Tryz.func40, Tryz.ntmps40
  go_wp2_with (go_at_call 22; refine (HVa.out).mono ?_; rintro e w2 ⟨u, rfl, hit, hb2⟩; (obtain ⟨ua, uc, hu, hum, huc⟩ := hit); (rw [← HMl.out] at hu hum); subst hu; have HUc := Lib.hid huc; have HB2 := Lib.hid (HB0.out.trans (hb2.mono HB0.out.size)); have HB3 := Lib.hid hb2; clear hb2 huc)
  unfold maxLen at hum
  go_loopw [8] (fun i wr => ∃ j : Nat, j ≤ m ∧ i = .int .i64 j ∧ Hid (∀ k (hk : k < V.length), k < j → sameO (normD (ruleD t.data.toList) V[k]) (normD (ruleD t.data.toList) x.data.toList) = false) ∧ Below w2.heap.size w2 wr) (fun i wr => m - (intOf i).toNat)
  case atStart => exact ⟨0, by omega, rfl, Lib.hid (fun k _ h => absurd h (by omega)), Below.refl _ _⟩
  case round =>
    obtain ⟨j, hj, rfl, HNo, hbel⟩ := hrel
    have HBr := Lib.hid hbel
    by_cases hlt : j < m
    · have t1 : decide ((j : Int) < (m : Int)) = true := by simp; omega
      have t1' : decide (j < m) = true := by simpa using hlt
      have hjV : j < V.length := by rw [← HMl.out]; exact hlt
      obtain ⟨b, off, rfl, hb0, c0⟩ := HUc.out j hjV
      obtain ⟨X, hX⟩ : ∃ X : ByteArray, ⟨V[j].toArray⟩ = X := ⟨_, rfl⟩
      have hXl : X.data.toList = V[j] := by rw [← hX]
      have d0 : (wr.cell? ⟨b, off + j, none⟩) = some (.string X) := by
        rw [hbel.cell (p := ⟨b, _, none⟩) (Nat.lt_of_lt_of_le hb0 HB3.out.size), HB3.out.cell (p := ⟨b, _, none⟩) hb0, c0, ← hX]; rfl
      have hsv := fun W => HSv.out X W
      rw [hXl] at hsv
      cases hq : sameO (normD (ruleD t.data.toList) V[j]) (normD (ruleD t.data.toList) x.data.toList) with
      | true =>
        rw [hq] at hsv
        have HS := Lib.hid hsv
        have HRt : Hid (R = true) := Lib.hid (by rw [HR.out, List.any_eq_true]; exact ⟨V[j], List.getElem_mem _, hq⟩)
        clear hsv hq hX hXl c0 hbel HNo
        go_wp2_with (go_at_call 53; refine (HS.out _).mono ?_; rintro e w3 ⟨rfl, hb3⟩; have HB4 := Lib.hid (bthen HBr.out hb3); clear hb3)
        go_ret
        exact ⟨by rw [HRt.out]; rfl, HB2.out.trans (HB4.out.mono HB2.out.size)⟩
      | false =>
        rw [hq] at hsv
        have HS := Lib.hid hsv
        have HN2 : Hid (∀ k (hk : k < V.length), k < j + 1 → sameO (normD (ruleD t.data.toList) V[k]) (normD (ruleD t.data.toList) x.data.toList) = false) := Lib.hid (fun k h1 h3 => by
          by_cases hk : k < j
          · exact HNo.out k h1 hk
          · obtain rfl : k = j := by omega
            exact hq)
        clear hsv hq hX hXl c0 hbel HNo
        go_wp2_with (go_at_call 53; refine (HS.out _).mono ?_; rintro e w3 ⟨rfl, hb3⟩; have HB4 := Lib.hid (bthen HBr.out hb3); clear hb3)
        go_roundw
        case rel => exact ⟨j + 1, by omega, by go_num, HN2, HB4.out⟩
        case measure => simp [intOf]; omega
    · obtain rfl : j = m := by omega
      have t1 : decide ((j : Int) < (j : Int)) = false := by simp
      have t1' : decide (j < j) = false := by simp
      have HRf : Hid (R = false) := Lib.hid (by
        rw [HR.out, List.any_eq_false]
        intro y hy
        obtain ⟨k, hk, rfl⟩ := List.getElem_of_mem hy
        rw [HNo.out k hk (by rw [HMl.out]; exact hk)]
        simp)
      go_wp2
      go_ret
      exact ⟨by rw [HRf.out]; rfl, HB2.out.trans (HBr.out.mono HB2.out.size)⟩
end Go.Proofs.YtdgnefcpeocbjaaGreatDoor

/- What the document's eval tells of a leaf: pure; its Less whole; its flip. -/
namespace Go.Proofs.YtdgnefcpeocbjaaGreatDoor
open Go.RowKit
set_option linter.unusedVariables false
set_option linter.unusedSimpArgs false

theorem normR_zero (v : List UInt8) : normD 0 v = none := by
  unfold normD
  split
  · rfl
  · rw [if_neg (by decide), if_neg (by decide), if_neg (by decide), if_neg (by decide)]
theorem ruleR_zero {t : List UInt8} (h : ruleD t = 0) : canonD t = none := by
  unfold ruleD ruleL at h
  unfold canonD
  cases hf : findL (low t) with
  | none => rfl
  | some k =>
    rw [hf] at h
    have := findL_len hf
    simp at h
    omega
theorem ruleR_some {t : List UInt8} (h : ruleD t ≠ 0) : (canonD t).isSome = true := by
  unfold ruleD ruleL at h
  unfold canonD
  cases hf : findL (low t) with
  | none => rw [hf] at h; exact absurd rfl h
  | some k => rfl
theorem leafR_zero (L : List AT) {k : Int} (t x : List UInt8) (p : List (List UInt8)) (h : ruleD t = 0) : leafE L k t x p = 2 := by
  unfold leafE
  rw [if_neg]
  unfold askE
  rw [h, normR_zero, ruleR_zero h]
  unfold lessD
  rw [normR_zero]
  simp
theorem leafR_has (L : List AT) {k : Int} (hk : k = 8) (t x : List UInt8) (p : List (List UInt8)) (h : ruleD t ≠ 0) : leafE L k t x p = if 0 < (findA L t).length then 1 else 0 := by
  subst hk
  unfold leafE askE fitE
  simp [ruleR_some h]
theorem leafR_eq (L : List AT) {k : Int} (hk : k = 4) (t x : List UInt8) (p : List (List UInt8)) : leafE L k t x p = if (normD (ruleD t) x).isSome then (if (findA L t).any (fun y => sameO (normD (ruleD t) y) (normD (ruleD t) x)) then 1 else 0) else 2 := by
  subst hk
  unfold leafE askE fitE
  simp only [if_true]
  rfl
/-- What the document asks of one value, by order. -/
def ordR (k : Int) (r : Nat) (x v : List UInt8) : Option Bool := if k = 7 then lessD r x v else lessD r v x
theorem leafR_ord (L : List AT) {k : Int} (hk : k = 6 ∨ k = 7) (t x : List UInt8) (p : List (List UInt8)) : leafE L k t x p = if (lessD (ruleD t) x x).isSome then (if (findA L t).any (fun v => ordR k (ruleD t) x v == some false) then 1 else 0) else 2 := by
  unfold leafE askE fitE ordR aboveE
  rcases hk with rfl | rfl
  · simp
  · simp
theorem leafR_sub (L : List AT) {k : Int} (hk : k = 5) (t x : List UInt8) (p : List (List UInt8)) : leafE L k t x p = if ruleD t = 1 then (if (findA L t).any (partsE (ruleD t) p) then 1 else 0) else 2 := by
  subst hk
  unfold leafE askE fitE
  simp
theorem lessV_two (o : Option Bool) : lessV o = .tuple #[.bool (o == some true), .bool o.isSome] := by cases o with
  | none => rfl
  | some b => cases b <;> rfl
theorem anyR_next {V : List (List UInt8)} {P : List UInt8 → Bool} {j : Nat} (h : j < V.length) : (V.take (j + 1)).any P = ((V.take j).any P || P V[j]) := by
  rw [List.take_succ_eq_append_getElem h, List.any_append]
  simp
theorem lessRefFl_any (t a b : ByteArray) (ht : t.size ≤ 281474976710656) (ha : a.size ≤ 281474976710656) (hb : b.size ≤ 281474976710656) (w : World) :
    Calls Tryz.prog 41 #[.string t, .string a, .string b] w fun e w' => e = .returned (lessV (lessD (ruleD t.data.toList) a.data.toList b.data.toList)) ∧ Below w.heap.size w w' := by
  cases hp : normD (ruleD t.data.toList) a.data.toList with
  | none =>
    have h := lessRef_no t a b ht w (.inl hp)
    rw [show lessD (ruleD t.data.toList) a.data.toList b.data.toList = none from by unfold lessD; rw [hp]]
    exact h
  | some x =>
    cases hq : normD (ruleD t.data.toList) b.data.toList with
    | none =>
      have h := lessRef_no t a b ht w (.inr (.inl hq))
      rw [show lessD (ruleD t.data.toList) a.data.toList b.data.toList = none from by unfold lessD; rw [hp, hq]]
      exact h
    | some y =>
      by_cases h1 : ruleD t.data.toList = 1
      · have hd : lessD (ruleD t.data.toList) a.data.toList b.data.toList = some (Op.bytesLess x y) := by unfold lessD; rw [hp, hq]; simp only [h1, if_true]
        rw [hd]
        rw [h1] at hp hq
        have h := lessRef_text t a b ⟨x.toArray⟩ ⟨y.toArray⟩ ht w h1 (by rw [hp]) (by rw [hq])
        rw [ByteArray.toList_eq, ByteArray.toList_eq] at h
        exact h
      · by_cases h2 : ruleD t.data.toList = 2
        · rw [h2] at hp hq
          obtain ⟨rfl, m, hm⟩ := norm2_self hp
          obtain ⟨rfl, n, hn⟩ := norm2_self hq
          have hd : lessD (ruleD t.data.toList) a.data.toList b.data.toList = some (decide (m < n)) := by unfold lessD; rw [h2, hp, hq]; simp only [hm, hn]; rfl
          rw [hd]
          exact lessRef_int t a b m n ht ha hb w h2 hp hq hm hn
        · have h := lessRef_no t a b ht w (.inr (.inr ⟨h1, h2⟩))
          rw [show lessD (ruleD t.data.toList) a.data.toList b.data.toList = none from by unfold lessD; rw [hp, hq]; simp only; rw [if_neg h1, if_neg h2]]
          exact h
set_option maxRecDepth 100000 in
theorem flipR_any (r : Nat) (hr : r ≤ 2) (w : World) : Calls Tryz.prog 37 #[.int .i64 r] w fun e w' => e = .returned (.int .i64 (flipE r : Nat)) ∧ w = w' := by
  obtain rfl | rfl | rfl : r = 0 ∨ r = 1 ∨ r = 2 := by omega
  all_goals
    go_enter Tryz.func37, Tryz.ntmps37
    go_wp2
    go_ret
    exact ⟨rfl, rfl⟩
end Go.Proofs.YtdgnefcpeocbjaaGreatDoor

/- The document's eval of a leaf: no such type; has; eq. -/
namespace Go.Proofs.YtdgnefcpeocbjaaGreatDoor
open Go.RowKit
set_option linter.unusedVariables false
set_option linter.unusedSimpArgs false

set_option maxRecDepth 100000 in
set_option maxHeartbeats 4000000 in
theorem zeroR_any (k : Int) (T X D : ByteArray) (p : List (List UInt8)) (L : List AT) (pa ka va : Option Addr) (n pc kn kc vn vc : Nat) (hT : T.size ≤ 1000000) (hX : X.size ≤ 1000000) (hs : smallA L) (w : World) (h : IsA w.heap.size w L (.slice va vn vc)) (hk : k ≠ 1 ∧ k ≠ 2 ∧ k ≠ 3) (h0 : ruleD T.data.toList = 0) :
    Calls Tryz.prog 26 #[.agg #[.int .i64 k, .string T, .string X, .slice pa n pc, .slice ka kn kc], .agg #[.string D, .slice va vn vc]] w fun e w' => e = .returned (.int .i64 (leafE L k T.data.toList X.data.toList p : Nat)) ∧ Below w.heap.size w w' := by
  obtain ⟨W0, hW0⟩ : ∃ W, W = w.alloc (.cells #[.int .i64 k, .string T, .string X, .slice pa n pc, .slice ka kn kc] 25) := ⟨_, rfl⟩
  obtain ⟨W1, hW1⟩ : ∃ W, W = W0.alloc (.cells #[.string D, .slice va vn vc] 28) := ⟨_, rfl⟩
  have hb0 : Below w.heap.size w W0 := by rw [hW0]; exact box5 w _ _ _ _ _
  have hb01 : Below W0.heap.size W0 W1 := by rw [hW1]; exact (Below.refl _ _).alloc (Nat.le_refl _) _
  have hb1 : Below w.heap.size w W1 := bthen hb0 hb01
  have hf0 : FlAt W0 w.heap.size (.int .i64 k) (.string T) (.string X) (.slice pa n pc) (.slice ka kn kc) := by rw [hW0]; exact heap_alloc_new w _
  have hf : FlAt W1 w.heap.size (.int .i64 k) (.string T) (.string X) (.slice pa n pc) (.slice ka kn kc) := fl_below hf0 hb01 (fl_lt hf0)
  obtain ⟨eb, heb⟩ : ∃ b, b = w.heap.size + 1 := ⟨_, rfl⟩
  have hsz : W0.heap.size = eb := by rw [heb, hW0]; simp only [World.alloc, Array.size_push]
  have he : EnAt W1 eb D (.slice va vn vc) := by rw [← hsz, hW1]; exact heap_alloc_new W0 _
  have hE : ∀ W, Below W1.heap.size W1 W → FlAt W w.heap.size (.int .i64 k) (.string T) (.string X) (.slice pa n pc) (.slice ka kn kc) ∧ EnAt W eb D (.slice va vn vc) := fun W hW => ⟨fl_below hf hW (fl_lt hf), en_below he hW (en_lt he)⟩
  have HE := Lib.hid hE
  have HW0 := Lib.hid hW0.symm
  have HW1 := Lib.hid hW1.symm
  have HEb := Lib.hid heb.symm
  have HB1 := Lib.hid hb1
  obtain ⟨d0, d1, d2, d3, d4⟩ := fl_cells hf
  obtain ⟨e0, e1⟩ := en_cells he
  have HRu := Lib.hid (fun W => ruleRef_any T (by omega) W)
  have HVa := Lib.hid (fun W (hW : Below W1.heap.size W1 W) => valsRef_any D T (by omega) L hs (.slice va vn vc) W (h.below (bthen hb1 hW) (bthen hb1 hW).size))
  obtain ⟨R, hR⟩ : ∃ R, R = leafE L k T.data.toList X.data.toList p := ⟨_, rfl⟩
  rw [← hR]
  obtain ⟨r, hr⟩ : ∃ r, r = ruleD T.data.toList := ⟨_, rfl⟩
  rw [← hr] at HRu h0
  have t1 : ((k : Int) == 1) = false := by simp [hk.1]
  have t2 : ((k : Int) == 2) = false := by simp [hk.2.1]
  have t3 : ((k : Int) == 3) = false := by simp [hk.2.2]
  have t0 : ((r : Int) == 0) = true := by rw [h0]; rfl
  have HR2 : Hid (R = 2) := Lib.hid (by rw [hR]; exact leafR_zero L _ _ _ (by rw [← hr]; exact h0))
  clear hW0 hW1 hb0 hb01 hb1 hf0 hf heb hsz he hE hR hs h hr HVa hk h0
  go_enter Tryz.func26, Tryz.ntmps26
  go_upto_region 1 with (fail)
  rw [HW0.out, HW1.out, HEb.out]
  go_wp2_with (go_at_call 38; refine (HRu.out _).mono ?_; rintro e w2 ⟨rfl, hb2⟩; have HX2 := Lib.hid hb2; (obtain ⟨g0, g1, g2, g3, g4⟩ := fl_cells (HE.out _ hb2).1); (obtain ⟨z0, z1⟩ := en_cells (HE.out _ hb2).2); clear hb2)
  go_ret
  exact ⟨by rw [HR2.out]; rfl, bthen HB1.out HX2.out⟩
set_option maxRecDepth 100000 in
set_option maxHeartbeats 4000000 in
theorem hasR_any (k : Int) (T X D : ByteArray) (p : List (List UInt8)) (L : List AT) (pa ka va : Option Addr) (n pc kn kc vn vc : Nat) (hT : T.size ≤ 1000000) (hX : X.size ≤ 1000000) (hs : smallA L) (w : World) (h : IsA w.heap.size w L (.slice va vn vc)) (hk : k = 8) (h0 : ruleD T.data.toList ≠ 0) :
    Calls Tryz.prog 26 #[.agg #[.int .i64 k, .string T, .string X, .slice pa n pc, .slice ka kn kc], .agg #[.string D, .slice va vn vc]] w fun e w' => e = .returned (.int .i64 (leafE L k T.data.toList X.data.toList p : Nat)) ∧ Below w.heap.size w w' := by
  obtain ⟨W0, hW0⟩ : ∃ W, W = w.alloc (.cells #[.int .i64 k, .string T, .string X, .slice pa n pc, .slice ka kn kc] 25) := ⟨_, rfl⟩
  obtain ⟨W1, hW1⟩ : ∃ W, W = W0.alloc (.cells #[.string D, .slice va vn vc] 28) := ⟨_, rfl⟩
  have hb0 : Below w.heap.size w W0 := by rw [hW0]; exact box5 w _ _ _ _ _
  have hb01 : Below W0.heap.size W0 W1 := by rw [hW1]; exact (Below.refl _ _).alloc (Nat.le_refl _) _
  have hb1 : Below w.heap.size w W1 := bthen hb0 hb01
  have hf0 : FlAt W0 w.heap.size (.int .i64 k) (.string T) (.string X) (.slice pa n pc) (.slice ka kn kc) := by rw [hW0]; exact heap_alloc_new w _
  have hf : FlAt W1 w.heap.size (.int .i64 k) (.string T) (.string X) (.slice pa n pc) (.slice ka kn kc) := fl_below hf0 hb01 (fl_lt hf0)
  obtain ⟨eb, heb⟩ : ∃ b, b = w.heap.size + 1 := ⟨_, rfl⟩
  have hsz : W0.heap.size = eb := by rw [heb, hW0]; simp only [World.alloc, Array.size_push]
  have he : EnAt W1 eb D (.slice va vn vc) := by rw [← hsz, hW1]; exact heap_alloc_new W0 _
  have hE : ∀ W, Below W1.heap.size W1 W → FlAt W w.heap.size (.int .i64 k) (.string T) (.string X) (.slice pa n pc) (.slice ka kn kc) ∧ EnAt W eb D (.slice va vn vc) := fun W hW => ⟨fl_below hf hW (fl_lt hf), en_below he hW (en_lt he)⟩
  have HE := Lib.hid hE
  have HW0 := Lib.hid hW0.symm
  have HW1 := Lib.hid hW1.symm
  have HEb := Lib.hid heb.symm
  have HB1 := Lib.hid hb1
  obtain ⟨d0, d1, d2, d3, d4⟩ := fl_cells hf
  obtain ⟨e0, e1⟩ := en_cells he
  have HRu := Lib.hid (fun W => ruleRef_any T (by omega) W)
  have HVa := Lib.hid (fun W (hW : Below W1.heap.size W1 W) => valsRef_any D T (by omega) L hs (.slice va vn vc) W (h.below (bthen hb1 hW) (bthen hb1 hW).size))
  obtain ⟨R, hR⟩ : ∃ R, R = leafE L k T.data.toList X.data.toList p := ⟨_, rfl⟩
  rw [← hR]
  obtain ⟨r, hr⟩ : ∃ r, r = ruleD T.data.toList := ⟨_, rfl⟩
  obtain ⟨V, hV⟩ : ∃ V, V = findA L T.data.toList := ⟨_, rfl⟩
  obtain ⟨m, hml⟩ : ∃ m, m = V.length := ⟨_, rfl⟩
  have HVq := Lib.hid hV
  rw [← hV] at HVa
  have HMl := Lib.hid hml
  rw [← hr] at HRu h0
  have t1 : ((k : Int) == 1) = false := by simp [hk]
  have t2 : ((k : Int) == 2) = false := by simp [hk]
  have t3 : ((k : Int) == 3) = false := by simp [hk]
  have t8 : ((k : Int) == 8) = true := by simp [hk]
  have t0 : ((r : Int) == 0) = false := by simp; omega
  have HR2 : Hid (R = if 0 < m then 1 else 0) := Lib.hid (by rw [hR, leafR_has L hk _ _ _ (by rw [← hr]; exact h0), ← hV, ← hml])
  clear hW0 hW1 hb0 hb01 hb1 hf0 hf heb hsz he hE hR hs h hr hV hml hk h0
  by_cases hm0 : 0 < m
  · have f1 : decide ((0 : Int) < (m : Int)) = true := by simp; omega
    have f2 : decide (0 < m) = true := by simp; omega
    have HR3 : Hid (R = 1) := Lib.hid (by rw [HR2.out, if_pos hm0])
    go_enter Tryz.func26, Tryz.ntmps26
    go_upto_region 1 with (fail)
    rw [HW0.out, HW1.out, HEb.out]
    go_wp2_with (first | (go_at_call 38; refine (HRu.out _).mono ?_; rintro e w2 ⟨rfl, hb2⟩; have HX2 := Lib.hid hb2; (obtain ⟨g0, g1, g2, g3, g4⟩ := fl_cells (HE.out _ hb2).1); (obtain ⟨z0, z1⟩ := en_cells (HE.out _ hb2).2); clear hb2) | (go_at_call 22; refine (HVa.out _ HX2.out).mono ?_; rintro e w3 ⟨u, rfl, hit, hb3⟩; clear d0 d1 d2 d3 d4 e0 e1 g0 g1 g2 g3 g4 z0 z1; have HX3 := Lib.hid (bthen HX2.out hb3); (obtain ⟨g0, g1, g2, g3, g4⟩ := fl_cells (HE.out _ HX3.out).1); (obtain ⟨z0, z1⟩ := en_cells (HE.out _ HX3.out).2); (obtain ⟨ua, uc, hu, hum, huc⟩ := hit); (rw [← HMl.out] at hu hum); subst hu; have HUc := Lib.hid huc; have HB3w := Lib.hid hb3; clear hb3 huc))
    go_ret
    exact ⟨by rw [HR3.out]; rfl, bthen HB1.out HX3.out⟩
  · have f1 : decide ((0 : Int) < (m : Int)) = false := by simp; omega
    have f2 : decide (0 < m) = false := by simp; omega
    have HR3 : Hid (R = 0) := Lib.hid (by rw [HR2.out, if_neg hm0])
    go_enter Tryz.func26, Tryz.ntmps26
    go_upto_region 1 with (fail)
    rw [HW0.out, HW1.out, HEb.out]
    go_wp2_with (first | (go_at_call 38; refine (HRu.out _).mono ?_; rintro e w2 ⟨rfl, hb2⟩; have HX2 := Lib.hid hb2; (obtain ⟨g0, g1, g2, g3, g4⟩ := fl_cells (HE.out _ hb2).1); (obtain ⟨z0, z1⟩ := en_cells (HE.out _ hb2).2); clear hb2) | (go_at_call 22; refine (HVa.out _ HX2.out).mono ?_; rintro e w3 ⟨u, rfl, hit, hb3⟩; clear d0 d1 d2 d3 d4 e0 e1 g0 g1 g2 g3 g4 z0 z1; have HX3 := Lib.hid (bthen HX2.out hb3); (obtain ⟨g0, g1, g2, g3, g4⟩ := fl_cells (HE.out _ HX3.out).1); (obtain ⟨z0, z1⟩ := en_cells (HE.out _ HX3.out).2); (obtain ⟨ua, uc, hu, hum, huc⟩ := hit); (rw [← HMl.out] at hu hum); subst hu; have HUc := Lib.hid huc; have HB3w := Lib.hid hb3; clear hb3 huc))
    go_ret
    exact ⟨by rw [HR3.out]; rfl, bthen HB1.out HX3.out⟩
set_option maxRecDepth 100000 in
set_option maxHeartbeats 4000000 in
theorem eqR_any (k : Int) (T X D : ByteArray) (p : List (List UInt8)) (L : List AT) (pa ka va : Option Addr) (n pc kn kc vn vc : Nat) (hT : T.size ≤ 1000000) (hX : X.size ≤ 1000000) (hs : smallA L) (w : World) (h : IsA w.heap.size w L (.slice va vn vc)) (hk : k = 4) (h0 : ruleD T.data.toList ≠ 0) :
    Calls Tryz.prog 26 #[.agg #[.int .i64 k, .string T, .string X, .slice pa n pc, .slice ka kn kc], .agg #[.string D, .slice va vn vc]] w fun e w' => e = .returned (.int .i64 (leafE L k T.data.toList X.data.toList p : Nat)) ∧ Below w.heap.size w w' := by
  obtain ⟨W0, hW0⟩ : ∃ W, W = w.alloc (.cells #[.int .i64 k, .string T, .string X, .slice pa n pc, .slice ka kn kc] 25) := ⟨_, rfl⟩
  obtain ⟨W1, hW1⟩ : ∃ W, W = W0.alloc (.cells #[.string D, .slice va vn vc] 28) := ⟨_, rfl⟩
  have hb0 : Below w.heap.size w W0 := by rw [hW0]; exact box5 w _ _ _ _ _
  have hb01 : Below W0.heap.size W0 W1 := by rw [hW1]; exact (Below.refl _ _).alloc (Nat.le_refl _) _
  have hb1 : Below w.heap.size w W1 := bthen hb0 hb01
  have hf0 : FlAt W0 w.heap.size (.int .i64 k) (.string T) (.string X) (.slice pa n pc) (.slice ka kn kc) := by rw [hW0]; exact heap_alloc_new w _
  have hf : FlAt W1 w.heap.size (.int .i64 k) (.string T) (.string X) (.slice pa n pc) (.slice ka kn kc) := fl_below hf0 hb01 (fl_lt hf0)
  obtain ⟨eb, heb⟩ : ∃ b, b = w.heap.size + 1 := ⟨_, rfl⟩
  have hsz : W0.heap.size = eb := by rw [heb, hW0]; simp only [World.alloc, Array.size_push]
  have he : EnAt W1 eb D (.slice va vn vc) := by rw [← hsz, hW1]; exact heap_alloc_new W0 _
  have hE : ∀ W, Below W1.heap.size W1 W → FlAt W w.heap.size (.int .i64 k) (.string T) (.string X) (.slice pa n pc) (.slice ka kn kc) ∧ EnAt W eb D (.slice va vn vc) := fun W hW => ⟨fl_below hf hW (fl_lt hf), en_below he hW (en_lt he)⟩
  have HE := Lib.hid hE
  have HW0 := Lib.hid hW0.symm
  have HW1 := Lib.hid hW1.symm
  have HEb := Lib.hid heb.symm
  have HB1 := Lib.hid hb1
  obtain ⟨d0, d1, d2, d3, d4⟩ := fl_cells hf
  obtain ⟨e0, e1⟩ := en_cells he
  have HRu := Lib.hid (fun W => ruleRef_any T (by omega) W)
  have HVa := Lib.hid (fun W (hW : Below W1.heap.size W1 W) => valsRef_any D T (by omega) L hs (.slice va vn vc) W (h.below (bthen hb1 hW) (bthen hb1 hW).size))
  obtain ⟨R, hR⟩ : ∃ R, R = leafE L k T.data.toList X.data.toList p := ⟨_, rfl⟩
  rw [← hR]
  obtain ⟨r, hr⟩ : ∃ r, r = ruleD T.data.toList := ⟨_, rfl⟩
  obtain ⟨V, hV⟩ : ∃ V, V = findA L T.data.toList := ⟨_, rfl⟩
  obtain ⟨m, hml⟩ : ∃ m, m = V.length := ⟨_, rfl⟩
  have HVq := Lib.hid hV
  rw [← hV] at HVa
  have HMl := Lib.hid hml
  have HHs := Lib.hid (fun W (hW : Below W1.heap.size W1 W) => hasRef_any D T X (by omega) L hs (.slice va vn vc) W (h.below (bthen hb1 hW) (bthen hb1 hW).size))
  have hno := fun W => normR_at T X (by omega) r hr.symm _ rfl W
  obtain ⟨o, ho⟩ : ∃ o, o = normD r X.data.toList := ⟨_, rfl⟩
  obtain ⟨a, ha⟩ : ∃ a, a = (findA L T.data.toList).any (fun y => sameO (normD (ruleD T.data.toList) y) (normD (ruleD T.data.toList) X.data.toList)) := ⟨_, rfl⟩
  have hR2 : R = if o.isSome then (if a then 1 else 0) else 2 := by rw [hR, leafR_eq L hk, ← hr, ← ho, ha, ← hr, ← ho]
  rw [← ho] at hno
  rw [← ha] at HHs
  obtain ⟨q, hq⟩ : ∃ q, q = o.isSome := ⟨_, rfl⟩
  obtain ⟨S, hS⟩ : ∃ S, S = sB o := ⟨_, rfl⟩
  rw [← hq] at hR2 hno
  rw [← hS] at hno
  rw [← hr] at HRu h0
  have HNo := Lib.hid hno
  have HR2 := Lib.hid hR2
  have t1 : ((k : Int) == 1) = false := by simp [hk]
  have t2 : ((k : Int) == 2) = false := by simp [hk]
  have t3 : ((k : Int) == 3) = false := by simp [hk]
  have t8 : ((k : Int) == 8) = false := by simp [hk]
  have t4 : ((k : Int) == 4) = true := by simp [hk]
  have t0 : ((r : Int) == 0) = false := by simp; omega
  have hfs := field_said1
  clear hW0 hW1 hb0 hb01 hb1 hf0 hf heb hsz he hE hR hs h hr hV hml hk h0 hno hR2 ho ha hq hS
  cases q with
  | false =>
    have HR3 : Hid (R = 2) := Lib.hid (by rw [HR2.out]; rfl)
    go_enter Tryz.func26, Tryz.ntmps26
    go_upto_region 1 with (fail)
    rw [HW0.out, HW1.out, HEb.out]
    go_wp2_with (first | (go_at_call 38; refine (HRu.out _).mono ?_; rintro e w2 ⟨rfl, hb2⟩; have HX2 := Lib.hid hb2; (obtain ⟨g0, g1, g2, g3, g4⟩ := fl_cells (HE.out _ hb2).1); (obtain ⟨z0, z1⟩ := en_cells (HE.out _ hb2).2); clear hb2) | (go_at_call 22; refine (HVa.out _ HX2.out).mono ?_; rintro e w3 ⟨u, rfl, hit, hb3⟩; clear d0 d1 d2 d3 d4 e0 e1 g0 g1 g2 g3 g4 z0 z1; have HX3 := Lib.hid (bthen HX2.out hb3); (obtain ⟨g0, g1, g2, g3, g4⟩ := fl_cells (HE.out _ HX3.out).1); (obtain ⟨z0, z1⟩ := en_cells (HE.out _ HX3.out).2); (obtain ⟨ua, uc, hu, hum, huc⟩ := hit); (rw [← HMl.out] at hu hum); subst hu; have HUc := Lib.hid huc; have HB3w := Lib.hid hb3; clear hb3 huc) | (go_at_call 39; refine (HNo.out _).mono ?_; rintro e w4 ⟨rfl, hb4⟩; have HX4 := Lib.hid (bthen HX3.out hb4); clear hb4))
    go_ret
    exact ⟨by rw [HR3.out]; rfl, bthen HB1.out HX4.out⟩
  | true =>
    cases a
    all_goals
      go_enter Tryz.func26, Tryz.ntmps26
      go_upto_region 1 with (fail)
      rw [HW0.out, HW1.out, HEb.out]
      go_wp2_with (first | (go_at_call 38; refine (HRu.out _).mono ?_; rintro e w2 ⟨rfl, hb2⟩; have HX2 := Lib.hid hb2; (obtain ⟨g0, g1, g2, g3, g4⟩ := fl_cells (HE.out _ hb2).1); (obtain ⟨z0, z1⟩ := en_cells (HE.out _ hb2).2); clear hb2) | (go_at_call 22; refine (HVa.out _ HX2.out).mono ?_; rintro e w3 ⟨u, rfl, hit, hb3⟩; clear d0 d1 d2 d3 d4 e0 e1 g0 g1 g2 g3 g4 z0 z1; have HX3 := Lib.hid (bthen HX2.out hb3); (obtain ⟨g0, g1, g2, g3, g4⟩ := fl_cells (HE.out _ HX3.out).1); (obtain ⟨z0, z1⟩ := en_cells (HE.out _ HX3.out).2); (obtain ⟨ua, uc, hu, hum, huc⟩ := hit); (rw [← HMl.out] at hu hum); subst hu; have HUc := Lib.hid huc; have HB3w := Lib.hid hb3; clear hb3 huc) | (go_at_call 39; refine (HNo.out _).mono ?_; rintro e w4 ⟨rfl, hb4⟩; have HX4 := Lib.hid (bthen HX3.out hb4); clear g0 g1 g2 g3 g4 z0 z1; (obtain ⟨g0, g1, g2, g3, g4⟩ := fl_cells (HE.out _ HX4.out).1); (obtain ⟨z0, z1⟩ := en_cells (HE.out _ HX4.out).2); clear hb4) | (go_at_call 40; refine (HHs.out _ HX4.out).mono ?_; rintro e w5 ⟨rfl, hb5⟩; have HX5 := Lib.hid (bthen HX4.out hb5); clear hb5))
      go_ret
      exact ⟨by rw [HR2.out]; rfl, bthen HB1.out HX5.out⟩
end Go.Proofs.YtdgnefcpeocbjaaGreatDoor

/- The document's eval of a leaf: by order. -/
namespace Go.Proofs.YtdgnefcpeocbjaaGreatDoor
open Go.RowKit
set_option linter.unusedVariables false
set_option linter.unusedSimpArgs false

set_option maxRecDepth 100000 in
set_option maxHeartbeats 8000000 in
theorem ord6R_any (k : Int) (T X D : ByteArray) (p : List (List UInt8)) (L : List AT) (pa ka va : Option Addr) (n pc kn kc vn vc : Nat) (hT : T.size ≤ 1000000) (hX : X.size ≤ 1000000) (hs : smallA L) (w : World) (h : IsA w.heap.size w L (.slice va vn vc)) (hk : k = 6) (h0 : ruleD T.data.toList ≠ 0) :
    Calls Tryz.prog 26 #[.agg #[.int .i64 k, .string T, .string X, .slice pa n pc, .slice ka kn kc], .agg #[.string D, .slice va vn vc]] w fun e w' => e = .returned (.int .i64 (leafE L k T.data.toList X.data.toList p : Nat)) ∧ Below w.heap.size w w' := by
  obtain ⟨W0, hW0⟩ : ∃ W, W = w.alloc (.cells #[.int .i64 k, .string T, .string X, .slice pa n pc, .slice ka kn kc] 25) := ⟨_, rfl⟩
  obtain ⟨W1, hW1⟩ : ∃ W, W = W0.alloc (.cells #[.string D, .slice va vn vc] 28) := ⟨_, rfl⟩
  have hb0 : Below w.heap.size w W0 := by rw [hW0]; exact box5 w _ _ _ _ _
  have hb01 : Below W0.heap.size W0 W1 := by rw [hW1]; exact (Below.refl _ _).alloc (Nat.le_refl _) _
  have hb1 : Below w.heap.size w W1 := bthen hb0 hb01
  have hf0 : FlAt W0 w.heap.size (.int .i64 k) (.string T) (.string X) (.slice pa n pc) (.slice ka kn kc) := by rw [hW0]; exact heap_alloc_new w _
  have hf : FlAt W1 w.heap.size (.int .i64 k) (.string T) (.string X) (.slice pa n pc) (.slice ka kn kc) := fl_below hf0 hb01 (fl_lt hf0)
  obtain ⟨eb, heb⟩ : ∃ b, b = w.heap.size + 1 := ⟨_, rfl⟩
  have hsz : W0.heap.size = eb := by rw [heb, hW0]; simp only [World.alloc, Array.size_push]
  have he : EnAt W1 eb D (.slice va vn vc) := by rw [← hsz, hW1]; exact heap_alloc_new W0 _
  have hE : ∀ W, Below W1.heap.size W1 W → FlAt W w.heap.size (.int .i64 k) (.string T) (.string X) (.slice pa n pc) (.slice ka kn kc) ∧ EnAt W eb D (.slice va vn vc) := fun W hW => ⟨fl_below hf hW (fl_lt hf), en_below he hW (en_lt he)⟩
  have HE := Lib.hid hE
  have HW0 := Lib.hid hW0.symm
  have HW1 := Lib.hid hW1.symm
  have HEb := Lib.hid heb.symm
  have HB1 := Lib.hid hb1
  obtain ⟨d0, d1, d2, d3, d4⟩ := fl_cells hf
  obtain ⟨e0, e1⟩ := en_cells he
  have HRu := Lib.hid (fun W => ruleRef_any T (by omega) W)
  have HVa := Lib.hid (fun W (hW : Below W1.heap.size W1 W) => valsRef_any D T (by omega) L hs (.slice va vn vc) W (h.below (bthen hb1 hW) (bthen hb1 hW).size))
  obtain ⟨R, hR⟩ : ∃ R, R = leafE L k T.data.toList X.data.toList p := ⟨_, rfl⟩
  rw [← hR]
  obtain ⟨r, hr⟩ : ∃ r, r = ruleD T.data.toList := ⟨_, rfl⟩
  obtain ⟨V, hV⟩ : ∃ V, V = findA L T.data.toList := ⟨_, rfl⟩
  obtain ⟨m, hml⟩ : ∃ m, m = V.length := ⟨_, rfl⟩
  have HVq := Lib.hid hV
  rw [← hV] at HVa
  have HMl := Lib.hid hml
  have hl0 := fun W => lessRefFl_any T X X (by omega) (by omega) (by omega) W
  have hlv := fun (Y : ByteArray) (hY : Y.size ≤ 1000000) W => lessRefFl_any T Y X (by omega) (by omega) (by omega) W
  have hlw := fun (Y : ByteArray) (hY : Y.size ≤ 1000000) W => lessRefFl_any T X Y (by omega) (by omega) (by omega) W
  have hsh : ∀ y ∈ V, y.length ≤ 1000000 := by rw [hV]; exact findA_short hs
  have hR2 : R = if (lessD r X.data.toList X.data.toList).isSome then (if V.any (fun v => ordR k r X.data.toList v == some false) then 1 else 0) else 2 := by rw [hR, leafR_ord L (by omega), ← hr, ← hV]
  simp only [lessV_two, ← hr] at hl0 hlv hlw
  rw [← hr] at HRu h0
  obtain ⟨P, hP⟩ : ∃ P : List UInt8 → Bool, P = fun v => ordR k r X.data.toList v == some false := ⟨_, rfl⟩
  have hPv : ∀ v, P v = (lessD r v X.data.toList == some false) := fun v => by rw [hP]; simp only [ordR]; rw [if_neg (by omega)]
  have HPv := Lib.hid hPv
  rw [← hP] at hR2
  obtain ⟨q, hq⟩ : ∃ q, q = (lessD r X.data.toList X.data.toList).isSome := ⟨_, rfl⟩
  obtain ⟨q1, hq1⟩ : ∃ q, q = (lessD r X.data.toList X.data.toList == some true) := ⟨_, rfl⟩
  rw [← hq] at hR2 hl0
  rw [← hq1] at hl0
  have HL0 := Lib.hid hl0
  have HLv := Lib.hid hlv
  have HLw := Lib.hid hlw
  have HSh := Lib.hid hsh
  have HR2 := Lib.hid hR2
  have t1 : ((k : Int) == 1) = false := by simp [hk]
  have t2 : ((k : Int) == 2) = false := by simp [hk]
  have t3 : ((k : Int) == 3) = false := by simp [hk]
  have t8 : ((k : Int) == 8) = false := by simp [hk]
  have t4 : ((k : Int) == 4) = false := by simp [hk]
  have t6 : ((k : Int) == 6) = true := by simp [hk]
  have t7 : ((k : Int) == 7) = false := by simp [hk]
  have t0 : ((r : Int) == 0) = false := by simp; omega
  clear hW0 hW1 hb0 hb01 hb1 hf0 hf heb hsz he hE hR hs h hr hV hml hk h0 hl0 hlv hlw hsh hR2 hP hPv hq hq1
  cases q with
  | false =>
    have HR3 : Hid (R = 2) := Lib.hid (by rw [HR2.out]; rfl)
    go_enter Tryz.func26, Tryz.ntmps26
    go_upto_region 1 with (fail)
    rw [HW0.out, HW1.out, HEb.out]
    go_wp2_with (first | (go_at_call 38; refine (HRu.out _).mono ?_; rintro e w2 ⟨rfl, hb2⟩; have HX2 := Lib.hid hb2; (obtain ⟨g0, g1, g2, g3, g4⟩ := fl_cells (HE.out _ hb2).1); (obtain ⟨z0, z1⟩ := en_cells (HE.out _ hb2).2); clear hb2) | (go_at_call 22; refine (HVa.out _ HX2.out).mono ?_; rintro e w3 ⟨u, rfl, hit, hb3⟩; clear d0 d1 d2 d3 d4 e0 e1 g0 g1 g2 g3 g4 z0 z1; have HX3 := Lib.hid (bthen HX2.out hb3); (obtain ⟨g0, g1, g2, g3, g4⟩ := fl_cells (HE.out _ HX3.out).1); (obtain ⟨z0, z1⟩ := en_cells (HE.out _ HX3.out).2); (obtain ⟨ua, uc, hu, hum, huc⟩ := hit); (rw [← HMl.out] at hu hum); subst hu; have HUc := Lib.hid huc; have HB3w := Lib.hid hb3; clear hb3 huc) | (go_at_call 41; refine (HL0.out _).mono ?_; rintro e w4 ⟨rfl, hb4⟩; clear g0 g1 g2 g3 g4 z0 z1; have HX4 := Lib.hid (bthen HX3.out hb4); (obtain ⟨g0, g1, g2, g3, g4⟩ := fl_cells (HE.out _ HX4.out).1); (obtain ⟨z0, z1⟩ := en_cells (HE.out _ HX4.out).2); have HY4 := Lib.hid hb4; clear hb4))
    go_ret
    exact ⟨by rw [HR3.out]; rfl, bthen HB1.out HX4.out⟩
  | true =>
    go_enter Tryz.func26, Tryz.ntmps26
    go_upto_region 1 with (fail)
    rw [HW0.out, HW1.out, HEb.out]
    go_wp2_with (first | (go_at_call 38; refine (HRu.out _).mono ?_; rintro e w2 ⟨rfl, hb2⟩; have HX2 := Lib.hid hb2; (obtain ⟨g0, g1, g2, g3, g4⟩ := fl_cells (HE.out _ hb2).1); (obtain ⟨z0, z1⟩ := en_cells (HE.out _ hb2).2); clear hb2) | (go_at_call 22; refine (HVa.out _ HX2.out).mono ?_; rintro e w3 ⟨u, rfl, hit, hb3⟩; clear d0 d1 d2 d3 d4 e0 e1 g0 g1 g2 g3 g4 z0 z1; have HX3 := Lib.hid (bthen HX2.out hb3); (obtain ⟨g0, g1, g2, g3, g4⟩ := fl_cells (HE.out _ HX3.out).1); (obtain ⟨z0, z1⟩ := en_cells (HE.out _ HX3.out).2); (obtain ⟨ua, uc, hu, hum, huc⟩ := hit); (rw [← HMl.out] at hu hum); subst hu; have HUc := Lib.hid huc; have HB3w := Lib.hid hb3; clear hb3 huc) | (go_at_call 41; refine (HL0.out _).mono ?_; rintro e w4 ⟨rfl, hb4⟩; clear g0 g1 g2 g3 g4 z0 z1; have HX4 := Lib.hid (bthen HX3.out hb4); (obtain ⟨g0, g1, g2, g3, g4⟩ := fl_cells (HE.out _ HX4.out).1); (obtain ⟨z0, z1⟩ := en_cells (HE.out _ HX4.out).2); have HY4 := Lib.hid hb4; clear hb4))
    unfold maxLen at hum
    go_loopw [10, 13] (fun f i wr => ∃ (j : Nat) (a : Bool), j ≤ m ∧ i = .int .i64 j ∧ f = .bool a ∧ Hid (a = (V.take j).any P) ∧ Below w3.heap.size w3 wr) (fun _ i _ => m - (intOf i).toNat)
    case atStart => exact ⟨0, false, by omega, rfl, rfl, Lib.hid rfl, HY4.out⟩
    case round =>
      obtain ⟨j, a, hj, rfl, rfl, HA, hbel⟩ := hrel
      rename World => wr
      have HBr := Lib.hid hbel
      clear g0 g1 g2 g3 g4 z0 z1
      obtain ⟨g0, g1, g2, g3, g4⟩ := fl_cells (HE.out _ (bthen HX3.out hbel)).1
      by_cases hlt : j < m
      · have u1 : decide ((j : Int) < (m : Int)) = true := by simp; omega
        have u2 : decide (j < m) = true := by simpa using hlt
        have hjV : j < V.length := by rw [← HMl.out]; exact hlt
        have u3 : IntKind.i64.wrap ((j : Int) + 1) = (j : Int) + 1 := IntWalk.i64_in _ (by omega)
        obtain ⟨b, off, rfl, hb0, c0⟩ := HUc.out j hjV
        obtain ⟨Y, hY⟩ : ∃ Y : ByteArray, ⟨V[j].toArray⟩ = Y := ⟨_, rfl⟩
        have hYl : Y.data.toList = V[j] := by rw [← hY]
        have hYs : Y.size ≤ 1000000 := by rw [← bytes_len, hYl]; exact HSh.out _ (List.getElem_mem _)
        have hcell : ∀ W, Below w3.heap.size w3 W → W.cell? ⟨b, off + j, none⟩ = some (.string Y) := fun W hW => by
          rw [hW.cell (p := ⟨b, _, none⟩) (Nat.lt_of_lt_of_le hb0 HB3w.out.size), HB3w.out.cell (p := ⟨b, _, none⟩) hb0, c0, ← hY]; rfl
        have d9 := hcell _ hbel
        obtain ⟨q, hq⟩ : ∃ q, q = lessD r Y.data.toList X.data.toList := ⟨_, rfl⟩
        have hqb : (q == some false) = (q.isSome && !(q == some true)) := by cases q with | none => rfl | some b => cases b <;> rfl
        have hnx : (V.take (j + 1)).any P = (a || (q.isSome && !(q == some true))) := by rw [anyR_next hjV, ← HA.out, HPv.out, ← hqb, hq, hYl]
        have hla := fun W => HLv.out Y hYs W
        rw [← hq] at hla
        generalize q.isSome = b2 at hla hnx
        generalize (q == some true) = b1 at hla hnx
        have HNx := Lib.hid hnx
        have HLa := Lib.hid hla
        clear hnx hla hq hqb hYl hY c0 hb0 hjV hbel HA HLv HLw
        have hE2 : ∀ W, SamB wr W → W.cell? ⟨w.heap.size, 1, none⟩ = some (.string T) ∧ W.cell? ⟨w.heap.size, 2, none⟩ = some (.string X) ∧ W.cell? ⟨b, off + j, none⟩ = some (.string Y) ∧ SamB wr W := fun W hW => by
          have hc := fl_cells (HE.out _ (bthen HX3.out (bthen HBr.out hW))).1
          exact ⟨hc.2.1, hc.2.2.1, hcell _ (bthen HBr.out hW), hW⟩
        have HE2 := Lib.hid hE2
        have hst5 := hE2 wr (Below.refl _ _)
        have hst6 := hE2 wr.drew (Below.drew (Below.refl _ _))
        clear hE2 hcell
        go_upto_region 45 with (fail)
        go_region_held3 (fun W => W.cell? ⟨w.heap.size, 1, none⟩ = some (.string T) ∧ W.cell? ⟨w.heap.size, 2, none⟩ = some (.string X) ∧ W.cell? ⟨b, off + j, none⟩ = some (.string Y) ∧ SamB wr W)
          (first | (with_reducible exact hst5) | (with_reducible exact hst6) | (go_split_ands; exact HE2.out _ (SamB.go (by assumption) hbx)))
          (first | (go_at_call 41; go_split_ands; (with_reducible refine (HLa.out _).mono ?_); rintro e wx ⟨rfl, hbx⟩))
        all_goals
          go_split_ands
          have hTx : SamB wr wx := by assumption
          have HTx := Lib.hid hTx
          clear g0 g1 g2 g3 g4
          obtain ⟨g0, g1, g2, g3, g4⟩ := fl_cells (HE.out _ (bthen HX3.out (bthen HBr.out hTx))).1
          have HX9 := Lib.hid (bthen HBr.out hTx)
          cases a
          · cases b2
            · go_wp2
              go_roundw
              case rel => exact ⟨j + 1, _, by omega, by go_num, rfl, Lib.hid (by rw [HNx.out]; rfl), HX9.out⟩
              case measure => simp [intOf]; omega
            · cases b1
              · go_wp2
                go_roundw
                case rel => exact ⟨j + 1, _, by omega, by go_num, rfl, Lib.hid (by rw [HNx.out]; rfl), HX9.out⟩
                case measure => simp [intOf]; omega
              · go_wp2
                go_roundw
                case rel => exact ⟨j + 1, _, by omega, by go_num, rfl, Lib.hid (by rw [HNx.out]; rfl), HX9.out⟩
                case measure => simp [intOf]; omega
          · go_wp2
            go_roundw
            case rel => exact ⟨j + 1, _, by omega, by go_num, rfl, Lib.hid (by rw [HNx.out]; rfl), HX9.out⟩
            case measure => simp [intOf]; omega
      · obtain rfl : j = m := by omega
        have u1 : decide ((j : Int) < (j : Int)) = false := by simp
        have u2 : decide (j < j) = false := by simp
        have HRa : Hid (R = if a then 1 else 0) := Lib.hid (by rw [HR2.out, HA.out, List.take_of_length_le (by rw [HMl.out]; exact Nat.le_refl _)]; rfl)
        clear hlt hbel
        cases a
        all_goals
          go_wp2
          go_ret
          exact ⟨by rw [HRa.out]; rfl, bthen HB1.out (bthen HX3.out HBr.out)⟩
set_option maxRecDepth 100000 in
set_option maxHeartbeats 8000000 in
theorem ord7R_any (k : Int) (T X D : ByteArray) (p : List (List UInt8)) (L : List AT) (pa ka va : Option Addr) (n pc kn kc vn vc : Nat) (hT : T.size ≤ 1000000) (hX : X.size ≤ 1000000) (hs : smallA L) (w : World) (h : IsA w.heap.size w L (.slice va vn vc)) (hk : k = 7) (h0 : ruleD T.data.toList ≠ 0) :
    Calls Tryz.prog 26 #[.agg #[.int .i64 k, .string T, .string X, .slice pa n pc, .slice ka kn kc], .agg #[.string D, .slice va vn vc]] w fun e w' => e = .returned (.int .i64 (leafE L k T.data.toList X.data.toList p : Nat)) ∧ Below w.heap.size w w' := by
  obtain ⟨W0, hW0⟩ : ∃ W, W = w.alloc (.cells #[.int .i64 k, .string T, .string X, .slice pa n pc, .slice ka kn kc] 25) := ⟨_, rfl⟩
  obtain ⟨W1, hW1⟩ : ∃ W, W = W0.alloc (.cells #[.string D, .slice va vn vc] 28) := ⟨_, rfl⟩
  have hb0 : Below w.heap.size w W0 := by rw [hW0]; exact box5 w _ _ _ _ _
  have hb01 : Below W0.heap.size W0 W1 := by rw [hW1]; exact (Below.refl _ _).alloc (Nat.le_refl _) _
  have hb1 : Below w.heap.size w W1 := bthen hb0 hb01
  have hf0 : FlAt W0 w.heap.size (.int .i64 k) (.string T) (.string X) (.slice pa n pc) (.slice ka kn kc) := by rw [hW0]; exact heap_alloc_new w _
  have hf : FlAt W1 w.heap.size (.int .i64 k) (.string T) (.string X) (.slice pa n pc) (.slice ka kn kc) := fl_below hf0 hb01 (fl_lt hf0)
  obtain ⟨eb, heb⟩ : ∃ b, b = w.heap.size + 1 := ⟨_, rfl⟩
  have hsz : W0.heap.size = eb := by rw [heb, hW0]; simp only [World.alloc, Array.size_push]
  have he : EnAt W1 eb D (.slice va vn vc) := by rw [← hsz, hW1]; exact heap_alloc_new W0 _
  have hE : ∀ W, Below W1.heap.size W1 W → FlAt W w.heap.size (.int .i64 k) (.string T) (.string X) (.slice pa n pc) (.slice ka kn kc) ∧ EnAt W eb D (.slice va vn vc) := fun W hW => ⟨fl_below hf hW (fl_lt hf), en_below he hW (en_lt he)⟩
  have HE := Lib.hid hE
  have HW0 := Lib.hid hW0.symm
  have HW1 := Lib.hid hW1.symm
  have HEb := Lib.hid heb.symm
  have HB1 := Lib.hid hb1
  obtain ⟨d0, d1, d2, d3, d4⟩ := fl_cells hf
  obtain ⟨e0, e1⟩ := en_cells he
  have HRu := Lib.hid (fun W => ruleRef_any T (by omega) W)
  have HVa := Lib.hid (fun W (hW : Below W1.heap.size W1 W) => valsRef_any D T (by omega) L hs (.slice va vn vc) W (h.below (bthen hb1 hW) (bthen hb1 hW).size))
  obtain ⟨R, hR⟩ : ∃ R, R = leafE L k T.data.toList X.data.toList p := ⟨_, rfl⟩
  rw [← hR]
  obtain ⟨r, hr⟩ : ∃ r, r = ruleD T.data.toList := ⟨_, rfl⟩
  obtain ⟨V, hV⟩ : ∃ V, V = findA L T.data.toList := ⟨_, rfl⟩
  obtain ⟨m, hml⟩ : ∃ m, m = V.length := ⟨_, rfl⟩
  have HVq := Lib.hid hV
  rw [← hV] at HVa
  have HMl := Lib.hid hml
  have hl0 := fun W => lessRefFl_any T X X (by omega) (by omega) (by omega) W
  have hlv := fun (Y : ByteArray) (hY : Y.size ≤ 1000000) W => lessRefFl_any T Y X (by omega) (by omega) (by omega) W
  have hlw := fun (Y : ByteArray) (hY : Y.size ≤ 1000000) W => lessRefFl_any T X Y (by omega) (by omega) (by omega) W
  have hsh : ∀ y ∈ V, y.length ≤ 1000000 := by rw [hV]; exact findA_short hs
  have hR2 : R = if (lessD r X.data.toList X.data.toList).isSome then (if V.any (fun v => ordR k r X.data.toList v == some false) then 1 else 0) else 2 := by rw [hR, leafR_ord L (by omega), ← hr, ← hV]
  simp only [lessV_two, ← hr] at hl0 hlv hlw
  rw [← hr] at HRu h0
  obtain ⟨P, hP⟩ : ∃ P : List UInt8 → Bool, P = fun v => ordR k r X.data.toList v == some false := ⟨_, rfl⟩
  have hPv : ∀ v, P v = (lessD r X.data.toList v == some false) := fun v => by rw [hP]; simp only [ordR]; rw [if_pos hk]
  have HPv := Lib.hid hPv
  rw [← hP] at hR2
  obtain ⟨q, hq⟩ : ∃ q, q = (lessD r X.data.toList X.data.toList).isSome := ⟨_, rfl⟩
  obtain ⟨q1, hq1⟩ : ∃ q, q = (lessD r X.data.toList X.data.toList == some true) := ⟨_, rfl⟩
  rw [← hq] at hR2 hl0
  rw [← hq1] at hl0
  have HL0 := Lib.hid hl0
  have HLv := Lib.hid hlv
  have HLw := Lib.hid hlw
  have HSh := Lib.hid hsh
  have HR2 := Lib.hid hR2
  have t1 : ((k : Int) == 1) = false := by simp [hk]
  have t2 : ((k : Int) == 2) = false := by simp [hk]
  have t3 : ((k : Int) == 3) = false := by simp [hk]
  have t8 : ((k : Int) == 8) = false := by simp [hk]
  have t4 : ((k : Int) == 4) = false := by simp [hk]
  have t6 : ((k : Int) == 6) = false := by simp [hk]
  have t7 : ((k : Int) == 7) = true := by simp [hk]
  have t0 : ((r : Int) == 0) = false := by simp; omega
  clear hW0 hW1 hb0 hb01 hb1 hf0 hf heb hsz he hE hR hs h hr hV hml hk h0 hl0 hlv hlw hsh hR2 hP hPv hq hq1
  cases q with
  | false =>
    have HR3 : Hid (R = 2) := Lib.hid (by rw [HR2.out]; rfl)
    go_enter Tryz.func26, Tryz.ntmps26
    go_upto_region 1 with (fail)
    rw [HW0.out, HW1.out, HEb.out]
    go_wp2_with (first | (go_at_call 38; refine (HRu.out _).mono ?_; rintro e w2 ⟨rfl, hb2⟩; have HX2 := Lib.hid hb2; (obtain ⟨g0, g1, g2, g3, g4⟩ := fl_cells (HE.out _ hb2).1); (obtain ⟨z0, z1⟩ := en_cells (HE.out _ hb2).2); clear hb2) | (go_at_call 22; refine (HVa.out _ HX2.out).mono ?_; rintro e w3 ⟨u, rfl, hit, hb3⟩; clear d0 d1 d2 d3 d4 e0 e1 g0 g1 g2 g3 g4 z0 z1; have HX3 := Lib.hid (bthen HX2.out hb3); (obtain ⟨g0, g1, g2, g3, g4⟩ := fl_cells (HE.out _ HX3.out).1); (obtain ⟨z0, z1⟩ := en_cells (HE.out _ HX3.out).2); (obtain ⟨ua, uc, hu, hum, huc⟩ := hit); (rw [← HMl.out] at hu hum); subst hu; have HUc := Lib.hid huc; have HB3w := Lib.hid hb3; clear hb3 huc) | (go_at_call 41; refine (HL0.out _).mono ?_; rintro e w4 ⟨rfl, hb4⟩; clear g0 g1 g2 g3 g4 z0 z1; have HX4 := Lib.hid (bthen HX3.out hb4); (obtain ⟨g0, g1, g2, g3, g4⟩ := fl_cells (HE.out _ HX4.out).1); (obtain ⟨z0, z1⟩ := en_cells (HE.out _ HX4.out).2); have HY4 := Lib.hid hb4; clear hb4))
    go_ret
    exact ⟨by rw [HR3.out]; rfl, bthen HB1.out HX4.out⟩
  | true =>
    go_enter Tryz.func26, Tryz.ntmps26
    go_upto_region 1 with (fail)
    rw [HW0.out, HW1.out, HEb.out]
    go_wp2_with (first | (go_at_call 38; refine (HRu.out _).mono ?_; rintro e w2 ⟨rfl, hb2⟩; have HX2 := Lib.hid hb2; (obtain ⟨g0, g1, g2, g3, g4⟩ := fl_cells (HE.out _ hb2).1); (obtain ⟨z0, z1⟩ := en_cells (HE.out _ hb2).2); clear hb2) | (go_at_call 22; refine (HVa.out _ HX2.out).mono ?_; rintro e w3 ⟨u, rfl, hit, hb3⟩; clear d0 d1 d2 d3 d4 e0 e1 g0 g1 g2 g3 g4 z0 z1; have HX3 := Lib.hid (bthen HX2.out hb3); (obtain ⟨g0, g1, g2, g3, g4⟩ := fl_cells (HE.out _ HX3.out).1); (obtain ⟨z0, z1⟩ := en_cells (HE.out _ HX3.out).2); (obtain ⟨ua, uc, hu, hum, huc⟩ := hit); (rw [← HMl.out] at hu hum); subst hu; have HUc := Lib.hid huc; have HB3w := Lib.hid hb3; clear hb3 huc) | (go_at_call 41; refine (HL0.out _).mono ?_; rintro e w4 ⟨rfl, hb4⟩; clear g0 g1 g2 g3 g4 z0 z1; have HX4 := Lib.hid (bthen HX3.out hb4); (obtain ⟨g0, g1, g2, g3, g4⟩ := fl_cells (HE.out _ HX4.out).1); (obtain ⟨z0, z1⟩ := en_cells (HE.out _ HX4.out).2); have HY4 := Lib.hid hb4; clear hb4))
    unfold maxLen at hum
    go_loopw [10, 13] (fun f i wr => ∃ (j : Nat) (a : Bool), j ≤ m ∧ i = .int .i64 j ∧ f = .bool a ∧ Hid (a = (V.take j).any P) ∧ Below w3.heap.size w3 wr) (fun _ i _ => m - (intOf i).toNat)
    case atStart => exact ⟨0, false, by omega, rfl, rfl, Lib.hid rfl, HY4.out⟩
    case round =>
      obtain ⟨j, a, hj, rfl, rfl, HA, hbel⟩ := hrel
      rename World => wr
      have HBr := Lib.hid hbel
      clear g0 g1 g2 g3 g4 z0 z1
      obtain ⟨g0, g1, g2, g3, g4⟩ := fl_cells (HE.out _ (bthen HX3.out hbel)).1
      by_cases hlt : j < m
      · have u1 : decide ((j : Int) < (m : Int)) = true := by simp; omega
        have u2 : decide (j < m) = true := by simpa using hlt
        have hjV : j < V.length := by rw [← HMl.out]; exact hlt
        have u3 : IntKind.i64.wrap ((j : Int) + 1) = (j : Int) + 1 := IntWalk.i64_in _ (by omega)
        obtain ⟨b, off, rfl, hb0, c0⟩ := HUc.out j hjV
        obtain ⟨Y, hY⟩ : ∃ Y : ByteArray, ⟨V[j].toArray⟩ = Y := ⟨_, rfl⟩
        have hYl : Y.data.toList = V[j] := by rw [← hY]
        have hYs : Y.size ≤ 1000000 := by rw [← bytes_len, hYl]; exact HSh.out _ (List.getElem_mem _)
        have hcell : ∀ W, Below w3.heap.size w3 W → W.cell? ⟨b, off + j, none⟩ = some (.string Y) := fun W hW => by
          rw [hW.cell (p := ⟨b, _, none⟩) (Nat.lt_of_lt_of_le hb0 HB3w.out.size), HB3w.out.cell (p := ⟨b, _, none⟩) hb0, c0, ← hY]; rfl
        have d9 := hcell _ hbel
        obtain ⟨q, hq⟩ : ∃ q, q = lessD r X.data.toList Y.data.toList := ⟨_, rfl⟩
        have hqb : (q == some false) = (q.isSome && !(q == some true)) := by cases q with | none => rfl | some b => cases b <;> rfl
        have hnx : (V.take (j + 1)).any P = (a || (q.isSome && !(q == some true))) := by rw [anyR_next hjV, ← HA.out, HPv.out, ← hqb, hq, hYl]
        have hla := fun W => HLw.out Y hYs W
        rw [← hq] at hla
        generalize q.isSome = b2 at hla hnx
        generalize (q == some true) = b1 at hla hnx
        have HNx := Lib.hid hnx
        have HLa := Lib.hid hla
        have hlz := fun W => HLv.out Y hYs W
        generalize (lessD r Y.data.toList X.data.toList == some true) = z1 at hlz
        generalize (lessD r Y.data.toList X.data.toList).isSome = z2 at hlz
        have HLz := Lib.hid hlz
        clear hlz
        clear hnx hla hq hqb hYl hY c0 hb0 hjV hbel HA HLv HLw
        have hE2 : ∀ W, SamB wr W → W.cell? ⟨w.heap.size, 1, none⟩ = some (.string T) ∧ W.cell? ⟨w.heap.size, 2, none⟩ = some (.string X) ∧ W.cell? ⟨b, off + j, none⟩ = some (.string Y) ∧ SamB wr W := fun W hW => by
          have hc := fl_cells (HE.out _ (bthen HX3.out (bthen HBr.out hW))).1
          exact ⟨hc.2.1, hc.2.2.1, hcell _ (bthen HBr.out hW), hW⟩
        have HE2 := Lib.hid hE2
        have hst5 := hE2 wr (Below.refl _ _)
        have hst6 := hE2 wr.drew (Below.drew (Below.refl _ _))
        clear hE2 hcell
        go_upto_region 45 with (fail)
        go_region_held3 (fun W => W.cell? ⟨w.heap.size, 1, none⟩ = some (.string T) ∧ W.cell? ⟨w.heap.size, 2, none⟩ = some (.string X) ∧ W.cell? ⟨b, off + j, none⟩ = some (.string Y) ∧ SamB wr W)
          (first | (with_reducible exact hst5) | (with_reducible exact hst6) | (go_split_ands; exact HE2.out _ (SamB.go (by assumption) hbx)))
          (first | (go_at_call 41; go_split_ands; (with_reducible refine (HLz.out _).mono ?_); rintro e wx ⟨rfl, hbx⟩))
        all_goals
          go_split_ands
          have hTx : SamB wr wx := by assumption
          have HTx := Lib.hid hTx
          clear g0 g1 g2 g3 g4
          obtain ⟨g0, g1, g2, g3, g4⟩ := fl_cells (HE.out _ (bthen HX3.out (bthen HBr.out hTx))).1
          have hst7 := HE2.out wx hTx
          have hst8 := HE2.out wx.drew (Below.drew hTx)
          go_upto_region 47 with (fail)
          go_region_held3 (fun W => W.cell? ⟨w.heap.size, 1, none⟩ = some (.string T) ∧ W.cell? ⟨w.heap.size, 2, none⟩ = some (.string X) ∧ W.cell? ⟨b, off + j, none⟩ = some (.string Y) ∧ SamB wr W)
            (first | (with_reducible exact hst7) | (with_reducible exact hst8) | (go_split_ands; exact HE2.out _ (SamB.go (by assumption) hby)))
            (first | (go_at_call 41; go_split_ands; (with_reducible refine (HLa.out _).mono ?_); rintro e wy ⟨rfl, hby⟩))
          all_goals
            go_split_ands
            have hTy : SamB wr wy := by assumption
            have HTy := Lib.hid hTy
            clear g0 g1 g2 g3 g4
            obtain ⟨g0, g1, g2, g3, g4⟩ := fl_cells (HE.out _ (bthen HX3.out (bthen HBr.out hTy))).1
            have HX9 := Lib.hid (bthen HBr.out hTy)
            cases a
            · cases b2
              · go_wp2
                go_roundw
                case rel => exact ⟨j + 1, _, by omega, by go_num, rfl, Lib.hid (by rw [HNx.out]; rfl), HX9.out⟩
                case measure => simp [intOf]; omega
              · cases b1
                · go_wp2
                  go_roundw
                  case rel => exact ⟨j + 1, _, by omega, by go_num, rfl, Lib.hid (by rw [HNx.out]; rfl), HX9.out⟩
                  case measure => simp [intOf]; omega
                · go_wp2
                  go_roundw
                  case rel => exact ⟨j + 1, _, by omega, by go_num, rfl, Lib.hid (by rw [HNx.out]; rfl), HX9.out⟩
                  case measure => simp [intOf]; omega
            · go_wp2
              go_roundw
              case rel => exact ⟨j + 1, _, by omega, by go_num, rfl, Lib.hid (by rw [HNx.out]; rfl), HX9.out⟩
              case measure => simp [intOf]; omega
      · obtain rfl : j = m := by omega
        have u1 : decide ((j : Int) < (j : Int)) = false := by simp
        have u2 : decide (j < j) = false := by simp
        have HRa : Hid (R = if a then 1 else 0) := Lib.hid (by rw [HR2.out, HA.out, List.take_of_length_le (by rw [HMl.out]; exact Nat.le_refl _)]; rfl)
        clear hlt hbel
        cases a
        all_goals
          go_wp2
          go_ret
          exact ⟨by rw [HRa.out]; rfl, bthen HB1.out (bthen HX3.out HBr.out)⟩
end Go.Proofs.YtdgnefcpeocbjaaGreatDoor

/- The document's eval: and, or, not. -/
namespace Go.Proofs.YtdgnefcpeocbjaaGreatDoor
open Go.RowKit
set_option linter.unusedVariables false
set_option linter.unusedSimpArgs false

/-- The document's eval, of filters so deep at most. -/
def EvRIs (d : Nat) : Prop := ∀ (f : FT) (v : Value) (L : List AT) (D : ByteArray) (va : Option Addr) (vn vc : Nat) (w : World), mayF d f = true → IsFl (Lt w) w f v → smallA L → IsA w.heap.size w L (.slice va vn vc) →
  Calls Tryz.prog 26 #[v, .agg #[.string D, .slice va vn vc]] w fun e w' => e = .returned (.int .i64 (evF L f : Nat)) ∧ Below w.heap.size w w'
set_option maxRecDepth 100000 in
set_option maxHeartbeats 8000000 in
theorem kids1R_any (d : Nat) (ih : EvRIs d) (k : Int) (T X D : ByteArray) (l : List FT) (L : List AT) (pa ka va : Option Addr) (n pn pc kc vn vc : Nat) (hn : n = l.length) (hln : n ≤ 1000) (hs : smallA L) (w : World) (h : IsA w.heap.size w L (.slice va vn vc)) (hl : l.all (mayF d) = true) (hk1 : IsFls (Lt w) w l ka 0) (hk : k = 1) :
    Calls Tryz.prog 26 #[.agg #[.int .i64 k, .string T, .string X, .slice pa pn pc, .slice ka n kc], .agg #[.string D, .slice va vn vc]] w fun e w' => e = .returned (.int .i64 (firstE 0 2 1 (evFs L l) : Nat)) ∧ Below w.heap.size w w' := by
  obtain ⟨W0, hW0⟩ : ∃ W, W = w.alloc (.cells #[.int .i64 k, .string T, .string X, .slice pa pn pc, .slice ka n kc] 25) := ⟨_, rfl⟩
  obtain ⟨W1, hW1⟩ : ∃ W, W = W0.alloc (.cells #[.string D, .slice va vn vc] 28) := ⟨_, rfl⟩
  have hb0 : Below w.heap.size w W0 := by rw [hW0]; exact box5 w _ _ _ _ _
  have hb01 : Below W0.heap.size W0 W1 := by rw [hW1]; exact (Below.refl _ _).alloc (Nat.le_refl _) _
  have hb1 : Below w.heap.size w W1 := bthen hb0 hb01
  have hf0 : FlAt W0 w.heap.size (.int .i64 k) (.string T) (.string X) (.slice pa pn pc) (.slice ka n kc) := by rw [hW0]; exact heap_alloc_new w _
  have hf : FlAt W1 w.heap.size (.int .i64 k) (.string T) (.string X) (.slice pa pn pc) (.slice ka n kc) := fl_below hf0 hb01 (fl_lt hf0)
  obtain ⟨eb, heb⟩ : ∃ b, b = w.heap.size + 1 := ⟨_, rfl⟩
  have hsz : W0.heap.size = eb := by rw [heb, hW0]; simp only [World.alloc, Array.size_push]
  have he : EnAt W1 eb D (.slice va vn vc) := by rw [← hsz, hW1]; exact heap_alloc_new W0 _
  have hE : ∀ W, Below W1.heap.size W1 W → FlAt W w.heap.size (.int .i64 k) (.string T) (.string X) (.slice pa pn pc) (.slice ka n kc) ∧ EnAt W eb D (.slice va vn vc) := fun W hW => ⟨fl_below hf hW (fl_lt hf), en_below he hW (en_lt he)⟩
  have HE := Lib.hid hE
  have HW0 := Lib.hid hW0.symm
  have HW1 := Lib.hid hW1.symm
  have HEb := Lib.hid heb.symm
  have HB1 := Lib.hid hb1
  obtain ⟨d0, d1, d2, d3, d4⟩ := fl_cells hf
  obtain ⟨e0, e1⟩ := en_cells he
  have HIh := Lib.hid (fun (j : Nat) (hj : j < l.length) (v : Value) (W : World) (hW : Below w.heap.size w W) (hv : IsFl (Lt W) W l[j] v) => ih l[j] v L D va vn vc W (List.all_eq_true.1 hl _ (List.getElem_mem hj)) hv hs (h.below hW hW.size))
  have HK := Lib.hid hk1
  have HN := Lib.hid hn
  obtain ⟨R, hR⟩ : ∃ R, R = firstE 0 2 1 (evFs L l) := ⟨_, rfl⟩
  rw [← hR]
  have HR := Lib.hid hR
  have t1 : ((k : Int) == 1) = true := by simp [hk]
  have t2 : ((k : Int) == 2) = false := by simp [hk]
  have HFl := Lib.hid (fun W => flipR_any 0 (by omega) W)
  clear hW0 hW1 hb0 hb01 hb1 hf0 hf heb hsz he hE hR hs h hk hk1 hl hn ih
  go_enter Tryz.func26, Tryz.ntmps26
  go_upto_region 1 with (fail)
  rw [HW0.out, HW1.out, HEb.out]
  go_wp2_with (go_at_call 37; refine (HFl.out _).mono ?_; rintro e w2 ⟨rfl, hw2⟩; subst hw2)
  go_loopw [6, 7] (fun f i wr => ∃ (j o : Nat), j ≤ n ∧ i = .int .i64 j ∧ f = .int .i64 (o : Int) ∧ Hid ((∀ x ∈ evFs L (l.take j), x ≠ 0) ∧ o = if 2 ∈ evFs L (l.take j) then 2 else 1) ∧ Below w.heap.size w wr ∧ Below W1.heap.size W1 wr) (fun _ i _ => n - (intOf i).toNat)
  case atStart => exact ⟨0, 1, by omega, rfl, rfl, Lib.hid ⟨by simp [evFs], by simp [evFs]⟩, HB1.out, Below.refl _ _⟩
  case round =>
    obtain ⟨j, o, hj, rfl, rfl, HO, hbel, hbel1⟩ := hrel
    rename World => wo
    have HBr := Lib.hid hbel
    have HBr1 := Lib.hid hbel1
    clear d0 d1 d2 d3 d4 e0 e1
    obtain ⟨g0, g1, g2, g3, g4⟩ := fl_cells (HE.out _ hbel1).1
    obtain ⟨z0, z1⟩ := en_cells (HE.out _ hbel1).2
    by_cases hlt : j < n
    · have u1 : decide ((j : Int) < (n : Int)) = true := by simp; omega
      have u2 : decide (j < n) = true := by simpa using hlt
      have ti1 : (j : Int) < (n : Int) := by omega
      have u3 : IntKind.i64.wrap ((j : Int) + 1) = (j : Int) + 1 := IntWalk.i64_in _ (by omega)
      have hjl : j < l.length := by rw [← HN.out]; exact hlt
      obtain ⟨b, off, v0, v1, v2, v3, v4, rfl, hb, k0, k1, k2, k3, k4, hf⟩ := HK.out.get l _ 0 j l[j] (List.getElem?_eq_getElem hjl)
      rw [Nat.zero_add] at k0 k1 k2 k3 k4
      have hcw : ∀ o, wo.cell? ⟨b, o, none⟩ = w.cell? ⟨b, o, none⟩ := fun o => hbel.cell (p := ⟨b, o, none⟩) hb
      rw [← hcw] at k0 k1 k2 k3 k4
      have hf2 : IsFl (Lt wo) wo l[j] (.agg #[v0, v1, v2, v3, v4]) := hf.imp (fun b h => Nat.lt_of_lt_of_le h hbel.size) (fun b o h => hbel.cell (p := ⟨b, o, none⟩) h)
      obtain ⟨k', T', X', pa', pn', pc', ka', kn', kc', e⟩ := hf2.shape
      simp only [Value.agg.injEq, Array.mk.injEq, List.cons.injEq, and_true] at e
      obtain ⟨rfl, rfl, rfl, rfl, rfl⟩ := e
      have hr := evF_lt L l[j]
      obtain ⟨r, hrr⟩ : ∃ r, r = evF L l[j] := ⟨_, rfl⟩
      rw [← hrr] at hr
      have hca : Calls Tryz.prog 26 #[.agg #[.int .i64 k', .string T', .string X', .slice pa' pn' pc', .slice ka' kn' kc'], .agg #[.string D, .slice va vn vc]] wo.drew fun e w' => e = .returned (.int .i64 (r : Int)) ∧ Below wo.heap.size wo w' := by
        have := HIh.out j hjl _ wo.drew hbel.drew (hf2.below ((Below.refl _ _).drew))
        rw [← hrr] at this
        exact this.mono (fun e w' h => ⟨h.1, ⟨h.2.1, h.2.2, h.2.3, h.2.4, h.2.5⟩⟩)
      have htk : evFs L (l.take (j + 1)) = evFs L (l.take j) ++ [r] := by rw [evFs_map, evFs_map, List.take_succ_eq_append_getElem hjl, List.map_append, hrr]; rfl
      have hmem : r ∈ evFs L l := by rw [evFs_map, hrr]; exact List.mem_map_of_mem (List.getElem_mem hjl)
      have HTk := Lib.hid htk
      have HMm := Lib.hid hmem
      clear hrr htk hmem hf hf2 hbel hbel1 hcw hjl
      obtain rfl | rfl | rfl : r = 0 ∨ r = 2 ∨ r = 1 := by omega
      · have HCa := Lib.hid hca
        have HRs : Hid (R = 0) := Lib.hid (by rw [HR.out]; unfold firstE; rw [if_pos HMm.out])
        clear hca
        go_upto_region 11 with (fail)
        go_region_law (go_simp; go_at_call 26; refine (HCa.out).mono ?_; rintro e w4 ⟨rfl, hb4⟩; have HB4 := Lib.hid (bthen HBr.out hb4); clear hb4)
        all_goals
          go_wp2
          go_ret
          exact ⟨by rw [HRs.out]; rfl, HB4.out⟩
      · have HCa := Lib.hid hca
        clear hca
        go_upto_region 11 with (fail)
        go_region_law (go_simp; go_at_call 26; refine (HCa.out).mono ?_; rintro e w4 ⟨rfl, hb4⟩; have HB4 := Lib.hid (bthen HBr.out hb4); have HB5 := Lib.hid (bthen HBr1.out hb4); clear hb4)
        all_goals
         go_wp2
         go_roundw
         case rel =>
          refine ⟨j + 1, 2, by omega, by go_num, rfl, Lib.hid ⟨?_, ?_⟩, HB4.out, HB5.out⟩
          · rw [HTk.out]; intro x hx; rcases List.mem_append.1 hx with h1 | h1; exact HO.out.1 x h1; simp at h1; omega
          · rw [HTk.out]; simp
         case measure => simp [intOf]; omega
      · have HCa := Lib.hid hca
        clear hca
        go_upto_region 11 with (fail)
        go_region_law (go_simp; go_at_call 26; refine (HCa.out).mono ?_; rintro e w4 ⟨rfl, hb4⟩; have HB4 := Lib.hid (bthen HBr.out hb4); have HB5 := Lib.hid (bthen HBr1.out hb4); clear hb4)
        all_goals
         go_wp2
         go_roundw
         case rel =>
          refine ⟨j + 1, o, by omega, by go_num, rfl, Lib.hid ⟨?_, ?_⟩, HB4.out, HB5.out⟩
          · rw [HTk.out]; intro x hx; rcases List.mem_append.1 hx with h1 | h1; exact HO.out.1 x h1; simp at h1; omega
          · rw [HTk.out, HO.out.2]; simp
         case measure => simp [intOf]; omega
    · obtain rfl : j = n := by omega
      have u1 : decide ((j : Int) < (j : Int)) = false := by simp
      have u2 : decide (j < j) = false := by simp
      have HRo : Hid (R = o) := Lib.hid (by
        have he : l.take j = l := List.take_of_length_le (by rw [← HN.out]; exact Nat.le_refl _)
        obtain ⟨h1, h2⟩ := HO.out
        rw [he] at h1 h2
        rw [HR.out]
        unfold firstE
        rw [if_neg (fun hm => h1 _ hm rfl), h2])
      clear hlt hbel hbel1
      go_wp2
      go_ret
      exact ⟨by rw [HRo.out]; rfl, HBr.out⟩
set_option maxRecDepth 100000 in
set_option maxHeartbeats 8000000 in
theorem kids2R_any (d : Nat) (ih : EvRIs d) (k : Int) (T X D : ByteArray) (l : List FT) (L : List AT) (pa ka va : Option Addr) (n pn pc kc vn vc : Nat) (hn : n = l.length) (hln : n ≤ 1000) (hs : smallA L) (w : World) (h : IsA w.heap.size w L (.slice va vn vc)) (hl : l.all (mayF d) = true) (hk1 : IsFls (Lt w) w l ka 0) (hk : k = 2) :
    Calls Tryz.prog 26 #[.agg #[.int .i64 k, .string T, .string X, .slice pa pn pc, .slice ka n kc], .agg #[.string D, .slice va vn vc]] w fun e w' => e = .returned (.int .i64 (firstE 1 2 0 (evFs L l) : Nat)) ∧ Below w.heap.size w w' := by
  obtain ⟨W0, hW0⟩ : ∃ W, W = w.alloc (.cells #[.int .i64 k, .string T, .string X, .slice pa pn pc, .slice ka n kc] 25) := ⟨_, rfl⟩
  obtain ⟨W1, hW1⟩ : ∃ W, W = W0.alloc (.cells #[.string D, .slice va vn vc] 28) := ⟨_, rfl⟩
  have hb0 : Below w.heap.size w W0 := by rw [hW0]; exact box5 w _ _ _ _ _
  have hb01 : Below W0.heap.size W0 W1 := by rw [hW1]; exact (Below.refl _ _).alloc (Nat.le_refl _) _
  have hb1 : Below w.heap.size w W1 := bthen hb0 hb01
  have hf0 : FlAt W0 w.heap.size (.int .i64 k) (.string T) (.string X) (.slice pa pn pc) (.slice ka n kc) := by rw [hW0]; exact heap_alloc_new w _
  have hf : FlAt W1 w.heap.size (.int .i64 k) (.string T) (.string X) (.slice pa pn pc) (.slice ka n kc) := fl_below hf0 hb01 (fl_lt hf0)
  obtain ⟨eb, heb⟩ : ∃ b, b = w.heap.size + 1 := ⟨_, rfl⟩
  have hsz : W0.heap.size = eb := by rw [heb, hW0]; simp only [World.alloc, Array.size_push]
  have he : EnAt W1 eb D (.slice va vn vc) := by rw [← hsz, hW1]; exact heap_alloc_new W0 _
  have hE : ∀ W, Below W1.heap.size W1 W → FlAt W w.heap.size (.int .i64 k) (.string T) (.string X) (.slice pa pn pc) (.slice ka n kc) ∧ EnAt W eb D (.slice va vn vc) := fun W hW => ⟨fl_below hf hW (fl_lt hf), en_below he hW (en_lt he)⟩
  have HE := Lib.hid hE
  have HW0 := Lib.hid hW0.symm
  have HW1 := Lib.hid hW1.symm
  have HEb := Lib.hid heb.symm
  have HB1 := Lib.hid hb1
  obtain ⟨d0, d1, d2, d3, d4⟩ := fl_cells hf
  obtain ⟨e0, e1⟩ := en_cells he
  have HIh := Lib.hid (fun (j : Nat) (hj : j < l.length) (v : Value) (W : World) (hW : Below w.heap.size w W) (hv : IsFl (Lt W) W l[j] v) => ih l[j] v L D va vn vc W (List.all_eq_true.1 hl _ (List.getElem_mem hj)) hv hs (h.below hW hW.size))
  have HK := Lib.hid hk1
  have HN := Lib.hid hn
  obtain ⟨R, hR⟩ : ∃ R, R = firstE 1 2 0 (evFs L l) := ⟨_, rfl⟩
  rw [← hR]
  have HR := Lib.hid hR
  have t1 : ((k : Int) == 1) = false := by simp [hk]
  have t2 : ((k : Int) == 2) = true := by simp [hk]
  have HFl := Lib.hid (fun W => flipR_any 1 (by omega) W)
  clear hW0 hW1 hb0 hb01 hb1 hf0 hf heb hsz he hE hR hs h hk hk1 hl hn ih
  go_enter Tryz.func26, Tryz.ntmps26
  go_upto_region 1 with (fail)
  rw [HW0.out, HW1.out, HEb.out]
  go_wp2_with (go_at_call 37; refine (HFl.out _).mono ?_; rintro e w2 ⟨rfl, hw2⟩; subst hw2)
  go_loopw [6, 7] (fun f i wr => ∃ (j o : Nat), j ≤ n ∧ i = .int .i64 j ∧ f = .int .i64 (o : Int) ∧ Hid ((∀ x ∈ evFs L (l.take j), x ≠ 1) ∧ o = if 2 ∈ evFs L (l.take j) then 2 else 0) ∧ Below w.heap.size w wr ∧ Below W1.heap.size W1 wr) (fun _ i _ => n - (intOf i).toNat)
  case atStart => exact ⟨0, 0, by omega, rfl, rfl, Lib.hid ⟨by simp [evFs], by simp [evFs]⟩, HB1.out, Below.refl _ _⟩
  case round =>
    obtain ⟨j, o, hj, rfl, rfl, HO, hbel, hbel1⟩ := hrel
    rename World => wo
    have HBr := Lib.hid hbel
    have HBr1 := Lib.hid hbel1
    clear d0 d1 d2 d3 d4 e0 e1
    obtain ⟨g0, g1, g2, g3, g4⟩ := fl_cells (HE.out _ hbel1).1
    obtain ⟨z0, z1⟩ := en_cells (HE.out _ hbel1).2
    by_cases hlt : j < n
    · have u1 : decide ((j : Int) < (n : Int)) = true := by simp; omega
      have u2 : decide (j < n) = true := by simpa using hlt
      have ti1 : (j : Int) < (n : Int) := by omega
      have u3 : IntKind.i64.wrap ((j : Int) + 1) = (j : Int) + 1 := IntWalk.i64_in _ (by omega)
      have hjl : j < l.length := by rw [← HN.out]; exact hlt
      obtain ⟨b, off, v0, v1, v2, v3, v4, rfl, hb, k0, k1, k2, k3, k4, hf⟩ := HK.out.get l _ 0 j l[j] (List.getElem?_eq_getElem hjl)
      rw [Nat.zero_add] at k0 k1 k2 k3 k4
      have hcw : ∀ o, wo.cell? ⟨b, o, none⟩ = w.cell? ⟨b, o, none⟩ := fun o => hbel.cell (p := ⟨b, o, none⟩) hb
      rw [← hcw] at k0 k1 k2 k3 k4
      have hf2 : IsFl (Lt wo) wo l[j] (.agg #[v0, v1, v2, v3, v4]) := hf.imp (fun b h => Nat.lt_of_lt_of_le h hbel.size) (fun b o h => hbel.cell (p := ⟨b, o, none⟩) h)
      obtain ⟨k', T', X', pa', pn', pc', ka', kn', kc', e⟩ := hf2.shape
      simp only [Value.agg.injEq, Array.mk.injEq, List.cons.injEq, and_true] at e
      obtain ⟨rfl, rfl, rfl, rfl, rfl⟩ := e
      have hr := evF_lt L l[j]
      obtain ⟨r, hrr⟩ : ∃ r, r = evF L l[j] := ⟨_, rfl⟩
      rw [← hrr] at hr
      have hca : Calls Tryz.prog 26 #[.agg #[.int .i64 k', .string T', .string X', .slice pa' pn' pc', .slice ka' kn' kc'], .agg #[.string D, .slice va vn vc]] wo.drew fun e w' => e = .returned (.int .i64 (r : Int)) ∧ Below wo.heap.size wo w' := by
        have := HIh.out j hjl _ wo.drew hbel.drew (hf2.below ((Below.refl _ _).drew))
        rw [← hrr] at this
        exact this.mono (fun e w' h => ⟨h.1, ⟨h.2.1, h.2.2, h.2.3, h.2.4, h.2.5⟩⟩)
      have htk : evFs L (l.take (j + 1)) = evFs L (l.take j) ++ [r] := by rw [evFs_map, evFs_map, List.take_succ_eq_append_getElem hjl, List.map_append, hrr]; rfl
      have hmem : r ∈ evFs L l := by rw [evFs_map, hrr]; exact List.mem_map_of_mem (List.getElem_mem hjl)
      have HTk := Lib.hid htk
      have HMm := Lib.hid hmem
      clear hrr htk hmem hf hf2 hbel hbel1 hcw hjl
      obtain rfl | rfl | rfl : r = 1 ∨ r = 2 ∨ r = 0 := by omega
      · have HCa := Lib.hid hca
        have HRs : Hid (R = 1) := Lib.hid (by rw [HR.out]; unfold firstE; rw [if_pos HMm.out])
        clear hca
        go_upto_region 11 with (fail)
        go_region_law (go_simp; go_at_call 26; refine (HCa.out).mono ?_; rintro e w4 ⟨rfl, hb4⟩; have HB4 := Lib.hid (bthen HBr.out hb4); clear hb4)
        all_goals
          go_wp2
          go_ret
          exact ⟨by rw [HRs.out]; rfl, HB4.out⟩
      · have HCa := Lib.hid hca
        clear hca
        go_upto_region 11 with (fail)
        go_region_law (go_simp; go_at_call 26; refine (HCa.out).mono ?_; rintro e w4 ⟨rfl, hb4⟩; have HB4 := Lib.hid (bthen HBr.out hb4); have HB5 := Lib.hid (bthen HBr1.out hb4); clear hb4)
        all_goals
         go_wp2
         go_roundw
         case rel =>
          refine ⟨j + 1, 2, by omega, by go_num, rfl, Lib.hid ⟨?_, ?_⟩, HB4.out, HB5.out⟩
          · rw [HTk.out]; intro x hx; rcases List.mem_append.1 hx with h1 | h1; exact HO.out.1 x h1; simp at h1; omega
          · rw [HTk.out]; simp
         case measure => simp [intOf]; omega
      · have HCa := Lib.hid hca
        clear hca
        go_upto_region 11 with (fail)
        go_region_law (go_simp; go_at_call 26; refine (HCa.out).mono ?_; rintro e w4 ⟨rfl, hb4⟩; have HB4 := Lib.hid (bthen HBr.out hb4); have HB5 := Lib.hid (bthen HBr1.out hb4); clear hb4)
        all_goals
         go_wp2
         go_roundw
         case rel =>
          refine ⟨j + 1, o, by omega, by go_num, rfl, Lib.hid ⟨?_, ?_⟩, HB4.out, HB5.out⟩
          · rw [HTk.out]; intro x hx; rcases List.mem_append.1 hx with h1 | h1; exact HO.out.1 x h1; simp at h1; omega
          · rw [HTk.out, HO.out.2]; simp
         case measure => simp [intOf]; omega
    · obtain rfl : j = n := by omega
      have u1 : decide ((j : Int) < (j : Int)) = false := by simp
      have u2 : decide (j < j) = false := by simp
      have HRo : Hid (R = o) := Lib.hid (by
        have he : l.take j = l := List.take_of_length_le (by rw [← HN.out]; exact Nat.le_refl _)
        obtain ⟨h1, h2⟩ := HO.out
        rw [he] at h1 h2
        rw [HR.out]
        unfold firstE
        rw [if_neg (fun hm => h1 _ hm rfl), h2])
      clear hlt hbel hbel1
      go_wp2
      go_ret
      exact ⟨by rw [HRo.out]; rfl, HBr.out⟩
set_option maxRecDepth 100000 in
set_option maxHeartbeats 8000000 in
theorem notR_any (d : Nat) (ih : EvRIs d) (k : Int) (T X D : ByteArray) (l : List FT) (L : List AT) (pa ka va : Option Addr) (n pn pc kc vn vc : Nat) (hn : n = l.length) (hln : n ≤ 1000) (hs : smallA L) (w : World) (h : IsA w.heap.size w L (.slice va vn vc)) (hl : l.all (mayF d) = true) (hk1 : IsFls (Lt w) w l ka 0) (hk : k = 3) (h1 : n = 1) :
    Calls Tryz.prog 26 #[.agg #[.int .i64 k, .string T, .string X, .slice pa pn pc, .slice ka n kc], .agg #[.string D, .slice va vn vc]] w fun e w' => e = .returned (.int .i64 (flipE ((evFs L l).headD 2) : Nat)) ∧ Below w.heap.size w w' := by
  obtain ⟨W0, hW0⟩ : ∃ W, W = w.alloc (.cells #[.int .i64 k, .string T, .string X, .slice pa pn pc, .slice ka n kc] 25) := ⟨_, rfl⟩
  obtain ⟨W1, hW1⟩ : ∃ W, W = W0.alloc (.cells #[.string D, .slice va vn vc] 28) := ⟨_, rfl⟩
  have hb0 : Below w.heap.size w W0 := by rw [hW0]; exact box5 w _ _ _ _ _
  have hb01 : Below W0.heap.size W0 W1 := by rw [hW1]; exact (Below.refl _ _).alloc (Nat.le_refl _) _
  have hb1 : Below w.heap.size w W1 := bthen hb0 hb01
  have hf0 : FlAt W0 w.heap.size (.int .i64 k) (.string T) (.string X) (.slice pa pn pc) (.slice ka n kc) := by rw [hW0]; exact heap_alloc_new w _
  have hf : FlAt W1 w.heap.size (.int .i64 k) (.string T) (.string X) (.slice pa pn pc) (.slice ka n kc) := fl_below hf0 hb01 (fl_lt hf0)
  obtain ⟨eb, heb⟩ : ∃ b, b = w.heap.size + 1 := ⟨_, rfl⟩
  have hsz : W0.heap.size = eb := by rw [heb, hW0]; simp only [World.alloc, Array.size_push]
  have he : EnAt W1 eb D (.slice va vn vc) := by rw [← hsz, hW1]; exact heap_alloc_new W0 _
  have hE : ∀ W, Below W1.heap.size W1 W → FlAt W w.heap.size (.int .i64 k) (.string T) (.string X) (.slice pa pn pc) (.slice ka n kc) ∧ EnAt W eb D (.slice va vn vc) := fun W hW => ⟨fl_below hf hW (fl_lt hf), en_below he hW (en_lt he)⟩
  have HE := Lib.hid hE
  have HW0 := Lib.hid hW0.symm
  have HW1 := Lib.hid hW1.symm
  have HEb := Lib.hid heb.symm
  have HB1 := Lib.hid hb1
  obtain ⟨d0, d1, d2, d3, d4⟩ := fl_cells hf
  obtain ⟨e0, e1⟩ := en_cells he
  subst h1
  obtain ⟨g, rfl⟩ : ∃ g, l = [g] := List.length_eq_one_iff.1 hn.symm
  obtain ⟨b, off, v0, v1, v2, v3, v4, rfl, hb, q0, q1, q2, q3, q4, hg0⟩ := hk1.get [g] _ 0 0 g rfl
  rw [show off + (0 + 0) * 5 = off from by omega] at q0 q1 q2 q3 q4
  have hg : IsFl (Lt W1) W1 g (.agg #[v0, v1, v2, v3, v4]) := hg0.below hb1
  have hcw : ∀ o, W1.cell? ⟨b, o, none⟩ = w.cell? ⟨b, o, none⟩ := fun o => hb1.cell (p := ⟨b, o, none⟩) hb
  rw [← hcw] at q0 q1 q2 q3 q4
  obtain ⟨k', T', X', pa', pn', pc', ka', kn', kc', e⟩ := hg.shape
  simp only [Value.agg.injEq, Array.mk.injEq, List.cons.injEq, and_true] at e
  obtain ⟨rfl, rfl, rfl, rfl, rfl⟩ := e
  have hgm : mayF d g = true := by simpa using hl
  have hr := evF_lt L g
  obtain ⟨r, hrr⟩ : ∃ r, r = evF L g := ⟨_, rfl⟩
  have hbl : b < W1.heap.size := Nat.lt_of_lt_of_le hb hb1.size
  have hA1 : IsA W1.heap.size W1 L (.slice va vn vc) := h.below hb1 hb1.size
  have hcall : ∀ W, SamB W1 W → Calls Tryz.prog 26 #[.agg #[.int .i64 k', .string T', .string X', .slice pa' pn' pc', .slice ka' kn' kc'], .agg #[.string D, .slice va vn vc]] W fun e w' => e = .returned (.int .i64 (r : Int)) ∧ Below W.heap.size W w' := fun W hW => by
    rw [hrr]
    exact ih g _ L D va vn vc W hgm (hg.below hW) hs (hA1.below hW (Below.size hW))
  have hnot : ∀ W, SamB W1 W → Calls Tryz.prog 37 #[.int .i64 (r : Int)] W fun e w' => e = .returned (.int .i64 (flipE r : Nat)) ∧ Below W.heap.size W w' := fun W _ => (flipR_any r (by rw [hrr]; exact hr) W).mono (fun e w' h => ⟨h.1, by rw [← h.2]; exact Below.refl _ _⟩)
  have hE2 : ∀ W, SamB W1 W → W.cell? ⟨w.heap.size, 4, none⟩ = some (.slice (some ⟨b, off, none⟩) 1 kc) ∧ W.cell? ⟨eb, 0, none⟩ = some (.string D) ∧ W.cell? ⟨eb, 1, none⟩ = some (.slice va vn vc) ∧ W.cell? ⟨b, off, none⟩ = some (.int .i64 k') ∧ W.cell? ⟨b, off + 1, none⟩ = some (.string T') ∧ W.cell? ⟨b, off + 2, none⟩ = some (.string X') ∧ W.cell? ⟨b, off + 3, none⟩ = some (.slice pa' pn' pc') ∧ W.cell? ⟨b, off + 4, none⟩ = some (.slice ka' kn' kc') ∧ SamB W1 W := fun W hW => by
    have a4 := (fl_cells (fl_below hf hW (fl_lt hf))).2.2.2.2
    obtain ⟨z0, z1⟩ := en_cells (en_below he hW (en_lt he))
    exact ⟨a4, z0, z1, (Below.cell hW (p := ⟨b, off, none⟩) hbl).trans q0, (Below.cell hW (p := ⟨b, off + 1, none⟩) hbl).trans q1, (Below.cell hW (p := ⟨b, off + 2, none⟩) hbl).trans q2, (Below.cell hW (p := ⟨b, off + 3, none⟩) hbl).trans q3, (Below.cell hW (p := ⟨b, off + 4, none⟩) hbl).trans q4, hW⟩
  have HE2 := Lib.hid hE2
  have HCl := Lib.hid hcall
  have HNt := Lib.hid hnot
  obtain ⟨R, hR⟩ : ∃ R, R = flipE ((evFs L [g]).headD 2) := ⟨_, rfl⟩
  rw [← hR]
  have HR2 : Hid (R = flipE r) := Lib.hid (by rw [hR, hrr]; rfl)
  have hst5 := hE2 W1 (Below.refl _ _)
  have hst6 := hE2 W1.drew (Below.drew (Below.refl _ _))
  have t1 : ((k : Int) == 1) = false := by simp [hk]
  have t2 : ((k : Int) == 2) = false := by simp [hk]
  have t3 : ((k : Int) == 3) = true := by simp [hk]
  clear hW0 hW1 hb0 hb01 hb1 hf0 hf heb hsz he hE hR hs h hk hk1 hl hn ih hg hg0 hcw hgm hr hrr hbl hA1 hcall hnot hE2 hb
  go_enter Tryz.func26, Tryz.ntmps26
  go_upto_region 1 with (fail)
  rw [HW0.out, HW1.out, HEb.out]
  go_upto_region 18 with (fail)
  go_region_held3 (fun W => W.cell? ⟨w.heap.size, 4, none⟩ = some (.slice (some ⟨b, off, none⟩) 1 kc) ∧ W.cell? ⟨eb, 0, none⟩ = some (.string D) ∧ W.cell? ⟨eb, 1, none⟩ = some (.slice va vn vc) ∧ W.cell? ⟨b, off, none⟩ = some (.int .i64 k') ∧ W.cell? ⟨b, off + 1, none⟩ = some (.string T') ∧ W.cell? ⟨b, off + 2, none⟩ = some (.string X') ∧ W.cell? ⟨b, off + 3, none⟩ = some (.slice pa' pn' pc') ∧ W.cell? ⟨b, off + 4, none⟩ = some (.slice ka' kn' kc') ∧ SamB W1 W)
    (first | (with_reducible exact hst5) | (with_reducible exact hst6) | (go_split_ands; exact HE2.out _ (SamB.go (by assumption) hbx)))
    (first
      | (go_at_call 26; go_split_ands; (with_reducible refine (HCl.out _ (by assumption)).mono ?_); rintro e wx ⟨rfl, hbx⟩)
      | (go_at_call 37; go_split_ands; (with_reducible refine (HNt.out _ (by assumption)).mono ?_); rintro e wy ⟨rfl, hbx⟩))
  all_goals
    go_split_ands
    have hT : SamB W1 wy := by assumption
    go_wp2
    go_ret
    exact ⟨by rw [HR2.out]; rfl, bthen HB1.out hT⟩
end Go.Proofs.YtdgnefcpeocbjaaGreatDoor
