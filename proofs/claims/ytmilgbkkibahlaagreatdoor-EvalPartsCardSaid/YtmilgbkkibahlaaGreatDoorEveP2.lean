/- Several texts in one file: EvFit, FiAsked, FiLeaf, FiNext, EvTru, EvTal, DnTypeR, FiRSim, FiRMay, EvEval, MaNumP, ScVals, ScPure, ScOwn, ScRow, ScClass, ScFind, ScCls, ScCat, ScIdx, ScVal, ScSound, ScClassed, ScCheck, ScPer, EvOrdP, EvAwk, EvPaW, Arg. -/
import Derived.Test.YtmilgbkkibahlaaGreatDoorEveP1
import Derived.Test.YtmilgbkkibahlaaGreatDoorEvLess
import Derived.Deep.RegionHeld3
import Derived.Laws.LoneSync
import Derived.Laws.Externs
import Derived.Deep.RegionLaw
import Derived.RegionTactic
import Derived.Test.YtmilgbkkibahlaaGreatDoorDnType
import Derived.Test.YtmilgbkkibahlaaGreatDoorMaPure
import Derived.Test.YtmilgbkkibahlaaGreatDoorEnFind
import Derived.Test.YtmilgbkkibahlaaGreatDoorMaSame
import Derived.Lib.Fields
import Derived.Lib.SlicesCompact
import Derived.Sort.KeysCollected
import Derived.Test.YtmilgbkkibahlaaGreatDoorMaNum
import Derived.Sort.OwnSorted
import Derived.BigQuiet
import Derived.Test.YtmilgbkkibahlaaGreatDoorMaNorm
import Derived.Test.YtmilgbkkibahlaaGreatDoorDnParse
import Derived.Lib.AppendZerosOnto
import Derived.Deep.Upon
import Derived.Test.YtmilgbkkibahlaaGreatDoorEnHas
import Derived.Test.YtmilgbkkibahlaaGreatDoorDnKey
import Derived.Deep.Cut
import Derived.Test.YtmilgbkkibahlaaGreatDoorEvPure
import Derived.Test.YtmilgbkkibahlaaGreatDoorDnFoldR
import Derived.Deep.CutBlock
import Derived.Deep.CutRange
import Derived.Test.YtmilgbkkibahlaaGreatDoorDnTextW
import Derived.OpenShut
import Derived.Carry
import Derived.ChangeSlices
import Derived.Deep.Strs
import Derived.Deep.SlicePairs
namespace Go.Proofs.YtmilgbkkibahlaaGreatDoor
open Go.RowKit
set_option linter.unusedVariables false
set_option linter.unusedSimpArgs false

set_option maxRecDepth 100000 in
set_option maxHeartbeats 2000000 in
theorem askG_any (T X V : ByteArray) (x0 x3 x4 : Value) (b : Nat) (hX : X.size ≤ 281474976710656) (hV : V.size ≤ 281474976710656) (w : World) (hw : LaidW w) (hf : FlAt w b x0 (.string T) (.string X) x3 x4) :
    Calls Tryz.prog 46 #[.string V, .pointer (some ⟨b, 0, none⟩)] w fun e w' => e = .returned (.bool (aboveE (ruleD T.data.toList) V.data.toList X.data.toList)) ∧ Below w.heap.size w w' := by
  have hn := notBelow_any T V X (by omega) (by omega) w hw
  obtain ⟨c0, c1, c2, c3, c4⟩ := fl_cells hf
  have HN := Lib.hid hn
  clear hn hf
  go_enter Tryz.func46, Tryz.ntmps46
  go_wp2_with (go_at_call 47; refine (HN.out).mono ?_; rintro e w2 ⟨rfl, hb2⟩; have HB := Lib.hid hb2; clear hb2)
  go_ret
  exact ⟨rfl, HB.out⟩
set_option maxRecDepth 100000 in
set_option maxHeartbeats 2000000 in
theorem askL_any (T X V : ByteArray) (x0 x3 x4 : Value) (b : Nat) (hX : X.size ≤ 281474976710656) (hV : V.size ≤ 281474976710656) (w : World) (hw : LaidW w) (hf : FlAt w b x0 (.string T) (.string X) x3 x4) :
    Calls Tryz.prog 48 #[.string V, .pointer (some ⟨b, 0, none⟩)] w fun e w' => e = .returned (.bool (aboveE (ruleD T.data.toList) X.data.toList V.data.toList)) ∧ Below w.heap.size w w' := by
  have hn := notBelow_any T X V (by omega) (by omega) w hw
  obtain ⟨c0, c1, c2, c3, c4⟩ := fl_cells hf
  have HN := Lib.hid hn
  clear hn hf
  go_enter Tryz.func48, Tryz.ntmps48
  go_wp2_with (go_at_call 47; refine (HN.out).mono ?_; rintro e w2 ⟨rfl, hb2⟩; have HB := Lib.hid hb2; clear hb2)
  go_ret
  exact ⟨rfl, HB.out⟩
set_option maxRecDepth 100000 in
set_option maxHeartbeats 2000000 in
theorem someG_any (d T : ByteArray) (L : List AT) (hs : smallA L) (va : Option Addr) (vn vc : Nat) (b1 : Nat) (q : List UInt8 → Bool) (w : World) (h : IsA w.heap.size w L (.slice va vn vc))
    (HQ : ∀ (X : ByteArray) (W : World), Below w.heap.size w W → X.data.toList ∈ findA L T.data.toList → Calls Tryz.prog 46 #[.string X, .pointer (some ⟨b1, 0, none⟩)] W fun e w' => e = .returned (.bool (q X.data.toList)) ∧ Below W.heap.size W w') :
    Calls Tryz.prog 45 #[.agg #[.string d, .slice va vn vc], .string T, .func (.func 46) #[] #[.pointer (some ⟨b1, 0, none⟩)]] w fun e w' => e = .returned (.bool ((findA L T.data.toList).any q)) ∧ Below w.heap.size w w' := by
  have hfl : (findA L T.data.toList).length ≤ 1000000 := by
    unfold findA
    split
    · rename_i a ha
      have := ((hs.2 a (List.mem_of_find?_eq_some ha)).2).1
      omega
    · simp
  obtain ⟨W1, hW1⟩ : ∃ W, W = w.alloc (.cells #[.string d, .slice va vn vc] 26) := ⟨_, rfl⟩
  have hb1 : Below w.heap.size w W1 := by rw [hW1]; exact (Below.refl _ _).alloc (Nat.le_refl _) _
  have hv1 := vals_any d L hs (.slice va vn vc) T W1 (h.below hb1 hb1.size)
  have HV := Lib.hid hv1
  have HC := Lib.hid (fun (u : Value) (W : World) (hW : Below w.heap.size w W) (hu : IsT W.heap.size W (findA L T.data.toList) u) => containsQG_any (findA L T.data.toList) hfl u b1 q W hu (fun X W' hW' hm => HQ X W' (bthen hW hW') hm))
  have HB1 := Lib.hid hb1
  have HW1 := Lib.hid hW1.symm
  have HFl := Lib.hid hfl
  clear hW1 hb1 hv1 HQ h hfl
  go_enter Tryz.func45, Tryz.ntmps45
  go_upto_region 1 with (fail)
  rw [HW1.out]
  have e0 : W1.cell? ⟨w.heap.size, 0, none⟩ = some (.string d) ∧ W1.cell? ⟨w.heap.size, 1, none⟩ = some (.slice va vn vc) := by
    have := heap_alloc_new w (.cells #[.string d, .slice va vn vc] 26)
    rw [HW1.out] at this
    exact ⟨by simp [World.cell?, this], by simp [World.cell?, this]⟩
  obtain ⟨e0, e1⟩ := e0
  go_wp2_with (first
    | (go_at_call 50; refine (HV.out).mono ?_; rintro e w2 ⟨u, rfl, hown, hb2⟩; have HB2 := Lib.hid (bthen HB1.out hb2); have HU := Lib.hid (ownS_isT hown (by have := HFl.out; unfold maxLen; omega)); clear hown hb2)
    | (go_at_call 59; refine (HC.out _ _ HB2.out HU.out).mono ?_; rintro e w3 ⟨rfl, hb3⟩; have HB3 := Lib.hid (bthen HB2.out hb3); clear hb3))
  go_ret
  exact ⟨rfl, HB3.out⟩
set_option maxRecDepth 100000 in
set_option maxHeartbeats 2000000 in
theorem someL_any (d T : ByteArray) (L : List AT) (hs : smallA L) (va : Option Addr) (vn vc : Nat) (b1 : Nat) (q : List UInt8 → Bool) (w : World) (h : IsA w.heap.size w L (.slice va vn vc))
    (HQ : ∀ (X : ByteArray) (W : World), Below w.heap.size w W → X.data.toList ∈ findA L T.data.toList → Calls Tryz.prog 48 #[.string X, .pointer (some ⟨b1, 0, none⟩)] W fun e w' => e = .returned (.bool (q X.data.toList)) ∧ Below W.heap.size W w') :
    Calls Tryz.prog 45 #[.agg #[.string d, .slice va vn vc], .string T, .func (.func 48) #[] #[.pointer (some ⟨b1, 0, none⟩)]] w fun e w' => e = .returned (.bool ((findA L T.data.toList).any q)) ∧ Below w.heap.size w w' := by
  have hfl : (findA L T.data.toList).length ≤ 1000000 := by
    unfold findA
    split
    · rename_i a ha
      have := ((hs.2 a (List.mem_of_find?_eq_some ha)).2).1
      omega
    · simp
  obtain ⟨W1, hW1⟩ : ∃ W, W = w.alloc (.cells #[.string d, .slice va vn vc] 26) := ⟨_, rfl⟩
  have hb1 : Below w.heap.size w W1 := by rw [hW1]; exact (Below.refl _ _).alloc (Nat.le_refl _) _
  have hv1 := vals_any d L hs (.slice va vn vc) T W1 (h.below hb1 hb1.size)
  have HV := Lib.hid hv1
  have HC := Lib.hid (fun (u : Value) (W : World) (hW : Below w.heap.size w W) (hu : IsT W.heap.size W (findA L T.data.toList) u) => containsQL_any (findA L T.data.toList) hfl u b1 q W hu (fun X W' hW' hm => HQ X W' (bthen hW hW') hm))
  have HB1 := Lib.hid hb1
  have HW1 := Lib.hid hW1.symm
  have HFl := Lib.hid hfl
  clear hW1 hb1 hv1 HQ h hfl
  go_enter Tryz.func45, Tryz.ntmps45
  go_upto_region 1 with (fail)
  rw [HW1.out]
  have e0 : W1.cell? ⟨w.heap.size, 0, none⟩ = some (.string d) ∧ W1.cell? ⟨w.heap.size, 1, none⟩ = some (.slice va vn vc) := by
    have := heap_alloc_new w (.cells #[.string d, .slice va vn vc] 26)
    rw [HW1.out] at this
    exact ⟨by simp [World.cell?, this], by simp [World.cell?, this]⟩
  obtain ⟨e0, e1⟩ := e0
  go_wp2_with (first
    | (go_at_call 50; refine (HV.out).mono ?_; rintro e w2 ⟨u, rfl, hown, hb2⟩; have HB2 := Lib.hid (bthen HB1.out hb2); have HU := Lib.hid (ownS_isT hown (by have := HFl.out; unfold maxLen; omega)); clear hown hb2)
    | (go_at_call 59; refine (HC.out _ _ HB2.out HU.out).mono ?_; rintro e w3 ⟨rfl, hb3⟩; have HB3 := Lib.hid (bthen HB2.out hb3); clear hb3))
  go_ret
  exact ⟨rfl, HB3.out⟩
set_option maxRecDepth 100000 in
set_option maxHeartbeats 2000000 in
theorem someP_any (d T : ByteArray) (L : List AT) (hs : smallA L) (va : Option Addr) (vn vc : Nat) (b1 b2 : Nat) (q : List UInt8 → Bool) (w : World) (h : IsA w.heap.size w L (.slice va vn vc))
    (HQ : ∀ (X : ByteArray) (W : World), Below w.heap.size w W → X.data.toList ∈ findA L T.data.toList → Calls Tryz.prog 64 #[.string X, .pointer (some ⟨b1, 0, none⟩), .pointer (some ⟨b2, 0, none⟩)] W fun e w' => e = .returned (.bool (q X.data.toList)) ∧ Below W.heap.size W w') :
    Calls Tryz.prog 45 #[.agg #[.string d, .slice va vn vc], .string T, .func (.func 64) #[] #[.pointer (some ⟨b1, 0, none⟩), .pointer (some ⟨b2, 0, none⟩)]] w fun e w' => e = .returned (.bool ((findA L T.data.toList).any q)) ∧ Below w.heap.size w w' := by
  have hfl : (findA L T.data.toList).length ≤ 1000000 := by
    unfold findA
    split
    · rename_i a ha
      have := ((hs.2 a (List.mem_of_find?_eq_some ha)).2).1
      omega
    · simp
  obtain ⟨W1, hW1⟩ : ∃ W, W = w.alloc (.cells #[.string d, .slice va vn vc] 26) := ⟨_, rfl⟩
  have hb1 : Below w.heap.size w W1 := by rw [hW1]; exact (Below.refl _ _).alloc (Nat.le_refl _) _
  have hv1 := vals_any d L hs (.slice va vn vc) T W1 (h.below hb1 hb1.size)
  have HV := Lib.hid hv1
  have HC := Lib.hid (fun (u : Value) (W : World) (hW : Below w.heap.size w W) (hu : IsT W.heap.size W (findA L T.data.toList) u) => containsQP_any (findA L T.data.toList) hfl u b1 b2 q W hu (fun X W' hW' hm => HQ X W' (bthen hW hW') hm))
  have HB1 := Lib.hid hb1
  have HW1 := Lib.hid hW1.symm
  have HFl := Lib.hid hfl
  clear hW1 hb1 hv1 HQ h hfl
  go_enter Tryz.func45, Tryz.ntmps45
  go_upto_region 1 with (fail)
  rw [HW1.out]
  have e0 : W1.cell? ⟨w.heap.size, 0, none⟩ = some (.string d) ∧ W1.cell? ⟨w.heap.size, 1, none⟩ = some (.slice va vn vc) := by
    have := heap_alloc_new w (.cells #[.string d, .slice va vn vc] 26)
    rw [HW1.out] at this
    exact ⟨by simp [World.cell?, this], by simp [World.cell?, this]⟩
  obtain ⟨e0, e1⟩ := e0
  go_wp2_with (first
    | (go_at_call 50; refine (HV.out).mono ?_; rintro e w2 ⟨u, rfl, hown, hb2⟩; have HB2 := Lib.hid (bthen HB1.out hb2); have HU := Lib.hid (ownS_isT hown (by have := HFl.out; unfold maxLen; omega)); clear hown hb2)
    | (go_at_call 59; refine (HC.out _ _ HB2.out HU.out).mono ?_; rintro e w3 ⟨rfl, hb3⟩; have HB3 := Lib.hid (bthen HB2.out hb3); clear hb3))
  go_ret
  exact ⟨rfl, HB3.out⟩
set_option maxRecDepth 100000 in
set_option maxHeartbeats 4000000 in
theorem mayAsk_any (k : Int) (T X : ByteArray) (x3 x4 : Value) (hX : X.size ≤ 281474976710656) (s3 : ∃ a n c, x3 = .slice a n c) (s4 : ∃ a n c, x4 = .slice a n c) (w : World) (hw : LaidW w) :
    Calls Tryz.prog 33 #[.agg #[.int .i64 k, .string T, .string X, x3, x4]] w fun e w' => e = .returned (.bool (askE k T.data.toList X.data.toList)) ∧ Below w.heap.size w w' := by
  obtain ⟨a3, n3, c3, rfl⟩ := s3
  obtain ⟨a4, n4, c4, rfl⟩ := s4
  obtain ⟨W1, hW1⟩ : ∃ W, W = w.alloc (.cells #[.int .i64 k, .string T, .string X, .slice a3 n3 c3, .slice a4 n4 c4] 31) := ⟨_, rfl⟩
  have hb1 : Below w.heap.size w W1 := by rw [hW1]; exact box5 w _ _ _ _ _
  have hf : FlAt W1 w.heap.size (.int .i64 k) (.string T) (.string X) (.slice a3 n3 c3) (.slice a4 n4 c4) := by rw [hW1]; exact heap_alloc_new w _
  obtain ⟨d0, d1, d2, d3, d4⟩ := fl_cells hf
  have HW1 := Lib.hid hW1.symm
  have HB1 := Lib.hid hb1
  have HNm := Lib.hid (norm_any T X W1 (hw.below hb1))
  have HLs := Lib.hid (lessFl_any T X X hX hX W1 (hw.below hb1))
  have HRu := Lib.hid (rule_any T W1)
  have HCa := Lib.hid (canon_any T W1)
  obtain ⟨R, hR⟩ : ∃ R, R = askE k T.data.toList X.data.toList := ⟨_, rfl⟩
  rw [← hR]
  unfold askE at hR
  have HR := Lib.hid hR
  clear hW1 hb1 hf hR hw
  by_cases k4 : k = 4
  · have t4 : ((k : Int) == 4) = true := by simp [k4]
    have HR2 : Hid (R = (normD (ruleD T.data.toList) X.data.toList).isSome) := Lib.hid (by rw [HR.out, if_pos k4])
    obtain ⟨o, ho⟩ : ∃ o, o = normD (ruleD T.data.toList) X.data.toList := ⟨_, rfl⟩
    rw [← ho] at HNm HR2
    clear ho k4
    cases o with
    | none =>
      go_enter Tryz.func33, Tryz.ntmps33
      go_upto_region 1 with (fail)
      rw [HW1.out]
      go_wp2_with (go_at_call 40; refine (HNm.out).mono ?_; rintro e w2 ⟨rfl, hb2⟩; have HB2 := Lib.hid (bthen HB1.out hb2); clear hb2; unfold saidP)
      go_ret
      exact ⟨by rw [HR2.out]; rfl, HB2.out⟩
    | some y =>
      go_enter Tryz.func33, Tryz.ntmps33
      go_upto_region 1 with (fail)
      rw [HW1.out]
      go_wp2_with (go_at_call 40; refine (HNm.out).mono ?_; rintro e w2 ⟨rfl, hb2⟩; have HB2 := Lib.hid (bthen HB1.out hb2); clear hb2; unfold saidP)
      go_ret
      exact ⟨by rw [HR2.out]; rfl, HB2.out⟩
  · have t4 : ((k : Int) == 4) = false := by simp; omega
    by_cases k67 : k = 6 ∨ k = 7
    · have HR2 : Hid (R = (lessD (ruleD T.data.toList) X.data.toList X.data.toList).isSome) := Lib.hid (by rw [HR.out, if_neg k4, if_pos k67])
      obtain ⟨o, ho⟩ : ∃ o, o = lessD (ruleD T.data.toList) X.data.toList X.data.toList := ⟨_, rfl⟩
      rw [← ho] at HLs HR2
      clear ho
      obtain ⟨b6, t6⟩ : ∃ b, ((k : Int) == 6) = b := ⟨_, rfl⟩
      obtain ⟨b7, t7⟩ : ∃ b, ((k : Int) == 7) = b := ⟨_, rfl⟩
      have hor : b6 = true ∨ b7 = true := by rcases k67 with h | h <;> subst h <;> simp [← t6, ← t7]
      clear k4 k67
      cases b6 with
      | true =>
        clear hor
        cases o with
        | none =>
          go_enter Tryz.func33, Tryz.ntmps33
          go_upto_region 1 with (fail)
          rw [HW1.out]
          go_wp2_with (go_at_call 41; refine (HLs.out).mono ?_; rintro e w2 ⟨rfl, hb2⟩; have HB2 := Lib.hid (bthen HB1.out hb2); clear hb2; unfold lessV)
          go_ret
          exact ⟨by rw [HR2.out]; rfl, HB2.out⟩
        | some y =>
          go_enter Tryz.func33, Tryz.ntmps33
          go_upto_region 1 with (fail)
          rw [HW1.out]
          go_wp2_with (go_at_call 41; refine (HLs.out).mono ?_; rintro e w2 ⟨rfl, hb2⟩; have HB2 := Lib.hid (bthen HB1.out hb2); clear hb2; unfold lessV)
          go_ret
          exact ⟨by rw [HR2.out]; rfl, HB2.out⟩
      | false =>
        have hb7 : b7 = true := by simpa using hor
        subst hb7
        clear hor
        cases o with
        | none =>
          go_enter Tryz.func33, Tryz.ntmps33
          go_upto_region 1 with (fail)
          rw [HW1.out]
          go_wp2_with (go_at_call 41; refine (HLs.out).mono ?_; rintro e w2 ⟨rfl, hb2⟩; have HB2 := Lib.hid (bthen HB1.out hb2); clear hb2; unfold lessV)
          go_ret
          exact ⟨by rw [HR2.out]; rfl, HB2.out⟩
        | some y =>
          go_enter Tryz.func33, Tryz.ntmps33
          go_upto_region 1 with (fail)
          rw [HW1.out]
          go_wp2_with (go_at_call 41; refine (HLs.out).mono ?_; rintro e w2 ⟨rfl, hb2⟩; have HB2 := Lib.hid (bthen HB1.out hb2); clear hb2; unfold lessV)
          go_ret
          exact ⟨by rw [HR2.out]; rfl, HB2.out⟩
    · have t6 : ((k : Int) == 6) = false := by simp; omega
      have t7 : ((k : Int) == 7) = false := by simp; omega
      by_cases k5 : k = 5
      · have t5 : ((k : Int) == 5) = true := by simp [k5]
        have HR2 : Hid (R = decide (ruleD T.data.toList = 1)) := Lib.hid (by rw [HR.out, if_neg k4, if_neg k67, if_pos k5])
        obtain ⟨o, ho⟩ : ∃ o, o = ruleD T.data.toList := ⟨_, rfl⟩
        rw [← ho] at HRu HR2
        have HD : Hid (decide (o = 1) = ((o : Int) == 1)) := Lib.hid (by rw [Bool.eq_iff_iff]; simp; omega)
        clear ho k4 k5 k67
        go_enter Tryz.func33, Tryz.ntmps33
        go_upto_region 1 with (fail)
        rw [HW1.out]
        go_wp2_with (go_at_call 42; refine (HRu.out).mono ?_; rintro e w2 ⟨rfl, hb2⟩; have HB2 := Lib.hid (bthen HB1.out hb2); clear hb2)
        go_ret
        exact ⟨by rw [HR2.out, HD.out]; rfl, HB2.out⟩
      · have t5 : ((k : Int) == 5) = false := by simp; omega
        have HR2 : Hid (R = (canonD T.data.toList).isSome) := Lib.hid (by rw [HR.out, if_neg k4, if_neg k67, if_neg k5])
        obtain ⟨o, ho⟩ : ∃ o, o = canonD T.data.toList := ⟨_, rfl⟩
        rw [← ho] at HCa HR2
        clear ho k4 k5 k67
        cases o with
        | none =>
          go_enter Tryz.func33, Tryz.ntmps33
          go_upto_region 1 with (fail)
          rw [HW1.out]
          go_wp2_with (go_at_call 43; refine (HCa.out).mono ?_; rintro e w2 ⟨rfl, hb2⟩; have HB2 := Lib.hid (bthen HB1.out hb2); clear hb2; unfold canonV)
          go_ret
          exact ⟨by rw [HR2.out]; rfl, HB2.out⟩
        | some y =>
          go_enter Tryz.func33, Tryz.ntmps33
          go_upto_region 1 with (fail)
          rw [HW1.out]
          go_wp2_with (go_at_call 43; refine (HCa.out).mono ?_; rintro e w2 ⟨rfl, hb2⟩; have HB2 := Lib.hid (bthen HB1.out hb2); clear hb2; unfold canonV)
          go_ret
          exact ⟨by rw [HR2.out]; rfl, HB2.out⟩
theorem findA_short {L : List AT} {t : List UInt8} (hs : smallA L) : ∀ x ∈ findA L t, x.length ≤ 1000000 := by
  unfold findA
  intro x hx
  split at hx
  · rename_i a ha
    exact ((hs.2 a (List.mem_of_find?_eq_some ha)).2).2 x hx
  · cases hx
set_option maxRecDepth 100000 in
set_option maxHeartbeats 8000000 in
theorem fits_any (k : Int) (T X d : ByteArray) (p : List (List UInt8)) (L : List AT) (pa ka va : Option Addr) (n pc kn kc vn vc : Nat) (hX : X.size ≤ 1000000) (hn : n = p.length) (hp5 : k = 5 → 2 ≤ p.length) (hp3 : p.length ≤ 1000) (hpl : ∀ x ∈ p, x.length ≤ 1000000)
    (hs : smallA L) (w : World) (hw : LaidW w) (hx : LaidX w) (hp : IsTo (Lt w) w p (.slice pa n pc)) (h : IsA w.heap.size w L (.slice va vn vc)) :
    Calls Tryz.prog 34 #[.agg #[.int .i64 k, .string T, .string X, .slice pa n pc, .slice ka kn kc], .agg #[.string d, .slice va vn vc]] w fun e w' => e = .returned (.bool (fitE L k T.data.toList X.data.toList p)) ∧ Below w.heap.size w w' := by
  have hmf : ∀ (fn : Fn) (first cap : Array Value) (w : World), (Instr.makeFunc fn first cap).run Tryz.prog w = .ok (.func fn first cap) w := fun _ _ _ _ => rfl
  obtain ⟨W0, hW0⟩ : ∃ W, W = w.alloc (.cells #[.int .i64 k, .string T, .string X, .slice pa n pc, .slice ka kn kc] 31) := ⟨_, rfl⟩
  obtain ⟨W1, hW1⟩ : ∃ W, W = W0.alloc (.cells #[.string d, .slice va vn vc] 26) := ⟨_, rfl⟩
  have hb0 : Below w.heap.size w W0 := by rw [hW0]; exact box5 w _ _ _ _ _
  have hb01 : Below W0.heap.size W0 W1 := by rw [hW1]; exact (Below.refl _ _).alloc (Nat.le_refl _) _
  have hb1 : Below w.heap.size w W1 := bthen hb0 hb01
  have hf0 : FlAt W0 w.heap.size (.int .i64 k) (.string T) (.string X) (.slice pa n pc) (.slice ka kn kc) := by rw [hW0]; exact heap_alloc_new w _
  have hf : FlAt W1 w.heap.size (.int .i64 k) (.string T) (.string X) (.slice pa n pc) (.slice ka kn kc) := fl_below hf0 hb01 (fl_lt hf0)
  obtain ⟨eb, heb⟩ : ∃ b, b = w.heap.size + 1 := ⟨_, rfl⟩
  have hsz : W0.heap.size = eb := by rw [heb, hW0]; simp only [World.alloc, Array.size_push]
  have he : W1.heap[eb]? = some (.cells #[.string d, .slice va vn vc] 26 (0, 0)) := by rw [← hsz, hW1]; exact heap_alloc_new W0 _
  have hebl : eb < W1.heap.size := (Array.getElem?_eq_some_iff.1 he).1
  have hE : ∀ W, SamB W1 W → W.cell? ⟨w.heap.size, 0, none⟩ = some (.int .i64 k) ∧ W.cell? ⟨w.heap.size, 1, none⟩ = some (.string T) ∧ W.cell? ⟨w.heap.size, 2, none⟩ = some (.string X) ∧ W.cell? ⟨w.heap.size, 3, none⟩ = some (.slice pa n pc) ∧ W.cell? ⟨w.heap.size, 4, none⟩ = some (.slice ka kn kc) ∧ W.cell? ⟨eb, 0, none⟩ = some (.string d) ∧ W.cell? ⟨eb, 1, none⟩ = some (.slice va vn vc) ∧ SamB W1 W := fun W hW => by
    obtain ⟨a0, a1, a2, a3, a4⟩ := fl_cells (fl_below hf hW (fl_lt hf))
    have := (Below.block hW eb hebl).trans he
    exact ⟨a0, a1, a2, a3, a4, by simp [World.cell?, this], by simp [World.cell?, this], hW⟩
  have hA1 : IsA W1.heap.size W1 L (.slice va vn vc) := h.below hb1 hb1.size
  have HE := Lib.hid hE
  have HW0 := Lib.hid hW0.symm
  have HW1 := Lib.hid hW1.symm
  have HEb := Lib.hid heb.symm
  have HB1 := Lib.hid hb1
  have hw1 := hw.below hb1
  have hx1 := hx.below hb1
  have hp1 : IsTo (Lt W1) W1 p (.slice pa n pc) := hp.imp (fun b h => Nat.lt_of_lt_of_le h hb1.size) (fun b o h => hb1.cell (p := ⟨b, o, none⟩) h)
  have hsv := findA_short (t := T.data.toList) hs
  have HHas := Lib.hid (has_any d T X L hs (.slice va vn vc) W1 hw1 hA1)
  have HG := Lib.hid (someG_any d T L hs va vn vc w.heap.size (fun v => aboveE (ruleD T.data.toList) v X.data.toList) W1 hA1 (fun V W hW hm => askG_any T X V (.int .i64 k) (.slice pa n pc) (.slice ka kn kc) w.heap.size (by omega) (by have := hsv _ hm; rw [bytes_len] at this; omega) W (hw1.below hW) (fl_below hf hW (fl_lt hf))))
  have HLl := Lib.hid (someL_any d T L hs va vn vc w.heap.size (fun v => aboveE (ruleD T.data.toList) X.data.toList v) W1 hA1 (fun V W hW hm => askL_any T X V (.int .i64 k) (.slice pa n pc) (.slice ka kn kc) w.heap.size (by omega) (by have := hsv _ hm; rw [bytes_len] at this; omega) W (hw1.below hW) (fl_below hf hW (fl_lt hf))))
  have HPr := Lib.hid (fun (W : World) (hW : SamB W1 W) => hasParts_any k T X p pa ka n pc kn kc W hn (by omega) hpl (hp1.imp (fun b h => Nat.lt_of_lt_of_le h (Below.size hW)) (fun b o h => Below.cell (p := ⟨b, o, none⟩) hW h)))
  have HSo := Lib.hid (fun (h5 : k = 5) (N : Nat) (W wx : World) (v : Value) (hN : N = W.heap.size) (hW : SamB W1 wx) (hP : PrtAt W wx (.int .i64 k) (.string T) (.string X) (.slice pa n pc) (.slice ka kn kc) v (p.map low)) => someP_any d T L hs va vn vc N (N + 1) (partsE (ruleD T.data.toList) p) wx (hA1.below hW (Below.size hW)) (fun V W' hW' hm => askParts_any k T X V p _ _ _ _ v (p.map low) W wx W' (hw1.below (bthen hW hW')) (hx1.below (bthen hW hW')) hP hW' rfl (hp5 h5) hp3 hpl (by have := hsv _ hm; rw [bytes_len] at this; omega) hN (by rw [hN])))
  have HV := Lib.hid (vals_any d L hs (.slice va vn vc) T W1 hA1)
  obtain ⟨R, hR⟩ : ∃ R, R = fitE L k T.data.toList X.data.toList p := ⟨_, rfl⟩
  rw [← hR]
  unfold fitE at hR
  have HR := Lib.hid hR
  have hst5 := hE W1 (Below.refl _ _)
  have hst6 := hE W1.drew (Below.drew (Below.refl _ _))
  obtain ⟨d0, d1, d2, d3, d4, e0, e1, _⟩ := hE W1 (Below.refl _ _)
  clear hW0 hW1 hb0 hb01 hb1 hf0 hf heb hsz he hebl hE hA1 hw1 hx1 hp1 hsv hR hs hw hx hp h hpl hp3 hX hn
  by_cases k4 : k = 4
  · have t4 : ((k : Int) == 4) = true := by simp [k4]
    have HR2 : Hid (hasA L T.data.toList X.data.toList = R) := Lib.hid (by rw [HR.out, if_pos k4])
    rw [HR2.out] at HHas
    clear k4 hp5 hst5 hst6
    go_enter Tryz.func34, Tryz.ntmps34
    go_upto_region 1 with (fail)
    rw [HW0.out, HW1.out, HEb.out]
    go_wp2_with (go_at_call 44; refine (HHas.out).mono ?_; rintro e w2 ⟨rfl, hb2⟩; have HB2 := Lib.hid (bthen HB1.out hb2); clear hb2)
    go_ret
    exact ⟨rfl, HB2.out⟩
  · have t4 : ((k : Int) == 4) = false := by simp; omega
    by_cases k6 : k = 6
    · have t6 : ((k : Int) == 6) = true := by simp [k6]
      have HR2 : Hid ((findA L T.data.toList).any (fun v => aboveE (ruleD T.data.toList) v X.data.toList) = R) := Lib.hid (by rw [HR.out, if_neg k4, if_pos k6])
      rw [HR2.out] at HG
      clear k4 k6 hp5 hst5 hst6
      go_enter Tryz.func34, Tryz.ntmps34
      go_upto_region 1 with (fail)
      rw [HW0.out, HW1.out, HEb.out]
      go_wp2_with (go_at_call 45; refine (HG.out).mono ?_; rintro e w2 ⟨rfl, hb2⟩; have HB2 := Lib.hid (bthen HB1.out hb2); clear hb2)
      go_ret
      exact ⟨rfl, HB2.out⟩
    · have t6 : ((k : Int) == 6) = false := by simp; omega
      by_cases k7 : k = 7
      · have t7 : ((k : Int) == 7) = true := by simp [k7]
        have HR2 : Hid ((findA L T.data.toList).any (fun v => aboveE (ruleD T.data.toList) X.data.toList v) = R) := Lib.hid (by rw [HR.out, if_neg k4, if_neg k6, if_pos k7])
        rw [HR2.out] at HLl
        clear k4 k6 k7 hp5 hst5 hst6
        go_enter Tryz.func34, Tryz.ntmps34
        go_upto_region 1 with (fail)
        rw [HW0.out, HW1.out, HEb.out]
        go_wp2_with (go_at_call 45; refine (HLl.out).mono ?_; rintro e w2 ⟨rfl, hb2⟩; have HB2 := Lib.hid (bthen HB1.out hb2); clear hb2)
        go_ret
        exact ⟨rfl, HB2.out⟩
      · have t7 : ((k : Int) == 7) = false := by simp; omega
        by_cases k5 : k = 5
        · have t5 : ((k : Int) == 5) = true := by simp [k5]
          have HR2 : Hid ((findA L T.data.toList).any (partsE (ruleD T.data.toList) p) = R) := Lib.hid (by rw [HR.out, if_neg k4, if_neg k6, if_neg k7, if_pos k5])
          have HK := Lib.hid k5
          clear k4 k5 k6 k7 hp5
          go_enter Tryz.func34, Tryz.ntmps34
          go_upto_region 1 with (fail)
          rw [HW0.out, HW1.out, HEb.out]
          go_upto_region 9 with (fail)
          go_region_held3 (fun W => W.cell? ⟨w.heap.size, 0, none⟩ = some (.int .i64 k) ∧ W.cell? ⟨w.heap.size, 1, none⟩ = some (.string T) ∧ W.cell? ⟨w.heap.size, 2, none⟩ = some (.string X) ∧ W.cell? ⟨w.heap.size, 3, none⟩ = some (.slice pa n pc) ∧ W.cell? ⟨w.heap.size, 4, none⟩ = some (.slice ka kn kc) ∧ W.cell? ⟨eb, 0, none⟩ = some (.string d) ∧ W.cell? ⟨eb, 1, none⟩ = some (.slice va vn vc) ∧ SamB W1 W)
            (first | (with_reducible exact hst5) | (with_reducible exact hst6) | (go_split_ands; exact HE.out _ (SamB.go (by assumption) hbx)))
            (first
              | (go_at_call 49; go_split_ands; (with_reducible refine (HPr.out _ (by assumption)).mono ?_); rintro e wx ⟨v, rfl, hprt⟩; have hbx := hprt.bel; have HPt := Lib.hid hprt; clear hprt)
              | (go_at_call 45; go_split_ands; (with_reducible refine (HSo.out HK.out W1.heap.size W1.drew wx v rfl (by assumption) HPt.out).mono ?_); rintro e wy ⟨rfl, hbx⟩))
          all_goals
            go_split_ands
            have hT : SamB W1 wy := by assumption
            go_wp2
            go_ret
            exact ⟨by rw [← HR2.out]; rfl, bthen HB1.out hT⟩
        · have t5 : ((k : Int) == 5) = false := by simp; omega
          have HR2 : Hid (decide (0 < (findA L T.data.toList).length) = R) := Lib.hid (by rw [HR.out, if_neg k4, if_neg k6, if_neg k7, if_neg k5])
          obtain ⟨m, hm⟩ : ∃ m, m = (findA L T.data.toList).length := ⟨_, rfl⟩
          rw [← hm] at HR2
          have HM := Lib.hid hm
          clear k4 k5 k6 k7 hp5 hst5 hst6 hm
          go_enter Tryz.func34, Tryz.ntmps34
          go_upto_region 1 with (fail)
          rw [HW0.out, HW1.out, HEb.out]
          go_wp2_with (go_at_call 50; refine (HV.out).mono ?_; rintro e w2 ⟨u, rfl, hu, hb2⟩; (obtain ⟨ua, uc, hue⟩ := ownS_slice hu); rw [← HM.out] at hue; subst hue; have HB2 := Lib.hid (bthen HB1.out hb2); clear hb2 hu)
          go_ret
          exact ⟨by rw [← HR2.out]; simp, HB2.out⟩
set_option maxRecDepth 100000 in
set_option maxHeartbeats 4000000 in
theorem leafEv_any (k : Int) (T X d : ByteArray) (p : List (List UInt8)) (L : List AT) (pa ka va : Option Addr) (n pc kn kc vn vc : Nat) (hX : X.size ≤ 1000000) (hn : n = p.length) (hp5 : k = 5 → 2 ≤ p.length) (hp3 : p.length ≤ 1000) (hpl : ∀ x ∈ p, x.length ≤ 1000000)
    (hs : smallA L) (w : World) (hw : LaidW w) (hx : LaidX w) (hp : IsTo (Lt w) w p (.slice pa n pc)) (h : IsA w.heap.size w L (.slice va vn vc)) :
    Calls Tryz.prog 26 #[.agg #[.int .i64 k, .string T, .string X, .slice pa n pc, .slice ka kn kc], .agg #[.string d, .slice va vn vc]] w fun e w' => e = .returned (.int .i64 (leafE L k T.data.toList X.data.toList p : Nat)) ∧ Below w.heap.size w w' := by
  obtain ⟨W0, hW0⟩ : ∃ W, W = w.alloc (.cells #[.int .i64 k, .string T, .string X, .slice pa n pc, .slice ka kn kc] 31) := ⟨_, rfl⟩
  obtain ⟨W1, hW1⟩ : ∃ W, W = W0.alloc (.cells #[.string d, .slice va vn vc] 26) := ⟨_, rfl⟩
  have hb0 : Below w.heap.size w W0 := by rw [hW0]; exact box5 w _ _ _ _ _
  have hb01 : Below W0.heap.size W0 W1 := by rw [hW1]; exact (Below.refl _ _).alloc (Nat.le_refl _) _
  have hb1 : Below w.heap.size w W1 := bthen hb0 hb01
  have hf0 : FlAt W0 w.heap.size (.int .i64 k) (.string T) (.string X) (.slice pa n pc) (.slice ka kn kc) := by rw [hW0]; exact heap_alloc_new w _
  have hf : FlAt W1 w.heap.size (.int .i64 k) (.string T) (.string X) (.slice pa n pc) (.slice ka kn kc) := fl_below hf0 hb01 (fl_lt hf0)
  obtain ⟨eb, heb⟩ : ∃ b, b = w.heap.size + 1 := ⟨_, rfl⟩
  have hsz : W0.heap.size = eb := by rw [heb, hW0]; simp only [World.alloc, Array.size_push]
  have he : W1.heap[eb]? = some (.cells #[.string d, .slice va vn vc] 26 (0, 0)) := by rw [← hsz, hW1]; exact heap_alloc_new W0 _
  have hebl : eb < W1.heap.size := (Array.getElem?_eq_some_iff.1 he).1
  have hE : ∀ W, Below W1.heap.size W1 W → FlAt W w.heap.size (.int .i64 k) (.string T) (.string X) (.slice pa n pc) (.slice ka kn kc) ∧ W.cell? ⟨eb, 0, none⟩ = some (.string d) ∧ W.cell? ⟨eb, 1, none⟩ = some (.slice va vn vc) := fun W hW => by
    have := (Below.block hW eb hebl).trans he
    exact ⟨fl_below hf hW (fl_lt hf), by simp [World.cell?, this], by simp [World.cell?, this]⟩
  have HE := Lib.hid hE
  have HW0 := Lib.hid hW0.symm
  have HW1 := Lib.hid hW1.symm
  have HEb := Lib.hid heb.symm
  have HB1 := Lib.hid hb1
  have HM := Lib.hid (mayAsk_any k T X (.slice pa n pc) (.slice ka kn kc) (by omega) ⟨_, _, _, rfl⟩ ⟨_, _, _, rfl⟩ W1 (hw.below hb1))
  have HF := Lib.hid (fun (W : World) (hW : Below W1.heap.size W1 W) => fits_any k T X d p L pa ka va n pc kn kc vn vc hX hn hp5 hp3 hpl hs W (hw.below (bthen hb1 hW)) (hx.below (bthen hb1 hW)) (hp.imp (fun b h => Nat.lt_of_lt_of_le h (bthen hb1 hW).size) (fun b o h => (bthen hb1 hW).cell (p := ⟨b, o, none⟩) h)) (h.below (bthen hb1 hW) (bthen hb1 hW).size))
  obtain ⟨R, hR⟩ : ∃ R, R = leafE L k T.data.toList X.data.toList p := ⟨_, rfl⟩
  rw [← hR]
  unfold leafE at hR
  obtain ⟨a, ha⟩ : ∃ a, a = askE k T.data.toList X.data.toList := ⟨_, rfl⟩
  obtain ⟨f, hff⟩ : ∃ a, a = fitE L k T.data.toList X.data.toList p := ⟨_, rfl⟩
  rw [← ha] at HM
  rw [← hff] at HF
  rw [← ha, ← hff] at hR
  obtain ⟨hf1, e0, e1⟩ := hE W1 (Below.refl _ _)
  obtain ⟨d0, d1, d2, d3, d4⟩ := fl_cells hf1
  have HR := Lib.hid hR
  clear hW0 hW1 hb0 hb01 hb1 hf0 hf heb hsz he hebl hE hR hs hw hx hp h hpl hp3 hX hp5 hf1 ha hff hn
  cases a with
  | false =>
    go_enter Tryz.func26, Tryz.ntmps26
    go_upto_region 1 with (fail)
    rw [HW0.out, HW1.out, HEb.out]
    go_wp2_with (go_at_call 33; refine (HM.out).mono ?_; rintro e w2 ⟨rfl, hb2⟩; have HB2 := Lib.hid (bthen HB1.out hb2); clear hb2)
    go_ret
    exact ⟨by rw [HR.out]; rfl, HB2.out⟩
  | true =>
    cases f with
    | false =>
      go_enter Tryz.func26, Tryz.ntmps26
      go_upto_region 1 with (fail)
      rw [HW0.out, HW1.out, HEb.out]
      go_wp2_with (first
        | (go_at_call 33; refine (HM.out).mono ?_; rintro e w2 ⟨rfl, hb2⟩; have HX2 := Lib.hid hb2; have HB2 := Lib.hid (bthen HB1.out hb2); (obtain ⟨hf2, g0, g1⟩ := HE.out _ hb2); (obtain ⟨q0, q1, q2, q3, q4⟩ := fl_cells hf2); clear hb2 hf2)
        | (go_at_call 34; refine (HF.out _ HX2.out).mono ?_; rintro e w3 ⟨rfl, hb3⟩; have HB3 := Lib.hid (bthen HB2.out hb3); clear hb3))
      go_ret
      exact ⟨by rw [HR.out]; rfl, HB3.out⟩
    | true =>
      go_enter Tryz.func26, Tryz.ntmps26
      go_upto_region 1 with (fail)
      rw [HW0.out, HW1.out, HEb.out]
      go_wp2_with (first
        | (go_at_call 33; refine (HM.out).mono ?_; rintro e w2 ⟨rfl, hb2⟩; have HX2 := Lib.hid hb2; have HB2 := Lib.hid (bthen HB1.out hb2); (obtain ⟨hf2, g0, g1⟩ := HE.out _ hb2); (obtain ⟨q0, q1, q2, q3, q4⟩ := fl_cells hf2); clear hb2 hf2)
        | (go_at_call 34; refine (HF.out _ HX2.out).mono ?_; rintro e w3 ⟨rfl, hb3⟩; have HB3 := Lib.hid (bthen HB2.out hb3); clear hb3))
      go_ret
      exact ⟨by rw [HR.out]; rfl, HB3.out⟩
end Go.Proofs.YtmilgbkkibahlaaGreatDoor


namespace Go.Proofs.YtmilgbkkibahlaaGreatDoor
open Go.RowKit
set_option linter.unusedVariables false
set_option linter.unusedSimpArgs false

def sgA : Nat → List UInt8
  | 0 => [61]
  | 1 => [62, 61]
  | _ => [60, 61]
def kdA : Nat → Int
  | 0 => 4
  | 1 => 6
  | _ => 7
end Go.Proofs.YtmilgbkkibahlaaGreatDoor


namespace Go.Proofs.YtmilgbkkibahlaaGreatDoor
open Go.RowKit
set_option linter.unusedVariables false
set_option linter.unusedSimpArgs false

theorem mkFl {ok : Nat → Prop} {w : World} {k : Int} {t x : List UInt8} {p : List (List UInt8)} {u : Value} (hk : 4 ≤ k ∧ k ≤ 8) (ht : t.length ≤ maxLen) (hx : x.length ≤ maxLen) (hu : IsTo ok w p u) :
    IsFl ok w (.mk k t x p []) (.agg #[.int .i64 k, strV t, strV x, u, .slice none 0 0]) := by
  have hw : (Lit.int .i64 k).wf = true := by
    have := hk.1
    have := hk.2
    have h5 : k = 4 ∨ k = 5 ∨ k = 6 ∨ k = 7 ∨ k = 8 := by omega
    rcases h5 with rfl | rfl | rfl | rfl | rfl <;> rfl
  exact ⟨u, none, 0, rfl, hw, ht, hx, hu, by simp, trivial⟩
def FlV (B : Nat) (w : World) (o : Option FT) (x : Value) (b : Bool) : Prop := match o with
  | none => x = .agg #[.int .i64 0, .string ⟨#[]⟩, .string ⟨#[]⟩, .slice none 0 0, .slice none 0 0] ∧ b = false
  | some f => IsFl (fun k => B ≤ k ∧ k < w.heap.size) w f x ∧ b = true
end Go.Proofs.YtmilgbkkibahlaaGreatDoor


namespace Go.Proofs.YtmilgbkkibahlaaGreatDoor
open Go.RowKit
set_option linter.unusedVariables false
set_option linter.unusedSimpArgs false

set_option maxRecDepth 100000 in
theorem loadFl_any (b o : Nat) (x : Int) (w : World) (h : w.cell? ⟨b, o, none⟩ = some (.int .i64 x)) : Calls Tryz.prog 32 #[.pointer (some ⟨b, o, none⟩)] w fun e w' => e = .returned (.int .i64 x) ∧ w' = w := by
  have hl := run_call_load (P := Tryz.prog) Tryz.func39 (by kernel_rfl) (by kernel_rfl) (by kernel_rfl) .i64 (by kernel_rfl) (a := ⟨b, o, none⟩) (x := x) (w := w) h
  go_enter Tryz.func32, Tryz.ntmps32
  go_wp2
  go_ret
  exact ⟨rfl, rfl⟩
set_option maxRecDepth 100000 in
theorem addFl_any (b o : Nat) (x : Int) (hx : 0 ≤ x) (hx2 : x ≤ 1000000000) (w : World) (h : w.cell? ⟨b, o, none⟩ = some (.int .i64 x)) (hz : w.frozen? ⟨b, o, none⟩ = false) : Calls Tryz.prog 31 #[.pointer (some ⟨b, o, none⟩), .int .i64 1] w fun e w' => e = .returned (.int .i64 (x + 1)) ∧ w' = w.setCell ⟨b, o, none⟩ (.int .i64 (x + 1)) := by
  have hl := run_call_add (P := Tryz.prog) Tryz.func38 (by kernel_rfl) (by kernel_rfl) (by kernel_rfl) .i64 (by kernel_rfl) (a := ⟨b, o, none⟩) (x := x) (y := 1) (s := x + 1) (w := w) h hz (by
    show Sem.run _ (pure (Value.int .i64 (IntKind.i64.wrap (x + 1)))) w = _
    rw [IntKind.wrap_i64, show (x + 1 + 9223372036854775808) % 18446744073709551616 - 9223372036854775808 = x + 1 from by omega]
    rfl)
  go_enter Tryz.func31, Tryz.ntmps31
  go_wp2
  go_ret
  exact ⟨rfl, rfl⟩

def HdV (B : Nat) (w : World) (o : Option (FT × List UInt8)) (x : Value) (r : ByteArray) (b : Bool) : Prop := match o with
  | none => x = .agg #[.int .i64 0, .string ⟨#[]⟩, .string ⟨#[]⟩, .slice none 0 0, .slice none 0 0] ∧ b = false
  | some (f, q) => IsFl (fun k => B ≤ k ∧ k < w.heap.size) w f x ∧ r.data.toList = q ∧ b = true
abbrev zF : Obj := .cells #[.int .i64 0, .string ⟨#[]⟩, .string ⟨#[]⟩, .slice none 0 0, .slice none 0 0] 31
end Go.Proofs.YtmilgbkkibahlaaGreatDoor


namespace Go.Proofs.YtmilgbkkibahlaaGreatDoor
open Go.RowKit
set_option linter.unusedVariables false
set_option linter.unusedSimpArgs false

set_option maxRecDepth 100000 in
theorem notEv_any (r : Nat) (hr : r ≤ 2) (w : World) : Calls Tryz.prog 25 #[.int .i64 r] w fun e w' => e = .returned (.int .i64 (flipE r : Nat)) ∧ w = w' := by
  obtain rfl | rfl | rfl : r = 0 ∨ r = 1 ∨ r = 2 := by omega
  all_goals
    go_enter Tryz.func25, Tryz.ntmps25
    go_wp2
    go_ret
    exact ⟨rfl, rfl⟩
abbrev TaAt (W : World) (b c0 c1 c2 : Nat) : Prop := W.heap[b]? = some (.cells #[.int .i64 c0, .int .i64 c1, .int .i64 c2] 62 (0, 0))
theorem ta_lt {W : World} {b c0 c1 c2 : Nat} (h : TaAt W b c0 c1 c2) : b < W.heap.size := (Array.getElem?_eq_some_iff.1 h).1
theorem ta_below {W W' : World} {b c0 c1 c2 m : Nat} (h : TaAt W b c0 c1 c2) (hb : Below m W W') (hn : b < m) : TaAt W' b c0 c1 c2 := (hb.block b hn).trans h
theorem ta_cells {W : World} {b c0 c1 c2 : Nat} (h : TaAt W b c0 c1 c2) : W.cell? ⟨b, 0, none⟩ = some (.int .i64 c0) ∧ W.cell? ⟨b, 1, none⟩ = some (.int .i64 c1) ∧ W.cell? ⟨b, 2, none⟩ = some (.int .i64 c2) ∧ W.frozen? ⟨b, 0, none⟩ = false ∧ W.frozen? ⟨b, 1, none⟩ = false ∧ W.frozen? ⟨b, 2, none⟩ = false := by
  have h' : W.heap[b]? = some (.cells #[.int .i64 c0, .int .i64 c1, .int .i64 c2] 62 (0, 0)) := h
  refine ⟨?_, ?_, ?_, ?_, ?_, ?_⟩ <;> simp [World.cell?, World.frozen?, h']
theorem ta_add0 {W : World} {b c0 c1 c2 : Nat} (h : TaAt W b c0 c1 c2) : TaAt (W.setCell ⟨b, 0, none⟩ (.int .i64 ((c0 : Int) + 1))) b (c0 + 1) c1 c2 := by
  have h' : W.heap[b]? = some (.cells #[.int .i64 c0, .int .i64 c1, .int .i64 c2] 62 (0, 0)) := h
  show (W.setCell ⟨b, 0, none⟩ (.int .i64 ((c0 : Int) + 1))).heap[b]? = _
  simp [World.setCell, Array.getElem?_modify, h']
theorem ta_add1 {W : World} {b c0 c1 c2 : Nat} (h : TaAt W b c0 c1 c2) : TaAt (W.setCell ⟨b, 1, none⟩ (.int .i64 ((c1 : Int) + 1))) b c0 (c1 + 1) c2 := by
  have h' : W.heap[b]? = some (.cells #[.int .i64 c0, .int .i64 c1, .int .i64 c2] 62 (0, 0)) := h
  show (W.setCell ⟨b, 1, none⟩ (.int .i64 ((c1 : Int) + 1))).heap[b]? = _
  simp [World.setCell, Array.getElem?_modify, h']
theorem ta_add2 {W : World} {b c0 c1 c2 : Nat} (h : TaAt W b c0 c1 c2) : TaAt (W.setCell ⟨b, 2, none⟩ (.int .i64 ((c2 : Int) + 1))) b c0 c1 (c2 + 1) := by
  have h' : W.heap[b]? = some (.cells #[.int .i64 c0, .int .i64 c1, .int .i64 c2] 62 (0, 0)) := h
  show (W.setCell ⟨b, 2, none⟩ (.int .i64 ((c2 : Int) + 1))).heap[b]? = _
  simp [World.setCell, Array.getElem?_modify, h']
def cntE (c0 c1 c2 : Nat) : Nat → Nat
  | 0 => c0
  | 1 => c1
  | _ => c2
theorem ta_at {W : World} {b c0 c1 c2 : Nat} (h : TaAt W b c0 c1 c2) (x : Nat) (hx : x ≤ 2) : W.cell? ⟨b, x, none⟩ = some (.int .i64 (cntE c0 c1 c2 x : Nat)) := by
  obtain ⟨h0, h1, h2, _⟩ := ta_cells h
  obtain rfl | rfl | rfl : x = 0 ∨ x = 1 ∨ x = 2 := by omega
  · exact h0
  · exact h1
  · exact h2
set_option maxRecDepth 100000 in
set_option maxHeartbeats 4000000 in
theorem firstEv_any (b c0 c1 c2 x y o : Nat) (hx : x ≤ 2) (hy : y ≤ 2) (w : World) (h : TaAt w b c0 c1 c2) :
    Calls Tryz.prog 24 #[.pointer (some ⟨b, 0, none⟩), .int .i64 x, .int .i64 y, .int .i64 o] w fun e w' => e = .returned (.int .i64 ((if 0 < cntE c0 c1 c2 x then x else if 0 < cntE c0 c1 c2 y then y else o : Nat) : Int)) ∧ Below w.heap.size w w' := by
  obtain ⟨W1, hW1⟩ : ∃ W, W = w.alloc (.cells #[.int .i64 x, .int .i64 y] 3) := ⟨_, rfl⟩
  have hb1 : Below w.heap.size w W1 := by rw [hW1]; exact (Below.refl _ _).alloc (Nat.le_refl _) _
  have hr : W1.heap[w.heap.size]? = some (.cells #[.int .i64 x, .int .i64 y] 3 (0, 0)) := by rw [hW1]; exact heap_alloc_new w _
  have r0 : W1.cell? ⟨w.heap.size, 0, none⟩ = some (.int .i64 x) := by simp [World.cell?, hr]
  have r1 : W1.cell? ⟨w.heap.size, 1, none⟩ = some (.int .i64 y) := by simp [World.cell?, hr]
  have h1 := ta_below h hb1 (ta_lt h)
  obtain ⟨n, hn⟩ : ∃ n, n = cntE c0 c1 c2 x := ⟨_, rfl⟩
  obtain ⟨m, hm⟩ : ∃ n, n = cntE c0 c1 c2 y := ⟨_, rfl⟩
  have lx := loadFl_any b x (n : Int) W1 (by rw [hn]; exact ta_at h1 x hx)
  have ly := loadFl_any b y (m : Int) W1 (by rw [hm]; exact ta_at h1 y hy)
  rw [← hn, ← hm]
  obtain ⟨R, hR⟩ : ∃ R, R = (if 0 < n then x else if 0 < m then y else o) := ⟨_, rfl⟩
  rw [← hR]
  have HR := Lib.hid hR
  clear hR
  have HX := Lib.hid lx
  have HY := Lib.hid ly
  have HW1 := Lib.hid hW1.symm
  have HB1 := Lib.hid hb1
  have x0 : (0 : Int) ≤ (x : Int) := by omega
  have x3 : (x : Int) < 3 := by omega
  have y0 : (0 : Int) ≤ (y : Int) := by omega
  have y3 : (y : Int) < 3 := by omega
  clear hW1 hb1 hr h1 hn hm lx ly h
  go_enter Tryz.func24, Tryz.ntmps24
  go_upto_region 2 with (fail)
  rw [HW1.out]
  go_wp2
  go_loop [15] (fun i => ∃ j : Nat, j ≤ 2 ∧ i = .int .i64 j ∧ Hid (1 ≤ j → n = 0) ∧ Hid (2 ≤ j → m = 0)) (fun i => 2 - (intOf i).toNat)
  case atStart => exact ⟨0, by omega, rfl, Lib.hid (by omega), Lib.hid (by omega)⟩
  case round =>
    obtain ⟨j, hj, rfl, H1, H2⟩ := hrel
    obtain rfl | rfl | rfl : j = 0 ∨ j = 1 ∨ j = 2 := by omega
    · by_cases hn : 0 < n
      · have t1 : decide ((0 : Int) < (n : Int)) = true := by simp; omega
        have t1' : decide (0 < n) = true := by simpa using hn
        have HF : Hid (R = x) := Lib.hid (by rw [HR.out, if_pos hn])
        clear hn
        go_wp2_with (go_at_call 32; refine (HX.out).mono ?_; rintro e w2 ⟨rfl, hw⟩; subst hw)
        go_ret
        exact ⟨by rw [HF.out]; rfl, HB1.out⟩
      · have t1 : decide ((0 : Int) < (n : Int)) = false := by simp; omega
        have t1' : decide (0 < n) = false := by simpa using hn
        have HN := Lib.hid (show n = 0 from by omega)
        clear hn
        go_wp2_with (go_at_call 32; refine (HX.out).mono ?_; rintro e w2 ⟨rfl, hw⟩; subst hw)
        go_round
        case rel => exact ⟨1, by omega, by first | rfl | go_num, Lib.hid (fun _ => HN.out), Lib.hid (by omega)⟩
        case measure => simp [intOf]
    · by_cases hm : 0 < m
      · have t1 : decide ((0 : Int) < (m : Int)) = true := by simp; omega
        have t1' : decide (0 < m) = true := by simpa using hm
        have HF : Hid (R = y) := Lib.hid (by rw [HR.out, if_neg (by have := H1.out (by omega); omega), if_pos hm])
        clear hm
        go_wp2_with (go_at_call 32; refine (HY.out).mono ?_; rintro e w2 ⟨rfl, hw⟩; subst hw)
        go_ret
        exact ⟨by rw [HF.out]; rfl, HB1.out⟩
      · have t1 : decide ((0 : Int) < (m : Int)) = false := by simp; omega
        have t1' : decide (0 < m) = false := by simpa using hm
        have HM := Lib.hid (show m = 0 from by omega)
        clear hm
        go_wp2_with (go_at_call 32; refine (HY.out).mono ?_; rintro e w2 ⟨rfl, hw⟩; subst hw)
        go_round
        case rel => exact ⟨2, by omega, by first | rfl | go_num, Lib.hid (fun _ => H1.out (by omega)), Lib.hid (fun _ => HM.out)⟩
        case measure => simp [intOf]
    · have HF : Hid (R = o) := Lib.hid (by rw [HR.out, if_neg (by have := H1.out (by omega); omega), if_neg (by have := H2.out (by omega); omega)])
      go_wp2
      go_ret
      exact ⟨by rw [HF.out]; rfl, HB1.out⟩
end Go.Proofs.YtmilgbkkibahlaaGreatDoor


namespace Go.Proofs.YtmilgbkkibahlaaGreatDoor
open Go.RowKit
set_option linter.unusedVariables false
set_option linter.unusedSimpArgs false

def TruthIs (d : Nat) : Prop := ∀ (f : FT) (v : Value) (L : List AT) (D : ByteArray) (va : Option Addr) (vn vc : Nat) (w : World), mayF d f = true → IsFl (Lt w) w f v → smallA L → LaidW w → LaidX w → IsA w.heap.size w L (.slice va vn vc) →
  Calls Tryz.prog 19 #[v, .agg #[.string D, .slice va vn vc]] w fun e w' => e = .returned (.int .i64 (evF L f : Nat)) ∧ Below w.heap.size w w'
abbrev EnAt (W : World) (b : Nat) (D : ByteArray) (u : Value) : Prop := W.heap[b]? = some (.cells #[.string D, u] 26 (0, 0))
theorem en_lt {W : World} {b : Nat} {D : ByteArray} {u : Value} (h : EnAt W b D u) : b < W.heap.size := (Array.getElem?_eq_some_iff.1 h).1
theorem en_below {W W' : World} {b m : Nat} {D : ByteArray} {u : Value} (h : EnAt W b D u) (hb : Below m W W') (hn : b < m) : EnAt W' b D u := (hb.block b hn).trans h
theorem en_cells {W : World} {b : Nat} {D : ByteArray} {u : Value} (h : EnAt W b D u) : W.cell? ⟨b, 0, none⟩ = some (.string D) ∧ W.cell? ⟨b, 1, none⟩ = some u := by
  have h' : W.heap[b]? = some (.cells #[.string D, u] 26 (0, 0)) := h
  refine ⟨?_, ?_⟩ <;> simp [World.cell?, h']
structure TalAt (w wr : World) (D : ByteArray) (u : Value) (c0 c1 c2 : Nat) : Prop where
  en : EnAt wr w.heap.size D u
  ta : TaAt wr (w.heap.size + 1) c0 c1 c2
  bel : Below w.heap.size w wr
theorem TalAt.go {w wr wx : World} {D : ByteArray} {u : Value} {c0 c1 c2 : Nat} (h : TalAt w wr D u c0 c1 c2) (hb : Below wr.heap.size wr wx) : TalAt w wx D u c0 c1 c2 :=
  ⟨en_below h.en hb (en_lt h.en), ta_below h.ta hb (ta_lt h.ta), bthen h.bel hb⟩
theorem tal_new (w : World) (D : ByteArray) (u : Value) : TalAt w ((w.alloc (.cells #[.string D, u] 26)).alloc (.cells #[.int .i64 0, .int .i64 0, .int .i64 0] 62)) D u 0 0 0 := by
  have h1 : Below w.heap.size w (w.alloc (.cells #[.string D, u] 26)) := (Below.refl _ _).alloc (Nat.le_refl _) _
  have h2 : Below (w.alloc (.cells #[.string D, u] 26)).heap.size (w.alloc (.cells #[.string D, u] 26)) ((w.alloc (.cells #[.string D, u] 26)).alloc (.cells #[.int .i64 0, .int .i64 0, .int .i64 0] 62)) := (Below.refl _ _).alloc (Nat.le_refl _) _
  have hz : EnAt (w.alloc (.cells #[.string D, u] 26)) w.heap.size D u := heap_alloc_new w _
  have hs : (w.alloc (.cells #[.string D, u] 26)).heap.size = w.heap.size + 1 := by simp only [World.alloc, Array.size_push]
  have hn := heap_alloc_new (w.alloc (.cells #[.string D, u] 26)) (.cells #[.int .i64 0, .int .i64 0, .int .i64 0] 62)
  rw [hs] at hn
  exact ⟨en_below hz h2 (en_lt hz), hn, bthen h1 h2⟩
theorem tal_set {w wr : World} {D : ByteArray} {u : Value} {c0 c1 c2 : Nat} (h : TalAt w wr D u c0 c1 c2) (o : Nat) (x : Value) : EnAt (wr.setCell ⟨w.heap.size + 1, o, none⟩ x) w.heap.size D u ∧ Below w.heap.size w (wr.setCell ⟨w.heap.size + 1, o, none⟩ x) :=
  ⟨(blockFl_ne _ ⟨w.heap.size + 1, o, none⟩ _ (by show w.heap.size ≠ w.heap.size + 1; omega)).trans h.en, h.bel.setCell (p := ⟨w.heap.size + 1, o, none⟩) (by show w.heap.size ≤ w.heap.size + 1; omega) _⟩
def CntAt (l : List Nat) (c0 c1 c2 : Nat) : Prop := c0 = l.count 0 ∧ c1 = l.count 1 ∧ c2 = l.count 2
theorem cnt_len {l : List Nat} {c0 c1 c2 : Nat} (h : CntAt l c0 c1 c2) : c0 ≤ l.length ∧ c1 ≤ l.length ∧ c2 ≤ l.length := by
  obtain ⟨rfl, rfl, rfl⟩ := h
  exact ⟨List.count_le_length, List.count_le_length, List.count_le_length⟩
theorem cnt_first {l : List Nat} {c0 c1 c2 : Nat} (h : CntAt l c0 c1 c2) (x y o : Nat) (hx : x ≤ 2) (hy : y ≤ 2) : (if 0 < cntE c0 c1 c2 x then x else if 0 < cntE c0 c1 c2 y then y else o) = firstE x y o l := by
  have hc : ∀ z, z ≤ 2 → cntE c0 c1 c2 z = l.count z := fun z hz => by
    obtain ⟨h0, h1, h2⟩ := h
    obtain rfl | rfl | rfl : z = 0 ∨ z = 1 ∨ z = 2 := by omega
    · exact h0
    · exact h1
    · exact h2
  unfold firstE
  rw [hc x hx, hc y hy]
  simp only [List.count_pos_iff]

set_option maxRecDepth 100000 in
set_option maxHeartbeats 8000000 in
theorem tallied_any (d : Nat) (ih : TruthIs d) (l : List FT) (hl : l.all (mayF d) = true) (hln : l.length ≤ 1000) (L : List AT) (D : ByteArray) (ka va : Option Addr) (n kc vn vc : Nat) (hn : n = l.length) (hs : smallA L) (w : World) (hw : LaidW w) (hx : LaidX w)
    (hk : IsFls (Lt w) w l ka 0) (h : IsA w.heap.size w L (.slice va vn vc)) :
    Calls Tryz.prog 23 #[.slice ka n kc, .agg #[.string D, .slice va vn vc]] w fun e w' => ∃ c0 c1 c2, e = .returned (.pointer (some ⟨w.heap.size + 1, 0, none⟩)) ∧ TalAt w w' D (.slice va vn vc) c0 c1 c2 ∧ CntAt (evFs L l) c0 c1 c2 := by
  obtain ⟨W1, hW1⟩ : ∃ W, W = (w.alloc (.cells #[.string D, .slice va vn vc] 26)).alloc (.cells #[.int .i64 0, .int .i64 0, .int .i64 0] 62) := ⟨_, rfl⟩
  have HT1 : Hid (TalAt w W1 D (.slice va vn vc) 0 0 0) := Lib.hid (by rw [hW1]; exact tal_new w D _)
  have HW1 := Lib.hid hW1.symm
  obtain ⟨tb, htb⟩ : ∃ b, b = w.heap.size + 1 := ⟨_, rfl⟩
  have HTb := Lib.hid htb
  have HIh := Lib.hid (fun (j : Nat) (hj : j < l.length) (v : Value) (W : World) (hW : Below w.heap.size w W) (hv : IsFl (Lt W) W l[j] v) => ih l[j] v L D va vn vc W (List.all_eq_true.1 hl _ (List.getElem_mem hj)) hv hs (hw.below hW) (hx.below hW) (h.below hW hW.size))
  have HK := Lib.hid hk
  have HN := Lib.hid hn
  have HLn := Lib.hid hln
  have hn1 : n ≤ 1000 := by omega
  clear hW1 hl hs hw hx hk h hn hln ih
  go_enter Tryz.func23, Tryz.ntmps23
  go_upto_region 2 with (fail)
  rw [HW1.out, ← htb]
  clear htb
  go_wp2
  go_loopw [12] (fun i wr => ∃ j c0 c1 c2 : Nat, j ≤ n ∧ i = .int .i64 j ∧ Hid (TalAt w wr D (.slice va vn vc) c0 c1 c2) ∧ Hid (CntAt (evFs L (l.take j)) c0 c1 c2)) (fun i _ => n - (intOf i).toNat)
  case atStart => exact ⟨0, 0, 0, 0, by omega, rfl, HT1, Lib.hid ⟨rfl, rfl, rfl⟩⟩
  case round =>
    obtain ⟨j, c0, c1, c2, hj, rfl, HT, HC⟩ := hrel
    rename World => wo
    by_cases hlt : j < n
    · have ti1 : (j : Int) < (n : Int) := by omega
      have ti2 : decide (j < n) = true := by simpa using hlt
      have ti3 : decide ((j : Int) < (n : Int)) = true := by simp; omega
      have hjl : j < l.length := by rw [← HN.out]; exact hlt
      obtain ⟨b, off, v0, v1, v2, v3, v4, rfl, hb, k0, k1, k2, k3, k4, hf⟩ := HK.out.get l _ 0 j l[j] (List.getElem?_eq_getElem hjl)
      rw [Nat.zero_add] at k0 k1 k2 k3 k4
      have hbel := HT.out.bel
      have hcw : ∀ o, wo.cell? ⟨b, o, none⟩ = w.cell? ⟨b, o, none⟩ := fun o => hbel.cell (p := ⟨b, o, none⟩) hb
      rw [← hcw] at k0 k1 k2 k3 k4
      have hf2 : IsFl (Lt wo) wo l[j] (.agg #[v0, v1, v2, v3, v4]) := hf.imp (fun b h => Nat.lt_of_lt_of_le h hbel.size) (fun b o h => hbel.cell (p := ⟨b, o, none⟩) h)
      obtain ⟨k', T', X', pa', pn', pc', ka', kn', kc', e⟩ := hf2.shape
      simp only [Value.agg.injEq, Array.mk.injEq, List.cons.injEq, and_true] at e
      obtain ⟨rfl, rfl, rfl, rfl, rfl⟩ := e
      obtain ⟨W5, hW5⟩ : ∃ W, W = wo.alloc (.cells #[.int .i64 k', .string T', .string X', .slice pa' pn' pc', .slice ka' kn' kc'] 31) := ⟨_, rfl⟩
      have hb5 : Below wo.heap.size wo W5 := by rw [hW5]; exact box5 wo _ _ _ _ _
      have hT5 := HT.out.go hb5
      have hfl5 : FlAt W5 wo.heap.size (.int .i64 k') (.string T') (.string X') (.slice pa' pn' pc') (.slice ka' kn' kc') := by rw [hW5]; exact heap_alloc_new wo _
      have hca := HIh.out j hjl _ W5 (bthen hbel hb5) (hf2.below hb5)
      have hr := evF_lt L l[j]
      obtain ⟨r, hrr⟩ : ∃ r, r = evF L l[j] := ⟨_, rfl⟩
      rw [← hrr] at hca hr
      have htk : evFs L (l.take (j + 1)) = evFs L (l.take j) ++ [r] := by rw [evFs_map, evFs_map, List.take_succ_eq_append_getElem hjl, List.map_append, hrr]; rfl
      have hlen : (evFs L (l.take j)).length ≤ 1000 := by rw [evFs_map, List.length_map, List.length_take]; omega
      obtain ⟨l0, l1, l2⟩ := cnt_len HC.out
      have HCa := Lib.hid (show Calls Tryz.prog 19 #[.agg #[.int .i64 k', .string T', .string X', .slice pa' pn' pc', .slice ka' kn' kc'], .agg #[.string D, .slice va vn vc]] W5.drew fun e w' => e = .returned (.int .i64 (r : Int)) ∧ Below W5.heap.size W5 w' from by
        have := HIh.out j hjl _ W5.drew ((bthen hbel hb5).drew) (hf2.below (hb5.drew))
        rw [← hrr] at this
        exact this.mono (fun e w' h => ⟨h.1, ⟨h.2.1, h.2.2, h.2.3, h.2.4, h.2.5⟩⟩))
      have HTk := Lib.hid htk
      have HT5 := Lib.hid hT5
      have HF5 := Lib.hid hfl5
      have HW5 := Lib.hid hW5.symm
      obtain ⟨p0, p1, p2, p3, p4⟩ := fl_cells hfl5
      obtain ⟨e0, e1⟩ := en_cells hT5.en
      have m0 : c0 ≤ 1000 := by omega
      have m1 : c1 ≤ 1000 := by omega
      have m2 : c2 ≤ 1000 := by omega
      clear hrr htk hlen l0 l1 l2 hT5 hfl5 hf hf2 hb5 hca hbel hcw hjl
      go_upto_region 5 with (fail)
      rw [HW5.out]
      clear hW5
      obtain rfl | rfl | rfl : r = 0 ∨ r = 1 ∨ r = 2 := by omega
      · have HCb := HCa.out
        rw [show ((0 : Nat) : Int) = 0 from rfl] at HCb
        have HCc := Lib.hid HCb
        clear HCb
        go_region_law (first
          | (go_simp; go_at_call 19; refine (HCc.out).mono ?_; rintro e w4 ⟨rfl, hb4⟩; have hT4 := HT5.out.go hb4; have hta : TaAt w4 tb c0 c1 c2 := (by rw [HTb.out]; exact hT4.ta); (obtain ⟨t0, t1, t2, f0, f1, f2⟩ := ta_cells hta); (obtain ⟨p0', p1', p2', p3', p4'⟩ := fl_cells (fl_below HF5.out hb4 (fl_lt HF5.out))); (obtain ⟨e0', e1'⟩ := en_cells hT4.en); have HT4 := Lib.hid hT4; clear hT4 hta hb4)
          | (go_simp; go_at_call 31; refine (addFl_any tb 0 (c0 : Int) (by omega) (by omega) _ t0 f0).mono ?_; rintro e w6 ⟨rfl, hw6⟩; subst hw6))
        all_goals
          go_wp2
          go_roundw
          case rel =>
            refine ⟨j + 1, c0 + 1, c1, c2, by omega, by go_num, Lib.hid (by rw [HTb.out]; exact ⟨(tal_set HT4.out 0 _).1, ta_add0 HT4.out.ta, (tal_set HT4.out 0 _).2⟩), Lib.hid ?_⟩
            rw [HTk.out]
            obtain ⟨h0, h1, h2⟩ := HC.out
            exact ⟨by rw [List.count_append, ← h0]; rfl, by rw [List.count_append, ← h1]; rfl, by rw [List.count_append, ← h2]; rfl⟩
          case measure => simp [intOf]; omega
      · have HCb := HCa.out
        rw [show ((1 : Nat) : Int) = 1 from rfl] at HCb
        have HCc := Lib.hid HCb
        clear HCb
        go_region_law (first
          | (go_simp; go_at_call 19; refine (HCc.out).mono ?_; rintro e w4 ⟨rfl, hb4⟩; have hT4 := HT5.out.go hb4; have hta : TaAt w4 tb c0 c1 c2 := (by rw [HTb.out]; exact hT4.ta); (obtain ⟨t0, t1, t2, f0, f1, f2⟩ := ta_cells hta); (obtain ⟨p0', p1', p2', p3', p4'⟩ := fl_cells (fl_below HF5.out hb4 (fl_lt HF5.out))); (obtain ⟨e0', e1'⟩ := en_cells hT4.en); have HT4 := Lib.hid hT4; clear hT4 hta hb4)
          | (go_simp; go_at_call 31; refine (addFl_any tb 1 (c1 : Int) (by omega) (by omega) _ t1 f1).mono ?_; rintro e w6 ⟨rfl, hw6⟩; subst hw6))
        all_goals
          go_wp2
          go_roundw
          case rel =>
            refine ⟨j + 1, c0, c1 + 1, c2, by omega, by go_num, Lib.hid (by rw [HTb.out]; exact ⟨(tal_set HT4.out 1 _).1, ta_add1 HT4.out.ta, (tal_set HT4.out 1 _).2⟩), Lib.hid ?_⟩
            rw [HTk.out]
            obtain ⟨h0, h1, h2⟩ := HC.out
            exact ⟨by rw [List.count_append, ← h0]; rfl, by rw [List.count_append, ← h1]; rfl, by rw [List.count_append, ← h2]; rfl⟩
          case measure => simp [intOf]; omega
      · have HCb := HCa.out
        rw [show ((2 : Nat) : Int) = 2 from rfl] at HCb
        have HCc := Lib.hid HCb
        clear HCb
        go_region_law (first
          | (go_simp; go_at_call 19; refine (HCc.out).mono ?_; rintro e w4 ⟨rfl, hb4⟩; have hT4 := HT5.out.go hb4; have hta : TaAt w4 tb c0 c1 c2 := (by rw [HTb.out]; exact hT4.ta); (obtain ⟨t0, t1, t2, f0, f1, f2⟩ := ta_cells hta); (obtain ⟨p0', p1', p2', p3', p4'⟩ := fl_cells (fl_below HF5.out hb4 (fl_lt HF5.out))); (obtain ⟨e0', e1'⟩ := en_cells hT4.en); have HT4 := Lib.hid hT4; clear hT4 hta hb4)
          | (go_simp; go_at_call 31; refine (addFl_any tb 2 (c2 : Int) (by omega) (by omega) _ t2 f2).mono ?_; rintro e w6 ⟨rfl, hw6⟩; subst hw6))
        all_goals
          go_wp2
          go_roundw
          case rel =>
            refine ⟨j + 1, c0, c1, c2 + 1, by omega, by go_num, Lib.hid (by rw [HTb.out]; exact ⟨(tal_set HT4.out 2 _).1, ta_add2 HT4.out.ta, (tal_set HT4.out 2 _).2⟩), Lib.hid ?_⟩
            rw [HTk.out]
            obtain ⟨h0, h1, h2⟩ := HC.out
            exact ⟨by rw [List.count_append, ← h0]; rfl, by rw [List.count_append, ← h1]; rfl, by rw [List.count_append, ← h2]; rfl⟩
          case measure => simp [intOf]; omega
    · obtain rfl : j = n := by omega
      have t1 : decide ((j : Int) < (j : Int)) = false := by simp
      have t1' : decide (j < j) = false := by simp
      have HE : Hid (l.take j = l) := Lib.hid (List.take_of_length_le (by rw [← HN.out]; exact Nat.le_refl _))
      go_wp2
      go_ret
      exact ⟨c0, c1, c2, by rw [HTb.out]; rfl, HT.out, by have := HC.out; rwa [HE.out] at this⟩
end Go.Proofs.YtmilgbkkibahlaaGreatDoor


namespace Go.Proofs.YtmilgbkkibahlaaGreatDoor
open Go.RowKit
set_option linter.unusedVariables false

end Go.Proofs.YtmilgbkkibahlaaGreatDoor


namespace Go.Proofs.YtmilgbkkibahlaaGreatDoor
open Go.RowKit
set_option linter.unusedVariables false
set_option linter.unusedSimpArgs false

def simpleD (k : Int) (t x : List UInt8) (p : List (List UInt8)) : Bool :=
  okType t && decide (x.length ≤ 100) && (if k = 4 ∨ k = 6 ∨ k = 7 then p.isEmpty else if k = 8 then x.isEmpty && p.isEmpty else if k = 5 then x.isEmpty && okParts p else false)
end Go.Proofs.YtmilgbkkibahlaaGreatDoor


namespace Go.Proofs.YtmilgbkkibahlaaGreatDoor
open Go.RowKit
set_option linter.unusedVariables false
set_option linter.unusedSimpArgs false

theorem mayFl_hold {d : Nat} {k : Int} {t x : List UInt8} {p : List (List UInt8)} {l : List FT} (h : holdsC k = true) : mayF (d + 1) (.mk k t x p l) = (t.isEmpty && x.isEmpty && p.isEmpty && kidsC k l.length && l.all (mayF d)) := by
  show (if holdsC k then _ else okLeaf k t x p l.length) = _
  rw [if_pos h]
def KidsOk (d : Nat) (l : List FT) : Bool := l.all (mayF d)
def MaysR (d : Nat) : Prop := ∀ (f : FT) (v : Value) (w : World), IsFl (Lt w) w f v →
  Calls Tryz.prog 17 #[v, .int .i64 (d : Nat)] w fun e w' => e = .returned (.bool (mayF (d + 1) f)) ∧ Below w.heap.size w w'

end Go.Proofs.YtmilgbkkibahlaaGreatDoor


namespace Go.Proofs.YtmilgbkkibahlaaGreatDoor
open Go.RowKit
set_option linter.unusedVariables false
set_option linter.unusedSimpArgs false

theorem okLeaf_parts {k : Int} {t x : List UInt8} {p : List (List UInt8)} {m : Nat} (h : okLeaf k t x p m = true) : (k = 5 → 2 ≤ p.length) ∧ p.length ≤ 8 ∧ (∀ y ∈ p, y.length ≤ 100) ∧ x.length ≤ 100 := by
  unfold okLeaf at h
  simp only [Bool.and_eq_true] at h
  obtain ⟨_, h⟩ := h
  split at h
  · rename_i hk
    simp only [Bool.and_eq_true, decide_eq_true_eq, List.isEmpty_iff] at h
    obtain ⟨h1, rfl⟩ := h
    exact ⟨fun e => by omega, by simp, by simp, h1⟩
  · split at h
    · simp only [Bool.and_eq_true, List.isEmpty_iff] at h
      obtain ⟨rfl, h1⟩ := h
      obtain ⟨⟨h2, h3⟩, h4, _⟩ := (okParts_iff p).1 h1
      exact ⟨fun _ => h2, h3, fun y hy => by obtain ⟨i, hi, rfl⟩ := List.getElem_of_mem hy; exact (h4 i hi).1, by simp⟩
    · split at h
      · rename_i h5 _
        simp only [Bool.and_eq_true, List.isEmpty_iff] at h
        obtain ⟨rfl, rfl⟩ := h
        exact ⟨fun e => absurd e h5, by simp, by simp, by simp⟩
      · cases h
theorem mayEv_kids {d : Nat} {k : Int} {t x : List UInt8} {p : List (List UInt8)} {l : List FT} (h : mayF (d + 1) (.mk k t x p l) = true) (hk : holdsC k = true) : l.all (mayF d) = true ∧ l.length ≤ 40 ∧ (k = 3 → l.length = 1) := by
  rw [mayFl_hold hk] at h
  simp only [Bool.and_eq_true] at h
  obtain ⟨⟨_, hc⟩, ha⟩ := h
  refine ⟨ha, ?_, ?_⟩
  · unfold kidsC at hc
    split at hc <;> simp at hc <;> omega
  · intro h3
    unfold kidsC at hc
    rw [if_pos h3] at hc
    simpa using hc
theorem mayEv_leaf {d : Nat} {k : Int} {t x : List UInt8} {p : List (List UInt8)} {l : List FT} (h : mayF (d + 1) (.mk k t x p l) = true) (hk : ¬ holdsC k = true) : okLeaf k t x p l.length = true := by
  have h' : (if holdsC k then t.isEmpty && x.isEmpty && p.isEmpty && kidsC k l.length && l.all (mayF d) else okLeaf k t x p l.length) = true := h
  rwa [if_neg hk] at h'
set_option maxRecDepth 100000 in
set_option maxHeartbeats 8000000 in
theorem truth_all : ∀ d : Nat, TruthIs d := by
  intro d
  induction d with
  | zero => intro f v L D va vn vc w hm; cases f; cases hm
  | succ d ih =>
    intro f v L D va vn vc w hm h hs hw hx hA
    obtain ⟨k, t, x, p, l⟩ := f
    obtain ⟨pa, pc, ka, kc, rfl, hwf, ht, hxl, hp, hl, hkids⟩ := h.parts
    obtain ⟨T, hT, hTl⟩ := strV_text t
    obtain ⟨X, hX, hXl⟩ := strV_text x
    rw [hT, hX]
    obtain ⟨n, hn⟩ : ∃ n, n = l.length := ⟨_, rfl⟩
    obtain ⟨m, hmm⟩ : ∃ m, m = p.length := ⟨_, rfl⟩
    rw [← hn, ← hmm]
    obtain ⟨W0, hW0⟩ : ∃ W, W = w.alloc (.cells #[.int .i64 k, .string T, .string X, .slice pa m pc, .slice ka n kc] 31) := ⟨_, rfl⟩
    obtain ⟨W1, hW1⟩ : ∃ W, W = W0.alloc (.cells #[.string D, .slice va vn vc] 26) := ⟨_, rfl⟩
    have hb0 : Below w.heap.size w W0 := by rw [hW0]; exact box5 w _ _ _ _ _
    have hb01 : Below W0.heap.size W0 W1 := by rw [hW1]; exact (Below.refl _ _).alloc (Nat.le_refl _) _
    have hb1 : Below w.heap.size w W1 := bthen hb0 hb01
    have hf0 : FlAt W0 w.heap.size (.int .i64 k) (.string T) (.string X) (.slice pa m pc) (.slice ka n kc) := by rw [hW0]; exact heap_alloc_new w _
    have hf : FlAt W1 w.heap.size (.int .i64 k) (.string T) (.string X) (.slice pa m pc) (.slice ka n kc) := fl_below hf0 hb01 (fl_lt hf0)
    obtain ⟨eb, heb⟩ : ∃ b, b = w.heap.size + 1 := ⟨_, rfl⟩
    have hsz : W0.heap.size = eb := by rw [heb, hW0]; simp only [World.alloc, Array.size_push]
    have he : EnAt W1 eb D (.slice va vn vc) := by rw [← hsz, hW1]; exact heap_alloc_new W0 _
    have HW0 := Lib.hid hW0.symm
    have HW1 := Lib.hid hW1.symm
    have HEb := Lib.hid heb.symm
    have HB1 := Lib.hid hb1
    have hw1 := hw.below hb1
    have hx1 := hx.below hb1
    have hA1 : IsA W1.heap.size W1 L (.slice va vn vc) := hA.below hb1 hb1.size
    have hk1 : IsFls (Lt W1) W1 l ka 0 := hkids.below hb1
    have hp1 : IsTo (Lt W1) W1 p (.slice pa m pc) := by rw [hmm]; exact hp.imp (fun b h => Nat.lt_of_lt_of_le h hb1.size) (fun b o h => hb1.cell (p := ⟨b, o, none⟩) h)
    obtain ⟨d0, d1, d2, d3, d4⟩ := fl_cells hf
    obtain ⟨e0, e1⟩ := en_cells he
    obtain ⟨R, hR⟩ : ∃ R, R = evF L (.mk k t x p l) := ⟨_, rfl⟩
    rw [← hR]
    rw [evF] at hR
    by_cases k1 : k = 1
    · have t1 : ((k : Int) == 1) = true := by simp [k1]
      obtain ⟨ha, h40, _⟩ := mayEv_kids hm (by rw [k1]; rfl)
      have hta := tallied_any d ih l ha (by omega) L D ka va n kc vn vc hn hs W1 hw1 hx1 hk1 hA1
      have HR2 : Hid (R = firstE 0 2 1 (evFs L l)) := Lib.hid (by rw [hR, if_pos k1])
      have hfi : ∀ (W : World) (b c0 c1 c2 : Nat), TaAt W b c0 c1 c2 → CntAt (evFs L l) c0 c1 c2 → Calls Tryz.prog 24 #[.pointer (some ⟨b, 0, none⟩), .int .i64 0, .int .i64 2, .int .i64 1] W fun e w' => e = .returned (.int .i64 (R : Nat)) ∧ Below W.heap.size W w' := fun W b c0 c1 c2 hTA hC => by
        have hh := firstEv_any b c0 c1 c2 0 2 1 (by omega) (by omega) W hTA
        rw [cnt_first hC 0 2 1 (by omega) (by omega), ← HR2.out] at hh
        exact hh
      have HTa := Lib.hid hta
      have HFi := Lib.hid hfi
      clear hW0 hW1 hb0 hb01 hb1 hf0 hf heb hsz he hR hs hw hx hp h hp1 hA hA1 hw1 hx1 hk1 hkids hm ha h40 hta hfi hT hX hTl hXl hn hmm ht hxl hl ih k1 hwf
      go_enter Tryz.func19, Tryz.ntmps19
      go_upto_region 1 with (fail)
      rw [HW0.out, HW1.out, HEb.out]
      go_wp2_with (first
        | (go_at_call 23; refine (HTa.out).mono ?_; rintro e w2 ⟨c0, c1, c2, rfl, hta, hcn⟩; have HTA := Lib.hid hta; have HCn := Lib.hid hcn; clear hta hcn)
        | (go_at_call 24; refine (HFi.out _ _ c0 c1 c2 HTA.out.ta HCn.out).mono ?_; rintro e w3 ⟨rfl, hb3⟩; have HB3 := Lib.hid (bthen (bthen HB1.out HTA.out.bel) hb3); clear hb3))
      go_ret
      exact ⟨rfl, HB3.out⟩
    · have t1 : ((k : Int) == 1) = false := by simp; omega
      by_cases k2 : k = 2
      · have t2 : ((k : Int) == 2) = true := by simp [k2]
        obtain ⟨ha, h40, _⟩ := mayEv_kids hm (by rw [k2]; rfl)
        have hta := tallied_any d ih l ha (by omega) L D ka va n kc vn vc hn hs W1 hw1 hx1 hk1 hA1
        have HR2 : Hid (R = firstE 1 2 0 (evFs L l)) := Lib.hid (by rw [hR, if_neg k1, if_pos k2])
        have hfi : ∀ (W : World) (b c0 c1 c2 : Nat), TaAt W b c0 c1 c2 → CntAt (evFs L l) c0 c1 c2 → Calls Tryz.prog 24 #[.pointer (some ⟨b, 0, none⟩), .int .i64 1, .int .i64 2, .int .i64 0] W fun e w' => e = .returned (.int .i64 (R : Nat)) ∧ Below W.heap.size W w' := fun W b c0 c1 c2 hTA hC => by
          have hh := firstEv_any b c0 c1 c2 1 2 0 (by omega) (by omega) W hTA
          rw [cnt_first hC 1 2 0 (by omega) (by omega), ← HR2.out] at hh
          exact hh
        have HTa := Lib.hid hta
        have HFi := Lib.hid hfi
        clear hW0 hW1 hb0 hb01 hb1 hf0 hf heb hsz he hR hs hw hx hp h hp1 hA hA1 hw1 hx1 hk1 hkids hm ha h40 hta hfi hT hX hTl hXl hn hmm ht hxl hl ih k1 k2 hwf
        go_enter Tryz.func19, Tryz.ntmps19
        go_upto_region 1 with (fail)
        rw [HW0.out, HW1.out, HEb.out]
        go_wp2_with (first
          | (go_at_call 23; refine (HTa.out).mono ?_; rintro e w2 ⟨c0, c1, c2, rfl, hta, hcn⟩; have HTA := Lib.hid hta; have HCn := Lib.hid hcn; clear hta hcn)
          | (go_at_call 24; refine (HFi.out _ _ c0 c1 c2 HTA.out.ta HCn.out).mono ?_; rintro e w3 ⟨rfl, hb3⟩; have HB3 := Lib.hid (bthen (bthen HB1.out HTA.out.bel) hb3); clear hb3))
        go_ret
        exact ⟨rfl, HB3.out⟩
      · have t2 : ((k : Int) == 2) = false := by simp; omega
        by_cases k3 : k = 3
        · have t3 : ((k : Int) == 3) = true := by simp [k3]
          obtain ⟨ha, _, hl1⟩ := mayEv_kids hm (by rw [k3]; rfl)
          obtain ⟨g, rfl⟩ : ∃ g, l = [g] := List.length_eq_one_iff.1 (hl1 k3)
          obtain rfl : n = 1 := by rw [hn]; rfl
          obtain ⟨b, off, v0, v1, v2, v3, v4, rfl, hb, q0, q1, q2, q3, q4, hg⟩ := hk1.get [g] _ 0 0 g rfl
          rw [show off + (0 + 0) * 5 = off from by omega] at q0 q1 q2 q3 q4
          obtain ⟨k', T', X', pa', pn', pc', ka', kn', kc', e⟩ := hg.shape
          simp only [Value.agg.injEq, Array.mk.injEq, List.cons.injEq, and_true] at e
          obtain ⟨rfl, rfl, rfl, rfl, rfl⟩ := e
          have hgm : mayF d g = true := by simpa using ha
          have hr := evF_lt L g
          obtain ⟨r, hrr⟩ : ∃ r, r = evF L g := ⟨_, rfl⟩
          have hcall : ∀ W, SamB W1 W → Calls Tryz.prog 19 #[.agg #[.int .i64 k', .string T', .string X', .slice pa' pn' pc', .slice ka' kn' kc'], .agg #[.string D, .slice va vn vc]] W fun e w' => e = .returned (.int .i64 (r : Int)) ∧ Below W.heap.size W w' := fun W hW => by
            rw [hrr]
            exact ih g _ L D va vn vc W hgm (hg.below hW) hs (hw1.below hW) (hx1.below hW) (hA1.below hW (Below.size hW))
          have hnot : ∀ W, SamB W1 W → Calls Tryz.prog 25 #[.int .i64 (r : Int)] W fun e w' => e = .returned (.int .i64 (flipE r : Nat)) ∧ Below W.heap.size W w' := fun W _ => (notEv_any r (by rw [hrr]; exact hr) W).mono (fun e w' h => ⟨h.1, by rw [← h.2]; exact Below.refl _ _⟩)
          have hE : ∀ W, SamB W1 W → W.cell? ⟨w.heap.size, 4, none⟩ = some (.slice (some ⟨b, off, none⟩) 1 kc) ∧ W.cell? ⟨eb, 0, none⟩ = some (.string D) ∧ W.cell? ⟨eb, 1, none⟩ = some (.slice va vn vc) ∧ W.cell? ⟨b, off, none⟩ = some (.int .i64 k') ∧ W.cell? ⟨b, off + 1, none⟩ = some (.string T') ∧ W.cell? ⟨b, off + 2, none⟩ = some (.string X') ∧ W.cell? ⟨b, off + 3, none⟩ = some (.slice pa' pn' pc') ∧ W.cell? ⟨b, off + 4, none⟩ = some (.slice ka' kn' kc') ∧ SamB W1 W := fun W hW => by
            have a4 := (fl_cells (fl_below hf hW (fl_lt hf))).2.2.2.2
            obtain ⟨z0, z1⟩ := en_cells (en_below he hW (en_lt he))
            exact ⟨a4, z0, z1, (Below.cell hW (p := ⟨b, off, none⟩) hb).trans q0, (Below.cell hW (p := ⟨b, off + 1, none⟩) hb).trans q1, (Below.cell hW (p := ⟨b, off + 2, none⟩) hb).trans q2, (Below.cell hW (p := ⟨b, off + 3, none⟩) hb).trans q3, (Below.cell hW (p := ⟨b, off + 4, none⟩) hb).trans q4, hW⟩
          have HE := Lib.hid hE
          have HCl := Lib.hid hcall
          have HNt := Lib.hid hnot
          have HR2 : Hid (R = flipE r) := Lib.hid (by rw [hR, if_neg k1, if_neg k2, if_pos k3, hrr]; rfl)
          have hst5 := hE W1 (Below.refl _ _)
          have hst6 := hE W1.drew (Below.drew (Below.refl _ _))
          clear hW0 hW1 hb0 hb01 hb1 hf0 hf heb hsz he hR hs hw hx hp h hp1 hA hA1 hw1 hx1 hk1 hkids hm ha hl1 hT hX hTl hXl hn hmm ht hxl hl ih k1 k2 k3 hwf hE hcall hnot hgm hr hrr hg hb
          go_enter Tryz.func19, Tryz.ntmps19
          go_upto_region 1 with (fail)
          rw [HW0.out, HW1.out, HEb.out]
          go_upto_region 7 with (fail)
          go_region_held3 (fun W => W.cell? ⟨w.heap.size, 4, none⟩ = some (.slice (some ⟨b, off, none⟩) 1 kc) ∧ W.cell? ⟨eb, 0, none⟩ = some (.string D) ∧ W.cell? ⟨eb, 1, none⟩ = some (.slice va vn vc) ∧ W.cell? ⟨b, off, none⟩ = some (.int .i64 k') ∧ W.cell? ⟨b, off + 1, none⟩ = some (.string T') ∧ W.cell? ⟨b, off + 2, none⟩ = some (.string X') ∧ W.cell? ⟨b, off + 3, none⟩ = some (.slice pa' pn' pc') ∧ W.cell? ⟨b, off + 4, none⟩ = some (.slice ka' kn' kc') ∧ SamB W1 W)
            (first | (with_reducible exact hst5) | (with_reducible exact hst6) | (go_split_ands; exact HE.out _ (SamB.go (by assumption) hbx)))
            (first
              | (go_at_call 19; go_split_ands; (with_reducible refine (HCl.out _ (by assumption)).mono ?_); rintro e wx ⟨rfl, hbx⟩)
              | (go_at_call 25; go_split_ands; (with_reducible refine (HNt.out _ (by assumption)).mono ?_); rintro e wy ⟨rfl, hbx⟩))
          all_goals
            go_split_ands
            have hT : SamB W1 wy := by assumption
            go_wp2
            go_ret
            exact ⟨by rw [HR2.out]; rfl, bthen HB1.out hT⟩
        · have t3 : ((k : Int) == 3) = false := by simp; omega
          have hnh : ¬ holdsC k = true := by unfold holdsC; simp [k1, k2, k3]
          obtain ⟨h5, h8, hpl, hx100⟩ := okLeaf_parts (mayEv_leaf hm hnh)
          have hlf := leafEv_any k T X D p L pa ka va m pc n kc vn vc (by rw [← bytes_len, hXl]; omega) hmm h5 (by omega) (fun y hy => by have := hpl y hy; omega) hs W1 hw1 hx1 hp1 hA1
          rw [hTl, hXl] at hlf
          have HLf := Lib.hid hlf
          have HR2 : Hid (leafE L k t x p = R) := Lib.hid (by rw [hR, if_neg k1, if_neg k2, if_neg k3])
          rw [HR2.out] at HLf
          clear hW0 hW1 hb0 hb01 hb1 hf0 hf heb hsz he hR hs hw hx hp h hp1 hA hA1 hw1 hx1 hk1 hkids hm hT hX hTl hXl hn hmm ht hxl hl ih k1 k2 k3 hwf h5 h8 hpl hx100 hlf hnh
          go_enter Tryz.func19, Tryz.ntmps19
          go_upto_region 1 with (fail)
          rw [HW0.out, HW1.out, HEb.out]
          go_wp2_with (go_at_call 26; refine (HLf.out).mono ?_; rintro e w2 ⟨rfl, hb2⟩; have HB2 := Lib.hid (bthen HB1.out hb2); clear hb2)
          go_ret
          exact ⟨rfl, HB2.out⟩
set_option maxRecDepth 100000 in
set_option maxHeartbeats 4000000 in
theorem evalP_any (f : FT) (v : Value) (L : List AT) (D : ByteArray) (va : Option Addr) (vn vc : Nat) (w : World) (h : IsFl (Lt w) w f v) (hs : smallA L) (hw : LaidW w) (hx : LaidX w) (hA : IsA w.heap.size w L (.slice va vn vc)) :
    Calls Tryz.prog 11 #[v, .agg #[.string D, .slice va vn vc]] w fun e w' => e = .returned (.int .i64 (evalD L f : Nat)) ∧ Below w.heap.size w w' := by
  obtain ⟨k, T, X, pa, m, pc, ka, n, kc, rfl⟩ := h.shape
  obtain ⟨W0, hW0⟩ : ∃ W, W = w.alloc (.cells #[.int .i64 k, .string T, .string X, .slice pa m pc, .slice ka n kc] 31) := ⟨_, rfl⟩
  obtain ⟨W1, hW1⟩ : ∃ W, W = W0.alloc (.cells #[.string D, .slice va vn vc] 26) := ⟨_, rfl⟩
  have hb0 : Below w.heap.size w W0 := by rw [hW0]; exact box5 w _ _ _ _ _
  have hb01 : Below W0.heap.size W0 W1 := by rw [hW1]; exact (Below.refl _ _).alloc (Nat.le_refl _) _
  have hb1 : Below w.heap.size w W1 := bthen hb0 hb01
  have hf0 : FlAt W0 w.heap.size (.int .i64 k) (.string T) (.string X) (.slice pa m pc) (.slice ka n kc) := by rw [hW0]; exact heap_alloc_new w _
  have hf : FlAt W1 w.heap.size (.int .i64 k) (.string T) (.string X) (.slice pa m pc) (.slice ka n kc) := fl_below hf0 hb01 (fl_lt hf0)
  obtain ⟨eb, heb⟩ : ∃ b, b = w.heap.size + 1 := ⟨_, rfl⟩
  have hsz : W0.heap.size = eb := by rw [heb, hW0]; simp only [World.alloc, Array.size_push]
  have he : EnAt W1 eb D (.slice va vn vc) := by rw [← hsz, hW1]; exact heap_alloc_new W0 _
  have HW0 := Lib.hid hW0.symm
  have HW1 := Lib.hid hW1.symm
  have HEb := Lib.hid heb.symm
  have HB1 := Lib.hid hb1
  have hfl1 : IsFl (Lt W1) W1 f (.agg #[.int .i64 k, .string T, .string X, .slice pa m pc, .slice ka n kc]) := h.below hb1
  have hmy := mayTop_any f _ W1 hfl1
  obtain ⟨q, hq⟩ : ∃ q, q = mayF 13 f := ⟨_, rfl⟩
  rw [← hq] at hmy
  have HMy := Lib.hid hmy
  have HTr := Lib.hid (fun (hm : mayF 13 f = true) (W : World) (hW : Below W1.heap.size W1 W) => truth_all 13 f _ L D va vn vc W hm (hfl1.below hW) hs (hw.below (bthen hb1 hW)) (hx.below (bthen hb1 hW)) (hA.below (bthen hb1 hW) (bthen hb1 hW).size))
  have HFl := Lib.hid hf
  have HEn := Lib.hid he
  obtain ⟨d0, d1, d2, d3, d4⟩ := fl_cells hf
  obtain ⟨R, hR⟩ : ∃ R, R = evalD L f := ⟨_, rfl⟩
  rw [← hR]
  unfold evalD at hR
  rw [← hq] at hR
  have HR := Lib.hid hR
  have HQ := Lib.hid hq
  clear hW0 hW1 hb0 hb01 hb1 hf0 hf heb hsz he hfl1 hmy hq hR h hs hw hx hA
  cases q with
  | false =>
    go_enter Tryz.func11, Tryz.ntmps11
    go_upto_region 1 with (fail)
    rw [HW0.out, HW1.out, HEb.out]
    go_wp2_with (go_at_call 18; refine (HMy.out).mono ?_; rintro e w2 ⟨rfl, hb2⟩; have HB2 := Lib.hid (bthen HB1.out hb2); clear hb2)
    go_ret
    exact ⟨by rw [HR.out]; rfl, HB2.out⟩
  | true =>
    have HR2 : Hid (evF L f = R) := Lib.hid (by rw [HR.out, if_pos rfl])
    go_enter Tryz.func11, Tryz.ntmps11
    go_upto_region 1 with (fail)
    rw [HW0.out, HW1.out, HEb.out]
    go_wp2_with (first
      | (go_at_call 18; refine (HMy.out).mono ?_; rintro e w2 ⟨rfl, hb2⟩; have HX2 := Lib.hid hb2; have HB2 := Lib.hid (bthen HB1.out hb2); (obtain ⟨g0, g1, g2, g3, g4⟩ := fl_cells (fl_below HFl.out hb2 (fl_lt HFl.out))); (obtain ⟨e0, e1⟩ := en_cells (en_below HEn.out hb2 (en_lt HEn.out))); clear hb2)
      | (go_at_call 19; refine (HTr.out HQ.out.symm _ HX2.out).mono ?_; rintro e w3 ⟨rfl, hb3⟩; have HB3 := Lib.hid (bthen HB2.out hb3); clear hb3))
    go_ret
    exact ⟨by rw [← HR2.out]; rfl, HB3.out⟩
end Go.Proofs.YtmilgbkkibahlaaGreatDoor


namespace Go.Proofs.YtmilgbkkibahlaaGreatDoor
set_option linter.unusedVariables false

end Go.Proofs.YtmilgbkkibahlaaGreatDoor


namespace Go.Proofs.YtmilgbkkibahlaaGreatDoor
open Go.RowKit
set_option linter.unusedVariables false

def valsS (L : List AT) (t : List UInt8) : List (List UInt8) := match L.find? (fun a => a.1 == t) with
  | some a => a.2
  | none => []
def hasS (L : List AT) (t : List UInt8) : Bool := decide (0 < (valsS L t).length)
def mostS (t : List UInt8) : Int := if t = [117, 105, 100, 110, 117, 109, 98, 101, 114] then 1 else 40
end Go.Proofs.YtmilgbkkibahlaaGreatDoor


namespace Go.Proofs.YtmilgbkkibahlaaGreatDoor
open Go.RowKit
set_option linter.unusedVariables false

structure CT where
  name : List UInt8
  sup : List UInt8
  st : Bool
  must : List UInt8
  may : List UInt8
def CT.mustL (c : CT) : List (List UInt8) := Lib.fields c.must
def CT.mayL (c : CT) : List (List UInt8) := Lib.fields c.may
def classL : List CT := [
  ⟨[116, 111, 112], [], false, [111, 98, 106, 101, 99, 116, 99, 108, 97, 115, 115], []⟩,
  ⟨[111, 114, 103, 97, 110, 105, 122, 97, 116, 105, 111, 110], [116, 111, 112], true, [111], [100, 101, 115, 99, 114, 105, 112, 116, 105, 111, 110]⟩,
  ⟨[111, 114, 103, 97, 110, 105, 122, 97, 116, 105, 111, 110, 97, 108, 117, 110, 105, 116], [116, 111, 112], true, [111, 117], [100, 101, 115, 99, 114, 105, 112, 116, 105, 111, 110]⟩,
  ⟨[112, 101, 114, 115, 111, 110], [116, 111, 112], true, [99, 110, 32, 115, 110], [100, 101, 115, 99, 114, 105, 112, 116, 105, 111, 110, 32, 117, 115, 101, 114, 112, 97, 115, 115, 119, 111, 114, 100]⟩,
  ⟨[105, 110, 101, 116, 111, 114, 103, 112, 101, 114, 115, 111, 110], [112, 101, 114, 115, 111, 110], true, [], [117, 105, 100, 32, 109, 97, 105, 108]⟩,
  ⟨[112, 111, 115, 105, 120], [116, 111, 112], false, [117, 105, 100, 32, 117, 105, 100, 110, 117, 109, 98, 101, 114], []⟩,
  ⟨[103, 114, 111, 117, 112, 111, 102, 110, 97, 109, 101, 115], [116, 111, 112], true, [99, 110, 32, 109, 101, 109, 98, 101, 114], [100, 101, 115, 99, 114, 105, 112, 116, 105, 111, 110]⟩]
def findC (n : List UInt8) : Option CT := classL.find? (fun c => c.name == n)
def chainC : Nat → List UInt8 → List CT
  | 0, _ => []
  | k + 1, n => match findC n with
    | none => []
    | some c => c :: chainC k c.sup
def objB : List UInt8 := [111, 98, 106, 101, 99, 116, 99, 108, 97, 115, 115]
def allC : List (List UInt8) → Option (List CT × Bool)
  | [] => some ([], false)
  | v :: l => match findC (fold v) with
    | none => none
    | some c => (allC l).map fun p => (chainC 3 (fold v) ++ p.1, c.st || p.2)
def allR (A : List CT) (b : Bool) (l : List (List UInt8)) : Option (List CT × Bool) := (allC l).map fun p => (A ++ p.1, b || p.2)
def mayC (A : List CT) : List (List UInt8) := A.flatMap fun c => c.mustL ++ c.mayL
def classedD (L : List AT) : Bool := match allC (valsS L objB) with
  | none => false
  | some (A, s) => s && (A.all (fun c => c.mustL.all (hasS L)) && L.all (fun a => (mayC A).contains a.1))

def normsS (r : Nat) : List (List UInt8) → Option (List (List UInt8))
  | [] => some []
  | v :: l => match normD r v with
    | none => none
    | some x => (normsS r l).map (x :: ·)
def valsC (t : List UInt8) (V : List (List UInt8)) : Int :=
  if V.length = 0 ∨ mostS t < (V.length : Int) then 19 else match normsS (ruleD t) V with
  | none => 21
  | some l => if l.Nodup then 0 else 20
def normsR (r : Nat) (A : List (List UInt8)) (l : List (List UInt8)) : Option (List (List UInt8)) := (normsS r l).map (A ++ ·)
def soundR : List AT → List AT → Except Int (List AT)
  | A, [] => .ok A
  | A, a :: l => match canonD a.1 with
    | none => .error 17
    | some t => if hasS A t then .error 20 else if valsC t a.2 = 0 then soundR (A ++ [(t, a.2)]) l else .error (valsC t a.2)
def namedD (L : List AT) (d : List UInt8) : Bool := match parseD d with
  | some (r :: _) => (valsS L ((canonD r.1).getD [])).any fun v => sameO (normD (ruleD ((canonD r.1).getD [])) v) (normD (ruleD ((canonD r.1).getD [])) r.2)
  | _ => false
def behindD (L : List AT) (d : List UInt8) : Int := if classedD L = false then 65 else if namedD L d = false then 64 else 0
def checkD (d : List UInt8) (L : List AT) : Int := match keyD d with
  | none => 34
  | some k => if k = [] then 34 else if 20 < L.length then 19 else match soundR [] L with
    | .error c => c
    | .ok A => behindD A d
end Go.Proofs.YtmilgbkkibahlaaGreatDoor


namespace Go.Proofs.YtmilgbkkibahlaaGreatDoor
open Go.RowKit
set_option linter.unusedVariables false

def SaysV (B : Nat) (w : World) (P : List PT) (L : List AT) : Prop := P.length = L.length ∧ ∀ j (h : j < L.length) (h' : j < P.length), P[j].1 = L[j].1 ∧ IsT B w L[j].2 P[j].2
def OwnV (B : Nat) (w : World) (v : Value) (L : List AT) : Prop := ∃ P, RowP B w v P ∧ SaysV B w P L
abbrev KT := CT × Value × Value
def cellsK : List KT → List Value
  | [] => []
  | r :: l => strV r.1.name :: strV r.1.sup :: .bool r.1.st :: r.2.1 :: r.2.2 :: cellsK l
abbrev Apart (B g : Nat) (w : World) (v : Value) (b : Nat) : Prop := B ≤ b ∧ b < w.heap.size ∧ some b ≠ v.ownBlock ∧ b ≠ g
def SaysK (B g : Nat) (w : World) (v : Value) (P : List KT) : Prop := ∀ j (h : j < P.length), IsTo (Apart B g w v) w P[j].1.mustL P[j].2.1 ∧ IsTo (Apart B g w v) w P[j].1.mayL P[j].2.2
def IsK (n0 : Nat) (w : World) (L : List CT) (v : Value) : Prop := ∃ a c, v = .slice a L.length c ∧ L.length ≤ maxLen ∧
  ∀ j, (h : j < L.length) → ∃ b off u1 u2, a = some ⟨b, off, none⟩ ∧ b < n0 ∧ w.cell? ⟨b, off + j * 5, none⟩ = some (strV L[j].name) ∧ w.cell? ⟨b, off + j * 5 + 1, none⟩ = some (strV L[j].sup) ∧ w.cell? ⟨b, off + j * 5 + 2, none⟩ = some (.bool L[j].st) ∧ w.cell? ⟨b, off + j * 5 + 3, none⟩ = some u1 ∧ w.cell? ⟨b, off + j * 5 + 4, none⟩ = some u2 ∧ IsT n0 w L[j].mustL u1 ∧ IsT n0 w L[j].mayL u2
theorem IsK.below {n0 n1 : Nat} {w w' : World} {L : List CT} {v : Value} (h : IsK n0 w L v) (hb : Below n0 w w') (hn : n0 ≤ n1) : IsK n1 w' L v := by
  obtain ⟨a, c, hv, hm, hc⟩ := h
  refine ⟨a, c, hv, hm, fun j hj => ?_⟩
  obtain ⟨b, off, u1, u2, ha, hlt, c0, c1, c2, c3, c4, ht, hu⟩ := hc j hj
  exact ⟨b, off, u1, u2, ha, Nat.lt_of_lt_of_le hlt hn, (hb.cell (p := ⟨b, _, none⟩) hlt).trans c0, (hb.cell (p := ⟨b, _, none⟩) hlt).trans c1, (hb.cell (p := ⟨b, _, none⟩) hlt).trans c2, (hb.cell (p := ⟨b, _, none⟩) hlt).trans c3, (hb.cell (p := ⟨b, _, none⟩) hlt).trans c4, ht.below hb hn, hu.below hb hn⟩
end Go.Proofs.YtmilgbkkibahlaaGreatDoor


namespace Go.Proofs.YtmilgbkkibahlaaGreatDoor
open Go.RowKit
set_option linter.unusedVariables false

def LaidF (w : World) : Prop := Lib.TabIs Tryz.prog w "strings.asciiSpace" .u8 Lib.asciiSpaceTab
def plainB (l : List UInt8) : Bool := l.all (fun b => decide (b.toNat < 128)) && decide (l.length < 1000)
abbrev New (B : Nat) (w : World) (b : Nat) : Prop := B ≤ b ∧ b < w.heap.size
def rowCells : Array Value := #[.string { data := #[116, 111, 112] }, .string { data := #[] }, .bool false, .string { data := #[111, 98, 106, 101, 99, 116, 99, 108, 97, 115, 115] }, .string { data := #[] }, .string { data := #[111, 114, 103, 97, 110, 105, 122, 97, 116, 105, 111, 110] }, .string { data := #[116, 111, 112] }, .bool true, .string { data := #[111] }, .string { data := #[100, 101, 115, 99, 114, 105, 112, 116, 105, 111, 110] }, .string { data := #[111, 114, 103, 97, 110, 105, 122, 97, 116, 105, 111, 110, 97, 108, 117, 110, 105, 116] }, .string { data := #[116, 111, 112] }, .bool true, .string { data := #[111, 117] }, .string { data := #[100, 101, 115, 99, 114, 105, 112, 116, 105, 111, 110] }, .string { data := #[112, 101, 114, 115, 111, 110] }, .string { data := #[116, 111, 112] }, .bool true, .string { data := #[99, 110, 32, 115, 110] }, .string { data := #[100, 101, 115, 99, 114, 105, 112, 116, 105, 111, 110, 32, 117, 115, 101, 114, 112, 97, 115, 115, 119, 111, 114, 100] }, .string { data := #[105, 110, 101, 116, 111, 114, 103, 112, 101, 114, 115, 111, 110] }, .string { data := #[112, 101, 114, 115, 111, 110] }, .bool true, .string { data := #[] }, .string { data := #[117, 105, 100, 32, 109, 97, 105, 108] }, .string { data := #[112, 111, 115, 105, 120] }, .string { data := #[116, 111, 112] }, .bool false, .string { data := #[117, 105, 100, 32, 117, 105, 100, 110, 117, 109, 98, 101, 114] }, .string { data := #[] }, .string { data := #[103, 114, 111, 117, 112, 111, 102, 110, 97, 109, 101, 115] }, .string { data := #[116, 111, 112] }, .bool true, .string { data := #[99, 110, 32, 109, 101, 109, 98, 101, 114] }, .string { data := #[100, 101, 115, 99, 114, 105, 112, 116, 105, 111, 110] }]
def rowsV : Value := .agg rowCells
def rowV (c : CT) : Value := .agg #[strV c.name, strV c.sup, .bool c.st, strV c.must, strV c.may]
def noC : Value := .agg #[.string ⟨#[]⟩, .string ⟨#[]⟩, .bool false, .slice none 0 0, .slice none 0 0]

abbrev set5 (w : World) (b : Nat) (x0 x1 x2 x3 x4 : Value) : World := ((((w.setCell ⟨b, 0, none⟩ x0).setCell ⟨b, 1, none⟩ x1).setCell ⟨b, 2, none⟩ x2).setCell ⟨b, 3, none⟩ x3).setCell ⟨b, 4, none⟩ x4
end Go.Proofs.YtmilgbkkibahlaaGreatDoor


namespace Go.Proofs.YtmilgbkkibahlaaGreatDoor
open Go.RowKit
set_option linter.unusedVariables false

end Go.Proofs.YtmilgbkkibahlaaGreatDoor


namespace Go.Proofs.YtmilgbkkibahlaaGreatDoor
open Go.RowKit
set_option linter.unusedVariables false

def FindW (w : World) (o : Option CT) (e : Ending) (w' : World) : Prop := Below w.heap.size w w' ∧ match o with
  | none => e = .returned (.tuple #[noC, .bool false])
  | some c => ∃ u1 u2, e = .returned (.tuple #[.agg #[strV c.name, strV c.sup, .bool c.st, u1, u2], .bool true]) ∧ IsTo (New w.heap.size w') w' c.mustL u1 ∧ IsTo (New w.heap.size w') w' c.mayL u2

end Go.Proofs.YtmilgbkkibahlaaGreatDoor


namespace Go.Proofs.YtmilgbkkibahlaaGreatDoor
open Go.RowKit
set_option linter.unusedVariables false

def restC : Option CT → List CT
  | none => []
  | some c => c :: chainC 3 c.sup
end Go.Proofs.YtmilgbkkibahlaaGreatDoor


namespace Go.Proofs.YtmilgbkkibahlaaGreatDoor
open Go.RowKit
set_option linter.unusedVariables false

def IsTT (n0 : Nat) (w : World) (U : List (List (List UInt8))) (v : Value) : Prop := ∃ a c, v = .slice a U.length c ∧ ∀ j, (h : j < U.length) → ∃ b off u, a = some ⟨b, off, none⟩ ∧ b < n0 ∧ w.cell? ⟨b, off + j, none⟩ = some u ∧ IsT n0 w U[j] u

end Go.Proofs.YtmilgbkkibahlaaGreatDoor


namespace Go.Proofs.YtmilgbkkibahlaaGreatDoor
open Go.RowKit
set_option linter.unusedVariables false

def Box1 (w : World) (b : Nat) (x : Value) : Prop := w.cell? ⟨b, 0, none⟩ = some x
theorem Box1.below {w w' : World} {b n : Nat} {x : Value} (h : Box1 w b x) (hb : Below n w w') (hn : b < n) : Box1 w' b x := (hb.cell (p := ⟨b, 0, none⟩) hn).trans h
end Go.Proofs.YtmilgbkkibahlaaGreatDoor


namespace Go.Proofs.YtmilgbkkibahlaaGreatDoor
open Go.RowKit
set_option linter.unusedVariables false

end Go.Proofs.YtmilgbkkibahlaaGreatDoor


namespace Go.Proofs.YtmilgbkkibahlaaGreatDoor
open Go.RowKit
set_option linter.unusedVariables false

def BoxA (w : World) (b : Nat) (x : ByteArray) (u : Value) : Prop := w.heap[b]? = some (.cells #[.string x, u] 42 (0, 0))
theorem BoxA.below {w w' : World} {b n : Nat} {x : ByteArray} {u : Value} (h : BoxA w b x u) (hb : Below n w w') (hn : b < n) : BoxA w' b x u := (hb.block b hn).trans h
theorem BoxA.cells {w : World} {b : Nat} {x : ByteArray} {u : Value} (h : BoxA w b x u) : w.cell? ⟨b, 0, none⟩ = some (.string x) ∧ w.cell? ⟨b, 1, none⟩ = some u := by
  unfold BoxA at h
  simp [World.cell?, h]
def SoundW (w : World) (o : Except Int (List AT)) (e : Ending) (w' : World) : Prop := Below w.heap.size w w' ∧ match o with
  | .error c => e = .returned (.tuple #[.slice none 0 0, .int .i64 c])
  | .ok A => ∃ u, e = .returned (.tuple #[u, .int .i64 0]) ∧ OwnV w.heap.size w' u A

end Go.Proofs.YtmilgbkkibahlaaGreatDoor


namespace Go.Proofs.YtmilgbkkibahlaaGreatDoor
open Go.RowKit
set_option linter.unusedVariables false

end Go.Proofs.YtmilgbkkibahlaaGreatDoor


namespace Go.Proofs.YtmilgbkkibahlaaGreatDoor
open Go.RowKit
set_option linter.unusedVariables false

def BoxN (w : World) (b : Nat) (x : ByteArray) (u : Value) : Prop := w.heap[b]? = some (.cells #[.string x, u] 26 (0, 0))
theorem BoxN.below {w w' : World} {b n : Nat} {x : ByteArray} {u : Value} (h : BoxN w b x u) (hb : Below n w w') (hn : b < n) : BoxN w' b x u := (hb.block b hn).trans h
theorem BoxN.cells {w : World} {b : Nat} {x : ByteArray} {u : Value} (h : BoxN w b x u) : w.cell? ⟨b, 0, none⟩ = some (.string x) ∧ w.cell? ⟨b, 1, none⟩ = some u := by
  unfold BoxN at h
  simp [World.cell?, h]
def soundS (A : List AT) : Prop := ∀ a ∈ A, a.2.length ≤ 40 ∧ ∀ v ∈ a.2, v.length ≤ 100
end Go.Proofs.YtmilgbkkibahlaaGreatDoor


namespace Go.Proofs.YtmilgbkkibahlaaGreatDoor
open Go.RowKit
set_option linter.unusedVariables false

def perL (n : List UInt8) : List AT := [([99, 110], [n]), ([111, 98, 106, 101, 99, 116, 99, 108, 97, 115, 115], [[112, 101, 114, 115, 111, 110]]), ([115, 110], [[115]])]
def perD (n : List UInt8) : List UInt8 := [99, 110, 61] ++ n ++ [44, 111, 61, 120]

structure PerAt (w : World) (g : Nat) (N : ByteArray) : Prop where
  b1 : w.heap[g - 3]? = some (.cells #[.string N] 9 (0, 0))
  b2 : w.heap[g - 2]? = some (.cells #[.string ⟨#[112, 101, 114, 115, 111, 110]⟩] 9 (0, 0))
  b3 : w.heap[g - 1]? = some (.cells #[.string ⟨#[115]⟩] 9 (0, 0))
  b4 : w.heap[g]? = some (.cells #[.string ⟨#[99, 110]⟩, .slice (some ⟨g - 3, 0, none⟩) 1 1, .string ⟨#[111, 98, 106, 101, 99, 116, 99, 108, 97, 115, 115]⟩, .slice (some ⟨g - 2, 0, none⟩) 1 1, .string ⟨#[115, 110]⟩, .slice (some ⟨g - 1, 0, none⟩) 1 1] 42 (0, 0))
  lt : g < w.heap.size
theorem PerAt.below {w w' : World} {g n : Nat} {N : ByteArray} (h : PerAt w g N) (hb : Below n w w') (hn : g < n) : PerAt w' g N :=
  ⟨(hb.block _ (by omega)).trans h.b1, (hb.block _ (by omega)).trans h.b2, (hb.block _ (by omega)).trans h.b3, (hb.block _ hn).trans h.b4, Nat.lt_of_lt_of_le h.lt hb.size⟩
theorem isT_block {w : World} {b n0 : Nat} {X : ByteArray} {e : TypeId} (h : w.heap[b]? = some (.cells #[.string X] e (0, 0))) (hn : b < n0) : IsT n0 w [X.data.toList] (.slice (some ⟨b, 0, none⟩) 1 1) :=
  ⟨_, _, rfl, by unfold maxLen; simp, fun j hj => by
    have : j = 0 := by simp at hj; omega
    subst this
    refine ⟨b, 0, rfl, hn, ?_⟩
    rw [show [X.data.toList][0] = X.data.toList from rfl, strV_whole]
    simp only [World.cell?, h]; rfl⟩
theorem PerAt.isA {w : World} {g : Nat} {N : ByteArray} (h : PerAt w g N) : IsA w.heap.size w (perL N.data.toList) (.slice (some ⟨g, 0, none⟩) 3 3) := by
  have hg := h.lt
  refine ⟨_, _, rfl, by unfold maxLen perL; simp, fun j hj => ?_⟩
  match j, hj with
  | 0, _ => exact ⟨g, 0, _, rfl, hg, by simp only [World.cell?, h.b4]; rfl, by simp only [World.cell?, h.b4]; rfl, isT_block h.b1 (by omega)⟩
  | 1, _ => exact ⟨g, 0, _, rfl, hg, by simp only [World.cell?, h.b4]; rfl, by simp only [World.cell?, h.b4]; rfl, isT_block h.b2 (by omega)⟩
  | 2, _ => exact ⟨g, 0, _, rfl, hg, by simp only [World.cell?, h.b4]; rfl, by simp only [World.cell?, h.b4]; rfl, isT_block h.b3 (by omega)⟩

theorem PerAt.cells {w : World} {g : Nat} {N : ByteArray} (h : PerAt w g N) : w.cell? ⟨g, 2, none⟩ = some (.string ⟨#[111, 98, 106, 101, 99, 116, 99, 108, 97, 115, 115]⟩) ∧ w.cell? ⟨g, 3, none⟩ = some (.slice (some ⟨g - 2, 0, none⟩) 1 1) ∧ w.cell? ⟨g, 4, none⟩ = some (.string ⟨#[115, 110]⟩) ∧ w.cell? ⟨g, 5, none⟩ = some (.slice (some ⟨g - 1, 0, none⟩) 1 1) :=
  ⟨by simp only [World.cell?, h.b4]; rfl, by simp only [World.cell?, h.b4]; rfl, by simp only [World.cell?, h.b4]; rfl, by simp only [World.cell?, h.b4]; rfl⟩
theorem per_blocks (w : World) (N : ByteArray) (o : Obj) : PerAt (((((w.alloc o).alloc (.cells #[.string N] 9)).alloc (.cells #[.string ⟨#[112, 101, 114, 115, 111, 110]⟩] 9)).alloc (.cells #[.string ⟨#[115]⟩] 9)).alloc (.cells #[.string ⟨#[99, 110]⟩, .slice (some ⟨w.heap.size + 1, 0, none⟩) 1 1, .string ⟨#[111, 98, 106, 101, 99, 116, 99, 108, 97, 115, 115]⟩, .slice (some ⟨w.heap.size + 1 + 1, 0, none⟩) 1 1, .string ⟨#[115, 110]⟩, .slice (some ⟨w.heap.size + 1 + 1 + 1, 0, none⟩) 1 1] 42)) (w.heap.size + 4) N := by
  have s1 : (w.alloc o).heap.size = w.heap.size + 1 := by simp
  have e1 := heap_alloc_new (w.alloc o) (.cells #[.string N] 9)
  rw [s1] at e1
  generalize w.alloc o = W1 at s1 e1 ⊢
  have s2 : (W1.alloc (.cells #[.string N] 9)).heap.size = w.heap.size + 2 := by simp; omega
  have e2 := heap_alloc_new (W1.alloc (.cells #[.string N] 9)) (.cells #[.string ⟨#[112, 101, 114, 115, 111, 110]⟩] 9)
  rw [s2] at e2
  generalize W1.alloc (.cells #[.string N] 9) = W2 at s2 e1 e2 ⊢
  have s3 : (W2.alloc (.cells #[.string ⟨#[112, 101, 114, 115, 111, 110]⟩] 9)).heap.size = w.heap.size + 3 := by simp; omega
  have f1 := (heap_alloc_old W2 (.cells #[.string ⟨#[112, 101, 114, 115, 111, 110]⟩] 9) (show w.heap.size + 1 < W2.heap.size by omega)).trans e1
  have e3 := heap_alloc_new (W2.alloc (.cells #[.string ⟨#[112, 101, 114, 115, 111, 110]⟩] 9)) (.cells #[.string ⟨#[115]⟩] 9)
  rw [s3] at e3
  generalize W2.alloc (.cells #[.string ⟨#[112, 101, 114, 115, 111, 110]⟩] 9) = W3 at s3 e2 e3 f1 ⊢
  have s4 : (W3.alloc (.cells #[.string ⟨#[115]⟩] 9)).heap.size = w.heap.size + 4 := by simp; omega
  have g1 := (heap_alloc_old W3 (.cells #[.string ⟨#[115]⟩] 9) (show w.heap.size + 1 < W3.heap.size by omega)).trans f1
  have g2 := (heap_alloc_old W3 (.cells #[.string ⟨#[115]⟩] 9) (show w.heap.size + 2 < W3.heap.size by omega)).trans e2
  generalize W3.alloc (.cells #[.string ⟨#[115]⟩] 9) = W4 at s4 e3 g1 g2 ⊢
  generalize hO : Obj.cells #[.string ⟨#[99, 110]⟩, .slice (some ⟨w.heap.size + 1, 0, none⟩) 1 1, .string ⟨#[111, 98, 106, 101, 99, 116, 99, 108, 97, 115, 115]⟩, .slice (some ⟨w.heap.size + 1 + 1, 0, none⟩) 1 1, .string ⟨#[115, 110]⟩, .slice (some ⟨w.heap.size + 1 + 1 + 1, 0, none⟩) 1 1] 42 = O
  have e4 := heap_alloc_new W4 O
  rw [s4] at e4
  have k1 := (heap_alloc_old W4 O (show w.heap.size + 1 < W4.heap.size by omega)).trans g1
  have k2 := (heap_alloc_old W4 O (show w.heap.size + 2 < W4.heap.size by omega)).trans g2
  have k3 := (heap_alloc_old W4 O (show w.heap.size + 3 < W4.heap.size by omega)).trans e3
  exact ⟨k1, k2, k3, by rw [e4, ← hO]; rfl, by simp; omega⟩

set_option maxRecDepth 100000 in
set_option maxHeartbeats 4000000 in
theorem person_any (N : ByteArray) (hN : N.size ≤ 1000) (w : World) : Calls Tryz.prog 15 #[.string N] w fun e w' => ∃ D g, e = .returned (.agg #[.string D, .slice (some ⟨g, 0, none⟩) 3 3]) ∧ D.data.toList = perD N.data.toList ∧ PerAt w' g N ∧ w.heap.size + 4 = g ∧ Below w.heap.size w w' := by
  obtain ⟨T, hT⟩ : ∃ T, (⟨#[99, 110, 61]⟩ : ByteArray) ++ N = T := ⟨_, rfl⟩
  obtain ⟨D, hD⟩ : ∃ D, T ++ (⟨#[44, 111, 61, 120]⟩ : ByteArray) = D := ⟨_, rfl⟩
  have hTs : T.size = 3 + N.size := by rw [← hT, ← bytes_len, app_list, List.length_append, bytes_len, bytes_len]; rfl
  have hDl : D.data.toList = perD N.data.toList := by rw [← hD, ← hT, app_list, app_list]; rfl
  have q1 : 3 + N.size ≤ 9223372036854775807 := by omega
  have q2 : T.size + 4 ≤ 9223372036854775807 := by omega
  have HDl := Lib.hid hDl
  have HP := Lib.hid (fun o => per_blocks w N o)
  have HB := Lib.hid (fun o => ((((((Below.refl w.heap.size w).alloc (Nat.le_refl _) o).alloc (by simp) (.cells #[.string N] 9)).alloc (by simp; omega) (.cells #[.string ⟨#[112, 101, 114, 115, 111, 110]⟩] 9)).alloc (by simp; omega) (.cells #[.string ⟨#[115]⟩] 9)).alloc (by simp; omega) (.cells #[.string ⟨#[99, 110]⟩, .slice (some ⟨w.heap.size + 1, 0, none⟩) 1 1, .string ⟨#[111, 98, 106, 101, 99, 116, 99, 108, 97, 115, 115]⟩, .slice (some ⟨w.heap.size + 1 + 1, 0, none⟩) 1 1, .string ⟨#[115, 110]⟩, .slice (some ⟨w.heap.size + 1 + 1 + 1, 0, none⟩) 1 1] 42)))
  clear hTs hDl
  go_enter Tryz.func15, Tryz.ntmps15
  go_wp2
  refine bodyPost_ret (v := .agg #[.string D, .slice (some ⟨w.heap.size + 4, 0, none⟩) 3 3]) (by simp [results, Tryz.results15, go_sem]) rfl ⟨D, w.heap.size + 4, rfl, HDl.out, ?_, rfl, ?_⟩
  · exact HP.out _
  · exact HB.out _

end Go.Proofs.YtmilgbkkibahlaaGreatDoor


namespace Go.Proofs.YtmilgbkkibahlaaGreatDoor
set_option linter.unusedVariables false
set_option linter.unusedSimpArgs false

def numOk (c : UInt8) : Bool := !(c == 45 || (decide (48 ≤ c.toNat) && decide (c.toNat ≤ 57))) || (lowC c == c && decide (c.toNat ≠ 32))
def ordL (m : Int) : List AT := [([117, 105, 100, 110, 117, 109, 98, 101, 114], [Lib.itoa m]), ([99, 110], [99 :: Lib.itoa m])]
abbrev uidN : List UInt8 := [117, 105, 100, 78, 117, 109, 98, 101, 114]
def bN (b : Bool) : Nat := if b then 1 else 0
theorem awE_1 : evalD [] (.mk 1 [] [] [] []) = 1 := by decide +kernel
theorem awE_2 : evalD (perL [97, 110, 110]) (.mk 4 [99, 110] [65, 78, 78] [] []) = 1 := by decide +kernel
end Go.Proofs.YtmilgbkkibahlaaGreatDoor


namespace Go.Proofs.YtmilgbkkibahlaaGreatDoor
open Go.RowKit
set_option linter.unusedVariables false
set_option linter.unusedSimpArgs false

theorem isFl_leafE (ok : Nat → Prop) (w : World) (k : Int) (T X : ByteArray) (hk : (Lit.int .i64 k).wf = true) (hT : T.size ≤ 1000000) (hX : X.size ≤ 1000000) : IsFl ok w (.mk k T.data.toList X.data.toList [] []) (.agg #[.int .i64 k, .string T, .string X, .slice none 0 0, .slice none 0 0]) := by
  have hs : ∀ A : ByteArray, Value.string A = strV A.data.toList := fun A => congrArg Value.string (bytes_ext (ofL_list _).symm)
  rw [hs T, hs X]
  exact ⟨.slice none 0 0, none, 0, rfl, hk, by rw [bytes_len]; unfold maxLen; omega, by rw [bytes_len]; unfold maxLen; omega, ⟨none, 0, rfl, Nat.zero_le _, fun j h => absurd h (Nat.not_lt_zero _)⟩, Nat.zero_le _, trivial⟩
theorem per_small : smallA (perL [97, 110, 110]) := by
  refine ⟨by decide, fun a ha => ?_⟩
  simp only [perL, List.mem_cons, List.not_mem_nil, or_false] at ha
  rcases ha with rfl | rfl | rfl <;> exact ⟨by decide, by decide, fun s hs => by simp only [List.mem_singleton] at hs; subst hs; decide⟩
set_option maxRecDepth 100000 in
set_option maxHeartbeats 4000000 in
theorem awake7_any (w : World) (hw : LaidW w) (hx : LaidX w) : Calls Tryz.prog 6 #[] w fun e w' => e = .returned (.bool true) ∧ Below w.heap.size w w' := by
  have h1 := evalP_any (.mk 1 [] [] [] []) (.agg #[.int .i64 1, .string ⟨#[]⟩, .string ⟨#[]⟩, .slice none 0 0, .slice none 0 0]) [] ⟨#[]⟩ none 0 0 w (isFl_leafE _ _ 1 ⟨#[]⟩ ⟨#[]⟩ (by decide) (by decide) (by decide)) ⟨by simp, by simp⟩ hw hx (isA_nil _ _ _ _)
  rw [awE_1, show ((1 : Nat) : Int) = 1 from rfl] at h1
  have h2 := fun (W : World) (D : ByteArray) (g : Nat) (hW : LaidW W) (hX : LaidX W) (hA : IsA W.heap.size W (perL [97, 110, 110]) (.slice (some ⟨g, 0, none⟩) 3 3)) => evalP_any (.mk 4 [99, 110] [65, 78, 78] [] []) (.agg #[.int .i64 4, .string ⟨#[99, 110]⟩, .string ⟨#[65, 78, 78]⟩, .slice none 0 0, .slice none 0 0]) (perL [97, 110, 110]) D (some ⟨g, 0, none⟩) 3 3 W (isFl_leafE _ _ 4 ⟨#[99, 110]⟩ ⟨#[65, 78, 78]⟩ (by decide) (by decide) (by decide)) per_small hW hX hA
  rw [awE_2, show ((1 : Nat) : Int) = 1 from rfl] at h2
  have H1 := Lib.hid h1
  have H2 := Lib.hid h2
  have HW := Lib.hid hw
  have HX := Lib.hid hx
  have HPe := Lib.hid (fun W => person_any ⟨#[97, 110, 110]⟩ (by decide) W)
  have tok1 : True := trivial
  clear h1 h2 hw hx
  go_enter Tryz.func6, Tryz.ntmps6
  go_wp2_with (first
    | (have _t := tok1; go_at_call 11; ((with_reducible refine (H1.out).mono ?_); rintro e w2 ⟨rfl, hb2⟩); have HB2 := Lib.hid hb2; clear hb2 _t; clear tok1)
    | (go_at_call 15; ((with_reducible refine (HPe.out _).mono ?_); rintro e w3 ⟨D, g, rfl, hD, hp, hg, hb3⟩; have HB3 := Lib.hid (bthen HB2.out hb3); have HP := Lib.hid hp.isA; clear hb3 hp hg hD))
    | (go_at_call 11; ((with_reducible refine (H2.out _ _ _ (HW.out.below HB3.out) (HX.out.below HB3.out) HP.out).mono ?_); rintro e w4 ⟨rfl, hb4⟩); have HB4 := Lib.hid (bthen HB3.out hb4); clear hb4))
  go_ret
  exact ⟨rfl, HB4.out⟩
end Go.Proofs.YtmilgbkkibahlaaGreatDoor


namespace Go.Proofs.YtmilgbkkibahlaaGreatDoor
open Go.RowKit
set_option linter.unusedVariables false
set_option linter.unusedSimpArgs false

set_option maxRecDepth 100000 in
set_option maxHeartbeats 4000000 in
theorem sub7_any (p : List (List UInt8)) (pa : Option Addr) (pn pc : Nat) (L : List AT) (hs : smallA L) (D : ByteArray) (va : Option Addr) (vn vc : Nat) (w : World) (hw : LaidW w) (hx : LaidX w) (hp : IsTo (Lt w) w p (.slice pa pn pc)) (hA : IsA w.heap.size w L (.slice va vn vc)) :
    Calls Tryz.prog 14 #[.agg #[.string D, .slice va vn vc], .slice pa pn pc] w fun e w' => e = .returned (.int .i64 (evalD L (.mk 5 [67, 78] [] p []) : Nat)) ∧ Below w.heap.size w w' := by
  have hb := (Below.refl w.heap.size w).alloc (Nat.le_refl _) (.cells #[.string D, .slice va vn vc] 26)
  have hp1 : IsTo (Lt (w.alloc (.cells #[.string D, .slice va vn vc] 26))) (w.alloc (.cells #[.string D, .slice va vn vc] 26)) p (.slice pa pn pc) := hp.imp (fun b h => Nat.lt_of_lt_of_le h hb.size) (fun b o h => hb.cell (p := ⟨b, o, none⟩) h)
  have hf : IsFl (Lt (w.alloc (.cells #[.string D, .slice va vn vc] 26))) (w.alloc (.cells #[.string D, .slice va vn vc] 26)) (.mk 5 [67, 78] [] p []) (.agg #[.int .i64 5, .string ⟨#[67, 78]⟩, .string ⟨#[]⟩, .slice pa pn pc, .slice none 0 0]) := mkFl (k := 5) (t := [67, 78]) (x := []) (by decide) (by show 2 ≤ maxLen; decide) (Nat.zero_le _) hp1
  have hev := evalP_any (.mk 5 [67, 78] [] p []) _ L D va vn vc _ hf hs (hw.below hb) (hx.below hb) (hA.below hb hb.size)
  have HEv := Lib.hid hev
  have HB := Lib.hid hb
  clear hb hp1 hf hev hp hA
  go_enter Tryz.func14, Tryz.ntmps14
  go_wp2_with (go_at_call 11; (with_reducible refine (HEv.out).mono ?_); rintro e w2 ⟨rfl, hb2⟩; have HB2 := Lib.hid (bthen HB.out hb2); clear hb2)
  go_ret
  exact ⟨rfl, HB2.out⟩
theorem ext_listP (T : ByteArray) : (T.extract 1 T.size).data.toList = T.data.toList.drop 1 := by
  have : (T.extract 1 T.size).data = T.data.extract 1 T.size := by simp
  rw [this, Array.toList_extract]
  show List.extract T.data.toList 1 T.data.size = _
  rw [List.extract_eq_take_drop, ← Array.length_toList]
  exact List.take_of_length_le (by simp)
theorem isTo_newP (W : World) (cs : List ByteArray) (hl : cs.length ≤ 8) : IsTo (Lt (W.alloc (.cells (cs.map Value.string).toArray 9))) (W.alloc (.cells (cs.map Value.string).toArray 9)) (cs.map fun s => s.data.toList) (.slice (some ⟨W.heap.size, 0, none⟩) cs.length cs.length) := by
  refine ⟨some ⟨W.heap.size, 0, none⟩, cs.length, by rw [List.length_map], by rw [List.length_map]; unfold maxLen; omega, fun j hj => ?_⟩
  rw [List.length_map] at hj
  refine ⟨W.heap.size, 0, rfl, by show W.heap.size < _; simp, ?_⟩
  have hc := heap_alloc_new W (.cells (cs.map Value.string).toArray 9)
  simp only [World.cell?, hc]
  rw [List.getElem_map, strV_whole]
  simp [hj]

set_option maxRecDepth 100000 in
set_option maxHeartbeats 8000000 in
theorem evalParts_any (A B C : ByteArray) (up : Bool) (hA : A.size ≤ maxLen) (hB : B.size ≤ maxLen) (hC : C.size ≤ maxLen) (w : World) (hw : LaidW w) (hx : LaidX w) :
    Calls Tryz.prog 5 #[.string A, .string B, .string C, .bool up] w fun e w' => e = .returned (.bool true) ∧ Below w.heap.size w w' := by
  unfold maxLen at hA hB hC
  have HAw := Lib.hid (fun (W : World) (hW : Below w.heap.size w W) => awake7_any W (hw.below hW) (hx.below hW))
  have HB0 := Lib.hid (Below.refl w.heap.size w)
  have HLd := Lib.hid (And.intro hw hx)
  clear hw hx
  by_cases g0 : 20 < A.size
  · have t0 : decide ((20 : Int) < (A.size : Int)) = true := by simp; omega
    go_enter Tryz.func5, Tryz.ntmps5
    go_wp2_with (go_at_call 6; (with_reducible refine (HAw.out _ HB0.out).mono ?_); rintro e w4 ⟨rfl, hb4⟩; have HB4 := Lib.hid hb4; clear hb4)
    go_ret
    exact ⟨rfl, HB4.out⟩
  · have t0 : decide ((20 : Int) < (A.size : Int)) = false := by simp; omega
    by_cases g1 : 20 < B.size
    · have t1 : decide ((20 : Int) < (B.size : Int)) = true := by simp; omega
      go_enter Tryz.func5, Tryz.ntmps5
      go_wp2_with (go_at_call 6; (with_reducible refine (HAw.out _ HB0.out).mono ?_); rintro e w4 ⟨rfl, hb4⟩; have HB4 := Lib.hid hb4; clear hb4)
      go_ret
      exact ⟨rfl, HB4.out⟩
    · have t1 : decide ((20 : Int) < (B.size : Int)) = false := by simp; omega
      by_cases g2 : 20 < C.size
      · have t2 : decide ((20 : Int) < (C.size : Int)) = true := by simp; omega
        go_enter Tryz.func5, Tryz.ntmps5
        go_wp2_with (go_at_call 6; (with_reducible refine (HAw.out _ HB0.out).mono ?_); rintro e w4 ⟨rfl, hb4⟩; have HB4 := Lib.hid hb4; clear hb4)
        go_ret
        exact ⟨rfl, HB4.out⟩
      · have t2 : decide ((20 : Int) < (C.size : Int)) = false := by simp; omega
        obtain ⟨FA, hFA⟩ : ∃ F, F = foldB A := ⟨_, rfl⟩
        have lA : FA.data.toList = fold A.data.toList := by rw [hFA]; rfl
        have sA : FA.size ≤ 20 := by rw [← bytes_len, lA]; have := fold_len A.data.toList; rw [bytes_len] at this; omega
        have hfA := fun (W : World) => foldRef_any A W (by omega)
        rw [← hFA] at hfA
        have HFA := Lib.hid hfA
        have HLA := Lib.hid lA
        have HZA : Hid (A.data.toList.length ≤ 20) := Lib.hid (by rw [bytes_len]; omega)
        have kA1 : (9223372036854775807 < 1 + FA.size) = False := eq_false (by omega)
        have kA2 : (9223372036854775807 < 1 + FA.size + 1) = False := eq_false (by omega)
        clear hfA hFA lA
        obtain ⟨FB, hFB⟩ : ∃ F, F = foldB B := ⟨_, rfl⟩
        have lB : FB.data.toList = fold B.data.toList := by rw [hFB]; rfl
        have sB : FB.size ≤ 20 := by rw [← bytes_len, lB]; have := fold_len B.data.toList; rw [bytes_len] at this; omega
        have hfB := fun (W : World) => foldRef_any B W (by omega)
        rw [← hFB] at hfB
        have HFB := Lib.hid hfB
        have HLB := Lib.hid lB
        have HZB : Hid (B.data.toList.length ≤ 20) := Lib.hid (by rw [bytes_len]; omega)
        have kB1 : (9223372036854775807 < 1 + FB.size) = False := eq_false (by omega)
        have kB2 : (9223372036854775807 < 1 + FB.size + 1) = False := eq_false (by omega)
        clear hfB hFB lB
        obtain ⟨FC, hFC⟩ : ∃ F, F = foldB C := ⟨_, rfl⟩
        have lC : FC.data.toList = fold C.data.toList := by rw [hFC]; rfl
        have sC : FC.size ≤ 20 := by rw [← bytes_len, lC]; have := fold_len C.data.toList; rw [bytes_len] at this; omega
        have hfC := fun (W : World) => foldRef_any C W (by omega)
        rw [← hFC] at hfC
        have HFC := Lib.hid hfC
        have HLC := Lib.hid lC
        have HZC : Hid (C.data.toList.length ≤ 20) := Lib.hid (by rw [bytes_len]; omega)
        have kC1 : (9223372036854775807 < 1 + FC.size) = False := eq_false (by omega)
        have kC2 : (9223372036854775807 < 1 + FC.size + 1) = False := eq_false (by omega)
        clear hfC hFC lC
        clear g0 g1 g2
        have zA : (⟨#[120]⟩ : ByteArray).size = 1 := rfl
        have zB : (⟨#[121]⟩ : ByteArray).size = 1 := rfl
        have zC : (⟨#[122]⟩ : ByteArray).size = 1 := rfl
        have yA : (⟨#[49]⟩ : ByteArray).size = 1 := rfl
        have yB : (⟨#[50]⟩ : ByteArray).size = 1 := rfl
        have yC : (⟨#[51]⟩ : ByteArray).size = 1 := rfl
        go_enter Tryz.func5, Tryz.ntmps5
        go_upto_region 4 with (first
          | (go_at_call 13; (with_reducible refine (HFA.out _).mono ?_); rintro e w1 ⟨rfl, hb1⟩; have HB1 := Lib.hid hb1; clear hb1)
          | (go_at_call 13; (with_reducible refine (HFB.out _).mono ?_); rintro e w2 ⟨rfl, hb2⟩; have HB2 := Lib.hid (bthen HB1.out hb2); clear hb2)
          | (go_at_call 13; (with_reducible refine (HFC.out _).mono ?_); rintro e w3 ⟨rfl, hb3⟩; have HB3 := Lib.hid (bthen HB2.out hb3); clear hb3))
        obtain ⟨X, hX⟩ : ∃ T : ByteArray, ⟨#[120]⟩ ++ FA ++ ⟨#[49]⟩ = T := ⟨_, rfl⟩
        have hlX : X.data.toList = pieceL 120 A.data.toList 49 := by rw [← hX, app_list, app_list, HLA.out]; simp [pieceL]
        have hsX : X.size = FA.size + 2 := by rw [← bytes_len, hlX, piece_len, ← HLA.out, bytes_len]
        rw [hX]
        have HLX := Lib.hid hlX
        obtain ⟨Y, hY⟩ : ∃ T : ByteArray, ⟨#[121]⟩ ++ FB ++ ⟨#[50]⟩ = T := ⟨_, rfl⟩
        have hlY : Y.data.toList = pieceL 121 B.data.toList 50 := by rw [← hY, app_list, app_list, HLB.out]; simp [pieceL]
        have hsY : Y.size = FB.size + 2 := by rw [← bytes_len, hlY, piece_len, ← HLB.out, bytes_len]
        rw [hY]
        have HLY := Lib.hid hlY
        obtain ⟨Z, hZ⟩ : ∃ T : ByteArray, ⟨#[122]⟩ ++ FC ++ ⟨#[51]⟩ = T := ⟨_, rfl⟩
        have hlZ : Z.data.toList = pieceL 122 C.data.toList 51 := by rw [← hZ, app_list, app_list, HLC.out]; simp [pieceL]
        have hsZ : Z.size = FC.size + 2 := by rw [← bytes_len, hlZ, piece_len, ← HLC.out, bytes_len]
        rw [hZ]
        have HLZ := Lib.hid hlZ
        have k1 : (9223372036854775807 < X.size + Y.size) = False := eq_false (by omega)
        have k2 : (9223372036854775807 < X.size + Y.size + Z.size) = False := eq_false (by omega)
        have hsA : X.size ≤ 22 := by omega
        have hsB : Y.size ≤ 22 := by omega
        have hsC : Z.size ≤ 22 := by omega
        have hX1 : 2 ≤ X.size := by omega
        have hZ1 : 2 ≤ Z.size := by omega
        clear hX hY hZ hlX hlY hlZ hsX hsY hsZ kA1 kA2 kB1 kB2 kC1 kC2 zA zB zC yA yB yC t0 t1 t2 sA sB sC
        go_upto_region 5 with (fail)
        obtain ⟨W5, hW5⟩ : ∃ W, W = (((w3.alloc (.cells #[.string ⟨#[111, 116, 104, 101, 114]⟩, .string (X ++ Y ++ Z)] 9)).alloc (.cells #[.string ⟨#[99, 110]⟩, .slice (some ⟨w3.heap.size, 0, none⟩) 2 2] 42)).alloc (.cells #[.string ⟨#[]⟩, .slice (some ⟨w3.heap.size + 1, 0, none⟩) 1 1] 26)) := ⟨_, rfl⟩
        obtain ⟨g0, hg0⟩ : ∃ g, g = w3.heap.size := ⟨_, rfl⟩
        obtain ⟨g1, hg1⟩ : ∃ g, g = g0 + 1 := ⟨_, rfl⟩
        obtain ⟨pe, hpe⟩ : ∃ g, g = g1 + 1 := ⟨_, rfl⟩
        have hb5 : Below w3.heap.size w3 W5 := by rw [hW5]; exact (((Below.refl _ _).alloc (Nat.le_refl _) _).alloc (by simp) _).alloc (by simp; omega) _
        have hs5 : W5.heap.size = g0 + 3 := by rw [hW5, hg0]; simp
        have c0 : W5.cell? ⟨g0, 0, none⟩ = some (.string ⟨#[111, 116, 104, 101, 114]⟩) := by rw [hW5, hg0]; go_simp
        have c1 : W5.cell? ⟨g0, 1, none⟩ = some (.string (X ++ Y ++ Z)) := by rw [hW5, hg0]; go_simp
        have c2 : W5.cell? ⟨g1, 0, none⟩ = some (.string ⟨#[99, 110]⟩) := by rw [hW5, hg1, hg0]; go_simp
        have c3 : W5.cell? ⟨g1, 1, none⟩ = some (.slice (some ⟨g0, 0, none⟩) 2 2) := by rw [hW5, hg1, hg0]; go_simp
        have c4 : W5.cell? ⟨pe, 0, none⟩ = some (.string ⟨#[]⟩) := by rw [hW5, hpe, hg1, hg0]; go_simp
        have c5 : W5.cell? ⟨pe, 1, none⟩ = some (.slice (some ⟨g1, 0, none⟩) 1 1) := by rw [hW5, hpe, hg1, hg0]; go_simp
        rw [← hW5, ← hg0, ← hg1, ← hpe]
        obtain ⟨L, hL⟩ : ∃ L : List AT, L = [([99, 110], [othL, pieceL 120 A.data.toList 49 ++ pieceL 121 B.data.toList 50 ++ pieceL 122 C.data.toList 51])] := ⟨_, rfl⟩
        have hN : strV (pieceL 120 A.data.toList 49 ++ pieceL 121 B.data.toList 50 ++ pieceL 122 C.data.toList 51) = .string (X ++ Y ++ Z) := by rw [← strV_whole (X ++ Y ++ Z), app_list, app_list, HLX.out, HLY.out, HLZ.out]
        have hIA : IsA W5.heap.size W5 L (.slice (some ⟨g1, 0, none⟩) 1 1) := by
          rw [hL]
          refine ⟨some ⟨g1, 0, none⟩, 1, rfl, by show 1 ≤ maxLen; decide, fun q hq => ?_⟩
          obtain rfl : q = 0 := by simp at hq; omega
          refine ⟨g1, 0, .slice (some ⟨g0, 0, none⟩) 2 2, rfl, by omega, c2, c3, some ⟨g0, 0, none⟩, 2, rfl, by show 2 ≤ maxLen; decide, fun q hq => ?_⟩
          refine ⟨g0, 0, rfl, by omega, ?_⟩
          rcases (show q = 0 ∨ q = 1 by simp at hq; omega) with rfl | rfl
          · exact c0
          · exact c1.trans (congrArg some hN.symm)
        have hLs : smallA L := by
          have la := fold_len A.data.toList
          have lb := fold_len B.data.toList
          have lc := fold_len C.data.toList
          have za := HZA.out
          have zb := HZB.out
          have zc := HZC.out
          rw [hL]
          refine ⟨by simp, fun q hq => ?_⟩
          rw [List.mem_singleton] at hq
          subst hq
          refine ⟨by simp, by simp, fun s hs => ?_⟩
          simp only [List.mem_cons, List.not_mem_nil, or_false] at hs
          rcases hs with rfl | rfl
          · simp [othL]
          · simp only [List.length_append, piece_len]; omega
        have HS : Hid (∀ (W : World) (cs : List ByteArray), Below W5.heap.size W5 W → cs.length ≤ 8 → Calls Tryz.prog 14 #[.agg #[.string ⟨#[]⟩, .slice (some ⟨g1, 0, none⟩) 1 1], .slice (some ⟨W.heap.size, 0, none⟩) cs.length cs.length] (W.alloc (.cells (cs.map Value.string).toArray 9)) fun e w' => e = .returned (.int .i64 (evalD L (.mk 5 [67, 78] [] (cs.map fun s => s.data.toList) []) : Nat)) ∧ Below W.heap.size W w') := Lib.hid (fun W cs hW hl => by
          have hba : Below W.heap.size W (W.alloc (.cells (cs.map Value.string).toArray 9)) := (Below.refl _ _).alloc (Nat.le_refl _) _
          have hbw := bthen (bthen (bthen HB3.out hb5) hW) hba
          exact (sub7_any (cs.map fun s => s.data.toList) (some ⟨W.heap.size, 0, none⟩) cs.length cs.length L hLs ⟨#[]⟩ (some ⟨g1, 0, none⟩) 1 1 _ (HLd.out.1.below hbw) (HLd.out.2.below hbw) (isTo_newP W cs hl) (hIA.below (bthen hW hba) (bthen hW hba).size)).mono (fun e w' hh => ⟨hh.1, bthen hba hh.2⟩))
        have HE : Hid (∀ W, Below W5.heap.size W5 W → W.cell? ⟨pe, 0, none⟩ = some (.string ⟨#[]⟩) ∧ W.cell? ⟨pe, 1, none⟩ = some (.slice (some ⟨g1, 0, none⟩) 1 1)) := Lib.hid (fun W hW => ⟨(hW.cell (p := ⟨pe, 0, none⟩) (by show pe < W5.heap.size; omega)).trans c4, (hW.cell (p := ⟨pe, 1, none⟩) (by show pe < W5.heap.size; omega)).trans c5⟩)
        have HB5 := Lib.hid (bthen HB3.out hb5)
        have HLl := Lib.hid hL
        clear hW5 hg0 hg1 hpe hb5 hs5 c0 c1 c2 c3 c4 c5 hN hIA hLs hL k1 k2
        cases up with
        | false =>
          obtain ⟨xx, hxx⟩ : ∃ T, T = X := ⟨_, rfl⟩
          obtain ⟨zz, hzz⟩ : ∃ T, T = Z := ⟨_, rfl⟩
          have hxl : low xx.data.toList = pieceL 120 A.data.toList 49 := by rw [hxx, HLX.out]; exact low_piece 120 49 _ (by decide)
          have hzl : low zz.data.toList = pieceL 122 C.data.toList 51 := by rw [hzz, HLZ.out]; exact low_piece 122 51 _ (by decide)
          have hxs : xx.size ≤ 22 := by rw [hxx]; exact hsA
          have hzs : zz.size ≤ 22 := by rw [hzz]; exact hsC
          rw [← hxx, ← hzz]
          clear hxx hzz
          obtain ⟨p1, p2, p3, p4, p5, p6, p7, p8⟩ := parts_all A.data.toList B.data.toList C.data.toList xx.data.toList zz.data.toList HZA.out HZB.out HZC.out hxl hzl
          have HP1 : Hid (∀ W, Below W5.heap.size W5 W → Calls Tryz.prog 14 #[.agg #[.string ⟨#[]⟩, .slice (some ⟨g1, 0, none⟩) 1 1], .slice (some ⟨W.heap.size, 0, none⟩) 2 2] (W.alloc (.cells #[.string xx, .string ⟨#[]⟩] 9)) fun e w' => e = .returned (.int .i64 1) ∧ Below W.heap.size W w') := Lib.hid (fun W hW => (HS.out W [xx, ⟨#[]⟩] hW (by simp)).mono (fun e w' hh => ⟨hh.1.trans (by rw [show (([xx, ⟨#[]⟩] : List ByteArray).map fun s => s.data.toList) = [xx.data.toList, []] from by simp only [List.map_cons, List.map_nil, app_list, HLY.out] <;> rfl, show evalD L (.mk 5 [67, 78] [] [xx.data.toList, []] []) = 1 from by rw [HLl.out]; exact p1]; rfl), hh.2⟩))
          have HP2 : Hid (∀ W, Below W5.heap.size W5 W → Calls Tryz.prog 14 #[.agg #[.string ⟨#[]⟩, .slice (some ⟨g1, 0, none⟩) 1 1], .slice (some ⟨W.heap.size, 0, none⟩) 2 2] (W.alloc (.cells #[.string ⟨#[]⟩, .string zz] 9)) fun e w' => e = .returned (.int .i64 1) ∧ Below W.heap.size W w') := Lib.hid (fun W hW => (HS.out W [⟨#[]⟩, zz] hW (by simp)).mono (fun e w' hh => ⟨hh.1.trans (by rw [show (([⟨#[]⟩, zz] : List ByteArray).map fun s => s.data.toList) = [[], zz.data.toList] from by simp only [List.map_cons, List.map_nil, app_list, HLY.out] <;> rfl, show evalD L (.mk 5 [67, 78] [] [[], zz.data.toList] []) = 1 from by rw [HLl.out]; exact p2]; rfl), hh.2⟩))
          have HP3 : Hid (∀ W, Below W5.heap.size W5 W → Calls Tryz.prog 14 #[.agg #[.string ⟨#[]⟩, .slice (some ⟨g1, 0, none⟩) 1 1], .slice (some ⟨W.heap.size, 0, none⟩) 3 3] (W.alloc (.cells #[.string ⟨#[]⟩, .string Y, .string ⟨#[]⟩] 9)) fun e w' => e = .returned (.int .i64 1) ∧ Below W.heap.size W w') := Lib.hid (fun W hW => (HS.out W [⟨#[]⟩, Y, ⟨#[]⟩] hW (by simp)).mono (fun e w' hh => ⟨hh.1.trans (by rw [show (([⟨#[]⟩, Y, ⟨#[]⟩] : List ByteArray).map fun s => s.data.toList) = [[], pieceL 121 B.data.toList 50, []] from by simp only [List.map_cons, List.map_nil, app_list, HLY.out] <;> rfl, show evalD L (.mk 5 [67, 78] [] [[], pieceL 121 B.data.toList 50, []] []) = 1 from by rw [HLl.out]; exact p3]; rfl), hh.2⟩))
          have HP4 : Hid (∀ W, Below W5.heap.size W5 W → Calls Tryz.prog 14 #[.agg #[.string ⟨#[]⟩, .slice (some ⟨g1, 0, none⟩) 1 1], .slice (some ⟨W.heap.size, 0, none⟩) 3 3] (W.alloc (.cells #[.string xx, .string Y, .string zz] 9)) fun e w' => e = .returned (.int .i64 1) ∧ Below W.heap.size W w') := Lib.hid (fun W hW => (HS.out W [xx, Y, zz] hW (by simp)).mono (fun e w' hh => ⟨hh.1.trans (by rw [show (([xx, Y, zz] : List ByteArray).map fun s => s.data.toList) = [xx.data.toList, pieceL 121 B.data.toList 50, zz.data.toList] from by simp only [List.map_cons, List.map_nil, app_list, HLY.out] <;> rfl, show evalD L (.mk 5 [67, 78] [] [xx.data.toList, pieceL 121 B.data.toList 50, zz.data.toList] []) = 1 from by rw [HLl.out]; exact p4]; rfl), hh.2⟩))
          have HP5 : Hid (∀ W, Below W5.heap.size W5 W → Calls Tryz.prog 14 #[.agg #[.string ⟨#[]⟩, .slice (some ⟨g1, 0, none⟩) 1 1], .slice (some ⟨W.heap.size, 0, none⟩) 5 5] (W.alloc (.cells #[.string ⟨#[]⟩, .string xx, .string Y, .string zz, .string ⟨#[]⟩] 9)) fun e w' => e = .returned (.int .i64 1) ∧ Below W.heap.size W w') := Lib.hid (fun W hW => (HS.out W [⟨#[]⟩, xx, Y, zz, ⟨#[]⟩] hW (by simp)).mono (fun e w' hh => ⟨hh.1.trans (by rw [show (([⟨#[]⟩, xx, Y, zz, ⟨#[]⟩] : List ByteArray).map fun s => s.data.toList) = [[], xx.data.toList, pieceL 121 B.data.toList 50, zz.data.toList, []] from by simp only [List.map_cons, List.map_nil, app_list, HLY.out] <;> rfl, show evalD L (.mk 5 [67, 78] [] [[], xx.data.toList, pieceL 121 B.data.toList 50, zz.data.toList, []] []) = 1 from by rw [HLl.out]; exact p5]; rfl), hh.2⟩))
          have HP6 : Hid (∀ W, Below W5.heap.size W5 W → Calls Tryz.prog 14 #[.agg #[.string ⟨#[]⟩, .slice (some ⟨g1, 0, none⟩) 1 1], .slice (some ⟨W.heap.size, 0, none⟩) 4 4] (W.alloc (.cells #[.string xx, .string zz, .string Y, .string ⟨#[]⟩] 9)) fun e w' => e = .returned (.int .i64 0) ∧ Below W.heap.size W w') := Lib.hid (fun W hW => (HS.out W [xx, zz, Y, ⟨#[]⟩] hW (by simp)).mono (fun e w' hh => ⟨hh.1.trans (by rw [show (([xx, zz, Y, ⟨#[]⟩] : List ByteArray).map fun s => s.data.toList) = [xx.data.toList, zz.data.toList, pieceL 121 B.data.toList 50, []] from by simp only [List.map_cons, List.map_nil, app_list, HLY.out] <;> rfl, show evalD L (.mk 5 [67, 78] [] [xx.data.toList, zz.data.toList, pieceL 121 B.data.toList 50, []] []) = 0 from by rw [HLl.out]; exact p6]; rfl), hh.2⟩))
          have HP7 : Hid (∀ W, Below W5.heap.size W5 W → Calls Tryz.prog 14 #[.agg #[.string ⟨#[]⟩, .slice (some ⟨g1, 0, none⟩) 1 1], .slice (some ⟨W.heap.size, 0, none⟩) 3 3] (W.alloc (.cells #[.string ⟨#[]⟩, .string Y, .string (zz ++ (⟨#[33]⟩ : ByteArray))] 9)) fun e w' => e = .returned (.int .i64 0) ∧ Below W.heap.size W w') := Lib.hid (fun W hW => (HS.out W [⟨#[]⟩, Y, zz ++ (⟨#[33]⟩ : ByteArray)] hW (by simp)).mono (fun e w' hh => ⟨hh.1.trans (by rw [show (([⟨#[]⟩, Y, zz ++ (⟨#[33]⟩ : ByteArray)] : List ByteArray).map fun s => s.data.toList) = [[], pieceL 121 B.data.toList 50, zz.data.toList ++ [33]] from by simp only [List.map_cons, List.map_nil, app_list, HLY.out] <;> rfl, show evalD L (.mk 5 [67, 78] [] [[], pieceL 121 B.data.toList 50, zz.data.toList ++ [33]] []) = 0 from by rw [HLl.out]; exact p7]; rfl), hh.2⟩))
          have HP8 : Hid (∀ W, Below W5.heap.size W5 W → Calls Tryz.prog 14 #[.agg #[.string ⟨#[]⟩, .slice (some ⟨g1, 0, none⟩) 1 1], .slice (some ⟨W.heap.size, 0, none⟩) 2 2] (W.alloc (.cells #[.string (xx ++ Y), .string (Y ++ zz)] 9)) fun e w' => e = .returned (.int .i64 0) ∧ Below W.heap.size W w') := Lib.hid (fun W hW => (HS.out W [xx ++ Y, Y ++ zz] hW (by simp)).mono (fun e w' hh => ⟨hh.1.trans (by rw [show (([xx ++ Y, Y ++ zz] : List ByteArray).map fun s => s.data.toList) = [xx.data.toList ++ pieceL 121 B.data.toList 50, pieceL 121 B.data.toList 50 ++ zz.data.toList] from by simp only [List.map_cons, List.map_nil, app_list, HLY.out] <;> rfl, show evalD L (.mk 5 [67, 78] [] [xx.data.toList ++ pieceL 121 B.data.toList 50, pieceL 121 B.data.toList 50 ++ zz.data.toList] []) = 0 from by rw [HLl.out]; exact p8]; rfl), hh.2⟩))
          obtain ⟨e0, e1⟩ := HE.out _ (Below.refl W5.heap.size W5)
          have k1 : (9223372036854775807 < zz.size + 1) = False := eq_false (by omega)
          have k2 : (9223372036854775807 < xx.size + Y.size) = False := eq_false (by omega)
          have k3 : (9223372036854775807 < Y.size + zz.size) = False := eq_false (by omega)
          have y0 : (⟨#[33]⟩ : ByteArray).size = 1 := rfl
          clear p1 p2 p3 p4 p5 p6 p7 p8 hxl hzl
          go_upto_region 8 with (fail)
          simp only [List.append_eq, List.cons_append, List.nil_append]
          go_wp2_with (first
            | (go_at_call 14; (with_reducible refine (HP1.out W5 (Below.refl _ _)).mono ?_); rintro e v1 ⟨rfl, hb⟩; have HQ1 := Lib.hid (bthen (Below.refl _ _) hb); (obtain ⟨e0, e1⟩ := HE.out _ (bthen (Below.refl _ _) hb)); clear hb)
            | (go_at_call 14; (with_reducible refine (HP2.out v1 HQ1.out).mono ?_); rintro e v2 ⟨rfl, hb⟩; have HQ2 := Lib.hid (bthen HQ1.out hb); (obtain ⟨e0, e1⟩ := HE.out _ (bthen HQ1.out hb)); clear hb)
            | (go_at_call 14; (with_reducible refine (HP3.out v2 HQ2.out).mono ?_); rintro e v3 ⟨rfl, hb⟩; have HQ3 := Lib.hid (bthen HQ2.out hb); (obtain ⟨e0, e1⟩ := HE.out _ (bthen HQ2.out hb)); clear hb)
            | (go_at_call 14; (with_reducible refine (HP4.out v3 HQ3.out).mono ?_); rintro e v4 ⟨rfl, hb⟩; have HQ4 := Lib.hid (bthen HQ3.out hb); (obtain ⟨e0, e1⟩ := HE.out _ (bthen HQ3.out hb)); clear hb)
            | (go_at_call 14; (with_reducible refine (HP5.out v4 HQ4.out).mono ?_); rintro e v5 ⟨rfl, hb⟩; have HQ5 := Lib.hid (bthen HQ4.out hb); (obtain ⟨e0, e1⟩ := HE.out _ (bthen HQ4.out hb)); clear hb)
            | (go_at_call 14; (with_reducible refine (HP6.out v5 HQ5.out).mono ?_); rintro e v6 ⟨rfl, hb⟩; have HQ6 := Lib.hid (bthen HQ5.out hb); (obtain ⟨e0, e1⟩ := HE.out _ (bthen HQ5.out hb)); clear hb)
            | (go_at_call 14; (with_reducible refine (HP7.out v6 HQ6.out).mono ?_); rintro e v7 ⟨rfl, hb⟩; have HQ7 := Lib.hid (bthen HQ6.out hb); (obtain ⟨e0, e1⟩ := HE.out _ (bthen HQ6.out hb)); clear hb)
            | (go_at_call 14; (with_reducible refine (HP8.out v7 HQ7.out).mono ?_); rintro e v8 ⟨rfl, hb⟩; have HQ8 := Lib.hid (bthen HQ7.out hb); (obtain ⟨e0, e1⟩ := HE.out _ (bthen HQ7.out hb)); clear hb)
            | (go_at_call 6; (with_reducible refine (HAw.out _ (bthen HB5.out HQ8.out)).mono ?_); rintro e v9 ⟨rfl, hb⟩; have HQ9 := Lib.hid (bthen (bthen HB5.out HQ8.out) hb); clear hb))
          go_ret
          exact ⟨rfl, HQ9.out⟩
        | true =>
          have x1 : (1 : Int) ≤ (X.size : Int) := by omega
          have x2 : (1 : Int) ≤ (Z.size : Int) := by omega
          go_upto_region 8 with (fail)
          obtain ⟨xx, hxx⟩ : ∃ T : ByteArray, ⟨#[88]⟩ ++ X.extract 1 X.size = T := ⟨_, rfl⟩
          obtain ⟨zz, hzz⟩ : ∃ T : ByteArray, ⟨#[90]⟩ ++ Z.extract 1 Z.size = T := ⟨_, rfl⟩
          have hxl0 : xx.data.toList = pieceL 88 A.data.toList 49 := by rw [← hxx, app_list, ext_listP, HLX.out]; rfl
          have hzl0 : zz.data.toList = pieceL 90 C.data.toList 51 := by rw [← hzz, app_list, ext_listP, HLZ.out]; rfl
          have hxs : xx.size ≤ 22 := by have := congrArg List.length hxl0; rw [bytes_len, piece_len, ← piece_len 120 49, ← HLX.out, bytes_len] at this; omega
          have hzs : zz.size ≤ 22 := by have := congrArg List.length hzl0; rw [bytes_len, piece_len, ← piece_len 122 51, ← HLZ.out, bytes_len] at this; omega
          have hxl : low xx.data.toList = pieceL 120 A.data.toList 49 := by rw [hxl0]; exact low_piece 88 49 _ (by decide)
          have hzl : low zz.data.toList = pieceL 122 C.data.toList 51 := by rw [hzl0]; exact low_piece 90 51 _ (by decide)
          rw [hxx, hzz]
          clear hxx hzz hxl0 hzl0 x1 x2
          obtain ⟨p1, p2, p3, p4, p5, p6, p7, p8⟩ := parts_all A.data.toList B.data.toList C.data.toList xx.data.toList zz.data.toList HZA.out HZB.out HZC.out hxl hzl
          have HP1 : Hid (∀ W, Below W5.heap.size W5 W → Calls Tryz.prog 14 #[.agg #[.string ⟨#[]⟩, .slice (some ⟨g1, 0, none⟩) 1 1], .slice (some ⟨W.heap.size, 0, none⟩) 2 2] (W.alloc (.cells #[.string xx, .string ⟨#[]⟩] 9)) fun e w' => e = .returned (.int .i64 1) ∧ Below W.heap.size W w') := Lib.hid (fun W hW => (HS.out W [xx, ⟨#[]⟩] hW (by simp)).mono (fun e w' hh => ⟨hh.1.trans (by rw [show (([xx, ⟨#[]⟩] : List ByteArray).map fun s => s.data.toList) = [xx.data.toList, []] from by simp only [List.map_cons, List.map_nil, app_list, HLY.out] <;> rfl, show evalD L (.mk 5 [67, 78] [] [xx.data.toList, []] []) = 1 from by rw [HLl.out]; exact p1]; rfl), hh.2⟩))
          have HP2 : Hid (∀ W, Below W5.heap.size W5 W → Calls Tryz.prog 14 #[.agg #[.string ⟨#[]⟩, .slice (some ⟨g1, 0, none⟩) 1 1], .slice (some ⟨W.heap.size, 0, none⟩) 2 2] (W.alloc (.cells #[.string ⟨#[]⟩, .string zz] 9)) fun e w' => e = .returned (.int .i64 1) ∧ Below W.heap.size W w') := Lib.hid (fun W hW => (HS.out W [⟨#[]⟩, zz] hW (by simp)).mono (fun e w' hh => ⟨hh.1.trans (by rw [show (([⟨#[]⟩, zz] : List ByteArray).map fun s => s.data.toList) = [[], zz.data.toList] from by simp only [List.map_cons, List.map_nil, app_list, HLY.out] <;> rfl, show evalD L (.mk 5 [67, 78] [] [[], zz.data.toList] []) = 1 from by rw [HLl.out]; exact p2]; rfl), hh.2⟩))
          have HP3 : Hid (∀ W, Below W5.heap.size W5 W → Calls Tryz.prog 14 #[.agg #[.string ⟨#[]⟩, .slice (some ⟨g1, 0, none⟩) 1 1], .slice (some ⟨W.heap.size, 0, none⟩) 3 3] (W.alloc (.cells #[.string ⟨#[]⟩, .string Y, .string ⟨#[]⟩] 9)) fun e w' => e = .returned (.int .i64 1) ∧ Below W.heap.size W w') := Lib.hid (fun W hW => (HS.out W [⟨#[]⟩, Y, ⟨#[]⟩] hW (by simp)).mono (fun e w' hh => ⟨hh.1.trans (by rw [show (([⟨#[]⟩, Y, ⟨#[]⟩] : List ByteArray).map fun s => s.data.toList) = [[], pieceL 121 B.data.toList 50, []] from by simp only [List.map_cons, List.map_nil, app_list, HLY.out] <;> rfl, show evalD L (.mk 5 [67, 78] [] [[], pieceL 121 B.data.toList 50, []] []) = 1 from by rw [HLl.out]; exact p3]; rfl), hh.2⟩))
          have HP4 : Hid (∀ W, Below W5.heap.size W5 W → Calls Tryz.prog 14 #[.agg #[.string ⟨#[]⟩, .slice (some ⟨g1, 0, none⟩) 1 1], .slice (some ⟨W.heap.size, 0, none⟩) 3 3] (W.alloc (.cells #[.string xx, .string Y, .string zz] 9)) fun e w' => e = .returned (.int .i64 1) ∧ Below W.heap.size W w') := Lib.hid (fun W hW => (HS.out W [xx, Y, zz] hW (by simp)).mono (fun e w' hh => ⟨hh.1.trans (by rw [show (([xx, Y, zz] : List ByteArray).map fun s => s.data.toList) = [xx.data.toList, pieceL 121 B.data.toList 50, zz.data.toList] from by simp only [List.map_cons, List.map_nil, app_list, HLY.out] <;> rfl, show evalD L (.mk 5 [67, 78] [] [xx.data.toList, pieceL 121 B.data.toList 50, zz.data.toList] []) = 1 from by rw [HLl.out]; exact p4]; rfl), hh.2⟩))
          have HP5 : Hid (∀ W, Below W5.heap.size W5 W → Calls Tryz.prog 14 #[.agg #[.string ⟨#[]⟩, .slice (some ⟨g1, 0, none⟩) 1 1], .slice (some ⟨W.heap.size, 0, none⟩) 5 5] (W.alloc (.cells #[.string ⟨#[]⟩, .string xx, .string Y, .string zz, .string ⟨#[]⟩] 9)) fun e w' => e = .returned (.int .i64 1) ∧ Below W.heap.size W w') := Lib.hid (fun W hW => (HS.out W [⟨#[]⟩, xx, Y, zz, ⟨#[]⟩] hW (by simp)).mono (fun e w' hh => ⟨hh.1.trans (by rw [show (([⟨#[]⟩, xx, Y, zz, ⟨#[]⟩] : List ByteArray).map fun s => s.data.toList) = [[], xx.data.toList, pieceL 121 B.data.toList 50, zz.data.toList, []] from by simp only [List.map_cons, List.map_nil, app_list, HLY.out] <;> rfl, show evalD L (.mk 5 [67, 78] [] [[], xx.data.toList, pieceL 121 B.data.toList 50, zz.data.toList, []] []) = 1 from by rw [HLl.out]; exact p5]; rfl), hh.2⟩))
          have HP6 : Hid (∀ W, Below W5.heap.size W5 W → Calls Tryz.prog 14 #[.agg #[.string ⟨#[]⟩, .slice (some ⟨g1, 0, none⟩) 1 1], .slice (some ⟨W.heap.size, 0, none⟩) 4 4] (W.alloc (.cells #[.string xx, .string zz, .string Y, .string ⟨#[]⟩] 9)) fun e w' => e = .returned (.int .i64 0) ∧ Below W.heap.size W w') := Lib.hid (fun W hW => (HS.out W [xx, zz, Y, ⟨#[]⟩] hW (by simp)).mono (fun e w' hh => ⟨hh.1.trans (by rw [show (([xx, zz, Y, ⟨#[]⟩] : List ByteArray).map fun s => s.data.toList) = [xx.data.toList, zz.data.toList, pieceL 121 B.data.toList 50, []] from by simp only [List.map_cons, List.map_nil, app_list, HLY.out] <;> rfl, show evalD L (.mk 5 [67, 78] [] [xx.data.toList, zz.data.toList, pieceL 121 B.data.toList 50, []] []) = 0 from by rw [HLl.out]; exact p6]; rfl), hh.2⟩))
          have HP7 : Hid (∀ W, Below W5.heap.size W5 W → Calls Tryz.prog 14 #[.agg #[.string ⟨#[]⟩, .slice (some ⟨g1, 0, none⟩) 1 1], .slice (some ⟨W.heap.size, 0, none⟩) 3 3] (W.alloc (.cells #[.string ⟨#[]⟩, .string Y, .string (zz ++ (⟨#[33]⟩ : ByteArray))] 9)) fun e w' => e = .returned (.int .i64 0) ∧ Below W.heap.size W w') := Lib.hid (fun W hW => (HS.out W [⟨#[]⟩, Y, zz ++ (⟨#[33]⟩ : ByteArray)] hW (by simp)).mono (fun e w' hh => ⟨hh.1.trans (by rw [show (([⟨#[]⟩, Y, zz ++ (⟨#[33]⟩ : ByteArray)] : List ByteArray).map fun s => s.data.toList) = [[], pieceL 121 B.data.toList 50, zz.data.toList ++ [33]] from by simp only [List.map_cons, List.map_nil, app_list, HLY.out] <;> rfl, show evalD L (.mk 5 [67, 78] [] [[], pieceL 121 B.data.toList 50, zz.data.toList ++ [33]] []) = 0 from by rw [HLl.out]; exact p7]; rfl), hh.2⟩))
          have HP8 : Hid (∀ W, Below W5.heap.size W5 W → Calls Tryz.prog 14 #[.agg #[.string ⟨#[]⟩, .slice (some ⟨g1, 0, none⟩) 1 1], .slice (some ⟨W.heap.size, 0, none⟩) 2 2] (W.alloc (.cells #[.string (xx ++ Y), .string (Y ++ zz)] 9)) fun e w' => e = .returned (.int .i64 0) ∧ Below W.heap.size W w') := Lib.hid (fun W hW => (HS.out W [xx ++ Y, Y ++ zz] hW (by simp)).mono (fun e w' hh => ⟨hh.1.trans (by rw [show (([xx ++ Y, Y ++ zz] : List ByteArray).map fun s => s.data.toList) = [xx.data.toList ++ pieceL 121 B.data.toList 50, pieceL 121 B.data.toList 50 ++ zz.data.toList] from by simp only [List.map_cons, List.map_nil, app_list, HLY.out] <;> rfl, show evalD L (.mk 5 [67, 78] [] [xx.data.toList ++ pieceL 121 B.data.toList 50, pieceL 121 B.data.toList 50 ++ zz.data.toList] []) = 0 from by rw [HLl.out]; exact p8]; rfl), hh.2⟩))
          obtain ⟨e0, e1⟩ := HE.out _ (Below.refl W5.heap.size W5)
          have k1 : (9223372036854775807 < zz.size + 1) = False := eq_false (by omega)
          have k2 : (9223372036854775807 < xx.size + Y.size) = False := eq_false (by omega)
          have k3 : (9223372036854775807 < Y.size + zz.size) = False := eq_false (by omega)
          have y0 : (⟨#[33]⟩ : ByteArray).size = 1 := rfl
          clear p1 p2 p3 p4 p5 p6 p7 p8 hxl hzl
          simp only [List.append_eq, List.cons_append, List.nil_append]
          go_wp2_with (first
            | (go_at_call 14; (with_reducible refine (HP1.out W5 (Below.refl _ _)).mono ?_); rintro e v1 ⟨rfl, hb⟩; have HQ1 := Lib.hid (bthen (Below.refl _ _) hb); (obtain ⟨e0, e1⟩ := HE.out _ (bthen (Below.refl _ _) hb)); clear hb)
            | (go_at_call 14; (with_reducible refine (HP2.out v1 HQ1.out).mono ?_); rintro e v2 ⟨rfl, hb⟩; have HQ2 := Lib.hid (bthen HQ1.out hb); (obtain ⟨e0, e1⟩ := HE.out _ (bthen HQ1.out hb)); clear hb)
            | (go_at_call 14; (with_reducible refine (HP3.out v2 HQ2.out).mono ?_); rintro e v3 ⟨rfl, hb⟩; have HQ3 := Lib.hid (bthen HQ2.out hb); (obtain ⟨e0, e1⟩ := HE.out _ (bthen HQ2.out hb)); clear hb)
            | (go_at_call 14; (with_reducible refine (HP4.out v3 HQ3.out).mono ?_); rintro e v4 ⟨rfl, hb⟩; have HQ4 := Lib.hid (bthen HQ3.out hb); (obtain ⟨e0, e1⟩ := HE.out _ (bthen HQ3.out hb)); clear hb)
            | (go_at_call 14; (with_reducible refine (HP5.out v4 HQ4.out).mono ?_); rintro e v5 ⟨rfl, hb⟩; have HQ5 := Lib.hid (bthen HQ4.out hb); (obtain ⟨e0, e1⟩ := HE.out _ (bthen HQ4.out hb)); clear hb)
            | (go_at_call 14; (with_reducible refine (HP6.out v5 HQ5.out).mono ?_); rintro e v6 ⟨rfl, hb⟩; have HQ6 := Lib.hid (bthen HQ5.out hb); (obtain ⟨e0, e1⟩ := HE.out _ (bthen HQ5.out hb)); clear hb)
            | (go_at_call 14; (with_reducible refine (HP7.out v6 HQ6.out).mono ?_); rintro e v7 ⟨rfl, hb⟩; have HQ7 := Lib.hid (bthen HQ6.out hb); (obtain ⟨e0, e1⟩ := HE.out _ (bthen HQ6.out hb)); clear hb)
            | (go_at_call 14; (with_reducible refine (HP8.out v7 HQ7.out).mono ?_); rintro e v8 ⟨rfl, hb⟩; have HQ8 := Lib.hid (bthen HQ7.out hb); (obtain ⟨e0, e1⟩ := HE.out _ (bthen HQ7.out hb)); clear hb)
            | (go_at_call 6; (with_reducible refine (HAw.out _ (bthen HB5.out HQ8.out)).mono ?_); rintro e v9 ⟨rfl, hb⟩; have HQ9 := Lib.hid (bthen (bthen HB5.out HQ8.out) hb); clear hb))
          go_ret
          exact ⟨rfl, HQ9.out⟩
end Go.Proofs.YtmilgbkkibahlaaGreatDoor


namespace Go.Proofs.YtmilgbkkibahlaaGreatDoor
open Go.RowKit
set_option linter.unusedVariables false

def IsB (n0 : Nat) (w : World) (l : List UInt8) (a : Option Addr) (cap : Nat) : Prop :=
  l.length ≤ maxLen ∧ (l = [] ∨ ∃ b off, a = some ⟨b, off, none⟩ ∧ b < n0 ∧ ∀ j, (h : j < l.length) → w.cell? ⟨b, off + j, none⟩ = some (.int .u8 l[j].toNat))
def IsS (n0 : Nat) (w : World) (L : List ByteArray) (a : Option Addr) (cap : Nat) : Prop :=
  L.length ≤ maxLen ∧ (∀ s ∈ L, s.size ≤ maxLen) ∧ (L = [] ∨ ∃ b off, a = some ⟨b, off, none⟩ ∧ b < n0 ∧ ∀ j, (h : j < L.length) → w.cell? ⟨b, off + j, none⟩ = some (.string L[j]))
theorem IsB.below {n0 : Nat} {w w' : World} {l : List UInt8} {a : Option Addr} {cap : Nat} (h : IsB n0 w l a cap) (hb : Below n0 w w') : IsB n0 w' l a cap :=
  ⟨h.1, h.2.imp id fun ⟨b, off, e, hlt, hc⟩ => ⟨b, off, e, hlt, fun j hj => (hb.cell (p := ⟨b, _, none⟩) hlt).trans (hc j hj)⟩⟩
theorem IsS.below {n0 : Nat} {w w' : World} {l : List ByteArray} {a : Option Addr} {cap : Nat} (h : IsS n0 w l a cap) (hb : Below n0 w w') : IsS n0 w' l a cap :=
  ⟨h.1, h.2.1, h.2.2.imp id fun ⟨b, off, e, hlt, hc⟩ => ⟨b, off, e, hlt, fun j hj => (hb.cell (p := ⟨b, _, none⟩) hlt).trans (hc j hj)⟩⟩

end Go.Proofs.YtmilgbkkibahlaaGreatDoor

