/- Several texts in one file: MaRef, MaRefN, MaRefM, MaRefL, ScDocH, ScDocB, ScDocG. -/
import Derived.Test.YtaapdipejpbdeaaGreatDoorMaFind
import Derived.Test.YtaapdipejpbdeaaGreatDoorMadeP4
import Derived.Test.YtaapdipejpbdeaaGreatDoorMadeP2
import Derived.Test.YtaapdipejpbdeaaGreatDoorRefKeyW
import Derived.Test.YtaapdipejpbdeaaGreatDoorMaSame
import Derived.Deep.RegionLaw
import Derived.RegionTactic
import Derived.BigRegion
import Derived.Deep.RegionHeld3
import Derived.Test.YtaapdipejpbdeaaGreatDoorMadeP5
import Derived.Deep.CutRange
/- The document's Rule, Canon: the walks. -/
namespace Go.Proofs.YtaapdipejpbdeaaGreatDoor
open Go.RowKit
set_option linter.unusedVariables false

theorem kinds_mem {n : List UInt8} {k : List UInt8 × Nat} (h : findL n = some k) : k ∈ kindsL := List.mem_of_find?_eq_some h
theorem find_none_ne {n : List UInt8} (h : findL n = none) : ∀ k ∈ kindsL, n ≠ k.1 := by
  intro k hk e
  have := List.find?_eq_none.1 h k hk
  simp [e] at this
theorem ne_str {L : ByteArray} {l : List UInt8} (h : L.data.toList ≠ l) : (L.toList == l) = false := by
  rw [beq_eq_false_iff_ne, ByteArray.toList_eq]; exact h

set_option maxRecDepth 100000 in
set_option maxHeartbeats 4000000 in
theorem ruleRef_any (s : ByteArray) (hs : s.size ≤ 281474976710656) (w : World) : Calls Tryz.prog 25 #[.string s] w fun e w' => e = .returned (.int .i64 (ruleD s.data.toList)) ∧ Below w.heap.size w w' := by
  obtain ⟨L, hL⟩ : ∃ L, L = lowB s := ⟨_, rfl⟩
  have hLl : L.data.toList = low s.data.toList := by rw [hL, lowB_list]
  have hr : ruleD s.data.toList = ruleL L.data.toList := by unfold ruleD; rw [hLl]
  rw [hr]
  have hlo := fun w => lowerRef_any s w hs
  rw [← hL] at hlo
  clear hL hLl hr
  have HLo := Lib.hid hlo
  clear hlo
  cases hf : findL L.data.toList with
  | some k =>
    have hm := kinds_mem hf
    have he := (findL_len hf).1
    have hru : ruleL L.data.toList = k.2 := by unfold ruleL; rw [hf]
    rw [hru]
    clear hru hf
    have hLk : L = ⟨k.1.toArray⟩ := bytes_ext (by rw [← he])
    clear he
    subst hLk
    simp only [kindsL, List.mem_cons, List.not_mem_nil, or_false] at hm
    rcases hm with rfl | rfl | rfl | rfl | rfl | rfl | rfl | rfl | rfl | rfl | rfl
    all_goals
      go_enter Tryz.func25, Tryz.ntmps25
      go_wp2_with (go_at_call 37; refine (HLo.out _).mono ?_; rintro e w1 ⟨rfl, hb1⟩; have HB := Lib.hid hb1; clear hb1)
      go_ret
      exact ⟨rfl, HB.out⟩
  | none =>
    have hru : ruleL L.data.toList = 0 := by unfold ruleL; rw [hf]
    rw [hru]
    have hne := find_none_ne hf
    clear hru hf
    have q0 := ne_str (hne ([111, 98, 106, 101, 99, 116, 99, 108, 97, 115, 115], 1) (by simp [kindsL]))
    have q1 := ne_str (hne ([99, 110], 1) (by simp [kindsL]))
    have q2 := ne_str (hne ([115, 110], 1) (by simp [kindsL]))
    have q3 := ne_str (hne ([111], 1) (by simp [kindsL]))
    have q4 := ne_str (hne ([111, 117], 1) (by simp [kindsL]))
    have q5 := ne_str (hne ([117, 105, 100], 1) (by simp [kindsL]))
    have q6 := ne_str (hne ([109, 97, 105, 108], 1) (by simp [kindsL]))
    have q7 := ne_str (hne ([100, 101, 115, 99, 114, 105, 112, 116, 105, 111, 110], 1) (by simp [kindsL]))
    have q8 := ne_str (hne ([117, 105, 100, 110, 117, 109, 98, 101, 114], 2) (by simp [kindsL]))
    have q9 := ne_str (hne ([109, 101, 109, 98, 101, 114], 3) (by simp [kindsL]))
    have q10 := ne_str (hne ([117, 115, 101, 114, 112, 97, 115, 115, 119, 111, 114, 100], 4) (by simp [kindsL]))
    clear hne
    go_enter Tryz.func25, Tryz.ntmps25
    go_wp2_with (go_at_call 37; refine (HLo.out _).mono ?_; rintro e w1 ⟨rfl, hb1⟩; have HB := Lib.hid hb1; clear hb1)
    go_ret
    exact ⟨rfl, HB.out⟩

/-- A text, or none, in a block of its own. -/
def BoxS (w : World) (b : Nat) (x : ByteArray) (ok : Bool) : Prop := w.heap[b]? = some (.cells #[.string x, .bool ok] 61 (0, 0))
theorem BoxS.below {w w' : World} {b n : Nat} {x : ByteArray} {ok : Bool} (h : BoxS w b x ok) (hb : Below n w w') (hn : b < n) : BoxS w' b x ok := (hb.block b hn).trans h
theorem BoxS.cells {w : World} {b : Nat} {x : ByteArray} {ok : Bool} (h : BoxS w b x ok) : w.cell? ⟨b, 0, none⟩ = some (.string x) ∧ w.cell? ⟨b, 1, none⟩ = some (.bool ok) ∧ w.frozen? ⟨b, 0, none⟩ = false ∧ w.frozen? ⟨b, 1, none⟩ = false := by
  unfold BoxS at h
  simp [World.cell?, World.frozen?, h]
theorem boxS_new (w : World) (x : ByteArray) (ok : Bool) : BoxS (w.alloc (.cells #[.string x, .bool ok] 61)) w.heap.size x ok := heap_alloc_new w _
theorem BoxS.store {w : World} {b : Nat} {x : ByteArray} {ok : Bool} (h : BoxS w b x ok) (x' : ByteArray) (ok' : Bool) : BoxS ((w.setCell ⟨b, 0, none⟩ (.string x')).setCell ⟨b, 1, none⟩ (.bool ok')) b x' ok' := by
  unfold BoxS at h ⊢
  simp [World.setCell, Array.getElem?_modify, h]

def saidR (o : Option (List UInt8)) : Value := match o with
  | some k => .agg #[.string ⟨k.toArray⟩, .bool true]
  | none => .agg #[.string ⟨#[]⟩, .bool false]

set_option maxRecDepth 100000 in
set_option maxHeartbeats 4000000 in
theorem canonRef_any (s : ByteArray) (hs : s.size ≤ 281474976710656) (w : World) : Calls Tryz.prog 36 #[.string s] w fun e w' => e = .returned (saidR (canonD s.data.toList)) ∧ Below w.heap.size w w' := by
  obtain ⟨L, hL⟩ : ∃ L, L = lowB s := ⟨_, rfl⟩
  have hLl : L.data.toList = low s.data.toList := by rw [hL, lowB_list]
  have hLs : L.size ≤ 281474976710656 := by rw [hL, lowB_size]; exact hs
  have hru := fun w => ruleRef_any L hLs w
  have hlo := fun w => lowerRef_any s w hs
  rw [← hL] at hlo
  have hr : ruleD L.data.toList = ruleD s.data.toList := by rw [hLl, ruleD_low]
  simp only [hr] at hru
  have HR := Lib.hid hru
  have HLo := Lib.hid hlo
  clear hlo hru hr
  have HBox := Lib.hid (boxS_new w ⟨#[]⟩ false)
  cases hc : canonD s.data.toList with
  | none =>
    have h0 := (canon_rule _).1 hc
    rw [h0] at HR
    clear h0 hc hL hLl
    go_enter Tryz.func36, Tryz.ntmps36
    go_wp2_with (first | (go_at_call 37; refine (HLo.out _).mono ?_; rintro e w1 ⟨rfl, hb1⟩; have HB := Lib.hid (((Below.refl _ _).alloc (Nat.le_refl _) _).trans (hb1.mono (by simp))); have HX := Lib.hid (HBox.out.below hb1 (by simp)); have hz1 : w.heap.size < w1.heap.size := (by have := hb1.size; simp at this; omega); clear hb1) | (go_at_call 25; refine (HR.out _).mono ?_; rintro e w2 ⟨rfl, hb2⟩; have HB := Lib.hid (bthen HB.out hb2); have HX := Lib.hid (HX.out.below hb2 hz1); obtain ⟨k0, k1, l0, l1⟩ := HX.out.cells; clear hb2))
    obtain ⟨q0, q1, _, _⟩ := (HX.out.store ⟨#[]⟩ false).cells
    refine bodyPost_ret (v := .agg #[.string ⟨#[]⟩, .bool false]) (by simp [results, Tryz.results36, go_sem, q0, q1]) rfl ⟨rfl, ?_⟩
    exact (HB.out.setCell (Nat.le_refl _) _).setCell (Nat.le_refl _) _
  | some k =>
    obtain ⟨e1, e2, _⟩ := canon_eq hc
    have hr1 : ((ruleD s.data.toList : Nat) : Int) ≠ 0 := by omega
    have t0 : (((ruleD s.data.toList : Nat) : Int) == 0) = false := by simpa using hr1
    have hv : saidR (some k) = .agg #[.string L, .bool true] := by rw [e1, ← hLl]; simp [saidR]
    have HV := Lib.hid hv
    generalize ruleD s.data.toList = r at *
    clear hc e1 e2 hr1 hv hL hLl
    go_enter Tryz.func36, Tryz.ntmps36
    go_wp2_with (first | (go_at_call 37; refine (HLo.out _).mono ?_; rintro e w1 ⟨rfl, hb1⟩; have HB := Lib.hid (((Below.refl _ _).alloc (Nat.le_refl _) _).trans (hb1.mono (by simp))); have HX := Lib.hid (HBox.out.below hb1 (by simp)); have hz1 : w.heap.size < w1.heap.size := (by have := hb1.size; simp at this; omega); clear hb1) | (go_at_call 25; refine (HR.out _).mono ?_; rintro e w2 ⟨rfl, hb2⟩; have HB := Lib.hid (bthen HB.out hb2); have HX := Lib.hid (HX.out.below hb2 hz1); obtain ⟨k0, k1, l0, l1⟩ := HX.out.cells; clear hb2))
    obtain ⟨q0, q1, _, _⟩ := (HX.out.store L true).cells
    refine bodyPost_ret (v := .agg #[.string L, .bool true]) (by simp [results, Tryz.results36, go_sem, q0, q1]) rfl ⟨by rw [HV.out], ?_⟩
    exact (HB.out.setCell (Nat.le_refl _) _).setCell (Nat.le_refl _) _
end Go.Proofs.YtaapdipejpbdeaaGreatDoor

/- The document's Number: the walk. -/
namespace Go.Proofs.YtaapdipejpbdeaaGreatDoor
open Go.RowKit
set_option linter.unusedVariables false

theorem decFrom_digits : ∀ (l : List UInt8) (acc n : Nat), Lib.decFrom acc l = some n → ∀ c ∈ l, 48 ≤ c.toNat ∧ c.toNat ≤ 57
  | [], _, _, _, c, hc => absurd hc (by simp)
  | a :: l, acc, n, h, c, hc => by
    simp only [Lib.decFrom, Lib.digitVal] at h
    by_cases hd : 48 ≤ a.toNat ∧ a.toNat ≤ 57
    · rw [if_pos hd] at h
      rcases List.mem_cons.1 hc with rfl | hc
      · exact hd
      · exact decFrom_digits l _ n h c hc
    · rw [if_neg hd] at h; cases h
theorem numD_pos {l : List UInt8} {n : Nat} (h0 : l ≠ []) (hl : l.length ≤ 15) (h : Lib.decFrom 0 l = some n) : numD l = if Lib.itoa (n : Int) = l then some (n : Int) else none := by
  cases l with
  | nil => exact absurd rfl h0
  | cons c r =>
    have hc := decFrom_digits _ _ _ h c (by simp)
    have h45 : c ≠ 45 := by intro e; rw [e] at hc; simp at hc
    have h43 : c ≠ 43 := by intro e; rw [e] at hc; simp at hc
    have hat : Lib.atoi (c :: r) = some (n : Int) := by
      simp only [Lib.atoi]
      rw [if_neg (by simpa using h45), if_neg (by simpa using h43)]
      simp only [Lib.decNat, List.isEmpty_cons, Bool.false_eq_true, if_false, h, Option.map_some]
    unfold numD
    rw [trim_not h45, if_pos hl, Lib.parseIntB_64, Lib.atoiAll_short _ (by omega), hat]
    rfl
theorem numD_neg {l : List UInt8} {n : Nat} (h0 : l ≠ []) (hl : l.length ≤ 15) (h : Lib.decFrom 0 l = some n) : numD (45 :: l) = if Lib.itoa (-(n : Int)) = 45 :: l then some (-(n : Int)) else none := by
  have hat : Lib.atoi (45 :: l) = some (-(n : Int)) := by
    cases l with
    | nil => exact absurd rfl h0
    | cons c r => simp only [Lib.atoi, beq_self_eq_true, if_true, Lib.decNat, List.isEmpty_cons, Bool.false_eq_true, if_false, h, Option.map_some]
  unfold numD
  rw [trim_neg, if_pos hl, Lib.parseIntB_64, Lib.atoiAll_short _ (by simp; omega), hat]
  rfl
theorem numD_bad {l : List UInt8} {c : UInt8} (hc : c ∈ Lib.trimPrefix l [45]) (h : ¬ (48 ≤ c.toNat ∧ c.toNat ≤ 57)) : numD l = none := by
  cases hn : numD l with
  | none => rfl
  | some v =>
    have := (numD_some hn).1
    subst this
    rw [trim_itoa] at hc
    exact absurd (dec_digits _ c hc) h
theorem numD_long {l : List UInt8} (h : 15 < (Lib.trimPrefix l [45]).length) : numD l = none := by unfold numD; rw [if_neg (by omega)]

/-- A number, or none, in a block of its own. -/
def BoxNm (w : World) (b : Nat) (x : Int) (ok : Bool) : Prop := w.heap[b]? = some (.cells #[.int .i64 x, .bool ok] 145 (0, 0))
theorem BoxNm.below {w w' : World} {b n : Nat} {x : Int} {ok : Bool} (h : BoxNm w b x ok) (hb : Below n w w') (hn : b < n) : BoxNm w' b x ok := (hb.block b hn).trans h
theorem BoxNm.cells {w : World} {b : Nat} {x : Int} {ok : Bool} (h : BoxNm w b x ok) : w.cell? ⟨b, 0, none⟩ = some (.int .i64 x) ∧ w.cell? ⟨b, 1, none⟩ = some (.bool ok) ∧ w.frozen? ⟨b, 0, none⟩ = false ∧ w.frozen? ⟨b, 1, none⟩ = false := by
  unfold BoxNm at h
  simp [World.cell?, World.frozen?, h]
theorem boxNm_new (w : World) (x : Int) (ok : Bool) : BoxNm (w.alloc (.cells #[.int .i64 x, .bool ok] 145)) w.heap.size x ok := heap_alloc_new w _
theorem BoxNm.store {w : World} {b : Nat} {x : Int} {ok : Bool} (h : BoxNm w b x ok) (x' : Int) (ok' : Bool) : BoxNm ((w.setCell ⟨b, 0, none⟩ (.int .i64 x')).setCell ⟨b, 1, none⟩ (.bool ok')) b x' ok' := by
  unfold BoxNm at h ⊢
  simp [World.setCell, Array.getElem?_modify, h]

def numR (o : Option Int) : Value := match o with
  | some v => .agg #[.int .i64 v, .bool true]
  | none => .agg #[.int .i64 0, .bool false]

set_option maxRecDepth 100000 in
set_option maxHeartbeats 8000000 in
theorem numberRef_any (s : ByteArray) (hs : s.size ≤ 281474976710656) (w : World) : Calls Tryz.prog 109 #[.string s] w fun e w' => e = .returned (numR (numD s.data.toList)) ∧ Below w.heap.size w w' := by
  have HBox := Lib.hid (boxNm_new w 0 false)
  obtain ⟨q0, q1, _, _⟩ := (HBox.out.store 0 false).cells
  by_cases h0 : s.data.toList = []
  · obtain ⟨e1, e2⟩ := bytes_nil h0
    have hz : s.size = 0 := by rw [← bytes_len, h0]; rfl
    have HNo := Lib.hid (show numD s.data.toList = none by rw [h0]; exact numD_minus.2.2.1)
    have t0 : ((s.size : Int) == 0) = true := by simp [hz]
    clear h0 hz
    go_enter Tryz.func109, Tryz.ntmps109
    go_wp2
    refine bodyPost_ret (v := .agg #[.int .i64 0, .bool false]) (by simp [results, Tryz.results109, go_sem]) rfl ⟨by rw [HNo.out]; rfl, ?_⟩
    first | exact (Below.refl _ _).alloc (Nat.le_refl _) _ | exact (((Below.refl _ _).alloc (Nat.le_refl _) _).setCell (Nat.le_refl _) _).setCell (Nat.le_refl _) _
  obtain ⟨e1, e2⟩ := bytes_some h0
  have hpos : 0 < s.size := by
    rw [← bytes_len]; exact List.length_pos_iff.2 h0
  obtain ⟨a, ha⟩ : ∃ a : UInt8, s[0] = a := ⟨_, rfl⟩
  have hl0 : s.data.toList = a :: s.data.toList.drop 1 := by
    have := List.drop_eq_getElem_cons (l := s.data.toList) (i := 0) (by rw [bytes_len]; exact hpos)
    rw [List.drop_zero] at this
    rw [← ha]
    exact this
  have hal := a.toNat_lt
  by_cases h45 : a.toNat = 45
  · have ea : a = 45 := UInt8.toNat_inj.1 h45
    have t0 : ((a.toNat : Int) == 45) = true := by simp [h45]
    have e45 : (45 : UInt8) :: s.data.toList.drop 1 = s.data.toList := by rw [← ea]; exact hl0.symm
    have htr : Lib.trimPrefix s.data.toList [45] = s.data.toList.drop 1 := by have := trim_neg (s.data.toList.drop 1); rw [e45] at this; exact this
    clear e45
    by_cases h1 : s.size = 1
    · have HNo := Lib.hid (show numD s.data.toList = none by
        have : s.data.toList.drop 1 = [] := List.drop_eq_nil_iff.2 (by rw [bytes_len]; omega)
        rw [hl0, this, ea]; exact numD_minus.2.1)
      have t4 : ((s.size : Int) == 1) = true := by simp [h1]
      clear hl0 htr h45 ea h0 h1
      go_enter Tryz.func109, Tryz.ntmps109
      go_wp2
      refine bodyPost_ret (v := .agg #[.int .i64 0, .bool false]) (by simp [results, Tryz.results109, go_sem]) rfl ⟨by rw [HNo.out]; rfl, ?_⟩
      first | exact (Below.refl _ _).alloc (Nat.le_refl _) _ | exact (((Below.refl _ _).alloc (Nat.le_refl _) _).setCell (Nat.le_refl _) _).setCell (Nat.le_refl _) _
    have t4 : ((s.size : Int) == 1) = false := by simp; omega
    by_cases h15 : 15 < s.size - 1
    · have HNo := Lib.hid (numD_long (l := s.data.toList) (by rw [htr, List.length_drop, bytes_len]; exact h15))
      have t6 : decide ((15 : Int) < (s.size : Int) - 1) = true := by simp; omega
      have t7 : decide ((16 : Int) < (s.size : Int)) = true := by simp; omega
      clear hl0 htr h45 ea h0 h1
      go_enter Tryz.func109, Tryz.ntmps109
      go_wp2
      refine bodyPost_ret (v := .agg #[.int .i64 0, .bool false]) (by simp [results, Tryz.results109, go_sem]) rfl ⟨by rw [HNo.out]; rfl, ?_⟩
      first | exact (Below.refl _ _).alloc (Nat.le_refl _) _ | exact (((Below.refl _ _).alloc (Nat.le_refl _) _).setCell (Nat.le_refl _) _).setCell (Nat.le_refl _) _
    have t6 : decide ((15 : Int) < (s.size : Int) - 1) = false := by simp; omega
    have t7 : decide ((16 : Int) < (s.size : Int)) = false := by simp; omega
    have hbad : ∀ c ∈ s.data.toList.drop 1, ¬ (48 ≤ c.toNat ∧ c.toNat ≤ 57) → numD s.data.toList = none := fun c hc hn => numD_bad (by rw [htr]; exact hc) hn
    have hval : ∀ m : Nat, Lib.decFrom 0 (s.data.toList.drop 1) = some m → numD s.data.toList = if Lib.itoa (-(m : Int)) = s.data.toList then some (-(m : Int)) else none := fun m hm => by
      have hne : s.data.toList.drop 1 ≠ [] := fun e => by have := congrArg List.length e; rw [List.length_drop, bytes_len] at this; simp at this; omega
      have := numD_neg hne (by rw [List.length_drop, bytes_len]; omega) hm
      have e : (45 : UInt8) :: s.data.toList.drop 1 = s.data.toList := by rw [← ea]; exact hl0.symm
      rw [e] at this
      exact this
    clear hl0 htr h45 ea h0 h1
    have HBad := Lib.hid hbad
    have HVal := Lib.hid hval
    clear hbad hval
    go_enter Tryz.func109, Tryz.ntmps109
    go_wp2
    go_loop [3, 5] (fun n i => ∃ (j m : Nat), 1 ≤ j ∧ j ≤ s.size ∧ i = .int .i64 j ∧ n = .int .i64 m ∧ Hid (Lib.decFrom 0 ((s.data.toList.drop 1).take (j - 1)) = some m) ∧ Hid (m < 10 ^ (j - 1))) (fun _ i => s.size - (intOf i).toNat)
    case atStart => exact ⟨1, 0, by omega, by omega, rfl, rfl, Lib.hid (by simp [Lib.decFrom]), Lib.hid (by simp)⟩
    case round =>
      obtain ⟨j, m, hj0, hj, rfl, rfl, HD, HM⟩ := hrel
      by_cases hlt : j < s.size
      · have t1 : decide ((j : Int) < (s.size : Int)) = true := by simp; omega
        have hm14 : m ≤ 99999999999999 := by
          have h1 := HM.out
          have h2 : 10 ^ (j - 1) ≤ 10 ^ 14 := Nat.pow_le_pow_right (by decide) (by omega)
          have h3 : (10 : Nat) ^ 14 = 100000000000000 := by decide
          omega
        obtain ⟨c, hc⟩ : ∃ c : UInt8, s[j] = c := ⟨_, rfl⟩
        have hcl := c.toNat_lt
        have hmem : c ∈ s.data.toList.drop 1 := by
          rw [← hc]
          have e : (s.data.toList.drop 1)[j - 1]'(by rw [List.length_drop, bytes_len]; omega) = s[j] := by
            rw [List.getElem_drop]
            have : 1 + (j - 1) = j := by omega
            simp only [this]
            rfl
          rw [← e]
          exact List.getElem_mem _
        by_cases h48 : c.toNat < 48
        · have t2 : decide ((c.toNat : Int) < 48) = true := by simp; omega
          have HNo := Lib.hid (HBad.out c hmem (by omega))
          clear hmem
          go_wp2
          refine bodyPost_ret (v := .agg #[.int .i64 0, .bool false]) (by simp [results, Tryz.results109, go_sem]) rfl ⟨by rw [HNo.out]; rfl, ?_⟩
          first | exact (Below.refl _ _).alloc (Nat.le_refl _) _ | exact (((Below.refl _ _).alloc (Nat.le_refl _) _).setCell (Nat.le_refl _) _).setCell (Nat.le_refl _) _
        have t2 : decide ((c.toNat : Int) < 48) = false := by simp; omega
        by_cases h57 : 57 < c.toNat
        · have t3 : decide ((57 : Int) < (c.toNat : Int)) = true := by simp; omega
          have HNo := Lib.hid (HBad.out c hmem (by omega))
          clear hmem
          go_wp2
          refine bodyPost_ret (v := .agg #[.int .i64 0, .bool false]) (by simp [results, Tryz.results109, go_sem]) rfl ⟨by rw [HNo.out]; rfl, ?_⟩
          first | exact (Below.refl _ _).alloc (Nat.le_refl _) _ | exact (((Below.refl _ _).alloc (Nat.le_refl _) _).setCell (Nat.le_refl _) _).setCell (Nat.le_refl _) _
        have t3 : decide ((57 : Int) < (c.toNat : Int)) = false := by simp; omega
        have hnew : Lib.decFrom 0 ((s.data.toList.drop 1).take (j + 1 - 1)) = some (m * 10 + (c.toNat - 48)) := by
          rw [show j + 1 - 1 = (j - 1) + 1 by omega, List.take_succ_eq_append_getElem (by rw [List.length_drop, bytes_len]; omega), decFrom_snoc, HD.out]
          have e : (s.data.toList.drop 1)[j - 1]'(by rw [List.length_drop, bytes_len]; omega) = c := by
            rw [← hc, List.getElem_drop]
            have : 1 + (j - 1) = j := by omega
            simp only [this]
            rfl
          rw [e]
          simp only [Option.bind_some, Lib.digitVal]
          rw [if_pos (by omega)]
          rfl
        have hpow : m * 10 + (c.toNat - 48) < 10 ^ (j + 1 - 1) := by
          rw [show j + 1 - 1 = (j - 1) + 1 by omega, Nat.pow_succ]
          have := HM.out
          omega
        have HNew := Lib.hid hnew
        have HPow := Lib.hid hpow
        clear hnew hpow hmem
        go_wp2
        go_round
        case rel => exact ⟨j + 1, m * 10 + (c.toNat - 48), by omega, by omega, by go_num, by (congr 1; omega), HNew, HPow⟩
        case measure => simp [intOf]; omega
      · obtain rfl : j = s.size := by omega
        have t1 : decide ((s.size : Int) < (s.size : Int)) = false := by simp
        have hd := HD.out
        rw [List.take_of_length_le (by rw [List.length_drop, bytes_len]; omega)] at hd
        have hm15 : m < 1000000000000000 := by
          have h1 := HM.out
          have h2 : 10 ^ (s.size - 1) ≤ 10 ^ 15 := Nat.pow_le_pow_right (by decide) (by omega)
          have h3 : (10 : Nat) ^ 15 = 1000000000000000 := by decide
          omega
        have hres := HVal.out m hd
        have hdg := fun w => digits_any (-(m : Int)) (by omega) (by omega) w
        obtain ⟨F, hF⟩ : ∃ F : ByteArray, F = ofL (Lib.itoa (-(m : Int))) := ⟨_, rfl⟩
        have hFl : Lib.itoa (-(m : Int)) = F.data.toList := by rw [hF, ofL_list]
        rw [← hF] at hdg
        rw [hFl] at hres
        have HDg := Lib.hid hdg
        clear hF hFl hdg hd HD HM
        by_cases he : F = s
        · have hr : numD s.data.toList = some (-(m : Int)) := by rw [hres, if_pos (by rw [he])]
          have HR := Lib.hid hr
          subst he
          clear hr hres
          go_wp2_with (go_at_call 26; refine (HDg.out _).mono ?_; rintro e w1 ⟨rfl, hb1⟩; have HB := Lib.hid hb1; have HX := Lib.hid (HBox.out.below hb1 (by simp)); obtain ⟨k0, k1, l0, l1⟩ := HX.out.cells; clear hb1)
          obtain ⟨q0, q1, _, _⟩ := (HX.out.store (-(m : Int)) true).cells
          refine bodyPost_ret (v := .agg #[.int .i64 (-(m : Int)), .bool true]) (by simp [results, Tryz.results109, go_sem, q0, q1]) rfl ⟨by rw [HR.out]; rfl, ?_⟩
          exact ((((Below.refl _ _).alloc (Nat.le_refl _) _).trans (HB.out.mono (by simp))).setCell (Nat.le_refl _) _).setCell (Nat.le_refl _) _
        · have hr : numD s.data.toList = none := by rw [hres, if_neg (fun e => he (bytes_ext e))]
          have HR := Lib.hid hr
          have t5 := str_ne he
          clear hr hres he
          go_wp2_with (go_at_call 26; refine (HDg.out _).mono ?_; rintro e w1 ⟨rfl, hb1⟩; have HB := Lib.hid hb1; have HX := Lib.hid (HBox.out.below hb1 (by simp)); obtain ⟨k0, k1, l0, l1⟩ := HX.out.cells; clear hb1)
          obtain ⟨q0, q1, _, _⟩ := (HX.out.store (0 : Int) false).cells
          refine bodyPost_ret (v := .agg #[.int .i64 0, .bool false]) (by simp [results, Tryz.results109, go_sem, q0, q1]) rfl ⟨by rw [HR.out]; rfl, ?_⟩
          exact ((((Below.refl _ _).alloc (Nat.le_refl _) _).trans (HB.out.mono (by simp))).setCell (Nat.le_refl _) _).setCell (Nat.le_refl _) _
  · have na : a ≠ 45 := fun e => h45 (by rw [e]; rfl)
    have t0 : ((a.toNat : Int) == 45) = false := by simp; omega
    have htr : Lib.trimPrefix s.data.toList [45] = s.data.toList := by rw [hl0]; exact trim_not na
    have t4 : ((s.size : Int) == 0) = false := by rw [beq_eq_false_iff_ne]; omega
    by_cases h15 : 15 < s.size
    · have HNo := Lib.hid (numD_long (l := s.data.toList) (by rw [htr, bytes_len]; exact h15))
      have t6 : decide ((15 : Int) < (s.size : Int)) = true := by simp; omega
      clear hl0 htr h45 na h0
      go_enter Tryz.func109, Tryz.ntmps109
      go_wp2
      refine bodyPost_ret (v := .agg #[.int .i64 0, .bool false]) (by simp [results, Tryz.results109, go_sem]) rfl ⟨by rw [HNo.out]; rfl, ?_⟩
      first | exact (Below.refl _ _).alloc (Nat.le_refl _) _ | exact (((Below.refl _ _).alloc (Nat.le_refl _) _).setCell (Nat.le_refl _) _).setCell (Nat.le_refl _) _
    have t6 : decide ((15 : Int) < (s.size : Int)) = false := by simp; omega
    have hbad : ∀ c ∈ s.data.toList.drop 0, ¬ (48 ≤ c.toNat ∧ c.toNat ≤ 57) → numD s.data.toList = none := fun c hc hn => numD_bad (by rw [htr]; exact hc) hn
    have hval : ∀ m : Nat, Lib.decFrom 0 (s.data.toList.drop 0) = some m → numD s.data.toList = if Lib.itoa (m : Int) = s.data.toList then some (m : Int) else none := fun m hm => numD_pos h0 (by rw [bytes_len]; omega) hm
    clear hl0 htr h45 na h0
    have HBad := Lib.hid hbad
    have HVal := Lib.hid hval
    clear hbad hval
    go_enter Tryz.func109, Tryz.ntmps109
    go_wp2
    go_loop [3, 5] (fun n i => ∃ (j m : Nat), 0 ≤ j ∧ j ≤ s.size ∧ i = .int .i64 j ∧ n = .int .i64 m ∧ Hid (Lib.decFrom 0 ((s.data.toList.drop 0).take (j - 0)) = some m) ∧ Hid (m < 10 ^ (j - 0))) (fun _ i => s.size - (intOf i).toNat)
    case atStart => exact ⟨0, 0, by omega, by omega, rfl, rfl, Lib.hid (by simp [Lib.decFrom]), Lib.hid (by simp)⟩
    case round =>
      obtain ⟨j, m, hj0, hj, rfl, rfl, HD, HM⟩ := hrel
      by_cases hlt : j < s.size
      · have t1 : decide ((j : Int) < (s.size : Int)) = true := by simp; omega
        have hm14 : m ≤ 99999999999999 := by
          have h1 := HM.out
          have h2 : 10 ^ (j - 0) ≤ 10 ^ 14 := Nat.pow_le_pow_right (by decide) (by omega)
          have h3 : (10 : Nat) ^ 14 = 100000000000000 := by decide
          omega
        obtain ⟨c, hc⟩ : ∃ c : UInt8, s[j] = c := ⟨_, rfl⟩
        have hcl := c.toNat_lt
        have hmem : c ∈ s.data.toList.drop 0 := by
          rw [← hc]
          have e : (s.data.toList.drop 0)[j - 0]'(by rw [List.length_drop, bytes_len]; omega) = s[j] := by
            rw [List.getElem_drop]
            have : 0 + (j - 0) = j := by omega
            simp only [this]
            rfl
          rw [← e]
          exact List.getElem_mem _
        by_cases h48 : c.toNat < 48
        · have t2 : decide ((c.toNat : Int) < 48) = true := by simp; omega
          have HNo := Lib.hid (HBad.out c hmem (by omega))
          clear hmem
          go_wp2
          refine bodyPost_ret (v := .agg #[.int .i64 0, .bool false]) (by simp [results, Tryz.results109, go_sem]) rfl ⟨by rw [HNo.out]; rfl, ?_⟩
          first | exact (Below.refl _ _).alloc (Nat.le_refl _) _ | exact (((Below.refl _ _).alloc (Nat.le_refl _) _).setCell (Nat.le_refl _) _).setCell (Nat.le_refl _) _
        have t2 : decide ((c.toNat : Int) < 48) = false := by simp; omega
        by_cases h57 : 57 < c.toNat
        · have t3 : decide ((57 : Int) < (c.toNat : Int)) = true := by simp; omega
          have HNo := Lib.hid (HBad.out c hmem (by omega))
          clear hmem
          go_wp2
          refine bodyPost_ret (v := .agg #[.int .i64 0, .bool false]) (by simp [results, Tryz.results109, go_sem]) rfl ⟨by rw [HNo.out]; rfl, ?_⟩
          first | exact (Below.refl _ _).alloc (Nat.le_refl _) _ | exact (((Below.refl _ _).alloc (Nat.le_refl _) _).setCell (Nat.le_refl _) _).setCell (Nat.le_refl _) _
        have t3 : decide ((57 : Int) < (c.toNat : Int)) = false := by simp; omega
        have hnew : Lib.decFrom 0 ((s.data.toList.drop 0).take (j + 1 - 0)) = some (m * 10 + (c.toNat - 48)) := by
          rw [show j + 1 - 0 = (j - 0) + 1 by omega, List.take_succ_eq_append_getElem (by rw [List.length_drop, bytes_len]; omega), decFrom_snoc, HD.out]
          have e : (s.data.toList.drop 0)[j - 0]'(by rw [List.length_drop, bytes_len]; omega) = c := by
            rw [← hc, List.getElem_drop]
            have : 0 + (j - 0) = j := by omega
            simp only [this]
            rfl
          rw [e]
          simp only [Option.bind_some, Lib.digitVal]
          rw [if_pos (by omega)]
          rfl
        have hpow : m * 10 + (c.toNat - 48) < 10 ^ (j + 1 - 0) := by
          rw [show j + 1 - 0 = (j - 0) + 1 by omega, Nat.pow_succ]
          have := HM.out
          omega
        have HNew := Lib.hid hnew
        have HPow := Lib.hid hpow
        clear hnew hpow hmem
        go_wp2
        go_round
        case rel => exact ⟨j + 1, m * 10 + (c.toNat - 48), by omega, by omega, by go_num, by (congr 1; omega), HNew, HPow⟩
        case measure => simp [intOf]; omega
      · obtain rfl : j = s.size := by omega
        have t1 : decide ((s.size : Int) < (s.size : Int)) = false := by simp
        have hd := HD.out
        rw [List.take_of_length_le (by rw [List.length_drop, bytes_len]; omega)] at hd
        have hm15 : m < 1000000000000000 := by
          have h1 := HM.out
          have h2 : 10 ^ (s.size - 0) ≤ 10 ^ 15 := Nat.pow_le_pow_right (by decide) (by omega)
          have h3 : (10 : Nat) ^ 15 = 1000000000000000 := by decide
          omega
        have hres := HVal.out m hd
        have hdg := fun w => digits_any ((m : Int)) (by omega) (by omega) w
        obtain ⟨F, hF⟩ : ∃ F : ByteArray, F = ofL (Lib.itoa ((m : Int))) := ⟨_, rfl⟩
        have hFl : Lib.itoa ((m : Int)) = F.data.toList := by rw [hF, ofL_list]
        rw [← hF] at hdg
        rw [hFl] at hres
        have HDg := Lib.hid hdg
        clear hF hFl hdg hd HD HM
        by_cases he : F = s
        · have hr : numD s.data.toList = some ((m : Int)) := by rw [hres, if_pos (by rw [he])]
          have HR := Lib.hid hr
          subst he
          clear hr hres
          go_wp2_with (go_at_call 26; refine (HDg.out _).mono ?_; rintro e w1 ⟨rfl, hb1⟩; have HB := Lib.hid hb1; have HX := Lib.hid (HBox.out.below hb1 (by simp)); obtain ⟨k0, k1, l0, l1⟩ := HX.out.cells; clear hb1)
          obtain ⟨q0, q1, _, _⟩ := (HX.out.store ((m : Int)) true).cells
          refine bodyPost_ret (v := .agg #[.int .i64 ((m : Int)), .bool true]) (by simp [results, Tryz.results109, go_sem, q0, q1]) rfl ⟨by rw [HR.out]; rfl, ?_⟩
          exact ((((Below.refl _ _).alloc (Nat.le_refl _) _).trans (HB.out.mono (by simp))).setCell (Nat.le_refl _) _).setCell (Nat.le_refl _) _
        · have hr : numD s.data.toList = none := by rw [hres, if_neg (fun e => he (bytes_ext e))]
          have HR := Lib.hid hr
          have t5 := str_ne he
          clear hr hres he
          go_wp2_with (go_at_call 26; refine (HDg.out _).mono ?_; rintro e w1 ⟨rfl, hb1⟩; have HB := Lib.hid hb1; have HX := Lib.hid (HBox.out.below hb1 (by simp)); obtain ⟨k0, k1, l0, l1⟩ := HX.out.cells; clear hb1)
          obtain ⟨q0, q1, _, _⟩ := (HX.out.store (0 : Int) false).cells
          refine bodyPost_ret (v := .agg #[.int .i64 0, .bool false]) (by simp [results, Tryz.results109, go_sem, q0, q1]) rfl ⟨by rw [HR.out]; rfl, ?_⟩
          exact ((((Below.refl _ _).alloc (Nat.le_refl _) _).trans (HB.out.mono (by simp))).setCell (Nat.le_refl _) _).setCell (Nat.le_refl _) _
end Go.Proofs.YtaapdipejpbdeaaGreatDoor

/- The document's Norm, SameVal: the walks. -/
namespace Go.Proofs.YtaapdipejpbdeaaGreatDoor
open Go.RowKit
set_option linter.unusedVariables false

theorem field_num0 (w : World) (v : Int) (b : Bool) : (Instr.field 145 (.agg #[.int .i64 v, .bool b]) 0).run Tryz.prog w = .ok (.int .i64 v) w := by kernel_rfl
theorem field_num1 (w : World) (v : Int) (b : Bool) : (Instr.field 145 (.agg #[.int .i64 v, .bool b]) 1).run Tryz.prog w = .ok (.bool b) w := by kernel_rfl
theorem field_said0 (w : World) (s : ByteArray) (b : Bool) : (Instr.field 61 (.agg #[.string s, .bool b]) 0).run Tryz.prog w = .ok (.string s) w := by kernel_rfl
theorem field_said1 (w : World) (s : ByteArray) (b : Bool) : (Instr.field 61 (.agg #[.string s, .bool b]) 1).run Tryz.prog w = .ok (.bool b) w := by kernel_rfl
def sB (o : Option (List UInt8)) : ByteArray := match o with
  | some x => ⟨x.toArray⟩
  | none => ⟨#[]⟩
theorem saidR_eq (o : Option (List UInt8)) : saidR o = .agg #[.string (sB o), .bool o.isSome] := by cases o <;> rfl
theorem saidV_eq (o : Option (List UInt8)) : saidV o = .agg #[.string (sB o), .bool o.isSome] := by cases o <;> rfl
theorem below_ab {w w1 w2 : World} {o : Obj} (h1 : Below (w.alloc o).heap.size (w.alloc o) w1) (h2 : Below w1.heap.size w1 w2) : Below w.heap.size w w2 :=
  ((Below.refl _ _).alloc (Nat.le_refl _) _).trans ((h1.trans (h2.mono h1.size)).mono (by simp))

set_option maxRecDepth 100000 in
set_option maxHeartbeats 8000000 in
theorem normRef_any (t s : ByteArray) (ht : t.size ≤ 281474976710656) (w : World) :
    Calls Tryz.prog 74 #[.string t, .string s] w fun e w' => e = .returned (saidR (normD (ruleD t.data.toList) s.data.toList)) ∧ Below w.heap.size w w' := by
  have hr := fun w => ruleRef_any t ht w
  generalize ruleD t.data.toList = r at hr ⊢
  have HR := Lib.hid hr
  clear hr
  have HBox := Lib.hid (boxS_new w ⟨#[]⟩ false)
  obtain ⟨q0, q1, _, _⟩ := (HBox.out.store ⟨#[]⟩ false).cells
  by_cases h0 : s.data.toList = []
  · obtain ⟨e1, e2⟩ := bytes_nil h0
    have HV := Lib.hid (show normD r s.data.toList = none by unfold normD; rw [if_pos (.inl h0)])
    clear h0
    go_enter Tryz.func74, Tryz.ntmps74
    go_wp2
    refine bodyPost_ret (v := .agg #[.string ⟨#[]⟩, .bool false]) (by simp [results, Tryz.results74, go_sem]) rfl ⟨by rw [HV.out]; rfl, ?_⟩
    first | exact (Below.refl _ _).alloc (Nat.le_refl _) _ | exact (((Below.refl _ _).alloc (Nat.le_refl _) _).setCell (Nat.le_refl _) _).setCell (Nat.le_refl _) _
  obtain ⟨e1, e2⟩ := bytes_some h0
  by_cases h100 : 100 < s.size
  · have t1 : decide ((100 : Int) < (s.size : Int)) = true := by simp; omega
    have HV := Lib.hid (show normD r s.data.toList = none by unfold normD; rw [if_pos (.inr (by rw [bytes_len]; exact h100))])
    clear h0
    go_enter Tryz.func74, Tryz.ntmps74
    go_wp2
    refine bodyPost_ret (v := .agg #[.string ⟨#[]⟩, .bool false]) (by simp [results, Tryz.results74, go_sem]) rfl ⟨by rw [HV.out]; rfl, ?_⟩
    first | exact (Below.refl _ _).alloc (Nat.le_refl _) _ | exact (((Below.refl _ _).alloc (Nat.le_refl _) _).setCell (Nat.le_refl _) _).setCell (Nat.le_refl _) _
  have t1 : decide ((100 : Int) < (s.size : Int)) = false := by simp; omega
  have hd : normD r s.data.toList = if r = 1 then (if fold s.data.toList = [] then none else some (fold s.data.toList)) else if r = 2 then (if (numD s.data.toList).isSome then some s.data.toList else none)
      else if r = 3 then (match keyD s.data.toList with | some k => if k = [] then none else some k | none => none) else if r = 4 then some s.data.toList else none := by
    unfold normD; rw [if_neg (by rw [bytes_len]; rintro (h | h); exact h0 h; exact h100 h)]; rfl
  have HD := Lib.hid hd
  clear hd h0 q0 q1
  by_cases h1 : r = 1
  · subst h1
    have hf := fun w => foldRef_any s w (by omega)
    obtain ⟨F, hF⟩ : ∃ F : ByteArray, F = foldB s := ⟨_, rfl⟩
    have hFl : fold s.data.toList = F.data.toList := by rw [hF]; simp [foldB]
    rw [← hF] at hf
    have HF := Lib.hid hf
    have hD : normD 1 s.data.toList = (if fold s.data.toList = [] then none else some (fold s.data.toList)) := HD.out.trans (if_pos rfl)
    rw [hFl] at hD
    clear hf hF hFl HD
    by_cases hne : F.data.toList = []
    · obtain ⟨n1, n2⟩ := bytes_nil hne
      rw [if_pos hne] at hD
      have hFe : F = ⟨#[]⟩ := bytes_ext hne
      have HD := Lib.hid hD
      have HFe := Lib.hid hFe
      clear hD hFe hne
      go_enter Tryz.func74, Tryz.ntmps74
      go_wp2_with (first | (go_at_call 25; refine (HR.out _).mono ?_; rintro e w1 ⟨rfl, hb1⟩; have HB := Lib.hid (((Below.refl _ _).alloc (Nat.le_refl _) _).trans (hb1.mono (by simp))); have HX := Lib.hid (HBox.out.below hb1 (by simp)); have hz1 : w.heap.size < w1.heap.size := (by have := hb1.size; simp at this; omega); obtain ⟨k0, k1, l0, l1⟩ := HX.out.cells; clear hb1) | (go_at_call 73; refine (HF.out _).mono ?_; rintro e w2 ⟨rfl, hb2⟩; have HB := Lib.hid (bthen HB.out hb2); have HX := Lib.hid (HX.out.below hb2 hz1); obtain ⟨k0, k1, l0, l1⟩ := HX.out.cells; have hz2 : w.heap.size < w2.heap.size := (by have := hb2.size; omega); clear hb2))
      obtain ⟨q0, q1, _, _⟩ := (HX.out.store F false).cells
      refine bodyPost_ret (v := .agg #[.string F, .bool false]) (by simp [results, Tryz.results74, go_sem, q0, q1]) rfl ⟨by rw [HD.out, HFe.out]; rfl, ?_⟩
      exact (HB.out.setCell (Nat.le_refl _) _).setCell (Nat.le_refl _) _
    · obtain ⟨n1, n2⟩ := bytes_some hne
      rw [if_neg hne] at hD
      have HD := Lib.hid hD
      clear hD hne
      go_enter Tryz.func74, Tryz.ntmps74
      go_wp2_with (first | (go_at_call 25; refine (HR.out _).mono ?_; rintro e w1 ⟨rfl, hb1⟩; have HB := Lib.hid (((Below.refl _ _).alloc (Nat.le_refl _) _).trans (hb1.mono (by simp))); have HX := Lib.hid (HBox.out.below hb1 (by simp)); have hz1 : w.heap.size < w1.heap.size := (by have := hb1.size; simp at this; omega); obtain ⟨k0, k1, l0, l1⟩ := HX.out.cells; clear hb1) | (go_at_call 73; refine (HF.out _).mono ?_; rintro e w2 ⟨rfl, hb2⟩; have HB := Lib.hid (bthen HB.out hb2); have HX := Lib.hid (HX.out.below hb2 hz1); obtain ⟨k0, k1, l0, l1⟩ := HX.out.cells; have hz2 : w.heap.size < w2.heap.size := (by have := hb2.size; omega); clear hb2))
      obtain ⟨q0, q1, _, _⟩ := (HX.out.store F true).cells
      refine bodyPost_ret (v := .agg #[.string F, .bool true]) (by simp [results, Tryz.results74, go_sem, q0, q1]) rfl ⟨by rw [HD.out]; simp [saidR], ?_⟩
      exact (HB.out.setCell (Nat.le_refl _) _).setCell (Nat.le_refl _) _
  have u1 : ((r : Int) == 1) = false := by simp; omega
  by_cases h2 : r = 2
  · subst h2
    have hn := fun w => numberRef_any s (by omega) w
    have hD : normD 2 s.data.toList = (if (numD s.data.toList).isSome = true then some s.data.toList else none) := (HD.out.trans (if_neg (by decide))).trans (if_pos rfl)
    clear u1 h1 HD
    have hfl := field_num1
    cases hnum : numD s.data.toList with
    | none =>
      rw [hnum] at hD hn
      simp only [numR] at hn
      have HF := Lib.hid hn
      have HD := Lib.hid hD
      clear hD hnum hn
      go_enter Tryz.func74, Tryz.ntmps74
      go_wp2_with (first | (go_at_call 25; refine (HR.out _).mono ?_; rintro e w1 ⟨rfl, hb1⟩; have HB := Lib.hid (((Below.refl _ _).alloc (Nat.le_refl _) _).trans (hb1.mono (by simp))); have HX := Lib.hid (HBox.out.below hb1 (by simp)); have hz1 : w.heap.size < w1.heap.size := (by have := hb1.size; simp at this; omega); obtain ⟨k0, k1, l0, l1⟩ := HX.out.cells; clear hb1) | (go_at_call 109; refine (HF.out _).mono ?_; rintro e w2 ⟨rfl, hb2⟩; have HB := Lib.hid (bthen HB.out hb2); have HX := Lib.hid (HX.out.below hb2 hz1); obtain ⟨k0, k1, l0, l1⟩ := HX.out.cells; have hz2 : w.heap.size < w2.heap.size := (by have := hb2.size; omega); clear hb2))
      obtain ⟨q0, q1, _, _⟩ := (HX.out.store ⟨#[]⟩ false).cells
      refine bodyPost_ret (v := .agg #[.string ⟨#[]⟩, .bool false]) (by simp [results, Tryz.results74, go_sem, q0, q1]) rfl ⟨by rw [HD.out]; rfl, ?_⟩
      exact (HB.out.setCell (Nat.le_refl _) _).setCell (Nat.le_refl _) _
    | some v =>
      rw [hnum] at hD hn
      simp only [numR] at hn
      have HF := Lib.hid hn
      have HD := Lib.hid hD
      clear hD hnum hn
      go_enter Tryz.func74, Tryz.ntmps74
      go_wp2_with (first | (go_at_call 25; refine (HR.out _).mono ?_; rintro e w1 ⟨rfl, hb1⟩; have HB := Lib.hid (((Below.refl _ _).alloc (Nat.le_refl _) _).trans (hb1.mono (by simp))); have HX := Lib.hid (HBox.out.below hb1 (by simp)); have hz1 : w.heap.size < w1.heap.size := (by have := hb1.size; simp at this; omega); obtain ⟨k0, k1, l0, l1⟩ := HX.out.cells; clear hb1) | (go_at_call 109; refine (HF.out _).mono ?_; rintro e w2 ⟨rfl, hb2⟩; have HB := Lib.hid (bthen HB.out hb2); have HX := Lib.hid (HX.out.below hb2 hz1); obtain ⟨k0, k1, l0, l1⟩ := HX.out.cells; have hz2 : w.heap.size < w2.heap.size := (by have := hb2.size; omega); clear hb2))
      obtain ⟨q0, q1, _, _⟩ := (HX.out.store s true).cells
      refine bodyPost_ret (v := .agg #[.string s, .bool true]) (by simp [results, Tryz.results74, go_sem, q0, q1]) rfl ⟨by rw [HD.out]; simp [saidR], ?_⟩
      exact (HB.out.setCell (Nat.le_refl _) _).setCell (Nat.le_refl _) _
  have u2 : ((r : Int) == 2) = false := by simp; omega
  by_cases h3 : r = 3
  · subst h3
    have hk := fun w => keyRef_any s (by omega) w
    have hD : normD 3 s.data.toList = (match keyD s.data.toList with | some k => if k = [] then none else some k | none => none) := ((HD.out.trans (if_neg (by decide))).trans (if_neg (by decide))).trans (if_pos rfl)
    clear u1 u2 h1 h2 HD
    cases hkey : keyD s.data.toList with
    | none =>
      rw [hkey] at hD hk
      simp only [saidV] at hk
      have HF := Lib.hid hk
      have HD := Lib.hid hD
      clear hD hkey hk
      go_enter Tryz.func74, Tryz.ntmps74
      go_wp2_with (first | (go_at_call 25; refine (HR.out _).mono ?_; rintro e w1 ⟨rfl, hb1⟩; have HB := Lib.hid (((Below.refl _ _).alloc (Nat.le_refl _) _).trans (hb1.mono (by simp))); have HX := Lib.hid (HBox.out.below hb1 (by simp)); have hz1 : w.heap.size < w1.heap.size := (by have := hb1.size; simp at this; omega); obtain ⟨k0, k1, l0, l1⟩ := HX.out.cells; clear hb1) | (go_at_call 33; refine (HF.out _).mono ?_; rintro e w2 ⟨rfl, hb2⟩; have HB := Lib.hid (bthen HB.out hb2); have HX := Lib.hid (HX.out.below hb2 hz1); obtain ⟨k0, k1, l0, l1⟩ := HX.out.cells; have hz2 : w.heap.size < w2.heap.size := (by have := hb2.size; omega); clear hb2))
      obtain ⟨q0, q1, _, _⟩ := (HX.out.store ⟨#[]⟩ false).cells
      refine bodyPost_ret (v := .agg #[.string ⟨#[]⟩, .bool false]) (by simp [results, Tryz.results74, go_sem, q0, q1, hz2]) rfl ⟨by rw [HD.out]; rfl, ?_⟩
      exact ((HB.out.setCell (Nat.le_refl _) _).setCell (Nat.le_refl _) _).alloc (by have := HB.out.size; simp; omega) _
    | some k =>
      rw [hkey] at hD hk
      obtain ⟨K, hKB⟩ : ∃ K : ByteArray, K = ⟨k.toArray⟩ := ⟨_, rfl⟩
      have hKl : k = K.data.toList := by rw [hKB]
      simp only [saidV, ← hKB] at hk
      have HF := Lib.hid hk
      clear hk hkey hKB
      simp only at hD
      subst hKl
      by_cases hne : K.data.toList = []
      · obtain ⟨n1, n2⟩ := bytes_nil hne
        rw [if_pos hne] at hD
        have HD := Lib.hid hD
        clear hD hne
        go_enter Tryz.func74, Tryz.ntmps74
        go_wp2_with (first | (go_at_call 25; refine (HR.out _).mono ?_; rintro e w1 ⟨rfl, hb1⟩; have HB := Lib.hid (((Below.refl _ _).alloc (Nat.le_refl _) _).trans (hb1.mono (by simp))); have HX := Lib.hid (HBox.out.below hb1 (by simp)); have hz1 : w.heap.size < w1.heap.size := (by have := hb1.size; simp at this; omega); obtain ⟨k0, k1, l0, l1⟩ := HX.out.cells; clear hb1) | (go_at_call 33; refine (HF.out _).mono ?_; rintro e w2 ⟨rfl, hb2⟩; have HB := Lib.hid (bthen HB.out hb2); have HX := Lib.hid (HX.out.below hb2 hz1); obtain ⟨k0, k1, l0, l1⟩ := HX.out.cells; have hz2 : w.heap.size < w2.heap.size := (by have := hb2.size; omega); clear hb2))
        obtain ⟨q0, q1, _, _⟩ := (HX.out.store ⟨#[]⟩ false).cells
        refine bodyPost_ret (v := .agg #[.string ⟨#[]⟩, .bool false]) (by simp [results, Tryz.results74, go_sem, q0, q1, hz2]) rfl ⟨by rw [HD.out]; rfl, ?_⟩
        exact ((HB.out.setCell (Nat.le_refl _) _).setCell (Nat.le_refl _) _).alloc (by have := HB.out.size; simp; omega) _
      · obtain ⟨n1, n2⟩ := bytes_some hne
        rw [if_neg hne] at hD
        have HD := Lib.hid hD
        clear hD hne
        go_enter Tryz.func74, Tryz.ntmps74
        go_wp2_with (first | (go_at_call 25; refine (HR.out _).mono ?_; rintro e w1 ⟨rfl, hb1⟩; have HB := Lib.hid (((Below.refl _ _).alloc (Nat.le_refl _) _).trans (hb1.mono (by simp))); have HX := Lib.hid (HBox.out.below hb1 (by simp)); have hz1 : w.heap.size < w1.heap.size := (by have := hb1.size; simp at this; omega); obtain ⟨k0, k1, l0, l1⟩ := HX.out.cells; clear hb1) | (go_at_call 33; refine (HF.out _).mono ?_; rintro e w2 ⟨rfl, hb2⟩; have HB := Lib.hid (bthen HB.out hb2); have HX := Lib.hid (HX.out.below hb2 hz1); obtain ⟨k0, k1, l0, l1⟩ := HX.out.cells; have hz2 : w.heap.size < w2.heap.size := (by have := hb2.size; omega); clear hb2))
        obtain ⟨q0, q1, _, _⟩ := (HX.out.store K true).cells
        refine bodyPost_ret (v := .agg #[.string K, .bool true]) (by simp [results, Tryz.results74, go_sem, q0, q1, hz2]) rfl ⟨by rw [HD.out]; simp [saidR], ?_⟩
        exact ((HB.out.setCell (Nat.le_refl _) _).setCell (Nat.le_refl _) _).alloc (by have := HB.out.size; simp; omega) _
  have u3 : ((r : Int) == 3) = false := by simp; omega
  have hD := HD.out
  rw [if_neg h1, if_neg h2, if_neg h3] at hD
  by_cases h4 : r = 4
  · subst h4
    rw [if_pos rfl] at hD
    have HD := Lib.hid hD
    clear hD u1 u2 u3 h1 h2 h3
    go_enter Tryz.func74, Tryz.ntmps74
    go_wp2_with (go_at_call 25; refine (HR.out _).mono ?_; rintro e w1 ⟨rfl, hb1⟩; have HB := Lib.hid (((Below.refl _ _).alloc (Nat.le_refl _) _).trans (hb1.mono (by simp))); have HX := Lib.hid (HBox.out.below hb1 (by simp)); have hz1 : w.heap.size < w1.heap.size := (by have := hb1.size; simp at this; omega); obtain ⟨k0, k1, l0, l1⟩ := HX.out.cells; clear hb1)
    obtain ⟨q0, q1, _, _⟩ := (HX.out.store s true).cells
    refine bodyPost_ret (v := .agg #[.string s, .bool true]) (by simp [results, Tryz.results74, go_sem, q0, q1]) rfl ⟨by rw [HD.out]; simp [saidR], ?_⟩
    exact (HB.out.setCell (Nat.le_refl _) _).setCell (Nat.le_refl _) _
  · rw [if_neg h4] at hD
    have u4 : ((r : Int) == 4) = false := by simp; omega
    have HD := Lib.hid hD
    clear hD h1 h2 h3 h4
    go_enter Tryz.func74, Tryz.ntmps74
    go_wp2_with (go_at_call 25; refine (HR.out _).mono ?_; rintro e w1 ⟨rfl, hb1⟩; have HB := Lib.hid (((Below.refl _ _).alloc (Nat.le_refl _) _).trans (hb1.mono (by simp))); have HX := Lib.hid (HBox.out.below hb1 (by simp)); have hz1 : w.heap.size < w1.heap.size := (by have := hb1.size; simp at this; omega); obtain ⟨k0, k1, l0, l1⟩ := HX.out.cells; clear hb1)
    obtain ⟨q0, q1, _, _⟩ := (HX.out.store ⟨#[]⟩ false).cells
    refine bodyPost_ret (v := .agg #[.string ⟨#[]⟩, .bool false]) (by simp [results, Tryz.results74, go_sem, q0, q1]) rfl ⟨by rw [HD.out]; rfl, ?_⟩
    exact (HB.out.setCell (Nat.le_refl _) _).setCell (Nat.le_refl _) _
end Go.Proofs.YtaapdipejpbdeaaGreatDoor

/- The document's SameVal, Less: the walks. -/
namespace Go.Proofs.YtaapdipejpbdeaaGreatDoor
open Go.RowKit
set_option linter.unusedVariables false

theorem normR_at (T s : ByteArray) (hT : T.size ≤ 281474976710656) (r : Nat) (hr : ruleD T.data.toList = r) (o : Option (List UInt8)) (h : normD r s.data.toList = o) (w : World) :
    Calls Tryz.prog 74 #[.string T, .string s] w fun e w' => e = .returned (.agg #[.string (sB o), .bool o.isSome]) ∧ Below w.heap.size w w' := by
  have := normRef_any T s hT w
  rw [hr, h, saidR_eq] at this
  exact this

set_option maxRecDepth 100000 in
set_option maxHeartbeats 8000000 in
theorem sameVal_any (t a b : ByteArray) (ht : t.size ≤ 281474976710656) (w : World) :
    Calls Tryz.prog 51 #[.string t, .string a, .string b] w fun e w' => e = .returned (.bool (sameO (normD (ruleD t.data.toList) a.data.toList) (normD (ruleD t.data.toList) b.data.toList))) ∧ Below w.heap.size w w' := by
  obtain ⟨r, hr⟩ : ∃ r, ruleD t.data.toList = r := ⟨_, rfl⟩
  obtain ⟨p, hp⟩ : ∃ p, normD r a.data.toList = p := ⟨_, rfl⟩
  obtain ⟨q, hq⟩ : ∃ q, normD r b.data.toList = q := ⟨_, rfl⟩
  have ha := fun w => normR_at t a ht r hr p hp w
  have hb := fun w => normR_at t b ht r hr q hq w
  rw [hr, hp, hq]
  have hs : sameO p q = ((p.isSome && q.isSome) && ((sB p).toList == (sB q).toList)) := by
    cases p <;> cases q <;> simp [sameO, sB, ByteArray.toList_eq]
  rw [hs]
  clear hs hr hp hq
  generalize sB p = X at ha ⊢
  generalize sB q = Y at hb ⊢
  generalize p.isSome = u at ha ⊢
  generalize q.isSome = v at hb ⊢
  have HA := Lib.hid ha
  have HQ := Lib.hid hb
  have tok : True := trivial
  clear ha hb
  go_enter Tryz.func51, Tryz.ntmps51
  go_wp2_with (go_at_call 74; first | (have _t := tok; (with_reducible refine (HA.out _).mono ?_); rintro e w1 ⟨rfl, hb1⟩; have HB := Lib.hid hb1; clear hb1 tok) | ((with_reducible refine (HQ.out _).mono ?_); rintro e w2 ⟨rfl, hb2⟩; have HB := Lib.hid (bthen HB.out hb2); clear hb2))
  all_goals
    go_ret
    exact ⟨by simp_all, (HB.out.alloc HB.out.size _).alloc (by have := HB.out.size; simp; omega) _⟩

def TwoAt (W : World) (b : Nat) (x y : Value) (w : World) : Prop := w.cell? ⟨b, 0, none⟩ = some x ∧ w.cell? ⟨b + 1, 0, none⟩ = some y ∧ b + 1 < W.heap.size ∧ Below W.heap.size W w
theorem TwoAt.go {W w w1 : World} {b : Nat} {x y : Value} (h : TwoAt W b x y w) (hb : Below w.heap.size w w1) : w1.cell? ⟨b, 0, none⟩ = some x ∧ w1.cell? ⟨b + 1, 0, none⟩ = some y ∧ TwoAt W b x y w1 := by
  obtain ⟨h1, h2, h3, h4⟩ := h
  have hs := h4.size
  have c1 := (hb.cell (p := ⟨b, 0, none⟩) (by show b < _; omega)).trans h1
  have c2 := (hb.cell (p := ⟨b + 1, 0, none⟩) (by show b + 1 < _; omega)).trans h2
  exact ⟨c1, c2, c1, c2, h3, h4.trans (hb.mono hs)⟩

end Go.Proofs.YtaapdipejpbdeaaGreatDoor

/- The document's Has: the walk. -/
namespace Go.Proofs.YtaapdipejpbdeaaGreatDoor
open Go.RowKit
set_option linter.unusedVariables false

set_option maxRecDepth 100000 in
set_option maxHeartbeats 4000000 in
theorem hasRef_any (D t x : ByteArray) (ht : t.size ≤ 281474976710656) (L : List AT) (hs : smallA L) (v : Value) (w : World) (h : IsA w.heap.size w L v) :
    Calls Tryz.prog 22 #[.agg #[.string D, v], .string t, .string x] w fun e w' => e = .returned (.bool ((findA L t.data.toList).any fun y => sameO (normD (ruleD t.data.toList) y) (normD (ruleD t.data.toList) x.data.toList))) ∧ Below w.heap.size w w' := by
  obtain ⟨a, c, hv, hm, _⟩ := id h
  obtain ⟨n, hn⟩ : ∃ n, n = L.length := ⟨_, rfl⟩
  rw [← hn] at hv
  subst hv
  have hbx := boxN_new w D (.slice a n c)
  have hB0 : Below w.heap.size w (w.alloc (.cells #[.string D, .slice a n c] 25)) := (Below.refl _ _).alloc (Nat.le_refl _) _
  have hva := valsRef_any D t ht L hs (.slice a n c) (w.alloc (.cells #[.string D, .slice a n c] 25)) (h.below hB0 hB0.size)
  obtain ⟨V, hV⟩ : ∃ V, V = findA L t.data.toList := ⟨_, rfl⟩
  rw [← hV] at hva ⊢
  obtain ⟨R, hR⟩ : ∃ R, R = V.any fun y => sameO (normD (ruleD t.data.toList) y) (normD (ruleD t.data.toList) x.data.toList) := ⟨_, rfl⟩
  rw [← hR]
  obtain ⟨m, hml⟩ : ∃ m, m = V.length := ⟨_, rfl⟩
  have HVa := Lib.hid hva
  have HR := Lib.hid hR
  have HMl := Lib.hid hml
  have HB0 := Lib.hid hB0
  have HSv := Lib.hid (fun Y W => sameVal_any t Y x ht W)
  clear hva hR hV hn hB0 h hbx hs hml
  go_enter Tryz.func22, Tryz.ntmps22
  go_wp2_with (go_at_call 20; refine (HVa.out).mono ?_; rintro e w2 ⟨u, rfl, hit, hb2⟩; (obtain ⟨ua, uc, hu, hum, huc⟩ := hit); (rw [← HMl.out] at hu hum); subst hu; have HUc := Lib.hid huc; have HB2 := Lib.hid (HB0.out.trans (hb2.mono HB0.out.size)); have HB3 := Lib.hid hb2; clear hb2 huc)
  unfold maxLen at hum
  go_loopw [8] (fun i wr => ∃ j : Nat, j ≤ m ∧ i = .int .i64 j ∧ Hid (∀ k (hk : k < V.length), k < j → sameO (normD (ruleD t.data.toList) V[k]) (normD (ruleD t.data.toList) x.data.toList) = false) ∧ Below w2.heap.size w2 wr) (fun i wr => m - (intOf i).toNat)
  case atStart => exact ⟨0, by omega, rfl, Lib.hid (fun k _ h => absurd h (by omega)), Below.refl _ _⟩
  case round =>
    obtain ⟨j, hj, rfl, HNo, hbel⟩ := hrel
    have HBr := Lib.hid hbel
    by_cases hlt : j < m
    · have t1 : decide ((j : Int) < (m : Int)) = true := by simp; omega
      have t1' : decide (j < m) = true := by simpa using hlt
      have hjV : j < V.length := by rw [← HMl.out]; exact hlt
      obtain ⟨b, off, rfl, hb0, c0⟩ := HUc.out j hjV
      obtain ⟨X, hX⟩ : ∃ X : ByteArray, ⟨V[j].toArray⟩ = X := ⟨_, rfl⟩
      have hXl : X.data.toList = V[j] := by rw [← hX]
      have d0 : (wr.cell? ⟨b, off + j, none⟩) = some (.string X) := by
        rw [hbel.cell (p := ⟨b, _, none⟩) (Nat.lt_of_lt_of_le hb0 HB3.out.size), HB3.out.cell (p := ⟨b, _, none⟩) hb0, c0, ← hX]; rfl
      have hsv := fun W => HSv.out X W
      rw [hXl] at hsv
      cases hq : sameO (normD (ruleD t.data.toList) V[j]) (normD (ruleD t.data.toList) x.data.toList) with
      | true =>
        rw [hq] at hsv
        have HS := Lib.hid hsv
        have HRt : Hid (R = true) := Lib.hid (by rw [HR.out, List.any_eq_true]; exact ⟨V[j], List.getElem_mem _, hq⟩)
        clear hsv hq hX hXl c0 hbel HNo
        go_wp2_with (go_at_call 51; refine (HS.out _).mono ?_; rintro e w3 ⟨rfl, hb3⟩; have HB4 := Lib.hid (bthen HBr.out hb3); clear hb3)
        go_ret
        exact ⟨by rw [HRt.out]; rfl, HB2.out.trans (HB4.out.mono HB2.out.size)⟩
      | false =>
        rw [hq] at hsv
        have HS := Lib.hid hsv
        have HN2 : Hid (∀ k (hk : k < V.length), k < j + 1 → sameO (normD (ruleD t.data.toList) V[k]) (normD (ruleD t.data.toList) x.data.toList) = false) := Lib.hid (fun k h1 h3 => by
          by_cases hk : k < j
          · exact HNo.out k h1 hk
          · obtain rfl : k = j := by omega
            exact hq)
        clear hsv hq hX hXl c0 hbel HNo
        go_wp2_with (go_at_call 51; refine (HS.out _).mono ?_; rintro e w3 ⟨rfl, hb3⟩; have HB4 := Lib.hid (bthen HBr.out hb3); clear hb3)
        go_roundw
        case rel => exact ⟨j + 1, by omega, by go_num, HN2, HB4.out⟩
        case measure => simp [intOf]; omega
    · obtain rfl : j = m := by omega
      have t1 : decide ((j : Int) < (j : Int)) = false := by simp
      have t1' : decide (j < j) = false := by simp
      have HRf : Hid (R = false) := Lib.hid (by
        rw [HR.out, List.any_eq_false]
        intro y hy
        obtain ⟨k, hk, rfl⟩ := List.getElem_of_mem hy
        rw [HNo.out k hk (by rw [HMl.out]; exact hk)]
        simp)
      go_wp2
      go_ret
      exact ⟨by rw [HRf.out]; rfl, HB2.out.trans (HBr.out.mono HB2.out.size)⟩
end Go.Proofs.YtaapdipejpbdeaaGreatDoor

/- The document's attrs: the walk. -/
namespace Go.Proofs.YtaapdipejpbdeaaGreatDoor
open Go.RowKit
set_option linter.unusedVariables false

/-- The code that the attributes have. -/
def AttrsR (L : List AT) (c : Int) : Prop := (c = 0 ∧ SndAt L L.length) ∨ (c ≠ 0 ∧ soundR [] L = .error c)
def BoxQ (w : World) (b : Nat) (x : ByteArray) (u : Value) : Prop := w.heap[b]? = some (.cells #[.string x, u] 31 (0, 0))
theorem BoxQ.cells {w : World} {b : Nat} {x : ByteArray} {u : Value} (h : BoxQ w b x u) : w.cell? ⟨b, 0, none⟩ = some (.string x) ∧ w.cell? ⟨b, 1, none⟩ = some u := by
  unfold BoxQ at h
  simp [World.cell?, h]
theorem World_drew_below {w w' : World} (h : Below w.drew.heap.size w.drew w') : Below w.heap.size w w' := (Below.refl w.heap.size w).drew.trans h
theorem attrP_dup {L : List AT} {j : Nat} {x : List UInt8} {I : Int} (h : AttrP L x I) {k : Nat} (hk : k < L.length) (hkj : k < j) (he : low L[k].1 = low x) : I < (j : Int) := by
  rcases h with ⟨q, hq, rfl, h1, h2⟩ | ⟨rfl, h2⟩
  · by_cases hqj : q ≤ k
    · omega
    · have := h2 k hk (by omega)
      rw [he] at this
      simp at this
  · omega
theorem attrP_no {L : List AT} {j : Nat} {x : List UInt8} {I : Int} (h : AttrP L x I) (hj : j < L.length) (hx : low L[j].1 = low x) (hno : ∀ k (hk : k < L.length), k < j → low L[k].1 ≠ low x) : ¬ I < (j : Int) := by
  rcases h with ⟨q, hq, rfl, h1, h2⟩ | ⟨rfl, h2⟩
  · intro hlt
    exact hno q hq (by omega) (by simpa using h1)
  · have := h2 j hj
    rw [hx] at this
    simp at this

set_option maxRecDepth 100000 in
set_option maxHeartbeats 8000000 in
theorem attrsRef_any (D : ByteArray) (L : List AT) (hs : smallA L) (v : Value) (w : World) (h : IsA w.heap.size w L v) :
    Calls Tryz.prog 34 #[.agg #[.string D, v]] w fun e w' => ∃ c, e = .returned (.int .i64 c) ∧ AttrsR L c ∧ Below w.heap.size w w' := by
  obtain ⟨a, c, hv, hm, hcell⟩ := id h
  obtain ⟨n, hn⟩ : ∃ n, n = L.length := ⟨_, rfl⟩
  rw [← hn] at hv hm
  subst hv
  unfold maxLen at hm
  obtain ⟨W0, hW0⟩ : ∃ W0, W0 = w.alloc (.cells #[.string D, .slice a n c] 25) := ⟨_, rfl⟩
  have hB0 : Below w.heap.size w W0 := by rw [hW0]; exact (Below.refl _ _).alloc (Nat.le_refl _) _
  have hbx : BoxN W0 w.heap.size D (.slice a n c) := by rw [hW0]; exact boxN_new _ _ _
  have hz0 : W0.heap.size = w.heap.size + 1 := by rw [hW0]; simp
  have HN := Lib.hid hn
  have HC := Lib.hid hcell
  have HS := Lib.hid hs
  have HB0 := Lib.hid hB0
  have HBx := Lib.hid hbx
  have HW0 := Lib.hid hW0.symm
  have HA := Lib.hid h
  clear hcell hn hs hB0 hbx hW0 h
  go_enter Tryz.func34, Tryz.ntmps34
  go_upto_region 1 with (fail)
  rw [HW0.out]
  go_wp2
  go_loopw [3] (fun i wr => ∃ j : Nat, j ≤ n ∧ i = .int .i64 j ∧ Hid (SndAt L j) ∧ Below W0.heap.size W0 wr) (fun i wr => n - (intOf i).toNat)
  case atStart => exact ⟨0, by omega, rfl, Lib.hid (snd_zero L), Below.refl _ _⟩
  case round =>
    obtain ⟨j, hj, rfl, HSn, hbel⟩ := hrel
    rename World => wo
    have HBr := Lib.hid hbel
    have HBw := Lib.hid (HB0.out.trans (hbel.mono HB0.out.size))
    have hbs := hbel.size
    obtain ⟨x0, x1⟩ := (HBx.out.below hbel (by omega)).cells
    by_cases hlt : j < n
    · have t1 : decide ((j : Int) < (n : Int)) = true := by simp; omega
      have t1' : decide (j < n) = true := by simpa using hlt
      have hlL : j < L.length := by rw [← HN.out]; exact hlt
      obtain ⟨b, off, u, rfl, hb0, c0, c1, hit⟩ := HC.out j hlL
      obtain ⟨V, hV⟩ : ∃ V, V = L[j].2 := ⟨_, rfl⟩
      rw [← hV] at hit
      obtain ⟨ua, uc, hu, hum, huc⟩ := hit
      obtain ⟨m, hml⟩ : ∃ m, m = V.length := ⟨_, rfl⟩
      rw [← hml] at hu hum
      subst hu
      unfold maxLen at hum
      have HV := Lib.hid hV
      have HMl := Lib.hid hml
      clear hV hml
      obtain ⟨X, hX⟩ : ∃ X : ByteArray, ⟨L[j].1.toArray⟩ = X := ⟨_, rfl⟩
      have hXl : X.data.toList = L[j].1 := by rw [← hX]
      have d0 : (wo.cell? ⟨b, off + j * 2, none⟩) = some (.string X) := by
        rw [HBw.out.cell (p := ⟨b, off + j * 2, none⟩) hb0, c0, ← hX]; rfl
      have d1 : (wo.cell? ⟨b, off + j * 2 + 1, none⟩) = some (.slice ua m uc) := by
        rw [HBw.out.cell (p := ⟨b, off + j * 2 + 1, none⟩) hb0, c1]
      have hXs : X.size ≤ 281474976710656 := by
        have := (HS.out.2 L[j] (List.getElem_mem _)).1
        rw [← bytes_len, hXl]; omega
      have hbA : Below wo.heap.size wo (wo.alloc (.cells #[.string X, .slice ua m uc] 31)) := (Below.refl _ _).alloc (Nat.le_refl _) _
      have hqx : BoxQ (wo.alloc (.cells #[.string X, .slice ua m uc] 31)) wo.heap.size X (.slice ua m uc) := heap_alloc_new wo _
      have hwz : (wo.alloc (.cells #[.string X, .slice ua m uc] 31)).heap.size = wo.heap.size + 1 := by simp
      go_upto_region 5 with (fail)
      generalize wo.alloc (.cells #[.string X, .slice ua m uc] 31) = W1 at hbA hqx hwz ⊢
      have HB1 := Lib.hid (bthen HBw.out hbA)
      have HB01 := Lib.hid (bthen HBr.out hbA)
      have hw1 : w.heap.size < W1.heap.size := by omega
      have hq1 : wo.heap.size < W1.heap.size := by omega
      obtain ⟨gq, hgq⟩ : ∃ g, g = wo.heap.size := ⟨_, rfl⟩
      rw [← hgq] at hqx hq1 ⊢
      have HKc : Hid (∀ wx, Below W1.heap.size W1 wx → (wx.cell? ⟨w.heap.size, 0, none⟩ = some (.string D) ∧ wx.cell? ⟨w.heap.size, 1, none⟩ = some (.slice (some ⟨b, off, none⟩) n c)) ∧ (wx.cell? ⟨gq, 0, none⟩ = some (.string X) ∧ wx.cell? ⟨gq, 1, none⟩ = some (.slice ua m uc))) := Lib.hid (fun wx hb => ⟨((HBx.out.below HB01.out (by omega)).below hb hw1).cells, (show BoxQ wx gq X (.slice ua m uc) from (hb.block gq hq1).trans hqx).cells⟩)
      have HUc : Hid (∀ wx, Below W1.heap.size W1 wx → ∀ k (hk : k < V.length), ∃ vb vo, ua = some ⟨vb, vo, none⟩ ∧ ∃ Y : ByteArray, Y.data.toList = V[k] ∧ wx.cell? ⟨vb, vo + k, none⟩ = some (.string Y) ∧ vb < W1.heap.size) := Lib.hid (fun wx hb k hk => by
        obtain ⟨vb, vo, e, hvb, hc⟩ := huc k hk
        refine ⟨vb, vo, e, ⟨V[k].toArray⟩, rfl, ?_, by omega⟩
        rw [hb.cell (p := ⟨vb, _, none⟩) (by show vb < _; omega), HB1.out.cell (p := ⟨vb, _, none⟩) hvb, hc]
        rfl)
      have hru := fun W => ruleRef_any X hXs W
      have hat := fun W (hb : Below W1.heap.size W1 W) => attrRef_any D X hXs L HS.out (.slice (some ⟨b, off, none⟩) n c) W ((HA.out.below HB1.out HB1.out.size).below hb hb.size)
      have hno := fun Y W => normRef_any X Y hXs W
      have hsv := fun Y Z W => sameVal_any X Y Z hXs W
      rw [hXl] at hru hat hno hsv
      obtain ⟨T, hT⟩ : ∃ T, T = L[j].1 := ⟨_, rfl⟩
      obtain ⟨r, hr⟩ : ∃ r, r = ruleD T := ⟨_, rfl⟩
      rw [← hT] at hru hat
      simp only [← hT, ← hr] at hru hno hsv
      have HRu := Lib.hid hru
      have HAt := Lib.hid hat
      have HNo := Lib.hid hno
      have HSv := Lib.hid hsv
      have HT := Lib.hid hT
      have HR := Lib.hid hr
      have HTz := Lib.hid (Below.refl W1.heap.size W1)
      obtain ⟨⟨x0, x1⟩, ⟨q0, q1⟩⟩ := HKc.out _ (Below.refl _ _)
      clear hru hat hno hsv hT hr hX hXl c0 c1 d0 d1 huc hbA hqx hbel hgq
      by_cases hr0 : r = 0
      · have t2 : ((r : Int) == 0) = true := by simp [hr0]
        have t2' : decide ((r : Int) = 0) = true := by simp [hr0]
        have HE : Hid (AttrsR L 17) := Lib.hid (.inr ⟨by decide, snd_rule HSn.out hlL (by rw [← HT.out, ← HR.out]; exact hr0)⟩)
        clear hr0
        go_wp2_with (first | (go_at_call 25; ((with_reducible refine (HRu.out _).mono ?_); rintro e wx ⟨rfl, hbx⟩); have HTz := Lib.hid (bthen HTz.out hbx); obtain ⟨⟨x0, x1⟩, ⟨q0, q1⟩⟩ := HKc.out _ HTz.out; clear hbx))
        go_ret
        exact ⟨_, rfl, HE.out, bthen HB1.out HTz.out⟩
      · have t0 : True := trivial
        have t2 : ((r : Int) == 0) = false := by simp; omega
        have t2' : decide ((r : Int) = 0) = false := by simp; omega
        have HR0 : Hid (ruleD L[j].1 ≠ 0) := Lib.hid (by rw [← HT.out, ← HR.out]; exact hr0)
        clear hr0
        by_cases hdup : ∃ k, ∃ hk : k < L.length, k < j ∧ low L[k].1 = low T
        · obtain ⟨k, hk, hkj, hke⟩ := hdup
          have HDu := Lib.hid (show ∀ I, AttrP L T I → I < (j : Int) from fun I h => attrP_dup h hk hkj hke)
          have HE : Hid (AttrsR L 20) := Lib.hid (.inr ⟨by decide, snd_has HSn.out hlL HR0.out hk hkj (by rw [hke, HT.out])⟩)
          clear hk hkj hke
          go_wp2_with (first | (go_at_call 25; ((with_reducible refine (HRu.out _).mono ?_); rintro e wx ⟨rfl, hbx⟩); have HTz := Lib.hid (bthen HTz.out hbx); obtain ⟨⟨x0, x1⟩, ⟨q0, q1⟩⟩ := HKc.out _ HTz.out; clear hbx) | (go_at_call 47; refine (HAt.out _ HTz.out).mono ?_; rintro e wx ⟨I, rfl, hI, hbx⟩; have t3 : decide (I < (j : Int)) = true := (by have := HDu.out I hI; simp; omega); have HTz := Lib.hid (bthen HTz.out hbx); obtain ⟨⟨x0, x1⟩, ⟨q0, q1⟩⟩ := HKc.out _ HTz.out; clear hbx hI))
          go_ret
          exact ⟨_, rfl, HE.out, bthen HB1.out HTz.out⟩
        · have HND := Lib.hid (show ∀ k (hk : k < L.length), k < j → low L[k].1 ≠ low T from fun k hk hkj e => hdup ⟨k, hk, hkj, e⟩)
          have HDn := Lib.hid (show ∀ I, AttrP L T I → ¬ I < (j : Int) from fun I h => attrP_no h hlL (by rw [HT.out]) HND.out)
          have HND2 : Hid (∀ k (hk : k < L.length), k < j → low L[k].1 ≠ low L[j].1) := Lib.hid (by rw [← HT.out]; exact HND.out)
          clear hdup
          go_upto_region 9 with (first | (go_at_call 25; ((with_reducible refine (HRu.out _).mono ?_); rintro e wx ⟨rfl, hbx⟩); have HTz := Lib.hid (bthen HTz.out hbx); obtain ⟨⟨x0, x1⟩, ⟨q0, q1⟩⟩ := HKc.out _ HTz.out; clear hbx) | (go_at_call 47; refine (HAt.out _ HTz.out).mono ?_; rintro e wx ⟨I, rfl, hI, hbx⟩; have t3 : decide (I < (j : Int)) = false := (by have := HDn.out I hI; simp; omega); have HTz := Lib.hid (bthen HTz.out hbx); obtain ⟨⟨x0, x1⟩, ⟨q0, q1⟩⟩ := HKc.out _ HTz.out; clear hbx hI))
          have HVe : Hid (valsC (low L[j].1) L[j].2 = valsC (low T) V) := Lib.hid (by rw [← HT.out, ← HV.out])
          by_cases hbad : cntBad r m
          · have HE : Hid (AttrsR L 19) := Lib.hid (.inr ⟨by decide, snd_bad HSn.out hlL HR0.out HND2.out (HVe.out.trans (vals_many (by rw [← HR.out, ← HMl.out]; exact hbad))) (by decide)⟩)
            by_cases hm0 : m = 0
            · have s1 : ((m : Int) == 0) = true := by simp [hm0]
              have s1' : decide ((m : Int) = 0) = true := by simp [hm0]
              clear hm0 hbad
              go_wp2_with (first | (go_at_call 25; ((with_reducible refine (HRu.out _).mono ?_); rintro e wx ⟨rfl, hbx⟩); have HTz := Lib.hid (bthen HTz.out hbx); obtain ⟨⟨x0, x1⟩, ⟨q0, q1⟩⟩ := HKc.out _ HTz.out; clear hbx))
              go_ret
              exact ⟨_, rfl, HE.out, bthen HB1.out HTz.out⟩
            · have s1 : ((m : Int) == 0) = false := by simp; omega
              have s1' : decide ((m : Int) = 0) = false := by simp; omega
              by_cases hm4 : 40 < m
              · have s2 : decide ((40 : Int) < (m : Int)) = true := by simp; omega
                clear hm0 hbad hm4
                go_wp2_with (first | (go_at_call 25; ((with_reducible refine (HRu.out _).mono ?_); rintro e wx ⟨rfl, hbx⟩); have HTz := Lib.hid (bthen HTz.out hbx); obtain ⟨⟨x0, x1⟩, ⟨q0, q1⟩⟩ := HKc.out _ HTz.out; clear hbx))
                go_ret
                exact ⟨_, rfl, HE.out, bthen HB1.out HTz.out⟩
              · have s2 : decide ((40 : Int) < (m : Int)) = false := by simp; omega
                have hr2 : r = 2 ∧ 1 < m := by rcases hbad with h | h | h <;> omega
                have s3 : ((r : Int) == 2) = true := by simp [hr2.1]
                have s3' : decide ((r : Int) = 2) = true := by simp [hr2.1]
                have s4 : decide ((1 : Int) < (m : Int)) = true := by simp; omega
                clear hm0 hbad hm4 hr2
                go_wp2_with (first | (go_at_call 25; ((with_reducible refine (HRu.out _).mono ?_); rintro e wx ⟨rfl, hbx⟩); have HTz := Lib.hid (bthen HTz.out hbx); obtain ⟨⟨x0, x1⟩, ⟨q0, q1⟩⟩ := HKc.out _ HTz.out; clear hbx))
                go_ret
                exact ⟨_, rfl, HE.out, bthen HB1.out HTz.out⟩
          · have hm0 : ¬ m = 0 := fun e => hbad (.inl e)
            have hm4 : ¬ 40 < m := fun e => hbad (.inr (.inl e))
            have s1 : ((m : Int) == 0) = false := by simp; omega
            have s1' : decide ((m : Int) = 0) = false := by simp; omega
            have s2 : decide ((40 : Int) < (m : Int)) = false := by simp; omega
            have HBd : Hid (¬ cntBad (ruleD T) V.length) := Lib.hid (by rw [← HR.out, ← HMl.out]; exact hbad)
            have hbw := fun (h : r = 2) => show ¬ 1 < m from fun e => hbad (.inr (.inr ⟨h, e⟩))
            go_cut [32] from 32 to 54 (fun s32 wx => s32 = .bool false ∧ Below W1.heap.size W1 wx)
            case first =>
              by_cases hr2 : r = 2
              · have s3 : ((r : Int) == 2) = true := by simp [hr2]
                have s3' : decide ((r : Int) = 2) = true := by simp [hr2]
                have s4 : decide ((1 : Int) < (m : Int)) = false := by have := hbw hr2; simp; omega
                clear hm0 hbad hm4 hr2 hbw
                go_wp2_with (first | (go_at_call 25; ((with_reducible refine (HRu.out _).mono ?_); rintro e wx ⟨rfl, hbx⟩); have HTz := Lib.hid (bthen HTz.out hbx); obtain ⟨⟨x0, x1⟩, ⟨q0, q1⟩⟩ := HKc.out _ HTz.out; clear hbx))
                go_meet
                exact ⟨rfl, HTz.out⟩
              · have s3 : ((r : Int) == 2) = false := by simp; omega
                have s3' : decide ((r : Int) = 2) = false := by simp; omega
                clear hm0 hbad hm4 hr2 hbw
                go_wp2_with (first | (go_at_call 25; ((with_reducible refine (HRu.out _).mono ?_); rintro e wx ⟨rfl, hbx⟩); have HTz := Lib.hid (bthen HTz.out hbx); obtain ⟨⟨x0, x1⟩, ⟨q0, q1⟩⟩ := HKc.out _ HTz.out; clear hbx))
                go_meet
                exact ⟨rfl, HTz.out⟩
            case rest =>
              obtain ⟨rfl, hcut⟩ := hcut
              rename World => wc0
              have HTc := Lib.hid hcut
              obtain ⟨⟨x0, x1⟩, ⟨q0, q1⟩⟩ := HKc.out _ hcut
              clear hcut hm0 hm4 hbw hbad s1 s1' s2
              go_wp2
              go_loopw [5] (fun i wr => ∃ k : Nat, k ≤ m ∧ i = .int .i64 k ∧ Hid (∀ q (hq : q < V.length), q < k → normD r V[q] ≠ none) ∧ Below W1.heap.size W1 wr) (fun i wr => m - (intOf i).toNat)
              case atStart => exact ⟨0, by omega, rfl, Lib.hid (fun q _ h => absurd h (by omega)), HTc.out⟩
              case round =>
                obtain ⟨k, hk, rfl, HAl, hbel⟩ := hrel
                rename World => wp
                have HTp := Lib.hid hbel
                obtain ⟨⟨x0, x1⟩, ⟨q0, q1⟩⟩ := HKc.out _ hbel
                by_cases hkm : k < m
                · have r1 : decide ((k : Int) < (m : Int)) = true := by simp; omega
                  have r1' : decide (k < m) = true := by simpa using hkm
                  have r2 : (0 : Int) ≤ (k : Int) := by omega
                  have r3 : (k : Int) < (m : Int) := by omega
                  have hkV : k < V.length := by rw [← HMl.out]; exact hkm
                  obtain ⟨vb, vo, rfl, Y, hY, hyc, hvb⟩ := HUc.out _ hbel k hkV
                  have HKy : Hid (∀ wx, Below W1.heap.size W1 wx → (wx.cell? ⟨gq, 0, none⟩ = some (.string X) ∧ wx.cell? ⟨gq, 1, none⟩ = some (.slice (some ⟨vb, vo, none⟩) m uc) ∧ wx.cell? ⟨vb, vo + k, none⟩ = some (.string Y))) := Lib.hid (fun wx hb => ⟨(HKc.out _ hb).2.1, (HKc.out _ hb).2.2, by
                    obtain ⟨vb', vo', e, Y', hY', hc', _⟩ := HUc.out _ hb k hkV
                    simp only [Option.some.injEq, Addr.mk.injEq, and_true] at e
                    obtain ⟨rfl, rfl⟩ := e
                    rw [hc', show Y' = Y from bytes_ext (by rw [hY', hY])]⟩)
                  have hst0 := HKy.out wp.drew hbel.drew
                  have hq := fun W => HNo.out Y W
                  rw [hY] at hq
                  cases hnq : normD r V[k] with
                  | none =>
                    rw [hnq] at hq
                    have HQ := Lib.hid (show ∀ W, Calls Tryz.prog 74 #[.string X, .string Y] W fun e w' => e = .returned (.agg #[.string ⟨#[]⟩, .bool false]) ∧ Below W.heap.size W w' from hq)
                    have HE : Hid (AttrsR L 21) := Lib.hid (.inr ⟨by decide, snd_bad HSn.out hlL HR0.out HND2.out (HVe.out.trans (vals_no HBd.out hkV (by rw [← HR.out]; exact hnq))) (by decide)⟩)
                    have fs := fun (W : World) => field_said1 W ⟨#[]⟩ false
                    clear hq hnq hY hyc hbel HAl
                    go_upto_region 14 with (fail)
                    go_region_held3 (fun w' => w'.cell? ⟨gq, 0, none⟩ = some (.string X) ∧ w'.cell? ⟨gq, 1, none⟩ = some (.slice (some ⟨vb, vo, none⟩) m uc) ∧ w'.cell? ⟨vb, vo + k, none⟩ = some (.string Y)) (first | (with_reducible exact hst0) | (with_reducible exact hst1)) (first | (go_at_call 74; ((with_reducible refine (HQ.out _).mono ?_); rintro e wx ⟨rfl, hbx⟩); have HTx := Lib.hid (bthen HTp.out (World_drew_below hbx)); have hst1 := HKy.out _ HTx.out; clear hbx))
                    all_goals
                      go_split_ands
                      go_simp
                      go_wp2
                      go_ret
                      exact ⟨_, rfl, HE.out, bthen HB1.out HTx.out⟩
                  | some z =>
                    rw [hnq] at hq
                    have HQ := Lib.hid (show ∀ W, Calls Tryz.prog 74 #[.string X, .string Y] W fun e w' => e = .returned (.agg #[.string ⟨z.toArray⟩, .bool true]) ∧ Below W.heap.size W w' from hq)
                    have HA2 : Hid (∀ q (hq : q < V.length), q < k + 1 → normD r V[q] ≠ none) := Lib.hid (fun q h1 h3 => by
                      by_cases hk : q < k
                      · exact HAl.out q h1 hk
                      · obtain rfl : q = k := by omega
                        rw [hnq]
                        simp)
                    have fs := fun (W : World) => field_said1 W ⟨z.toArray⟩ true
                    clear hq hnq hY hyc hbel HAl
                    go_upto_region 14 with (fail)
                    go_region_held3 (fun w' => w'.cell? ⟨gq, 0, none⟩ = some (.string X) ∧ w'.cell? ⟨gq, 1, none⟩ = some (.slice (some ⟨vb, vo, none⟩) m uc) ∧ w'.cell? ⟨vb, vo + k, none⟩ = some (.string Y)) (first | (with_reducible exact hst0) | (with_reducible exact hst1)) (first | (go_at_call 74; ((with_reducible refine (HQ.out _).mono ?_); rintro e wx ⟨rfl, hbx⟩); have HTx := Lib.hid (bthen HTp.out (World_drew_below hbx)); have hst1 := HKy.out _ HTx.out; clear hbx))
                    all_goals
                      go_split_ands
                      go_simp
                      go_wp2
                      go_roundw
                      case rel => exact ⟨k + 1, by omega, by go_num, HA2, HTx.out⟩
                      case measure => simp [intOf]; omega
                · obtain rfl : k = m := by omega
                  have r1 : decide ((k : Int) < (k : Int)) = false := by simp
                  have r1' : decide (k < k) = false := by simp
                  have HAll : Hid (∀ q (hq : q < V.length), normD (ruleD T) V[q] ≠ none) := Lib.hid (fun q hq => by rw [← HR.out]; exact HAl.out q hq (by rw [HMl.out]; exact hq))
                  clear hbel HAl
                  go_wp2
                  clear r1 r1'
                  go_loopw [6] (fun i wr => ∃ e : Nat, e ≤ k ∧ i = .int .i64 e ∧ Hid (∀ y (hy : y < V.length), y < e → ∀ x (hx : x < y), sameO (normD (ruleD T) V[x]) (normD (ruleD T) V[y]) = false) ∧ Below W1.heap.size W1 wr) (fun i wr => k - (intOf i).toNat)
                  case atStart => exact ⟨0, by omega, rfl, Lib.hid (fun q _ h => absurd h (by omega)), HTp.out⟩
                  case round =>
                    obtain ⟨e, he, rfl, HSa, hbel⟩ := hrel
                    rename World => wp2
                    have HTp2 := Lib.hid hbel
                    obtain ⟨⟨x0, x1⟩, ⟨q0, q1⟩⟩ := HKc.out _ hbel
                    by_cases hek : e < k
                    · have r1 : decide ((e : Int) < (k : Int)) = true := by simp; omega
                      have r1' : decide (e < k) = true := by simpa using hek
                      have r2 : (0 : Int) ≤ (e : Int) := by omega
                      have r3 : (e : Int) < (k : Int) := by omega
                      have heV : e < V.length := by rw [← HMl.out]; exact hek
                      clear hbel
                      go_wp2
                      clear r1 r1'
                      go_loopw [7] (fun i wr => ∃ f : Nat, f ≤ e ∧ i = .int .i64 f ∧ Hid (∀ x (hx : x < f) (hxV : x < V.length), sameO (normD (ruleD T) V[x]) (normD (ruleD T) V[e]) = false) ∧ Below W1.heap.size W1 wr) (fun i wr => e - (intOf i).toNat)
                      case atStart => exact ⟨0, by omega, rfl, Lib.hid (fun x h => absurd h (by omega)), HTp2.out⟩
                      case round =>
                        obtain ⟨f, hf, rfl, HSf, hbel⟩ := hrel
                        rename World => wq
                        have HTq := Lib.hid hbel
                        obtain ⟨⟨x0, x1⟩, ⟨q0, q1⟩⟩ := HKc.out _ hbel
                        by_cases hfe : f < e
                        · have r1 : decide ((f : Int) < (e : Int)) = true := by simp; omega
                          have r1' : decide (f < e) = true := by simpa using hfe
                          have r4 : (0 : Int) ≤ (f : Int) := by omega
                          have r5 : (f : Int) < (k : Int) := by omega
                          have hfV : f < V.length := by omega
                          obtain ⟨vb, vo, rfl, Y, hY, hyc, hvb⟩ := HUc.out _ hbel f hfV
                          have HKz : ∀ wx, Below W1.heap.size W1 wx → ∃ Z : ByteArray, Z.data.toList = V[e] ∧ wx.cell? ⟨vb, vo + e, none⟩ = some (.string Z) := fun wx hb => by
                            obtain ⟨vb', vo', e', Z, hZ, hc', _⟩ := HUc.out _ hb e heV
                            simp only [Option.some.injEq, Addr.mk.injEq, and_true] at e'
                            obtain ⟨rfl, rfl⟩ := e'
                            exact ⟨Z, hZ, hc'⟩
                          obtain ⟨Z, hZ, hzc⟩ := HKz _ hbel
                          have HKy : Hid (∀ wx, Below W1.heap.size W1 wx → (wx.cell? ⟨gq, 0, none⟩ = some (.string X) ∧ wx.cell? ⟨gq, 1, none⟩ = some (.slice (some ⟨vb, vo, none⟩) k uc) ∧ wx.cell? ⟨vb, vo + f, none⟩ = some (.string Y) ∧ wx.cell? ⟨vb, vo + e, none⟩ = some (.string Z))) := Lib.hid (fun wx hb => ⟨(HKc.out _ hb).2.1, (HKc.out _ hb).2.2, by
                            obtain ⟨vb', vo', e', Y', hY', hc', _⟩ := HUc.out _ hb f hfV
                            simp only [Option.some.injEq, Addr.mk.injEq, and_true] at e'
                            obtain ⟨rfl, rfl⟩ := e'
                            rw [hc', show Y' = Y from bytes_ext (by rw [hY', hY])], by
                            obtain ⟨Z', hZ', hc'⟩ := HKz _ hb
                            rw [hc', show Z' = Z from bytes_ext (by rw [hZ', hZ])]⟩)
                          have hst0 := HKy.out wq.drew hbel.drew
                          have hq := fun W => HSv.out Y Z W
                          rw [hY, hZ, HR.out] at hq
                          cases hsq : sameO (normD (ruleD T) V[f]) (normD (ruleD T) V[e]) with
                          | true =>
                            rw [hsq] at hq
                            have HQ := Lib.hid hq
                            have HE : Hid (AttrsR L 20) := Lib.hid (.inr ⟨by decide, snd_bad HSn.out hlL HR0.out HND2.out (HVe.out.trans (vals_dup HBd.out HAll.out heV hfe hsq)) (by decide)⟩)
                            clear hq hsq hY hyc hbel HSf hZ hzc HKz HSa
                            go_upto_region 22 with (fail)
                            go_region_held3 (fun w' => w'.cell? ⟨gq, 0, none⟩ = some (.string X) ∧ w'.cell? ⟨gq, 1, none⟩ = some (.slice (some ⟨vb, vo, none⟩) k uc) ∧ w'.cell? ⟨vb, vo + f, none⟩ = some (.string Y) ∧ w'.cell? ⟨vb, vo + e, none⟩ = some (.string Z)) (first | (with_reducible exact hst0) | (with_reducible exact hst1)) (first | (go_at_call 51; ((with_reducible refine (HQ.out _).mono ?_); rintro e wx ⟨rfl, hbx⟩); have HTx := Lib.hid (bthen HTq.out (World_drew_below hbx)); have hst1 := HKy.out _ HTx.out; clear hbx))
                            all_goals
                              go_split_ands
                              go_simp
                              go_wp2
                              go_ret
                              exact ⟨_, rfl, HE.out, bthen HB1.out HTx.out⟩
                          | false =>
                            rw [hsq] at hq
                            have HQ := Lib.hid hq
                            have HA2 : Hid (∀ x (hx : x < f + 1) (hxV : x < V.length), sameO (normD (ruleD T) V[x]) (normD (ruleD T) V[e]) = false) := Lib.hid (fun x h1 h3 => by
                              by_cases hk : x < f
                              · exact HSf.out x hk h3
                              · obtain rfl : x = f := by omega
                                exact hsq)
                            clear hq hsq hY hyc hbel HSf hZ hzc HKz
                            go_upto_region 22 with (fail)
                            go_region_held3 (fun w' => w'.cell? ⟨gq, 0, none⟩ = some (.string X) ∧ w'.cell? ⟨gq, 1, none⟩ = some (.slice (some ⟨vb, vo, none⟩) k uc) ∧ w'.cell? ⟨vb, vo + f, none⟩ = some (.string Y) ∧ w'.cell? ⟨vb, vo + e, none⟩ = some (.string Z)) (first | (with_reducible exact hst0) | (with_reducible exact hst1)) (first | (go_at_call 51; ((with_reducible refine (HQ.out _).mono ?_); rintro e wx ⟨rfl, hbx⟩); have HTx := Lib.hid (bthen HTq.out (World_drew_below hbx)); have hst1 := HKy.out _ HTx.out; clear hbx))
                            all_goals
                              go_split_ands
                              go_simp
                              go_wp2
                              go_roundw
                              case rel => exact ⟨f + 1, by omega, by go_num, HA2, HTx.out⟩
                              case measure => simp [intOf]; omega
                        · obtain rfl : f = e := by omega
                          have r1 : decide ((f : Int) < (f : Int)) = false := by simp
                          have r1' : decide (f < f) = false := by simp
                          have HA2 : Hid (∀ y (hy : y < V.length), y < f + 1 → ∀ x (hx : x < y), sameO (normD (ruleD T) V[x]) (normD (ruleD T) V[y]) = false) := Lib.hid (fun y h1 h3 x hx => by
                            by_cases hk : y < f
                            · exact HSa.out y h1 hk x hx
                            · obtain rfl : y = f := by omega
                              exact HSf.out x hx (by omega))
                          clear hbel HSf HSa
                          go_wp2
                          go_roundw
                          case rel => exact ⟨f + 1, by omega, by go_num, HA2, HTq.out⟩
                          case measure => simp [intOf]; omega
                    · obtain rfl : e = k := by omega
                      have r1 : decide ((e : Int) < (e : Int)) = false := by simp
                      have r1' : decide (e < e) = false := by simp
                      have HE : Hid (SndAt L (j + 1)) := Lib.hid (snd_more HSn.out hlL HR0.out HND2.out (HVe.out.trans (vals_ok HBd.out HAll.out (fun y hy x hx => HSa.out y hy (by rw [HMl.out]; exact hy) x hx))))
                      clear hbel HSa
                      go_wp2
                      go_roundw
                      case rel => exact ⟨j + 1, by omega, by go_num, HE, HB01.out.trans (HTp2.out.mono (by have := HB01.out.size; omega))⟩
                      case measure => simp [intOf]; omega
    · obtain rfl : j = n := by omega
      have t1 : decide ((j : Int) < (j : Int)) = false := by simp
      have t1' : decide (j < j) = false := by simp
      go_wp2
      go_ret
      exact ⟨0, rfl, .inl ⟨rfl, by rw [← HN.out]; exact HSn.out⟩, HBw.out⟩
end Go.Proofs.YtaapdipejpbdeaaGreatDoor

/- The document's classes: the walk. -/
namespace Go.Proofs.YtaapdipejpbdeaaGreatDoor
open Go.RowKit
set_option linter.unusedVariables false

theorem New.ap {w w' : World} {mu ma : Value} {g b : Nat} {A : List CT} {B : Nat} (h : TwoS B w mu ma A) (hg : g < w.heap.size ∨ w'.heap.size ≤ g) (hb : New w.heap.size w' b) : Ap w' mu ma g b :=
  ⟨hb.2, fun e => by have := (ownS_lt h.om e).2; have := hb.1; omega, fun e => by have := (ownS_lt h.oa e).2; have := hb.1; omega, fun e => by have := hb.1; have := hb.2; omega⟩
/-- The class that was found is laid into a new block. -/
theorem oneC_new {B : Nat} {w w' : World} {mu ma : Value} {A : List CT} {c : CT} {x0 x1 x2 u1 u2 : Value} (h : TwoS B w mu ma A) (hB : B ≤ w.heap.size) (hb : Below w.heap.size w w') (hc : c ∈ classL) (h0 : x0 = strV c.name) (h1 : x1 = strV c.sup) (h2 : x2 = .bool c.st)
    (hu1 : IsTo (New w.heap.size w') w' c.mustL u1) (hu2 : IsTo (New w.heap.size w') w' c.mayL u2) :
    OneC B w'.heap.size (w'.alloc (.cells #[x0, x1, x2, u1, u2, .bool true] 104)) mu ma A (some c) := by
  have hs := hb.size
  have ha : Below w'.heap.size w' (w'.alloc (.cells #[x0, x1, x2, u1, u2, .bool true] 104)) := (Below.refl _ _).alloc (Nat.le_refl _) _
  have ht := (h.below hb).below ha
  have hz : (w'.alloc (.cells #[x0, x1, x2, u1, u2, .bool true] 104)).heap.size = w'.heap.size + 1 := by simp
  refine ⟨ht, by omega, by omega, fun e => by have := (ownS_lt h.om e).2; omega, fun e => by have := (ownS_lt h.oa e).2; omega, x0, x1, x2, u1, u2, boxF_new _ _ _ _ _ _ _, hc, h0, h1, h2, ?_, ?_⟩
  · exact hu1.imp (fun b hb' => by have q := New.ap h (g := w'.heap.size) (.inr (Nat.le_refl _)) hb'; exact ⟨by have := q.1; omega, q.2⟩) (fun b o hb' => ha.cell (p := ⟨b, o, none⟩) hb'.2)
  · exact hu2.imp (fun b hb' => by have q := New.ap h (g := w'.heap.size) (.inr (Nat.le_refl _)) hb'; exact ⟨by have := q.1; omega, q.2⟩) (fun b o hb' => ha.cell (p := ⟨b, o, none⟩) hb'.2)
/-- 'must = append(must, c.Must...)'. -/
theorem oneC_must {B g : Nat} {w w' : World} {mu ma mu' : Value} {A : List CT} {d : CT} {x0 x1 x2 u1 u2 : Value} (h : OneC B g w mu ma A (some d)) (hbx : BoxF w g x0 x1 x2 u1 u2 (.bool true)) (h2 : IsTo (Ap w mu ma g) w d.mayL u2)
    (hown : OwnS B w' mu' (mustA A ++ d.mustL)) (hg : w.grownBy w' mu.ownBlock) (hat : mu'.ownBlock = mu.ownBlock ∨ mu'.ownBlock = some w.heap.size) :
    OwnS B w' ma (mayA A) ∧ BoxF w' g x0 x1 x2 u1 u2 (.bool true) ∧ IsTo (Ap w' mu' ma g) w' d.mayL u2 ∧ (∀ k, mu'.ownBlock = some k → ma.ownBlock ≠ some k) ∧ mu'.ownBlock ≠ some g := by
  have hs := hg.size
  have hne : ∀ k, k < w.heap.size → mu.ownBlock ≠ some k → mu'.ownBlock ≠ some k := fun k hk hn e => by
    rcases hat with q | q
    · exact hn (by rw [← q, e])
    · rw [q] at e; have := Option.some.inj e; omega
  refine ⟨ownS_grown h.two.oa hg (fun k e => h.two.ap k e), (hg.block g h.gl (fun e => h.gm e.symm)).trans hbx, h2.imp (fun b hb => ⟨by have := hb.1; omega, hne b hb.1 hb.2.1, hb.2.2⟩) (fun b o hb => by simp only [World.cell?, hg.block b hb.1 (fun e => hb.2.1 e.symm)]), fun k e => ?_, hne g h.gl h.gm⟩
  rcases hat with q | q
  · exact h.two.ap k (by rw [← q, e])
  · rw [q] at e
    have := Option.some.inj e
    intro e2
    have := (ownS_lt h.two.oa e2).2
    omega
/-- 'may = append(may, c.May...)', and the next class. -/
theorem oneC_may {B g : Nat} {w w' : World} {mu ma ma' : Value} {A : List CT} {d : CT} {x0 x1 x2 u1 u2 : Value} (hm : OwnS B w mu (mustA A ++ d.mustL)) (ha : OwnS B w ma (mayA A)) (hap : ∀ k, mu.ownBlock = some k → ma.ownBlock ≠ some k) (hgl : g < w.heap.size) (hgm : mu.ownBlock ≠ some g) (hga : ma.ownBlock ≠ some g) (hbx : BoxF w g x0 x1 x2 u1 u2 (.bool true))
    (hown : OwnS B w' ma' (mayA A ++ d.mayL)) (hg : w.grownBy w' ma.ownBlock) (hat : ma'.ownBlock = ma.ownBlock ∨ ma'.ownBlock = some w.heap.size) :
    TwoS B w' mu ma' (A ++ [d]) ∧ BoxF w' g x0 x1 x2 u1 u2 (.bool true) ∧ ma'.ownBlock ≠ some g := by
  have hs := hg.size
  have hne : ∀ k, k < w.heap.size → ma.ownBlock ≠ some k → ma'.ownBlock ≠ some k := fun k hk hn e => by
    rcases hat with q | q
    · exact hn (by rw [← q, e])
    · rw [q] at e; have := Option.some.inj e; omega
  refine ⟨⟨by rw [must_more]; exact ownS_grown hm hg (fun k e e2 => hap k e2 e), by rw [may_more]; exact hown, fun k e => hne k (ownS_lt hm e).2 (hap k e)⟩, (hg.block g hgl (fun e => hga e.symm)).trans hbx, hne g hgl hga⟩
/-- The next class is laid into the block. -/
theorem oneC_next {B g : Nat} {w w' : World} {mu ma : Value} {A : List CT} {c : CT} {y0 y1 y2 v1 v2 y5 x0 x1 x2 u1 u2 : Value} (h : TwoS B w mu ma A) (hgB : B ≤ g) (hgl : g < w.heap.size) (hgm : mu.ownBlock ≠ some g) (hga : ma.ownBlock ≠ some g) (hb : Below w.heap.size w w') (hbx : BoxF w g y0 y1 y2 v1 v2 y5) (hc : c ∈ classL) (h0 : x0 = strV c.name) (h1 : x1 = strV c.sup) (h2 : x2 = .bool c.st)
    (hu1 : IsTo (New w.heap.size w') w' c.mustL u1) (hu2 : IsTo (New w.heap.size w') w' c.mayL u2) : OneC B g (set6 w' g x0 x1 x2 u1 u2 (.bool true)) mu ma A (some c) := by
  have hs := hb.size
  have ht := h.below hb
  have hx : BoxF w' g y0 y1 y2 v1 v2 y5 := hbx.below hb hgl
  have hcl : ∀ b o, b ≠ g → (set6 w' g x0 x1 x2 u1 u2 (.bool true)).cell? ⟨b, o, none⟩ = w'.cell? ⟨b, o, none⟩ := fun b o hb => set6_cell w' g _ _ _ _ _ _ o hb
  refine ⟨⟨ownS_set6 ht.om hgm _ _ _ _ _ _, ownS_set6 ht.oa hga _ _ _ _ _ _, h.ap⟩, hgB, by rw [set6_size]; omega, hgm, hga, x0, x1, x2, u1, u2, hx.store _ _ _ _ _ _, hc, h0, h1, h2, ?_, ?_⟩
  · exact hu1.imp (fun b hb' => by have q := New.ap h (g := g) (.inl hgl) hb'; exact ⟨by rw [set6_size]; exact q.1, q.2⟩) (fun b o hb' => hcl b o (by have := hb'.1; omega))
  · exact hu2.imp (fun b hb' => by have q := New.ap h (g := g) (.inl hgl) hb'; exact ⟨by rw [set6_size]; exact q.1, q.2⟩) (fun b o hb' => hcl b o (by have := hb'.1; omega))
theorem oneC_none {B g : Nat} {w w' : World} {mu ma : Value} {A : List CT} {y0 y1 y2 v1 v2 y5 x0 x1 x2 u1 u2 : Value} (h : TwoS B w mu ma A) (hgB : B ≤ g) (hgl : g < w.heap.size) (hgm : mu.ownBlock ≠ some g) (hga : ma.ownBlock ≠ some g) (hb : Below w.heap.size w w') (hbx : BoxF w g y0 y1 y2 v1 v2 y5) : OneC B g (set6 w' g x0 x1 x2 u1 u2 (.bool false)) mu ma A none := by
  have hs := hb.size
  have ht := h.below hb
  have hx : BoxF w' g y0 y1 y2 v1 v2 y5 := hbx.below hb hgl
  exact ⟨⟨ownS_set6 ht.om hgm _ _ _ _ _ _, ownS_set6 ht.oa hga _ _ _ _ _ _, h.ap⟩, hgB, by rw [set6_size]; omega, hgm, hga, x0, x1, x2, u1, u2, hx.store _ _ _ _ _ _, trivial⟩
end Go.Proofs.YtaapdipejpbdeaaGreatDoor
