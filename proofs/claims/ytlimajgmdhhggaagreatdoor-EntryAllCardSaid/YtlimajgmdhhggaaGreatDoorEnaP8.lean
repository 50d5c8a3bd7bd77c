/- Several texts in one file: ScDocA, MaRefN, MaRefM, MaRefL, ScDocH, EnAllW, ArgE. -/
import Derived.Deep.Cut
import Derived.Test.YtlimajgmdhhggaaGreatDoorEnaP2
import Derived.Test.YtlimajgmdhhggaaGreatDoorEnaP3
import Derived.Test.YtlimajgmdhhggaaGreatDoorRefKeyW
import Derived.Test.YtlimajgmdhhggaaGreatDoorMaSame
import Derived.Deep.RegionLaw
import Derived.RegionTactic
import Derived.BigRegion
import Derived.Deep.RegionHeld3
import Derived.Test.YtlimajgmdhhggaaGreatDoorEnaP4
import Derived.Test.YtlimajgmdhhggaaGreatDoorEnaP7
import Derived.Deep.CutRange
import Derived.Test.YtlimajgmdhhggaaGreatDoorEnFind
import Derived.OpenShut
import Derived.Carry
import Derived.ChangeSame
import Derived.ChangeSlices
import Derived.Deep.Strs
import Derived.Deep.SlicePairs
namespace Go.Proofs.YtlimajgmdhhggaaGreatDoor
open Go.RowKit
set_option linter.unusedVariables false

def AttrP (L : List AT) (t : List UInt8) (I : Int) : Prop := (∃ j, ∃ h : j < L.length, I = (j : Int) ∧ (low L[j].1 == low t) = true ∧ ∀ k (hk : k < L.length), k < j → (low L[k].1 == low t) = false) ∨ (I = -1 ∧ ∀ k (hk : k < L.length), (low L[k].1 == low t) = false)
set_option maxRecDepth 100000 in
set_option maxHeartbeats 4000000 in
theorem attrRef_any (D t : ByteArray) (ht : t.size ≤ 281474976710656) (L : List AT) (hs : smallA L) (v : Value) (w : World) (h : IsA w.heap.size w L v) :
    Calls Tryz.prog 53 #[.agg #[.string D, v], .string t] w fun e w' => ∃ I, e = .returned (.int .i64 I) ∧ AttrP L t.data.toList I ∧ Below w.heap.size w w' := by
  obtain ⟨a, c, hv, hm, hcell⟩ := h
  obtain ⟨n, hn⟩ : ∃ n, n = L.length := ⟨_, rfl⟩
  rw [← hn] at hv hm
  subst hv
  unfold maxLen at hm
  have hbx := boxN_new w D (.slice a n c)
  have HN := Lib.hid hn
  have HC := Lib.hid hcell
  have HS := Lib.hid hs
  have HBx := Lib.hid hbx
  have hB0 : Below w.heap.size w (w.alloc (.cells #[.string D, .slice a n c] 24)) := (Below.refl _ _).alloc (Nat.le_refl _) _
  have HB0 := Lib.hid hB0
  have HLt := Lib.hid (fun W => lowerRef_any t W ht)
  obtain ⟨T, hT⟩ : ∃ T, T = lowB t := ⟨_, rfl⟩
  have hTl : T.data.toList = low t.data.toList := by rw [hT, lowB_list]
  rw [← hT] at HLt
  have HTl := Lib.hid hTl
  clear hcell hn hs hbx hB0 hT hTl
  go_enter Tryz.func53, Tryz.ntmps53
  go_wp2
  go_loopw [5] (fun i wr => ∃ j : Nat, j ≤ n ∧ i = .int .i64 j ∧ Hid (∀ k (hk : k < L.length), k < j → (low L[k].1 == low t.data.toList) = false) ∧ Below (w.alloc (.cells #[.string D, .slice a n c] 24)).heap.size (w.alloc (.cells #[.string D, .slice a n c] 24)) wr) (fun i wr => n - (intOf i).toNat)
  case atStart => exact ⟨0, by omega, rfl, Lib.hid (fun k _ h => absurd h (by omega)), Below.refl _ _⟩
  case round =>
    obtain ⟨j, hj, rfl, HNo, hbel⟩ := hrel
    have HBel := Lib.hid (HB0.out.trans (hbel.mono HB0.out.size))
    obtain ⟨x0, x1⟩ := (HBx.out.below hbel (by simp)).cells
    have HBe := Lib.hid hbel
    have hbs := hbel.size
    clear hbel
    by_cases hlt : j < n
    · have t1 : decide ((j : Int) < (n : Int)) = true := by simp; omega
      have t1' : decide (j < n) = true := by simpa using hlt
      have hlL : j < L.length := by rw [← HN.out]; exact hlt
      obtain ⟨b, off, u, rfl, hb0, c0, c1, _⟩ := HC.out j hlL
      obtain ⟨X, hX⟩ : ∃ X : ByteArray, ⟨L[j].1.toArray⟩ = X := ⟨_, rfl⟩
      have hXl : X.data.toList = L[j].1 := by rw [← hX]
      have d0 : (wr.cell? ⟨b, off + j * 2, none⟩) = some (.string X) := by
        rw [HBel.out.cell (p := ⟨b, _, none⟩) hb0, c0, ← hX]; rfl
      have hXs : X.size ≤ 281474976710656 := by
        have := (HS.out.2 L[j] (List.getElem_mem _)).1
        rw [← bytes_len, hXl]; omega
      have HLx := Lib.hid (fun W => lowerRef_any X W hXs)
      obtain ⟨Y, hY⟩ : ∃ Y, Y = lowB X := ⟨_, rfl⟩
      have hYl : Y.data.toList = low L[j].1 := by rw [hY, lowB_list, hXl]
      rw [← hY] at HLx
      by_cases he : Y = T
      · have HR : Hid ((low L[j].1 == low t.data.toList) = true) := Lib.hid (by rw [← hYl, ← HTl.out, he]; simp)
        subst he
        clear hX hXl c0 c1 hY hYl
        go_wp2_with (first
          | (go_at_call 42; ((with_reducible refine (HLx.out _).mono ?_); rintro e w2 ⟨rfl, hb2⟩); have HB2 := Lib.hid (HBel.out.trans (hb2.mono HBel.out.size)); clear hb2)
          | (go_at_call 42; ((with_reducible refine (HLt.out _).mono ?_); rintro e w3 ⟨rfl, hb3⟩); have HB3 := Lib.hid (bthen HB2.out hb3); clear hb3))
        go_ret
        exact ⟨_, rfl, .inl ⟨j, hlL, rfl, HR.out, HNo.out⟩, HB3.out⟩
      · have t2 := str_ne he
        have HN2 : Hid (∀ k (hk : k < L.length), k < j + 1 → (low L[k].1 == low t.data.toList) = false) := Lib.hid (fun k h1 h3 => by
            by_cases hk : k < j
            · exact HNo.out k h1 hk
            · obtain rfl : k = j := by omega
              rw [← hYl, ← HTl.out]
              exact by simpa using fun e => he (bytes_ext e))
        clear he hX hXl c0 c1 hY hYl HNo
        go_wp2_with (first
          | (go_at_call 42; ((with_reducible refine (HLx.out _).mono ?_); rintro e w2 ⟨rfl, hb2⟩); have HB2 := Lib.hid (HBe.out.trans (hb2.mono hbs)); clear hb2)
          | (go_at_call 42; ((with_reducible refine (HLt.out _).mono ?_); rintro e w3 ⟨rfl, hb3⟩); have HB3 := Lib.hid (HB2.out.trans (hb3.mono HB2.out.size)); clear hb3))
        go_roundw
        case rel => exact ⟨j + 1, by omega, by go_num, HN2, HB3.out⟩
        case measure => simp [intOf]; omega
    · obtain rfl : j = n := by omega
      have t1 : decide ((j : Int) < (j : Int)) = false := by simp
      have t1' : decide (j < j) = false := by simp
      go_wp2
      go_ret
      exact ⟨_, rfl, .inr ⟨rfl, fun k hk => HNo.out k hk (by rw [HN.out]; exact hk)⟩, HBel.out⟩

set_option maxRecDepth 100000 in
set_option maxHeartbeats 4000000 in
theorem valsRef_any (D t : ByteArray) (ht : t.size ≤ 281474976710656) (L : List AT) (hs : smallA L) (v : Value) (w : World) (h : IsA w.heap.size w L v) :
    Calls Tryz.prog 17 #[.agg #[.string D, v], .string t] w fun e w' => ∃ u, e = .returned u ∧ IsT w.heap.size w (findA L t.data.toList) u ∧ Below w.heap.size w w' := by
  obtain ⟨a, c, hv, hm, hcell⟩ := id h
  obtain ⟨n, hn⟩ : ∃ n, n = L.length := ⟨_, rfl⟩
  rw [← hn] at hv hm
  subst hv
  unfold maxLen at hm
  have hbx := boxN_new w D (.slice a n c)
  have hB0 : Below w.heap.size w (w.alloc (.cells #[.string D, .slice a n c] 24)) := (Below.refl _ _).alloc (Nat.le_refl _) _
  have HAt := Lib.hid (attrRef_any D t ht L hs (.slice a n c) (w.alloc (.cells #[.string D, .slice a n c] 24)) (h.below hB0 hB0.size))
  have HN := Lib.hid hn
  have HC := Lib.hid hcell
  have HBx := Lib.hid hbx
  have HB0 := Lib.hid hB0
  clear hcell hn hs hbx hB0 h
  go_enter Tryz.func17, Tryz.ntmps17
  go_upto_region 2 with (go_at_call 53; refine (HAt.out).mono ?_; rintro e w2 ⟨I, rfl, hI, hb2⟩; have HI := Lib.hid hI; have HB2 := Lib.hid (HB0.out.trans (hb2.mono HB0.out.size)); (obtain ⟨x0, x1⟩ := (HBx.out.below hb2 (by simp)).cells); clear hI hb2)
  rcases HI.out with ⟨j, hlL, rfl, h1, h2⟩ | ⟨rfl, h2⟩
  · obtain ⟨b, off, u, rfl, hb0, c0, c1, hit⟩ := HC.out j hlL
    have hlt : j < n := by rw [HN.out]; exact hlL
    have t1 : decide ((j : Int) < 0) = false := by simp
    have d1 := (HB2.out.cell (p := ⟨b, off + j * 2 + 1, none⟩) hb0).trans c1
    have HF := Lib.hid (findA_at j hlL h2 h1)
    have HIt := Lib.hid hit
    obtain ⟨ua, uc, hu, _⟩ := id hit
    obtain ⟨un, hun⟩ : ∃ k, k = L[j].2.length := ⟨_, rfl⟩
    rw [← hun] at hu
    subst hu
    clear h1 h2 HI c0 c1 hit hun
    go_wp2
    go_ret
    exact ⟨_, rfl, by rw [HF.out]; exact HIt.out, HB2.out⟩
  · have t1 : decide ((-1 : Int) < 0) = true := by decide
    have HF := Lib.hid (findA_no h2)
    clear h2 HI
    go_wp2
    go_ret
    exact ⟨_, rfl, by rw [HF.out]; exact isT_nil _ _ _ _, HB2.out⟩
end Go.Proofs.YtlimajgmdhhggaaGreatDoor


namespace Go.Proofs.YtlimajgmdhhggaaGreatDoor
open Go.RowKit
set_option linter.unusedVariables false

theorem decFrom_digits : ∀ (l : List UInt8) (acc n : Nat), Lib.decFrom acc l = some n → ∀ c ∈ l, 48 ≤ c.toNat ∧ c.toNat ≤ 57
  | [], _, _, _, c, hc => absurd hc (by simp)
  | a :: l, acc, n, h, c, hc => by
    simp only [Lib.decFrom, Lib.digitVal] at h
    by_cases hd : 48 ≤ a.toNat ∧ a.toNat ≤ 57
    · rw [if_pos hd] at h
      rcases List.mem_cons.1 hc with rfl | hc
      · exact hd
      · exact decFrom_digits l _ n h c hc
    · rw [if_neg hd] at h; cases h
theorem numD_pos {l : List UInt8} {n : Nat} (h0 : l ≠ []) (hl : l.length ≤ 15) (h : Lib.decFrom 0 l = some n) : numD l = if Lib.itoa (n : Int) = l then some (n : Int) else none := by
  cases l with
  | nil => exact absurd rfl h0
  | cons c r =>
    have hc := decFrom_digits _ _ _ h c (by simp)
    have h45 : c ≠ 45 := by intro e; rw [e] at hc; simp at hc
    have h43 : c ≠ 43 := by intro e; rw [e] at hc; simp at hc
    have hat : Lib.atoi (c :: r) = some (n : Int) := by
      simp only [Lib.atoi]
      rw [if_neg (by simpa using h45), if_neg (by simpa using h43)]
      simp only [Lib.decNat, List.isEmpty_cons, Bool.false_eq_true, if_false, h, Option.map_some]
    unfold numD
    rw [trim_not h45, if_pos hl, Lib.parseIntB_64, Lib.atoiAll_short _ (by omega), hat]
    rfl
theorem numD_neg {l : List UInt8} {n : Nat} (h0 : l ≠ []) (hl : l.length ≤ 15) (h : Lib.decFrom 0 l = some n) : numD (45 :: l) = if Lib.itoa (-(n : Int)) = 45 :: l then some (-(n : Int)) else none := by
  have hat : Lib.atoi (45 :: l) = some (-(n : Int)) := by
    cases l with
    | nil => exact absurd rfl h0
    | cons c r => simp only [Lib.atoi, beq_self_eq_true, if_true, Lib.decNat, List.isEmpty_cons, Bool.false_eq_true, if_false, h, Option.map_some]
  unfold numD
  rw [trim_neg, if_pos hl, Lib.parseIntB_64, Lib.atoiAll_short _ (by simp; omega), hat]
  rfl
theorem numD_bad {l : List UInt8} {c : UInt8} (hc : c ∈ Lib.trimPrefix l [45]) (h : ¬ (48 ≤ c.toNat ∧ c.toNat ≤ 57)) : numD l = none := by
  cases hn : numD l with
  | none => rfl
  | some v =>
    have := (numD_some hn).1
    subst this
    rw [trim_itoa] at hc
    exact absurd (dec_digits _ c hc) h
theorem numD_long {l : List UInt8} (h : 15 < (Lib.trimPrefix l [45]).length) : numD l = none := by unfold numD; rw [if_neg (by omega)]

def BoxNm (w : World) (b : Nat) (x : Int) (ok : Bool) : Prop := w.heap[b]? = some (.cells #[.int .i64 x, .bool ok] 172 (0, 0))
theorem BoxNm.below {w w' : World} {b n : Nat} {x : Int} {ok : Bool} (h : BoxNm w b x ok) (hb : Below n w w') (hn : b < n) : BoxNm w' b x ok := (hb.block b hn).trans h
theorem BoxNm.cells {w : World} {b : Nat} {x : Int} {ok : Bool} (h : BoxNm w b x ok) : w.cell? ⟨b, 0, none⟩ = some (.int .i64 x) ∧ w.cell? ⟨b, 1, none⟩ = some (.bool ok) ∧ w.frozen? ⟨b, 0, none⟩ = false ∧ w.frozen? ⟨b, 1, none⟩ = false := by
  unfold BoxNm at h
  simp [World.cell?, World.frozen?, h]
theorem boxNm_new (w : World) (x : Int) (ok : Bool) : BoxNm (w.alloc (.cells #[.int .i64 x, .bool ok] 172)) w.heap.size x ok := heap_alloc_new w _
theorem BoxNm.store {w : World} {b : Nat} {x : Int} {ok : Bool} (h : BoxNm w b x ok) (x' : Int) (ok' : Bool) : BoxNm ((w.setCell ⟨b, 0, none⟩ (.int .i64 x')).setCell ⟨b, 1, none⟩ (.bool ok')) b x' ok' := by
  unfold BoxNm at h ⊢
  simp [World.setCell, Array.getElem?_modify, h]

def numR (o : Option Int) : Value := match o with
  | some v => .agg #[.int .i64 v, .bool true]
  | none => .agg #[.int .i64 0, .bool false]

set_option maxRecDepth 100000 in
set_option maxHeartbeats 8000000 in
theorem numberRef_any (s : ByteArray) (hs : s.size ≤ 281474976710656) (w : World) : Calls Tryz.prog 135 #[.string s] w fun e w' => e = .returned (numR (numD s.data.toList)) ∧ Below w.heap.size w w' := by
  have HBox := Lib.hid (boxNm_new w 0 false)
  obtain ⟨q0, q1, _, _⟩ := (HBox.out.store 0 false).cells
  by_cases h0 : s.data.toList = []
  · obtain ⟨e1, e2⟩ := bytes_nil h0
    have hz : s.size = 0 := by rw [← bytes_len, h0]; rfl
    have HNo := Lib.hid (show numD s.data.toList = none by rw [h0]; exact numD_minus.2.2.1)
    have t0 : ((s.size : Int) == 0) = true := by simp [hz]
    clear h0 hz
    go_enter Tryz.func135, Tryz.ntmps135
    go_wp2
    refine bodyPost_ret (v := .agg #[.int .i64 0, .bool false]) (by simp [results, Tryz.results135, go_sem]) rfl ⟨by rw [HNo.out]; rfl, ?_⟩
    first | exact (Below.refl _ _).alloc (Nat.le_refl _) _ | exact (((Below.refl _ _).alloc (Nat.le_refl _) _).setCell (Nat.le_refl _) _).setCell (Nat.le_refl _) _
  obtain ⟨e1, e2⟩ := bytes_some h0
  have hpos : 0 < s.size := by
    rw [← bytes_len]; exact List.length_pos_iff.2 h0
  obtain ⟨a, ha⟩ : ∃ a : UInt8, s[0] = a := ⟨_, rfl⟩
  have hl0 : s.data.toList = a :: s.data.toList.drop 1 := by
    have := List.drop_eq_getElem_cons (l := s.data.toList) (i := 0) (by rw [bytes_len]; exact hpos)
    rw [List.drop_zero] at this
    rw [← ha]
    exact this
  have hal := a.toNat_lt
  by_cases h45 : a.toNat = 45
  · have ea : a = 45 := UInt8.toNat_inj.1 h45
    have t0 : ((a.toNat : Int) == 45) = true := by simp [h45]
    have e45 : (45 : UInt8) :: s.data.toList.drop 1 = s.data.toList := by rw [← ea]; exact hl0.symm
    have htr : Lib.trimPrefix s.data.toList [45] = s.data.toList.drop 1 := by have := trim_neg (s.data.toList.drop 1); rw [e45] at this; exact this
    clear e45
    by_cases h1 : s.size = 1
    · have HNo := Lib.hid (show numD s.data.toList = none by
        have : s.data.toList.drop 1 = [] := List.drop_eq_nil_iff.2 (by rw [bytes_len]; omega)
        rw [hl0, this, ea]; exact numD_minus.2.1)
      have t4 : ((s.size : Int) == 1) = true := by simp [h1]
      clear hl0 htr h45 ea h0 h1
      go_enter Tryz.func135, Tryz.ntmps135
      go_wp2
      refine bodyPost_ret (v := .agg #[.int .i64 0, .bool false]) (by simp [results, Tryz.results135, go_sem]) rfl ⟨by rw [HNo.out]; rfl, ?_⟩
      first | exact (Below.refl _ _).alloc (Nat.le_refl _) _ | exact (((Below.refl _ _).alloc (Nat.le_refl _) _).setCell (Nat.le_refl _) _).setCell (Nat.le_refl _) _
    have t4 : ((s.size : Int) == 1) = false := by simp; omega
    by_cases h15 : 15 < s.size - 1
    · have HNo := Lib.hid (numD_long (l := s.data.toList) (by rw [htr, List.length_drop, bytes_len]; exact h15))
      have t6 : decide ((15 : Int) < (s.size : Int) - 1) = true := by simp; omega
      have t7 : decide ((16 : Int) < (s.size : Int)) = true := by simp; omega
      clear hl0 htr h45 ea h0 h1
      go_enter Tryz.func135, Tryz.ntmps135
      go_wp2
      refine bodyPost_ret (v := .agg #[.int .i64 0, .bool false]) (by simp [results, Tryz.results135, go_sem]) rfl ⟨by rw [HNo.out]; rfl, ?_⟩
      first | exact (Below.refl _ _).alloc (Nat.le_refl _) _ | exact (((Below.refl _ _).alloc (Nat.le_refl _) _).setCell (Nat.le_refl _) _).setCell (Nat.le_refl _) _
    have t6 : decide ((15 : Int) < (s.size : Int) - 1) = false := by simp; omega
    have t7 : decide ((16 : Int) < (s.size : Int)) = false := by simp; omega
    have hbad : ∀ c ∈ s.data.toList.drop 1, ¬ (48 ≤ c.toNat ∧ c.toNat ≤ 57) → numD s.data.toList = none := fun c hc hn => numD_bad (by rw [htr]; exact hc) hn
    have hval : ∀ m : Nat, Lib.decFrom 0 (s.data.toList.drop 1) = some m → numD s.data.toList = if Lib.itoa (-(m : Int)) = s.data.toList then some (-(m : Int)) else none := fun m hm => by
      have hne : s.data.toList.drop 1 ≠ [] := fun e => by have := congrArg List.length e; rw [List.length_drop, bytes_len] at this; simp at this; omega
      have := numD_neg hne (by rw [List.length_drop, bytes_len]; omega) hm
      have e : (45 : UInt8) :: s.data.toList.drop 1 = s.data.toList := by rw [← ea]; exact hl0.symm
      rw [e] at this
      exact this
    clear hl0 htr h45 ea h0 h1
    have HBad := Lib.hid hbad
    have HVal := Lib.hid hval
    clear hbad hval
    go_enter Tryz.func135, Tryz.ntmps135
    go_wp2
    go_loop [3, 5] (fun n i => ∃ (j m : Nat), 1 ≤ j ∧ j ≤ s.size ∧ i = .int .i64 j ∧ n = .int .i64 m ∧ Hid (Lib.decFrom 0 ((s.data.toList.drop 1).take (j - 1)) = some m) ∧ Hid (m < 10 ^ (j - 1))) (fun _ i => s.size - (intOf i).toNat)
    case atStart => exact ⟨1, 0, by omega, by omega, rfl, rfl, Lib.hid (by simp [Lib.decFrom]), Lib.hid (by simp)⟩
    case round =>
      obtain ⟨j, m, hj0, hj, rfl, rfl, HD, HM⟩ := hrel
      by_cases hlt : j < s.size
      · have t1 : decide ((j : Int) < (s.size : Int)) = true := by simp; omega
        have hm14 : m ≤ 99999999999999 := by
          have h1 := HM.out
          have h2 : 10 ^ (j - 1) ≤ 10 ^ 14 := Nat.pow_le_pow_right (by decide) (by omega)
          have h3 : (10 : Nat) ^ 14 = 100000000000000 := by decide
          omega
        obtain ⟨c, hc⟩ : ∃ c : UInt8, s[j] = c := ⟨_, rfl⟩
        have hcl := c.toNat_lt
        have hmem : c ∈ s.data.toList.drop 1 := by
          rw [← hc]
          have e : (s.data.toList.drop 1)[j - 1]'(by rw [List.length_drop, bytes_len]; omega) = s[j] := by
            rw [List.getElem_drop]
            have : 1 + (j - 1) = j := by omega
            simp only [this]
            rfl
          rw [← e]
          exact List.getElem_mem _
        by_cases h48 : c.toNat < 48
        · have t2 : decide ((c.toNat : Int) < 48) = true := by simp; omega
          have HNo := Lib.hid (HBad.out c hmem (by omega))
          clear hmem
          go_wp2
          refine bodyPost_ret (v := .agg #[.int .i64 0, .bool false]) (by simp [results, Tryz.results135, go_sem]) rfl ⟨by rw [HNo.out]; rfl, ?_⟩
          first | exact (Below.refl _ _).alloc (Nat.le_refl _) _ | exact (((Below.refl _ _).alloc (Nat.le_refl _) _).setCell (Nat.le_refl _) _).setCell (Nat.le_refl _) _
        have t2 : decide ((c.toNat : Int) < 48) = false := by simp; omega
        by_cases h57 : 57 < c.toNat
        · have t3 : decide ((57 : Int) < (c.toNat : Int)) = true := by simp; omega
          have HNo := Lib.hid (HBad.out c hmem (by omega))
          clear hmem
          go_wp2
          refine bodyPost_ret (v := .agg #[.int .i64 0, .bool false]) (by simp [results, Tryz.results135, go_sem]) rfl ⟨by rw [HNo.out]; rfl, ?_⟩
          first | exact (Below.refl _ _).alloc (Nat.le_refl _) _ | exact (((Below.refl _ _).alloc (Nat.le_refl _) _).setCell (Nat.le_refl _) _).setCell (Nat.le_refl _) _
        have t3 : decide ((57 : Int) < (c.toNat : Int)) = false := by simp; omega
        have hnew : Lib.decFrom 0 ((s.data.toList.drop 1).take (j + 1 - 1)) = some (m * 10 + (c.toNat - 48)) := by
          rw [show j + 1 - 1 = (j - 1) + 1 by omega, List.take_succ_eq_append_getElem (by rw [List.length_drop, bytes_len]; omega), decFrom_snoc, HD.out]
          have e : (s.data.toList.drop 1)[j - 1]'(by rw [List.length_drop, bytes_len]; omega) = c := by
            rw [← hc, List.getElem_drop]
            have : 1 + (j - 1) = j := by omega
            simp only [this]
            rfl
          rw [e]
          simp only [Option.bind_some, Lib.digitVal]
          rw [if_pos (by omega)]
          rfl
        have hpow : m * 10 + (c.toNat - 48) < 10 ^ (j + 1 - 1) := by
          rw [show j + 1 - 1 = (j - 1) + 1 by omega, Nat.pow_succ]
          have := HM.out
          omega
        have HNew := Lib.hid hnew
        have HPow := Lib.hid hpow
        clear hnew hpow hmem
        go_wp2
        go_round
        case rel => exact ⟨j + 1, m * 10 + (c.toNat - 48), by omega, by omega, by go_num, by (congr 1; omega), HNew, HPow⟩
        case measure => simp [intOf]; omega
      · obtain rfl : j = s.size := by omega
        have t1 : decide ((s.size : Int) < (s.size : Int)) = false := by simp
        have hd := HD.out
        rw [List.take_of_length_le (by rw [List.length_drop, bytes_len]; omega)] at hd
        have hm15 : m < 1000000000000000 := by
          have h1 := HM.out
          have h2 : 10 ^ (s.size - 1) ≤ 10 ^ 15 := Nat.pow_le_pow_right (by decide) (by omega)
          have h3 : (10 : Nat) ^ 15 = 1000000000000000 := by decide
          omega
        have hres := HVal.out m hd
        have hdg := fun w => digits_any (-(m : Int)) (by omega) (by omega) w
        obtain ⟨F, hF⟩ : ∃ F : ByteArray, F = ofL (Lib.itoa (-(m : Int))) := ⟨_, rfl⟩
        have hFl : Lib.itoa (-(m : Int)) = F.data.toList := by rw [hF, ofL_list]
        rw [← hF] at hdg
        rw [hFl] at hres
        have HDg := Lib.hid hdg
        clear hF hFl hdg hd HD HM
        by_cases he : F = s
        · have hr : numD s.data.toList = some (-(m : Int)) := by rw [hres, if_pos (by rw [he])]
          have HR := Lib.hid hr
          subst he
          clear hr hres
          go_wp2_with (go_at_call 78; refine (HDg.out _).mono ?_; rintro e w1 ⟨rfl, hb1⟩; have HB := Lib.hid hb1; have HX := Lib.hid (HBox.out.below hb1 (by simp)); obtain ⟨k0, k1, l0, l1⟩ := HX.out.cells; clear hb1)
          obtain ⟨q0, q1, _, _⟩ := (HX.out.store (-(m : Int)) true).cells
          refine bodyPost_ret (v := .agg #[.int .i64 (-(m : Int)), .bool true]) (by simp [results, Tryz.results135, go_sem, q0, q1]) rfl ⟨by rw [HR.out]; rfl, ?_⟩
          exact ((((Below.refl _ _).alloc (Nat.le_refl _) _).trans (HB.out.mono (by simp))).setCell (Nat.le_refl _) _).setCell (Nat.le_refl _) _
        · have hr : numD s.data.toList = none := by rw [hres, if_neg (fun e => he (bytes_ext e))]
          have HR := Lib.hid hr
          have t5 := str_ne he
          clear hr hres he
          go_wp2_with (go_at_call 78; refine (HDg.out _).mono ?_; rintro e w1 ⟨rfl, hb1⟩; have HB := Lib.hid hb1; have HX := Lib.hid (HBox.out.below hb1 (by simp)); obtain ⟨k0, k1, l0, l1⟩ := HX.out.cells; clear hb1)
          obtain ⟨q0, q1, _, _⟩ := (HX.out.store (0 : Int) false).cells
          refine bodyPost_ret (v := .agg #[.int .i64 0, .bool false]) (by simp [results, Tryz.results135, go_sem, q0, q1]) rfl ⟨by rw [HR.out]; rfl, ?_⟩
          exact ((((Below.refl _ _).alloc (Nat.le_refl _) _).trans (HB.out.mono (by simp))).setCell (Nat.le_refl _) _).setCell (Nat.le_refl _) _
  · have na : a ≠ 45 := fun e => h45 (by rw [e]; rfl)
    have t0 : ((a.toNat : Int) == 45) = false := by simp; omega
    have htr : Lib.trimPrefix s.data.toList [45] = s.data.toList := by rw [hl0]; exact trim_not na
    have t4 : ((s.size : Int) == 0) = false := by rw [beq_eq_false_iff_ne]; omega
    by_cases h15 : 15 < s.size
    · have HNo := Lib.hid (numD_long (l := s.data.toList) (by rw [htr, bytes_len]; exact h15))
      have t6 : decide ((15 : Int) < (s.size : Int)) = true := by simp; omega
      clear hl0 htr h45 na h0
      go_enter Tryz.func135, Tryz.ntmps135
      go_wp2
      refine bodyPost_ret (v := .agg #[.int .i64 0, .bool false]) (by simp [results, Tryz.results135, go_sem]) rfl ⟨by rw [HNo.out]; rfl, ?_⟩
      first | exact (Below.refl _ _).alloc (Nat.le_refl _) _ | exact (((Below.refl _ _).alloc (Nat.le_refl _) _).setCell (Nat.le_refl _) _).setCell (Nat.le_refl _) _
    have t6 : decide ((15 : Int) < (s.size : Int)) = false := by simp; omega
    have hbad : ∀ c ∈ s.data.toList.drop 0, ¬ (48 ≤ c.toNat ∧ c.toNat ≤ 57) → numD s.data.toList = none := fun c hc hn => numD_bad (by rw [htr]; exact hc) hn
    have hval : ∀ m : Nat, Lib.decFrom 0 (s.data.toList.drop 0) = some m → numD s.data.toList = if Lib.itoa (m : Int) = s.data.toList then some (m : Int) else none := fun m hm => numD_pos h0 (by rw [bytes_len]; omega) hm
    clear hl0 htr h45 na h0
    have HBad := Lib.hid hbad
    have HVal := Lib.hid hval
    clear hbad hval
    go_enter Tryz.func135, Tryz.ntmps135
    go_wp2
    go_loop [3, 5] (fun n i => ∃ (j m : Nat), 0 ≤ j ∧ j ≤ s.size ∧ i = .int .i64 j ∧ n = .int .i64 m ∧ Hid (Lib.decFrom 0 ((s.data.toList.drop 0).take (j - 0)) = some m) ∧ Hid (m < 10 ^ (j - 0))) (fun _ i => s.size - (intOf i).toNat)
    case atStart => exact ⟨0, 0, by omega, by omega, rfl, rfl, Lib.hid (by simp [Lib.decFrom]), Lib.hid (by simp)⟩
    case round =>
      obtain ⟨j, m, hj0, hj, rfl, rfl, HD, HM⟩ := hrel
      by_cases hlt : j < s.size
      · have t1 : decide ((j : Int) < (s.size : Int)) = true := by simp; omega
        have hm14 : m ≤ 99999999999999 := by
          have h1 := HM.out
          have h2 : 10 ^ (j - 0) ≤ 10 ^ 14 := Nat.pow_le_pow_right (by decide) (by omega)
          have h3 : (10 : Nat) ^ 14 = 100000000000000 := by decide
          omega
        obtain ⟨c, hc⟩ : ∃ c : UInt8, s[j] = c := ⟨_, rfl⟩
        have hcl := c.toNat_lt
        have hmem : c ∈ s.data.toList.drop 0 := by
          rw [← hc]
          have e : (s.data.toList.drop 0)[j - 0]'(by rw [List.length_drop, bytes_len]; omega) = s[j] := by
            rw [List.getElem_drop]
            have : 0 + (j - 0) = j := by omega
            simp only [this]
            rfl
          rw [← e]
          exact List.getElem_mem _
        by_cases h48 : c.toNat < 48
        · have t2 : decide ((c.toNat : Int) < 48) = true := by simp; omega
          have HNo := Lib.hid (HBad.out c hmem (by omega))
          clear hmem
          go_wp2
          refine bodyPost_ret (v := .agg #[.int .i64 0, .bool false]) (by simp [results, Tryz.results135, go_sem]) rfl ⟨by rw [HNo.out]; rfl, ?_⟩
          first | exact (Below.refl _ _).alloc (Nat.le_refl _) _ | exact (((Below.refl _ _).alloc (Nat.le_refl _) _).setCell (Nat.le_refl _) _).setCell (Nat.le_refl _) _
        have t2 : decide ((c.toNat : Int) < 48) = false := by simp; omega
        by_cases h57 : 57 < c.toNat
        · have t3 : decide ((57 : Int) < (c.toNat : Int)) = true := by simp; omega
          have HNo := Lib.hid (HBad.out c hmem (by omega))
          clear hmem
          go_wp2
          refine bodyPost_ret (v := .agg #[.int .i64 0, .bool false]) (by simp [results, Tryz.results135, go_sem]) rfl ⟨by rw [HNo.out]; rfl, ?_⟩
          first | exact (Below.refl _ _).alloc (Nat.le_refl _) _ | exact (((Below.refl _ _).alloc (Nat.le_refl _) _).setCell (Nat.le_refl _) _).setCell (Nat.le_refl _) _
        have t3 : decide ((57 : Int) < (c.toNat : Int)) = false := by simp; omega
        have hnew : Lib.decFrom 0 ((s.data.toList.drop 0).take (j + 1 - 0)) = some (m * 10 + (c.toNat - 48)) := by
          rw [show j + 1 - 0 = (j - 0) + 1 by omega, List.take_succ_eq_append_getElem (by rw [List.length_drop, bytes_len]; omega), decFrom_snoc, HD.out]
          have e : (s.data.toList.drop 0)[j - 0]'(by rw [List.length_drop, bytes_len]; omega) = c := by
            rw [← hc, List.getElem_drop]
            have : 0 + (j - 0) = j := by omega
            simp only [this]
            rfl
          rw [e]
          simp only [Option.bind_some, Lib.digitVal]
          rw [if_pos (by omega)]
          rfl
        have hpow : m * 10 + (c.toNat - 48) < 10 ^ (j + 1 - 0) := by
          rw [show j + 1 - 0 = (j - 0) + 1 by omega, Nat.pow_succ]
          have := HM.out
          omega
        have HNew := Lib.hid hnew
        have HPow := Lib.hid hpow
        clear hnew hpow hmem
        go_wp2
        go_round
        case rel => exact ⟨j + 1, m * 10 + (c.toNat - 48), by omega, by omega, by go_num, by (congr 1; omega), HNew, HPow⟩
        case measure => simp [intOf]; omega
      · obtain rfl : j = s.size := by omega
        have t1 : decide ((s.size : Int) < (s.size : Int)) = false := by simp
        have hd := HD.out
        rw [List.take_of_length_le (by rw [List.length_drop, bytes_len]; omega)] at hd
        have hm15 : m < 1000000000000000 := by
          have h1 := HM.out
          have h2 : 10 ^ (s.size - 0) ≤ 10 ^ 15 := Nat.pow_le_pow_right (by decide) (by omega)
          have h3 : (10 : Nat) ^ 15 = 1000000000000000 := by decide
          omega
        have hres := HVal.out m hd
        have hdg := fun w => digits_any ((m : Int)) (by omega) (by omega) w
        obtain ⟨F, hF⟩ : ∃ F : ByteArray, F = ofL (Lib.itoa ((m : Int))) := ⟨_, rfl⟩
        have hFl : Lib.itoa ((m : Int)) = F.data.toList := by rw [hF, ofL_list]
        rw [← hF] at hdg
        rw [hFl] at hres
        have HDg := Lib.hid hdg
        clear hF hFl hdg hd HD HM
        by_cases he : F = s
        · have hr : numD s.data.toList = some ((m : Int)) := by rw [hres, if_pos (by rw [he])]
          have HR := Lib.hid hr
          subst he
          clear hr hres
          go_wp2_with (go_at_call 78; refine (HDg.out _).mono ?_; rintro e w1 ⟨rfl, hb1⟩; have HB := Lib.hid hb1; have HX := Lib.hid (HBox.out.below hb1 (by simp)); obtain ⟨k0, k1, l0, l1⟩ := HX.out.cells; clear hb1)
          obtain ⟨q0, q1, _, _⟩ := (HX.out.store ((m : Int)) true).cells
          refine bodyPost_ret (v := .agg #[.int .i64 ((m : Int)), .bool true]) (by simp [results, Tryz.results135, go_sem, q0, q1]) rfl ⟨by rw [HR.out]; rfl, ?_⟩
          exact ((((Below.refl _ _).alloc (Nat.le_refl _) _).trans (HB.out.mono (by simp))).setCell (Nat.le_refl _) _).setCell (Nat.le_refl _) _
        · have hr : numD s.data.toList = none := by rw [hres, if_neg (fun e => he (bytes_ext e))]
          have HR := Lib.hid hr
          have t5 := str_ne he
          clear hr hres he
          go_wp2_with (go_at_call 78; refine (HDg.out _).mono ?_; rintro e w1 ⟨rfl, hb1⟩; have HB := Lib.hid hb1; have HX := Lib.hid (HBox.out.below hb1 (by simp)); obtain ⟨k0, k1, l0, l1⟩ := HX.out.cells; clear hb1)
          obtain ⟨q0, q1, _, _⟩ := (HX.out.store (0 : Int) false).cells
          refine bodyPost_ret (v := .agg #[.int .i64 0, .bool false]) (by simp [results, Tryz.results135, go_sem, q0, q1]) rfl ⟨by rw [HR.out]; rfl, ?_⟩
          exact ((((Below.refl _ _).alloc (Nat.le_refl _) _).trans (HB.out.mono (by simp))).setCell (Nat.le_refl _) _).setCell (Nat.le_refl _) _
end Go.Proofs.YtlimajgmdhhggaaGreatDoor


namespace Go.Proofs.YtlimajgmdhhggaaGreatDoor
open Go.RowKit
set_option linter.unusedVariables false

theorem field_num1 (w : World) (v : Int) (b : Bool) : (Instr.field 172 (.agg #[.int .i64 v, .bool b]) 1).run Tryz.prog w = .ok (.bool b) w := by kernel_rfl
def sB (o : Option (List UInt8)) : ByteArray := match o with
  | some x => ⟨x.toArray⟩
  | none => ⟨#[]⟩
theorem saidR_eq (o : Option (List UInt8)) : saidR o = .agg #[.string (sB o), .bool o.isSome] := by cases o <;> rfl
set_option maxRecDepth 100000 in
set_option maxHeartbeats 8000000 in
theorem normRef_any (t s : ByteArray) (ht : t.size ≤ 281474976710656) (w : World) :
    Calls Tryz.prog 96 #[.string t, .string s] w fun e w' => e = .returned (saidR (normD (ruleD t.data.toList) s.data.toList)) ∧ Below w.heap.size w w' := by
  have hr := fun w => ruleRef_any t ht w
  generalize ruleD t.data.toList = r at hr ⊢
  have HR := Lib.hid hr
  clear hr
  have HBox := Lib.hid (boxS_new w ⟨#[]⟩ false)
  obtain ⟨q0, q1, _, _⟩ := (HBox.out.store ⟨#[]⟩ false).cells
  by_cases h0 : s.data.toList = []
  · obtain ⟨e1, e2⟩ := bytes_nil h0
    have HV := Lib.hid (show normD r s.data.toList = none by unfold normD; rw [if_pos (.inl h0)])
    clear h0
    go_enter Tryz.func96, Tryz.ntmps96
    go_wp2
    refine bodyPost_ret (v := .agg #[.string ⟨#[]⟩, .bool false]) (by simp [results, Tryz.results96, go_sem]) rfl ⟨by rw [HV.out]; rfl, ?_⟩
    first | exact (Below.refl _ _).alloc (Nat.le_refl _) _ | exact (((Below.refl _ _).alloc (Nat.le_refl _) _).setCell (Nat.le_refl _) _).setCell (Nat.le_refl _) _
  obtain ⟨e1, e2⟩ := bytes_some h0
  by_cases h100 : 100 < s.size
  · have t1 : decide ((100 : Int) < (s.size : Int)) = true := by simp; omega
    have HV := Lib.hid (show normD r s.data.toList = none by unfold normD; rw [if_pos (.inr (by rw [bytes_len]; exact h100))])
    clear h0
    go_enter Tryz.func96, Tryz.ntmps96
    go_wp2
    refine bodyPost_ret (v := .agg #[.string ⟨#[]⟩, .bool false]) (by simp [results, Tryz.results96, go_sem]) rfl ⟨by rw [HV.out]; rfl, ?_⟩
    first | exact (Below.refl _ _).alloc (Nat.le_refl _) _ | exact (((Below.refl _ _).alloc (Nat.le_refl _) _).setCell (Nat.le_refl _) _).setCell (Nat.le_refl _) _
  have t1 : decide ((100 : Int) < (s.size : Int)) = false := by simp; omega
  have hd : normD r s.data.toList = if r = 1 then (if fold s.data.toList = [] then none else some (fold s.data.toList)) else if r = 2 then (if (numD s.data.toList).isSome then some s.data.toList else none)
      else if r = 3 then (match keyD s.data.toList with | some k => if k = [] then none else some k | none => none) else if r = 4 then some s.data.toList else none := by
    unfold normD; rw [if_neg (by rw [bytes_len]; rintro (h | h); exact h0 h; exact h100 h)]; rfl
  have HD := Lib.hid hd
  clear hd h0 q0 q1
  by_cases h1 : r = 1
  · subst h1
    have hf := fun w => foldRef_any s w (by omega)
    obtain ⟨F, hF⟩ : ∃ F : ByteArray, F = foldB s := ⟨_, rfl⟩
    have hFl : fold s.data.toList = F.data.toList := by rw [hF]; simp [foldB]
    rw [← hF] at hf
    have HF := Lib.hid hf
    have hD : normD 1 s.data.toList = (if fold s.data.toList = [] then none else some (fold s.data.toList)) := HD.out.trans (if_pos rfl)
    rw [hFl] at hD
    clear hf hF hFl HD
    by_cases hne : F.data.toList = []
    · obtain ⟨n1, n2⟩ := bytes_nil hne
      rw [if_pos hne] at hD
      have hFe : F = ⟨#[]⟩ := bytes_ext hne
      have HD := Lib.hid hD
      have HFe := Lib.hid hFe
      clear hD hFe hne
      go_enter Tryz.func96, Tryz.ntmps96
      go_wp2_with (first | (go_at_call 82; refine (HR.out _).mono ?_; rintro e w1 ⟨rfl, hb1⟩; have HB := Lib.hid (((Below.refl _ _).alloc (Nat.le_refl _) _).trans (hb1.mono (by simp))); have HX := Lib.hid (HBox.out.below hb1 (by simp)); have hz1 : w.heap.size < w1.heap.size := (by have := hb1.size; simp at this; omega); obtain ⟨k0, k1, l0, l1⟩ := HX.out.cells; clear hb1) | (go_at_call 117; refine (HF.out _).mono ?_; rintro e w2 ⟨rfl, hb2⟩; have HB := Lib.hid (bthen HB.out hb2); have HX := Lib.hid (HX.out.below hb2 hz1); obtain ⟨k0, k1, l0, l1⟩ := HX.out.cells; have hz2 : w.heap.size < w2.heap.size := (by have := hb2.size; omega); clear hb2))
      obtain ⟨q0, q1, _, _⟩ := (HX.out.store F false).cells
      refine bodyPost_ret (v := .agg #[.string F, .bool false]) (by simp [results, Tryz.results96, go_sem, q0, q1]) rfl ⟨by rw [HD.out, HFe.out]; rfl, ?_⟩
      exact (HB.out.setCell (Nat.le_refl _) _).setCell (Nat.le_refl _) _
    · obtain ⟨n1, n2⟩ := bytes_some hne
      rw [if_neg hne] at hD
      have HD := Lib.hid hD
      clear hD hne
      go_enter Tryz.func96, Tryz.ntmps96
      go_wp2_with (first | (go_at_call 82; refine (HR.out _).mono ?_; rintro e w1 ⟨rfl, hb1⟩; have HB := Lib.hid (((Below.refl _ _).alloc (Nat.le_refl _) _).trans (hb1.mono (by simp))); have HX := Lib.hid (HBox.out.below hb1 (by simp)); have hz1 : w.heap.size < w1.heap.size := (by have := hb1.size; simp at this; omega); obtain ⟨k0, k1, l0, l1⟩ := HX.out.cells; clear hb1) | (go_at_call 117; refine (HF.out _).mono ?_; rintro e w2 ⟨rfl, hb2⟩; have HB := Lib.hid (bthen HB.out hb2); have HX := Lib.hid (HX.out.below hb2 hz1); obtain ⟨k0, k1, l0, l1⟩ := HX.out.cells; have hz2 : w.heap.size < w2.heap.size := (by have := hb2.size; omega); clear hb2))
      obtain ⟨q0, q1, _, _⟩ := (HX.out.store F true).cells
      refine bodyPost_ret (v := .agg #[.string F, .bool true]) (by simp [results, Tryz.results96, go_sem, q0, q1]) rfl ⟨by rw [HD.out]; simp [saidR], ?_⟩
      exact (HB.out.setCell (Nat.le_refl _) _).setCell (Nat.le_refl _) _
  have u1 : ((r : Int) == 1) = false := by simp; omega
  by_cases h2 : r = 2
  · subst h2
    have hn := fun w => numberRef_any s (by omega) w
    have hD : normD 2 s.data.toList = (if (numD s.data.toList).isSome = true then some s.data.toList else none) := (HD.out.trans (if_neg (by decide))).trans (if_pos rfl)
    clear u1 h1 HD
    have hfl := field_num1
    cases hnum : numD s.data.toList with
    | none =>
      rw [hnum] at hD hn
      simp only [numR] at hn
      have HF := Lib.hid hn
      have HD := Lib.hid hD
      clear hD hnum hn
      go_enter Tryz.func96, Tryz.ntmps96
      go_wp2_with (first | (go_at_call 82; refine (HR.out _).mono ?_; rintro e w1 ⟨rfl, hb1⟩; have HB := Lib.hid (((Below.refl _ _).alloc (Nat.le_refl _) _).trans (hb1.mono (by simp))); have HX := Lib.hid (HBox.out.below hb1 (by simp)); have hz1 : w.heap.size < w1.heap.size := (by have := hb1.size; simp at this; omega); obtain ⟨k0, k1, l0, l1⟩ := HX.out.cells; clear hb1) | (go_at_call 135; refine (HF.out _).mono ?_; rintro e w2 ⟨rfl, hb2⟩; have HB := Lib.hid (bthen HB.out hb2); have HX := Lib.hid (HX.out.below hb2 hz1); obtain ⟨k0, k1, l0, l1⟩ := HX.out.cells; have hz2 : w.heap.size < w2.heap.size := (by have := hb2.size; omega); clear hb2))
      obtain ⟨q0, q1, _, _⟩ := (HX.out.store ⟨#[]⟩ false).cells
      refine bodyPost_ret (v := .agg #[.string ⟨#[]⟩, .bool false]) (by simp [results, Tryz.results96, go_sem, q0, q1]) rfl ⟨by rw [HD.out]; rfl, ?_⟩
      exact (HB.out.setCell (Nat.le_refl _) _).setCell (Nat.le_refl _) _
    | some v =>
      rw [hnum] at hD hn
      simp only [numR] at hn
      have HF := Lib.hid hn
      have HD := Lib.hid hD
      clear hD hnum hn
      go_enter Tryz.func96, Tryz.ntmps96
      go_wp2_with (first | (go_at_call 82; refine (HR.out _).mono ?_; rintro e w1 ⟨rfl, hb1⟩; have HB := Lib.hid (((Below.refl _ _).alloc (Nat.le_refl _) _).trans (hb1.mono (by simp))); have HX := Lib.hid (HBox.out.below hb1 (by simp)); have hz1 : w.heap.size < w1.heap.size := (by have := hb1.size; simp at this; omega); obtain ⟨k0, k1, l0, l1⟩ := HX.out.cells; clear hb1) | (go_at_call 135; refine (HF.out _).mono ?_; rintro e w2 ⟨rfl, hb2⟩; have HB := Lib.hid (bthen HB.out hb2); have HX := Lib.hid (HX.out.below hb2 hz1); obtain ⟨k0, k1, l0, l1⟩ := HX.out.cells; have hz2 : w.heap.size < w2.heap.size := (by have := hb2.size; omega); clear hb2))
      obtain ⟨q0, q1, _, _⟩ := (HX.out.store s true).cells
      refine bodyPost_ret (v := .agg #[.string s, .bool true]) (by simp [results, Tryz.results96, go_sem, q0, q1]) rfl ⟨by rw [HD.out]; simp [saidR], ?_⟩
      exact (HB.out.setCell (Nat.le_refl _) _).setCell (Nat.le_refl _) _
  have u2 : ((r : Int) == 2) = false := by simp; omega
  by_cases h3 : r = 3
  · subst h3
    have hk := fun w => keyRef_any s (by omega) w
    have hD : normD 3 s.data.toList = (match keyD s.data.toList with | some k => if k = [] then none else some k | none => none) := ((HD.out.trans (if_neg (by decide))).trans (if_neg (by decide))).trans (if_pos rfl)
    clear u1 u2 h1 h2 HD
    cases hkey : keyD s.data.toList with
    | none =>
      rw [hkey] at hD hk
      simp only [saidV] at hk
      have HF := Lib.hid hk
      have HD := Lib.hid hD
      clear hD hkey hk
      go_enter Tryz.func96, Tryz.ntmps96
      go_wp2_with (first | (go_at_call 82; refine (HR.out _).mono ?_; rintro e w1 ⟨rfl, hb1⟩; have HB := Lib.hid (((Below.refl _ _).alloc (Nat.le_refl _) _).trans (hb1.mono (by simp))); have HX := Lib.hid (HBox.out.below hb1 (by simp)); have hz1 : w.heap.size < w1.heap.size := (by have := hb1.size; simp at this; omega); obtain ⟨k0, k1, l0, l1⟩ := HX.out.cells; clear hb1) | (go_at_call 80; refine (HF.out _).mono ?_; rintro e w2 ⟨rfl, hb2⟩; have HB := Lib.hid (bthen HB.out hb2); have HX := Lib.hid (HX.out.below hb2 hz1); obtain ⟨k0, k1, l0, l1⟩ := HX.out.cells; have hz2 : w.heap.size < w2.heap.size := (by have := hb2.size; omega); clear hb2))
      obtain ⟨q0, q1, _, _⟩ := (HX.out.store ⟨#[]⟩ false).cells
      refine bodyPost_ret (v := .agg #[.string ⟨#[]⟩, .bool false]) (by simp [results, Tryz.results96, go_sem, q0, q1, hz2]) rfl ⟨by rw [HD.out]; rfl, ?_⟩
      exact ((HB.out.setCell (Nat.le_refl _) _).setCell (Nat.le_refl _) _).alloc (by have := HB.out.size; simp; omega) _
    | some k =>
      rw [hkey] at hD hk
      obtain ⟨K, hKB⟩ : ∃ K : ByteArray, K = ⟨k.toArray⟩ := ⟨_, rfl⟩
      have hKl : k = K.data.toList := by rw [hKB]
      simp only [saidV, ← hKB] at hk
      have HF := Lib.hid hk
      clear hk hkey hKB
      simp only at hD
      subst hKl
      by_cases hne : K.data.toList = []
      · obtain ⟨n1, n2⟩ := bytes_nil hne
        rw [if_pos hne] at hD
        have HD := Lib.hid hD
        clear hD hne
        go_enter Tryz.func96, Tryz.ntmps96
        go_wp2_with (first | (go_at_call 82; refine (HR.out _).mono ?_; rintro e w1 ⟨rfl, hb1⟩; have HB := Lib.hid (((Below.refl _ _).alloc (Nat.le_refl _) _).trans (hb1.mono (by simp))); have HX := Lib.hid (HBox.out.below hb1 (by simp)); have hz1 : w.heap.size < w1.heap.size := (by have := hb1.size; simp at this; omega); obtain ⟨k0, k1, l0, l1⟩ := HX.out.cells; clear hb1) | (go_at_call 80; refine (HF.out _).mono ?_; rintro e w2 ⟨rfl, hb2⟩; have HB := Lib.hid (bthen HB.out hb2); have HX := Lib.hid (HX.out.below hb2 hz1); obtain ⟨k0, k1, l0, l1⟩ := HX.out.cells; have hz2 : w.heap.size < w2.heap.size := (by have := hb2.size; omega); clear hb2))
        obtain ⟨q0, q1, _, _⟩ := (HX.out.store ⟨#[]⟩ false).cells
        refine bodyPost_ret (v := .agg #[.string ⟨#[]⟩, .bool false]) (by simp [results, Tryz.results96, go_sem, q0, q1, hz2]) rfl ⟨by rw [HD.out]; rfl, ?_⟩
        exact ((HB.out.setCell (Nat.le_refl _) _).setCell (Nat.le_refl _) _).alloc (by have := HB.out.size; simp; omega) _
      · obtain ⟨n1, n2⟩ := bytes_some hne
        rw [if_neg hne] at hD
        have HD := Lib.hid hD
        clear hD hne
        go_enter Tryz.func96, Tryz.ntmps96
        go_wp2_with (first | (go_at_call 82; refine (HR.out _).mono ?_; rintro e w1 ⟨rfl, hb1⟩; have HB := Lib.hid (((Below.refl _ _).alloc (Nat.le_refl _) _).trans (hb1.mono (by simp))); have HX := Lib.hid (HBox.out.below hb1 (by simp)); have hz1 : w.heap.size < w1.heap.size := (by have := hb1.size; simp at this; omega); obtain ⟨k0, k1, l0, l1⟩ := HX.out.cells; clear hb1) | (go_at_call 80; refine (HF.out _).mono ?_; rintro e w2 ⟨rfl, hb2⟩; have HB := Lib.hid (bthen HB.out hb2); have HX := Lib.hid (HX.out.below hb2 hz1); obtain ⟨k0, k1, l0, l1⟩ := HX.out.cells; have hz2 : w.heap.size < w2.heap.size := (by have := hb2.size; omega); clear hb2))
        obtain ⟨q0, q1, _, _⟩ := (HX.out.store K true).cells
        refine bodyPost_ret (v := .agg #[.string K, .bool true]) (by simp [results, Tryz.results96, go_sem, q0, q1, hz2]) rfl ⟨by rw [HD.out]; simp [saidR], ?_⟩
        exact ((HB.out.setCell (Nat.le_refl _) _).setCell (Nat.le_refl _) _).alloc (by have := HB.out.size; simp; omega) _
  have u3 : ((r : Int) == 3) = false := by simp; omega
  have hD := HD.out
  rw [if_neg h1, if_neg h2, if_neg h3] at hD
  by_cases h4 : r = 4
  · subst h4
    rw [if_pos rfl] at hD
    have HD := Lib.hid hD
    clear hD u1 u2 u3 h1 h2 h3
    go_enter Tryz.func96, Tryz.ntmps96
    go_wp2_with (go_at_call 82; refine (HR.out _).mono ?_; rintro e w1 ⟨rfl, hb1⟩; have HB := Lib.hid (((Below.refl _ _).alloc (Nat.le_refl _) _).trans (hb1.mono (by simp))); have HX := Lib.hid (HBox.out.below hb1 (by simp)); have hz1 : w.heap.size < w1.heap.size := (by have := hb1.size; simp at this; omega); obtain ⟨k0, k1, l0, l1⟩ := HX.out.cells; clear hb1)
    obtain ⟨q0, q1, _, _⟩ := (HX.out.store s true).cells
    refine bodyPost_ret (v := .agg #[.string s, .bool true]) (by simp [results, Tryz.results96, go_sem, q0, q1]) rfl ⟨by rw [HD.out]; simp [saidR], ?_⟩
    exact (HB.out.setCell (Nat.le_refl _) _).setCell (Nat.le_refl _) _
  · rw [if_neg h4] at hD
    have u4 : ((r : Int) == 4) = false := by simp; omega
    have HD := Lib.hid hD
    clear hD h1 h2 h3 h4
    go_enter Tryz.func96, Tryz.ntmps96
    go_wp2_with (go_at_call 82; refine (HR.out _).mono ?_; rintro e w1 ⟨rfl, hb1⟩; have HB := Lib.hid (((Below.refl _ _).alloc (Nat.le_refl _) _).trans (hb1.mono (by simp))); have HX := Lib.hid (HBox.out.below hb1 (by simp)); have hz1 : w.heap.size < w1.heap.size := (by have := hb1.size; simp at this; omega); obtain ⟨k0, k1, l0, l1⟩ := HX.out.cells; clear hb1)
    obtain ⟨q0, q1, _, _⟩ := (HX.out.store ⟨#[]⟩ false).cells
    refine bodyPost_ret (v := .agg #[.string ⟨#[]⟩, .bool false]) (by simp [results, Tryz.results96, go_sem, q0, q1]) rfl ⟨by rw [HD.out]; rfl, ?_⟩
    exact (HB.out.setCell (Nat.le_refl _) _).setCell (Nat.le_refl _) _
end Go.Proofs.YtlimajgmdhhggaaGreatDoor


namespace Go.Proofs.YtlimajgmdhhggaaGreatDoor
open Go.RowKit
set_option linter.unusedVariables false

theorem normR_at (T s : ByteArray) (hT : T.size ≤ 281474976710656) (r : Nat) (hr : ruleD T.data.toList = r) (o : Option (List UInt8)) (h : normD r s.data.toList = o) (w : World) :
    Calls Tryz.prog 96 #[.string T, .string s] w fun e w' => e = .returned (.agg #[.string (sB o), .bool o.isSome]) ∧ Below w.heap.size w w' := by
  have := normRef_any T s hT w
  rw [hr, h, saidR_eq] at this
  exact this

set_option maxRecDepth 100000 in
set_option maxHeartbeats 8000000 in
theorem sameVal_any (t a b : ByteArray) (ht : t.size ≤ 281474976710656) (w : World) :
    Calls Tryz.prog 57 #[.string t, .string a, .string b] w fun e w' => e = .returned (.bool (sameO (normD (ruleD t.data.toList) a.data.toList) (normD (ruleD t.data.toList) b.data.toList))) ∧ Below w.heap.size w w' := by
  obtain ⟨r, hr⟩ : ∃ r, ruleD t.data.toList = r := ⟨_, rfl⟩
  obtain ⟨p, hp⟩ : ∃ p, normD r a.data.toList = p := ⟨_, rfl⟩
  obtain ⟨q, hq⟩ : ∃ q, normD r b.data.toList = q := ⟨_, rfl⟩
  have ha := fun w => normR_at t a ht r hr p hp w
  have hb := fun w => normR_at t b ht r hr q hq w
  rw [hr, hp, hq]
  have hs : sameO p q = ((p.isSome && q.isSome) && ((sB p).toList == (sB q).toList)) := by
    cases p <;> cases q <;> simp [sameO, sB, ByteArray.toList_eq]
  rw [hs]
  clear hs hr hp hq
  generalize sB p = X at ha ⊢
  generalize sB q = Y at hb ⊢
  generalize p.isSome = u at ha ⊢
  generalize q.isSome = v at hb ⊢
  have HA := Lib.hid ha
  have HQ := Lib.hid hb
  have tok : True := trivial
  clear ha hb
  go_enter Tryz.func57, Tryz.ntmps57
  go_wp2_with (go_at_call 96; first | (have _t := tok; (with_reducible refine (HA.out _).mono ?_); rintro e w1 ⟨rfl, hb1⟩; have HB := Lib.hid hb1; clear hb1 tok) | ((with_reducible refine (HQ.out _).mono ?_); rintro e w2 ⟨rfl, hb2⟩; have HB := Lib.hid (bthen HB.out hb2); clear hb2))
  all_goals
    go_ret
    exact ⟨by simp_all, (HB.out.alloc HB.out.size _).alloc (by have := HB.out.size; simp; omega) _⟩

def TwoAt (W : World) (b : Nat) (x y : Value) (w : World) : Prop := w.cell? ⟨b, 0, none⟩ = some x ∧ w.cell? ⟨b + 1, 0, none⟩ = some y ∧ b + 1 < W.heap.size ∧ Below W.heap.size W w
theorem TwoAt.go {W w w1 : World} {b : Nat} {x y : Value} (h : TwoAt W b x y w) (hb : Below w.heap.size w w1) : w1.cell? ⟨b, 0, none⟩ = some x ∧ w1.cell? ⟨b + 1, 0, none⟩ = some y ∧ TwoAt W b x y w1 := by
  obtain ⟨h1, h2, h3, h4⟩ := h
  have hs := h4.size
  have c1 := (hb.cell (p := ⟨b, 0, none⟩) (by show b < _; omega)).trans h1
  have c2 := (hb.cell (p := ⟨b + 1, 0, none⟩) (by show b + 1 < _; omega)).trans h2
  exact ⟨c1, c2, c1, c2, h3, h4.trans (hb.mono hs)⟩

end Go.Proofs.YtlimajgmdhhggaaGreatDoor


namespace Go.Proofs.YtlimajgmdhhggaaGreatDoor
open Go.RowKit
set_option linter.unusedVariables false

set_option maxRecDepth 100000 in
set_option maxHeartbeats 4000000 in
theorem hasRef_any (D t x : ByteArray) (ht : t.size ≤ 281474976710656) (L : List AT) (hs : smallA L) (v : Value) (w : World) (h : IsA w.heap.size w L v) :
    Calls Tryz.prog 19 #[.agg #[.string D, v], .string t, .string x] w fun e w' => e = .returned (.bool ((findA L t.data.toList).any fun y => sameO (normD (ruleD t.data.toList) y) (normD (ruleD t.data.toList) x.data.toList))) ∧ Below w.heap.size w w' := by
  obtain ⟨a, c, hv, hm, _⟩ := id h
  obtain ⟨n, hn⟩ : ∃ n, n = L.length := ⟨_, rfl⟩
  rw [← hn] at hv
  subst hv
  have hbx := boxN_new w D (.slice a n c)
  have hB0 : Below w.heap.size w (w.alloc (.cells #[.string D, .slice a n c] 24)) := (Below.refl _ _).alloc (Nat.le_refl _) _
  have hva := valsRef_any D t ht L hs (.slice a n c) (w.alloc (.cells #[.string D, .slice a n c] 24)) (h.below hB0 hB0.size)
  obtain ⟨V, hV⟩ : ∃ V, V = findA L t.data.toList := ⟨_, rfl⟩
  rw [← hV] at hva ⊢
  obtain ⟨R, hR⟩ : ∃ R, R = V.any fun y => sameO (normD (ruleD t.data.toList) y) (normD (ruleD t.data.toList) x.data.toList) := ⟨_, rfl⟩
  rw [← hR]
  obtain ⟨m, hml⟩ : ∃ m, m = V.length := ⟨_, rfl⟩
  have HVa := Lib.hid hva
  have HR := Lib.hid hR
  have HMl := Lib.hid hml
  have HB0 := Lib.hid hB0
  have HSv := Lib.hid (fun Y W => sameVal_any t Y x ht W)
  clear hva hR hV hn hB0 h hbx hs hml
  go_enter Tryz.func19, Tryz.ntmps19
  go_wp2_with (go_at_call 17; refine (HVa.out).mono ?_; rintro e w2 ⟨u, rfl, hit, hb2⟩; (obtain ⟨ua, uc, hu, hum, huc⟩ := hit); (rw [← HMl.out] at hu hum); subst hu; have HUc := Lib.hid huc; have HB2 := Lib.hid (HB0.out.trans (hb2.mono HB0.out.size)); have HB3 := Lib.hid hb2; clear hb2 huc)
  unfold maxLen at hum
  go_loopw [8] (fun i wr => ∃ j : Nat, j ≤ m ∧ i = .int .i64 j ∧ Hid (∀ k (hk : k < V.length), k < j → sameO (normD (ruleD t.data.toList) V[k]) (normD (ruleD t.data.toList) x.data.toList) = false) ∧ Below w2.heap.size w2 wr) (fun i wr => m - (intOf i).toNat)
  case atStart => exact ⟨0, by omega, rfl, Lib.hid (fun k _ h => absurd h (by omega)), Below.refl _ _⟩
  case round =>
    obtain ⟨j, hj, rfl, HNo, hbel⟩ := hrel
    have HBr := Lib.hid hbel
    by_cases hlt : j < m
    · have t1 : decide ((j : Int) < (m : Int)) = true := by simp; omega
      have t1' : decide (j < m) = true := by simpa using hlt
      have hjV : j < V.length := by rw [← HMl.out]; exact hlt
      obtain ⟨b, off, rfl, hb0, c0⟩ := HUc.out j hjV
      obtain ⟨X, hX⟩ : ∃ X : ByteArray, ⟨V[j].toArray⟩ = X := ⟨_, rfl⟩
      have hXl : X.data.toList = V[j] := by rw [← hX]
      have d0 : (wr.cell? ⟨b, off + j, none⟩) = some (.string X) := by
        rw [hbel.cell (p := ⟨b, _, none⟩) (Nat.lt_of_lt_of_le hb0 HB3.out.size), HB3.out.cell (p := ⟨b, _, none⟩) hb0, c0, ← hX]; rfl
      have hsv := fun W => HSv.out X W
      rw [hXl] at hsv
      cases hq : sameO (normD (ruleD t.data.toList) V[j]) (normD (ruleD t.data.toList) x.data.toList) with
      | true =>
        rw [hq] at hsv
        have HS := Lib.hid hsv
        have HRt : Hid (R = true) := Lib.hid (by rw [HR.out, List.any_eq_true]; exact ⟨V[j], List.getElem_mem _, hq⟩)
        clear hsv hq hX hXl c0 hbel HNo
        go_wp2_with (go_at_call 57; refine (HS.out _).mono ?_; rintro e w3 ⟨rfl, hb3⟩; have HB4 := Lib.hid (bthen HBr.out hb3); clear hb3)
        go_ret
        exact ⟨by rw [HRt.out]; rfl, HB2.out.trans (HB4.out.mono HB2.out.size)⟩
      | false =>
        rw [hq] at hsv
        have HS := Lib.hid hsv
        have HN2 : Hid (∀ k (hk : k < V.length), k < j + 1 → sameO (normD (ruleD t.data.toList) V[k]) (normD (ruleD t.data.toList) x.data.toList) = false) := Lib.hid (fun k h1 h3 => by
          by_cases hk : k < j
          · exact HNo.out k h1 hk
          · obtain rfl : k = j := by omega
            exact hq)
        clear hsv hq hX hXl c0 hbel HNo
        go_wp2_with (go_at_call 57; refine (HS.out _).mono ?_; rintro e w3 ⟨rfl, hb3⟩; have HB4 := Lib.hid (bthen HBr.out hb3); clear hb3)
        go_roundw
        case rel => exact ⟨j + 1, by omega, by go_num, HN2, HB4.out⟩
        case measure => simp [intOf]; omega
    · obtain rfl : j = m := by omega
      have t1 : decide ((j : Int) < (j : Int)) = false := by simp
      have t1' : decide (j < j) = false := by simp
      have HRf : Hid (R = false) := Lib.hid (by
        rw [HR.out, List.any_eq_false]
        intro y hy
        obtain ⟨k, hk, rfl⟩ := List.getElem_of_mem hy
        rw [HNo.out k hk (by rw [HMl.out]; exact hk)]
        simp)
      go_wp2
      go_ret
      exact ⟨by rw [HRf.out]; rfl, HB2.out.trans (HBr.out.mono HB2.out.size)⟩
end Go.Proofs.YtlimajgmdhhggaaGreatDoor


namespace Go.Proofs.YtlimajgmdhhggaaGreatDoor
open Go.RowKit
set_option linter.unusedVariables false
set_option linter.unusedSimpArgs false

theorem nameA_len (t : List UInt8) : (nameA t).length ≤ t.length + 15 := by
  unfold nameA
  cases h : canonD t with
  | none => simp
  | some n =>
    unfold canonD at h
    cases hf : findL (low t) with
    | none => rw [hf] at h; cases h
    | some k =>
      rw [hf] at h
      have := findL_len hf
      simp only [Option.map_some, Option.some.injEq] at h
      rw [← h, this.1]
      show (low t).length ≤ _
      omega
theorem great_small {d : List UInt8} {L : List AT} (h : greatD d L = false) : smallA L ∧ L.length ≤ 25 ∧ d.length ≤ 600 ∧ smallA (sortA (normL L)) := by
  obtain ⟨h1, h2, h3⟩ := great_no h
  refine ⟨⟨by omega, fun a ha => ?_⟩, h1, h2, by rw [sortA_len2]; unfold normL; rw [List.length_map]; omega, fun a ha => ?_⟩
  · obtain ⟨k1, k2, k3⟩ := h3 a ha
    exact ⟨by omega, by omega, fun s hs => by have := k3 s hs; omega⟩
  · have hm : a ∈ normL L := srtG_mem _ ha
    unfold normL at hm
    obtain ⟨b, hb, rfl⟩ := List.mem_map.1 hm
    obtain ⟨k1, k2, k3⟩ := h3 b hb
    have := nameA_len b.1
    exact ⟨by show (nameA b.1).length ≤ _; omega, by show b.2.length ≤ _; omega, fun s hs => by have := k3 s hs; omega⟩
set_option maxRecDepth 100000 in
set_option maxHeartbeats 8000000 in
theorem entryAll_any (D1 D2 T V : ByteArray) (L1 L2 : List AT) (u1 u2 : Value) (VS : List ByteArray) (va : Option Addr) (vc : Nat) (w : World) (hw : LaidW w) (i0 : IsA w.heap.size w L1 u1) (i1 : IsA w.heap.size w L2 u2) (hT : T.size ≤ maxLen) (hV : V.size ≤ maxLen) (iv : IsS w.heap.size w VS va vc) :
    Calls Tryz.prog 3 #[.agg #[.string D1, u1], .agg #[.string D2, u2], .string T, .string V, .slice va VS.length vc] w fun e w' => e = .returned (.bool true) ∧ Below w.heap.size w w' := by
  unfold maxLen at hT hV
  obtain ⟨ua1, un1, uc1, rfl⟩ := i0.sl
  obtain ⟨ua2, un2, uc2, rfl⟩ := i1.sl
  obtain ⟨vn, hvn⟩ : ∃ k, k = VS.length := ⟨_, rfl⟩
  have hvm : vn ≤ 9223372036854775807 := by have := iv.1; unfold maxLen at this; omega
  obtain ⟨W0, hW0⟩ : ∃ W, W = ((w.alloc (.cells #[.string D1, .slice ua1 un1 uc1] 24)).alloc (.cells #[.string D2, .slice ua2 un2 uc2] 24)) := ⟨_, rfl⟩
  obtain ⟨p, hp⟩ : ∃ p, p = w.heap.size := ⟨_, rfl⟩
  have hb0 : Below w.heap.size w W0 := by rw [hW0]; exact ((Below.refl _ _).alloc (Nat.le_refl _) _).alloc (by simp) _
  have hs0 : W0.heap.size = p + 2 := by rw [hW0, hp]; simp
  have hx := boxes2 w D1 D2 (.slice ua1 un1 uc1) (.slice ua2 un2 uc2)
  rw [← hW0, ← hp] at hx
  have HE0 := Lib.hid (fun (W : World) (hW : Below W0.heap.size W0 W) => And.intro ((hW.cell (p := ⟨p, 0, none⟩) (by show p < W0.heap.size; omega)).trans hx.1) (And.intro ((hW.cell (p := ⟨p, 1, none⟩) (by show p < W0.heap.size; omega)).trans hx.2.1) (And.intro ((hW.cell (p := ⟨p + 1, 0, none⟩) (by show p + 1 < W0.heap.size; omega)).trans hx.2.2.1) ((hW.cell (p := ⟨p + 1, 1, none⟩) (by show p + 1 < W0.heap.size; omega)).trans hx.2.2.2))))
  have HB0 := Lib.hid hb0
  have HA1 : Hid (∀ W, Below W0.heap.size W0 W → IsA W.heap.size W L1 (.slice ua1 un1 uc1)) := Lib.hid (fun W hW => i0.below (bthen hb0 hW) (bthen hb0 hW).size)
  have HA2 : Hid (∀ W, Below W0.heap.size W0 W → IsA W.heap.size W L2 (.slice ua2 un2 uc2)) := Lib.hid (fun W hW => i1.below (bthen hb0 hW) (bthen hb0 hW).size)
  have HAw := Lib.hid (fun (W : World) (hW : Below W0.heap.size W0 W) => awake5_any W (hw.below (bthen hb0 hW)))
  have HLd := Lib.hid (fun (W : World) (hW : Below W0.heap.size W0 W) => hw.below (bthen hb0 hW))
  have HT : Hid (∀ W, Below W0.heap.size W0 W → IsT W.heap.size W (VS.map (fun s => s.data.toList)) (.slice va vn vc)) := Lib.hid (fun W hW => by have := isS_isT iv; rw [← hvn] at this; exact this.below (bthen hb0 hW) (bthen hb0 hW).size)
  have HC : Hid (∀ j (h : j < VS.length), ∃ b off, va = some ⟨b, off, none⟩ ∧ ∀ W, Below W0.heap.size W0 W → W.cell? ⟨b, off + j, none⟩ = some (.string VS[j])) := Lib.hid (fun j hj => by
    rcases iv.2.2 with e | ⟨b, off, e, hb, hc⟩
    · exact absurd hj (by rw [e]; simp)
    · exact ⟨b, off, e, fun W hW => ((bthen hb0 hW).cell (p := ⟨b, off + j, none⟩) hb).trans (hc j hj)⟩)
  have HW0 := Lib.hid hW0.symm
  have HP := Lib.hid hp
  have HVn := Lib.hid hvn
  rw [← hvn]
  obtain ⟨g1, hg1⟩ : ∃ b, greatD D1.data.toList L1 = b := ⟨_, rfl⟩
  obtain ⟨g2, hg2⟩ : ∃ b, greatD D2.data.toList L2 = b := ⟨_, rfl⟩
  have HG1 : Hid (∀ W, Below W0.heap.size W0 W → Calls Tryz.prog 9 #[.agg #[.string D1, .slice ua1 un1 uc1]] W fun e w' => e = .returned (.bool g1) ∧ Below W.heap.size W w') := Lib.hid (fun W hW => by rw [← hg1]; exact great_any D1 L1 _ W (HA1.out W hW))
  have HG2 : Hid (∀ W, Below W0.heap.size W0 W → Calls Tryz.prog 9 #[.agg #[.string D2, .slice ua2 un2 uc2]] W fun e w' => e = .returned (.bool g2) ∧ Below W.heap.size W w') := Lib.hid (fun W hW => by rw [← hg2]; exact great_any D2 L2 _ W (HA2.out W hW))
  have HD1 := Lib.hid hg1
  clear hw i0 i1 iv hW0 hb0 hs0 hx hp hvn hg1 hg2
  obtain ⟨x0, x1, x2, x3⟩ := HE0.out W0 (Below.refl _ _)
  cases g1 with
  | true =>
    go_enter Tryz.func3, Tryz.ntmps3
    go_upto_region 1 with (fail)
    rw [HW0.out, ← HP.out]
    go_wp2_with (first | (go_at_call 9; (with_reducible refine (HG1.out W0 (Below.refl _ _)).mono ?_); rintro e w2 ⟨rfl, hb2⟩; have HB2 := Lib.hid hb2; (obtain ⟨x0, x1, x2, x3⟩ := HE0.out _ hb2); clear hb2) | (go_at_call 10; (with_reducible refine (HAw.out _ HB2.out).mono ?_); rintro e w9 ⟨rfl, hb9⟩; have HB9 := Lib.hid (bthen HB0.out (bthen HB2.out hb9)); clear hb9))
    go_ret
    exact ⟨rfl, HB9.out⟩
  | false =>
    cases g2 with
    | true =>
      go_enter Tryz.func3, Tryz.ntmps3
      go_upto_region 1 with (fail)
      rw [HW0.out, ← HP.out]
      go_wp2_with (first | (go_at_call 9; (with_reducible refine (HG1.out W0 (Below.refl _ _)).mono ?_); rintro e w2 ⟨rfl, hb2⟩; have HB2 := Lib.hid hb2; (obtain ⟨x0, x1, x2, x3⟩ := HE0.out _ hb2); clear hb2) | (go_at_call 9; (with_reducible refine (HG2.out w2 HB2.out).mono ?_); rintro e w3 ⟨rfl, hb3⟩; have HB3 := Lib.hid (bthen HB2.out hb3); (obtain ⟨x0, x1, x2, x3⟩ := HE0.out _ (bthen HB2.out hb3)); clear hb3) | (go_at_call 10; (with_reducible refine (HAw.out _ HB3.out).mono ?_); rintro e w9 ⟨rfl, hb9⟩; have HB9 := Lib.hid (bthen HB0.out (bthen HB3.out hb9)); clear hb9))
      go_ret
      exact ⟨rfl, HB9.out⟩
    | false =>
      by_cases k0 : 100 < T.size
      · have t0 : decide ((100 : Int) < (T.size : Int)) = true := by simp; omega
        have t0' : decide (100 < T.size) = true := by simp; omega
        go_enter Tryz.func3, Tryz.ntmps3
        go_upto_region 1 with (fail)
        rw [HW0.out, ← HP.out]
        go_wp2_with (first | (go_at_call 9; (with_reducible refine (HG1.out W0 (Below.refl _ _)).mono ?_); rintro e w2 ⟨rfl, hb2⟩; have HB2 := Lib.hid hb2; (obtain ⟨x0, x1, x2, x3⟩ := HE0.out _ hb2); clear hb2) | (go_at_call 9; (with_reducible refine (HG2.out w2 HB2.out).mono ?_); rintro e w3 ⟨rfl, hb3⟩; have HB3 := Lib.hid (bthen HB2.out hb3); (obtain ⟨x0, x1, x2, x3⟩ := HE0.out _ (bthen HB2.out hb3)); clear hb3) | (go_at_call 10; (with_reducible refine (HAw.out _ HB3.out).mono ?_); rintro e w9 ⟨rfl, hb9⟩; have HB9 := Lib.hid (bthen HB0.out (bthen HB3.out hb9)); clear hb9))
        go_ret
        exact ⟨rfl, HB9.out⟩
      · have t0 : decide ((100 : Int) < (T.size : Int)) = false := by simp; omega
        have t0' : decide (100 < T.size) = false := by simp; omega
        by_cases k1 : 300 < V.size
        · have t1 : decide ((300 : Int) < (V.size : Int)) = true := by simp; omega
          have t1' : decide (300 < V.size) = true := by simp; omega
          go_enter Tryz.func3, Tryz.ntmps3
          go_upto_region 1 with (fail)
          rw [HW0.out, ← HP.out]
          go_wp2_with (first | (go_at_call 9; (with_reducible refine (HG1.out W0 (Below.refl _ _)).mono ?_); rintro e w2 ⟨rfl, hb2⟩; have HB2 := Lib.hid hb2; (obtain ⟨x0, x1, x2, x3⟩ := HE0.out _ hb2); clear hb2) | (go_at_call 9; (with_reducible refine (HG2.out w2 HB2.out).mono ?_); rintro e w3 ⟨rfl, hb3⟩; have HB3 := Lib.hid (bthen HB2.out hb3); (obtain ⟨x0, x1, x2, x3⟩ := HE0.out _ (bthen HB2.out hb3)); clear hb3) | (go_at_call 10; (with_reducible refine (HAw.out _ HB3.out).mono ?_); rintro e w9 ⟨rfl, hb9⟩; have HB9 := Lib.hid (bthen HB0.out (bthen HB3.out hb9)); clear hb9))
          go_ret
          exact ⟨rfl, HB9.out⟩
        · have t1 : decide ((300 : Int) < (V.size : Int)) = false := by simp; omega
          have t1' : decide (300 < V.size) = false := by simp; omega
          by_cases k2 : 40 < vn
          · have t2 : decide ((40 : Int) < (vn : Int)) = true := by simp; omega
            have t2' : decide (40 < vn) = true := by simp; omega
            go_enter Tryz.func3, Tryz.ntmps3
            go_upto_region 1 with (fail)
            rw [HW0.out, ← HP.out]
            go_wp2_with (first | (go_at_call 9; (with_reducible refine (HG1.out W0 (Below.refl _ _)).mono ?_); rintro e w2 ⟨rfl, hb2⟩; have HB2 := Lib.hid hb2; (obtain ⟨x0, x1, x2, x3⟩ := HE0.out _ hb2); clear hb2) | (go_at_call 9; (with_reducible refine (HG2.out w2 HB2.out).mono ?_); rintro e w3 ⟨rfl, hb3⟩; have HB3 := Lib.hid (bthen HB2.out hb3); (obtain ⟨x0, x1, x2, x3⟩ := HE0.out _ (bthen HB2.out hb3)); clear hb3) | (go_at_call 10; (with_reducible refine (HAw.out _ HB3.out).mono ?_); rintro e w9 ⟨rfl, hb9⟩; have HB9 := Lib.hid (bthen HB0.out (bthen HB3.out hb9)); clear hb9))
            go_ret
            exact ⟨rfl, HB9.out⟩
          · have t2 : decide ((40 : Int) < (vn : Int)) = false := by simp; omega
            have t2' : decide (40 < vn) = false := by simp; omega
            go_enter Tryz.func3, Tryz.ntmps3
            go_upto_region 1 with (fail)
            rw [HW0.out, ← HP.out]
            go_wp2_with (first | (go_at_call 9; (with_reducible refine (HG1.out W0 (Below.refl _ _)).mono ?_); rintro e w2 ⟨rfl, hb2⟩; have HB2 := Lib.hid hb2; (obtain ⟨x0, x1, x2, x3⟩ := HE0.out _ hb2); clear hb2) | (go_at_call 9; (with_reducible refine (HG2.out w2 HB2.out).mono ?_); rintro e w3 ⟨rfl, hb3⟩; have HB3 := Lib.hid (bthen HB2.out hb3); (obtain ⟨x0, x1, x2, x3⟩ := HE0.out _ (bthen HB2.out hb3)); clear hb3))
            go_loopw [11] (fun i wr => ∃ j : Nat, j ≤ vn ∧ i = .int .i64 j ∧ Hid (∀ k (hk : k < VS.length), k < j → VS[k].size ≤ 300) ∧ Hid (w3 = wr)) (fun i wr => vn - (intOf i).toNat)
            case atStart => exact ⟨0, by omega, rfl, Lib.hid (fun k _ h => absurd h (by omega)), Lib.hid rfl⟩
            case round =>
              obtain ⟨j, hj, rfl, HNo, hwr⟩ := hrel
              obtain rfl := hwr.out
              by_cases hlt : j < vn
              · have t5 : decide ((j : Int) < (vn : Int)) = true := by simp; omega
                have t5' : decide (j < vn) = true := by simpa using hlt
                have hlL : j < VS.length := by rw [← HVn.out]; exact hlt
                obtain ⟨b, off, rfl, hcc⟩ := HC.out j hlL
                have c0 := hcc _ HB3.out
                obtain ⟨X, hX⟩ : ∃ X, X = VS[j] := ⟨_, rfl⟩
                rw [← hX] at c0
                have ti0 : (0 : Int) ≤ (j : Int) := by omega
                have ti1 : (j : Int) < (vn : Int) := by omega
                have HX := Lib.hid hX
                clear hX hcc
                by_cases h300 : 300 < X.size
                · have t6 : decide ((300 : Int) < (X.size : Int)) = true := by simp; omega
                  have t6' : decide (300 < X.size) = true := by simp; omega
                  clear h300
                  go_wp2_with (go_at_call 10; (with_reducible refine (HAw.out _ HB3.out).mono ?_); rintro e w9 ⟨rfl, hb9⟩; have HB9 := Lib.hid (bthen HB0.out (bthen HB3.out hb9)); clear hb9)
                  go_ret
                  exact ⟨rfl, HB9.out⟩
                · have t6 : decide ((300 : Int) < (X.size : Int)) = false := by simp; omega
                  have t6' : decide (300 < X.size) = false := by simp; omega
                  have HNo2 : Hid (∀ k (hk : k < VS.length), k < j + 1 → VS[k].size ≤ 300) := Lib.hid (fun k hk h => by
                    rcases Nat.lt_or_ge k j with h1 | h1
                    · exact HNo.out k hk h1
                    · obtain rfl : k = j := by omega
                      rw [← HX.out]; omega)
                  clear h300
                  go_wp2
                  go_roundw
                  case rel => exact ⟨j + 1, by omega, by go_num, HNo2, Lib.hid (by first | rfl | trivial)⟩
                  case measure => simp [intOf]; omega
              · obtain rfl : j = vn := by omega
                have t5 : decide ((j : Int) < (j : Int)) = false := by simp
                have HSm : Hid (smallT (VS.map (fun s => s.data.toList))) := Lib.hid ⟨by rw [List.length_map, ← HVn.out]; omega, fun s hs => by
                  obtain ⟨x, hx, rfl⟩ := List.mem_map.1 hs
                  obtain ⟨k, hk, rfl⟩ := List.mem_iff_getElem.1 hx
                  rw [bytes_len]
                  have := HNo.out k hk (by rw [HVn.out]; exact hk)
                  omega⟩
                obtain ⟨VL, hVL⟩ : ∃ l, l = VS.map (fun s => s.data.toList) := ⟨_, rfl⟩
                rw [← hVL] at HSm HT
                obtain ⟨hs1, hl1, hd1, hn1⟩ := great_small HD1.out
                rw [bytes_len] at hd1
                have hset := setRef_any D1 ⟨#[110, 111, 110, 101]⟩ (by decide) L1 [] hs1 (.slice ua1 un1 uc1) (.slice none 0 0) w3 (HA1.out w3 HB3.out) ⟨none, 0, rfl, Nat.zero_le _, fun j h => absurd h (Nat.not_lt_zero _)⟩
                have HSet := Lib.hid hset
                have HSl := Lib.hid (And.intro hs1 (And.intro hl1 (And.intro hd1 hn1)))
                clear hVL HC HNo hwr hset hs1 hl1 hd1 hn1
                go_upto_region 9 with (go_at_call 11; (with_reducible refine (HSet.out).mono ?_); rintro e w4 ⟨v4, rfl, ho4, hb4⟩; have HB4 := Lib.hid (bthen HB3.out hb4); (obtain ⟨xa4, xn4, xc4, rfl⟩ := ho4.sl); have HO4 := Lib.hid ho4; clear hb4 ho4)
                obtain ⟨W9, hW9⟩ : ∃ W, W = w4.alloc (.cells #[.string D1, .slice xa4 xn4 xc4] 24) := ⟨_, rfl⟩
                obtain ⟨r, hr⟩ : ∃ r, r = w4.heap.size := ⟨_, rfl⟩
                have hb9 : Below w4.heap.size w4 W9 := by rw [hW9]; exact (Below.refl _ _).alloc (Nat.le_refl _) _
                have z0 : W9.cell? ⟨r, 0, none⟩ = some (.string D1) := by rw [hW9, hr]; go_simp
                have z1 : W9.cell? ⟨r, 1, none⟩ = some (.slice xa4 xn4 xc4) := by rw [hW9, hr]; go_simp
                have hrs : r < W9.heap.size := by rw [hW9, hr]; simp
                have hb09 := bthen HB4.out hb9
                have HE9 : Hid (∀ W, Below W9.heap.size W9 W → W.cell? ⟨p, 0, none⟩ = some (.string D1) ∧ W.cell? ⟨p, 1, none⟩ = some (.slice ua1 un1 uc1) ∧ W.cell? ⟨p + 1, 0, none⟩ = some (.string D2) ∧ W.cell? ⟨p + 1, 1, none⟩ = some (.slice ua2 un2 uc2) ∧ W.cell? ⟨r, 0, none⟩ = some (.string D1) ∧ W.cell? ⟨r, 1, none⟩ = some (.slice xa4 xn4 xc4) ∧ Below W9.heap.size W9 W) := Lib.hid (fun W hW => by
                  obtain ⟨y0, y1, y2, y3⟩ := HE0.out W (bthen hb09 hW)
                  exact ⟨y0, y1, y2, y3, (hW.cell (p := ⟨r, 0, none⟩) hrs).trans z0, (hW.cell (p := ⟨r, 1, none⟩) hrs).trans z1, hW⟩)
                have HWB : Hid (∀ W, Below W9.heap.size W9 W → Below W0.heap.size W0 W) := Lib.hid (fun W hW => bthen hb09 hW)
                have hx4 := HO4.out.below hb9 hb9.size
                have HX4 : Hid (∀ W, Below W9.heap.size W9 W → IsA W.heap.size W (setA L1 (⟨#[110, 111, 110, 101]⟩ : ByteArray).data.toList []) (.slice xa4 xn4 xc4)) := Lib.hid (fun W hW => hx4.below hW hW.size)
                obtain ⟨TD, hTD⟩ : ∃ X : ByteArray, strV (nameN D1.data.toList) = .string X := ⟨⟨(nameN D1.data.toList).toArray⟩, rfl⟩
                obtain ⟨N1, hN1⟩ : ∃ N, N = sortA (normL L1) := ⟨_, rfl⟩
                have hno := fun (W : World) (hW : Below W9.heap.size W9 W) => normT_entry D1 (by have := HSl.out.2.2.1; omega) L1 HSl.out.1 (by have := HSl.out.2.1; omega) (.slice ua1 un1 uc1) W (HA1.out W (HWB.out W hW))
                have hnr := fun (W : World) (hW : Below W9.heap.size W9 W) => normRef_entry D1 (by have := HSl.out.2.2.1; omega) L1 HSl.out.1 (.slice ua1 un1 uc1) W (HA1.out W (HWB.out W hW))
                rw [hTD, ← hN1] at hno hnr
                have HNo := Lib.hid hno
                have HNr := Lib.hid hnr
                have HN1s : Hid (smallA N1) := Lib.hid (by rw [hN1]; exact HSl.out.2.2.2)
                have HN1l : Hid (N1.length ≤ maxLen) := Lib.hid (by have := HN1s.out.1; unfold maxLen; omega)
                obtain ⟨FV, hFV⟩ : ∃ l, l = findA L1 T.data.toList := ⟨_, rfl⟩
                have hva := fun (W : World) (hW : Below W9.heap.size W9 W) => vals_any D1 L1 HSl.out.1 (.slice ua1 un1 uc1) T W (HA1.out W (HWB.out W hW))
                have hvr := fun (W : World) (hW : Below W9.heap.size W9 W) => valsRef_any D1 T (by omega) L1 HSl.out.1 (.slice ua1 un1 uc1) W (HA1.out W (HWB.out W hW))
                rw [← hFV] at hva hvr
                have HVa := Lib.hid hva
                have HVr := Lib.hid hvr
                have HFm : Hid (FV.length ≤ 1000) := Lib.hid (by
                  rw [hFV]
                  unfold findA
                  split
                  · rename_i b hb
                    exact (HSl.out.1.2 _ (List.mem_of_find?_eq_some hb)).2.1
                  · simp)
                obtain ⟨q, hq⟩ : ∃ b, b = hasA L1 T.data.toList V.data.toList := ⟨_, rfl⟩
                have hha := fun (W : World) (hW : Below W9.heap.size W9 W) => has_any D1 T V L1 HSl.out.1 (.slice ua1 un1 uc1) W (HLd.out W (HWB.out W hW)) (HA1.out W (HWB.out W hW))
                have hhr : ∀ (W : World) (hW : Below W9.heap.size W9 W), Calls Tryz.prog 19 #[.agg #[.string D1, .slice ua1 un1 uc1], .string T, .string V] W fun e w' => e = .returned (.bool (hasA L1 T.data.toList V.data.toList)) ∧ Below W.heap.size W w' := fun W hW => hasRef_any D1 T V (by omega) L1 HSl.out.1 (.slice ua1 un1 uc1) W (HA1.out W (HWB.out W hW))
                rw [← hq] at hha hhr
                have HHa := Lib.hid hha
                have HHr := Lib.hid hhr
                have hse := fun (W : World) (hW : Below W9.heap.size W9 W) => set_any D1 T L1 VL (by have := HSl.out.2.2.1; omega) (by omega) HSl.out.1 HSm.out (.slice ua1 un1 uc1) (.slice va j vc) W (HA1.out W (HWB.out W hW)) (HT.out W (HWB.out W hW))
                have hsr := fun (W : World) (hW : Below W9.heap.size W9 W) => setRef_any D1 T (by omega) L1 VL HSl.out.1 (.slice ua1 un1 uc1) (.slice va j vc) W (HA1.out W (HWB.out W hW)) (HT.out W (HWB.out W hW))
                have hsn := fun (W : World) (hW : Below W9.heap.size W9 W) => setRef_any D1 ⟨#[110, 111, 110, 101]⟩ (by decide) L1 [] HSl.out.1 (.slice ua1 un1 uc1) (.slice none 0 0) W (HA1.out W (HWB.out W hW)) ⟨none, 0, rfl, Nat.zero_le _, fun j h => absurd h (Nat.not_lt_zero _)⟩
                have HS5 : Hid (smallA (setA L1 T.data.toList VL)) := Lib.hid (smallA_setA HSl.out.1 (by have := HSl.out.2.1; omega) (by have := nameA_len T.data.toList; rw [bytes_len] at this; omega) HSm.out)
                have HS5l : Hid ((setA L1 T.data.toList VL).length ≤ maxLen) := Lib.hid (by have := HS5.out.1; unfold maxLen; omega)
                have HS6 : Hid (smallA (setA L1 (⟨#[110, 111, 110, 101]⟩ : ByteArray).data.toList [])) := Lib.hid (smallA_setA HSl.out.1 (by have := HSl.out.2.1; omega) (by decide +kernel) ⟨by simp, by simp⟩)
                have HSe := Lib.hid hse
                have HSr := Lib.hid hsr
                have HSn := Lib.hid hsn
                obtain ⟨sq, hsq⟩ : ∃ b, b = ((D1.data.toList, L1) == (D2.data.toList, L2)) := ⟨_, rfl⟩
                have HSm2 : Hid (∀ W, Below W9.heap.size W9 W → Calls Tryz.prog 21 #[.agg #[.string D1, .slice ua1 un1 uc1], .agg #[.string D2, .slice ua2 un2 uc2]] W fun e w' => e = .returned (.bool sq) ∧ Below W.heap.size W w') := Lib.hid (fun W hW => by rw [hsq]; exact same_entry D1 D2 L1 L2 HSl.out.1 _ _ W (HA1.out W (HWB.out W hW)) (HA2.out W (HWB.out W hW)))
                have HSr2 : Hid (∀ W, Below W9.heap.size W9 W → Calls Tryz.prog 12 #[.agg #[.string D1, .slice ua1 un1 uc1], .agg #[.string D2, .slice ua2 un2 uc2]] W fun e w' => e = .returned (.bool sq) ∧ Below W.heap.size W w') := Lib.hid (fun W hW => by rw [hsq]; exact sameRef_entry D1 D2 L1 L2 HSl.out.1 _ _ W (HA1.out W (HWB.out W hW)) (HA2.out W (HWB.out W hW)))
                have hqq : (q == q) = true := by simp
                have hsqq : (sq == sq) = true := by simp
                have hst := HE9.out _ (Below.refl W9.heap.size W9)
                rw [← hW9, ← hr]
                clear hW9 hr hb9 z0 z1 hrs hb09 hx4 hTD hN1 hno hnr hFV hva hvr hq hha hhr hse hsr hsn hsq x0 x1 x2 x3
                go_region_held3 (fun w' => w'.cell? ⟨p, 0, none⟩ = some (.string D1) ∧ w'.cell? ⟨p, 1, none⟩ = some (.slice ua1 un1 uc1) ∧ w'.cell? ⟨p + 1, 0, none⟩ = some (.string D2) ∧ w'.cell? ⟨p + 1, 1, none⟩ = some (.slice ua2 un2 uc2) ∧ w'.cell? ⟨r, 0, none⟩ = some (.string D1) ∧ w'.cell? ⟨r, 1, none⟩ = some (.slice xa4 xn4 xc4) ∧ Below W9.heap.size W9 w')
                  (first | exact hst | (go_split_ands; exact HE9.out _ (bthen (by assumption) hbA)) | (go_split_ands; exact HE9.out _ (bthen (by assumption) hbB)) | (go_split_ands; exact HE9.out _ (bthen (by assumption) hbC)) | (go_split_ands; exact HE9.out _ (bthen (by assumption) hbD)) | (go_split_ands; exact HE9.out _ (bthen (by assumption) hbE)) | (go_split_ands; exact HE9.out _ (bthen (by assumption) hbF)) | (go_split_ands; exact HE9.out _ (bthen (by assumption) hbG)) | (go_split_ands; exact HE9.out _ (bthen (by assumption) hbH)) | (go_split_ands; exact HE9.out _ (bthen (by assumption) hbI)) | (go_split_ands; exact HE9.out _ (bthen (by assumption) hbJ)) | (go_split_ands; exact HE9.out _ (bthen (by assumption) hbK)) | (go_split_ands; exact HE9.out _ (bthen (by assumption) hbL)) | (go_split_ands; exact HE9.out _ (bthen (by assumption) hbM)) | (go_split_ands; exact HE9.out _ (bthen (by assumption) hbN)) | (go_split_ands; exact HE9.out _ (bthen (by assumption) hbO)) | (go_split_ands; exact HE9.out _ (bthen (by assumption) hbP)) | (go_split_ands; exact HE9.out _ (bthen (by assumption) (Below.refl _ _).drew)) | (go_split_ands; exact HE9.out _ (by assumption)))
                  (first
                    | (go_at_call 13; go_split_ands; (with_reducible refine (HNo.out _ (by assumption)).mono ?_); rintro e wA ⟨vA, rfl, hA, hbA⟩; have HIA := Lib.hid (ownA_isA hA HN1l.out); (obtain ⟨aa, an, ac, rfl⟩ := ownA_sl hA); clear hA)
                    | (go_at_call 14; go_split_ands; (with_reducible refine (HNr.out _ (by assumption)).mono ?_); rintro e wB ⟨vB, rfl, hB, hbB⟩; have HIB := Lib.hid hB; have HIA2 := Lib.hid (HIA.out.below hbB hbB.size); (obtain ⟨ba, bn, bc, rfl⟩ := hB.sl); clear hB)
                    | (go_at_call 12; go_split_ands; (with_reducible refine (sameRef_entry TD TD N1 N1 HN1s.out (.slice aa an ac) (.slice ba bn bc) _ HIA2.out HIB.out).mono ?_); rintro e wC ⟨he, hbC⟩; rw [beq_self_E] at he; subst he)
                    | (go_at_call 16; go_split_ands; (with_reducible refine (HVa.out _ (by assumption)).mono ?_); rintro e wD ⟨vD, rfl, hD, hbD⟩; have HID := Lib.hid (ownS_isT hD (by have := HFm.out; unfold maxLen; omega)); (obtain ⟨da, dc, rfl⟩ := ownS_slice hD); clear hD)
                    | (go_at_call 17; go_split_ands; (with_reducible refine (HVr.out _ (by assumption)).mono ?_); rintro e wE ⟨vE, rfl, hE, hbE⟩; have HIE := Lib.hid (hE.below hbE hbE.size); have HID2 := Lib.hid (HID.out.below hbE hbE.size); (obtain ⟨ea, en, ec, rfl⟩ := hE.sl); clear hE)
                    | (go_at_call 15; go_split_ands; (with_reducible refine (textsRef_q FV FV (by have := HFm.out; omega) (.slice da FV.length dc) (.slice ea en ec) _ HID2.out HIE.out).mono ?_); rintro e wF ⟨he, mF, hwF⟩; rw [beq_self_T] at he; subst he; have hbF := below_of_drewN hwF; clear hwF)
                    | (go_at_call 18; go_split_ands; (with_reducible refine (HHa.out _ (by assumption)).mono ?_); rintro e wG ⟨rfl, hbG⟩)
                    | (go_at_call 19; go_split_ands; (with_reducible refine (HHr.out _ (by assumption)).mono ?_); rintro e wH ⟨rfl, hbH⟩)
                    | (go_at_call 20; go_split_ands; (with_reducible refine (HSe.out _ (by assumption)).mono ?_); rintro e wI ⟨vI, rfl, hI, hbI⟩; have HII := Lib.hid (ownA_isA hI HS5l.out); (obtain ⟨ia, iN, ic, rfl⟩ := ownA_sl hI); clear hI)
                    | (go_at_call 11; go_split_ands; (with_reducible refine (HSr.out _ (by assumption)).mono ?_); rintro e wJ ⟨vJ, rfl, hJ, hbJ⟩; have HIJ := Lib.hid hJ; have HII2 := Lib.hid (HII.out.below hbJ hbJ.size); (obtain ⟨ja, jn, jc, rfl⟩ := hJ.sl); clear hJ)
                    | (go_at_call 12; go_split_ands; (with_reducible refine (sameRef_entry D1 D1 (setA L1 T.data.toList VL) (setA L1 T.data.toList VL) HS5.out (.slice ia iN ic) (.slice ja jn jc) _ HII2.out HIJ.out).mono ?_); rintro e wK ⟨he, hbK⟩; rw [beq_self_E] at he; subst he)
                    | (go_at_call 21; go_split_ands; (with_reducible refine (HSm2.out _ (by assumption)).mono ?_); rintro e wL ⟨rfl, hbL⟩)
                    | (go_at_call 12; go_split_ands; (with_reducible refine (HSr2.out _ (by assumption)).mono ?_); rintro e wM ⟨rfl, hbM⟩)
                    | (go_at_call 11; go_split_ands; (with_reducible refine (HSn.out _ (by assumption)).mono ?_); rintro e wN ⟨vN, rfl, hN, hbN⟩; have HIN := Lib.hid hN; (obtain ⟨na, nn, nc, rfl⟩ := hN.sl); clear hN)
                    | (go_at_call 12; go_split_ands; (with_reducible refine (sameRef_entry D1 D1 (setA L1 (⟨#[110, 111, 110, 101]⟩ : ByteArray).data.toList []) (setA L1 (⟨#[110, 111, 110, 101]⟩ : ByteArray).data.toList []) HS6.out (.slice na nn nc) (.slice xa4 xn4 xc4) _ HIN.out (HX4.out _ (by assumption))).mono ?_); rintro e wO ⟨he, hbO⟩; rw [beq_self_E] at he; subst he)
                    | (go_at_call 10; go_split_ands; (with_reducible refine (HAw.out _ (HWB.out _ (by assumption))).mono ?_); rintro e wP ⟨rfl, hbP⟩))
                go_split_ands
                have hfP : Below W9.heap.size W9 wP := by assumption
                have HFP := Lib.hid (bthen HB0.out (HWB.out _ hfP))
                clear hfP
                go_wp2
                go_ret
                exact ⟨rfl, HFP.out⟩
end Go.Proofs.YtlimajgmdhhggaaGreatDoor


namespace Go.Proofs.YtlimajgmdhhggaaGreatDoor
open Go.RowKit
set_option linter.unusedVariables false

set_option maxRecDepth 100000 in
theorem open_isT {H : Type} {enc : TypeId × Value → H} {W : World} {fuel : Nat} {cs : List Value} {x : DataW H × List MemPlace} (h : DataW.trod enc Tryz.prog W 0 (fun _ => true) true fuel 25 cs = some x) :
    ∃ v L, cs = [v] ∧ IsT W.heap.size W L v := by
  have hc : Tryz.prog.cellsOf 9 = 1 := by kernel_rfl
  rcases Go.Deep.open_strs Tryz.underlying25 Tryz.underlying9 hc h with ⟨hcs, _⟩ | ⟨a, len, cap, m, Sx, hcs, _, hle, hmax, hm, _, hcell⟩
  · exact ⟨_, [], hcs, none, 0, rfl, Nat.zero_le _, fun j h => absurd h (by simp)⟩
  · simp only [if_true] at hm
    have hlen : ((List.range len).map fun i => (Sx i).data.toList).length = len := by simp
    refine ⟨_, (List.range len).map fun i => (Sx i).data.toList, hcs, some a, cap, by rw [hlen], by omega, fun j hj => ?_⟩
    rw [hlen] at hj
    obtain ⟨b, off, spot⟩ := a
    have h1 := (hcell j (by omega)).1
    have hspot : spot = none := by simpa [Addr.add] using World.cell?_spot (hcell 0 (by omega)).1
    subst hspot
    rw [Go.WideShapes.add_plain] at h1
    refine ⟨b, off, rfl, World.block_lt_of_cell? W _ h1, ?_⟩
    rw [h1]
    simp only [List.getElem_map, List.getElem_range]
    show some (Value.string (Sx j)) = some (.string ⟨(Sx j).data.toList.toArray⟩)
    rw [whole_ext]

set_option maxRecDepth 100000 in
theorem open_isA {H : Type} {enc : TypeId × Value → H} {W : World} {fuel : Nat} {cs : List Value} {x : DataW H × List MemPlace} (h : DataW.trod enc Tryz.prog W 0 (fun _ => true) true fuel 22 cs = some x) :
    ∃ v L, cs = [v] ∧ IsA W.heap.size W L v := by
  rcases Go.Deep.open_slice_pairs Tryz.underlying22 Tryz.underlying54 (by kernel_rfl) rfl rfl (by kernel_rfl) (by kernel_rfl) h with ⟨hcs, _⟩ | ⟨a, len, cap, m, n, V0, V1, D0, D1, P0, P1, hcs, _, hle, hmax, hm, _, hcell⟩
  · exact ⟨_, [], hcs, none, 0, rfl, Nat.zero_le _, fun j h => absurd h (by simp)⟩
  · simp only [if_true] at hm
    have each : ∀ i, ∃ r : AT, i < len → W.cell? (a.add (i * 2)) = some (strV r.1) ∧ ∃ u, W.cell? (a.add (i * 2 + 1)) = some u ∧ IsT W.heap.size W r.2 u := fun i => by
      by_cases h : i < len
      · obtain ⟨h0, h1, g0, g1⟩ := hcell i (by omega)
        obtain ⟨x, e0, _⟩ := DataW.trod_string Tryz.underlying9 g0
        simp only [List.cons.injEq, and_true] at e0
        obtain ⟨u, L, e1, hL⟩ := open_isT g1
        simp only [List.cons.injEq, and_true] at e1
        refine ⟨(x.data.toList, L), fun _ => ⟨?_, u, by rw [h1, e1], hL⟩⟩
        rw [h0, e0]; show some (Value.string x) = some (.string ⟨x.data.toList.toArray⟩); rw [whole_ext]
      · exact ⟨([], []), fun h' => absurd h' h⟩
    obtain ⟨f, hfl⟩ := Classical.skolem.1 each
    have hL : ((List.range len).map f).length = len := by simp
    refine ⟨_, (List.range len).map f, hcs, some a, cap, by rw [hL], by rw [hL]; omega, fun j hj => ?_⟩
    rw [hL] at hj
    obtain ⟨h0, u, h1, h2⟩ := hfl j hj
    obtain ⟨b, off, spot⟩ := a
    have hspot : spot = none := by simpa [Addr.add] using World.cell?_spot (hfl 0 (by omega)).1
    subst hspot
    rw [Go.WideShapes.add_plain] at h0 h1
    refine ⟨b, off, u, rfl, World.block_lt_of_cell? W _ h0, ?_, ?_, ?_⟩
    · rw [h0]; simp
    · rw [show off + j * 2 + 1 = off + (j * 2 + 1) from by omega, h1]
    · simpa using h2

set_option maxRecDepth 100000 in
theorem open_entry {H : Type} {enc : TypeId × Value → H} {W : World} {v : Value} {d : DataW H} {ps : List MemPlace} (hval : Value.okWide Tryz.prog W .any 0 24 v) (hd : DataW.Trod enc Tryz.prog W 0 (fun _ => true) true 24 v d ps) :
    ∃ (D : ByteArray) (L : List AT) (u : Value), v = .agg #[.string D, u] ∧ D.size ≤ maxLen ∧ IsA W.heap.size W L u := by
  obtain ⟨cs, rfl, _⟩ := Go.WideShapes.okWide_struct Tryz.underlying24 hval
  obtain ⟨fuel, hf⟩ := hd
  obtain ⟨y0, y1, n, _, hl, g0, g1⟩ := Go.ChangeShapes.trod_struct2 Tryz.underlying24 hf
  rw [show Tryz.prog.cellsOf 24 = 2 from by kernel_rfl] at hl
  obtain ⟨v0, v1, hcs⟩ : ∃ v0 v1, (Value.agg cs).cells.toList = [v0, v1] := by
    match h : (Value.agg cs).cells.toList, hl with
    | [v0, v1], _ => exact ⟨v0, v1, rfl⟩
  rw [hcs] at g0 g1
  have f0 : DataW.trod enc Tryz.prog W 0 (fun _ => true) true n 9 (([v0, v1].drop 0).take (Tryz.prog.cellsOf 9)) = some y0 := g0
  have f1 : DataW.trod enc Tryz.prog W 0 (fun _ => true) true n 22 (([v0, v1].drop 1).take (Tryz.prog.cellsOf 22)) = some y1 := g1
  rw [show Tryz.prog.cellsOf 9 = 1 from by kernel_rfl] at f0
  rw [show Tryz.prog.cellsOf 22 = 1 from by kernel_rfl] at f1
  simp only [List.drop_zero, List.take_succ_cons, List.take_zero, List.drop_succ_cons] at f0 f1
  obtain ⟨s, e0, _, hs⟩ := DataW.trod_string Tryz.underlying9 f0
  obtain ⟨u, L, e1, hL⟩ := open_isA f1
  simp only [List.cons.injEq, and_true] at e0 e1
  subst e0 e1
  refine ⟨s, L, _, ?_, hs, hL⟩
  have : cs = #[.string s, v1] := by
    cases cs
    simpa [Value.cells] using hcs
  rw [this]
end Go.Proofs.YtlimajgmdhhggaaGreatDoor

