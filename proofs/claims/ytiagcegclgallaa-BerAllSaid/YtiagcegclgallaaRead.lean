/- ber.ReadInt and the document's own ReadInt: the walks. -/
import Derived.Test.YtiagcegclgallaaInt
namespace Go.Proofs.Ytiagcegclgallaa
open Go.RowKit
set_option linter.unusedVariables false

/-- What ReadInt tells. -/
def okInt (s : ByteArray) : Bool := decide (1 ≤ s.size) && decide (s.size ≤ 8) && (intL (rd s.data.toList) == s.data.toList)
def theInt (s : ByteArray) : Int := if okInt s then rd s.data.toList else 0

theorem get_data (s : ByteArray) (k : Nat) (h : k < s.size) : s[k] = s.data.toList[k]'(by simpa using h) := by
  simp; rfl

set_option maxRecDepth 100000 in
set_option maxHeartbeats 1000000 in
theorem readInt_any (s : ByteArray) (hs : s.size ≤ maxLen) (w : World) :
    Calls Try.prog 22 #[.string s] w fun e w' => e = .returned (.tuple #[.int .i64 (theInt s), .bool (okInt s)]) ∧ Below w.heap.size w w' := by
  by_cases h : 1 ≤ s.size ∧ s.size ≤ 8
  · obtain ⟨h1, h8⟩ := h
    have hne : s.toList.isEmpty = false := by rw [ByteArray.toList_eq]; simp; intro e; rw [← ByteArray.size_data, e] at h1; simp at h1
    have hne' : ¬ s.toList = [] := by intro e; rw [e] at hne; simp at hne
    have h8' : decide (8 < (s.size : Int)) = false := by simp; omega
    have hl : s.data.toList.length = s.size := by simp
    have hst : start s.data.toList = if (128 : Int) ≤ (s[0].toNat : Int) then -1 else 0 := by
      unfold start; rw [get_data s 0 (by omega)]; simp [List.getElem?_eq_getElem (show 0 < s.data.toList.length by omega)]
    have hin : ∀ k : Nat, (hk : k < s.size) → rdFrom (start s.data.toList) (s.data.toList.take (k + 1)) = rdFrom (start s.data.toList) (s.data.toList.take k) * 256 + (s[k].toNat : Int) := by
      intro k hk; rw [rdFrom_take _ _ _ (by omega), get_data s k hk]
    have hbd := fun k hk h7 => rd_small s.data.toList k hk h7
    have hr := rd_range s.data.toList (by omega)
    have hrd : rd s.data.toList = rdFrom (start s.data.toList) (s.data.toList.take s.size) := by unfold rd; rw [List.take_of_length_le (by omega)]
    have hfin : okInt s = (intL (rd s.data.toList) == s.data.toList) := by unfold okInt; simp [h1, h8]
    have hfin2 : theInt s = if okInt s then rd s.data.toList else 0 := rfl
    have HF := Lib.hid hfin
    have HF2 := Lib.hid hfin2
    have HI := Lib.hid hin
    have HB := Lib.hid hbd
    have HS := Lib.hid hst
    have HR := Lib.hid hrd
    have HL := Lib.hid hl
    clear hfin hfin2 hin hbd hst hrd hl
    by_cases hb : (128 : Int) ≤ (s[0].toNat : Int)
    all_goals
      go_enter Try.func22, Try.ntmps22
      go_wp2_with fail
      go_loopw [4, 5, 18] (fun n _ i wr => ∃ k : Nat, k ≤ s.size ∧ i = .int .i64 k ∧ n = .int .i64 (rdFrom (start s.data.toList) (s.data.toList.take k)) ∧ wr = w) (fun _ _ i _ => s.size - (intOf i).toNat)
      case atStart => exact ⟨0, by omega, rfl, by rw [HS.out]; simp [rdFrom, hb], rfl⟩
      case round =>
        obtain ⟨k, hk, rfl, rfl, rfl⟩ := hrel
        by_cases hlt : k < s.size
        · have hb1 := HB.out k (by rw [HL.out]; omega) (by omega)
          have hi1 := HI.out k hlt
          have HI1 := Lib.hid hi1
          clear hi1
          obtain ⟨v, hv⟩ : ∃ v, v = rdFrom (start s.data.toList) (s.data.toList.take k) := ⟨_, rfl⟩
          rw [← hv] at hb1 HI1 ⊢
          have hc := s[k].toNat_lt
          have hor : bits .or .i64 (v * 256) (s[k].toNat : Int) = v * 256 + (s[k].toNat : Int) := i64_or_low (by omega) (by omega) (by omega) (by omega) (by omega)
          have HV := Lib.hid hv
          clear hv
          obtain ⟨hb1l, hb1h⟩ := hb1
          go_wp2
          go_roundw
          case rel => exact ⟨k + 1, by omega, by go_num, by rw [HI1.out], by first | rfl | trivial⟩
          case measure => simp [intOf]; omega
        · obtain rfl : k = s.size := by omega
          rw [← HR.out]
          by_cases hq : intL (rd s.data.toList) = s.data.toList
          · have hq1 : (intL (rd s.data.toList) == s.toList) = true := by rw [ByteArray.toList_eq]; simpa using hq
            have hok : okInt s = true := by rw [HF.out]; simpa using hq
            have hz : theInt s = rd s.data.toList := by rw [HF2.out, hok]; rfl
            have HO := Lib.hid hok
            have HZ := Lib.hid hz
            clear hok hz
            generalize rd s.data.toList = v at *
            have HQ := Lib.hid hq
            clear hq
            go_wp2_with (go_at_call 24; refine (int_any v hr.1 hr.2 _).mono ?_; rintro e w' ⟨rfl, rfl⟩)
            go_ret2
            exact ⟨by simp [HO.out, HZ.out], (Below.refl _ _).alloc (Nat.le_refl _) _⟩
          · have hq1 : (intL (rd s.data.toList) == s.toList) = false := by rw [ByteArray.toList_eq]; simpa using hq
            have hok : okInt s = false := by rw [HF.out]; simpa using hq
            have hz : theInt s = 0 := by rw [HF2.out, hok]; rfl
            have HO := Lib.hid hok
            have HZ := Lib.hid hz
            clear hok hz
            generalize rd s.data.toList = v at *
            have HQ := Lib.hid hq
            clear hq
            go_wp2_with (go_at_call 24; refine (int_any v hr.1 hr.2 _).mono ?_; rintro e w' ⟨rfl, rfl⟩)
            go_ret2
            exact ⟨by simp [HO.out, HZ.out], (Below.refl _ _).alloc (Nat.le_refl _) _⟩
  · have hok : okInt s = false := by unfold okInt; simp; intro a b; omega
    have hz : theInt s = 0 := by unfold theInt; rw [hok]; rfl
    rw [hz, hok]
    clear hz hok
    by_cases h0 : s.size = 0
    · have hne : s.toList.isEmpty = true := by rw [ByteArray.toList_eq]; simp; rw [← Array.size_eq_zero_iff]; exact h0
      have hne' : s.toList = [] := by simpa using hne
      clear h0 h hne
      go_enter Try.func22, Try.ntmps22
      go_wp2
      go_ret2
      exact ⟨rfl, Below.refl _ _⟩
    · have hne : s.toList.isEmpty = false := by
        rw [ByteArray.toList_eq]; simp; intro e
        have : s.size = 0 := by rw [← ByteArray.size_data, e]; rfl
        exact h0 this
      have hne' : ¬ s.toList = [] := by intro e; rw [e] at hne; simp at hne
      have h8' : decide (8 < (s.size : Int)) = true := by simp; omega
      go_enter Try.func22, Try.ntmps22
      go_wp2
      go_ret2
      exact ⟨rfl, Below.refl _ _⟩

set_option maxRecDepth 100000 in
set_option maxHeartbeats 1000000 in
theorem refReadInt_any (s : ByteArray) (hs : s.size ≤ maxLen) (w : World) :
    Calls Try.prog 23 #[.string s] w fun e w' => e = .returned (.agg #[.int .i64 (theInt s), .bool (okInt s)]) ∧ Below w.heap.size w w' := by
  by_cases h : 1 ≤ s.size ∧ s.size ≤ 8
  · obtain ⟨h1, h8⟩ := h
    have h8' : decide (8 < (s.size : Int)) = false := by simp; omega
    have h1' : decide ((s.size : Int) < 1) = false := by simp; omega
    have hl : s.data.toList.length = s.size := by simp
    have hst : rdFrom (start s.data.toList) (s.data.toList.take 1) = IntKind.i8.wrap (s[0].toNat : Int) := by
      have hb := s[0].toNat_lt
      rw [rdFrom_take _ _ 0 (by omega), ← get_data s 0 (by omega)]
      unfold start; rw [List.getElem?_eq_getElem (show 0 < s.data.toList.length by omega), ← get_data s 0 (by omega)]
      simp only [List.take_zero, rdFrom, List.foldl_nil, Option.getD_some, IntKind.wrap, IntKind.bits, IntKind.signed]
      split <;> simp <;> split <;> omega
    have hst2 : wrap64 (IntKind.i8.wrap (s[0].toNat : Int)) = rdFrom (start s.data.toList) (s.data.toList.take 1) := by
      have := rd_small s.data.toList 1 (by omega) (by omega)
      rw [← hst]; generalize rdFrom (start s.data.toList) (s.data.toList.take 1) = v at *; exact IntWalk.wrap64_in v ⟨by omega, by omega⟩
    have hin : ∀ k : Nat, (hk : k < s.size) → rdFrom (start s.data.toList) (s.data.toList.take (k + 1)) = rdFrom (start s.data.toList) (s.data.toList.take k) * 256 + (s[k].toNat : Int) := by
      intro k hk; rw [rdFrom_take _ _ _ (by omega), get_data s k hk]
    have hbd := fun k hk h7 => rd_small s.data.toList k hk h7
    have hr := rd_range s.data.toList (by omega)
    have hrd : rd s.data.toList = rdFrom (start s.data.toList) (s.data.toList.take s.size) := by unfold rd; rw [List.take_of_length_le (by omega)]
    have hfin : okInt s = (intL (rd s.data.toList) == s.data.toList) := by unfold okInt; simp [h1, h8]
    have hfin2 : theInt s = if okInt s then rd s.data.toList else 0 := rfl
    have HF := Lib.hid hfin
    have HF2 := Lib.hid hfin2
    have HI := Lib.hid hin
    have HB := Lib.hid hbd
    have HR := Lib.hid hrd
    have HL := Lib.hid hl
    have H2 := Lib.hid hst2
    clear hfin hfin2 hin hbd hst hst2 hrd hl
    go_enter Try.func23, Try.ntmps23
    go_wp2_with fail
    go_loopw [3, 4] (fun n i wr => ∃ k : Nat, 1 ≤ k ∧ k ≤ s.size ∧ i = .int .i64 k ∧ n = .int .i64 (rdFrom (start s.data.toList) (s.data.toList.take k)) ∧ wr = w.alloc (.cells #[.int .i64 0, .bool false] 40)) (fun _ i _ => s.size - (intOf i).toNat)
    case atStart => exact ⟨1, by omega, by omega, rfl, by rw [H2.out], rfl⟩
    case round =>
      obtain ⟨k, hk1, hk, rfl, rfl, rfl⟩ := hrel
      by_cases hlt : k < s.size
      · have hb1 := HB.out k (by rw [HL.out]; omega) (by omega)
        have HI1 := Lib.hid (HI.out k hlt)
        obtain ⟨v, hv⟩ : ∃ v, v = rdFrom (start s.data.toList) (s.data.toList.take k) := ⟨_, rfl⟩
        rw [← hv] at hb1 HI1 ⊢
        have hc := s[k].toNat_lt
        obtain ⟨hb1l, hb1h⟩ := hb1
        have hor : bits .or .i64 (v * 256) (s[k].toNat : Int) = v * 256 + (s[k].toNat : Int) := i64_or_low (by omega) (by omega) (by omega) (by omega) (by omega)
        have HV := Lib.hid hv
        clear hv
        go_wp2
        go_roundw
        case rel => exact ⟨k + 1, by omega, by omega, by go_num, by rw [HI1.out], by first | rfl | trivial⟩
        case measure => simp [intOf]; omega
      · obtain rfl : k = s.size := by omega
        rw [← HR.out]
        by_cases hq : intL (rd s.data.toList) = s.data.toList
        · have hq1 : (intL (rd s.data.toList) == s.toList) = true := by rw [ByteArray.toList_eq]; simpa using hq
          have hok : okInt s = true := by rw [HF.out]; simpa using hq
          have hz : theInt s = rd s.data.toList := by rw [HF2.out, hok]; rfl
          have HO := Lib.hid hok
          have HZ := Lib.hid hz
          clear hok hz
          generalize rd s.data.toList = v at *
          have HQ := Lib.hid hq
          clear hq
          go_wp2_with (go_at_call 25; refine (refInt_any v hr.1 hr.2 _).mono ?_; rintro e w1 ⟨rfl, hb1⟩; have hc0 := hb1.cell (p := ⟨w.heap.size, 0, none⟩) (by simp); have hc1 := hb1.cell (p := ⟨w.heap.size, 1, none⟩) (by simp); have hf0 := hb1.frozen (p := ⟨w.heap.size, 0, none⟩) (by simp); have hf1 := hb1.frozen (p := ⟨w.heap.size, 1, none⟩) (by simp); rw [World.cell?_alloc_new] at hc0 hc1; rw [World.frozen?_alloc_new] at hf0 hf1; have hs1 := hb1.size; rw [World.size_alloc] at hs1)
          have hz1 : w.heap.size < w1.heap.size := by omega
          refine bodyPost_ret (v := .agg #[.int .i64 v, .bool true]) (by simp [results, Try.results23, go_sem, hc0, hc1]) rfl ⟨by rw [HO.out, HZ.out], ?_⟩
          exact ((((Below.refl _ _).alloc (Nat.le_refl _) _).trans (hb1.mono (by simp))).setCell (Nat.le_refl _) _).setCell (Nat.le_refl _) _
        · have hq1 : (intL (rd s.data.toList) == s.toList) = false := by rw [ByteArray.toList_eq]; simpa using hq
          have hok : okInt s = false := by rw [HF.out]; simpa using hq
          have hz : theInt s = 0 := by rw [HF2.out, hok]; rfl
          have HO := Lib.hid hok
          have HZ := Lib.hid hz
          clear hok hz
          generalize rd s.data.toList = v at *
          have HQ := Lib.hid hq
          clear hq
          go_wp2_with (go_at_call 25; refine (refInt_any v hr.1 hr.2 _).mono ?_; rintro e w1 ⟨rfl, hb1⟩; have hc0 := hb1.cell (p := ⟨w.heap.size, 0, none⟩) (by simp); have hc1 := hb1.cell (p := ⟨w.heap.size, 1, none⟩) (by simp); have hf0 := hb1.frozen (p := ⟨w.heap.size, 0, none⟩) (by simp); have hf1 := hb1.frozen (p := ⟨w.heap.size, 1, none⟩) (by simp); rw [World.cell?_alloc_new] at hc0 hc1; rw [World.frozen?_alloc_new] at hf0 hf1; have hs1 := hb1.size; rw [World.size_alloc] at hs1)
          have hz1 : w.heap.size < w1.heap.size := by omega
          refine bodyPost_ret (v := .agg #[.int .i64 0, .bool false]) (by simp [results, Try.results23, go_sem, hc0, hc1]) rfl ⟨by rw [HO.out, HZ.out], ?_⟩
          exact ((((Below.refl _ _).alloc (Nat.le_refl _) _).trans (hb1.mono (by simp))).setCell (Nat.le_refl _) _).setCell (Nat.le_refl _) _
  · have hok : okInt s = false := by unfold okInt; simp; intro a b; omega
    have hz : theInt s = 0 := by unfold theInt; rw [hok]; rfl
    rw [hz, hok]
    clear hz hok
    by_cases h0 : s.size = 0
    · have h1' : decide ((s.size : Int) < 1) = true := by simp; omega
      have H0 := Lib.hid h0
      clear h0 h
      go_enter Try.func23, Try.ntmps23
      go_wp2
      refine bodyPost_ret (v := .agg #[.int .i64 0, .bool false]) (by simp [results, Try.results23, go_sem]) rfl ⟨rfl, (Below.refl _ _).alloc (Nat.le_refl _) _⟩
    · have h1' : decide ((s.size : Int) < 1) = false := by simp; omega
      have h8' : decide (8 < (s.size : Int)) = true := by simp; omega
      go_enter Try.func23, Try.ntmps23
      go_wp2
      refine bodyPost_ret (v := .agg #[.int .i64 0, .bool false]) (by simp [results, Try.results23, go_sem]) rfl ⟨rfl, (Below.refl _ _).alloc (Nat.le_refl _) _⟩
end Go.Proofs.Ytiagcegclgallaa
