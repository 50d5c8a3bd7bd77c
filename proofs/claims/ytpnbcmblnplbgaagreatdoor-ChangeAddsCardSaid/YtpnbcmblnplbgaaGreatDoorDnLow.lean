/- The document's own Lower, Fold, Up, Under: the walks. -/
import Derived.Test.YtpnbcmblnplbgaaGreatDoorProg
import Derived.Test.YtpnbcmblnplbgaaGreatDoorDnPure
import Derived.WalkKit
import Derived.WalkLawsBesides
import Derived.WalkSpells
import Derived.Lib.Hide
import Derived.Below
import Derived.RowKit
import Derived.Lib.ConvBytes
import Derived.Laws.IdiomStrings
import Derived.IntWalk
namespace Go.Proofs.YtpnbcmblnplbgaaGreatDoor
open Go.RowKit
set_option linter.unusedVariables false

/-- The first j bytes of s are low, in a row of the call's own. -/
def LowAt (w : World) (s : ByteArray) (j : Nat) (wr : World) : Prop :=
  Below w.heap.size w wr ∧ ∃ A : Array Value, wr.heap[w.heap.size]? = some (.cells A 5 (A.size, A.size + 1)) ∧ s.size ≤ A.size ∧ ∀ k (h : k < s.size), A[k]? = some (.int .u8 ((if k < j then lowC s[k] else s[k]).toNat : Int))

theorem lowAt_start (w : World) (s : ByteArray) : LowAt w s 0 (Lib.bytesWorld w 5 s) := by
  refine ⟨⟨rfl, rfl, rfl, by rw [Lib.bytesWorld_size]; omega, fun k hk => Lib.bytesWorld_at_old w _ s k hk⟩, _, Lib.bytesWorld_at_new w _ s, by simp [Lib.bytesCells], fun k h => ?_⟩
  have hw := Lib.bytesWorld_cell w 5 s k h
  have h1 : k < s.data.toList.length := by simpa using h
  simp only [World.cell?, Lib.bytesWorld_at_new] at hw
  have hb : k < (Lib.bytesCells w 5 s).size := by simp [Lib.bytesCells]; omega
  rw [if_neg (by omega)]
  simp [List.getD, List.getElem?_eq_getElem h1] at hw
  exact hw

theorem LowAt.cell {w wr : World} {s : ByteArray} {j : Nat} (h : LowAt w s j wr) (hj : j < s.size) : wr.cell? ⟨w.heap.size, j, none⟩ = some (.int .u8 (s[j].toNat : Int)) ∧ wr.frozen? ⟨w.heap.size, j, none⟩ = false := by
  obtain ⟨_, A, hA, hs, hc⟩ := h
  have := hc j hj
  rw [if_neg (by omega)] at this
  refine ⟨by simp only [World.cell?, hA]; simpa using this, by simp only [World.frozen?, hA]; simp; omega⟩
theorem LowAt.skip {w wr : World} {s : ByteArray} {j : Nat} (h : LowAt w s j wr) (hj : j < s.size) (he : lowC s[j] = s[j]) : LowAt w s (j + 1) wr := by
  obtain ⟨hb, A, hA, hs, hc⟩ := h
  refine ⟨hb, A, hA, hs, fun k hk => ?_⟩
  rw [hc k hk]
  by_cases h1 : k < j
  · rw [if_pos h1, if_pos (by omega)]
  · rw [if_neg h1]
    by_cases h2 : k = j
    · subst h2; rw [if_pos (by omega), he]
    · rw [if_neg (by omega)]
theorem LowAt.store {w wr : World} {s : ByteArray} {j : Nat} (h : LowAt w s j wr) (hj : j < s.size) (n : Int) (hn : n = ((lowC s[j]).toNat : Int)) : LowAt w s (j + 1) (wr.setCell ⟨w.heap.size, j, none⟩ (.int .u8 n)) := by
  subst hn
  obtain ⟨hb, A, hA, hs, hc⟩ := h
  refine ⟨hb.setCell (p := ⟨w.heap.size, j, none⟩) (Nat.le_refl _) _, A.setIfInBounds j (.int .u8 (lowC s[j]).toNat), ?_, by simpa using hs, fun k hk => ?_⟩
  · obtain ⟨hlt, hv⟩ := Array.getElem?_eq_some_iff.1 hA
    show (wr.heap.modify w.heap.size _)[w.heap.size]? = _
    rw [Array.getElem?_eq_getElem (by rw [Array.size_modify]; exact hlt), Array.getElem_modify_self, hv]
    simp
  · rw [Array.getElem?_setIfInBounds]
    by_cases h2 : j = k
    · subst h2; rw [if_pos rfl, if_pos (by omega), if_pos (by omega)]
    · rw [if_neg h2, hc k hk]
      by_cases h1 : k < j
      · rw [if_pos h1, if_pos (by omega)]
      · rw [if_neg h1, if_neg (by omega)]
theorem LowAt.conv {w wr : World} {s : ByteArray} {cap : Nat} (h : LowAt w s s.size wr) :
    (convert 22 9 (.slice (some ⟨w.heap.size, 0, none⟩) s.size cap)).run Tryz.prog wr = .ok (.string (lowB s)) wr := by
  obtain ⟨_, A, hA, hs, hc⟩ := h
  have hl : s.size = (low s.data.toList).length := by simp [low]
  conv => lhs; rw [hl]
  refine run_convert_bytes_back wr 22 9 5 _ cap (low s.data.toList) Tryz.underlying22 Tryz.underlying5 Tryz.underlying9 fun j hj => ?_
  have hj' : j < s.size := by rw [hl]; exact hj
  have e : ((⟨w.heap.size, 0, none⟩ : Addr).add j) = ⟨w.heap.size, j, none⟩ := by simp [Addr.add]; omega
  have := hc j hj'
  rw [if_pos hj'] at this
  rw [e]
  simp only [World.cell?, hA]
  simp [low]
  exact this

theorem lowC_up {c : UInt8} (h1 : 65 ≤ c.toNat) (h2 : c.toNat ≤ 90) : (c.toNat : Int) + 32 = ((lowC c).toNat : Int) := by rw [lowC_toNat, if_pos ⟨h1, h2⟩]; omega
theorem lowC_no {c : UInt8} (h : ¬ (65 ≤ c.toNat ∧ c.toNat ≤ 90)) : lowC c = c := by unfold lowC; rw [if_neg h]

set_option maxRecDepth 100000 in
set_option maxHeartbeats 1000000 in
theorem lowerRef_any (s : ByteArray) (w : World) (hs : s.size ≤ 281474976710656) :
    Calls Tryz.prog 34 #[.string s] w fun e w' => e = .returned (.string (lowB s)) ∧ Below w.heap.size w w' := by
  have hcv := fun w => Lib.run_convert_string_bytes (P := Tryz.prog) w 9 22 5 s Tryz.underlying9 Tryz.underlying22 Tryz.underlying5
  go_enter Tryz.func34, Tryz.ntmps34
  go_wp2
  clear hcv
  generalize grownCap w s.size 0 5 = cap
  go_loopw [4] (fun i wr => ∃ j : Nat, j ≤ s.size ∧ i = .int .i64 j ∧ LowAt w s j wr) (fun i _ => s.size - (intOf i).toNat)
  case atStart => exact ⟨0, by omega, rfl, lowAt_start w s⟩
  case round =>
    obtain ⟨j, hj, rfl, hlow⟩ := hrel
    by_cases hlt : j < s.size
    · have t1 : decide ((j : Int) < (s.size : Int)) = true := by simp; omega
      obtain ⟨c0, f0⟩ := hlow.cell hlt
      obtain ⟨c, hc⟩ : ∃ c : UInt8, c = s[j] := ⟨_, rfl⟩
      rw [← hc] at c0
      have hcl := c.toNat_lt
      have HLow := Lib.hid hlow
      clear hlow
      by_cases h1 : 65 ≤ c.toNat
      · have t2 : decide ((65 : Int) ≤ (c.toNat : Int)) = true := by simp; omega
        by_cases h2 : c.toNat ≤ 90
        · have t3 : decide ((c.toNat : Int) ≤ 90) = true := by simp; omega
          have HSt := Lib.hid (HLow.out.store hlt ((c.toNat : Int) + 32) (by rw [lowC_up h1 h2, hc]))
          clear hc
          go_wp2
          go_roundw
          case rel => exact ⟨j + 1, by omega, by go_num, HSt.out⟩
          case measure => simp [intOf]; omega
        · have t3 : decide ((c.toNat : Int) ≤ 90) = false := by simp; omega
          have HSt := Lib.hid (HLow.out.skip hlt (by rw [← hc]; exact lowC_no (by omega)))
          clear hc
          go_wp2
          go_roundw
          case rel => exact ⟨j + 1, by omega, by go_num, HSt.out⟩
          case measure => simp [intOf]; omega
      · have t2 : decide ((65 : Int) ≤ (c.toNat : Int)) = false := by simp; omega
        have HSt := Lib.hid (HLow.out.skip hlt (by rw [← hc]; exact lowC_no (by omega)))
        clear hc
        go_wp2
        go_roundw
        case rel => exact ⟨j + 1, by omega, by go_num, HSt.out⟩
        case measure => simp [intOf]; omega
    · obtain rfl : j = s.size := by omega
      have t1 : decide ((s.size : Int) < (s.size : Int)) = false := by simp
      have hcv := hlow.conv (cap := cap)
      have HLow := Lib.hid hlow
      clear hlow
      go_wp2
      go_ret
      exact ⟨rfl, HLow.out.1⟩
end Go.Proofs.YtpnbcmblnplbgaaGreatDoor
