/- dn.value: the walk. -/
import Derived.Test.YtpnbcmblnplbgaaGreatDoorDnVal
namespace Go.Proofs.YtpnbcmblnplbgaaGreatDoor
open Go.RowKit
set_option linter.unusedVariables false

theorem valN_nil (n : Nat) (f : Bool) : valN n f [] = some [] := by cases n <;> rfl
theorem valN_succ (n : Nat) (f : Bool) {l : List UInt8} (h : l ≠ []) : valN (n + 1) f l = if (oneD f l).2 = 0 then none else (valN n false (l.drop (oneD f l).2)).map ((oneD f l).1 :: ·) := by
  show (if l = [] then some [] else _) = _
  rw [if_neg h]
theorem valN_fuel : ∀ (n m : Nat) (f : Bool) (l : List UInt8), l.length ≤ n → l.length ≤ m → valN n f l = valN m f l
  | 0, m, f, l, h, _ => by
    obtain rfl : l = [] := List.eq_nil_of_length_eq_zero (by omega)
    rw [valN_nil, valN_nil]
  | n + 1, 0, f, l, _, h => by
    obtain rfl : l = [] := List.eq_nil_of_length_eq_zero (by omega)
    rw [valN_nil, valN_nil]
  | n + 1, m + 1, f, l, h1, h2 => by
    by_cases e : l = []
    · subst e; rw [valN_nil, valN_nil]
    · rw [valN_succ n f e, valN_succ m f e]
      by_cases h0 : (oneD f l).2 = 0
      · rw [if_pos h0, if_pos h0]
      · rw [if_neg h0, if_neg h0]
        have hl : (l.drop (oneD f l).2).length ≤ l.length - 1 := by simp; omega
        have hp : 0 < l.length := List.length_pos_iff.2 e
        rw [valN_fuel n m false _ (by omega) (by omega)]
/-- What stands from l on, if it is (f) the beginning. -/
def valF (f : Bool) (l : List UInt8) : Option (List UInt8) := valN l.length f l
theorem valF_nil (f : Bool) : valF f [] = some [] := rfl
theorem valF_step (f : Bool) {l : List UInt8} (h : l ≠ []) : valF f l = if (oneD f l).2 = 0 then none else (valF false (l.drop (oneD f l).2)).map ((oneD f l).1 :: ·) := by
  have hp : 0 < l.length := List.length_pos_iff.2 h
  obtain ⟨n, hn⟩ : ∃ n, l.length = n + 1 := ⟨l.length - 1, by omega⟩
  unfold valF
  rw [hn, valN_succ n f h]
  by_cases h0 : (oneD f l).2 = 0
  · rw [if_pos h0, if_pos h0]
  · rw [if_neg h0, if_neg h0]
    rw [valN_fuel n _ false _ (by simp; omega) (Nat.le_refl _)]

theorem behD_le3 (l : List UInt8) : (behD l).2 ≤ 3 := by
  cases l with
  | nil => exact Nat.zero_le _
  | cons x r =>
    by_cases h : 2 ≤ kindC x
    · rw [behD_free h]; exact (by decide : 2 ≤ 3)
    · cases r with
      | nil => rw [behD_nil h]; exact Nat.zero_le _
      | cons y r => rw [behD_hex h]; exact (by split <;> simp)
theorem oneD_le3 (f : Bool) (l : List UInt8) : (oneD f l).2 ≤ 3 := by
  cases l with
  | nil => exact Nat.zero_le _
  | cons c r =>
    by_cases h : c.toNat = 92
    · rw [oneD_mark h]; exact behD_le3 r
    · by_cases h2 : kindC c = 0 ∨ needC c f r.isEmpty = true
      · rw [oneD_no h h2]; exact Nat.zero_le _
      · rw [oneD_plain h h2]; exact (by decide : 1 ≤ 3)

def valV (o : Option (List UInt8)) : Value := match o with
  | some v => .tuple #[.string ⟨v.toArray⟩, .bool true]
  | none => .tuple #[.string ⟨#[]⟩, .bool false]

set_option maxRecDepth 100000 in
set_option maxHeartbeats 2000000 in
theorem value_any (s : ByteArray) (hs : s.size ≤ 140737488351232) (w : World) :
    Calls Tryz.prog 124 #[.string s] w fun e w' => e = .returned (valV (valD s.data.toList)) ∧ Below w.heap.size w w' := by
  obtain ⟨i0, hi, hz0, hz1, hz2⟩ := info_parts infoB
  have hval : valD s.data.toList = valF true s.data.toList := rfl
  obtain ⟨R, hR⟩ : ∃ R, R = valD s.data.toList := ⟨_, rfl⟩
  rw [← hR] at hval ⊢
  have HR := Lib.hid hval
  clear hR hval
  go_enter Tryz.func124, Tryz.ntmps124
  go_wp2
  go_loopw [4, 5] (fun b i wr => ∃ (j : Nat) (L : List UInt8), i = .int .i64 j ∧ L.length ≤ j ∧ j ≤ s.size + 3 ∧ OwnB w.heap.size wr b L ∧ Below w.heap.size w wr ∧ R = (valF (decide (j = 0)) (s.data.toList.drop j)).map (L ++ ·))
    (fun _ i _ => s.size + 3 - (intOf i).toNat)
  case atStart => exact ⟨0, [], rfl, Nat.le_refl _, by omega, own_nil _ _, Below.refl _ _, by rw [HR.out]; simp⟩
  case round =>
    obtain ⟨j, L, rfl, hLj, hj3, hown, hbel, hres⟩ := hrel
    have HBel := Lib.hid hbel
    have hbs := hbel.size
    obtain ⟨a, cp, hv⟩ := own_slice hown
    subst hv
    by_cases hlt : j < s.size
    · have t1 : decide ((j : Int) < (s.size : Int)) = true := by simp; omega
      have hone := fun w => one_any s j hlt (by omega) w
      have hne : s.data.toList.drop j ≠ [] := by rw [drop_at s j hlt]; simp
      rw [valF_step _ hne, List.drop_drop] at hres
      have hle3 := oneD_le3 (decide (j = 0)) (s.data.toList.drop j)
      unfold oneV at hone
      obtain ⟨r, hr⟩ : ∃ r, r = oneD (decide (j = 0)) (s.data.toList.drop j) := ⟨_, rfl⟩
      simp only [← hr] at hone
      rw [← hr] at hres hle3
      obtain ⟨c, n⟩ := r
      simp only at hone hres hle3
      have HOne := Lib.hid hone
      have hcl := c.toNat_lt
      by_cases h0 : n = 0
      · subst h0
        rw [if_pos rfl] at hres
        have HRes := Lib.hid hres
        have HO := Lib.hid hown
        clear hone hr hne hres hbel hown
        go_wp2_with (go_at_call 144; refine (HOne.out _).mono ?_; rintro e w2 ⟨rfl, rfl⟩)
        go_ret2
        rw [HRes.out]
        exact ⟨rfl, HBel.out⟩
      · have t2 : ((n : Int) == 0) = false := by simp; omega
        rw [if_neg h0] at hres
        have hnew : R = (valF (decide (j + n = 0)) (s.data.toList.drop (j + n))).map (L ++ [c] ++ ·) := by
          rw [show decide (j + n = 0) = false from by simp; omega, hres]
          simp [Option.map_map, Function.comp_def]
        have HN := Lib.hid hnew
        have HO := Lib.hid hown
        clear hone hr hne hres hbel hown hnew
        go_wp2_with (first
          | (go_at_call 144; refine (HOne.out _).mono ?_; rintro e w2 ⟨rfl, rfl⟩)
          | (at_builtin; refine wpList_append_one rfl (.tmp 20) (.tmp 22) rfl w.heap.size i0 hi hz0 hz1 hz2 (.slice a L.length cp) L rfl (c.toNat : Int) c rfl HO.out rfl (by omega) hbs ?_; intro v3 w3 hown3 hb3; have HO3 := Lib.hid hown3; have HB3 := Lib.hid hb3; clear hown3 hb3))
        go_roundw
        case rel => exact ⟨j + n, L ++ [c], by go_num, by simp; omega, by omega, HO3.out, HBel.out.trans HB3.out, HN.out⟩
        case measure => simp [intOf]; omega
    · have t1 : decide ((j : Int) < (s.size : Int)) = false := by simp; omega
      rw [List.drop_of_length_le (by simp; omega), valF_nil] at hres
      simp only [Option.map_some, List.append_nil] at hres
      have hcv := conv_own hown
      have HRes := Lib.hid hres
      clear hown hres hbel
      go_wp2
      go_ret2
      rw [HRes.out]
      exact ⟨rfl, HBel.out⟩
end Go.Proofs.YtpnbcmblnplbgaaGreatDoor
