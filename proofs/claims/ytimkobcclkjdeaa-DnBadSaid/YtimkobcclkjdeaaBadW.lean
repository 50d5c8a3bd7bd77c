/- What is no name is refused: the walk. -/
import Derived.Test.YtimkobcclkjdeaaDnAwake
namespace Go.Proofs.Ytimkobcclkjdeaa
open Go.RowKit
set_option linter.unusedVariables false

def xsB (j : Nat) : ByteArray := ⟨(List.replicate j 120).toArray⟩
theorem xsB_list (j : Nat) : (xsB j).data.toList = List.replicate j 120 := by simp [xsB]
theorem xsB_size (j : Nat) : (xsB j).size = j := by rw [← bytes_len, xsB_list, List.length_replicate]
theorem xsB_succ (j : Nat) : xsB j ++ ⟨#[120]⟩ = xsB (j + 1) := bytes_ext (by rw [app_list, xsB_list, xsB_list, List.replicate_succ'])
def manyL : Nat → List UInt8
  | 0 => [97, 61, 98]
  | n + 1 => manyL n ++ [44, 97, 61, 98]
def manyB (j : Nat) : ByteArray := ⟨(manyL j).toArray⟩
theorem manyB_list (j : Nat) : (manyB j).data.toList = manyL j := by simp [manyB]
theorem manyL_len : ∀ j, (manyL j).length = 3 + j * 4
  | 0 => rfl
  | j + 1 => by rw [manyL, List.length_append, manyL_len j]; simp; omega
theorem manyB_size (j : Nat) : (manyB j).size = 3 + j * 4 := by rw [← bytes_len, manyB_list, manyL_len]
theorem manyB_succ (j : Nat) : manyB j ++ ⟨#[44, 97, 61, 98]⟩ = manyB (j + 1) := bytes_ext (by rw [app_list, manyB_list, manyB_list]; rfl)

theorem mk0 (w : World) : (Instr.makeSlice 42 (.int .i64 0) (.int .i64 0)).run Try.prog w = .ok (.slice (some ⟨w.heap.size, 0, none⟩) 0 0) (w.alloc (.cells #[] 5)) := by kernel_rfl
theorem cv0 (w : World) (ad : Addr) : (convert 42 9 (.slice (some ad) 0 0)).run Try.prog w = .ok (.string ⟨#[]⟩) w :=
  run_convert_bytes_back w 42 9 5 ad 0 [] Try.underlying42 Try.underlying5 Try.underlying9 fun j hj => absurd hj (by simp)

def badL (L M : ByteArray) : List ByteArray := [⟨#[97]⟩, ⟨#[97, 61]⟩, ⟨#[61, 98]⟩, ⟨#[49, 97, 61, 98]⟩, ⟨#[97, 61, 98, 44]⟩, ⟨#[44, 97, 61, 98]⟩, ⟨#[97, 61, 98, 44, 44, 99, 61, 100]⟩, ⟨#[97, 61, 98, 43, 99, 61, 100]⟩, ⟨#[97, 61, 98, 59, 99, 61, 100]⟩, ⟨#[97, 61, 60, 98]⟩, ⟨#[97, 61, 98, 62]⟩, ⟨#[97, 61, 34, 98, 34]⟩, ⟨#[97, 61, 32, 98]⟩, ⟨#[97, 61, 98, 32]⟩, ⟨#[97, 61, 35, 98]⟩, ⟨#[97, 61, 98, 92]⟩, ⟨#[97, 61, 98, 92, 122]⟩, ⟨#[97, 61, 98, 92, 50]⟩, ⟨#[97, 61, 1]⟩, ⟨#[97, 61, 127]⟩, ⟨#[97, 95, 98, 61, 99]⟩, ⟨#[97, 61]⟩ ++ L, L.extract 0 31 ++ ⟨#[61, 97]⟩, M, ⟨#[97, 32, 61, 32, 98]⟩]
def badT (m : Nat) : List (List UInt8) := [[97], [97, 61], [61, 98], [49, 97, 61, 98], [97, 61, 98, 44], [44, 97, 61, 98], [97, 61, 98, 44, 44, 99, 61, 100], [97, 61, 98, 43, 99, 61, 100], [97, 61, 98, 59, 99, 61, 100], [97, 61, 60, 98], [97, 61, 98, 62], [97, 61, 34, 98, 34], [97, 61, 32, 98], [97, 61, 98, 32], [97, 61, 35, 98], [97, 61, 98, 92], [97, 61, 98, 92, 122], [97, 61, 98, 92, 50], [97, 61, 1], [97, 61, 127], [97, 95, 98, 61, 99], [97, 61] ++ List.replicate 101 120, (List.replicate 101 120).take 31 ++ [61, 97], manyL (8 + m), [97, 32, 61, 32, 98]]
theorem bad_none : ((List.range 3).all fun m => (badT m).all fun s => (parseD s).isNone && decide (s.length ≤ 200)) = true := by decide +kernel
theorem badL_lists (m : Nat) : (badL (xsB 101) (manyB (8 + m))).map (fun B => B.data.toList) = badT m := by
  simp only [badL, List.map_cons, List.map_nil, app_list, xsB_list, manyB_list, head_list]
  rfl
theorem badL_len (L M : ByteArray) : (badL L M).length = 25 := rfl
theorem bad_at (m k : Nat) (hm : m < 3) (hk : k < 25) : parseD ((badL (xsB 101) (manyB (8 + m)))[k]'hk).data.toList = none ∧ ((badL (xsB 101) (manyB (8 + m)))[k]'hk).size ≤ 200 := by
  have h := List.all_eq_true.1 bad_none m (List.mem_range.2 hm)
  have hk2 : k < ((badL (xsB 101) (manyB (8 + m))).map (fun B => B.data.toList)).length := by rw [List.length_map]; exact hk
  have e : ((badL (xsB 101) (manyB (8 + m))).map (fun B => B.data.toList))[k]'hk2 = ((badL (xsB 101) (manyB (8 + m)))[k]'hk).data.toList := by rw [List.getElem_map]; rfl
  have hmem : ((badL (xsB 101) (manyB (8 + m)))[k]'hk).data.toList ∈ badT m := by
    rw [← e, ← badL_lists m]; exact List.getElem_mem hk2
  have := List.all_eq_true.1 h _ hmem
  simp only [Bool.and_eq_true, decide_eq_true_eq, Option.isNone_iff_eq_none] at this
  exact ⟨this.1, by rw [← bytes_len]; exact this.2⟩
theorem bad_cell (L M : ByteArray) (w : World) (k : Nat) (hk : k < 25) : (w.alloc (.cells ((badL L M).map Value.string).toArray 9)).cell? ⟨w.heap.size, k, none⟩ = some (.string ((badL L M)[k]'hk)) := by
  have h := heap_alloc_new w (.cells ((badL L M).map Value.string).toArray 9)
  have hk2 : k < (badL L M).length := hk
  simp only [World.cell?, h]
  rw [List.getElem?_toArray, List.getElem?_map, List.getElem?_eq_getElem hk2]
  rfl

set_option maxRecDepth 100000 in
set_option maxHeartbeats 2000000 in
theorem bad_walk (k n : Nat) (hk : k ≤ 255) (hn : n ≤ 255) (w : World) :
    Calls Try.prog 8 #[.int .u8 k, .int .u8 n] w fun e w' => e = .returned (.bool true) ∧ Below w.heap.size w w' := by
  have h1 := mk0 w
  have h2 := cv0 (w.alloc (.cells #[] 5)) ⟨w.heap.size, 0, none⟩
  have hb0 : Below w.heap.size w (w.alloc (.cells #[] 5)) := (Below.refl _ _).alloc (Nat.le_refl _) _
  have HB0 := Lib.hid hb0
  clear hb0
  go_enter Try.func8, Try.ntmps8
  go_wp2
  clear h1 h2
  obtain ⟨w1, hw1⟩ : ∃ w1, w1 = w.alloc (.cells #[] 5) := ⟨_, rfl⟩
  rw [← hw1] at HB0 ⊢
  clear hw1
  go_loop [5] (fun x => ∃ j : Nat, j ≤ 101 ∧ x = .string (xsB j)) (fun x => match x with | .string A => 101 - A.size | _ => 0)
  case atStart => exact ⟨0, by omega, by rfl⟩
  case round =>
    obtain ⟨j, hj, rfl⟩ := hrel
    have hsz := xsB_size j
    by_cases hlt : j < 101
    · have t1 : decide (((xsB j).size : Int) < 101) = true := by rw [hsz]; simp; omega
      have hs2 : (xsB j).size + 1 ≤ 9223372036854775807 := by omega
      have HS := Lib.hid (xsB_size (j + 1))
      have HS0 := Lib.hid hsz
      clear hsz
      go_wp2
      go_round
      case rel => exact ⟨j + 1, by omega, by rw [← xsB_succ]⟩
      case measure =>
        show 101 - (xsB j ++ ⟨#[120]⟩).size < 101 - (xsB j).size
        rw [xsB_succ, HS.out, HS0.out]; omega
    · obtain rfl : j = 101 := by omega
      have t1 : decide (((xsB 101).size : Int) < 101) = false := by rw [hsz]; rfl
      obtain ⟨L, hL⟩ : ∃ L, L = xsB 101 := ⟨_, rfl⟩
      rw [← hL] at hsz t1 ⊢
      have HL := Lib.hid hL
      have HS0 := Lib.hid hsz
      clear hL hsz
      go_wp2
      go_loop [6, 7] (fun x i => ∃ j : Nat, j ≤ 8 + n % 3 ∧ i = .int .i64 j ∧ x = .string (manyB j)) (fun _ i => 8 + n % 3 - (intOf i).toNat)
      case atStart => exact ⟨0, by omega, rfl, by rfl⟩
      case round =>
        obtain ⟨j, hj, rfl, rfl⟩ := hrel
        have hsz := manyB_size j
        by_cases hlt : j < 8 + n % 3
        · have t2 : decide ((j : Int) < 8 + (n : Int) % 3) = true := by simp; omega
          have hs2 : (manyB j).size + 4 ≤ 9223372036854775807 := by omega
          have HS0 := Lib.hid hsz
          clear hsz
          go_wp2
          go_round
          case rel => exact ⟨j + 1, by omega, by go_num, by rw [← manyB_succ]⟩
          case measure => simp [intOf]; omega
        · obtain rfl : j = 8 + n % 3 := by omega
          have t2 : decide (((8 + n % 3 : Nat) : Int) < 8 + (n : Int) % 3) = false := by simp
          obtain ⟨M, hM⟩ : ∃ M, M = manyB (8 + n % 3) := ⟨_, rfl⟩
          rw [← hM] at hsz ⊢
          have HM := Lib.hid hM
          have HS1 := Lib.hid hsz
          have q1 : 2 + L.size ≤ 9223372036854775807 := by rw [HS0.out]; decide
          have q2 : (31 : Int) ≤ (L.size : Int) := by rw [HS0.out]; decide
          have q3 : (L.extract 0 31).size + 2 ≤ 9223372036854775807 := by rw [ByteArray.size_extract, HS0.out]; decide
          have hk25 : k % 25 < 25 := Nat.mod_lt _ (by decide)
          have hcell := bad_cell L M w1 (k % 25) hk25
          have hbad := bad_at (n % 3) (k % 25) (Nat.mod_lt _ (by decide)) hk25
          rw [← HL.out, ← HM.out] at hbad
          obtain ⟨S, hS⟩ : ∃ S, S = (badL L M)[k % 25]'hk25 := ⟨_, rfl⟩
          rw [← hS] at hcell hbad
          have hkey : keyD S.data.toList = none := by unfold keyD; rw [hbad.1]
          have hpa := fun w => parse_any S (by omega) w
          have hka := fun w => key_any S (by omega) w
          rw [hbad.1] at hpa
          rw [hkey] at hka
          simp only [keyV] at hka
          have hbb : Below w1.heap.size w1 (w1.alloc (.cells ((badL L M).map Value.string).toArray 9)) := (Below.refl _ _).alloc (Nat.le_refl _) _
          have HPa := Lib.hid hpa
          have HKa := Lib.hid hka
          have HBB := Lib.hid hbb
          simp only [badL, List.map_cons, List.map_nil] at hcell
          clear hM hsz hbad hkey hpa hka hbb hS hk25
          go_wp2_with (first
            | (go_at_call 12; refine (HPa.out _).mono ?_; rintro e w3 ⟨hb3, rfl⟩; have HB3 := Lib.hid hb3; clear hb3)
            | (go_at_call 14; refine (HKa.out _).mono ?_; rintro e w4 ⟨rfl, hb4⟩; have HB4 := Lib.hid hb4; clear hb4)
            | (go_at_call 11; refine (awake_any _).mono ?_; rintro e w5 ⟨rfl, hb5⟩; have HB5 := Lib.hid hb5; clear hb5))
          go_ret
          exact ⟨rfl, then_ (then_ (then_ (then_ HB0.out HBB.out) HB3.out) HB4.out) HB5.out⟩
end Go.Proofs.Ytimkobcclkjdeaa
