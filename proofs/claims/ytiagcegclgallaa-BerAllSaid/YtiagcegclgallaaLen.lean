/- ber's lengths: what BerLengths asks. -/
import Derived.Test.YtiagcegclgallaaGet
import Derived.Test.YtiagcegclgallaaAwake
namespace Go.Proofs.Ytiagcegclgallaa
open Go.RowKit
set_option linter.unusedVariables false

def zerosB (k : Nat) : ByteArray := ⟨(List.replicate k (0 : UInt8)).toArray⟩
theorem zerosB_size (k : Nat) : (zerosB k).size = k := by simp [zerosB, ByteArray.size]

theorem conv_zeros (k : Nat) (w : World) : (convert 44 9 (.slice (some ⟨w.heap.size, 0, none⟩) k k)).run Try.prog (w.alloc (.cells (madeCells #[.int .u8 0] k) 5)) = .ok (.string (zerosB k)) (w.alloc (.cells (madeCells #[.int .u8 0] k) 5)) := by
  have hm : (madeCells #[.int .u8 0] k : Array Value) = (bytesV (List.replicate k (0 : UInt8))).toArray := by
    have h := toList_madeCells_one (.int .u8 0) k
    rw [show (bytesV (List.replicate k (0 : UInt8))) = List.replicate k (Value.int .u8 0) from by simp [bytesV, byteV], ← h]
  refine conv_row (l := List.replicate k 0) ?_ (by simp)
  rw [← hm]; exact World.alloc_heap_new _ _

theorem conv_one (m : Int) (b : UInt8) (h : (b.toNat : Int) = m) (w : World) : (convert 44 9 (.slice (some ⟨w.heap.size, 0, none⟩) 1 1)).run Try.prog (w.alloc (.cells #[.int .u8 m] 5)) = .ok (.string ⟨#[b]⟩) (w.alloc (.cells #[.int .u8 m] 5)) := by
  subst h
  exact conv_row (l := [b]) (World.alloc_heap_new _ _) rfl

theorem conv_one' (m : Int) (b : UInt8) (h : (b.toNat : Int) = m) (w : World) (o : Obj) : (convert 44 9 (.slice (some ⟨w.heap.size + 1, 0, none⟩) 1 1)).run Try.prog ((w.alloc o).alloc (.cells #[.int .u8 m] 5)) = .ok (.string ⟨#[b]⟩) ((w.alloc o).alloc (.cells #[.int .u8 m] 5)) := by
  have := conv_one m b h (w.alloc o)
  rw [World.size_alloc] at this; exact this

theorem num_any (n : Int) (w : World) : Calls Try.prog 21 #[.int .i64 n] w fun e w' => e = .returned (.int .i64 n) ∧ w = w' := by
  go_enter Try.func21, Try.ntmps21
  go_wp2
  go_ret
  exact ⟨rfl, rfl⟩

theorem lenK_small : ∀ k : Fin 1200, lenK k.val = if k.val = 0 then 0 else if k.val ≤ 255 then 1 else 2 := by decide +kernel

theorem put_size (k : Nat) (hk : k < 1200) : (putB (.mk 4 (zerosB k) [])).size = if k ≤ 127 then 2 + k else if k ≤ 255 then 3 + k else 4 + k := by
  have hok : okT 12 (.mk 4 (zerosB k) []) = true := by
    simp [okT, mayTagB, isListB, zerosB_size]; omega
  have hl : (zerosB k).data.toList.length = k := by simp [zerosB]
  have hs : (putB (.mk 4 (zerosB k) [])).size = (enc (.mk 4 (zerosB k) [])).length := by simp [putB, hok, ByteArray.size]
  have h2 := lenK_small ⟨k, hk⟩
  rw [hs]
  simp only [enc, encs, List.append_nil, List.length_append, headB_length, hl, lenB_length]
  simp only at h2
  rw [h2]
  by_cases h : k ≤ 127
  · rw [if_pos h, if_pos (by omega)]
  · rw [if_neg h, if_neg (by omega)]
    by_cases h' : k ≤ 255
    · rw [if_pos h', if_neg (by omega), if_pos h'] <;> omega
    · rw [if_neg h', if_neg (by omega), if_neg h'] <;> omega

theorem lenD_cons (f : UInt8) (r : List UInt8) : lenD (f :: r) = if f.toNat < 128 then ((f.toNat : Int), 0, 1)
    else if f.toNat = 128 ∨ 131 < f.toNat then (0, 5, 1)
    else if r.length < f.toNat - 128 then (0, 6, 1)
    else if (r[0]?.getD 0).toNat = 0 ∨ rdFrom 0 (r.take (f.toNat - 128)) < 128 ∨ 1048576 < rdFrom 0 (r.take (f.toNat - 128)) then (0, 5, 1 + (f.toNat - 128))
    else (rdFrom 0 (r.take (f.toNat - 128)), 0, 1 + (f.toNat - 128)) := rfl

theorem size_lit (l : Array UInt8) (z : ByteArray) : ((⟨l⟩ : ByteArray) ++ z).size = l.size + z.size := by rw [ByteArray.size_append]; rfl
theorem size_lit2 (l m : Array UInt8) (z : ByteArray) : ((⟨l⟩ : ByteArray) ++ ⟨m⟩ ++ z).size = l.size + m.size + z.size := by rw [ByteArray.size_append, size_lit]; rfl
theorem size_lit0 (l : Array UInt8) : (⟨l⟩ : ByteArray).size = l.size := rfl

theorem getAt_list (s : ByteArray) (l : List UInt8) (h : s.data.toList = l) : getAt s 0 = dec 12 l := by
  unfold getAt; rw [if_neg (by omega), h]; rfl
theorem dec_tag_err (l : List UInt8) (h : (tagD l).2.1 = 5) : dec 12 l = .error 5 := by
  unfold dec; rw [if_pos (by rw [h]; decide), h]
theorem dec_len_err (l : List UInt8) (h : (tagD l).2.1 = 0) (h' : (lenD (l.drop 1)).2.1 = 5) : dec 12 l = .error 5 := by
  unfold dec; rw [if_neg (by rw [h]; simp), if_pos (by rw [h']; decide), h']

theorem g0 (z : ByteArray) : getAt (⟨#[4, 128]⟩ ++ z) 0 = .error 5 := by
  rw [getAt_list _ (4 :: 128 :: z.data.toList) (by simp [ByteArray.data_append])]
  exact dec_len_err _ rfl rfl
theorem g1 (z : ByteArray) (b : UInt8) (h : b.toNat < 128) : getAt (⟨#[4, 129]⟩ ++ ⟨#[b]⟩ ++ z) 0 = .error 5 := by
  rw [getAt_list _ (4 :: 129 :: b :: z.data.toList) (by simp [ByteArray.data_append])]
  refine dec_len_err _ rfl ?_
  have : lenD (129 :: b :: z.data.toList) = (0, 5, 2) := by
    have hx : rdFrom 0 ((b :: z.data.toList).take (UInt8.toNat 129 - 128)) < 128 := by
      show rdFrom 0 [b] < 128
      simp [rdFrom]; omega
    rw [lenD_cons, if_neg (by decide), if_neg (by decide), if_neg (by simp), if_pos (.inr (.inl hx))]
    rfl
  exact congrArg (·.2.1) this
theorem g2 (z : ByteArray) (b : UInt8) : getAt (⟨#[4, 130, 0]⟩ ++ ⟨#[b]⟩ ++ z) 0 = .error 5 := by
  rw [getAt_list _ (4 :: 130 :: 0 :: b :: z.data.toList) (by simp [ByteArray.data_append])]
  refine dec_len_err _ rfl ?_
  have : lenD (130 :: 0 :: b :: z.data.toList) = (0, 5, 3) := by
    rw [lenD_cons, if_neg (by decide), if_neg (by decide), if_neg (by simp), if_pos (.inl rfl)]; rfl
  exact congrArg (·.2.1) this
theorem g3 : getAt ⟨#[4, 132, 0, 0, 0, 1, 120]⟩ 0 = .error 5 := by
  rw [getAt_list _ [4, 132, 0, 0, 0, 1, 120] rfl]
  exact dec_len_err _ rfl rfl
theorem g4 (z : ByteArray) : getAt (⟨#[4, 131, 16, 0, 1]⟩ ++ z) 0 = .error 5 := by
  rw [getAt_list _ (4 :: 131 :: 16 :: 0 :: 1 :: z.data.toList) (by simp [ByteArray.data_append])]
  refine dec_len_err _ rfl ?_
  have : lenD (131 :: 16 :: 0 :: 1 :: z.data.toList) = (0, 5, 4) := by
    rw [lenD_cons, if_neg (by decide), if_neg (by decide), if_neg (by simp), if_pos (.inr (.inr (by show (1048576 : Int) < rdFrom 0 [16, 0, 1]; decide)))]; rfl
  exact congrArg (·.2.1) this
theorem g5 : getAt ⟨#[31, 0]⟩ 0 = .error 5 := by
  rw [getAt_list _ [31, 0] rfl]; exact dec_tag_err _ rfl
theorem g6 : getAt ⟨#[63, 0]⟩ 0 = .error 5 := by
  rw [getAt_list _ [63, 0] rfl]; exact dec_tag_err _ rfl

theorem get_err (s : ByteArray) (h : getAt s 0 = .error 5) (hs : s.size ≤ 140737488351232) (w : World) :
    Calls Try.prog 19 #[.string s, .int .i64 0] w fun e w' => e = .returned (.tuple #[.agg #[.int .i64 0, .string ⟨#[]⟩, .slice none 0 0], .int .i64 0, .int .i64 5]) ∧ Below w.heap.size w w' := by
  have := get_any s 0 hs w
  rw [h] at this
  exact this

set_option maxRecDepth 100000 in
set_option maxHeartbeats 8000000 in
theorem lengths_walk (a0 a1 : Int) (h0 : 0 ≤ a0 ∧ a0 ≤ 65535) (h1 : 0 ≤ a1 ∧ a1 ≤ 255) (w : World) :
    Calls Try.prog 8 #[.int .u16 a0, .int .u8 a1] w fun e w' => e = .returned (.bool true) ∧ Below w.heap.size w w' := by
  obtain ⟨k, hk⟩ : ∃ k : Nat, a0 % 1200 = (k : Int) := ⟨(a0 % 1200).toNat, by omega⟩
  have hk2 : k < 1200 := by omega
  obtain ⟨i0, hi, hz0, hz1, hz2⟩ := info_parts info5
  have hmk := fun w => run_make (P := Try.prog) w 44 5 i0 (.int .u8 0) Try.underlying44 hi hz0 .i64 .i64 k k (by omega) (by omega) (by rw [hz2]; omega) (by omega)
  rw [hz1] at hmk
  simp only [Nat.mul_one, Int.toNat_natCast] at hmk
  have hcv := conv_zeros k
  clear hi hz0 hz1 hz2
  have hput := fun w : World => put_any (.mk 4 (zerosB k) []) (.agg #[.int .i64 4, .string (zerosB k), .slice none 0 0]) w ⟨none, 0, rfl, rfl, by rw [zerosB_size]; unfold maxLen; omega, by decide, trivial⟩
  obtain ⟨P, hP⟩ : ∃ P, P = putB (.mk 4 (zerosB k) []) := ⟨_, rfl⟩
  have hPs : P.size = if k ≤ 127 then 2 + k else if k ≤ 255 then 3 + k else 4 + k := by rw [hP]; exact put_size k hk2
  rw [← hP] at hput
  have HPut := Lib.hid hput
  clear hput hP
  have hzs := zerosB_size k
  obtain ⟨z, hz⟩ : ∃ z, z = zerosB k := ⟨_, rfl⟩
  have hcA := conv_one ((k : Int) % 128) (UInt8.ofNat (k % 128)) (by simp; omega)
  have hcB := conv_one' ((k : Int) % 256) (UInt8.ofNat k) (by simp)
  obtain ⟨bA, hbA⟩ : ∃ b, b = UInt8.ofNat (k % 128) := ⟨_, rfl⟩
  obtain ⟨bB, hbB⟩ : ∃ b, b = UInt8.ofNat k := ⟨_, rfl⟩
  rw [← hz] at hzs hcv HPut
  rw [← hbA] at hcA
  rw [← hbB] at hcB
  have HZ := Lib.hid hz
  have HbA := Lib.hid hbA
  have HbB := Lib.hid hbB
  clear hz hbA hbB
  have hbA2 : bA.toNat < 128 := by have := HbA.out; rw [this]; simp; omega
  have HG1 := Lib.hid (g1 z bA hbA2)
  have HK := Lib.hid hzs
  clear hbA2
  by_cases k1 : k ≤ 127
  · have d1 : decide ((127 : Int) < (k : Int)) = false := by simp; omega
    have d2 : decide ((255 : Int) < (k : Int)) = false := by simp; omega
    rw [if_pos k1] at hPs
    rw [show (k : Int) % 256 = k from by omega] at hcB
    have e1 : (((P.size : Nat) : Int) == 2 + (k : Int)) = true := by rw [hPs]; first | (simp; done) | (simp; omega)
    have HPs := Lib.hid hPs
    clear hPs
    obtain ⟨j, hj⟩ : ∃ j, a1 % 7 = j := ⟨_, rfl⟩
    have hj7 : j = 0 ∨ j = 1 ∨ j = 2 ∨ j = 3 ∨ j = 4 ∨ j = 5 ∨ j = 6 := by omega
    rcases hj7 with rfl | rfl | rfl | rfl | rfl | rfl | rfl
    all_goals
      go_enter Try.func8, Try.ntmps8
      go_wp2_with (first
        | (go_at_call 15; refine (HPut.out _).mono ?_; rintro e w1 ⟨rfl, hb1⟩)
        | (go_at_call 19; (refine (get_err _ (by first | with_reducible exact g0 _ | with_reducible exact HG1.out | with_reducible exact g2 _ _ | with_reducible exact g3 | with_reducible exact g4 _ | with_reducible exact g5 | with_reducible exact g6) (by have hk9 := HK.out; (first | rw [size_lit2] | rw [size_lit] | rw [size_lit0]); (try rw [hk9]); (try simp only [List.size_toArray, List.length_cons, List.length_nil]); omega) _).mono ?_; rintro e w2 ⟨rfl, hb2⟩))
        | (go_at_call 21; refine (num_any 5 _).mono ?_; rintro e w3 ⟨rfl, rfl⟩)
        | (go_at_call 12; refine (awake_any _).mono ?_; rintro e w4 ⟨rfl, hb4⟩))
      go_ret
      exact ⟨rfl, ((((((((Below.refl _ _).alloc' _).then hb1).alloc' _).alloc' _).alloc' _).then hb2).alloc' _).then hb4⟩
  · by_cases k2 : k ≤ 255
    · have d1 : decide ((127 : Int) < (k : Int)) = true := by simp; omega
      have d2 : decide ((255 : Int) < (k : Int)) = false := by simp; omega
      rw [if_neg k1, if_pos k2] at hPs
      rw [show (k : Int) % 256 = k from by omega] at hcB
      have e1 : (((P.size : Nat) : Int) == 2 + (k : Int) + 1) = true := by rw [hPs]; first | (simp; done) | (simp; omega)
      have HPs := Lib.hid hPs
      clear hPs
      obtain ⟨j, hj⟩ : ∃ j, a1 % 7 = j := ⟨_, rfl⟩
      have hj7 : j = 0 ∨ j = 1 ∨ j = 2 ∨ j = 3 ∨ j = 4 ∨ j = 5 ∨ j = 6 := by omega
      rcases hj7 with rfl | rfl | rfl | rfl | rfl | rfl | rfl
      all_goals
        go_enter Try.func8, Try.ntmps8
        go_wp2_with (first
          | (go_at_call 15; refine (HPut.out _).mono ?_; rintro e w1 ⟨rfl, hb1⟩)
          | (go_at_call 19; (refine (get_err _ (by first | with_reducible exact g0 _ | with_reducible exact HG1.out | with_reducible exact g2 _ _ | with_reducible exact g3 | with_reducible exact g4 _ | with_reducible exact g5 | with_reducible exact g6) (by have hk9 := HK.out; (first | rw [size_lit2] | rw [size_lit] | rw [size_lit0]); (try rw [hk9]); (try simp only [List.size_toArray, List.length_cons, List.length_nil]); omega) _).mono ?_; rintro e w2 ⟨rfl, hb2⟩))
          | (go_at_call 21; refine (num_any 5 _).mono ?_; rintro e w3 ⟨rfl, rfl⟩)
          | (go_at_call 12; refine (awake_any _).mono ?_; rintro e w4 ⟨rfl, hb4⟩))
        go_ret
        exact ⟨rfl, ((((((((Below.refl _ _).alloc' _).then hb1).alloc' _).alloc' _).alloc' _).then hb2).alloc' _).then hb4⟩
    · have d1 : decide ((127 : Int) < (k : Int)) = true := by simp; omega
      have d2 : decide ((255 : Int) < (k : Int)) = true := by simp; omega
      rw [if_neg k1, if_neg k2] at hPs
      have e1 : (((P.size : Nat) : Int) == 2 + (k : Int) + 1 + 1) = true := by rw [hPs]; first | (simp; done) | (simp; omega)
      have HPs := Lib.hid hPs
      clear hPs
      obtain ⟨j, hj⟩ : ∃ j, a1 % 7 = j := ⟨_, rfl⟩
      have hj7 : j = 0 ∨ j = 1 ∨ j = 2 ∨ j = 3 ∨ j = 4 ∨ j = 5 ∨ j = 6 := by omega
      rcases hj7 with rfl | rfl | rfl | rfl | rfl | rfl | rfl
      all_goals
        go_enter Try.func8, Try.ntmps8
        go_wp2_with (first
          | (go_at_call 15; refine (HPut.out _).mono ?_; rintro e w1 ⟨rfl, hb1⟩)
          | (go_at_call 19; (refine (get_err _ (by first | with_reducible exact g0 _ | with_reducible exact HG1.out | with_reducible exact g2 _ _ | with_reducible exact g3 | with_reducible exact g4 _ | with_reducible exact g5 | with_reducible exact g6) (by have hk9 := HK.out; (first | rw [size_lit2] | rw [size_lit] | rw [size_lit0]); (try rw [hk9]); (try simp only [List.size_toArray, List.length_cons, List.length_nil]); omega) _).mono ?_; rintro e w2 ⟨rfl, hb2⟩))
          | (go_at_call 21; refine (num_any 5 _).mono ?_; rintro e w3 ⟨rfl, rfl⟩)
          | (go_at_call 12; refine (awake_any _).mono ?_; rintro e w4 ⟨rfl, hb4⟩))
        go_ret
        exact ⟨rfl, ((((((((Below.refl _ _).alloc' _).then hb1).alloc' _).alloc' _).alloc' _).then hb2).alloc' _).then hb4⟩
end Go.Proofs.Ytiagcegclgallaa
