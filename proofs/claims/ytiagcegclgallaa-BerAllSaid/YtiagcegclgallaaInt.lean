/- ber.number, ber.Int and the document's own Int: the walks. -/
import Derived.Test.YtiagcegclgallaaRows
import Derived.Test.YtiagcegclgallaaShelf
import Derived.Test.YtiagcegclgallaaPlain
import Derived.WalkKit
import Derived.WalkLawsBesides
import Derived.WalkSpells
import Derived.Lib.Hide
namespace Go.Proofs.Ytiagcegclgallaa
open Go.RowKit
set_option linter.unusedVariables false

theorem info5 : (Try.prog.info? 5).map (fun i => (i.zero, i.size, i.bytes)) = some (some (.int .u8 0), 1, 1) := by kernel_rfl

/-- The cells of bytes. -/
def cellsOf (l : List UInt8) : Array Value := (l.map (fun b => Value.int .u8 b.toNat)).toArray
theorem cellsOf_size (l : List UInt8) : (cellsOf l).size = l.length := by simp [cellsOf]
theorem cellsOf_get (l : List UInt8) (j : Nat) : (cellsOf l)[j]? = l[j]?.map (fun b => Value.int .u8 b.toNat) := by simp [cellsOf]

theorem cells_eq (n : Int) (k : Nat) (A : Array Value) (hA : A.size = k) (h : ∀ m, m < k → A[m]? = some (.int .u8 (n / 2 ^ (8 * (k - 1 - m)) % 256))) : A = cellsOf (nb n k) := by
  apply Array.ext_getElem?
  intro j
  by_cases hj : j < k
  · rw [h j hj, cellsOf_get, nb_get n k j hj, Option.map_some, byteAt_int]
  · rw [Array.getElem?_eq_none (by omega), Array.getElem?_eq_none (by rw [cellsOf_size, nb_length]; omega)]

set_option maxRecDepth 100000 in
set_option maxHeartbeats 400000 in
/-- number(n, k): the last k bytes of n, in a new block. -/
theorem number_any (n : Int) (hn0 : -9223372036854775808 ≤ n) (hn1 : n ≤ 9223372036854775807) (k : Nat) (hk : k ≤ 8) (w : World) :
    Calls Try.prog 37 #[.int .i64 n, .int .i64 k] w fun e w' => e = .returned (.slice (some ⟨w.heap.size, 0, none⟩) k k) ∧ w.alloc (.cells (cellsOf (nb n k)) 5) = w' := by
  obtain ⟨i0, hi, hz0, hz1, hz2⟩ := info_parts info5
  have hmk := fun w => run_make (P := Try.prog) w 44 5 i0 (.int .u8 0) Try.underlying44 hi hz0 .i64 .i64 k k (by omega) (by omega) (by rw [hz2]; omega) (by omega)
  rw [hz1] at hmk
  simp only [Nat.mul_one, Int.toNat_natCast] at hmk
  clear hi hz0 hz1 hz2
  go_enter Try.func37, Try.ntmps37
  go_wp2
  go_loopw [6, 11] (fun b i wr => ∃ (j : Nat) (A : Array Value), j ≤ k ∧ i = .int .i64 j ∧ A.size = k ∧ (∀ m, m < k → ∃ x, A[m]? = some (.int .u8 x)) ∧
      (∀ m, m < j → A[m]? = some (.int .u8 (n / 2 ^ (8 * (k - 1 - m)) % 256))) ∧ wr = w.alloc (.cells A 5))
    (fun b i wr => k - (intOf i).toNat)
  case atStart =>
    refine ⟨0, _, Nat.zero_le _, rfl, size_madeCells _ _, fun m hm => ⟨0, ?_⟩, fun m hm => by omega, rfl⟩
    have := toList_madeCells_one (.int .u8 0) k
    rw [← Array.getElem?_toList, this]
    simp [hm]
  case round =>
    obtain ⟨j, A, hj, rfl, hA, hAm, hAj, rfl⟩ := hrel
    by_cases hlt : j < k
    · obtain ⟨x, hx⟩ := hAm j hlt
      have HAm := Lib.hid hAm
      have HAj := Lib.hid hAj
      clear hAm hAj
      go_wp2
      go_roundw
      case rel =>
        refine ⟨j + 1, _, by omega, by go_num, ?_, ?_, ?_, rfl⟩
        · simpa using hA
        · intro m hm
          by_cases e : j = m
          · subst e; exact ⟨n / 2 ^ (8 * (k - 1 - j)) % 256, by simp [hA, hlt]⟩
          · obtain ⟨y, hy⟩ := HAm.out m hm
            exact ⟨y, by rw [Array.getElem?_setIfInBounds_ne e]; exact hy⟩
        · intro m hm
          by_cases e : j = m
          · subst e; simp [hA, hlt]
          · rw [Array.getElem?_setIfInBounds_ne e]; exact HAj.out m (by omega)
      case measure => simp [intOf]; omega
    · obtain rfl : j = k := by omega
      have HE := Lib.hid (cells_eq n j A hA hAj)
      clear hAm hAj
      go_wp2
      go_ret
      exact ⟨rfl, by rw [← HE.out]⟩

/-- 'string(b)' of a new block of bytes. -/
theorem conv_new (w : World) (l : List UInt8) (n cap : Nat) (hn : l.length = n) :
    (convert 44 9 (.slice (some ⟨w.heap.size, 0, none⟩) n cap)).run Try.prog (w.alloc (.cells (cellsOf l) 5)) = .ok (.string ⟨l.toArray⟩) (w.alloc (.cells (cellsOf l) 5)) := by
  subst hn
  refine run_convert_bytes_back _ 44 9 5 _ cap l Try.underlying44 Try.underlying5 Try.underlying9 fun j hj => ?_
  have e : ((⟨w.heap.size, 0, none⟩ : Addr).add j) = ⟨w.heap.size, j, none⟩ := by simp [Addr.add]; omega
  rw [e, World.cell?_alloc_new, cellsOf_get, List.getElem?_eq_getElem hj]
  rfl

theorem bitLen63 {x : Int} (h0 : 0 ≤ x) (h1 : x < 9223372036854775808) : Lib.bitLen x.toNat ≤ 63 := Lib.bitLen_le _ 63 (by decide) (by omega)

set_option maxRecDepth 100000 in
set_option maxHeartbeats 400000 in
/-- ber.Int: the number's bytes. -/
theorem int_any (n : Int) (hn0 : -9223372036854775808 ≤ n) (hn1 : n ≤ 9223372036854775807) (w : World) :
    Calls Try.prog 24 #[.int .i64 n] w fun e w' => e = .returned (.string ⟨(intL n).toArray⟩) ∧ w.alloc (.cells (cellsOf (intL n)) 5) = w' := by
  have hk := intK_le hn0 hn1
  have hcv := fun w => conv_new w (intL n) (intK n) (intK n) intL_length
  unfold intL at hcv ⊢
  by_cases h : n < 0
  · have hm : mag n = (-1 - n).toNat := by unfold mag; rw [if_pos h]; omega
    have hx := i64_not_neg hn0 h
    have hxu : IntKind.u64.wrap (-1 - n) = -1 - n := by rw [IntKind.wrap_u64]; omega
    have hb := bitLen63 (x := -1 - n) (by omega) (by omega)
    have hkk : ((Lib.bitLen (-1 - n).toNat : Nat) : Int) / 8 + 1 = (intK n : Nat) := by unfold intK; rw [hm]; omega
    have HK := Lib.hid hkk
    clear hkk hm
    go_enter Try.func24, Try.ntmps24
    go_wp2_with (first
      | (go_at_call 38; refine (Try.bits_Len _ _ (by omega) (by omega)).mono ?_; rintro e w' ⟨rfl, rfl⟩)
      | (go_at_call 37; rw [HK.out]; refine (number_any n hn0 hn1 (intK n) hk.2 _).mono ?_; rintro e w' ⟨rfl, rfl⟩))
    go_ret
    exact ⟨rfl, rfl⟩
  · have hm : mag n = n.toNat := by unfold mag; rw [if_neg h]
    have hb := bitLen63 (x := n) (by omega) (by omega)
    have hkk : ((Lib.bitLen n.toNat : Nat) : Int) / 8 + 1 = (intK n : Nat) := by unfold intK; rw [hm]; omega
    have HK := Lib.hid hkk
    clear hkk hm
    go_enter Try.func24, Try.ntmps24
    go_wp2_with (first
      | (go_at_call 38; refine (Try.bits_Len _ _ (by omega) (by omega)).mono ?_; rintro e w' ⟨rfl, rfl⟩)
      | (go_at_call 37; rw [HK.out]; refine (number_any n hn0 hn1 (intK n) hk.2 _).mono ?_; rintro e w' ⟨rfl, rfl⟩))
    go_ret
    exact ⟨rfl, rfl⟩

/-! ### A slice of bytes that the call itself made -/
def byteV (b : UInt8) : Value := .int .u8 b.toNat
def OwnB (B : Nat) (w : World) (v : Value) (l : List UInt8) : Prop := w.ownsRow B 5 1 v l.length (l.map byteV)

theorem OwnB.cells {B : Nat} {w : World} {g cap n : Nat} {l : List UInt8} (hn : n = l.length) (h : OwnB B w (.slice (some ⟨g, 0, none⟩) n cap) l) : ∀ j u, (l.map byteV)[j]? = some u → w.cell? ((⟨g, 0, none⟩ : Addr).add j) = some u := by
  subst hn
  intro j u hj
  have e : ((⟨g, 0, none⟩ : Addr).add j) = ⟨g, j, none⟩ := by simp [Addr.add]; omega
  have hlt : j < l.length := by have := (List.getElem?_eq_some_iff.1 hj).1; simpa using this
  rw [e, h.cellAt j (by omega), hj]

/-- 'string(b)' of what is owned. -/
theorem conv_own {B : Nat} {w : World} {v : Value} {l : List UInt8} (h : OwnB B w v l) :
    (convert 44 9 v).run Try.prog w = .ok (.string ⟨l.toArray⟩) w := by
  rcases h.2 with ⟨rfl, hz⟩ | ⟨g, cap, cur, rfl, _⟩
  · have : l = [] := List.eq_nil_of_length_eq_zero hz
    subst this
    exact run_convert_bytes_nil w 44 5 Try.underlying44 Try.underlying5 0 0 9 Try.underlying9
  · refine run_convert_bytes_back w 44 9 5 _ cap l Try.underlying44 Try.underlying5 Try.underlying9 fun j hj => ?_
    refine h.cells rfl j _ ?_
    simp [hj, byteV]

/-- A slice of bytes is nil, and has none, or begins a block. -/
theorem OwnB.split {B : Nat} {w : World} {v : Value} {l : List UInt8} (h : OwnB B w v l) : (v = .slice none 0 0 ∧ l = []) ∨ ∃ g cap, v = .slice (some ⟨g, 0, none⟩) l.length cap := by
  rcases h.2 with ⟨rfl, hz⟩ | ⟨g, cap, cur, rfl, _⟩
  · exact .inl ⟨rfl, List.eq_nil_of_length_eq_zero hz⟩
  · exact .inr ⟨g, cap, rfl⟩

/-! ### The document's own Int: byte ahead of byte. -/

theorem byteAt_zero (m : Int) : byteV (byteAt m 0) = .int .u8 (m % 256) := by
  unfold byteV; rw [byteAt_int]; simp

set_option maxRecDepth 100000 in
set_option maxHeartbeats 1000000 in
theorem refInt_any (n : Int) (hn0 : -9223372036854775808 ≤ n) (hn1 : n ≤ 9223372036854775807) (w : World) :
    Calls Try.prog 25 #[.int .i64 n] w fun e w' => e = .returned (.string ⟨(intL n).toArray⟩) ∧ Below w.heap.size w w' := by
  obtain ⟨i0, hi, hz0, hz1, hz2⟩ := info_parts info5
  go_enter Try.func25, Try.ntmps25
  go_wp2
  go_loopw [0, 3] (fun i b wr => ∃ (m : Int) (l : List UInt8), i = .int .i64 m ∧ -9223372036854775808 ≤ m ∧ m ≤ 9223372036854775807 ∧ intL n = intL m ++ l ∧ l.length + intK m ≤ 8 ∧
      OwnB w.heap.size wr b l ∧ Below w.heap.size w wr)
    (fun i b wr => (mag (intOf i)))
  case atStart => exact ⟨n, [], rfl, hn0, hn1, by simp, by have := intK_le hn0 hn1; simp; omega, World.ownsRow_nil _ _ _ _, Below.refl _ _⟩
  case round =>
    obtain ⟨m, l, rfl, hm0, hm1, hl, hlen, hown, hbel⟩ := hrel
    have hs := hbel.size
    have hk1 := (intK_le hm0 hm1).1
    have HL := Lib.hid hl
    have H0 := Lib.hid (byteAt_zero m)
    clear hl
    have hlit : ∀ wr : World, w.heap.size ≤ wr.heap.size → (wr.alloc (.cells #[.int .u8 (m % 256)] 5)).ownsRow w.heap.size 5 1 (.slice (some ⟨wr.heap.size, 0, none⟩) 1 1) 1 [.int .u8 (m % 256)] :=
      fun wr h => World.ownsRow_lit wr #[.int .u8 (m % 256)] 1 h (by decide) rfl
    have hlit1 := hlit wr hs
    have hbel1 := hbel.alloc hs (.cells #[.int .u8 (m % 256)] 5)
    have hs1 : w.heap.size ≤ (wr.alloc (.cells #[.int .u8 (m % 256)] 5)).heap.size := by simp; omega
    have Hlit := Lib.hid hlit
    clear hlit
    rcases hown.split with ⟨rfl, rfl⟩ | ⟨g, cap, rfl⟩
    · -- nothing has been made yet
      have hown2 : OwnB w.heap.size (wr.alloc (.cells #[.int .u8 (m % 256)] 5)) (.slice (some ⟨wr.heap.size, 0, none⟩) 1 1) [byteAt m 0] := by
        unfold OwnB; rw [List.map_cons, byteAt_zero]; exact hlit1
      have hcv := conv_own hown2
      by_cases hb : -128 ≤ m ∧ m ≤ 127
      · obtain ⟨hb0, hb1⟩ := hb
        go_wp2_with (at_builtin; refine wpList_append_own_none rfl _ _ 44 rfl w.heap.size 5 i0 1 Try.underlying44 hi _ 1 _ rfl hlit1 rfl ?_)
        go_ret
        exact ⟨by rw [HL.out, intL_small hb0 hb1]; rfl, hbel1⟩
      · by_cases hb0 : -128 ≤ m
        all_goals
          have hb1 : m < -128 ∨ 127 < m := by omega
          have hb2 : ¬ (-128 ≤ m ∧ m ≤ 127) := hb
          first
          | have hb3 : 127 < m := by omega
          | have hb3 : m < -128 := by omega
          clear hb
          go_wp2_with (at_builtin; refine wpList_append_own_none rfl _ _ 44 rfl w.heap.size 5 i0 1 Try.underlying44 hi _ 1 _ rfl hlit1 rfl ?_)
          go_roundw
          case rel => exact ⟨m / 256, [byteAt m 0], rfl, by omega, by omega, by rw [HL.out, intL_big hm0 hm1 hb1, List.append_nil], by have := intK_big hm0 hm1 hb1; simp at hlen ⊢; omega, hown2, hbel1⟩
          case measure =>
            simp only [intOf]; rw [mag_div]
            have : 128 ≤ mag m := by unfold mag; split <;> omega
            omega
    · -- some bytes have been made
      have hc2 : ∀ j u, (l.map byteV)[j]? = some u → (wr.alloc (.cells #[.int .u8 (m % 256)] 5)).cell? ((⟨g, 0, none⟩ : Addr).add j) = some u := (World.ownsRow.alloc hown _ : OwnB w.heap.size _ _ l).cells rfl
      have H1 := Lib.hid hc2
      have HO := Lib.hid hlit1
      have hl8 : l.length ≤ 8 := by omega
      clear hc2 hlit1 hown
      by_cases hb : -128 ≤ m ∧ m ≤ 127
      · obtain ⟨hb0, hb1⟩ := hb
        go_wp2_with (at_builtin; refine wpList_append_own _ rfl _ _ 44 rfl w.heap.size 5 i0 (.int .u8 0) 1 1 Try.underlying44 hi hz0 hz1 hz2 rfl (by decide) _ 1 _ rfl HO.out ⟨g, 0, none⟩ l.length cap (l.map byteV) rfl (by simp) H1.out (by intro u hu; simp at hu; obtain ⟨b, _, rfl⟩ := hu; rfl) (by unfold maxLen; omega) (by omega) hs1 ?_; intro v' w1 hown' hgrow _; have hown3 : OwnB w.heap.size w1 v' (byteAt m 0 :: l) := (by unfold OwnB; rw [List.map_cons, byteAt_zero, List.length_cons, Nat.add_comm]; exact hown'); have hcv := conv_own hown3; have hbel3 := hbel1.grown hgrow hs1 (fun k e => by cases e; exact hs); clear hown')
        go_ret
        exact ⟨by rw [HL.out, intL_small hb0 hb1]; rfl, by assumption⟩
      · by_cases hb0 : -128 ≤ m
        all_goals
          have hb1 : m < -128 ∨ 127 < m := by omega
          first
          | have hb3 : 127 < m := by omega
          | have hb3 : m < -128 := by omega
          clear hb
          go_wp2_with (at_builtin; refine wpList_append_own _ rfl _ _ 44 rfl w.heap.size 5 i0 (.int .u8 0) 1 1 Try.underlying44 hi hz0 hz1 hz2 rfl (by decide) _ 1 _ rfl HO.out ⟨g, 0, none⟩ l.length cap (l.map byteV) rfl (by simp) H1.out (by intro u hu; simp at hu; obtain ⟨b, _, rfl⟩ := hu; rfl) (by unfold maxLen; omega) (by omega) hs1 ?_; intro v' w1 hown' hgrow _; have hown3 : OwnB w.heap.size w1 v' (byteAt m 0 :: l) := (by unfold OwnB; rw [List.map_cons, byteAt_zero, List.length_cons, Nat.add_comm]; exact hown'); have hbel3 := hbel1.grown hgrow hs1 (fun k e => by cases e; exact hs); clear hown')
          go_roundw
          case rel => exact ⟨m / 256, byteAt m 0 :: l, rfl, by omega, by omega, by rw [HL.out, intL_big hm0 hm1 hb1, List.append_assoc]; rfl, by have := intK_big hm0 hm1 hb1; simp; omega, by assumption, by assumption⟩
          case measure =>
            simp only [intOf]; rw [mag_div]
            have : 128 ≤ mag m := by unfold mag; split <;> omega
            omega
end Go.Proofs.Ytiagcegclgallaa
