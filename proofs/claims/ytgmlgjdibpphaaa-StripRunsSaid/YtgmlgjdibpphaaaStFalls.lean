/- StripFalls: what a fall leaves (pure), and the walk. -/
import Derived.Test.YtgmlgjdibpphaaaStEdges
import Derived.Test.YtgmlgjdibpphaaaStArg
import Derived.Test.YtgmlgjdibpphaaaRegDet
namespace Go.Proofs.Ytgmlgjdibpphaaa
open Go.RowKit
set_option linter.unusedVariables false
set_option linter.unusedSimpArgs false

theorem sync_ok {B b g : Nat} {w : World} {bl : List Blk} {lo : List (Nat × Blk)} {ch cr : Int} {lv : Value} (h : StA B b g w ⟨bl, lo, ch, cr, false⟩ lv) (hB : B ≤ w.heap.size) (h0 : 0 ≤ ch) (h1 : ch ≤ 1000000000) (hq : ch + 1 ≠ cr) : Calls Try.prog 15 #[.pointer (some ⟨b, 0, none⟩)] w fun e w' => ∃ lv', e = .returned (.int .i64 0) ∧ StA B b g w' ⟨bl, [], ch + 1, cr, false⟩ lv' ∧ Tch B b g w w' := by
  refine (sync_up h hB h0 h1).mono ?_
  rintro e w' ⟨lv', rfl, hs, ht⟩
  rw [if_neg hq, show (ch + 1 == cr) = false from beq_eq_false_iff_ne.2 hq] at hs
  exact ⟨lv', by rw [if_neg hq], hs, ht⟩

def blS (is : List UInt8) (j : Nat) : List Blk := (is.take j).map blockB ++ (List.replicate (39 - j) zeroB ++ [blockB 9])
def loS (j : Nat) : List (Nat × Blk) := (List.range j).map fun i => (i, zeroB)
theorem loS_len (j : Nat) : (loS j).length = j := by simp [loS]
theorem loS_succ (j : Nat) : loS (j + 1) = loS j ++ [(j, zeroB)] := by simp [loS, List.range_succ]
theorem blS_zero (is : List UInt8) : (List.replicate 40 zeroB).set 39 (blockB 9) = blS is 0 := by
  simp only [blS, List.take_zero, List.map_nil, List.nil_append]
  rfl
theorem blS_len (is : List UInt8) (j : Nat) (h : j ≤ is.length) (h3 : j ≤ 30) : (blS is j).length = 40 := by
  simp [blS]; omega
theorem blS_lt (is : List UInt8) (j i : Nat) (h : j ≤ is.length) (h3 : j ≤ 30) (hi : i < j) : (blS is j)[i]? = some (blockB (is[i]'(by omega))) := by
  unfold blS
  rw [List.getElem?_append_left (by simp; omega), List.getElem?_map, List.getElem?_take_of_lt hi, List.getElem?_eq_getElem (by omega)]
  rfl
theorem blS_ge (is : List UInt8) (j i : Nat) (h : j ≤ is.length) (h3 : j ≤ 30) (hi : j ≤ i) (hi2 : i < 39) : (blS is j)[i]? = some zeroB := by
  have hl : ((is.take j).map blockB).length = j := by simp; omega
  unfold blS
  rw [List.getElem?_append_right (by omega), hl, List.getElem?_append_left (by simp; omega), List.getElem?_replicate, if_pos (by omega)]
theorem blS_last (is : List UInt8) (j : Nat) (h : j ≤ is.length) (h3 : j ≤ 30) : (blS is j)[39]? = some (blockB 9) := by
  have hl : ((is.take j).map blockB).length = j := by simp; omega
  unfold blS
  rw [List.getElem?_append_right (by omega), hl, List.getElem?_append_right (by simp), List.length_replicate, Nat.sub_self]
  rfl
theorem blS_succ (is : List UInt8) (j : Nat) (h : j < is.length) (h3 : j < 30) : (blS is j).set j (blockB is[j]) = blS is (j + 1) := by
  have hl : ((is.take j).map blockB).length = j := by simp; omega
  have e : (is.take (j + 1)).map blockB = (is.take j).map blockB ++ [blockB is[j]] := by
    rw [List.take_add_one, List.getElem?_eq_getElem h, List.map_append]
    rfl
  unfold blS
  rw [List.set_append_right _ _ (by omega), hl, Nat.sub_self, show 39 - j = (39 - (j + 1)) + 1 from by omega, List.replicate_succ, List.cons_append, List.set_cons_zero, e, List.append_assoc]
  rfl
theorem backZ (bl : List Blk) : ∀ (L : List (Nat × Blk)), (∀ c ∈ L, c.2 = zeroB) → ∀ i, i < bl.length → ((∃ c ∈ L, c.1 = i) → (backB bl L)[i]? = some zeroB) ∧ ((¬ ∃ c ∈ L, c.1 = i) → (backB bl L)[i]? = bl[i]?)
  | [], _, i, hi => ⟨fun ⟨c, hc, _⟩ => absurd hc (by simp), fun _ => rfl⟩
  | c :: L, h, i, hi => by
    obtain ⟨h1, h2⟩ := backZ bl L (fun d hd => h d (by simp [hd])) i hi
    have hb : backB bl (c :: L) = (backB bl L).set c.1 c.2 := rfl
    rw [hb]
    by_cases hc : c.1 = i
    · refine ⟨fun _ => ?_, fun hn => absurd ⟨c, by simp, hc⟩ hn⟩
      rw [hc, List.getElem?_set_self (by rw [backB_len]; exact hi), h c (by simp)]
    · rw [List.getElem?_set_ne hc]
      refine ⟨fun ⟨d, hd, he⟩ => ?_, fun hn => ?_⟩
      · rcases List.mem_cons.1 hd with rfl | hd
        · exact absurd he hc
        · exact h1 ⟨d, hd, he⟩
      · exact h2 fun ⟨d, hd, he⟩ => hn ⟨d, by simp [hd], he⟩
theorem loS_drop (n k i : Nat) : (∃ c ∈ (loS n).drop k, c.1 = i) ↔ k ≤ i ∧ i < n := by
  constructor
  · rintro ⟨c, hc, rfl⟩
    obtain ⟨j, hj⟩ := List.mem_iff_getElem?.1 hc
    rw [List.getElem?_drop, loS, List.getElem?_map] at hj
    by_cases h : k + j < n
    · rw [List.getElem?_range h] at hj
      obtain rfl := Option.some.inj hj
      exact ⟨by simp, h⟩
    · rw [List.getElem?_eq_none (by simp; omega)] at hj
      cases hj
  · rintro ⟨h1, h2⟩
    refine ⟨(i, zeroB), List.mem_iff_getElem?.2 ⟨i - k, ?_⟩, rfl⟩
    rw [List.getElem?_drop, loS, List.getElem?_map, show k + (i - k) = i from by omega, List.getElem?_range h2]
    rfl
theorem loS_zero (n k : Nat) : ∀ c ∈ (loS n).drop k, c.2 = zeroB := fun c hc => by
  have := List.mem_of_mem_drop hc
  obtain ⟨_, _, rfl⟩ := List.mem_map.1 this
  rfl
def fallX (is : List UInt8) (k t i : Nat) (h : i < is.length) : Blk := if i < k then blockB is[i] else if i = k then (blockB is[i]).take t ++ zeroB.drop t else zeroB
theorem falls_at (is : List UInt8) (n : Nat) (hn : n = is.length) (h3 : is.length ≤ 30) (k t : Nat) (hk : k ≤ is.length) : (∀ i (h : i < is.length), (fallB (blS is n) (loS n) k t)[i]? = some (fallX is k t i h)) ∧ (fallB (blS is n) (loS n) k t)[39]? = some (blockB 9) := by
  have hl := blS_len is n (by omega) (by omega)
  have hz := backZ (blS is n) ((loS n).drop (k + 1)) (loS_zero n (k + 1))
  have hb : ∀ i, i < 40 → (k + 1 ≤ i ∧ i < n → (backB (blS is n) ((loS n).drop (k + 1)))[i]? = some zeroB) ∧ (¬ (k + 1 ≤ i ∧ i < n) → (backB (blS is n) ((loS n).drop (k + 1)))[i]? = (blS is n)[i]?) := fun i hi => by
    obtain ⟨h1, h2⟩ := hz i (by omega)
    rw [loS_drop] at h1 h2
    exact ⟨h1, h2⟩
  by_cases hkn : k < n
  · have hlk : (loS n)[k]? = some (k, zeroB) := by rw [loS, List.getElem?_map, List.getElem?_range hkn]; rfl
    have hf : fallB (blS is n) (loS n) k t = (backB (blS is n) ((loS n).drop (k + 1))).set k ((blockB (is[k]'(by omega))).take t ++ zeroB.drop t) := by
      unfold fallB
      rw [hlk]
      show (backB (blS is n) ((loS n).drop (k + 1))).set k (((backB (blS is n) ((loS n).drop (k + 1))).getD k []).take t ++ zeroB.drop t) = _
      rw [List.getD_eq_getElem?_getD, (hb k (by omega)).2 (by omega), blS_lt is n k (by omega) (by omega) hkn]
      rfl
    rw [hf]
    refine ⟨fun i h => ?_, ?_⟩
    · unfold fallX
      by_cases h1 : i = k
      · subst h1
        rw [List.getElem?_set_self (by rw [backB_len]; omega), if_neg (by omega), if_pos rfl]
      · rw [List.getElem?_set_ne (by omega)]
        by_cases h2 : i < k
        · rw [(hb i (by omega)).2 (by omega), blS_lt is n i (by omega) (by omega) (by omega), if_pos h2]
        · rw [(hb i (by omega)).1 (by omega), if_neg h2, if_neg h1]
    · rw [List.getElem?_set_ne (by omega), (hb 39 (by omega)).2 (by omega), blS_last is n (by omega) (by omega)]
  · have hlk : (loS n)[k]? = none := List.getElem?_eq_none (by rw [loS_len]; omega)
    have hf : fallB (blS is n) (loS n) k t = backB (blS is n) ((loS n).drop (k + 1)) := by
      unfold fallB
      rw [hlk]
    rw [hf]
    refine ⟨fun i h => ?_, ?_⟩
    · unfold fallX
      rw [(hb i (by omega)).2 (by omega), blS_lt is n i (by omega) (by omega) (by omega), if_pos (by omega)]
    · rw [(hb 39 (by omega)).2 (by omega), blS_last is n (by omega) (by omega)]
theorem bytes_extS {A B : ByteArray} (h : A.data.toList = B.data.toList) : A = B := by
  apply ByteArray.ext; exact Array.toList_inj.1 h
theorem ext_listS (N : ByteArray) (i j : Nat) : (N.extract i j).data.toList = (N.data.toList.drop i).take (j - i) := by simp [ByteArray.data_extract, Array.toList_extract, List.extract]
theorem app_listS (A B : ByteArray) : (A ++ B).data.toList = A.data.toList ++ B.data.toList := by simp [ByteArray.data_append]
theorem part_text (x : Blk) (t : Nat) (ht : t ≤ 32) (hx : x.length = 32) : (⟨x.toArray⟩ : ByteArray).extract 0 t ++ (⟨zeroB.toArray⟩ : ByteArray).extract t 32 = ⟨(x.take t ++ zeroB.drop t).toArray⟩ := by
  apply bytes_extS
  rw [app_listS, ext_listS, ext_listS]
  show (x.drop 0).take (t - 0) ++ (zeroB.drop t).take (32 - t) = x.take t ++ zeroB.drop t
  rw [List.drop_zero, Nat.sub_zero, List.take_of_length_le (l := zeroB.drop t) (by simp [zeroB])]

theorem exec_sliceTo {P : Program} {o : Oper} {a : Act} {x y : Operand} {t : TypeId} {s : ByteArray} {T : Nat} (ho : o.op = .slice t x none (some y) none) (hx : a.eval x = .string s) (hy : a.eval y = .int .i64 (T : Int)) (hT : T ≤ s.size) (hu : P.underlying t = some .string) (w : World) : (execOp a.eval o).run P w = .ok (.value (.string (s.extract 0 T))) w := by
  have h1 : (0 : Int) ≤ (T : Int) ∧ (T : Int) ≤ (s.size : Int) := by omega
  unfold execOp
  simp [ho, hx, hy, Instr.slice, run_underlying hu, Instr.sliceBounds, Instr.sliceBound, asIntOf, h1, hT, Instr.sliceAt]
theorem exec_sliceFrom {P : Program} {o : Oper} {a : Act} {x y : Operand} {t : TypeId} {s : ByteArray} {T n : Nat} (ho : o.op = .slice t x (some y) none none) (hx : a.eval x = .string s) (hy : a.eval y = .int .i64 (T : Int)) (hT : T ≤ s.size) (hn : s.size = n) (hu : P.underlying t = some .string) (w : World) : (execOp a.eval o).run P w = .ok (.value (.string (s.extract T n))) w := by
  subst hn
  have h1 : (0 : Int) ≤ (T : Int) ∧ (T : Int) ≤ (s.size : Int) := by omega
  unfold execOp
  simp [ho, hx, hy, Instr.slice, run_underlying hu, Instr.sliceBounds, Instr.sliceBound, asIntOf, h1, hT, Instr.sliceAt]
set_option maxRecDepth 100000 in
set_option maxHeartbeats 8000000 in
theorem stripFalls_any (is : List UInt8) (a0 : Option Addr) (c0 : Nat) (pk pt : Int) (w : World) (hi : IsBS w.heap.size w is a0 c0) : Calls Try.prog 4 #[.slice a0 is.length c0, .int .i64 pk, .int .i64 pt] w fun e w' => e = .returned (.bool true) ∧ Below w.heap.size w w' := by
  obtain ⟨n, hn⟩ : ∃ n, n = is.length := ⟨_, rfl⟩
  by_cases hbig : 30 < n
  · have t1 : decide ((n : Int) > 30) = true := by simp; omega
    have t1' : decide (30 < (n : Int)) = true := by simp; omega
    have t1'' : decide (30 < n) = true := by simpa using hbig
    rw [← hn]
    clear hn hi
    go_enter Try.func4, Try.ntmps4
    go_wp2_with (go_at_call 9; refine (awake16_any _).mono ?_; rintro e w9 ⟨rfl, hb9⟩; have HB9 := Lib.hid hb9; clear hb9)
    go_ret
    exact ⟨rfl, HB9.out⟩
  · have t1 : decide ((n : Int) > 30) = false := by simp; omega
    have t1' : decide (30 < (n : Int)) = false := by simp; omega
    have t1'' : decide (30 < n) = false := by simpa using hbig
    have hn3 : n ≤ 30 := by omega
    have HNew := Lib.hid (fun W => new_any 40 0 0 0 W)
    rw [show nB 40 = 40 from by decide] at HNew
    have HNum := Lib.hid num_any
    have HBk := Lib.hid (fun (b : UInt8) W => block_any b W)
    have HB9b := Lib.hid (fun W => block_any 9 W)
    have HN := Lib.hid hn
    have HN3 := Lib.hid hn3
    have HI := Lib.hid hi
    obtain ⟨s9, hs9⟩ : ∃ s : ByteArray, s = ⟨(blockB 9).toArray⟩ := ⟨_, rfl⟩
    have hl9 : s9.data.toList = blockB 9 := by rw [hs9]
    rw [← hs9] at HB9b
    have HS9 := Lib.hid (And.intro hl9 (show s9.size = 32 from by rw [← bytes_len, hl9]; exact blockB_len _))
    rw [← hn]
    clear hn hi hs9 hl9 hbig
    go_enter Try.func4, Try.ntmps4
    go_upto_region 7 with (first
      | (go_at_call 10; refine (HNew.out _).mono ?_; rintro e w1 ⟨b, g, rfl, hs1, hb1⟩; have HS1 := Lib.hid hs1; have HB1 := Lib.hid hb1; clear hs1 hb1)
      | (go_at_call 26; refine (HB9b.out _).mono ?_; rintro e w2 ⟨rfl, hb2⟩; have HS2 := Lib.hid (HS1.out.below hb2); have HB2 := Lib.hid (bthenS HB1.out hb2); clear hb2)
      | (go_at_call 13; refine (write_up HS2.out HB2.out.size (by decide) (by decide) (by decide) 39 (by decide) s9 HS9.out.2 (by decide)).mono ?_; rintro e w3 ⟨lv3, rfl, hs3, ht3⟩; rw [HS9.out.1, blS_zero is] at hs3; have HS3 := Lib.hid hs3; have HB3 := Lib.hid (HB2.out.trans (ht3.below HS2.out.hb HS2.out.hg HB2.out.size)); clear hs3 ht3))
    have hsy := sync_ok HS3.out HB3.out.size (by decide) (by decide) (by decide)
    have HSy := Lib.hid hsy
    clear hsy
    go_wp2_with (go_at_call 15; refine HSy.out.mono ?_; rintro e w4 ⟨lv4, rfl, hs4, ht4⟩; have HS4 := Lib.hid hs4; have HB4 := Lib.hid (HB3.out.trans (ht4.below HS3.out.hb HS3.out.hg HB3.out.size)); clear hs4 ht4)
    go_loopw [10] (fun i wr => ∃ j : Nat, j ≤ n ∧ i = .int .i64 j ∧ Hid (∃ lv, StA w.heap.size b g wr ⟨blS is j, loS j, (j : Int) + 2, 0, false⟩ lv) ∧ Hid (Below w.heap.size w wr)) (fun i wr => n - (intOf i).toNat)
    case atStart => exact ⟨0, by omega, rfl, Lib.hid ⟨_, HS4.out⟩, HB4⟩
    case round =>
      obtain ⟨j, hj, rfl, HS, HB⟩ := hrel
      rename World => wr
      obtain ⟨lv, hs⟩ := HS.out
      by_cases hlt : j < n
      · have r1 : decide ((j : Int) < (n : Int)) = true := by simp; omega
        have r1' : decide (j < n) = true := by simpa using hlt
        have u0 : (0 : Int) ≤ (j : Int) := by omega
        have u1 : (j : Int) < (n : Int) := by omega
        have hjl : j < is.length := by rw [← HN.out]; exact hlt
        obtain ⟨_, hne | ⟨ab, off, ha, hab, hcell⟩⟩ := HI.out.below HB.out
        · rw [hne] at hjl; cases hjl
        subst ha
        have c1 := hcell j hjl
        obtain ⟨sb, hsb⟩ : ∃ s : ByteArray, s = ⟨(blockB is[j]).toArray⟩ := ⟨_, rfl⟩
        have hsl : sb.data.toList = blockB is[j] := by rw [hsb]
        have HBk2 := Lib.hid (fun W => HBk.out is[j] W)
        rw [← hsb] at HBk2
        have hl40 := blS_len is j (by omega) (by have := HN3.out; omega)
        have hold : (blS is j)[j]'(by omega) = zeroB := by
          have := blS_ge is j j (by omega) (by have := HN3.out; omega) (Nat.le_refl _) (by have := HN3.out; omega)
          rw [List.getElem?_eq_getElem (by omega)] at this
          exact Option.some.inj this
        have hwr : ∀ (W : World) (h : StA w.heap.size b g W ⟨blS is j, loS j, (j : Int) + 2, 0, false⟩ lv) (hB : w.heap.size ≤ W.heap.size), Calls Try.prog 13 #[.pointer (some ⟨b, 0, none⟩), .int .i64 j, .string sb] W fun e w' => ∃ lv', e = .returned (.int .i64 0) ∧ StA w.heap.size b g w' ⟨blS is (j + 1), loS (j + 1), ((j + 1 : Nat) : Int) + 2, 0, false⟩ lv' ∧ Tch w.heap.size b g W w' := fun W h hB => by
          have h9 := write_up h hB (by omega) (by have := HN3.out; omega) (by omega) j (by omega) sb (by rw [← bytes_len, hsl]; exact blockB_len _) (by rw [loS_len]; have := HN3.out; omega)
          rw [hold, hsl, blS_succ is j hjl (by have := HN3.out; omega), ← loS_succ, show (j : Int) + 2 + 1 = ((j + 1 : Nat) : Int) + 2 from by omega] at h9
          exact h9
        have HWr := Lib.hid hwr
        have HSo := Lib.hid hs
        have w9 : IntKind.i64.wrap ((j : Int) + 1) = (j : Int) + 1 := IntWalk.i64_in _ (by have := HN3.out; omega)
        clear hwr hold hl40 hsl hsb hs hcell
        go_wp2_with (first
          | (go_at_call 26; refine (HBk2.out _).mono ?_; rintro e w5 ⟨rfl, hb5⟩; have HS5 := Lib.hid (HSo.out.below hb5); have HB5 := Lib.hid (bthenS HB.out hb5); clear hb5)
          | (go_at_call 13; refine (HWr.out _ HS5.out HB5.out.size).mono ?_; rintro e w6 ⟨lv6, rfl, hs6, ht6⟩; have HS6 := Lib.hid hs6; have HB6 := Lib.hid (HB5.out.trans (ht6.below HS5.out.hb HS5.out.hg HB5.out.size)); clear hs6 ht6)
          | (go_at_call 12; refine (HNum.out _ _).mono ?_; rintro e w7 ⟨rfl, hw⟩; replace hw := hw.symm; subst hw))
        go_roundw
        case rel => exact ⟨j + 1, by omega, by go_num, Lib.hid ⟨_, HS6.out⟩, HB6⟩
        case measure => simp [intOf]; omega
      · obtain rfl : j = n := by omega
        have r1 : decide ((j : Int) < (j : Int)) = false := by simp
        have r1' : decide (j < j) = false := by simp
        obtain ⟨K, hK⟩ : ∃ K, K = kOf pk j := ⟨_, rfl⟩
        obtain ⟨T, hT⟩ : ∃ T, T = tOf pt := ⟨_, rfl⟩
        have hKn : K ≤ j := by rw [hK]; exact kOf_le _ _
        have hT3 : T ≤ 32 := by rw [hT]; exact tOf_le _
        have m1 := kOf_mod pk j
        have m2 := tOf_mod pt
        have hfa := fall_any hs HB.out.size 0 0 pk pt
        rw [loS_len, ← hK, ← hT] at hfa
        rw [← hK, Int.max_comm] at m1
        rw [← hT, Int.max_comm] at m2
        have wn : IntKind.i64.wrap ((j : Int) + 1) = (j : Int) + 1 := IntWalk.i64_in _ (by have := HN3.out; omega)
        have hn0 : ¬ ((j : Int) + 1 = 0) := by omega
        obtain ⟨z0, hz0⟩ : ∃ z : ByteArray, z = ⟨zeroB.toArray⟩ := ⟨_, rfl⟩
        obtain ⟨Z, hZ⟩ : ∃ Z, Z = (List.replicate 32 (byteV 0)).toArray := ⟨_, rfl⟩
        have hmk := mk32
        rw [← hZ] at hmk
        have hcv := conv_zero Z hZ
        rw [← hz0] at hcv
        obtain ⟨hat, h39⟩ := falls_at is j HN.out (by rw [← HN.out]; exact HN3.out) K T (by rw [← HN.out]; exact hKn)
        have hfl : (fallB (blS is j) (loS j) K T).length = 40 := by rw [fallB_len]; exact blS_len is j (by rw [← HN.out]; exact Nat.le_refl _) HN3.out
        obtain ⟨FB, hFB⟩ : ∃ F, F = fallB (blS is j) (loS j) K T := ⟨_, rfl⟩
        rw [← hFB] at hfa h39 hfl
        simp only [← hFB] at hat
        have HFa := Lib.hid hfa
        have HAt := Lib.hid hat
        have H39 := Lib.hid h39
        have HFl := Lib.hid hfl
        have HZ := Lib.hid hz0
        have HT3 := Lib.hid hT3
        have HG := Lib.hid (And.intro hs.hb (And.intro hs.hg HB.out.size))
        clear hK hT hfa hZ hz0 hat h39 hFB hfl hs hKn
        go_upto_region 16 with (first
          | (go_at_call 19; refine HFa.out.mono ?_; rintro e w5 ⟨rfl, hs5, ht5⟩; have HS5 := Lib.hid hs5; have HB5 := Lib.hid (HB.out.trans (ht5.below HG.out.1 HG.out.2.1 HG.out.2.2)); clear hs5 ht5))
        obtain ⟨W6, hW6⟩ : ∃ X, X = w5.alloc (.cells Z 5) := ⟨_, rfl⟩
        have hb6 : Below w5.heap.size w5 W6 := by rw [hW6]; exact (Below.refl _ _).alloc (Nat.le_refl _) _
        have HS6 := Lib.hid (HS5.out.below hb6)
        have HB6 := Lib.hid (bthenS HB5.out hb6)
        have HW6 := Lib.hid hW6.symm
        clear hW6 hb6
        rw [HW6.out]
        go_wp2
        go_loopw [14] (fun i wr => ∃ m : Nat, m ≤ j ∧ i = .int .i64 m ∧ Hid (Below W6.heap.size W6 wr)) (fun i wr => j - (intOf i).toNat)
        case atStart => exact ⟨0, by omega, rfl, Lib.hid (Below.refl _ _)⟩
        case round =>
          obtain ⟨i, hi, rfl, HBx⟩ := hrel
          rename World => wx
          by_cases hlt : i < j
          · have r1 : decide ((i : Int) < (j : Int)) = true := by simp; omega
            have r1' : decide (i < j) = true := by simpa using hlt
            have u0 : (0 : Int) ≤ (i : Int) := by omega
            have u1 : (i : Int) < (j : Int) := by omega
            have hil : i < is.length := by rw [← HN.out]; exact hlt
            obtain ⟨_, hne | ⟨ab, off, ha, hab, hcell⟩⟩ := HI.out.below (HB6.out.trans (HBx.out.mono HB6.out.size))
            · rw [hne] at hil; cases hil
            subst ha
            have c1 := hcell i hil
            obtain ⟨sb, hsb⟩ : ∃ s : ByteArray, s = ⟨(blockB is[i]).toArray⟩ := ⟨_, rfl⟩
            have hsl : sb.data.toList = blockB is[i] := by rw [hsb]
            have hss : sb.size = 32 := by rw [← bytes_len, hsl]; exact blockB_len _
            have HBk2 := Lib.hid (fun W => HBk.out is[i] W)
            rw [← hsb] at HBk2
            have w9 : IntKind.i64.wrap ((i : Int) + 1) = (i : Int) + 1 := IntWalk.i64_in _ (by have := HN3.out; omega)
            obtain ⟨V, hV⟩ : ∃ V : ByteArray, V = ⟨(fallX is K T i hil).toArray⟩ := ⟨_, rfl⟩
            have hrd := fun (W : World) (h : StA w.heap.size b g W ⟨FB, [], 0, 0, false⟩ (.slice none 0 0)) => read_in h i _ (HAt.out i hil)
            rw [← hV] at hrd
            have HRd := Lib.hid hrd
            clear hrd hcell hab
            by_cases hK : i = K
            · have q1 : decide ((i : Int) = (K : Int)) = true := by simp [hK]
              have q2 : ((i : Int) == (K : Int)) = true := by simp [hK]
              have q3 : decide ((i : Int) > (K : Int)) = false := by simp; omega
              have q3' : decide ((K : Int) < (i : Int)) = false := by simp; omega
              have q3'' : decide (K < i) = false := by simp; omega
              have hVe : sb.extract 0 T ++ z0.extract T 32 = V := by
                rw [hV, hsb, HZ.out, part_text _ T HT3.out (blockB_len _)]
                unfold fallX
                rw [if_neg (by omega), if_pos hK]
              obtain ⟨A1, hA1⟩ : ∃ A, A = sb.extract 0 T := ⟨_, rfl⟩
              obtain ⟨A2, hA2⟩ : ∃ A, A = z0.extract T 32 := ⟨_, rfl⟩
              have hz32 : z0.size = 32 := by rw [HZ.out, ← bytes_len]; simp [zeroB]
              have l1 : A1.size ≤ 32 := by rw [hA1, ← bytes_len, ext_listS]; simp; omega
              have l2 : A2.size ≤ 32 := by rw [hA2, ← bytes_len, ext_listS]; simp; omega
              rw [← hA1, ← hA2] at hVe
              replace hA1 := hA1.symm
              replace hA2 := hA2.symm
              have l3 : ¬ (9223372036854775807 < A1.size + A2.size) := by omega
              have v0 : (0 : Int) ≤ (T : Int) := by omega
              have v1 : (T : Int) ≤ 32 := by have := HT3.out; omega
              have hsT : T ≤ sb.size := by rw [hss]; exact HT3.out
              have hzT : T ≤ z0.size := by rw [hz32]; exact HT3.out
              clear hsb hsl hV l1 l2 hK
              go_upto_region 21 with (first
                | (go_at_call 26; refine (HBk2.out _).mono ?_; rintro e w8 ⟨rfl, hb8⟩; have HB8 := Lib.hid (bthenS HBx.out hb8); clear hb8))
              have hst : Below w8.heap.size w8 w8.drew := (Below.refl _ _).drew
              refine region_det (by kernel_rfl) (fun w' => Below w8.heap.size w8 w') (hst) (by kernel_rfl) ?_
              simp only [List.toList_toArray]
              repeat' (first
                | (apply det_val; (case hw => rfl); (case hv => (intro w' hS; first | exact exec_sliceTo rfl rfl rfl hsT Try.underlying9 w' | exact exec_sliceFrom rfl rfl rfl hzT hz32 Try.underlying9 w' | (go_simp; first | done | with_reducible exact rfl))); (simp only [Act.put, List.setIfInBounds_toArray, List.set_cons_zero, List.set_cons_succ]))
                | fail)
              intro wz hSz
              have HBz := Lib.hid (bthenS HB8.out hSz)
              clear hSz hst
              go_wp2_with (first
                | (go_at_call 24; refine (HRd.out _ (HS6.out.below HBz.out)).mono ?_; rintro e w7 ⟨rfl, hw⟩; replace hw := hw.symm; subst hw)
                | (go_at_call 12; refine (HNum.out _ _).mono ?_; rintro e w7 ⟨rfl, hw⟩; replace hw := hw.symm; subst hw))
              go_roundw
              case rel => exact ⟨i + 1, by omega, by go_num, HBz⟩
              case measure => simp [intOf]; omega
            · have q1 : decide ((i : Int) = (K : Int)) = false := decide_eq_false (by omega)
              have q2 : ((i : Int) == (K : Int)) = false := beq_eq_false_iff_ne.2 (by omega)
              by_cases hKl : i < K
              · have q3 : decide ((i : Int) > (K : Int)) = false := by simp; omega
                have q3' : decide ((K : Int) < (i : Int)) = false := by simp; omega
                have q3'' : decide (K < i) = false := by simp; omega
                have hVe : V = sb := by
                  rw [hV, hsb]
                  unfold fallX
                  rw [if_pos hKl]
                clear hV
                subst hVe
                clear hsb hsl hss hKl hK
                go_wp2_with (first
                  | (go_at_call 26; refine (HBk2.out _).mono ?_; rintro e w8 ⟨rfl, hb8⟩; have HB8 := Lib.hid (bthenS HBx.out hb8); clear hb8)
                  | (go_at_call 24; refine (HRd.out _ (HS6.out.below HB8.out)).mono ?_; rintro e w7 ⟨rfl, hw⟩; replace hw := hw.symm; subst hw)
                  | (go_at_call 12; refine (HNum.out _ _).mono ?_; rintro e w7 ⟨rfl, hw⟩; replace hw := hw.symm; subst hw))
                go_roundw
                case rel => exact ⟨i + 1, by omega, by go_num, HB8⟩
                case measure => simp [intOf]; omega
              · have q3 : decide ((i : Int) > (K : Int)) = true := by simp; omega
                have q3' : decide ((K : Int) < (i : Int)) = true := by simp; omega
                have q3'' : decide (K < i) = true := by simp; omega
                have hVe : V = z0 := by
                  rw [hV, HZ.out]
                  unfold fallX
                  rw [if_neg hKl, if_neg hK]
                clear hV
                subst hVe
                clear hsb hsl hss hKl hK
                go_wp2_with (first
                  | (go_at_call 26; refine (HBk2.out _).mono ?_; rintro e w8 ⟨rfl, hb8⟩; have HB8 := Lib.hid (bthenS HBx.out hb8); clear hb8)
                  | (go_at_call 24; refine (HRd.out _ (HS6.out.below HB8.out)).mono ?_; rintro e w7 ⟨rfl, hw⟩; replace hw := hw.symm; subst hw)
                  | (go_at_call 12; refine (HNum.out _ _).mono ?_; rintro e w7 ⟨rfl, hw⟩; replace hw := hw.symm; subst hw))
                go_roundw
                case rel => exact ⟨i + 1, by omega, by go_num, HB8⟩
                case measure => simp [intOf]; omega
          · obtain rfl : i = j := by omega
            have r1 : decide ((i : Int) < (i : Int)) = false := by simp
            have r1' : decide (i < i) = false := by simp
            have HSx := Lib.hid (HS6.out.below HBx.out)
            have HBy := Lib.hid (bthenS HB6.out HBx.out)
            have hr9 := read_in HSx.out 39 _ H39.out
            have h99 : (⟨(blockB 9).toArray⟩ : ByteArray) = s9 := bytes_extS (by rw [HS9.out.1])
            rw [h99] at hr9
            have HR9 := Lib.hid hr9
            have hsz := fun (W : World) (h : StA w.heap.size b g W ⟨FB, [], 0, 0, false⟩ (.slice none 0 0)) => size_any h
            dsimp only at hsz
            rw [HFl.out] at hsz
            have HSz := Lib.hid hsz
            clear hr9 h99 hsz
            go_wp2_with (first
              | (go_at_call 24; refine HR9.out.mono ?_; rintro e w7 ⟨rfl, hw⟩; replace hw := hw.symm; subst hw)
              | (go_at_call 12; refine (HNum.out _ _).mono ?_; rintro e w7 ⟨rfl, hw⟩; replace hw := hw.symm; subst hw)
              | (go_at_call 26; refine (HB9b.out _).mono ?_; rintro e w8 ⟨rfl, hb8⟩; have HB8 := Lib.hid (bthenS HBy.out hb8); have HSy := Lib.hid (HSx.out.below hb8); clear hb8)
              | (go_at_call 22; refine (loose_any HSy.out).mono ?_; rintro e w7 ⟨rfl, hw⟩; replace hw := hw.symm; subst hw)
              | (go_at_call 23; refine (HSz.out _ HSy.out).mono ?_; rintro e w7 ⟨rfl, hw⟩; replace hw := hw.symm; subst hw)
              | (go_at_call 9; refine (awake16_any _).mono ?_; rintro e w9 ⟨rfl, hb9⟩; have HB9 := Lib.hid (bthenS HB8.out hb9); clear hb9))
            go_ret
            exact ⟨rfl, HB9.out⟩
end Go.Proofs.Ytgmlgjdibpphaaa
