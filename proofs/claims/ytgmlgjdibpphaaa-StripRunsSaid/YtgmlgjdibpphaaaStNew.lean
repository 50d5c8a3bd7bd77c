/- strip.New; the statements' Block: the walks. -/
import Derived.Test.YtgmlgjdibpphaaaStWr
import Derived.Lib.MinMax
import Derived.LoopTactic
namespace Go.Proofs.Ytgmlgjdibpphaaa
open Go.RowKit
set_option linter.unusedVariables false
set_option linter.unusedSimpArgs false

def nB (n : Int) : Nat := (min (max n 0) 65536).toNat
theorem nB_le (n : Int) : nB n ≤ 65536 := by unfold nB; omega
theorem size_alloc (w : World) (o : Obj) : (w.alloc o).heap.size = w.heap.size + 1 := Array.size_push _
theorem heap_old (w : World) (o : Obj) {k : Nat} (h : k < w.heap.size) : (w.alloc o).heap[k]? = w.heap[k]? := Below.heap_alloc w o k h
set_option maxRecDepth 100000 in
set_option maxHeartbeats 1000000 in
theorem new_any (n cr k t : Int) (w : World) : Calls Try.prog 10 #[.agg #[.int .i64 n, .int .i64 cr, .int .i64 k, .int .i64 t]] w fun e w' => ∃ b g, e = .returned (.pointer (some ⟨b, 0, none⟩)) ∧ StA w.heap.size b g w' ⟨List.replicate (nB n) zeroB, [], 0, cr, false⟩ (.slice none 0 0) ∧ Below w.heap.size w w' := by
  obtain ⟨W1, hW1⟩ : ∃ W, W = w.alloc (.cells #[.int .i64 n, .int .i64 cr, .int .i64 k, .int .i64 t] 23) := ⟨_, rfl⟩
  have hb1 : Below w.heap.size w W1 := by rw [hW1]; exact (Below.refl _ _).alloc (Nat.le_refl _) _
  have hs1 : W1.heap.size = w.heap.size + 1 := by rw [hW1, size_alloc]
  have hc : W1.cell? ⟨w.heap.size, 0, none⟩ = some (.int .i64 n) ∧ W1.cell? ⟨w.heap.size, 1, none⟩ = some (.int .i64 cr) := by
    rw [hW1]
    exact ⟨by go_simp, by go_simp⟩
  obtain ⟨hc0, hc1⟩ := hc
  obtain ⟨m, hm⟩ : ∃ m, m = nB n := ⟨_, rfl⟩
  have hmm : min (max n 0) 65536 = (m : Int) := by rw [hm]; unfold nB; omega
  have hm6 : m ≤ 65536 := by rw [hm]; exact nB_le n
  obtain ⟨W2, hW2⟩ : ∃ W, W = W1.alloc (.cells (flatB (List.replicate m zeroB)).toArray 68) := ⟨_, rfl⟩
  have hmk : (Instr.makeSlice 57 (.int .i64 (m : Int)) (.int .i64 (m : Int))).run Try.prog W1 = .ok (.slice (some ⟨W1.heap.size, 0, none⟩) m m) W2 := by
    obtain ⟨i, h1, h2, h3, h4⟩ := infoS_parts infoK
    have := run_make W1 57 68 i _ Try.underlying57 h1 h2 .i64 .i64 (m : Int) (m : Int) (by omega) (Int.le_refl _) (by rw [h4]; omega) (by omega)
    rw [h3, Int.toNat_natCast] at this
    rw [this, hW2, made_zero m (Value.agg (Array.replicate 32 (Value.int IntKind.u8 0))).cells rfl]
  have hb2 : Below w.heap.size w W2 := by rw [hW2]; exact hb1.alloc (by omega) _
  have hs2 : W2.heap.size = w.heap.size + 2 := by rw [hW2, size_alloc, hs1]
  obtain ⟨W3, hW3⟩ : ∃ W, W = W2.alloc (.cells #[.slice (some ⟨W1.heap.size, 0, none⟩) m m, .slice none 0 0, .int .i64 0, .int .i64 0, .bool false] 65) := ⟨_, rfl⟩
  have hb3 : Below w.heap.size w W3 := by rw [hW3]; exact hb2.alloc (by omega) _
  have hs3 : W3.heap.size = w.heap.size + 3 := by rw [hW3, size_alloc, hs2]
  have hst : StA w.heap.size W2.heap.size W1.heap.size W3 ⟨List.replicate m zeroB, [], 0, 0, false⟩ (.slice none 0 0) := by
    refine ⟨by omega, by omega, ?_, ?_, World.ownsRow_nil _ _ _ _, ok32_zero m, fun _ hc => absurd hc (by simp), by simpa using hm6, Nat.zero_le _⟩
    · rw [hW3]
      simpa using heap_alloc_new W2 _
    · rw [hW3, heap_old _ _ (by omega), hW2]
      exact heap_alloc_new W1 _
  have hc3 : W3.cell? ⟨w.heap.size, 1, none⟩ = some (.int .i64 cr) := by
    have h2 : W2.cell? ⟨w.heap.size, 1, none⟩ = W1.cell? ⟨w.heap.size, 1, none⟩ := World.cell?_of_block (by rw [hW2, heap_old _ _ (by dsimp only; omega)])
    have h3 : W3.cell? ⟨w.heap.size, 1, none⟩ = W2.cell? ⟨w.heap.size, 1, none⟩ := World.cell?_of_block (by rw [hW3, heap_old _ _ (by dsimp only; omega)])
    rw [h3, h2, hc1]
  have hte := tear_any hst cr
  dsimp only at hte
  have HB3 := Lib.hid hb3
  have HW1 := Lib.hid hW1.symm
  have HW3 := Lib.hid hW3.symm
  have hGB : w.heap.size ≤ W2.heap.size ∧ w.heap.size ≤ W1.heap.size ∧ w.heap.size ≤ W3.heap.size := ⟨by omega, by omega, by omega⟩
  have HG := Lib.hid hGB
  have HM := Lib.hid hm
  rw [← hm]
  clear hW1 hW2 hW3 hb1 hb2 hb3 hs1 hs2 hs3 hst hm hm6 hGB hc1
  go_enter Try.func10, Try.ntmps10
  go_upto_region 1 with (fail)
  rw [HW1.out]
  go_upto_region 2 with (fail)
  rw [HW3.out]
  go_wp2_with (go_at_call 17; refine hte.mono ?_; rintro e w4 ⟨rfl, hs4, ht4⟩; have HS4 := Lib.hid hs4; have HT4 := Lib.hid (ht4.below HG.out.1 HG.out.2.1 HG.out.2.2); clear hs4 ht4)
  go_ret
  exact ⟨_, _, rfl, HS4.out, HB3.out.trans HT4.out⟩

def blkAt (b : UInt8) (i : Nat) : Blk := (List.range i).map (fun j => b + UInt8.ofNat j) ++ List.replicate (32 - i) 0
def blockB (b : UInt8) : Blk := (List.range 32).map (fun j => b + UInt8.ofNat j)
theorem blockB_len (b : UInt8) : (blockB b).length = 32 := by simp [blockB]
theorem blkAt_len (b : UInt8) (i : Nat) (h : i ≤ 32) : (blkAt b i).length = 32 := by simp [blkAt]; omega
theorem blkAt_end (b : UInt8) : blkAt b 32 = blockB b := by simp [blkAt, blockB]
theorem blkAt_succ (b : UInt8) (i : Nat) (h : i < 32) : blkAt b (i + 1) = (blkAt b i).set i (b + UInt8.ofNat i) := by
  unfold blkAt
  rw [List.range_succ, List.map_append, show 32 - i = (32 - (i + 1)) + 1 from by omega, List.replicate_succ, List.set_append_right _ _ (by simp)]
  simp
theorem add_u8 (b : UInt8) (i : Nat) (h : i < 32) : IntKind.u8.wrap ((b.toNat : Int) + (i : Int)) = ((b + UInt8.ofNat i).toNat : Int) := by
  have h1 := b.toNat_lt
  rw [UInt8.toNat_add, UInt8.toNat_ofNat']
  have : IntKind.u8.wrap ((b.toNat : Int) + (i : Int)) = ((b.toNat : Int) + (i : Int)) % 256 := rfl
  rw [this]
  omega
set_option maxRecDepth 100000 in
theorem mk32 (w : World) : (Instr.makeSlice 49 (.int .i64 32) (.int .i64 32)).run Try.prog w = .ok (.slice (some ⟨w.heap.size, 0, none⟩) 32 32) (w.alloc (.cells (List.replicate 32 (byteV 0)).toArray 5)) := by kernel_rfl
set_option maxRecDepth 100000 in
set_option maxHeartbeats 1000000 in
theorem block_any (b : UInt8) (w : World) : Calls Try.prog 26 #[.int .u8 b.toNat] w fun e w' => e = .returned (.string ⟨(blockB b).toArray⟩) ∧ Below w.heap.size w w' := by
  have hmk := mk32 w
  obtain ⟨W1, hW1⟩ : ∃ W, W = w.alloc (.cells (List.replicate 32 (byteV 0)).toArray 5) := ⟨_, rfl⟩
  have hb1 : Below w.heap.size w W1 := by rw [hW1]; exact (Below.refl _ _).alloc (Nat.le_refl _) _
  have hg1 : W1.heap[w.heap.size]? = some (.cells ((blkAt b 0).map byteV).toArray 5 (0, 0)) := by
    rw [hW1, show (blkAt b 0).map byteV = List.replicate 32 (byteV 0) from by simp [blkAt]]
    exact heap_alloc_new w _
  rw [← hW1] at hmk
  have HB1 := Lib.hid hb1
  have HG1 := Lib.hid hg1
  obtain ⟨kb, hkb⟩ : ∃ k, k = w.heap.size := ⟨_, rfl⟩
  have HK := Lib.hid hkb
  rw [← hkb] at hmk HG1
  clear hW1 hb1 hg1 hkb
  go_enter Try.func26, Try.ntmps26
  go_wp2
  go_loopw [4] (fun i wr => ∃ j : Nat, j ≤ 32 ∧ i = .int .i64 j ∧ Hid (wr.heap[kb]? = some (.cells ((blkAt b j).map byteV).toArray 5 (0, 0))) ∧ Hid (Below w.heap.size w wr)) (fun i wr => 32 - (intOf i).toNat)
  case atStart => exact ⟨0, by omega, rfl, HG1, HB1⟩
  case round =>
    obtain ⟨j, hj, rfl, HGr, HBr⟩ := hrel
    rename World => wr
    by_cases hlt : j < 32
    · have t1 : decide ((j : Int) < 32) = true := by simp; omega
      have t1' : decide (j < 32) = true := by simpa using hlt
      have u0 : (0 : Int) ≤ (j : Int) := by omega
      have u1 : (j : Int) < 32 := by omega
      have w1 : IntKind.u8.wrap (j : Int) = (j : Int) := by
        have : IntKind.u8.wrap (j : Int) = (j : Int) % 256 := rfl
        rw [this]; omega
      have w2 := add_u8 b j hlt
      have hl := blkAt_len b j hj
      have hjl : j < (blkAt b j).length := by omega
      obtain ⟨y0, c0⟩ : ∃ y0, wr.cell? ⟨kb, j, none⟩ = some y0 := ⟨byteV (blkAt b j)[j], by
        simp only [World.cell?, HGr.out]
        simp [hjl]⟩
      have f0 : wr.frozen? ⟨kb, j, none⟩ = false := free_box HGr.out j
      have HGn : Hid ((wr.setCell ⟨kb, j, none⟩ (.int .u8 ((b + UInt8.ofNat j).toNat : Int))).heap[kb]? = some (.cells ((blkAt b (j + 1)).map byteV).toArray 5 (0, 0))) := Lib.hid (by
        rw [heap_setCell_same wr kb j _ _ _ HGr.out, blkAt_succ b j hlt, List.map_set]
        simp [byteV])
      have HBn : Hid (Below w.heap.size w (wr.setCell ⟨kb, j, none⟩ (.int .u8 ((b + UInt8.ofNat j).toNat : Int)))) := Lib.hid (HBr.out.setCell (by rw [HK.out]; exact Nat.le_refl _) _)
      obtain ⟨y, hy⟩ : ∃ y : Int, y = ((b + UInt8.ofNat j).toNat : Int) := ⟨_, rfl⟩
      rw [← hy] at w2 HGn HBn
      clear hy hl hjl
      go_wp2
      go_roundw
      case rel => exact ⟨j + 1, by omega, by go_num, HGn, HBn⟩
      case measure => simp [intOf]; omega
    · obtain rfl : j = 32 := by omega
      have u1 : decide ((32 : Int) < (32 : Int)) = false := by simp
      have hcv := run_convert_bytes_back wr 49 9 5 ⟨kb, 0, none⟩ 32 (blockB b) Try.underlying49 Try.underlying5 Try.underlying9 fun j hj => by
        have h9 := HGr.out
        rw [blkAt_end] at h9
        rw [Addr.add_mid, cells_slice h9]
        simp [hj, byteV]
      rw [blockB_len] at hcv
      go_wp2
      go_ret
      exact ⟨rfl, HBr.out⟩
end Go.Proofs.Ytgmlgjdibpphaaa
