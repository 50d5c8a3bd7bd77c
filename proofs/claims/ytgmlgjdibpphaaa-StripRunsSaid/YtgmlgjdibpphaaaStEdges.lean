/- StripEdges: the walk. -/
import Derived.Test.YtgmlgjdibpphaaaStAwk
namespace Go.Proofs.Ytgmlgjdibpphaaa
open Go.RowKit
set_option linter.unusedVariables false
set_option linter.unusedSimpArgs false

def zs (q : Nat) : ByteArray := ⟨(List.replicate q 0).toArray⟩
theorem zs_size (q : Nat) : (zs q).size = q := by rw [← bytes_len]; simp [zs]
/-- make([]byte, q), as a text. -/
theorem make_q (q : Nat) (hq : q ≤ 1000) (w : World) : ∃ w', (Instr.makeSlice 49 (.int .i64 (q : Int)) (.int .i64 (q : Int))).run Try.prog w = .ok (.slice (some ⟨w.heap.size, 0, none⟩) q q) w' ∧
    (convert 49 9 (.slice (some ⟨w.heap.size, 0, none⟩) q q)).run Try.prog w' = .ok (.string (zs q)) w' ∧ Below w.heap.size w w' := by
  obtain ⟨i, h1, h2, h3, h4⟩ := infoS_parts (show (Try.prog.info? 5).map (fun i => (i.zero, i.size, i.bytes)) = some (some (.int .u8 0), 1, 1) from by kernel_rfl)
  have hr := run_make w 49 5 i _ Try.underlying49 h1 h2 .i64 .i64 (q : Int) (q : Int) (by omega) (Int.le_refl _) (by rw [h4]; omega) (by omega)
  rw [h3, Int.toNat_natCast, Nat.mul_one] at hr
  refine ⟨_, hr, ?_, (Below.refl _ _).alloc (Nat.le_refl _) _⟩
  have hm : madeCells (Value.int .u8 0).cells q = (List.replicate q (byteV 0)).toArray := by
    apply Array.ext
    · simp [madeCells]
    · intro j h5 h6
      simp [madeCells, Value.cells, byteV, Nat.mod_one]
  rw [hm]
  have h := heap_alloc_new w (.cells (List.replicate q (byteV 0)).toArray 5)
  have := run_convert_bytes_back (w.alloc (.cells (List.replicate q (byteV 0)).toArray 5)) 49 9 5 ⟨w.heap.size, 0, none⟩ q (List.replicate q 0) Try.underlying49 Try.underlying5 Try.underlying9 fun j hj => by
    have hj2 : j < q := by simpa using hj
    have e : (List.replicate q (0 : UInt8))[j] = 0 := List.getElem_replicate ..
    rw [Addr.add_mid, cells_slice h, Nat.zero_add, List.getElem?_replicate, if_pos hj2]
    exact (congrArg (fun x => some (byteV x)) e).symm
  rw [List.length_replicate] at this
  exact this
set_option maxRecDepth 100000 in
set_option maxHeartbeats 4000000 in
theorem stripEdges_any (n i : Int) (c : Nat) (hc : c < 256) (w : World) : Calls Try.prog 6 #[.int .i64 n, .int .i64 i, .int .u8 (c : Int)] w fun e w' => e = .returned (.bool true) ∧ Below w.heap.size w w' := by
  obtain ⟨q, hq⟩ : ∃ q, q = c % 70 := ⟨_, rfl⟩
  have hq7 : q < 70 := by omega
  obtain ⟨m, hm⟩ : ∃ m, m = nB n := ⟨_, rfl⟩
  have HNew := Lib.hid (fun W => new_any n 1 0 0 W)
  rw [← hm] at HNew
  have hmx : max 0 (min n 65536) = (m : Int) := by rw [hm]; unfold nB; omega
  have hw1 : IntKind.i64.wrap (c : Int) = (c : Int) := IntWalk.i64_in _ (by omega)
  have hw2 : Int.tmod (c : Int) 70 = (q : Int) := by
    rw [Int.tmod_eq_emod_of_nonneg (by omega)]; omega
  have HMk := Lib.hid (fun w => make_q q (by omega) w)
  have HNum := Lib.hid num_any
  have HZs := Lib.hid (zs_size q)
  obtain ⟨z, hz⟩ : ∃ z, z = zs q := ⟨_, rfl⟩
  rw [← hz] at HMk HZs
  have HLn : Hid (∀ x : List Blk, x = List.replicate m zeroB → x.length = m) := Lib.hid (fun x hx => by rw [hx, List.length_replicate])
  clear hq hm hc hz
  by_cases hin : 0 ≤ i ∧ i < (m : Int)
  · obtain ⟨h0, h1⟩ := hin
    obtain ⟨j, rfl⟩ : ∃ j : Nat, i = (j : Int) := ⟨i.toNat, by omega⟩
    have hj : j < m := by omega
    have t0 : decide ((j : Int) ≥ 0) = true := by simp
    have t0' : decide (0 ≤ (j : Int)) = true := by simp
    have t1 : decide ((j : Int) < (m : Int)) = true := by simpa using hj
    have t1' : decide (j < m) = true := by simpa using hj
    by_cases h32 : q = 32
    · have t2 : decide ((z.size : Int) = 32) = true := by rw [HZs.out]; simp; omega
      have t3 : ((z.size : Int) == 32) = true := by rw [HZs.out]; simp; omega
      have hzs : z.size = 32 := by rw [HZs.out]; exact h32
      have HZ3 := Lib.hid hzs
      have HJ : Hid (j < (List.replicate m zeroB).length) := Lib.hid (by rw [List.length_replicate]; exact hj)
      clear h32 hzs h0 h1 hj
      go_enter Try.func6, Try.ntmps6
      go_upto_region 5 with (go_at_call 10; refine (HNew.out _).mono ?_; rintro e w1 ⟨b, g, rfl, hs1, hb1⟩; have HS1 := Lib.hid hs1; have HB1 := Lib.hid hb1; clear hs1 hb1)
      obtain ⟨w2, hmk, hcv, hb2⟩ := HMk.out w1
      have HS2 := Lib.hid (HS1.out.below hb2)
      have HB2 := Lib.hid (bthenS HB1.out hb2)
      have hsz := size_any HS2.out
      dsimp only at hsz
      rw [HLn.out _ rfl] at hsz
      have HSz := Lib.hid hsz
      have HWr := Lib.hid (write_crash HS2.out HB2.out.size (by decide) (by decide) (by decide) j HJ.out z HZ3.out)
      clear hb2 hsz
      go_wp2_with (first
        | (go_at_call 23; refine HSz.out.mono ?_; rintro e w3 ⟨rfl, hw⟩; replace hw := hw.symm; subst hw)
        | (go_at_call 13; refine HWr.out.mono ?_; rintro e w4 ⟨rfl, hs4, ht4⟩; have HS4 := Lib.hid hs4; have HB4 := Lib.hid (HB2.out.trans (ht4.below HS2.out.hb HS2.out.hg HB2.out.size)); clear hs4 ht4)
        | (go_at_call 12; refine (HNum.out _ _).mono ?_; rintro e w7 ⟨rfl, hw⟩; replace hw := hw.symm; subst hw)
        | (go_at_call 21; refine (down_any HS4.out).mono ?_; rintro e w7 ⟨rfl, hw⟩; replace hw := hw.symm; subst hw)
        | (go_at_call 9; refine (awake16_any _).mono ?_; rintro e w9 ⟨rfl, hb9⟩; have HB9 := Lib.hid (bthenS HB4.out hb9); clear hb9))
      go_ret
      exact ⟨rfl, HB9.out⟩
    · have t2 : decide ((z.size : Int) = 32) = false := by rw [HZs.out]; simp; omega
      have t3 : ((z.size : Int) == 32) = false := by rw [HZs.out]; simp; omega
      have hzs : z.size ≠ 32 := by rw [HZs.out]; exact h32
      have HZ3 := Lib.hid hzs
      have HJ : Hid ((List.replicate m zeroB)[j]? = some zeroB) := Lib.hid (by rw [List.getElem?_replicate, if_pos hj])
      clear h32 hzs h0 h1 hj
      go_enter Try.func6, Try.ntmps6
      go_upto_region 5 with (go_at_call 10; refine (HNew.out _).mono ?_; rintro e w1 ⟨b, g, rfl, hs1, hb1⟩; have HS1 := Lib.hid hs1; have HB1 := Lib.hid hb1; clear hs1 hb1)
      obtain ⟨w2, hmk, hcv, hb2⟩ := HMk.out w1
      have HS2 := Lib.hid (HS1.out.below hb2)
      have HB2 := Lib.hid (bthenS HB1.out hb2)
      have hsz := size_any HS2.out
      dsimp only at hsz
      rw [HLn.out _ rfl] at hsz
      have HSz := Lib.hid hsz
      have HWr := Lib.hid (write_bad HS2.out (j : Int) z (.inr HZ3.out))
      have HRd := Lib.hid (read_in HS2.out j zeroB HJ.out)
      clear hb2 hsz
      go_wp2_with (first
        | (go_at_call 23; refine HSz.out.mono ?_; rintro e w3 ⟨rfl, hw⟩; replace hw := hw.symm; subst hw)
        | (go_at_call 13; refine HWr.out.mono ?_; rintro e w4 ⟨rfl, hw⟩; replace hw := hw.symm; subst hw)
        | (go_at_call 24; refine HRd.out.mono ?_; rintro e w4 ⟨rfl, hw⟩; replace hw := hw.symm; subst hw)
        | (go_at_call 12; refine (HNum.out _ _).mono ?_; rintro e w7 ⟨rfl, hw⟩; replace hw := hw.symm; subst hw)
        | (go_at_call 21; refine (down_any HS2.out).mono ?_; rintro e w7 ⟨rfl, hw⟩; replace hw := hw.symm; subst hw)
        | (go_at_call 9; refine (awake16_any _).mono ?_; rintro e w9 ⟨rfl, hb9⟩; have HB9 := Lib.hid (bthenS HB2.out hb9); clear hb9))
      go_ret
      exact ⟨rfl, HB9.out⟩
  · have hib : inB m i = false := by simp only [inB, decide_eq_false_iff_not]; exact hin
    have HIb : Hid (inB (List.replicate m zeroB).length i = false) := Lib.hid (by rw [List.length_replicate]; exact hib)
    clear hib
    by_cases h0 : 0 ≤ i
    · have t0 : decide (i ≥ 0) = true := by simpa using h0
      have t0' : decide (0 ≤ i) = true := by simpa using h0
      have t1 : decide (i < (m : Int)) = false := by simp; omega
      clear hin
      go_enter Try.func6, Try.ntmps6
      go_upto_region 5 with (go_at_call 10; refine (HNew.out _).mono ?_; rintro e w1 ⟨b, g, rfl, hs1, hb1⟩; have HS1 := Lib.hid hs1; have HB1 := Lib.hid hb1; clear hs1 hb1)
      obtain ⟨w2, hmk, hcv, hb2⟩ := HMk.out w1
      have HS2 := Lib.hid (HS1.out.below hb2)
      have HB2 := Lib.hid (bthenS HB1.out hb2)
      have hsz := size_any HS2.out
      dsimp only at hsz
      rw [HLn.out _ rfl] at hsz
      have HSz := Lib.hid hsz
      have HWr := Lib.hid (write_bad HS2.out i z (.inl HIb.out))
      have HRd := Lib.hid (read_out HS2.out i HIb.out)
      clear hb2 hsz
      go_wp2_with (first
        | (go_at_call 23; refine HSz.out.mono ?_; rintro e w3 ⟨rfl, hw⟩; replace hw := hw.symm; subst hw)
        | (go_at_call 13; refine HWr.out.mono ?_; rintro e w4 ⟨rfl, hw⟩; replace hw := hw.symm; subst hw)
        | (go_at_call 24; refine HRd.out.mono ?_; rintro e w4 ⟨rfl, hw⟩; replace hw := hw.symm; subst hw)
        | (go_at_call 12; refine (HNum.out _ _).mono ?_; rintro e w7 ⟨rfl, hw⟩; replace hw := hw.symm; subst hw)
        | (go_at_call 21; refine (down_any HS2.out).mono ?_; rintro e w7 ⟨rfl, hw⟩; replace hw := hw.symm; subst hw)
        | (go_at_call 9; refine (awake16_any _).mono ?_; rintro e w9 ⟨rfl, hb9⟩; have HB9 := Lib.hid (bthenS HB2.out hb9); clear hb9))
      go_ret
      exact ⟨rfl, HB9.out⟩
    · have t0 : decide (i ≥ 0) = false := by simpa using h0
      have t0' : decide (0 ≤ i) = false := by simpa using h0
      clear hin
      go_enter Try.func6, Try.ntmps6
      go_upto_region 5 with (go_at_call 10; refine (HNew.out _).mono ?_; rintro e w1 ⟨b, g, rfl, hs1, hb1⟩; have HS1 := Lib.hid hs1; have HB1 := Lib.hid hb1; clear hs1 hb1)
      obtain ⟨w2, hmk, hcv, hb2⟩ := HMk.out w1
      have HS2 := Lib.hid (HS1.out.below hb2)
      have HB2 := Lib.hid (bthenS HB1.out hb2)
      have hsz := size_any HS2.out
      dsimp only at hsz
      rw [HLn.out _ rfl] at hsz
      have HSz := Lib.hid hsz
      have HWr := Lib.hid (write_bad HS2.out i z (.inl HIb.out))
      have HRd := Lib.hid (read_out HS2.out i HIb.out)
      clear hb2 hsz
      go_wp2_with (first
        | (go_at_call 23; refine HSz.out.mono ?_; rintro e w3 ⟨rfl, hw⟩; replace hw := hw.symm; subst hw)
        | (go_at_call 13; refine HWr.out.mono ?_; rintro e w4 ⟨rfl, hw⟩; replace hw := hw.symm; subst hw)
        | (go_at_call 24; refine HRd.out.mono ?_; rintro e w4 ⟨rfl, hw⟩; replace hw := hw.symm; subst hw)
        | (go_at_call 12; refine (HNum.out _ _).mono ?_; rintro e w7 ⟨rfl, hw⟩; replace hw := hw.symm; subst hw)
        | (go_at_call 21; refine (down_any HS2.out).mono ?_; rintro e w7 ⟨rfl, hw⟩; replace hw := hw.symm; subst hw)
        | (go_at_call 9; refine (awake16_any _).mono ?_; rintro e w9 ⟨rfl, hb9⟩; have HB9 := Lib.hid (bthenS HB2.out hb9); clear hb9))
      go_ret
      exact ⟨rfl, HB9.out⟩
end Go.Proofs.Ytgmlgjdibpphaaa
