/- The statements' awake: the walk; StripNil. -/
import Derived.Test.YtgmlgjdibpphaaaStFall
namespace Go.Proofs.Ytgmlgjdibpphaaa
open Go.RowKit
set_option linter.unusedVariables false
set_option linter.unusedSimpArgs false

def bl7 : ByteArray := ⟨(blockB 7).toArray⟩
theorem bthenS {a b c : World} (h : Below a.heap.size a b) (k : Below b.heap.size b c) : Below a.heap.size a c := h.trans (k.mono h.size)
theorem bl7_list : bl7.data.toList = blockB 7 := by simp [bl7]
theorem bl7_size : bl7.size = 32 := by rw [← bytes_len, bl7_list, blockB_len]
theorem conv_zero (Z : Array Value) (hZ : Z = (List.replicate 32 (byteV 0)).toArray) (w : World) : (convert 49 9 (.slice (some ⟨w.heap.size, 0, none⟩) 32 32)).run Try.prog (w.alloc (.cells Z 5)) = .ok (.string ⟨zeroB.toArray⟩) (w.alloc (.cells Z 5)) := by
  subst hZ
  have h := heap_alloc_new w (.cells (List.replicate 32 (byteV 0)).toArray 5)
  exact run_convert_bytes_back _ 49 9 5 ⟨w.heap.size, 0, none⟩ 32 zeroB Try.underlying49 Try.underlying5 Try.underlying9 fun j hj => by
    have hj2 : j < 32 := hj
    have e : zeroB[j] = 0 := List.getElem_replicate ..
    rw [Addr.add_mid, cells_slice h, Nat.zero_add, List.getElem?_replicate, if_pos hj2]
    exact (congrArg (fun x => some (byteV x)) e).symm
set_option maxRecDepth 100000 in
set_option maxHeartbeats 4000000 in
theorem awake16_any (w : World) : Calls Try.prog 9 #[] w fun e w' => e = .returned (.bool true) ∧ Below w.heap.size w w' := by
  have HNew := Lib.hid (fun W => new_any 3 0 0 0 W)
  rw [show nB 3 = 3 from by decide] at HNew
  have HBk := Lib.hid (fun W => block_any 7 W)
  have HNum := Lib.hid num_any
  obtain ⟨z0, hz0⟩ : ∃ z : ByteArray, z = ⟨zeroB.toArray⟩ := ⟨_, rfl⟩
  obtain ⟨Z, hZ⟩ : ∃ Z, Z = (List.replicate 32 (byteV 0)).toArray := ⟨_, rfl⟩
  have hmk := mk32
  rw [← hZ] at hmk
  have hcv := conv_zero Z hZ
  rw [← hz0] at hcv
  have HBl := Lib.hid (show (⟨(blockB 7).toArray⟩ : ByteArray) = bl7 from rfl)
  have HRd : Hid (∀ {B b g : Nat} {W : World} {lo : List (Nat × Blk)} {ch cr : Int} {lv : Value} (h : StA B b g W ⟨fallB ((List.replicate 3 zeroB).set 1 (blockB 7)) [(1, zeroB)] (kOf 0 1) (tOf 0), lo, ch, cr, false⟩ lv), Calls Try.prog 24 #[.pointer (some ⟨b, 0, none⟩), .int .i64 1] W fun e w' => e = .returned (.tuple #[.string z0, .int .i64 0]) ∧ w' = W) := Lib.hid (fun h => by
    have := read_in h 1 zeroB (by decide)
    rw [← hz0] at this
    exact this)
  have HFl : Hid (∀ {B b g : Nat} {W : World} {lo : List (Nat × Blk)} {ch cr : Int} {lv : Value} (h : StA B b g W ⟨fallB ((List.replicate 3 zeroB).set 1 (blockB 7)) [(1, zeroB)] (kOf 0 1) (tOf 0), lo, ch, cr, false⟩ lv), Calls Try.prog 23 #[.pointer (some ⟨b, 0, none⟩)] W fun e w' => e = .returned (.int .i64 3) ∧ w' = W) := Lib.hid (fun h => by
    have := size_any h
    dsimp only at this
    rw [fallB_len] at this
    exact this)
  clear hz0 hZ
  go_enter Try.func9, Try.ntmps9
  go_wp2_with (first
    | (go_at_call 10; refine (HNew.out _).mono ?_; rintro e w1 ⟨b, g, rfl, hs1, hb1⟩; have HS1 := Lib.hid hs1; have HB1 := Lib.hid hb1; clear hs1 hb1)
    | (go_at_call 26; refine (HBk.out _).mono ?_; rintro e w2 ⟨rfl, hb2⟩; have HS2 := Lib.hid (HS1.out.below hb2); have HB2 := Lib.hid (bthenS HB1.out hb2); clear hb2; rw [HBl.out])
    | (go_at_call 13; refine (write_up HS2.out HB2.out.size (by decide) (by decide) (by decide) 1 (by decide) bl7 bl7_size (by decide)).mono ?_; rintro e w3 ⟨lv3, rfl, hs3, ht3⟩; rw [bl7_list] at hs3; have HS3 := Lib.hid hs3; have HB3 := Lib.hid (HB2.out.trans (ht3.below HS2.out.hb HS2.out.hg HB2.out.size)); clear hs3 ht3)
    | (go_at_call 22; refine (loose_any HS3.out).mono ?_; rintro e w4 ⟨rfl, hw⟩; replace hw := hw.symm; subst hw)
    | (go_at_call 19; refine (fall_any HS3.out HB3.out.size 0 0 0 0).mono ?_; rintro e w5 ⟨rfl, hs5, ht5⟩; have HS5 := Lib.hid hs5; have HB5 := Lib.hid (HB3.out.trans (ht5.below HS3.out.hb HS3.out.hg HB3.out.size)); clear hs5 ht5)
    | (go_at_call 24; refine (HRd.out HS5.out).mono ?_; rintro e w6 ⟨rfl, hw⟩; replace hw := hw.symm; subst hw)
    | (go_at_call 12; refine (HNum.out _ _).mono ?_; rintro e w7 ⟨rfl, hw⟩; replace hw := hw.symm; subst hw)
    | (go_at_call 23; refine (HFl.out (HS5.out.below ((Below.refl _ _).alloc (Nat.le_refl _) _))).mono ?_; rintro e w8 ⟨rfl, rfl⟩))
  go_ret
  exact ⟨rfl, HB5.out.alloc HB5.out.size _⟩

/-! ### StripNil -/
set_option maxRecDepth 100000 in
theorem fall_nil (pn pc pk pt : Int) (w : World) : Calls Try.prog 19 #[.pointer none, .agg #[.int .i64 pn, .int .i64 pc, .int .i64 pk, .int .i64 pt]] w fun e w' => e = .returned (.tuple #[]) ∧ Below w.heap.size w w' := by
  have hb : Below w.heap.size w (w.alloc (.cells #[.int .i64 pn, .int .i64 pc, .int .i64 pk, .int .i64 pt] 23)) := (Below.refl _ _).alloc (Nat.le_refl _) _
  have HB := Lib.hid hb
  clear hb
  go_enter Try.func19, Try.ntmps19
  go_wp2
  exact bodyPost_ret (results_none (by rfl) _ _ _) rfl ⟨rfl, HB.out⟩
set_option maxRecDepth 100000 in
theorem read_nil (i : Int) (w : World) : Calls Try.prog 24 #[.pointer none, .int .i64 i] w fun e w' => e = .returned (.tuple #[.string ⟨#[]⟩, .int .i64 2]) ∧ w' = w := by
  have hr := refuses_nil w
  go_enter Try.func24, Try.ntmps24
  go_wp2_with (go_at_call 27; refine hr.mono ?_; rintro e w2 ⟨rfl, hw⟩; replace hw := hw.symm; subst hw)
  go_ret2
  exact ⟨rfl, rfl⟩
set_option maxRecDepth 100000 in
theorem write_nil (i : Int) (s : ByteArray) (w : World) : Calls Try.prog 13 #[.pointer none, .int .i64 i, .string s] w fun e w' => e = .returned (.int .i64 2) ∧ w' = w := by
  have hr := refuses_nil w
  go_enter Try.func13, Try.ntmps13
  go_wp2_with (go_at_call 27; refine hr.mono ?_; rintro e w2 ⟨rfl, hw⟩; replace hw := hw.symm; subst hw)
  go_ret
  exact ⟨rfl, rfl⟩
set_option maxRecDepth 100000 in
theorem sync_nil (w : World) : Calls Try.prog 15 #[.pointer none] w fun e w' => e = .returned (.int .i64 2) ∧ w' = w := by
  have hr := refuses_nil w
  go_enter Try.func15, Try.ntmps15
  go_wp2_with (go_at_call 27; refine hr.mono ?_; rintro e w2 ⟨rfl, hw⟩; replace hw := hw.symm; subst hw)
  go_ret
  exact ⟨rfl, rfl⟩
set_option maxRecDepth 100000 in
theorem down_nil (w : World) : Calls Try.prog 21 #[.pointer none] w fun e w' => e = .returned (.bool false) ∧ w' = w := by
  go_enter Try.func21, Try.ntmps21
  go_wp2
  go_ret
  exact ⟨rfl, rfl⟩
set_option maxRecDepth 100000 in
theorem loose_nil (w : World) : Calls Try.prog 22 #[.pointer none] w fun e w' => e = .returned (.int .i64 0) ∧ w' = w := by
  go_enter Try.func22, Try.ntmps22
  go_wp2
  go_ret
  exact ⟨rfl, rfl⟩
set_option maxRecDepth 100000 in
theorem size_nil (w : World) : Calls Try.prog 23 #[.pointer none] w fun e w' => e = .returned (.int .i64 0) ∧ w' = w := by
  go_enter Try.func23, Try.ntmps23
  go_wp2
  go_ret
  exact ⟨rfl, rfl⟩
set_option maxRecDepth 100000 in
set_option maxHeartbeats 2000000 in
theorem stripNil_any (i : Int) (s : ByteArray) (w : World) : Calls Try.prog 7 #[.int .i64 i, .string s] w fun e w' => e = .returned (.bool true) ∧ Below w.heap.size w w' := by
  have HNum := Lib.hid num_any
  go_enter Try.func7, Try.ntmps7
  go_wp2_with (first
    | (go_at_call 17; refine (tear_nil _ _).mono ?_; rintro e w2 ⟨rfl, hw⟩; replace hw := hw.symm; subst hw)
    | (go_at_call 19; refine (fall_nil 0 0 0 0 _).mono ?_; rintro e w3 ⟨rfl, hb3⟩; have HB3 := Lib.hid hb3; clear hb3)
    | (go_at_call 24; refine (read_nil _ _).mono ?_; rintro e w2 ⟨rfl, hw⟩; replace hw := hw.symm; subst hw)
    | (go_at_call 13; refine (write_nil _ _ _).mono ?_; rintro e w2 ⟨rfl, hw⟩; replace hw := hw.symm; subst hw)
    | (go_at_call 15; refine (sync_nil _).mono ?_; rintro e w2 ⟨rfl, hw⟩; replace hw := hw.symm; subst hw)
    | (go_at_call 21; refine (down_nil _).mono ?_; rintro e w2 ⟨rfl, hw⟩; replace hw := hw.symm; subst hw)
    | (go_at_call 22; refine (loose_nil _).mono ?_; rintro e w2 ⟨rfl, hw⟩; replace hw := hw.symm; subst hw)
    | (go_at_call 23; refine (size_nil _).mono ?_; rintro e w2 ⟨rfl, hw⟩; replace hw := hw.symm; subst hw)
    | (go_at_call 12; refine (HNum.out _ _).mono ?_; rintro e w2 ⟨rfl, hw⟩; replace hw := hw.symm; subst hw)
    | (go_at_call 9; refine (awake16_any _).mono ?_; rintro e w9 ⟨rfl, hb9⟩; have HB9 := Lib.hid (bthenS HB3.out hb9); clear hb9))
  go_ret
  exact ⟨rfl, HB9.out⟩
end Go.Proofs.Ytgmlgjdibpphaaa
