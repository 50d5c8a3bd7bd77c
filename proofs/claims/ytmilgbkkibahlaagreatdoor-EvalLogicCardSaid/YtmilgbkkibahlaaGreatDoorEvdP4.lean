/- Several texts in one file: FiMkS, FiMake, Arg, MkW, EvMadW, EvNotW, FiArgC, EvLogP. -/
import Derived.Test.YtmilgbkkibahlaaGreatDoorEvdP3
import Derived.Laws.Rows
import Derived.Test.YtmilgbkkibahlaaGreatDoorDnTextW
import Derived.OpenShut
import Derived.Carry
import Derived.ChangeSlices
import Derived.Deep.Strs
import Derived.Deep.SlicePairs
import Derived.Deep.CutRange
import Derived.Deep.CutBlock
import Derived.Test.YtmilgbkkibahlaaGreatDoorEvdP2
import Derived.Deep.RegionLaw
import Derived.RegionTactic
import Derived.Test.YtmilgbkkibahlaaGreatDoorEvdP1
import Derived.Test.YtmilgbkkibahlaaGreatDoorFiRMay
import Derived.Deep.RegionHeld3
import Derived.Deep.Cut
namespace Go.Proofs.YtmilgbkkibahlaaGreatDoor
open Go.RowKit
set_option linter.unusedVariables false
set_option linter.unnecessarySimpa false
set_option linter.unusedSimpArgs false

theorem mk_parts (A5 R1 R2 R3 R4 R5 : World) (S SE : ByteArray) (hSE : SE.data.toList = S.data.toList ++ [101]) (n : Nat)
    (h1 : A5.alloc (.cells #[.string ⟨#[110]⟩, .string ⟨#[]⟩] 9) = R1)
    (h2 : R1.alloc (.cells #[.string ⟨#[]⟩, .string ⟨#[49]⟩] 9) = R2)
    (h3 : R2.alloc (.cells #[.string ⟨#[]⟩, .string SE, .string ⟨#[]⟩] 9) = R3)
    (h4 : R3.alloc (.cells #[.string ⟨#[68]⟩, .string ⟨#[32]⟩, .string ⟨#[53]⟩] 9) = R4)
    (h5 : R4.alloc (.cells #[.slice (some ⟨A5.heap.size, 0, none⟩) 2 2, .slice (some ⟨R1.heap.size, 0, none⟩) 2 2, .slice (some ⟨R2.heap.size, 0, none⟩) 3 3, .slice (some ⟨R3.heap.size, 0, none⟩) 3 3] 28) = R5)
    : ∃ a cp, R5.cell? ⟨R4.heap.size, n / 48 % 4, none⟩ = some (.slice a (mkPa S.data.toList n).length cp) ∧ IsTo (fun b => A5.heap.size ≤ b ∧ b < R5.heap.size) R5 (mkPa S.data.toList n) (.slice a (mkPa S.data.toList n).length cp) ∧ (mkPa S.data.toList n).length ≤ 3 ∧ Below A5.heap.size A5 R5 := by
  have z1 : R1.heap.size = A5.heap.size + 1 := by rw [← h1]; simp
  have z2 : R2.heap.size = A5.heap.size + 2 := by rw [← h2]; simp [z1]
  have z3 : R3.heap.size = A5.heap.size + 3 := by rw [← h3]; simp [z2]
  have z4 : R4.heap.size = A5.heap.size + 4 := by rw [← h4]; simp [z3]
  have z5 : R5.heap.size = A5.heap.size + 5 := by rw [← h5]; simp [z4]
  have b1 : Below A5.heap.size A5 R1 := by rw [← h1]; exact (Below.refl _ _).alloc (Nat.le_refl _) _
  have b2 : Below R1.heap.size R1 R2 := by rw [← h2]; exact (Below.refl _ _).alloc (Nat.le_refl _) _
  have b3 : Below R2.heap.size R2 R3 := by rw [← h3]; exact (Below.refl _ _).alloc (Nat.le_refl _) _
  have b4 : Below R3.heap.size R3 R4 := by rw [← h4]; exact (Below.refl _ _).alloc (Nat.le_refl _) _
  have b5 : Below R4.heap.size R4 R5 := by rw [← h5]; exact (Below.refl _ _).alloc (Nat.le_refl _) _
  have x1 : R5.heap[A5.heap.size]? = some (.cells #[.string ⟨#[110]⟩, .string ⟨#[]⟩] 9 (0, 0)) := ((bthen b2 (bthen b3 (bthen b4 b5))).block _ (by omega)).trans (by rw [← h1]; exact heap_alloc_new A5 _)
  have x2 : R5.heap[R1.heap.size]? = some (.cells #[.string ⟨#[]⟩, .string ⟨#[49]⟩] 9 (0, 0)) := ((bthen b3 (bthen b4 b5)).block _ (by omega)).trans (by rw [← h2]; exact heap_alloc_new R1 _)
  have x3 : R5.heap[R2.heap.size]? = some (.cells #[.string ⟨#[]⟩, .string SE, .string ⟨#[]⟩] 9 (0, 0)) := ((bthen b4 b5).block _ (by omega)).trans (by rw [← h3]; exact heap_alloc_new R2 _)
  have x4 : R5.heap[R3.heap.size]? = some (.cells #[.string ⟨#[68]⟩, .string ⟨#[32]⟩, .string ⟨#[53]⟩] 9 (0, 0)) := (b5.block _ (by omega)).trans (by rw [← h4]; exact heap_alloc_new R3 _)
  have x5 : R5.heap[R4.heap.size]? = some (.cells #[.slice (some ⟨A5.heap.size, 0, none⟩) 2 2, .slice (some ⟨R1.heap.size, 0, none⟩) 2 2, .slice (some ⟨R2.heap.size, 0, none⟩) 3 3, .slice (some ⟨R3.heap.size, 0, none⟩) 3 3] 28 (0, 0)) := by rw [← h5]; exact heap_alloc_new R4 _
  have hb := bthen b1 (bthen b2 (bthen b3 (bthen b4 b5)))
  have h4 : n / 48 % 4 < 4 := Nat.mod_lt _ (by omega)
  have hSV : strV (S.data.toList ++ [101]) = .string SE := by rw [← hSE, strV_whole]
  unfold mkPa
  generalize n / 48 % 4 = k at h4 ⊢
  have hk : k = 0 ∨ k = 1 ∨ k = 2 ∨ k = 3 := by omega
  rcases hk with rfl | rfl | rfl | rfl
  · refine ⟨some ⟨A5.heap.size, 0, none⟩, 2, by simp only [World.cell?, x5, Option.isSome_none, Bool.false_eq_true, if_false]; rfl, ⟨_, 2, rfl, by show 2 ≤ maxLen; decide, fun j hj => ⟨A5.heap.size, 0, rfl, ⟨by show A5.heap.size ≤ _; omega, by show _ < R5.heap.size; omega⟩, ?_⟩⟩, by simp, hb⟩
    rw [Nat.zero_add]
    match j, hj with
      | 0, _ => simp only [World.cell?, x1, Option.isSome_none, Bool.false_eq_true, if_false]; rfl
      | 1, _ => simp only [World.cell?, x1, Option.isSome_none, Bool.false_eq_true, if_false]; rfl
  · refine ⟨some ⟨R1.heap.size, 0, none⟩, 2, by simp only [World.cell?, x5, Option.isSome_none, Bool.false_eq_true, if_false]; rfl, ⟨_, 2, rfl, by show 2 ≤ maxLen; decide, fun j hj => ⟨R1.heap.size, 0, rfl, ⟨by show A5.heap.size ≤ _; omega, by show _ < R5.heap.size; omega⟩, ?_⟩⟩, by simp, hb⟩
    rw [Nat.zero_add]
    match j, hj with
      | 0, _ => simp only [World.cell?, x2, Option.isSome_none, Bool.false_eq_true, if_false]; rfl
      | 1, _ => simp only [World.cell?, x2, Option.isSome_none, Bool.false_eq_true, if_false]; rfl
  · refine ⟨some ⟨R2.heap.size, 0, none⟩, 3, by simp only [World.cell?, x5, Option.isSome_none, Bool.false_eq_true, if_false]; rfl, ⟨_, 3, rfl, by show 3 ≤ maxLen; decide, fun j hj => ⟨R2.heap.size, 0, rfl, ⟨by show A5.heap.size ≤ _; omega, by show _ < R5.heap.size; omega⟩, ?_⟩⟩, by simp, hb⟩
    rw [Nat.zero_add]
    match j, hj with
      | 0, _ => simp only [World.cell?, x3, Option.isSome_none, Bool.false_eq_true, if_false]; rfl
      | 1, _ => simp only [World.cell?, x3, Option.isSome_none, Bool.false_eq_true, if_false]; exact congrArg some hSV.symm
      | 2, _ => simp only [World.cell?, x3, Option.isSome_none, Bool.false_eq_true, if_false]; rfl
  · refine ⟨some ⟨R3.heap.size, 0, none⟩, 3, by simp only [World.cell?, x5, Option.isSome_none, Bool.false_eq_true, if_false]; rfl, ⟨_, 3, rfl, by show 3 ≤ maxLen; decide, fun j hj => ⟨R3.heap.size, 0, rfl, ⟨by show A5.heap.size ≤ _; omega, by show _ < R5.heap.size; omega⟩, ?_⟩⟩, by simp, hb⟩
    rw [Nat.zero_add]
    match j, hj with
      | 0, _ => simp only [World.cell?, x4, Option.isSome_none, Bool.false_eq_true, if_false]; rfl
      | 1, _ => simp only [World.cell?, x4, Option.isSome_none, Bool.false_eq_true, if_false]; rfl
      | 2, _ => simp only [World.cell?, x4, Option.isSome_none, Bool.false_eq_true, if_false]; rfl
set_option maxRecDepth 100000 in
set_option maxHeartbeats 8000000 in
theorem mkLeaf5 (S : ByteArray) (hS : S.size ≤ 1000) (fu : Nat) (c : UInt8) (r : List UInt8) (n : Nat) (hn : c.toNat = n) (hk : c.toNat % 8 = 4) (a : Option Addr) (cap : Nat) (w : World) (hC : IsC w.heap.size w (c :: r) a cap) :
    Calls Tryz.prog 8 #[.slice a (c :: r).length cap, .string S] w fun e w' => ∃ v, e = .returned v ∧ IsFl (fun b => w.heap.size ≤ b ∧ b < w'.heap.size) w' (makeFu S.data.toList (fu + 1) (c :: r)) v ∧ Below w.heap.size w w' := by
  rw [show makeFu S.data.toList (fu + 1) (c :: r) = FT.mk 5 (mkTy n) [] (mkPa S.data.toList n) [] from by
    show (if c.toNat % 8 = 0 then _ else _) = _
    rw [hn] at hk ⊢
    rw [if_neg (by omega)]; rw [if_neg (by omega)]; rw [if_neg (by omega)]; rw [if_neg (by omega)]; rw [if_pos hk]]
  have hcl := c.toNat_lt
  have hcap := hC.2.1
  have hlen := hC.1
  obtain ⟨m, hm⟩ : ∃ m, m = (c :: r).length := ⟨_, rfl⟩
  have hm1 : 1 ≤ m := by rw [hm]; simp
  rw [← hm] at hlen ⊢
  rw [hn] at hk hcl
  unfold maxLen at hcap
  obtain ⟨TY, hTY, hTYl⟩ := strV_text (mkTy n)
  obtain ⟨VL, hVL, hVLl⟩ := strV_text (mkVl S.data.toList n)
  obtain ⟨A1, hA1⟩ : ∃ A, w.alloc (.cells #[.int .i64 0, .string ⟨#[]⟩, .string ⟨#[]⟩, .slice none 0 0, .slice none 0 0] 31) = A := ⟨_, rfl⟩
  obtain ⟨A2, hA2⟩ : ∃ A, A1.alloc (.cells #[.int .i64 5, .string ⟨#[]⟩, .string ⟨#[]⟩, .slice none 0 0, .slice none 0 0] 31) = A := ⟨_, rfl⟩
  obtain ⟨A3, hA3⟩ : ∃ A, A2.alloc (.cells #[.string ⟨#[99, 110]⟩, .string ⟨#[115, 110]⟩, .string ⟨#[100, 101, 115, 99, 114, 105, 112, 116, 105, 111, 110]⟩, .string ⟨#[117, 105, 100, 78, 117, 109, 98, 101, 114]⟩, .string ⟨#[109, 97, 105, 108]⟩, .string ⟨#[111, 98, 106, 101, 99, 116, 67, 108, 97, 115, 115]⟩] 9) = A := ⟨_, rfl⟩
  obtain ⟨A4, hA4⟩ : ∃ A, A3.alloc (.cells #[.string ⟨#[110, 49]⟩, .string ⟨#[78, 50]⟩, .string S, .string ⟨#[53]⟩, .string ⟨#[100]⟩, .string ⟨#[112, 101, 114, 115, 111, 110]⟩] 9) = A := ⟨_, rfl⟩
  obtain ⟨x4, x6, hty, hvl, hb1, hb4, z1, z4⟩ := mk_rows w A1 A2 A3 A4 5 S n hA1 hA2 hA3 hA4
  obtain ⟨b, off, rfl, hc0, _⟩ := isC_at hC hb1
  have HA2 := Lib.hid hA2
  clear hA2
  rw [hTY] at hty
  rw [hVL] at hvl
  rw [hn] at hc0
  obtain ⟨k6, hk6⟩ : ∃ k, k = n / 8 % 6 := ⟨_, rfl⟩
  obtain ⟨v6, hv6⟩ : ∃ k, k = n / 16 % 6 := ⟨_, rfl⟩
  rw [← hk6] at hty
  rw [← hv6] at hvl
  have e8 : (n : Int) % 8 = 4 := by omega
  have e8' : Int.tmod (n : Int) 8 = 4 := by rw [Int.tmod_eq_emod_of_nonneg (by omega)]; omega
  have e6 : (n : Int) / 8 % 6 = (k6 : Int) := by omega
  have e16 : (n : Int) / 16 % 6 = (v6 : Int) := by omega
  have hk65 : k6 < 6 := by omega
  have hv65 : v6 < 6 := by omega
  have tw : IntKind.i64.wrap (n : Int) = (n : Int) := IntWalk.i64_in _ (by omega)
  have hl0 : (((m : Nat) : Int) == 0) = false := by simp; omega
  obtain ⟨A5, hA5⟩ : ∃ A, A4.setCell ⟨A1.heap.size, 1, none⟩ (.string TY) = A := ⟨_, rfl⟩
  have x61 : FlAt A5 A1.heap.size (.int .i64 5) (.string TY) (.string ⟨#[]⟩) (.slice none 0 0) (.slice none 0 0) := by rw [← hA5]; exact fl_set1 x6 (.string TY)
  have x41 : FlAt A5 w.heap.size (.int .i64 0) (.string ⟨#[]⟩) (.string ⟨#[]⟩) (.slice none 0 0) (.slice none 0 0) := by
    rw [← hA5]; exact (blockFl_ne _ ⟨A1.heap.size, 1, none⟩ _ (by show w.heap.size ≠ A1.heap.size; omega)).trans x4
  have hb5 : Below w.heap.size w A5 := by rw [← hA5]; exact hb4.setCell (p := ⟨A1.heap.size, 1, none⟩) (by show w.heap.size ≤ A1.heap.size; omega) _
  obtain ⟨SE, hSE⟩ : ∃ SE, S ++ (⟨#[101]⟩ : ByteArray) = SE := ⟨_, rfl⟩
  have hSEl : SE.data.toList = S.data.toList ++ [101] := by rw [← hSE, app_list]
  have hss : S.size + 1 ≤ 9223372036854775807 := by omega
  obtain ⟨R1, hR1⟩ : ∃ A, A5.alloc (.cells #[.string ⟨#[110]⟩, .string ⟨#[]⟩] 9) = A := ⟨_, rfl⟩
  obtain ⟨R2, hR2⟩ : ∃ A, R1.alloc (.cells #[.string ⟨#[]⟩, .string ⟨#[49]⟩] 9) = A := ⟨_, rfl⟩
  obtain ⟨R3, hR3⟩ : ∃ A, R2.alloc (.cells #[.string ⟨#[]⟩, .string SE, .string ⟨#[]⟩] 9) = A := ⟨_, rfl⟩
  obtain ⟨R4, hR4⟩ : ∃ A, R3.alloc (.cells #[.string ⟨#[68]⟩, .string ⟨#[32]⟩, .string ⟨#[53]⟩] 9) = A := ⟨_, rfl⟩
  obtain ⟨R5, hR5⟩ : ∃ A, R4.alloc (.cells #[.slice (some ⟨A5.heap.size, 0, none⟩) 2 2, .slice (some ⟨R1.heap.size, 0, none⟩) 2 2, .slice (some ⟨R2.heap.size, 0, none⟩) 3 3, .slice (some ⟨R3.heap.size, 0, none⟩) 3 3] 28) = A := ⟨_, rfl⟩
  obtain ⟨pa, pc, hpv, hIs, hp3, hb55⟩ := mk_parts A5 R1 R2 R3 R4 R5 S SE hSEl n hR1 hR2 hR3 hR4 hR5
  obtain ⟨pn, hpn⟩ : ∃ pn, pn = (mkPa S.data.toList n).length := ⟨_, rfl⟩
  rw [← hpn] at hpv hp3
  obtain ⟨v4, hv4⟩ : ∃ k, k = n / 48 % 4 := ⟨_, rfl⟩
  rw [← hv4] at hpv
  have e48 : (n : Int) / 48 % 4 = (v4 : Int) := by omega
  have hv44 : v4 < 4 := by omega
  have z5 : A5.heap.size = w.heap.size + 4 := by rw [← hA5, World.size_setCell, z4]
  have x62 := fl_below x61 hb55 (by omega)
  have x42 := fl_below x41 hb55 (by omega)
  obtain ⟨A6, hA6⟩ : ∃ A, R5.setCell ⟨A1.heap.size, 3, none⟩ (.slice pa pn pc) = A := ⟨_, rfl⟩
  have x63 : FlAt A6 A1.heap.size (.int .i64 5) (.string TY) (.string ⟨#[]⟩) (.slice pa pn pc) (.slice none 0 0) := by rw [← hA6]; exact fl_set3 x62 _
  have x43 : FlAt A6 w.heap.size (.int .i64 0) (.string ⟨#[]⟩) (.string ⟨#[]⟩) (.slice none 0 0) (.slice none 0 0) := by
    rw [← hA6]; exact (blockFl_ne _ ⟨A1.heap.size, 3, none⟩ _ (by show w.heap.size ≠ A1.heap.size; omega)).trans x42
  have hb6 : Below w.heap.size w A6 := by rw [← hA6]; exact (bthen hb5 hb55).setCell (p := ⟨A1.heap.size, 3, none⟩) (by show w.heap.size ≤ A1.heap.size; omega) _
  have hIs6 : IsTo (fun b => w.heap.size ≤ b ∧ b < (set5F A6 w.heap.size (.int .i64 5) (.string TY) (.string ⟨#[]⟩) (.slice pa pn pc) (.slice none 0 0)).heap.size) (set5F A6 w.heap.size (.int .i64 5) (.string TY) (.string ⟨#[]⟩) (.slice pa pn pc) (.slice none 0 0)) (mkPa S.data.toList n) (.slice pa pn pc) := by
    rw [hpn]
    refine hIs.imp (fun b h => ⟨by omega, by rw [set5F_size, ← hA6, World.size_setCell]; exact h.2⟩) (fun b o h => (fl_setC (by omega)).trans ?_)
    rw [← hA6]
    exact World.cell?_of_block (a := ⟨b, o, none⟩) (heap_setCell_other _ _ _ _ (by show b ≠ A1.heap.size; omega))
  obtain ⟨g0, g1, g2, g3, g4⟩ := fl_cells x6
  obtain ⟨f0, f1, f2, f3, f4⟩ := fl_frozen x6
  have g3' := (fl_cells x62).2.2.2.1
  have f3' := (fl_frozen x62).2.2.2.1
  have HA6 := Lib.hid hA6
  have HX62 := Lib.hid x63
  have HX42 := Lib.hid x43
  have HB6 := Lib.hid hb6
  have HTYl := Lib.hid hTYl
  have HIs6 := Lib.hid hIs6
  clear hA6 x61 x41 x62 x42 x63 x43 hb5 hb6 hIs hIs6 hb55 hTYl hVLl hTY hVL x4 x6 hb1 hb4 z1 z4 z5 hC hm hk6 hv6 hn hk hSEl hpn hv4
  go_enter Tryz.func8, Tryz.ntmps8
  go_upto_region 5 with (fail)
  rw [HA2.out]
  go_upto_region 24 with (fail)
  rw [HA6.out]
  obtain ⟨c0, c1, c2, c3, c4⟩ := fl_cells HX62.out
  obtain ⟨d0, d1, d2, d3, d4⟩ := fl_cells HX42.out
  obtain ⟨q0, q1, q2, q3, q4⟩ := fl_frozen HX42.out
  obtain ⟨y0, y1, y2, y3, y4⟩ := fl_cells (fl_set HX42.out (.int .i64 5) (.string TY) (.string ⟨#[]⟩) (.slice pa pn pc) (.slice none 0 0))
  unfold set5F at y0 y1 y2 y3 y4
  go_wp2
  have hbz := fl_setB HB6.out (Nat.le_refl w.heap.size) (.int .i64 5) (.string TY) (.string ⟨#[]⟩) (.slice pa pn pc) (.slice none 0 0)
  refine bodyPost_ret (v := .agg #[.int .i64 5, .string TY, .string ⟨#[]⟩, .slice pa pn pc, .slice none 0 0]) (by simp [results, Tryz.results8, go_sem, y0, y1, y2, y3, y4]) rfl ⟨_, rfl, ?_, hbz⟩
  have := mkFl (k := 5) (t := TY.data.toList) (x := []) (by decide) (by rw [HTYl.out]; exact Nat.le_trans (mkTy_len n) (by unfold maxLen; omega)) (Nat.zero_le _) HIs6.out
  rw [strV_whole, HTYl.out] at this
  exact this
end Go.Proofs.YtmilgbkkibahlaaGreatDoor


namespace Go.Proofs.YtmilgbkkibahlaaGreatDoor
open Go.RowKit
set_option linter.unusedVariables false
set_option linter.unnecessarySimpa false
set_option linter.unusedSimpArgs false

set_option maxRecDepth 100000 in
set_option maxHeartbeats 4000000 in
theorem mkNil (S : ByteArray) (a : Option Addr) (cap : Nat) (w : World) :
    Calls Tryz.prog 8 #[.slice a 0 cap, .string S] w fun e w' => ∃ v, e = .returned v ∧ IsFl (fun b => w.heap.size ≤ b ∧ b < w'.heap.size) w' mkCn v ∧ Below w.heap.size w w' := by
  go_enter Tryz.func8, Tryz.ntmps8
  go_wp2
  refine bodyPost_ret (v := .agg #[.int .i64 8, .string ⟨#[99, 110]⟩, .string ⟨#[]⟩, .slice none 0 0, .slice none 0 0]) (by simp [results, Tryz.results8, go_sem]) rfl ⟨_, rfl, ?_, ?_⟩
  · exact mkFl (k := 8) (t := [99, 110]) (x := []) (p := []) (u := .slice none 0 0) (by decide) (by show 2 ≤ maxLen; decide) (Nat.zero_le _) isTo_nil
  · exact (Below.refl _ _).alloc (Nat.le_refl _) _
theorem makes_any (S : ByteArray) (hS : S.size ≤ 1000) : ∀ fu, MakesF S fu
  | 0, l, a, cap, w, hl, hC => by
    have : l = [] := List.eq_nil_of_length_eq_zero (by omega)
    subst this
    exact mkNil S a cap w
  | fu + 1, [], a, cap, w, hl, hC => mkNil S a cap w
  | fu + 1, c :: r, a, cap, w, hl, hC => by
    have hfu : r.length ≤ fu := by simpa using hl
    have ih := makes_any S hS fu
    have h8 : c.toNat % 8 < 8 := Nat.mod_lt _ (by omega)
    have h : c.toNat % 8 = 0 ∨ c.toNat % 8 = 1 ∨ c.toNat % 8 = 2 ∨ c.toNat % 8 = 3 ∨ c.toNat % 8 = 4 ∨ c.toNat % 8 = 5 ∨ c.toNat % 8 = 6 ∨ c.toNat % 8 = 7 := by omega
    rcases h with h | h | h | h | h | h | h | h
    · exact mkHold1 S hS fu c r c.toNat rfl h a cap w ih hfu hC
    · exact mkHold2 S hS fu c r c.toNat rfl h a cap w ih hfu hC
    · exact mkHold3 S hS fu c r c.toNat rfl h a cap w ih hfu hC
    · exact mkLeaf4 S hS fu c r c.toNat rfl h a cap w hC
    · exact mkLeaf5 S hS fu c r c.toNat rfl h a cap w hC
    · exact mkLeaf6 S hS fu c r c.toNat rfl h a cap w hC
    · exact mkLeaf7 S hS fu c r c.toNat rfl h a cap w hC
    · exact mkLeaf8 S hS fu c r c.toNat rfl h a cap w hC
end Go.Proofs.YtmilgbkkibahlaaGreatDoor


namespace Go.Proofs.YtmilgbkkibahlaaGreatDoor
open Go.RowKit
set_option linter.unusedVariables false

def IsB (n0 : Nat) (w : World) (l : List UInt8) (a : Option Addr) (cap : Nat) : Prop :=
  l.length ≤ maxLen ∧ (l = [] ∨ ∃ b off, a = some ⟨b, off, none⟩ ∧ b < n0 ∧ ∀ j, (h : j < l.length) → w.cell? ⟨b, off + j, none⟩ = some (.int .u8 l[j].toNat))
def IsS (n0 : Nat) (w : World) (L : List ByteArray) (a : Option Addr) (cap : Nat) : Prop :=
  L.length ≤ maxLen ∧ (∀ s ∈ L, s.size ≤ maxLen) ∧ (L = [] ∨ ∃ b off, a = some ⟨b, off, none⟩ ∧ b < n0 ∧ ∀ j, (h : j < L.length) → w.cell? ⟨b, off + j, none⟩ = some (.string L[j]))
theorem IsB.below {n0 : Nat} {w w' : World} {l : List UInt8} {a : Option Addr} {cap : Nat} (h : IsB n0 w l a cap) (hb : Below n0 w w') : IsB n0 w' l a cap :=
  ⟨h.1, h.2.imp id fun ⟨b, off, e, hlt, hc⟩ => ⟨b, off, e, hlt, fun j hj => (hb.cell (p := ⟨b, _, none⟩) hlt).trans (hc j hj)⟩⟩
theorem IsS.below {n0 : Nat} {w w' : World} {l : List ByteArray} {a : Option Addr} {cap : Nat} (h : IsS n0 w l a cap) (hb : Below n0 w w') : IsS n0 w' l a cap :=
  ⟨h.1, h.2.1, h.2.2.imp id fun ⟨b, off, e, hlt, hc⟩ => ⟨b, off, e, hlt, fun j hj => (hb.cell (p := ⟨b, _, none⟩) hlt).trans (hc j hj)⟩⟩

set_option maxRecDepth 100000 in
theorem open_bytes {H : Type} {enc : TypeId × Value → H} {W : World} {v : Value} {d : DataW H} {ps : List MemPlace} (hval : Value.okWide Tryz.prog W .any 0 22 v) (hd : DataW.Trod enc Tryz.prog W 0 (fun _ => true) true 22 v d ps) :
    ∃ (a : Option Addr) (cap : Nat) (l : List UInt8), v = .slice a l.length cap ∧ IsB W.heap.size W l a cap := by
  obtain ⟨a0, len, cap, rfl⟩ := Go.WideShapes.okWide_slice Tryz.underlying22 hval
  obtain ⟨fuel, hf⟩ := hd
  have hc : Tryz.prog.cellsOf 5 = 1 := by kernel_rfl
  rcases Go.ChangeShapes.open_ints Tryz.underlying22 Tryz.underlying5 hc hf with ⟨hcs, _⟩ | ⟨a, len', cap', zs, hcs, _, hle, hmax, hall, _, hcell, hwf⟩
  · simp [Value.cells] at hcs
    obtain ⟨rfl, rfl, rfl⟩ := hcs
    exact ⟨none, 0, [], rfl, Nat.zero_le _, .inl rfl⟩
  · simp [Value.cells] at hcs
    obtain ⟨rfl, rfl, rfl⟩ := hcs
    simp only [if_true] at hall
    have hlen : ((zs.take len).map fun z => UInt8.ofNat z.toNat).length = len := by simp; omega
    refine ⟨some a, cap, (zs.take len).map fun z => UInt8.ofNat z.toNat, by rw [hlen], by omega, ?_⟩
    by_cases h0 : len = 0
    · left; subst h0; simp
    · right
      obtain ⟨b, off, rfl, hat⟩ := ints_at hcell (by omega)
      refine ⟨b, off, rfl, World.block_lt_of_cell? W ⟨b, off + 0, none⟩ (hat 0 (by omega)), fun j hj => ?_⟩
      have hjz : j < zs.length := by omega
      have hw := hwf zs[j] (List.getElem_mem _)
      simp only [Lit.wf, Bool.and_eq_true, decide_eq_true_eq] at hw
      have h1 : (0 : Int) ≤ zs[j] := hw.1
      have h2 : zs[j] ≤ 255 := hw.2
      have hn : (UInt8.ofNat zs[j].toNat).toNat = zs[j].toNat := by simp; omega
      rw [hat j hjz]
      simp only [List.getElem_map, List.getElem_take, hn]
      simp [List.getD, List.getElem?_eq_getElem hjz]
      omega

end Go.Proofs.YtmilgbkkibahlaaGreatDoor


namespace Go.Proofs.YtmilgbkkibahlaaGreatDoor
open Go.RowKit
set_option linter.unusedVariables false

def kC (ns : List UInt8) (j : Nat) : Array Value := #[.int .i64 (if 0 < j then (kOf ns 0 : Int) else 0), .int .i64 (if 1 < j then (kOf ns 1 : Int) else 0), .int .i64 (if 2 < j then (kOf ns 2 : Int) else 0), .int .i64 (if 3 < j then (kOf ns 3 : Int) else 0), .int .i64 (if 4 < j then (kOf ns 4 : Int) else 0), .int .i64 (if 5 < j then (kOf ns 5 : Int) else 0), .int .i64 (if 6 < j then (kOf ns 6 : Int) else 0), .int .i64 (if 7 < j then (kOf ns 7 : Int) else 0)]
theorem kC_step (ns : List UInt8) : ∀ j, j < 8 → (kC ns j).setIfInBounds j (.int .i64 (kOf ns j : Int)) = kC ns (j + 1)
  | 0, _ => rfl
  | 1, _ => rfl
  | 2, _ => rfl
  | 3, _ => rfl
  | 4, _ => rfl
  | 5, _ => rfl
  | 6, _ => rfl
  | 7, _ => rfl
theorem kOf_no {ns : List UInt8} {i : Nat} (h : ns.length ≤ i) : kOf ns i = 0 := by
  unfold kOf
  rw [List.getD_eq_getElem?_getD, List.getElem?_eq_none h]
  rfl
theorem kC_end {ns : List UInt8} (h : ns.length ≤ 8) : kC ns ns.length = kC ns 8 := by
  have e : ∀ i, i < 8 → (if i < ns.length then (kOf ns i : Int) else 0) = (if i < 8 then (kOf ns i : Int) else 0) := fun i hi => by
    rw [if_pos hi]
    by_cases h2 : i < ns.length
    · rw [if_pos h2]
    · rw [if_neg h2, kOf_no (by omega)]; rfl
  unfold kC
  rw [e 0 (by omega), e 1 (by omega), e 2 (by omega), e 3 (by omega), e 4 (by omega), e 5 (by omega), e 6 (by omega), e 7 (by omega)]
theorem kC_at (ns : List UInt8) : ∀ i, i < 8 → (kC ns 8)[i]? = some (.int .i64 (kOf ns i : Int))
  | 0, _ => rfl
  | 1, _ => rfl
  | 2, _ => rfl
  | 3, _ => rfl
  | 4, _ => rfl
  | 5, _ => rfl
  | 6, _ => rfl
  | 7, _ => rfl
theorem mk8 (w : World) : (Instr.makeSlice 38 (.int .i64 8) (.int .i64 8)).run Tryz.prog w = .ok (.slice (some ⟨w.heap.size, 0, none⟩) 8 8) (w.alloc (.cells #[.int .i64 0, .int .i64 0, .int .i64 0, .int .i64 0, .int .i64 0, .int .i64 0, .int .i64 0, .int .i64 0] 3)) := by kernel_rfl
theorem kc_cell {ns : List UInt8} {W : World} {kb : Nat} (h : W.heap[kb]? = some (.cells (kC ns 8) 3 (0, 0))) (i : Nat) (hi : i < 8) : W.cell? ⟨kb, i, none⟩ = some (.int .i64 (kOf ns i : Int)) := by
  simp only [World.cell?, h]
  exact kC_at ns i hi

theorem kOf_lt (ns : List UInt8) (i : Nat) : kOf ns i < 256 := (ns.getD i 0).toNat_lt
theorem mkAt_set {B ge kb g n cap : Nat} {D : ByteArray} {P : List PT} {L : List AT} {KC : Array Value} {W : World} {j : Nat} {A' : List (List UInt8)} {x : Value} (hj : j < L.length) (hjP : j < P.length) (h : MkAt B W ge D (.slice (some ⟨g, 0, none⟩) n cap) P L kb KC) (hu : IsTo (StrB W) W A' x) :
    MkAt B (W.setCell ⟨g, j * 2 + 1, none⟩ x) ge D (.slice (some ⟨g, 0, none⟩) n cap) (P.set j (P[j].1, x)) (L.set j (L[j].1, A')) kb KC := by
  obtain ⟨h1, h2, _, _, ⟨cs, hc⟩, _, _⟩ := rowP_set hj hjP h.row h.says hu
  refine ⟨boxN_set h.box hc, h1, h2, (block_ne W ⟨g, _, none⟩ x fun e => ?_).trans h.nums, h.lo⟩
  have hk := h.nums
  rw [show kb = g from e, hc] at hk
  cases hk
theorem per_row {w : World} {g B : Nat} {N : ByteArray} (h : PerAt w g N) (hB : B ≤ g) : RowP B w (.slice (some ⟨g, 0, none⟩) 3 3) (perRow g) :=
  ⟨rfl, .inr ⟨g, 3, _, rfl, hB, h.b4, Nat.le_refl _, by unfold maxLen; decide, rfl, rfl⟩⟩

def P1 (P : List PT) : Prop := ∃ t vb, P[1]? = some (t, .slice (some ⟨vb, 0, none⟩) 1 1)
theorem p1_app {P : List PT} (h : P1 P) (PM : List PT) : P1 (P ++ PM) := by
  obtain ⟨t, vb, e⟩ := h
  refine ⟨t, vb, ?_⟩
  have hl : 1 < P.length := (List.getElem?_eq_some_iff.1 e).1
  rw [List.getElem?_append_left hl, e]
set_option maxRecDepth 100000 in
set_option maxHeartbeats 8000000 in
theorem make_any (ns : List UInt8) (a0 : Option Addr) (cp : Nat) (w : World) (h : IsB w.heap.size w ns a0 cp) :
    Calls Tryz.prog 7 #[.slice a0 ns.length cp] w fun e w' => ∃ D u, e = .returned (.agg #[.string D, u]) ∧ D.data.toList = mkD ns ∧ OwnM w.heap.size w' u (mkLd ns) ∧ Below w.heap.size w w' := by
  obtain ⟨n, hn⟩ : ∃ n, n = ns.length := ⟨_, rfl⟩
  rw [← hn]
  have hm := h.1
  rw [← hn] at hm
  unfold maxLen at hm
  obtain ⟨W0, hW0⟩ : ∃ W0, W0 = w.alloc (.cells #[.string ⟨#[]⟩, .slice none 0 0] 26) := ⟨_, rfl⟩
  have hB0 : Below w.heap.size w W0 := by rw [hW0]; exact (Below.refl _ _).alloc (Nat.le_refl _) _
  have hbx : BoxN W0 w.heap.size ⟨#[]⟩ (.slice none 0 0) := by rw [hW0]; exact boxN_new _ _ _
  have hz0 : W0.heap.size = w.heap.size + 1 := by rw [hW0]; simp
  have HN := Lib.hid hn
  have HI := Lib.hid h
  have HB0 := Lib.hid hB0
  have HBx := Lib.hid hbx
  have HW0 := Lib.hid hW0.symm
  have HZ0 := Lib.hid hz0
  clear hn h hB0 hbx hW0 hz0
  have hmk := mk8
  go_enter Tryz.func7, Tryz.ntmps7
  go_upto_region 1 with (fail)
  rw [HW0.out]
  go_upto_region 2 with (fail)
  have hk0 : (W0.alloc (.cells (kC ns 0) 3)).heap[W0.heap.size]? = some (.cells (kC ns 0) 3 (0, 0)) := heap_alloc_new W0 _
  have hbA : Below W0.heap.size W0 (W0.alloc (.cells (kC ns 0) 3)) := (Below.refl _ _).alloc (Nat.le_refl _) _
  have hw : W0.alloc (.cells (kC ns 0) 3) = W0.alloc (.cells #[.int .i64 0, .int .i64 0, .int .i64 0, .int .i64 0, .int .i64 0, .int .i64 0, .int .i64 0, .int .i64 0] 3) := rfl
  rw [hw] at hk0 hbA
  generalize W0.alloc (.cells #[.int .i64 0, .int .i64 0, .int .i64 0, .int .i64 0, .int .i64 0, .int .i64 0, .int .i64 0, .int .i64 0] 3) = WA at hk0 hbA ⊢
  clear hw hmk
  obtain ⟨kb, hkb⟩ : ∃ k, k = W0.heap.size := ⟨_, rfl⟩
  rw [← hkb] at hk0 ⊢
  have HKb := Lib.hid hkb
  have hkbw : w.heap.size < kb := by have := HZ0.out; omega
  clear hkb
  go_wp2
  go_loopw [4] (fun i wr => ∃ j : Nat, j ≤ n ∧ j ≤ 8 ∧ i = .int .i64 j ∧ Hid (wr.heap[kb]? = some (.cells (kC ns j) 3 (0, 0))) ∧ Below W0.heap.size W0 wr) (fun i wr => n - (intOf i).toNat)
  case atStart => exact ⟨0, by omega, by omega, rfl, Lib.hid hk0, hbA⟩
  case round =>
    obtain ⟨j, hj, hj8, rfl, HKc, hbel⟩ := hrel
    rename World => wo
    have HBr := Lib.hid hbel
    obtain ⟨go, hgo⟩ : ∃ b : Bool, b = decide (j < 8 ∧ j < n) := ⟨_, rfl⟩
    go_upto_region 3 with (fail)
    go_cut [15] from 8 to 15 (fun s15 wx => s15 = .bool go ∧ wo = wx)
    case first =>
      by_cases h8 : j < 8
      · have t1 : decide ((j : Int) < 8) = true := by simp; omega
        by_cases hlt : j < n
        · have t2 : decide ((j : Int) < (n : Int)) = true := by simp; omega
          have e : go = true := by rw [hgo]; simp; omega
          clear hgo
          subst e
          go_wp2
          go_meet
          exact ⟨rfl, by first | rfl | trivial⟩
        · have t2 : decide ((j : Int) < (n : Int)) = false := by simp; omega
          have e : go = false := by rw [hgo]; simp; omega
          clear hgo
          subst e
          go_wp2
          go_meet
          exact ⟨rfl, by first | rfl | trivial⟩
      · have t1 : decide ((j : Int) < 8) = false := by simp; omega
        have e : go = false := by rw [hgo]; simp; omega
        clear hgo
        subst e
        go_wp2
        go_meet
        exact ⟨rfl, by first | rfl | trivial⟩
    case rest =>
      obtain ⟨rfl, rfl⟩ := hcut
      cases go with
      | true =>
        have hjj : j < 8 ∧ j < n := by simpa using hgo.symm
        have h8 := hjj.1
        have hlt := hjj.2
        have ti0 : (0 : Int) ≤ (j : Int) := by omega
        have ti1 : (j : Int) < (n : Int) := by omega
        have ti2 : (j : Int) < 8 := by omega
        have hjl : j < ns.length := by rw [← HN.out]; exact hlt
        obtain ⟨b, off, rfl, hb0, hc0⟩ : ∃ b off, a0 = some ⟨b, off, none⟩ ∧ b < w.heap.size ∧ ∀ j, (h : j < ns.length) → w.cell? ⟨b, off + j, none⟩ = some (.int .u8 ns[j].toNat) := HI.out.2.resolve_left (fun e => by rw [e] at hjl; simp at hjl)
        have hkj : kOf ns j = ns[j].toNat := by unfold kOf; rw [List.getD_eq_getElem?_getD, List.getElem?_eq_getElem hjl]; rfl
        have hk256 : kOf ns j < 256 := by rw [hkj]; exact ns[j].toNat_lt
        have d0 : wo.cell? ⟨b, off + j, none⟩ = some (.int .u8 (kOf ns j : Int)) := by
          rw [hbel.cell (p := ⟨b, off + j, none⟩) (Nat.lt_of_lt_of_le hb0 HB0.out.size), HB0.out.cell (p := ⟨b, off + j, none⟩) hb0, hc0 j hjl, hkj]
        have hwr : IntKind.i64.wrap (kOf ns j : Int) = (kOf ns j : Int) := by rw [IntKind.wrap_i64]; omega
        obtain ⟨y, hy⟩ : ∃ y, wo.cell? ⟨kb, j, none⟩ = some y := by
          have hs : j < (kC ns j).size := by show j < 8; exact h8
          exact ⟨_, by simp only [World.cell?, HKc.out]; exact Array.getElem?_eq_getElem hs⟩
        have hf : wo.frozen? ⟨kb, j, none⟩ = false := by simp [World.frozen?, HKc.out]
        have HK2 : Hid ((wo.setCell ⟨kb, j, none⟩ (.int .i64 (kOf ns j : Int))).heap[kb]? = some (.cells (kC ns (j + 1)) 3 (0, 0))) := Lib.hid (by
          rw [← kC_step ns j h8]
          simp [World.setCell, Array.getElem?_modify, HKc.out])
        clear hc0 hkj hk256 hbel HKc hgo
        go_wp2
        go_roundw
        case rel => exact ⟨j + 1, by omega, by omega, by go_num, HK2, HBr.out.setCell (p := ⟨kb, j, none⟩) (by rw [HKb.out]; exact Nat.le_refl _) _⟩
        case measure => simp [intOf]; omega
      | false =>
        have HK8 : Hid (wo.heap[kb]? = some (.cells (kC ns 8) 3 (0, 0))) := Lib.hid (by
          have hjj : ¬ (j < 8 ∧ j < n) := by simpa using hgo.symm
          by_cases h8 : j < 8
          · have e : j = ns.length := by rw [← HN.out]; omega
            rw [← kC_end (by omega), ← e]
            exact HKc.out
          · have e : j = 8 := by omega
            have := HKc.out
            rw [e] at this
            exact this)
        clear HKc hgo
        have d0 := kc_cell HK8.out 0 (by omega)
        obtain ⟨q0, hq0⟩ : ∃ q, q = kOf ns 0 % 6 := ⟨_, rfl⟩
        have hm6 : (kOf ns 0 : Int) % 6 = (q0 : Int) := by omega
        have hdg := fun W => digits_any (q0 : Int) (by omega) (by omega) W
        obtain ⟨X, hX⟩ : ∃ X, X = ofL (Lib.itoa (q0 : Int)) := ⟨_, rfl⟩
        have hXl : X.data.toList = Lib.itoa (q0 : Int) := by rw [hX, ofL_list]
        have hXs : X.size ≤ 3 := by rw [← bytes_len, hXl]; exact itoa_short ⟨q0, by omega⟩
        obtain ⟨NM, hNM⟩ : ∃ P, (⟨#[110]⟩ : ByteArray) ++ X = P := ⟨_, rfl⟩
        have hNl : NM.data.toList = mkN ns := by rw [← hNM, app_list, hXl, hq0]; rfl
        have hNs : NM.size ≤ 4 := by rw [← hNM, ← bytes_len, app_list, List.length_append, bytes_len, bytes_len]; have : (⟨#[110]⟩ : ByteArray).size = 1 := rfl; omega
        have q1 : 1 + X.size ≤ 9223372036854775807 := by omega
        rw [← hX] at hdg
        have HDg := Lib.hid hdg
        have HPe := Lib.hid (fun W => person_any NM (by omega) W)
        have HNl := Lib.hid hNl
        have HNs := Lib.hid hNs
        have HBo := Lib.hid hbel
        have hbo := HB0.out.size
        have HKs := Lib.hid (Array.getElem?_eq_some_iff.1 HK8.out).1
        have HSz := Lib.hid (HBo.out.size)
        clear hX hXl hXs hNl hNs hdg hq0 hbel hbo
        go_upto_region 8 with (first
          | (go_at_call 16; refine (HDg.out _).mono ?_; rintro e w2 ⟨rfl, hb2⟩; have HB2 := Lib.hid hb2; clear hb2)
          | (go_at_call 15; refine (HPe.out _).mono ?_; rintro e w3 ⟨D3, g, rfl, hD3, hp, hg, hb3⟩; have HP := Lib.hid hp; have HD := Lib.hid hD3; have HG := Lib.hid hg; have HB3 := Lib.hid (bthen HB2.out hb3); clear hD3 hg hp hb3))
        have hb7 : Below w3.heap.size w3 (w3.alloc (.cells #[.string D3, .slice (some ⟨g, 0, none⟩) 3 3] 26)) := (Below.refl _ _).alloc (Nat.le_refl _) _
        have hx7 := boxN_new w3 D3 (.slice (some ⟨g, 0, none⟩) 3 3)
        have hp7 := HP.out.below hb7 HP.out.lt
        have hk7 := ((bthen HB3.out hb7).block kb HKs.out).trans HK8.out
        have hB7 := bthen (bthen HBo.out HB3.out) hb7
        have hgB : W0.heap.size ≤ g := by have := HG.out; have := HSz.out; have := HB2.out.size; omega
        have hge : W0.heap.size ≤ w3.heap.size := (bthen HBo.out HB3.out).size
        generalize w3.alloc (.cells #[.string D3, .slice (some ⟨g, 0, none⟩) 3 3] 26) = W7 at hb7 hx7 hp7 hk7 hB7 ⊢
        obtain ⟨ge, hge2⟩ : ∃ x, x = w3.heap.size := ⟨_, rfl⟩
        rw [← hge2] at hx7 hge ⊢
        have HM : Hid (MkAt W0.heap.size W7 ge D3 (.slice (some ⟨g, 0, none⟩) 3 3) (perRow g) (perL (mkN ns)) kb (kC ns 8)) := Lib.hid ⟨hx7, per_row hp7 hgB, by rw [← HNl.out]; exact per_says hp7, hk7, hge⟩
        have HBw := Lib.hid hB7
        have HLo := Lib.hid hge
        have d1 := kc_cell HM.out.nums 1 (by omega)
        clear hb7 hx7 hp7 hk7 hB7 hgB hge hge2 d0 q1 hNM
        go_upto_if 38 with (fail)
        go_cut [38] from 34 to 55 (fun s38 wx => ∃ u P, MkAt W0.heap.size wx ge D3 u P (mkLa ns) kb (kC ns 8) ∧ P1 P ∧ Below W0.heap.size W0 wx)
        case first =>
          by_cases hc : kOf ns 1 % 3 = 0
          · have t1 : ((kOf ns 1 : Int) % 3 == 0) = true := by simp; omega
            have hk2 := kOf_lt ns 2
            obtain ⟨TD, hTD⟩ : ∃ X, X = ofL (Lib.itoa (kOf ns 2 : Int)) := ⟨_, rfl⟩
            have hdg := fun W => digits_any (kOf ns 2 : Int) (by omega) (by omega) W
            rw [← hTD] at hdg
            have HDg := Lib.hid hdg
            have hTs : TD.size ≤ 3 := by rw [hTD, ← bytes_len, ofL_list]; exact itoa_short ⟨kOf ns 2, hk2⟩
            obtain ⟨TA, hTA⟩ : ∃ P, (⟨#[97, 64]⟩ : ByteArray) ++ TD = P := ⟨_, rfl⟩
            have hTl : TA.data.toList = [97, 64] ++ Lib.itoa (kOf ns 2 : Int) := by rw [← hTA, app_list, hTD, ofL_list]
            have qTA : 2 + TD.size ≤ 9223372036854775807 := by omega
            obtain ⟨x0, x1⟩ := HM.out.box.cells
            obtain ⟨_, _, c3, f3, ⟨cs3, hc3⟩, hgB, h33⟩ := rowP_set (j := 1) (A' := []) (u := .slice none 0 0) (show 1 < (perL (mkN ns)).length from by simp [perL]) (show 1 < (perRow g).length from by simp [perRow]) HM.out.row HM.out.says ⟨_, _, rfl, by unfold maxLen; simp, fun j hj => absurd hj (by simp)⟩
            clear h33
            have hgl := (Array.getElem?_eq_some_iff.1 hc3).1
            have c4 : W7.cell? ⟨g, 3, none⟩ = some (.slice (some ⟨g - 2, 0, none⟩) 1 1) := c3
            have f4 : W7.frozen? ⟨g, 3, none⟩ = false := f3
            have hbA : Below W7.heap.size W7 (W7.alloc (.cells #[.string ⟨#[105, 110, 101, 116, 79, 114, 103, 80, 101, 114, 115, 111, 110]⟩] 9)) := (Below.refl _ _).alloc (Nat.le_refl _) _
            have hnA := heap_alloc_new W7 (.cells #[.string ⟨#[105, 110, 101, 116, 79, 114, 103, 80, 101, 114, 115, 111, 110]⟩] 9)
            have c5 : (W7.alloc (.cells #[.string ⟨#[105, 110, 101, 116, 79, 114, 103, 80, 101, 114, 115, 111, 110]⟩] 9)).cell? ⟨g, 3, none⟩ = some (.slice (some ⟨g - 2, 0, none⟩) 1 1) := (hbA.cell (p := ⟨g, 3, none⟩) hgl).trans c4
            have f5 : (W7.alloc (.cells #[.string ⟨#[105, 110, 101, 116, 79, 114, 103, 80, 101, 114, 115, 111, 110]⟩] 9)).frozen? ⟨g, 3, none⟩ = false := by
              have := heap_alloc_old W7 (.cells #[.string ⟨#[105, 110, 101, 116, 79, 114, 103, 80, 101, 114, 115, 111, 110]⟩] 9) hgl
              simp only [World.frozen?, this]
              simpa only [World.frozen?] using f4
            have hm9 : MkAt W0.heap.size ((W7.alloc (.cells #[.string ⟨#[105, 110, 101, 116, 79, 114, 103, 80, 101, 114, 115, 111, 110]⟩] 9)).setCell ⟨g, 3, none⟩ (.slice (some ⟨W7.heap.size, 0, none⟩) 1 1)) ge D3 (.slice (some ⟨g, 0, none⟩) 3 3) ((perRow g).set 1 ([111, 98, 106, 101, 99, 116, 99, 108, 97, 115, 115], .slice (some ⟨W7.heap.size, 0, none⟩) 1 1)) ((perL (mkN ns)).set 1 ([111, 98, 106, 101, 99, 116, 99, 108, 97, 115, 115], [(⟨#[105, 110, 101, 116, 79, 114, 103, 80, 101, 114, 115, 111, 110]⟩ : ByteArray).data.toList])) kb (kC ns 8) := mkAt_set (j := 1) (show 1 < (perL (mkN ns)).length from by simp [perL]) (show 1 < (perRow g).length from by simp [perRow]) (HM.out.go hbA) (isTo_one (X := ⟨#[105, 110, 101, 116, 79, 114, 103, 80, 101, 114, 115, 111, 110]⟩) hnA)
            have hb9 := (bthen HBw.out hbA).setCell (p := ⟨g, 3, none⟩) hgB (.slice (some ⟨W7.heap.size, 0, none⟩) 1 1)
            have hp9 : P1 ((perRow g).set 1 ([111, 98, 106, 101, 99, 116, 99, 108, 97, 115, 115], .slice (some ⟨W7.heap.size, 0, none⟩) 1 1)) := ⟨_, _, rfl⟩
            clear hTD hdg hTs c3 f3
            go_upto_region 10 with (fail)
            rw [← World.setCell_alloc_past _ _ _ _ hgl]
            obtain ⟨P, hP⟩ : ∃ P, P = (perRow g).set 1 ([111, 98, 106, 101, 99, 116, 99, 108, 97, 115, 115], .slice (some ⟨W7.heap.size, 0, none⟩) 1 1) := ⟨_, rfl⟩
            obtain ⟨L, hL⟩ : ∃ L, L = (perL (mkN ns)).set 1 ([111, 98, 106, 101, 99, 116, 99, 108, 97, 115, 115], [(⟨#[105, 110, 101, 116, 79, 114, 103, 80, 101, 114, 115, 111, 110]⟩ : ByteArray).data.toList]) := ⟨_, rfl⟩
            rw [← hP, ← hL] at hm9
            rw [← hP] at hp9
            generalize (W7.alloc (.cells #[.string ⟨#[105, 110, 101, 116, 79, 114, 103, 80, 101, 114, 115, 111, 110]⟩] 9)).setCell ⟨g, 3, none⟩ (.slice (some ⟨W7.heap.size, 0, none⟩) 1 1) = W9 at hm9 hb9 ⊢
            obtain ⟨u, hu⟩ : ∃ u, u = Value.slice (some ⟨g, 0, none⟩) 3 3 := ⟨_, rfl⟩
            rw [← hu] at hm9
            have HZ := Lib.hid hm9.j
            have HJ := Lib.hid hb9.size
            have HJ : Hid (W0.heap.size ≤ W9.heap.size) := Lib.hid hb9.size
            have HBw := Lib.hid hb9
            have HP1 := Lib.hid hp9
            have HLl : Hid (L.length ≤ 100) := Lib.hid (by rw [hL]; simp [perL])
            have HLa : Hid (mkLa ns = L ++ [([109, 97, 105, 108], [TA.data.toList])]) := Lib.hid (by unfold mkLa; rw [if_pos hc, hTl, hL]; rfl)
            clear hm9 hb9 hp9 hP hL hbA hnA c4 f4 c5 f5 hc3 hgB hTl hk2
            refine region_J (by kernel_rfl) W0.heap.size 9 10 (fun _ q => FK W0.heap.size [.is (.pointer (some ⟨ge, 1, none⟩)), .is (u), .is (.slice (some ⟨kb, 0, none⟩) 8 8), .is (.pointer (some ⟨kb, 2, none⟩)), .is (.int .i64 (kOf ns 2 : Int)), .is (.string TD), .is (.string TA), .val #[.string TA] (fun b => .slice (some ⟨b, 0, none⟩) 1 1), .val #[.string TA] (fun b => .agg #[.string ⟨#[109, 97, 105, 108]⟩, .slice (some ⟨b, 0, none⟩) 1 1]), .att [([109, 97, 105, 108], [TA.data.toList])], .row P (L ++ [([109, 97, 105, 108], [TA.data.toList])]), .is (.pointer (some ⟨ge, 1, none⟩))] q) (fun _ q => MkJ W0.heap.size ge kb D3 u P L (kC ns 8) q) (fun _ _ _ _ _ h hb => MkJ.go h hb) HZ.out (fun _ _ _ _ _ _ _ h hb => FK.go h hb) HJ.out (by kernel_rfl) (by kernel_rfl) (by decide) (by rfl) ?hs10 ?hx10 ?hy10 ?hl10
            case hs10 =>
              intro listed a W p q hsz hj hk i o ho hi hi1 hi2 hc
              have e3 := hk.read (t := 3) (by kernel_rfl) rfl
              have e6 := hk.read (t := 6) (by kernel_rfl) rfl
              have dk := fun x (hx : x < 8) => kc_cell (ns := ns) hj.2.1 x hx
              match i, hi, hi1, hi2 with
              | 0, _, _, _ =>
                obtain rfl := Option.some.inj ho
                exact wpOp_val rfl rfl (v := .pointer (some ⟨ge, 1, none⟩)) (w' := W) (by simp [go_sem, e6]) ⟨_, _, rfl, rfl, Below.refl _ _, rfl⟩
              | 1, _, _, _ =>
                obtain rfl := Option.some.inj ho
                obtain ⟨v0, g0, f0⟩ := hk.got (j := 0) rfl rfl (hc ⟨0, .data⟩ (by simp) rfl)
                obtain rfl : v0 = _ := f0
                have d0 := hj.1.cells.2
                exact wpOp_val rfl rfl (v := u) (w' := W) (by simp [go_sem, g0, d0]) ⟨_, _, rfl, rfl, Below.refl _ _, rfl⟩
              | 2, _, _, _ =>
                obtain rfl := Option.some.inj ho
                exact wpOp_val rfl rfl (v := .slice (some ⟨kb, 0, none⟩) 8 8) (w' := W) (by simp [go_sem, e3]) ⟨_, _, rfl, rfl, Below.refl _ _, rfl⟩
              | 3, _, _, _ =>
                obtain rfl := Option.some.inj ho
                obtain ⟨v2, g2, f2⟩ := hk.got (j := 2) rfl rfl (hc ⟨2, .data⟩ (by simp) rfl)
                obtain rfl : v2 = _ := f2
                exact wpOp_val rfl rfl (v := .pointer (some ⟨kb, 2, none⟩)) (w' := W) (by simp [go_sem, g2]) ⟨_, _, rfl, rfl, Below.refl _ _, rfl⟩
              | 4, _, _, _ =>
                obtain rfl := Option.some.inj ho
                obtain ⟨v3, g3, f3⟩ := hk.got (j := 3) rfl rfl (hc ⟨3, .data⟩ (by simp) rfl)
                obtain rfl : v3 = _ := f3
                have d2 := dk 2 (by omega)
                exact wpOp_val rfl rfl (v := .int .i64 (kOf ns 2 : Int)) (w' := W) (by simp [go_sem, g3, d2]) ⟨_, _, rfl, rfl, Below.refl _ _, rfl⟩
              | 5, _, _, _ =>
                obtain rfl := Option.some.inj ho
                obtain ⟨v4, g4, f4⟩ := hk.got (j := 4) rfl rfl (hc ⟨4, .data⟩ (by simp) rfl)
                obtain rfl : v4 = _ := f4
                refine wpOp_call rfl rfl (f := 16) (args := #[.int .i64 (kOf ns 2 : Int)]) (by simp [go_sem, g4]) ((HDg.out W).mono ?_)
                rintro e w2 ⟨rfl, hb2⟩
                exact ⟨_, rfl, _, _, rfl, rfl, hb2, rfl⟩
              | 6, _, _, _ =>
                obtain rfl := Option.some.inj ho
                obtain ⟨v5, g5, f5⟩ := hk.got (j := 5) rfl rfl (hc ⟨5, .data⟩ (by simp) rfl)
                obtain rfl : v5 = _ := f5
                exact wpOp_val rfl rfl (v := .string TA) (w' := W) (by simp [go_sem, g5, hTA, qTA]) ⟨_, _, rfl, rfl, Below.refl _ _, rfl⟩
              | 7, _, _, _ =>
                obtain rfl := Option.some.inj ho
                obtain ⟨v6, g6, f6⟩ := hk.got (j := 6) rfl rfl (hc ⟨6, .data⟩ (by simp) rfl)
                obtain rfl : v6 = _ := f6
                exact wpOp_val rfl rfl (v := .slice (some ⟨W.heap.size, 0, none⟩) 1 1) (w' := W.alloc (.cells #[.string TA] 9)) (by simp [go_sem, g6]) ⟨_, _, rfl, rfl, ((Below.refl _ _).alloc (Nat.le_refl _) _), ⟨_, rfl, heap_alloc_new W _⟩⟩
              | 8, _, _, _ =>
                obtain rfl := Option.some.inj ho
                obtain ⟨v7, g7, f7⟩ := hk.got (j := 7) rfl rfl (hc ⟨7, .data⟩ (by simp) rfl)
                obtain ⟨b, rfl, hb⟩ := f7
                exact wpOp_val rfl rfl (v := .agg #[.string ⟨#[109, 97, 105, 108]⟩, .slice (some ⟨b, 0, none⟩) 1 1]) (w' := W) (by simp [go_sem, g7]) ⟨_, _, rfl, rfl, Below.refl _ _, ⟨_, rfl, hb⟩⟩
              | 11, _, _, _ =>
                obtain rfl := Option.some.inj ho
                exact wpOp_val rfl rfl (v := .pointer (some ⟨ge, 1, none⟩)) (w' := W) (by simp [go_sem, e6]) ⟨_, _, rfl, rfl, Below.refl _ _, rfl⟩
              | 9, _, h, _ => exact absurd rfl h
              | 10, _, _, h => exact absurd rfl h
              | m + 12, hm, _, _ => exact absurd hm (by simp)
            case hx10 =>
              intro listed a W hsz hj hk o ho hc
              obtain rfl := Option.some.inj ho
              obtain ⟨v8, g8, f8⟩ := hk.got (j := 8) rfl rfl (hc ⟨8, .data⟩ (by simp) rfl)
              obtain ⟨b, rfl, hb⟩ := f8
              have hbl := (Array.getElem?_eq_some_iff.1 hb).1
              exact wpOp_val rfl rfl (v := .slice (some ⟨W.heap.size, 0, none⟩) 1 1) (w' := W.alloc (.cells #[.string ⟨#[109, 97, 105, 108]⟩, .slice (some ⟨b, 0, none⟩) 1 1] 42)) (by simp [go_sem, g8]) ⟨_, _, rfl, rfl, ((Below.refl _ _).alloc (Nat.le_refl _) _).mono hsz, .inr ⟨W.heap.size, [(_, .slice (some ⟨b, 0, none⟩) 1 1)], rfl, heap_alloc_new W _, saysM_one (X := ⟨#[109, 97, 105, 108]⟩) ((heap_alloc_old W _ hbl).trans hb)⟩, MkJ.go hj ((Below.refl _ _).alloc (Nat.le_refl _) _), fun j u hj2 h => FK.go h ((Below.refl _ _).alloc (Nat.le_refl _) _)⟩
            case hy10 =>
              intro listed a W hsz hj hk o ho hc
              obtain rfl := Option.some.inj ho
              obtain ⟨v1, g1, f1⟩ := hk.got (j := 1) rfl rfl (hc ⟨1, .data⟩ (by simp) rfl)
              obtain rfl : v1 = _ := f1
              obtain ⟨v9, g9, f9⟩ := hk.got (j := 9) rfl rfl (hc ⟨9, .data⟩ (by simp) rfl)
              obtain ⟨c, PM, rfl, hcc, hps⟩ := f9.resolve_left (by simp)
              obtain ⟨hr, hsay⟩ := hj.2.2 rfl
              obtain ⟨v', w', hrun, hr', hs', hbel, hk1, hk2⟩ := run_append_P hr hsay hsz hps ⟨c, 0, none⟩ 1 (fun j u hu => by rw [addr0]; exact list_cells hcc j u hu) (by have := HLl.out; simp; omega) 24
              exact wpOp_val rfl rfl (exec_append rfl (by simp [go_sem, g1]) (by simp [go_sem, g9]) hrun) ⟨_, _, rfl, rfl, hbel, ⟨rfl, PM, hr', hs'⟩, MkJ.loud hj hk2, fun j u hj2 h => FK.loud h hk1 hk2⟩
            case hl10 =>
              intro listed a W hsz hj hk hall
              obtain ⟨vr, gr, fr⟩ := hk.got (j := 10) rfl rfl (hall 10 (by simp))
              obtain ⟨vp, gp, fp⟩ := hk.got (j := 11) rfl rfl (hall 11 (by simp))
              obtain rfl : vp = _ := fp
              obtain ⟨_, PM, hr, hs⟩ := fr
              obtain ⟨sa, sc, hv⟩ := rowP_slice hr
              obtain ⟨ln, hln⟩ : ∃ k, k = (P ++ PM).length := ⟨_, rfl⟩
              rw [← hln] at hv
              subst hv
              have HLn := Lib.hid hln
              clear hln
              obtain ⟨hm, c1, c2⟩ := mkAt_store hj hr hs HLo.out
              have hput := hk.puts
              refine wpOp_skip rfl rfl (w' := W.setCell ⟨ge, 1, none⟩ (.slice sa ln sc)) (by simp [go_sem, gr, gp, c1, c2]) ?_
              rw [hput]
              simp only [putT]
              generalize a.tmps[44]?.getD undef = x44
              generalize a.tmps[45]?.getD undef = x45
              generalize a.tmps[46]?.getD undef = x46
              generalize a.tmps[47]?.getD undef = x47
              generalize a.tmps[48]?.getD undef = x48
              generalize a.tmps[49]?.getD undef = x49
              generalize a.tmps[50]?.getD undef = x50
              generalize a.tmps[51]?.getD undef = x51
              generalize a.tmps[52]?.getD undef = x52
              generalize a.tmps[53]?.getD undef = x53
              generalize a.tmps[54]?.getD undef = x54
              generalize a.tmps[55]?.getD undef = x55
              have HM := Lib.hid hm
              have HG := Lib.hid ((HBw.out.trans hk.grown).setCell (p := ⟨ge, 1, none⟩) HLo.out (.slice sa ln sc))
              clear hall hput gr gp hr hs c1 c2 hk hj hm
              go_simp
              go_wp2
              go_meet
              exact ⟨_, _, by rw [HLa.out]; exact HM.out, p1_app HP1.out PM, HG.out⟩
          · have t1 : ((kOf ns 1 : Int) % 3 == 0) = false := by simp; omega
            have HLa : Hid (mkLa ns = perL (mkN ns)) := Lib.hid (by unfold mkLa; rw [if_neg hc])
            have hp9 : P1 (perRow g) := ⟨_, _, rfl⟩
            clear hc
            go_wp2
            go_meet
            exact ⟨_, _, by rw [HLa.out]; exact HM.out, hp9, HBw.out⟩
        case rest =>
          obtain ⟨u, P, hM1, hP1, hB1⟩ := hcut
          rename World => w1
          clear HM HBw d1
          have d1 := kc_cell hM1.nums 1 (by omega)
          have d2 := kc_cell hM1.nums 2 (by omega)
          obtain ⟨L, hL⟩ : ∃ L, L = mkLa ns := ⟨_, rfl⟩
          rw [← hL] at hM1
          have HLl : Hid (L.length ≤ 100) := Lib.hid (by rw [hL]; unfold mkLa; split <;> simp [perL])
          have HLL := Lib.hid hL
          have HM := Lib.hid hM1
          have HP1 := Lib.hid hP1
          have HBw := Lib.hid hB1
          clear hL hM1 hP1 hB1
          go_upto_if 60 with (fail)
          go_cut [60] from 56 to 73 (fun s60 wx => ∃ u P, MkAt W0.heap.size wx ge D3 u P (mkLb ns) kb (kC ns 8) ∧ P1 P ∧ Below W0.heap.size W0 wx)
          case first =>
            by_cases hc : kOf ns 1 % 3 = 1
            · have t1 : ((kOf ns 1 : Int) % 3 == 1) = true := by simp; omega
              obtain ⟨q29, hq29⟩ : ∃ q, q = kOf ns 2 % 9 := ⟨_, rfl⟩
              have hm29 : (kOf ns 2 : Int).tmod 9 = (q29 : Int) := by rw [Int.tmod_eq_emod_of_nonneg (by omega)]; omega
              obtain ⟨TD, hTD⟩ : ∃ X, X = ofL (Lib.itoa (q29 : Int)) := ⟨_, rfl⟩
              have hdg := fun W => digits_any (q29 : Int) (by omega) (by omega) W
              rw [← hTD] at hdg
              have HDg := Lib.hid hdg
              have hTs : TD.size ≤ 3 := by rw [hTD, ← bytes_len, ofL_list]; exact itoa_short ⟨q29, by omega⟩
              obtain ⟨TA, hTA⟩ : ∃ P, (⟨#[100, 32]⟩ : ByteArray) ++ TD = P := ⟨_, rfl⟩
              have hTl : TA.data.toList = [100, 32] ++ Lib.itoa (q29 : Int) := by rw [← hTA, app_list, hTD, ofL_list]
              have qTA : 2 + TD.size ≤ 9223372036854775807 := by omega
              have HLb : Hid (mkLb ns = L ++ [([68, 101, 115, 99, 114, 105, 112, 116, 105, 111, 110], [TA.data.toList, [101]])]) := Lib.hid (by unfold mkLb; rw [if_pos hc, hTl, HLL.out, hq29])
              have HZ := Lib.hid HM.out.j
              have HJ : Hid (W0.heap.size ≤ w1.heap.size) := Lib.hid HBw.out.size
              clear hTD hdg hTs hTl hq29
              go_upto_region 12 with (fail)
              refine region_J (by kernel_rfl) W0.heap.size 10 11 (fun _ q => FK W0.heap.size [.is (.pointer (some ⟨ge, 1, none⟩)), .is (u), .is (.slice (some ⟨kb, 0, none⟩) 8 8), .is (.pointer (some ⟨kb, 2, none⟩)), .is (.int .i64 (kOf ns 2 : Int)), .is (.int .i64 (q29 : Int)), .is (.string TD), .is (.string TA), .val #[.string TA, .string ⟨#[101]⟩] (fun b => .slice (some ⟨b, 0, none⟩) 2 2), .val #[.string TA, .string ⟨#[101]⟩] (fun b => .agg #[.string ⟨#[68, 101, 115, 99, 114, 105, 112, 116, 105, 111, 110]⟩, .slice (some ⟨b, 0, none⟩) 2 2]), .att [([68, 101, 115, 99, 114, 105, 112, 116, 105, 111, 110], [TA.data.toList, [101]])], .row P (L ++ [([68, 101, 115, 99, 114, 105, 112, 116, 105, 111, 110], [TA.data.toList, [101]])]), .is (.pointer (some ⟨ge, 1, none⟩))] q) (fun _ q => MkJ W0.heap.size ge kb D3 u P L (kC ns 8) q) (fun _ _ _ _ _ h hb => MkJ.go h hb) HZ.out (fun _ _ _ _ _ _ _ h hb => FK.go h hb) HJ.out (by kernel_rfl) (by kernel_rfl) (by decide) (by rfl) ?hs12 ?hx12 ?hy12 ?hl12
              case hs12 =>
                intro listed a W p q hsz hj hk i o ho hi hi1 hi2 hc
                have e3 := hk.read (t := 3) (by kernel_rfl) rfl
                have e6 := hk.read (t := 6) (by kernel_rfl) rfl
                have dk := fun x (hx : x < 8) => kc_cell (ns := ns) hj.2.1 x hx
                match i, hi, hi1, hi2 with
                | 0, _, _, _ =>
                  obtain rfl := Option.some.inj ho
                  exact wpOp_val rfl rfl (v := .pointer (some ⟨ge, 1, none⟩)) (w' := W) (by simp [go_sem, e6]) ⟨_, _, rfl, rfl, Below.refl _ _, rfl⟩
                | 1, _, _, _ =>
                  obtain rfl := Option.some.inj ho
                  obtain ⟨v0, g0, f0⟩ := hk.got (j := 0) rfl rfl (hc ⟨0, .data⟩ (by simp) rfl)
                  obtain rfl : v0 = _ := f0
                  have d0 := hj.1.cells.2
                  exact wpOp_val rfl rfl (v := u) (w' := W) (by simp [go_sem, g0, d0]) ⟨_, _, rfl, rfl, Below.refl _ _, rfl⟩
                | 2, _, _, _ =>
                  obtain rfl := Option.some.inj ho
                  exact wpOp_val rfl rfl (v := .slice (some ⟨kb, 0, none⟩) 8 8) (w' := W) (by simp [go_sem, e3]) ⟨_, _, rfl, rfl, Below.refl _ _, rfl⟩
                | 3, _, _, _ =>
                  obtain rfl := Option.some.inj ho
                  obtain ⟨v2, g2, f2⟩ := hk.got (j := 2) rfl rfl (hc ⟨2, .data⟩ (by simp) rfl)
                  obtain rfl : v2 = _ := f2
                  exact wpOp_val rfl rfl (v := .pointer (some ⟨kb, 2, none⟩)) (w' := W) (by simp [go_sem, g2]) ⟨_, _, rfl, rfl, Below.refl _ _, rfl⟩
                | 4, _, _, _ =>
                  obtain rfl := Option.some.inj ho
                  obtain ⟨v3, g3, f3⟩ := hk.got (j := 3) rfl rfl (hc ⟨3, .data⟩ (by simp) rfl)
                  obtain rfl : v3 = _ := f3
                  have d2 := dk 2 (by omega)
                  exact wpOp_val rfl rfl (v := .int .i64 (kOf ns 2 : Int)) (w' := W) (by simp [go_sem, g3, d2]) ⟨_, _, rfl, rfl, Below.refl _ _, rfl⟩
                | 5, _, _, _ =>
                  obtain rfl := Option.some.inj ho
                  obtain ⟨v4, g4, f4⟩ := hk.got (j := 4) rfl rfl (hc ⟨4, .data⟩ (by simp) rfl)
                  obtain rfl : v4 = _ := f4
                  exact wpOp_val rfl rfl (v := .int .i64 (q29 : Int)) (w' := W) (by simp [go_sem, g4, hm29]) ⟨_, _, rfl, rfl, Below.refl _ _, rfl⟩
                | 6, _, _, _ =>
                  obtain rfl := Option.some.inj ho
                  obtain ⟨v5, g5, f5⟩ := hk.got (j := 5) rfl rfl (hc ⟨5, .data⟩ (by simp) rfl)
                  obtain rfl : v5 = _ := f5
                  refine wpOp_call rfl rfl (f := 16) (args := #[.int .i64 (q29 : Int)]) (by simp [go_sem, g5]) ((HDg.out W).mono ?_)
                  rintro e w2 ⟨rfl, hb2⟩
                  exact ⟨_, rfl, _, _, rfl, rfl, hb2, rfl⟩
                | 7, _, _, _ =>
                  obtain rfl := Option.some.inj ho
                  obtain ⟨v6, g6, f6⟩ := hk.got (j := 6) rfl rfl (hc ⟨6, .data⟩ (by simp) rfl)
                  obtain rfl : v6 = _ := f6
                  exact wpOp_val rfl rfl (v := .string TA) (w' := W) (by simp [go_sem, g6, hTA, qTA]) ⟨_, _, rfl, rfl, Below.refl _ _, rfl⟩
                | 8, _, _, _ =>
                  obtain rfl := Option.some.inj ho
                  obtain ⟨v7, g7, f7⟩ := hk.got (j := 7) rfl rfl (hc ⟨7, .data⟩ (by simp) rfl)
                  obtain rfl : v7 = _ := f7
                  exact wpOp_val rfl rfl (v := .slice (some ⟨W.heap.size, 0, none⟩) 2 2) (w' := W.alloc (.cells #[.string TA, .string ⟨#[101]⟩] 9)) (by simp [go_sem, g7]) ⟨_, _, rfl, rfl, ((Below.refl _ _).alloc (Nat.le_refl _) _), ⟨_, rfl, heap_alloc_new W _⟩⟩
                | 9, _, _, _ =>
                  obtain rfl := Option.some.inj ho
                  obtain ⟨v8, g8, f8⟩ := hk.got (j := 8) rfl rfl (hc ⟨8, .data⟩ (by simp) rfl)
                  obtain ⟨b, rfl, hb⟩ := f8
                  exact wpOp_val rfl rfl (v := .agg #[.string ⟨#[68, 101, 115, 99, 114, 105, 112, 116, 105, 111, 110]⟩, .slice (some ⟨b, 0, none⟩) 2 2]) (w' := W) (by simp [go_sem, g8]) ⟨_, _, rfl, rfl, Below.refl _ _, ⟨_, rfl, hb⟩⟩
                | 12, _, _, _ =>
                  obtain rfl := Option.some.inj ho
                  exact wpOp_val rfl rfl (v := .pointer (some ⟨ge, 1, none⟩)) (w' := W) (by simp [go_sem, e6]) ⟨_, _, rfl, rfl, Below.refl _ _, rfl⟩
                | 10, _, h, _ => exact absurd rfl h
                | 11, _, _, h => exact absurd rfl h
                | m + 13, hm, _, _ => exact absurd hm (by simp)
              case hx12 =>
                intro listed a W hsz hj hk o ho hc
                obtain rfl := Option.some.inj ho
                obtain ⟨v9, g9, f9⟩ := hk.got (j := 9) rfl rfl (hc ⟨9, .data⟩ (by simp) rfl)
                obtain ⟨b, rfl, hb⟩ := f9
                have hbl := (Array.getElem?_eq_some_iff.1 hb).1
                exact wpOp_val rfl rfl (v := .slice (some ⟨W.heap.size, 0, none⟩) 1 1) (w' := W.alloc (.cells #[.string ⟨#[68, 101, 115, 99, 114, 105, 112, 116, 105, 111, 110]⟩, .slice (some ⟨b, 0, none⟩) 2 2] 42)) (by simp [go_sem, g9]) ⟨_, _, rfl, rfl, ((Below.refl _ _).alloc (Nat.le_refl _) _).mono hsz, .inr ⟨W.heap.size, [(_, .slice (some ⟨b, 0, none⟩) 2 2)], rfl, heap_alloc_new W _, saysM_two (X := ⟨#[68, 101, 115, 99, 114, 105, 112, 116, 105, 111, 110]⟩) (Z := ⟨#[101]⟩) ((heap_alloc_old W _ hbl).trans hb)⟩, MkJ.go hj ((Below.refl _ _).alloc (Nat.le_refl _) _), fun j u hj2 h => FK.go h ((Below.refl _ _).alloc (Nat.le_refl _) _)⟩
              case hy12 =>
                intro listed a W hsz hj hk o ho hc
                obtain rfl := Option.some.inj ho
                obtain ⟨v1, g1, f1⟩ := hk.got (j := 1) rfl rfl (hc ⟨1, .data⟩ (by simp) rfl)
                obtain rfl : v1 = _ := f1
                obtain ⟨v10, g10, f10⟩ := hk.got (j := 10) rfl rfl (hc ⟨10, .data⟩ (by simp) rfl)
                obtain ⟨c, PM, rfl, hcc, hps⟩ := f10.resolve_left (by simp)
                obtain ⟨hr, hsay⟩ := hj.2.2 rfl
                obtain ⟨v', w', hrun, hr', hs', hbel, hk1, hk2⟩ := run_append_P hr hsay hsz hps ⟨c, 0, none⟩ 1 (fun j u hu => by rw [addr0]; exact list_cells hcc j u hu) (by have := HLl.out; simp; omega) 24
                exact wpOp_val rfl rfl (exec_append rfl (by simp [go_sem, g1]) (by simp [go_sem, g10]) hrun) ⟨_, _, rfl, rfl, hbel, ⟨rfl, PM, hr', hs'⟩, MkJ.loud hj hk2, fun j u hj2 h => FK.loud h hk1 hk2⟩
              case hl12 =>
                intro listed a W hsz hj hk hall
                obtain ⟨vr, gr, fr⟩ := hk.got (j := 11) rfl rfl (hall 11 (by simp))
                obtain ⟨vp, gp, fp⟩ := hk.got (j := 12) rfl rfl (hall 12 (by simp))
                obtain rfl : vp = _ := fp
                obtain ⟨_, PM, hr, hs⟩ := fr
                obtain ⟨sa, sc, hv⟩ := rowP_slice hr
                obtain ⟨ln, hln⟩ : ∃ k, k = (P ++ PM).length := ⟨_, rfl⟩
                rw [← hln] at hv
                subst hv
                have HLn := Lib.hid hln
                clear hln
                obtain ⟨hm, c1, c2⟩ := mkAt_store hj hr hs HLo.out
                have hput := hk.puts
                refine wpOp_skip rfl rfl (w' := W.setCell ⟨ge, 1, none⟩ (.slice sa ln sc)) (by simp [go_sem, gr, gp, c1, c2]) ?_
                rw [hput]
                simp only [putT]
                generalize a.tmps[61]?.getD undef = x61
                generalize a.tmps[62]?.getD undef = x62
                generalize a.tmps[63]?.getD undef = x63
                generalize a.tmps[64]?.getD undef = x64
                generalize a.tmps[65]?.getD undef = x65
                generalize a.tmps[66]?.getD undef = x66
                generalize a.tmps[67]?.getD undef = x67
                generalize a.tmps[68]?.getD undef = x68
                generalize a.tmps[69]?.getD undef = x69
                generalize a.tmps[70]?.getD undef = x70
                generalize a.tmps[71]?.getD undef = x71
                generalize a.tmps[72]?.getD undef = x72
                generalize a.tmps[73]?.getD undef = x73
                have HM := Lib.hid hm
                have HG := Lib.hid ((HBw.out.trans hk.grown).setCell (p := ⟨ge, 1, none⟩) HLo.out (.slice sa ln sc))
                clear hall hput gr gp hr hs c1 c2 hk hj hm
                go_simp
                go_wp2
                go_meet
                exact ⟨_, _, by rw [HLb.out]; exact HM.out, p1_app HP1.out PM, HG.out⟩
            · have t1 : ((kOf ns 1 : Int) % 3 == 1) = false := by simp; omega
              have HLb : Hid (mkLb ns = L) := Lib.hid (by unfold mkLb; rw [if_neg hc, HLL.out])
              clear hc
              go_wp2
              go_meet
              exact ⟨_, _, by rw [HLb.out]; exact HM.out, HP1.out, HBw.out⟩
          case rest =>
            obtain ⟨u, P, hM1, hP1, hB1⟩ := hcut
            rename World => w1
            clear HM HBw HP1 HLl HLL d1 d2
            have d3 := kc_cell hM1.nums 3 (by omega)
            obtain ⟨L, hL⟩ : ∃ L, L = mkLb ns := ⟨_, rfl⟩
            rw [← hL] at hM1
            have HLl : Hid (L.length ≤ 100) := Lib.hid (by rw [hL]; unfold mkLb mkLa; split <;> split <;> simp [perL])
            have HLL := Lib.hid hL
            have HM := Lib.hid hM1
            have HP1 := Lib.hid hP1
            have HBw := Lib.hid hB1
            clear hL hM1 hP1 hB1
            go_upto_if 78 with (fail)
            go_cut [78] from 74 to 109 (fun s78 wx => ∃ u P, MkAt W0.heap.size wx ge D3 u P (mkLc ns) kb (kC ns 8) ∧ Below W0.heap.size W0 wx)
            case first =>
              by_cases hc : kOf ns 3 % 4 = 0
              · have t1 : ((kOf ns 3 : Int) % 4 == 0) = true := by simp; omega
                obtain ⟨t, vb, hPs⟩ := HP1.out
                obtain ⟨X, hXs⟩ := mkLb_one ns
                rw [← HLL.out] at hXs
                obtain ⟨g, n2, sc, hu, tln0⟩ := row_some HM.out.row (List.getElem?_eq_some_iff.1 hPs).1
                subst hu
                have tln : (1 : Int) < (n2 : Int) := by omega
                have HPs : Hid (∃ t, P[1]? = some (t, .slice (some ⟨vb, 0, none⟩) 1 1)) := Lib.hid ⟨t, hPs⟩
                have HLs := Lib.hid hXs
                have HGg : Hid (W0.heap.size ≤ g) := Lib.hid (by
                  obtain ⟨h1, _⟩ := List.getElem?_eq_some_iff.1 hPs
                  obtain ⟨h2, _⟩ := List.getElem?_eq_some_iff.1 hXs
                  exact (rowP_set (j := 1) (A' := []) (u := .slice none 0 0) h2 h1 HM.out.row HM.out.says ⟨_, _, rfl, by unfold maxLen; simp, fun j hj => absurd hj (by simp)⟩).2.2.2.2.2.1)
                have HZ := Lib.hid HM.out.j
                have HJ : Hid (W0.heap.size ≤ w1.heap.size) := Lib.hid HBw.out.size
                have hk4 := kOf_lt ns 4
                obtain ⟨q49, hq49⟩ : ∃ q, q = kOf ns 4 % 9 := ⟨_, rfl⟩
                have hm49 : (kOf ns 4 : Int).tmod 9 = (q49 : Int) := by rw [Int.tmod_eq_emod_of_nonneg (by omega)]; omega
                have hq9 : q49 < 9 := by omega
                clear hPs hXs
                go_upto_region 14 with (fail)
                refine region_J (by kernel_rfl) W0.heap.size 7 8 (fun _ _ => FK W0.heap.size [.is (.pointer (some ⟨ge, 1, none⟩)), .is (.slice (some ⟨g, 0, none⟩) n2 sc), .is (.pointer (some ⟨ge, 1, none⟩)), .is (.slice (some ⟨g, 0, none⟩) n2 sc), .is (.pointer (some ⟨g, 2, none⟩)), .is (.pointer (some ⟨g, 3, none⟩)), .is (.slice (some ⟨vb, 0, none⟩) 1 1), .val #[.string ⟨#[112, 111, 115, 105, 120]⟩] (fun b => .slice (some ⟨b, 0, none⟩) 1 1), .txt ([X] ++ [(⟨#[112, 111, 115, 105, 120]⟩ : ByteArray).data.toList]), .is (.pointer (some ⟨g, 2, none⟩)), .is (.pointer (some ⟨g, 3, none⟩))] false) (fun _ _ => MkJ W0.heap.size ge kb D3 (.slice (some ⟨g, 0, none⟩) n2 sc) P L (kC ns 8) false) (fun _ _ _ _ _ h hb => MkJ.go h hb) HZ.out (fun _ _ _ _ _ _ _ h hb => FK.go h hb) HJ.out (by kernel_rfl) (by kernel_rfl) (by decide) (by rfl) ?hs14 ?hx14 ?hy14 ?hl14
                case hs14 =>
                  intro listed a W p q hsz hj hk i o ho hi hi1 hi2 hc
                  have e6 := hk.read (t := 6) (by kernel_rfl) rfl
                  match i, hi, hi1, hi2 with
                  | 0, _, _, _ =>
                    obtain rfl := Option.some.inj ho
                    exact wpOp_val rfl rfl (v := .pointer (some ⟨ge, 1, none⟩)) (w' := W) (by simp [go_sem, e6]) ⟨_, _, rfl, rfl, Below.refl _ _, rfl⟩
                  | 1, _, _, _ =>
                    obtain rfl := Option.some.inj ho
                    obtain ⟨v0, g0, f0⟩ := hk.got (j := 0) rfl rfl (hc ⟨0, .data⟩ (by simp) rfl)
                    obtain rfl : v0 = _ := f0
                    have d0 := hj.1.cells.2
                    exact wpOp_val rfl rfl (v := .slice (some ⟨g, 0, none⟩) n2 sc) (w' := W) (by simp [go_sem, g0, d0]) ⟨_, _, rfl, rfl, Below.refl _ _, rfl⟩
                  | 2, _, _, _ =>
                    obtain rfl := Option.some.inj ho
                    exact wpOp_val rfl rfl (v := .pointer (some ⟨ge, 1, none⟩)) (w' := W) (by simp [go_sem, e6]) ⟨_, _, rfl, rfl, Below.refl _ _, rfl⟩
                  | 3, _, _, _ =>
                    obtain rfl := Option.some.inj ho
                    obtain ⟨v2, g2, f2⟩ := hk.got (j := 2) rfl rfl (hc ⟨2, .data⟩ (by simp) rfl)
                    obtain rfl : v2 = _ := f2
                    have d0 := hj.1.cells.2
                    exact wpOp_val rfl rfl (v := .slice (some ⟨g, 0, none⟩) n2 sc) (w' := W) (by simp [go_sem, g2, d0]) ⟨_, _, rfl, rfl, Below.refl _ _, rfl⟩
                  | 4, _, _, _ =>
                    obtain rfl := Option.some.inj ho
                    obtain ⟨v3, g3, f3⟩ := hk.got (j := 3) rfl rfl (hc ⟨3, .data⟩ (by simp) rfl)
                    obtain rfl : v3 = _ := f3
                    exact wpOp_val rfl rfl (v := .pointer (some ⟨g, 2, none⟩)) (w' := W) (by simp [go_sem, g3, tln]) ⟨_, _, rfl, rfl, Below.refl _ _, rfl⟩
                  | 5, _, _, _ =>
                    obtain rfl := Option.some.inj ho
                    obtain ⟨v4, g4, f4⟩ := hk.got (j := 4) rfl rfl (hc ⟨4, .data⟩ (by simp) rfl)
                    obtain rfl : v4 = _ := f4
                    exact wpOp_val rfl rfl (v := .pointer (some ⟨g, 3, none⟩)) (w' := W) (by simp [go_sem, g4]) ⟨_, _, rfl, rfl, Below.refl _ _, rfl⟩
                  | 6, _, _, _ =>
                    obtain rfl := Option.some.inj ho
                    obtain ⟨v5, g5, f5⟩ := hk.got (j := 5) rfl rfl (hc ⟨5, .data⟩ (by simp) rfl)
                    obtain rfl : v5 = _ := f5
                    have c3 := (row_second (hj.2.2 rfl).1 (hj.2.2 rfl).2 HPs.out HLs.out).1
                    exact wpOp_val rfl rfl (v := .slice (some ⟨vb, 0, none⟩) 1 1) (w' := W) (by simp [go_sem, g5, c3]) ⟨_, _, rfl, rfl, Below.refl _ _, rfl⟩
                  | 9, _, _, _ =>
                    obtain rfl := Option.some.inj ho
                    obtain ⟨v1, g1, f1⟩ := hk.got (j := 1) rfl rfl (hc ⟨1, .data⟩ (by simp) rfl)
                    obtain rfl : v1 = _ := f1
                    exact wpOp_val rfl rfl (v := .pointer (some ⟨g, 2, none⟩)) (w' := W) (by simp [go_sem, g1, tln]) ⟨_, _, rfl, rfl, Below.refl _ _, rfl⟩
                  | 10, _, _, _ =>
                    obtain rfl := Option.some.inj ho
                    obtain ⟨v9, g9, f9⟩ := hk.got (j := 9) rfl rfl (hc ⟨9, .data⟩ (by simp) rfl)
                    obtain rfl : v9 = _ := f9
                    exact wpOp_val rfl rfl (v := .pointer (some ⟨g, 3, none⟩)) (w' := W) (by simp [go_sem, g9]) ⟨_, _, rfl, rfl, Below.refl _ _, rfl⟩
                  | 7, _, h, _ => exact absurd rfl h
                  | 8, _, _, h => exact absurd rfl h
                  | m + 11, hm, _, _ => exact absurd hm (by simp)
                case hx14 =>
                  intro listed a W hsz hj hk o ho hc
                  obtain rfl := Option.some.inj ho
                  exact wpOp_val rfl rfl (v := .slice (some ⟨W.heap.size, 0, none⟩) 1 1) (w' := W.alloc (.cells #[.string ⟨#[112, 111, 115, 105, 120]⟩] 9)) (by simp [go_sem]) ⟨_, _, rfl, rfl, ((Below.refl _ _).alloc (Nat.le_refl _) _).mono hsz, ⟨_, rfl, heap_alloc_new W _⟩, MkJ.go hj ((Below.refl _ _).alloc (Nat.le_refl _) _), fun j u hj2 h => FK.go h ((Below.refl _ _).alloc (Nat.le_refl _) _)⟩
                case hy14 =>
                  intro listed a W hsz hj hk o ho hc
                  obtain rfl := Option.some.inj ho
                  obtain ⟨v6, g6, f6⟩ := hk.got (j := 6) rfl rfl (hc ⟨6, .data⟩ (by simp) rfl)
                  obtain rfl : v6 = _ := f6
                  obtain ⟨v7, g7, f7⟩ := hk.got (j := 7) rfl rfl (hc ⟨7, .data⟩ (by simp) rfl)
                  obtain ⟨c, rfl, hcc⟩ := f7
                  have ht := (row_second (hj.2.2 rfl).1 (hj.2.2 rfl).2 HPs.out HLs.out).2.2
                  obtain ⟨v', w', hrun, hbel, hto⟩ := run_grow_one ht hcc 28
                  exact wpOp_val rfl rfl (exec_append rfl (by simp [go_sem, g6]) (by simp [go_sem, g7]) hrun) ⟨_, _, rfl, rfl, hbel.mono hsz, hto, MkJ.go hj hbel, fun j u hj2 h => FK.go h hbel⟩
                case hl14 =>
                  intro listed a W hsz hj hk hall
                  obtain ⟨vr, gr, fr⟩ := hk.got (j := 8) rfl rfl (hall 8 (by simp))
                  obtain ⟨vp, gp, fp⟩ := hk.got (j := 10) rfl rfl (hall 10 (by simp))
                  obtain rfl : vp = _ := fp
                  obtain ⟨c3, f3, _⟩ := row_second (hj.2.2 rfl).1 (hj.2.2 rfl).2 HPs.out HLs.out
                  have hm0 : ∃ P2, MkAt W0.heap.size (W.setCell ⟨g, 3, none⟩ vr) ge D3 (.slice (some ⟨g, 0, none⟩) n2 sc) P2 (L.set 1 (objB, [X] ++ [(⟨#[112, 111, 115, 105, 120]⟩ : ByteArray).data.toList])) kb (kC ns 8) := by
                    obtain ⟨t, hPt⟩ := HPs.out
                    obtain ⟨hP1, _⟩ := List.getElem?_eq_some_iff.1 hPt
                    obtain ⟨hL1, eL1⟩ := List.getElem?_eq_some_iff.1 HLs.out
                    have := mkAt_set (j := 1) hL1 hP1 (⟨hj.1, (hj.2.2 rfl).1, (hj.2.2 rfl).2, hj.2.1, HLo.out⟩ : MkAt W0.heap.size W ge D3 (.slice (some ⟨g, 0, none⟩) n2 sc) P L kb (kC ns 8)) fr
                    rw [eL1] at this
                    exact ⟨_, this⟩
                  obtain ⟨P2, hm0⟩ := hm0
                  obtain ⟨L2, hL2⟩ : ∃ L2, L2 = L.set 1 (objB, [X] ++ [(⟨#[112, 111, 115, 105, 120]⟩ : ByteArray).data.toList]) := ⟨_, rfl⟩
                  rw [← hL2] at hm0
                  have hvr : ∃ a9 c9, vr = .slice a9 2 c9 := by
                    obtain ⟨a9, c9, e9, _⟩ := (show IsTo (StrB W) W ([X] ++ [(⟨#[112, 111, 115, 105, 120]⟩ : ByteArray).data.toList]) vr from fr)
                    exact ⟨a9, c9, e9⟩
                  obtain ⟨a9, c9, rfl⟩ := hvr
                  have hB9 := (HBw.out.trans hk.grown).setCell (p := ⟨g, 3, none⟩) HGg.out (.slice a9 2 c9)
                  have hput := hk.puts
                  refine wpOp_skip rfl rfl (w' := W.setCell ⟨g, 3, none⟩ (.slice a9 2 c9)) (by simp [go_sem, gr, gp, c3, f3]) ?_
                  rw [hput]
                  simp only [putT]
                  generalize a.tmps[79]?.getD undef = x79
                  generalize a.tmps[80]?.getD undef = x80
                  generalize a.tmps[81]?.getD undef = x81
                  generalize a.tmps[82]?.getD undef = x82
                  generalize a.tmps[83]?.getD undef = x83
                  generalize a.tmps[84]?.getD undef = x84
                  generalize a.tmps[85]?.getD undef = x85
                  generalize a.tmps[86]?.getD undef = x86
                  generalize a.tmps[87]?.getD undef = x87
                  generalize a.tmps[88]?.getD undef = x88
                  generalize a.tmps[89]?.getD undef = x89
                  have HM2 := Lib.hid hm0
                  have HB9 := Lib.hid hB9
                  have HL2 := Lib.hid hL2
                  generalize W.setCell ⟨g, 3, none⟩ (.slice a9 2 c9) = w2 at HM2 HB9 ⊢
                  clear hall hput gr gp c3 f3 hk hj hm0 hB9 hL2 fr
                  go_simp
                  have HLc0 : Hid (mkLc ns = L2 ++ [([117, 105, 100], [[117] ++ Lib.itoa (q49 : Int)]), ([117, 105, 100, 78, 117, 109, 98, 101, 114], [Lib.itoa ((kOf ns 4 : Int) - 100)])]) := Lib.hid (by
                    have e1 : (mkLb ns).getD 1 ([], []) = (objB, [X]) := by rw [← HLL.out, List.getD_eq_getElem?_getD, HLs.out]; rfl
                    unfold mkLc
                    rw [if_pos hc, e1, HL2.out, ← HLL.out, hq49])
                  have HLl2 : Hid (L2.length ≤ 100) := Lib.hid (by rw [HL2.out, List.length_set]; exact HLl.out)
                  have d4 := kc_cell HM2.out.nums 4 (by omega)
                  clear HL2 HLs HPs HP1 HLL HLl HM HBw HZ HJ HGg
                  clear tln tln0
                  obtain ⟨u, P, L, HM, HLl, HLc0⟩ : ∃ u P L, Hid (MkAt W0.heap.size w2 ge D3 u P L kb (kC ns 8)) ∧ Hid (L.length ≤ 100) ∧ Hid (mkLc ns = L ++ [([117, 105, 100], [[117] ++ Lib.itoa (q49 : Int)]), ([117, 105, 100, 78, 117, 109, 98, 101, 114], [Lib.itoa ((kOf ns 4 : Int) - 100)])]) := ⟨_, _, _, HM2, HLl2, HLc0⟩
                  clear HM2 HLl2
                  have HBw := HB9
                  obtain ⟨TD, hTD⟩ : ∃ X, X = ofL (Lib.itoa (q49 : Int)) := ⟨_, rfl⟩
                  have hdg := fun W => digits_any (q49 : Int) (by omega) (by omega) W
                  rw [← hTD] at hdg
                  have HDg := Lib.hid hdg
                  have hTs : TD.size ≤ 3 := by rw [hTD, ← bytes_len, ofL_list]; exact itoa_short ⟨q49, by omega⟩
                  obtain ⟨TE, hTE⟩ : ∃ X, X = ofL (Lib.itoa ((kOf ns 4 : Int) - 100)) := ⟨_, rfl⟩
                  have hde := fun W => digits_any ((kOf ns 4 : Int) - 100) (by omega) (by omega) W
                  rw [← hTE] at hde
                  have HDe := Lib.hid hde
                  obtain ⟨TA, hTA⟩ : ∃ P, (⟨#[117]⟩ : ByteArray) ++ TD = P := ⟨_, rfl⟩
                  have hTl : TA.data.toList = [117] ++ Lib.itoa (q49 : Int) := by rw [← hTA, app_list, hTD, ofL_list]
                  have hTel : TE.data.toList = Lib.itoa ((kOf ns 4 : Int) - 100) := by rw [hTE, ofL_list]
                  have qTA : 1 + TD.size ≤ 9223372036854775807 := by omega
                  have HLc : Hid (mkLc ns = L ++ [([117, 105, 100], [TA.data.toList]), ([117, 105, 100, 78, 117, 109, 98, 101, 114], [TE.data.toList])]) := Lib.hid (by rw [HLc0.out, hTl, hTel])
                  have hw100 : IntKind.i64.wrap ((kOf ns 4 : Int) - 100) = (kOf ns 4 : Int) - 100 := by rw [IntKind.wrap_i64]; omega
                  have HZ := Lib.hid HM.out.j
                  have HJ : Hid (W0.heap.size ≤ w2.heap.size) := Lib.hid HBw.out.size
                  clear hTD hdg hTs hTE hde hTl hTel HLc0 hq49 hc t1
                  go_upto_region 15 with (fail)
                  refine region_J (by kernel_rfl) W0.heap.size 17 18 (fun _ q => FK W0.heap.size [.is (.pointer (some ⟨ge, 1, none⟩)), .is (u), .is (.slice (some ⟨kb, 0, none⟩) 8 8), .is (.pointer (some ⟨kb, 4, none⟩)), .is (.int .i64 (kOf ns 4 : Int)), .is (.int .i64 (q49 : Int)), .is (.string TD), .is (.string TA), .val #[.string TA] (fun b => .slice (some ⟨b, 0, none⟩) 1 1), .val #[.string TA] (fun b => .agg #[.string ⟨#[117, 105, 100]⟩, .slice (some ⟨b, 0, none⟩) 1 1]), .is (.slice (some ⟨kb, 0, none⟩) 8 8), .is (.pointer (some ⟨kb, 4, none⟩)), .is (.int .i64 (kOf ns 4 : Int)), .is (.int .i64 ((kOf ns 4 : Int) - 100)), .is (.string TE), .val #[.string TE] (fun b => .slice (some ⟨b, 0, none⟩) 1 1), .val #[.string TE] (fun b => .agg #[.string ⟨#[117, 105, 100, 78, 117, 109, 98, 101, 114]⟩, .slice (some ⟨b, 0, none⟩) 1 1]), .att [([117, 105, 100], [TA.data.toList]), ([117, 105, 100, 78, 117, 109, 98, 101, 114], [TE.data.toList])], .row P (L ++ [([117, 105, 100], [TA.data.toList]), ([117, 105, 100, 78, 117, 109, 98, 101, 114], [TE.data.toList])]), .is (.pointer (some ⟨ge, 1, none⟩))] q) (fun _ q => MkJ W0.heap.size ge kb D3 u P L (kC ns 8) q) (fun _ _ _ _ _ h hb => MkJ.go h hb) HZ.out (fun _ _ _ _ _ _ _ h hb => FK.go h hb) HJ.out (by kernel_rfl) (by kernel_rfl) (by decide) (by rfl) ?hs15 ?hx15 ?hy15 ?hl15
                  case hs15 =>
                    intro listed a W p q hsz hj hk i o ho hi hi1 hi2 hc
                    have e3 := hk.read (t := 3) (by kernel_rfl) rfl
                    have e6 := hk.read (t := 6) (by kernel_rfl) rfl
                    have dk := fun x (hx : x < 8) => kc_cell (ns := ns) hj.2.1 x hx
                    match i, hi, hi1, hi2 with
                    | 0, _, _, _ =>
                      obtain rfl := Option.some.inj ho
                      exact wpOp_val rfl rfl (v := .pointer (some ⟨ge, 1, none⟩)) (w' := W) (by simp [go_sem, e6]) ⟨_, _, rfl, rfl, Below.refl _ _, rfl⟩
                    | 1, _, _, _ =>
                      obtain rfl := Option.some.inj ho
                      obtain ⟨v0, g0, f0⟩ := hk.got (j := 0) rfl rfl (hc ⟨0, .data⟩ (by simp) rfl)
                      obtain rfl : v0 = _ := f0
                      have d0 := hj.1.cells.2
                      exact wpOp_val rfl rfl (v := u) (w' := W) (by simp [go_sem, g0, d0]) ⟨_, _, rfl, rfl, Below.refl _ _, rfl⟩
                    | 2, _, _, _ =>
                      obtain rfl := Option.some.inj ho
                      exact wpOp_val rfl rfl (v := .slice (some ⟨kb, 0, none⟩) 8 8) (w' := W) (by simp [go_sem, e3]) ⟨_, _, rfl, rfl, Below.refl _ _, rfl⟩
                    | 3, _, _, _ =>
                      obtain rfl := Option.some.inj ho
                      obtain ⟨v2, g2, f2⟩ := hk.got (j := 2) rfl rfl (hc ⟨2, .data⟩ (by simp) rfl)
                      obtain rfl : v2 = _ := f2
                      exact wpOp_val rfl rfl (v := .pointer (some ⟨kb, 4, none⟩)) (w' := W) (by simp [go_sem, g2]) ⟨_, _, rfl, rfl, Below.refl _ _, rfl⟩
                    | 4, _, _, _ =>
                      obtain rfl := Option.some.inj ho
                      obtain ⟨v3, g3, f3⟩ := hk.got (j := 3) rfl rfl (hc ⟨3, .data⟩ (by simp) rfl)
                      obtain rfl : v3 = _ := f3
                      have d2 := dk 4 (by omega)
                      exact wpOp_val rfl rfl (v := .int .i64 (kOf ns 4 : Int)) (w' := W) (by simp [go_sem, g3, d2]) ⟨_, _, rfl, rfl, Below.refl _ _, rfl⟩
                    | 5, _, _, _ =>
                      obtain rfl := Option.some.inj ho
                      obtain ⟨v4, g4, f4⟩ := hk.got (j := 4) rfl rfl (hc ⟨4, .data⟩ (by simp) rfl)
                      obtain rfl : v4 = _ := f4
                      exact wpOp_val rfl rfl (v := .int .i64 (q49 : Int)) (w' := W) (by simp [go_sem, g4, hm49]) ⟨_, _, rfl, rfl, Below.refl _ _, rfl⟩
                    | 6, _, _, _ =>
                      obtain rfl := Option.some.inj ho
                      obtain ⟨v5, g5, f5⟩ := hk.got (j := 5) rfl rfl (hc ⟨5, .data⟩ (by simp) rfl)
                      obtain rfl : v5 = _ := f5
                      refine wpOp_call rfl rfl (f := 16) (args := #[.int .i64 (q49 : Int)]) (by simp [go_sem, g5]) ((HDg.out W).mono ?_)
                      rintro e w2 ⟨rfl, hb2⟩
                      exact ⟨_, rfl, _, _, rfl, rfl, hb2, rfl⟩
                    | 7, _, _, _ =>
                      obtain rfl := Option.some.inj ho
                      obtain ⟨v6, g6, f6⟩ := hk.got (j := 6) rfl rfl (hc ⟨6, .data⟩ (by simp) rfl)
                      obtain rfl : v6 = _ := f6
                      exact wpOp_val rfl rfl (v := .string TA) (w' := W) (by simp [go_sem, g6, hTA, qTA]) ⟨_, _, rfl, rfl, Below.refl _ _, rfl⟩
                    | 8, _, _, _ =>
                      obtain rfl := Option.some.inj ho
                      obtain ⟨v7, g7, f7⟩ := hk.got (j := 7) rfl rfl (hc ⟨7, .data⟩ (by simp) rfl)
                      obtain rfl : v7 = _ := f7
                      exact wpOp_val rfl rfl (v := .slice (some ⟨W.heap.size, 0, none⟩) 1 1) (w' := W.alloc (.cells #[.string TA] 9)) (by simp [go_sem, g7]) ⟨_, _, rfl, rfl, ((Below.refl _ _).alloc (Nat.le_refl _) _), ⟨_, rfl, heap_alloc_new W _⟩⟩
                    | 9, _, _, _ =>
                      obtain rfl := Option.some.inj ho
                      obtain ⟨v8, g8, f8⟩ := hk.got (j := 8) rfl rfl (hc ⟨8, .data⟩ (by simp) rfl)
                      obtain ⟨b, rfl, hb⟩ := f8
                      exact wpOp_val rfl rfl (v := .agg #[.string ⟨#[117, 105, 100]⟩, .slice (some ⟨b, 0, none⟩) 1 1]) (w' := W) (by simp [go_sem, g8]) ⟨_, _, rfl, rfl, Below.refl _ _, ⟨_, rfl, hb⟩⟩
                    | 10, _, _, _ =>
                      obtain rfl := Option.some.inj ho
                      exact wpOp_val rfl rfl (v := .slice (some ⟨kb, 0, none⟩) 8 8) (w' := W) (by simp [go_sem, e3]) ⟨_, _, rfl, rfl, Below.refl _ _, rfl⟩
                    | 11, _, _, _ =>
                      obtain rfl := Option.some.inj ho
                      obtain ⟨v10, g10, f10⟩ := hk.got (j := 10) rfl rfl (hc ⟨10, .data⟩ (by simp) rfl)
                      obtain rfl : v10 = _ := f10
                      exact wpOp_val rfl rfl (v := .pointer (some ⟨kb, 4, none⟩)) (w' := W) (by simp [go_sem, g10]) ⟨_, _, rfl, rfl, Below.refl _ _, rfl⟩
                    | 12, _, _, _ =>
                      obtain rfl := Option.some.inj ho
                      obtain ⟨v11, g11, f11⟩ := hk.got (j := 11) rfl rfl (hc ⟨11, .data⟩ (by simp) rfl)
                      obtain rfl : v11 = _ := f11
                      have d2 := dk 4 (by omega)
                      exact wpOp_val rfl rfl (v := .int .i64 (kOf ns 4 : Int)) (w' := W) (by simp [go_sem, g11, d2]) ⟨_, _, rfl, rfl, Below.refl _ _, rfl⟩
                    | 13, _, _, _ =>
                      obtain rfl := Option.some.inj ho
                      obtain ⟨v12, g12, f12⟩ := hk.got (j := 12) rfl rfl (hc ⟨12, .data⟩ (by simp) rfl)
                      obtain rfl : v12 = _ := f12
                      exact wpOp_val rfl rfl (v := .int .i64 ((kOf ns 4 : Int) - 100)) (w' := W) (by simp [go_sem, g12, hw100]) ⟨_, _, rfl, rfl, Below.refl _ _, rfl⟩
                    | 14, _, _, _ =>
                      obtain rfl := Option.some.inj ho
                      obtain ⟨v13, g13, f13⟩ := hk.got (j := 13) rfl rfl (hc ⟨13, .data⟩ (by simp) rfl)
                      obtain rfl : v13 = _ := f13
                      refine wpOp_call rfl rfl (f := 16) (args := #[.int .i64 ((kOf ns 4 : Int) - 100)]) (by simp [go_sem, g13]) ((HDe.out W).mono ?_)
                      rintro e w2 ⟨rfl, hb2⟩
                      exact ⟨_, rfl, _, _, rfl, rfl, hb2, rfl⟩
                    | 15, _, _, _ =>
                      obtain rfl := Option.some.inj ho
                      obtain ⟨v14, g14, f14⟩ := hk.got (j := 14) rfl rfl (hc ⟨14, .data⟩ (by simp) rfl)
                      obtain rfl : v14 = _ := f14
                      exact wpOp_val rfl rfl (v := .slice (some ⟨W.heap.size, 0, none⟩) 1 1) (w' := W.alloc (.cells #[.string TE] 9)) (by simp [go_sem, g14]) ⟨_, _, rfl, rfl, ((Below.refl _ _).alloc (Nat.le_refl _) _), ⟨_, rfl, heap_alloc_new W _⟩⟩
                    | 16, _, _, _ =>
                      obtain rfl := Option.some.inj ho
                      obtain ⟨v15, g15, f15⟩ := hk.got (j := 15) rfl rfl (hc ⟨15, .data⟩ (by simp) rfl)
                      obtain ⟨b, rfl, hb⟩ := f15
                      exact wpOp_val rfl rfl (v := .agg #[.string ⟨#[117, 105, 100, 78, 117, 109, 98, 101, 114]⟩, .slice (some ⟨b, 0, none⟩) 1 1]) (w' := W) (by simp [go_sem, g15]) ⟨_, _, rfl, rfl, Below.refl _ _, ⟨_, rfl, hb⟩⟩
                    | 19, _, _, _ =>
                      obtain rfl := Option.some.inj ho
                      exact wpOp_val rfl rfl (v := .pointer (some ⟨ge, 1, none⟩)) (w' := W) (by simp [go_sem, e6]) ⟨_, _, rfl, rfl, Below.refl _ _, rfl⟩
                    | 17, _, h, _ => exact absurd rfl h
                    | 18, _, _, h => exact absurd rfl h
                    | m + 20, hm, _, _ => exact absurd hm (by simp)
                  case hx15 =>
                    intro listed a W hsz hj hk o ho hc
                    obtain rfl := Option.some.inj ho
                    obtain ⟨v9, g9, f9⟩ := hk.got (j := 9) rfl rfl (hc ⟨9, .data⟩ (by simp) rfl)
                    obtain ⟨b, rfl, hb⟩ := f9
                    obtain ⟨v16, g16, f16⟩ := hk.got (j := 16) rfl rfl (hc ⟨16, .data⟩ (by simp) rfl)
                    obtain ⟨b2, rfl, hb2⟩ := f16
                    have hbl := (Array.getElem?_eq_some_iff.1 hb).1
                    have hbl2 := (Array.getElem?_eq_some_iff.1 hb2).1
                    exact wpOp_val rfl rfl (v := .slice (some ⟨W.heap.size, 0, none⟩) 2 2) (w' := W.alloc (.cells #[.string ⟨#[117, 105, 100]⟩, .slice (some ⟨b, 0, none⟩) 1 1, .string ⟨#[117, 105, 100, 78, 117, 109, 98, 101, 114]⟩, .slice (some ⟨b2, 0, none⟩) 1 1] 42)) (by simp [go_sem, g9, g16]) ⟨_, _, rfl, rfl, ((Below.refl _ _).alloc (Nat.le_refl _) _).mono hsz, .inr ⟨W.heap.size, [(_, .slice (some ⟨b, 0, none⟩) 1 1), (_, .slice (some ⟨b2, 0, none⟩) 1 1)], rfl, heap_alloc_new W _, saysM_app (saysM_one (X := ⟨#[117, 105, 100]⟩) ((heap_alloc_old W _ hbl).trans hb)) (saysM_one (X := ⟨#[117, 105, 100, 78, 117, 109, 98, 101, 114]⟩) ((heap_alloc_old W _ hbl2).trans hb2))⟩, MkJ.go hj ((Below.refl _ _).alloc (Nat.le_refl _) _), fun j u hj2 h => FK.go h ((Below.refl _ _).alloc (Nat.le_refl _) _)⟩
                  case hy15 =>
                    intro listed a W hsz hj hk o ho hc
                    obtain rfl := Option.some.inj ho
                    obtain ⟨v1, g1, f1⟩ := hk.got (j := 1) rfl rfl (hc ⟨1, .data⟩ (by simp) rfl)
                    obtain rfl : v1 = _ := f1
                    obtain ⟨v17, g17, f17⟩ := hk.got (j := 17) rfl rfl (hc ⟨17, .data⟩ (by simp) rfl)
                    obtain ⟨c, PM, rfl, hcc, hps⟩ := f17.resolve_left (by simp)
                    obtain ⟨hr, hsay⟩ := hj.2.2 rfl
                    obtain ⟨v', w', hrun, hr', hs', hbel, hk1, hk2⟩ := run_append_P hr hsay hsz hps ⟨c, 0, none⟩ 2 (fun j u hu => by rw [addr0]; exact list_cells hcc j u hu) (by have := HLl.out; simp; omega) 24
                    exact wpOp_val rfl rfl (exec_append rfl (by simp [go_sem, g1]) (by simp [go_sem, g17]) hrun) ⟨_, _, rfl, rfl, hbel, ⟨rfl, PM, hr', hs'⟩, MkJ.loud hj hk2, fun j u hj2 h => FK.loud h hk1 hk2⟩
                  case hl15 =>
                    intro listed a W hsz hj hk hall
                    obtain ⟨vr, gr, fr⟩ := hk.got (j := 18) rfl rfl (hall 18 (by simp))
                    obtain ⟨vp, gp, fp⟩ := hk.got (j := 19) rfl rfl (hall 19 (by simp))
                    obtain rfl : vp = _ := fp
                    obtain ⟨_, PM, hr, hs⟩ := fr
                    obtain ⟨sa, sc, hv⟩ := rowP_slice hr
                    obtain ⟨ln, hln⟩ : ∃ k, k = (P ++ PM).length := ⟨_, rfl⟩
                    rw [← hln] at hv
                    subst hv
                    have HLn := Lib.hid hln
                    clear hln
                    obtain ⟨hm, c1, c2⟩ := mkAt_store hj hr hs HLo.out
                    have hput := hk.puts
                    refine wpOp_skip rfl rfl (w' := W.setCell ⟨ge, 1, none⟩ (.slice sa ln sc)) (by simp [go_sem, gr, gp, c1, c2]) ?_
                    rw [hput]
                    simp only [putT]
                    generalize a.tmps[90]?.getD undef = x90
                    generalize a.tmps[91]?.getD undef = x91
                    generalize a.tmps[92]?.getD undef = x92
                    generalize a.tmps[93]?.getD undef = x93
                    generalize a.tmps[94]?.getD undef = x94
                    generalize a.tmps[95]?.getD undef = x95
                    generalize a.tmps[96]?.getD undef = x96
                    generalize a.tmps[97]?.getD undef = x97
                    generalize a.tmps[98]?.getD undef = x98
                    generalize a.tmps[99]?.getD undef = x99
                    generalize a.tmps[100]?.getD undef = x100
                    generalize a.tmps[101]?.getD undef = x101
                    generalize a.tmps[102]?.getD undef = x102
                    generalize a.tmps[103]?.getD undef = x103
                    generalize a.tmps[104]?.getD undef = x104
                    generalize a.tmps[105]?.getD undef = x105
                    generalize a.tmps[106]?.getD undef = x106
                    generalize a.tmps[107]?.getD undef = x107
                    generalize a.tmps[108]?.getD undef = x108
                    generalize a.tmps[109]?.getD undef = x109
                    have HM := Lib.hid hm
                    have HG := Lib.hid ((HBw.out.trans hk.grown).setCell (p := ⟨ge, 1, none⟩) HLo.out (.slice sa ln sc))
                    clear hall hput gr gp hr hs c1 c2 hk hj hm
                    go_simp
                    go_wp2
                    go_meet
                    exact ⟨_, _, by rw [HLc.out]; exact HM.out, HG.out⟩
              · have t1 : ((kOf ns 3 : Int) % 4 == 0) = false := by simp; omega
                have HLb : Hid (mkLc ns = L) := Lib.hid (by unfold mkLc; rw [if_neg hc, HLL.out])
                clear hc
                go_wp2
                go_meet
                exact ⟨_, _, by rw [HLb.out]; exact HM.out, HBw.out⟩
            case rest =>
              obtain ⟨u, P, hM1, hB1⟩ := hcut
              rename World => w4
              clear HM HBw HP1 HLl HLL d3
              have d3 := kc_cell hM1.nums 3 (by omega)
              obtain ⟨L, hL⟩ : ∃ L, L = mkLc ns := ⟨_, rfl⟩
              rw [← hL] at hM1
              have HLl : Hid (L.length ≤ 100) := Lib.hid (by rw [hL]; unfold mkLc mkLb mkLa; split <;> split <;> split <;> simp [perL])
              have HLL := Lib.hid hL
              obtain ⟨ua, uc, hu⟩ := rowP_slice hM1.row
              obtain ⟨un, hun⟩ : ∃ k, k = P.length := ⟨_, rfl⟩
              rw [← hun] at hu
              subst hu
              have HM := Lib.hid hM1
              have HBw := Lib.hid hB1
              clear hL hM1 hB1 hun
              go_upto_if 114 with (fail)
              go_cut [114] from 110 to 121 (fun s114 wx => ∃ u P, MkAt W0.heap.size wx ge D3 u P (mkLd ns) kb (kC ns 8) ∧ Below W0.heap.size W0 wx)
              case first =>
                by_cases hc : kOf ns 3 % 4 = 1
                · have t1 : ((kOf ns 3 : Int) % 4 == 1) = true := by simp; omega
                  have HLd : Hid (mkLd ns = L ++ [([117, 115, 101, 114, 80, 97, 115, 115, 119, 111, 114, 100], [[115, 101, 99, 114, 101, 116]])]) := Lib.hid (by unfold mkLd; rw [if_pos hc, HLL.out])
                  obtain ⟨x0, x1⟩ := HM.out.box.cells
                  have hbl : Below w4.heap.size w4 ((w4.alloc (.cells #[.string ⟨#[115, 101, 99, 114, 101, 116]⟩] 9)).alloc (.cells #[.string ⟨#[117, 115, 101, 114, 80, 97, 115, 115, 119, 111, 114, 100]⟩, .slice (some ⟨w4.heap.size, 0, none⟩) 1 1] 42)) := ((Below.refl _ _).alloc (Nat.le_refl _) _).alloc (by simp) _
                  have hse : ((w4.alloc (.cells #[.string ⟨#[115, 101, 99, 114, 101, 116]⟩] 9)).alloc (.cells #[.string ⟨#[117, 115, 101, 114, 80, 97, 115, 115, 119, 111, 114, 100]⟩, .slice (some ⟨w4.heap.size, 0, none⟩) 1 1] 42)).heap[w4.heap.size]? = some (.cells #[.string ⟨#[115, 101, 99, 114, 101, 116]⟩] 9 (0, 0)) := (heap_alloc_old _ _ (by simp)).trans (heap_alloc_new w4 _)
                  have hat : ((w4.alloc (.cells #[.string ⟨#[115, 101, 99, 114, 101, 116]⟩] 9)).alloc (.cells #[.string ⟨#[117, 115, 101, 114, 80, 97, 115, 115, 119, 111, 114, 100]⟩, .slice (some ⟨w4.heap.size, 0, none⟩) 1 1] 42)).heap[w4.heap.size + 1]? = some (.cells #[.string ⟨#[117, 115, 101, 114, 80, 97, 115, 115, 119, 111, 114, 100]⟩, .slice (some ⟨w4.heap.size, 0, none⟩) 1 1] 42 (0, 0)) := by
                    have := heap_alloc_new (w4.alloc (.cells #[.string ⟨#[115, 101, 99, 114, 101, 116]⟩] 9)) (.cells #[.string ⟨#[117, 115, 101, 114, 80, 97, 115, 115, 119, 111, 114, 100]⟩, .slice (some ⟨w4.heap.size, 0, none⟩) 1 1] 42)
                    simpa using this
                  have hM2 := HM.out.go hbl
                  obtain ⟨v', w5, hrun, hr', hs', hbel, hk1, hk2⟩ := run_append_P hM2.row hM2.says (Nat.le_trans HBw.out.size hbl.size) (saysM_one (X := ⟨#[117, 115, 101, 114, 80, 97, 115, 115, 119, 111, 114, 100]⟩) hse) ⟨w4.heap.size + 1, 0, none⟩ 1 (cells_one hat) (by have := HLl.out; simp; omega) 24
                  obtain ⟨sa, sc, hv⟩ := rowP_slice hr'
                  obtain ⟨ln, hln⟩ : ∃ k, k = (P ++ [((⟨#[117, 115, 101, 114, 80, 97, 115, 115, 119, 111, 114, 100]⟩ : ByteArray).data.toList, Value.slice (some ⟨w4.heap.size, 0, none⟩) 1 1)]).length := ⟨_, rfl⟩
                  rw [← hln] at hv
                  subst hv
                  obtain ⟨hm, c1, c2⟩ := mkAt_store (MkJ.loud (MkJ.go HM.out.j hbl) hk2) hr' hs' HLo.out
                  have HM2 := Lib.hid hm
                  have HB2' := Lib.hid (((HBw.out.trans (hbl.mono HBw.out.size)).trans hbel).setCell (p := ⟨ge, 1, none⟩) HLo.out (.slice sa ln sc))
                  have HRun := Lib.hid hrun
                  clear hc hln hrun hr' hs' hbel hk1 hk2 hM2 hat hse hbl hm
                  go_wp2_with ((at_builtin; refine Lib.wpList_append_run _ rfl _ _ _ _ rfl _ _ rfl rfl _ _ (HRun.out) ?_))
                  go_meet
                  exact ⟨_, _, by rw [HLd.out]; exact HM2.out, HB2'.out⟩
                · have t1 : ((kOf ns 3 : Int) % 4 == 1) = false := by simp; omega
                  have HLd : Hid (mkLd ns = L) := Lib.hid (by unfold mkLd; rw [if_neg hc, HLL.out])
                  clear hc
                  go_wp2
                  go_meet
                  exact ⟨_, _, by rw [HLd.out]; exact HM.out, HBw.out⟩
              case rest =>
                obtain ⟨u, P, hM1, hB1⟩ := hcut
                rename World => w5
                clear HM HBw HLl HLL d3
                have d5 := kc_cell hM1.nums 5 (by omega)
                obtain ⟨L, hL⟩ : ∃ L, L = mkLd ns := ⟨_, rfl⟩
                rw [← hL] at hM1
                obtain ⟨ua, uc, hu⟩ := rowP_slice hM1.row
                obtain ⟨un, hun⟩ : ∃ k, k = P.length := ⟨_, rfl⟩
                rw [← hun] at hu
                subst hu
                have HLL := Lib.hid hL
                have HM := Lib.hid hM1
                have HBw := Lib.hid hB1
                obtain ⟨q5, hq5⟩ : ∃ q : Int, (kOf ns 5 : Int) % 5 = q := ⟨_, rfl⟩
                have HQ5 := Lib.hid hq5
                clear hL hM1 hB1 hun
                go_upto_block 2 with (fail)
                rw [hq5]
                clear hq5 d5
                go_cut [] from 126 to 136 (fun wx => ∃ D, D.data.toList = mkD ns ∧ MkAt W0.heap.size wx ge D (.slice ua un uc) P L kb (kC ns 8) ∧ Below W0.heap.size W0 wx)
                case first =>
                  have hN := HNs.out
                  by_cases h0 : kOf ns 5 % 5 = 0
                  · obtain rfl : q5 = 0 := by have := HQ5.out; omega
                    have q1 : 3 + NM.size ≤ 9223372036854775807 := by omega
                    have HD4 : Hid (((⟨#[99, 110, 61]⟩ : ByteArray) ++ NM).data.toList = mkD ns) := Lib.hid (by unfold mkD; rw [if_pos h0, app_list, HNl.out])
                    obtain ⟨hm, c1, c2⟩ := mkAt_name (D2 := (⟨#[99, 110, 61]⟩ : ByteArray) ++ NM) HM.out
                    have HM2 := Lib.hid hm
                    have HB2' := Lib.hid (HBw.out.setCell (p := ⟨ge, 0, none⟩) HLo.out (.string ((⟨#[99, 110, 61]⟩ : ByteArray) ++ NM)))
                    clear h0 hm hN HQ5
                    go_wp2
                    go_meet
                    exact ⟨_, HD4.out, HM2.out, HB2'.out⟩
                  · by_cases h1 : kOf ns 5 % 5 = 1
                    · obtain rfl : q5 = 1 := by have := HQ5.out; omega
                      have q1 : 3 + NM.size ≤ 9223372036854775807 := by omega
                      have q2 : 3 + NM.size + 9 ≤ 9223372036854775807 := by omega
                      have q3 : (9223372036854775807 < 3 + NM.size + 9) = False := by simp; omega
                      have HD4 : Hid (((⟨#[67, 78, 61]⟩ : ByteArray) ++ NM ++ (⟨#[44, 111, 117, 61, 97, 44, 111, 61, 120]⟩ : ByteArray)).data.toList = mkD ns) := Lib.hid (by unfold mkD; rw [if_neg h0, if_pos h1, app_list, app_list, HNl.out])
                      obtain ⟨hm, c1, c2⟩ := mkAt_name (D2 := (⟨#[67, 78, 61]⟩ : ByteArray) ++ NM ++ (⟨#[44, 111, 117, 61, 97, 44, 111, 61, 120]⟩ : ByteArray)) HM.out
                      have HM2 := Lib.hid hm
                      have HB2' := Lib.hid (HBw.out.setCell (p := ⟨ge, 0, none⟩) HLo.out (.string ((⟨#[67, 78, 61]⟩ : ByteArray) ++ NM ++ (⟨#[44, 111, 117, 61, 97, 44, 111, 61, 120]⟩ : ByteArray))))
                      clear h0 h1 hm hN HQ5
                      go_wp2
                      go_meet
                      exact ⟨_, HD4.out, HM2.out, HB2'.out⟩
                    · have t0 : (q5 == 0) = false := by simp; have := HQ5.out; omega
                      have t1 : (q5 == 1) = false := by simp; have := HQ5.out; omega
                      have HD4 : Hid (D3.data.toList = mkD ns) := Lib.hid (by unfold mkD; rw [if_neg h0, if_neg h1, HD.out, HNl.out])
                      clear h0 h1 hN HQ5
                      go_wp2
                      go_meet
                      exact ⟨_, HD4.out, HM.out, HBw.out⟩
                case rest =>
                  obtain ⟨D4, hD4, hM1, hB1⟩ := hcut
                  rename World => w6
                  obtain ⟨x0, x1⟩ := hM1.box.cells
                  have hc6 : w6.heap[w.heap.size]? = some (.cells #[.string ⟨#[]⟩, .slice none 0 0] 26 (0, 0)) := (hB1.block _ (by have := HZ0.out; omega)).trans HBx.out
                  obtain ⟨o0, o1, o2, o3⟩ := entry_new hc6 (.string D4)
                  have hbw : Below w.heap.size w w6 := HB0.out.trans (hB1.mono HB0.out.size)
                  have hmt := mAt_store (D := D4) hbw hc6 (Nat.le_refl _) (⟨P, World.ownsRow.mono hM1.row HB0.out.size, hM1.says⟩ : OwnM w.heap.size w6 (.slice ua un uc) L)
                  have HMt := Lib.hid hmt
                  have HD4 := Lib.hid hD4
                  obtain ⟨z0, z1⟩ := hmt.box.cells
                  clear hD4 hM1 hB1 hc6 hbw hmt HM HBw
                  go_wp2
                  refine bodyPost_ret (v := .agg #[.string D4, .slice ua un uc]) (by simp [results, Tryz.results7, go_sem, z0, z1]) rfl ⟨D4, _, rfl, HD4.out, ?_, HMt.out.below⟩
                  rw [← HLL.out]
                  exact HMt.out.own
end Go.Proofs.YtmilgbkkibahlaaGreatDoor


namespace Go.Proofs.YtmilgbkkibahlaaGreatDoor
open Go.RowKit
set_option linter.unusedVariables false
set_option linter.unusedSimpArgs false

theorem isC_go {w w' : World} {l : List UInt8} {a : Option Addr} {cap : Nat} (h : IsC w.heap.size w l a cap) (hb : Below w.heap.size w w') : IsC w'.heap.size w' l a cap := by
  obtain ⟨h1, h2, h3⟩ := h
  refine ⟨h1, h2, h3.imp id ?_⟩
  rintro ⟨b, off, ha, hb1, hc⟩
  exact ⟨b, off, ha, Nat.lt_of_lt_of_le hb1 hb.size, fun j hj => (hb.cell (p := ⟨b, off + j, none⟩) hb1).trans (hc j hj)⟩
theorem isB_go {w w' : World} {l : List UInt8} {a : Option Addr} {cap : Nat} (h : IsB w.heap.size w l a cap) (hb : Below w.heap.size w w') : IsB w'.heap.size w' l a cap := by
  obtain ⟨h1, h3⟩ := h.below hb
  refine ⟨h1, ?_⟩
  rcases h3 with h3 | ⟨b, off, ha, hb1, hc⟩
  · exact .inl h3
  · exact .inr ⟨b, off, ha, Nat.lt_of_lt_of_le hb1 hb.size, hc⟩
theorem mkLd_small (es : List UInt8) : smallA (mkLd es) := (mkLd_tiny es).1.small (by omega)

theorem madeE_any (es : List UInt8) (a0 : Option Addr) (cp : Nat) (w : World) (h : IsB w.heap.size w es a0 cp) :
    Calls Tryz.prog 7 #[.slice a0 es.length cp] w fun e w' => ∃ D g n c, e = .returned (.agg #[.string D, .slice (some ⟨g, 0, none⟩) n c]) ∧ D.size ≤ 30 ∧ IsA w'.heap.size w' (mkLd es) (.slice (some ⟨g, 0, none⟩) n c) ∧ Below w.heap.size w w' :=
  (make_any es a0 cp w h).mono fun e w' hh => by
    obtain ⟨D, u, rfl, hD, ho, hb⟩ := hh
    obtain ⟨g, c, rfl⟩ := ownM_form ho (mkLd_pos es)
    refine ⟨D, g, _, c, rfl, by rw [← bytes_len, hD]; exact mkD_len es, ?_, hb⟩
    have h2 := ownM_isA (w := w') ho (by have := (mkLd_tiny es).1.1; unfold maxLen; omega)
    exact h2
end Go.Proofs.YtmilgbkkibahlaaGreatDoor


namespace Go.Proofs.YtmilgbkkibahlaaGreatDoor
open Go.RowKit
set_option linter.unusedVariables false
set_option linter.unusedSimpArgs false

set_option maxRecDepth 100000 in
set_option maxHeartbeats 8000000 in
theorem evalNots_any (na nb es : List UInt8) (a0 b0 c0 : Option Addr) (ca cb cc : Nat) (S : ByteArray) (hSz : S.size ≤ maxLen) (w : World) (hw : LaidW w) (hx : LaidX w) (ha : IsC w.heap.size w na a0 ca) (hb : IsC w.heap.size w nb b0 cb) (he : IsB w.heap.size w es c0 cc) :
    Calls Tryz.prog 3 #[.slice a0 na.length ca, .slice b0 nb.length cb, .slice c0 es.length cc, .string S] w fun e w' => e = .returned (.bool true) ∧ Below w.heap.size w w' := by
  unfold maxLen at hSz
  have hal : na.length ≤ 9223372036854775807 := by have h1 := ha.1; have h2 := ha.2.1; unfold maxLen at h2; omega
  have hbl : nb.length ≤ 9223372036854775807 := by have h1 := hb.1; have h2 := hb.2.1; unfold maxLen at h2; omega
  have HAw := Lib.hid (fun (W : World) (hW : Below w.heap.size w W) => awake7_any W (hw.below hW) (hx.below hW))
  have HB0 := Lib.hid (Below.refl w.heap.size w)
  have hmf1 := fun (hl : na.length ≤ 12) (hS : S.size ≤ 1000) (W : World) (hW : Below w.heap.size w W) => makes_any S hS 12 na a0 ca W hl (isC_go ha hW)
  have hmf2 := fun (hl : nb.length ≤ 12) (hS : S.size ≤ 1000) (W : World) (hW : Below w.heap.size w W) => makes_any S hS 12 nb b0 cb W hl (isC_go hb hW)
  have hme := fun (W : World) (hW : Below w.heap.size w W) => madeE_any es c0 cc W (isB_go he hW)
  have hsm := mkLd_small es
  obtain ⟨fa, hfa⟩ : ∃ f, f = makeFu S.data.toList 12 na := ⟨_, rfl⟩
  obtain ⟨fb, hfb⟩ : ∃ f, f = makeFu S.data.toList 12 nb := ⟨_, rfl⟩
  obtain ⟨L, hL⟩ : ∃ L, L = mkLd es := ⟨_, rfl⟩
  have HKa := Lib.hid (makeFu_kind S.data.toList 12 na)
  have HKb := Lib.hid (makeFu_kind S.data.toList 12 nb)
  rw [← hfa] at hmf1 HKa
  rw [← hfb] at hmf2 HKb
  rw [← hL] at hme hsm
  have hev := fun (f : FT) (v : Value) (D : ByteArray) (g n c : Nat) (W : World) (hW : Below w.heap.size w W) (h : IsFl (Lt W) W f v) (hA : IsA W.heap.size W L (.slice (some ⟨g, 0, none⟩) n c)) => evalP_any f v L D _ n c W h hsm (hw.below hW) (hx.below hW) hA
  obtain ⟨k, hk⟩ : ∃ k, k = na.length := ⟨_, rfl⟩
  obtain ⟨j, hj⟩ : ∃ k, k = nb.length := ⟨_, rfl⟩
  obtain ⟨i, hi⟩ : ∃ k, k = es.length := ⟨_, rfl⟩
  rw [← hk] at hmf1 hal ⊢
  rw [← hj] at hmf2 hbl ⊢
  rw [← hi] at hme ⊢
  have HMf1 := Lib.hid hmf1
  have HMf2 := Lib.hid hmf2
  have HMe := Lib.hid hme
  have HEv := Lib.hid hev
  clear ha hb he hw hx hk hj hi hfa hfb hL hmf1 hmf2 hme hev hsm
  by_cases h1 : 8 < k
  · have t1 : decide ((8 : Int) < (k : Int)) = true := by simp; omega
    have t1' : decide (8 < k) = true := by simp; omega
    go_enter Tryz.func3, Tryz.ntmps3
    go_wp2_with (go_at_call 6; (with_reducible refine (HAw.out _ HB0.out).mono ?_); rintro e w4 ⟨rfl, hb4⟩; have HB4 := Lib.hid hb4; clear hb4)
    go_ret
    exact ⟨rfl, HB4.out⟩
  · have t1 : decide ((8 : Int) < (k : Int)) = false := by simp; omega
    have t1' : decide (8 < k) = false := by simp; omega
    by_cases h2 : 8 < j
    · have t2 : decide ((8 : Int) < (j : Int)) = true := by simp; omega
      have t2' : decide (8 < j) = true := by simp; omega
      go_enter Tryz.func3, Tryz.ntmps3
      go_wp2_with (go_at_call 6; (with_reducible refine (HAw.out _ HB0.out).mono ?_); rintro e w4 ⟨rfl, hb4⟩; have HB4 := Lib.hid hb4; clear hb4)
      go_ret
      exact ⟨rfl, HB4.out⟩
    · have t2 : decide ((8 : Int) < (j : Int)) = false := by simp; omega
      have t2' : decide (8 < j) = false := by simp; omega
      by_cases h3 : 20 < S.size
      · have t3 : decide ((20 : Int) < (S.size : Int)) = true := by simp; omega
        go_enter Tryz.func3, Tryz.ntmps3
        go_wp2_with (go_at_call 6; (with_reducible refine (HAw.out _ HB0.out).mono ?_); rintro e w4 ⟨rfl, hb4⟩; have HB4 := Lib.hid hb4; clear hb4)
        go_ret
        exact ⟨rfl, HB4.out⟩
      · have t3 : decide ((20 : Int) < (S.size : Int)) = false := by simp; omega
        have hmf1 := HMf1.out (by omega) (by omega)
        have hmf2 := HMf2.out (by omega) (by omega)
        have HMa := Lib.hid hmf1
        have HMb := Lib.hid hmf2
        clear hmf1 hmf2 HMf1 HMf2 h1 h2 h3
        go_enter Tryz.func3, Tryz.ntmps3
        go_upto_region 5 with (first
          | (go_at_call 7; (with_reducible refine (HMe.out _ HB0.out).mono ?_); rintro e w1 ⟨D, g, n, c, rfl, _, hA, hb⟩; have HA1 := Lib.hid hA; have HB1 := Lib.hid hb; clear hA hb)
          | (go_at_call 8; have hba := (Below.refl w1.heap.size w1).alloc (Nat.le_refl _) (.cells #[.string D, .slice (some ⟨g, 0, none⟩) n c] 26); (with_reducible refine (HMa.out _ (bthen HB1.out hba)).mono ?_); rintro e w2 ⟨va, rfl, hf, hb⟩; have HFa := Lib.hid (hf.imp (fun b h => h.2) (fun b o h => rfl) : IsFl (Lt w2) w2 fa va); have HB2 := Lib.hid (bthen hba hb); have HBx := Lib.hid hb; (obtain ⟨ka, Ta, Xa, pa1, pa2, pa3, qa1, qa2, qa3, rfl⟩ := hf.shape); clear hf hb hba)
          | (go_at_call 8; (with_reducible refine (HMb.out _ (bthen HB1.out HB2.out)).mono ?_); rintro e w3 ⟨vb, rfl, hf, hb⟩; have HFb := Lib.hid (hf.imp (fun b h => h.2) (fun b o h => rfl) : IsFl (Lt w3) w3 fb vb); have HB3 := Lib.hid hb; (obtain ⟨kb, Tb, Xb, pb1, pb2, pb3, qb1, qb2, qb3, rfl⟩ := hf.shape); clear hf hb))
        obtain ⟨W4, hW4⟩ : ∃ W, W = ((w3.alloc (.cells #[.int .i64 ka, .string Ta, .string Xa, .slice pa1 pa2 pa3, .slice qa1 qa2 qa3] 31)).alloc (.cells #[.int .i64 kb, .string Tb, .string Xb, .slice pb1 pb2 pb3, .slice qb1 qb2 qb3] 31)) := ⟨_, rfl⟩
        obtain ⟨p, hp⟩ : ∃ p, p = w3.heap.size := ⟨_, rfl⟩
        obtain ⟨pe, hpe⟩ : ∃ p, p = w1.heap.size := ⟨_, rfl⟩
        have hb34 : Below w3.heap.size w3 W4 := by rw [hW4]; exact ((Below.refl _ _).alloc (Nat.le_refl _) _).alloc (by simp) _
        have hs4 : W4.heap.size = p + 2 := by rw [hW4, hp]; simp
        have hbe : Below w1.heap.size w1 (w1.alloc (.cells #[.string D, .slice (some ⟨g, 0, none⟩) n c] 26)) := (Below.refl _ _).alloc (Nat.le_refl _) _
        have hw12 : Below (w1.alloc (.cells #[.string D, .slice (some ⟨g, 0, none⟩) n c] 26)).heap.size (w1.alloc (.cells #[.string D, .slice (some ⟨g, 0, none⟩) n c] 26)) W4 := bthen (bthen HBx.out HB3.out) hb34
        have hes : pe < (w1.alloc (.cells #[.string D, .slice (some ⟨g, 0, none⟩) n c] 26)).heap.size := by rw [hpe]; simp
        have hE0 : W4.cell? ⟨pe, 0, none⟩ = some (.string D) := (hw12.cell (p := ⟨pe, 0, none⟩) hes).trans (by rw [hpe]; go_simp)
        have hE1 : W4.cell? ⟨pe, 1, none⟩ = some (.slice (some ⟨g, 0, none⟩) n c) := (hw12.cell (p := ⟨pe, 1, none⟩) hes).trans (by rw [hpe]; go_simp)
        have hFA : FlB W4 p (.int .i64 ka) (.string Ta) (.string Xa) (.slice pa1 pa2 pa3) (.slice qa1 qa2 qa3) := by rw [hW4, hp]; exact ⟨by go_simp, by go_simp, by go_simp, by go_simp, by go_simp⟩
        have hFB : FlB W4 (p + 1) (.int .i64 kb) (.string Tb) (.string Xb) (.slice pb1 pb2 pb3) (.slice qb1 qb2 qb3) := by rw [hW4, hp]; exact ⟨by go_simp, by go_simp, by go_simp, by go_simp, by go_simp⟩
        have hpe4 : pe < W4.heap.size := Nat.lt_of_lt_of_le hes hw12.size
        have HFa4 := Lib.hid (HFa.out.below (bthen HB3.out hb34))
        have HFb4 := Lib.hid (HFb.out.below hb34)
        have HA4 := Lib.hid ((HA1.out.below hbe hbe.size).below hw12 hw12.size)
        have HB4 := Lib.hid (bthen (bthen HB1.out hbe) hw12)
        rw [← hW4, ← hp, ← hpe]
        have HFA := Lib.hid hFA
        have HFB := Lib.hid hFB
        have HE := Lib.hid (And.intro hE0 hE1)
        have HS4 := Lib.hid hs4
        obtain ⟨f0, f1, f2, f3, f4⟩ := hFA
        obtain ⟨h0, h1, h2, h3, h4⟩ := hFB
        clear hb34 hbe hw12 hes hE0 hE1 hpe hp hW4
        go_upto_region 6 with (fail)
        obtain ⟨W5, hW5⟩ : ∃ W, W = ((W4.alloc (.cells #[.int .i64 ka, .string Ta, .string Xa, .slice pa1 pa2 pa3, .slice qa1 qa2 qa3, .int .i64 kb, .string Tb, .string Xb, .slice pb1 pb2 pb3, .slice qb1 qb2 qb3] 31)).alloc (.cells #[.int .i64 1, .string ⟨#[]⟩, .string ⟨#[]⟩, .slice none 0 0, .slice (some ⟨p + 2, 0, none⟩) 2 2] 31)) := ⟨_, rfl⟩
        have hb45 : Below W4.heap.size W4 W5 := by rw [hW5]; exact ((Below.refl _ _).alloc (Nat.le_refl _) _).alloc (by simp) _
        have hs5 : W5.heap.size = p + 4 := by rw [hW5]; simp [HS4.out]
        have hten : W5.heap[p + 2]? = some (.cells #[.int .i64 ka, .string Ta, .string Xa, .slice pa1 pa2 pa3, .slice qa1 qa2 qa3, .int .i64 kb, .string Tb, .string Xb, .slice pb1 pb2 pb3, .slice qb1 qb2 qb3] 31 (0, 0)) := by
          have e1 := heap_alloc_new W4 (.cells #[.int .i64 ka, .string Ta, .string Xa, .slice pa1 pa2 pa3, .slice qa1 qa2 qa3, .int .i64 kb, .string Tb, .string Xb, .slice pb1 pb2 pb3, .slice qb1 qb2 qb3] 31)
          rw [HS4.out] at e1
          have e2 : Below (p + 3) (W4.alloc (.cells #[.int .i64 ka, .string Ta, .string Xa, .slice pa1 pa2 pa3, .slice qa1 qa2 qa3, .int .i64 kb, .string Tb, .string Xb, .slice pb1 pb2 pb3, .slice qb1 qb2 qb3] 31)) W5 := by rw [hW5]; exact (Below.refl _ _).alloc (by simp [HS4.out]) _
          exact (e2.block (p + 2) (by omega)).trans e1
        have hnd : FlB W5 (p + 3) (.int .i64 1) (.string ⟨#[]⟩) (.string ⟨#[]⟩) (.slice none 0 0) (.slice (some ⟨p + 2, 0, none⟩) 2 2) := by
          have e1 := heap_alloc_new (W4.alloc (.cells #[.int .i64 ka, .string Ta, .string Xa, .slice pa1 pa2 pa3, .slice qa1 qa2 qa3, .int .i64 kb, .string Tb, .string Xb, .slice pb1 pb2 pb3, .slice qb1 qb2 qb3] 31)) (.cells #[.int .i64 1, .string ⟨#[]⟩, .string ⟨#[]⟩, .slice none 0 0, .slice (some ⟨p + 2, 0, none⟩) 2 2] 31)
          rw [← hW5, World.size_alloc, HS4.out] at e1
          exact FlB.of e1
        have HFa5 := Lib.hid (HFa4.out.below hb45)
        have HFb5 := Lib.hid (HFb4.out.below hb45)
        have HFn5 : Hid (IsFl (Lt W5) W5 (bothF 1 [fa, fb]) (.agg #[.int .i64 1, .string ⟨#[]⟩, .string ⟨#[]⟩, .slice none 0 0, .slice (some ⟨p + 2, 0, none⟩) 2 2])) := Lib.hid (mkHold (l := [fa, fb]) (by decide) (show 2 ≤ maxLen by decide) (isFls_two (show p + 2 < W5.heap.size by omega) hten HFa5.out HFb5.out))
        have HA5 := Lib.hid (HA4.out.below hb45 hb45.size)
        have HB5 := Lib.hid (bthen HB4.out hb45)
        have HE5 : Hid (∀ W, Below W5.heap.size W5 W → W.cell? ⟨pe, 0, none⟩ = some (.string D) ∧ W.cell? ⟨pe, 1, none⟩ = some (.slice (some ⟨g, 0, none⟩) n c) ∧ FlB W p (.int .i64 ka) (.string Ta) (.string Xa) (.slice pa1 pa2 pa3) (.slice qa1 qa2 qa3) ∧ FlB W (p + 1) (.int .i64 kb) (.string Tb) (.string Xb) (.slice pb1 pb2 pb3) (.slice qb1 qb2 qb3) ∧ FlB W (p + 3) (.int .i64 1) (.string ⟨#[]⟩) (.string ⟨#[]⟩) (.slice none 0 0) (.slice (some ⟨p + 2, 0, none⟩) 2 2)) := Lib.hid (fun W hW => by
          have hW4 := bthen hb45 hW
          exact ⟨(hW4.cell (p := ⟨pe, 0, none⟩) hpe4).trans HE.out.1, (hW4.cell (p := ⟨pe, 1, none⟩) hpe4).trans HE.out.2, HFA.out.go hW4 (by have := HS4.out; omega), HFB.out.go hW4 (by have := HS4.out; omega), hnd.go hW (by omega)⟩)
        have HS5 := Lib.hid hs5
        have hka := fl_kind HFa.out HKa.out
        have hkb := fl_kind HFb.out HKb.out
        rw [← hW5, show p + 2 + 1 = p + 3 from rfl]
        clear hW5 hb45 hs5 hs4 hten hnd f0 f1 f2 f3 f4 h0 h1 h2 h3 h4 hpe4
        refine region_factsB (by kernel_rfl) (FO W5.heap.size [.is (.agg #[.int .i64 ka, .string Ta, .string Xa, .slice pa1 pa2 pa3, .slice qa1 qa2 qa3]), .fl fa, .is (.agg #[.int .i64 kb, .string Tb, .string Xb, .slice pb1 pb2 pb3, .slice qb1 qb2 qb3]), .fl fb, .row fa fb, .both fa fb, .box]) (fun w w' => Below w.heap.size w w') (fun _ _ _ _ h hb => h.go hb) (fun _ _ _ h1 h2 => bthen h1 h2) (Below.refl _ _).drew (by kernel_rfl) rfl ?hs ?hl
        case hs =>
          intro listed a W hk i o ho hi hc
          have e10 := hk.read (t := 10) (by kernel_rfl) rfl
          have e11 := hk.read (t := 11) (by kernel_rfl) rfl
          have hgr : Below W5.heap.size W5 W := hk.grown
          have hfa : IsFl (okQ W5.heap.size W) W fa (.agg #[.int .i64 ka, .string Ta, .string Xa, .slice pa1 pa2 pa3, .slice qa1 qa2 qa3]) := HFa5.out.imp (fun b hb => ⟨Nat.lt_of_lt_of_le hb hgr.size, .inl hb⟩) (fun b o hb => hgr.cell (p := ⟨b, o, none⟩) hb)
          have hfb : IsFl (okQ W5.heap.size W) W fb (.agg #[.int .i64 kb, .string Tb, .string Xb, .slice pb1 pb2 pb3, .slice qb1 qb2 qb3]) := HFb5.out.imp (fun b hb => ⟨Nat.lt_of_lt_of_le hb hgr.size, .inl hb⟩) (fun b o hb => hgr.cell (p := ⟨b, o, none⟩) hb)
          obtain ⟨-, -, ⟨f0, f1, f2, f3, f4⟩, ⟨h0, h1, h2, h3, h4⟩, -⟩ := HE5.out W hgr
          match i, hi with
          | 0, _ =>
            obtain rfl := Option.some.inj ho
            exact wpOp_val rfl rfl (v := .agg #[.int .i64 ka, .string Ta, .string Xa, .slice pa1 pa2 pa3, .slice qa1 qa2 qa3]) (w' := W) (by simp [go_sem, e10, f0, f1, f2, f3, f4]) ⟨_, _, rfl, rfl, Below.refl _ _, rfl⟩
          | 1, _ =>
            obtain rfl := Option.some.inj ho
            obtain ⟨v0, g0, k0⟩ := hk.got (j := 0) rfl rfl (hc ⟨0, .data⟩ (by simp) rfl)
            obtain rfl : v0 = _ := k0
            refine wpOp_call rfl rfl (f := 9) (args := #[.agg #[.int .i64 ka, .string Ta, .string Xa, .slice pa1 pa2 pa3, .slice qa1 qa2 qa3]]) (by simp [go_sem, g0]) ((no7_N fa ka _ _ _ _ W hka hfa).mono ?_)
            rintro e W' ⟨q, rfl, hf, hb⟩
            exact ⟨_, rfl, _, _, rfl, rfl, hb, ⟨q, rfl, hf⟩⟩
          | 2, _ =>
            obtain rfl := Option.some.inj ho
            exact wpOp_val rfl rfl (v := .agg #[.int .i64 kb, .string Tb, .string Xb, .slice pb1 pb2 pb3, .slice qb1 qb2 qb3]) (w' := W) (by simp [go_sem, e11, h0, h1, h2, h3, h4]) ⟨_, _, rfl, rfl, Below.refl _ _, rfl⟩
          | 3, _ =>
            obtain rfl := Option.some.inj ho
            obtain ⟨v2, g2, k2⟩ := hk.got (j := 2) rfl rfl (hc ⟨2, .data⟩ (by simp) rfl)
            obtain rfl : v2 = _ := k2
            refine wpOp_call rfl rfl (f := 9) (args := #[.agg #[.int .i64 kb, .string Tb, .string Xb, .slice pb1 pb2 pb3, .slice qb1 qb2 qb3]]) (by simp [go_sem, g2]) ((no7_N fb kb _ _ _ _ W hkb hfb).mono ?_)
            rintro e W' ⟨q, rfl, hf, hb⟩
            exact ⟨_, rfl, _, _, rfl, rfl, hb, ⟨q, rfl, hf⟩⟩
          | 4, _ =>
            obtain rfl := Option.some.inj ho
            obtain ⟨v1, g1, k1⟩ := hk.got (j := 1) rfl rfl (hc ⟨1, .data⟩ (by simp) rfl)
            obtain ⟨v3, g3, k3⟩ := hk.got (j := 3) rfl rfl (hc ⟨3, .data⟩ (by simp) rfl)
            obtain ⟨q1, rfl, k1⟩ := k1
            obtain ⟨q3, rfl, k3⟩ := k3
            have hba : Below W.heap.size W (W.alloc (.cells #[.int .i64 3, .string ⟨#[]⟩, .string ⟨#[]⟩, .slice none 0 0, .slice (some ⟨q1, 0, none⟩) 1 1, .int .i64 3, .string ⟨#[]⟩, .string ⟨#[]⟩, .slice none 0 0, .slice (some ⟨q3, 0, none⟩) 1 1] 31)) := (Below.refl _ _).alloc (Nat.le_refl _) _
            exact wpOp_val rfl rfl (v := .slice (some ⟨W.heap.size, 0, none⟩) 2 2) (w' := W.alloc (.cells #[.int .i64 3, .string ⟨#[]⟩, .string ⟨#[]⟩, .slice none 0 0, .slice (some ⟨q1, 0, none⟩) 1 1, .int .i64 3, .string ⟨#[]⟩, .string ⟨#[]⟩, .slice none 0 0, .slice (some ⟨q3, 0, none⟩) 1 1] 31)) (by simp [go_sem, g1, g3]) ⟨_, _, rfl, rfl, hba, ⟨_, rfl, row_N (heap_alloc_new W _) (k1.goN hba) (k3.goN hba)⟩⟩
          | 5, _ =>
            obtain rfl := Option.some.inj ho
            obtain ⟨v4, g4, k4⟩ := hk.got (j := 4) rfl rfl (hc ⟨4, .data⟩ (by simp) rfl)
            obtain ⟨gr, rfl, k4⟩ := k4
            exact wpOp_val rfl rfl (v := .agg #[.int .i64 2, .string ⟨#[]⟩, .string ⟨#[]⟩, .slice none 0 0, .slice (some ⟨gr, 0, none⟩) 2 2]) (w' := W) (by simp [go_sem, g4]) ⟨_, _, rfl, rfl, Below.refl _ _, ⟨gr, rfl, k4⟩⟩
          | 6, _ =>
            obtain rfl := Option.some.inj ho
            exact wpOp_val rfl rfl (v := .pointer (some ⟨W.heap.size, 0, none⟩)) (w' := W.alloc (.cells #[.int .i64 0, .string ⟨#[]⟩, .string ⟨#[]⟩, .slice none 0 0, .slice none 0 0] 31)) (by simp [go_sem]) ⟨_, _, rfl, rfl, (Below.refl _ _).alloc (Nat.le_refl _) _, ⟨_, rfl, hgr.size, heap_alloc_new W _⟩⟩
          | k + 7, h => exact absurd h (by simp)
        case hl =>
          intro listed a W hk hall
          obtain ⟨v5, g5, k5⟩ := hk.got (j := 5) rfl rfl (hall 5 (by simp))
          obtain ⟨v6, g6, k6⟩ := hk.got (j := 6) rfl rfl (hall 6 (by simp))
          obtain ⟨gr, rfl, hor⟩ := k5
          obtain ⟨pr, rfl, hpB, hpc⟩ := k6
          have hgr : Below W5.heap.size W5 W := hk.grown
          have hput := hk.puts
          have hb6 := setP_below (x0 := .int .i64 2) (x1 := .string ⟨#[]⟩) (x2 := .string ⟨#[]⟩) (x3 := .slice none 0 0) (x4 := .slice (some ⟨gr, 0, none⟩) 2 2) hgr hpB
          have hor6 := hor.setP (x0 := .int .i64 2) (x1 := .string ⟨#[]⟩) (x2 := .string ⟨#[]⟩) (x3 := .slice none 0 0) (x4 := .slice (some ⟨gr, 0, none⟩) 2 2) hpB hpc
          have hob6 := FlB.of (setP_self (x0 := .int .i64 2) (x1 := .string ⟨#[]⟩) (x2 := .string ⟨#[]⟩) (x3 := .slice none 0 0) (x4 := .slice (some ⟨gr, 0, none⟩) 2 2) hpc)
          have hpr : pr < (setP W pr (.int .i64 2) (.string ⟨#[]⟩) (.string ⟨#[]⟩) (.slice none 0 0) (.slice (some ⟨gr, 0, none⟩) 2 2)).heap.size := by rw [setP_size]; exact (Array.getElem?_eq_some_iff.1 hpc).1
          refine wpOp_skip rfl rfl (w' := setP W pr (.int .i64 2) (.string ⟨#[]⟩) (.string ⟨#[]⟩) (.slice none 0 0) (.slice (some ⟨gr, 0, none⟩) 2 2)) (by obtain ⟨z0, y0, z1, y1, z2, y2, z3, y3, z4, y4⟩ := setP_facts (.int .i64 2) (.string ⟨#[]⟩) (.string ⟨#[]⟩) (.slice none 0 0) hpc; unfold setP; simp [go_sem, g5, g6, z0, y0, z1, y1, z2, y2, z3, y3, z4, y4]) ?_
          rw [hput]
          simp only [putT, g6]
          generalize a.tmps[41]?.getD undef = x41
          generalize a.tmps[42]?.getD undef = x42
          generalize a.tmps[43]?.getD undef = x43
          generalize a.tmps[44]?.getD undef = x44
          generalize a.tmps[45]?.getD undef = x45
          generalize a.tmps[46]?.getD undef = x46
          have HOr := Lib.hid hor6
          have HOb := Lib.hid hob6
          have HBl6 := Lib.hid hb6
          have HPr := Lib.hid hpr
          clear hall hput g5 g6 hor hpB hpc hgr hb6 hor6 hob6 hpr hk hka hkb
          generalize (setP W pr (.int .i64 2) (.string ⟨#[]⟩) (.string ⟨#[]⟩) (.slice none 0 0) (.slice (some ⟨gr, 0, none⟩) 2 2)) = W6 at HOr HOb HBl6 HPr ⊢
          have HE6 : Hid (∀ W, Below W6.heap.size W6 W → W.cell? ⟨pe, 0, none⟩ = some (.string D) ∧ W.cell? ⟨pe, 1, none⟩ = some (.slice (some ⟨g, 0, none⟩) n c) ∧ W.cell? ⟨p, 0, none⟩ = some (.int .i64 ka) ∧ W.cell? ⟨p, 1, none⟩ = some (.string Ta) ∧ W.cell? ⟨p, 2, none⟩ = some (.string Xa) ∧ W.cell? ⟨p, 3, none⟩ = some (.slice pa1 pa2 pa3) ∧ W.cell? ⟨p, 4, none⟩ = some (.slice qa1 qa2 qa3) ∧ W.cell? ⟨p + 3, 0, none⟩ = some (.int .i64 1) ∧ W.cell? ⟨p + 3, 1, none⟩ = some (.string ⟨#[]⟩) ∧ W.cell? ⟨p + 3, 2, none⟩ = some (.string ⟨#[]⟩) ∧ W.cell? ⟨p + 3, 3, none⟩ = some (.slice none 0 0) ∧ W.cell? ⟨p + 3, 4, none⟩ = some (.slice (some ⟨p + 2, 0, none⟩) 2 2) ∧ W.cell? ⟨pr, 0, none⟩ = some (.int .i64 2) ∧ W.cell? ⟨pr, 1, none⟩ = some (.string ⟨#[]⟩) ∧ W.cell? ⟨pr, 2, none⟩ = some (.string ⟨#[]⟩) ∧ W.cell? ⟨pr, 3, none⟩ = some (.slice none 0 0) ∧ W.cell? ⟨pr, 4, none⟩ = some (.slice (some ⟨gr, 0, none⟩) 2 2) ∧ Below W6.heap.size W6 W) := Lib.hid (fun W hW => by
            obtain ⟨x0, x1, ⟨y0, y1, y2, y3, y4⟩, -, ⟨z0, z1, z2, z3, z4⟩⟩ := HE5.out W (bthen HBl6.out hW)
            obtain ⟨o0, o1, o2, o3, o4⟩ := HOb.out.go hW HPr.out
            exact ⟨x0, x1, y0, y1, y2, y3, y4, z0, z1, z2, z3, z4, o0, o1, o2, o3, o4, hW⟩)
          have HWB : Hid (∀ W, Below W6.heap.size W6 W → Below w.heap.size w W) := Lib.hid (fun W hW => bthen HB5.out (bthen HBl6.out hW))
          have HN6 : Hid (∀ W, Below W6.heap.size W6 W → IsFl (Lt W) W (bothF 1 [fa, fb]) (.agg #[.int .i64 1, .string ⟨#[]⟩, .string ⟨#[]⟩, .slice none 0 0, .slice (some ⟨p + 2, 0, none⟩) 2 2])) := Lib.hid (fun W hW => HFn5.out.below (bthen HBl6.out hW))
          have HO6 : Hid (∀ W, Below W6.heap.size W6 W → IsFl (Lt W) W (bothF 2 [notF fa, notF fb]) (.agg #[.int .i64 2, .string ⟨#[]⟩, .string ⟨#[]⟩, .slice none 0 0, .slice (some ⟨gr, 0, none⟩) 2 2])) := Lib.hid (fun W hW => HOr.out.below hW)
          have HF6 : Hid (∀ W, Below W6.heap.size W6 W → IsFl (Lt W) W fa (.agg #[.int .i64 ka, .string Ta, .string Xa, .slice pa1 pa2 pa3, .slice qa1 qa2 qa3])) := Lib.hid (fun W hW => HFa5.out.below (bthen HBl6.out hW))
          have HA6 : Hid (∀ W, Below W6.heap.size W6 W → IsA W.heap.size W L (.slice (some ⟨g, 0, none⟩) n c)) := Lib.hid (fun W hW => HA5.out.below (bthen HBl6.out hW) (bthen HBl6.out hW).size)
          clear HE5 HOb HPr HBl6 HFn5 HOr HFa5 HFb5 HA5 HFa HFb HFa4 HFb4 HA4 HA1 HB4 HB5 HB1 HB2 HB3 HBx HFA HFB HE HS4 HS5 HKa HKb HMa HMb HMe
          obtain ⟨m1, hm1⟩ : ∃ b, mayF 13 (notF (notF (bothF 1 [fa, fb]))) = b := ⟨_, rfl⟩
          obtain ⟨m2, hm2⟩ : ∃ b, mayF 13 (bothF 2 [notF fa, notF fb]) = b := ⟨_, rfl⟩
          have HM1 := Lib.hid hm1
          have HM2 := Lib.hid hm2
          obtain ⟨x0, x1, y0, y1, y2, y3, y4, z0, z1, z2, z3, z4, o0, o1, o2, o3, o4, -⟩ := HE6.out _ (Below.refl _ _)
          clear y0 y1 y2 y3 y4
          go_simp
          cases m1 with
          | false =>
            clear hm1 hm2 HEv
            go_wp2_with (first
              | (go_at_call 9; (with_reducible refine (no7_any (bothF 1 [fa, fb]) (.agg #[.int .i64 1, .string ⟨#[]⟩, .string ⟨#[]⟩, .slice none 0 0, .slice (some ⟨p + 2, 0, none⟩) 2 2]) W6 (HN6.out _ (Below.refl _ _))).mono ?_); rintro e w7 ⟨q7, rfl, hf7, hb7⟩; have HF7 := Lib.hid hf7; have HB7 := Lib.hid hb7; clear hf7 hb7)
              | (go_at_call 9; (with_reducible refine (no7_any (notF (bothF 1 [fa, fb])) (.agg #[.int .i64 3, .string ⟨#[]⟩, .string ⟨#[]⟩, .slice none 0 0, .slice (some ⟨q7, 0, none⟩) 1 1]) w7 HF7.out).mono ?_); rintro e w8 ⟨q8, rfl, hf8, hb8⟩; have HF8 := Lib.hid hf8; have HB8 := Lib.hid (bthen HB7.out hb8); clear hf8 hb8)
              | (go_at_call 10; (with_reducible refine (mayFilter_any (notF (notF (bothF 1 [fa, fb]))) (.agg #[.int .i64 3, .string ⟨#[]⟩, .string ⟨#[]⟩, .slice none 0 0, .slice (some ⟨q8, 0, none⟩) 1 1]) w8 HF8.out).mono ?_); rintro e w9 ⟨he, hb9⟩; rw [HM1.out] at he; subst he; have HB9 := Lib.hid (bthen HB8.out hb9); (obtain ⟨-, -, -, -, -, -, -, -, -, -, -, -, o0, o1, o2, o3, o4, -⟩ := HE6.out _ (bthen HB8.out hb9)); clear hb9)
              | (go_at_call 6; (with_reducible refine (HAw.out _ (HWB.out _ HB9.out)).mono ?_); rintro e w11 ⟨rfl, hb11⟩; have HB11 := Lib.hid (bthen HB9.out hb11); clear hb11))
            go_ret
            exact ⟨rfl, HWB.out _ HB11.out⟩
          | true =>
            cases m2 with
            | false =>
              clear hm1 hm2 HEv
              go_wp2_with (first
                | (go_at_call 9; (with_reducible refine (no7_any (bothF 1 [fa, fb]) (.agg #[.int .i64 1, .string ⟨#[]⟩, .string ⟨#[]⟩, .slice none 0 0, .slice (some ⟨p + 2, 0, none⟩) 2 2]) W6 (HN6.out _ (Below.refl _ _))).mono ?_); rintro e w7 ⟨q7, rfl, hf7, hb7⟩; have HF7 := Lib.hid hf7; have HB7 := Lib.hid hb7; clear hf7 hb7)
                | (go_at_call 9; (with_reducible refine (no7_any (notF (bothF 1 [fa, fb])) (.agg #[.int .i64 3, .string ⟨#[]⟩, .string ⟨#[]⟩, .slice none 0 0, .slice (some ⟨q7, 0, none⟩) 1 1]) w7 HF7.out).mono ?_); rintro e w8 ⟨q8, rfl, hf8, hb8⟩; have HF8 := Lib.hid hf8; have HB8 := Lib.hid (bthen HB7.out hb8); clear hf8 hb8)
                | (go_at_call 10; (with_reducible refine (mayFilter_any (notF (notF (bothF 1 [fa, fb]))) (.agg #[.int .i64 3, .string ⟨#[]⟩, .string ⟨#[]⟩, .slice none 0 0, .slice (some ⟨q8, 0, none⟩) 1 1]) w8 HF8.out).mono ?_); rintro e w9 ⟨he, hb9⟩; rw [HM1.out] at he; subst he; have HB9 := Lib.hid (bthen HB8.out hb9); (obtain ⟨-, -, -, -, -, -, -, -, -, -, -, -, o0, o1, o2, o3, o4, -⟩ := HE6.out _ (bthen HB8.out hb9)); clear hb9)
                | (go_at_call 10; (with_reducible refine (mayFilter_any (bothF 2 [notF fa, notF fb]) (.agg #[.int .i64 2, .string ⟨#[]⟩, .string ⟨#[]⟩, .slice none 0 0, .slice (some ⟨gr, 0, none⟩) 2 2]) w9 (HO6.out _ HB9.out)).mono ?_); rintro e w10 ⟨he, hb10⟩; rw [HM2.out] at he; subst he; have HB10 := Lib.hid (bthen HB9.out hb10); clear hb10)
                | (go_at_call 6; (with_reducible refine (HAw.out _ (HWB.out _ HB10.out)).mono ?_); rintro e w11 ⟨rfl, hb11⟩; have HB11 := Lib.hid (bthen HB10.out hb11); clear hb11))
              go_ret
              exact ⟨rfl, HWB.out _ HB11.out⟩
            | true =>
              obtain ⟨X, A, hX, hA, r0, r1, r2, r3, r4, r5⟩ := nots_all L fa fb hm1 hm2
              have hv0 := fun (v : Value) (W : World) (hW : Below w.heap.size w W) (h : IsFl (Lt W) W (bothF 1 [fa, fb]) v) (hA : IsA W.heap.size W L (.slice (some ⟨g, 0, none⟩) n c)) => HEv.out (bothF 1 [fa, fb]) v D g n c W hW h hA
              rw [r0] at hv0
              have HV0 := Lib.hid hv0
              have hv1 := fun (v : Value) (W : World) (hW : Below w.heap.size w W) (h : IsFl (Lt W) W (notF (bothF 1 [fa, fb])) v) (hA : IsA W.heap.size W L (.slice (some ⟨g, 0, none⟩) n c)) => HEv.out (notF (bothF 1 [fa, fb])) v D g n c W hW h hA
              rw [r1] at hv1
              have HV1 := Lib.hid hv1
              have hv2 := fun (v : Value) (W : World) (hW : Below w.heap.size w W) (h : IsFl (Lt W) W (notF (notF (bothF 1 [fa, fb]))) v) (hA : IsA W.heap.size W L (.slice (some ⟨g, 0, none⟩) n c)) => HEv.out (notF (notF (bothF 1 [fa, fb]))) v D g n c W hW h hA
              rw [r2] at hv2
              have HV2 := Lib.hid hv2
              have hv3 := fun (v : Value) (W : World) (hW : Below w.heap.size w W) (h : IsFl (Lt W) W (bothF 2 [notF fa, notF fb]) v) (hA : IsA W.heap.size W L (.slice (some ⟨g, 0, none⟩) n c)) => HEv.out (bothF 2 [notF fa, notF fb]) v D g n c W hW h hA
              rw [r3] at hv3
              have HV3 := Lib.hid hv3
              have hv4 := fun (v : Value) (W : World) (hW : Below w.heap.size w W) (h : IsFl (Lt W) W fa v) (hA : IsA W.heap.size W L (.slice (some ⟨g, 0, none⟩) n c)) => HEv.out fa v D g n c W hW h hA
              rw [r4] at hv4
              have HV4 := Lib.hid hv4
              have hv5 := fun (v : Value) (W : World) (hW : Below w.heap.size w W) (h : IsFl (Lt W) W (notF fa) v) (hA : IsA W.heap.size W L (.slice (some ⟨g, 0, none⟩) n c)) => HEv.out (notF fa) v D g n c W hW h hA
              rw [r5] at hv5
              have HV5 := Lib.hid hv5
              clear hv0 hv1 hv2 hv3 hv4 hv5 r0 r1 r2 r3 r4 r5 hm1 hm2 HEv
              go_upto_region 10 with (first
                | (go_at_call 9; (with_reducible refine (no7_any (bothF 1 [fa, fb]) (.agg #[.int .i64 1, .string ⟨#[]⟩, .string ⟨#[]⟩, .slice none 0 0, .slice (some ⟨p + 2, 0, none⟩) 2 2]) W6 (HN6.out _ (Below.refl _ _))).mono ?_); rintro e w7 ⟨q7, rfl, hf7, hb7⟩; have HF7 := Lib.hid hf7; have HB7 := Lib.hid hb7; clear hf7 hb7)
                | (go_at_call 9; (with_reducible refine (no7_any (notF (bothF 1 [fa, fb])) (.agg #[.int .i64 3, .string ⟨#[]⟩, .string ⟨#[]⟩, .slice none 0 0, .slice (some ⟨q7, 0, none⟩) 1 1]) w7 HF7.out).mono ?_); rintro e w8 ⟨q8, rfl, hf8, hb8⟩; have HF8 := Lib.hid hf8; have HB8 := Lib.hid (bthen HB7.out hb8); clear hf8 hb8)
                | (go_at_call 10; (with_reducible refine (mayFilter_any (notF (notF (bothF 1 [fa, fb]))) (.agg #[.int .i64 3, .string ⟨#[]⟩, .string ⟨#[]⟩, .slice none 0 0, .slice (some ⟨q8, 0, none⟩) 1 1]) w8 HF8.out).mono ?_); rintro e w9 ⟨he, hb9⟩; rw [HM1.out] at he; subst he; have HB9 := Lib.hid (bthen HB8.out hb9); (obtain ⟨-, -, -, -, -, -, -, -, -, -, -, -, o0, o1, o2, o3, o4, -⟩ := HE6.out _ (bthen HB8.out hb9)); clear hb9)
                | (go_at_call 10; (with_reducible refine (mayFilter_any (bothF 2 [notF fa, notF fb]) (.agg #[.int .i64 2, .string ⟨#[]⟩, .string ⟨#[]⟩, .slice none 0 0, .slice (some ⟨gr, 0, none⟩) 2 2]) w9 (HO6.out _ HB9.out)).mono ?_); rintro e w10 ⟨he, hb10⟩; rw [HM2.out] at he; subst he; have HB10 := Lib.hid (bthen HB9.out hb10); (obtain ⟨x0, x1, -, -, -, -, -, z0, z1, z2, z3, z4, -⟩ := HE6.out _ (bthen HB9.out hb10)); clear hb10)
                | (go_at_call 11; (with_reducible refine (HV0.out (.agg #[.int .i64 1, .string ⟨#[]⟩, .string ⟨#[]⟩, .slice none 0 0, .slice (some ⟨p + 2, 0, none⟩) 2 2]) _ (HWB.out _ HB10.out) (HN6.out _ HB10.out) (HA6.out _ HB10.out)).mono ?_); rintro e w12 ⟨rfl, hb12⟩; have HB12 := Lib.hid (bthen HB10.out hb12); clear hb12))
              obtain ⟨Y, hY⟩ : ∃ Y, Y = flipE X := ⟨_, rfl⟩
              obtain ⟨A2, hA2⟩ : ∃ Y, Y = flipE A := ⟨_, rfl⟩
              clear x0 x1 z0 z1 z2 z3 z4
              have hst := HE6.out _ HB12.out.drew
              have e1 : ((flipE X : Int) == (flipE X : Int)) = true := by simp
              have e2 : ((X : Int) == (X : Int)) = true := by simp
              have e3 : ((flipE A : Int) == (flipE A : Int)) = true := by simp
              go_region_held3 (fun w' => w'.cell? ⟨pe, 0, none⟩ = some (.string D) ∧ w'.cell? ⟨pe, 1, none⟩ = some (.slice (some ⟨g, 0, none⟩) n c) ∧ w'.cell? ⟨p, 0, none⟩ = some (.int .i64 ka) ∧ w'.cell? ⟨p, 1, none⟩ = some (.string Ta) ∧ w'.cell? ⟨p, 2, none⟩ = some (.string Xa) ∧ w'.cell? ⟨p, 3, none⟩ = some (.slice pa1 pa2 pa3) ∧ w'.cell? ⟨p, 4, none⟩ = some (.slice qa1 qa2 qa3) ∧ w'.cell? ⟨p + 3, 0, none⟩ = some (.int .i64 1) ∧ w'.cell? ⟨p + 3, 1, none⟩ = some (.string ⟨#[]⟩) ∧ w'.cell? ⟨p + 3, 2, none⟩ = some (.string ⟨#[]⟩) ∧ w'.cell? ⟨p + 3, 3, none⟩ = some (.slice none 0 0) ∧ w'.cell? ⟨p + 3, 4, none⟩ = some (.slice (some ⟨p + 2, 0, none⟩) 2 2) ∧ w'.cell? ⟨pr, 0, none⟩ = some (.int .i64 2) ∧ w'.cell? ⟨pr, 1, none⟩ = some (.string ⟨#[]⟩) ∧ w'.cell? ⟨pr, 2, none⟩ = some (.string ⟨#[]⟩) ∧ w'.cell? ⟨pr, 3, none⟩ = some (.slice none 0 0) ∧ w'.cell? ⟨pr, 4, none⟩ = some (.slice (some ⟨gr, 0, none⟩) 2 2) ∧ Below W6.heap.size W6 w')
                (first | exact hst | (go_split_ands; exact HE6.out _ (bthen (by assumption) hbA)) | (go_split_ands; exact HE6.out _ (bthen (by assumption) hbB)) | (go_split_ands; exact HE6.out _ (bthen (by assumption) hbC)) | (go_split_ands; exact HE6.out _ (bthen (by assumption) hbD)) | (go_split_ands; exact HE6.out _ (bthen (by assumption) hbE)) | (go_split_ands; exact HE6.out _ (bthen (by assumption) hbF)) | (go_split_ands; exact HE6.out _ (bthen (by assumption) hbG)) | (go_split_ands; exact HE6.out _ (bthen (by assumption) hbH)) | (go_split_ands; exact HE6.out _ (bthen (by assumption) hbK)) | (go_split_ands; exact HE6.out _ (bthen (by assumption) (Below.refl _ _).drew)) | (go_split_ands; exact HE6.out _ (by assumption)))
                (first
                  | (go_at_call 9; go_split_ands; (with_reducible refine (no7_any (bothF 1 [fa, fb]) (.agg #[.int .i64 1, .string ⟨#[]⟩, .string ⟨#[]⟩, .slice none 0 0, .slice (some ⟨p + 2, 0, none⟩) 2 2]) _ (HN6.out _ (by assumption))).mono ?_); rintro e wA ⟨qA, rfl, hfA, hbA⟩; have HFA := Lib.hid hfA; clear hfA)
                  | (go_at_call 9; go_split_ands; (with_reducible refine (no7_any (notF (bothF 1 [fa, fb])) (.agg #[.int .i64 3, .string ⟨#[]⟩, .string ⟨#[]⟩, .slice none 0 0, .slice (some ⟨qA, 0, none⟩) 1 1]) _ HFA.out).mono ?_); rintro e wB ⟨qB, rfl, hfB, hbB⟩; have HFB := Lib.hid hfB; clear hfB)
                  | (go_at_call 9; go_split_ands; (with_reducible refine (no7_any fa (.agg #[.int .i64 ka, .string Ta, .string Xa, .slice pa1 pa2 pa3, .slice qa1 qa2 qa3]) _ (HF6.out _ (by assumption))).mono ?_); rintro e wC ⟨qC, rfl, hfC, hbC⟩; have HFC := Lib.hid hfC; clear hfC)
                  | (go_at_call 11; go_split_ands; (with_reducible refine (HV1.out (.agg #[.int .i64 3, .string ⟨#[]⟩, .string ⟨#[]⟩, .slice none 0 0, .slice (some ⟨qA, 0, none⟩) 1 1]) _ (HWB.out _ (by assumption)) HFA.out (HA6.out _ (by assumption))).mono ?_); rintro e wD ⟨rfl, hbD⟩)
                  | (go_at_call 11; go_split_ands; (with_reducible refine (HV2.out (.agg #[.int .i64 3, .string ⟨#[]⟩, .string ⟨#[]⟩, .slice none 0 0, .slice (some ⟨qB, 0, none⟩) 1 1]) _ (HWB.out _ (by assumption)) HFB.out (HA6.out _ (by assumption))).mono ?_); rintro e wE ⟨rfl, hbE⟩)
                  | (go_at_call 11; go_split_ands; (with_reducible refine (HV3.out (.agg #[.int .i64 2, .string ⟨#[]⟩, .string ⟨#[]⟩, .slice none 0 0, .slice (some ⟨gr, 0, none⟩) 2 2]) _ (HWB.out _ (by assumption)) (HO6.out _ (by assumption)) (HA6.out _ (by assumption))).mono ?_); rintro e wF ⟨rfl, hbF⟩)
                  | (go_at_call 11; go_split_ands; (with_reducible refine (HV5.out (.agg #[.int .i64 3, .string ⟨#[]⟩, .string ⟨#[]⟩, .slice none 0 0, .slice (some ⟨qC, 0, none⟩) 1 1]) _ (HWB.out _ (by assumption)) HFC.out (HA6.out _ (by assumption))).mono ?_); rintro e wG ⟨rfl, hbG⟩)
                  | (go_at_call 11; go_split_ands; (with_reducible refine (HV4.out (.agg #[.int .i64 ka, .string Ta, .string Xa, .slice pa1 pa2 pa3, .slice qa1 qa2 qa3]) _ (HWB.out _ (by assumption)) (HF6.out _ (by assumption)) (HA6.out _ (by assumption))).mono ?_); rintro e wH ⟨rfl, hbH⟩)
                  | (go_at_call 12; go_split_ands; (with_reducible refine (flip7_any X hX _).mono ?_); rintro e wI ⟨rfl, hbI⟩; subst hbI)
                  | (go_at_call 12; go_split_ands; (with_reducible refine (flip7_any A hA _).mono ?_); rintro e wJ ⟨rfl, hbJ⟩; subst hbJ)
                  | (go_at_call 6; go_split_ands; (with_reducible refine (HAw.out _ (HWB.out _ (by assumption))).mono ?_); rintro e wK ⟨rfl, hbK⟩))
              go_split_ands
              have hfK : Below W6.heap.size W6 wK := by assumption
              have HFK := Lib.hid (HWB.out _ hfK)
              clear hfK
              go_wp2
              go_ret
              exact ⟨rfl, HFK.out⟩
end Go.Proofs.YtmilgbkkibahlaaGreatDoor


namespace Go.Proofs.YtmilgbkkibahlaaGreatDoor
open Go.RowKit
set_option linter.unusedVariables false
set_option linter.unusedSimpArgs false

set_option maxRecDepth 100000 in
theorem open_bytesC {H : Type} {enc : TypeId × Value → H} {W : World} {v : Value} {d : DataW H} {ps : List MemPlace} (hval : Value.okWide Tryz.prog W .any 0 22 v) (hd : DataW.Trod enc Tryz.prog W 0 (fun _ => true) true 22 v d ps) :
    ∃ (a : Option Addr) (cap : Nat) (l : List UInt8), v = .slice a l.length cap ∧ IsC W.heap.size W l a cap := by
  obtain ⟨a, cap, l, rfl, h⟩ := open_bytes hval hd
  refine ⟨a, cap, l, rfl, ?_, ?_, h.2⟩
  all_goals
    obtain ⟨fuel, hf⟩ := hd
    have hc : Tryz.prog.cellsOf 5 = 1 := by kernel_rfl
    rcases Go.ChangeShapes.open_ints Tryz.underlying22 Tryz.underlying5 hc hf with ⟨hcs, _⟩ | ⟨a, len', cap', zs, hcs, _, hle, hmax, hall, _, hcell, hwf⟩
    · simp [Value.cells] at hcs
      obtain ⟨rfl, h0, rfl⟩ := hcs
      first | (subst h0; exact Nat.le_refl _) | exact Nat.zero_le _
    · simp [Value.cells] at hcs
      obtain ⟨rfl, h0, rfl⟩ := hcs
      first | omega | assumption
end Go.Proofs.YtmilgbkkibahlaaGreatDoor


namespace Go.Proofs.YtmilgbkkibahlaaGreatDoor
open Go.RowKit
set_option linter.unusedVariables false
set_option linter.unusedSimpArgs false

def rkN (v : Nat) : Nat := if v = 1 then 2 else if v = 2 then 1 else 0
def leastN (l : List Nat) : Nat := (l.map rkN).foldl min 2
def mostN (l : List Nat) : Nat := (l.map rkN).foldl max 0
theorem leastN_snoc (l : List Nat) (v : Nat) : leastN (l ++ [v]) = min (leastN l) (rkN v) := by simp [leastN]
theorem mostN_snoc (l : List Nat) (v : Nat) : mostN (l ++ [v]) = max (mostN l) (rkN v) := by simp [mostN]
theorem logic_all {x y z : Nat} (hx : x ≤ 2) (hy : y ≤ 2) (hz : z ≤ 2) : rkN (firstE 0 2 1 [x, y, z]) = leastN [x, y, z] ∧ rkN (firstE 1 2 0 [x, y, z]) = mostN [x, y, z] ∧ firstE 0 2 1 [z, x, y] = firstE 0 2 1 [x, y, z] ∧ firstE 1 2 0 [z, x, y] = firstE 1 2 0 [x, y, z] := by
  rcases (show x = 0 ∨ x = 1 ∨ x = 2 from by omega) with rfl | rfl | rfl <;> rcases (show y = 0 ∨ y = 1 ∨ y = 2 from by omega) with rfl | rfl | rfl <;> rcases (show z = 0 ∨ z = 1 ∨ z = 2 from by omega) with rfl | rfl | rfl <;> decide
theorem may_one {f : FT} (h : mayF 13 (bothF 1 [f]) = true) : mayF 12 f = true := by
  rw [may_both 12 (.inl rfl) [f] (by simp)] at h
  simpa using h
theorem evalD_one {L : List AT} {f : FT} (h : mayF 13 (bothF 1 [f]) = true) : evalD L f = evF L f ∧ evalD L f ≤ 2 := by
  have h1 := evalD_may (L := L) (mayF_le (by omega) f (may_one h) : mayF 13 f = true)
  exact ⟨h1, by rw [h1]; exact evF_lt _ _⟩
theorem logic_L (L : List AT) (a b c : FT) (h1 : mayF 13 (bothF 1 [a]) = true) (h2 : mayF 13 (bothF 1 [b]) = true) (h3 : mayF 13 (bothF 1 [c]) = true) :
    ∃ A B : Nat, A ≤ 2 ∧ B ≤ 2 ∧ evalD L (bothF 1 [a, b, c]) = A ∧ evalD L (bothF 2 [a, b, c]) = B ∧ rkN A = leastN [evalD L a, evalD L b, evalD L c] ∧ rkN B = mostN [evalD L a, evalD L b, evalD L c] ∧ evalD L (bothF 1 [c, a, b]) = A ∧ evalD L (bothF 2 [c, a, b]) = B := by
  have m1 := may_one h1
  have m2 := may_one h2
  have m3 := may_one h3
  have hm : ∀ k : Int, (k = 1 ∨ k = 2) → mayF 13 (bothF k [a, b, c]) = true ∧ mayF 13 (bothF k [c, a, b]) = true := fun k hk => by
    rw [may_both 12 hk _ (by simp), may_both 12 hk _ (by simp)]
    simp [m1, m2, m3]
  have e1 := (evalD_one (L := L) h1).1
  have e2 := (evalD_one (L := L) h2).1
  have e3 := (evalD_one (L := L) h3).1
  obtain ⟨l1, l2, l3, l4⟩ := logic_all (evF_lt L a) (evF_lt L b) (evF_lt L c)
  refine ⟨firstE 0 2 1 [evF L a, evF L b, evF L c], firstE 1 2 0 [evF L a, evF L b, evF L c], firstE_lt (by omega) (by omega) (by omega), firstE_lt (by omega) (by omega) (by omega), ?_, ?_, ?_, ?_, ?_, ?_⟩
  · rw [evalD_may (hm 1 (.inl rfl)).1, ev_and]; rfl
  · rw [evalD_may (hm 2 (.inr rfl)).1, ev_or]; rfl
  · rw [e1, e2, e3]; exact l1
  · rw [e1, e2, e3]; exact l2
  · rw [evalD_may (hm 1 (.inl rfl)).2, ev_and]; exact l3
  · rw [evalD_may (hm 2 (.inr rfl)).2, ev_or]; exact l4
theorem isFls_one {ok : Nat → Prop} {w : World} {g : Nat} {a : FT} {x0 x1 x2 x3 x4 : Value} (hg : ok g) (hc : w.heap[g]? = some (.cells #[x0, x1, x2, x3, x4] 31 (0, 0))) (ha : IsFl ok w a (.agg #[x0, x1, x2, x3, x4])) : IsFls ok w [a] (some ⟨g, 0, none⟩) 0 :=
  ⟨⟨g, 0, x0, x1, x2, x3, x4, rfl, hg, by simp [World.cell?, hc], by simp [World.cell?, hc], by simp [World.cell?, hc], by simp [World.cell?, hc], by simp [World.cell?, hc], ha⟩, trivial⟩
theorem isFls_three {ok : Nat → Prop} {w : World} {g : Nat} {a b c : FT} {x0 x1 x2 x3 x4 y0 y1 y2 y3 y4 z0 z1 z2 z3 z4 : Value} (hg : ok g) (hc : w.heap[g]? = some (.cells #[x0, x1, x2, x3, x4, y0, y1, y2, y3, y4, z0, z1, z2, z3, z4] 31 (0, 0))) (ha : IsFl ok w a (.agg #[x0, x1, x2, x3, x4])) (hb : IsFl ok w b (.agg #[y0, y1, y2, y3, y4])) (hz : IsFl ok w c (.agg #[z0, z1, z2, z3, z4])) :
    IsFls ok w [a, b, c] (some ⟨g, 0, none⟩) 0 :=
  ⟨⟨g, 0, x0, x1, x2, x3, x4, rfl, hg, by simp [World.cell?, hc], by simp [World.cell?, hc], by simp [World.cell?, hc], by simp [World.cell?, hc], by simp [World.cell?, hc], ha⟩,
   ⟨g, 0, y0, y1, y2, y3, y4, rfl, hg, by simp [World.cell?, hc], by simp [World.cell?, hc], by simp [World.cell?, hc], by simp [World.cell?, hc], by simp [World.cell?, hc], hb⟩,
   ⟨g, 0, z0, z1, z2, z3, z4, rfl, hg, by simp [World.cell?, hc], by simp [World.cell?, hc], by simp [World.cell?, hc], by simp [World.cell?, hc], by simp [World.cell?, hc], hz⟩, trivial⟩
theorem fls_at {W : World} {g : Nat} {l : List FT} (h : IsFls (Lt W) W l (some ⟨g, 0, none⟩) 0) (q : Nat) (hq : q < l.length) : ∃ k T X pa pn pc ka kn kc, g < W.heap.size ∧ W.cell? ⟨g, q * 5, none⟩ = some (.int .i64 k) ∧ W.cell? ⟨g, q * 5 + 1, none⟩ = some (.string T) ∧ W.cell? ⟨g, q * 5 + 2, none⟩ = some (.string X) ∧ W.cell? ⟨g, q * 5 + 3, none⟩ = some (.slice pa pn pc) ∧ W.cell? ⟨g, q * 5 + 4, none⟩ = some (.slice ka kn kc) ∧ IsFl (Lt W) W l[q] (.agg #[.int .i64 k, .string T, .string X, .slice pa pn pc, .slice ka kn kc]) := by
  obtain ⟨b, off, v0, v1, v2, v3, v4, e, hb, c0, c1, c2, c3, c4, hf⟩ := IsFls.get l _ 0 h q l[q] (by simp [hq])
  simp only [Option.some.injEq, Addr.mk.injEq, and_true] at e
  obtain ⟨rfl, rfl⟩ := e
  obtain ⟨k, T, X, pa, pn, pc, ka, kn, kc, e⟩ := hf.shape
  simp only [Value.agg.injEq, Array.mk.injEq, List.cons.injEq, and_true] at e
  obtain ⟨rfl, rfl, rfl, rfl, rfl⟩ := e
  simp only [Nat.zero_add] at c0 c1 c2 c3 c4
  exact ⟨k, T, X, pa, pn, pc, ka, kn, kc, hb, c0, c1, c2, c3, c4, hf⟩
theorem rank_cell {W : World} {g : Nat} (h : W.heap[g]? = some (.cells #[.int .i64 0, .int .i64 2, .int .i64 1] 3 (0, 0))) (v : Nat) (hv : v ≤ 2) : W.cell? ⟨g, v, none⟩ = some (.int .i64 (rkN v : Nat)) := by
  rcases (show v = 0 ∨ v = 1 ∨ v = 2 from by omega) with rfl | rfl | rfl <;> simp [World.cell?, h, rkN]
inductive Frw where
  | is (v : Value)
  | row (xs : Array Value)
def FR (B : Nat) (T : List Frw) (i : Nat) (v : Value) (w : World) : Prop := match T.getD i (.is undef) with
  | .is x => v = x
  | .row xs => ∃ g, v = .slice (some ⟨g, 0, none⟩) 3 3 ∧ B ≤ g ∧ w.heap[g]? = some (.cells xs 31 (0, 0))
theorem FR.go {B : Nat} {T : List Frw} {i : Nat} {v : Value} {w w' : World} (h : FR B T i v w) (hb : Below w.heap.size w w') : FR B T i v w' := by
  unfold FR at h ⊢
  cases e : T.getD i (.is undef) with
  | is x => rw [e] at h; exact h
  | row xs => rw [e] at h; obtain ⟨p, h1, h2, h3⟩ := h; exact ⟨p, h1, h2, (hb.block _ (Array.getElem?_eq_some_iff.1 h3).1).trans h3⟩
end Go.Proofs.YtmilgbkkibahlaaGreatDoor

