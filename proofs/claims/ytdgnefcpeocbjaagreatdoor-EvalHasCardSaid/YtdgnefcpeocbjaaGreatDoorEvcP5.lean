/- Several texts in one file: FiMkL, FiMkH, FiMkN, FiMkS, FiMake, Arg. -/
import Derived.Test.YtdgnefcpeocbjaaGreatDoorEvcP4
import Derived.Deep.RegionLaw
import Derived.Deep.AppendLies
import Derived.RegionTactic
import Derived.Laws.Rows
import Derived.Test.YtdgnefcpeocbjaaGreatDoorDnTextW
import Derived.OpenShut
import Derived.Carry
import Derived.ChangeSlices
import Derived.Deep.Strs
import Derived.Deep.SlicePairs
namespace Go.Proofs.YtdgnefcpeocbjaaGreatDoor
open Go.RowKit
set_option linter.unusedVariables false
set_option linter.unnecessarySimpa false
set_option linter.unusedSimpArgs false

def IsC (n0 : Nat) (w : World) (l : List UInt8) (a : Option Addr) (cap : Nat) : Prop :=
  l.length ≤ cap ∧ cap ≤ maxLen ∧ (l = [] ∨ ∃ b off, a = some ⟨b, off, none⟩ ∧ b < n0 ∧ ∀ j, (h : j < l.length) → w.cell? ⟨b, off + j, none⟩ = some (.int .u8 l[j].toNat))
def MakesF (S : ByteArray) (fu : Nat) : Prop := ∀ (l : List UInt8) (a : Option Addr) (cap : Nat) (w : World), l.length ≤ fu → IsC w.heap.size w l a cap →
  Calls Tryz.prog 15 #[.slice a l.length cap, .string S] w fun e w' => ∃ v, e = .returned v ∧ IsFl (fun b => w.heap.size ≤ b ∧ b < w'.heap.size) w' (makeFu S.data.toList fu l) v ∧ Below w.heap.size w w'
abbrev tyRow : Array Value := #[.string ⟨#[99, 110]⟩, .string ⟨#[115, 110]⟩, .string ⟨#[100, 101, 115, 99, 114, 105, 112, 116, 105, 111, 110]⟩, .string ⟨#[117, 105, 100, 78, 117, 109, 98, 101, 114]⟩, .string ⟨#[109, 97, 105, 108]⟩, .string ⟨#[111, 98, 106, 101, 99, 116, 67, 108, 97, 115, 115]⟩]
abbrev vlRow (S : ByteArray) : Array Value := #[.string ⟨#[110, 49]⟩, .string ⟨#[78, 50]⟩, .string S, .string ⟨#[53]⟩, .string ⟨#[100]⟩, .string ⟨#[112, 101, 114, 115, 111, 110]⟩]
theorem tyRow_at (n : Nat) : tyRow[n / 8 % 6]? = some (strV (mkTy n)) := by
  have h6 : n / 8 % 6 < 6 := Nat.mod_lt _ (by omega)
  unfold mkTy
  generalize n / 8 % 6 = k at h6 ⊢
  have : k = 0 ∨ k = 1 ∨ k = 2 ∨ k = 3 ∨ k = 4 ∨ k = 5 := by omega
  rcases this with rfl | rfl | rfl | rfl | rfl | rfl <;> rfl
theorem vlRow_at (S : ByteArray) (n : Nat) : (vlRow S)[n / 16 % 6]? = some (strV (mkVl S.data.toList n)) := by
  have h6 : n / 16 % 6 < 6 := Nat.mod_lt _ (by omega)
  unfold mkVl
  generalize n / 16 % 6 = k at h6 ⊢
  have : k = 0 ∨ k = 1 ∨ k = 2 ∨ k = 3 ∨ k = 4 ∨ k = 5 := by omega
  rcases this with rfl | rfl | rfl | rfl | rfl | rfl
  · rfl
  · rfl
  · show some (Value.string S) = some (strV S.data.toList); rw [strV_whole]
  · rfl
  · rfl
  · rfl
theorem mk_rows (w A1 A2 A3 A4 : World) (K : Int) (S : ByteArray) (n : Nat)
    (h1 : w.alloc (.cells #[.int .i64 0, .string ⟨#[]⟩, .string ⟨#[]⟩, .slice none 0 0, .slice none 0 0] 25) = A1)
    (h2 : A1.alloc (.cells #[.int .i64 K, .string ⟨#[]⟩, .string ⟨#[]⟩, .slice none 0 0, .slice none 0 0] 25) = A2)
    (h3 : A2.alloc (.cells #[.string ⟨#[99, 110]⟩, .string ⟨#[115, 110]⟩, .string ⟨#[100, 101, 115, 99, 114, 105, 112, 116, 105, 111, 110]⟩, .string ⟨#[117, 105, 100, 78, 117, 109, 98, 101, 114]⟩, .string ⟨#[109, 97, 105, 108]⟩, .string ⟨#[111, 98, 106, 101, 99, 116, 67, 108, 97, 115, 115]⟩] 9) = A3)
    (h4 : A3.alloc (.cells #[.string ⟨#[110, 49]⟩, .string ⟨#[78, 50]⟩, .string S, .string ⟨#[53]⟩, .string ⟨#[100]⟩, .string ⟨#[112, 101, 114, 115, 111, 110]⟩] 9) = A4) :
    FlAt A4 w.heap.size (.int .i64 0) (.string ⟨#[]⟩) (.string ⟨#[]⟩) (.slice none 0 0) (.slice none 0 0) ∧ FlAt A4 A1.heap.size (.int .i64 K) (.string ⟨#[]⟩) (.string ⟨#[]⟩) (.slice none 0 0) (.slice none 0 0) ∧
    A3.cell? ⟨A2.heap.size, n / 8 % 6, none⟩ = some (strV (mkTy n)) ∧ A4.cell? ⟨A3.heap.size, n / 16 % 6, none⟩ = some (strV (mkVl S.data.toList n)) ∧
    Below w.heap.size w A1 ∧ Below w.heap.size w A4 ∧ A1.heap.size = w.heap.size + 1 ∧ A4.heap.size = w.heap.size + 4 := by
  have z1 : A1.heap.size = w.heap.size + 1 := by rw [← h1]; simp
  have z2 : A2.heap.size = w.heap.size + 2 := by rw [← h2]; simp [z1]
  have z3 : A3.heap.size = w.heap.size + 3 := by rw [← h3]; simp [z2]
  have z4 : A4.heap.size = w.heap.size + 4 := by rw [← h4]; simp [z3]
  have b1 : Below w.heap.size w A1 := by rw [← h1]; exact box5 w _ _ _ _ _
  have b2 : Below A1.heap.size A1 A2 := by rw [← h2]; exact box5 A1 _ _ _ _ _
  have b3 : Below A2.heap.size A2 A3 := by rw [← h3]; exact (Below.refl _ _).alloc (Nat.le_refl _) _
  have b4 : Below A3.heap.size A3 A4 := by rw [← h4]; exact (Below.refl _ _).alloc (Nat.le_refl _) _
  have x1 : FlAt A1 w.heap.size (.int .i64 0) (.string ⟨#[]⟩) (.string ⟨#[]⟩) (.slice none 0 0) (.slice none 0 0) := by rw [← h1]; exact heap_alloc_new w _
  have x2 : FlAt A2 A1.heap.size (.int .i64 K) (.string ⟨#[]⟩) (.string ⟨#[]⟩) (.slice none 0 0) (.slice none 0 0) := by rw [← h2]; exact heap_alloc_new A1 _
  have x3 : A3.heap[A2.heap.size]? = some (.cells tyRow 9 (0, 0)) := by rw [← h3]; exact heap_alloc_new A2 _
  have x4 : A4.heap[A3.heap.size]? = some (.cells (vlRow S) 9 (0, 0)) := by rw [← h4]; exact heap_alloc_new A3 _
  refine ⟨fl_below (fl_below x1 b2 (by omega)) (bthen b3 b4) (by omega), fl_below x2 (bthen b3 b4) (by omega), ?_, ?_, b1, bthen b1 (bthen b2 (bthen b3 b4)), z1, z4⟩
  · unfold World.cell?; rw [x3]; exact tyRow_at n
  · unfold World.cell?; rw [x4]; exact vlRow_at S n
theorem isC_at {n0 : Nat} {w w' : World} {c : UInt8} {r : List UInt8} {a : Option Addr} {cap : Nat} (h : IsC n0 w (c :: r) a cap) (hb : Below n0 w w') : ∃ b off, a = some ⟨b, off, none⟩ ∧ w'.cell? ⟨b, off, none⟩ = some (.int .u8 c.toNat) ∧ b < n0 := by
  obtain ⟨_, _, h⟩ := h
  obtain ⟨b, off, e, hlt, hc⟩ := h.resolve_left (by simp)
  exact ⟨b, off, e, (hb.cell (p := ⟨b, off, none⟩) hlt).trans (by have := hc 0 (by simp); simpa using this), hlt⟩
theorem fl_set2 {W : World} {b : Nat} {y0 y1 y2 y3 y4 : Value} (h : FlAt W b y0 y1 y2 y3 y4) (x2 : Value) : FlAt (W.setCell ⟨b, 2, none⟩ x2) b y0 y1 x2 y3 y4 := by
  have h' : W.heap[b]? = some (.cells #[y0, y1, y2, y3, y4] 25 (0, 0)) := h
  show (W.setCell ⟨b, 2, none⟩ x2).heap[b]? = _
  simp [World.setCell, Array.getElem?_modify, h']
theorem fl_set3 {W : World} {b : Nat} {y0 y1 y2 y3 y4 : Value} (h : FlAt W b y0 y1 y2 y3 y4) (x3 : Value) : FlAt (W.setCell ⟨b, 3, none⟩ x3) b y0 y1 y2 x3 y4 := by
  have h' : W.heap[b]? = some (.cells #[y0, y1, y2, y3, y4] 25 (0, 0)) := h
  show (W.setCell ⟨b, 3, none⟩ x3).heap[b]? = _
  simp [World.setCell, Array.getElem?_modify, h']
theorem isTo_nil {ok : Nat → Prop} {w : World} : IsTo ok w [] (.slice none 0 0) := ⟨none, 0, rfl, Nat.zero_le _, fun j h => absurd h (Nat.not_lt_zero _)⟩
set_option maxRecDepth 100000 in
set_option maxHeartbeats 8000000 in
theorem mkLeaf4 (S : ByteArray) (hS : S.size ≤ 1000) (fu : Nat) (c : UInt8) (r : List UInt8) (n : Nat) (hn : c.toNat = n) (hk : c.toNat % 8 = 3) (a : Option Addr) (cap : Nat) (w : World) (hC : IsC w.heap.size w (c :: r) a cap) :
    Calls Tryz.prog 15 #[.slice a (c :: r).length cap, .string S] w fun e w' => ∃ v, e = .returned v ∧ IsFl (fun b => w.heap.size ≤ b ∧ b < w'.heap.size) w' (makeFu S.data.toList (fu + 1) (c :: r)) v ∧ Below w.heap.size w w' := by
  rw [show makeFu S.data.toList (fu + 1) (c :: r) = FT.mk 4 (mkTy n) (mkVl S.data.toList n) [] [] from by
    show (if c.toNat % 8 = 0 then _ else _) = _
    rw [hn] at hk ⊢
    rw [if_neg (by omega)]; rw [if_neg (by omega)]; rw [if_neg (by omega)]; rw [if_neg (by omega)]; rw [if_neg (by omega)]; rw [hk]; rfl]
  have hcl := c.toNat_lt
  have hcap := hC.2.1
  have hlen := hC.1
  obtain ⟨m, hm⟩ : ∃ m, m = (c :: r).length := ⟨_, rfl⟩
  have hm1 : 1 ≤ m := by rw [hm]; simp
  rw [← hm] at hlen ⊢
  rw [hn] at hk hcl
  unfold maxLen at hcap
  obtain ⟨TY, hTY, hTYl⟩ := strV_text (mkTy n)
  obtain ⟨VL, hVL, hVLl⟩ := strV_text (mkVl S.data.toList n)
  obtain ⟨A1, hA1⟩ : ∃ A, w.alloc (.cells #[.int .i64 0, .string ⟨#[]⟩, .string ⟨#[]⟩, .slice none 0 0, .slice none 0 0] 25) = A := ⟨_, rfl⟩
  obtain ⟨A2, hA2⟩ : ∃ A, A1.alloc (.cells #[.int .i64 4, .string ⟨#[]⟩, .string ⟨#[]⟩, .slice none 0 0, .slice none 0 0] 25) = A := ⟨_, rfl⟩
  obtain ⟨A3, hA3⟩ : ∃ A, A2.alloc (.cells #[.string ⟨#[99, 110]⟩, .string ⟨#[115, 110]⟩, .string ⟨#[100, 101, 115, 99, 114, 105, 112, 116, 105, 111, 110]⟩, .string ⟨#[117, 105, 100, 78, 117, 109, 98, 101, 114]⟩, .string ⟨#[109, 97, 105, 108]⟩, .string ⟨#[111, 98, 106, 101, 99, 116, 67, 108, 97, 115, 115]⟩] 9) = A := ⟨_, rfl⟩
  obtain ⟨A4, hA4⟩ : ∃ A, A3.alloc (.cells #[.string ⟨#[110, 49]⟩, .string ⟨#[78, 50]⟩, .string S, .string ⟨#[53]⟩, .string ⟨#[100]⟩, .string ⟨#[112, 101, 114, 115, 111, 110]⟩] 9) = A := ⟨_, rfl⟩
  obtain ⟨x4, x6, hty, hvl, hb1, hb4, z1, z4⟩ := mk_rows w A1 A2 A3 A4 4 S n hA1 hA2 hA3 hA4
  obtain ⟨b, off, rfl, hc0, _⟩ := isC_at hC hb1
  have HA2 := Lib.hid hA2
  clear hA2
  rw [hTY] at hty
  rw [hVL] at hvl
  rw [hn] at hc0
  obtain ⟨k6, hk6⟩ : ∃ k, k = n / 8 % 6 := ⟨_, rfl⟩
  obtain ⟨v6, hv6⟩ : ∃ k, k = n / 16 % 6 := ⟨_, rfl⟩
  rw [← hk6] at hty
  rw [← hv6] at hvl
  have e8 : (n : Int) % 8 = 3 := by omega
  have e8' : Int.tmod (n : Int) 8 = 3 := by rw [Int.tmod_eq_emod_of_nonneg (by omega)]; omega
  have e6 : (n : Int) / 8 % 6 = (k6 : Int) := by omega
  have e16 : (n : Int) / 16 % 6 = (v6 : Int) := by omega
  have hk65 : k6 < 6 := by omega
  have hv65 : v6 < 6 := by omega
  have tw : IntKind.i64.wrap (n : Int) = (n : Int) := IntWalk.i64_in _ (by omega)
  have hl0 : (((m : Nat) : Int) == 0) = false := by simp; omega
  obtain ⟨A6, hA6⟩ : ∃ A, (A4.setCell ⟨A1.heap.size, 1, none⟩ (.string TY)).setCell ⟨A1.heap.size, 2, none⟩ (.string VL) = A := ⟨_, rfl⟩
  have x61 := fl_set1 x6 (.string TY)
  have x62 : FlAt A6 A1.heap.size (.int .i64 4) (.string TY) (.string VL) (.slice none 0 0) (.slice none 0 0) := by rw [← hA6]; exact fl_set2 x61 (.string VL)
  have x42 : FlAt A6 w.heap.size (.int .i64 0) (.string ⟨#[]⟩) (.string ⟨#[]⟩) (.slice none 0 0) (.slice none 0 0) := by
    rw [← hA6]; exact (blockFl_ne _ ⟨A1.heap.size, 2, none⟩ _ (by show w.heap.size ≠ A1.heap.size; omega)).trans ((blockFl_ne _ ⟨A1.heap.size, 1, none⟩ _ (by show w.heap.size ≠ A1.heap.size; omega)).trans x4)
  have hb6 : Below w.heap.size w A6 := by rw [← hA6]; exact (hb4.setCell (p := ⟨A1.heap.size, 1, none⟩) (by show w.heap.size ≤ A1.heap.size; omega) _).setCell (p := ⟨A1.heap.size, 2, none⟩) (by show w.heap.size ≤ A1.heap.size; omega) _
  obtain ⟨g0, g1, g2, g3, g4⟩ := fl_cells x6
  obtain ⟨f0, f1, f2, f3, f4⟩ := fl_frozen x6
  have g2' := (fl_cells x61).2.2.1
  have f2' := (fl_frozen x61).2.2.1
  have HA6 := Lib.hid hA6
  have HX62 := Lib.hid x62
  have HX42 := Lib.hid x42
  have HB6 := Lib.hid hb6
  have HTYl := Lib.hid hTYl
  have HVLl := Lib.hid hVLl
  have hz16 : A1.heap.size ≠ w.heap.size := by omega
  clear hA6 x61 x62 x42 hb6 hTYl hVLl hTY hVL x4 x6 hb1 hb4 z1 z4 hC hm hk6 hv6 hn hk
  go_enter Tryz.func15, Tryz.ntmps15
  go_upto_region 5 with (fail)
  rw [HA2.out]
  go_upto_region 24 with (fail)
  rw [HA6.out]
  obtain ⟨c0, c1, c2, c3, c4⟩ := fl_cells HX62.out
  obtain ⟨d0, d1, d2, d3, d4⟩ := fl_cells HX42.out
  obtain ⟨q0, q1, q2, q3, q4⟩ := fl_frozen HX42.out
  obtain ⟨y0, y1, y2, y3, y4⟩ := fl_cells (fl_set HX42.out (.int .i64 4) (.string TY) (.string VL) (.slice none 0 0) (.slice none 0 0))
  unfold set5F at y0 y1 y2 y3 y4
  go_wp2
  have hbz := fl_setB HB6.out (Nat.le_refl w.heap.size) (.int .i64 4) (.string TY) (.string VL) (.slice none 0 0) (.slice none 0 0)
  refine bodyPost_ret (v := .agg #[.int .i64 4, .string TY, .string VL, .slice none 0 0, .slice none 0 0]) (by simp [results, Tryz.results15, go_sem, y0, y1, y2, y3, y4]) rfl ⟨_, rfl, ?_, hbz⟩
  have := mkFl (ok := fun b => w.heap.size ≤ b ∧ b < (set5F A6 w.heap.size (.int .i64 4) (.string TY) (.string VL) (.slice none 0 0) (.slice none 0 0)).heap.size) (w := set5F A6 w.heap.size (.int .i64 4) (.string TY) (.string VL) (.slice none 0 0) (.slice none 0 0)) (k := 4) (t := TY.data.toList) (x := VL.data.toList) (p := []) (u := .slice none 0 0) (by decide) (by rw [HTYl.out]; exact Nat.le_trans (mkTy_len n) (by unfold maxLen; omega)) (by rw [HVLl.out]; refine Nat.le_trans (mkVl_len _ n) ?_; rw [bytes_len]; unfold maxLen; omega) isTo_nil
  rw [strV_whole, strV_whole, HTYl.out, HVLl.out] at this
  exact this
set_option maxRecDepth 100000 in
set_option maxHeartbeats 8000000 in
theorem mkLeaf6 (S : ByteArray) (hS : S.size ≤ 1000) (fu : Nat) (c : UInt8) (r : List UInt8) (n : Nat) (hn : c.toNat = n) (hk : c.toNat % 8 = 5) (a : Option Addr) (cap : Nat) (w : World) (hC : IsC w.heap.size w (c :: r) a cap) :
    Calls Tryz.prog 15 #[.slice a (c :: r).length cap, .string S] w fun e w' => ∃ v, e = .returned v ∧ IsFl (fun b => w.heap.size ≤ b ∧ b < w'.heap.size) w' (makeFu S.data.toList (fu + 1) (c :: r)) v ∧ Below w.heap.size w w' := by
  rw [show makeFu S.data.toList (fu + 1) (c :: r) = FT.mk 6 (mkTy n) (mkVl S.data.toList n) [] [] from by
    show (if c.toNat % 8 = 0 then _ else _) = _
    rw [hn] at hk ⊢
    rw [if_neg (by omega)]; rw [if_neg (by omega)]; rw [if_neg (by omega)]; rw [if_neg (by omega)]; rw [if_neg (by omega)]; rw [hk]; rfl]
  have hcl := c.toNat_lt
  have hcap := hC.2.1
  have hlen := hC.1
  obtain ⟨m, hm⟩ : ∃ m, m = (c :: r).length := ⟨_, rfl⟩
  have hm1 : 1 ≤ m := by rw [hm]; simp
  rw [← hm] at hlen ⊢
  rw [hn] at hk hcl
  unfold maxLen at hcap
  obtain ⟨TY, hTY, hTYl⟩ := strV_text (mkTy n)
  obtain ⟨VL, hVL, hVLl⟩ := strV_text (mkVl S.data.toList n)
  obtain ⟨A1, hA1⟩ : ∃ A, w.alloc (.cells #[.int .i64 0, .string ⟨#[]⟩, .string ⟨#[]⟩, .slice none 0 0, .slice none 0 0] 25) = A := ⟨_, rfl⟩
  obtain ⟨A2, hA2⟩ : ∃ A, A1.alloc (.cells #[.int .i64 6, .string ⟨#[]⟩, .string ⟨#[]⟩, .slice none 0 0, .slice none 0 0] 25) = A := ⟨_, rfl⟩
  obtain ⟨A3, hA3⟩ : ∃ A, A2.alloc (.cells #[.string ⟨#[99, 110]⟩, .string ⟨#[115, 110]⟩, .string ⟨#[100, 101, 115, 99, 114, 105, 112, 116, 105, 111, 110]⟩, .string ⟨#[117, 105, 100, 78, 117, 109, 98, 101, 114]⟩, .string ⟨#[109, 97, 105, 108]⟩, .string ⟨#[111, 98, 106, 101, 99, 116, 67, 108, 97, 115, 115]⟩] 9) = A := ⟨_, rfl⟩
  obtain ⟨A4, hA4⟩ : ∃ A, A3.alloc (.cells #[.string ⟨#[110, 49]⟩, .string ⟨#[78, 50]⟩, .string S, .string ⟨#[53]⟩, .string ⟨#[100]⟩, .string ⟨#[112, 101, 114, 115, 111, 110]⟩] 9) = A := ⟨_, rfl⟩
  obtain ⟨x4, x6, hty, hvl, hb1, hb4, z1, z4⟩ := mk_rows w A1 A2 A3 A4 6 S n hA1 hA2 hA3 hA4
  obtain ⟨b, off, rfl, hc0, _⟩ := isC_at hC hb1
  have HA2 := Lib.hid hA2
  clear hA2
  rw [hTY] at hty
  rw [hVL] at hvl
  rw [hn] at hc0
  obtain ⟨k6, hk6⟩ : ∃ k, k = n / 8 % 6 := ⟨_, rfl⟩
  obtain ⟨v6, hv6⟩ : ∃ k, k = n / 16 % 6 := ⟨_, rfl⟩
  rw [← hk6] at hty
  rw [← hv6] at hvl
  have e8 : (n : Int) % 8 = 5 := by omega
  have e8' : Int.tmod (n : Int) 8 = 5 := by rw [Int.tmod_eq_emod_of_nonneg (by omega)]; omega
  have e6 : (n : Int) / 8 % 6 = (k6 : Int) := by omega
  have e16 : (n : Int) / 16 % 6 = (v6 : Int) := by omega
  have hk65 : k6 < 6 := by omega
  have hv65 : v6 < 6 := by omega
  have tw : IntKind.i64.wrap (n : Int) = (n : Int) := IntWalk.i64_in _ (by omega)
  have hl0 : (((m : Nat) : Int) == 0) = false := by simp; omega
  obtain ⟨A6, hA6⟩ : ∃ A, (A4.setCell ⟨A1.heap.size, 1, none⟩ (.string TY)).setCell ⟨A1.heap.size, 2, none⟩ (.string VL) = A := ⟨_, rfl⟩
  have x61 := fl_set1 x6 (.string TY)
  have x62 : FlAt A6 A1.heap.size (.int .i64 6) (.string TY) (.string VL) (.slice none 0 0) (.slice none 0 0) := by rw [← hA6]; exact fl_set2 x61 (.string VL)
  have x42 : FlAt A6 w.heap.size (.int .i64 0) (.string ⟨#[]⟩) (.string ⟨#[]⟩) (.slice none 0 0) (.slice none 0 0) := by
    rw [← hA6]; exact (blockFl_ne _ ⟨A1.heap.size, 2, none⟩ _ (by show w.heap.size ≠ A1.heap.size; omega)).trans ((blockFl_ne _ ⟨A1.heap.size, 1, none⟩ _ (by show w.heap.size ≠ A1.heap.size; omega)).trans x4)
  have hb6 : Below w.heap.size w A6 := by rw [← hA6]; exact (hb4.setCell (p := ⟨A1.heap.size, 1, none⟩) (by show w.heap.size ≤ A1.heap.size; omega) _).setCell (p := ⟨A1.heap.size, 2, none⟩) (by show w.heap.size ≤ A1.heap.size; omega) _
  obtain ⟨g0, g1, g2, g3, g4⟩ := fl_cells x6
  obtain ⟨f0, f1, f2, f3, f4⟩ := fl_frozen x6
  have g2' := (fl_cells x61).2.2.1
  have f2' := (fl_frozen x61).2.2.1
  have HA6 := Lib.hid hA6
  have HX62 := Lib.hid x62
  have HX42 := Lib.hid x42
  have HB6 := Lib.hid hb6
  have HTYl := Lib.hid hTYl
  have HVLl := Lib.hid hVLl
  have hz16 : A1.heap.size ≠ w.heap.size := by omega
  clear hA6 x61 x62 x42 hb6 hTYl hVLl hTY hVL x4 x6 hb1 hb4 z1 z4 hC hm hk6 hv6 hn hk
  go_enter Tryz.func15, Tryz.ntmps15
  go_upto_region 5 with (fail)
  rw [HA2.out]
  go_upto_region 24 with (fail)
  rw [HA6.out]
  obtain ⟨c0, c1, c2, c3, c4⟩ := fl_cells HX62.out
  obtain ⟨d0, d1, d2, d3, d4⟩ := fl_cells HX42.out
  obtain ⟨q0, q1, q2, q3, q4⟩ := fl_frozen HX42.out
  obtain ⟨y0, y1, y2, y3, y4⟩ := fl_cells (fl_set HX42.out (.int .i64 6) (.string TY) (.string VL) (.slice none 0 0) (.slice none 0 0))
  unfold set5F at y0 y1 y2 y3 y4
  go_wp2
  have hbz := fl_setB HB6.out (Nat.le_refl w.heap.size) (.int .i64 6) (.string TY) (.string VL) (.slice none 0 0) (.slice none 0 0)
  refine bodyPost_ret (v := .agg #[.int .i64 6, .string TY, .string VL, .slice none 0 0, .slice none 0 0]) (by simp [results, Tryz.results15, go_sem, y0, y1, y2, y3, y4]) rfl ⟨_, rfl, ?_, hbz⟩
  have := mkFl (ok := fun b => w.heap.size ≤ b ∧ b < (set5F A6 w.heap.size (.int .i64 6) (.string TY) (.string VL) (.slice none 0 0) (.slice none 0 0)).heap.size) (w := set5F A6 w.heap.size (.int .i64 6) (.string TY) (.string VL) (.slice none 0 0) (.slice none 0 0)) (k := 6) (t := TY.data.toList) (x := VL.data.toList) (p := []) (u := .slice none 0 0) (by decide) (by rw [HTYl.out]; exact Nat.le_trans (mkTy_len n) (by unfold maxLen; omega)) (by rw [HVLl.out]; refine Nat.le_trans (mkVl_len _ n) ?_; rw [bytes_len]; unfold maxLen; omega) isTo_nil
  rw [strV_whole, strV_whole, HTYl.out, HVLl.out] at this
  exact this
set_option maxRecDepth 100000 in
set_option maxHeartbeats 8000000 in
theorem mkLeaf7 (S : ByteArray) (hS : S.size ≤ 1000) (fu : Nat) (c : UInt8) (r : List UInt8) (n : Nat) (hn : c.toNat = n) (hk : c.toNat % 8 = 6) (a : Option Addr) (cap : Nat) (w : World) (hC : IsC w.heap.size w (c :: r) a cap) :
    Calls Tryz.prog 15 #[.slice a (c :: r).length cap, .string S] w fun e w' => ∃ v, e = .returned v ∧ IsFl (fun b => w.heap.size ≤ b ∧ b < w'.heap.size) w' (makeFu S.data.toList (fu + 1) (c :: r)) v ∧ Below w.heap.size w w' := by
  rw [show makeFu S.data.toList (fu + 1) (c :: r) = FT.mk 7 (mkTy n) (mkVl S.data.toList n) [] [] from by
    show (if c.toNat % 8 = 0 then _ else _) = _
    rw [hn] at hk ⊢
    rw [if_neg (by omega)]; rw [if_neg (by omega)]; rw [if_neg (by omega)]; rw [if_neg (by omega)]; rw [if_neg (by omega)]; rw [hk]; rfl]
  have hcl := c.toNat_lt
  have hcap := hC.2.1
  have hlen := hC.1
  obtain ⟨m, hm⟩ : ∃ m, m = (c :: r).length := ⟨_, rfl⟩
  have hm1 : 1 ≤ m := by rw [hm]; simp
  rw [← hm] at hlen ⊢
  rw [hn] at hk hcl
  unfold maxLen at hcap
  obtain ⟨TY, hTY, hTYl⟩ := strV_text (mkTy n)
  obtain ⟨VL, hVL, hVLl⟩ := strV_text (mkVl S.data.toList n)
  obtain ⟨A1, hA1⟩ : ∃ A, w.alloc (.cells #[.int .i64 0, .string ⟨#[]⟩, .string ⟨#[]⟩, .slice none 0 0, .slice none 0 0] 25) = A := ⟨_, rfl⟩
  obtain ⟨A2, hA2⟩ : ∃ A, A1.alloc (.cells #[.int .i64 7, .string ⟨#[]⟩, .string ⟨#[]⟩, .slice none 0 0, .slice none 0 0] 25) = A := ⟨_, rfl⟩
  obtain ⟨A3, hA3⟩ : ∃ A, A2.alloc (.cells #[.string ⟨#[99, 110]⟩, .string ⟨#[115, 110]⟩, .string ⟨#[100, 101, 115, 99, 114, 105, 112, 116, 105, 111, 110]⟩, .string ⟨#[117, 105, 100, 78, 117, 109, 98, 101, 114]⟩, .string ⟨#[109, 97, 105, 108]⟩, .string ⟨#[111, 98, 106, 101, 99, 116, 67, 108, 97, 115, 115]⟩] 9) = A := ⟨_, rfl⟩
  obtain ⟨A4, hA4⟩ : ∃ A, A3.alloc (.cells #[.string ⟨#[110, 49]⟩, .string ⟨#[78, 50]⟩, .string S, .string ⟨#[53]⟩, .string ⟨#[100]⟩, .string ⟨#[112, 101, 114, 115, 111, 110]⟩] 9) = A := ⟨_, rfl⟩
  obtain ⟨x4, x6, hty, hvl, hb1, hb4, z1, z4⟩ := mk_rows w A1 A2 A3 A4 7 S n hA1 hA2 hA3 hA4
  obtain ⟨b, off, rfl, hc0, _⟩ := isC_at hC hb1
  have HA2 := Lib.hid hA2
  clear hA2
  rw [hTY] at hty
  rw [hVL] at hvl
  rw [hn] at hc0
  obtain ⟨k6, hk6⟩ : ∃ k, k = n / 8 % 6 := ⟨_, rfl⟩
  obtain ⟨v6, hv6⟩ : ∃ k, k = n / 16 % 6 := ⟨_, rfl⟩
  rw [← hk6] at hty
  rw [← hv6] at hvl
  have e8 : (n : Int) % 8 = 6 := by omega
  have e8' : Int.tmod (n : Int) 8 = 6 := by rw [Int.tmod_eq_emod_of_nonneg (by omega)]; omega
  have e6 : (n : Int) / 8 % 6 = (k6 : Int) := by omega
  have e16 : (n : Int) / 16 % 6 = (v6 : Int) := by omega
  have hk65 : k6 < 6 := by omega
  have hv65 : v6 < 6 := by omega
  have tw : IntKind.i64.wrap (n : Int) = (n : Int) := IntWalk.i64_in _ (by omega)
  have hl0 : (((m : Nat) : Int) == 0) = false := by simp; omega
  obtain ⟨A6, hA6⟩ : ∃ A, (A4.setCell ⟨A1.heap.size, 1, none⟩ (.string TY)).setCell ⟨A1.heap.size, 2, none⟩ (.string VL) = A := ⟨_, rfl⟩
  have x61 := fl_set1 x6 (.string TY)
  have x62 : FlAt A6 A1.heap.size (.int .i64 7) (.string TY) (.string VL) (.slice none 0 0) (.slice none 0 0) := by rw [← hA6]; exact fl_set2 x61 (.string VL)
  have x42 : FlAt A6 w.heap.size (.int .i64 0) (.string ⟨#[]⟩) (.string ⟨#[]⟩) (.slice none 0 0) (.slice none 0 0) := by
    rw [← hA6]; exact (blockFl_ne _ ⟨A1.heap.size, 2, none⟩ _ (by show w.heap.size ≠ A1.heap.size; omega)).trans ((blockFl_ne _ ⟨A1.heap.size, 1, none⟩ _ (by show w.heap.size ≠ A1.heap.size; omega)).trans x4)
  have hb6 : Below w.heap.size w A6 := by rw [← hA6]; exact (hb4.setCell (p := ⟨A1.heap.size, 1, none⟩) (by show w.heap.size ≤ A1.heap.size; omega) _).setCell (p := ⟨A1.heap.size, 2, none⟩) (by show w.heap.size ≤ A1.heap.size; omega) _
  obtain ⟨g0, g1, g2, g3, g4⟩ := fl_cells x6
  obtain ⟨f0, f1, f2, f3, f4⟩ := fl_frozen x6
  have g2' := (fl_cells x61).2.2.1
  have f2' := (fl_frozen x61).2.2.1
  have HA6 := Lib.hid hA6
  have HX62 := Lib.hid x62
  have HX42 := Lib.hid x42
  have HB6 := Lib.hid hb6
  have HTYl := Lib.hid hTYl
  have HVLl := Lib.hid hVLl
  have hz16 : A1.heap.size ≠ w.heap.size := by omega
  clear hA6 x61 x62 x42 hb6 hTYl hVLl hTY hVL x4 x6 hb1 hb4 z1 z4 hC hm hk6 hv6 hn hk
  go_enter Tryz.func15, Tryz.ntmps15
  go_upto_region 5 with (fail)
  rw [HA2.out]
  go_upto_region 24 with (fail)
  rw [HA6.out]
  obtain ⟨c0, c1, c2, c3, c4⟩ := fl_cells HX62.out
  obtain ⟨d0, d1, d2, d3, d4⟩ := fl_cells HX42.out
  obtain ⟨q0, q1, q2, q3, q4⟩ := fl_frozen HX42.out
  obtain ⟨y0, y1, y2, y3, y4⟩ := fl_cells (fl_set HX42.out (.int .i64 7) (.string TY) (.string VL) (.slice none 0 0) (.slice none 0 0))
  unfold set5F at y0 y1 y2 y3 y4
  go_wp2
  have hbz := fl_setB HB6.out (Nat.le_refl w.heap.size) (.int .i64 7) (.string TY) (.string VL) (.slice none 0 0) (.slice none 0 0)
  refine bodyPost_ret (v := .agg #[.int .i64 7, .string TY, .string VL, .slice none 0 0, .slice none 0 0]) (by simp [results, Tryz.results15, go_sem, y0, y1, y2, y3, y4]) rfl ⟨_, rfl, ?_, hbz⟩
  have := mkFl (ok := fun b => w.heap.size ≤ b ∧ b < (set5F A6 w.heap.size (.int .i64 7) (.string TY) (.string VL) (.slice none 0 0) (.slice none 0 0)).heap.size) (w := set5F A6 w.heap.size (.int .i64 7) (.string TY) (.string VL) (.slice none 0 0) (.slice none 0 0)) (k := 7) (t := TY.data.toList) (x := VL.data.toList) (p := []) (u := .slice none 0 0) (by decide) (by rw [HTYl.out]; exact Nat.le_trans (mkTy_len n) (by unfold maxLen; omega)) (by rw [HVLl.out]; refine Nat.le_trans (mkVl_len _ n) ?_; rw [bytes_len]; unfold maxLen; omega) isTo_nil
  rw [strV_whole, strV_whole, HTYl.out, HVLl.out] at this
  exact this
set_option maxRecDepth 100000 in
set_option maxHeartbeats 8000000 in
theorem mkLeaf8 (S : ByteArray) (hS : S.size ≤ 1000) (fu : Nat) (c : UInt8) (r : List UInt8) (n : Nat) (hn : c.toNat = n) (hk : c.toNat % 8 = 7) (a : Option Addr) (cap : Nat) (w : World) (hC : IsC w.heap.size w (c :: r) a cap) :
    Calls Tryz.prog 15 #[.slice a (c :: r).length cap, .string S] w fun e w' => ∃ v, e = .returned v ∧ IsFl (fun b => w.heap.size ≤ b ∧ b < w'.heap.size) w' (makeFu S.data.toList (fu + 1) (c :: r)) v ∧ Below w.heap.size w w' := by
  rw [show makeFu S.data.toList (fu + 1) (c :: r) = FT.mk 8 (mkTy n) [] [] [] from by
    show (if c.toNat % 8 = 0 then _ else _) = _
    rw [hn] at hk ⊢
    rw [if_neg (by omega)]; rw [if_neg (by omega)]; rw [if_neg (by omega)]; rw [if_pos hk]]
  have hcl := c.toNat_lt
  have hcap := hC.2.1
  have hlen := hC.1
  obtain ⟨m, hm⟩ : ∃ m, m = (c :: r).length := ⟨_, rfl⟩
  have hm1 : 1 ≤ m := by rw [hm]; simp
  rw [← hm] at hlen ⊢
  rw [hn] at hk hcl
  unfold maxLen at hcap
  obtain ⟨TY, hTY, hTYl⟩ := strV_text (mkTy n)
  obtain ⟨VL, hVL, hVLl⟩ := strV_text (mkVl S.data.toList n)
  obtain ⟨A1, hA1⟩ : ∃ A, w.alloc (.cells #[.int .i64 0, .string ⟨#[]⟩, .string ⟨#[]⟩, .slice none 0 0, .slice none 0 0] 25) = A := ⟨_, rfl⟩
  obtain ⟨A2, hA2⟩ : ∃ A, A1.alloc (.cells #[.int .i64 8, .string ⟨#[]⟩, .string ⟨#[]⟩, .slice none 0 0, .slice none 0 0] 25) = A := ⟨_, rfl⟩
  obtain ⟨A3, hA3⟩ : ∃ A, A2.alloc (.cells #[.string ⟨#[99, 110]⟩, .string ⟨#[115, 110]⟩, .string ⟨#[100, 101, 115, 99, 114, 105, 112, 116, 105, 111, 110]⟩, .string ⟨#[117, 105, 100, 78, 117, 109, 98, 101, 114]⟩, .string ⟨#[109, 97, 105, 108]⟩, .string ⟨#[111, 98, 106, 101, 99, 116, 67, 108, 97, 115, 115]⟩] 9) = A := ⟨_, rfl⟩
  obtain ⟨A4, hA4⟩ : ∃ A, A3.alloc (.cells #[.string ⟨#[110, 49]⟩, .string ⟨#[78, 50]⟩, .string S, .string ⟨#[53]⟩, .string ⟨#[100]⟩, .string ⟨#[112, 101, 114, 115, 111, 110]⟩] 9) = A := ⟨_, rfl⟩
  obtain ⟨x4, x6, hty, hvl, hb1, hb4, z1, z4⟩ := mk_rows w A1 A2 A3 A4 8 S n hA1 hA2 hA3 hA4
  obtain ⟨b, off, rfl, hc0, _⟩ := isC_at hC hb1
  have HA2 := Lib.hid hA2
  clear hA2
  rw [hTY] at hty
  rw [hVL] at hvl
  rw [hn] at hc0
  obtain ⟨k6, hk6⟩ : ∃ k, k = n / 8 % 6 := ⟨_, rfl⟩
  obtain ⟨v6, hv6⟩ : ∃ k, k = n / 16 % 6 := ⟨_, rfl⟩
  rw [← hk6] at hty
  rw [← hv6] at hvl
  have e8 : (n : Int) % 8 = 7 := by omega
  have e8' : Int.tmod (n : Int) 8 = 7 := by rw [Int.tmod_eq_emod_of_nonneg (by omega)]; omega
  have e6 : (n : Int) / 8 % 6 = (k6 : Int) := by omega
  have e16 : (n : Int) / 16 % 6 = (v6 : Int) := by omega
  have hk65 : k6 < 6 := by omega
  have hv65 : v6 < 6 := by omega
  have tw : IntKind.i64.wrap (n : Int) = (n : Int) := IntWalk.i64_in _ (by omega)
  have hl0 : (((m : Nat) : Int) == 0) = false := by simp; omega
  obtain ⟨A6, hA6⟩ : ∃ A, A4.setCell ⟨A1.heap.size, 1, none⟩ (.string TY) = A := ⟨_, rfl⟩
  have x62 : FlAt A6 A1.heap.size (.int .i64 8) (.string TY) (.string ⟨#[]⟩) (.slice none 0 0) (.slice none 0 0) := by rw [← hA6]; exact fl_set1 x6 (.string TY)
  have x42 : FlAt A6 w.heap.size (.int .i64 0) (.string ⟨#[]⟩) (.string ⟨#[]⟩) (.slice none 0 0) (.slice none 0 0) := by
    rw [← hA6]; exact (blockFl_ne _ ⟨A1.heap.size, 1, none⟩ _ (by show w.heap.size ≠ A1.heap.size; omega)).trans x4
  have hb6 : Below w.heap.size w A6 := by rw [← hA6]; exact hb4.setCell (p := ⟨A1.heap.size, 1, none⟩) (by show w.heap.size ≤ A1.heap.size; omega) _
  obtain ⟨g0, g1, g2, g3, g4⟩ := fl_cells x6
  obtain ⟨f0, f1, f2, f3, f4⟩ := fl_frozen x6
  have HA6 := Lib.hid hA6
  have HX62 := Lib.hid x62
  have HX42 := Lib.hid x42
  have HB6 := Lib.hid hb6
  have HTYl := Lib.hid hTYl
  clear hA6 x62 x42 hb6 hTYl hVLl hTY hVL x4 x6 hb1 hb4 z1 z4 hC hm hk6 hv6 hn hk
  go_enter Tryz.func15, Tryz.ntmps15
  go_upto_region 5 with (fail)
  rw [HA2.out]
  go_upto_region 24 with (fail)
  rw [HA6.out]
  obtain ⟨c0, c1, c2, c3, c4⟩ := fl_cells HX62.out
  obtain ⟨d0, d1, d2, d3, d4⟩ := fl_cells HX42.out
  obtain ⟨q0, q1, q2, q3, q4⟩ := fl_frozen HX42.out
  obtain ⟨y0, y1, y2, y3, y4⟩ := fl_cells (fl_set HX42.out (.int .i64 8) (.string TY) (.string ⟨#[]⟩) (.slice none 0 0) (.slice none 0 0))
  unfold set5F at y0 y1 y2 y3 y4
  go_wp2
  have hbz := fl_setB HB6.out (Nat.le_refl w.heap.size) (.int .i64 8) (.string TY) (.string ⟨#[]⟩) (.slice none 0 0) (.slice none 0 0)
  refine bodyPost_ret (v := .agg #[.int .i64 8, .string TY, .string ⟨#[]⟩, .slice none 0 0, .slice none 0 0]) (by simp [results, Tryz.results15, go_sem, y0, y1, y2, y3, y4]) rfl ⟨_, rfl, ?_, hbz⟩
  have := mkFl (ok := fun b => w.heap.size ≤ b ∧ b < (set5F A6 w.heap.size (.int .i64 8) (.string TY) (.string ⟨#[]⟩) (.slice none 0 0) (.slice none 0 0)).heap.size) (w := set5F A6 w.heap.size (.int .i64 8) (.string TY) (.string ⟨#[]⟩) (.slice none 0 0) (.slice none 0 0)) (k := 8) (t := TY.data.toList) (x := []) (p := []) (u := .slice none 0 0) (by decide) (by rw [HTYl.out]; exact Nat.le_trans (mkTy_len n) (by unfold maxLen; omega)) (Nat.zero_le _) isTo_nil
  rw [strV_whole, HTYl.out] at this
  exact this
end Go.Proofs.YtdgnefcpeocbjaaGreatDoor


namespace Go.Proofs.YtdgnefcpeocbjaaGreatDoor
open Go.RowKit
set_option linter.unusedVariables false
set_option linter.unnecessarySimpa false
set_option linter.unusedSimpArgs false

theorem isC_all {n0 : Nat} {w : World} {c : UInt8} {r : List UInt8} {a : Option Addr} {cap : Nat} (h : IsC n0 w (c :: r) a cap) : ∃ b off, a = some ⟨b, off, none⟩ ∧ (∀ j, (h : j < (c :: r).length) → w.cell? ⟨b, off + j, none⟩ = some (.int .u8 (c :: r)[j].toNat)) ∧ b < n0 := by
  obtain ⟨_, _, h⟩ := h
  obtain ⟨b, off, e, hlt, hc⟩ := h.resolve_left (by simp)
  exact ⟨b, off, e, hc, hlt⟩
def MadeF (w : World) (B6 : Nat) (K : Int) (wr : World) (l : List FT) (v : Value) : Prop :=
  FlAt wr w.heap.size (.int .i64 0) (.string ⟨#[]⟩) (.string ⟨#[]⟩) (.slice none 0 0) (.slice none 0 0) ∧ FlAt wr B6 (.int .i64 K) (.string ⟨#[]⟩) (.string ⟨#[]⟩) (.slice none 0 0) v ∧
  (∃ xs, wr.ownsRow (w.heap.size + 4) 25 5 v l.length xs ∧ ElsF (NewB (w.heap.size + 4) wr v.ownBlock) wr l xs) ∧ Below w.heap.size w wr
theorem ownsRow_sliceF {w : World} {base e size n : Nat} {v : Value} {xs : List Value} (h : w.ownsRow base e size v n xs) : ∃ a k c, v = .slice a k c := by
  rcases h.2 with ⟨rfl, _⟩ | ⟨g, cap, cur, rfl, _⟩
  · exact ⟨_, _, _, rfl⟩
  · exact ⟨_, _, _, rfl⟩
theorem fl_set4 {W : World} {b : Nat} {y0 y1 y2 y3 y4 : Value} (h : FlAt W b y0 y1 y2 y3 y4) (x4 : Value) : FlAt (W.setCell ⟨b, 4, none⟩ x4) b y0 y1 y2 y3 x4 := by
  have h' : W.heap[b]? = some (.cells #[y0, y1, y2, y3, y4] 25 (0, 0)) := h
  show (W.setCell ⟨b, 4, none⟩ x4).heap[b]? = _
  simp [World.setCell, Array.getElem?_modify, h']
theorem mid_anyF {B : Nat} {wr w2 w3 : World} {v x0 x1 x2 x3 x4 : Value} {l : List FT} {xs : List Value} {f : FT}
    (hown : wr.ownsRow B 25 5 v l.length xs) (hels : ElsF (NewB B wr v.ownBlock) wr l xs) (hB : B ≤ wr.heap.size) (hb2 : Below wr.heap.size wr w2) (hnew : IsFl (fun b => wr.heap.size ≤ b ∧ b < w2.heap.size) w2 f (.agg #[x0, x1, x2, x3, x4])) (h3 : Below w2.heap.size w2 w3) :
    w3.ownsRow B 25 5 v l.length xs ∧ ElsF (NewB B w3 v.ownBlock) w3 (l ++ [f]) (xs ++ [x0, x1, x2, x3, x4]) := by
  have hs : wr.heap.size ≤ w2.heap.size := hb2.size
  have hltv := hown.lt
  have g1 : wr.grownBy w2 none := ⟨hb2.os, hb2.tape, hb2.output, hb2.size, fun k hk _ => hb2.block k hk⟩
  have g2 : w2.grownBy w3 none := ⟨h3.os, h3.tape, h3.output, h3.size, fun k hk _ => h3.block k hk⟩
  refine ⟨(hown.kept g1 (by cases v.ownBlock <;> simp)).kept g2 (by cases v.ownBlock <;> simp), ElsF.snoc (hnew.imp (fun b hb => ⟨Nat.le_trans hB hb.1, Nat.lt_of_lt_of_le hb.2 h3.size, fun e => ?_⟩) (fun b o hb => h3.cell (p := ⟨b, o, none⟩) hb.2)) (hels.imp (fun b hb => ⟨hb.1, Nat.lt_of_lt_of_le hb.2.1 (Nat.le_trans hs h3.size), hb.2.2⟩) (fun b o hb => (bthen hb2 h3).cell (p := ⟨b, o, none⟩) hb.2.1))⟩
  have := (hltv _ e.symm).2
  have := hb.1
  omega
theorem els_afterF {B : Nat} {w3 w4 : World} {v v' : Value} {us : List FT} {ys : List Value} (hels : ElsF (NewB B w3 v.ownBlock) w3 us ys) (hgrow : w3.grownBy w4 v.ownBlock) (hat : v'.ownBlock = v.ownBlock ∨ v'.ownBlock = some w3.heap.size) : ElsF (NewB B w4 v'.ownBlock) w4 us ys := by
  refine hels.imp (fun b hb => ⟨hb.1, Nat.lt_of_lt_of_le hb.2.1 hgrow.size, fun e => ?_⟩) (fun b o hb => World.cell?_of_block (w := w3) (w' := w4) (a := ⟨b, o, none⟩) (hgrow.block b hb.2.1 hb.2.2))
  rcases hat with h | h
  · exact hb.2.2 (e.trans h)
  · rw [h] at e
    have := Option.some.inj e
    have := hb.2.1
    omega
theorem nextKF {w wr w2 w3 w4 : World} {B6 : Nat} {K : Int} {v x0 x1 x2 x3 x4 : Value} {l : List FT} {xs : List Value} {f : FT} {g cap : Nat} (hB6 : B6 = w.heap.size + 1) (hsz : w.heap.size + 4 ≤ wr.heap.size)
    (hm : MadeF w B6 K wr l v) (hown : wr.ownsRow (w.heap.size + 4) 25 5 v l.length xs) (hels : ElsF (NewB (w.heap.size + 4) wr v.ownBlock) wr l xs) (hb2 : Below wr.heap.size wr w2) (hnew : IsFl (fun b => wr.heap.size ≤ b ∧ b < w2.heap.size) w2 f (.agg #[x0, x1, x2, x3, x4])) (h3 : Below w2.heap.size w2 w3)
    (hown' : w4.ownsRow (w.heap.size + 4) 25 5 (.slice (some ⟨g, 0, none⟩) (l.length + 1) cap) (l.length + 1) (xs ++ [x0, x1, x2, x3, x4])) (hgrow : w3.grownBy w4 v.ownBlock) (hat : v.ownBlock = some g ∨ g = w3.heap.size) :
    w4.cell? ⟨B6, 4, none⟩ = some v ∧ w4.frozen? ⟨B6, 4, none⟩ = false ∧
    MadeF w B6 K (w4.setCell ⟨B6, 4, none⟩ (.slice (some ⟨g, 0, none⟩) (l.length + 1) cap)) (l ++ [f]) (.slice (some ⟨g, 0, none⟩) (l.length + 1) cap) := by
  obtain ⟨hz, hb6, _, hbel⟩ := hm
  have hltv := hown.lt
  have hs := hb2.size
  have hs3 := h3.size
  have hs4 := hgrow.size
  have hkeep : ∀ k, k < wr.heap.size → some k ≠ v.ownBlock → w4.heap[k]? = wr.heap[k]? := fun k hk hne =>
    (hgrow.block k (by omega) hne).trans ((h3.block k (by omega)).trans (hb2.block k hk))
  have hne0 : some w.heap.size ≠ v.ownBlock := fun e => by have := (hltv _ e.symm).1; omega
  have hne1 : some B6 ≠ v.ownBlock := fun e => by have := (hltv _ e.symm).1; omega
  have hb4 : FlAt w4 B6 (.int .i64 K) (.string ⟨#[]⟩) (.string ⟨#[]⟩) (.slice none 0 0) v := (hkeep _ (by omega) hne1).trans hb6
  have hz4 : FlAt w4 w.heap.size (.int .i64 0) (.string ⟨#[]⟩) (.string ⟨#[]⟩) (.slice none 0 0) (.slice none 0 0) := (hkeep _ (by omega) hne0).trans hz
  have hmid := mid_anyF hown hels hsz hb2 hnew h3
  have e4 := els_afterF (v' := .slice (some ⟨g, 0, none⟩) (l.length + 1) cap) hmid.2 hgrow (by rcases hat with h | h; exact .inl h.symm; exact .inr (by rw [h]; rfl))
  have h4 : Below w.heap.size wr w4 := ⟨hgrow.os.trans (h3.os.trans hb2.os), hgrow.tape.trans (h3.tape.trans hb2.tape), hgrow.output.trans (h3.output.trans hb2.output), by omega, fun k hk => hkeep k (by omega) (fun e => by have := (hltv _ e.symm).1; omega)⟩
  refine ⟨(fl_cells hb4).2.2.2.2, (fl_frozen hb4).2.2.2.2, (blockFl_ne _ ⟨B6, 4, none⟩ _ (by show w.heap.size ≠ B6; omega)).trans hz4, fl_set4 hb4 _, ⟨xs ++ [x0, x1, x2, x3, x4], ?_, ?_⟩, (hbel.trans h4).setCell (p := ⟨B6, 4, none⟩) (by show w.heap.size ≤ B6; omega) _⟩
  · rw [List.length_append]
    exact hown'.kept (set1_grown w4 B6 4 _) (by right; intro e; have e1 : g = B6 := Option.some.inj (show some g = some B6 from e); have e2 : w.heap.size + 4 ≤ g := (hown'.lt g rfl).1; omega)
  · exact e4.imp (fun b hb => ⟨hb.1, by rw [World.size_setCell]; exact hb.2.1, hb.2.2⟩) (fun b o hb => World.cell?_of_block (a := ⟨b, o, none⟩) (heap_setCell_other _ _ _ _ (by have := hb.1; show b ≠ B6; omega)))
theorem news5 (w : World) (x0 x1 x2 x3 x4 : Value) : ∀ j u, [x0, x1, x2, x3, x4][j]? = some u → (w.alloc (.cells #[x0, x1, x2, x3, x4] 25)).cell? ((⟨w.heap.size, 0, none⟩ : Addr).add j) = some u := by
  intro j u hu
  have h := heap_alloc_new w (.cells #[x0, x1, x2, x3, x4] 25)
  have hadd : (⟨w.heap.size, 0, none⟩ : Addr).add j = ⟨w.heap.size, j, none⟩ := by unfold Addr.add; split <;> simp_all
  rw [hadd]
  simp only [World.cell?, h]
  simpa using hu
theorem made_doneF {w wr : World} {B6 : Nat} {K : Int} {l : List FT} {v : Value} (hm : MadeF w B6 K wr l v) (hsz : w.heap.size + 4 ≤ wr.heap.size) (hK : (Lit.int .i64 K).wf = true) (hl : l.length ≤ maxLen) :
    IsFl (fun b => w.heap.size ≤ b ∧ b < (set5F wr w.heap.size (.int .i64 K) (.string ⟨#[]⟩) (.string ⟨#[]⟩) (.slice none 0 0) v).heap.size) (set5F wr w.heap.size (.int .i64 K) (.string ⟨#[]⟩) (.string ⟨#[]⟩) (.slice none 0 0) v) (.mk K [] [] [] l) (.agg #[.int .i64 K, .string ⟨#[]⟩, .string ⟨#[]⟩, .slice none 0 0, v]) := by
  obtain ⟨_, _, ⟨xs, ho, he⟩, _⟩ := hm
  obtain ⟨a, cp, rfl, his⟩ := ownF_done ⟨xs, he, ho⟩
  exact mkHold hK hl (his.imp (fun b hb => ⟨by omega, by rw [set5F_size]; exact hb.2⟩) (fun b o hb => fl_setC (by omega)))

set_option maxRecDepth 100000 in
set_option maxHeartbeats 8000000 in
theorem mkHold1 (S : ByteArray) (hS : S.size ≤ 1000) (fu : Nat) (c : UInt8) (r : List UInt8) (n : Nat) (hn : c.toNat = n) (hk : c.toNat % 8 = 0) (a : Option Addr) (cap : Nat) (w : World) (ih : MakesF S fu) (hfu : r.length ≤ fu) (hC : IsC w.heap.size w (c :: r) a cap) :
    Calls Tryz.prog 15 #[.slice a (c :: r).length cap, .string S] w fun e w' => ∃ v, e = .returned v ∧ IsFl (fun b => w.heap.size ≤ b ∧ b < w'.heap.size) w' (makeFu S.data.toList (fu + 1) (c :: r)) v ∧ Below w.heap.size w w' := by
  rw [show makeFu S.data.toList (fu + 1) (c :: r) = FT.mk 1 [] [] [] (kidsM (makeFu S.data.toList fu) (c :: r) (c.toNat / 60) (min r.length (c.toNat / 24 % 4))) from by
    show (if c.toNat % 8 = 0 then _ else _) = _
    rw [if_pos hk]]
  have hcl := c.toNat_lt
  have hcap := hC.2.1
  have hlen := hC.1
  obtain ⟨m, hm⟩ : ∃ m, m = (c :: r).length := ⟨_, rfl⟩
  have hm1 : 1 ≤ m := by rw [hm]; simp
  rw [← hm] at hlen ⊢
  rw [hn] at hk hcl
  unfold maxLen at hcap
  obtain ⟨TY, hTY, hTYl⟩ := strV_text (mkTy n)
  obtain ⟨VL, hVL, hVLl⟩ := strV_text (mkVl S.data.toList n)
  obtain ⟨A1, hA1⟩ : ∃ A, w.alloc (.cells #[.int .i64 0, .string ⟨#[]⟩, .string ⟨#[]⟩, .slice none 0 0, .slice none 0 0] 25) = A := ⟨_, rfl⟩
  obtain ⟨A2, hA2⟩ : ∃ A, A1.alloc (.cells #[.int .i64 1, .string ⟨#[]⟩, .string ⟨#[]⟩, .slice none 0 0, .slice none 0 0] 25) = A := ⟨_, rfl⟩
  obtain ⟨A3, hA3⟩ : ∃ A, A2.alloc (.cells #[.string ⟨#[99, 110]⟩, .string ⟨#[115, 110]⟩, .string ⟨#[100, 101, 115, 99, 114, 105, 112, 116, 105, 111, 110]⟩, .string ⟨#[117, 105, 100, 78, 117, 109, 98, 101, 114]⟩, .string ⟨#[109, 97, 105, 108]⟩, .string ⟨#[111, 98, 106, 101, 99, 116, 67, 108, 97, 115, 115]⟩] 9) = A := ⟨_, rfl⟩
  obtain ⟨A4, hA4⟩ : ∃ A, A3.alloc (.cells #[.string ⟨#[110, 49]⟩, .string ⟨#[78, 50]⟩, .string S, .string ⟨#[53]⟩, .string ⟨#[100]⟩, .string ⟨#[112, 101, 114, 115, 111, 110]⟩] 9) = A := ⟨_, rfl⟩
  obtain ⟨x4, x6, hty, hvl, hb1, hb4, z1, z4⟩ := mk_rows w A1 A2 A3 A4 1 S n hA1 hA2 hA3 hA4
  obtain ⟨b, off, rfl, hcells, hbl⟩ := isC_all hC
  have hc0 : A1.cell? ⟨b, off, none⟩ = some (.int .u8 c.toNat) := (hb1.cell (p := ⟨b, off, none⟩) hbl).trans (by have := hcells 0 (by simp); simpa using this)
  have HA2 := Lib.hid hA2
  clear hA2
  rw [hTY] at hty
  rw [hVL] at hvl
  rw [hn] at hc0
  obtain ⟨k6, hk6⟩ : ∃ k, k = n / 8 % 6 := ⟨_, rfl⟩
  obtain ⟨v6, hv6⟩ : ∃ k, k = n / 16 % 6 := ⟨_, rfl⟩
  rw [← hk6] at hty
  rw [← hv6] at hvl
  have e8 : (n : Int) % 8 = 0 := by omega
  have e8' : Int.tmod (n : Int) 8 = 0 := by rw [Int.tmod_eq_emod_of_nonneg (by omega)]; omega
  have e6 : (n : Int) / 8 % 6 = (k6 : Int) := by omega
  have e16 : (n : Int) / 16 % 6 = (v6 : Int) := by omega
  have hk65 : k6 < 6 := by omega
  have hv65 : v6 < 6 := by omega
  have tw : IntKind.i64.wrap (n : Int) = (n : Int) := IntWalk.i64_in _ (by omega)
  have hl0 : (((m : Nat) : Int) == 0) = false := by simp; omega
  obtain ⟨ks, hks⟩ : ∃ ks : Nat → List FT, ks = kidsM (makeFu S.data.toList fu) (c :: r) (c.toNat / 60) := ⟨_, rfl⟩
  obtain ⟨rl, hrl⟩ : ∃ rl, rl = r.length := ⟨_, rfl⟩
  have hmr : m = rl + 1 := by rw [hm, hrl]; rfl
  subst hmr
  clear hl0
  have hl0 : ((rl : Int) + 1 == 0) = false := by simp; omega
  obtain ⟨i0, hi, hz0, hz1, hz2⟩ := info_parts infoF
  obtain ⟨k4, hk4⟩ : ∃ k, k = n / 24 % 4 := ⟨_, rfl⟩
  obtain ⟨q60, hq60⟩ : ∃ k, k = n / 60 := ⟨_, rfl⟩
  have e24 : (n : Int) / 24 % 4 = (k4 : Int) := by omega
  have e60 : (n : Int) / 60 = (q60 : Int) := by omega
  have hk44 : k4 < 4 := by omega
  have hq5 : q60 < 5 := by omega
  have hnd : r.length = rl := hrl.symm
  rw [← hks, hnd, hn, ← hk4]
  rw [hn, ← hq60] at hks
  have HKs := Lib.hid hks
  have HCells := Lib.hid hcells
  have HIh := Lib.hid ih
  have HRl := Lib.hid hrl
  have HBl := Lib.hid hbl
  have HTYl := Lib.hid hTYl
  have HFu := Lib.hid hfu
  have hm0 : MadeF w A1.heap.size 1 A4 (ks 0) (.slice none 0 0) := ⟨x4, x6, ⟨[], by rw [hks]; exact World.ownsRow_nil _ _ _ _, by rw [hks]; rfl⟩, hb4⟩
  have HM0 := Lib.hid hm0
  have HZ1 := Lib.hid z1
  have HZ4 := Lib.hid z4
  obtain ⟨g0, g1, g2, g3, g4⟩ := fl_cells x6
  clear hm0 hTYl hVLl hTY hVL x4 x6 hb1 hb4 z1 z4 hC hm hk6 hv6 hn hk hks hcells ih hrl hbl hfu hk4 hq60 hnd
  go_enter Tryz.func15, Tryz.ntmps15
  go_upto_region 5 with (fail)
  rw [HA2.out]
  go_wp2
  clear g0 g1 g2 g3 g4 e6 e16 e8 e8' hA1 hA3 hA4 hc0 hty hvl
  go_loopw [9] (fun i wr => ∃ (j : Nat) (v : Value), i = .int .i64 ((j : Int) + 1) ∧ j ≤ min rl k4 ∧ Hid (MadeF w A1.heap.size 1 wr (ks j) v) ∧ Hid (w.heap.size + 4 ≤ wr.heap.size)) (fun i _ => rl + 1 - (intOf i).toNat)
  case atStart => exact ⟨0, .slice none 0 0, rfl, Nat.zero_le _, HM0, Lib.hid (by rw [HZ4.out]; exact Nat.le_refl _)⟩
  case round =>
    obtain ⟨j, v, rfl, hjK, HM, HSz⟩ := hrel
    by_cases h1 : j < rl
    · have t1 : decide ((j : Int) < (rl : Int)) = true := by simp; omega
      have t1' : decide ((j : Int) + 1 < (rl : Int) + 1) = true := by simp; omega
      by_cases h2 : j + 1 ≤ k4
      · have t2 : decide ((j : Int) + 1 ≤ (k4 : Int)) = true := by simp; omega
        obtain ⟨hz, hb6, ⟨xs, hown, hels⟩, hbel⟩ := HM.out
        obtain ⟨ho, hhi⟩ : ∃ ho, ho = min (rl + 1) (j + 1 + q60 + 1) := ⟨_, rfl⟩
        have ew1 : IntKind.i64.wrap ((j : Int) + 1 + (q60 : Int)) = (j : Int) + 1 + (q60 : Int) := IntWalk.i64_in _ (by omega)
        have ew2 : IntKind.i64.wrap ((j : Int) + 1 + (q60 : Int) + 1) = (j : Int) + 1 + (q60 : Int) + 1 := IntWalk.i64_in _ (by omega)
        have em : min ((rl : Int) + 1) ((j : Int) + 1 + (q60 : Int) + 1) = (ho : Int) := by omega
        have ew0 : IntKind.i64.wrap (q60 : Int) = (q60 : Int) := IntWalk.i64_in _ (by omega)
        have em2 : max (ho : Int) 0 = (ho : Int) := by omega
        have ecj : ¬ cap = j + 1 := by omega
        have hhi1 : j + 1 ≤ ho := by omega
        have hhi2 : ho ≤ rl + 1 := by omega
        have hhi3 : ho ≤ cap := by omega
        have ei1 : (0 : Int) ≤ (j : Int) + 1 := by omega
        have ei2 : (j : Int) + 1 ≤ (ho : Int) := by omega
        have ei3 : (ho : Int) ≤ (cap : Int) := by omega
        have ei4 : ((j : Int) + 1).toNat = j + 1 := by omega
        obtain ⟨y0, y1, y2, hv⟩ := ownsRow_sliceF hown
        subst hv
        obtain ⟨L, hL⟩ : ∃ L, L = ((c :: r).drop (j + 1)).take (q60 + 1) := ⟨_, rfl⟩
        have hLl : L.length = ho - (j + 1) := by rw [hL]; simp; have := HRl.out; omega
        have hkl : (ks j).length = j := by rw [HKs.out]; exact kidsM_len _ _ _ j
        have hks1 : ks (j + 1) = ks j ++ [makeFu S.data.toList fu L] := by rw [HKs.out, hL]; rfl
        have hkb : ∀ w2, Below w.heap.size w w2 → Calls Tryz.prog 15 #[.slice (some ⟨b, off + (j + 1), none⟩) (ho - (j + 1)) (cap - (j + 1)), .string S] w2 fun e w' => ∃ v, e = .returned v ∧ IsFl (fun b => w2.heap.size ≤ b ∧ b < w'.heap.size) w' (makeFu S.data.toList fu L) v ∧ Below w2.heap.size w2 w' := by
          intro w2 hb2
          rw [← hLl]
          refine HIh.out L _ _ w2 (by have := HFu.out; have := HRl.out; omega) ⟨by omega, by unfold maxLen; omega, .inr ⟨b, off + (j + 1), rfl, Nat.lt_of_lt_of_le HBl.out hb2.size, fun i hi => ?_⟩⟩
          have hx2 : j + 1 + i < (c :: r).length := by have := HRl.out; simp; omega
          have he : L[i] = (c :: r)[j + 1 + i] := by simp only [hL, List.getElem_take, List.getElem_drop]
          have := (hb2.cell (p := ⟨b, off + (j + 1 + i), none⟩) HBl.out).trans (HCells.out (j + 1 + i) hx2)
          rw [he, Nat.add_assoc]; exact this
        have HKb := Lib.hid hkb
        have HBel := Lib.hid hbel
        have HOwn := Lib.hid hown
        have HEls := Lib.hid hels
        have HKs1 := Lib.hid hks1
        have HB6 := Lib.hid hb6
        obtain ⟨c0, c1, c2, c3, c4⟩ := fl_cells hb6
        obtain ⟨f0, f1, f2, f3, f4⟩ := fl_frozen hb6
        have hwlt : A1.heap.size < wr.heap.size := fl_lt hb6
        have hjK1 : j + 1 ≤ min rl k4 := by omega
        have HKl := Lib.hid hkl
        have hkj : (ks j).length ≤ 5 := by omega
        clear hhi hL hLl hkb hbel hz hb6 hown hels hkl hks1
        go_wp2_with fail
        go_region_law (first
          | (go_simp; go_at_call 15; refine (HKb.out wr.drew HBel.out.drew).mono ?_; rintro e w2 ⟨v2, rfl, hnew, hb2⟩; (obtain ⟨kk0, kT0, kX0, kpa, kpn, kpc, kka, kkn, kkc, hsh⟩ := hnew.shape); subst hsh; have hk2 := fl_below HB6.out ((Below.refl _ _).drew.trans hb2) hwlt; (obtain ⟨c0', c1', c2', c3', c4'⟩ := fl_cells hk2); (obtain ⟨f0', f1', f2', f3', f4'⟩ := fl_frozen hk2); have hw2 := fl_lt hk2; have hka := fl_below hk2 (box5 w2 (.int .i64 kk0) (.string kT0) (.string kX0) (.slice kpa kpn kpc) (.slice kka kkn kkc)) hw2; (obtain ⟨a0', a1', a2', a3', a4'⟩ := fl_cells hka); clear hka; have HB2 := Lib.hid ((Below.refl wr.heap.size wr).drew.trans hb2); have HNew := Lib.hid hnew; clear hb2 hnew hk2)
          | (refine step_append_lies _ (by rfl) _ _ _ (by rfl) (w.heap.size + 4) 25 i0 (.agg #[.int .i64 0, .string ⟨#[]⟩, .string ⟨#[]⟩, .slice none 0 0, .slice none 0 0]) 5 88 Tryz.underlying23 hi hz0 hz1 hz2 rfl (by omega) (.slice y0 y1 y2) (ks j).length xs (by rfl) (mid_anyF HOwn.out HEls.out HSz.out HB2.out HNew.out ((Below.refl _ _).alloc (Nat.le_refl _) _)).1 ⟨w2.heap.size, 0, none⟩ 1 1 [.int .i64 kk0, .string kT0, .string kX0, .slice kpa kpn kpc, .slice kka kkn kkc] (by rfl) (by rfl) (news5 _ _ _ _ _ _) (by intro u hu; simp at hu; rcases hu with rfl | rfl | rfl | rfl | rfl <;> rfl) (by omega) (by unfold maxLen; omega) (by omega) (by have := HB2.out.size; have := HSz.out; simp; omega) _ rfl ?_; intro gg gc w4 hown1 hgrow hat hlt; obtain ⟨hc4, hf4, hnx⟩ := nextKF HZ1.out HSz.out HM.out HOwn.out HEls.out HB2.out HNew.out ((Below.refl _ _).alloc (Nat.le_refl _) _) hown1 hgrow hat; have HNx := Lib.hid hnx; have HSz2 : Hid (w.heap.size + 4 ≤ w4.heap.size) := Lib.hid (by have := HSz.out; have := HB2.out.size; have := hgrow.size; simp at this; omega); clear hown1 hgrow hat hnx))
        all_goals
          go_wp2
          go_roundw
          case rel => exact ⟨j + 1, _, by go_num, by omega, by rw [HKs1.out]; exact HNx, Lib.hid (by rw [World.size_setCell]; exact HSz2.out)⟩
          case measure => simp [intOf]; omega
      · have t2 : decide ((j : Int) + 1 ≤ (k4 : Int)) = false := by simp; omega
        have hje : j = min rl k4 := by omega
        obtain ⟨hz, hb6, ⟨xs, hown, hels⟩, hbel⟩ := HM.out
        obtain ⟨y0, y1, y2, hv⟩ := ownsRow_sliceF hown
        subst hv
        obtain ⟨c0, c1, c2, c3, c4⟩ := fl_cells hb6
        obtain ⟨d0, d1, d2, d3, d4⟩ := fl_cells hz
        obtain ⟨q0, q1, q2, q3, q4⟩ := fl_frozen hz
        obtain ⟨r0, r1, r2, r3, r4⟩ := fl_cells (fl_set hz (.int .i64 1) (.string ⟨#[]⟩) (.string ⟨#[]⟩) (.slice none 0 0) (.slice y0 y1 y2))
        unfold set5F at r0 r1 r2 r3 r4
        have HBel := Lib.hid hbel
        have HJe := Lib.hid hje
        clear hz hb6 hown hels hbel hje
        go_wp2
        have hbz := fl_setB HBel.out (Nat.le_refl w.heap.size) (.int .i64 1) (.string ⟨#[]⟩) (.string ⟨#[]⟩) (.slice none 0 0) (.slice y0 y1 y2)
        refine bodyPost_ret (v := .agg #[.int .i64 1, .string ⟨#[]⟩, .string ⟨#[]⟩, .slice none 0 0, .slice y0 y1 y2]) (by simp [results, Tryz.results15, go_sem, r0, r1, r2, r3, r4]) rfl ⟨_, rfl, ?_, hbz⟩
        rw [← HJe.out]
        exact made_doneF HM.out HSz.out (by decide) (by rw [HKs.out, kidsM_len]; unfold maxLen; omega)
    · have t1 : decide ((j : Int) < (rl : Int)) = false := by simp; omega
      have t1' : decide ((j : Int) + 1 < (rl : Int) + 1) = false := by simp; omega
      have hje : j = min rl k4 := by omega
      obtain ⟨hz, hb6, ⟨xs, hown, hels⟩, hbel⟩ := HM.out
      obtain ⟨y0, y1, y2, hv⟩ := ownsRow_sliceF hown
      subst hv
      obtain ⟨c0, c1, c2, c3, c4⟩ := fl_cells hb6
      obtain ⟨d0, d1, d2, d3, d4⟩ := fl_cells hz
      obtain ⟨q0, q1, q2, q3, q4⟩ := fl_frozen hz
      obtain ⟨r0, r1, r2, r3, r4⟩ := fl_cells (fl_set hz (.int .i64 1) (.string ⟨#[]⟩) (.string ⟨#[]⟩) (.slice none 0 0) (.slice y0 y1 y2))
      unfold set5F at r0 r1 r2 r3 r4
      have HBel := Lib.hid hbel
      have HJe := Lib.hid hje
      clear hz hb6 hown hels hbel hje
      go_wp2
      have hbz := fl_setB HBel.out (Nat.le_refl w.heap.size) (.int .i64 1) (.string ⟨#[]⟩) (.string ⟨#[]⟩) (.slice none 0 0) (.slice y0 y1 y2)
      refine bodyPost_ret (v := .agg #[.int .i64 1, .string ⟨#[]⟩, .string ⟨#[]⟩, .slice none 0 0, .slice y0 y1 y2]) (by simp [results, Tryz.results15, go_sem, r0, r1, r2, r3, r4]) rfl ⟨_, rfl, ?_, hbz⟩
      rw [← HJe.out]
      exact made_doneF HM.out HSz.out (by decide) (by rw [HKs.out, kidsM_len]; unfold maxLen; omega)
set_option maxRecDepth 100000 in
set_option maxHeartbeats 8000000 in
theorem mkHold2 (S : ByteArray) (hS : S.size ≤ 1000) (fu : Nat) (c : UInt8) (r : List UInt8) (n : Nat) (hn : c.toNat = n) (hk : c.toNat % 8 = 1) (a : Option Addr) (cap : Nat) (w : World) (ih : MakesF S fu) (hfu : r.length ≤ fu) (hC : IsC w.heap.size w (c :: r) a cap) :
    Calls Tryz.prog 15 #[.slice a (c :: r).length cap, .string S] w fun e w' => ∃ v, e = .returned v ∧ IsFl (fun b => w.heap.size ≤ b ∧ b < w'.heap.size) w' (makeFu S.data.toList (fu + 1) (c :: r)) v ∧ Below w.heap.size w w' := by
  rw [show makeFu S.data.toList (fu + 1) (c :: r) = FT.mk 2 [] [] [] (kidsM (makeFu S.data.toList fu) (c :: r) (c.toNat / 60) (min r.length (c.toNat / 24 % 4))) from by
    show (if c.toNat % 8 = 0 then _ else _) = _
    rw [if_neg (by omega)]; rw [if_pos hk]]
  have hcl := c.toNat_lt
  have hcap := hC.2.1
  have hlen := hC.1
  obtain ⟨m, hm⟩ : ∃ m, m = (c :: r).length := ⟨_, rfl⟩
  have hm1 : 1 ≤ m := by rw [hm]; simp
  rw [← hm] at hlen ⊢
  rw [hn] at hk hcl
  unfold maxLen at hcap
  obtain ⟨TY, hTY, hTYl⟩ := strV_text (mkTy n)
  obtain ⟨VL, hVL, hVLl⟩ := strV_text (mkVl S.data.toList n)
  obtain ⟨A1, hA1⟩ : ∃ A, w.alloc (.cells #[.int .i64 0, .string ⟨#[]⟩, .string ⟨#[]⟩, .slice none 0 0, .slice none 0 0] 25) = A := ⟨_, rfl⟩
  obtain ⟨A2, hA2⟩ : ∃ A, A1.alloc (.cells #[.int .i64 2, .string ⟨#[]⟩, .string ⟨#[]⟩, .slice none 0 0, .slice none 0 0] 25) = A := ⟨_, rfl⟩
  obtain ⟨A3, hA3⟩ : ∃ A, A2.alloc (.cells #[.string ⟨#[99, 110]⟩, .string ⟨#[115, 110]⟩, .string ⟨#[100, 101, 115, 99, 114, 105, 112, 116, 105, 111, 110]⟩, .string ⟨#[117, 105, 100, 78, 117, 109, 98, 101, 114]⟩, .string ⟨#[109, 97, 105, 108]⟩, .string ⟨#[111, 98, 106, 101, 99, 116, 67, 108, 97, 115, 115]⟩] 9) = A := ⟨_, rfl⟩
  obtain ⟨A4, hA4⟩ : ∃ A, A3.alloc (.cells #[.string ⟨#[110, 49]⟩, .string ⟨#[78, 50]⟩, .string S, .string ⟨#[53]⟩, .string ⟨#[100]⟩, .string ⟨#[112, 101, 114, 115, 111, 110]⟩] 9) = A := ⟨_, rfl⟩
  obtain ⟨x4, x6, hty, hvl, hb1, hb4, z1, z4⟩ := mk_rows w A1 A2 A3 A4 2 S n hA1 hA2 hA3 hA4
  obtain ⟨b, off, rfl, hcells, hbl⟩ := isC_all hC
  have hc0 : A1.cell? ⟨b, off, none⟩ = some (.int .u8 c.toNat) := (hb1.cell (p := ⟨b, off, none⟩) hbl).trans (by have := hcells 0 (by simp); simpa using this)
  have HA2 := Lib.hid hA2
  clear hA2
  rw [hTY] at hty
  rw [hVL] at hvl
  rw [hn] at hc0
  obtain ⟨k6, hk6⟩ : ∃ k, k = n / 8 % 6 := ⟨_, rfl⟩
  obtain ⟨v6, hv6⟩ : ∃ k, k = n / 16 % 6 := ⟨_, rfl⟩
  rw [← hk6] at hty
  rw [← hv6] at hvl
  have e8 : (n : Int) % 8 = 1 := by omega
  have e8' : Int.tmod (n : Int) 8 = 1 := by rw [Int.tmod_eq_emod_of_nonneg (by omega)]; omega
  have e6 : (n : Int) / 8 % 6 = (k6 : Int) := by omega
  have e16 : (n : Int) / 16 % 6 = (v6 : Int) := by omega
  have hk65 : k6 < 6 := by omega
  have hv65 : v6 < 6 := by omega
  have tw : IntKind.i64.wrap (n : Int) = (n : Int) := IntWalk.i64_in _ (by omega)
  have hl0 : (((m : Nat) : Int) == 0) = false := by simp; omega
  obtain ⟨ks, hks⟩ : ∃ ks : Nat → List FT, ks = kidsM (makeFu S.data.toList fu) (c :: r) (c.toNat / 60) := ⟨_, rfl⟩
  obtain ⟨rl, hrl⟩ : ∃ rl, rl = r.length := ⟨_, rfl⟩
  have hmr : m = rl + 1 := by rw [hm, hrl]; rfl
  subst hmr
  clear hl0
  have hl0 : ((rl : Int) + 1 == 0) = false := by simp; omega
  obtain ⟨i0, hi, hz0, hz1, hz2⟩ := info_parts infoF
  obtain ⟨k4, hk4⟩ : ∃ k, k = n / 24 % 4 := ⟨_, rfl⟩
  obtain ⟨q60, hq60⟩ : ∃ k, k = n / 60 := ⟨_, rfl⟩
  have e24 : (n : Int) / 24 % 4 = (k4 : Int) := by omega
  have e60 : (n : Int) / 60 = (q60 : Int) := by omega
  have hk44 : k4 < 4 := by omega
  have hq5 : q60 < 5 := by omega
  have hnd : r.length = rl := hrl.symm
  rw [← hks, hnd, hn, ← hk4]
  rw [hn, ← hq60] at hks
  have HKs := Lib.hid hks
  have HCells := Lib.hid hcells
  have HIh := Lib.hid ih
  have HRl := Lib.hid hrl
  have HBl := Lib.hid hbl
  have HTYl := Lib.hid hTYl
  have HFu := Lib.hid hfu
  have hm0 : MadeF w A1.heap.size 2 A4 (ks 0) (.slice none 0 0) := ⟨x4, x6, ⟨[], by rw [hks]; exact World.ownsRow_nil _ _ _ _, by rw [hks]; rfl⟩, hb4⟩
  have HM0 := Lib.hid hm0
  have HZ1 := Lib.hid z1
  have HZ4 := Lib.hid z4
  obtain ⟨g0, g1, g2, g3, g4⟩ := fl_cells x6
  clear hm0 hTYl hVLl hTY hVL x4 x6 hb1 hb4 z1 z4 hC hm hk6 hv6 hn hk hks hcells ih hrl hbl hfu hk4 hq60 hnd
  go_enter Tryz.func15, Tryz.ntmps15
  go_upto_region 5 with (fail)
  rw [HA2.out]
  go_wp2
  clear g0 g1 g2 g3 g4 e6 e16 e8 e8' hA1 hA3 hA4 hc0 hty hvl
  go_loopw [9] (fun i wr => ∃ (j : Nat) (v : Value), i = .int .i64 ((j : Int) + 1) ∧ j ≤ min rl k4 ∧ Hid (MadeF w A1.heap.size 2 wr (ks j) v) ∧ Hid (w.heap.size + 4 ≤ wr.heap.size)) (fun i _ => rl + 1 - (intOf i).toNat)
  case atStart => exact ⟨0, .slice none 0 0, rfl, Nat.zero_le _, HM0, Lib.hid (by rw [HZ4.out]; exact Nat.le_refl _)⟩
  case round =>
    obtain ⟨j, v, rfl, hjK, HM, HSz⟩ := hrel
    by_cases h1 : j < rl
    · have t1 : decide ((j : Int) < (rl : Int)) = true := by simp; omega
      have t1' : decide ((j : Int) + 1 < (rl : Int) + 1) = true := by simp; omega
      by_cases h2 : j + 1 ≤ k4
      · have t2 : decide ((j : Int) + 1 ≤ (k4 : Int)) = true := by simp; omega
        obtain ⟨hz, hb6, ⟨xs, hown, hels⟩, hbel⟩ := HM.out
        obtain ⟨ho, hhi⟩ : ∃ ho, ho = min (rl + 1) (j + 1 + q60 + 1) := ⟨_, rfl⟩
        have ew1 : IntKind.i64.wrap ((j : Int) + 1 + (q60 : Int)) = (j : Int) + 1 + (q60 : Int) := IntWalk.i64_in _ (by omega)
        have ew2 : IntKind.i64.wrap ((j : Int) + 1 + (q60 : Int) + 1) = (j : Int) + 1 + (q60 : Int) + 1 := IntWalk.i64_in _ (by omega)
        have em : min ((rl : Int) + 1) ((j : Int) + 1 + (q60 : Int) + 1) = (ho : Int) := by omega
        have ew0 : IntKind.i64.wrap (q60 : Int) = (q60 : Int) := IntWalk.i64_in _ (by omega)
        have em2 : max (ho : Int) 0 = (ho : Int) := by omega
        have ecj : ¬ cap = j + 1 := by omega
        have hhi1 : j + 1 ≤ ho := by omega
        have hhi2 : ho ≤ rl + 1 := by omega
        have hhi3 : ho ≤ cap := by omega
        have ei1 : (0 : Int) ≤ (j : Int) + 1 := by omega
        have ei2 : (j : Int) + 1 ≤ (ho : Int) := by omega
        have ei3 : (ho : Int) ≤ (cap : Int) := by omega
        have ei4 : ((j : Int) + 1).toNat = j + 1 := by omega
        obtain ⟨y0, y1, y2, hv⟩ := ownsRow_sliceF hown
        subst hv
        obtain ⟨L, hL⟩ : ∃ L, L = ((c :: r).drop (j + 1)).take (q60 + 1) := ⟨_, rfl⟩
        have hLl : L.length = ho - (j + 1) := by rw [hL]; simp; have := HRl.out; omega
        have hkl : (ks j).length = j := by rw [HKs.out]; exact kidsM_len _ _ _ j
        have hks1 : ks (j + 1) = ks j ++ [makeFu S.data.toList fu L] := by rw [HKs.out, hL]; rfl
        have hkb : ∀ w2, Below w.heap.size w w2 → Calls Tryz.prog 15 #[.slice (some ⟨b, off + (j + 1), none⟩) (ho - (j + 1)) (cap - (j + 1)), .string S] w2 fun e w' => ∃ v, e = .returned v ∧ IsFl (fun b => w2.heap.size ≤ b ∧ b < w'.heap.size) w' (makeFu S.data.toList fu L) v ∧ Below w2.heap.size w2 w' := by
          intro w2 hb2
          rw [← hLl]
          refine HIh.out L _ _ w2 (by have := HFu.out; have := HRl.out; omega) ⟨by omega, by unfold maxLen; omega, .inr ⟨b, off + (j + 1), rfl, Nat.lt_of_lt_of_le HBl.out hb2.size, fun i hi => ?_⟩⟩
          have hx2 : j + 1 + i < (c :: r).length := by have := HRl.out; simp; omega
          have he : L[i] = (c :: r)[j + 1 + i] := by simp only [hL, List.getElem_take, List.getElem_drop]
          have := (hb2.cell (p := ⟨b, off + (j + 1 + i), none⟩) HBl.out).trans (HCells.out (j + 1 + i) hx2)
          rw [he, Nat.add_assoc]; exact this
        have HKb := Lib.hid hkb
        have HBel := Lib.hid hbel
        have HOwn := Lib.hid hown
        have HEls := Lib.hid hels
        have HKs1 := Lib.hid hks1
        have HB6 := Lib.hid hb6
        obtain ⟨c0, c1, c2, c3, c4⟩ := fl_cells hb6
        obtain ⟨f0, f1, f2, f3, f4⟩ := fl_frozen hb6
        have hwlt : A1.heap.size < wr.heap.size := fl_lt hb6
        have hjK1 : j + 1 ≤ min rl k4 := by omega
        have HKl := Lib.hid hkl
        have hkj : (ks j).length ≤ 5 := by omega
        clear hhi hL hLl hkb hbel hz hb6 hown hels hkl hks1
        go_wp2_with fail
        go_region_law (first
          | (go_simp; go_at_call 15; refine (HKb.out wr.drew HBel.out.drew).mono ?_; rintro e w2 ⟨v2, rfl, hnew, hb2⟩; (obtain ⟨kk0, kT0, kX0, kpa, kpn, kpc, kka, kkn, kkc, hsh⟩ := hnew.shape); subst hsh; have hk2 := fl_below HB6.out ((Below.refl _ _).drew.trans hb2) hwlt; (obtain ⟨c0', c1', c2', c3', c4'⟩ := fl_cells hk2); (obtain ⟨f0', f1', f2', f3', f4'⟩ := fl_frozen hk2); have hw2 := fl_lt hk2; have hka := fl_below hk2 (box5 w2 (.int .i64 kk0) (.string kT0) (.string kX0) (.slice kpa kpn kpc) (.slice kka kkn kkc)) hw2; (obtain ⟨a0', a1', a2', a3', a4'⟩ := fl_cells hka); clear hka; have HB2 := Lib.hid ((Below.refl wr.heap.size wr).drew.trans hb2); have HNew := Lib.hid hnew; clear hb2 hnew hk2)
          | (refine step_append_lies _ (by rfl) _ _ _ (by rfl) (w.heap.size + 4) 25 i0 (.agg #[.int .i64 0, .string ⟨#[]⟩, .string ⟨#[]⟩, .slice none 0 0, .slice none 0 0]) 5 88 Tryz.underlying23 hi hz0 hz1 hz2 rfl (by omega) (.slice y0 y1 y2) (ks j).length xs (by rfl) (mid_anyF HOwn.out HEls.out HSz.out HB2.out HNew.out ((Below.refl _ _).alloc (Nat.le_refl _) _)).1 ⟨w2.heap.size, 0, none⟩ 1 1 [.int .i64 kk0, .string kT0, .string kX0, .slice kpa kpn kpc, .slice kka kkn kkc] (by rfl) (by rfl) (news5 _ _ _ _ _ _) (by intro u hu; simp at hu; rcases hu with rfl | rfl | rfl | rfl | rfl <;> rfl) (by omega) (by unfold maxLen; omega) (by omega) (by have := HB2.out.size; have := HSz.out; simp; omega) _ rfl ?_; intro gg gc w4 hown1 hgrow hat hlt; obtain ⟨hc4, hf4, hnx⟩ := nextKF HZ1.out HSz.out HM.out HOwn.out HEls.out HB2.out HNew.out ((Below.refl _ _).alloc (Nat.le_refl _) _) hown1 hgrow hat; have HNx := Lib.hid hnx; have HSz2 : Hid (w.heap.size + 4 ≤ w4.heap.size) := Lib.hid (by have := HSz.out; have := HB2.out.size; have := hgrow.size; simp at this; omega); clear hown1 hgrow hat hnx))
        all_goals
          go_wp2
          go_roundw
          case rel => exact ⟨j + 1, _, by go_num, by omega, by rw [HKs1.out]; exact HNx, Lib.hid (by rw [World.size_setCell]; exact HSz2.out)⟩
          case measure => simp [intOf]; omega
      · have t2 : decide ((j : Int) + 1 ≤ (k4 : Int)) = false := by simp; omega
        have hje : j = min rl k4 := by omega
        obtain ⟨hz, hb6, ⟨xs, hown, hels⟩, hbel⟩ := HM.out
        obtain ⟨y0, y1, y2, hv⟩ := ownsRow_sliceF hown
        subst hv
        obtain ⟨c0, c1, c2, c3, c4⟩ := fl_cells hb6
        obtain ⟨d0, d1, d2, d3, d4⟩ := fl_cells hz
        obtain ⟨q0, q1, q2, q3, q4⟩ := fl_frozen hz
        obtain ⟨r0, r1, r2, r3, r4⟩ := fl_cells (fl_set hz (.int .i64 2) (.string ⟨#[]⟩) (.string ⟨#[]⟩) (.slice none 0 0) (.slice y0 y1 y2))
        unfold set5F at r0 r1 r2 r3 r4
        have HBel := Lib.hid hbel
        have HJe := Lib.hid hje
        clear hz hb6 hown hels hbel hje
        go_wp2
        have hbz := fl_setB HBel.out (Nat.le_refl w.heap.size) (.int .i64 2) (.string ⟨#[]⟩) (.string ⟨#[]⟩) (.slice none 0 0) (.slice y0 y1 y2)
        refine bodyPost_ret (v := .agg #[.int .i64 2, .string ⟨#[]⟩, .string ⟨#[]⟩, .slice none 0 0, .slice y0 y1 y2]) (by simp [results, Tryz.results15, go_sem, r0, r1, r2, r3, r4]) rfl ⟨_, rfl, ?_, hbz⟩
        rw [← HJe.out]
        exact made_doneF HM.out HSz.out (by decide) (by rw [HKs.out, kidsM_len]; unfold maxLen; omega)
    · have t1 : decide ((j : Int) < (rl : Int)) = false := by simp; omega
      have t1' : decide ((j : Int) + 1 < (rl : Int) + 1) = false := by simp; omega
      have hje : j = min rl k4 := by omega
      obtain ⟨hz, hb6, ⟨xs, hown, hels⟩, hbel⟩ := HM.out
      obtain ⟨y0, y1, y2, hv⟩ := ownsRow_sliceF hown
      subst hv
      obtain ⟨c0, c1, c2, c3, c4⟩ := fl_cells hb6
      obtain ⟨d0, d1, d2, d3, d4⟩ := fl_cells hz
      obtain ⟨q0, q1, q2, q3, q4⟩ := fl_frozen hz
      obtain ⟨r0, r1, r2, r3, r4⟩ := fl_cells (fl_set hz (.int .i64 2) (.string ⟨#[]⟩) (.string ⟨#[]⟩) (.slice none 0 0) (.slice y0 y1 y2))
      unfold set5F at r0 r1 r2 r3 r4
      have HBel := Lib.hid hbel
      have HJe := Lib.hid hje
      clear hz hb6 hown hels hbel hje
      go_wp2
      have hbz := fl_setB HBel.out (Nat.le_refl w.heap.size) (.int .i64 2) (.string ⟨#[]⟩) (.string ⟨#[]⟩) (.slice none 0 0) (.slice y0 y1 y2)
      refine bodyPost_ret (v := .agg #[.int .i64 2, .string ⟨#[]⟩, .string ⟨#[]⟩, .slice none 0 0, .slice y0 y1 y2]) (by simp [results, Tryz.results15, go_sem, r0, r1, r2, r3, r4]) rfl ⟨_, rfl, ?_, hbz⟩
      rw [← HJe.out]
      exact made_doneF HM.out HSz.out (by decide) (by rw [HKs.out, kidsM_len]; unfold maxLen; omega)
end Go.Proofs.YtdgnefcpeocbjaaGreatDoor


namespace Go.Proofs.YtdgnefcpeocbjaaGreatDoor
open Go.RowKit
set_option linter.unusedVariables false
set_option linter.unnecessarySimpa false
set_option linter.unusedSimpArgs false

set_option maxRecDepth 100000 in
set_option maxHeartbeats 8000000 in
theorem mkHold3 (S : ByteArray) (hS : S.size ≤ 1000) (fu : Nat) (c : UInt8) (r : List UInt8) (n : Nat) (hn : c.toNat = n) (hk : c.toNat % 8 = 2) (a : Option Addr) (cap : Nat) (w : World) (ih : MakesF S fu) (hfu : r.length ≤ fu) (hC : IsC w.heap.size w (c :: r) a cap) :
    Calls Tryz.prog 15 #[.slice a (c :: r).length cap, .string S] w fun e w' => ∃ v, e = .returned v ∧ IsFl (fun b => w.heap.size ≤ b ∧ b < w'.heap.size) w' (makeFu S.data.toList (fu + 1) (c :: r)) v ∧ Below w.heap.size w w' := by
  rw [show makeFu S.data.toList (fu + 1) (c :: r) = FT.mk 3 [] [] [] [makeFu S.data.toList fu r] from by
    show (if c.toNat % 8 = 0 then _ else _) = _
    rw [if_neg (by omega)]; rw [if_neg (by omega)]; rw [if_pos hk]]
  have hcl := c.toNat_lt
  have hcap := hC.2.1
  have hlen := hC.1
  obtain ⟨m, hm⟩ : ∃ m, m = (c :: r).length := ⟨_, rfl⟩
  have hm1 : 1 ≤ m := by rw [hm]; simp
  rw [← hm] at hlen ⊢
  rw [hn] at hk hcl
  unfold maxLen at hcap
  obtain ⟨TY, hTY, hTYl⟩ := strV_text (mkTy n)
  obtain ⟨VL, hVL, hVLl⟩ := strV_text (mkVl S.data.toList n)
  obtain ⟨A1, hA1⟩ : ∃ A, w.alloc (.cells #[.int .i64 0, .string ⟨#[]⟩, .string ⟨#[]⟩, .slice none 0 0, .slice none 0 0] 25) = A := ⟨_, rfl⟩
  obtain ⟨A2, hA2⟩ : ∃ A, A1.alloc (.cells #[.int .i64 3, .string ⟨#[]⟩, .string ⟨#[]⟩, .slice none 0 0, .slice none 0 0] 25) = A := ⟨_, rfl⟩
  obtain ⟨A3, hA3⟩ : ∃ A, A2.alloc (.cells #[.string ⟨#[99, 110]⟩, .string ⟨#[115, 110]⟩, .string ⟨#[100, 101, 115, 99, 114, 105, 112, 116, 105, 111, 110]⟩, .string ⟨#[117, 105, 100, 78, 117, 109, 98, 101, 114]⟩, .string ⟨#[109, 97, 105, 108]⟩, .string ⟨#[111, 98, 106, 101, 99, 116, 67, 108, 97, 115, 115]⟩] 9) = A := ⟨_, rfl⟩
  obtain ⟨A4, hA4⟩ : ∃ A, A3.alloc (.cells #[.string ⟨#[110, 49]⟩, .string ⟨#[78, 50]⟩, .string S, .string ⟨#[53]⟩, .string ⟨#[100]⟩, .string ⟨#[112, 101, 114, 115, 111, 110]⟩] 9) = A := ⟨_, rfl⟩
  obtain ⟨x4, x6, hty, hvl, hb1, hb4, z1, z4⟩ := mk_rows w A1 A2 A3 A4 3 S n hA1 hA2 hA3 hA4
  obtain ⟨b, off, rfl, hcells, hbl⟩ := isC_all hC
  have hc0 : A1.cell? ⟨b, off, none⟩ = some (.int .u8 c.toNat) := (hb1.cell (p := ⟨b, off, none⟩) hbl).trans (by have := hcells 0 (by simp); simpa using this)
  have HA2 := Lib.hid hA2
  clear hA2
  rw [hTY] at hty
  rw [hVL] at hvl
  rw [hn] at hc0
  obtain ⟨k6, hk6⟩ : ∃ k, k = n / 8 % 6 := ⟨_, rfl⟩
  obtain ⟨v6, hv6⟩ : ∃ k, k = n / 16 % 6 := ⟨_, rfl⟩
  rw [← hk6] at hty
  rw [← hv6] at hvl
  have e8 : (n : Int) % 8 = 2 := by omega
  have e8' : Int.tmod (n : Int) 8 = 2 := by rw [Int.tmod_eq_emod_of_nonneg (by omega)]; omega
  have e6 : (n : Int) / 8 % 6 = (k6 : Int) := by omega
  have e16 : (n : Int) / 16 % 6 = (v6 : Int) := by omega
  have hk65 : k6 < 6 := by omega
  have hv65 : v6 < 6 := by omega
  have tw : IntKind.i64.wrap (n : Int) = (n : Int) := IntWalk.i64_in _ (by omega)
  have hl0 : (((m : Nat) : Int) == 0) = false := by simp; omega
  obtain ⟨ks, hks⟩ : ∃ ks : Nat → List FT, ks = kidsM (makeFu S.data.toList fu) (c :: r) (c.toNat / 60) := ⟨_, rfl⟩
  obtain ⟨rl, hrl⟩ : ∃ rl, rl = r.length := ⟨_, rfl⟩
  have hmr : m = rl + 1 := by rw [hm, hrl]; rfl
  subst hmr
  clear hl0
  have hl0 : ((rl : Int) + 1 == 0) = false := by simp; omega
  obtain ⟨i0, hi, hz0, hz1, hz2⟩ := info_parts infoF
  obtain ⟨k4, hk4⟩ : ∃ k, k = n / 24 % 4 := ⟨_, rfl⟩
  obtain ⟨q60, hq60⟩ : ∃ k, k = n / 60 := ⟨_, rfl⟩
  have e24 : (n : Int) / 24 % 4 = (k4 : Int) := by omega
  have e60 : (n : Int) / 60 = (q60 : Int) := by omega
  have hk44 : k4 < 4 := by omega
  have hq5 : q60 < 5 := by omega
  have hnd : r.length = rl := hrl.symm
  rw [hn, ← hq60] at hks
  have HKs := Lib.hid hks
  have HCells := Lib.hid hcells
  have HIh := Lib.hid ih
  have HRl := Lib.hid hrl
  have HBl := Lib.hid hbl
  have HTYl := Lib.hid hTYl
  have HFu := Lib.hid hfu
  have hm0 : MadeF w A1.heap.size 3 A4 (ks 0) (.slice none 0 0) := ⟨x4, x6, ⟨[], by rw [hks]; exact World.ownsRow_nil _ _ _ _, by rw [hks]; rfl⟩, hb4⟩
  have HM0 := Lib.hid hm0
  have HZ1 := Lib.hid z1
  have HZ4 := Lib.hid z4
  obtain ⟨g0, g1, g2, g3, g4⟩ := fl_cells x6
  clear hm0 hTYl hVLl hTY hVL x4 x6 hb1 hb4 z1 z4 hC hm hk6 hv6 hn hk hks hcells ih hrl hbl hfu hk4 hq60 hnd
  go_enter Tryz.func15, Tryz.ntmps15
  go_upto_region 5 with (fail)
  rw [HA2.out]
  go_wp2
  clear g0 g1 g2 g3 g4 e6 e16 e8 e8' hA1 hA3 hA4 hc0 hty hvl
  go_loopw [9] (fun i wr => ∃ (j : Nat) (v : Value), i = .int .i64 ((j : Int) + 1) ∧ j ≤ min rl k4 ∧ Hid (MadeF w A1.heap.size 3 wr (ks j) v) ∧ Hid (w.heap.size + 4 ≤ wr.heap.size)) (fun i _ => rl + 1 - (intOf i).toNat)
  case atStart => exact ⟨0, .slice none 0 0, rfl, Nat.zero_le _, HM0, Lib.hid (by rw [HZ4.out]; exact Nat.le_refl _)⟩
  case round =>
    obtain ⟨j, v, rfl, hjK, HM, HSz⟩ := hrel
    by_cases h1 : j < rl
    · have t1 : decide ((j : Int) < (rl : Int)) = true := by simp; omega
      have t1' : decide ((j : Int) + 1 < (rl : Int) + 1) = true := by simp; omega
      by_cases h2 : j + 1 ≤ k4
      · have t2 : decide ((j : Int) + 1 ≤ (k4 : Int)) = true := by simp; omega
        obtain ⟨hz, hb6, ⟨xs, hown, hels⟩, hbel⟩ := HM.out
        obtain ⟨ho, hhi⟩ : ∃ ho, ho = min (rl + 1) (j + 1 + q60 + 1) := ⟨_, rfl⟩
        have ew1 : IntKind.i64.wrap ((j : Int) + 1 + (q60 : Int)) = (j : Int) + 1 + (q60 : Int) := IntWalk.i64_in _ (by omega)
        have ew2 : IntKind.i64.wrap ((j : Int) + 1 + (q60 : Int) + 1) = (j : Int) + 1 + (q60 : Int) + 1 := IntWalk.i64_in _ (by omega)
        have em : min ((rl : Int) + 1) ((j : Int) + 1 + (q60 : Int) + 1) = (ho : Int) := by omega
        have ew0 : IntKind.i64.wrap (q60 : Int) = (q60 : Int) := IntWalk.i64_in _ (by omega)
        have em2 : max (ho : Int) 0 = (ho : Int) := by omega
        have ecj : ¬ cap = j + 1 := by omega
        have hhi1 : j + 1 ≤ ho := by omega
        have hhi2 : ho ≤ rl + 1 := by omega
        have hhi3 : ho ≤ cap := by omega
        have ei1 : (0 : Int) ≤ (j : Int) + 1 := by omega
        have ei2 : (j : Int) + 1 ≤ (ho : Int) := by omega
        have ei3 : (ho : Int) ≤ (cap : Int) := by omega
        have ei4 : ((j : Int) + 1).toNat = j + 1 := by omega
        obtain ⟨y0, y1, y2, hv⟩ := ownsRow_sliceF hown
        subst hv
        obtain ⟨L, hL⟩ : ∃ L, L = ((c :: r).drop (j + 1)).take (q60 + 1) := ⟨_, rfl⟩
        have hLl : L.length = ho - (j + 1) := by rw [hL]; simp; have := HRl.out; omega
        have hkl : (ks j).length = j := by rw [HKs.out]; exact kidsM_len _ _ _ j
        have hks1 : ks (j + 1) = ks j ++ [makeFu S.data.toList fu L] := by rw [HKs.out, hL]; rfl
        have hkb : ∀ w2, Below w.heap.size w w2 → Calls Tryz.prog 15 #[.slice (some ⟨b, off + (j + 1), none⟩) (ho - (j + 1)) (cap - (j + 1)), .string S] w2 fun e w' => ∃ v, e = .returned v ∧ IsFl (fun b => w2.heap.size ≤ b ∧ b < w'.heap.size) w' (makeFu S.data.toList fu L) v ∧ Below w2.heap.size w2 w' := by
          intro w2 hb2
          rw [← hLl]
          refine HIh.out L _ _ w2 (by have := HFu.out; have := HRl.out; omega) ⟨by omega, by unfold maxLen; omega, .inr ⟨b, off + (j + 1), rfl, Nat.lt_of_lt_of_le HBl.out hb2.size, fun i hi => ?_⟩⟩
          have hx2 : j + 1 + i < (c :: r).length := by have := HRl.out; simp; omega
          have he : L[i] = (c :: r)[j + 1 + i] := by simp only [hL, List.getElem_take, List.getElem_drop]
          have := (hb2.cell (p := ⟨b, off + (j + 1 + i), none⟩) HBl.out).trans (HCells.out (j + 1 + i) hx2)
          rw [he, Nat.add_assoc]; exact this
        have HKb := Lib.hid hkb
        have HBel := Lib.hid hbel
        have HOwn := Lib.hid hown
        have HEls := Lib.hid hels
        have HKs1 := Lib.hid hks1
        have HB6 := Lib.hid hb6
        obtain ⟨c0, c1, c2, c3, c4⟩ := fl_cells hb6
        obtain ⟨f0, f1, f2, f3, f4⟩ := fl_frozen hb6
        have hwlt : A1.heap.size < wr.heap.size := fl_lt hb6
        have hjK1 : j + 1 ≤ min rl k4 := by omega
        have HKl := Lib.hid hkl
        have hkj : (ks j).length ≤ 5 := by omega
        clear hhi hL hLl hkb hbel hz hb6 hown hels hkl hks1
        go_wp2_with fail
        go_region_law (first
          | (go_simp; go_at_call 15; refine (HKb.out wr.drew HBel.out.drew).mono ?_; rintro e w2 ⟨v2, rfl, hnew, hb2⟩; (obtain ⟨kk0, kT0, kX0, kpa, kpn, kpc, kka, kkn, kkc, hsh⟩ := hnew.shape); subst hsh; have hk2 := fl_below HB6.out ((Below.refl _ _).drew.trans hb2) hwlt; (obtain ⟨c0', c1', c2', c3', c4'⟩ := fl_cells hk2); (obtain ⟨f0', f1', f2', f3', f4'⟩ := fl_frozen hk2); have hw2 := fl_lt hk2; have hka := fl_below hk2 (box5 w2 (.int .i64 kk0) (.string kT0) (.string kX0) (.slice kpa kpn kpc) (.slice kka kkn kkc)) hw2; (obtain ⟨a0', a1', a2', a3', a4'⟩ := fl_cells hka); clear hka; have HB2 := Lib.hid ((Below.refl wr.heap.size wr).drew.trans hb2); have HNew := Lib.hid hnew; clear hb2 hnew hk2)
          | (refine step_append_lies _ (by rfl) _ _ _ (by rfl) (w.heap.size + 4) 25 i0 (.agg #[.int .i64 0, .string ⟨#[]⟩, .string ⟨#[]⟩, .slice none 0 0, .slice none 0 0]) 5 88 Tryz.underlying23 hi hz0 hz1 hz2 rfl (by omega) (.slice y0 y1 y2) (ks j).length xs (by rfl) (mid_anyF HOwn.out HEls.out HSz.out HB2.out HNew.out ((Below.refl _ _).alloc (Nat.le_refl _) _)).1 ⟨w2.heap.size, 0, none⟩ 1 1 [.int .i64 kk0, .string kT0, .string kX0, .slice kpa kpn kpc, .slice kka kkn kkc] (by rfl) (by rfl) (news5 _ _ _ _ _ _) (by intro u hu; simp at hu; rcases hu with rfl | rfl | rfl | rfl | rfl <;> rfl) (by omega) (by unfold maxLen; omega) (by omega) (by have := HB2.out.size; have := HSz.out; simp; omega) _ rfl ?_; intro gg gc w4 hown1 hgrow hat hlt; obtain ⟨hc4, hf4, hnx⟩ := nextKF HZ1.out HSz.out HM.out HOwn.out HEls.out HB2.out HNew.out ((Below.refl _ _).alloc (Nat.le_refl _) _) hown1 hgrow hat; have HNx := Lib.hid hnx; have HSz2 : Hid (w.heap.size + 4 ≤ w4.heap.size) := Lib.hid (by have := HSz.out; have := HB2.out.size; have := hgrow.size; simp at this; omega); clear hown1 hgrow hat hnx))
        all_goals
          go_wp2
          go_roundw
          case rel => exact ⟨j + 1, _, by go_num, by omega, by rw [HKs1.out]; exact HNx, Lib.hid (by rw [World.size_setCell]; exact HSz2.out)⟩
          case measure => simp [intOf]; omega
      · have t2 : decide ((j : Int) + 1 ≤ (k4 : Int)) = false := by simp; omega
        obtain ⟨hz, hb6, ⟨xs, hown, hels⟩, hbel⟩ := HM.out
        obtain ⟨y0, y1, y2, hv⟩ := ownsRow_sliceF hown
        subst hv
        obtain ⟨c0, c1, c2, c3, c4⟩ := fl_cells hb6
        have hkb : ∀ w2, Below w.heap.size w w2 → Calls Tryz.prog 15 #[.slice (some ⟨b, off + 1, none⟩) rl (cap - 1), .string S] w2 fun e w' => ∃ v, e = .returned v ∧ IsFl (fun b => w2.heap.size ≤ b ∧ b < w'.heap.size) w' (makeFu S.data.toList fu r) v ∧ Below w2.heap.size w2 w' := by
          intro w2 hb2
          rw [HRl.out]
          refine HIh.out r _ _ w2 HFu.out ⟨by have := HRl.out; omega, by unfold maxLen; omega, .inr ⟨b, off + 1, rfl, Nat.lt_of_lt_of_le HBl.out hb2.size, fun i hi => ?_⟩⟩
          have hx2 : i + 1 < (c :: r).length := by simpa using hi
          have := (hb2.cell (p := ⟨b, off + (i + 1), none⟩) HBl.out).trans (HCells.out (i + 1) hx2)
          rw [show off + 1 + i = off + (i + 1) from by omega]; exact this
        have HKb := Lib.hid hkb
        have HBel := Lib.hid hbel
        have HB6 := Lib.hid hb6
        have HZz := Lib.hid hz
        have HSz2 := HSz
        clear hz hb6 hown hels hbel hkb
        have hc1 : ¬ cap = 1 := by omega
        go_upto_region 24 with (go_at_call 15; refine (HKb.out _ HBel.out).mono ?_; rintro e w5 ⟨v5, rfl, hnew, hb5⟩; (obtain ⟨kk0, kT0, kX0, kpa, kpn, kpc, kka, kkn, kkc, hsh⟩ := hnew.shape); subst hsh; (obtain ⟨W5, hW5⟩ : ∃ W, w5.alloc (.cells #[.int .i64 kk0, .string kT0, .string kX0, .slice kpa kpn kpc, .slice kka kkn kkc] 25) = W := ⟨_, rfl⟩); have hb55 : Below w5.heap.size w5 W5 := (by rw [← hW5]; exact box5 w5 _ _ _ _ _); have hz5 : FlAt W5 w5.heap.size (.int .i64 kk0) (.string kT0) (.string kX0) (.slice kpa kpn kpc) (.slice kka kkn kkc) := (by rw [← hW5]; exact heap_alloc_new w5 _); have hx6 := fl_below HB6.out (bthen hb5 hb55) (fl_lt HB6.out); have hx0 := fl_below HZz.out (bthen hb5 hb55) (fl_lt HZz.out); (obtain ⟨p0, p1, p2, p3, p4⟩ := fl_cells hx6); (obtain ⟨f0, f1, f2, f3, f4⟩ := fl_frozen hx6); have HNew := Lib.hid hnew; have HB5 := Lib.hid hb5; have HB55 := Lib.hid hb55; have HZ5 := Lib.hid hz5; have HX6 := Lib.hid hx6; have HX0 := Lib.hid hx0; clear hnew hb5 hb55 hz5 hx6 hx0)
        obtain ⟨W6, hW6⟩ : ∃ W, W5.setCell ⟨A1.heap.size, 4, none⟩ (.slice (some ⟨w5.heap.size, 0, none⟩) 1 1) = W := ⟨_, rfl⟩
        rw [hW6]
        have hlt5 : w5.heap.size < W5.heap.size := fl_lt HZ5.out
        have hs5 := HB5.out.size
        have hsz4 := HSz2.out
        have hzB := HZ1.out
        have x6 : FlAt W6 A1.heap.size (.int .i64 3) (.string ⟨#[]⟩) (.string ⟨#[]⟩) (.slice none 0 0) (.slice (some ⟨w5.heap.size, 0, none⟩) 1 1) := by rw [← hW6]; exact fl_set4 HX6.out _
        have x0 : FlAt W6 w.heap.size (.int .i64 0) (.string ⟨#[]⟩) (.string ⟨#[]⟩) (.slice none 0 0) (.slice none 0 0) := by rw [← hW6]; exact (blockFl_ne _ ⟨A1.heap.size, 4, none⟩ _ (by show w.heap.size ≠ A1.heap.size; omega)).trans HX0.out
        have hz6 : W6.heap.size = W5.heap.size := by rw [← hW6, World.size_setCell]
        have hne : ∀ b o, b ≠ A1.heap.size → W6.cell? ⟨b, o, none⟩ = W5.cell? ⟨b, o, none⟩ := fun b o h => by rw [← hW6]; exact World.cell?_of_block (a := ⟨b, o, none⟩) (heap_setCell_other _ _ _ _ h)
        have hb6 : Below w.heap.size w W6 := by rw [← hW6]; exact (HBel.out.trans ((bthen HB5.out HB55.out).mono HBel.out.size)).setCell (p := ⟨A1.heap.size, 4, none⟩) (by show w.heap.size ≤ A1.heap.size; omega) _
        have hres : IsFl (fun b => w.heap.size ≤ b ∧ b < (set5F W6 w.heap.size (.int .i64 3) (.string ⟨#[]⟩) (.string ⟨#[]⟩) (.slice none 0 0) (.slice (some ⟨w5.heap.size, 0, none⟩) 1 1)).heap.size) (set5F W6 w.heap.size (.int .i64 3) (.string ⟨#[]⟩) (.string ⟨#[]⟩) (.slice none 0 0) (.slice (some ⟨w5.heap.size, 0, none⟩) 1 1)) (.mk 3 [] [] [] [makeFu S.data.toList fu r]) (.agg #[.int .i64 3, .string ⟨#[]⟩, .string ⟨#[]⟩, .slice none 0 0, .slice (some ⟨w5.heap.size, 0, none⟩) 1 1]) := by
          refine mkHold (k := 3) (l := [makeFu S.data.toList fu r]) (a := some ⟨w5.heap.size, 0, none⟩) (c := 1) (by decide) (by show 1 ≤ maxLen; decide) ?_
          obtain ⟨g0, g1, g2, g3, g4⟩ := fl_cells HZ5.out
          have h1 : w5.heap.size ≠ w.heap.size := by omega
          have h2 : w5.heap.size ≠ A1.heap.size := by omega
          refine ⟨⟨w5.heap.size, 0, _, _, _, _, _, rfl, ⟨by omega, by rw [set5F_size, hz6]; exact hlt5⟩, (fl_setC h1).trans ((hne _ _ h2).trans g0), (fl_setC h1).trans ((hne _ _ h2).trans g1), (fl_setC h1).trans ((hne _ _ h2).trans g2), (fl_setC h1).trans ((hne _ _ h2).trans g3), (fl_setC h1).trans ((hne _ _ h2).trans g4), ?_⟩, trivial⟩
          exact HNew.out.imp (fun b h => ⟨by have := h.1; omega, by rw [set5F_size, hz6]; have := h.2; omega⟩) (fun b o h => (fl_setC (by have := h.1; omega)).trans ((hne _ _ (by have := h.1; omega)).trans (HB55.out.cell (p := ⟨b, o, none⟩) h.2)))
        have HRes := Lib.hid hres
        have HBb := Lib.hid hb6
        obtain ⟨u0, u1, u2, u3, u4⟩ := fl_cells x6
        obtain ⟨d0, d1, d2, d3, d4⟩ := fl_cells x0
        obtain ⟨q0, q1, q2, q3, q4⟩ := fl_frozen x0
        obtain ⟨r0, r1, r2, r3, r4⟩ := fl_cells (fl_set x0 (.int .i64 3) (.string ⟨#[]⟩) (.string ⟨#[]⟩) (.slice none 0 0) (.slice (some ⟨w5.heap.size, 0, none⟩) 1 1))
        unfold set5F at r0 r1 r2 r3 r4
        clear hzB hW6 x6 x0 hz6 hne hb6 hres p0 p1 p2 p3 p4 f0 f1 f2 f3 f4
        go_wp2
        have hbz := fl_setB HBb.out (Nat.le_refl w.heap.size) (.int .i64 3) (.string ⟨#[]⟩) (.string ⟨#[]⟩) (.slice none 0 0) (.slice (some ⟨w5.heap.size, 0, none⟩) 1 1)
        refine bodyPost_ret (v := .agg #[.int .i64 3, .string ⟨#[]⟩, .string ⟨#[]⟩, .slice none 0 0, .slice (some ⟨w5.heap.size, 0, none⟩) 1 1]) (by simp [results, Tryz.results15, go_sem, r0, r1, r2, r3, r4]) rfl ⟨_, rfl, ?_, hbz⟩
        exact HRes.out
    · have t1 : decide ((j : Int) < (rl : Int)) = false := by simp; omega
      have t1' : decide ((j : Int) + 1 < (rl : Int) + 1) = false := by simp; omega
      obtain ⟨hz, hb6, ⟨xs, hown, hels⟩, hbel⟩ := HM.out
      obtain ⟨y0, y1, y2, hv⟩ := ownsRow_sliceF hown
      subst hv
      obtain ⟨c0, c1, c2, c3, c4⟩ := fl_cells hb6
      have hkb : ∀ w2, Below w.heap.size w w2 → Calls Tryz.prog 15 #[.slice (some ⟨b, off + 1, none⟩) rl (cap - 1), .string S] w2 fun e w' => ∃ v, e = .returned v ∧ IsFl (fun b => w2.heap.size ≤ b ∧ b < w'.heap.size) w' (makeFu S.data.toList fu r) v ∧ Below w2.heap.size w2 w' := by
        intro w2 hb2
        rw [HRl.out]
        refine HIh.out r _ _ w2 HFu.out ⟨by have := HRl.out; omega, by unfold maxLen; omega, .inr ⟨b, off + 1, rfl, Nat.lt_of_lt_of_le HBl.out hb2.size, fun i hi => ?_⟩⟩
        have hx2 : i + 1 < (c :: r).length := by simpa using hi
        have := (hb2.cell (p := ⟨b, off + (i + 1), none⟩) HBl.out).trans (HCells.out (i + 1) hx2)
        rw [show off + 1 + i = off + (i + 1) from by omega]; exact this
      have HKb := Lib.hid hkb
      have HBel := Lib.hid hbel
      have HB6 := Lib.hid hb6
      have HZz := Lib.hid hz
      have HSz2 := HSz
      clear hz hb6 hown hels hbel hkb
      by_cases hc1 : cap = 1
      · have hr0 : rl = 0 := by omega
        subst hc1
        have hre : r = [] := List.eq_nil_of_length_eq_zero (by rw [← HRl.out]; exact hr0)
        have hkz : ∀ w2, Calls Tryz.prog 15 #[.slice (some ⟨b, off, none⟩) 0 0, .string S] w2 fun e w' => ∃ v, e = .returned v ∧ IsFl (fun b => w2.heap.size ≤ b ∧ b < w'.heap.size) w' (makeFu S.data.toList fu r) v ∧ Below w2.heap.size w2 w' := by
          intro w2
          rw [hre]
          exact HIh.out [] _ _ w2 (Nat.zero_le _) ⟨Nat.le_refl _, Nat.zero_le _, .inl rfl⟩
        have HKz := Lib.hid hkz
        subst hr0
        clear hkz hre
        go_upto_region 24 with (go_at_call 15; refine (HKz.out _).mono ?_; rintro e w5 ⟨v5, rfl, hnew, hb5⟩; (obtain ⟨kk0, kT0, kX0, kpa, kpn, kpc, kka, kkn, kkc, hsh⟩ := hnew.shape); subst hsh; (obtain ⟨W5, hW5⟩ : ∃ W, w5.alloc (.cells #[.int .i64 kk0, .string kT0, .string kX0, .slice kpa kpn kpc, .slice kka kkn kkc] 25) = W := ⟨_, rfl⟩); have hb55 : Below w5.heap.size w5 W5 := (by rw [← hW5]; exact box5 w5 _ _ _ _ _); have hz5 : FlAt W5 w5.heap.size (.int .i64 kk0) (.string kT0) (.string kX0) (.slice kpa kpn kpc) (.slice kka kkn kkc) := (by rw [← hW5]; exact heap_alloc_new w5 _); have hx6 := fl_below HB6.out (bthen hb5 hb55) (fl_lt HB6.out); have hx0 := fl_below HZz.out (bthen hb5 hb55) (fl_lt HZz.out); (obtain ⟨p0, p1, p2, p3, p4⟩ := fl_cells hx6); (obtain ⟨f0, f1, f2, f3, f4⟩ := fl_frozen hx6); have HNew := Lib.hid hnew; have HB5 := Lib.hid hb5; have HB55 := Lib.hid hb55; have HZ5 := Lib.hid hz5; have HX6 := Lib.hid hx6; have HX0 := Lib.hid hx0; clear hnew hb5 hb55 hz5 hx6 hx0)
        obtain ⟨W6, hW6⟩ : ∃ W, W5.setCell ⟨A1.heap.size, 4, none⟩ (.slice (some ⟨w5.heap.size, 0, none⟩) 1 1) = W := ⟨_, rfl⟩
        rw [hW6]
        have hlt5 : w5.heap.size < W5.heap.size := fl_lt HZ5.out
        have hs5 := HB5.out.size
        have hsz4 := HSz2.out
        have hzB := HZ1.out
        have x6 : FlAt W6 A1.heap.size (.int .i64 3) (.string ⟨#[]⟩) (.string ⟨#[]⟩) (.slice none 0 0) (.slice (some ⟨w5.heap.size, 0, none⟩) 1 1) := by rw [← hW6]; exact fl_set4 HX6.out _
        have x0 : FlAt W6 w.heap.size (.int .i64 0) (.string ⟨#[]⟩) (.string ⟨#[]⟩) (.slice none 0 0) (.slice none 0 0) := by rw [← hW6]; exact (blockFl_ne _ ⟨A1.heap.size, 4, none⟩ _ (by show w.heap.size ≠ A1.heap.size; omega)).trans HX0.out
        have hz6 : W6.heap.size = W5.heap.size := by rw [← hW6, World.size_setCell]
        have hne : ∀ b o, b ≠ A1.heap.size → W6.cell? ⟨b, o, none⟩ = W5.cell? ⟨b, o, none⟩ := fun b o h => by rw [← hW6]; exact World.cell?_of_block (a := ⟨b, o, none⟩) (heap_setCell_other _ _ _ _ h)
        have hb6 : Below w.heap.size w W6 := by rw [← hW6]; exact (HBel.out.trans ((bthen HB5.out HB55.out).mono HBel.out.size)).setCell (p := ⟨A1.heap.size, 4, none⟩) (by show w.heap.size ≤ A1.heap.size; omega) _
        have hres : IsFl (fun b => w.heap.size ≤ b ∧ b < (set5F W6 w.heap.size (.int .i64 3) (.string ⟨#[]⟩) (.string ⟨#[]⟩) (.slice none 0 0) (.slice (some ⟨w5.heap.size, 0, none⟩) 1 1)).heap.size) (set5F W6 w.heap.size (.int .i64 3) (.string ⟨#[]⟩) (.string ⟨#[]⟩) (.slice none 0 0) (.slice (some ⟨w5.heap.size, 0, none⟩) 1 1)) (.mk 3 [] [] [] [makeFu S.data.toList fu r]) (.agg #[.int .i64 3, .string ⟨#[]⟩, .string ⟨#[]⟩, .slice none 0 0, .slice (some ⟨w5.heap.size, 0, none⟩) 1 1]) := by
          refine mkHold (k := 3) (l := [makeFu S.data.toList fu r]) (a := some ⟨w5.heap.size, 0, none⟩) (c := 1) (by decide) (by show 1 ≤ maxLen; decide) ?_
          obtain ⟨g0, g1, g2, g3, g4⟩ := fl_cells HZ5.out
          have h1 : w5.heap.size ≠ w.heap.size := by omega
          have h2 : w5.heap.size ≠ A1.heap.size := by omega
          refine ⟨⟨w5.heap.size, 0, _, _, _, _, _, rfl, ⟨by omega, by rw [set5F_size, hz6]; exact hlt5⟩, (fl_setC h1).trans ((hne _ _ h2).trans g0), (fl_setC h1).trans ((hne _ _ h2).trans g1), (fl_setC h1).trans ((hne _ _ h2).trans g2), (fl_setC h1).trans ((hne _ _ h2).trans g3), (fl_setC h1).trans ((hne _ _ h2).trans g4), ?_⟩, trivial⟩
          exact HNew.out.imp (fun b h => ⟨by have := h.1; omega, by rw [set5F_size, hz6]; have := h.2; omega⟩) (fun b o h => (fl_setC (by have := h.1; omega)).trans ((hne _ _ (by have := h.1; omega)).trans (HB55.out.cell (p := ⟨b, o, none⟩) h.2)))
        have HRes := Lib.hid hres
        have HBb := Lib.hid hb6
        obtain ⟨u0, u1, u2, u3, u4⟩ := fl_cells x6
        obtain ⟨d0, d1, d2, d3, d4⟩ := fl_cells x0
        obtain ⟨q0, q1, q2, q3, q4⟩ := fl_frozen x0
        obtain ⟨r0, r1, r2, r3, r4⟩ := fl_cells (fl_set x0 (.int .i64 3) (.string ⟨#[]⟩) (.string ⟨#[]⟩) (.slice none 0 0) (.slice (some ⟨w5.heap.size, 0, none⟩) 1 1))
        unfold set5F at r0 r1 r2 r3 r4
        clear hzB hW6 x6 x0 hz6 hne hb6 hres p0 p1 p2 p3 p4 f0 f1 f2 f3 f4
        go_wp2
        have hbz := fl_setB HBb.out (Nat.le_refl w.heap.size) (.int .i64 3) (.string ⟨#[]⟩) (.string ⟨#[]⟩) (.slice none 0 0) (.slice (some ⟨w5.heap.size, 0, none⟩) 1 1)
        refine bodyPost_ret (v := .agg #[.int .i64 3, .string ⟨#[]⟩, .string ⟨#[]⟩, .slice none 0 0, .slice (some ⟨w5.heap.size, 0, none⟩) 1 1]) (by simp [results, Tryz.results15, go_sem, r0, r1, r2, r3, r4]) rfl ⟨_, rfl, ?_, hbz⟩
        exact HRes.out
      · go_upto_region 24 with (go_at_call 15; refine (HKb.out _ HBel.out).mono ?_; rintro e w5 ⟨v5, rfl, hnew, hb5⟩; (obtain ⟨kk0, kT0, kX0, kpa, kpn, kpc, kka, kkn, kkc, hsh⟩ := hnew.shape); subst hsh; (obtain ⟨W5, hW5⟩ : ∃ W, w5.alloc (.cells #[.int .i64 kk0, .string kT0, .string kX0, .slice kpa kpn kpc, .slice kka kkn kkc] 25) = W := ⟨_, rfl⟩); have hb55 : Below w5.heap.size w5 W5 := (by rw [← hW5]; exact box5 w5 _ _ _ _ _); have hz5 : FlAt W5 w5.heap.size (.int .i64 kk0) (.string kT0) (.string kX0) (.slice kpa kpn kpc) (.slice kka kkn kkc) := (by rw [← hW5]; exact heap_alloc_new w5 _); have hx6 := fl_below HB6.out (bthen hb5 hb55) (fl_lt HB6.out); have hx0 := fl_below HZz.out (bthen hb5 hb55) (fl_lt HZz.out); (obtain ⟨p0, p1, p2, p3, p4⟩ := fl_cells hx6); (obtain ⟨f0, f1, f2, f3, f4⟩ := fl_frozen hx6); have HNew := Lib.hid hnew; have HB5 := Lib.hid hb5; have HB55 := Lib.hid hb55; have HZ5 := Lib.hid hz5; have HX6 := Lib.hid hx6; have HX0 := Lib.hid hx0; clear hnew hb5 hb55 hz5 hx6 hx0)
        obtain ⟨W6, hW6⟩ : ∃ W, W5.setCell ⟨A1.heap.size, 4, none⟩ (.slice (some ⟨w5.heap.size, 0, none⟩) 1 1) = W := ⟨_, rfl⟩
        rw [hW6]
        have hlt5 : w5.heap.size < W5.heap.size := fl_lt HZ5.out
        have hs5 := HB5.out.size
        have hsz4 := HSz2.out
        have hzB := HZ1.out
        have x6 : FlAt W6 A1.heap.size (.int .i64 3) (.string ⟨#[]⟩) (.string ⟨#[]⟩) (.slice none 0 0) (.slice (some ⟨w5.heap.size, 0, none⟩) 1 1) := by rw [← hW6]; exact fl_set4 HX6.out _
        have x0 : FlAt W6 w.heap.size (.int .i64 0) (.string ⟨#[]⟩) (.string ⟨#[]⟩) (.slice none 0 0) (.slice none 0 0) := by rw [← hW6]; exact (blockFl_ne _ ⟨A1.heap.size, 4, none⟩ _ (by show w.heap.size ≠ A1.heap.size; omega)).trans HX0.out
        have hz6 : W6.heap.size = W5.heap.size := by rw [← hW6, World.size_setCell]
        have hne : ∀ b o, b ≠ A1.heap.size → W6.cell? ⟨b, o, none⟩ = W5.cell? ⟨b, o, none⟩ := fun b o h => by rw [← hW6]; exact World.cell?_of_block (a := ⟨b, o, none⟩) (heap_setCell_other _ _ _ _ h)
        have hb6 : Below w.heap.size w W6 := by rw [← hW6]; exact (HBel.out.trans ((bthen HB5.out HB55.out).mono HBel.out.size)).setCell (p := ⟨A1.heap.size, 4, none⟩) (by show w.heap.size ≤ A1.heap.size; omega) _
        have hres : IsFl (fun b => w.heap.size ≤ b ∧ b < (set5F W6 w.heap.size (.int .i64 3) (.string ⟨#[]⟩) (.string ⟨#[]⟩) (.slice none 0 0) (.slice (some ⟨w5.heap.size, 0, none⟩) 1 1)).heap.size) (set5F W6 w.heap.size (.int .i64 3) (.string ⟨#[]⟩) (.string ⟨#[]⟩) (.slice none 0 0) (.slice (some ⟨w5.heap.size, 0, none⟩) 1 1)) (.mk 3 [] [] [] [makeFu S.data.toList fu r]) (.agg #[.int .i64 3, .string ⟨#[]⟩, .string ⟨#[]⟩, .slice none 0 0, .slice (some ⟨w5.heap.size, 0, none⟩) 1 1]) := by
          refine mkHold (k := 3) (l := [makeFu S.data.toList fu r]) (a := some ⟨w5.heap.size, 0, none⟩) (c := 1) (by decide) (by show 1 ≤ maxLen; decide) ?_
          obtain ⟨g0, g1, g2, g3, g4⟩ := fl_cells HZ5.out
          have h1 : w5.heap.size ≠ w.heap.size := by omega
          have h2 : w5.heap.size ≠ A1.heap.size := by omega
          refine ⟨⟨w5.heap.size, 0, _, _, _, _, _, rfl, ⟨by omega, by rw [set5F_size, hz6]; exact hlt5⟩, (fl_setC h1).trans ((hne _ _ h2).trans g0), (fl_setC h1).trans ((hne _ _ h2).trans g1), (fl_setC h1).trans ((hne _ _ h2).trans g2), (fl_setC h1).trans ((hne _ _ h2).trans g3), (fl_setC h1).trans ((hne _ _ h2).trans g4), ?_⟩, trivial⟩
          exact HNew.out.imp (fun b h => ⟨by have := h.1; omega, by rw [set5F_size, hz6]; have := h.2; omega⟩) (fun b o h => (fl_setC (by have := h.1; omega)).trans ((hne _ _ (by have := h.1; omega)).trans (HB55.out.cell (p := ⟨b, o, none⟩) h.2)))
        have HRes := Lib.hid hres
        have HBb := Lib.hid hb6
        obtain ⟨u0, u1, u2, u3, u4⟩ := fl_cells x6
        obtain ⟨d0, d1, d2, d3, d4⟩ := fl_cells x0
        obtain ⟨q0, q1, q2, q3, q4⟩ := fl_frozen x0
        obtain ⟨r0, r1, r2, r3, r4⟩ := fl_cells (fl_set x0 (.int .i64 3) (.string ⟨#[]⟩) (.string ⟨#[]⟩) (.slice none 0 0) (.slice (some ⟨w5.heap.size, 0, none⟩) 1 1))
        unfold set5F at r0 r1 r2 r3 r4
        clear hzB hW6 x6 x0 hz6 hne hb6 hres p0 p1 p2 p3 p4 f0 f1 f2 f3 f4
        go_wp2
        have hbz := fl_setB HBb.out (Nat.le_refl w.heap.size) (.int .i64 3) (.string ⟨#[]⟩) (.string ⟨#[]⟩) (.slice none 0 0) (.slice (some ⟨w5.heap.size, 0, none⟩) 1 1)
        refine bodyPost_ret (v := .agg #[.int .i64 3, .string ⟨#[]⟩, .string ⟨#[]⟩, .slice none 0 0, .slice (some ⟨w5.heap.size, 0, none⟩) 1 1]) (by simp [results, Tryz.results15, go_sem, r0, r1, r2, r3, r4]) rfl ⟨_, rfl, ?_, hbz⟩
        exact HRes.out
end Go.Proofs.YtdgnefcpeocbjaaGreatDoor


namespace Go.Proofs.YtdgnefcpeocbjaaGreatDoor
open Go.RowKit
set_option linter.unusedVariables false
set_option linter.unnecessarySimpa false
set_option linter.unusedSimpArgs false

theorem mk_parts (A5 R1 R2 R3 R4 R5 : World) (S SE : ByteArray) (hSE : SE.data.toList = S.data.toList ++ [101]) (n : Nat)
    (h1 : A5.alloc (.cells #[.string ⟨#[110]⟩, .string ⟨#[]⟩] 9) = R1)
    (h2 : R1.alloc (.cells #[.string ⟨#[]⟩, .string ⟨#[49]⟩] 9) = R2)
    (h3 : R2.alloc (.cells #[.string ⟨#[]⟩, .string SE, .string ⟨#[]⟩] 9) = R3)
    (h4 : R3.alloc (.cells #[.string ⟨#[68]⟩, .string ⟨#[32]⟩, .string ⟨#[53]⟩] 9) = R4)
    (h5 : R4.alloc (.cells #[.slice (some ⟨A5.heap.size, 0, none⟩) 2 2, .slice (some ⟨R1.heap.size, 0, none⟩) 2 2, .slice (some ⟨R2.heap.size, 0, none⟩) 3 3, .slice (some ⟨R3.heap.size, 0, none⟩) 3 3] 22) = R5)
    : ∃ a cp, R5.cell? ⟨R4.heap.size, n / 48 % 4, none⟩ = some (.slice a (mkPa S.data.toList n).length cp) ∧ IsTo (fun b => A5.heap.size ≤ b ∧ b < R5.heap.size) R5 (mkPa S.data.toList n) (.slice a (mkPa S.data.toList n).length cp) ∧ (mkPa S.data.toList n).length ≤ 3 ∧ Below A5.heap.size A5 R5 := by
  have z1 : R1.heap.size = A5.heap.size + 1 := by rw [← h1]; simp
  have z2 : R2.heap.size = A5.heap.size + 2 := by rw [← h2]; simp [z1]
  have z3 : R3.heap.size = A5.heap.size + 3 := by rw [← h3]; simp [z2]
  have z4 : R4.heap.size = A5.heap.size + 4 := by rw [← h4]; simp [z3]
  have z5 : R5.heap.size = A5.heap.size + 5 := by rw [← h5]; simp [z4]
  have b1 : Below A5.heap.size A5 R1 := by rw [← h1]; exact (Below.refl _ _).alloc (Nat.le_refl _) _
  have b2 : Below R1.heap.size R1 R2 := by rw [← h2]; exact (Below.refl _ _).alloc (Nat.le_refl _) _
  have b3 : Below R2.heap.size R2 R3 := by rw [← h3]; exact (Below.refl _ _).alloc (Nat.le_refl _) _
  have b4 : Below R3.heap.size R3 R4 := by rw [← h4]; exact (Below.refl _ _).alloc (Nat.le_refl _) _
  have b5 : Below R4.heap.size R4 R5 := by rw [← h5]; exact (Below.refl _ _).alloc (Nat.le_refl _) _
  have x1 : R5.heap[A5.heap.size]? = some (.cells #[.string ⟨#[110]⟩, .string ⟨#[]⟩] 9 (0, 0)) := ((bthen b2 (bthen b3 (bthen b4 b5))).block _ (by omega)).trans (by rw [← h1]; exact heap_alloc_new A5 _)
  have x2 : R5.heap[R1.heap.size]? = some (.cells #[.string ⟨#[]⟩, .string ⟨#[49]⟩] 9 (0, 0)) := ((bthen b3 (bthen b4 b5)).block _ (by omega)).trans (by rw [← h2]; exact heap_alloc_new R1 _)
  have x3 : R5.heap[R2.heap.size]? = some (.cells #[.string ⟨#[]⟩, .string SE, .string ⟨#[]⟩] 9 (0, 0)) := ((bthen b4 b5).block _ (by omega)).trans (by rw [← h3]; exact heap_alloc_new R2 _)
  have x4 : R5.heap[R3.heap.size]? = some (.cells #[.string ⟨#[68]⟩, .string ⟨#[32]⟩, .string ⟨#[53]⟩] 9 (0, 0)) := (b5.block _ (by omega)).trans (by rw [← h4]; exact heap_alloc_new R3 _)
  have x5 : R5.heap[R4.heap.size]? = some (.cells #[.slice (some ⟨A5.heap.size, 0, none⟩) 2 2, .slice (some ⟨R1.heap.size, 0, none⟩) 2 2, .slice (some ⟨R2.heap.size, 0, none⟩) 3 3, .slice (some ⟨R3.heap.size, 0, none⟩) 3 3] 22 (0, 0)) := by rw [← h5]; exact heap_alloc_new R4 _
  have hb := bthen b1 (bthen b2 (bthen b3 (bthen b4 b5)))
  have h4 : n / 48 % 4 < 4 := Nat.mod_lt _ (by omega)
  have hSV : strV (S.data.toList ++ [101]) = .string SE := by rw [← hSE, strV_whole]
  unfold mkPa
  generalize n / 48 % 4 = k at h4 ⊢
  have hk : k = 0 ∨ k = 1 ∨ k = 2 ∨ k = 3 := by omega
  rcases hk with rfl | rfl | rfl | rfl
  · refine ⟨some ⟨A5.heap.size, 0, none⟩, 2, by simp only [World.cell?, x5, Option.isSome_none, Bool.false_eq_true, if_false]; rfl, ⟨_, 2, rfl, by show 2 ≤ maxLen; decide, fun j hj => ⟨A5.heap.size, 0, rfl, ⟨by show A5.heap.size ≤ _; omega, by show _ < R5.heap.size; omega⟩, ?_⟩⟩, by simp, hb⟩
    rw [Nat.zero_add]
    match j, hj with
      | 0, _ => simp only [World.cell?, x1, Option.isSome_none, Bool.false_eq_true, if_false]; rfl
      | 1, _ => simp only [World.cell?, x1, Option.isSome_none, Bool.false_eq_true, if_false]; rfl
  · refine ⟨some ⟨R1.heap.size, 0, none⟩, 2, by simp only [World.cell?, x5, Option.isSome_none, Bool.false_eq_true, if_false]; rfl, ⟨_, 2, rfl, by show 2 ≤ maxLen; decide, fun j hj => ⟨R1.heap.size, 0, rfl, ⟨by show A5.heap.size ≤ _; omega, by show _ < R5.heap.size; omega⟩, ?_⟩⟩, by simp, hb⟩
    rw [Nat.zero_add]
    match j, hj with
      | 0, _ => simp only [World.cell?, x2, Option.isSome_none, Bool.false_eq_true, if_false]; rfl
      | 1, _ => simp only [World.cell?, x2, Option.isSome_none, Bool.false_eq_true, if_false]; rfl
  · refine ⟨some ⟨R2.heap.size, 0, none⟩, 3, by simp only [World.cell?, x5, Option.isSome_none, Bool.false_eq_true, if_false]; rfl, ⟨_, 3, rfl, by show 3 ≤ maxLen; decide, fun j hj => ⟨R2.heap.size, 0, rfl, ⟨by show A5.heap.size ≤ _; omega, by show _ < R5.heap.size; omega⟩, ?_⟩⟩, by simp, hb⟩
    rw [Nat.zero_add]
    match j, hj with
      | 0, _ => simp only [World.cell?, x3, Option.isSome_none, Bool.false_eq_true, if_false]; rfl
      | 1, _ => simp only [World.cell?, x3, Option.isSome_none, Bool.false_eq_true, if_false]; exact congrArg some hSV.symm
      | 2, _ => simp only [World.cell?, x3, Option.isSome_none, Bool.false_eq_true, if_false]; rfl
  · refine ⟨some ⟨R3.heap.size, 0, none⟩, 3, by simp only [World.cell?, x5, Option.isSome_none, Bool.false_eq_true, if_false]; rfl, ⟨_, 3, rfl, by show 3 ≤ maxLen; decide, fun j hj => ⟨R3.heap.size, 0, rfl, ⟨by show A5.heap.size ≤ _; omega, by show _ < R5.heap.size; omega⟩, ?_⟩⟩, by simp, hb⟩
    rw [Nat.zero_add]
    match j, hj with
      | 0, _ => simp only [World.cell?, x4, Option.isSome_none, Bool.false_eq_true, if_false]; rfl
      | 1, _ => simp only [World.cell?, x4, Option.isSome_none, Bool.false_eq_true, if_false]; rfl
      | 2, _ => simp only [World.cell?, x4, Option.isSome_none, Bool.false_eq_true, if_false]; rfl
set_option maxRecDepth 100000 in
set_option maxHeartbeats 8000000 in
theorem mkLeaf5 (S : ByteArray) (hS : S.size ≤ 1000) (fu : Nat) (c : UInt8) (r : List UInt8) (n : Nat) (hn : c.toNat = n) (hk : c.toNat % 8 = 4) (a : Option Addr) (cap : Nat) (w : World) (hC : IsC w.heap.size w (c :: r) a cap) :
    Calls Tryz.prog 15 #[.slice a (c :: r).length cap, .string S] w fun e w' => ∃ v, e = .returned v ∧ IsFl (fun b => w.heap.size ≤ b ∧ b < w'.heap.size) w' (makeFu S.data.toList (fu + 1) (c :: r)) v ∧ Below w.heap.size w w' := by
  rw [show makeFu S.data.toList (fu + 1) (c :: r) = FT.mk 5 (mkTy n) [] (mkPa S.data.toList n) [] from by
    show (if c.toNat % 8 = 0 then _ else _) = _
    rw [hn] at hk ⊢
    rw [if_neg (by omega)]; rw [if_neg (by omega)]; rw [if_neg (by omega)]; rw [if_neg (by omega)]; rw [if_pos hk]]
  have hcl := c.toNat_lt
  have hcap := hC.2.1
  have hlen := hC.1
  obtain ⟨m, hm⟩ : ∃ m, m = (c :: r).length := ⟨_, rfl⟩
  have hm1 : 1 ≤ m := by rw [hm]; simp
  rw [← hm] at hlen ⊢
  rw [hn] at hk hcl
  unfold maxLen at hcap
  obtain ⟨TY, hTY, hTYl⟩ := strV_text (mkTy n)
  obtain ⟨VL, hVL, hVLl⟩ := strV_text (mkVl S.data.toList n)
  obtain ⟨A1, hA1⟩ : ∃ A, w.alloc (.cells #[.int .i64 0, .string ⟨#[]⟩, .string ⟨#[]⟩, .slice none 0 0, .slice none 0 0] 25) = A := ⟨_, rfl⟩
  obtain ⟨A2, hA2⟩ : ∃ A, A1.alloc (.cells #[.int .i64 5, .string ⟨#[]⟩, .string ⟨#[]⟩, .slice none 0 0, .slice none 0 0] 25) = A := ⟨_, rfl⟩
  obtain ⟨A3, hA3⟩ : ∃ A, A2.alloc (.cells #[.string ⟨#[99, 110]⟩, .string ⟨#[115, 110]⟩, .string ⟨#[100, 101, 115, 99, 114, 105, 112, 116, 105, 111, 110]⟩, .string ⟨#[117, 105, 100, 78, 117, 109, 98, 101, 114]⟩, .string ⟨#[109, 97, 105, 108]⟩, .string ⟨#[111, 98, 106, 101, 99, 116, 67, 108, 97, 115, 115]⟩] 9) = A := ⟨_, rfl⟩
  obtain ⟨A4, hA4⟩ : ∃ A, A3.alloc (.cells #[.string ⟨#[110, 49]⟩, .string ⟨#[78, 50]⟩, .string S, .string ⟨#[53]⟩, .string ⟨#[100]⟩, .string ⟨#[112, 101, 114, 115, 111, 110]⟩] 9) = A := ⟨_, rfl⟩
  obtain ⟨x4, x6, hty, hvl, hb1, hb4, z1, z4⟩ := mk_rows w A1 A2 A3 A4 5 S n hA1 hA2 hA3 hA4
  obtain ⟨b, off, rfl, hc0, _⟩ := isC_at hC hb1
  have HA2 := Lib.hid hA2
  clear hA2
  rw [hTY] at hty
  rw [hVL] at hvl
  rw [hn] at hc0
  obtain ⟨k6, hk6⟩ : ∃ k, k = n / 8 % 6 := ⟨_, rfl⟩
  obtain ⟨v6, hv6⟩ : ∃ k, k = n / 16 % 6 := ⟨_, rfl⟩
  rw [← hk6] at hty
  rw [← hv6] at hvl
  have e8 : (n : Int) % 8 = 4 := by omega
  have e8' : Int.tmod (n : Int) 8 = 4 := by rw [Int.tmod_eq_emod_of_nonneg (by omega)]; omega
  have e6 : (n : Int) / 8 % 6 = (k6 : Int) := by omega
  have e16 : (n : Int) / 16 % 6 = (v6 : Int) := by omega
  have hk65 : k6 < 6 := by omega
  have hv65 : v6 < 6 := by omega
  have tw : IntKind.i64.wrap (n : Int) = (n : Int) := IntWalk.i64_in _ (by omega)
  have hl0 : (((m : Nat) : Int) == 0) = false := by simp; omega
  obtain ⟨A5, hA5⟩ : ∃ A, A4.setCell ⟨A1.heap.size, 1, none⟩ (.string TY) = A := ⟨_, rfl⟩
  have x61 : FlAt A5 A1.heap.size (.int .i64 5) (.string TY) (.string ⟨#[]⟩) (.slice none 0 0) (.slice none 0 0) := by rw [← hA5]; exact fl_set1 x6 (.string TY)
  have x41 : FlAt A5 w.heap.size (.int .i64 0) (.string ⟨#[]⟩) (.string ⟨#[]⟩) (.slice none 0 0) (.slice none 0 0) := by
    rw [← hA5]; exact (blockFl_ne _ ⟨A1.heap.size, 1, none⟩ _ (by show w.heap.size ≠ A1.heap.size; omega)).trans x4
  have hb5 : Below w.heap.size w A5 := by rw [← hA5]; exact hb4.setCell (p := ⟨A1.heap.size, 1, none⟩) (by show w.heap.size ≤ A1.heap.size; omega) _
  obtain ⟨SE, hSE⟩ : ∃ SE, S ++ (⟨#[101]⟩ : ByteArray) = SE := ⟨_, rfl⟩
  have hSEl : SE.data.toList = S.data.toList ++ [101] := by rw [← hSE, app_list]
  have hss : S.size + 1 ≤ 9223372036854775807 := by omega
  obtain ⟨R1, hR1⟩ : ∃ A, A5.alloc (.cells #[.string ⟨#[110]⟩, .string ⟨#[]⟩] 9) = A := ⟨_, rfl⟩
  obtain ⟨R2, hR2⟩ : ∃ A, R1.alloc (.cells #[.string ⟨#[]⟩, .string ⟨#[49]⟩] 9) = A := ⟨_, rfl⟩
  obtain ⟨R3, hR3⟩ : ∃ A, R2.alloc (.cells #[.string ⟨#[]⟩, .string SE, .string ⟨#[]⟩] 9) = A := ⟨_, rfl⟩
  obtain ⟨R4, hR4⟩ : ∃ A, R3.alloc (.cells #[.string ⟨#[68]⟩, .string ⟨#[32]⟩, .string ⟨#[53]⟩] 9) = A := ⟨_, rfl⟩
  obtain ⟨R5, hR5⟩ : ∃ A, R4.alloc (.cells #[.slice (some ⟨A5.heap.size, 0, none⟩) 2 2, .slice (some ⟨R1.heap.size, 0, none⟩) 2 2, .slice (some ⟨R2.heap.size, 0, none⟩) 3 3, .slice (some ⟨R3.heap.size, 0, none⟩) 3 3] 22) = A := ⟨_, rfl⟩
  obtain ⟨pa, pc, hpv, hIs, hp3, hb55⟩ := mk_parts A5 R1 R2 R3 R4 R5 S SE hSEl n hR1 hR2 hR3 hR4 hR5
  obtain ⟨pn, hpn⟩ : ∃ pn, pn = (mkPa S.data.toList n).length := ⟨_, rfl⟩
  rw [← hpn] at hpv hp3
  obtain ⟨v4, hv4⟩ : ∃ k, k = n / 48 % 4 := ⟨_, rfl⟩
  rw [← hv4] at hpv
  have e48 : (n : Int) / 48 % 4 = (v4 : Int) := by omega
  have hv44 : v4 < 4 := by omega
  have z5 : A5.heap.size = w.heap.size + 4 := by rw [← hA5, World.size_setCell, z4]
  have x62 := fl_below x61 hb55 (by omega)
  have x42 := fl_below x41 hb55 (by omega)
  obtain ⟨A6, hA6⟩ : ∃ A, R5.setCell ⟨A1.heap.size, 3, none⟩ (.slice pa pn pc) = A := ⟨_, rfl⟩
  have x63 : FlAt A6 A1.heap.size (.int .i64 5) (.string TY) (.string ⟨#[]⟩) (.slice pa pn pc) (.slice none 0 0) := by rw [← hA6]; exact fl_set3 x62 _
  have x43 : FlAt A6 w.heap.size (.int .i64 0) (.string ⟨#[]⟩) (.string ⟨#[]⟩) (.slice none 0 0) (.slice none 0 0) := by
    rw [← hA6]; exact (blockFl_ne _ ⟨A1.heap.size, 3, none⟩ _ (by show w.heap.size ≠ A1.heap.size; omega)).trans x42
  have hb6 : Below w.heap.size w A6 := by rw [← hA6]; exact (bthen hb5 hb55).setCell (p := ⟨A1.heap.size, 3, none⟩) (by show w.heap.size ≤ A1.heap.size; omega) _
  have hIs6 : IsTo (fun b => w.heap.size ≤ b ∧ b < (set5F A6 w.heap.size (.int .i64 5) (.string TY) (.string ⟨#[]⟩) (.slice pa pn pc) (.slice none 0 0)).heap.size) (set5F A6 w.heap.size (.int .i64 5) (.string TY) (.string ⟨#[]⟩) (.slice pa pn pc) (.slice none 0 0)) (mkPa S.data.toList n) (.slice pa pn pc) := by
    rw [hpn]
    refine hIs.imp (fun b h => ⟨by omega, by rw [set5F_size, ← hA6, World.size_setCell]; exact h.2⟩) (fun b o h => (fl_setC (by omega)).trans ?_)
    rw [← hA6]
    exact World.cell?_of_block (a := ⟨b, o, none⟩) (heap_setCell_other _ _ _ _ (by show b ≠ A1.heap.size; omega))
  obtain ⟨g0, g1, g2, g3, g4⟩ := fl_cells x6
  obtain ⟨f0, f1, f2, f3, f4⟩ := fl_frozen x6
  have g3' := (fl_cells x62).2.2.2.1
  have f3' := (fl_frozen x62).2.2.2.1
  have HA6 := Lib.hid hA6
  have HX62 := Lib.hid x63
  have HX42 := Lib.hid x43
  have HB6 := Lib.hid hb6
  have HTYl := Lib.hid hTYl
  have HIs6 := Lib.hid hIs6
  clear hA6 x61 x41 x62 x42 x63 x43 hb5 hb6 hIs hIs6 hb55 hTYl hVLl hTY hVL x4 x6 hb1 hb4 z1 z4 z5 hC hm hk6 hv6 hn hk hSEl hpn hv4
  go_enter Tryz.func15, Tryz.ntmps15
  go_upto_region 5 with (fail)
  rw [HA2.out]
  go_upto_region 24 with (fail)
  rw [HA6.out]
  obtain ⟨c0, c1, c2, c3, c4⟩ := fl_cells HX62.out
  obtain ⟨d0, d1, d2, d3, d4⟩ := fl_cells HX42.out
  obtain ⟨q0, q1, q2, q3, q4⟩ := fl_frozen HX42.out
  obtain ⟨y0, y1, y2, y3, y4⟩ := fl_cells (fl_set HX42.out (.int .i64 5) (.string TY) (.string ⟨#[]⟩) (.slice pa pn pc) (.slice none 0 0))
  unfold set5F at y0 y1 y2 y3 y4
  go_wp2
  have hbz := fl_setB HB6.out (Nat.le_refl w.heap.size) (.int .i64 5) (.string TY) (.string ⟨#[]⟩) (.slice pa pn pc) (.slice none 0 0)
  refine bodyPost_ret (v := .agg #[.int .i64 5, .string TY, .string ⟨#[]⟩, .slice pa pn pc, .slice none 0 0]) (by simp [results, Tryz.results15, go_sem, y0, y1, y2, y3, y4]) rfl ⟨_, rfl, ?_, hbz⟩
  have := mkFl (k := 5) (t := TY.data.toList) (x := []) (by decide) (by rw [HTYl.out]; exact Nat.le_trans (mkTy_len n) (by unfold maxLen; omega)) (Nat.zero_le _) HIs6.out
  rw [strV_whole, HTYl.out] at this
  exact this
end Go.Proofs.YtdgnefcpeocbjaaGreatDoor


namespace Go.Proofs.YtdgnefcpeocbjaaGreatDoor
open Go.RowKit
set_option linter.unusedVariables false
set_option linter.unnecessarySimpa false
set_option linter.unusedSimpArgs false

set_option maxRecDepth 100000 in
set_option maxHeartbeats 4000000 in
theorem mkNil (S : ByteArray) (a : Option Addr) (cap : Nat) (w : World) :
    Calls Tryz.prog 15 #[.slice a 0 cap, .string S] w fun e w' => ∃ v, e = .returned v ∧ IsFl (fun b => w.heap.size ≤ b ∧ b < w'.heap.size) w' mkCn v ∧ Below w.heap.size w w' := by
  go_enter Tryz.func15, Tryz.ntmps15
  go_wp2
  refine bodyPost_ret (v := .agg #[.int .i64 8, .string ⟨#[99, 110]⟩, .string ⟨#[]⟩, .slice none 0 0, .slice none 0 0]) (by simp [results, Tryz.results15, go_sem]) rfl ⟨_, rfl, ?_, ?_⟩
  · exact mkFl (k := 8) (t := [99, 110]) (x := []) (p := []) (u := .slice none 0 0) (by decide) (by show 2 ≤ maxLen; decide) (Nat.zero_le _) isTo_nil
  · exact (Below.refl _ _).alloc (Nat.le_refl _) _
theorem makes_any (S : ByteArray) (hS : S.size ≤ 1000) : ∀ fu, MakesF S fu
  | 0, l, a, cap, w, hl, hC => by
    have : l = [] := List.eq_nil_of_length_eq_zero (by omega)
    subst this
    exact mkNil S a cap w
  | fu + 1, [], a, cap, w, hl, hC => mkNil S a cap w
  | fu + 1, c :: r, a, cap, w, hl, hC => by
    have hfu : r.length ≤ fu := by simpa using hl
    have ih := makes_any S hS fu
    have h8 : c.toNat % 8 < 8 := Nat.mod_lt _ (by omega)
    have h : c.toNat % 8 = 0 ∨ c.toNat % 8 = 1 ∨ c.toNat % 8 = 2 ∨ c.toNat % 8 = 3 ∨ c.toNat % 8 = 4 ∨ c.toNat % 8 = 5 ∨ c.toNat % 8 = 6 ∨ c.toNat % 8 = 7 := by omega
    rcases h with h | h | h | h | h | h | h | h
    · exact mkHold1 S hS fu c r c.toNat rfl h a cap w ih hfu hC
    · exact mkHold2 S hS fu c r c.toNat rfl h a cap w ih hfu hC
    · exact mkHold3 S hS fu c r c.toNat rfl h a cap w ih hfu hC
    · exact mkLeaf4 S hS fu c r c.toNat rfl h a cap w hC
    · exact mkLeaf5 S hS fu c r c.toNat rfl h a cap w hC
    · exact mkLeaf6 S hS fu c r c.toNat rfl h a cap w hC
    · exact mkLeaf7 S hS fu c r c.toNat rfl h a cap w hC
    · exact mkLeaf8 S hS fu c r c.toNat rfl h a cap w hC
end Go.Proofs.YtdgnefcpeocbjaaGreatDoor


namespace Go.Proofs.YtdgnefcpeocbjaaGreatDoor
open Go.RowKit
set_option linter.unusedVariables false

def IsB (n0 : Nat) (w : World) (l : List UInt8) (a : Option Addr) (cap : Nat) : Prop :=
  l.length ≤ maxLen ∧ (l = [] ∨ ∃ b off, a = some ⟨b, off, none⟩ ∧ b < n0 ∧ ∀ j, (h : j < l.length) → w.cell? ⟨b, off + j, none⟩ = some (.int .u8 l[j].toNat))
def IsS (n0 : Nat) (w : World) (L : List ByteArray) (a : Option Addr) (cap : Nat) : Prop :=
  L.length ≤ maxLen ∧ (∀ s ∈ L, s.size ≤ maxLen) ∧ (L = [] ∨ ∃ b off, a = some ⟨b, off, none⟩ ∧ b < n0 ∧ ∀ j, (h : j < L.length) → w.cell? ⟨b, off + j, none⟩ = some (.string L[j]))
theorem IsB.below {n0 : Nat} {w w' : World} {l : List UInt8} {a : Option Addr} {cap : Nat} (h : IsB n0 w l a cap) (hb : Below n0 w w') : IsB n0 w' l a cap :=
  ⟨h.1, h.2.imp id fun ⟨b, off, e, hlt, hc⟩ => ⟨b, off, e, hlt, fun j hj => (hb.cell (p := ⟨b, _, none⟩) hlt).trans (hc j hj)⟩⟩
theorem IsS.below {n0 : Nat} {w w' : World} {l : List ByteArray} {a : Option Addr} {cap : Nat} (h : IsS n0 w l a cap) (hb : Below n0 w w') : IsS n0 w' l a cap :=
  ⟨h.1, h.2.1, h.2.2.imp id fun ⟨b, off, e, hlt, hc⟩ => ⟨b, off, e, hlt, fun j hj => (hb.cell (p := ⟨b, _, none⟩) hlt).trans (hc j hj)⟩⟩

set_option maxRecDepth 100000 in
theorem open_bytes {H : Type} {enc : TypeId × Value → H} {W : World} {v : Value} {d : DataW H} {ps : List MemPlace} (hval : Value.okWide Tryz.prog W .any 0 34 v) (hd : DataW.Trod enc Tryz.prog W 0 (fun _ => true) true 34 v d ps) :
    ∃ (a : Option Addr) (cap : Nat) (l : List UInt8), v = .slice a l.length cap ∧ IsB W.heap.size W l a cap := by
  obtain ⟨a0, len, cap, rfl⟩ := Go.WideShapes.okWide_slice Tryz.underlying34 hval
  obtain ⟨fuel, hf⟩ := hd
  have hc : Tryz.prog.cellsOf 5 = 1 := by kernel_rfl
  rcases Go.ChangeShapes.open_ints Tryz.underlying34 Tryz.underlying5 hc hf with ⟨hcs, _⟩ | ⟨a, len', cap', zs, hcs, _, hle, hmax, hall, _, hcell, hwf⟩
  · simp [Value.cells] at hcs
    obtain ⟨rfl, rfl, rfl⟩ := hcs
    exact ⟨none, 0, [], rfl, Nat.zero_le _, .inl rfl⟩
  · simp [Value.cells] at hcs
    obtain ⟨rfl, rfl, rfl⟩ := hcs
    simp only [if_true] at hall
    have hlen : ((zs.take len).map fun z => UInt8.ofNat z.toNat).length = len := by simp; omega
    refine ⟨some a, cap, (zs.take len).map fun z => UInt8.ofNat z.toNat, by rw [hlen], by omega, ?_⟩
    by_cases h0 : len = 0
    · left; subst h0; simp
    · right
      obtain ⟨b, off, rfl, hat⟩ := ints_at hcell (by omega)
      refine ⟨b, off, rfl, World.block_lt_of_cell? W ⟨b, off + 0, none⟩ (hat 0 (by omega)), fun j hj => ?_⟩
      have hjz : j < zs.length := by omega
      have hw := hwf zs[j] (List.getElem_mem _)
      simp only [Lit.wf, Bool.and_eq_true, decide_eq_true_eq] at hw
      have h1 : (0 : Int) ≤ zs[j] := hw.1
      have h2 : zs[j] ≤ 255 := hw.2
      have hn : (UInt8.ofNat zs[j].toNat).toNat = zs[j].toNat := by simp; omega
      rw [hat j hjz]
      simp only [List.getElem_map, List.getElem_take, hn]
      simp [List.getD, List.getElem?_eq_getElem hjz]
      omega

end Go.Proofs.YtdgnefcpeocbjaaGreatDoor

