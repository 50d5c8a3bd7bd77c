/- brooklaw4.Person, awake: the walks. -/
import Derived.Test.YtjffidegmonkfaaGreatDoorScCheck
namespace Go.Proofs.YtjffidegmonkfaaGreatDoor
open Go.RowKit
set_option linter.unusedVariables false

def perL (n : List UInt8) : List AT := [([99, 110], [n]), ([111, 98, 106, 101, 99, 116, 99, 108, 97, 115, 115], [[112, 101, 114, 115, 111, 110]]), ([115, 110], [[115]])]
def perD (n : List UInt8) : List UInt8 := [99, 110, 61] ++ n ++ [44, 111, 61, 120]

/-- The blocks of a person's attributes. -/
structure PerAt (w : World) (g : Nat) (N : ByteArray) : Prop where
  b1 : w.heap[g - 3]? = some (.cells #[.string N] 9 (0, 0))
  b2 : w.heap[g - 2]? = some (.cells #[.string ⟨#[112, 101, 114, 115, 111, 110]⟩] 9 (0, 0))
  b3 : w.heap[g - 1]? = some (.cells #[.string ⟨#[115]⟩] 9 (0, 0))
  b4 : w.heap[g]? = some (.cells #[.string ⟨#[99, 110]⟩, .slice (some ⟨g - 3, 0, none⟩) 1 1, .string ⟨#[111, 98, 106, 101, 99, 116, 99, 108, 97, 115, 115]⟩, .slice (some ⟨g - 2, 0, none⟩) 1 1, .string ⟨#[115, 110]⟩, .slice (some ⟨g - 1, 0, none⟩) 1 1] 42 (0, 0))
  lt : g < w.heap.size
theorem PerAt.below {w w' : World} {g n : Nat} {N : ByteArray} (h : PerAt w g N) (hb : Below n w w') (hn : g < n) : PerAt w' g N :=
  ⟨(hb.block _ (by omega)).trans h.b1, (hb.block _ (by omega)).trans h.b2, (hb.block _ (by omega)).trans h.b3, (hb.block _ hn).trans h.b4, Nat.lt_of_lt_of_le h.lt hb.size⟩
theorem isT_block {w : World} {b n0 : Nat} {X : ByteArray} {e : TypeId} (h : w.heap[b]? = some (.cells #[.string X] e (0, 0))) (hn : b < n0) : IsT n0 w [X.data.toList] (.slice (some ⟨b, 0, none⟩) 1 1) :=
  ⟨_, _, rfl, by unfold maxLen; simp, fun j hj => by
    have : j = 0 := by simp at hj; omega
    subst this
    refine ⟨b, 0, rfl, hn, ?_⟩
    rw [show [X.data.toList][0] = X.data.toList from rfl, strV_whole]
    simp only [World.cell?, h]; rfl⟩
theorem PerAt.isA {w : World} {g : Nat} {N : ByteArray} (h : PerAt w g N) : IsA w.heap.size w (perL N.data.toList) (.slice (some ⟨g, 0, none⟩) 3 3) := by
  have hg := h.lt
  refine ⟨_, _, rfl, by unfold maxLen perL; simp, fun j hj => ?_⟩
  match j, hj with
  | 0, _ => exact ⟨g, 0, _, rfl, hg, by simp only [World.cell?, h.b4]; rfl, by simp only [World.cell?, h.b4]; rfl, isT_block h.b1 (by omega)⟩
  | 1, _ => exact ⟨g, 0, _, rfl, hg, by simp only [World.cell?, h.b4]; rfl, by simp only [World.cell?, h.b4]; rfl, isT_block h.b2 (by omega)⟩
  | 2, _ => exact ⟨g, 0, _, rfl, hg, by simp only [World.cell?, h.b4]; rfl, by simp only [World.cell?, h.b4]; rfl, isT_block h.b3 (by omega)⟩

theorem PerAt.cells {w : World} {g : Nat} {N : ByteArray} (h : PerAt w g N) : w.cell? ⟨g, 2, none⟩ = some (.string ⟨#[111, 98, 106, 101, 99, 116, 99, 108, 97, 115, 115]⟩) ∧ w.cell? ⟨g, 3, none⟩ = some (.slice (some ⟨g - 2, 0, none⟩) 1 1) ∧ w.cell? ⟨g, 4, none⟩ = some (.string ⟨#[115, 110]⟩) ∧ w.cell? ⟨g, 5, none⟩ = some (.slice (some ⟨g - 1, 0, none⟩) 1 1) :=
  ⟨by simp only [World.cell?, h.b4]; rfl, by simp only [World.cell?, h.b4]; rfl, by simp only [World.cell?, h.b4]; rfl, by simp only [World.cell?, h.b4]; rfl⟩
theorem per_blocks (w : World) (N : ByteArray) (o : Obj) : PerAt (((((w.alloc o).alloc (.cells #[.string N] 9)).alloc (.cells #[.string ⟨#[112, 101, 114, 115, 111, 110]⟩] 9)).alloc (.cells #[.string ⟨#[115]⟩] 9)).alloc (.cells #[.string ⟨#[99, 110]⟩, .slice (some ⟨w.heap.size + 1, 0, none⟩) 1 1, .string ⟨#[111, 98, 106, 101, 99, 116, 99, 108, 97, 115, 115]⟩, .slice (some ⟨w.heap.size + 1 + 1, 0, none⟩) 1 1, .string ⟨#[115, 110]⟩, .slice (some ⟨w.heap.size + 1 + 1 + 1, 0, none⟩) 1 1] 42)) (w.heap.size + 4) N := by
  have s1 : (w.alloc o).heap.size = w.heap.size + 1 := by simp
  have e1 := heap_alloc_new (w.alloc o) (.cells #[.string N] 9)
  rw [s1] at e1
  generalize w.alloc o = W1 at s1 e1 ⊢
  have s2 : (W1.alloc (.cells #[.string N] 9)).heap.size = w.heap.size + 2 := by simp; omega
  have e2 := heap_alloc_new (W1.alloc (.cells #[.string N] 9)) (.cells #[.string ⟨#[112, 101, 114, 115, 111, 110]⟩] 9)
  rw [s2] at e2
  generalize W1.alloc (.cells #[.string N] 9) = W2 at s2 e1 e2 ⊢
  have s3 : (W2.alloc (.cells #[.string ⟨#[112, 101, 114, 115, 111, 110]⟩] 9)).heap.size = w.heap.size + 3 := by simp; omega
  have f1 := (heap_alloc_old W2 (.cells #[.string ⟨#[112, 101, 114, 115, 111, 110]⟩] 9) (show w.heap.size + 1 < W2.heap.size by omega)).trans e1
  have e3 := heap_alloc_new (W2.alloc (.cells #[.string ⟨#[112, 101, 114, 115, 111, 110]⟩] 9)) (.cells #[.string ⟨#[115]⟩] 9)
  rw [s3] at e3
  generalize W2.alloc (.cells #[.string ⟨#[112, 101, 114, 115, 111, 110]⟩] 9) = W3 at s3 e2 e3 f1 ⊢
  have s4 : (W3.alloc (.cells #[.string ⟨#[115]⟩] 9)).heap.size = w.heap.size + 4 := by simp; omega
  have g1 := (heap_alloc_old W3 (.cells #[.string ⟨#[115]⟩] 9) (show w.heap.size + 1 < W3.heap.size by omega)).trans f1
  have g2 := (heap_alloc_old W3 (.cells #[.string ⟨#[115]⟩] 9) (show w.heap.size + 2 < W3.heap.size by omega)).trans e2
  generalize W3.alloc (.cells #[.string ⟨#[115]⟩] 9) = W4 at s4 e3 g1 g2 ⊢
  generalize hO : Obj.cells #[.string ⟨#[99, 110]⟩, .slice (some ⟨w.heap.size + 1, 0, none⟩) 1 1, .string ⟨#[111, 98, 106, 101, 99, 116, 99, 108, 97, 115, 115]⟩, .slice (some ⟨w.heap.size + 1 + 1, 0, none⟩) 1 1, .string ⟨#[115, 110]⟩, .slice (some ⟨w.heap.size + 1 + 1 + 1, 0, none⟩) 1 1] 42 = O
  have e4 := heap_alloc_new W4 O
  rw [s4] at e4
  have k1 := (heap_alloc_old W4 O (show w.heap.size + 1 < W4.heap.size by omega)).trans g1
  have k2 := (heap_alloc_old W4 O (show w.heap.size + 2 < W4.heap.size by omega)).trans g2
  have k3 := (heap_alloc_old W4 O (show w.heap.size + 3 < W4.heap.size by omega)).trans e3
  exact ⟨k1, k2, k3, by rw [e4, ← hO]; rfl, by simp; omega⟩

theorem perAt_set {w : World} {g b : Nat} {N : ByteArray} {i : Nat} {x : Value} (h : PerAt w g N) (hb : b < g - 3) : PerAt (w.setCell ⟨b, i, none⟩ x) g N :=
  ⟨(block_ne w _ _ (show g - 3 ≠ b by omega)).trans h.b1, (block_ne w _ _ (show g - 2 ≠ b by omega)).trans h.b2, (block_ne w _ _ (show g - 1 ≠ b by omega)).trans h.b3, (block_ne w _ _ (show g ≠ b by omega)).trans h.b4, by rw [lt_set]; exact h.lt⟩

set_option maxRecDepth 100000 in
set_option maxHeartbeats 4000000 in
theorem person_any (N : ByteArray) (hN : N.size ≤ 1000) (w : World) : Calls Tryz.prog 21 #[.string N] w fun e w' => ∃ D g, e = .returned (.agg #[.string D, .slice (some ⟨g, 0, none⟩) 3 3]) ∧ D.data.toList = perD N.data.toList ∧ PerAt w' g N ∧ w.heap.size + 4 = g ∧ Below w.heap.size w w' := by
  obtain ⟨T, hT⟩ : ∃ T, (⟨#[99, 110, 61]⟩ : ByteArray) ++ N = T := ⟨_, rfl⟩
  obtain ⟨D, hD⟩ : ∃ D, T ++ (⟨#[44, 111, 61, 120]⟩ : ByteArray) = D := ⟨_, rfl⟩
  have hTs : T.size = 3 + N.size := by rw [← hT, ← bytes_len, app_list, List.length_append, bytes_len, bytes_len]; rfl
  have hDl : D.data.toList = perD N.data.toList := by rw [← hD, ← hT, app_list, app_list]; rfl
  have q1 : 3 + N.size ≤ 9223372036854775807 := by omega
  have q2 : T.size + 4 ≤ 9223372036854775807 := by omega
  have HDl := Lib.hid hDl
  have HP := Lib.hid (fun o => per_blocks w N o)
  have HB := Lib.hid (fun o => ((((((Below.refl w.heap.size w).alloc (Nat.le_refl _) o).alloc (by simp) (.cells #[.string N] 9)).alloc (by simp; omega) (.cells #[.string ⟨#[112, 101, 114, 115, 111, 110]⟩] 9)).alloc (by simp; omega) (.cells #[.string ⟨#[115]⟩] 9)).alloc (by simp; omega) (.cells #[.string ⟨#[99, 110]⟩, .slice (some ⟨w.heap.size + 1, 0, none⟩) 1 1, .string ⟨#[111, 98, 106, 101, 99, 116, 99, 108, 97, 115, 115]⟩, .slice (some ⟨w.heap.size + 1 + 1, 0, none⟩) 1 1, .string ⟨#[115, 110]⟩, .slice (some ⟨w.heap.size + 1 + 1 + 1, 0, none⟩) 1 1] 42)))
  clear hTs hDl
  go_enter Tryz.func21, Tryz.ntmps21
  go_wp2
  refine bodyPost_ret (v := .agg #[.string D, .slice (some ⟨w.heap.size + 4, 0, none⟩) 3 3]) (by simp [results, Tryz.results21, go_sem]) rfl ⟨D, w.heap.size + 4, rfl, HDl.out, ?_, rfl, ?_⟩
  · exact HP.out _
  · exact HB.out _

theorem awake_0 : checkD [] [] = 34 := by decide +kernel
theorem awake_1 : checkD (perD [97, 110, 110]) (perL [97, 110, 110]) = 0 := by decide +kernel
theorem awake_2 : checkD [99, 110, 61, 97, 110, 110] [] = 65 := by decide +kernel

set_option maxRecDepth 100000 in
set_option maxHeartbeats 4000000 in
theorem awake4_any (w : World) (hw : LaidW w) (hl : LaidF w) : Calls Tryz.prog 13 #[] w fun e w' => e = .returned (.bool true) ∧ Below w.heap.size w w' := by
  have hc1 := checkE_any ⟨#[]⟩ (by decide) [] (.slice none 0 0) w hw hl (isA_nil _ _ _ _)
  rw [show (⟨#[]⟩ : ByteArray).data.toList = [] from rfl, awake_0] at hc1
  have hc3 := fun (W : World) (q : LaidW W) (q2 : LaidF W) => checkE_any ⟨#[99, 110, 61, 97, 110, 110]⟩ (by decide) [] (.slice none 0 0) W q q2 (isA_nil _ _ _ _)
  rw [show (⟨#[99, 110, 61, 97, 110, 110]⟩ : ByteArray).data.toList = [99, 110, 61, 97, 110, 110] from rfl, awake_2] at hc3
  have HC1 := Lib.hid hc1
  have HC3 := Lib.hid hc3
  have HW := Lib.hid hw
  have HL := Lib.hid hl
  have HPe := Lib.hid (fun W => person_any ⟨#[97, 110, 110]⟩ (by decide) W)
  have tok1 : True := trivial
  clear hc1 hc3 hw hl
  go_enter Tryz.func13, Tryz.ntmps13
  go_wp2_with (first
    | (have _t := tok1; go_at_call 16; ((with_reducible refine (HC1.out).mono ?_); rintro e w2 ⟨rfl, hb2⟩); have HB2 := Lib.hid hb2; clear hb2 _t; clear tok1)
    | (go_at_call 21; go_loud ((with_reducible refine (HPe.out _).mono ?_); rintro e w3 ⟨D, g, rfl, hD, hp, hg, hb3⟩; have HB3 := Lib.hid (bthen HB2.out hb3); have HP := Lib.hid hp; have hc2 := checkE_any D (by rw [← bytes_len, hD]; simp [perD]) (perL [97, 110, 110]) _ _ (HW.out.below HB3.out) (HL.out.below HB3.out) hp.isA; (rw [hD] at hc2); (replace hc2 := (show Calls _ _ _ _ (fun e w' => e = .returned (.int .i64 (checkD (perD [97, 110, 110]) (perL [97, 110, 110]))) ∧ Below w3.heap.size w3 w') from hc2)); (rw [awake_1] at hc2); have HC2 := Lib.hid hc2; clear hD hp hc2 hb3))
    | (go_at_call 16; ((with_reducible refine (HC2.out).mono ?_); rintro e w4 ⟨rfl, hb4⟩); have HB4 := Lib.hid (bthen HB3.out hb4); clear hb4)
    | (go_at_call 16; ((with_reducible refine (HC3.out _ (HW.out.below HB4.out) (HL.out.below HB4.out)).mono ?_); rintro e w5 ⟨rfl, hb5⟩); have HB5 := Lib.hid (bthen HB4.out hb5); clear hb5))
  go_ret
  exact ⟨rfl, HB5.out⟩
end Go.Proofs.YtjffidegmonkfaaGreatDoor
