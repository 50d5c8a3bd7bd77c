/- SchemaFirst: the walk. -/
import Derived.Test.YtjffidegmonkfaaGreatDoorScFst
import Derived.Test.YtjffidegmonkfaaGreatDoorMaDig
import Derived.Deep.CutRange
namespace Go.Proofs.YtjffidegmonkfaaGreatDoor
open Go.RowKit
set_option linter.unusedVariables false

theorem itoa_short : ∀ n : Fin 256, (Lib.itoa (n.1 : Int)).length ≤ 3 := by decide +kernel
def bA (k : Nat) : AT := badL.getD k ([], [])
def bT (k : Nat) : ByteArray := ofL (bA k).1
def cK (k : Nat) : Int := codeL.getD k 0
def bV (h : Nat) (k : Nat) : Value := [.slice (some ⟨h + 1, 0, none⟩) 1 1, .slice none 0 0, .slice (some ⟨h + 2, 0, none⟩) 1 1, .slice (some ⟨h + 3, 0, none⟩) 2 2, .slice (some ⟨h + 4, 0, none⟩) 2 2, .slice (some ⟨h + 5, 0, none⟩) 1 1].getD k .nilIface
theorem fst_xk (d : List UInt8) (h : d.length ≤ 90) (k m : Nat) (hk : k < 6) (hm : m < 6) : checkD othD [([99, 110], [pName d]), bA k, bA m] = cK k := by
  have e := fst_x d h k m (show k < badL.length from hk) (show k < codeL.length from hk) (show m < badL.length from hm)
  have e1 : bA k = badL[k]'(show k < badL.length from hk) := by unfold bA; rw [List.getD_eq_getElem?_getD, List.getElem?_eq_getElem (show k < badL.length from hk)]; rfl
  have e2 : bA m = badL[m]'(show m < badL.length from hm) := by unfold bA; rw [List.getD_eq_getElem?_getD, List.getElem?_eq_getElem (show m < badL.length from hm)]; rfl
  have e3 : cK k = codeL[k]'(show k < codeL.length from hk) := by unfold cK; rw [List.getD_eq_getElem?_getD, List.getElem?_eq_getElem (show k < codeL.length from hk)]; rfl
  rw [e1, e2, e3]
  exact e
theorem bV_slice (h k : Nat) (hk : k < 6) : ∃ a n c, bV h k = .slice a n c := by
  match k, hk with
  | 0, _ => exact ⟨_, _, _, rfl⟩
  | 1, _ => exact ⟨_, _, _, rfl⟩
  | 2, _ => exact ⟨_, _, _, rfl⟩
  | 3, _ => exact ⟨_, _, _, rfl⟩
  | 4, _ => exact ⟨_, _, _, rfl⟩
  | 5, _ => exact ⟨_, _, _, rfl⟩

/-- The lists of what is wrong, and of the codes, as they lie. -/
structure FstAt (h : Nat) (W : World) (E : ByteArray) (u : Value) : Prop where
  box : BoxN W h E u
  b1 : W.heap[h + 1]? = some (.cells #[.string ⟨#[120]⟩] 9 (0, 0))
  b2 : W.heap[h + 2]? = some (.cells #[.string ⟨#[120]⟩] 9 (0, 0))
  b3 : W.heap[h + 3]? = some (.cells #[.string ⟨#[49]⟩, .string ⟨#[50]⟩] 9 (0, 0))
  b4 : W.heap[h + 4]? = some (.cells #[.string ⟨#[97]⟩, .string ⟨#[65, 32]⟩] 9 (0, 0))
  b5 : W.heap[h + 5]? = some (.cells #[.string ⟨#[122]⟩] 9 (0, 0))
  b6 : W.heap[h + 6]? = some (.cells #[.string ⟨#[110, 111, 110, 101]⟩, .slice (some ⟨h + 1, 0, none⟩) 1 1, .string ⟨#[100, 101, 115, 99, 114, 105, 112, 116, 105, 111, 110]⟩, .slice none 0 0, .string ⟨#[117, 105, 100, 110, 117, 109, 98, 101, 114]⟩, .slice (some ⟨h + 2, 0, none⟩) 1 1, .string ⟨#[117, 105, 100, 110, 117, 109, 98, 101, 114]⟩, .slice (some ⟨h + 3, 0, none⟩) 2 2, .string ⟨#[109, 97, 105, 108]⟩, .slice (some ⟨h + 4, 0, none⟩) 2 2, .string ⟨#[67, 78]⟩, .slice (some ⟨h + 5, 0, none⟩) 1 1] 42 (0, 0))
  b7 : W.heap[h + 7]? = some (.cells #[.int .i64 17, .int .i64 19, .int .i64 21, .int .i64 19, .int .i64 20, .int .i64 20] 3 (0, 0))
  size : W.heap.size = h + 8

theorem step_alloc {W : World} {h k : Nat} {o : Obj} (hs : W.heap.size = h + k) : (W.alloc o).heap.size = h + k + 1 := by simp; omega
theorem fst_blocks (w : World) (E : ByteArray) (u : Value) : FstAt w.heap.size ((((((((w.alloc (.cells #[.string E, u] 24)).alloc (.cells #[.string ⟨#[120]⟩] 9)).alloc (.cells #[.string ⟨#[120]⟩] 9)).alloc (.cells #[.string ⟨#[49]⟩, .string ⟨#[50]⟩] 9)).alloc (.cells #[.string ⟨#[97]⟩, .string ⟨#[65, 32]⟩] 9)).alloc (.cells #[.string ⟨#[122]⟩] 9)).alloc (.cells #[.string ⟨#[110, 111, 110, 101]⟩, .slice (some ⟨w.heap.size + 1, 0, none⟩) 1 1, .string ⟨#[100, 101, 115, 99, 114, 105, 112, 116, 105, 111, 110]⟩, .slice none 0 0, .string ⟨#[117, 105, 100, 110, 117, 109, 98, 101, 114]⟩, .slice (some ⟨w.heap.size + 2, 0, none⟩) 1 1, .string ⟨#[117, 105, 100, 110, 117, 109, 98, 101, 114]⟩, .slice (some ⟨w.heap.size + 3, 0, none⟩) 2 2, .string ⟨#[109, 97, 105, 108]⟩, .slice (some ⟨w.heap.size + 4, 0, none⟩) 2 2, .string ⟨#[67, 78]⟩, .slice (some ⟨w.heap.size + 5, 0, none⟩) 1 1] 42)).alloc (.cells #[.int .i64 17, .int .i64 19, .int .i64 21, .int .i64 19, .int .i64 20, .int .i64 20] 3)) E u ∧
    Below w.heap.size w ((((((((w.alloc (.cells #[.string E, u] 24)).alloc (.cells #[.string ⟨#[120]⟩] 9)).alloc (.cells #[.string ⟨#[120]⟩] 9)).alloc (.cells #[.string ⟨#[49]⟩, .string ⟨#[50]⟩] 9)).alloc (.cells #[.string ⟨#[97]⟩, .string ⟨#[65, 32]⟩] 9)).alloc (.cells #[.string ⟨#[122]⟩] 9)).alloc (.cells #[.string ⟨#[110, 111, 110, 101]⟩, .slice (some ⟨w.heap.size + 1, 0, none⟩) 1 1, .string ⟨#[100, 101, 115, 99, 114, 105, 112, 116, 105, 111, 110]⟩, .slice none 0 0, .string ⟨#[117, 105, 100, 110, 117, 109, 98, 101, 114]⟩, .slice (some ⟨w.heap.size + 2, 0, none⟩) 1 1, .string ⟨#[117, 105, 100, 110, 117, 109, 98, 101, 114]⟩, .slice (some ⟨w.heap.size + 3, 0, none⟩) 2 2, .string ⟨#[109, 97, 105, 108]⟩, .slice (some ⟨w.heap.size + 4, 0, none⟩) 2 2, .string ⟨#[67, 78]⟩, .slice (some ⟨w.heap.size + 5, 0, none⟩) 1 1] 42)).alloc (.cells #[.int .i64 17, .int .i64 19, .int .i64 21, .int .i64 19, .int .i64 20, .int .i64 20] 3)) := by
  generalize hO6 : Obj.cells #[.string ⟨#[110, 111, 110, 101]⟩, .slice (some ⟨w.heap.size + 1, 0, none⟩) 1 1, .string ⟨#[100, 101, 115, 99, 114, 105, 112, 116, 105, 111, 110]⟩, .slice none 0 0, .string ⟨#[117, 105, 100, 110, 117, 109, 98, 101, 114]⟩, .slice (some ⟨w.heap.size + 2, 0, none⟩) 1 1, .string ⟨#[117, 105, 100, 110, 117, 109, 98, 101, 114]⟩, .slice (some ⟨w.heap.size + 3, 0, none⟩) 2 2, .string ⟨#[109, 97, 105, 108]⟩, .slice (some ⟨w.heap.size + 4, 0, none⟩) 2 2, .string ⟨#[67, 78]⟩, .slice (some ⟨w.heap.size + 5, 0, none⟩) 1 1] 42 = O6
  have e0 := heap_alloc_new w (.cells #[.string E, u] 24)
  have s0 := step_alloc (o := .cells #[.string E, u] 24) (show w.heap.size = w.heap.size + 0 from rfl)
  have l0 : Below w.heap.size w (w.alloc (.cells #[.string E, u] 24)) := (Below.refl _ _).alloc (Nat.le_refl _) _
  generalize w.alloc (.cells #[.string E, u] 24) = W0 at e0 s0 l0 ⊢
  have e1 := heap_alloc_new W0 (.cells #[.string ⟨#[120]⟩] 9)
  have s1 := step_alloc (o := .cells #[.string ⟨#[120]⟩] 9) s0
  have l1 : Below W0.heap.size W0 (W0.alloc (.cells #[.string ⟨#[120]⟩] 9)) := (Below.refl _ _).alloc (Nat.le_refl _) _
  rw [s0] at e1
  generalize W0.alloc (.cells #[.string ⟨#[120]⟩] 9) = W1 at e1 s1 l1 ⊢
  have e2 := heap_alloc_new W1 (.cells #[.string ⟨#[120]⟩] 9)
  have s2 := step_alloc (o := .cells #[.string ⟨#[120]⟩] 9) s1
  have l2 : Below W1.heap.size W1 (W1.alloc (.cells #[.string ⟨#[120]⟩] 9)) := (Below.refl _ _).alloc (Nat.le_refl _) _
  rw [s1] at e2
  generalize W1.alloc (.cells #[.string ⟨#[120]⟩] 9) = W2 at e2 s2 l2 ⊢
  have e3 := heap_alloc_new W2 (.cells #[.string ⟨#[49]⟩, .string ⟨#[50]⟩] 9)
  have s3 := step_alloc (o := .cells #[.string ⟨#[49]⟩, .string ⟨#[50]⟩] 9) s2
  have l3 : Below W2.heap.size W2 (W2.alloc (.cells #[.string ⟨#[49]⟩, .string ⟨#[50]⟩] 9)) := (Below.refl _ _).alloc (Nat.le_refl _) _
  rw [s2] at e3
  generalize W2.alloc (.cells #[.string ⟨#[49]⟩, .string ⟨#[50]⟩] 9) = W3 at e3 s3 l3 ⊢
  have e4 := heap_alloc_new W3 (.cells #[.string ⟨#[97]⟩, .string ⟨#[65, 32]⟩] 9)
  have s4 := step_alloc (o := .cells #[.string ⟨#[97]⟩, .string ⟨#[65, 32]⟩] 9) s3
  have l4 : Below W3.heap.size W3 (W3.alloc (.cells #[.string ⟨#[97]⟩, .string ⟨#[65, 32]⟩] 9)) := (Below.refl _ _).alloc (Nat.le_refl _) _
  rw [s3] at e4
  generalize W3.alloc (.cells #[.string ⟨#[97]⟩, .string ⟨#[65, 32]⟩] 9) = W4 at e4 s4 l4 ⊢
  have e5 := heap_alloc_new W4 (.cells #[.string ⟨#[122]⟩] 9)
  have s5 := step_alloc (o := .cells #[.string ⟨#[122]⟩] 9) s4
  have l5 : Below W4.heap.size W4 (W4.alloc (.cells #[.string ⟨#[122]⟩] 9)) := (Below.refl _ _).alloc (Nat.le_refl _) _
  rw [s4] at e5
  generalize W4.alloc (.cells #[.string ⟨#[122]⟩] 9) = W5 at e5 s5 l5 ⊢
  have e6 := heap_alloc_new W5 O6
  have s6 := step_alloc (o := O6) s5
  have l6 : Below W5.heap.size W5 (W5.alloc O6) := (Below.refl _ _).alloc (Nat.le_refl _) _
  rw [s5] at e6
  generalize W5.alloc O6 = W6 at e6 s6 l6 ⊢
  have e7 := heap_alloc_new W6 (.cells #[.int .i64 17, .int .i64 19, .int .i64 21, .int .i64 19, .int .i64 20, .int .i64 20] 3)
  have s7 := step_alloc (o := .cells #[.int .i64 17, .int .i64 19, .int .i64 21, .int .i64 19, .int .i64 20, .int .i64 20] 3) s6
  have l7 : Below W6.heap.size W6 (W6.alloc (.cells #[.int .i64 17, .int .i64 19, .int .i64 21, .int .i64 19, .int .i64 20, .int .i64 20] 3)) := (Below.refl _ _).alloc (Nat.le_refl _) _
  rw [s6] at e7
  generalize W6.alloc (.cells #[.int .i64 17, .int .i64 19, .int .i64 21, .int .i64 19, .int .i64 20, .int .i64 20] 3) = W7 at e7 s7 l7 ⊢
  have m6 := l7
  have m5 : Below W5.heap.size W5 W7 := l6.trans (m6.mono (by omega))
  have m4 : Below W4.heap.size W4 W7 := l5.trans (m5.mono (by omega))
  have m3 : Below W3.heap.size W3 W7 := l4.trans (m4.mono (by omega))
  have m2 : Below W2.heap.size W2 W7 := l3.trans (m3.mono (by omega))
  have m1 : Below W1.heap.size W1 W7 := l2.trans (m2.mono (by omega))
  have m0 : Below W0.heap.size W0 W7 := l1.trans (m1.mono (by omega))
  subst hO6
  exact ⟨⟨(m0.block _ (by omega)).trans e0, (m1.block _ (by omega)).trans e1, (m2.block _ (by omega)).trans e2, (m3.block _ (by omega)).trans e3, (m4.block _ (by omega)).trans e4, (m5.block _ (by omega)).trans e5, (m6.block _ (by omega)).trans e6, e7, by omega⟩, l0.trans (m0.mono (by omega))⟩

theorem isT_two {w : World} {b n0 : Nat} {X Y : ByteArray} {e : TypeId} (h : w.heap[b]? = some (.cells #[.string X, .string Y] e (0, 0))) (hn : b < n0) : IsT n0 w [X.data.toList, Y.data.toList] (.slice (some ⟨b, 0, none⟩) 2 2) :=
  ⟨_, _, rfl, by unfold maxLen; simp, fun j hj => by
    refine ⟨b, 0, rfl, hn, ?_⟩
    match j, hj with
    | 0, _ =>
      show _ = some (strV X.data.toList)
      rw [strV_whole]
      simp only [World.cell?, h]; rfl
    | 1, _ =>
      show _ = some (strV Y.data.toList)
      rw [strV_whole]
      simp only [World.cell?, h]; rfl⟩
theorem FstAt.bad {h : Nat} {W : World} {E : ByteArray} {u : Value} (H : FstAt h W E u) (k : Nat) (hk : k < 6) : W.cell? ⟨h + 6, k * 2, none⟩ = some (.string (bT k)) ∧ W.cell? ⟨h + 6, k * 2 + 1, none⟩ = some (bV h k) ∧ IsT W.heap.size W (bA k).2 (bV h k) ∧ W.cell? ⟨h + 7, k, none⟩ = some (.int .i64 (cK k)) := by
  have hz := H.size
  match k, hk with
  | 0, _ => exact ⟨by simp only [World.cell?, H.b6]; rfl, by simp only [World.cell?, H.b6]; rfl, isT_block H.b1 (by omega), by simp only [World.cell?, H.b7]; rfl⟩
  | 1, _ => exact ⟨by simp only [World.cell?, H.b6]; rfl, by simp only [World.cell?, H.b6]; rfl, isT_nil _ _ _ _, by simp only [World.cell?, H.b7]; rfl⟩
  | 2, _ => exact ⟨by simp only [World.cell?, H.b6]; rfl, by simp only [World.cell?, H.b6]; rfl, isT_block H.b2 (by omega), by simp only [World.cell?, H.b7]; rfl⟩
  | 3, _ => exact ⟨by simp only [World.cell?, H.b6]; rfl, by simp only [World.cell?, H.b6]; rfl, isT_two H.b3 (by omega), by simp only [World.cell?, H.b7]; rfl⟩
  | 4, _ => exact ⟨by simp only [World.cell?, H.b6]; rfl, by simp only [World.cell?, H.b6]; rfl, isT_two H.b4 (by omega), by simp only [World.cell?, H.b7]; rfl⟩
  | 5, _ => exact ⟨by simp only [World.cell?, H.b6]; rfl, by simp only [World.cell?, H.b6]; rfl, isT_block H.b5 (by omega), by simp only [World.cell?, H.b7]; rfl⟩
theorem PerAt.cell01 {w : World} {g : Nat} {N : ByteArray} (h : PerAt w g N) : w.cell? ⟨g, 0, none⟩ = some (.string ⟨#[99, 110]⟩) ∧ w.cell? ⟨g, 1, none⟩ = some (.slice (some ⟨g - 3, 0, none⟩) 1 1) :=
  ⟨by simp only [World.cell?, h.b4]; rfl, by simp only [World.cell?, h.b4]; rfl⟩

/-- The entry of three attributes, whichever way it was made. -/
def XAt (W7 : World) (E : ByteArray) (L : List AT) (wx : World) (b : Nat) (u : Value) : Prop := W7.heap.size ≤ b ∧ b < wx.heap.size ∧ BoxN wx b E u ∧ IsA wx.heap.size wx L u ∧ Below W7.heap.size W7 wx
theorem XAt.drew {W7 wx : World} {E : ByteArray} {L : List AT} {b : Nat} {u : Value} (h : XAt W7 E L wx b u) : XAt W7 E L wx.drew b u := ⟨h.1, h.2.1, h.2.2.1, h.2.2.2.1, h.2.2.2.2.drew⟩
theorem XAt.from {W7 wx : World} {E : ByteArray} {L : List AT} {b : Nat} {u : Value} (h : XAt W7.drew E L wx b u) : XAt W7 E L wx b u := ⟨h.1, h.2.1, h.2.2.1, h.2.2.2.1, (Below.refl W7.heap.size W7).drew.trans h.2.2.2.2⟩
/-- What lies below is as it was. -/
def At9 (w9 w : World) : Prop := Below w9.heap.size w9 w
theorem At9.go {w9 w w' : World} (h : At9 w9 w) (hb : Below w.heap.size w w') : At9 w9 w' := bthen h hb
theorem At9.mono {w9 w : World} (h : At9 w9 w) {n : Nat} (hn : n ≤ w9.heap.size) : Below n w9 w := Below.mono h hn
theorem At9.size {w9 w : World} (h : At9 w9 w) : w9.heap.size ≤ w.heap.size := Below.size h
theorem At9.cell {w9 w : World} (h : At9 w9 w) {p : Addr} (hp : p.block < w9.heap.size) : w.cell? p = w9.cell? p := Below.cell h hp
/-- Three attributes in a block. -/
abbrev C6 (N1 N2 N3 : ByteArray) (v1 v2 v3 : Value) : Obj := .cells #[.string N1, v1, .string N2, v2, .string N3, v3] 42
theorem isA_three {w : World} {c n0 : Nat} {N1 N2 N3 : ByteArray} {v1 v2 v3 : Value} {A1 A2 A3 : List (List UInt8)} (h : w.heap[c]? = some (.cells #[.string N1, v1, .string N2, v2, .string N3, v3] 42 (0, 0))) (hc : c < n0) (h1 : IsT n0 w A1 v1) (h2 : IsT n0 w A2 v2) (h3 : IsT n0 w A3 v3) :
    IsA n0 w [(N1.data.toList, A1), (N2.data.toList, A2), (N3.data.toList, A3)] (.slice (some ⟨c, 0, none⟩) 3 3) := by
  refine ⟨_, _, rfl, by unfold maxLen; simp, fun j hj => ?_⟩
  match j, hj with
  | 0, _ => exact ⟨c, 0, _, rfl, hc, by show _ = some (strV N1.data.toList); rw [strV_whole]; simp only [World.cell?, h]; rfl, by simp only [World.cell?, h]; rfl, h1⟩
  | 1, _ => exact ⟨c, 0, _, rfl, hc, by show _ = some (strV N2.data.toList); rw [strV_whole]; simp only [World.cell?, h]; rfl, by simp only [World.cell?, h]; rfl, h2⟩
  | 2, _ => exact ⟨c, 0, _, rfl, hc, by show _ = some (strV N3.data.toList); rw [strV_whole]; simp only [World.cell?, h]; rfl, by simp only [World.cell?, h]; rfl, h3⟩
theorem x_one {W : World} {E N1 N2 N3 : ByteArray} {v1 v2 v3 : Value} {A1 A2 A3 : List (List UInt8)} (h1 : IsT W.heap.size W A1 v1) (h2 : IsT W.heap.size W A2 v2) (h3 : IsT W.heap.size W A3 v3) :
    XAt W E [(N1.data.toList, A1), (N2.data.toList, A2), (N3.data.toList, A3)] ((W.alloc (C6 N1 N2 N3 v1 v2 v3)).alloc (.cells #[.string E, .slice (some ⟨W.heap.size, 0, none⟩) 3 3] 24)) (W.heap.size + 1) (.slice (some ⟨W.heap.size, 0, none⟩) 3 3) := by
  have e0 := heap_alloc_new W (.cells #[.string N1, v1, .string N2, v2, .string N3, v3] 42)
  have l0 : Below W.heap.size W (W.alloc (C6 N1 N2 N3 v1 v2 v3)) := (Below.refl _ _).alloc (Nat.le_refl _) _
  have s0 : (W.alloc (C6 N1 N2 N3 v1 v2 v3)).heap.size = W.heap.size + 1 := by simp
  generalize W.alloc (C6 N1 N2 N3 v1 v2 v3) = W0 at e0 l0 s0 ⊢
  have e1 := boxN_new W0 E (.slice (some ⟨W.heap.size, 0, none⟩) 3 3)
  have l1 : Below W0.heap.size W0 (W0.alloc (.cells #[.string E, .slice (some ⟨W.heap.size, 0, none⟩) 3 3] 24)) := (Below.refl _ _).alloc (Nat.le_refl _) _
  have s1 : (W0.alloc (.cells #[.string E, .slice (some ⟨W.heap.size, 0, none⟩) 3 3] 24)).heap.size = W0.heap.size + 1 := by simp
  rw [s0] at e1
  generalize W0.alloc (.cells #[.string E, .slice (some ⟨W.heap.size, 0, none⟩) 3 3] 24) = W1 at e1 l1 s1 ⊢
  have hb : Below W.heap.size W W1 := l0.trans (l1.mono (by omega))
  exact ⟨by omega, by omega, e1, isA_three ((l1.block _ (by omega)).trans e0) (by omega) (h1.below hb hb.size) (h2.below hb hb.size) (h3.below hb hb.size), hb⟩
theorem x_two {W : World} {E N1 N2 N3 : ByteArray} {v1 v2 v3 : Value} {A1 A2 A3 : List (List UInt8)} (h1 : IsT W.heap.size W A1 v1) (h2 : IsT W.heap.size W A2 v2) (h3 : IsT W.heap.size W A3 v3) :
    XAt W E [(N1.data.toList, A1), (N2.data.toList, A2), (N3.data.toList, A3)] ((W.alloc (.cells #[.string E, .slice (some ⟨W.heap.size + 1, 0, none⟩) 3 3] 24)).alloc (C6 N1 N2 N3 v1 v2 v3)) W.heap.size (.slice (some ⟨W.heap.size + 1, 0, none⟩) 3 3) := by
  have e0 := boxN_new W E (.slice (some ⟨W.heap.size + 1, 0, none⟩) 3 3)
  have l0 : Below W.heap.size W (W.alloc (.cells #[.string E, .slice (some ⟨W.heap.size + 1, 0, none⟩) 3 3] 24)) := (Below.refl _ _).alloc (Nat.le_refl _) _
  have s0 : (W.alloc (.cells #[.string E, .slice (some ⟨W.heap.size + 1, 0, none⟩) 3 3] 24)).heap.size = W.heap.size + 1 := by simp
  generalize W.alloc (.cells #[.string E, .slice (some ⟨W.heap.size + 1, 0, none⟩) 3 3] 24) = W0 at e0 l0 s0 ⊢
  have e1 := heap_alloc_new W0 (.cells #[.string N1, v1, .string N2, v2, .string N3, v3] 42)
  have l1 : Below W0.heap.size W0 (W0.alloc (C6 N1 N2 N3 v1 v2 v3)) := (Below.refl _ _).alloc (Nat.le_refl _) _
  have s1 : (W0.alloc (C6 N1 N2 N3 v1 v2 v3)).heap.size = W0.heap.size + 1 := by simp
  rw [s0] at e1
  generalize W0.alloc (C6 N1 N2 N3 v1 v2 v3) = W1 at e1 l1 s1 ⊢
  have hb : Below W.heap.size W W1 := l0.trans (l1.mono (by omega))
  exact ⟨Nat.le_refl _, by omega, e0.below l1 (by omega), isA_three e1 (by omega) (h1.below hb hb.size) (h2.below hb hb.size) (h3.below hb hb.size), hb⟩

theorem heap3 (W : World) (a b c : Array Value) (ta tb tc : TypeId) : (((W.alloc (.cells a ta)).alloc (.cells b tb)).alloc (.cells c tc)).heap[W.heap.size]? = some (.cells a ta (0, 0)) ∧ (((W.alloc (.cells a ta)).alloc (.cells b tb)).alloc (.cells c tc)).heap[W.heap.size + 1]? = some (.cells b tb (0, 0)) ∧ (((W.alloc (.cells a ta)).alloc (.cells b tb)).alloc (.cells c tc)).heap[W.heap.size + 2]? = some (.cells c tc (0, 0)) ∧ Below W.heap.size W (((W.alloc (.cells a ta)).alloc (.cells b tb)).alloc (.cells c tc)) ∧ (((W.alloc (.cells a ta)).alloc (.cells b tb)).alloc (.cells c tc)).heap.size = W.heap.size + 3 := by
  have e0 := heap_alloc_new W (.cells a ta)
  have l0 : Below W.heap.size W (W.alloc (.cells a ta)) := (Below.refl _ _).alloc (Nat.le_refl _) _
  have s0 : (W.alloc (.cells a ta)).heap.size = W.heap.size + 1 := by simp
  generalize W.alloc (.cells a ta) = W0 at e0 l0 s0 ⊢
  have e1 := heap_alloc_new W0 (.cells b tb)
  have l1 : Below W0.heap.size W0 (W0.alloc (.cells b tb)) := (Below.refl _ _).alloc (Nat.le_refl _) _
  have s1 : (W0.alloc (.cells b tb)).heap.size = W0.heap.size + 1 := by simp
  rw [s0] at e1
  generalize W0.alloc (.cells b tb) = W1 at e1 l1 s1 ⊢
  have e2 := heap_alloc_new W1 (.cells c tc)
  have l2 : Below W1.heap.size W1 (W1.alloc (.cells c tc)) := (Below.refl _ _).alloc (Nat.le_refl _) _
  have s2 : (W1.alloc (.cells c tc)).heap.size = W1.heap.size + 1 := by simp
  rw [s1, s0] at e2
  generalize W1.alloc (.cells c tc) = W2 at e2 l2 s2 ⊢
  exact ⟨(l2.block _ (by omega)).trans ((l1.block _ (by omega)).trans e0), (l2.block _ (by omega)).trans e1, e2, l0.trans ((l1.mono (by omega)).trans (l2.mono (by omega))), by omega⟩
theorem isA_ou {w : World} {c g q : Nat} {P : ByteArray} (hp : PerAt w g P) (h : w.heap[c]? = some (.cells #[.string ⟨#[99, 110]⟩, .slice (some ⟨g - 3, 0, none⟩) 1 1, .string ⟨#[111, 98, 106, 101, 99, 116, 99, 108, 97, 115, 115]⟩, .slice (some ⟨g - 2, 0, none⟩) 1 1, .string ⟨#[115, 110]⟩, .slice (some ⟨g - 1, 0, none⟩) 1 1, .string ⟨#[111, 117]⟩, .slice (some ⟨q, 0, none⟩) 1 1] 42 (0, 0))) (hq : w.heap[q]? = some (.cells #[.string ⟨#[97]⟩] 9 (0, 0))) (hc : c < w.heap.size) (hqs : q < w.heap.size) :
    IsA w.heap.size w (perL P.data.toList ++ [ouA]) (.slice (some ⟨c, 0, none⟩) 4 4) := by
  have hg := hp.lt
  refine ⟨_, _, rfl, by unfold maxLen perL ouA; simp, fun j hj => ?_⟩
  match j, hj with
  | 0, _ => exact ⟨c, 0, _, rfl, hc, by simp only [World.cell?, h]; rfl, by simp only [World.cell?, h]; rfl, isT_block hp.b1 (by omega)⟩
  | 1, _ => exact ⟨c, 0, _, rfl, hc, by simp only [World.cell?, h]; rfl, by simp only [World.cell?, h]; rfl, isT_block hp.b2 (by omega)⟩
  | 2, _ => exact ⟨c, 0, _, rfl, hc, by simp only [World.cell?, h]; rfl, by simp only [World.cell?, h]; rfl, isT_block hp.b3 (by omega)⟩
  | 3, _ => exact ⟨c, 0, _, rfl, hc, by simp only [World.cell?, h]; rfl, by simp only [World.cell?, h]; rfl, isT_block hq hqs⟩
abbrev C8 (g q : Nat) : Array Value := #[.string ⟨#[99, 110]⟩, .slice (some ⟨g - 3, 0, none⟩) 1 1, .string ⟨#[111, 98, 106, 101, 99, 116, 99, 108, 97, 115, 115]⟩, .slice (some ⟨g - 2, 0, none⟩) 1 1, .string ⟨#[115, 110]⟩, .slice (some ⟨g - 1, 0, none⟩) 1 1, .string ⟨#[111, 117]⟩, .slice (some ⟨q, 0, none⟩) 1 1]
theorem z_one {W : World} {E P : ByteArray} {g : Nat} (hp : PerAt W g P) : XAt W E (perL P.data.toList ++ [ouA]) (((W.alloc (.cells #[.string ⟨#[97]⟩] 9)).alloc (.cells (C8 g W.heap.size) 42)).alloc (.cells #[.string E, .slice (some ⟨W.heap.size + 1, 0, none⟩) 4 4] 24)) (W.heap.size + 1 + 1) (.slice (some ⟨W.heap.size + 1, 0, none⟩) 4 4) := by
  obtain ⟨a, b, c, d, e⟩ := heap3 W #[.string ⟨#[97]⟩] (C8 g W.heap.size) #[.string E, .slice (some ⟨W.heap.size + 1, 0, none⟩) 4 4] 9 42 24
  exact ⟨by omega, by omega, c, isA_ou (hp.below d hp.lt) b a (by omega) (by omega), d⟩
theorem z_two {W : World} {E P : ByteArray} {g : Nat} (hp : PerAt W g P) : XAt W E (perL P.data.toList ++ [ouA]) (((W.alloc (.cells #[.string ⟨#[97]⟩] 9)).alloc (.cells #[.string E, .slice (some ⟨W.heap.size + 1 + 1, 0, none⟩) 4 4] 24)).alloc (.cells (C8 g W.heap.size) 42)) (W.heap.size + 1) (.slice (some ⟨W.heap.size + 1 + 1, 0, none⟩) 4 4) := by
  obtain ⟨a, b, c, d, e⟩ := heap3 W #[.string ⟨#[97]⟩] #[.string E, .slice (some ⟨W.heap.size + 1 + 1, 0, none⟩) 4 4] (C8 g W.heap.size) 9 24 42
  exact ⟨by omega, by omega, b, isA_ou (hp.below d hp.lt) c a (by omega) (by omega), d⟩
theorem z_three {W : World} {E P : ByteArray} {g : Nat} (hp : PerAt W g P) : XAt W E (perL P.data.toList ++ [ouA]) (((W.alloc (.cells #[.string E, .slice (some ⟨W.heap.size + 1 + 1, 0, none⟩) 4 4] 24)).alloc (.cells #[.string ⟨#[97]⟩] 9)).alloc (.cells (C8 g (W.heap.size + 1)) 42)) W.heap.size (.slice (some ⟨W.heap.size + 1 + 1, 0, none⟩) 4 4) := by
  obtain ⟨a, b, c, d, e⟩ := heap3 W #[.string E, .slice (some ⟨W.heap.size + 1 + 1, 0, none⟩) 4 4] #[.string ⟨#[97]⟩] (C8 g (W.heap.size + 1)) 24 9 42
  exact ⟨by omega, by omega, a, isA_ou (hp.below d hp.lt) c b (by omega) (by omega), d⟩

set_option maxRecDepth 100000 in
set_option maxHeartbeats 8000000 in
theorem first_walk (n wh : Nat) (hn : n ≤ 255) (hwh : wh ≤ 255) (w : World) (hw : LaidW w) (hl : LaidF w) :
    Calls Tryz.prog 8 #[.int .u8 n, .int .u8 wh] w fun e w' => e = .returned (.bool true) ∧ Below w.heap.size w w' := by
  have HW := Lib.hid hw
  have HL := Lib.hid hl
  have hwr : IntKind.i64.wrap (n : Int) = (n : Int) := by rw [IntKind.wrap_i64]; omega
  have hwr2 : IntKind.i64.wrap (wh : Int) = (wh : Int) := by rw [IntKind.wrap_i64]; omega
  have HDg := Lib.hid (fun W => digits_any (n : Int) (by omega) (by omega) W)
  obtain ⟨X, hX⟩ : ∃ X, X = ofL (Lib.itoa (n : Int)) := ⟨_, rfl⟩
  have hXl : X.data.toList = Lib.itoa (n : Int) := by rw [hX, ofL_list]
  have hXs : X.size ≤ 3 := by rw [← bytes_len, hXl]; exact itoa_short ⟨n, by omega⟩
  obtain ⟨P, hP⟩ : ∃ P, (⟨#[112]⟩ : ByteArray) ++ X = P := ⟨_, rfl⟩
  have hPl : P.data.toList = pName (Lib.itoa (n : Int)) := by rw [← hP, app_list, hXl]; rfl
  have hPs : P.size ≤ 4 := by rw [← hP, ← bytes_len, app_list, List.length_append, bytes_len, bytes_len]; have : (⟨#[112]⟩ : ByteArray).size = 1 := rfl; omega
  have q1 : 1 + X.size ≤ 9223372036854775807 := by omega
  have hd90 : (Lib.itoa (n : Int)).length ≤ 90 := by rw [← hXl, bytes_len]; omega
  rw [← hX] at HDg
  have HPe := Lib.hid (fun W => person_any P (by omega) W)
  obtain ⟨k, hk⟩ : ∃ k, k = wh % 6 := ⟨_, rfl⟩
  obtain ⟨m, hm⟩ : ∃ m, m = wh / 6 % 6 := ⟨_, rfl⟩
  have hk6 : k < 6 := by omega
  have hm6 : m < 6 := by omega
  have hki : (wh : Int) % 6 = (k : Int) := by omega
  have hmi : (wh : Int) / 6 % 6 = (m : Int) := by omega
  have HPl := Lib.hid hPl
  have HD90 := Lib.hid hd90
  clear hX hXl hXs hPl hPs hk hm hd90 hw hl
  go_enter Tryz.func8, Tryz.ntmps8
  go_upto_region 6 with (first
    | (go_at_call 22; refine (HDg.out _).mono ?_; rintro e w2 ⟨rfl, hb2⟩; have HB2 := Lib.hid hb2; clear hb2)
    | (go_at_call 21; refine (HPe.out _).mono ?_; rintro e w3 ⟨D3, g, rfl, hD3, hp, hg, hb3⟩; have HP := Lib.hid hp; have HB3 := Lib.hid (bthen HB2.out hb3); have hgl := hp.lt; clear hD3 hp hb3))
  simp only [hki, hmi]
  generalize hW7 : World.alloc _ _ = W7
  obtain ⟨hf0, hb70⟩ : FstAt w3.heap.size W7 ⟨#[99, 110, 61, 111, 116, 104, 101, 114]⟩ (.slice (some ⟨g, 0, none⟩) 3 3) ∧ Below w3.heap.size w3 W7 := by
    rw [← hW7]
    exact fst_blocks w3 ⟨#[99, 110, 61, 111, 116, 104, 101, 114]⟩ (.slice (some ⟨g, 0, none⟩) 3 3)
  clear hW7
  generalize hgb : w3.heap.size + 1 + 1 + 1 + 1 + 1 + 1 = gb
  generalize hgc : gb + 1 = gc
  obtain ⟨h0, hh0⟩ : ∃ h0, h0 = w3.heap.size := ⟨_, rfl⟩
  rw [← hh0] at hf0 hb70 hgb ⊢
  have hgb' : h0 + 6 = gb := hgb
  have hgc' : h0 + 7 = gc := by omega
  have hz7 := hf0.size
  have hp7 : PerAt W7 g P := HP.out.below hb70 (by omega)
  have hB7 : Below w.heap.size w W7 := HB3.out.trans (hb70.mono (by rw [hh0]; exact HB3.out.size))
  have hgh : g < h0 := by omega
  have HH0 := Lib.hid hh0
  clear hh0
  obtain ⟨x0, x1⟩ := hf0.box.cells
  obtain ⟨g0, g1⟩ := hp7.cell01
  obtain ⟨k0, k1, hkt, kc⟩ := hf0.bad k hk6
  obtain ⟨m0, m1, hmt, _⟩ := hf0.bad m hm6
  rw [hgb'] at k0 k1 m0 m1
  rw [hgc'] at kc
  obtain ⟨va, vn, vc, hv⟩ := bV_slice h0 k hk6
  obtain ⟨ua, un, uc, hu⟩ := bV_slice h0 m hm6
  rw [hv] at k1 hkt
  rw [hu] at m1 hmt
  clear hv hu hgb hgc
  have HP7 := Lib.hid hp7
  have HB7 := Lib.hid hB7
  have HF7 := Lib.hid hf0
  have hst0 : W7.drew.cell? ⟨h0, 0, none⟩ = some (.string ⟨#[99, 110, 61, 111, 116, 104, 101, 114]⟩) ∧ W7.drew.cell? ⟨h0, 1, none⟩ = some (.slice (some ⟨g, 0, none⟩) 3 3) ∧ W7.drew.cell? ⟨g, 0, none⟩ = some (.string ⟨#[99, 110]⟩) ∧ W7.drew.cell? ⟨g, 1, none⟩ = some (.slice (some ⟨g - 3, 0, none⟩) 1 1) ∧ W7.drew.cell? ⟨gb, k * 2, none⟩ = some (.string (bT k)) ∧ W7.drew.cell? ⟨gb, k * 2 + 1, none⟩ = some (.slice va vn vc) ∧ W7.drew.cell? ⟨gb, m * 2, none⟩ = some (.string (bT m)) ∧ W7.drew.cell? ⟨gb, m * 2 + 1, none⟩ = some (.slice ua un uc) := ⟨x0, x1, g0, g1, k0, k1, m0, m1⟩
  have hzd : W7.drew.heap.size = h0 + 8 := hz7
  have HKp : Hid (∀ wx, Below W7.drew.heap.size W7.drew wx → (wx.cell? ⟨h0, 0, none⟩ = some (.string ⟨#[99, 110, 61, 111, 116, 104, 101, 114]⟩) ∧ wx.cell? ⟨h0, 1, none⟩ = some (.slice (some ⟨g, 0, none⟩) 3 3) ∧ wx.cell? ⟨g, 0, none⟩ = some (.string ⟨#[99, 110]⟩) ∧ wx.cell? ⟨g, 1, none⟩ = some (.slice (some ⟨g - 3, 0, none⟩) 1 1) ∧ wx.cell? ⟨gb, k * 2, none⟩ = some (.string (bT k)) ∧ wx.cell? ⟨gb, k * 2 + 1, none⟩ = some (.slice va vn vc) ∧ wx.cell? ⟨gb, m * 2, none⟩ = some (.string (bT m)) ∧ wx.cell? ⟨gb, m * 2 + 1, none⟩ = some (.slice ua un uc))) := Lib.hid (fun wx hb => ⟨(hb.cell (p := ⟨h0, 0, none⟩) (by show h0 < _; omega)).trans hst0.1, (hb.cell (p := ⟨h0, 1, none⟩) (by show h0 < _; omega)).trans hst0.2.1, (hb.cell (p := ⟨g, 0, none⟩) (by show g < _; omega)).trans hst0.2.2.1, (hb.cell (p := ⟨g, 1, none⟩) (by show g < _; omega)).trans hst0.2.2.2.1, (hb.cell (p := ⟨gb, k * 2, none⟩) (by show gb < _; omega)).trans hst0.2.2.2.2.1, (hb.cell (p := ⟨gb, k * 2 + 1, none⟩) (by show gb < _; omega)).trans hst0.2.2.2.2.2.1, (hb.cell (p := ⟨gb, m * 2, none⟩) (by show gb < _; omega)).trans hst0.2.2.2.2.2.2.1, (hb.cell (p := ⟨gb, m * 2 + 1, none⟩) (by show gb < _; omega)).trans hst0.2.2.2.2.2.2.2⟩)
  have hXL : ∀ a : List (List UInt8), [((⟨#[99, 110]⟩ : ByteArray).data.toList, a), ((bT k).data.toList, (bA k).2), ((bT m).data.toList, (bA m).2)] = [([99, 110], a), bA k, bA m] := fun a => by unfold bT; rw [ofL_list, ofL_list]
  have hx1 := x_one (W := W7.drew) (E := ⟨#[99, 110, 61, 111, 116, 104, 101, 114]⟩) (N1 := ⟨#[99, 110]⟩) (N2 := bT k) (N3 := bT m) (isT_block (w := W7.drew) hp7.b1 (show g - 3 < W7.heap.size by have := hp7.lt; omega)) (hkt : IsT W7.drew.heap.size W7.drew _ _) (hmt : IsT W7.drew.heap.size W7.drew _ _)
  have hx2 := x_two (W := W7.drew) (E := ⟨#[99, 110, 61, 111, 116, 104, 101, 114]⟩) (N1 := ⟨#[99, 110]⟩) (N2 := bT k) (N3 := bT m) (isT_block (w := W7.drew) hp7.b1 (show g - 3 < W7.heap.size by have := hp7.lt; omega)) (hkt : IsT W7.drew.heap.size W7.drew _ _) (hmt : IsT W7.drew.heap.size W7.drew _ _)
  rw [hXL] at hx1 hx2
  have HX1 := Lib.hid hx1
  have HX2 := Lib.hid hx2
  have ik0 : (0 : Int) ≤ (k : Int) := by omega
  have ik1 : (k : Int) < 6 := by omega
  have im0 : (0 : Int) ≤ (m : Int) := by omega
  have im1 : (m : Int) < 6 := by omega
  have HZ7 := Lib.hid hz7
  clear hx1 hx2 hXL hkt hmt hp7 hB7 hf0 x0 x1 g0 g1 k0 k1 m0 m1 hz7 hzd hki hmi
  go_cut [10] from 39 to 54 (fun s10 wx => ∃ b u a n c, s10 = .pointer (some ⟨b, 0, none⟩) ∧ u = .slice a n c ∧ XAt W7 ⟨#[99, 110, 61, 111, 116, 104, 101, 114]⟩ [([99, 110], [P.data.toList]), bA k, bA m] wx b u)
  case first =>
    go_region_held3 (fun w' => w'.cell? ⟨h0, 0, none⟩ = some (.string ⟨#[99, 110, 61, 111, 116, 104, 101, 114]⟩) ∧ w'.cell? ⟨h0, 1, none⟩ = some (.slice (some ⟨g, 0, none⟩) 3 3) ∧ w'.cell? ⟨g, 0, none⟩ = some (.string ⟨#[99, 110]⟩) ∧ w'.cell? ⟨g, 1, none⟩ = some (.slice (some ⟨g - 3, 0, none⟩) 1 1) ∧ w'.cell? ⟨gb, k * 2, none⟩ = some (.string (bT k)) ∧ w'.cell? ⟨gb, k * 2 + 1, none⟩ = some (.slice va vn vc) ∧ w'.cell? ⟨gb, m * 2, none⟩ = some (.string (bT m)) ∧ w'.cell? ⟨gb, m * 2 + 1, none⟩ = some (.slice ua un uc))
      (first | (with_reducible exact hst0) | (refine HKp.out _ ?_; first | exact (Below.refl _ _).alloc (Nat.le_refl _) _ | exact ((Below.refl _ _).alloc (Nat.le_refl _) _).alloc (by simp) _ | exact (((Below.refl _ _).alloc (Nat.le_refl _) _).alloc (by simp) _).alloc (by simp; omega) _))
      (fail)
    all_goals
      go_split_ands
      go_simp
      go_wp2_with fail
      go_meet
      first | exact ⟨_, _, _, _, _, rfl, rfl, HX1.out.from⟩ | exact ⟨_, _, _, _, _, rfl, rfl, HX2.out.from⟩
  case rest =>
    obtain ⟨bx, ux, xa, xn, xc, rfl, rfl, hxat⟩ := hcut
    rename World => w1
    obtain ⟨hx1, hx2, hxb, hxi, hxl⟩ := hxat
    obtain ⟨y0, y1⟩ := hxb.cells
    have HXb := Lib.hid hxb
    have HXi := Lib.hid hxi
    have HXl := Lib.hid hxl
    clear hst0 hxb hxi hxl
    go_upto_region 8 with (fail)
    generalize hW8 : World.alloc _ _ = W8
    obtain ⟨hyb, hyl, hys⟩ : BoxN W8 w1.heap.size ⟨#[99, 110]⟩ (.slice xa xn xc) ∧ Below w1.heap.size w1 W8 ∧ W8.heap.size = w1.heap.size + 1 := by
      rw [← hW8]
      exact ⟨boxN_new _ _ _, (Below.refl _ _).alloc (Nat.le_refl _) _, by simp⟩
    clear hW8
    obtain ⟨yb, hyb0⟩ : ∃ yb, yb = w1.heap.size := ⟨_, rfl⟩
    rw [← hyb0] at hyb hys ⊢
    have hyw1 : w1.heap.size ≤ yb := by omega
    have hyw2 : yb ≤ w1.heap.size := by omega
    have HYB0 := Lib.hid hyb0
    clear hyb0
    have hz7 := HZ7.out
    have hz1 : W7.heap.size ≤ w1.heap.size := HXl.out.size
    have hl8 : Below W7.heap.size W7 W8 := HXl.out.trans (hyl.mono hz1)
    have hp8 : PerAt W8 g P := HP7.out.below hl8 HP7.out.lt
    have hbx8 : BoxN W8 bx ⟨#[99, 110, 61, 111, 116, 104, 101, 114]⟩ (.slice xa xn xc) := HXb.out.below hyl (by omega)
    have hxi8 : IsA W8.heap.size W8 [([99, 110], [P.data.toList]), bA k, bA m] (.slice xa xn xc) := HXi.out.below hyl hyl.size
    have hf8 : BoxN W8 h0 ⟨#[99, 110, 61, 111, 116, 104, 101, 114]⟩ (.slice (some ⟨g, 0, none⟩) 3 3) := HF7.out.box.below hl8 (by omega)
    have hc8 : W8.cell? ⟨gc, k, none⟩ = some (.int .i64 (cK k)) := (hl8.cell (p := ⟨gc, k, none⟩) (show gc < W7.heap.size by omega)).trans kc
    have hB8 : Below w.heap.size w W8 := HB7.out.trans (hl8.mono HB7.out.size)
    obtain ⟨g0, g1⟩ := hp8.cell01
    obtain ⟨g2, g3, g4, g5⟩ := hp8.cells
    obtain ⟨x0, x1⟩ := hf8.cells
    have hgl8 := hp8.lt
    have hzs8 : h0 < W8.heap.size := by omega
    have hst8 : W8.drew.cell? ⟨h0, 0, none⟩ = some (.string ⟨#[99, 110, 61, 111, 116, 104, 101, 114]⟩) ∧ W8.drew.cell? ⟨h0, 1, none⟩ = some (.slice (some ⟨g, 0, none⟩) 3 3) ∧ W8.drew.cell? ⟨g, 0, none⟩ = some (.string ⟨#[99, 110]⟩) ∧ W8.drew.cell? ⟨g, 1, none⟩ = some (.slice (some ⟨g - 3, 0, none⟩) 1 1) ∧ W8.drew.cell? ⟨g, 2, none⟩ = some (.string ⟨#[111, 98, 106, 101, 99, 116, 99, 108, 97, 115, 115]⟩) ∧ W8.drew.cell? ⟨g, 3, none⟩ = some (.slice (some ⟨g - 2, 0, none⟩) 1 1) ∧ W8.drew.cell? ⟨g, 4, none⟩ = some (.string ⟨#[115, 110]⟩) ∧ W8.drew.cell? ⟨g, 5, none⟩ = some (.slice (some ⟨g - 1, 0, none⟩) 1 1) := ⟨x0, x1, g0, g1, g2, g3, g4, g5⟩
    have hzd8 : W8.drew.heap.size = W8.heap.size := rfl
    have HKp8 : Hid (∀ wx, Below W8.drew.heap.size W8.drew wx → (wx.cell? ⟨h0, 0, none⟩ = some (.string ⟨#[99, 110, 61, 111, 116, 104, 101, 114]⟩) ∧ wx.cell? ⟨h0, 1, none⟩ = some (.slice (some ⟨g, 0, none⟩) 3 3) ∧ wx.cell? ⟨g, 0, none⟩ = some (.string ⟨#[99, 110]⟩) ∧ wx.cell? ⟨g, 1, none⟩ = some (.slice (some ⟨g - 3, 0, none⟩) 1 1) ∧ wx.cell? ⟨g, 2, none⟩ = some (.string ⟨#[111, 98, 106, 101, 99, 116, 99, 108, 97, 115, 115]⟩) ∧ wx.cell? ⟨g, 3, none⟩ = some (.slice (some ⟨g - 2, 0, none⟩) 1 1) ∧ wx.cell? ⟨g, 4, none⟩ = some (.string ⟨#[115, 110]⟩) ∧ wx.cell? ⟨g, 5, none⟩ = some (.slice (some ⟨g - 1, 0, none⟩) 1 1))) := Lib.hid (fun wx hb => ⟨(hb.cell (p := ⟨h0, 0, none⟩) (by show h0 < _; omega)).trans hst8.1, (hb.cell (p := ⟨h0, 1, none⟩) (by show h0 < _; omega)).trans hst8.2.1, (hb.cell (p := ⟨g, 0, none⟩) (by show g < _; omega)).trans hst8.2.2.1, (hb.cell (p := ⟨g, 1, none⟩) (by show g < _; omega)).trans hst8.2.2.2.1, (hb.cell (p := ⟨g, 2, none⟩) (by show g < _; omega)).trans hst8.2.2.2.2.1, (hb.cell (p := ⟨g, 3, none⟩) (by show g < _; omega)).trans hst8.2.2.2.2.2.1, (hb.cell (p := ⟨g, 4, none⟩) (by show g < _; omega)).trans hst8.2.2.2.2.2.2.1, (hb.cell (p := ⟨g, 5, none⟩) (by show g < _; omega)).trans hst8.2.2.2.2.2.2.2⟩)
    have hp8d : PerAt W8.drew g P := ⟨hp8.b1, hp8.b2, hp8.b3, hp8.b4, hp8.lt⟩
    have HZ1 := Lib.hid (z_one (W := W8.drew) (E := ⟨#[99, 110, 61, 111, 116, 104, 101, 114]⟩) hp8d)
    have HZ2 := Lib.hid (z_two (W := W8.drew) (E := ⟨#[99, 110, 61, 111, 116, 104, 101, 114]⟩) hp8d)
    have HZ3 := Lib.hid (z_three (W := W8.drew) (E := ⟨#[99, 110, 61, 111, 116, 104, 101, 114]⟩) hp8d)
    have HP8 := Lib.hid hp8
    have HYb := Lib.hid hyb
    have HBx8 := Lib.hid hbx8
    have HXi8 := Lib.hid hxi8
    have HF8 := Lib.hid hf8
    have HC8 := Lib.hid hc8
    have HB8 := Lib.hid hB8
    have hg8 : gc < W8.heap.size := by omega
    have hbx8' : bx < W8.heap.size := by omega
    have hyb8 : yb < W8.heap.size := by omega
    have HYS := Lib.hid hys
    clear hz7 hzd8 hys hyb hyl hl8 hp8 hbx8 hxi8 hf8 hc8 hB8 g0 g1 g2 g3 g4 g5 x0 x1 hp8d y0 y1 kc
    go_cut [12] from 58 to 75 (fun s12 wx => ∃ b u a n c, s12 = .pointer (some ⟨b, 0, none⟩) ∧ u = .slice a n c ∧ XAt W8 ⟨#[99, 110, 61, 111, 116, 104, 101, 114]⟩ (perL P.data.toList ++ [ouA]) wx b u)
    case first =>
      go_region_held3 (fun w' => w'.cell? ⟨h0, 0, none⟩ = some (.string ⟨#[99, 110, 61, 111, 116, 104, 101, 114]⟩) ∧ w'.cell? ⟨h0, 1, none⟩ = some (.slice (some ⟨g, 0, none⟩) 3 3) ∧ w'.cell? ⟨g, 0, none⟩ = some (.string ⟨#[99, 110]⟩) ∧ w'.cell? ⟨g, 1, none⟩ = some (.slice (some ⟨g - 3, 0, none⟩) 1 1) ∧ w'.cell? ⟨g, 2, none⟩ = some (.string ⟨#[111, 98, 106, 101, 99, 116, 99, 108, 97, 115, 115]⟩) ∧ w'.cell? ⟨g, 3, none⟩ = some (.slice (some ⟨g - 2, 0, none⟩) 1 1) ∧ w'.cell? ⟨g, 4, none⟩ = some (.string ⟨#[115, 110]⟩) ∧ w'.cell? ⟨g, 5, none⟩ = some (.slice (some ⟨g - 1, 0, none⟩) 1 1))
        (first | (with_reducible exact hst8) | (refine HKp8.out _ ?_; first | exact (Below.refl _ _).alloc (Nat.le_refl _) _ | exact ((Below.refl _ _).alloc (Nat.le_refl _) _).alloc (by simp) _ | exact (((Below.refl _ _).alloc (Nat.le_refl _) _).alloc (by simp) _).alloc (by simp; omega) _))
        (fail)
      all_goals
        go_split_ands
        go_simp
        go_wp2_with fail
        go_meet
        first | exact ⟨_, _, _, _, _, rfl, rfl, HZ1.out.from⟩ | exact ⟨_, _, _, _, _, rfl, rfl, HZ2.out.from⟩ | exact ⟨_, _, _, _, _, rfl, rfl, HZ3.out.from⟩
    case rest =>
      obtain ⟨bz, uz, za, zn, zc, rfl, rfl, hzat⟩ := hcut
      rename World => w9
      obtain ⟨hq1, hq2, hzb, hzi, hzl⟩ := hzat
      obtain ⟨ck, hck⟩ : ∃ c, c = cK k := ⟨_, rfl⟩
      have hB9 : Below w.heap.size w w9 := HB8.out.trans (hzl.mono HB8.out.size)
      have hzz := hzl.size
      obtain ⟨z0, z1⟩ := hzb.cells
      obtain ⟨b0, b1⟩ := (HBx8.out.below hzl (by omega)).cells
      obtain ⟨y0, y1⟩ := (HYb.out.below hzl (by omega)).cells
      obtain ⟨x0, x1⟩ := (HF8.out.below hzl hzs8).cells
      have c0 : w9.cell? ⟨gc, k, none⟩ = some (.int .i64 ck) := by rw [hck]; exact (hzl.cell (p := ⟨gc, k, none⟩) (show gc < W8.heap.size by omega)).trans HC8.out
      have hst9 : w9.drew.cell? ⟨bx, 0, none⟩ = some (.string ⟨#[99, 110, 61, 111, 116, 104, 101, 114]⟩) ∧ w9.drew.cell? ⟨bx, 1, none⟩ = some (.slice xa xn xc) ∧ w9.drew.cell? ⟨yb, 0, none⟩ = some (.string ⟨#[99, 110]⟩) ∧ w9.drew.cell? ⟨yb, 1, none⟩ = some (.slice xa xn xc) ∧ w9.drew.cell? ⟨bz, 0, none⟩ = some (.string ⟨#[99, 110, 61, 111, 116, 104, 101, 114]⟩) ∧ w9.drew.cell? ⟨bz, 1, none⟩ = some (.slice za zn zc) ∧ w9.drew.cell? ⟨h0, 0, none⟩ = some (.string ⟨#[99, 110, 61, 111, 116, 104, 101, 114]⟩) ∧ w9.drew.cell? ⟨h0, 1, none⟩ = some (.slice (some ⟨g, 0, none⟩) 3 3) ∧ w9.drew.cell? ⟨gc, k, none⟩ = some (.int .i64 ck) ∧ At9 w9 w9.drew := ⟨b0, b1, y0, y1, z0, z1, x0, x1, c0, (Below.refl w9.heap.size w9).drew⟩
      have hgc9 : gc < w9.heap.size := by omega
      have hbx9 : bx < w9.heap.size := by omega
      have hyb9 : yb < w9.heap.size := by omega
      have hh9 : h0 < w9.heap.size := by omega
      have HKp9 : Hid (∀ wx, At9 w9 wx → (wx.cell? ⟨bx, 0, none⟩ = some (.string ⟨#[99, 110, 61, 111, 116, 104, 101, 114]⟩) ∧ wx.cell? ⟨bx, 1, none⟩ = some (.slice xa xn xc) ∧ wx.cell? ⟨yb, 0, none⟩ = some (.string ⟨#[99, 110]⟩) ∧ wx.cell? ⟨yb, 1, none⟩ = some (.slice xa xn xc) ∧ wx.cell? ⟨bz, 0, none⟩ = some (.string ⟨#[99, 110, 61, 111, 116, 104, 101, 114]⟩) ∧ wx.cell? ⟨bz, 1, none⟩ = some (.slice za zn zc) ∧ wx.cell? ⟨h0, 0, none⟩ = some (.string ⟨#[99, 110, 61, 111, 116, 104, 101, 114]⟩) ∧ wx.cell? ⟨h0, 1, none⟩ = some (.slice (some ⟨g, 0, none⟩) 3 3) ∧ wx.cell? ⟨gc, k, none⟩ = some (.int .i64 ck) ∧ At9 w9 wx)) := Lib.hid (fun wx hb => ⟨(hb.cell (p := ⟨bx, 0, none⟩) (by show bx < _; omega)).trans hst9.1, (hb.cell (p := ⟨bx, 1, none⟩) (by show bx < _; omega)).trans hst9.2.1, (hb.cell (p := ⟨yb, 0, none⟩) (by show yb < _; omega)).trans hst9.2.2.1, (hb.cell (p := ⟨yb, 1, none⟩) (by show yb < _; omega)).trans hst9.2.2.2.1, (hb.cell (p := ⟨bz, 0, none⟩) (by show bz < _; omega)).trans hst9.2.2.2.2.1, (hb.cell (p := ⟨bz, 1, none⟩) (by show bz < _; omega)).trans hst9.2.2.2.2.2.1, (hb.cell (p := ⟨h0, 0, none⟩) (by show h0 < _; omega)).trans hst9.2.2.2.2.2.2.1, (hb.cell (p := ⟨h0, 1, none⟩) (by show h0 < _; omega)).trans hst9.2.2.2.2.2.2.2.1, (hb.cell (p := ⟨gc, k, none⟩) (by show gc < _; omega)).trans hst9.2.2.2.2.2.2.2.2.1, hb⟩)
      have t1 : (ck == ck) = true := by simp
      have HA9 : Hid (∀ W, At9 w9 W → LaidW W ∧ LaidF W) := Lib.hid (fun W hb => ⟨HW.out.below (hB9.trans (hb.mono hB9.size)), HL.out.below (hB9.trans (hb.mono hB9.size))⟩)
      have hcx : ∀ W, At9 w9 W → Calls Tryz.prog 16 #[.agg #[.string ⟨#[99, 110, 61, 111, 116, 104, 101, 114]⟩, .slice xa xn xc]] W fun e w' => e = .returned (.int .i64 ck) ∧ Below W.heap.size W w' := fun W hb => by
        have := checkE_any ⟨#[99, 110, 61, 111, 116, 104, 101, 114]⟩ (by decide) [([99, 110], [P.data.toList]), bA k, bA m] (.slice xa xn xc) W (HA9.out W hb).1 (HA9.out W hb).2 ((HXi8.out.below hzl hzz).below hb hb.size)
        rw [HPl.out, show (⟨#[99, 110, 61, 111, 116, 104, 101, 114]⟩ : ByteArray).data.toList = othD from rfl, fst_xk _ HD90.out k m hk6 hm6, ← hck] at this
        exact this
      have hcy : ∀ W, At9 w9 W → Calls Tryz.prog 16 #[.agg #[.string ⟨#[99, 110]⟩, .slice xa xn xc]] W fun e w' => e = .returned (.int .i64 34) ∧ Below W.heap.size W w' := fun W hb => by
        have := checkE_any ⟨#[99, 110]⟩ (by decide) [([99, 110], [P.data.toList]), bA k, bA m] (.slice xa xn xc) W (HA9.out W hb).1 (HA9.out W hb).2 ((HXi8.out.below hzl hzz).below hb hb.size)
        rw [show (⟨#[99, 110]⟩ : ByteArray).data.toList = [99, 110] from rfl, fst_y] at this
        exact this
      have hcz : ∀ W, At9 w9 W → Calls Tryz.prog 16 #[.agg #[.string ⟨#[99, 110, 61, 111, 116, 104, 101, 114]⟩, .slice za zn zc]] W fun e w' => e = .returned (.int .i64 65) ∧ Below W.heap.size W w' := fun W hb => by
        have := checkE_any ⟨#[99, 110, 61, 111, 116, 104, 101, 114]⟩ (by decide) (perL P.data.toList ++ [ouA]) (.slice za zn zc) W (HA9.out W hb).1 (HA9.out W hb).2 (hzi.below hb hb.size)
        rw [HPl.out, show (⟨#[99, 110, 61, 111, 116, 104, 101, 114]⟩ : ByteArray).data.toList = othD from rfl, fst_z _ HD90.out] at this
        exact this
      have hce : ∀ W, At9 w9 W → Calls Tryz.prog 16 #[.agg #[.string ⟨#[99, 110, 61, 111, 116, 104, 101, 114]⟩, .slice (some ⟨g, 0, none⟩) 3 3]] W fun e w' => e = .returned (.int .i64 64) ∧ Below W.heap.size W w' := fun W hb => by
        have := checkE_any ⟨#[99, 110, 61, 111, 116, 104, 101, 114]⟩ (by decide) (perL P.data.toList) (.slice (some ⟨g, 0, none⟩) 3 3) W (HA9.out W hb).1 (HA9.out W hb).2 (((HP8.out.below hzl HP8.out.lt).below hb (Nat.lt_of_lt_of_le HP8.out.lt hzz)).isA)
        rw [HPl.out, show (⟨#[99, 110, 61, 111, 116, 104, 101, 114]⟩ : ByteArray).data.toList = othD from rfl, fst_e _ HD90.out] at this
        exact this
      have hca : ∀ W, At9 w9 W → Calls Tryz.prog 13 #[] W fun e w' => e = .returned (.bool true) ∧ Below W.heap.size W w' := fun W hb => awake4_any W (HA9.out W hb).1 (HA9.out W hb).2
      have HCx := Lib.hid hcx
      have HCy := Lib.hid hcy
      have HCz := Lib.hid hcz
      have HCe := Lib.hid hce
      have HCa := Lib.hid hca
      have HB9 := Lib.hid hB9
      clear hcx hcy hcz hce hca hzb hzi hzl z0 z1 b0 b1 y0 y1 x0 x1 c0 hst8 hck hB9
      go_upto_region 9 with (fail)
      go_region_held3 (fun w' => w'.cell? ⟨bx, 0, none⟩ = some (.string ⟨#[99, 110, 61, 111, 116, 104, 101, 114]⟩) ∧ w'.cell? ⟨bx, 1, none⟩ = some (.slice xa xn xc) ∧ w'.cell? ⟨yb, 0, none⟩ = some (.string ⟨#[99, 110]⟩) ∧ w'.cell? ⟨yb, 1, none⟩ = some (.slice xa xn xc) ∧ w'.cell? ⟨bz, 0, none⟩ = some (.string ⟨#[99, 110, 61, 111, 116, 104, 101, 114]⟩) ∧ w'.cell? ⟨bz, 1, none⟩ = some (.slice za zn zc) ∧ w'.cell? ⟨h0, 0, none⟩ = some (.string ⟨#[99, 110, 61, 111, 116, 104, 101, 114]⟩) ∧ w'.cell? ⟨h0, 1, none⟩ = some (.slice (some ⟨g, 0, none⟩) 3 3) ∧ w'.cell? ⟨gc, k, none⟩ = some (.int .i64 ck) ∧ At9 w9 w')
        (first | (with_reducible exact hst9) | (go_split_ands; exact HKp9.out _ (At9.go (by assumption) hbx)))
        (first
          | (go_at_call 16; go_split_ands; (with_reducible refine (HCx.out _ (by assumption)).mono ?_); rintro e wx ⟨rfl, hbx⟩)
          | (go_at_call 16; go_split_ands; (with_reducible refine (HCy.out _ (by assumption)).mono ?_); rintro e wx ⟨rfl, hbx⟩)
          | (go_at_call 16; go_split_ands; (with_reducible refine (HCz.out _ (by assumption)).mono ?_); rintro e wx ⟨rfl, hbx⟩)
          | (go_at_call 16; go_split_ands; (with_reducible refine (HCe.out _ (by assumption)).mono ?_); rintro e wx ⟨rfl, hbx⟩)
          | (go_at_call 13; go_split_ands; (with_reducible refine (HCa.out _ (by assumption)).mono ?_); rintro e wx ⟨rfl, hbx⟩))
      all_goals
        go_split_ands
        have hT : At9 w9 wx := by assumption
        go_wp2
        go_ret
        exact ⟨rfl, HB9.out.trans (hT.mono HB9.out.size)⟩
end Go.Proofs.YtjffidegmonkfaaGreatDoor
