/- Several texts in one file: ScFstW, ScDocC, ScDocD, ScDocG, ScDocGW. -/
import Derived.Test.YtofmpaphafhdpaaGreatDoorAllP3
import Derived.Test.YtofmpaphafhdpaaGreatDoorAllP2
import Derived.Deep.CutRange
import Derived.Deep.RegionHeld3
import Derived.Deep.AppendSrc
/- SchemaFirst: the walk. -/
namespace Go.Proofs.YtofmpaphafhdpaaGreatDoor
open Go.RowKit
set_option linter.unusedVariables false

theorem itoa_short : ∀ n : Fin 256, (Lib.itoa (n.1 : Int)).length ≤ 3 := by decide +kernel
def bA (k : Nat) : AT := badL.getD k ([], [])
def bT (k : Nat) : ByteArray := ofL (bA k).1
def cK (k : Nat) : Int := codeL.getD k 0
def bV (h : Nat) (k : Nat) : Value := [.slice (some ⟨h + 1, 0, none⟩) 1 1, .slice none 0 0, .slice (some ⟨h + 2, 0, none⟩) 1 1, .slice (some ⟨h + 3, 0, none⟩) 2 2, .slice (some ⟨h + 4, 0, none⟩) 2 2, .slice (some ⟨h + 5, 0, none⟩) 1 1].getD k .nilIface
theorem fst_xk (d : List UInt8) (h : d.length ≤ 90) (k m : Nat) (hk : k < 6) (hm : m < 6) : checkD othD [([99, 110], [pName d]), bA k, bA m] = cK k := by
  have e := fst_x d h k m (show k < badL.length from hk) (show k < codeL.length from hk) (show m < badL.length from hm)
  have e1 : bA k = badL[k]'(show k < badL.length from hk) := by unfold bA; rw [List.getD_eq_getElem?_getD, List.getElem?_eq_getElem (show k < badL.length from hk)]; rfl
  have e2 : bA m = badL[m]'(show m < badL.length from hm) := by unfold bA; rw [List.getD_eq_getElem?_getD, List.getElem?_eq_getElem (show m < badL.length from hm)]; rfl
  have e3 : cK k = codeL[k]'(show k < codeL.length from hk) := by unfold cK; rw [List.getD_eq_getElem?_getD, List.getElem?_eq_getElem (show k < codeL.length from hk)]; rfl
  rw [e1, e2, e3]
  exact e
theorem bV_slice (h k : Nat) (hk : k < 6) : ∃ a n c, bV h k = .slice a n c := by
  match k, hk with
  | 0, _ => exact ⟨_, _, _, rfl⟩
  | 1, _ => exact ⟨_, _, _, rfl⟩
  | 2, _ => exact ⟨_, _, _, rfl⟩
  | 3, _ => exact ⟨_, _, _, rfl⟩
  | 4, _ => exact ⟨_, _, _, rfl⟩
  | 5, _ => exact ⟨_, _, _, rfl⟩

/-- The lists of what is wrong, and of the codes, as they lie. -/
structure FstAt (h : Nat) (W : World) (E : ByteArray) (u : Value) : Prop where
  box : BoxN W h E u
  b1 : W.heap[h + 1]? = some (.cells #[.string ⟨#[120]⟩] 9 (0, 0))
  b2 : W.heap[h + 2]? = some (.cells #[.string ⟨#[120]⟩] 9 (0, 0))
  b3 : W.heap[h + 3]? = some (.cells #[.string ⟨#[49]⟩, .string ⟨#[50]⟩] 9 (0, 0))
  b4 : W.heap[h + 4]? = some (.cells #[.string ⟨#[97]⟩, .string ⟨#[65, 32]⟩] 9 (0, 0))
  b5 : W.heap[h + 5]? = some (.cells #[.string ⟨#[122]⟩] 9 (0, 0))
  b6 : W.heap[h + 6]? = some (.cells #[.string ⟨#[110, 111, 110, 101]⟩, .slice (some ⟨h + 1, 0, none⟩) 1 1, .string ⟨#[100, 101, 115, 99, 114, 105, 112, 116, 105, 111, 110]⟩, .slice none 0 0, .string ⟨#[117, 105, 100, 110, 117, 109, 98, 101, 114]⟩, .slice (some ⟨h + 2, 0, none⟩) 1 1, .string ⟨#[117, 105, 100, 110, 117, 109, 98, 101, 114]⟩, .slice (some ⟨h + 3, 0, none⟩) 2 2, .string ⟨#[109, 97, 105, 108]⟩, .slice (some ⟨h + 4, 0, none⟩) 2 2, .string ⟨#[67, 78]⟩, .slice (some ⟨h + 5, 0, none⟩) 1 1] 42 (0, 0))
  b7 : W.heap[h + 7]? = some (.cells #[.int .i64 17, .int .i64 19, .int .i64 21, .int .i64 19, .int .i64 20, .int .i64 20] 3 (0, 0))
  size : W.heap.size = h + 8

theorem step_alloc {W : World} {h k : Nat} {o : Obj} (hs : W.heap.size = h + k) : (W.alloc o).heap.size = h + k + 1 := by simp; omega
theorem fst_blocks (w : World) (E : ByteArray) (u : Value) : FstAt w.heap.size ((((((((w.alloc (.cells #[.string E, u] 24)).alloc (.cells #[.string ⟨#[120]⟩] 9)).alloc (.cells #[.string ⟨#[120]⟩] 9)).alloc (.cells #[.string ⟨#[49]⟩, .string ⟨#[50]⟩] 9)).alloc (.cells #[.string ⟨#[97]⟩, .string ⟨#[65, 32]⟩] 9)).alloc (.cells #[.string ⟨#[122]⟩] 9)).alloc (.cells #[.string ⟨#[110, 111, 110, 101]⟩, .slice (some ⟨w.heap.size + 1, 0, none⟩) 1 1, .string ⟨#[100, 101, 115, 99, 114, 105, 112, 116, 105, 111, 110]⟩, .slice none 0 0, .string ⟨#[117, 105, 100, 110, 117, 109, 98, 101, 114]⟩, .slice (some ⟨w.heap.size + 2, 0, none⟩) 1 1, .string ⟨#[117, 105, 100, 110, 117, 109, 98, 101, 114]⟩, .slice (some ⟨w.heap.size + 3, 0, none⟩) 2 2, .string ⟨#[109, 97, 105, 108]⟩, .slice (some ⟨w.heap.size + 4, 0, none⟩) 2 2, .string ⟨#[67, 78]⟩, .slice (some ⟨w.heap.size + 5, 0, none⟩) 1 1] 42)).alloc (.cells #[.int .i64 17, .int .i64 19, .int .i64 21, .int .i64 19, .int .i64 20, .int .i64 20] 3)) E u ∧
    Below w.heap.size w ((((((((w.alloc (.cells #[.string E, u] 24)).alloc (.cells #[.string ⟨#[120]⟩] 9)).alloc (.cells #[.string ⟨#[120]⟩] 9)).alloc (.cells #[.string ⟨#[49]⟩, .string ⟨#[50]⟩] 9)).alloc (.cells #[.string ⟨#[97]⟩, .string ⟨#[65, 32]⟩] 9)).alloc (.cells #[.string ⟨#[122]⟩] 9)).alloc (.cells #[.string ⟨#[110, 111, 110, 101]⟩, .slice (some ⟨w.heap.size + 1, 0, none⟩) 1 1, .string ⟨#[100, 101, 115, 99, 114, 105, 112, 116, 105, 111, 110]⟩, .slice none 0 0, .string ⟨#[117, 105, 100, 110, 117, 109, 98, 101, 114]⟩, .slice (some ⟨w.heap.size + 2, 0, none⟩) 1 1, .string ⟨#[117, 105, 100, 110, 117, 109, 98, 101, 114]⟩, .slice (some ⟨w.heap.size + 3, 0, none⟩) 2 2, .string ⟨#[109, 97, 105, 108]⟩, .slice (some ⟨w.heap.size + 4, 0, none⟩) 2 2, .string ⟨#[67, 78]⟩, .slice (some ⟨w.heap.size + 5, 0, none⟩) 1 1] 42)).alloc (.cells #[.int .i64 17, .int .i64 19, .int .i64 21, .int .i64 19, .int .i64 20, .int .i64 20] 3)) := by
  generalize hO6 : Obj.cells #[.string ⟨#[110, 111, 110, 101]⟩, .slice (some ⟨w.heap.size + 1, 0, none⟩) 1 1, .string ⟨#[100, 101, 115, 99, 114, 105, 112, 116, 105, 111, 110]⟩, .slice none 0 0, .string ⟨#[117, 105, 100, 110, 117, 109, 98, 101, 114]⟩, .slice (some ⟨w.heap.size + 2, 0, none⟩) 1 1, .string ⟨#[117, 105, 100, 110, 117, 109, 98, 101, 114]⟩, .slice (some ⟨w.heap.size + 3, 0, none⟩) 2 2, .string ⟨#[109, 97, 105, 108]⟩, .slice (some ⟨w.heap.size + 4, 0, none⟩) 2 2, .string ⟨#[67, 78]⟩, .slice (some ⟨w.heap.size + 5, 0, none⟩) 1 1] 42 = O6
  have e0 := heap_alloc_new w (.cells #[.string E, u] 24)
  have s0 := step_alloc (o := .cells #[.string E, u] 24) (show w.heap.size = w.heap.size + 0 from rfl)
  have l0 : Below w.heap.size w (w.alloc (.cells #[.string E, u] 24)) := (Below.refl _ _).alloc (Nat.le_refl _) _
  generalize w.alloc (.cells #[.string E, u] 24) = W0 at e0 s0 l0 ⊢
  have e1 := heap_alloc_new W0 (.cells #[.string ⟨#[120]⟩] 9)
  have s1 := step_alloc (o := .cells #[.string ⟨#[120]⟩] 9) s0
  have l1 : Below W0.heap.size W0 (W0.alloc (.cells #[.string ⟨#[120]⟩] 9)) := (Below.refl _ _).alloc (Nat.le_refl _) _
  rw [s0] at e1
  generalize W0.alloc (.cells #[.string ⟨#[120]⟩] 9) = W1 at e1 s1 l1 ⊢
  have e2 := heap_alloc_new W1 (.cells #[.string ⟨#[120]⟩] 9)
  have s2 := step_alloc (o := .cells #[.string ⟨#[120]⟩] 9) s1
  have l2 : Below W1.heap.size W1 (W1.alloc (.cells #[.string ⟨#[120]⟩] 9)) := (Below.refl _ _).alloc (Nat.le_refl _) _
  rw [s1] at e2
  generalize W1.alloc (.cells #[.string ⟨#[120]⟩] 9) = W2 at e2 s2 l2 ⊢
  have e3 := heap_alloc_new W2 (.cells #[.string ⟨#[49]⟩, .string ⟨#[50]⟩] 9)
  have s3 := step_alloc (o := .cells #[.string ⟨#[49]⟩, .string ⟨#[50]⟩] 9) s2
  have l3 : Below W2.heap.size W2 (W2.alloc (.cells #[.string ⟨#[49]⟩, .string ⟨#[50]⟩] 9)) := (Below.refl _ _).alloc (Nat.le_refl _) _
  rw [s2] at e3
  generalize W2.alloc (.cells #[.string ⟨#[49]⟩, .string ⟨#[50]⟩] 9) = W3 at e3 s3 l3 ⊢
  have e4 := heap_alloc_new W3 (.cells #[.string ⟨#[97]⟩, .string ⟨#[65, 32]⟩] 9)
  have s4 := step_alloc (o := .cells #[.string ⟨#[97]⟩, .string ⟨#[65, 32]⟩] 9) s3
  have l4 : Below W3.heap.size W3 (W3.alloc (.cells #[.string ⟨#[97]⟩, .string ⟨#[65, 32]⟩] 9)) := (Below.refl _ _).alloc (Nat.le_refl _) _
  rw [s3] at e4
  generalize W3.alloc (.cells #[.string ⟨#[97]⟩, .string ⟨#[65, 32]⟩] 9) = W4 at e4 s4 l4 ⊢
  have e5 := heap_alloc_new W4 (.cells #[.string ⟨#[122]⟩] 9)
  have s5 := step_alloc (o := .cells #[.string ⟨#[122]⟩] 9) s4
  have l5 : Below W4.heap.size W4 (W4.alloc (.cells #[.string ⟨#[122]⟩] 9)) := (Below.refl _ _).alloc (Nat.le_refl _) _
  rw [s4] at e5
  generalize W4.alloc (.cells #[.string ⟨#[122]⟩] 9) = W5 at e5 s5 l5 ⊢
  have e6 := heap_alloc_new W5 O6
  have s6 := step_alloc (o := O6) s5
  have l6 : Below W5.heap.size W5 (W5.alloc O6) := (Below.refl _ _).alloc (Nat.le_refl _) _
  rw [s5] at e6
  generalize W5.alloc O6 = W6 at e6 s6 l6 ⊢
  have e7 := heap_alloc_new W6 (.cells #[.int .i64 17, .int .i64 19, .int .i64 21, .int .i64 19, .int .i64 20, .int .i64 20] 3)
  have s7 := step_alloc (o := .cells #[.int .i64 17, .int .i64 19, .int .i64 21, .int .i64 19, .int .i64 20, .int .i64 20] 3) s6
  have l7 : Below W6.heap.size W6 (W6.alloc (.cells #[.int .i64 17, .int .i64 19, .int .i64 21, .int .i64 19, .int .i64 20, .int .i64 20] 3)) := (Below.refl _ _).alloc (Nat.le_refl _) _
  rw [s6] at e7
  generalize W6.alloc (.cells #[.int .i64 17, .int .i64 19, .int .i64 21, .int .i64 19, .int .i64 20, .int .i64 20] 3) = W7 at e7 s7 l7 ⊢
  have m6 := l7
  have m5 : Below W5.heap.size W5 W7 := l6.trans (m6.mono (by omega))
  have m4 : Below W4.heap.size W4 W7 := l5.trans (m5.mono (by omega))
  have m3 : Below W3.heap.size W3 W7 := l4.trans (m4.mono (by omega))
  have m2 : Below W2.heap.size W2 W7 := l3.trans (m3.mono (by omega))
  have m1 : Below W1.heap.size W1 W7 := l2.trans (m2.mono (by omega))
  have m0 : Below W0.heap.size W0 W7 := l1.trans (m1.mono (by omega))
  subst hO6
  exact ⟨⟨(m0.block _ (by omega)).trans e0, (m1.block _ (by omega)).trans e1, (m2.block _ (by omega)).trans e2, (m3.block _ (by omega)).trans e3, (m4.block _ (by omega)).trans e4, (m5.block _ (by omega)).trans e5, (m6.block _ (by omega)).trans e6, e7, by omega⟩, l0.trans (m0.mono (by omega))⟩

theorem isT_two {w : World} {b n0 : Nat} {X Y : ByteArray} {e : TypeId} (h : w.heap[b]? = some (.cells #[.string X, .string Y] e (0, 0))) (hn : b < n0) : IsT n0 w [X.data.toList, Y.data.toList] (.slice (some ⟨b, 0, none⟩) 2 2) :=
  ⟨_, _, rfl, by unfold maxLen; simp, fun j hj => by
    refine ⟨b, 0, rfl, hn, ?_⟩
    match j, hj with
    | 0, _ =>
      show _ = some (strV X.data.toList)
      rw [strV_whole]
      simp only [World.cell?, h]; rfl
    | 1, _ =>
      show _ = some (strV Y.data.toList)
      rw [strV_whole]
      simp only [World.cell?, h]; rfl⟩
theorem FstAt.bad {h : Nat} {W : World} {E : ByteArray} {u : Value} (H : FstAt h W E u) (k : Nat) (hk : k < 6) : W.cell? ⟨h + 6, k * 2, none⟩ = some (.string (bT k)) ∧ W.cell? ⟨h + 6, k * 2 + 1, none⟩ = some (bV h k) ∧ IsT W.heap.size W (bA k).2 (bV h k) ∧ W.cell? ⟨h + 7, k, none⟩ = some (.int .i64 (cK k)) := by
  have hz := H.size
  match k, hk with
  | 0, _ => exact ⟨by simp only [World.cell?, H.b6]; rfl, by simp only [World.cell?, H.b6]; rfl, isT_block H.b1 (by omega), by simp only [World.cell?, H.b7]; rfl⟩
  | 1, _ => exact ⟨by simp only [World.cell?, H.b6]; rfl, by simp only [World.cell?, H.b6]; rfl, isT_nil _ _ _ _, by simp only [World.cell?, H.b7]; rfl⟩
  | 2, _ => exact ⟨by simp only [World.cell?, H.b6]; rfl, by simp only [World.cell?, H.b6]; rfl, isT_block H.b2 (by omega), by simp only [World.cell?, H.b7]; rfl⟩
  | 3, _ => exact ⟨by simp only [World.cell?, H.b6]; rfl, by simp only [World.cell?, H.b6]; rfl, isT_two H.b3 (by omega), by simp only [World.cell?, H.b7]; rfl⟩
  | 4, _ => exact ⟨by simp only [World.cell?, H.b6]; rfl, by simp only [World.cell?, H.b6]; rfl, isT_two H.b4 (by omega), by simp only [World.cell?, H.b7]; rfl⟩
  | 5, _ => exact ⟨by simp only [World.cell?, H.b6]; rfl, by simp only [World.cell?, H.b6]; rfl, isT_block H.b5 (by omega), by simp only [World.cell?, H.b7]; rfl⟩
theorem PerAt.cell01 {w : World} {g : Nat} {N : ByteArray} (h : PerAt w g N) : w.cell? ⟨g, 0, none⟩ = some (.string ⟨#[99, 110]⟩) ∧ w.cell? ⟨g, 1, none⟩ = some (.slice (some ⟨g - 3, 0, none⟩) 1 1) :=
  ⟨by simp only [World.cell?, h.b4]; rfl, by simp only [World.cell?, h.b4]; rfl⟩

/-- The entry of three attributes, whichever way it was made. -/
def XAt (W7 : World) (E : ByteArray) (L : List AT) (wx : World) (b : Nat) (u : Value) : Prop := W7.heap.size ≤ b ∧ b < wx.heap.size ∧ BoxN wx b E u ∧ IsA wx.heap.size wx L u ∧ Below W7.heap.size W7 wx
theorem XAt.drew {W7 wx : World} {E : ByteArray} {L : List AT} {b : Nat} {u : Value} (h : XAt W7 E L wx b u) : XAt W7 E L wx.drew b u := ⟨h.1, h.2.1, h.2.2.1, h.2.2.2.1, h.2.2.2.2.drew⟩
theorem XAt.from {W7 wx : World} {E : ByteArray} {L : List AT} {b : Nat} {u : Value} (h : XAt W7.drew E L wx b u) : XAt W7 E L wx b u := ⟨h.1, h.2.1, h.2.2.1, h.2.2.2.1, (Below.refl W7.heap.size W7).drew.trans h.2.2.2.2⟩
/-- What lies below is as it was. -/
def At9 (w9 w : World) : Prop := Below w9.heap.size w9 w
theorem At9.go {w9 w w' : World} (h : At9 w9 w) (hb : Below w.heap.size w w') : At9 w9 w' := bthen h hb
theorem At9.mono {w9 w : World} (h : At9 w9 w) {n : Nat} (hn : n ≤ w9.heap.size) : Below n w9 w := Below.mono h hn
theorem At9.size {w9 w : World} (h : At9 w9 w) : w9.heap.size ≤ w.heap.size := Below.size h
theorem At9.cell {w9 w : World} (h : At9 w9 w) {p : Addr} (hp : p.block < w9.heap.size) : w.cell? p = w9.cell? p := Below.cell h hp
/-- Three attributes in a block. -/
abbrev C6 (N1 N2 N3 : ByteArray) (v1 v2 v3 : Value) : Obj := .cells #[.string N1, v1, .string N2, v2, .string N3, v3] 42
theorem isA_three {w : World} {c n0 : Nat} {N1 N2 N3 : ByteArray} {v1 v2 v3 : Value} {A1 A2 A3 : List (List UInt8)} (h : w.heap[c]? = some (.cells #[.string N1, v1, .string N2, v2, .string N3, v3] 42 (0, 0))) (hc : c < n0) (h1 : IsT n0 w A1 v1) (h2 : IsT n0 w A2 v2) (h3 : IsT n0 w A3 v3) :
    IsA n0 w [(N1.data.toList, A1), (N2.data.toList, A2), (N3.data.toList, A3)] (.slice (some ⟨c, 0, none⟩) 3 3) := by
  refine ⟨_, _, rfl, by unfold maxLen; simp, fun j hj => ?_⟩
  match j, hj with
  | 0, _ => exact ⟨c, 0, _, rfl, hc, by show _ = some (strV N1.data.toList); rw [strV_whole]; simp only [World.cell?, h]; rfl, by simp only [World.cell?, h]; rfl, h1⟩
  | 1, _ => exact ⟨c, 0, _, rfl, hc, by show _ = some (strV N2.data.toList); rw [strV_whole]; simp only [World.cell?, h]; rfl, by simp only [World.cell?, h]; rfl, h2⟩
  | 2, _ => exact ⟨c, 0, _, rfl, hc, by show _ = some (strV N3.data.toList); rw [strV_whole]; simp only [World.cell?, h]; rfl, by simp only [World.cell?, h]; rfl, h3⟩
theorem x_one {W : World} {E N1 N2 N3 : ByteArray} {v1 v2 v3 : Value} {A1 A2 A3 : List (List UInt8)} (h1 : IsT W.heap.size W A1 v1) (h2 : IsT W.heap.size W A2 v2) (h3 : IsT W.heap.size W A3 v3) :
    XAt W E [(N1.data.toList, A1), (N2.data.toList, A2), (N3.data.toList, A3)] ((W.alloc (C6 N1 N2 N3 v1 v2 v3)).alloc (.cells #[.string E, .slice (some ⟨W.heap.size, 0, none⟩) 3 3] 24)) (W.heap.size + 1) (.slice (some ⟨W.heap.size, 0, none⟩) 3 3) := by
  have e0 := heap_alloc_new W (.cells #[.string N1, v1, .string N2, v2, .string N3, v3] 42)
  have l0 : Below W.heap.size W (W.alloc (C6 N1 N2 N3 v1 v2 v3)) := (Below.refl _ _).alloc (Nat.le_refl _) _
  have s0 : (W.alloc (C6 N1 N2 N3 v1 v2 v3)).heap.size = W.heap.size + 1 := by simp
  generalize W.alloc (C6 N1 N2 N3 v1 v2 v3) = W0 at e0 l0 s0 ⊢
  have e1 := boxN_new W0 E (.slice (some ⟨W.heap.size, 0, none⟩) 3 3)
  have l1 : Below W0.heap.size W0 (W0.alloc (.cells #[.string E, .slice (some ⟨W.heap.size, 0, none⟩) 3 3] 24)) := (Below.refl _ _).alloc (Nat.le_refl _) _
  have s1 : (W0.alloc (.cells #[.string E, .slice (some ⟨W.heap.size, 0, none⟩) 3 3] 24)).heap.size = W0.heap.size + 1 := by simp
  rw [s0] at e1
  generalize W0.alloc (.cells #[.string E, .slice (some ⟨W.heap.size, 0, none⟩) 3 3] 24) = W1 at e1 l1 s1 ⊢
  have hb : Below W.heap.size W W1 := l0.trans (l1.mono (by omega))
  exact ⟨by omega, by omega, e1, isA_three ((l1.block _ (by omega)).trans e0) (by omega) (h1.below hb hb.size) (h2.below hb hb.size) (h3.below hb hb.size), hb⟩
theorem x_two {W : World} {E N1 N2 N3 : ByteArray} {v1 v2 v3 : Value} {A1 A2 A3 : List (List UInt8)} (h1 : IsT W.heap.size W A1 v1) (h2 : IsT W.heap.size W A2 v2) (h3 : IsT W.heap.size W A3 v3) :
    XAt W E [(N1.data.toList, A1), (N2.data.toList, A2), (N3.data.toList, A3)] ((W.alloc (.cells #[.string E, .slice (some ⟨W.heap.size + 1, 0, none⟩) 3 3] 24)).alloc (C6 N1 N2 N3 v1 v2 v3)) W.heap.size (.slice (some ⟨W.heap.size + 1, 0, none⟩) 3 3) := by
  have e0 := boxN_new W E (.slice (some ⟨W.heap.size + 1, 0, none⟩) 3 3)
  have l0 : Below W.heap.size W (W.alloc (.cells #[.string E, .slice (some ⟨W.heap.size + 1, 0, none⟩) 3 3] 24)) := (Below.refl _ _).alloc (Nat.le_refl _) _
  have s0 : (W.alloc (.cells #[.string E, .slice (some ⟨W.heap.size + 1, 0, none⟩) 3 3] 24)).heap.size = W.heap.size + 1 := by simp
  generalize W.alloc (.cells #[.string E, .slice (some ⟨W.heap.size + 1, 0, none⟩) 3 3] 24) = W0 at e0 l0 s0 ⊢
  have e1 := heap_alloc_new W0 (.cells #[.string N1, v1, .string N2, v2, .string N3, v3] 42)
  have l1 : Below W0.heap.size W0 (W0.alloc (C6 N1 N2 N3 v1 v2 v3)) := (Below.refl _ _).alloc (Nat.le_refl _) _
  have s1 : (W0.alloc (C6 N1 N2 N3 v1 v2 v3)).heap.size = W0.heap.size + 1 := by simp
  rw [s0] at e1
  generalize W0.alloc (C6 N1 N2 N3 v1 v2 v3) = W1 at e1 l1 s1 ⊢
  have hb : Below W.heap.size W W1 := l0.trans (l1.mono (by omega))
  exact ⟨Nat.le_refl _, by omega, e0.below l1 (by omega), isA_three e1 (by omega) (h1.below hb hb.size) (h2.below hb hb.size) (h3.below hb hb.size), hb⟩

theorem heap3 (W : World) (a b c : Array Value) (ta tb tc : TypeId) : (((W.alloc (.cells a ta)).alloc (.cells b tb)).alloc (.cells c tc)).heap[W.heap.size]? = some (.cells a ta (0, 0)) ∧ (((W.alloc (.cells a ta)).alloc (.cells b tb)).alloc (.cells c tc)).heap[W.heap.size + 1]? = some (.cells b tb (0, 0)) ∧ (((W.alloc (.cells a ta)).alloc (.cells b tb)).alloc (.cells c tc)).heap[W.heap.size + 2]? = some (.cells c tc (0, 0)) ∧ Below W.heap.size W (((W.alloc (.cells a ta)).alloc (.cells b tb)).alloc (.cells c tc)) ∧ (((W.alloc (.cells a ta)).alloc (.cells b tb)).alloc (.cells c tc)).heap.size = W.heap.size + 3 := by
  have e0 := heap_alloc_new W (.cells a ta)
  have l0 : Below W.heap.size W (W.alloc (.cells a ta)) := (Below.refl _ _).alloc (Nat.le_refl _) _
  have s0 : (W.alloc (.cells a ta)).heap.size = W.heap.size + 1 := by simp
  generalize W.alloc (.cells a ta) = W0 at e0 l0 s0 ⊢
  have e1 := heap_alloc_new W0 (.cells b tb)
  have l1 : Below W0.heap.size W0 (W0.alloc (.cells b tb)) := (Below.refl _ _).alloc (Nat.le_refl _) _
  have s1 : (W0.alloc (.cells b tb)).heap.size = W0.heap.size + 1 := by simp
  rw [s0] at e1
  generalize W0.alloc (.cells b tb) = W1 at e1 l1 s1 ⊢
  have e2 := heap_alloc_new W1 (.cells c tc)
  have l2 : Below W1.heap.size W1 (W1.alloc (.cells c tc)) := (Below.refl _ _).alloc (Nat.le_refl _) _
  have s2 : (W1.alloc (.cells c tc)).heap.size = W1.heap.size + 1 := by simp
  rw [s1, s0] at e2
  generalize W1.alloc (.cells c tc) = W2 at e2 l2 s2 ⊢
  exact ⟨(l2.block _ (by omega)).trans ((l1.block _ (by omega)).trans e0), (l2.block _ (by omega)).trans e1, e2, l0.trans ((l1.mono (by omega)).trans (l2.mono (by omega))), by omega⟩
theorem isA_ou {w : World} {c g q : Nat} {P : ByteArray} (hp : PerAt w g P) (h : w.heap[c]? = some (.cells #[.string ⟨#[99, 110]⟩, .slice (some ⟨g - 3, 0, none⟩) 1 1, .string ⟨#[111, 98, 106, 101, 99, 116, 99, 108, 97, 115, 115]⟩, .slice (some ⟨g - 2, 0, none⟩) 1 1, .string ⟨#[115, 110]⟩, .slice (some ⟨g - 1, 0, none⟩) 1 1, .string ⟨#[111, 117]⟩, .slice (some ⟨q, 0, none⟩) 1 1] 42 (0, 0))) (hq : w.heap[q]? = some (.cells #[.string ⟨#[97]⟩] 9 (0, 0))) (hc : c < w.heap.size) (hqs : q < w.heap.size) :
    IsA w.heap.size w (perL P.data.toList ++ [ouA]) (.slice (some ⟨c, 0, none⟩) 4 4) := by
  have hg := hp.lt
  refine ⟨_, _, rfl, by unfold maxLen perL ouA; simp, fun j hj => ?_⟩
  match j, hj with
  | 0, _ => exact ⟨c, 0, _, rfl, hc, by simp only [World.cell?, h]; rfl, by simp only [World.cell?, h]; rfl, isT_block hp.b1 (by omega)⟩
  | 1, _ => exact ⟨c, 0, _, rfl, hc, by simp only [World.cell?, h]; rfl, by simp only [World.cell?, h]; rfl, isT_block hp.b2 (by omega)⟩
  | 2, _ => exact ⟨c, 0, _, rfl, hc, by simp only [World.cell?, h]; rfl, by simp only [World.cell?, h]; rfl, isT_block hp.b3 (by omega)⟩
  | 3, _ => exact ⟨c, 0, _, rfl, hc, by simp only [World.cell?, h]; rfl, by simp only [World.cell?, h]; rfl, isT_block hq hqs⟩
abbrev C8 (g q : Nat) : Array Value := #[.string ⟨#[99, 110]⟩, .slice (some ⟨g - 3, 0, none⟩) 1 1, .string ⟨#[111, 98, 106, 101, 99, 116, 99, 108, 97, 115, 115]⟩, .slice (some ⟨g - 2, 0, none⟩) 1 1, .string ⟨#[115, 110]⟩, .slice (some ⟨g - 1, 0, none⟩) 1 1, .string ⟨#[111, 117]⟩, .slice (some ⟨q, 0, none⟩) 1 1]
theorem z_one {W : World} {E P : ByteArray} {g : Nat} (hp : PerAt W g P) : XAt W E (perL P.data.toList ++ [ouA]) (((W.alloc (.cells #[.string ⟨#[97]⟩] 9)).alloc (.cells (C8 g W.heap.size) 42)).alloc (.cells #[.string E, .slice (some ⟨W.heap.size + 1, 0, none⟩) 4 4] 24)) (W.heap.size + 1 + 1) (.slice (some ⟨W.heap.size + 1, 0, none⟩) 4 4) := by
  obtain ⟨a, b, c, d, e⟩ := heap3 W #[.string ⟨#[97]⟩] (C8 g W.heap.size) #[.string E, .slice (some ⟨W.heap.size + 1, 0, none⟩) 4 4] 9 42 24
  exact ⟨by omega, by omega, c, isA_ou (hp.below d hp.lt) b a (by omega) (by omega), d⟩
theorem z_two {W : World} {E P : ByteArray} {g : Nat} (hp : PerAt W g P) : XAt W E (perL P.data.toList ++ [ouA]) (((W.alloc (.cells #[.string ⟨#[97]⟩] 9)).alloc (.cells #[.string E, .slice (some ⟨W.heap.size + 1 + 1, 0, none⟩) 4 4] 24)).alloc (.cells (C8 g W.heap.size) 42)) (W.heap.size + 1) (.slice (some ⟨W.heap.size + 1 + 1, 0, none⟩) 4 4) := by
  obtain ⟨a, b, c, d, e⟩ := heap3 W #[.string ⟨#[97]⟩] #[.string E, .slice (some ⟨W.heap.size + 1 + 1, 0, none⟩) 4 4] (C8 g W.heap.size) 9 24 42
  exact ⟨by omega, by omega, b, isA_ou (hp.below d hp.lt) c a (by omega) (by omega), d⟩
theorem z_three {W : World} {E P : ByteArray} {g : Nat} (hp : PerAt W g P) : XAt W E (perL P.data.toList ++ [ouA]) (((W.alloc (.cells #[.string E, .slice (some ⟨W.heap.size + 1 + 1, 0, none⟩) 4 4] 24)).alloc (.cells #[.string ⟨#[97]⟩] 9)).alloc (.cells (C8 g (W.heap.size + 1)) 42)) W.heap.size (.slice (some ⟨W.heap.size + 1 + 1, 0, none⟩) 4 4) := by
  obtain ⟨a, b, c, d, e⟩ := heap3 W #[.string E, .slice (some ⟨W.heap.size + 1 + 1, 0, none⟩) 4 4] #[.string ⟨#[97]⟩] (C8 g (W.heap.size + 1)) 24 9 42
  exact ⟨by omega, by omega, a, isA_ou (hp.below d hp.lt) c b (by omega) (by omega), d⟩

end Go.Proofs.YtofmpaphafhdpaaGreatDoor

/- The document's Classes, FindClass: the walks. -/
namespace Go.Proofs.YtofmpaphafhdpaaGreatDoor
open Go.RowKit
set_option linter.unusedVariables false

/-- Blocks that are made one behind the other. -/
def allocs (w : World) (os : List Obj) : World := os.foldl World.alloc w
theorem allocs_old : ∀ (os : List Obj) (w : World) (k : Nat), k < w.heap.size → (allocs w os).heap[k]? = w.heap[k]?
  | [], w, k, _ => rfl
  | o :: os, w, k, h => (allocs_old os (w.alloc o) k (by simp; omega)).trans (heap_alloc_old w o h)
theorem allocs_at : ∀ (os : List Obj) (w : World) (i : Nat) (o : Obj), os[i]? = some o → (allocs w os).heap[w.heap.size + i]? = some o
  | [], w, i, o, h => by simp at h
  | x :: os, w, 0, o, h => by
    have e : x = o := by simpa using h
    subst e
    exact (allocs_old os (w.alloc x) _ (by simp)).trans (heap_alloc_new w x)
  | x :: os, w, i + 1, o, h => by
    have := allocs_at os (w.alloc x) i o (by simpa using h)
    rw [World.size_alloc] at this
    rw [show w.heap.size + (i + 1) = w.heap.size + 1 + i from by omega]
    exact this
theorem allocs_below : ∀ (os : List Obj) (w : World), Below w.heap.size w (allocs w os)
  | [], w => Below.refl _ _
  | o :: os, w => ((Below.refl _ _).alloc (Nat.le_refl _) o).trans ((allocs_below os (w.alloc o)).mono (by simp))
theorem allocs_size : ∀ (os : List Obj) (w : World), (allocs w os).heap.size = w.heap.size + os.length
  | [], w => rfl
  | o :: os, w => by
    show (allocs (w.alloc o) os).heap.size = _
    rw [allocs_size os (w.alloc o), World.size_alloc, List.length_cons]
    omega

abbrev oneT (x : List UInt8) : Obj := .cells #[.string ⟨x.toArray⟩] 9
abbrev twoT (x y : List UInt8) : Obj := .cells #[.string ⟨x.toArray⟩, .string ⟨y.toArray⟩] 9
def desB : List UInt8 := [100, 101, 115, 99, 114, 105, 112, 116, 105, 111, 110]
def clsO (h : Nat) : List Obj := [oneT objB, oneT [111], oneT desB, oneT [111, 117], oneT desB, twoT [99, 110] [115, 110], twoT desB [117, 115, 101, 114, 112, 97, 115, 115, 119, 111, 114, 100], twoT [117, 105, 100] [109, 97, 105, 108], twoT [117, 105, 100] [117, 105, 100, 110, 117, 109, 98, 101, 114], twoT [99, 110] [109, 101, 109, 98, 101, 114], oneT desB,
  .cells #[.string ⟨#[116, 111, 112]⟩, .string ⟨#[]⟩, .bool false, .slice (some ⟨h, 0, none⟩) 1 1, .slice none 0 0,
    .string ⟨#[111, 114, 103, 97, 110, 105, 122, 97, 116, 105, 111, 110]⟩, .string ⟨#[116, 111, 112]⟩, .bool true, .slice (some ⟨h + 1, 0, none⟩) 1 1, .slice (some ⟨h + 2, 0, none⟩) 1 1,
    .string ⟨#[111, 114, 103, 97, 110, 105, 122, 97, 116, 105, 111, 110, 97, 108, 117, 110, 105, 116]⟩, .string ⟨#[116, 111, 112]⟩, .bool true, .slice (some ⟨h + 3, 0, none⟩) 1 1, .slice (some ⟨h + 4, 0, none⟩) 1 1,
    .string ⟨#[112, 101, 114, 115, 111, 110]⟩, .string ⟨#[116, 111, 112]⟩, .bool true, .slice (some ⟨h + 5, 0, none⟩) 2 2, .slice (some ⟨h + 6, 0, none⟩) 2 2,
    .string ⟨#[105, 110, 101, 116, 111, 114, 103, 112, 101, 114, 115, 111, 110]⟩, .string ⟨#[112, 101, 114, 115, 111, 110]⟩, .bool true, .slice none 0 0, .slice (some ⟨h + 7, 0, none⟩) 2 2,
    .string ⟨#[112, 111, 115, 105, 120]⟩, .string ⟨#[116, 111, 112]⟩, .bool false, .slice (some ⟨h + 8, 0, none⟩) 2 2, .slice none 0 0,
    .string ⟨#[103, 114, 111, 117, 112, 111, 102, 110, 97, 109, 101, 115]⟩, .string ⟨#[116, 111, 112]⟩, .bool true, .slice (some ⟨h + 9, 0, none⟩) 2 2, .slice (some ⟨h + 10, 0, none⟩) 1 1] 29]
theorem isTo_one' {ok : Nat → Prop} {w : World} {b : Nat} {x : List UInt8} (h : w.heap[b]? = some (oneT x)) (hn : ok b) : IsTo ok w [x] (.slice (some ⟨b, 0, none⟩) 1 1) :=
  ⟨_, _, rfl, by unfold maxLen; simp, fun j hj => by
    have : j = 0 := by simp at hj; omega
    subst this
    exact ⟨b, 0, rfl, hn, by simp only [World.cell?, h]; rfl⟩⟩
theorem isTo_two' {ok : Nat → Prop} {w : World} {b : Nat} {x y : List UInt8} (h : w.heap[b]? = some (twoT x y)) (hn : ok b) : IsTo ok w [x, y] (.slice (some ⟨b, 0, none⟩) 2 2) :=
  ⟨_, _, rfl, by unfold maxLen; simp, fun j hj => by
    match j, hj with
    | 0, _ => exact ⟨b, 0, rfl, hn, by simp only [World.cell?, h]; rfl⟩
    | 1, _ => exact ⟨b, 0, rfl, hn, by simp only [World.cell?, h]; rfl⟩⟩
theorem isTo_nil' (ok : Nat → Prop) (w : World) : IsTo ok w [] (.slice none 0 0) := ⟨_, _, rfl, Nat.zero_le _, fun j h => absurd h (by simp)⟩

/-- The document's classes, in the block b. -/
def IsKN (B : Nat) (w : World) (b : Nat) : Prop := b < w.heap.size ∧ ∀ j (h : j < classL.length), ∃ u1 u2, w.cell? ⟨b, j * 5, none⟩ = some (strV classL[j].name) ∧ w.cell? ⟨b, j * 5 + 1, none⟩ = some (strV classL[j].sup) ∧ w.cell? ⟨b, j * 5 + 2, none⟩ = some (.bool classL[j].st) ∧
  w.cell? ⟨b, j * 5 + 3, none⟩ = some u1 ∧ w.cell? ⟨b, j * 5 + 4, none⟩ = some u2 ∧ IsTo (New B w) w classL[j].mustL u1 ∧ IsTo (New B w) w classL[j].mayL u2
theorem cls_isK (w : World) : IsKN w.heap.size (allocs w (clsO w.heap.size)) (w.heap.size + 11) := by
  have hs : (allocs w (clsO w.heap.size)).heap.size = w.heap.size + 12 := allocs_size _ w
  have ha := fun i o (h : (clsO w.heap.size)[i]? = some o) => allocs_at (clsO w.heap.size) w i o h
  have b0 := ha 0 _ rfl
  have b1 := ha 1 _ rfl
  have b2 := ha 2 _ rfl
  have b3 := ha 3 _ rfl
  have b4 := ha 4 _ rfl
  have b5 := ha 5 _ rfl
  have b6 := ha 6 _ rfl
  have b7 := ha 7 _ rfl
  have b8 := ha 8 _ rfl
  have b9 := ha 9 _ rfl
  have b10 := ha 10 _ rfl
  have b11 := ha 11 _ rfl
  clear ha
  generalize allocs w (clsO w.heap.size) = W at *
  generalize w.heap.size = h at *
  have hn : ∀ k, k < 12 → New h W (h + k) := fun k hk => ⟨by omega, by omega⟩
  refine ⟨by omega, fun j hj => ?_⟩
  match j, hj with
  | 0, _ => exact ⟨_, _, by simp only [World.cell?, b11]; rfl, by simp only [World.cell?, b11]; rfl, by simp only [World.cell?, b11]; rfl, by simp only [World.cell?, b11]; rfl, by simp only [World.cell?, b11]; rfl, isTo_one' b0 (hn 0 (by omega)), isTo_nil' _ _⟩
  | 1, _ => exact ⟨_, _, by simp only [World.cell?, b11]; rfl, by simp only [World.cell?, b11]; rfl, by simp only [World.cell?, b11]; rfl, by simp only [World.cell?, b11]; rfl, by simp only [World.cell?, b11]; rfl, isTo_one' b1 (hn 1 (by omega)), isTo_one' b2 (hn 2 (by omega))⟩
  | 2, _ => exact ⟨_, _, by simp only [World.cell?, b11]; rfl, by simp only [World.cell?, b11]; rfl, by simp only [World.cell?, b11]; rfl, by simp only [World.cell?, b11]; rfl, by simp only [World.cell?, b11]; rfl, isTo_one' b3 (hn 3 (by omega)), isTo_one' b4 (hn 4 (by omega))⟩
  | 3, _ => exact ⟨_, _, by simp only [World.cell?, b11]; rfl, by simp only [World.cell?, b11]; rfl, by simp only [World.cell?, b11]; rfl, by simp only [World.cell?, b11]; rfl, by simp only [World.cell?, b11]; rfl, isTo_two' b5 (hn 5 (by omega)), isTo_two' b6 (hn 6 (by omega))⟩
  | 4, _ => exact ⟨_, _, by simp only [World.cell?, b11]; rfl, by simp only [World.cell?, b11]; rfl, by simp only [World.cell?, b11]; rfl, by simp only [World.cell?, b11]; rfl, by simp only [World.cell?, b11]; rfl, isTo_nil' _ _, isTo_two' b7 (hn 7 (by omega))⟩
  | 5, _ => exact ⟨_, _, by simp only [World.cell?, b11]; rfl, by simp only [World.cell?, b11]; rfl, by simp only [World.cell?, b11]; rfl, by simp only [World.cell?, b11]; rfl, by simp only [World.cell?, b11]; rfl, isTo_two' b8 (hn 8 (by omega)), isTo_nil' _ _⟩
  | 6, _ => exact ⟨_, _, by simp only [World.cell?, b11]; rfl, by simp only [World.cell?, b11]; rfl, by simp only [World.cell?, b11]; rfl, by simp only [World.cell?, b11]; rfl, by simp only [World.cell?, b11]; rfl, isTo_two' b9 (hn 9 (by omega)), isTo_one' b10 (hn 10 (by omega))⟩

set_option maxRecDepth 100000 in
set_option maxHeartbeats 4000000 in
theorem classesRef_any (w : World) : Calls Tryz.prog 35 #[] w fun e w' => ∃ b, e = .returned (.slice (some ⟨b, 0, none⟩) 7 7) ∧ IsKN w.heap.size w' b ∧ Below w.heap.size w w' := by
  have HK := Lib.hid (cls_isK w)
  have HB := Lib.hid (allocs_below (clsO w.heap.size) w)
  go_enter Tryz.func35, Tryz.ntmps35
  go_wp2
  go_ret
  exact ⟨w.heap.size + 11, rfl, HK.out, HB.out⟩

/-- A class that was found, and that it was. -/
def FndR (w : World) (o : Option CT) (e : Ending) (w' : World) : Prop := Below w.heap.size w w' ∧ match o with
  | none => e = .returned (.agg #[.string ⟨#[]⟩, .string ⟨#[]⟩, .bool false, .slice none 0 0, .slice none 0 0, .bool false])
  | some c => ∃ u1 u2, e = .returned (.agg #[strV c.name, strV c.sup, .bool c.st, u1, u2, .bool true]) ∧ IsTo (New w.heap.size w') w' c.mustL u1 ∧ IsTo (New w.heap.size w') w' c.mayL u2

abbrev set6 (w : World) (b : Nat) (x0 x1 x2 x3 x4 x5 : Value) : World := (set5 w b x0 x1 x2 x3 x4).setCell ⟨b, 5, none⟩ x5
def BoxF (w : World) (b : Nat) (x0 x1 x2 x3 x4 x5 : Value) : Prop := w.heap[b]? = some (.cells #[x0, x1, x2, x3, x4, x5] 33 (0, 0))
theorem BoxF.below {w w' : World} {b n : Nat} {x0 x1 x2 x3 x4 x5 : Value} (h : BoxF w b x0 x1 x2 x3 x4 x5) (hb : Below n w w') (hn : b < n) : BoxF w' b x0 x1 x2 x3 x4 x5 := (hb.block b hn).trans h
theorem BoxF.cells {w : World} {b : Nat} {x0 x1 x2 x3 x4 x5 : Value} (h : BoxF w b x0 x1 x2 x3 x4 x5) : w.cell? ⟨b, 0, none⟩ = some x0 ∧ w.cell? ⟨b, 1, none⟩ = some x1 ∧ w.cell? ⟨b, 2, none⟩ = some x2 ∧ w.cell? ⟨b, 3, none⟩ = some x3 ∧ w.cell? ⟨b, 4, none⟩ = some x4 ∧ w.cell? ⟨b, 5, none⟩ = some x5 := by
  unfold BoxF at h
  simp [World.cell?, h]
theorem BoxF.frozen {w : World} {b : Nat} {x0 x1 x2 x3 x4 x5 : Value} (h : BoxF w b x0 x1 x2 x3 x4 x5) : w.frozen? ⟨b, 0, none⟩ = false ∧ w.frozen? ⟨b, 1, none⟩ = false ∧ w.frozen? ⟨b, 2, none⟩ = false ∧ w.frozen? ⟨b, 3, none⟩ = false ∧ w.frozen? ⟨b, 4, none⟩ = false ∧ w.frozen? ⟨b, 5, none⟩ = false := by
  unfold BoxF at h
  simp [World.frozen?, h]
theorem boxF_new (w : World) (x0 x1 x2 x3 x4 x5 : Value) : BoxF (w.alloc (.cells #[x0, x1, x2, x3, x4, x5] 33)) w.heap.size x0 x1 x2 x3 x4 x5 := heap_alloc_new w _
theorem BoxF.store {w : World} {b : Nat} {x0 x1 x2 x3 x4 x5 : Value} (h : BoxF w b x0 x1 x2 x3 x4 x5) (y0 y1 y2 y3 y4 y5 : Value) : BoxF (set6 w b y0 y1 y2 y3 y4 y5) b y0 y1 y2 y3 y4 y5 := by
  unfold BoxF at h ⊢
  simp [World.setCell, Array.getElem?_modify, h]
theorem set6_cell (w : World) (b : Nat) (x0 x1 x2 x3 x4 x5 : Value) {k : Nat} (o : Nat) (h : k ≠ b) : (set6 w b x0 x1 x2 x3 x4 x5).cell? ⟨k, o, none⟩ = w.cell? ⟨k, o, none⟩ :=
  (cell_ne _ ⟨b, 5, none⟩ x5 o h).trans (set5_cell w b x0 x1 x2 x3 x4 o h)
theorem set6_below {n b : Nat} {w w' : World} (h : Below n w w') (hb : n ≤ b) (x0 x1 x2 x3 x4 x5 : Value) : Below n w (set6 w' b x0 x1 x2 x3 x4 x5) := (set5_below h hb x0 x1 x2 x3 x4).setCell hb _
theorem set6_size (w : World) (b : Nat) (x0 x1 x2 x3 x4 x5 : Value) : (set6 w b x0 x1 x2 x3 x4 x5).heap.size = w.heap.size := by simp [set6, set5, World.setCell]
theorem isTo_set6 {B : Nat} {w : World} {L : List (List UInt8)} {v : Value} (h : IsTo (New B w) w L v) {b : Nat} (hb : b < B) {B' : Nat} (hB : B' ≤ B) (x0 x1 x2 x3 x4 x5 : Value) : IsTo (New B' (set6 w b x0 x1 x2 x3 x4 x5)) (set6 w b x0 x1 x2 x3 x4 x5) L v :=
  h.imp (fun k hk => ⟨Nat.le_trans hB hk.1, by rw [set6_size]; exact hk.2⟩) (fun k o hk => set6_cell w b x0 x1 x2 x3 x4 x5 o (by have := hk.1; omega))

set_option maxRecDepth 100000 in
set_option maxHeartbeats 4000000 in
theorem findClassRef_any (n : ByteArray) (hn : n.size ≤ 281474976710656) (w : World) : Calls Tryz.prog 12 #[.string n] w (FndR w (findC (low n.data.toList))) := by
  obtain ⟨R, hR⟩ : ∃ R, R = findC (low n.data.toList) := ⟨_, rfl⟩
  rw [← hR]
  have HLt := Lib.hid (fun W => lowerRef_any n W hn)
  obtain ⟨T, hT⟩ : ∃ T, T = lowB n := ⟨_, rfl⟩
  have hTl : T.data.toList = low n.data.toList := by rw [hT, lowB_list]
  rw [← hT] at HLt
  rw [← hTl] at hR
  have HR := Lib.hid hR
  obtain ⟨W0, hW0⟩ : ∃ W0, W0 = w.alloc (.cells #[.string ⟨#[]⟩, .string ⟨#[]⟩, .bool false, .slice none 0 0, .slice none 0 0, .bool false] 33) := ⟨_, rfl⟩
  have hB0 : Below w.heap.size w W0 := by rw [hW0]; exact (Below.refl _ _).alloc (Nat.le_refl _) _
  have hbx : BoxF W0 w.heap.size (.string ⟨#[]⟩) (.string ⟨#[]⟩) (.bool false) (.slice none 0 0) (.slice none 0 0) (.bool false) := by rw [hW0]; exact boxF_new _ _ _ _ _ _ _
  have hz0 : W0.heap.size = w.heap.size + 1 := by rw [hW0]; simp
  have HB0 := Lib.hid hB0
  have HBx := Lib.hid hbx
  have HW0 := Lib.hid hW0.symm
  clear hR hW0 hB0 hbx hT hTl
  go_enter Tryz.func12, Tryz.ntmps12
  go_upto_region 1 with (fail)
  rw [HW0.out]
  go_wp2_with (go_at_call 35; refine (classesRef_any _).mono ?_; rintro e w2 ⟨kb, rfl, hk, hb2⟩; have HB2 := Lib.hid hb2; have HK := Lib.hid hk; clear hk hb2)
  go_loopw [4] (fun i wr => ∃ k : Nat, k ≤ 7 ∧ i = .int .i64 k ∧ Hid (∀ i, (h : i < classL.length) → i < k → classL[i].name ≠ T.data.toList) ∧ Below w2.heap.size w2 wr) (fun i _ => 7 - (intOf i).toNat)
  case atStart => exact ⟨0, by omega, rfl, Lib.hid (fun i _ h => absurd h (by omega)), Below.refl _ _⟩
  case round =>
    obtain ⟨k, hk, rfl, HN, hb⟩ := hrel
    have hB0r : Below W0.heap.size W0 wr := HB2.out.trans (hb.mono HB2.out.size)
    have HX := Lib.hid (HBx.out.below hB0r (by omega))
    have HBr := Lib.hid hB0r
    have hsz := hB0r.size
    by_cases hlt : k < 7
    · have t1 : decide ((k : Int) < 7) = true := by simp; omega
      have ti0 : (0 : Int) ≤ (k : Int) := by omega
      have ti1 : (k : Int) < 7 := by omega
      have hkl : k < classL.length := hlt
      have hkb := HK.out.1
      obtain ⟨u1, u2, c0, c1, c2, c3, c4, hu1, hu2⟩ := HK.out.2 k hkl
      obtain ⟨xa, xn, xc, hx1⟩ := isTo_slice hu1
      subst hx1
      obtain ⟨ya, yn, yc, hx2⟩ := isTo_slice hu2
      subst hx2
      obtain ⟨X, hX⟩ : ∃ X : ByteArray, X = ⟨classL[k].name.toArray⟩ := ⟨_, rfl⟩
      obtain ⟨S, hS⟩ : ∃ X : ByteArray, X = ⟨classL[k].sup.toArray⟩ := ⟨_, rfl⟩
      obtain ⟨st, hst⟩ : ∃ b, b = classL[k].st := ⟨_, rfl⟩
      simp only [strV, ← hX, ← hS, ← hst] at c0 c1 c2
      have hn0 : ∀ b o, New W0.heap.size w2 b → wr.cell? ⟨b, o, none⟩ = w2.cell? ⟨b, o, none⟩ := fun b o hq => hb.cell (p := ⟨b, o, none⟩) hq.2
      have hv1 : IsTo (New W0.heap.size wr) wr classL[k].mustL (.slice xa xn xc) := hu1.imp (fun b hq => ⟨hq.1, Nat.lt_of_lt_of_le hq.2 hb.size⟩) hn0
      have hv2 : IsTo (New W0.heap.size wr) wr classL[k].mayL (.slice ya yn yc) := hu2.imp (fun b hq => ⟨hq.1, Nat.lt_of_lt_of_le hq.2 hb.size⟩) hn0
      have d0 := (hb.cell (p := ⟨kb, k * 5, none⟩) hkb).trans c0
      have d1 := (hb.cell (p := ⟨kb, k * 5 + 1, none⟩) hkb).trans c1
      have d2 := (hb.cell (p := ⟨kb, k * 5 + 2, none⟩) hkb).trans c2
      have d3 := (hb.cell (p := ⟨kb, k * 5 + 3, none⟩) hkb).trans c3
      have d4 := (hb.cell (p := ⟨kb, k * 5 + 4, none⟩) hkb).trans c4
      have hkr : kb < wr.heap.size := Nat.lt_of_lt_of_le hkb hb.size
      have HbR := Lib.hid hb
      have HKc : Hid (∀ wx, Below wr.heap.size wr wx → wx.cell? ⟨kb, k * 5, none⟩ = some (.string X) ∧ wx.cell? ⟨kb, k * 5 + 1, none⟩ = some (.string S) ∧ wx.cell? ⟨kb, k * 5 + 2, none⟩ = some (.bool st) ∧ wx.cell? ⟨kb, k * 5 + 3, none⟩ = some (.slice xa xn xc) ∧ wx.cell? ⟨kb, k * 5 + 4, none⟩ = some (.slice ya yn yc)) := Lib.hid (fun wx h => ⟨(h.cell (p := ⟨kb, _, none⟩) hkr).trans d0, (h.cell (p := ⟨kb, _, none⟩) hkr).trans d1, (h.cell (p := ⟨kb, _, none⟩) hkr).trans d2, (h.cell (p := ⟨kb, _, none⟩) hkr).trans d3, (h.cell (p := ⟨kb, _, none⟩) hkr).trans d4⟩)
      have HV1 := Lib.hid hv1
      have HV2 := Lib.hid hv2
      have hst0 : wr.drew.cell? ⟨kb, k * 5, none⟩ = some (.string X) := d0
      clear c0 c1 c2 c3 c4 hu1 hu2 hn0 hv1 hv2 d0 d1 d2 d3 d4 hb hB0r
      by_cases he : X = T
      · have hf : R = some classL[k] := by rw [HR.out]; exact findC_at hkl HN.out (by rw [← he, hX])
        subst he
        subst hf
        have HXX := Lib.hid hX
        have HSS := Lib.hid hS
        have HST := Lib.hid hst
        clear hX hS hst HN HR
        go_upto_region 5 with (fail)
        go_region_held3 (fun w' => w'.cell? ⟨kb, k * 5, none⟩ = some (.string X)) (first | (with_reducible exact hst0) | (with_reducible exact hst3)) (first | (go_at_call 36; ((with_reducible refine (HLt.out _).mono ?_); rintro e w3 ⟨rfl, hb3⟩); have HB3 := Lib.hid ((Below.refl wr.heap.size wr).drew.trans hb3); have hst3 := (HKc.out _ HB3.out).1; clear hb3))
        all_goals
          go_split_ands
          obtain ⟨m0, m1, m2, m3, m4⟩ := HKc.out _ HB3.out
          have HX3 := Lib.hid (HX.out.below HB3.out (by omega))
          obtain ⟨p0, p1, p2, p3, p4, p5⟩ := HX3.out.cells
          obtain ⟨n0, n1, n2, n3, n4, n5⟩ := HX3.out.frozen
          have hz3 := HB3.out.size
          have H1 := Lib.hid (isTo_go HV1.out HB3.out (Nat.le_refl _))
          have H2 := Lib.hid (isTo_go HV2.out HB3.out (Nat.le_refl _))
          go_simp
          go_wp2
          refine bodyPost_ret (v := .agg #[.string X, .string S, .bool st, .slice xa xn xc, .slice ya yn yc, .bool true]) (by
            have hbx := (HX3.out.store (.string X) (.string S) (.bool st) (.slice xa xn xc) (.slice ya yn yc) (.bool true)).cells
            obtain ⟨p0, p1, p2, p3, p4, p5⟩ := hbx
            simp [results, Tryz.results12, go_sem, p0, p1, p2, p3, p4, p5]) rfl ⟨?_, .slice xa xn xc, .slice ya yn yc, ?_, ?_, ?_⟩
          · exact set6_below (HB0.out.trans ((bthen HBr.out HB3.out).mono HB0.out.size)) (Nat.le_refl _) _ _ _ _ _ _
          · rw [HXX.out, HSS.out, HST.out]; rfl
          · exact isTo_set6 H1.out (by omega) (by omega) _ _ _ _ _ _
          · exact isTo_set6 H2.out (by omega) (by omega) _ _ _ _ _ _
      · have hne : classL[k].name ≠ T.data.toList := fun e => he (by rw [hX, e])
        have HN2 := Lib.hid (fun i (h : i < classL.length) (hi : i < k + 1) => (show classL[i].name ≠ T.data.toList from if e : i = k then by subst e; exact hne else HN.out i h (by omega)))
        have t2 := str_ne he
        clear hne hX hS hst HN HR
        go_upto_region 5 with (fail)
        go_region_held3 (fun w' => w'.cell? ⟨kb, k * 5, none⟩ = some (.string X)) (first | (with_reducible exact hst0) | (with_reducible exact hst3)) (first | (go_at_call 36; ((with_reducible refine (HLt.out _).mono ?_); rintro e w3 ⟨rfl, hb3⟩); have HB3 := Lib.hid ((Below.refl wr.heap.size wr).drew.trans hb3); have hst3 := (HKc.out _ HB3.out).1; clear hb3))
        all_goals
          go_split_ands
          go_simp
          go_wp2
          go_roundw
          case rel => exact ⟨k + 1, by omega, by go_num, HN2, HbR.out.trans (HB3.out.mono HbR.out.size)⟩
          case measure => simp [intOf]; omega
    · obtain rfl : k = 7 := by omega
      have hf : R = none := by rw [HR.out]; exact findC_no (fun i h => HN.out i h (by simpa [classL] using h))
      subst hf
      obtain ⟨m0, m1, m2, m3, m4, m5⟩ := HX.out.cells
      obtain ⟨n0, n1, n2, n3, n4, n5⟩ := HX.out.frozen
      clear HN HR
      go_wp2
      refine bodyPost_ret (v := .agg #[.string ⟨#[]⟩, .string ⟨#[]⟩, .bool false, .slice none 0 0, .slice none 0 0, .bool false]) (by
        have hbx := (HX.out.store (.string ⟨#[]⟩) (.string ⟨#[]⟩) (.bool false) (.slice none 0 0) (.slice none 0 0) (.bool false)).cells
        obtain ⟨p0, p1, p2, p3, p4, p5⟩ := hbx
        simp [results, Tryz.results12, go_sem, p0, p1, p2, p3, p4, p5]) rfl ⟨?_, rfl⟩
      exact set6_below (HB0.out.trans (HBr.out.mono HB0.out.size)) (Nat.le_refl _) _ _ _ _ _ _
end Go.Proofs.YtofmpaphafhdpaaGreatDoor

/- The document's classes: what its loops hold. -/
namespace Go.Proofs.YtofmpaphafhdpaaGreatDoor
open Go.RowKit
set_option linter.unusedVariables false

/-- 'append(l, x...)' of texts onto a row of the call's own. -/
theorem run_append_T {B : Nat} {w : World} {v : Value} {L : List (List UInt8)} (hown : OwnS B w v L) (hB : B ≤ w.heap.size) {ok : Nat → Prop} {u : Value} {M : List (List UInt8)} (hu : IsTo ok w M u) (hlen : L.length + M.length ≤ 100000) (ty : TypeId) :
    ∃ v' w', (Builtin.append_ #[27, 27] ty #[v, u]).run Tryz.prog w = .ok v' w' ∧ OwnS B w' v' (L ++ M) ∧ w.grownBy w' v.ownBlock ∧ (v'.ownBlock = v.ownBlock ∨ v'.ownBlock = some w.heap.size) ∧ Below B w w' := by
  obtain ⟨i0, hi, hz0, hz1, hz2⟩ := info_parts infoS
  obtain ⟨a, c, rfl, hm, hc⟩ := hu
  cases a with
  | none =>
    have hM : M = [] := by
      cases M with
      | nil => rfl
      | cons x l => obtain ⟨b, off, e, _⟩ := hc 0 (by simp); cases e
    subst hM
    refine ⟨v, w, ?_, by rw [List.append_nil]; exact hown, ⟨rfl, rfl, rfl, Nat.le_refl _, fun _ _ _ => rfl⟩, .inl rfl, Below.refl _ _⟩
    rcases hown.2 with ⟨rfl, hz⟩ | ⟨g, cap, cur, rfl, _, hg, hnc, _⟩
    · simp [Builtin.append_, run_underlying Tryz.underlying27, sizeOf, typeInfo, hi, Builtin.lenOf, Builtin.firstCells]
    · exact run_append_room_src (P := Tryz.prog) w 27 27 ty 9 i0 Tryz.underlying27 hi g 0 L.length cap (.slice none 0 c) 0 [] (Src.ofNil w Tryz.underlying27 c) hnc (fun j h => absurd h (by simp)) (fun j h => absurd h (by simp))
  | some ad =>
    have hcl : ∀ j x, (M.map strV)[j]? = some x → w.cell? (ad.add j) = some x := by
      intro j x hx
      have hj : j < M.length := by
        rcases Nat.lt_or_ge j M.length with h | h
        · exact h
        · rw [List.getElem?_eq_none (by simpa using h)] at hx; cases hx
      obtain ⟨b, off, e, _, h0⟩ := hc j hj
      simp only [Option.some.injEq] at e
      subst e
      have hadd : (⟨b, off, none⟩ : Addr).add j = ⟨b, off + j, none⟩ := by simp [Addr.add]
      rw [hadd, h0]
      simpa [hj] using hx
    obtain ⟨v', w', hrun, hown', hgrow, _, hat⟩ := run_append_own_at (P := Tryz.prog) w B 27 ty 9 i0 (.string ⟨#[]⟩) 1 16 Tryz.underlying27 hi hz0 hz1 hz2 rfl (by decide) v L.length (L.map strV) hown ad M.length c (M.map strV) (by simp) hcl (by intro u hu; obtain ⟨x, _, rfl⟩ := List.mem_map.1 hu; rfl) (by unfold maxLen; omega) (by omega) hB
    refine ⟨v', w', hrun, ?_, hgrow, hat, (Below.refl B w).grown hgrow hB (fun k e => (World.ownsRow.lt hown k e).1)⟩
    unfold OwnS
    rw [List.length_append, List.map_append]
    exact hown'
theorem wpList_append_T {ops : Array Oper} {rest : List Oper} {o : Oper} {a : Act} {w : World} {Q : Exit → Act → World → Prop} (hgd : o.guard = none) (sl x : Operand)
    (ho : o.op = .call { callee := .builtin .append, args := #[sl, x], argTypes := #[27, 27] })
    (B : Nat) (v u : Value) (L M : List (List UInt8)) (ok : Nat → Prop) (hs : a.eval sl = v) (hx : a.eval x = u) (hown : OwnS B w v L) (hu : IsTo ok w M u) (hlen : L.length + M.length ≤ 100000) (hB : B ≤ w.heap.size)
    (h : ∀ v' w', OwnS B w' v' (L ++ M) → w.grownBy w' v.ownBlock → (v'.ownBlock = v.ownBlock ∨ v'.ownBlock = some w.heap.size) → Below B w w' → wpList Tryz.prog ops Q rest (a.put o.dst v') w') : wpList Tryz.prog ops Q (o :: rest) a w := by
  obtain ⟨v', w', hrun, h1, h2, h3, h4⟩ := run_append_T hown hB hu hlen o.type
  exact Lib.wpList_append_run w hgd sl x _ _ ho v u hs hx v' w' hrun (h v' w' h1 h2 h3 h4)

theorem ownS_lt {B : Nat} {w : World} {v : Value} {L : List (List UInt8)} (h : OwnS B w v L) {k : Nat} (e : v.ownBlock = some k) : B ≤ k ∧ k < w.heap.size := World.ownsRow.lt h k e
theorem ownS_grown {B : Nat} {w w' : World} {v : Value} {L : List (List UInt8)} {row : Option Nat} (h : OwnS B w v L) (hg : w.grownBy w' row) (hne : ∀ k, row = some k → v.ownBlock ≠ some k) : OwnS B w' v L := by
  refine World.ownsRow.kept h hg ?_
  cases e : v.ownBlock with
  | none => exact .inl rfl
  | some k =>
    right
    intro he
    exact hne k he.symm e
theorem ownS_set6 {B g : Nat} {w : World} {v : Value} {L : List (List UInt8)} (h : OwnS B w v L) (hne : v.ownBlock ≠ some g) (x0 x1 x2 x3 x4 x5 : Value) : OwnS B (set6 w g x0 x1 x2 x3 x4 x5) v L := by
  have hb := set6_below (Below.refl 0 w) (Nat.zero_le g) x0 x1 x2 x3 x4 x5
  refine ownS_grown h (row := some g) ⟨hb.os, hb.tape, hb.output, hb.size, fun k hk hn => ?_⟩ (fun k e => by cases e; exact hne)
  have hkg : k ≠ g := fun e => hn (by rw [e])
  exact (block_ne _ ⟨g, 5, none⟩ x5 hkg).trans (set5_block w g x0 x1 x2 x3 x4 hkg)

/-- A block that is neither of the two rows nor g. -/
abbrev Ap (w : World) (mu ma : Value) (g b : Nat) : Prop := b < w.heap.size ∧ mu.ownBlock ≠ some b ∧ ma.ownBlock ≠ some b ∧ b ≠ g
/-- The two lists: each in a row of its own. -/
structure TwoS (B : Nat) (w : World) (mu ma : Value) (A : List CT) : Prop where
  om : OwnS B w mu (mustA A)
  oa : OwnS B w ma (mayA A)
  ap : ∀ k, mu.ownBlock = some k → ma.ownBlock ≠ some k
theorem TwoS.below {B : Nat} {w w' : World} {mu ma : Value} {A : List CT} (h : TwoS B w mu ma A) (hb : Below w.heap.size w w') : TwoS B w' mu ma A := ⟨ownS_below h.om hb, ownS_below h.oa hb, h.ap⟩
theorem twoS_nil (B : Nat) (w : World) : TwoS B w (.slice none 0 0) (.slice none 0 0) [] := ⟨ownS_nil _ _, ownS_nil _ _, fun k h => by cases h⟩
def ClsB (w : World) (mu ma : Value) (g : Nat) (o : Option CT) : Prop := ∃ x0 x1 x2 u1 u2, BoxF w g x0 x1 x2 u1 u2 (.bool o.isSome) ∧ match o with
  | none => True
  | some c => c ∈ classL ∧ x0 = strV c.name ∧ x1 = strV c.sup ∧ x2 = .bool c.st ∧ IsTo (Ap w mu ma g) w c.mustL u1 ∧ IsTo (Ap w mu ma g) w c.mayL u2
structure OneC (B g : Nat) (w : World) (mu ma : Value) (A : List CT) (o : Option CT) : Prop where
  two : TwoS B w mu ma A
  gB : B ≤ g
  gl : g < w.heap.size
  gm : mu.ownBlock ≠ some g
  ga : ma.ownBlock ≠ some g
  cls : ClsB w mu ma g o

theorem must_more (A : List CT) (d : CT) : mustA (A ++ [d]) = mustA A ++ d.mustL := by simp [mustA]
theorem may_more (A : List CT) (d : CT) : mayA (A ++ [d]) = mayA A ++ d.mayL := by simp [mayA]
theorem cls_len : ∀ c ∈ classL, c.mustL.length ≤ 2 ∧ c.mayL.length ≤ 2 := by
  have : (classL.all fun c => decide (c.mustL.length ≤ 2 ∧ c.mayL.length ≤ 2)) = true := by decide +kernel
  intro c hc
  simpa using List.all_eq_true.1 this c hc
theorem cls_sup : ∀ c ∈ classL, low c.sup = c.sup := by
  have : (classL.all fun c => decide (low c.sup = c.sup)) = true := by decide +kernel
  intro c hc
  simpa using List.all_eq_true.1 this c hc
theorem two_len : ∀ {A : List CT}, (∀ c ∈ A, c ∈ classL) → (mustA A).length ≤ 2 * A.length ∧ (mayA A).length ≤ 2 * A.length
  | [], _ => ⟨Nat.le_refl _, Nat.le_refl _⟩
  | c :: A, h => by
    have h1 := cls_len c (h c (by simp))
    have h2 := two_len (A := A) (fun d hd => h d (by simp [hd]))
    have e1 : mustA (c :: A) = c.mustL ++ mustA A := rfl
    have e2 : mayA (c :: A) = c.mayL ++ mayA A := rfl
    rw [e1, e2, List.length_append, List.length_append, List.length_cons]
    omega
theorem fsteps_low : ∀ (l : List UInt8) (st : List UInt8 × Bool), low st.1 = st.1 → low (l.foldl fstep st).1 = (l.foldl fstep st).1
  | [], st, h => h
  | c :: l, st, h => by
    refine fsteps_low l (fstep st c) ?_
    by_cases hc : c.toNat = 32
    · rw [fstep_blank st c hc]; exact h
    · rw [fstep_other st c hc]
      simp only [low_append, h]
      congr 1
      · congr 1
        split <;> rfl
      · show [lowC (lowC c)] = _
        rw [lowC_low]
theorem low_fold_eq (v : List UInt8) : low (fold v) = fold v := fsteps_low v _ rfl
theorem findA_small {L : List AT} (hs : smallA L) (t : List UInt8) : smallT (findA L t) := by
  unfold findA
  cases e : L.find? (fun a => low a.1 == low t) with
  | none => exact ⟨by simp, fun s h => by simp at h⟩
  | some a => exact (hs.2 a (List.mem_of_find?_eq_some e)).2
end Go.Proofs.YtofmpaphafhdpaaGreatDoor

/- The document's classes: the walk. -/
namespace Go.Proofs.YtofmpaphafhdpaaGreatDoor
open Go.RowKit
set_option linter.unusedVariables false

theorem New.ap {w w' : World} {mu ma : Value} {g b : Nat} {A : List CT} {B : Nat} (h : TwoS B w mu ma A) (hg : g < w.heap.size ∨ w'.heap.size ≤ g) (hb : New w.heap.size w' b) : Ap w' mu ma g b :=
  ⟨hb.2, fun e => by have := (ownS_lt h.om e).2; have := hb.1; omega, fun e => by have := (ownS_lt h.oa e).2; have := hb.1; omega, fun e => by have := hb.1; have := hb.2; omega⟩
/-- The class that was found is laid into a new block. -/
theorem oneC_new {B : Nat} {w w' : World} {mu ma : Value} {A : List CT} {c : CT} {x0 x1 x2 u1 u2 : Value} (h : TwoS B w mu ma A) (hB : B ≤ w.heap.size) (hb : Below w.heap.size w w') (hc : c ∈ classL) (h0 : x0 = strV c.name) (h1 : x1 = strV c.sup) (h2 : x2 = .bool c.st)
    (hu1 : IsTo (New w.heap.size w') w' c.mustL u1) (hu2 : IsTo (New w.heap.size w') w' c.mayL u2) :
    OneC B w'.heap.size (w'.alloc (.cells #[x0, x1, x2, u1, u2, .bool true] 33)) mu ma A (some c) := by
  have hs := hb.size
  have ha : Below w'.heap.size w' (w'.alloc (.cells #[x0, x1, x2, u1, u2, .bool true] 33)) := (Below.refl _ _).alloc (Nat.le_refl _) _
  have ht := (h.below hb).below ha
  have hz : (w'.alloc (.cells #[x0, x1, x2, u1, u2, .bool true] 33)).heap.size = w'.heap.size + 1 := by simp
  refine ⟨ht, by omega, by omega, fun e => by have := (ownS_lt h.om e).2; omega, fun e => by have := (ownS_lt h.oa e).2; omega, x0, x1, x2, u1, u2, boxF_new _ _ _ _ _ _ _, hc, h0, h1, h2, ?_, ?_⟩
  · exact hu1.imp (fun b hb' => by have q := New.ap h (g := w'.heap.size) (.inr (Nat.le_refl _)) hb'; exact ⟨by have := q.1; omega, q.2⟩) (fun b o hb' => ha.cell (p := ⟨b, o, none⟩) hb'.2)
  · exact hu2.imp (fun b hb' => by have q := New.ap h (g := w'.heap.size) (.inr (Nat.le_refl _)) hb'; exact ⟨by have := q.1; omega, q.2⟩) (fun b o hb' => ha.cell (p := ⟨b, o, none⟩) hb'.2)
/-- 'must = append(must, c.Must...)'. -/
theorem oneC_must {B g : Nat} {w w' : World} {mu ma mu' : Value} {A : List CT} {d : CT} {x0 x1 x2 u1 u2 : Value} (h : OneC B g w mu ma A (some d)) (hbx : BoxF w g x0 x1 x2 u1 u2 (.bool true)) (h2 : IsTo (Ap w mu ma g) w d.mayL u2)
    (hown : OwnS B w' mu' (mustA A ++ d.mustL)) (hg : w.grownBy w' mu.ownBlock) (hat : mu'.ownBlock = mu.ownBlock ∨ mu'.ownBlock = some w.heap.size) :
    OwnS B w' ma (mayA A) ∧ BoxF w' g x0 x1 x2 u1 u2 (.bool true) ∧ IsTo (Ap w' mu' ma g) w' d.mayL u2 ∧ (∀ k, mu'.ownBlock = some k → ma.ownBlock ≠ some k) ∧ mu'.ownBlock ≠ some g := by
  have hs := hg.size
  have hne : ∀ k, k < w.heap.size → mu.ownBlock ≠ some k → mu'.ownBlock ≠ some k := fun k hk hn e => by
    rcases hat with q | q
    · exact hn (by rw [← q, e])
    · rw [q] at e; have := Option.some.inj e; omega
  refine ⟨ownS_grown h.two.oa hg (fun k e => h.two.ap k e), (hg.block g h.gl (fun e => h.gm e.symm)).trans hbx, h2.imp (fun b hb => ⟨by have := hb.1; omega, hne b hb.1 hb.2.1, hb.2.2⟩) (fun b o hb => by simp only [World.cell?, hg.block b hb.1 (fun e => hb.2.1 e.symm)]), fun k e => ?_, hne g h.gl h.gm⟩
  rcases hat with q | q
  · exact h.two.ap k (by rw [← q, e])
  · rw [q] at e
    have := Option.some.inj e
    intro e2
    have := (ownS_lt h.two.oa e2).2
    omega
/-- 'may = append(may, c.May...)', and the next class. -/
theorem oneC_may {B g : Nat} {w w' : World} {mu ma ma' : Value} {A : List CT} {d : CT} {x0 x1 x2 u1 u2 : Value} (hm : OwnS B w mu (mustA A ++ d.mustL)) (ha : OwnS B w ma (mayA A)) (hap : ∀ k, mu.ownBlock = some k → ma.ownBlock ≠ some k) (hgl : g < w.heap.size) (hgm : mu.ownBlock ≠ some g) (hga : ma.ownBlock ≠ some g) (hbx : BoxF w g x0 x1 x2 u1 u2 (.bool true))
    (hown : OwnS B w' ma' (mayA A ++ d.mayL)) (hg : w.grownBy w' ma.ownBlock) (hat : ma'.ownBlock = ma.ownBlock ∨ ma'.ownBlock = some w.heap.size) :
    TwoS B w' mu ma' (A ++ [d]) ∧ BoxF w' g x0 x1 x2 u1 u2 (.bool true) ∧ ma'.ownBlock ≠ some g := by
  have hs := hg.size
  have hne : ∀ k, k < w.heap.size → ma.ownBlock ≠ some k → ma'.ownBlock ≠ some k := fun k hk hn e => by
    rcases hat with q | q
    · exact hn (by rw [← q, e])
    · rw [q] at e; have := Option.some.inj e; omega
  refine ⟨⟨by rw [must_more]; exact ownS_grown hm hg (fun k e e2 => hap k e2 e), by rw [may_more]; exact hown, fun k e => hne k (ownS_lt hm e).2 (hap k e)⟩, (hg.block g hgl (fun e => hga e.symm)).trans hbx, hne g hgl hga⟩
/-- The next class is laid into the block. -/
theorem oneC_next {B g : Nat} {w w' : World} {mu ma : Value} {A : List CT} {c : CT} {y0 y1 y2 v1 v2 y5 x0 x1 x2 u1 u2 : Value} (h : TwoS B w mu ma A) (hgB : B ≤ g) (hgl : g < w.heap.size) (hgm : mu.ownBlock ≠ some g) (hga : ma.ownBlock ≠ some g) (hb : Below w.heap.size w w') (hbx : BoxF w g y0 y1 y2 v1 v2 y5) (hc : c ∈ classL) (h0 : x0 = strV c.name) (h1 : x1 = strV c.sup) (h2 : x2 = .bool c.st)
    (hu1 : IsTo (New w.heap.size w') w' c.mustL u1) (hu2 : IsTo (New w.heap.size w') w' c.mayL u2) : OneC B g (set6 w' g x0 x1 x2 u1 u2 (.bool true)) mu ma A (some c) := by
  have hs := hb.size
  have ht := h.below hb
  have hx : BoxF w' g y0 y1 y2 v1 v2 y5 := hbx.below hb hgl
  have hcl : ∀ b o, b ≠ g → (set6 w' g x0 x1 x2 u1 u2 (.bool true)).cell? ⟨b, o, none⟩ = w'.cell? ⟨b, o, none⟩ := fun b o hb => set6_cell w' g _ _ _ _ _ _ o hb
  refine ⟨⟨ownS_set6 ht.om hgm _ _ _ _ _ _, ownS_set6 ht.oa hga _ _ _ _ _ _, h.ap⟩, hgB, by rw [set6_size]; omega, hgm, hga, x0, x1, x2, u1, u2, hx.store _ _ _ _ _ _, hc, h0, h1, h2, ?_, ?_⟩
  · exact hu1.imp (fun b hb' => by have q := New.ap h (g := g) (.inl hgl) hb'; exact ⟨by rw [set6_size]; exact q.1, q.2⟩) (fun b o hb' => hcl b o (by have := hb'.1; omega))
  · exact hu2.imp (fun b hb' => by have q := New.ap h (g := g) (.inl hgl) hb'; exact ⟨by rw [set6_size]; exact q.1, q.2⟩) (fun b o hb' => hcl b o (by have := hb'.1; omega))
theorem oneC_none {B g : Nat} {w w' : World} {mu ma : Value} {A : List CT} {y0 y1 y2 v1 v2 y5 x0 x1 x2 u1 u2 : Value} (h : TwoS B w mu ma A) (hgB : B ≤ g) (hgl : g < w.heap.size) (hgm : mu.ownBlock ≠ some g) (hga : ma.ownBlock ≠ some g) (hb : Below w.heap.size w w') (hbx : BoxF w g y0 y1 y2 v1 v2 y5) : OneC B g (set6 w' g x0 x1 x2 u1 u2 (.bool false)) mu ma A none := by
  have hs := hb.size
  have ht := h.below hb
  have hx : BoxF w' g y0 y1 y2 v1 v2 y5 := hbx.below hb hgl
  exact ⟨⟨ownS_set6 ht.om hgm _ _ _ _ _ _, ownS_set6 ht.oa hga _ _ _ _ _ _, h.ap⟩, hgB, by rw [set6_size]; omega, hgm, hga, x0, x1, x2, u1, u2, hx.store _ _ _ _ _ _, trivial⟩
end Go.Proofs.YtofmpaphafhdpaaGreatDoor

/- The document's classes: the walk. -/
namespace Go.Proofs.YtofmpaphafhdpaaGreatDoor
open Go.RowKit
set_option linter.unusedVariables false

/-- How many classes are still to come, by what lies in the class's block. -/
def rankC (f n : Option Value) : Nat := match f, n with
  | some (.bool true), some (.string x) => (chainC 3 x.data.toList).length + 1
  | _, _ => 0
theorem find_self : ∀ c ∈ classL, findC c.name = some c := by
  intro c hc
  simp only [classL, List.mem_cons, List.not_mem_nil, or_false] at hc
  rcases hc with rfl | rfl | rfl | rfl | rfl | rfl | rfl <;> rfl
theorem cls_short : ∀ c ∈ classL, c.sup.length ≤ 281474976710656 := by
  have : (classL.all fun c => decide (c.sup.length ≤ 100)) = true := by decide
  intro c hc
  have := List.all_eq_true.1 this c hc
  simp only [decide_eq_true_eq] at this
  omega
theorem cls_elem : ∀ c ∈ classL, ∀ x ∈ c.mustL, x.length ≤ 100 := by
  have : (classL.all fun c => c.mustL.all fun x => decide (x.length ≤ 100)) = true := by decide +kernel
  intro c hc x hx
  simpa using List.all_eq_true.1 (List.all_eq_true.1 this c hc) x hx
theorem drewB {w w' : World} (h : Below w.drew.heap.size w.drew w') : Below w.heap.size w w' := (Below.refl w.heap.size w).drew.trans h
theorem bthen2 {n : Nat} {w w1 w2 : World} (h : Below n w w1) (h2 : Below w1.heap.size w1 w2) : Below w.heap.size w w1 → Below w.heap.size w w2 := fun h3 => bthen h3 h2
theorem rank_some {N : ByteArray} {d : CT} (hN : N.data.toList = d.name) (hd : d ∈ classL) : rankC (some (.bool true)) (some (.string N)) = (chainC 3 d.sup).length + 2 := by
  simp only [rankC, hN, chain_step (find_self d hd), List.length_cons]
theorem rank_next {N : ByteArray} {d d2 : CT} (hN : N.data.toList = d2.name) (h : findC d.sup = some d2) : rankC (some (.bool true)) (some (.string N)) = (chainC 3 d.sup).length + 1 := by
  simp only [rankC, hN, (findC_mem h).2]

set_option maxRecDepth 100000 in
set_option maxHeartbeats 8000000 in
theorem classesDoc_any (D : ByteArray) (L : List AT) (hs : smallA L) (hS : SndAt L L.length) (v : Value) (w : World) (h : IsA w.heap.size w L v) :
    Calls Tryz.prog 44 #[.agg #[.string D, v]] w fun e w' => e = .returned (.bool (classedD (canL L))) ∧ Below w.heap.size w w' := by
  obtain ⟨a, c, hv, hm, hcell⟩ := id h
  obtain ⟨n, hn⟩ : ∃ n, n = L.length := ⟨_, rfl⟩
  rw [← hn] at hv hm
  subst hv
  unfold maxLen at hm
  obtain ⟨W0, hW0⟩ : ∃ W0, W0 = w.alloc (.cells #[.string D, .slice a n c] 24) := ⟨_, rfl⟩
  have hB0 : Below w.heap.size w W0 := by rw [hW0]; exact (Below.refl _ _).alloc (Nat.le_refl _) _
  have hbx : BoxN W0 w.heap.size D (.slice a n c) := by rw [hW0]; exact boxN_new _ _ _
  have hz0 : W0.heap.size = w.heap.size + 1 := by rw [hW0]; simp
  obtain ⟨x0, x1⟩ := hbx.cells
  have hva := valsRef_any D ⟨#[111, 98, 106, 101, 99, 116, 99, 108, 97, 115, 115]⟩ (by decide) L hs (.slice a n c) W0 (h.below hB0 hB0.size)
  rw [show (⟨#[111, 98, 106, 101, 99, 116, 99, 108, 97, 115, 115]⟩ : ByteArray).data.toList = objB from rfl] at hva
  obtain ⟨V, hV⟩ : ∃ V, V = findA L objB := ⟨_, rfl⟩
  have hVs : smallT V := by rw [hV]; exact findA_small hs _
  obtain ⟨Q, hQ⟩ : ∃ Q, Q = classedD (canL L) := ⟨_, rfl⟩
  obtain ⟨R, hR⟩ : ∃ R, R = allC V := ⟨_, rfl⟩
  obtain ⟨m, hml⟩ : ∃ m, m = V.length := ⟨_, rfl⟩
  have hm1 : m ≤ 1000 := by rw [hml]; exact hVs.1
  rw [← hV] at hva
  rw [← hQ]
  have HN := Lib.hid hn
  have HC := Lib.hid hcell
  have HS := Lib.hid hs
  have HSn := Lib.hid hS
  have HB0 := Lib.hid hB0
  have HBx := Lib.hid hbx
  have HW0 := Lib.hid hW0.symm
  have HA := Lib.hid h
  have HVa := Lib.hid hva
  have HV := Lib.hid hV
  have HVs := Lib.hid hVs
  have HQ := Lib.hid hQ
  have HR := Lib.hid hR
  have HMl := Lib.hid hml
  clear hcell hn hs hS hB0 hbx hW0 h hva hV hVs hQ hR hml
  go_enter Tryz.func44, Tryz.ntmps44
  go_upto_region 1 with (fail)
  rw [HW0.out]
  go_wp2_with (go_at_call 26; refine (HVa.out).mono ?_; rintro e w2 ⟨u, rfl, hit, hb2⟩; (obtain ⟨ua, uc, hu, hum, huc⟩ := hit); (rw [← HMl.out] at hu hum); subst hu; have HUc := Lib.hid huc; have HB2 := Lib.hid hb2; clear hb2 huc)
  unfold maxLen at hum
  have hw2 : w.heap.size < w2.heap.size := by have := HB2.out.size; omega
  go_loopw [4, 5, 6, 7] (fun u4 u5 s i wr => ∃ (mu ma : Value) (j : Nat) (A : List CT) (b : Bool), mu = u4 ∧ ma = u5 ∧ j ≤ m ∧ i = .int .i64 j ∧ s = .bool b ∧ A.length ≤ 3 * j ∧ Hid (∀ c ∈ A, c ∈ classL) ∧ Hid (allR A b (V.drop j) = R) ∧ Hid (TwoS w2.heap.size wr mu ma A) ∧ Below w2.heap.size w2 wr) (fun _ _ _ i wr => m - (intOf i).toNat)
  case atStart => exact ⟨_, _, 0, [], false, rfl, rfl, by omega, rfl, rfl, Nat.zero_le _, Lib.hid (fun c h => by simp at h), Lib.hid (by rw [List.drop_zero, allR_start]; exact HR.out.symm), Lib.hid (twoS_nil _ _), Below.refl _ _⟩
  case round =>
    obtain ⟨mu, ma, j, A, b, rfl, rfl, hj, rfl, rfl, hAl, HAc, HAr, HTwo, hbel⟩ := hrel
    rename World => wo
    have HBr := Lib.hid hbel
    by_cases hlt : j < m
    · have t1 : decide ((j : Int) < (m : Int)) = true := by simp; omega
      have t1' : decide (j < m) = true := by simpa using hlt
      have ti0 : (0 : Int) ≤ (j : Int) := by omega
      have ti1 : (j : Int) < (m : Int) := by omega
      have hlV : j < V.length := by rw [← HMl.out]; exact hlt
      obtain ⟨xb, off, rfl, hb0, c0⟩ := HUc.out j hlV
      obtain ⟨X, hX⟩ : ∃ X : ByteArray, ⟨V[j].toArray⟩ = X := ⟨_, rfl⟩
      have hXl : X.data.toList = V[j] := by rw [← hX]
      have d0 : (wo.cell? ⟨xb, off + j, none⟩) = some (.string X) := by
        rw [hbel.cell (p := ⟨xb, _, none⟩) (Nat.lt_of_lt_of_le hb0 HB2.out.size), HB2.out.cell (p := ⟨xb, _, none⟩) hb0, c0, ← hX]; rfl
      have hXs : X.size ≤ 281474976710656 := by
        have := HVs.out.2 V[j] (List.getElem_mem _)
        rw [← bytes_len, hXl]; omega
      have har := HAr.out
      rw [List.drop_eq_getElem_cons hlV] at har
      have hfo := fun W => foldRef_any X W hXs
      obtain ⟨F, hF⟩ : ∃ F, F = foldB X := ⟨_, rfl⟩
      have hFl : F.data.toList = fold V[j] := by rw [hF, ← hXl]; simp [foldB]
      have hFs : F.size ≤ 281474976710656 := by
        have := fold_len V[j]
        rw [← bytes_len, hFl]
        rw [← bytes_len, hXl] at hXs
        omega
      rw [← hF] at hfo
      have HFo := Lib.hid hfo
      have hfi := fun W => findClassRef_any F hFs W
      rw [hFl, low_fold_eq] at hfi
      cases hq : findC (fold V[j]) with
      | none =>
        rw [hq] at hfi
        rw [allR_none hq] at har
        have HE : Hid (Q = false) := Lib.hid (by rw [HQ.out]; exact classedD_none (by rw [← HV.out, ← HR.out, ← har]))
        have HFi := Lib.hid hfi
        clear hfo hfi hX hXl c0 hbel hF hFl hq har
        go_wp2_with (first
          | (go_at_call 85; refine (HFo.out _).mono ?_; rintro e w3 ⟨rfl, hb3⟩; have HB3 := Lib.hid (bthen HBr.out hb3); clear hb3)
          | (go_at_call 12; refine (HFi.out _).mono ?_; rintro e w4 hfw; (simp only [FndR] at hfw); (obtain ⟨hb4, rfl⟩ := hfw); have HB4 := Lib.hid (bthen HB3.out hb4); clear hb4))
        go_ret
        exact ⟨by rw [HE.out]; rfl, HB0.out.trans ((HB2.out.trans ((HB4.out.alloc HB4.out.size _).mono HB2.out.size)).mono HB0.out.size)⟩
      | some k =>
        rw [hq] at hfi
        rw [allR_step hq] at har
        have hkm := (findC_mem hq).1
        obtain ⟨N, hN⟩ : ∃ X : ByteArray, X = ⟨k.name.toArray⟩ := ⟨_, rfl⟩
        obtain ⟨S, hS⟩ : ∃ X : ByteArray, X = ⟨k.sup.toArray⟩ := ⟨_, rfl⟩
        obtain ⟨T, hT⟩ : ∃ T, T = A ++ chainC 3 (fold V[j]) := ⟨_, rfl⟩
        have hTl : T.length ≤ A.length + 3 := by rw [hT, List.length_append]; have := chain_len (fold V[j]) 3; omega
        have hT2 : A ++ restC (some k) = T := by rw [hT, ← rest_find, hq]
        rw [← hT] at har
        have HFi := Lib.hid hfi
        have HAr2 := Lib.hid har
        have HT2 := Lib.hid hT2
        have HKm := Lib.hid hkm
        have HNe := Lib.hid hN
        have HSe := Lib.hid hS
        clear hfo hfi hX hXl c0 hbel hF hFl hq har hT hT2 hkm hN hS HAr
        obtain ⟨kst, hkst⟩ : ∃ s, s = k.st := ⟨_, rfl⟩
        have HKst := Lib.hid hkst
        clear hkst
        go_upto_region 8 with (first
          | (go_at_call 85; refine (HFo.out _).mono ?_; rintro e w3 ⟨rfl, hb3⟩; have HB3 := Lib.hid (bthen HBr.out hb3); have HT3 := Lib.hid (HTwo.out.below hb3); clear hb3)
          | (go_at_call 12; refine (HFi.out _).mono ?_; rintro e w4 hfw; (simp only [FndR, strV, ← HNe.out, ← HSe.out, ← HKst.out] at hfw); (obtain ⟨hb4, u1, u2, rfl, h1, h2⟩ := hfw); (obtain ⟨xa, xn, xc, hx1⟩ := isTo_slice h1); subst hx1; (obtain ⟨ya, yn, yc, hx2⟩ := isTo_slice h2); subst hx2; have HB4 := Lib.hid (bthen HB3.out hb4); have HO4 := Lib.hid (oneC_new (x0 := .string N) (x1 := .string S) (x2 := .bool kst) HT3.out HB3.out.size hb4 HKm.out (by rw [HNe.out]; rfl) (by rw [HSe.out]; rfl) (by rw [HKst.out]) h1 h2); clear hb4 h1 h2))
        have hb5 : Below w4.heap.size w4 (w4.alloc (.cells #[.string N, .string S, .bool kst, .slice xa xn xc, .slice ya yn yc, .bool true] 33)) := (Below.refl _ _).alloc (Nat.le_refl _) _
        have hbxF := boxF_new w4 (.string N) (.string S) (.bool kst) (.slice xa xn xc) (.slice ya yn yc) (.bool true)
        obtain ⟨g, hg⟩ : ∃ g, g = w4.heap.size := ⟨_, rfl⟩
        have HO5 := HO4
        rw [← hg] at HO5 hbxF ⊢
        generalize w4.alloc (.cells #[.string N, .string S, .bool kst, .slice xa xn xc, .slice ya yn yc, .bool true] 33) = w5 at hb5 hbxF HO5 ⊢
        obtain ⟨q0, q1, q2, q3, q4, q5⟩ := hbxF.cells
        have HB5 := Lib.hid (bthen HB4.out hb5)
        have HG := Lib.hid hg
        clear hg hb5 hbxF HO4
        cases b with
        | true =>
          go_wp2
          go_loopw [4, 5] (fun u4 u5 wq => ∃ (mu ma : Value) (A' : List CT) (o : Option CT), mu = u4 ∧ ma = u5 ∧ Hid (A' ++ restC o = T) ∧ Hid (∀ c ∈ A', c ∈ classL) ∧ Hid (OneC w2.heap.size g wq mu ma A' o) ∧ Hid (Below w2.heap.size w2 wq)) (fun _ _ wq => rankC (wq.cell? ⟨g, 5, none⟩) (wq.cell? ⟨g, 0, none⟩))
          case atStart => exact ⟨_, _, A, some k, rfl, rfl, HT2, HAc, HO5, HB5⟩
          case round =>
            obtain ⟨mu, ma, A', o, rfl, rfl, HAT, HAc', HOn, HBq⟩ := hrel
            rename World => wq
            obtain ⟨y0, y1, y2, v1, v2, hbxq, hcls⟩ := HOn.out.cls
            cases o with
            | none =>
              simp only [Option.isSome_none] at hbxq
              obtain ⟨q0, q1, q2, q3, q4, q5⟩ := hbxq.cells
              have HTwn := Lib.hid HOn.out.two
              have HAe : Hid (A' = T) := Lib.hid (by rw [← HAT.out]; simp [restC])
              have HAl2 : Hid (A'.length ≤ 3 * (j + 1)) := Lib.hid (by rw [HAe.out]; omega)
              have HAr3 : Hid (allR A' true (V.drop (j + 1)) = R) := Lib.hid (by rw [HAe.out]; have := HAr2.out; rw [← HKst.out] at this; simpa using this)
              clear hbxq hcls
              go_wp2
              go_roundw
              case rel => exact ⟨_, _, j + 1, A', true, rfl, rfl, by omega, by go_num, rfl, HAl2.out, HAc', HAr3, HTwn, HBq.out⟩
              case measure => simp [intOf]; omega
            | some d =>
              simp only [Option.isSome_some] at hbxq
              obtain ⟨hdm, rfl, rfl, rfl, hv1, hv2⟩ := hcls
              obtain ⟨pa, pn, pc, hx1⟩ := isTo_slice hv1
              subst hx1
              obtain ⟨ra, rn, rc, hx2⟩ := isTo_slice hv2
              subst hx2
              obtain ⟨N2, hN2⟩ : ∃ X : ByteArray, X = ⟨d.name.toArray⟩ := ⟨_, rfl⟩
              obtain ⟨S2, hS2⟩ : ∃ X : ByteArray, X = ⟨d.sup.toArray⟩ := ⟨_, rfl⟩
              simp only [strV, ← hN2, ← hS2] at hbxq
              have hN2l : N2.data.toList = d.name := by rw [hN2]
              have hS2l : S2.data.toList = d.sup := by rw [hS2]
              have hS2s : S2.size ≤ 281474976710656 := by rw [← bytes_len, hS2l]; exact cls_short d hdm
              obtain ⟨q0, q1, q2, q3, q4, q5⟩ := hbxq.cells
              have hrk := rank_some hN2l hdm
              have hln := two_len HAc'.out
              have hAT2 : A'.length ≤ T.length := by rw [← HAT.out, List.length_append]; omega
              have HL1 : Hid ((mustA A').length + d.mustL.length ≤ 100000) := Lib.hid (by have := (cls_len d hdm).1; omega)
              have HL2 : Hid ((mayA A').length + d.mayL.length ≤ 100000) := Lib.hid (by have := (cls_len d hdm).2; omega)
              have HBxq := Lib.hid hbxq
              have HV1 := Lib.hid hv1
              have HV2 := Lib.hid hv2
              have HDm := Lib.hid hdm
              have HRk := Lib.hid hrk
              have hT5 : A' ++ [d] ++ restC (findC d.sup) = T := by rw [← HAT.out, rest_find]; simp [restC]
              have HT5 := Lib.hid hT5
              have HAc2 : Hid (∀ c ∈ A' ++ [d], c ∈ classL) := Lib.hid (fun c hc => by rcases List.mem_append.1 hc with h | h; exact HAc'.out c h; rw [List.mem_singleton] at h; rw [h]; exact HDm.out)
              have hfi2 := fun W => findClassRef_any S2 hS2s W
              rw [hS2l, cls_sup d hdm] at hfi2
              clear hbxq hv1 hv2 hrk hln hAT2 hN2 hS2 hN2l hS2l hT5 hdm
              cases hq2 : findC d.sup with
              | none =>
                rw [hq2] at hfi2
                have HF2 := Lib.hid hfi2
                have HT6 : Hid (A' ++ [d] ++ restC none = T) := Lib.hid (by rw [← hq2]; exact HT5.out)
                clear hfi2 hq2
                go_wp2_with (first
                  | (at_builtin; refine wpList_append_T rfl (.tmp 37) (.tmp 40) rfl w2.heap.size mu (.slice pa pn pc) (mustA A') d.mustL _ rfl rfl HOn.out.two.om HV1.out HL1.out HBq.out.size ?_; intro mu6 w6 hown6 hg6 hat6 hb6; have hq6 := oneC_must HOn.out HBxq.out HV2.out hown6 hg6 hat6; have HM6 := Lib.hid hown6; have HQ6 := Lib.hid hq6; have HB6 := Lib.hid (HBq.out.trans hb6); have HZ6 := Lib.hid (Nat.lt_of_lt_of_le HOn.out.gl hg6.size); (obtain ⟨o0, o1, o2, o3, o4, o5⟩ := HQ6.out.2.1.cells); clear hown6 hg6 hat6 hb6 hq6)
                  | (at_builtin; refine wpList_append_T rfl (.tmp 42) (.tmp 45) rfl w2.heap.size ma (.slice ra rn rc) (mayA A') d.mayL _ rfl rfl HQ6.out.1 HQ6.out.2.2.1 HL2.out HB6.out.size ?_; intro ma7 w7 hown7 hg7 hat7 hb7; have hq7 := oneC_may HM6.out HQ6.out.1 HQ6.out.2.2.2.1 HZ6.out HQ6.out.2.2.2.2 HOn.out.ga HQ6.out.2.1 hown7 hg7 hat7; have HTw7 := Lib.hid hq7.1; have HX7 := Lib.hid hq7.2.1; have HGa7 := Lib.hid hq7.2.2; have HGm7 := Lib.hid HQ6.out.2.2.2.2; have HGl7 := Lib.hid (Nat.lt_of_lt_of_le HZ6.out hg7.size); have HB7 := Lib.hid (HB6.out.trans hb7); (obtain ⟨o0, o1, o2, o3, o4, o5⟩ := HX7.out.cells); clear hown7 hg7 hat7 hb7 hq7)
                  | (go_at_call 12; refine (HF2.out _).mono ?_; rintro e w8 hfw; (simp only [FndR] at hfw); (obtain ⟨hb8, rfl⟩ := hfw); have HO8 := Lib.hid (oneC_none (x0 := .string ⟨#[]⟩) (x1 := .string ⟨#[]⟩) (x2 := .bool false) (u1 := .slice none 0 0) (u2 := .slice none 0 0) HTw7.out HOn.out.gB HGl7.out HGm7.out HGa7.out hb8 HX7.out); have HX8 := Lib.hid (HX7.out.below hb8 HGl7.out); (obtain ⟨m0, m1, m2, m3, m4, m5⟩ := HX8.out.cells); (obtain ⟨n0, n1, n2, n3, n4, n5⟩ := HX8.out.frozen); have HB8 := Lib.hid (bthen HB7.out hb8); clear hb8))
                go_roundw
                case rel => exact ⟨_, _, A' ++ [d], none, rfl, rfl, HT6, HAc2, HO8, Lib.hid (set6_below HB8.out HOn.out.gB _ _ _ _ _ _)⟩
                case measure =>
                  have e1 := (HX8.out.store (.string ⟨#[]⟩) (.string ⟨#[]⟩) (.bool false) (.slice none 0 0) (.slice none 0 0) (.bool false)).cells
                  have e2 := HBxq.out.cells
                  rw [e1.2.2.2.2.2, e2.2.2.2.2.2, e2.1, HRk.out]
                  simp [rankC]
              | some d2 =>
                rw [hq2] at hfi2
                have hd2 := (findC_mem hq2).1
                obtain ⟨N3, hN3⟩ : ∃ X : ByteArray, X = ⟨d2.name.toArray⟩ := ⟨_, rfl⟩
                obtain ⟨S3, hS3⟩ : ∃ X : ByteArray, X = ⟨d2.sup.toArray⟩ := ⟨_, rfl⟩
                obtain ⟨st3, hst3⟩ : ∃ s, s = d2.st := ⟨_, rfl⟩
                have HF2 := Lib.hid hfi2
                have HT6 : Hid (A' ++ [d] ++ restC (some d2) = T) := Lib.hid (by rw [← hq2]; exact HT5.out)
                have HRk3 := Lib.hid (rank_next (N := N3) (by rw [hN3]) hq2)
                have HD2 := Lib.hid hd2
                have HN3 := Lib.hid hN3
                have HS3 := Lib.hid hS3
                have HST3 := Lib.hid hst3
                clear hfi2 hq2 hd2 hN3 hS3 hst3
                go_wp2_with (first
                  | (at_builtin; refine wpList_append_T rfl (.tmp 37) (.tmp 40) rfl w2.heap.size mu (.slice pa pn pc) (mustA A') d.mustL _ rfl rfl HOn.out.two.om HV1.out HL1.out HBq.out.size ?_; intro mu6 w6 hown6 hg6 hat6 hb6; have hq6 := oneC_must HOn.out HBxq.out HV2.out hown6 hg6 hat6; have HM6 := Lib.hid hown6; have HQ6 := Lib.hid hq6; have HB6 := Lib.hid (HBq.out.trans hb6); have HZ6 := Lib.hid (Nat.lt_of_lt_of_le HOn.out.gl hg6.size); (obtain ⟨o0, o1, o2, o3, o4, o5⟩ := HQ6.out.2.1.cells); clear hown6 hg6 hat6 hb6 hq6)
                  | (at_builtin; refine wpList_append_T rfl (.tmp 42) (.tmp 45) rfl w2.heap.size ma (.slice ra rn rc) (mayA A') d.mayL _ rfl rfl HQ6.out.1 HQ6.out.2.2.1 HL2.out HB6.out.size ?_; intro ma7 w7 hown7 hg7 hat7 hb7; have hq7 := oneC_may HM6.out HQ6.out.1 HQ6.out.2.2.2.1 HZ6.out HQ6.out.2.2.2.2 HOn.out.ga HQ6.out.2.1 hown7 hg7 hat7; have HTw7 := Lib.hid hq7.1; have HX7 := Lib.hid hq7.2.1; have HGa7 := Lib.hid hq7.2.2; have HGm7 := Lib.hid HQ6.out.2.2.2.2; have HGl7 := Lib.hid (Nat.lt_of_lt_of_le HZ6.out hg7.size); have HB7 := Lib.hid (HB6.out.trans hb7); (obtain ⟨o0, o1, o2, o3, o4, o5⟩ := HX7.out.cells); clear hown7 hg7 hat7 hb7 hq7)
                  | (go_at_call 12; refine (HF2.out _).mono ?_; rintro e w8 hfw; (simp only [FndR, strV, ← HN3.out, ← HS3.out, ← HST3.out] at hfw); (obtain ⟨hb8, e1, e2, rfl, h1, h2⟩ := hfw); (obtain ⟨ea, en, ec, hx1⟩ := isTo_slice h1); subst hx1; (obtain ⟨fa, fn, fc, hx2⟩ := isTo_slice h2); subst hx2; have HO8 := Lib.hid (oneC_next (x0 := .string N3) (x1 := .string S3) (x2 := .bool st3) HTw7.out HOn.out.gB HGl7.out HGm7.out HGa7.out hb8 HX7.out HD2.out (by rw [HN3.out]; rfl) (by rw [HS3.out]; rfl) (by rw [HST3.out]) h1 h2); have HX8 := Lib.hid (HX7.out.below hb8 HGl7.out); (obtain ⟨m0, m1, m2, m3, m4, m5⟩ := HX8.out.cells); (obtain ⟨n0, n1, n2, n3, n4, n5⟩ := HX8.out.frozen); have HB8 := Lib.hid (bthen HB7.out hb8); clear hb8 h1 h2))
                go_roundw
                case rel => exact ⟨_, _, A' ++ [d], some d2, rfl, rfl, HT6, HAc2, HO8, Lib.hid (set6_below HB8.out HOn.out.gB _ _ _ _ _ _)⟩
                case measure =>
                  have e1 := (HX8.out.store (.string N3) (.string S3) (.bool st3) (.slice ea en ec) (.slice fa fn fc) (.bool true)).cells
                  have e2 := HBxq.out.cells
                  rw [e1.2.2.2.2.2, e1.1, e2.2.2.2.2.2, e2.1, HRk.out, HRk3.out]
                  omega
        | false =>
          go_wp2
          go_loopw [4, 5] (fun u4 u5 wq => ∃ (mu ma : Value) (A' : List CT) (o : Option CT), mu = u4 ∧ ma = u5 ∧ Hid (A' ++ restC o = T) ∧ Hid (∀ c ∈ A', c ∈ classL) ∧ Hid (OneC w2.heap.size g wq mu ma A' o) ∧ Hid (Below w2.heap.size w2 wq)) (fun _ _ wq => rankC (wq.cell? ⟨g, 5, none⟩) (wq.cell? ⟨g, 0, none⟩))
          case atStart => exact ⟨_, _, A, some k, rfl, rfl, HT2, HAc, HO5, HB5⟩
          case round =>
            obtain ⟨mu, ma, A', o, rfl, rfl, HAT, HAc', HOn, HBq⟩ := hrel
            rename World => wq
            obtain ⟨y0, y1, y2, v1, v2, hbxq, hcls⟩ := HOn.out.cls
            cases o with
            | none =>
              simp only [Option.isSome_none] at hbxq
              obtain ⟨q0, q1, q2, q3, q4, q5⟩ := hbxq.cells
              have HTwn := Lib.hid HOn.out.two
              have HAe : Hid (A' = T) := Lib.hid (by rw [← HAT.out]; simp [restC])
              have HAl2 : Hid (A'.length ≤ 3 * (j + 1)) := Lib.hid (by rw [HAe.out]; omega)
              have HAr3 : Hid (allR A' kst (V.drop (j + 1)) = R) := Lib.hid (by rw [HAe.out]; have := HAr2.out; rw [← HKst.out] at this; simpa using this)
              clear hbxq hcls
              go_wp2
              go_roundw
              case rel => exact ⟨_, _, j + 1, A', kst, rfl, rfl, by omega, by go_num, rfl, HAl2.out, HAc', HAr3, HTwn, HBq.out⟩
              case measure => simp [intOf]; omega
            | some d =>
              simp only [Option.isSome_some] at hbxq
              obtain ⟨hdm, rfl, rfl, rfl, hv1, hv2⟩ := hcls
              obtain ⟨pa, pn, pc, hx1⟩ := isTo_slice hv1
              subst hx1
              obtain ⟨ra, rn, rc, hx2⟩ := isTo_slice hv2
              subst hx2
              obtain ⟨N2, hN2⟩ : ∃ X : ByteArray, X = ⟨d.name.toArray⟩ := ⟨_, rfl⟩
              obtain ⟨S2, hS2⟩ : ∃ X : ByteArray, X = ⟨d.sup.toArray⟩ := ⟨_, rfl⟩
              simp only [strV, ← hN2, ← hS2] at hbxq
              have hN2l : N2.data.toList = d.name := by rw [hN2]
              have hS2l : S2.data.toList = d.sup := by rw [hS2]
              have hS2s : S2.size ≤ 281474976710656 := by rw [← bytes_len, hS2l]; exact cls_short d hdm
              obtain ⟨q0, q1, q2, q3, q4, q5⟩ := hbxq.cells
              have hrk := rank_some hN2l hdm
              have hln := two_len HAc'.out
              have hAT2 : A'.length ≤ T.length := by rw [← HAT.out, List.length_append]; omega
              have HL1 : Hid ((mustA A').length + d.mustL.length ≤ 100000) := Lib.hid (by have := (cls_len d hdm).1; omega)
              have HL2 : Hid ((mayA A').length + d.mayL.length ≤ 100000) := Lib.hid (by have := (cls_len d hdm).2; omega)
              have HBxq := Lib.hid hbxq
              have HV1 := Lib.hid hv1
              have HV2 := Lib.hid hv2
              have HDm := Lib.hid hdm
              have HRk := Lib.hid hrk
              have hT5 : A' ++ [d] ++ restC (findC d.sup) = T := by rw [← HAT.out, rest_find]; simp [restC]
              have HT5 := Lib.hid hT5
              have HAc2 : Hid (∀ c ∈ A' ++ [d], c ∈ classL) := Lib.hid (fun c hc => by rcases List.mem_append.1 hc with h | h; exact HAc'.out c h; rw [List.mem_singleton] at h; rw [h]; exact HDm.out)
              have hfi2 := fun W => findClassRef_any S2 hS2s W
              rw [hS2l, cls_sup d hdm] at hfi2
              clear hbxq hv1 hv2 hrk hln hAT2 hN2 hS2 hN2l hS2l hT5 hdm
              cases hq2 : findC d.sup with
              | none =>
                rw [hq2] at hfi2
                have HF2 := Lib.hid hfi2
                have HT6 : Hid (A' ++ [d] ++ restC none = T) := Lib.hid (by rw [← hq2]; exact HT5.out)
                clear hfi2 hq2
                go_wp2_with (first
                  | (at_builtin; refine wpList_append_T rfl (.tmp 37) (.tmp 40) rfl w2.heap.size mu (.slice pa pn pc) (mustA A') d.mustL _ rfl rfl HOn.out.two.om HV1.out HL1.out HBq.out.size ?_; intro mu6 w6 hown6 hg6 hat6 hb6; have hq6 := oneC_must HOn.out HBxq.out HV2.out hown6 hg6 hat6; have HM6 := Lib.hid hown6; have HQ6 := Lib.hid hq6; have HB6 := Lib.hid (HBq.out.trans hb6); have HZ6 := Lib.hid (Nat.lt_of_lt_of_le HOn.out.gl hg6.size); (obtain ⟨o0, o1, o2, o3, o4, o5⟩ := HQ6.out.2.1.cells); clear hown6 hg6 hat6 hb6 hq6)
                  | (at_builtin; refine wpList_append_T rfl (.tmp 42) (.tmp 45) rfl w2.heap.size ma (.slice ra rn rc) (mayA A') d.mayL _ rfl rfl HQ6.out.1 HQ6.out.2.2.1 HL2.out HB6.out.size ?_; intro ma7 w7 hown7 hg7 hat7 hb7; have hq7 := oneC_may HM6.out HQ6.out.1 HQ6.out.2.2.2.1 HZ6.out HQ6.out.2.2.2.2 HOn.out.ga HQ6.out.2.1 hown7 hg7 hat7; have HTw7 := Lib.hid hq7.1; have HX7 := Lib.hid hq7.2.1; have HGa7 := Lib.hid hq7.2.2; have HGm7 := Lib.hid HQ6.out.2.2.2.2; have HGl7 := Lib.hid (Nat.lt_of_lt_of_le HZ6.out hg7.size); have HB7 := Lib.hid (HB6.out.trans hb7); (obtain ⟨o0, o1, o2, o3, o4, o5⟩ := HX7.out.cells); clear hown7 hg7 hat7 hb7 hq7)
                  | (go_at_call 12; refine (HF2.out _).mono ?_; rintro e w8 hfw; (simp only [FndR] at hfw); (obtain ⟨hb8, rfl⟩ := hfw); have HO8 := Lib.hid (oneC_none (x0 := .string ⟨#[]⟩) (x1 := .string ⟨#[]⟩) (x2 := .bool false) (u1 := .slice none 0 0) (u2 := .slice none 0 0) HTw7.out HOn.out.gB HGl7.out HGm7.out HGa7.out hb8 HX7.out); have HX8 := Lib.hid (HX7.out.below hb8 HGl7.out); (obtain ⟨m0, m1, m2, m3, m4, m5⟩ := HX8.out.cells); (obtain ⟨n0, n1, n2, n3, n4, n5⟩ := HX8.out.frozen); have HB8 := Lib.hid (bthen HB7.out hb8); clear hb8))
                go_roundw
                case rel => exact ⟨_, _, A' ++ [d], none, rfl, rfl, HT6, HAc2, HO8, Lib.hid (set6_below HB8.out HOn.out.gB _ _ _ _ _ _)⟩
                case measure =>
                  have e1 := (HX8.out.store (.string ⟨#[]⟩) (.string ⟨#[]⟩) (.bool false) (.slice none 0 0) (.slice none 0 0) (.bool false)).cells
                  have e2 := HBxq.out.cells
                  rw [e1.2.2.2.2.2, e2.2.2.2.2.2, e2.1, HRk.out]
                  simp [rankC]
              | some d2 =>
                rw [hq2] at hfi2
                have hd2 := (findC_mem hq2).1
                obtain ⟨N3, hN3⟩ : ∃ X : ByteArray, X = ⟨d2.name.toArray⟩ := ⟨_, rfl⟩
                obtain ⟨S3, hS3⟩ : ∃ X : ByteArray, X = ⟨d2.sup.toArray⟩ := ⟨_, rfl⟩
                obtain ⟨st3, hst3⟩ : ∃ s, s = d2.st := ⟨_, rfl⟩
                have HF2 := Lib.hid hfi2
                have HT6 : Hid (A' ++ [d] ++ restC (some d2) = T) := Lib.hid (by rw [← hq2]; exact HT5.out)
                have HRk3 := Lib.hid (rank_next (N := N3) (by rw [hN3]) hq2)
                have HD2 := Lib.hid hd2
                have HN3 := Lib.hid hN3
                have HS3 := Lib.hid hS3
                have HST3 := Lib.hid hst3
                clear hfi2 hq2 hd2 hN3 hS3 hst3
                go_wp2_with (first
                  | (at_builtin; refine wpList_append_T rfl (.tmp 37) (.tmp 40) rfl w2.heap.size mu (.slice pa pn pc) (mustA A') d.mustL _ rfl rfl HOn.out.two.om HV1.out HL1.out HBq.out.size ?_; intro mu6 w6 hown6 hg6 hat6 hb6; have hq6 := oneC_must HOn.out HBxq.out HV2.out hown6 hg6 hat6; have HM6 := Lib.hid hown6; have HQ6 := Lib.hid hq6; have HB6 := Lib.hid (HBq.out.trans hb6); have HZ6 := Lib.hid (Nat.lt_of_lt_of_le HOn.out.gl hg6.size); (obtain ⟨o0, o1, o2, o3, o4, o5⟩ := HQ6.out.2.1.cells); clear hown6 hg6 hat6 hb6 hq6)
                  | (at_builtin; refine wpList_append_T rfl (.tmp 42) (.tmp 45) rfl w2.heap.size ma (.slice ra rn rc) (mayA A') d.mayL _ rfl rfl HQ6.out.1 HQ6.out.2.2.1 HL2.out HB6.out.size ?_; intro ma7 w7 hown7 hg7 hat7 hb7; have hq7 := oneC_may HM6.out HQ6.out.1 HQ6.out.2.2.2.1 HZ6.out HQ6.out.2.2.2.2 HOn.out.ga HQ6.out.2.1 hown7 hg7 hat7; have HTw7 := Lib.hid hq7.1; have HX7 := Lib.hid hq7.2.1; have HGa7 := Lib.hid hq7.2.2; have HGm7 := Lib.hid HQ6.out.2.2.2.2; have HGl7 := Lib.hid (Nat.lt_of_lt_of_le HZ6.out hg7.size); have HB7 := Lib.hid (HB6.out.trans hb7); (obtain ⟨o0, o1, o2, o3, o4, o5⟩ := HX7.out.cells); clear hown7 hg7 hat7 hb7 hq7)
                  | (go_at_call 12; refine (HF2.out _).mono ?_; rintro e w8 hfw; (simp only [FndR, strV, ← HN3.out, ← HS3.out, ← HST3.out] at hfw); (obtain ⟨hb8, e1, e2, rfl, h1, h2⟩ := hfw); (obtain ⟨ea, en, ec, hx1⟩ := isTo_slice h1); subst hx1; (obtain ⟨fa, fn, fc, hx2⟩ := isTo_slice h2); subst hx2; have HO8 := Lib.hid (oneC_next (x0 := .string N3) (x1 := .string S3) (x2 := .bool st3) HTw7.out HOn.out.gB HGl7.out HGm7.out HGa7.out hb8 HX7.out HD2.out (by rw [HN3.out]; rfl) (by rw [HS3.out]; rfl) (by rw [HST3.out]) h1 h2); have HX8 := Lib.hid (HX7.out.below hb8 HGl7.out); (obtain ⟨m0, m1, m2, m3, m4, m5⟩ := HX8.out.cells); (obtain ⟨n0, n1, n2, n3, n4, n5⟩ := HX8.out.frozen); have HB8 := Lib.hid (bthen HB7.out hb8); clear hb8 h1 h2))
                go_roundw
                case rel => exact ⟨_, _, A' ++ [d], some d2, rfl, rfl, HT6, HAc2, HO8, Lib.hid (set6_below HB8.out HOn.out.gB _ _ _ _ _ _)⟩
                case measure =>
                  have e1 := (HX8.out.store (.string N3) (.string S3) (.bool st3) (.slice ea en ec) (.slice fa fn fc) (.bool true)).cells
                  have e2 := HBxq.out.cells
                  rw [e1.2.2.2.2.2, e1.1, e2.2.2.2.2.2, e2.1, HRk.out, HRk3.out]
                  omega
    · obtain rfl : j = m := by omega
      have t1 : decide ((j : Int) < (j : Int)) = false := by simp
      have t1' : decide (j < j) = false := by simp
      have hR2 : allC (findA L objB) = some (A, b) := by
        have := HAr.out
        rw [List.drop_of_length_le (by rw [← HMl.out]; exact Nat.le_refl _), allR_end] at this
        rw [← HV.out, ← HR.out, ← this]
      have HR2 := Lib.hid hR2
      have hml := two_len HAc.out
      obtain ⟨sa, sc, hmu⟩ := ownS_slice HTwo.out.om
      obtain ⟨ya, yc, hma⟩ := ownS_slice HTwo.out.oa
      have him := ownS_isT HTwo.out.om (by unfold maxLen; omega)
      have hia := ownS_isT HTwo.out.oa (by unfold maxLen; omega)
      obtain ⟨Mu, hMu⟩ : ∃ M, M = mustA A := ⟨_, rfl⟩
      obtain ⟨Ma, hMa⟩ : ∃ M, M = mayA A := ⟨_, rfl⟩
      rw [← hMu] at hml hmu him
      rw [← hMa] at hml hma hia
      obtain ⟨p, hp⟩ : ∃ p, p = Mu.length := ⟨_, rfl⟩
      obtain ⟨q, hq⟩ : ∃ q, q = Ma.length := ⟨_, rfl⟩
      rw [← hp] at hml hmu
      rw [← hq] at hml hma
      subst hmu hma
      obtain ⟨_, _, he, _, hic⟩ := id him
      obtain ⟨rfl, hpp, rfl⟩ := Value.slice.inj he
      clear hpp
      have HIc := Lib.hid hic
      have HIm := Lib.hid him
      have HIa := Lib.hid hia
      have HMu := Lib.hid hMu
      have HMa := Lib.hid hMa
      have HP := Lib.hid hp
      have HQn := Lib.hid hq
      have hbx := HBx.out.below (HB2.out.trans (hbel.mono HB2.out.size)) (by omega)
      have hbz := hbel.size
      have HBx2 := Lib.hid hbx
      obtain ⟨x0, x1⟩ := hbx.cells
      have hp4 : p ≤ 100000 := by omega
      have hq4 : q ≤ 100000 := by omega
      have HAz : Hid (IsA wo.heap.size wo L (.slice a n c)) := Lib.hid (HA.out.below (HB0.out.trans ((HB2.out.trans (hbel.mono HB2.out.size)).mono HB0.out.size)) (by omega))
      have HMs : Hid (∀ x ∈ Mu, x.length ≤ 100) := Lib.hid (by rw [hMu]; intro x hx; obtain ⟨c, hc, hx⟩ := List.mem_flatMap.1 hx; exact cls_elem c (HAc.out c hc) x hx)
      have HBz := Lib.hid (HB0.out.trans ((HB2.out.trans (hbel.mono HB2.out.size)).mono HB0.out.size))
      clear hR2 hml him hia he hic hMu hMa hp hq hbx hbel HTwo HAr
      go_wp2
      clear t1 t1'
      have HTo := Lib.hid (Below.refl wo.heap.size wo)
      go_loopw [9] (fun i wr => ∃ k : Nat, k ≤ p ∧ i = .int .i64 k ∧ Hid (∀ x (hx : x < Mu.length), x < k → ∃ y, ∃ hy : y < L.length, (low L[y].1 == low Mu[x]) = true) ∧ Below wo.heap.size wo wr) (fun i wr => p - (intOf i).toNat)
      case atStart => exact ⟨0, by omega, rfl, Lib.hid (fun x _ h => absurd h (by omega)), HTo.out⟩
      case round =>
        obtain ⟨k, hk, rfl, HMk, hbel⟩ := hrel
        rename World => wp
        have HTp := Lib.hid hbel
        by_cases hkp : k < p
        · have r1 : decide ((k : Int) < (p : Int)) = true := by simp; omega
          have r1' : decide (k < p) = true := by simpa using hkp
          have r2 : (0 : Int) ≤ (k : Int) := by omega
          have r3 : (k : Int) < (p : Int) := by omega
          have hkM : k < Mu.length := by rw [← HP.out]; exact hkp
          obtain ⟨mb, mo, rfl, hmb, hmc⟩ := HIc.out k hkM
          obtain ⟨Y, hY⟩ : ∃ Y : ByteArray, ⟨Mu[k].toArray⟩ = Y := ⟨_, rfl⟩
          have hYl : Y.data.toList = Mu[k] := by rw [← hY]
          have hYs : Y.size ≤ 281474976710656 := by rw [← bytes_len, hYl]; have := HMs.out Mu[k] (List.getElem_mem _); omega
          have HKy : Hid (∀ wx, Below wo.heap.size wo wx → (wx.cell? ⟨w.heap.size, 0, none⟩ = some (.string D) ∧ wx.cell? ⟨w.heap.size, 1, none⟩ = some (.slice a n c) ∧ wx.cell? ⟨mb, mo + k, none⟩ = some (.string Y))) := Lib.hid (fun wx hb => ⟨(HBx2.out.below hb (by omega)).cells.1, (HBx2.out.below hb (by omega)).cells.2, by rw [hb.cell (p := ⟨mb, _, none⟩) hmb, hmc, ← hY]; rfl⟩)
          have hst0 := HKy.out wp.drew hbel.drew
          have hat := fun W (hb : Below wo.heap.size wo W) => attrRef_any D Y hYs L HS.out (.slice a n c) W (HAz.out.below hb hb.size)
          rw [hYl] at hat
          have HAt := Lib.hid hat
          clear hat hY hYl hmc
          by_cases hhas : ∃ y, ∃ hy : y < L.length, (low L[y].1 == low Mu[k]) = true
          · have HIn : Hid (∀ I, AttrP L Mu[k] I → ¬ I < 0) := Lib.hid (fun I h => by
              obtain ⟨y, hy, hye⟩ := hhas
              rcases h with ⟨q, hq, rfl, _, _⟩ | ⟨rfl, h2⟩
              · omega
              · rw [h2 y hy] at hye; cases hye)
            have HM2 : Hid (∀ x (hx : x < Mu.length), x < k + 1 → ∃ y, ∃ hy : y < L.length, (low L[y].1 == low Mu[x]) = true) := Lib.hid (fun x h1 h3 => by
              by_cases hk : x < k
              · exact HMk.out x h1 hk
              · obtain rfl : x = k := by omega
                exact hhas)
            clear hhas hbel
            go_upto_region 18 with (fail)
            go_region_held3 (fun w' => w'.cell? ⟨w.heap.size, 0, none⟩ = some (.string D) ∧ w'.cell? ⟨w.heap.size, 1, none⟩ = some (.slice a n c) ∧ w'.cell? ⟨mb, mo + k, none⟩ = some (.string Y)) (first | (with_reducible exact hst0) | (with_reducible exact hst1)) (first | (go_at_call 55; (refine (HAt.out _ HTp.out.drew).mono ?_); rintro e wx ⟨I, rfl, hI, hbx⟩; have t3 : decide (I < 0) = false := (by have := HIn.out I hI; simp; omega); have HTx := Lib.hid (bthen HTp.out (drewB hbx)); have hst1 := HKy.out _ HTx.out; clear hbx hI))
            all_goals
              go_split_ands
              go_simp
              go_wp2
              go_roundw
              case rel => exact ⟨k + 1, by omega, by go_num, HM2, HTx.out⟩
              case measure => simp [intOf]; omega
          · have HIn : Hid (∀ I, AttrP L Mu[k] I → I < 0) := Lib.hid (fun I h => by
              rcases h with ⟨q, hq, rfl, h1, _⟩ | ⟨rfl, h2⟩
              · exact absurd ⟨q, hq, h1⟩ hhas
              · omega)
            have HE : Hid (Q = false) := Lib.hid (by
              rw [HQ.out]
              have hk2 : k < (mustA A).length := by rw [← HMu.out]; exact hkM
              refine classedD_must HSn.out HR2.out k hk2 fun y hy => ?_
              rw [Bool.eq_false_iff]
              intro e
              exact hhas ⟨y, hy, by have e2 : Mu[k] = (mustA A)[k] := by simp only [HMu.out]
                                    rw [e2]; exact e⟩)
            clear hhas hbel
            go_upto_region 18 with (fail)
            go_region_held3 (fun w' => w'.cell? ⟨w.heap.size, 0, none⟩ = some (.string D) ∧ w'.cell? ⟨w.heap.size, 1, none⟩ = some (.slice a n c) ∧ w'.cell? ⟨mb, mo + k, none⟩ = some (.string Y)) (first | (with_reducible exact hst0) | (with_reducible exact hst1)) (first | (go_at_call 55; (refine (HAt.out _ HTp.out.drew).mono ?_); rintro e wx ⟨I, rfl, hI, hbx⟩; have t3 : decide (I < 0) = true := (by have := HIn.out I hI; simp; omega); have HTx := Lib.hid (bthen HTp.out (drewB hbx)); have hst1 := HKy.out _ HTx.out; clear hbx hI))
            all_goals
              go_split_ands
              go_simp
              go_wp2
              go_ret
              exact ⟨by rw [HE.out]; rfl, bthen HBz.out HTx.out⟩
        · obtain rfl : k = p := by omega
          have r1 : decide ((k : Int) < (k : Int)) = false := by simp
          have r1' : decide (k < k) = false := by simp
          have HMall : Hid (∀ x (hx : x < (mustA A).length), ∃ y, ∃ hy : y < L.length, (low L[y].1 == low (mustA A)[x]) = true) := Lib.hid (by
            intro x hx
            have hx2 : x < Mu.length := by rw [HMu.out]; exact hx
            obtain ⟨y, hy, e⟩ := HMk.out x hx2 (by rw [HP.out]; exact hx2)
            have e2 : Mu[x] = (mustA A)[x] := by simp only [HMu.out]
            exact ⟨y, hy, by rw [← e2]; exact e⟩)
          clear hbel HMk
          go_wp2
          clear r1 r1'
          go_loopw [10] (fun i wr => ∃ e : Nat, e ≤ n ∧ i = .int .i64 e ∧ Hid (∀ x (hx : x < L.length), x < e → (mustA A).contains (low L[x].1) = true ∨ (mayA A).contains (low L[x].1) = true) ∧ Below wo.heap.size wo wr) (fun i wr => n - (intOf i).toNat)
          case atStart => exact ⟨0, by omega, rfl, Lib.hid (fun x _ h => absurd h (by omega)), HTp.out⟩
          case round =>
            obtain ⟨e, he, rfl, HSa, hbel⟩ := hrel
            rename World => wq
            have HTq := Lib.hid hbel
            obtain ⟨x0, x1⟩ := (HBx2.out.below hbel (by omega)).cells
            by_cases hen : e < n
            · have r1 : decide ((e : Int) < (n : Int)) = true := by simp; omega
              have r1' : decide (e < n) = true := by simpa using hen
              have heL : e < L.length := by rw [← HN.out]; exact hen
              obtain ⟨b1, off1, u, rfl, hb0, c0, _, _⟩ := HC.out e heL
              obtain ⟨X, hX⟩ : ∃ X : ByteArray, ⟨L[e].1.toArray⟩ = X := ⟨_, rfl⟩
              have hXl : X.data.toList = L[e].1 := by rw [← hX]
              have d0 : (wq.cell? ⟨b1, off1 + e * 2, none⟩) = some (.string X) := by
                rw [hbel.cell (p := ⟨b1, off1 + e * 2, none⟩) (Nat.lt_of_lt_of_le hb0 HBz.out.size), HBz.out.cell (p := ⟨b1, off1 + e * 2, none⟩) hb0, c0, ← hX]; rfl
              have hXs : X.size ≤ 281474976710656 := by
                have := (HS.out.2 L[e] (List.getElem_mem _)).1
                rw [← bytes_len, hXl]; omega
              have HLx := Lib.hid (fun W => lowerRef_any X W hXs)
              obtain ⟨T, hT⟩ : ∃ T, T = lowB X := ⟨_, rfl⟩
              have hTl : T.data.toList = low L[e].1 := by rw [hT, lowB_list, hXl]
              rw [← hT] at HLx
              have ham1 := fun W (hb : Below wo.heap.size wo W) => amongRef_any Mu _ T W (HIm.out.below hb hb.size)
              have ham2 := fun W (hb : Below wo.heap.size wo W) => amongRef_any Ma _ T W (HIa.out.below hb hb.size)
              rw [hTl, HMu.out] at ham1
              rw [hTl, HMa.out] at ham2
              cases hc1 : (mustA A).contains (low L[e].1) with
              | true =>
                rw [hc1] at ham1
                have HM1 := Lib.hid ham1
                have HA2 : Hid (∀ x (hx : x < L.length), x < e + 1 → (mustA A).contains (low L[x].1) = true ∨ (mayA A).contains (low L[x].1) = true) := Lib.hid (fun x h1 h3 => by
                  by_cases hk : x < e
                  · exact HSa.out x h1 hk
                  · obtain rfl : x = e := by omega
                    exact .inl hc1)
                clear ham1 ham2 hc1 hX hXl c0 hT hTl hbel HSa
                go_wp2_with (first
                  | (go_at_call 36; refine (HLx.out _).mono ?_; rintro ez w3 ⟨rfl, hb3⟩; have HT3 := Lib.hid (bthen HTq.out hb3); clear hb3)
                  | (go_at_call 87; ((with_reducible refine (HM1.out _ HT3.out).mono ?_); rintro ez w4 ⟨rfl, rfl⟩)))
                go_roundw
                case rel => exact ⟨e + 1, by omega, by go_num, HA2, HT3.out⟩
                case measure => simp [intOf]; omega
              | false =>
                rw [hc1] at ham1
                have HM1 := Lib.hid ham1
                cases hc2 : (mayA A).contains (low L[e].1) with
                | true =>
                  rw [hc2] at ham2
                  have HM2 := Lib.hid ham2
                  have HA2 : Hid (∀ x (hx : x < L.length), x < e + 1 → (mustA A).contains (low L[x].1) = true ∨ (mayA A).contains (low L[x].1) = true) := Lib.hid (fun x h1 h3 => by
                    by_cases hk : x < e
                    · exact HSa.out x h1 hk
                    · obtain rfl : x = e := by omega
                      exact .inr hc2)
                  clear ham1 ham2 hc1 hc2 hX hXl c0 hT hTl hbel HSa
                  go_wp2_with (first
                    | (go_at_call 36; refine (HLx.out _).mono ?_; rintro ez w3 ⟨rfl, hb3⟩; have HT3 := Lib.hid (bthen HTq.out hb3); clear hb3)
                    | (go_at_call 87; ((with_reducible refine (HM1.out _ HT3.out).mono ?_); rintro ez w4 ⟨rfl, rfl⟩))
                    | (go_at_call 87; ((with_reducible refine (HM2.out _ HT3.out).mono ?_); rintro ez w4 ⟨rfl, rfl⟩)))
                  go_roundw
                  case rel => exact ⟨e + 1, by omega, by go_num, HA2, HT3.out⟩
                  case measure => simp [intOf]; omega
                | false =>
                  rw [hc2] at ham2
                  have HM2 := Lib.hid ham2
                  have HE : Hid (Q = false) := Lib.hid (by rw [HQ.out]; exact classedD_may HR2.out e heL hc1 hc2)
                  clear ham1 ham2 hc1 hc2 hX hXl c0 hT hTl hbel HSa
                  go_wp2_with (first
                    | (go_at_call 36; refine (HLx.out _).mono ?_; rintro ez w3 ⟨rfl, hb3⟩; have HT3 := Lib.hid (bthen HTq.out hb3); clear hb3)
                    | (go_at_call 87; ((with_reducible refine (HM1.out _ HT3.out).mono ?_); rintro ez w4 ⟨rfl, rfl⟩))
                    | (go_at_call 87; ((with_reducible refine (HM2.out _ HT3.out).mono ?_); rintro ez w4 ⟨rfl, rfl⟩)))
                  go_ret
                  exact ⟨by rw [HE.out]; rfl, bthen HBz.out HT3.out⟩
            · obtain rfl : e = n := by omega
              have r1 : decide ((e : Int) < (e : Int)) = false := by simp
              have r1' : decide (e < e) = false := by simp
              have HE : Hid (Q = b) := Lib.hid (by rw [HQ.out]; exact classedD_st HSn.out HR2.out HMall.out (fun x hx => HSa.out x hx (by rw [HN.out]; exact hx)))
              clear hbel HSa
              go_wp2
              go_ret
              exact ⟨by rw [HE.out]; rfl, bthen HBz.out HTq.out⟩
end Go.Proofs.YtofmpaphafhdpaaGreatDoor
