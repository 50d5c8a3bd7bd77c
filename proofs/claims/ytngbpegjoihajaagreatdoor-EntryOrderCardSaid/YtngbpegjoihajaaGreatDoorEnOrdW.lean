/- EntryOrder: four settings in whatever order make one list; the walk. -/
import Derived.Test.YtngbpegjoihajaaGreatDoorEnSetsP
import Derived.Test.YtngbpegjoihajaaGreatDoorEnNormW
import Derived.Test.YtngbpegjoihajaaGreatDoorMaNumP
import Derived.Test.YtngbpegjoihajaaGreatDoorEnSetsW
import Derived.Test.YtngbpegjoihajaaGreatDoorEnSameR
import Derived.Deep.RegionHeld3
import Derived.Deep.CutRange
namespace Go.Proofs.YtngbpegjoihajaaGreatDoor
open Go.RowKit
set_option linter.unusedVariables false


def names4 : List (List UInt8) := [[99, 110], [109, 97, 105, 108], [115, 110], [117, 105, 100]]
theorem okNames4 : okN2 names4 := okN2_of (by decide +kernel)
theorem nameA_names4 : ∀ n ∈ names4, nameA n = n := by decide +kernel
theorem setA_put4 (W : List (List UInt8)) (k : Nat) (hk : k < names4.length) (hW : W.length = names4.length) (d : List UInt8) (hd : d ≠ []) : setA (mkN names4 W) names4[k] [d] = mkN names4 (W.set k d) := by
  unfold setA
  rw [if_neg (by simp), without_mk names4 W k hk okNames4 hW, nameA_names4 _ (List.getElem_mem hk)]
  exact insert_mk names4 W k hk d okNames4 hW hd
theorem small_mk4 (W : List (List UInt8)) (h : ∀ d ∈ W, d.length ≤ 1000000) : smallA (mkN names4 W) := by
  refine ⟨Nat.le_trans (mkN_len _ _) (by decide), fun a ha => ?_⟩
  obtain ⟨h1, d, hd, h2⟩ := mkN_mem ha
  have h3 : ∀ n ∈ names4, n.length ≤ 1000000 := by decide
  refine ⟨h3 _ h1, ?_⟩
  rw [h2]
  exact ⟨by simp, by intro s hs; simp only [List.mem_singleton] at hs; rw [hs]; exact h d hd⟩
theorem full4 (a b c d : List UInt8) (ha : a ≠ []) (hb : b ≠ []) (hc : c ≠ []) (hd : d ≠ []) : mkN names4 [a, b, c, d] = [([99, 110], [a]), ([109, 97, 105, 108], [b]), ([115, 110], [c]), ([117, 105, 100], [d])] := by
  unfold names4
  rw [mkN, if_neg ha, mkN, if_neg hb, mkN, if_neg hc, mkN, if_neg hd]
  rfl
theorem norm4 (a b c d : List (List UInt8)) : normL [([99, 110], a), ([109, 97, 105, 108], b), ([115, 110], c), ([117, 105, 100], d)] = [([99, 110], a), ([109, 97, 105, 108], b), ([115, 110], c), ([117, 105, 100], d)] := by
  unfold normL
  have h0 : nameA [99, 110] = [99, 110] := by decide +kernel
  have h1 : nameA [109, 97, 105, 108] = [109, 97, 105, 108] := by decide +kernel
  have h2 : nameA [115, 110] = [115, 110] := by decide +kernel
  have h3 : nameA [117, 105, 100] = [117, 105, 100] := by decide +kernel
  simp only [List.map_cons, List.map_nil, h0, h1, h2, h3]
theorem order4 (a b c d : List (List UInt8)) : inOrder [([99, 110], a), ([109, 97, 105, 108], b), ([115, 110], c), ([117, 105, 100], d)] := by
  intro i h
  have : i = 0 ∨ i = 1 ∨ i = 2 := by simp at h; omega
  rcases this with rfl | rfl | rfl
  · show ¬ cmpL [109, 97, 105, 108] [99, 110] < 0; decide +kernel
  · show ¬ cmpL [115, 110] [109, 97, 105, 108] < 0; decide +kernel
  · show ¬ cmpL [117, 105, 100] [115, 110] < 0; decide +kernel
theorem nameN_nil : nameN [] = [] := by decide
/-- What stands behind some rounds of the one, and of the other. -/
def wantA (D : Nat → List UInt8) (i : Nat) : List (List UInt8) := (List.range 4).map fun k => if k < i then D k else []
def wantB (D : Nat → List UInt8) (t i : Nat) : List (List UInt8) := (List.range 4).map fun k => if (List.range i).any (fun x => (x + t) % 4 == k) then D k else []
theorem wantA_len (D : Nat → List UInt8) (i : Nat) : (wantA D i).length = 4 := by simp [wantA]
theorem wantB_len (D : Nat → List UInt8) (t i : Nat) : (wantB D t i).length = 4 := by simp [wantB]
theorem wantA_zero (D : Nat → List UInt8) : wantA D 0 = [[], [], [], []] := rfl
theorem wantB_zero (D : Nat → List UInt8) (t : Nat) : wantB D t 0 = [[], [], [], []] := rfl
theorem wantA_succ (D : Nat → List UInt8) (i : Nat) (h : i < 4) : wantA D (i + 1) = (wantA D i).set i (D i) := by
  rcases (show i = 0 ∨ i = 1 ∨ i = 2 ∨ i = 3 from by omega) with rfl | rfl | rfl | rfl <;> rfl
theorem wantB_get (D : Nat → List UInt8) (t i k : Nat) (h : k < (wantB D t i).length) : (wantB D t i)[k] = if (List.range i).any (fun x => (x + t) % 4 == k) = true then D k else [] := by
  simp only [wantB, List.getElem_map, List.getElem_range]
theorem wantB_succ (D : Nat → List UInt8) (t i : Nat) : wantB D t (i + 1) = (wantB D t i).set ((i + t) % 4) (D ((i + t) % 4)) := by
  apply List.ext_getElem
  · simp [wantB]
  · intro k h1 h2
    have hr : (List.range (i + 1)).any (fun x => (x + t) % 4 == k) = ((List.range i).any (fun x => (x + t) % 4 == k) || (i + t) % 4 == k) := by
      rw [List.range_succ, List.any_append, List.any_cons, List.any_nil, Bool.or_false]
    rw [List.getElem_set, wantB_get, hr]
    by_cases e : (i + t) % 4 = k
    · subst e; simp
    · rw [if_neg e, wantB_get]
      have : ((i + t) % 4 == k) = false := by simpa using e
      rw [this, Bool.or_false]
theorem wantA_all (D : Nat → List UInt8) : wantA D 4 = [D 0, D 1, D 2, D 3] := rfl
theorem wantB_all (D : Nat → List UInt8) (t : Nat) : wantB D t 4 = [D 0, D 1, D 2, D 3] := by
  have h : wantB D t 4 = wantB D (t % 4) 4 := by
    unfold wantB
    congr 1
    funext k
    have : ∀ x, (x + t) % 4 = (x + t % 4) % 4 := fun x => by omega
    simp only [this]
  rw [h]
  rcases (show t % 4 = 0 ∨ t % 4 = 1 ∨ t % 4 = 2 ∨ t % 4 = 3 from by omega) with e | e | e | e <;> rw [e] <;> rfl
theorem setset {α : Type} (l : List α) (k : Nat) (a b : α) : (l.set k a).set k b = l.set k b := List.set_set a


def nameB4 (k : Nat) : ByteArray := ofL (names4.getD k [])
/-- The rows of EntryOrder: the names (n), the two entries (n1, n2); what else there is lies behind them. -/
structure OrdAt (n n1 n2 : Nat) (w wr : World) (LA LB : List AT) (va vb : Value) : Prop where
  e1 : n1 = n + 1
  e2 : n2 = n + 2
  names : ∀ k, k < 4 → wr.cell? ⟨n, k, none⟩ = some (.string (nameB4 k))
  a0 : wr.cell? ⟨n1, 0, none⟩ = some (.string ⟨#[]⟩)
  a1 : wr.cell? ⟨n1, 1, none⟩ = some va
  az0 : wr.frozen? ⟨n1, 0, none⟩ = false
  az1 : wr.frozen? ⟨n1, 1, none⟩ = false
  b0 : wr.cell? ⟨n2, 0, none⟩ = some (.string ⟨#[]⟩)
  b1 : wr.cell? ⟨n2, 1, none⟩ = some vb
  bz0 : wr.frozen? ⟨n2, 0, none⟩ = false
  bz1 : wr.frozen? ⟨n2, 1, none⟩ = false
  size : n + 3 ≤ wr.heap.size
  ownA : OwnA (n + 3) wr va LA
  ownB : OwnA (n + 3) wr vb LB
  bel : Below n w wr
theorem OrdAt.go {n n1 n2 : Nat} {w wr w2 : World} {LA LB : List AT} {va vb : Value} (h : OrdAt n n1 n2 w wr LA LB va vb) (hb : Below wr.heap.size wr w2) : OrdAt n n1 n2 w w2 LA LB va vb := by
  have hs := h.size
  have e1 := h.e1
  have e2 := h.e2
  have c : ∀ b o, b < n + 3 → w2.cell? ⟨b, o, none⟩ = wr.cell? ⟨b, o, none⟩ := fun b o hlt => hb.cell (p := ⟨b, o, none⟩) (show b < wr.heap.size by omega)
  have f : ∀ b o, b < n + 3 → w2.frozen? ⟨b, o, none⟩ = wr.frozen? ⟨b, o, none⟩ := fun b o hlt => hb.frozen (p := ⟨b, o, none⟩) (show b < wr.heap.size by omega)
  exact { e1 := e1, e2 := e2, names := fun k hk => (c _ _ (by omega)).trans (h.names k hk), a0 := (c _ _ (by omega)).trans h.a0, a1 := (c _ _ (by omega)).trans h.a1, az0 := (f _ _ (by omega)).trans h.az0, az1 := (f _ _ (by omega)).trans h.az1,
          b0 := (c _ _ (by omega)).trans h.b0, b1 := (c _ _ (by omega)).trans h.b1, bz0 := (f _ _ (by omega)).trans h.bz0, bz1 := (f _ _ (by omega)).trans h.bz1, size := Nat.le_trans hs hb.size, ownA := ownA_below h.ownA hb, ownB := ownA_below h.ownB hb, bel := h.bel.trans (hb.mono (by omega)) }
theorem OrdAt.putA {n n1 n2 : Nat} {w wr : World} {LA LB L' : List AT} {va vb v' : Value} (h : OrdAt n n1 n2 w wr LA LB va vb) (ho : OwnA (n + 3) wr v' L') :
    OrdAt n n1 n2 w ((wr.setCell ⟨n1, 0, none⟩ (.string ⟨#[]⟩)).setCell ⟨n1, 1, none⟩ v') L' LB v' vb := by
  have e1 := h.e1
  have e2 := h.e2
  have oth : ∀ b o, b ≠ n1 → ((wr.setCell ⟨n1, 0, none⟩ (.string ⟨#[]⟩)).setCell ⟨n1, 1, none⟩ v').cell? ⟨b, o, none⟩ = wr.cell? ⟨b, o, none⟩ := fun b o hb => by
    rw [World.cell?_setCell_other _ _ _ _ (fun e => by have := congrArg Addr.block e; simp at this; omega), World.cell?_setCell_other _ _ _ _ (fun e => by have := congrArg Addr.block e; simp at this; omega)]
  have fr : ∀ p, ((wr.setCell ⟨n1, 0, none⟩ (.string ⟨#[]⟩)).setCell ⟨n1, 1, none⟩ v').frozen? p = wr.frozen? p := fun p => by rw [World.frozen?_setCell, World.frozen?_setCell]
  exact { e1 := e1, e2 := e2, names := fun k hk => (oth _ _ (by omega)).trans (h.names k hk), a0 := by { rw [World.cell?_setCell_other _ _ _ _ (fun e => by have := congrArg Addr.off e; simp at this)]; exact World.cell?_setCell_same _ _ _ h.a0 }, a1 := World.cell?_setCell_same _ _ _ ((World.cell?_setCell_other _ _ _ _ (fun e => by have := congrArg Addr.off e; simp at this)).trans h.a1), az0 := (fr _).trans h.az0, az1 := (fr _).trans h.az1,
          b0 := (oth _ _ (by omega)).trans h.b0, b1 := (oth _ _ (by omega)).trans h.b1, bz0 := (fr _).trans h.bz0, bz1 := (fr _).trans h.bz1, size := by simpa [World.setCell] using h.size, ownA := ownA_set (ownA_set ho _ _ (show n1 < n + 3 by omega)) _ _ (show n1 < n + 3 by omega), ownB := ownA_set (ownA_set h.ownB _ _ (show n1 < n + 3 by omega)) _ _ (show n1 < n + 3 by omega),
          bel := (h.bel.setCell (p := ⟨n1, 0, none⟩) (show n ≤ n1 by omega) _).setCell (p := ⟨n1, 1, none⟩) (show n ≤ n1 by omega) _ }
theorem OrdAt.putB {n n1 n2 : Nat} {w wr : World} {LA LB L' : List AT} {va vb v' : Value} (h : OrdAt n n1 n2 w wr LA LB va vb) (ho : OwnA (n + 3) wr v' L') :
    OrdAt n n1 n2 w ((wr.setCell ⟨n2, 0, none⟩ (.string ⟨#[]⟩)).setCell ⟨n2, 1, none⟩ v') LA L' va v' := by
  have e1 := h.e1
  have e2 := h.e2
  have oth : ∀ b o, b ≠ n2 → ((wr.setCell ⟨n2, 0, none⟩ (.string ⟨#[]⟩)).setCell ⟨n2, 1, none⟩ v').cell? ⟨b, o, none⟩ = wr.cell? ⟨b, o, none⟩ := fun b o hb => by
    rw [World.cell?_setCell_other _ _ _ _ (fun e => by have := congrArg Addr.block e; simp at this; omega), World.cell?_setCell_other _ _ _ _ (fun e => by have := congrArg Addr.block e; simp at this; omega)]
  have fr : ∀ p, ((wr.setCell ⟨n2, 0, none⟩ (.string ⟨#[]⟩)).setCell ⟨n2, 1, none⟩ v').frozen? p = wr.frozen? p := fun p => by rw [World.frozen?_setCell, World.frozen?_setCell]
  exact { e1 := e1, e2 := e2, names := fun k hk => (oth _ _ (by omega)).trans (h.names k hk), b0 := by { rw [World.cell?_setCell_other _ _ _ _ (fun e => by have := congrArg Addr.off e; simp at this)]; exact World.cell?_setCell_same _ _ _ h.b0 }, b1 := World.cell?_setCell_same _ _ _ ((World.cell?_setCell_other _ _ _ _ (fun e => by have := congrArg Addr.off e; simp at this)).trans h.b1), az0 := (fr _).trans h.az0, az1 := (fr _).trans h.az1,
          a0 := (oth _ _ (by omega)).trans h.a0, a1 := (oth _ _ (by omega)).trans h.a1, bz0 := (fr _).trans h.bz0, bz1 := (fr _).trans h.bz1, size := by simpa [World.setCell] using h.size, ownB := ownA_set (ownA_set ho _ _ (show n2 < n + 3 by omega)) _ _ (show n2 < n + 3 by omega), ownA := ownA_set (ownA_set h.ownA _ _ (show n2 < n + 3 by omega)) _ _ (show n2 < n + 3 by omega),
          bel := (h.bel.setCell (p := ⟨n2, 0, none⟩) (show n ≤ n2 by omega) _).setCell (p := ⟨n2, 1, none⟩) (show n ≤ n2 by omega) _ }
theorem OrdAt.keep {n n1 n2 : Nat} {w w1 w2 : World} {LA LB : List AT} {va vb : Value} (h : OrdAt n n1 n2 w w1 LA LB va vb) (hb : Below w1.heap.size w1 w2) :
    w2.cell? ⟨n1, 0, none⟩ = some (.string ⟨#[]⟩) ∧ w2.cell? ⟨n1, 1, none⟩ = some va ∧ w2.cell? ⟨n2, 0, none⟩ = some (.string ⟨#[]⟩) ∧ w2.cell? ⟨n2, 1, none⟩ = some vb ∧ OrdAt n n1 n2 w w2 LA LB va vb := by
  have h2 := h.go hb
  exact ⟨h2.a0, h2.a1, h2.b0, h2.b1, h2⟩
theorem OrdAt.isaA {n n1 n2 : Nat} {w w1 : World} {LA LB : List AT} {va vb : Value} (h : OrdAt n n1 n2 w w1 LA LB va vb) (hl : LA.length ≤ maxLen) : IsA w1.heap.size w1 LA va := ownA_isA h.ownA hl
theorem OrdAt.isaB {n n1 n2 : Nat} {w w1 : World} {LA LB : List AT} {va vb : Value} (h : OrdAt n n1 n2 w w1 LA LB va vb) (hl : LB.length ≤ maxLen) : IsA w1.heap.size w1 LB vb := ownA_isA h.ownB hl
theorem beq_self_entry (d : List UInt8) (L : List AT) : ((d, L) == (d, L)) = true := by simp
def namesA4 : Array Value := #[.string ⟨#[99, 110]⟩, .string ⟨#[109, 97, 105, 108]⟩, .string ⟨#[115, 110]⟩, .string ⟨#[117, 105, 100]⟩]
theorem ord_start (w : World) : OrdAt w.heap.size (w.heap.size + 1) (w.heap.size + 1 + 1) w (((w.alloc (.cells #[.string ⟨#[99, 110]⟩, .string ⟨#[109, 97, 105, 108]⟩, .string ⟨#[115, 110]⟩, .string ⟨#[117, 105, 100]⟩] 9)).alloc (.cells #[.string ⟨#[]⟩, .slice none 0 0] 24)).alloc (.cells #[.string ⟨#[]⟩, .slice none 0 0] 24)) [] [] (.slice none 0 0) (.slice none 0 0) := by
  obtain ⟨a, ha⟩ : ∃ a, a = w.alloc (.cells #[.string ⟨#[99, 110]⟩, .string ⟨#[109, 97, 105, 108]⟩, .string ⟨#[115, 110]⟩, .string ⟨#[117, 105, 100]⟩] 9) := ⟨_, rfl⟩
  have za : a.heap.size = w.heap.size + 1 := by rw [ha]; simp
  have ga : a.heap[w.heap.size]? = some (.cells #[.string ⟨#[99, 110]⟩, .string ⟨#[109, 97, 105, 108]⟩, .string ⟨#[115, 110]⟩, .string ⟨#[117, 105, 100]⟩] 9 (0, 0)) := by rw [ha]; exact heap_alloc_new w _
  obtain ⟨b, hb⟩ : ∃ b, b = a.alloc (.cells #[.string ⟨#[]⟩, .slice none 0 0] 24) := ⟨_, rfl⟩
  have zb : b.heap.size = w.heap.size + 2 := by rw [hb]; simp [za]
  have gb : b.heap[w.heap.size]? = some (.cells #[.string ⟨#[99, 110]⟩, .string ⟨#[109, 97, 105, 108]⟩, .string ⟨#[115, 110]⟩, .string ⟨#[117, 105, 100]⟩] 9 (0, 0)) := by rw [hb]; exact (heap_alloc_old a _ (by omega)).trans ga
  have gb1 : b.heap[w.heap.size + 1]? = some (.cells #[.string ⟨#[]⟩, .slice none 0 0] 24 (0, 0)) := by rw [hb, ← za]; exact heap_alloc_new a _
  have gc := (heap_alloc_old b (.cells #[.string ⟨#[]⟩, .slice none 0 0] 24) (by omega)).trans gb
  have gc1 := (heap_alloc_old b (.cells #[.string ⟨#[]⟩, .slice none 0 0] 24) (by omega)).trans gb1
  have gc2 : (b.alloc (.cells #[.string ⟨#[]⟩, .slice none 0 0] 24)).heap[w.heap.size + 1 + 1]? = some (.cells #[.string ⟨#[]⟩, .slice none 0 0] 24 (0, 0)) := by
    show (b.alloc _).heap[w.heap.size + 2]? = _
    rw [← zb]; exact heap_alloc_new b _
  rw [← ha, ← hb]
  exact {
    e1 := rfl
    e2 := rfl
    names := fun k hk => by
      simp only [World.cell?, gc]
      rcases (show k = 0 ∨ k = 1 ∨ k = 2 ∨ k = 3 from by omega) with rfl | rfl | rfl | rfl <;> rfl
    a0 := by simp only [World.cell?, gc1]; rfl
    a1 := by simp only [World.cell?, gc1]; rfl
    az0 := by simp only [World.frozen?, gc1]; rfl
    az1 := by simp only [World.frozen?, gc1]; rfl
    b0 := by simp only [World.cell?, gc2]; rfl
    b1 := by simp only [World.cell?, gc2]; rfl
    bz0 := by simp only [World.frozen?, gc2]; rfl
    bz1 := by simp only [World.frozen?, gc2]; rfl
    size := by simp [zb]
    ownA := ownA_nil _ _
    ownB := ownA_nil _ _
    bel := by
      have h1 : Below w.heap.size w a := by rw [ha]; exact (Below.refl _ _).alloc (Nat.le_refl _) _
      have h2 : Below w.heap.size w b := by rw [hb]; exact h1.alloc (by omega) _
      exact h2.alloc (by omega) _ }

set_option maxRecDepth 100000 in
set_option maxHeartbeats 8000000 in
theorem order_walk (vs : List UInt8) (a0 : Option Addr) (c0 : Nat) (t : Nat) (ht : t ≤ 255) (w : World) (hw : LaidW w) (h0 : IsB w.heap.size w vs a0 c0) :
    Calls Tryz.prog 12 #[.slice a0 vs.length c0, .int .u8 t] w fun e w' => e = .returned (.bool true) ∧ Below w.heap.size w w' := by
  have HW := Lib.hid hw
  obtain ⟨hm0, hc0⟩ := h0
  unfold maxLen at hm0
  have HC0 := Lib.hid hc0
  clear hw hc0
  by_cases h4 : vs.length < 4
  · have t0 : decide ((vs.length : Int) < (4 : Int)) = true := by simp; omega
    have t0' : decide (vs.length < 4) = true := by simpa using h4
    go_enter Tryz.func12, Tryz.ntmps12
    go_wp2_with (go_at_call 27; refine (awake5_any _ HW.out).mono ?_; rintro e w2 ⟨rfl, hb2⟩; have HB := Lib.hid hb2; clear hb2)
    go_ret
    exact ⟨rfl, HB.out⟩
  have t0 : decide ((vs.length : Int) < (4 : Int)) = false := by simp; omega
  have t0' : decide (vs.length < 4) = false := by simpa using h4
  obtain ⟨b0, f0, rfl, hb0, hcv⟩ := HC0.out.resolve_left (by intro e; subst e; simp at h4)
  have HCv := Lib.hid hcv
  obtain ⟨D, hD⟩ : ∃ D : Nat → List UInt8, D = fun k => Lib.itoa ((vs.getD k 0).toNat : Int) := ⟨_, rfl⟩
  have hDn : ∀ k, D k ≠ [] := fun k => by rw [hD]; exact itoa_ne _
  have hDl : ∀ k, (D k).length ≤ 16 := fun k => by rw [hD]; exact itoa_len _ (by have := (vs.getD k 0).toNat_lt; omega)
  have hDv : ∀ k (h : k < vs.length), D k = Lib.itoa (vs[k].toNat : Int) := fun k h => by rw [hD]; simp [List.getD_eq_getElem?_getD, List.getElem?_eq_getElem h]
  have HDn := Lib.hid hDn
  have HDl := Lib.hid hDl
  have HDv := Lib.hid hDv
  have HSt := Lib.hid (ord_start w)
  clear hcv hD hDn hDl hDv HC0
  go_enter Tryz.func12, Tryz.ntmps12
  go_wp2
  have HSt2 := HSt
  generalize (((w.alloc (.cells #[.string ⟨#[99, 110]⟩, .string ⟨#[109, 97, 105, 108]⟩, .string ⟨#[115, 110]⟩, .string ⟨#[117, 105, 100]⟩] 9)).alloc (.cells #[.string ⟨#[]⟩, .slice none 0 0] 24)).alloc (.cells #[.string ⟨#[]⟩, .slice none 0 0] 24)) = W3 at HSt2 ⊢
  generalize w.heap.size + 1 + 1 = n2 at HSt2 ⊢
  generalize w.heap.size + 1 = n1 at HSt2 ⊢
  clear HSt
  go_loopw [8] (fun i wr => ∃ (j : Nat) (va vb : Value), j ≤ 4 ∧ i = .int .i64 j ∧ OrdAt w.heap.size n1 n2 w wr (mkN names4 (wantA D j)) (mkN names4 (wantB D t j)) va vb) (fun i wr => 4 - (intOf i).toNat)
  case atStart => exact ⟨0, _, _, by omega, rfl, HSt2.out⟩
  case round =>
    obtain ⟨j, va, vb, hj, rfl, hat⟩ := hrel
    obtain ⟨vaa, van, vac, rfl⟩ := ownA_sl hat.ownA
    obtain ⟨vba, vbn, vbc, rfl⟩ := ownA_sl hat.ownB
    have HAt := Lib.hid hat
    have hbel := hat.bel
    by_cases hlt : j < 4
    · have t2 : decide ((j : Int) < 4) = true := by simp; omega
      have t2' : decide (j < 4) = true := by simpa using hlt
      have hjv : j < vs.length := by omega
      have q3 : (j : Int) < (vs.length : Int) := by omega
      have q4 : (j : Int) < 4 := by omega
      have hjn : j < names4.length := hlt
      have hWA := wantA_len D j
      have hsmA := small_mk4 (wantA D j) (fun x hx => by
        simp only [wantA, List.mem_map] at hx
        obtain ⟨k, _, rfl⟩ := hx
        have := HDl.out k
        split <;> simp <;> omega)
      have hnm : (nameB4 j).data.toList = names4[j] := by unfold nameB4; rw [ofL_list, List.getD_eq_getElem?_getD, List.getElem?_eq_getElem hjn]; rfl
      have hns : ∀ k (hk : k < names4.length), (nameB4 k).size ≤ 281474976710656 := fun k hk => by
        have : (nameB4 k).data.toList = names4[k] := by unfold nameB4; rw [ofL_list, List.getD_eq_getElem?_getD, List.getElem?_eq_getElem hk]; rfl
        rw [← bytes_len, this]
        have h3 : ∀ n ∈ names4, n.length ≤ 1000000 := by decide
        have := h3 _ (List.getElem_mem hk)
        omega
      obtain ⟨X, hX⟩ : ∃ X : ByteArray, ofL (D j) = X := ⟨_, rfl⟩
      have hXl : X.data.toList = D j := by rw [← hX, ofL_list]
      obtain ⟨d, hd⟩ : ∃ d : UInt8, vs[j] = d := ⟨_, rfl⟩
      have hdl := d.toNat_lt
      have hdg := fun w => digits_any (d.toNat : Int) (by omega) (by omega) w
      have hXd : ofL (Lib.itoa (d.toNat : Int)) = X := by rw [← hX, HDv.out j hjv, hd]
      simp only [hXd] at hdg
      have x0 : wr.cell? ⟨b0, f0 + j, none⟩ = some (.int .u8 d.toNat) := by rw [hbel.cell (p := ⟨b0, _, none⟩) hb0, HCv.out j hjv, hd]
      have hdr : Below wr.heap.size wr wr.drew := ⟨rfl, rfl, rfl, Nat.le_refl _, fun _ _ => rfl⟩
      have HAtD := Lib.hid (HAt.out.go hdr)
      have hst1 : smallT [X.data.toList] := ⟨by simp, by intro s hs; simp only [List.mem_singleton] at hs; rw [hs, hXl]; have := HDl.out j; omega⟩
      have hset := setA_put4 (wantA D j) j hjn (by rw [hWA]; rfl) X.data.toList (by rw [hXl]; exact HDn.out j)
      rw [hXl, ← wantA_succ D j hlt, ← hXl] at hset
      have HSet := Lib.hid hset
      have HNm := Lib.hid hnm
      have HNs := Lib.hid hns
      have HSmA := Lib.hid hsmA
      have HST1 := Lib.hid hst1
      have HDg := Lib.hid hdg
      have HXl := Lib.hid hXl
      have p0 := HAt.out.a0
      have p1 := HAt.out.a1
      have pn := HAt.out.names j hlt
      have hwr : IntKind.i64.wrap (d.toNat : Int) = (d.toNat : Int) := by rw [IntKind.wrap_i64]; omega
      clear hat hWA hsmA hnm hns hX hXl hd hdg hXd hdr hst1 hset hbel
      go_wp2
      go_cut [9] from 15 to 56 (fun s9 wx => s9 = .int .i64 (((j : Int) + (t : Int)) % 4) ∧ ∃ va', OrdAt w.heap.size n1 n2 w wx (mkN names4 (wantA D (j + 1))) (mkN names4 (wantB D t j)) va' (.slice vba vbn vbc))
      case first =>
        go_region_law (first
          | (go_simp; go_at_call 24; ((with_reducible refine (HDg.out _).mono ?_); rintro e w4 ⟨rfl, hb4⟩; have HAt4 := Lib.hid (HAtD.out.go hb4); have s0 := HAt4.out.a0; have s1 := HAt4.out.a1; have sn := HAt4.out.names j hlt; have HAtE := Lib.hid (HAt4.out.go (Below.alloc (Below.refl w4.heap.size w4) (Nat.le_refl _) (.cells #[.string X] 9))); have u0 := HAtE.out.a0; have u1 := HAtE.out.a1; have un' := HAtE.out.names j hlt; have HIA := Lib.hid (ownA_isA HAtE.out.ownA (Nat.le_trans HSmA.out.1 (by unfold maxLen; decide))); have HIT := Lib.hid (isT_one w4 X (w4.alloc (.cells #[.string X] 9)).heap.size (by simp)); clear hb4))
          | (go_simp; go_at_call 36; ((with_reducible refine (set_any ⟨#[]⟩ (nameB4 j) (mkN names4 (wantA D j)) [X.data.toList] (by decide) (HNs.out j hjn) HSmA.out HST1.out _ _ _ HIA.out HIT.out).mono ?_); rintro e w5 ⟨v5, rfl, hown5, hb5⟩; have HAt5 := Lib.hid (HAtE.out.go hb5); have r0 := HAt5.out.a0; have r1 := HAt5.out.a1; have r2 := HAt5.out.az0; have r3 := HAt5.out.az1; have HO5 := Lib.hid (ownA_lower (B' := w.heap.size + 3) hown5 HAtE.out.size); (obtain ⟨ua, un, uc, rfl⟩ := ownA_sl hown5); clear hown5 hb5)))
        all_goals
          have hfin := HAt5.out.putA (L' := mkN names4 (wantA D (j + 1))) (by have := HO5.out; rwa [HNm.out, HSet.out] at this)
          have HFin := Lib.hid hfin
          clear hfin r0 r1 r2 r3 p0 p1 pn
          go_simp
          go_wp2_with fail
          go_meet
          exact ⟨rfl, _, HFin.out⟩
      case rest =>
        obtain ⟨rfl, va2, hat2⟩ := hcut
        obtain ⟨v2a, v2n, v2c, rfl⟩ := ownA_sl hat2.ownA
        clear HSet HNm HST1 HDg HXl p0 p1 pn x0 hwr HAtD
        have HC2 := Lib.hid hat2
        obtain ⟨q, hq⟩ : ∃ q, q = (j + t) % 4 := ⟨_, rfl⟩
        have hqi : ((j : Int) + (t : Int)) % 4 = (q : Int) := by omega
        have hq4 : q < 4 := by omega
        rw [hqi]
        have HQ := Lib.hid hq
        have hqn : q < names4.length := hq4
        have hWB := wantB_len D t j
        have hsmB := small_mk4 (wantB D t j) (fun x hx => by
          simp only [wantB, List.mem_map] at hx
          obtain ⟨k, _, rfl⟩ := hx
          have := HDl.out k
          split <;> simp <;> omega)
        have hnm2 : (nameB4 q).data.toList = names4[q] := by unfold nameB4; rw [ofL_list, List.getD_eq_getElem?_getD, List.getElem?_eq_getElem hqn]; rfl
        obtain ⟨F, hF⟩ : ∃ F : ByteArray, F = ⟨#[102, 105, 114, 115, 116]⟩ := ⟨_, rfl⟩
        have hFl : F.data.toList ≠ [] := by rw [hF]; simp
        have hFs : F.data.toList.length ≤ 16 := by rw [hF]; decide
        have hset2 := setA_put4 (wantB D t j) q hqn (by rw [hWB]; rfl) F.data.toList hFl
        have hst2 : smallT [F.data.toList] := ⟨by simp, by intro s hs; simp only [List.mem_singleton] at hs; rw [hs]; omega⟩
        have hdr : Below wc.heap.size wc wc.drew := ⟨rfl, rfl, rfl, Nat.le_refl _, fun _ _ => rfl⟩
        have hal : Below wc.heap.size wc (wc.alloc (.cells #[.string F] 9)) := (Below.refl _ _).alloc (Nat.le_refl _) _
        have HAtE := Lib.hid (HC2.out.go (hal.trans ⟨rfl, rfl, rfl, Nat.le_refl _, fun _ _ => rfl⟩ : Below wc.heap.size wc (wc.alloc (.cells #[.string F] 9)).drew))
        have HAtF := Lib.hid (HC2.out.go hal)
        have p0 := HC2.out.b0
        have p1 := HC2.out.b1
        have pn := HC2.out.names q hq4
        have u0 := HAtF.out.b0
        have u1 := HAtF.out.b1
        have un' := HAtF.out.names q hq4
        have HIA := Lib.hid (ownA_isA HAtE.out.ownB (Nat.le_trans hsmB.1 (by unfold maxLen; decide)))
        have HIT : Hid (IsT (wc.alloc (.cells #[.string F] 9)).drew.heap.size (wc.alloc (.cells #[.string F] 9)).drew [F.data.toList] (.slice (some ⟨wc.heap.size, 0, none⟩) 1 1)) := Lib.hid ((isT_one wc F (wc.alloc (.cells #[.string F] 9)).heap.size (by simp)).below ⟨rfl, rfl, rfl, Nat.le_refl _, fun _ _ => rfl⟩ (Nat.le_refl _))
        have HSet2 := Lib.hid hset2
        have HNm2 := Lib.hid hnm2
        have HSmB := Lib.hid hsmB
        have HST2 := Lib.hid hst2
        have HFs := Lib.hid hFs
        have HWB := Lib.hid hWB
        have hq4i : (q : Int) < 4 := by omega
        clear hat2 hq hqi hWB hsmB hnm2 hFl hFs hset2 hst2 hdr hal
        subst hF
        go_wp2
        go_cut [9] from 15 to 56 (fun s9 wx => s9 = .int .i64 (q : Int) ∧ ∃ vb', OrdAt w.heap.size n1 n2 w wx (mkN names4 (wantA D (j + 1))) (mkN names4 ((wantB D t j).set q (⟨#[102, 105, 114, 115, 116]⟩ : ByteArray).data.toList)) (.slice v2a v2n v2c) vb')
        case first =>
          go_region_law (go_simp; go_at_call 36; ((with_reducible refine (set_any ⟨#[]⟩ (nameB4 q) (mkN names4 (wantB D t j)) [(⟨#[102, 105, 114, 115, 116]⟩ : ByteArray).data.toList] (by decide) (HNs.out q hqn) HSmB.out HST2.out _ _ _ HIA.out HIT.out).mono ?_); rintro e w5 ⟨v5, rfl, hown5, hb5⟩; have HAt5 := Lib.hid (HAtE.out.go hb5); have r0 := HAt5.out.b0; have r1 := HAt5.out.b1; have r2 := HAt5.out.bz0; have r3 := HAt5.out.bz1; have HO5 := Lib.hid (ownA_lower (B' := w.heap.size + 3) hown5 HAtE.out.size); (obtain ⟨ua, un, uc, rfl⟩ := ownA_sl hown5); clear hown5 hb5))
          all_goals
            have hfin := HAt5.out.putB (L' := mkN names4 ((wantB D t j).set q (⟨#[102, 105, 114, 115, 116]⟩ : ByteArray).data.toList)) (by have := HO5.out; rwa [HNm2.out, HSet2.out] at this)
            have HFin := Lib.hid hfin
            clear hfin r0 r1 r2 r3 p0 p1 pn u0 u1 un'
            go_simp
            go_wp2_with fail
            go_meet
            exact ⟨rfl, _, HFin.out⟩
        case rest =>
          obtain ⟨rfl, vb3, hat3⟩ := hcut
          obtain ⟨v3a, v3n, v3c, rfl⟩ := ownA_sl hat3.ownB
          clear p0 p1 pn u0 u1 un' HAtE HAtF HIA HIT HSet2 HST2
          have HC3 := Lib.hid hat3
          have hqv : q < vs.length := by omega
          have q5 : (q : Int) < (vs.length : Int) := by omega
          obtain ⟨Y, hY⟩ : ∃ Y : ByteArray, ofL (D q) = Y := ⟨_, rfl⟩
          have hYl : Y.data.toList = D q := by rw [← hY, ofL_list]
          obtain ⟨g, hg⟩ : ∃ g : UInt8, vs[q] = g := ⟨_, rfl⟩
          have hgl := g.toNat_lt
          have hdg := fun w => digits_any (g.toNat : Int) (by omega) (by omega) w
          have hYd : ofL (Lib.itoa (g.toNat : Int)) = Y := by rw [← hY, HDv.out q hqv, hg]
          simp only [hYd] at hdg
          have x0 : wc.cell? ⟨b0, f0 + q, none⟩ = some (.int .u8 g.toNat) := by rw [hat3.bel.cell (p := ⟨b0, _, none⟩) hb0, HCv.out q hqv, hg]
          have hdr : Below wc.heap.size wc wc.drew := ⟨rfl, rfl, rfl, Nat.le_refl _, fun _ _ => rfl⟩
          have HAtD := Lib.hid (HC3.out.go hdr)
          have hst3 : smallT [Y.data.toList] := ⟨by simp, by intro s hs; simp only [List.mem_singleton] at hs; rw [hs, hYl]; have := HDl.out q; omega⟩
          have hsmC := small_mk4 ((wantB D t j).set q (⟨#[102, 105, 114, 115, 116]⟩ : ByteArray).data.toList) (fun x hx => by
            rcases List.mem_or_eq_of_mem_set hx with h1 | rfl
            · simp only [wantB, List.mem_map] at h1
              obtain ⟨k, _, rfl⟩ := h1
              have := HDl.out k
              split <;> simp <;> omega
            · decide)
          have hset3 := setA_put4 ((wantB D t j).set q (⟨#[102, 105, 114, 115, 116]⟩ : ByteArray).data.toList) q hqn (by rw [List.length_set, HWB.out]; rfl) Y.data.toList (by rw [hYl]; exact HDn.out q)
          have hfull : ((wantB D t j).set q (⟨#[102, 105, 114, 115, 116]⟩ : ByteArray).data.toList).set q Y.data.toList = wantB D t (j + 1) := by rw [setset, hYl, wantB_succ, ← HQ.out]
          rw [hfull] at hset3
          have HSet3 := Lib.hid hset3
          have HSmC := Lib.hid hsmC
          have HST3 := Lib.hid hst3
          have HDg := Lib.hid hdg
          have p0 := HC3.out.b0
          have p1 := HC3.out.b1
          have pn := HC3.out.names q hq4
          have hwr : IntKind.i64.wrap (g.toNat : Int) = (g.toNat : Int) := by rw [IntKind.wrap_i64]; omega
          clear hat3 hY hYl hg hdg hYd hdr hst3 hsmC hset3 hfull
          go_wp2
          go_region_law (first
            | (go_simp; go_at_call 24; ((with_reducible refine (HDg.out _).mono ?_); rintro e w4 ⟨rfl, hb4⟩; have HAt4 := Lib.hid (HAtD.out.go hb4); have s0 := HAt4.out.b0; have s1 := HAt4.out.b1; have sn := HAt4.out.names q hq4; have HAtE := Lib.hid (HAt4.out.go (Below.alloc (Below.refl w4.heap.size w4) (Nat.le_refl _) (.cells #[.string Y] 9))); have u0 := HAtE.out.b0; have u1 := HAtE.out.b1; have un' := HAtE.out.names q hq4; have HIA := Lib.hid (ownA_isA HAtE.out.ownB (Nat.le_trans HSmC.out.1 (by unfold maxLen; decide))); have HIT := Lib.hid (isT_one w4 Y (w4.alloc (.cells #[.string Y] 9)).heap.size (by simp)); clear hb4))
            | (go_simp; go_at_call 36; ((with_reducible refine (set_any ⟨#[]⟩ (nameB4 q) (mkN names4 ((wantB D t j).set q (⟨#[102, 105, 114, 115, 116]⟩ : ByteArray).data.toList)) [Y.data.toList] (by decide) (HNs.out q hqn) HSmC.out HST3.out _ _ _ HIA.out HIT.out).mono ?_); rintro e w5 ⟨v5, rfl, hown5, hb5⟩; have HAt5 := Lib.hid (HAtE.out.go hb5); have r0 := HAt5.out.b0; have r1 := HAt5.out.b1; have r2 := HAt5.out.bz0; have r3 := HAt5.out.bz1; have HO5 := Lib.hid (ownA_lower (B' := w.heap.size + 3) hown5 HAtE.out.size); (obtain ⟨ua, un, uc, rfl⟩ := ownA_sl hown5); clear hown5 hb5)))
          all_goals
            have hfin := HAt5.out.putB (L' := mkN names4 (wantB D t (j + 1))) (by have := HO5.out; rwa [HNm2.out, HSet3.out] at this)
            have HFin := Lib.hid hfin
            clear hfin r0 r1 r2 r3 p0 p1 pn
            go_simp
            go_wp2
            go_roundw
            case rel => exact ⟨j + 1, _, _, by omega, by go_num, HFin.out⟩
            case measure => simp [intOf]; omega
    · obtain rfl : j = 4 := by omega
      have hfA := full4 (D 0) (D 1) (D 2) (D 3) (HDn.out 0) (HDn.out 1) (HDn.out 2) (HDn.out 3)
      rw [wantA_all, wantB_all, hfA] at hat
      obtain ⟨L, hL⟩ : ∃ L, L = [(([99, 110] : List UInt8), [D 0]), ([109, 97, 105, 108], [D 1]), ([115, 110], [D 2]), ([117, 105, 100], [D 3])] := ⟨_, rfl⟩
      have hnl : normL L = L := by rw [hL]; exact norm4 _ _ _ _
      have hor : inOrder (normL L) := by rw [hnl, hL]; exact order4 _ _ _ _
      have hl4 : L.length = 4 := by rw [hL]; rfl
      have hsm : smallA L := by
        rw [hL, ← hfA]
        exact small_mk4 _ (fun x hx => by
          simp only [List.mem_cons, List.not_mem_nil, or_false] at hx
          rcases hx with rfl | rfl | rfl | rfl <;> (have := HDl.out; first | exact Nat.le_trans (this 0) (by decide) | exact Nat.le_trans (this 1) (by decide) | exact Nat.le_trans (this 2) (by decide) | exact Nat.le_trans (this 3) (by decide)))
      rw [← hL] at hat
      clear hfA hL
      have hvan : van = 4 := by
        obtain ⟨_, _, h⟩ := ownA_slice hat.ownA
        simp only [Value.slice.injEq] at h
        rw [h.2.1]; exact hl4
      subst hvan
      have HAt4 := Lib.hid hat
      have HNl := Lib.hid hnl
      have HOr := Lib.hid hor
      have HL4 := Lib.hid hl4
      have HSm := Lib.hid hsm
      have p0 := hat.a0
      have p1 := hat.a1
      have r0 := hat.b0
      have r1 := hat.b1
      clear hat hnl hor hl4 hsm HAt hbel
      have HLm : Hid (L.length ≤ maxLen) := Lib.hid (by rw [HL4.out]; unfold maxLen; decide)
      have hN := fun (w : World) (h : IsA w.heap.size w L (.slice vaa 4 vac)) => norm_entry ⟨#[]⟩ (by decide) L HSm.out (by rw [HL4.out]; decide) HOr.out (.slice vaa 4 vac) w h
      have hnn : strV (nameN (⟨#[]⟩ : ByteArray).data.toList) = .string ⟨#[]⟩ := by rw [show (⟨#[]⟩ : ByteArray).data.toList = [] from rfl, nameN_nil]; rfl
      simp only [hnn, HNl.out] at hN
      have HNo := Lib.hid hN
      have HIsA := Lib.hid (fun w' (h : OrdAt w.heap.size n1 n2 w w' L L (.slice vaa 4 vac) (.slice vba vbn vbc)) => h.isaA HLm.out)
      have HIsB := Lib.hid (fun w' (h : OrdAt w.heap.size n1 n2 w w' L L (.slice vaa 4 vac) (.slice vba vbn vbc)) => h.isaB HLm.out)
      have HLd := Lib.hid (fun w' (h : OrdAt w.heap.size n1 n2 w w' L L (.slice vaa 4 vac) (.slice vba vbn vbc)) => HW.out.below h.bel)
      clear hN hnn
      go_wp2
      have hst := OrdAt.keep HAt4.out (Below.refl wr.heap.size wr)
      go_region_held3 (fun w' => w'.cell? ⟨n1, 0, none⟩ = some (.string ⟨#[]⟩) ∧ w'.cell? ⟨n1, 1, none⟩ = some (.slice vaa 4 vac) ∧ w'.cell? ⟨n2, 0, none⟩ = some (.string ⟨#[]⟩) ∧ w'.cell? ⟨n2, 1, none⟩ = some (.slice vba vbn vbc) ∧ OrdAt w.heap.size n1 n2 w w' L L (.slice vaa 4 vac) (.slice vba vbn vbc))
        (first | exact hst | (go_split_ands; exact OrdAt.keep (by assumption) hbA) | (go_split_ands; exact OrdAt.keep (by assumption) hbB) | (go_split_ands; exact OrdAt.keep (by assumption) hbC) | (go_split_ands; exact OrdAt.keep (by assumption) hbD) | (go_split_ands; exact OrdAt.keep (by assumption) hbE) | (go_split_ands; exact OrdAt.keep (by assumption) (Below.refl _ _).drew) | (go_split_ands; exact OrdAt.keep (by assumption) (Below.refl _ _)))
        (first
          | (go_at_call 37; go_split_ands; (with_reducible refine (same_entry ⟨#[]⟩ ⟨#[]⟩ L L HSm.out _ _ _ (HIsA.out _ (by assumption)) (HIsB.out _ (by assumption))).mono ?_); rintro e wB ⟨he, hbB⟩; rw [beq_self_entry] at he; subst he)
          | (go_at_call 30; go_split_ands; (with_reducible refine (HNo.out _ (HIsA.out _ (by assumption))).mono ?_); rintro e wC ⟨vC, rfl, hownC, hbC⟩; (have HIC := Lib.hid (ownA_isA hownC HLm.out)); (obtain ⟨ca, cn, cc, rfl⟩ := ownA_sl hownC); clear hownC)
          | (go_at_call 29; go_split_ands; (with_reducible refine (sameRef_entry ⟨#[]⟩ ⟨#[]⟩ L L HSm.out (.slice vaa 4 vac) (.slice vba vbn vbc) _ (HIsA.out _ (by assumption)) (HIsB.out _ (by assumption))).mono ?_); rintro e wA ⟨he, hbA⟩; rw [beq_self_entry] at he; subst he)
          | (go_at_call 29; go_split_ands; (with_reducible refine (sameRef_entry ⟨#[]⟩ ⟨#[]⟩ L L HSm.out (.slice ca cn cc) (.slice vaa 4 vac) _ HIC.out (HIsA.out _ (by assumption))).mono ?_); rintro e wD ⟨he, hbD⟩; rw [beq_self_entry] at he; subst he)
          | (go_at_call 27; go_split_ands; (with_reducible refine (awake5_any _ (HLd.out _ (by assumption))).mono ?_); rintro e wE ⟨rfl, hbE⟩))
      go_split_ands
      have hfE : OrdAt w.heap.size n1 n2 w wE L L (.slice vaa 4 vac) (.slice vba vbn vbc) := by assumption
      have HFE := Lib.hid hfE.bel
      clear hfE
      go_wp2
      go_ret
      exact ⟨rfl, HFE.out⟩
end Go.Proofs.YtngbpegjoihajaaGreatDoor
