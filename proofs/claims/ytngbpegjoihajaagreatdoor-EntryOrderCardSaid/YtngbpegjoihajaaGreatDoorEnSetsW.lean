/- EntrySets: the walk. -/
import Derived.Test.YtngbpegjoihajaaGreatDoorEnAwake
import Derived.Test.YtngbpegjoihajaaGreatDoorEnSetsP
import Derived.Test.YtngbpegjoihajaaGreatDoorMaDig
import Derived.Test.YtngbpegjoihajaaGreatDoorMaNumP
import Derived.Test.YtngbpegjoihajaaGreatDoorArg
namespace Go.Proofs.YtngbpegjoihajaaGreatDoor
open Go.RowKit
set_option linter.unusedVariables false

theorem strV_ofL (l : List UInt8) : strV l = .string (ofL l) := rfl
def nameB (k : Nat) : ByteArray := ofL (namesL.getD k [])
/-- The three rows of EntrySets: the names (n), the entry (n + 1), what is wanted (n + 2); what else there is lies behind them. -/
structure SetsAt (n n1 n2 : Nat) (w wr : World) (W : List (List UInt8)) (L : List AT) (v : Value) : Prop where
  e1 : n1 = n + 1
  e2 : n2 = n + 2
  len : W.length = 9
  small : ∀ d ∈ W, d.length ≤ 100
  names : ∀ k, k < 9 → wr.cell? ⟨n, k, none⟩ = some (.string (nameB k))
  dn : wr.cell? ⟨n1, 0, none⟩ = some (.string ⟨#[111, 61, 120]⟩)
  attrs : wr.cell? ⟨n1, 1, none⟩ = some v
  fr0 : wr.frozen? ⟨n1, 0, none⟩ = false
  fr1 : wr.frozen? ⟨n1, 1, none⟩ = false
  want : ∀ k (h : k < W.length), wr.cell? ⟨n2, k, none⟩ = some (strV W[k])
  frw : ∀ k, k < 9 → wr.frozen? ⟨n2, k, none⟩ = false
  size : n + 3 ≤ wr.heap.size
  own : OwnA (n + 3) wr v L
  bel : Below n w wr
theorem SetsAt.go {n n1 n2 : Nat} {w wr w2 : World} {W : List (List UInt8)} {L : List AT} {v : Value} (h : SetsAt n n1 n2 w wr W L v) (hb : Below wr.heap.size wr w2) : SetsAt n n1 n2 w w2 W L v where
  e1 := h.e1
  e2 := h.e2
  len := h.len
  small := h.small
  names := fun k hk => (hb.cell (p := ⟨n, k, none⟩) (show n < wr.heap.size by have := h.size; omega)).trans (h.names k hk)
  dn := (hb.cell (p := ⟨n1, 0, none⟩) (show n1 < wr.heap.size by have := h.size; have := h.e1; omega)).trans h.dn
  attrs := (hb.cell (p := ⟨n1, 1, none⟩) (show n1 < wr.heap.size by have := h.size; have := h.e1; omega)).trans h.attrs
  fr0 := (hb.frozen (p := ⟨n1, 0, none⟩) (show n1 < wr.heap.size by have := h.size; have := h.e1; omega)).trans h.fr0
  fr1 := (hb.frozen (p := ⟨n1, 1, none⟩) (show n1 < wr.heap.size by have := h.size; have := h.e1; omega)).trans h.fr1
  want := fun k hk => (hb.cell (p := ⟨n2, k, none⟩) (show n2 < wr.heap.size by have := h.size; have := h.e2; omega)).trans (h.want k hk)
  frw := fun k hk => (hb.frozen (p := ⟨n2, k, none⟩) (show n2 < wr.heap.size by have := h.size; have := h.e2; omega)).trans (h.frw k hk)
  size := Nat.le_trans h.size hb.size
  own := ownA_below h.own hb
  bel := h.bel.trans (hb.mono (by have := h.size; omega))
theorem SetsAt.wantSet {n n1 n2 : Nat} {w wr : World} {W : List (List UInt8)} {L : List AT} {v : Value} (h : SetsAt n n1 n2 w wr W L v) (k : Nat) (hk : k < 9) (d : List UInt8) (hd : d.length ≤ 100) :
    SetsAt n n1 n2 w (wr.setCell ⟨n2, k, none⟩ (strV d)) (W.set k d) L v where
  e1 := h.e1
  e2 := h.e2
  len := by rw [List.length_set]; exact h.len
  small := fun x hx => by
    rcases List.mem_or_eq_of_mem_set hx with h1 | rfl
    · exact h.small x h1
    · exact hd
  names := fun j hj => (World.cell?_setCell_other _ _ _ _ (by have := h.e1; have := h.e2; intro e; simp at e; try omega)).trans (h.names j hj)
  dn := (World.cell?_setCell_other _ _ _ _ (by have := h.e1; have := h.e2; intro e; simp at e; try omega)).trans h.dn
  attrs := (World.cell?_setCell_other _ _ _ _ (by have := h.e1; have := h.e2; intro e; simp at e; try omega)).trans h.attrs
  fr0 := (World.frozen?_setCell ..).trans h.fr0
  fr1 := (World.frozen?_setCell ..).trans h.fr1
  want := fun j hj => by
    by_cases e : k = j
    · subst e
      have hc := h.want k (by rw [h.len]; exact hk)
      rw [World.cell?_setCell_same _ _ _ hc]
      simp
    · rw [World.cell?_setCell_other _ _ _ _ (fun e2 => e (congrArg Addr.off e2)), h.want j (by simpa using hj)]
      simp [List.getElem_set_ne e]
  frw := fun j hj => (World.frozen?_setCell ..).trans (h.frw j hj)
  size := by simpa [World.setCell] using h.size
  own := ownA_set h.own _ _ (show n2 < n + 3 by have := h.e2; omega)
  bel := h.bel.setCell (p := ⟨n2, k, none⟩) (show n ≤ n2 by have := h.e2; omega) _
theorem SetsAt.entrySet {n n1 n2 : Nat} {w wr : World} {W : List (List UInt8)} {L L' : List AT} {v v' : Value} (h : SetsAt n n1 n2 w wr W L v) (hown : OwnA (n + 3) wr v' L') :
    SetsAt n n1 n2 w ((wr.setCell ⟨n1, 0, none⟩ (.string ⟨#[111, 61, 120]⟩)).setCell ⟨n1, 1, none⟩ v') W L' v' where
  e1 := h.e1
  e2 := h.e2
  len := h.len
  small := h.small
  names := fun j hj => ((World.cell?_setCell_other _ _ _ _ (by have := h.e1; have := h.e2; intro e; simp at e; try omega)).trans (World.cell?_setCell_other _ _ _ _ (by have := h.e1; have := h.e2; intro e; simp at e; try omega))).trans (h.names j hj)
  dn := (World.cell?_setCell_other _ _ _ _ (by have := h.e1; have := h.e2; intro e; simp at e; try omega)).trans (World.cell?_setCell_same _ _ _ h.dn)
  attrs := World.cell?_setCell_same _ _ _ ((World.cell?_setCell_other _ _ _ _ (by have := h.e1; have := h.e2; intro e; simp at e; try omega)).trans h.attrs)
  fr0 := ((World.frozen?_setCell ..).trans (World.frozen?_setCell ..)).trans h.fr0
  fr1 := ((World.frozen?_setCell ..).trans (World.frozen?_setCell ..)).trans h.fr1
  want := fun j hj => ((World.cell?_setCell_other _ _ _ _ (by have := h.e1; have := h.e2; intro e; simp at e; try omega)).trans (World.cell?_setCell_other _ _ _ _ (by have := h.e1; have := h.e2; intro e; simp at e; try omega))).trans (h.want j hj)
  frw := fun j hj => ((World.frozen?_setCell ..).trans (World.frozen?_setCell ..)).trans (h.frw j hj)
  size := by simpa [World.setCell] using h.size
  own := ownA_set (ownA_set hown _ _ (show n1 < n + 3 by have := h.e1; omega)) _ _ (show n1 < n + 3 by have := h.e1; omega)
  bel := (h.bel.setCell (p := ⟨n1, 0, none⟩) (show n ≤ n1 by have := h.e1; omega) _).setCell (p := ⟨n1, 1, none⟩) (show n ≤ n1 by have := h.e1; omega) _
theorem smallT_nil : smallT [] := ⟨by simp, by simp⟩
theorem mk9 (w : World) : (Instr.makeSlice 27 (.int .i64 9) (.int .i64 9)).run Tryz.prog w = .ok (.slice (some ⟨w.heap.size, 0, none⟩) 9 9) (w.alloc (.cells #[.string ⟨#[]⟩, .string ⟨#[]⟩, .string ⟨#[]⟩, .string ⟨#[]⟩, .string ⟨#[]⟩, .string ⟨#[]⟩, .string ⟨#[]⟩, .string ⟨#[]⟩, .string ⟨#[]⟩] 9)) := by kernel_rfl
def namesA : Array Value := #[.string ⟨#[99, 110]⟩, .string ⟨#[100, 101, 115, 99, 114, 105, 112, 116, 105, 111, 110]⟩, .string ⟨#[109, 97, 105, 108]⟩, .string ⟨#[109, 101, 109, 98, 101, 114]⟩, .string ⟨#[111]⟩, .string ⟨#[111, 98, 106, 101, 99, 116, 99, 108, 97, 115, 115]⟩, .string ⟨#[111, 117]⟩, .string ⟨#[115, 110]⟩, .string ⟨#[117, 105, 100]⟩]
def emptyA : Array Value := #[.string ⟨#[]⟩, .string ⟨#[]⟩, .string ⟨#[]⟩, .string ⟨#[]⟩, .string ⟨#[]⟩, .string ⟨#[]⟩, .string ⟨#[]⟩, .string ⟨#[]⟩, .string ⟨#[]⟩]
theorem sets_start (w : World) : SetsAt w.heap.size (w.heap.size + 1) (w.heap.size + 1 + 1) w (((w.alloc (.cells namesA 9)).alloc (.cells #[.string ⟨#[111, 61, 120]⟩, .slice none 0 0] 24)).alloc (.cells emptyA 9)) (List.replicate 9 []) [] (.slice none 0 0) := by
  obtain ⟨a, ha⟩ : ∃ a, a = w.alloc (.cells namesA 9) := ⟨_, rfl⟩
  have za : a.heap.size = w.heap.size + 1 := by rw [ha]; simp
  have ga : a.heap[w.heap.size]? = some (.cells namesA 9 (0, 0)) := by rw [ha]; exact heap_alloc_new w _
  obtain ⟨b, hb⟩ : ∃ b, b = a.alloc (.cells #[.string ⟨#[111, 61, 120]⟩, .slice none 0 0] 24) := ⟨_, rfl⟩
  have zb : b.heap.size = w.heap.size + 2 := by rw [hb]; simp [za]
  have gb : b.heap[w.heap.size]? = some (.cells namesA 9 (0, 0)) := by rw [hb]; exact (heap_alloc_old a _ (by omega)).trans ga
  have gb1 : b.heap[w.heap.size + 1]? = some (.cells #[.string ⟨#[111, 61, 120]⟩, .slice none 0 0] 24 (0, 0)) := by rw [hb, ← za]; exact heap_alloc_new a _
  have gc : (b.alloc (.cells emptyA 9)).heap[w.heap.size]? = some (.cells namesA 9 (0, 0)) := (heap_alloc_old b _ (by omega)).trans gb
  have gc1 : (b.alloc (.cells emptyA 9)).heap[w.heap.size + 1]? = some (.cells #[.string ⟨#[111, 61, 120]⟩, .slice none 0 0] 24 (0, 0)) := (heap_alloc_old b _ (by omega)).trans gb1
  have gc2 : (b.alloc (.cells emptyA 9)).heap[w.heap.size + 2]? = some (.cells emptyA 9 (0, 0)) := by rw [← zb]; exact heap_alloc_new b _
  rw [← ha, ← hb]
  exact {
    e1 := rfl
    e2 := rfl
    len := by simp
    small := fun d hd => by rw [List.eq_of_mem_replicate hd]; simp
    names := fun k hk => by
      simp only [World.cell?, gc]
      rcases (show k = 0 ∨ k = 1 ∨ k = 2 ∨ k = 3 ∨ k = 4 ∨ k = 5 ∨ k = 6 ∨ k = 7 ∨ k = 8 from by omega) with rfl | rfl | rfl | rfl | rfl | rfl | rfl | rfl | rfl <;> rfl
    dn := by simp only [World.cell?, gc1]; rfl
    attrs := by simp only [World.cell?, gc1]; rfl
    fr0 := by simp only [World.frozen?, gc1]; rfl
    fr1 := by simp only [World.frozen?, gc1]; rfl
    want := fun k hk => by
      simp only [World.cell?, gc2]
      rw [List.length_replicate] at hk
      rw [List.getElem_replicate]
      rcases (show k = 0 ∨ k = 1 ∨ k = 2 ∨ k = 3 ∨ k = 4 ∨ k = 5 ∨ k = 6 ∨ k = 7 ∨ k = 8 from by omega) with rfl | rfl | rfl | rfl | rfl | rfl | rfl | rfl | rfl <;> rfl
    frw := fun k hk => by simp only [World.frozen?, gc2]; simp
    size := by simp [zb]
    own := ownA_nil _ _
    bel := by
      have h1 : Below w.heap.size w a := by rw [ha]; exact (Below.refl _ _).alloc (Nat.le_refl _) _
      have h2 : Below w.heap.size w b := by rw [hb]; exact h1.alloc (by omega) _
      exact h2.alloc (by omega) _ }

set_option maxRecDepth 100000 in
set_option maxHeartbeats 8000000 in
theorem sets_walk (ts vs : List UInt8) (a0 a1 : Option Addr) (c0 c1 : Nat) (w : World) (hw : LaidW w) (h0 : IsB w.heap.size w ts a0 c0) (h1 : IsB w.heap.size w vs a1 c1) :
    Calls Tryz.prog 11 #[.slice a0 ts.length c0, .slice a1 vs.length c1] w fun e w' => e = .returned (.bool true) ∧ Below w.heap.size w w' := by
  have HW := Lib.hid hw
  obtain ⟨hm0, hc0⟩ := h0
  obtain ⟨hm1, hc1⟩ := h1
  unfold maxLen at hm0 hm1
  have HC0 := Lib.hid hc0
  have HC1 := Lib.hid hc1
  clear hw hc0 hc1
  by_cases h30 : 30 < ts.length
  · have t0 : decide ((30 : Int) < (ts.length : Int)) = true := by simp; omega
    go_enter Tryz.func11, Tryz.ntmps11
    go_wp2_with (go_at_call 27; refine (awake5_any _ HW.out).mono ?_; rintro e w2 ⟨rfl, hb2⟩; have HB := Lib.hid hb2; clear hb2)
    go_ret
    exact ⟨rfl, HB.out⟩
  have t0 : decide ((30 : Int) < (ts.length : Int)) = false := by simp; omega
  by_cases hlt : vs.length < ts.length
  · have t1 : decide ((vs.length : Int) < (ts.length : Int)) = true := by simp; omega
    have t1' : decide (vs.length < ts.length) = true := by simpa using hlt
    go_enter Tryz.func11, Tryz.ntmps11
    go_wp2_with (go_at_call 27; refine (awake5_any _ HW.out).mono ?_; rintro e w2 ⟨rfl, hb2⟩; have HB := Lib.hid hb2; clear hb2)
    go_ret
    exact ⟨rfl, HB.out⟩
  have t1 : decide ((vs.length : Int) < (ts.length : Int)) = false := by simp; omega
  have t1' : decide (vs.length < ts.length) = false := by simpa using hlt
  have hmk := mk9
  have hst := sets_start w
  obtain ⟨wr, hwr⟩ : ∃ wr, wr = (((w.alloc (.cells namesA 9)).alloc (.cells #[.string ⟨#[111, 61, 120]⟩, .slice none 0 0] 24)).alloc (.cells emptyA 9)) := ⟨_, rfl⟩
  rw [← hwr] at hst
  have HSt := Lib.hid hst
  have hwr2 : Hid (wr = (((w.alloc (.cells #[.string ⟨#[99, 110]⟩, .string ⟨#[100, 101, 115, 99, 114, 105, 112, 116, 105, 111, 110]⟩, .string ⟨#[109, 97, 105, 108]⟩, .string ⟨#[109, 101, 109, 98, 101, 114]⟩, .string ⟨#[111]⟩, .string ⟨#[111, 98, 106, 101, 99, 116, 99, 108, 97, 115, 115]⟩, .string ⟨#[111, 117]⟩, .string ⟨#[115, 110]⟩, .string ⟨#[117, 105, 100]⟩] 9)).alloc (.cells #[.string ⟨#[111, 61, 120]⟩, .slice none 0 0] 24)).alloc (.cells #[.string ⟨#[]⟩, .string ⟨#[]⟩, .string ⟨#[]⟩, .string ⟨#[]⟩, .string ⟨#[]⟩, .string ⟨#[]⟩, .string ⟨#[]⟩, .string ⟨#[]⟩, .string ⟨#[]⟩] 9))) := Lib.hid hwr
  clear hwr hst
  go_enter Tryz.func11, Tryz.ntmps11
  go_wp2
  rw [← hwr2.out]
  clear hwr2 hmk
  have HSt2 := HSt
  generalize w.heap.size + 1 + 1 = n2 at HSt2 ⊢
  generalize w.heap.size + 1 = n1 at HSt2 ⊢
  clear HSt
  go_loopw [8] (fun i wr => ∃ (j : Nat) (W : List (List UInt8)) (v : Value), j ≤ ts.length ∧ i = .int .i64 j ∧ SetsAt w.heap.size n1 n2 w wr W (mkN namesL W) v) (fun i wr => ts.length - (intOf i).toNat)
  case atStart => exact ⟨0, _, _, by omega, rfl, HSt2.out⟩
  case round =>
    obtain ⟨j, W, v, hj, rfl, hat⟩ := hrel
    obtain ⟨va, vn, vc, rfl⟩ := ownA_sl hat.own
    have HAt := Lib.hid hat
    have hbel := hat.bel
    by_cases hlt : j < ts.length
    · have t2 : decide ((j : Int) < (ts.length : Int)) = true := by simp; omega
      have t2' : decide (j < ts.length) = true := by simpa using hlt
      have hjv : j < vs.length := by omega
      have t3' : decide (j < vs.length) = true := by simpa using hjv
      have q3 : (j : Int) < (vs.length : Int) := by omega
      obtain ⟨b0, f0, rfl, hb0, hc0⟩ := HC0.out.resolve_left (by intro e; subst e; simp at hlt)
      obtain ⟨b1, f1, rfl, hb1, hc1⟩ := HC1.out.resolve_left (by intro e; subst e; simp at hjv)
      obtain ⟨c, hc⟩ : ∃ c : UInt8, ts[j] = c := ⟨_, rfl⟩
      obtain ⟨d, hd⟩ : ∃ d : UInt8, vs[j] = d := ⟨_, rfl⟩
      have hcl := c.toNat_lt
      have hdl := d.toNat_lt
      have x0 : wr.cell? ⟨b0, f0 + j, none⟩ = some (.int .u8 c.toNat) := by rw [hbel.cell (p := ⟨b0, _, none⟩) hb0, hc0 j hlt, hc]
      have x1 : wr.cell? ⟨b1, f1 + j, none⟩ = some (.int .u8 d.toNat) := by rw [hbel.cell (p := ⟨b1, _, none⟩) hb1, hc1 j hjv, hd]
      have hk9 : c.toNat % 9 < 9 := Nat.mod_lt _ (by decide)
      have y0 := hat.want (c.toNat % 9) (by rw [hat.len]; exact hk9)
      obtain ⟨X0, hX0⟩ : ∃ X : ByteArray, strV (W[c.toNat % 9]'(by rw [hat.len]; exact hk9)) = .string X := ⟨_, rfl⟩
      rw [hX0] at y0
      clear hX0
      have y1 := hat.frw (c.toNat % 9) hk9
      have hsmW := small_mk W (fun x hx => Nat.le_trans (hat.small x hx) (by decide))
      have hkl : c.toNat % 9 < namesL.length := hk9
      have hWl : W.length = namesL.length := hat.len
      have hnm : (nameB (c.toNat % 9)).data.toList = namesL[c.toNat % 9] := by unfold nameB; rw [ofL_list, List.getD_eq_getElem?_getD, List.getElem?_eq_getElem hkl]; rfl
      have hns : (nameB (c.toNat % 9)).size ≤ 281474976710656 := by
        rw [← bytes_len, hnm]
        have h3 : ∀ n ∈ namesL, n.length ≤ 1000000 := by decide
        have := h3 _ (List.getElem_mem hkl)
        omega
      have HSm := Lib.hid hsmW
      have HNm := Lib.hid hnm
      have HNs := Lib.hid hns
      by_cases h60 : d.toNat < 60
      · have t4 : decide ((d.toNat : Int) < 60) = true := by simp; omega
        have hset := setA_clear W (c.toNat % 9) hkl hWl
        have HSet := Lib.hid hset
        have hat1 := hat.wantSet (c.toNat % 9) hk9 [] (by simp)
        obtain ⟨w1, hw1⟩ : ∃ w1, w1 = wr.setCell ⟨n2, c.toNat % 9, none⟩ (.string ⟨#[]⟩) := ⟨_, rfl⟩
        have hat1' : SetsAt w.heap.size n1 n2 w w1 (W.set (c.toNat % 9) []) (mkN namesL W) (.slice va vn vc) := by rw [hw1]; exact hat1
        have HAt1 := Lib.hid hat1'
        have HW1 := Lib.hid hw1
        clear hat hat1 hat1' hw1 hset hnm hns hsmW hc hd hc0 hc1 HAt hbel
        go_wp2
        rw [← HW1.out]
        have p0 := HAt1.out.dn
        have p1 := HAt1.out.attrs
        have pn := HAt1.out.names (c.toNat % 9) hk9
        have hdr : Below w1.heap.size w1 w1.drew := ⟨rfl, rfl, rfl, Nat.le_refl _, fun _ _ => rfl⟩
        have HAt2 := Lib.hid (HAt1.out.go hdr)
        have HIA := Lib.hid (ownA_isA HAt2.out.own (Nat.le_trans HSm.out.1 (by unfold maxLen; decide)))
        have hq0 : (0 : Int) ≤ (c.toNat : Int) % 9 := by omega
        have hq1 : (c.toNat : Int) % 9 < 9 := by omega
        have hq2 : ((c.toNat : Int) % 9).toNat = c.toNat % 9 := by omega
        clear hdr x0 x1 y0 y1
        go_region_law (go_simp; go_at_call 36; ((with_reducible refine (set_any ⟨#[111, 61, 120]⟩ (nameB (c.toNat % 9)) (mkN namesL W) [] (by decide) HNs.out HSm.out smallT_nil _ _ _ HIA.out (isT_nil _ _ _ _)).mono ?_); rintro e w5 ⟨v5, rfl, hown5, hb5⟩; have HAt5 := Lib.hid (HAt2.out.go hb5); have r0 := HAt5.out.dn; have r1 := HAt5.out.attrs; have r2 := HAt5.out.fr0; have r3 := HAt5.out.fr1; have HO5 := Lib.hid (ownA_lower (B' := w.heap.size + 3) hown5 HAt2.out.size); (obtain ⟨ua, un, uc, rfl⟩ := ownA_sl hown5); clear hown5 hb5))
        all_goals
          have hfin := HAt5.out.entrySet (L' := mkN namesL (W.set (c.toNat % 9) [])) (by have := HO5.out; rwa [HNm.out, HSet.out] at this)
          have HFin := Lib.hid hfin
          clear hfin r0 r1 r2 r3 p0 p1 pn hq0 hq1 hq2
          go_wp2
          go_roundw
          case rel => exact ⟨j + 1, _, _, by omega, by go_num, HFin.out⟩
          case measure => simp [intOf]; omega
      · have t4 : decide ((d.toNat : Int) < 60) = false := by simp; omega
        obtain ⟨D, hD⟩ : ∃ D, D = ofL (Lib.itoa (d.toNat : Int)) := ⟨_, rfl⟩
        have hDl : D.data.toList = Lib.itoa (d.toNat : Int) := by rw [hD, ofL_list]
        have hDn : D.data.toList ≠ [] := by rw [hDl]; exact itoa_ne _
        have hDs : D.data.toList.length ≤ 16 := by rw [hDl]; exact itoa_len _ (by omega)
        have hdg := fun w => digits_any (d.toNat : Int) (by omega) (by omega) w
        simp only [← hD] at hdg
        have HDg := Lib.hid hdg
        have hset := setA_put W (c.toNat % 9) hkl hWl D.data.toList hDn
        have HSet := Lib.hid hset
        have HDs := Lib.hid hDs
        have HX0 := Lib.hid y0
        have HY1 := Lib.hid y1
        clear hat hset hnm hns hsmW hc hd hc0 hc1 hbel hD hDl hDn hDs hdg y0 y1
        go_wp2_with (go_at_call 24; refine (HDg.out _).mono ?_; rintro e w1 ⟨rfl, hb1'⟩; have HAt1 := Lib.hid (HAt.out.go hb1'); (have y0 : w1.cell? ⟨n2, c.toNat % 9, none⟩ = some (.string X0) := (hb1'.cell (p := ⟨n2, c.toNat % 9, none⟩) (show n2 < wr.heap.size by have := HAt.out.size; have := HAt.out.e2; omega)).trans HX0.out); (have y1 : w1.frozen? ⟨n2, c.toNat % 9, none⟩ = false := (hb1'.frozen (p := ⟨n2, c.toNat % 9, none⟩) (show n2 < wr.heap.size by have := HAt.out.size; have := HAt.out.e2; omega)).trans HY1.out); clear hb1')
        have hat2 := HAt1.out.wantSet (c.toNat % 9) hk9 D.data.toList (by have := HDs.out; omega)
        rw [strV_whole] at hat2
        obtain ⟨w2, hw2⟩ : ∃ w2, w2 = w1.setCell ⟨n2, c.toNat % 9, none⟩ (.string D) := ⟨_, rfl⟩
        rw [← hw2] at hat2 ⊢
        have HAt2 := Lib.hid hat2
        clear hw2 y0 y1 x0 x1
        have p0 := HAt2.out.dn
        have p1 := HAt2.out.attrs
        have pn := HAt2.out.names (c.toNat % 9) hk9
        have pw := HAt2.out.want (c.toNat % 9) (by rw [List.length_set, hWl]; exact hkl)
        rw [List.getElem_set_self, strV_whole] at pw
        have hal : Below w2.heap.size w2 (w2.alloc (.cells #[.string D] 9)) := (Below.refl _ _).alloc (Nat.le_refl _) _
        have hdr : Below w2.heap.size w2 (w2.alloc (.cells #[.string D] 9)).drew := hal.trans ⟨rfl, rfl, rfl, Nat.le_refl _, fun _ _ => rfl⟩
        have HAtA := Lib.hid (HAt2.out.go hal)
        have q0 := HAtA.out.dn
        have q1 := HAtA.out.attrs
        have qn := HAtA.out.names (c.toNat % 9) hk9
        have qw := HAtA.out.want (c.toNat % 9) (by rw [List.length_set, hWl]; exact hkl)
        rw [List.getElem_set_self, strV_whole] at qw
        have HAt3 := Lib.hid (HAt2.out.go hdr)
        have HIA := Lib.hid (ownA_isA HAt3.out.own (Nat.le_trans HSm.out.1 (by unfold maxLen; decide)))
        have HIT : Hid (IsT (w2.alloc (.cells #[.string D] 9)).drew.heap.size (w2.alloc (.cells #[.string D] 9)).drew [D.data.toList] (.slice (some ⟨w2.heap.size, 0, none⟩) 1 1)) := Lib.hid ((isT_one w2 D (w2.alloc (.cells #[.string D] 9)).heap.size (by simp)).below ⟨rfl, rfl, rfl, Nat.le_refl _, fun _ _ => rfl⟩ (Nat.le_refl _))
        have hst1 : smallT [D.data.toList] := ⟨by simp, by intro s hs; simp only [List.mem_singleton] at hs; rw [hs]; have := HDs.out; omega⟩
        have HST1 := Lib.hid hst1
        have hq0 : (0 : Int) ≤ (c.toNat : Int) % 9 := by omega
        have hq1 : (c.toNat : Int) % 9 < 9 := by omega
        have hq2 : ((c.toNat : Int) % 9).toNat = c.toNat % 9 := by omega
        clear hal hdr hst1
        go_region_law (go_simp; go_at_call 36; ((with_reducible refine (set_any ⟨#[111, 61, 120]⟩ (nameB (c.toNat % 9)) (mkN namesL W) [D.data.toList] (by decide) HNs.out HSm.out HST1.out _ _ _ HIA.out HIT.out).mono ?_); rintro e w5 ⟨v5, rfl, hown5, hb5⟩; have HAt5 := Lib.hid (HAt3.out.go hb5); have r0 := HAt5.out.dn; have r1 := HAt5.out.attrs; have r2 := HAt5.out.fr0; have r3 := HAt5.out.fr1; have HO5 := Lib.hid (ownA_lower (B' := w.heap.size + 3) hown5 HAt3.out.size); (obtain ⟨ua, un, uc, rfl⟩ := ownA_sl hown5); clear hown5 hb5))
        all_goals
          have hfin := HAt5.out.entrySet (L' := mkN namesL (W.set (c.toNat % 9) D.data.toList)) (by have := HO5.out; rwa [HNm.out, HSet.out] at this)
          have HFin := Lib.hid hfin
          clear hfin r0 r1 r2 r3 p0 p1 pn pw q0 q1 qn qw hq0 hq1 hq2
          go_wp2
          go_roundw
          case rel => exact ⟨j + 1, _, _, by omega, by go_num, HFin.out⟩
          case measure => simp [intOf]; omega
    · obtain rfl : j = ts.length := by omega
      have t2 : decide ((ts.length : Int) < (ts.length : Int)) = false := by simp
      have t2' : decide (ts.length < ts.length) = false := by simp
      have hsmW := small_mk W (fun x hx => Nat.le_trans (hat.small x hx) (by decide))
      have HSm := Lib.hid hsmW
      have HWl := Lib.hid hat.len
      obtain ⟨ga, gc, hgv, _⟩ := ownA_isA hat.own (Nat.le_trans hsmW.1 (by unfold maxLen; decide))
      simp only [Value.slice.injEq] at hgv
      have HVn := Lib.hid hgv.2.1
      have hvn : vn ≤ 1000 := by rw [hgv.2.1]; exact hsmW.1
      clear hgv hsmW hbel hat
      go_wp2
      clear t2 t2'
      go_loopw [10, 11] (fun m i wr => ∃ k : Nat, k ≤ 9 ∧ i = .int .i64 k ∧ m = .int .i64 (cntN W k : Nat) ∧ SetsAt w.heap.size n1 n2 w wr W (mkN namesL W) (.slice va vn vc)) (fun m i wr => 9 - (intOf i).toNat)
      case atStart => exact ⟨0, by omega, rfl, rfl, HAt.out⟩
      case round =>
        obtain ⟨k, hk, rfl, rfl, hat⟩ := hrel
        have HAt2 := Lib.hid hat
        obtain ⟨m, hm⟩ : ∃ m, m = cntN W k := ⟨_, rfl⟩
        rw [← hm]
        have HM := Lib.hid hm
        clear hm hat
        by_cases hk9 : k < 9
        · have t2 : decide ((k : Int) < 9) = true := by simp; omega
          have hkl : k < namesL.length := hk9
          have hkW : k < W.length := by rw [HWl.out]; exact hk9
          have p0 := HAt2.out.dn
          have p1 := HAt2.out.attrs
          have pn := HAt2.out.names k hk9
          have hdr : Below wr.heap.size wr wr.drew := ⟨rfl, rfl, rfl, Nat.le_refl _, fun _ _ => rfl⟩
          have HAt3 := Lib.hid (HAt2.out.go hdr)
          have HIA := Lib.hid (ownA_isA HAt3.out.own (Nat.le_trans HSm.out.1 (by unfold maxLen; decide)))
          have hnm : (nameB k).data.toList = namesL[k] := by unfold nameB; rw [ofL_list, List.getD_eq_getElem?_getD, List.getElem?_eq_getElem hkl]; rfl
          have hfd := find_mk namesL W k hkl hkW okNames
          have HFd := Lib.hid hfd
          have HNm := Lib.hid hnm
          obtain ⟨X, hX⟩ : ∃ X : ByteArray, strV W[k] = .string X := ⟨_, rfl⟩
          have hXl : X.data.toList = W[k] := by
            have : Value.string ⟨W[k].toArray⟩ = .string X := hX
            simp only [Value.string.injEq] at this
            rw [← this]
          have HX := Lib.hid hX
          have HXl := Lib.hid hXl
          have hk9i : (k : Int) < 9 := by omega
          have hpw := HAt2.out.want k hkW
          rw [hX] at hpw
          by_cases hd : W[k] = []
          · have hcn := cntN_succ W k hkl HWl.out
            rw [if_pos hd] at hcn
            rw [if_pos hd] at hfd
            have hX0 : X = ⟨#[]⟩ := bytes_ext (by rw [hXl, hd])
            have HFd := Lib.hid hfd
            have HCn := Lib.hid hcn
            subst hX0
            have HX2 := Lib.hid hX
            clear hdr hfd hnm hX hXl hcn hd HX HXl hpw
            go_wp2
            go_region_law (go_simp; go_at_call 32; ((with_reducible refine (vals_any ⟨#[111, 61, 120]⟩ (mkN namesL W) HSm.out _ (nameB k) _ HIA.out).mono ?_); rintro e w5 ⟨u5, rfl, hu5, hb5⟩; have HAt5 := Lib.hid (HAt3.out.go hb5); rw [HNm.out, HFd.out] at hu5; (obtain ⟨ua, uc, rfl⟩ := ownS_slice hu5); clear hu5 hb5))
            all_goals
              have pw5 := HAt5.out.want k hkW
              rw [HX2.out] at pw5
              go_simp
              go_wp2
              go_quiet (fail)
              go_wp2
              go_roundw
              case rel => exact ⟨k + 1, by omega, by go_num, by rw [HCn.out, ← HM.out, Nat.add_zero], HAt5.out.go (below_drewN (Below.refl _ _) _)⟩
              case measure => simp [intOf]; omega
          · have hcn := cntN_succ W k hkl HWl.out
            rw [if_neg hd] at hcn
            rw [if_neg hd] at hfd
            obtain ⟨hml, hmn⟩ := mk_at W k hkl HWl.out hd
            have hXne : X.data.toList ≠ [] := by rw [hXl]; exact hd
            obtain ⟨e1, e2⟩ := bytes_some hXne
            have HFd := Lib.hid hfd
            have HCn := Lib.hid hcn
            have HX2 := Lib.hid hX
            have hmv : m < vn := by rw [HM.out, HVn.out]; exact hml
            have HMn : Hid (∀ h : m < (mkN namesL W).length, (mkN namesL W)[m].1 = namesL[k]) := Lib.hid (by have := HM.out; subst this; intro h; exact hmn)
            have hmi : decide ((vn : Int) ≤ (m : Int)) = false := by simp; omega
            have hmi2 : (m : Int) < (vn : Int) := by omega
            have hmi3 : decide (vn ≤ m) = false := by simp; omega
            clear hdr hfd hnm hX hXl hcn hd HX HXl hpw hml hmn hXne
            go_wp2
            go_region_law (go_simp; go_at_call 32; ((with_reducible refine (vals_any ⟨#[111, 61, 120]⟩ (mkN namesL W) HSm.out _ (nameB k) _ HIA.out).mono ?_); rintro e w5 ⟨u5, rfl, hu5, hb5⟩; have HAt5 := Lib.hid (HAt3.out.go hb5); rw [HNm.out, HFd.out] at hu5; (obtain ⟨g, gc, rfl, _, _, hgc⟩ := ownS_at hu5 (by simp)); have gx := hgc 0 (by simp); clear hu5 hb5 hgc))
            all_goals
              have pw5 := HAt5.out.want k hkW
              rw [HX2.out] at pw5
              have gx2 : w5.cell? ⟨g, 0, none⟩ = some (.string X) := gx.trans (by rw [← HX2.out]; rfl)
              have pn5 := HAt5.out.names k hk9
              have pa5 := HAt5.out.attrs
              obtain ⟨xa, xc, hxv, _, hxc⟩ := ownA_isA HAt5.out.own (Nat.le_trans HSm.out.1 (by unfold maxLen; decide))
              obtain ⟨xb, xo, xu, hxa, _, x0, _, _⟩ := hxc m (by rw [← HVn.out]; exact hmv)
              rw [HMn.out, show strV namesL[k] = .string (nameB k) from by rw [← HNm.out]; exact strV_whole _] at x0
              simp only [Value.slice.injEq] at hxv
              obtain ⟨hx1, hx2, hx3⟩ := hxv
              clear hx2
              subst hx1 hx3 hxa
              clear gx hxc
              go_simp
              go_wp2
              go_quiet (fail)
              go_wp2
              go_quiet (fail)
              go_wp2
              go_roundw
              case rel => exact ⟨k + 1, by omega, by go_num, by rw [HCn.out, ← HM.out]; go_num, HAt5.out.go (below_drewN (Below.refl _ _) _)⟩
              case measure => simp [intOf]; omega
        · obtain rfl : k = 9 := by omega
          have hmv : m = vn := by rw [HM.out, HVn.out]; exact cntN_all W HWl.out
          subst hmv
          have p0 := HAt2.out.dn
          have p1 := HAt2.out.attrs
          have hbel := HAt2.out.bel
          have HBel := Lib.hid hbel
          clear hbel
          go_wp2_with (go_at_call 27; refine (awake5_any _ (HW.out.below HBel.out)).mono ?_; rintro e w7 ⟨rfl, hb7⟩; have HB7 := Lib.hid (HBel.out.trans (hb7.mono HBel.out.size)); clear hb7)
          go_ret
          exact ⟨rfl, HB7.out⟩
end Go.Proofs.YtngbpegjoihajaaGreatDoor
