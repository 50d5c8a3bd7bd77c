/- entry.insert's question; slices.IndexFunc of it: the walks. -/
import Derived.Test.YtngbpegjoihajaaGreatDoorEnWith
namespace Go.Proofs.YtngbpegjoihajaaGreatDoor
open Go.RowKit
set_option linter.unusedVariables false

def gtB (x y : List UInt8) : Bool := !Op.bytesLess x y && !(x == y)
set_option maxRecDepth 100000 in
set_option maxHeartbeats 2000000 in
theorem above_any (X Y : ByteArray) (u : Value) (b o : Nat) (w : World) (hc : w.cell? ⟨b, o, none⟩ = some (.string Y)) (hb : b < w.heap.size) :
    Calls Tryz.prog 104 #[.agg #[.string X, u], .pointer (some ⟨b, o, none⟩)] w fun e w' => e = .returned (.bool (gtB X.data.toList Y.data.toList)) ∧ Below w.heap.size w w' := by
  have hbel : Below w.heap.size w (w.alloc (.cells #[.string X, u] 42)) := (Below.refl _ _).alloc (Nat.le_refl _) _
  have c1 := (hbel.cell (p := ⟨b, o, none⟩) hb).trans hc
  have HB := Lib.hid hbel
  clear hbel
  go_enter Tryz.func104, Tryz.ntmps104
  go_wp2
  go_ret
  exact ⟨by unfold gtB; rw [← ByteArray.toList_eq, ← ByteArray.toList_eq]; rfl, HB.out⟩

def idxI (L : List AT) (y : List UInt8) : Int := match L.findIdx? (fun b => gtB b.1 y) with
  | some k => (k : Int)
  | none => -1
theorem idxI_at {L : List AT} {y : List UInt8} (j : Nat) (hj : j < L.length) (h : ∀ k (hk : k < L.length), k < j → gtB L[k].1 y = false) (he : gtB L[j].1 y = true) : idxI L y = j := by
  have : L.findIdx? (fun b => gtB b.1 y) = some j := by
    rw [List.findIdx?_eq_some_iff_getElem]
    exact ⟨hj, he, fun k hk => by simpa using h k (by omega) hk⟩
  unfold idxI; rw [this]
theorem idxI_no {L : List AT} {y : List UInt8} (h : ∀ k (hk : k < L.length), gtB L[k].1 y = false) : idxI L y = -1 := by
  have : L.findIdx? (fun b => gtB b.1 y) = none := by
    rw [List.findIdx?_eq_none_iff]
    intro x hx
    obtain ⟨k, hk, rfl⟩ := List.getElem_of_mem hx
    exact h k hk
  unfold idxI; rw [this]

set_option maxRecDepth 100000 in
set_option maxHeartbeats 2000000 in
theorem indexA_any (L : List AT) (hs : L.length ≤ 1000000) (v : Value) (Y : ByteArray) (pb po : Nat) (w : World) (h : IsA w.heap.size w L v) (hc : w.cell? ⟨pb, po, none⟩ = some (.string Y)) (hb : pb < w.heap.size) :
    Calls Tryz.prog 103 #[v, .func (.func 104) #[] #[.pointer (some ⟨pb, po, none⟩)]] w fun e w' => e = .returned (.int .i64 (idxI L Y.data.toList)) ∧ Below w.heap.size w w' := by
  obtain ⟨a, c, rfl, hm, hcell⟩ := h
  unfold maxLen at hm
  have HC := Lib.hid hcell
  have HY := Lib.hid hc
  obtain ⟨I, hI⟩ : ∃ I, idxI L Y.data.toList = I := ⟨_, rfl⟩
  rw [hI]
  have HI := Lib.hid hI
  clear hcell hc hI
  go_enter Tryz.func103, Tryz.ntmps103
  go_wp2
  go_loopw [8] (fun i wr => ∃ j : Nat, j ≤ L.length ∧ i = .int .i64 j ∧ Hid (∀ k (hk : k < L.length), k < j → gtB L[k].1 Y.data.toList = false) ∧ Below w.heap.size w wr) (fun i wr => L.length - (intOf i).toNat)
  case atStart => exact ⟨0, by omega, rfl, Lib.hid (fun k _ h => absurd h (by omega)), Below.refl _ _⟩
  case round =>
    obtain ⟨j, hj, rfl, HNo, hbel⟩ := hrel
    have HBel := Lib.hid hbel
    have hbs := hbel.size
    by_cases hlt : j < L.length
    · have t1 : decide ((j : Int) < (L.length : Int)) = true := by simp; omega
      have t1' : decide (j < L.length) = true := by simpa using hlt
      obtain ⟨b, off, u, rfl, hb0, c0, c1, ht⟩ := HC.out j hlt
      obtain ⟨X, hX⟩ : ∃ X : ByteArray, ⟨L[j].1.toArray⟩ = X := ⟨_, rfl⟩
      have hXl : X.data.toList = L[j].1 := by rw [← hX]
      have d0 : (wr.cell? ⟨b, off + j * 2, none⟩) = some (.string X) := by
        rw [hbel.cell (p := ⟨b, _, none⟩) hb0, c0, ← hX]; rfl
      have d1 := (hbel.cell (p := ⟨b, off + j * 2 + 1, none⟩) hb0).trans c1
      have hab := above_any X Y u pb po wr ((hbel.cell (p := ⟨pb, po, none⟩) hb).trans HY.out) (by omega)
      rw [hXl] at hab
      obtain ⟨g, hg⟩ : ∃ g, gtB L[j].1 Y.data.toList = g := ⟨_, rfl⟩
      rw [hg] at hab
      have HAb := Lib.hid hab
      have HG := Lib.hid hg
      clear hX hXl c0 c1 hab hbel ht hg
      cases g with
      | true =>
        have HR := Lib.hid (HI.out.symm.trans (idxI_at j hlt HNo.out HG.out))
        go_wp2_with (go_at_call 104; refine (HAb.out).mono ?_; rintro e w2 ⟨rfl, hb2⟩; have HB2 := Lib.hid (HBel.out.trans (hb2.mono hbs)); clear hb2)
        go_ret
        exact ⟨by rw [HR.out]; rfl, HB2.out⟩
      | false =>
        have HN : Hid (∀ k (hk : k < L.length), k < j + 1 → gtB L[k].1 Y.data.toList = false) := Lib.hid (fun k h1 h3 => by
            by_cases hk : k < j
            · exact HNo.out k h1 hk
            · obtain rfl : k = j := by omega
              exact HG.out)
        go_wp2_with (go_at_call 104; refine (HAb.out).mono ?_; rintro e w2 ⟨rfl, hb2⟩; have HB2 := Lib.hid (HBel.out.trans (hb2.mono hbs)); clear hb2)
        go_roundw
        case rel => exact ⟨j + 1, by omega, by go_num, HN, HB2.out⟩
        case measure => simp [intOf]; omega
    · obtain rfl : j = L.length := by omega
      have t1 : decide ((L.length : Int) < (L.length : Int)) = false := by simp
      have t1' : decide (L.length < L.length) = false := by simp
      have HR := Lib.hid (HI.out.symm.trans (idxI_no (fun k hk => HNo.out k hk hk)))
      clear hbel
      go_wp2
      go_ret
      exact ⟨by rw [HR.out]; rfl, HBel.out⟩
end Go.Proofs.YtngbpegjoihajaaGreatDoor
