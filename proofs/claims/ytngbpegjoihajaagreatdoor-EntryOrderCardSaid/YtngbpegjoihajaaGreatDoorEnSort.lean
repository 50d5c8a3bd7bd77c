/- The stable sort of a row of attributes that stands in order already: the walks. -/
import Derived.Test.YtngbpegjoihajaaGreatDoorEnMaker
import Derived.Deep.RegionHeld3
namespace Go.Proofs.YtngbpegjoihajaaGreatDoor
open Go.RowKit
set_option linter.unusedVariables false

def PairAt (W : World) (b p q : Nat) (X Y : ByteArray) (x y : Value) (w' : World) : Prop :=
  w'.cell? ⟨b, p, none⟩ = some (.string X) ∧ w'.cell? ⟨b, p + 1, none⟩ = some x ∧ w'.cell? ⟨b, q, none⟩ = some (.string Y) ∧ w'.cell? ⟨b, q + 1, none⟩ = some y ∧ b < W.heap.size ∧ Below W.heap.size W w'
theorem PairAt.go {W w1 w2 : World} {b p q : Nat} {X Y : ByteArray} {x y : Value} (h : PairAt W b p q X Y x y w1) (hb : Below w1.heap.size w1 w2) :
    w2.cell? ⟨b, p, none⟩ = some (.string X) ∧ w2.cell? ⟨b, p + 1, none⟩ = some x ∧ w2.cell? ⟨b, q, none⟩ = some (.string Y) ∧ w2.cell? ⟨b, q + 1, none⟩ = some y ∧ PairAt W b p q X Y x y w2 := by
  obtain ⟨h0, h1, h2, h3, h4, h5⟩ := h
  have hlt : b < w1.heap.size := Nat.lt_of_lt_of_le h4 h5.size
  have g0 := (hb.cell (p := ⟨b, p, none⟩) hlt).trans h0
  have g1 := (hb.cell (p := ⟨b, p + 1, none⟩) hlt).trans h1
  have g2 := (hb.cell (p := ⟨b, q, none⟩) hlt).trans h2
  have g3 := (hb.cell (p := ⟨b, q + 1, none⟩) hlt).trans h3
  exact ⟨g0, g1, g2, g3, g0, g1, g2, g3, h4, h5.trans (hb.mono h5.size)⟩
def inOrder (L : List AT) : Prop := ∀ i (h : i + 1 < L.length), ¬ cmpL L[i + 1].1 L[i].1 < 0
set_option maxRecDepth 100000 in
set_option maxHeartbeats 4000000 in
theorem insertion_any (L : List AT) (hl : L.length < 20) (ho : inOrder L) (v : Value) (w : World) (h : IsA w.heap.size w L v) :
    Calls Tryz.prog 129 #[v, .int .i64 0, .int .i64 L.length, .func (.func 56) #[] #[]] w fun e w' => e = .returned (.tuple #[]) ∧ Below w.heap.size w w' := by
  obtain ⟨a, c, rfl, hm, hcell⟩ := h
  have HC := Lib.hid hcell
  have HO := Lib.hid ho
  obtain ⟨n, hn⟩ : ∃ n, n = L.length := ⟨_, rfl⟩
  have HN := Lib.hid hn
  rw [← hn] at hl ⊢
  clear hcell ho hm hn
  go_enter Tryz.func129, Tryz.ntmps129
  go_wp2
  go_loopw [8] (fun i wr => ∃ j : Nat, 1 ≤ j ∧ j ≤ n + 1 ∧ i = .int .i64 j ∧ Below w.heap.size w wr) (fun i wr => n + 1 - (intOf i).toNat)
  case atStart => exact ⟨1, by omega, by omega, rfl, Below.refl _ _⟩
  case round =>
    obtain ⟨j, hj1, hj, rfl, hbel⟩ := hrel
    have HBel := Lib.hid hbel
    have hbs := hbel.size
    by_cases hlt : j < n
    · have t1 : decide ((j : Int) < (n : Int)) = true := by simp; omega
      have t1' : decide (j < n) = true := by simpa using hlt
      have t2 : decide ((0 : Int) < (j : Int)) = true := by simp; omega
      have t2' : decide (0 < j) = true := by simp; omega
      obtain ⟨k, rfl⟩ : ∃ k, j = k + 1 := ⟨j - 1, by omega⟩
      have hk1 : k + 1 < L.length := by rw [← HN.out]; exact hlt
      have hk0 : k < L.length := by omega
      obtain ⟨b, off, x, rfl, hb0, x0, x1, hx⟩ := HC.out (k + 1) hk1
      obtain ⟨b', off', y, hbe, hb0', y0, y1, hy⟩ := HC.out k hk0
      simp only [Option.some.injEq, Addr.mk.injEq, and_true] at hbe
      obtain ⟨rfl, rfl⟩ := hbe
      obtain ⟨xa, xn, xc, rfl⟩ := (show ∃ a k c, x = .slice a k c from by obtain ⟨a, c, hv, _⟩ := hx; exact ⟨a, _, c, hv⟩)
      obtain ⟨ya, yn, yc, rfl⟩ := (show ∃ a k c, y = .slice a k c from by obtain ⟨a, c, hv, _⟩ := hy; exact ⟨a, _, c, hv⟩)
      have hcmp := HO.out k hk1
      unfold cmpL at hcmp
      obtain ⟨X, hX⟩ : ∃ X : ByteArray, ofL L[k + 1].1 = X := ⟨_, rfl⟩
      obtain ⟨Y, hY⟩ : ∃ Y : ByteArray, ofL L[k].1 = Y := ⟨_, rfl⟩
      rw [hX, hY] at hcmp
      obtain ⟨I, hI⟩ : ∃ I, I = Extern.BytealgCompare.cmp X Y := ⟨_, rfl⟩
      rw [← hI] at hcmp
      have hcl : ∀ (p : Addr), p.block < w.heap.size → wr.cell? p = w.cell? p := fun p hp => hbel.cell hp
      have d0 : wr.cell? ⟨b, off + (k + 1) * 2, none⟩ = some (.string X) := by rw [hcl _ hb0, x0, ← hX]; rfl
      have d1 : wr.cell? ⟨b, off + (k + 1) * 2 + 1, none⟩ = some (.slice xa xn xc) := (hcl _ hb0).trans x1
      have e0 : wr.cell? ⟨b, off + k * 2, none⟩ = some (.string Y) := by rw [hcl _ hb0, y0, ← hY]; rfl
      have e1 : wr.cell? ⟨b, off + k * 2 + 1, none⟩ = some (.slice ya yn yc) := (hcl _ hb0).trans y1
      have t3 : decide (I < 0) = false := by simpa using hcmp
      have HI := Lib.hid hI
      have HCm := Lib.hid (fun w => typesCmp_any X Y (.slice xa xn xc) (.slice ya yn yc) w)
      have q1 : ((k : Int) + 1) < (n : Int) := by omega
      have q2 : (k : Int) < (n : Int) := by omega
      have q3 : (0 : Int) < (k : Int) + 1 := by omega
      have q4 : (0 : Int) ≤ (k : Int) + 1 := by omega
      have q5 : ((k : Int) + 1).toNat = k + 1 := by omega
      have q6 : IntKind.i64.wrap ((k : Int) + 1 - 1) = (k : Int) := by rw [IntKind.wrap_i64]; omega
      have q7 : (k : Int) + 1 - 1 = (k : Int) := by omega
      have q8 : IntKind.i64.wrap (k : Int) = (k : Int) := by rw [IntKind.wrap_i64]; omega
      have q9 : (0 : Int) ≤ (k : Int) := by omega
      have q10 : k < n := by omega
      clear hcl x0 x1 y0 y1 hX hY hI hcmp hx hy hbel hb0'
      go_wp2
      have hdr : Below wr.heap.size wr wr.drew := ⟨rfl, rfl, rfl, Nat.le_refl _, fun _ _ => rfl⟩
      have hbw : b < wr.heap.size := Nat.lt_of_lt_of_le hb0 hbs
      clear hdr
      go_loopw [9] (fun i wx => i = .int .i64 ((k : Int) + 1) ∧ Hid (wx = wr)) (fun i wx => 1)
      case atStart => exact ⟨by go_num, Lib.hid rfl⟩
      case round =>
        obtain ⟨rfl, hwx⟩ := hrel
        have hwx := hwx.out
        subst hwx
        go_wp2
        have hst : PairAt wr b (off + (k + 1) * 2) (off + k * 2) X Y (.slice xa xn xc) (.slice ya yn yc) wr := ⟨d0, d1, e0, e1, hbw, Below.refl _ _⟩
        have hst := hst.go (Below.refl _ _)
        go_region_held3 (fun w' => w'.cell? ⟨b, off + (k + 1) * 2, none⟩ = some (.string X) ∧ w'.cell? ⟨b, off + (k + 1) * 2 + 1, none⟩ = some (.slice xa xn xc) ∧ w'.cell? ⟨b, off + k * 2, none⟩ = some (.string Y) ∧ w'.cell? ⟨b, off + k * 2 + 1, none⟩ = some (.slice ya yn yc) ∧ PairAt wr b (off + (k + 1) * 2) (off + k * 2) X Y (.slice xa xn xc) (.slice ya yn yc) w')
          (first | exact hst | (go_split_ands; exact PairAt.go (by assumption) hb5) | (go_split_ands; exact PairAt.go (by assumption) (Below.refl _ _).drew) | (go_split_ands; exact PairAt.go (by assumption) (Below.refl _ _)))
          (first | (go_at_call 56; go_split_ands; ((with_reducible refine (HCm.out _).mono ?_); rintro e w5 ⟨he, hb5⟩; rw [← HI.out] at he; subst he)))
        go_split_ands
        have hT : PairAt wr b (off + (k + 1) * 2) (off + k * 2) X Y (.slice xa xn xc) (.slice ya yn yc) w5 := by assumption
        have HT := Lib.hid (HBel.out.trans (hT.2.2.2.2.2.mono hbs))
        clear hT
        go_wp2
        go_roundw
        case rel => exact ⟨k + 2, by omega, by omega, by go_num, HT.out⟩
        case measure => simp [intOf]; omega
    · have t1 : decide ((j : Int) < (n : Int)) = false := by simp; omega
      have t1' : decide (j < n) = false := by simp; omega
      clear hbel
      go_wp2
      go_end0
      exact ⟨rfl, HBel.out⟩

set_option maxRecDepth 100000 in
set_option maxHeartbeats 4000000 in
theorem stable_any (L : List AT) (hl : L.length < 20) (ho : inOrder L) (v : Value) (w : World) (h : IsA w.heap.size w L v) :
    Calls Tryz.prog 98 #[v, .int .i64 L.length, .func (.func 56) #[] #[]] w fun e w' => e = .returned (.tuple #[]) ∧ Below w.heap.size w w' := by
  have hi := insertion_any L hl ho v w h
  obtain ⟨sa, sn, sc, rfl⟩ := (show ∃ a k c, v = .slice a k c from by obtain ⟨a, c, hv, _⟩ := h; exact ⟨a, _, c, hv⟩)
  obtain ⟨n, hn⟩ : ∃ n, n = L.length := ⟨_, rfl⟩
  rw [← hn] at hi hl ⊢
  have HI := Lib.hid hi
  have t1 : decide ((20 : Int) ≤ (n : Int)) = false := by simp; omega
  have t1' : decide (20 ≤ n) = false := by simp; omega
  have t2 : decide ((20 : Int) < (n : Int)) = false := by simp; omega
  have t2' : decide (20 < n) = false := by simp; omega
  clear hi hn h ho
  go_enter Tryz.func98, Tryz.ntmps98
  go_wp2
  go_loopw [7, 8] (fun a b wr => a = .int .i64 0 ∧ b = .int .i64 20 ∧ Hid (wr = w)) (fun a b wr => 1)
  case atStart => exact ⟨rfl, rfl, Lib.hid rfl⟩
  case round =>
    obtain ⟨rfl, rfl, hwr⟩ := hrel
    have hwr := hwr.out
    subst hwr
    go_wp2_with (go_at_call 129; refine (HI.out).mono ?_; rintro e w2 ⟨rfl, hb2⟩; have HB2 := Lib.hid hb2; clear hb2)
    go_loopw [6] (fun a wx => a = .int .i64 20 ∧ Hid (wx = w2)) (fun a wx => 1)
    case atStart => exact ⟨rfl, Lib.hid rfl⟩
    case round =>
      obtain ⟨rfl, hwr2⟩ := hrel
      have hwr2 := hwr2.out
      subst hwr2
      go_wp2
      go_end0
      exact ⟨rfl, HB2.out⟩

set_option maxRecDepth 100000 in
set_option maxHeartbeats 1000000 in
theorem sorted_any (L : List AT) (hl : L.length < 20) (ho : inOrder L) (v : Value) (w : World) (h : IsA w.heap.size w L v) :
    Calls Tryz.prog 55 #[v, .func (.func 56) #[] #[]] w fun e w' => e = .returned (.tuple #[]) ∧ Below w.heap.size w w' := by
  have hi := stable_any L hl ho v w h
  obtain ⟨sa, sc, hv, _⟩ := h
  obtain ⟨n, hn⟩ : ∃ n, n = L.length := ⟨_, rfl⟩
  rw [← hn] at hi hv
  subst hv
  have HI := Lib.hid hi
  clear hi hn ho
  go_enter Tryz.func55, Tryz.ntmps55
  go_wp2_with (go_at_call 98; refine (HI.out).mono ?_; rintro e w2 ⟨rfl, hb2⟩; have HB2 := Lib.hid hb2; clear hb2)
  go_end0
  exact ⟨rfl, HB2.out⟩
end Go.Proofs.YtngbpegjoihajaaGreatDoor
