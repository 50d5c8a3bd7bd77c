/- Several texts in one file: EnSet, EnMaker, EnSort, EnSetW, EnNorm, EnNext, EnNormW, EnSrtP, EnNEntP. -/
import Derived.Test.YtgaaefcanfglhaaGreatDoorTroP4
import Derived.Laws.LoneSync
import Derived.Laws.Externs
import Derived.Deep.RegionHeld3
import Derived.Test.YtgaaefcanfglhaaGreatDoorDnTextW
import Derived.Test.YtgaaefcanfglhaaGreatDoorDnKey
namespace Go.Proofs.YtgaaefcanfglhaaGreatDoor
open Go.RowKit
set_option linter.unusedVariables false

def RelP (ok : Nat → Prop) (w : World) : List PT → List AT → Prop
  | [], [] => True
  | p :: P, a :: L => (p.1 = a.1 ∧ IsTo ok w a.2 p.2) ∧ RelP ok w P L
  | _, _ => False
theorem RelP.app {ok : Nat → Prop} {w : World} : ∀ {P : List PT} {L : List AT} {P' : List PT} {L' : List AT}, RelP ok w P L → RelP ok w P' L' → RelP ok w (P ++ P') (L ++ L')
  | [], [], _, _, _, h => h
  | p :: P, a :: L, _, _, h, k => ⟨h.1, RelP.app h.2 k⟩
theorem RelP.take {ok : Nat → Prop} {w : World} : ∀ {P : List PT} {L : List AT} (k : Nat), RelP ok w P L → RelP ok w (P.take k) (L.take k)
  | [], [], k, h => by simp [RelP]
  | p :: P, a :: L, 0, h => trivial
  | p :: P, a :: L, k + 1, h => ⟨h.1, RelP.take k h.2⟩
theorem RelP.drop {ok : Nat → Prop} {w : World} : ∀ {P : List PT} {L : List AT} (k : Nat), RelP ok w P L → RelP ok w (P.drop k) (L.drop k)
  | [], [], k, h => by simp [RelP]
  | p :: P, a :: L, 0, h => h
  | p :: P, a :: L, k + 1, h => RelP.drop (P := P) (L := L) k h.2
theorem RelP.to {ok : Nat → Prop} {w : World} : ∀ {P : List PT} {L : List AT}, RelP ok w P L → P.length = L.length ∧ (∀ j (h : j < L.length) (h' : j < P.length), P[j].1 = L[j].1 ∧ IsTo ok w L[j].2 P[j].2)
  | [], [], _ => ⟨rfl, fun j h => absurd h (by simp)⟩
  | p :: P, a :: L, h => by
    have ih := RelP.to h.2
    refine ⟨by simp [ih.1], fun j h1 h2 => ?_⟩
    cases j with
    | zero => exact h.1
    | succ j => exact ih.2 j (by simpa using h1) (by simpa using h2)
def insA (L : List AT) (x : AT) : List AT := match L.findIdx? (fun b => gtB b.1 x.1) with
  | some k => L.take k ++ x :: L.drop k
  | none => L ++ [x]
def nameA (t : List UInt8) : List UInt8 := (canonD t).getD t
set_option maxRecDepth 100000 in
set_option maxHeartbeats 2000000 in
theorem typeName_any (t : ByteArray) (ht : t.size ≤ 281474976710656) (w : World) : Calls Tryz.prog 137 #[.string t] w fun e w' => e = .returned (.string (ofL (nameA t.data.toList))) ∧ Below w.heap.size w w' := by
  have hc := fun w => canon_any t w
  have hcl := fun w => clone_any t w ht
  cases e : canonD t.data.toList with
  | none =>
    have hn : ofL (nameA t.data.toList) = t := bytes_ext (by rw [ofL_list]; unfold nameA; rw [e]; rfl)
    rw [hn]
    simp only [e, canonV] at hc
    have HC := Lib.hid hc
    have HCl := Lib.hid hcl
    clear hc hcl hn e
    go_enter Tryz.func137, Tryz.ntmps137
    go_wp2_with (first
      | (go_at_call 90; refine (HC.out _).mono ?_; rintro e w1 ⟨rfl, hb1⟩; have HB := Lib.hid hb1; clear hb1)
      | (go_at_call 67; refine (HCl.out _).mono ?_; rintro e w2 ⟨rfl, hb2⟩; have HB := Lib.hid (bthen HB.out hb2); clear hb2))
    go_ret
    exact ⟨rfl, HB.out⟩
  | some k =>
    have hn : nameA t.data.toList = k := by unfold nameA; rw [e]; rfl
    rw [hn]
    simp only [e, canonV] at hc
    obtain ⟨K, hK⟩ : ∃ K, K = ofL k := ⟨_, rfl⟩
    have hK2 : (⟨k.toArray⟩ : ByteArray) = K := hK.symm
    rw [← hK]
    simp only [hK2] at hc
    have HC := Lib.hid hc
    clear hc hcl hn e hK hK2
    go_enter Tryz.func137, Tryz.ntmps137
    go_wp2_with (first
      | (go_at_call 90; refine (HC.out _).mono ?_; rintro e w1 ⟨rfl, hb1⟩; have HB := Lib.hid hb1; clear hb1))
    go_ret
    exact ⟨rfl, HB.out⟩
end Go.Proofs.YtgaaefcanfglhaaGreatDoor


namespace Go.Proofs.YtgaaefcanfglhaaGreatDoor
open Go.RowKit
set_option linter.unusedVariables false

set_option maxRecDepth 100000 in
theorem load_any (b o : Nat) (x : Int) (w : World) (h : w.cell? ⟨b, o, none⟩ = some (.int .i64 x)) : Calls Tryz.prog 135 #[.pointer (some ⟨b, o, none⟩)] w fun e w' => e = .returned (.int .i64 x) ∧ w' = w := by
  have hl := run_call_load (P := Tryz.prog) Tryz.func162 (by kernel_rfl) (by kernel_rfl) (by kernel_rfl) .i64 (by kernel_rfl) (a := ⟨b, o, none⟩) (x := x) (w := w) h
  go_enter Tryz.func135, Tryz.ntmps135
  go_wp2
  go_ret
  exact ⟨rfl, rfl⟩
set_option maxRecDepth 100000 in
theorem add_any (b o : Nat) (x : Int) (hx : 0 ≤ x) (hx2 : x ≤ 1000000000) (w : World) (h : w.cell? ⟨b, o, none⟩ = some (.int .i64 x)) (hz : w.frozen? ⟨b, o, none⟩ = false) : Calls Tryz.prog 136 #[.pointer (some ⟨b, o, none⟩), .int .i64 1] w fun e w' => e = .returned (.int .i64 (x + 1)) ∧ w' = w.setCell ⟨b, o, none⟩ (.int .i64 (x + 1)) := by
  have hl := run_call_add (P := Tryz.prog) Tryz.func163 (by kernel_rfl) (by kernel_rfl) (by kernel_rfl) .i64 (by kernel_rfl) (a := ⟨b, o, none⟩) (x := x) (y := 1) (s := x + 1) (w := w) h hz (by
    show Sem.run _ (pure (Value.int .i64 (IntKind.i64.wrap (x + 1)))) w = _
    rw [IntKind.wrap_i64, show (x + 1 + 9223372036854775808) % 18446744073709551616 - 9223372036854775808 = x + 1 from by omega]
    rfl)
  go_enter Tryz.func136, Tryz.ntmps136
  go_wp2
  go_ret
  exact ⟨rfl, rfl⟩

theorem cmpRun (a b : ByteArray) (w : World) : (callFunc 166 #[.string a, .string b]).run Tryz.prog w = .ok (.value (.int .i64 (Extern.BytealgCompare.cmp a b))) w := by
  rw [run_callFunc_extern Tryz.func166 (by kernel_rfl) (by kernel_rfl) (by kernel_rfl) (e := Extern.BytealgCompare.compare) (by kernel_rfl)]
  rfl
def cmpL (a b : List UInt8) : Int := Extern.BytealgCompare.cmp (ofL a) (ofL b)
set_option maxRecDepth 100000 in
theorem compareS_any (a b : ByteArray) (w : World) : Calls Tryz.prog 140 #[.string a, .string b] w fun e w' => e = .returned (.int .i64 (Extern.BytealgCompare.cmp a b)) ∧ w' = w := by
  have hr := cmpRun a b
  go_enter Tryz.func140, Tryz.ntmps140
  go_wp2
  go_ret
  exact ⟨rfl, rfl⟩
set_option maxRecDepth 100000 in
theorem compare_any (a b : ByteArray) (w : World) : Calls Tryz.prog 104 #[.string a, .string b] w fun e w' => e = .returned (.int .i64 (Extern.BytealgCompare.cmp a b)) ∧ w' = w := by
  go_enter Tryz.func104, Tryz.ntmps104
  go_wp2_with (go_at_call 140; refine (compareS_any a b _).mono ?_; rintro e w2 ⟨rfl, rfl⟩)
  go_ret
  exact ⟨rfl, rfl⟩
set_option maxRecDepth 100000 in
set_option maxHeartbeats 1000000 in
theorem typesCmp_any (X Y : ByteArray) (u v : Value) (w : World) : Calls Tryz.prog 103 #[.agg #[.string X, u], .agg #[.string Y, v]] w fun e w' => e = .returned (.int .i64 (Extern.BytealgCompare.cmp X Y)) ∧ Below w.heap.size w w' := by
  have hb : Below w.heap.size w ((w.alloc (.cells #[.string X, u] 60)).alloc (.cells #[.string Y, v] 60)) := ((Below.refl _ _).alloc (Nat.le_refl _) _).alloc (by simp) _
  have HB := Lib.hid hb
  clear hb
  go_enter Tryz.func103, Tryz.ntmps103
  go_wp2_with (go_at_call 104; refine (compare_any X Y _).mono ?_; rintro e w2 ⟨rfl, rfl⟩)
  go_ret
  exact ⟨rfl, HB.out⟩
end Go.Proofs.YtgaaefcanfglhaaGreatDoor


namespace Go.Proofs.YtgaaefcanfglhaaGreatDoor
open Go.RowKit
set_option linter.unusedVariables false

def PairAt (W : World) (b p q : Nat) (X Y : ByteArray) (x y : Value) (w' : World) : Prop :=
  w'.cell? ⟨b, p, none⟩ = some (.string X) ∧ w'.cell? ⟨b, p + 1, none⟩ = some x ∧ w'.cell? ⟨b, q, none⟩ = some (.string Y) ∧ w'.cell? ⟨b, q + 1, none⟩ = some y ∧ b < W.heap.size ∧ Below W.heap.size W w'
theorem PairAt.go {W w1 w2 : World} {b p q : Nat} {X Y : ByteArray} {x y : Value} (h : PairAt W b p q X Y x y w1) (hb : Below w1.heap.size w1 w2) :
    w2.cell? ⟨b, p, none⟩ = some (.string X) ∧ w2.cell? ⟨b, p + 1, none⟩ = some x ∧ w2.cell? ⟨b, q, none⟩ = some (.string Y) ∧ w2.cell? ⟨b, q + 1, none⟩ = some y ∧ PairAt W b p q X Y x y w2 := by
  obtain ⟨h0, h1, h2, h3, h4, h5⟩ := h
  have hlt : b < w1.heap.size := Nat.lt_of_lt_of_le h4 h5.size
  have g0 := (hb.cell (p := ⟨b, p, none⟩) hlt).trans h0
  have g1 := (hb.cell (p := ⟨b, p + 1, none⟩) hlt).trans h1
  have g2 := (hb.cell (p := ⟨b, q, none⟩) hlt).trans h2
  have g3 := (hb.cell (p := ⟨b, q + 1, none⟩) hlt).trans h3
  exact ⟨g0, g1, g2, g3, g0, g1, g2, g3, h4, h5.trans (hb.mono h5.size)⟩
def inOrder (L : List AT) : Prop := ∀ i (h : i + 1 < L.length), ¬ cmpL L[i + 1].1 L[i].1 < 0
set_option maxRecDepth 100000 in
set_option maxHeartbeats 4000000 in
theorem insertion_any (L : List AT) (hl : L.length < 20) (ho : inOrder L) (v : Value) (w : World) (h : IsA w.heap.size w L v) :
    Calls Tryz.prog 164 #[v, .int .i64 0, .int .i64 L.length, .func (.func 103) #[] #[]] w fun e w' => e = .returned (.tuple #[]) ∧ Below w.heap.size w w' := by
  obtain ⟨a, c, rfl, hm, hcell⟩ := h
  have HC := Lib.hid hcell
  have HO := Lib.hid ho
  obtain ⟨n, hn⟩ : ∃ n, n = L.length := ⟨_, rfl⟩
  have HN := Lib.hid hn
  rw [← hn] at hl ⊢
  clear hcell ho hm hn
  go_enter Tryz.func164, Tryz.ntmps164
  go_wp2
  go_loopw [8] (fun i wr => ∃ j : Nat, 1 ≤ j ∧ j ≤ n + 1 ∧ i = .int .i64 j ∧ Below w.heap.size w wr) (fun i wr => n + 1 - (intOf i).toNat)
  case atStart => exact ⟨1, by omega, by omega, rfl, Below.refl _ _⟩
  case round =>
    obtain ⟨j, hj1, hj, rfl, hbel⟩ := hrel
    have HBel := Lib.hid hbel
    have hbs := hbel.size
    by_cases hlt : j < n
    · have t1 : decide ((j : Int) < (n : Int)) = true := by simp; omega
      have t1' : decide (j < n) = true := by simpa using hlt
      have t2 : decide ((0 : Int) < (j : Int)) = true := by simp; omega
      have t2' : decide (0 < j) = true := by simp; omega
      obtain ⟨k, rfl⟩ : ∃ k, j = k + 1 := ⟨j - 1, by omega⟩
      have hk1 : k + 1 < L.length := by rw [← HN.out]; exact hlt
      have hk0 : k < L.length := by omega
      obtain ⟨b, off, x, rfl, hb0, x0, x1, hx⟩ := HC.out (k + 1) hk1
      obtain ⟨b', off', y, hbe, hb0', y0, y1, hy⟩ := HC.out k hk0
      simp only [Option.some.injEq, Addr.mk.injEq, and_true] at hbe
      obtain ⟨rfl, rfl⟩ := hbe
      obtain ⟨xa, xn, xc, rfl⟩ := (show ∃ a k c, x = .slice a k c from by obtain ⟨a, c, hv, _⟩ := hx; exact ⟨a, _, c, hv⟩)
      obtain ⟨ya, yn, yc, rfl⟩ := (show ∃ a k c, y = .slice a k c from by obtain ⟨a, c, hv, _⟩ := hy; exact ⟨a, _, c, hv⟩)
      have hcmp := HO.out k hk1
      unfold cmpL at hcmp
      obtain ⟨X, hX⟩ : ∃ X : ByteArray, ofL L[k + 1].1 = X := ⟨_, rfl⟩
      obtain ⟨Y, hY⟩ : ∃ Y : ByteArray, ofL L[k].1 = Y := ⟨_, rfl⟩
      rw [hX, hY] at hcmp
      obtain ⟨I, hI⟩ : ∃ I, I = Extern.BytealgCompare.cmp X Y := ⟨_, rfl⟩
      rw [← hI] at hcmp
      have hcl : ∀ (p : Addr), p.block < w.heap.size → wr.cell? p = w.cell? p := fun p hp => hbel.cell hp
      have d0 : wr.cell? ⟨b, off + (k + 1) * 2, none⟩ = some (.string X) := by rw [hcl _ hb0, x0, ← hX]; rfl
      have d1 : wr.cell? ⟨b, off + (k + 1) * 2 + 1, none⟩ = some (.slice xa xn xc) := (hcl _ hb0).trans x1
      have e0 : wr.cell? ⟨b, off + k * 2, none⟩ = some (.string Y) := by rw [hcl _ hb0, y0, ← hY]; rfl
      have e1 : wr.cell? ⟨b, off + k * 2 + 1, none⟩ = some (.slice ya yn yc) := (hcl _ hb0).trans y1
      have t3 : decide (I < 0) = false := by simpa using hcmp
      have HI := Lib.hid hI
      have HCm := Lib.hid (fun w => typesCmp_any X Y (.slice xa xn xc) (.slice ya yn yc) w)
      have q1 : ((k : Int) + 1) < (n : Int) := by omega
      have q2 : (k : Int) < (n : Int) := by omega
      have q3 : (0 : Int) < (k : Int) + 1 := by omega
      have q4 : (0 : Int) ≤ (k : Int) + 1 := by omega
      have q5 : ((k : Int) + 1).toNat = k + 1 := by omega
      have q6 : IntKind.i64.wrap ((k : Int) + 1 - 1) = (k : Int) := by rw [IntKind.wrap_i64]; omega
      have q7 : (k : Int) + 1 - 1 = (k : Int) := by omega
      have q8 : IntKind.i64.wrap (k : Int) = (k : Int) := by rw [IntKind.wrap_i64]; omega
      have q9 : (0 : Int) ≤ (k : Int) := by omega
      have q10 : k < n := by omega
      clear hcl x0 x1 y0 y1 hX hY hI hcmp hx hy hbel hb0'
      go_wp2
      have hdr : Below wr.heap.size wr wr.drew := ⟨rfl, rfl, rfl, Nat.le_refl _, fun _ _ => rfl⟩
      have hbw : b < wr.heap.size := Nat.lt_of_lt_of_le hb0 hbs
      clear hdr
      go_loopw [9] (fun i wx => i = .int .i64 ((k : Int) + 1) ∧ Hid (wx = wr)) (fun i wx => 1)
      case atStart => exact ⟨by go_num, Lib.hid rfl⟩
      case round =>
        obtain ⟨rfl, hwx⟩ := hrel
        have hwx := hwx.out
        subst hwx
        go_wp2
        have hst : PairAt wr b (off + (k + 1) * 2) (off + k * 2) X Y (.slice xa xn xc) (.slice ya yn yc) wr := ⟨d0, d1, e0, e1, hbw, Below.refl _ _⟩
        have hst := hst.go (Below.refl _ _)
        go_region_held3 (fun w' => w'.cell? ⟨b, off + (k + 1) * 2, none⟩ = some (.string X) ∧ w'.cell? ⟨b, off + (k + 1) * 2 + 1, none⟩ = some (.slice xa xn xc) ∧ w'.cell? ⟨b, off + k * 2, none⟩ = some (.string Y) ∧ w'.cell? ⟨b, off + k * 2 + 1, none⟩ = some (.slice ya yn yc) ∧ PairAt wr b (off + (k + 1) * 2) (off + k * 2) X Y (.slice xa xn xc) (.slice ya yn yc) w')
          (first | exact hst | (go_split_ands; exact PairAt.go (by assumption) hb5) | (go_split_ands; exact PairAt.go (by assumption) (Below.refl _ _).drew) | (go_split_ands; exact PairAt.go (by assumption) (Below.refl _ _)))
          (first | (go_at_call 103; go_split_ands; ((with_reducible refine (HCm.out _).mono ?_); rintro e w5 ⟨he, hb5⟩; rw [← HI.out] at he; subst he)))
        go_split_ands
        have hT : PairAt wr b (off + (k + 1) * 2) (off + k * 2) X Y (.slice xa xn xc) (.slice ya yn yc) w5 := by assumption
        have HT := Lib.hid (HBel.out.trans (hT.2.2.2.2.2.mono hbs))
        clear hT
        go_wp2
        go_roundw
        case rel => exact ⟨k + 2, by omega, by omega, by go_num, HT.out⟩
        case measure => simp [intOf]; omega
    · have t1 : decide ((j : Int) < (n : Int)) = false := by simp; omega
      have t1' : decide (j < n) = false := by simp; omega
      clear hbel
      go_wp2
      go_end0
      exact ⟨rfl, HBel.out⟩

set_option maxRecDepth 100000 in
set_option maxHeartbeats 4000000 in
theorem stable_any (L : List AT) (hl : L.length < 20) (ho : inOrder L) (v : Value) (w : World) (h : IsA w.heap.size w L v) :
    Calls Tryz.prog 139 #[v, .int .i64 L.length, .func (.func 103) #[] #[]] w fun e w' => e = .returned (.tuple #[]) ∧ Below w.heap.size w w' := by
  have hi := insertion_any L hl ho v w h
  obtain ⟨sa, sn, sc, rfl⟩ := (show ∃ a k c, v = .slice a k c from by obtain ⟨a, c, hv, _⟩ := h; exact ⟨a, _, c, hv⟩)
  obtain ⟨n, hn⟩ : ∃ n, n = L.length := ⟨_, rfl⟩
  rw [← hn] at hi hl ⊢
  have HI := Lib.hid hi
  have t1 : decide ((20 : Int) ≤ (n : Int)) = false := by simp; omega
  have t1' : decide (20 ≤ n) = false := by simp; omega
  have t2 : decide ((20 : Int) < (n : Int)) = false := by simp; omega
  have t2' : decide (20 < n) = false := by simp; omega
  clear hi hn h ho
  go_enter Tryz.func139, Tryz.ntmps139
  go_wp2
  go_loopw [7, 8] (fun a b wr => a = .int .i64 0 ∧ b = .int .i64 20 ∧ Hid (wr = w)) (fun a b wr => 1)
  case atStart => exact ⟨rfl, rfl, Lib.hid rfl⟩
  case round =>
    obtain ⟨rfl, rfl, hwr⟩ := hrel
    have hwr := hwr.out
    subst hwr
    go_wp2_with (go_at_call 164; refine (HI.out).mono ?_; rintro e w2 ⟨rfl, hb2⟩; have HB2 := Lib.hid hb2; clear hb2)
    go_loopw [6] (fun a wx => a = .int .i64 20 ∧ Hid (wx = w2)) (fun a wx => 1)
    case atStart => exact ⟨rfl, Lib.hid rfl⟩
    case round =>
      obtain ⟨rfl, hwr2⟩ := hrel
      have hwr2 := hwr2.out
      subst hwr2
      go_wp2
      go_end0
      exact ⟨rfl, HB2.out⟩

set_option maxRecDepth 100000 in
set_option maxHeartbeats 1000000 in
theorem sorted_any (L : List AT) (hl : L.length < 20) (ho : inOrder L) (v : Value) (w : World) (h : IsA w.heap.size w L v) :
    Calls Tryz.prog 102 #[v, .func (.func 103) #[] #[]] w fun e w' => e = .returned (.tuple #[]) ∧ Below w.heap.size w w' := by
  have hi := stable_any L hl ho v w h
  obtain ⟨sa, sc, hv, _⟩ := h
  obtain ⟨n, hn⟩ : ∃ n, n = L.length := ⟨_, rfl⟩
  rw [← hn] at hi hv
  subst hv
  have HI := Lib.hid hi
  clear hi hn ho
  go_enter Tryz.func102, Tryz.ntmps102
  go_wp2_with (go_at_call 139; refine (HI.out).mono ?_; rintro e w2 ⟨rfl, hb2⟩; have HB2 := Lib.hid hb2; clear hb2)
  go_end0
  exact ⟨rfl, HB2.out⟩
end Go.Proofs.YtgaaefcanfglhaaGreatDoor


namespace Go.Proofs.YtgaaefcanfglhaaGreatDoor
open Go.RowKit
set_option linter.unusedVariables false

def setA (L : List AT) (t : List UInt8) (V : List (List UInt8)) : List AT := if V = [] then withoutA L t else insA (withoutA L t) (nameA t, V)
theorem ownA_lower {B B' : Nat} {w : World} {v : Value} {L : List AT} (h : OwnA B w v L) (hle : B' ≤ B) : OwnA B' w v L := by
  obtain ⟨P, hr, hs⟩ := h
  refine ⟨P, ⟨hr.1, hr.2.imp id fun ⟨g, cap, cur, e1, hb, rest⟩ => ⟨g, cap, cur, e1, Nat.le_trans hle hb, rest⟩⟩, hs.1, fun j h1 h2 => ⟨(hs.2 j h1 h2).1, (hs.2 j h1 h2).2.imp (fun b hb => ⟨Nat.le_trans hle hb.1, hb.2⟩) (fun _ _ _ => rfl)⟩⟩
theorem ownA_set {B : Nat} {w : World} {v : Value} {L : List AT} (h : OwnA B w v L) (a : Addr) (x : Value) (ha : a.block < B) : OwnA B (w.setCell a x) v L := by
  obtain ⟨P, hr, hs⟩ := h
  have hblk : ∀ k, k ≠ a.block → (w.setCell a x).heap[k]? = w.heap[k]? := fun k hk => by
    unfold World.setCell
    simp [Array.getElem?_modify, Ne.symm hk]
  refine ⟨P, ⟨hr.1, hr.2.imp id fun ⟨g, cap, cur, e1, hb, hg, rest⟩ => ⟨g, cap, cur, e1, hb, (hblk g (by omega)).trans hg, rest⟩⟩, hs.1, fun j h1 h2 => ⟨(hs.2 j h1 h2).1, (hs.2 j h1 h2).2.imp (fun b hb => ⟨hb.1, by simpa [World.setCell] using hb.2.1, hb.2.2⟩) (fun b o hb => by
    have := hblk b (by have := hb.1; omega)
    simp only [World.cell?, this])⟩⟩

theorem ownA_sl {B : Nat} {w : World} {v : Value} {L : List AT} (h : OwnA B w v L) : ∃ a n c, v = .slice a n c := by
  obtain ⟨a, c, h⟩ := ownA_slice h
  exact ⟨a, _, c, h⟩
def BoxE (b : Nat) (d : ByteArray) (w : World) : Prop := w.cell? ⟨b, 0, none⟩ = some (.string d) ∧ w.cell? ⟨b + 1, 0, none⟩ = some (.string ⟨#[]⟩) ∧ w.cell? ⟨b + 1, 1, none⟩ = some (.slice none 0 0) ∧ w.frozen? ⟨b + 1, 0, none⟩ = false ∧ w.frozen? ⟨b + 1, 1, none⟩ = false
theorem BoxE.go {b n : Nat} {d : ByteArray} {w w' : World} (h : BoxE b d w) (hb : Below n w w') (hn : b + 2 ≤ n) : BoxE b d w' :=
  ⟨(hb.cell (p := ⟨b, 0, none⟩) (show b < n by omega)).trans h.1, (hb.cell (p := ⟨b + 1, 0, none⟩) (show b + 1 < n by omega)).trans h.2.1, (hb.cell (p := ⟨b + 1, 1, none⟩) (show b + 1 < n by omega)).trans h.2.2.1,
   (hb.frozen (p := ⟨b + 1, 0, none⟩) (show b + 1 < n by omega)).trans h.2.2.2.1, (hb.frozen (p := ⟨b + 1, 1, none⟩) (show b + 1 < n by omega)).trans h.2.2.2.2⟩
theorem boxE_new (w : World) (d : ByteArray) (x : Value) : BoxE w.heap.size d ((w.alloc (.cells #[.string d, x] 27)).alloc (.cells #[.string ⟨#[]⟩, .slice none 0 0] 27)) := by
  refine ⟨by simp, by simp, by simp, by simp, by simp⟩

end Go.Proofs.YtgaaefcanfglhaaGreatDoor


namespace Go.Proofs.YtgaaefcanfglhaaGreatDoor
open Go.RowKit
set_option linter.unusedVariables false

def nameN (s : List UInt8) : List UInt8 := match parseD s with
  | some l => textD l
  | none => s
set_option maxRecDepth 100000 in
set_option maxHeartbeats 2000000 in
theorem nameText_any (s : ByteArray) (hs : s.size ≤ 140737488351232) (w : World) : Calls Tryz.prog 105 #[.string s] w fun e w' => e = .returned (strV (nameN s.data.toList)) ∧ Below w.heap.size w w' := by
  have hp := fun w => parse_any s hs w
  have hcl := fun w => clone_any s w (by omega)
  cases e : parseD s.data.toList with
  | none =>
    have hn : strV (nameN s.data.toList) = .string s := by unfold nameN; rw [e]; exact strV_whole s
    rw [hn]
    simp only [e] at hp
    have HP := Lib.hid hp
    have HCl := Lib.hid hcl
    clear hp hcl hn e
    go_enter Tryz.func105, Tryz.ntmps105
    go_wp2_with (first
      | (go_at_call 54; refine (HP.out _).mono ?_; rintro e w1 ⟨hb1, rfl⟩; have HB := Lib.hid hb1; clear hb1)
      | (go_at_call 67; refine (HCl.out _).mono ?_; rintro e w2 ⟨rfl, hb2⟩; have HB := Lib.hid (bthen HB.out hb2); clear hb2))
    go_ret
    exact ⟨rfl, HB.out⟩
  | some l =>
    have hsm := okL_small (parse_ok e)
    have hn : nameN s.data.toList = textD l := by unfold nameN; rw [e]
    rw [hn]
    obtain ⟨T, hT⟩ : ∃ T : ByteArray, strV (textD l) = .string T := ⟨_, rfl⟩
    have ht := fun v w h => text_any l hsm v w h
    simp only [hT] at ht
    rw [hT]
    simp only [e] at hp
    have HP := Lib.hid hp
    have HTx := Lib.hid ht
    have HSm := Lib.hid hsm
    clear hp hcl hn e ht hT hsm
    go_enter Tryz.func105, Tryz.ntmps105
    go_wp2_with (first
      | (go_at_call 54; refine (HP.out _).mono ?_; rintro e w1 ⟨hb1, hpp⟩; (obtain ⟨v1, rfl, hown1⟩ := hpp); have HIL := Lib.hid (ownR_isL hown1 (by have := HSm.out.1; unfold maxLen; omega)); (obtain ⟨sa, sc, hsv⟩ := ownR_slice hown1); (obtain ⟨sn, hsn⟩ : ∃ n, n = l.length := ⟨_, rfl⟩); rw [← hsn] at hsv; subst hsv; have HB := Lib.hid hb1; clear hb1 hown1 hsn)
      | (go_at_call 57; refine (HTx.out _ _ HIL.out).mono ?_; rintro e w2 ⟨rfl, hb2⟩; have HB := Lib.hid (bthen HB.out hb2); clear hb2))
    go_ret
    exact ⟨rfl, HB.out⟩

set_option maxRecDepth 100000 in
set_option maxHeartbeats 1000000 in
theorem more_any (mb : Nat) (sa : Option Addr) (n sc j : Nat) (w : World) (h0 : w.cell? ⟨mb, 0, none⟩ = some (.slice sa n sc)) (h1 : w.cell? ⟨mb, 1, none⟩ = some (.int .i64 j)) :
    Calls Tryz.prog 100 #[.pointer (some ⟨mb, 0, none⟩)] w fun e w' => e = .returned (.bool (decide ((j : Int) < (n : Int)))) ∧ ∃ m, w' = w.drewN m := by
  have hl := fun k => load_any mb 1 j (w.drewN k) h1
  have HL := Lib.hid hl
  obtain ⟨g, hg⟩ : ∃ g, g = decide ((j : Int) < (n : Int)) := ⟨_, rfl⟩
  have hg1 : decide ((j : Int) < (n : Int)) = g := hg.symm
  have hg2 : decide (j < n) = g := by rw [hg]; simp
  rw [← hg]
  clear hl hg
  go_enter Tryz.func100, Tryz.ntmps100
  go_wp2
  go_quiet ((go_at_call 135; refine Calls.quiet_of_same (HL.out _)))
  go_wp2
  go_ret
  exact ⟨rfl, _, rfl⟩
end Go.Proofs.YtgaaefcanfglhaaGreatDoor


namespace Go.Proofs.YtgaaefcanfglhaaGreatDoor
open Go.RowKit
set_option linter.unusedVariables false

theorem nextAt_of {W : World} {mb b p : Nat} {v : Value} {X : ByteArray} {x : Value} {j : Nat} (hb : b < mb) (c0 : W.cell? ⟨mb, 0, none⟩ = some v) (c1 : W.cell? ⟨mb, 1, none⟩ = some (.int .i64 j)) (cz : W.frozen? ⟨mb, 1, none⟩ = false)
    (e0 : W.cell? ⟨b, p, none⟩ = some (.string X)) (e1 : W.cell? ⟨b, p + 1, none⟩ = some x) :
    ∀ w5, w5 = W.drew.setCell ⟨mb, 1, none⟩ (.int .i64 ((j : Int) + 1)) → w5.cell? ⟨b, p, none⟩ = some (.string X) ∧ w5.cell? ⟨b, p + 1, none⟩ = some x ∧ w5.cell? ⟨mb, 0, none⟩ = some v ∧ w5.cell? ⟨mb, 1, none⟩ = some (.int .i64 ((j : Int) + 1)) ∧ w5.frozen? ⟨mb, 1, none⟩ = false := by
  intro w5 hw5
  subst hw5
  refine ⟨?_, ?_, ?_, ?_, ?_⟩
  · rw [World.cell?_setCell_other _ _ _ _ (fun e => by have := congrArg Addr.block e; simp at this; omega)]; exact e0
  · rw [World.cell?_setCell_other _ _ _ _ (fun e => by have := congrArg Addr.block e; simp at this; omega)]; exact e1
  · rw [World.cell?_setCell_other _ _ _ _ (fun e => by have := congrArg Addr.off e; simp at this)]; exact c0
  · exact World.cell?_setCell_same _ _ _ c1
  · exact (World.frozen?_setCell ..).trans cz
theorem behind_of {w5 : World} {b p : Nat} {X : ByteArray} {x : Value} (hb : b < w5.heap.size) (e0 : w5.cell? ⟨b, p, none⟩ = some (.string X)) (e1 : w5.cell? ⟨b, p + 1, none⟩ = some x) (o : Obj) :
    (w5.alloc o).cell? ⟨b, p, none⟩ = some (.string X) ∧ (w5.alloc o).cell? ⟨b, p + 1, none⟩ = some x :=
  ⟨(World.cell?_alloc_lt _ _ _ hb).trans e0, (World.cell?_alloc_lt _ _ _ hb).trans e1⟩
theorem ahead_of {W : World} {mb : Nat} (hm : mb < W.heap.size) (y : Value) (w5 : World) (hw5 : w5 = (W.alloc (.cells #[.string ⟨#[]⟩, .slice none 0 0] 60)).drew.setCell ⟨mb, 1, none⟩ y) :
    w5.cell? ⟨W.heap.size, 0, none⟩ = some (.string ⟨#[]⟩) ∧ w5.cell? ⟨W.heap.size, 1, none⟩ = some (.slice none 0 0) ∧ w5.frozen? ⟨W.heap.size, 0, none⟩ = false ∧ w5.frozen? ⟨W.heap.size, 1, none⟩ = false := by
  subst hw5
  have h : (W.alloc (.cells #[.string ⟨#[]⟩, .slice none 0 0] 60)).drew.heap[W.heap.size]? = some (.cells #[.string ⟨#[]⟩, .slice none 0 0] 60 (0, 0)) := heap_alloc_new W _
  refine ⟨?_, ?_, ?_, ?_⟩
  · rw [World.cell?_setCell_other _ _ _ _ (fun e => by have := congrArg Addr.block e; simp at this; omega)]; simp only [World.cell?, h]; rfl
  · rw [World.cell?_setCell_other _ _ _ _ (fun e => by have := congrArg Addr.block e; simp at this; omega)]; simp only [World.cell?, h]; rfl
  · rw [World.frozen?_setCell]; simp only [World.frozen?, h]; rfl
  · rw [World.frozen?_setCell]; simp only [World.frozen?, h]; rfl
theorem size_of {W w5 : World} {a : Addr} {y : Value} (h : w5 = W.setCell a y) : w5.heap.size = W.heap.size := by subst h; simp [World.setCell]
def Tail (w w6 : World) (mb T : Nat) (v : Value) (j : Nat) (X : ByteArray) (x : Value) : Prop :=
  w.grownBy w6 (some mb) ∧ w6.cell? ⟨T, 0, none⟩ = some (.string X) ∧ w6.cell? ⟨T, 1, none⟩ = some x ∧ w6.cell? ⟨w.heap.size, 0, none⟩ = some (.string ⟨#[]⟩) ∧ w6.cell? ⟨w.heap.size, 1, none⟩ = some (.slice none 0 0) ∧ w6.frozen? ⟨w.heap.size, 0, none⟩ = false ∧ w6.frozen? ⟨w.heap.size, 1, none⟩ = false ∧
  w6.cell? ⟨mb, 0, none⟩ = some v ∧ w6.cell? ⟨mb, 1, none⟩ = some (.int .i64 ((j : Int) + 1)) ∧ w6.frozen? ⟨mb, 1, none⟩ = false ∧ T < w6.heap.size ∧ w.heap.size < w6.heap.size ∧ T ≠ w.heap.size ∧ T ≠ mb
theorem heap_set_other (w : World) (a : Addr) (x : Value) (k : Nat) (h : k ≠ a.block) : (w.setCell a x).heap[k]? = w.heap[k]? := by
  unfold World.setCell; simp [Array.getElem?_modify, Ne.symm h]
theorem Tail.go {w w6 w7 : World} {mb T : Nat} {v : Value} {j : Nat} {X : ByteArray} {x : Value} (hm : mb < w.heap.size) (h : Tail w w6 mb T v j X x) (hb : Below w6.heap.size w6 w7) : Tail w w7 mb T v j X x := by
  obtain ⟨h1, h2, h3, h4, h5, h6, h7, h8, h9, h10, h11, h12, h13, h14⟩ := h
  have hm6 : mb < w6.heap.size := Nat.lt_trans hm h12
  exact ⟨⟨hb.os.trans h1.os, hb.tape.trans h1.tape, hb.output.trans h1.output, Nat.le_trans h1.size hb.size, fun k hk hne => (hb.block k (Nat.lt_of_lt_of_le hk h1.size)).trans (h1.block k hk hne)⟩,
    (hb.cell (p := ⟨T, 0, none⟩) h11).trans h2, (hb.cell (p := ⟨T, 1, none⟩) h11).trans h3, (hb.cell (p := ⟨w.heap.size, 0, none⟩) h12).trans h4, (hb.cell (p := ⟨w.heap.size, 1, none⟩) h12).trans h5,
    (hb.frozen (p := ⟨w.heap.size, 0, none⟩) h12).trans h6, (hb.frozen (p := ⟨w.heap.size, 1, none⟩) h12).trans h7, (hb.cell (p := ⟨mb, 0, none⟩) hm6).trans h8, (hb.cell (p := ⟨mb, 1, none⟩) hm6).trans h9, (hb.frozen (p := ⟨mb, 1, none⟩) hm6).trans h10,
    Nat.lt_of_lt_of_le h11 hb.size, Nat.lt_of_lt_of_le h12 hb.size, h13, h14⟩
theorem Tail.grown {w w6 : World} {mb T : Nat} {v : Value} {j : Nat} {X : ByteArray} {x : Value} (h : Tail w w6 mb T v j X x) : w.grownBy w6 (some mb) := h.1
theorem Tail.rsz {w w6 : World} {mb T : Nat} {v : Value} {j : Nat} {X : ByteArray} {x : Value} (h : Tail w w6 mb T v j X x) : w.heap.size < w6.heap.size := by
  obtain ⟨h1, h2, h3, h4, h5, h6, h7, h8, h9, h10, h11, h12, h13, h14⟩ := h; exact h12
theorem isT_grown {mb : Nat} {w w7 : World} {A : List (List UInt8)} {x : Value} (h : IsT mb w A x) (hm : mb < w.heap.size) (hg : w.grownBy w7 (some mb)) : IsT w7.heap.size w7 A x := by
  obtain ⟨a, c, hv, hml, hc⟩ := h
  refine ⟨a, c, hv, hml, fun j hj => ?_⟩
  obtain ⟨b, off, ha, hb, h0⟩ := hc j hj
  have := hg.block b (by omega) (by intro e; have := Option.some.inj e; omega)
  exact ⟨b, off, ha, by have := hg.size; omega, by simp only [World.cell?, this]; exact h0⟩
theorem Tail.fin {w w8 : World} {mb T : Nat} {v : Value} {j : Nat} {X : ByteArray} {x : Value} (hm : mb < w.heap.size) (h : Tail w w8 mb T v j X x) (N : ByteArray) (u : Value) :
    w.grownBy ((w8.setCell ⟨w.heap.size, 0, none⟩ (.string N)).setCell ⟨w.heap.size, 1, none⟩ u) (some mb) ∧ ((w8.setCell ⟨w.heap.size, 0, none⟩ (.string N)).setCell ⟨w.heap.size, 1, none⟩ u).cell? ⟨mb, 0, none⟩ = some v ∧ ((w8.setCell ⟨w.heap.size, 0, none⟩ (.string N)).setCell ⟨w.heap.size, 1, none⟩ u).cell? ⟨mb, 1, none⟩ = some (.int .i64 (j + 1 : Nat)) ∧ ((w8.setCell ⟨w.heap.size, 0, none⟩ (.string N)).setCell ⟨w.heap.size, 1, none⟩ u).frozen? ⟨mb, 1, none⟩ = false ∧
    (∀ b o, b ≠ w.heap.size → ((w8.setCell ⟨w.heap.size, 0, none⟩ (.string N)).setCell ⟨w.heap.size, 1, none⟩ u).cell? ⟨b, o, none⟩ = w8.cell? ⟨b, o, none⟩) := by
  obtain ⟨h1, h2, h3, h4, h5, h6, h7, h8, h9, h10, h11, h12, h13, h14⟩ := h
  have oth : ∀ b o, b ≠ w.heap.size → ((w8.setCell ⟨w.heap.size, 0, none⟩ (.string N)).setCell ⟨w.heap.size, 1, none⟩ u).cell? ⟨b, o, none⟩ = w8.cell? ⟨b, o, none⟩ := fun b o hb => by
    rw [World.cell?_setCell_other _ _ _ _ (fun e => by have := congrArg Addr.block e; simp at this; omega), World.cell?_setCell_other _ _ _ _ (fun e => by have := congrArg Addr.block e; simp at this; omega)]
  refine ⟨⟨h1.os, h1.tape, h1.output, by simp [World.setCell]; exact h1.size, fun k hk hne => ?_⟩, (oth _ _ (by omega)).trans h8, (oth _ _ (by omega)).trans h9, by rw [World.frozen?_setCell, World.frozen?_setCell]; exact h10, oth⟩
  rw [heap_set_other _ _ _ k (show k ≠ w.heap.size by omega), heap_set_other _ _ _ k (show k ≠ w.heap.size by omega)]; exact h1.block k hk hne
theorem tail5 {w W1 W w5 : World} {mb : Nat} {v : Value} {j : Nat} (hm : mb < w.heap.size) (hW1 : W1 = w.alloc (.cells #[.string ⟨#[]⟩, .slice none 0 0] 60)) (hW : Below W1.heap.size W1 W) (hw5 : w5 = W.drew.setCell ⟨mb, 1, none⟩ (.int .i64 ((j : Int) + 1)))
    (f2 : w5.cell? ⟨mb, 0, none⟩ = some v) (f3 : w5.cell? ⟨mb, 1, none⟩ = some (.int .i64 ((j : Int) + 1))) (f4 : w5.frozen? ⟨mb, 1, none⟩ = false) :
    w.grownBy w5 (some mb) ∧ w5.cell? ⟨w.heap.size, 0, none⟩ = some (.string ⟨#[]⟩) ∧ w5.cell? ⟨w.heap.size, 1, none⟩ = some (.slice none 0 0) ∧ w5.frozen? ⟨w.heap.size, 0, none⟩ = false ∧ w5.frozen? ⟨w.heap.size, 1, none⟩ = false ∧ w.heap.size < w5.heap.size := by
  have s1 : W1.heap.size = w.heap.size + 1 := by rw [hW1]; simp
  have s5 : w5.heap.size = W.heap.size := size_of (W := W.drew) hw5
  have hz := hW.size
  have h0 : W1.heap[w.heap.size]? = some (.cells #[.string ⟨#[]⟩, .slice none 0 0] 60 (0, 0)) := by rw [hW1]; exact heap_alloc_new w _
  have hblk : ∀ k, k ≠ mb → w5.heap[k]? = W.heap[k]? := fun k hk => by rw [hw5]; exact heap_set_other _ _ _ k hk
  have h5 : w5.heap[w.heap.size]? = some (.cells #[.string ⟨#[]⟩, .slice none 0 0] 60 (0, 0)) := by rw [hblk _ (by omega), hW.block _ (by omega), h0]
  refine ⟨⟨?_, ?_, ?_, by omega, fun k hk hne => ?_⟩, by simp only [World.cell?, h5]; rfl, by simp only [World.cell?, h5]; rfl, by simp only [World.frozen?, h5]; rfl, by simp only [World.frozen?, h5]; rfl, by omega⟩
  · have h := hW.os; rw [hW1] at h; rw [hw5]; exact h
  · have h := hW.tape; rw [hW1] at h; rw [hw5]; exact h
  · have h := hW.output; rw [hW1] at h; rw [hw5]; exact h
  · have hkm : k ≠ mb := fun e => hne (by rw [e])
    rw [hblk k hkm, hW.block _ (by omega), hW1, heap_alloc_old _ _ hk]
theorem tailA {w W1 w5 : World} {mb : Nat} {v : Value} {j : Nat} (hm : mb < w.heap.size) (hW1 : W1 = w.alloc (.cells #[.string ⟨#[]⟩, .slice none 0 0] 60)) (hw5 : w5 = W1.drew.setCell ⟨mb, 1, none⟩ (.int .i64 ((j : Int) + 1)))
    (f2 : w5.cell? ⟨mb, 0, none⟩ = some v) (f3 : w5.cell? ⟨mb, 1, none⟩ = some (.int .i64 ((j : Int) + 1))) (f4 : w5.frozen? ⟨mb, 1, none⟩ = false) (X : ByteArray) (x : Value) : Tail w (w5.alloc (.cells #[.string X, x] 60)) mb w5.heap.size v j X x := by
  obtain ⟨h1, h2, h3, h4, h5, h6⟩ := tail5 hm hW1 (Below.refl _ _) hw5 f2 f3 f4
  have hb : Below w5.heap.size w5 (w5.alloc (.cells #[.string X, x] 60)) := (Below.refl _ _).alloc (Nat.le_refl _) _
  have hm5 : mb < w5.heap.size := by omega
  exact ⟨⟨hb.os.trans h1.os, hb.tape.trans h1.tape, hb.output.trans h1.output, Nat.le_trans h1.size hb.size, fun k hk hne => (hb.block k (Nat.lt_of_lt_of_le hk h1.size)).trans (h1.block k hk hne)⟩, by simp, by simp, (hb.cell (p := ⟨w.heap.size, 0, none⟩) h6).trans h2, (hb.cell (p := ⟨w.heap.size, 1, none⟩) h6).trans h3, (hb.frozen (p := ⟨w.heap.size, 0, none⟩) h6).trans h4, (hb.frozen (p := ⟨w.heap.size, 1, none⟩) h6).trans h5,
    (hb.cell (p := ⟨mb, 0, none⟩) hm5).trans f2, (hb.cell (p := ⟨mb, 1, none⟩) hm5).trans f3, (hb.frozen (p := ⟨mb, 1, none⟩) hm5).trans f4, by simp, by simp; omega, by omega, by omega⟩
theorem tailB {w W1 w5 : World} {mb : Nat} {v : Value} {j : Nat} (hm : mb < w.heap.size) (hW1 : W1 = w.alloc (.cells #[.string ⟨#[]⟩, .slice none 0 0] 60)) (hw5 : w5 = (W1.alloc (.cells #[.string ⟨#[]⟩, .slice none 0 0] 60)).drew.setCell ⟨mb, 1, none⟩ (.int .i64 ((j : Int) + 1)))
    (f2 : w5.cell? ⟨mb, 0, none⟩ = some v) (f3 : w5.cell? ⟨mb, 1, none⟩ = some (.int .i64 ((j : Int) + 1))) (f4 : w5.frozen? ⟨mb, 1, none⟩ = false) (p0 : w5.cell? ⟨W1.heap.size, 0, none⟩ = some (.string ⟨#[]⟩)) (p1 : w5.cell? ⟨W1.heap.size, 1, none⟩ = some (.slice none 0 0)) (X : ByteArray) (x : Value) :
    Tail w ((w5.setCell ⟨W1.heap.size, 0, none⟩ (.string X)).setCell ⟨W1.heap.size, 1, none⟩ x) mb W1.heap.size v j X x := by
  obtain ⟨h1, h2, h3, h4, h5, h6⟩ := tail5 hm hW1 ((Below.refl _ _).alloc (Nat.le_refl _) _) hw5 f2 f3 f4
  have s1 : W1.heap.size = w.heap.size + 1 := by rw [hW1]; simp
  have s5 : w5.heap.size = W1.heap.size + 1 := by rw [size_of hw5]; simp
  obtain ⟨T, hT⟩ : ∃ T, T = W1.heap.size := ⟨_, rfl⟩
  rw [← hT] at s1 s5 p0 p1 ⊢
  have oth : ∀ b o, b ≠ T → ((w5.setCell ⟨T, 0, none⟩ (.string X)).setCell ⟨T, 1, none⟩ x).cell? ⟨b, o, none⟩ = w5.cell? ⟨b, o, none⟩ := fun b o hb => by
    rw [World.cell?_setCell_other _ _ _ _ (fun e => by have := congrArg Addr.block e; simp at this; omega), World.cell?_setCell_other _ _ _ _ (fun e => by have := congrArg Addr.block e; simp at this; omega)]
  refine ⟨⟨h1.os, h1.tape, h1.output, by simp [World.setCell]; exact h1.size, fun k hk hne => ?_⟩, ?_, ?_, (oth _ _ (by omega)).trans h2, (oth _ _ (by omega)).trans h3, by rw [World.frozen?_setCell, World.frozen?_setCell]; exact h4, by rw [World.frozen?_setCell, World.frozen?_setCell]; exact h5, (oth _ _ (by omega)).trans f2, (oth _ _ (by omega)).trans f3, by rw [World.frozen?_setCell, World.frozen?_setCell]; exact f4, by simp [World.setCell]; omega, by simp [World.setCell]; omega, by omega, by omega⟩
  · rw [heap_set_other _ _ _ k (show k ≠ T by omega), heap_set_other _ _ _ k (show k ≠ T by omega)]; exact h1.block k hk hne
  · rw [World.cell?_setCell_other _ _ _ _ (fun e => by have := congrArg Addr.off e; simp at this)]; exact World.cell?_setCell_same _ _ _ p0
  · exact World.cell?_setCell_same _ _ _ ((World.cell?_setCell_other _ _ _ _ (fun e => by have := congrArg Addr.off e; simp at this)).trans p1)
set_option maxRecDepth 100000 in
set_option maxHeartbeats 4000000 in
theorem next_any (L : List AT) (hs : smallA L) (mb j : Nat) (v : Value) (w : World) (hm : mb < w.heap.size) (hL : IsA mb w L v) (hj : j < L.length) (h0 : w.cell? ⟨mb, 0, none⟩ = some v) (h1 : w.cell? ⟨mb, 1, none⟩ = some (.int .i64 j)) (hz : w.frozen? ⟨mb, 1, none⟩ = false) :
    Calls Tryz.prog 101 #[.pointer (some ⟨mb, 0, none⟩)] w fun e w' => ∃ u, e = .returned (.agg #[.string (ofL (nameA L[j].1)), u]) ∧ IsTo (fun b => w.heap.size ≤ b ∧ b < w'.heap.size) w' L[j].2 u ∧ w.grownBy w' (some mb) ∧ w'.cell? ⟨mb, 0, none⟩ = some v ∧ w'.cell? ⟨mb, 1, none⟩ = some (.int .i64 (j + 1 : Nat)) ∧ w'.frozen? ⟨mb, 1, none⟩ = false := by
  obtain ⟨sa, sc, rfl, hml, hcell⟩ := hL
  obtain ⟨b, off, x, rfl, hb0, x0, x1, hx⟩ := hcell j hj
  obtain ⟨xa, xn, xc, rfl⟩ := (show ∃ a k c, x = .slice a k c from by obtain ⟨a, c, hv, _⟩ := hx; exact ⟨a, _, c, hv⟩)
  unfold maxLen at hml
  obtain ⟨X, hX⟩ : ∃ X : ByteArray, ofL L[j].1 = X := ⟨_, rfl⟩
  have gX : X.data.toList = L[j].1 := by rw [← hX, ofL_list]
  have d0 : w.cell? ⟨b, off + j * 2, none⟩ = some (.string X) := by rw [x0, ← hX]; rfl
  have hXs : X.size ≤ 281474976710656 := by
    have := (hs.2 L[j] (List.getElem_mem _)).1
    rw [← bytes_len, gX]; omega
  obtain ⟨n, hn⟩ : ∃ n, n = L.length := ⟨_, rfl⟩
  rw [← hn] at h0 hml
  have HX := Lib.hid hx
  have hsT := (hs.2 L[j] (List.getElem_mem _)).2
  have hl5 : n ≤ 1000 := by rw [hn]; exact hs.1
  have hjn : j < n := by omega
  have HT := Lib.hid (fun w => typeName_any X hXs w)
  have HGX := Lib.hid gX
  have HST := Lib.hid hsT
  have HN := Lib.hid hn
  have q1 : (j : Int) < (n : Int) := by omega
  have q2 : (0 : Int) ≤ (j : Int) := by omega
  have q3 : IntKind.i64.wrap ((j : Int) + 1 - 1) = (j : Int) := by rw [IntKind.wrap_i64]; omega
  have q4 : (j : Int) + 1 - 1 = (j : Int) := by omega
  have q5 : IntKind.i64.wrap (j : Int) = (j : Int) := by rw [IntKind.wrap_i64]; omega
  have HAdd := Lib.hid (fun w h hz => add_any mb 1 (j : Int) (by omega) (by omega) w h hz)
  clear hcell hs hX gX x0 hx hsT hn hXs
  go_enter Tryz.func101, Tryz.ntmps101
  go_wp2
  obtain ⟨W1, hW1⟩ : ∃ W1, W1 = w.alloc (.cells #[.string ⟨#[]⟩, .slice none 0 0] 60) := ⟨_, rfl⟩
  have hW1b : Below w.heap.size w W1 := by rw [hW1]; exact (Below.refl _ _).alloc (Nat.le_refl _) _
  have c0 := (hW1b.cell (p := ⟨mb, 0, none⟩) hm).trans h0
  have c1 := (hW1b.cell (p := ⟨mb, 1, none⟩) hm).trans h1
  have cz := (hW1b.frozen (p := ⟨mb, 1, none⟩) hm).trans hz
  have hbw : b < w.heap.size := Nat.lt_trans hb0 hm
  have e0 := (hW1b.cell (p := ⟨b, off + j * 2, none⟩) hbw).trans d0
  have e1 := (hW1b.cell (p := ⟨b, off + j * 2 + 1, none⟩) hbw).trans x1
  rw [← hW1]
  have HW1 := Lib.hid hW1
  have HW1b := Lib.hid hW1b
  clear hW1 hW1b h0 h1 hz d0 x1
  obtain ⟨W2, hW2⟩ : ∃ W2, W2 = W1.alloc (.cells #[.string ⟨#[]⟩, .slice none 0 0] 60) := ⟨_, rfl⟩
  have hm1 : mb < W1.heap.size := Nat.lt_of_lt_of_le hm HW1b.out.size
  have hb1 : b < W1.heap.size := Nat.lt_of_lt_of_le hbw HW1b.out.size
  have hW2b : Below W1.heap.size W1 W2 := by rw [hW2]; exact (Below.refl _ _).alloc (Nat.le_refl _) _
  have HD := Lib.hid (nextAt_of (W := W1) (mb := mb) (b := b) (p := off + j * 2) hb0 c0 c1 cz e0 e1)
  have HE := Lib.hid (nextAt_of (W := W2) (mb := mb) (b := b) (p := off + j * 2) hb0 ((hW2b.cell (p := ⟨mb, 0, none⟩) hm1).trans c0) ((hW2b.cell (p := ⟨mb, 1, none⟩) hm1).trans c1) ((hW2b.frozen (p := ⟨mb, 1, none⟩) hm1).trans cz) ((hW2b.cell (p := ⟨b, off + j * 2, none⟩) hb1).trans e0) ((hW2b.cell (p := ⟨b, off + j * 2 + 1, none⟩) hb1).trans e1))
  have C1 : Hid (W1.drew.cell? ⟨mb, 1, none⟩ = some (.int .i64 (j : Int)) ∧ W1.drew.frozen? ⟨mb, 1, none⟩ = false) := Lib.hid ⟨c1, cz⟩
  have C2 : Hid ((W1.alloc (.cells #[.string ⟨#[]⟩, .slice none 0 0] 60)).drew.cell? ⟨mb, 1, none⟩ = some (.int .i64 (j : Int)) ∧ (W1.alloc (.cells #[.string ⟨#[]⟩, .slice none 0 0] 60)).drew.frozen? ⟨mb, 1, none⟩ = false) := Lib.hid (by rw [← hW2]; exact ⟨(hW2b.cell (p := ⟨mb, 1, none⟩) hm1).trans c1, (hW2b.frozen (p := ⟨mb, 1, none⟩) hm1).trans cz⟩)
  have c0a : (W1.alloc (.cells #[.string ⟨#[]⟩, .slice none 0 0] 60)).cell? ⟨mb, 0, none⟩ = some (.slice (some ⟨b, off, none⟩) n sc) := by rw [← hW2]; exact (hW2b.cell (p := ⟨mb, 0, none⟩) hm1).trans c0
  have HW2 := Lib.hid hW2
  clear hW2 hW2b
  go_region_law (go_simp; go_at_call 136; first
    | ((with_reducible refine (HAdd.out W1.drew C1.out.1 C1.out.2).mono ?_); rintro e w5 ⟨rfl, hw5⟩; (obtain ⟨f0, f1, f2, f3, f4⟩ := HD.out w5 hw5); (obtain ⟨g0, g1⟩ := behind_of (by rw [size_of hw5]; exact hb1) f0 f1 (.cells #[.string ⟨#[]⟩, .slice none 0 0] 60)); have g2 := (World.cell?_alloc_lt w5 (.cells #[.string ⟨#[]⟩, .slice none 0 0] 60) ⟨mb, 0, none⟩ (show mb < w5.heap.size by rw [size_of hw5]; exact hm1)).trans f2; have HW5 := Lib.hid hw5; clear hw5)
    | (((with_reducible refine (HAdd.out ((W1.alloc (.cells #[.string ⟨#[]⟩, .slice none 0 0] 60)).drew) C2.out.1 C2.out.2).mono ?_)); rintro e w5 ⟨rfl, hw5⟩; (obtain ⟨f0, f1, f2, f3, f4⟩ := HE.out w5 (by rw [HW2.out]; exact hw5)); (obtain ⟨p0, p1, p2, p3⟩ := ahead_of hm1 _ w5 hw5); have HW5 := Lib.hid hw5; clear hw5))
  all_goals
    first
      | (have htl := tailA hm HW1.out HW5.out f2 f3 f4 X (.slice xa xn xc)
         obtain ⟨w6, hw6⟩ : ∃ w6, w6 = w5.alloc (.cells #[.string X, .slice xa xn xc] 60) := ⟨_, rfl⟩
         rw [← hw6] at htl ⊢
         generalize w5.heap.size = T at htl ⊢
         clear hw6)
      | (have htl := tailB hm HW1.out HW5.out f2 f3 f4 p0 p1 X (.slice xa xn xc)
         obtain ⟨w6, hw6⟩ : ∃ w6, w6 = (w5.setCell ⟨W1.heap.size, 0, none⟩ (.string X)).setCell ⟨W1.heap.size, 1, none⟩ (.slice xa xn xc) := ⟨_, rfl⟩
         rw [← hw6] at htl ⊢
         generalize W1.heap.size = T at htl ⊢
         clear hw6)
    have HTl := Lib.hid htl
    obtain ⟨_, k0, k1, _⟩ := htl
    clear f0 f1 f2 f3 f4 c0 c1 cz e0 e1 c0a
    have hdr : Below w6.heap.size w6 w6.drew := ⟨rfl, rfl, rfl, Nat.le_refl _, fun _ _ => rfl⟩
    have HTd := Lib.hid (HTl.out.go hm hdr)
    clear hdr
    go_simp
    go_wp2
    go_region_law (first
      | (go_simp; go_at_call 137; ((with_reducible refine (HT.out _).mono ?_); rintro e w7 ⟨rfl, hb7⟩; have HT7 := Lib.hid (HTd.out.go hm hb7); (obtain ⟨_, _, m1, _⟩ := HT7.out); clear hb7))
      | (go_simp; go_at_call 138; ((with_reducible refine (copyVals_any _ HST.out _ _ (isT_grown HX.out hm HT7.out.grown)).mono ?_); rintro e w8 ⟨u8, rfl, hu8, hb8⟩; have HU8 := Lib.hid (ownS_isTo hu8 (by have := HST.out.1; unfold maxLen; omega)); have HT8 := Lib.hid (HT7.out.go hm hb8); (obtain ⟨_, _, _, r0, r1, r2, r3, _⟩ := HT8.out); have hz7 : w.heap.size < w7.heap.size := HT7.out.rsz; (obtain ⟨ya, yc, rfl⟩ := ownS_slice hu8); clear hu8 hb8)))
    all_goals
      go_simp
      go_wp2
      obtain ⟨hg, hc0, hc1, hcz, hoth⟩ := HT8.out.fin hm (ofL (nameA X.data.toList)) (.slice ya L[j].2.length yc)
      refine bodyPost_ret (v := .agg #[.string (ofL (nameA X.data.toList)), .slice ya L[j].2.length yc]) (by simp [results, Tryz.results101, go_sem, r0, r1]) rfl ⟨_, by rw [HGX.out], HU8.out.imp (fun b hb => ⟨by have := hb.1; omega, by simp [World.setCell]; exact hb.2⟩) (fun b o hb => hoth b o (by have := hb.1; omega)), hg, by rw [← HN.out]; exact hc0, hc1, hcz⟩
end Go.Proofs.YtgaaefcanfglhaaGreatDoor


namespace Go.Proofs.YtgaaefcanfglhaaGreatDoor
open Go.RowKit
set_option linter.unusedVariables false

def normL (L : List AT) : List AT := L.map (fun a => (nameA a.1, a.2))
theorem ownA_grown {B mb : Nat} {w w' : World} {v : Value} {L : List AT} (h : OwnA B w v L) (hg : w.grownBy w' (some mb)) (hm : mb < B) : OwnA B w' v L := by
  obtain ⟨P, hr, hs⟩ := h
  have hblk : ∀ k, B ≤ k → k < w.heap.size → w'.heap[k]? = w.heap[k]? := fun k h1 h2 => hg.block k h2 (by intro e; have := Option.some.inj e; omega)
  refine ⟨P, ⟨hr.1, hr.2.imp id fun ⟨g, cap, cur, e1, hb, hgg, rest⟩ => ⟨g, cap, cur, e1, hb, (hblk g hb (Array.getElem?_eq_some_iff.1 hgg).1).trans hgg, rest⟩⟩, hs.1, fun j h1 h2 => ⟨(hs.2 j h1 h2).1, (hs.2 j h1 h2).2.imp (fun b hb => ⟨hb.1, Nat.lt_of_lt_of_le hb.2.1 hg.size, hb.2.2⟩) (fun b o hb => by
    have := hblk b hb.1 hb.2.1
    simp only [World.cell?, this])⟩⟩
theorem BoxE.grown {b mb : Nat} {d : ByteArray} {w w' : World} (h : BoxE b d w) (hg : w.grownBy w' (some mb)) (hm : mb = b + 2) (hs : b + 2 < w.heap.size) : BoxE b d w' := by
  have h0 := hg.block b (by omega) (by intro e; have := Option.some.inj e; omega)
  have h1 := hg.block (b + 1) (by omega) (by intro e; have := Option.some.inj e; omega)
  obtain ⟨a0, a1, a2, a3, a4⟩ := h
  unfold BoxE
  simp only [World.cell?, World.frozen?, h0, h1]
  exact ⟨a0, a1, a2, a3, a4⟩
theorem below_grown {B mb : Nat} {w0 w w' : World} (h : Below B w0 w) (hg : w.grownBy w' (some mb)) (hB : B ≤ mb) (hw : B ≤ w.heap.size) : Below B w0 w' :=
  h.trans ⟨hg.os, hg.tape, hg.output, hg.size, fun k hk => hg.block k (by omega) (by intro e; have := Option.some.inj e; omega)⟩
structure NormAt (b : Nat) (d : ByteArray) (w wr : World) (v l : Value) (j : Nat) (L' : List AT) : Prop where
  own : OwnA (b + 3) wr l L'
  box : BoxE b d wr
  m0 : wr.cell? ⟨b + 2, 0, none⟩ = some v
  m1 : wr.cell? ⟨b + 2, 1, none⟩ = some (.int .i64 (j : Int))
  mz : wr.frozen? ⟨b + 2, 1, none⟩ = false
  size : b + 3 ≤ wr.heap.size
  bel : Below b w wr
theorem NormAt.go {b : Nat} {d : ByteArray} {w wr w2 : World} {v l : Value} {j : Nat} {L' : List AT} (h : NormAt b d w wr v l j L') (hb : Below wr.heap.size wr w2) : NormAt b d w w2 v l j L' where
  own := ownA_below h.own hb
  box := h.box.go hb (by have := h.size; omega)
  m0 := (hb.cell (p := ⟨b + 2, 0, none⟩) (show b + 2 < wr.heap.size by have := h.size; omega)).trans h.m0
  m1 := (hb.cell (p := ⟨b + 2, 1, none⟩) (show b + 2 < wr.heap.size by have := h.size; omega)).trans h.m1
  mz := (hb.frozen (p := ⟨b + 2, 1, none⟩) (show b + 2 < wr.heap.size by have := h.size; omega)).trans h.mz
  size := Nat.le_trans h.size hb.size
  bel := h.bel.trans (hb.mono (by have := h.size; omega))
theorem NormAt.next {b : Nat} {d : ByteArray} {w wr w2 : World} {v l : Value} {j : Nat} {L' : List AT} (h : NormAt b d w wr v l j L') (hg : wr.grownBy w2 (some (b + 2))) (h0 : w2.cell? ⟨b + 2, 0, none⟩ = some v) (h1 : w2.cell? ⟨b + 2, 1, none⟩ = some (.int .i64 (j + 1 : Nat))) (hz : w2.frozen? ⟨b + 2, 1, none⟩ = false) : NormAt b d w w2 v l (j + 1) L' where
  own := ownA_grown h.own hg (by omega)
  box := h.box.grown hg rfl (by have := h.size; omega)
  m0 := h0
  m1 := h1
  mz := hz
  size := Nat.le_trans h.size hg.size
  bel := below_grown h.bel hg (by omega) (by have := h.size; omega)
theorem NormAt.app {b : Nat} {d : ByteArray} {w wr w2 : World} {v l l2 : Value} {j : Nat} {L' L2 : List AT} (h : NormAt b d w wr v l j L') (hb : Below (b + 3) wr w2) (ho : OwnA (b + 3) w2 l2 L2) : NormAt b d w w2 v l2 j L2 where
  own := ho
  box := h.box.go hb (by omega)
  m0 := (hb.cell (p := ⟨b + 2, 0, none⟩) (show b + 2 < b + 3 by omega)).trans h.m0
  m1 := (hb.cell (p := ⟨b + 2, 1, none⟩) (show b + 2 < b + 3 by omega)).trans h.m1
  mz := (hb.frozen (p := ⟨b + 2, 1, none⟩) (show b + 2 < b + 3 by omega)).trans h.mz
  size := Nat.le_trans h.size hb.size
  bel := h.bel.trans (hb.mono (by omega))
theorem norm_block (w : World) (d : ByteArray) (v : Value) : (((w.alloc (.cells #[.string d, v] 27)).alloc (.cells #[.string ⟨#[]⟩, .slice none 0 0] 27)).alloc (.cells #[v, .int .i64 0] 148)).heap[w.heap.size + 2]? = some (.cells #[v, .int .i64 0] 148 (0, 0)) := by
  have := heap_alloc_new ((w.alloc (.cells #[.string d, v] 27)).alloc (.cells #[.string ⟨#[]⟩, .slice none 0 0] 27)) (.cells #[v, .int .i64 0] 148)
  simpa only [World.size_alloc] using this
theorem norm_start (w : World) (d : ByteArray) (v : Value) : NormAt w.heap.size d w (((w.alloc (.cells #[.string d, v] 27)).alloc (.cells #[.string ⟨#[]⟩, .slice none 0 0] 27)).alloc (.cells #[v, .int .i64 0] 148)) v (.slice none 0 0) 0 [] where
  own := ownA_nil _ _
  box := (boxE_new w d v).go (Below.alloc (Below.refl (w.heap.size + 2) _) (by simp) _) (by omega)
  m0 := by simp only [World.cell?, norm_block w d v]; rfl
  m1 := by simp only [World.cell?, norm_block w d v]; rfl
  mz := by simp only [World.frozen?, norm_block w d v]; rfl
  size := by simp
  bel := (((Below.refl _ _).alloc (Nat.le_refl _) _).alloc (by simp) _).alloc (by simp; omega) _
theorem normL_take (L : List AT) (j : Nat) (h : j < L.length) : normL (L.take (j + 1)) = normL (L.take j) ++ [(nameA L[j].1, L[j].2)] := by
  unfold normL
  rw [List.take_succ_eq_append_getElem h, List.map_append]; rfl

end Go.Proofs.YtgaaefcanfglhaaGreatDoor


namespace Go.Proofs.YtgaaefcanfglhaaGreatDoor
set_option linter.unusedVariables false
set_option linter.unusedSimpArgs false

section
variable {α β : Type}
def swapG (R : List α) (j : Nat) : List α := match R[j]?, R[j + 1]? with
  | some x, some y => (R.set j y).set (j + 1) x
  | _, _ => R
def bubG (key : α → List UInt8) : Nat → List α → List α
  | 0, R => R
  | j + 1, R => match R[j]?, R[j + 1]? with
    | some x, some y => if cmpL (key y) (key x) < 0 then bubG key j (swapG R j) else R
    | _, _ => R
def srtG (key : α → List UInt8) : Nat → List α → List α
  | 0, R => R
  | k + 1, R => bubG key (k + 1) (srtG key k R)
theorem swapG_length (R : List α) (j : Nat) : (swapG R j).length = R.length := by
  unfold swapG
  split
  · simp
  · rfl
theorem swapG_at {R : List α} {j : Nat} (h : j + 1 < R.length) : swapG R j = (R.set j R[j + 1]).set (j + 1) (R[j]'(by omega)) := by
  unfold swapG
  rw [List.getElem?_eq_getElem h, List.getElem?_eq_getElem (show j < R.length by omega)]
theorem swapG_mem {R : List α} {j : Nat} {x : α} (h : x ∈ swapG R j) : x ∈ R := by
  unfold swapG at h
  split at h
  · rename_i a b ha hb
    rcases List.mem_or_eq_of_mem_set h with h | h
    · rcases List.mem_or_eq_of_mem_set h with h | h
      · exact h
      · rw [h]; exact List.mem_of_getElem? hb
    · rw [h]; exact List.mem_of_getElem? ha
  · exact h
theorem bubG_length (key : α → List UInt8) : ∀ (j : Nat) (R : List α), (bubG key j R).length = R.length
  | 0, _ => rfl
  | j + 1, R => by
    unfold bubG
    split
    · split
      · rw [bubG_length key j, swapG_length]
      · rfl
    · rfl
theorem bubG_mem {key : α → List UInt8} : ∀ (j : Nat) {R : List α} {x : α}, x ∈ bubG key j R → x ∈ R
  | 0, _, _, h => h
  | j + 1, R, x, h => by
    unfold bubG at h
    split at h
    · split at h
      · exact swapG_mem (bubG_mem j h)
      · exact h
    · exact h
theorem srtG_length (key : α → List UInt8) : ∀ (k : Nat) (R : List α), (srtG key k R).length = R.length
  | 0, _ => rfl
  | k + 1, R => by
    show (bubG key (k + 1) (srtG key k R)).length = _
    rw [bubG_length, srtG_length key k]
theorem srtG_mem {key : α → List UInt8} : ∀ (k : Nat) {R : List α} {x : α}, x ∈ srtG key k R → x ∈ R
  | 0, _, _, h => h
  | k + 1, R, x, h => srtG_mem k (bubG_mem (k + 1) h)
theorem bubG_go {key : α → List UInt8} {j : Nat} {R : List α} (h : j + 1 < R.length) (hc : cmpL (key R[j + 1]) (key (R[j]'(by omega))) < 0) : bubG key (j + 1) R = bubG key j (swapG R j) := by
  conv => lhs; unfold bubG
  rw [List.getElem?_eq_getElem h, List.getElem?_eq_getElem (show j < R.length by omega)]
  simp only []
  rw [if_pos hc]
theorem bubG_stop {key : α → List UInt8} {j : Nat} {R : List α} (h : j + 1 < R.length) (hc : ¬ cmpL (key R[j + 1]) (key (R[j]'(by omega))) < 0) : bubG key (j + 1) R = R := by
  unfold bubG
  rw [List.getElem?_eq_getElem h, List.getElem?_eq_getElem (show j < R.length by omega)]
  simp only []
  rw [if_neg hc]
theorem swapG_map (f : α → β) (R : List α) (j : Nat) : (swapG R j).map f = swapG (R.map f) j := by
  unfold swapG
  rw [List.getElem?_map, List.getElem?_map]
  cases R[j]? with
  | none => rfl
  | some x =>
    cases R[j + 1]? with
    | none => rfl
    | some y => simp [List.map_set]
theorem bubG_map {key : α → List UInt8} {key' : β → List UInt8} (f : α → β) : ∀ (j : Nat) (R : List α), (∀ x ∈ R, key' (f x) = key x) → (bubG key j R).map f = bubG key' j (R.map f)
  | 0, _, _ => rfl
  | j + 1, R, h => by
    unfold bubG
    rw [List.getElem?_map, List.getElem?_map]
    cases hx : R[j]? with
    | none => rfl
    | some x =>
      cases hy : R[j + 1]? with
      | none => rfl
      | some y =>
        simp only [Option.map_some]
        rw [h x (List.mem_of_getElem? hx), h y (List.mem_of_getElem? hy)]
        split
        · rw [bubG_map f j _ fun z hz => h z (swapG_mem hz), swapG_map]
        · rfl
theorem srtG_map {key : α → List UInt8} {key' : β → List UInt8} (f : α → β) : ∀ (k : Nat) (R : List α), (∀ x ∈ R, key' (f x) = key x) → (srtG key k R).map f = srtG key' k (R.map f)
  | 0, _, _ => rfl
  | k + 1, R, h => by
    show (bubG key (k + 1) (srtG key k R)).map f = bubG key' (k + 1) (srtG key' k (R.map f))
    rw [bubG_map f (k + 1) _ fun x hx => h x (srtG_mem k hx), srtG_map f k R h]
end
def sortA (L : List AT) : List AT := srtG (fun a => a.1) (L.length - 1) L
end Go.Proofs.YtgaaefcanfglhaaGreatDoor


namespace Go.Proofs.YtgaaefcanfglhaaGreatDoor
set_option linter.unusedVariables false
set_option linter.unusedSimpArgs false

theorem ofL_bang (l : List UInt8) (i : Nat) : (ofL l)[i]! = l[i]! := by
  by_cases h : i < l.length
  · rw [getElem!_pos (ofL l) i (by simpa [ofL, ByteArray.size] using h), getElem!_pos l i h]
    rfl
  · rw [getElem!_neg (ofL l) i (by simpa [ofL, ByteArray.size] using h), getElem!_neg l i h]
theorem cmpL_cons (x y : UInt8) (a b : List UInt8) : cmpL (x :: a) (y :: b) = if (x != y) = true then (if x < y then -1 else 1) else cmpL a b := by
  unfold cmpL Extern.BytealgCompare.cmp
  simp only [ofL_bang, ofL_size, List.length_cons]
  rw [show min (a.length + 1) (b.length + 1) = min a.length b.length + 1 by omega, List.range_succ_eq_map, List.find?_cons]
  have e0 : (x :: a)[0]! = x := rfl
  have e1 : (y :: b)[0]! = y := rfl
  rw [e0, e1]
  by_cases h : (x != y) = true
  · rw [h, if_pos rfl]
    simp only [e0, e1]
  · have h' : (x != y) = false := by simpa using h
    rw [h', List.find?_map]
    simp only [Bool.false_eq_true, if_false]
    have e2 : ((fun i => (x :: a)[i]! != (y :: b)[i]!) ∘ Nat.succ) = fun i => a[i]! != b[i]! := by
      funext i
      simp
    rw [e2]
    cases hq : List.find? (fun i => a[i]! != b[i]!) (List.range (min a.length b.length)) with
    | none =>
      have e3 : (a.length + 1 < b.length + 1) = (a.length < b.length) := propext ⟨fun h => by omega, fun h => by omega⟩
      have e4 : (a.length + 1 > b.length + 1) = (a.length > b.length) := propext ⟨fun h => by omega, fun h => by omega⟩
      simp only [Option.map_none, e3, e4]
    | some i => simp
theorem cmpL_less : ∀ a b : List UInt8, decide (cmpL a b < 0) = Op.bytesLess a b
  | a, [] => by cases a <;> simp [cmpL, Extern.BytealgCompare.cmp, ofL_size, Op.bytesLess]
  | [], y :: b => by simp [cmpL, Extern.BytealgCompare.cmp, ofL_size, Op.bytesLess]
  | x :: a, y :: b => by
    have ih := cmpL_less a b
    rw [cmpL_cons]
    unfold Op.bytesLess
    by_cases h : x = y
    · subst h
      simp [ih]
    · have h1 : (x != y) = true := by simpa using h
      have h2 : (x == y) = false := by simpa using h
      rw [if_pos h1, h2]
      by_cases h3 : x < y <;> simp [h3]
theorem less_gtB : ∀ x y : List UInt8, Op.bytesLess y x = gtB x y
  | [], [] => rfl
  | [], _ :: _ => rfl
  | _ :: _, [] => rfl
  | a :: x, b :: y => by
    have ih := less_gtB x y
    unfold gtB at ih ⊢
    simp only [Op.bytesLess, List.cons_beq_cons]
    rw [ih]
    by_cases h : a = b
    · subst h; simp
    · have h1 : (a == b) = false := by simpa using h
      have h2 : (b == a) = false := by simpa using Ne.symm h
      rw [h1, h2]
      have h3 : a.toNat ≠ b.toNat := fun e => h (UInt8.toNat_inj.1 e)
      simp only [UInt8.lt_iff_toNat_lt]
      by_cases h4 : a.toNat < b.toNat
      · have h5 : ¬ b.toNat < a.toNat := by omega
        simp [h4, h5]
      · have h5 : b.toNat < a.toNat := by omega
        simp [h4, h5]
theorem cmp_gtB (x y : List UInt8) : cmpL y x < 0 ↔ gtB x y = true := by
  rw [← less_gtB, ← cmpL_less]; simp

def posB (S : List AT) (a : AT) : Nat → Nat
  | 0 => 0
  | k + 1 => match S[k]? with
    | some s => if gtB s.1 a.1 = true then posB S a k else k + 1
    | none => k + 1
def insB (S : List AT) (a : AT) : List AT := S.take (posB S a S.length) ++ a :: S.drop (posB S a S.length)
theorem posB_le (S : List AT) (a : AT) : ∀ k, posB S a k ≤ k
  | 0 => Nat.le_refl _
  | k + 1 => by
    unfold posB
    split
    · split
      · exact Nat.le_succ_of_le (posB_le S a k)
      · exact Nat.le_refl _
    · exact Nat.le_refl _
theorem posB_go {S : List AT} {a : AT} {k : Nat} (h : k < S.length) (hg : gtB S[k].1 a.1 = true) : posB S a (k + 1) = posB S a k := by
  rw [posB, List.getElem?_eq_getElem h]; simp only []; rw [if_pos hg]
theorem posB_stop {S : List AT} {a : AT} {k : Nat} (h : k < S.length) (hg : gtB S[k].1 a.1 = false) : posB S a (k + 1) = k + 1 := by
  rw [posB, List.getElem?_eq_getElem h]; simp only []; rw [if_neg (by simp [hg])]
theorem insB_length (S : List AT) (a : AT) : (insB S a).length = S.length + 1 := by
  unfold insB
  have := posB_le S a S.length
  simp; omega
theorem bub_pos (S : List AT) (a : AT) (r : List AT) : ∀ j, j ≤ S.length → bubG (fun a => a.1) j (S.take j ++ a :: (S.drop j ++ r)) = S.take (posB S a j) ++ a :: (S.drop (posB S a j) ++ r)
  | 0, _ => rfl
  | j + 1, h => by
    have hj : j < S.length := by omega
    have hl : j + 1 < (S.take (j + 1) ++ a :: (S.drop (j + 1) ++ r)).length := by simp; omega
    have hs : S.take (j + 1) = S.take j ++ [S[j]] := by rw [List.take_succ_eq_append_getElem hj]
    have hd : S.drop j = S[j] :: S.drop (j + 1) := List.drop_eq_getElem_cons hj
    have htl : (S.take j).length = j := by simp; omega
    have g1 : (S.take (j + 1) ++ a :: (S.drop (j + 1) ++ r))[j + 1]'hl = a := by
      rw [List.getElem_append_right (by simp; omega)]
      simp [show j + 1 - min (j + 1) S.length = 0 by omega]
    have g0 : (S.take (j + 1) ++ a :: (S.drop (j + 1) ++ r))[j]'(by omega) = S[j] := by
      rw [List.getElem_append_left (by simp; omega)]
      simp
    by_cases hg : gtB S[j].1 a.1 = true
    · rw [bubG_go hl (by rw [g1, g0]; exact (cmp_gtB _ _).2 hg), posB_go hj hg]
      have hsw : swapG (S.take (j + 1) ++ a :: (S.drop (j + 1) ++ r)) j = S.take j ++ a :: (S.drop j ++ r) := by
        rw [swapG_at hl, g1, g0, hs, hd]
        rw [List.append_assoc]
        simp only [List.cons_append, List.nil_append]
        rw [List.set_append_right _ _ (by omega), List.set_append_right _ _ (by omega)]
        rw [htl]
        simp
      rw [hsw]
      exact bub_pos S a r j (by omega)
    · have hg' : gtB S[j].1 a.1 = false := by simpa using hg
      rw [bubG_stop hl (by rw [g1, g0]; intro e; exact hg ((cmp_gtB _ _).1 e)), posB_stop hj hg']
theorem srt_fold (L : List AT) : ∀ k, k < L.length → srtG (fun a => a.1) k L = (L.take (k + 1)).foldl insB [] ++ L.drop (k + 1)
  | 0, h => by
    cases L with
    | nil => simp at h
    | cons a r => rfl
  | k + 1, h => by
    have ih := srt_fold L k (by omega)
    have hlen : ∀ (M : List AT) (S : List AT), (M.foldl insB S).length = S.length + M.length := by
      intro M
      induction M with
      | nil => intro S; rfl
      | cons a r ih => intro S; rw [List.foldl_cons, ih, insB_length, List.length_cons]; omega
    show bubG (fun a => a.1) (k + 1) (srtG (fun a => a.1) k L) = _
    rw [ih]
    obtain ⟨S, hS⟩ : ∃ S, S = (L.take (k + 1)).foldl insB [] := ⟨_, rfl⟩
    have hSl : S.length = k + 1 := by rw [hS, hlen]; simp; omega
    rw [← hS, List.drop_eq_getElem_cons h]
    have hb := bub_pos S L[k + 1] (L.drop (k + 1 + 1)) (k + 1) (by omega)
    rw [List.take_of_length_le (by omega), List.drop_of_length_le (by omega), List.nil_append] at hb
    rw [hb, List.take_succ_eq_append_getElem h, List.foldl_append, ← hS]
    show _ = insB S L[k + 1] ++ _
    unfold insB
    rw [hSl, List.append_assoc]; rfl
theorem sortA_fold (L : List AT) : sortA L = L.foldl insB [] := by
  unfold sortA
  cases hl : L with
  | nil => rfl
  | cons a r =>
    rw [srt_fold _ _ (by simp)]
    rw [List.take_of_length_le (by simp), List.drop_of_length_le (by simp), List.append_nil]
end Go.Proofs.YtgaaefcanfglhaaGreatDoor

