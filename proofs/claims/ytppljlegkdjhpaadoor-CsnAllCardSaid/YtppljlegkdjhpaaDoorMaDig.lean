/- The document's Digits: the walk. -/
import Derived.Test.YtppljlegkdjhpaaDoorOfL
import Derived.Test.YtppljlegkdjhpaaDoorDnOwn
import Derived.Lib.ItoaLen
import Derived.Lib.ItoaMem
namespace Go.Proofs.YtppljlegkdjhpaaDoor
open Go.RowKit
set_option linter.unusedVariables false

theorem conv_one (m : Int) (b : UInt8) (h : (b.toNat : Int) = m) (w : World) : (convert 58 9 (.slice (some ⟨w.heap.size, 0, none⟩) 1 1)).run Tryd.prog (w.alloc (.cells #[.int .u8 m] 5)) = .ok (.string (ofL [b])) (w.alloc (.cells #[.int .u8 m] 5)) := by
  subst h
  refine run_convert_bytes_back _ 58 9 5 _ 1 [b] Tryd.underlying58 Tryd.underlying5 Tryd.underlying9 fun j hj => ?_
  have : j = 0 := by simp at hj; omega
  subst this
  simp [Addr.add]
theorem decDigits_big {u : Nat} (h : 10 ≤ u) : Lib.decDigits u = Lib.decDigits (u / 10) ++ [UInt8.ofNat (48 + u % 10)] := by rw [Lib.decDigits, dif_neg (by omega)]
theorem digit_val (u : Nat) : ((UInt8.ofNat (48 + u % 10)).toNat : Int) = 48 + (u : Int) % 10 := by simp; omega
theorem digit_val1 (u : Nat) (h : u < 10) : ((UInt8.ofNat (48 + u)).toNat : Int) = 48 + (u : Int) := by simp; omega

theorem wrap_u64 (n : Int) : IntKind.u64.wrap n = n % 18446744073709551616 := by
  unfold IntKind.wrap
  simp [IntKind.bits, IntKind.signed]
set_option maxRecDepth 100000 in
set_option maxHeartbeats 4000000 in
theorem digitsNat_any (neg : Bool) (N : Nat) (hN : N ≤ 1000000000000000000) (hneg : neg = true → 1 ≤ N) (w : World) :
    Calls Tryd.prog 24 #[.int .i64 (if neg then -(N : Int) else N)] w fun e w' => e = .returned (.string (ofL (if neg then 45 :: Lib.decDigits N else Lib.decDigits N))) ∧ Below w.heap.size w w' := by
  have hlen : (Lib.decDigits N).length ≤ 21 := by
    have := Lib.itoa_length_le (N : Int) (by omega) (by omega)
    rw [Lib.itoa_nonneg] at this
    exact this
  obtain ⟨V, hV⟩ : ∃ V, V = (if neg then -(N : Int) else N) := ⟨_, rfl⟩
  rw [← hV]
  obtain ⟨U, hU⟩ : ∃ U, IntKind.u64.wrap V = U := ⟨_, rfl⟩
  have key : decide (V < 0) = neg ∧ (neg = true → IntKind.u64.wrap (-U) = N) ∧ (neg = false → U = N) := by
    cases neg with
    | false =>
      simp at hV
      refine ⟨by simp; omega, by simp, fun _ => ?_⟩
      rw [← hU, hV]; simp only [wrap_u64]; omega
    | true =>
      simp at hV
      have := hneg rfl
      refine ⟨by simp; omega, fun _ => ?_, by simp⟩
      rw [← hU, hV]; simp only [wrap_u64]; omega
  obtain ⟨k1, k2, k3⟩ := key
  clear hV
  have HLen := Lib.hid hlen
  clear hlen
  cases neg with
  | false =>
    have hUN := k3 rfl
    clear k3 k2 hneg
    subst hUN
    go_enter Tryd.func24, Tryd.ntmps24
    go_wp2
    go_loopw [3, 4] (fun u s wr => ∃ (m : Nat) (D : List UInt8), u = .int .u64 m ∧ s = .string (ofL D) ∧ m ≤ 1000000000000000000 ∧ Hid (Lib.decDigits N = Lib.decDigits m ++ D) ∧ D.length ≤ 21 ∧ Below w.heap.size w wr) (fun u _ _ => (intOf u).toNat)
    case atStart => exact ⟨N, [], rfl, rfl, hN, Lib.hid (by simp), by simp, Below.refl _ _⟩
    case round =>
      obtain ⟨m, D, rfl, rfl, hm, HD, hDl, hbel⟩ := hrel
      have HBel := Lib.hid hbel
      have hsz := hbel.size
      clear hbel
      have hs1 := ofL_size D
      by_cases h10 : 10 ≤ m
      · have t1 : decide ((10 : Int) ≤ (m : Int)) = true := by simp; omega
        have hcv := conv_one (48 + (m : Int) % 10) (UInt8.ofNat (48 + m % 10)) (digit_val m) wr
        have hnew : Lib.decDigits N = Lib.decDigits (m / 10) ++ (UInt8.ofNat (48 + m % 10) :: D) := by rw [HD.out, decDigits_big h10]; simp
        have hl2 : (UInt8.ofNat (48 + m % 10) :: D).length ≤ 21 := by have := HLen.out; rw [hnew] at this; simp at this ⊢; omega
        have HNew := Lib.hid hnew
        have hs2 := ofL_size [UInt8.ofNat (48 + m % 10)]
        have hap : ofL [UInt8.ofNat (48 + m % 10)] ++ ofL D = ofL (UInt8.ofNat (48 + m % 10) :: D) := ofL_app _ _
        have hs1' : (ofL D).size ≤ 21 := by omega
        have hs2' : (ofL [UInt8.ofNat (48 + m % 10)]).size ≤ 1 := by rw [hs2]; simp
        have HAp := Lib.hid hap
        clear hnew hs1 hs2 hap
        generalize UInt8.ofNat (48 + m % 10) = b at *
        go_wp2
        go_roundw
        case rel => exact ⟨m / 10, b :: D, by go_num, by rw [HAp.out], by omega, HNew, hl2, HBel.out.alloc hsz _⟩
        case measure => simp [intOf]; omega
      · have t1 : decide ((10 : Int) ≤ (m : Int)) = false := by simp; omega
        have hcv := conv_one (48 + (m : Int)) (UInt8.ofNat (48 + m)) (digit_val1 m (by omega)) wr
        have hnew : Lib.decDigits N = UInt8.ofNat (48 + m) :: D := by rw [HD.out, Lib.decDigits_one (by omega)]; rfl
        have hs2 := ofL_size [UInt8.ofNat (48 + m)]
        have hap : ofL [UInt8.ofNat (48 + m)] ++ ofL D = ofL (Lib.decDigits N) := by rw [ofL_app, hnew]; rfl
        have hs1' : (ofL D).size ≤ 21 := by omega
        have hs2' : (ofL [UInt8.ofNat (48 + m)]).size ≤ 1 := by rw [hs2]; simp
        have hs3 : (ofL (Lib.decDigits N)).size ≤ 21 := by rw [ofL_size]; exact HLen.out
        have hs4 : (⟨#[45]⟩ : ByteArray).size = 1 := rfl
        have hap2 : (⟨#[45]⟩ : ByteArray) ++ ofL (Lib.decDigits N) = ofL (45 :: Lib.decDigits N) := ofL_app [45] _
        have HAp2 := Lib.hid hap2
        clear hnew hs1 hs2 hap2
        generalize UInt8.ofNat (48 + m) = b at *
        obtain ⟨R, hR⟩ : ∃ R, R = ofL (Lib.decDigits N) := ⟨_, rfl⟩
        rw [← hR] at hap hs3 HAp2
        have HR := Lib.hid hR
        clear hR
        go_wp2
        go_ret
        exact ⟨by rw [← HR.out]; rfl, HBel.out.alloc hsz _⟩
  | true =>
    have hN1 := hneg rfl
    have k2' := k2 rfl
    clear k3 k2 hneg
    go_enter Tryd.func24, Tryd.ntmps24
    go_wp2
    go_loopw [3, 4] (fun u s wr => ∃ (m : Nat) (D : List UInt8), u = .int .u64 m ∧ s = .string (ofL D) ∧ m ≤ 1000000000000000000 ∧ Hid (Lib.decDigits N = Lib.decDigits m ++ D) ∧ D.length ≤ 21 ∧ Below w.heap.size w wr) (fun u _ _ => (intOf u).toNat)
    case atStart => exact ⟨N, [], rfl, rfl, hN, Lib.hid (by simp), by simp, Below.refl _ _⟩
    case round =>
      obtain ⟨m, D, rfl, rfl, hm, HD, hDl, hbel⟩ := hrel
      have HBel := Lib.hid hbel
      have hsz := hbel.size
      clear hbel
      have hs1 := ofL_size D
      by_cases h10 : 10 ≤ m
      · have t1 : decide ((10 : Int) ≤ (m : Int)) = true := by simp; omega
        have hcv := conv_one (48 + (m : Int) % 10) (UInt8.ofNat (48 + m % 10)) (digit_val m) wr
        have hnew : Lib.decDigits N = Lib.decDigits (m / 10) ++ (UInt8.ofNat (48 + m % 10) :: D) := by rw [HD.out, decDigits_big h10]; simp
        have hl2 : (UInt8.ofNat (48 + m % 10) :: D).length ≤ 21 := by have := HLen.out; rw [hnew] at this; simp at this ⊢; omega
        have HNew := Lib.hid hnew
        have hs2 := ofL_size [UInt8.ofNat (48 + m % 10)]
        have hap : ofL [UInt8.ofNat (48 + m % 10)] ++ ofL D = ofL (UInt8.ofNat (48 + m % 10) :: D) := ofL_app _ _
        have hs1' : (ofL D).size ≤ 21 := by omega
        have hs2' : (ofL [UInt8.ofNat (48 + m % 10)]).size ≤ 1 := by rw [hs2]; simp
        have HAp := Lib.hid hap
        clear hnew hs1 hs2 hap
        generalize UInt8.ofNat (48 + m % 10) = b at *
        go_wp2
        go_roundw
        case rel => exact ⟨m / 10, b :: D, by go_num, by rw [HAp.out], by omega, HNew, hl2, HBel.out.alloc hsz _⟩
        case measure => simp [intOf]; omega
      · have t1 : decide ((10 : Int) ≤ (m : Int)) = false := by simp; omega
        have hcv := conv_one (48 + (m : Int)) (UInt8.ofNat (48 + m)) (digit_val1 m (by omega)) wr
        have hnew : Lib.decDigits N = UInt8.ofNat (48 + m) :: D := by rw [HD.out, Lib.decDigits_one (by omega)]; rfl
        have hs2 := ofL_size [UInt8.ofNat (48 + m)]
        have hap : ofL [UInt8.ofNat (48 + m)] ++ ofL D = ofL (Lib.decDigits N) := by rw [ofL_app, hnew]; rfl
        have hs1' : (ofL D).size ≤ 21 := by omega
        have hs2' : (ofL [UInt8.ofNat (48 + m)]).size ≤ 1 := by rw [hs2]; simp
        have hs3 : (ofL (Lib.decDigits N)).size ≤ 21 := by rw [ofL_size]; exact HLen.out
        have hs4 : (⟨#[45]⟩ : ByteArray).size = 1 := rfl
        have hap2 : (⟨#[45]⟩ : ByteArray) ++ ofL (Lib.decDigits N) = ofL (45 :: Lib.decDigits N) := ofL_app [45] _
        have HAp2 := Lib.hid hap2
        clear hnew hs1 hs2 hap2
        generalize UInt8.ofNat (48 + m) = b at *
        obtain ⟨R, hR⟩ : ∃ R, R = ofL (Lib.decDigits N) := ⟨_, rfl⟩
        rw [← hR] at hap hs3 HAp2
        have HR := Lib.hid hR
        clear hR
        go_wp2
        go_ret
        exact ⟨by rw [HAp2.out]; rfl, HBel.out.alloc hsz _⟩

theorem digits_any (n : Int) (h0 : -1000000000000000000 ≤ n) (h1 : n ≤ 1000000000000000000) (w : World) :
    Calls Tryd.prog 24 #[.int .i64 n] w fun e w' => e = .returned (.string (ofL (Lib.itoa n))) ∧ Below w.heap.size w w' := by
  by_cases h : n < 0
  · have := digitsNat_any true n.natAbs (by omega) (by intro _; omega) w
    simp only [if_true] at this
    have e : -(n.natAbs : Int) = n := by omega
    rw [e] at this
    unfold Lib.itoa
    rw [if_pos h]
    exact this
  · have := digitsNat_any false n.toNat (by omega) (by intro h; cases h) w
    simp only [Bool.false_eq_true, if_false] at this
    have e : (n.toNat : Int) = n := by omega
    rw [e] at this
    unfold Lib.itoa
    rw [if_neg h]
    exact this
end Go.Proofs.YtppljlegkdjhpaaDoor
