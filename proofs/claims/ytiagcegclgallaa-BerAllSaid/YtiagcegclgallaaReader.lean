/- ber.reader: count, left, take: the walks. -/
import Derived.Test.YtiagcegclgallaaAwake
import Derived.Laws.LoneSync
import Derived.Deep.RegionHeld3
import Derived.BigQuiet
import Derived.Deep.QuietTactic
namespace Go.Proofs.Ytiagcegclgallaa
open Go.RowKit
set_option linter.unusedVariables false

/-- A reader at block b: its text, and how many bytes are behind it. -/
def Rd (W : World) (b : Nat) (s : ByteArray) (p : Nat) : Prop := W.heap[b]? = some (.cells #[.string s, .int .i64 p] 68 (0, 0))

theorem Rd.c0 {W : World} {b : Nat} {s : ByteArray} {p : Nat} (h : Rd W b s p) : W.cell? ⟨b, 0, none⟩ = some (.string s) := by simp [World.cell?, show W.heap[b]? = _ from h]
theorem Rd.c1 {W : World} {b : Nat} {s : ByteArray} {p : Nat} (h : Rd W b s p) : W.cell? ⟨b, 1, none⟩ = some (.int .i64 p) := by simp [World.cell?, show W.heap[b]? = _ from h]
theorem Rd.f1 {W : World} {b : Nat} {s : ByteArray} {p : Nat} (h : Rd W b s p) : W.frozen? ⟨b, 1, none⟩ = false := by simp [World.frozen?, show W.heap[b]? = _ from h]
theorem Rd.lt {W : World} {b : Nat} {s : ByteArray} {p : Nat} (h : Rd W b s p) : b < W.heap.size := (Array.getElem?_eq_some_iff.1 h).1

set_option maxHeartbeats 400000 in
theorem load_any (W : World) (b o : Nat) (x : Int) (hc : W.cell? ⟨b, o, none⟩ = some (.int .i64 x)) :
    Calls Try.prog 49 #[.pointer (some ⟨b, o, none⟩)] W fun e w' => e = .returned (.int .i64 x) ∧ W = w' := by
  have hl := run_call_load (P := Try.prog) Try.func56 (by kernel_rfl) (by kernel_rfl) (by kernel_rfl) .i64 (by kernel_rfl) hc
  go_enter Try.func49, Try.ntmps49
  go_wp2
  go_ret
  exact ⟨rfl, rfl⟩

set_option maxHeartbeats 400000 in
theorem add_any (W : World) (b o : Nat) (x y : Int) (hc : W.cell? ⟨b, o, none⟩ = some (.int .i64 x)) (hf : W.frozen? ⟨b, o, none⟩ = false) (h0 : 0 ≤ x) (h1 : 0 ≤ y) (h2 : x + y ≤ 9223372036854775807) :
    Calls Try.prog 54 #[.pointer (some ⟨b, o, none⟩), .int .i64 y] W fun e w' => e = .returned (.int .i64 (x + y)) ∧ W.setCell ⟨b, o, none⟩ (.int .i64 (x + y)) = w' := by
  have hl := run_call_add (P := Try.prog) Try.func57 (by kernel_rfl) (by kernel_rfl) (by kernel_rfl) .i64 (by kernel_rfl) (y := y) (s := x + y) hc hf (by simp [go_sem, IntWalk.i64_in (x + y) ⟨by omega, h2⟩])
  go_enter Try.func54, Try.ntmps54
  go_wp2
  go_ret
  exact ⟨rfl, rfl⟩

theorem count_any (W : World) (b : Nat) (s : ByteArray) (p : Nat) (h : Rd W b s p) (hp : p ≤ maxLen) : Calls Try.prog 35 #[.pointer (some ⟨b, 0, none⟩)] W fun e w' => e = .returned (.int .i64 p) ∧ W = w' := by
  have hc := h.c1
  have hp' : p ≤ 9223372036854775807 := by unfold maxLen at hp; exact hp
  have H := Lib.hid h
  clear h
  go_enter Try.func35, Try.ntmps35
  go_wp2_with (go_at_call 49; refine (load_any _ b 1 p hc).mono ?_; rintro e w' ⟨rfl, rfl⟩)
  go_ret
  exact ⟨rfl, rfl⟩

theorem left_any (W : World) (b : Nat) (s : ByteArray) (p : Nat) (h : Rd W b s p) (hs : s.size ≤ maxLen) (hp : p ≤ s.size) : Calls Try.prog 45 #[.pointer (some ⟨b, 0, none⟩)] W fun e w' => e = .returned (.int .i64 ((s.size - p : Nat) : Int)) ∧ ∃ n, W.drewN n = w' := by
  have hc := h.c0
  have hp' : p ≤ 9223372036854775807 := by unfold maxLen at hs; omega
  have hs' : s.size ≤ 9223372036854775807 := by unfold maxLen at hs; exact hs
  have hcast : ((s.size - p : Nat) : Int) = (s.size : Int) - (p : Int) := by omega
  rw [hcast]
  have H := Lib.hid h
  clear h hcast
  go_enter Try.func45, Try.ntmps45
  go_wp2
  go_quiet ((go_at_call 35; refine Calls.quiet_of_same ((count_any _ b s p ?_ (by unfold maxLen; omega)).mono fun e w' h => ⟨h.1, h.2.symm⟩); first | exact H.out))
  go_wp2
  go_ret
  exact ⟨rfl, _, rfl⟩

theorem Rd.set {W : World} {b : Nat} {s : ByteArray} {p : Nat} (h : Rd W b s p) (q : Nat) : Rd (W.setCell ⟨b, 1, none⟩ (.int .i64 q)) b s q := by
  unfold Rd at h ⊢
  obtain ⟨hlt, hv⟩ := Array.getElem?_eq_some_iff.1 h
  show (W.heap.modify b _)[b]? = _
  rw [Array.getElem?_eq_getElem (by rw [Array.size_modify]; exact hlt), Array.getElem_modify_self, hv]
  rfl

set_option maxHeartbeats 400000 in
theorem take_any (W : World) (b : Nat) (s : ByteArray) (p n : Nat) (h : Rd W b s p) (hs : s.size ≤ maxLen) (hp : p + n ≤ s.size) : Calls Try.prog 46 #[.pointer (some ⟨b, 0, none⟩), .int .i64 n] W fun e w' => e = .returned (.string (s.extract p (p + n))) ∧ W.setCell ⟨b, 1, none⟩ (.int .i64 ((p + n : Nat) : Int)) = w' := by
  have hc := h.c1
  have hf := h.f1
  have hs' : s.size ≤ 9223372036854775807 := by unfold maxLen at hs; exact hs
  have hset := h.set (p + n)
  have hc0 := hset.c0
  have hcast : ((p + n : Nat) : Int) = (p : Int) + (n : Int) := by omega
  rw [hcast] at hset hc0 ⊢
  have H := Lib.hid h
  have HS := Lib.hid hset
  have hpn : (p : Int) + (n : Int) - (n : Int) = (p : Int) := by omega
  have htn : ((p : Int) + (n : Int)).toNat = p + n := by omega
  clear h hset hcast
  go_enter Try.func46, Try.ntmps46
  go_wp2_with (go_at_call 54; refine (add_any _ b 1 p n hc hf (by omega) (by omega) (by omega)).mono ?_; rintro e w' ⟨rfl, rfl⟩)
  go_ret
  exact ⟨rfl, rfl⟩
end Go.Proofs.Ytiagcegclgallaa
