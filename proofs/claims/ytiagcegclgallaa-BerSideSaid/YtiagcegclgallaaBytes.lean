/- What BerBytes asks: the walk. -/
import Derived.Test.YtiagcegclgallaaGetRef
import Derived.Test.YtiagcegclgallaaSameRef
import Derived.Test.YtiagcegclgallaaLen
import Derived.Test.YtiagcegclgallaaNest
import Derived.Deep.RegionHeld3
import Derived.Deep.DeepCutAuto
namespace Go.Proofs.Ytiagcegclgallaa
open Go.RowKit
set_option linter.unusedVariables false

mutual
theorem sameT_self : ∀ t : T, sameT t t = true
  | .mk tag s l => by simp only [sameT, sameTs_self l, beq_self_eq_true, Bool.and_self]
theorem sameTs_self : ∀ l : List T, sameTs l l = true
  | [] => by simp [sameTs]
  | t :: l => by simp only [sameTs, sameT_self t, sameTs_self l, Bool.and_self]
end

/-- What is told, as three. -/
def tT : Except Int (T × Nat) → T
  | .error _ => .mk 0 ⟨#[]⟩ []
  | .ok (t, _) => t
def tN (at_ : Int) : Except Int (T × Nat) → Int
  | .error _ => 0
  | .ok (_, n) => at_ + n
def tE : Except Int (T × Nat) → Int
  | .error er => er
  | .ok _ => 0

theorem zero_isT (n : Nat) (w : World) : IsT n w (.mk 0 ⟨#[]⟩ []) (.agg #[.int .i64 0, .string ⟨#[]⟩, .slice none 0 0]) := ⟨none, 0, rfl, by decide, Nat.zero_le _, Nat.zero_le _, trivial⟩

def ToldG (r : Except Int (T × Nat)) (at_ : Int) (W : World) (e : Ending) (w' : World) : Prop :=
  ∃ tag s a n c, e = .returned (.tuple #[.agg #[.int .i64 tag, .string s, .slice a n c], .int .i64 (tN at_ r), .int .i64 (tE r)]) ∧ IsT w'.heap.size w' (tT r) (.agg #[.int .i64 tag, .string s, .slice a n c]) ∧ Below W.heap.size W w'
def ToldR (r : Except Int (T × Nat)) (at_ : Int) (W : World) (e : Ending) (w' : World) : Prop :=
  ∃ tag s a n c, e = .returned (.agg #[.int .i64 tag, .string s, .slice a n c, .int .i64 (tN at_ r), .int .i64 (tE r)]) ∧ IsT w'.heap.size w' (tT r) (.agg #[.int .i64 tag, .string s, .slice a n c]) ∧ Below W.heap.size W w'

theorem get_told (s : ByteArray) (at_ : Int) (hs : s.size ≤ 140737488351232) (W : World) : Calls Try.prog 19 #[.string s, .int .i64 at_] W (ToldG (getAt s at_) at_ W) := by
  refine (get_any s at_ hs W).mono fun e w' h => ?_
  generalize getAt s at_ = r at h
  cases r with
  | error er => obtain ⟨rfl, hb⟩ := h; exact ⟨0, ⟨#[]⟩, none, 0, 0, rfl, zero_isT _ _, hb⟩
  | ok tn =>
    obtain ⟨t, n⟩ := tn
    obtain ⟨v, rfl, hn, hb⟩ := h
    obtain ⟨tag, s, a, n', c, rfl⟩ := hn.1.shape
    exact ⟨tag, s, a, n', c, rfl, hn.1, hb⟩
theorem getR_told (s : ByteArray) (at_ : Int) (hs : s.size ≤ 140737488351232) (W : World) : Calls Try.prog 20 #[.string s, .int .i64 at_] W (ToldR (getAt s at_) at_ W) := by
  refine (getTlv_any s at_ W hs).mono fun e w' h => ?_
  generalize getAt s at_ = r at h
  cases r with
  | error er => obtain ⟨rfl, hb⟩ := h; exact ⟨0, ⟨#[]⟩, none, 0, 0, rfl, zero_isT _ _, hb⟩
  | ok tn =>
    obtain ⟨t, n⟩ := tn
    obtain ⟨x0, x1, x2, rfl, hn, hb⟩ := h
    obtain ⟨tag, s, a, n', c, hsh⟩ := hn.1.shape
    simp only [Value.agg.injEq, Array.mk.injEq, List.cons.injEq, and_true] at hsh
    obtain ⟨rfl, rfl, rfl⟩ := hsh
    exact ⟨tag, s, a, n', c, rfl, hn.1, hb⟩

/-- What stays of the two that were told. -/
def TwoAt (W0 : World) (b1 b2 : Nat) (x0 x1 x2 y0 y1 y2 y3 y4 : Value) (w' : World) : Prop := W0.heap[b1]? = some (.cells #[x0, x1, x2] 24 (0, 0)) ∧ W0.heap[b2]? = some (.cells #[y0, y1, y2, y3, y4] 33 (0, 0)) ∧ Below W0.heap.size W0 w'
theorem TwoAt.go {W0 wa wb : World} {b1 b2 : Nat} {x0 x1 x2 y0 y1 y2 y3 y4 : Value} (h : TwoAt W0 b1 b2 x0 x1 x2 y0 y1 y2 y3 y4 wa) (hb : Below wa.heap.size wa wb) :
    wb.cell? ⟨b1, 0, none⟩ = some x0 ∧ wb.cell? ⟨b1, 1, none⟩ = some x1 ∧ wb.cell? ⟨b1, 2, none⟩ = some x2 ∧ wb.cell? ⟨b2, 0, none⟩ = some y0 ∧ wb.cell? ⟨b2, 1, none⟩ = some y1 ∧ wb.cell? ⟨b2, 2, none⟩ = some y2 ∧ wb.cell? ⟨b2, 3, none⟩ = some y3 ∧ wb.cell? ⟨b2, 4, none⟩ = some y4 ∧ TwoAt W0 b1 b2 x0 x1 x2 y0 y1 y2 y3 y4 wb := by
  have hbb := h.2.2.then hb
  obtain ⟨c0, c1, c2, _⟩ := box3 ((hbb.block b1 (Array.getElem?_eq_some_iff.1 h.1).1).trans h.1)
  obtain ⟨d0, d1, d2, d3, d4, _⟩ := box5 ((hbb.block b2 (Array.getElem?_eq_some_iff.1 h.2.1).1).trans h.2.1)
  exact ⟨c0, c1, c2, d0, d1, d2, d3, d4, h.1, h.2.1, hbb⟩

set_option maxRecDepth 100000 in
set_option maxHeartbeats 2000000 in
theorem bytes_walk (s : ByteArray) (at_ : Int) (w : World) :
    Calls Try.prog 4 #[.string s, .int .i64 at_] w fun e w' => e = .returned (.bool true) ∧ Below w.heap.size w w' := by
  by_cases hlen : s.size ≤ 900
  · have hd : decide ((900 : Int) < (s.size : Int)) = false := by simp; omega
    have hg := fun w => get_told s at_ (by omega) w
    have hr := fun w => getR_told s at_ (by omega) w
    obtain ⟨r, hrr⟩ : ∃ r, r = getAt s at_ := ⟨_, rfl⟩
    rw [← hrr] at hg hr
    obtain ⟨t, ht⟩ : ∃ t, t = tT r := ⟨_, rfl⟩
    have hsame := fun v v' W h h' => sameRef_any t t W v v' h h'
    rw [sameT_self] at hsame
    rw [ht] at hsame
    have HG := Lib.hid hg
    have HR := Lib.hid hr
    have HS := Lib.hid hsame
    clear hg hr hsame hrr ht
    generalize hnx : tN at_ r = nx
    go_enter Try.func4, Try.ntmps4
    go_wp2_with (first
      | (go_at_call 19; refine (HG.out _).mono ?_; rintro e w1 ⟨tg1, s1, a1, n1, c1, rfl, ht1, hb1⟩; have HT1 := Lib.hid ht1; have HB1 := Lib.hid hb1; clear ht1 hb1)
      | (go_at_call 20; refine (HR.out _).mono ?_; rintro e w2 ⟨tg2, s2, a2, n2, c2, rfl, ht2, hb2⟩; have HT2 := Lib.hid ht2; have HB2 := Lib.hid hb2; clear ht2 hb2))
    have hs2 : w1.heap.size + 1 ≤ w2.heap.size := by have := HB2.out.size; rw [World.size_alloc] at this; exact this
    have hw2 : TwoAt (w2.alloc (.cells #[.int .i64 tg2, .string s2, .slice a2 n2 c2, .int .i64 nx, .int .i64 (tE r)] 33)) w1.heap.size w2.heap.size (.int .i64 tg1) (.string s1) (.slice a1 n1 c1) (.int .i64 tg2) (.string s2) (.slice a2 n2 c2) (.int .i64 nx) (.int .i64 (tE r)) (w2.alloc (.cells #[.int .i64 tg2, .string s2, .slice a2 n2 c2, .int .i64 nx, .int .i64 (tE r)] 33)) :=
      ⟨(Below.heap_alloc _ _ _ (by omega)).trans ((HB2.out.block w1.heap.size (by simp)).trans (World.alloc_heap_new w1 _)), World.alloc_heap_new w2 _, Below.refl _ _⟩
    have hbw : Below w.heap.size w (w2.alloc (.cells #[.int .i64 tg2, .string s2, .slice a2 n2 c2, .int .i64 nx, .int .i64 (tE r)] 33)) := (((HB1.out.alloc' _).then HB2.out).alloc' _)
    have hi1 : IsT (w2.alloc (.cells #[.int .i64 tg2, .string s2, .slice a2 n2 c2, .int .i64 nx, .int .i64 (tE r)] 33)).heap.size (w2.alloc (.cells #[.int .i64 tg2, .string s2, .slice a2 n2 c2, .int .i64 nx, .int .i64 (tE r)] 33)) (tT r) (.agg #[.int .i64 tg1, .string s1, .slice a1 n1 c1]) := HT1.out.below ((((Below.refl _ _).alloc' _).then HB2.out).alloc' _) (by simp; omega)
    have hi2 : IsT (w2.alloc (.cells #[.int .i64 tg2, .string s2, .slice a2 n2 c2, .int .i64 nx, .int .i64 (tE r)] 33)).heap.size (w2.alloc (.cells #[.int .i64 tg2, .string s2, .slice a2 n2 c2, .int .i64 nx, .int .i64 (tE r)] 33)) (tT r) (.agg #[.int .i64 tg2, .string s2, .slice a2 n2 c2]) := HT2.out.below ((Below.refl _ _).alloc' _) (by simp)
    generalize (w2.alloc (.cells #[.int .i64 tg2, .string s2, .slice a2 n2 c2, .int .i64 nx, .int .i64 (tE r)] 33)) = W3 at hw2 hbw hi1 hi2 ⊢
    have I1 := Lib.hid hi1
    have I2 := Lib.hid hi2
    have HBW := Lib.hid hbw
    generalize w1.heap.size = b1 at hw2 hs2 ⊢
    generalize w2.heap.size = b2 at hw2 hs2 ⊢
    generalize tE r = er at hw2 ⊢
    have hsm := fun wx (h : TwoAt W3 b1 b2 (.int .i64 tg1) (.string s1) (.slice a1 n1 c1) (.int .i64 tg2) (.string s2) (.slice a2 n2 c2) (.int .i64 nx) (.int .i64 er) wx) => HS.out _ _ wx (I1.out.below h.2.2 h.2.2.size) (I2.out.below h.2.2 h.2.2.size)
    have HSm := Lib.hid hsm
    have hst := hw2.go (Below.refl _ _)
    clear hi1 hi2 hbw hsm HG HR HS hw2
    go_region_held3 (fun w' => w'.cell? ⟨b1, 0, none⟩ = some (.int .i64 tg1) ∧ w'.cell? ⟨b1, 1, none⟩ = some (.string s1) ∧ w'.cell? ⟨b1, 2, none⟩ = some (.slice a1 n1 c1) ∧ w'.cell? ⟨b2, 0, none⟩ = some (.int .i64 tg2) ∧ w'.cell? ⟨b2, 1, none⟩ = some (.string s2) ∧ w'.cell? ⟨b2, 2, none⟩ = some (.slice a2 n2 c2) ∧ w'.cell? ⟨b2, 3, none⟩ = some (.int .i64 nx) ∧ w'.cell? ⟨b2, 4, none⟩ = some (.int .i64 er) ∧ TwoAt W3 b1 b2 (.int .i64 tg1) (.string s1) (.slice a1 n1 c1) (.int .i64 tg2) (.string s2) (.slice a2 n2 c2) (.int .i64 nx) (.int .i64 er) w')
      (first | exact hst | (go_split_ands; exact TwoAt.go (by assumption) hb4) | (go_split_ands; exact TwoAt.go (by assumption) hb5) | (go_split_ands; exact TwoAt.go (by assumption) (Below.refl _ _).drew) | (go_split_ands; exact TwoAt.go (by assumption) (Below.refl _ _)))
      (first
        | (go_at_call 18; go_split_ands; refine (HSm.out _ (by assumption)).mono ?_; rintro e w4 ⟨rfl, hb4⟩)
        | (go_at_call 21; refine (num_any er _).mono ?_; rintro e w6 ⟨rfl, rfl⟩)
        | (go_at_call 12; refine (awake_any _).mono ?_; rintro e w5 ⟨rfl, hb5⟩))
    go_split_ands
    have hT : TwoAt W3 b1 b2 (.int .i64 tg1) (.string s1) (.slice a1 n1 c1) (.int .i64 tg2) (.string s2) (.slice a2 n2 c2) (.int .i64 nx) (.int .i64 er) w5 := by assumption
    go_wp2
    go_ret
    exact ⟨rfl, HBW.out.trans (hT.2.2.mono HBW.out.size)⟩
  · have hd : decide ((900 : Int) < (s.size : Int)) = true := by simp; omega
    go_enter Try.func4, Try.ntmps4
    go_wp2_with (go_at_call 12; refine (awake_any _).mono ?_; rintro e w2 ⟨rfl, hb2⟩)
    go_ret
    exact ⟨rfl, hb2⟩
end Go.Proofs.Ytiagcegclgallaa
