/- ber.Same, and the document's own SameTlv: the walks. -/
import Derived.Test.YtiagcegclgallaaSize
import Derived.Test.YtiagcegclgallaaAwake
namespace Go.Proofs.Ytiagcegclgallaa
open Go.RowKit
set_option linter.unusedVariables false

mutual
/-- Alike in all. -/
def sameT : T → T → Bool
  | .mk t s l, .mk t' s' l' => (t == t') && (s.data.toList == s'.data.toList) && sameTs l l'
def sameTs : List T → List T → Bool
  | [], [] => true
  | a :: l, b :: m => sameT a b && sameTs l m
  | [], _ :: _ => false
  | _ :: _, [] => false
end

theorem sameTs_length : ∀ (l m : List T), l.length ≠ m.length → sameTs l m = false
  | [], [], h => absurd rfl h
  | a :: l, b :: m, h => by rw [sameTs, sameTs_length l m (by simpa using h)]; simp
  | [], _ :: _, _ => by simp [sameTs]
  | _ :: _, [], _ => by simp [sameTs]

theorem sameTs_append : ∀ (l m l' m' : List T), l.length = m.length → sameTs (l ++ l') (m ++ m') = (sameTs l m && sameTs l' m')
  | [], [], _, _, _ => by simp [sameTs]
  | a :: l, b :: m, l', m', h => by simp [sameTs, sameTs_append l m l' m' (by simpa using h), Bool.and_assoc]
  | [], _ :: _, _, _, h => by simp at h
  | _ :: _, [], _, _, h => by simp at h

theorem sameTs_take (l m : List T) (j : Nat) (h1 : j < l.length) (h2 : j < m.length) : sameTs (l.take (j + 1)) (m.take (j + 1)) = (sameTs (l.take j) (m.take j) && sameT l[j] m[j]) := by
  rw [take_succ_T l j h1, take_succ_T m j h2, sameTs_append _ _ _ _ (by simp; omega)]; simp [sameTs]

theorem sameTs_no (l m : List T) (j : Nat) (h1 : j < l.length) (h2 : j < m.length) (h : sameT l[j] m[j] = false) : sameTs l m = false := by
  by_cases hl : l.length = m.length
  · have := sameTs_append (l.take j) (m.take j) (l.drop j) (m.drop j) (by simp; omega)
    rw [List.take_append_drop, List.take_append_drop, List.drop_eq_getElem_cons h1, List.drop_eq_getElem_cons h2] at this
    rw [this]; simp [sameTs, h]
  · exact sameTs_length l m hl

mutual
theorem sameT_iff : ∀ a b : T, sameT a b = true ↔ a = b
  | .mk t s l, .mk t' s' l' => by
    simp only [sameT, Bool.and_eq_true, beq_iff_eq, sameTs_iff l l', T.mk.injEq]
    constructor
    · rintro ⟨⟨rfl, h⟩, rfl⟩
      refine ⟨rfl, ?_, rfl⟩
      cases s; cases s'; simp at h; rw [h]
    · rintro ⟨rfl, rfl, rfl⟩; exact ⟨⟨rfl, rfl⟩, rfl⟩
theorem sameTs_iff : ∀ a b : List T, sameTs a b = true ↔ a = b
  | [], [] => by simp [sameTs]
  | a :: l, b :: m => by simp only [sameTs, Bool.and_eq_true, sameT_iff a b, sameTs_iff l m, List.cons.injEq]
  | [], _ :: _ => by simp [sameTs]
  | _ :: _, [] => by simp [sameTs]
end

/-- What Same does, at f: ber.Same (17), or the document's SameTlv (18). -/
def SamesT (f : Nat) (t : T) : Prop := ∀ (u : T) (w : World) (v v' : Value), IsT w.heap.size w t v → IsT w.heap.size w u v' →
  Calls Try.prog f #[v, v'] w fun e w' => e = .returned (.bool (sameT t u)) ∧ Below w.heap.size w w'

set_option maxRecDepth 100000 in
set_option maxHeartbeats 2000000 in
/-- slices.EqualFunc over tlvs, with Same. -/
theorem equalFunc_any (l m : List T) (ih : ∀ x ∈ l, SamesT 17 x) (w : World) (a b : Option Addr) (c d : Nat) (hl : l.length ≤ maxLen) (hm : m.length ≤ maxLen) (h1 : IsTs w.heap.size w l a 0) (h2 : IsTs w.heap.size w m b 0) :
    Calls Try.prog 33 #[.slice a l.length c, .slice b m.length d, .func (.func 17) #[] #[]] w fun e w' => e = .returned (.bool (sameTs l m)) ∧ Below w.heap.size w w' := by
  by_cases hlen : l.length = m.length
  · have hne : (((l.length : Nat) : Int) != (m.length : Nat)) = false := by simp [hlen]
    have hll : l.length ≤ 9223372036854775807 := by unfold maxLen at hl; exact hl
    have HL := Lib.hid hlen
    have H1 := Lib.hid h1
    have H2 := Lib.hid h2
    clear hlen h1 h2
    go_enter Try.func33, Try.ntmps33
    go_wp2_with fail
    go_loopw [17] (fun i wr => ∃ j : Nat, j ≤ l.length ∧ i = .int .i64 j ∧ sameTs (l.take j) (m.take j) = true ∧ Below w.heap.size w wr)
      (fun i _ => l.length - (intOf i).toNat)
    case atStart => exact ⟨0, by omega, rfl, by simp [sameTs], Below.refl _ _⟩
    case round =>
      obtain ⟨j, hj, rfl, hsm, hbel⟩ := hrel
      by_cases hlt : j < l.length
      · have hlt2 : j < m.length := by have := HL.out; omega
        obtain ⟨b1, o1, s1, a1, n1, c1, ea, hb1, e0, e1, e2, ht⟩ := cells_shape H1.out j hlt
        obtain ⟨b2, o2, s2, a2, n2, c2, eb, hb2, g0, g1, g2, hu⟩ := cells_shape H2.out j hlt2
        subst ea eb
        have f0 := (hbel.cell (p := ⟨b1, _, none⟩) hb1).trans e0
        have f1 := (hbel.cell (p := ⟨b1, _, none⟩) hb1).trans e1
        have f2 := (hbel.cell (p := ⟨b1, _, none⟩) hb1).trans e2
        have k0 := (hbel.cell (p := ⟨b2, _, none⟩) hb2).trans g0
        have k1 := (hbel.cell (p := ⟨b2, _, none⟩) hb2).trans g1
        have k2 := (hbel.cell (p := ⟨b2, _, none⟩) hb2).trans g2
        have hs1 := hbel.size
        have z1 : b1 < wr.heap.size := by omega
        have z2 : b2 < wr.heap.size := by omega
        have hbb := (hbel.alloc' (.cells #[.int .i64 l[j].tag, .string s1, .slice a1 n1 c1] 24)).alloc' (.cells #[.int .i64 m[j].tag, .string s2, .slice a2 n2 c2] 24)
        have hcall := ih l[j] (by simp) m[j] _ _ _ (ht.below hbb hbb.size) (hu.below hbb hbb.size)
        have hno := sameTs_no l m j hlt hlt2
        have hyes := sameTs_take l m j hlt hlt2
        obtain ⟨r, hr⟩ : ∃ r, r = sameT l[j] m[j] := ⟨_, rfl⟩
        rw [← hr] at hcall hno hyes
        have HC := Lib.hid hcall
        have HNo := Lib.hid hno
        have HYes := Lib.hid hyes
        have HSm := Lib.hid hsm
        clear hcall hno hyes e0 e1 e2 g0 g1 g2 ht hu hsm hr ih
        generalize l[j].tag = t1 at *
        generalize m[j].tag = t2 at *
        cases r with
        | true =>
          go_wp2_with (go_at_call 17; refine HC.out.mono ?_; rintro e w2 ⟨rfl, hb3⟩)
          go_roundw
          case rel => exact ⟨j + 1, by omega, by go_num, by rw [HYes.out, HSm.out]; rfl, hbb.then hb3⟩
          case measure => simp [intOf]; omega
        | false =>
          go_wp2_with (go_at_call 17; refine HC.out.mono ?_; rintro e w2 ⟨rfl, hb3⟩)
          go_ret
          exact ⟨by rw [HNo.out (by first | rfl | trivial)]; rfl, hbb.then hb3⟩
      · obtain rfl : j = l.length := by omega
        rw [List.take_length, HL.out, List.take_length] at hsm
        have HS := Lib.hid hsm
        clear hsm
        go_wp2
        go_ret
        exact ⟨by rw [HS.out]; rfl, hbel⟩
  · have hne : (((l.length : Nat) : Int) != (m.length : Nat)) = true := by simp; omega
    rw [sameTs_length l m hlen]
    clear hlen h1 h2 ih
    go_enter Try.func33, Try.ntmps33
    go_wp2
    go_ret
    exact ⟨rfl, Below.refl _ _⟩

set_option maxRecDepth 100000 in
set_option maxHeartbeats 1000000 in
theorem same_node (tag : Int) (s : ByteArray) (l : List T) (ih : ∀ x ∈ l, SamesT 17 x) : SamesT 17 (.mk tag s l) := by
  rintro ⟨tag', s', l'⟩ w v v' ⟨a, cap, rfl, hwf, hsz, hll, hl⟩ ⟨a', cap', rfl, hwf', hsz', hll', hl'⟩
  have hbb := ((Below.refl w.heap.size w).alloc' (.cells #[.int .i64 tag, .string s, .slice a l.length cap] 24)).alloc' (.cells #[.int .i64 tag', .string s', .slice a' l'.length cap'] 24)
  by_cases ht : tag = tag'
  · by_cases hs : s.data.toList = s'.data.toList
    · have hsm : sameT (.mk tag s l) (.mk tag' s' l') = sameTs l l' := by simp only [sameT, ht, hs, beq_self_eq_true, Bool.true_and]
      have hcall := equalFunc_any l l' ih _ a a' cap cap' hll hll' (IsTs.below hbb hbb.size l a 0 hl) (IsTs.below hbb hbb.size l' a' 0 hl')
      have hse : (s.toList == s'.toList) = true := by rw [ByteArray.toList_eq, ByteArray.toList_eq, hs]; simp
      rw [hsm]
      have HC := Lib.hid hcall
      subst ht
      clear hsm hcall hl hl' hs ih
      go_enter Try.func17, Try.ntmps17
      go_wp2_with (go_at_call 33; refine HC.out.mono ?_; rintro e w2 ⟨rfl, hb3⟩)
      go_ret
      exact ⟨rfl, hbb.then hb3⟩
    · have hsm : sameT (.mk tag s l) (.mk tag' s' l') = false := by simp only [sameT]; rw [show (s.data.toList == s'.data.toList) = false from by simpa using hs]; simp
      have hse : (s.toList == s'.toList) = false := by rw [ByteArray.toList_eq, ByteArray.toList_eq]; simpa using hs
      rw [hsm]
      subst ht
      clear hsm hl hl' hs ih
      go_enter Try.func17, Try.ntmps17
      go_wp2
      go_ret
      exact ⟨rfl, hbb⟩
  · have hsm : sameT (.mk tag s l) (.mk tag' s' l') = false := by simp only [sameT]; rw [show (tag == tag') = false from by simpa using ht]; simp
    have hte : (tag == tag') = false := by simpa using ht
    rw [hsm]
    clear hsm hl hl' ht ih
    go_enter Try.func17, Try.ntmps17
    go_wp2
    go_ret
    exact ⟨rfl, hbb⟩

mutual
theorem same_any : ∀ t : T, SamesT 17 t
  | .mk tag s l => same_node tag s l (same_all l)
theorem same_all : ∀ l : List T, ∀ x ∈ l, SamesT 17 x
  | [], x, hx => by cases hx
  | t :: l, x, hx => by
    rcases List.mem_cons.1 hx with h | h
    · rw [h]; exact same_any t
    · exact same_all l x h
end
end Go.Proofs.Ytiagcegclgallaa
