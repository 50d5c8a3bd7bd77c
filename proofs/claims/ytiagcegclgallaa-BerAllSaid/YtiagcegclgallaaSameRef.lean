/- The document's own SameTlv: the walk. -/
import Derived.Test.YtiagcegclgallaaSame
import Derived.StillTailTactics
namespace Go.Proofs.Ytiagcegclgallaa
open Go.RowKit
set_option linter.unusedVariables false

set_option maxRecDepth 100000 in
set_option maxHeartbeats 2000000 in
theorem sameRef_node (tag : Int) (s : ByteArray) (l : List T) (ih : ∀ x ∈ l, SamesT 18 x) : SamesT 18 (.mk tag s l) := by
  rintro ⟨tag', s', l'⟩ w v v' ⟨a, cap, rfl, hwf, hsz, hll, hl⟩ ⟨a', cap', rfl, hwf', hsz', hll', hl'⟩
  have hbb := ((Below.refl w.heap.size w).alloc' (.cells #[.int .i64 tag, .string s, .slice a l.length cap] 24)).alloc' (.cells #[.int .i64 tag', .string s', .slice a' l'.length cap'] 24)
  by_cases hgo : tag = tag' ∧ s.data.toList = s'.data.toList ∧ l.length = l'.length
  · obtain ⟨ht, hs, hlen⟩ := hgo
    have hsm : sameT (.mk tag s l) (.mk tag' s' l') = sameTs l l' := by simp only [sameT, ht, hs, beq_self_eq_true, Bool.true_and]
    have hse : s.toList = s'.toList := by rw [ByteArray.toList_eq, ByteArray.toList_eq, hs]
    have hne : (((l.length : Nat) : Int) != (l'.length : Nat)) = false := by simp [hlen]
    have hte : (tag != tag') = false := by simp [ht]
    have hl63 : l.length ≤ 9223372036854775807 := by unfold maxLen at hll; exact hll
    have HSm := Lib.hid hsm
    have HL := Lib.hid hlen
    have H1 := Lib.hid hl
    have H2 := Lib.hid hl'
    obtain ⟨W0, hW0⟩ : ∃ W0, W0 = (w.alloc (.cells #[.int .i64 tag, .string s, .slice a l.length cap] 24)).alloc (.cells #[.int .i64 tag', .string s', .slice a' l'.length cap'] 24) := ⟨_, rfl⟩
    have c2 : W0.cell? ⟨w.heap.size, 2, none⟩ = some (.slice a l.length cap) := by rw [hW0, World.cell?_alloc_past _ _ _ (by simp), World.cell?_alloc_new]; rfl
    have d2 : W0.cell? ⟨w.heap.size + 1, 2, none⟩ = some (.slice a' l'.length cap') := by rw [hW0, World.cell?_alloc_at _ _ _ _ (by simp)]; rfl
    have hsz0 : W0.heap.size = w.heap.size + 2 := by rw [hW0]; simp
    have HW0 := Lib.hid hW0
    clear hsm hs hlen hl hl' hW0 ht
    go_enter Try.func18, Try.ntmps18
    go_wp2_with fail
    rw [← HW0.out] at hbb ⊢
    go_loopw [5] (fun i wr => ∃ j : Nat, j ≤ l.length ∧ i = .int .i64 j ∧ sameTs (l.take j) (l'.take j) = true ∧ Below W0.heap.size W0 wr)
      (fun i _ => l.length - (intOf i).toNat)
    case atStart => exact ⟨0, by omega, rfl, by simp [sameTs], Below.refl _ _⟩
    case round =>
      obtain ⟨j, hj, rfl, hsmj, hbel⟩ := hrel
      have c2' := (hbel.cell (p := ⟨w.heap.size, 2, none⟩) (by simp; omega)).trans c2
      have d2' := (hbel.cell (p := ⟨w.heap.size + 1, 2, none⟩) (by simp; omega)).trans d2
      by_cases hlt : j < l.length
      · have hlt2 : j < l'.length := by have := HL.out; omega
        obtain ⟨b1, o1, s1, a1, n1, c1, ea, hb1, e0, e1, e2, hta⟩ := cells_shape H1.out j hlt
        obtain ⟨b2, o2, s2, a2, n2, c2x, eb, hb2, g0, g1, g2, hu⟩ := cells_shape H2.out j hlt2
        subst ea eb
        have hbw := hbb.trans (hbel.mono (show w.heap.size ≤ W0.heap.size by omega))
        have f0 := (hbw.cell (p := ⟨b1, _, none⟩) hb1).trans e0
        have f1 := (hbw.cell (p := ⟨b1, _, none⟩) hb1).trans e1
        have f2 := (hbw.cell (p := ⟨b1, _, none⟩) hb1).trans e2
        have k0 := (hbw.cell (p := ⟨b2, _, none⟩) hb2).trans g0
        have k1 := (hbw.cell (p := ⟨b2, _, none⟩) hb2).trans g1
        have k2 := (hbw.cell (p := ⟨b2, _, none⟩) hb2).trans g2
        have hcall := ih l[j] (by simp) l'[j] wr.drew _ _ (hta.below hbw.drew hbw.size) (hu.below hbw.drew hbw.size)
        have hno := sameTs_no l l' j hlt hlt2
        have hyes := sameTs_take l l' j hlt hlt2
        obtain ⟨r, hr⟩ : ∃ r, r = sameT l[j] l'[j] := ⟨_, rfl⟩
        rw [← hr] at hcall hno hyes
        have HC := Lib.hid hcall
        have HNo := Lib.hid hno
        have HYes := Lib.hid hyes
        have HSj := Lib.hid hsmj
        clear hcall hno hyes e0 e1 e2 g0 g1 g2 hta hu hsmj hr ih
        generalize l[j].tag = t1 at *
        generalize l'[j].tag = t2 at *
        cases r with
        | true =>
          go_wp2_with fail
          refine wp_region_still_tail 10 (by kernel_rfl) (by kernel_rfl) ?_
          simp only [List.take_succ_cons, List.take_zero, List.drop_succ_cons, List.drop_zero]
          show wpStill Try.prog _ wr.drew (fun a' => wpList Try.prog _ _ _ a' wr.drew) _ _
          repeat still_step
          refine wpStill_nil ?_
          go_wp2_with (go_at_call 18; refine HC.out.mono ?_; rintro e w2 ⟨rfl, hb3⟩)
          go_roundw
          case rel => exact ⟨j + 1, by omega, by go_num, by rw [HYes.out, HSj.out]; rfl, hbel.drew.trans (hb3.mono hbel.size)⟩
          case measure => simp [intOf]; omega
        | false =>
          go_wp2_with fail
          refine wp_region_still_tail 10 (by kernel_rfl) (by kernel_rfl) ?_
          simp only [List.take_succ_cons, List.take_zero, List.drop_succ_cons, List.drop_zero]
          show wpStill Try.prog _ wr.drew (fun a' => wpList Try.prog _ _ _ a' wr.drew) _ _
          repeat still_step
          refine wpStill_nil ?_
          go_wp2_with (go_at_call 18; refine HC.out.mono ?_; rintro e w2 ⟨rfl, hb3⟩)
          go_ret
          exact ⟨by rw [HSm.out, HNo.out (by first | rfl | trivial)]; rfl, hbb.trans ((hbel.drew.trans (hb3.mono hbel.size)).mono (by omega))⟩
      · obtain rfl : j = l.length := by omega
        rw [List.take_length, HL.out, List.take_length] at hsmj
        have HS := Lib.hid hsmj
        clear hsmj
        go_wp2
        go_ret
        exact ⟨by rw [HSm.out, HS.out]; rfl, hbb.trans (hbel.mono (by omega))⟩
  · have hsm : sameT (.mk tag s l) (.mk tag' s' l') = false := by
      cases h : sameT (.mk tag s l) (.mk tag' s' l') with
      | false => rfl
      | true =>
        have := (sameT_iff _ _).1 h
        simp only [T.mk.injEq] at this
        exact absurd ⟨this.1, by rw [this.2.1], by rw [this.2.2]⟩ hgo
    rw [hsm]
    by_cases ht : tag = tag'
    · subst ht
      have hte : (tag != tag) = false := by simp
      by_cases hs : s.data.toList = s'.data.toList
      · have hse : s.toList = s'.toList := by rw [ByteArray.toList_eq, ByteArray.toList_eq, hs]
        have hne : (((l.length : Nat) : Int) != (l'.length : Nat)) = true := by simp; intro h; exact hgo ⟨rfl, hs, by omega⟩
        clear hsm hgo hs hl hl' ih
        go_enter Try.func18, Try.ntmps18
        go_wp2
        go_ret
        exact ⟨rfl, hbb⟩
      · have hse : ¬ s.toList = s'.toList := by rw [ByteArray.toList_eq, ByteArray.toList_eq]; exact hs
        clear hsm hgo hs hl hl' ih
        go_enter Try.func18, Try.ntmps18
        go_wp2
        go_ret
        exact ⟨rfl, hbb⟩
    · have hte : (tag != tag') = true := by simpa using ht
      clear hsm hgo ht hl hl' ih
      go_enter Try.func18, Try.ntmps18
      go_wp2
      go_ret
      exact ⟨rfl, hbb⟩

mutual
theorem sameRef_any : ∀ t : T, SamesT 18 t
  | .mk tag s l => sameRef_node tag s l (sameRef_all l)
theorem sameRef_all : ∀ l : List T, ∀ x ∈ l, SamesT 18 x
  | [], x, hx => by cases hx
  | t :: l, x, hx => by
    rcases List.mem_cons.1 hx with h | h
    · rw [h]; exact sameRef_any t
    · exact sameRef_all l x h
end
end Go.Proofs.Ytiagcegclgallaa
