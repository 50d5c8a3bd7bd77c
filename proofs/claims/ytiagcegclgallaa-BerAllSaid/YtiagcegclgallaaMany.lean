/- How many tlvs there are within: the walk. -/
import Derived.Test.YtiagcegclgallaaAll
import Derived.Test.YtiagcegclgallaaSame
namespace Go.Proofs.Ytiagcegclgallaa
open Go.RowKit
set_option linter.unusedVariables false

def ManyT (t : T) : Prop := ∀ (w : World) (d : Nat) (v : Value), d ≤ 21 → IsT w.heap.size w t v →
  Calls Try.prog 27 #[v, .int .i64 d] w fun e w' => e = .returned (.int .i64 (mny t d)) ∧ Below w.heap.size w w'

set_option maxRecDepth 100000 in
set_option maxHeartbeats 2000000 in
theorem many_node (tag : Int) (s : ByteArray) (l : List T) (ih : ∀ x ∈ l, ManyT x) : ManyT (.mk tag s l) := by
  rintro w d v hd ⟨a, cap, rfl, hwf, hsz, hll, hl⟩
  have hbb := (Below.refl w.heap.size w).alloc' (.cells #[.int .i64 tag, .string s, .slice a l.length cap] 24)
  have hs63 : s.size ≤ 9223372036854775807 := by unfold maxLen at hsz; exact hsz
  have hl63 : l.length ≤ 9223372036854775807 := by unfold maxLen at hll; exact hll
  rw [mny]
  by_cases q1 : 20 < d
  · rw [if_pos (.inl q1)]
    have d1 : decide ((20 : Int) < (d : Int)) = true := by simp; omega
    clear ih hl
    go_enter Try.func27, Try.ntmps27
    go_wp2
    go_ret
    exact ⟨rfl, hbb⟩
  · have d1 : decide ((20 : Int) < (d : Int)) = false := by simp; omega
    by_cases q2 : 100 < l.length
    · rw [if_pos (.inr (.inl q2))]
      have d2 : decide ((100 : Int) < (l.length : Int)) = true := by simp; omega
      clear ih hl
      go_enter Try.func27, Try.ntmps27
      go_wp2
      go_ret
      exact ⟨rfl, hbb⟩
    · have d2 : decide ((100 : Int) < (l.length : Int)) = false := by simp; omega
      by_cases q3 : 700 < s.size
      · rw [if_pos (.inr (.inr q3))]
        have d3 : decide ((700 : Int) < (s.size : Int)) = true := by simp; omega
        clear ih hl
        go_enter Try.func27, Try.ntmps27
        go_wp2
        go_ret
        exact ⟨rfl, hbb⟩
      · have d3 : decide ((700 : Int) < (s.size : Int)) = false := by simp; omega
        rw [if_neg (by omega)]
        have H1 := Lib.hid hl
        obtain ⟨W0, hW0⟩ : ∃ W0, W0 = w.alloc (.cells #[.int .i64 tag, .string s, .slice a l.length cap] 24) := ⟨_, rfl⟩
        have c2 : W0.cell? ⟨w.heap.size, 2, none⟩ = some (.slice a l.length cap) := by rw [hW0, World.cell?_alloc_at _ _ _ _ (by simp)]; rfl
        have hsz0 : W0.heap.size = w.heap.size + 1 := by rw [hW0]; simp
        have HW0 := Lib.hid hW0
        clear hl hW0
        go_enter Try.func27, Try.ntmps27
        go_wp2
        rw [← HW0.out] at hbb ⊢
        go_loopw [5, 6] (fun n i wr => ∃ (j : Nat) (m : Int), j ≤ l.length ∧ i = .int .i64 j ∧ n = .int .i64 m ∧ 1 ≤ m ∧ m ≤ 1000 + 1000 * ((21 - d : Nat) : Int) ∧ mnys (l.drop j) d m = mnys l d 1 ∧ Below W0.heap.size W0 wr)
          (fun _ i _ => l.length - (intOf i).toNat)
        case atStart => exact ⟨0, 1, by omega, rfl, rfl, by omega, by omega, rfl, Below.refl _ _⟩
        case round =>
          obtain ⟨j, m, hj, rfl, rfl, hm1, hm2, hmn, hbel⟩ := hrel
          have c2' := (hbel.cell (p := ⟨w.heap.size, 2, none⟩) (by simp; omega)).trans c2
          by_cases hlt : j < l.length
          · have t1 : decide ((j : Int) < (l.length : Int)) = true := by simp; omega
            rw [List.drop_eq_getElem_cons hlt, mnys] at hmn
            by_cases hm : m < 1000
            · have t2 : decide (m < 1000) = true := by simpa using hm
              rw [if_pos hm] at hmn
              obtain ⟨b1, o1, s1, a1, n1, c1, ea, hb1, e0, e1, e2, hta⟩ := cells_shape H1.out j hlt
              subst ea
              have hbw := hbb.trans (hbel.mono (show w.heap.size ≤ W0.heap.size by omega))
              have f0 := (hbw.cell (p := ⟨b1, _, none⟩) hb1).trans e0
              have f1 := (hbw.cell (p := ⟨b1, _, none⟩) hb1).trans e1
              have f2 := (hbw.cell (p := ⟨b1, _, none⟩) hb1).trans e2
              have hcall := ih l[j] (by simp) wr (d + 1) _ (by omega) (hta.below hbw hbw.size)
              have hb := mny_bd l[j] (d + 1)
              have hd1 : ((d + 1 : Nat) : Int) = (d : Int) + 1 := by omega
              rw [hd1] at hcall
              obtain ⟨r, hr⟩ : ∃ r, r = mny l[j] (d + 1) := ⟨_, rfl⟩
              rw [← hr] at hcall hmn hb
              have HC := Lib.hid hcall
              have HMn := Lib.hid hmn
              clear hcall hmn e0 e1 e2 hta hr ih hbw hd1
              generalize l[j].tag = t1 at *
              go_wp2_with (go_at_call 27; refine HC.out.mono ?_; rintro e w2 ⟨rfl, hb3⟩)
              go_roundw
              case rel => exact ⟨j + 1, m + r, by omega, by go_num, rfl, by omega, by omega, HMn.out, hbel.trans (hb3.mono hbel.size)⟩
              case measure => simp [intOf]; omega
            · have t2 : decide (m < 1000) = false := by simpa using hm
              rw [if_neg hm] at hmn
              have HMn := Lib.hid hmn
              have hm3 : 1000 ≤ m := by omega
              clear hmn ih hm
              go_wp2
              go_ret
              exact ⟨by rw [HMn.out]; rfl, hbb.trans (hbel.mono (by omega))⟩
          · obtain rfl : j = l.length := by omega
            have t1 : decide ((l.length : Int) < (l.length : Int)) = false := by simp
            rw [List.drop_length, mnys] at hmn
            have HMn := Lib.hid hmn
            clear hmn ih
            go_wp2
            go_ret
            exact ⟨by rw [HMn.out]; rfl, hbb.trans (hbel.mono (by omega))⟩
mutual
theorem many_any : ∀ t : T, ManyT t
  | .mk tag s l => many_node tag s l (many_all l)
theorem many_all : ∀ l : List T, ∀ x ∈ l, ManyT x
  | [], x, hx => by cases hx
  | t :: l, x, hx => by
    rcases List.mem_cons.1 hx with h | h
    · rw [h]; exact many_any t
    · exact many_all l x h
end

theorem great_any (t : T) (v : Value) (w : World) (h : IsT w.heap.size w t v) : Calls Try.prog 11 #[v] w fun e w' => e = .returned (.bool (decide (300 < mny t 0))) ∧ Below w.heap.size w w' := by
  obtain ⟨tg, s, a, n, cap, rfl⟩ := h.shape
  have hc := many_any t (w.alloc (.cells #[.int .i64 tg, .string s, .slice a n cap] 24)) 0 _ (by omega) (h.below ((Below.refl _ _).alloc (Nat.le_refl _) _) (by simp))
  have hc' : Calls Try.prog 27 #[.agg #[.int .i64 tg, .string s, .slice a n cap], .int .i64 0] (w.alloc (.cells #[.int .i64 tg, .string s, .slice a n cap] 24)) _ := hc
  generalize mny t 0 = m at *
  have HC := Lib.hid hc'
  clear hc hc'
  go_enter Try.func11, Try.ntmps11
  go_wp2_with (go_at_call 27; refine HC.out.mono ?_; rintro e w2 ⟨rfl, hb⟩)
  go_ret
  exact ⟨rfl, ((Below.refl _ _).alloc (Nat.le_refl _) _).trans (hb.mono (by simp))⟩
end Go.Proofs.Ytiagcegclgallaa
