/- The document's own size of a tlv: the walk. -/
import Derived.Test.YtiagcegclgallaaRefLen
import Derived.Test.YtiagcegclgallaaMany
namespace Go.Proofs.Ytiagcegclgallaa
open Go.RowKit
set_option linter.unusedVariables false

theorem mayTag_bds {t : Int} (h : mayTagB t = true) : 0 ≤ t ∧ t ≤ 255 := by
  unfold mayTagB at h
  simp only [Bool.and_eq_true, decide_eq_true_eq] at h
  exact h.1

def RSizeT (t : T) : Prop := ∀ (w : World) (v : Value), wt t ≤ 300000 → IsT w.heap.size w t v →
  Calls Try.prog 29 #[v] w fun e w' => e = .returned (.tuple #[.int .i64 (rsN t), .int .i64 (rsD t)]) ∧ Below w.heap.size w w'

theorem rs_no {t : T} (h : okT 12 t = false) : rsN t = -1 ∧ rsD t = 0 := by unfold rsN rsD; simp [h]
theorem rs_yes {t : T} (h : okT 12 t = true) : rsN t = ((body t).length : Int) ∧ rsD t = (dp t : Int) := by unfold rsN rsD; simp [h]

theorem okT_list {tag : Int} {s : ByteArray} {l : List T} (h1 : mayTagB tag = true) (h2 : isListB tag = true) : okT 12 (.mk tag s l) = (decide (s.size = 0) && okTs 11 l && decide ((encs l).length ≤ 1048576)) := by
  simp [okT, h1, h2]
theorem okT_leaf {tag : Int} {s : ByteArray} {l : List T} (h1 : mayTagB tag = true) (h2 : isListB tag = false) : okT 12 (.mk tag s l) = (decide (l.length = 0) && decide (s.size ≤ 1048576)) := by
  simp [okT, h1, h2]
theorem okT_tag_no {tag : Int} {s : ByteArray} {l : List T} (h1 : mayTagB tag = false) : okT 12 (.mk tag s l) = false := by
  simp [okT, h1]
theorem okTs_no (d : Nat) (l : List T) (j : Nat) (h : j < l.length) (hn : okT d l[j] = false) : okTs d l = false := by
  cases hc : okTs d l with
  | false => rfl
  | true => rw [okTs_get hc j h] at hn; exact hn

theorem toList_empty {s : ByteArray} (h : s.size = 0) : s.toList = [] := by rw [ByteArray.toList_eq]; exact List.eq_nil_of_length_eq_zero (by simpa using h)
theorem toList_full {s : ByteArray} (h : s.size ≠ 0) : ¬ s.toList = [] ∧ s.toList.isEmpty = false := by
  have h1 : ¬ s.toList = [] := by rw [ByteArray.toList_eq]; intro e; have h2 : s.data.toList.length = 0 := by rw [e]; rfl
                                  have h3 : s.data.toList.length = s.size := by simp
                                  omega
  exact ⟨h1, by cases h : s.toList with | nil => exact absurd h h1 | cons c r => rfl⟩

set_option maxRecDepth 100000 in
set_option maxHeartbeats 4000000 in
theorem rsize_node (tag : Int) (s : ByteArray) (l : List T) (ih : ∀ x ∈ l, RSizeT x) : RSizeT (.mk tag s l) := by
  rintro w v hwt ⟨a, cap, rfl, hwf, hsz, hll, hl⟩
  have hbb := (Below.refl w.heap.size w).alloc' (.cells #[.int .i64 tag, .string s, .slice a l.length cap] 24)
  have hs63 : s.size ≤ 9223372036854775807 := by unfold maxLen at hsz; exact hsz
  have hl63 : l.length ≤ 9223372036854775807 := by unfold maxLen at hll; exact hll
  by_cases q0 : mayTagB tag = true
  · obtain ⟨h0, h1⟩ := mayTag_bds q0
    have q31 : ¬ tag % 32 = 31 := by unfold mayTagB at q0; simp at q0; exact q0.2
    have t1 : decide (tag < 0) = false := by simp; omega
    have t2 : decide ((255 : Int) < tag) = false := by simp; omega
    have ha31 := and31 h0 h1
    have t3 : (tag % 32 == 31) = false := by simpa using q31
    cases q1 : isListB tag with
    | false =>
      have ha32 : bits .and .i64 tag 32 = 0 := by rw [and32 h0 h1]; unfold isListB at q1; have := of_decide_eq_false q1; omega
      by_cases q2 : l.length = 0
      · have hl0 : l = [] := List.eq_nil_of_length_eq_zero q2
        have hsw : s.size ≤ 300000 := by rw [wt] at hwt; omega
        have hok : okT 12 (.mk tag s l) = true := by rw [okT_leaf q0 q1]; simp [q2]; omega
        have hbl : (body (.mk tag s l)).length = s.size := by rw [hl0]; simp [body, T.s, T.l, encs]
        have hdp : dp (.mk tag s l) = 0 := by rw [dp, q1]; rfl
        rw [(rs_yes hok).1, (rs_yes hok).2, hbl, hdp]
        have t4 : decide ((1048576 : Int) < (s.size : Int)) = false := by simp; omega
        have t5 : decide ((0 : Int) < (l.length : Int)) = false := by simp; omega
        have t5' : decide (0 < l.length) = false := by simp; omega
        obtain ⟨W0, hW0⟩ : ∃ W0, W0 = w.alloc (.cells #[.int .i64 tag, .string s, .slice a l.length cap] 24) := ⟨_, rfl⟩
        have c2 : W0.cell? ⟨w.heap.size, 2, none⟩ = some (.slice a l.length cap) := by rw [hW0, World.cell?_alloc_at _ _ _ _ (by simp)]; rfl
        have HW0 := Lib.hid hW0
        clear hok hbl hdp ih hl q0 q1 q31 hW0 hl0 q2 hwt
        go_enter Try.func29, Try.ntmps29
        go_wp2
        rw [← HW0.out] at hbb ⊢
        go_loopw [4, 5, 6] (fun n dd i wr => n = .int .i64 s.size ∧ dd = .int .i64 0 ∧ i = .int .i64 0 ∧ W0 = wr) (fun _ _ _ _ => 0)
        case atStart => exact ⟨rfl, rfl, rfl, rfl⟩
        case round =>
          obtain ⟨rfl, rfl, rfl, rfl⟩ := hrel
          go_wp2
          go_ret2
          exact ⟨rfl, hbb⟩
      · have hok : okT 12 (.mk tag s l) = false := by rw [okT_leaf q0 q1]; simp [q2]
        rw [(rs_no hok).1, (rs_no hok).2]
        have t4 : decide ((0 : Int) < (l.length : Int)) = true := by simp; omega
        have t4' : decide (0 < l.length) = true := by simp; omega
        clear hok ih hl q0 q1 q31
        go_enter Try.func29, Try.ntmps29
        go_wp2
        go_ret2
        exact ⟨rfl, hbb⟩
    | true =>
      have ha32 : bits .and .i64 tag 32 = 32 := by rw [and32 h0 h1]; unfold isListB at q1; have := of_decide_eq_true q1; omega
      by_cases q2 : s.size = 0
      · obtain ⟨e1⟩ : s.toList = [] ∧ True := ⟨toList_empty q2, trivial⟩
        have e2 : s.toList.isEmpty = true := by rw [e1]; rfl
        have hok12 := okT_list (s := s) (l := l) q0 q1
        rw [q2] at hok12
        have hsz0' : (s.size : Int) = 0 := by omega
        have hwl : wts l ≤ 300000 := by rw [wt] at hwt; omega
        have hdpl : dp (.mk tag s l) = max 1 (dps l) := by rw [dp, q1]; rfl
        have hbl : (body (.mk tag s l)).length = (encs l).length := body_len_nil q2
        have H1 := Lib.hid hl
        have HOk := Lib.hid hok12
        have HDp := Lib.hid hdpl
        have HBl := Lib.hid hbl
        obtain ⟨W0, hW0⟩ : ∃ W0, W0 = w.alloc (.cells #[.int .i64 tag, .string s, .slice a l.length cap] 24) := ⟨_, rfl⟩
        have c2 : W0.cell? ⟨w.heap.size, 2, none⟩ = some (.slice a l.length cap) := by rw [hW0, World.cell?_alloc_at _ _ _ _ (by simp)]; rfl
        have hsz0 : W0.heap.size = w.heap.size + 1 := by rw [hW0]; simp
        have HW0 := Lib.hid hW0
        clear hl hW0 hok12 hdpl hbl q0 q1 q31 q2
        go_enter Try.func29, Try.ntmps29
        go_wp2
        rw [← HW0.out] at hbb ⊢
        go_loopw [4, 5, 6] (fun n dd i wr => ∃ (j E D : Nat), j ≤ l.length ∧ i = .int .i64 j ∧ n = .int .i64 E ∧ dd = .int .i64 D ∧ E = (encs (l.take j)).length ∧ D = max 1 (dps (l.take j)) ∧ okTs 11 (l.take j) = true ∧ E ≤ 300000 ∧ D ≤ 12 ∧ Below W0.heap.size W0 wr)
          (fun _ _ i _ => l.length - (intOf i).toNat)
        case atStart => exact ⟨0, 0, 1, by omega, rfl, by first | rfl | (rw [hsz0']; rfl), rfl, by simp [encs], by simp [dps], by simp [okTs], by omega, by omega, Below.refl _ _⟩
        case round =>
          obtain ⟨j, E, D, hj, rfl, rfl, rfl, hE, hD, hoks, hEb, hDb, hbel⟩ := hrel
          have c2' := (hbel.cell (p := ⟨w.heap.size, 2, none⟩) (by simp; omega)).trans c2
          by_cases hlt : j < l.length
          · have t5 : decide ((j : Int) < (l.length : Int)) = true := by simp; omega
            obtain ⟨b1, o1, s1, a1, n1, c1, ea, hb1, e0, e1', e2', hta⟩ := cells_shape H1.out j hlt
            subst ea
            have hbw := hbb.trans (hbel.mono (show w.heap.size ≤ W0.heap.size by omega))
            have f0 := (hbw.cell (p := ⟨b1, _, none⟩) hb1).trans e0
            have f1 := (hbw.cell (p := ⟨b1, _, none⟩) hb1).trans e1'
            have f2 := (hbw.cell (p := ⟨b1, _, none⟩) hb1).trans e2'
            have hwj : wt l[j] ≤ 300000 := Nat.le_trans (wts_get l j hlt) hwl
            have hcall := ih l[j] (by simp) wr _ hwj (hta.below hbw hbw.size)
            have hes := encs_take l j hlt
            have hds := dps_take l j hlt
            have hos := okTs_take 11 l j hlt
            have hle1 : (encs (l.take (j + 1))).length ≤ 300000 := Nat.le_trans (encs_take_le l (j + 1)) (Nat.le_trans (encs_wt l (by omega)) hwl)
            by_cases hk : okT 11 l[j] = true
            · have hk12 := okT_mono (show 11 ≤ 12 by omega) l[j] hk
              rw [(rs_yes hk12).1, (rs_yes hk12).2] at hcall
              have hdk : dp l[j] ≤ 11 := by have := okT_dp l[j] 11 (by omega); rw [hk, hk12] at this; simpa using this.symm
              obtain ⟨B, hB⟩ : ∃ B, B = (body l[j]).length := ⟨_, rfl⟩
              obtain ⟨dk, hdk'⟩ : ∃ dk, dk = dp l[j] := ⟨_, rfl⟩
              have henl := enc_length l[j]
              have hhdl := @headB_length l[j].tag (body l[j]).length
              have hew := enc_wt l[j] (by omega)
              rw [← hB] at hcall henl hhdl
              rw [← hdk'] at hcall hdk hds
              have hBl : B ≤ 300000 := by omega
              have hlen := fun w => refLen_any B (by omega) w
              obtain ⟨S, hS⟩ : ∃ S : ByteArray, S = ⟨(lenB B).toArray⟩ := ⟨_, rfl⟩
              have hSs : S.size = (lenB B).length := by rw [hS]; simp [ByteArray.size]
              rw [← hS] at hlen
              have hS5 := lenB_le (n := B) (by omega)
              rw [← hSs] at hhdl hS5
              obtain ⟨D', hD'⟩ : ∃ D' : Nat, D' = max D (dk + 1) := ⟨_, rfl⟩
              have em : max ((D : Nat) : Int) ((dk : Int) + 1) = (D' : Int) := by omega
              have t6 : decide ((B : Int) < 0) = false := by simp
              have t7 : decide ((12 : Int) ≤ (dk : Int)) = false := by simp; omega
              have hE' : E + 1 + S.size + B = (encs (l.take (j + 1))).length := by rw [hes, List.length_append, ← hE, henl, hhdl]; omega
              have hD2 : D' = max 1 (dps (l.take (j + 1))) := by rw [hD', hds, hD]; omega
              have hoks' : okTs 11 (l.take (j + 1)) = true := by rw [hos, hoks, hk]; rfl
              have HC := Lib.hid hcall
              have HLen := Lib.hid hlen
              have HE := Lib.hid hE'
              have HD := Lib.hid hD2
              have HOks := Lib.hid hoks'
              have HEb := Lib.hid hle1
              have hEE : E + 1 + S.size + B ≤ 300000 := by omega
              have hDD : D' ≤ 12 := by omega
              clear hcall hlen hE' hD2 hoks' e0 e1' e2' hta hbw hes hds hos hk hk12 hB hdk' henl hhdl hew hS hSs hD' hE hD hoks ih hwj hle1
              generalize l[j].tag = tg1 at *
              go_wp2_with (first
                | (go_at_call 29; refine HC.out.mono ?_; rintro e w2 ⟨rfl, hb3⟩)
                | (go_at_call 41; refine (HLen.out _).mono ?_; rintro e w3 ⟨rfl, hb4⟩))
              go_roundw
              case rel => exact ⟨j + 1, E + 1 + S.size + B, D', by omega, by go_num, by go_num, by go_num, HE.out, HD.out, HOks.out, by omega, by omega, (hbel.trans (hb3.mono hbel.size)).then hb4⟩
              case measure => simp [intOf]; omega
            · have hk' : okT 11 l[j] = false := by simpa using hk
              have hno : okT 12 (.mk tag s l) = false := by rw [HOk.out, okTs_no 11 l j hlt hk']; simp
              have HNo := Lib.hid (rs_no hno)
              have hrs := rs_kid (t := l[j])
              rw [hk'] at hrs
              obtain ⟨rn, hrn⟩ : ∃ rn, rn = rsN l[j] := ⟨_, rfl⟩
              obtain ⟨rd, hrd⟩ : ∃ rd, rd = rsD l[j] := ⟨_, rfl⟩
              rw [← hrn, ← hrd] at hcall hrs
              have HC := Lib.hid hcall
              clear hcall e0 e1' e2' hta hbw hes hds hos hk hk' hrn hrd hE hD hoks ih hwj hle1 hno HOk HDp HBl
              generalize l[j].tag = tg1 at *
              by_cases hneg : rn < 0
              · have t6 : decide (rn < 0) = true := by simpa using hneg
                clear hrs hneg
                go_wp2_with (go_at_call 29; refine HC.out.mono ?_; rintro e w2 ⟨rfl, hb3⟩)
                go_ret2
                exact ⟨by rw [HNo.out.1, HNo.out.2]; rfl, hbb.trans ((hbel.trans (hb3.mono hbel.size)).mono (by omega))⟩
              · have t6 : decide (rn < 0) = false := by simpa using hneg
                have t7 : decide ((12 : Int) ≤ rd) = true := by rw [t6] at hrs; simpa using hrs
                clear hrs hneg
                go_wp2_with (go_at_call 29; refine HC.out.mono ?_; rintro e w2 ⟨rfl, hb3⟩)
                go_ret2
                exact ⟨by rw [HNo.out.1, HNo.out.2]; rfl, hbb.trans ((hbel.trans (hb3.mono hbel.size)).mono (by omega))⟩
          · obtain rfl : j = l.length := by omega
            have t5 : decide ((l.length : Int) < (l.length : Int)) = false := by simp
            rw [List.take_length] at hE hD hoks
            have hyes : okT 12 (.mk tag s l) = true := by rw [HOk.out, hoks]; simp; omega
            have HYes := Lib.hid (show rsN (.mk tag s l) = (E : Int) ∧ rsD (.mk tag s l) = (D : Int) from by rw [(rs_yes hyes).1, (rs_yes hyes).2, HBl.out, HDp.out, ← hE, ← hD]; exact ⟨rfl, rfl⟩)
            have t6 : decide ((1048576 : Int) < (E : Int)) = false := by simp; omega
            clear hyes hE hD hoks ih HOk HDp HBl
            go_wp2
            go_ret2
            exact ⟨by rw [HYes.out.1, HYes.out.2]; rfl, hbb.trans (hbel.mono (by omega))⟩
      · have hok : okT 12 (.mk tag s l) = false := by rw [okT_list q0 q1]; simp [q2]
        rw [(rs_no hok).1, (rs_no hok).2]
        obtain ⟨e1, e2⟩ := toList_full q2
        clear hok ih hl q0 q1 q31
        go_enter Try.func29, Try.ntmps29
        go_wp2
        go_ret2
        exact ⟨rfl, hbb⟩
  · have q0' : mayTagB tag = false := by simpa using q0
    rw [(rs_no (okT_tag_no q0')).1, (rs_no (okT_tag_no q0')).2]
    by_cases q1 : tag < 0
    · have t1 : decide (tag < 0) = true := by simpa using q1
      clear ih hl q0 q0'
      go_enter Try.func29, Try.ntmps29
      go_wp2
      go_ret2
      exact ⟨rfl, hbb⟩
    · have t1 : decide (tag < 0) = false := by simpa using q1
      by_cases q2 : 255 < tag
      · have t2 : decide ((255 : Int) < tag) = true := by simpa using q2
        clear ih hl q0 q0'
        go_enter Try.func29, Try.ntmps29
        go_wp2
        go_ret2
        exact ⟨rfl, hbb⟩
      · have t2 : decide ((255 : Int) < tag) = false := by simpa using q2
        have q3 : tag % 32 = 31 := by
          unfold mayTagB at q0'
          simp only [Bool.and_eq_false_iff, decide_eq_false_iff_not, Bool.not_eq_false', decide_eq_true_eq] at q0'
          omega
        have ha31 := and31 (show 0 ≤ tag by omega) (show tag ≤ 255 by omega)
        rw [q3] at ha31
        clear ih hl q0 q0' q3
        go_enter Try.func29, Try.ntmps29
        go_wp2
        go_ret2
        exact ⟨rfl, hbb⟩
mutual
theorem rsize_any : ∀ t : T, RSizeT t
  | .mk tag s l => rsize_node tag s l (rsize_all l)
theorem rsize_all : ∀ l : List T, ∀ x ∈ l, RSizeT x
  | [], x, hx => by cases hx
  | t :: l, x, hx => by
    rcases List.mem_cons.1 hx with h | h
    · rw [h]; exact rsize_any t
    · exact rsize_all l x h
end
end Go.Proofs.Ytiagcegclgallaa
