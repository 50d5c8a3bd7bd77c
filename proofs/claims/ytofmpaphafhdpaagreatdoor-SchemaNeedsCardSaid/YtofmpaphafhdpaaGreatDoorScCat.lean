/- slices.Grow, Concat, Contains at texts: the walks. -/
import Derived.Test.YtofmpaphafhdpaaGreatDoorScOwn
import Derived.Lib.AppendZerosOnto
import Derived.Deep.Upon
namespace Go.Proofs.YtofmpaphafhdpaaGreatDoor
open Go.RowKit
set_option linter.unusedVariables false

theorem flat_take {α : Type} (U : List (List α)) (j : Nat) (h : j < U.length) : (U.take (j + 1)).flatten = (U.take j).flatten ++ U[j] := by
  rw [List.take_succ_eq_append_getElem h, List.flatten_append]
  simp
theorem flat_le {α : Type} (U : List (List α)) (j : Nat) : (U.take j).flatten.length ≤ U.flatten.length := by
  have : U.flatten = (U.take j).flatten ++ (U.drop j).flatten := by rw [← List.flatten_append, List.take_append_drop]
  rw [this, List.length_append]
  omega

set_option maxRecDepth 100000 in
set_option maxHeartbeats 2000000 in
theorem grow_any (n : Nat) (hn : n ≤ 100000) (w : World) :
    Calls Tryz.prog 115 #[.slice none 0 0, .int .i64 n] w fun e w' => ∃ v, e = .returned v ∧ OwnS w.heap.size w' v [] ∧ Below w.heap.size w w' := by
  have t0 : decide ((n : Int) < 0) = false := by simp
  by_cases h0 : n = 0
  · subst h0
    go_enter Tryz.func115, Tryz.ntmps115
    go_wp2
    go_ret
    exact ⟨_, rfl, ownS_nil _ _, Below.refl _ _⟩
  · have t1 : decide ((0 : Int) < (n : Int)) = true := by simp; omega
    obtain ⟨i0, hi, hz0, hz1, hz2⟩ := info_parts infoS
    have hap := fun ty => Lib.run_append_nil_zeros (P := Tryz.prog) w 27 3 ty 9 i0 (.string ⟨#[]⟩) .i64 .i64 Tryz.underlying27 Tryz.underlying3 hi hz0 n (by omega) (by omega) (by omega) (by rw [hz2]; omega)
    obtain ⟨cap, hcap⟩ : ∃ cap, cap = grownCap w n 0 9 := ⟨_, rfl⟩
    have hc1 : n ≤ cap := by rw [hcap]; exact grownCap_ge _ _ _ _
    have hc2 : cap ≤ maxLen := by rw [hcap]; exact grownCap_le_maxLen _ _ _ _ (by unfold maxLen; omega)
    obtain ⟨W, hW⟩ : ∃ W, W = w.drew.alloc (.cells (Builtin.zeroCells (Value.string ⟨#[]⟩).cells n ++ Builtin.zeroCells (Value.string ⟨#[]⟩).cells (cap - n)) 9) := ⟨_, rfl⟩
    have hown : OwnS w.heap.size W (.slice (some ⟨w.heap.size, 0, none⟩) 0 cap) [] := by
      rw [hW]
      exact World.ownsRow_made (w := w.drew) (base := w.heap.size) (e := 9) (size := 1) _ cap (Nat.le_refl _) hc2 (by simp [Builtin.zeroCells, Value.cells]; omega)
    have hbel : Below w.heap.size w W := by
      rw [hW]
      exact (Below.refl _ _).drew.alloc (Nat.le_refl _) _
    rw [← hcap, ← hW] at hap
    have HAp := Lib.hid hap
    have HO := Lib.hid hown
    have HB := Lib.hid hbel
    clear hap hown hbel hW hcap
    unfold maxLen at hc2
    go_enter Tryz.func115, Tryz.ntmps115
    go_wp2_with (at_builtin; refine Lib.wpList_append_run _ rfl _ _ _ _ rfl _ _ rfl rfl _ _ (HAp.out _) ?_)
    go_ret
    exact ⟨_, rfl, HO.out, HB.out⟩

/-- A list of lists of texts, below block n0. -/
def IsTT (n0 : Nat) (w : World) (U : List (List (List UInt8))) (v : Value) : Prop := ∃ a c, v = .slice a U.length c ∧ ∀ j, (h : j < U.length) → ∃ b off u, a = some ⟨b, off, none⟩ ∧ b < n0 ∧ w.cell? ⟨b, off + j, none⟩ = some u ∧ IsT n0 w U[j] u

set_option maxRecDepth 100000 in
set_option maxHeartbeats 4000000 in
theorem concat_any (U : List (List (List UInt8))) (hU : U.flatten.length ≤ 100000) (hl : U.length ≤ 1000) (v : Value) (w : World) (h : IsTT w.heap.size w U v) :
    Calls Tryz.prog 79 #[v] w fun e w' => ∃ v', e = .returned v' ∧ OwnS w.heap.size w' v' U.flatten ∧ Below w.heap.size w w' := by
  obtain ⟨a, c, rfl, hcell⟩ := h
  obtain ⟨n, hn⟩ : ∃ n, n = U.length := ⟨_, rfl⟩
  rw [← hn] at hl ⊢
  have HN := Lib.hid hn
  have HC := Lib.hid hcell
  clear hcell hn
  go_enter Tryz.func79, Tryz.ntmps79
  go_wp2
  go_loopw [3, 11] (fun s i wr => ∃ (j k : Nat), j ≤ n ∧ i = .int .i64 j ∧ s = .int .i64 k ∧ k = (U.take j).flatten.length ∧ w = wr) (fun _ i wr => n - (intOf i).toNat)
  case atStart => exact ⟨0, 0, by omega, rfl, rfl, rfl, rfl⟩
  case round =>
    obtain ⟨j, k, hj, rfl, rfl, hk, rfl⟩ := hrel
    have hk2 := flat_le U j
    rw [← hk] at hk2
    by_cases hlt : j < n
    · have t3 : decide ((j : Int) < (n : Int)) = true := by simp; omega
      have t3' : decide (j < n) = true := by simpa using hlt
      have hlU : j < U.length := by rw [← HN.out]; exact hlt
      obtain ⟨b, off, u, rfl, hb0, c0, ht⟩ := HC.out j hlU
      obtain ⟨ua, uc, hu, _⟩ := id ht
      obtain ⟨un, hun⟩ : ∃ k, k = U[j].length := ⟨_, rfl⟩
      rw [← hun] at hu
      subst hu
      have hnew : k + un = (U.take (j + 1)).flatten.length := by rw [flat_take U j hlU, List.length_append, ← hk, ← hun]
      have hk3 := flat_le U (j + 1)
      rw [← hnew] at hk3
      have HNew := Lib.hid hnew
      have t4 : decide (((k : Int) + (un : Int)) < 0) = false := by simp; omega
      have t4' : decide (((k + un : Nat) : Int) < 0) = false := by simp; omega
      clear hun hk hnew ht
      go_wp2
      go_roundw
      case rel => exact ⟨j + 1, k + un, by omega, by go_num, by go_num, HNew.out, by first | rfl | trivial⟩
      case measure => simp [intOf]; omega
    · obtain rfl : j = n := by omega
      have t3 : decide ((j : Int) < (j : Int)) = false := by simp
      have t3' : decide (j < j) = false := by simp
      have HG := Lib.hid (fun W => grow_any k (by omega) W)
      clear hk
      go_wp2_with (go_at_call 115; refine (HG.out _).mono ?_; rintro e w2 ⟨v2, rfl, ho2, hb2⟩; (obtain ⟨xa, xc, hxe⟩ := ownS_slice ho2); (simp only [List.length_nil] at hxe); subst hxe; have HO2 := Lib.hid ho2; have HB2 := Lib.hid hb2; clear ho2 hb2)
      go_loopw [6, 27] (fun l i wr => ∃ (q : Nat), q ≤ j ∧ i = .int .i64 q ∧ OwnS w.heap.size wr l (U.take q).flatten ∧ Below w.heap.size w wr) (fun _ i wr => j - (intOf i).toNat)
      case atStart => exact ⟨0, by omega, rfl, HO2.out, HB2.out⟩
      case round =>
        obtain ⟨q, hq, rfl, hown, hbel⟩ := hrel
        have HBel := Lib.hid hbel
        have hbs := hbel.size
        have hsz := flat_le U q
        obtain ⟨sa, sc, hsv⟩ := ownS_slice hown
        obtain ⟨sn, hsn⟩ : ∃ k, k = (U.take q).flatten.length := ⟨_, rfl⟩
        rw [← hsn] at hsv hsz
        subst hsv
        have HOwn := Lib.hid hown
        have HSn := Lib.hid hsn
        clear hsn hown
        by_cases hlt : q < j
        · have t5 : decide ((q : Int) < (j : Int)) = true := by simp; omega
          have t5' : decide (q < j) = true := by simpa using hlt
          have hlU : q < U.length := by rw [← HN.out]; exact hlt
          obtain ⟨b, off, u, hae, hb0, c0, ht⟩ := HC.out q hlU
          subst hae
          obtain ⟨ua, uc, hu, hmx, hcu⟩ := id ht
          obtain ⟨un, hun⟩ : ∃ k, k = U[q].length := ⟨_, rfl⟩
          rw [← hun] at hu
          subst hu
          have d0 := (hbel.cell (p := ⟨b, off + q, none⟩) hb0).trans c0
          have htot : sn + un ≤ 100000 := by
            have := flat_le U (q + 1)
            rw [flat_take U q hlU, List.length_append, ← HSn.out, ← hun] at this
            omega
          have hnew := flat_take U q hlU
          have HNew := Lib.hid hnew
          obtain ⟨i0, hi, hz0, hz1, hz2⟩ := info_parts infoS
          have HUn := Lib.hid hun
          have HT := Lib.hid ht
          clear c0 hnew ht hbel hun
          by_cases hu0 : un = 0
          · subst hu0
            have hle : sn ≤ sc := by
              rcases HOwn.out.2 with ⟨e, _⟩ | ⟨g, cap, cur, e, _, _, h1, _⟩
              · obtain ⟨_, rfl, rfl⟩ := Value.slice.inj e; omega
              · obtain ⟨_, _, rfl⟩ := Value.slice.inj e; rw [HSn.out]; exact h1
            have hsrc : Src Tryz.prog i0.size 27 (.slice ua 0 uc) 0 [] wr := by
              cases ua with
              | none => exact Src.ofNil _ Tryz.underlying27 uc
              | some ad => exact Src.ofSlice _ Tryz.underlying27 ad 0 uc [] (by simp) (by simp) (by simp)
            have HRn := Lib.hid (fun ty => run_append_nothing wr 27 27 ty 9 i0 Tryz.underlying27 hi sa sn sc hle (.slice ua 0 uc) hsrc)
            have hnil : U[q] = [] := List.eq_nil_of_length_eq_zero HUn.out.symm
            have HNil := Lib.hid hnil
            clear hsrc hle hnil hi hz0 hz1 hz2 hcu
            go_wp2_with (at_builtin; refine Lib.wpList_append_run _ rfl _ _ _ _ rfl _ _ rfl rfl _ _ (HRn.out _) ?_)
            go_roundw
            case rel => exact ⟨q + 1, by omega, by go_num, by rw [HNew.out, HNil.out, List.append_nil]; exact HOwn.out, HBel.out⟩
            case measure => simp [intOf]; omega
          · obtain ⟨b2, off2, hua, hb2, _⟩ := hcu 0 (by have := HUn.out; omega)
            subst hua
            have hnews : ∀ i u, (U[q].map strV)[i]? = some u → wr.cell? ((⟨b2, off2, none⟩ : Addr).add i) = some u := by
              intro i u hiu
              rw [List.getElem?_map] at hiu
              cases e : U[q][i]? with
              | none => rw [e] at hiu; cases hiu
              | some x =>
                rw [e] at hiu
                simp only [Option.map_some, Option.some.injEq] at hiu
                obtain ⟨hi2, hx⟩ := List.getElem?_eq_some_iff.1 e
                obtain ⟨b3, off3, e3, hb3, c3⟩ := hcu i hi2
                obtain ⟨rfl, rfl⟩ : b2 = b3 ∧ off2 = off3 := by simpa using e3
                have hadd : (⟨b2, off2, none⟩ : Addr).add i = ⟨b2, off2 + i, none⟩ := by unfold Addr.add; split <;> simp_all
                rw [hadd, HBel.out.cell (p := ⟨b2, _, none⟩) hb3, c3, ← hiu, hx]
            have HNw := Lib.hid hnews
            clear hcu hnews
            go_wp2_with (at_builtin; refine wpList_append_own_at _ rfl (.tmp 31) (.tmp 32) 27 rfl w.heap.size 9 i0 (.string ⟨#[]⟩) 1 16 Tryz.underlying27 hi hz0 hz1 hz2 rfl (by decide) (.slice sa sn sc) sn ((U.take q).flatten.map strV) rfl (by have := HOwn.out; unfold OwnS at this; rw [← HSn.out] at this; exact this) ⟨b2, off2, none⟩ un uc (U[q].map strV) rfl (by rw [List.length_map, Nat.mul_one]; exact HUn.out.symm) HNw.out (by intro u hu; obtain ⟨x, _, rfl⟩ := List.mem_map.1 hu; rfl) (by unfold maxLen; omega) (by omega) hbs ?_; intro v5 w5 hown5 hg5 _ _; have HO5 := Lib.hid hown5; have HB5 := Lib.hid (HBel.out.grown hg5 hbs (fun k e => (World.ownsRow.lt HOwn.out k e).1)); clear hown5 hg5)
            go_roundw
            case rel => exact ⟨q + 1, by omega, by go_num, by unfold OwnS; rw [HNew.out, List.length_append, List.map_append, ← HSn.out, ← HUn.out]; exact HO5.out, HB5.out⟩
            case measure => simp [intOf]; omega
        · obtain rfl : q = j := by omega
          have t5 : decide ((q : Int) < (q : Int)) = false := by simp
          have t5' : decide (q < q) = false := by simp
          have hall : (U.take q).flatten = U.flatten := by rw [List.take_of_length_le (by rw [← HN.out]; exact Nat.le_refl _)]
          have HAll := Lib.hid hall
          clear hall hbel
          go_wp2
          go_ret
          exact ⟨.slice sa sn sc, rfl, by have := HOwn.out; rwa [HAll.out] at this, HBel.out⟩
end Go.Proofs.YtofmpaphafhdpaaGreatDoor
