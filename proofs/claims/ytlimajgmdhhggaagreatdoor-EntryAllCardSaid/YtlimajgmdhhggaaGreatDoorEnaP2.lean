/- Several texts in one file: EnSrtW, EnNrmW, EnHas, MaUp, ScRow, ScClass, ScFind, ScCls, ScCat, ScIdx, ScClassed, ScCheck, ScPer, MaAwake, MaCasesW, ScFst, MaDig, ScFstW, RegFact, RegTwo, ScNedA, RegJ, MkA, MkP, MkG, TuA, MaNumP, MkS, EnHasP, EnNEntP, EnMadP, EnSame, EnSameW. -/
import Derived.Test.YtlimajgmdhhggaaGreatDoorEnaP1
import Derived.Test.YtlimajgmdhhggaaGreatDoorEnOwn
import Derived.Laws.OwnMore
import Derived.RegionTactic
import Derived.Deep.Cut
import Derived.Deep.RegionLaw
import Derived.Test.YtlimajgmdhhggaaGreatDoorEnFind
import Derived.Test.YtlimajgmdhhggaaGreatDoorMaSame
import Derived.Test.YtlimajgmdhhggaaGreatDoorDnLow
import Derived.Test.YtlimajgmdhhggaaGreatDoorOfL
import Derived.Test.YtlimajgmdhhggaaGreatDoorMaPure
import Derived.Test.YtlimajgmdhhggaaGreatDoorShelf2
import Derived.Test.YtlimajgmdhhggaaGreatDoorScOwn
import Derived.Test.YtlimajgmdhhggaaGreatDoorMaNum
import Derived.Sort.OwnSorted
import Derived.BigQuiet
import Derived.Deep.RegionHeld3
import Derived.Test.YtlimajgmdhhggaaGreatDoorMaNorm
import Derived.Test.YtlimajgmdhhggaaGreatDoorDnParse
import Derived.Lib.AppendZerosOnto
import Derived.Deep.Upon
import Derived.Test.YtlimajgmdhhggaaGreatDoorScPure
import Derived.Test.YtlimajgmdhhggaaGreatDoorScSound
import Derived.Test.YtlimajgmdhhggaaGreatDoorDnKey
import Derived.Test.YtlimajgmdhhggaaGreatDoorDnOwn
import Derived.Lib.ItoaLen
import Derived.Lib.ItoaMem
import Derived.Deep.CutRange
import Derived.Below
import Derived.Deep.AppendSrc
import Derived.Deep.Onto
import Derived.Test.YtlimajgmdhhggaaGreatDoorEnRead
namespace Go.Proofs.YtlimajgmdhhggaaGreatDoor
open Go.RowKit
set_option linter.unusedVariables false
set_option linter.unusedSimpArgs false

theorem grown_trans {w a b : World} {g : Nat} (h : w.grownBy a (some g)) (k : a.grownBy b (some g)) : w.grownBy b (some g) :=
  ⟨k.os.trans h.os, k.tape.trans h.tape, k.output.trans h.output, Nat.le_trans h.size k.size, fun j hj hne => (k.block j (Nat.lt_of_lt_of_le hj h.size) hne).trans (h.block j hj hne)⟩
theorem below_grownR {w w' : World} {g : Nat} (h : Below w.heap.size w w') : w.grownBy w' (some g) := ⟨h.os, h.tape, h.output, h.size, fun k hk _ => h.block k hk⟩
theorem rowP_swap {B g n cap : Nat} {w : World} {P : List PT} {j : Nat} (hj : j + 1 < P.length) (h : w.ownsRow B 54 2 (.slice (some ⟨g, 0, none⟩) n cap) n (cellsP P)) :
    let w' := (((w.setCell ⟨g, (j + 1) * 2, none⟩ (strV P[j].1)).setCell ⟨g, (j + 1) * 2 + 1, none⟩ P[j].2).setCell ⟨g, j * 2, none⟩ (strV P[j + 1].1)).setCell ⟨g, j * 2 + 1, none⟩ P[j + 1].2
    w'.ownsRow B 54 2 (.slice (some ⟨g, 0, none⟩) n cap) n (cellsP (swapG P j)) ∧ w.grownBy w' (some g) := by
  intro w'
  obtain ⟨h1, g1⟩ := h.stored ((j + 1) * 2) (strV P[j].1)
  obtain ⟨h2, g2⟩ := h1.stored ((j + 1) * 2 + 1) P[j].2
  obtain ⟨h3, g3⟩ := h2.stored (j * 2) (strV P[j + 1].1)
  obtain ⟨h4, g4⟩ := h3.stored (j * 2 + 1) P[j + 1].2
  refine ⟨?_, grown_trans (grown_trans (grown_trans g1 g2) g3) g4⟩
  have he : ((((cellsP P).set ((j + 1) * 2) (strV P[j].1)).set ((j + 1) * 2 + 1) P[j].2).set (j * 2) (strV P[j + 1].1)).set (j * 2 + 1) P[j + 1].2 = cellsP (swapG P j) := by
    refine List.ext_getElem? fun i => ?_
    have hl := cellsP_length P
    have hls := cellsP_length (swapG P j)
    rw [swapG_length] at hls
    by_cases hi : i < P.length * 2
    · obtain ⟨q, hq⟩ : ∃ q, i = q * 2 ∨ i = q * 2 + 1 := ⟨i / 2, by omega⟩
      have hqp : q < (swapG P j).length := by rw [swapG_length]; omega
      obtain ⟨s0, s1⟩ := cellsP_get (swapG P j) q hqp
      obtain ⟨p0, p1⟩ := cellsP_get P q (by rw [swapG_length] at hqp; exact hqp)
      have hsw : (swapG P j)[q] = if q = j + 1 then P[j] else if q = j then P[j + 1] else P[q]'(by rw [swapG_length] at hqp; exact hqp) := by
        have := swapG_at hj
        simp only [this, List.getElem_set]
        by_cases e1 : j + 1 = q
        · rw [if_pos e1, if_pos (show q = j + 1 from e1.symm)]
        · rw [if_neg e1, if_neg (show ¬ q = j + 1 from fun h => e1 h.symm)]
          by_cases e2 : j = q
          · rw [if_pos e2, if_pos (show q = j from e2.symm)]
          · rw [if_neg e2, if_neg (show ¬ q = j from fun h => e2 h.symm)]
      simp only [List.getElem?_set, List.length_set, hl]
      rcases hq with rfl | rfl
      · rw [s0, hsw]
        by_cases e1 : q = j + 1
        · subst e1
          rw [if_neg (by omega), if_neg (by omega), if_neg (by omega), if_pos rfl, if_pos (by omega), if_pos rfl]
        · by_cases e2 : q = j
          · subst e2
            rw [if_neg (by omega), if_pos rfl, if_pos (by omega), if_neg e1, if_pos rfl]
          · rw [if_neg (by omega), if_neg (by omega), if_neg (by omega), if_neg (by omega), if_neg e1, if_neg e2]
            exact p0
      · rw [s1, hsw]
        by_cases e1 : q = j + 1
        · subst e1
          rw [if_neg (by omega), if_neg (by omega), if_pos rfl, if_pos (by omega), if_pos rfl]
        · by_cases e2 : q = j
          · subst e2
            rw [if_pos rfl, if_pos (by omega), if_neg e1, if_pos rfl]
          · rw [if_neg (by omega), if_neg (by omega), if_neg (by omega), if_neg (by omega), if_neg e1, if_neg e2]
            exact p1
    · rw [List.getElem?_eq_none (by simp only [List.length_set]; omega), List.getElem?_eq_none (by omega)]
  rw [← he]
  exact h4

def SrtI (w : World) (B g n cap : Nat) (P : List PT) (k m : Nat) (wx : World) : Prop := ∃ R : List PT, Hid (R.length = n) ∧ Hid (∀ r ∈ R, ∃ a k c, r.2 = Value.slice a k c) ∧ Hid (bubG (fun r => r.1) m R = srtG (fun r => r.1) (k + 1) P) ∧ Hid (wx.ownsRow B 54 2 (.slice (some ⟨g, 0, none⟩) n cap) n (cellsP R)) ∧ Hid (w.grownBy wx (some g))
set_option maxRecDepth 100000 in
set_option maxHeartbeats 8000000 in
theorem insertR_any (P : List PT) (B g n cap : Nat) (w : World) (hn : n = P.length) (hl : n ≤ 1000000) (h : w.ownsRow B 54 2 (.slice (some ⟨g, 0, none⟩) n cap) n (cellsP P)) (hv : ∀ r ∈ P, ∃ a k c, r.2 = .slice a k c) :
    Calls Tryz.prog 121 #[.slice (some ⟨g, 0, none⟩) n cap, .int .i64 0, .int .i64 n, .func (.func 46) #[] #[]] w fun e w' => e = .returned (.tuple #[]) ∧ w'.ownsRow B 54 2 (.slice (some ⟨g, 0, none⟩) n cap) n (cellsP (srtG (fun r => r.1) (n - 1) P)) ∧ w.grownBy w' (some g) := by
  have HV := Lib.hid hv
  have HN := Lib.hid hn
  have HR := Lib.hid h
  have hlt0 := World.ownsRow.lt h
  have HG := Lib.hid (hlt0 g rfl)
  clear hv hn h hlt0
  go_enter Tryz.func121, Tryz.ntmps121
  go_wp2
  go_loopw [8] (fun i wr => ∃ k : Nat, (k + 1 ≤ n ∨ k = 0) ∧ i = .int .i64 ((k + 1 : Nat) : Int) ∧ Hid (wr.ownsRow B 54 2 (.slice (some ⟨g, 0, none⟩) n cap) n (cellsP (srtG (fun r => r.1) k P))) ∧ Hid (w.grownBy wr (some g))) (fun i wr => n + 1 - (intOf i).toNat)
  case atStart => exact ⟨0, .inr rfl, rfl, HR, Lib.hid ⟨rfl, rfl, rfl, Nat.le_refl _, fun _ _ _ => rfl⟩⟩
  case round =>
    obtain ⟨k, hk, rfl, HRk, HGk⟩ := hrel
    rename World => wo
    by_cases hlt : k + 1 < n
    · have t1 : decide (((k + 1 : Nat) : Int) < (n : Int)) = true := by simp; omega
      have t1' : decide ((k : Int) + 1 < (n : Int)) = true := by simp; omega
      go_wp2
      go_loopw [9] (fun i wx => ∃ m : Nat, m ≤ k + 1 ∧ i = .int .i64 (m : Int) ∧ SrtI w B g n cap P k m wx) (fun i wx => (intOf i).toNat)
      case atStart => exact ⟨k + 1, Nat.le_refl _, by first | rfl | go_num, srtG (fun r => r.1) k P, Lib.hid (by rw [srtG_length]; exact HN.out.symm), Lib.hid (fun r hr => HV.out r (srtG_mem k hr)), Lib.hid rfl, HRk, HGk⟩
      case round =>
        obtain ⟨m, hm, rfl, R, HLn, HVr, HBu, HRx, HGx⟩ := hrel
        by_cases hm0 : m = 0
        · subst hm0
          go_upto_region 4 with (fail)
          refine region_det (by kernel_rfl) (fun w' => w' = wr.drew) (rfl) (by kernel_rfl) ?_
          simp only [List.toList_toArray]
          repeat' (first
            | (refine det_shut (by rfl) ?_; (simp only [Act.put, List.setIfInBounds_toArray, List.set_cons_zero, List.set_cons_succ]))
            | (apply det_val; (case hw => rfl); (case hv => (intro w' hS; (subst hS); go_simp; first | done | with_reducible exact rfl)); (simp only [Act.put, List.setIfInBounds_toArray, List.set_cons_zero, List.set_cons_succ]))
            | (apply det_call; (case hw => rfl); (case hv => (intro w' hS; (subst hS); go_simp; first | done | with_reducible exact rfl | with_reducible exact ⟨rfl, rfl⟩)); (case hc => (intro w' hS; (first | (go_at_call 46; with_reducible exact absurd hS id)))); (simp only [Act.put, List.setIfInBounds_toArray, List.set_cons_zero, List.set_cons_succ]))
            | fail)
          intro w9 hw9
          subst hw9
          have hr9 : (wr.drew).ownsRow B 54 2 (.slice (some ⟨g, 0, none⟩) n cap) n (cellsP (srtG (fun r => r.1) (k + 1) P)) := by
            have hb := HBu.out
            rw [← hb]
            exact HRx.out.drew
          have hg9 : w.grownBy wr.drew (some g) := ⟨HGx.out.os, HGx.out.tape, HGx.out.output, HGx.out.size, HGx.out.block⟩
          have HR9 := Lib.hid hr9
          have HG9 := Lib.hid hg9
          clear hr9 hg9
          go_wp2
          go_roundw
          case rel => exact ⟨k + 1, .inl (by omega), by first | rfl | go_num, HR9, HG9⟩
          case measure => simp [intOf]; omega
        · obtain ⟨m, rfl⟩ : ∃ q, m = q + 1 := ⟨m - 1, by omega⟩
          have hmn : m + 1 < R.length := by have := HLn.out; omega
          obtain ⟨y0, y1⟩ := cellsP_get R (m + 1) hmn
          obtain ⟨x0, x1⟩ := cellsP_get R m (by omega)
          obtain ⟨ya, yn, yc, hy⟩ := HVr.out _ (List.getElem_mem hmn)
          obtain ⟨xa, xn, xc, hx⟩ := HVr.out _ (List.getElem_mem (show m < R.length by omega))
          obtain ⟨Y, hY⟩ : ∃ Y : ByteArray, Y = ofL R[m + 1].1 := ⟨_, rfl⟩
          obtain ⟨X, hX⟩ : ∃ X : ByteArray, X = ofL (R[m]'(by omega)).1 := ⟨_, rfl⟩
          have hc := fun j (hj : j < n * 2) => World.ownsRow.cellAt HRx.out j hj
          have hf := fun j => World.ownsRow.frozenAt HRx.out j
          have c0 : wr.cell? ⟨g, (m + 1) * 2, none⟩ = some (.string Y) := by rw [hc _ (by omega), y0, hY]; rfl
          have c1 : wr.cell? ⟨g, (m + 1) * 2 + 1, none⟩ = some (.slice ya yn yc) := by rw [hc _ (by omega), y1, hy]
          have c2 : wr.cell? ⟨g, m * 2, none⟩ = some (.string X) := by rw [hc _ (by omega), x0, hX]; rfl
          have c3 : wr.cell? ⟨g, m * 2 + 1, none⟩ = some (.slice xa xn xc) := by rw [hc _ (by omega), x1, hx]
          have hgl : g < wr.heap.size := Nat.lt_of_lt_of_le HG.out.2 HGx.out.size
          have hst : PairAt wr g ((m + 1) * 2) (m * 2) Y X (.slice ya yn yc) (.slice xa xn xc) wr.drew := ⟨c0, c1, c2, c3, hgl, (Below.refl _ _).drew⟩
          obtain ⟨I, hI⟩ : ∃ I, I = Extern.BytealgCompare.cmp Y X := ⟨_, rfl⟩
          have hIc : I = cmpL R[m + 1].1 (R[m]'(by omega)).1 := by rw [hI, hY, hX]; rfl
          have hcm := fun W => typesCmp_any Y X (.slice ya yn yc) (.slice xa xn xc) W
          simp only [← hI] at hcm
          have HCm := Lib.hid hcm
          have HIc := Lib.hid hIc
          have HYX := Lib.hid (And.intro hY hX)
          have HHy := Lib.hid (And.intro hy hx)
          have q1 : ((m : Int) + 1) < (n : Int) := by have := HLn.out; omega
          have q2 : (m : Int) < (n : Int) := by omega
          have q3 : (0 : Int) < (m : Int) + 1 := by omega
          have q4 : (0 : Int) ≤ (m : Int) + 1 := by omega
          have q5 : ((m : Int) + 1).toNat = m + 1 := by omega
          have q6 : IntKind.i64.wrap ((m : Int) + 1 - 1) = (m : Int) := by rw [IntKind.wrap_i64]; omega
          have q7 : (m : Int) + 1 - 1 = (m : Int) := by omega
          have q8 : IntKind.i64.wrap (m : Int) = (m : Int) := by rw [IntKind.wrap_i64]; omega
          have q9 : (0 : Int) ≤ (m : Int) := by omega
          have q10 : m + 1 < n := by omega
          clear y0 y1 x0 x1 hc hI hIc hcm hY hX hy hx
          by_cases hneg : I < 0
          · have t3 : decide (I < 0) = true := by simpa using hneg
            go_upto_region 4 with (fail)
            refine region_det (by kernel_rfl) (PairAt wr g ((m + 1) * 2) (m * 2) Y X (.slice ya yn yc) (.slice xa xn xc)) (hst) (by kernel_rfl) ?_
            simp only [List.toList_toArray]
            repeat' (first
              | (refine det_shut (by rfl) ?_; (simp only [Act.put, List.setIfInBounds_toArray, List.set_cons_zero, List.set_cons_succ]))
              | (apply det_val; (case hw => rfl); (case hv => (intro w' hS; (obtain ⟨s0, s1, s2, s3, s4, s5⟩ := hS); go_simp; first | done | with_reducible exact rfl)); (simp only [Act.put, List.setIfInBounds_toArray, List.set_cons_zero, List.set_cons_succ]))
              | (apply det_call; (case hw => rfl); (case hv => (intro w' hS; (obtain ⟨s0, s1, s2, s3, s4, s5⟩ := hS); go_simp; first | done | with_reducible exact rfl | with_reducible exact ⟨rfl, rfl⟩)); (case hc => (intro w' hS; (first | (go_at_call 46; with_reducible exact (HCm.out w').mono (fun e w'' h => ⟨h.1, (PairAt.go hS h.2).2.2.2.2⟩))))); (simp only [Act.put, List.setIfInBounds_toArray, List.set_cons_zero, List.set_cons_succ]))
              | fail)
            intro w9 hS9
            have hr9 : w9.ownsRow B 54 2 (.slice (some ⟨g, 0, none⟩) n cap) n (cellsP R) := World.ownsRow.kept HRx.out (row := none) ⟨hS9.2.2.2.2.2.os, hS9.2.2.2.2.2.tape, hS9.2.2.2.2.2.output, hS9.2.2.2.2.2.size, fun k hk _ => hS9.2.2.2.2.2.block k hk⟩ (.inr (by simp [Value.ownBlock]))
            have hg9 : w.grownBy w9 (some g) := grown_trans HGx.out (below_grownR hS9.2.2.2.2.2)
            have hf := fun j => World.ownsRow.frozenAt hr9 j
            have z0 := hf ((m + 1) * 2)
            have z1 := hf ((m + 1) * 2 + 1)
            have z2 := hf (m * 2)
            have z3 := hf (m * 2 + 1)
            obtain ⟨s0, s1, s2, s3, s4, s5⟩ := hS9
            obtain ⟨hsw, hgw⟩ := rowP_swap (j := m) hmn hr9
            have n0 : ((m + 1) * 2 = m * 2) = False := eq_false (by omega)
            have n1 : ((m + 1) * 2 + 1 = m * 2) = False := eq_false (by omega)
            have n2 : ((m + 1) * 2 = m * 2 + 1) = False := eq_false (by omega)
            have n3 : (m * 2 = (m + 1) * 2) = False := eq_false (by omega)
            have n4 : (m * 2 = (m + 1) * 2 + 1) = False := eq_false (by omega)
            have n5 : (m * 2 + 1 = (m + 1) * 2) = False := eq_false (by omega)
            have HSw := Lib.hid hsw
            have HGw := Lib.hid hgw
            have HG9 := Lib.hid hg9
            clear hr9 hg9 hf hsw hgw hst c0 c1 c2 c3 s5
            go_upto_region 6 with (fail)
            go_region_law (fail)
            all_goals
              have e1 : strV (R[m]'(by omega)).1 = .string X := by rw [HYX.out.2]; rfl
              have e2 : strV R[m + 1].1 = .string Y := by rw [HYX.out.1]; rfl
              have hr10 := HSw.out
              have hg10 := HGw.out
              rw [e1, e2, HHy.out.1, HHy.out.2] at hr10 hg10
              have hr11 := hr10.drew
              have hg11 := grown_trans HG9.out hg10
              generalize (((w9.setCell ⟨g, (m + 1) * 2, none⟩ (.string X)).setCell ⟨g, (m + 1) * 2 + 1, none⟩ (.slice xa xn xc)).setCell ⟨g, m * 2, none⟩ (.string Y)).setCell ⟨g, m * 2 + 1, none⟩ (.slice ya yn yc) = W10 at hr11 hg11 ⊢
              have hg12 : w.grownBy W10.drew (some g) := ⟨hg11.os, hg11.tape, hg11.output, hg11.size, hg11.block⟩
              have hb12 : bubG (fun r => r.1) m (swapG R m) = srtG (fun r => r.1) (k + 1) P := by rw [← HBu.out, bubG_go hmn (by rw [← HIc.out]; exact hneg)]
              have HR12 := Lib.hid hr11
              have HG12 := Lib.hid hg12
              have HB12 := Lib.hid hb12
              have HL12 : Hid ((swapG R m).length = n) := Lib.hid (by rw [swapG_length]; exact HLn.out)
              have HV12 := Lib.hid (fun r (hr : r ∈ swapG R m) => HVr.out r (swapG_mem hr))
              clear e1 e2 hr10 hg10 hr11 hg11 hg12 hb12 s0 s1 s2 s3 z0 z1 z2 z3
              go_wp2
              go_roundw
              case rel => exact ⟨m, by omega, by first | rfl | go_num, swapG R m, HL12, HV12, HB12, HR12, HG12⟩
              case measure => simp [intOf]; omega
          · have t3 : decide (I < 0) = false := by simpa using hneg
            go_upto_region 4 with (fail)
            refine region_det (by kernel_rfl) (PairAt wr g ((m + 1) * 2) (m * 2) Y X (.slice ya yn yc) (.slice xa xn xc)) (hst) (by kernel_rfl) ?_
            simp only [List.toList_toArray]
            repeat' (first
              | (refine det_shut (by rfl) ?_; (simp only [Act.put, List.setIfInBounds_toArray, List.set_cons_zero, List.set_cons_succ]))
              | (apply det_val; (case hw => rfl); (case hv => (intro w' hS; (obtain ⟨s0, s1, s2, s3, s4, s5⟩ := hS); go_simp; first | done | with_reducible exact rfl)); (simp only [Act.put, List.setIfInBounds_toArray, List.set_cons_zero, List.set_cons_succ]))
              | (apply det_call; (case hw => rfl); (case hv => (intro w' hS; (obtain ⟨s0, s1, s2, s3, s4, s5⟩ := hS); go_simp; first | done | with_reducible exact rfl | with_reducible exact ⟨rfl, rfl⟩)); (case hc => (intro w' hS; (first | (go_at_call 46; with_reducible exact (HCm.out w').mono (fun e w'' h => ⟨h.1, (PairAt.go hS h.2).2.2.2.2⟩))))); (simp only [Act.put, List.setIfInBounds_toArray, List.set_cons_zero, List.set_cons_succ]))
              | fail)
            intro w9 hS9
            have hr9 : w9.ownsRow B 54 2 (.slice (some ⟨g, 0, none⟩) n cap) n (cellsP (srtG (fun r => r.1) (k + 1) P)) := by
              have hb := HBu.out
              rw [bubG_stop hmn (by rw [← HIc.out]; exact hneg)] at hb
              rw [← hb]
              exact World.ownsRow.kept HRx.out (row := none) ⟨hS9.2.2.2.2.2.os, hS9.2.2.2.2.2.tape, hS9.2.2.2.2.2.output, hS9.2.2.2.2.2.size, fun k hk _ => hS9.2.2.2.2.2.block k hk⟩ (.inr (by simp [Value.ownBlock]))
            have hg9 : w.grownBy w9 (some g) := grown_trans HGx.out (below_grownR hS9.2.2.2.2.2)
            have HR9 := Lib.hid hr9
            have HG9 := Lib.hid hg9
            clear hr9 hg9 hS9
            go_wp2
            go_roundw
            case rel => exact ⟨k + 1, .inl (by omega), by first | rfl | go_num, HR9, HG9⟩
            case measure => simp [intOf]; omega
    · have t1 : decide (((k + 1 : Nat) : Int) < (n : Int)) = false := by simp; omega
      have t1' : decide ((k : Int) + 1 < (n : Int)) = false := by simp; omega
      have hke : k = n - 1 := by omega
      go_wp2
      go_end0
      exact ⟨rfl, by rw [← hke]; exact HRk.out, HGk.out⟩
end Go.Proofs.YtlimajgmdhhggaaGreatDoor


namespace Go.Proofs.YtlimajgmdhhggaaGreatDoor
open Go.RowKit
set_option linter.unusedVariables false
set_option linter.unusedSimpArgs false

set_option maxRecDepth 100000 in
set_option maxHeartbeats 4000000 in
theorem stableR_any (n : Nat) (hl : n < 20) (sa : Option Addr) (sc : Nat) (w : World) (Q : World → Prop) (hi : Calls Tryz.prog 121 #[.slice sa n sc, .int .i64 0, .int .i64 n, .func (.func 46) #[] #[]] w fun e w' => e = .returned (.tuple #[]) ∧ Q w') :
    Calls Tryz.prog 85 #[.slice sa n sc, .int .i64 n, .func (.func 46) #[] #[]] w fun e w' => e = .returned (.tuple #[]) ∧ Q w' := by
  have HI := Lib.hid hi
  have t1 : decide ((20 : Int) ≤ (n : Int)) = false := by simp; omega
  have t1' : decide (20 ≤ n) = false := by simp; omega
  have t2 : decide ((20 : Int) < (n : Int)) = false := by simp; omega
  have t2' : decide (20 < n) = false := by simp; omega
  clear hi
  go_enter Tryz.func85, Tryz.ntmps85
  go_wp2
  go_loopw [7, 8] (fun a b wr => a = .int .i64 0 ∧ b = .int .i64 20 ∧ Hid (wr = w)) (fun a b wr => 1)
  case atStart => exact ⟨rfl, rfl, Lib.hid rfl⟩
  case round =>
    obtain ⟨rfl, rfl, hwr⟩ := hrel
    have hwr := hwr.out
    subst hwr
    go_wp2_with (go_at_call 121; refine (HI.out).mono ?_; rintro e w2 ⟨rfl, hb2⟩; have HB2 := Lib.hid hb2; clear hb2)
    go_loopw [6] (fun a wx => a = .int .i64 20 ∧ Hid (wx = w2)) (fun a wx => 1)
    case atStart => exact ⟨rfl, Lib.hid rfl⟩
    case round =>
      obtain ⟨rfl, hwr2⟩ := hrel
      have hwr2 := hwr2.out
      subst hwr2
      go_wp2
      go_end0
      exact ⟨rfl, HB2.out⟩

set_option maxRecDepth 100000 in
set_option maxHeartbeats 1000000 in
theorem sortedR_any (n : Nat) (hl : n < 20) (sa : Option Addr) (sc : Nat) (w : World) (Q : World → Prop) (hi : Calls Tryz.prog 121 #[.slice sa n sc, .int .i64 0, .int .i64 n, .func (.func 46) #[] #[]] w fun e w' => e = .returned (.tuple #[]) ∧ Q w') :
    Calls Tryz.prog 45 #[.slice sa n sc, .func (.func 46) #[] #[]] w fun e w' => e = .returned (.tuple #[]) ∧ Q w' := by
  have HI := Lib.hid (stableR_any n hl sa sc w Q hi)
  clear hi
  go_enter Tryz.func45, Tryz.ntmps45
  go_wp2_with (go_at_call 85; refine (HI.out).mono ?_; rintro e w2 ⟨rfl, hb2⟩; have HB2 := Lib.hid hb2; clear hb2)
  go_end0
  exact ⟨rfl, HB2.out⟩

theorem ownA_sort {B g n cap : Nat} {w w' : World} {L : List AT} {P : List PT} (hP : RowP B w (.slice (some ⟨g, 0, none⟩) n cap) P) (hs : Says B w (.slice (some ⟨g, 0, none⟩) n cap) P L) (hn : n = P.length)
    (hr : w'.ownsRow B 54 2 (.slice (some ⟨g, 0, none⟩) n cap) n (cellsP (srtG (fun r => r.1) (n - 1) P))) (hg : w.grownBy w' (some g)) : OwnA B w' (.slice (some ⟨g, 0, none⟩) n cap) (sortA L) := by
  have hPL := hs.1
  have hP1 : P = (P.zip L).map (fun z => z.1) := by
    have := List.map_fst_zip (l₁ := P) (l₂ := L) (by omega)
    exact this.symm
  have hL1 : L = (P.zip L).map (fun z => z.2) := by
    have := List.map_snd_zip (l₁ := P) (l₂ := L) (by omega)
    exact this.symm
  have hz : ∀ z ∈ P.zip L, ∃ (j : Nat) (h1 : j < L.length) (h2 : j < P.length), z = (P[j], L[j]) := fun z hm => by
    obtain ⟨j, hj, rfl⟩ := List.getElem_of_mem hm
    have hj' : j < P.length ∧ j < L.length := by rw [List.length_zip] at hj; omega
    exact ⟨j, hj'.2, hj'.1, List.getElem_zip⟩
  have e1 : srtG (fun r : PT => r.1) (n - 1) P = (srtG (fun z : PT × AT => z.1.1) (n - 1) (P.zip L)).map (fun z => z.1) := by
    rw [srtG_map (key' := fun r : PT => r.1) (fun z : PT × AT => z.1) (n - 1) (P.zip L) (fun _ _ => rfl), ← hP1]
  have e2 : sortA L = (srtG (fun z : PT × AT => z.1.1) (n - 1) (P.zip L)).map (fun z => z.2) := by
    unfold sortA
    rw [srtG_map (key' := fun a : AT => a.1) (fun z : PT × AT => z.2) (n - 1) (P.zip L) (fun z hm => by
      obtain ⟨j, h1, h2, rfl⟩ := hz z hm
      exact (hs.2 j h1 h2).1.symm), ← hL1, hn, hPL]
  refine ⟨srtG (fun r => r.1) (n - 1) P, ?_, ?_, fun j h1 h2 => ?_⟩
  · show w'.ownsRow B 54 2 (.slice (some ⟨g, 0, none⟩) n cap) (srtG (fun r => r.1) (n - 1) P).length (cellsP (srtG (fun r => r.1) (n - 1) P))
    rw [srtG_length, ← hn]
    exact hr
  · rw [e1, e2, List.length_map, List.length_map]
  · simp only [e1, e2, List.getElem_map]
    have hm := srtG_mem _ (List.getElem_mem (show j < (srtG (fun z : PT × AT => z.1.1) (n - 1) (P.zip L)).length by rw [e2, List.length_map] at h1; exact h1))
    obtain ⟨i, i1, i2, hi⟩ := hz _ hm
    rw [hi]
    obtain ⟨s1, s2⟩ := hs.2 i i1 i2
    refine ⟨s1, s2.imp (fun b hb => ⟨hb.1, Nat.lt_of_lt_of_le hb.2.1 hg.size, hb.2.2⟩) (fun b o hb => ?_)⟩
    have := hg.block b hb.2.1 hb.2.2
    simp only [World.cell?, this]
theorem sorted_own (B : Nat) (L : List AT) (hl : L.length < 20) (v : Value) (w : World) (hB : B ≤ w.heap.size) (h : OwnA B w v L) :
    Calls Tryz.prog 45 #[v, .func (.func 46) #[] #[]] w fun e w' => e = .returned (.tuple #[]) ∧ OwnA B w' v (sortA L) ∧ Below B w w' := by
  obtain ⟨P, hP, hs⟩ := id h
  by_cases hne : P = []
  · have hL : L = [] := List.eq_nil_of_length_eq_zero (by have := hs.1; rw [hne] at this; simpa using this.symm)
    subst hL
    have hA := ownA_isA h (by simp)
    exact (sorted_any [] (by simp) (fun i h => absurd h (by simp)) v w hA).mono fun e w' ⟨he, hb⟩ => ⟨he, ownA_below h hb, hb.mono hB⟩
  · obtain ⟨g, cap, rfl, hBg, hgl, _⟩ := rowP_at hP hne
    have hn : P.length < 20 := by rw [hs.1]; exact hl
    obtain ⟨n, hnn⟩ : ∃ n, n = P.length := ⟨_, rfl⟩
    rw [← hnn] at hP hs hn ⊢
    have hrow : w.ownsRow B 54 2 (.slice (some ⟨g, 0, none⟩) n cap) n (cellsP P) := by
      have hP' : w.ownsRow B 54 2 (.slice (some ⟨g, 0, none⟩) n cap) P.length (cellsP P) := hP
      rw [← hnn] at hP'
      exact hP'
    have hv : ∀ r ∈ P, ∃ a k c, r.2 = Value.slice a k c := fun r hr => by
      obtain ⟨j, hj, rfl⟩ := List.getElem_of_mem hr
      obtain ⟨a, c, e, _⟩ := (hs.2 j (by rw [← hs.1]; exact hj) hj).2
      exact ⟨a, _, c, e⟩
    have hi := insertR_any P B g n cap w hnn (by omega) hrow hv
    exact (sortedR_any n hn (some ⟨g, 0, none⟩) cap w _ hi).mono fun e w' ⟨he, hr, hg⟩ => ⟨he, ownA_sort hP hs hnn hr hg, ⟨hg.os, hg.tape, hg.output, hg.size, fun k hk => hg.block k (Nat.lt_of_lt_of_le hk hB) (fun e => by have := Option.some.inj e; omega)⟩⟩

end Go.Proofs.YtlimajgmdhhggaaGreatDoor


namespace Go.Proofs.YtlimajgmdhhggaaGreatDoor
open Go.RowKit
set_option linter.unusedVariables false

def likeB (t val x : List UInt8) : Bool := sameO (normD (ruleD t) x) (normD (ruleD t) val)
def hasA (L : List AT) (t val : List UInt8) : Bool := (findA L t).any (likeB t val)
set_option maxRecDepth 100000 in
set_option maxHeartbeats 2000000 in
theorem like_any (T V X : ByteArray) (b1 o1 b2 o2 : Nat) (w : World) (hw : LaidW w) (h1 : w.cell? ⟨b1, o1, none⟩ = some (.string T)) (h2 : w.cell? ⟨b2, o2, none⟩ = some (.string V)) :
    Calls Tryz.prog 55 #[.string X, .pointer (some ⟨b1, o1, none⟩), .pointer (some ⟨b2, o2, none⟩)] w fun e w' => e = .returned (.bool (likeB T.data.toList V.data.toList X.data.toList)) ∧ Below w.heap.size w w' := by
  have hs := same_any T X V w hw
  unfold likeB
  generalize sameO (normD (ruleD T.data.toList) X.data.toList) (normD (ruleD T.data.toList) V.data.toList) = r at hs ⊢
  have HS := Lib.hid hs
  clear hs
  go_enter Tryz.func55, Tryz.ntmps55
  go_wp2_with (go_at_call 56; refine (HS.out).mono ?_; rintro e w1 ⟨rfl, hb1⟩; have HB := Lib.hid hb1; clear hb1)
  go_ret
  exact ⟨rfl, HB.out⟩

set_option maxRecDepth 100000 in
set_option maxHeartbeats 2000000 in
theorem indexF_any (L : List (List UInt8)) (hs : L.length ≤ 1000000) (v : Value) (T V : ByteArray) (b1 o1 b2 o2 : Nat) (w : World) (hw : LaidW w) (h : IsT w.heap.size w L v) (h1 : w.cell? ⟨b1, o1, none⟩ = some (.string T)) (h2 : w.cell? ⟨b2, o2, none⟩ = some (.string V)) (g1 : b1 < w.heap.size) (g2 : b2 < w.heap.size) :
    Calls Tryz.prog 94 #[v, .func (.func 55) #[] #[.pointer (some ⟨b1, o1, none⟩), .pointer (some ⟨b2, o2, none⟩)]] w fun e w' => ∃ I : Int, e = .returned (.int .i64 I) ∧ decide (0 ≤ I) = L.any (likeB T.data.toList V.data.toList) ∧ Below w.heap.size w w' := by
  obtain ⟨a, c, rfl, hm, hcell⟩ := h
  unfold maxLen at hm
  have HC := Lib.hid hcell
  have H1 := Lib.hid h1
  have H2 := Lib.hid h2
  have HW := Lib.hid hw
  clear hcell h1 h2 hw
  go_enter Tryz.func94, Tryz.ntmps94
  go_wp2
  go_loopw [8] (fun i wr => ∃ j : Nat, j ≤ L.length ∧ i = .int .i64 j ∧ Hid (∀ k (hk : k < L.length), k < j → likeB T.data.toList V.data.toList L[k] = false) ∧ Below w.heap.size w wr) (fun i wr => L.length - (intOf i).toNat)
  case atStart => exact ⟨0, by omega, rfl, Lib.hid (fun k _ h => absurd h (by omega)), Below.refl _ _⟩
  case round =>
    obtain ⟨j, hj, rfl, HNo, hbel⟩ := hrel
    have HBel := Lib.hid hbel
    have hbs := hbel.size
    by_cases hlt : j < L.length
    · have t1 : decide ((j : Int) < (L.length : Int)) = true := by simp; omega
      have t1' : decide (j < L.length) = true := by simpa using hlt
      obtain ⟨b, off, rfl, hb0, c0⟩ := HC.out j hlt
      obtain ⟨X, hX⟩ : ∃ X : ByteArray, ⟨L[j].toArray⟩ = X := ⟨_, rfl⟩
      have hXl : X.data.toList = L[j] := by rw [← hX]
      have d0 : (wr.cell? ⟨b, off + j, none⟩) = some (.string X) := by
        rw [hbel.cell (p := ⟨b, _, none⟩) hb0, c0, ← hX]; rfl
      have hab := like_any T V X b1 o1 b2 o2 wr (HW.out.below hbel) ((hbel.cell (p := ⟨b1, o1, none⟩) g1).trans H1.out) ((hbel.cell (p := ⟨b2, o2, none⟩) g2).trans H2.out)
      rw [hXl] at hab
      obtain ⟨g, hg⟩ : ∃ g, likeB T.data.toList V.data.toList L[j] = g := ⟨_, rfl⟩
      rw [hg] at hab
      have HAb := Lib.hid hab
      have HG := Lib.hid hg
      clear hX hXl c0 hab hbel hg
      cases g with
      | true =>
        have HR : Hid (L.any (likeB T.data.toList V.data.toList) = true) := Lib.hid (List.any_eq_true.2 ⟨L[j], List.getElem_mem _, HG.out⟩)
        go_wp2_with (go_at_call 55; refine (HAb.out).mono ?_; rintro e w2 ⟨rfl, hb2⟩; have HB2 := Lib.hid (HBel.out.trans (hb2.mono hbs)); clear hb2)
        go_ret
        exact ⟨_, rfl, by rw [HR.out]; simp, HB2.out⟩
      | false =>
        have HN : Hid (∀ k (hk : k < L.length), k < j + 1 → likeB T.data.toList V.data.toList L[k] = false) := Lib.hid (fun k h1 h3 => by
            by_cases hk : k < j
            · exact HNo.out k h1 hk
            · obtain rfl : k = j := by omega
              exact HG.out)
        go_wp2_with (go_at_call 55; refine (HAb.out).mono ?_; rintro e w2 ⟨rfl, hb2⟩; have HB2 := Lib.hid (HBel.out.trans (hb2.mono hbs)); clear hb2)
        go_roundw
        case rel => exact ⟨j + 1, by omega, by go_num, HN, HB2.out⟩
        case measure => simp [intOf]; omega
    · obtain rfl : j = L.length := by omega
      have t1 : decide ((L.length : Int) < (L.length : Int)) = false := by simp
      have t1' : decide (L.length < L.length) = false := by simp
      have HR : Hid (L.any (likeB T.data.toList V.data.toList) = false) := Lib.hid (List.any_eq_false.2 (fun x hx => by
        obtain ⟨k, hk, rfl⟩ := List.getElem_of_mem hx
        simpa using HNo.out k hk hk))
      clear hbel
      go_wp2
      go_ret
      exact ⟨_, rfl, by rw [HR.out]; rfl, HBel.out⟩

theorem boxH2 (w : World) (o : Obj) (T V : ByteArray) : (((w.alloc o).alloc (.cells #[.string T] 9)).alloc (.cells #[.string V] 9)).cell? ⟨w.heap.size + 2, 0, none⟩ = some (.string V) := by
  have h : (((w.alloc o).alloc (.cells #[.string T] 9)).alloc (.cells #[.string V] 9)).heap[w.heap.size + 2]? = some (.cells #[.string V] 9 (0, 0)) := by
    have := heap_alloc_new ((w.alloc o).alloc (.cells #[.string T] 9)) (.cells #[.string V] 9)
    simpa only [World.size_alloc] using this
  simp only [World.cell?, h]; rfl
theorem boxH1 (w : World) (o : Obj) (T V : ByteArray) : (((w.alloc o).alloc (.cells #[.string T] 9)).alloc (.cells #[.string V] 9)).cell? ⟨w.heap.size + 1, 0, none⟩ = some (.string T) := by
  have h0 : ((w.alloc o).alloc (.cells #[.string T] 9)).heap[w.heap.size + 1]? = some (.cells #[.string T] 9 (0, 0)) := by
    have := heap_alloc_new (w.alloc o) (.cells #[.string T] 9)
    simpa only [World.size_alloc] using this
  have h : (((w.alloc o).alloc (.cells #[.string T] 9)).alloc (.cells #[.string V] 9)).heap[w.heap.size + 1]? = some (.cells #[.string T] 9 (0, 0)) := by
    rw [heap_alloc_old _ _ (by simp)]; exact h0
  simp only [World.cell?, h]; rfl

set_option maxRecDepth 100000 in
set_option maxHeartbeats 2000000 in
theorem containsF_any (L : List (List UInt8)) (hs : L.length ≤ 1000000) (v : Value) (T V : ByteArray) (b1 o1 b2 o2 : Nat) (w : World) (hw : LaidW w) (h : IsT w.heap.size w L v) (h1 : w.cell? ⟨b1, o1, none⟩ = some (.string T)) (h2 : w.cell? ⟨b2, o2, none⟩ = some (.string V)) (g1 : b1 < w.heap.size) (g2 : b2 < w.heap.size) :
    Calls Tryz.prog 54 #[v, .func (.func 55) #[] #[.pointer (some ⟨b1, o1, none⟩), .pointer (some ⟨b2, o2, none⟩)]] w fun e w' => e = .returned (.bool (L.any (likeB T.data.toList V.data.toList))) ∧ Below w.heap.size w w' := by
  have hc := indexF_any L hs v T V b1 o1 b2 o2 w hw h h1 h2 g1 g2
  obtain ⟨R, hR⟩ : ∃ R, R = L.any (likeB T.data.toList V.data.toList) := ⟨_, rfl⟩
  rw [← hR] at hc ⊢
  obtain ⟨sa, sc, hv, _⟩ := id h
  obtain ⟨sn, hsn⟩ : ∃ n, n = L.length := ⟨_, rfl⟩
  rw [← hsn] at hv
  subst hv
  have HC := Lib.hid hc
  clear hc hR hsn h h1 h2 hw
  go_enter Tryz.func54, Tryz.ntmps54
  go_wp2_with (go_at_call 94; refine (HC.out).mono ?_; rintro e w2 ⟨I, rfl, hI, hb2⟩; have HB2 := Lib.hid hb2; clear hb2)
  go_ret
  exact ⟨rfl, HB2.out⟩

set_option maxRecDepth 100000 in
set_option maxHeartbeats 2000000 in
theorem has_any (d T V : ByteArray) (L : List AT) (hs : smallA L) (v : Value) (w : World) (hw : LaidW w) (h : IsA w.heap.size w L v) :
    Calls Tryz.prog 18 #[.agg #[.string d, v], .string T, .string V] w fun e w' => e = .returned (.bool (hasA L T.data.toList V.data.toList)) ∧ Below w.heap.size w w' := by
  have hmf : ∀ (fn : Fn) (first cap : Array Value) (w : World), (Instr.makeFunc fn first cap).run Tryz.prog w = .ok (.func fn first cap) w := fun _ _ _ _ => rfl
  have hf : (findA L T.data.toList).length ≤ 1000000 := by
    unfold findA
    split
    · rename_i a ha
      have := ((hs.2 a (List.mem_of_find?_eq_some ha)).2).1
      omega
    · simp
  have hR : hasA L T.data.toList V.data.toList = (findA L T.data.toList).any (likeB T.data.toList V.data.toList) := rfl
  obtain ⟨R, hRR⟩ : ∃ R, R = hasA L T.data.toList V.data.toList := ⟨_, rfl⟩
  rw [← hRR] at hR ⊢
  have HR := Lib.hid hR
  have HF := Lib.hid hf
  have HS := Lib.hid hs
  have HI := Lib.hid h
  have HW := Lib.hid hw
  obtain ⟨sa, sc, hv, _⟩ := id h
  obtain ⟨sn, hsn⟩ : ∃ n, n = L.length := ⟨_, rfl⟩
  rw [← hsn] at hv
  subst hv
  have hb0 : Below w.heap.size w (((w.alloc (.cells #[.string d, .slice sa sn sc] 24)).alloc (.cells #[.string T] 9)).alloc (.cells #[.string V] 9)) := (((Below.refl _ _).alloc (Nat.le_refl _) _).alloc (by simp) _).alloc (by simp; omega) _
  have HB0 := Lib.hid hb0
  clear hf hs h hsn hw hR hRR hb0
  go_enter Tryz.func18, Tryz.ntmps18
  go_wp2_with (first
    | (go_at_call 52; refine (find_any L HS.out (.slice sa sn sc) T _ (HI.out.below HB0.out HB0.out.size)).mono ?_; rintro e w2 ⟨u, rfl, hu, hb2⟩; have f1 : w2.cell? ⟨w.heap.size + 1, 0, none⟩ = some (.string T) := (hb2.cell (p := ⟨w.heap.size + 1, 0, none⟩) (by simp)).trans (boxH1 w _ T V); have f2 : w2.cell? ⟨w.heap.size + 2, 0, none⟩ = some (.string V) := (hb2.cell (p := ⟨w.heap.size + 2, 0, none⟩) (by simp)).trans (boxH2 w _ T V); have HU := Lib.hid (hu.below hb2 hb2.size); have HB := Lib.hid (HB0.out.trans (hb2.mono HB0.out.size)); have hz2 := hb2.size; (simp only [World.size_alloc] at hz2); clear hu hb2)
    | (go_at_call 54; refine (containsF_any _ HF.out _ T V (w.heap.size + 1) 0 (w.heap.size + 2) 0 _ (HW.out.below HB.out) HU.out f1 f2 (by omega) (by omega)).mono ?_; rintro e w3 ⟨he, hb3⟩; rw [← HR.out] at he; subst he; have HB := Lib.hid (bthen HB.out hb3); clear hb3))
  go_ret
  exact ⟨rfl, HB.out⟩
end Go.Proofs.YtlimajgmdhhggaaGreatDoor


namespace Go.Proofs.YtlimajgmdhhggaaGreatDoor
open Go.RowKit
set_option linter.unusedVariables false

def MapAt (f : UInt8 → UInt8) (w : World) (s : ByteArray) (j : Nat) (wr : World) : Prop :=
  Below w.heap.size w wr ∧ ∃ A : Array Value, wr.heap[w.heap.size]? = some (.cells A 5 (A.size, A.size + 1)) ∧ s.size ≤ A.size ∧ ∀ k (h : k < s.size), A[k]? = some (.int .u8 ((if k < j then f s[k] else s[k]).toNat : Int))

theorem MapAt.cell {f : UInt8 → UInt8} {w wr : World} {s : ByteArray} {j : Nat} (h : MapAt f w s j wr) (hj : j < s.size) : wr.cell? ⟨w.heap.size, j, none⟩ = some (.int .u8 (s[j].toNat : Int)) ∧ wr.frozen? ⟨w.heap.size, j, none⟩ = false := by
  obtain ⟨_, A, hA, hs, hc⟩ := h
  have := hc j hj
  rw [if_neg (by omega)] at this
  refine ⟨by simp only [World.cell?, hA]; simpa using this, by simp only [World.frozen?, hA]; simp; omega⟩
theorem MapAt.skip {f : UInt8 → UInt8} {w wr : World} {s : ByteArray} {j : Nat} (h : MapAt f w s j wr) (hj : j < s.size) (he : f s[j] = s[j]) : MapAt f w s (j + 1) wr := by
  obtain ⟨hb, A, hA, hs, hc⟩ := h
  refine ⟨hb, A, hA, hs, fun k hk => ?_⟩
  rw [hc k hk]
  by_cases h1 : k < j
  · rw [if_pos h1, if_pos (by omega)]
  · rw [if_neg h1]
    by_cases h2 : k = j
    · subst h2; rw [if_pos (by omega), he]
    · rw [if_neg (by omega)]
theorem MapAt.store {f : UInt8 → UInt8} {w wr : World} {s : ByteArray} {j : Nat} (h : MapAt f w s j wr) (hj : j < s.size) (n : Int) (hn : n = ((f s[j]).toNat : Int)) : MapAt f w s (j + 1) (wr.setCell ⟨w.heap.size, j, none⟩ (.int .u8 n)) := by
  subst hn
  obtain ⟨hb, A, hA, hs, hc⟩ := h
  refine ⟨hb.setCell (p := ⟨w.heap.size, j, none⟩) (Nat.le_refl _) _, A.setIfInBounds j (.int .u8 (f s[j]).toNat), ?_, by simpa using hs, fun k hk => ?_⟩
  · obtain ⟨hlt, hv⟩ := Array.getElem?_eq_some_iff.1 hA
    show (wr.heap.modify w.heap.size _)[w.heap.size]? = _
    rw [Array.getElem?_eq_getElem (by rw [Array.size_modify]; exact hlt), Array.getElem_modify_self, hv]
    simp
  · rw [Array.getElem?_setIfInBounds]
    by_cases h2 : j = k
    · subst h2; rw [if_pos rfl, if_pos (by omega), if_pos (by omega)]
    · rw [if_neg h2, hc k hk]
      by_cases h1 : k < j
      · rw [if_pos h1, if_pos (by omega)]
      · rw [if_neg h1, if_neg (by omega)]
theorem MapAt.conv {f : UInt8 → UInt8} {w wr : World} {s : ByteArray} {cap : Nat} (h : MapAt f w s s.size wr) :
    (convert 43 9 (.slice (some ⟨w.heap.size, 0, none⟩) s.size cap)).run Tryz.prog wr = .ok (.string ⟨(s.data.toList.map f).toArray⟩) wr := by
  obtain ⟨_, A, hA, hs, hc⟩ := h
  have hl : s.size = (s.data.toList.map f).length := by simp
  conv => lhs; rw [hl]
  refine run_convert_bytes_back wr 43 9 5 _ cap (s.data.toList.map f) Tryz.underlying43 Tryz.underlying5 Tryz.underlying9 fun j hj => ?_
  have hj' : j < s.size := by rw [hl]; exact hj
  have e : ((⟨w.heap.size, 0, none⟩ : Addr).add j) = ⟨w.heap.size, j, none⟩ := by simp [Addr.add]; omega
  have := hc j hj'
  rw [if_pos hj'] at this
  rw [e]
  simp only [World.cell?, hA]
  simp
  exact this


def upC (c : UInt8) : UInt8 := if 97 ≤ c.toNat ∧ c.toNat ≤ 122 then UInt8.ofNat (c.toNat - 32) else c
def upL (l : List UInt8) : List UInt8 := l.map upC
end Go.Proofs.YtlimajgmdhhggaaGreatDoor


namespace Go.Proofs.YtlimajgmdhhggaaGreatDoor
open Go.RowKit
set_option linter.unusedVariables false

def LaidF (w : World) : Prop := Lib.TabIs Tryz.prog w "strings.asciiSpace" .u8 Lib.asciiSpaceTab
theorem LaidF.below {w w' : World} (h : LaidF w) (hb : Below w.heap.size w w') : LaidF w' := Joins.tab_stays (g := 1) (by kernel_rfl) h hb (Nat.le_refl _)

def plainB (l : List UInt8) : Bool := l.all (fun b => decide (b.toNat < 128)) && decide (l.length < 1000)
abbrev New (B : Nat) (w : World) (b : Nat) : Prop := B ≤ b ∧ b < w.heap.size
def rowCells : Array Value := #[.string { data := #[116, 111, 112] }, .string { data := #[] }, .bool false, .string { data := #[111, 98, 106, 101, 99, 116, 99, 108, 97, 115, 115] }, .string { data := #[] }, .string { data := #[111, 114, 103, 97, 110, 105, 122, 97, 116, 105, 111, 110] }, .string { data := #[116, 111, 112] }, .bool true, .string { data := #[111] }, .string { data := #[100, 101, 115, 99, 114, 105, 112, 116, 105, 111, 110] }, .string { data := #[111, 114, 103, 97, 110, 105, 122, 97, 116, 105, 111, 110, 97, 108, 117, 110, 105, 116] }, .string { data := #[116, 111, 112] }, .bool true, .string { data := #[111, 117] }, .string { data := #[100, 101, 115, 99, 114, 105, 112, 116, 105, 111, 110] }, .string { data := #[112, 101, 114, 115, 111, 110] }, .string { data := #[116, 111, 112] }, .bool true, .string { data := #[99, 110, 32, 115, 110] }, .string { data := #[100, 101, 115, 99, 114, 105, 112, 116, 105, 111, 110, 32, 117, 115, 101, 114, 112, 97, 115, 115, 119, 111, 114, 100] }, .string { data := #[105, 110, 101, 116, 111, 114, 103, 112, 101, 114, 115, 111, 110] }, .string { data := #[112, 101, 114, 115, 111, 110] }, .bool true, .string { data := #[] }, .string { data := #[117, 105, 100, 32, 109, 97, 105, 108] }, .string { data := #[112, 111, 115, 105, 120] }, .string { data := #[116, 111, 112] }, .bool false, .string { data := #[117, 105, 100, 32, 117, 105, 100, 110, 117, 109, 98, 101, 114] }, .string { data := #[] }, .string { data := #[103, 114, 111, 117, 112, 111, 102, 110, 97, 109, 101, 115] }, .string { data := #[116, 111, 112] }, .bool true, .string { data := #[99, 110, 32, 109, 101, 109, 98, 101, 114] }, .string { data := #[100, 101, 115, 99, 114, 105, 112, 116, 105, 111, 110] }]
def rowsV : Value := .agg rowCells
def rowV (c : CT) : Value := .agg #[strV c.name, strV c.sup, .bool c.st, strV c.must, strV c.may]
def noC : Value := .agg #[.string ⟨#[]⟩, .string ⟨#[]⟩, .bool false, .slice none 0 0, .slice none 0 0]

theorem cell_ne (w : World) (a : Addr) (x : Value) {b : Nat} (o : Nat) (h : b ≠ a.block) : (w.setCell a x).cell? ⟨b, o, none⟩ = w.cell? ⟨b, o, none⟩ := by
  have : (w.setCell a x).heap[b]? = w.heap[b]? := by
    unfold World.setCell
    simp [Array.getElem?_modify, Ne.symm h]
  simp only [World.cell?, this]
abbrev set5 (w : World) (b : Nat) (x0 x1 x2 x3 x4 : Value) : World := ((((w.setCell ⟨b, 0, none⟩ x0).setCell ⟨b, 1, none⟩ x1).setCell ⟨b, 2, none⟩ x2).setCell ⟨b, 3, none⟩ x3).setCell ⟨b, 4, none⟩ x4
theorem set5_cell (w : World) (b : Nat) (x0 x1 x2 x3 x4 : Value) {k : Nat} (o : Nat) (h : k ≠ b) : (set5 w b x0 x1 x2 x3 x4).cell? ⟨k, o, none⟩ = w.cell? ⟨k, o, none⟩ := by
  simp only [set5]
  rw [cell_ne _ ⟨b, 4, none⟩ _ o h, cell_ne _ ⟨b, 3, none⟩ _ o h, cell_ne _ ⟨b, 2, none⟩ _ o h, cell_ne _ ⟨b, 1, none⟩ _ o h, cell_ne _ ⟨b, 0, none⟩ _ o h]
theorem set5_below {n b : Nat} {w w' : World} (h : Below n w w') (hb : n ≤ b) (x0 x1 x2 x3 x4 : Value) : Below n w (set5 w' b x0 x1 x2 x3 x4) :=
  ((((h.setCell (p := ⟨b, 0, none⟩) hb _).setCell (p := ⟨b, 1, none⟩) hb _).setCell (p := ⟨b, 2, none⟩) hb _).setCell (p := ⟨b, 3, none⟩) hb _).setCell (p := ⟨b, 4, none⟩) hb _
theorem set5_size (w : World) (b : Nat) (x0 x1 x2 x3 x4 : Value) : (set5 w b x0 x1 x2 x3 x4).heap.size = w.heap.size := by simp [set5, World.setCell]
def BoxC (w : World) (b : Nat) (x0 x1 x2 x3 x4 : Value) : Prop := w.heap[b]? = some (.cells #[x0, x1, x2, x3, x4] 186 (0, 0))
theorem BoxC.below {w w' : World} {b n : Nat} {x0 x1 x2 x3 x4 : Value} (h : BoxC w b x0 x1 x2 x3 x4) (hb : Below n w w') (hn : b < n) : BoxC w' b x0 x1 x2 x3 x4 := (hb.block b hn).trans h
theorem BoxC.cells {w : World} {b : Nat} {x0 x1 x2 x3 x4 : Value} (h : BoxC w b x0 x1 x2 x3 x4) : w.cell? ⟨b, 0, none⟩ = some x0 ∧ w.cell? ⟨b, 1, none⟩ = some x1 ∧ w.cell? ⟨b, 2, none⟩ = some x2 ∧ w.cell? ⟨b, 3, none⟩ = some x3 ∧ w.cell? ⟨b, 4, none⟩ = some x4 := by
  unfold BoxC at h
  simp [World.cell?, h]
theorem BoxC.frozen {w : World} {b : Nat} {x0 x1 x2 x3 x4 : Value} (h : BoxC w b x0 x1 x2 x3 x4) : w.frozen? ⟨b, 0, none⟩ = false ∧ w.frozen? ⟨b, 1, none⟩ = false ∧ w.frozen? ⟨b, 2, none⟩ = false ∧ w.frozen? ⟨b, 3, none⟩ = false ∧ w.frozen? ⟨b, 4, none⟩ = false := by
  unfold BoxC at h
  simp [World.frozen?, h]
theorem BoxC.store {w : World} {b : Nat} {x0 x1 x2 x3 x4 : Value} (h : BoxC w b x0 x1 x2 x3 x4) (y0 y1 y2 y3 y4 : Value) : BoxC (set5 w b y0 y1 y2 y3 y4) b y0 y1 y2 y3 y4 := by
  unfold BoxC at h ⊢
  simp [set5, World.setCell, Array.getElem?_modify, h]

end Go.Proofs.YtlimajgmdhhggaaGreatDoor


namespace Go.Proofs.YtlimajgmdhhggaaGreatDoor
open Go.RowKit
set_option linter.unusedVariables false

end Go.Proofs.YtlimajgmdhhggaaGreatDoor


namespace Go.Proofs.YtlimajgmdhhggaaGreatDoor
open Go.RowKit
set_option linter.unusedVariables false

def FindW (w : World) (o : Option CT) (e : Ending) (w' : World) : Prop := Below w.heap.size w w' ∧ match o with
  | none => e = .returned (.tuple #[noC, .bool false])
  | some c => ∃ u1 u2, e = .returned (.tuple #[.agg #[strV c.name, strV c.sup, .bool c.st, u1, u2], .bool true]) ∧ IsTo (New w.heap.size w') w' c.mustL u1 ∧ IsTo (New w.heap.size w') w' c.mayL u2

end Go.Proofs.YtlimajgmdhhggaaGreatDoor


namespace Go.Proofs.YtlimajgmdhhggaaGreatDoor
open Go.RowKit
set_option linter.unusedVariables false

def ClsW (w : World) (o : Option (List CT × Bool)) (e : Ending) (w' : World) : Prop := Below w.heap.size w w' ∧ match o with
  | none => e = .returned (.tuple #[.slice none 0 0, .bool false])
  | some p => ∃ g v, e = .returned (.tuple #[v, .bool p.2]) ∧ OwnK w.heap.size g w' v p.1

def AtC (B : Nat) (w : World) (l : Value) (g : Nat) (o : Option CT) : Prop := (g < w.heap.size ∧ some g ≠ l.ownBlock ∧ B ≤ g) ∧ ∃ x0 x1 x2 u1 u2, BoxC w g x0 x1 x2 u1 u2 ∧ match o with
  | none => True
  | some c => x0 = strV c.name ∧ x1 = strV c.sup ∧ x2 = .bool c.st ∧ IsTo (Apart B g w l) w c.mustL u1 ∧ IsTo (Apart B g w l) w c.mayL u2
def restC : Option CT → List CT
  | none => []
  | some c => c :: chainC 3 c.sup
theorem block_ne (w : World) (a : Addr) (x : Value) {b : Nat} (h : b ≠ a.block) : (w.setCell a x).heap[b]? = w.heap[b]? := by
  unfold World.setCell
  simp [Array.getElem?_modify, Ne.symm h]
theorem set5_block (w : World) (g : Nat) (x0 x1 x2 x3 x4 : Value) {b : Nat} (h : b ≠ g) : (set5 w g x0 x1 x2 x3 x4).heap[b]? = w.heap[b]? := by
  simp only [set5]
  rw [block_ne _ ⟨g, 4, none⟩ _ h, block_ne _ ⟨g, 3, none⟩ _ h, block_ne _ ⟨g, 2, none⟩ _ h, block_ne _ ⟨g, 1, none⟩ _ h, block_ne _ ⟨g, 0, none⟩ _ h]
theorem grown_set5 (w : World) (g : Nat) (x0 x1 x2 x3 x4 : Value) : w.grownBy (set5 w g x0 x1 x2 x3 x4) (some g) :=
  have hb := set5_below (Below.refl 0 w) (Nat.zero_le g) x0 x1 x2 x3 x4
  ⟨hb.os, hb.tape, hb.output, hb.size, fun k hk hne => set5_block w g x0 x1 x2 x3 x4 (fun e => hne (by rw [e]))⟩
theorem OwnK.store {B g : Nat} {w : World} {v : Value} {L : List CT} (h : OwnK B g w v L) (hg : v.ownBlock ≠ some g) (x0 x1 x2 x3 x4 : Value) : OwnK B g (set5 w g x0 x1 x2 x3 x4) v L := by
  obtain ⟨P, h0, h1, h2⟩ := h
  refine ⟨P, h0, World.ownsRow.kept h1 (grown_set5 w g x0 x1 x2 x3 x4) (.inr hg), fun j hj => ⟨(h2 j hj).1.imp (fun b hk => ⟨hk.1, by rw [set5_size]; exact hk.2.1, hk.2.2⟩) (fun b o hk => set5_cell w g x0 x1 x2 x3 x4 o hk.2.2.2), (h2 j hj).2.imp (fun b hk => ⟨hk.1, by rw [set5_size]; exact hk.2.1, hk.2.2⟩) (fun b o hk => set5_cell w g x0 x1 x2 x3 x4 o hk.2.2.2)⟩⟩
end Go.Proofs.YtlimajgmdhhggaaGreatDoor


namespace Go.Proofs.YtlimajgmdhhggaaGreatDoor
open Go.RowKit
set_option linter.unusedVariables false

def IsTT (n0 : Nat) (w : World) (U : List (List (List UInt8))) (v : Value) : Prop := ∃ a c, v = .slice a U.length c ∧ ∀ j, (h : j < U.length) → ∃ b off u, a = some ⟨b, off, none⟩ ∧ b < n0 ∧ w.cell? ⟨b, off + j, none⟩ = some u ∧ IsT n0 w U[j] u

end Go.Proofs.YtlimajgmdhhggaaGreatDoor


namespace Go.Proofs.YtlimajgmdhhggaaGreatDoor
open Go.RowKit
set_option linter.unusedVariables false

def Box1 (w : World) (b : Nat) (x : Value) : Prop := w.cell? ⟨b, 0, none⟩ = some x
theorem Box1.below {w w' : World} {b n : Nat} {x : Value} (h : Box1 w b x) (hb : Below n w w') (hn : b < n) : Box1 w' b x := (hb.cell (p := ⟨b, 0, none⟩) hn).trans h
end Go.Proofs.YtlimajgmdhhggaaGreatDoor


namespace Go.Proofs.YtlimajgmdhhggaaGreatDoor
open Go.RowKit
set_option linter.unusedVariables false

end Go.Proofs.YtlimajgmdhhggaaGreatDoor


namespace Go.Proofs.YtlimajgmdhhggaaGreatDoor
open Go.RowKit
set_option linter.unusedVariables false

def BoxN (w : World) (b : Nat) (x : ByteArray) (u : Value) : Prop := w.heap[b]? = some (.cells #[.string x, u] 24 (0, 0))
theorem BoxN.below {w w' : World} {b n : Nat} {x : ByteArray} {u : Value} (h : BoxN w b x u) (hb : Below n w w') (hn : b < n) : BoxN w' b x u := (hb.block b hn).trans h
theorem BoxN.cells {w : World} {b : Nat} {x : ByteArray} {u : Value} (h : BoxN w b x u) : w.cell? ⟨b, 0, none⟩ = some (.string x) ∧ w.cell? ⟨b, 1, none⟩ = some u := by
  unfold BoxN at h
  simp [World.cell?, h]
theorem boxN_new (w : World) (x : ByteArray) (u : Value) : BoxN (w.alloc (.cells #[.string x, u] 24)) w.heap.size x u := heap_alloc_new w _

def soundS (A : List AT) : Prop := ∀ a ∈ A, a.2.length ≤ 40 ∧ ∀ v ∈ a.2, v.length ≤ 100
end Go.Proofs.YtlimajgmdhhggaaGreatDoor


namespace Go.Proofs.YtlimajgmdhhggaaGreatDoor
open Go.RowKit
set_option linter.unusedVariables false

def perL (n : List UInt8) : List AT := [([99, 110], [n]), ([111, 98, 106, 101, 99, 116, 99, 108, 97, 115, 115], [[112, 101, 114, 115, 111, 110]]), ([115, 110], [[115]])]
def perD (n : List UInt8) : List UInt8 := [99, 110, 61] ++ n ++ [44, 111, 61, 120]

structure PerAt (w : World) (g : Nat) (N : ByteArray) : Prop where
  b1 : w.heap[g - 3]? = some (.cells #[.string N] 9 (0, 0))
  b2 : w.heap[g - 2]? = some (.cells #[.string ⟨#[112, 101, 114, 115, 111, 110]⟩] 9 (0, 0))
  b3 : w.heap[g - 1]? = some (.cells #[.string ⟨#[115]⟩] 9 (0, 0))
  b4 : w.heap[g]? = some (.cells #[.string ⟨#[99, 110]⟩, .slice (some ⟨g - 3, 0, none⟩) 1 1, .string ⟨#[111, 98, 106, 101, 99, 116, 99, 108, 97, 115, 115]⟩, .slice (some ⟨g - 2, 0, none⟩) 1 1, .string ⟨#[115, 110]⟩, .slice (some ⟨g - 1, 0, none⟩) 1 1] 54 (0, 0))
  lt : g < w.heap.size
theorem PerAt.below {w w' : World} {g n : Nat} {N : ByteArray} (h : PerAt w g N) (hb : Below n w w') (hn : g < n) : PerAt w' g N :=
  ⟨(hb.block _ (by omega)).trans h.b1, (hb.block _ (by omega)).trans h.b2, (hb.block _ (by omega)).trans h.b3, (hb.block _ hn).trans h.b4, Nat.lt_of_lt_of_le h.lt hb.size⟩
theorem PerAt.cells {w : World} {g : Nat} {N : ByteArray} (h : PerAt w g N) : w.cell? ⟨g, 2, none⟩ = some (.string ⟨#[111, 98, 106, 101, 99, 116, 99, 108, 97, 115, 115]⟩) ∧ w.cell? ⟨g, 3, none⟩ = some (.slice (some ⟨g - 2, 0, none⟩) 1 1) ∧ w.cell? ⟨g, 4, none⟩ = some (.string ⟨#[115, 110]⟩) ∧ w.cell? ⟨g, 5, none⟩ = some (.slice (some ⟨g - 1, 0, none⟩) 1 1) :=
  ⟨by simp only [World.cell?, h.b4]; rfl, by simp only [World.cell?, h.b4]; rfl, by simp only [World.cell?, h.b4]; rfl, by simp only [World.cell?, h.b4]; rfl⟩
end Go.Proofs.YtlimajgmdhhggaaGreatDoor


namespace Go.Proofs.YtlimajgmdhhggaaGreatDoor
open Go.RowKit
set_option linter.unusedVariables false

end Go.Proofs.YtlimajgmdhhggaaGreatDoor


namespace Go.Proofs.YtlimajgmdhhggaaGreatDoor
open Go.RowKit
set_option linter.unusedVariables false

end Go.Proofs.YtlimajgmdhhggaaGreatDoor


namespace Go.Proofs.YtlimajgmdhhggaaGreatDoor
open Go.RowKit
set_option linter.unusedVariables false

def codeL : List Int := [17, 19, 21, 19, 20, 20]
def badL : List AT := [([110, 111, 110, 101], [[120]]), ([100, 101, 115, 99, 114, 105, 112, 116, 105, 111, 110], []), ([117, 105, 100, 110, 117, 109, 98, 101, 114], [[120]]), ([117, 105, 100, 110, 117, 109, 98, 101, 114], [[49], [50]]), ([109, 97, 105, 108], [[97], [65, 32]]), ([67, 78], [[122]])]
def othD : List UInt8 := [99, 110, 61, 111, 116, 104, 101, 114]
def pName (d : List UInt8) : List UInt8 := 112 :: d
def ouA : AT := ([111, 117], [[97]])
end Go.Proofs.YtlimajgmdhhggaaGreatDoor


namespace Go.Proofs.YtlimajgmdhhggaaGreatDoor
open Go.RowKit
set_option linter.unusedVariables false

theorem conv_one (m : Int) (b : UInt8) (h : (b.toNat : Int) = m) (w : World) : (convert 43 9 (.slice (some ⟨w.heap.size, 0, none⟩) 1 1)).run Tryz.prog (w.alloc (.cells #[.int .u8 m] 5)) = .ok (.string (ofL [b])) (w.alloc (.cells #[.int .u8 m] 5)) := by
  subst h
  refine run_convert_bytes_back _ 43 9 5 _ 1 [b] Tryz.underlying43 Tryz.underlying5 Tryz.underlying9 fun j hj => ?_
  have : j = 0 := by simp at hj; omega
  subst this
  simp [Addr.add]
theorem decDigits_big {u : Nat} (h : 10 ≤ u) : Lib.decDigits u = Lib.decDigits (u / 10) ++ [UInt8.ofNat (48 + u % 10)] := by rw [Lib.decDigits, dif_neg (by omega)]
theorem digit_val (u : Nat) : ((UInt8.ofNat (48 + u % 10)).toNat : Int) = 48 + (u : Int) % 10 := by simp; omega
theorem digit_val1 (u : Nat) (h : u < 10) : ((UInt8.ofNat (48 + u)).toNat : Int) = 48 + (u : Int) := by simp; omega

theorem wrap_u64 (n : Int) : IntKind.u64.wrap n = n % 18446744073709551616 := by
  unfold IntKind.wrap
  simp [IntKind.bits, IntKind.signed]
set_option maxRecDepth 100000 in
set_option maxHeartbeats 4000000 in
theorem digitsNat_any (neg : Bool) (N : Nat) (hN : N ≤ 1000000000000000000) (hneg : neg = true → 1 ≤ N) (w : World) :
    Calls Tryz.prog 78 #[.int .i64 (if neg then -(N : Int) else N)] w fun e w' => e = .returned (.string (ofL (if neg then 45 :: Lib.decDigits N else Lib.decDigits N))) ∧ Below w.heap.size w w' := by
  have hlen : (Lib.decDigits N).length ≤ 21 := by
    have := Lib.itoa_length_le (N : Int) (by omega) (by omega)
    rw [Lib.itoa_nonneg] at this
    exact this
  obtain ⟨V, hV⟩ : ∃ V, V = (if neg then -(N : Int) else N) := ⟨_, rfl⟩
  rw [← hV]
  obtain ⟨U, hU⟩ : ∃ U, IntKind.u64.wrap V = U := ⟨_, rfl⟩
  have key : decide (V < 0) = neg ∧ (neg = true → IntKind.u64.wrap (-U) = N) ∧ (neg = false → U = N) := by
    cases neg with
    | false =>
      simp at hV
      refine ⟨by simp; omega, by simp, fun _ => ?_⟩
      rw [← hU, hV]; simp only [wrap_u64]; omega
    | true =>
      simp at hV
      have := hneg rfl
      refine ⟨by simp; omega, fun _ => ?_, by simp⟩
      rw [← hU, hV]; simp only [wrap_u64]; omega
  obtain ⟨k1, k2, k3⟩ := key
  clear hV
  have HLen := Lib.hid hlen
  clear hlen
  cases neg with
  | false =>
    have hUN := k3 rfl
    clear k3 k2 hneg
    subst hUN
    go_enter Tryz.func78, Tryz.ntmps78
    go_wp2
    go_loopw [3, 4] (fun u s wr => ∃ (m : Nat) (D : List UInt8), u = .int .u64 m ∧ s = .string (ofL D) ∧ m ≤ 1000000000000000000 ∧ Hid (Lib.decDigits N = Lib.decDigits m ++ D) ∧ D.length ≤ 21 ∧ Below w.heap.size w wr) (fun u _ _ => (intOf u).toNat)
    case atStart => exact ⟨N, [], rfl, rfl, hN, Lib.hid (by simp), by simp, Below.refl _ _⟩
    case round =>
      obtain ⟨m, D, rfl, rfl, hm, HD, hDl, hbel⟩ := hrel
      have HBel := Lib.hid hbel
      have hsz := hbel.size
      clear hbel
      have hs1 := ofL_size D
      by_cases h10 : 10 ≤ m
      · have t1 : decide ((10 : Int) ≤ (m : Int)) = true := by simp; omega
        have hcv := conv_one (48 + (m : Int) % 10) (UInt8.ofNat (48 + m % 10)) (digit_val m) wr
        have hnew : Lib.decDigits N = Lib.decDigits (m / 10) ++ (UInt8.ofNat (48 + m % 10) :: D) := by rw [HD.out, decDigits_big h10]; simp
        have hl2 : (UInt8.ofNat (48 + m % 10) :: D).length ≤ 21 := by have := HLen.out; rw [hnew] at this; simp at this ⊢; omega
        have HNew := Lib.hid hnew
        have hs2 := ofL_size [UInt8.ofNat (48 + m % 10)]
        have hap : ofL [UInt8.ofNat (48 + m % 10)] ++ ofL D = ofL (UInt8.ofNat (48 + m % 10) :: D) := ofL_app _ _
        have hs1' : (ofL D).size ≤ 21 := by omega
        have hs2' : (ofL [UInt8.ofNat (48 + m % 10)]).size ≤ 1 := by rw [hs2]; simp
        have HAp := Lib.hid hap
        clear hnew hs1 hs2 hap
        generalize UInt8.ofNat (48 + m % 10) = b at *
        go_wp2
        go_roundw
        case rel => exact ⟨m / 10, b :: D, by go_num, by rw [HAp.out], by omega, HNew, hl2, HBel.out.alloc hsz _⟩
        case measure => simp [intOf]; omega
      · have t1 : decide ((10 : Int) ≤ (m : Int)) = false := by simp; omega
        have hcv := conv_one (48 + (m : Int)) (UInt8.ofNat (48 + m)) (digit_val1 m (by omega)) wr
        have hnew : Lib.decDigits N = UInt8.ofNat (48 + m) :: D := by rw [HD.out, Lib.decDigits_one (by omega)]; rfl
        have hs2 := ofL_size [UInt8.ofNat (48 + m)]
        have hap : ofL [UInt8.ofNat (48 + m)] ++ ofL D = ofL (Lib.decDigits N) := by rw [ofL_app, hnew]; rfl
        have hs1' : (ofL D).size ≤ 21 := by omega
        have hs2' : (ofL [UInt8.ofNat (48 + m)]).size ≤ 1 := by rw [hs2]; simp
        have hs3 : (ofL (Lib.decDigits N)).size ≤ 21 := by rw [ofL_size]; exact HLen.out
        have hs4 : (⟨#[45]⟩ : ByteArray).size = 1 := rfl
        have hap2 : (⟨#[45]⟩ : ByteArray) ++ ofL (Lib.decDigits N) = ofL (45 :: Lib.decDigits N) := ofL_app [45] _
        have HAp2 := Lib.hid hap2
        clear hnew hs1 hs2 hap2
        generalize UInt8.ofNat (48 + m) = b at *
        obtain ⟨R, hR⟩ : ∃ R, R = ofL (Lib.decDigits N) := ⟨_, rfl⟩
        rw [← hR] at hap hs3 HAp2
        have HR := Lib.hid hR
        clear hR
        go_wp2
        go_ret
        exact ⟨by rw [← HR.out]; rfl, HBel.out.alloc hsz _⟩
  | true =>
    have hN1 := hneg rfl
    have k2' := k2 rfl
    clear k3 k2 hneg
    go_enter Tryz.func78, Tryz.ntmps78
    go_wp2
    go_loopw [3, 4] (fun u s wr => ∃ (m : Nat) (D : List UInt8), u = .int .u64 m ∧ s = .string (ofL D) ∧ m ≤ 1000000000000000000 ∧ Hid (Lib.decDigits N = Lib.decDigits m ++ D) ∧ D.length ≤ 21 ∧ Below w.heap.size w wr) (fun u _ _ => (intOf u).toNat)
    case atStart => exact ⟨N, [], rfl, rfl, hN, Lib.hid (by simp), by simp, Below.refl _ _⟩
    case round =>
      obtain ⟨m, D, rfl, rfl, hm, HD, hDl, hbel⟩ := hrel
      have HBel := Lib.hid hbel
      have hsz := hbel.size
      clear hbel
      have hs1 := ofL_size D
      by_cases h10 : 10 ≤ m
      · have t1 : decide ((10 : Int) ≤ (m : Int)) = true := by simp; omega
        have hcv := conv_one (48 + (m : Int) % 10) (UInt8.ofNat (48 + m % 10)) (digit_val m) wr
        have hnew : Lib.decDigits N = Lib.decDigits (m / 10) ++ (UInt8.ofNat (48 + m % 10) :: D) := by rw [HD.out, decDigits_big h10]; simp
        have hl2 : (UInt8.ofNat (48 + m % 10) :: D).length ≤ 21 := by have := HLen.out; rw [hnew] at this; simp at this ⊢; omega
        have HNew := Lib.hid hnew
        have hs2 := ofL_size [UInt8.ofNat (48 + m % 10)]
        have hap : ofL [UInt8.ofNat (48 + m % 10)] ++ ofL D = ofL (UInt8.ofNat (48 + m % 10) :: D) := ofL_app _ _
        have hs1' : (ofL D).size ≤ 21 := by omega
        have hs2' : (ofL [UInt8.ofNat (48 + m % 10)]).size ≤ 1 := by rw [hs2]; simp
        have HAp := Lib.hid hap
        clear hnew hs1 hs2 hap
        generalize UInt8.ofNat (48 + m % 10) = b at *
        go_wp2
        go_roundw
        case rel => exact ⟨m / 10, b :: D, by go_num, by rw [HAp.out], by omega, HNew, hl2, HBel.out.alloc hsz _⟩
        case measure => simp [intOf]; omega
      · have t1 : decide ((10 : Int) ≤ (m : Int)) = false := by simp; omega
        have hcv := conv_one (48 + (m : Int)) (UInt8.ofNat (48 + m)) (digit_val1 m (by omega)) wr
        have hnew : Lib.decDigits N = UInt8.ofNat (48 + m) :: D := by rw [HD.out, Lib.decDigits_one (by omega)]; rfl
        have hs2 := ofL_size [UInt8.ofNat (48 + m)]
        have hap : ofL [UInt8.ofNat (48 + m)] ++ ofL D = ofL (Lib.decDigits N) := by rw [ofL_app, hnew]; rfl
        have hs1' : (ofL D).size ≤ 21 := by omega
        have hs2' : (ofL [UInt8.ofNat (48 + m)]).size ≤ 1 := by rw [hs2]; simp
        have hs3 : (ofL (Lib.decDigits N)).size ≤ 21 := by rw [ofL_size]; exact HLen.out
        have hs4 : (⟨#[45]⟩ : ByteArray).size = 1 := rfl
        have hap2 : (⟨#[45]⟩ : ByteArray) ++ ofL (Lib.decDigits N) = ofL (45 :: Lib.decDigits N) := ofL_app [45] _
        have HAp2 := Lib.hid hap2
        clear hnew hs1 hs2 hap2
        generalize UInt8.ofNat (48 + m) = b at *
        obtain ⟨R, hR⟩ : ∃ R, R = ofL (Lib.decDigits N) := ⟨_, rfl⟩
        rw [← hR] at hap hs3 HAp2
        have HR := Lib.hid hR
        clear hR
        go_wp2
        go_ret
        exact ⟨by rw [HAp2.out]; rfl, HBel.out.alloc hsz _⟩

theorem digits_any (n : Int) (h0 : -1000000000000000000 ≤ n) (h1 : n ≤ 1000000000000000000) (w : World) :
    Calls Tryz.prog 78 #[.int .i64 n] w fun e w' => e = .returned (.string (ofL (Lib.itoa n))) ∧ Below w.heap.size w w' := by
  by_cases h : n < 0
  · have := digitsNat_any true n.natAbs (by omega) (by intro _; omega) w
    simp only [if_true] at this
    have e : -(n.natAbs : Int) = n := by omega
    rw [e] at this
    unfold Lib.itoa
    rw [if_pos h]
    exact this
  · have := digitsNat_any false n.toNat (by omega) (by intro h; cases h) w
    simp only [Bool.false_eq_true, if_false] at this
    have e : (n.toNat : Int) = n := by omega
    rw [e] at this
    unfold Lib.itoa
    rw [if_neg h]
    exact this
end Go.Proofs.YtlimajgmdhhggaaGreatDoor


namespace Go.Proofs.YtlimajgmdhhggaaGreatDoor
open Go.RowKit
set_option linter.unusedVariables false

def bA (k : Nat) : AT := badL.getD k ([], [])
def bT (k : Nat) : ByteArray := ofL (bA k).1
def cK (k : Nat) : Int := codeL.getD k 0
def bV (h : Nat) (k : Nat) : Value := [.slice (some ⟨h + 1, 0, none⟩) 1 1, .slice none 0 0, .slice (some ⟨h + 2, 0, none⟩) 1 1, .slice (some ⟨h + 3, 0, none⟩) 2 2, .slice (some ⟨h + 4, 0, none⟩) 2 2, .slice (some ⟨h + 5, 0, none⟩) 1 1].getD k .nilIface
structure FstAt (h : Nat) (W : World) (E : ByteArray) (u : Value) : Prop where
  box : BoxN W h E u
  b1 : W.heap[h + 1]? = some (.cells #[.string ⟨#[120]⟩] 9 (0, 0))
  b2 : W.heap[h + 2]? = some (.cells #[.string ⟨#[120]⟩] 9 (0, 0))
  b3 : W.heap[h + 3]? = some (.cells #[.string ⟨#[49]⟩, .string ⟨#[50]⟩] 9 (0, 0))
  b4 : W.heap[h + 4]? = some (.cells #[.string ⟨#[97]⟩, .string ⟨#[65, 32]⟩] 9 (0, 0))
  b5 : W.heap[h + 5]? = some (.cells #[.string ⟨#[122]⟩] 9 (0, 0))
  b6 : W.heap[h + 6]? = some (.cells #[.string ⟨#[110, 111, 110, 101]⟩, .slice (some ⟨h + 1, 0, none⟩) 1 1, .string ⟨#[100, 101, 115, 99, 114, 105, 112, 116, 105, 111, 110]⟩, .slice none 0 0, .string ⟨#[117, 105, 100, 110, 117, 109, 98, 101, 114]⟩, .slice (some ⟨h + 2, 0, none⟩) 1 1, .string ⟨#[117, 105, 100, 110, 117, 109, 98, 101, 114]⟩, .slice (some ⟨h + 3, 0, none⟩) 2 2, .string ⟨#[109, 97, 105, 108]⟩, .slice (some ⟨h + 4, 0, none⟩) 2 2, .string ⟨#[67, 78]⟩, .slice (some ⟨h + 5, 0, none⟩) 1 1] 54 (0, 0))
  b7 : W.heap[h + 7]? = some (.cells #[.int .i64 17, .int .i64 19, .int .i64 21, .int .i64 19, .int .i64 20, .int .i64 20] 3 (0, 0))
  size : W.heap.size = h + 8

def XAt (W7 : World) (E : ByteArray) (L : List AT) (wx : World) (b : Nat) (u : Value) : Prop := W7.heap.size ≤ b ∧ b < wx.heap.size ∧ BoxN wx b E u ∧ IsA wx.heap.size wx L u ∧ Below W7.heap.size W7 wx
theorem XAt.drew {W7 wx : World} {E : ByteArray} {L : List AT} {b : Nat} {u : Value} (h : XAt W7 E L wx b u) : XAt W7 E L wx.drew b u := ⟨h.1, h.2.1, h.2.2.1, h.2.2.2.1, h.2.2.2.2.drew⟩
theorem XAt.from {W7 wx : World} {E : ByteArray} {L : List AT} {b : Nat} {u : Value} (h : XAt W7.drew E L wx b u) : XAt W7 E L wx b u := ⟨h.1, h.2.1, h.2.2.1, h.2.2.2.1, (Below.refl W7.heap.size W7).drew.trans h.2.2.2.2⟩
def At9 (w9 w : World) : Prop := Below w9.heap.size w9 w
theorem At9.go {w9 w w' : World} (h : At9 w9 w) (hb : Below w.heap.size w w') : At9 w9 w' := bthen h hb
theorem At9.mono {w9 w : World} (h : At9 w9 w) {n : Nat} (hn : n ≤ w9.heap.size) : Below n w9 w := Below.mono h hn
theorem At9.size {w9 w : World} (h : At9 w9 w) : w9.heap.size ≤ w.heap.size := Below.size h
theorem At9.cell {w9 w : World} (h : At9 w9 w) {p : Addr} (hp : p.block < w9.heap.size) : w.cell? p = w9.cell? p := Below.cell h hp
abbrev C6 (N1 N2 N3 : ByteArray) (v1 v2 v3 : Value) : Obj := .cells #[.string N1, v1, .string N2, v2, .string N3, v3] 54
abbrev C8 (g q : Nat) : Array Value := #[.string ⟨#[99, 110]⟩, .slice (some ⟨g - 3, 0, none⟩) 1 1, .string ⟨#[111, 98, 106, 101, 99, 116, 99, 108, 97, 115, 115]⟩, .slice (some ⟨g - 2, 0, none⟩) 1 1, .string ⟨#[115, 110]⟩, .slice (some ⟨g - 1, 0, none⟩) 1 1, .string ⟨#[111, 117]⟩, .slice (some ⟨q, 0, none⟩) 1 1]
end Go.Proofs.YtlimajgmdhhggaaGreatDoor


namespace Go.Proofs.YtlimajgmdhhggaaGreatDoor
set_option linter.unusedVariables false

section
variable {P : Program} {ops : Array Oper} {Q : Exit → Act → World → Prop}

def Came (listed : Array Bool) (o : Oper) : Prop := ∀ e ∈ o.after, Region.binds .any e = true → listed.getD e.on false = true

structure Kept (ops : Array Oper) (F : Nat → Value → World → Prop) (G : World → World → Prop) (a0 : Act) (w0 : World) (listed : Array Bool) (a : Act) (w : World) : Prop where
  size : listed.size = ops.size
  shut : ∀ (i : Nat) (o : Oper), ops[i]? = some o → listed.getD i false = true → Came listed o
  defers : a.defers = a0.defers
  slots : a.tmps.size = a0.tmps.size
  grown : G w0 w
  other : ∀ t, (∀ (i : Nat) (o : Oper), ops[i]? = some o → o.dst ≠ some t) → a.tmps[t]? = a0.tmps[t]?
  fact : ∀ (i : Nat) (o : Oper) (d : Tmp), ops[i]? = some o → o.dst = some d → listed.getD i false = true → ∃ v, a.tmps[d]? = some v ∧ F i v w

theorem came_more {listed : Array Bool} {i : Nat} {o : Oper} (h : Came listed o) : Came (listed.setIfInBounds i true) o := fun e he hb => getD_set_true (h e he hb)

theorem getD_set_self {listed : Array Bool} {i : Nat} (h : i < listed.size) : (listed.setIfInBounds i true).getD i false = true := by simp [h]

theorem Kept.more {F : Nat → Value → World → Prop} {G : World → World → Prop} {a0 a : Act} {w0 w w' : World} {listed : Array Bool} (hk : Kept ops F G a0 w0 listed a w) {i : Nat} {o : Oper} {d : Tmp} {v : Value}
    (hF : ∀ i v w w', F i v w → G w w' → F i v w') (hG : ∀ w w' w'', G w w' → G w' w'' → G w w'')
    (hd : ∀ (i j : Nat) (o o' : Oper) (d : Tmp), ops[i]? = some o → ops[j]? = some o' → o.dst = some d → o'.dst = some d → i = j)
    (hin : ∀ (i : Nat) (o : Oper) (d : Tmp), ops[i]? = some o → o.dst = some d → d < a0.tmps.size)
    (ho : ops[i]? = some o) (hod : o.dst = some d) (hc : Came listed o) (hg : G w w') (hv : F i v w') : Kept ops F G a0 w0 (listed.setIfInBounds i true) (a.put (some d) v) w' := by
  have hi : i < listed.size := by rw [hk.size]; exact (Array.getElem?_eq_some_iff.1 ho).1
  refine ⟨by simp [hk.size], fun j o' ho' hl => ?_, hk.defers, by simp [Act.put, hk.slots], hG _ _ _ hk.grown hg, fun t ht => ?_, fun j o' d' ho' hd' hl => ?_⟩
  · by_cases hij : i = j
    · subst hij
      rw [ho] at ho'; cases ho'
      exact came_more hc
    · rw [getD_set_ne false hij] at hl
      exact came_more (hk.shut j o' ho' hl)
  · have : d ≠ t := fun h => ht i o ho (by rw [hod, h])
    simp only [Act.put]
    rw [Array.getElem?_setIfInBounds_ne this]
    exact hk.other t ht
  · by_cases hij : i = j
    · subst hij
      rw [ho] at ho'; cases ho'
      rw [hod] at hd'; cases hd'
      refine ⟨v, ?_, hv⟩
      have : d < a.tmps.size := by rw [hk.slots]; exact hin i o d ho hod
      simp [Act.put, this]
    · rw [getD_set_ne false hij] at hl
      obtain ⟨u, hu, hf⟩ := hk.fact j o' d' ho' hd' hl
      have : d ≠ d' := fun h => hij (hd i j o o' d ho ho' hod (by rw [hd', h]))
      refine ⟨u, ?_, hF _ _ _ _ hf hg⟩
      simp only [Act.put]
      rw [Array.getElem?_setIfInBounds_ne this]
      exact hu

theorem rest_came {listed : Array Bool} (hs : ∀ (i : Nat) (o : Oper), ops[i]? = some o → listed.getD i false = true → Came listed o)
    (hw : ∀ i, i + 1 < ops.size → ∃ (j : Nat) (o : Oper), i < j ∧ ops[j]? = some o ∧ ∃ e ∈ o.after, Region.binds .any e = true ∧ e.on = i)
    {l : Oper} (hl : ops[ops.size - 1]? = some l) (hc : Came listed l) : ∀ (n i : Nat), ops.size ≤ i + 1 + n → i + 1 < ops.size → listed.getD i false = true
  | 0, i, h, hi => by omega
  | n + 1, i, h, hi => by
    obtain ⟨j, o, hij, ho, e, he, hb, rfl⟩ := hw i hi
    have hj : j < ops.size := (Array.getElem?_eq_some_iff.1 ho).1
    by_cases hlast : j = ops.size - 1
    · subst hlast
      rw [ho] at hl; cases hl
      exact hc e he hb
    · exact hs j o ho (rest_came hs hw hl hc n j (by omega) (by omega)) e he hb

theorem region_facts {id : Nat} {a0 : Act} {w0 : World} (hm : P.follows .mixedOrders = true) (F : Nat → Value → World → Prop) (G : World → World → Prop)
    (hF : ∀ i v w w', F i v w → G w w' → F i v w') (hG : ∀ w w' w'', G w w' → G w' w'' → G w w'') (h0 : G w0 { w0 with drawn := w0.drawn + 1 })
    (hb : ∀ (i : Nat) (o : Oper), ops[i]? = some o → ∀ e ∈ o.after, e.on < i)
    (hd : ∀ (i j : Nat) (o o' : Oper) (d : Tmp), ops[i]? = some o → ops[j]? = some o' → o.dst = some d → o'.dst = some d → i = j)
    (hin : ∀ (i : Nat) (o : Oper) (d : Tmp), ops[i]? = some o → o.dst = some d → d < a0.tmps.size)
    (hw : ∀ i, i + 1 < ops.size → ∃ (j : Nat) (o : Oper), i < j ∧ ops[j]? = some o ∧ ∃ e ∈ o.after, Region.binds .any e = true ∧ e.on = i)
    {l : Oper} (hl : ops[ops.size - 1]? = some l)
    (hstep : ∀ listed a w, Kept ops F G a0 w0 listed a w → ∀ (i : Nat) (o : Oper), ops[i]? = some o → i + 1 < ops.size → Came listed o →
      wpOp P ops Q i (fun a' w' => ∃ d v, o.dst = some d ∧ a' = a.put (some d) v ∧ G w w' ∧ F i v w') a w)
    (hlast : ∀ listed a w, Kept ops F G a0 w0 listed a w → (∀ i, i + 1 < ops.size → listed.getD i false = true) → wpOp P ops Q (ops.size - 1) (fun a' w' => Q .normal a' w') a w) :
    (Code.region id ops true).wp P Q a0 w0 := by
  have hne : 0 < ops.size := by
    have := (Array.getElem?_eq_some_iff.1 hl).1
    omega
  refine region_inv hm (fun listed a w => (Kept ops F G a0 w0 listed a w ∧ listed.getD (ops.size - 1) false = false) ∨ (listed.size = ops.size ∧ (∀ i, i < ops.size → listed.getD i false = true) ∧ Q .normal a w)) ?_ hb ?_ ?_ ?_
  · have hno : ∀ i, (Array.replicate ops.size false).getD i false = false := fun i => by
      rcases Nat.lt_or_ge i ops.size with h | h <;> simp [h]
    exact .inl ⟨⟨by simp, fun i o _ h => (by rw [hno] at h; cases h), rfl, rfl, h0, fun _ _ => rfl, fun i o d _ _ h => (by rw [hno] at h; cases h)⟩, hno _⟩
  · rintro listed a w (⟨h, _⟩ | ⟨h, _⟩)
    · exact h.size
    · exact h
  · rintro listed a w (⟨hk, hn⟩ | ⟨hs, ha, _⟩) i o ho hi hc
    · have hio : i < ops.size := (Array.getElem?_eq_some_iff.1 ho).1
      by_cases hlst : i = ops.size - 1
      · subst hlst
        rw [ho] at hl; cases hl
        have hall := fun j => rest_came hk.shut hw ho hc ops.size j (by omega)
        refine wpOp_mono (fun a' w' hq => .inr ⟨by simp [hk.size], fun j hj => ?_, hq⟩) (hlast listed a w hk hall)
        by_cases hjl : j = ops.size - 1
        · subst hjl; exact getD_set_self (by rw [hk.size]; exact hio)
        · exact getD_set_true (hall j (by omega))
      · refine wpOp_mono (fun a' w' hq => ?_) (hstep listed a w hk i o ho (by omega) hc)
        obtain ⟨d, v, hod, rfl, hg, hv⟩ := hq
        exact .inl ⟨hk.more hF hG hd hin ho hod hc hg hv, by rw [getD_set_ne false hlst]; exact hn⟩
    · exfalso
      have hio : i < ops.size := (Array.getElem?_eq_some_iff.1 ho).1
      have := ha i hio
      have hi' : i < listed.size := by omega
      simp [hi'] at this hi
      rw [this] at hi; cases hi
  · rintro listed a w (⟨hk, hn⟩ | ⟨_, _, hq⟩) ha
    · rw [ha _ (by omega)] at hn; cases hn
    · exact hq

def regOk (ops : Array Oper) (n : Nat) : Bool := (List.range ops.size).all fun i => match ops[i]? with
  | none => true
  | some o => (o.after.all fun e => decide (e.on < i)) && (match o.dst with
      | none => true
      | some d => decide (d < n) && (List.range ops.size).all fun j => match ops[j]? with
        | none => true
        | some o' => decide (o'.dst ≠ some d) || decide (i = j)) &&
    (decide (ops.size ≤ i + 1) || (List.range ops.size).any fun j => match ops[j]? with
        | none => false
        | some o' => decide (i < j) && o'.after.any fun e => Region.binds .any e && decide (e.on = i))

theorem regOk_at {n : Nat} (h : regOk ops n = true) {i : Nat} {o : Oper} (ho : ops[i]? = some o) :
    (∀ e ∈ o.after, e.on < i) ∧ (∀ d, o.dst = some d → d < n ∧ ∀ (j : Nat) (o' : Oper), ops[j]? = some o' → o'.dst = some d → i = j) ∧
      (i + 1 < ops.size → ∃ (j : Nat) (o' : Oper), i < j ∧ ops[j]? = some o' ∧ ∃ e ∈ o'.after, Region.binds .any e = true ∧ e.on = i) := by
  have hi : i < ops.size := (Array.getElem?_eq_some_iff.1 ho).1
  have h1 := List.all_eq_true.1 h i (List.mem_range.2 hi)
  rw [ho] at h1
  simp only [Bool.and_eq_true, Bool.or_eq_true, decide_eq_true_eq] at h1
  obtain ⟨⟨ha, hb⟩, hc⟩ := h1
  refine ⟨fun e he => ?_, fun d hd => ?_, fun hlt => ?_⟩
  · have := Array.all_eq_true_iff_forall_mem.1 ha e he
    simpa using this
  · rw [hd] at hb
    simp only [Bool.and_eq_true, decide_eq_true_eq] at hb
    refine ⟨hb.1, fun j o' ho' hd' => ?_⟩
    have h2 := List.all_eq_true.1 hb.2 j (List.mem_range.2 (Array.getElem?_eq_some_iff.1 ho').1)
    rw [ho'] at h2
    simp only [Bool.or_eq_true, decide_eq_true_eq] at h2
    rcases h2 with h2 | h2
    · exact absurd hd' h2
    · exact h2
  · rcases hc with hc | hc
    · omega
    · obtain ⟨j, _, hj⟩ := List.any_eq_true.1 hc
      cases ho' : ops[j]? with
      | none => rw [ho'] at hj; cases hj
      | some o' =>
        rw [ho'] at hj
        simp only [Bool.and_eq_true, decide_eq_true_eq] at hj
        obtain ⟨e, he, hbe⟩ := Array.any_eq_true'.1 hj.2
        simp only [Bool.and_eq_true, decide_eq_true_eq] at hbe
        exact ⟨j, o', hj.1, ho', e, he, hbe.1, hbe.2⟩

theorem region_factsB {id : Nat} {a0 : Act} {w0 : World} (hm : P.follows .mixedOrders = true) (F : Nat → Value → World → Prop) (G : World → World → Prop)
    (hF : ∀ i v w w', F i v w → G w w' → F i v w') (hG : ∀ w w' w'', G w w' → G w' w'' → G w w'') (h0 : G w0 { w0 with drawn := w0.drawn + 1 })
    (hok : regOk ops a0.tmps.size = true) {l : Oper} (hl : ops[ops.size - 1]? = some l)
    (hstep : ∀ listed a w, Kept ops F G a0 w0 listed a w → ∀ (i : Nat) (o : Oper), ops[i]? = some o → i + 1 < ops.size → Came listed o →
      wpOp P ops Q i (fun a' w' => ∃ d v, o.dst = some d ∧ a' = a.put (some d) v ∧ G w w' ∧ F i v w') a w)
    (hlast : ∀ listed a w, Kept ops F G a0 w0 listed a w → (∀ i, i + 1 < ops.size → listed.getD i false = true) → wpOp P ops Q (ops.size - 1) (fun a' w' => Q .normal a' w') a w) :
    (Code.region id ops true).wp P Q a0 w0 :=
  region_facts hm F G hF hG h0 (fun i o ho => (regOk_at hok ho).1) (fun i j o o' d ho ho' hd hd' => ((regOk_at hok ho).2.1 d hd).2 j o' ho' hd') (fun i o d ho hd => ((regOk_at hok ho).2.1 d hd).1)
    (fun i hi => (regOk_at hok (Array.getElem?_eq_getElem (show i < ops.size by omega))).2.2 hi) hl hstep hlast

theorem wpOp_val {i : Nat} {o : Oper} {a : Act} {w w' : World} {v : Value} {K : Act → World → Prop} (ho : ops[i]? = some o) (hg : o.guard = none) (hr : (execOp a.eval o).run P w = .ok (.value v) w') (hk : K (a.put o.dst v) w') : wpOp P ops Q i K a w := by
  unfold wpOp
  rw [ho]
  show if Region.wanted o (yielded ops a.tmps) = true then _ else _
  rw [if_pos (by unfold Region.wanted; rw [hg])]
  refine .inl ?_
  unfold Oper.wp
  rw [hr]
  exact hk

def noDst (ops : Array Oper) (t : Nat) : Bool := (List.range ops.size).all fun i => match ops[i]? with
  | none => true
  | some o => decide (o.dst ≠ some t)

theorem Kept.read {F : Nat → Value → World → Prop} {G : World → World → Prop} {a0 a : Act} {w0 w : World} {listed : Array Bool} (hk : Kept ops F G a0 w0 listed a w) {t : Nat} {v : Value} (hn : noDst ops t = true) (h : a0.tmps[t]? = some v) : a.tmps[t]?.getD undef = v := by
  have h1 := hk.other t fun i o ho => by
    have h2 := List.all_eq_true.1 hn i (List.mem_range.2 (Array.getElem?_eq_some_iff.1 ho).1)
    rw [ho] at h2
    simpa using h2
  rw [h1, h]
  rfl

theorem Kept.got {F : Nat → Value → World → Prop} {G : World → World → Prop} {a0 a : Act} {w0 w : World} {listed : Array Bool} (hk : Kept ops F G a0 w0 listed a w) {j : Nat} {o : Oper} {d : Tmp} (ho : ops[j]? = some o) (hd : o.dst = some d) (hl : listed.getD j false = true) :
    ∃ v, a.tmps[d]?.getD undef = v ∧ F j v w := by
  obtain ⟨v, h, hf⟩ := hk.fact j o d ho hd hl
  refine ⟨v, ?_, hf⟩
  rw [h]
  rfl
end
end Go.Proofs.YtlimajgmdhhggaaGreatDoor


namespace Go.Proofs.YtlimajgmdhhggaaGreatDoor
open Go.RowKit
set_option linter.unusedVariables false

section
variable {P : Program} {ops : Array Oper} {Q : Exit → Act → World → Prop}

def depOn (ops : Array Oper) (l2 l1 : Nat) : Bool := match ops[l2]? with
  | none => false
  | some o => o.after.any fun e => Region.binds .any e && decide (e.on = l1)

def laidT (a : Array Value) : List Oper → Array Value → Array Value
  | [], r => r
  | o :: l, r => laidT a l (match o.dst with | none => r | some d => r.setIfInBounds d (a[d]?.getD undef))
theorem laidT_at (a : Array Value) (t : Nat) : ∀ (l : List Oper) (r : Array Value), r[t]? = a[t]? ∨ (∃ o ∈ l, o.dst = some t) → a.size = r.size → (laidT a l r)[t]? = a[t]?
  | [], r, h, _ => by
    rcases h with h | ⟨o, ho, _⟩
    · exact h
    · simp at ho
  | o :: l, r, h, hs => by
    rw [laidT]
    cases e : o.dst with
    | none =>
      refine laidT_at a t l r ?_ hs
      rcases h with h | ⟨o', ho', he⟩
      · exact .inl h
      · rcases List.mem_cons.1 ho' with rfl | ho'
        · rw [e] at he; cases he
        · exact .inr ⟨o', ho', he⟩
    | some d =>
      simp only
      refine laidT_at a t l _ ?_ (by simpa using hs)
      by_cases hdt : d = t
      · subst hdt
        left
        rcases Nat.lt_or_ge d a.size with hlt | hge
        · rw [Array.getElem?_setIfInBounds_self_of_lt (by omega), Array.getElem?_eq_getElem hlt]
          rfl
        · rw [Array.getElem?_eq_none hge, Array.getElem?_eq_none (by simp; omega)]
      · rcases h with h | ⟨o', ho', he⟩
        · left
          rw [Array.getElem?_setIfInBounds_ne hdt]
          exact h
        · rcases List.mem_cons.1 ho' with rfl | ho'
          · rw [e] at he; cases he; exact absurd rfl hdt
          · exact .inr ⟨o', ho', he⟩
theorem Kept.frame {F : Nat → Value → World → Prop} {G : World → World → Prop} {a0 a : Act} {w0 w : World} {listed : Array Bool} (hk : Kept ops F G a0 w0 listed a w) : a = { a0 with tmps := laidT a.tmps ops.toList a0.tmps } := by
  have h1 : a.tmps = laidT a.tmps ops.toList a0.tmps := by
    refine Array.ext_getElem? fun t => ?_
    symm
    refine laidT_at a.tmps t _ _ ?_ hk.slots
    by_cases h : ∃ o ∈ ops.toList, o.dst = some t
    · exact .inr h
    · left
      refine (hk.other t fun i o ho hd => h ⟨o, ?_, hd⟩).symm
      exact List.mem_of_getElem? (i := i) (by simpa using ho)
  cases a
  cases a0
  have h2 := hk.defers
  simp only at h1 h2
  simp only [← h1, h2]
def putT (t : Array Value) : List Oper → Act → Act
  | [], r => r
  | o :: l, r => putT t l (r.put o.dst (match o.dst with | none => undef | some d => t[d]?.getD undef))
theorem putT_eq (t : Array Value) : ∀ (l : List Oper) (r : Act), putT t l r = { r with tmps := laidT t l r.tmps }
  | [], r => rfl
  | o :: l, r => by
    rw [putT, putT_eq t l, laidT]
    cases o.dst <;> rfl
theorem Kept.puts {F : Nat → Value → World → Prop} {G : World → World → Prop} {a0 a : Act} {w0 w : World} {listed : Array Bool} (hk : Kept ops F G a0 w0 listed a w) : a = putT a.tmps ops.toList a0 := by
  rw [putT_eq]
  exact hk.frame
end
end Go.Proofs.YtlimajgmdhhggaaGreatDoor


namespace Go.Proofs.YtlimajgmdhhggaaGreatDoor
open Go.RowKit
set_option linter.unusedVariables false

def StrB (w : World) (b : Nat) : Prop := ∃ cs fr, w.heap[b]? = some (.cells cs 9 fr)
def SaysM (w : World) (P : List PT) (L : List AT) : Prop := P.length = L.length ∧ ∀ j (h : j < L.length) (h' : j < P.length), P[j].1 = L[j].1 ∧ IsTo (StrB w) w L[j].2 P[j].2
def OwnM (B : Nat) (w : World) (v : Value) (L : List AT) : Prop := ∃ P, RowP B w v P ∧ SaysM w P L

theorem StrB.lt {w : World} {b : Nat} (h : StrB w b) : b < w.heap.size := by
  obtain ⟨_, _, h⟩ := h
  exact (Array.getElem?_eq_some_iff.1 h).1
theorem saysM_to {w w' : World} {P : List PT} {L : List AT} (h : SaysM w P L) (hk : ∀ b, StrB w b → w'.heap[b]? = w.heap[b]?) : SaysM w' P L :=
  ⟨h.1, fun j h1 h2 => ⟨(h.2 j h1 h2).1, (h.2 j h1 h2).2.imp (fun b hb => by obtain ⟨cs, fr, e⟩ := hb; exact ⟨cs, fr, (hk b ⟨cs, fr, e⟩).trans e⟩) (fun b o hb => by simp only [World.cell?, hk b hb])⟩⟩
theorem saysM_below {w w' : World} {P : List PT} {L : List AT} (h : SaysM w P L) (hb : Below w.heap.size w w') : SaysM w' P L := saysM_to h fun b hs => hb.block b hs.lt
theorem ownM_below {B : Nat} {w w' : World} {v : Value} {L : List AT} (h : OwnM B w v L) (hb : Below w.heap.size w w') : OwnM B w' v L := by
  obtain ⟨P, h1, h2⟩ := h
  exact ⟨P, rowP_below h1 hb, saysM_below h2 hb⟩
theorem ownM_empty {B b : Nat} {w : World} (hb : w.heap[b]? = some (.cells #[] 54 (0, 0))) (hB : B ≤ b) : OwnM B w (.slice (some ⟨b, 0, none⟩) 0 0) [] :=
  ⟨[], ⟨rfl, .inr ⟨b, 0, #[], rfl, hB, hb, Nat.le_refl _, Nat.zero_le _, rfl, rfl⟩⟩, rfl, fun j h => absurd h (by simp)⟩
theorem row_keep {B : Nat} {w w' : World} {v : Value} {P : List PT} (hr : RowP B w v P) (hg : w.grownBy w' v.ownBlock) {b : Nat} {cs : Array Value} {e : TypeId} {fr : Nat × Nat} (hb : w.heap[b]? = some (.cells cs e fr)) (hne : e ≠ 54) : w'.heap[b]? = w.heap[b]? := by
  refine hg.block b (Array.getElem?_eq_some_iff.1 hb).1 fun he => hne ?_
  rcases hr.2 with ⟨rfl, _⟩ | ⟨g, cap, cur, rfl, _, hc, _⟩
  · cases he
  · have : b = g := by simpa [Value.ownBlock] using he
    subst this
    rw [hb] at hc
    cases hc
    rfl
theorem saysM_grown {B : Nat} {w w' : World} {v : Value} {P P' : List PT} {L : List AT} (hr : RowP B w v P') (hg : w.grownBy w' v.ownBlock) (h : SaysM w P L) : SaysM w' P L :=
  saysM_to h fun b hs => by obtain ⟨cs, fr, e⟩ := hs; exact row_keep hr hg e (by decide)
theorem saysM_app {w : World} {P PM : List PT} {L M : List AT} (h : SaysM w P L) (hm : SaysM w PM M) : SaysM w (P ++ PM) (L ++ M) := by
  refine ⟨by simp [h.1, hm.1], fun j h1 h2 => ?_⟩
  by_cases hj : j < L.length
  · have hj' : j < P.length := by rw [h.1]; exact hj
    rw [List.getElem_append_left hj', List.getElem_append_left hj]
    exact h.2 j hj hj'
  · have e := h.1
    have hm1 : j - L.length < M.length := by simp at h1; omega
    have hm2 : j - L.length < PM.length := by rw [hm.1]; exact hm1
    have g1 : (P ++ PM)[j] = PM[j - L.length] := by
      rw [List.getElem_append_right (by omega)]
      simp only [e]
    have g2 : (L ++ M)[j] = M[j - L.length] := List.getElem_append_right (by omega)
    rw [g1, g2]
    exact hm.2 _ hm1 hm2
theorem one_isTo {ok : Nat → Prop} {w : World} {L : List (List UInt8)} {v : Value} (h : IsTo ok w L v) : v.oneCell' = true := by
  obtain ⟨_, _, rfl, _⟩ := h
  rfl

theorem run_append_M {B : Nat} {w : World} {v : Value} {L : List AT} (hown : OwnM B w v L) (hB : B ≤ w.heap.size) {PM : List PT} {M : List AT} (hs : SaysM w PM M) (ad : Addr) (c : Nat)
    (hc : ∀ j u, (cellsP PM)[j]? = some u → w.cell? (ad.add j) = some u) (hlen : L.length + M.length ≤ 1000) (ty : TypeId) :
    ∃ v' w', (Builtin.append_ #[22, 22] ty #[v, .slice (some ad) M.length c]).run Tryz.prog w = .ok v' w' ∧ OwnM B w' v' (L ++ M) ∧ Below B w w' ∧ ∃ P, RowP B w v P ∧ w.grownBy w' v.ownBlock := by
  obtain ⟨i0, hi, hz0, hz1, hz2⟩ := info_parts infoA
  obtain ⟨P, hr, hsay⟩ := hown
  have e1 := hsay.1
  have e2 := hs.1
  have h1 : ∀ u ∈ cellsP PM, u.oneCell' = true := by
    intro u hu
    have : ∀ (l : List PT), (∀ j (h : j < l.length), l[j].2.oneCell' = true) → ∀ u ∈ cellsP l, u.oneCell' = true := by
      intro l
      induction l with
      | nil => intro _ u hu; simp [cellsP] at hu
      | cons r l ih =>
        intro h u hu
        simp only [cellsP, List.mem_cons] at hu
        rcases hu with rfl | rfl | hu
        · rfl
        · exact h 0 (by simp)
        · exact ih (fun j hj => h (j + 1) (by simpa using hj)) u hu
    exact this PM (fun j hj => one_isTo (hs.2 j (by omega) hj).2) u hu
  obtain ⟨v', w', hrun, hown', hgrow, _, hat⟩ := run_append_own_at (P := Tryz.prog) w B 22 ty 54 i0 (.agg #[.string ⟨#[]⟩, .slice none 0 0]) 2 40 Tryz.underlying22 hi hz0 hz1 hz2 rfl (by decide) v P.length (cellsP P) hr ad PM.length c (cellsP PM) (cellsP_length PM) hc h1 (by unfold maxLen; omega) (by omega) hB
  rw [e2] at hrun
  refine ⟨v', w', hrun, ⟨P ++ PM, ?_, saysM_app (saysM_grown hr hgrow hsay) (saysM_grown hr hgrow hs)⟩, (Below.refl B w).grown hgrow hB (fun k e => (World.ownsRow.lt hr k e).1), P, hr, hgrow⟩
  unfold RowP
  rw [List.length_append, cellsP_append]
  exact hown'

theorem exec_append {P : Program} {o : Oper} {a : Act} {w w' : World} {s x : Operand} {t : TypeId} {v u v' : Value} (ho : o.op = .call { callee := .builtin .append, args := #[s, x], argTypes := #[t, t] }) (hs : a.eval s = v) (hx : a.eval x = u)
    (hr : (Builtin.append_ #[t, t] o.type #[v, u]).run P w = .ok v' w') : (execOp a.eval o).run P w = .ok (.value v') w' := by
  unfold execOp
  simp only [ho, resolve, invoke, builtin, Sem.run_bind, Sem.run_pure, Result.andThen_ok, List.map_toArray, List.map_cons, List.map_nil, hs, hx, hr]

theorem wpOp_skip {P : Program} {ops : Array Oper} {Q : Exit → Act → World → Prop} {i : Nat} {o : Oper} {a : Act} {w w' : World} {K : Act → World → Prop} (ho : ops[i]? = some o) (hg : o.guard = none) (hr : (execOp a.eval o).run P w = .ok .skip w') (hk : K (a.put o.dst undef) w') : wpOp P ops Q i K a w := by
  unfold wpOp
  rw [ho]
  show if Region.wanted o (yielded ops a.tmps) = true then _ else _
  rw [if_pos (by unfold Region.wanted; rw [hg])]
  refine .inl ?_
  unfold Oper.wp
  rw [hr]
  exact hk

theorem row_part {w : World} {b : Nat} {P : List PT} (h : ∀ j u, (cellsP P)[j]? = some u → w.cell? ⟨b, j, none⟩ = some u) (A B C : List PT) (e : P = A ++ B ++ C) : ∀ j u, (cellsP B)[j]? = some u → w.cell? ((⟨b, A.length * 2, none⟩ : Addr).add j) = some u := by
  intro j u hu
  have hadd : (⟨b, A.length * 2, none⟩ : Addr).add j = ⟨b, A.length * 2 + j, none⟩ := by simp [Addr.add]
  rw [hadd]
  refine h _ _ ?_
  rw [e, cellsP_append, cellsP_append, List.append_assoc, List.getElem?_append_right (by rw [cellsP_length]; omega), cellsP_length, show A.length * 2 + j - A.length * 2 = j from by omega]
  have hlt : j < (cellsP B).length := by
    rcases Nat.lt_or_ge j (cellsP B).length with h | h
    · exact h
    · rw [List.getElem?_eq_none h] at hu; cases hu
  rw [List.getElem?_append_left hlt, hu]
theorem saysM_part {w : World} {A B C : List PT} {L M N : List AT} (h : SaysM w (A ++ B ++ C) (L ++ M ++ N)) (h1 : A.length = L.length) (h2 : B.length = M.length) : SaysM w B M := by
  refine ⟨h2, fun j hj hj' => ?_⟩
  have := h.2 (L.length + j) (by simp; omega) (by simp; omega)
  have g1 : (A ++ B ++ C)[L.length + j]'(by simp; omega) = B[j] := by
    rw [List.getElem_append_left (by simp; omega), List.getElem_append_right (by omega)]
    congr 1
    omega
  have g2 : (L ++ M ++ N)[L.length + j]'(by simp; omega) = M[j] := by
    rw [List.getElem_append_left (by simp; omega), List.getElem_append_right (by omega)]
    congr 1
    omega
  rw [g1, g2] at this
  exact this

theorem cells_one {w : World} {c : Nat} {X : ByteArray} {u : Value} (h : w.heap[c]? = some (.cells #[.string X, u] 54 (0, 0))) : ∀ j x, (cellsP [(X.data.toList, u)])[j]? = some x → w.cell? ((⟨c, 0, none⟩ : Addr).add j) = some x := by
  intro j x hx
  have hadd : (⟨c, 0, none⟩ : Addr).add j = ⟨c, j, none⟩ := by simp [Addr.add]; omega
  rw [hadd]
  simp only [World.cell?, h]
  have e : cellsP [(X.data.toList, u)] = [.string X, u] := by
    show [strV X.data.toList, u] = _
    rw [strV_whole]
  rw [e] at hx
  simpa using hx
def perRow (g : Nat) : List PT := [([99, 110], .slice (some ⟨g - 3, 0, none⟩) 1 1), ([111, 98, 106, 101, 99, 116, 99, 108, 97, 115, 115], .slice (some ⟨g - 2, 0, none⟩) 1 1), ([115, 110], .slice (some ⟨g - 1, 0, none⟩) 1 1)]
theorem ownM_isA {B : Nat} {w : World} {v : Value} {L : List AT} (h : OwnM B w v L) (hl : L.length ≤ maxLen) : IsA w.heap.size w L v := by
  obtain ⟨P, h1, h2⟩ := h
  by_cases hne : P = []
  · subst hne
    obtain ⟨a, c, hv⟩ := rowP_slice h1
    have : L = [] := List.eq_nil_of_length_eq_zero (by have := h2.1; simpa using this.symm)
    subst this
    exact ⟨a, c, hv, hl, fun j hj => absurd hj (by simp)⟩
  · obtain ⟨g, c, hv, _, hg, hc⟩ := rowP_at h1 hne
    refine ⟨_, c, by rw [hv, h2.1], hl, fun j hj => ?_⟩
    have hj' : j < P.length := by rw [h2.1]; exact hj
    obtain ⟨e1, e2⟩ := h2.2 j hj hj'
    refine ⟨g, 0, P[j].2, rfl, hg, ?_, ?_, e2.to (fun b hb => hb.lt)⟩
    · rw [Nat.zero_add, ← e1]; exact (hc j hj').1
    · rw [Nat.zero_add]; exact (hc j hj').2

structure MAt (n1 : Nat) (W0 : World) (D : ByteArray) (L : List AT) (wx : World) (b : Nat) (u : Value) : Prop where
  lo : n1 ≤ b
  box : BoxN wx b D u
  own : OwnM n1 wx u L
  below : Below n1 W0 wx
def NC6 : Array Value := #[.string ⟨#[109, 97, 105, 108]⟩, .string ⟨#[117, 105, 100]⟩, .string ⟨#[111, 117]⟩, .string ⟨#[109, 101, 109, 98, 101, 114]⟩, .string ⟨#[117, 105, 100, 110, 117, 109, 98, 101, 114]⟩, .string ⟨#[111]⟩]
def NC2 : Array Value := #[.string ⟨#[100, 101, 115, 99, 114, 105, 112, 116, 105, 111, 110]⟩, .string ⟨#[117, 115, 101, 114, 112, 97, 115, 115, 119, 111, 114, 100]⟩]
def nmB (l : Array Value) (q : Nat) : ByteArray := match l.getD q undef with
  | .string x => x
  | _ => ⟨#[]⟩
def FLess (n1 h0 b6 k : Nat) (D : ByteArray) (L1 L2 : List AT) (p q : Bool) (i : Nat) (v : Value) (w : World) : Prop := match i with
  | 0 => v = .pointer (some ⟨h0, 0, none⟩)
  | 1 => v = .string D
  | 2 => p = true ∨ ∃ b, v = .slice (some ⟨b, 0, none⟩) 0 0 ∧ n1 ≤ b ∧ w.heap[b]? = some (.cells #[] 54 (0, 0))
  | 3 => v = .slice (some ⟨b6, 0, none⟩) 3 3
  | 4 => v = .int .i64 (k : Int)
  | 5 => v = .slice (some ⟨b6, 0, none⟩) k 3
  | 6 => q = true ∨ OwnM n1 w v L1
  | 7 => v = .slice (some ⟨b6, 0, none⟩) 3 3
  | 8 => v = .int .i64 (k : Int)
  | 9 => v = .int .i64 ((k : Int) + 1)
  | 10 => v = .slice (some (if k = 2 then ⟨b6, 0, none⟩ else ⟨b6, (k + 1) * 2, none⟩)) (2 - k) (2 - k)
  | 11 => q = true ∧ OwnM n1 w v L2
  | 12 => q = true ∧ ∃ s, v = .agg #[.string D, s] ∧ OwnM n1 w s L2
  | 13 => ∃ b, v = .pointer (some ⟨b, 0, none⟩) ∧ n1 ≤ b ∧ w.heap[b]? = some (.cells #[.string ⟨#[]⟩, .slice none 0 0] 24 (0, 0))
  | _ => True
theorem FLess.go {n1 h0 b6 k : Nat} {D : ByteArray} {L1 L2 : List AT} {p q : Bool} {i : Nat} {v : Value} {w w' : World} (h : FLess n1 h0 b6 k D L1 L2 p q i v w) (hb : Below w.heap.size w w') : FLess n1 h0 b6 k D L1 L2 p q i v w' := by
  have hk : ∀ {b : Nat} {o : Obj}, w.heap[b]? = some o → w'.heap[b]? = some o := fun e => (hb.block _ (Array.getElem?_eq_some_iff.1 e).1).trans e
  match i, h with
  | 0, h => exact h
  | 1, h => exact h
  | 2, h => exact h.imp id fun ⟨b, e, hn, hc⟩ => ⟨b, e, hn, hk hc⟩
  | 3, h => exact h
  | 4, h => exact h
  | 5, h => exact h
  | 6, h => exact h.imp id fun x => ownM_below x hb
  | 7, h => exact h
  | 8, h => exact h
  | 9, h => exact h
  | 10, h => exact h
  | 11, h => exact ⟨h.1, ownM_below h.2 hb⟩
  | 12, h => obtain ⟨hq, s, e, x⟩ := h; exact ⟨hq, s, e, ownM_below x hb⟩
  | 13, h => obtain ⟨b, e, hn, hc⟩ := h; exact ⟨b, e, hn, hk hc⟩
  | _ + 14, h => exact trivial
def FMore (n1 h0 b6 wh q6 : Nat) (D : ByteArray) (NC : Array Value) (NA VT : ByteArray) (L1 L2 : List AT) (p q : Bool) (i : Nat) (v : Value) (w : World) : Prop := match i with
  | 0 => v = .pointer (some ⟨h0, 0, none⟩)
  | 1 => v = .string D
  | 2 => p = true ∨ ∃ b, v = .slice (some ⟨b, 0, none⟩) 0 0 ∧ n1 ≤ b ∧ w.heap[b]? = some (.cells #[] 54 (0, 0))
  | 3 => v = .slice (some ⟨b6, 0, none⟩) 3 3
  | 4 => q = true ∨ OwnM n1 w v L1
  | 5 => ∃ b, v = .slice (some ⟨b, 0, none⟩) NC.size NC.size ∧ w.heap[b]? = some (.cells NC 9 (0, 0))
  | 6 => v = .int .u8 (wh : Int)
  | 7 => v = .int .u8 (q6 : Int)
  | 8 => ∃ b, v = .pointer (some ⟨b, q6, none⟩) ∧ w.heap[b]? = some (.cells NC 9 (0, 0))
  | 9 => v = .string NA
  | 10 => ∃ b, v = .slice (some ⟨b, 0, none⟩) 1 1 ∧ w.heap[b]? = some (.cells #[.string VT] 9 (0, 0))
  | 11 => ∃ b, v = .agg #[.string NA, .slice (some ⟨b, 0, none⟩) 1 1] ∧ w.heap[b]? = some (.cells #[.string VT] 9 (0, 0))
  | 12 => q = true ∨ ∃ c b, v = .slice (some ⟨c, 0, none⟩) 1 1 ∧ w.heap[c]? = some (.cells #[.string NA, .slice (some ⟨b, 0, none⟩) 1 1] 54 (0, 0)) ∧ w.heap[b]? = some (.cells #[.string VT] 9 (0, 0))
  | 13 => q = true ∧ OwnM n1 w v L2
  | 14 => q = true ∧ ∃ s, v = .agg #[.string D, s] ∧ OwnM n1 w s L2
  | 15 => ∃ b, v = .pointer (some ⟨b, 0, none⟩) ∧ n1 ≤ b ∧ w.heap[b]? = some (.cells #[.string ⟨#[]⟩, .slice none 0 0] 24 (0, 0))
  | _ => True
theorem FMore.go {n1 h0 b6 wh q6 : Nat} {D : ByteArray} {NC : Array Value} {NA VT : ByteArray} {L1 L2 : List AT} {p q : Bool} {i : Nat} {v : Value} {w w' : World} (h : FMore n1 h0 b6 wh q6 D NC NA VT L1 L2 p q i v w) (hb : Below w.heap.size w w') : FMore n1 h0 b6 wh q6 D NC NA VT L1 L2 p q i v w' := by
  have hk : ∀ {b : Nat} {o : Obj}, w.heap[b]? = some o → w'.heap[b]? = some o := fun e => (hb.block _ (Array.getElem?_eq_some_iff.1 e).1).trans e
  match i, h with
  | 0, h => exact h
  | 1, h => exact h
  | 2, h => exact h.imp id fun ⟨b, e, hn, hc⟩ => ⟨b, e, hn, hk hc⟩
  | 3, h => exact h
  | 4, h => exact h.imp id fun x => ownM_below x hb
  | 5, h => obtain ⟨b, e, hc⟩ := h; exact ⟨b, e, hk hc⟩
  | 6, h => exact h
  | 7, h => exact h
  | 8, h => obtain ⟨b, e, hc⟩ := h; exact ⟨b, e, hk hc⟩
  | 9, h => exact h
  | 10, h => obtain ⟨b, e, hc⟩ := h; exact ⟨b, e, hk hc⟩
  | 11, h => obtain ⟨b, e, hc⟩ := h; exact ⟨b, e, hk hc⟩
  | 12, h => exact h.imp id fun ⟨c, b, e, h1, h2⟩ => ⟨c, b, e, hk h1, hk h2⟩
  | 13, h => exact ⟨h.1, ownM_below h.2 hb⟩
  | 14, h => obtain ⟨hq, s, e, x⟩ := h; exact ⟨hq, s, e, ownM_below x hb⟩
  | 15, h => obtain ⟨b, e, hn, hc⟩ := h; exact ⟨b, e, hn, hk hc⟩
  | _ + 16, h => exact trivial
end Go.Proofs.YtlimajgmdhhggaaGreatDoor


namespace Go.Proofs.YtlimajgmdhhggaaGreatDoor
open Go.RowKit
set_option linter.unusedVariables false

section
variable {P : Program} {ops : Array Oper} {Q : Exit → Act → World → Prop}

end
end Go.Proofs.YtlimajgmdhhggaaGreatDoor


namespace Go.Proofs.YtlimajgmdhhggaaGreatDoor
open Go.RowKit
set_option linter.unusedVariables false

inductive Fk where
  | is (v : Value)
  | val (VB : Array Value) (g : Nat → Value)
  | att (M : List AT)
  | row (P : List PT) (L : List AT)
  | txt (L : List (List UInt8))
  | any
def FK (B : Nat) (T : List Fk) (q : Bool) (i : Nat) (v : Value) (w : World) : Prop := match T.getD i .any with
  | .is x => v = x
  | .val VB g => ∃ b, v = g b ∧ w.heap[b]? = some (.cells VB 9 (0, 0))
  | .att M => q = true ∨ ∃ c PM, v = .slice (some ⟨c, 0, none⟩) M.length M.length ∧ w.heap[c]? = some (.cells (cellsP PM).toArray 54 (0, 0)) ∧ SaysM w PM M
  | .row P L => q = true ∧ ∃ PM, RowP B w v (P ++ PM) ∧ SaysM w (P ++ PM) L
  | .txt L => IsTo (StrB w) w L v
  | .any => True
theorem FK.go {B : Nat} {T : List Fk} {q : Bool} {i : Nat} {v : Value} {w w' : World} (h : FK B T q i v w) (hb : Below w.heap.size w w') : FK B T q i v w' := by
  have hk : ∀ {b : Nat} {o : Obj}, w.heap[b]? = some o → w'.heap[b]? = some o := fun e => (hb.block _ (Array.getElem?_eq_some_iff.1 e).1).trans e
  unfold FK at h ⊢
  cases e : T.getD i .any with
  | is x => rw [e] at h; exact h
  | val VB g => rw [e] at h; obtain ⟨b, h1, h2⟩ := h; exact ⟨b, h1, hk h2⟩
  | att M => rw [e] at h; exact h.imp id fun ⟨c, PM, h1, h2, h3⟩ => ⟨c, PM, h1, hk h2, saysM_below h3 hb⟩
  | row P L => rw [e] at h; obtain ⟨hq, PM, h1, h2⟩ := h; exact ⟨hq, PM, rowP_below h1 hb, saysM_below h2 hb⟩
  | txt L => rw [e] at h; exact h.imp (fun b ⟨cs, fr, hc⟩ => ⟨cs, fr, hk hc⟩) (fun b o hs => hb.cell (p := ⟨b, o, none⟩) hs.lt)
  | any => exact trivial
def kOf (ns : List UInt8) (i : Nat) : Nat := (ns.getD i 0).toNat
structure MkAt (B : Nat) (W : World) (ge : Nat) (D : ByteArray) (u : Value) (P : List PT) (L : List AT) (kb : Nat) (KC : Array Value) : Prop where
  box : BoxN W ge D u
  row : RowP B W u P
  says : SaysM W P L
  nums : W.heap[kb]? = some (.cells KC 3 (0, 0))
  lo : B ≤ ge
theorem MkAt.own {B ge kb : Nat} {D : ByteArray} {u : Value} {P : List PT} {L : List AT} {KC : Array Value} {W : World} (h : MkAt B W ge D u P L kb KC) : OwnM B W u L := ⟨P, h.row, h.says⟩
theorem MkAt.go {B ge kb : Nat} {D : ByteArray} {u : Value} {P : List PT} {L : List AT} {KC : Array Value} {W W' : World} (h : MkAt B W ge D u P L kb KC) (hb : Below W.heap.size W W') : MkAt B W' ge D u P L kb KC :=
  ⟨h.box.below hb (Array.getElem?_eq_some_iff.1 h.box).1, rowP_below h.row hb, saysM_below h.says hb, (hb.block _ (Array.getElem?_eq_some_iff.1 h.nums).1).trans h.nums, h.lo⟩
def MkJ (B ge kb : Nat) (D : ByteArray) (u : Value) (P : List PT) (L : List AT) (KC : Array Value) (q : Bool) (W : World) : Prop := BoxN W ge D u ∧ W.heap[kb]? = some (.cells KC 3 (0, 0)) ∧ (q = false → RowP B W u P ∧ SaysM W P L)
theorem MkJ.go {B ge kb : Nat} {D : ByteArray} {u : Value} {P : List PT} {L : List AT} {KC : Array Value} {q : Bool} {W W' : World} (h : MkJ B ge kb D u P L KC q W) (hb : Below W.heap.size W W') : MkJ B ge kb D u P L KC q W' :=
  ⟨h.1.below hb (Array.getElem?_eq_some_iff.1 h.1).1, (hb.block _ (Array.getElem?_eq_some_iff.1 h.2.1).1).trans h.2.1, fun e => ⟨rowP_below (h.2.2 e).1 hb, saysM_below (h.2.2 e).2 hb⟩⟩
theorem MkAt.j {B ge kb : Nat} {D : ByteArray} {u : Value} {P : List PT} {L : List AT} {KC : Array Value} {W : World} (h : MkAt B W ge D u P L kb KC) : MkJ B ge kb D u P L KC false W := ⟨h.box, h.nums, fun _ => ⟨h.row, h.says⟩⟩
end Go.Proofs.YtlimajgmdhhggaaGreatDoor


namespace Go.Proofs.YtlimajgmdhhggaaGreatDoor
open Go.RowKit
set_option linter.unusedVariables false

def mkN (ns : List UInt8) : List UInt8 := 110 :: Lib.itoa ((kOf ns 0 % 6 : Nat) : Int)
def mkLa (ns : List UInt8) : List AT := if kOf ns 1 % 3 = 0 then [([99, 110], [mkN ns]), (objB, [[105, 110, 101, 116, 79, 114, 103, 80, 101, 114, 115, 111, 110]]), ([115, 110], [[115]]), ([109, 97, 105, 108], [[97, 64] ++ Lib.itoa (kOf ns 2 : Int)])] else perL (mkN ns)
def mkLb (ns : List UInt8) : List AT := if kOf ns 1 % 3 = 1 then mkLa ns ++ [([68, 101, 115, 99, 114, 105, 112, 116, 105, 111, 110], [[100, 32] ++ Lib.itoa ((kOf ns 2 % 9 : Nat) : Int), [101]])] else mkLa ns
def mkLc (ns : List UInt8) : List AT := if kOf ns 3 % 4 = 0 then (mkLb ns).set 1 (objB, ((mkLb ns).getD 1 ([], [])).2 ++ [[112, 111, 115, 105, 120]]) ++ [([117, 105, 100], [[117] ++ Lib.itoa ((kOf ns 4 % 9 : Nat) : Int)]), ([117, 105, 100, 78, 117, 109, 98, 101, 114], [Lib.itoa ((kOf ns 4 : Int) - 100)])] else mkLb ns
def mkLd (ns : List UInt8) : List AT := if kOf ns 3 % 4 = 1 then mkLc ns ++ [([117, 115, 101, 114, 80, 97, 115, 115, 119, 111, 114, 100], [[115, 101, 99, 114, 101, 116]])] else mkLc ns
def mkD (ns : List UInt8) : List UInt8 := if kOf ns 5 % 5 = 0 then [99, 110, 61] ++ mkN ns else if kOf ns 5 % 5 = 1 then [67, 78, 61] ++ mkN ns ++ [44, 111, 117, 61, 97, 44, 111, 61, 120] else perD (mkN ns)
end Go.Proofs.YtlimajgmdhhggaaGreatDoor


namespace Go.Proofs.YtlimajgmdhhggaaGreatDoor
open Go.RowKit
set_option linter.unusedVariables false

end Go.Proofs.YtlimajgmdhhggaaGreatDoor


namespace Go.Proofs.YtlimajgmdhhggaaGreatDoor
open Go.RowKit
set_option linter.unusedVariables false

def tinyT (k : Nat) (A : List (List UInt8)) : Prop := A.length ≤ k ∧ ∀ t ∈ A, t.length ≤ 1000
def tinyA (k : Nat) (L : List AT) : Prop := L.length ≤ k ∧ ∀ a ∈ L, a.1.length ≤ 1000 ∧ tinyT k a.2
theorem tinyT.mono {k m : Nat} {A : List (List UInt8)} (h : tinyT k A) (hk : k ≤ m) : tinyT m A := ⟨Nat.le_trans h.1 hk, h.2⟩
theorem tinyA.mono {k m : Nat} {L : List AT} (h : tinyA k L) (hk : k ≤ m) : tinyA m L := ⟨Nat.le_trans h.1 hk, fun a ha => ⟨(h.2 a ha).1, (h.2 a ha).2.mono hk⟩⟩
theorem tinyA.set {k j : Nat} {L : List AT} {x : AT} (h : tinyA k L) (h1 : x.1.length ≤ 1000) (h2 : tinyT k x.2) : tinyA k (L.set j x) :=
  ⟨by simpa using h.1, fun a ha => by
    rcases List.mem_or_eq_of_mem_set ha with h' | rfl
    · exact h.2 _ h'
    · exact ⟨h1, h2⟩⟩
theorem tinyA.app {k : Nat} {L M : List AT} (h : tinyA k L) (hm : tinyA k M) (hl : L.length + M.length ≤ k) : tinyA k (L ++ M) :=
  ⟨by rw [List.length_append]; exact hl, fun a ha => by
    rcases List.mem_append.1 ha with h' | h'
    · exact h.2 _ h'
    · exact hm.2 _ h'⟩
theorem tinyT.app {k : Nat} {L M : List (List UInt8)} (h : tinyT k L) (hm : tinyT k M) (hl : L.length + M.length ≤ k) : tinyT k (L ++ M) :=
  ⟨by rw [List.length_append]; exact hl, fun a ha => by
    rcases List.mem_append.1 ha with h' | h'
    · exact h.2 _ h'
    · exact hm.2 _ h'⟩
theorem tinyA.at {k j : Nat} {L : List AT} (h : tinyA k L) (hj : j < L.length) : L[j].1.length ≤ 1000 ∧ tinyT k L[j].2 := h.2 _ (List.getElem_mem hj)

theorem ownS_strB {B : Nat} {w : World} {v : Value} {L : List (List UInt8)} (h : OwnS B w v L) (hl : L.length ≤ maxLen) : IsTo (StrB w) w L v := by
  have hc := ownS_isTo h hl
  by_cases hL : L = []
  · subst hL
    obtain ⟨a, c, hv⟩ := ownS_slice h
    exact ⟨a, c, hv, hl, fun j hj => absurd hj (by simp)⟩
  · obtain ⟨g, c, hv, _, hg, hcell⟩ := ownS_at h hL
    subst hv
    refine ⟨_, c, rfl, hl, fun j hj => ⟨g, 0, rfl, ?_, by rw [Nat.zero_add]; exact hcell j hj⟩⟩
    rcases h.2 with ⟨h', _⟩ | ⟨g', cap', cur, h', _, hgc, _⟩
    · simp at h'
    · simp only [Value.slice.injEq, Option.some.injEq, Addr.mk.injEq, and_true] at h'
      obtain ⟨rfl, _, _⟩ := h'
      exact ⟨cur, _, hgc⟩
theorem ownM_mono {B B' : Nat} {w : World} {v : Value} {L : List AT} (h : OwnM B w v L) (hb : B' ≤ B) : OwnM B' w v L := by
  obtain ⟨P, h1, h2⟩ := h
  exact ⟨P, World.ownsRow.mono h1 hb, h2⟩
end Go.Proofs.YtlimajgmdhhggaaGreatDoor


namespace Go.Proofs.YtlimajgmdhhggaaGreatDoor
set_option linter.unusedVariables false

theorem decFrom_snoc (b : UInt8) : ∀ (l : List UInt8) (acc : Nat), Lib.decFrom acc (l ++ [b]) = (Lib.decFrom acc l).bind fun n => (Lib.digitVal b).map fun d => n * 10 + d
  | [], acc => by
    simp only [List.nil_append, Lib.decFrom, Option.bind_some]
    cases Lib.digitVal b <;> rfl
  | c :: l, acc => by
    simp only [List.cons_append, Lib.decFrom]
    cases Lib.digitVal c with
    | none => rfl
    | some d => exact decFrom_snoc b l _
theorem dec_ne (u : Nat) : Lib.decDigits u ≠ [] := by
  intro e
  have := Lib.decDigits_length u
  have h2 := Lib.nDigits_pos u
  rw [e] at this
  simp at this
  omega
theorem dec_digits (u : Nat) : ∀ c ∈ Lib.decDigits u, 48 ≤ c.toNat ∧ c.toNat ≤ 57 := by
  induction u using Nat.strongRecOn with
  | _ u ih =>
    intro c hc
    by_cases h : u < 10
    · rw [Lib.decDigits_one h] at hc
      simp at hc
      subst hc
      simp; omega
    · rw [Lib.decDigits, dif_neg h] at hc
      rcases List.mem_append.1 hc with hc | hc
      · exact ih (u / 10) (by omega) c hc
      · simp at hc
        subst hc
        simp; omega
theorem dec_head (u : Nat) (h0 : 1 ≤ u) : ∀ c r, Lib.decDigits u = c :: r → c.toNat ≠ 48 := by
  induction u using Nat.strongRecOn with
  | _ u ih =>
    intro c r hc
    by_cases h : u < 10
    · rw [Lib.decDigits_one h] at hc
      simp at hc
      rw [← hc.1]
      simp; omega
    · rw [Lib.decDigits, dif_neg h] at hc
      cases hd : Lib.decDigits (u / 10) with
      | nil => exact absurd hd (dec_ne _)
      | cons x y =>
        rw [hd] at hc
        simp at hc
        rw [← hc.1]
        exact ih (u / 10) (by omega) (by omega) x y hd
theorem itoa_ne (v : Int) : Lib.itoa v ≠ [] := by
  unfold Lib.itoa
  split
  · simp
  · exact dec_ne _
theorem trim_neg (l : List UInt8) : Lib.trimPrefix (45 :: l) [45] = l := by simp [Lib.trimPrefix, Lib.hasPrefix]
theorem trim_not {c : UInt8} {l : List UInt8} (h : c ≠ 45) : Lib.trimPrefix (c :: l) [45] = c :: l := by
  simp [Lib.trimPrefix, Lib.hasPrefix]
  intro e
  exact absurd e.symm h
theorem trim_itoa (v : Int) : Lib.trimPrefix (Lib.itoa v) [45] = Lib.decDigits v.natAbs := by
  unfold Lib.itoa
  split
  · exact trim_neg _
  · rename_i h
    have e : v.toNat = v.natAbs := by omega
    rw [e]
    cases hd : Lib.decDigits v.natAbs with
    | nil => exact absurd hd (dec_ne _)
    | cons c r =>
      refine trim_not ?_
      intro ec
      have := dec_digits v.natAbs c (by rw [hd]; simp)
      rw [ec] at this
      simp at this
theorem numD_some {l : List UInt8} {v : Int} (h : numD l = some v) : l = Lib.itoa v ∧ v.natAbs < 1000000000000000 := by
  unfold numD at h
  split at h
  · rename_i h15
    cases hp : Lib.parseIntB 64 l with
    | ok u =>
      rw [hp] at h
      simp only [okN] at h
      split at h
      · rename_i he
        cases h
        refine ⟨he.symm, ?_⟩
        rw [← he, trim_itoa, Lib.decDigits_length] at h15
        have h1 := Lib.lt_pow_nDigits v.natAbs
        have h2 : 10 ^ Lib.nDigits v.natAbs ≤ 10 ^ 15 := Nat.pow_le_pow_right (by decide) h15
        have h3 : (10 : Nat) ^ 15 = 1000000000000000 := by decide
        omega
      · cases h
    | «syntax» => rw [hp] at h; cases h
    | range => rw [hp] at h; cases h
  · cases h
theorem numD_minus : numD [45, 48] = none ∧ numD [45] = none ∧ numD [] = none ∧ numD [49, 50, 51, 52, 53, 54, 55, 56, 57, 48, 49, 50, 51, 52, 53, 54] = none := by
  refine ⟨?_, ?_, ?_, by decide⟩
  · cases hn : numD [45, 48] with
    | none => rfl
    | some v =>
      have h := (numD_some hn).1
      unfold Lib.itoa at h
      split at h
      · simp at h
        exact absurd rfl (dec_head v.natAbs (by omega) 48 [] h.symm)
      · exact absurd rfl ((fun e => by have := dec_digits v.toNat 45 (by rw [← h]; simp); simp at this) : ¬ (45 = 45))
  · cases hn : numD [45] with
    | none => rfl
    | some v =>
      have h := (numD_some hn).1
      unfold Lib.itoa at h
      split at h
      · simp at h
        exact absurd h (dec_ne _)
      · have := dec_digits v.toNat 45 (by rw [← h]; simp); simp at this
  · cases hn : numD [] with
    | none => rfl
    | some v => exact absurd (numD_some hn).1.symm (itoa_ne v)
end Go.Proofs.YtlimajgmdhhggaaGreatDoor


namespace Go.Proofs.YtlimajgmdhhggaaGreatDoor
open Go.RowKit
set_option linter.unusedVariables false

def nonA (L : List AT) : Prop := ∀ a ∈ L, a.2 ≠ []
theorem nonA.app {L M : List AT} (h : nonA L) (hm : nonA M) : nonA (L ++ M) := fun a ha => (List.mem_append.1 ha).elim (h a) (hm a)
end Go.Proofs.YtlimajgmdhhggaaGreatDoor


namespace Go.Proofs.YtlimajgmdhhggaaGreatDoor
open Go.RowKit
set_option linter.unusedVariables false
set_option linter.unusedSimpArgs false

def okB (t : List UInt8) (A : List (List UInt8)) : Bool :=
  !A.isEmpty && A.all fun v => A.any (likeB t v) && (ruleD t != 1 || A.any (likeB t ([32] ++ upL v ++ [32]))) && (ruleD t != 4 || (A.any (likeB t (upL v)) == (upL v == v))) && !A.any (likeB t (v ++ [33, 33]))
def tysT : List (List (List UInt8)) :=
  let c : List UInt8 := [99, 110]; let o := objB; let s : List UInt8 := [115, 110]; let m : List UInt8 := [109, 97, 105, 108]; let d : List UInt8 := [68, 101, 115, 99, 114, 105, 112, 116, 105, 111, 110]
  let u : List UInt8 := [117, 105, 100]; let n : List UInt8 := [117, 105, 100, 78, 117, 109, 98, 101, 114]; let p : List UInt8 := [117, 115, 101, 114, 80, 97, 115, 115, 119, 111, 114, 100]
  [[c, o, s], [c, o, s, m], [c, o, s, d], [c, o, s, u, n], [c, o, s, m, u, n], [c, o, s, d, u, n], [c, o, s, p], [c, o, s, m, p], [c, o, s, d, p]]
def mkE (ns : List UInt8) : List AT := sortA (normL (mkLd ns))
end Go.Proofs.YtlimajgmdhhggaaGreatDoor


namespace Go.Proofs.YtlimajgmdhhggaaGreatDoor
set_option linter.unusedVariables false
set_option linter.unusedSimpArgs false

theorem ofL_bang (l : List UInt8) (i : Nat) : (ofL l)[i]! = l[i]! := by
  by_cases h : i < l.length
  · rw [getElem!_pos (ofL l) i (by simpa [ofL, ByteArray.size] using h), getElem!_pos l i h]
    rfl
  · rw [getElem!_neg (ofL l) i (by simpa [ofL, ByteArray.size] using h), getElem!_neg l i h]
theorem cmpL_cons (x y : UInt8) (a b : List UInt8) : cmpL (x :: a) (y :: b) = if (x != y) = true then (if x < y then -1 else 1) else cmpL a b := by
  unfold cmpL Extern.BytealgCompare.cmp
  simp only [ofL_bang, ofL_size, List.length_cons]
  rw [show min (a.length + 1) (b.length + 1) = min a.length b.length + 1 by omega, List.range_succ_eq_map, List.find?_cons]
  have e0 : (x :: a)[0]! = x := rfl
  have e1 : (y :: b)[0]! = y := rfl
  rw [e0, e1]
  by_cases h : (x != y) = true
  · rw [h, if_pos rfl]
    simp only [e0, e1]
  · have h' : (x != y) = false := by simpa using h
    rw [h', List.find?_map]
    simp only [Bool.false_eq_true, if_false]
    have e2 : ((fun i => (x :: a)[i]! != (y :: b)[i]!) ∘ Nat.succ) = fun i => a[i]! != b[i]! := by
      funext i
      simp
    rw [e2]
    cases hq : List.find? (fun i => a[i]! != b[i]!) (List.range (min a.length b.length)) with
    | none =>
      have e3 : (a.length + 1 < b.length + 1) = (a.length < b.length) := propext ⟨fun h => by omega, fun h => by omega⟩
      have e4 : (a.length + 1 > b.length + 1) = (a.length > b.length) := propext ⟨fun h => by omega, fun h => by omega⟩
      simp only [Option.map_none, e3, e4]
    | some i => simp
theorem cmpL_less : ∀ a b : List UInt8, decide (cmpL a b < 0) = Op.bytesLess a b
  | a, [] => by cases a <;> simp [cmpL, Extern.BytealgCompare.cmp, ofL_size, Op.bytesLess]
  | [], y :: b => by simp [cmpL, Extern.BytealgCompare.cmp, ofL_size, Op.bytesLess]
  | x :: a, y :: b => by
    have ih := cmpL_less a b
    rw [cmpL_cons]
    unfold Op.bytesLess
    by_cases h : x = y
    · subst h
      simp [ih]
    · have h1 : (x != y) = true := by simpa using h
      have h2 : (x == y) = false := by simpa using h
      rw [if_pos h1, h2]
      by_cases h3 : x < y <;> simp [h3]
theorem less_gtB : ∀ x y : List UInt8, Op.bytesLess y x = gtB x y
  | [], [] => rfl
  | [], _ :: _ => rfl
  | _ :: _, [] => rfl
  | a :: x, b :: y => by
    have ih := less_gtB x y
    unfold gtB at ih ⊢
    simp only [Op.bytesLess, List.cons_beq_cons]
    rw [ih]
    by_cases h : a = b
    · subst h; simp
    · have h1 : (a == b) = false := by simpa using h
      have h2 : (b == a) = false := by simpa using Ne.symm h
      rw [h1, h2]
      have h3 : a.toNat ≠ b.toNat := fun e => h (UInt8.toNat_inj.1 e)
      simp only [UInt8.lt_iff_toNat_lt]
      by_cases h4 : a.toNat < b.toNat
      · have h5 : ¬ b.toNat < a.toNat := by omega
        simp [h4, h5]
      · have h5 : b.toNat < a.toNat := by omega
        simp [h4, h5]
theorem cmp_gtB (x y : List UInt8) : cmpL y x < 0 ↔ gtB x y = true := by
  rw [← less_gtB, ← cmpL_less]; simp

def posB (S : List AT) (a : AT) : Nat → Nat
  | 0 => 0
  | k + 1 => match S[k]? with
    | some s => if gtB s.1 a.1 = true then posB S a k else k + 1
    | none => k + 1
def insB (S : List AT) (a : AT) : List AT := S.take (posB S a S.length) ++ a :: S.drop (posB S a S.length)
theorem posB_le (S : List AT) (a : AT) : ∀ k, posB S a k ≤ k
  | 0 => Nat.le_refl _
  | k + 1 => by
    unfold posB
    split
    · split
      · exact Nat.le_succ_of_le (posB_le S a k)
      · exact Nat.le_refl _
    · exact Nat.le_refl _
theorem posB_go {S : List AT} {a : AT} {k : Nat} (h : k < S.length) (hg : gtB S[k].1 a.1 = true) : posB S a (k + 1) = posB S a k := by
  rw [posB, List.getElem?_eq_getElem h]; simp only []; rw [if_pos hg]
theorem posB_stop {S : List AT} {a : AT} {k : Nat} (h : k < S.length) (hg : gtB S[k].1 a.1 = false) : posB S a (k + 1) = k + 1 := by
  rw [posB, List.getElem?_eq_getElem h]; simp only []; rw [if_neg (by simp [hg])]
theorem insB_length (S : List AT) (a : AT) : (insB S a).length = S.length + 1 := by
  unfold insB
  have := posB_le S a S.length
  simp; omega
theorem bub_pos (S : List AT) (a : AT) (r : List AT) : ∀ j, j ≤ S.length → bubG (fun a => a.1) j (S.take j ++ a :: (S.drop j ++ r)) = S.take (posB S a j) ++ a :: (S.drop (posB S a j) ++ r)
  | 0, _ => rfl
  | j + 1, h => by
    have hj : j < S.length := by omega
    have hl : j + 1 < (S.take (j + 1) ++ a :: (S.drop (j + 1) ++ r)).length := by simp; omega
    have hs : S.take (j + 1) = S.take j ++ [S[j]] := by rw [List.take_succ_eq_append_getElem hj]
    have hd : S.drop j = S[j] :: S.drop (j + 1) := List.drop_eq_getElem_cons hj
    have htl : (S.take j).length = j := by simp; omega
    have g1 : (S.take (j + 1) ++ a :: (S.drop (j + 1) ++ r))[j + 1]'hl = a := by
      rw [List.getElem_append_right (by simp; omega)]
      simp [show j + 1 - min (j + 1) S.length = 0 by omega]
    have g0 : (S.take (j + 1) ++ a :: (S.drop (j + 1) ++ r))[j]'(by omega) = S[j] := by
      rw [List.getElem_append_left (by simp; omega)]
      simp
    by_cases hg : gtB S[j].1 a.1 = true
    · rw [bubG_go hl (by rw [g1, g0]; exact (cmp_gtB _ _).2 hg), posB_go hj hg]
      have hsw : swapG (S.take (j + 1) ++ a :: (S.drop (j + 1) ++ r)) j = S.take j ++ a :: (S.drop j ++ r) := by
        rw [swapG_at hl, g1, g0, hs, hd]
        rw [List.append_assoc]
        simp only [List.cons_append, List.nil_append]
        rw [List.set_append_right _ _ (by omega), List.set_append_right _ _ (by omega)]
        rw [htl]
        simp
      rw [hsw]
      exact bub_pos S a r j (by omega)
    · have hg' : gtB S[j].1 a.1 = false := by simpa using hg
      rw [bubG_stop hl (by rw [g1, g0]; intro e; exact hg ((cmp_gtB _ _).1 e)), posB_stop hj hg']
theorem srt_fold (L : List AT) : ∀ k, k < L.length → srtG (fun a => a.1) k L = (L.take (k + 1)).foldl insB [] ++ L.drop (k + 1)
  | 0, h => by
    cases L with
    | nil => simp at h
    | cons a r => rfl
  | k + 1, h => by
    have ih := srt_fold L k (by omega)
    have hlen : ∀ (M : List AT) (S : List AT), (M.foldl insB S).length = S.length + M.length := by
      intro M
      induction M with
      | nil => intro S; rfl
      | cons a r ih => intro S; rw [List.foldl_cons, ih, insB_length, List.length_cons]; omega
    show bubG (fun a => a.1) (k + 1) (srtG (fun a => a.1) k L) = _
    rw [ih]
    obtain ⟨S, hS⟩ : ∃ S, S = (L.take (k + 1)).foldl insB [] := ⟨_, rfl⟩
    have hSl : S.length = k + 1 := by rw [hS, hlen]; simp; omega
    rw [← hS, List.drop_eq_getElem_cons h]
    have hb := bub_pos S L[k + 1] (L.drop (k + 1 + 1)) (k + 1) (by omega)
    rw [List.take_of_length_le (by omega), List.drop_of_length_le (by omega), List.nil_append] at hb
    rw [hb, List.take_succ_eq_append_getElem h, List.foldl_append, ← hS]
    show _ = insB S L[k + 1] ++ _
    unfold insB
    rw [hSl, List.append_assoc]; rfl
theorem sortA_fold (L : List AT) : sortA L = L.foldl insB [] := by
  unfold sortA
  cases hl : L with
  | nil => rfl
  | cons a r =>
    rw [srt_fold _ _ (by simp)]
    rw [List.take_of_length_le (by simp), List.drop_of_length_le (by simp), List.append_nil]
end Go.Proofs.YtlimajgmdhhggaaGreatDoor


namespace Go.Proofs.YtlimajgmdhhggaaGreatDoor
set_option linter.unusedVariables false
set_option linter.unusedSimpArgs false

def ordT (T : List (List UInt8)) : Bool := (List.range (T.length - 1)).all fun i => gtB (T.getD i []) (T.getD (i + 1) []) == false
def setN : List (List UInt8) := [[99, 110], [83, 78], [109, 97, 105, 108], [68, 101, 115, 99, 114, 105, 112, 116, 105, 111, 110], [117, 105, 100, 110, 117, 109, 98, 101, 114], [110, 111, 110, 101], [79]]
end Go.Proofs.YtlimajgmdhhggaaGreatDoor


namespace Go.Proofs.YtlimajgmdhhggaaGreatDoor
open Go.RowKit
set_option linter.unusedVariables false

set_option maxRecDepth 100000 in
set_option maxHeartbeats 2000000 in
theorem textsRef_q (L M : List (List UInt8)) (hs : L.length ≤ 1000000) (v u : Value) (w : World) (hL : IsT w.heap.size w L v) (hM : IsT w.heap.size w M u) :
    Calls Tryz.prog 15 #[v, u] w fun e w' => e = .returned (.bool (L == M)) ∧ ∃ m, w' = w.drewN m := by
  obtain ⟨a, c, rfl, hm, hcell⟩ := hL
  obtain ⟨b, d, rfl, hm2, hcell2⟩ := hM
  unfold maxLen at hm hm2
  have HC := Lib.hid hcell
  have HD := Lib.hid hcell2
  obtain ⟨R, hR⟩ : ∃ R, R = (L == M) := ⟨_, rfl⟩
  rw [← hR]
  have HR := Lib.hid hR
  clear hcell hcell2 hR
  by_cases hlen : L.length = M.length
  · have t0 : ((L.length : Int) != (M.length : Int)) = false := by simp [hlen]
    have t0' : ((M.length : Int) != (M.length : Int)) = false := by simp
    obtain ⟨n, hn⟩ : ∃ n, n = L.length := ⟨_, rfl⟩
    have hn2 : n = M.length := hn.trans hlen
    have HN := Lib.hid hn
    have HN2 := Lib.hid hn2
    have hn5 : n ≤ 1000000 := by omega
    rw [← hn, ← hn2]
    clear t0 t0' hlen hn hn2 hm hm2 hs
    go_enter Tryz.func15, Tryz.ntmps15
    go_wp2
    go_loopw [5] (fun i wr => ∃ j : Nat, j ≤ n ∧ i = .int .i64 j ∧ Hid (∀ k (h1 : k < L.length) (h2 : k < M.length), k < j → L[k] = M[k]) ∧ ∃ q, wr = w.drewN q) (fun i wr => n - (intOf i).toNat)
    case atStart => exact ⟨0, by omega, rfl, Lib.hid (fun k _ _ h => absurd h (by omega)), 0, rfl⟩
    case round =>
      obtain ⟨j, hj, rfl, HAll, q, rfl⟩ := hrel
      by_cases hlt : j < n
      · have t1 : decide ((j : Int) < (n : Int)) = true := by simp; omega
        have t1' : decide (j < n) = true := by simpa using hlt
        have q1 : (j : Int) < (n : Int) := by omega
        have hl1 : j < L.length := by rw [← HN.out]; exact hlt
        have hl2 : j < M.length := by rw [← HN2.out]; exact hlt
        obtain ⟨b1, f1, rfl, hb1, x0⟩ := HC.out j hl1
        obtain ⟨b2, f2, rfl, hb2, y0⟩ := HD.out j hl2
        obtain ⟨X, hX⟩ : ∃ X : ByteArray, ofL L[j] = X := ⟨_, rfl⟩
        obtain ⟨Y, hY⟩ : ∃ Y : ByteArray, ofL M[j] = Y := ⟨_, rfl⟩
        have gX : X.data.toList = L[j] := by rw [← hX, ofL_list]
        have gY : Y.data.toList = M[j] := by rw [← hY, ofL_list]
        have d0 : w.cell? ⟨b1, f1 + j, none⟩ = some (.string X) := by rw [x0, ← hX]; rfl
        have d1 : w.cell? ⟨b2, f2 + j, none⟩ = some (.string Y) := by rw [y0, ← hY]; rfl
        have GX := Lib.hid gX
        have GY := Lib.hid gY
        clear x0 y0 hX hY gX gY
        by_cases he : X = Y
        · subst he
          have HN1 : Hid (∀ k (h1 : k < L.length) (h2 : k < M.length), k < j + 1 → L[k] = M[k]) := Lib.hid (fun k h1 h2 h3 => by
            by_cases hk : k < j
            · exact HAll.out k h1 h2 hk
            · obtain rfl : k = j := by omega
              rw [← GX.out, ← GY.out])
          clear GX GY hl1 hl2
          go_wp2
          go_quiet (fail)
          go_wp2
          go_roundw
          case rel => exact ⟨j + 1, by omega, by go_num, HN1, _, rfl⟩
          case measure => simp [intOf]; omega
        · have t2 := str_ne he
          have HF : Hid (R = false) := Lib.hid (HR.out.trans (by
            have : L ≠ M := fun e => by
              subst e
              exact he (bytes_ext (by rw [GX.out, GY.out]))
            simpa using this))
          clear GX GY he hl1 hl2
          go_wp2
          go_quiet (fail)
          go_wp2
          go_ret
          exact ⟨by rw [HF.out]; rfl, _, World.drewN_drewN ..⟩
      · obtain rfl : j = n := by omega
        have t1 : decide ((j : Int) < (j : Int)) = false := by simp
        have t1' : decide (j < j) = false := by simp
        have HF : Hid (R = true) := Lib.hid (HR.out.trans (by
          have : L = M := List.ext_getElem (by rw [← HN.out, ← HN2.out]) (fun k h1 h2 => HAll.out k h1 h2 (by rw [HN.out]; exact h1))
          simp [this]))
        go_wp2
        go_ret
        exact ⟨by rw [HF.out]; rfl, _, rfl⟩
  · have t0 : ((L.length : Int) != (M.length : Int)) = true := by simp; omega
    have HF : Hid (R = false) := Lib.hid (HR.out.trans (by
      have : L ≠ M := fun e => hlen (by rw [e])
      simpa using this))
    clear hlen
    go_enter Tryz.func15, Tryz.ntmps15
    go_wp2
    go_ret
    exact ⟨by rw [HF.out]; rfl, 0, rfl⟩

set_option maxRecDepth 100000 in
set_option maxHeartbeats 2000000 in
theorem equalT_any (L M : List (List UInt8)) (hs : L.length ≤ 1000000) (v u : Value) (w : World) (hL : IsT w.heap.size w L v) (hM : IsT w.heap.size w M u) :
    Calls Tryz.prog 102 #[v, u] w fun e w' => e = .returned (.bool (L == M)) ∧ Below w.heap.size w w' := by
  obtain ⟨a, c, rfl, hm, hcell⟩ := hL
  obtain ⟨b, d, rfl, hm2, hcell2⟩ := hM
  unfold maxLen at hm hm2
  have HC := Lib.hid hcell
  have HD := Lib.hid hcell2
  obtain ⟨R, hR⟩ : ∃ R, R = (L == M) := ⟨_, rfl⟩
  rw [← hR]
  have HR := Lib.hid hR
  clear hcell hcell2 hR
  by_cases hlen : L.length = M.length
  · have t0 : ((L.length : Int) != (M.length : Int)) = false := by simp [hlen]
    have t0' : ((M.length : Int) != (M.length : Int)) = false := by simp
    obtain ⟨n, hn⟩ : ∃ n, n = L.length := ⟨_, rfl⟩
    have hn2 : n = M.length := hn.trans hlen
    have HN := Lib.hid hn
    have HN2 := Lib.hid hn2
    have hn5 : n ≤ 1000000 := by omega
    rw [← hn, ← hn2]
    clear t0 t0' hlen hn hn2 hm hm2 hs
    go_enter Tryz.func102, Tryz.ntmps102
    go_wp2
    go_loopw [13] (fun i wr => ∃ j : Nat, j ≤ n ∧ i = .int .i64 j ∧ Hid (∀ k (h1 : k < L.length) (h2 : k < M.length), k < j → L[k] = M[k]) ∧ Below w.heap.size w wr) (fun i wr => n - (intOf i).toNat)
    case atStart => exact ⟨0, by omega, rfl, Lib.hid (fun k _ _ h => absurd h (by omega)), Below.refl _ _⟩
    case round =>
      obtain ⟨j, hj, rfl, HAll, hbel⟩ := hrel
      have HBel := Lib.hid hbel
      by_cases hlt : j < n
      · have t1 : decide ((j : Int) < (n : Int)) = true := by simp; omega
        have t1' : decide (j < n) = true := by simpa using hlt
        have q1 : (j : Int) < (n : Int) := by omega
        have hl1 : j < L.length := by rw [← HN.out]; exact hlt
        have hl2 : j < M.length := by rw [← HN2.out]; exact hlt
        obtain ⟨b1, f1, rfl, hb1, x0⟩ := HC.out j hl1
        obtain ⟨b2, f2, rfl, hb2, y0⟩ := HD.out j hl2
        obtain ⟨X, hX⟩ : ∃ X : ByteArray, ofL L[j] = X := ⟨_, rfl⟩
        obtain ⟨Y, hY⟩ : ∃ Y : ByteArray, ofL M[j] = Y := ⟨_, rfl⟩
        have gX : X.data.toList = L[j] := by rw [← hX, ofL_list]
        have gY : Y.data.toList = M[j] := by rw [← hY, ofL_list]
        have d0 : wr.cell? ⟨b1, f1 + j, none⟩ = some (.string X) := by rw [hbel.cell (p := ⟨b1, _, none⟩) hb1, x0, ← hX]; rfl
        have d1 : wr.cell? ⟨b2, f2 + j, none⟩ = some (.string Y) := by rw [hbel.cell (p := ⟨b2, _, none⟩) hb2, y0, ← hY]; rfl
        have GX := Lib.hid gX
        have GY := Lib.hid gY
        clear x0 y0 hX hY gX gY hbel
        by_cases he : X = Y
        · subst he
          have HN1 : Hid (∀ k (h1 : k < L.length) (h2 : k < M.length), k < j + 1 → L[k] = M[k]) := Lib.hid (fun k h1 h2 h3 => by
            by_cases hk : k < j
            · exact HAll.out k h1 h2 hk
            · obtain rfl : k = j := by omega
              rw [← GX.out, ← GY.out])
          clear GX GY hl1 hl2
          go_wp2
          go_quiet (fail)
          go_wp2
          go_roundw
          case rel => exact ⟨j + 1, by omega, by go_num, HN1, below_drewN HBel.out _⟩
          case measure => simp [intOf]; omega
        · have t2 := str_ne he
          have HF : Hid (R = false) := Lib.hid (HR.out.trans (by
            have : L ≠ M := fun e => by
              subst e
              exact he (bytes_ext (by rw [GX.out, GY.out]))
            simpa using this))
          clear GX GY he hl1 hl2
          go_wp2
          go_quiet (fail)
          go_wp2
          go_ret
          exact ⟨by rw [HF.out]; rfl, below_drewN HBel.out _⟩
      · obtain rfl : j = n := by omega
        have t1 : decide ((j : Int) < (j : Int)) = false := by simp
        have t1' : decide (j < j) = false := by simp
        have HF : Hid (R = true) := Lib.hid (HR.out.trans (by
          have : L = M := List.ext_getElem (by rw [← HN.out, ← HN2.out]) (fun k h1 h2 => HAll.out k h1 h2 (by rw [HN.out]; exact h1))
          simp [this]))
        clear hbel
        go_wp2
        go_ret
        exact ⟨by rw [HF.out]; rfl, HBel.out⟩
  · have t0 : ((L.length : Int) != (M.length : Int)) = true := by simp; omega
    have HF : Hid (R = false) := Lib.hid (HR.out.trans (by
      have : L ≠ M := fun e => hlen (by rw [e])
      simpa using this))
    clear hlen
    go_enter Tryz.func102, Tryz.ntmps102
    go_wp2
    go_ret
    exact ⟨by rw [HF.out]; rfl, Below.refl _ _⟩
end Go.Proofs.YtlimajgmdhhggaaGreatDoor


namespace Go.Proofs.YtlimajgmdhhggaaGreatDoor
open Go.RowKit
set_option linter.unusedVariables false

theorem IsT.sl {n : Nat} {w : World} {L : List (List UInt8)} {v : Value} (h : IsT n w L v) : ∃ a k c, v = .slice a k c := by
  obtain ⟨a, c, hv, _⟩ := h; exact ⟨a, _, c, hv⟩
theorem IsA.sl {n : Nat} {w : World} {L : List AT} {v : Value} (h : IsA n w L v) : ∃ a k c, v = .slice a k c := by
  obtain ⟨a, c, hv, _⟩ := h; exact ⟨a, _, c, hv⟩
set_option maxRecDepth 100000 in
set_option maxHeartbeats 2000000 in
theorem sameAttr_any (X Y : ByteArray) (A B : List (List UInt8)) (u v : Value) (hs : A.length ≤ 1000000) (w : World) (hu : IsT w.heap.size w A u) (hv : IsT w.heap.size w B v) :
    Calls Tryz.prog 63 #[.agg #[.string X, u], .agg #[.string Y, v]] w fun e w' => e = .returned (.bool ((X.data.toList, A) == (Y.data.toList, B))) ∧ Below w.heap.size w w' := by
  obtain ⟨ua, un, uc, rfl⟩ := hu.sl
  obtain ⟨va, vn, vc, rfl⟩ := hv.sl
  have hb : Below w.heap.size w ((w.alloc (.cells #[.string X, .slice ua un uc] 54)).alloc (.cells #[.string Y, .slice va vn vc] 54)) := ((Below.refl _ _).alloc (Nat.le_refl _) _).alloc (by simp) _
  have HB := Lib.hid hb
  have HU := Lib.hid hu
  have HV := Lib.hid hv
  obtain ⟨R, hR⟩ : ∃ R, R = ((X.data.toList, A) == (Y.data.toList, B)) := ⟨_, rfl⟩
  rw [← hR]
  have HR := Lib.hid hR
  clear hb hu hv hR
  by_cases he : X = Y
  · subst he
    obtain ⟨g, hg⟩ : ∃ g, g = (A == B) := ⟨_, rfl⟩
    have HF : Hid (R = g) := Lib.hid (HR.out.trans (by rw [hg]; show (X.data.toList == X.data.toList && A == B) = _; simp))
    have HG := Lib.hid hg
    clear hg
    go_enter Tryz.func63, Tryz.ntmps63
    go_wp2_with (go_at_call 102; refine (equalT_any A B hs (.slice ua un uc) (.slice va vn vc) _ (HU.out.below HB.out HB.out.size) (HV.out.below HB.out HB.out.size)).mono ?_; rintro e w2 ⟨he, hb2⟩; rw [← HG.out] at he; subst he; have HB2 := Lib.hid (HB.out.trans (hb2.mono HB.out.size)); clear hb2)
    go_ret
    exact ⟨by rw [HF.out]; rfl, HB2.out⟩
  · have t1 := str_ne he
    have HF : Hid (R = false) := Lib.hid (HR.out.trans (by
      show (X.data.toList == Y.data.toList && A == B) = false
      have : (X.data.toList == Y.data.toList) = false := by
        have : X.data.toList ≠ Y.data.toList := fun e => he (bytes_ext e)
        simpa using this
      rw [this]; rfl))
    clear he
    go_enter Tryz.func63, Tryz.ntmps63
    go_wp2
    go_ret
    exact ⟨by rw [HF.out]; rfl, HB.out⟩

set_option maxRecDepth 100000 in
set_option maxHeartbeats 4000000 in
theorem equalA_any (L M : List AT) (hs : smallA L) (v u : Value) (w : World) (hL : IsA w.heap.size w L v) (hM : IsA w.heap.size w M u) :
    Calls Tryz.prog 62 #[v, u, .func (.func 63) #[] #[]] w fun e w' => e = .returned (.bool (L == M)) ∧ Below w.heap.size w w' := by
  obtain ⟨a, c, rfl, hm, hcell⟩ := hL
  obtain ⟨b, d, rfl, hm2, hcell2⟩ := hM
  unfold maxLen at hm hm2
  have HC := Lib.hid hcell
  have HD := Lib.hid hcell2
  obtain ⟨R, hR⟩ : ∃ R, R = (L == M) := ⟨_, rfl⟩
  rw [← hR]
  have HR := Lib.hid hR
  have HS := Lib.hid hs
  clear hcell hcell2 hR
  by_cases hlen : L.length = M.length
  · obtain ⟨n, hn⟩ : ∃ n, n = L.length := ⟨_, rfl⟩
    have hn2 : n = M.length := hn.trans hlen
    have HN := Lib.hid hn
    have HN2 := Lib.hid hn2
    have hn5 : n ≤ 1000000 := by have := hs.1; omega
    rw [← hn, ← hn2]
    clear hlen hn hn2 hm hm2 hs
    go_enter Tryz.func62, Tryz.ntmps62
    go_wp2
    go_loopw [17] (fun i wr => ∃ j : Nat, j ≤ n ∧ i = .int .i64 j ∧ Hid (∀ k (h1 : k < L.length) (h2 : k < M.length), k < j → L[k] = M[k]) ∧ Below w.heap.size w wr) (fun i wr => n - (intOf i).toNat)
    case atStart => exact ⟨0, by omega, rfl, Lib.hid (fun k _ _ h => absurd h (by omega)), Below.refl _ _⟩
    case round =>
      obtain ⟨j, hj, rfl, HAll, hbel⟩ := hrel
      have HBel := Lib.hid hbel
      have hbs := hbel.size
      by_cases hlt : j < n
      · have t1 : decide ((j : Int) < (n : Int)) = true := by simp; omega
        have t1' : decide (j < n) = true := by simpa using hlt
        have q1 : (j : Int) < (n : Int) := by omega
        have hl1 : j < L.length := by rw [← HN.out]; exact hlt
        have hl2 : j < M.length := by rw [← HN2.out]; exact hlt
        obtain ⟨b1, f1, x, rfl, hb1, x0, x1, hx⟩ := HC.out j hl1
        obtain ⟨b2, f2, y, rfl, hb2, y0, y1, hy⟩ := HD.out j hl2
        obtain ⟨xa, xn, xc, rfl⟩ := hx.sl
        obtain ⟨ya, yn, yc, rfl⟩ := hy.sl
        obtain ⟨X, hX⟩ : ∃ X : ByteArray, ofL L[j].1 = X := ⟨_, rfl⟩
        obtain ⟨Y, hY⟩ : ∃ Y : ByteArray, ofL M[j].1 = Y := ⟨_, rfl⟩
        have gX : X.data.toList = L[j].1 := by rw [← hX, ofL_list]
        have gY : Y.data.toList = M[j].1 := by rw [← hY, ofL_list]
        have d0 : wr.cell? ⟨b1, f1 + j * 2, none⟩ = some (.string X) := by rw [hbel.cell (p := ⟨b1, _, none⟩) hb1, x0, ← hX]; rfl
        have d1 := (hbel.cell (p := ⟨b1, f1 + j * 2 + 1, none⟩) hb1).trans x1
        have hal : Below wr.heap.size wr (wr.alloc (.cells #[.string X, .slice xa xn xc] 54)) := (Below.refl _ _).alloc (Nat.le_refl _) _
        have e0 : (wr.alloc (.cells #[.string X, .slice xa xn xc] 54)).cell? ⟨b2, f2 + j * 2, none⟩ = some (.string Y) := by rw [hal.cell (p := ⟨b2, _, none⟩) (Nat.lt_of_lt_of_le hb2 hbs), hbel.cell (p := ⟨b2, _, none⟩) hb2, y0, ← hY]; rfl
        have e1 : (wr.alloc (.cells #[.string X, .slice xa xn xc] 54)).cell? ⟨b2, f2 + j * 2 + 1, none⟩ = some (.slice ya yn yc) := by rw [hal.cell (p := ⟨b2, _, none⟩) (Nat.lt_of_lt_of_le hb2 hbs), hbel.cell (p := ⟨b2, _, none⟩) hb2, y1]
        have h0 : ((wr.alloc (.cells #[.string X, .slice xa xn xc] 54)).alloc (.cells #[.string Y, .slice ya yn yc] 54)).cell? ⟨wr.heap.size, 0, none⟩ = some (.string X) := by rw [World.cell?_alloc_lt _ _ _ (by simp)]; simp
        have h1 : ((wr.alloc (.cells #[.string X, .slice xa xn xc] 54)).alloc (.cells #[.string Y, .slice ya yn yc] 54)).cell? ⟨wr.heap.size, 1, none⟩ = some (.slice xa xn xc) := by rw [World.cell?_alloc_lt _ _ _ (by simp)]; simp
        have hb2' : Below wr.heap.size wr ((wr.alloc (.cells #[.string X, .slice xa xn xc] 54)).alloc (.cells #[.string Y, .slice ya yn yc] 54)) := hal.alloc (by simp) _
        have HBB := Lib.hid (HBel.out.trans (hb2'.mono hbs))
        have hsa := sameAttr_any X Y L[j].2 M[j].2 (.slice xa xn xc) (.slice ya yn yc) (by have := (HS.out.2 L[j] (List.getElem_mem _)).2.1; omega) _ (hx.below HBB.out HBB.out.size) (hy.below HBB.out HBB.out.size)
        rw [gX, gY] at hsa
        obtain ⟨g, hg⟩ : ∃ g, g = ((L[j].1, L[j].2) == (M[j].1, M[j].2)) := ⟨_, rfl⟩
        rw [← hg] at hsa
        have HSa := Lib.hid hsa
        have hgl : g = (L[j] == M[j]) := hg
        cases g with
        | true =>
          have heq : L[j] = M[j] := by simpa using hgl.symm
          have HN1 : Hid (∀ k (h1 : k < L.length) (h2 : k < M.length), k < j + 1 → L[k] = M[k]) := Lib.hid (fun k h1 h2 h3 => by
            by_cases hk : k < j
            · exact HAll.out k h1 h2 hk
            · obtain rfl : k = j := by omega
              exact heq)
          clear heq hgl hg hsa x0 x1 y0 y1 hX hY gX gY hbel hal hb2' hx hy hl1 hl2
          go_wp2_with (go_at_call 63; refine (HSa.out).mono ?_; rintro e w2 ⟨rfl, hb2⟩; have HB2 := Lib.hid (HBB.out.trans (hb2.mono HBB.out.size)); clear hb2)
          go_roundw
          case rel => exact ⟨j + 1, by omega, by go_num, HN1, HB2.out⟩
          case measure => simp [intOf]; omega
        | false =>
          have hne : L[j] ≠ M[j] := by simpa using hgl.symm
          have HF : Hid (R = false) := Lib.hid (HR.out.trans (by
            have : L ≠ M := fun e => by subst e; exact hne rfl
            simpa using this))
          clear hne hgl hg hsa x0 x1 y0 y1 hX hY gX gY hbel hal hb2' hx hy hl1 hl2
          go_wp2_with (go_at_call 63; refine (HSa.out).mono ?_; rintro e w2 ⟨rfl, hb2⟩; have HB2 := Lib.hid (HBB.out.trans (hb2.mono HBB.out.size)); clear hb2)
          go_ret
          exact ⟨by rw [HF.out]; rfl, HB2.out⟩
      · obtain rfl : j = n := by omega
        have t1 : decide ((j : Int) < (j : Int)) = false := by simp
        have t1' : decide (j < j) = false := by simp
        have HF : Hid (R = true) := Lib.hid (HR.out.trans (by
          have : L = M := List.ext_getElem (by rw [← HN.out, ← HN2.out]) (fun k h1 h2 => HAll.out k h1 h2 (by rw [HN.out]; exact h1))
          simp [this]))
        clear hbel
        go_wp2
        go_ret
        exact ⟨by rw [HF.out]; rfl, HBel.out⟩
  · have t0 : ((L.length : Int) != (M.length : Int)) = true := by simp; omega
    have HF : Hid (R = false) := Lib.hid (HR.out.trans (by
      have : L ≠ M := fun e => hlen (by rw [e])
      simpa using this))
    clear hlen
    go_enter Tryz.func62, Tryz.ntmps62
    go_wp2
    go_ret
    exact ⟨by rw [HF.out]; rfl, Below.refl _ _⟩
end Go.Proofs.YtlimajgmdhhggaaGreatDoor

