/- Several texts in one file: EnSrtW, EnNrmW, EnHas, MaUp, ScRow, ScClass, ScFind, ScCls, ScCat, ScIdx, ScClassed, ScCheck, ScPer, MaAwake, MaCasesW, ScFst, MaDig, ScFstW, RegFact, RegTwo, ScNedA, RegJ, MkA, MkP, MkG, TuA, MaNumP. -/
import Derived.Test.YtjenbkdfbendlaaGreatDoorEnmP1
import Derived.Test.YtjenbkdfbendlaaGreatDoorEnOwn
import Derived.Laws.OwnMore
import Derived.RegionTactic
import Derived.Deep.Cut
import Derived.Deep.RegionLaw
import Derived.Test.YtjenbkdfbendlaaGreatDoorEnFind
import Derived.Test.YtjenbkdfbendlaaGreatDoorMaSame
import Derived.Test.YtjenbkdfbendlaaGreatDoorDnLow
import Derived.Test.YtjenbkdfbendlaaGreatDoorOfL
import Derived.Test.YtjenbkdfbendlaaGreatDoorMaPure
import Derived.Test.YtjenbkdfbendlaaGreatDoorScOwn
import Derived.Test.YtjenbkdfbendlaaGreatDoorMaNum
import Derived.Sort.OwnSorted
import Derived.BigQuiet
import Derived.Deep.RegionHeld3
import Derived.Test.YtjenbkdfbendlaaGreatDoorMaNorm
import Derived.Test.YtjenbkdfbendlaaGreatDoorDnParse
import Derived.Lib.AppendZerosOnto
import Derived.Deep.Upon
import Derived.Test.YtjenbkdfbendlaaGreatDoorScPure
import Derived.Test.YtjenbkdfbendlaaGreatDoorScSound
import Derived.Test.YtjenbkdfbendlaaGreatDoorDnKey
import Derived.Test.YtjenbkdfbendlaaGreatDoorDnOwn
import Derived.Lib.ItoaLen
import Derived.Lib.ItoaMem
import Derived.Deep.CutRange
import Derived.Below
import Derived.Deep.AppendSrc
import Derived.Deep.Onto
namespace Go.Proofs.YtjenbkdfbendlaaGreatDoor
open Go.RowKit
set_option linter.unusedVariables false
set_option linter.unusedSimpArgs false

theorem grown_trans {w a b : World} {g : Nat} (h : w.grownBy a (some g)) (k : a.grownBy b (some g)) : w.grownBy b (some g) :=
  ⟨k.os.trans h.os, k.tape.trans h.tape, k.output.trans h.output, Nat.le_trans h.size k.size, fun j hj hne => (k.block j (Nat.lt_of_lt_of_le hj h.size) hne).trans (h.block j hj hne)⟩
theorem below_grownR {w w' : World} {g : Nat} (h : Below w.heap.size w w') : w.grownBy w' (some g) := ⟨h.os, h.tape, h.output, h.size, fun k hk _ => h.block k hk⟩
theorem rowP_swap {B g n cap : Nat} {w : World} {P : List PT} {j : Nat} (hj : j + 1 < P.length) (h : w.ownsRow B 40 2 (.slice (some ⟨g, 0, none⟩) n cap) n (cellsP P)) :
    let w' := (((w.setCell ⟨g, (j + 1) * 2, none⟩ (strV P[j].1)).setCell ⟨g, (j + 1) * 2 + 1, none⟩ P[j].2).setCell ⟨g, j * 2, none⟩ (strV P[j + 1].1)).setCell ⟨g, j * 2 + 1, none⟩ P[j + 1].2
    w'.ownsRow B 40 2 (.slice (some ⟨g, 0, none⟩) n cap) n (cellsP (swapG P j)) ∧ w.grownBy w' (some g) := by
  intro w'
  obtain ⟨h1, g1⟩ := h.stored ((j + 1) * 2) (strV P[j].1)
  obtain ⟨h2, g2⟩ := h1.stored ((j + 1) * 2 + 1) P[j].2
  obtain ⟨h3, g3⟩ := h2.stored (j * 2) (strV P[j + 1].1)
  obtain ⟨h4, g4⟩ := h3.stored (j * 2 + 1) P[j + 1].2
  refine ⟨?_, grown_trans (grown_trans (grown_trans g1 g2) g3) g4⟩
  have he : ((((cellsP P).set ((j + 1) * 2) (strV P[j].1)).set ((j + 1) * 2 + 1) P[j].2).set (j * 2) (strV P[j + 1].1)).set (j * 2 + 1) P[j + 1].2 = cellsP (swapG P j) := by
    refine List.ext_getElem? fun i => ?_
    have hl := cellsP_length P
    have hls := cellsP_length (swapG P j)
    rw [swapG_length] at hls
    by_cases hi : i < P.length * 2
    · obtain ⟨q, hq⟩ : ∃ q, i = q * 2 ∨ i = q * 2 + 1 := ⟨i / 2, by omega⟩
      have hqp : q < (swapG P j).length := by rw [swapG_length]; omega
      obtain ⟨s0, s1⟩ := cellsP_get (swapG P j) q hqp
      obtain ⟨p0, p1⟩ := cellsP_get P q (by rw [swapG_length] at hqp; exact hqp)
      have hsw : (swapG P j)[q] = if q = j + 1 then P[j] else if q = j then P[j + 1] else P[q]'(by rw [swapG_length] at hqp; exact hqp) := by
        have := swapG_at hj
        simp only [this, List.getElem_set]
        by_cases e1 : j + 1 = q
        · rw [if_pos e1, if_pos (show q = j + 1 from e1.symm)]
        · rw [if_neg e1, if_neg (show ¬ q = j + 1 from fun h => e1 h.symm)]
          by_cases e2 : j = q
          · rw [if_pos e2, if_pos (show q = j from e2.symm)]
          · rw [if_neg e2, if_neg (show ¬ q = j from fun h => e2 h.symm)]
      simp only [List.getElem?_set, List.length_set, hl]
      rcases hq with rfl | rfl
      · rw [s0, hsw]
        by_cases e1 : q = j + 1
        · subst e1
          rw [if_neg (by omega), if_neg (by omega), if_neg (by omega), if_pos rfl, if_pos (by omega), if_pos rfl]
        · by_cases e2 : q = j
          · subst e2
            rw [if_neg (by omega), if_pos rfl, if_pos (by omega), if_neg e1, if_pos rfl]
          · rw [if_neg (by omega), if_neg (by omega), if_neg (by omega), if_neg (by omega), if_neg e1, if_neg e2]
            exact p0
      · rw [s1, hsw]
        by_cases e1 : q = j + 1
        · subst e1
          rw [if_neg (by omega), if_neg (by omega), if_pos rfl, if_pos (by omega), if_pos rfl]
        · by_cases e2 : q = j
          · subst e2
            rw [if_pos rfl, if_pos (by omega), if_neg e1, if_pos rfl]
          · rw [if_neg (by omega), if_neg (by omega), if_neg (by omega), if_neg (by omega), if_neg e1, if_neg e2]
            exact p1
    · rw [List.getElem?_eq_none (by simp only [List.length_set]; omega), List.getElem?_eq_none (by omega)]
  rw [← he]
  exact h4

def SrtI (w : World) (B g n cap : Nat) (P : List PT) (k m : Nat) (wx : World) : Prop := ∃ R : List PT, Hid (R.length = n) ∧ Hid (∀ r ∈ R, ∃ a k c, r.2 = Value.slice a k c) ∧ Hid (bubG (fun r => r.1) m R = srtG (fun r => r.1) (k + 1) P) ∧ Hid (wx.ownsRow B 40 2 (.slice (some ⟨g, 0, none⟩) n cap) n (cellsP R)) ∧ Hid (w.grownBy wx (some g))
set_option maxRecDepth 100000 in
set_option maxHeartbeats 8000000 in
theorem insertR_any (P : List PT) (B g n cap : Nat) (w : World) (hn : n = P.length) (hl : n ≤ 1000000) (h : w.ownsRow B 40 2 (.slice (some ⟨g, 0, none⟩) n cap) n (cellsP P)) (hv : ∀ r ∈ P, ∃ a k c, r.2 = .slice a k c) :
    Calls Tryz.prog 67 #[.slice (some ⟨g, 0, none⟩) n cap, .int .i64 0, .int .i64 n, .func (.func 24) #[] #[]] w fun e w' => e = .returned (.tuple #[]) ∧ w'.ownsRow B 40 2 (.slice (some ⟨g, 0, none⟩) n cap) n (cellsP (srtG (fun r => r.1) (n - 1) P)) ∧ w.grownBy w' (some g) := by
  have HV := Lib.hid hv
  have HN := Lib.hid hn
  have HR := Lib.hid h
  have hlt0 := World.ownsRow.lt h
  have HG := Lib.hid (hlt0 g rfl)
  clear hv hn h hlt0
  go_enter Tryz.func67, Tryz.ntmps67
  go_wp2
  go_loopw [8] (fun i wr => ∃ k : Nat, (k + 1 ≤ n ∨ k = 0) ∧ i = .int .i64 ((k + 1 : Nat) : Int) ∧ Hid (wr.ownsRow B 40 2 (.slice (some ⟨g, 0, none⟩) n cap) n (cellsP (srtG (fun r => r.1) k P))) ∧ Hid (w.grownBy wr (some g))) (fun i wr => n + 1 - (intOf i).toNat)
  case atStart => exact ⟨0, .inr rfl, rfl, HR, Lib.hid ⟨rfl, rfl, rfl, Nat.le_refl _, fun _ _ _ => rfl⟩⟩
  case round =>
    obtain ⟨k, hk, rfl, HRk, HGk⟩ := hrel
    rename World => wo
    by_cases hlt : k + 1 < n
    · have t1 : decide (((k + 1 : Nat) : Int) < (n : Int)) = true := by simp; omega
      have t1' : decide ((k : Int) + 1 < (n : Int)) = true := by simp; omega
      go_wp2
      go_loopw [9] (fun i wx => ∃ m : Nat, m ≤ k + 1 ∧ i = .int .i64 (m : Int) ∧ SrtI w B g n cap P k m wx) (fun i wx => (intOf i).toNat)
      case atStart => exact ⟨k + 1, Nat.le_refl _, by first | rfl | go_num, srtG (fun r => r.1) k P, Lib.hid (by rw [srtG_length]; exact HN.out.symm), Lib.hid (fun r hr => HV.out r (srtG_mem k hr)), Lib.hid rfl, HRk, HGk⟩
      case round =>
        obtain ⟨m, hm, rfl, R, HLn, HVr, HBu, HRx, HGx⟩ := hrel
        by_cases hm0 : m = 0
        · subst hm0
          go_upto_region 4 with (fail)
          refine region_det (by kernel_rfl) (fun w' => w' = wr.drew) (rfl) (by kernel_rfl) ?_
          simp only [List.toList_toArray]
          repeat' (first
            | (refine det_shut (by rfl) ?_; (simp only [Act.put, List.setIfInBounds_toArray, List.set_cons_zero, List.set_cons_succ]))
            | (apply det_val; (case hw => rfl); (case hv => (intro w' hS; (subst hS); go_simp; first | done | with_reducible exact rfl)); (simp only [Act.put, List.setIfInBounds_toArray, List.set_cons_zero, List.set_cons_succ]))
            | (apply det_call; (case hw => rfl); (case hv => (intro w' hS; (subst hS); go_simp; first | done | with_reducible exact rfl | with_reducible exact ⟨rfl, rfl⟩)); (case hc => (intro w' hS; (first | (go_at_call 24; with_reducible exact absurd hS id)))); (simp only [Act.put, List.setIfInBounds_toArray, List.set_cons_zero, List.set_cons_succ]))
            | fail)
          intro w9 hw9
          subst hw9
          have hr9 : (wr.drew).ownsRow B 40 2 (.slice (some ⟨g, 0, none⟩) n cap) n (cellsP (srtG (fun r => r.1) (k + 1) P)) := by
            have hb := HBu.out
            rw [← hb]
            exact HRx.out.drew
          have hg9 : w.grownBy wr.drew (some g) := ⟨HGx.out.os, HGx.out.tape, HGx.out.output, HGx.out.size, HGx.out.block⟩
          have HR9 := Lib.hid hr9
          have HG9 := Lib.hid hg9
          clear hr9 hg9
          go_wp2
          go_roundw
          case rel => exact ⟨k + 1, .inl (by omega), by first | rfl | go_num, HR9, HG9⟩
          case measure => simp [intOf]; omega
        · obtain ⟨m, rfl⟩ : ∃ q, m = q + 1 := ⟨m - 1, by omega⟩
          have hmn : m + 1 < R.length := by have := HLn.out; omega
          obtain ⟨y0, y1⟩ := cellsP_get R (m + 1) hmn
          obtain ⟨x0, x1⟩ := cellsP_get R m (by omega)
          obtain ⟨ya, yn, yc, hy⟩ := HVr.out _ (List.getElem_mem hmn)
          obtain ⟨xa, xn, xc, hx⟩ := HVr.out _ (List.getElem_mem (show m < R.length by omega))
          obtain ⟨Y, hY⟩ : ∃ Y : ByteArray, Y = ofL R[m + 1].1 := ⟨_, rfl⟩
          obtain ⟨X, hX⟩ : ∃ X : ByteArray, X = ofL (R[m]'(by omega)).1 := ⟨_, rfl⟩
          have hc := fun j (hj : j < n * 2) => World.ownsRow.cellAt HRx.out j hj
          have hf := fun j => World.ownsRow.frozenAt HRx.out j
          have c0 : wr.cell? ⟨g, (m + 1) * 2, none⟩ = some (.string Y) := by rw [hc _ (by omega), y0, hY]; rfl
          have c1 : wr.cell? ⟨g, (m + 1) * 2 + 1, none⟩ = some (.slice ya yn yc) := by rw [hc _ (by omega), y1, hy]
          have c2 : wr.cell? ⟨g, m * 2, none⟩ = some (.string X) := by rw [hc _ (by omega), x0, hX]; rfl
          have c3 : wr.cell? ⟨g, m * 2 + 1, none⟩ = some (.slice xa xn xc) := by rw [hc _ (by omega), x1, hx]
          have hgl : g < wr.heap.size := Nat.lt_of_lt_of_le HG.out.2 HGx.out.size
          have hst : PairAt wr g ((m + 1) * 2) (m * 2) Y X (.slice ya yn yc) (.slice xa xn xc) wr.drew := ⟨c0, c1, c2, c3, hgl, (Below.refl _ _).drew⟩
          obtain ⟨I, hI⟩ : ∃ I, I = Extern.BytealgCompare.cmp Y X := ⟨_, rfl⟩
          have hIc : I = cmpL R[m + 1].1 (R[m]'(by omega)).1 := by rw [hI, hY, hX]; rfl
          have hcm := fun W => typesCmp_any Y X (.slice ya yn yc) (.slice xa xn xc) W
          simp only [← hI] at hcm
          have HCm := Lib.hid hcm
          have HIc := Lib.hid hIc
          have HYX := Lib.hid (And.intro hY hX)
          have HHy := Lib.hid (And.intro hy hx)
          have q1 : ((m : Int) + 1) < (n : Int) := by have := HLn.out; omega
          have q2 : (m : Int) < (n : Int) := by omega
          have q3 : (0 : Int) < (m : Int) + 1 := by omega
          have q4 : (0 : Int) ≤ (m : Int) + 1 := by omega
          have q5 : ((m : Int) + 1).toNat = m + 1 := by omega
          have q6 : IntKind.i64.wrap ((m : Int) + 1 - 1) = (m : Int) := by rw [IntKind.wrap_i64]; omega
          have q7 : (m : Int) + 1 - 1 = (m : Int) := by omega
          have q8 : IntKind.i64.wrap (m : Int) = (m : Int) := by rw [IntKind.wrap_i64]; omega
          have q9 : (0 : Int) ≤ (m : Int) := by omega
          have q10 : m + 1 < n := by omega
          clear y0 y1 x0 x1 hc hI hIc hcm hY hX hy hx
          by_cases hneg : I < 0
          · have t3 : decide (I < 0) = true := by simpa using hneg
            go_upto_region 4 with (fail)
            refine region_det (by kernel_rfl) (PairAt wr g ((m + 1) * 2) (m * 2) Y X (.slice ya yn yc) (.slice xa xn xc)) (hst) (by kernel_rfl) ?_
            simp only [List.toList_toArray]
            repeat' (first
              | (refine det_shut (by rfl) ?_; (simp only [Act.put, List.setIfInBounds_toArray, List.set_cons_zero, List.set_cons_succ]))
              | (apply det_val; (case hw => rfl); (case hv => (intro w' hS; (obtain ⟨s0, s1, s2, s3, s4, s5⟩ := hS); go_simp; first | done | with_reducible exact rfl)); (simp only [Act.put, List.setIfInBounds_toArray, List.set_cons_zero, List.set_cons_succ]))
              | (apply det_call; (case hw => rfl); (case hv => (intro w' hS; (obtain ⟨s0, s1, s2, s3, s4, s5⟩ := hS); go_simp; first | done | with_reducible exact rfl | with_reducible exact ⟨rfl, rfl⟩)); (case hc => (intro w' hS; (first | (go_at_call 24; with_reducible exact (HCm.out w').mono (fun e w'' h => ⟨h.1, (PairAt.go hS h.2).2.2.2.2⟩))))); (simp only [Act.put, List.setIfInBounds_toArray, List.set_cons_zero, List.set_cons_succ]))
              | fail)
            intro w9 hS9
            have hr9 : w9.ownsRow B 40 2 (.slice (some ⟨g, 0, none⟩) n cap) n (cellsP R) := World.ownsRow.kept HRx.out (row := none) ⟨hS9.2.2.2.2.2.os, hS9.2.2.2.2.2.tape, hS9.2.2.2.2.2.output, hS9.2.2.2.2.2.size, fun k hk _ => hS9.2.2.2.2.2.block k hk⟩ (.inr (by simp [Value.ownBlock]))
            have hg9 : w.grownBy w9 (some g) := grown_trans HGx.out (below_grownR hS9.2.2.2.2.2)
            have hf := fun j => World.ownsRow.frozenAt hr9 j
            have z0 := hf ((m + 1) * 2)
            have z1 := hf ((m + 1) * 2 + 1)
            have z2 := hf (m * 2)
            have z3 := hf (m * 2 + 1)
            obtain ⟨s0, s1, s2, s3, s4, s5⟩ := hS9
            obtain ⟨hsw, hgw⟩ := rowP_swap (j := m) hmn hr9
            have n0 : ((m + 1) * 2 = m * 2) = False := eq_false (by omega)
            have n1 : ((m + 1) * 2 + 1 = m * 2) = False := eq_false (by omega)
            have n2 : ((m + 1) * 2 = m * 2 + 1) = False := eq_false (by omega)
            have n3 : (m * 2 = (m + 1) * 2) = False := eq_false (by omega)
            have n4 : (m * 2 = (m + 1) * 2 + 1) = False := eq_false (by omega)
            have n5 : (m * 2 + 1 = (m + 1) * 2) = False := eq_false (by omega)
            have HSw := Lib.hid hsw
            have HGw := Lib.hid hgw
            have HG9 := Lib.hid hg9
            clear hr9 hg9 hf hsw hgw hst c0 c1 c2 c3 s5
            go_upto_region 6 with (fail)
            go_region_law (fail)
            all_goals
              have e1 : strV (R[m]'(by omega)).1 = .string X := by rw [HYX.out.2]; rfl
              have e2 : strV R[m + 1].1 = .string Y := by rw [HYX.out.1]; rfl
              have hr10 := HSw.out
              have hg10 := HGw.out
              rw [e1, e2, HHy.out.1, HHy.out.2] at hr10 hg10
              have hr11 := hr10.drew
              have hg11 := grown_trans HG9.out hg10
              generalize (((w9.setCell ⟨g, (m + 1) * 2, none⟩ (.string X)).setCell ⟨g, (m + 1) * 2 + 1, none⟩ (.slice xa xn xc)).setCell ⟨g, m * 2, none⟩ (.string Y)).setCell ⟨g, m * 2 + 1, none⟩ (.slice ya yn yc) = W10 at hr11 hg11 ⊢
              have hg12 : w.grownBy W10.drew (some g) := ⟨hg11.os, hg11.tape, hg11.output, hg11.size, hg11.block⟩
              have hb12 : bubG (fun r => r.1) m (swapG R m) = srtG (fun r => r.1) (k + 1) P := by rw [← HBu.out, bubG_go hmn (by rw [← HIc.out]; exact hneg)]
              have HR12 := Lib.hid hr11
              have HG12 := Lib.hid hg12
              have HB12 := Lib.hid hb12
              have HL12 : Hid ((swapG R m).length = n) := Lib.hid (by rw [swapG_length]; exact HLn.out)
              have HV12 := Lib.hid (fun r (hr : r ∈ swapG R m) => HVr.out r (swapG_mem hr))
              clear e1 e2 hr10 hg10 hr11 hg11 hg12 hb12 s0 s1 s2 s3 z0 z1 z2 z3
              go_wp2
              go_roundw
              case rel => exact ⟨m, by omega, by first | rfl | go_num, swapG R m, HL12, HV12, HB12, HR12, HG12⟩
              case measure => simp [intOf]; omega
          · have t3 : decide (I < 0) = false := by simpa using hneg
            go_upto_region 4 with (fail)
            refine region_det (by kernel_rfl) (PairAt wr g ((m + 1) * 2) (m * 2) Y X (.slice ya yn yc) (.slice xa xn xc)) (hst) (by kernel_rfl) ?_
            simp only [List.toList_toArray]
            repeat' (first
              | (refine det_shut (by rfl) ?_; (simp only [Act.put, List.setIfInBounds_toArray, List.set_cons_zero, List.set_cons_succ]))
              | (apply det_val; (case hw => rfl); (case hv => (intro w' hS; (obtain ⟨s0, s1, s2, s3, s4, s5⟩ := hS); go_simp; first | done | with_reducible exact rfl)); (simp only [Act.put, List.setIfInBounds_toArray, List.set_cons_zero, List.set_cons_succ]))
              | (apply det_call; (case hw => rfl); (case hv => (intro w' hS; (obtain ⟨s0, s1, s2, s3, s4, s5⟩ := hS); go_simp; first | done | with_reducible exact rfl | with_reducible exact ⟨rfl, rfl⟩)); (case hc => (intro w' hS; (first | (go_at_call 24; with_reducible exact (HCm.out w').mono (fun e w'' h => ⟨h.1, (PairAt.go hS h.2).2.2.2.2⟩))))); (simp only [Act.put, List.setIfInBounds_toArray, List.set_cons_zero, List.set_cons_succ]))
              | fail)
            intro w9 hS9
            have hr9 : w9.ownsRow B 40 2 (.slice (some ⟨g, 0, none⟩) n cap) n (cellsP (srtG (fun r => r.1) (k + 1) P)) := by
              have hb := HBu.out
              rw [bubG_stop hmn (by rw [← HIc.out]; exact hneg)] at hb
              rw [← hb]
              exact World.ownsRow.kept HRx.out (row := none) ⟨hS9.2.2.2.2.2.os, hS9.2.2.2.2.2.tape, hS9.2.2.2.2.2.output, hS9.2.2.2.2.2.size, fun k hk _ => hS9.2.2.2.2.2.block k hk⟩ (.inr (by simp [Value.ownBlock]))
            have hg9 : w.grownBy w9 (some g) := grown_trans HGx.out (below_grownR hS9.2.2.2.2.2)
            have HR9 := Lib.hid hr9
            have HG9 := Lib.hid hg9
            clear hr9 hg9 hS9
            go_wp2
            go_roundw
            case rel => exact ⟨k + 1, .inl (by omega), by first | rfl | go_num, HR9, HG9⟩
            case measure => simp [intOf]; omega
    · have t1 : decide (((k + 1 : Nat) : Int) < (n : Int)) = false := by simp; omega
      have t1' : decide ((k : Int) + 1 < (n : Int)) = false := by simp; omega
      have hke : k = n - 1 := by omega
      go_wp2
      go_end0
      exact ⟨rfl, by rw [← hke]; exact HRk.out, HGk.out⟩
end Go.Proofs.YtjenbkdfbendlaaGreatDoor


namespace Go.Proofs.YtjenbkdfbendlaaGreatDoor
open Go.RowKit
set_option linter.unusedVariables false
set_option linter.unusedSimpArgs false

set_option maxRecDepth 100000 in
set_option maxHeartbeats 4000000 in
theorem stableR_any (n : Nat) (hl : n < 20) (sa : Option Addr) (sc : Nat) (w : World) (Q : World → Prop) (hi : Calls Tryz.prog 67 #[.slice sa n sc, .int .i64 0, .int .i64 n, .func (.func 24) #[] #[]] w fun e w' => e = .returned (.tuple #[]) ∧ Q w') :
    Calls Tryz.prog 47 #[.slice sa n sc, .int .i64 n, .func (.func 24) #[] #[]] w fun e w' => e = .returned (.tuple #[]) ∧ Q w' := by
  have HI := Lib.hid hi
  have t1 : decide ((20 : Int) ≤ (n : Int)) = false := by simp; omega
  have t1' : decide (20 ≤ n) = false := by simp; omega
  have t2 : decide ((20 : Int) < (n : Int)) = false := by simp; omega
  have t2' : decide (20 < n) = false := by simp; omega
  clear hi
  go_enter Tryz.func47, Tryz.ntmps47
  go_wp2
  go_loopw [7, 8] (fun a b wr => a = .int .i64 0 ∧ b = .int .i64 20 ∧ Hid (wr = w)) (fun a b wr => 1)
  case atStart => exact ⟨rfl, rfl, Lib.hid rfl⟩
  case round =>
    obtain ⟨rfl, rfl, hwr⟩ := hrel
    have hwr := hwr.out
    subst hwr
    go_wp2_with (go_at_call 67; refine (HI.out).mono ?_; rintro e w2 ⟨rfl, hb2⟩; have HB2 := Lib.hid hb2; clear hb2)
    go_loopw [6] (fun a wx => a = .int .i64 20 ∧ Hid (wx = w2)) (fun a wx => 1)
    case atStart => exact ⟨rfl, Lib.hid rfl⟩
    case round =>
      obtain ⟨rfl, hwr2⟩ := hrel
      have hwr2 := hwr2.out
      subst hwr2
      go_wp2
      go_end0
      exact ⟨rfl, HB2.out⟩

set_option maxRecDepth 100000 in
set_option maxHeartbeats 1000000 in
theorem sortedR_any (n : Nat) (hl : n < 20) (sa : Option Addr) (sc : Nat) (w : World) (Q : World → Prop) (hi : Calls Tryz.prog 67 #[.slice sa n sc, .int .i64 0, .int .i64 n, .func (.func 24) #[] #[]] w fun e w' => e = .returned (.tuple #[]) ∧ Q w') :
    Calls Tryz.prog 23 #[.slice sa n sc, .func (.func 24) #[] #[]] w fun e w' => e = .returned (.tuple #[]) ∧ Q w' := by
  have HI := Lib.hid (stableR_any n hl sa sc w Q hi)
  clear hi
  go_enter Tryz.func23, Tryz.ntmps23
  go_wp2_with (go_at_call 47; refine (HI.out).mono ?_; rintro e w2 ⟨rfl, hb2⟩; have HB2 := Lib.hid hb2; clear hb2)
  go_end0
  exact ⟨rfl, HB2.out⟩

theorem ownA_sort {B g n cap : Nat} {w w' : World} {L : List AT} {P : List PT} (hP : RowP B w (.slice (some ⟨g, 0, none⟩) n cap) P) (hs : Says B w (.slice (some ⟨g, 0, none⟩) n cap) P L) (hn : n = P.length)
    (hr : w'.ownsRow B 40 2 (.slice (some ⟨g, 0, none⟩) n cap) n (cellsP (srtG (fun r => r.1) (n - 1) P))) (hg : w.grownBy w' (some g)) : OwnA B w' (.slice (some ⟨g, 0, none⟩) n cap) (sortA L) := by
  have hPL := hs.1
  have hP1 : P = (P.zip L).map (fun z => z.1) := by
    have := List.map_fst_zip (l₁ := P) (l₂ := L) (by omega)
    exact this.symm
  have hL1 : L = (P.zip L).map (fun z => z.2) := by
    have := List.map_snd_zip (l₁ := P) (l₂ := L) (by omega)
    exact this.symm
  have hz : ∀ z ∈ P.zip L, ∃ (j : Nat) (h1 : j < L.length) (h2 : j < P.length), z = (P[j], L[j]) := fun z hm => by
    obtain ⟨j, hj, rfl⟩ := List.getElem_of_mem hm
    have hj' : j < P.length ∧ j < L.length := by rw [List.length_zip] at hj; omega
    exact ⟨j, hj'.2, hj'.1, List.getElem_zip⟩
  have e1 : srtG (fun r : PT => r.1) (n - 1) P = (srtG (fun z : PT × AT => z.1.1) (n - 1) (P.zip L)).map (fun z => z.1) := by
    rw [srtG_map (key' := fun r : PT => r.1) (fun z : PT × AT => z.1) (n - 1) (P.zip L) (fun _ _ => rfl), ← hP1]
  have e2 : sortA L = (srtG (fun z : PT × AT => z.1.1) (n - 1) (P.zip L)).map (fun z => z.2) := by
    unfold sortA
    rw [srtG_map (key' := fun a : AT => a.1) (fun z : PT × AT => z.2) (n - 1) (P.zip L) (fun z hm => by
      obtain ⟨j, h1, h2, rfl⟩ := hz z hm
      exact (hs.2 j h1 h2).1.symm), ← hL1, hn, hPL]
  refine ⟨srtG (fun r => r.1) (n - 1) P, ?_, ?_, fun j h1 h2 => ?_⟩
  · show w'.ownsRow B 40 2 (.slice (some ⟨g, 0, none⟩) n cap) (srtG (fun r => r.1) (n - 1) P).length (cellsP (srtG (fun r => r.1) (n - 1) P))
    rw [srtG_length, ← hn]
    exact hr
  · rw [e1, e2, List.length_map, List.length_map]
  · simp only [e1, e2, List.getElem_map]
    have hm := srtG_mem _ (List.getElem_mem (show j < (srtG (fun z : PT × AT => z.1.1) (n - 1) (P.zip L)).length by rw [e2, List.length_map] at h1; exact h1))
    obtain ⟨i, i1, i2, hi⟩ := hz _ hm
    rw [hi]
    obtain ⟨s1, s2⟩ := hs.2 i i1 i2
    refine ⟨s1, s2.imp (fun b hb => ⟨hb.1, Nat.lt_of_lt_of_le hb.2.1 hg.size, hb.2.2⟩) (fun b o hb => ?_)⟩
    have := hg.block b hb.2.1 hb.2.2
    simp only [World.cell?, this]
theorem sorted_own (B : Nat) (L : List AT) (hl : L.length < 20) (v : Value) (w : World) (hB : B ≤ w.heap.size) (h : OwnA B w v L) :
    Calls Tryz.prog 23 #[v, .func (.func 24) #[] #[]] w fun e w' => e = .returned (.tuple #[]) ∧ OwnA B w' v (sortA L) ∧ Below B w w' := by
  obtain ⟨P, hP, hs⟩ := id h
  by_cases hne : P = []
  · have hL : L = [] := List.eq_nil_of_length_eq_zero (by have := hs.1; rw [hne] at this; simpa using this.symm)
    subst hL
    have hA := ownA_isA h (by simp)
    exact (sorted_any [] (by simp) (fun i h => absurd h (by simp)) v w hA).mono fun e w' ⟨he, hb⟩ => ⟨he, ownA_below h hb, hb.mono hB⟩
  · obtain ⟨g, cap, rfl, hBg, hgl, _⟩ := rowP_at hP hne
    have hn : P.length < 20 := by rw [hs.1]; exact hl
    obtain ⟨n, hnn⟩ : ∃ n, n = P.length := ⟨_, rfl⟩
    rw [← hnn] at hP hs hn ⊢
    have hrow : w.ownsRow B 40 2 (.slice (some ⟨g, 0, none⟩) n cap) n (cellsP P) := by
      have hP' : w.ownsRow B 40 2 (.slice (some ⟨g, 0, none⟩) n cap) P.length (cellsP P) := hP
      rw [← hnn] at hP'
      exact hP'
    have hv : ∀ r ∈ P, ∃ a k c, r.2 = Value.slice a k c := fun r hr => by
      obtain ⟨j, hj, rfl⟩ := List.getElem_of_mem hr
      obtain ⟨a, c, e, _⟩ := (hs.2 j (by rw [← hs.1]; exact hj) hj).2
      exact ⟨a, _, c, e⟩
    have hi := insertR_any P B g n cap w hnn (by omega) hrow hv
    exact (sortedR_any n hn (some ⟨g, 0, none⟩) cap w _ hi).mono fun e w' ⟨he, hr, hg⟩ => ⟨he, ownA_sort hP hs hnn hr hg, ⟨hg.os, hg.tape, hg.output, hg.size, fun k hk => hg.block k (Nat.lt_of_lt_of_le hk hB) (fun e => by have := Option.some.inj e; omega)⟩⟩

set_option maxRecDepth 100000 in
set_option maxHeartbeats 4000000 in
theorem normS_entry (d : ByteArray) (hd : d.size ≤ 140737488351232) (L : List AT) (hs : smallA L) (hl : L.length < 20) (v : Value) (w : World) (h : IsA w.heap.size w L v) :
    Calls Tryz.prog 9 #[.agg #[.string d, v]] w fun e w' => ∃ v', e = .returned (.agg #[strV (nameN d.data.toList), v']) ∧ OwnA w.heap.size w' v' (sortA (normL L)) ∧ Below w.heap.size w w' := by
  obtain ⟨sa, sc, hv, _⟩ := id h
  obtain ⟨n, hn⟩ : ∃ n, n = L.length := ⟨_, rfl⟩
  rw [← hn] at hv
  subst hv
  have HI := Lib.hid h
  have HS := Lib.hid hs
  have HN := Lib.hid hn
  have hl5 : n < 20 := by omega
  have HSt := Lib.hid (norm_start w d (.slice sa n sc))
  obtain ⟨T, hT⟩ : ∃ T : ByteArray, strV (nameN d.data.toList) = .string T := ⟨_, rfl⟩
  have hnt := fun w => nameText_any d hd w
  simp only [hT] at hnt
  rw [hT]
  have HNt := Lib.hid hnt
  clear h hs hn hnt hT hl
  go_enter Tryz.func9, Tryz.ntmps9
  go_wp2
  rw [show w.heap.size + 1 + 1 = w.heap.size + 2 from rfl]
  have HSt2 := HSt
  generalize (((w.alloc (.cells #[.string d, .slice sa n sc] 24)).alloc (.cells #[.string ⟨#[]⟩, .slice none 0 0] 24)).alloc (.cells #[.slice sa n sc, .int .i64 0] 52)) = W3 at HSt2 ⊢
  clear HSt
  go_loopw [4] (fun l wr => ∃ j : Nat, j ≤ n ∧ lenOf l = j ∧ NormAt w.heap.size d w wr (.slice sa n sc) l j (normL (L.take j))) (fun l wr => n - lenOf l)
  case atStart => exact ⟨0, by omega, rfl, HSt2.out⟩
  case round =>
    obtain ⟨j, hj, hlj, hat⟩ := hrel
    obtain ⟨la, ln, lc, rfl⟩ := ownA_sl hat.own
    simp only [lenOf] at hlj
    subst hlj
    have HAt := Lib.hid hat
    have hmo := more_any (w.heap.size + 2) sa n sc ln wr hat.m0 hat.m1
    have HMo := Lib.hid hmo
    clear hmo hat
    by_cases hlt : ln < n
    · have t1 : decide ((ln : Int) < (n : Int)) = true := by simp; omega
      have hjl : ln < L.length := by rw [← HN.out]; exact hlt
      rw [t1] at HMo
      have htk := normL_take L ln hjl
      have HTk := Lib.hid htk
      have hwl : (normL (L.take ln)).length ≤ 1000 := by unfold normL; rw [List.length_map, List.length_take]; omega
      clear htk t1
      go_wp2_with (first
        | (go_at_call 21; refine (HMo.out).mono ?_; rintro e w2 ⟨rfl, m, hw2⟩; have hb2 : Below wr.heap.size wr w2 := (by { rw [hw2]; exact below_drewN (Below.refl _ _) m }); have HAt2 := Lib.hid (HAt.out.go hb2); clear hw2 hb2)
        | (go_at_call 22; refine (next_any L HS.out (w.heap.size + 2) ln (.slice sa n sc) _ (by have := HAt2.out.size; omega) ((HI.out.below HAt2.out.bel (by omega)).below (Below.refl _ _) (Nat.le_refl _)) hjl HAt2.out.m0 HAt2.out.m1 HAt2.out.mz).mono ?_; rintro e w5 ⟨u5, rfl, hu5, hg5, h50, h51, h5z⟩; have HAt5 := Lib.hid (HAt2.out.next hg5 h50 h51 h5z); (obtain ⟨ya, yc, hye, _⟩ := id hu5); subst hye; have HU5 := Lib.hid hu5; have HO2 := Lib.hid HAt2.out.own; have hz2 := HAt2.out.size; clear hu5 hg5 h50 h51 h5z)
        | (at_builtin; refine wpList_append_attr rfl (.tmp 11) (.tmp 14) rfl (w.heap.size + 3) (.slice la ln lc) (normL (L.take ln)) rfl (ofL (nameA L[ln].1)) (.slice ya L[ln].2.length yc) L[ln].2 HAt5.out.own (HU5.out.imp (fun b hb => ⟨by have := hb.1; omega, hb.2, fun e => absurd (ownA_lt HO2.out b e.symm) (by have := hb.1; omega)⟩) (fun _ _ _ => rfl)) rfl rfl (by omega) HAt5.out.size ?_; intro v6 w6 hown6 hb6; have HAt6 := Lib.hid (HAt5.out.app hb6 hown6); clear hown6 hb6))
      obtain ⟨ra, rn, rc, rfl⟩ := ownA_sl HAt6.out.own
      have hrn : rn = ln + 1 := by
        obtain ⟨_, _, h⟩ := ownA_slice HAt6.out.own
        simp only [Value.slice.injEq] at h
        rw [h.2.1]
        unfold normL
        simp; omega
      subst hrn
      go_roundw
      case rel => exact ⟨ln + 1, by omega, rfl, by rw [HTk.out]; have := HAt6.out; rw [ofL_list] at this; exact this⟩
      case measure => simp [lenOf]; omega
    · obtain rfl : ln = n := by omega
      have t1 : decide ((ln : Int) < (ln : Int)) = false := by simp
      rw [t1] at HMo
      have hall : normL (L.take ln) = normL L := by rw [List.take_of_length_le (by rw [← HN.out]; exact Nat.le_refl _)]
      have HAll := Lib.hid hall
      clear t1 hall
      go_wp2_with (first
        | (go_at_call 21; refine (HMo.out).mono ?_; rintro e w2 ⟨rfl, m, hw2⟩; have hb2 : Below wr.heap.size wr w2 := (by { rw [hw2]; exact below_drewN (Below.refl _ _) m }); have HAt2 := Lib.hid (HAt.out.go hb2); clear hw2 hb2)
        | (go_at_call 23; refine (sorted_own (w.heap.size + 3) (normL L) (by unfold normL; rw [List.length_map, ← HN.out]; exact hl5) _ _ HAt2.out.size (by have := HAt2.out.own; rwa [HAll.out] at this)).mono ?_; rintro e w3 ⟨rfl, ho3, hb3⟩; have HAt3 := Lib.hid (HAt2.out.app hb3 ho3); have f0 := HAt3.out.box.1; clear hb3 ho3)
        | (go_at_call 26; refine (HNt.out _).mono ?_; rintro e w4 ⟨rfl, hb4⟩; have HAt4 := Lib.hid (HAt3.out.go hb4); (obtain ⟨_, p0, p1, q0, q1⟩ := HAt4.out.box); clear hb4))
      refine bodyPost_ret (v := .agg #[.string T, .slice la ln lc]) (by simp [results, Tryz.results9, go_sem, p0, p1]) rfl ⟨_, rfl, ?_, (HAt4.out.bel.setCell (p := ⟨w.heap.size + 1, 0, none⟩) (show w.heap.size ≤ w.heap.size + 1 by omega) _).setCell (p := ⟨w.heap.size + 1, 1, none⟩) (show w.heap.size ≤ w.heap.size + 1 by omega) _⟩
      have ho := ownA_set (ownA_set HAt4.out.own ⟨w.heap.size + 1, 0, none⟩ (.string T) (show w.heap.size + 1 < w.heap.size + 3 by omega)) ⟨w.heap.size + 1, 1, none⟩ (.slice la ln lc) (show w.heap.size + 1 < w.heap.size + 3 by omega)
      have ho2 := ownA_lower (B' := w.heap.size) ho (by omega)
      exact ho2
end Go.Proofs.YtjenbkdfbendlaaGreatDoor


namespace Go.Proofs.YtjenbkdfbendlaaGreatDoor
open Go.RowKit
set_option linter.unusedVariables false

def likeB (t val x : List UInt8) : Bool := sameO (normD (ruleD t) x) (normD (ruleD t) val)
def hasA (L : List AT) (t val : List UInt8) : Bool := (findA L t).any (likeB t val)
set_option maxRecDepth 100000 in
set_option maxHeartbeats 2000000 in
theorem like_any (T V X : ByteArray) (b1 o1 b2 o2 : Nat) (w : World) (hw : LaidW w) (h1 : w.cell? ⟨b1, o1, none⟩ = some (.string T)) (h2 : w.cell? ⟨b2, o2, none⟩ = some (.string V)) :
    Calls Tryz.prog 33 #[.string X, .pointer (some ⟨b1, o1, none⟩), .pointer (some ⟨b2, o2, none⟩)] w fun e w' => e = .returned (.bool (likeB T.data.toList V.data.toList X.data.toList)) ∧ Below w.heap.size w w' := by
  have hs := same_any T X V w hw
  unfold likeB
  generalize sameO (normD (ruleD T.data.toList) X.data.toList) (normD (ruleD T.data.toList) V.data.toList) = r at hs ⊢
  have HS := Lib.hid hs
  clear hs
  go_enter Tryz.func33, Tryz.ntmps33
  go_wp2_with (go_at_call 34; refine (HS.out).mono ?_; rintro e w1 ⟨rfl, hb1⟩; have HB := Lib.hid hb1; clear hb1)
  go_ret
  exact ⟨rfl, HB.out⟩

set_option maxRecDepth 100000 in
set_option maxHeartbeats 2000000 in
theorem indexF_any (L : List (List UInt8)) (hs : L.length ≤ 1000000) (v : Value) (T V : ByteArray) (b1 o1 b2 o2 : Nat) (w : World) (hw : LaidW w) (h : IsT w.heap.size w L v) (h1 : w.cell? ⟨b1, o1, none⟩ = some (.string T)) (h2 : w.cell? ⟨b2, o2, none⟩ = some (.string V)) (g1 : b1 < w.heap.size) (g2 : b2 < w.heap.size) :
    Calls Tryz.prog 56 #[v, .func (.func 33) #[] #[.pointer (some ⟨b1, o1, none⟩), .pointer (some ⟨b2, o2, none⟩)]] w fun e w' => ∃ I : Int, e = .returned (.int .i64 I) ∧ decide (0 ≤ I) = L.any (likeB T.data.toList V.data.toList) ∧ Below w.heap.size w w' := by
  obtain ⟨a, c, rfl, hm, hcell⟩ := h
  unfold maxLen at hm
  have HC := Lib.hid hcell
  have H1 := Lib.hid h1
  have H2 := Lib.hid h2
  have HW := Lib.hid hw
  clear hcell h1 h2 hw
  go_enter Tryz.func56, Tryz.ntmps56
  go_wp2
  go_loopw [8] (fun i wr => ∃ j : Nat, j ≤ L.length ∧ i = .int .i64 j ∧ Hid (∀ k (hk : k < L.length), k < j → likeB T.data.toList V.data.toList L[k] = false) ∧ Below w.heap.size w wr) (fun i wr => L.length - (intOf i).toNat)
  case atStart => exact ⟨0, by omega, rfl, Lib.hid (fun k _ h => absurd h (by omega)), Below.refl _ _⟩
  case round =>
    obtain ⟨j, hj, rfl, HNo, hbel⟩ := hrel
    have HBel := Lib.hid hbel
    have hbs := hbel.size
    by_cases hlt : j < L.length
    · have t1 : decide ((j : Int) < (L.length : Int)) = true := by simp; omega
      have t1' : decide (j < L.length) = true := by simpa using hlt
      obtain ⟨b, off, rfl, hb0, c0⟩ := HC.out j hlt
      obtain ⟨X, hX⟩ : ∃ X : ByteArray, ⟨L[j].toArray⟩ = X := ⟨_, rfl⟩
      have hXl : X.data.toList = L[j] := by rw [← hX]
      have d0 : (wr.cell? ⟨b, off + j, none⟩) = some (.string X) := by
        rw [hbel.cell (p := ⟨b, _, none⟩) hb0, c0, ← hX]; rfl
      have hab := like_any T V X b1 o1 b2 o2 wr (HW.out.below hbel) ((hbel.cell (p := ⟨b1, o1, none⟩) g1).trans H1.out) ((hbel.cell (p := ⟨b2, o2, none⟩) g2).trans H2.out)
      rw [hXl] at hab
      obtain ⟨g, hg⟩ : ∃ g, likeB T.data.toList V.data.toList L[j] = g := ⟨_, rfl⟩
      rw [hg] at hab
      have HAb := Lib.hid hab
      have HG := Lib.hid hg
      clear hX hXl c0 hab hbel hg
      cases g with
      | true =>
        have HR : Hid (L.any (likeB T.data.toList V.data.toList) = true) := Lib.hid (List.any_eq_true.2 ⟨L[j], List.getElem_mem _, HG.out⟩)
        go_wp2_with (go_at_call 33; refine (HAb.out).mono ?_; rintro e w2 ⟨rfl, hb2⟩; have HB2 := Lib.hid (HBel.out.trans (hb2.mono hbs)); clear hb2)
        go_ret
        exact ⟨_, rfl, by rw [HR.out]; simp, HB2.out⟩
      | false =>
        have HN : Hid (∀ k (hk : k < L.length), k < j + 1 → likeB T.data.toList V.data.toList L[k] = false) := Lib.hid (fun k h1 h3 => by
            by_cases hk : k < j
            · exact HNo.out k h1 hk
            · obtain rfl : k = j := by omega
              exact HG.out)
        go_wp2_with (go_at_call 33; refine (HAb.out).mono ?_; rintro e w2 ⟨rfl, hb2⟩; have HB2 := Lib.hid (HBel.out.trans (hb2.mono hbs)); clear hb2)
        go_roundw
        case rel => exact ⟨j + 1, by omega, by go_num, HN, HB2.out⟩
        case measure => simp [intOf]; omega
    · obtain rfl : j = L.length := by omega
      have t1 : decide ((L.length : Int) < (L.length : Int)) = false := by simp
      have t1' : decide (L.length < L.length) = false := by simp
      have HR : Hid (L.any (likeB T.data.toList V.data.toList) = false) := Lib.hid (List.any_eq_false.2 (fun x hx => by
        obtain ⟨k, hk, rfl⟩ := List.getElem_of_mem hx
        simpa using HNo.out k hk hk))
      clear hbel
      go_wp2
      go_ret
      exact ⟨_, rfl, by rw [HR.out]; rfl, HBel.out⟩

theorem boxH2 (w : World) (o : Obj) (T V : ByteArray) : (((w.alloc o).alloc (.cells #[.string T] 9)).alloc (.cells #[.string V] 9)).cell? ⟨w.heap.size + 2, 0, none⟩ = some (.string V) := by
  have h : (((w.alloc o).alloc (.cells #[.string T] 9)).alloc (.cells #[.string V] 9)).heap[w.heap.size + 2]? = some (.cells #[.string V] 9 (0, 0)) := by
    have := heap_alloc_new ((w.alloc o).alloc (.cells #[.string T] 9)) (.cells #[.string V] 9)
    simpa only [World.size_alloc] using this
  simp only [World.cell?, h]; rfl
theorem boxH1 (w : World) (o : Obj) (T V : ByteArray) : (((w.alloc o).alloc (.cells #[.string T] 9)).alloc (.cells #[.string V] 9)).cell? ⟨w.heap.size + 1, 0, none⟩ = some (.string T) := by
  have h0 : ((w.alloc o).alloc (.cells #[.string T] 9)).heap[w.heap.size + 1]? = some (.cells #[.string T] 9 (0, 0)) := by
    have := heap_alloc_new (w.alloc o) (.cells #[.string T] 9)
    simpa only [World.size_alloc] using this
  have h : (((w.alloc o).alloc (.cells #[.string T] 9)).alloc (.cells #[.string V] 9)).heap[w.heap.size + 1]? = some (.cells #[.string T] 9 (0, 0)) := by
    rw [heap_alloc_old _ _ (by simp)]; exact h0
  simp only [World.cell?, h]; rfl

set_option maxRecDepth 100000 in
set_option maxHeartbeats 2000000 in
theorem containsF_any (L : List (List UInt8)) (hs : L.length ≤ 1000000) (v : Value) (T V : ByteArray) (b1 o1 b2 o2 : Nat) (w : World) (hw : LaidW w) (h : IsT w.heap.size w L v) (h1 : w.cell? ⟨b1, o1, none⟩ = some (.string T)) (h2 : w.cell? ⟨b2, o2, none⟩ = some (.string V)) (g1 : b1 < w.heap.size) (g2 : b2 < w.heap.size) :
    Calls Tryz.prog 32 #[v, .func (.func 33) #[] #[.pointer (some ⟨b1, o1, none⟩), .pointer (some ⟨b2, o2, none⟩)]] w fun e w' => e = .returned (.bool (L.any (likeB T.data.toList V.data.toList))) ∧ Below w.heap.size w w' := by
  have hc := indexF_any L hs v T V b1 o1 b2 o2 w hw h h1 h2 g1 g2
  obtain ⟨R, hR⟩ : ∃ R, R = L.any (likeB T.data.toList V.data.toList) := ⟨_, rfl⟩
  rw [← hR] at hc ⊢
  obtain ⟨sa, sc, hv, _⟩ := id h
  obtain ⟨sn, hsn⟩ : ∃ n, n = L.length := ⟨_, rfl⟩
  rw [← hsn] at hv
  subst hv
  have HC := Lib.hid hc
  clear hc hR hsn h h1 h2 hw
  go_enter Tryz.func32, Tryz.ntmps32
  go_wp2_with (go_at_call 56; refine (HC.out).mono ?_; rintro e w2 ⟨I, rfl, hI, hb2⟩; have HB2 := Lib.hid hb2; clear hb2)
  go_ret
  exact ⟨rfl, HB2.out⟩

set_option maxRecDepth 100000 in
set_option maxHeartbeats 2000000 in
theorem has_any (d T V : ByteArray) (L : List AT) (hs : smallA L) (v : Value) (w : World) (hw : LaidW w) (h : IsA w.heap.size w L v) :
    Calls Tryz.prog 14 #[.agg #[.string d, v], .string T, .string V] w fun e w' => e = .returned (.bool (hasA L T.data.toList V.data.toList)) ∧ Below w.heap.size w w' := by
  have hmf : ∀ (fn : Fn) (first cap : Array Value) (w : World), (Instr.makeFunc fn first cap).run Tryz.prog w = .ok (.func fn first cap) w := fun _ _ _ _ => rfl
  have hf : (findA L T.data.toList).length ≤ 1000000 := by
    unfold findA
    split
    · rename_i a ha
      have := ((hs.2 a (List.mem_of_find?_eq_some ha)).2).1
      omega
    · simp
  have hR : hasA L T.data.toList V.data.toList = (findA L T.data.toList).any (likeB T.data.toList V.data.toList) := rfl
  obtain ⟨R, hRR⟩ : ∃ R, R = hasA L T.data.toList V.data.toList := ⟨_, rfl⟩
  rw [← hRR] at hR ⊢
  have HR := Lib.hid hR
  have HF := Lib.hid hf
  have HS := Lib.hid hs
  have HI := Lib.hid h
  have HW := Lib.hid hw
  obtain ⟨sa, sc, hv, _⟩ := id h
  obtain ⟨sn, hsn⟩ : ∃ n, n = L.length := ⟨_, rfl⟩
  rw [← hsn] at hv
  subst hv
  have hb0 : Below w.heap.size w (((w.alloc (.cells #[.string d, .slice sa sn sc] 24)).alloc (.cells #[.string T] 9)).alloc (.cells #[.string V] 9)) := (((Below.refl _ _).alloc (Nat.le_refl _) _).alloc (by simp) _).alloc (by simp; omega) _
  have HB0 := Lib.hid hb0
  clear hf hs h hsn hw hR hRR hb0
  go_enter Tryz.func14, Tryz.ntmps14
  go_wp2_with (first
    | (go_at_call 30; refine (find_any L HS.out (.slice sa sn sc) T _ (HI.out.below HB0.out HB0.out.size)).mono ?_; rintro e w2 ⟨u, rfl, hu, hb2⟩; have f1 : w2.cell? ⟨w.heap.size + 1, 0, none⟩ = some (.string T) := (hb2.cell (p := ⟨w.heap.size + 1, 0, none⟩) (by simp)).trans (boxH1 w _ T V); have f2 : w2.cell? ⟨w.heap.size + 2, 0, none⟩ = some (.string V) := (hb2.cell (p := ⟨w.heap.size + 2, 0, none⟩) (by simp)).trans (boxH2 w _ T V); have HU := Lib.hid (hu.below hb2 hb2.size); have HB := Lib.hid (HB0.out.trans (hb2.mono HB0.out.size)); have hz2 := hb2.size; (simp only [World.size_alloc] at hz2); clear hu hb2)
    | (go_at_call 32; refine (containsF_any _ HF.out _ T V (w.heap.size + 1) 0 (w.heap.size + 2) 0 _ (HW.out.below HB.out) HU.out f1 f2 (by omega) (by omega)).mono ?_; rintro e w3 ⟨he, hb3⟩; rw [← HR.out] at he; subst he; have HB := Lib.hid (bthen HB.out hb3); clear hb3))
  go_ret
  exact ⟨rfl, HB.out⟩
end Go.Proofs.YtjenbkdfbendlaaGreatDoor


namespace Go.Proofs.YtjenbkdfbendlaaGreatDoor
open Go.RowKit
set_option linter.unusedVariables false

def MapAt (f : UInt8 → UInt8) (w : World) (s : ByteArray) (j : Nat) (wr : World) : Prop :=
  Below w.heap.size w wr ∧ ∃ A : Array Value, wr.heap[w.heap.size]? = some (.cells A 5 (A.size, A.size + 1)) ∧ s.size ≤ A.size ∧ ∀ k (h : k < s.size), A[k]? = some (.int .u8 ((if k < j then f s[k] else s[k]).toNat : Int))

theorem MapAt.cell {f : UInt8 → UInt8} {w wr : World} {s : ByteArray} {j : Nat} (h : MapAt f w s j wr) (hj : j < s.size) : wr.cell? ⟨w.heap.size, j, none⟩ = some (.int .u8 (s[j].toNat : Int)) ∧ wr.frozen? ⟨w.heap.size, j, none⟩ = false := by
  obtain ⟨_, A, hA, hs, hc⟩ := h
  have := hc j hj
  rw [if_neg (by omega)] at this
  refine ⟨by simp only [World.cell?, hA]; simpa using this, by simp only [World.frozen?, hA]; simp; omega⟩
theorem MapAt.skip {f : UInt8 → UInt8} {w wr : World} {s : ByteArray} {j : Nat} (h : MapAt f w s j wr) (hj : j < s.size) (he : f s[j] = s[j]) : MapAt f w s (j + 1) wr := by
  obtain ⟨hb, A, hA, hs, hc⟩ := h
  refine ⟨hb, A, hA, hs, fun k hk => ?_⟩
  rw [hc k hk]
  by_cases h1 : k < j
  · rw [if_pos h1, if_pos (by omega)]
  · rw [if_neg h1]
    by_cases h2 : k = j
    · subst h2; rw [if_pos (by omega), he]
    · rw [if_neg (by omega)]
theorem MapAt.store {f : UInt8 → UInt8} {w wr : World} {s : ByteArray} {j : Nat} (h : MapAt f w s j wr) (hj : j < s.size) (n : Int) (hn : n = ((f s[j]).toNat : Int)) : MapAt f w s (j + 1) (wr.setCell ⟨w.heap.size, j, none⟩ (.int .u8 n)) := by
  subst hn
  obtain ⟨hb, A, hA, hs, hc⟩ := h
  refine ⟨hb.setCell (p := ⟨w.heap.size, j, none⟩) (Nat.le_refl _) _, A.setIfInBounds j (.int .u8 (f s[j]).toNat), ?_, by simpa using hs, fun k hk => ?_⟩
  · obtain ⟨hlt, hv⟩ := Array.getElem?_eq_some_iff.1 hA
    show (wr.heap.modify w.heap.size _)[w.heap.size]? = _
    rw [Array.getElem?_eq_getElem (by rw [Array.size_modify]; exact hlt), Array.getElem_modify_self, hv]
    simp
  · rw [Array.getElem?_setIfInBounds]
    by_cases h2 : j = k
    · subst h2; rw [if_pos rfl, if_pos (by omega), if_pos (by omega)]
    · rw [if_neg h2, hc k hk]
      by_cases h1 : k < j
      · rw [if_pos h1, if_pos (by omega)]
      · rw [if_neg h1, if_neg (by omega)]
theorem MapAt.conv {f : UInt8 → UInt8} {w wr : World} {s : ByteArray} {cap : Nat} (h : MapAt f w s s.size wr) :
    (convert 36 9 (.slice (some ⟨w.heap.size, 0, none⟩) s.size cap)).run Tryz.prog wr = .ok (.string ⟨(s.data.toList.map f).toArray⟩) wr := by
  obtain ⟨_, A, hA, hs, hc⟩ := h
  have hl : s.size = (s.data.toList.map f).length := by simp
  conv => lhs; rw [hl]
  refine run_convert_bytes_back wr 36 9 5 _ cap (s.data.toList.map f) Tryz.underlying36 Tryz.underlying5 Tryz.underlying9 fun j hj => ?_
  have hj' : j < s.size := by rw [hl]; exact hj
  have e : ((⟨w.heap.size, 0, none⟩ : Addr).add j) = ⟨w.heap.size, j, none⟩ := by simp [Addr.add]; omega
  have := hc j hj'
  rw [if_pos hj'] at this
  rw [e]
  simp only [World.cell?, hA]
  simp
  exact this


def upC (c : UInt8) : UInt8 := if 97 ≤ c.toNat ∧ c.toNat ≤ 122 then UInt8.ofNat (c.toNat - 32) else c
def upL (l : List UInt8) : List UInt8 := l.map upC
end Go.Proofs.YtjenbkdfbendlaaGreatDoor


namespace Go.Proofs.YtjenbkdfbendlaaGreatDoor
open Go.RowKit
set_option linter.unusedVariables false

def LaidF (w : World) : Prop := Lib.TabIs Tryz.prog w "strings.asciiSpace" .u8 Lib.asciiSpaceTab
def plainB (l : List UInt8) : Bool := l.all (fun b => decide (b.toNat < 128)) && decide (l.length < 1000)
abbrev New (B : Nat) (w : World) (b : Nat) : Prop := B ≤ b ∧ b < w.heap.size
def rowCells : Array Value := #[.string { data := #[116, 111, 112] }, .string { data := #[] }, .bool false, .string { data := #[111, 98, 106, 101, 99, 116, 99, 108, 97, 115, 115] }, .string { data := #[] }, .string { data := #[111, 114, 103, 97, 110, 105, 122, 97, 116, 105, 111, 110] }, .string { data := #[116, 111, 112] }, .bool true, .string { data := #[111] }, .string { data := #[100, 101, 115, 99, 114, 105, 112, 116, 105, 111, 110] }, .string { data := #[111, 114, 103, 97, 110, 105, 122, 97, 116, 105, 111, 110, 97, 108, 117, 110, 105, 116] }, .string { data := #[116, 111, 112] }, .bool true, .string { data := #[111, 117] }, .string { data := #[100, 101, 115, 99, 114, 105, 112, 116, 105, 111, 110] }, .string { data := #[112, 101, 114, 115, 111, 110] }, .string { data := #[116, 111, 112] }, .bool true, .string { data := #[99, 110, 32, 115, 110] }, .string { data := #[100, 101, 115, 99, 114, 105, 112, 116, 105, 111, 110, 32, 117, 115, 101, 114, 112, 97, 115, 115, 119, 111, 114, 100] }, .string { data := #[105, 110, 101, 116, 111, 114, 103, 112, 101, 114, 115, 111, 110] }, .string { data := #[112, 101, 114, 115, 111, 110] }, .bool true, .string { data := #[] }, .string { data := #[117, 105, 100, 32, 109, 97, 105, 108] }, .string { data := #[112, 111, 115, 105, 120] }, .string { data := #[116, 111, 112] }, .bool false, .string { data := #[117, 105, 100, 32, 117, 105, 100, 110, 117, 109, 98, 101, 114] }, .string { data := #[] }, .string { data := #[103, 114, 111, 117, 112, 111, 102, 110, 97, 109, 101, 115] }, .string { data := #[116, 111, 112] }, .bool true, .string { data := #[99, 110, 32, 109, 101, 109, 98, 101, 114] }, .string { data := #[100, 101, 115, 99, 114, 105, 112, 116, 105, 111, 110] }]
def rowsV : Value := .agg rowCells
def rowV (c : CT) : Value := .agg #[strV c.name, strV c.sup, .bool c.st, strV c.must, strV c.may]
def noC : Value := .agg #[.string ⟨#[]⟩, .string ⟨#[]⟩, .bool false, .slice none 0 0, .slice none 0 0]

abbrev set5 (w : World) (b : Nat) (x0 x1 x2 x3 x4 : Value) : World := ((((w.setCell ⟨b, 0, none⟩ x0).setCell ⟨b, 1, none⟩ x1).setCell ⟨b, 2, none⟩ x2).setCell ⟨b, 3, none⟩ x3).setCell ⟨b, 4, none⟩ x4
end Go.Proofs.YtjenbkdfbendlaaGreatDoor


namespace Go.Proofs.YtjenbkdfbendlaaGreatDoor
open Go.RowKit
set_option linter.unusedVariables false

end Go.Proofs.YtjenbkdfbendlaaGreatDoor


namespace Go.Proofs.YtjenbkdfbendlaaGreatDoor
open Go.RowKit
set_option linter.unusedVariables false

def FindW (w : World) (o : Option CT) (e : Ending) (w' : World) : Prop := Below w.heap.size w w' ∧ match o with
  | none => e = .returned (.tuple #[noC, .bool false])
  | some c => ∃ u1 u2, e = .returned (.tuple #[.agg #[strV c.name, strV c.sup, .bool c.st, u1, u2], .bool true]) ∧ IsTo (New w.heap.size w') w' c.mustL u1 ∧ IsTo (New w.heap.size w') w' c.mayL u2

end Go.Proofs.YtjenbkdfbendlaaGreatDoor


namespace Go.Proofs.YtjenbkdfbendlaaGreatDoor
open Go.RowKit
set_option linter.unusedVariables false

def restC : Option CT → List CT
  | none => []
  | some c => c :: chainC 3 c.sup
theorem block_ne (w : World) (a : Addr) (x : Value) {b : Nat} (h : b ≠ a.block) : (w.setCell a x).heap[b]? = w.heap[b]? := by
  unfold World.setCell
  simp [Array.getElem?_modify, Ne.symm h]
end Go.Proofs.YtjenbkdfbendlaaGreatDoor


namespace Go.Proofs.YtjenbkdfbendlaaGreatDoor
open Go.RowKit
set_option linter.unusedVariables false

def IsTT (n0 : Nat) (w : World) (U : List (List (List UInt8))) (v : Value) : Prop := ∃ a c, v = .slice a U.length c ∧ ∀ j, (h : j < U.length) → ∃ b off u, a = some ⟨b, off, none⟩ ∧ b < n0 ∧ w.cell? ⟨b, off + j, none⟩ = some u ∧ IsT n0 w U[j] u

end Go.Proofs.YtjenbkdfbendlaaGreatDoor


namespace Go.Proofs.YtjenbkdfbendlaaGreatDoor
open Go.RowKit
set_option linter.unusedVariables false

def Box1 (w : World) (b : Nat) (x : Value) : Prop := w.cell? ⟨b, 0, none⟩ = some x
theorem Box1.below {w w' : World} {b n : Nat} {x : Value} (h : Box1 w b x) (hb : Below n w w') (hn : b < n) : Box1 w' b x := (hb.cell (p := ⟨b, 0, none⟩) hn).trans h
end Go.Proofs.YtjenbkdfbendlaaGreatDoor


namespace Go.Proofs.YtjenbkdfbendlaaGreatDoor
open Go.RowKit
set_option linter.unusedVariables false

end Go.Proofs.YtjenbkdfbendlaaGreatDoor


namespace Go.Proofs.YtjenbkdfbendlaaGreatDoor
open Go.RowKit
set_option linter.unusedVariables false

def BoxN (w : World) (b : Nat) (x : ByteArray) (u : Value) : Prop := w.heap[b]? = some (.cells #[.string x, u] 24 (0, 0))
theorem BoxN.below {w w' : World} {b n : Nat} {x : ByteArray} {u : Value} (h : BoxN w b x u) (hb : Below n w w') (hn : b < n) : BoxN w' b x u := (hb.block b hn).trans h
theorem BoxN.cells {w : World} {b : Nat} {x : ByteArray} {u : Value} (h : BoxN w b x u) : w.cell? ⟨b, 0, none⟩ = some (.string x) ∧ w.cell? ⟨b, 1, none⟩ = some u := by
  unfold BoxN at h
  simp [World.cell?, h]
theorem boxN_new (w : World) (x : ByteArray) (u : Value) : BoxN (w.alloc (.cells #[.string x, u] 24)) w.heap.size x u := heap_alloc_new w _

def soundS (A : List AT) : Prop := ∀ a ∈ A, a.2.length ≤ 40 ∧ ∀ v ∈ a.2, v.length ≤ 100
end Go.Proofs.YtjenbkdfbendlaaGreatDoor


namespace Go.Proofs.YtjenbkdfbendlaaGreatDoor
open Go.RowKit
set_option linter.unusedVariables false

def perL (n : List UInt8) : List AT := [([99, 110], [n]), ([111, 98, 106, 101, 99, 116, 99, 108, 97, 115, 115], [[112, 101, 114, 115, 111, 110]]), ([115, 110], [[115]])]
def perD (n : List UInt8) : List UInt8 := [99, 110, 61] ++ n ++ [44, 111, 61, 120]

structure PerAt (w : World) (g : Nat) (N : ByteArray) : Prop where
  b1 : w.heap[g - 3]? = some (.cells #[.string N] 9 (0, 0))
  b2 : w.heap[g - 2]? = some (.cells #[.string ⟨#[112, 101, 114, 115, 111, 110]⟩] 9 (0, 0))
  b3 : w.heap[g - 1]? = some (.cells #[.string ⟨#[115]⟩] 9 (0, 0))
  b4 : w.heap[g]? = some (.cells #[.string ⟨#[99, 110]⟩, .slice (some ⟨g - 3, 0, none⟩) 1 1, .string ⟨#[111, 98, 106, 101, 99, 116, 99, 108, 97, 115, 115]⟩, .slice (some ⟨g - 2, 0, none⟩) 1 1, .string ⟨#[115, 110]⟩, .slice (some ⟨g - 1, 0, none⟩) 1 1] 40 (0, 0))
  lt : g < w.heap.size
theorem PerAt.below {w w' : World} {g n : Nat} {N : ByteArray} (h : PerAt w g N) (hb : Below n w w') (hn : g < n) : PerAt w' g N :=
  ⟨(hb.block _ (by omega)).trans h.b1, (hb.block _ (by omega)).trans h.b2, (hb.block _ (by omega)).trans h.b3, (hb.block _ hn).trans h.b4, Nat.lt_of_lt_of_le h.lt hb.size⟩
theorem PerAt.cells {w : World} {g : Nat} {N : ByteArray} (h : PerAt w g N) : w.cell? ⟨g, 2, none⟩ = some (.string ⟨#[111, 98, 106, 101, 99, 116, 99, 108, 97, 115, 115]⟩) ∧ w.cell? ⟨g, 3, none⟩ = some (.slice (some ⟨g - 2, 0, none⟩) 1 1) ∧ w.cell? ⟨g, 4, none⟩ = some (.string ⟨#[115, 110]⟩) ∧ w.cell? ⟨g, 5, none⟩ = some (.slice (some ⟨g - 1, 0, none⟩) 1 1) :=
  ⟨by simp only [World.cell?, h.b4]; rfl, by simp only [World.cell?, h.b4]; rfl, by simp only [World.cell?, h.b4]; rfl, by simp only [World.cell?, h.b4]; rfl⟩
theorem per_blocks (w : World) (N : ByteArray) (o : Obj) : PerAt (((((w.alloc o).alloc (.cells #[.string N] 9)).alloc (.cells #[.string ⟨#[112, 101, 114, 115, 111, 110]⟩] 9)).alloc (.cells #[.string ⟨#[115]⟩] 9)).alloc (.cells #[.string ⟨#[99, 110]⟩, .slice (some ⟨w.heap.size + 1, 0, none⟩) 1 1, .string ⟨#[111, 98, 106, 101, 99, 116, 99, 108, 97, 115, 115]⟩, .slice (some ⟨w.heap.size + 1 + 1, 0, none⟩) 1 1, .string ⟨#[115, 110]⟩, .slice (some ⟨w.heap.size + 1 + 1 + 1, 0, none⟩) 1 1] 40)) (w.heap.size + 4) N := by
  have s1 : (w.alloc o).heap.size = w.heap.size + 1 := by simp
  have e1 := heap_alloc_new (w.alloc o) (.cells #[.string N] 9)
  rw [s1] at e1
  generalize w.alloc o = W1 at s1 e1 ⊢
  have s2 : (W1.alloc (.cells #[.string N] 9)).heap.size = w.heap.size + 2 := by simp; omega
  have e2 := heap_alloc_new (W1.alloc (.cells #[.string N] 9)) (.cells #[.string ⟨#[112, 101, 114, 115, 111, 110]⟩] 9)
  rw [s2] at e2
  generalize W1.alloc (.cells #[.string N] 9) = W2 at s2 e1 e2 ⊢
  have s3 : (W2.alloc (.cells #[.string ⟨#[112, 101, 114, 115, 111, 110]⟩] 9)).heap.size = w.heap.size + 3 := by simp; omega
  have f1 := (heap_alloc_old W2 (.cells #[.string ⟨#[112, 101, 114, 115, 111, 110]⟩] 9) (show w.heap.size + 1 < W2.heap.size by omega)).trans e1
  have e3 := heap_alloc_new (W2.alloc (.cells #[.string ⟨#[112, 101, 114, 115, 111, 110]⟩] 9)) (.cells #[.string ⟨#[115]⟩] 9)
  rw [s3] at e3
  generalize W2.alloc (.cells #[.string ⟨#[112, 101, 114, 115, 111, 110]⟩] 9) = W3 at s3 e2 e3 f1 ⊢
  have s4 : (W3.alloc (.cells #[.string ⟨#[115]⟩] 9)).heap.size = w.heap.size + 4 := by simp; omega
  have g1 := (heap_alloc_old W3 (.cells #[.string ⟨#[115]⟩] 9) (show w.heap.size + 1 < W3.heap.size by omega)).trans f1
  have g2 := (heap_alloc_old W3 (.cells #[.string ⟨#[115]⟩] 9) (show w.heap.size + 2 < W3.heap.size by omega)).trans e2
  generalize W3.alloc (.cells #[.string ⟨#[115]⟩] 9) = W4 at s4 e3 g1 g2 ⊢
  generalize hO : Obj.cells #[.string ⟨#[99, 110]⟩, .slice (some ⟨w.heap.size + 1, 0, none⟩) 1 1, .string ⟨#[111, 98, 106, 101, 99, 116, 99, 108, 97, 115, 115]⟩, .slice (some ⟨w.heap.size + 1 + 1, 0, none⟩) 1 1, .string ⟨#[115, 110]⟩, .slice (some ⟨w.heap.size + 1 + 1 + 1, 0, none⟩) 1 1] 40 = O
  have e4 := heap_alloc_new W4 O
  rw [s4] at e4
  have k1 := (heap_alloc_old W4 O (show w.heap.size + 1 < W4.heap.size by omega)).trans g1
  have k2 := (heap_alloc_old W4 O (show w.heap.size + 2 < W4.heap.size by omega)).trans g2
  have k3 := (heap_alloc_old W4 O (show w.heap.size + 3 < W4.heap.size by omega)).trans e3
  exact ⟨k1, k2, k3, by rw [e4, ← hO]; rfl, by simp; omega⟩

set_option maxRecDepth 100000 in
set_option maxHeartbeats 4000000 in
theorem person_any (N : ByteArray) (hN : N.size ≤ 1000) (w : World) : Calls Tryz.prog 43 #[.string N] w fun e w' => ∃ D g, e = .returned (.agg #[.string D, .slice (some ⟨g, 0, none⟩) 3 3]) ∧ D.data.toList = perD N.data.toList ∧ PerAt w' g N ∧ w.heap.size + 4 = g ∧ Below w.heap.size w w' := by
  obtain ⟨T, hT⟩ : ∃ T, (⟨#[99, 110, 61]⟩ : ByteArray) ++ N = T := ⟨_, rfl⟩
  obtain ⟨D, hD⟩ : ∃ D, T ++ (⟨#[44, 111, 61, 120]⟩ : ByteArray) = D := ⟨_, rfl⟩
  have hTs : T.size = 3 + N.size := by rw [← hT, ← bytes_len, app_list, List.length_append, bytes_len, bytes_len]; rfl
  have hDl : D.data.toList = perD N.data.toList := by rw [← hD, ← hT, app_list, app_list]; rfl
  have q1 : 3 + N.size ≤ 9223372036854775807 := by omega
  have q2 : T.size + 4 ≤ 9223372036854775807 := by omega
  have HDl := Lib.hid hDl
  have HP := Lib.hid (fun o => per_blocks w N o)
  have HB := Lib.hid (fun o => ((((((Below.refl w.heap.size w).alloc (Nat.le_refl _) o).alloc (by simp) (.cells #[.string N] 9)).alloc (by simp; omega) (.cells #[.string ⟨#[112, 101, 114, 115, 111, 110]⟩] 9)).alloc (by simp; omega) (.cells #[.string ⟨#[115]⟩] 9)).alloc (by simp; omega) (.cells #[.string ⟨#[99, 110]⟩, .slice (some ⟨w.heap.size + 1, 0, none⟩) 1 1, .string ⟨#[111, 98, 106, 101, 99, 116, 99, 108, 97, 115, 115]⟩, .slice (some ⟨w.heap.size + 1 + 1, 0, none⟩) 1 1, .string ⟨#[115, 110]⟩, .slice (some ⟨w.heap.size + 1 + 1 + 1, 0, none⟩) 1 1] 40)))
  clear hTs hDl
  go_enter Tryz.func43, Tryz.ntmps43
  go_wp2
  refine bodyPost_ret (v := .agg #[.string D, .slice (some ⟨w.heap.size + 4, 0, none⟩) 3 3]) (by simp [results, Tryz.results43, go_sem]) rfl ⟨D, w.heap.size + 4, rfl, HDl.out, ?_, rfl, ?_⟩
  · exact HP.out _
  · exact HB.out _

end Go.Proofs.YtjenbkdfbendlaaGreatDoor


namespace Go.Proofs.YtjenbkdfbendlaaGreatDoor
open Go.RowKit
set_option linter.unusedVariables false

end Go.Proofs.YtjenbkdfbendlaaGreatDoor


namespace Go.Proofs.YtjenbkdfbendlaaGreatDoor
open Go.RowKit
set_option linter.unusedVariables false

end Go.Proofs.YtjenbkdfbendlaaGreatDoor


namespace Go.Proofs.YtjenbkdfbendlaaGreatDoor
open Go.RowKit
set_option linter.unusedVariables false

def codeL : List Int := [17, 19, 21, 19, 20, 20]
def badL : List AT := [([110, 111, 110, 101], [[120]]), ([100, 101, 115, 99, 114, 105, 112, 116, 105, 111, 110], []), ([117, 105, 100, 110, 117, 109, 98, 101, 114], [[120]]), ([117, 105, 100, 110, 117, 109, 98, 101, 114], [[49], [50]]), ([109, 97, 105, 108], [[97], [65, 32]]), ([67, 78], [[122]])]
def othD : List UInt8 := [99, 110, 61, 111, 116, 104, 101, 114]
def pName (d : List UInt8) : List UInt8 := 112 :: d
def ouA : AT := ([111, 117], [[97]])
end Go.Proofs.YtjenbkdfbendlaaGreatDoor


namespace Go.Proofs.YtjenbkdfbendlaaGreatDoor
open Go.RowKit
set_option linter.unusedVariables false

theorem conv_one (m : Int) (b : UInt8) (h : (b.toNat : Int) = m) (w : World) : (convert 36 9 (.slice (some ⟨w.heap.size, 0, none⟩) 1 1)).run Tryz.prog (w.alloc (.cells #[.int .u8 m] 5)) = .ok (.string (ofL [b])) (w.alloc (.cells #[.int .u8 m] 5)) := by
  subst h
  refine run_convert_bytes_back _ 36 9 5 _ 1 [b] Tryz.underlying36 Tryz.underlying5 Tryz.underlying9 fun j hj => ?_
  have : j = 0 := by simp at hj; omega
  subst this
  simp [Addr.add]
theorem decDigits_big {u : Nat} (h : 10 ≤ u) : Lib.decDigits u = Lib.decDigits (u / 10) ++ [UInt8.ofNat (48 + u % 10)] := by rw [Lib.decDigits, dif_neg (by omega)]
theorem digit_val (u : Nat) : ((UInt8.ofNat (48 + u % 10)).toNat : Int) = 48 + (u : Int) % 10 := by simp; omega
theorem digit_val1 (u : Nat) (h : u < 10) : ((UInt8.ofNat (48 + u)).toNat : Int) = 48 + (u : Int) := by simp; omega

theorem wrap_u64 (n : Int) : IntKind.u64.wrap n = n % 18446744073709551616 := by
  unfold IntKind.wrap
  simp [IntKind.bits, IntKind.signed]
set_option maxRecDepth 100000 in
set_option maxHeartbeats 4000000 in
theorem digitsNat_any (neg : Bool) (N : Nat) (hN : N ≤ 1000000000000000000) (hneg : neg = true → 1 ≤ N) (w : World) :
    Calls Tryz.prog 42 #[.int .i64 (if neg then -(N : Int) else N)] w fun e w' => e = .returned (.string (ofL (if neg then 45 :: Lib.decDigits N else Lib.decDigits N))) ∧ Below w.heap.size w w' := by
  have hlen : (Lib.decDigits N).length ≤ 21 := by
    have := Lib.itoa_length_le (N : Int) (by omega) (by omega)
    rw [Lib.itoa_nonneg] at this
    exact this
  obtain ⟨V, hV⟩ : ∃ V, V = (if neg then -(N : Int) else N) := ⟨_, rfl⟩
  rw [← hV]
  obtain ⟨U, hU⟩ : ∃ U, IntKind.u64.wrap V = U := ⟨_, rfl⟩
  have key : decide (V < 0) = neg ∧ (neg = true → IntKind.u64.wrap (-U) = N) ∧ (neg = false → U = N) := by
    cases neg with
    | false =>
      simp at hV
      refine ⟨by simp; omega, by simp, fun _ => ?_⟩
      rw [← hU, hV]; simp only [wrap_u64]; omega
    | true =>
      simp at hV
      have := hneg rfl
      refine ⟨by simp; omega, fun _ => ?_, by simp⟩
      rw [← hU, hV]; simp only [wrap_u64]; omega
  obtain ⟨k1, k2, k3⟩ := key
  clear hV
  have HLen := Lib.hid hlen
  clear hlen
  cases neg with
  | false =>
    have hUN := k3 rfl
    clear k3 k2 hneg
    subst hUN
    go_enter Tryz.func42, Tryz.ntmps42
    go_wp2
    go_loopw [3, 4] (fun u s wr => ∃ (m : Nat) (D : List UInt8), u = .int .u64 m ∧ s = .string (ofL D) ∧ m ≤ 1000000000000000000 ∧ Hid (Lib.decDigits N = Lib.decDigits m ++ D) ∧ D.length ≤ 21 ∧ Below w.heap.size w wr) (fun u _ _ => (intOf u).toNat)
    case atStart => exact ⟨N, [], rfl, rfl, hN, Lib.hid (by simp), by simp, Below.refl _ _⟩
    case round =>
      obtain ⟨m, D, rfl, rfl, hm, HD, hDl, hbel⟩ := hrel
      have HBel := Lib.hid hbel
      have hsz := hbel.size
      clear hbel
      have hs1 := ofL_size D
      by_cases h10 : 10 ≤ m
      · have t1 : decide ((10 : Int) ≤ (m : Int)) = true := by simp; omega
        have hcv := conv_one (48 + (m : Int) % 10) (UInt8.ofNat (48 + m % 10)) (digit_val m) wr
        have hnew : Lib.decDigits N = Lib.decDigits (m / 10) ++ (UInt8.ofNat (48 + m % 10) :: D) := by rw [HD.out, decDigits_big h10]; simp
        have hl2 : (UInt8.ofNat (48 + m % 10) :: D).length ≤ 21 := by have := HLen.out; rw [hnew] at this; simp at this ⊢; omega
        have HNew := Lib.hid hnew
        have hs2 := ofL_size [UInt8.ofNat (48 + m % 10)]
        have hap : ofL [UInt8.ofNat (48 + m % 10)] ++ ofL D = ofL (UInt8.ofNat (48 + m % 10) :: D) := ofL_app _ _
        have hs1' : (ofL D).size ≤ 21 := by omega
        have hs2' : (ofL [UInt8.ofNat (48 + m % 10)]).size ≤ 1 := by rw [hs2]; simp
        have HAp := Lib.hid hap
        clear hnew hs1 hs2 hap
        generalize UInt8.ofNat (48 + m % 10) = b at *
        go_wp2
        go_roundw
        case rel => exact ⟨m / 10, b :: D, by go_num, by rw [HAp.out], by omega, HNew, hl2, HBel.out.alloc hsz _⟩
        case measure => simp [intOf]; omega
      · have t1 : decide ((10 : Int) ≤ (m : Int)) = false := by simp; omega
        have hcv := conv_one (48 + (m : Int)) (UInt8.ofNat (48 + m)) (digit_val1 m (by omega)) wr
        have hnew : Lib.decDigits N = UInt8.ofNat (48 + m) :: D := by rw [HD.out, Lib.decDigits_one (by omega)]; rfl
        have hs2 := ofL_size [UInt8.ofNat (48 + m)]
        have hap : ofL [UInt8.ofNat (48 + m)] ++ ofL D = ofL (Lib.decDigits N) := by rw [ofL_app, hnew]; rfl
        have hs1' : (ofL D).size ≤ 21 := by omega
        have hs2' : (ofL [UInt8.ofNat (48 + m)]).size ≤ 1 := by rw [hs2]; simp
        have hs3 : (ofL (Lib.decDigits N)).size ≤ 21 := by rw [ofL_size]; exact HLen.out
        have hs4 : (⟨#[45]⟩ : ByteArray).size = 1 := rfl
        have hap2 : (⟨#[45]⟩ : ByteArray) ++ ofL (Lib.decDigits N) = ofL (45 :: Lib.decDigits N) := ofL_app [45] _
        have HAp2 := Lib.hid hap2
        clear hnew hs1 hs2 hap2
        generalize UInt8.ofNat (48 + m) = b at *
        obtain ⟨R, hR⟩ : ∃ R, R = ofL (Lib.decDigits N) := ⟨_, rfl⟩
        rw [← hR] at hap hs3 HAp2
        have HR := Lib.hid hR
        clear hR
        go_wp2
        go_ret
        exact ⟨by rw [← HR.out]; rfl, HBel.out.alloc hsz _⟩
  | true =>
    have hN1 := hneg rfl
    have k2' := k2 rfl
    clear k3 k2 hneg
    go_enter Tryz.func42, Tryz.ntmps42
    go_wp2
    go_loopw [3, 4] (fun u s wr => ∃ (m : Nat) (D : List UInt8), u = .int .u64 m ∧ s = .string (ofL D) ∧ m ≤ 1000000000000000000 ∧ Hid (Lib.decDigits N = Lib.decDigits m ++ D) ∧ D.length ≤ 21 ∧ Below w.heap.size w wr) (fun u _ _ => (intOf u).toNat)
    case atStart => exact ⟨N, [], rfl, rfl, hN, Lib.hid (by simp), by simp, Below.refl _ _⟩
    case round =>
      obtain ⟨m, D, rfl, rfl, hm, HD, hDl, hbel⟩ := hrel
      have HBel := Lib.hid hbel
      have hsz := hbel.size
      clear hbel
      have hs1 := ofL_size D
      by_cases h10 : 10 ≤ m
      · have t1 : decide ((10 : Int) ≤ (m : Int)) = true := by simp; omega
        have hcv := conv_one (48 + (m : Int) % 10) (UInt8.ofNat (48 + m % 10)) (digit_val m) wr
        have hnew : Lib.decDigits N = Lib.decDigits (m / 10) ++ (UInt8.ofNat (48 + m % 10) :: D) := by rw [HD.out, decDigits_big h10]; simp
        have hl2 : (UInt8.ofNat (48 + m % 10) :: D).length ≤ 21 := by have := HLen.out; rw [hnew] at this; simp at this ⊢; omega
        have HNew := Lib.hid hnew
        have hs2 := ofL_size [UInt8.ofNat (48 + m % 10)]
        have hap : ofL [UInt8.ofNat (48 + m % 10)] ++ ofL D = ofL (UInt8.ofNat (48 + m % 10) :: D) := ofL_app _ _
        have hs1' : (ofL D).size ≤ 21 := by omega
        have hs2' : (ofL [UInt8.ofNat (48 + m % 10)]).size ≤ 1 := by rw [hs2]; simp
        have HAp := Lib.hid hap
        clear hnew hs1 hs2 hap
        generalize UInt8.ofNat (48 + m % 10) = b at *
        go_wp2
        go_roundw
        case rel => exact ⟨m / 10, b :: D, by go_num, by rw [HAp.out], by omega, HNew, hl2, HBel.out.alloc hsz _⟩
        case measure => simp [intOf]; omega
      · have t1 : decide ((10 : Int) ≤ (m : Int)) = false := by simp; omega
        have hcv := conv_one (48 + (m : Int)) (UInt8.ofNat (48 + m)) (digit_val1 m (by omega)) wr
        have hnew : Lib.decDigits N = UInt8.ofNat (48 + m) :: D := by rw [HD.out, Lib.decDigits_one (by omega)]; rfl
        have hs2 := ofL_size [UInt8.ofNat (48 + m)]
        have hap : ofL [UInt8.ofNat (48 + m)] ++ ofL D = ofL (Lib.decDigits N) := by rw [ofL_app, hnew]; rfl
        have hs1' : (ofL D).size ≤ 21 := by omega
        have hs2' : (ofL [UInt8.ofNat (48 + m)]).size ≤ 1 := by rw [hs2]; simp
        have hs3 : (ofL (Lib.decDigits N)).size ≤ 21 := by rw [ofL_size]; exact HLen.out
        have hs4 : (⟨#[45]⟩ : ByteArray).size = 1 := rfl
        have hap2 : (⟨#[45]⟩ : ByteArray) ++ ofL (Lib.decDigits N) = ofL (45 :: Lib.decDigits N) := ofL_app [45] _
        have HAp2 := Lib.hid hap2
        clear hnew hs1 hs2 hap2
        generalize UInt8.ofNat (48 + m) = b at *
        obtain ⟨R, hR⟩ : ∃ R, R = ofL (Lib.decDigits N) := ⟨_, rfl⟩
        rw [← hR] at hap hs3 HAp2
        have HR := Lib.hid hR
        clear hR
        go_wp2
        go_ret
        exact ⟨by rw [HAp2.out]; rfl, HBel.out.alloc hsz _⟩

theorem digits_any (n : Int) (h0 : -1000000000000000000 ≤ n) (h1 : n ≤ 1000000000000000000) (w : World) :
    Calls Tryz.prog 42 #[.int .i64 n] w fun e w' => e = .returned (.string (ofL (Lib.itoa n))) ∧ Below w.heap.size w w' := by
  by_cases h : n < 0
  · have := digitsNat_any true n.natAbs (by omega) (by intro _; omega) w
    simp only [if_true] at this
    have e : -(n.natAbs : Int) = n := by omega
    rw [e] at this
    unfold Lib.itoa
    rw [if_pos h]
    exact this
  · have := digitsNat_any false n.toNat (by omega) (by intro h; cases h) w
    simp only [Bool.false_eq_true, if_false] at this
    have e : (n.toNat : Int) = n := by omega
    rw [e] at this
    unfold Lib.itoa
    rw [if_neg h]
    exact this
end Go.Proofs.YtjenbkdfbendlaaGreatDoor


namespace Go.Proofs.YtjenbkdfbendlaaGreatDoor
open Go.RowKit
set_option linter.unusedVariables false

theorem itoa_short : ∀ n : Fin 256, (Lib.itoa (n.1 : Int)).length ≤ 3 := by decide +kernel
def bA (k : Nat) : AT := badL.getD k ([], [])
def bT (k : Nat) : ByteArray := ofL (bA k).1
def cK (k : Nat) : Int := codeL.getD k 0
def bV (h : Nat) (k : Nat) : Value := [.slice (some ⟨h + 1, 0, none⟩) 1 1, .slice none 0 0, .slice (some ⟨h + 2, 0, none⟩) 1 1, .slice (some ⟨h + 3, 0, none⟩) 2 2, .slice (some ⟨h + 4, 0, none⟩) 2 2, .slice (some ⟨h + 5, 0, none⟩) 1 1].getD k .nilIface
structure FstAt (h : Nat) (W : World) (E : ByteArray) (u : Value) : Prop where
  box : BoxN W h E u
  b1 : W.heap[h + 1]? = some (.cells #[.string ⟨#[120]⟩] 9 (0, 0))
  b2 : W.heap[h + 2]? = some (.cells #[.string ⟨#[120]⟩] 9 (0, 0))
  b3 : W.heap[h + 3]? = some (.cells #[.string ⟨#[49]⟩, .string ⟨#[50]⟩] 9 (0, 0))
  b4 : W.heap[h + 4]? = some (.cells #[.string ⟨#[97]⟩, .string ⟨#[65, 32]⟩] 9 (0, 0))
  b5 : W.heap[h + 5]? = some (.cells #[.string ⟨#[122]⟩] 9 (0, 0))
  b6 : W.heap[h + 6]? = some (.cells #[.string ⟨#[110, 111, 110, 101]⟩, .slice (some ⟨h + 1, 0, none⟩) 1 1, .string ⟨#[100, 101, 115, 99, 114, 105, 112, 116, 105, 111, 110]⟩, .slice none 0 0, .string ⟨#[117, 105, 100, 110, 117, 109, 98, 101, 114]⟩, .slice (some ⟨h + 2, 0, none⟩) 1 1, .string ⟨#[117, 105, 100, 110, 117, 109, 98, 101, 114]⟩, .slice (some ⟨h + 3, 0, none⟩) 2 2, .string ⟨#[109, 97, 105, 108]⟩, .slice (some ⟨h + 4, 0, none⟩) 2 2, .string ⟨#[67, 78]⟩, .slice (some ⟨h + 5, 0, none⟩) 1 1] 40 (0, 0))
  b7 : W.heap[h + 7]? = some (.cells #[.int .i64 17, .int .i64 19, .int .i64 21, .int .i64 19, .int .i64 20, .int .i64 20] 3 (0, 0))
  size : W.heap.size = h + 8

def XAt (W7 : World) (E : ByteArray) (L : List AT) (wx : World) (b : Nat) (u : Value) : Prop := W7.heap.size ≤ b ∧ b < wx.heap.size ∧ BoxN wx b E u ∧ IsA wx.heap.size wx L u ∧ Below W7.heap.size W7 wx
theorem XAt.drew {W7 wx : World} {E : ByteArray} {L : List AT} {b : Nat} {u : Value} (h : XAt W7 E L wx b u) : XAt W7 E L wx.drew b u := ⟨h.1, h.2.1, h.2.2.1, h.2.2.2.1, h.2.2.2.2.drew⟩
theorem XAt.from {W7 wx : World} {E : ByteArray} {L : List AT} {b : Nat} {u : Value} (h : XAt W7.drew E L wx b u) : XAt W7 E L wx b u := ⟨h.1, h.2.1, h.2.2.1, h.2.2.2.1, (Below.refl W7.heap.size W7).drew.trans h.2.2.2.2⟩
def At9 (w9 w : World) : Prop := Below w9.heap.size w9 w
theorem At9.go {w9 w w' : World} (h : At9 w9 w) (hb : Below w.heap.size w w') : At9 w9 w' := bthen h hb
theorem At9.mono {w9 w : World} (h : At9 w9 w) {n : Nat} (hn : n ≤ w9.heap.size) : Below n w9 w := Below.mono h hn
theorem At9.size {w9 w : World} (h : At9 w9 w) : w9.heap.size ≤ w.heap.size := Below.size h
theorem At9.cell {w9 w : World} (h : At9 w9 w) {p : Addr} (hp : p.block < w9.heap.size) : w.cell? p = w9.cell? p := Below.cell h hp
abbrev C6 (N1 N2 N3 : ByteArray) (v1 v2 v3 : Value) : Obj := .cells #[.string N1, v1, .string N2, v2, .string N3, v3] 40
abbrev C8 (g q : Nat) : Array Value := #[.string ⟨#[99, 110]⟩, .slice (some ⟨g - 3, 0, none⟩) 1 1, .string ⟨#[111, 98, 106, 101, 99, 116, 99, 108, 97, 115, 115]⟩, .slice (some ⟨g - 2, 0, none⟩) 1 1, .string ⟨#[115, 110]⟩, .slice (some ⟨g - 1, 0, none⟩) 1 1, .string ⟨#[111, 117]⟩, .slice (some ⟨q, 0, none⟩) 1 1]
end Go.Proofs.YtjenbkdfbendlaaGreatDoor


namespace Go.Proofs.YtjenbkdfbendlaaGreatDoor
set_option linter.unusedVariables false

section
variable {P : Program} {ops : Array Oper} {Q : Exit → Act → World → Prop}

def Came (listed : Array Bool) (o : Oper) : Prop := ∀ e ∈ o.after, Region.binds .any e = true → listed.getD e.on false = true

structure Kept (ops : Array Oper) (F : Nat → Value → World → Prop) (G : World → World → Prop) (a0 : Act) (w0 : World) (listed : Array Bool) (a : Act) (w : World) : Prop where
  size : listed.size = ops.size
  shut : ∀ (i : Nat) (o : Oper), ops[i]? = some o → listed.getD i false = true → Came listed o
  defers : a.defers = a0.defers
  slots : a.tmps.size = a0.tmps.size
  grown : G w0 w
  other : ∀ t, (∀ (i : Nat) (o : Oper), ops[i]? = some o → o.dst ≠ some t) → a.tmps[t]? = a0.tmps[t]?
  fact : ∀ (i : Nat) (o : Oper) (d : Tmp), ops[i]? = some o → o.dst = some d → listed.getD i false = true → ∃ v, a.tmps[d]? = some v ∧ F i v w

theorem came_more {listed : Array Bool} {i : Nat} {o : Oper} (h : Came listed o) : Came (listed.setIfInBounds i true) o := fun e he hb => getD_set_true (h e he hb)

theorem getD_set_self {listed : Array Bool} {i : Nat} (h : i < listed.size) : (listed.setIfInBounds i true).getD i false = true := by simp [h]

theorem Kept.more {F : Nat → Value → World → Prop} {G : World → World → Prop} {a0 a : Act} {w0 w w' : World} {listed : Array Bool} (hk : Kept ops F G a0 w0 listed a w) {i : Nat} {o : Oper} {d : Tmp} {v : Value}
    (hF : ∀ i v w w', F i v w → G w w' → F i v w') (hG : ∀ w w' w'', G w w' → G w' w'' → G w w'')
    (hd : ∀ (i j : Nat) (o o' : Oper) (d : Tmp), ops[i]? = some o → ops[j]? = some o' → o.dst = some d → o'.dst = some d → i = j)
    (hin : ∀ (i : Nat) (o : Oper) (d : Tmp), ops[i]? = some o → o.dst = some d → d < a0.tmps.size)
    (ho : ops[i]? = some o) (hod : o.dst = some d) (hc : Came listed o) (hg : G w w') (hv : F i v w') : Kept ops F G a0 w0 (listed.setIfInBounds i true) (a.put (some d) v) w' := by
  have hi : i < listed.size := by rw [hk.size]; exact (Array.getElem?_eq_some_iff.1 ho).1
  refine ⟨by simp [hk.size], fun j o' ho' hl => ?_, hk.defers, by simp [Act.put, hk.slots], hG _ _ _ hk.grown hg, fun t ht => ?_, fun j o' d' ho' hd' hl => ?_⟩
  · by_cases hij : i = j
    · subst hij
      rw [ho] at ho'; cases ho'
      exact came_more hc
    · rw [getD_set_ne false hij] at hl
      exact came_more (hk.shut j o' ho' hl)
  · have : d ≠ t := fun h => ht i o ho (by rw [hod, h])
    simp only [Act.put]
    rw [Array.getElem?_setIfInBounds_ne this]
    exact hk.other t ht
  · by_cases hij : i = j
    · subst hij
      rw [ho] at ho'; cases ho'
      rw [hod] at hd'; cases hd'
      refine ⟨v, ?_, hv⟩
      have : d < a.tmps.size := by rw [hk.slots]; exact hin i o d ho hod
      simp [Act.put, this]
    · rw [getD_set_ne false hij] at hl
      obtain ⟨u, hu, hf⟩ := hk.fact j o' d' ho' hd' hl
      have : d ≠ d' := fun h => hij (hd i j o o' d ho ho' hod (by rw [hd', h]))
      refine ⟨u, ?_, hF _ _ _ _ hf hg⟩
      simp only [Act.put]
      rw [Array.getElem?_setIfInBounds_ne this]
      exact hu

theorem rest_came {listed : Array Bool} (hs : ∀ (i : Nat) (o : Oper), ops[i]? = some o → listed.getD i false = true → Came listed o)
    (hw : ∀ i, i + 1 < ops.size → ∃ (j : Nat) (o : Oper), i < j ∧ ops[j]? = some o ∧ ∃ e ∈ o.after, Region.binds .any e = true ∧ e.on = i)
    {l : Oper} (hl : ops[ops.size - 1]? = some l) (hc : Came listed l) : ∀ (n i : Nat), ops.size ≤ i + 1 + n → i + 1 < ops.size → listed.getD i false = true
  | 0, i, h, hi => by omega
  | n + 1, i, h, hi => by
    obtain ⟨j, o, hij, ho, e, he, hb, rfl⟩ := hw i hi
    have hj : j < ops.size := (Array.getElem?_eq_some_iff.1 ho).1
    by_cases hlast : j = ops.size - 1
    · subst hlast
      rw [ho] at hl; cases hl
      exact hc e he hb
    · exact hs j o ho (rest_came hs hw hl hc n j (by omega) (by omega)) e he hb

theorem region_facts {id : Nat} {a0 : Act} {w0 : World} (hm : P.follows .mixedOrders = true) (F : Nat → Value → World → Prop) (G : World → World → Prop)
    (hF : ∀ i v w w', F i v w → G w w' → F i v w') (hG : ∀ w w' w'', G w w' → G w' w'' → G w w'') (h0 : G w0 { w0 with drawn := w0.drawn + 1 })
    (hb : ∀ (i : Nat) (o : Oper), ops[i]? = some o → ∀ e ∈ o.after, e.on < i)
    (hd : ∀ (i j : Nat) (o o' : Oper) (d : Tmp), ops[i]? = some o → ops[j]? = some o' → o.dst = some d → o'.dst = some d → i = j)
    (hin : ∀ (i : Nat) (o : Oper) (d : Tmp), ops[i]? = some o → o.dst = some d → d < a0.tmps.size)
    (hw : ∀ i, i + 1 < ops.size → ∃ (j : Nat) (o : Oper), i < j ∧ ops[j]? = some o ∧ ∃ e ∈ o.after, Region.binds .any e = true ∧ e.on = i)
    {l : Oper} (hl : ops[ops.size - 1]? = some l)
    (hstep : ∀ listed a w, Kept ops F G a0 w0 listed a w → ∀ (i : Nat) (o : Oper), ops[i]? = some o → i + 1 < ops.size → Came listed o →
      wpOp P ops Q i (fun a' w' => ∃ d v, o.dst = some d ∧ a' = a.put (some d) v ∧ G w w' ∧ F i v w') a w)
    (hlast : ∀ listed a w, Kept ops F G a0 w0 listed a w → (∀ i, i + 1 < ops.size → listed.getD i false = true) → wpOp P ops Q (ops.size - 1) (fun a' w' => Q .normal a' w') a w) :
    (Code.region id ops true).wp P Q a0 w0 := by
  have hne : 0 < ops.size := by
    have := (Array.getElem?_eq_some_iff.1 hl).1
    omega
  refine region_inv hm (fun listed a w => (Kept ops F G a0 w0 listed a w ∧ listed.getD (ops.size - 1) false = false) ∨ (listed.size = ops.size ∧ (∀ i, i < ops.size → listed.getD i false = true) ∧ Q .normal a w)) ?_ hb ?_ ?_ ?_
  · have hno : ∀ i, (Array.replicate ops.size false).getD i false = false := fun i => by
      rcases Nat.lt_or_ge i ops.size with h | h <;> simp [h]
    exact .inl ⟨⟨by simp, fun i o _ h => (by rw [hno] at h; cases h), rfl, rfl, h0, fun _ _ => rfl, fun i o d _ _ h => (by rw [hno] at h; cases h)⟩, hno _⟩
  · rintro listed a w (⟨h, _⟩ | ⟨h, _⟩)
    · exact h.size
    · exact h
  · rintro listed a w (⟨hk, hn⟩ | ⟨hs, ha, _⟩) i o ho hi hc
    · have hio : i < ops.size := (Array.getElem?_eq_some_iff.1 ho).1
      by_cases hlst : i = ops.size - 1
      · subst hlst
        rw [ho] at hl; cases hl
        have hall := fun j => rest_came hk.shut hw ho hc ops.size j (by omega)
        refine wpOp_mono (fun a' w' hq => .inr ⟨by simp [hk.size], fun j hj => ?_, hq⟩) (hlast listed a w hk hall)
        by_cases hjl : j = ops.size - 1
        · subst hjl; exact getD_set_self (by rw [hk.size]; exact hio)
        · exact getD_set_true (hall j (by omega))
      · refine wpOp_mono (fun a' w' hq => ?_) (hstep listed a w hk i o ho (by omega) hc)
        obtain ⟨d, v, hod, rfl, hg, hv⟩ := hq
        exact .inl ⟨hk.more hF hG hd hin ho hod hc hg hv, by rw [getD_set_ne false hlst]; exact hn⟩
    · exfalso
      have hio : i < ops.size := (Array.getElem?_eq_some_iff.1 ho).1
      have := ha i hio
      have hi' : i < listed.size := by omega
      simp [hi'] at this hi
      rw [this] at hi; cases hi
  · rintro listed a w (⟨hk, hn⟩ | ⟨_, _, hq⟩) ha
    · rw [ha _ (by omega)] at hn; cases hn
    · exact hq

def regOk (ops : Array Oper) (n : Nat) : Bool := (List.range ops.size).all fun i => match ops[i]? with
  | none => true
  | some o => (o.after.all fun e => decide (e.on < i)) && (match o.dst with
      | none => true
      | some d => decide (d < n) && (List.range ops.size).all fun j => match ops[j]? with
        | none => true
        | some o' => decide (o'.dst ≠ some d) || decide (i = j)) &&
    (decide (ops.size ≤ i + 1) || (List.range ops.size).any fun j => match ops[j]? with
        | none => false
        | some o' => decide (i < j) && o'.after.any fun e => Region.binds .any e && decide (e.on = i))

theorem regOk_at {n : Nat} (h : regOk ops n = true) {i : Nat} {o : Oper} (ho : ops[i]? = some o) :
    (∀ e ∈ o.after, e.on < i) ∧ (∀ d, o.dst = some d → d < n ∧ ∀ (j : Nat) (o' : Oper), ops[j]? = some o' → o'.dst = some d → i = j) ∧
      (i + 1 < ops.size → ∃ (j : Nat) (o' : Oper), i < j ∧ ops[j]? = some o' ∧ ∃ e ∈ o'.after, Region.binds .any e = true ∧ e.on = i) := by
  have hi : i < ops.size := (Array.getElem?_eq_some_iff.1 ho).1
  have h1 := List.all_eq_true.1 h i (List.mem_range.2 hi)
  rw [ho] at h1
  simp only [Bool.and_eq_true, Bool.or_eq_true, decide_eq_true_eq] at h1
  obtain ⟨⟨ha, hb⟩, hc⟩ := h1
  refine ⟨fun e he => ?_, fun d hd => ?_, fun hlt => ?_⟩
  · have := Array.all_eq_true_iff_forall_mem.1 ha e he
    simpa using this
  · rw [hd] at hb
    simp only [Bool.and_eq_true, decide_eq_true_eq] at hb
    refine ⟨hb.1, fun j o' ho' hd' => ?_⟩
    have h2 := List.all_eq_true.1 hb.2 j (List.mem_range.2 (Array.getElem?_eq_some_iff.1 ho').1)
    rw [ho'] at h2
    simp only [Bool.or_eq_true, decide_eq_true_eq] at h2
    rcases h2 with h2 | h2
    · exact absurd hd' h2
    · exact h2
  · rcases hc with hc | hc
    · omega
    · obtain ⟨j, _, hj⟩ := List.any_eq_true.1 hc
      cases ho' : ops[j]? with
      | none => rw [ho'] at hj; cases hj
      | some o' =>
        rw [ho'] at hj
        simp only [Bool.and_eq_true, decide_eq_true_eq] at hj
        obtain ⟨e, he, hbe⟩ := Array.any_eq_true'.1 hj.2
        simp only [Bool.and_eq_true, decide_eq_true_eq] at hbe
        exact ⟨j, o', hj.1, ho', e, he, hbe.1, hbe.2⟩

theorem region_factsB {id : Nat} {a0 : Act} {w0 : World} (hm : P.follows .mixedOrders = true) (F : Nat → Value → World → Prop) (G : World → World → Prop)
    (hF : ∀ i v w w', F i v w → G w w' → F i v w') (hG : ∀ w w' w'', G w w' → G w' w'' → G w w'') (h0 : G w0 { w0 with drawn := w0.drawn + 1 })
    (hok : regOk ops a0.tmps.size = true) {l : Oper} (hl : ops[ops.size - 1]? = some l)
    (hstep : ∀ listed a w, Kept ops F G a0 w0 listed a w → ∀ (i : Nat) (o : Oper), ops[i]? = some o → i + 1 < ops.size → Came listed o →
      wpOp P ops Q i (fun a' w' => ∃ d v, o.dst = some d ∧ a' = a.put (some d) v ∧ G w w' ∧ F i v w') a w)
    (hlast : ∀ listed a w, Kept ops F G a0 w0 listed a w → (∀ i, i + 1 < ops.size → listed.getD i false = true) → wpOp P ops Q (ops.size - 1) (fun a' w' => Q .normal a' w') a w) :
    (Code.region id ops true).wp P Q a0 w0 :=
  region_facts hm F G hF hG h0 (fun i o ho => (regOk_at hok ho).1) (fun i j o o' d ho ho' hd hd' => ((regOk_at hok ho).2.1 d hd).2 j o' ho' hd') (fun i o d ho hd => ((regOk_at hok ho).2.1 d hd).1)
    (fun i hi => (regOk_at hok (Array.getElem?_eq_getElem (show i < ops.size by omega))).2.2 hi) hl hstep hlast

theorem wpOp_val {i : Nat} {o : Oper} {a : Act} {w w' : World} {v : Value} {K : Act → World → Prop} (ho : ops[i]? = some o) (hg : o.guard = none) (hr : (execOp a.eval o).run P w = .ok (.value v) w') (hk : K (a.put o.dst v) w') : wpOp P ops Q i K a w := by
  unfold wpOp
  rw [ho]
  show if Region.wanted o (yielded ops a.tmps) = true then _ else _
  rw [if_pos (by unfold Region.wanted; rw [hg])]
  refine .inl ?_
  unfold Oper.wp
  rw [hr]
  exact hk

def noDst (ops : Array Oper) (t : Nat) : Bool := (List.range ops.size).all fun i => match ops[i]? with
  | none => true
  | some o => decide (o.dst ≠ some t)

theorem Kept.read {F : Nat → Value → World → Prop} {G : World → World → Prop} {a0 a : Act} {w0 w : World} {listed : Array Bool} (hk : Kept ops F G a0 w0 listed a w) {t : Nat} {v : Value} (hn : noDst ops t = true) (h : a0.tmps[t]? = some v) : a.tmps[t]?.getD undef = v := by
  have h1 := hk.other t fun i o ho => by
    have h2 := List.all_eq_true.1 hn i (List.mem_range.2 (Array.getElem?_eq_some_iff.1 ho).1)
    rw [ho] at h2
    simpa using h2
  rw [h1, h]
  rfl

theorem Kept.got {F : Nat → Value → World → Prop} {G : World → World → Prop} {a0 a : Act} {w0 w : World} {listed : Array Bool} (hk : Kept ops F G a0 w0 listed a w) {j : Nat} {o : Oper} {d : Tmp} (ho : ops[j]? = some o) (hd : o.dst = some d) (hl : listed.getD j false = true) :
    ∃ v, a.tmps[d]?.getD undef = v ∧ F j v w := by
  obtain ⟨v, h, hf⟩ := hk.fact j o d ho hd hl
  refine ⟨v, ?_, hf⟩
  rw [h]
  rfl
end
end Go.Proofs.YtjenbkdfbendlaaGreatDoor


namespace Go.Proofs.YtjenbkdfbendlaaGreatDoor
open Go.RowKit
set_option linter.unusedVariables false

section
variable {P : Program} {ops : Array Oper} {Q : Exit → Act → World → Prop}

theorem Kept.more2 {F F' : Nat → Value → World → Prop} {G : World → World → Prop} {a0 a : Act} {w0 w w' : World} {listed : Array Bool} (hk : Kept ops F G a0 w0 listed a w) {i : Nat} {o : Oper} {d : Tmp} {v : Value}
    (hF : ∀ j u, j ≠ i → F j u w → F' j u w') (hgr : G w0 w')
    (hd : ∀ (i j : Nat) (o o' : Oper) (d : Tmp), ops[i]? = some o → ops[j]? = some o' → o.dst = some d → o'.dst = some d → i = j)
    (hin : ∀ (i : Nat) (o : Oper) (d : Tmp), ops[i]? = some o → o.dst = some d → d < a0.tmps.size)
    (ho : ops[i]? = some o) (hod : o.dst = some d) (hc : Came listed o) (hv : F' i v w') : Kept ops F' G a0 w0 (listed.setIfInBounds i true) (a.put (some d) v) w' := by
  have hi : i < listed.size := by rw [hk.size]; exact (Array.getElem?_eq_some_iff.1 ho).1
  refine ⟨by simp [hk.size], fun j o' ho' hl => ?_, hk.defers, by simp [Act.put, hk.slots], hgr, fun t ht => ?_, fun j o' d' ho' hd' hl => ?_⟩
  · by_cases hij : i = j
    · subst hij
      rw [ho] at ho'; cases ho'
      exact came_more hc
    · rw [getD_set_ne false hij] at hl
      exact came_more (hk.shut j o' ho' hl)
  · have : d ≠ t := fun h => ht i o ho (by rw [hod, h])
    simp only [Act.put]
    rw [Array.getElem?_setIfInBounds_ne this]
    exact hk.other t ht
  · by_cases hij : i = j
    · subst hij
      rw [ho] at ho'; cases ho'
      rw [hod] at hd'; cases hd'
      refine ⟨v, ?_, hv⟩
      have : d < a.tmps.size := by rw [hk.slots]; exact hin i o d ho hod
      simp [Act.put, this]
    · rw [getD_set_ne false hij] at hl
      obtain ⟨u, hu, hf⟩ := hk.fact j o' d' ho' hd' hl
      have : d ≠ d' := fun h => hij (hd i j o o' d ho ho' hod (by rw [hd', h]))
      refine ⟨u, ?_, hF _ _ (fun h => hij h.symm) hf⟩
      simp only [Act.put]
      rw [Array.getElem?_setIfInBounds_ne this]
      exact hu

def depOn (ops : Array Oper) (l2 l1 : Nat) : Bool := match ops[l2]? with
  | none => false
  | some o => o.after.any fun e => Region.binds .any e && decide (e.on = l1)

def laidT (a : Array Value) : List Oper → Array Value → Array Value
  | [], r => r
  | o :: l, r => laidT a l (match o.dst with | none => r | some d => r.setIfInBounds d (a[d]?.getD undef))
theorem laidT_at (a : Array Value) (t : Nat) : ∀ (l : List Oper) (r : Array Value), r[t]? = a[t]? ∨ (∃ o ∈ l, o.dst = some t) → a.size = r.size → (laidT a l r)[t]? = a[t]?
  | [], r, h, _ => by
    rcases h with h | ⟨o, ho, _⟩
    · exact h
    · simp at ho
  | o :: l, r, h, hs => by
    rw [laidT]
    cases e : o.dst with
    | none =>
      refine laidT_at a t l r ?_ hs
      rcases h with h | ⟨o', ho', he⟩
      · exact .inl h
      · rcases List.mem_cons.1 ho' with rfl | ho'
        · rw [e] at he; cases he
        · exact .inr ⟨o', ho', he⟩
    | some d =>
      simp only
      refine laidT_at a t l _ ?_ (by simpa using hs)
      by_cases hdt : d = t
      · subst hdt
        left
        rcases Nat.lt_or_ge d a.size with hlt | hge
        · rw [Array.getElem?_setIfInBounds_self_of_lt (by omega), Array.getElem?_eq_getElem hlt]
          rfl
        · rw [Array.getElem?_eq_none hge, Array.getElem?_eq_none (by simp; omega)]
      · rcases h with h | ⟨o', ho', he⟩
        · left
          rw [Array.getElem?_setIfInBounds_ne hdt]
          exact h
        · rcases List.mem_cons.1 ho' with rfl | ho'
          · rw [e] at he; cases he; exact absurd rfl hdt
          · exact .inr ⟨o', ho', he⟩
theorem Kept.frame {F : Nat → Value → World → Prop} {G : World → World → Prop} {a0 a : Act} {w0 w : World} {listed : Array Bool} (hk : Kept ops F G a0 w0 listed a w) : a = { a0 with tmps := laidT a.tmps ops.toList a0.tmps } := by
  have h1 : a.tmps = laidT a.tmps ops.toList a0.tmps := by
    refine Array.ext_getElem? fun t => ?_
    symm
    refine laidT_at a.tmps t _ _ ?_ hk.slots
    by_cases h : ∃ o ∈ ops.toList, o.dst = some t
    · exact .inr h
    · left
      refine (hk.other t fun i o ho hd => h ⟨o, ?_, hd⟩).symm
      exact List.mem_of_getElem? (i := i) (by simpa using ho)
  cases a
  cases a0
  have h2 := hk.defers
  simp only at h1 h2
  simp only [← h1, h2]
def putT (t : Array Value) : List Oper → Act → Act
  | [], r => r
  | o :: l, r => putT t l (r.put o.dst (match o.dst with | none => undef | some d => t[d]?.getD undef))
theorem putT_eq (t : Array Value) : ∀ (l : List Oper) (r : Act), putT t l r = { r with tmps := laidT t l r.tmps }
  | [], r => rfl
  | o :: l, r => by
    rw [putT, putT_eq t l, laidT]
    cases o.dst <;> rfl
theorem Kept.puts {F : Nat → Value → World → Prop} {G : World → World → Prop} {a0 a : Act} {w0 w : World} {listed : Array Bool} (hk : Kept ops F G a0 w0 listed a w) : a = putT a.tmps ops.toList a0 := by
  rw [putT_eq]
  exact hk.frame
end
end Go.Proofs.YtjenbkdfbendlaaGreatDoor


namespace Go.Proofs.YtjenbkdfbendlaaGreatDoor
open Go.RowKit
set_option linter.unusedVariables false

def StrB (w : World) (b : Nat) : Prop := ∃ cs fr, w.heap[b]? = some (.cells cs 9 fr)
def SaysM (w : World) (P : List PT) (L : List AT) : Prop := P.length = L.length ∧ ∀ j (h : j < L.length) (h' : j < P.length), P[j].1 = L[j].1 ∧ IsTo (StrB w) w L[j].2 P[j].2
def OwnM (B : Nat) (w : World) (v : Value) (L : List AT) : Prop := ∃ P, RowP B w v P ∧ SaysM w P L

theorem strB_at {w : World} {b : Nat} {cs : Array Value} (h : w.heap[b]? = some (.cells cs 9 (0, 0))) : StrB w b := ⟨cs, _, h⟩
theorem StrB.lt {w : World} {b : Nat} (h : StrB w b) : b < w.heap.size := by
  obtain ⟨_, _, h⟩ := h
  exact (Array.getElem?_eq_some_iff.1 h).1
theorem saysM_to {w w' : World} {P : List PT} {L : List AT} (h : SaysM w P L) (hk : ∀ b, StrB w b → w'.heap[b]? = w.heap[b]?) : SaysM w' P L :=
  ⟨h.1, fun j h1 h2 => ⟨(h.2 j h1 h2).1, (h.2 j h1 h2).2.imp (fun b hb => by obtain ⟨cs, fr, e⟩ := hb; exact ⟨cs, fr, (hk b ⟨cs, fr, e⟩).trans e⟩) (fun b o hb => by simp only [World.cell?, hk b hb])⟩⟩
theorem saysM_below {w w' : World} {P : List PT} {L : List AT} (h : SaysM w P L) (hb : Below w.heap.size w w') : SaysM w' P L := saysM_to h fun b hs => hb.block b hs.lt
theorem ownM_below {B : Nat} {w w' : World} {v : Value} {L : List AT} (h : OwnM B w v L) (hb : Below w.heap.size w w') : OwnM B w' v L := by
  obtain ⟨P, h1, h2⟩ := h
  exact ⟨P, rowP_below h1 hb, saysM_below h2 hb⟩
theorem ownM_empty {B b : Nat} {w : World} (hb : w.heap[b]? = some (.cells #[] 40 (0, 0))) (hB : B ≤ b) : OwnM B w (.slice (some ⟨b, 0, none⟩) 0 0) [] :=
  ⟨[], ⟨rfl, .inr ⟨b, 0, #[], rfl, hB, hb, Nat.le_refl _, Nat.zero_le _, rfl, rfl⟩⟩, rfl, fun j h => absurd h (by simp)⟩
theorem row_keep {B : Nat} {w w' : World} {v : Value} {P : List PT} (hr : RowP B w v P) (hg : w.grownBy w' v.ownBlock) {b : Nat} {cs : Array Value} {e : TypeId} {fr : Nat × Nat} (hb : w.heap[b]? = some (.cells cs e fr)) (hne : e ≠ 40) : w'.heap[b]? = w.heap[b]? := by
  refine hg.block b (Array.getElem?_eq_some_iff.1 hb).1 fun he => hne ?_
  rcases hr.2 with ⟨rfl, _⟩ | ⟨g, cap, cur, rfl, _, hc, _⟩
  · cases he
  · have : b = g := by simpa [Value.ownBlock] using he
    subst this
    rw [hb] at hc
    cases hc
    rfl
theorem saysM_grown {B : Nat} {w w' : World} {v : Value} {P P' : List PT} {L : List AT} (hr : RowP B w v P') (hg : w.grownBy w' v.ownBlock) (h : SaysM w P L) : SaysM w' P L :=
  saysM_to h fun b hs => by obtain ⟨cs, fr, e⟩ := hs; exact row_keep hr hg e (by decide)
theorem saysM_app {w : World} {P PM : List PT} {L M : List AT} (h : SaysM w P L) (hm : SaysM w PM M) : SaysM w (P ++ PM) (L ++ M) := by
  refine ⟨by simp [h.1, hm.1], fun j h1 h2 => ?_⟩
  by_cases hj : j < L.length
  · have hj' : j < P.length := by rw [h.1]; exact hj
    rw [List.getElem_append_left hj', List.getElem_append_left hj]
    exact h.2 j hj hj'
  · have e := h.1
    have hm1 : j - L.length < M.length := by simp at h1; omega
    have hm2 : j - L.length < PM.length := by rw [hm.1]; exact hm1
    have g1 : (P ++ PM)[j] = PM[j - L.length] := by
      rw [List.getElem_append_right (by omega)]
      simp only [e]
    have g2 : (L ++ M)[j] = M[j - L.length] := List.getElem_append_right (by omega)
    rw [g1, g2]
    exact hm.2 _ hm1 hm2
theorem one_isTo {ok : Nat → Prop} {w : World} {L : List (List UInt8)} {v : Value} (h : IsTo ok w L v) : v.oneCell' = true := by
  obtain ⟨_, _, rfl, _⟩ := h
  rfl

theorem run_append_M {B : Nat} {w : World} {v : Value} {L : List AT} (hown : OwnM B w v L) (hB : B ≤ w.heap.size) {PM : List PT} {M : List AT} (hs : SaysM w PM M) (ad : Addr) (c : Nat)
    (hc : ∀ j u, (cellsP PM)[j]? = some u → w.cell? (ad.add j) = some u) (hlen : L.length + M.length ≤ 1000) (ty : TypeId) :
    ∃ v' w', (Builtin.append_ #[22, 22] ty #[v, .slice (some ad) M.length c]).run Tryz.prog w = .ok v' w' ∧ OwnM B w' v' (L ++ M) ∧ Below B w w' ∧ ∃ P, RowP B w v P ∧ w.grownBy w' v.ownBlock := by
  obtain ⟨i0, hi, hz0, hz1, hz2⟩ := info_parts infoA
  obtain ⟨P, hr, hsay⟩ := hown
  have e1 := hsay.1
  have e2 := hs.1
  have h1 : ∀ u ∈ cellsP PM, u.oneCell' = true := by
    intro u hu
    have : ∀ (l : List PT), (∀ j (h : j < l.length), l[j].2.oneCell' = true) → ∀ u ∈ cellsP l, u.oneCell' = true := by
      intro l
      induction l with
      | nil => intro _ u hu; simp [cellsP] at hu
      | cons r l ih =>
        intro h u hu
        simp only [cellsP, List.mem_cons] at hu
        rcases hu with rfl | rfl | hu
        · rfl
        · exact h 0 (by simp)
        · exact ih (fun j hj => h (j + 1) (by simpa using hj)) u hu
    exact this PM (fun j hj => one_isTo (hs.2 j (by omega) hj).2) u hu
  obtain ⟨v', w', hrun, hown', hgrow, _, hat⟩ := run_append_own_at (P := Tryz.prog) w B 22 ty 40 i0 (.agg #[.string ⟨#[]⟩, .slice none 0 0]) 2 40 Tryz.underlying22 hi hz0 hz1 hz2 rfl (by decide) v P.length (cellsP P) hr ad PM.length c (cellsP PM) (cellsP_length PM) hc h1 (by unfold maxLen; omega) (by omega) hB
  rw [e2] at hrun
  refine ⟨v', w', hrun, ⟨P ++ PM, ?_, saysM_app (saysM_grown hr hgrow hsay) (saysM_grown hr hgrow hs)⟩, (Below.refl B w).grown hgrow hB (fun k e => (World.ownsRow.lt hr k e).1), P, hr, hgrow⟩
  unfold RowP
  rw [List.length_append, cellsP_append]
  exact hown'

theorem exec_append {P : Program} {o : Oper} {a : Act} {w w' : World} {s x : Operand} {t : TypeId} {v u v' : Value} (ho : o.op = .call { callee := .builtin .append, args := #[s, x], argTypes := #[t, t] }) (hs : a.eval s = v) (hx : a.eval x = u)
    (hr : (Builtin.append_ #[t, t] o.type #[v, u]).run P w = .ok v' w') : (execOp a.eval o).run P w = .ok (.value v') w' := by
  unfold execOp
  simp only [ho, resolve, invoke, builtin, Sem.run_bind, Sem.run_pure, Result.andThen_ok, List.map_toArray, List.map_cons, List.map_nil, hs, hx, hr]

theorem wpOp_skip {P : Program} {ops : Array Oper} {Q : Exit → Act → World → Prop} {i : Nat} {o : Oper} {a : Act} {w w' : World} {K : Act → World → Prop} (ho : ops[i]? = some o) (hg : o.guard = none) (hr : (execOp a.eval o).run P w = .ok .skip w') (hk : K (a.put o.dst undef) w') : wpOp P ops Q i K a w := by
  unfold wpOp
  rw [ho]
  show if Region.wanted o (yielded ops a.tmps) = true then _ else _
  rw [if_pos (by unfold Region.wanted; rw [hg])]
  refine .inl ?_
  unfold Oper.wp
  rw [hr]
  exact hk

theorem row_part {w : World} {b : Nat} {P : List PT} (h : ∀ j u, (cellsP P)[j]? = some u → w.cell? ⟨b, j, none⟩ = some u) (A B C : List PT) (e : P = A ++ B ++ C) : ∀ j u, (cellsP B)[j]? = some u → w.cell? ((⟨b, A.length * 2, none⟩ : Addr).add j) = some u := by
  intro j u hu
  have hadd : (⟨b, A.length * 2, none⟩ : Addr).add j = ⟨b, A.length * 2 + j, none⟩ := by simp [Addr.add]
  rw [hadd]
  refine h _ _ ?_
  rw [e, cellsP_append, cellsP_append, List.append_assoc, List.getElem?_append_right (by rw [cellsP_length]; omega), cellsP_length, show A.length * 2 + j - A.length * 2 = j from by omega]
  have hlt : j < (cellsP B).length := by
    rcases Nat.lt_or_ge j (cellsP B).length with h | h
    · exact h
    · rw [List.getElem?_eq_none h] at hu; cases hu
  rw [List.getElem?_append_left hlt, hu]
theorem saysM_part {w : World} {A B C : List PT} {L M N : List AT} (h : SaysM w (A ++ B ++ C) (L ++ M ++ N)) (h1 : A.length = L.length) (h2 : B.length = M.length) : SaysM w B M := by
  refine ⟨h2, fun j hj hj' => ?_⟩
  have := h.2 (L.length + j) (by simp; omega) (by simp; omega)
  have g1 : (A ++ B ++ C)[L.length + j]'(by simp; omega) = B[j] := by
    rw [List.getElem_append_left (by simp; omega), List.getElem_append_right (by omega)]
    congr 1
    omega
  have g2 : (L ++ M ++ N)[L.length + j]'(by simp; omega) = M[j] := by
    rw [List.getElem_append_left (by simp; omega), List.getElem_append_right (by omega)]
    congr 1
    omega
  rw [g1, g2] at this
  exact this

theorem saysM_one {w : World} {b : Nat} {X Y : ByteArray} (h : w.heap[b]? = some (.cells #[.string Y] 9 (0, 0))) : SaysM w [(X.data.toList, .slice (some ⟨b, 0, none⟩) 1 1)] [(X.data.toList, [Y.data.toList])] :=
  ⟨rfl, fun j hj hj' => by
    have : j = 0 := by simp at hj; omega
    subst this
    refine ⟨rfl, _, _, rfl, by unfold maxLen; simp, fun k hk => ?_⟩
    have : k = 0 := by simp at hk; omega
    subst this
    refine ⟨b, 0, rfl, strB_at h, ?_⟩
    rw [show ([(X.data.toList, [Y.data.toList])] : List AT)[0].2[0] = Y.data.toList from rfl, strV_whole]
    simp only [World.cell?, h]
    rfl⟩
theorem cells_one {w : World} {c : Nat} {X : ByteArray} {u : Value} (h : w.heap[c]? = some (.cells #[.string X, u] 40 (0, 0))) : ∀ j x, (cellsP [(X.data.toList, u)])[j]? = some x → w.cell? ((⟨c, 0, none⟩ : Addr).add j) = some x := by
  intro j x hx
  have hadd : (⟨c, 0, none⟩ : Addr).add j = ⟨c, j, none⟩ := by simp [Addr.add]; omega
  rw [hadd]
  simp only [World.cell?, h]
  have e : cellsP [(X.data.toList, u)] = [.string X, u] := by
    show [strV X.data.toList, u] = _
    rw [strV_whole]
  rw [e] at hx
  simpa using hx
def perRow (g : Nat) : List PT := [([99, 110], .slice (some ⟨g - 3, 0, none⟩) 1 1), ([111, 98, 106, 101, 99, 116, 99, 108, 97, 115, 115], .slice (some ⟨g - 2, 0, none⟩) 1 1), ([115, 110], .slice (some ⟨g - 1, 0, none⟩) 1 1)]
theorem isTo_one {w : World} {b : Nat} {X : ByteArray} (h : w.heap[b]? = some (.cells #[.string X] 9 (0, 0))) : IsTo (StrB w) w [X.data.toList] (.slice (some ⟨b, 0, none⟩) 1 1) :=
  (saysM_one (X := X) h).2 0 (by simp) (by simp) |>.2
theorem per_says {w : World} {g : Nat} {N : ByteArray} (h : PerAt w g N) : SaysM w (perRow g) (perL N.data.toList) :=
  ⟨rfl, fun j hj hj' => by
    match j, hj with
    | 0, _ => exact ⟨rfl, isTo_one h.b1⟩
    | 1, _ => exact ⟨rfl, isTo_one h.b2⟩
    | 2, _ => exact ⟨rfl, isTo_one h.b3⟩⟩
theorem list_cells {w : World} {b : Nat} {P : List PT} (h : w.heap[b]? = some (.cells (cellsP P).toArray 40 (0, 0))) : ∀ j u, (cellsP P)[j]? = some u → w.cell? ⟨b, j, none⟩ = some u := by
  intro j u hu
  simp only [World.cell?, h]
  simpa using hu
theorem ownM_isA {B : Nat} {w : World} {v : Value} {L : List AT} (h : OwnM B w v L) (hl : L.length ≤ maxLen) : IsA w.heap.size w L v := by
  obtain ⟨P, h1, h2⟩ := h
  by_cases hne : P = []
  · subst hne
    obtain ⟨a, c, hv⟩ := rowP_slice h1
    have : L = [] := List.eq_nil_of_length_eq_zero (by have := h2.1; simpa using this.symm)
    subst this
    exact ⟨a, c, hv, hl, fun j hj => absurd hj (by simp)⟩
  · obtain ⟨g, c, hv, _, hg, hc⟩ := rowP_at h1 hne
    refine ⟨_, c, by rw [hv, h2.1], hl, fun j hj => ?_⟩
    have hj' : j < P.length := by rw [h2.1]; exact hj
    obtain ⟨e1, e2⟩ := h2.2 j hj hj'
    refine ⟨g, 0, P[j].2, rfl, hg, ?_, ?_, e2.to (fun b hb => hb.lt)⟩
    · rw [Nat.zero_add, ← e1]; exact (hc j hj').1
    · rw [Nat.zero_add]; exact (hc j hj').2

structure MAt (n1 : Nat) (W0 : World) (D : ByteArray) (L : List AT) (wx : World) (b : Nat) (u : Value) : Prop where
  lo : n1 ≤ b
  box : BoxN wx b D u
  own : OwnM n1 wx u L
  below : Below n1 W0 wx
theorem mAt_store {n1 b : Nat} {W0 W : World} {D : ByteArray} {L : List AT} {s : Value} (hb : Below n1 W0 W) (hc : W.heap[b]? = some (.cells #[.string ⟨#[]⟩, .slice none 0 0] 24 (0, 0))) (hn : n1 ≤ b) (hown : OwnM n1 W s L) :
    MAt n1 W0 D L ((W.setCell ⟨b, 0, none⟩ (.string D)).setCell ⟨b, 1, none⟩ s) b s := by
  have hbl := (Array.getElem?_eq_some_iff.1 hc).1
  have hother : ∀ k, k ≠ b → ((W.setCell ⟨b, 0, none⟩ (.string D)).setCell ⟨b, 1, none⟩ s).heap[k]? = W.heap[k]? := fun k hk => by
    rw [block_ne _ ⟨b, 1, none⟩ _ hk, block_ne _ ⟨b, 0, none⟩ _ hk]
  obtain ⟨P, hr, hs⟩ := hown
  refine ⟨hn, ?_, ⟨P, ?_, ?_⟩, ?_⟩
  · unfold BoxN
    simp [World.setCell, Array.getElem?_modify, hc]
  · have hg : W.grownBy ((W.setCell ⟨b, 0, none⟩ (.string D)).setCell ⟨b, 1, none⟩ s) (some b) := ⟨rfl, rfl, rfl, by simp [World.setCell], fun k hk hne => hother k (fun e => hne (by rw [e]))⟩
    refine World.ownsRow.kept hr hg ?_
    right
    intro he
    rcases hr.2 with ⟨rfl, _⟩ | ⟨g, cap, cur, rfl, _, hgc, _⟩
    · cases he
    · have : g = b := by simpa [Value.ownBlock] using he
      subst this
      rw [hgc] at hc
      cases hc
  · refine saysM_to hs fun k hk => hother k fun e => ?_
    obtain ⟨cs, fr, hk⟩ := hk
    rw [e, hc] at hk
    cases hk
  · exact (hb.setCell hn _).setCell hn _

theorem entry_new {W : World} {b : Nat} (h : W.heap[b]? = some (.cells #[.string ⟨#[]⟩, .slice none 0 0] 24 (0, 0))) (x : Value) : W.cell? ⟨b, 0, none⟩ = some (.string ⟨#[]⟩) ∧ W.frozen? ⟨b, 0, none⟩ = false ∧ (W.setCell ⟨b, 0, none⟩ x).cell? ⟨b, 1, none⟩ = some (.slice none 0 0) ∧ (W.setCell ⟨b, 0, none⟩ x).frozen? ⟨b, 1, none⟩ = false := by
  refine ⟨?_, ?_, ?_, ?_⟩ <;> simp [World.cell?, World.frozen?, World.setCell, Array.getElem?_modify, h]

theorem boxN_set {W : World} {g i b : Nat} {x u : Value} {D : ByteArray} {cs : Array Value} {fr : Nat × Nat} (h : BoxN W b D u) (hg : W.heap[g]? = some (.cells cs 40 fr)) : BoxN (W.setCell ⟨g, i, none⟩ x) b D u := by
  refine (block_ne W ⟨g, i, none⟩ x fun e => ?_).trans h
  unfold BoxN at h
  rw [show b = g from e, hg] at h
  cases h
def NC6 : Array Value := #[.string ⟨#[109, 97, 105, 108]⟩, .string ⟨#[117, 105, 100]⟩, .string ⟨#[111, 117]⟩, .string ⟨#[109, 101, 109, 98, 101, 114]⟩, .string ⟨#[117, 105, 100, 110, 117, 109, 98, 101, 114]⟩, .string ⟨#[111]⟩]
def NC2 : Array Value := #[.string ⟨#[100, 101, 115, 99, 114, 105, 112, 116, 105, 111, 110]⟩, .string ⟨#[117, 115, 101, 114, 112, 97, 115, 115, 119, 111, 114, 100]⟩]
def nmB (l : Array Value) (q : Nat) : ByteArray := match l.getD q undef with
  | .string x => x
  | _ => ⟨#[]⟩
def FLess (n1 h0 b6 k : Nat) (D : ByteArray) (L1 L2 : List AT) (p q : Bool) (i : Nat) (v : Value) (w : World) : Prop := match i with
  | 0 => v = .pointer (some ⟨h0, 0, none⟩)
  | 1 => v = .string D
  | 2 => p = true ∨ ∃ b, v = .slice (some ⟨b, 0, none⟩) 0 0 ∧ n1 ≤ b ∧ w.heap[b]? = some (.cells #[] 40 (0, 0))
  | 3 => v = .slice (some ⟨b6, 0, none⟩) 3 3
  | 4 => v = .int .i64 (k : Int)
  | 5 => v = .slice (some ⟨b6, 0, none⟩) k 3
  | 6 => q = true ∨ OwnM n1 w v L1
  | 7 => v = .slice (some ⟨b6, 0, none⟩) 3 3
  | 8 => v = .int .i64 (k : Int)
  | 9 => v = .int .i64 ((k : Int) + 1)
  | 10 => v = .slice (some (if k = 2 then ⟨b6, 0, none⟩ else ⟨b6, (k + 1) * 2, none⟩)) (2 - k) (2 - k)
  | 11 => q = true ∧ OwnM n1 w v L2
  | 12 => q = true ∧ ∃ s, v = .agg #[.string D, s] ∧ OwnM n1 w s L2
  | 13 => ∃ b, v = .pointer (some ⟨b, 0, none⟩) ∧ n1 ≤ b ∧ w.heap[b]? = some (.cells #[.string ⟨#[]⟩, .slice none 0 0] 24 (0, 0))
  | _ => True
theorem FLess.go {n1 h0 b6 k : Nat} {D : ByteArray} {L1 L2 : List AT} {p q : Bool} {i : Nat} {v : Value} {w w' : World} (h : FLess n1 h0 b6 k D L1 L2 p q i v w) (hb : Below w.heap.size w w') : FLess n1 h0 b6 k D L1 L2 p q i v w' := by
  have hk : ∀ {b : Nat} {o : Obj}, w.heap[b]? = some o → w'.heap[b]? = some o := fun e => (hb.block _ (Array.getElem?_eq_some_iff.1 e).1).trans e
  match i, h with
  | 0, h => exact h
  | 1, h => exact h
  | 2, h => exact h.imp id fun ⟨b, e, hn, hc⟩ => ⟨b, e, hn, hk hc⟩
  | 3, h => exact h
  | 4, h => exact h
  | 5, h => exact h
  | 6, h => exact h.imp id fun x => ownM_below x hb
  | 7, h => exact h
  | 8, h => exact h
  | 9, h => exact h
  | 10, h => exact h
  | 11, h => exact ⟨h.1, ownM_below h.2 hb⟩
  | 12, h => obtain ⟨hq, s, e, x⟩ := h; exact ⟨hq, s, e, ownM_below x hb⟩
  | 13, h => obtain ⟨b, e, hn, hc⟩ := h; exact ⟨b, e, hn, hk hc⟩
  | _ + 14, h => exact trivial
theorem FLess.loud {n1 h0 b6 k : Nat} {D : ByteArray} {L1 L2 : List AT} {p q q' : Bool} {i : Nat} {v : Value} {w w' : World} (h : FLess n1 h0 b6 k D L1 L2 p q i v w) (hp : q = false) (hi : i ≠ 6 ∨ q' = true)
    (hk : ∀ (b : Nat) (cs : Array Value) (e : TypeId), w.heap[b]? = some (.cells cs e (0, 0)) → e ≠ 40 → w'.heap[b]? = w.heap[b]?) : FLess n1 h0 b6 k D L1 L2 true q' i v w' := by
  subst hp
  match i, h, hi with
  | 0, h, _ => exact h
  | 1, h, _ => exact h
  | 2, h, _ => exact .inl rfl
  | 3, h, _ => exact h
  | 4, h, _ => exact h
  | 5, h, _ => exact h
  | 6, h, hi => exact .inl (hi.resolve_left (fun x => x rfl))
  | 7, h, _ => exact h
  | 8, h, _ => exact h
  | 9, h, _ => exact h
  | 10, h, _ => exact h
  | 11, h, _ => cases h.1
  | 12, h, _ => cases h.1
  | 13, h, _ => obtain ⟨b, e, hn, hc⟩ := h; exact ⟨b, e, hn, (hk _ _ _ hc (by decide)).trans hc⟩
  | _ + 14, h, _ => exact trivial

def FMore (n1 h0 b6 wh q6 : Nat) (D : ByteArray) (NC : Array Value) (NA VT : ByteArray) (L1 L2 : List AT) (p q : Bool) (i : Nat) (v : Value) (w : World) : Prop := match i with
  | 0 => v = .pointer (some ⟨h0, 0, none⟩)
  | 1 => v = .string D
  | 2 => p = true ∨ ∃ b, v = .slice (some ⟨b, 0, none⟩) 0 0 ∧ n1 ≤ b ∧ w.heap[b]? = some (.cells #[] 40 (0, 0))
  | 3 => v = .slice (some ⟨b6, 0, none⟩) 3 3
  | 4 => q = true ∨ OwnM n1 w v L1
  | 5 => ∃ b, v = .slice (some ⟨b, 0, none⟩) NC.size NC.size ∧ w.heap[b]? = some (.cells NC 9 (0, 0))
  | 6 => v = .int .u8 (wh : Int)
  | 7 => v = .int .u8 (q6 : Int)
  | 8 => ∃ b, v = .pointer (some ⟨b, q6, none⟩) ∧ w.heap[b]? = some (.cells NC 9 (0, 0))
  | 9 => v = .string NA
  | 10 => ∃ b, v = .slice (some ⟨b, 0, none⟩) 1 1 ∧ w.heap[b]? = some (.cells #[.string VT] 9 (0, 0))
  | 11 => ∃ b, v = .agg #[.string NA, .slice (some ⟨b, 0, none⟩) 1 1] ∧ w.heap[b]? = some (.cells #[.string VT] 9 (0, 0))
  | 12 => q = true ∨ ∃ c b, v = .slice (some ⟨c, 0, none⟩) 1 1 ∧ w.heap[c]? = some (.cells #[.string NA, .slice (some ⟨b, 0, none⟩) 1 1] 40 (0, 0)) ∧ w.heap[b]? = some (.cells #[.string VT] 9 (0, 0))
  | 13 => q = true ∧ OwnM n1 w v L2
  | 14 => q = true ∧ ∃ s, v = .agg #[.string D, s] ∧ OwnM n1 w s L2
  | 15 => ∃ b, v = .pointer (some ⟨b, 0, none⟩) ∧ n1 ≤ b ∧ w.heap[b]? = some (.cells #[.string ⟨#[]⟩, .slice none 0 0] 24 (0, 0))
  | _ => True
theorem FMore.go {n1 h0 b6 wh q6 : Nat} {D : ByteArray} {NC : Array Value} {NA VT : ByteArray} {L1 L2 : List AT} {p q : Bool} {i : Nat} {v : Value} {w w' : World} (h : FMore n1 h0 b6 wh q6 D NC NA VT L1 L2 p q i v w) (hb : Below w.heap.size w w') : FMore n1 h0 b6 wh q6 D NC NA VT L1 L2 p q i v w' := by
  have hk : ∀ {b : Nat} {o : Obj}, w.heap[b]? = some o → w'.heap[b]? = some o := fun e => (hb.block _ (Array.getElem?_eq_some_iff.1 e).1).trans e
  match i, h with
  | 0, h => exact h
  | 1, h => exact h
  | 2, h => exact h.imp id fun ⟨b, e, hn, hc⟩ => ⟨b, e, hn, hk hc⟩
  | 3, h => exact h
  | 4, h => exact h.imp id fun x => ownM_below x hb
  | 5, h => obtain ⟨b, e, hc⟩ := h; exact ⟨b, e, hk hc⟩
  | 6, h => exact h
  | 7, h => exact h
  | 8, h => obtain ⟨b, e, hc⟩ := h; exact ⟨b, e, hk hc⟩
  | 9, h => exact h
  | 10, h => obtain ⟨b, e, hc⟩ := h; exact ⟨b, e, hk hc⟩
  | 11, h => obtain ⟨b, e, hc⟩ := h; exact ⟨b, e, hk hc⟩
  | 12, h => exact h.imp id fun ⟨c, b, e, h1, h2⟩ => ⟨c, b, e, hk h1, hk h2⟩
  | 13, h => exact ⟨h.1, ownM_below h.2 hb⟩
  | 14, h => obtain ⟨hq, s, e, x⟩ := h; exact ⟨hq, s, e, ownM_below x hb⟩
  | 15, h => obtain ⟨b, e, hn, hc⟩ := h; exact ⟨b, e, hn, hk hc⟩
  | _ + 16, h => exact trivial
end Go.Proofs.YtjenbkdfbendlaaGreatDoor


namespace Go.Proofs.YtjenbkdfbendlaaGreatDoor
open Go.RowKit
set_option linter.unusedVariables false

section
variable {P : Program} {ops : Array Oper} {Q : Exit → Act → World → Prop}

theorem region_J {id : Nat} {a0 : Act} {w0 : World} (hm : P.follows .mixedOrders = true) (n0 l1 l2 : Nat) (F : Bool → Bool → Nat → Value → World → Prop) (J : Bool → Bool → World → Prop)
    (hJ : ∀ p q w w', n0 ≤ w.heap.size → J p q w → Below w.heap.size w w' → J p q w') (hJ0 : J false false w0)
    (hF : ∀ p q i v w w', n0 ≤ w.heap.size → F p q i v w → Below w.heap.size w w' → F p q i v w') (hn : n0 ≤ w0.heap.size)
    (hok : regOk ops a0.tmps.size = true) (h12 : depOn ops l2 l1 = true) (h2 : decide (l1 < l2 ∧ l2 + 1 < ops.size) = true) {l : Oper} (hl : ops[ops.size - 1]? = some l)
    (hstep : ∀ listed a w p q, n0 ≤ w.heap.size → J p q w → Kept ops (F p q) (Below n0) a0 w0 listed a w → ∀ (i : Nat) (o : Oper), ops[i]? = some o → i + 1 < ops.size → i ≠ l1 → i ≠ l2 → Came listed o →
      wpOp P ops Q i (fun a' w' => ∃ d v, o.dst = some d ∧ a' = a.put (some d) v ∧ Below w.heap.size w w' ∧ F p q i v w') a w)
    (hloud1 : ∀ listed a w, n0 ≤ w.heap.size → J false false w → Kept ops (F false false) (Below n0) a0 w0 listed a w → ∀ o, ops[l1]? = some o → Came listed o →
      wpOp P ops Q l1 (fun a' w' => ∃ d v, o.dst = some d ∧ a' = a.put (some d) v ∧ Below n0 w w' ∧ F true false l1 v w' ∧ J true false w' ∧ ∀ j u, j ≠ l1 → F false false j u w → F true false j u w') a w)
    (hloud2 : ∀ listed a w, n0 ≤ w.heap.size → J true false w → Kept ops (F true false) (Below n0) a0 w0 listed a w → ∀ o, ops[l2]? = some o → Came listed o →
      wpOp P ops Q l2 (fun a' w' => ∃ d v, o.dst = some d ∧ a' = a.put (some d) v ∧ Below n0 w w' ∧ F true true l2 v w' ∧ J true true w' ∧ ∀ j u, j ≠ l2 → F true false j u w → F true true j u w') a w)
    (hlast : ∀ listed a w, n0 ≤ w.heap.size → J true true w → Kept ops (F true true) (Below n0) a0 w0 listed a w → (∀ i, i + 1 < ops.size → listed.getD i false = true) → wpOp P ops Q (ops.size - 1) (fun a' w' => Q .normal a' w') a w) :
    (Code.region id ops true).wp P Q a0 w0 := by
  have hne : 0 < ops.size := by
    have := (Array.getElem?_eq_some_iff.1 hl).1
    omega
  obtain ⟨hlt12, h2⟩ := of_decide_eq_true h2
  have hb := fun (i : Nat) (o : Oper) (ho : ops[i]? = some o) => (regOk_at hok ho).1
  have hd := fun (i j : Nat) (o o' : Oper) (d : Tmp) (ho : ops[i]? = some o) (ho' : ops[j]? = some o') (hd : o.dst = some d) (hd' : o'.dst = some d) => ((regOk_at hok ho).2.1 d hd).2 j o' ho' hd'
  have hin := fun (i : Nat) (o : Oper) (d : Tmp) (ho : ops[i]? = some o) (hd : o.dst = some d) => ((regOk_at hok ho).2.1 d hd).1
  have hw := fun i (hi : i + 1 < ops.size) => (regOk_at hok (Array.getElem?_eq_getElem (show i < ops.size by omega))).2.2 hi
  have hno : ∀ i, (Array.replicate ops.size false).getD i false = false := fun i => by
    rcases Nat.lt_or_ge i ops.size with h | h <;> simp [h]
  refine region_inv hm (fun listed a w => (Kept ops (F (listed.getD l1 false) (listed.getD l2 false)) (Below n0) a0 w0 listed a w ∧ J (listed.getD l1 false) (listed.getD l2 false) w ∧ listed.getD (ops.size - 1) false = false) ∨ (listed.size = ops.size ∧ (∀ i, i < ops.size → listed.getD i false = true) ∧ Q .normal a w)) ?_ hb ?_ ?_ ?_
  · exact .inl ⟨⟨by simp, fun i o _ h => (by rw [hno] at h; cases h), rfl, rfl, (Below.refl n0 w0).drew, fun _ _ => rfl, fun i o d _ _ h => (by rw [hno] at h; cases h)⟩, by rw [hno, hno]; exact hJ _ _ _ _ hn hJ0 (Below.refl _ _).drew, hno _⟩
  · rintro listed a w (⟨h, _⟩ | ⟨h, _⟩)
    · exact h.size
    · exact h
  · rintro listed a w (⟨hk, hjw, hnl⟩ | ⟨hs, ha, _⟩) i o ho hi hc
    · have hio : i < ops.size := (Array.getElem?_eq_some_iff.1 ho).1
      have hsz : n0 ≤ w.heap.size := Nat.le_trans hn hk.grown.size
      have hpi : listed.getD i false = false := by
        have hi' : i < listed.size := by rw [hk.size]; exact hio
        simpa [hi'] using hi
      have hsl : (listed.setIfInBounds i true).getD i false = true := getD_set_self (by rw [hk.size]; exact hio)
      by_cases hlst : i = ops.size - 1
      · subst hlst
        rw [ho] at hl; cases hl
        have hall := fun j => rest_came hk.shut hw ho hc ops.size j (by omega)
        rw [hall l2 h2, hall l1 (by omega)] at hk hjw
        refine wpOp_mono (fun a' w' hq => .inr ⟨by simp [hk.size], fun j hj => ?_, hq⟩) (hlast listed a w hsz hjw hk hall)
        by_cases hjl : j = ops.size - 1
        · subst hjl; exact hsl
        · exact getD_set_true (hall j (by omega))
      · by_cases hi1 : i = l1
        · subst hi1
          have hp2 : listed.getD l2 false = false := by
            cases e : listed.getD l2 false with
            | false => rfl
            | true =>
              exfalso
              unfold depOn at h12
              cases eo : ops[l2]? with
              | none => rw [eo] at h12; cases h12
              | some o2 =>
                rw [eo] at h12
                obtain ⟨x, hx, hxe⟩ := Array.any_eq_true'.1 h12
                simp only [Bool.and_eq_true, decide_eq_true_eq] at hxe
                have := hk.shut l2 o2 eo e x hx hxe.1
                rw [hxe.2, hpi] at this
                cases this
          rw [hpi, hp2] at hk hjw
          refine wpOp_mono (fun a' w' hq => ?_) (hloud1 listed a w hsz hjw hk o ho hc)
          obtain ⟨d, v, hod, rfl, hg, hv, hj2, hj⟩ := hq
          refine .inl ⟨?_, by rw [hsl, getD_set_ne false (show i ≠ l2 by omega), hp2]; exact hj2, by rw [getD_set_ne false hlst]; exact hnl⟩
          rw [hsl, getD_set_ne false (show i ≠ l2 by omega), hp2]
          exact hk.more2 hj (hk.grown.trans hg) hd hin ho hod hc hv
        · by_cases hi2 : i = l2
          · subst hi2
            have hp1 : listed.getD l1 false = true := by
              unfold depOn at h12
              rw [ho] at h12
              obtain ⟨x, hx, hxe⟩ := Array.any_eq_true'.1 h12
              simp only [Bool.and_eq_true, decide_eq_true_eq] at hxe
              have := hc x hx hxe.1
              rwa [hxe.2] at this
            rw [hp1, hpi] at hk hjw
            refine wpOp_mono (fun a' w' hq => ?_) (hloud2 listed a w hsz hjw hk o ho hc)
            obtain ⟨d, v, hod, rfl, hg, hv, hj2, hj⟩ := hq
            refine .inl ⟨?_, by rw [hsl, getD_set_ne false (show i ≠ l1 by omega), hp1]; exact hj2, by rw [getD_set_ne false hlst]; exact hnl⟩
            rw [hsl, getD_set_ne false (show i ≠ l1 by omega), hp1]
            exact hk.more2 hj (hk.grown.trans hg) hd hin ho hod hc hv
          · refine wpOp_mono (fun a' w' hq => ?_) (hstep listed a w _ _ hsz hjw hk i o ho (by omega) hi1 hi2 hc)
            obtain ⟨d, v, hod, rfl, hg, hv⟩ := hq
            refine .inl ⟨?_, by rw [getD_set_ne false hi1, getD_set_ne false hi2]; exact hJ _ _ _ _ hsz hjw hg, by rw [getD_set_ne false hlst]; exact hnl⟩
            rw [getD_set_ne false hi1, getD_set_ne false hi2]
            exact hk.more2 (fun j u _ h => hF _ _ _ _ _ _ hsz h hg) (hk.grown.trans (hg.mono hsz)) hd hin ho hod hc hv
    · exfalso
      have hio : i < ops.size := (Array.getElem?_eq_some_iff.1 ho).1
      have := ha i hio
      have hi' : i < listed.size := by omega
      simp [hi'] at this hi
      rw [this] at hi; cases hi
  · rintro listed a w (⟨hk, _, hnl⟩ | ⟨_, _, hq⟩) ha
    · rw [ha _ (by omega)] at hnl; cases hnl
    · exact hq


theorem wpOp_call {i : Nat} {o : Oper} {a : Act} {w : World} {f : FuncId} {args : Array Value} {K : Act → World → Prop} (ho : ops[i]? = some o) (hg : o.guard = none) (hr : (execOp a.eval o).run P w = .ok (.enter f args) w)
    (hc : Calls P f args w fun e w' => ∃ v, e = .returned v ∧ K (a.put o.dst v) w') : wpOp P ops Q i K a w := by
  unfold wpOp
  rw [ho]
  show if Region.wanted o (yielded ops a.tmps) = true then _ else _
  rw [if_pos (by unfold Region.wanted; rw [hg])]
  refine .inl ?_
  unfold Oper.wp
  rw [hr]
  exact Calls.mono hc (fun e w' h => by obtain ⟨v, rfl, h⟩ := h; exact h)
end
end Go.Proofs.YtjenbkdfbendlaaGreatDoor


namespace Go.Proofs.YtjenbkdfbendlaaGreatDoor
open Go.RowKit
set_option linter.unusedVariables false

inductive Fk where
  | is (v : Value)
  | val (VB : Array Value) (g : Nat → Value)
  | att (M : List AT)
  | row (P : List PT) (L : List AT)
  | txt (L : List (List UInt8))
  | any
def FK (B : Nat) (T : List Fk) (q : Bool) (i : Nat) (v : Value) (w : World) : Prop := match T.getD i .any with
  | .is x => v = x
  | .val VB g => ∃ b, v = g b ∧ w.heap[b]? = some (.cells VB 9 (0, 0))
  | .att M => q = true ∨ ∃ c PM, v = .slice (some ⟨c, 0, none⟩) M.length M.length ∧ w.heap[c]? = some (.cells (cellsP PM).toArray 40 (0, 0)) ∧ SaysM w PM M
  | .row P L => q = true ∧ ∃ PM, RowP B w v (P ++ PM) ∧ SaysM w (P ++ PM) L
  | .txt L => IsTo (StrB w) w L v
  | .any => True
theorem FK.go {B : Nat} {T : List Fk} {q : Bool} {i : Nat} {v : Value} {w w' : World} (h : FK B T q i v w) (hb : Below w.heap.size w w') : FK B T q i v w' := by
  have hk : ∀ {b : Nat} {o : Obj}, w.heap[b]? = some o → w'.heap[b]? = some o := fun e => (hb.block _ (Array.getElem?_eq_some_iff.1 e).1).trans e
  unfold FK at h ⊢
  cases e : T.getD i .any with
  | is x => rw [e] at h; exact h
  | val VB g => rw [e] at h; obtain ⟨b, h1, h2⟩ := h; exact ⟨b, h1, hk h2⟩
  | att M => rw [e] at h; exact h.imp id fun ⟨c, PM, h1, h2, h3⟩ => ⟨c, PM, h1, hk h2, saysM_below h3 hb⟩
  | row P L => rw [e] at h; obtain ⟨hq, PM, h1, h2⟩ := h; exact ⟨hq, PM, rowP_below h1 hb, saysM_below h2 hb⟩
  | txt L => rw [e] at h; exact h.imp (fun b ⟨cs, fr, hc⟩ => ⟨cs, fr, hk hc⟩) (fun b o hs => hb.cell (p := ⟨b, o, none⟩) hs.lt)
  | any => exact trivial
theorem FK.loud {B : Nat} {T : List Fk} {i : Nat} {v : Value} {w w' : World} (h : FK B T false i v w) (hks : ∀ (b : Nat) (cs : Array Value) (fr : Nat × Nat), w.heap[b]? = some (.cells cs 9 fr) → w'.heap[b]? = w.heap[b]?) (hk : ∀ (b : Nat) (cs : Array Value) (e : TypeId), w.heap[b]? = some (.cells cs e (0, 0)) → e ≠ 40 → w'.heap[b]? = w.heap[b]?) : FK B T true i v w' := by
  unfold FK at h ⊢
  cases e : T.getD i .any with
  | is x => rw [e] at h; exact h
  | val VB g => rw [e] at h; obtain ⟨b, h1, h2⟩ := h; exact ⟨b, h1, (hk _ _ _ h2 (by decide)).trans h2⟩
  | att M => exact .inl rfl
  | row P L => rw [e] at h; cases h.1
  | txt L =>
    rw [e] at h
    have hs : ∀ b, StrB w b → w'.heap[b]? = w.heap[b]? := fun b ⟨cs, fr, hc⟩ => hks b cs fr hc
    exact h.imp (fun b hb => by obtain ⟨cs, fr, hc⟩ := hb; exact ⟨cs, fr, (hs b ⟨cs, fr, hc⟩).trans hc⟩) (fun b o hb => by simp only [World.cell?, hs b hb])
  | any => exact trivial

def kOf (ns : List UInt8) (i : Nat) : Nat := (ns.getD i 0).toNat
structure MkAt (B : Nat) (W : World) (ge : Nat) (D : ByteArray) (u : Value) (P : List PT) (L : List AT) (kb : Nat) (KC : Array Value) : Prop where
  box : BoxN W ge D u
  row : RowP B W u P
  says : SaysM W P L
  nums : W.heap[kb]? = some (.cells KC 3 (0, 0))
  lo : B ≤ ge
theorem MkAt.own {B ge kb : Nat} {D : ByteArray} {u : Value} {P : List PT} {L : List AT} {KC : Array Value} {W : World} (h : MkAt B W ge D u P L kb KC) : OwnM B W u L := ⟨P, h.row, h.says⟩
theorem MkAt.go {B ge kb : Nat} {D : ByteArray} {u : Value} {P : List PT} {L : List AT} {KC : Array Value} {W W' : World} (h : MkAt B W ge D u P L kb KC) (hb : Below W.heap.size W W') : MkAt B W' ge D u P L kb KC :=
  ⟨h.box.below hb (Array.getElem?_eq_some_iff.1 h.box).1, rowP_below h.row hb, saysM_below h.says hb, (hb.block _ (Array.getElem?_eq_some_iff.1 h.nums).1).trans h.nums, h.lo⟩
def MkJ (B ge kb : Nat) (D : ByteArray) (u : Value) (P : List PT) (L : List AT) (KC : Array Value) (q : Bool) (W : World) : Prop := BoxN W ge D u ∧ W.heap[kb]? = some (.cells KC 3 (0, 0)) ∧ (q = false → RowP B W u P ∧ SaysM W P L)
theorem MkJ.go {B ge kb : Nat} {D : ByteArray} {u : Value} {P : List PT} {L : List AT} {KC : Array Value} {q : Bool} {W W' : World} (h : MkJ B ge kb D u P L KC q W) (hb : Below W.heap.size W W') : MkJ B ge kb D u P L KC q W' :=
  ⟨h.1.below hb (Array.getElem?_eq_some_iff.1 h.1).1, (hb.block _ (Array.getElem?_eq_some_iff.1 h.2.1).1).trans h.2.1, fun e => ⟨rowP_below (h.2.2 e).1 hb, saysM_below (h.2.2 e).2 hb⟩⟩
theorem MkJ.loud {B ge kb : Nat} {D : ByteArray} {u : Value} {P : List PT} {L : List AT} {KC : Array Value} {q : Bool} {W W' : World} (h : MkJ B ge kb D u P L KC q W) (hk : ∀ (b : Nat) (cs : Array Value) (e : TypeId), W.heap[b]? = some (.cells cs e (0, 0)) → e ≠ 40 → W'.heap[b]? = W.heap[b]?) : MkJ B ge kb D u P L KC true W' :=
  ⟨(hk _ _ _ h.1 (by decide)).trans h.1, (hk _ _ _ h.2.1 (by decide)).trans h.2.1, fun e => by cases e⟩
theorem MkAt.j {B ge kb : Nat} {D : ByteArray} {u : Value} {P : List PT} {L : List AT} {KC : Array Value} {W : World} (h : MkAt B W ge D u P L kb KC) : MkJ B ge kb D u P L KC false W := ⟨h.box, h.nums, fun _ => ⟨h.row, h.says⟩⟩
theorem run_append_P {B : Nat} {w : World} {v : Value} {P : List PT} {L : List AT} (hr : RowP B w v P) (hsay : SaysM w P L) (hB : B ≤ w.heap.size) {PM : List PT} {M : List AT} (hs : SaysM w PM M) (ad : Addr) (c : Nat)
    (hc : ∀ j u, (cellsP PM)[j]? = some u → w.cell? (ad.add j) = some u) (hlen : L.length + M.length ≤ 1000) (ty : TypeId) :
    ∃ v' w', (Builtin.append_ #[22, 22] ty #[v, .slice (some ad) M.length c]).run Tryz.prog w = .ok v' w' ∧ RowP B w' v' (P ++ PM) ∧ SaysM w' (P ++ PM) (L ++ M) ∧ Below B w w' ∧
      (∀ (k : Nat) (cs : Array Value) (fr : Nat × Nat), w.heap[k]? = some (.cells cs 9 fr) → w'.heap[k]? = w.heap[k]?) ∧ (∀ (k : Nat) (cs : Array Value) (e : TypeId), w.heap[k]? = some (.cells cs e (0, 0)) → e ≠ 40 → w'.heap[k]? = w.heap[k]?) := by
  obtain ⟨i0, hi, hz0, hz1, hz2⟩ := info_parts infoA
  have e1 := hsay.1
  have e2 := hs.1
  have h1 : ∀ u ∈ cellsP PM, u.oneCell' = true := by
    intro u hu
    have : ∀ (l : List PT), (∀ j (h : j < l.length), l[j].2.oneCell' = true) → ∀ u ∈ cellsP l, u.oneCell' = true := by
      intro l
      induction l with
      | nil => intro _ u hu; simp [cellsP] at hu
      | cons r l ih =>
        intro h u hu
        simp only [cellsP, List.mem_cons] at hu
        rcases hu with rfl | rfl | hu
        · rfl
        · exact h 0 (by simp)
        · exact ih (fun j hj => h (j + 1) (by simpa using hj)) u hu
    exact this PM (fun j hj => one_isTo (hs.2 j (by omega) hj).2) u hu
  obtain ⟨v', w', hrun, hown', hgrow, _, hat⟩ := run_append_own_at (P := Tryz.prog) w B 22 ty 40 i0 (.agg #[.string ⟨#[]⟩, .slice none 0 0]) 2 40 Tryz.underlying22 hi hz0 hz1 hz2 rfl (by decide) v P.length (cellsP P) hr ad PM.length c (cellsP PM) (cellsP_length PM) hc h1 (by unfold maxLen; omega) (by omega) hB
  rw [e2] at hrun
  refine ⟨v', w', hrun, ?_, saysM_app (saysM_grown hr hgrow hsay) (saysM_grown hr hgrow hs), (Below.refl B w).grown hgrow hB (fun k e => (World.ownsRow.lt hr k e).1), fun k cs fr hk => row_keep hr hgrow hk (by decide), fun k cs e hk hne => row_keep hr hgrow hk hne⟩
  unfold RowP
  rw [List.length_append, cellsP_append]
  exact hown'

theorem rowP_setE {B b i : Nat} {w : World} {v x : Value} {P : List PT} {L : List AT} {cs : Array Value} {fr : Nat × Nat} (hr : RowP B w v P) (hs : SaysM w P L) (hb : w.heap[b]? = some (.cells cs 24 fr)) : RowP B (w.setCell ⟨b, i, none⟩ x) v P ∧ SaysM (w.setCell ⟨b, i, none⟩ x) P L := by
  have hgr : w.grownBy (w.setCell ⟨b, i, none⟩ x) (some b) := ⟨rfl, rfl, rfl, by simp [World.setCell], fun k hk hn => block_ne w ⟨b, i, none⟩ x (fun e => hn (by rw [e]))⟩
  refine ⟨World.ownsRow.kept hr hgr (.inr fun he => ?_), saysM_to hs fun k hk => block_ne w ⟨b, i, none⟩ x fun e => ?_⟩
  · rcases hr.2 with ⟨rfl, _⟩ | ⟨g, cap, cur, rfl, _, hgc, _⟩
    · cases he
    · have : g = b := by simpa [Value.ownBlock] using he
      subst this
      rw [hgc] at hb
      cases hb
  · obtain ⟨cs', fr', hk⟩ := hk
    rw [show k = b from e, hb] at hk
    cases hk
theorem mkAt_store {B ge kb : Nat} {D : ByteArray} {u s : Value} {P P2 : List PT} {L L2 : List AT} {KC : Array Value} {W : World} {q : Bool} (h : MkJ B ge kb D u P L KC q W) (hr : RowP B W s P2) (hs : SaysM W P2 L2) (hlo : B ≤ ge) : MkAt B (W.setCell ⟨ge, 1, none⟩ s) ge D s P2 L2 kb KC ∧ W.cell? ⟨ge, 1, none⟩ = some u ∧ W.frozen? ⟨ge, 1, none⟩ = false := by
  obtain ⟨hb, hk, _⟩ := h
  have hne : kb ≠ ge := fun e => by
    unfold BoxN at hb
    rw [e, hb] at hk
    cases hk
  refine ⟨⟨?_, (rowP_setE hr hs hb).1, (rowP_setE hr hs hb).2, (block_ne W ⟨ge, 1, none⟩ s hne).trans hk, hlo⟩, hb.cells.2, ?_⟩
  · unfold BoxN at hb ⊢
    simp [World.setCell, Array.getElem?_modify, hb]
  · unfold BoxN at hb
    simp [World.frozen?, hb]
theorem mkAt_name {B ge kb : Nat} {D D2 : ByteArray} {u : Value} {P : List PT} {L : List AT} {KC : Array Value} {W : World} (h : MkAt B W ge D u P L kb KC) : MkAt B (W.setCell ⟨ge, 0, none⟩ (.string D2)) ge D2 u P L kb KC ∧ W.cell? ⟨ge, 0, none⟩ = some (.string D) ∧ W.frozen? ⟨ge, 0, none⟩ = false := by
  obtain ⟨hb, hr, hs, hk, hlo⟩ := h
  have hne : kb ≠ ge := fun e => by
    unfold BoxN at hb
    rw [e, hb] at hk
    cases hk
  refine ⟨⟨?_, (rowP_setE hr hs hb).1, (rowP_setE hr hs hb).2, (block_ne W ⟨ge, 0, none⟩ _ hne).trans hk, hlo⟩, hb.cells.1, ?_⟩
  · unfold BoxN at hb ⊢
    simp [World.setCell, Array.getElem?_modify, hb]
  · unfold BoxN at hb
    simp [World.frozen?, hb]

theorem cellsP_set : ∀ (P : List PT) (j : Nat) (h : j < P.length) (u : Value), (cellsP P).set (j * 2 + 1) u = cellsP (P.set j (P[j].1, u))
  | r :: l, 0, _, u => rfl
  | r :: l, j + 1, h, u => by
    rw [show (j + 1) * 2 + 1 = (j * 2 + 1) + 2 from by omega]
    show strV r.1 :: r.2 :: (cellsP l).set (j * 2 + 1) u = strV r.1 :: r.2 :: cellsP (l.set j _)
    rw [cellsP_set l j (by simpa using h) u]
    rfl
theorem rowP_set {B g n cap : Nat} {w : World} {P : List PT} {L : List AT} {j : Nat} (hj : j < L.length) (hjP : j < P.length) {A' : List (List UInt8)} {u : Value} (hr : RowP B w (.slice (some ⟨g, 0, none⟩) n cap) P) (hs : SaysM w P L) (hu : IsTo (StrB w) w A' u) :
    RowP B (w.setCell ⟨g, j * 2 + 1, none⟩ u) (.slice (some ⟨g, 0, none⟩) n cap) (P.set j (P[j].1, u)) ∧ SaysM (w.setCell ⟨g, j * 2 + 1, none⟩ u) (P.set j (P[j].1, u)) (L.set j (L[j].1, A')) ∧ w.cell? ⟨g, j * 2 + 1, none⟩ = some P[j].2 ∧ w.frozen? ⟨g, j * 2 + 1, none⟩ = false ∧ (∃ cs, w.heap[g]? = some (.cells cs 40 (0, 0))) ∧ B ≤ g ∧ n = P.length := by
  have hPl := hs.1
  unfold RowP at hr
  have hg : ∃ cs, w.heap[g]? = some (.cells cs 40 (0, 0)) ∧ B ≤ g ∧ n = P.length := by
    rcases hr.2 with ⟨h', _⟩ | ⟨g', cap', cur, h', hb, hg, _⟩
    · simp at h'
    · simp only [Value.slice.injEq, Option.some.injEq, Addr.mk.injEq, and_true] at h'
      obtain ⟨rfl, rfl, _⟩ := h'
      exact ⟨cur, hg, hb, rfl⟩
  obtain ⟨cs, hg, hB, rfl⟩ := hg
  have hst := (World.ownsRow.stored hr (j * 2 + 1) u).1
  have hcl := World.ownsRow.cellAt hr (j * 2 + 1) (by omega)
  rw [cellsP_set P j hjP u] at hst
  have hot : ∀ k, StrB w k → (w.setCell ⟨g, j * 2 + 1, none⟩ u).heap[k]? = w.heap[k]? := fun k hk => block_ne w ⟨g, _, none⟩ u fun e => by
    obtain ⟨cs', fr', hk⟩ := hk
    rw [show k = g from e, hg] at hk
    cases hk
  refine ⟨?_, ?_, by rw [hcl]; exact (cellsP_get P j hjP).2, World.ownsRow.frozenAt hr _, ⟨cs, hg⟩, hB, rfl⟩
  · unfold RowP
    rw [List.length_set]
    exact hst
  · refine ⟨by simp [hPl], fun i hi hi' => ?_⟩
    have hi1 : i < L.length := by simpa using hi
    have hi2 : i < P.length := by simpa using hi'
    have base := hs.2 i hi1 hi2
    by_cases hij : j = i
    · subst hij
      rw [List.getElem_set_self, List.getElem_set_self]
      exact ⟨base.1, hu.imp (fun b hb => by obtain ⟨cs', fr', e⟩ := hb; exact ⟨cs', fr', (hot b ⟨cs', fr', e⟩).trans e⟩) (fun b o hb => by simp only [World.cell?, hot b hb])⟩
    · rw [List.getElem_set_ne hij, List.getElem_set_ne hij]
      exact ⟨base.1, base.2.imp (fun b hb => by obtain ⟨cs', fr', e⟩ := hb; exact ⟨cs', fr', (hot b ⟨cs', fr', e⟩).trans e⟩) (fun b o hb => by simp only [World.cell?, hot b hb])⟩
end Go.Proofs.YtjenbkdfbendlaaGreatDoor


namespace Go.Proofs.YtjenbkdfbendlaaGreatDoor
open Go.RowKit
set_option linter.unusedVariables false

def mkN (ns : List UInt8) : List UInt8 := 110 :: Lib.itoa ((kOf ns 0 % 6 : Nat) : Int)
def mkLa (ns : List UInt8) : List AT := if kOf ns 1 % 3 = 0 then [([99, 110], [mkN ns]), (objB, [[105, 110, 101, 116, 79, 114, 103, 80, 101, 114, 115, 111, 110]]), ([115, 110], [[115]]), ([109, 97, 105, 108], [[97, 64] ++ Lib.itoa (kOf ns 2 : Int)])] else perL (mkN ns)
def mkLb (ns : List UInt8) : List AT := if kOf ns 1 % 3 = 1 then mkLa ns ++ [([68, 101, 115, 99, 114, 105, 112, 116, 105, 111, 110], [[100, 32] ++ Lib.itoa ((kOf ns 2 % 9 : Nat) : Int), [101]])] else mkLa ns
def mkLc (ns : List UInt8) : List AT := if kOf ns 3 % 4 = 0 then (mkLb ns).set 1 (objB, ((mkLb ns).getD 1 ([], [])).2 ++ [[112, 111, 115, 105, 120]]) ++ [([117, 105, 100], [[117] ++ Lib.itoa ((kOf ns 4 % 9 : Nat) : Int)]), ([117, 105, 100, 78, 117, 109, 98, 101, 114], [Lib.itoa ((kOf ns 4 : Int) - 100)])] else mkLb ns
def mkLd (ns : List UInt8) : List AT := if kOf ns 3 % 4 = 1 then mkLc ns ++ [([117, 115, 101, 114, 80, 97, 115, 115, 119, 111, 114, 100], [[115, 101, 99, 114, 101, 116]])] else mkLc ns
def mkD (ns : List UInt8) : List UInt8 := if kOf ns 5 % 5 = 0 then [99, 110, 61] ++ mkN ns else if kOf ns 5 % 5 = 1 then [67, 78, 61] ++ mkN ns ++ [44, 111, 117, 61, 97, 44, 111, 61, 120] else perD (mkN ns)
end Go.Proofs.YtjenbkdfbendlaaGreatDoor


namespace Go.Proofs.YtjenbkdfbendlaaGreatDoor
open Go.RowKit
set_option linter.unusedVariables false

theorem run_grow_one {w : World} {vb c : Nat} {X : List UInt8} (h : IsTo (StrB w) w [X] (.slice (some ⟨vb, 0, none⟩) 1 1)) {Z : ByteArray} (hc : w.heap[c]? = some (.cells #[.string Z] 9 (0, 0))) (ty : TypeId) :
    ∃ v' w', (Builtin.append_ #[25, 25] ty #[.slice (some ⟨vb, 0, none⟩) 1 1, .slice (some ⟨c, 0, none⟩) 1 1]).run Tryz.prog w = .ok v' w' ∧ Below w.heap.size w w' ∧ IsTo (StrB w') w' ([X] ++ [Z.data.toList]) v' := by
  obtain ⟨i0, hi, hz0, hz1, hz2⟩ := info_parts infoS
  obtain ⟨a, cc, e, _, hh⟩ := h
  obtain ⟨b, off, e2, hb, hcell⟩ := hh 0 (by simp)
  subst e2
  simp only [Value.slice.injEq, Option.some.injEq, Addr.mk.injEq, and_true] at e
  obtain ⟨⟨rfl, rfl⟩, _, _⟩ := e
  have hcell : w.cell? ⟨vb, 0, none⟩ = some (strV X) := hcell
  have hsrc : Src Tryz.prog i0.size 25 (.slice (some ⟨c, 0, none⟩) 1 1) 1 [.string Z] w := by
    rw [hz1]
    refine Src.ofSlice w Tryz.underlying25 ⟨c, 0, none⟩ 1 1 [.string Z] (by simp) ?_ (by simp [Value.oneCell'])
    intro j u hu
    match j, hu with
    | 0, hu =>
      have : u = .string Z := by simpa using hu.symm
      subst this
      simp [World.cell?, Addr.add, hc]
  have hold : (Builtin.firstCells i0.size 1 (.slice (some ⟨vb, 0, none⟩) 1 1)).run Tryz.prog w.drew = .ok [strV X].toArray w.drew := by
    rw [hz1]
    refine run_firstCells_some w.drew 1 1 ⟨vb, 0, none⟩ 1 1 [strV X] (by simp) ?_
    intro j u hu
    match j, hu with
    | 0, hu =>
      have : u = strV X := by simpa using hu.symm
      subst this
      exact hcell
  have hrun := run_append_grow_src (P := Tryz.prog) w 25 25 ty 9 i0 (.string ⟨#[]⟩) Tryz.underlying25 hi hz0 (some ⟨vb, 0, none⟩) 1 1 [strV X] hold (.slice (some ⟨c, 0, none⟩) 1 1) 1 [.string Z] hsrc (by omega) (by omega) (by rw [hz2]; decide)
  refine ⟨_, _, hrun, (Below.refl _ _).drew.alloc (Nat.le_refl _) _, ?_⟩
  have hnew := heap_alloc_new w.drew (.cells (([strV X] ++ [Value.string Z]).toArray ++ Builtin.zeroCells (Value.string ⟨#[]⟩).cells (grownCap w (1 + 1) 1 9 - (1 + 1))) 9)
  have hds : w.drew.heap.size = w.heap.size := rfl
  rw [hds] at hnew
  refine ⟨_, _, rfl, by unfold maxLen; simp, fun j hj => ?_⟩
  match j, hj with
  | 0, _ =>
    refine ⟨w.heap.size, 0, rfl, strB_at hnew, ?_⟩
    simp only [World.cell?, hnew]
    rw [Array.getElem?_append_left (by simp)]
    rfl
  | 1, _ =>
    refine ⟨w.heap.size, 0, rfl, strB_at hnew, ?_⟩
    show _ = some (strV Z.data.toList)
    rw [strV_whole]
    simp only [World.cell?, hnew]
    rw [Array.getElem?_append_left (by simp)]
    rfl

theorem row_second {B g n cap : Nat} {w : World} {P : List PT} {L : List AT} {T : List UInt8} {V : Value} {A : List (List UInt8)} (hr : RowP B w (.slice (some ⟨g, 0, none⟩) n cap) P) (hs : SaysM w P L) (hP : ∃ t, P[1]? = some (t, V)) (hL : L[1]? = some (T, A)) :
    w.cell? ⟨g, 3, none⟩ = some V ∧ w.frozen? ⟨g, 3, none⟩ = false ∧ IsTo (StrB w) w A V := by
  obtain ⟨t, hP⟩ := hP
  obtain ⟨h1, e1⟩ := List.getElem?_eq_some_iff.1 hP
  obtain ⟨h2, e2⟩ := List.getElem?_eq_some_iff.1 hL
  obtain ⟨_, _, c3, f3, _⟩ := rowP_set (j := 1) (A' := []) (u := .slice none 0 0) h2 h1 hr hs ⟨_, _, rfl, by unfold maxLen; simp, fun j hj => absurd hj (by simp)⟩
  have := (hs.2 1 h2 h1).2
  rw [e1] at c3 this
  rw [e2] at this
  exact ⟨c3, f3, this⟩
theorem row_some {B : Nat} {w : World} {u : Value} {P : List PT} (hr : RowP B w u P) (h : 1 < P.length) : ∃ g n cap, u = .slice (some ⟨g, 0, none⟩) n cap ∧ 1 < n := by
  unfold RowP at hr
  rcases hr.2 with ⟨_, hz⟩ | ⟨g, cap, cur, rfl, _⟩
  · omega
  · exact ⟨g, _, cap, rfl, h⟩
theorem mkLb_one (ns : List UInt8) : ∃ x, (mkLb ns)[1]? = some (objB, [x]) := by
  unfold mkLb mkLa
  split <;> split <;> exact ⟨_, rfl⟩
theorem addr0 (c j : Nat) : (⟨c, 0, none⟩ : Addr).add j = ⟨c, j, none⟩ := by simp [Addr.add]; omega
theorem saysM_two {w : World} {b : Nat} {X Y Z : ByteArray} (h : w.heap[b]? = some (.cells #[.string Y, .string Z] 9 (0, 0))) : SaysM w [(X.data.toList, .slice (some ⟨b, 0, none⟩) 2 2)] [(X.data.toList, [Y.data.toList, Z.data.toList])] :=
  ⟨rfl, fun j hj hj' => by
    have : j = 0 := by simp at hj; omega
    subst this
    refine ⟨rfl, _, _, rfl, by unfold maxLen; simp, fun k hk => ?_⟩
    match k, hk with
    | 0, _ =>
      refine ⟨b, 0, rfl, strB_at h, ?_⟩
      show _ = some (strV Y.data.toList)
      rw [strV_whole]
      simp only [World.cell?, h]
      rfl
    | 1, _ =>
      refine ⟨b, 0, rfl, strB_at h, ?_⟩
      show _ = some (strV Z.data.toList)
      rw [strV_whole]
      simp only [World.cell?, h]
      rfl⟩
end Go.Proofs.YtjenbkdfbendlaaGreatDoor


namespace Go.Proofs.YtjenbkdfbendlaaGreatDoor
open Go.RowKit
set_option linter.unusedVariables false

def tinyT (k : Nat) (A : List (List UInt8)) : Prop := A.length ≤ k ∧ ∀ t ∈ A, t.length ≤ 1000
def tinyA (k : Nat) (L : List AT) : Prop := L.length ≤ k ∧ ∀ a ∈ L, a.1.length ≤ 1000 ∧ tinyT k a.2
theorem tinyT.mono {k m : Nat} {A : List (List UInt8)} (h : tinyT k A) (hk : k ≤ m) : tinyT m A := ⟨Nat.le_trans h.1 hk, h.2⟩
theorem tinyA.mono {k m : Nat} {L : List AT} (h : tinyA k L) (hk : k ≤ m) : tinyA m L := ⟨Nat.le_trans h.1 hk, fun a ha => ⟨(h.2 a ha).1, (h.2 a ha).2.mono hk⟩⟩
theorem tinyA.set {k j : Nat} {L : List AT} {x : AT} (h : tinyA k L) (h1 : x.1.length ≤ 1000) (h2 : tinyT k x.2) : tinyA k (L.set j x) :=
  ⟨by simpa using h.1, fun a ha => by
    rcases List.mem_or_eq_of_mem_set ha with h' | rfl
    · exact h.2 _ h'
    · exact ⟨h1, h2⟩⟩
theorem tinyA.app {k : Nat} {L M : List AT} (h : tinyA k L) (hm : tinyA k M) (hl : L.length + M.length ≤ k) : tinyA k (L ++ M) :=
  ⟨by rw [List.length_append]; exact hl, fun a ha => by
    rcases List.mem_append.1 ha with h' | h'
    · exact h.2 _ h'
    · exact hm.2 _ h'⟩
theorem tinyT.app {k : Nat} {L M : List (List UInt8)} (h : tinyT k L) (hm : tinyT k M) (hl : L.length + M.length ≤ k) : tinyT k (L ++ M) :=
  ⟨by rw [List.length_append]; exact hl, fun a ha => by
    rcases List.mem_append.1 ha with h' | h'
    · exact h.2 _ h'
    · exact hm.2 _ h'⟩
theorem tinyA.small {k : Nat} {L : List AT} (h : tinyA k L) (hk : k ≤ 1000) : smallA L :=
  ⟨Nat.le_trans h.1 hk, fun a ha => ⟨Nat.le_trans (h.2 a ha).1 (by omega), Nat.le_trans (h.2 a ha).2.1 hk, fun s hs => Nat.le_trans ((h.2 a ha).2.2 s hs) (by omega)⟩⟩
theorem tinyA.at {k j : Nat} {L : List AT} (h : tinyA k L) (hj : j < L.length) : L[j].1.length ≤ 1000 ∧ tinyT k L[j].2 := h.2 _ (List.getElem_mem hj)

theorem ownS_strB {B : Nat} {w : World} {v : Value} {L : List (List UInt8)} (h : OwnS B w v L) (hl : L.length ≤ maxLen) : IsTo (StrB w) w L v := by
  have hc := ownS_isTo h hl
  by_cases hL : L = []
  · subst hL
    obtain ⟨a, c, hv⟩ := ownS_slice h
    exact ⟨a, c, hv, hl, fun j hj => absurd hj (by simp)⟩
  · obtain ⟨g, c, hv, _, hg, hcell⟩ := ownS_at h hL
    subst hv
    refine ⟨_, c, rfl, hl, fun j hj => ⟨g, 0, rfl, ?_, by rw [Nat.zero_add]; exact hcell j hj⟩⟩
    rcases h.2 with ⟨h', _⟩ | ⟨g', cap', cur, h', _, hgc, _⟩
    · simp at h'
    · simp only [Value.slice.injEq, Option.some.injEq, Addr.mk.injEq, and_true] at h'
      obtain ⟨rfl, _, _⟩ := h'
      exact ⟨cur, _, hgc⟩
theorem ownM_mono {B B' : Nat} {w : World} {v : Value} {L : List AT} (h : OwnM B w v L) (hb : B' ≤ B) : OwnM B' w v L := by
  obtain ⟨P, h1, h2⟩ := h
  exact ⟨P, World.ownsRow.mono h1 hb, h2⟩
end Go.Proofs.YtjenbkdfbendlaaGreatDoor


namespace Go.Proofs.YtjenbkdfbendlaaGreatDoor
set_option linter.unusedVariables false

theorem nDigits_le : ∀ (k u : Nat), u < 10 ^ (k + 1) → Lib.nDigits u ≤ k + 1
  | 0, u, h => by rw [Lib.nDigits_small (by simpa using h)]; exact Nat.le_refl _
  | k + 1, u, h => by
    by_cases h1 : u < 10
    · rw [Lib.nDigits_small h1]; omega
    · rw [Lib.nDigits_big h1]
      have := nDigits_le k (u / 10) (by rw [Nat.pow_succ] at h; omega)
      omega
theorem itoa_len (v : Int) (h : v.natAbs < 1000000000000000) : (Lib.itoa v).length ≤ 16 := by
  have h15 : (Lib.decDigits v.natAbs).length ≤ 15 := by rw [Lib.decDigits_length]; exact nDigits_le 14 _ (by simpa using h)
  unfold Lib.itoa
  split
  · simp; omega
  · rename_i h; rw [show v.toNat = v.natAbs by omega]; omega

end Go.Proofs.YtjenbkdfbendlaaGreatDoor

