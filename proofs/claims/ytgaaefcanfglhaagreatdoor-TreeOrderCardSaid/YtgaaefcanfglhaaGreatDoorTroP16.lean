/- Several texts in one file: TrMayW, TrCat, TrPut, TrOrdP, TrDoc, TrDoc2, TrDoc3, TrAwkP, MaNumP, MkS. -/
import Derived.Test.YtgaaefcanfglhaaGreatDoorTroP15
import Derived.Test.YtgaaefcanfglhaaGreatDoorTroP13
import Derived.Test.YtgaaefcanfglhaaGreatDoorTroP3
import Derived.Lib.AppendZerosOnto
import Derived.Deep.Upon
import Derived.Test.YtgaaefcanfglhaaGreatDoorTroP7
import Derived.Test.YtgaaefcanfglhaaGreatDoorTroP1
import Derived.Test.YtgaaefcanfglhaaGreatDoorTroP9
import Derived.Test.YtgaaefcanfglhaaGreatDoorTroP6
namespace Go.Proofs.YtgaaefcanfglhaaGreatDoor
open Go.RowKit
set_option linter.unusedVariables false

def fineE (L : List ET) : Prop := smallE L ∧ ∀ e ∈ L, fineA e.2

theorem check_len {d : List UInt8} {L : List AT} (h : checkD d L = 0) : L.length ≤ 20 := by
  rcases Nat.lt_or_ge 20 L.length with hl | hl
  · obtain ⟨k, e, hk⟩ := check_key h
    rw [check_many e hk hl] at h
    cases h
  · exact hl

set_option maxRecDepth 100000 in
set_option maxHeartbeats 8000000 in
theorem treeMay_any (L : List ET) (hs : fineE L) (v : Value) (w : World) (hw : LaidW w) (hlf : LaidF w) (h : IsE w.heap.size w L v) :
    Calls Tryz.prog 10 #[v] w fun e w' => e = .returned (.bool (mayE L)) ∧ Below w.heap.size w w' := by
  obtain ⟨R, hR⟩ : ∃ R, R = mayE L := ⟨_, rfl⟩
  rw [← hR]
  have HR := Lib.hid hR
  clear hR
  have hL := hs.1.1
  have HIsE := Lib.hid h
  obtain ⟨a, c, rfl, hm, hcell⟩ := h
  obtain ⟨n, hn⟩ : ∃ n, n = L.length := ⟨_, rfl⟩
  rw [← hn] at hL HIsE ⊢
  have HN := Lib.hid hn
  have HC := Lib.hid hcell
  have HS := Lib.hid hs
  have HLd := Lib.hid hw
  have HLf := Lib.hid hlf
  clear hcell hs hw hlf hm hn
  by_cases hmany : 200 < n
  · have t0 : decide ((200 : Int) < (n : Int)) = true := by simp; omega
    have HF : Hid (R = false) := Lib.hid (HR.out.trans (may_many (by rw [← HN.out]; exact hmany)))
    go_enter Tryz.func10, Tryz.ntmps10
    go_wp2
    go_ret
    exact ⟨by rw [HF.out]; rfl, Below.refl _ _⟩
  · have t0 : decide ((200 : Int) < (n : Int)) = false := by simp; omega
    go_enter Tryz.func10, Tryz.ntmps10
    go_wp2
    go_loopw [10] (fun i wr => ∃ j : Nat, j ≤ n ∧ i = .int .i64 j ∧ Hid (∀ i (hi : i < L.length), i < j → okE L[i] = true) ∧ Below w.heap.size w wr) (fun i wr => n - (intOf i).toNat)
    case atStart => exact ⟨0, by omega, rfl, Lib.hid (fun _ _ h => absurd h (by omega)), Below.refl _ _⟩
    case round =>
      obtain ⟨j, hj, rfl, HAll, hbel⟩ := hrel
      have HBel := Lib.hid hbel
      have hbs := hbel.size
      by_cases hlt : j < n
      · have t1 : decide ((j : Int) < (n : Int)) = true := by simp; omega
        have t1' : decide (j < n) = true := by simpa using hlt
        have hjL : j < L.length := by rw [← HN.out]; exact hlt
        obtain ⟨b, off, u, rfl, hb0, c0, c1, ht⟩ := HC.out j hjL
        replace ht := IsAo.isA ht
        obtain ⟨ua, un, uc, rfl⟩ := ht.sl
        obtain ⟨X, hX⟩ : ∃ X : ByteArray, ofL L[j].1 = X := ⟨_, rfl⟩
        have hXl : X.data.toList = L[j].1 := by rw [← hX, ofL_list]
        have d0 : (wr.cell? ⟨b, off + j * 2, none⟩) = some (.string X) := by
          rw [hbel.cell (p := ⟨b, _, none⟩) hb0, c0, ← hX]; rfl
        have d1 := (hbel.cell (p := ⟨b, off + j * 2 + 1, none⟩) hb0).trans c1
        have hXs : X.size ≤ 100000 := by rw [← bytes_len, hXl]; exact (HS.out.1.2 _ (List.getElem_mem hjL)).1
        obtain ⟨A, hA⟩ : ∃ A, A = L[j].2 := ⟨_, rfl⟩
        rw [← hA] at ht
        have hfa : fineA A := by rw [hA]; exact HS.out.2 _ (List.getElem_mem hjL)
        obtain ⟨W1, hW1⟩ : ∃ W1, W1 = wr.alloc (.cells #[.string X, .slice ua un uc] 27) := ⟨_, rfl⟩
        have hb1 : Below wr.heap.size wr W1 := by rw [hW1]; exact (Below.refl _ _).alloc (Nat.le_refl _) _
        have f0 : W1.cell? ⟨wr.heap.size, 0, none⟩ = some (.string X) := by rw [hW1]; simp
        have f1 : W1.cell? ⟨wr.heap.size, 1, none⟩ = some (.slice ua un uc) := by rw [hW1]; simp
        have hzW : wr.heap.size < W1.heap.size := by rw [hW1]; simp
        have HBW1 := Lib.hid (HBel.out.trans (hb1.mono hbs))
        have hck := checkE_any X (by omega) A (.slice ua un uc) W1 (HLd.out.below HBW1.out) (HLf.out.below HBW1.out) (ht.below HBW1.out HBW1.out.size)
        obtain ⟨cc, hcc⟩ : ∃ cc, cc = checkD X.data.toList A := ⟨_, rfl⟩
        rw [← hcc] at hck
        have HCk := Lib.hid hck
        have HIn := Lib.hid (fun (h0 : cc = 0) (W : World) (hW : Below w.heap.size w W) => isNorm_any X hXs A hfa (check_len (hcc.symm.trans h0)) (.slice ua un uc) W (ht.below hW hW.size))
        obtain ⟨q, hq⟩ : ∃ q, q = isNE (X.data.toList, A) := ⟨_, rfl⟩
        rw [← hq] at HIn
        have hok : okE L[j] = (decide (cc = 0) && q) := by
          unfold okE
          rw [show L[j] = (X.data.toList, A) from by rw [hXl, hA]]
          rw [hcc, hq]
        have HOk := Lib.hid hok
        have HEa := Lib.hid (hb1)
        clear hX hXl c0 c1 hbel ht hA hfa hb1 hck hcc hq hok
        go_upto_region 6 with (fail)
        rw [← hW1]
        clear hW1 d0 d1
        by_cases hc0 : cc = 0
        · subst hc0
          have HIn2 := Lib.hid (HIn.out rfl)
          cases q with
          | true =>
            have HN1 : Hid (∀ i (hi : i < L.length), i < j + 1 → okE L[i] = true) := Lib.hid (fun i h1 h3 => by
              by_cases hk : i < j
              · exact HAll.out i h1 hk
              · obtain rfl : i = j := by omega
                exact HOk.out)
            go_wp2_with (first
              | (go_at_call 33; refine (HCk.out).mono ?_; rintro e w2 ⟨rfl, hb2⟩; have HB2 := Lib.hid (HBW1.out.trans (hb2.mono HBW1.out.size)); have g0 : w2.cell? ⟨wr.heap.size, 0, none⟩ = some (.string X) := by { rw [hb2.cell (p := ⟨wr.heap.size, 0, none⟩) hzW]; exact f0 }; have g1 : w2.cell? ⟨wr.heap.size, 1, none⟩ = some (.slice ua un uc) := by { rw [hb2.cell (p := ⟨wr.heap.size, 1, none⟩) hzW]; exact f1 }; clear hb2)
              | (go_at_call 34; refine (HIn2.out _ HB2.out).mono ?_; rintro e w3 ⟨rfl, hb3⟩; have HB3 := Lib.hid (HB2.out.trans (hb3.mono HB2.out.size)); clear hb3))
            go_roundw
            case rel => exact ⟨j + 1, by omega, by go_num, HN1, HB3.out⟩
            case measure => simp [intOf]; omega
          | false =>
            have HF : Hid (R = false) := Lib.hid (HR.out.trans (may_bad hjL HOk.out))
            go_wp2_with (first
              | (go_at_call 33; refine (HCk.out).mono ?_; rintro e w2 ⟨rfl, hb2⟩; have HB2 := Lib.hid (HBW1.out.trans (hb2.mono HBW1.out.size)); have g0 : w2.cell? ⟨wr.heap.size, 0, none⟩ = some (.string X) := by { rw [hb2.cell (p := ⟨wr.heap.size, 0, none⟩) hzW]; exact f0 }; have g1 : w2.cell? ⟨wr.heap.size, 1, none⟩ = some (.slice ua un uc) := by { rw [hb2.cell (p := ⟨wr.heap.size, 1, none⟩) hzW]; exact f1 }; clear hb2)
              | (go_at_call 34; refine (HIn2.out _ HB2.out).mono ?_; rintro e w3 ⟨rfl, hb3⟩; have HB3 := Lib.hid (HB2.out.trans (hb3.mono HB2.out.size)); clear hb3))
            go_ret
            exact ⟨by rw [HF.out]; rfl, HB3.out⟩
        · have q0 : (cc != 0) = true := by simpa using hc0
          have HF : Hid (R = false) := Lib.hid (HR.out.trans (may_bad hjL (HOk.out.trans (by simp [hc0]))))
          clear hc0
          go_wp2_with (go_at_call 33; refine (HCk.out).mono ?_; rintro e w2 ⟨rfl, hb2⟩; have HB2 := Lib.hid (HBW1.out.trans (hb2.mono HBW1.out.size)); clear hb2)
          go_ret
          exact ⟨by rw [HF.out]; rfl, HB2.out⟩
      · obtain rfl : j = n := by omega
        have t1 : decide ((j : Int) < (j : Int)) = false := by simp
        have t1' : decide (j < j) = false := by simp
        obtain ⟨W1, hW1⟩ : ∃ W1, W1 = wr.alloc (.cells #[.slice a j c, .int .u32 0, .int .i32 0, .int .u32 0, .slice none 0 0, .map none] 83) := ⟨_, rfl⟩
        have hb1 : Below wr.heap.size wr W1 := by rw [hW1]; exact (Below.refl _ _).alloc (Nat.le_refl _) _
        have HBW1 := Lib.hid (HBel.out.trans (hb1.mono hbs))
        have hx : Idx wr.heap.size W1 (.slice a j c) (keysE L) := by rw [hW1]; exact idx_new wr _ _
        have hst := stands_any L HS.out.1 wr.heap.size (.slice a j c) W1 hx (HIsE.out.below HBW1.out hbs)
        have hres : R = standsK (keysE L) := HR.out.trans (may_stands (by rw [← HN.out]; omega) (fun i hi => HAll.out i hi (by rw [HN.out]; exact hi)))
        rw [← hres] at hst
        have HSt := Lib.hid hst
        have HW1 := Lib.hid hW1
        have HBw := Lib.hid hb1
        clear hbel hst hres hx hW1 hb1
        go_upto_region 9 with (fail)
        go_wp2_with (go_at_call 35; rw [← HW1.out]; refine (HSt.out).mono ?_; rintro e w2 ⟨rfl, hg⟩; have HG := Lib.hid (below_idx HBw.out hg (Nat.le_refl _)); clear hg)
        go_ret
        exact ⟨rfl, HBel.out.trans (HG.out.mono hbs)⟩
end Go.Proofs.YtgaaefcanfglhaaGreatDoor


namespace Go.Proofs.YtgaaefcanfglhaaGreatDoor
open Go.RowKit
set_option linter.unusedVariables false

set_option maxRecDepth 100000 in
set_option maxHeartbeats 2000000 in
theorem growE_any (ok : Nat → Prop) (n : Nat) (hn : n ≤ 100000) (w : World) :
    Calls Tryz.prog 70 #[.slice none 0 0, .int .i64 n] w fun e w' => ∃ v, e = .returned v ∧ OwnE ok w.heap.size w' v [] ∧ Below w.heap.size w w' := by
  have t0 : decide ((n : Int) < 0) = false := by simp
  by_cases h0 : n = 0
  · subst h0
    go_enter Tryz.func70, Tryz.ntmps70
    go_wp2
    go_ret
    exact ⟨_, rfl, ownE_nil _ _ _, Below.refl _ _⟩
  · have t1 : decide ((0 : Int) < (n : Int)) = true := by simp; omega
    obtain ⟨i0, hi, hz0, hz1, hz2⟩ := info_parts infoE
    have hap := fun ty => Lib.run_append_nil_zeros (P := Tryz.prog) w 23 3 ty 27 i0 (.agg #[.string ⟨#[]⟩, .slice none 0 0]) .i64 .i64 Tryz.underlying23 Tryz.underlying3 hi hz0 n (by omega) (by omega) (by omega) (by rw [hz2]; omega)
    obtain ⟨cap, hcap⟩ : ∃ cap, cap = grownCap w n 0 27 := ⟨_, rfl⟩
    have hc1 : n ≤ cap := by rw [hcap]; exact grownCap_ge _ _ _ _
    have hc2 : cap ≤ maxLen := by rw [hcap]; exact grownCap_le_maxLen _ _ _ _ (by unfold maxLen; omega)
    obtain ⟨W, hW⟩ : ∃ W, W = w.drew.alloc (.cells (Builtin.zeroCells (Value.agg #[.string ⟨#[]⟩, .slice none 0 0]).cells n ++ Builtin.zeroCells (Value.agg #[.string ⟨#[]⟩, .slice none 0 0]).cells (cap - n)) 27) := ⟨_, rfl⟩
    have hown : OwnE ok w.heap.size W (.slice (some ⟨w.heap.size, 0, none⟩) 0 cap) [] := by
      rw [hW]
      refine ⟨[], ?_, rfl, fun j h => absurd h (by simp)⟩
      exact World.ownsRow_made (w := w.drew) (base := w.heap.size) (e := 27) (size := 2) _ cap (Nat.le_refl _) hc2 (by simp [Builtin.zeroCells, Value.cells]; omega)
    have hbel : Below w.heap.size w W := by
      rw [hW]
      exact (Below.refl _ _).drew.alloc (Nat.le_refl _) _
    rw [← hcap, ← hW] at hap
    have HAp := Lib.hid hap
    have HO := Lib.hid hown
    have HB := Lib.hid hbel
    clear hap hown hbel hW hcap
    unfold maxLen at hc2
    go_enter Tryz.func70, Tryz.ntmps70
    go_wp2_with (at_builtin; refine Lib.wpList_append_run _ rfl _ _ _ _ rfl _ _ rfl rfl _ _ (HAp.out _) ?_)
    go_ret
    exact ⟨_, rfl, HO.out, HB.out⟩

def capV : Value → Prop
  | .slice none n c => n = 0 ∧ c = 0
  | .slice (some a) n c => n ≤ c ∧ a.spot = none
  | _ => True
theorem ownE_cap {ok : Nat → Prop} {B : Nat} {w : World} {v : Value} {L : List ET} (h : OwnE ok B w v L) : capV v := by
  obtain ⟨P, hr, hsay⟩ := h
  rcases hr.2 with ⟨rfl, _⟩ | ⟨g, cap, cur, rfl, _, _, h1, _⟩
  · exact ⟨rfl, rfl⟩
  · exact ⟨h1, rfl⟩
def IsEE (n0 : Nat) (w : World) (U : List (List ET)) (v : Value) : Prop := ∃ a c, v = .slice a U.length c ∧ ∀ j, (h : j < U.length) → ∃ b off u, a = some ⟨b, off, none⟩ ∧ b < n0 ∧ w.cell? ⟨b, off + j, none⟩ = some u ∧ IsE n0 w U[j] u

set_option maxRecDepth 100000 in
set_option maxHeartbeats 4000000 in
theorem concatE_any (U : List (List ET)) (hU : U.flatten.length ≤ 100000) (hl : U.length ≤ 1000) (v : Value) (w : World) (h : IsEE w.heap.size w U v) :
    Calls Tryz.prog 41 #[v] w fun e w' => ∃ v', e = .returned v' ∧ IsE w'.heap.size w' U.flatten v' ∧ capV v' ∧ Below w.heap.size w w' := by
  obtain ⟨a, c, rfl, hcell⟩ := h
  obtain ⟨n, hn⟩ : ∃ n, n = U.length := ⟨_, rfl⟩
  rw [← hn] at hl ⊢
  have HN := Lib.hid hn
  have HC := Lib.hid hcell
  clear hcell hn
  go_enter Tryz.func41, Tryz.ntmps41
  go_wp2
  go_loopw [3, 11] (fun s i wr => ∃ (j k : Nat), j ≤ n ∧ i = .int .i64 j ∧ s = .int .i64 k ∧ k = (U.take j).flatten.length ∧ w = wr) (fun _ i wr => n - (intOf i).toNat)
  case atStart => exact ⟨0, 0, by omega, rfl, rfl, rfl, rfl⟩
  case round =>
    obtain ⟨j, k, hj, rfl, rfl, hk, rfl⟩ := hrel
    have hk2 := flat_le U j
    rw [← hk] at hk2
    by_cases hlt : j < n
    · have t3 : decide ((j : Int) < (n : Int)) = true := by simp; omega
      have t3' : decide (j < n) = true := by simpa using hlt
      have hlU : j < U.length := by rw [← HN.out]; exact hlt
      obtain ⟨b, off, u, rfl, hb0, c0, ht⟩ := HC.out j hlU
      obtain ⟨ua, uc, hu, _⟩ := id ht
      obtain ⟨un, hun⟩ : ∃ k, k = U[j].length := ⟨_, rfl⟩
      rw [← hun] at hu
      subst hu
      have hnew : k + un = (U.take (j + 1)).flatten.length := by rw [flat_take U j hlU, List.length_append, ← hk, ← hun]
      have hk3 := flat_le U (j + 1)
      rw [← hnew] at hk3
      have HNew := Lib.hid hnew
      have t4 : decide (((k : Int) + (un : Int)) < 0) = false := by simp; omega
      have t4' : decide (((k + un : Nat) : Int) < 0) = false := by simp; omega
      clear hun hk hnew ht
      go_wp2
      go_roundw
      case rel => exact ⟨j + 1, k + un, by omega, by go_num, by go_num, HNew.out, by first | rfl | trivial⟩
      case measure => simp [intOf]; omega
    · obtain rfl : j = n := by omega
      have t3 : decide ((j : Int) < (j : Int)) = false := by simp
      have t3' : decide (j < j) = false := by simp
      have HG := Lib.hid (fun W => growE_any (fun b => b < w.heap.size) k (by omega) W)
      clear hk
      go_wp2_with (go_at_call 70; refine (HG.out _).mono ?_; rintro e w2 ⟨v2, rfl, ho2, hb2⟩; (obtain ⟨xa, xc, hxe⟩ := ownE_slice ho2); (simp only [List.length_nil] at hxe); subst hxe; have HO2 := Lib.hid ho2; have HB2 := Lib.hid hb2; clear ho2 hb2)
      go_loopw [6, 27] (fun l i wr => ∃ (q : Nat), q ≤ j ∧ i = .int .i64 q ∧ OwnE (fun b => b < w.heap.size) w.heap.size wr l (U.take q).flatten ∧ Below w.heap.size w wr) (fun _ i wr => j - (intOf i).toNat)
      case atStart => exact ⟨0, by omega, rfl, HO2.out, HB2.out⟩
      case round =>
        obtain ⟨q, hq, rfl, hown, hbel⟩ := hrel
        have HBel := Lib.hid hbel
        have hbs := hbel.size
        have hsz := flat_le U q
        obtain ⟨sa, sc, hsv⟩ := ownE_slice hown
        obtain ⟨G, hG⟩ : ∃ G, G = (U.take q).flatten := ⟨_, rfl⟩
        rw [← hG] at hsv hsz hown
        obtain ⟨sn, hsn⟩ : ∃ k, k = G.length := ⟨_, rfl⟩
        rw [← hsn] at hsv hsz
        subst hsv
        have HOwn := Lib.hid hown
        have HSn := Lib.hid hsn
        have HGe := Lib.hid hG
        clear hsn hown hG
        by_cases hlt : q < j
        · have t5 : decide ((q : Int) < (j : Int)) = true := by simp; omega
          have t5' : decide (q < j) = true := by simpa using hlt
          have hlU : q < U.length := by rw [← HN.out]; exact hlt
          obtain ⟨b, off, u, hae, hb0, c0, ht⟩ := HC.out q hlU
          subst hae
          obtain ⟨ua, uc, hu, hmx, hcu⟩ := id ht
          obtain ⟨un, hun⟩ : ∃ k, k = U[q].length := ⟨_, rfl⟩
          rw [← hun] at hu
          subst hu
          have d0 := (hbel.cell (p := ⟨b, off + q, none⟩) hb0).trans c0
          have htot : sn + un ≤ 100000 := by
            have := flat_le U (q + 1)
            rw [flat_take U q hlU, List.length_append, ← HGe.out, ← HSn.out, ← hun] at this
            omega
          have hnew := flat_take U q hlU
          rw [← HGe.out] at hnew
          have HNew := Lib.hid hnew
          obtain ⟨i0, hi, hz0, hz1, hz2⟩ := info_parts infoE
          have HUn := Lib.hid hun
          have HT := Lib.hid ht
          clear c0 hnew ht hbel hun
          by_cases hu0 : un = 0
          · subst hu0
            have hle : sn ≤ sc := by
              obtain ⟨P, hr, hsay⟩ := HOwn.out
              rcases hr.2 with ⟨e, _⟩ | ⟨g, cap, cur, e, _, _, h1, _⟩
              · obtain ⟨_, rfl, rfl⟩ := Value.slice.inj e; omega
              · obtain ⟨_, _, rfl⟩ := Value.slice.inj e
                have := hsay.1
                rw [HSn.out, ← this]; exact h1
            have hsrc : Src Tryz.prog i0.size 23 (.slice ua 0 uc) 0 [] wr := by
              cases ua with
              | none => exact Src.ofNil _ Tryz.underlying23 uc
              | some ad => exact Src.ofSlice _ Tryz.underlying23 ad 0 uc [] (by simp) (by simp) (by simp)
            have HRn := Lib.hid (fun ty => run_append_nothing wr 23 23 ty 27 i0 Tryz.underlying23 hi sa sn sc hle (.slice ua 0 uc) hsrc)
            have hnil : U[q] = [] := List.eq_nil_of_length_eq_zero HUn.out.symm
            have HNil := Lib.hid hnil
            clear hsrc hle hnil hi hz0 hz1 hz2 hcu
            go_wp2_with (at_builtin; refine Lib.wpList_append_run _ rfl _ _ _ _ rfl _ _ rfl rfl _ _ (HRn.out _) ?_)
            go_roundw
            case rel => exact ⟨q + 1, by omega, by go_num, by rw [HNew.out, HNil.out, List.append_nil]; exact HOwn.out, HBel.out⟩
            case measure => simp [intOf]; omega
          · have hmne : U[q] ≠ [] := fun e => hu0 (by rw [HUn.out, e]; rfl)
            obtain ⟨b2, off2, u2, hua, hb2, _⟩ := hcu 0 (by have := HUn.out; omega)
            subst hua
            have htW : IsEo (fun b => b < w.heap.size) wr U[q] (.slice (some ⟨b2, off2, none⟩) un uc) := IsEo.imp HT.out (fun _ h => h) (fun b o hk => HBel.out.cell (p := ⟨b, o, none⟩) hk)
            obtain ⟨PM, hPM, _, hPc⟩ := isE_cells htW
            have HPm := Lib.hid hPM
            have HPc := Lib.hid hPc
            have HMne := Lib.hid hmne
            have HOkb : Hid (∀ b, b < w.heap.size → b < wr.heap.size ∧ some b ≠ (Value.slice sa sn sc).ownBlock) := Lib.hid (fun b hb => ⟨by omega, fun e => by
              obtain ⟨P, hr, _⟩ := HOwn.out
              have := (World.ownsRow.lt hr b e.symm).1
              omega⟩)
            clear hcu htW hPM hPc hmne hi hz0 hz1 hz2
            go_wp2_with (at_builtin; refine wpList_append_entries rfl (.tmp 31) (.tmp 32) rfl w.heap.size (.slice sa sn sc) G U[q] rfl b2 off2 un uc HOwn.out PM HPm.out HPc.out rfl HUn.out HOkb.out (by rw [← HSn.out, ← HUn.out]; omega) hbs HMne.out ?_; intro v5 w5 hown5 hb5 _ _; have HO5 := Lib.hid hown5; have HB5 := Lib.hid (HBel.out.trans hb5); clear hown5 hb5)
            go_roundw
            case rel => exact ⟨q + 1, by omega, by go_num, by rw [HNew.out]; exact HO5.out, HB5.out⟩
            case measure => simp [intOf]; omega
        · obtain rfl : q = j := by omega
          have t5 : decide ((q : Int) < (q : Int)) = false := by simp
          have t5' : decide (q < q) = false := by simp
          have hall : G = U.flatten := by rw [HGe.out, List.take_of_length_le (by rw [← HN.out]; exact Nat.le_refl _)]
          have HAll := Lib.hid hall
          clear hall hbel
          go_wp2
          go_ret
          exact ⟨.slice sa sn sc, rfl, by rw [← HAll.out]; exact ownE_isE HOwn.out (by rw [← HSn.out]; unfold maxLen; omega) (fun b hb => by omega), ownE_cap HOwn.out, HBel.out⟩
end Go.Proofs.YtgaaefcanfglhaaGreatDoor


namespace Go.Proofs.YtgaaefcanfglhaaGreatDoor
open Go.RowKit
set_option linter.unusedVariables false

theorem smallE_take {L : List ET} (h : smallE L) (k : Nat) : smallE (L.take k) := ⟨by rw [List.length_take]; have := h.1; omega, fun e he => h.2 e (List.mem_of_mem_take he)⟩
theorem smallE_drop {L : List ET} (h : smallE L) (k : Nat) : smallE (L.drop k) := ⟨by rw [List.length_drop]; have := h.1; omega, fun e he => h.2 e (List.mem_of_mem_drop he)⟩
theorem smallE_one {e : ET} (h1 : e.1.length ≤ 100000) (h2 : smallA e.2) : smallE [e] := ⟨by simp, fun x hx => by simp at hx; subst hx; exact ⟨h1, h2⟩⟩

theorem isEE_of {w : World} {U : List (List ET)} {cs : Array Value} (hl : cs.size = U.length) (h : ∀ j (hj : j < U.length) (hj' : j < cs.size), IsE w.heap.size w U[j] cs[j]) :
    IsEE (w.alloc (.cells cs 23)).heap.size (w.alloc (.cells cs 23)) U (.slice (some ⟨w.heap.size, 0, none⟩) U.length U.length) := by
  have hb : Below w.heap.size w (w.alloc (.cells cs 23)) := (Below.refl _ _).alloc (Nat.le_refl _) _
  refine ⟨_, _, rfl, fun j hj => ⟨w.heap.size, 0, cs[j]'(by rw [hl]; exact hj), rfl, by simp, ?_, (h j hj (by rw [hl]; exact hj)).below hb hb.size⟩⟩
  have hc : (w.alloc (.cells cs 23)).heap[w.heap.size]? = some (.cells cs 23 (0, 0)) := heap_alloc_new w _
  simp only [World.cell?, hc, Nat.zero_add]
  simp [Array.getElem?_eq_getElem (show j < cs.size by rw [hl]; exact hj)]
theorem isEE_three (w : World) (x y z : Value) (A B C : List ET) (hx : IsE w.heap.size w A x) (hy : IsE w.heap.size w B y) (hz : IsE w.heap.size w C z) :
    IsEE (w.alloc (.cells #[x, y, z] 23)).heap.size (w.alloc (.cells #[x, y, z] 23)) [A, B, C] (.slice (some ⟨w.heap.size, 0, none⟩) 3 3) :=
  isEE_of (U := [A, B, C]) rfl fun j hj hj' => by
    match j, hj with
    | 0, _ => exact hx
    | 1, _ => exact hy
    | 2, _ => exact hz

def capW : Value → Prop
  | .slice _ n c => n ≤ c
  | _ => True
def fromK (KS : List KL) (k : KL) : Nat := if findK KS k < 0 then aboveK KS k else (findK KS k).toNat
def toK (KS : List KL) (k : KL) : Nat := if findK KS k < 0 then aboveK KS k else (findK KS k).toNat + 1
def putE (L : List ET) (e : ET) : List ET := L.take (fromK (keysE L) (kE e)) ++ [e] ++ L.drop (toK (keysE L) (kE e))
theorem findK_lt {KS : List KL} {k : KL} {i : Nat} (h : findK KS k = (i : Int)) : i < KS.length := by
  unfold findK at h
  split at h
  · omega
  · by_cases hm : k ∈ KS
    · obtain ⟨j, hj, e, _⟩ := idxK_some hm
      rw [e] at h
      omega
    · rw [idxK_no hm] at h; omega
theorem findK_ge (KS : List KL) (k : KL) : -1 ≤ findK KS k := by
  unfold findK
  split
  · omega
  · by_cases hm : k ∈ KS
    · obtain ⟨j, hj, e, _⟩ := idxK_some hm
      rw [e]; omega
    · rw [idxK_no hm]; omega
theorem fromK_le (KS : List KL) (k : KL) : fromK KS k ≤ toK KS k ∧ toK KS k ≤ KS.length := by
  unfold fromK toK
  have h2 := findK_ge KS k
  split
  · exact ⟨Nat.le_refl _, aboveK_le _ _⟩
  · have := findK_lt (KS := KS) (k := k) (i := (findK KS k).toNat) (by omega)
    omega

theorem isE_one (w : World) (D : ByteArray) (A : List AT) (u : Value) (hu : IsA w.heap.size w A u) :
    IsE (w.alloc (.cells #[.string D, u] 27)).heap.size (w.alloc (.cells #[.string D, u] 27)) [(D.data.toList, A)] (.slice (some ⟨w.heap.size, 0, none⟩) 1 1) := by
  have hb : Below w.heap.size w (w.alloc (.cells #[.string D, u] 27)) := (Below.refl _ _).alloc (Nat.le_refl _) _
  refine ⟨_, _, rfl, by unfold maxLen; simp, fun j hj => ?_⟩
  have : j = 0 := by simp at hj; omega
  subst this
  refine ⟨w.heap.size, 0, u, rfl, by simp, ?_, by simp, hu.below hb hb.size⟩
  rw [show ([(D.data.toList, A)] : List ET)[0].1 = D.data.toList from rfl, strV_whole]
  simp

set_option maxRecDepth 100000 in
set_option maxHeartbeats 8000000 in
theorem treePut_any (L : List ET) (hs : smallE L) (v : Value) (hcap : capV v) (D : ByteArray) (hD : D.size ≤ 100000) (A : List AT) (ha : fineA A) (h20 : A.length ≤ 20) (u : Value) (hk : kE (D.data.toList, A) ≠ []) (hnorm : isNE (D.data.toList, A) = true) (w : World) (h : IsE w.heap.size w L v) (hu : IsA w.heap.size w A u) :
    Calls Tryz.prog 18 #[v, .agg #[.string D, u]] w fun e w' => ∃ v', e = .returned v' ∧ IsE w'.heap.size w' (putE L (D.data.toList, A)) v' ∧ capV v' ∧ Below w.heap.size w w' := by
  have hL := hs.1
  obtain ⟨ua, un, uc, rfl⟩ := hu.sl
  obtain ⟨W0, hW0⟩ : ∃ W, W = w.alloc (.cells #[.string D, .slice ua un uc] 27) := ⟨_, rfl⟩
  have hb0 : Below w.heap.size w W0 := by rw [hW0]; exact (Below.refl _ _).alloc (Nat.le_refl _) _
  have hz0 : w.heap.size < W0.heap.size := by rw [hW0]; simp
  have e0 : W0.cell? ⟨w.heap.size, 0, none⟩ = some (.string D) := by rw [hW0]; simp
  have e1 : W0.cell? ⟨w.heap.size, 1, none⟩ = some (.slice ua un uc) := by rw [hW0]; simp
  have hkey := fun W => treeKey_any D hD ua un uc W
  obtain ⟨K, hK⟩ : ∃ K, K = keyB (keyD D.data.toList) := ⟨_, rfl⟩
  rw [← hK] at hkey
  have hKl : K.data.toList = kE (D.data.toList, A) := by rw [hK, keyB_list]; rfl
  have hKs : K.size ≤ 100000 := by
    have := keyB_size D.data.toList
    rw [← hK, bytes_len] at this
    omega
  rw [← hKl] at hk
  have hPut : putE L (D.data.toList, A) = L.take (fromK (keysE L) K.data.toList) ++ [(D.data.toList, A)] ++ L.drop (toK (keysE L) K.data.toList) := by unfold putE; rw [← hKl]
  obtain ⟨k1, k2⟩ := bytes_some hk
  have k3 : (K.toList == []) = false := by simpa using k1
  have hfl := fromK_le (keysE L) K.data.toList
  rw [keysE_len] at hfl
  have HKey := Lib.hid hkey
  have HNorm := Lib.hid (fun (W : World) (hW : Below w.heap.size w W) => isNorm_any D hD A ha h20 (.slice ua un uc) W (hu.below hW hW.size))
  rw [hnorm] at HNorm
  have HUb := Lib.hid (fun (W : World) (hW : Below w.heap.size w W) => hu.below hW hW.size)
  have HB0 := Lib.hid hb0
  have HW0 := Lib.hid hW0
  have HIsE := Lib.hid h
  have HS := Lib.hid hs
  have HFl := Lib.hid hfl
  have HPut := Lib.hid hPut
  obtain ⟨n, hn⟩ : ∃ n, n = L.length := ⟨_, rfl⟩
  obtain ⟨la, lc, hv, hmx, hcell⟩ := id h
  rw [← hn] at hL hv hmx
  subst hv
  have hcap' := hcap
  have HN := Lib.hid hn
  clear hW0 hK hKl hk hnorm hfl hkey hPut hb0 hu h hn hcell hcap
  rw [HPut.out]
  go_enter Tryz.func18, Tryz.ntmps18
  go_upto_region 1 with (fail)
  rw [← HW0.out]
  go_upto_region 4 with (first
    | (go_at_call 9; refine (HKey.out _).mono ?_; rintro e w2 ⟨rfl, hb2⟩; have g0 : w2.cell? ⟨w.heap.size, 0, none⟩ = some (.string D) := by { rw [hb2.cell (p := ⟨w.heap.size, 0, none⟩) hz0]; exact e0 }; have g1 : w2.cell? ⟨w.heap.size, 1, none⟩ = some (.slice ua un uc) := by { rw [hb2.cell (p := ⟨w.heap.size, 1, none⟩) hz0]; exact e1 }; have HB2a := Lib.hid (hb2); have HB2 := Lib.hid (HB0.out.trans (hb2.mono (by omega))); clear hb2)
    | (go_at_call 34; refine (HNorm.out _ HB2.out).mono ?_; rintro e w3 ⟨rfl, hb3⟩; have HB3a := Lib.hid (bthen HB2a.out hb3); have HB3 := Lib.hid (bthen HB2.out hb3); have g0' : w3.cell? ⟨w.heap.size, 0, none⟩ = some (.string D) := by { rw [HB3a.out.cell (p := ⟨w.heap.size, 0, none⟩) hz0]; exact e0 }; have g1' : w3.cell? ⟨w.heap.size, 1, none⟩ = some (.slice ua un uc) := by { rw [HB3a.out.cell (p := ⟨w.heap.size, 1, none⟩) hz0]; exact e1 }; clear hb3))
  clear e0 e1 g0 g1
  -- TAIL
  obtain ⟨W4, hW4⟩ : ∃ W, W = w3.alloc (.cells #[.slice la n lc, .int .u32 0, .int .i32 0, .int .u32 0, .slice none 0 0, .map none] 83) := ⟨_, rfl⟩
  have hb4 : Below w3.heap.size w3 W4 := by rw [hW4]; exact (Below.refl _ _).alloc (Nat.le_refl _) _
  have hx4 : Idx w3.heap.size W4 (.slice la n lc) (keysE L) := by rw [hW4]; exact idx_new w3 _ _
  have hz3 : w.heap.size < w3.heap.size := Nat.lt_of_lt_of_le hz0 HB3a.out.size
  have v0 : W4.cell? ⟨w.heap.size, 0, none⟩ = some (.string D) := (hb4.cell (p := ⟨w.heap.size, 0, none⟩) hz3).trans g0'
  have v1 : W4.cell? ⟨w.heap.size, 1, none⟩ = some (.slice ua un uc) := (hb4.cell (p := ⟨w.heap.size, 1, none⟩) hz3).trans g1'
  have hpl := place_any L HS.out w3.heap.size (.slice la n lc) K hKs W4 hx4 (HIsE.out.below (HB3.out.trans (hb4.mono HB3.out.size)) HB3.out.size)
  obtain ⟨I, hI⟩ : ∃ I, I = findK (keysE L) K.data.toList := ⟨_, rfl⟩
  rw [← hI] at hpl
  have HI := Lib.hid hI
  have HPl := Lib.hid hpl
  have HB4a := Lib.hid hb4
  have hIge := findK_ge (keysE L) K.data.toList
  rw [← hI] at hIge
  have HCp := Lib.hid (fun (M : List ET) (hm : smallE M) (u : Value) (W : World) (hu : IsE W.heap.size W M u) => copies_any M hm u W hu)
  have HCc := Lib.hid (fun (U : List (List ET)) (hU : U.flatten.length ≤ 100000) (u : Value) (W : World) (hu : IsEE W.heap.size W U u) => fun hl => concatE_any U hU hl u W hu)
  have HOne : Hid (smallE [(D.data.toList, A)]) := Lib.hid (smallE_one (by rw [bytes_len]; exact hD) ha.1)
  have HT1 : Hid (∀ B W u (k : Nat), OwnN B W u (L.take k) → IsE W.heap.size W (L.take k) u) := Lib.hid (fun B W u k hu => ownN_isE hu (by have := HN.out; rw [List.length_take]; unfold maxLen; omega))
  have HT2 : Hid (∀ B W u (k : Nat), OwnN B W u (L.drop k) → IsE W.heap.size W (L.drop k) u) := Lib.hid (fun B W u k hu => ownN_isE hu (by have := HN.out; rw [List.length_drop]; unfold maxLen; omega))
  have HT3 : Hid (∀ B W u, OwnN B W u [(D.data.toList, A)] → IsE W.heap.size W [(D.data.toList, A)] u) := Lib.hid (fun B W u hu => ownN_isE hu (by unfold maxLen; simp))
  have HW4 := Lib.hid hW4
  clear hb4 hx4 hpl hI hW4 g0' g1'
  go_upto_region 5 with (fail)
  rw [← HW4.out]
  clear HW4
  cases la with
  | none =>
    obtain ⟨hn0, hl0⟩ : n = 0 ∧ lc = 0 := hcap'
    subst hn0 hl0
    by_cases hneg : I < 0
    · have t1 : decide (I < 0) = true := by simpa using hneg
      obtain ⟨m, hm⟩ : ∃ m, m = aboveK (keysE L) K.data.toList := ⟨_, rfl⟩
      have HFrom : Hid (fromK (keysE L) K.data.toList = m) := Lib.hid (by unfold fromK; rw [← HI.out, if_pos hneg, hm])
      have HTo : Hid (toK (keysE L) K.data.toList = m) := Lib.hid (by unfold toK; rw [← HI.out, if_pos hneg, hm])
      have hmn : m ≤ 0 := by have h1 := aboveK_le (keysE L) K.data.toList; rw [keysE_len] at h1; rw [hm, HN.out]; exact h1
      have HAb := Lib.hid (fun (W : World) (kv mv : Value) (hW : Below w.heap.size w W) (hmd : Made w3.heap.size W (.slice none 0 0) (keysE L) kv mv) => aboveX_any L HS.out w3.heap.size (.slice none 0 0) K W (.inr ⟨kv, mv, hmd⟩) (HIsE.out.below hW HB3.out.size))
      rw [← hm] at HAb
      clear hneg hm
      have hm0 : m = 0 := by omega
      subst hm0
      go_upto_region 10 with (first
        | (go_at_call 37; refine (HPl.out).mono ?_; rintro e w4 ⟨rfl, kv, mv, hmd, hg⟩; have HB4 := Lib.hid (HB3.out.trans ((below_idx HB4a.out hg (Nat.le_refl _)).mono HB3.out.size)); have HMd := Lib.hid hmd; have r0 := hg.cell v0 (fun e => by have := Option.some.inj e; simp at this; omega); have r1 := hg.cell v1 (fun e => by have := Option.some.inj e; simp at this; omega); clear hmd hg)
        | (go_at_call 40; refine (HAb.out _ _ _ HB4.out HMd.out).mono ?_; rintro e w5 ⟨rfl, kv5, mv5, hmd, hg⟩; have HB5 := Lib.hid (HB4.out.trans (below_ofGrown hg (by have := HB4.out.size; have := HMd.out.box.lt; omega) |>.mono (by have := HB3.out.size; omega))); have h0 := hg.cell r0 (fun e => by have := Option.some.inj e; simp at this; omega); have h1 := hg.cell r1 (fun e => by have := Option.some.inj e; simp at this; omega); have hs5 : w3.heap.size < w5.heap.size := hmd.box.lt; clear hmd hg))
      have HTk : Hid (∀ W, Below w.heap.size w W → IsE W.heap.size W (L.take 0) (.slice none 0 0)) := Lib.hid (fun W hW => by rw [List.length_eq_zero_iff.1 HN.out.symm, List.take_nil]; exact isE_nil _ _ _ _)
      have HDr : Hid (∀ W, Below w.heap.size w W → IsE W.heap.size W (L.drop (0)) (.slice none 0 0)) := Lib.hid (fun W hW => by rw [List.length_eq_zero_iff.1 HN.out.symm, List.drop_nil]; exact isE_nil _ _ _ _)
      have HRes : Hid ([L.take 0, [(D.data.toList, A)], L.drop (0)].flatten = L.take (fromK (keysE L) K.data.toList) ++ [(D.data.toList, A)] ++ L.drop (toK (keysE L) K.data.toList)) := Lib.hid (by rw [HFrom.out, HTo.out]; simp)
      have HLen : Hid (([L.take 0, [(D.data.toList, A)], L.drop (0)] : List (List ET)).flatten.length ≤ 100000) := Lib.hid (by have := HN.out; simp; omega)
      have hz5 : w.heap.size < w5.heap.size := by omega
      have HB5d := Lib.hid HB5.out.drew
      have HB5e : Hid (Below w.heap.size w (w5.alloc (.cells #[.string D, .slice ua un uc] 27)).drew) := Lib.hid ((HB5.out.alloc HB5.out.size _).drew)
      have HE5 : Hid (IsE (w5.alloc (.cells #[.string D, .slice ua un uc] 27)).drew.heap.size (w5.alloc (.cells #[.string D, .slice ua un uc] 27)).drew [(D.data.toList, A)] (.slice (some ⟨w5.heap.size, 0, none⟩) 1 1)) := Lib.hid (isE_one w5 D A _ (HUb.out _ HB5.out))
      have j0 : w5.drew.cell? ⟨w.heap.size, 0, none⟩ = some (.string D) := h0
      have j1 : w5.drew.cell? ⟨w.heap.size, 1, none⟩ = some (.slice ua un uc) := h1
      have tok1 : Hid ((0 : Nat) = 0) := Lib.hid rfl
      have tok2 : Hid ((1 : Nat) = 1) := Lib.hid rfl
      go_region_law (first
        | (go_simp; go_at_call 42; (have _t := tok1); clear tok1; ((with_reducible refine (HCp.out _ (smallE_take HS.out 0) _ w5.drew (HTk.out _ HB5d.out)).mono ?_); rintro e w6 ⟨u6, rfl, ho6, hb6⟩; have HB6 := Lib.hid (bthen HB5d.out hb6); have HI6 := Lib.hid (HT1.out _ _ _ _ ho6); have k0 : w6.cell? ⟨w.heap.size, 0, none⟩ = some (.string D) := (hb6.cell (p := ⟨w.heap.size, 0, none⟩) hz5).trans h0; have k1 : w6.cell? ⟨w.heap.size, 1, none⟩ = some (.slice ua un uc) := (hb6.cell (p := ⟨w.heap.size, 1, none⟩) hz5).trans h1; have HE6 := Lib.hid (isE_one w6 D A _ (HUb.out _ HB6.out)); have HBE6 : Hid (Below w.heap.size w (w6.alloc (.cells #[.string D, .slice ua un uc] 27))) := Lib.hid (HB6.out.alloc HB6.out.size _); have HI6a : Hid (IsE (w6.alloc (.cells #[.string D, .slice ua un uc] 27)).heap.size (w6.alloc (.cells #[.string D, .slice ua un uc] 27)) (L.take 0) u6) := Lib.hid (HI6.out.below ((Below.refl w6.heap.size w6).alloc (Nat.le_refl _) (.cells #[.string D, .slice ua un uc] 27)) (by simp)); (obtain ⟨xa, xc, hxe⟩ := ownE_slice ho6); (obtain ⟨xn, hxn⟩ : ∃ k, k = (L.take 0).length := ⟨_, rfl⟩); rw [← hxn] at hxe; clear ho6 hb6 hxn; subst hxe))
        | (go_simp; go_at_call 42; (have _t := tok1); clear tok1; ((with_reducible refine (HCp.out _ (smallE_take HS.out 0) _ (w5.alloc (.cells #[.string D, .slice ua un uc] 27)).drew (HTk.out _ HB5e.out)).mono ?_); rintro e w6 ⟨u6, rfl, ho6, hb6⟩; have HB6 := Lib.hid (bthen HB5e.out hb6); have HI6 := Lib.hid (HT1.out _ _ _ _ ho6); have HE6b := Lib.hid (HE5.out.below hb6 hb6.size); (obtain ⟨xa, xc, hxe⟩ := ownE_slice ho6); (obtain ⟨xn, hxn⟩ : ∃ k, k = (L.take 0).length := ⟨_, rfl⟩); rw [← hxn] at hxe; clear ho6 hb6 hxn; subst hxe))
        | (go_simp; go_at_call 42; (have _t := tok2); clear tok2; ((with_reducible refine (HCp.out _ HOne.out _ (w6.alloc (.cells #[.string D, .slice ua un uc] 27)) HE6.out).mono ?_); rintro e w7 ⟨u7, rfl, ho7, hb7⟩; have HB7 := Lib.hid (bthen HBE6.out hb7); have HI7 := Lib.hid (HT3.out _ _ _ ho7); have HI67 := Lib.hid (HI6a.out.below hb7 hb7.size); (obtain ⟨ya, yc, hye⟩ := ownE_slice ho7); (obtain ⟨yn, hyn⟩ : ∃ k, k = [(D.data.toList, A)].length := ⟨_, rfl⟩); rw [← hyn] at hye; clear ho7 hb7 hyn; subst hye))
        | (go_simp; go_at_call 42; (have _t := tok2); clear tok2; ((with_reducible refine (HCp.out _ HOne.out _ w6 HE6b.out).mono ?_); rintro e w7 ⟨u7, rfl, ho7, hb7⟩; have HB7 := Lib.hid (bthen HB6.out hb7); have HI7 := Lib.hid (HT3.out _ _ _ ho7); have HI67 := Lib.hid (HI6.out.below hb7 hb7.size); (obtain ⟨ya, yc, hye⟩ := ownE_slice ho7); (obtain ⟨yn, hyn⟩ : ∃ k, k = [(D.data.toList, A)].length := ⟨_, rfl⟩); rw [← hyn] at hye; clear ho7 hb7 hyn; subst hye))
        | (go_simp; go_at_call 42; ((with_reducible refine (HCp.out _ (smallE_drop HS.out (0)) _ w7 (HDr.out _ HB7.out)).mono ?_); rintro e w8 ⟨u8, rfl, ho8, hb8⟩; have HB8 := Lib.hid (bthen HB7.out hb8); have HI8 := Lib.hid (HT2.out _ _ _ _ ho8); have HI68 := Lib.hid (HI67.out.below hb8 hb8.size); have HI78 := Lib.hid (HI7.out.below hb8 hb8.size); (obtain ⟨za, zc, hze⟩ := ownE_slice ho8); (obtain ⟨zn, hzn⟩ : ∃ k, k = (L.drop (0)).length := ⟨_, rfl⟩); rw [← hzn] at hze; clear ho8 hb8 hzn; subst hze))
        | (go_simp; go_at_call 41; ((with_reducible refine (HCc.out _ HLen.out _ _ (isEE_three w8 _ _ _ _ _ _ HI68.out HI78.out HI8.out) (by simp)).mono ?_); rintro e w9 ⟨u9, rfl, hi9, hc9, hb9⟩; have HI9 := Lib.hid hi9; have HC9 := Lib.hid hc9; have HB9 := Lib.hid (bthen HB8.out (Below.trans ((Below.refl w8.heap.size w8).alloc (Nat.le_refl _) _) (hb9.mono (by simp)))); clear hi9 hc9 hb9)))
      all_goals
        go_wp2
        go_ret
        exact ⟨_, rfl, by have := HI9.out; rw [HRes.out] at this; first | exact this | simpa using this, HC9.out, HB9.out⟩
    · have t1 : decide (I < 0) = false := by simpa using hneg
      obtain ⟨i, hi⟩ : ∃ i : Nat, I = (i : Int) := ⟨I.toNat, by omega⟩
      have HFrom : Hid (fromK (keysE L) K.data.toList = i) := Lib.hid (by unfold fromK; rw [← HI.out, if_neg hneg, hi]; rfl)
      have HTo : Hid (toK (keysE L) K.data.toList = i + 1) := Lib.hid (by unfold toK; rw [← HI.out, if_neg hneg, hi]; rfl)
      have hin : i < 0 := by
        have h1 := findK_lt (HI.out.symm.trans hi)
        rw [keysE_len] at h1
        rw [HN.out]
        exact h1
      subst hi
      have ew : IntKind.i64.wrap ((i : Int) + 1) = (i : Int) + 1 := IntWalk.i64_in _ (by omega)
      clear hneg
      exact absurd hin (by omega)
  | some ad =>
    obtain ⟨b, off, sp⟩ := ad
    obtain ⟨hcap', hsp⟩ : n ≤ lc ∧ sp = none := hcap'
    subst hsp
    by_cases hneg : I < 0
    · have t1 : decide (I < 0) = true := by simpa using hneg
      obtain ⟨m, hm⟩ : ∃ m, m = aboveK (keysE L) K.data.toList := ⟨_, rfl⟩
      have HFrom : Hid (fromK (keysE L) K.data.toList = m) := Lib.hid (by unfold fromK; rw [← HI.out, if_pos hneg, hm])
      have HTo : Hid (toK (keysE L) K.data.toList = m) := Lib.hid (by unfold toK; rw [← HI.out, if_pos hneg, hm])
      have hmn : m ≤ n := by have h1 := aboveK_le (keysE L) K.data.toList; rw [keysE_len] at h1; rw [hm, HN.out]; exact h1
      have HAb := Lib.hid (fun (W : World) (kv mv : Value) (hW : Below w.heap.size w W) (hmd : Made w3.heap.size W (.slice (some ⟨b, off, none⟩) n lc) (keysE L) kv mv) => aboveX_any L HS.out w3.heap.size (.slice (some ⟨b, off, none⟩) n lc) K W (.inr ⟨kv, mv, hmd⟩) (HIsE.out.below hW HB3.out.size))
      rw [← hm] at HAb
      clear hneg hm
      go_upto_region 10 with (first
        | (go_at_call 37; refine (HPl.out).mono ?_; rintro e w4 ⟨rfl, kv, mv, hmd, hg⟩; have HB4 := Lib.hid (HB3.out.trans ((below_idx HB4a.out hg (Nat.le_refl _)).mono HB3.out.size)); have HMd := Lib.hid hmd; have r0 := hg.cell v0 (fun e => by have := Option.some.inj e; simp at this; omega); have r1 := hg.cell v1 (fun e => by have := Option.some.inj e; simp at this; omega); clear hmd hg)
        | (go_at_call 40; refine (HAb.out _ _ _ HB4.out HMd.out).mono ?_; rintro e w5 ⟨rfl, kv5, mv5, hmd, hg⟩; have HB5 := Lib.hid (HB4.out.trans (below_ofGrown hg (by have := HB4.out.size; have := HMd.out.box.lt; omega) |>.mono (by have := HB3.out.size; omega))); have h0 := hg.cell r0 (fun e => by have := Option.some.inj e; simp at this; omega); have h1 := hg.cell r1 (fun e => by have := Option.some.inj e; simp at this; omega); have hs5 : w3.heap.size < w5.heap.size := hmd.box.lt; clear hmd hg))
      have HTk : Hid (∀ W, Below w.heap.size w W → IsE W.heap.size W (L.take m) (.slice (some ⟨b, off, none⟩) m lc)) := Lib.hid (fun W hW => IsE.take (HIsE.out.below hW hW.size) m (by have := HN.out; omega) lc)
      obtain ⟨A2, hA2⟩ : ∃ A2 : Option Addr, (if lc = m then some (⟨b, off, none⟩ : Addr) else some ⟨b, off + (m) * 2, none⟩) = A2 := ⟨_, rfl⟩
      have HDr : Hid (∀ W, Below w.heap.size w W → IsE W.heap.size W (L.drop (m)) (.slice A2 (n - (m)) (lc - (m)))) := Lib.hid (fun W hW => by
        have hN := HN.out
        rw [← hA2]
        by_cases e : lc = m
        · have h0 : L.drop (m) = [] := List.drop_eq_nil_of_le (by omega)
          rw [h0, show n - (m) = 0 from by omega]
          exact isE_nil _ _ _ _
        · rw [if_neg e]
          have := IsE.drop (HIsE.out.below hW hW.size) (m) (by omega) (lc - (m))
          rw [← hN] at this
          exact this)
      have q1 : (m ≤ lc) = True := by simp; omega
      have q2 : (m ≤ n) = True := by simp; omega
      have q3 : (n ≤ lc) = True := by simp; omega
      have q4 : (0 : Int) ≤ (m : Int) := by omega
      have q5 : ((m : Int)).toNat = m := by omega
      have q6 : (0 ≤ (m : Int)) = True := by simp; try omega
      have q7 : ((m : Int) ≤ (n : Int)) = True := by simp; omega
      have HRes : Hid ([L.take m, [(D.data.toList, A)], L.drop (m)].flatten = L.take (fromK (keysE L) K.data.toList) ++ [(D.data.toList, A)] ++ L.drop (toK (keysE L) K.data.toList)) := Lib.hid (by rw [HFrom.out, HTo.out]; simp)
      have HLen : Hid (([L.take m, [(D.data.toList, A)], L.drop (m)] : List (List ET)).flatten.length ≤ 100000) := Lib.hid (by have := HN.out; simp; omega)
      have hz5 : w.heap.size < w5.heap.size := by omega
      have HB5d := Lib.hid HB5.out.drew
      have HB5e : Hid (Below w.heap.size w (w5.alloc (.cells #[.string D, .slice ua un uc] 27)).drew) := Lib.hid ((HB5.out.alloc HB5.out.size _).drew)
      have HE5 : Hid (IsE (w5.alloc (.cells #[.string D, .slice ua un uc] 27)).drew.heap.size (w5.alloc (.cells #[.string D, .slice ua un uc] 27)).drew [(D.data.toList, A)] (.slice (some ⟨w5.heap.size, 0, none⟩) 1 1)) := Lib.hid (isE_one w5 D A _ (HUb.out _ HB5.out))
      have j0 : w5.drew.cell? ⟨w.heap.size, 0, none⟩ = some (.string D) := h0
      have j1 : w5.drew.cell? ⟨w.heap.size, 1, none⟩ = some (.slice ua un uc) := h1
      have tok1 : Hid ((0 : Nat) = 0) := Lib.hid rfl
      have tok2 : Hid ((1 : Nat) = 1) := Lib.hid rfl
      go_region_law (first
        | (go_simp; go_at_call 42; (have _t := tok1); clear tok1; ((with_reducible refine (HCp.out _ (smallE_take HS.out m) _ w5.drew (HTk.out _ HB5d.out)).mono ?_); rintro e w6 ⟨u6, rfl, ho6, hb6⟩; have HB6 := Lib.hid (bthen HB5d.out hb6); have HI6 := Lib.hid (HT1.out _ _ _ _ ho6); have k0 : w6.cell? ⟨w.heap.size, 0, none⟩ = some (.string D) := (hb6.cell (p := ⟨w.heap.size, 0, none⟩) hz5).trans h0; have k1 : w6.cell? ⟨w.heap.size, 1, none⟩ = some (.slice ua un uc) := (hb6.cell (p := ⟨w.heap.size, 1, none⟩) hz5).trans h1; have HE6 := Lib.hid (isE_one w6 D A _ (HUb.out _ HB6.out)); have HBE6 : Hid (Below w.heap.size w (w6.alloc (.cells #[.string D, .slice ua un uc] 27))) := Lib.hid (HB6.out.alloc HB6.out.size _); have HI6a : Hid (IsE (w6.alloc (.cells #[.string D, .slice ua un uc] 27)).heap.size (w6.alloc (.cells #[.string D, .slice ua un uc] 27)) (L.take m) u6) := Lib.hid (HI6.out.below ((Below.refl w6.heap.size w6).alloc (Nat.le_refl _) (.cells #[.string D, .slice ua un uc] 27)) (by simp)); (obtain ⟨xa, xc, hxe⟩ := ownE_slice ho6); (obtain ⟨xn, hxn⟩ : ∃ k, k = (L.take m).length := ⟨_, rfl⟩); rw [← hxn] at hxe; clear ho6 hb6 hxn; subst hxe))
        | (go_simp; go_at_call 42; (have _t := tok1); clear tok1; ((with_reducible refine (HCp.out _ (smallE_take HS.out m) _ (w5.alloc (.cells #[.string D, .slice ua un uc] 27)).drew (HTk.out _ HB5e.out)).mono ?_); rintro e w6 ⟨u6, rfl, ho6, hb6⟩; have HB6 := Lib.hid (bthen HB5e.out hb6); have HI6 := Lib.hid (HT1.out _ _ _ _ ho6); have HE6b := Lib.hid (HE5.out.below hb6 hb6.size); (obtain ⟨xa, xc, hxe⟩ := ownE_slice ho6); (obtain ⟨xn, hxn⟩ : ∃ k, k = (L.take m).length := ⟨_, rfl⟩); rw [← hxn] at hxe; clear ho6 hb6 hxn; subst hxe))
        | (go_simp; go_at_call 42; (have _t := tok2); clear tok2; ((with_reducible refine (HCp.out _ HOne.out _ (w6.alloc (.cells #[.string D, .slice ua un uc] 27)) HE6.out).mono ?_); rintro e w7 ⟨u7, rfl, ho7, hb7⟩; have HB7 := Lib.hid (bthen HBE6.out hb7); have HI7 := Lib.hid (HT3.out _ _ _ ho7); have HI67 := Lib.hid (HI6a.out.below hb7 hb7.size); (obtain ⟨ya, yc, hye⟩ := ownE_slice ho7); (obtain ⟨yn, hyn⟩ : ∃ k, k = [(D.data.toList, A)].length := ⟨_, rfl⟩); rw [← hyn] at hye; clear ho7 hb7 hyn; subst hye))
        | (go_simp; go_at_call 42; (have _t := tok2); clear tok2; ((with_reducible refine (HCp.out _ HOne.out _ w6 HE6b.out).mono ?_); rintro e w7 ⟨u7, rfl, ho7, hb7⟩; have HB7 := Lib.hid (bthen HB6.out hb7); have HI7 := Lib.hid (HT3.out _ _ _ ho7); have HI67 := Lib.hid (HI6.out.below hb7 hb7.size); (obtain ⟨ya, yc, hye⟩ := ownE_slice ho7); (obtain ⟨yn, hyn⟩ : ∃ k, k = [(D.data.toList, A)].length := ⟨_, rfl⟩); rw [← hyn] at hye; clear ho7 hb7 hyn; subst hye))
        | (go_simp; go_at_call 42; ((with_reducible refine (HCp.out _ (smallE_drop HS.out (m)) _ w7 (HDr.out _ HB7.out)).mono ?_); rintro e w8 ⟨u8, rfl, ho8, hb8⟩; have HB8 := Lib.hid (bthen HB7.out hb8); have HI8 := Lib.hid (HT2.out _ _ _ _ ho8); have HI68 := Lib.hid (HI67.out.below hb8 hb8.size); have HI78 := Lib.hid (HI7.out.below hb8 hb8.size); (obtain ⟨za, zc, hze⟩ := ownE_slice ho8); (obtain ⟨zn, hzn⟩ : ∃ k, k = (L.drop (m)).length := ⟨_, rfl⟩); rw [← hzn] at hze; clear ho8 hb8 hzn; subst hze))
        | (go_simp; go_at_call 41; ((with_reducible refine (HCc.out _ HLen.out _ _ (isEE_three w8 _ _ _ _ _ _ HI68.out HI78.out HI8.out) (by simp)).mono ?_); rintro e w9 ⟨u9, rfl, hi9, hc9, hb9⟩; have HI9 := Lib.hid hi9; have HC9 := Lib.hid hc9; have HB9 := Lib.hid (bthen HB8.out (Below.trans ((Below.refl w8.heap.size w8).alloc (Nat.le_refl _) _) (hb9.mono (by simp)))); clear hi9 hc9 hb9)))
      all_goals
        go_wp2
        go_ret
        exact ⟨_, rfl, by have := HI9.out; rw [HRes.out] at this; first | exact this | simpa using this, HC9.out, HB9.out⟩
    · have t1 : decide (I < 0) = false := by simpa using hneg
      obtain ⟨i, hi⟩ : ∃ i : Nat, I = (i : Int) := ⟨I.toNat, by omega⟩
      have HFrom : Hid (fromK (keysE L) K.data.toList = i) := Lib.hid (by unfold fromK; rw [← HI.out, if_neg hneg, hi]; rfl)
      have HTo : Hid (toK (keysE L) K.data.toList = i + 1) := Lib.hid (by unfold toK; rw [← HI.out, if_neg hneg, hi]; rfl)
      have hin : i < n := by
        have h1 := findK_lt (HI.out.symm.trans hi)
        rw [keysE_len] at h1
        rw [HN.out]
        exact h1
      subst hi
      have ew : IntKind.i64.wrap ((i : Int) + 1) = (i : Int) + 1 := IntWalk.i64_in _ (by omega)
      clear hneg
      go_upto_region 10 with (go_at_call 37; refine (HPl.out).mono ?_; rintro e w5 ⟨rfl, kv, mv, hmd, hg⟩; have HB5 := Lib.hid (HB3.out.trans ((below_idx HB4a.out hg (Nat.le_refl _)).mono HB3.out.size)); have h0 := hg.cell v0 (fun e => by have := Option.some.inj e; simp at this; omega); have h1 := hg.cell v1 (fun e => by have := Option.some.inj e; simp at this; omega); have hs5 : w3.heap.size < w5.heap.size := hmd.box.lt; clear hmd hg)
      have HTk : Hid (∀ W, Below w.heap.size w W → IsE W.heap.size W (L.take i) (.slice (some ⟨b, off, none⟩) i lc)) := Lib.hid (fun W hW => IsE.take (HIsE.out.below hW hW.size) i (by have := HN.out; omega) lc)
      obtain ⟨A2, hA2⟩ : ∃ A2 : Option Addr, (if lc = i + 1 then some (⟨b, off, none⟩ : Addr) else some ⟨b, off + (i + 1) * 2, none⟩) = A2 := ⟨_, rfl⟩
      have HDr : Hid (∀ W, Below w.heap.size w W → IsE W.heap.size W (L.drop (i + 1)) (.slice A2 (n - (i + 1)) (lc - (i + 1)))) := Lib.hid (fun W hW => by
        have hN := HN.out
        rw [← hA2]
        by_cases e : lc = i + 1
        · have h0 : L.drop (i + 1) = [] := List.drop_eq_nil_of_le (by omega)
          rw [h0, show n - (i + 1) = 0 from by omega]
          exact isE_nil _ _ _ _
        · rw [if_neg e]
          have := IsE.drop (HIsE.out.below hW hW.size) (i + 1) (by omega) (lc - (i + 1))
          rw [← hN] at this
          exact this)
      have q1 : (i ≤ lc) = True := by simp; omega
      have q2 : (i + 1 ≤ n) = True := by simp; omega
      have q3 : (n ≤ lc) = True := by simp; omega
      have q4 : (0 : Int) ≤ (i : Int) := by omega
      have q5 : (((i : Int) + 1)).toNat = i + 1 := by omega
      have q6 : (0 ≤ ((i : Int) + 1)) = True := by simp; try omega
      have q7 : (((i : Int) + 1) ≤ (n : Int)) = True := by simp; omega
      have HRes : Hid ([L.take i, [(D.data.toList, A)], L.drop (i + 1)].flatten = L.take (fromK (keysE L) K.data.toList) ++ [(D.data.toList, A)] ++ L.drop (toK (keysE L) K.data.toList)) := Lib.hid (by rw [HFrom.out, HTo.out]; simp)
      have HLen : Hid (([L.take i, [(D.data.toList, A)], L.drop (i + 1)] : List (List ET)).flatten.length ≤ 100000) := Lib.hid (by have := HN.out; simp; omega)
      have hz5 : w.heap.size < w5.heap.size := by omega
      have HB5d := Lib.hid HB5.out.drew
      have HB5e : Hid (Below w.heap.size w (w5.alloc (.cells #[.string D, .slice ua un uc] 27)).drew) := Lib.hid ((HB5.out.alloc HB5.out.size _).drew)
      have HE5 : Hid (IsE (w5.alloc (.cells #[.string D, .slice ua un uc] 27)).drew.heap.size (w5.alloc (.cells #[.string D, .slice ua un uc] 27)).drew [(D.data.toList, A)] (.slice (some ⟨w5.heap.size, 0, none⟩) 1 1)) := Lib.hid (isE_one w5 D A _ (HUb.out _ HB5.out))
      have j0 : w5.drew.cell? ⟨w.heap.size, 0, none⟩ = some (.string D) := h0
      have j1 : w5.drew.cell? ⟨w.heap.size, 1, none⟩ = some (.slice ua un uc) := h1
      have tok1 : Hid ((0 : Nat) = 0) := Lib.hid rfl
      have tok2 : Hid ((1 : Nat) = 1) := Lib.hid rfl
      go_region_law (first
        | (go_simp; go_at_call 42; (have _t := tok1); clear tok1; ((with_reducible refine (HCp.out _ (smallE_take HS.out i) _ w5.drew (HTk.out _ HB5d.out)).mono ?_); rintro e w6 ⟨u6, rfl, ho6, hb6⟩; have HB6 := Lib.hid (bthen HB5d.out hb6); have HI6 := Lib.hid (HT1.out _ _ _ _ ho6); have k0 : w6.cell? ⟨w.heap.size, 0, none⟩ = some (.string D) := (hb6.cell (p := ⟨w.heap.size, 0, none⟩) hz5).trans h0; have k1 : w6.cell? ⟨w.heap.size, 1, none⟩ = some (.slice ua un uc) := (hb6.cell (p := ⟨w.heap.size, 1, none⟩) hz5).trans h1; have HE6 := Lib.hid (isE_one w6 D A _ (HUb.out _ HB6.out)); have HBE6 : Hid (Below w.heap.size w (w6.alloc (.cells #[.string D, .slice ua un uc] 27))) := Lib.hid (HB6.out.alloc HB6.out.size _); have HI6a : Hid (IsE (w6.alloc (.cells #[.string D, .slice ua un uc] 27)).heap.size (w6.alloc (.cells #[.string D, .slice ua un uc] 27)) (L.take i) u6) := Lib.hid (HI6.out.below ((Below.refl w6.heap.size w6).alloc (Nat.le_refl _) (.cells #[.string D, .slice ua un uc] 27)) (by simp)); (obtain ⟨xa, xc, hxe⟩ := ownE_slice ho6); (obtain ⟨xn, hxn⟩ : ∃ k, k = (L.take i).length := ⟨_, rfl⟩); rw [← hxn] at hxe; clear ho6 hb6 hxn; subst hxe))
        | (go_simp; go_at_call 42; (have _t := tok1); clear tok1; ((with_reducible refine (HCp.out _ (smallE_take HS.out i) _ (w5.alloc (.cells #[.string D, .slice ua un uc] 27)).drew (HTk.out _ HB5e.out)).mono ?_); rintro e w6 ⟨u6, rfl, ho6, hb6⟩; have HB6 := Lib.hid (bthen HB5e.out hb6); have HI6 := Lib.hid (HT1.out _ _ _ _ ho6); have HE6b := Lib.hid (HE5.out.below hb6 hb6.size); (obtain ⟨xa, xc, hxe⟩ := ownE_slice ho6); (obtain ⟨xn, hxn⟩ : ∃ k, k = (L.take i).length := ⟨_, rfl⟩); rw [← hxn] at hxe; clear ho6 hb6 hxn; subst hxe))
        | (go_simp; go_at_call 42; (have _t := tok2); clear tok2; ((with_reducible refine (HCp.out _ HOne.out _ (w6.alloc (.cells #[.string D, .slice ua un uc] 27)) HE6.out).mono ?_); rintro e w7 ⟨u7, rfl, ho7, hb7⟩; have HB7 := Lib.hid (bthen HBE6.out hb7); have HI7 := Lib.hid (HT3.out _ _ _ ho7); have HI67 := Lib.hid (HI6a.out.below hb7 hb7.size); (obtain ⟨ya, yc, hye⟩ := ownE_slice ho7); (obtain ⟨yn, hyn⟩ : ∃ k, k = [(D.data.toList, A)].length := ⟨_, rfl⟩); rw [← hyn] at hye; clear ho7 hb7 hyn; subst hye))
        | (go_simp; go_at_call 42; (have _t := tok2); clear tok2; ((with_reducible refine (HCp.out _ HOne.out _ w6 HE6b.out).mono ?_); rintro e w7 ⟨u7, rfl, ho7, hb7⟩; have HB7 := Lib.hid (bthen HB6.out hb7); have HI7 := Lib.hid (HT3.out _ _ _ ho7); have HI67 := Lib.hid (HI6.out.below hb7 hb7.size); (obtain ⟨ya, yc, hye⟩ := ownE_slice ho7); (obtain ⟨yn, hyn⟩ : ∃ k, k = [(D.data.toList, A)].length := ⟨_, rfl⟩); rw [← hyn] at hye; clear ho7 hb7 hyn; subst hye))
        | (go_simp; go_at_call 42; ((with_reducible refine (HCp.out _ (smallE_drop HS.out (i + 1)) _ w7 (HDr.out _ HB7.out)).mono ?_); rintro e w8 ⟨u8, rfl, ho8, hb8⟩; have HB8 := Lib.hid (bthen HB7.out hb8); have HI8 := Lib.hid (HT2.out _ _ _ _ ho8); have HI68 := Lib.hid (HI67.out.below hb8 hb8.size); have HI78 := Lib.hid (HI7.out.below hb8 hb8.size); (obtain ⟨za, zc, hze⟩ := ownE_slice ho8); (obtain ⟨zn, hzn⟩ : ∃ k, k = (L.drop (i + 1)).length := ⟨_, rfl⟩); rw [← hzn] at hze; clear ho8 hb8 hzn; subst hze))
        | (go_simp; go_at_call 41; ((with_reducible refine (HCc.out _ HLen.out _ _ (isEE_three w8 _ _ _ _ _ _ HI68.out HI78.out HI8.out) (by simp)).mono ?_); rintro e w9 ⟨u9, rfl, hi9, hc9, hb9⟩; have HI9 := Lib.hid hi9; have HC9 := Lib.hid hc9; have HB9 := Lib.hid (bthen HB8.out (Below.trans ((Below.refl w8.heap.size w8).alloc (Nat.le_refl _) _) (hb9.mono (by simp)))); clear hi9 hc9 hb9)))
      all_goals
        go_wp2
        go_ret
        exact ⟨_, rfl, by have := HI9.out; rw [HRes.out] at this; first | exact this | simpa using this, HC9.out, HB9.out⟩

end Go.Proofs.YtgaaefcanfglhaaGreatDoor


namespace Go.Proofs.YtgaaefcanfglhaaGreatDoor
set_option linter.unusedVariables false
set_option linter.unusedSimpArgs false

def putI (I : List Nat) (j : Nat) : List Nat := I.take (fromK (I.map nmE) (nmE j)) ++ [j] ++ I.drop (toK (I.map nmE) (nmE j))
def foldI (J : List Nat) : List Nat := J.foldl putI []
def ordI : List Nat := foldI (List.range 12)
def turnI (k t m : Nat) : List Nat := (List.range m).map (fun i => (i * k + t) % 12)
theorem foldI_snoc (J : List Nat) (j : Nat) : foldI (J ++ [j]) = putI (foldI J) j := by simp [foldI]
theorem turnI_succ (k t m : Nat) : turnI k t (m + 1) = turnI k t m ++ [(m * k + t) % 12] := by simp [turnI, List.range_succ]
theorem putI_lt {I : List Nat} {j : Nat} (h : ∀ i ∈ I, i < 12) (hj : j < 12) : ∀ i ∈ putI I j, i < 12 := by
  intro i hi
  unfold putI at hi
  simp only [List.mem_append, List.mem_singleton] at hi
  rcases hi with (hi | rfl) | hi
  · exact h i (List.mem_of_mem_take hi)
  · exact hj
  · exact h i (List.mem_of_mem_drop hi)
theorem putI_len (I : List Nat) (j : Nat) : (putI I j).length ≤ I.length + 1 := by
  have h := fromK_le (I.map nmE) (nmE j)
  unfold putI
  simp only [List.length_append, List.length_take, List.length_drop, List.length_singleton]
  rw [List.length_map] at h
  omega
theorem foldl_lt : ∀ (J I : List Nat), (∀ i ∈ I, i < 12) → (∀ j ∈ J, j < 12) → (∀ i ∈ J.foldl putI I, i < 12) ∧ (J.foldl putI I).length ≤ I.length + J.length
  | [], I, h, _ => ⟨h, by simp⟩
  | j :: J, I, h, hJ => by
    have ih := foldl_lt J (putI I j) (putI_lt h (hJ j (by simp))) (fun x hx => hJ x (by simp [hx]))
    refine ⟨ih.1, ?_⟩
    have := putI_len I j
    have h2 := ih.2
    simp only [List.foldl_cons, List.length_cons]
    omega
theorem foldI_lt {J : List Nat} (h : ∀ j ∈ J, j < 12) : (∀ i ∈ foldI J, i < 12) ∧ (foldI J).length ≤ J.length := by
  have := foldl_lt J [] (by simp) h
  simpa [foldI] using this
theorem range_lt {m : Nat} (hm : m ≤ 12) : ∀ j ∈ List.range m, j < 12 := fun j hj => by rw [List.mem_range] at hj; omega
theorem turn_lt (k t m : Nat) : ∀ j ∈ turnI k t m, j < 12 := fun j hj => by
  obtain ⟨i, _, rfl⟩ := List.mem_map.1 hj
  exact Nat.mod_lt _ (by decide)

def entL (n : Nat) (I : List Nat) : List ET := I.map (fun j => entE j n)
theorem keys_entL {n : Nat} {I : List Nat} (h : ∀ i ∈ I, i < 12) : keysE (entL n I) = I.map nmE := by
  unfold keysE entL
  rw [List.map_map]
  apply List.map_congr_left
  intro i hi
  show kE (entE i n) = nmE i
  rw [ent_key, Nat.mod_eq_of_lt (h i hi)]
theorem put_entL {n : Nat} {I : List Nat} {j : Nat} (h : ∀ i ∈ I, i < 12) (hj : j < 12) : putE (entL n I) (entE j n) = entL n (putI I j) := by
  unfold putE
  rw [keys_entL h, ent_key, Nat.mod_eq_of_lt hj]
  unfold putI entL
  rw [List.map_append, List.map_append, List.map_take, List.map_drop]
  rfl
theorem entL_fine {n : Nat} {I : List Nat} (hn : n < 256) (h : ∀ i ∈ I, i < 12) (hl : I.length ≤ 1000) : fineE (entL n I) := by
  have each : ∀ e ∈ entL n I, e.1.length ≤ 100000 ∧ fineA e.2 := fun e he => by
    obtain ⟨i, hi, rfl⟩ := List.mem_map.1 he
    have h2 := ent_small i n (by have := h i hi; omega) hn
    exact ⟨h2.1, h2.2.1⟩
  exact ⟨⟨by unfold entL; rw [List.length_map]; exact hl, fun e he => ⟨(each e he).1, (each e he).2.1⟩⟩, fun e he => (each e he).2⟩
theorem turn_mod (k t m : Nat) : turnI k t m = turnI k (t % 12) m := by
  unfold turnI
  apply List.map_congr_left
  intro i _
  omega
theorem turn_tab : ([1, 5, 7, 11].all fun k => (List.range 12).all fun t => foldI (turnI k t 12) == ordI) = true := by decide +kernel
theorem turn_all {k : Nat} (hk : k ∈ [1, 5, 7, 11]) (t : Nat) : foldI (turnI k t 12) = ordI := by
  have h := List.all_eq_true.1 (List.all_eq_true.1 turn_tab k hk) (t % 12) (by rw [List.mem_range]; exact Nat.mod_lt _ (by decide))
  rw [turn_mod]
  simpa using h
theorem ord_len : ordI.length = 12 := by decide +kernel
theorem ord_lt : ∀ i ∈ ordI, i < 12 := (foldI_lt (range_lt (Nat.le_refl _))).1
theorem ord_may {n : Nat} (hn : n < 256) : mayE (entL n ordI) = true := by
  unfold mayE
  rw [keys_entL ord_lt, show standsK (ordI.map nmE) = true from by decide +kernel]
  have h1 : (entL n ordI).all okE = true := List.all_eq_true.2 fun e he => by
    obtain ⟨i, hi, rfl⟩ := List.mem_map.1 he
    exact ent_ok i n (by have := ord_lt i hi; omega) hn
  rw [h1]
  simp [entL, ord_len]
theorem ord_rise_tab : ((List.range 11).all fun i => Op.bytesLess (nmE (ordI.getD i 0)) (nmE (ordI.getD (i + 1) 0))) = true := by decide +kernel
theorem ord_rise {i : Nat} (h : i < 11) : Op.bytesLess (nmE (ordI.getD i 0)) (nmE (ordI.getD (i + 1) 0)) = true := List.all_eq_true.1 ord_rise_tab i (by simpa using h)
end Go.Proofs.YtgaaefcanfglhaaGreatDoor


namespace Go.Proofs.YtgaaefcanfglhaaGreatDoor
open Go.RowKit
set_option linter.unusedVariables false

end Go.Proofs.YtgaaefcanfglhaaGreatDoor


namespace Go.Proofs.YtgaaefcanfglhaaGreatDoor
open Go.RowKit
set_option linter.unusedVariables false

def atK (KS : List KL) (k : KL) : Nat := (KS.findIdx? (fun x => !Op.bytesLess x k)).getD KS.length
def putD (L : List ET) (e : ET) : List ET :=
  L.take (atK (keysE L) (kE e)) ++ [e] ++ L.drop (if (keysE L)[atK (keysE L) (kE e)]? = some (kE e) then atK (keysE L) (kE e) + 1 else atK (keysE L) (kE e))
end Go.Proofs.YtgaaefcanfglhaaGreatDoor


namespace Go.Proofs.YtgaaefcanfglhaaGreatDoor
open Go.RowKit
set_option linter.unusedVariables false

end Go.Proofs.YtgaaefcanfglhaaGreatDoor


namespace Go.Proofs.YtgaaefcanfglhaaGreatDoor
set_option linter.unusedVariables false

def ns8 : List UInt8 := [0, 2, 0, 3, 0, 0]
def cn8 : List UInt8 := [99, 110, 61, 110, 48]
theorem awk_name : mkD ns8 = cn8 := by kernel_rfl
theorem awk_norm : isNE (mkD ns8, mkLd ns8) = true := by kernel_rfl
theorem awk_key : kE (mkD ns8, mkLd ns8) = cn8 := by kernel_rfl
theorem awk_put : putE [] (mkD ns8, mkLd ns8) = [(mkD ns8, mkLd ns8)] := by kernel_rfl
theorem awk_find : findK (keysE [(mkD ns8, mkLd ns8)]) cn8 = 0 := by kernel_rfl
theorem awk_may : mayE [(mkD ns8, mkLd ns8)] = true := by kernel_rfl
theorem awk_few : (mkLd ns8).length ≤ 20 := of_decide_eq_true (by kernel_rfl)
theorem awk_fine : fineA (mkLd ns8) := by
  have e : mkLd ns8 = mkLd ns8 := rfl
  have hd : decide ((mkLd ns8).length < 40 ∧ (mkLd ns8).all (fun a => decide (a.1.length ≤ 1000) && decide (a.2.length ≤ 1000) && a.2.all (fun s => decide (s.length ≤ 1000))) = true) = true := by kernel_rfl
  obtain ⟨h1, h2⟩ := of_decide_eq_true hd
  have each : ∀ a ∈ mkLd ns8, a.1.length ≤ 1000 ∧ a.2.length ≤ 1000 ∧ ∀ s ∈ a.2, s.length ≤ 1000 := fun a ha => by
    have := List.all_eq_true.1 h2 a ha
    simp only [Bool.and_eq_true, decide_eq_true_eq, List.all_eq_true] at this
    exact ⟨this.1.1, this.1.2, this.2⟩
  exact ⟨⟨by omega, fun a ha => by
    obtain ⟨k1, k2, k3⟩ := each a ha
    exact ⟨by omega, by omega, fun s hs => by have := k3 s hs; omega⟩⟩, h1, fun a ha => (each a ha).1⟩
end Go.Proofs.YtgaaefcanfglhaaGreatDoor


namespace Go.Proofs.YtgaaefcanfglhaaGreatDoor
set_option linter.unusedVariables false

end Go.Proofs.YtgaaefcanfglhaaGreatDoor


namespace Go.Proofs.YtgaaefcanfglhaaGreatDoor
open Go.RowKit
set_option linter.unusedVariables false

def nonA (L : List AT) : Prop := ∀ a ∈ L, a.2 ≠ []
theorem nonA.app {L M : List AT} (h : nonA L) (hm : nonA M) : nonA (L ++ M) := fun a ha => (List.mem_append.1 ha).elim (h a) (hm a)
end Go.Proofs.YtgaaefcanfglhaaGreatDoor

