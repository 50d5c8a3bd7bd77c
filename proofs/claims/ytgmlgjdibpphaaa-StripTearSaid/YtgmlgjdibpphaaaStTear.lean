/- StripTear: the walk. -/
import Derived.Test.YtgmlgjdibpphaaaStEdges
namespace Go.Proofs.Ytgmlgjdibpphaaa
open Go.RowKit
set_option linter.unusedVariables false
set_option linter.unusedSimpArgs false

/-- Ahead of the i-th change the strip that falls at the K-th one. -/
structure TrAt (B b g : Nat) (K i : Nat) (w : World) : Prop where
  ex : ∃ bl lo lv, StA B b g w ⟨bl, lo, (min (i - 1) K : Nat), (K : Int), decide (K ≤ i - 1)⟩ lv ∧ bl.length = 2 ∧ lo.length ≤ i
theorem TrAt.below {B b g K i : Nat} {w w' : World} (h : TrAt B b g K i w) (hb : Below w.heap.size w w') : TrAt B b g K i w' := by
  obtain ⟨bl, lo, lv, hs, hl, hlo⟩ := h.ex
  exact ⟨bl, lo, lv, hs.below hb, hl, hlo⟩
def codeT (K i : Nat) : Int := if K ≤ i then 8 else 0
theorem tr_sync {B b g K i : Nat} {w : World} (h : TrAt B b g K i w) (hB : B ≤ w.heap.size) (hK : 1 ≤ K) (hi : 1 ≤ i) (hi2 : i ≤ 10) : Calls Try.prog 15 #[.pointer (some ⟨b, 0, none⟩)] w fun e w' => e = .returned (.int .i64 (codeT K i)) ∧ TrAt B b g K (i + 1) w' ∧ Below B w w' := by
  obtain ⟨bl, lo, lv, hs, hl, hlo⟩ := h.ex
  by_cases h1 : K ≤ i - 1
  · have e1 : decide (K ≤ i - 1) = true := by simpa using h1
    have e2 : min (i - 1) K = K := by omega
    rw [e1, e2] at hs
    refine (sync_down hs).mono ?_
    rintro e w' ⟨rfl, rfl⟩
    refine ⟨by rw [codeT, if_pos (by omega)], ⟨bl, lo, lv, ?_, hl, by omega⟩, Below.refl _ _⟩
    have e3 : decide (K ≤ i + 1 - 1) = true := by simp; omega
    have e4 : min (i + 1 - 1) K = K := by omega
    rw [e3, e4]
    exact hs
  · have e1 : decide (K ≤ i - 1) = false := by simpa using h1
    have e2 : min (i - 1) K = i - 1 := by omega
    rw [e1, e2] at hs
    refine (sync_up hs hB (by omega) (by omega)).mono ?_
    rintro e w' ⟨lv', rfl, hs', ht⟩
    have hbl := ht.below hs.hb hs.hg hB
    have e5 : ((i - 1 : Nat) : Int) + 1 = (i : Int) := by omega
    rw [e5] at hs' ⊢
    have e4 : min (i + 1 - 1) K = i := by omega
    by_cases h2 : i = K
    · subst h2
      have e3 : decide (i ≤ i + 1 - 1) = true := by simp
      refine ⟨by rw [codeT, if_pos rfl, if_pos (Nat.le_refl _)], ⟨bl, lo, lv', ?_, hl, by omega⟩, hbl⟩
      rw [e3, e4]
      simpa using hs'
    · have e3 : decide (K ≤ i + 1 - 1) = false := by simp; omega
      have e6 : ¬ (i : Int) = (K : Int) := by omega
      refine ⟨by rw [codeT, if_neg e6, if_neg (by omega)], ⟨bl, [], lv', ?_, hl, by simp⟩, hbl⟩
      rw [e3, e4]
      have e7 : ((i : Int) == (K : Int)) = false := beq_eq_false_iff_ne.2 e6
      rw [if_neg e6, e7] at hs'
      exact hs'
theorem tr_write {B b g K i : Nat} {w : World} (h : TrAt B b g K i w) (hB : B ≤ w.heap.size) (hK : 1 ≤ K) (hi : 1 ≤ i) (hi2 : i ≤ 10) (p : Nat) (hp : p < 2) (s : ByteArray) (hs32 : s.size = 32) : Calls Try.prog 13 #[.pointer (some ⟨b, 0, none⟩), .int .i64 p, .string s] w fun e w' => e = .returned (.int .i64 (codeT K i)) ∧ TrAt B b g K (i + 1) w' ∧ Below B w w' := by
  obtain ⟨bl, lo, lv, hs, hl, hlo⟩ := h.ex
  by_cases h1 : K ≤ i - 1
  · have e1 : decide (K ≤ i - 1) = true := by simpa using h1
    have e2 : min (i - 1) K = K := by omega
    rw [e1, e2] at hs
    refine (write_down hs p s).mono ?_
    rintro e w' ⟨rfl, rfl⟩
    refine ⟨by rw [codeT, if_pos (by omega)], ⟨bl, lo, lv, ?_, hl, by omega⟩, Below.refl _ _⟩
    have e3 : decide (K ≤ i + 1 - 1) = true := by simp; omega
    have e4 : min (i + 1 - 1) K = K := by omega
    rw [e3, e4]
    exact hs
  · have e1 : decide (K ≤ i - 1) = false := by simpa using h1
    have e2 : min (i - 1) K = i - 1 := by omega
    rw [e1, e2] at hs
    have e5 : ((i - 1 : Nat) : Int) + 1 = (i : Int) := by omega
    have e4 : min (i + 1 - 1) K = i := by omega
    by_cases h2 : i = K
    · subst h2
      refine (write_crash hs hB (by omega) (by omega) e5 p (by omega) s hs32).mono ?_
      rintro e w' ⟨rfl, hs', ht⟩
      have hbl := ht.below hs.hb hs.hg hB
      rw [e5] at hs'
      have e3 : decide (i ≤ i + 1 - 1) = true := by simp
      refine ⟨by rw [codeT, if_pos (by omega)], ⟨bl, lo, lv, ?_, hl, by omega⟩, hbl⟩
      rw [e3, e4]
      exact hs'
    · refine (write_up hs hB (by omega) (by omega) (by omega) p (by omega) s hs32 (by omega)).mono ?_
      rintro e w' ⟨lv', rfl, hs', ht⟩
      have hbl := ht.below hs.hb hs.hg hB
      rw [e5] at hs'
      have e3 : decide (K ≤ i + 1 - 1) = false := by simp; omega
      refine ⟨by rw [codeT, if_neg (by omega)], ⟨bl.set p s.data.toList, lo ++ [(p, bl[p]'(by omega))], lv', ?_, by rw [List.length_set]; exact hl, ?_⟩, hbl⟩
      · rw [e3, e4]
        exact hs'
      · simp; omega
set_option maxRecDepth 100000 in
set_option maxHeartbeats 8000000 in
theorem stripTear_any (cr tr sy : Nat) (h1 : cr < 256) (h2 : tr < 256) (h3 : sy < 256) (w : World) : Calls Try.prog 5 #[.int .u8 (cr : Int), .int .u8 (tr : Int), .int .u8 (sy : Int)] w fun e w' => e = .returned (.bool true) ∧ Below w.heap.size w w' := by
  obtain ⟨kc, hkc⟩ : ∃ k, k = cr % 10 + 1 := ⟨_, rfl⟩
  obtain ⟨kt, hkt⟩ : ∃ k, k = tr % 10 + 1 := ⟨_, rfl⟩
  obtain ⟨ks, hks⟩ : ∃ k, k = sy % 10 + 1 := ⟨_, rfl⟩
  have wc1 : IntKind.i64.wrap (cr : Int) = (cr : Int) := IntWalk.i64_in _ (by omega)
  have wt1 : IntKind.i64.wrap (tr : Int) = (tr : Int) := IntWalk.i64_in _ (by omega)
  have ws1 : IntKind.i64.wrap (sy : Int) = (sy : Int) := IntWalk.i64_in _ (by omega)
  obtain ⟨xc, hxc⟩ : ∃ x : Int, x = Int.tmod (cr : Int) 10 := ⟨_, rfl⟩
  obtain ⟨xt, hxt⟩ : ∃ x : Int, x = Int.tmod (tr : Int) 10 := ⟨_, rfl⟩
  obtain ⟨xs, hxs⟩ : ∃ x : Int, x = Int.tmod (sy : Int) 10 := ⟨_, rfl⟩
  have e1 : 1 + xc = (kc : Int) := by rw [hxc, Int.tmod_eq_emod_of_nonneg (by omega)]; omega
  have e2 : 1 + xt = (kt : Int) := by rw [hxt, Int.tmod_eq_emod_of_nonneg (by omega)]; omega
  have e3 : 1 + xs = (ks : Int) := by rw [hxs, Int.tmod_eq_emod_of_nonneg (by omega)]; omega
  have y1 := hxc.symm
  have y2 := hxt.symm
  have y3 := hxs.symm
  have v1 : IntKind.i64.wrap (kc : Int) = (kc : Int) := IntWalk.i64_in _ (by omega)
  have v2 : IntKind.i64.wrap (kt : Int) = (kt : Int) := IntWalk.i64_in _ (by omega)
  have v3 : IntKind.i64.wrap (ks : Int) = (ks : Int) := IntWalk.i64_in _ (by omega)
  have HNew := Lib.hid (fun W => new_any 2 kc 0 0 W)
  rw [show nB 2 = 2 from by decide] at HNew
  have HNum := Lib.hid num_any
  have HBk := Lib.hid (fun (b : UInt8) W => block_any b W)
  have HRng := Lib.hid (show 1 ≤ kc ∧ kc ≤ 10 ∧ 1 ≤ kt ∧ kt ≤ 10 from by omega)
  -- what comes behind the choice of the change
  have main : ∀ (K b g : Nat) (W : World) (lv : Value), 1 ≤ K → K ≤ 10 → StA w.heap.size b g W ⟨List.replicate 2 zeroB, [], 0, K, false⟩ lv → TrAt w.heap.size b g K 1 W := fun K b g W lv hk1 hk2 hs => by
    refine ⟨List.replicate 2 zeroB, [], lv, ?_, rfl, by simp⟩
    have e3 : decide (K ≤ 1 - 1) = false := by simp; omega
    have e4 : min (1 - 1) K = 0 := by omega
    rw [e3, e4]
    exact hs
  have HMain := Lib.hid main
  clear hkc hkt hks hxc hxt hxs main
  by_cases ht : 127 < tr
  · have t1 : decide ((tr : Int) > 127) = true := by simp; omega
    have t1' : decide (127 < (tr : Int)) = true := by simp; omega
    have t1'' : decide (127 < tr) = true := by simpa using ht
    go_enter Try.func5, Try.ntmps5
    go_upto_region 8 with (first
      | (go_at_call 10; refine (HNew.out _).mono ?_; rintro e w1 ⟨b, g, rfl, hs1, hb1⟩; have HS1 := Lib.hid hs1; have HB1 := Lib.hid hb1; clear hs1 hb1)
      | (go_at_call 17; refine (tear_any HS1.out (kt : Int)).mono ?_; rintro e w2 ⟨rfl, hs2, ht2⟩; have HT2 := Lib.hid (HMain.out kt b g w2 _ HRng.out.2.2.1 HRng.out.2.2.2 hs2); have HB2 := Lib.hid (HB1.out.trans (ht2.below HS1.out.hb HS1.out.hg HB1.out.size)); clear hs2 ht2))
    have HK := Lib.hid HRng.out.2.2.1
    obtain ⟨K, hK⟩ : ∃ K, K = kt := ⟨_, rfl⟩
    rw [← hK] at HT2 HK ⊢
    have HRn : Hid (K ≤ 10) := Lib.hid (by rw [hK]; exact HRng.out.2.2.2)
    clear HMain HNew hK
    go_wp2
    go_loopw [9] (fun i wr => ∃ m : Nat, 1 ≤ m ∧ m ≤ 11 ∧ i = .int .i64 m ∧ Hid (TrAt w.heap.size b g K m wr) ∧ Hid (Below w.heap.size w wr)) (fun i wr => 11 - (intOf i).toNat)
    case atStart => exact ⟨1, by omega, by omega, rfl, HT2, HB2⟩
    case round =>
      obtain ⟨m, hm1, hm2, rfl, HT, HB⟩ := hrel
      rename World => wr
      by_cases hlt : m ≤ 10
      · have s1 : decide ((m : Int) ≤ 10) = true := by simp; omega
        have s1' : decide (m ≤ 10) = true := by simpa using hlt
        have HBm := Lib.hid HB.out.size
        obtain ⟨C, hC⟩ : ∃ C, C = codeT K m := ⟨_, rfl⟩
        have hC8 : (C == 8) = decide (K ≤ m) := by
          rw [hC]; unfold codeT
          by_cases h : K ≤ m
          · rw [if_pos h]; simp [h]
          · rw [if_neg h]; simp [h]
        have hC0 : (C != 0 && C != 8) = false := by
          rw [hC]; unfold codeT
          by_cases h : K ≤ m
          · rw [if_pos h]; rfl
          · rw [if_neg h]; rfl
        have hge : decide ((m : Int) ≥ (K : Int)) = decide (K ≤ m) := by simp
        have hge' : decide ((K : Int) ≤ (m : Int)) = decide (K ≤ m) := by simp
        have hbb : (decide (K ≤ m) != decide (K ≤ m)) = false := by simp
        have hHn : ∀ wz, TrAt w.heap.size b g K (m + 1) wz → Below w.heap.size w wz → True := fun _ _ _ => trivial
        have HSy := Lib.hid (tr_sync HT.out HBm.out HK.out hm1 hlt)
        rw [← hC] at HSy
        have w8 : IntKind.u8.wrap (m : Int) = (m : Int) := by
          have : IntKind.u8.wrap (m : Int) = (m : Int) % 256 := rfl
          rw [this]; omega
        have hu8 : ((UInt8.ofNat m).toNat : Int) = (m : Int) := by rw [UInt8.toNat_ofNat']; omega
        obtain ⟨p, hp⟩ : ∃ p, p = m % 2 := ⟨_, rfl⟩
        have hp2 : Int.tmod (m : Int) 2 = (p : Int) := by rw [Int.tmod_eq_emod_of_nonneg (by omega)]; omega
        have hm9 : IntKind.i64.wrap ((m : Int) + 1) = (m : Int) + 1 := IntWalk.i64_in _ (by omega)
        have HWr := Lib.hid (fun (W : World) (h : TrAt w.heap.size b g K m W) (hB : w.heap.size ≤ W.heap.size) (s : ByteArray) (hs : s.size = 32) => tr_write h hB HK.out hm1 hlt p (by omega) s hs)
        simp only [← hC] at HWr
        have HBk2 := Lib.hid (fun W => HBk.out (UInt8.ofNat m) W)
        rw [hu8] at HBk2
        obtain ⟨sb, hsb⟩ : ∃ s : ByteArray, s = ⟨(blockB (UInt8.ofNat m)).toArray⟩ := ⟨_, rfl⟩
        have HSb := Lib.hid (show sb.size = 32 from by rw [← bytes_len, hsb]; exact blockB_len _)
        rw [← hsb] at HBk2
        have HC8 := Lib.hid hC8
        have HC0 := Lib.hid hC0
        clear hHn hp hC hu8 hsb hC8 hC0
        by_cases hsy : m = ks
        · subst hsy
          have r1 : decide ((m : Int) = (m : Int)) = true := by simp
          have r2 : ((m : Int) == (m : Int)) = true := by simp
          have hC8 := HC8.out
          cases hkm : decide (K ≤ m)
          · rw [hkm] at hC8 hge hge' hbb
            have hc9 : (C != 0) = false := by
              have := HC0.out
              rw [show (C != 8) = true from by simp only [bne, hC8]; rfl, Bool.and_true] at this
              exact this
            go_wp2_with (first
              | (go_at_call 15; refine HSy.out.mono ?_; rintro e w3 ⟨rfl, ht3, hb3⟩; have HT3 := Lib.hid ht3; have HB3 := Lib.hid (HB.out.trans hb3); clear ht3 hb3)
              | (go_at_call 12; refine (HNum.out _ _).mono ?_; rintro e w7 ⟨rfl, hw⟩; replace hw := hw.symm; subst hw))
            go_roundw
            case rel => exact ⟨m + 1, by omega, by omega, by go_num, HT3, HB3⟩
            case measure => simp [intOf]; omega
          · rw [hkm] at hC8 hge hge' hbb
            obtain rfl : C = 8 := by simpa using hC8
            go_wp2_with (first
              | (go_at_call 15; refine HSy.out.mono ?_; rintro e w3 ⟨rfl, ht3, hb3⟩; have HT3 := Lib.hid ht3; have HB3 := Lib.hid (HB.out.trans hb3); clear ht3 hb3)
              | (go_at_call 12; refine (HNum.out _ _).mono ?_; rintro e w7 ⟨rfl, hw⟩; replace hw := hw.symm; subst hw))
            go_roundw
            case rel => exact ⟨m + 1, by omega, by omega, by go_num, HT3, HB3⟩
            case measure => simp [intOf]; omega
        · have r1 : decide ((m : Int) = (ks : Int)) = false := decide_eq_false (by omega)
          have r2 : ((m : Int) == (ks : Int)) = false := beq_eq_false_iff_ne.2 (by omega)
          have hC8 := HC8.out
          cases hkm : decide (K ≤ m)
          · rw [hkm] at hC8 hge hge' hbb
            have hc9 : (C != 0) = false := by
              have := HC0.out
              rw [show (C != 8) = true from by simp only [bne, hC8]; rfl, Bool.and_true] at this
              exact this
            go_wp2_with (first
              | (go_at_call 26; refine (HBk2.out _).mono ?_; rintro e w2 ⟨rfl, hb2⟩; have HT2 := Lib.hid (HT.out.below hb2); have HBB2 := Lib.hid (bthenS HB.out hb2); clear hb2)
              | (go_at_call 13; refine (HWr.out _ HT2.out HBB2.out.size sb HSb.out).mono ?_; rintro e w3 ⟨rfl, ht3, hb3⟩; have HT3 := Lib.hid ht3; have HB3 := Lib.hid (HBB2.out.trans hb3); clear ht3 hb3)
              | (go_at_call 12; refine (HNum.out _ _).mono ?_; rintro e w7 ⟨rfl, hw⟩; replace hw := hw.symm; subst hw))
            go_roundw
            case rel => exact ⟨m + 1, by omega, by omega, by go_num, HT3, HB3⟩
            case measure => simp [intOf]; omega
          · rw [hkm] at hC8 hge hge' hbb
            obtain rfl : C = 8 := by simpa using hC8
            go_wp2_with (first
              | (go_at_call 26; refine (HBk2.out _).mono ?_; rintro e w2 ⟨rfl, hb2⟩; have HT2 := Lib.hid (HT.out.below hb2); have HBB2 := Lib.hid (bthenS HB.out hb2); clear hb2)
              | (go_at_call 13; refine (HWr.out _ HT2.out HBB2.out.size sb HSb.out).mono ?_; rintro e w3 ⟨rfl, ht3, hb3⟩; have HT3 := Lib.hid ht3; have HB3 := Lib.hid (HBB2.out.trans hb3); clear ht3 hb3)
              | (go_at_call 12; refine (HNum.out _ _).mono ?_; rintro e w7 ⟨rfl, hw⟩; replace hw := hw.symm; subst hw))
            go_roundw
            case rel => exact ⟨m + 1, by omega, by omega, by go_num, HT3, HB3⟩
            case measure => simp [intOf]; omega
      · obtain rfl : m = 11 := by omega
        have s1 : decide ((11 : Int) ≤ 10) = false := by simp
        obtain ⟨bl, lo, lv, hs, hl, _⟩ := HT.out.ex
        have hk10 : K ≤ 10 := HRn.out
        rw [show decide (K ≤ 11 - 1) = true from by simp; omega] at hs
        have hBw := HB.out.size
        have HRd := Lib.hid (read_down hs 0)
        have HFa := Lib.hid (fall_any hs hBw 0 0 0 0)
        have hfl : (fallB bl lo (kOf 0 lo.length) (tOf 0)).length = 2 := by rw [fallB_len]; exact hl
        have HG := Lib.hid (And.intro hs.hb (And.intro hs.hg hBw))
        obtain ⟨fb, hfb⟩ : ∃ f, f = fallB bl lo (kOf 0 lo.length) (tOf 0) := ⟨_, rfl⟩
        rw [← hfb] at HFa hfl
        obtain ⟨x0, hx0⟩ : ∃ x, fb[0]? = some x := ⟨fb[0]'(by omega), List.getElem?_eq_getElem _⟩
        have HX0 := Lib.hid hx0
        clear hs hl hk10 hBw hfl hfb hx0
        go_wp2_with (first
          | (go_at_call 19; refine HFa.out.mono ?_; rintro e w3 ⟨rfl, hs3, ht3⟩; have HS3 := Lib.hid hs3; have HB3 := Lib.hid (HB.out.trans (ht3.below HG.out.1 HG.out.2.1 HG.out.2.2)); clear hs3 ht3)
          | (go_at_call 24; refine HRd.out.mono ?_; rintro e w7 ⟨rfl, hw⟩; replace hw := hw.symm; subst hw)
          | (go_at_call 24; refine (read_in HS3.out 0 x0 HX0.out).mono ?_; rintro e w7 ⟨rfl, hw⟩; replace hw := hw.symm; subst hw)
          | (go_at_call 21; refine (down_any HS3.out).mono ?_; rintro e w7 ⟨rfl, hw⟩; replace hw := hw.symm; subst hw)
          | (go_at_call 12; refine (HNum.out _ _).mono ?_; rintro e w7 ⟨rfl, hw⟩; replace hw := hw.symm; subst hw)
          | (go_at_call 9; refine (awake16_any _).mono ?_; rintro e w9 ⟨rfl, hb9⟩; have HB9 := Lib.hid (bthenS HB3.out hb9); clear hb9))
        go_ret
        exact ⟨rfl, HB9.out⟩
  · have t1 : decide ((tr : Int) > 127) = false := by simp; omega
    have t1' : decide (127 < (tr : Int)) = false := by simp; omega
    have t1'' : decide (127 < tr) = false := by simpa using ht
    go_enter Try.func5, Try.ntmps5
    go_upto_region 8 with (first
      | (go_at_call 10; refine (HNew.out _).mono ?_; rintro e w1 ⟨b, g, rfl, hs1, hb1⟩; have HT2 := Lib.hid (HMain.out kc b g w1 _ HRng.out.1 HRng.out.2.1 hs1); have HB2 := Lib.hid hb1; clear hs1 hb1))
    have HK := Lib.hid HRng.out.1
    obtain ⟨K, hK⟩ : ∃ K, K = kc := ⟨_, rfl⟩
    rw [← hK] at HT2 HK ⊢
    have HRn : Hid (K ≤ 10) := Lib.hid (by rw [hK]; exact HRng.out.2.1)
    clear HMain HNew hK
    go_wp2
    go_loopw [9] (fun i wr => ∃ m : Nat, 1 ≤ m ∧ m ≤ 11 ∧ i = .int .i64 m ∧ Hid (TrAt w.heap.size b g K m wr) ∧ Hid (Below w.heap.size w wr)) (fun i wr => 11 - (intOf i).toNat)
    case atStart => exact ⟨1, by omega, by omega, rfl, HT2, HB2⟩
    case round =>
      obtain ⟨m, hm1, hm2, rfl, HT, HB⟩ := hrel
      rename World => wr
      by_cases hlt : m ≤ 10
      · have s1 : decide ((m : Int) ≤ 10) = true := by simp; omega
        have s1' : decide (m ≤ 10) = true := by simpa using hlt
        have HBm := Lib.hid HB.out.size
        obtain ⟨C, hC⟩ : ∃ C, C = codeT K m := ⟨_, rfl⟩
        have hC8 : (C == 8) = decide (K ≤ m) := by
          rw [hC]; unfold codeT
          by_cases h : K ≤ m
          · rw [if_pos h]; simp [h]
          · rw [if_neg h]; simp [h]
        have hC0 : (C != 0 && C != 8) = false := by
          rw [hC]; unfold codeT
          by_cases h : K ≤ m
          · rw [if_pos h]; rfl
          · rw [if_neg h]; rfl
        have hge : decide ((m : Int) ≥ (K : Int)) = decide (K ≤ m) := by simp
        have hge' : decide ((K : Int) ≤ (m : Int)) = decide (K ≤ m) := by simp
        have hbb : (decide (K ≤ m) != decide (K ≤ m)) = false := by simp
        have hHn : ∀ wz, TrAt w.heap.size b g K (m + 1) wz → Below w.heap.size w wz → True := fun _ _ _ => trivial
        have HSy := Lib.hid (tr_sync HT.out HBm.out HK.out hm1 hlt)
        rw [← hC] at HSy
        have w8 : IntKind.u8.wrap (m : Int) = (m : Int) := by
          have : IntKind.u8.wrap (m : Int) = (m : Int) % 256 := rfl
          rw [this]; omega
        have hu8 : ((UInt8.ofNat m).toNat : Int) = (m : Int) := by rw [UInt8.toNat_ofNat']; omega
        obtain ⟨p, hp⟩ : ∃ p, p = m % 2 := ⟨_, rfl⟩
        have hp2 : Int.tmod (m : Int) 2 = (p : Int) := by rw [Int.tmod_eq_emod_of_nonneg (by omega)]; omega
        have hm9 : IntKind.i64.wrap ((m : Int) + 1) = (m : Int) + 1 := IntWalk.i64_in _ (by omega)
        have HWr := Lib.hid (fun (W : World) (h : TrAt w.heap.size b g K m W) (hB : w.heap.size ≤ W.heap.size) (s : ByteArray) (hs : s.size = 32) => tr_write h hB HK.out hm1 hlt p (by omega) s hs)
        simp only [← hC] at HWr
        have HBk2 := Lib.hid (fun W => HBk.out (UInt8.ofNat m) W)
        rw [hu8] at HBk2
        obtain ⟨sb, hsb⟩ : ∃ s : ByteArray, s = ⟨(blockB (UInt8.ofNat m)).toArray⟩ := ⟨_, rfl⟩
        have HSb := Lib.hid (show sb.size = 32 from by rw [← bytes_len, hsb]; exact blockB_len _)
        rw [← hsb] at HBk2
        have HC8 := Lib.hid hC8
        have HC0 := Lib.hid hC0
        clear hHn hp hC hu8 hsb hC8 hC0
        by_cases hsy : m = ks
        · subst hsy
          have r1 : decide ((m : Int) = (m : Int)) = true := by simp
          have r2 : ((m : Int) == (m : Int)) = true := by simp
          have hC8 := HC8.out
          cases hkm : decide (K ≤ m)
          · rw [hkm] at hC8 hge hge' hbb
            have hc9 : (C != 0) = false := by
              have := HC0.out
              rw [show (C != 8) = true from by simp only [bne, hC8]; rfl, Bool.and_true] at this
              exact this
            go_wp2_with (first
              | (go_at_call 15; refine HSy.out.mono ?_; rintro e w3 ⟨rfl, ht3, hb3⟩; have HT3 := Lib.hid ht3; have HB3 := Lib.hid (HB.out.trans hb3); clear ht3 hb3)
              | (go_at_call 12; refine (HNum.out _ _).mono ?_; rintro e w7 ⟨rfl, hw⟩; replace hw := hw.symm; subst hw))
            go_roundw
            case rel => exact ⟨m + 1, by omega, by omega, by go_num, HT3, HB3⟩
            case measure => simp [intOf]; omega
          · rw [hkm] at hC8 hge hge' hbb
            obtain rfl : C = 8 := by simpa using hC8
            go_wp2_with (first
              | (go_at_call 15; refine HSy.out.mono ?_; rintro e w3 ⟨rfl, ht3, hb3⟩; have HT3 := Lib.hid ht3; have HB3 := Lib.hid (HB.out.trans hb3); clear ht3 hb3)
              | (go_at_call 12; refine (HNum.out _ _).mono ?_; rintro e w7 ⟨rfl, hw⟩; replace hw := hw.symm; subst hw))
            go_roundw
            case rel => exact ⟨m + 1, by omega, by omega, by go_num, HT3, HB3⟩
            case measure => simp [intOf]; omega
        · have r1 : decide ((m : Int) = (ks : Int)) = false := decide_eq_false (by omega)
          have r2 : ((m : Int) == (ks : Int)) = false := beq_eq_false_iff_ne.2 (by omega)
          have hC8 := HC8.out
          cases hkm : decide (K ≤ m)
          · rw [hkm] at hC8 hge hge' hbb
            have hc9 : (C != 0) = false := by
              have := HC0.out
              rw [show (C != 8) = true from by simp only [bne, hC8]; rfl, Bool.and_true] at this
              exact this
            go_wp2_with (first
              | (go_at_call 26; refine (HBk2.out _).mono ?_; rintro e w2 ⟨rfl, hb2⟩; have HT2 := Lib.hid (HT.out.below hb2); have HBB2 := Lib.hid (bthenS HB.out hb2); clear hb2)
              | (go_at_call 13; refine (HWr.out _ HT2.out HBB2.out.size sb HSb.out).mono ?_; rintro e w3 ⟨rfl, ht3, hb3⟩; have HT3 := Lib.hid ht3; have HB3 := Lib.hid (HBB2.out.trans hb3); clear ht3 hb3)
              | (go_at_call 12; refine (HNum.out _ _).mono ?_; rintro e w7 ⟨rfl, hw⟩; replace hw := hw.symm; subst hw))
            go_roundw
            case rel => exact ⟨m + 1, by omega, by omega, by go_num, HT3, HB3⟩
            case measure => simp [intOf]; omega
          · rw [hkm] at hC8 hge hge' hbb
            obtain rfl : C = 8 := by simpa using hC8
            go_wp2_with (first
              | (go_at_call 26; refine (HBk2.out _).mono ?_; rintro e w2 ⟨rfl, hb2⟩; have HT2 := Lib.hid (HT.out.below hb2); have HBB2 := Lib.hid (bthenS HB.out hb2); clear hb2)
              | (go_at_call 13; refine (HWr.out _ HT2.out HBB2.out.size sb HSb.out).mono ?_; rintro e w3 ⟨rfl, ht3, hb3⟩; have HT3 := Lib.hid ht3; have HB3 := Lib.hid (HBB2.out.trans hb3); clear ht3 hb3)
              | (go_at_call 12; refine (HNum.out _ _).mono ?_; rintro e w7 ⟨rfl, hw⟩; replace hw := hw.symm; subst hw))
            go_roundw
            case rel => exact ⟨m + 1, by omega, by omega, by go_num, HT3, HB3⟩
            case measure => simp [intOf]; omega
      · obtain rfl : m = 11 := by omega
        have s1 : decide ((11 : Int) ≤ 10) = false := by simp
        obtain ⟨bl, lo, lv, hs, hl, _⟩ := HT.out.ex
        have hk10 : K ≤ 10 := HRn.out
        rw [show decide (K ≤ 11 - 1) = true from by simp; omega] at hs
        have hBw := HB.out.size
        have HRd := Lib.hid (read_down hs 0)
        have HFa := Lib.hid (fall_any hs hBw 0 0 0 0)
        have hfl : (fallB bl lo (kOf 0 lo.length) (tOf 0)).length = 2 := by rw [fallB_len]; exact hl
        have HG := Lib.hid (And.intro hs.hb (And.intro hs.hg hBw))
        obtain ⟨fb, hfb⟩ : ∃ f, f = fallB bl lo (kOf 0 lo.length) (tOf 0) := ⟨_, rfl⟩
        rw [← hfb] at HFa hfl
        obtain ⟨x0, hx0⟩ : ∃ x, fb[0]? = some x := ⟨fb[0]'(by omega), List.getElem?_eq_getElem _⟩
        have HX0 := Lib.hid hx0
        clear hs hl hk10 hBw hfl hfb hx0
        go_wp2_with (first
          | (go_at_call 19; refine HFa.out.mono ?_; rintro e w3 ⟨rfl, hs3, ht3⟩; have HS3 := Lib.hid hs3; have HB3 := Lib.hid (HB.out.trans (ht3.below HG.out.1 HG.out.2.1 HG.out.2.2)); clear hs3 ht3)
          | (go_at_call 24; refine HRd.out.mono ?_; rintro e w7 ⟨rfl, hw⟩; replace hw := hw.symm; subst hw)
          | (go_at_call 24; refine (read_in HS3.out 0 x0 HX0.out).mono ?_; rintro e w7 ⟨rfl, hw⟩; replace hw := hw.symm; subst hw)
          | (go_at_call 21; refine (down_any HS3.out).mono ?_; rintro e w7 ⟨rfl, hw⟩; replace hw := hw.symm; subst hw)
          | (go_at_call 12; refine (HNum.out _ _).mono ?_; rintro e w7 ⟨rfl, hw⟩; replace hw := hw.symm; subst hw)
          | (go_at_call 9; refine (awake16_any _).mono ?_; rintro e w9 ⟨rfl, hb9⟩; have HB9 := Lib.hid (bthenS HB3.out hb9); clear hb9))
        go_ret
        exact ⟨rfl, HB9.out⟩
end Go.Proofs.Ytgmlgjdibpphaaa
