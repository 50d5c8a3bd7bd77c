/- Several texts in one file: FiBack, Arg, FiArgC. -/
import Derived.Test.YtdcfmgnpjmpboaaDoorBackP5
import Derived.Test.YtdcfmgnpjmpboaaDoorFiXor
import Derived.Test.YtdcfmgnpjmpboaaDoorDnTextW
import Derived.OpenShut
import Derived.Carry
import Derived.ChangeSlices
import Derived.Deep.Strs
import Derived.Deep.SlicePairs
import Derived.Test.YtdcfmgnpjmpboaaDoorBackP3
/- brooklaw6.FilterBack: the walk. -/
namespace Go.Proofs.YtdcfmgnpjmpboaaDoor
open Go.RowKit
set_option linter.unusedVariables false
set_option linter.unusedSimpArgs false

/-- A filter in a box, from a world on. -/
def FlFrom (W0 : World) (b : Nat) (x0 x1 x2 x3 x4 : Value) (f : FT) : Prop := FlAt W0 b x0 x1 x2 x3 x4 ∧ IsFl (Lt W0) W0 f (.agg #[x0, x1, x2, x3, x4])
theorem FlFrom.go {W0 W : World} {b : Nat} {x0 x1 x2 x3 x4 : Value} {f : FT} (h : FlFrom W0 b x0 x1 x2 x3 x4 f) (hb : Below W0.heap.size W0 W) : FlFrom W b x0 x1 x2 x3 x4 f := ⟨fl_below h.1 hb (fl_lt h.1), h.2.below hb⟩
theorem flFrom_new {B : Nat} {w : World} {f : FT} {x0 x1 x2 x3 x4 : Value} (h : IsFl (fun k => B ≤ k ∧ k < w.heap.size) w f (.agg #[x0, x1, x2, x3, x4])) :
    FlFrom (w.alloc (.cells #[x0, x1, x2, x3, x4] 25)) w.heap.size x0 x1 x2 x3 x4 f :=
  ⟨heap_alloc_new w _, ((h.imp (fun b hb => hb.2) (fun _ _ _ => rfl) : IsFl (Lt w) w f _).below (box5 w x0 x1 x2 x3 x4))⟩

theorem low_cell {w wr : World} {s : ByteArray} (h : LowAt w s 0 wr) (k : Nat) (hk : k < s.size) : wr.cell? ⟨w.heap.size, k, none⟩ = some (.int .u8 (s[k].toNat : Int)) ∧ wr.frozen? ⟨w.heap.size, k, none⟩ = false := by
  obtain ⟨_, A, hA, hs, hc⟩ := h
  have := hc k hk
  rw [if_neg (by omega)] at this
  refine ⟨by simp only [World.cell?, hA]; simpa using this, by simp only [World.frozen?, hA]; simp; omega⟩

set_option maxRecDepth 100000 in
set_option maxHeartbeats 8000000 in
theorem backFl_any (ns : List UInt8) (a : Option Addr) (cap : Nat) (S : ByteArray) (n d : Nat) (w : World) (hC : IsC w.heap.size w ns a cap) (hS : S.size ≤ 9223372036854775807) (hn : n < 65536) (hd : d < 256) :
    Calls Tryd.prog 4 #[.slice a ns.length cap, .string S, .int .u16 n, .int .u8 d] w fun e w' => e = .returned (.bool true) ∧ Below w.heap.size w w' := by
  have HAw := Lib.hid (fun W => awakeFl_any W)
  have hlen : ns.length ≤ 9223372036854775807 := by have h1 := hC.1; have h2 := hC.2.1; unfold maxLen at h2; omega
  by_cases h1 : 12 < ns.length
  · have t1 : decide ((12 : Int) < (ns.length : Int)) = true := by simp; omega
    have t1' : decide (12 < ns.length) = true := by simp; omega
    clear hC
    go_enter Tryd.func4, Tryd.ntmps4
    go_wp2_with (go_at_call 9; refine (HAw.out _).mono ?_; rintro e w4 ⟨rfl, hb4⟩; have HB4 := Lib.hid hb4; clear hb4)
    go_ret
    exact ⟨rfl, HB4.out⟩
  · have t1 : decide ((12 : Int) < (ns.length : Int)) = false := by simp; omega
    have t1' : decide (12 < ns.length) = false := by simp; omega
    by_cases h2 : 60 < S.size
    · have t2 : decide ((60 : Int) < (S.size : Int)) = true := by simp; omega
      clear hC
      go_enter Tryd.func4, Tryd.ntmps4
      go_wp2_with (go_at_call 9; refine (HAw.out _).mono ?_; rintro e w4 ⟨rfl, hb4⟩; have HB4 := Lib.hid hb4; clear hb4)
      go_ret
      exact ⟨rfl, HB4.out⟩
    · have t2 : decide ((60 : Int) < (S.size : Int)) = false := by simp; omega
      by_cases h3 : d = 0
      · subst h3
        clear hC
        go_enter Tryd.func4, Tryd.ntmps4
        go_wp2_with (go_at_call 9; refine (HAw.out _).mono ?_; rintro e w4 ⟨rfl, hb4⟩; have HB4 := Lib.hid hb4; clear hb4)
        go_ret
        exact ⟨rfl, HB4.out⟩
      · have t3 : ((d : Int) == 0) = false := by simp; omega
        have hs60 : S.data.toList.length ≤ 60 := by rw [bytes_len]; omega
        have hmk := makes_any S (by omega) 12 ns a cap w (by omega) hC
        obtain ⟨f, hf⟩ : ∃ f, f = makeFu S.data.toList 12 ns := ⟨_, rfl⟩
        have hmay : mayF 13 f = true := by rw [hf]; exact mk_may _ hs60 12 ns (by omega) 13 (by omega)
        have htl : (textF f).length ≤ 600000 := by rw [hf]; exact Nat.le_trans (mk_len _ hs60 12 ns (by omega)) (by omega)
        rw [← hf] at hmk
        obtain ⟨T, hT⟩ : ∃ T, T = ofL (textF f) := ⟨_, rfl⟩
        have hTl : T.data.toList = textF f := by rw [hT, ofL_list]
        have hTz : T.size ≤ 600000 := by rw [hT, ofL_size]; exact htl
        have hT2 : 2 ≤ T.size := by rw [hT, ofL_size]; exact textF_two f
        have htop : textTop f = textF f := by unfold textTop; rw [if_pos hmay]
        have hp1 := fun W => parseFl_any T (by omega) (ascii_all _) W
        rw [hTl, parse_textF hmay] at hp1
        obtain ⟨tz, htz⟩ : ∃ tz, T.size = tz + 1 := ⟨T.size - 1, by omega⟩
        obtain ⟨L, hL⟩ : ∃ L, T.extract 0 tz = L := ⟨_, rfl⟩
        have hfl : (textF f).length = T.size := by rw [← hTl, bytes_len]
        have hLl : L.data.toList = (textF f).take ((textF f).length - 1) := by rw [← hL, hfl, htz, ← hTl]; simp [ByteArray.data_extract]
        have hLz : L.size ≤ 600000 := by rw [← bytes_len, hLl, List.length_take]; omega
        have hp2 := fun W => parseFl_any L (by omega) (ascii_all _) W
        rw [hLl, parse_less hmay] at hp2
        obtain ⟨M, hM⟩ : ∃ M, T ++ (⟨#[41]⟩ : ByteArray) = M := ⟨_, rfl⟩
        have hMl : M.data.toList = textF f ++ [41] := by rw [← hM, app_list, hTl]
        have hMz : M.size ≤ 600001 := by rw [← bytes_len, hMl, List.length_append]; simp; omega
        have hp3 := fun W => parseFl_any M (by omega) (ascii_all _) W
        rw [hMl, parse_more hmay] at hp3
        have hT1 : T.size + 1 ≤ 9223372036854775807 := by omega
        have HMk := Lib.hid hmk
        have HMay := Lib.hid hmay
        have HTop := Lib.hid htop
        have HTl := Lib.hid hTl
        have HTe := Lib.hid hT
        have Htl := Lib.hid htl
        have HP1 := Lib.hid hp1
        have HP2 := Lib.hid hp2
        have HP3 := Lib.hid hp3
        have tz0 : (0 : Int) ≤ (tz : Int) := by omega
        have t4 : decide ((tz : Int) + 1 < 2) = false := by simp; omega
        have tz1 : IntKind.i64.wrap (tz : Int) = (tz : Int) := IntWalk.i64_in _ (by omega)
        have hfw := few_may 13 f hmay
        have HFw := Lib.hid hfw
        clear hfw hfl
        clear hmk hmay htop hTl hT htl hp1 hp2 hp3 hLl hLz hMl hMz hf hC hs60
        go_enter Tryd.func4, Tryd.ntmps4
        go_upto_region 4 with (go_at_call 18; refine (HMk.out).mono ?_; rintro e w1 ⟨v, rfl, hfl, hb1⟩; (obtain ⟨k, fT, fX, fpa, fpn, fpc, fka, fkn, fkc, e⟩ := hfl.shape); subst e; have HFl := Lib.hid hfl; have HB1 := Lib.hid hb1; clear hb1 hfl)
        obtain ⟨W1, hW1⟩ : ∃ W, W = w1.alloc (.cells #[.int .i64 k, .string fT, .string fX, .slice fpa fpn fpc, .slice fka fkn fkc] 25) := ⟨_, rfl⟩
        rw [← hW1]
        have hF1 : FlFrom W1 w1.heap.size (.int .i64 k) (.string fT) (.string fX) (.slice fpa fpn fpc) (.slice fka fkn fkc) f := by rw [hW1]; exact flFrom_new HFl.out
        have hb11 : Below w.heap.size w W1 := by rw [hW1]; exact bthen HB1.out (box5 w1 _ _ _ _ _)
        have HF1 := Lib.hid hF1
        have HB11 := Lib.hid hb11
        have hM1 := mayTop_any f _ W1 hF1.2
        rw [HMay.out] at hM1
        have HM1 := Lib.hid hM1
        have hX1 := fun W (hW : Below W1.heap.size W1 W) => textTop_any f _ W (hF1.go hW).2 (fun _ => by have := Htl.out; omega)
        rw [HTop.out, ← HTe.out] at hX1
        have HX1 := Lib.hid hX1
        obtain ⟨a0, a1, a2, a3, a4⟩ := fl_cells hF1.1
        clear hW1 hF1 hb11 hM1 hX1
        go_upto_region 6 with (go_at_call 12; refine (HM1.out).mono ?_; rintro e w2 ⟨rfl, hb2⟩; have HB2 := Lib.hid hb2; (obtain ⟨c0, c1, c2, c3, c4⟩ := fl_cells (HF1.out.go hb2).1); clear hb2)
        go_upto_region 7 with (go_at_call 14; refine (HX1.out _ HB2.out).mono ?_; rintro e w3 ⟨rfl, hb3⟩; have HB3 := Lib.hid (bthen HB2.out hb3); clear hb3)
        go_upto_region 8 with (go_at_call 10; refine (HP1.out _).mono ?_; rintro e w4 ⟨x, b, rfl, ⟨hfl, rfl⟩, hb4⟩; (obtain ⟨xk, xT, xX, xpa, xpn, xpc, xka, xkn, xkc, e⟩ := hfl.shape); subst e; have HGl := Lib.hid hfl; have HB4 := Lib.hid (bthen HB3.out hb4); clear hb4 hfl)
        obtain ⟨W4, hW4⟩ : ∃ W, W = w4.alloc (.cells #[.int .i64 xk, .string xT, .string xX, .slice xpa xpn xpc, .slice xka xkn xkc] 25) := ⟨_, rfl⟩
        rw [← hW4]
        have hG4 : FlFrom W4 w4.heap.size (.int .i64 xk) (.string xT) (.string xX) (.slice xpa xpn xpc) (.slice xka xkn xkc) f := by rw [hW4]; exact flFrom_new HGl.out
        have hb44 : Below W1.heap.size W1 W4 := by rw [hW4]; exact bthen HB4.out (box5 w4 _ _ _ _ _)
        have hSm := sameFl_all (SizeOf.sizeOf f) f f _ _ W4 (Nat.le_refl _) HFw.out hG4.2 (HF1.out.go hb44).2
        rw [sameFT_pos rfl] at hSm
        have HSm := Lib.hid hSm
        have HB44 := Lib.hid hb44
        obtain ⟨d0, d1, d2, d3, d4⟩ := fl_cells hG4.1
        obtain ⟨e0, e1, e2, e3, e4⟩ := fl_cells (HF1.out.go hb44).1
        clear hW4 hG4 hb44 hSm
        go_upto_region 10 with (go_at_call 17; refine (HSm.out).mono ?_; rintro e w5 ⟨rfl, hb5⟩; have HB5 := Lib.hid (bthen HB44.out hb5); clear hb5)
        go_upto_region 11 with (go_at_call 10; refine (HP2.out _).mono ?_; rintro e w6 ⟨x, b, rfl, ⟨rfl, rfl⟩, hb6⟩; have HB6 := Lib.hid (bthen HB5.out hb6); clear hb6)
        obtain ⟨W6, hW6⟩ : ∃ W, W = w6.alloc (.cells #[.int .i64 0, .string ⟨#[]⟩, .string ⟨#[]⟩, .slice none 0 0, .slice none 0 0] 25) := ⟨_, rfl⟩
        rw [← hW6]
        have HB66 : Hid (Below W1.heap.size W1 W6) := Lib.hid (by rw [hW6]; exact bthen HB6.out (box5 w6 _ _ _ _ _))
        clear hW6
        go_upto_region 12 with (go_at_call 10; refine (HP3.out _).mono ?_; rintro e w7 ⟨x, b, rfl, ⟨rfl, rfl⟩, hb7⟩; have HB7 := Lib.hid (bthen HB66.out hb7); clear hb7)
        obtain ⟨W7, hW7⟩ : ∃ W, W = w7.alloc (.cells #[.int .i64 0, .string ⟨#[]⟩, .string ⟨#[]⟩, .slice none 0 0, .slice none 0 0] 25) := ⟨_, rfl⟩
        rw [← hW7]
        have HB77 : Hid (Below W1.heap.size W1 W7) := Lib.hid (by rw [hW7]; exact bthen HB7.out (box5 w7 _ _ _ _ _))
        clear hW7
        have hcv := Lib.run_convert_string_bytes (P := Tryd.prog) W7 9 36 5 T Tryd.underlying9 Tryd.underlying36 Tryd.underlying5
        have hlow := lowAt_start W7 T
        obtain ⟨bc, hbc⟩ : ∃ c, c = grownCap W7 T.size 0 5 := ⟨_, rfl⟩
        obtain ⟨WB, hWB⟩ : ∃ W, W = Lib.bytesWorld W7 5 T := ⟨_, rfl⟩
        rw [← hWB] at hcv hlow
        try rw [← hbc] at hcv
        obtain ⟨j, hj⟩ : ∃ j, j = n % (tz + 1) := ⟨_, rfl⟩
        have hjz : j < tz + 1 := by rw [hj]; exact Nat.mod_lt _ (by omega)
        have hjT : j < T.size := by omega
        have tm : Int.tmod (n : Int) ((tz : Int) + 1) = (j : Int) := by rw [Int.tmod_eq_emod_of_nonneg (by omega), hj]; push_cast; rfl
        have tm2 : (n : Int) % ((tz : Int) + 1) = (j : Int) := by rw [hj]; push_cast; rfl
        have tw : IntKind.i64.wrap (n : Int) = (n : Int) := IntWalk.i64_in _ (by omega)
        have tn : ((tz : Int) + 1 == 0) = false := by simp; omega
        have tj0 : (0 : Int) ≤ (j : Int) := by omega
        have tj1 : (j : Int) < (tz : Int) + 1 := by omega
        obtain ⟨b0, g0⟩ := low_cell hlow j hjT
        obtain ⟨c, hc⟩ : ∃ c : UInt8, c = T[j] := ⟨_, rfl⟩
        rw [← hc] at b0
        have hcl := c.toNat_lt
        have HLow := Lib.hid hlow
        have Hc := Lib.hid hc
        have HWB := Lib.hid hWB
        obtain ⟨y, hxy, hyc⟩ := xor_turn c d hd h3
        have HYc := Lib.hid hyc
        clear hlow hc hWB hj hbc hyc
        go_upto_region 13 with (fail)
        go_upto_region 14 with (fail)
        obtain ⟨WC, hWC⟩ : ∃ W, W = WB.setCell ⟨W7.heap.size, j, none⟩ (.int .u8 (y.toNat : Int)) := ⟨_, rfl⟩
        rw [← hWC]
        have hbC : Below W7.heap.size W7 WC := by rw [hWC]; exact HLow.out.1.setCell (p := ⟨W7.heap.size, j, none⟩) (Nat.le_refl _) _
        obtain ⟨L2, hL2⟩ : ∃ L2, L2 = T.data.toList.set j y := ⟨_, rfl⟩
        have hL2z : L2.length = tz + 1 := by rw [hL2, List.length_set, bytes_len, htz]
        have hjl : j < T.data.toList.length := by rw [bytes_len]; exact hjT
        have hne : L2 ≠ textF f := by
          rw [← HTl.out, hL2]
          intro e
          have h1 : (T.data.toList.set j y)[j]? = some y := by rw [List.getElem?_set_self hjl]
          rw [e, List.getElem?_eq_getElem hjl] at h1
          exact HYc.out ((Option.some.inj h1).symm.trans (by rw [Hc.out]; rfl))
        obtain ⟨N, hN⟩ : ∃ N, N = ofL L2 := ⟨_, rfl⟩
        have hNl : N.data.toList = L2 := by rw [hN, ofL_list]
        have hNz : N.size ≤ 600000 := by rw [hN, ofL_size, hL2z]; omega
        have hcv2 : (convert 36 9 (.slice (some ⟨W7.heap.size, 0, none⟩) (tz + 1) bc)).run Tryd.prog WC = .ok (.string N) WC := by
          rw [hN, ← hL2z]
          refine run_convert_bytes_back WC 36 9 5 _ bc L2 Tryd.underlying36 Tryd.underlying5 Tryd.underlying9 fun q hq => ?_
          have hqT : q < T.size := by omega
          have e : ((⟨W7.heap.size, 0, none⟩ : Addr).add q) = ⟨W7.heap.size, q, none⟩ := by simp [Addr.add]; omega
          rw [e, hWC]
          by_cases hqj : q = j
          · subst hqj
            rw [World.cell?_setCell_same _ _ _ b0]
            simp [hL2]
          · rw [World.cell?_setCell_other _ _ _ _ (fun h => hqj (by simpa using (congrArg Addr.off h).symm)), (low_cell HLow.out q hqT).1]
            simp only [hL2, List.getElem_set_ne (Ne.symm hqj)]
            rfl
        have hp4 := fun W => parseFl_any N (by omega) (ascii_all _) W
        rw [hNl] at hp4
        have HNe := Lib.hid hne
        have HBC : Hid (Below W1.heap.size W1 WC) := Lib.hid (bthen HB77.out hbC)
        clear hWC hbC hL2 hL2z hjl hne hN hNl hNz b0 g0 hcv
        cases ho : parseF L2 with
        | none =>
          rw [ho] at hp4
          have HP4 := Lib.hid hp4
          clear hp4 ho
          go_upto_region 15 with (go_at_call 10; refine (HP4.out _).mono ?_; rintro e w8 ⟨x, b, rfl, ⟨rfl, rfl⟩, hb8⟩; have HB8 := Lib.hid (bthen HBC.out hb8); clear hb8)
          obtain ⟨W8, hW8⟩ : ∃ W, W = w8.alloc (.cells #[.int .i64 0, .string ⟨#[]⟩, .string ⟨#[]⟩, .slice none 0 0, .slice none 0 0] 25) := ⟨_, rfl⟩
          rw [← hW8]
          have HB88 : Hid (Below W1.heap.size W1 W8) := Lib.hid (by rw [hW8]; exact bthen HB8.out (box5 w8 _ _ _ _ _))
          clear hW8
          go_wp2_with (go_at_call 9; refine (HAw.out _).mono ?_; rintro e w9 ⟨rfl, hb9⟩; have HB9 := Lib.hid (bthen HB88.out hb9); clear hb9)
          go_ret
          exact ⟨rfl, bthen HB11.out HB9.out⟩
        | some g =>
          rw [ho] at hp4
          have hgf := parse_turned HNe.out ho
          have hgm := (parse_soundF ho).1
          have HGf := Lib.hid hgf
          have HGm := Lib.hid hgm
          have HP4 := Lib.hid hp4
          clear hp4 ho hgf hgm
          go_upto_region 15 with (go_at_call 10; refine (HP4.out _).mono ?_; rintro e w8 ⟨x, b, rfl, ⟨hfl, rfl⟩, hb8⟩; (obtain ⟨yk, yT, yX, ypa, ypn, ypc, yka, ykn, ykc, e⟩ := hfl.shape); subst e; have HYl := Lib.hid hfl; have HB8 := Lib.hid (bthen HBC.out hb8); clear hb8 hfl)
          obtain ⟨W8, hW8⟩ : ∃ W, W = w8.alloc (.cells #[.int .i64 yk, .string yT, .string yX, .slice ypa ypn ypc, .slice yka ykn ykc] 25) := ⟨_, rfl⟩
          rw [← hW8]
          have hG8 : FlFrom W8 w8.heap.size (.int .i64 yk) (.string yT) (.string yX) (.slice ypa ypn ypc) (.slice yka ykn ykc) g := by rw [hW8]; exact flFrom_new HYl.out
          have hb88 : Below W1.heap.size W1 W8 := by rw [hW8]; exact bthen HB8.out (box5 w8 _ _ _ _ _)
          have hSm2 := sameFl_all (SizeOf.sizeOf g) g f _ _ W8 (Nat.le_refl _) (few_may 13 g HGm.out) hG8.2 (HF1.out.go hb88).2
          rw [sameFT_neg HGf.out] at hSm2
          have HSm2 := Lib.hid hSm2
          have HB88 := Lib.hid hb88
          obtain ⟨m0, m1, m2, m3, m4⟩ := fl_cells hG8.1
          obtain ⟨n0, n1, n2, n3, n4⟩ := fl_cells (HF1.out.go hb88).1
          clear hW8 hG8 hb88 hSm2
          go_wp2_with (first
            | (go_at_call 17; refine (HSm2.out).mono ?_; rintro e w9 ⟨rfl, hb9⟩; have HB9 := Lib.hid (bthen HB88.out hb9); clear hb9)
            | (go_at_call 9; refine (HAw.out _).mono ?_; rintro e w10 ⟨rfl, hb10⟩; have HB10 := Lib.hid (bthen HB9.out hb10); clear hb10))
          go_ret
          exact ⟨rfl, bthen HB11.out HB10.out⟩
end Go.Proofs.YtdcfmgnpjmpboaaDoor

/- Bytes, texts, parts of names among the arguments. -/
namespace Go.Proofs.YtdcfmgnpjmpboaaDoor
open Go.RowKit
set_option linter.unusedVariables false

/-- A slice of bytes that lies below block n0. -/
def IsB (n0 : Nat) (w : World) (l : List UInt8) (a : Option Addr) (cap : Nat) : Prop :=
  l.length ≤ maxLen ∧ (l = [] ∨ ∃ b off, a = some ⟨b, off, none⟩ ∧ b < n0 ∧ ∀ j, (h : j < l.length) → w.cell? ⟨b, off + j, none⟩ = some (.int .u8 l[j].toNat))
/-- A slice of texts that lies below block n0. -/
def IsS (n0 : Nat) (w : World) (L : List ByteArray) (a : Option Addr) (cap : Nat) : Prop :=
  L.length ≤ maxLen ∧ (∀ s ∈ L, s.size ≤ maxLen) ∧ (L = [] ∨ ∃ b off, a = some ⟨b, off, none⟩ ∧ b < n0 ∧ ∀ j, (h : j < L.length) → w.cell? ⟨b, off + j, none⟩ = some (.string L[j]))
theorem IsB.below {n0 : Nat} {w w' : World} {l : List UInt8} {a : Option Addr} {cap : Nat} (h : IsB n0 w l a cap) (hb : Below n0 w w') : IsB n0 w' l a cap :=
  ⟨h.1, h.2.imp id fun ⟨b, off, e, hlt, hc⟩ => ⟨b, off, e, hlt, fun j hj => (hb.cell (p := ⟨b, _, none⟩) hlt).trans (hc j hj)⟩⟩
theorem IsS.below {n0 : Nat} {w w' : World} {l : List ByteArray} {a : Option Addr} {cap : Nat} (h : IsS n0 w l a cap) (hb : Below n0 w w') : IsS n0 w' l a cap :=
  ⟨h.1, h.2.1, h.2.2.imp id fun ⟨b, off, e, hlt, hc⟩ => ⟨b, off, e, hlt, fun j hj => (hb.cell (p := ⟨b, _, none⟩) hlt).trans (hc j hj)⟩⟩

set_option maxRecDepth 100000 in
theorem open_bytes {H : Type} {enc : TypeId × Value → H} {W : World} {v : Value} {d : DataW H} {ps : List MemPlace} (hval : Value.okWide Tryd.prog W .any 0 36 v) (hd : DataW.Trod enc Tryd.prog W 0 (fun _ => true) true 36 v d ps) :
    ∃ (a : Option Addr) (cap : Nat) (l : List UInt8), v = .slice a l.length cap ∧ IsB W.heap.size W l a cap := by
  obtain ⟨a0, len, cap, rfl⟩ := Go.WideShapes.okWide_slice Tryd.underlying36 hval
  obtain ⟨fuel, hf⟩ := hd
  have hc : Tryd.prog.cellsOf 5 = 1 := by kernel_rfl
  rcases Go.ChangeShapes.open_ints Tryd.underlying36 Tryd.underlying5 hc hf with ⟨hcs, _⟩ | ⟨a, len', cap', zs, hcs, _, hle, hmax, hall, _, hcell, hwf⟩
  · simp [Value.cells] at hcs
    obtain ⟨rfl, rfl, rfl⟩ := hcs
    exact ⟨none, 0, [], rfl, Nat.zero_le _, .inl rfl⟩
  · simp [Value.cells] at hcs
    obtain ⟨rfl, rfl, rfl⟩ := hcs
    simp only [if_true] at hall
    have hlen : ((zs.take len).map fun z => UInt8.ofNat z.toNat).length = len := by simp; omega
    refine ⟨some a, cap, (zs.take len).map fun z => UInt8.ofNat z.toNat, by rw [hlen], by omega, ?_⟩
    by_cases h0 : len = 0
    · left; subst h0; simp
    · right
      obtain ⟨b, off, rfl, hat⟩ := ints_at hcell (by omega)
      refine ⟨b, off, rfl, World.block_lt_of_cell? W ⟨b, off + 0, none⟩ (hat 0 (by omega)), fun j hj => ?_⟩
      have hjz : j < zs.length := by omega
      have hw := hwf zs[j] (List.getElem_mem _)
      simp only [Lit.wf, Bool.and_eq_true, decide_eq_true_eq] at hw
      have h1 : (0 : Int) ≤ zs[j] := hw.1
      have h2 : zs[j] ≤ 255 := hw.2
      have hn : (UInt8.ofNat zs[j].toNat).toNat = zs[j].toNat := by simp; omega
      rw [hat j hjz]
      simp only [List.getElem_map, List.getElem_take, hn]
      simp [List.getD, List.getElem?_eq_getElem hjz]
      omega

set_option maxRecDepth 100000 in
theorem open_texts {H : Type} {enc : TypeId × Value → H} {W : World} {v : Value} {d : DataW H} {ps : List MemPlace} (hval : Value.okWide Tryd.prog W .any 0 22 v) (hd : DataW.Trod enc Tryd.prog W 0 (fun _ => true) true 22 v d ps) :
    ∃ (a : Option Addr) (cap : Nat) (L : List ByteArray), v = .slice a L.length cap ∧ IsS W.heap.size W L a cap := by
  obtain ⟨a0, len, cap, rfl⟩ := Go.WideShapes.okWide_slice Tryd.underlying22 hval
  obtain ⟨fuel, hf⟩ := hd
  have hc : Tryd.prog.cellsOf 9 = 1 := by kernel_rfl
  rcases Go.Deep.open_strs Tryd.underlying22 Tryd.underlying9 hc hf with ⟨hcs, _⟩ | ⟨a, len', cap', m, Sx, hcs, _, hle, hmax, hm, _, hcell⟩
  · simp [Value.cells] at hcs
    obtain ⟨rfl, rfl, rfl⟩ := hcs
    exact ⟨none, 0, [], rfl, Nat.zero_le _, by simp, .inl rfl⟩
  · simp [Value.cells] at hcs
    obtain ⟨rfl, rfl, rfl⟩ := hcs
    simp only [if_true] at hm
    have hlen : ((List.range len).map Sx).length = len := by simp
    refine ⟨some a, cap, (List.range len).map Sx, by rw [hlen], by omega, ?_, ?_⟩
    · intro s hs
      obtain ⟨i, hi, rfl⟩ := List.mem_map.1 hs
      exact (hcell i (by have := List.mem_range.1 hi; omega)).2
    by_cases h0 : len = 0
    · left; subst h0; simp
    · right
      obtain ⟨b, off, spot⟩ := a
      have h1 := (hcell 0 (by omega)).1
      have hspot : spot = none := by simpa [Addr.add] using World.cell?_spot h1
      subst hspot
      refine ⟨b, off, rfl, World.block_lt_of_cell? W _ h1, fun j hj => ?_⟩
      have h2 := (hcell j (by omega)).1
      rw [Go.WideShapes.add_plain] at h2
      rw [h2]
      simp
end Go.Proofs.YtdcfmgnpjmpboaaDoor

/- Bytes among the arguments: their length, their room. -/
namespace Go.Proofs.YtdcfmgnpjmpboaaDoor
open Go.RowKit
set_option linter.unusedVariables false
set_option linter.unusedSimpArgs false

set_option maxRecDepth 100000 in
theorem open_bytesC {H : Type} {enc : TypeId × Value → H} {W : World} {v : Value} {d : DataW H} {ps : List MemPlace} (hval : Value.okWide Tryd.prog W .any 0 36 v) (hd : DataW.Trod enc Tryd.prog W 0 (fun _ => true) true 36 v d ps) :
    ∃ (a : Option Addr) (cap : Nat) (l : List UInt8), v = .slice a l.length cap ∧ IsC W.heap.size W l a cap := by
  obtain ⟨a, cap, l, rfl, h⟩ := open_bytes hval hd
  refine ⟨a, cap, l, rfl, ?_, ?_, h.2⟩
  all_goals
    obtain ⟨fuel, hf⟩ := hd
    have hc : Tryd.prog.cellsOf 5 = 1 := by kernel_rfl
    rcases Go.ChangeShapes.open_ints Tryd.underlying36 Tryd.underlying5 hc hf with ⟨hcs, _⟩ | ⟨a, len', cap', zs, hcs, _, hle, hmax, hall, _, hcell, hwf⟩
    · simp [Value.cells] at hcs
      obtain ⟨rfl, h0, rfl⟩ := hcs
      first | (subst h0; exact Nat.le_refl _) | exact Nat.zero_le _
    · simp [Value.cells] at hcs
      obtain ⟨rfl, h0, rfl⟩ := hcs
      first | omega | assumption
end Go.Proofs.YtdcfmgnpjmpboaaDoor
