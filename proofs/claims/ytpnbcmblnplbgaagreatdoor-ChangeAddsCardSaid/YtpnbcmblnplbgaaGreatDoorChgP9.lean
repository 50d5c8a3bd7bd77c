/- Several texts in one file: EnNEntW. -/
import Derived.Test.YtpnbcmblnplbgaaGreatDoorChgP8
import Derived.Test.YtpnbcmblnplbgaaGreatDoorRefParseW
import Derived.Test.YtpnbcmblnplbgaaGreatDoorRefTextW
import Derived.Test.YtpnbcmblnplbgaaGreatDoorChgP7
import Derived.Deep.Cut
import Derived.Deep.CutRange
namespace Go.Proofs.YtpnbcmblnplbgaaGreatDoor
open Go.RowKit
set_option linter.unusedVariables false
set_option linter.unusedSimpArgs false

set_option maxRecDepth 100000 in
set_option maxHeartbeats 8000000 in
theorem normRef_own (d : ByteArray) (hd : d.size ≤ 100000) (L : List AT) (hs : smallA L) (v : Value) (w : World) (h : IsA w.heap.size w L v) :
    Calls Tryz.prog 19 #[.agg #[.string d, v]] w fun e w' => ∃ v', e = .returned (.agg #[strV (nameN d.data.toList), v']) ∧ OwnM (w.heap.size + 3) w' v' (sortA (normL L)) ∧ Below w.heap.size w w' := by
  obtain ⟨sa, sc, rfl, hm, hcell⟩ := id h
  obtain ⟨n, hn⟩ : ∃ n, n = L.length := ⟨_, rfl⟩
  rw [← hn] at ⊢ h
  have hs1 : n ≤ 1000 := by rw [hn]; exact hs.1
  have HN := Lib.hid hn
  have HC := Lib.hid hcell
  have HS := Lib.hid hs
  have hpa := fun w => parseRef_any d hd w
  obtain ⟨TD, hTD⟩ : ∃ T : ByteArray, strV (nameN d.data.toList) = .string T := ⟨_, rfl⟩
  rw [hTD]
  have HBx := Lib.hid (boxE_new w d (.slice sa n sc))
  obtain ⟨W3, hW3⟩ : ∃ W, W = (((w.alloc (.cells #[.string d, .slice sa n sc] 27)).alloc (.cells #[.string ⟨#[]⟩, .slice none 0 0] 27)).alloc (.cells #[.string d, .slice none 0 0] 27)) := ⟨_, rfl⟩
  have hSt : NeAt w d d (.slice sa n sc) (.slice none 0 0) [] W3 := by
    have hb : Below (w.heap.size + 2) ((w.alloc (.cells #[.string d, .slice sa n sc] 27)).alloc (.cells #[.string ⟨#[]⟩, .slice none 0 0] 27)) W3 := by rw [hW3]; exact (Below.refl _ _).alloc (by simp) _
    exact {
      e1 := (hb.cell (p := ⟨w.heap.size, 1, none⟩) (by simp)).trans (by simp)
      box := HBx.out.go hb (Nat.le_refl _)
      out := by
        have := heap_alloc_new ((w.alloc (.cells #[.string d, .slice sa n sc] 27)).alloc (.cells #[.string ⟨#[]⟩, .slice none 0 0] 27)) (.cells #[.string d, .slice none 0 0] 27)
        rw [hW3]
        simpa [BoxN] using this
      own := ⟨[], World.ownsRow_nil _ _ _ _, rfl, fun j h => absurd h (by simp)⟩
      bel := (((Below.refl _ _).alloc (Nat.le_refl _) _).alloc (by simp) _).trans (hb.mono (by omega))
      size := by rw [hW3]; simp
      res := by
        have h1 := heap_alloc_new (w.alloc (.cells #[.string d, .slice sa n sc] 27)) (.cells #[.string ⟨#[]⟩, .slice none 0 0] 27)
        have h2 : BoxN ((w.alloc (.cells #[.string d, .slice sa n sc] 27)).alloc (.cells #[.string ⟨#[]⟩, .slice none 0 0] 27)) (w.heap.size + 1) ⟨#[]⟩ (.slice none 0 0) := by simpa [BoxN] using h1
        exact h2.below hb (by omega) }
  have HSt := Lib.hid hSt
  have HW3 := Lib.hid hW3.symm
  obtain ⟨eb, heb⟩ : ∃ b, b = w.heap.size := ⟨_, rfl⟩
  cases e : parseD d.data.toList with
  | none =>
    have hT : TD = d := by
      have h1 : strV (nameN d.data.toList) = .string d := by unfold nameN; rw [e]; exact strV_whole d
      rw [hTD] at h1
      simpa using h1
    subst hT
    simp only [e] at hpa
    have HPa := Lib.hid hpa
    clear h hs hm hcell hn hpa hTD hW3 hSt e heb
    go_enter Tryz.func19, Tryz.ntmps19
    go_upto_region 5 with (first
      | (go_at_call 17; rw [HW3.out]; refine (HPa.out _).mono ?_; rintro e w2 ⟨hb2, rfl⟩; have HSt2 := Lib.hid (HSt.out.go (bthen hb2 ((Below.refl _ _).alloc (Nat.le_refl _) (.cells #[.slice none 0 0, .bool false] 53)))); clear hb2))
    generalize (w2.alloc (.cells #[.slice none 0 0, .bool false] 53)) = W5 at HSt2 ⊢
    have HSt5 := HSt2
    rw [show w.heap.size + 1 + 1 = w.heap.size + 2 from rfl]
    clear HSt2 HW3 HBx HSt
    go_wp2
    go_loopw [5] (fun i wr => ∃ j : Nat, j ≤ n ∧ i = .int .i64 j ∧ NeI w TD TD (.slice sa n sc) L wr j) (fun i wr => n - (intOf i).toNat)
    case atStart => exact ⟨0, by omega, rfl, _, HSt5.out⟩
    case round =>
      obtain ⟨j, hj, rfl, l, hO⟩ := hrel
      have HO := Lib.hid hO
      have c2 := hO.e1
      have hew : w.heap.size < wr.heap.size := by have := hO.size; omega
      by_cases hlt : j < n
      · have t1 : decide ((j : Int) < (n : Int)) = true := by simp; omega
        have t1' : decide (j < n) = true := by simpa using hlt
        have t1z : (0 : Int) ≤ (j : Int) := by omega
        have t1y : (j : Int) < (n : Int) := by omega
        have hjl : j < L.length := by rw [← HN.out]; exact hlt
        obtain ⟨b, off, u, rfl, hb0, k0, k1, hu⟩ := HC.out j hjl
        obtain ⟨ua, uc, hue, _⟩ := id hu
        obtain ⟨un, hun⟩ : ∃ k, k = L[j].2.length := ⟨_, rfl⟩
        rw [← hun] at hue
        subst hue
        clear hun
        obtain ⟨X, hX⟩ : ∃ X : ByteArray, ⟨L[j].1.toArray⟩ = X := ⟨_, rfl⟩
        have hXl : X.data.toList = L[j].1 := by rw [← hX]
        have c0 : wr.cell? ⟨b, off + j * 2, none⟩ = some (.string X) := by rw [hO.bel.cell (p := ⟨b, _, none⟩) hb0, k0, ← hX]; rfl
        have c1 := (hO.bel.cell (p := ⟨b, off + j * 2 + 1, none⟩) hb0).trans k1
        have hbw : b < wr.heap.size := Nat.lt_of_lt_of_le hb0 hO.bel.size
        have HU := Lib.hid hu
        have hgr0 := hO.bel
        have hle := hgr0.size
        have HXl := Lib.hid hXl
        clear hO k0 k1 hu hX hXl hb0
        go_upto_region 8 with (fail)
        refine region_factsB (by kernel_rfl) (FN wr.heap.size [.is (.pointer (some ⟨w.heap.size, 1, none⟩)), .is (.slice (some ⟨b, off, none⟩) n sc), .is (.int .i64 (j : Int)), .is (.pointer (some ⟨b, off + j * 2, none⟩)), .is (.pointer (some ⟨b, off + j * 2, none⟩)), .is (.string X), .emp, .is (.pointer (some ⟨w.heap.size, 1, none⟩)), .is (.slice (some ⟨b, off, none⟩) n sc), .is (.int .i64 (j : Int)), .is (.pointer (some ⟨b, off + j * 2, none⟩)), .is (.pointer (some ⟨b, off + j * 2 + 1, none⟩)), .is (.slice ua un uc), .txt L[j].2, .agg X L[j].2, .box]) (fun w w' => Below w.heap.size w w') (fun _ _ _ _ h hb => h.go hb) (fun _ _ _ h1 h2 => bthen h1 h2) (Below.refl _ _).drew (by kernel_rfl) rfl ?hs ?hl
        case hs =>
          intro listed a W hk i o ho hi hc
          have e1 := hk.read (t := 1) (by kernel_rfl) rfl
          have e5 := hk.read (t := 5) (by kernel_rfl) rfl
          have hgr : Below wr.heap.size wr W := hk.grown
          have d0 := (hgr.cell (p := ⟨b, off + j * 2, none⟩) hbw).trans c0
          have d1 := (hgr.cell (p := ⟨b, off + j * 2 + 1, none⟩) hbw).trans c1
          have d2 := (hgr.cell (p := ⟨w.heap.size, 1, none⟩) hew).trans c2
          match i, hi with
          | 0, _ =>
            obtain rfl := Option.some.inj ho
            exact wpOp_val rfl rfl (v := .pointer (some ⟨w.heap.size, 1, none⟩)) (w' := W) (by simp [go_sem, e1]) ⟨_, _, rfl, rfl, Below.refl _ _, rfl⟩
          | 1, _ =>
            obtain rfl := Option.some.inj ho
            obtain ⟨v0, g0, f0⟩ := hk.got (j := 0) rfl rfl (hc ⟨0, .data⟩ (by simp) rfl); obtain rfl : v0 = _ := f0
            exact wpOp_val rfl rfl (v := .slice (some ⟨b, off, none⟩) n sc) (w' := W) (by simp [go_sem, g0, d2]) ⟨_, _, rfl, rfl, Below.refl _ _, rfl⟩
          | 2, _ =>
            obtain rfl := Option.some.inj ho
            exact wpOp_val rfl rfl (v := .int .i64 (j : Int)) (w' := W) (by simp [go_sem, e5]) ⟨_, _, rfl, rfl, Below.refl _ _, rfl⟩
          | 3, _ =>
            obtain rfl := Option.some.inj ho
            obtain ⟨v1, g1, f1⟩ := hk.got (j := 1) rfl rfl (hc ⟨1, .data⟩ (by simp) rfl); obtain rfl : v1 = _ := f1
            obtain ⟨v2, g2, f2⟩ := hk.got (j := 2) rfl rfl (hc ⟨2, .data⟩ (by simp) rfl); obtain rfl : v2 = _ := f2
            exact wpOp_val rfl rfl (v := .pointer (some ⟨b, off + j * 2, none⟩)) (w' := W) (by simp [go_sem, g1, g2, t1, t1z, t1y]) ⟨_, _, rfl, rfl, Below.refl _ _, rfl⟩
          | 4, _ =>
            obtain rfl := Option.some.inj ho
            obtain ⟨v3, g3, f3⟩ := hk.got (j := 3) rfl rfl (hc ⟨3, .data⟩ (by simp) rfl); obtain rfl : v3 = _ := f3
            exact wpOp_val rfl rfl (v := .pointer (some ⟨b, off + j * 2, none⟩)) (w' := W) (by simp [go_sem, g3]) ⟨_, _, rfl, rfl, Below.refl _ _, rfl⟩
          | 5, _ =>
            obtain rfl := Option.some.inj ho
            obtain ⟨v4, g4, f4⟩ := hk.got (j := 4) rfl rfl (hc ⟨4, .data⟩ (by simp) rfl); obtain rfl : v4 = _ := f4
            exact wpOp_val rfl rfl (v := .string X) (w' := W) (by simp [go_sem, g4, d0]) ⟨_, _, rfl, rfl, Below.refl _ _, rfl⟩
          | 6, _ =>
            obtain rfl := Option.some.inj ho
            exact wpOp_val rfl rfl (v := .slice (some ⟨W.heap.size, 0, none⟩) 0 0) (w' := W.alloc (.cells #[] 9)) (by simp [go_sem]) ⟨_, _, rfl, rfl, (Below.refl _ _).alloc (Nat.le_refl _) _, ⟨_, rfl, hgr.size, heap_alloc_new W _⟩⟩
          | 7, _ =>
            obtain rfl := Option.some.inj ho
            exact wpOp_val rfl rfl (v := .pointer (some ⟨w.heap.size, 1, none⟩)) (w' := W) (by simp [go_sem, e1]) ⟨_, _, rfl, rfl, Below.refl _ _, rfl⟩
          | 8, _ =>
            obtain rfl := Option.some.inj ho
            obtain ⟨v7, g7, f7⟩ := hk.got (j := 7) rfl rfl (hc ⟨7, .data⟩ (by simp) rfl); obtain rfl : v7 = _ := f7
            exact wpOp_val rfl rfl (v := .slice (some ⟨b, off, none⟩) n sc) (w' := W) (by simp [go_sem, g7, d2]) ⟨_, _, rfl, rfl, Below.refl _ _, rfl⟩
          | 9, _ =>
            obtain rfl := Option.some.inj ho
            exact wpOp_val rfl rfl (v := .int .i64 (j : Int)) (w' := W) (by simp [go_sem, e5]) ⟨_, _, rfl, rfl, Below.refl _ _, rfl⟩
          | 10, _ =>
            obtain rfl := Option.some.inj ho
            obtain ⟨v8, g8, f8⟩ := hk.got (j := 8) rfl rfl (hc ⟨8, .data⟩ (by simp) rfl); obtain rfl : v8 = _ := f8
            obtain ⟨v9, g9, f9⟩ := hk.got (j := 9) rfl rfl (hc ⟨9, .data⟩ (by simp) rfl); obtain rfl : v9 = _ := f9
            exact wpOp_val rfl rfl (v := .pointer (some ⟨b, off + j * 2, none⟩)) (w' := W) (by simp [go_sem, g8, g9, t1, t1z, t1y]) ⟨_, _, rfl, rfl, Below.refl _ _, rfl⟩
          | 11, _ =>
            obtain rfl := Option.some.inj ho
            obtain ⟨v10, g10, f10⟩ := hk.got (j := 10) rfl rfl (hc ⟨10, .data⟩ (by simp) rfl); obtain rfl : v10 = _ := f10
            exact wpOp_val rfl rfl (v := .pointer (some ⟨b, off + j * 2 + 1, none⟩)) (w' := W) (by simp [go_sem, g10]) ⟨_, _, rfl, rfl, Below.refl _ _, rfl⟩
          | 12, _ =>
            obtain rfl := Option.some.inj ho
            obtain ⟨v11, g11, f11⟩ := hk.got (j := 11) rfl rfl (hc ⟨11, .data⟩ (by simp) rfl); obtain rfl : v11 = _ := f11
            exact wpOp_val rfl rfl (v := .slice ua un uc) (w' := W) (by simp [go_sem, g11, d1]) ⟨_, _, rfl, rfl, Below.refl _ _, rfl⟩
          | 13, _ =>
            obtain rfl := Option.some.inj ho
            obtain ⟨v6, g6, f6⟩ := hk.got (j := 6) rfl rfl (hc ⟨6, .data⟩ (by simp) rfl)
            obtain ⟨v12, g12, f12⟩ := hk.got (j := 12) rfl rfl (hc ⟨12, .data⟩ (by simp) rfl); obtain rfl : v12 = _ := f12
            obtain ⟨g, rfl, hgB, hgc⟩ := f6
            obtain ⟨v', w', hrun, hto, hbl⟩ := run_copy_T hgc ((HU.out.below hgr0 (Nat.le_refl _)).below (hgr.mono hle) (Nat.le_refl _)) (by have := (HS.out.2 _ (List.getElem_mem hjl)).2.1; omega) 47
            exact wpOp_val rfl rfl (v := v') (w' := w') (exec_append (s := .tmp 35) (x := .tmp 41) rfl (by simp [go_sem, g6]) (by simp [go_sem, g12]) hrun) ⟨_, _, rfl, rfl, hbl, hto⟩
          | 14, _ =>
            obtain rfl := Option.some.inj ho
            obtain ⟨v5, g5, f5⟩ := hk.got (j := 5) rfl rfl (hc ⟨5, .data⟩ (by simp) rfl); obtain rfl : v5 = _ := f5
            obtain ⟨v13, g13, f13⟩ := hk.got (j := 13) rfl rfl (hc ⟨13, .data⟩ (by simp) rfl)
            obtain ⟨xa, xc, rfl, _⟩ := id f13
            exact wpOp_val rfl rfl (v := .agg #[.string X, .slice xa L[j].2.length xc]) (w' := W) (by simp [go_sem, g5, g13]) ⟨_, _, rfl, rfl, Below.refl _ _, ⟨_, rfl, f13⟩⟩
          | 15, _ =>
            obtain rfl := Option.some.inj ho
            exact wpOp_val rfl rfl (v := .pointer (some ⟨W.heap.size, 0, none⟩)) (w' := W.alloc (.cells #[.string ⟨#[]⟩, .slice none 0 0] 56)) (by simp [go_sem]) ⟨_, _, rfl, rfl, (Below.refl _ _).alloc (Nat.le_refl _) _, ⟨_, rfl, hgr.size, heap_alloc_new W _⟩⟩
          | k + 16, h => exact absurd h (by simp)
        case hl =>
          intro listed a W hk hall
          obtain ⟨v14, g14, f14⟩ := hk.got (j := 14) rfl rfl (hall 14 (by simp))
          obtain ⟨v15, g15, f15⟩ := hk.got (j := 15) rfl rfl (hall 15 (by simp))
          obtain ⟨x, rfl, hto⟩ := f14
          obtain ⟨p, rfl, hpB, hpc⟩ := f15
          obtain ⟨xa, xc, rfl, _⟩ := id hto
          have hb8 : BoxT W p ⟨#[]⟩ (.slice none 0 0) := hpc
          have hb80 := hb8.set0 (y := X)
          have hb81 := hb80.set1 (v := .slice xa L[j].2.length xc)
          obtain ⟨q0, _, q2, _⟩ := hb8.cells
          obtain ⟨_, q1, _, q3⟩ := hb80.cells
          have hto8 := isTo_attr (i := 1) (x := .slice xa L[j].2.length xc) hb80 (isTo_attr (i := 0) (x := .string X) hb8 hto)
          have hgr : Below wr.heap.size wr W := hk.grown
          have hbl8 := (hgr.setCell (p := ⟨p, 0, none⟩) hpB (.string X)).setCell (p := ⟨p, 1, none⟩) hpB (.slice xa L[j].2.length xc)
          have hput := hk.puts
          refine wpOp_skip rfl rfl (w' := (W.setCell ⟨p, 0, none⟩ (.string X)).setCell ⟨p, 1, none⟩ (.slice xa L[j].2.length xc)) (by simp [go_sem, g14, g15, q0, q1, q2, q3]) ?_
          rw [hput]
          simp only [putT, g15]
          generalize a.tmps[29]?.getD undef = x29
          generalize a.tmps[30]?.getD undef = x30
          generalize a.tmps[31]?.getD undef = x31
          generalize a.tmps[32]?.getD undef = x32
          generalize a.tmps[33]?.getD undef = x33
          generalize a.tmps[34]?.getD undef = x34
          generalize a.tmps[35]?.getD undef = x35
          generalize a.tmps[36]?.getD undef = x36
          generalize a.tmps[37]?.getD undef = x37
          generalize a.tmps[38]?.getD undef = x38
          generalize a.tmps[39]?.getD undef = x39
          generalize a.tmps[40]?.getD undef = x40
          generalize a.tmps[41]?.getD undef = x41
          generalize a.tmps[42]?.getD undef = x42
          generalize a.tmps[43]?.getD undef = x43
          have HO8 := Lib.hid (HO.out.go hbl8)
          have HB8 := Lib.hid hb81
          have HT8 := Lib.hid hto8
          have hpz : wr.heap.size ≤ p := hpB
          have HBl8 := Lib.hid hbl8
          clear hall hput g14 g15 hto hpB hpc hb8 hb80 hb81 hto8 hbl8 hgr q0 q1 q2 q3 hk
          generalize ((W.setCell ⟨p, 0, none⟩ (.string X)).setCell ⟨p, 1, none⟩ (.slice xa L[j].2.length xc)) = W8 at HO8 HB8 HT8 HBl8 ⊢
          go_simp
          have hxs : X.size ≤ 281474976710656 := by have := (HS.out.2 _ (List.getElem_mem hjl)).1; rw [← HXl.out, bytes_len] at this; omega
          have hca := fun w => canonRef_any X hxs w
          rcases canon_forms X.data.toList with ⟨S, hc1, hc2, hc3⟩ | ⟨hc1, hc2, hc3⟩
          · rw [hc2] at hca
            have HCa := Lib.hid hca
            have HNm := Lib.hid hc3
            obtain ⟨b0, _, b2, _⟩ := HB8.out.cells
            clear hca hc1 hc2 hc3
            go_upto_region 12 with (go_at_call 33; refine (HCa.out _).mono ?_; rintro e w9 ⟨rfl, hb9⟩; have hb9a := bthen hb9 ((Below.refl w9.heap.size w9).alloc (Nat.le_refl _) (.cells #[.string S, .bool true] 60)); have hpl : p < W8.heap.size := (Array.getElem?_eq_some_iff.1 HB8.out).1; have q0 := (hb9a.cell (p := ⟨p, 0, none⟩) hpl).trans b0; have q2 := (hb9a.frozen (p := ⟨p, 0, none⟩) hpl).trans b2; have HB9 : Hid (BoxT (w9.alloc (.cells #[.string S, .bool true] 60)) p X (.slice xa L[j].2.length xc)) := Lib.hid ((hb9a.block p hpl).trans HB8.out); have HT9 := Lib.hid (isTo_strB_go HT8.out hb9a); have HBl9 := Lib.hid (bthen HBl8.out hb9a); clear hb9 hb9a)
            have hB10 := HB9.out.set0 (y := S)
            have hT10 := isTo_attr (i := 0) (x := .string S) HB9.out HT9.out
            have hBl10 := HBl9.out.setCell (p := ⟨p, 0, none⟩) hpz (.string S)
            generalize ((w9.alloc (.cells #[.string S, .bool true] 60)).setCell ⟨p, 0, none⟩ (.string S)) = W10 at hB10 hT10 hBl10 ⊢
            clear q0 q2 HB9 HT9 HBl9
            have HO10 := Lib.hid (HO.out.go hBl10)
            have HB10 := Lib.hid hB10
            have HT10 := Lib.hid hT10
            have HBl10 := Lib.hid hBl10
            have o1 := HO10.out.out.cells.2
            obtain ⟨SL, hSL⟩ : ∃ S, S = (normL (L.take j)).foldl insB [] := ⟨_, rfl⟩
            rw [← hSL] at HO10
            obtain ⟨la, lc, hle2⟩ := (show ∃ a c, l = .slice a SL.length c from by obtain ⟨P, hr, hs⟩ := HO10.out.own; rw [← hs.1]; exact rowP_slice hr)
            obtain ⟨sn, hsn⟩ : ∃ k, k = SL.length := ⟨_, rfl⟩
            rw [← hsn] at hle2
            subst hle2
            have HSL := Lib.hid hSL
            have HSn := Lib.hid hsn
            clear b0 b2 hB10 hT10 hBl10 HB8 HT8 HBl8 HO8 hSL hsn
            go_wp2
            go_loopw [8] (fun k wx => ∃ kk : Nat, k = .int .i64 kk ∧ kk ≤ sn ∧ posB SL (S.data.toList, L[j].2) sn = posB SL (S.data.toList, L[j].2) kk ∧ Below W10.heap.size W10 wx) (fun k wx => (intOf k).toNat)
            case atStart => exact ⟨sn, rfl, Nat.le_refl _, rfl, Below.refl _ _⟩
            case round =>
              obtain ⟨kk, rfl, hkk, hpos, hbx⟩ := hrel
              have HBx2 := Lib.hid hbx
              have HC11 : Hid (∀ W, Below W10.heap.size W10 W → W.cell? ⟨w.heap.size + 2, 1, none⟩ = some (.slice la sn lc) ∧ W.cell? ⟨p, 0, none⟩ = some (.string S)) := Lib.hid (fun W hW => ⟨(hW.cell (p := ⟨w.heap.size + 2, 1, none⟩) (show w.heap.size + 2 < W10.heap.size by have := HO10.out.size; omega)).trans o1, (hW.cell (p := ⟨p, 0, none⟩) (Array.getElem?_eq_some_iff.1 HB10.out).1).trans HB10.out.cells.1⟩)
              cases kk with
              | zero =>
                have z0 : decide ((0 : Int) < ((0 : Nat) : Int)) = false := by simp
                go_upto_region 13 with (fail)
                refine region_det (by kernel_rfl) (fun w' => Below W10.heap.size W10 w') (hbx.drew) (by kernel_rfl) ?_
                simp only [List.toList_toArray]
                repeat' (first
                  | (refine det_shut (by rfl) ?_; (simp only [Act.put, List.setIfInBounds_toArray, List.set_cons_zero, List.set_cons_succ]))
                  | (apply det_val; (case hw => rfl); (case hv => (intro w' hS; go_simp; first | done | with_reducible exact rfl)); (simp only [Act.put, List.setIfInBounds_toArray, List.set_cons_zero, List.set_cons_succ]))
                  | (apply det_call; (case hw => rfl); (case hv => (intro w' hS; go_simp; first | done | with_reducible exact rfl | with_reducible exact ⟨rfl, rfl⟩)); (case hc => (intro w' hS; (first | (go_at_call 33; with_reducible exact HCa.out w')))); (simp only [Act.put, List.setIfInBounds_toArray, List.set_cons_zero, List.set_cons_succ]))
                  | fail)
                intro wz hbz
                have HBz := Lib.hid hbz
                obtain ⟨kx, hkx0⟩ : ∃ q : Nat, q = 0 := ⟨_, rfl⟩
                have hpk : posB SL (S.data.toList, L[j].2) SL.length = kx := by rw [← HSn.out, hpos, hkx0]; rfl
                have hkx : kx ≤ sn := by omega
                have hsl9 : SL.length ≤ 999 := by have := insF_len (normL (L.take j)) []; rw [← HSL.out] at this; rw [this]; unfold normL; rw [List.length_map, List.length_take]; simp; omega
                have HNx : Hid (SL.take kx ++ (S.data.toList, L[j].2) :: SL.drop kx = (normL (L.take (j + 1))).foldl insB []) := Lib.hid (by rw [normL_take L j hjl, List.foldl_append, ← HSL.out, ← HXl.out, HNm.out]; show _ = insB SL _; unfold insB; rw [hpk])
                obtain ⟨P9, hr9, hs9⟩ := HO10.out.own
                obtain ⟨-, hsh⟩ := rowP_shape hr9
                rw [show ((0 : Nat) : Int) = (kx : Int) from by rw [hkx0]]
                clear hpos hpk hkx0 hr9 hs9
                rcases hsh with ⟨rfl, h0, h1⟩ | ⟨⟨g0, cs0, rfl, _⟩, hcp⟩
                · obtain rfl : kx = 0 := by omega
                  subst h0
                  subst h1
                  obtain ⟨v15, w15, v16, w16, v17, w17, r15, r16, r17, c0, c1, c2, c3, c4, hne⟩ := three_appends (HO10.out.go HBz.out) ((HBz.out.block p (Array.getElem?_eq_some_iff.1 HB10.out).1).trans HB10.out) (isTo_strB_go HT10.out HBz.out) hkx hsl9 25
                  obtain ⟨xa7, xn7, xc7, rfl⟩ : ∃ a n c, v17 = .slice a n c := by obtain ⟨P7, hr7, _⟩ := hne.own; obtain ⟨a, c, e⟩ := rowP_slice hr7; exact ⟨a, _, c, e⟩
                  have q0 := (HC11.out _ (HBz.out.alloc HBz.out.size (.cells #[] 56))).1
                  have HNe := Lib.hid hne; have R15 := Lib.hid r15; have R16 := Lib.hid r16; have R17 := Lib.hid r17
                  clear hne r15 r16 r17
                  go_wp2_with (first
                    | (at_builtin; refine Lib.wpList_append_run _ rfl (.tmp 71) (.tmp 75) _ _ rfl _ _ rfl rfl v15 w15 R15.out ?_)
                    | (at_builtin; refine Lib.wpList_append_run _ rfl (.tmp 77) (.tmp 79) _ _ rfl _ _ rfl rfl v16 w16 R16.out ?_)
                    | (at_builtin; refine Lib.wpList_append_run _ rfl (.tmp 81) (.tmp 85) _ _ rfl _ _ rfl rfl (.slice xa7 xn7 xc7) w17 R17.out ?_))
                  go_roundw
                  case rel => exact ⟨j + 1, by omega, by go_num, .slice xa7 xn7 xc7, HNx.out ▸ HNe.out⟩
                  case measure => simp [intOf]; omega
                · have y0 : kx ≤ lc := by omega
                  have y1 : (kx : Int) ≤ (lc : Int) := by omega
                  have y2 : (0 : Int) ≤ (kx : Int) := by omega
                  have y3 : (kx : Int) ≤ (sn : Int) := by omega
                  have hadd : ∀ q : Nat, (⟨g0, 0, none⟩ : Addr).add q = ⟨g0, q, none⟩ := fun q => by simp [Addr.add] <;> omega
                  obtain ⟨v15, w15, v16, w16, v17, w17, r15, r16, r17, c0, c1, c2, c3, c4, hne⟩ := three_appends (HO10.out.go HBz.out) ((HBz.out.block p (Array.getElem?_eq_some_iff.1 HB10.out).1).trans HB10.out) (isTo_strB_go HT10.out HBz.out) hkx hsl9 25
                  obtain ⟨xa7, xn7, xc7, rfl⟩ : ∃ a n c, v17 = .slice a n c := by obtain ⟨P7, hr7, _⟩ := hne.own; obtain ⟨a, c, e⟩ := rowP_slice hr7; exact ⟨a, _, c, e⟩
                  have q0 := (HC11.out _ (HBz.out.alloc HBz.out.size (.cells #[] 56))).1
                  have HNe := Lib.hid hne; have R15 := Lib.hid r15; have R16 := Lib.hid r16; have R17 := Lib.hid r17
                  clear hne r15 r16 r17
                  go_wp2_with (first
                    | (at_builtin; refine Lib.wpList_append_run _ rfl (.tmp 71) (.tmp 75) _ _ rfl _ _ rfl rfl v15 w15 R15.out ?_)
                    | (at_builtin; refine Lib.wpList_append_run _ rfl (.tmp 77) (.tmp 79) _ _ rfl _ _ rfl rfl v16 w16 R16.out ?_)
                    | (at_builtin; refine Lib.wpList_append_run _ rfl (.tmp 81) (.tmp 85) _ _ rfl _ _ rfl (by go_simp) (.slice xa7 xn7 xc7) w17 R17.out ?_))
                  go_roundw
                  case rel => exact ⟨j + 1, by omega, by go_num, .slice xa7 xn7 xc7, HNx.out ▸ HNe.out⟩
                  case measure => simp [intOf]; omega
              | succ i =>
                have hin : i < SL.length := by rw [← HSn.out]; omega
                have hsn1 : sn ≤ 1000 := by have := insF_len (normL (L.take j)) []; rw [← HSL.out] at this; rw [HSn.out, this]; unfold normL; rw [List.length_map, List.length_take]; simp; omega
                obtain ⟨la2, lc2, hae, _, hac⟩ := ownM_isA HO10.out.own (by have := insF_len (normL (L.take j)) []; rw [← HSL.out] at this; rw [this]; unfold normL maxLen; rw [List.length_map, List.length_take]; simp; omega)
                obtain ⟨g, off2, ux, hla, hgl, hg0, _, _⟩ := hac i hin
                simp only [Value.slice.injEq] at hae
                obtain ⟨rfl, _, _⟩ := hae
                subst hla
                obtain ⟨Y, hY⟩ : ∃ Y : ByteArray, ⟨SL[i].1.toArray⟩ = Y := ⟨_, rfl⟩
                have hYl : Y.data.toList = SL[i].1 := by rw [← hY]
                have hg0 : W10.cell? ⟨g, off2 + i * 2, none⟩ = some (.string Y) := by rw [hg0, ← hY]; rfl
                have HC12 : Hid (∀ W, Below W10.heap.size W10 W → W.cell? ⟨w.heap.size + 2, 1, none⟩ = some (.slice (some ⟨g, off2, none⟩) sn lc) ∧ W.cell? ⟨p, 0, none⟩ = some (.string S) ∧ W.cell? ⟨g, off2 + i * 2, none⟩ = some (.string Y) ∧ Below W10.heap.size W10 W) := Lib.hid (fun W hW => ⟨(HC11.out W hW).1, (HC11.out W hW).2, (hW.cell (p := ⟨g, off2 + i * 2, none⟩) hgl).trans hg0, hW⟩)
                have hst := HC12.out _ hbx.drew
                have z0 : decide ((0 : Int) < ((i + 1 : Nat) : Int)) = true := by simp <;> omega
                have z1 : ((i + 1 : Nat) : Int) - 1 = (i : Int) := by omega
                have z2 : (0 : Int) ≤ (i : Int) := by omega
                have z3 : (i : Int) < (sn : Int) := by omega
                have z4 : i < sn := by omega
                have z5 : i ≤ 1000 := by omega
                have zw : IntKind.i64.wrap (i : Int) = (i : Int) := by simp [IntKind.wrap, IntKind.bits, IntKind.signed]; omega
                have z6 : (i : Int) < (SL.length : Int) := by omega
                obtain ⟨gg, hgg⟩ : ∃ gg, gtB SL[i].1 S.data.toList = gg := ⟨_, rfl⟩
                have t3 : (!Op.bytesLess Y.toList S.toList && !(Y.toList == S.toList)) = gg := by rw [← hgg]; unfold gtB; rw [ByteArray.toList_eq, ByteArray.toList_eq, hYl]
                clear hg0 hac hY
                cases gg with
                | true =>
                  rw [posB_go hin hgg] at hpos
                  go_upto_region 13 with (fail)
                  refine region_det (by kernel_rfl) (fun w' => w'.cell? ⟨w.heap.size + 2, 1, none⟩ = some (.slice (some ⟨g, off2, none⟩) sn lc) ∧ w'.cell? ⟨p, 0, none⟩ = some (.string S) ∧ w'.cell? ⟨g, off2 + i * 2, none⟩ = some (.string Y) ∧ Below W10.heap.size W10 w') (hst) (by kernel_rfl) ?_
                  simp only [List.toList_toArray]
                  repeat' (first
                    | (refine det_shut (by rfl) ?_; (simp only [Act.put, List.setIfInBounds_toArray, List.set_cons_zero, List.set_cons_succ]))
                    | (apply det_val; (case hw => rfl); (case hv => (intro w' hS; (obtain ⟨s0, s1, s2, s3⟩ := hS); go_simp; first | done | with_reducible exact rfl)); (simp only [Act.put, List.setIfInBounds_toArray, List.set_cons_zero, List.set_cons_succ]))
                    | (apply det_call; (case hw => rfl); (case hv => (intro w' hS; (obtain ⟨s0, s1, s2, s3⟩ := hS); go_simp; first | done | with_reducible exact rfl | with_reducible exact ⟨rfl, rfl⟩)); (case hc => (intro w' hS; (first | (go_at_call 33; with_reducible exact HCa.out w')))); (simp only [Act.put, List.setIfInBounds_toArray, List.set_cons_zero, List.set_cons_succ]))
                    | fail)
                  intro wz hSz
                  have HBz := Lib.hid hSz.2.2.2
                  go_wp2
                  go_roundw
                  case rel => exact ⟨i, by first | rfl | (rw [z1]) | go_num, by omega, hpos, HBz.out⟩
                  case measure => simp [intOf] <;> omega
                | false =>
                  rw [posB_stop hin hgg] at hpos
                  go_upto_region 13 with (fail)
                  refine region_det (by kernel_rfl) (fun w' => w'.cell? ⟨w.heap.size + 2, 1, none⟩ = some (.slice (some ⟨g, off2, none⟩) sn lc) ∧ w'.cell? ⟨p, 0, none⟩ = some (.string S) ∧ w'.cell? ⟨g, off2 + i * 2, none⟩ = some (.string Y) ∧ Below W10.heap.size W10 w') (hst) (by kernel_rfl) ?_
                  simp only [List.toList_toArray]
                  repeat' (first
                    | (refine det_shut (by rfl) ?_; (simp only [Act.put, List.setIfInBounds_toArray, List.set_cons_zero, List.set_cons_succ]))
                    | (apply det_val; (case hw => rfl); (case hv => (intro w' hS; (obtain ⟨s0, s1, s2, s3⟩ := hS); go_simp; first | done | with_reducible exact rfl)); (simp only [Act.put, List.setIfInBounds_toArray, List.set_cons_zero, List.set_cons_succ]))
                    | (apply det_call; (case hw => rfl); (case hv => (intro w' hS; (obtain ⟨s0, s1, s2, s3⟩ := hS); go_simp; first | done | with_reducible exact rfl | with_reducible exact ⟨rfl, rfl⟩)); (case hc => (intro w' hS; (first | (go_at_call 33; with_reducible exact HCa.out w')))); (simp only [Act.put, List.setIfInBounds_toArray, List.set_cons_zero, List.set_cons_succ]))
                    | fail)
                  intro wz hSz
                  have HBz := Lib.hid hSz.2.2.2
                  obtain ⟨kx, hkx0⟩ : ∃ q : Nat, q = i + 1 := ⟨_, rfl⟩
                  have hpk : posB SL (S.data.toList, L[j].2) SL.length = kx := by rw [← HSn.out, hpos, hkx0]
                  have hkx : kx ≤ sn := by omega
                  have hsl9 : SL.length ≤ 999 := by have := insF_len (normL (L.take j)) []; rw [← HSL.out] at this; rw [this]; unfold normL; rw [List.length_map, List.length_take]; simp; omega
                  have HNx : Hid (SL.take kx ++ (S.data.toList, L[j].2) :: SL.drop kx = (normL (L.take (j + 1))).foldl insB []) := Lib.hid (by rw [normL_take L j hjl, List.foldl_append, ← HSL.out, ← HXl.out, HNm.out]; show _ = insB SL _; unfold insB; rw [hpk])
                  obtain ⟨P9, hr9, hs9⟩ := HO10.out.own
                  obtain ⟨-, hsh⟩ := rowP_shape hr9
                  rw [show ((i + 1 : Nat) : Int) = (kx : Int) from by rw [hkx0]]
                  clear hpos hpk hkx0 hr9 hs9
                  obtain ⟨⟨g0, cs0, hla0, _⟩, hcp⟩ : (∃ g' cs', (some ⟨g, off2, none⟩ : Option Addr) = some ⟨g', 0, none⟩ ∧ W10.heap[g']? = some (.cells cs' 56 (0, 0))) ∧ sn ≤ lc := by
                    rcases hsh with ⟨h', _⟩ | h'
                    · exact absurd h' (by simp)
                    · exact h'
                  simp only [Option.some.injEq, Addr.mk.injEq, true_and, and_true] at hla0
                  obtain ⟨rfl, rfl⟩ := hla0
                  have y0 : kx ≤ lc := by omega
                  have y1 : (kx : Int) ≤ (lc : Int) := by omega
                  have y2 : (0 : Int) ≤ (kx : Int) := by omega
                  have y3 : (kx : Int) ≤ (sn : Int) := by omega
                  have hadd : ∀ q : Nat, (⟨g, 0, none⟩ : Addr).add q = ⟨g, q, none⟩ := fun q => by simp [Addr.add] <;> omega
                  obtain ⟨v15, w15, v16, w16, v17, w17, r15, r16, r17, c0, c1, c2, c3, c4, hne⟩ := three_appends (HO10.out.go HBz.out) ((HBz.out.block p (Array.getElem?_eq_some_iff.1 HB10.out).1).trans HB10.out) (isTo_strB_go HT10.out HBz.out) hkx hsl9 25
                  obtain ⟨xa7, xn7, xc7, rfl⟩ : ∃ a n c, v17 = .slice a n c := by obtain ⟨P7, hr7, _⟩ := hne.own; obtain ⟨a, c, e⟩ := rowP_slice hr7; exact ⟨a, _, c, e⟩
                  have q0 := (HC11.out _ (HBz.out.alloc HBz.out.size (.cells #[] 56))).1
                  have HNe := Lib.hid hne; have R15 := Lib.hid r15; have R16 := Lib.hid r16; have R17 := Lib.hid r17
                  clear hne r15 r16 r17
                  go_wp2_with (first
                    | (at_builtin; refine Lib.wpList_append_run _ rfl (.tmp 71) (.tmp 75) _ _ rfl _ _ rfl rfl v15 w15 R15.out ?_)
                    | (at_builtin; refine Lib.wpList_append_run _ rfl (.tmp 77) (.tmp 79) _ _ rfl _ _ rfl rfl v16 w16 R16.out ?_)
                    | (at_builtin; refine Lib.wpList_append_run _ rfl (.tmp 81) (.tmp 85) _ _ rfl _ _ rfl (by go_simp) (.slice xa7 xn7 xc7) w17 R17.out ?_))
                  go_roundw
                  case rel => exact ⟨j + 1, by omega, by go_num, .slice xa7 xn7 xc7, HNx.out ▸ HNe.out⟩
                  case measure => simp [intOf]; omega
          · rw [hc2] at hca
            have HCa := Lib.hid hca
            have HNm := Lib.hid hc3
            obtain ⟨b0, _, b2, _⟩ := HB8.out.cells
            clear hca hc1 hc2 hc3
            go_upto_region 12 with (go_at_call 33; refine (HCa.out _).mono ?_; rintro e w9 ⟨rfl, hb9⟩; have hb9a := bthen hb9 ((Below.refl w9.heap.size w9).alloc (Nat.le_refl _) (.cells #[.string ⟨#[]⟩, .bool false] 60)); have hpl : p < W8.heap.size := (Array.getElem?_eq_some_iff.1 HB8.out).1; have hB10 : BoxT (w9.alloc (.cells #[.string ⟨#[]⟩, .bool false] 60)) p X (.slice xa L[j].2.length xc) := (hb9a.block p hpl).trans HB8.out; have hT10 := isTo_strB_go HT8.out hb9a; have hBl10 := bthen HBl8.out hb9a; clear hb9 hb9a)
            generalize (w9.alloc (.cells #[.string ⟨#[]⟩, .bool false] 60)) = W10 at hB10 hT10 hBl10 ⊢
            have HO10 := Lib.hid (HO.out.go hBl10)
            have HB10 := Lib.hid hB10
            have HT10 := Lib.hid hT10
            have HBl10 := Lib.hid hBl10
            have o1 := HO10.out.out.cells.2
            obtain ⟨SL, hSL⟩ : ∃ S, S = (normL (L.take j)).foldl insB [] := ⟨_, rfl⟩
            rw [← hSL] at HO10
            obtain ⟨la, lc, hle2⟩ := (show ∃ a c, l = .slice a SL.length c from by obtain ⟨P, hr, hs⟩ := HO10.out.own; rw [← hs.1]; exact rowP_slice hr)
            obtain ⟨sn, hsn⟩ : ∃ k, k = SL.length := ⟨_, rfl⟩
            rw [← hsn] at hle2
            subst hle2
            have HSL := Lib.hid hSL
            have HSn := Lib.hid hsn
            clear b0 b2 hB10 hT10 hBl10 HB8 HT8 HBl8 HO8 hSL hsn
            go_wp2
            go_loopw [8] (fun k wx => ∃ kk : Nat, k = .int .i64 kk ∧ kk ≤ sn ∧ posB SL (X.data.toList, L[j].2) sn = posB SL (X.data.toList, L[j].2) kk ∧ Below W10.heap.size W10 wx) (fun k wx => (intOf k).toNat)
            case atStart => exact ⟨sn, rfl, Nat.le_refl _, rfl, Below.refl _ _⟩
            case round =>
              obtain ⟨kk, rfl, hkk, hpos, hbx⟩ := hrel
              have HBx2 := Lib.hid hbx
              have HC11 : Hid (∀ W, Below W10.heap.size W10 W → W.cell? ⟨w.heap.size + 2, 1, none⟩ = some (.slice la sn lc) ∧ W.cell? ⟨p, 0, none⟩ = some (.string X)) := Lib.hid (fun W hW => ⟨(hW.cell (p := ⟨w.heap.size + 2, 1, none⟩) (show w.heap.size + 2 < W10.heap.size by have := HO10.out.size; omega)).trans o1, (hW.cell (p := ⟨p, 0, none⟩) (Array.getElem?_eq_some_iff.1 HB10.out).1).trans HB10.out.cells.1⟩)
              cases kk with
              | zero =>
                have z0 : decide ((0 : Int) < ((0 : Nat) : Int)) = false := by simp
                go_upto_region 13 with (fail)
                refine region_det (by kernel_rfl) (fun w' => Below W10.heap.size W10 w') (hbx.drew) (by kernel_rfl) ?_
                simp only [List.toList_toArray]
                repeat' (first
                  | (refine det_shut (by rfl) ?_; (simp only [Act.put, List.setIfInBounds_toArray, List.set_cons_zero, List.set_cons_succ]))
                  | (apply det_val; (case hw => rfl); (case hv => (intro w' hS; go_simp; first | done | with_reducible exact rfl)); (simp only [Act.put, List.setIfInBounds_toArray, List.set_cons_zero, List.set_cons_succ]))
                  | (apply det_call; (case hw => rfl); (case hv => (intro w' hS; go_simp; first | done | with_reducible exact rfl | with_reducible exact ⟨rfl, rfl⟩)); (case hc => (intro w' hS; (first | (go_at_call 33; with_reducible exact HCa.out w')))); (simp only [Act.put, List.setIfInBounds_toArray, List.set_cons_zero, List.set_cons_succ]))
                  | fail)
                intro wz hbz
                have HBz := Lib.hid hbz
                obtain ⟨kx, hkx0⟩ : ∃ q : Nat, q = 0 := ⟨_, rfl⟩
                have hpk : posB SL (X.data.toList, L[j].2) SL.length = kx := by rw [← HSn.out, hpos, hkx0]; rfl
                have hkx : kx ≤ sn := by omega
                have hsl9 : SL.length ≤ 999 := by have := insF_len (normL (L.take j)) []; rw [← HSL.out] at this; rw [this]; unfold normL; rw [List.length_map, List.length_take]; simp; omega
                have HNx : Hid (SL.take kx ++ (X.data.toList, L[j].2) :: SL.drop kx = (normL (L.take (j + 1))).foldl insB []) := Lib.hid (by rw [normL_take L j hjl, List.foldl_append, ← HSL.out, ← HXl.out, HNm.out]; show _ = insB SL _; unfold insB; rw [hpk])
                obtain ⟨P9, hr9, hs9⟩ := HO10.out.own
                obtain ⟨-, hsh⟩ := rowP_shape hr9
                rw [show ((0 : Nat) : Int) = (kx : Int) from by rw [hkx0]]
                clear hpos hpk hkx0 hr9 hs9
                rcases hsh with ⟨rfl, h0, h1⟩ | ⟨⟨g0, cs0, rfl, _⟩, hcp⟩
                · obtain rfl : kx = 0 := by omega
                  subst h0
                  subst h1
                  obtain ⟨v15, w15, v16, w16, v17, w17, r15, r16, r17, c0, c1, c2, c3, c4, hne⟩ := three_appends (HO10.out.go HBz.out) ((HBz.out.block p (Array.getElem?_eq_some_iff.1 HB10.out).1).trans HB10.out) (isTo_strB_go HT10.out HBz.out) hkx hsl9 25
                  obtain ⟨xa7, xn7, xc7, rfl⟩ : ∃ a n c, v17 = .slice a n c := by obtain ⟨P7, hr7, _⟩ := hne.own; obtain ⟨a, c, e⟩ := rowP_slice hr7; exact ⟨a, _, c, e⟩
                  have q0 := (HC11.out _ (HBz.out.alloc HBz.out.size (.cells #[] 56))).1
                  have HNe := Lib.hid hne; have R15 := Lib.hid r15; have R16 := Lib.hid r16; have R17 := Lib.hid r17
                  clear hne r15 r16 r17
                  go_wp2_with (first
                    | (at_builtin; refine Lib.wpList_append_run _ rfl (.tmp 71) (.tmp 75) _ _ rfl _ _ rfl rfl v15 w15 R15.out ?_)
                    | (at_builtin; refine Lib.wpList_append_run _ rfl (.tmp 77) (.tmp 79) _ _ rfl _ _ rfl rfl v16 w16 R16.out ?_)
                    | (at_builtin; refine Lib.wpList_append_run _ rfl (.tmp 81) (.tmp 85) _ _ rfl _ _ rfl rfl (.slice xa7 xn7 xc7) w17 R17.out ?_))
                  go_roundw
                  case rel => exact ⟨j + 1, by omega, by go_num, .slice xa7 xn7 xc7, HNx.out ▸ HNe.out⟩
                  case measure => simp [intOf]; omega
                · have y0 : kx ≤ lc := by omega
                  have y1 : (kx : Int) ≤ (lc : Int) := by omega
                  have y2 : (0 : Int) ≤ (kx : Int) := by omega
                  have y3 : (kx : Int) ≤ (sn : Int) := by omega
                  have hadd : ∀ q : Nat, (⟨g0, 0, none⟩ : Addr).add q = ⟨g0, q, none⟩ := fun q => by simp [Addr.add] <;> omega
                  obtain ⟨v15, w15, v16, w16, v17, w17, r15, r16, r17, c0, c1, c2, c3, c4, hne⟩ := three_appends (HO10.out.go HBz.out) ((HBz.out.block p (Array.getElem?_eq_some_iff.1 HB10.out).1).trans HB10.out) (isTo_strB_go HT10.out HBz.out) hkx hsl9 25
                  obtain ⟨xa7, xn7, xc7, rfl⟩ : ∃ a n c, v17 = .slice a n c := by obtain ⟨P7, hr7, _⟩ := hne.own; obtain ⟨a, c, e⟩ := rowP_slice hr7; exact ⟨a, _, c, e⟩
                  have q0 := (HC11.out _ (HBz.out.alloc HBz.out.size (.cells #[] 56))).1
                  have HNe := Lib.hid hne; have R15 := Lib.hid r15; have R16 := Lib.hid r16; have R17 := Lib.hid r17
                  clear hne r15 r16 r17
                  go_wp2_with (first
                    | (at_builtin; refine Lib.wpList_append_run _ rfl (.tmp 71) (.tmp 75) _ _ rfl _ _ rfl rfl v15 w15 R15.out ?_)
                    | (at_builtin; refine Lib.wpList_append_run _ rfl (.tmp 77) (.tmp 79) _ _ rfl _ _ rfl rfl v16 w16 R16.out ?_)
                    | (at_builtin; refine Lib.wpList_append_run _ rfl (.tmp 81) (.tmp 85) _ _ rfl _ _ rfl (by go_simp) (.slice xa7 xn7 xc7) w17 R17.out ?_))
                  go_roundw
                  case rel => exact ⟨j + 1, by omega, by go_num, .slice xa7 xn7 xc7, HNx.out ▸ HNe.out⟩
                  case measure => simp [intOf]; omega
              | succ i =>
                have hin : i < SL.length := by rw [← HSn.out]; omega
                have hsn1 : sn ≤ 1000 := by have := insF_len (normL (L.take j)) []; rw [← HSL.out] at this; rw [HSn.out, this]; unfold normL; rw [List.length_map, List.length_take]; simp; omega
                obtain ⟨la2, lc2, hae, _, hac⟩ := ownM_isA HO10.out.own (by have := insF_len (normL (L.take j)) []; rw [← HSL.out] at this; rw [this]; unfold normL maxLen; rw [List.length_map, List.length_take]; simp; omega)
                obtain ⟨g, off2, ux, hla, hgl, hg0, _, _⟩ := hac i hin
                simp only [Value.slice.injEq] at hae
                obtain ⟨rfl, _, _⟩ := hae
                subst hla
                obtain ⟨Y, hY⟩ : ∃ Y : ByteArray, ⟨SL[i].1.toArray⟩ = Y := ⟨_, rfl⟩
                have hYl : Y.data.toList = SL[i].1 := by rw [← hY]
                have hg0 : W10.cell? ⟨g, off2 + i * 2, none⟩ = some (.string Y) := by rw [hg0, ← hY]; rfl
                have HC12 : Hid (∀ W, Below W10.heap.size W10 W → W.cell? ⟨w.heap.size + 2, 1, none⟩ = some (.slice (some ⟨g, off2, none⟩) sn lc) ∧ W.cell? ⟨p, 0, none⟩ = some (.string X) ∧ W.cell? ⟨g, off2 + i * 2, none⟩ = some (.string Y) ∧ Below W10.heap.size W10 W) := Lib.hid (fun W hW => ⟨(HC11.out W hW).1, (HC11.out W hW).2, (hW.cell (p := ⟨g, off2 + i * 2, none⟩) hgl).trans hg0, hW⟩)
                have hst := HC12.out _ hbx.drew
                have z0 : decide ((0 : Int) < ((i + 1 : Nat) : Int)) = true := by simp <;> omega
                have z1 : ((i + 1 : Nat) : Int) - 1 = (i : Int) := by omega
                have z2 : (0 : Int) ≤ (i : Int) := by omega
                have z3 : (i : Int) < (sn : Int) := by omega
                have z4 : i < sn := by omega
                have z5 : i ≤ 1000 := by omega
                have zw : IntKind.i64.wrap (i : Int) = (i : Int) := by simp [IntKind.wrap, IntKind.bits, IntKind.signed]; omega
                have z6 : (i : Int) < (SL.length : Int) := by omega
                obtain ⟨gg, hgg⟩ : ∃ gg, gtB SL[i].1 X.data.toList = gg := ⟨_, rfl⟩
                have t3 : (!Op.bytesLess Y.toList X.toList && !(Y.toList == X.toList)) = gg := by rw [← hgg]; unfold gtB; rw [ByteArray.toList_eq, ByteArray.toList_eq, hYl]
                clear hg0 hac hY
                cases gg with
                | true =>
                  rw [posB_go hin hgg] at hpos
                  go_upto_region 13 with (fail)
                  refine region_det (by kernel_rfl) (fun w' => w'.cell? ⟨w.heap.size + 2, 1, none⟩ = some (.slice (some ⟨g, off2, none⟩) sn lc) ∧ w'.cell? ⟨p, 0, none⟩ = some (.string X) ∧ w'.cell? ⟨g, off2 + i * 2, none⟩ = some (.string Y) ∧ Below W10.heap.size W10 w') (hst) (by kernel_rfl) ?_
                  simp only [List.toList_toArray]
                  repeat' (first
                    | (refine det_shut (by rfl) ?_; (simp only [Act.put, List.setIfInBounds_toArray, List.set_cons_zero, List.set_cons_succ]))
                    | (apply det_val; (case hw => rfl); (case hv => (intro w' hS; (obtain ⟨s0, s1, s2, s3⟩ := hS); go_simp; first | done | with_reducible exact rfl)); (simp only [Act.put, List.setIfInBounds_toArray, List.set_cons_zero, List.set_cons_succ]))
                    | (apply det_call; (case hw => rfl); (case hv => (intro w' hS; (obtain ⟨s0, s1, s2, s3⟩ := hS); go_simp; first | done | with_reducible exact rfl | with_reducible exact ⟨rfl, rfl⟩)); (case hc => (intro w' hS; (first | (go_at_call 33; with_reducible exact HCa.out w')))); (simp only [Act.put, List.setIfInBounds_toArray, List.set_cons_zero, List.set_cons_succ]))
                    | fail)
                  intro wz hSz
                  have HBz := Lib.hid hSz.2.2.2
                  go_wp2
                  go_roundw
                  case rel => exact ⟨i, by first | rfl | (rw [z1]) | go_num, by omega, hpos, HBz.out⟩
                  case measure => simp [intOf] <;> omega
                | false =>
                  rw [posB_stop hin hgg] at hpos
                  go_upto_region 13 with (fail)
                  refine region_det (by kernel_rfl) (fun w' => w'.cell? ⟨w.heap.size + 2, 1, none⟩ = some (.slice (some ⟨g, off2, none⟩) sn lc) ∧ w'.cell? ⟨p, 0, none⟩ = some (.string X) ∧ w'.cell? ⟨g, off2 + i * 2, none⟩ = some (.string Y) ∧ Below W10.heap.size W10 w') (hst) (by kernel_rfl) ?_
                  simp only [List.toList_toArray]
                  repeat' (first
                    | (refine det_shut (by rfl) ?_; (simp only [Act.put, List.setIfInBounds_toArray, List.set_cons_zero, List.set_cons_succ]))
                    | (apply det_val; (case hw => rfl); (case hv => (intro w' hS; (obtain ⟨s0, s1, s2, s3⟩ := hS); go_simp; first | done | with_reducible exact rfl)); (simp only [Act.put, List.setIfInBounds_toArray, List.set_cons_zero, List.set_cons_succ]))
                    | (apply det_call; (case hw => rfl); (case hv => (intro w' hS; (obtain ⟨s0, s1, s2, s3⟩ := hS); go_simp; first | done | with_reducible exact rfl | with_reducible exact ⟨rfl, rfl⟩)); (case hc => (intro w' hS; (first | (go_at_call 33; with_reducible exact HCa.out w')))); (simp only [Act.put, List.setIfInBounds_toArray, List.set_cons_zero, List.set_cons_succ]))
                    | fail)
                  intro wz hSz
                  have HBz := Lib.hid hSz.2.2.2
                  obtain ⟨kx, hkx0⟩ : ∃ q : Nat, q = i + 1 := ⟨_, rfl⟩
                  have hpk : posB SL (X.data.toList, L[j].2) SL.length = kx := by rw [← HSn.out, hpos, hkx0]
                  have hkx : kx ≤ sn := by omega
                  have hsl9 : SL.length ≤ 999 := by have := insF_len (normL (L.take j)) []; rw [← HSL.out] at this; rw [this]; unfold normL; rw [List.length_map, List.length_take]; simp; omega
                  have HNx : Hid (SL.take kx ++ (X.data.toList, L[j].2) :: SL.drop kx = (normL (L.take (j + 1))).foldl insB []) := Lib.hid (by rw [normL_take L j hjl, List.foldl_append, ← HSL.out, ← HXl.out, HNm.out]; show _ = insB SL _; unfold insB; rw [hpk])
                  obtain ⟨P9, hr9, hs9⟩ := HO10.out.own
                  obtain ⟨-, hsh⟩ := rowP_shape hr9
                  rw [show ((i + 1 : Nat) : Int) = (kx : Int) from by rw [hkx0]]
                  clear hpos hpk hkx0 hr9 hs9
                  obtain ⟨⟨g0, cs0, hla0, _⟩, hcp⟩ : (∃ g' cs', (some ⟨g, off2, none⟩ : Option Addr) = some ⟨g', 0, none⟩ ∧ W10.heap[g']? = some (.cells cs' 56 (0, 0))) ∧ sn ≤ lc := by
                    rcases hsh with ⟨h', _⟩ | h'
                    · exact absurd h' (by simp)
                    · exact h'
                  simp only [Option.some.injEq, Addr.mk.injEq, true_and, and_true] at hla0
                  obtain ⟨rfl, rfl⟩ := hla0
                  have y0 : kx ≤ lc := by omega
                  have y1 : (kx : Int) ≤ (lc : Int) := by omega
                  have y2 : (0 : Int) ≤ (kx : Int) := by omega
                  have y3 : (kx : Int) ≤ (sn : Int) := by omega
                  have hadd : ∀ q : Nat, (⟨g, 0, none⟩ : Addr).add q = ⟨g, q, none⟩ := fun q => by simp [Addr.add] <;> omega
                  obtain ⟨v15, w15, v16, w16, v17, w17, r15, r16, r17, c0, c1, c2, c3, c4, hne⟩ := three_appends (HO10.out.go HBz.out) ((HBz.out.block p (Array.getElem?_eq_some_iff.1 HB10.out).1).trans HB10.out) (isTo_strB_go HT10.out HBz.out) hkx hsl9 25
                  obtain ⟨xa7, xn7, xc7, rfl⟩ : ∃ a n c, v17 = .slice a n c := by obtain ⟨P7, hr7, _⟩ := hne.own; obtain ⟨a, c, e⟩ := rowP_slice hr7; exact ⟨a, _, c, e⟩
                  have q0 := (HC11.out _ (HBz.out.alloc HBz.out.size (.cells #[] 56))).1
                  have HNe := Lib.hid hne; have R15 := Lib.hid r15; have R16 := Lib.hid r16; have R17 := Lib.hid r17
                  clear hne r15 r16 r17
                  go_wp2_with (first
                    | (at_builtin; refine Lib.wpList_append_run _ rfl (.tmp 71) (.tmp 75) _ _ rfl _ _ rfl rfl v15 w15 R15.out ?_)
                    | (at_builtin; refine Lib.wpList_append_run _ rfl (.tmp 77) (.tmp 79) _ _ rfl _ _ rfl rfl v16 w16 R16.out ?_)
                    | (at_builtin; refine Lib.wpList_append_run _ rfl (.tmp 81) (.tmp 85) _ _ rfl _ _ rfl (by go_simp) (.slice xa7 xn7 xc7) w17 R17.out ?_))
                  go_roundw
                  case rel => exact ⟨j + 1, by omega, by go_num, .slice xa7 xn7 xc7, HNx.out ▸ HNe.out⟩
                  case measure => simp [intOf]; omega
      · obtain rfl : j = n := by omega
        have t1 : decide ((j : Int) < (j : Int)) = false := by simp
        have hLj : L.take j = L := List.take_of_length_le (by rw [← HN.out]; exact Nat.le_refl _)
        rw [hLj, ← sortA_fold] at hO
        have HO := Lib.hid hO
        obtain ⟨la2, lc2, hle2⟩ := (show ∃ a c, l = .slice a (sortA (normL L)).length c from by obtain ⟨P, hr, hs⟩ := hO.own; rw [← hs.1]; exact rowP_slice hr)
        obtain ⟨sn, hsn⟩ : ∃ k, k = (sortA (normL L)).length := ⟨_, rfl⟩
        rw [← hsn] at hle2
        subst hle2
        have hz : sn ≤ maxLen := by rw [hsn, sortA_len2]; unfold normL maxLen; rw [List.length_map, ← HN.out]; omega
        obtain ⟨o0, o1⟩ := hO.out.cells
        obtain ⟨_, p0, p1, y0, y1⟩ := hO.box
        have HSn := Lib.hid hsn
        have HZ := Lib.hid hz
        clear hO hsn hz hLj
        go_wp2
        refine bodyPost_ret (v := .agg #[.string TD, .slice la2 sn lc2]) (by simp [results, Tryz.results19, go_sem, p0, p1]) rfl ⟨_, rfl, ?_, (HO.out.bel.setCell (p := ⟨w.heap.size + 1, 0, none⟩) (show w.heap.size ≤ w.heap.size + 1 by omega) _).setCell (p := ⟨w.heap.size + 1, 1, none⟩) (show w.heap.size ≤ w.heap.size + 1 by omega) _⟩
        have ho := ownM_entry (i := 1) (x := .slice la2 sn lc2) (ownM_entry (i := 0) (x := .string TD) HO.out.own HO.out.res (by omega)) (boxN_store0 HO.out.res) (by omega)
        exact ho
  | some l =>
    have hsm := okL_small (parse_ok e)
    have htx := fun v w h => textRef_any l hsm v w h
    have hT : strV (textD l) = .string TD := by
      rw [← hTD]; unfold nameN; rw [e]
    simp only [hT] at htx
    simp only [e] at hpa
    have HPa := Lib.hid hpa
    have HTx := Lib.hid htx
    clear h hs hm hcell hn hpa hTD hW3 hSt e heb hT htx hsm
    go_enter Tryz.func19, Tryz.ntmps19
    go_upto_region 5 with (first
      | (go_at_call 17; rw [HW3.out]; refine (HPa.out _).mono ?_; rintro e w2 ⟨hb2, v2, rfl, hil⟩; (obtain ⟨la, lc, rfl, _⟩ := id hil); have hb2a := (Below.refl w2.heap.size w2).alloc (Nat.le_refl _) (.cells #[.slice la l.length lc, .bool true] 53); have HIl := Lib.hid (hil.below hb2a hb2a.size); have HSt2 := Lib.hid (HSt.out.go (bthen hb2 hb2a)); clear hb2 hb2a hil)
      | (go_at_call 32; refine (HTx.out _ _ HIl.out).mono ?_; rintro e w4 ⟨rfl, hb4⟩; have HSt4 := Lib.hid (HSt2.out.go hb4); have p0 := HSt4.out.out.cells.1; have p1 := HSt4.out.out.free 0; clear hb4))
    have hst4 := NeAt.named (TD := TD) HSt4.out
    have HSt5 := Lib.hid hst4
    rw [show w.heap.size + 1 + 1 = w.heap.size + 2 from rfl]
    generalize (w4.setCell ⟨w.heap.size + 2, 0, none⟩ (.string TD)) = W5 at HSt5 ⊢
    clear hst4 p0 p1 HSt4 HSt2 HIl HW3 HBx HSt
    go_wp2
    go_loopw [5] (fun i wr => ∃ j : Nat, j ≤ n ∧ i = .int .i64 j ∧ NeI w TD d (.slice sa n sc) L wr j) (fun i wr => n - (intOf i).toNat)
    case atStart => exact ⟨0, by omega, rfl, _, HSt5.out⟩
    case round =>
      obtain ⟨j, hj, rfl, l, hO⟩ := hrel
      have HO := Lib.hid hO
      have c2 := hO.e1
      have hew : w.heap.size < wr.heap.size := by have := hO.size; omega
      by_cases hlt : j < n
      · have t1 : decide ((j : Int) < (n : Int)) = true := by simp; omega
        have t1' : decide (j < n) = true := by simpa using hlt
        have t1z : (0 : Int) ≤ (j : Int) := by omega
        have t1y : (j : Int) < (n : Int) := by omega
        have hjl : j < L.length := by rw [← HN.out]; exact hlt
        obtain ⟨b, off, u, rfl, hb0, k0, k1, hu⟩ := HC.out j hjl
        obtain ⟨ua, uc, hue, _⟩ := id hu
        obtain ⟨un, hun⟩ : ∃ k, k = L[j].2.length := ⟨_, rfl⟩
        rw [← hun] at hue
        subst hue
        clear hun
        obtain ⟨X, hX⟩ : ∃ X : ByteArray, ⟨L[j].1.toArray⟩ = X := ⟨_, rfl⟩
        have hXl : X.data.toList = L[j].1 := by rw [← hX]
        have c0 : wr.cell? ⟨b, off + j * 2, none⟩ = some (.string X) := by rw [hO.bel.cell (p := ⟨b, _, none⟩) hb0, k0, ← hX]; rfl
        have c1 := (hO.bel.cell (p := ⟨b, off + j * 2 + 1, none⟩) hb0).trans k1
        have hbw : b < wr.heap.size := Nat.lt_of_lt_of_le hb0 hO.bel.size
        have HU := Lib.hid hu
        have hgr0 := hO.bel
        have hle := hgr0.size
        have HXl := Lib.hid hXl
        clear hO k0 k1 hu hX hXl hb0
        go_upto_region 8 with (fail)
        refine region_factsB (by kernel_rfl) (FN wr.heap.size [.is (.pointer (some ⟨w.heap.size, 1, none⟩)), .is (.slice (some ⟨b, off, none⟩) n sc), .is (.int .i64 (j : Int)), .is (.pointer (some ⟨b, off + j * 2, none⟩)), .is (.pointer (some ⟨b, off + j * 2, none⟩)), .is (.string X), .emp, .is (.pointer (some ⟨w.heap.size, 1, none⟩)), .is (.slice (some ⟨b, off, none⟩) n sc), .is (.int .i64 (j : Int)), .is (.pointer (some ⟨b, off + j * 2, none⟩)), .is (.pointer (some ⟨b, off + j * 2 + 1, none⟩)), .is (.slice ua un uc), .txt L[j].2, .agg X L[j].2, .box]) (fun w w' => Below w.heap.size w w') (fun _ _ _ _ h hb => h.go hb) (fun _ _ _ h1 h2 => bthen h1 h2) (Below.refl _ _).drew (by kernel_rfl) rfl ?hs ?hl
        case hs =>
          intro listed a W hk i o ho hi hc
          have e1 := hk.read (t := 1) (by kernel_rfl) rfl
          have e5 := hk.read (t := 5) (by kernel_rfl) rfl
          have hgr : Below wr.heap.size wr W := hk.grown
          have d0 := (hgr.cell (p := ⟨b, off + j * 2, none⟩) hbw).trans c0
          have d1 := (hgr.cell (p := ⟨b, off + j * 2 + 1, none⟩) hbw).trans c1
          have d2 := (hgr.cell (p := ⟨w.heap.size, 1, none⟩) hew).trans c2
          match i, hi with
          | 0, _ =>
            obtain rfl := Option.some.inj ho
            exact wpOp_val rfl rfl (v := .pointer (some ⟨w.heap.size, 1, none⟩)) (w' := W) (by simp [go_sem, e1]) ⟨_, _, rfl, rfl, Below.refl _ _, rfl⟩
          | 1, _ =>
            obtain rfl := Option.some.inj ho
            obtain ⟨v0, g0, f0⟩ := hk.got (j := 0) rfl rfl (hc ⟨0, .data⟩ (by simp) rfl); obtain rfl : v0 = _ := f0
            exact wpOp_val rfl rfl (v := .slice (some ⟨b, off, none⟩) n sc) (w' := W) (by simp [go_sem, g0, d2]) ⟨_, _, rfl, rfl, Below.refl _ _, rfl⟩
          | 2, _ =>
            obtain rfl := Option.some.inj ho
            exact wpOp_val rfl rfl (v := .int .i64 (j : Int)) (w' := W) (by simp [go_sem, e5]) ⟨_, _, rfl, rfl, Below.refl _ _, rfl⟩
          | 3, _ =>
            obtain rfl := Option.some.inj ho
            obtain ⟨v1, g1, f1⟩ := hk.got (j := 1) rfl rfl (hc ⟨1, .data⟩ (by simp) rfl); obtain rfl : v1 = _ := f1
            obtain ⟨v2, g2, f2⟩ := hk.got (j := 2) rfl rfl (hc ⟨2, .data⟩ (by simp) rfl); obtain rfl : v2 = _ := f2
            exact wpOp_val rfl rfl (v := .pointer (some ⟨b, off + j * 2, none⟩)) (w' := W) (by simp [go_sem, g1, g2, t1, t1z, t1y]) ⟨_, _, rfl, rfl, Below.refl _ _, rfl⟩
          | 4, _ =>
            obtain rfl := Option.some.inj ho
            obtain ⟨v3, g3, f3⟩ := hk.got (j := 3) rfl rfl (hc ⟨3, .data⟩ (by simp) rfl); obtain rfl : v3 = _ := f3
            exact wpOp_val rfl rfl (v := .pointer (some ⟨b, off + j * 2, none⟩)) (w' := W) (by simp [go_sem, g3]) ⟨_, _, rfl, rfl, Below.refl _ _, rfl⟩
          | 5, _ =>
            obtain rfl := Option.some.inj ho
            obtain ⟨v4, g4, f4⟩ := hk.got (j := 4) rfl rfl (hc ⟨4, .data⟩ (by simp) rfl); obtain rfl : v4 = _ := f4
            exact wpOp_val rfl rfl (v := .string X) (w' := W) (by simp [go_sem, g4, d0]) ⟨_, _, rfl, rfl, Below.refl _ _, rfl⟩
          | 6, _ =>
            obtain rfl := Option.some.inj ho
            exact wpOp_val rfl rfl (v := .slice (some ⟨W.heap.size, 0, none⟩) 0 0) (w' := W.alloc (.cells #[] 9)) (by simp [go_sem]) ⟨_, _, rfl, rfl, (Below.refl _ _).alloc (Nat.le_refl _) _, ⟨_, rfl, hgr.size, heap_alloc_new W _⟩⟩
          | 7, _ =>
            obtain rfl := Option.some.inj ho
            exact wpOp_val rfl rfl (v := .pointer (some ⟨w.heap.size, 1, none⟩)) (w' := W) (by simp [go_sem, e1]) ⟨_, _, rfl, rfl, Below.refl _ _, rfl⟩
          | 8, _ =>
            obtain rfl := Option.some.inj ho
            obtain ⟨v7, g7, f7⟩ := hk.got (j := 7) rfl rfl (hc ⟨7, .data⟩ (by simp) rfl); obtain rfl : v7 = _ := f7
            exact wpOp_val rfl rfl (v := .slice (some ⟨b, off, none⟩) n sc) (w' := W) (by simp [go_sem, g7, d2]) ⟨_, _, rfl, rfl, Below.refl _ _, rfl⟩
          | 9, _ =>
            obtain rfl := Option.some.inj ho
            exact wpOp_val rfl rfl (v := .int .i64 (j : Int)) (w' := W) (by simp [go_sem, e5]) ⟨_, _, rfl, rfl, Below.refl _ _, rfl⟩
          | 10, _ =>
            obtain rfl := Option.some.inj ho
            obtain ⟨v8, g8, f8⟩ := hk.got (j := 8) rfl rfl (hc ⟨8, .data⟩ (by simp) rfl); obtain rfl : v8 = _ := f8
            obtain ⟨v9, g9, f9⟩ := hk.got (j := 9) rfl rfl (hc ⟨9, .data⟩ (by simp) rfl); obtain rfl : v9 = _ := f9
            exact wpOp_val rfl rfl (v := .pointer (some ⟨b, off + j * 2, none⟩)) (w' := W) (by simp [go_sem, g8, g9, t1, t1z, t1y]) ⟨_, _, rfl, rfl, Below.refl _ _, rfl⟩
          | 11, _ =>
            obtain rfl := Option.some.inj ho
            obtain ⟨v10, g10, f10⟩ := hk.got (j := 10) rfl rfl (hc ⟨10, .data⟩ (by simp) rfl); obtain rfl : v10 = _ := f10
            exact wpOp_val rfl rfl (v := .pointer (some ⟨b, off + j * 2 + 1, none⟩)) (w' := W) (by simp [go_sem, g10]) ⟨_, _, rfl, rfl, Below.refl _ _, rfl⟩
          | 12, _ =>
            obtain rfl := Option.some.inj ho
            obtain ⟨v11, g11, f11⟩ := hk.got (j := 11) rfl rfl (hc ⟨11, .data⟩ (by simp) rfl); obtain rfl : v11 = _ := f11
            exact wpOp_val rfl rfl (v := .slice ua un uc) (w' := W) (by simp [go_sem, g11, d1]) ⟨_, _, rfl, rfl, Below.refl _ _, rfl⟩
          | 13, _ =>
            obtain rfl := Option.some.inj ho
            obtain ⟨v6, g6, f6⟩ := hk.got (j := 6) rfl rfl (hc ⟨6, .data⟩ (by simp) rfl)
            obtain ⟨v12, g12, f12⟩ := hk.got (j := 12) rfl rfl (hc ⟨12, .data⟩ (by simp) rfl); obtain rfl : v12 = _ := f12
            obtain ⟨g, rfl, hgB, hgc⟩ := f6
            obtain ⟨v', w', hrun, hto, hbl⟩ := run_copy_T hgc ((HU.out.below hgr0 (Nat.le_refl _)).below (hgr.mono hle) (Nat.le_refl _)) (by have := (HS.out.2 _ (List.getElem_mem hjl)).2.1; omega) 47
            exact wpOp_val rfl rfl (v := v') (w' := w') (exec_append (s := .tmp 35) (x := .tmp 41) rfl (by simp [go_sem, g6]) (by simp [go_sem, g12]) hrun) ⟨_, _, rfl, rfl, hbl, hto⟩
          | 14, _ =>
            obtain rfl := Option.some.inj ho
            obtain ⟨v5, g5, f5⟩ := hk.got (j := 5) rfl rfl (hc ⟨5, .data⟩ (by simp) rfl); obtain rfl : v5 = _ := f5
            obtain ⟨v13, g13, f13⟩ := hk.got (j := 13) rfl rfl (hc ⟨13, .data⟩ (by simp) rfl)
            obtain ⟨xa, xc, rfl, _⟩ := id f13
            exact wpOp_val rfl rfl (v := .agg #[.string X, .slice xa L[j].2.length xc]) (w' := W) (by simp [go_sem, g5, g13]) ⟨_, _, rfl, rfl, Below.refl _ _, ⟨_, rfl, f13⟩⟩
          | 15, _ =>
            obtain rfl := Option.some.inj ho
            exact wpOp_val rfl rfl (v := .pointer (some ⟨W.heap.size, 0, none⟩)) (w' := W.alloc (.cells #[.string ⟨#[]⟩, .slice none 0 0] 56)) (by simp [go_sem]) ⟨_, _, rfl, rfl, (Below.refl _ _).alloc (Nat.le_refl _) _, ⟨_, rfl, hgr.size, heap_alloc_new W _⟩⟩
          | k + 16, h => exact absurd h (by simp)
        case hl =>
          intro listed a W hk hall
          obtain ⟨v14, g14, f14⟩ := hk.got (j := 14) rfl rfl (hall 14 (by simp))
          obtain ⟨v15, g15, f15⟩ := hk.got (j := 15) rfl rfl (hall 15 (by simp))
          obtain ⟨x, rfl, hto⟩ := f14
          obtain ⟨p, rfl, hpB, hpc⟩ := f15
          obtain ⟨xa, xc, rfl, _⟩ := id hto
          have hb8 : BoxT W p ⟨#[]⟩ (.slice none 0 0) := hpc
          have hb80 := hb8.set0 (y := X)
          have hb81 := hb80.set1 (v := .slice xa L[j].2.length xc)
          obtain ⟨q0, _, q2, _⟩ := hb8.cells
          obtain ⟨_, q1, _, q3⟩ := hb80.cells
          have hto8 := isTo_attr (i := 1) (x := .slice xa L[j].2.length xc) hb80 (isTo_attr (i := 0) (x := .string X) hb8 hto)
          have hgr : Below wr.heap.size wr W := hk.grown
          have hbl8 := (hgr.setCell (p := ⟨p, 0, none⟩) hpB (.string X)).setCell (p := ⟨p, 1, none⟩) hpB (.slice xa L[j].2.length xc)
          have hput := hk.puts
          refine wpOp_skip rfl rfl (w' := (W.setCell ⟨p, 0, none⟩ (.string X)).setCell ⟨p, 1, none⟩ (.slice xa L[j].2.length xc)) (by simp [go_sem, g14, g15, q0, q1, q2, q3]) ?_
          rw [hput]
          simp only [putT, g15]
          generalize a.tmps[29]?.getD undef = x29
          generalize a.tmps[30]?.getD undef = x30
          generalize a.tmps[31]?.getD undef = x31
          generalize a.tmps[32]?.getD undef = x32
          generalize a.tmps[33]?.getD undef = x33
          generalize a.tmps[34]?.getD undef = x34
          generalize a.tmps[35]?.getD undef = x35
          generalize a.tmps[36]?.getD undef = x36
          generalize a.tmps[37]?.getD undef = x37
          generalize a.tmps[38]?.getD undef = x38
          generalize a.tmps[39]?.getD undef = x39
          generalize a.tmps[40]?.getD undef = x40
          generalize a.tmps[41]?.getD undef = x41
          generalize a.tmps[42]?.getD undef = x42
          generalize a.tmps[43]?.getD undef = x43
          have HO8 := Lib.hid (HO.out.go hbl8)
          have HB8 := Lib.hid hb81
          have HT8 := Lib.hid hto8
          have hpz : wr.heap.size ≤ p := hpB
          have HBl8 := Lib.hid hbl8
          clear hall hput g14 g15 hto hpB hpc hb8 hb80 hb81 hto8 hbl8 hgr q0 q1 q2 q3 hk
          generalize ((W.setCell ⟨p, 0, none⟩ (.string X)).setCell ⟨p, 1, none⟩ (.slice xa L[j].2.length xc)) = W8 at HO8 HB8 HT8 HBl8 ⊢
          go_simp
          have hxs : X.size ≤ 281474976710656 := by have := (HS.out.2 _ (List.getElem_mem hjl)).1; rw [← HXl.out, bytes_len] at this; omega
          have hca := fun w => canonRef_any X hxs w
          rcases canon_forms X.data.toList with ⟨S, hc1, hc2, hc3⟩ | ⟨hc1, hc2, hc3⟩
          · rw [hc2] at hca
            have HCa := Lib.hid hca
            have HNm := Lib.hid hc3
            obtain ⟨b0, _, b2, _⟩ := HB8.out.cells
            clear hca hc1 hc2 hc3
            go_upto_region 12 with (go_at_call 33; refine (HCa.out _).mono ?_; rintro e w9 ⟨rfl, hb9⟩; have hb9a := bthen hb9 ((Below.refl w9.heap.size w9).alloc (Nat.le_refl _) (.cells #[.string S, .bool true] 60)); have hpl : p < W8.heap.size := (Array.getElem?_eq_some_iff.1 HB8.out).1; have q0 := (hb9a.cell (p := ⟨p, 0, none⟩) hpl).trans b0; have q2 := (hb9a.frozen (p := ⟨p, 0, none⟩) hpl).trans b2; have HB9 : Hid (BoxT (w9.alloc (.cells #[.string S, .bool true] 60)) p X (.slice xa L[j].2.length xc)) := Lib.hid ((hb9a.block p hpl).trans HB8.out); have HT9 := Lib.hid (isTo_strB_go HT8.out hb9a); have HBl9 := Lib.hid (bthen HBl8.out hb9a); clear hb9 hb9a)
            have hB10 := HB9.out.set0 (y := S)
            have hT10 := isTo_attr (i := 0) (x := .string S) HB9.out HT9.out
            have hBl10 := HBl9.out.setCell (p := ⟨p, 0, none⟩) hpz (.string S)
            generalize ((w9.alloc (.cells #[.string S, .bool true] 60)).setCell ⟨p, 0, none⟩ (.string S)) = W10 at hB10 hT10 hBl10 ⊢
            clear q0 q2 HB9 HT9 HBl9
            have HO10 := Lib.hid (HO.out.go hBl10)
            have HB10 := Lib.hid hB10
            have HT10 := Lib.hid hT10
            have HBl10 := Lib.hid hBl10
            have o1 := HO10.out.out.cells.2
            obtain ⟨SL, hSL⟩ : ∃ S, S = (normL (L.take j)).foldl insB [] := ⟨_, rfl⟩
            rw [← hSL] at HO10
            obtain ⟨la, lc, hle2⟩ := (show ∃ a c, l = .slice a SL.length c from by obtain ⟨P, hr, hs⟩ := HO10.out.own; rw [← hs.1]; exact rowP_slice hr)
            obtain ⟨sn, hsn⟩ : ∃ k, k = SL.length := ⟨_, rfl⟩
            rw [← hsn] at hle2
            subst hle2
            have HSL := Lib.hid hSL
            have HSn := Lib.hid hsn
            clear b0 b2 hB10 hT10 hBl10 HB8 HT8 HBl8 HO8 hSL hsn
            go_wp2
            go_loopw [8] (fun k wx => ∃ kk : Nat, k = .int .i64 kk ∧ kk ≤ sn ∧ posB SL (S.data.toList, L[j].2) sn = posB SL (S.data.toList, L[j].2) kk ∧ Below W10.heap.size W10 wx) (fun k wx => (intOf k).toNat)
            case atStart => exact ⟨sn, rfl, Nat.le_refl _, rfl, Below.refl _ _⟩
            case round =>
              obtain ⟨kk, rfl, hkk, hpos, hbx⟩ := hrel
              have HBx2 := Lib.hid hbx
              have HC11 : Hid (∀ W, Below W10.heap.size W10 W → W.cell? ⟨w.heap.size + 2, 1, none⟩ = some (.slice la sn lc) ∧ W.cell? ⟨p, 0, none⟩ = some (.string S)) := Lib.hid (fun W hW => ⟨(hW.cell (p := ⟨w.heap.size + 2, 1, none⟩) (show w.heap.size + 2 < W10.heap.size by have := HO10.out.size; omega)).trans o1, (hW.cell (p := ⟨p, 0, none⟩) (Array.getElem?_eq_some_iff.1 HB10.out).1).trans HB10.out.cells.1⟩)
              cases kk with
              | zero =>
                have z0 : decide ((0 : Int) < ((0 : Nat) : Int)) = false := by simp
                go_upto_region 13 with (fail)
                refine region_det (by kernel_rfl) (fun w' => Below W10.heap.size W10 w') (hbx.drew) (by kernel_rfl) ?_
                simp only [List.toList_toArray]
                repeat' (first
                  | (refine det_shut (by rfl) ?_; (simp only [Act.put, List.setIfInBounds_toArray, List.set_cons_zero, List.set_cons_succ]))
                  | (apply det_val; (case hw => rfl); (case hv => (intro w' hS; go_simp; first | done | with_reducible exact rfl)); (simp only [Act.put, List.setIfInBounds_toArray, List.set_cons_zero, List.set_cons_succ]))
                  | (apply det_call; (case hw => rfl); (case hv => (intro w' hS; go_simp; first | done | with_reducible exact rfl | with_reducible exact ⟨rfl, rfl⟩)); (case hc => (intro w' hS; (first | (go_at_call 33; with_reducible exact HCa.out w')))); (simp only [Act.put, List.setIfInBounds_toArray, List.set_cons_zero, List.set_cons_succ]))
                  | fail)
                intro wz hbz
                have HBz := Lib.hid hbz
                obtain ⟨kx, hkx0⟩ : ∃ q : Nat, q = 0 := ⟨_, rfl⟩
                have hpk : posB SL (S.data.toList, L[j].2) SL.length = kx := by rw [← HSn.out, hpos, hkx0]; rfl
                have hkx : kx ≤ sn := by omega
                have hsl9 : SL.length ≤ 999 := by have := insF_len (normL (L.take j)) []; rw [← HSL.out] at this; rw [this]; unfold normL; rw [List.length_map, List.length_take]; simp; omega
                have HNx : Hid (SL.take kx ++ (S.data.toList, L[j].2) :: SL.drop kx = (normL (L.take (j + 1))).foldl insB []) := Lib.hid (by rw [normL_take L j hjl, List.foldl_append, ← HSL.out, ← HXl.out, HNm.out]; show _ = insB SL _; unfold insB; rw [hpk])
                obtain ⟨P9, hr9, hs9⟩ := HO10.out.own
                obtain ⟨-, hsh⟩ := rowP_shape hr9
                rw [show ((0 : Nat) : Int) = (kx : Int) from by rw [hkx0]]
                clear hpos hpk hkx0 hr9 hs9
                rcases hsh with ⟨rfl, h0, h1⟩ | ⟨⟨g0, cs0, rfl, _⟩, hcp⟩
                · obtain rfl : kx = 0 := by omega
                  subst h0
                  subst h1
                  obtain ⟨v15, w15, v16, w16, v17, w17, r15, r16, r17, c0, c1, c2, c3, c4, hne⟩ := three_appends (HO10.out.go HBz.out) ((HBz.out.block p (Array.getElem?_eq_some_iff.1 HB10.out).1).trans HB10.out) (isTo_strB_go HT10.out HBz.out) hkx hsl9 25
                  obtain ⟨xa7, xn7, xc7, rfl⟩ : ∃ a n c, v17 = .slice a n c := by obtain ⟨P7, hr7, _⟩ := hne.own; obtain ⟨a, c, e⟩ := rowP_slice hr7; exact ⟨a, _, c, e⟩
                  have q0 := (HC11.out _ (HBz.out.alloc HBz.out.size (.cells #[] 56))).1
                  have HNe := Lib.hid hne; have R15 := Lib.hid r15; have R16 := Lib.hid r16; have R17 := Lib.hid r17
                  clear hne r15 r16 r17
                  go_wp2_with (first
                    | (at_builtin; refine Lib.wpList_append_run _ rfl (.tmp 71) (.tmp 75) _ _ rfl _ _ rfl rfl v15 w15 R15.out ?_)
                    | (at_builtin; refine Lib.wpList_append_run _ rfl (.tmp 77) (.tmp 79) _ _ rfl _ _ rfl rfl v16 w16 R16.out ?_)
                    | (at_builtin; refine Lib.wpList_append_run _ rfl (.tmp 81) (.tmp 85) _ _ rfl _ _ rfl rfl (.slice xa7 xn7 xc7) w17 R17.out ?_))
                  go_roundw
                  case rel => exact ⟨j + 1, by omega, by go_num, .slice xa7 xn7 xc7, HNx.out ▸ HNe.out⟩
                  case measure => simp [intOf]; omega
                · have y0 : kx ≤ lc := by omega
                  have y1 : (kx : Int) ≤ (lc : Int) := by omega
                  have y2 : (0 : Int) ≤ (kx : Int) := by omega
                  have y3 : (kx : Int) ≤ (sn : Int) := by omega
                  have hadd : ∀ q : Nat, (⟨g0, 0, none⟩ : Addr).add q = ⟨g0, q, none⟩ := fun q => by simp [Addr.add] <;> omega
                  obtain ⟨v15, w15, v16, w16, v17, w17, r15, r16, r17, c0, c1, c2, c3, c4, hne⟩ := three_appends (HO10.out.go HBz.out) ((HBz.out.block p (Array.getElem?_eq_some_iff.1 HB10.out).1).trans HB10.out) (isTo_strB_go HT10.out HBz.out) hkx hsl9 25
                  obtain ⟨xa7, xn7, xc7, rfl⟩ : ∃ a n c, v17 = .slice a n c := by obtain ⟨P7, hr7, _⟩ := hne.own; obtain ⟨a, c, e⟩ := rowP_slice hr7; exact ⟨a, _, c, e⟩
                  have q0 := (HC11.out _ (HBz.out.alloc HBz.out.size (.cells #[] 56))).1
                  have HNe := Lib.hid hne; have R15 := Lib.hid r15; have R16 := Lib.hid r16; have R17 := Lib.hid r17
                  clear hne r15 r16 r17
                  go_wp2_with (first
                    | (at_builtin; refine Lib.wpList_append_run _ rfl (.tmp 71) (.tmp 75) _ _ rfl _ _ rfl rfl v15 w15 R15.out ?_)
                    | (at_builtin; refine Lib.wpList_append_run _ rfl (.tmp 77) (.tmp 79) _ _ rfl _ _ rfl rfl v16 w16 R16.out ?_)
                    | (at_builtin; refine Lib.wpList_append_run _ rfl (.tmp 81) (.tmp 85) _ _ rfl _ _ rfl (by go_simp) (.slice xa7 xn7 xc7) w17 R17.out ?_))
                  go_roundw
                  case rel => exact ⟨j + 1, by omega, by go_num, .slice xa7 xn7 xc7, HNx.out ▸ HNe.out⟩
                  case measure => simp [intOf]; omega
              | succ i =>
                have hin : i < SL.length := by rw [← HSn.out]; omega
                have hsn1 : sn ≤ 1000 := by have := insF_len (normL (L.take j)) []; rw [← HSL.out] at this; rw [HSn.out, this]; unfold normL; rw [List.length_map, List.length_take]; simp; omega
                obtain ⟨la2, lc2, hae, _, hac⟩ := ownM_isA HO10.out.own (by have := insF_len (normL (L.take j)) []; rw [← HSL.out] at this; rw [this]; unfold normL maxLen; rw [List.length_map, List.length_take]; simp; omega)
                obtain ⟨g, off2, ux, hla, hgl, hg0, _, _⟩ := hac i hin
                simp only [Value.slice.injEq] at hae
                obtain ⟨rfl, _, _⟩ := hae
                subst hla
                obtain ⟨Y, hY⟩ : ∃ Y : ByteArray, ⟨SL[i].1.toArray⟩ = Y := ⟨_, rfl⟩
                have hYl : Y.data.toList = SL[i].1 := by rw [← hY]
                have hg0 : W10.cell? ⟨g, off2 + i * 2, none⟩ = some (.string Y) := by rw [hg0, ← hY]; rfl
                have HC12 : Hid (∀ W, Below W10.heap.size W10 W → W.cell? ⟨w.heap.size + 2, 1, none⟩ = some (.slice (some ⟨g, off2, none⟩) sn lc) ∧ W.cell? ⟨p, 0, none⟩ = some (.string S) ∧ W.cell? ⟨g, off2 + i * 2, none⟩ = some (.string Y) ∧ Below W10.heap.size W10 W) := Lib.hid (fun W hW => ⟨(HC11.out W hW).1, (HC11.out W hW).2, (hW.cell (p := ⟨g, off2 + i * 2, none⟩) hgl).trans hg0, hW⟩)
                have hst := HC12.out _ hbx.drew
                have z0 : decide ((0 : Int) < ((i + 1 : Nat) : Int)) = true := by simp <;> omega
                have z1 : ((i + 1 : Nat) : Int) - 1 = (i : Int) := by omega
                have z2 : (0 : Int) ≤ (i : Int) := by omega
                have z3 : (i : Int) < (sn : Int) := by omega
                have z4 : i < sn := by omega
                have z5 : i ≤ 1000 := by omega
                have zw : IntKind.i64.wrap (i : Int) = (i : Int) := by simp [IntKind.wrap, IntKind.bits, IntKind.signed]; omega
                have z6 : (i : Int) < (SL.length : Int) := by omega
                obtain ⟨gg, hgg⟩ : ∃ gg, gtB SL[i].1 S.data.toList = gg := ⟨_, rfl⟩
                have t3 : (!Op.bytesLess Y.toList S.toList && !(Y.toList == S.toList)) = gg := by rw [← hgg]; unfold gtB; rw [ByteArray.toList_eq, ByteArray.toList_eq, hYl]
                clear hg0 hac hY
                cases gg with
                | true =>
                  rw [posB_go hin hgg] at hpos
                  go_upto_region 13 with (fail)
                  refine region_det (by kernel_rfl) (fun w' => w'.cell? ⟨w.heap.size + 2, 1, none⟩ = some (.slice (some ⟨g, off2, none⟩) sn lc) ∧ w'.cell? ⟨p, 0, none⟩ = some (.string S) ∧ w'.cell? ⟨g, off2 + i * 2, none⟩ = some (.string Y) ∧ Below W10.heap.size W10 w') (hst) (by kernel_rfl) ?_
                  simp only [List.toList_toArray]
                  repeat' (first
                    | (refine det_shut (by rfl) ?_; (simp only [Act.put, List.setIfInBounds_toArray, List.set_cons_zero, List.set_cons_succ]))
                    | (apply det_val; (case hw => rfl); (case hv => (intro w' hS; (obtain ⟨s0, s1, s2, s3⟩ := hS); go_simp; first | done | with_reducible exact rfl)); (simp only [Act.put, List.setIfInBounds_toArray, List.set_cons_zero, List.set_cons_succ]))
                    | (apply det_call; (case hw => rfl); (case hv => (intro w' hS; (obtain ⟨s0, s1, s2, s3⟩ := hS); go_simp; first | done | with_reducible exact rfl | with_reducible exact ⟨rfl, rfl⟩)); (case hc => (intro w' hS; (first | (go_at_call 33; with_reducible exact HCa.out w')))); (simp only [Act.put, List.setIfInBounds_toArray, List.set_cons_zero, List.set_cons_succ]))
                    | fail)
                  intro wz hSz
                  have HBz := Lib.hid hSz.2.2.2
                  go_wp2
                  go_roundw
                  case rel => exact ⟨i, by first | rfl | (rw [z1]) | go_num, by omega, hpos, HBz.out⟩
                  case measure => simp [intOf] <;> omega
                | false =>
                  rw [posB_stop hin hgg] at hpos
                  go_upto_region 13 with (fail)
                  refine region_det (by kernel_rfl) (fun w' => w'.cell? ⟨w.heap.size + 2, 1, none⟩ = some (.slice (some ⟨g, off2, none⟩) sn lc) ∧ w'.cell? ⟨p, 0, none⟩ = some (.string S) ∧ w'.cell? ⟨g, off2 + i * 2, none⟩ = some (.string Y) ∧ Below W10.heap.size W10 w') (hst) (by kernel_rfl) ?_
                  simp only [List.toList_toArray]
                  repeat' (first
                    | (refine det_shut (by rfl) ?_; (simp only [Act.put, List.setIfInBounds_toArray, List.set_cons_zero, List.set_cons_succ]))
                    | (apply det_val; (case hw => rfl); (case hv => (intro w' hS; (obtain ⟨s0, s1, s2, s3⟩ := hS); go_simp; first | done | with_reducible exact rfl)); (simp only [Act.put, List.setIfInBounds_toArray, List.set_cons_zero, List.set_cons_succ]))
                    | (apply det_call; (case hw => rfl); (case hv => (intro w' hS; (obtain ⟨s0, s1, s2, s3⟩ := hS); go_simp; first | done | with_reducible exact rfl | with_reducible exact ⟨rfl, rfl⟩)); (case hc => (intro w' hS; (first | (go_at_call 33; with_reducible exact HCa.out w')))); (simp only [Act.put, List.setIfInBounds_toArray, List.set_cons_zero, List.set_cons_succ]))
                    | fail)
                  intro wz hSz
                  have HBz := Lib.hid hSz.2.2.2
                  obtain ⟨kx, hkx0⟩ : ∃ q : Nat, q = i + 1 := ⟨_, rfl⟩
                  have hpk : posB SL (S.data.toList, L[j].2) SL.length = kx := by rw [← HSn.out, hpos, hkx0]
                  have hkx : kx ≤ sn := by omega
                  have hsl9 : SL.length ≤ 999 := by have := insF_len (normL (L.take j)) []; rw [← HSL.out] at this; rw [this]; unfold normL; rw [List.length_map, List.length_take]; simp; omega
                  have HNx : Hid (SL.take kx ++ (S.data.toList, L[j].2) :: SL.drop kx = (normL (L.take (j + 1))).foldl insB []) := Lib.hid (by rw [normL_take L j hjl, List.foldl_append, ← HSL.out, ← HXl.out, HNm.out]; show _ = insB SL _; unfold insB; rw [hpk])
                  obtain ⟨P9, hr9, hs9⟩ := HO10.out.own
                  obtain ⟨-, hsh⟩ := rowP_shape hr9
                  rw [show ((i + 1 : Nat) : Int) = (kx : Int) from by rw [hkx0]]
                  clear hpos hpk hkx0 hr9 hs9
                  obtain ⟨⟨g0, cs0, hla0, _⟩, hcp⟩ : (∃ g' cs', (some ⟨g, off2, none⟩ : Option Addr) = some ⟨g', 0, none⟩ ∧ W10.heap[g']? = some (.cells cs' 56 (0, 0))) ∧ sn ≤ lc := by
                    rcases hsh with ⟨h', _⟩ | h'
                    · exact absurd h' (by simp)
                    · exact h'
                  simp only [Option.some.injEq, Addr.mk.injEq, true_and, and_true] at hla0
                  obtain ⟨rfl, rfl⟩ := hla0
                  have y0 : kx ≤ lc := by omega
                  have y1 : (kx : Int) ≤ (lc : Int) := by omega
                  have y2 : (0 : Int) ≤ (kx : Int) := by omega
                  have y3 : (kx : Int) ≤ (sn : Int) := by omega
                  have hadd : ∀ q : Nat, (⟨g, 0, none⟩ : Addr).add q = ⟨g, q, none⟩ := fun q => by simp [Addr.add] <;> omega
                  obtain ⟨v15, w15, v16, w16, v17, w17, r15, r16, r17, c0, c1, c2, c3, c4, hne⟩ := three_appends (HO10.out.go HBz.out) ((HBz.out.block p (Array.getElem?_eq_some_iff.1 HB10.out).1).trans HB10.out) (isTo_strB_go HT10.out HBz.out) hkx hsl9 25
                  obtain ⟨xa7, xn7, xc7, rfl⟩ : ∃ a n c, v17 = .slice a n c := by obtain ⟨P7, hr7, _⟩ := hne.own; obtain ⟨a, c, e⟩ := rowP_slice hr7; exact ⟨a, _, c, e⟩
                  have q0 := (HC11.out _ (HBz.out.alloc HBz.out.size (.cells #[] 56))).1
                  have HNe := Lib.hid hne; have R15 := Lib.hid r15; have R16 := Lib.hid r16; have R17 := Lib.hid r17
                  clear hne r15 r16 r17
                  go_wp2_with (first
                    | (at_builtin; refine Lib.wpList_append_run _ rfl (.tmp 71) (.tmp 75) _ _ rfl _ _ rfl rfl v15 w15 R15.out ?_)
                    | (at_builtin; refine Lib.wpList_append_run _ rfl (.tmp 77) (.tmp 79) _ _ rfl _ _ rfl rfl v16 w16 R16.out ?_)
                    | (at_builtin; refine Lib.wpList_append_run _ rfl (.tmp 81) (.tmp 85) _ _ rfl _ _ rfl (by go_simp) (.slice xa7 xn7 xc7) w17 R17.out ?_))
                  go_roundw
                  case rel => exact ⟨j + 1, by omega, by go_num, .slice xa7 xn7 xc7, HNx.out ▸ HNe.out⟩
                  case measure => simp [intOf]; omega
          · rw [hc2] at hca
            have HCa := Lib.hid hca
            have HNm := Lib.hid hc3
            obtain ⟨b0, _, b2, _⟩ := HB8.out.cells
            clear hca hc1 hc2 hc3
            go_upto_region 12 with (go_at_call 33; refine (HCa.out _).mono ?_; rintro e w9 ⟨rfl, hb9⟩; have hb9a := bthen hb9 ((Below.refl w9.heap.size w9).alloc (Nat.le_refl _) (.cells #[.string ⟨#[]⟩, .bool false] 60)); have hpl : p < W8.heap.size := (Array.getElem?_eq_some_iff.1 HB8.out).1; have hB10 : BoxT (w9.alloc (.cells #[.string ⟨#[]⟩, .bool false] 60)) p X (.slice xa L[j].2.length xc) := (hb9a.block p hpl).trans HB8.out; have hT10 := isTo_strB_go HT8.out hb9a; have hBl10 := bthen HBl8.out hb9a; clear hb9 hb9a)
            generalize (w9.alloc (.cells #[.string ⟨#[]⟩, .bool false] 60)) = W10 at hB10 hT10 hBl10 ⊢
            have HO10 := Lib.hid (HO.out.go hBl10)
            have HB10 := Lib.hid hB10
            have HT10 := Lib.hid hT10
            have HBl10 := Lib.hid hBl10
            have o1 := HO10.out.out.cells.2
            obtain ⟨SL, hSL⟩ : ∃ S, S = (normL (L.take j)).foldl insB [] := ⟨_, rfl⟩
            rw [← hSL] at HO10
            obtain ⟨la, lc, hle2⟩ := (show ∃ a c, l = .slice a SL.length c from by obtain ⟨P, hr, hs⟩ := HO10.out.own; rw [← hs.1]; exact rowP_slice hr)
            obtain ⟨sn, hsn⟩ : ∃ k, k = SL.length := ⟨_, rfl⟩
            rw [← hsn] at hle2
            subst hle2
            have HSL := Lib.hid hSL
            have HSn := Lib.hid hsn
            clear b0 b2 hB10 hT10 hBl10 HB8 HT8 HBl8 HO8 hSL hsn
            go_wp2
            go_loopw [8] (fun k wx => ∃ kk : Nat, k = .int .i64 kk ∧ kk ≤ sn ∧ posB SL (X.data.toList, L[j].2) sn = posB SL (X.data.toList, L[j].2) kk ∧ Below W10.heap.size W10 wx) (fun k wx => (intOf k).toNat)
            case atStart => exact ⟨sn, rfl, Nat.le_refl _, rfl, Below.refl _ _⟩
            case round =>
              obtain ⟨kk, rfl, hkk, hpos, hbx⟩ := hrel
              have HBx2 := Lib.hid hbx
              have HC11 : Hid (∀ W, Below W10.heap.size W10 W → W.cell? ⟨w.heap.size + 2, 1, none⟩ = some (.slice la sn lc) ∧ W.cell? ⟨p, 0, none⟩ = some (.string X)) := Lib.hid (fun W hW => ⟨(hW.cell (p := ⟨w.heap.size + 2, 1, none⟩) (show w.heap.size + 2 < W10.heap.size by have := HO10.out.size; omega)).trans o1, (hW.cell (p := ⟨p, 0, none⟩) (Array.getElem?_eq_some_iff.1 HB10.out).1).trans HB10.out.cells.1⟩)
              cases kk with
              | zero =>
                have z0 : decide ((0 : Int) < ((0 : Nat) : Int)) = false := by simp
                go_upto_region 13 with (fail)
                refine region_det (by kernel_rfl) (fun w' => Below W10.heap.size W10 w') (hbx.drew) (by kernel_rfl) ?_
                simp only [List.toList_toArray]
                repeat' (first
                  | (refine det_shut (by rfl) ?_; (simp only [Act.put, List.setIfInBounds_toArray, List.set_cons_zero, List.set_cons_succ]))
                  | (apply det_val; (case hw => rfl); (case hv => (intro w' hS; go_simp; first | done | with_reducible exact rfl)); (simp only [Act.put, List.setIfInBounds_toArray, List.set_cons_zero, List.set_cons_succ]))
                  | (apply det_call; (case hw => rfl); (case hv => (intro w' hS; go_simp; first | done | with_reducible exact rfl | with_reducible exact ⟨rfl, rfl⟩)); (case hc => (intro w' hS; (first | (go_at_call 33; with_reducible exact HCa.out w')))); (simp only [Act.put, List.setIfInBounds_toArray, List.set_cons_zero, List.set_cons_succ]))
                  | fail)
                intro wz hbz
                have HBz := Lib.hid hbz
                obtain ⟨kx, hkx0⟩ : ∃ q : Nat, q = 0 := ⟨_, rfl⟩
                have hpk : posB SL (X.data.toList, L[j].2) SL.length = kx := by rw [← HSn.out, hpos, hkx0]; rfl
                have hkx : kx ≤ sn := by omega
                have hsl9 : SL.length ≤ 999 := by have := insF_len (normL (L.take j)) []; rw [← HSL.out] at this; rw [this]; unfold normL; rw [List.length_map, List.length_take]; simp; omega
                have HNx : Hid (SL.take kx ++ (X.data.toList, L[j].2) :: SL.drop kx = (normL (L.take (j + 1))).foldl insB []) := Lib.hid (by rw [normL_take L j hjl, List.foldl_append, ← HSL.out, ← HXl.out, HNm.out]; show _ = insB SL _; unfold insB; rw [hpk])
                obtain ⟨P9, hr9, hs9⟩ := HO10.out.own
                obtain ⟨-, hsh⟩ := rowP_shape hr9
                rw [show ((0 : Nat) : Int) = (kx : Int) from by rw [hkx0]]
                clear hpos hpk hkx0 hr9 hs9
                rcases hsh with ⟨rfl, h0, h1⟩ | ⟨⟨g0, cs0, rfl, _⟩, hcp⟩
                · obtain rfl : kx = 0 := by omega
                  subst h0
                  subst h1
                  obtain ⟨v15, w15, v16, w16, v17, w17, r15, r16, r17, c0, c1, c2, c3, c4, hne⟩ := three_appends (HO10.out.go HBz.out) ((HBz.out.block p (Array.getElem?_eq_some_iff.1 HB10.out).1).trans HB10.out) (isTo_strB_go HT10.out HBz.out) hkx hsl9 25
                  obtain ⟨xa7, xn7, xc7, rfl⟩ : ∃ a n c, v17 = .slice a n c := by obtain ⟨P7, hr7, _⟩ := hne.own; obtain ⟨a, c, e⟩ := rowP_slice hr7; exact ⟨a, _, c, e⟩
                  have q0 := (HC11.out _ (HBz.out.alloc HBz.out.size (.cells #[] 56))).1
                  have HNe := Lib.hid hne; have R15 := Lib.hid r15; have R16 := Lib.hid r16; have R17 := Lib.hid r17
                  clear hne r15 r16 r17
                  go_wp2_with (first
                    | (at_builtin; refine Lib.wpList_append_run _ rfl (.tmp 71) (.tmp 75) _ _ rfl _ _ rfl rfl v15 w15 R15.out ?_)
                    | (at_builtin; refine Lib.wpList_append_run _ rfl (.tmp 77) (.tmp 79) _ _ rfl _ _ rfl rfl v16 w16 R16.out ?_)
                    | (at_builtin; refine Lib.wpList_append_run _ rfl (.tmp 81) (.tmp 85) _ _ rfl _ _ rfl rfl (.slice xa7 xn7 xc7) w17 R17.out ?_))
                  go_roundw
                  case rel => exact ⟨j + 1, by omega, by go_num, .slice xa7 xn7 xc7, HNx.out ▸ HNe.out⟩
                  case measure => simp [intOf]; omega
                · have y0 : kx ≤ lc := by omega
                  have y1 : (kx : Int) ≤ (lc : Int) := by omega
                  have y2 : (0 : Int) ≤ (kx : Int) := by omega
                  have y3 : (kx : Int) ≤ (sn : Int) := by omega
                  have hadd : ∀ q : Nat, (⟨g0, 0, none⟩ : Addr).add q = ⟨g0, q, none⟩ := fun q => by simp [Addr.add] <;> omega
                  obtain ⟨v15, w15, v16, w16, v17, w17, r15, r16, r17, c0, c1, c2, c3, c4, hne⟩ := three_appends (HO10.out.go HBz.out) ((HBz.out.block p (Array.getElem?_eq_some_iff.1 HB10.out).1).trans HB10.out) (isTo_strB_go HT10.out HBz.out) hkx hsl9 25
                  obtain ⟨xa7, xn7, xc7, rfl⟩ : ∃ a n c, v17 = .slice a n c := by obtain ⟨P7, hr7, _⟩ := hne.own; obtain ⟨a, c, e⟩ := rowP_slice hr7; exact ⟨a, _, c, e⟩
                  have q0 := (HC11.out _ (HBz.out.alloc HBz.out.size (.cells #[] 56))).1
                  have HNe := Lib.hid hne; have R15 := Lib.hid r15; have R16 := Lib.hid r16; have R17 := Lib.hid r17
                  clear hne r15 r16 r17
                  go_wp2_with (first
                    | (at_builtin; refine Lib.wpList_append_run _ rfl (.tmp 71) (.tmp 75) _ _ rfl _ _ rfl rfl v15 w15 R15.out ?_)
                    | (at_builtin; refine Lib.wpList_append_run _ rfl (.tmp 77) (.tmp 79) _ _ rfl _ _ rfl rfl v16 w16 R16.out ?_)
                    | (at_builtin; refine Lib.wpList_append_run _ rfl (.tmp 81) (.tmp 85) _ _ rfl _ _ rfl (by go_simp) (.slice xa7 xn7 xc7) w17 R17.out ?_))
                  go_roundw
                  case rel => exact ⟨j + 1, by omega, by go_num, .slice xa7 xn7 xc7, HNx.out ▸ HNe.out⟩
                  case measure => simp [intOf]; omega
              | succ i =>
                have hin : i < SL.length := by rw [← HSn.out]; omega
                have hsn1 : sn ≤ 1000 := by have := insF_len (normL (L.take j)) []; rw [← HSL.out] at this; rw [HSn.out, this]; unfold normL; rw [List.length_map, List.length_take]; simp; omega
                obtain ⟨la2, lc2, hae, _, hac⟩ := ownM_isA HO10.out.own (by have := insF_len (normL (L.take j)) []; rw [← HSL.out] at this; rw [this]; unfold normL maxLen; rw [List.length_map, List.length_take]; simp; omega)
                obtain ⟨g, off2, ux, hla, hgl, hg0, _, _⟩ := hac i hin
                simp only [Value.slice.injEq] at hae
                obtain ⟨rfl, _, _⟩ := hae
                subst hla
                obtain ⟨Y, hY⟩ : ∃ Y : ByteArray, ⟨SL[i].1.toArray⟩ = Y := ⟨_, rfl⟩
                have hYl : Y.data.toList = SL[i].1 := by rw [← hY]
                have hg0 : W10.cell? ⟨g, off2 + i * 2, none⟩ = some (.string Y) := by rw [hg0, ← hY]; rfl
                have HC12 : Hid (∀ W, Below W10.heap.size W10 W → W.cell? ⟨w.heap.size + 2, 1, none⟩ = some (.slice (some ⟨g, off2, none⟩) sn lc) ∧ W.cell? ⟨p, 0, none⟩ = some (.string X) ∧ W.cell? ⟨g, off2 + i * 2, none⟩ = some (.string Y) ∧ Below W10.heap.size W10 W) := Lib.hid (fun W hW => ⟨(HC11.out W hW).1, (HC11.out W hW).2, (hW.cell (p := ⟨g, off2 + i * 2, none⟩) hgl).trans hg0, hW⟩)
                have hst := HC12.out _ hbx.drew
                have z0 : decide ((0 : Int) < ((i + 1 : Nat) : Int)) = true := by simp <;> omega
                have z1 : ((i + 1 : Nat) : Int) - 1 = (i : Int) := by omega
                have z2 : (0 : Int) ≤ (i : Int) := by omega
                have z3 : (i : Int) < (sn : Int) := by omega
                have z4 : i < sn := by omega
                have z5 : i ≤ 1000 := by omega
                have zw : IntKind.i64.wrap (i : Int) = (i : Int) := by simp [IntKind.wrap, IntKind.bits, IntKind.signed]; omega
                have z6 : (i : Int) < (SL.length : Int) := by omega
                obtain ⟨gg, hgg⟩ : ∃ gg, gtB SL[i].1 X.data.toList = gg := ⟨_, rfl⟩
                have t3 : (!Op.bytesLess Y.toList X.toList && !(Y.toList == X.toList)) = gg := by rw [← hgg]; unfold gtB; rw [ByteArray.toList_eq, ByteArray.toList_eq, hYl]
                clear hg0 hac hY
                cases gg with
                | true =>
                  rw [posB_go hin hgg] at hpos
                  go_upto_region 13 with (fail)
                  refine region_det (by kernel_rfl) (fun w' => w'.cell? ⟨w.heap.size + 2, 1, none⟩ = some (.slice (some ⟨g, off2, none⟩) sn lc) ∧ w'.cell? ⟨p, 0, none⟩ = some (.string X) ∧ w'.cell? ⟨g, off2 + i * 2, none⟩ = some (.string Y) ∧ Below W10.heap.size W10 w') (hst) (by kernel_rfl) ?_
                  simp only [List.toList_toArray]
                  repeat' (first
                    | (refine det_shut (by rfl) ?_; (simp only [Act.put, List.setIfInBounds_toArray, List.set_cons_zero, List.set_cons_succ]))
                    | (apply det_val; (case hw => rfl); (case hv => (intro w' hS; (obtain ⟨s0, s1, s2, s3⟩ := hS); go_simp; first | done | with_reducible exact rfl)); (simp only [Act.put, List.setIfInBounds_toArray, List.set_cons_zero, List.set_cons_succ]))
                    | (apply det_call; (case hw => rfl); (case hv => (intro w' hS; (obtain ⟨s0, s1, s2, s3⟩ := hS); go_simp; first | done | with_reducible exact rfl | with_reducible exact ⟨rfl, rfl⟩)); (case hc => (intro w' hS; (first | (go_at_call 33; with_reducible exact HCa.out w')))); (simp only [Act.put, List.setIfInBounds_toArray, List.set_cons_zero, List.set_cons_succ]))
                    | fail)
                  intro wz hSz
                  have HBz := Lib.hid hSz.2.2.2
                  go_wp2
                  go_roundw
                  case rel => exact ⟨i, by first | rfl | (rw [z1]) | go_num, by omega, hpos, HBz.out⟩
                  case measure => simp [intOf] <;> omega
                | false =>
                  rw [posB_stop hin hgg] at hpos
                  go_upto_region 13 with (fail)
                  refine region_det (by kernel_rfl) (fun w' => w'.cell? ⟨w.heap.size + 2, 1, none⟩ = some (.slice (some ⟨g, off2, none⟩) sn lc) ∧ w'.cell? ⟨p, 0, none⟩ = some (.string X) ∧ w'.cell? ⟨g, off2 + i * 2, none⟩ = some (.string Y) ∧ Below W10.heap.size W10 w') (hst) (by kernel_rfl) ?_
                  simp only [List.toList_toArray]
                  repeat' (first
                    | (refine det_shut (by rfl) ?_; (simp only [Act.put, List.setIfInBounds_toArray, List.set_cons_zero, List.set_cons_succ]))
                    | (apply det_val; (case hw => rfl); (case hv => (intro w' hS; (obtain ⟨s0, s1, s2, s3⟩ := hS); go_simp; first | done | with_reducible exact rfl)); (simp only [Act.put, List.setIfInBounds_toArray, List.set_cons_zero, List.set_cons_succ]))
                    | (apply det_call; (case hw => rfl); (case hv => (intro w' hS; (obtain ⟨s0, s1, s2, s3⟩ := hS); go_simp; first | done | with_reducible exact rfl | with_reducible exact ⟨rfl, rfl⟩)); (case hc => (intro w' hS; (first | (go_at_call 33; with_reducible exact HCa.out w')))); (simp only [Act.put, List.setIfInBounds_toArray, List.set_cons_zero, List.set_cons_succ]))
                    | fail)
                  intro wz hSz
                  have HBz := Lib.hid hSz.2.2.2
                  obtain ⟨kx, hkx0⟩ : ∃ q : Nat, q = i + 1 := ⟨_, rfl⟩
                  have hpk : posB SL (X.data.toList, L[j].2) SL.length = kx := by rw [← HSn.out, hpos, hkx0]
                  have hkx : kx ≤ sn := by omega
                  have hsl9 : SL.length ≤ 999 := by have := insF_len (normL (L.take j)) []; rw [← HSL.out] at this; rw [this]; unfold normL; rw [List.length_map, List.length_take]; simp; omega
                  have HNx : Hid (SL.take kx ++ (X.data.toList, L[j].2) :: SL.drop kx = (normL (L.take (j + 1))).foldl insB []) := Lib.hid (by rw [normL_take L j hjl, List.foldl_append, ← HSL.out, ← HXl.out, HNm.out]; show _ = insB SL _; unfold insB; rw [hpk])
                  obtain ⟨P9, hr9, hs9⟩ := HO10.out.own
                  obtain ⟨-, hsh⟩ := rowP_shape hr9
                  rw [show ((i + 1 : Nat) : Int) = (kx : Int) from by rw [hkx0]]
                  clear hpos hpk hkx0 hr9 hs9
                  obtain ⟨⟨g0, cs0, hla0, _⟩, hcp⟩ : (∃ g' cs', (some ⟨g, off2, none⟩ : Option Addr) = some ⟨g', 0, none⟩ ∧ W10.heap[g']? = some (.cells cs' 56 (0, 0))) ∧ sn ≤ lc := by
                    rcases hsh with ⟨h', _⟩ | h'
                    · exact absurd h' (by simp)
                    · exact h'
                  simp only [Option.some.injEq, Addr.mk.injEq, true_and, and_true] at hla0
                  obtain ⟨rfl, rfl⟩ := hla0
                  have y0 : kx ≤ lc := by omega
                  have y1 : (kx : Int) ≤ (lc : Int) := by omega
                  have y2 : (0 : Int) ≤ (kx : Int) := by omega
                  have y3 : (kx : Int) ≤ (sn : Int) := by omega
                  have hadd : ∀ q : Nat, (⟨g, 0, none⟩ : Addr).add q = ⟨g, q, none⟩ := fun q => by simp [Addr.add] <;> omega
                  obtain ⟨v15, w15, v16, w16, v17, w17, r15, r16, r17, c0, c1, c2, c3, c4, hne⟩ := three_appends (HO10.out.go HBz.out) ((HBz.out.block p (Array.getElem?_eq_some_iff.1 HB10.out).1).trans HB10.out) (isTo_strB_go HT10.out HBz.out) hkx hsl9 25
                  obtain ⟨xa7, xn7, xc7, rfl⟩ : ∃ a n c, v17 = .slice a n c := by obtain ⟨P7, hr7, _⟩ := hne.own; obtain ⟨a, c, e⟩ := rowP_slice hr7; exact ⟨a, _, c, e⟩
                  have q0 := (HC11.out _ (HBz.out.alloc HBz.out.size (.cells #[] 56))).1
                  have HNe := Lib.hid hne; have R15 := Lib.hid r15; have R16 := Lib.hid r16; have R17 := Lib.hid r17
                  clear hne r15 r16 r17
                  go_wp2_with (first
                    | (at_builtin; refine Lib.wpList_append_run _ rfl (.tmp 71) (.tmp 75) _ _ rfl _ _ rfl rfl v15 w15 R15.out ?_)
                    | (at_builtin; refine Lib.wpList_append_run _ rfl (.tmp 77) (.tmp 79) _ _ rfl _ _ rfl rfl v16 w16 R16.out ?_)
                    | (at_builtin; refine Lib.wpList_append_run _ rfl (.tmp 81) (.tmp 85) _ _ rfl _ _ rfl (by go_simp) (.slice xa7 xn7 xc7) w17 R17.out ?_))
                  go_roundw
                  case rel => exact ⟨j + 1, by omega, by go_num, .slice xa7 xn7 xc7, HNx.out ▸ HNe.out⟩
                  case measure => simp [intOf]; omega
      · obtain rfl : j = n := by omega
        have t1 : decide ((j : Int) < (j : Int)) = false := by simp
        have hLj : L.take j = L := List.take_of_length_le (by rw [← HN.out]; exact Nat.le_refl _)
        rw [hLj, ← sortA_fold] at hO
        have HO := Lib.hid hO
        obtain ⟨la2, lc2, hle2⟩ := (show ∃ a c, l = .slice a (sortA (normL L)).length c from by obtain ⟨P, hr, hs⟩ := hO.own; rw [← hs.1]; exact rowP_slice hr)
        obtain ⟨sn, hsn⟩ : ∃ k, k = (sortA (normL L)).length := ⟨_, rfl⟩
        rw [← hsn] at hle2
        subst hle2
        have hz : sn ≤ maxLen := by rw [hsn, sortA_len2]; unfold normL maxLen; rw [List.length_map, ← HN.out]; omega
        obtain ⟨o0, o1⟩ := hO.out.cells
        obtain ⟨_, p0, p1, y0, y1⟩ := hO.box
        have HSn := Lib.hid hsn
        have HZ := Lib.hid hz
        clear hO hsn hz hLj
        go_wp2
        refine bodyPost_ret (v := .agg #[.string TD, .slice la2 sn lc2]) (by simp [results, Tryz.results19, go_sem, p0, p1]) rfl ⟨_, rfl, ?_, (HO.out.bel.setCell (p := ⟨w.heap.size + 1, 0, none⟩) (show w.heap.size ≤ w.heap.size + 1 by omega) _).setCell (p := ⟨w.heap.size + 1, 1, none⟩) (show w.heap.size ≤ w.heap.size + 1 by omega) _⟩
        have ho := ownM_entry (i := 1) (x := .slice la2 sn lc2) (ownM_entry (i := 0) (x := .string TD) HO.out.own HO.out.res (by omega)) (boxN_store0 HO.out.res) (by omega)
        exact ho
end Go.Proofs.YtpnbcmblnplbgaaGreatDoor

