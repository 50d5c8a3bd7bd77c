/- Several texts in one file: EnNEntW, EnMrgP, EnSymP, EnSwpP, EnSwpW. -/
import Derived.Test.YtlimajgmdhhggaaGreatDoorEnaP3
import Derived.Test.YtlimajgmdhhggaaGreatDoorRefParseW
import Derived.Test.YtlimajgmdhhggaaGreatDoorRefTextW
import Derived.Test.YtlimajgmdhhggaaGreatDoorEnaP1
import Derived.Deep.Cut
import Derived.Deep.CutRange
import Derived.Test.YtlimajgmdhhggaaGreatDoorEnaP2
namespace Go.Proofs.YtlimajgmdhhggaaGreatDoor
open Go.RowKit
set_option linter.unusedVariables false
set_option linter.unusedSimpArgs false

set_option maxRecDepth 100000 in
set_option maxHeartbeats 8000000 in
theorem normRef_entry (d : ByteArray) (hd : d.size ≤ 100000) (L : List AT) (hs : smallA L) (v : Value) (w : World) (h : IsA w.heap.size w L v) :
    Calls Tryz.prog 14 #[.agg #[.string d, v]] w fun e w' => ∃ v', e = .returned (.agg #[strV (nameN d.data.toList), v']) ∧ IsA w'.heap.size w' (sortA (normL L)) v' ∧ Below w.heap.size w w' := by
  obtain ⟨sa, sc, rfl, hm, hcell⟩ := id h
  obtain ⟨n, hn⟩ : ∃ n, n = L.length := ⟨_, rfl⟩
  rw [← hn] at ⊢ h
  have hs1 : n ≤ 1000 := by rw [hn]; exact hs.1
  have HN := Lib.hid hn
  have HC := Lib.hid hcell
  have HS := Lib.hid hs
  have hpa := fun w => parseRef_any d hd w
  obtain ⟨TD, hTD⟩ : ∃ T : ByteArray, strV (nameN d.data.toList) = .string T := ⟨_, rfl⟩
  rw [hTD]
  have HBx := Lib.hid (boxE_new w d (.slice sa n sc))
  obtain ⟨W3, hW3⟩ : ∃ W, W = (((w.alloc (.cells #[.string d, .slice sa n sc] 24)).alloc (.cells #[.string ⟨#[]⟩, .slice none 0 0] 24)).alloc (.cells #[.string d, .slice none 0 0] 24)) := ⟨_, rfl⟩
  have hSt : NeAt w d d (.slice sa n sc) (.slice none 0 0) [] W3 := by
    have hb : Below (w.heap.size + 2) ((w.alloc (.cells #[.string d, .slice sa n sc] 24)).alloc (.cells #[.string ⟨#[]⟩, .slice none 0 0] 24)) W3 := by rw [hW3]; exact (Below.refl _ _).alloc (by simp) _
    exact {
      e1 := (hb.cell (p := ⟨w.heap.size, 1, none⟩) (by simp)).trans (by simp)
      box := HBx.out.go hb (Nat.le_refl _)
      out := by
        have := heap_alloc_new ((w.alloc (.cells #[.string d, .slice sa n sc] 24)).alloc (.cells #[.string ⟨#[]⟩, .slice none 0 0] 24)) (.cells #[.string d, .slice none 0 0] 24)
        rw [hW3]
        simpa [BoxN] using this
      own := ⟨[], World.ownsRow_nil _ _ _ _, rfl, fun j h => absurd h (by simp)⟩
      bel := (((Below.refl _ _).alloc (Nat.le_refl _) _).alloc (by simp) _).trans (hb.mono (by omega))
      size := by rw [hW3]; simp
      res := by
        have h1 := heap_alloc_new (w.alloc (.cells #[.string d, .slice sa n sc] 24)) (.cells #[.string ⟨#[]⟩, .slice none 0 0] 24)
        have h2 : BoxN ((w.alloc (.cells #[.string d, .slice sa n sc] 24)).alloc (.cells #[.string ⟨#[]⟩, .slice none 0 0] 24)) (w.heap.size + 1) ⟨#[]⟩ (.slice none 0 0) := by simpa [BoxN] using h1
        exact h2.below hb (by omega) }
  have HSt := Lib.hid hSt
  have HW3 := Lib.hid hW3.symm
  obtain ⟨eb, heb⟩ : ∃ b, b = w.heap.size := ⟨_, rfl⟩
  cases e : parseD d.data.toList with
  | none =>
    have hT : TD = d := by
      have h1 : strV (nameN d.data.toList) = .string d := by unfold nameN; rw [e]; exact strV_whole d
      rw [hTD] at h1
      simpa using h1
    subst hT
    simp only [e] at hpa
    have HPa := Lib.hid hpa
    clear h hs hm hcell hn hpa hTD hW3 hSt e heb
    go_enter Tryz.func14, Tryz.ntmps14
    go_upto_region 5 with (first
      | (go_at_call 49; rw [HW3.out]; refine (HPa.out _).mono ?_; rintro e w2 ⟨hb2, rfl⟩; have HSt2 := Lib.hid (HSt.out.go (bthen hb2 ((Below.refl _ _).alloc (Nat.le_refl _) (.cells #[.slice none 0 0, .bool false] 72)))); clear hb2))
    generalize (w2.alloc (.cells #[.slice none 0 0, .bool false] 72)) = W5 at HSt2 ⊢
    have HSt5 := HSt2
    rw [show w.heap.size + 1 + 1 = w.heap.size + 2 from rfl]
    clear HSt2 HW3 HBx HSt
    go_wp2
    go_loopw [5] (fun i wr => ∃ j : Nat, j ≤ n ∧ i = .int .i64 j ∧ NeI w TD TD (.slice sa n sc) L wr j) (fun i wr => n - (intOf i).toNat)
    case atStart => exact ⟨0, by omega, rfl, _, HSt5.out⟩
    case round =>
      obtain ⟨j, hj, rfl, l, hO⟩ := hrel
      have HO := Lib.hid hO
      have c2 := hO.e1
      have hew : w.heap.size < wr.heap.size := by have := hO.size; omega
      by_cases hlt : j < n
      · have t1 : decide ((j : Int) < (n : Int)) = true := by simp; omega
        have t1' : decide (j < n) = true := by simpa using hlt
        have t1z : (0 : Int) ≤ (j : Int) := by omega
        have t1y : (j : Int) < (n : Int) := by omega
        have hjl : j < L.length := by rw [← HN.out]; exact hlt
        obtain ⟨b, off, u, rfl, hb0, k0, k1, hu⟩ := HC.out j hjl
        obtain ⟨ua, uc, hue, _⟩ := id hu
        obtain ⟨un, hun⟩ : ∃ k, k = L[j].2.length := ⟨_, rfl⟩
        rw [← hun] at hue
        subst hue
        clear hun
        obtain ⟨X, hX⟩ : ∃ X : ByteArray, ⟨L[j].1.toArray⟩ = X := ⟨_, rfl⟩
        have hXl : X.data.toList = L[j].1 := by rw [← hX]
        have c0 : wr.cell? ⟨b, off + j * 2, none⟩ = some (.string X) := by rw [hO.bel.cell (p := ⟨b, _, none⟩) hb0, k0, ← hX]; rfl
        have c1 := (hO.bel.cell (p := ⟨b, off + j * 2 + 1, none⟩) hb0).trans k1
        have hbw : b < wr.heap.size := Nat.lt_of_lt_of_le hb0 hO.bel.size
        have HU := Lib.hid hu
        have hgr0 := hO.bel
        have hle := hgr0.size
        have HXl := Lib.hid hXl
        clear hO k0 k1 hu hX hXl hb0
        go_upto_region 8 with (fail)
        refine region_factsB (by kernel_rfl) (FN wr.heap.size [.is (.pointer (some ⟨w.heap.size, 1, none⟩)), .is (.slice (some ⟨b, off, none⟩) n sc), .is (.int .i64 (j : Int)), .is (.pointer (some ⟨b, off + j * 2, none⟩)), .is (.pointer (some ⟨b, off + j * 2, none⟩)), .is (.string X), .emp, .is (.pointer (some ⟨w.heap.size, 1, none⟩)), .is (.slice (some ⟨b, off, none⟩) n sc), .is (.int .i64 (j : Int)), .is (.pointer (some ⟨b, off + j * 2, none⟩)), .is (.pointer (some ⟨b, off + j * 2 + 1, none⟩)), .is (.slice ua un uc), .txt L[j].2, .agg X L[j].2, .box]) (fun w w' => Below w.heap.size w w') (fun _ _ _ _ h hb => h.go hb) (fun _ _ _ h1 h2 => bthen h1 h2) (Below.refl _ _).drew (by kernel_rfl) rfl ?hs ?hl
        case hs =>
          intro listed a W hk i o ho hi hc
          have e1 := hk.read (t := 1) (by kernel_rfl) rfl
          have e5 := hk.read (t := 5) (by kernel_rfl) rfl
          have hgr : Below wr.heap.size wr W := hk.grown
          have d0 := (hgr.cell (p := ⟨b, off + j * 2, none⟩) hbw).trans c0
          have d1 := (hgr.cell (p := ⟨b, off + j * 2 + 1, none⟩) hbw).trans c1
          have d2 := (hgr.cell (p := ⟨w.heap.size, 1, none⟩) hew).trans c2
          match i, hi with
          | 0, _ =>
            obtain rfl := Option.some.inj ho
            exact wpOp_val rfl rfl (v := .pointer (some ⟨w.heap.size, 1, none⟩)) (w' := W) (by simp [go_sem, e1]) ⟨_, _, rfl, rfl, Below.refl _ _, rfl⟩
          | 1, _ =>
            obtain rfl := Option.some.inj ho
            obtain ⟨v0, g0, f0⟩ := hk.got (j := 0) rfl rfl (hc ⟨0, .data⟩ (by simp) rfl); obtain rfl : v0 = _ := f0
            exact wpOp_val rfl rfl (v := .slice (some ⟨b, off, none⟩) n sc) (w' := W) (by simp [go_sem, g0, d2]) ⟨_, _, rfl, rfl, Below.refl _ _, rfl⟩
          | 2, _ =>
            obtain rfl := Option.some.inj ho
            exact wpOp_val rfl rfl (v := .int .i64 (j : Int)) (w' := W) (by simp [go_sem, e5]) ⟨_, _, rfl, rfl, Below.refl _ _, rfl⟩
          | 3, _ =>
            obtain rfl := Option.some.inj ho
            obtain ⟨v1, g1, f1⟩ := hk.got (j := 1) rfl rfl (hc ⟨1, .data⟩ (by simp) rfl); obtain rfl : v1 = _ := f1
            obtain ⟨v2, g2, f2⟩ := hk.got (j := 2) rfl rfl (hc ⟨2, .data⟩ (by simp) rfl); obtain rfl : v2 = _ := f2
            exact wpOp_val rfl rfl (v := .pointer (some ⟨b, off + j * 2, none⟩)) (w' := W) (by simp [go_sem, g1, g2, t1, t1z, t1y]) ⟨_, _, rfl, rfl, Below.refl _ _, rfl⟩
          | 4, _ =>
            obtain rfl := Option.some.inj ho
            obtain ⟨v3, g3, f3⟩ := hk.got (j := 3) rfl rfl (hc ⟨3, .data⟩ (by simp) rfl); obtain rfl : v3 = _ := f3
            exact wpOp_val rfl rfl (v := .pointer (some ⟨b, off + j * 2, none⟩)) (w' := W) (by simp [go_sem, g3]) ⟨_, _, rfl, rfl, Below.refl _ _, rfl⟩
          | 5, _ =>
            obtain rfl := Option.some.inj ho
            obtain ⟨v4, g4, f4⟩ := hk.got (j := 4) rfl rfl (hc ⟨4, .data⟩ (by simp) rfl); obtain rfl : v4 = _ := f4
            exact wpOp_val rfl rfl (v := .string X) (w' := W) (by simp [go_sem, g4, d0]) ⟨_, _, rfl, rfl, Below.refl _ _, rfl⟩
          | 6, _ =>
            obtain rfl := Option.some.inj ho
            exact wpOp_val rfl rfl (v := .slice (some ⟨W.heap.size, 0, none⟩) 0 0) (w' := W.alloc (.cells #[] 9)) (by simp [go_sem]) ⟨_, _, rfl, rfl, (Below.refl _ _).alloc (Nat.le_refl _) _, ⟨_, rfl, hgr.size, heap_alloc_new W _⟩⟩
          | 7, _ =>
            obtain rfl := Option.some.inj ho
            exact wpOp_val rfl rfl (v := .pointer (some ⟨w.heap.size, 1, none⟩)) (w' := W) (by simp [go_sem, e1]) ⟨_, _, rfl, rfl, Below.refl _ _, rfl⟩
          | 8, _ =>
            obtain rfl := Option.some.inj ho
            obtain ⟨v7, g7, f7⟩ := hk.got (j := 7) rfl rfl (hc ⟨7, .data⟩ (by simp) rfl); obtain rfl : v7 = _ := f7
            exact wpOp_val rfl rfl (v := .slice (some ⟨b, off, none⟩) n sc) (w' := W) (by simp [go_sem, g7, d2]) ⟨_, _, rfl, rfl, Below.refl _ _, rfl⟩
          | 9, _ =>
            obtain rfl := Option.some.inj ho
            exact wpOp_val rfl rfl (v := .int .i64 (j : Int)) (w' := W) (by simp [go_sem, e5]) ⟨_, _, rfl, rfl, Below.refl _ _, rfl⟩
          | 10, _ =>
            obtain rfl := Option.some.inj ho
            obtain ⟨v8, g8, f8⟩ := hk.got (j := 8) rfl rfl (hc ⟨8, .data⟩ (by simp) rfl); obtain rfl : v8 = _ := f8
            obtain ⟨v9, g9, f9⟩ := hk.got (j := 9) rfl rfl (hc ⟨9, .data⟩ (by simp) rfl); obtain rfl : v9 = _ := f9
            exact wpOp_val rfl rfl (v := .pointer (some ⟨b, off + j * 2, none⟩)) (w' := W) (by simp [go_sem, g8, g9, t1, t1z, t1y]) ⟨_, _, rfl, rfl, Below.refl _ _, rfl⟩
          | 11, _ =>
            obtain rfl := Option.some.inj ho
            obtain ⟨v10, g10, f10⟩ := hk.got (j := 10) rfl rfl (hc ⟨10, .data⟩ (by simp) rfl); obtain rfl : v10 = _ := f10
            exact wpOp_val rfl rfl (v := .pointer (some ⟨b, off + j * 2 + 1, none⟩)) (w' := W) (by simp [go_sem, g10]) ⟨_, _, rfl, rfl, Below.refl _ _, rfl⟩
          | 12, _ =>
            obtain rfl := Option.some.inj ho
            obtain ⟨v11, g11, f11⟩ := hk.got (j := 11) rfl rfl (hc ⟨11, .data⟩ (by simp) rfl); obtain rfl : v11 = _ := f11
            exact wpOp_val rfl rfl (v := .slice ua un uc) (w' := W) (by simp [go_sem, g11, d1]) ⟨_, _, rfl, rfl, Below.refl _ _, rfl⟩
          | 13, _ =>
            obtain rfl := Option.some.inj ho
            obtain ⟨v6, g6, f6⟩ := hk.got (j := 6) rfl rfl (hc ⟨6, .data⟩ (by simp) rfl)
            obtain ⟨v12, g12, f12⟩ := hk.got (j := 12) rfl rfl (hc ⟨12, .data⟩ (by simp) rfl); obtain rfl : v12 = _ := f12
            obtain ⟨g, rfl, hgB, hgc⟩ := f6
            obtain ⟨v', w', hrun, hto, hbl⟩ := run_copy_T hgc ((HU.out.below hgr0 (Nat.le_refl _)).below (hgr.mono hle) (Nat.le_refl _)) (by have := (HS.out.2 _ (List.getElem_mem hjl)).2.1; omega) 25
            exact wpOp_val rfl rfl (v := v') (w' := w') (exec_append (s := .tmp 35) (x := .tmp 41) rfl (by simp [go_sem, g6]) (by simp [go_sem, g12]) hrun) ⟨_, _, rfl, rfl, hbl, hto⟩
          | 14, _ =>
            obtain rfl := Option.some.inj ho
            obtain ⟨v5, g5, f5⟩ := hk.got (j := 5) rfl rfl (hc ⟨5, .data⟩ (by simp) rfl); obtain rfl : v5 = _ := f5
            obtain ⟨v13, g13, f13⟩ := hk.got (j := 13) rfl rfl (hc ⟨13, .data⟩ (by simp) rfl)
            obtain ⟨xa, xc, rfl, _⟩ := id f13
            exact wpOp_val rfl rfl (v := .agg #[.string X, .slice xa L[j].2.length xc]) (w' := W) (by simp [go_sem, g5, g13]) ⟨_, _, rfl, rfl, Below.refl _ _, ⟨_, rfl, f13⟩⟩
          | 15, _ =>
            obtain rfl := Option.some.inj ho
            exact wpOp_val rfl rfl (v := .pointer (some ⟨W.heap.size, 0, none⟩)) (w' := W.alloc (.cells #[.string ⟨#[]⟩, .slice none 0 0] 54)) (by simp [go_sem]) ⟨_, _, rfl, rfl, (Below.refl _ _).alloc (Nat.le_refl _) _, ⟨_, rfl, hgr.size, heap_alloc_new W _⟩⟩
          | k + 16, h => exact absurd h (by simp)
        case hl =>
          intro listed a W hk hall
          obtain ⟨v14, g14, f14⟩ := hk.got (j := 14) rfl rfl (hall 14 (by simp))
          obtain ⟨v15, g15, f15⟩ := hk.got (j := 15) rfl rfl (hall 15 (by simp))
          obtain ⟨x, rfl, hto⟩ := f14
          obtain ⟨p, rfl, hpB, hpc⟩ := f15
          obtain ⟨xa, xc, rfl, _⟩ := id hto
          have hb8 : BoxT W p ⟨#[]⟩ (.slice none 0 0) := hpc
          have hb80 := hb8.set0 (y := X)
          have hb81 := hb80.set1 (v := .slice xa L[j].2.length xc)
          obtain ⟨q0, _, q2, _⟩ := hb8.cells
          obtain ⟨_, q1, _, q3⟩ := hb80.cells
          have hto8 := isTo_attr (i := 1) (x := .slice xa L[j].2.length xc) hb80 (isTo_attr (i := 0) (x := .string X) hb8 hto)
          have hgr : Below wr.heap.size wr W := hk.grown
          have hbl8 := (hgr.setCell (p := ⟨p, 0, none⟩) hpB (.string X)).setCell (p := ⟨p, 1, none⟩) hpB (.slice xa L[j].2.length xc)
          have hput := hk.puts
          refine wpOp_skip rfl rfl (w' := (W.setCell ⟨p, 0, none⟩ (.string X)).setCell ⟨p, 1, none⟩ (.slice xa L[j].2.length xc)) (by simp [go_sem, g14, g15, q0, q1, q2, q3]) ?_
          rw [hput]
          simp only [putT, g15]
          generalize a.tmps[29]?.getD undef = x29
          generalize a.tmps[30]?.getD undef = x30
          generalize a.tmps[31]?.getD undef = x31
          generalize a.tmps[32]?.getD undef = x32
          generalize a.tmps[33]?.getD undef = x33
          generalize a.tmps[34]?.getD undef = x34
          generalize a.tmps[35]?.getD undef = x35
          generalize a.tmps[36]?.getD undef = x36
          generalize a.tmps[37]?.getD undef = x37
          generalize a.tmps[38]?.getD undef = x38
          generalize a.tmps[39]?.getD undef = x39
          generalize a.tmps[40]?.getD undef = x40
          generalize a.tmps[41]?.getD undef = x41
          generalize a.tmps[42]?.getD undef = x42
          generalize a.tmps[43]?.getD undef = x43
          have HO8 := Lib.hid (HO.out.go hbl8)
          have HB8 := Lib.hid hb81
          have HT8 := Lib.hid hto8
          have hpz : wr.heap.size ≤ p := hpB
          have HBl8 := Lib.hid hbl8
          clear hall hput g14 g15 hto hpB hpc hb8 hb80 hb81 hto8 hbl8 hgr q0 q1 q2 q3 hk
          generalize ((W.setCell ⟨p, 0, none⟩ (.string X)).setCell ⟨p, 1, none⟩ (.slice xa L[j].2.length xc)) = W8 at HO8 HB8 HT8 HBl8 ⊢
          go_simp
          have hxs : X.size ≤ 281474976710656 := by have := (HS.out.2 _ (List.getElem_mem hjl)).1; rw [← HXl.out, bytes_len] at this; omega
          have hca := fun w => canonRef_any X hxs w
          rcases canon_forms X.data.toList with ⟨S, hc1, hc2, hc3⟩ | ⟨hc1, hc2, hc3⟩
          · rw [hc2] at hca
            have HCa := Lib.hid hca
            have HNm := Lib.hid hc3
            obtain ⟨b0, _, b2, _⟩ := HB8.out.cells
            clear hca hc1 hc2 hc3
            go_upto_region 12 with (go_at_call 41; refine (HCa.out _).mono ?_; rintro e w9 ⟨rfl, hb9⟩; have hb9a := bthen hb9 ((Below.refl w9.heap.size w9).alloc (Nat.le_refl _) (.cells #[.string S, .bool true] 56)); have hpl : p < W8.heap.size := (Array.getElem?_eq_some_iff.1 HB8.out).1; have q0 := (hb9a.cell (p := ⟨p, 0, none⟩) hpl).trans b0; have q2 := (hb9a.frozen (p := ⟨p, 0, none⟩) hpl).trans b2; have HB9 : Hid (BoxT (w9.alloc (.cells #[.string S, .bool true] 56)) p X (.slice xa L[j].2.length xc)) := Lib.hid ((hb9a.block p hpl).trans HB8.out); have HT9 := Lib.hid (isTo_strB_go HT8.out hb9a); have HBl9 := Lib.hid (bthen HBl8.out hb9a); clear hb9 hb9a)
            have hB10 := HB9.out.set0 (y := S)
            have hT10 := isTo_attr (i := 0) (x := .string S) HB9.out HT9.out
            have hBl10 := HBl9.out.setCell (p := ⟨p, 0, none⟩) hpz (.string S)
            generalize ((w9.alloc (.cells #[.string S, .bool true] 56)).setCell ⟨p, 0, none⟩ (.string S)) = W10 at hB10 hT10 hBl10 ⊢
            clear q0 q2 HB9 HT9 HBl9
            have HO10 := Lib.hid (HO.out.go hBl10)
            have HB10 := Lib.hid hB10
            have HT10 := Lib.hid hT10
            have HBl10 := Lib.hid hBl10
            have o1 := HO10.out.out.cells.2
            obtain ⟨SL, hSL⟩ : ∃ S, S = (normL (L.take j)).foldl insB [] := ⟨_, rfl⟩
            rw [← hSL] at HO10
            obtain ⟨la, lc, hle2⟩ := (show ∃ a c, l = .slice a SL.length c from by obtain ⟨P, hr, hs⟩ := HO10.out.own; rw [← hs.1]; exact rowP_slice hr)
            obtain ⟨sn, hsn⟩ : ∃ k, k = SL.length := ⟨_, rfl⟩
            rw [← hsn] at hle2
            subst hle2
            have HSL := Lib.hid hSL
            have HSn := Lib.hid hsn
            clear b0 b2 hB10 hT10 hBl10 HB8 HT8 HBl8 HO8 hSL hsn
            go_wp2
            go_loopw [8] (fun k wx => ∃ kk : Nat, k = .int .i64 kk ∧ kk ≤ sn ∧ posB SL (S.data.toList, L[j].2) sn = posB SL (S.data.toList, L[j].2) kk ∧ Below W10.heap.size W10 wx) (fun k wx => (intOf k).toNat)
            case atStart => exact ⟨sn, rfl, Nat.le_refl _, rfl, Below.refl _ _⟩
            case round =>
              obtain ⟨kk, rfl, hkk, hpos, hbx⟩ := hrel
              have HBx2 := Lib.hid hbx
              have HC11 : Hid (∀ W, Below W10.heap.size W10 W → W.cell? ⟨w.heap.size + 2, 1, none⟩ = some (.slice la sn lc) ∧ W.cell? ⟨p, 0, none⟩ = some (.string S)) := Lib.hid (fun W hW => ⟨(hW.cell (p := ⟨w.heap.size + 2, 1, none⟩) (show w.heap.size + 2 < W10.heap.size by have := HO10.out.size; omega)).trans o1, (hW.cell (p := ⟨p, 0, none⟩) (Array.getElem?_eq_some_iff.1 HB10.out).1).trans HB10.out.cells.1⟩)
              cases kk with
              | zero =>
                have z0 : decide ((0 : Int) < ((0 : Nat) : Int)) = false := by simp
                go_upto_region 13 with (fail)
                refine region_det (by kernel_rfl) (fun w' => Below W10.heap.size W10 w') (hbx.drew) (by kernel_rfl) ?_
                simp only [List.toList_toArray]
                repeat' (first
                  | (refine det_shut (by rfl) ?_; (simp only [Act.put, List.setIfInBounds_toArray, List.set_cons_zero, List.set_cons_succ]))
                  | (apply det_val; (case hw => rfl); (case hv => (intro w' hS; go_simp; first | done | with_reducible exact rfl)); (simp only [Act.put, List.setIfInBounds_toArray, List.set_cons_zero, List.set_cons_succ]))
                  | (apply det_call; (case hw => rfl); (case hv => (intro w' hS; go_simp; first | done | with_reducible exact rfl | with_reducible exact ⟨rfl, rfl⟩)); (case hc => (intro w' hS; (first | (go_at_call 41; with_reducible exact HCa.out w')))); (simp only [Act.put, List.setIfInBounds_toArray, List.set_cons_zero, List.set_cons_succ]))
                  | fail)
                intro wz hbz
                have HBz := Lib.hid hbz
                obtain ⟨kx, hkx0⟩ : ∃ q : Nat, q = 0 := ⟨_, rfl⟩
                have hpk : posB SL (S.data.toList, L[j].2) SL.length = kx := by rw [← HSn.out, hpos, hkx0]; rfl
                have hkx : kx ≤ sn := by omega
                have hsl9 : SL.length ≤ 999 := by have := insF_len (normL (L.take j)) []; rw [← HSL.out] at this; rw [this]; unfold normL; rw [List.length_map, List.length_take]; simp; omega
                have HNx : Hid (SL.take kx ++ (S.data.toList, L[j].2) :: SL.drop kx = (normL (L.take (j + 1))).foldl insB []) := Lib.hid (by rw [normL_take L j hjl, List.foldl_append, ← HSL.out, ← HXl.out, HNm.out]; show _ = insB SL _; unfold insB; rw [hpk])
                obtain ⟨P9, hr9, hs9⟩ := HO10.out.own
                obtain ⟨-, hsh⟩ := rowP_shape hr9
                rw [show ((0 : Nat) : Int) = (kx : Int) from by rw [hkx0]]
                clear hpos hpk hkx0 hr9 hs9
                rcases hsh with ⟨rfl, h0, h1⟩ | ⟨⟨g0, cs0, rfl, _⟩, hcp⟩
                · obtain rfl : kx = 0 := by omega
                  subst h0
                  subst h1
                  obtain ⟨v15, w15, v16, w16, v17, w17, r15, r16, r17, c0, c1, c2, c3, c4, hne⟩ := three_appends (HO10.out.go HBz.out) ((HBz.out.block p (Array.getElem?_eq_some_iff.1 HB10.out).1).trans HB10.out) (isTo_strB_go HT10.out HBz.out) hkx hsl9 22
                  obtain ⟨xa7, xn7, xc7, rfl⟩ : ∃ a n c, v17 = .slice a n c := by obtain ⟨P7, hr7, _⟩ := hne.own; obtain ⟨a, c, e⟩ := rowP_slice hr7; exact ⟨a, _, c, e⟩
                  have q0 := (HC11.out _ (HBz.out.alloc HBz.out.size (.cells #[] 54))).1
                  have HNe := Lib.hid hne; have R15 := Lib.hid r15; have R16 := Lib.hid r16; have R17 := Lib.hid r17
                  clear hne r15 r16 r17
                  go_wp2_with (first
                    | (at_builtin; refine Lib.wpList_append_run _ rfl (.tmp 71) (.tmp 75) _ _ rfl _ _ rfl rfl v15 w15 R15.out ?_)
                    | (at_builtin; refine Lib.wpList_append_run _ rfl (.tmp 77) (.tmp 79) _ _ rfl _ _ rfl rfl v16 w16 R16.out ?_)
                    | (at_builtin; refine Lib.wpList_append_run _ rfl (.tmp 81) (.tmp 85) _ _ rfl _ _ rfl rfl (.slice xa7 xn7 xc7) w17 R17.out ?_))
                  go_roundw
                  case rel => exact ⟨j + 1, by omega, by go_num, .slice xa7 xn7 xc7, HNx.out ▸ HNe.out⟩
                  case measure => simp [intOf]; omega
                · have y0 : kx ≤ lc := by omega
                  have y1 : (kx : Int) ≤ (lc : Int) := by omega
                  have y2 : (0 : Int) ≤ (kx : Int) := by omega
                  have y3 : (kx : Int) ≤ (sn : Int) := by omega
                  have hadd : ∀ q : Nat, (⟨g0, 0, none⟩ : Addr).add q = ⟨g0, q, none⟩ := fun q => by simp [Addr.add] <;> omega
                  obtain ⟨v15, w15, v16, w16, v17, w17, r15, r16, r17, c0, c1, c2, c3, c4, hne⟩ := three_appends (HO10.out.go HBz.out) ((HBz.out.block p (Array.getElem?_eq_some_iff.1 HB10.out).1).trans HB10.out) (isTo_strB_go HT10.out HBz.out) hkx hsl9 22
                  obtain ⟨xa7, xn7, xc7, rfl⟩ : ∃ a n c, v17 = .slice a n c := by obtain ⟨P7, hr7, _⟩ := hne.own; obtain ⟨a, c, e⟩ := rowP_slice hr7; exact ⟨a, _, c, e⟩
                  have q0 := (HC11.out _ (HBz.out.alloc HBz.out.size (.cells #[] 54))).1
                  have HNe := Lib.hid hne; have R15 := Lib.hid r15; have R16 := Lib.hid r16; have R17 := Lib.hid r17
                  clear hne r15 r16 r17
                  go_wp2_with (first
                    | (at_builtin; refine Lib.wpList_append_run _ rfl (.tmp 71) (.tmp 75) _ _ rfl _ _ rfl rfl v15 w15 R15.out ?_)
                    | (at_builtin; refine Lib.wpList_append_run _ rfl (.tmp 77) (.tmp 79) _ _ rfl _ _ rfl rfl v16 w16 R16.out ?_)
                    | (at_builtin; refine Lib.wpList_append_run _ rfl (.tmp 81) (.tmp 85) _ _ rfl _ _ rfl (by go_simp) (.slice xa7 xn7 xc7) w17 R17.out ?_))
                  go_roundw
                  case rel => exact ⟨j + 1, by omega, by go_num, .slice xa7 xn7 xc7, HNx.out ▸ HNe.out⟩
                  case measure => simp [intOf]; omega
              | succ i =>
                have hin : i < SL.length := by rw [← HSn.out]; omega
                have hsn1 : sn ≤ 1000 := by have := insF_len (normL (L.take j)) []; rw [← HSL.out] at this; rw [HSn.out, this]; unfold normL; rw [List.length_map, List.length_take]; simp; omega
                obtain ⟨la2, lc2, hae, _, hac⟩ := ownM_isA HO10.out.own (by have := insF_len (normL (L.take j)) []; rw [← HSL.out] at this; rw [this]; unfold normL maxLen; rw [List.length_map, List.length_take]; simp; omega)
                obtain ⟨g, off2, ux, hla, hgl, hg0, _, _⟩ := hac i hin
                simp only [Value.slice.injEq] at hae
                obtain ⟨rfl, _, _⟩ := hae
                subst hla
                obtain ⟨Y, hY⟩ : ∃ Y : ByteArray, ⟨SL[i].1.toArray⟩ = Y := ⟨_, rfl⟩
                have hYl : Y.data.toList = SL[i].1 := by rw [← hY]
                have hg0 : W10.cell? ⟨g, off2 + i * 2, none⟩ = some (.string Y) := by rw [hg0, ← hY]; rfl
                have HC12 : Hid (∀ W, Below W10.heap.size W10 W → W.cell? ⟨w.heap.size + 2, 1, none⟩ = some (.slice (some ⟨g, off2, none⟩) sn lc) ∧ W.cell? ⟨p, 0, none⟩ = some (.string S) ∧ W.cell? ⟨g, off2 + i * 2, none⟩ = some (.string Y) ∧ Below W10.heap.size W10 W) := Lib.hid (fun W hW => ⟨(HC11.out W hW).1, (HC11.out W hW).2, (hW.cell (p := ⟨g, off2 + i * 2, none⟩) hgl).trans hg0, hW⟩)
                have hst := HC12.out _ hbx.drew
                have z0 : decide ((0 : Int) < ((i + 1 : Nat) : Int)) = true := by simp <;> omega
                have z1 : ((i + 1 : Nat) : Int) - 1 = (i : Int) := by omega
                have z2 : (0 : Int) ≤ (i : Int) := by omega
                have z3 : (i : Int) < (sn : Int) := by omega
                have z4 : i < sn := by omega
                have z5 : i ≤ 1000 := by omega
                have zw : IntKind.i64.wrap (i : Int) = (i : Int) := by simp [IntKind.wrap, IntKind.bits, IntKind.signed]; omega
                have z6 : (i : Int) < (SL.length : Int) := by omega
                obtain ⟨gg, hgg⟩ : ∃ gg, gtB SL[i].1 S.data.toList = gg := ⟨_, rfl⟩
                have t3 : (!Op.bytesLess Y.toList S.toList && !(Y.toList == S.toList)) = gg := by rw [← hgg]; unfold gtB; rw [ByteArray.toList_eq, ByteArray.toList_eq, hYl]
                clear hg0 hac hY
                cases gg with
                | true =>
                  rw [posB_go hin hgg] at hpos
                  go_upto_region 13 with (fail)
                  refine region_det (by kernel_rfl) (fun w' => w'.cell? ⟨w.heap.size + 2, 1, none⟩ = some (.slice (some ⟨g, off2, none⟩) sn lc) ∧ w'.cell? ⟨p, 0, none⟩ = some (.string S) ∧ w'.cell? ⟨g, off2 + i * 2, none⟩ = some (.string Y) ∧ Below W10.heap.size W10 w') (hst) (by kernel_rfl) ?_
                  simp only [List.toList_toArray]
                  repeat' (first
                    | (refine det_shut (by rfl) ?_; (simp only [Act.put, List.setIfInBounds_toArray, List.set_cons_zero, List.set_cons_succ]))
                    | (apply det_val; (case hw => rfl); (case hv => (intro w' hS; (obtain ⟨s0, s1, s2, s3⟩ := hS); go_simp; first | done | with_reducible exact rfl)); (simp only [Act.put, List.setIfInBounds_toArray, List.set_cons_zero, List.set_cons_succ]))
                    | (apply det_call; (case hw => rfl); (case hv => (intro w' hS; (obtain ⟨s0, s1, s2, s3⟩ := hS); go_simp; first | done | with_reducible exact rfl | with_reducible exact ⟨rfl, rfl⟩)); (case hc => (intro w' hS; (first | (go_at_call 41; with_reducible exact HCa.out w')))); (simp only [Act.put, List.setIfInBounds_toArray, List.set_cons_zero, List.set_cons_succ]))
                    | fail)
                  intro wz hSz
                  have HBz := Lib.hid hSz.2.2.2
                  go_wp2
                  go_roundw
                  case rel => exact ⟨i, by first | rfl | (rw [z1]) | go_num, by omega, hpos, HBz.out⟩
                  case measure => simp [intOf] <;> omega
                | false =>
                  rw [posB_stop hin hgg] at hpos
                  go_upto_region 13 with (fail)
                  refine region_det (by kernel_rfl) (fun w' => w'.cell? ⟨w.heap.size + 2, 1, none⟩ = some (.slice (some ⟨g, off2, none⟩) sn lc) ∧ w'.cell? ⟨p, 0, none⟩ = some (.string S) ∧ w'.cell? ⟨g, off2 + i * 2, none⟩ = some (.string Y) ∧ Below W10.heap.size W10 w') (hst) (by kernel_rfl) ?_
                  simp only [List.toList_toArray]
                  repeat' (first
                    | (refine det_shut (by rfl) ?_; (simp only [Act.put, List.setIfInBounds_toArray, List.set_cons_zero, List.set_cons_succ]))
                    | (apply det_val; (case hw => rfl); (case hv => (intro w' hS; (obtain ⟨s0, s1, s2, s3⟩ := hS); go_simp; first | done | with_reducible exact rfl)); (simp only [Act.put, List.setIfInBounds_toArray, List.set_cons_zero, List.set_cons_succ]))
                    | (apply det_call; (case hw => rfl); (case hv => (intro w' hS; (obtain ⟨s0, s1, s2, s3⟩ := hS); go_simp; first | done | with_reducible exact rfl | with_reducible exact ⟨rfl, rfl⟩)); (case hc => (intro w' hS; (first | (go_at_call 41; with_reducible exact HCa.out w')))); (simp only [Act.put, List.setIfInBounds_toArray, List.set_cons_zero, List.set_cons_succ]))
                    | fail)
                  intro wz hSz
                  have HBz := Lib.hid hSz.2.2.2
                  obtain ⟨kx, hkx0⟩ : ∃ q : Nat, q = i + 1 := ⟨_, rfl⟩
                  have hpk : posB SL (S.data.toList, L[j].2) SL.length = kx := by rw [← HSn.out, hpos, hkx0]
                  have hkx : kx ≤ sn := by omega
                  have hsl9 : SL.length ≤ 999 := by have := insF_len (normL (L.take j)) []; rw [← HSL.out] at this; rw [this]; unfold normL; rw [List.length_map, List.length_take]; simp; omega
                  have HNx : Hid (SL.take kx ++ (S.data.toList, L[j].2) :: SL.drop kx = (normL (L.take (j + 1))).foldl insB []) := Lib.hid (by rw [normL_take L j hjl, List.foldl_append, ← HSL.out, ← HXl.out, HNm.out]; show _ = insB SL _; unfold insB; rw [hpk])
                  obtain ⟨P9, hr9, hs9⟩ := HO10.out.own
                  obtain ⟨-, hsh⟩ := rowP_shape hr9
                  rw [show ((i + 1 : Nat) : Int) = (kx : Int) from by rw [hkx0]]
                  clear hpos hpk hkx0 hr9 hs9
                  obtain ⟨⟨g0, cs0, hla0, _⟩, hcp⟩ : (∃ g' cs', (some ⟨g, off2, none⟩ : Option Addr) = some ⟨g', 0, none⟩ ∧ W10.heap[g']? = some (.cells cs' 54 (0, 0))) ∧ sn ≤ lc := by
                    rcases hsh with ⟨h', _⟩ | h'
                    · exact absurd h' (by simp)
                    · exact h'
                  simp only [Option.some.injEq, Addr.mk.injEq, true_and, and_true] at hla0
                  obtain ⟨rfl, rfl⟩ := hla0
                  have y0 : kx ≤ lc := by omega
                  have y1 : (kx : Int) ≤ (lc : Int) := by omega
                  have y2 : (0 : Int) ≤ (kx : Int) := by omega
                  have y3 : (kx : Int) ≤ (sn : Int) := by omega
                  have hadd : ∀ q : Nat, (⟨g, 0, none⟩ : Addr).add q = ⟨g, q, none⟩ := fun q => by simp [Addr.add] <;> omega
                  obtain ⟨v15, w15, v16, w16, v17, w17, r15, r16, r17, c0, c1, c2, c3, c4, hne⟩ := three_appends (HO10.out.go HBz.out) ((HBz.out.block p (Array.getElem?_eq_some_iff.1 HB10.out).1).trans HB10.out) (isTo_strB_go HT10.out HBz.out) hkx hsl9 22
                  obtain ⟨xa7, xn7, xc7, rfl⟩ : ∃ a n c, v17 = .slice a n c := by obtain ⟨P7, hr7, _⟩ := hne.own; obtain ⟨a, c, e⟩ := rowP_slice hr7; exact ⟨a, _, c, e⟩
                  have q0 := (HC11.out _ (HBz.out.alloc HBz.out.size (.cells #[] 54))).1
                  have HNe := Lib.hid hne; have R15 := Lib.hid r15; have R16 := Lib.hid r16; have R17 := Lib.hid r17
                  clear hne r15 r16 r17
                  go_wp2_with (first
                    | (at_builtin; refine Lib.wpList_append_run _ rfl (.tmp 71) (.tmp 75) _ _ rfl _ _ rfl rfl v15 w15 R15.out ?_)
                    | (at_builtin; refine Lib.wpList_append_run _ rfl (.tmp 77) (.tmp 79) _ _ rfl _ _ rfl rfl v16 w16 R16.out ?_)
                    | (at_builtin; refine Lib.wpList_append_run _ rfl (.tmp 81) (.tmp 85) _ _ rfl _ _ rfl (by go_simp) (.slice xa7 xn7 xc7) w17 R17.out ?_))
                  go_roundw
                  case rel => exact ⟨j + 1, by omega, by go_num, .slice xa7 xn7 xc7, HNx.out ▸ HNe.out⟩
                  case measure => simp [intOf]; omega
          · rw [hc2] at hca
            have HCa := Lib.hid hca
            have HNm := Lib.hid hc3
            obtain ⟨b0, _, b2, _⟩ := HB8.out.cells
            clear hca hc1 hc2 hc3
            go_upto_region 12 with (go_at_call 41; refine (HCa.out _).mono ?_; rintro e w9 ⟨rfl, hb9⟩; have hb9a := bthen hb9 ((Below.refl w9.heap.size w9).alloc (Nat.le_refl _) (.cells #[.string ⟨#[]⟩, .bool false] 56)); have hpl : p < W8.heap.size := (Array.getElem?_eq_some_iff.1 HB8.out).1; have hB10 : BoxT (w9.alloc (.cells #[.string ⟨#[]⟩, .bool false] 56)) p X (.slice xa L[j].2.length xc) := (hb9a.block p hpl).trans HB8.out; have hT10 := isTo_strB_go HT8.out hb9a; have hBl10 := bthen HBl8.out hb9a; clear hb9 hb9a)
            generalize (w9.alloc (.cells #[.string ⟨#[]⟩, .bool false] 56)) = W10 at hB10 hT10 hBl10 ⊢
            have HO10 := Lib.hid (HO.out.go hBl10)
            have HB10 := Lib.hid hB10
            have HT10 := Lib.hid hT10
            have HBl10 := Lib.hid hBl10
            have o1 := HO10.out.out.cells.2
            obtain ⟨SL, hSL⟩ : ∃ S, S = (normL (L.take j)).foldl insB [] := ⟨_, rfl⟩
            rw [← hSL] at HO10
            obtain ⟨la, lc, hle2⟩ := (show ∃ a c, l = .slice a SL.length c from by obtain ⟨P, hr, hs⟩ := HO10.out.own; rw [← hs.1]; exact rowP_slice hr)
            obtain ⟨sn, hsn⟩ : ∃ k, k = SL.length := ⟨_, rfl⟩
            rw [← hsn] at hle2
            subst hle2
            have HSL := Lib.hid hSL
            have HSn := Lib.hid hsn
            clear b0 b2 hB10 hT10 hBl10 HB8 HT8 HBl8 HO8 hSL hsn
            go_wp2
            go_loopw [8] (fun k wx => ∃ kk : Nat, k = .int .i64 kk ∧ kk ≤ sn ∧ posB SL (X.data.toList, L[j].2) sn = posB SL (X.data.toList, L[j].2) kk ∧ Below W10.heap.size W10 wx) (fun k wx => (intOf k).toNat)
            case atStart => exact ⟨sn, rfl, Nat.le_refl _, rfl, Below.refl _ _⟩
            case round =>
              obtain ⟨kk, rfl, hkk, hpos, hbx⟩ := hrel
              have HBx2 := Lib.hid hbx
              have HC11 : Hid (∀ W, Below W10.heap.size W10 W → W.cell? ⟨w.heap.size + 2, 1, none⟩ = some (.slice la sn lc) ∧ W.cell? ⟨p, 0, none⟩ = some (.string X)) := Lib.hid (fun W hW => ⟨(hW.cell (p := ⟨w.heap.size + 2, 1, none⟩) (show w.heap.size + 2 < W10.heap.size by have := HO10.out.size; omega)).trans o1, (hW.cell (p := ⟨p, 0, none⟩) (Array.getElem?_eq_some_iff.1 HB10.out).1).trans HB10.out.cells.1⟩)
              cases kk with
              | zero =>
                have z0 : decide ((0 : Int) < ((0 : Nat) : Int)) = false := by simp
                go_upto_region 13 with (fail)
                refine region_det (by kernel_rfl) (fun w' => Below W10.heap.size W10 w') (hbx.drew) (by kernel_rfl) ?_
                simp only [List.toList_toArray]
                repeat' (first
                  | (refine det_shut (by rfl) ?_; (simp only [Act.put, List.setIfInBounds_toArray, List.set_cons_zero, List.set_cons_succ]))
                  | (apply det_val; (case hw => rfl); (case hv => (intro w' hS; go_simp; first | done | with_reducible exact rfl)); (simp only [Act.put, List.setIfInBounds_toArray, List.set_cons_zero, List.set_cons_succ]))
                  | (apply det_call; (case hw => rfl); (case hv => (intro w' hS; go_simp; first | done | with_reducible exact rfl | with_reducible exact ⟨rfl, rfl⟩)); (case hc => (intro w' hS; (first | (go_at_call 41; with_reducible exact HCa.out w')))); (simp only [Act.put, List.setIfInBounds_toArray, List.set_cons_zero, List.set_cons_succ]))
                  | fail)
                intro wz hbz
                have HBz := Lib.hid hbz
                obtain ⟨kx, hkx0⟩ : ∃ q : Nat, q = 0 := ⟨_, rfl⟩
                have hpk : posB SL (X.data.toList, L[j].2) SL.length = kx := by rw [← HSn.out, hpos, hkx0]; rfl
                have hkx : kx ≤ sn := by omega
                have hsl9 : SL.length ≤ 999 := by have := insF_len (normL (L.take j)) []; rw [← HSL.out] at this; rw [this]; unfold normL; rw [List.length_map, List.length_take]; simp; omega
                have HNx : Hid (SL.take kx ++ (X.data.toList, L[j].2) :: SL.drop kx = (normL (L.take (j + 1))).foldl insB []) := Lib.hid (by rw [normL_take L j hjl, List.foldl_append, ← HSL.out, ← HXl.out, HNm.out]; show _ = insB SL _; unfold insB; rw [hpk])
                obtain ⟨P9, hr9, hs9⟩ := HO10.out.own
                obtain ⟨-, hsh⟩ := rowP_shape hr9
                rw [show ((0 : Nat) : Int) = (kx : Int) from by rw [hkx0]]
                clear hpos hpk hkx0 hr9 hs9
                rcases hsh with ⟨rfl, h0, h1⟩ | ⟨⟨g0, cs0, rfl, _⟩, hcp⟩
                · obtain rfl : kx = 0 := by omega
                  subst h0
                  subst h1
                  obtain ⟨v15, w15, v16, w16, v17, w17, r15, r16, r17, c0, c1, c2, c3, c4, hne⟩ := three_appends (HO10.out.go HBz.out) ((HBz.out.block p (Array.getElem?_eq_some_iff.1 HB10.out).1).trans HB10.out) (isTo_strB_go HT10.out HBz.out) hkx hsl9 22
                  obtain ⟨xa7, xn7, xc7, rfl⟩ : ∃ a n c, v17 = .slice a n c := by obtain ⟨P7, hr7, _⟩ := hne.own; obtain ⟨a, c, e⟩ := rowP_slice hr7; exact ⟨a, _, c, e⟩
                  have q0 := (HC11.out _ (HBz.out.alloc HBz.out.size (.cells #[] 54))).1
                  have HNe := Lib.hid hne; have R15 := Lib.hid r15; have R16 := Lib.hid r16; have R17 := Lib.hid r17
                  clear hne r15 r16 r17
                  go_wp2_with (first
                    | (at_builtin; refine Lib.wpList_append_run _ rfl (.tmp 71) (.tmp 75) _ _ rfl _ _ rfl rfl v15 w15 R15.out ?_)
                    | (at_builtin; refine Lib.wpList_append_run _ rfl (.tmp 77) (.tmp 79) _ _ rfl _ _ rfl rfl v16 w16 R16.out ?_)
                    | (at_builtin; refine Lib.wpList_append_run _ rfl (.tmp 81) (.tmp 85) _ _ rfl _ _ rfl rfl (.slice xa7 xn7 xc7) w17 R17.out ?_))
                  go_roundw
                  case rel => exact ⟨j + 1, by omega, by go_num, .slice xa7 xn7 xc7, HNx.out ▸ HNe.out⟩
                  case measure => simp [intOf]; omega
                · have y0 : kx ≤ lc := by omega
                  have y1 : (kx : Int) ≤ (lc : Int) := by omega
                  have y2 : (0 : Int) ≤ (kx : Int) := by omega
                  have y3 : (kx : Int) ≤ (sn : Int) := by omega
                  have hadd : ∀ q : Nat, (⟨g0, 0, none⟩ : Addr).add q = ⟨g0, q, none⟩ := fun q => by simp [Addr.add] <;> omega
                  obtain ⟨v15, w15, v16, w16, v17, w17, r15, r16, r17, c0, c1, c2, c3, c4, hne⟩ := three_appends (HO10.out.go HBz.out) ((HBz.out.block p (Array.getElem?_eq_some_iff.1 HB10.out).1).trans HB10.out) (isTo_strB_go HT10.out HBz.out) hkx hsl9 22
                  obtain ⟨xa7, xn7, xc7, rfl⟩ : ∃ a n c, v17 = .slice a n c := by obtain ⟨P7, hr7, _⟩ := hne.own; obtain ⟨a, c, e⟩ := rowP_slice hr7; exact ⟨a, _, c, e⟩
                  have q0 := (HC11.out _ (HBz.out.alloc HBz.out.size (.cells #[] 54))).1
                  have HNe := Lib.hid hne; have R15 := Lib.hid r15; have R16 := Lib.hid r16; have R17 := Lib.hid r17
                  clear hne r15 r16 r17
                  go_wp2_with (first
                    | (at_builtin; refine Lib.wpList_append_run _ rfl (.tmp 71) (.tmp 75) _ _ rfl _ _ rfl rfl v15 w15 R15.out ?_)
                    | (at_builtin; refine Lib.wpList_append_run _ rfl (.tmp 77) (.tmp 79) _ _ rfl _ _ rfl rfl v16 w16 R16.out ?_)
                    | (at_builtin; refine Lib.wpList_append_run _ rfl (.tmp 81) (.tmp 85) _ _ rfl _ _ rfl (by go_simp) (.slice xa7 xn7 xc7) w17 R17.out ?_))
                  go_roundw
                  case rel => exact ⟨j + 1, by omega, by go_num, .slice xa7 xn7 xc7, HNx.out ▸ HNe.out⟩
                  case measure => simp [intOf]; omega
              | succ i =>
                have hin : i < SL.length := by rw [← HSn.out]; omega
                have hsn1 : sn ≤ 1000 := by have := insF_len (normL (L.take j)) []; rw [← HSL.out] at this; rw [HSn.out, this]; unfold normL; rw [List.length_map, List.length_take]; simp; omega
                obtain ⟨la2, lc2, hae, _, hac⟩ := ownM_isA HO10.out.own (by have := insF_len (normL (L.take j)) []; rw [← HSL.out] at this; rw [this]; unfold normL maxLen; rw [List.length_map, List.length_take]; simp; omega)
                obtain ⟨g, off2, ux, hla, hgl, hg0, _, _⟩ := hac i hin
                simp only [Value.slice.injEq] at hae
                obtain ⟨rfl, _, _⟩ := hae
                subst hla
                obtain ⟨Y, hY⟩ : ∃ Y : ByteArray, ⟨SL[i].1.toArray⟩ = Y := ⟨_, rfl⟩
                have hYl : Y.data.toList = SL[i].1 := by rw [← hY]
                have hg0 : W10.cell? ⟨g, off2 + i * 2, none⟩ = some (.string Y) := by rw [hg0, ← hY]; rfl
                have HC12 : Hid (∀ W, Below W10.heap.size W10 W → W.cell? ⟨w.heap.size + 2, 1, none⟩ = some (.slice (some ⟨g, off2, none⟩) sn lc) ∧ W.cell? ⟨p, 0, none⟩ = some (.string X) ∧ W.cell? ⟨g, off2 + i * 2, none⟩ = some (.string Y) ∧ Below W10.heap.size W10 W) := Lib.hid (fun W hW => ⟨(HC11.out W hW).1, (HC11.out W hW).2, (hW.cell (p := ⟨g, off2 + i * 2, none⟩) hgl).trans hg0, hW⟩)
                have hst := HC12.out _ hbx.drew
                have z0 : decide ((0 : Int) < ((i + 1 : Nat) : Int)) = true := by simp <;> omega
                have z1 : ((i + 1 : Nat) : Int) - 1 = (i : Int) := by omega
                have z2 : (0 : Int) ≤ (i : Int) := by omega
                have z3 : (i : Int) < (sn : Int) := by omega
                have z4 : i < sn := by omega
                have z5 : i ≤ 1000 := by omega
                have zw : IntKind.i64.wrap (i : Int) = (i : Int) := by simp [IntKind.wrap, IntKind.bits, IntKind.signed]; omega
                have z6 : (i : Int) < (SL.length : Int) := by omega
                obtain ⟨gg, hgg⟩ : ∃ gg, gtB SL[i].1 X.data.toList = gg := ⟨_, rfl⟩
                have t3 : (!Op.bytesLess Y.toList X.toList && !(Y.toList == X.toList)) = gg := by rw [← hgg]; unfold gtB; rw [ByteArray.toList_eq, ByteArray.toList_eq, hYl]
                clear hg0 hac hY
                cases gg with
                | true =>
                  rw [posB_go hin hgg] at hpos
                  go_upto_region 13 with (fail)
                  refine region_det (by kernel_rfl) (fun w' => w'.cell? ⟨w.heap.size + 2, 1, none⟩ = some (.slice (some ⟨g, off2, none⟩) sn lc) ∧ w'.cell? ⟨p, 0, none⟩ = some (.string X) ∧ w'.cell? ⟨g, off2 + i * 2, none⟩ = some (.string Y) ∧ Below W10.heap.size W10 w') (hst) (by kernel_rfl) ?_
                  simp only [List.toList_toArray]
                  repeat' (first
                    | (refine det_shut (by rfl) ?_; (simp only [Act.put, List.setIfInBounds_toArray, List.set_cons_zero, List.set_cons_succ]))
                    | (apply det_val; (case hw => rfl); (case hv => (intro w' hS; (obtain ⟨s0, s1, s2, s3⟩ := hS); go_simp; first | done | with_reducible exact rfl)); (simp only [Act.put, List.setIfInBounds_toArray, List.set_cons_zero, List.set_cons_succ]))
                    | (apply det_call; (case hw => rfl); (case hv => (intro w' hS; (obtain ⟨s0, s1, s2, s3⟩ := hS); go_simp; first | done | with_reducible exact rfl | with_reducible exact ⟨rfl, rfl⟩)); (case hc => (intro w' hS; (first | (go_at_call 41; with_reducible exact HCa.out w')))); (simp only [Act.put, List.setIfInBounds_toArray, List.set_cons_zero, List.set_cons_succ]))
                    | fail)
                  intro wz hSz
                  have HBz := Lib.hid hSz.2.2.2
                  go_wp2
                  go_roundw
                  case rel => exact ⟨i, by first | rfl | (rw [z1]) | go_num, by omega, hpos, HBz.out⟩
                  case measure => simp [intOf] <;> omega
                | false =>
                  rw [posB_stop hin hgg] at hpos
                  go_upto_region 13 with (fail)
                  refine region_det (by kernel_rfl) (fun w' => w'.cell? ⟨w.heap.size + 2, 1, none⟩ = some (.slice (some ⟨g, off2, none⟩) sn lc) ∧ w'.cell? ⟨p, 0, none⟩ = some (.string X) ∧ w'.cell? ⟨g, off2 + i * 2, none⟩ = some (.string Y) ∧ Below W10.heap.size W10 w') (hst) (by kernel_rfl) ?_
                  simp only [List.toList_toArray]
                  repeat' (first
                    | (refine det_shut (by rfl) ?_; (simp only [Act.put, List.setIfInBounds_toArray, List.set_cons_zero, List.set_cons_succ]))
                    | (apply det_val; (case hw => rfl); (case hv => (intro w' hS; (obtain ⟨s0, s1, s2, s3⟩ := hS); go_simp; first | done | with_reducible exact rfl)); (simp only [Act.put, List.setIfInBounds_toArray, List.set_cons_zero, List.set_cons_succ]))
                    | (apply det_call; (case hw => rfl); (case hv => (intro w' hS; (obtain ⟨s0, s1, s2, s3⟩ := hS); go_simp; first | done | with_reducible exact rfl | with_reducible exact ⟨rfl, rfl⟩)); (case hc => (intro w' hS; (first | (go_at_call 41; with_reducible exact HCa.out w')))); (simp only [Act.put, List.setIfInBounds_toArray, List.set_cons_zero, List.set_cons_succ]))
                    | fail)
                  intro wz hSz
                  have HBz := Lib.hid hSz.2.2.2
                  obtain ⟨kx, hkx0⟩ : ∃ q : Nat, q = i + 1 := ⟨_, rfl⟩
                  have hpk : posB SL (X.data.toList, L[j].2) SL.length = kx := by rw [← HSn.out, hpos, hkx0]
                  have hkx : kx ≤ sn := by omega
                  have hsl9 : SL.length ≤ 999 := by have := insF_len (normL (L.take j)) []; rw [← HSL.out] at this; rw [this]; unfold normL; rw [List.length_map, List.length_take]; simp; omega
                  have HNx : Hid (SL.take kx ++ (X.data.toList, L[j].2) :: SL.drop kx = (normL (L.take (j + 1))).foldl insB []) := Lib.hid (by rw [normL_take L j hjl, List.foldl_append, ← HSL.out, ← HXl.out, HNm.out]; show _ = insB SL _; unfold insB; rw [hpk])
                  obtain ⟨P9, hr9, hs9⟩ := HO10.out.own
                  obtain ⟨-, hsh⟩ := rowP_shape hr9
                  rw [show ((i + 1 : Nat) : Int) = (kx : Int) from by rw [hkx0]]
                  clear hpos hpk hkx0 hr9 hs9
                  obtain ⟨⟨g0, cs0, hla0, _⟩, hcp⟩ : (∃ g' cs', (some ⟨g, off2, none⟩ : Option Addr) = some ⟨g', 0, none⟩ ∧ W10.heap[g']? = some (.cells cs' 54 (0, 0))) ∧ sn ≤ lc := by
                    rcases hsh with ⟨h', _⟩ | h'
                    · exact absurd h' (by simp)
                    · exact h'
                  simp only [Option.some.injEq, Addr.mk.injEq, true_and, and_true] at hla0
                  obtain ⟨rfl, rfl⟩ := hla0
                  have y0 : kx ≤ lc := by omega
                  have y1 : (kx : Int) ≤ (lc : Int) := by omega
                  have y2 : (0 : Int) ≤ (kx : Int) := by omega
                  have y3 : (kx : Int) ≤ (sn : Int) := by omega
                  have hadd : ∀ q : Nat, (⟨g, 0, none⟩ : Addr).add q = ⟨g, q, none⟩ := fun q => by simp [Addr.add] <;> omega
                  obtain ⟨v15, w15, v16, w16, v17, w17, r15, r16, r17, c0, c1, c2, c3, c4, hne⟩ := three_appends (HO10.out.go HBz.out) ((HBz.out.block p (Array.getElem?_eq_some_iff.1 HB10.out).1).trans HB10.out) (isTo_strB_go HT10.out HBz.out) hkx hsl9 22
                  obtain ⟨xa7, xn7, xc7, rfl⟩ : ∃ a n c, v17 = .slice a n c := by obtain ⟨P7, hr7, _⟩ := hne.own; obtain ⟨a, c, e⟩ := rowP_slice hr7; exact ⟨a, _, c, e⟩
                  have q0 := (HC11.out _ (HBz.out.alloc HBz.out.size (.cells #[] 54))).1
                  have HNe := Lib.hid hne; have R15 := Lib.hid r15; have R16 := Lib.hid r16; have R17 := Lib.hid r17
                  clear hne r15 r16 r17
                  go_wp2_with (first
                    | (at_builtin; refine Lib.wpList_append_run _ rfl (.tmp 71) (.tmp 75) _ _ rfl _ _ rfl rfl v15 w15 R15.out ?_)
                    | (at_builtin; refine Lib.wpList_append_run _ rfl (.tmp 77) (.tmp 79) _ _ rfl _ _ rfl rfl v16 w16 R16.out ?_)
                    | (at_builtin; refine Lib.wpList_append_run _ rfl (.tmp 81) (.tmp 85) _ _ rfl _ _ rfl (by go_simp) (.slice xa7 xn7 xc7) w17 R17.out ?_))
                  go_roundw
                  case rel => exact ⟨j + 1, by omega, by go_num, .slice xa7 xn7 xc7, HNx.out ▸ HNe.out⟩
                  case measure => simp [intOf]; omega
      · obtain rfl : j = n := by omega
        have t1 : decide ((j : Int) < (j : Int)) = false := by simp
        have hLj : L.take j = L := List.take_of_length_le (by rw [← HN.out]; exact Nat.le_refl _)
        rw [hLj, ← sortA_fold] at hO
        have HO := Lib.hid hO
        obtain ⟨la2, lc2, hle2⟩ := (show ∃ a c, l = .slice a (sortA (normL L)).length c from by obtain ⟨P, hr, hs⟩ := hO.own; rw [← hs.1]; exact rowP_slice hr)
        obtain ⟨sn, hsn⟩ : ∃ k, k = (sortA (normL L)).length := ⟨_, rfl⟩
        rw [← hsn] at hle2
        subst hle2
        have hz : sn ≤ maxLen := by rw [hsn, sortA_len2]; unfold normL maxLen; rw [List.length_map, ← HN.out]; omega
        obtain ⟨o0, o1⟩ := hO.out.cells
        obtain ⟨_, p0, p1, y0, y1⟩ := hO.box
        have HSn := Lib.hid hsn
        have HZ := Lib.hid hz
        clear hO hsn hz hLj
        go_wp2
        refine bodyPost_ret (v := .agg #[.string TD, .slice la2 sn lc2]) (by simp [results, Tryz.results14, go_sem, p0, p1]) rfl ⟨_, rfl, ?_, (HO.out.bel.setCell (p := ⟨w.heap.size + 1, 0, none⟩) (show w.heap.size ≤ w.heap.size + 1 by omega) _).setCell (p := ⟨w.heap.size + 1, 1, none⟩) (show w.heap.size ≤ w.heap.size + 1 by omega) _⟩
        have ho := ownM_entry (i := 1) (x := .slice la2 sn lc2) (ownM_entry (i := 0) (x := .string TD) HO.out.own HO.out.res (by omega)) (boxN_store0 HO.out.res) (by omega)
        exact ownM_isA ho (by rw [← HSn.out]; exact HZ.out)
  | some l =>
    have hsm := okL_small (parse_ok e)
    have htx := fun v w h => textRef_any l hsm v w h
    have hT : strV (textD l) = .string TD := by
      rw [← hTD]; unfold nameN; rw [e]
    simp only [hT] at htx
    simp only [e] at hpa
    have HPa := Lib.hid hpa
    have HTx := Lib.hid htx
    clear h hs hm hcell hn hpa hTD hW3 hSt e heb hT htx hsm
    go_enter Tryz.func14, Tryz.ntmps14
    go_upto_region 5 with (first
      | (go_at_call 49; rw [HW3.out]; refine (HPa.out _).mono ?_; rintro e w2 ⟨hb2, v2, rfl, hil⟩; (obtain ⟨la, lc, rfl, _⟩ := id hil); have hb2a := (Below.refl w2.heap.size w2).alloc (Nat.le_refl _) (.cells #[.slice la l.length lc, .bool true] 72); have HIl := Lib.hid (hil.below hb2a hb2a.size); have HSt2 := Lib.hid (HSt.out.go (bthen hb2 hb2a)); clear hb2 hb2a hil)
      | (go_at_call 50; refine (HTx.out _ _ HIl.out).mono ?_; rintro e w4 ⟨rfl, hb4⟩; have HSt4 := Lib.hid (HSt2.out.go hb4); have p0 := HSt4.out.out.cells.1; have p1 := HSt4.out.out.free 0; clear hb4))
    have hst4 := NeAt.named (TD := TD) HSt4.out
    have HSt5 := Lib.hid hst4
    rw [show w.heap.size + 1 + 1 = w.heap.size + 2 from rfl]
    generalize (w4.setCell ⟨w.heap.size + 2, 0, none⟩ (.string TD)) = W5 at HSt5 ⊢
    clear hst4 p0 p1 HSt4 HSt2 HIl HW3 HBx HSt
    go_wp2
    go_loopw [5] (fun i wr => ∃ j : Nat, j ≤ n ∧ i = .int .i64 j ∧ NeI w TD d (.slice sa n sc) L wr j) (fun i wr => n - (intOf i).toNat)
    case atStart => exact ⟨0, by omega, rfl, _, HSt5.out⟩
    case round =>
      obtain ⟨j, hj, rfl, l, hO⟩ := hrel
      have HO := Lib.hid hO
      have c2 := hO.e1
      have hew : w.heap.size < wr.heap.size := by have := hO.size; omega
      by_cases hlt : j < n
      · have t1 : decide ((j : Int) < (n : Int)) = true := by simp; omega
        have t1' : decide (j < n) = true := by simpa using hlt
        have t1z : (0 : Int) ≤ (j : Int) := by omega
        have t1y : (j : Int) < (n : Int) := by omega
        have hjl : j < L.length := by rw [← HN.out]; exact hlt
        obtain ⟨b, off, u, rfl, hb0, k0, k1, hu⟩ := HC.out j hjl
        obtain ⟨ua, uc, hue, _⟩ := id hu
        obtain ⟨un, hun⟩ : ∃ k, k = L[j].2.length := ⟨_, rfl⟩
        rw [← hun] at hue
        subst hue
        clear hun
        obtain ⟨X, hX⟩ : ∃ X : ByteArray, ⟨L[j].1.toArray⟩ = X := ⟨_, rfl⟩
        have hXl : X.data.toList = L[j].1 := by rw [← hX]
        have c0 : wr.cell? ⟨b, off + j * 2, none⟩ = some (.string X) := by rw [hO.bel.cell (p := ⟨b, _, none⟩) hb0, k0, ← hX]; rfl
        have c1 := (hO.bel.cell (p := ⟨b, off + j * 2 + 1, none⟩) hb0).trans k1
        have hbw : b < wr.heap.size := Nat.lt_of_lt_of_le hb0 hO.bel.size
        have HU := Lib.hid hu
        have hgr0 := hO.bel
        have hle := hgr0.size
        have HXl := Lib.hid hXl
        clear hO k0 k1 hu hX hXl hb0
        go_upto_region 8 with (fail)
        refine region_factsB (by kernel_rfl) (FN wr.heap.size [.is (.pointer (some ⟨w.heap.size, 1, none⟩)), .is (.slice (some ⟨b, off, none⟩) n sc), .is (.int .i64 (j : Int)), .is (.pointer (some ⟨b, off + j * 2, none⟩)), .is (.pointer (some ⟨b, off + j * 2, none⟩)), .is (.string X), .emp, .is (.pointer (some ⟨w.heap.size, 1, none⟩)), .is (.slice (some ⟨b, off, none⟩) n sc), .is (.int .i64 (j : Int)), .is (.pointer (some ⟨b, off + j * 2, none⟩)), .is (.pointer (some ⟨b, off + j * 2 + 1, none⟩)), .is (.slice ua un uc), .txt L[j].2, .agg X L[j].2, .box]) (fun w w' => Below w.heap.size w w') (fun _ _ _ _ h hb => h.go hb) (fun _ _ _ h1 h2 => bthen h1 h2) (Below.refl _ _).drew (by kernel_rfl) rfl ?hs ?hl
        case hs =>
          intro listed a W hk i o ho hi hc
          have e1 := hk.read (t := 1) (by kernel_rfl) rfl
          have e5 := hk.read (t := 5) (by kernel_rfl) rfl
          have hgr : Below wr.heap.size wr W := hk.grown
          have d0 := (hgr.cell (p := ⟨b, off + j * 2, none⟩) hbw).trans c0
          have d1 := (hgr.cell (p := ⟨b, off + j * 2 + 1, none⟩) hbw).trans c1
          have d2 := (hgr.cell (p := ⟨w.heap.size, 1, none⟩) hew).trans c2
          match i, hi with
          | 0, _ =>
            obtain rfl := Option.some.inj ho
            exact wpOp_val rfl rfl (v := .pointer (some ⟨w.heap.size, 1, none⟩)) (w' := W) (by simp [go_sem, e1]) ⟨_, _, rfl, rfl, Below.refl _ _, rfl⟩
          | 1, _ =>
            obtain rfl := Option.some.inj ho
            obtain ⟨v0, g0, f0⟩ := hk.got (j := 0) rfl rfl (hc ⟨0, .data⟩ (by simp) rfl); obtain rfl : v0 = _ := f0
            exact wpOp_val rfl rfl (v := .slice (some ⟨b, off, none⟩) n sc) (w' := W) (by simp [go_sem, g0, d2]) ⟨_, _, rfl, rfl, Below.refl _ _, rfl⟩
          | 2, _ =>
            obtain rfl := Option.some.inj ho
            exact wpOp_val rfl rfl (v := .int .i64 (j : Int)) (w' := W) (by simp [go_sem, e5]) ⟨_, _, rfl, rfl, Below.refl _ _, rfl⟩
          | 3, _ =>
            obtain rfl := Option.some.inj ho
            obtain ⟨v1, g1, f1⟩ := hk.got (j := 1) rfl rfl (hc ⟨1, .data⟩ (by simp) rfl); obtain rfl : v1 = _ := f1
            obtain ⟨v2, g2, f2⟩ := hk.got (j := 2) rfl rfl (hc ⟨2, .data⟩ (by simp) rfl); obtain rfl : v2 = _ := f2
            exact wpOp_val rfl rfl (v := .pointer (some ⟨b, off + j * 2, none⟩)) (w' := W) (by simp [go_sem, g1, g2, t1, t1z, t1y]) ⟨_, _, rfl, rfl, Below.refl _ _, rfl⟩
          | 4, _ =>
            obtain rfl := Option.some.inj ho
            obtain ⟨v3, g3, f3⟩ := hk.got (j := 3) rfl rfl (hc ⟨3, .data⟩ (by simp) rfl); obtain rfl : v3 = _ := f3
            exact wpOp_val rfl rfl (v := .pointer (some ⟨b, off + j * 2, none⟩)) (w' := W) (by simp [go_sem, g3]) ⟨_, _, rfl, rfl, Below.refl _ _, rfl⟩
          | 5, _ =>
            obtain rfl := Option.some.inj ho
            obtain ⟨v4, g4, f4⟩ := hk.got (j := 4) rfl rfl (hc ⟨4, .data⟩ (by simp) rfl); obtain rfl : v4 = _ := f4
            exact wpOp_val rfl rfl (v := .string X) (w' := W) (by simp [go_sem, g4, d0]) ⟨_, _, rfl, rfl, Below.refl _ _, rfl⟩
          | 6, _ =>
            obtain rfl := Option.some.inj ho
            exact wpOp_val rfl rfl (v := .slice (some ⟨W.heap.size, 0, none⟩) 0 0) (w' := W.alloc (.cells #[] 9)) (by simp [go_sem]) ⟨_, _, rfl, rfl, (Below.refl _ _).alloc (Nat.le_refl _) _, ⟨_, rfl, hgr.size, heap_alloc_new W _⟩⟩
          | 7, _ =>
            obtain rfl := Option.some.inj ho
            exact wpOp_val rfl rfl (v := .pointer (some ⟨w.heap.size, 1, none⟩)) (w' := W) (by simp [go_sem, e1]) ⟨_, _, rfl, rfl, Below.refl _ _, rfl⟩
          | 8, _ =>
            obtain rfl := Option.some.inj ho
            obtain ⟨v7, g7, f7⟩ := hk.got (j := 7) rfl rfl (hc ⟨7, .data⟩ (by simp) rfl); obtain rfl : v7 = _ := f7
            exact wpOp_val rfl rfl (v := .slice (some ⟨b, off, none⟩) n sc) (w' := W) (by simp [go_sem, g7, d2]) ⟨_, _, rfl, rfl, Below.refl _ _, rfl⟩
          | 9, _ =>
            obtain rfl := Option.some.inj ho
            exact wpOp_val rfl rfl (v := .int .i64 (j : Int)) (w' := W) (by simp [go_sem, e5]) ⟨_, _, rfl, rfl, Below.refl _ _, rfl⟩
          | 10, _ =>
            obtain rfl := Option.some.inj ho
            obtain ⟨v8, g8, f8⟩ := hk.got (j := 8) rfl rfl (hc ⟨8, .data⟩ (by simp) rfl); obtain rfl : v8 = _ := f8
            obtain ⟨v9, g9, f9⟩ := hk.got (j := 9) rfl rfl (hc ⟨9, .data⟩ (by simp) rfl); obtain rfl : v9 = _ := f9
            exact wpOp_val rfl rfl (v := .pointer (some ⟨b, off + j * 2, none⟩)) (w' := W) (by simp [go_sem, g8, g9, t1, t1z, t1y]) ⟨_, _, rfl, rfl, Below.refl _ _, rfl⟩
          | 11, _ =>
            obtain rfl := Option.some.inj ho
            obtain ⟨v10, g10, f10⟩ := hk.got (j := 10) rfl rfl (hc ⟨10, .data⟩ (by simp) rfl); obtain rfl : v10 = _ := f10
            exact wpOp_val rfl rfl (v := .pointer (some ⟨b, off + j * 2 + 1, none⟩)) (w' := W) (by simp [go_sem, g10]) ⟨_, _, rfl, rfl, Below.refl _ _, rfl⟩
          | 12, _ =>
            obtain rfl := Option.some.inj ho
            obtain ⟨v11, g11, f11⟩ := hk.got (j := 11) rfl rfl (hc ⟨11, .data⟩ (by simp) rfl); obtain rfl : v11 = _ := f11
            exact wpOp_val rfl rfl (v := .slice ua un uc) (w' := W) (by simp [go_sem, g11, d1]) ⟨_, _, rfl, rfl, Below.refl _ _, rfl⟩
          | 13, _ =>
            obtain rfl := Option.some.inj ho
            obtain ⟨v6, g6, f6⟩ := hk.got (j := 6) rfl rfl (hc ⟨6, .data⟩ (by simp) rfl)
            obtain ⟨v12, g12, f12⟩ := hk.got (j := 12) rfl rfl (hc ⟨12, .data⟩ (by simp) rfl); obtain rfl : v12 = _ := f12
            obtain ⟨g, rfl, hgB, hgc⟩ := f6
            obtain ⟨v', w', hrun, hto, hbl⟩ := run_copy_T hgc ((HU.out.below hgr0 (Nat.le_refl _)).below (hgr.mono hle) (Nat.le_refl _)) (by have := (HS.out.2 _ (List.getElem_mem hjl)).2.1; omega) 25
            exact wpOp_val rfl rfl (v := v') (w' := w') (exec_append (s := .tmp 35) (x := .tmp 41) rfl (by simp [go_sem, g6]) (by simp [go_sem, g12]) hrun) ⟨_, _, rfl, rfl, hbl, hto⟩
          | 14, _ =>
            obtain rfl := Option.some.inj ho
            obtain ⟨v5, g5, f5⟩ := hk.got (j := 5) rfl rfl (hc ⟨5, .data⟩ (by simp) rfl); obtain rfl : v5 = _ := f5
            obtain ⟨v13, g13, f13⟩ := hk.got (j := 13) rfl rfl (hc ⟨13, .data⟩ (by simp) rfl)
            obtain ⟨xa, xc, rfl, _⟩ := id f13
            exact wpOp_val rfl rfl (v := .agg #[.string X, .slice xa L[j].2.length xc]) (w' := W) (by simp [go_sem, g5, g13]) ⟨_, _, rfl, rfl, Below.refl _ _, ⟨_, rfl, f13⟩⟩
          | 15, _ =>
            obtain rfl := Option.some.inj ho
            exact wpOp_val rfl rfl (v := .pointer (some ⟨W.heap.size, 0, none⟩)) (w' := W.alloc (.cells #[.string ⟨#[]⟩, .slice none 0 0] 54)) (by simp [go_sem]) ⟨_, _, rfl, rfl, (Below.refl _ _).alloc (Nat.le_refl _) _, ⟨_, rfl, hgr.size, heap_alloc_new W _⟩⟩
          | k + 16, h => exact absurd h (by simp)
        case hl =>
          intro listed a W hk hall
          obtain ⟨v14, g14, f14⟩ := hk.got (j := 14) rfl rfl (hall 14 (by simp))
          obtain ⟨v15, g15, f15⟩ := hk.got (j := 15) rfl rfl (hall 15 (by simp))
          obtain ⟨x, rfl, hto⟩ := f14
          obtain ⟨p, rfl, hpB, hpc⟩ := f15
          obtain ⟨xa, xc, rfl, _⟩ := id hto
          have hb8 : BoxT W p ⟨#[]⟩ (.slice none 0 0) := hpc
          have hb80 := hb8.set0 (y := X)
          have hb81 := hb80.set1 (v := .slice xa L[j].2.length xc)
          obtain ⟨q0, _, q2, _⟩ := hb8.cells
          obtain ⟨_, q1, _, q3⟩ := hb80.cells
          have hto8 := isTo_attr (i := 1) (x := .slice xa L[j].2.length xc) hb80 (isTo_attr (i := 0) (x := .string X) hb8 hto)
          have hgr : Below wr.heap.size wr W := hk.grown
          have hbl8 := (hgr.setCell (p := ⟨p, 0, none⟩) hpB (.string X)).setCell (p := ⟨p, 1, none⟩) hpB (.slice xa L[j].2.length xc)
          have hput := hk.puts
          refine wpOp_skip rfl rfl (w' := (W.setCell ⟨p, 0, none⟩ (.string X)).setCell ⟨p, 1, none⟩ (.slice xa L[j].2.length xc)) (by simp [go_sem, g14, g15, q0, q1, q2, q3]) ?_
          rw [hput]
          simp only [putT, g15]
          generalize a.tmps[29]?.getD undef = x29
          generalize a.tmps[30]?.getD undef = x30
          generalize a.tmps[31]?.getD undef = x31
          generalize a.tmps[32]?.getD undef = x32
          generalize a.tmps[33]?.getD undef = x33
          generalize a.tmps[34]?.getD undef = x34
          generalize a.tmps[35]?.getD undef = x35
          generalize a.tmps[36]?.getD undef = x36
          generalize a.tmps[37]?.getD undef = x37
          generalize a.tmps[38]?.getD undef = x38
          generalize a.tmps[39]?.getD undef = x39
          generalize a.tmps[40]?.getD undef = x40
          generalize a.tmps[41]?.getD undef = x41
          generalize a.tmps[42]?.getD undef = x42
          generalize a.tmps[43]?.getD undef = x43
          have HO8 := Lib.hid (HO.out.go hbl8)
          have HB8 := Lib.hid hb81
          have HT8 := Lib.hid hto8
          have hpz : wr.heap.size ≤ p := hpB
          have HBl8 := Lib.hid hbl8
          clear hall hput g14 g15 hto hpB hpc hb8 hb80 hb81 hto8 hbl8 hgr q0 q1 q2 q3 hk
          generalize ((W.setCell ⟨p, 0, none⟩ (.string X)).setCell ⟨p, 1, none⟩ (.slice xa L[j].2.length xc)) = W8 at HO8 HB8 HT8 HBl8 ⊢
          go_simp
          have hxs : X.size ≤ 281474976710656 := by have := (HS.out.2 _ (List.getElem_mem hjl)).1; rw [← HXl.out, bytes_len] at this; omega
          have hca := fun w => canonRef_any X hxs w
          rcases canon_forms X.data.toList with ⟨S, hc1, hc2, hc3⟩ | ⟨hc1, hc2, hc3⟩
          · rw [hc2] at hca
            have HCa := Lib.hid hca
            have HNm := Lib.hid hc3
            obtain ⟨b0, _, b2, _⟩ := HB8.out.cells
            clear hca hc1 hc2 hc3
            go_upto_region 12 with (go_at_call 41; refine (HCa.out _).mono ?_; rintro e w9 ⟨rfl, hb9⟩; have hb9a := bthen hb9 ((Below.refl w9.heap.size w9).alloc (Nat.le_refl _) (.cells #[.string S, .bool true] 56)); have hpl : p < W8.heap.size := (Array.getElem?_eq_some_iff.1 HB8.out).1; have q0 := (hb9a.cell (p := ⟨p, 0, none⟩) hpl).trans b0; have q2 := (hb9a.frozen (p := ⟨p, 0, none⟩) hpl).trans b2; have HB9 : Hid (BoxT (w9.alloc (.cells #[.string S, .bool true] 56)) p X (.slice xa L[j].2.length xc)) := Lib.hid ((hb9a.block p hpl).trans HB8.out); have HT9 := Lib.hid (isTo_strB_go HT8.out hb9a); have HBl9 := Lib.hid (bthen HBl8.out hb9a); clear hb9 hb9a)
            have hB10 := HB9.out.set0 (y := S)
            have hT10 := isTo_attr (i := 0) (x := .string S) HB9.out HT9.out
            have hBl10 := HBl9.out.setCell (p := ⟨p, 0, none⟩) hpz (.string S)
            generalize ((w9.alloc (.cells #[.string S, .bool true] 56)).setCell ⟨p, 0, none⟩ (.string S)) = W10 at hB10 hT10 hBl10 ⊢
            clear q0 q2 HB9 HT9 HBl9
            have HO10 := Lib.hid (HO.out.go hBl10)
            have HB10 := Lib.hid hB10
            have HT10 := Lib.hid hT10
            have HBl10 := Lib.hid hBl10
            have o1 := HO10.out.out.cells.2
            obtain ⟨SL, hSL⟩ : ∃ S, S = (normL (L.take j)).foldl insB [] := ⟨_, rfl⟩
            rw [← hSL] at HO10
            obtain ⟨la, lc, hle2⟩ := (show ∃ a c, l = .slice a SL.length c from by obtain ⟨P, hr, hs⟩ := HO10.out.own; rw [← hs.1]; exact rowP_slice hr)
            obtain ⟨sn, hsn⟩ : ∃ k, k = SL.length := ⟨_, rfl⟩
            rw [← hsn] at hle2
            subst hle2
            have HSL := Lib.hid hSL
            have HSn := Lib.hid hsn
            clear b0 b2 hB10 hT10 hBl10 HB8 HT8 HBl8 HO8 hSL hsn
            go_wp2
            go_loopw [8] (fun k wx => ∃ kk : Nat, k = .int .i64 kk ∧ kk ≤ sn ∧ posB SL (S.data.toList, L[j].2) sn = posB SL (S.data.toList, L[j].2) kk ∧ Below W10.heap.size W10 wx) (fun k wx => (intOf k).toNat)
            case atStart => exact ⟨sn, rfl, Nat.le_refl _, rfl, Below.refl _ _⟩
            case round =>
              obtain ⟨kk, rfl, hkk, hpos, hbx⟩ := hrel
              have HBx2 := Lib.hid hbx
              have HC11 : Hid (∀ W, Below W10.heap.size W10 W → W.cell? ⟨w.heap.size + 2, 1, none⟩ = some (.slice la sn lc) ∧ W.cell? ⟨p, 0, none⟩ = some (.string S)) := Lib.hid (fun W hW => ⟨(hW.cell (p := ⟨w.heap.size + 2, 1, none⟩) (show w.heap.size + 2 < W10.heap.size by have := HO10.out.size; omega)).trans o1, (hW.cell (p := ⟨p, 0, none⟩) (Array.getElem?_eq_some_iff.1 HB10.out).1).trans HB10.out.cells.1⟩)
              cases kk with
              | zero =>
                have z0 : decide ((0 : Int) < ((0 : Nat) : Int)) = false := by simp
                go_upto_region 13 with (fail)
                refine region_det (by kernel_rfl) (fun w' => Below W10.heap.size W10 w') (hbx.drew) (by kernel_rfl) ?_
                simp only [List.toList_toArray]
                repeat' (first
                  | (refine det_shut (by rfl) ?_; (simp only [Act.put, List.setIfInBounds_toArray, List.set_cons_zero, List.set_cons_succ]))
                  | (apply det_val; (case hw => rfl); (case hv => (intro w' hS; go_simp; first | done | with_reducible exact rfl)); (simp only [Act.put, List.setIfInBounds_toArray, List.set_cons_zero, List.set_cons_succ]))
                  | (apply det_call; (case hw => rfl); (case hv => (intro w' hS; go_simp; first | done | with_reducible exact rfl | with_reducible exact ⟨rfl, rfl⟩)); (case hc => (intro w' hS; (first | (go_at_call 41; with_reducible exact HCa.out w')))); (simp only [Act.put, List.setIfInBounds_toArray, List.set_cons_zero, List.set_cons_succ]))
                  | fail)
                intro wz hbz
                have HBz := Lib.hid hbz
                obtain ⟨kx, hkx0⟩ : ∃ q : Nat, q = 0 := ⟨_, rfl⟩
                have hpk : posB SL (S.data.toList, L[j].2) SL.length = kx := by rw [← HSn.out, hpos, hkx0]; rfl
                have hkx : kx ≤ sn := by omega
                have hsl9 : SL.length ≤ 999 := by have := insF_len (normL (L.take j)) []; rw [← HSL.out] at this; rw [this]; unfold normL; rw [List.length_map, List.length_take]; simp; omega
                have HNx : Hid (SL.take kx ++ (S.data.toList, L[j].2) :: SL.drop kx = (normL (L.take (j + 1))).foldl insB []) := Lib.hid (by rw [normL_take L j hjl, List.foldl_append, ← HSL.out, ← HXl.out, HNm.out]; show _ = insB SL _; unfold insB; rw [hpk])
                obtain ⟨P9, hr9, hs9⟩ := HO10.out.own
                obtain ⟨-, hsh⟩ := rowP_shape hr9
                rw [show ((0 : Nat) : Int) = (kx : Int) from by rw [hkx0]]
                clear hpos hpk hkx0 hr9 hs9
                rcases hsh with ⟨rfl, h0, h1⟩ | ⟨⟨g0, cs0, rfl, _⟩, hcp⟩
                · obtain rfl : kx = 0 := by omega
                  subst h0
                  subst h1
                  obtain ⟨v15, w15, v16, w16, v17, w17, r15, r16, r17, c0, c1, c2, c3, c4, hne⟩ := three_appends (HO10.out.go HBz.out) ((HBz.out.block p (Array.getElem?_eq_some_iff.1 HB10.out).1).trans HB10.out) (isTo_strB_go HT10.out HBz.out) hkx hsl9 22
                  obtain ⟨xa7, xn7, xc7, rfl⟩ : ∃ a n c, v17 = .slice a n c := by obtain ⟨P7, hr7, _⟩ := hne.own; obtain ⟨a, c, e⟩ := rowP_slice hr7; exact ⟨a, _, c, e⟩
                  have q0 := (HC11.out _ (HBz.out.alloc HBz.out.size (.cells #[] 54))).1
                  have HNe := Lib.hid hne; have R15 := Lib.hid r15; have R16 := Lib.hid r16; have R17 := Lib.hid r17
                  clear hne r15 r16 r17
                  go_wp2_with (first
                    | (at_builtin; refine Lib.wpList_append_run _ rfl (.tmp 71) (.tmp 75) _ _ rfl _ _ rfl rfl v15 w15 R15.out ?_)
                    | (at_builtin; refine Lib.wpList_append_run _ rfl (.tmp 77) (.tmp 79) _ _ rfl _ _ rfl rfl v16 w16 R16.out ?_)
                    | (at_builtin; refine Lib.wpList_append_run _ rfl (.tmp 81) (.tmp 85) _ _ rfl _ _ rfl rfl (.slice xa7 xn7 xc7) w17 R17.out ?_))
                  go_roundw
                  case rel => exact ⟨j + 1, by omega, by go_num, .slice xa7 xn7 xc7, HNx.out ▸ HNe.out⟩
                  case measure => simp [intOf]; omega
                · have y0 : kx ≤ lc := by omega
                  have y1 : (kx : Int) ≤ (lc : Int) := by omega
                  have y2 : (0 : Int) ≤ (kx : Int) := by omega
                  have y3 : (kx : Int) ≤ (sn : Int) := by omega
                  have hadd : ∀ q : Nat, (⟨g0, 0, none⟩ : Addr).add q = ⟨g0, q, none⟩ := fun q => by simp [Addr.add] <;> omega
                  obtain ⟨v15, w15, v16, w16, v17, w17, r15, r16, r17, c0, c1, c2, c3, c4, hne⟩ := three_appends (HO10.out.go HBz.out) ((HBz.out.block p (Array.getElem?_eq_some_iff.1 HB10.out).1).trans HB10.out) (isTo_strB_go HT10.out HBz.out) hkx hsl9 22
                  obtain ⟨xa7, xn7, xc7, rfl⟩ : ∃ a n c, v17 = .slice a n c := by obtain ⟨P7, hr7, _⟩ := hne.own; obtain ⟨a, c, e⟩ := rowP_slice hr7; exact ⟨a, _, c, e⟩
                  have q0 := (HC11.out _ (HBz.out.alloc HBz.out.size (.cells #[] 54))).1
                  have HNe := Lib.hid hne; have R15 := Lib.hid r15; have R16 := Lib.hid r16; have R17 := Lib.hid r17
                  clear hne r15 r16 r17
                  go_wp2_with (first
                    | (at_builtin; refine Lib.wpList_append_run _ rfl (.tmp 71) (.tmp 75) _ _ rfl _ _ rfl rfl v15 w15 R15.out ?_)
                    | (at_builtin; refine Lib.wpList_append_run _ rfl (.tmp 77) (.tmp 79) _ _ rfl _ _ rfl rfl v16 w16 R16.out ?_)
                    | (at_builtin; refine Lib.wpList_append_run _ rfl (.tmp 81) (.tmp 85) _ _ rfl _ _ rfl (by go_simp) (.slice xa7 xn7 xc7) w17 R17.out ?_))
                  go_roundw
                  case rel => exact ⟨j + 1, by omega, by go_num, .slice xa7 xn7 xc7, HNx.out ▸ HNe.out⟩
                  case measure => simp [intOf]; omega
              | succ i =>
                have hin : i < SL.length := by rw [← HSn.out]; omega
                have hsn1 : sn ≤ 1000 := by have := insF_len (normL (L.take j)) []; rw [← HSL.out] at this; rw [HSn.out, this]; unfold normL; rw [List.length_map, List.length_take]; simp; omega
                obtain ⟨la2, lc2, hae, _, hac⟩ := ownM_isA HO10.out.own (by have := insF_len (normL (L.take j)) []; rw [← HSL.out] at this; rw [this]; unfold normL maxLen; rw [List.length_map, List.length_take]; simp; omega)
                obtain ⟨g, off2, ux, hla, hgl, hg0, _, _⟩ := hac i hin
                simp only [Value.slice.injEq] at hae
                obtain ⟨rfl, _, _⟩ := hae
                subst hla
                obtain ⟨Y, hY⟩ : ∃ Y : ByteArray, ⟨SL[i].1.toArray⟩ = Y := ⟨_, rfl⟩
                have hYl : Y.data.toList = SL[i].1 := by rw [← hY]
                have hg0 : W10.cell? ⟨g, off2 + i * 2, none⟩ = some (.string Y) := by rw [hg0, ← hY]; rfl
                have HC12 : Hid (∀ W, Below W10.heap.size W10 W → W.cell? ⟨w.heap.size + 2, 1, none⟩ = some (.slice (some ⟨g, off2, none⟩) sn lc) ∧ W.cell? ⟨p, 0, none⟩ = some (.string S) ∧ W.cell? ⟨g, off2 + i * 2, none⟩ = some (.string Y) ∧ Below W10.heap.size W10 W) := Lib.hid (fun W hW => ⟨(HC11.out W hW).1, (HC11.out W hW).2, (hW.cell (p := ⟨g, off2 + i * 2, none⟩) hgl).trans hg0, hW⟩)
                have hst := HC12.out _ hbx.drew
                have z0 : decide ((0 : Int) < ((i + 1 : Nat) : Int)) = true := by simp <;> omega
                have z1 : ((i + 1 : Nat) : Int) - 1 = (i : Int) := by omega
                have z2 : (0 : Int) ≤ (i : Int) := by omega
                have z3 : (i : Int) < (sn : Int) := by omega
                have z4 : i < sn := by omega
                have z5 : i ≤ 1000 := by omega
                have zw : IntKind.i64.wrap (i : Int) = (i : Int) := by simp [IntKind.wrap, IntKind.bits, IntKind.signed]; omega
                have z6 : (i : Int) < (SL.length : Int) := by omega
                obtain ⟨gg, hgg⟩ : ∃ gg, gtB SL[i].1 S.data.toList = gg := ⟨_, rfl⟩
                have t3 : (!Op.bytesLess Y.toList S.toList && !(Y.toList == S.toList)) = gg := by rw [← hgg]; unfold gtB; rw [ByteArray.toList_eq, ByteArray.toList_eq, hYl]
                clear hg0 hac hY
                cases gg with
                | true =>
                  rw [posB_go hin hgg] at hpos
                  go_upto_region 13 with (fail)
                  refine region_det (by kernel_rfl) (fun w' => w'.cell? ⟨w.heap.size + 2, 1, none⟩ = some (.slice (some ⟨g, off2, none⟩) sn lc) ∧ w'.cell? ⟨p, 0, none⟩ = some (.string S) ∧ w'.cell? ⟨g, off2 + i * 2, none⟩ = some (.string Y) ∧ Below W10.heap.size W10 w') (hst) (by kernel_rfl) ?_
                  simp only [List.toList_toArray]
                  repeat' (first
                    | (refine det_shut (by rfl) ?_; (simp only [Act.put, List.setIfInBounds_toArray, List.set_cons_zero, List.set_cons_succ]))
                    | (apply det_val; (case hw => rfl); (case hv => (intro w' hS; (obtain ⟨s0, s1, s2, s3⟩ := hS); go_simp; first | done | with_reducible exact rfl)); (simp only [Act.put, List.setIfInBounds_toArray, List.set_cons_zero, List.set_cons_succ]))
                    | (apply det_call; (case hw => rfl); (case hv => (intro w' hS; (obtain ⟨s0, s1, s2, s3⟩ := hS); go_simp; first | done | with_reducible exact rfl | with_reducible exact ⟨rfl, rfl⟩)); (case hc => (intro w' hS; (first | (go_at_call 41; with_reducible exact HCa.out w')))); (simp only [Act.put, List.setIfInBounds_toArray, List.set_cons_zero, List.set_cons_succ]))
                    | fail)
                  intro wz hSz
                  have HBz := Lib.hid hSz.2.2.2
                  go_wp2
                  go_roundw
                  case rel => exact ⟨i, by first | rfl | (rw [z1]) | go_num, by omega, hpos, HBz.out⟩
                  case measure => simp [intOf] <;> omega
                | false =>
                  rw [posB_stop hin hgg] at hpos
                  go_upto_region 13 with (fail)
                  refine region_det (by kernel_rfl) (fun w' => w'.cell? ⟨w.heap.size + 2, 1, none⟩ = some (.slice (some ⟨g, off2, none⟩) sn lc) ∧ w'.cell? ⟨p, 0, none⟩ = some (.string S) ∧ w'.cell? ⟨g, off2 + i * 2, none⟩ = some (.string Y) ∧ Below W10.heap.size W10 w') (hst) (by kernel_rfl) ?_
                  simp only [List.toList_toArray]
                  repeat' (first
                    | (refine det_shut (by rfl) ?_; (simp only [Act.put, List.setIfInBounds_toArray, List.set_cons_zero, List.set_cons_succ]))
                    | (apply det_val; (case hw => rfl); (case hv => (intro w' hS; (obtain ⟨s0, s1, s2, s3⟩ := hS); go_simp; first | done | with_reducible exact rfl)); (simp only [Act.put, List.setIfInBounds_toArray, List.set_cons_zero, List.set_cons_succ]))
                    | (apply det_call; (case hw => rfl); (case hv => (intro w' hS; (obtain ⟨s0, s1, s2, s3⟩ := hS); go_simp; first | done | with_reducible exact rfl | with_reducible exact ⟨rfl, rfl⟩)); (case hc => (intro w' hS; (first | (go_at_call 41; with_reducible exact HCa.out w')))); (simp only [Act.put, List.setIfInBounds_toArray, List.set_cons_zero, List.set_cons_succ]))
                    | fail)
                  intro wz hSz
                  have HBz := Lib.hid hSz.2.2.2
                  obtain ⟨kx, hkx0⟩ : ∃ q : Nat, q = i + 1 := ⟨_, rfl⟩
                  have hpk : posB SL (S.data.toList, L[j].2) SL.length = kx := by rw [← HSn.out, hpos, hkx0]
                  have hkx : kx ≤ sn := by omega
                  have hsl9 : SL.length ≤ 999 := by have := insF_len (normL (L.take j)) []; rw [← HSL.out] at this; rw [this]; unfold normL; rw [List.length_map, List.length_take]; simp; omega
                  have HNx : Hid (SL.take kx ++ (S.data.toList, L[j].2) :: SL.drop kx = (normL (L.take (j + 1))).foldl insB []) := Lib.hid (by rw [normL_take L j hjl, List.foldl_append, ← HSL.out, ← HXl.out, HNm.out]; show _ = insB SL _; unfold insB; rw [hpk])
                  obtain ⟨P9, hr9, hs9⟩ := HO10.out.own
                  obtain ⟨-, hsh⟩ := rowP_shape hr9
                  rw [show ((i + 1 : Nat) : Int) = (kx : Int) from by rw [hkx0]]
                  clear hpos hpk hkx0 hr9 hs9
                  obtain ⟨⟨g0, cs0, hla0, _⟩, hcp⟩ : (∃ g' cs', (some ⟨g, off2, none⟩ : Option Addr) = some ⟨g', 0, none⟩ ∧ W10.heap[g']? = some (.cells cs' 54 (0, 0))) ∧ sn ≤ lc := by
                    rcases hsh with ⟨h', _⟩ | h'
                    · exact absurd h' (by simp)
                    · exact h'
                  simp only [Option.some.injEq, Addr.mk.injEq, true_and, and_true] at hla0
                  obtain ⟨rfl, rfl⟩ := hla0
                  have y0 : kx ≤ lc := by omega
                  have y1 : (kx : Int) ≤ (lc : Int) := by omega
                  have y2 : (0 : Int) ≤ (kx : Int) := by omega
                  have y3 : (kx : Int) ≤ (sn : Int) := by omega
                  have hadd : ∀ q : Nat, (⟨g, 0, none⟩ : Addr).add q = ⟨g, q, none⟩ := fun q => by simp [Addr.add] <;> omega
                  obtain ⟨v15, w15, v16, w16, v17, w17, r15, r16, r17, c0, c1, c2, c3, c4, hne⟩ := three_appends (HO10.out.go HBz.out) ((HBz.out.block p (Array.getElem?_eq_some_iff.1 HB10.out).1).trans HB10.out) (isTo_strB_go HT10.out HBz.out) hkx hsl9 22
                  obtain ⟨xa7, xn7, xc7, rfl⟩ : ∃ a n c, v17 = .slice a n c := by obtain ⟨P7, hr7, _⟩ := hne.own; obtain ⟨a, c, e⟩ := rowP_slice hr7; exact ⟨a, _, c, e⟩
                  have q0 := (HC11.out _ (HBz.out.alloc HBz.out.size (.cells #[] 54))).1
                  have HNe := Lib.hid hne; have R15 := Lib.hid r15; have R16 := Lib.hid r16; have R17 := Lib.hid r17
                  clear hne r15 r16 r17
                  go_wp2_with (first
                    | (at_builtin; refine Lib.wpList_append_run _ rfl (.tmp 71) (.tmp 75) _ _ rfl _ _ rfl rfl v15 w15 R15.out ?_)
                    | (at_builtin; refine Lib.wpList_append_run _ rfl (.tmp 77) (.tmp 79) _ _ rfl _ _ rfl rfl v16 w16 R16.out ?_)
                    | (at_builtin; refine Lib.wpList_append_run _ rfl (.tmp 81) (.tmp 85) _ _ rfl _ _ rfl (by go_simp) (.slice xa7 xn7 xc7) w17 R17.out ?_))
                  go_roundw
                  case rel => exact ⟨j + 1, by omega, by go_num, .slice xa7 xn7 xc7, HNx.out ▸ HNe.out⟩
                  case measure => simp [intOf]; omega
          · rw [hc2] at hca
            have HCa := Lib.hid hca
            have HNm := Lib.hid hc3
            obtain ⟨b0, _, b2, _⟩ := HB8.out.cells
            clear hca hc1 hc2 hc3
            go_upto_region 12 with (go_at_call 41; refine (HCa.out _).mono ?_; rintro e w9 ⟨rfl, hb9⟩; have hb9a := bthen hb9 ((Below.refl w9.heap.size w9).alloc (Nat.le_refl _) (.cells #[.string ⟨#[]⟩, .bool false] 56)); have hpl : p < W8.heap.size := (Array.getElem?_eq_some_iff.1 HB8.out).1; have hB10 : BoxT (w9.alloc (.cells #[.string ⟨#[]⟩, .bool false] 56)) p X (.slice xa L[j].2.length xc) := (hb9a.block p hpl).trans HB8.out; have hT10 := isTo_strB_go HT8.out hb9a; have hBl10 := bthen HBl8.out hb9a; clear hb9 hb9a)
            generalize (w9.alloc (.cells #[.string ⟨#[]⟩, .bool false] 56)) = W10 at hB10 hT10 hBl10 ⊢
            have HO10 := Lib.hid (HO.out.go hBl10)
            have HB10 := Lib.hid hB10
            have HT10 := Lib.hid hT10
            have HBl10 := Lib.hid hBl10
            have o1 := HO10.out.out.cells.2
            obtain ⟨SL, hSL⟩ : ∃ S, S = (normL (L.take j)).foldl insB [] := ⟨_, rfl⟩
            rw [← hSL] at HO10
            obtain ⟨la, lc, hle2⟩ := (show ∃ a c, l = .slice a SL.length c from by obtain ⟨P, hr, hs⟩ := HO10.out.own; rw [← hs.1]; exact rowP_slice hr)
            obtain ⟨sn, hsn⟩ : ∃ k, k = SL.length := ⟨_, rfl⟩
            rw [← hsn] at hle2
            subst hle2
            have HSL := Lib.hid hSL
            have HSn := Lib.hid hsn
            clear b0 b2 hB10 hT10 hBl10 HB8 HT8 HBl8 HO8 hSL hsn
            go_wp2
            go_loopw [8] (fun k wx => ∃ kk : Nat, k = .int .i64 kk ∧ kk ≤ sn ∧ posB SL (X.data.toList, L[j].2) sn = posB SL (X.data.toList, L[j].2) kk ∧ Below W10.heap.size W10 wx) (fun k wx => (intOf k).toNat)
            case atStart => exact ⟨sn, rfl, Nat.le_refl _, rfl, Below.refl _ _⟩
            case round =>
              obtain ⟨kk, rfl, hkk, hpos, hbx⟩ := hrel
              have HBx2 := Lib.hid hbx
              have HC11 : Hid (∀ W, Below W10.heap.size W10 W → W.cell? ⟨w.heap.size + 2, 1, none⟩ = some (.slice la sn lc) ∧ W.cell? ⟨p, 0, none⟩ = some (.string X)) := Lib.hid (fun W hW => ⟨(hW.cell (p := ⟨w.heap.size + 2, 1, none⟩) (show w.heap.size + 2 < W10.heap.size by have := HO10.out.size; omega)).trans o1, (hW.cell (p := ⟨p, 0, none⟩) (Array.getElem?_eq_some_iff.1 HB10.out).1).trans HB10.out.cells.1⟩)
              cases kk with
              | zero =>
                have z0 : decide ((0 : Int) < ((0 : Nat) : Int)) = false := by simp
                go_upto_region 13 with (fail)
                refine region_det (by kernel_rfl) (fun w' => Below W10.heap.size W10 w') (hbx.drew) (by kernel_rfl) ?_
                simp only [List.toList_toArray]
                repeat' (first
                  | (refine det_shut (by rfl) ?_; (simp only [Act.put, List.setIfInBounds_toArray, List.set_cons_zero, List.set_cons_succ]))
                  | (apply det_val; (case hw => rfl); (case hv => (intro w' hS; go_simp; first | done | with_reducible exact rfl)); (simp only [Act.put, List.setIfInBounds_toArray, List.set_cons_zero, List.set_cons_succ]))
                  | (apply det_call; (case hw => rfl); (case hv => (intro w' hS; go_simp; first | done | with_reducible exact rfl | with_reducible exact ⟨rfl, rfl⟩)); (case hc => (intro w' hS; (first | (go_at_call 41; with_reducible exact HCa.out w')))); (simp only [Act.put, List.setIfInBounds_toArray, List.set_cons_zero, List.set_cons_succ]))
                  | fail)
                intro wz hbz
                have HBz := Lib.hid hbz
                obtain ⟨kx, hkx0⟩ : ∃ q : Nat, q = 0 := ⟨_, rfl⟩
                have hpk : posB SL (X.data.toList, L[j].2) SL.length = kx := by rw [← HSn.out, hpos, hkx0]; rfl
                have hkx : kx ≤ sn := by omega
                have hsl9 : SL.length ≤ 999 := by have := insF_len (normL (L.take j)) []; rw [← HSL.out] at this; rw [this]; unfold normL; rw [List.length_map, List.length_take]; simp; omega
                have HNx : Hid (SL.take kx ++ (X.data.toList, L[j].2) :: SL.drop kx = (normL (L.take (j + 1))).foldl insB []) := Lib.hid (by rw [normL_take L j hjl, List.foldl_append, ← HSL.out, ← HXl.out, HNm.out]; show _ = insB SL _; unfold insB; rw [hpk])
                obtain ⟨P9, hr9, hs9⟩ := HO10.out.own
                obtain ⟨-, hsh⟩ := rowP_shape hr9
                rw [show ((0 : Nat) : Int) = (kx : Int) from by rw [hkx0]]
                clear hpos hpk hkx0 hr9 hs9
                rcases hsh with ⟨rfl, h0, h1⟩ | ⟨⟨g0, cs0, rfl, _⟩, hcp⟩
                · obtain rfl : kx = 0 := by omega
                  subst h0
                  subst h1
                  obtain ⟨v15, w15, v16, w16, v17, w17, r15, r16, r17, c0, c1, c2, c3, c4, hne⟩ := three_appends (HO10.out.go HBz.out) ((HBz.out.block p (Array.getElem?_eq_some_iff.1 HB10.out).1).trans HB10.out) (isTo_strB_go HT10.out HBz.out) hkx hsl9 22
                  obtain ⟨xa7, xn7, xc7, rfl⟩ : ∃ a n c, v17 = .slice a n c := by obtain ⟨P7, hr7, _⟩ := hne.own; obtain ⟨a, c, e⟩ := rowP_slice hr7; exact ⟨a, _, c, e⟩
                  have q0 := (HC11.out _ (HBz.out.alloc HBz.out.size (.cells #[] 54))).1
                  have HNe := Lib.hid hne; have R15 := Lib.hid r15; have R16 := Lib.hid r16; have R17 := Lib.hid r17
                  clear hne r15 r16 r17
                  go_wp2_with (first
                    | (at_builtin; refine Lib.wpList_append_run _ rfl (.tmp 71) (.tmp 75) _ _ rfl _ _ rfl rfl v15 w15 R15.out ?_)
                    | (at_builtin; refine Lib.wpList_append_run _ rfl (.tmp 77) (.tmp 79) _ _ rfl _ _ rfl rfl v16 w16 R16.out ?_)
                    | (at_builtin; refine Lib.wpList_append_run _ rfl (.tmp 81) (.tmp 85) _ _ rfl _ _ rfl rfl (.slice xa7 xn7 xc7) w17 R17.out ?_))
                  go_roundw
                  case rel => exact ⟨j + 1, by omega, by go_num, .slice xa7 xn7 xc7, HNx.out ▸ HNe.out⟩
                  case measure => simp [intOf]; omega
                · have y0 : kx ≤ lc := by omega
                  have y1 : (kx : Int) ≤ (lc : Int) := by omega
                  have y2 : (0 : Int) ≤ (kx : Int) := by omega
                  have y3 : (kx : Int) ≤ (sn : Int) := by omega
                  have hadd : ∀ q : Nat, (⟨g0, 0, none⟩ : Addr).add q = ⟨g0, q, none⟩ := fun q => by simp [Addr.add] <;> omega
                  obtain ⟨v15, w15, v16, w16, v17, w17, r15, r16, r17, c0, c1, c2, c3, c4, hne⟩ := three_appends (HO10.out.go HBz.out) ((HBz.out.block p (Array.getElem?_eq_some_iff.1 HB10.out).1).trans HB10.out) (isTo_strB_go HT10.out HBz.out) hkx hsl9 22
                  obtain ⟨xa7, xn7, xc7, rfl⟩ : ∃ a n c, v17 = .slice a n c := by obtain ⟨P7, hr7, _⟩ := hne.own; obtain ⟨a, c, e⟩ := rowP_slice hr7; exact ⟨a, _, c, e⟩
                  have q0 := (HC11.out _ (HBz.out.alloc HBz.out.size (.cells #[] 54))).1
                  have HNe := Lib.hid hne; have R15 := Lib.hid r15; have R16 := Lib.hid r16; have R17 := Lib.hid r17
                  clear hne r15 r16 r17
                  go_wp2_with (first
                    | (at_builtin; refine Lib.wpList_append_run _ rfl (.tmp 71) (.tmp 75) _ _ rfl _ _ rfl rfl v15 w15 R15.out ?_)
                    | (at_builtin; refine Lib.wpList_append_run _ rfl (.tmp 77) (.tmp 79) _ _ rfl _ _ rfl rfl v16 w16 R16.out ?_)
                    | (at_builtin; refine Lib.wpList_append_run _ rfl (.tmp 81) (.tmp 85) _ _ rfl _ _ rfl (by go_simp) (.slice xa7 xn7 xc7) w17 R17.out ?_))
                  go_roundw
                  case rel => exact ⟨j + 1, by omega, by go_num, .slice xa7 xn7 xc7, HNx.out ▸ HNe.out⟩
                  case measure => simp [intOf]; omega
              | succ i =>
                have hin : i < SL.length := by rw [← HSn.out]; omega
                have hsn1 : sn ≤ 1000 := by have := insF_len (normL (L.take j)) []; rw [← HSL.out] at this; rw [HSn.out, this]; unfold normL; rw [List.length_map, List.length_take]; simp; omega
                obtain ⟨la2, lc2, hae, _, hac⟩ := ownM_isA HO10.out.own (by have := insF_len (normL (L.take j)) []; rw [← HSL.out] at this; rw [this]; unfold normL maxLen; rw [List.length_map, List.length_take]; simp; omega)
                obtain ⟨g, off2, ux, hla, hgl, hg0, _, _⟩ := hac i hin
                simp only [Value.slice.injEq] at hae
                obtain ⟨rfl, _, _⟩ := hae
                subst hla
                obtain ⟨Y, hY⟩ : ∃ Y : ByteArray, ⟨SL[i].1.toArray⟩ = Y := ⟨_, rfl⟩
                have hYl : Y.data.toList = SL[i].1 := by rw [← hY]
                have hg0 : W10.cell? ⟨g, off2 + i * 2, none⟩ = some (.string Y) := by rw [hg0, ← hY]; rfl
                have HC12 : Hid (∀ W, Below W10.heap.size W10 W → W.cell? ⟨w.heap.size + 2, 1, none⟩ = some (.slice (some ⟨g, off2, none⟩) sn lc) ∧ W.cell? ⟨p, 0, none⟩ = some (.string X) ∧ W.cell? ⟨g, off2 + i * 2, none⟩ = some (.string Y) ∧ Below W10.heap.size W10 W) := Lib.hid (fun W hW => ⟨(HC11.out W hW).1, (HC11.out W hW).2, (hW.cell (p := ⟨g, off2 + i * 2, none⟩) hgl).trans hg0, hW⟩)
                have hst := HC12.out _ hbx.drew
                have z0 : decide ((0 : Int) < ((i + 1 : Nat) : Int)) = true := by simp <;> omega
                have z1 : ((i + 1 : Nat) : Int) - 1 = (i : Int) := by omega
                have z2 : (0 : Int) ≤ (i : Int) := by omega
                have z3 : (i : Int) < (sn : Int) := by omega
                have z4 : i < sn := by omega
                have z5 : i ≤ 1000 := by omega
                have zw : IntKind.i64.wrap (i : Int) = (i : Int) := by simp [IntKind.wrap, IntKind.bits, IntKind.signed]; omega
                have z6 : (i : Int) < (SL.length : Int) := by omega
                obtain ⟨gg, hgg⟩ : ∃ gg, gtB SL[i].1 X.data.toList = gg := ⟨_, rfl⟩
                have t3 : (!Op.bytesLess Y.toList X.toList && !(Y.toList == X.toList)) = gg := by rw [← hgg]; unfold gtB; rw [ByteArray.toList_eq, ByteArray.toList_eq, hYl]
                clear hg0 hac hY
                cases gg with
                | true =>
                  rw [posB_go hin hgg] at hpos
                  go_upto_region 13 with (fail)
                  refine region_det (by kernel_rfl) (fun w' => w'.cell? ⟨w.heap.size + 2, 1, none⟩ = some (.slice (some ⟨g, off2, none⟩) sn lc) ∧ w'.cell? ⟨p, 0, none⟩ = some (.string X) ∧ w'.cell? ⟨g, off2 + i * 2, none⟩ = some (.string Y) ∧ Below W10.heap.size W10 w') (hst) (by kernel_rfl) ?_
                  simp only [List.toList_toArray]
                  repeat' (first
                    | (refine det_shut (by rfl) ?_; (simp only [Act.put, List.setIfInBounds_toArray, List.set_cons_zero, List.set_cons_succ]))
                    | (apply det_val; (case hw => rfl); (case hv => (intro w' hS; (obtain ⟨s0, s1, s2, s3⟩ := hS); go_simp; first | done | with_reducible exact rfl)); (simp only [Act.put, List.setIfInBounds_toArray, List.set_cons_zero, List.set_cons_succ]))
                    | (apply det_call; (case hw => rfl); (case hv => (intro w' hS; (obtain ⟨s0, s1, s2, s3⟩ := hS); go_simp; first | done | with_reducible exact rfl | with_reducible exact ⟨rfl, rfl⟩)); (case hc => (intro w' hS; (first | (go_at_call 41; with_reducible exact HCa.out w')))); (simp only [Act.put, List.setIfInBounds_toArray, List.set_cons_zero, List.set_cons_succ]))
                    | fail)
                  intro wz hSz
                  have HBz := Lib.hid hSz.2.2.2
                  go_wp2
                  go_roundw
                  case rel => exact ⟨i, by first | rfl | (rw [z1]) | go_num, by omega, hpos, HBz.out⟩
                  case measure => simp [intOf] <;> omega
                | false =>
                  rw [posB_stop hin hgg] at hpos
                  go_upto_region 13 with (fail)
                  refine region_det (by kernel_rfl) (fun w' => w'.cell? ⟨w.heap.size + 2, 1, none⟩ = some (.slice (some ⟨g, off2, none⟩) sn lc) ∧ w'.cell? ⟨p, 0, none⟩ = some (.string X) ∧ w'.cell? ⟨g, off2 + i * 2, none⟩ = some (.string Y) ∧ Below W10.heap.size W10 w') (hst) (by kernel_rfl) ?_
                  simp only [List.toList_toArray]
                  repeat' (first
                    | (refine det_shut (by rfl) ?_; (simp only [Act.put, List.setIfInBounds_toArray, List.set_cons_zero, List.set_cons_succ]))
                    | (apply det_val; (case hw => rfl); (case hv => (intro w' hS; (obtain ⟨s0, s1, s2, s3⟩ := hS); go_simp; first | done | with_reducible exact rfl)); (simp only [Act.put, List.setIfInBounds_toArray, List.set_cons_zero, List.set_cons_succ]))
                    | (apply det_call; (case hw => rfl); (case hv => (intro w' hS; (obtain ⟨s0, s1, s2, s3⟩ := hS); go_simp; first | done | with_reducible exact rfl | with_reducible exact ⟨rfl, rfl⟩)); (case hc => (intro w' hS; (first | (go_at_call 41; with_reducible exact HCa.out w')))); (simp only [Act.put, List.setIfInBounds_toArray, List.set_cons_zero, List.set_cons_succ]))
                    | fail)
                  intro wz hSz
                  have HBz := Lib.hid hSz.2.2.2
                  obtain ⟨kx, hkx0⟩ : ∃ q : Nat, q = i + 1 := ⟨_, rfl⟩
                  have hpk : posB SL (X.data.toList, L[j].2) SL.length = kx := by rw [← HSn.out, hpos, hkx0]
                  have hkx : kx ≤ sn := by omega
                  have hsl9 : SL.length ≤ 999 := by have := insF_len (normL (L.take j)) []; rw [← HSL.out] at this; rw [this]; unfold normL; rw [List.length_map, List.length_take]; simp; omega
                  have HNx : Hid (SL.take kx ++ (X.data.toList, L[j].2) :: SL.drop kx = (normL (L.take (j + 1))).foldl insB []) := Lib.hid (by rw [normL_take L j hjl, List.foldl_append, ← HSL.out, ← HXl.out, HNm.out]; show _ = insB SL _; unfold insB; rw [hpk])
                  obtain ⟨P9, hr9, hs9⟩ := HO10.out.own
                  obtain ⟨-, hsh⟩ := rowP_shape hr9
                  rw [show ((i + 1 : Nat) : Int) = (kx : Int) from by rw [hkx0]]
                  clear hpos hpk hkx0 hr9 hs9
                  obtain ⟨⟨g0, cs0, hla0, _⟩, hcp⟩ : (∃ g' cs', (some ⟨g, off2, none⟩ : Option Addr) = some ⟨g', 0, none⟩ ∧ W10.heap[g']? = some (.cells cs' 54 (0, 0))) ∧ sn ≤ lc := by
                    rcases hsh with ⟨h', _⟩ | h'
                    · exact absurd h' (by simp)
                    · exact h'
                  simp only [Option.some.injEq, Addr.mk.injEq, true_and, and_true] at hla0
                  obtain ⟨rfl, rfl⟩ := hla0
                  have y0 : kx ≤ lc := by omega
                  have y1 : (kx : Int) ≤ (lc : Int) := by omega
                  have y2 : (0 : Int) ≤ (kx : Int) := by omega
                  have y3 : (kx : Int) ≤ (sn : Int) := by omega
                  have hadd : ∀ q : Nat, (⟨g, 0, none⟩ : Addr).add q = ⟨g, q, none⟩ := fun q => by simp [Addr.add] <;> omega
                  obtain ⟨v15, w15, v16, w16, v17, w17, r15, r16, r17, c0, c1, c2, c3, c4, hne⟩ := three_appends (HO10.out.go HBz.out) ((HBz.out.block p (Array.getElem?_eq_some_iff.1 HB10.out).1).trans HB10.out) (isTo_strB_go HT10.out HBz.out) hkx hsl9 22
                  obtain ⟨xa7, xn7, xc7, rfl⟩ : ∃ a n c, v17 = .slice a n c := by obtain ⟨P7, hr7, _⟩ := hne.own; obtain ⟨a, c, e⟩ := rowP_slice hr7; exact ⟨a, _, c, e⟩
                  have q0 := (HC11.out _ (HBz.out.alloc HBz.out.size (.cells #[] 54))).1
                  have HNe := Lib.hid hne; have R15 := Lib.hid r15; have R16 := Lib.hid r16; have R17 := Lib.hid r17
                  clear hne r15 r16 r17
                  go_wp2_with (first
                    | (at_builtin; refine Lib.wpList_append_run _ rfl (.tmp 71) (.tmp 75) _ _ rfl _ _ rfl rfl v15 w15 R15.out ?_)
                    | (at_builtin; refine Lib.wpList_append_run _ rfl (.tmp 77) (.tmp 79) _ _ rfl _ _ rfl rfl v16 w16 R16.out ?_)
                    | (at_builtin; refine Lib.wpList_append_run _ rfl (.tmp 81) (.tmp 85) _ _ rfl _ _ rfl (by go_simp) (.slice xa7 xn7 xc7) w17 R17.out ?_))
                  go_roundw
                  case rel => exact ⟨j + 1, by omega, by go_num, .slice xa7 xn7 xc7, HNx.out ▸ HNe.out⟩
                  case measure => simp [intOf]; omega
      · obtain rfl : j = n := by omega
        have t1 : decide ((j : Int) < (j : Int)) = false := by simp
        have hLj : L.take j = L := List.take_of_length_le (by rw [← HN.out]; exact Nat.le_refl _)
        rw [hLj, ← sortA_fold] at hO
        have HO := Lib.hid hO
        obtain ⟨la2, lc2, hle2⟩ := (show ∃ a c, l = .slice a (sortA (normL L)).length c from by obtain ⟨P, hr, hs⟩ := hO.own; rw [← hs.1]; exact rowP_slice hr)
        obtain ⟨sn, hsn⟩ : ∃ k, k = (sortA (normL L)).length := ⟨_, rfl⟩
        rw [← hsn] at hle2
        subst hle2
        have hz : sn ≤ maxLen := by rw [hsn, sortA_len2]; unfold normL maxLen; rw [List.length_map, ← HN.out]; omega
        obtain ⟨o0, o1⟩ := hO.out.cells
        obtain ⟨_, p0, p1, y0, y1⟩ := hO.box
        have HSn := Lib.hid hsn
        have HZ := Lib.hid hz
        clear hO hsn hz hLj
        go_wp2
        refine bodyPost_ret (v := .agg #[.string TD, .slice la2 sn lc2]) (by simp [results, Tryz.results14, go_sem, p0, p1]) rfl ⟨_, rfl, ?_, (HO.out.bel.setCell (p := ⟨w.heap.size + 1, 0, none⟩) (show w.heap.size ≤ w.heap.size + 1 by omega) _).setCell (p := ⟨w.heap.size + 1, 1, none⟩) (show w.heap.size ≤ w.heap.size + 1 by omega) _⟩
        have ho := ownM_entry (i := 1) (x := .slice la2 sn lc2) (ownM_entry (i := 0) (x := .string TD) HO.out.own HO.out.res (by omega)) (boxN_store0 HO.out.res) (by omega)
        exact ownM_isA ho (by rw [← HSn.out]; exact HZ.out)
end Go.Proofs.YtlimajgmdhhggaaGreatDoor


namespace Go.Proofs.YtlimajgmdhhggaaGreatDoor
set_option linter.unusedVariables false
set_option linter.unusedSimpArgs false

theorem less_nat : ∀ a b : List UInt8, Op.bytesLess a b = decide (a.map UInt8.toNat < b.map UInt8.toNat)
  | a, [] => by cases a <;> simp [Op.bytesLess]
  | [], y :: b => by simp [Op.bytesLess]
  | x :: a, y :: b => by
    have ih := less_nat a b
    unfold Op.bytesLess
    simp only [List.map_cons, List.cons_lt_cons_iff, ih]
    by_cases h : x = y
    · subst h; simp
    · have h2 : (x == y) = false := by simpa using h
      have h3 : x.toNat ≠ y.toNat := fun e => h (UInt8.toNat_inj.1 e)
      simp [h2, h3, UInt8.lt_iff_toNat_lt]
theorem gt_iff (x y : List UInt8) : gtB x y = true ↔ y.map UInt8.toNat < x.map UInt8.toNat := by rw [← less_gtB, less_nat]; simp
theorem gt_trans {x y z : List UInt8} (h1 : gtB x y = true) (h2 : gtB y z = true) : gtB x z = true := by
  rw [gt_iff] at h1 h2 ⊢
  exact List.lt_trans h2 h1
theorem le_iff (x y : List UInt8) : gtB x y = false ↔ x.map UInt8.toNat ≤ y.map UInt8.toNat := by
  rw [← Bool.not_eq_true, gt_iff]
  exact List.not_lt
theorem gle_trans {x y z : List UInt8} (h1 : gtB x y = false) (h2 : gtB y z = false) : gtB x z = false := by
  rw [le_iff] at h1 h2 ⊢
  exact List.le_trans h1 h2
theorem gle_refl (x : List UInt8) : gtB x x = false := by rw [le_iff]; exact List.le_refl _
theorem gt_gle {x y : List UInt8} (h : gtB x y = true) : gtB y x = false := by
  rw [gt_iff] at h
  rw [le_iff]
  exact List.le_of_lt h

section
variable {β : Type}
abbrev KV (β : Type) := List UInt8 × β
def sortG (L : List (KV β)) : List (KV β) := srtG (fun a => a.1) (L.length - 1) L
def posG (S : List (KV β)) (a : KV β) : Nat → Nat
  | 0 => 0
  | k + 1 => match S[k]? with
    | some s => if gtB s.1 a.1 = true then posG S a k else k + 1
    | none => k + 1
def insG (S : List (KV β)) (a : KV β) : List (KV β) := S.take (posG S a S.length) ++ a :: S.drop (posG S a S.length)
theorem posG_le (S : List (KV β)) (a : KV β) : ∀ k, posG S a k ≤ k
  | 0 => Nat.le_refl _
  | k + 1 => by
    unfold posG
    split
    · split
      · exact Nat.le_succ_of_le (posG_le S a k)
      · exact Nat.le_refl _
    · exact Nat.le_refl _
theorem posG_go {S : List (KV β)} {a : KV β} {k : Nat} (h : k < S.length) (hg : gtB S[k].1 a.1 = true) : posG S a (k + 1) = posG S a k := by
  rw [posG, List.getElem?_eq_getElem h]; simp only []; rw [if_pos hg]
theorem posG_stop {S : List (KV β)} {a : KV β} {k : Nat} (h : k < S.length) (hg : gtB S[k].1 a.1 = false) : posG S a (k + 1) = k + 1 := by
  rw [posG, List.getElem?_eq_getElem h]; simp only []; rw [if_neg (by simp [hg])]
theorem insG_length (S : List (KV β)) (a : KV β) : (insG S a).length = S.length + 1 := by
  unfold insG
  have := posG_le S a S.length
  simp; omega
theorem bub_posG (S : List (KV β)) (a : KV β) (r : List (KV β)) : ∀ j, j ≤ S.length → bubG (fun a => a.1) j (S.take j ++ a :: (S.drop j ++ r)) = S.take (posG S a j) ++ a :: (S.drop (posG S a j) ++ r)
  | 0, _ => rfl
  | j + 1, h => by
    have hj : j < S.length := by omega
    have hl : j + 1 < (S.take (j + 1) ++ a :: (S.drop (j + 1) ++ r)).length := by simp; omega
    have hs : S.take (j + 1) = S.take j ++ [S[j]] := by rw [List.take_succ_eq_append_getElem hj]
    have hd : S.drop j = S[j] :: S.drop (j + 1) := List.drop_eq_getElem_cons hj
    have htl : (S.take j).length = j := by simp; omega
    have g1 : (S.take (j + 1) ++ a :: (S.drop (j + 1) ++ r))[j + 1]'hl = a := by
      rw [List.getElem_append_right (by simp; omega)]
      simp [show j + 1 - min (j + 1) S.length = 0 by omega]
    have g0 : (S.take (j + 1) ++ a :: (S.drop (j + 1) ++ r))[j]'(by omega) = S[j] := by
      rw [List.getElem_append_left (by simp; omega)]
      simp
    by_cases hg : gtB S[j].1 a.1 = true
    · rw [bubG_go hl (by rw [g1, g0]; exact (cmp_gtB _ _).2 hg), posG_go hj hg]
      have hsw : swapG (S.take (j + 1) ++ a :: (S.drop (j + 1) ++ r)) j = S.take j ++ a :: (S.drop j ++ r) := by
        rw [swapG_at hl, g1, g0, hs, hd]
        rw [List.append_assoc]
        simp only [List.cons_append, List.nil_append]
        rw [List.set_append_right _ _ (by omega), List.set_append_right _ _ (by omega)]
        rw [htl]
        simp
      rw [hsw]
      exact bub_posG S a r j (by omega)
    · have hg' : gtB S[j].1 a.1 = false := by simpa using hg
      rw [bubG_stop hl (by rw [g1, g0]; intro e; exact hg ((cmp_gtB _ _).1 e)), posG_stop hj hg']
theorem srt_foldG (L : List (KV β)) : ∀ k, k < L.length → srtG (fun a => a.1) k L = (L.take (k + 1)).foldl insG [] ++ L.drop (k + 1)
  | 0, h => by
    cases L with
    | nil => simp at h
    | cons a r => rfl
  | k + 1, h => by
    have ih := srt_foldG L k (by omega)
    have hlen : ∀ (M : List (KV β)) (S : List (KV β)), (M.foldl insG S).length = S.length + M.length := by
      intro M
      induction M with
      | nil => intro S; rfl
      | cons a r ih => intro S; rw [List.foldl_cons, ih, insG_length, List.length_cons]; omega
    show bubG (fun a => a.1) (k + 1) (srtG (fun a => a.1) k L) = _
    rw [ih]
    obtain ⟨S, hS⟩ : ∃ S, S = (L.take (k + 1)).foldl insG [] := ⟨_, rfl⟩
    have hSl : S.length = k + 1 := by rw [hS, hlen]; simp; omega
    rw [← hS, List.drop_eq_getElem_cons h]
    have hb := bub_posG S L[k + 1] (L.drop (k + 1 + 1)) (k + 1) (by omega)
    rw [List.take_of_length_le (by omega), List.drop_of_length_le (by omega), List.nil_append] at hb
    rw [hb, List.take_succ_eq_append_getElem h, List.foldl_append, ← hS]
    show _ = insG S L[k + 1] ++ _
    unfold insG
    rw [hSl, List.append_assoc]; rfl
theorem sortG_fold (L : List (KV β)) : sortG L = L.foldl insG [] := by
  unfold sortG
  cases hl : L with
  | nil => rfl
  | cons a r =>
    rw [srt_foldG _ _ (by simp)]
    rw [List.take_of_length_le (by simp), List.drop_of_length_le (by simp), List.append_nil]
def mrgG : List (KV β) → List (KV β) → List (KV β)
  | [], Y => Y
  | x :: X, [] => x :: X
  | x :: X, y :: Y => if gtB x.1 y.1 = true then y :: mrgG (x :: X) Y else x :: mrgG X (y :: Y)
termination_by X Y => X.length + Y.length
theorem mrgG_nil (Y : List (KV β)) : mrgG [] Y = Y := by rw [mrgG]
theorem mrgG_nilR (X : List (KV β)) : mrgG X [] = X := by cases X <;> rw [mrgG]
theorem mrgG_gt {x y : KV β} {X Y : List (KV β)} (h : gtB x.1 y.1 = true) : mrgG (x :: X) (y :: Y) = y :: mrgG (x :: X) Y := by rw [mrgG, if_pos h]
theorem mrgG_le {x y : KV β} {X Y : List (KV β)} (h : gtB x.1 y.1 = false) : mrgG (x :: X) (y :: Y) = x :: mrgG X (y :: Y) := by rw [mrgG, if_neg (by simp [h])]
def insH (a : KV β) : List (KV β) → List (KV β)
  | [] => [a]
  | s :: S => if gtB s.1 a.1 = true then a :: s :: S else s :: insH a S
theorem insH_gt {a s : KV β} {S : List (KV β)} (h : gtB s.1 a.1 = true) : insH a (s :: S) = a :: s :: S := by rw [insH, if_pos h]
theorem insH_le {a s : KV β} {S : List (KV β)} (h : gtB s.1 a.1 = false) : insH a (s :: S) = s :: insH a S := by rw [insH, if_neg (by simp [h])]
theorem mrg_insG (y : KV β) : ∀ (n : Nat) (S M : List (KV β)), S.length + M.length ≤ n → mrgG S (insH y M) = insH y (mrgG S M)
  | _, [], M, _ => by rw [mrgG_nil, mrgG_nil]
  | 0, s :: S, M, h => by simp at h
  | n + 1, s :: S, [], h => by
    rw [mrgG_nilR]
    show mrgG (s :: S) [y] = _
    cases g : gtB s.1 y.1 with
    | true => rw [mrgG_gt g, mrgG_nilR, insH_gt g]
    | false =>
      have ih := mrg_insG y n S [] (by simp at h ⊢; omega)
      rw [mrgG_nilR] at ih
      rw [mrgG_le g, insH_le g, ← ih]
      rfl
  | n + 1, s :: S, m :: M, h => by
    cases g : gtB s.1 m.1 with
    | true =>
      rw [mrgG_gt g]
      cases k : gtB m.1 y.1 with
      | true => rw [insH_gt k, insH_gt k, mrgG_gt (gt_trans g k), mrgG_gt g]
      | false => rw [insH_le k, insH_le k, mrgG_gt g, mrg_insG y n (s :: S) M (by simp at h ⊢; omega)]
    | false =>
      rw [mrgG_le g]
      have ih := mrg_insG y n S (m :: M) (by simp at h ⊢; omega)
      cases k : gtB m.1 y.1 with
      | true =>
        rw [insH_gt k] at ih ⊢
        cases q : gtB s.1 y.1 with
        | true => rw [mrgG_gt q, mrgG_le g, insH_gt q]
        | false => rw [mrgG_le q, insH_le q, ih]
      | false =>
        rw [insH_le k] at ih ⊢
        rw [mrgG_le g, insH_le (gle_trans g k), ih]
theorem mrg_foldG (Y : List (KV β)) : ∀ S M : List (KV β), Y.foldl (fun S a => insH a S) (mrgG S M) = mrgG S (Y.foldl (fun S a => insH a S) M) := by
  induction Y with
  | nil => intro S M; rfl
  | cons y r ih =>
    intro S M
    rw [List.foldl_cons, List.foldl_cons, ← mrg_insG y _ S M (Nat.le_refl _), ih]
def sortedG (S : List (KV β)) : Prop := S.Pairwise (fun x y => gtB x.1 y.1 = false)
theorem insH_mem {a x : KV β} : ∀ {S : List (KV β)}, x ∈ insH a S → x = a ∨ x ∈ S
  | [], h => by simp [insH] at h; exact .inl h
  | s :: S, h => by
    cases g : gtB s.1 a.1 with
    | true => rw [insH_gt g] at h; simpa using h
    | false =>
      rw [insH_le g] at h
      rcases List.mem_cons.1 h with h | h
      · exact .inr (by simp [h])
      · rcases insH_mem h with h | h
        · exact .inl h
        · exact .inr (List.mem_cons_of_mem _ h)
theorem insH_sorted (a : KV β) : ∀ {S : List (KV β)}, sortedG S → sortedG (insH a S)
  | [], _ => by simp [insH, sortedG]
  | s :: S, h => by
    unfold sortedG at h ⊢
    rw [List.pairwise_cons] at h
    cases g : gtB s.1 a.1 with
    | true =>
      rw [insH_gt g, List.pairwise_cons, List.pairwise_cons]
      refine ⟨fun x hx => ?_, h⟩
      rcases List.mem_cons.1 hx with rfl | hx
      · exact gt_gle g
      · exact gle_trans (gt_gle g) (h.1 x hx)
    | false =>
      rw [insH_le g, List.pairwise_cons]
      refine ⟨fun x hx => ?_, insH_sorted a h.2⟩
      rcases insH_mem hx with rfl | hx
      · exact g
      · exact h.1 x hx
theorem insH_cut {a : KV β} : ∀ {S1 S2 : List (KV β)}, (∀ x ∈ S1, gtB x.1 a.1 = false) → (∀ x, S2.head? = some x → gtB x.1 a.1 = true) → insH a (S1 ++ S2) = S1 ++ a :: S2
  | [], [], _, _ => rfl
  | [], x :: r, _, h => by rw [List.nil_append, insH_gt (h x rfl)]; rfl
  | s :: S1, S2, h1, h2 => by
    rw [List.cons_append, insH_le (h1 s (by simp)), insH_cut (fun x hx => h1 x (by simp [hx])) h2]; rfl
theorem posG_spec (S : List (KV β)) (a : KV β) : ∀ k, k ≤ S.length → (∀ i (h : i < S.length), posG S a k ≤ i → i < k → gtB S[i].1 a.1 = true) ∧ (∀ h : posG S a k - 1 < S.length, 0 < posG S a k → gtB (S[posG S a k - 1]).1 a.1 = false)
  | 0, _ => ⟨fun i _ _ h => absurd h (by omega), fun _ h => absurd h (by simp [posG])⟩
  | k + 1, hk => by
    have hkl : k < S.length := by omega
    cases g : gtB S[k].1 a.1 with
    | true =>
      rw [posG_go hkl g]
      obtain ⟨h1, h2⟩ := posG_spec S a k (by omega)
      refine ⟨fun i hi hp hl => ?_, h2⟩
      by_cases he : i = k
      · subst he; exact g
      · exact h1 i hi hp (by omega)
    | false =>
      rw [posG_stop hkl g]
      exact ⟨fun i hi hp hl => absurd hp (by omega), fun h _ => by simpa using g⟩
theorem insG_insH {S : List (KV β)} (hs : sortedG S) (a : KV β) : insG S a = insH a S := by
  obtain ⟨h1, h2⟩ := posG_spec S a S.length (Nat.le_refl _)
  have hp := posG_le S a S.length
  unfold insG
  obtain ⟨j, hj⟩ : ∃ j, j = posG S a S.length := ⟨_, rfl⟩
  rw [← hj] at h1 h2 hp ⊢
  conv => rhs; rw [← List.take_append_drop j S]
  refine (insH_cut (fun x hx => ?_) (fun x hx => ?_)).symm
  · obtain ⟨i, hi, rfl⟩ := List.mem_take_iff_getElem.1 hx
    have hlast := h2 (by omega) (by omega)
    by_cases he : i = j - 1
    · subst he; exact hlast
    · exact gle_trans ((List.pairwise_iff_getElem.1 hs) i (j - 1) (by omega) (by omega) (by omega)) hlast
  · rw [List.head?_drop] at hx
    have hl : j < S.length := by
      rcases Nat.lt_or_ge j S.length with h | h
      · exact h
      · rw [List.getElem?_eq_none h] at hx; cases hx
    rw [List.getElem?_eq_getElem hl] at hx
    cases hx
    exact h1 j hl (Nat.le_refl _) hl
theorem fold_insG : ∀ (L S : List (KV β)), sortedG S → L.foldl insG S = L.foldl (fun S a => insH a S) S ∧ sortedG (L.foldl insG S)
  | [], S, h => ⟨rfl, h⟩
  | a :: r, S, h => by
    rw [List.foldl_cons, List.foldl_cons, insG_insH h]
    exact fold_insG r (insH a S) (insH_sorted a h)
theorem sortG_sorted (L : List (KV β)) : sortedG (sortG L) := by rw [sortG_fold]; exact (fold_insG L [] List.Pairwise.nil).2
theorem sortG_app (X Y : List (KV β)) : sortG (X ++ Y) = mrgG (sortG X) (sortG Y) := by
  rw [sortG_fold, sortG_fold, sortG_fold, (fold_insG _ [] List.Pairwise.nil).1, (fold_insG X [] List.Pairwise.nil).1, (fold_insG Y [] List.Pairwise.nil).1, List.foldl_append]
  have h := mrg_foldG Y (X.foldl (fun S a => insH a S) []) []
  rw [mrgG_nilR] at h
  exact h
theorem mrg_splitG : ∀ (n : Nat) (X1 Y1 X2 Y2 : List (KV β)), X1.length + Y1.length ≤ n → (∀ x ∈ X1, ∀ y ∈ Y2, gtB x.1 y.1 = false) → (∀ x ∈ X2, ∀ y ∈ Y1, gtB x.1 y.1 = true) → mrgG (X1 ++ X2) (Y1 ++ Y2) = mrgG X1 Y1 ++ mrgG X2 Y2
  | _, [], [], X2, Y2, _, _, _ => by rw [mrgG_nil]; rfl
  | 0, x :: X1, Y1, X2, Y2, h, _, _ => by simp at h
  | 0, [], y :: Y1, X2, Y2, h, _, _ => by simp at h
  | n + 1, [], y :: Y1, X2, Y2, h, h1, h2 => by
    rw [List.nil_append, mrgG_nil]
    cases X2 with
    | nil => rw [mrgG_nil, mrgG_nil]
    | cons x X2 =>
      have ih := mrg_splitG n [] Y1 (x :: X2) Y2 (by simp at h ⊢; omega) (fun x hx => absurd hx (by simp)) (fun x hx y hy => h2 x hx y (List.mem_cons_of_mem _ hy))
      rw [List.nil_append, mrgG_nil] at ih
      rw [List.cons_append, mrgG_gt (h2 x (by simp) y (by simp)), ih]
      rfl
  | n + 1, x :: X1, [], X2, Y2, h, h1, h2 => by
    rw [List.nil_append, mrgG_nilR]
    cases Y2 with
    | nil => rw [mrgG_nilR, mrgG_nilR]
    | cons y Y2 =>
      have ih := mrg_splitG n X1 [] X2 (y :: Y2) (by simp at h ⊢; omega) (fun x hx => h1 x (List.mem_cons_of_mem _ hx)) (fun x hx y hy => absurd hy (by simp))
      rw [List.nil_append, mrgG_nilR] at ih
      rw [List.cons_append, mrgG_le (h1 x (by simp) y (by simp)), ih]
      rfl
  | n + 1, x :: X1, y :: Y1, X2, Y2, h, h1, h2 => by
    rw [List.cons_append, List.cons_append]
    cases g : gtB x.1 y.1 with
    | true =>
      have ih := mrg_splitG n (x :: X1) Y1 X2 Y2 (by simp at h ⊢; omega) h1 (fun x hx y hy => h2 x hx y (List.mem_cons_of_mem _ hy))
      rw [List.cons_append] at ih
      rw [mrgG_gt g, mrgG_gt g, ih]
      rfl
    | false =>
      have ih := mrg_splitG n X1 (y :: Y1) X2 Y2 (by simp at h ⊢; omega) (fun x hx => h1 x (List.mem_cons_of_mem _ hx)) h2
      rw [List.cons_append] at ih
      rw [mrgG_le g, mrgG_le g, ih]
      rfl
theorem sortG_length (L : List (KV β)) : (sortG L).length = L.length := srtG_length _ _ _
end
end Go.Proofs.YtlimajgmdhhggaaGreatDoor


namespace Go.Proofs.YtlimajgmdhhggaaGreatDoor
set_option linter.unusedVariables false
set_option linter.unusedSimpArgs false

section
variable {β : Type}
theorem sorted_le {S : List (KV β)} (h : sortedG S) {i j : Nat} (hi : i < S.length) (hj : j < S.length) (hij : i ≤ j) : gtB S[i].1 S[j].1 = false := by
  rcases Nat.lt_or_ge i j with h1 | h1
  · exact (List.pairwise_iff_getElem.1 h) i j hi hj h1
  · obtain rfl : i = j := by omega
    exact gle_refl _
theorem sorted_take {S : List (KV β)} (h : sortedG S) (k : Nat) : sortedG (S.take k) := h.sublist (List.take_sublist k S)
theorem sorted_drop {S : List (KV β)} (h : sortedG S) (k : Nat) : sortedG (S.drop k) := h.sublist (List.drop_sublist k S)
theorem gt_le_trans {x y z : List UInt8} (h1 : gtB x y = true) (h2 : gtB z y = false) : gtB x z = true := by
  cases h : gtB x z with
  | true => rfl
  | false => rw [gle_trans h h2] at h1; cases h1
theorem le_gt_trans {x y z : List UInt8} (h1 : gtB x y = true) (h2 : gtB x z = false) : gtB z y = true := by
  cases h : gtB z y with
  | true => rfl
  | false => rw [gle_trans h2 h] at h1; cases h1
theorem mrg_one {x : KV β} {Y : List (KV β)} {p : Nat} (hp : p ≤ Y.length) (h1 : ∀ t (h : t < Y.length), t < p → gtB x.1 Y[t].1 = true) (h2 : ∀ t (h : t < Y.length), p ≤ t → gtB x.1 Y[t].1 = false) : mrgG [x] Y = Y.take p ++ x :: Y.drop p := by
  have hs := mrg_splitG _ [] (Y.take p) [x] (Y.drop p) (Nat.le_refl _) (fun x hx => absurd hx (by simp)) (fun z hz y hy => by
    obtain ⟨i, hi, rfl⟩ := List.mem_take_iff_getElem.1 hy
    rw [List.mem_singleton] at hz
    rw [hz]
    exact h1 i (by omega) (by omega))
  rw [List.nil_append, List.take_append_drop, mrgG_nil] at hs
  rw [hs]
  congr 1
  rcases Nat.lt_or_ge p Y.length with hl | hl
  · rw [List.drop_eq_getElem_cons hl, mrgG_le (h2 p hl (Nat.le_refl _)), mrgG_nil]
  · rw [List.drop_of_length_le hl, mrgG_nilR]
theorem mrg_last {y : KV β} {X : List (KV β)} {p : Nat} (hp : p ≤ X.length) (h1 : ∀ t (h : t < X.length), t < p → gtB X[t].1 y.1 = false) (h2 : ∀ t (h : t < X.length), p ≤ t → gtB X[t].1 y.1 = true) : mrgG X [y] = X.take p ++ y :: X.drop p := by
  have hs := mrg_splitG _ (X.take p) [] (X.drop p) [y] (Nat.le_refl _) (fun x hx z hz => by
    obtain ⟨i, hi, rfl⟩ := List.mem_take_iff_getElem.1 hx
    rw [List.mem_singleton] at hz
    rw [hz]
    exact h1 i (by omega) (by omega)) (fun x hx z hz => absurd hz (by simp))
  rw [List.nil_append, List.take_append_drop, mrgG_nilR] at hs
  rw [hs]
  congr 1
  rcases Nat.lt_or_ge p X.length with hl | hl
  · rw [List.drop_eq_getElem_cons hl, mrgG_gt (h2 p hl (Nat.le_refl _)), mrgG_nilR]
  · rw [List.drop_of_length_le hl, mrgG_nil]
structure SymQ (X Y : List (KV β)) (s0 r0 k s r : Nat) : Prop where
  lo : s0 ≤ s
  mid : s ≤ r
  hi : r ≤ r0
  low : ∀ c (h : c < X.length) (h' : k - c < Y.length), s0 ≤ c → c < s → gtB X[c].1 Y[k - c].1 = false
  high : ∀ c (h : c < X.length) (h' : k - c < Y.length), r ≤ c → c < r0 → gtB X[c].1 Y[k - c].1 = true
theorem SymQ.up {X Y : List (KV β)} {s0 r0 k s r c : Nat} (h : SymQ X Y s0 r0 k s r) (hX : sortedG X) (hY : sortedG Y) (hc1 : s ≤ c) (hc2 : c < r) (hr0 : r0 ≤ X.length) (hk : r0 ≤ k + 1) (hs0 : k < Y.length + s0) (hg : ∀ (h1 : c < X.length) (h2 : k - c < Y.length), gtB X[c].1 Y[k - c].1 = false) : SymQ X Y s0 r0 k (c + 1) r := by
  have h1 := h.lo
  have h2 := h.hi
  refine ⟨by omega, by omega, h2, fun d hd hd' a1 a2 => ?_, h.high⟩
  have g := hg (by omega) (by omega)
  exact gle_trans (sorted_le hX hd (by omega) (by omega)) (gle_trans g (sorted_le hY (by omega) hd' (by omega)))
theorem SymQ.down {X Y : List (KV β)} {s0 r0 k s r c : Nat} (h : SymQ X Y s0 r0 k s r) (hX : sortedG X) (hY : sortedG Y) (hc1 : s ≤ c) (hc2 : c < r) (hr0 : r0 ≤ X.length) (hk : r0 ≤ k + 1) (hs0 : k < Y.length + s0) (hg : ∀ (h1 : c < X.length) (h2 : k - c < Y.length), gtB X[c].1 Y[k - c].1 = true) : SymQ X Y s0 r0 k s c := by
  have h1 := h.lo
  have h2 := h.hi
  refine ⟨h1, hc1, by omega, h.low, fun d hd hd' a1 a2 => ?_⟩
  have g := hg (by omega) (by omega)
  exact le_gt_trans (gt_le_trans g (sorted_le hY hd' (by omega) (by omega))) (sorted_le hX (by omega) hd (by omega))
theorem SymQ.cut {X Y : List (KV β)} {s0 r0 k s : Nat} (h : SymQ X Y s0 r0 k s s) (hX : sortedG X) (hY : sortedG Y) (hr0 : r0 ≤ X.length) (hk : r0 ≤ k + 1) (hs0 : k < Y.length + s0) (hlo : s0 = 0 ∨ k + 1 - s0 = Y.length) (hhi : r0 = X.length ∨ k + 1 = r0) :
    mrgG X Y = mrgG (X.take s) (Y.take (k + 1 - s)) ++ mrgG (X.drop s) (Y.drop (k + 1 - s)) := by
  have h1 := h.lo
  have h2 := h.hi
  have hs := mrg_splitG _ (X.take s) (Y.take (k + 1 - s)) (X.drop s) (Y.drop (k + 1 - s)) (Nat.le_refl _) (fun x hx y hy => by
    obtain ⟨i, hi, rfl⟩ := List.mem_take_iff_getElem.1 hx
    obtain ⟨j, hj, rfl⟩ := List.mem_iff_getElem.1 hy
    rw [List.getElem_drop]
    rw [List.length_drop] at hj
    rcases Nat.lt_or_ge s0 s with hss | hss
    · have g := h.low (s - 1) (by omega) (by omega) (by omega) (by omega)
      have e : k - (s - 1) = k + 1 - s := by omega
      simp only [e] at g
      exact gle_trans (sorted_le hX (by omega) (by omega) (by omega)) (gle_trans g (sorted_le hY (by omega) (by omega) (by omega)))
    · omega) (fun x hx y hy => by
    obtain ⟨i, hi, rfl⟩ := List.mem_iff_getElem.1 hx
    obtain ⟨j, hj, rfl⟩ := List.mem_take_iff_getElem.1 hy
    rw [List.getElem_drop]
    rw [List.length_drop] at hi
    rcases Nat.lt_or_ge s r0 with hss | hss
    · have g := h.high s (by omega) (by omega) (Nat.le_refl _) hss
      exact le_gt_trans (gt_le_trans g (sorted_le hY (by omega) (by omega) (by omega))) (sorted_le hX (by omega) (by omega) (by omega))
    · omega)
  rw [List.take_append_drop, List.take_append_drop] at hs
  exact hs
end
end Go.Proofs.YtlimajgmdhhggaaGreatDoor


namespace Go.Proofs.YtlimajgmdhhggaaGreatDoor
open Go.RowKit
set_option linter.unusedVariables false
set_option linter.unusedSimpArgs false

section
variable {α : Type}
def swap2 (R : List α) (i j : Nat) : List α := match R[i]?, R[j]? with
  | some x, some y => (R.set i y).set j x
  | _, _ => R
theorem swap2_len (R : List α) (i j : Nat) : (swap2 R i j).length = R.length := by
  unfold swap2
  split <;> simp
theorem swap2_eq {R : List α} {i j : Nat} (hi : i < R.length) (hj : j < R.length) : swap2 R i j = (R.set i R[j]).set j R[i] := by
  unfold swap2
  rw [List.getElem?_eq_getElem hi, List.getElem?_eq_getElem hj]
theorem swap2_at (S T R : List α) (x y : α) : swap2 (S ++ x :: (T ++ y :: R)) S.length (S.length + 1 + T.length) = S ++ y :: (T ++ x :: R) := by
  have h1 : (S ++ x :: (T ++ y :: R))[S.length]? = some x := by simp
  have h2 : (S ++ x :: (T ++ y :: R))[S.length + 1 + T.length]? = some y := by
    rw [List.getElem?_append_right (by omega), show S.length + 1 + T.length - S.length = T.length + 1 from by omega, List.getElem?_cons_succ, List.getElem?_append_right (by omega)]
    simp
  unfold swap2
  rw [h1, h2]
  simp only []
  rw [List.set_append_right _ _ (by omega), Nat.sub_self, List.set_cons_zero, List.set_append_right _ _ (by omega), show S.length + 1 + T.length - S.length = T.length + 1 from by omega, List.set_cons_succ, List.set_append_right _ _ (by omega), Nat.sub_self, List.set_cons_zero]
def swpK (A X M Y C : List α) (k : Nat) : List α := A ++ (Y.take k ++ X.drop k) ++ M ++ (X.take k ++ Y.drop k) ++ C
theorem swpK_zero (A X M Y C : List α) : swpK A X M Y C 0 = A ++ X ++ M ++ Y ++ C := by simp [swpK]
theorem swpK_end {A X M Y C : List α} {n : Nat} (hx : X.length = n) (hy : Y.length = n) : swpK A X M Y C n = A ++ Y ++ M ++ X ++ C := by
  unfold swpK
  rw [List.take_of_length_le (by omega), List.drop_of_length_le (by omega), List.take_of_length_le (by omega), List.drop_of_length_le (by omega)]
  simp
theorem swpK_len (A X M Y C : List α) (k : Nat) (h : X.length = Y.length) : (swpK A X M Y C k).length = A.length + X.length + M.length + Y.length + C.length := by
  unfold swpK
  simp only [List.length_append, List.length_take, List.length_drop]
  omega
theorem swpK_step {A X M Y C : List α} {k a b : Nat} (hx : k < X.length) (hy : k < Y.length) (h : X.length = Y.length) (ha : a = A.length + k) (hb : b = A.length + X.length + M.length + k) : swap2 (swpK A X M Y C k) a b = swpK A X M Y C (k + 1) := by
  have e1 : swpK A X M Y C k = (A ++ Y.take k) ++ X[k] :: ((X.drop (k + 1) ++ M ++ X.take k) ++ Y[k] :: (Y.drop (k + 1) ++ C)) := by
    unfold swpK
    rw [List.drop_eq_getElem_cons hx, List.drop_eq_getElem_cons hy]
    simp only [List.append_assoc, List.cons_append]
  have e2 : swpK A X M Y C (k + 1) = (A ++ Y.take k) ++ Y[k] :: ((X.drop (k + 1) ++ M ++ X.take k) ++ X[k] :: (Y.drop (k + 1) ++ C)) := by
    unfold swpK
    rw [List.take_succ_eq_append_getElem hx, List.take_succ_eq_append_getElem hy]
    simp only [List.append_assoc, List.cons_append, List.nil_append]
  rw [e1, e2]
  have hl1 : (A ++ Y.take k).length = a := by simp; omega
  have hl2 : (A ++ Y.take k).length + 1 + (X.drop (k + 1) ++ M ++ X.take k).length = b := by simp; omega
  have hs := swap2_at (A ++ Y.take k) (X.drop (k + 1) ++ M ++ X.take k) (Y.drop (k + 1) ++ C) X[k] Y[k]
  rw [hl2, hl1] at hs
  exact hs
end
theorem rowP_swap2 {B g n cap : Nat} {w : World} {P : List PT} {i j : Nat} (hi : i < P.length) (hj : j < P.length) (hij : i ≠ j) (h : w.ownsRow B 54 2 (.slice (some ⟨g, 0, none⟩) n cap) n (cellsP P)) :
    let w' := (((w.setCell ⟨g, i * 2, none⟩ (strV P[j].1)).setCell ⟨g, i * 2 + 1, none⟩ P[j].2).setCell ⟨g, j * 2, none⟩ (strV P[i].1)).setCell ⟨g, j * 2 + 1, none⟩ P[i].2
    w'.ownsRow B 54 2 (.slice (some ⟨g, 0, none⟩) n cap) n (cellsP (swap2 P i j)) ∧ w.grownBy w' (some g) := by
  intro w'
  obtain ⟨h1, g1⟩ := h.stored (i * 2) (strV P[j].1)
  obtain ⟨h2, g2⟩ := h1.stored (i * 2 + 1) P[j].2
  obtain ⟨h3, g3⟩ := h2.stored (j * 2) (strV P[i].1)
  obtain ⟨h4, g4⟩ := h3.stored (j * 2 + 1) P[i].2
  refine ⟨?_, grown_trans (grown_trans (grown_trans g1 g2) g3) g4⟩
  have he : ((((cellsP P).set (i * 2) (strV P[j].1)).set (i * 2 + 1) P[j].2).set (j * 2) (strV P[i].1)).set (j * 2 + 1) P[i].2 = cellsP (swap2 P i j) := by
    refine List.ext_getElem? fun z => ?_
    have hl := cellsP_length P
    have hls := cellsP_length (swap2 P i j)
    rw [swap2_len] at hls
    by_cases hz : z < P.length * 2
    · obtain ⟨q, hq⟩ : ∃ q, z = q * 2 ∨ z = q * 2 + 1 := ⟨z / 2, by omega⟩
      have hqp : q < (swap2 P i j).length := by rw [swap2_len]; omega
      have hqP : q < P.length := by rw [swap2_len] at hqp; exact hqp
      obtain ⟨s0, s1⟩ := cellsP_get (swap2 P i j) q hqp
      obtain ⟨p0, p1⟩ := cellsP_get P q hqP
      have hsw : (swap2 P i j)[q] = if q = j then P[i] else if q = i then P[j] else P[q] := by
        simp only [swap2_eq hi hj, List.getElem_set]
        by_cases e1 : j = q
        · rw [if_pos e1, if_pos e1.symm]
        · rw [if_neg e1, if_neg (show ¬ q = j from fun h => e1 h.symm)]
          by_cases e2 : i = q
          · rw [if_pos e2, if_pos e2.symm]
          · rw [if_neg e2, if_neg (show ¬ q = i from fun h => e2 h.symm)]
      simp only [List.getElem?_set, List.length_set, hl]
      rcases hq with rfl | rfl
      · rw [s0, hsw]
        by_cases e1 : q = j
        · subst e1
          rw [if_neg (by omega), if_pos rfl, if_pos (by omega), if_pos rfl]
        · by_cases e2 : q = i
          · subst e2
            rw [if_neg (by omega), if_neg (by omega), if_neg (by omega), if_pos rfl, if_pos (by omega), if_neg e1, if_pos rfl]
          · rw [if_neg (by omega), if_neg (by omega), if_neg (by omega), if_neg (by omega), if_neg e1, if_neg e2]
            exact p0
      · rw [s1, hsw]
        by_cases e1 : q = j
        · subst e1
          rw [if_pos rfl, if_pos (by omega), if_pos rfl]
        · by_cases e2 : q = i
          · subst e2
            rw [if_neg (by omega), if_neg (by omega), if_pos rfl, if_pos (by omega), if_neg e1, if_pos rfl]
          · rw [if_neg (by omega), if_neg (by omega), if_neg (by omega), if_neg (by omega), if_neg e1, if_neg e2]
            exact p1
    · rw [List.getElem?_eq_none (by simp only [List.length_set]; omega), List.getElem?_eq_none (by omega)]
  rw [← he]
  exact h4
end Go.Proofs.YtlimajgmdhhggaaGreatDoor


namespace Go.Proofs.YtlimajgmdhhggaaGreatDoor
open Go.RowKit
set_option linter.unusedVariables false
set_option linter.unusedSimpArgs false

def slV (R : List PT) : Prop := ∀ r ∈ R, ∃ a k c, r.2 = Value.slice a k c
theorem swpK_mem {A X M Y C : List PT} {k : Nat} {r : PT} (h : r ∈ swpK A X M Y C k) : r ∈ A ++ X ++ M ++ Y ++ C := by
  unfold swpK at h
  simp only [List.mem_append] at h ⊢
  rcases h with (((h | h | h) | h) | h | h) | h
  · simp [h]
  · simp [List.mem_of_mem_take h]
  · simp [List.mem_of_mem_drop h]
  · simp [h]
  · simp [List.mem_of_mem_take h]
  · simp [List.mem_of_mem_drop h]
  · simp [h]
theorem grown_refl (w : World) (g : Nat) : w.grownBy w (some g) := ⟨rfl, rfl, rfl, Nat.le_refl _, fun _ _ _ => rfl⟩
set_option maxRecDepth 100000 in
set_option maxHeartbeats 4000000 in
theorem swapRange_any (A X M Y C : List PT) (B g n cap a b c : Nat) (w : World) (hn : n = (A ++ X ++ M ++ Y ++ C).length) (hl : n ≤ 1000000) (hx : X.length = c) (hy : Y.length = c) (ha : a = A.length) (hb : b = A.length + X.length + M.length)
    (h : w.ownsRow B 54 2 (.slice (some ⟨g, 0, none⟩) n cap) n (cellsP (A ++ X ++ M ++ Y ++ C))) (hv : slV (A ++ X ++ M ++ Y ++ C)) :
    Calls Tryz.prog 178 #[.slice (some ⟨g, 0, none⟩) n cap, .int .i64 a, .int .i64 b, .int .i64 c, .func (.func 46) #[] #[]] w fun e w' => e = .returned (.tuple #[]) ∧ w'.ownsRow B 54 2 (.slice (some ⟨g, 0, none⟩) n cap) n (cellsP (A ++ Y ++ M ++ X ++ C)) ∧ w.grownBy w' (some g) := by
  have hlen : n = A.length + X.length + M.length + Y.length + C.length := by rw [hn]; simp; omega
  have HV := Lib.hid hv
  have HR := Lib.hid h
  have HD := Lib.hid (And.intro hlen (And.intro hx (And.intro hy (And.intro ha hb))))
  have hab : a + c ≤ b := by omega
  have hbn : b + c ≤ n := by omega
  clear hv h hn hlen hx hy ha hb
  go_enter Tryz.func178, Tryz.ntmps178
  go_wp2
  go_loopw [10] (fun i wr => ∃ k : Nat, k ≤ c ∧ i = .int .i64 (k : Int) ∧ Hid (wr.ownsRow B 54 2 (.slice (some ⟨g, 0, none⟩) n cap) n (cellsP (swpK A X M Y C k))) ∧ Hid (w.grownBy wr (some g))) (fun i wr => c - (intOf i).toNat)
  case atStart => exact ⟨0, Nat.zero_le _, rfl, Lib.hid (by rw [swpK_zero]; exact HR.out), Lib.hid (grown_refl _ _)⟩
  case round =>
    obtain ⟨k, hk, rfl, HRk, HGk⟩ := hrel
    by_cases hlt : k < c
    · have t1 : decide ((k : Int) < (c : Int)) = true := by simp; omega
      have t1' : decide (k < c) = true := by simpa using hlt
      obtain ⟨i, hi⟩ : ∃ i, i = a + k := ⟨_, rfl⟩
      obtain ⟨j, hj⟩ : ∃ j, j = b + k := ⟨_, rfl⟩
      have hin : i < n := by omega
      have hjn : j < n := by omega
      have hij : i ≠ j := by omega
      obtain ⟨R, hR⟩ : ∃ R, R = swpK A X M Y C k := ⟨_, rfl⟩
      have hRl : R.length = n := by rw [hR, swpK_len _ _ _ _ _ _ (by rw [HD.out.2.1, HD.out.2.2.1])]; exact HD.out.1.symm
      have hst : swap2 R i j = swpK A X M Y C (k + 1) := by
        obtain ⟨d0, d1, d2, d3, d4⟩ := HD.out
        rw [hR]
        exact swpK_step (by omega) (by omega) (by omega) (by omega) (by omega)
      have hRv : slV R := fun r hr => HV.out r (swpK_mem (by rw [← hR]; exact hr))
      rw [← hR] at HRk
      have hiR : i < R.length := by omega
      have hjR : j < R.length := by omega
      obtain ⟨x0, x1⟩ := cellsP_get R i hiR
      obtain ⟨y0, y1⟩ := cellsP_get R j hjR
      obtain ⟨xa, xn, xc, hx⟩ := hRv _ (List.getElem_mem hiR)
      obtain ⟨ya, yn, yc, hy⟩ := hRv _ (List.getElem_mem hjR)
      obtain ⟨XX, hX⟩ : ∃ T : ByteArray, T = ofL R[i].1 := ⟨_, rfl⟩
      obtain ⟨YY, hY⟩ : ∃ T : ByteArray, T = ofL R[j].1 := ⟨_, rfl⟩
      have hc := fun j (hj : j < n * 2) => World.ownsRow.cellAt HRk.out j hj
      have hf := fun j => World.ownsRow.frozenAt HRk.out j
      have s0 : wr.cell? ⟨g, i * 2, none⟩ = some (.string XX) := by rw [hc _ (by omega), x0, hX]; rfl
      have s1 : wr.cell? ⟨g, i * 2 + 1, none⟩ = some (.slice xa xn xc) := by rw [hc _ (by omega), x1, hx]
      have s2 : wr.cell? ⟨g, j * 2, none⟩ = some (.string YY) := by rw [hc _ (by omega), y0, hY]; rfl
      have s3 : wr.cell? ⟨g, j * 2 + 1, none⟩ = some (.slice ya yn yc) := by rw [hc _ (by omega), y1, hy]
      have z0 := hf (i * 2)
      have z1 := hf (i * 2 + 1)
      have z2 := hf (j * 2)
      have z3 := hf (j * 2 + 1)
      obtain ⟨hsw, hgw⟩ := rowP_swap2 hiR hjR hij HRk.out
      have e1 : strV R[i].1 = .string XX := by rw [hX]; rfl
      have e2 : strV R[j].1 = .string YY := by rw [hY]; rfl
      rw [e1, e2, hx, hy, hst] at hsw
      rw [e1, e2, hx, hy] at hgw
      have HSw := Lib.hid hsw
      have HGw := Lib.hid hgw
      have q1 : IntKind.i64.wrap ((a : Int) + (k : Int)) = (i : Int) := by rw [IntKind.wrap_i64]; omega
      have q2 : IntKind.i64.wrap ((b : Int) + (k : Int)) = (j : Int) := by rw [IntKind.wrap_i64]; omega
      have q3 : (0 : Int) ≤ (i : Int) := by omega
      have q4 : (i : Int) < (n : Int) := by omega
      have q5 : (0 : Int) ≤ (j : Int) := by omega
      have q6 : (j : Int) < (n : Int) := by omega
      have n0 : (i * 2 = j * 2) = False := eq_false (by omega)
      have n1 : (i * 2 + 1 = j * 2) = False := eq_false (by omega)
      have n2 : (i * 2 = j * 2 + 1) = False := eq_false (by omega)
      have n3 : (j * 2 = i * 2) = False := eq_false (by omega)
      have n4 : (j * 2 = i * 2 + 1) = False := eq_false (by omega)
      have n5 : (j * 2 + 1 = i * 2) = False := eq_false (by omega)
      clear hsw hgw e1 e2 hX hY hx hy hc hf x0 x1 y0 y1 hR hRl hst hRv hi hj hiR hjR hij HRk
      go_upto_region 3 with (fail)
      go_region_law (fail)
      all_goals
        have hr10 := HSw.out
        have hg10 := HGw.out
        have hr11 := hr10.drew
        have hg11 := grown_trans HGk.out hg10
        generalize (((wr.setCell ⟨g, i * 2, none⟩ (.string YY)).setCell ⟨g, i * 2 + 1, none⟩ (.slice ya yn yc)).setCell ⟨g, j * 2, none⟩ (.string XX)).setCell ⟨g, j * 2 + 1, none⟩ (.slice xa xn xc) = W10 at hr11 hg11 ⊢
        have hg12 : w.grownBy W10.drew (some g) := ⟨hg11.os, hg11.tape, hg11.output, hg11.size, hg11.block⟩
        have HR12 := Lib.hid hr11
        have HG12 := Lib.hid hg12
        clear hr10 hg10 hr11 hg11 hg12 s0 s1 s2 s3 z0 z1 z2 z3
        go_wp2
        go_roundw
        case rel => exact ⟨k + 1, by omega, by first | rfl | go_num, HR12, HG12⟩
        case measure => simp [intOf]; omega
    · obtain rfl : k = c := by omega
      have t1 : decide ((k : Int) < (k : Int)) = false := by simp
      have hend := HRk.out
      rw [swpK_end HD.out.2.1 HD.out.2.2.1] at hend
      have HEn := Lib.hid hend
      clear hend
      go_wp2
      go_end0
      exact ⟨rfl, HEn.out, HGk.out⟩
end Go.Proofs.YtlimajgmdhhggaaGreatDoor

