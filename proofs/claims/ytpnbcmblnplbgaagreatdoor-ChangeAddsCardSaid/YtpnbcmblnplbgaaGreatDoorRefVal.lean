/- The document's value: the walk. -/
import Derived.Test.YtpnbcmblnplbgaaGreatDoorRefCut
import Derived.Deep.AppendLies
import Derived.Deep.RegionLaw
import Derived.RegionTactic
import Derived.BigRegion
namespace Go.Proofs.YtpnbcmblnplbgaaGreatDoor
open Go.RowKit
set_option linter.unusedVariables false

/-- 'append(b, c)' in a region that draws its order. -/
theorem step_append_one {ops : Array Oper} {o : Oper} {a : Act} {w : World} {K : Act → World → Prop} {Q : Exit → Act → World → Prop} {E : Prop} (hgd : o.guard = none) (sl x : Operand)
    (ho : o.op = .call { callee := .builtin .append, args := #[sl, x], argTypes := #[22, 22] })
    (base : Nat) (v : Value) (l : List UInt8) (hs : a.eval sl = v) (n : Int) (c : UInt8) (hc : (c.toNat : Int) = n) (hown : OwnB base w v l) (hx : a.eval x = .slice (some ⟨w.heap.size, 0, none⟩) 1 1)
    (h63 : l.length + 1 ≤ 1000000) (hbase : base ≤ w.heap.size)
    (h : ∀ v' w', OwnB base w' v' (l ++ [c]) → Below base w w' → K (a.put o.dst v') w') :
    if Region.wanted o (yielded ops a.tmps) = true then Oper.wp Tryz.prog o a (w.alloc (.cells #[.int .u8 n] 5)) K Q else E := by
  subst hc
  obtain ⟨i0, hi, hz0, hz1, hz2⟩ := info_parts infoB
  refine step_append_lies _ hgd sl x 22 ho base 5 i0 (.int .u8 0) 1 1 Tryz.underlying22 hi hz0 hz1 hz2 rfl (by decide) v l.length (l.map byteV) hs (World.ownsRow.alloc hown _) ⟨w.heap.size, 0, none⟩ 1 1 [.int .u8 c.toNat] hx rfl (cell_one_new w (.int .u8 c.toNat) 5) (by intro u hu; simp at hu; rw [hu]; rfl) (by decide) (by unfold maxLen; omega) (by omega) (by simp; omega) _ rfl ?_
  intro g cap w' hown' hgrow hat hlt
  refine h _ w' ?_ ?_
  · unfold OwnB
    rw [List.length_append, List.map_append]
    exact hown'
  · exact ((Below.refl base w).alloc hbase _).grown hgrow (by simp; omega) (fun k e => (World.ownsRow.lt hown k e).1)

theorem hex_kind (c : UInt8) (h : hexB c = true) : kindC c = 1 := by
  have := all_bytes (fun c => !hexB c || decide (kindC c = 1)) (by decide +kernel) c
  rw [h] at this; simpa using this
theorem spec_kind (c : UInt8) : ([44, 43, 34, 92, 60, 62, 59, 61, 35, 32] : List UInt8).contains c = decide (2 ≤ kindC c) := by
  have := all_bytes (fun c => ([44, 43, 34, 92, 60, 62, 59, 61, 35, 32] : List UInt8).contains c == decide (2 ≤ kindC c)) (by decide +kernel) c
  simpa using this
theorem six_seven (c : UInt8) (h : c.toNat ≠ 92) : ([44, 43, 34, 60, 62, 59] : List UInt8).contains c = ([44, 43, 34, 92, 60, 62, 59] : List UInt8).contains c := by
  have := all_bytes (fun c => decide (c.toNat = 92) || (([44, 43, 34, 60, 62, 59] : List UInt8).contains c == ([44, 43, 34, 92, 60, 62, 59] : List UInt8).contains c)) (by decide +kernel) c
  simpa [h] using this

theorem valF_none {f : Bool} {l : List UInt8} {R : Option (List UInt8)} {L : List UInt8} (hne : l ≠ []) (h : R = (valF f l).map (L ++ ·)) (h0 : (oneD f l).2 = 0) : R = none := by
  rw [h, valF_step f hne, if_pos h0]; rfl
theorem valF_more {s : ByteArray} {j n : Nat} {c : UInt8} {R : Option (List UInt8)} {L : List UInt8} (hne : s.data.toList.drop j ≠ []) (h : R = (valF (decide (j = 0)) (s.data.toList.drop j)).map (L ++ ·)) (h1 : oneD (decide (j = 0)) (s.data.toList.drop j) = (c, n)) (hn : n ≠ 0) :
    R = (valF (decide (j + n = 0)) (s.data.toList.drop (j + n))).map (L ++ [c] ++ ·) := by
  rw [h, valF_step _ hne, h1]
  simp only
  rw [if_neg hn, show decide (j + n = 0) = false from by simp; omega, List.drop_drop]
  simp [Option.map_map, Function.comp_def]

set_option maxRecDepth 100000 in
set_option maxHeartbeats 8000000 in
theorem valueRef_any (s : ByteArray) (hs : s.size ≤ 100000) (w : World) :
    Calls Tryz.prog 30 #[.string s] w fun e w' => e = .returned (valV (valD s.data.toList)) ∧ Below w.heap.size w w' := by
  obtain ⟨i0, hi, hz0, hz1, hz2⟩ := info_parts infoB
  have hval : valD s.data.toList = valF true s.data.toList := rfl
  obtain ⟨R, hR⟩ : ∃ R, R = valD s.data.toList := ⟨_, rfl⟩
  rw [← hR] at hval ⊢
  have HR := Lib.hid hval
  clear hR hval
  go_enter Tryz.func30, Tryz.ntmps30
  go_wp2
  go_loopw [4, 5] (fun b i wr => ∃ (j : Nat) (L : List UInt8), i = .int .i64 j ∧ L.length ≤ j ∧ j ≤ s.size + 3 ∧ OwnB w.heap.size wr b L ∧ Below w.heap.size w wr ∧ R = (valF (decide (j = 0)) (s.data.toList.drop j)).map (L ++ ·))
    (fun _ i _ => s.size + 3 - (intOf i).toNat)
  case atStart => exact ⟨0, [], rfl, Nat.le_refl _, by omega, own_nil _ _, Below.refl _ _, by rw [HR.out]; simp⟩
  case round =>
    obtain ⟨j, L, rfl, hLj, hj3, hown, hbel, hres⟩ := hrel
    have HBel := Lib.hid hbel
    have hbs := hbel.size
    obtain ⟨a, cp, hv⟩ := own_slice hown
    subst hv
    have HO := Lib.hid hown
    by_cases hlt : j < s.size
    · have t1 : decide ((j : Int) < (s.size : Int)) = true := by simp; omega
      have hlist := drop_at s j hlt
      have hne : s.data.toList.drop j ≠ [] := by rw [hlist]; simp
      obtain ⟨c, hc⟩ : ∃ c : UInt8, c = s[j] := ⟨_, rfl⟩
      have hc' : s[j]'hlt = c := hc.symm
      have hcl := c.toNat_lt
      rw [← hc] at hlist
      have hnone := valF_none hne hres
      have hmore := fun (x : UInt8) (n : Nat) (h1 : oneD (decide (j = 0)) (s.data.toList.drop j) = (x, n)) hn => valF_more hne hres h1 hn
      clear hown hbel hne hres
      by_cases h92 : c.toNat = 92
      · have t2 : ((c.toNat : Int) == 92) = true := by simp [h92]
        rw [hlist, oneD_mark h92] at hnone hmore
        clear hc h92
        by_cases h1 : j + 1 < s.size
        · have hl1 := drop_at s (j + 1) h1
          obtain ⟨x, hx⟩ : ∃ x : UInt8, x = s[j + 1] := ⟨_, rfl⟩
          have hx' : s[j + 1]'h1 = x := hx.symm
          have hxl := x.toNat_lt
          rw [← hx] at hl1
          rw [hl1] at hnone hmore
          have g1 : (j : Int) + 1 < (s.size : Int) := by omega
          have t3 : decide ((s.size : Int) ≤ (j : Int) + 1) = false := by simp; omega
          have hhx := fun w => hexRef_any x w
          have hin := fun w => inRef_any ⟨#[44, 43, 34, 92, 60, 62, 59, 61, 35, 32]⟩ x w (by decide)
          have hsk : (⟨#[44, 43, 34, 92, 60, 62, 59, 61, 35, 32]⟩ : ByteArray).data.toList.contains x = decide (2 ≤ kindC x) := spec_kind x
          simp only [hsk] at hin
          have hk1 := hex_kind x
          have hd1 := (hex_idx x).1
          have hu1 : hexI x = if hexB x then (hexN x : Int) else -1 := rfl
          clear hlist hl1 hx hsk
          by_cases h2 : j + 2 < s.size
          · have hl2 := drop_at s (j + 2) h2
            obtain ⟨y, hy⟩ : ∃ y : UInt8, y = s[j + 2] := ⟨_, rfl⟩
            have hy' : s[j + 2]'h2 = y := hy.symm
            have hyl := y.toNat_lt
            rw [← hy] at hl2
            rw [hl2] at hnone hmore
            have t4 : decide ((j : Int) + 2 < (s.size : Int)) = true := by simp; omega
            have g2 : (j : Int) + 2 < (s.size : Int) := by omega
            have hhy := fun w => hexRef_any y w
            have hd2 := (hex_idx y).1
            have hu2 : hexI y = if hexB y then (hexN y : Int) else -1 := rfl
            clear hl2 hy
            cases hbx : hexB x with
            | false =>
              rw [hbx] at hu1
              simp only [hu1] at hhx
              have HH1 := Lib.hid hhx
              clear hhx hhy hd1 hd2 hu1 hu2 hk1
              by_cases hk : 2 ≤ kindC x
              · have HNew := Lib.hid (hmore x 2 (behD_free hk) (by omega))
                have hin1 := hin
                simp only [decide_eq_true hk] at hin1
                have HIn := Lib.hid hin1
                clear hnone hmore hin hin1 hk
                go_wp2_with (first
                  | (go_at_call 52; ((with_reducible refine (HH1.out _).mono ?_); rintro e w2 ⟨rfl, rfl⟩))
                  | (go_at_call 53; refine (HIn.out _).mono ?_; rintro e w2 ⟨rfl, rfl⟩)
                  | (at_builtin; refine wpList_append_one rfl (.tmp 70) (.tmp 75) rfl w.heap.size i0 hi hz0 hz1 hz2 (.slice a L.length cp) L rfl (x.toNat : Int) x rfl HO.out rfl (by omega) hbs ?_; intro v3 w3 hown3 hb3; have HO3 := Lib.hid hown3; have HB3 := Lib.hid hb3; clear hown3 hb3))
                go_roundw
                case rel => exact ⟨j + 2, L ++ [x], by first | rfl | (congr 1), by simp; omega, by omega, HO3.out, HBel.out.trans HB3.out, HNew.out⟩
                case measure => simp [intOf]; omega
              · have HN := Lib.hid (hnone (by rw [behD_hex hk, hbx]; rfl))
                have hin1 := hin
                simp only [decide_eq_false hk] at hin1
                have HIn := Lib.hid hin1
                clear hnone hmore hin hin1 hk
                go_wp2_with (first
                  | (go_at_call 52; ((with_reducible refine (HH1.out _).mono ?_); rintro e w2 ⟨rfl, rfl⟩))
                  | (go_at_call 53; refine (HIn.out _).mono ?_; rintro e w2 ⟨rfl, rfl⟩))
                go_ret2
                rw [HN.out]
                exact ⟨rfl, HBel.out⟩
            | true =>
              rw [hbx] at hu1
              simp only [hu1] at hhx
              obtain ⟨_, hm⟩ := hd1 hbx
              have hkx := hk1 hbx
              obtain ⟨m, hme⟩ : ∃ m, m = hexN x := ⟨_, rfl⟩
              simp only [← hme, if_true] at hhx
              rw [← hme] at hm
              have HH1 := Lib.hid hhx
              have m0 : decide ((0 : Int) ≤ (m : Int)) = true := by simp
              cases hby : hexB y with
              | false =>
                rw [hby] at hu2
                simp only [hu2] at hhy
                have HH2 := Lib.hid hhy
                have HN := Lib.hid (hnone (by rw [behD_hex (by omega), hbx, hby]; rfl))
                have hin1 := hin
                simp only [decide_eq_false (show ¬ 2 ≤ kindC x from by omega)] at hin1
                have HIn := Lib.hid hin1
                clear hnone hmore hin hin1 hhx hhy hd1 hd2 hu1 hu2 hk1 hkx hme hbx hby
                go_wp2_with (first
                  | (go_at_call 52; ((with_reducible refine (HH1.out _).mono ?_); rintro e w2 ⟨rfl, rfl⟩))
                  | (go_at_call 52; ((with_reducible refine (HH2.out _).mono ?_); rintro e w2 ⟨rfl, rfl⟩))
                  | (go_at_call 53; refine (HIn.out _).mono ?_; rintro e w2 ⟨rfl, rfl⟩))
                go_ret2
                rw [HN.out]
                exact ⟨rfl, HBel.out⟩
              | true =>
                rw [hby] at hu2
                simp only [hu2] at hhy
                obtain ⟨_, hk⟩ := hd2 hby
                obtain ⟨k, hke⟩ : ∃ k, k = hexN y := ⟨_, rfl⟩
                simp only [← hke, if_true] at hhy
                rw [← hke] at hk
                have HH2 := Lib.hid hhy
                have k0 : decide ((0 : Int) ≤ (k : Int)) = true := by simp
                have HNew := Lib.hid (hmore (UInt8.ofNat (m * 16 + k)) 3 (by rw [behD_hex (by omega), if_pos ⟨hbx, hby⟩, hme, hke]) (by omega))
                have hz : ((UInt8.ofNat (m * 16 + k)).toNat : Int) = (m : Int) * 16 + (k : Int) := by simp; omega
                have e1 : IntKind.i64.wrap ((m : Int) * 16) = (m : Int) * 16 := IntWalk.i64_in _ (by omega)
                have e2 : IntKind.i64.wrap ((m : Int) * 16 + (k : Int)) = (m : Int) * 16 + (k : Int) := IntWalk.i64_in _ (by omega)
                have e3 : IntKind.u8.wrap ((m : Int) * 16 + (k : Int)) = (m : Int) * 16 + (k : Int) := IntWalk.u8_in _ (by omega)
                have e4 : IntKind.i64.wrap ((j : Int) + 1) = (j : Int) + 1 := IntWalk.i64_in _ (by omega)
                have e5 : IntKind.i64.wrap ((j : Int) + 2) = (j : Int) + 2 := IntWalk.i64_in _ (by omega)
                have n1 : (0 : Int) ≤ (j : Int) + 1 := by omega
                have n2 : (0 : Int) ≤ (j : Int) + 2 := by omega
                have n3 : ((j : Int) + 1).toNat = j + 1 := by omega
                have n4 : ((j : Int) + 2).toNat = j + 2 := by omega
                obtain ⟨z, hze⟩ : ∃ z, z = UInt8.ofNat (m * 16 + k) := ⟨_, rfl⟩
                rw [← hze] at HNew hz
                have HZ := Lib.hid hz
                have hdr : Below wr.heap.size wr wr.drew := ⟨rfl, rfl, rfl, Nat.le_refl _, fun _ _ => rfl⟩
                have HDr := Lib.hid hdr
                have HO2 := Lib.hid (own_below HO.out hdr)
                clear hnone hmore hin hhx hhy hd1 hd2 hu1 hu2 hk1 hkx hme hke hbx hby hze hz hdr
                go_wp2_with (first
                  | (go_at_call 52; ((with_reducible refine (HH1.out _).mono ?_); rintro e w2 ⟨rfl, rfl⟩))
                  | (go_at_call 52; ((with_reducible refine (HH2.out _).mono ?_); rintro e w2 ⟨rfl, rfl⟩)))
                go_region_law (first
                  | (go_simp; go_at_call 52; ((with_reducible refine (HH1.out _).mono ?_); rintro e w2 ⟨rfl, rfl⟩))
                  | (go_simp; go_at_call 52; ((with_reducible refine (HH2.out _).mono ?_); rintro e w2 ⟨rfl, rfl⟩))
                  | (refine step_append_one rfl (.tmp 39) (.tmp 53) rfl w.heap.size (.slice a L.length cp) L rfl ((m : Int) * 16 + (k : Int)) z HZ.out HO2.out rfl (by omega) hbs ?_; intro v5 w5 hown5 hb5; have HO5 := Lib.hid hown5; have HB5 := Lib.hid hb5; clear hown5 hb5))
                all_goals
                  go_wp2
                  go_roundw
                  case rel => exact ⟨j + 3, L ++ [z], by first | rfl | (congr 1), by simp; omega, by omega, HO5.out, (HBel.out.trans (HDr.out.mono hbs)).trans HB5.out, HNew.out⟩
                  case measure => simp [intOf]; omega
          · have t4 : decide ((j : Int) + 2 < (s.size : Int)) = false := by simp; omega
            have hl2 : s.data.toList.drop (j + 1 + 1) = [] := List.drop_of_length_le (by simp; omega)
            rw [hl2] at hnone hmore
            clear hl2
            clear hhx hk1 hd1 hu1
            by_cases hk : 2 ≤ kindC x
            · have HNew := Lib.hid (hmore x 2 (behD_free hk) (by omega))
              have hin1 := hin
              simp only [decide_eq_true hk] at hin1
              have HIn := Lib.hid hin1
              clear hnone hmore hin hin1 hk
              go_wp2_with (first
                | (go_at_call 53; refine (HIn.out _).mono ?_; rintro e w2 ⟨rfl, rfl⟩)
                | (at_builtin; refine wpList_append_one rfl (.tmp 70) (.tmp 75) rfl w.heap.size i0 hi hz0 hz1 hz2 (.slice a L.length cp) L rfl (x.toNat : Int) x rfl HO.out rfl (by omega) hbs ?_; intro v3 w3 hown3 hb3; have HO3 := Lib.hid hown3; have HB3 := Lib.hid hb3; clear hown3 hb3))
              go_roundw
              case rel => exact ⟨j + 2, L ++ [x], by first | rfl | (congr 1), by simp; omega, by omega, HO3.out, HBel.out.trans HB3.out, HNew.out⟩
              case measure => simp [intOf]; omega
            · have HN := Lib.hid (hnone (by rw [behD_nil hk]))
              have hin1 := hin
              simp only [decide_eq_false hk] at hin1
              have HIn := Lib.hid hin1
              clear hnone hmore hin hin1 hk
              go_wp2_with (first
                | (go_at_call 53; refine (HIn.out _).mono ?_; rintro e w2 ⟨rfl, rfl⟩))
              go_ret2
              rw [HN.out]
              exact ⟨rfl, HBel.out⟩
        · have t3 : decide ((s.size : Int) ≤ (j : Int) + 1) = true := by simp; omega
          have t4 : decide ((j : Int) + 2 < (s.size : Int)) = false := by simp; omega
          have hl1 : s.data.toList.drop (j + 1) = [] := List.drop_of_length_le (by simp; omega)
          rw [hl1] at hnone
          have HN := Lib.hid (hnone rfl)
          clear hnone hmore hlist hl1
          go_wp2
          go_ret2
          rw [HN.out]
          exact ⟨rfl, HBel.out⟩
      · have t2 : ((c.toNat : Int) == 92) = false := by simp; omega
        rw [hlist] at hnone hmore
        by_cases h0 : c.toNat < 32 ∨ 126 < c.toNat
        · have HN := Lib.hid (hnone (by rw [oneD_no h92 (.inl ((kind_zero c).2 h0))]))
          clear hnone hmore hc hlist
          by_cases h1 : c.toNat < 32
          · have t3 : decide ((c.toNat : Int) < 32) = true := by simp; omega
            go_wp2
            go_ret2
            rw [HN.out]
            exact ⟨rfl, HBel.out⟩
          · have t3 : decide ((c.toNat : Int) < 32) = false := by simp; omega
            have t4 : decide ((126 : Int) < (c.toNat : Int)) = true := by simp; omega
            go_wp2
            go_ret2
            rw [HN.out]
            exact ⟨rfl, HBel.out⟩
        have hk : kindC c ≠ 0 := fun e => h0 ((kind_zero c).1 e)
        have t3 : decide ((c.toNat : Int) < 32) = false := by simp; omega
        have t4 : decide ((126 : Int) < (c.toNat : Int)) = false := by simp; omega
        have hin := fun w => inRef_any ⟨#[44, 43, 34, 60, 62, 59]⟩ c w (by decide)
        have h67 : (⟨#[44, 43, 34, 60, 62, 59]⟩ : ByteArray).data.toList.contains c = ([44, 43, 34, 92, 60, 62, 59] : List UInt8).contains c := six_seven c h92
        obtain ⟨M, hM⟩ : ∃ M, M = ([44, 43, 34, 92, 60, 62, 59] : List UInt8).contains c := ⟨_, rfl⟩
        rw [← hM] at h67
        simp only [h67] at hin
        have HIn := Lib.hid hin
        have hnr := need_ref c (decide (j = 0)) (s.data.toList.drop (j + 1)).isEmpty hk
        rw [← hM, drop_empty] at hnr
        rw [← drop_empty] at hnr
        have hde := drop_empty s j
        clear hin h67 hM h0
        cases M with
        | true =>
          have HN := Lib.hid (hnone (by rw [oneD_no h92 (.inr (by rw [hnr]; simp))]))
          clear hnone hmore hnr hc hlist
          go_wp2_with (go_at_call 53; refine (HIn.out _).mono ?_; rintro e w2 ⟨rfl, rfl⟩)
          go_ret2
          rw [HN.out]
          exact ⟨rfl, HBel.out⟩
        | false =>
          by_cases hj0 : j = 0
          · have f0 : ((j : Int) == 0) = true := by simp [hj0]
            have f0d : decide (j = 0) = true := by simp [hj0]
            have HJ := Lib.hid hj0
            clear hj0
            by_cases h35 : c.toNat = 35
            · have e35 : ((c.toNat : Int) == 35) = true := by simp [h35]
              have d35 : decide (c.toNat = 35) = true := by simp [h35]
              have H35 := Lib.hid h35
              clear h35
              have HN := Lib.hid (hnone (by rw [oneD_no h92 (.inr (by rw [hnr]; rw [f0d, d35]; simp))]))
              clear hnone hmore hnr hc hlist d35 f0d hde
              go_wp2_with (go_at_call 53; refine (HIn.out _).mono ?_; rintro e w2 ⟨rfl, rfl⟩)
              go_ret2
              rw [HN.out]
              exact ⟨rfl, HBel.out⟩
            · have e35 : ((c.toNat : Int) == 35) = false := by simp; omega
              have d35 : decide (c.toNat = 35) = false := by simp; omega
              by_cases h32 : c.toNat = 32
              · have e32 : ((c.toNat : Int) == 32) = true := by simp [h32]
                have d32 : decide (c.toNat = 32) = true := by simp [h32]
                have H32 := Lib.hid h32
                clear h32
                have HN := Lib.hid (hnone (by rw [oneD_no h92 (.inr (by rw [hnr]; rw [f0d, d32]; simp))]))
                clear hnone hmore hnr hc hlist d35 d32 f0d hde
                go_wp2_with (go_at_call 53; refine (HIn.out _).mono ?_; rintro e w2 ⟨rfl, rfl⟩)
                go_ret2
                rw [HN.out]
                exact ⟨rfl, HBel.out⟩
              · have e32 : ((c.toNat : Int) == 32) = false := by simp; omega
                have d32 : decide (c.toNat = 32) = false := by simp; omega
                by_cases hL : j + 1 = s.size
                · have f1 : ((j : Int) == (s.size : Int) - 1) = true := by simp; omega
                  have HNew := Lib.hid (hmore c 1 (oneD_plain h92 (by rintro (h | h); exact hk h; rw [hnr] at h; revert h; rw [d35, d32]; simp)) (by omega))
                  clear hnone hmore hnr hc hlist d35 d32 f0d hde hL
                  go_wp2_with (first
                    | (go_at_call 53; refine (HIn.out _).mono ?_; rintro e w2 ⟨rfl, rfl⟩)
                    | (at_builtin; refine wpList_append_one rfl (.tmp 112) (.tmp 114) rfl w.heap.size i0 hi hz0 hz1 hz2 (.slice a L.length cp) L rfl (c.toNat : Int) c rfl HO.out rfl (by omega) hbs ?_; intro v3 w3 hown3 hb3; have HO3 := Lib.hid hown3; have HB3 := Lib.hid hb3; clear hown3 hb3))
                  go_roundw
                  case rel => exact ⟨j + 1, L ++ [c], by go_num, by simp; omega, by omega, HO3.out, HBel.out.trans HB3.out, HNew.out⟩
                  case measure => simp [intOf]; omega
                · have f1 : ((j : Int) == (s.size : Int) - 1) = false := by simp; omega
                  have HNew := Lib.hid (hmore c 1 (oneD_plain h92 (by rintro (h | h); exact hk h; rw [hnr] at h; revert h; rw [d35, d32]; simp)) (by omega))
                  clear hnone hmore hnr hc hlist d35 d32 f0d hde
                  go_wp2_with (first
                    | (go_at_call 53; refine (HIn.out _).mono ?_; rintro e w2 ⟨rfl, rfl⟩)
                    | (at_builtin; refine wpList_append_one rfl (.tmp 112) (.tmp 114) rfl w.heap.size i0 hi hz0 hz1 hz2 (.slice a L.length cp) L rfl (c.toNat : Int) c rfl HO.out rfl (by omega) hbs ?_; intro v3 w3 hown3 hb3; have HO3 := Lib.hid hown3; have HB3 := Lib.hid hb3; clear hown3 hb3))
                  go_roundw
                  case rel => exact ⟨j + 1, L ++ [c], by go_num, by simp; omega, by omega, HO3.out, HBel.out.trans HB3.out, HNew.out⟩
                  case measure => simp [intOf]; omega
          · have f0 : ((j : Int) == 0) = false := by simp; omega
            have f0d : decide (j = 0) = false := by simpa using hj0
            by_cases hL : j + 1 = s.size
            · have f1 : ((j : Int) == (s.size : Int) - 1) = true := by simp; omega
              have f1d : decide (s.size ≤ j + 1) = true := by simp; omega
              have HL := Lib.hid hL
              clear hL
              by_cases h32 : c.toNat = 32
              · have e32 : ((c.toNat : Int) == 32) = true := by simp [h32]
                have d32 : decide (c.toNat = 32) = true := by simp [h32]
                have H32 := Lib.hid h32
                clear h32
                have HN := Lib.hid (hnone (by rw [oneD_no h92 (.inr (by rw [hnr]; rw [hde, f1d, d32]; simp))]))
                clear hnone hmore hnr hc hlist d32 f0d f1d hde
                go_wp2_with (go_at_call 53; refine (HIn.out _).mono ?_; rintro e w2 ⟨rfl, rfl⟩)
                go_ret2
                rw [HN.out]
                exact ⟨rfl, HBel.out⟩
              · have e32 : ((c.toNat : Int) == 32) = false := by simp; omega
                have d32 : decide (c.toNat = 32) = false := by simp; omega
                have HNew := Lib.hid (hmore c 1 (oneD_plain h92 (by rintro (h | h); exact hk h; rw [hnr] at h; revert h; rw [f0d, d32]; simp)) (by omega))
                clear hnone hmore hnr hc hlist d32 f0d f1d hde
                go_wp2_with (first
                  | (go_at_call 53; refine (HIn.out _).mono ?_; rintro e w2 ⟨rfl, rfl⟩)
                  | (at_builtin; refine wpList_append_one rfl (.tmp 112) (.tmp 114) rfl w.heap.size i0 hi hz0 hz1 hz2 (.slice a L.length cp) L rfl (c.toNat : Int) c rfl HO.out rfl (by omega) hbs ?_; intro v3 w3 hown3 hb3; have HO3 := Lib.hid hown3; have HB3 := Lib.hid hb3; clear hown3 hb3))
                go_roundw
                case rel => exact ⟨j + 1, L ++ [c], by go_num, by simp; omega, by omega, HO3.out, HBel.out.trans HB3.out, HNew.out⟩
                case measure => simp [intOf]; omega
            · have f1 : ((j : Int) == (s.size : Int) - 1) = false := by simp; omega
              have f1d : decide (s.size ≤ j + 1) = false := by simp; omega
              have HNew := Lib.hid (hmore c 1 (oneD_plain h92 (by rintro (h | h); exact hk h; rw [hnr] at h; revert h; rw [f0d, hde, f1d]; simp)) (by omega))
              clear hnone hmore hnr hc hlist f0d f1d hde
              go_wp2_with (first
                | (go_at_call 53; refine (HIn.out _).mono ?_; rintro e w2 ⟨rfl, rfl⟩)
                | (at_builtin; refine wpList_append_one rfl (.tmp 112) (.tmp 114) rfl w.heap.size i0 hi hz0 hz1 hz2 (.slice a L.length cp) L rfl (c.toNat : Int) c rfl HO.out rfl (by omega) hbs ?_; intro v3 w3 hown3 hb3; have HO3 := Lib.hid hown3; have HB3 := Lib.hid hb3; clear hown3 hb3))
              go_roundw
              case rel => exact ⟨j + 1, L ++ [c], by go_num, by simp; omega, by omega, HO3.out, HBel.out.trans HB3.out, HNew.out⟩
              case measure => simp [intOf]; omega
    · have t1 : decide ((j : Int) < (s.size : Int)) = false := by simp; omega
      rw [List.drop_of_length_le (by simp; omega), valF_nil] at hres
      simp only [Option.map_some, List.append_nil] at hres
      have hcv := conv_own hown
      have HRes := Lib.hid hres
      clear hown hres hbel
      go_wp2
      go_ret2
      rw [HRes.out]
      exact ⟨rfl, HBel.out⟩
end Go.Proofs.YtpnbcmblnplbgaaGreatDoor
