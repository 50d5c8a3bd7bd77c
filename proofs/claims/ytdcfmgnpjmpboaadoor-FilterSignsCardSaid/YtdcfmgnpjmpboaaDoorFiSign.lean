/- brooklaw6.FilterSigns: the walk. -/
import Derived.Test.YtdcfmgnpjmpboaaDoorFiAwake
import Derived.Test.YtdcfmgnpjmpboaaDoorFiSigP
namespace Go.Proofs.YtdcfmgnpjmpboaaDoor
open Go.RowKit
set_option linter.unusedVariables false
set_option linter.unusedSimpArgs false

theorem sign_ascii {l : List UInt8} (h : l.all signC = true) : ascii l := by
  intro c hc
  have := List.all_eq_true.1 h c hc
  unfold signC at this
  simp only [Bool.and_eq_true, decide_eq_true_eq] at this
  omega
theorem sign_start (w : World) (s U t : ByteArray) (W3 : World) (h : W3 = ((w.alloc (.cells #[.int .i64 4, .string ⟨#[99, 110]⟩, .string s, .slice none 0 0, .slice none 0 0] 25)).alloc (.cells #[.string U, .string t] 9)).alloc (.cells #[.int .i64 5, .string ⟨#[99, 110]⟩, .string ⟨#[]⟩, .slice (some ⟨w.heap.size + 1, 0, none⟩) 2 2, .slice none 0 0] 25)) :
    Below w.heap.size w W3 ∧ FlAt W3 w.heap.size (.int .i64 4) (.string ⟨#[99, 110]⟩) (.string s) (.slice none 0 0) (.slice none 0 0) ∧ W3.cell? ⟨w.heap.size + 1, 0, none⟩ = some (.string U) ∧ W3.cell? ⟨w.heap.size + 1, 1, none⟩ = some (.string t) ∧ FlAt W3 (w.heap.size + 2) (.int .i64 5) (.string ⟨#[99, 110]⟩) (.string ⟨#[]⟩) (.slice (some ⟨w.heap.size + 1, 0, none⟩) 2 2) (.slice none 0 0) ∧ W3.heap.size = w.heap.size + 3 := by
  obtain ⟨a, ha⟩ : ∃ a, a = w.alloc (.cells #[.int .i64 4, .string ⟨#[99, 110]⟩, .string s, .slice none 0 0, .slice none 0 0] 25) := ⟨_, rfl⟩
  have za : a.heap.size = w.heap.size + 1 := by rw [ha]; simp
  have xa : FlAt a w.heap.size (.int .i64 4) (.string ⟨#[99, 110]⟩) (.string s) (.slice none 0 0) (.slice none 0 0) := by rw [ha]; exact heap_alloc_new w _
  have ba : Below w.heap.size w a := by rw [ha]; exact box5 w _ _ _ _ _
  rw [← ha] at h
  obtain ⟨b, hb⟩ : ∃ b, b = a.alloc (.cells #[.string U, .string t] 9) := ⟨_, rfl⟩
  have zb : b.heap.size = w.heap.size + 2 := by rw [hb]; simp [za]
  have bb : Below a.heap.size a b := by rw [hb]; exact (Below.refl _ _).alloc (Nat.le_refl _) _
  have xb : b.heap[w.heap.size + 1]? = some (.cells #[.string U, .string t] 9 (0, 0)) := by rw [hb, ← za]; exact heap_alloc_new a _
  rw [← hb] at h
  have zc : W3.heap.size = w.heap.size + 3 := by rw [h]; simp [zb]
  have bc : Below b.heap.size b W3 := by rw [h]; exact box5 b _ _ _ _ _
  have xc : FlAt W3 (w.heap.size + 2) (.int .i64 5) (.string ⟨#[99, 110]⟩) (.string ⟨#[]⟩) (.slice (some ⟨w.heap.size + 1, 0, none⟩) 2 2) (.slice none 0 0) := by rw [h, ← zb]; exact heap_alloc_new b _
  have xb3 := (bc.block (w.heap.size + 1) (by omega)).trans xb
  refine ⟨bthen (bthen ba bb) bc, fl_below (fl_below xa bb (by omega)) bc (by omega), ?_, ?_, xc, zc⟩
  · simp [World.cell?, xb3]
  · simp [World.cell?, xb3]

theorem flF_shape {ok : Nat → Prop} {w : World} {s : List UInt8} {x : Value} (h : IsFl ok w (sgF s) x) : ∃ pa pc ka kc, x = .agg #[.int .i64 4, .string ⟨#[99, 110]⟩, strV s, .slice pa 0 pc, .slice ka 0 kc] := by
  obtain ⟨pa, pc, ka, kc, e, _⟩ := IsFl.parts (k := 4) (t := [99, 110]) (x := s) (p := []) (l := []) h
  exact ⟨pa, pc, ka, kc, e⟩
theorem flG_shape {ok : Nat → Prop} {w : World} {s t : List UInt8} {x : Value} (h : IsFl ok w (sgG s t) x) : ∃ b off pc ka kc, x = .agg #[.int .i64 5, .string ⟨#[99, 110]⟩, .string ⟨#[]⟩, .slice (some ⟨b, off, none⟩) 2 pc, .slice ka 0 kc] ∧ ok b ∧ w.cell? ⟨b, off, none⟩ = some (strV (s ++ [120])) ∧ w.cell? ⟨b, off + 1, none⟩ = some (strV t) := by
  obtain ⟨pa, pc, ka, kc, e, _, _, _, hp, _⟩ := IsFl.parts (k := 5) (t := [99, 110]) (x := []) (p := [s ++ [120], t]) (l := []) h
  obtain ⟨a, c, hv, _, hc⟩ := hp
  obtain ⟨rfl, _, rfl⟩ := Value.slice.inj hv
  obtain ⟨b, off, rfl, hb, h0⟩ := hc 0 (by simp)
  obtain ⟨b', off', h1, _, h2⟩ := hc 1 (by simp)
  obtain ⟨rfl, rfl, _⟩ := Addr.mk.inj (Option.some.inj h1)
  exact ⟨b, off, pc, ka, kc, e, hb, h0, h2⟩

set_option maxRecDepth 100000 in
set_option maxHeartbeats 8000000 in
theorem signsFl_any (s t : ByteArray) (hs : s.size ≤ 9223372036854775807) (ht : t.size ≤ 9223372036854775807) (w : World) : Calls Tryd.prog 7 #[.string s, .string t] w fun e w' => e = .returned (.bool true) ∧ Below w.heap.size w w' := by
  have HAw := Lib.hid (fun W => awakeFl_any W)
  by_cases h1 : 90 < s.size
  · have t1 : decide ((90 : Int) < (s.size : Int)) = true := by simp; omega
    go_enter Tryd.func7, Tryd.ntmps7
    go_wp2_with (go_at_call 9; refine (HAw.out _).mono ?_; rintro e w4 ⟨rfl, hb4⟩; have HB4 := Lib.hid hb4; clear hb4)
    go_ret
    exact ⟨rfl, HB4.out⟩
  · have t1 : decide ((90 : Int) < (s.size : Int)) = false := by simp; omega
    by_cases h2 : 90 < t.size
    · have t2 : decide ((90 : Int) < (t.size : Int)) = true := by simp; omega
      go_enter Tryd.func7, Tryd.ntmps7
      go_wp2_with (go_at_call 9; refine (HAw.out _).mono ?_; rintro e w4 ⟨rfl, hb4⟩; have HB4 := Lib.hid hb4; clear hb4)
      go_ret
      exact ⟨rfl, HB4.out⟩
    · have t2 : decide ((90 : Int) < (t.size : Int)) = false := by simp; omega
      have hs1 : s.size + 1 ≤ 9223372036854775807 := by omega
      obtain ⟨U, hU⟩ : ∃ U, U = s ++ ⟨#[120]⟩ := ⟨_, rfl⟩
      have hU' := hU.symm
      have HU := Lib.hid hU
      clear hU
      go_enter Tryd.func7, Tryd.ntmps7
      go_upto_region 5 with (fail)
      obtain ⟨W3, hW3⟩ : ∃ W, W = ((w.alloc (.cells #[.int .i64 4, .string ⟨#[99, 110]⟩, .string s, .slice none 0 0, .slice none 0 0] 25)).alloc (.cells #[.string U, .string t] 9)).alloc (.cells #[.int .i64 5, .string ⟨#[99, 110]⟩, .string ⟨#[]⟩, .slice (some ⟨w.heap.size + 1, 0, none⟩) 2 2, .slice none 0 0] 25) := ⟨_, rfl⟩
      rw [← hW3]
      obtain ⟨hb3, hxF, hc0, hc1, hxG, hz3⟩ := sign_start w s U t W3 hW3
      have hUl : U.data.toList = s.data.toList ++ [120] := by rw [HU.out, app_list]
      have hsl : s.data.toList.length ≤ 90 := by rw [bytes_len]; omega
      have htl : t.data.toList.length ≤ 90 := by rw [bytes_len]; omega
      have hIF : IsFl (Lt W3) W3 (sgF s.data.toList) (.agg #[.int .i64 4, .string ⟨#[99, 110]⟩, .string s, .slice none 0 0, .slice none 0 0]) := by
        have := mkFl (ok := Lt W3) (w := W3) (k := 4) (t := [99, 110]) (x := s.data.toList) (p := []) (u := .slice none 0 0) (by decide) (by decide) (by unfold maxLen; omega) ⟨none, 0, rfl, Nat.zero_le _, fun j h => absurd h (Nat.not_lt_zero _)⟩
        rwa [strV_whole] at this
      have hIG : IsFl (Lt W3) W3 (sgG s.data.toList t.data.toList) (.agg #[.int .i64 5, .string ⟨#[99, 110]⟩, .string ⟨#[]⟩, .slice (some ⟨w.heap.size + 1, 0, none⟩) 2 2, .slice none 0 0]) := by
        refine mkFl (ok := Lt W3) (w := W3) (k := 5) (t := [99, 110]) (x := []) (p := [s.data.toList ++ [120], t.data.toList]) (u := .slice (some ⟨w.heap.size + 1, 0, none⟩) 2 2) (by decide) (by decide) (by decide) ⟨_, 2, rfl, by show 2 ≤ maxLen; decide, fun j h => ⟨w.heap.size + 1, 0, rfl, by show _ < _; omega, ?_⟩⟩
        rw [← hUl, Nat.zero_add]
        match j, h with
        | 0, _ => exact hc0.trans (by rw [show strV [U.data.toList, t.data.toList][0] = .string U from strV_whole U])
        | 1, _ => exact hc1.trans (by rw [show strV [U.data.toList, t.data.toList][1] = .string t from strV_whole t])
      have hmF := sgF_may hsl
      have hmG := sgG_may hsl htl
      have htF : textTop (sgF s.data.toList) = 40 :: 99 :: 110 :: 61 :: (quo s.data.toList ++ [41]) := by unfold textTop; rw [if_pos hmF, sgF_text]
      have htG : textTop (sgG s.data.toList t.data.toList) = 40 :: (inB s.data.toList t.data.toList ++ [41]) := by unfold textTop; rw [if_pos hmG, sgG_text]
      have hlF : (textF (sgF s.data.toList)).length ≤ 600 ∧ 5 ≤ (textF (sgF s.data.toList)).length := by
        rw [sgF_text]
        have := quo_len3 s.data.toList
        simp; omega
      have hlG := sgG_len s.data.toList t.data.toList hsl htl
      have hxF1 := textTop_any _ _ W3 hIF (fun _ => by omega)
      have hxG1 := fun W (hW : Below W3.heap.size W3 W) => textTop_any _ _ W (IsFl.below hIG hW) (fun _ => by rw [sgG_text]; omega)
      rw [htF] at hxF1
      rw [htG] at hxG1
      have hpF := parse_textF hmF
      have hpG := parse_textF hmG
      rw [sgF_text] at hpF hlF
      rw [sgG_text] at hpG
      have haF : ascii (40 :: 99 :: 110 :: 61 :: (quo s.data.toList ++ [41])) := by
        intro c hc
        simp only [List.mem_cons, List.mem_append, List.not_mem_nil, or_false] at hc
        rcases hc with rfl | rfl | rfl | rfl | hc | rfl
        · decide
        · decide
        · decide
        · decide
        · exact sign_ascii (quo_sign _) c hc
        · decide
      have haG : ascii (40 :: (inB s.data.toList t.data.toList ++ [41])) := by
        intro c hc
        simp only [List.mem_cons, List.mem_append, List.not_mem_nil, or_false] at hc
        rcases hc with rfl | hc | rfl
        · decide
        · exact sign_ascii (inB_sign _ _) c hc
        · decide
      have hat := sgG_at s.data.toList t.data.toList
      have hst := sgG_stars s.data.toList t.data.toList
      obtain ⟨X, hX⟩ : ∃ X, X = ofL (40 :: 99 :: 110 :: 61 :: (quo s.data.toList ++ [41])) := ⟨_, rfl⟩
      obtain ⟨Y, hY⟩ : ∃ Y, Y = ofL (40 :: (inB s.data.toList t.data.toList ++ [41])) := ⟨_, rfl⟩
      have hXl : X.data.toList = 40 :: 99 :: 110 :: 61 :: (quo s.data.toList ++ [41]) := by rw [hX, ofL_list]
      have hYl : Y.data.toList = 40 :: (inB s.data.toList t.data.toList ++ [41]) := by rw [hY, ofL_list]
      rw [← hX] at hxF1
      rw [← hY] at hxG1
      rw [← hXl] at hpF haF hlF
      rw [← hYl] at hpG haG hat hst hlG
      rw [bytes_len] at hlF hlG
      have hPX := fun W => parseFl_any X (by omega) haF W
      have hPY := fun W => parseFl_any Y (by omega) haG W
      rw [hpF] at hPX
      rw [hpG] at hPY
      have HPX := Lib.hid hPX
      have HPY := Lib.hid hPY
      have HTF := Lib.hid hxF1
      have HTG := Lib.hid hxG1
      have HB3 := Lib.hid hb3
      have HXF := Lib.hid hxF
      have HXG := Lib.hid hxG
      have HUl := Lib.hid hUl
      have HZ3 := Lib.hid hz3
      have HAt := Lib.hid hat
      have HSt := Lib.hid hst
      obtain ⟨hX600, hX5⟩ := hlF
      obtain ⟨hY600, hY6⟩ := hlG
      have t3 : decide ((X.size : Int) < 5) = false := by simp; omega
      have t4 : decide ((Y.size : Int) < 6) = false := by simp; omega
      obtain ⟨a0, a1, a2, a3, a4⟩ := fl_cells hxF
      clear hW3 hb3 hxF hc0 hc1 hxG hz3 hUl hsl htl hIF hIG hmF hmG htF htG hxF1 hxG1 hpF hpG haF haG hat hst hX hY hXl hYl hPX hPY
      go_upto_region 6 with (go_at_call 14; refine (HTF.out).mono ?_; rintro e w5 ⟨rfl, hb5⟩; have HB5 := Lib.hid hb5; have hx5 := fl_below HXG.out hb5 (fl_lt HXG.out); (obtain ⟨c0, c1, c2, c3, c4⟩ := fl_cells hx5); clear hb5 hx5)
      go_upto_region 9 with (go_at_call 14; refine (HTG.out _ HB5.out).mono ?_; rintro e w6 ⟨rfl, hb6⟩; have HB6 := Lib.hid (bthen HB5.out hb6); clear hb6)
      go_wp2
      go_loopw [9, 10] (fun st i wr => ∃ j : Nat, j ≤ Y.size ∧ i = .int .i64 j ∧ st = .int .i64 ((Y.data.toList.take j).count 42 : Nat) ∧ Hid (w6 = wr)) (fun _ i _ => Y.size - (intOf i).toNat)
      case atStart => exact ⟨0, by omega, rfl, rfl, Lib.hid rfl⟩
      case round =>
        obtain ⟨j, hj, rfl, rfl, hwr⟩ := hrel
        have hwr := hwr.out
        subst hwr
        have hcn : (Y.data.toList.take j).count 42 ≤ 600 := Nat.le_trans List.count_le_length (by simp; omega)
        by_cases hlt : j < Y.size
        · have t5 : decide ((j : Int) < (Y.size : Int)) = true := by simp; omega
          have hjl : j < Y.data.toList.length := by simpa using hlt
          obtain ⟨q1, q2, q3⟩ := HAt.out j hjl
          have hcs := count_step hjl
          obtain ⟨n, hn⟩ : ∃ n, n = (Y.data.toList.take j).count 42 := ⟨_, rfl⟩
          rw [← hn] at hcs hcn ⊢
          obtain ⟨c, hc⟩ : ∃ c : UInt8, c = Y[j] := ⟨_, rfl⟩
          have hc' : Y[j]'hlt = c := hc.symm
          have hcy : Y.data.toList[j] = c := by rw [hc]; rfl
          rw [hcy] at q1 q2 q3 hcs
          have t6 : decide ((c.toNat : Int) < 32) = false := by simp; omega
          have t7 : decide ((126 : Int) < (c.toNat : Int)) = false := by simp; omega
          have HQ3 : Hid (0 < j → j + 1 < Y.size → c.toNat ≠ 40 ∧ c.toNat ≠ 41) := Lib.hid (fun h1 h2 => q3 h1 (by rw [bytes_len]; exact h2))
          have hcl := c.toNat_lt
          clear q1 q2 q3 hcy hc hn hjl
          by_cases h0 : 0 < j
          · have t8 : decide ((0 : Int) < (j : Int)) = true := by simp; omega
            have t8' : decide (0 < j) = true := by simp; omega
            by_cases hl : j + 1 < Y.size
            · have t9 : decide ((j : Int) < (Y.size : Int) - 1) = true := by simp; omega
              obtain ⟨q4, q5⟩ := HQ3.out h0 hl
              have t10 : ((c.toNat : Int) == 40) = false := by simp; omega
              have t11 : ((c.toNat : Int) == 41) = false := by simp; omega
              clear q4 q5
              by_cases h42 : c.toNat = 42
              · have t12 : ((c.toNat : Int) == 42) = true := by simp [h42]
                rw [if_pos h42] at hcs
                have HC := Lib.hid hcs
                clear hcs h42 HQ3
                go_wp2
                go_roundw
                case rel => exact ⟨j + 1, by omega, by go_num, by rw [HC.out]; go_num, Lib.hid (by trivial)⟩
                case measure => simp [intOf]; omega
              · have t12 : ((c.toNat : Int) == 42) = false := by simp; omega
                rw [if_neg h42, Nat.add_zero] at hcs
                have HC := Lib.hid hcs
                clear hcs h42 HQ3
                go_wp2
                go_roundw
                case rel => exact ⟨j + 1, by omega, by go_num, by rw [HC.out]; go_num, Lib.hid (by trivial)⟩
                case measure => simp [intOf]; omega
            · have t9 : decide ((j : Int) < (Y.size : Int) - 1) = false := by simp; omega
              by_cases h42 : c.toNat = 42
              · have t12 : ((c.toNat : Int) == 42) = true := by simp [h42]
                rw [if_pos h42] at hcs
                have HC := Lib.hid hcs
                clear hcs h42 HQ3
                go_wp2
                go_roundw
                case rel => exact ⟨j + 1, by omega, by go_num, by rw [HC.out]; go_num, Lib.hid (by trivial)⟩
                case measure => simp [intOf]; omega
              · have t12 : ((c.toNat : Int) == 42) = false := by simp; omega
                rw [if_neg h42, Nat.add_zero] at hcs
                have HC := Lib.hid hcs
                clear hcs h42 HQ3
                go_wp2
                go_roundw
                case rel => exact ⟨j + 1, by omega, by go_num, by rw [HC.out]; go_num, Lib.hid (by trivial)⟩
                case measure => simp [intOf]; omega
          · have t8 : decide ((0 : Int) < (j : Int)) = false := by simp; omega
            have t8' : decide (0 < j) = false := by simp; omega
            by_cases h42 : c.toNat = 42
            · have t12 : ((c.toNat : Int) == 42) = true := by simp [h42]
              rw [if_pos h42] at hcs
              have HC := Lib.hid hcs
              clear hcs h42 HQ3
              go_wp2
              go_roundw
              case rel => exact ⟨j + 1, by omega, by go_num, by rw [HC.out]; go_num, Lib.hid (by trivial)⟩
              case measure => simp [intOf]; omega
            · have t12 : ((c.toNat : Int) == 42) = false := by simp; omega
              rw [if_neg h42, Nat.add_zero] at hcs
              have HC := Lib.hid hcs
              clear hcs h42 HQ3
              go_wp2
              go_roundw
              case rel => exact ⟨j + 1, by omega, by go_num, by rw [HC.out]; go_num, Lib.hid (by trivial)⟩
              case measure => simp [intOf]; omega
        · obtain rfl : j = Y.size := by omega
          have t5 : decide ((Y.size : Int) < (Y.size : Int)) = false := by simp
          rw [List.take_of_length_le (by simp), HSt.out]
          clear hcn
          have HUe : Hid (∀ V : ByteArray, strV (s.data.toList ++ [120]) = .string V → V = U) := Lib.hid (fun V h => by
            rw [← HUl.out, strV_whole] at h
            exact (Value.string.inj h).symm)
          have t13 : (((1 : Nat) : Int) == 1) = true := by rfl
          go_upto_region 18 with (go_at_call 10; refine (HPX.out _).mono ?_; rintro e w7 ⟨x, b, rfl, ⟨hfl, rfl⟩, hb7⟩; (obtain ⟨pa, pc, ka, kc, hx⟩ := flF_shape hfl); rw [strV_whole] at hx; subst hx; have HB7 := Lib.hid hb7; clear hb7 hfl)
          obtain ⟨W7, hW7⟩ : ∃ W, W = w7.alloc (.cells #[.int .i64 4, .string ⟨#[99, 110]⟩, .string s, .slice pa 0 pc, .slice ka 0 kc] 25) := ⟨_, rfl⟩
          rw [← hW7]
          have h77 : Below w7.heap.size w7 W7 := by rw [hW7]; exact box5 w7 _ _ _ _ _
          have hx7 : FlAt W7 w7.heap.size (.int .i64 4) (.string ⟨#[99, 110]⟩) (.string s) (.slice pa 0 pc) (.slice ka 0 kc) := by rw [hW7]; exact heap_alloc_new w7 _
          have HX7 := Lib.hid hx7
          have H77 := Lib.hid (bthen (bthen HB6.out HB7.out) h77)
          clear hW7 h77 hx7
          go_upto_region 19 with (go_at_call 10; refine (HPY.out _).mono ?_; rintro e w8 ⟨x, b, rfl, ⟨hfl, rfl⟩, hb8⟩; (obtain ⟨gb, go, gc, la, lc, hx, hgb, hg0, hg1⟩ := flG_shape hfl); subst hx; have HB8 := Lib.hid hb8; have HG0 := Lib.hid hg0; have HG1 := Lib.hid hg1; have HGb := Lib.hid hgb; clear hb8 hfl hg0 hg1 hgb)
          obtain ⟨W9, hW9⟩ : ∃ W, W = w8.alloc (.cells #[.int .i64 5, .string ⟨#[99, 110]⟩, .string ⟨#[]⟩, .slice (some ⟨gb, go, none⟩) 2 gc, .slice la 0 lc] 25) := ⟨_, rfl⟩
          rw [← hW9]
          have h99 : Below w8.heap.size w8 W9 := by rw [hW9]; exact box5 w8 _ _ _ _ _
          have hx9 : FlAt W9 w8.heap.size (.int .i64 5) (.string ⟨#[99, 110]⟩) (.string ⟨#[]⟩) (.slice (some ⟨gb, go, none⟩) 2 gc) (.slice la 0 lc) := by rw [hW9]; exact heap_alloc_new w8 _
          have hx8 : FlAt W9 w7.heap.size (.int .i64 4) (.string ⟨#[99, 110]⟩) (.string s) (.slice pa 0 pc) (.slice ka 0 kc) := fl_below HX7.out (bthen HB8.out h99) (fl_lt HX7.out)
          have k0 : W9.cell? ⟨gb, go, none⟩ = some (.string U) := ((h99.cell (p := ⟨gb, go, none⟩) HGb.out.2).trans HG0.out).trans (by rw [← HUl.out, strV_whole])
          have k1 : W9.cell? ⟨gb, go + 1, none⟩ = some (.string t) := ((h99.cell (p := ⟨gb, go + 1, none⟩) HGb.out.2).trans HG1.out).trans (by rw [strV_whole])
          have H99 := Lib.hid (bthen (bthen H77.out HB8.out) h99)
          obtain ⟨m0, m1, m2, m3, m4⟩ := fl_cells hx8
          obtain ⟨n0, n1, n2, n3, n4⟩ := fl_cells hx9
          clear hW9 h99 hx8 hx9
          go_wp2_with (go_at_call 9; refine (HAw.out _).mono ?_; rintro e wz ⟨rfl, hbz⟩; have HBz := Lib.hid hbz; clear hbz)
          go_ret
          exact ⟨rfl, HB3.out.trans ((bthen H99.out HBz.out).mono HB3.out.size)⟩
end Go.Proofs.YtdcfmgnpjmpboaaDoor
