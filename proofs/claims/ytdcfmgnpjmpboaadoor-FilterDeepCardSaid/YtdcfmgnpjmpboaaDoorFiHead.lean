/- filter.head: the walk. -/
import Derived.Test.YtdcfmgnpjmpboaaDoorFiHold
namespace Go.Proofs.YtdcfmgnpjmpboaaDoor
open Go.RowKit
set_option linter.unusedVariables false
set_option linter.unusedSimpArgs false

def sgH : Nat → UInt8
  | 0 => 38
  | 1 => 124
  | _ => 33
def kdH : Nat → Int
  | 0 => 1
  | 1 => 2
  | _ => 3
theorem sgH_kd : ∀ j, j < 3 → signF (kdH j) = [sgH j] := by decide
theorem kdH_wf : ∀ j, j < 3 → (Lit.int .i64 (kdH j)).wf = true := by decide
theorem preFl (x : UInt8) (l : List UInt8) : Lib.hasPrefix l [x] = true ↔ l.head? = some x := by
  cases l with
  | nil => simp [Lib.hasPrefix]
  | cons c r =>
    show ((x == c && List.isPrefixOf [] r) = true) ↔ some c = some x
    rw [Bool.and_eq_true, beq_iff_eq]
    constructor
    · rintro ⟨rfl, _⟩; rfl
    · intro h; cases h; exact ⟨rfl, rfl⟩
theorem preFl_not {x : UInt8} {l : List UInt8} (h : Lib.hasPrefix l [x] = false) : ¬ l.head? = some x := fun e => by rw [(preFl x l).2 e] at h; cases h
theorem headFl_step (d : Nat) (r : List UInt8) : headD (d + 1) (40 :: r) = if r.head? = some 38 then holdD (headD d) 1 (r.drop 1) else if r.head? = some 124 then holdD (headD d) 2 (r.drop 1) else if r.head? = some 33 then holdD (headD d) 3 (r.drop 1)
      else if r.contains 41 then (leafD (r.takeWhile (· ≠ 41))).map fun f => (f, (r.dropWhile (· ≠ 41)).drop 1) else none := rfl
theorem headFl_not {d : Nat} {s : List UInt8} (h : Lib.hasPrefix s [40] = false) : headD (d + 1) s = none := by
  have hn := preFl_not h
  match s, hn with
  | [], _ => rfl
  | c :: r, hn =>
    have hc : c ≠ 40 := fun e => hn (by rw [e]; rfl)
    unfold headD
    split
    · rename_i e
      cases e
      exact absurd rfl hc
    · rfl
theorem headFl_at {d j : Nat} {r : List UInt8} (hj : j < 3) (h : ∀ i, i < j → Lib.hasPrefix r [sgH i] = false) (hp : Lib.hasPrefix r [sgH j] = true) : headD (d + 1) (40 :: r) = holdD (headD d) (kdH j) (r.drop 1) := by
  have hp' := (preFl _ _).1 hp
  rw [headFl_step]
  match j, hj with
  | 0, _ => exact if_pos hp'
  | 1, _ =>
    rw [if_neg (show ¬ r.head? = some 38 from preFl_not (h 0 (by omega)))]
    exact if_pos hp'
  | 2, _ =>
    rw [if_neg (show ¬ r.head? = some 38 from preFl_not (h 0 (by omega))), if_neg (show ¬ r.head? = some 124 from preFl_not (h 1 (by omega)))]
    exact if_pos hp'
theorem headFl_leaf {d : Nat} {r : List UInt8} (h : ∀ i, i < 3 → Lib.hasPrefix r [sgH i] = false) : headD (d + 1) (40 :: r) = if r.contains 41 then (leafD (r.takeWhile (· ≠ 41))).map fun f => (f, (r.dropWhile (· ≠ 41)).drop 1) else none := by
  rw [headFl_step, if_neg (show ¬ r.head? = some 38 from preFl_not (h 0 (by omega))), if_neg (show ¬ r.head? = some 124 from preFl_not (h 1 (by omega))), if_neg (show ¬ r.head? = some 33 from preFl_not (h 2 (by omega)))]
theorem headFl_less {d : Nat} {q : List UInt8} {f : FT} {r : List UInt8} (h : headD d q = some (f, r)) : r.length < q.length ∧ ∀ c ∈ r, c ∈ q := by
  obtain ⟨_, e⟩ := head_sound d q f r h
  obtain ⟨t, ht⟩ := textF_cons f
  rw [e, ht]
  exact ⟨by simp; omega, fun c hc => by simp [hc]⟩

set_option maxRecDepth 100000 in
set_option maxHeartbeats 8000000 in
theorem headFl_all : ∀ (d above : Nat), above + d = 13 → HeadIs above (headD d)
  | 0, above, hd, s, w, hs, ha => by
    have h13 : above = 13 := by omega
    subst h13
    obtain ⟨W0, hW0⟩ : ∃ W, W = w.alloc zF := ⟨_, rfl⟩
    have hb0 : Below w.heap.size w W0 := by rw [hW0]; exact box5 w _ _ _ _ _
    have hx0 : FzAt W0 w.heap.size := by rw [hW0]; exact heap_alloc_new w _
    have HW0 := Lib.hid hW0.symm
    obtain ⟨c0, c1, c2, c3, c4⟩ := fl_cells hx0
    obtain ⟨f0, f1, f2, f3, f4⟩ := fl_frozen hx0
    obtain ⟨z0, z1, z2, z3, z4⟩ := fl_cells (fl_set hx0 (.int .i64 0) (.string ⟨#[]⟩) (.string ⟨#[]⟩) (.slice none 0 0) (.slice none 0 0))
    unfold set5F at z0 z1 z2 z3 z4
    have HF := Lib.hid (fl_setB hb0 (Nat.le_refl w.heap.size) (.int .i64 0) (.string ⟨#[]⟩) (.string ⟨#[]⟩) (.slice none 0 0) (.slice none 0 0))
    clear hW0 hb0 hx0 hs ha hd
    go_enter Tryd.func20, Tryd.ntmps20
    go_upto_region 1 with (fail)
    rw [HW0.out]
    go_wp2
    refine bodyPost_ret (v := .tuple #[.agg #[.int .i64 0, .string ⟨#[]⟩, .string ⟨#[]⟩, .slice none 0 0, .slice none 0 0], .string ⟨#[]⟩, .bool false]) (by simp [results, Tryd.results20, go_sem, z0, z1, z2, z3, z4]) rfl ⟨_, _, _, rfl, ⟨rfl, rfl⟩, HF.out⟩
  | d + 1, above, hd, s, w, hs, ha => by
    have H : HeadIs (above + 1) (headD d) := headFl_all d (above + 1) (by omega)
    have HHo := Lib.hid (fun (k : Int) hk (s : ByteArray) hs ha w => holderFl_any H (fun q f r h => headFl_less h) k hk (by omega : above ≤ 100) s hs ha w)
    obtain ⟨l, hl⟩ : ∃ l, l = s.data.toList := ⟨_, rfl⟩
    rw [← hl]
    obtain ⟨W0, hW0⟩ : ∃ W, W = w.alloc zF := ⟨_, rfl⟩
    have hb0 : Below w.heap.size w W0 := by rw [hW0]; exact box5 w _ _ _ _ _
    have hx0 : FzAt W0 w.heap.size := by rw [hW0]; exact heap_alloc_new w _
    have HB0 := Lib.hid hb0
    have HX0 := Lib.hid hx0
    have HW0 := Lib.hid hW0.symm
    have ta : decide ((12 : Int) < (above : Int)) = false := by simp; omega
    have ta2 : decide (12 < above) = false := by simp; omega
    have hcp := fun W => cutPre_any s ⟨#[40]⟩ (by decide) W
    cases h40 : Lib.hasPrefix l [40] with
    | false =>
      have HA := Lib.hid (headFl_not (d := d) h40)
      rw [← hl, show (⟨#[40]⟩ : ByteArray).data.toList = [40] from rfl, h40, if_neg (by decide)] at hcp
      have HC := Lib.hid hcp
      have hfx := hx0
      have hbx := hb0
      have HBx := Lib.hid hbx; (obtain ⟨c0, c1, c2, c3, c4⟩ := fl_cells hfx); (obtain ⟨f0, f1, f2, f3, f4⟩ := fl_frozen hfx); (obtain ⟨z0, z1, z2, z3, z4⟩ := fl_cells (fl_set hfx (.int .i64 0) (.string ⟨#[]⟩) (.string ⟨#[]⟩) (.slice none 0 0) (.slice none 0 0))); unfold set5F at z0 z1 z2 z3 z4; clear hfx hbx
      clear hb0 hx0 hW0 hs ha hd H hcp h40 hl
      go_enter Tryd.func20, Tryd.ntmps20
      go_upto_region 1 with (fail)
      rw [HW0.out]
      go_wp2_with (go_at_call 30; refine (HC.out _).mono ?_; rintro e w2 ⟨rfl, rfl⟩)
      have hbz := fl_setB HBx.out (Nat.le_refl w.heap.size) (.int .i64 0) (.string ⟨#[]⟩) (.string ⟨#[]⟩) (.slice none 0 0) (.slice none 0 0)
      refine bodyPost_ret (v := .tuple #[.agg #[.int .i64 0, .string ⟨#[]⟩, .string ⟨#[]⟩, .slice none 0 0, .slice none 0 0], .string ⟨#[]⟩, .bool false]) (by simp [results, Tryd.results20, go_sem, z0, z1, z2, z3, z4]) rfl ⟨_, _, _, rfl, ?_, hbz⟩
      rw [HA.out]
      exact ⟨rfl, rfl⟩
    | true =>
      obtain ⟨Y, hY⟩ : ∃ Y, Y = s.extract 1 s.size := ⟨_, rfl⟩
      obtain ⟨r, hr⟩ : ∃ r, r = l.drop 1 := ⟨_, rfl⟩
      have hYl : Y.data.toList = r := by rw [hY, ext_list, hr, hl]
      have hle : l = 40 :: r := by rw [hr]; exact pre_eqFl h40
      have hYs : Y.size ≤ 1000000 := by rw [← bytes_len, hYl, hr, List.length_drop, hl, bytes_len]; omega
      have hYa : ascii r := fun c hc => ha c (by rw [← hl, hr] at *; exact List.mem_of_mem_drop hc)
      rw [← hl, show (⟨#[40]⟩ : ByteArray).data.toList = [40] from rfl, h40, if_pos rfl, show (⟨#[40]⟩ : ByteArray).size = 1 from rfl, ← hY] at hcp
      have HC := Lib.hid hcp
      have HYl := Lib.hid hYl
      have HYs := Lib.hid hYs
      have HYa := Lib.hid hYa
      have HSg : Hid (∀ j, j < 3 → ∀ W, Calls Tryd.prog 31 #[.int .i64 (kdH j)] W fun e w' => e = .returned (.string (ofL [sgH j])) ∧ W = w') := Lib.hid (fun j hj W => by
        have := sign_any (kdH j) W
        rwa [sgH_kd j hj] at this)
      have HCq : Hid (∀ j W, Calls Tryd.prog 30 #[.string Y, .string (ofL [sgH j])] W fun e w' => e = .returned (if Lib.hasPrefix r [sgH j] then .tuple #[.string (Y.extract 1 Y.size), .bool true] else .tuple #[.string Y, .bool false]) ∧ W = w') := Lib.hid (fun j W => by
        have hz : (ofL [sgH j]).size = 1 := by rw [← bytes_len, ofL_list]; rfl
        have := cutPre_any Y (ofL [sgH j]) (by rw [hz]; omega) W
        rwa [ofL_list, hz, hYl] at this)
      obtain ⟨W6, hW6⟩ : ∃ W, W = W0.alloc (.cells #[.int .i64 1, .int .i64 2, .int .i64 3] 3) := ⟨_, rfl⟩
      have HW6 := Lib.hid hW6.symm
      have hb6 : Below W0.heap.size W0 W6 := by rw [hW6]; exact (Below.refl _ _).alloc (Nat.le_refl _) _
      have HK6 : Hid (∀ j, j < 3 → W6.cell? ⟨W0.heap.size, j, none⟩ = some (.int .i64 (kdH j))) := Lib.hid (fun j hj => by
        have hb : W6.heap[W0.heap.size]? = some (.cells #[.int .i64 1, .int .i64 2, .int .i64 3] 3 (0, 0)) := by rw [hW6]; exact heap_alloc_new _ _
        match j, hj with
        | 0, _ => simp [World.cell?, hb, kdH]
        | 1, _ => simp [World.cell?, hb, kdH]
        | 2, _ => simp [World.cell?, hb, kdH])
      have HX6 := Lib.hid (fl_below hx0 hb6 (fl_lt hx0))
      have HB6 := Lib.hid (bthen hb0 hb6)
      have HLt : Hid (w.heap.size < W6.heap.size) := Lib.hid (Nat.lt_of_lt_of_le (fl_lt hx0) hb6.size)
      rw [hle]
      clear hb0 hx0 hW0 hs ha hd H hcp h40 hl hY hr hYl hle hYs hYa hW6 hb6
      go_enter Tryd.func20, Tryd.ntmps20
      go_upto_region 1 with (fail)
      rw [HW0.out]
      go_upto_region 6 with (go_at_call 30; refine (HC.out _).mono ?_; rintro e w2 ⟨rfl, rfl⟩)
      go_wp2
      rw [HW6.out]
      go_loopw [25] (fun s25 wr => ∃ j : Nat, j ≤ 3 ∧ s25 = .int .i64 j ∧ Hid (W6 = wr) ∧ Hid (∀ i, i < j → Lib.hasPrefix r [sgH i] = false)) (fun s25 _ => 3 - (intOf s25).toNat)
      case atStart => exact ⟨0, by omega, rfl, (by first | exact Lib.hid rfl | exact Lib.hid trivial), Lib.hid (fun i hi => absurd hi (Nat.not_lt_zero _))⟩
      case round =>
        obtain ⟨j, hj, rfl, HWr, HNo⟩ := hrel
        rename World => wo
        obtain rfl := HWr.out
        by_cases hlt : j < 3
        · have hcj := HK6.out j hlt
          have HSj := Lib.hid (HSg.out j hlt)
          have hcq := HCq.out j
          have ti0 : (0 : Int) ≤ (j : Int) := by omega
          have ti1 : (j : Int) < 3 := by omega
          cases hpre : Lib.hasPrefix r [sgH j] with
          | false =>
            rw [hpre, if_neg (by decide)] at hcq
            have HCj := Lib.hid hcq
            have HNo2 : Hid (∀ i, i < j + 1 → Lib.hasPrefix r [sgH i] = false) := Lib.hid (fun i hi => by
              by_cases e : i = j
              · rw [e]; exact hpre
              · exact HNo.out i (by omega))
            clear hcq hpre
            go_wp2_with (first
              | (go_at_call 31; refine (HSj.out _).mono ?_; rintro e w2 ⟨rfl, rfl⟩)
              | (go_at_call 30; refine (HCj.out _).mono ?_; rintro e w2 ⟨rfl, rfl⟩))
            go_roundw
            case rel => exact ⟨j + 1, by omega, by go_num, (by first | exact Lib.hid rfl | exact Lib.hid trivial), HNo2⟩
            case measure => simp [intOf]; omega
          | true =>
            rw [hpre, if_pos rfl] at hcq
            have hA := headFl_at (d := d) hlt HNo.out hpre
            obtain ⟨Q, hQ⟩ : ∃ Q, Q = Y.extract 1 Y.size := ⟨_, rfl⟩
            have hQl : Q.data.toList = r.drop 1 := by rw [hQ, ext_list, HYl.out]
            rw [← hQ] at hcq
            have HCj := Lib.hid hcq
            have hrs : r.length ≤ 1000000 := by rw [← HYl.out, bytes_len]; exact HYs.out
            have hho := HHo.out (kdH j) (kdH_wf j hlt) Q (by rw [← bytes_len, hQl, List.length_drop]; omega) (by rw [hQl]; exact fun c hc => HYa.out c (List.mem_of_mem_drop hc)) W6
            rw [hQl] at hho
            obtain ⟨o, ho⟩ : ∃ o, o = holdD (headD d) (kdH j) (r.drop 1) := ⟨_, rfl⟩
            rw [← ho] at hho hA
            have HA := Lib.hid hA
            have HHj := Lib.hid hho
            clear hcq hpre hQ hQl hrs hho ho hA
            cases o with
            | none =>
              go_wp2_with (first
                | (go_at_call 31; refine (HSj.out _).mono ?_; rintro e w2 ⟨rfl, rfl⟩)
                | (go_at_call 30; refine (HCj.out _).mono ?_; rintro e w2 ⟨rfl, rfl⟩)
                | (go_at_call 32; refine (HHj.out).mono ?_; rintro e wz ⟨x, q, b, rfl, ⟨rfl, rfl⟩, hb3⟩; have hfx := fl_below HX6.out hb3 (fl_lt HX6.out); have hbx := bthen HB6.out hb3; have HBx := Lib.hid hbx; (obtain ⟨c0, c1, c2, c3, c4⟩ := fl_cells hfx); (obtain ⟨f0, f1, f2, f3, f4⟩ := fl_frozen hfx); (obtain ⟨z0, z1, z2, z3, z4⟩ := fl_cells (fl_set hfx (.int .i64 0) (.string ⟨#[]⟩) (.string ⟨#[]⟩) (.slice none 0 0) (.slice none 0 0))); unfold set5F at z0 z1 z2 z3 z4; clear hfx hbx))
              have hbz := fl_setB HBx.out (Nat.le_refl w.heap.size) (.int .i64 0) (.string ⟨#[]⟩) (.string ⟨#[]⟩) (.slice none 0 0) (.slice none 0 0)
              refine bodyPost_ret (v := .tuple #[.agg #[.int .i64 0, .string ⟨#[]⟩, .string ⟨#[]⟩, .slice none 0 0, .slice none 0 0], .string q, .bool false]) (by simp [results, Tryd.results20, go_sem, z0, z1, z2, z3, z4]) rfl ⟨_, _, _, rfl, ?_, hbz⟩
              rw [HA.out]
              exact ⟨rfl, rfl⟩
            | some fq =>
              obtain ⟨f, qq⟩ := fq
              go_wp2_with (first
                | (go_at_call 31; refine (HSj.out _).mono ?_; rintro e w2 ⟨rfl, rfl⟩)
                | (go_at_call 30; refine (HCj.out _).mono ?_; rintro e w2 ⟨rfl, rfl⟩)
                | (go_at_call 32; refine (HHj.out).mono ?_; rintro e wz ⟨x, q, b, rfl, ⟨hfl, hq, rfl⟩, hb3⟩; (obtain ⟨kk, T, X, pa, pn, pc, ka, kn, kc, e⟩ := hfl.shape); subst e; have HFl := Lib.hid hfl; have HQ := Lib.hid hq; have hfx := fl_below HX6.out hb3 (fl_lt HX6.out); have hbx := bthen HB6.out hb3; have HBx := Lib.hid hbx; (obtain ⟨c0, c1, c2, c3, c4⟩ := fl_cells hfx); (obtain ⟨f0, f1, f2, f3, f4⟩ := fl_frozen hfx); (obtain ⟨z0, z1, z2, z3, z4⟩ := fl_cells (fl_set hfx (.int .i64 kk) (.string T) (.string X) (.slice pa pn pc) (.slice ka kn kc))); unfold set5F at z0 z1 z2 z3 z4; clear hfx hbx; clear hfl hq hb3))
              have hbz := fl_setB HBx.out (Nat.le_refl w.heap.size) (.int .i64 kk) (.string T) (.string X) (.slice pa pn pc) (.slice ka kn kc)
              have hfn : IsFl (fun b => w.heap.size ≤ b ∧ b < (set5F wz w.heap.size (.int .i64 kk) (.string T) (.string X) (.slice pa pn pc) (.slice ka kn kc)).heap.size) (set5F wz w.heap.size (.int .i64 kk) (.string T) (.string X) (.slice pa pn pc) (.slice ka kn kc)) f (.agg #[.int .i64 kk, .string T, .string X, .slice pa pn pc, .slice ka kn kc]) := by
                refine (HFl.out).imp (fun b h => ⟨?_, ?_⟩) (fun b o h => ?_)
                · exact fl_setC (by have := h.1; have := HLt.out; omega)
                · have := h.1; have := HLt.out; omega
                · rw [set5F_size]; exact h.2
              refine bodyPost_ret (v := .tuple #[.agg #[.int .i64 kk, .string T, .string X, .slice pa pn pc, .slice ka kn kc], .string q, .bool true]) (by simp [results, Tryd.results20, go_sem, z0, z1, z2, z3, z4]) rfl ⟨_, _, _, rfl, ?_, hbz⟩
              rw [HA.out]
              exact ⟨hfn, HQ.out, rfl⟩
        · have h3 : j = 3 := by omega
          subst h3
          have hA := headFl_leaf (d := d) HNo.out
          have hcb := fun W => cutB_any 41 Y W (by have := HYs.out; omega)
          rw [HYl.out] at hcb
          cases h41 : r.contains 41 with
          | false =>
            rw [h41, if_neg (by decide)] at hA
            obtain ⟨A, hAv, _⟩ := strV_text r
            have hcv : cutBV 41 r = .tuple #[.string A, .string ⟨#[]⟩, .bool false] := by
              unfold cutBV
              rw [h41, if_neg (by decide), hAv]
              rfl
            rw [hcv] at hcb
            have HCb := Lib.hid hcb
            have HA := Lib.hid hA
            clear hcb hA h41 hAv hcv
            go_wp2_with (go_at_call 33; refine (HCb.out _).mono ?_; rintro e wz ⟨rfl, n9, hw9⟩; have hb3 : Below W6.heap.size W6 wz := by { rw [← hw9]; exact below_drewN2 (Below.refl _ _) n9 }; clear hw9; have hfx := fl_below HX6.out hb3 (fl_lt HX6.out); have hbx := bthen HB6.out hb3; have HBx := Lib.hid hbx; (obtain ⟨c0, c1, c2, c3, c4⟩ := fl_cells hfx); (obtain ⟨f0, f1, f2, f3, f4⟩ := fl_frozen hfx); (obtain ⟨z0, z1, z2, z3, z4⟩ := fl_cells (fl_set hfx (.int .i64 0) (.string ⟨#[]⟩) (.string ⟨#[]⟩) (.slice none 0 0) (.slice none 0 0))); unfold set5F at z0 z1 z2 z3 z4; clear hfx hbx; clear hb3)
            have hbz := fl_setB HBx.out (Nat.le_refl w.heap.size) (.int .i64 0) (.string ⟨#[]⟩) (.string ⟨#[]⟩) (.slice none 0 0) (.slice none 0 0)
            refine bodyPost_ret (v := .tuple #[.agg #[.int .i64 0, .string ⟨#[]⟩, .string ⟨#[]⟩, .slice none 0 0, .slice none 0 0], .string ⟨#[]⟩, .bool false]) (by simp [results, Tryd.results20, go_sem, z0, z1, z2, z3, z4]) rfl ⟨_, _, _, rfl, ?_, hbz⟩
            rw [HA.out]
            exact ⟨rfl, rfl⟩
          | true =>
            rw [h41, if_pos rfl] at hA
            obtain ⟨A, hAv, hAl⟩ := strV_text (r.takeWhile (· ≠ 41))
            obtain ⟨Bq, hBv, hBl⟩ := strV_text ((r.dropWhile (· ≠ 41)).drop 1)
            have hcv : cutBV 41 r = .tuple #[.string A, .string Bq, .bool true] := by
              unfold cutBV
              rw [h41, if_pos rfl, hAv, hBv]
            rw [hcv] at hcb
            have HCb := Lib.hid hcb
            have hrs : r.length ≤ 1000000 := by rw [← HYl.out, bytes_len]; exact HYs.out
            have hAs : A.size ≤ 1000000 := by
              rw [← bytes_len, hAl]
              exact Nat.le_trans (List.takeWhile_prefix _).length_le hrs
            have hlf := fun W => leaf_any A hAs (by rw [hAl]; exact fun c hc => HYa.out c ((List.takeWhile_prefix _).subset hc)) W
            rw [hAl] at hlf
            obtain ⟨o, ho⟩ : ∃ o, o = leafD (r.takeWhile (· ≠ 41)) := ⟨_, rfl⟩
            rw [← ho] at hlf hA
            have HLf := Lib.hid hlf
            have HA := Lib.hid hA
            have HBq := Lib.hid hBl
            clear hcb hA h41 hAv hcv hBv hrs hAs hlf ho hAl hBl
            cases o with
            | none =>
              go_upto_region 17 with (first
                | (go_at_call 33; refine (HCb.out _).mono ?_; rintro e wy ⟨rfl, n9, hw9⟩; have hb3 : Below W6.heap.size W6 wy := by { rw [← hw9]; exact below_drewN2 (Below.refl _ _) n9 }; clear hw9; have HB3 := Lib.hid hb3; clear hb3)
                | (go_at_call 34; refine (HLf.out _).mono ?_; rintro e wz ⟨x, b, rfl, ⟨rfl, rfl⟩, hb4⟩; have hfx := fl_below (fl_below HX6.out HB3.out (fl_lt HX6.out)) hb4 (Nat.lt_of_lt_of_le (fl_lt HX6.out) HB3.out.size); have hbx := bthen (bthen HB6.out HB3.out) hb4; have HBx := Lib.hid hbx; have HFx := Lib.hid hfx; (obtain ⟨c0, c1, c2, c3, c4⟩ := fl_cells hfx); (obtain ⟨f0, f1, f2, f3, f4⟩ := fl_frozen hfx); clear hfx hbx; clear hb4))
              obtain ⟨W9, hW9⟩ : ∃ W, W = set5F wz w.heap.size (.int .i64 0) (.string ⟨#[]⟩) (.string ⟨#[]⟩) (.slice none 0 0) (.slice none 0 0) := ⟨_, rfl⟩
              have h9b : Below w.heap.size w W9 := by rw [hW9]; exact fl_setB HBx.out (Nat.le_refl w.heap.size) (.int .i64 0) (.string ⟨#[]⟩) (.string ⟨#[]⟩) (.slice none 0 0) (.slice none 0 0)
              have h9s : W9.heap.size = wz.heap.size := by rw [hW9]; exact set5F_size _ _ _ _ _ _ _
              have h9c : ∀ b o, b ≠ w.heap.size → W9.cell? ⟨b, o, none⟩ = wz.cell? ⟨b, o, none⟩ := fun b o h => by rw [hW9]; exact fl_setC h
              have h9f : FlAt W9 w.heap.size (.int .i64 0) (.string ⟨#[]⟩) (.string ⟨#[]⟩) (.slice none 0 0) (.slice none 0 0) := by rw [hW9]; exact fl_set HFx.out (.int .i64 0) (.string ⟨#[]⟩) (.string ⟨#[]⟩) (.slice none 0 0) (.slice none 0 0)
              unfold set5F at hW9
              rw [← hW9]
              have H9b := Lib.hid h9b
              have H9s := Lib.hid h9s
              have H9c := Lib.hid h9c
              clear c0 c1 c2 c3 c4 f0 f1 f2 f3 f4 hW9 h9b h9s h9c
              obtain ⟨c0, c1, c2, c3, c4⟩ := fl_cells h9f
              obtain ⟨f0, f1, f2, f3, f4⟩ := fl_frozen h9f
              obtain ⟨z0, z1, z2, z3, z4⟩ := fl_cells (fl_set h9f (.int .i64 0) (.string ⟨#[]⟩) (.string ⟨#[]⟩) (.slice none 0 0) (.slice none 0 0))
              unfold set5F at z0 z1 z2 z3 z4
              clear h9f
              go_wp2
              have hbz := fl_setB H9b.out (Nat.le_refl w.heap.size) (.int .i64 0) (.string ⟨#[]⟩) (.string ⟨#[]⟩) (.slice none 0 0) (.slice none 0 0)
              refine bodyPost_ret (v := .tuple #[.agg #[.int .i64 0, .string ⟨#[]⟩, .string ⟨#[]⟩, .slice none 0 0, .slice none 0 0], .string Bq, .bool false]) (by simp [results, Tryd.results20, go_sem, z0, z1, z2, z3, z4]) rfl ⟨_, _, _, rfl, ?_, hbz⟩
              rw [HA.out]
              exact ⟨rfl, rfl⟩
            | some f =>
              go_upto_region 17 with (first
                | (go_at_call 33; refine (HCb.out _).mono ?_; rintro e wy ⟨rfl, n9, hw9⟩; have hb3 : Below W6.heap.size W6 wy := by { rw [← hw9]; exact below_drewN2 (Below.refl _ _) n9 }; clear hw9; have HB3 := Lib.hid hb3; have HLy := Lib.hid hb3.size; clear hb3)
                | (go_at_call 34; refine (HLf.out _).mono ?_; rintro e wz ⟨x, b, rfl, ⟨hfl, rfl⟩, hb4⟩; (obtain ⟨kk, T, X, pa, pn, pc, ka, kn, kc, e⟩ := hfl.shape); subst e; have HFl := Lib.hid (hfl.imp (ok' := fun b => W6.heap.size ≤ b ∧ b < wz.heap.size) (fun b h => ⟨Nat.le_trans HLy.out h.1, h.2⟩) (fun _ _ _ => rfl)); have hfx := fl_below (fl_below HX6.out HB3.out (fl_lt HX6.out)) hb4 (Nat.lt_of_lt_of_le (fl_lt HX6.out) HB3.out.size); have hbx := bthen (bthen HB6.out HB3.out) hb4; have HBx := Lib.hid hbx; have HFx := Lib.hid hfx; (obtain ⟨c0, c1, c2, c3, c4⟩ := fl_cells hfx); (obtain ⟨f0, f1, f2, f3, f4⟩ := fl_frozen hfx); clear hfx hbx; clear hb4 hfl))
              obtain ⟨W9, hW9⟩ : ∃ W, W = set5F wz w.heap.size (.int .i64 kk) (.string T) (.string X) (.slice pa pn pc) (.slice ka kn kc) := ⟨_, rfl⟩
              have h9b : Below w.heap.size w W9 := by rw [hW9]; exact fl_setB HBx.out (Nat.le_refl w.heap.size) (.int .i64 kk) (.string T) (.string X) (.slice pa pn pc) (.slice ka kn kc)
              have h9s : W9.heap.size = wz.heap.size := by rw [hW9]; exact set5F_size _ _ _ _ _ _ _
              have h9c : ∀ b o, b ≠ w.heap.size → W9.cell? ⟨b, o, none⟩ = wz.cell? ⟨b, o, none⟩ := fun b o h => by rw [hW9]; exact fl_setC h
              have h9f : FlAt W9 w.heap.size (.int .i64 kk) (.string T) (.string X) (.slice pa pn pc) (.slice ka kn kc) := by rw [hW9]; exact fl_set HFx.out (.int .i64 kk) (.string T) (.string X) (.slice pa pn pc) (.slice ka kn kc)
              unfold set5F at hW9
              rw [← hW9]
              have H9b := Lib.hid h9b
              have H9s := Lib.hid h9s
              have H9c := Lib.hid h9c
              clear c0 c1 c2 c3 c4 f0 f1 f2 f3 f4 hW9 h9b h9s h9c
              obtain ⟨c0, c1, c2, c3, c4⟩ := fl_cells h9f
              obtain ⟨f0, f1, f2, f3, f4⟩ := fl_frozen h9f
              obtain ⟨z0, z1, z2, z3, z4⟩ := fl_cells (fl_set h9f (.int .i64 kk) (.string T) (.string X) (.slice pa pn pc) (.slice ka kn kc))
              unfold set5F at z0 z1 z2 z3 z4
              clear h9f
              go_wp2
              have hbz := fl_setB H9b.out (Nat.le_refl w.heap.size) (.int .i64 kk) (.string T) (.string X) (.slice pa pn pc) (.slice ka kn kc)
              have hfn : IsFl (fun b => w.heap.size ≤ b ∧ b < (set5F W9 w.heap.size (.int .i64 kk) (.string T) (.string X) (.slice pa pn pc) (.slice ka kn kc)).heap.size) (set5F W9 w.heap.size (.int .i64 kk) (.string T) (.string X) (.slice pa pn pc) (.slice ka kn kc)) f (.agg #[.int .i64 kk, .string T, .string X, .slice pa pn pc, .slice ka kn kc]) := by
                refine (HFl.out).imp (fun b h => ⟨?_, ?_⟩) (fun b o h => ?_)
                · have hb : b ≠ w.heap.size := by have := h.1; have := HLt.out; omega
                  exact (fl_setC hb).trans (H9c.out b o hb)
                · have := h.1; have := HLt.out; omega
                · rw [set5F_size, H9s.out]; exact h.2
              refine bodyPost_ret (v := .tuple #[.agg #[.int .i64 kk, .string T, .string X, .slice pa pn pc, .slice ka kn kc], .string Bq, .bool true]) (by simp [results, Tryd.results20, go_sem, z0, z1, z2, z3, z4]) rfl ⟨_, _, _, rfl, ?_, hbz⟩
              rw [HA.out]
              exact ⟨hfn, HBq.out, rfl⟩
end Go.Proofs.YtdcfmgnpjmpboaaDoor
