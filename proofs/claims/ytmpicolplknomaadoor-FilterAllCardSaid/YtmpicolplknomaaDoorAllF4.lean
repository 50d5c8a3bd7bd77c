/- Several texts in one file: FiPar, FiSamP, FiHead, FiParse, FiAwake, FiGreat, FiAllW. -/
import Derived.Test.YtmpicolplknomaaDoorAllF3
import Derived.Test.YtmpicolplknomaaDoorFiSamR
import Derived.Test.YtmpicolplknomaaDoorAllF1
import Derived.Deep.RegionHeld3
/- The document's ParseFilter: the walk. -/
namespace Go.Proofs.YtmpicolplknomaaDoor
open Go.RowKit
set_option linter.unusedVariables false
set_option linter.unusedSimpArgs false

set_option maxRecDepth 100000 in
set_option maxHeartbeats 8000000 in
theorem parseFlRef_any (s : ByteArray) (hs : s.size ≤ 1000) (w : World) :
    Calls Tryd.prog 7 #[.string s] w fun e w' => ∃ x0 x1 x2 x3 x4 b, e = .returned (.agg #[x0, x1, x2, x3, x4, .bool b]) ∧ GotV w.heap.size w' (gotO s.data.toList) x0 x1 x2 x3 x4 b ∧ Below w.heap.size w w' := by
  have hone := fun W => ones_all 13 (by omega) s 0 W hs (Nat.zero_le _)
  rw [List.drop_zero] at hone
  unfold OneIs at hone
  rw [show ((0 : Nat) : Int) = 0 from rfl, show ((13 : Nat) : Int) - 1 = 12 from rfl] at hone
  obtain ⟨o, ho⟩ : ∃ o, o = oneO 13 s.data.toList := ⟨_, rfl⟩
  rw [← ho] at hone
  obtain ⟨W0, hW0⟩ : ∃ W, W = w.alloc zQ := ⟨_, rfl⟩
  have hb0 : Below w.heap.size w W0 := by rw [hW0]; exact box6Q w _ _ _ _ _ _
  have hx0 : QlAt W0 w.heap.size (.int .i64 0) (.string ⟨#[]⟩) (.string ⟨#[]⟩) (.slice none 0 0) (.slice none 0 0) false := by rw [hW0]; exact heap_alloc_new w _
  have HW0 := Lib.hid hW0.symm
  have HB0 := Lib.hid hb0
  have HX0 := Lib.hid hx0
  have HOne := Lib.hid hone
  clear hW0 hb0 hx0 hone
  cases o with
  | none =>
    have HG : Hid (gotO s.data.toList = none) := Lib.hid (gotO_none ho.symm)
    clear ho
    go_enter Tryd.func7, Tryd.ntmps7
    go_upto_region 1 with (fail)
    rw [HW0.out]
    go_upto_region 2 with (go_at_call 16; refine (HOne.out _).mono ?_; rintro e w3 ⟨x0, x1, x2, x3, x4, m, rfl, ⟨rfl, rfl, rfl, rfl, rfl, rfl⟩, hb3⟩; have HB3 := Lib.hid hb3; clear hb3)
    obtain ⟨W4, hW4⟩ : ∃ W, W = w3.alloc (.cells #[.int .i64 0, .string ⟨#[]⟩, .string ⟨#[]⟩, .slice none 0 0, .slice none 0 0, .int .i64 (-1)] 40) := ⟨_, rfl⟩
    have hk4 : GlAt W4 w3.heap.size (.int .i64 0) (.string ⟨#[]⟩) (.string ⟨#[]⟩) (.slice none 0 0) (.slice none 0 0) (-1) := by rw [hW4]; exact heap_alloc_new w3 _
    have hb34 : Below w3.heap.size w3 W4 := by rw [hW4]; exact box6G w3 _ _ _ _ _ _
    have hx4 := ql_below (ql_below HX0.out HB3.out (ql_lt HX0.out)) hb34 (Nat.lt_of_lt_of_le (ql_lt HX0.out) HB3.out.size)
    have HB4 := Lib.hid (bthen (bthen HB0.out HB3.out) hb34)
    rw [← hW4]
    obtain ⟨k0, k1, k2, k3, k4, k5⟩ := gl_cells hk4
    obtain ⟨c0, c1, c2, c3, c4, c5⟩ := ql_cells hx4
    obtain ⟨f0, f1, f2, f3, f4, f5⟩ := ql_frozen hx4
    have HX4 := Lib.hid hx4
    clear hk4 hW4 hb34 hx4
    have t1 : ((-1 : Int) != (s.size : Int)) = true := by simp
    go_wp2
    obtain ⟨z0, z1, z2, z3, z4, z5⟩ := ql_cells (ql_set HX4.out (.int .i64 0) (.string ⟨#[]⟩) (.string ⟨#[]⟩) (.slice none 0 0) (.slice none 0 0) false)
    unfold set6Q at z0 z1 z2 z3 z4 z5
    have hbz := ql_setB HB4.out (Nat.le_refl w.heap.size) (.int .i64 0) (.string ⟨#[]⟩) (.string ⟨#[]⟩) (.slice none 0 0) (.slice none 0 0) false
    refine bodyPost_ret (v := .agg #[.int .i64 0, .string ⟨#[]⟩, .string ⟨#[]⟩, .slice none 0 0, .slice none 0 0, .bool false]) (by simp [results, Tryd.results7, go_sem, z0, z1, z2, z3, z4, z5]) rfl ⟨_, _, _, _, _, _, rfl, ?_, hbz⟩
    rw [HG.out]
    exact ⟨rfl, rfl, rfl, rfl, rfl, rfl⟩
  | some fr =>
    obtain ⟨f, r⟩ := fr
    have htl : (textF f).length ≤ 3 * s.data.toList.length := gotO_len ho.symm
    rw [bytes_len] at htl
    have HTl := Lib.hid htl
    have HO := Lib.hid ho
    clear ho htl
    go_enter Tryd.func7, Tryd.ntmps7
    go_upto_region 1 with (fail)
    rw [HW0.out]
    go_upto_region 2 with (go_at_call 16; refine (HOne.out _).mono ?_; rintro e w3 ⟨x0, x1, x2, x3, x4, m, rfl, ⟨k, rfl, hks, hkd, hfl⟩, hb3⟩; (obtain ⟨kk, T, X, pa, pn, pc, ka, kn, kc, e⟩ := hfl.shape); (simp only [Value.agg.injEq, Array.mk.injEq, List.cons.injEq, and_true] at e); (obtain ⟨rfl, rfl, rfl, rfl, rfl⟩ := e); have HB3 := Lib.hid hb3; have HFl := Lib.hid hfl; have HKk := Lib.hid hkd; have HKs := Lib.hid hks; clear hb3 hfl hkd hks)
    obtain ⟨W4, hW4⟩ : ∃ W, W = w3.alloc (.cells #[.int .i64 kk, .string T, .string X, .slice pa pn pc, .slice ka kn kc, .int .i64 k] 40) := ⟨_, rfl⟩
    have hk4 : GlAt W4 w3.heap.size (.int .i64 kk) (.string T) (.string X) (.slice pa pn pc) (.slice ka kn kc) k := by rw [hW4]; exact heap_alloc_new w3 _
    have hb34 : Below w3.heap.size w3 W4 := by rw [hW4]; exact box6G w3 _ _ _ _ _ _
    have hx4 := ql_below (ql_below HX0.out HB3.out (ql_lt HX0.out)) hb34 (Nat.lt_of_lt_of_le (ql_lt HX0.out) HB3.out.size)
    have HB4 := Lib.hid (bthen (bthen HB0.out HB3.out) hb34)
    have hlt0 : W0.heap.size ≤ w3.heap.size := HB3.out.size
    have HLt := Lib.hid (show w.heap.size < W0.heap.size from ql_lt HX0.out)
    have hfl4 : IsFl (fun b => W0.heap.size ≤ b ∧ b < w3.heap.size) W4 f (.agg #[.int .i64 kk, .string T, .string X, .slice pa pn pc, .slice ka kn kc]) := HFl.out.imp (fun b h => h) (fun b o h => hb34.cell (p := ⟨b, o, none⟩) h.2)
    have HF4 := Lib.hid hfl4
    have HLt3 := Lib.hid (show w3.heap.size < W4.heap.size from gl_lt hk4)
    have htf := textFilter_any f (.agg #[.int .i64 kk, .string T, .string X, .slice pa pn pc, .slice ka kn kc]) W4 (hfl4.imp (fun b h => Nat.lt_trans h.2 HLt3.out) (fun _ _ _ => rfl)) (fun _ => by have := HTl.out; omega)
    obtain ⟨A, hA⟩ : ∃ A, A = ofL (textTop f) := ⟨_, rfl⟩
    rw [← hA] at htf
    have HTf := Lib.hid htf
    rw [← hW4]
    obtain ⟨k0, k1, k2, k3, k4, k5⟩ := gl_cells hk4
    obtain ⟨c0, c1, c2, c3, c4, c5⟩ := ql_cells hx4
    obtain ⟨f0, f1, f2, f3, f4, f5⟩ := ql_frozen hx4
    have HX4 := Lib.hid hx4
    have HK4 := Lib.hid hk4
    clear hk4 hW4 hb34 hx4 hfl4 htf hlt0
    by_cases hk : k = s.size
    · have hr : r = [] := by rw [← HKk.out, hk]; exact List.drop_of_length_le (by rw [bytes_len]; omega)
      have hgo := gotO_all (by rw [← HO.out, hr])
      subst hk
      by_cases hAs : A = s
      · have h1 : textTop f = s.data.toList := by rw [← hAs, hA, ofL_list]
        by_cases hse : s.data.toList = []
        · have := HO.out
          rw [hse] at this
          cases this
        · have HG : Hid (gotO s.data.toList = some f) := Lib.hid (by rw [hgo, if_pos h1, if_neg hse])
          obtain ⟨e3, e4⟩ := bytes_some hse
          clear hr hgo h1 hse hA
          subst hAs
          go_upto_region 4 with (go_at_call 11; refine (HTf.out).mono ?_; rintro e w5 ⟨rfl, hb5⟩; have HB5 := Lib.hid hb5; (obtain ⟨m0, m1, m2, m3, m4, m5⟩ := gl_cells (gl_below HK4.out hb5 (gl_lt HK4.out))); (obtain ⟨d0, d1, d2, d3, d4, d5⟩ := ql_cells (ql_below HX4.out hb5 (ql_lt HX4.out))); (obtain ⟨g0, g1, g2, g3, g4, g5⟩ := ql_frozen (ql_below HX4.out hb5 (ql_lt HX4.out))); clear hb5)
          go_wp2
          obtain ⟨z0, z1, z2, z3, z4, z5⟩ := ql_cells (ql_set (ql_below HX4.out HB5.out (ql_lt HX4.out)) (.int .i64 kk) (.string T) (.string X) (.slice pa pn pc) (.slice ka kn kc) true)
          unfold set6Q at z0 z1 z2 z3 z4 z5
          have hbz := ql_setB (bthen HB4.out HB5.out) (Nat.le_refl w.heap.size) (.int .i64 kk) (.string T) (.string X) (.slice pa pn pc) (.slice ka kn kc) true
          refine bodyPost_ret (v := .agg #[.int .i64 kk, .string T, .string X, .slice pa pn pc, .slice ka kn kc, .bool true]) (by simp [results, Tryd.results7, go_sem, z0, z1, z2, z3, z4, z5]) rfl ⟨_, _, _, _, _, _, rfl, ?_, hbz⟩
          rw [HG.out]
          refine ⟨HF4.out.imp (fun b h => ⟨?_, ?_⟩) (fun b o h => (ql_setC ?_).trans (HB5.out.cell (p := ⟨b, o, none⟩) (Nat.lt_trans h.2 HLt3.out))), rfl⟩
          all_goals
            have q1 := HLt.out
            have q2 := HLt3.out
            have q3 := HB5.out.size
            first | omega | (simp only [World.size_setCell]; omega)
      · have HG : Hid (gotO s.data.toList = none) := Lib.hid (by rw [hgo, if_neg (fun e => hAs (by rw [hA, e]; exact bytes_ext (ofL_list _)))])
        have t3 := str_ne hAs
        clear hr hgo hA hAs
        go_upto_region 3 with (go_at_call 11; refine (HTf.out).mono ?_; rintro e w5 ⟨rfl, hb5⟩; have HB5 := Lib.hid hb5; (obtain ⟨d0, d1, d2, d3, d4, d5⟩ := ql_cells (ql_below HX4.out hb5 (ql_lt HX4.out))); (obtain ⟨g0, g1, g2, g3, g4, g5⟩ := ql_frozen (ql_below HX4.out hb5 (ql_lt HX4.out))); clear hb5)
        go_wp2
        obtain ⟨z0, z1, z2, z3, z4, z5⟩ := ql_cells (ql_set (ql_below HX4.out HB5.out (ql_lt HX4.out)) (.int .i64 0) (.string ⟨#[]⟩) (.string ⟨#[]⟩) (.slice none 0 0) (.slice none 0 0) false)
        unfold set6Q at z0 z1 z2 z3 z4 z5
        have hbz := ql_setB (bthen HB4.out HB5.out) (Nat.le_refl w.heap.size) (.int .i64 0) (.string ⟨#[]⟩) (.string ⟨#[]⟩) (.slice none 0 0) (.slice none 0 0) false
        refine bodyPost_ret (v := .agg #[.int .i64 0, .string ⟨#[]⟩, .string ⟨#[]⟩, .slice none 0 0, .slice none 0 0, .bool false]) (by simp [results, Tryd.results7, go_sem, z0, z1, z2, z3, z4, z5]) rfl ⟨_, _, _, _, _, _, rfl, ?_, hbz⟩
        rw [HG.out]
        exact ⟨rfl, rfl, rfl, rfl, rfl, rfl⟩
    · have t1 : ((k : Int) != (s.size : Int)) = true := by simp; omega
      have HG : Hid (gotO s.data.toList = none) := Lib.hid (gotO_more HO.out.symm (fun e => by
        have h1 := HKk.out
        rw [e] at h1
        have h2 : s.data.toList.length ≤ k := by simpa using h1
        rw [bytes_len] at h2
        have := HKs.out
        omega))
      clear hk
      go_wp2
      obtain ⟨z0, z1, z2, z3, z4, z5⟩ := ql_cells (ql_set HX4.out (.int .i64 0) (.string ⟨#[]⟩) (.string ⟨#[]⟩) (.slice none 0 0) (.slice none 0 0) false)
      unfold set6Q at z0 z1 z2 z3 z4 z5
      have hbz := ql_setB HB4.out (Nat.le_refl w.heap.size) (.int .i64 0) (.string ⟨#[]⟩) (.string ⟨#[]⟩) (.slice none 0 0) (.slice none 0 0) false
      refine bodyPost_ret (v := .agg #[.int .i64 0, .string ⟨#[]⟩, .string ⟨#[]⟩, .slice none 0 0, .slice none 0 0, .bool false]) (by simp [results, Tryd.results7, go_sem, z0, z1, z2, z3, z4, z5]) rfl ⟨_, _, _, _, _, _, rfl, ?_, hbz⟩
      rw [HG.out]
      exact ⟨rfl, rfl, rfl, rfl, rfl, rfl⟩
end Go.Proofs.YtmpicolplknomaaDoor

/- filter.Same, slices.EqualFunc of filters: the walks. -/
namespace Go.Proofs.YtmpicolplknomaaDoor
open Go.RowKit
set_option linter.unusedVariables false
set_option linter.unusedSimpArgs false

noncomputable def sameFs (l m : List FT) : Bool := @decide (l = m) (Classical.propDecidable _)
theorem sameFs_pos {l m : List FT} (h : l = m) : sameFs l m = true := @decide_eq_true _ (Classical.propDecidable _) h
theorem sameFs_neg {l m : List FT} (h : ¬ l = m) : sameFs l m = false := @decide_eq_false _ (Classical.propDecidable _) h
/-- What Same tells of a filter and any other one. -/
def SamesF (f : FT) : Prop := ∀ (g : FT) (v u : Value) (w : World), IsFl (Lt w) w f v → IsFl (Lt w) w g u →
  Calls Tryd.prog 12 #[v, u] w fun e w' => e = .returned (.bool (sameFT f g)) ∧ Below w.heap.size w w'

set_option maxRecDepth 100000 in
set_option maxHeartbeats 8000000 in
theorem eqFl_any (l l' : List FT) (ih : ∀ f ∈ l, SamesF f) (ka ka' : Option Addr) (kc kc' : Nat) (w : World) (hl : l.length ≤ maxLen) (hl' : l'.length ≤ maxLen) (hk : IsFls (Lt w) w l ka 0) (hk' : IsFls (Lt w) w l' ka' 0) :
    Calls Tryd.prog 23 #[.slice ka l.length kc, .slice ka' l'.length kc', .func (.func 12) #[] #[]] w fun e w' => e = .returned (.bool (sameFs l l')) ∧ Below w.heap.size w w' := by
  obtain ⟨R, hR⟩ : ∃ R, R = sameFs l l' := ⟨_, rfl⟩
  rw [← hR]
  obtain ⟨n, hn⟩ : ∃ n, n = l.length := ⟨_, rfl⟩
  obtain ⟨m, hm⟩ : ∃ m, m = l'.length := ⟨_, rfl⟩
  rw [← hn] at hl ⊢
  rw [← hm] at hl' ⊢
  unfold maxLen at hl hl'
  have HR := Lib.hid hR
  have HN := Lib.hid hn
  have HM := Lib.hid hm
  have HK := Lib.hid hk
  have HK' := Lib.hid hk'
  have HI := Lib.hid ih
  clear hR hn hm hk hk' ih
  by_cases hnm : n = m
  · subst hnm
    have t0 : ((n : Int) != (n : Int)) = false := by simp
    go_enter Tryd.func23, Tryd.ntmps23
    go_wp2
    go_loopw [17] (fun i wr => ∃ j : Nat, j ≤ n ∧ i = .int .i64 j ∧ Hid (∀ k (h1 : k < l.length) (h2 : k < l'.length), k < j → l[k] = l'[k]) ∧ Hid (Below w.heap.size w wr)) (fun i _ => n - (intOf i).toNat)
    case atStart => exact ⟨0, by omega, rfl, Lib.hid (fun k h1 h2 h => absurd h (Nat.not_lt_zero _)), Lib.hid (Below.refl _ _)⟩
    case round =>
      obtain ⟨j, hj, rfl, HAll, HBr⟩ := hrel
      by_cases hlt : j < n
      · have t1 : decide ((j : Int) < (n : Int)) = true := by simp; omega
        have t1' : decide (j < n) = true := by simp; omega
        have ti0 : (0 : Int) ≤ (j : Int) := by omega
        have ti1 : (j : Int) < (n : Int) := by omega
        have hjl : j < l.length := by rw [← HN.out]; exact hlt
        have hjl' : j < l'.length := by rw [← HM.out]; exact hlt
        obtain ⟨b, off, v0, v1, v2, v3, v4, rfl, hb, g0, g1, g2, g3, g4, hf⟩ := HK.out.get l _ 0 j l[j] (List.getElem?_eq_getElem hjl)
        obtain ⟨b', off', u0, u1, u2, u3, u4, rfl, hb', p0, p1, p2, p3, p4, hg⟩ := HK'.out.get l' _ 0 j l'[j] (List.getElem?_eq_getElem hjl')
        rw [Nat.zero_add] at g0 g1 g2 g3 g4 p0 p1 p2 p3 p4
        have hbel := HBr.out
        have hcw : ∀ o, wr.cell? ⟨b, o, none⟩ = w.cell? ⟨b, o, none⟩ := fun o => hbel.cell (p := ⟨b, o, none⟩) hb
        rw [← hcw] at g0 g1 g2 g3 g4
        have hf2 : IsFl (Lt wr) wr l[j] (.agg #[v0, v1, v2, v3, v4]) := hf.imp (fun b h => Nat.lt_of_lt_of_le h hbel.size) (fun b o h => hbel.cell (p := ⟨b, o, none⟩) h)
        have hg2 : IsFl (Lt wr) wr l'[j] (.agg #[u0, u1, u2, u3, u4]) := hg.imp (fun b h => Nat.lt_of_lt_of_le h hbel.size) (fun b o h => hbel.cell (p := ⟨b, o, none⟩) h)
        obtain ⟨fk, fT, fX, fpa, fpn, fpc, fka, fkn, fkc, e⟩ := hf2.shape
        simp only [Value.agg.injEq, Array.mk.injEq, List.cons.injEq, and_true] at e
        obtain ⟨rfl, rfl, rfl, rfl, rfl⟩ := e
        obtain ⟨ek, eT, eX, epa, epn, epc, eka, ekn, ekc, e⟩ := hg2.shape
        simp only [Value.agg.injEq, Array.mk.injEq, List.cons.injEq, and_true] at e
        obtain ⟨rfl, rfl, rfl, rfl, rfl⟩ := e
        obtain ⟨A1, hA1⟩ : ∃ A, wr.alloc (.cells #[.int .i64 fk, .string fT, .string fX, .slice fpa fpn fpc, .slice fka fkn fkc] 25) = A := ⟨_, rfl⟩
        obtain ⟨A2, hA2⟩ : ∃ A, A1.alloc (.cells #[.int .i64 ek, .string eT, .string eX, .slice epa epn epc, .slice eka ekn ekc] 25) = A := ⟨_, rfl⟩
        have b1 : Below wr.heap.size wr A1 := by rw [← hA1]; exact box5 wr _ _ _ _ _
        have b2 : Below A1.heap.size A1 A2 := by rw [← hA2]; exact box5 A1 _ _ _ _ _
        have x1 : FlAt A1 wr.heap.size (.int .i64 fk) (.string fT) (.string fX) (.slice fpa fpn fpc) (.slice fka fkn fkc) := by rw [← hA1]; exact heap_alloc_new wr _
        have x2 : FlAt A2 A1.heap.size (.int .i64 ek) (.string eT) (.string eX) (.slice epa epn epc) (.slice eka ekn ekc) := by rw [← hA2]; exact heap_alloc_new A1 _
        have x3 := fl_below x1 b2 (fl_lt x1)
        have hcw' : ∀ o, A1.cell? ⟨b', o, none⟩ = w.cell? ⟨b', o, none⟩ := fun o => ((bthen hbel b1).cell (p := ⟨b', o, none⟩) hb')
        rw [← hcw'] at p0 p1 p2 p3 p4
        obtain ⟨d0, d1, d2, d3, d4⟩ := fl_cells x3
        obtain ⟨e0, e1, e2, e3, e4⟩ := fl_cells x2
        have hca := HI.out l[j] (List.getElem_mem hjl) l'[j] _ _ A2 (hf2.below (bthen b1 b2)) (hg2.below (bthen b1 b2))
        obtain ⟨r, hr⟩ : ∃ r, r = sameFT l[j] l'[j] := ⟨_, rfl⟩
        rw [← hr] at hca
        have HCa := Lib.hid hca
        have HB2 := Lib.hid (bthen hbel (bthen b1 b2))
        clear hca hf hf2 hg hg2 hcw hcw' hbel x1 x2 x3 b1 b2 hb hb'
        cases r with
        | false =>
          have HF : Hid (R = false) := Lib.hid (HR.out.trans (sameFs_neg fun e => by
            have : l[j] = l'[j] := by simp only [e]
            rw [sameFT_pos this] at hr
            cases hr))
          clear hr hjl hjl'
          go_wp2_with (go_at_call 12; refine (HCa.out).mono ?_; rintro e w3 ⟨rfl, hb3⟩; have HB3 := Lib.hid (bthen HB2.out hb3); clear hb3)
          go_ret
          exact ⟨by rw [HF.out]; rfl, HB3.out⟩
        | true =>
          have HAll2 : Hid (∀ k (h1 : k < l.length) (h2 : k < l'.length), k < j + 1 → l[k] = l'[k]) := Lib.hid (fun k h1 h2 h3 => by
            by_cases hk : k < j
            · exact HAll.out k h1 h2 hk
            · obtain rfl : k = j := by omega
              exact Classical.byContradiction fun hn => by rw [sameFT_neg hn] at hr; cases hr)
          clear hr hjl hjl'
          go_wp2_with (go_at_call 12; refine (HCa.out).mono ?_; rintro e w3 ⟨rfl, hb3⟩; have HB3 := Lib.hid (bthen HB2.out hb3); clear hb3)
          go_roundw
          case rel => exact ⟨j + 1, by omega, by go_num, HAll2, HB3⟩
          case measure => simp [intOf]; omega
      · obtain rfl : j = n := by omega
        have t1 : decide ((j : Int) < (j : Int)) = false := by simp
        have t1' : decide (j < j) = false := by simp
        have HF : Hid (R = true) := Lib.hid (HR.out.trans (sameFs_pos (List.ext_getElem (by rw [← HN.out, ← HM.out]) fun k h1 h2 => HAll.out k h1 h2 (by rw [HN.out]; exact h1))))
        go_wp2
        go_ret
        exact ⟨by rw [HF.out]; rfl, HBr.out⟩
  · have t0 : ((n : Int) != (m : Int)) = true := by simp; omega
    have HF : Hid (R = false) := Lib.hid (HR.out.trans (sameFs_neg fun e => hnm (by rw [HN.out, HM.out, e])))
    clear hnm
    go_enter Tryd.func23, Tryd.ntmps23
    go_wp2
    go_ret
    exact ⟨by rw [HF.out]; rfl, Below.refl _ _⟩

set_option maxRecDepth 100000 in
set_option maxHeartbeats 8000000 in
theorem sameFlP_all : ∀ (n : Nat) (f : FT), SizeOf.sizeOf f ≤ n → fewP f → SamesF f := by
  intro n
  induction n with
  | zero =>
    intro f hn
    cases f
    simp at hn
  | succ n ih =>
    intro f hn hfew g v u w hf hg
    obtain ⟨k, t, x, p, l⟩ := f
    obtain ⟨k', t', x', p', l'⟩ := g
    obtain ⟨pa, pc, ka, kc, rfl, hwf, ht, hx, hp, hl, hkids⟩ := hf.parts
    obtain ⟨pa', pc', ka', kc', rfl, hwf', ht', hx', hp', hl', hkids'⟩ := hg.parts
    obtain ⟨T, hT, hTl⟩ := strV_text t
    obtain ⟨X, hX, hXl⟩ := strV_text x
    obtain ⟨T', hT', hTl'⟩ := strV_text t'
    obtain ⟨X', hX', hXl'⟩ := strV_text x'
    obtain ⟨S, hS⟩ : ∃ S, S = sameFT (.mk k t x p l) (.mk k' t' x' p' l') := ⟨_, rfl⟩
    rw [← hS]
    rw [hT, hX, hT', hX']
    have hp2 : IsT w.heap.size w p (.slice pa p.length pc) := hp
    have hp2' : IsT w.heap.size w p' (.slice pa' p'.length pc') := hp'
    have ih2 : ∀ f ∈ l, SamesF f := fun f hf => ih f (by
      have h1 := List.sizeOf_lt_of_mem hf
      simp only [FT.mk.sizeOf_spec] at hn
      omega) (fewPs_at hfew.2 f hf)
    obtain ⟨W0, hW0⟩ : ∃ W, W = w.alloc (.cells #[.int .i64 k, .string T, .string X, .slice pa p.length pc, .slice ka l.length kc] 25) := ⟨_, rfl⟩
    have hb0 : Below w.heap.size w W0 := by rw [hW0]; exact box5 w _ _ _ _ _
    have hs0 : W0.heap.size = w.heap.size + 1 := by rw [hW0]; simp
    have hx0 : FlAt W0 w.heap.size (.int .i64 k) (.string T) (.string X) (.slice pa p.length pc) (.slice ka l.length kc) := by rw [hW0]; exact heap_alloc_new w _
    obtain ⟨W1, hW1⟩ : ∃ W, W = W0.alloc (.cells #[.int .i64 k', .string T', .string X', .slice pa' p'.length pc', .slice ka' l'.length kc'] 25) := ⟨_, rfl⟩
    have hb1 : Below W0.heap.size W0 W1 := by rw [hW1]; exact box5 W0 _ _ _ _ _
    have hs1 : W1.heap.size = w.heap.size + 2 := by rw [hW1]; simp [hs0]
    have hx1 : FlAt W1 (w.heap.size + 1) (.int .i64 k') (.string T') (.string X') (.slice pa' p'.length pc') (.slice ka' l'.length kc') := by rw [hW1, ← hs0]; exact heap_alloc_new W0 _
    have hx2 : FlAt W1 w.heap.size (.int .i64 k) (.string T) (.string X) (.slice pa p.length pc) (.slice ka l.length kc) := fl_below hx0 hb1 (by omega)
    have hb2 : Below w.heap.size w W1 := bthen hb0 hb1
    have hW : (w.alloc (.cells #[.int .i64 k, .string T, .string X, .slice pa p.length pc, .slice ka l.length kc] 25)).alloc (.cells #[.int .i64 k', .string T', .string X', .slice pa' p'.length pc', .slice ka' l'.length kc'] 25) = W1 := by rw [hW1, hW0]
    have htx := equalT_any p p' hfew.1 _ _ W1 (hp2.below hb2 hb2.size) (hp2'.below hb2 hb2.size)
    have hki := fun W (hW : Below W1.heap.size W1 W) => eqFl_any l l' ih2 ka ka' kc kc' W hl hl' ((hkids.imp (ok' := Lt W1) (fun b h => Nat.lt_of_lt_of_le h hb2.size) (fun b o h => hb2.cell (p := ⟨b, o, none⟩) h)).below hW) ((hkids'.imp (ok' := Lt W1) (fun b h => Nat.lt_of_lt_of_le h hb2.size) (fun b o h => hb2.cell (p := ⟨b, o, none⟩) h)).below hW)
    obtain ⟨q, hq⟩ : ∃ q, q = l.length := ⟨_, rfl⟩
    obtain ⟨q', hq'⟩ : ∃ q', q' = l'.length := ⟨_, rfl⟩
    obtain ⟨m, hm⟩ : ∃ m, m = p.length := ⟨_, rfl⟩
    obtain ⟨m', hm'⟩ : ∃ m', m' = p'.length := ⟨_, rfl⟩
    rw [← hq, ← hq', ← hm, ← hm'] at hW ⊢
    rw [← hm, ← hm'] at htx
    rw [← hq, ← hq'] at hki
    rw [← hm, ← hq] at hx2
    rw [← hm', ← hq'] at hx1
    obtain ⟨a0, a1, a2, a3, a4⟩ := fl_cells hx2
    obtain ⟨c0, c1, c2, c3, c4⟩ := fl_cells hx1
    have HW := Lib.hid hW
    have HB := Lib.hid hb2
    have HS1 := Lib.hid hs1
    have HS := Lib.hid hS
    have HTx := Lib.hid htx
    have HKi := Lib.hid hki
    have HP : Hid (k = k' ∧ T = T' ∧ X = X' ∧ p = p' ∧ l = l' ↔ FT.mk k t x p l = FT.mk k' t' x' p' l') := Lib.hid (by
      constructor
      · rintro ⟨rfl, rfl, rfl, rfl, rfl⟩
        rw [← hTl, ← hXl, ← hTl', ← hXl']
      · intro e
        cases e
        exact ⟨rfl, bytes_ext (by rw [hTl, hTl']), bytes_ext (by rw [hXl, hXl']), rfl, rfl⟩)
    clear hW0 hW1 hW hx0 hx1 hx2 hb0 hb1 hb2 hs0 hs1 hS hT hX hT' hX' hTl hXl hTl' hXl' hp hp' hp2 hp2' hm hm' hq hq' ht hx ht' hx' hf hg hwf hwf' htx hki hkids hkids' hfew ih ih2 hn hl hl'
    by_cases hk : k = k'
    · subst hk
      have t1 : (k == k) = true := by simp
      by_cases hT : T = T'
      · subst hT
        by_cases hX : X = X'
        · subst hX
          by_cases hpp : p = p'
          · have e3 : (p == p') = true := by simpa using hpp
            rw [e3] at HTx
            by_cases hll : l = l'
            · have hks : sameFs l l' = true := sameFs_pos hll
              have hf : S = true := HS.out.trans (sameFT_pos (HP.out.1 ⟨rfl, rfl, rfl, hpp, hll⟩))
              have HF := Lib.hid hf
              have HKi2 : Hid (∀ W, Below W1.heap.size W1 W → Calls Tryd.prog 23 #[.slice ka q kc, .slice ka' q' kc', .func (.func 12) #[] #[]] W fun e w' => e = .returned (.bool true) ∧ Below W.heap.size W w') := Lib.hid (by have := HKi.out; rw [hks] at this; exact this)
              clear hks hf hll hpp HKi e3
              go_enter Tryd.func12, Tryd.ntmps12
              go_upto_region 1 with (fail)
              rw [HW.out]
              go_wp2_with (first
                | (go_at_call 22; refine (HTx.out).mono ?_; rintro e w2 ⟨rfl, hb2⟩; have d4 := (hb2.cell (p := ⟨w.heap.size, 4, none⟩) (by have := HS1.out; show w.heap.size < _; omega)).trans a4; have f4 := (hb2.cell (p := ⟨w.heap.size + 1, 4, none⟩) (by have := HS1.out; show w.heap.size + 1 < _; omega)).trans c4; have HB2 := Lib.hid hb2; clear hb2)
                | (go_at_call 23; refine (HKi2.out _ HB2.out).mono ?_; rintro e w3 ⟨rfl, hb3⟩; have HB3 := Lib.hid (bthen HB2.out hb3); clear hb3))
              go_ret
              exact ⟨by rw [HF.out]; rfl, bthen HB.out HB3.out⟩
            · have hks : sameFs l l' = false := sameFs_neg hll
              have hf : S = false := HS.out.trans (sameFT_neg fun e => hll (HP.out.2 e).2.2.2.2)
              have HF := Lib.hid hf
              have HKi2 : Hid (∀ W, Below W1.heap.size W1 W → Calls Tryd.prog 23 #[.slice ka q kc, .slice ka' q' kc', .func (.func 12) #[] #[]] W fun e w' => e = .returned (.bool false) ∧ Below W.heap.size W w') := Lib.hid (by have := HKi.out; rw [hks] at this; exact this)
              clear hks hf hll hpp HKi e3
              go_enter Tryd.func12, Tryd.ntmps12
              go_upto_region 1 with (fail)
              rw [HW.out]
              go_wp2_with (first
                | (go_at_call 22; refine (HTx.out).mono ?_; rintro e w2 ⟨rfl, hb2⟩; have d4 := (hb2.cell (p := ⟨w.heap.size, 4, none⟩) (by have := HS1.out; show w.heap.size < _; omega)).trans a4; have f4 := (hb2.cell (p := ⟨w.heap.size + 1, 4, none⟩) (by have := HS1.out; show w.heap.size + 1 < _; omega)).trans c4; have HB2 := Lib.hid hb2; clear hb2)
                | (go_at_call 23; refine (HKi2.out _ HB2.out).mono ?_; rintro e w3 ⟨rfl, hb3⟩; have HB3 := Lib.hid (bthen HB2.out hb3); clear hb3))
              go_ret
              exact ⟨by rw [HF.out]; rfl, bthen HB.out HB3.out⟩
          · have e3 : (p == p') = false := by simpa using hpp
            rw [e3] at HTx
            have HF : Hid (S = false) := Lib.hid (HS.out.trans (sameFT_neg fun e => hpp (HP.out.2 e).2.2.2.1))
            clear hpp e3
            go_enter Tryd.func12, Tryd.ntmps12
            go_upto_region 1 with (fail)
            rw [HW.out]
            go_wp2_with (go_at_call 22; refine (HTx.out).mono ?_; rintro e w2 ⟨rfl, hb2⟩; have HB2 := Lib.hid hb2; clear hb2)
            go_ret
            exact ⟨by rw [HF.out]; rfl, bthen HB.out HB2.out⟩
        · have t3 := str_ne hX
          have HF : Hid (S = false) := Lib.hid (HS.out.trans (sameFT_neg fun e => hX (HP.out.2 e).2.2.1))
          clear hX
          go_enter Tryd.func12, Tryd.ntmps12
          go_upto_region 1 with (fail)
          rw [HW.out]
          go_wp2
          go_ret
          exact ⟨by rw [HF.out]; rfl, HB.out⟩
      · have t2 := str_ne hT
        have HF : Hid (S = false) := Lib.hid (HS.out.trans (sameFT_neg fun e => hT (HP.out.2 e).2.1))
        clear hT
        go_enter Tryd.func12, Tryd.ntmps12
        go_upto_region 1 with (fail)
        rw [HW.out]
        go_wp2
        go_ret
        exact ⟨by rw [HF.out]; rfl, HB.out⟩
    · have t1 : (k == k') = false := by simpa using hk
      have HF : Hid (S = false) := Lib.hid (HS.out.trans (sameFT_neg fun e => hk (HP.out.2 e).1))
      clear hk
      go_enter Tryd.func12, Tryd.ntmps12
      go_upto_region 1 with (fail)
      rw [HW.out]
      go_wp2
      go_ret
      exact ⟨by rw [HF.out]; rfl, HB.out⟩
end Go.Proofs.YtmpicolplknomaaDoor

/- filter.head: the walk. -/
namespace Go.Proofs.YtmpicolplknomaaDoor
open Go.RowKit
set_option linter.unusedVariables false
set_option linter.unusedSimpArgs false

def sgH : Nat → UInt8
  | 0 => 38
  | 1 => 124
  | _ => 33
def kdH : Nat → Int
  | 0 => 1
  | 1 => 2
  | _ => 3
theorem sgH_kd : ∀ j, j < 3 → signF (kdH j) = [sgH j] := by decide
theorem kdH_wf : ∀ j, j < 3 → (Lit.int .i64 (kdH j)).wf = true := by decide
theorem preFl (x : UInt8) (l : List UInt8) : Lib.hasPrefix l [x] = true ↔ l.head? = some x := by
  cases l with
  | nil => simp [Lib.hasPrefix]
  | cons c r =>
    show ((x == c && List.isPrefixOf [] r) = true) ↔ some c = some x
    rw [Bool.and_eq_true, beq_iff_eq]
    constructor
    · rintro ⟨rfl, _⟩; rfl
    · intro h; cases h; exact ⟨rfl, rfl⟩
theorem preFl_not {x : UInt8} {l : List UInt8} (h : Lib.hasPrefix l [x] = false) : ¬ l.head? = some x := fun e => by rw [(preFl x l).2 e] at h; cases h
theorem headFl_step (d : Nat) (r : List UInt8) : headD (d + 1) (40 :: r) = if r.head? = some 38 then holdD (headD d) 1 (r.drop 1) else if r.head? = some 124 then holdD (headD d) 2 (r.drop 1) else if r.head? = some 33 then holdD (headD d) 3 (r.drop 1)
      else if r.contains 41 then (leafD (r.takeWhile (· ≠ 41))).map fun f => (f, (r.dropWhile (· ≠ 41)).drop 1) else none := rfl
theorem headFl_not {d : Nat} {s : List UInt8} (h : Lib.hasPrefix s [40] = false) : headD (d + 1) s = none := by
  have hn := preFl_not h
  match s, hn with
  | [], _ => rfl
  | c :: r, hn =>
    have hc : c ≠ 40 := fun e => hn (by rw [e]; rfl)
    unfold headD
    split
    · rename_i e
      cases e
      exact absurd rfl hc
    · rfl
theorem headFl_at {d j : Nat} {r : List UInt8} (hj : j < 3) (h : ∀ i, i < j → Lib.hasPrefix r [sgH i] = false) (hp : Lib.hasPrefix r [sgH j] = true) : headD (d + 1) (40 :: r) = holdD (headD d) (kdH j) (r.drop 1) := by
  have hp' := (preFl _ _).1 hp
  rw [headFl_step]
  match j, hj with
  | 0, _ => exact if_pos hp'
  | 1, _ =>
    rw [if_neg (show ¬ r.head? = some 38 from preFl_not (h 0 (by omega)))]
    exact if_pos hp'
  | 2, _ =>
    rw [if_neg (show ¬ r.head? = some 38 from preFl_not (h 0 (by omega))), if_neg (show ¬ r.head? = some 124 from preFl_not (h 1 (by omega)))]
    exact if_pos hp'
theorem headFl_leaf {d : Nat} {r : List UInt8} (h : ∀ i, i < 3 → Lib.hasPrefix r [sgH i] = false) : headD (d + 1) (40 :: r) = if r.contains 41 then (leafD (r.takeWhile (· ≠ 41))).map fun f => (f, (r.dropWhile (· ≠ 41)).drop 1) else none := by
  rw [headFl_step, if_neg (show ¬ r.head? = some 38 from preFl_not (h 0 (by omega))), if_neg (show ¬ r.head? = some 124 from preFl_not (h 1 (by omega))), if_neg (show ¬ r.head? = some 33 from preFl_not (h 2 (by omega)))]
theorem headFl_less {d : Nat} {q : List UInt8} {f : FT} {r : List UInt8} (h : headD d q = some (f, r)) : r.length < q.length ∧ ∀ c ∈ r, c ∈ q := by
  obtain ⟨_, e⟩ := head_sound d q f r h
  obtain ⟨t, ht⟩ := textF_cons f
  rw [e, ht]
  exact ⟨by simp; omega, fun c hc => by simp [hc]⟩

set_option maxRecDepth 100000 in
set_option maxHeartbeats 8000000 in
theorem headFl_all : ∀ (d above : Nat), above + d = 13 → HeadIs above (headD d)
  | 0, above, hd, s, w, hs, ha => by
    have h13 : above = 13 := by omega
    subst h13
    obtain ⟨W0, hW0⟩ : ∃ W, W = w.alloc zF := ⟨_, rfl⟩
    have hb0 : Below w.heap.size w W0 := by rw [hW0]; exact box5 w _ _ _ _ _
    have hx0 : FzAt W0 w.heap.size := by rw [hW0]; exact heap_alloc_new w _
    have HW0 := Lib.hid hW0.symm
    obtain ⟨c0, c1, c2, c3, c4⟩ := fl_cells hx0
    obtain ⟨f0, f1, f2, f3, f4⟩ := fl_frozen hx0
    obtain ⟨z0, z1, z2, z3, z4⟩ := fl_cells (fl_set hx0 (.int .i64 0) (.string ⟨#[]⟩) (.string ⟨#[]⟩) (.slice none 0 0) (.slice none 0 0))
    unfold set5F at z0 z1 z2 z3 z4
    have HF := Lib.hid (fl_setB hb0 (Nat.le_refl w.heap.size) (.int .i64 0) (.string ⟨#[]⟩) (.string ⟨#[]⟩) (.slice none 0 0) (.slice none 0 0))
    clear hW0 hb0 hx0 hs ha hd
    go_enter Tryd.func15, Tryd.ntmps15
    go_upto_region 1 with (fail)
    rw [HW0.out]
    go_wp2
    refine bodyPost_ret (v := .tuple #[.agg #[.int .i64 0, .string ⟨#[]⟩, .string ⟨#[]⟩, .slice none 0 0, .slice none 0 0], .string ⟨#[]⟩, .bool false]) (by simp [results, Tryd.results15, go_sem, z0, z1, z2, z3, z4]) rfl ⟨_, _, _, rfl, ⟨rfl, rfl⟩, HF.out⟩
  | d + 1, above, hd, s, w, hs, ha => by
    have H : HeadIs (above + 1) (headD d) := headFl_all d (above + 1) (by omega)
    have HHo := Lib.hid (fun (k : Int) hk (s : ByteArray) hs ha w => holderFl_any H (fun q f r h => headFl_less h) k hk (by omega : above ≤ 100) s hs ha w)
    obtain ⟨l, hl⟩ : ∃ l, l = s.data.toList := ⟨_, rfl⟩
    rw [← hl]
    obtain ⟨W0, hW0⟩ : ∃ W, W = w.alloc zF := ⟨_, rfl⟩
    have hb0 : Below w.heap.size w W0 := by rw [hW0]; exact box5 w _ _ _ _ _
    have hx0 : FzAt W0 w.heap.size := by rw [hW0]; exact heap_alloc_new w _
    have HB0 := Lib.hid hb0
    have HX0 := Lib.hid hx0
    have HW0 := Lib.hid hW0.symm
    have ta : decide ((12 : Int) < (above : Int)) = false := by simp; omega
    have ta2 : decide (12 < above) = false := by simp; omega
    have hcp := fun W => cutPre_any s ⟨#[40]⟩ (by decide) W
    cases h40 : Lib.hasPrefix l [40] with
    | false =>
      have HA := Lib.hid (headFl_not (d := d) h40)
      rw [← hl, show (⟨#[40]⟩ : ByteArray).data.toList = [40] from rfl, h40, if_neg (by decide)] at hcp
      have HC := Lib.hid hcp
      have hfx := hx0
      have hbx := hb0
      have HBx := Lib.hid hbx; (obtain ⟨c0, c1, c2, c3, c4⟩ := fl_cells hfx); (obtain ⟨f0, f1, f2, f3, f4⟩ := fl_frozen hfx); (obtain ⟨z0, z1, z2, z3, z4⟩ := fl_cells (fl_set hfx (.int .i64 0) (.string ⟨#[]⟩) (.string ⟨#[]⟩) (.slice none 0 0) (.slice none 0 0))); unfold set5F at z0 z1 z2 z3 z4; clear hfx hbx
      clear hb0 hx0 hW0 hs ha hd H hcp h40 hl
      go_enter Tryd.func15, Tryd.ntmps15
      go_upto_region 1 with (fail)
      rw [HW0.out]
      go_wp2_with (go_at_call 25; refine (HC.out _).mono ?_; rintro e w2 ⟨rfl, rfl⟩)
      have hbz := fl_setB HBx.out (Nat.le_refl w.heap.size) (.int .i64 0) (.string ⟨#[]⟩) (.string ⟨#[]⟩) (.slice none 0 0) (.slice none 0 0)
      refine bodyPost_ret (v := .tuple #[.agg #[.int .i64 0, .string ⟨#[]⟩, .string ⟨#[]⟩, .slice none 0 0, .slice none 0 0], .string ⟨#[]⟩, .bool false]) (by simp [results, Tryd.results15, go_sem, z0, z1, z2, z3, z4]) rfl ⟨_, _, _, rfl, ?_, hbz⟩
      rw [HA.out]
      exact ⟨rfl, rfl⟩
    | true =>
      obtain ⟨Y, hY⟩ : ∃ Y, Y = s.extract 1 s.size := ⟨_, rfl⟩
      obtain ⟨r, hr⟩ : ∃ r, r = l.drop 1 := ⟨_, rfl⟩
      have hYl : Y.data.toList = r := by rw [hY, ext_list, hr, hl]
      have hle : l = 40 :: r := by rw [hr]; exact pre_eqFl h40
      have hYs : Y.size ≤ 1000000 := by rw [← bytes_len, hYl, hr, List.length_drop, hl, bytes_len]; omega
      have hYa : ascii r := fun c hc => ha c (by rw [← hl, hr] at *; exact List.mem_of_mem_drop hc)
      rw [← hl, show (⟨#[40]⟩ : ByteArray).data.toList = [40] from rfl, h40, if_pos rfl, show (⟨#[40]⟩ : ByteArray).size = 1 from rfl, ← hY] at hcp
      have HC := Lib.hid hcp
      have HYl := Lib.hid hYl
      have HYs := Lib.hid hYs
      have HYa := Lib.hid hYa
      have HSg : Hid (∀ j, j < 3 → ∀ W, Calls Tryd.prog 26 #[.int .i64 (kdH j)] W fun e w' => e = .returned (.string (ofL [sgH j])) ∧ W = w') := Lib.hid (fun j hj W => by
        have := sign_any (kdH j) W
        rwa [sgH_kd j hj] at this)
      have HCq : Hid (∀ j W, Calls Tryd.prog 25 #[.string Y, .string (ofL [sgH j])] W fun e w' => e = .returned (if Lib.hasPrefix r [sgH j] then .tuple #[.string (Y.extract 1 Y.size), .bool true] else .tuple #[.string Y, .bool false]) ∧ W = w') := Lib.hid (fun j W => by
        have hz : (ofL [sgH j]).size = 1 := by rw [← bytes_len, ofL_list]; rfl
        have := cutPre_any Y (ofL [sgH j]) (by rw [hz]; omega) W
        rwa [ofL_list, hz, hYl] at this)
      obtain ⟨W6, hW6⟩ : ∃ W, W = W0.alloc (.cells #[.int .i64 1, .int .i64 2, .int .i64 3] 3) := ⟨_, rfl⟩
      have HW6 := Lib.hid hW6.symm
      have hb6 : Below W0.heap.size W0 W6 := by rw [hW6]; exact (Below.refl _ _).alloc (Nat.le_refl _) _
      have HK6 : Hid (∀ j, j < 3 → W6.cell? ⟨W0.heap.size, j, none⟩ = some (.int .i64 (kdH j))) := Lib.hid (fun j hj => by
        have hb : W6.heap[W0.heap.size]? = some (.cells #[.int .i64 1, .int .i64 2, .int .i64 3] 3 (0, 0)) := by rw [hW6]; exact heap_alloc_new _ _
        match j, hj with
        | 0, _ => simp [World.cell?, hb, kdH]
        | 1, _ => simp [World.cell?, hb, kdH]
        | 2, _ => simp [World.cell?, hb, kdH])
      have HX6 := Lib.hid (fl_below hx0 hb6 (fl_lt hx0))
      have HB6 := Lib.hid (bthen hb0 hb6)
      have HLt : Hid (w.heap.size < W6.heap.size) := Lib.hid (Nat.lt_of_lt_of_le (fl_lt hx0) hb6.size)
      rw [hle]
      clear hb0 hx0 hW0 hs ha hd H hcp h40 hl hY hr hYl hle hYs hYa hW6 hb6
      go_enter Tryd.func15, Tryd.ntmps15
      go_upto_region 1 with (fail)
      rw [HW0.out]
      go_upto_region 6 with (go_at_call 25; refine (HC.out _).mono ?_; rintro e w2 ⟨rfl, rfl⟩)
      go_wp2
      rw [HW6.out]
      go_loopw [25] (fun s25 wr => ∃ j : Nat, j ≤ 3 ∧ s25 = .int .i64 j ∧ Hid (W6 = wr) ∧ Hid (∀ i, i < j → Lib.hasPrefix r [sgH i] = false)) (fun s25 _ => 3 - (intOf s25).toNat)
      case atStart => exact ⟨0, by omega, rfl, (by first | exact Lib.hid rfl | exact Lib.hid trivial), Lib.hid (fun i hi => absurd hi (Nat.not_lt_zero _))⟩
      case round =>
        obtain ⟨j, hj, rfl, HWr, HNo⟩ := hrel
        rename World => wo
        obtain rfl := HWr.out
        by_cases hlt : j < 3
        · have hcj := HK6.out j hlt
          have HSj := Lib.hid (HSg.out j hlt)
          have hcq := HCq.out j
          have ti0 : (0 : Int) ≤ (j : Int) := by omega
          have ti1 : (j : Int) < 3 := by omega
          cases hpre : Lib.hasPrefix r [sgH j] with
          | false =>
            rw [hpre, if_neg (by decide)] at hcq
            have HCj := Lib.hid hcq
            have HNo2 : Hid (∀ i, i < j + 1 → Lib.hasPrefix r [sgH i] = false) := Lib.hid (fun i hi => by
              by_cases e : i = j
              · rw [e]; exact hpre
              · exact HNo.out i (by omega))
            clear hcq hpre
            go_wp2_with (first
              | (go_at_call 26; refine (HSj.out _).mono ?_; rintro e w2 ⟨rfl, rfl⟩)
              | (go_at_call 25; refine (HCj.out _).mono ?_; rintro e w2 ⟨rfl, rfl⟩))
            go_roundw
            case rel => exact ⟨j + 1, by omega, by go_num, (by first | exact Lib.hid rfl | exact Lib.hid trivial), HNo2⟩
            case measure => simp [intOf]; omega
          | true =>
            rw [hpre, if_pos rfl] at hcq
            have hA := headFl_at (d := d) hlt HNo.out hpre
            obtain ⟨Q, hQ⟩ : ∃ Q, Q = Y.extract 1 Y.size := ⟨_, rfl⟩
            have hQl : Q.data.toList = r.drop 1 := by rw [hQ, ext_list, HYl.out]
            rw [← hQ] at hcq
            have HCj := Lib.hid hcq
            have hrs : r.length ≤ 1000000 := by rw [← HYl.out, bytes_len]; exact HYs.out
            have hho := HHo.out (kdH j) (kdH_wf j hlt) Q (by rw [← bytes_len, hQl, List.length_drop]; omega) (by rw [hQl]; exact fun c hc => HYa.out c (List.mem_of_mem_drop hc)) W6
            rw [hQl] at hho
            obtain ⟨o, ho⟩ : ∃ o, o = holdD (headD d) (kdH j) (r.drop 1) := ⟨_, rfl⟩
            rw [← ho] at hho hA
            have HA := Lib.hid hA
            have HHj := Lib.hid hho
            clear hcq hpre hQ hQl hrs hho ho hA
            cases o with
            | none =>
              go_wp2_with (first
                | (go_at_call 26; refine (HSj.out _).mono ?_; rintro e w2 ⟨rfl, rfl⟩)
                | (go_at_call 25; refine (HCj.out _).mono ?_; rintro e w2 ⟨rfl, rfl⟩)
                | (go_at_call 27; refine (HHj.out).mono ?_; rintro e wz ⟨x, q, b, rfl, ⟨rfl, rfl⟩, hb3⟩; have hfx := fl_below HX6.out hb3 (fl_lt HX6.out); have hbx := bthen HB6.out hb3; have HBx := Lib.hid hbx; (obtain ⟨c0, c1, c2, c3, c4⟩ := fl_cells hfx); (obtain ⟨f0, f1, f2, f3, f4⟩ := fl_frozen hfx); (obtain ⟨z0, z1, z2, z3, z4⟩ := fl_cells (fl_set hfx (.int .i64 0) (.string ⟨#[]⟩) (.string ⟨#[]⟩) (.slice none 0 0) (.slice none 0 0))); unfold set5F at z0 z1 z2 z3 z4; clear hfx hbx))
              have hbz := fl_setB HBx.out (Nat.le_refl w.heap.size) (.int .i64 0) (.string ⟨#[]⟩) (.string ⟨#[]⟩) (.slice none 0 0) (.slice none 0 0)
              refine bodyPost_ret (v := .tuple #[.agg #[.int .i64 0, .string ⟨#[]⟩, .string ⟨#[]⟩, .slice none 0 0, .slice none 0 0], .string q, .bool false]) (by simp [results, Tryd.results15, go_sem, z0, z1, z2, z3, z4]) rfl ⟨_, _, _, rfl, ?_, hbz⟩
              rw [HA.out]
              exact ⟨rfl, rfl⟩
            | some fq =>
              obtain ⟨f, qq⟩ := fq
              go_wp2_with (first
                | (go_at_call 26; refine (HSj.out _).mono ?_; rintro e w2 ⟨rfl, rfl⟩)
                | (go_at_call 25; refine (HCj.out _).mono ?_; rintro e w2 ⟨rfl, rfl⟩)
                | (go_at_call 27; refine (HHj.out).mono ?_; rintro e wz ⟨x, q, b, rfl, ⟨hfl, hq, rfl⟩, hb3⟩; (obtain ⟨kk, T, X, pa, pn, pc, ka, kn, kc, e⟩ := hfl.shape); subst e; have HFl := Lib.hid hfl; have HQ := Lib.hid hq; have hfx := fl_below HX6.out hb3 (fl_lt HX6.out); have hbx := bthen HB6.out hb3; have HBx := Lib.hid hbx; (obtain ⟨c0, c1, c2, c3, c4⟩ := fl_cells hfx); (obtain ⟨f0, f1, f2, f3, f4⟩ := fl_frozen hfx); (obtain ⟨z0, z1, z2, z3, z4⟩ := fl_cells (fl_set hfx (.int .i64 kk) (.string T) (.string X) (.slice pa pn pc) (.slice ka kn kc))); unfold set5F at z0 z1 z2 z3 z4; clear hfx hbx; clear hfl hq hb3))
              have hbz := fl_setB HBx.out (Nat.le_refl w.heap.size) (.int .i64 kk) (.string T) (.string X) (.slice pa pn pc) (.slice ka kn kc)
              have hfn : IsFl (fun b => w.heap.size ≤ b ∧ b < (set5F wz w.heap.size (.int .i64 kk) (.string T) (.string X) (.slice pa pn pc) (.slice ka kn kc)).heap.size) (set5F wz w.heap.size (.int .i64 kk) (.string T) (.string X) (.slice pa pn pc) (.slice ka kn kc)) f (.agg #[.int .i64 kk, .string T, .string X, .slice pa pn pc, .slice ka kn kc]) := by
                refine (HFl.out).imp (fun b h => ⟨?_, ?_⟩) (fun b o h => ?_)
                · exact fl_setC (by have := h.1; have := HLt.out; omega)
                · have := h.1; have := HLt.out; omega
                · rw [set5F_size]; exact h.2
              refine bodyPost_ret (v := .tuple #[.agg #[.int .i64 kk, .string T, .string X, .slice pa pn pc, .slice ka kn kc], .string q, .bool true]) (by simp [results, Tryd.results15, go_sem, z0, z1, z2, z3, z4]) rfl ⟨_, _, _, rfl, ?_, hbz⟩
              rw [HA.out]
              exact ⟨hfn, HQ.out, rfl⟩
        · have h3 : j = 3 := by omega
          subst h3
          have hA := headFl_leaf (d := d) HNo.out
          have hcb := fun W => cutB_any 41 Y W (by have := HYs.out; omega)
          rw [HYl.out] at hcb
          cases h41 : r.contains 41 with
          | false =>
            rw [h41, if_neg (by decide)] at hA
            obtain ⟨A, hAv, _⟩ := strV_text r
            have hcv : cutBV 41 r = .tuple #[.string A, .string ⟨#[]⟩, .bool false] := by
              unfold cutBV
              rw [h41, if_neg (by decide), hAv]
              rfl
            rw [hcv] at hcb
            have HCb := Lib.hid hcb
            have HA := Lib.hid hA
            clear hcb hA h41 hAv hcv
            go_wp2_with (go_at_call 28; refine (HCb.out _).mono ?_; rintro e wz ⟨rfl, n9, hw9⟩; have hb3 : Below W6.heap.size W6 wz := by { rw [← hw9]; exact below_drewN2 (Below.refl _ _) n9 }; clear hw9; have hfx := fl_below HX6.out hb3 (fl_lt HX6.out); have hbx := bthen HB6.out hb3; have HBx := Lib.hid hbx; (obtain ⟨c0, c1, c2, c3, c4⟩ := fl_cells hfx); (obtain ⟨f0, f1, f2, f3, f4⟩ := fl_frozen hfx); (obtain ⟨z0, z1, z2, z3, z4⟩ := fl_cells (fl_set hfx (.int .i64 0) (.string ⟨#[]⟩) (.string ⟨#[]⟩) (.slice none 0 0) (.slice none 0 0))); unfold set5F at z0 z1 z2 z3 z4; clear hfx hbx; clear hb3)
            have hbz := fl_setB HBx.out (Nat.le_refl w.heap.size) (.int .i64 0) (.string ⟨#[]⟩) (.string ⟨#[]⟩) (.slice none 0 0) (.slice none 0 0)
            refine bodyPost_ret (v := .tuple #[.agg #[.int .i64 0, .string ⟨#[]⟩, .string ⟨#[]⟩, .slice none 0 0, .slice none 0 0], .string ⟨#[]⟩, .bool false]) (by simp [results, Tryd.results15, go_sem, z0, z1, z2, z3, z4]) rfl ⟨_, _, _, rfl, ?_, hbz⟩
            rw [HA.out]
            exact ⟨rfl, rfl⟩
          | true =>
            rw [h41, if_pos rfl] at hA
            obtain ⟨A, hAv, hAl⟩ := strV_text (r.takeWhile (· ≠ 41))
            obtain ⟨Bq, hBv, hBl⟩ := strV_text ((r.dropWhile (· ≠ 41)).drop 1)
            have hcv : cutBV 41 r = .tuple #[.string A, .string Bq, .bool true] := by
              unfold cutBV
              rw [h41, if_pos rfl, hAv, hBv]
            rw [hcv] at hcb
            have HCb := Lib.hid hcb
            have hrs : r.length ≤ 1000000 := by rw [← HYl.out, bytes_len]; exact HYs.out
            have hAs : A.size ≤ 1000000 := by
              rw [← bytes_len, hAl]
              exact Nat.le_trans (List.takeWhile_prefix _).length_le hrs
            have hlf := fun W => leaf_any A hAs (by rw [hAl]; exact fun c hc => HYa.out c ((List.takeWhile_prefix _).subset hc)) W
            rw [hAl] at hlf
            obtain ⟨o, ho⟩ : ∃ o, o = leafD (r.takeWhile (· ≠ 41)) := ⟨_, rfl⟩
            rw [← ho] at hlf hA
            have HLf := Lib.hid hlf
            have HA := Lib.hid hA
            have HBq := Lib.hid hBl
            clear hcb hA h41 hAv hcv hBv hrs hAs hlf ho hAl hBl
            cases o with
            | none =>
              go_upto_region 17 with (first
                | (go_at_call 28; refine (HCb.out _).mono ?_; rintro e wy ⟨rfl, n9, hw9⟩; have hb3 : Below W6.heap.size W6 wy := by { rw [← hw9]; exact below_drewN2 (Below.refl _ _) n9 }; clear hw9; have HB3 := Lib.hid hb3; clear hb3)
                | (go_at_call 29; refine (HLf.out _).mono ?_; rintro e wz ⟨x, b, rfl, ⟨rfl, rfl⟩, hb4⟩; have hfx := fl_below (fl_below HX6.out HB3.out (fl_lt HX6.out)) hb4 (Nat.lt_of_lt_of_le (fl_lt HX6.out) HB3.out.size); have hbx := bthen (bthen HB6.out HB3.out) hb4; have HBx := Lib.hid hbx; have HFx := Lib.hid hfx; (obtain ⟨c0, c1, c2, c3, c4⟩ := fl_cells hfx); (obtain ⟨f0, f1, f2, f3, f4⟩ := fl_frozen hfx); clear hfx hbx; clear hb4))
              obtain ⟨W9, hW9⟩ : ∃ W, W = set5F wz w.heap.size (.int .i64 0) (.string ⟨#[]⟩) (.string ⟨#[]⟩) (.slice none 0 0) (.slice none 0 0) := ⟨_, rfl⟩
              have h9b : Below w.heap.size w W9 := by rw [hW9]; exact fl_setB HBx.out (Nat.le_refl w.heap.size) (.int .i64 0) (.string ⟨#[]⟩) (.string ⟨#[]⟩) (.slice none 0 0) (.slice none 0 0)
              have h9s : W9.heap.size = wz.heap.size := by rw [hW9]; exact set5F_size _ _ _ _ _ _ _
              have h9c : ∀ b o, b ≠ w.heap.size → W9.cell? ⟨b, o, none⟩ = wz.cell? ⟨b, o, none⟩ := fun b o h => by rw [hW9]; exact fl_setC h
              have h9f : FlAt W9 w.heap.size (.int .i64 0) (.string ⟨#[]⟩) (.string ⟨#[]⟩) (.slice none 0 0) (.slice none 0 0) := by rw [hW9]; exact fl_set HFx.out (.int .i64 0) (.string ⟨#[]⟩) (.string ⟨#[]⟩) (.slice none 0 0) (.slice none 0 0)
              unfold set5F at hW9
              rw [← hW9]
              have H9b := Lib.hid h9b
              have H9s := Lib.hid h9s
              have H9c := Lib.hid h9c
              clear c0 c1 c2 c3 c4 f0 f1 f2 f3 f4 hW9 h9b h9s h9c
              obtain ⟨c0, c1, c2, c3, c4⟩ := fl_cells h9f
              obtain ⟨f0, f1, f2, f3, f4⟩ := fl_frozen h9f
              obtain ⟨z0, z1, z2, z3, z4⟩ := fl_cells (fl_set h9f (.int .i64 0) (.string ⟨#[]⟩) (.string ⟨#[]⟩) (.slice none 0 0) (.slice none 0 0))
              unfold set5F at z0 z1 z2 z3 z4
              clear h9f
              go_wp2
              have hbz := fl_setB H9b.out (Nat.le_refl w.heap.size) (.int .i64 0) (.string ⟨#[]⟩) (.string ⟨#[]⟩) (.slice none 0 0) (.slice none 0 0)
              refine bodyPost_ret (v := .tuple #[.agg #[.int .i64 0, .string ⟨#[]⟩, .string ⟨#[]⟩, .slice none 0 0, .slice none 0 0], .string Bq, .bool false]) (by simp [results, Tryd.results15, go_sem, z0, z1, z2, z3, z4]) rfl ⟨_, _, _, rfl, ?_, hbz⟩
              rw [HA.out]
              exact ⟨rfl, rfl⟩
            | some f =>
              go_upto_region 17 with (first
                | (go_at_call 28; refine (HCb.out _).mono ?_; rintro e wy ⟨rfl, n9, hw9⟩; have hb3 : Below W6.heap.size W6 wy := by { rw [← hw9]; exact below_drewN2 (Below.refl _ _) n9 }; clear hw9; have HB3 := Lib.hid hb3; have HLy := Lib.hid hb3.size; clear hb3)
                | (go_at_call 29; refine (HLf.out _).mono ?_; rintro e wz ⟨x, b, rfl, ⟨hfl, rfl⟩, hb4⟩; (obtain ⟨kk, T, X, pa, pn, pc, ka, kn, kc, e⟩ := hfl.shape); subst e; have HFl := Lib.hid (hfl.imp (ok' := fun b => W6.heap.size ≤ b ∧ b < wz.heap.size) (fun b h => ⟨Nat.le_trans HLy.out h.1, h.2⟩) (fun _ _ _ => rfl)); have hfx := fl_below (fl_below HX6.out HB3.out (fl_lt HX6.out)) hb4 (Nat.lt_of_lt_of_le (fl_lt HX6.out) HB3.out.size); have hbx := bthen (bthen HB6.out HB3.out) hb4; have HBx := Lib.hid hbx; have HFx := Lib.hid hfx; (obtain ⟨c0, c1, c2, c3, c4⟩ := fl_cells hfx); (obtain ⟨f0, f1, f2, f3, f4⟩ := fl_frozen hfx); clear hfx hbx; clear hb4 hfl))
              obtain ⟨W9, hW9⟩ : ∃ W, W = set5F wz w.heap.size (.int .i64 kk) (.string T) (.string X) (.slice pa pn pc) (.slice ka kn kc) := ⟨_, rfl⟩
              have h9b : Below w.heap.size w W9 := by rw [hW9]; exact fl_setB HBx.out (Nat.le_refl w.heap.size) (.int .i64 kk) (.string T) (.string X) (.slice pa pn pc) (.slice ka kn kc)
              have h9s : W9.heap.size = wz.heap.size := by rw [hW9]; exact set5F_size _ _ _ _ _ _ _
              have h9c : ∀ b o, b ≠ w.heap.size → W9.cell? ⟨b, o, none⟩ = wz.cell? ⟨b, o, none⟩ := fun b o h => by rw [hW9]; exact fl_setC h
              have h9f : FlAt W9 w.heap.size (.int .i64 kk) (.string T) (.string X) (.slice pa pn pc) (.slice ka kn kc) := by rw [hW9]; exact fl_set HFx.out (.int .i64 kk) (.string T) (.string X) (.slice pa pn pc) (.slice ka kn kc)
              unfold set5F at hW9
              rw [← hW9]
              have H9b := Lib.hid h9b
              have H9s := Lib.hid h9s
              have H9c := Lib.hid h9c
              clear c0 c1 c2 c3 c4 f0 f1 f2 f3 f4 hW9 h9b h9s h9c
              obtain ⟨c0, c1, c2, c3, c4⟩ := fl_cells h9f
              obtain ⟨f0, f1, f2, f3, f4⟩ := fl_frozen h9f
              obtain ⟨z0, z1, z2, z3, z4⟩ := fl_cells (fl_set h9f (.int .i64 kk) (.string T) (.string X) (.slice pa pn pc) (.slice ka kn kc))
              unfold set5F at z0 z1 z2 z3 z4
              clear h9f
              go_wp2
              have hbz := fl_setB H9b.out (Nat.le_refl w.heap.size) (.int .i64 kk) (.string T) (.string X) (.slice pa pn pc) (.slice ka kn kc)
              have hfn : IsFl (fun b => w.heap.size ≤ b ∧ b < (set5F W9 w.heap.size (.int .i64 kk) (.string T) (.string X) (.slice pa pn pc) (.slice ka kn kc)).heap.size) (set5F W9 w.heap.size (.int .i64 kk) (.string T) (.string X) (.slice pa pn pc) (.slice ka kn kc)) f (.agg #[.int .i64 kk, .string T, .string X, .slice pa pn pc, .slice ka kn kc]) := by
                refine (HFl.out).imp (fun b h => ⟨?_, ?_⟩) (fun b o h => ?_)
                · have hb : b ≠ w.heap.size := by have := h.1; have := HLt.out; omega
                  exact (fl_setC hb).trans (H9c.out b o hb)
                · have := h.1; have := HLt.out; omega
                · rw [set5F_size, H9s.out]; exact h.2
              refine bodyPost_ret (v := .tuple #[.agg #[.int .i64 kk, .string T, .string X, .slice pa pn pc, .slice ka kn kc], .string Bq, .bool true]) (by simp [results, Tryd.results15, go_sem, z0, z1, z2, z3, z4]) rfl ⟨_, _, _, rfl, ?_, hbz⟩
              rw [HA.out]
              exact ⟨hfn, HBq.out, rfl⟩
end Go.Proofs.YtmpicolplknomaaDoor

/- filter.Parse: the walk. -/
namespace Go.Proofs.YtmpicolplknomaaDoor
open Go.RowKit
set_option linter.unusedVariables false
set_option linter.unusedSimpArgs false

def pOf : Option (FT × List UInt8) → Option FT
  | some (f, []) => some f
  | _ => none
theorem parseF_of (s : List UInt8) : parseF s = pOf (headD 13 s) := by
  unfold parseF
  cases headD 13 s with
  | none => rfl
  | some x =>
    obtain ⟨f, r⟩ := x
    cases r <;> rfl
set_option maxRecDepth 100000 in
set_option maxHeartbeats 8000000 in
theorem parseFl_any (s : ByteArray) (hs : s.size ≤ 1000000) (ha : ascii s.data.toList) (w : World) :
    Calls Tryd.prog 6 #[.string s] w fun e w' => ∃ x b, e = .returned (.tuple #[x, .bool b]) ∧ FlV w.heap.size w' (parseF s.data.toList) x b ∧ Below w.heap.size w w' := by
  have hH := fun W => headFl_all 13 0 rfl s W hs ha
  obtain ⟨W0, hW0⟩ : ∃ W, W = w.alloc zF := ⟨_, rfl⟩
  have hb0 : Below w.heap.size w W0 := by rw [hW0]; exact box5 w _ _ _ _ _
  have hx0 : FzAt W0 w.heap.size := by rw [hW0]; exact heap_alloc_new w _
  have HB0 := Lib.hid hb0
  have HX0 := Lib.hid hx0
  have HW0 := Lib.hid hW0.symm
  clear hb0 hx0 hW0
  obtain ⟨o, ho⟩ : ∃ o, o = headD 13 s.data.toList := ⟨_, rfl⟩
  have hp := parseF_of s.data.toList
  rw [← ho] at hH hp
  cases o with
  | none =>
    have HA : Hid (parseF s.data.toList = none) := Lib.hid hp
    have HH := Lib.hid hH
    clear hp hH ho hs ha
    go_enter Tryd.func6, Tryd.ntmps6
    go_upto_region 1 with (fail)
    rw [HW0.out]
    go_upto_region 2 with (go_at_call 15; refine (HH.out _).mono ?_; rintro e w2 ⟨x, q, b, rfl, ⟨rfl, rfl⟩, hb2⟩; have HB2 := Lib.hid hb2; clear hb2)
    obtain ⟨W3, hW3⟩ : ∃ W, W = w2.alloc (.cells #[.int .i64 0, .string ⟨#[]⟩, .string ⟨#[]⟩, .slice none 0 0, .slice none 0 0] 25) := ⟨_, rfl⟩
    rw [← hW3]
    have h23 : Below w2.heap.size w2 W3 := by rw [hW3]; exact box5 w2 _ _ _ _ _
    have hx2 : FzAt w2 w.heap.size := fl_below HX0.out HB2.out (fl_lt HX0.out)
    have hfx : FzAt W3 w.heap.size := fl_below hx2 h23 (fl_lt hx2)
    have hky : FlAt W3 w2.heap.size (.int .i64 0) (.string ⟨#[]⟩) (.string ⟨#[]⟩) (.slice none 0 0) (.slice none 0 0) := by rw [hW3]; exact heap_alloc_new w2 _
    have HBx := Lib.hid (bthen (bthen HB0.out HB2.out) h23)
    have HLw : Hid (w.heap.size < W0.heap.size) := Lib.hid (fl_lt HX0.out)
    have H23 := Lib.hid h23
    clear hW3 h23 hx2
    obtain ⟨d0, d1, d2, d3, d4⟩ := fl_cells hky
    obtain ⟨c0, c1, c2, c3, c4⟩ := fl_cells hfx
    obtain ⟨f0, f1, f2, f3, f4⟩ := fl_frozen hfx
    obtain ⟨z0, z1, z2, z3, z4⟩ := fl_cells (fl_set hfx (.int .i64 0) (.string ⟨#[]⟩) (.string ⟨#[]⟩) (.slice none 0 0) (.slice none 0 0))
    unfold set5F at z0 z1 z2 z3 z4
    clear hfx hky
    go_wp2
    have hbz := fl_setB HBx.out (Nat.le_refl w.heap.size) (.int .i64 0) (.string ⟨#[]⟩) (.string ⟨#[]⟩) (.slice none 0 0) (.slice none 0 0)
    refine bodyPost_ret (v := .tuple #[.agg #[.int .i64 0, .string ⟨#[]⟩, .string ⟨#[]⟩, .slice none 0 0, .slice none 0 0], .bool false]) (by simp [results, Tryd.results6, go_sem, z0, z1, z2, z3, z4]) rfl ⟨_, _, rfl, ?_, hbz⟩
    rw [HA.out]
    exact ⟨rfl, rfl⟩
  | some fq =>
    obtain ⟨f, qq⟩ := fq
    cases qq with
    | nil =>
      have HA : Hid (parseF s.data.toList = some f) := Lib.hid hp
      have HH := Lib.hid hH
      clear hp hH ho hs ha
      go_enter Tryd.func6, Tryd.ntmps6
      go_upto_region 1 with (fail)
      rw [HW0.out]
      go_upto_region 2 with (go_at_call 15; refine (HH.out _).mono ?_; rintro e w2 ⟨x, q, b, rfl, ⟨hfl, hq, rfl⟩, hb2⟩; (obtain ⟨kk, T, X, pa, pn, pc, ka, kn, kc, e⟩ := hfl.shape); subst e; have HFl := Lib.hid hfl; have hq0 : q = ⟨#[]⟩ := bytes_ext (by rw [hq]); subst hq0; clear hq; have HB2 := Lib.hid hb2; clear hb2 hfl)
      obtain ⟨W3, hW3⟩ : ∃ W, W = w2.alloc (.cells #[.int .i64 kk, .string T, .string X, .slice pa pn pc, .slice ka kn kc] 25) := ⟨_, rfl⟩
      rw [← hW3]
      have h23 : Below w2.heap.size w2 W3 := by rw [hW3]; exact box5 w2 _ _ _ _ _
      have hx2 : FzAt w2 w.heap.size := fl_below HX0.out HB2.out (fl_lt HX0.out)
      have hfx : FzAt W3 w.heap.size := fl_below hx2 h23 (fl_lt hx2)
      have hky : FlAt W3 w2.heap.size (.int .i64 kk) (.string T) (.string X) (.slice pa pn pc) (.slice ka kn kc) := by rw [hW3]; exact heap_alloc_new w2 _
      have HBx := Lib.hid (bthen (bthen HB0.out HB2.out) h23)
      have HLw : Hid (w.heap.size < W0.heap.size) := Lib.hid (fl_lt HX0.out)
      have H23 := Lib.hid h23
      clear hW3 h23 hx2
      obtain ⟨d0, d1, d2, d3, d4⟩ := fl_cells hky
      obtain ⟨c0, c1, c2, c3, c4⟩ := fl_cells hfx
      obtain ⟨f0, f1, f2, f3, f4⟩ := fl_frozen hfx
      obtain ⟨z0, z1, z2, z3, z4⟩ := fl_cells (fl_set hfx (.int .i64 kk) (.string T) (.string X) (.slice pa pn pc) (.slice ka kn kc))
      unfold set5F at z0 z1 z2 z3 z4
      clear hfx hky
      go_wp2
      have hbz := fl_setB HBx.out (Nat.le_refl w.heap.size) (.int .i64 kk) (.string T) (.string X) (.slice pa pn pc) (.slice ka kn kc)
      have hfn : IsFl (fun b => w.heap.size ≤ b ∧ b < (set5F W3 w.heap.size (.int .i64 kk) (.string T) (.string X) (.slice pa pn pc) (.slice ka kn kc)).heap.size) (set5F W3 w.heap.size (.int .i64 kk) (.string T) (.string X) (.slice pa pn pc) (.slice ka kn kc)) f (.agg #[.int .i64 kk, .string T, .string X, .slice pa pn pc, .slice ka kn kc]) := by
        refine (HFl.out).imp (fun b h => ⟨?_, ?_⟩) (fun b o h => ?_)
        · have hb : b ≠ w.heap.size := by have := h.1; have := HLw.out; omega
          exact (fl_setC hb).trans (H23.out.cell (p := ⟨b, o, none⟩) h.2)
        · have := h.1; have := HLw.out; omega
        · rw [set5F_size]; exact Nat.lt_of_lt_of_le h.2 H23.out.size
      refine bodyPost_ret (v := .tuple #[.agg #[.int .i64 kk, .string T, .string X, .slice pa pn pc, .slice ka kn kc], .bool true]) (by simp [results, Tryd.results6, go_sem, z0, z1, z2, z3, z4]) rfl ⟨_, _, rfl, ?_, hbz⟩
      rw [HA.out]
      exact ⟨hfn, rfl⟩
    | cons y r =>
      have HA : Hid (parseF s.data.toList = none) := Lib.hid hp
      have HH := Lib.hid hH
      clear hp hH ho hs ha
      go_enter Tryd.func6, Tryd.ntmps6
      go_upto_region 1 with (fail)
      rw [HW0.out]
      go_upto_region 2 with (go_at_call 15; refine (HH.out _).mono ?_; rintro e w2 ⟨x, q, b, rfl, ⟨hfl, hq, rfl⟩, hb2⟩; (obtain ⟨kk, T, X, pa, pn, pc, ka, kn, kc, e⟩ := hfl.shape); subst e; have HFl := Lib.hid hfl; have t1 : (q.toList == []) = false := by { rw [ByteArray.toList_eq, hq]; rfl }; have t2 : ¬ q.toList = [] := by { rw [ByteArray.toList_eq, hq]; simp }; have t3 : q.toList.isEmpty = false := by { rw [ByteArray.toList_eq, hq]; rfl }; clear hq; have HB2 := Lib.hid hb2; clear hb2 hfl)
      obtain ⟨W3, hW3⟩ : ∃ W, W = w2.alloc (.cells #[.int .i64 kk, .string T, .string X, .slice pa pn pc, .slice ka kn kc] 25) := ⟨_, rfl⟩
      rw [← hW3]
      have h23 : Below w2.heap.size w2 W3 := by rw [hW3]; exact box5 w2 _ _ _ _ _
      have hx2 : FzAt w2 w.heap.size := fl_below HX0.out HB2.out (fl_lt HX0.out)
      have hfx : FzAt W3 w.heap.size := fl_below hx2 h23 (fl_lt hx2)
      have hky : FlAt W3 w2.heap.size (.int .i64 kk) (.string T) (.string X) (.slice pa pn pc) (.slice ka kn kc) := by rw [hW3]; exact heap_alloc_new w2 _
      have HBx := Lib.hid (bthen (bthen HB0.out HB2.out) h23)
      have HLw : Hid (w.heap.size < W0.heap.size) := Lib.hid (fl_lt HX0.out)
      have H23 := Lib.hid h23
      clear hW3 h23 hx2
      obtain ⟨d0, d1, d2, d3, d4⟩ := fl_cells hky
      obtain ⟨c0, c1, c2, c3, c4⟩ := fl_cells hfx
      obtain ⟨f0, f1, f2, f3, f4⟩ := fl_frozen hfx
      obtain ⟨z0, z1, z2, z3, z4⟩ := fl_cells (fl_set hfx (.int .i64 0) (.string ⟨#[]⟩) (.string ⟨#[]⟩) (.slice none 0 0) (.slice none 0 0))
      unfold set5F at z0 z1 z2 z3 z4
      clear hfx hky
      go_wp2
      have hbz := fl_setB HBx.out (Nat.le_refl w.heap.size) (.int .i64 0) (.string ⟨#[]⟩) (.string ⟨#[]⟩) (.slice none 0 0) (.slice none 0 0)
      refine bodyPost_ret (v := .tuple #[.agg #[.int .i64 0, .string ⟨#[]⟩, .string ⟨#[]⟩, .slice none 0 0, .slice none 0 0], .bool false]) (by simp [results, Tryd.results6, go_sem, z0, z1, z2, z3, z4]) rfl ⟨_, _, rfl, ?_, hbz⟩
      rw [HA.out]
      exact ⟨rfl, rfl⟩
end Go.Proofs.YtmpicolplknomaaDoor

/- brooklaw6.awake: the walk. -/
namespace Go.Proofs.YtmpicolplknomaaDoor
open Go.RowKit
set_option linter.unusedVariables false
set_option linter.unusedSimpArgs false

def sAw : ByteArray := ⟨#[40, 38, 40, 99, 110, 61, 97, 42, 41, 40, 33, 40, 115, 110, 62, 61, 98, 41, 41, 41]⟩
def fAw : FT := .mk 1 [] [] [] [.mk 5 [99, 110] [] [[97], []] [], .mk 3 [] [] [] [.mk 6 [115, 110] [98] [] []]]
theorem parse_aw : parseF sAw.data.toList = some fAw := by kernel_rfl
theorem text_aw : ofL (textTop (.mk 8 [99, 110] [] [] [])) = ⟨#[40, 99, 110, 61, 42, 41]⟩ := by kernel_rfl
set_option maxRecDepth 100000 in
set_option maxHeartbeats 8000000 in
theorem awakeFl_any (w : World) : Calls Tryd.prog 5 #[] w fun e w' => e = .returned (.bool true) ∧ Below w.heap.size w w' := by
  have hp := fun W => parseFl_any sAw (by decide) (by unfold ascii; decide) W
  rw [parse_aw] at hp
  unfold sAw at hp
  have HP := Lib.hid hp
  clear hp
  go_enter Tryd.func5, Tryd.ntmps5
  go_upto_region 2 with (go_at_call 6; refine (HP.out _).mono ?_; rintro e w2 ⟨x, b, rfl, ⟨hfl, rfl⟩, hb2⟩; (obtain ⟨kk, T, X, pa, pn, pc, ka, kn, kc, e⟩ := hfl.shape); subst e; have HFl := Lib.hid hfl; have HB2 := Lib.hid hb2; clear hb2 hfl)
  obtain ⟨W3, hW3⟩ : ∃ W, W = w2.alloc (.cells #[.int .i64 kk, .string T, .string X, .slice pa pn pc, .slice ka kn kc] 25) := ⟨_, rfl⟩
  rw [← hW3]
  have h23 : Below w2.heap.size w2 W3 := by rw [hW3]; exact box5 w2 _ _ _ _ _
  have hx3 : FlAt W3 w2.heap.size (.int .i64 kk) (.string T) (.string X) (.slice pa pn pc) (.slice ka kn kc) := by rw [hW3]; exact heap_alloc_new w2 _
  obtain ⟨pv, a, cap, hag, _, _, _, _, _, hk⟩ := HFl.out
  simp only [Value.agg.injEq, Array.mk.injEq, List.cons.injEq, and_true] at hag
  obtain ⟨_, _, _, _, hk4⟩ := hag
  obtain ⟨⟨b, off, v0, v1, v2, v3, v4, ha, hok, hc0, hc1, hc2, hc3, hc4, hf0⟩, _⟩ := hk
  obtain ⟨pv0, a0, cap0, hag0, _⟩ := hf0
  simp only [Value.agg.injEq, Array.mk.injEq, List.cons.injEq, and_true] at hag0
  obtain ⟨hv0, _⟩ := hag0
  subst hv0
  rw [ha] at hk4
  rw [hk4] at hx3 ⊢
  have hc : w2.cell? ⟨b, off, none⟩ = some (.int .i64 5) := by simpa using hc0
  have hl2 : ([FT.mk 5 [99, 110] [] [[97], []] [], .mk 3 [] [] [] [.mk 6 [115, 110] [98] [] []]] : List FT).length = 2 := rfl
  rw [hl2] at hx3 ⊢
  have h8 : IsFl (Lt W3) W3 (.mk 8 [99, 110] [] [] []) (.agg #[.int .i64 8, .string ⟨#[99, 110]⟩, .string ⟨#[]⟩, .slice none 0 0, .slice none 0 0]) :=
    mkFl (t := [99, 110]) (x := []) (u := .slice none 0 0) (by decide) (by decide) (by decide) ⟨none, 0, rfl, Nat.zero_le _, fun j h => absurd h (Nat.not_lt_zero _)⟩
  have htx := textTop_any _ _ W3 h8 (fun _ => by decide)
  rw [text_aw] at htx
  have HTx := Lib.hid htx
  have HX3 := Lib.hid hx3
  have HC := Lib.hid hc
  have HOk := Lib.hid hok
  have H23 := Lib.hid h23
  clear hW3 h23 hx3 hk4 ha hok hc0 hc1 hc2 hc3 hc4 hc hl2 h8 htx
  go_wp2_with (go_at_call 10; refine (HTx.out).mono ?_; rintro e w4 ⟨rfl, hb4⟩; have HB4 := Lib.hid hb4; have hx4 := fl_below HX3.out hb4 (fl_lt HX3.out); (obtain ⟨d0, d1, d2, d3, d4⟩ := fl_cells hx4); have hc4 : w4.cell? ⟨b, off, none⟩ = some (.int .i64 5) := (hb4.cell (p := ⟨b, off, none⟩) (Nat.lt_of_lt_of_le HOk.out.2 H23.out.size)).trans ((H23.out.cell (p := ⟨b, off, none⟩) HOk.out.2).trans HC.out); clear hb4 hx4)
  go_ret
  exact ⟨rfl, bthen (bthen HB2.out H23.out) HB4.out⟩
end Go.Proofs.YtmpicolplknomaaDoor

/- Great of the statements about filters: the walk. -/
namespace Go.Proofs.YtmpicolplknomaaDoor
open Go.RowKit
set_option linter.unusedVariables false
set_option linter.unusedSimpArgs false

set_option maxRecDepth 100000 in
set_option maxHeartbeats 2000000 in
theorem greatFl_any (f : FT) (v : Value) (w : World) (h : IsFl (Lt w) w f v) :
    Calls Tryd.prog 4 #[v] w fun e w' => ∃ b, e = .returned (.bool b) ∧ (b = false → SmallF f) ∧ Below w.heap.size w w' := by
  have hm := fun W (hW : Below w.heap.size w W) => many_all 21 0 rfl f v W (h.imp (fun b h => Nat.lt_of_lt_of_le h hW.size) (fun b o h => hW.cell (p := ⟨b, o, none⟩) h))
  obtain ⟨k, T, X, pa, pn, pc, ka, kn, kc, rfl⟩ := h.shape
  have hb := box5 w (.int .i64 k) (.string T) (.string X) (.slice pa pn pc) (.slice ka kn kc)
  have HM : Hid (∀ W, Below w.heap.size w W → Calls Tryd.prog 14 #[.agg #[.int .i64 k, .string T, .string X, .slice pa pn pc, .slice ka kn kc], .int .i64 0] W fun e w' => ∃ n : Nat, e = .returned (.int .i64 n) ∧ ManySays f 0 n ∧ Below W.heap.size W w') := Lib.hid hm
  have HB := Lib.hid hb
  clear hm hb h
  go_enter Tryd.func4, Tryd.ntmps4
  go_wp2_with (go_at_call 14; refine (HM.out _ HB.out).mono ?_; rintro e w3 ⟨n, rfl, hn, hb3⟩; have HB3 := Lib.hid (bthen HB.out hb3); have HN := Lib.hid hn; clear hb3 hn)
  go_ret
  refine ⟨decide ((200 : Int) < (n : Int)), rfl, fun hf => ?_, HB3.out⟩
  have hlt : n ≤ 200 := by simp at hf; omega
  obtain ⟨h1, h2⟩ := HN.out.2 (by omega)
  exact ⟨by omega, h2⟩
end Go.Proofs.YtmpicolplknomaaDoor

/- brooklaw6.FilterAll: the walk. -/
namespace Go.Proofs.YtmpicolplknomaaDoor
open Go.RowKit
set_option linter.unusedVariables false
set_option linter.unusedSimpArgs false

theorem lenP_le : ∀ p : List (List UInt8), (∀ x ∈ p, x.length ≤ 100) → lenP p ≤ p.length * 101
  | [], _ => Nat.zero_le _
  | x :: l, h => by
    have h1 := h x (by simp)
    have h2 := lenP_le l (fun y hy => h y (by simp [hy]))
    simp only [lenP, List.length_cons]
    omega
theorem partsQ_len {p : List (List UInt8)} (h : okParts p = true) : (starJ p).length ≤ 3000 := by
  obtain ⟨⟨h1, h2⟩, h3, _⟩ := (okParts_iff p).1 h
  have h4 := lenP_le p (fun x hx => by
    obtain ⟨i, hi, rfl⟩ := List.getElem_of_mem hx
    exact (h3 i hi).1)
  have := starJ_lenP p
  omega
theorem textsQ_small {d : Nat} (ih : ∀ f, mayF d f = true → (textF f).length ≤ 100000 * nodesF f) : ∀ l : List FT, l.all (mayF d) = true → (textFs l).length ≤ 100000 * nodesFs l
  | [], _ => by simp [textFs]
  | f :: l, h => by
    simp only [List.all_cons, Bool.and_eq_true] at h
    have h1 := ih f h.1
    have h2 := textsQ_small ih l h.2
    show (textF f ++ textFs l).length ≤ 100000 * (nodesF f + nodesFs l)
    rw [List.length_append]
    omega
theorem textQ_small : ∀ (d : Nat) (f : FT), mayF d f = true → (textF f).length ≤ 100000 * nodesF f
  | 0, f, h => by cases f; cases h
  | d + 1, .mk k t v p l, h => by
    have h' : (if holdsC k then t.isEmpty && v.isEmpty && p.isEmpty && kidsC k l.length && l.all (mayF d) else okLeaf k t v p l.length) = true := h
    have hs := signF_len k
    show _ ≤ 100000 * (1 + nodesFs l)
    rw [textF]
    split at h'
    · simp only [Bool.and_eq_true, List.isEmpty_iff] at h'
      obtain ⟨⟨⟨⟨rfl, rfl⟩, rfl⟩, _⟩, hall⟩ := h'
      have := textsQ_small (fun f => textQ_small d f) l hall
      simp [quo, starJ]
      omega
    · have h1 := okType_len (okLeaf_type h').1
      have h2 : l = [] := List.eq_nil_of_length_eq_zero (okLeaf_type h').2
      subst h2
      have hq := quo_lenQ v
      have h3 : v.length ≤ 100 ∧ (starJ p).length ≤ 3000 := by
        unfold okLeaf at h'
        simp only [Bool.and_eq_true] at h'
        obtain ⟨_, h'⟩ := h'
        split at h'
        · simp only [Bool.and_eq_true, decide_eq_true_eq, List.isEmpty_iff] at h'
          obtain ⟨h4, rfl⟩ := h'
          exact ⟨h4, by simp [starJ]⟩
        · split at h'
          · simp only [Bool.and_eq_true, List.isEmpty_iff] at h'
            obtain ⟨rfl, h4⟩ := h'
            exact ⟨by simp, partsQ_len h4⟩
          · split at h'
            · simp only [Bool.and_eq_true, List.isEmpty_iff] at h'
              obtain ⟨rfl, rfl⟩ := h'
              exact ⟨by simp, by simp [starJ]⟩
            · cases h'
      simp [textFs]
      omega
theorem small_lenQ {f : FT} (h : SmallF f) (hm : mayF 13 f = true) : (textF f).length ≤ 20000000 := by
  have := textQ_small 13 f hm
  have := h.1
  omega
/-- A filter in a block, and all that it leads to. -/
def FlHas (W : World) (b : Nat) (x0 x1 x2 x3 x4 : Value) (f : FT) : Prop := FlAt W b x0 x1 x2 x3 x4 ∧ IsFl (Lt W) W f (.agg #[x0, x1, x2, x3, x4])
theorem FlHas.go {W0 W : World} {b : Nat} {x0 x1 x2 x3 x4 : Value} {f : FT} (h : FlHas W0 b x0 x1 x2 x3 x4 f) (hb : Below W0.heap.size W0 W) : FlHas W b x0 x1 x2 x3 x4 f := ⟨fl_below h.1 hb (fl_lt h.1), h.2.below hb⟩
theorem flHas_new {w : World} {f : FT} {x0 x1 x2 x3 x4 : Value} (h : IsFl (Lt w) w f (.agg #[x0, x1, x2, x3, x4])) : FlHas (w.alloc (.cells #[x0, x1, x2, x3, x4] 25)) w.heap.size x0 x1 x2 x3 x4 f :=
  ⟨heap_alloc_new w _, h.below (box5 w x0 x1 x2 x3 x4)⟩
/-- What ParseFilter has answered, in a block. -/
def QlHas (W : World) (b : Nat) (x0 x1 x2 x3 x4 : Value) (c : Bool) (f : FT) : Prop := QlAt W b x0 x1 x2 x3 x4 c ∧ IsFl (Lt W) W f (.agg #[x0, x1, x2, x3, x4])
theorem QlHas.go {W0 W : World} {b : Nat} {x0 x1 x2 x3 x4 : Value} {c : Bool} {f : FT} (h : QlHas W0 b x0 x1 x2 x3 x4 c f) (hb : Below W0.heap.size W0 W) : QlHas W b x0 x1 x2 x3 x4 c f := ⟨ql_below h.1 hb (ql_lt h.1), h.2.below hb⟩
theorem qlHas_new {w : World} {f : FT} {x0 x1 x2 x3 x4 : Value} {c : Bool} (h : IsFl (Lt w) w f (.agg #[x0, x1, x2, x3, x4])) : QlHas (w.alloc (.cells #[x0, x1, x2, x3, x4, .bool c] 31)) w.heap.size x0 x1 x2 x3 x4 c f :=
  ⟨heap_alloc_new w _, h.below (box6Q w x0 x1 x2 x3 x4 c)⟩
/-- The filter that both readings give, and whether there is one. -/
def fltO (o : Option FT) : FT := match o with
  | some f => f
  | none => .mk 0 [] [] [] []
theorem flV_has {B : Nat} {w : World} {o : Option FT} {x : Value} {b : Bool} (h : FlV B w o x b) : IsFl (Lt w) w (fltO o) x ∧ b = o.isSome := by
  cases o with
  | none => obtain ⟨rfl, rfl⟩ := h; exact ⟨isFl_zero _ _, rfl⟩
  | some f => obtain ⟨h, rfl⟩ := h; exact ⟨h.imp (fun b hb => hb.2) (fun _ _ _ => rfl), rfl⟩
theorem gotV_has {B : Nat} {w : World} {o : Option FT} {x0 x1 x2 x3 x4 : Value} {b : Bool} (h : GotV B w o x0 x1 x2 x3 x4 b) : IsFl (Lt w) w (fltO o) (.agg #[x0, x1, x2, x3, x4]) ∧ b = o.isSome := by
  cases o with
  | none => obtain ⟨rfl, rfl, rfl, rfl, rfl, rfl⟩ := h; exact ⟨isFl_zero _ _, rfl⟩
  | some f => obtain ⟨h, rfl⟩ := h; exact ⟨h.imp (fun b hb => hb.2) (fun _ _ _ => rfl), rfl⟩
theorem fltO_few (s : List UInt8) : fewP (fltO (parseF s)) := by
  cases h : parseF s with
  | none => exact ⟨Nat.zero_le _, trivial⟩
  | some f => exact few_may 13 f (parse_soundF h).1

set_option maxRecDepth 100000 in
set_option maxHeartbeats 8000000 in
theorem filterAll_any (a b : FT) (va vb : Value) (s : ByteArray) (w : World) (ha : IsFl (Lt w) w a va) (hb : IsFl (Lt w) w b vb) (hs : s.size ≤ 9223372036854775807) :
    Calls Tryd.prog 3 #[va, vb, .string s] w fun e w' => e = .returned (.bool true) ∧ Below w.heap.size w w' := by
  have HAw := Lib.hid (fun W => awakeFl_any W)
  obtain ⟨ak, aT, aX, apa, apn, apc, aka, akn, akc, rfl⟩ := ha.shape
  obtain ⟨bk, bT, bX, bpa, bpn, bpc, bka, bkn, bkc, rfl⟩ := hb.shape
  obtain ⟨W1, hW1⟩ : ∃ W, W = w.alloc (.cells #[.int .i64 ak, .string aT, .string aX, .slice apa apn apc, .slice aka akn akc] 25) := ⟨_, rfl⟩
  obtain ⟨W2, hW2⟩ : ∃ W, W = W1.alloc (.cells #[.int .i64 bk, .string bT, .string bX, .slice bpa bpn bpc, .slice bka bkn bkc] 25) := ⟨_, rfl⟩
  have hb1 : Below w.heap.size w W1 := by rw [hW1]; exact box5 w _ _ _ _ _
  have hb2 : Below W1.heap.size W1 W2 := by rw [hW2]; exact box5 W1 _ _ _ _ _
  have hA1 : FlHas W1 w.heap.size (.int .i64 ak) (.string aT) (.string aX) (.slice apa apn apc) (.slice aka akn akc) a := by rw [hW1]; exact flHas_new ha
  have hB2 : FlHas W2 W1.heap.size (.int .i64 bk) (.string bT) (.string bX) (.slice bpa bpn bpc) (.slice bka bkn bkc) b := by rw [hW2]; exact flHas_new (hb.below hb1)
  have hA2 := hA1.go hb2
  have HW1 := Lib.hid hW1.symm
  have HW2 := Lib.hid hW2.symm
  have HB2 := Lib.hid (bthen hb1 hb2)
  obtain ⟨bb, hbb⟩ : ∃ n, n = w.heap.size + 1 := ⟨_, rfl⟩
  have hbw : W1.heap.size = bb := by rw [hbb, hW1]; simp only [World.alloc, Array.size_push]
  rw [hbw] at hB2
  have HBb := Lib.hid hbb.symm
  have HA2 := Lib.hid hA2
  have HBf := Lib.hid hB2
  have HGa : Hid (∀ W, Below W2.heap.size W2 W → Calls Tryd.prog 4 #[.agg #[.int .i64 ak, .string aT, .string aX, .slice apa apn apc, .slice aka akn akc]] W fun e w' => ∃ g, e = .returned (.bool g) ∧ (g = false → SmallF a) ∧ Below W.heap.size W w') := Lib.hid (fun W h => greatFl_any a _ W (hA2.go h).2)
  have HGb : Hid (∀ W, Below W2.heap.size W2 W → Calls Tryd.prog 4 #[.agg #[.int .i64 bk, .string bT, .string bX, .slice bpa bpn bpc, .slice bka bkn bkc]] W fun e w' => ∃ g, e = .returned (.bool g) ∧ (g = false → SmallF b) ∧ Below W.heap.size W w') := Lib.hid (fun W h => greatFl_any b _ W (hB2.go h).2)
  obtain ⟨c0, c1, c2, c3, c4⟩ := fl_cells hA2.1
  obtain ⟨d0, d1, d2, d3, d4⟩ := fl_cells hB2.1
  clear hW1 hW2 hb1 hb2 hA1 hB2 hA2 hbb ha hb hbw
  go_enter Tryd.func3, Tryd.ntmps3
  go_upto_region 1 with (fail)
  rw [HW1.out, HW2.out, HBb.out]
  go_upto_if 20 with (first
    | (go_at_call 4; (with_reducible refine (HGa.out _ (Below.refl _ _)).mono ?_); rintro e w3 ⟨g1, rfl, hg1, hb3⟩; have HS1 := Lib.hid hg1; have HB3 := Lib.hid hb3; (obtain ⟨m0, m1, m2, m3, m4⟩ := fl_cells (HBf.out.go hb3).1); clear hg1 hb3)
    | (go_at_call 4; (with_reducible refine (HGb.out _ HB3.out).mono ?_); rintro e w4 ⟨g2, rfl, hg2, hb4⟩; have HS2 := Lib.hid hg2; have HB4 := Lib.hid (bthen HB3.out hb4); clear hg2 hb4))
  · go_wp2_with (go_at_call 5; refine (HAw.out _).mono ?_; rintro e w9 ⟨rfl, hb9⟩; have HB9 := Lib.hid hb9; clear hb9)
    go_ret
    exact ⟨rfl, bthen (bthen HB2.out HB3.out) HB9.out⟩
  · go_wp2_with (go_at_call 5; refine (HAw.out _).mono ?_; rintro e w9 ⟨rfl, hb9⟩; have HB9 := Lib.hid hb9; clear hb9)
    go_ret
    exact ⟨rfl, bthen (bthen HB2.out HB4.out) HB9.out⟩
  · by_cases h6 : 600 < s.size
    · have t6 : decide ((600 : Int) < (s.size : Int)) = true := by simp; omega
      simp only [t6]
      go_wp2_with (go_at_call 5; refine (HAw.out _).mono ?_; rintro e w9 ⟨rfl, hb9⟩; have HB9 := Lib.hid hb9; clear hb9)
      go_ret
      exact ⟨rfl, bthen (bthen HB2.out HB4.out) HB9.out⟩
    · have t6 : decide ((600 : Int) < (s.size : Int)) = false := by simp; omega
      have hsa : SmallF a := HS1.out (by simpa using (by assumption : ¬ g1 = true))
      have hsb : SmallF b := HS2.out (by simpa using (by assumption : ¬ g2 = true))
      have hp := fun W => parseFl_any s (by omega) (ascii_all _) W
      have hq := fun W => parseFlRef_any s (by omega) W
      rw [gotO_parse] at hq
      have HFw := Lib.hid (fltO_few s.data.toList)
      obtain ⟨o, ho⟩ : ∃ o, o = parseF s.data.toList := ⟨_, rfl⟩
      rw [← ho] at hp hq HFw
      obtain ⟨F, hF⟩ : ∃ F, F = fltO o := ⟨_, rfl⟩
      obtain ⟨ok, hok⟩ : ∃ b, b = o.isSome := ⟨_, rfl⟩
      have hp' : ∀ W, Calls Tryd.prog 6 #[.string s] W fun e w' => ∃ x, e = .returned (.tuple #[x, .bool ok]) ∧ IsFl (Lt w') w' F x ∧ Below W.heap.size W w' := fun W => (hp W).mono (by
        rintro e w' ⟨x, b, rfl, hv, hb⟩
        obtain ⟨h1, rfl⟩ := flV_has hv
        exact ⟨x, by rw [hok], by rw [hF]; exact h1, hb⟩)
      have hq' : ∀ W, Calls Tryd.prog 7 #[.string s] W fun e w' => ∃ x0 x1 x2 x3 x4, e = .returned (.agg #[x0, x1, x2, x3, x4, .bool ok]) ∧ IsFl (Lt w') w' F (.agg #[x0, x1, x2, x3, x4]) ∧ Below W.heap.size W w' := fun W => (hq W).mono (by
        rintro e w' ⟨x0, x1, x2, x3, x4, b, rfl, hv, hb⟩
        obtain ⟨h1, rfl⟩ := gotV_has hv
        exact ⟨x0, x1, x2, x3, x4, by rw [hok], by rw [hF]; exact h1, hb⟩)
      rw [← hF] at HFw
      have HP := Lib.hid hp'
      have HQ := Lib.hid hq'
      have HSa := Lib.hid hsa
      have HSb := Lib.hid hsb
      clear hp hq hp' hq' ho hF hok hsa hsb h6 c0 c1 c2 c3 c4 d0 d1 d2 d3 d4 m0 m1 m2 m3 m4
      simp only [t6]
      go_upto_region 4 with (go_at_call 6; refine (HP.out _).mono ?_; rintro e w5 ⟨x, rfl, hfl, hb5⟩; (obtain ⟨pk, pT, pX, ppa, ppn, ppc, pka, pkn, pkc, e⟩ := hfl.shape); subst e; have HFl := Lib.hid hfl; have HB5 := Lib.hid hb5; clear hfl hb5)
      obtain ⟨W6, hW6⟩ : ∃ W, W = w5.alloc (.cells #[.int .i64 pk, .string pT, .string pX, .slice ppa ppn ppc, .slice pka pkn pkc] 25) := ⟨_, rfl⟩
      have HF6 : Hid (FlHas W6 w5.heap.size (.int .i64 pk) (.string pT) (.string pX) (.slice ppa ppn ppc) (.slice pka pkn pkc) F) := Lib.hid (by rw [hW6]; exact flHas_new HFl.out)
      have HB6 : Hid (Below W2.heap.size W2 W6) := Lib.hid (by rw [hW6]; exact bthen (bthen HB4.out HB5.out) (box5 w5 _ _ _ _ _))
      rw [← hW6]
      clear hW6
      go_upto_region 5 with (go_at_call 7; refine (HQ.out _).mono ?_; rintro e w7 ⟨x0, x1, x2, x3, x4, rfl, hfl, hb7⟩; (obtain ⟨qk, qT, qX, qpa, qpn, qpc, qka, qkn, qkc, e⟩ := hfl.shape); (simp only [Value.agg.injEq, Array.mk.injEq, List.cons.injEq, and_true] at e); (obtain ⟨rfl, rfl, rfl, rfl, rfl⟩ := e); have HQl := Lib.hid hfl; have HB7 := Lib.hid hb7; clear hfl hb7)
      obtain ⟨W8, hW8⟩ : ∃ W, W = w7.alloc (.cells #[.int .i64 qk, .string qT, .string qX, .slice qpa qpn qpc, .slice qka qkn qkc, .bool ok] 31) := ⟨_, rfl⟩
      have hq8 : QlHas W8 w7.heap.size (.int .i64 qk) (.string qT) (.string qX) (.slice qpa qpn qpc) (.slice qka qkn qkc) ok F := by rw [hW8]; exact qlHas_new HQl.out
      have hb68 : Below W6.heap.size W6 W8 := by rw [hW8]; exact bthen HB7.out (box6Q w7 _ _ _ _ _ _)
      have hf8 := HF6.out.go hb68
      have ha8 := HA2.out.go (bthen HB6.out hb68)
      have hbf8 := HBf.out.go (bthen HB6.out hb68)
      have HB8 := Lib.hid (bthen HB2.out (bthen HB6.out hb68))
      obtain ⟨b6, hb6⟩ : ∃ n, n = w5.heap.size := ⟨_, rfl⟩
      obtain ⟨b8, hb8⟩ : ∃ n, n = w7.heap.size := ⟨_, rfl⟩
      rw [← hb6] at hf8
      rw [← hb8] at hq8
      rw [← hW8, ← hb6, ← hb8]
      have hta := fun (hm : mayF 13 a = true) => small_lenQ HSa.out hm
      obtain ⟨M, hM⟩ : ∃ M, M = mayF 13 a := ⟨_, rfl⟩
      obtain ⟨X, hX⟩ : ∃ X, X = ofL (textTop a) := ⟨_, rfl⟩
      obtain ⟨Q, hQ⟩ : ∃ X, X = sameFT a b := ⟨_, rfl⟩
      have HMa : Hid (∀ W, SamB W8 W → Calls Tryd.prog 8 #[.agg #[.int .i64 ak, .string aT, .string aX, .slice apa apn apc, .slice aka akn akc]] W fun e w' => e = .returned (.bool M) ∧ Below W.heap.size W w') := Lib.hid (fun W h => by rw [hM]; exact mayTop_any a _ W (ha8.go h).2)
      have HMr : Hid (∀ W, SamB W8 W → Calls Tryd.prog 9 #[.agg #[.int .i64 ak, .string aT, .string aX, .slice apa apn apc, .slice aka akn akc]] W fun e w' => e = .returned (.bool M) ∧ Below W.heap.size W w') := Lib.hid (fun W h => by rw [hM]; exact mayFilter_any a _ W (ha8.go h).2)
      have HTa : Hid (∀ W, SamB W8 W → Calls Tryd.prog 10 #[.agg #[.int .i64 ak, .string aT, .string aX, .slice apa apn apc, .slice aka akn akc]] W fun e w' => e = .returned (.string X) ∧ Below W.heap.size W w') := Lib.hid (fun W h => by rw [hX]; exact textTop_any a _ W (ha8.go h).2 (fun hm => by have := hta hm; omega))
      have HTr : Hid (∀ W, SamB W8 W → Calls Tryd.prog 11 #[.agg #[.int .i64 ak, .string aT, .string aX, .slice apa apn apc, .slice aka akn akc]] W fun e w' => e = .returned (.string X) ∧ Below W.heap.size W w') := Lib.hid (fun W h => by rw [hX]; exact textFilter_any a _ W (ha8.go h).2 (fun hm => by have := hta hm; omega))
      have HSp : Hid (∀ W, SamB W8 W → Calls Tryd.prog 12 #[.agg #[.int .i64 ak, .string aT, .string aX, .slice apa apn apc, .slice aka akn akc], .agg #[.int .i64 bk, .string bT, .string bX, .slice bpa bpn bpc, .slice bka bkn bkc]] W fun e w' => e = .returned (.bool Q) ∧ Below W.heap.size W w') := Lib.hid (fun W h => by rw [hQ]; exact sameFlP_all _ a (Nat.le_refl _) HSa.out.2 b _ _ W (ha8.go h).2 (hbf8.go h).2)
      have HSr : Hid (∀ W, SamB W8 W → Calls Tryd.prog 13 #[.agg #[.int .i64 ak, .string aT, .string aX, .slice apa apn apc, .slice aka akn akc], .agg #[.int .i64 bk, .string bT, .string bX, .slice bpa bpn bpc, .slice bka bkn bkc]] W fun e w' => e = .returned (.bool Q) ∧ Below W.heap.size W w') := Lib.hid (fun W h => by rw [hQ]; exact sameFl_all _ a b _ _ W (Nat.le_refl _) HSa.out.2 (ha8.go h).2 (hbf8.go h).2)
      have HSs : Hid (∀ W, SamB W8 W → Calls Tryd.prog 12 #[.agg #[.int .i64 ak, .string aT, .string aX, .slice apa apn apc, .slice aka akn akc], .agg #[.int .i64 ak, .string aT, .string aX, .slice apa apn apc, .slice aka akn akc]] W fun e w' => e = .returned (.bool true) ∧ Below W.heap.size W w') := Lib.hid (fun W h => by
        have := sameFlP_all _ a (Nat.le_refl _) HSa.out.2 a _ _ W (ha8.go h).2 (ha8.go h).2
        rw [sameFT_pos rfl] at this
        exact this)
      have HSf : Hid (∀ W, SamB W8 W → Calls Tryd.prog 13 #[.agg #[.int .i64 pk, .string pT, .string pX, .slice ppa ppn ppc, .slice pka pkn pkc], .agg #[.int .i64 qk, .string qT, .string qX, .slice qpa qpn qpc, .slice qka qkn qkc]] W fun e w' => e = .returned (.bool true) ∧ Below W.heap.size W w') := Lib.hid (fun W h => by
        have := sameFl_all _ F F _ _ W (Nat.le_refl _) HFw.out (hf8.go h).2 (hq8.go h).2
        rw [sameFT_pos rfl] at this
        exact this)
      have HAx : Hid (∀ W, SamB W8 W → Calls Tryd.prog 5 #[] W fun e w' => e = .returned (.bool true) ∧ Below W.heap.size W w') := Lib.hid (fun W h => HAw.out W)
      have HKp : Hid (∀ W, SamB W8 W → W.cell? ⟨w.heap.size, 0, none⟩ = some (.int .i64 ak) ∧ W.cell? ⟨w.heap.size, 1, none⟩ = some (.string aT) ∧ W.cell? ⟨w.heap.size, 2, none⟩ = some (.string aX) ∧ W.cell? ⟨w.heap.size, 3, none⟩ = some (.slice apa apn apc) ∧ W.cell? ⟨w.heap.size, 4, none⟩ = some (.slice aka akn akc) ∧
          W.cell? ⟨bb, 0, none⟩ = some (.int .i64 bk) ∧ W.cell? ⟨bb, 1, none⟩ = some (.string bT) ∧ W.cell? ⟨bb, 2, none⟩ = some (.string bX) ∧ W.cell? ⟨bb, 3, none⟩ = some (.slice bpa bpn bpc) ∧ W.cell? ⟨bb, 4, none⟩ = some (.slice bka bkn bkc) ∧
          W.cell? ⟨b6, 0, none⟩ = some (.int .i64 pk) ∧ W.cell? ⟨b6, 1, none⟩ = some (.string pT) ∧ W.cell? ⟨b6, 2, none⟩ = some (.string pX) ∧ W.cell? ⟨b6, 3, none⟩ = some (.slice ppa ppn ppc) ∧ W.cell? ⟨b6, 4, none⟩ = some (.slice pka pkn pkc) ∧
          W.cell? ⟨b8, 0, none⟩ = some (.int .i64 qk) ∧ W.cell? ⟨b8, 1, none⟩ = some (.string qT) ∧ W.cell? ⟨b8, 2, none⟩ = some (.string qX) ∧ W.cell? ⟨b8, 3, none⟩ = some (.slice qpa qpn qpc) ∧ W.cell? ⟨b8, 4, none⟩ = some (.slice qka qkn qkc) ∧ W.cell? ⟨b8, 5, none⟩ = some (.bool ok) ∧ SamB W8 W) := Lib.hid (fun W h => by
        obtain ⟨a0, a1, a2, a3, a4⟩ := fl_cells (ha8.go h).1
        obtain ⟨b0, b1, b2, b3, b4⟩ := fl_cells (hbf8.go h).1
        obtain ⟨p0, p1, p2, p3, p4⟩ := fl_cells (hf8.go h).1
        obtain ⟨q0, q1, q2, q3, q4, q5⟩ := ql_cells (hq8.go h).1
        exact ⟨a0, a1, a2, a3, a4, b0, b1, b2, b3, b4, p0, p1, p2, p3, p4, q0, q1, q2, q3, q4, q5, h⟩)
      have hst5 := HKp.out W8 (Below.refl _ _)
      have hst6 := HKp.out W8.drew (Below.drew (Below.refl _ _))
      clear hW8 hq8 hb68 hf8 ha8 hbf8 hb6 hb8 hta hM hX hQ HP HQ HF6 HFl HQl HS1 HS2 HGa HGb t6
      go_region_held3 (fun W => W.cell? ⟨w.heap.size, 0, none⟩ = some (.int .i64 ak) ∧ W.cell? ⟨w.heap.size, 1, none⟩ = some (.string aT) ∧ W.cell? ⟨w.heap.size, 2, none⟩ = some (.string aX) ∧ W.cell? ⟨w.heap.size, 3, none⟩ = some (.slice apa apn apc) ∧ W.cell? ⟨w.heap.size, 4, none⟩ = some (.slice aka akn akc) ∧
          W.cell? ⟨bb, 0, none⟩ = some (.int .i64 bk) ∧ W.cell? ⟨bb, 1, none⟩ = some (.string bT) ∧ W.cell? ⟨bb, 2, none⟩ = some (.string bX) ∧ W.cell? ⟨bb, 3, none⟩ = some (.slice bpa bpn bpc) ∧ W.cell? ⟨bb, 4, none⟩ = some (.slice bka bkn bkc) ∧
          W.cell? ⟨b6, 0, none⟩ = some (.int .i64 pk) ∧ W.cell? ⟨b6, 1, none⟩ = some (.string pT) ∧ W.cell? ⟨b6, 2, none⟩ = some (.string pX) ∧ W.cell? ⟨b6, 3, none⟩ = some (.slice ppa ppn ppc) ∧ W.cell? ⟨b6, 4, none⟩ = some (.slice pka pkn pkc) ∧
          W.cell? ⟨b8, 0, none⟩ = some (.int .i64 qk) ∧ W.cell? ⟨b8, 1, none⟩ = some (.string qT) ∧ W.cell? ⟨b8, 2, none⟩ = some (.string qX) ∧ W.cell? ⟨b8, 3, none⟩ = some (.slice qpa qpn qpc) ∧ W.cell? ⟨b8, 4, none⟩ = some (.slice qka qkn qkc) ∧ W.cell? ⟨b8, 5, none⟩ = some (.bool ok) ∧ SamB W8 W) (first | (with_reducible exact hst5) | (with_reducible exact hst6) | (go_split_ands; exact HKp.out _ (SamB.go (by assumption) hbx)))
        (first
          | (go_at_call 8; go_split_ands; (with_reducible refine (HMa.out _ (by assumption)).mono ?_); rintro e wx ⟨rfl, hbx⟩)
          | (go_at_call 9; go_split_ands; (with_reducible refine (HMr.out _ (by assumption)).mono ?_); rintro e wx ⟨rfl, hbx⟩)
          | (go_at_call 10; go_split_ands; (with_reducible refine (HTa.out _ (by assumption)).mono ?_); rintro e wx ⟨rfl, hbx⟩)
          | (go_at_call 11; go_split_ands; (with_reducible refine (HTr.out _ (by assumption)).mono ?_); rintro e wx ⟨rfl, hbx⟩)
          | (go_at_call 12; go_split_ands; (with_reducible refine (HSp.out _ (by assumption)).mono ?_); rintro e wx ⟨rfl, hbx⟩)
          | (go_at_call 12; go_split_ands; (with_reducible refine (HSs.out _ (by assumption)).mono ?_); rintro e wx ⟨rfl, hbx⟩)
          | (go_at_call 13; go_split_ands; (with_reducible refine (HSr.out _ (by assumption)).mono ?_); rintro e wx ⟨rfl, hbx⟩)
          | (go_at_call 13; go_split_ands; (with_reducible refine (HSf.out _ (by assumption)).mono ?_); rintro e wx ⟨rfl, hbx⟩)
          | (go_at_call 5; go_split_ands; (with_reducible refine (HAx.out _ (by assumption)).mono ?_); rintro e wx ⟨rfl, hbx⟩))
      all_goals
        go_split_ands
        have hT : SamB W8 wx := by assumption
        go_wp2
        go_ret
        exact ⟨rfl, bthen HB8.out hT⟩
end Go.Proofs.YtmpicolplknomaaDoor
