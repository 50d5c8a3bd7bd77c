/- Several texts in one file: ScDocGW, ScDocE. -/
import Derived.Test.YtpnbcmblnplbgaaGreatDoorChgP11
import Derived.Deep.RegionHeld3
import Derived.Test.YtpnbcmblnplbgaaGreatDoorChgP10
import Derived.Test.YtpnbcmblnplbgaaGreatDoorRefParseW
namespace Go.Proofs.YtpnbcmblnplbgaaGreatDoor
open Go.RowKit
set_option linter.unusedVariables false

def rankC (f n : Option Value) : Nat := match f, n with
  | some (.bool true), some (.string x) => (chainC 3 x.data.toList).length + 1
  | _, _ => 0
theorem find_self : ∀ c ∈ classL, findC c.name = some c := by
  intro c hc
  simp only [classL, List.mem_cons, List.not_mem_nil, or_false] at hc
  rcases hc with rfl | rfl | rfl | rfl | rfl | rfl | rfl <;> rfl
theorem cls_short : ∀ c ∈ classL, c.sup.length ≤ 281474976710656 := by
  have : (classL.all fun c => decide (c.sup.length ≤ 100)) = true := by decide
  intro c hc
  have := List.all_eq_true.1 this c hc
  simp only [decide_eq_true_eq] at this
  omega
theorem cls_elem : ∀ c ∈ classL, ∀ x ∈ c.mustL, x.length ≤ 100 := by
  have : (classL.all fun c => c.mustL.all fun x => decide (x.length ≤ 100)) = true := by decide +kernel
  intro c hc x hx
  simpa using List.all_eq_true.1 (List.all_eq_true.1 this c hc) x hx
theorem drewB {w w' : World} (h : Below w.drew.heap.size w.drew w') : Below w.heap.size w w' := (Below.refl w.heap.size w).drew.trans h
theorem rank_some {N : ByteArray} {d : CT} (hN : N.data.toList = d.name) (hd : d ∈ classL) : rankC (some (.bool true)) (some (.string N)) = (chainC 3 d.sup).length + 2 := by
  simp only [rankC, hN, chain_step (find_self d hd), List.length_cons]
theorem rank_next {N : ByteArray} {d d2 : CT} (hN : N.data.toList = d2.name) (h : findC d.sup = some d2) : rankC (some (.bool true)) (some (.string N)) = (chainC 3 d.sup).length + 1 := by
  simp only [rankC, hN, (findC_mem h).2]

set_option maxRecDepth 100000 in
set_option maxHeartbeats 8000000 in
theorem classesDoc_any (D : ByteArray) (L : List AT) (hs : smallA L) (hS : SndAt L L.length) (v : Value) (w : World) (h : IsA w.heap.size w L v) :
    Calls Tryz.prog 50 #[.agg #[.string D, v]] w fun e w' => e = .returned (.bool (classedD (canL L))) ∧ Below w.heap.size w w' := by
  obtain ⟨a, c, hv, hm, hcell⟩ := id h
  obtain ⟨n, hn⟩ : ∃ n, n = L.length := ⟨_, rfl⟩
  rw [← hn] at hv hm
  subst hv
  unfold maxLen at hm
  obtain ⟨W0, hW0⟩ : ∃ W0, W0 = w.alloc (.cells #[.string D, .slice a n c] 27) := ⟨_, rfl⟩
  have hB0 : Below w.heap.size w W0 := by rw [hW0]; exact (Below.refl _ _).alloc (Nat.le_refl _) _
  have hbx : BoxN W0 w.heap.size D (.slice a n c) := by rw [hW0]; exact boxN_new _ _ _
  have hz0 : W0.heap.size = w.heap.size + 1 := by rw [hW0]; simp
  obtain ⟨x0, x1⟩ := hbx.cells
  have hva := valsRef_any D ⟨#[111, 98, 106, 101, 99, 116, 99, 108, 97, 115, 115]⟩ (by decide) L hs (.slice a n c) W0 (h.below hB0 hB0.size)
  rw [show (⟨#[111, 98, 106, 101, 99, 116, 99, 108, 97, 115, 115]⟩ : ByteArray).data.toList = objB from rfl] at hva
  obtain ⟨V, hV⟩ : ∃ V, V = findA L objB := ⟨_, rfl⟩
  have hVs : smallT V := by rw [hV]; exact findA_small hs _
  obtain ⟨Q, hQ⟩ : ∃ Q, Q = classedD (canL L) := ⟨_, rfl⟩
  obtain ⟨R, hR⟩ : ∃ R, R = allC V := ⟨_, rfl⟩
  obtain ⟨m, hml⟩ : ∃ m, m = V.length := ⟨_, rfl⟩
  have hm1 : m ≤ 1000 := by rw [hml]; exact hVs.1
  rw [← hV] at hva
  rw [← hQ]
  have HN := Lib.hid hn
  have HC := Lib.hid hcell
  have HS := Lib.hid hs
  have HSn := Lib.hid hS
  have HB0 := Lib.hid hB0
  have HBx := Lib.hid hbx
  have HW0 := Lib.hid hW0.symm
  have HA := Lib.hid h
  have HVa := Lib.hid hva
  have HV := Lib.hid hV
  have HVs := Lib.hid hVs
  have HQ := Lib.hid hQ
  have HR := Lib.hid hR
  have HMl := Lib.hid hml
  clear hcell hn hs hS hB0 hbx hW0 h hva hV hVs hQ hR hml
  go_enter Tryz.func50, Tryz.ntmps50
  go_upto_region 1 with (fail)
  rw [HW0.out]
  go_wp2_with (go_at_call 76; refine (HVa.out).mono ?_; rintro e w2 ⟨u, rfl, hit, hb2⟩; (obtain ⟨ua, uc, hu, hum, huc⟩ := hit); (rw [← HMl.out] at hu hum); subst hu; have HUc := Lib.hid huc; have HB2 := Lib.hid hb2; clear hb2 huc)
  unfold maxLen at hum
  have hw2 : w.heap.size < w2.heap.size := by have := HB2.out.size; omega
  go_loopw [4, 5, 6, 7] (fun u4 u5 s i wr => ∃ (mu ma : Value) (j : Nat) (A : List CT) (b : Bool), mu = u4 ∧ ma = u5 ∧ j ≤ m ∧ i = .int .i64 j ∧ s = .bool b ∧ A.length ≤ 3 * j ∧ Hid (∀ c ∈ A, c ∈ classL) ∧ Hid (allR A b (V.drop j) = R) ∧ Hid (TwoS w2.heap.size wr mu ma A) ∧ Below w2.heap.size w2 wr) (fun _ _ _ i wr => m - (intOf i).toNat)
  case atStart => exact ⟨_, _, 0, [], false, rfl, rfl, by omega, rfl, rfl, Nat.zero_le _, Lib.hid (fun c h => by simp at h), Lib.hid (by rw [List.drop_zero, allR_start]; exact HR.out.symm), Lib.hid (twoS_nil _ _), Below.refl _ _⟩
  case round =>
    obtain ⟨mu, ma, j, A, b, rfl, rfl, hj, rfl, rfl, hAl, HAc, HAr, HTwo, hbel⟩ := hrel
    rename World => wo
    have HBr := Lib.hid hbel
    by_cases hlt : j < m
    · have t1 : decide ((j : Int) < (m : Int)) = true := by simp; omega
      have t1' : decide (j < m) = true := by simpa using hlt
      have ti0 : (0 : Int) ≤ (j : Int) := by omega
      have ti1 : (j : Int) < (m : Int) := by omega
      have hlV : j < V.length := by rw [← HMl.out]; exact hlt
      obtain ⟨xb, off, rfl, hb0, c0⟩ := HUc.out j hlV
      obtain ⟨X, hX⟩ : ∃ X : ByteArray, ⟨V[j].toArray⟩ = X := ⟨_, rfl⟩
      have hXl : X.data.toList = V[j] := by rw [← hX]
      have d0 : (wo.cell? ⟨xb, off + j, none⟩) = some (.string X) := by
        rw [hbel.cell (p := ⟨xb, _, none⟩) (Nat.lt_of_lt_of_le hb0 HB2.out.size), HB2.out.cell (p := ⟨xb, _, none⟩) hb0, c0, ← hX]; rfl
      have hXs : X.size ≤ 281474976710656 := by
        have := HVs.out.2 V[j] (List.getElem_mem _)
        rw [← bytes_len, hXl]; omega
      have har := HAr.out
      rw [List.drop_eq_getElem_cons hlV] at har
      have hfo := fun W => foldRef_any X W hXs
      obtain ⟨F, hF⟩ : ∃ F, F = foldB X := ⟨_, rfl⟩
      have hFl : F.data.toList = fold V[j] := by rw [hF, ← hXl]; simp [foldB]
      have hFs : F.size ≤ 281474976710656 := by
        have := fold_len V[j]
        rw [← bytes_len, hFl]
        rw [← bytes_len, hXl] at hXs
        omega
      rw [← hF] at hfo
      have HFo := Lib.hid hfo
      have hfi := fun W => findClassRef_any F hFs W
      rw [hFl, low_fold_eq] at hfi
      cases hq : findC (fold V[j]) with
      | none =>
        rw [hq] at hfi
        rw [allR_none hq] at har
        have HE : Hid (Q = false) := Lib.hid (by rw [HQ.out]; exact classedD_none (by rw [← HV.out, ← HR.out, ← har]))
        have HFi := Lib.hid hfi
        clear hfo hfi hX hXl c0 hbel hF hFl hq har
        go_wp2_with (first
          | (go_at_call 35; refine (HFo.out _).mono ?_; rintro e w3 ⟨rfl, hb3⟩; have HB3 := Lib.hid (bthen HBr.out hb3); clear hb3)
          | (go_at_call 77; refine (HFi.out _).mono ?_; rintro e w4 hfw; (simp only [FndR] at hfw); (obtain ⟨hb4, rfl⟩ := hfw); have HB4 := Lib.hid (bthen HB3.out hb4); clear hb4))
        go_ret
        exact ⟨by rw [HE.out]; rfl, HB0.out.trans ((HB2.out.trans ((HB4.out.alloc HB4.out.size _).mono HB2.out.size)).mono HB0.out.size)⟩
      | some k =>
        rw [hq] at hfi
        rw [allR_step hq] at har
        have hkm := (findC_mem hq).1
        obtain ⟨N, hN⟩ : ∃ X : ByteArray, X = ⟨k.name.toArray⟩ := ⟨_, rfl⟩
        obtain ⟨S, hS⟩ : ∃ X : ByteArray, X = ⟨k.sup.toArray⟩ := ⟨_, rfl⟩
        obtain ⟨T, hT⟩ : ∃ T, T = A ++ chainC 3 (fold V[j]) := ⟨_, rfl⟩
        have hTl : T.length ≤ A.length + 3 := by rw [hT, List.length_append]; have := chain_len (fold V[j]) 3; omega
        have hT2 : A ++ restC (some k) = T := by rw [hT, ← rest_find, hq]
        rw [← hT] at har
        have HFi := Lib.hid hfi
        have HAr2 := Lib.hid har
        have HT2 := Lib.hid hT2
        have HKm := Lib.hid hkm
        have HNe := Lib.hid hN
        have HSe := Lib.hid hS
        clear hfo hfi hX hXl c0 hbel hF hFl hq har hT hT2 hkm hN hS HAr
        obtain ⟨kst, hkst⟩ : ∃ s, s = k.st := ⟨_, rfl⟩
        have HKst := Lib.hid hkst
        clear hkst
        go_upto_region 8 with (first
          | (go_at_call 35; refine (HFo.out _).mono ?_; rintro e w3 ⟨rfl, hb3⟩; have HB3 := Lib.hid (bthen HBr.out hb3); have HT3 := Lib.hid (HTwo.out.below hb3); clear hb3)
          | (go_at_call 77; refine (HFi.out _).mono ?_; rintro e w4 hfw; (simp only [FndR, strV, ← HNe.out, ← HSe.out, ← HKst.out] at hfw); (obtain ⟨hb4, u1, u2, rfl, h1, h2⟩ := hfw); (obtain ⟨xa, xn, xc, hx1⟩ := isTo_slice h1); subst hx1; (obtain ⟨ya, yn, yc, hx2⟩ := isTo_slice h2); subst hx2; have HB4 := Lib.hid (bthen HB3.out hb4); have HO4 := Lib.hid (oneC_new (x0 := .string N) (x1 := .string S) (x2 := .bool kst) HT3.out HB3.out.size hb4 HKm.out (by rw [HNe.out]; rfl) (by rw [HSe.out]; rfl) (by rw [HKst.out]) h1 h2); clear hb4 h1 h2))
        have hb5 : Below w4.heap.size w4 (w4.alloc (.cells #[.string N, .string S, .bool kst, .slice xa xn xc, .slice ya yn yc, .bool true] 129)) := (Below.refl _ _).alloc (Nat.le_refl _) _
        have hbxF := boxF_new w4 (.string N) (.string S) (.bool kst) (.slice xa xn xc) (.slice ya yn yc) (.bool true)
        obtain ⟨g, hg⟩ : ∃ g, g = w4.heap.size := ⟨_, rfl⟩
        have HO5 := HO4
        rw [← hg] at HO5 hbxF ⊢
        generalize w4.alloc (.cells #[.string N, .string S, .bool kst, .slice xa xn xc, .slice ya yn yc, .bool true] 129) = w5 at hb5 hbxF HO5 ⊢
        obtain ⟨q0, q1, q2, q3, q4, q5⟩ := hbxF.cells
        have HB5 := Lib.hid (bthen HB4.out hb5)
        have HG := Lib.hid hg
        clear hg hb5 hbxF HO4
        cases b with
        | true =>
          go_wp2
          go_loopw [4, 5] (fun u4 u5 wq => ∃ (mu ma : Value) (A' : List CT) (o : Option CT), mu = u4 ∧ ma = u5 ∧ Hid (A' ++ restC o = T) ∧ Hid (∀ c ∈ A', c ∈ classL) ∧ Hid (OneC w2.heap.size g wq mu ma A' o) ∧ Hid (Below w2.heap.size w2 wq)) (fun _ _ wq => rankC (wq.cell? ⟨g, 5, none⟩) (wq.cell? ⟨g, 0, none⟩))
          case atStart => exact ⟨_, _, A, some k, rfl, rfl, HT2, HAc, HO5, HB5⟩
          case round =>
            obtain ⟨mu, ma, A', o, rfl, rfl, HAT, HAc', HOn, HBq⟩ := hrel
            rename World => wq
            obtain ⟨y0, y1, y2, v1, v2, hbxq, hcls⟩ := HOn.out.cls
            cases o with
            | none =>
              simp only [Option.isSome_none] at hbxq
              obtain ⟨q0, q1, q2, q3, q4, q5⟩ := hbxq.cells
              have HTwn := Lib.hid HOn.out.two
              have HAe : Hid (A' = T) := Lib.hid (by rw [← HAT.out]; simp [restC])
              have HAl2 : Hid (A'.length ≤ 3 * (j + 1)) := Lib.hid (by rw [HAe.out]; omega)
              have HAr3 : Hid (allR A' true (V.drop (j + 1)) = R) := Lib.hid (by rw [HAe.out]; have := HAr2.out; rw [← HKst.out] at this; simpa using this)
              clear hbxq hcls
              go_wp2
              go_roundw
              case rel => exact ⟨_, _, j + 1, A', true, rfl, rfl, by omega, by go_num, rfl, HAl2.out, HAc', HAr3, HTwn, HBq.out⟩
              case measure => simp [intOf]; omega
            | some d =>
              simp only [Option.isSome_some] at hbxq
              obtain ⟨hdm, rfl, rfl, rfl, hv1, hv2⟩ := hcls
              obtain ⟨pa, pn, pc, hx1⟩ := isTo_slice hv1
              subst hx1
              obtain ⟨ra, rn, rc, hx2⟩ := isTo_slice hv2
              subst hx2
              obtain ⟨N2, hN2⟩ : ∃ X : ByteArray, X = ⟨d.name.toArray⟩ := ⟨_, rfl⟩
              obtain ⟨S2, hS2⟩ : ∃ X : ByteArray, X = ⟨d.sup.toArray⟩ := ⟨_, rfl⟩
              simp only [strV, ← hN2, ← hS2] at hbxq
              have hN2l : N2.data.toList = d.name := by rw [hN2]
              have hS2l : S2.data.toList = d.sup := by rw [hS2]
              have hS2s : S2.size ≤ 281474976710656 := by rw [← bytes_len, hS2l]; exact cls_short d hdm
              obtain ⟨q0, q1, q2, q3, q4, q5⟩ := hbxq.cells
              have hrk := rank_some hN2l hdm
              have hln := two_len HAc'.out
              have hAT2 : A'.length ≤ T.length := by rw [← HAT.out, List.length_append]; omega
              have HL1 : Hid ((mustA A').length + d.mustL.length ≤ 100000) := Lib.hid (by have := (cls_len d hdm).1; omega)
              have HL2 : Hid ((mayA A').length + d.mayL.length ≤ 100000) := Lib.hid (by have := (cls_len d hdm).2; omega)
              have HBxq := Lib.hid hbxq
              have HV1 := Lib.hid hv1
              have HV2 := Lib.hid hv2
              have HDm := Lib.hid hdm
              have HRk := Lib.hid hrk
              have hT5 : A' ++ [d] ++ restC (findC d.sup) = T := by rw [← HAT.out, rest_find]; simp [restC]
              have HT5 := Lib.hid hT5
              have HAc2 : Hid (∀ c ∈ A' ++ [d], c ∈ classL) := Lib.hid (fun c hc => by rcases List.mem_append.1 hc with h | h; exact HAc'.out c h; rw [List.mem_singleton] at h; rw [h]; exact HDm.out)
              have hfi2 := fun W => findClassRef_any S2 hS2s W
              rw [hS2l, cls_sup d hdm] at hfi2
              clear hbxq hv1 hv2 hrk hln hAT2 hN2 hS2 hN2l hS2l hT5 hdm
              cases hq2 : findC d.sup with
              | none =>
                rw [hq2] at hfi2
                have HF2 := Lib.hid hfi2
                have HT6 : Hid (A' ++ [d] ++ restC none = T) := Lib.hid (by rw [← hq2]; exact HT5.out)
                clear hfi2 hq2
                go_wp2_with (first
                  | (at_builtin; refine wpList_append_T rfl (.tmp 37) (.tmp 40) rfl w2.heap.size mu (.slice pa pn pc) (mustA A') d.mustL _ rfl rfl HOn.out.two.om HV1.out HL1.out HBq.out.size ?_; intro mu6 w6 hown6 hg6 hat6 hb6; have hq6 := oneC_must HOn.out HBxq.out HV2.out hown6 hg6 hat6; have HM6 := Lib.hid hown6; have HQ6 := Lib.hid hq6; have HB6 := Lib.hid (HBq.out.trans hb6); have HZ6 := Lib.hid (Nat.lt_of_lt_of_le HOn.out.gl hg6.size); (obtain ⟨o0, o1, o2, o3, o4, o5⟩ := HQ6.out.2.1.cells); clear hown6 hg6 hat6 hb6 hq6)
                  | (at_builtin; refine wpList_append_T rfl (.tmp 42) (.tmp 45) rfl w2.heap.size ma (.slice ra rn rc) (mayA A') d.mayL _ rfl rfl HQ6.out.1 HQ6.out.2.2.1 HL2.out HB6.out.size ?_; intro ma7 w7 hown7 hg7 hat7 hb7; have hq7 := oneC_may HM6.out HQ6.out.1 HQ6.out.2.2.2.1 HZ6.out HQ6.out.2.2.2.2 HOn.out.ga HQ6.out.2.1 hown7 hg7 hat7; have HTw7 := Lib.hid hq7.1; have HX7 := Lib.hid hq7.2.1; have HGa7 := Lib.hid hq7.2.2; have HGm7 := Lib.hid HQ6.out.2.2.2.2; have HGl7 := Lib.hid (Nat.lt_of_lt_of_le HZ6.out hg7.size); have HB7 := Lib.hid (HB6.out.trans hb7); (obtain ⟨o0, o1, o2, o3, o4, o5⟩ := HX7.out.cells); clear hown7 hg7 hat7 hb7 hq7)
                  | (go_at_call 77; refine (HF2.out _).mono ?_; rintro e w8 hfw; (simp only [FndR] at hfw); (obtain ⟨hb8, rfl⟩ := hfw); have HO8 := Lib.hid (oneC_none (x0 := .string ⟨#[]⟩) (x1 := .string ⟨#[]⟩) (x2 := .bool false) (u1 := .slice none 0 0) (u2 := .slice none 0 0) HTw7.out HOn.out.gB HGl7.out HGm7.out HGa7.out hb8 HX7.out); have HX8 := Lib.hid (HX7.out.below hb8 HGl7.out); (obtain ⟨m0, m1, m2, m3, m4, m5⟩ := HX8.out.cells); (obtain ⟨n0, n1, n2, n3, n4, n5⟩ := HX8.out.frozen); have HB8 := Lib.hid (bthen HB7.out hb8); clear hb8))
                go_roundw
                case rel => exact ⟨_, _, A' ++ [d], none, rfl, rfl, HT6, HAc2, HO8, Lib.hid (set6_below HB8.out HOn.out.gB _ _ _ _ _ _)⟩
                case measure =>
                  have e1 := (HX8.out.store (.string ⟨#[]⟩) (.string ⟨#[]⟩) (.bool false) (.slice none 0 0) (.slice none 0 0) (.bool false)).cells
                  have e2 := HBxq.out.cells
                  rw [e1.2.2.2.2.2, e2.2.2.2.2.2, e2.1, HRk.out]
                  simp [rankC]
              | some d2 =>
                rw [hq2] at hfi2
                have hd2 := (findC_mem hq2).1
                obtain ⟨N3, hN3⟩ : ∃ X : ByteArray, X = ⟨d2.name.toArray⟩ := ⟨_, rfl⟩
                obtain ⟨S3, hS3⟩ : ∃ X : ByteArray, X = ⟨d2.sup.toArray⟩ := ⟨_, rfl⟩
                obtain ⟨st3, hst3⟩ : ∃ s, s = d2.st := ⟨_, rfl⟩
                have HF2 := Lib.hid hfi2
                have HT6 : Hid (A' ++ [d] ++ restC (some d2) = T) := Lib.hid (by rw [← hq2]; exact HT5.out)
                have HRk3 := Lib.hid (rank_next (N := N3) (by rw [hN3]) hq2)
                have HD2 := Lib.hid hd2
                have HN3 := Lib.hid hN3
                have HS3 := Lib.hid hS3
                have HST3 := Lib.hid hst3
                clear hfi2 hq2 hd2 hN3 hS3 hst3
                go_wp2_with (first
                  | (at_builtin; refine wpList_append_T rfl (.tmp 37) (.tmp 40) rfl w2.heap.size mu (.slice pa pn pc) (mustA A') d.mustL _ rfl rfl HOn.out.two.om HV1.out HL1.out HBq.out.size ?_; intro mu6 w6 hown6 hg6 hat6 hb6; have hq6 := oneC_must HOn.out HBxq.out HV2.out hown6 hg6 hat6; have HM6 := Lib.hid hown6; have HQ6 := Lib.hid hq6; have HB6 := Lib.hid (HBq.out.trans hb6); have HZ6 := Lib.hid (Nat.lt_of_lt_of_le HOn.out.gl hg6.size); (obtain ⟨o0, o1, o2, o3, o4, o5⟩ := HQ6.out.2.1.cells); clear hown6 hg6 hat6 hb6 hq6)
                  | (at_builtin; refine wpList_append_T rfl (.tmp 42) (.tmp 45) rfl w2.heap.size ma (.slice ra rn rc) (mayA A') d.mayL _ rfl rfl HQ6.out.1 HQ6.out.2.2.1 HL2.out HB6.out.size ?_; intro ma7 w7 hown7 hg7 hat7 hb7; have hq7 := oneC_may HM6.out HQ6.out.1 HQ6.out.2.2.2.1 HZ6.out HQ6.out.2.2.2.2 HOn.out.ga HQ6.out.2.1 hown7 hg7 hat7; have HTw7 := Lib.hid hq7.1; have HX7 := Lib.hid hq7.2.1; have HGa7 := Lib.hid hq7.2.2; have HGm7 := Lib.hid HQ6.out.2.2.2.2; have HGl7 := Lib.hid (Nat.lt_of_lt_of_le HZ6.out hg7.size); have HB7 := Lib.hid (HB6.out.trans hb7); (obtain ⟨o0, o1, o2, o3, o4, o5⟩ := HX7.out.cells); clear hown7 hg7 hat7 hb7 hq7)
                  | (go_at_call 77; refine (HF2.out _).mono ?_; rintro e w8 hfw; (simp only [FndR, strV, ← HN3.out, ← HS3.out, ← HST3.out] at hfw); (obtain ⟨hb8, e1, e2, rfl, h1, h2⟩ := hfw); (obtain ⟨ea, en, ec, hx1⟩ := isTo_slice h1); subst hx1; (obtain ⟨fa, fn, fc, hx2⟩ := isTo_slice h2); subst hx2; have HO8 := Lib.hid (oneC_next (x0 := .string N3) (x1 := .string S3) (x2 := .bool st3) HTw7.out HOn.out.gB HGl7.out HGm7.out HGa7.out hb8 HX7.out HD2.out (by rw [HN3.out]; rfl) (by rw [HS3.out]; rfl) (by rw [HST3.out]) h1 h2); have HX8 := Lib.hid (HX7.out.below hb8 HGl7.out); (obtain ⟨m0, m1, m2, m3, m4, m5⟩ := HX8.out.cells); (obtain ⟨n0, n1, n2, n3, n4, n5⟩ := HX8.out.frozen); have HB8 := Lib.hid (bthen HB7.out hb8); clear hb8 h1 h2))
                go_roundw
                case rel => exact ⟨_, _, A' ++ [d], some d2, rfl, rfl, HT6, HAc2, HO8, Lib.hid (set6_below HB8.out HOn.out.gB _ _ _ _ _ _)⟩
                case measure =>
                  have e1 := (HX8.out.store (.string N3) (.string S3) (.bool st3) (.slice ea en ec) (.slice fa fn fc) (.bool true)).cells
                  have e2 := HBxq.out.cells
                  rw [e1.2.2.2.2.2, e1.1, e2.2.2.2.2.2, e2.1, HRk.out, HRk3.out]
                  omega
        | false =>
          go_wp2
          go_loopw [4, 5] (fun u4 u5 wq => ∃ (mu ma : Value) (A' : List CT) (o : Option CT), mu = u4 ∧ ma = u5 ∧ Hid (A' ++ restC o = T) ∧ Hid (∀ c ∈ A', c ∈ classL) ∧ Hid (OneC w2.heap.size g wq mu ma A' o) ∧ Hid (Below w2.heap.size w2 wq)) (fun _ _ wq => rankC (wq.cell? ⟨g, 5, none⟩) (wq.cell? ⟨g, 0, none⟩))
          case atStart => exact ⟨_, _, A, some k, rfl, rfl, HT2, HAc, HO5, HB5⟩
          case round =>
            obtain ⟨mu, ma, A', o, rfl, rfl, HAT, HAc', HOn, HBq⟩ := hrel
            rename World => wq
            obtain ⟨y0, y1, y2, v1, v2, hbxq, hcls⟩ := HOn.out.cls
            cases o with
            | none =>
              simp only [Option.isSome_none] at hbxq
              obtain ⟨q0, q1, q2, q3, q4, q5⟩ := hbxq.cells
              have HTwn := Lib.hid HOn.out.two
              have HAe : Hid (A' = T) := Lib.hid (by rw [← HAT.out]; simp [restC])
              have HAl2 : Hid (A'.length ≤ 3 * (j + 1)) := Lib.hid (by rw [HAe.out]; omega)
              have HAr3 : Hid (allR A' kst (V.drop (j + 1)) = R) := Lib.hid (by rw [HAe.out]; have := HAr2.out; rw [← HKst.out] at this; simpa using this)
              clear hbxq hcls
              go_wp2
              go_roundw
              case rel => exact ⟨_, _, j + 1, A', kst, rfl, rfl, by omega, by go_num, rfl, HAl2.out, HAc', HAr3, HTwn, HBq.out⟩
              case measure => simp [intOf]; omega
            | some d =>
              simp only [Option.isSome_some] at hbxq
              obtain ⟨hdm, rfl, rfl, rfl, hv1, hv2⟩ := hcls
              obtain ⟨pa, pn, pc, hx1⟩ := isTo_slice hv1
              subst hx1
              obtain ⟨ra, rn, rc, hx2⟩ := isTo_slice hv2
              subst hx2
              obtain ⟨N2, hN2⟩ : ∃ X : ByteArray, X = ⟨d.name.toArray⟩ := ⟨_, rfl⟩
              obtain ⟨S2, hS2⟩ : ∃ X : ByteArray, X = ⟨d.sup.toArray⟩ := ⟨_, rfl⟩
              simp only [strV, ← hN2, ← hS2] at hbxq
              have hN2l : N2.data.toList = d.name := by rw [hN2]
              have hS2l : S2.data.toList = d.sup := by rw [hS2]
              have hS2s : S2.size ≤ 281474976710656 := by rw [← bytes_len, hS2l]; exact cls_short d hdm
              obtain ⟨q0, q1, q2, q3, q4, q5⟩ := hbxq.cells
              have hrk := rank_some hN2l hdm
              have hln := two_len HAc'.out
              have hAT2 : A'.length ≤ T.length := by rw [← HAT.out, List.length_append]; omega
              have HL1 : Hid ((mustA A').length + d.mustL.length ≤ 100000) := Lib.hid (by have := (cls_len d hdm).1; omega)
              have HL2 : Hid ((mayA A').length + d.mayL.length ≤ 100000) := Lib.hid (by have := (cls_len d hdm).2; omega)
              have HBxq := Lib.hid hbxq
              have HV1 := Lib.hid hv1
              have HV2 := Lib.hid hv2
              have HDm := Lib.hid hdm
              have HRk := Lib.hid hrk
              have hT5 : A' ++ [d] ++ restC (findC d.sup) = T := by rw [← HAT.out, rest_find]; simp [restC]
              have HT5 := Lib.hid hT5
              have HAc2 : Hid (∀ c ∈ A' ++ [d], c ∈ classL) := Lib.hid (fun c hc => by rcases List.mem_append.1 hc with h | h; exact HAc'.out c h; rw [List.mem_singleton] at h; rw [h]; exact HDm.out)
              have hfi2 := fun W => findClassRef_any S2 hS2s W
              rw [hS2l, cls_sup d hdm] at hfi2
              clear hbxq hv1 hv2 hrk hln hAT2 hN2 hS2 hN2l hS2l hT5 hdm
              cases hq2 : findC d.sup with
              | none =>
                rw [hq2] at hfi2
                have HF2 := Lib.hid hfi2
                have HT6 : Hid (A' ++ [d] ++ restC none = T) := Lib.hid (by rw [← hq2]; exact HT5.out)
                clear hfi2 hq2
                go_wp2_with (first
                  | (at_builtin; refine wpList_append_T rfl (.tmp 37) (.tmp 40) rfl w2.heap.size mu (.slice pa pn pc) (mustA A') d.mustL _ rfl rfl HOn.out.two.om HV1.out HL1.out HBq.out.size ?_; intro mu6 w6 hown6 hg6 hat6 hb6; have hq6 := oneC_must HOn.out HBxq.out HV2.out hown6 hg6 hat6; have HM6 := Lib.hid hown6; have HQ6 := Lib.hid hq6; have HB6 := Lib.hid (HBq.out.trans hb6); have HZ6 := Lib.hid (Nat.lt_of_lt_of_le HOn.out.gl hg6.size); (obtain ⟨o0, o1, o2, o3, o4, o5⟩ := HQ6.out.2.1.cells); clear hown6 hg6 hat6 hb6 hq6)
                  | (at_builtin; refine wpList_append_T rfl (.tmp 42) (.tmp 45) rfl w2.heap.size ma (.slice ra rn rc) (mayA A') d.mayL _ rfl rfl HQ6.out.1 HQ6.out.2.2.1 HL2.out HB6.out.size ?_; intro ma7 w7 hown7 hg7 hat7 hb7; have hq7 := oneC_may HM6.out HQ6.out.1 HQ6.out.2.2.2.1 HZ6.out HQ6.out.2.2.2.2 HOn.out.ga HQ6.out.2.1 hown7 hg7 hat7; have HTw7 := Lib.hid hq7.1; have HX7 := Lib.hid hq7.2.1; have HGa7 := Lib.hid hq7.2.2; have HGm7 := Lib.hid HQ6.out.2.2.2.2; have HGl7 := Lib.hid (Nat.lt_of_lt_of_le HZ6.out hg7.size); have HB7 := Lib.hid (HB6.out.trans hb7); (obtain ⟨o0, o1, o2, o3, o4, o5⟩ := HX7.out.cells); clear hown7 hg7 hat7 hb7 hq7)
                  | (go_at_call 77; refine (HF2.out _).mono ?_; rintro e w8 hfw; (simp only [FndR] at hfw); (obtain ⟨hb8, rfl⟩ := hfw); have HO8 := Lib.hid (oneC_none (x0 := .string ⟨#[]⟩) (x1 := .string ⟨#[]⟩) (x2 := .bool false) (u1 := .slice none 0 0) (u2 := .slice none 0 0) HTw7.out HOn.out.gB HGl7.out HGm7.out HGa7.out hb8 HX7.out); have HX8 := Lib.hid (HX7.out.below hb8 HGl7.out); (obtain ⟨m0, m1, m2, m3, m4, m5⟩ := HX8.out.cells); (obtain ⟨n0, n1, n2, n3, n4, n5⟩ := HX8.out.frozen); have HB8 := Lib.hid (bthen HB7.out hb8); clear hb8))
                go_roundw
                case rel => exact ⟨_, _, A' ++ [d], none, rfl, rfl, HT6, HAc2, HO8, Lib.hid (set6_below HB8.out HOn.out.gB _ _ _ _ _ _)⟩
                case measure =>
                  have e1 := (HX8.out.store (.string ⟨#[]⟩) (.string ⟨#[]⟩) (.bool false) (.slice none 0 0) (.slice none 0 0) (.bool false)).cells
                  have e2 := HBxq.out.cells
                  rw [e1.2.2.2.2.2, e2.2.2.2.2.2, e2.1, HRk.out]
                  simp [rankC]
              | some d2 =>
                rw [hq2] at hfi2
                have hd2 := (findC_mem hq2).1
                obtain ⟨N3, hN3⟩ : ∃ X : ByteArray, X = ⟨d2.name.toArray⟩ := ⟨_, rfl⟩
                obtain ⟨S3, hS3⟩ : ∃ X : ByteArray, X = ⟨d2.sup.toArray⟩ := ⟨_, rfl⟩
                obtain ⟨st3, hst3⟩ : ∃ s, s = d2.st := ⟨_, rfl⟩
                have HF2 := Lib.hid hfi2
                have HT6 : Hid (A' ++ [d] ++ restC (some d2) = T) := Lib.hid (by rw [← hq2]; exact HT5.out)
                have HRk3 := Lib.hid (rank_next (N := N3) (by rw [hN3]) hq2)
                have HD2 := Lib.hid hd2
                have HN3 := Lib.hid hN3
                have HS3 := Lib.hid hS3
                have HST3 := Lib.hid hst3
                clear hfi2 hq2 hd2 hN3 hS3 hst3
                go_wp2_with (first
                  | (at_builtin; refine wpList_append_T rfl (.tmp 37) (.tmp 40) rfl w2.heap.size mu (.slice pa pn pc) (mustA A') d.mustL _ rfl rfl HOn.out.two.om HV1.out HL1.out HBq.out.size ?_; intro mu6 w6 hown6 hg6 hat6 hb6; have hq6 := oneC_must HOn.out HBxq.out HV2.out hown6 hg6 hat6; have HM6 := Lib.hid hown6; have HQ6 := Lib.hid hq6; have HB6 := Lib.hid (HBq.out.trans hb6); have HZ6 := Lib.hid (Nat.lt_of_lt_of_le HOn.out.gl hg6.size); (obtain ⟨o0, o1, o2, o3, o4, o5⟩ := HQ6.out.2.1.cells); clear hown6 hg6 hat6 hb6 hq6)
                  | (at_builtin; refine wpList_append_T rfl (.tmp 42) (.tmp 45) rfl w2.heap.size ma (.slice ra rn rc) (mayA A') d.mayL _ rfl rfl HQ6.out.1 HQ6.out.2.2.1 HL2.out HB6.out.size ?_; intro ma7 w7 hown7 hg7 hat7 hb7; have hq7 := oneC_may HM6.out HQ6.out.1 HQ6.out.2.2.2.1 HZ6.out HQ6.out.2.2.2.2 HOn.out.ga HQ6.out.2.1 hown7 hg7 hat7; have HTw7 := Lib.hid hq7.1; have HX7 := Lib.hid hq7.2.1; have HGa7 := Lib.hid hq7.2.2; have HGm7 := Lib.hid HQ6.out.2.2.2.2; have HGl7 := Lib.hid (Nat.lt_of_lt_of_le HZ6.out hg7.size); have HB7 := Lib.hid (HB6.out.trans hb7); (obtain ⟨o0, o1, o2, o3, o4, o5⟩ := HX7.out.cells); clear hown7 hg7 hat7 hb7 hq7)
                  | (go_at_call 77; refine (HF2.out _).mono ?_; rintro e w8 hfw; (simp only [FndR, strV, ← HN3.out, ← HS3.out, ← HST3.out] at hfw); (obtain ⟨hb8, e1, e2, rfl, h1, h2⟩ := hfw); (obtain ⟨ea, en, ec, hx1⟩ := isTo_slice h1); subst hx1; (obtain ⟨fa, fn, fc, hx2⟩ := isTo_slice h2); subst hx2; have HO8 := Lib.hid (oneC_next (x0 := .string N3) (x1 := .string S3) (x2 := .bool st3) HTw7.out HOn.out.gB HGl7.out HGm7.out HGa7.out hb8 HX7.out HD2.out (by rw [HN3.out]; rfl) (by rw [HS3.out]; rfl) (by rw [HST3.out]) h1 h2); have HX8 := Lib.hid (HX7.out.below hb8 HGl7.out); (obtain ⟨m0, m1, m2, m3, m4, m5⟩ := HX8.out.cells); (obtain ⟨n0, n1, n2, n3, n4, n5⟩ := HX8.out.frozen); have HB8 := Lib.hid (bthen HB7.out hb8); clear hb8 h1 h2))
                go_roundw
                case rel => exact ⟨_, _, A' ++ [d], some d2, rfl, rfl, HT6, HAc2, HO8, Lib.hid (set6_below HB8.out HOn.out.gB _ _ _ _ _ _)⟩
                case measure =>
                  have e1 := (HX8.out.store (.string N3) (.string S3) (.bool st3) (.slice ea en ec) (.slice fa fn fc) (.bool true)).cells
                  have e2 := HBxq.out.cells
                  rw [e1.2.2.2.2.2, e1.1, e2.2.2.2.2.2, e2.1, HRk.out, HRk3.out]
                  omega
    · obtain rfl : j = m := by omega
      have t1 : decide ((j : Int) < (j : Int)) = false := by simp
      have t1' : decide (j < j) = false := by simp
      have hR2 : allC (findA L objB) = some (A, b) := by
        have := HAr.out
        rw [List.drop_of_length_le (by rw [← HMl.out]; exact Nat.le_refl _), allR_end] at this
        rw [← HV.out, ← HR.out, ← this]
      have HR2 := Lib.hid hR2
      have hml := two_len HAc.out
      obtain ⟨sa, sc, hmu⟩ := ownS_slice HTwo.out.om
      obtain ⟨ya, yc, hma⟩ := ownS_slice HTwo.out.oa
      have him := ownS_isT HTwo.out.om (by unfold maxLen; omega)
      have hia := ownS_isT HTwo.out.oa (by unfold maxLen; omega)
      obtain ⟨Mu, hMu⟩ : ∃ M, M = mustA A := ⟨_, rfl⟩
      obtain ⟨Ma, hMa⟩ : ∃ M, M = mayA A := ⟨_, rfl⟩
      rw [← hMu] at hml hmu him
      rw [← hMa] at hml hma hia
      obtain ⟨p, hp⟩ : ∃ p, p = Mu.length := ⟨_, rfl⟩
      obtain ⟨q, hq⟩ : ∃ q, q = Ma.length := ⟨_, rfl⟩
      rw [← hp] at hml hmu
      rw [← hq] at hml hma
      subst hmu hma
      obtain ⟨_, _, he, _, hic⟩ := id him
      obtain ⟨rfl, hpp, rfl⟩ := Value.slice.inj he
      clear hpp
      have HIc := Lib.hid hic
      have HIm := Lib.hid him
      have HIa := Lib.hid hia
      have HMu := Lib.hid hMu
      have HMa := Lib.hid hMa
      have HP := Lib.hid hp
      have HQn := Lib.hid hq
      have hbx := HBx.out.below (HB2.out.trans (hbel.mono HB2.out.size)) (by omega)
      have hbz := hbel.size
      have HBx2 := Lib.hid hbx
      obtain ⟨x0, x1⟩ := hbx.cells
      have hp4 : p ≤ 100000 := by omega
      have hq4 : q ≤ 100000 := by omega
      have HAz : Hid (IsA wo.heap.size wo L (.slice a n c)) := Lib.hid (HA.out.below (HB0.out.trans ((HB2.out.trans (hbel.mono HB2.out.size)).mono HB0.out.size)) (by omega))
      have HMs : Hid (∀ x ∈ Mu, x.length ≤ 100) := Lib.hid (by rw [hMu]; intro x hx; obtain ⟨c, hc, hx⟩ := List.mem_flatMap.1 hx; exact cls_elem c (HAc.out c hc) x hx)
      have HBz := Lib.hid (HB0.out.trans ((HB2.out.trans (hbel.mono HB2.out.size)).mono HB0.out.size))
      clear hR2 hml him hia he hic hMu hMa hp hq hbx hbel HTwo HAr
      go_wp2
      clear t1 t1'
      have HTo := Lib.hid (Below.refl wo.heap.size wo)
      go_loopw [9] (fun i wr => ∃ k : Nat, k ≤ p ∧ i = .int .i64 k ∧ Hid (∀ x (hx : x < Mu.length), x < k → ∃ y, ∃ hy : y < L.length, (low L[y].1 == low Mu[x]) = true) ∧ Below wo.heap.size wo wr) (fun i wr => p - (intOf i).toNat)
      case atStart => exact ⟨0, by omega, rfl, Lib.hid (fun x _ h => absurd h (by omega)), HTo.out⟩
      case round =>
        obtain ⟨k, hk, rfl, HMk, hbel⟩ := hrel
        rename World => wp
        have HTp := Lib.hid hbel
        by_cases hkp : k < p
        · have r1 : decide ((k : Int) < (p : Int)) = true := by simp; omega
          have r1' : decide (k < p) = true := by simpa using hkp
          have r2 : (0 : Int) ≤ (k : Int) := by omega
          have r3 : (k : Int) < (p : Int) := by omega
          have hkM : k < Mu.length := by rw [← HP.out]; exact hkp
          obtain ⟨mb, mo, rfl, hmb, hmc⟩ := HIc.out k hkM
          obtain ⟨Y, hY⟩ : ∃ Y : ByteArray, ⟨Mu[k].toArray⟩ = Y := ⟨_, rfl⟩
          have hYl : Y.data.toList = Mu[k] := by rw [← hY]
          have hYs : Y.size ≤ 281474976710656 := by rw [← bytes_len, hYl]; have := HMs.out Mu[k] (List.getElem_mem _); omega
          have HKy : Hid (∀ wx, Below wo.heap.size wo wx → (wx.cell? ⟨w.heap.size, 0, none⟩ = some (.string D) ∧ wx.cell? ⟨w.heap.size, 1, none⟩ = some (.slice a n c) ∧ wx.cell? ⟨mb, mo + k, none⟩ = some (.string Y))) := Lib.hid (fun wx hb => ⟨(HBx2.out.below hb (by omega)).cells.1, (HBx2.out.below hb (by omega)).cells.2, by rw [hb.cell (p := ⟨mb, _, none⟩) hmb, hmc, ← hY]; rfl⟩)
          have hst0 := HKy.out wp.drew hbel.drew
          have hat := fun W (hb : Below wo.heap.size wo W) => attrRef_any D Y hYs L HS.out (.slice a n c) W (HAz.out.below hb hb.size)
          rw [hYl] at hat
          have HAt := Lib.hid hat
          clear hat hY hYl hmc
          by_cases hhas : ∃ y, ∃ hy : y < L.length, (low L[y].1 == low Mu[k]) = true
          · have HIn : Hid (∀ I, AttrP L Mu[k] I → ¬ I < 0) := Lib.hid (fun I h => by
              obtain ⟨y, hy, hye⟩ := hhas
              rcases h with ⟨q, hq, rfl, _, _⟩ | ⟨rfl, h2⟩
              · omega
              · rw [h2 y hy] at hye; cases hye)
            have HM2 : Hid (∀ x (hx : x < Mu.length), x < k + 1 → ∃ y, ∃ hy : y < L.length, (low L[y].1 == low Mu[x]) = true) := Lib.hid (fun x h1 h3 => by
              by_cases hk : x < k
              · exact HMk.out x h1 hk
              · obtain rfl : x = k := by omega
                exact hhas)
            clear hhas hbel
            go_upto_region 18 with (fail)
            go_region_held3 (fun w' => w'.cell? ⟨w.heap.size, 0, none⟩ = some (.string D) ∧ w'.cell? ⟨w.heap.size, 1, none⟩ = some (.slice a n c) ∧ w'.cell? ⟨mb, mo + k, none⟩ = some (.string Y)) (first | (with_reducible exact hst0) | (with_reducible exact hst1)) (first | (go_at_call 73; (refine (HAt.out _ HTp.out.drew).mono ?_); rintro e wx ⟨I, rfl, hI, hbx⟩; have t3 : decide (I < 0) = false := (by have := HIn.out I hI; simp; omega); have HTx := Lib.hid (bthen HTp.out (drewB hbx)); have hst1 := HKy.out _ HTx.out; clear hbx hI))
            all_goals
              go_split_ands
              go_simp
              go_wp2
              go_roundw
              case rel => exact ⟨k + 1, by omega, by go_num, HM2, HTx.out⟩
              case measure => simp [intOf]; omega
          · have HIn : Hid (∀ I, AttrP L Mu[k] I → I < 0) := Lib.hid (fun I h => by
              rcases h with ⟨q, hq, rfl, h1, _⟩ | ⟨rfl, h2⟩
              · exact absurd ⟨q, hq, h1⟩ hhas
              · omega)
            have HE : Hid (Q = false) := Lib.hid (by
              rw [HQ.out]
              have hk2 : k < (mustA A).length := by rw [← HMu.out]; exact hkM
              refine classedD_must HSn.out HR2.out k hk2 fun y hy => ?_
              rw [Bool.eq_false_iff]
              intro e
              exact hhas ⟨y, hy, by have e2 : Mu[k] = (mustA A)[k] := by simp only [HMu.out]
                                    rw [e2]; exact e⟩)
            clear hhas hbel
            go_upto_region 18 with (fail)
            go_region_held3 (fun w' => w'.cell? ⟨w.heap.size, 0, none⟩ = some (.string D) ∧ w'.cell? ⟨w.heap.size, 1, none⟩ = some (.slice a n c) ∧ w'.cell? ⟨mb, mo + k, none⟩ = some (.string Y)) (first | (with_reducible exact hst0) | (with_reducible exact hst1)) (first | (go_at_call 73; (refine (HAt.out _ HTp.out.drew).mono ?_); rintro e wx ⟨I, rfl, hI, hbx⟩; have t3 : decide (I < 0) = true := (by have := HIn.out I hI; simp; omega); have HTx := Lib.hid (bthen HTp.out (drewB hbx)); have hst1 := HKy.out _ HTx.out; clear hbx hI))
            all_goals
              go_split_ands
              go_simp
              go_wp2
              go_ret
              exact ⟨by rw [HE.out]; rfl, bthen HBz.out HTx.out⟩
        · obtain rfl : k = p := by omega
          have r1 : decide ((k : Int) < (k : Int)) = false := by simp
          have r1' : decide (k < k) = false := by simp
          have HMall : Hid (∀ x (hx : x < (mustA A).length), ∃ y, ∃ hy : y < L.length, (low L[y].1 == low (mustA A)[x]) = true) := Lib.hid (by
            intro x hx
            have hx2 : x < Mu.length := by rw [HMu.out]; exact hx
            obtain ⟨y, hy, e⟩ := HMk.out x hx2 (by rw [HP.out]; exact hx2)
            have e2 : Mu[x] = (mustA A)[x] := by simp only [HMu.out]
            exact ⟨y, hy, by rw [← e2]; exact e⟩)
          clear hbel HMk
          go_wp2
          clear r1 r1'
          go_loopw [10] (fun i wr => ∃ e : Nat, e ≤ n ∧ i = .int .i64 e ∧ Hid (∀ x (hx : x < L.length), x < e → (mustA A).contains (low L[x].1) = true ∨ (mayA A).contains (low L[x].1) = true) ∧ Below wo.heap.size wo wr) (fun i wr => n - (intOf i).toNat)
          case atStart => exact ⟨0, by omega, rfl, Lib.hid (fun x _ h => absurd h (by omega)), HTp.out⟩
          case round =>
            obtain ⟨e, he, rfl, HSa, hbel⟩ := hrel
            rename World => wq
            have HTq := Lib.hid hbel
            obtain ⟨x0, x1⟩ := (HBx2.out.below hbel (by omega)).cells
            by_cases hen : e < n
            · have r1 : decide ((e : Int) < (n : Int)) = true := by simp; omega
              have r1' : decide (e < n) = true := by simpa using hen
              have heL : e < L.length := by rw [← HN.out]; exact hen
              obtain ⟨b1, off1, u, rfl, hb0, c0, _, _⟩ := HC.out e heL
              obtain ⟨X, hX⟩ : ∃ X : ByteArray, ⟨L[e].1.toArray⟩ = X := ⟨_, rfl⟩
              have hXl : X.data.toList = L[e].1 := by rw [← hX]
              have d0 : (wq.cell? ⟨b1, off1 + e * 2, none⟩) = some (.string X) := by
                rw [hbel.cell (p := ⟨b1, off1 + e * 2, none⟩) (Nat.lt_of_lt_of_le hb0 HBz.out.size), HBz.out.cell (p := ⟨b1, off1 + e * 2, none⟩) hb0, c0, ← hX]; rfl
              have hXs : X.size ≤ 281474976710656 := by
                have := (HS.out.2 L[e] (List.getElem_mem _)).1
                rw [← bytes_len, hXl]; omega
              have HLx := Lib.hid (fun W => lowerRef_any X W hXs)
              obtain ⟨T, hT⟩ : ∃ T, T = lowB X := ⟨_, rfl⟩
              have hTl : T.data.toList = low L[e].1 := by rw [hT, lowB_list, hXl]
              rw [← hT] at HLx
              have ham1 := fun W (hb : Below wo.heap.size wo W) => amongRef_any Mu _ T W (HIm.out.below hb hb.size)
              have ham2 := fun W (hb : Below wo.heap.size wo W) => amongRef_any Ma _ T W (HIa.out.below hb hb.size)
              rw [hTl, HMu.out] at ham1
              rw [hTl, HMa.out] at ham2
              cases hc1 : (mustA A).contains (low L[e].1) with
              | true =>
                rw [hc1] at ham1
                have HM1 := Lib.hid ham1
                have HA2 : Hid (∀ x (hx : x < L.length), x < e + 1 → (mustA A).contains (low L[x].1) = true ∨ (mayA A).contains (low L[x].1) = true) := Lib.hid (fun x h1 h3 => by
                  by_cases hk : x < e
                  · exact HSa.out x h1 hk
                  · obtain rfl : x = e := by omega
                    exact .inl hc1)
                clear ham1 ham2 hc1 hX hXl c0 hT hTl hbel HSa
                go_wp2_with (first
                  | (go_at_call 34; refine (HLx.out _).mono ?_; rintro ez w3 ⟨rfl, hb3⟩; have HT3 := Lib.hid (bthen HTq.out hb3); clear hb3)
                  | (go_at_call 78; ((with_reducible refine (HM1.out _ HT3.out).mono ?_); rintro ez w4 ⟨rfl, rfl⟩)))
                go_roundw
                case rel => exact ⟨e + 1, by omega, by go_num, HA2, HT3.out⟩
                case measure => simp [intOf]; omega
              | false =>
                rw [hc1] at ham1
                have HM1 := Lib.hid ham1
                cases hc2 : (mayA A).contains (low L[e].1) with
                | true =>
                  rw [hc2] at ham2
                  have HM2 := Lib.hid ham2
                  have HA2 : Hid (∀ x (hx : x < L.length), x < e + 1 → (mustA A).contains (low L[x].1) = true ∨ (mayA A).contains (low L[x].1) = true) := Lib.hid (fun x h1 h3 => by
                    by_cases hk : x < e
                    · exact HSa.out x h1 hk
                    · obtain rfl : x = e := by omega
                      exact .inr hc2)
                  clear ham1 ham2 hc1 hc2 hX hXl c0 hT hTl hbel HSa
                  go_wp2_with (first
                    | (go_at_call 34; refine (HLx.out _).mono ?_; rintro ez w3 ⟨rfl, hb3⟩; have HT3 := Lib.hid (bthen HTq.out hb3); clear hb3)
                    | (go_at_call 78; ((with_reducible refine (HM1.out _ HT3.out).mono ?_); rintro ez w4 ⟨rfl, rfl⟩))
                    | (go_at_call 78; ((with_reducible refine (HM2.out _ HT3.out).mono ?_); rintro ez w4 ⟨rfl, rfl⟩)))
                  go_roundw
                  case rel => exact ⟨e + 1, by omega, by go_num, HA2, HT3.out⟩
                  case measure => simp [intOf]; omega
                | false =>
                  rw [hc2] at ham2
                  have HM2 := Lib.hid ham2
                  have HE : Hid (Q = false) := Lib.hid (by rw [HQ.out]; exact classedD_may HR2.out e heL hc1 hc2)
                  clear ham1 ham2 hc1 hc2 hX hXl c0 hT hTl hbel HSa
                  go_wp2_with (first
                    | (go_at_call 34; refine (HLx.out _).mono ?_; rintro ez w3 ⟨rfl, hb3⟩; have HT3 := Lib.hid (bthen HTq.out hb3); clear hb3)
                    | (go_at_call 78; ((with_reducible refine (HM1.out _ HT3.out).mono ?_); rintro ez w4 ⟨rfl, rfl⟩))
                    | (go_at_call 78; ((with_reducible refine (HM2.out _ HT3.out).mono ?_); rintro ez w4 ⟨rfl, rfl⟩)))
                  go_ret
                  exact ⟨by rw [HE.out]; rfl, bthen HBz.out HT3.out⟩
            · obtain rfl : e = n := by omega
              have r1 : decide ((e : Int) < (e : Int)) = false := by simp
              have r1' : decide (e < e) = false := by simp
              have HE : Hid (Q = b) := Lib.hid (by rw [HQ.out]; exact classedD_st HSn.out HR2.out HMall.out (fun x hx => HSa.out x hx (by rw [HN.out]; exact hx)))
              clear hbel HSa
              go_wp2
              go_ret
              exact ⟨by rw [HE.out]; rfl, bthen HBz.out HTq.out⟩
end Go.Proofs.YtpnbcmblnplbgaaGreatDoor


namespace Go.Proofs.YtpnbcmblnplbgaaGreatDoor
open Go.RowKit
set_option linter.unusedVariables false

theorem soundX_err {L : List AT} {c x : Int} (h : AttrsR L c) (he : soundR [] L = .error x) : c ≠ 0 ∧ c = x := by
  rcases h with ⟨_, h2⟩ | ⟨h1, h2⟩
  · rw [snd_end h2] at he; cases he
  · rw [h2] at he; cases he; exact ⟨h1, rfl⟩
theorem soundX_ok {L A : List AT} {c : Int} (h : AttrsR L c) (he : soundR [] L = .ok A) : c = 0 ∧ SndAt L L.length := by
  rcases h with ⟨h1, h2⟩ | ⟨h1, h2⟩
  · exact ⟨h1, h2⟩
  · rw [h2] at he; cases he

set_option maxRecDepth 100000 in
set_option maxHeartbeats 8000000 in
theorem checkRef_any (D : ByteArray) (hD : D.size ≤ 100000) (L : List AT) (hs : smallA L) (v : Value) (w : World) (h : IsA w.heap.size w L v) :
    Calls Tryz.prog 27 #[.agg #[.string D, v]] w fun e w' => e = .returned (.int .i64 (checkD D.data.toList L)) ∧ Below w.heap.size w w' := by
  obtain ⟨a, c, hv, hm, _⟩ := id h
  obtain ⟨n, hn⟩ : ∃ n, n = L.length := ⟨_, rfl⟩
  rw [← hn] at hv hm
  subst hv
  unfold maxLen at hm
  obtain ⟨R, hR⟩ : ∃ R, R = checkD D.data.toList L := ⟨_, rfl⟩
  rw [← hR]
  obtain ⟨W0, hW0⟩ : ∃ W0, W0 = w.alloc (.cells #[.string D, .slice a n c] 27) := ⟨_, rfl⟩
  have hB0 : Below w.heap.size w W0 := by rw [hW0]; exact (Below.refl _ _).alloc (Nat.le_refl _) _
  have hbx : BoxN W0 w.heap.size D (.slice a n c) := by rw [hW0]; exact boxN_new _ _ _
  have hz0 : W0.heap.size = w.heap.size + 1 := by rw [hW0]; simp
  obtain ⟨x0, x1⟩ := hbx.cells
  have hp := fun W => parseRef_any D hD W
  have hke := fun W => keyRef_any D hD W
  have HN := Lib.hid hn
  have HR := Lib.hid hR
  have HS := Lib.hid hs
  have HB0 := Lib.hid hB0
  have HBx := Lib.hid hbx
  have HW0 := Lib.hid hW0.symm
  have HA := Lib.hid h
  clear hn hR hs hB0 hbx hW0 h
  cases hpd : parseD D.data.toList with
  | none =>
    have HE : Hid (R = 34) := Lib.hid (by rw [HR.out]; exact check_none (key_no hpd))
    rw [hpd] at hp
    have HP := Lib.hid hp
    clear hp hpd hke
    go_enter Tryz.func27, Tryz.ntmps27
    go_upto_region 1 with (fail)
    rw [HW0.out]
    go_wp2_with (go_at_call 17; refine (HP.out _).mono ?_; rintro e w2 ⟨hb2, rfl⟩; have HB2 := Lib.hid (HB0.out.trans (hb2.mono HB0.out.size)); clear hb2)
    go_ret
    exact ⟨by rw [HE.out]; rfl, HB2.out.alloc HB2.out.size _⟩
  | some l =>
    rw [hpd] at hp
    cases l with
    | nil =>
      have HE : Hid (R = 34) := Lib.hid (by rw [HR.out]; exact check_empty (key_nil hpd))
      have HP := Lib.hid hp
      clear hp hpd hke
      go_enter Tryz.func27, Tryz.ntmps27
      go_upto_region 1 with (fail)
      rw [HW0.out]
      go_wp2_with (go_at_call 17; refine (HP.out _).mono ?_; rintro e w2 ⟨hb2, v2, rfl, hil⟩; (obtain ⟨la, lc, hlv, _⟩ := hil); (rw [List.length_nil] at hlv); subst hlv; have HB2 := Lib.hid (HB0.out.trans (hb2.mono HB0.out.size)); clear hb2)
      go_ret
      exact ⟨by rw [HE.out]; rfl, HB2.out.alloc HB2.out.size _⟩
    | cons r rs =>
      obtain ⟨ln, hln⟩ : ∃ k, k = (r :: rs).length := ⟨_, rfl⟩
      have hl0 : 0 < ln := by rw [hln]; simp
      have HP := Lib.hid hp
      have HLn := Lib.hid hln
      have HPd := Lib.hid hpd
      clear hp hpd hln
      go_enter Tryz.func27, Tryz.ntmps27
      go_upto_region 1 with (fail)
      rw [HW0.out]
      go_upto_region 2 with (go_at_call 17; refine (HP.out _).mono ?_; rintro e w2 ⟨hb2, v2, rfl, hil⟩; (obtain ⟨la, lc, hlv, hlm, hlc⟩ := hil); (rw [← HLn.out] at hlv); subst hlv; have HB2 := Lib.hid hb2; have HLc := Lib.hid hlc; clear hb2 hlc hlm)
      obtain ⟨lb, lo, rfl, hlb, c0, c1⟩ := HLc.out 0 (by simp)
      simp only [List.getElem_cons_zero, Nat.zero_mul, Nat.add_zero] at c0 c1
      obtain ⟨rT, hrT⟩ : ∃ X : ByteArray, ⟨r.1.toArray⟩ = X := ⟨_, rfl⟩
      obtain ⟨rV, hrV⟩ : ∃ X : ByteArray, ⟨r.2.toArray⟩ = X := ⟨_, rfl⟩
      have hrTl : rT.data.toList = r.1 := by rw [← hrT]
      have hrVl : rV.data.toList = r.2 := by rw [← hrV]
      have d0 : w2.cell? ⟨lb, lo, none⟩ = some (.string rT) := by rw [c0, ← hrT]; rfl
      have d1 : w2.cell? ⟨lb, lo + 1, none⟩ = some (.string rV) := by rw [c1, ← hrV]; rfl
      have hb3 : Below w2.heap.size w2 (w2.alloc (.cells #[.slice (some ⟨lb, lo, none⟩) ln lc, .bool true] 53)) := (Below.refl _ _).alloc (Nat.le_refl _) _
      have hbd := boxD_new w2 (.slice (some ⟨lb, lo, none⟩) ln lc) true
      have hs3 : (w2.alloc (.cells #[.slice (some ⟨lb, lo, none⟩) ln lc, .bool true] 53)).heap.size = w2.heap.size + 1 := by simp
      generalize w2.alloc (.cells #[.slice (some ⟨lb, lo, none⟩) ln lc, .bool true] 53) = W3 at hb3 hbd hs3 ⊢
      obtain ⟨gd, hgd⟩ : ∃ g, g = w2.heap.size := ⟨_, rfl⟩
      rw [← hgd] at hbd ⊢
      have hB3 := bthen HB2.out hb3
      have hbx3 := HBx.out.below hB3 (by omega)
      have hw3 : w.heap.size < W3.heap.size := by have := hB3.size; omega
      have hg3 : gd < W3.heap.size := by omega
      have hl3 : lb < W3.heap.size := by omega
      have HB3 := Lib.hid (HB0.out.trans (hB3.mono HB0.out.size))
      have HKc : Hid (∀ wx, Below W3.heap.size W3 wx → (wx.cell? ⟨w.heap.size, 0, none⟩ = some (.string D) ∧ wx.cell? ⟨w.heap.size, 1, none⟩ = some (.slice a n c)) ∧ (wx.cell? ⟨gd, 0, none⟩ = some (.slice (some ⟨lb, lo, none⟩) ln lc) ∧ wx.cell? ⟨gd, 1, none⟩ = some (.bool true))) := Lib.hid (fun wx hb => ⟨(hbx3.below hb hw3).cells, (hbd.below hb hg3).cells.1, (hbd.below hb hg3).cells.2.1⟩)
      have HKr : Hid (∀ wx, Below W3.heap.size W3 wx → (wx.cell? ⟨lb, lo, none⟩ = some (.string rT) ∧ wx.cell? ⟨lb, lo + 1, none⟩ = some (.string rV))) := Lib.hid (fun wx hb => ⟨by rw [hb.cell (p := ⟨lb, lo, none⟩) hl3, hb3.cell (p := ⟨lb, lo, none⟩) hlb]; exact d0, by rw [hb.cell (p := ⟨lb, lo + 1, none⟩) hl3, hb3.cell (p := ⟨lb, lo + 1, none⟩) hlb]; exact d1⟩)
      have HAz : Hid (IsA W3.heap.size W3 L (.slice a n c)) := Lib.hid (HA.out.below HB3.out HB3.out.size)
      have HRT := Lib.hid hrTl
      have HRV := Lib.hid hrVl
      have HTz := Lib.hid (Below.refl W3.heap.size W3)
      have s1 : ((ln : Int) == 0) = false := by simp; omega
      have s1' : decide ((ln : Int) = 0) = false := by simp; omega
      have HAt := Lib.hid (fun W (hb : Below W3.heap.size W3 W) => attrsRef_any D L HS.out (.slice a n c) W (HAz.out.below hb hb.size))
      have HCl := Lib.hid (fun (hS : SndAt L L.length) W (hb : Below W3.heap.size W3 W) => classesDoc_any D L HS.out hS (.slice a n c) W (HAz.out.below hb hb.size))
      obtain ⟨⟨x0, x1⟩, ⟨y0, y1⟩⟩ := HKc.out _ HTz.out
      clear c0 c1 d0 d1 hrT hrV hrTl hrVl hb3 hbd hB3 hbx3 hgd hlb
      cases hk : keyD D.data.toList with
      | none =>
        have HE : Hid (R = 34) := Lib.hid (by rw [HR.out]; exact check_none hk)
        rw [hk] at hke
        have HKe := Lib.hid (show ∀ W, Calls Tryz.prog 20 #[.string D] W fun e w' => e = .returned (.agg #[.string ⟨#[]⟩, .bool false]) ∧ Below W.heap.size W w' from hke)
        have fs := fun (W : World) => field_said1 W ⟨#[]⟩ false
        clear hke hk
        go_wp2_with (first | (go_at_call 20; refine (HKe.out _).mono ?_; rintro e wx ⟨rfl, hbx⟩; have HTz := Lib.hid (bthen HTz.out hbx); obtain ⟨⟨x0, x1⟩, ⟨y0, y1⟩⟩ := HKc.out _ HTz.out; clear hbx))
        go_ret
        exact ⟨by rw [HE.out]; rfl, bthen HB3.out HTz.out⟩
      | some kk =>
        have hkn := key_some HPd.out hk
        rw [hk] at hke
        have HKe := Lib.hid (show ∀ W, Calls Tryz.prog 20 #[.string D] W fun e w' => e = .returned (.agg #[.string ⟨kk.toArray⟩, .bool true]) ∧ Below W.heap.size W w' from hke)
        have fs := fun (W : World) => field_said1 W ⟨kk.toArray⟩ true
        have HK := Lib.hid hk
        have HKn := Lib.hid hkn
        clear hke hk hkn
        by_cases h20 : 20 < n
        · have HE : Hid (R = 19) := Lib.hid (by rw [HR.out]; exact check_many HK.out HKn.out (by rw [← HN.out]; exact h20))
          have s2 : decide ((20 : Int) < (n : Int)) = true := by simp; omega
          clear h20
          go_wp2_with (first | (go_at_call 20; refine (HKe.out _).mono ?_; rintro e wx ⟨rfl, hbx⟩; have HTz := Lib.hid (bthen HTz.out hbx); obtain ⟨⟨x0, x1⟩, ⟨y0, y1⟩⟩ := HKc.out _ HTz.out; clear hbx))
          go_ret
          exact ⟨by rw [HE.out]; rfl, bthen HB3.out HTz.out⟩
        · have HL20 : Hid (¬ 20 < L.length) := Lib.hid (by rw [← HN.out]; exact h20)
          have s2 : decide ((20 : Int) < (n : Int)) = false := by simp; omega
          clear h20
          cases hso : soundR [] L with
          | error x =>
            have HE : Hid (R = x) := Lib.hid (by rw [HR.out]; exact check_sound HK.out HKn.out HL20.out hso)
            have HEr := Lib.hid (fun c (h : AttrsR L c) => soundX_err h hso)
            clear hso
            go_wp2_with (first | (go_at_call 20; refine (HKe.out _).mono ?_; rintro e wx ⟨rfl, hbx⟩; have HTz := Lib.hid (bthen HTz.out hbx); obtain ⟨⟨x0, x1⟩, ⟨y0, y1⟩⟩ := HKc.out _ HTz.out; clear hbx) | (go_at_call 49; refine (HAt.out _ HTz.out).mono ?_; rintro e wx ⟨c1, rfl, hA, hbx⟩; have HTz := Lib.hid (bthen HTz.out hbx); obtain ⟨⟨x0, x1⟩, ⟨y0, y1⟩⟩ := HKc.out _ HTz.out; have hc1 := HEr.out c1 hA; have t9 : (c1 == 0) = false := (by simpa using hc1.1); have HC1 := Lib.hid hc1.2; clear hbx hA hc1))
            go_ret
            exact ⟨by rw [HE.out, ← HC1.out]; rfl, bthen HB3.out HTz.out⟩
          | ok A =>
            have HOk := Lib.hid (fun c (h : AttrsR L c) => soundX_ok h hso)
            have hA : ∀ (h : SndAt L L.length), R = behindD (canL L) D.data.toList := fun h => by
              have e : A = canL L := by rw [snd_end h] at hso; cases hso; rfl
              rw [HR.out, check_behind HK.out HKn.out HL20.out hso, e]
            have HBe := Lib.hid hA
            clear hso hA
            cases hcd : classedD (canL L) with
            | false =>
              have HCD := Lib.hid hcd
              have HCl := Lib.hid (fun (hS : SndAt L L.length) W (hb : Below W3.heap.size W3 W) => show Calls Tryz.prog 50 #[.agg #[.string D, .slice a n c]] W fun e w' => e = .returned (.bool false) ∧ Below W.heap.size W w' from by rw [← HCD.out]; exact HCl.out hS W hb)
              clear hcd
              go_wp2_with (first | (go_at_call 20; refine (HKe.out _).mono ?_; rintro e wx ⟨rfl, hbx⟩; have HTz := Lib.hid (bthen HTz.out hbx); obtain ⟨⟨x0, x1⟩, ⟨y0, y1⟩⟩ := HKc.out _ HTz.out; clear hbx) | (go_at_call 49; refine (HAt.out _ HTz.out).mono ?_; rintro e wx ⟨c1, rfl, hA, hbx⟩; have HTz := Lib.hid (bthen HTz.out hbx); obtain ⟨⟨x0, x1⟩, ⟨y0, y1⟩⟩ := HKc.out _ HTz.out; have hc1 := HOk.out c1 hA; have hz1 := hc1.1; subst hz1; have hcl := HCl.out hc1.2 _ HTz.out; have HSn := Lib.hid hc1.2; have HCc := Lib.hid hcl; clear hbx hA hc1 hcl) | (go_at_call 50; refine (HCc.out).mono ?_; rintro e wx ⟨rfl, hbx⟩; have HTz := Lib.hid (bthen HTz.out hbx); obtain ⟨⟨x0, x1⟩, ⟨y0, y1⟩⟩ := HKc.out _ HTz.out; clear hbx))
              go_ret
              exact ⟨by rw [HBe.out HSn.out]; unfold behindD; rw [if_pos HCD.out]; rfl, bthen HB3.out HTz.out⟩
            | true =>
              have HCD := Lib.hid hcd
              have HCl := Lib.hid (fun (hS : SndAt L L.length) W (hb : Below W3.heap.size W3 W) => show Calls Tryz.prog 50 #[.agg #[.string D, .slice a n c]] W fun e w' => e = .returned (.bool true) ∧ Below W.heap.size W w' from by rw [← HCD.out]; exact HCl.out hS W hb)
              clear hcd
              have hTs : rT.size ≤ 281474976710656 := by
                have := ((okL_small (parse_ok HPd.out)).2 r (by simp)).1
                rw [← bytes_len, HRT.out]
                omega
              have hha := fun W (hb : Below W3.heap.size W3 W) => hasRef_any D rT rV hTs L HS.out (.slice a n c) W (HAz.out.below hb hb.size)
              rw [HRT.out, HRV.out] at hha
              have HHa := Lib.hid hha
              clear hha
              go_upto_region 11 with (first | (go_at_call 20; refine (HKe.out _).mono ?_; rintro e wx ⟨rfl, hbx⟩; have HTz := Lib.hid (bthen HTz.out hbx); obtain ⟨⟨x0, x1⟩, ⟨y0, y1⟩⟩ := HKc.out _ HTz.out; clear hbx) | (go_at_call 49; refine (HAt.out _ HTz.out).mono ?_; rintro e wx ⟨c1, rfl, hA, hbx⟩; have HTz := Lib.hid (bthen HTz.out hbx); obtain ⟨⟨x0, x1⟩, ⟨y0, y1⟩⟩ := HKc.out _ HTz.out; have hc1 := HOk.out c1 hA; have hz1 := hc1.1; subst hz1; have hcl := HCl.out hc1.2 _ HTz.out; have HSn := Lib.hid hc1.2; have HCc := Lib.hid hcl; clear hbx hA hc1 hcl) | (go_at_call 50; refine (HCc.out).mono ?_; rintro e wx ⟨rfl, hbx⟩; have HTz := Lib.hid (bthen HTz.out hbx); obtain ⟨⟨x0, x1⟩, ⟨y0, y1⟩⟩ := HKc.out _ HTz.out; clear hbx))
              rename World => wz
              have hst0 : wz.drew.cell? ⟨w.heap.size, 0, none⟩ = some (.string D) ∧ wz.drew.cell? ⟨w.heap.size, 1, none⟩ = some (.slice a n c) ∧ wz.drew.cell? ⟨gd, 0, none⟩ = some (.slice (some ⟨lb, lo, none⟩) ln lc) ∧ wz.drew.cell? ⟨lb, lo, none⟩ = some (.string rT) ∧ wz.drew.cell? ⟨lb, lo + 1, none⟩ = some (.string rV) := ⟨x0, x1, y0, (HKr.out _ HTz.out).1, (HKr.out _ HTz.out).2⟩
              have HKa : Hid (∀ wx, Below W3.heap.size W3 wx → (wx.cell? ⟨w.heap.size, 0, none⟩ = some (.string D) ∧ wx.cell? ⟨w.heap.size, 1, none⟩ = some (.slice a n c) ∧ wx.cell? ⟨gd, 0, none⟩ = some (.slice (some ⟨lb, lo, none⟩) ln lc) ∧ wx.cell? ⟨lb, lo, none⟩ = some (.string rT) ∧ wx.cell? ⟨lb, lo + 1, none⟩ = some (.string rV))) := Lib.hid (fun wx hb => ⟨(HKc.out _ hb).1.1, (HKc.out _ hb).1.2, (HKc.out _ hb).2.1, (HKr.out _ hb).1, (HKr.out _ hb).2⟩)
              have hnm := named_can HSn.out HPd.out
              cases hh : (findA L r.1).any fun y => sameO (normD (ruleD r.1) y) (normD (ruleD r.1) r.2) with
              | false =>
                have HE : Hid (R = 64) := Lib.hid (by rw [HBe.out HSn.out]; unfold behindD; rw [if_neg (by rw [HCD.out]; simp), if_pos (by rw [hnm, hh])])
                have HH := Lib.hid (fun W (hb : Below W3.heap.size W3 W) => show Calls Tryz.prog 51 #[.agg #[.string D, .slice a n c], .string rT, .string rV] W fun e w' => e = .returned (.bool false) ∧ Below W.heap.size W w' from by rw [← hh]; exact HHa.out W hb)
                clear hh hnm
                go_region_held3 (fun w' => w'.cell? ⟨w.heap.size, 0, none⟩ = some (.string D) ∧ w'.cell? ⟨w.heap.size, 1, none⟩ = some (.slice a n c) ∧ w'.cell? ⟨gd, 0, none⟩ = some (.slice (some ⟨lb, lo, none⟩) ln lc) ∧ w'.cell? ⟨lb, lo, none⟩ = some (.string rT) ∧ w'.cell? ⟨lb, lo + 1, none⟩ = some (.string rV)) (first | (with_reducible exact hst0) | (with_reducible exact hst1)) (first | (go_at_call 51; (refine (HH.out _ HTz.out.drew).mono ?_); rintro e wx ⟨rfl, hbx⟩; have HTx := Lib.hid (bthen HTz.out (drewB hbx)); have hst1 := HKa.out _ HTx.out; clear hbx))
                all_goals
                  go_split_ands
                  go_simp
                  go_wp2
                  go_ret
                  exact ⟨by rw [HE.out]; rfl, bthen HB3.out HTx.out⟩
              | true =>
                have HE : Hid (R = 0) := Lib.hid (by rw [HBe.out HSn.out]; unfold behindD; rw [if_neg (by rw [HCD.out]; simp), if_neg (by rw [hnm, hh]; simp)])
                have HH := Lib.hid (fun W (hb : Below W3.heap.size W3 W) => show Calls Tryz.prog 51 #[.agg #[.string D, .slice a n c], .string rT, .string rV] W fun e w' => e = .returned (.bool true) ∧ Below W.heap.size W w' from by rw [← hh]; exact HHa.out W hb)
                clear hh hnm
                go_region_held3 (fun w' => w'.cell? ⟨w.heap.size, 0, none⟩ = some (.string D) ∧ w'.cell? ⟨w.heap.size, 1, none⟩ = some (.slice a n c) ∧ w'.cell? ⟨gd, 0, none⟩ = some (.slice (some ⟨lb, lo, none⟩) ln lc) ∧ w'.cell? ⟨lb, lo, none⟩ = some (.string rT) ∧ w'.cell? ⟨lb, lo + 1, none⟩ = some (.string rV)) (first | (with_reducible exact hst0) | (with_reducible exact hst1)) (first | (go_at_call 51; (refine (HH.out _ HTz.out.drew).mono ?_); rintro e wx ⟨rfl, hbx⟩; have HTx := Lib.hid (bthen HTz.out (drewB hbx)); have hst1 := HKa.out _ HTx.out; clear hbx))
                all_goals
                  go_split_ands
                  go_simp
                  go_wp2
                  go_ret
                  exact ⟨by rw [HE.out]; rfl, bthen HB3.out HTx.out⟩
end Go.Proofs.YtpnbcmblnplbgaaGreatDoor

