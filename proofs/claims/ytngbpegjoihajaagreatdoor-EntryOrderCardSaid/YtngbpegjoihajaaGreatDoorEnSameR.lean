/- entry.Same; the document's SameEntry: the walks. -/
import Derived.Test.YtngbpegjoihajaaGreatDoorEnSameW
namespace Go.Proofs.YtngbpegjoihajaaGreatDoor
open Go.RowKit
set_option linter.unusedVariables false

theorem boxes2 (w : World) (d e : ByteArray) (x y : Value) : ((w.alloc (.cells #[.string d, x] 24)).alloc (.cells #[.string e, y] 24)).cell? ⟨w.heap.size, 0, none⟩ = some (.string d) ∧ ((w.alloc (.cells #[.string d, x] 24)).alloc (.cells #[.string e, y] 24)).cell? ⟨w.heap.size, 1, none⟩ = some x ∧
    ((w.alloc (.cells #[.string d, x] 24)).alloc (.cells #[.string e, y] 24)).cell? ⟨w.heap.size + 1, 0, none⟩ = some (.string e) ∧ ((w.alloc (.cells #[.string d, x] 24)).alloc (.cells #[.string e, y] 24)).cell? ⟨w.heap.size + 1, 1, none⟩ = some y := by
  refine ⟨?_, ?_, ?_, ?_⟩
  · rw [World.cell?_alloc_lt _ _ _ (by simp)]; simp
  · rw [World.cell?_alloc_lt _ _ _ (by simp)]; simp
  · simp
  · simp

set_option maxRecDepth 100000 in
set_option maxHeartbeats 2000000 in
theorem same_entry (d e : ByteArray) (L M : List AT) (hs : smallA L) (v u : Value) (w : World) (hL : IsA w.heap.size w L v) (hM : IsA w.heap.size w M u) :
    Calls Tryz.prog 37 #[.agg #[.string d, v], .agg #[.string e, u]] w fun r w' => r = .returned (.bool ((d.data.toList, L) == (e.data.toList, M))) ∧ Below w.heap.size w w' := by
  obtain ⟨ua, un, uc, rfl⟩ := hL.sl
  obtain ⟨va, vn, vc, rfl⟩ := hM.sl
  have hb : Below w.heap.size w ((w.alloc (.cells #[.string d, .slice ua un uc] 24)).alloc (.cells #[.string e, .slice va vn vc] 24)) := ((Below.refl _ _).alloc (Nat.le_refl _) _).alloc (by simp) _
  have HB := Lib.hid hb
  have HU := Lib.hid hL
  have HV := Lib.hid hM
  obtain ⟨R, hR⟩ : ∃ R, R = ((d.data.toList, L) == (e.data.toList, M)) := ⟨_, rfl⟩
  rw [← hR]
  have HR := Lib.hid hR
  obtain ⟨b0, b1, b2, b3⟩ := boxes2 w d e (.slice ua un uc) (.slice va vn vc)
  clear hb hL hM hR
  by_cases he : d = e
  · subst he
    obtain ⟨g, hg⟩ : ∃ g, g = (L == M) := ⟨_, rfl⟩
    have HF : Hid (R = g) := Lib.hid (HR.out.trans (by rw [hg]; show (d.data.toList == d.data.toList && L == M) = _; simp))
    have HG := Lib.hid hg
    clear hg
    go_enter Tryz.func37, Tryz.ntmps37
    go_wp2_with (go_at_call 70; refine (equalA_any L M hs (.slice ua un uc) (.slice va vn vc) _ (HU.out.below HB.out HB.out.size) (HV.out.below HB.out HB.out.size)).mono ?_; rintro e w2 ⟨he, hb2⟩; rw [← HG.out] at he; subst he; have HB2 := Lib.hid (HB.out.trans (hb2.mono HB.out.size)); clear hb2)
    go_ret
    exact ⟨by rw [HF.out]; rfl, HB2.out⟩
  · have t1 := str_ne he
    have HF : Hid (R = false) := Lib.hid (HR.out.trans (by
      show (d.data.toList == e.data.toList && L == M) = false
      have : (d.data.toList == e.data.toList) = false := by
        have : d.data.toList ≠ e.data.toList := fun x => he (bytes_ext x)
        simpa using this
      rw [this]; rfl))
    clear he
    go_enter Tryz.func37, Tryz.ntmps37
    go_wp2
    go_ret
    exact ⟨by rw [HF.out]; rfl, HB.out⟩

set_option maxRecDepth 100000 in
set_option maxHeartbeats 8000000 in
theorem sameRef_entry (d e : ByteArray) (L M : List AT) (hs : smallA L) (v u : Value) (w : World) (hL : IsA w.heap.size w L v) (hM : IsA w.heap.size w M u) :
    Calls Tryz.prog 29 #[.agg #[.string d, v], .agg #[.string e, u]] w fun r w' => r = .returned (.bool ((d.data.toList, L) == (e.data.toList, M))) ∧ Below w.heap.size w w' := by
  obtain ⟨ua, uc, hu, hum, _⟩ := id hL
  obtain ⟨va, vc, hv, hvm, _⟩ := id hM
  obtain ⟨un, hun⟩ : ∃ n, n = L.length := ⟨_, rfl⟩
  obtain ⟨vn, hvn⟩ : ∃ n, n = M.length := ⟨_, rfl⟩
  rw [← hun] at hu hum
  rw [← hvn] at hv hvm
  unfold maxLen at hum hvm
  subst hu hv
  have hb : Below w.heap.size w ((w.alloc (.cells #[.string d, .slice ua un uc] 24)).alloc (.cells #[.string e, .slice va vn vc] 24)) := ((Below.refl _ _).alloc (Nat.le_refl _) _).alloc (by simp) _
  have HB := Lib.hid hb
  have hLW := hL.below hb hb.size
  have hMW := hM.below hb hb.size
  obtain ⟨R, hR⟩ : ∃ R, R = ((d.data.toList, L) == (e.data.toList, M)) := ⟨_, rfl⟩
  rw [← hR]
  have HR := Lib.hid hR
  obtain ⟨b0, b1, b2, b3⟩ := boxes2 w d e (.slice ua un uc) (.slice va vn vc)
  have HS := Lib.hid hs
  have hn5 : un ≤ 1000000 := by have := hs.1; omega
  have HUn := Lib.hid hun
  have HVn := Lib.hid hvn
  have HL := Lib.hid hLW
  have HM := Lib.hid hMW
  clear hb hL hM hR hs hun hvn hLW hMW
  by_cases he : d ≠ e
  · have t1 := str_ne he
    have HF : Hid (R = false) := Lib.hid (HR.out.trans (by
      show (d.data.toList == e.data.toList && L == M) = false
      have : (d.data.toList == e.data.toList) = false := by
        have : d.data.toList ≠ e.data.toList := fun x => he (bytes_ext x)
        simpa using this
      rw [this]; rfl))
    clear he
    go_enter Tryz.func29, Tryz.ntmps29
    go_wp2
    go_ret
    exact ⟨by rw [HF.out]; rfl, HB.out⟩
  have he := Classical.not_not.1 he
  subst he
  by_cases hlen : un ≠ vn
  · have t0 : ((un : Int) != (vn : Int)) = true := by simp; omega
    have HF : Hid (R = false) := Lib.hid (HR.out.trans (by
      have : L ≠ M := fun x => hlen (by rw [HUn.out, HVn.out, x])
      have h2 : (L == M) = false := by simpa using this
      show (d.data.toList == d.data.toList && L == M) = false
      rw [h2]; simp))
    clear hlen
    go_enter Tryz.func29, Tryz.ntmps29
    go_wp2
    go_ret
    exact ⟨by rw [HF.out]; rfl, HB.out⟩
  have hlen := Classical.not_not.1 hlen
  subst hlen
  have HR2 : Hid (R = (L == M)) := Lib.hid (HR.out.trans (by show (d.data.toList == d.data.toList && L == M) = _; simp))
  clear HR
  go_enter Tryz.func29, Tryz.ntmps29
  go_wp2
  generalize ((w.alloc (.cells #[.string d, .slice ua un uc] 24)).alloc (.cells #[.string d, .slice va un vc] 24)) = W at b0 b1 b2 b3 HB HL HM ⊢
  go_loopw [5] (fun i wr => ∃ j : Nat, j ≤ un ∧ i = .int .i64 j ∧ Hid (∀ k (h1 : k < L.length) (h2 : k < M.length), k < j → L[k] = M[k]) ∧ ∃ q, wr = W.drewN q) (fun i wr => un - (intOf i).toNat)
  case atStart => exact ⟨0, by omega, rfl, Lib.hid (fun k _ _ h => absurd h (by omega)), 0, rfl⟩
  case round =>
    obtain ⟨j, hj, rfl, HAll, hq⟩ := hrel
    have HQ := Lib.hid hq
    have hcl : ∀ b o, wr.cell? ⟨b, o, none⟩ = W.cell? ⟨b, o, none⟩ := fun b o => by obtain ⟨q, rfl⟩ := hq; rfl
    have c0 := (hcl _ _).trans b0
    have c1 := (hcl _ _).trans b1
    have c2 := (hcl _ _).trans b2
    have c3 := (hcl _ _).trans b3
    have HLr : Hid (IsA wr.heap.size wr L (.slice ua un uc)) := Lib.hid (by obtain ⟨q, rfl⟩ := hq; exact HL.out)
    have HMr : Hid (IsA wr.heap.size wr M (.slice va un vc)) := Lib.hid (by obtain ⟨q, rfl⟩ := hq; exact HM.out)
    have HBr : Hid (Below w.heap.size w wr) := Lib.hid (by obtain ⟨q, rfl⟩ := hq; exact below_drewN HB.out _)
    clear hcl hq b0 b1 b2 b3
    by_cases hlt : j < un
    · have t1 : decide ((j : Int) < (un : Int)) = true := by simp; omega
      have t1' : decide (j < un) = true := by simpa using hlt
      have q1 : (j : Int) < (un : Int) := by omega
      have hl1 : j < L.length := by rw [← HUn.out]; exact hlt
      have hl2 : j < M.length := by rw [← HVn.out]; exact hlt
      obtain ⟨xa0, xc0, hxe, _, hxc⟩ := HLr.out
      obtain ⟨ya0, yc0, hye, _, hyc⟩ := HMr.out
      obtain ⟨g1, f1, x, hxa, hb1, x0, x1, hx⟩ := hxc j hl1
      obtain ⟨g2, f2, y, hya, hb2, y0, y1, hy⟩ := hyc j hl2
      simp only [Value.slice.injEq] at hxe hye
      obtain ⟨hxe1, hxe2, hxe3⟩ := hxe
      obtain ⟨hye1, hye2, hye3⟩ := hye
      clear hxe2 hye2 hxe3 hye3 hxc hyc
      subst hxe1 hye1
      subst hxa hya
      obtain ⟨xa, xn, xc, rfl⟩ := hx.sl
      obtain ⟨ya, yn, yc, rfl⟩ := hy.sl
      obtain ⟨X, hX⟩ : ∃ X : ByteArray, ofL L[j].1 = X := ⟨_, rfl⟩
      obtain ⟨Y, hY⟩ : ∃ Y : ByteArray, ofL M[j].1 = Y := ⟨_, rfl⟩
      have gX : X.data.toList = L[j].1 := by rw [← hX, ofL_list]
      have gY : Y.data.toList = M[j].1 := by rw [← hY, ofL_list]
      have d0 : wr.cell? ⟨g1, f1 + j * 2, none⟩ = some (.string X) := by rw [x0, ← hX]; rfl
      have e0 : wr.cell? ⟨g2, f2 + j * 2, none⟩ = some (.string Y) := by rw [y0, ← hY]; rfl
      by_cases he : X = Y
      · have hT := fun n => textsRef_q L[j].2 M[j].2 (by have := (HS.out.2 L[j] (List.getElem_mem _)).2.1; omega) (.slice xa xn xc) (.slice ya yn yc) (wr.drewN n) hx hy
        obtain ⟨g, hg⟩ : ∃ g, g = (L[j].2 == M[j].2) := ⟨_, rfl⟩
        rw [← hg] at hT
        have HT := Lib.hid hT
        have hgl : g = (L[j] == M[j]) := by
          rw [hg]
          show _ = (L[j].1 == M[j].1 && L[j].2 == M[j].2)
          rw [← gX, ← gY, he]; simp
        cases g with
        | true =>
          have heq : L[j] = M[j] := by simpa using hgl.symm
          have HN1 : Hid (∀ k (h1 : k < L.length) (h2 : k < M.length), k < j + 1 → L[k] = M[k]) := Lib.hid (fun k h1 h2 h3 => by
            by_cases hk : k < j
            · exact HAll.out k h1 h2 hk
            · obtain rfl : k = j := by omega
              exact heq)
          clear heq hgl hg hT x0 y0 hX hY gX gY hx hy hl1 hl2
          subst he
          go_wp2
          go_quiet ((go_at_call 20; refine Calls.quiet_of (HT.out _)))
          go_wp2
          go_roundw
          case rel => exact ⟨j + 1, by omega, by go_num, HN1, by obtain ⟨q, hq⟩ := HQ.out; exact ⟨_, by rw [hq]; exact World.drewN_drewN ..⟩⟩
          case measure => simp [intOf]; omega
        | false =>
          have hne : L[j] ≠ M[j] := by simpa using hgl.symm
          have HF : Hid (R = false) := Lib.hid (HR2.out.trans (by
            have : L ≠ M := fun e => by subst e; exact hne rfl
            simpa using this))
          clear hne hgl hg hT x0 y0 hX hY gX gY hx hy hl1 hl2
          subst he
          go_wp2
          go_quiet ((go_at_call 20; refine Calls.quiet_of (HT.out _)))
          go_wp2
          go_ret
          exact ⟨by rw [HF.out]; rfl, below_drewN HBr.out _⟩
      · have t2 := str_ne he
        have HF : Hid (R = false) := Lib.hid (HR2.out.trans (by
          have : L ≠ M := fun x => by subst x; exact he (bytes_ext (by rw [gX, gY]))
          simpa using this))
        clear x0 y0 hX hY gX gY hx hy hl1 hl2 he
        go_wp2
        go_quiet (fail)
        go_wp2
        go_ret
        exact ⟨by rw [HF.out]; rfl, below_drewN HBr.out _⟩
    · obtain rfl : j = un := by omega
      have t1 : decide ((j : Int) < (j : Int)) = false := by simp
      have t1' : decide (j < j) = false := by simp
      have HF : Hid (R = true) := Lib.hid (HR2.out.trans (by
        have : L = M := List.ext_getElem (by rw [← HUn.out, ← HVn.out]) (fun k h1 h2 => HAll.out k h1 h2 (by rw [HUn.out]; exact h1))
        simp [this]))
      go_wp2
      go_ret
      exact ⟨by rw [HF.out]; rfl, HBr.out⟩
end Go.Proofs.YtngbpegjoihajaaGreatDoor
