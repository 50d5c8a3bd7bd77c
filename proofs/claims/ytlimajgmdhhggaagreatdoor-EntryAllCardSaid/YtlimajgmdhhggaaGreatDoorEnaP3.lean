/- Several texts in one file: EnSameR, EnAwake, Arg, EnMdP, EnNEntR, EnNEntS, EnRSetP, MaRef, EnRSetW. -/
import Derived.Test.YtlimajgmdhhggaaGreatDoorEnaP2
import Derived.Test.YtlimajgmdhhggaaGreatDoorEnaP1
import Derived.Test.YtlimajgmdhhggaaGreatDoorEnFind
import Derived.Test.YtlimajgmdhhggaaGreatDoorDnTextW
import Derived.OpenShut
import Derived.Carry
import Derived.ChangeSlices
import Derived.Deep.Strs
import Derived.Deep.SlicePairs
import Derived.Deep.AppendSrc
import Derived.ArgAppend
import Derived.Test.YtlimajgmdhhggaaGreatDoorScOwn
import Derived.Test.YtlimajgmdhhggaaGreatDoorMaFind
import Derived.Deep.Cut
import Derived.Deep.CutRange
namespace Go.Proofs.YtlimajgmdhhggaaGreatDoor
open Go.RowKit
set_option linter.unusedVariables false

theorem boxes2 (w : World) (d e : ByteArray) (x y : Value) : ((w.alloc (.cells #[.string d, x] 24)).alloc (.cells #[.string e, y] 24)).cell? ⟨w.heap.size, 0, none⟩ = some (.string d) ∧ ((w.alloc (.cells #[.string d, x] 24)).alloc (.cells #[.string e, y] 24)).cell? ⟨w.heap.size, 1, none⟩ = some x ∧
    ((w.alloc (.cells #[.string d, x] 24)).alloc (.cells #[.string e, y] 24)).cell? ⟨w.heap.size + 1, 0, none⟩ = some (.string e) ∧ ((w.alloc (.cells #[.string d, x] 24)).alloc (.cells #[.string e, y] 24)).cell? ⟨w.heap.size + 1, 1, none⟩ = some y := by
  refine ⟨?_, ?_, ?_, ?_⟩
  · rw [World.cell?_alloc_lt _ _ _ (by simp)]; simp
  · rw [World.cell?_alloc_lt _ _ _ (by simp)]; simp
  · simp
  · simp

set_option maxRecDepth 100000 in
set_option maxHeartbeats 2000000 in
theorem same_entry (d e : ByteArray) (L M : List AT) (hs : smallA L) (v u : Value) (w : World) (hL : IsA w.heap.size w L v) (hM : IsA w.heap.size w M u) :
    Calls Tryz.prog 21 #[.agg #[.string d, v], .agg #[.string e, u]] w fun r w' => r = .returned (.bool ((d.data.toList, L) == (e.data.toList, M))) ∧ Below w.heap.size w w' := by
  obtain ⟨ua, un, uc, rfl⟩ := hL.sl
  obtain ⟨va, vn, vc, rfl⟩ := hM.sl
  have hb : Below w.heap.size w ((w.alloc (.cells #[.string d, .slice ua un uc] 24)).alloc (.cells #[.string e, .slice va vn vc] 24)) := ((Below.refl _ _).alloc (Nat.le_refl _) _).alloc (by simp) _
  have HB := Lib.hid hb
  have HU := Lib.hid hL
  have HV := Lib.hid hM
  obtain ⟨R, hR⟩ : ∃ R, R = ((d.data.toList, L) == (e.data.toList, M)) := ⟨_, rfl⟩
  rw [← hR]
  have HR := Lib.hid hR
  obtain ⟨b0, b1, b2, b3⟩ := boxes2 w d e (.slice ua un uc) (.slice va vn vc)
  clear hb hL hM hR
  by_cases he : d = e
  · subst he
    obtain ⟨g, hg⟩ : ∃ g, g = (L == M) := ⟨_, rfl⟩
    have HF : Hid (R = g) := Lib.hid (HR.out.trans (by rw [hg]; show (d.data.toList == d.data.toList && L == M) = _; simp))
    have HG := Lib.hid hg
    clear hg
    go_enter Tryz.func21, Tryz.ntmps21
    go_wp2_with (go_at_call 62; refine (equalA_any L M hs (.slice ua un uc) (.slice va vn vc) _ (HU.out.below HB.out HB.out.size) (HV.out.below HB.out HB.out.size)).mono ?_; rintro e w2 ⟨he, hb2⟩; rw [← HG.out] at he; subst he; have HB2 := Lib.hid (HB.out.trans (hb2.mono HB.out.size)); clear hb2)
    go_ret
    exact ⟨by rw [HF.out]; rfl, HB2.out⟩
  · have t1 := str_ne he
    have HF : Hid (R = false) := Lib.hid (HR.out.trans (by
      show (d.data.toList == e.data.toList && L == M) = false
      have : (d.data.toList == e.data.toList) = false := by
        have : d.data.toList ≠ e.data.toList := fun x => he (bytes_ext x)
        simpa using this
      rw [this]; rfl))
    clear he
    go_enter Tryz.func21, Tryz.ntmps21
    go_wp2
    go_ret
    exact ⟨by rw [HF.out]; rfl, HB.out⟩

set_option maxRecDepth 100000 in
set_option maxHeartbeats 8000000 in
theorem sameRef_entry (d e : ByteArray) (L M : List AT) (hs : smallA L) (v u : Value) (w : World) (hL : IsA w.heap.size w L v) (hM : IsA w.heap.size w M u) :
    Calls Tryz.prog 12 #[.agg #[.string d, v], .agg #[.string e, u]] w fun r w' => r = .returned (.bool ((d.data.toList, L) == (e.data.toList, M))) ∧ Below w.heap.size w w' := by
  obtain ⟨ua, uc, hu, hum, _⟩ := id hL
  obtain ⟨va, vc, hv, hvm, _⟩ := id hM
  obtain ⟨un, hun⟩ : ∃ n, n = L.length := ⟨_, rfl⟩
  obtain ⟨vn, hvn⟩ : ∃ n, n = M.length := ⟨_, rfl⟩
  rw [← hun] at hu hum
  rw [← hvn] at hv hvm
  unfold maxLen at hum hvm
  subst hu hv
  have hb : Below w.heap.size w ((w.alloc (.cells #[.string d, .slice ua un uc] 24)).alloc (.cells #[.string e, .slice va vn vc] 24)) := ((Below.refl _ _).alloc (Nat.le_refl _) _).alloc (by simp) _
  have HB := Lib.hid hb
  have hLW := hL.below hb hb.size
  have hMW := hM.below hb hb.size
  obtain ⟨R, hR⟩ : ∃ R, R = ((d.data.toList, L) == (e.data.toList, M)) := ⟨_, rfl⟩
  rw [← hR]
  have HR := Lib.hid hR
  obtain ⟨b0, b1, b2, b3⟩ := boxes2 w d e (.slice ua un uc) (.slice va vn vc)
  have HS := Lib.hid hs
  have hn5 : un ≤ 1000000 := by have := hs.1; omega
  have HUn := Lib.hid hun
  have HVn := Lib.hid hvn
  have HL := Lib.hid hLW
  have HM := Lib.hid hMW
  clear hb hL hM hR hs hun hvn hLW hMW
  by_cases he : d ≠ e
  · have t1 := str_ne he
    have HF : Hid (R = false) := Lib.hid (HR.out.trans (by
      show (d.data.toList == e.data.toList && L == M) = false
      have : (d.data.toList == e.data.toList) = false := by
        have : d.data.toList ≠ e.data.toList := fun x => he (bytes_ext x)
        simpa using this
      rw [this]; rfl))
    clear he
    go_enter Tryz.func12, Tryz.ntmps12
    go_wp2
    go_ret
    exact ⟨by rw [HF.out]; rfl, HB.out⟩
  have he := Classical.not_not.1 he
  subst he
  by_cases hlen : un ≠ vn
  · have t0 : ((un : Int) != (vn : Int)) = true := by simp; omega
    have HF : Hid (R = false) := Lib.hid (HR.out.trans (by
      have : L ≠ M := fun x => hlen (by rw [HUn.out, HVn.out, x])
      have h2 : (L == M) = false := by simpa using this
      show (d.data.toList == d.data.toList && L == M) = false
      rw [h2]; simp))
    clear hlen
    go_enter Tryz.func12, Tryz.ntmps12
    go_wp2
    go_ret
    exact ⟨by rw [HF.out]; rfl, HB.out⟩
  have hlen := Classical.not_not.1 hlen
  subst hlen
  have HR2 : Hid (R = (L == M)) := Lib.hid (HR.out.trans (by show (d.data.toList == d.data.toList && L == M) = _; simp))
  clear HR
  go_enter Tryz.func12, Tryz.ntmps12
  go_wp2
  generalize ((w.alloc (.cells #[.string d, .slice ua un uc] 24)).alloc (.cells #[.string d, .slice va un vc] 24)) = W at b0 b1 b2 b3 HB HL HM ⊢
  go_loopw [5] (fun i wr => ∃ j : Nat, j ≤ un ∧ i = .int .i64 j ∧ Hid (∀ k (h1 : k < L.length) (h2 : k < M.length), k < j → L[k] = M[k]) ∧ ∃ q, wr = W.drewN q) (fun i wr => un - (intOf i).toNat)
  case atStart => exact ⟨0, by omega, rfl, Lib.hid (fun k _ _ h => absurd h (by omega)), 0, rfl⟩
  case round =>
    obtain ⟨j, hj, rfl, HAll, hq⟩ := hrel
    have HQ := Lib.hid hq
    have hcl : ∀ b o, wr.cell? ⟨b, o, none⟩ = W.cell? ⟨b, o, none⟩ := fun b o => by obtain ⟨q, rfl⟩ := hq; rfl
    have c0 := (hcl _ _).trans b0
    have c1 := (hcl _ _).trans b1
    have c2 := (hcl _ _).trans b2
    have c3 := (hcl _ _).trans b3
    have HLr : Hid (IsA wr.heap.size wr L (.slice ua un uc)) := Lib.hid (by obtain ⟨q, rfl⟩ := hq; exact HL.out)
    have HMr : Hid (IsA wr.heap.size wr M (.slice va un vc)) := Lib.hid (by obtain ⟨q, rfl⟩ := hq; exact HM.out)
    have HBr : Hid (Below w.heap.size w wr) := Lib.hid (by obtain ⟨q, rfl⟩ := hq; exact below_drewN HB.out _)
    clear hcl hq b0 b1 b2 b3
    by_cases hlt : j < un
    · have t1 : decide ((j : Int) < (un : Int)) = true := by simp; omega
      have t1' : decide (j < un) = true := by simpa using hlt
      have q1 : (j : Int) < (un : Int) := by omega
      have hl1 : j < L.length := by rw [← HUn.out]; exact hlt
      have hl2 : j < M.length := by rw [← HVn.out]; exact hlt
      obtain ⟨xa0, xc0, hxe, _, hxc⟩ := HLr.out
      obtain ⟨ya0, yc0, hye, _, hyc⟩ := HMr.out
      obtain ⟨g1, f1, x, hxa, hb1, x0, x1, hx⟩ := hxc j hl1
      obtain ⟨g2, f2, y, hya, hb2, y0, y1, hy⟩ := hyc j hl2
      simp only [Value.slice.injEq] at hxe hye
      obtain ⟨hxe1, hxe2, hxe3⟩ := hxe
      obtain ⟨hye1, hye2, hye3⟩ := hye
      clear hxe2 hye2 hxe3 hye3 hxc hyc
      subst hxe1 hye1
      subst hxa hya
      obtain ⟨xa, xn, xc, rfl⟩ := hx.sl
      obtain ⟨ya, yn, yc, rfl⟩ := hy.sl
      obtain ⟨X, hX⟩ : ∃ X : ByteArray, ofL L[j].1 = X := ⟨_, rfl⟩
      obtain ⟨Y, hY⟩ : ∃ Y : ByteArray, ofL M[j].1 = Y := ⟨_, rfl⟩
      have gX : X.data.toList = L[j].1 := by rw [← hX, ofL_list]
      have gY : Y.data.toList = M[j].1 := by rw [← hY, ofL_list]
      have d0 : wr.cell? ⟨g1, f1 + j * 2, none⟩ = some (.string X) := by rw [x0, ← hX]; rfl
      have e0 : wr.cell? ⟨g2, f2 + j * 2, none⟩ = some (.string Y) := by rw [y0, ← hY]; rfl
      by_cases he : X = Y
      · have hT := fun n => textsRef_q L[j].2 M[j].2 (by have := (HS.out.2 L[j] (List.getElem_mem _)).2.1; omega) (.slice xa xn xc) (.slice ya yn yc) (wr.drewN n) hx hy
        obtain ⟨g, hg⟩ : ∃ g, g = (L[j].2 == M[j].2) := ⟨_, rfl⟩
        rw [← hg] at hT
        have HT := Lib.hid hT
        have hgl : g = (L[j] == M[j]) := by
          rw [hg]
          show _ = (L[j].1 == M[j].1 && L[j].2 == M[j].2)
          rw [← gX, ← gY, he]; simp
        cases g with
        | true =>
          have heq : L[j] = M[j] := by simpa using hgl.symm
          have HN1 : Hid (∀ k (h1 : k < L.length) (h2 : k < M.length), k < j + 1 → L[k] = M[k]) := Lib.hid (fun k h1 h2 h3 => by
            by_cases hk : k < j
            · exact HAll.out k h1 h2 hk
            · obtain rfl : k = j := by omega
              exact heq)
          clear heq hgl hg hT x0 y0 hX hY gX gY hx hy hl1 hl2
          subst he
          go_wp2
          go_quiet ((go_at_call 15; refine Calls.quiet_of (HT.out _)))
          go_wp2
          go_roundw
          case rel => exact ⟨j + 1, by omega, by go_num, HN1, by obtain ⟨q, hq⟩ := HQ.out; exact ⟨_, by rw [hq]; exact World.drewN_drewN ..⟩⟩
          case measure => simp [intOf]; omega
        | false =>
          have hne : L[j] ≠ M[j] := by simpa using hgl.symm
          have HF : Hid (R = false) := Lib.hid (HR2.out.trans (by
            have : L ≠ M := fun e => by subst e; exact hne rfl
            simpa using this))
          clear hne hgl hg hT x0 y0 hX hY gX gY hx hy hl1 hl2
          subst he
          go_wp2
          go_quiet ((go_at_call 15; refine Calls.quiet_of (HT.out _)))
          go_wp2
          go_ret
          exact ⟨by rw [HF.out]; rfl, below_drewN HBr.out _⟩
      · have t2 := str_ne he
        have HF : Hid (R = false) := Lib.hid (HR2.out.trans (by
          have : L ≠ M := fun x => by subst x; exact he (bytes_ext (by rw [gX, gY]))
          simpa using this))
        clear x0 y0 hX hY gX gY hx hy hl1 hl2 he
        go_wp2
        go_quiet (fail)
        go_wp2
        go_ret
        exact ⟨by rw [HF.out]; rfl, below_drewN HBr.out _⟩
    · obtain rfl : j = un := by omega
      have t1 : decide ((j : Int) < (j : Int)) = false := by simp
      have t1' : decide (j < j) = false := by simp
      have HF : Hid (R = true) := Lib.hid (HR2.out.trans (by
        have : L = M := List.ext_getElem (by rw [← HUn.out, ← HVn.out]) (fun k h1 h2 => HAll.out k h1 h2 (by rw [HUn.out]; exact h1))
        simp [this]))
      go_wp2
      go_ret
      exact ⟨by rw [HF.out]; rfl, HBr.out⟩
end Go.Proofs.YtlimajgmdhhggaaGreatDoor


namespace Go.Proofs.YtlimajgmdhhggaaGreatDoor
open Go.RowKit
set_option linter.unusedVariables false

theorem isT_one (w : World) (X : ByteArray) (n0 : Nat) (h : w.heap.size < n0) : IsT n0 (w.alloc (.cells #[.string X] 9)) [X.data.toList] (.slice (some ⟨w.heap.size, 0, none⟩) 1 1) :=
  ⟨_, _, rfl, by unfold maxLen; simp, fun j hj => by
    have : j = 0 := by simp at hj; omega
    subst this
    refine ⟨w.heap.size, 0, rfl, h, ?_⟩
    rw [show [X.data.toList][0] = X.data.toList from rfl, strV_whole]
    simp⟩
theorem smallA_nil : smallA [] := ⟨by simp, by simp⟩
theorem setO : setA [] [79] [[120]] = [([111], [[120]])] := by decide
theorem hasO : hasA [([111], [[120]])] [111] [88] = true := by decide +kernel

set_option maxRecDepth 100000 in
set_option maxHeartbeats 4000000 in
theorem awake5_any (w : World) (hw : LaidW w) : Calls Tryz.prog 10 #[] w fun e w' => e = .returned (.bool true) ∧ Below w.heap.size w w' := by
  have HW := Lib.hid hw
  have hset := set_any ⟨#[111, 61, 120]⟩ ⟨#[79]⟩ [] [[120]] (by decide) (by decide) smallA_nil ⟨by decide, by decide⟩ (.slice none 0 0) (.slice (some ⟨w.heap.size, 0, none⟩) 1 1) (w.alloc (.cells #[.string ⟨#[120]⟩] 9)) (isA_nil _ _ _ _) (isT_one w ⟨#[120]⟩ _ (by simp))
  rw [show (⟨#[79]⟩ : ByteArray).data.toList = [79] from rfl, setO] at hset
  have HSet := Lib.hid hset
  have HB0 := Lib.hid (Below.alloc (Below.refl w.heap.size w) (Nat.le_refl _) (.cells #[.string ⟨#[120]⟩] 9))
  have hsm : smallA [([111], [[120]])] := ⟨by decide, fun a ha => by simp only [List.mem_singleton] at ha; subst ha; exact ⟨by decide, by decide, by decide⟩⟩
  have HSm := Lib.hid hsm
  clear hw hset hsm
  go_enter Tryz.func10, Tryz.ntmps10
  go_wp2_with (first
    | (go_at_call 20; refine (HSet.out).mono ?_; rintro e w2 ⟨v2, rfl, hown2, hb2⟩; have HB2 := Lib.hid (HB0.out.trans (hb2.mono HB0.out.size)); (obtain ⟨sa, sc, hv2, hml, hc2⟩ := ownA_isA hown2 (by unfold maxLen; decide)); (obtain ⟨b, off, u, hsa, hbl, hc0, hc1, hu⟩ := hc2 0 (by decide)); have HIA := Lib.hid (ownA_isA hown2 (by unfold maxLen; decide)); subst hsa; (simp only [List.length_singleton] at hv2); subst hv2; (have hc00 : w2.cell? ⟨b, off, none⟩ = some (.string ⟨#[111]⟩) := by { simpa [strV] using hc0 }); clear hc0 hc1; clear hown2 hb2 hml hc2)
    | (go_at_call 16; refine (vals_any ⟨#[]⟩ [] smallA_nil (.slice none 0 0) ⟨#[99, 110]⟩ _ (isA_nil _ _ _ _)).mono ?_; rintro e w3 ⟨u3, rfl, hown3, hb3⟩; rw [show findA [] (⟨#[99, 110]⟩ : ByteArray).data.toList = [] from rfl] at hown3; (obtain ⟨xa, xc, rfl⟩ := ownS_slice hown3); (have hz : w2.heap.size < w3.heap.size := by { have := hb3.size; simp only [World.size_alloc] at this; omega }); (have p0 : w3.cell? ⟨w2.heap.size, 0, none⟩ = some (.string ⟨#[111, 61, 120]⟩) := (hb3.cell (p := ⟨w2.heap.size, 0, none⟩) (by simp)).trans (by simp)); (have p1 : w3.cell? ⟨w2.heap.size, 1, none⟩ = some (.slice (some ⟨b, off, none⟩) 1 sc) := (hb3.cell (p := ⟨w2.heap.size, 1, none⟩) (by simp)).trans (by simp)); have HBA := Lib.hid (((Below.refl w2.heap.size w2).alloc (Nat.le_refl _) (.cells #[.string ⟨#[111, 61, 120]⟩, .slice (some ⟨b, off, none⟩) 1 sc] 24)).trans (hb3.mono (by simp))); clear hown3 hb3)
    | (go_at_call 18; refine (has_any ⟨#[111, 61, 120]⟩ ⟨#[111]⟩ ⟨#[88]⟩ [([111], [[120]])] HSm.out (.slice (some ⟨b, off, none⟩) 1 sc) _ (HW.out.below (bthen HB2.out HBA.out)) (HIA.out.below HBA.out HBA.out.size)).mono ?_; rintro e w4 ⟨he, hb4⟩; rw [show (⟨#[111]⟩ : ByteArray).data.toList = [111] from rfl, show (⟨#[88]⟩ : ByteArray).data.toList = [88] from rfl, hasO] at he; subst he; (have p1 := (hb4.cell (p := ⟨w2.heap.size, 1, none⟩) hz).trans p1); (have q0 : w4.cell? ⟨b, off, none⟩ = some (.string ⟨#[111]⟩) := (hb4.cell (p := ⟨b, off, none⟩) (show b < w3.heap.size by omega)).trans ((HBA.out.cell (p := ⟨b, off, none⟩) hbl).trans hc00)); have HB4 := Lib.hid (bthen (bthen HB2.out HBA.out) hb4); clear hb4))
  go_ret
  exact ⟨rfl, HB4.out⟩
end Go.Proofs.YtlimajgmdhhggaaGreatDoor


namespace Go.Proofs.YtlimajgmdhhggaaGreatDoor
open Go.RowKit
set_option linter.unusedVariables false

def IsB (n0 : Nat) (w : World) (l : List UInt8) (a : Option Addr) (cap : Nat) : Prop :=
  l.length ≤ maxLen ∧ (l = [] ∨ ∃ b off, a = some ⟨b, off, none⟩ ∧ b < n0 ∧ ∀ j, (h : j < l.length) → w.cell? ⟨b, off + j, none⟩ = some (.int .u8 l[j].toNat))
def IsS (n0 : Nat) (w : World) (L : List ByteArray) (a : Option Addr) (cap : Nat) : Prop :=
  L.length ≤ maxLen ∧ (∀ s ∈ L, s.size ≤ maxLen) ∧ (L = [] ∨ ∃ b off, a = some ⟨b, off, none⟩ ∧ b < n0 ∧ ∀ j, (h : j < L.length) → w.cell? ⟨b, off + j, none⟩ = some (.string L[j]))
theorem IsB.below {n0 : Nat} {w w' : World} {l : List UInt8} {a : Option Addr} {cap : Nat} (h : IsB n0 w l a cap) (hb : Below n0 w w') : IsB n0 w' l a cap :=
  ⟨h.1, h.2.imp id fun ⟨b, off, e, hlt, hc⟩ => ⟨b, off, e, hlt, fun j hj => (hb.cell (p := ⟨b, _, none⟩) hlt).trans (hc j hj)⟩⟩
theorem IsS.below {n0 : Nat} {w w' : World} {l : List ByteArray} {a : Option Addr} {cap : Nat} (h : IsS n0 w l a cap) (hb : Below n0 w w') : IsS n0 w' l a cap :=
  ⟨h.1, h.2.1, h.2.2.imp id fun ⟨b, off, e, hlt, hc⟩ => ⟨b, off, e, hlt, fun j hj => (hb.cell (p := ⟨b, _, none⟩) hlt).trans (hc j hj)⟩⟩

set_option maxRecDepth 100000 in
theorem open_texts {H : Type} {enc : TypeId × Value → H} {W : World} {v : Value} {d : DataW H} {ps : List MemPlace} (hval : Value.okWide Tryz.prog W .any 0 25 v) (hd : DataW.Trod enc Tryz.prog W 0 (fun _ => true) true 25 v d ps) :
    ∃ (a : Option Addr) (cap : Nat) (L : List ByteArray), v = .slice a L.length cap ∧ IsS W.heap.size W L a cap := by
  obtain ⟨a0, len, cap, rfl⟩ := Go.WideShapes.okWide_slice Tryz.underlying25 hval
  obtain ⟨fuel, hf⟩ := hd
  have hc : Tryz.prog.cellsOf 9 = 1 := by kernel_rfl
  rcases Go.Deep.open_strs Tryz.underlying25 Tryz.underlying9 hc hf with ⟨hcs, _⟩ | ⟨a, len', cap', m, Sx, hcs, _, hle, hmax, hm, _, hcell⟩
  · simp [Value.cells] at hcs
    obtain ⟨rfl, rfl, rfl⟩ := hcs
    exact ⟨none, 0, [], rfl, Nat.zero_le _, by simp, .inl rfl⟩
  · simp [Value.cells] at hcs
    obtain ⟨rfl, rfl, rfl⟩ := hcs
    simp only [if_true] at hm
    have hlen : ((List.range len).map Sx).length = len := by simp
    refine ⟨some a, cap, (List.range len).map Sx, by rw [hlen], by omega, ?_, ?_⟩
    · intro s hs
      obtain ⟨i, hi, rfl⟩ := List.mem_map.1 hs
      exact (hcell i (by have := List.mem_range.1 hi; omega)).2
    by_cases h0 : len = 0
    · left; subst h0; simp
    · right
      obtain ⟨b, off, spot⟩ := a
      have h1 := (hcell 0 (by omega)).1
      have hspot : spot = none := by simpa [Addr.add] using World.cell?_spot h1
      subst hspot
      refine ⟨b, off, rfl, World.block_lt_of_cell? W _ h1, fun j hj => ?_⟩
      have h2 := (hcell j (by omega)).1
      rw [Go.WideShapes.add_plain] at h2
      rw [h2]
      simp
end Go.Proofs.YtlimajgmdhhggaaGreatDoor


namespace Go.Proofs.YtlimajgmdhhggaaGreatDoor
open Go.RowKit
set_option linter.unusedVariables false
set_option linter.unusedSimpArgs false

theorem isS_isT {n0 : Nat} {w : World} {L : List ByteArray} {a : Option Addr} {c : Nat} (h : IsS n0 w L a c) : IsT n0 w (L.map (fun s => s.data.toList)) (.slice a L.length c) := by
  obtain ⟨h1, h2, h3⟩ := h
  refine ⟨a, c, by rw [List.length_map], by rw [List.length_map]; exact h1, fun j hj => ?_⟩
  rw [List.length_map] at hj
  rcases h3 with rfl | ⟨b, off, rfl, hb, hc⟩
  · exact absurd hj (by simp)
  · refine ⟨b, off, rfl, hb, ?_⟩
    rw [hc j hj, List.getElem_map, strV_whole]
theorem without_mem {L : List AT} {t : List UInt8} {a : AT} (h : a ∈ withoutA L t) : a ∈ L := (List.mem_filter.1 h).1
theorem withoutA_le (L : List AT) (t : List UInt8) : (withoutA L t).length ≤ L.length := List.length_filter_le _ _
theorem insA_mem {M : List AT} {x a : AT} (h : a ∈ insA M x) : a = x ∨ a ∈ M := by
  unfold insA at h
  split at h
  · rcases List.mem_append.1 h with h | h
    · exact .inr (List.mem_of_mem_take h)
    · rcases List.mem_cons.1 h with h | h
      · exact .inl h
      · exact .inr (List.mem_of_mem_drop h)
  · rcases List.mem_append.1 h with h | h
    · exact .inr h
    · exact .inl (by simpa using h)
theorem smallA_setA {L : List AT} {t : List UInt8} {V : List (List UInt8)} (hL : smallA L) (hl : L.length ≤ 999) (ht : (nameA t).length ≤ 1000000) (hV : smallT V) : smallA (setA L t V) := by
  unfold setA
  split
  · exact ⟨Nat.le_trans (withoutA_le L t) hL.1, fun a ha => hL.2 a (without_mem ha)⟩
  · refine ⟨by rw [insA_len]; have := withoutA_le L t; omega, fun a ha => ?_⟩
    rcases insA_mem ha with rfl | ha
    · exact ⟨ht, hV⟩
    · exact hL.2 a (without_mem ha)
theorem beq_self_T (V : List (List UInt8)) : (V == V) = true := by simp
theorem below_of_drewN {w w' : World} {m : Nat} (h : w' = w.drewN m) : Below w.heap.size w w' := by rw [h]; exact below_drewN (Below.refl _ _) m
theorem beq_self_E (d : List UInt8) (L : List AT) : ((d, L) == (d, L)) = true := by simp
end Go.Proofs.YtlimajgmdhhggaaGreatDoor


namespace Go.Proofs.YtlimajgmdhhggaaGreatDoor
open Go.RowKit
set_option linter.unusedVariables false
set_option linter.unusedSimpArgs false

theorem run_copy_T {w : World} {ok : Nat → Prop} {g : Nat} {u : Value} {A : List (List UInt8)} (hg : w.heap[g]? = some (.cells #[] 9 (0, 0))) (hu : IsTo ok w A u) (hlen : A.length ≤ 100000) (ty : TypeId) :
    ∃ v' w', (Builtin.append_ #[25, 25] ty #[.slice (some ⟨g, 0, none⟩) 0 0, u]).run Tryz.prog w = .ok v' w' ∧ IsTo (StrB w') w' A v' ∧ Below w.heap.size w w' := by
  obtain ⟨i0, hi, hz0, hz1, hz2⟩ := info_parts infoS
  obtain ⟨a, c, rfl, hm, hc⟩ := hu
  cases a with
  | none =>
    have hA : A = [] := by
      cases A with
      | nil => rfl
      | cons x l => obtain ⟨b, off, e, _⟩ := hc 0 (by simp); cases e
    subst hA
    refine ⟨.slice (some ⟨g, 0, none⟩) 0 0, w, ?_, ⟨_, _, rfl, Nat.zero_le _, fun j h => absurd h (by simp)⟩, Below.refl _ _⟩
    exact run_append_room_src (P := Tryz.prog) w 25 25 ty 9 i0 Tryz.underlying25 hi g 0 0 0 (.slice none 0 c) 0 [] (Src.ofNil w Tryz.underlying25 c) (by simp) (fun j h => absurd h (by simp)) (fun j h => absurd h (by simp))
  | some ad =>
    have hcl : ∀ j x, (A.map strV)[j]? = some x → w.cell? (ad.add j) = some x := by
      intro j x hx
      have hj : j < A.length := by
        rcases Nat.lt_or_ge j A.length with h | h
        · exact h
        · rw [List.getElem?_eq_none (by simpa using h)] at hx; cases hx
      obtain ⟨b, off, e, _, h0⟩ := hc j hj
      simp only [Option.some.injEq] at e
      subst e
      have hadd : (⟨b, off, none⟩ : Addr).add j = ⟨b, off + j, none⟩ := by simp [Addr.add]
      rw [hadd, h0]
      simpa [hj] using hx
    by_cases hA : A = []
    · subst hA
      refine ⟨.slice (some ⟨g, 0, none⟩) 0 0, w, ?_, ⟨_, _, rfl, Nat.zero_le _, fun j h => absurd h (by simp)⟩, Below.refl _ _⟩
      exact run_append_room_src (P := Tryz.prog) w 25 25 ty 9 i0 Tryz.underlying25 hi g 0 0 0 (.slice (some ad) 0 c) 0 [] (by rw [hz1]; exact Src.ofSlice w Tryz.underlying25 ad 0 c [] (by simp) (fun j u h => absurd h (by simp)) (by simp)) (by simp) (fun j h => absurd h (by simp)) (fun j h => absurd h (by simp))
    · have hpos : 0 < A.length := by cases A with | nil => exact absurd rfl hA | cons x r => simp
      obtain ⟨v', w', hrun, hown, hgr⟩ := run_append_arg_grows (P := Tryz.prog) (w := w) 25 ty 9 i0 (.string ⟨#[]⟩) 1 16 Tryz.underlying25 hi hz0 hz1 hz2 rfl (by decide) ⟨g, 0, none⟩ 0 0 [] (by simp) (fun j u h => absurd h (by simp)) ad A.length c (A.map strV) (by simp) hcl (by omega) (by unfold maxLen; omega) (by simp; omega)
      have hown2 : OwnS w.heap.size w' v' A := by
        unfold OwnS
        rw [List.nil_append, Nat.zero_add] at hown
        exact hown
      exact ⟨v', w', hrun, ownS_strB hown2 (by unfold maxLen; omega), ⟨hgr.os, hgr.tape, hgr.output, hgr.size, fun k hk => hgr.block k hk (by simp)⟩⟩

theorem sortA_len2 (L : List AT) : (sortA L).length = L.length := srtG_length _ _ _
theorem insF_len : ∀ (M S : List AT), (M.foldl insB S).length = S.length + M.length
  | [], S => rfl
  | a :: r, S => by rw [List.foldl_cons, insF_len r, insB_length, List.length_cons]; omega
theorem run_copy_A {w : World} {B Bz g k n cap : Nat} {la : Option Addr} {P : List PT} {L : List AT} (hg : w.heap[g]? = some (.cells #[] 54 (0, 0))) (hBg : Bz ≤ g) (hBz : Bz ≤ w.heap.size) (hr : RowP B w (.slice la n cap) P) (hs : SaysM w P L) (hk0 : 0 < k) (hk : k ≤ L.length) (hL : L.length ≤ 1000) (ty : TypeId) :
    ∃ v' w', (Builtin.append_ #[22, 22] ty #[.slice (some ⟨g, 0, none⟩) 0 0, .slice la k cap]).run Tryz.prog w = .ok v' w' ∧ OwnM Bz w' v' (L.take k) ∧ Below w.heap.size w w' := by
  obtain ⟨i0, hi, hz0, hz1, hz2⟩ := info_parts infoA
  have hPl := hs.1
  have hne : P ≠ [] := by intro e; rw [e] at hPl; simp at hPl; omega
  obtain ⟨g2, c2, hv, _⟩ := rowP_at hr hne
  simp only [Value.slice.injEq] at hv
  obtain ⟨rfl, rfl, rfl⟩ := hv
  have hcells := World.ownsRow.cells hr (show (Value.slice (some ⟨g2, 0, none⟩) P.length cap).ownBlock = some g2 from rfl)
  have hsrc := row_part (w := w) (b := g2) (P := P) (fun j u h => by
    have h1 := hcells j u h
    have hadd : (⟨g2, 0, none⟩ : Addr).add j = ⟨g2, j, none⟩ := by simp [Addr.add]; omega
    rw [hadd] at h1
    exact h1) [] (P.take k) (P.drop k) (by simp)
  have hsay : SaysM w (P.take k) (L.take k) := saysM_part (A := []) (C := P.drop k) (L := []) (N := L.drop k) (by simpa using hs) rfl (by simp [hPl])
  have hkl : (P.take k).length = k := by simp; omega
  obtain ⟨v', w', hrun, hown, hgr⟩ := run_append_arg_grows (P := Tryz.prog) (w := w) 22 ty 54 i0 (.agg #[.string ⟨#[]⟩, .slice none 0 0]) 2 40 Tryz.underlying22 hi hz0 hz1 hz2 rfl (by decide) ⟨g, 0, none⟩ 0 0 [] (by simp) (fun j u h => absurd h (by simp)) ⟨g2, 0, none⟩ k cap (cellsP (P.take k)) (by rw [cellsP_length, hkl]) (fun j u h => by have := hsrc j u h; simpa using this) (by omega) (by unfold maxLen; omega) (by simp; omega)
  have hbl : Below w.heap.size w w' := ⟨hgr.os, hgr.tape, hgr.output, hgr.size, fun k hk => hgr.block k hk (by simp)⟩
  refine ⟨v', w', hrun, ownM_mono ⟨P.take k, ?_, saysM_below hsay hbl⟩ hBz, hbl⟩
  unfold RowP
  rw [hkl]
  rw [List.nil_append, Nat.zero_add] at hown
  exact hown
inductive Fn where
  | is (v : Value)
  | emp
  | txt (A : List (List UInt8))
  | agg (X : ByteArray) (A : List (List UInt8))
  | box
def FN (B : Nat) (T : List Fn) (i : Nat) (v : Value) (w : World) : Prop := match T.getD i .emp with
  | .is x => v = x
  | .emp => ∃ g, v = .slice (some ⟨g, 0, none⟩) 0 0 ∧ B ≤ g ∧ w.heap[g]? = some (.cells #[] 9 (0, 0))
  | .txt A => IsTo (StrB w) w A v
  | .agg X A => ∃ u, v = .agg #[.string X, u] ∧ IsTo (StrB w) w A u
  | .box => ∃ p, v = .pointer (some ⟨p, 0, none⟩) ∧ B ≤ p ∧ w.heap[p]? = some (.cells #[.string ⟨#[]⟩, .slice none 0 0] 54 (0, 0))
theorem isTo_strB_go {w w' : World} {A : List (List UInt8)} {v : Value} (h : IsTo (StrB w) w A v) (hb : Below w.heap.size w w') : IsTo (StrB w') w' A v :=
  h.imp (fun b ⟨cs, fr, hc⟩ => ⟨cs, fr, (hb.block _ (Array.getElem?_eq_some_iff.1 hc).1).trans hc⟩) (fun b o hs => hb.cell (p := ⟨b, o, none⟩) hs.lt)
theorem FN.go {B : Nat} {T : List Fn} {i : Nat} {v : Value} {w w' : World} (h : FN B T i v w) (hb : Below w.heap.size w w') : FN B T i v w' := by
  have hk : ∀ {b : Nat} {o : Obj}, w.heap[b]? = some o → w'.heap[b]? = some o := fun e => (hb.block _ (Array.getElem?_eq_some_iff.1 e).1).trans e
  unfold FN at h ⊢
  cases e : T.getD i .emp with
  | is x => rw [e] at h; exact h
  | emp => rw [e] at h; obtain ⟨g, h1, h2, h3⟩ := h; exact ⟨g, h1, h2, hk h3⟩
  | txt A => rw [e] at h; exact isTo_strB_go h hb
  | agg X A => rw [e] at h; obtain ⟨u, h1, h2⟩ := h; exact ⟨u, h1, isTo_strB_go h2 hb⟩
  | box => rw [e] at h; obtain ⟨p, h1, h2, h3⟩ := h; exact ⟨p, h1, h2, hk h3⟩

theorem boxN_store0 {W : World} {b : Nat} {x y : ByteArray} {u : Value} (h : BoxN W b x u) : BoxN (W.setCell ⟨b, 0, none⟩ (.string y)) b y u := by
  unfold BoxN at h ⊢
  simp [World.setCell, Array.getElem?_modify, h]
theorem boxN_store1 {W : World} {b : Nat} {x : ByteArray} {u v : Value} (h : BoxN W b x u) : BoxN (W.setCell ⟨b, 1, none⟩ v) b x v := by
  unfold BoxN at h ⊢
  simp [World.setCell, Array.getElem?_modify, h]
theorem BoxN.free {W : World} {b : Nat} {x : ByteArray} {u : Value} (h : BoxN W b x u) (i : Nat) : W.frozen? ⟨b, i, none⟩ = false := by
  unfold BoxN at h
  simp [World.frozen?, h]
theorem strB_attr {W : World} {p b : Nat} {cs : Array Value} {fr : Nat × Nat} (hp : W.heap[p]? = some (.cells cs 54 fr)) (h : StrB W b) : b ≠ p := by
  rintro rfl
  obtain ⟨cs', fr', hc⟩ := h
  rw [hc] at hp
  have := Option.some.inj hp
  simp at this
theorem set_blk {W : World} {p b i : Nat} {x : Value} (h : b ≠ p) : (W.setCell ⟨p, i, none⟩ x).heap[b]? = W.heap[b]? := by
  unfold World.setCell
  simp [Array.getElem?_modify, Ne.symm h]
theorem isTo_attr {W : World} {p i : Nat} {cs : Array Value} {fr : Nat × Nat} {A : List (List UInt8)} {v x : Value} (hp : W.heap[p]? = some (.cells cs 54 fr)) (h : IsTo (StrB W) W A v) : IsTo (StrB (W.setCell ⟨p, i, none⟩ x)) (W.setCell ⟨p, i, none⟩ x) A v :=
  h.imp (fun b hs => by obtain ⟨cs', fr', hc⟩ := id hs; exact ⟨cs', fr', (set_blk (strB_attr hp hs)).trans hc⟩) (fun b o hs => by simp only [World.cell?, set_blk (strB_attr hp hs)])
theorem ownM_entry {B : Nat} {W : World} {v x : Value} {L : List AT} {p i : Nat} {cs : Array Value} {fr : Nat × Nat} (h : OwnM B W v L) (hp : W.heap[p]? = some (.cells cs 24 fr)) (hB : p < B) : OwnM B (W.setCell ⟨p, i, none⟩ x) v L := by
  obtain ⟨P, hr, hs⟩ := h
  refine ⟨P, ⟨hr.1, hr.2.imp id fun ⟨g, cap, cur, e1, hb, hg, rest⟩ => ⟨g, cap, cur, e1, hb, (set_blk (by omega)).trans hg, rest⟩⟩, saysM_to hs fun b hb => set_blk ?_⟩
  rintro rfl
  obtain ⟨cs', fr', hc⟩ := hb
  rw [hc] at hp
  have := Option.some.inj hp
  simp at this
def BoxT (W : World) (p : Nat) (x : ByteArray) (u : Value) : Prop := W.heap[p]? = some (.cells #[.string x, u] 54 (0, 0))
theorem BoxT.cells {W : World} {p : Nat} {x : ByteArray} {u : Value} (h : BoxT W p x u) : W.cell? ⟨p, 0, none⟩ = some (.string x) ∧ W.cell? ⟨p, 1, none⟩ = some u ∧ W.frozen? ⟨p, 0, none⟩ = false ∧ W.frozen? ⟨p, 1, none⟩ = false := by
  unfold BoxT at h
  simp [World.cell?, World.frozen?, h]
theorem BoxT.set0 {W : World} {p : Nat} {x y : ByteArray} {u : Value} (h : BoxT W p x u) : BoxT (W.setCell ⟨p, 0, none⟩ (.string y)) p y u := by
  unfold BoxT at h ⊢
  simp [World.setCell, Array.getElem?_modify, h]
theorem BoxT.set1 {W : World} {p : Nat} {x : ByteArray} {u v : Value} (h : BoxT W p x u) : BoxT (W.setCell ⟨p, 1, none⟩ v) p x v := by
  unfold BoxT at h ⊢
  simp [World.setCell, Array.getElem?_modify, h]
structure NeAt (w : World) (TD d : ByteArray) (v l : Value) (A : List AT) (wr : World) : Prop where
  e1 : wr.cell? ⟨w.heap.size, 1, none⟩ = some v
  box : BoxE w.heap.size d wr
  out : BoxN wr (w.heap.size + 2) TD l
  own : OwnM (w.heap.size + 3) wr l A
  bel : Below w.heap.size w wr
  size : w.heap.size + 3 ≤ wr.heap.size
  res : BoxN wr (w.heap.size + 1) ⟨#[]⟩ (.slice none 0 0)
theorem NeAt.go {w wr W : World} {TD d : ByteArray} {v l : Value} {A : List AT} (h : NeAt w TD d v l A wr) (hb : Below wr.heap.size wr W) : NeAt w TD d v l A W where
  e1 := (hb.cell (p := ⟨w.heap.size, 1, none⟩) (show w.heap.size < wr.heap.size by have := h.size; omega)).trans h.e1
  box := h.box.go hb (by have := h.size; omega)
  out := h.out.below hb (by have := h.size; omega)
  own := ownM_below h.own hb
  bel := h.bel.trans (hb.mono (by have := h.size; omega))
  size := Nat.le_trans h.size hb.size
  res := h.res.below hb (by have := h.size; omega)
theorem NeAt.named {w W : World} {TD d : ByteArray} {v : Value} (h : NeAt w d d v (.slice none 0 0) [] W) : NeAt w TD d v (.slice none 0 0) [] (W.setCell ⟨w.heap.size + 2, 0, none⟩ (.string TD)) where
  e1 := by rw [World.cell?_setCell_other _ _ _ _ (by simp <;> omega)]; exact h.e1
  box := by
    obtain ⟨x0, x1, x2, x3, x4⟩ := h.box
    refine ⟨?_, ?_, ?_, ?_, ?_⟩
    · rw [World.cell?_setCell_other _ _ _ _ (by simp <;> omega)]; exact x0
    · rw [World.cell?_setCell_other _ _ _ _ (by simp <;> omega)]; exact x1
    · rw [World.cell?_setCell_other _ _ _ _ (by simp <;> omega)]; exact x2
    · rw [World.frozen?_setCell]; exact x3
    · rw [World.frozen?_setCell]; exact x4
  out := boxN_store0 h.out
  own := ⟨[], World.ownsRow_nil _ _ _ _, rfl, fun j h => absurd h (by simp)⟩
  bel := h.bel.setCell (p := ⟨w.heap.size + 2, 0, none⟩) (show w.heap.size ≤ w.heap.size + 2 by omega) _
  size := by have := h.size; simpa [World.setCell] using this
  res := (set_blk (by omega)).trans h.res
def NeI (w : World) (TD d : ByteArray) (v : Value) (L : List AT) (wr : World) (j : Nat) : Prop := ∃ l, NeAt w TD d v l ((normL (L.take j)).foldl insB []) wr
end Go.Proofs.YtlimajgmdhhggaaGreatDoor


namespace Go.Proofs.YtlimajgmdhhggaaGreatDoor
open Go.RowKit
set_option linter.unusedVariables false
set_option linter.unusedSimpArgs false

theorem run_append_noneA {B : Nat} {w : World} {v : Value} {L : List AT} (hown : OwnM B w v L) (c : Nat) (ty : TypeId) :
    (Builtin.append_ #[22, 22] ty #[v, .slice none 0 c]).run Tryz.prog w = .ok v w := by
  obtain ⟨i0, hi, hz0, hz1, hz2⟩ := info_parts infoA
  obtain ⟨P, hr, hs⟩ := hown
  rcases hr.2 with ⟨rfl, hz⟩ | ⟨g, cap, cur, rfl, _, hg, hnc, _⟩
  · simp [Builtin.append_, run_underlying Tryz.underlying22, sizeOf, typeInfo, hi, Builtin.lenOf, Builtin.firstCells]
  · exact run_append_room_src (P := Tryz.prog) w 22 22 ty 54 i0 Tryz.underlying22 hi g 0 P.length cap (.slice none 0 c) 0 [] (Src.ofNil w Tryz.underlying22 c) hnc (fun j h => absurd h (by simp)) (fun j h => absurd h (by simp))
theorem run_copy_K {w : World} {B Bz g k n cap : Nat} {la : Option Addr} {P : List PT} {L : List AT} (hg : w.heap[g]? = some (.cells #[] 54 (0, 0))) (hBg : Bz ≤ g) (hBz : Bz ≤ w.heap.size) (hr : RowP B w (.slice la n cap) P) (hs : SaysM w P L) (hk : k ≤ L.length) (hL : L.length ≤ 1000) (ty : TypeId) :
    ∃ v' w', (Builtin.append_ #[22, 22] ty #[.slice (some ⟨g, 0, none⟩) 0 0, .slice la k cap]).run Tryz.prog w = .ok v' w' ∧ OwnM Bz w' v' (L.take k) ∧ Below w.heap.size w w' := by
  by_cases hk0 : k = 0
  · subst hk0
    obtain ⟨i0, hi, hz0, hz1, hz2⟩ := info_parts infoA
    refine ⟨.slice (some ⟨g, 0, none⟩) 0 0, w, ?_, by rw [List.take_zero]; exact ownM_empty hg hBg, Below.refl _ _⟩
    cases la with
    | none => exact run_append_room_src (P := Tryz.prog) w 22 22 ty 54 i0 Tryz.underlying22 hi g 0 0 0 (.slice none 0 cap) 0 [] (Src.ofNil w Tryz.underlying22 cap) (by simp) (fun j h => absurd h (by simp)) (fun j h => absurd h (by simp))
    | some ad => exact run_append_room_src (P := Tryz.prog) w 22 22 ty 54 i0 Tryz.underlying22 hi g 0 0 0 (.slice (some ad) 0 cap) 0 [] (by rw [hz1]; exact Src.ofSlice w Tryz.underlying22 ad 0 cap [] (by simp) (fun j u h => absurd h (by simp)) (by simp)) (by simp) (fun j h => absurd h (by simp)) (fun j h => absurd h (by simp))
  · exact run_copy_A hg hBg hBz hr hs (by omega) hk hL ty
theorem rowP_shape {B n c : Nat} {w : World} {a : Option Addr} {P : List PT} (h : RowP B w (.slice a n c) P) : n = P.length ∧ ((a = none ∧ n = 0 ∧ c = 0) ∨ ((∃ g cs, a = some ⟨g, 0, none⟩ ∧ w.heap[g]? = some (.cells cs 54 (0, 0))) ∧ n ≤ c)) := by
  obtain ⟨a2, c2, hv⟩ := rowP_slice h
  simp only [Value.slice.injEq] at hv
  refine ⟨hv.2.1, ?_⟩
  rcases h.2 with ⟨h', _⟩ | ⟨g', cap', cur, h', hb, hg, hnc, _⟩
  · simp only [Value.slice.injEq] at h'
    exact .inl h'
  · simp only [Value.slice.injEq] at h'
    exact .inr ⟨⟨g', cur, h'.1, hg⟩, by rw [h'.2.2, hv.2.1]; exact hnc⟩
theorem run_rest_K {w : World} {B Bz k n cap : Nat} {la : Option Addr} {v : Value} {P : List PT} {L M : List AT} (hown : OwnM Bz w v M) (hBz : Bz ≤ w.heap.size) (hr : RowP B w (.slice la n cap) P) (hs : SaysM w P L) (hk : k ≤ n) (hL : M.length + (n - k) ≤ 1000) (ty : TypeId) :
    ∃ v' w', (Builtin.append_ #[22, 22] ty #[v, .slice (if cap = k then la else la.map (fun a => a.add (k * 2))) (n - k) (cap - k)]).run Tryz.prog w = .ok v' w' ∧ OwnM Bz w' v' (M ++ L.drop k) ∧ Below Bz w w' := by
  have hPl := hs.1
  obtain ⟨hn, ⟨rfl, h0, h1⟩ | ⟨⟨g, cs, rfl, hg⟩, hnc⟩⟩ := rowP_shape hr
  · have hL0 : L = [] := List.eq_nil_of_length_eq_zero (by omega)
    subst hL0
    subst h0
    refine ⟨v, w, ?_, by simpa using hown, Below.refl _ _⟩
    rw [show 0 - k = 0 from by omega, show (if cap = k then none else (none : Option Addr).map (fun a => a.add (k * 2))) = none from by split <;> rfl]
    exact run_append_noneA hown _ ty
  · have hcells := World.ownsRow.cells hr (show (Value.slice (some ⟨g, 0, none⟩) n cap).ownBlock = some g from rfl)
    have hcell : ∀ j u, (cellsP P)[j]? = some u → w.cell? ⟨g, j, none⟩ = some u := fun j u h => by
      have h1 := hcells j u h
      have hadd : (⟨g, 0, none⟩ : Addr).add j = ⟨g, j, none⟩ := by simp [Addr.add]; omega
      rw [hadd] at h1
      exact h1
    have htl : (P.take k).length = k := by rw [List.length_take]; omega
    have hsrc := row_part (w := w) (b := g) (P := P) hcell (P.take k) (P.drop k) [] (by simp)
    have hsay : SaysM w (P.drop k) (L.drop k) := saysM_part (A := P.take k) (C := []) (L := L.take k) (N := []) (by simpa using hs) (by simp [hPl]) (by simp [hPl])
    have hdl : (L.drop k).length = n - k := by rw [List.length_drop]; omega
    obtain ⟨v', w', hrun, ho, hb, _⟩ := run_append_M hown hBz hsay (if cap = k then ⟨g, 0, none⟩ else ⟨g, k * 2, none⟩) (cap - k) (fun j u h => by
      by_cases hkc : cap = k
      · have : P.drop k = [] := List.drop_eq_nil_of_le (by omega)
        rw [this] at h
        simp [cellsP] at h
      · rw [if_neg hkc]
        have := hsrc j u h
        rw [htl] at this
        simpa using this) (by rw [hdl]; omega) ty
    rw [hdl] at hrun
    refine ⟨v', w', ?_, ho, hb⟩
    rw [show (if cap = k then some (⟨g, 0, none⟩ : Addr) else (some (⟨g, 0, none⟩ : Addr)).map (fun a => a.add (k * 2))) = some (if cap = k then ⟨g, 0, none⟩ else ⟨g, k * 2, none⟩) from by split <;> simp [Addr.add] <;> intro h <;> omega]
    exact hrun
theorem three_appends {w wz : World} {TD d NM : ByteArray} {v : Value} {la xa : Option Addr} {sn lc p xc k : Nat} {SL : List AT} {A : List (List UInt8)} (h : NeAt w TD d v (.slice la sn lc) SL wz) (hb : BoxT wz p NM (.slice xa A.length xc)) (hto : IsTo (StrB wz) wz A (.slice xa A.length xc)) (hk : k ≤ sn) (hSL : SL.length ≤ 999) (ty : TypeId) :
    ∃ v15 w15 v16 w16 v17 w17,
      (Builtin.append_ #[22, 22] ty #[.slice (some ⟨wz.heap.size, 0, none⟩) 0 0, .slice la k lc]).run Tryz.prog (wz.alloc (.cells #[] 54)) = .ok v15 w15 ∧
      (Builtin.append_ #[22, 22] ty #[v15, .slice (some ⟨w15.heap.size, 0, none⟩) 1 1]).run Tryz.prog (w15.alloc (.cells #[.string NM, .slice xa A.length xc] 54)) = .ok v16 w16 ∧
      (Builtin.append_ #[22, 22] ty #[v16, .slice (if lc = k then la else la.map (fun a => a.add (k * 2))) (sn - k) (lc - k)]).run Tryz.prog w16 = .ok v17 w17 ∧
      w15.cell? ⟨p, 0, none⟩ = some (.string NM) ∧ w15.cell? ⟨p, 1, none⟩ = some (.slice xa A.length xc) ∧ w16.cell? ⟨w.heap.size + 2, 1, none⟩ = some (.slice la sn lc) ∧ w17.cell? ⟨w.heap.size + 2, 1, none⟩ = some (.slice la sn lc) ∧ w17.frozen? ⟨w.heap.size + 2, 1, none⟩ = false ∧
      NeAt w TD d v v17 (SL.take k ++ (NM.data.toList, A) :: SL.drop k) (w17.setCell ⟨w.heap.size + 2, 1, none⟩ v17) := by
  have hbA : Below wz.heap.size wz (wz.alloc (.cells #[] 54)) := (Below.refl _ _).alloc (Nat.le_refl _) _
  obtain ⟨P, hr, hs⟩ := (h.go hbA).own
  have hPl := hs.1
  obtain ⟨hn, _⟩ := rowP_shape hr
  obtain ⟨v15, w15, r15, ho15, hb15⟩ := run_copy_K (g := wz.heap.size) (Bz := wz.heap.size) (heap_alloc_new wz _) (Nat.le_refl _) (by simp) hr hs (show k ≤ SL.length by omega) (by omega) ty
  have hbz15 : Below wz.heap.size wz w15 := bthen hbA hb15
  have hb2 : Below w15.heap.size w15 (w15.alloc (.cells #[.string NM, .slice xa A.length xc] 54)) := (Below.refl _ _).alloc (Nat.le_refl _) _
  have hbz2 := bthen hbz15 hb2
  have hs2 : SaysM (w15.alloc (.cells #[.string NM, .slice xa A.length xc] 54)) [(NM.data.toList, .slice xa A.length xc)] [(NM.data.toList, A)] := ⟨rfl, fun j hj hj' => by
    have : j = 0 := by simp at hj; omega
    subst this
    exact ⟨rfl, isTo_strB_go hto hbz2⟩⟩
  have htk : (SL.take k).length = k := by rw [List.length_take]; omega
  obtain ⟨v16, w16, r16, ho16, hb16, _⟩ := run_append_M (ownM_below ho15 hb2) hbz2.size hs2 ⟨w15.heap.size, 0, none⟩ 1 (cells_one (heap_alloc_new w15 _)) (by rw [htk]; simp; omega) ty
  have hbz16 := hbz2.trans hb16
  have h16 := h.go hbz16
  obtain ⟨P2, hr2, hs2'⟩ := h16.own
  obtain ⟨v17, w17, r17, ho17, hb17⟩ := run_rest_K ho16 hbz16.size hr2 hs2' hk (by simp only [List.length_append, htk, List.length_cons, List.length_nil]; omega) ty
  have hbz17 := hbz16.trans hb17
  have h17 := h.go hbz17
  have hpz : p < wz.heap.size := (Array.getElem?_eq_some_iff.1 hb).1
  have hb15b : BoxT w15 p NM (.slice xa A.length xc) := (hbz15.block p hpz).trans hb
  have hsz := h.size
  refine ⟨v15, w15, v16, w16, v17, w17, r15, r16, r17, hb15b.cells.1, hb15b.cells.2.1, h16.out.cells.2, h17.out.cells.2, h17.out.free 1, ?_⟩
  exact {
    e1 := by rw [World.cell?_setCell_other _ _ _ _ (by simp <;> omega)]; exact h17.e1
    box := by
      obtain ⟨x0, x1, x2, x3, x4⟩ := h17.box
      refine ⟨?_, ?_, ?_, ?_, ?_⟩
      · rw [World.cell?_setCell_other _ _ _ _ (by simp <;> omega)]; exact x0
      · rw [World.cell?_setCell_other _ _ _ _ (by simp <;> omega)]; exact x1
      · rw [World.cell?_setCell_other _ _ _ _ (by simp <;> omega)]; exact x2
      · rw [World.frozen?_setCell]; exact x3
      · rw [World.frozen?_setCell]; exact x4
    out := boxN_store1 h17.out
    own := by
      have := ownM_entry (i := 1) (x := v17) (ownM_mono ho17 h.size) h17.out (show w.heap.size + 2 < w.heap.size + 3 by omega)
      simpa using this
    bel := h17.bel.setCell (p := ⟨w.heap.size + 2, 1, none⟩) (show w.heap.size ≤ w.heap.size + 2 by omega) _
    size := by have := h17.size; simpa [World.setCell] using this
    res := (set_blk (by omega)).trans h17.res }
end Go.Proofs.YtlimajgmdhhggaaGreatDoor


namespace Go.Proofs.YtlimajgmdhhggaaGreatDoor
open Go.RowKit
set_option linter.unusedVariables false
set_option linter.unusedSimpArgs false

def runS (t : List UInt8) (x : AT) : Bool → List AT → List AT
  | d, [] => if d then [] else [x]
  | d, a :: r => if (low a.1 == low t) = true then runS t x d r else if (!d && gtB a.1 x.1) = true then x :: a :: runS t x true r else a :: runS t x d r
theorem runS_done (t : List UInt8) (x : AT) : ∀ L : List AT, runS t x true L = withoutA L t
  | [] => rfl
  | a :: r => by
    rw [runS]
    unfold withoutA
    rw [List.filter_cons]
    have h := runS_done t x r
    unfold withoutA at h
    by_cases hq : (low a.1 == low t) = true
    · rw [if_pos hq, hq, h]; rfl
    · rw [if_neg hq]
      have hq' : (low a.1 == low t) = false := by simpa using hq
      rw [hq', h]; rfl
theorem insA_cons_pos {a x : AT} {M : List AT} (h : gtB a.1 x.1 = true) : insA (a :: M) x = x :: a :: M := by
  unfold insA
  rw [List.findIdx?_cons, h]
  rfl
theorem insA_cons_neg {a x : AT} {M : List AT} (h : gtB a.1 x.1 = false) : insA (a :: M) x = a :: insA M x := by
  unfold insA
  rw [List.findIdx?_cons, h]
  cases List.findIdx? (fun b => gtB b.1 x.1) M <;> rfl
theorem runS_open (t : List UInt8) (x : AT) : ∀ L : List AT, runS t x false L = insA (withoutA L t) x
  | [] => rfl
  | a :: r => by
    have h := runS_open t x r
    have h2 := runS_done t x r
    rw [runS]
    have hw : withoutA (a :: r) t = if (low a.1 == low t) = true then withoutA r t else a :: withoutA r t := by
      unfold withoutA
      rw [List.filter_cons]
      by_cases hq : (low a.1 == low t) = true
      · rw [if_pos hq, hq]; rfl
      · have hq' : (low a.1 == low t) = false := by simpa using hq
        rw [if_neg hq, hq']; rfl
    rw [hw]
    by_cases hq : (low a.1 == low t) = true
    · rw [if_pos hq, if_pos hq, h]
    · rw [if_neg hq, if_neg hq]
      by_cases hg : gtB a.1 x.1 = true
      · rw [if_pos (by simpa using hg), h2, insA_cons_pos hg]
      · have hg' : gtB a.1 x.1 = false := by simpa using hg
        rw [if_neg (by simp [hg']), h, insA_cons_neg hg']
theorem runS_set (t : List UInt8) (V : List (List UInt8)) (L : List AT) : runS t (nameA t, V) (decide (V.length = 0)) L = setA L t V := by
  unfold setA
  by_cases h : V = []
  · subst h; rw [if_pos rfl]; exact runS_done _ _ _
  · rw [if_neg h, decide_eq_false (by intro e; exact h (List.eq_nil_of_length_eq_zero e))]
    exact runS_open _ _ _
theorem runS_skip {t : List UInt8} {x a : AT} {d : Bool} {r : List AT} (h : (low a.1 == low t) = true) : runS t x d (a :: r) = runS t x d r := by rw [runS, if_pos h]
theorem runS_put {t : List UInt8} {x a : AT} {r : List AT} (h : (low a.1 == low t) = false) (h2 : gtB a.1 x.1 = true) : runS t x false (a :: r) = x :: a :: runS t x true r := by
  rw [runS, if_neg (by simp [h]), if_pos (by simp [h2])]
theorem runS_on {t : List UInt8} {x a : AT} {d : Bool} {r : List AT} (h : (low a.1 == low t) = false) (h2 : d = true ∨ gtB a.1 x.1 = false) : runS t x d (a :: r) = a :: runS t x d r := by
  rw [runS, if_neg (by simp [h]), if_neg (by rcases h2 with h2 | h2 <;> simp [h2])]
theorem runS_end {t : List UInt8} {x : AT} : runS t x true [] = [] := rfl

def OwnI (n0 B : Nat) (w : World) (v : Value) (L : List AT) : Prop := ∃ P, RowP B w v P ∧ SaysV n0 w P L
theorem ownI_below {n0 B : Nat} {w w' : World} {v : Value} {L : List AT} (h : OwnI n0 B w v L) (hb : Below w.heap.size w w') (hB : n0 ≤ w.heap.size) : OwnI n0 B w' v L := by
  obtain ⟨P, h1, h2⟩ := h
  exact ⟨P, rowP_below h1 hb, saysV_go h2 hb hB⟩
theorem ownI_slice {n0 B : Nat} {w : World} {v : Value} {L : List AT} (h : OwnI n0 B w v L) : ∃ a c, v = .slice a L.length c := by
  obtain ⟨P, h1, h2⟩ := h
  rw [← h2.1]
  exact rowP_slice h1
theorem ownI_sl {n0 B : Nat} {w : World} {v : Value} {L : List AT} (h : OwnI n0 B w v L) : ∃ a n c, v = .slice a n c := by
  obtain ⟨a, c, h⟩ := ownI_slice h
  exact ⟨a, _, c, h⟩
theorem ownI_nil (n0 B : Nat) (w : World) : OwnI n0 B w (.slice none 0 0) [] := ⟨[], World.ownsRow_nil _ _ _ _, rfl, fun j h => absurd h (by simp)⟩
theorem ownI_isA {n0 B : Nat} {w : World} {v : Value} {L : List AT} (h : OwnI n0 B w v L) (hl : L.length ≤ maxLen) (hB : n0 ≤ w.heap.size) : IsA w.heap.size w L v := by
  obtain ⟨P, h1, h2⟩ := h
  by_cases hne : P = []
  · subst hne
    obtain ⟨a, c, hv⟩ := rowP_slice h1
    have : L = [] := List.eq_nil_of_length_eq_zero (by have := h2.1; simpa using this.symm)
    subst this
    exact ⟨a, c, hv, hl, fun j hj => absurd hj (by simp)⟩
  · obtain ⟨g, c, hv, _, hg, hc⟩ := rowP_at h1 hne
    refine ⟨_, c, by rw [hv, h2.1], hl, fun j hj => ?_⟩
    have hj' : j < P.length := by rw [h2.1]; exact hj
    obtain ⟨e1, e2⟩ := h2.2 j hj hj'
    refine ⟨g, 0, P[j].2, rfl, hg, ?_, ?_, e2.below (Below.refl _ _) hB⟩
    · rw [Nat.zero_add, ← e1]; exact (hc j hj').1
    · rw [Nat.zero_add]; exact (hc j hj').2
theorem ownI_set {n0 B : Nat} {w : World} {v : Value} {L : List AT} (h : OwnI n0 B w v L) (a : Addr) (x : Value) (ha : a.block < B) (hn : n0 ≤ a.block) : OwnI n0 B (w.setCell a x) v L := by
  obtain ⟨P, hr, hs⟩ := h
  have hblk : ∀ k, k ≠ a.block → (w.setCell a x).heap[k]? = w.heap[k]? := fun k hk => by
    unfold World.setCell
    simp [Array.getElem?_modify, Ne.symm hk]
  exact ⟨P, ⟨hr.1, hr.2.imp id fun ⟨g, cap, cur, e1, hb, hg, rest⟩ => ⟨g, cap, cur, e1, hb, (hblk g (by omega)).trans hg, rest⟩⟩, saysV_go hs ((Below.refl n0 w).setCell (p := a) hn x) (Nat.le_refl _)⟩
theorem wpList_append_attrI {ops : Array Oper} {rest : List Oper} {o : Oper} {a : Act} {w : World} {Q : Exit → Act → World → Prop} (hgd : o.guard = none) (sl x : Operand)
    (ho : o.op = .call { callee := .builtin .append, args := #[sl, x], argTypes := #[22, 22] })
    (n0 base : Nat) (hn : n0 ≤ base) (v : Value) (L : List AT) (hs : a.eval sl = v) (X : ByteArray) (u : Value) (A : List (List UInt8)) (hown : OwnI n0 base w v L) (hu : IsT n0 w A u) (hx : a.eval x = .slice (some ⟨w.heap.size, 0, none⟩) 1 1)
    (h63 : L.length + 1 ≤ 1000000) (hbase : base ≤ w.heap.size)
    (h : ∀ v' w', OwnI n0 base w' v' (L ++ [(X.data.toList, A)]) → Below base w w' → (w.alloc (.cells #[.string X, u] 54)).grownBy w' v.ownBlock → wpList Tryz.prog ops Q rest (a.put o.dst v') w') : wpList Tryz.prog ops Q (o :: rest) a (w.alloc (.cells #[.string X, u] 54)) := by
  obtain ⟨i0, hi, hz0, hz1, hz2⟩ := info_parts infoA
  obtain ⟨P, hr, hsay⟩ := hown
  have hPL := hsay.1
  have hu1 : u.oneCell' = true := by obtain ⟨_, _, rfl, _⟩ := hu; rfl
  refine wpList_append_own_at _ hgd sl x 22 ho base 54 i0 (.agg #[.string ⟨#[]⟩, .slice none 0 0]) 2 40 Tryz.underlying22 hi hz0 hz1 hz2 rfl (by decide) v P.length (cellsP P) hs (World.ownsRow.alloc hr _) ⟨w.heap.size, 0, none⟩ 1 1 [.string X, u] hx rfl (newsA w _ _) (by intro u' hu'; simp at hu'; rcases hu' with rfl | rfl; rfl; exact hu1) (by unfold maxLen; omega) (by omega) (by simp; omega) ?_
  intro v' w' hown' hgrow _ hat
  have hbb : Below base w w' := ((Below.refl base w).alloc hbase _).grown hgrow (by simp; omega) (fun k e => (World.ownsRow.lt hr k e).1)
  refine h v' w' ⟨P ++ [(X.data.toList, u)], ?_, saysV_more hsay hu (hbb.mono hn)⟩ hbb hgrow
  unfold RowP
  rw [List.length_append, cellsP_append]
  show w'.ownsRow base 54 2 v' (P.length + 1) (cellsP P ++ [strV X.data.toList, u])
  rw [strV_whole]
  exact hown'

theorem ownI_lt {n0 B : Nat} {w : World} {v : Value} {L : List AT} (h : OwnI n0 B w v L) {g : Nat} (e : v.ownBlock = some g) : g < w.heap.size := by
  obtain ⟨P, hr, _⟩ := h
  exact (World.ownsRow.lt hr g e).2
theorem box_over {w4 w6 : World} {o : Obj} {row : Option Nat} (hg : (w4.alloc o).grownBy w6 row) {k : Nat} (i : Nat) (hk : k < w4.heap.size) (hr : some k ≠ row) : w6.cell? ⟨k, i, none⟩ = w4.cell? ⟨k, i, none⟩ := by
  have e0 := hg.block k (by simp only [World.size_alloc]; omega) hr
  have e1 := heap_alloc_old w4 o hk
  simp only [World.cell?, e0, e1]
structure OutI (n0 eb po : Nat) (d : ByteArray) (v l : Value) (A : List AT) (w wr : World) : Prop where
  e1 : wr.cell? ⟨eb, 1, none⟩ = some v
  o0 : wr.cell? ⟨po, 0, none⟩ = some (.string d)
  o1 : wr.cell? ⟨po, 1, none⟩ = some l
  z1 : wr.frozen? ⟨po, 1, none⟩ = false
  own : OwnI n0 (po + 1) wr l A
  bel : Below n0 w wr
  size : po + 1 ≤ wr.heap.size
  box : BoxE eb d wr
theorem OutI.go {n0 eb po : Nat} {d : ByteArray} {v l : Value} {A : List AT} {w wr W : World} (h : OutI n0 eb po d v l A w wr) (hb : Below wr.heap.size wr W) (he : eb + 1 < po) (hn : n0 ≤ po) : OutI n0 eb po d v l A w W where
  e1 := (hb.cell (p := ⟨eb, 1, none⟩) (show eb < wr.heap.size by have := h.size; omega)).trans h.e1
  o0 := (hb.cell (p := ⟨po, 0, none⟩) (show po < wr.heap.size by have := h.size; omega)).trans h.o0
  o1 := (hb.cell (p := ⟨po, 1, none⟩) (show po < wr.heap.size by have := h.size; omega)).trans h.o1
  z1 := (hb.frozen (p := ⟨po, 1, none⟩) (show po < wr.heap.size by have := h.size; omega)).trans h.z1
  own := ownI_below h.own hb (by have := h.size; omega)
  bel := h.bel.trans (hb.mono (by have := h.size; omega))
  size := Nat.le_trans h.size hb.size
  box := h.box.go hb (by have := h.size; omega)
theorem OutI.put {n0 eb po : Nat} {d : ByteArray} {v l l2 : Value} {A A2 : List AT} {w wr W : World} (h : OutI n0 eb po d v l A w wr) (ho : OwnI n0 (po + 1) W l2 A2) (hb : Below (po + 1) wr W) (he : eb + 1 < po) (hn : n0 ≤ po) : OutI n0 eb po d v l2 A2 w (W.setCell ⟨po, 1, none⟩ l2) := by
  have hz := h.size
  have h0 : W.cell? ⟨po, 1, none⟩ = some l := (hb.cell (p := ⟨po, 1, none⟩) (show po < po + 1 by omega)).trans h.o1
  exact {
    e1 := by rw [World.cell?_setCell_other _ _ _ _ (by simp <;> omega)]; exact (hb.cell (p := ⟨eb, 1, none⟩) (show eb < po + 1 by omega)).trans h.e1
    o0 := by rw [World.cell?_setCell_other _ _ _ _ (by simp)]; exact (hb.cell (p := ⟨po, 0, none⟩) (show po < po + 1 by omega)).trans h.o0
    o1 := World.cell?_setCell_same _ _ _ h0
    z1 := by rw [World.frozen?_setCell]; exact (hb.frozen (p := ⟨po, 1, none⟩) (show po < po + 1 by omega)).trans h.z1
    own := ownI_set ho ⟨po, 1, none⟩ l2 (show po < po + 1 by omega) hn
    bel := (h.bel.trans (hb.mono (by omega))).setCell (p := ⟨po, 1, none⟩) hn l2
    size := by have := hb.size; have : (W.setCell ⟨po, 1, none⟩ l2).heap.size = W.heap.size := by simp [World.setCell]
               omega
    box := by
      obtain ⟨x0, x1, x2, x3, x4⟩ := h.box.go hb (by omega)
      refine ⟨?_, ?_, ?_, ?_, ?_⟩
      · rw [World.cell?_setCell_other _ _ _ _ (by simp <;> omega)]; exact x0
      · rw [World.cell?_setCell_other _ _ _ _ (by simp <;> omega)]; exact x1
      · rw [World.cell?_setCell_other _ _ _ _ (by simp <;> omega)]; exact x2
      · rw [World.frozen?_setCell]; exact x3
      · rw [World.frozen?_setCell]; exact x4 }
def SetI (n0 eb po : Nat) (d : ByteArray) (v : Value) (t : List UInt8) (x : AT) (L R : List AT) (w wr : World) (j : Nat) (q : Bool) : Prop := ∃ A l, A ++ runS t x q (L.drop j) = R ∧ A.length ≤ 2 * j ∧ OutI n0 eb po d v l A w wr
end Go.Proofs.YtlimajgmdhhggaaGreatDoor


namespace Go.Proofs.YtlimajgmdhhggaaGreatDoor
open Go.RowKit
set_option linter.unusedVariables false

theorem kinds_mem {n : List UInt8} {k : List UInt8 × Nat} (h : findL n = some k) : k ∈ kindsL := List.mem_of_find?_eq_some h
theorem find_none_ne {n : List UInt8} (h : findL n = none) : ∀ k ∈ kindsL, n ≠ k.1 := by
  intro k hk e
  have := List.find?_eq_none.1 h k hk
  simp [e] at this
theorem ne_str {L : ByteArray} {l : List UInt8} (h : L.data.toList ≠ l) : (L.toList == l) = false := by
  rw [beq_eq_false_iff_ne, ByteArray.toList_eq]; exact h

set_option maxRecDepth 100000 in
set_option maxHeartbeats 4000000 in
theorem ruleRef_any (s : ByteArray) (hs : s.size ≤ 281474976710656) (w : World) : Calls Tryz.prog 82 #[.string s] w fun e w' => e = .returned (.int .i64 (ruleD s.data.toList)) ∧ Below w.heap.size w w' := by
  obtain ⟨L, hL⟩ : ∃ L, L = lowB s := ⟨_, rfl⟩
  have hLl : L.data.toList = low s.data.toList := by rw [hL, lowB_list]
  have hr : ruleD s.data.toList = ruleL L.data.toList := by unfold ruleD; rw [hLl]
  rw [hr]
  have hlo := fun w => lowerRef_any s w hs
  rw [← hL] at hlo
  clear hL hLl hr
  have HLo := Lib.hid hlo
  clear hlo
  cases hf : findL L.data.toList with
  | some k =>
    have hm := kinds_mem hf
    have he := (findL_len hf).1
    have hru : ruleL L.data.toList = k.2 := by unfold ruleL; rw [hf]
    rw [hru]
    clear hru hf
    have hLk : L = ⟨k.1.toArray⟩ := bytes_ext (by rw [← he])
    clear he
    subst hLk
    simp only [kindsL, List.mem_cons, List.not_mem_nil, or_false] at hm
    rcases hm with rfl | rfl | rfl | rfl | rfl | rfl | rfl | rfl | rfl | rfl | rfl
    all_goals
      go_enter Tryz.func82, Tryz.ntmps82
      go_wp2_with (go_at_call 42; refine (HLo.out _).mono ?_; rintro e w1 ⟨rfl, hb1⟩; have HB := Lib.hid hb1; clear hb1)
      go_ret
      exact ⟨rfl, HB.out⟩
  | none =>
    have hru : ruleL L.data.toList = 0 := by unfold ruleL; rw [hf]
    rw [hru]
    have hne := find_none_ne hf
    clear hru hf
    have q0 := ne_str (hne ([111, 98, 106, 101, 99, 116, 99, 108, 97, 115, 115], 1) (by simp [kindsL]))
    have q1 := ne_str (hne ([99, 110], 1) (by simp [kindsL]))
    have q2 := ne_str (hne ([115, 110], 1) (by simp [kindsL]))
    have q3 := ne_str (hne ([111], 1) (by simp [kindsL]))
    have q4 := ne_str (hne ([111, 117], 1) (by simp [kindsL]))
    have q5 := ne_str (hne ([117, 105, 100], 1) (by simp [kindsL]))
    have q6 := ne_str (hne ([109, 97, 105, 108], 1) (by simp [kindsL]))
    have q7 := ne_str (hne ([100, 101, 115, 99, 114, 105, 112, 116, 105, 111, 110], 1) (by simp [kindsL]))
    have q8 := ne_str (hne ([117, 105, 100, 110, 117, 109, 98, 101, 114], 2) (by simp [kindsL]))
    have q9 := ne_str (hne ([109, 101, 109, 98, 101, 114], 3) (by simp [kindsL]))
    have q10 := ne_str (hne ([117, 115, 101, 114, 112, 97, 115, 115, 119, 111, 114, 100], 4) (by simp [kindsL]))
    clear hne
    go_enter Tryz.func82, Tryz.ntmps82
    go_wp2_with (go_at_call 42; refine (HLo.out _).mono ?_; rintro e w1 ⟨rfl, hb1⟩; have HB := Lib.hid hb1; clear hb1)
    go_ret
    exact ⟨rfl, HB.out⟩

def BoxS (w : World) (b : Nat) (x : ByteArray) (ok : Bool) : Prop := w.heap[b]? = some (.cells #[.string x, .bool ok] 56 (0, 0))
theorem BoxS.below {w w' : World} {b n : Nat} {x : ByteArray} {ok : Bool} (h : BoxS w b x ok) (hb : Below n w w') (hn : b < n) : BoxS w' b x ok := (hb.block b hn).trans h
theorem BoxS.cells {w : World} {b : Nat} {x : ByteArray} {ok : Bool} (h : BoxS w b x ok) : w.cell? ⟨b, 0, none⟩ = some (.string x) ∧ w.cell? ⟨b, 1, none⟩ = some (.bool ok) ∧ w.frozen? ⟨b, 0, none⟩ = false ∧ w.frozen? ⟨b, 1, none⟩ = false := by
  unfold BoxS at h
  simp [World.cell?, World.frozen?, h]
theorem boxS_new (w : World) (x : ByteArray) (ok : Bool) : BoxS (w.alloc (.cells #[.string x, .bool ok] 56)) w.heap.size x ok := heap_alloc_new w _
theorem BoxS.store {w : World} {b : Nat} {x : ByteArray} {ok : Bool} (h : BoxS w b x ok) (x' : ByteArray) (ok' : Bool) : BoxS ((w.setCell ⟨b, 0, none⟩ (.string x')).setCell ⟨b, 1, none⟩ (.bool ok')) b x' ok' := by
  unfold BoxS at h ⊢
  simp [World.setCell, Array.getElem?_modify, h]

def saidR (o : Option (List UInt8)) : Value := match o with
  | some k => .agg #[.string ⟨k.toArray⟩, .bool true]
  | none => .agg #[.string ⟨#[]⟩, .bool false]

set_option maxRecDepth 100000 in
set_option maxHeartbeats 4000000 in
theorem canonRef_any (s : ByteArray) (hs : s.size ≤ 281474976710656) (w : World) : Calls Tryz.prog 41 #[.string s] w fun e w' => e = .returned (saidR (canonD s.data.toList)) ∧ Below w.heap.size w w' := by
  obtain ⟨L, hL⟩ : ∃ L, L = lowB s := ⟨_, rfl⟩
  have hLl : L.data.toList = low s.data.toList := by rw [hL, lowB_list]
  have hLs : L.size ≤ 281474976710656 := by rw [hL, lowB_size]; exact hs
  have hru := fun w => ruleRef_any L hLs w
  have hlo := fun w => lowerRef_any s w hs
  rw [← hL] at hlo
  have hr : ruleD L.data.toList = ruleD s.data.toList := by rw [hLl, ruleD_low]
  simp only [hr] at hru
  have HR := Lib.hid hru
  have HLo := Lib.hid hlo
  clear hlo hru hr
  have HBox := Lib.hid (boxS_new w ⟨#[]⟩ false)
  cases hc : canonD s.data.toList with
  | none =>
    have h0 := (canon_rule _).1 hc
    rw [h0] at HR
    clear h0 hc hL hLl
    go_enter Tryz.func41, Tryz.ntmps41
    go_wp2_with (first | (go_at_call 42; refine (HLo.out _).mono ?_; rintro e w1 ⟨rfl, hb1⟩; have HB := Lib.hid (((Below.refl _ _).alloc (Nat.le_refl _) _).trans (hb1.mono (by simp))); have HX := Lib.hid (HBox.out.below hb1 (by simp)); have hz1 : w.heap.size < w1.heap.size := (by have := hb1.size; simp at this; omega); clear hb1) | (go_at_call 82; refine (HR.out _).mono ?_; rintro e w2 ⟨rfl, hb2⟩; have HB := Lib.hid (bthen HB.out hb2); have HX := Lib.hid (HX.out.below hb2 hz1); obtain ⟨k0, k1, l0, l1⟩ := HX.out.cells; clear hb2))
    obtain ⟨q0, q1, _, _⟩ := (HX.out.store ⟨#[]⟩ false).cells
    refine bodyPost_ret (v := .agg #[.string ⟨#[]⟩, .bool false]) (by simp [results, Tryz.results41, go_sem, q0, q1]) rfl ⟨rfl, ?_⟩
    exact (HB.out.setCell (Nat.le_refl _) _).setCell (Nat.le_refl _) _
  | some k =>
    obtain ⟨e1, e2, _⟩ := canon_eq hc
    have hr1 : ((ruleD s.data.toList : Nat) : Int) ≠ 0 := by omega
    have t0 : (((ruleD s.data.toList : Nat) : Int) == 0) = false := by simpa using hr1
    have hv : saidR (some k) = .agg #[.string L, .bool true] := by rw [e1, ← hLl]; simp [saidR]
    have HV := Lib.hid hv
    generalize ruleD s.data.toList = r at *
    clear hc e1 e2 hr1 hv hL hLl
    go_enter Tryz.func41, Tryz.ntmps41
    go_wp2_with (first | (go_at_call 42; refine (HLo.out _).mono ?_; rintro e w1 ⟨rfl, hb1⟩; have HB := Lib.hid (((Below.refl _ _).alloc (Nat.le_refl _) _).trans (hb1.mono (by simp))); have HX := Lib.hid (HBox.out.below hb1 (by simp)); have hz1 : w.heap.size < w1.heap.size := (by have := hb1.size; simp at this; omega); clear hb1) | (go_at_call 82; refine (HR.out _).mono ?_; rintro e w2 ⟨rfl, hb2⟩; have HB := Lib.hid (bthen HB.out hb2); have HX := Lib.hid (HX.out.below hb2 hz1); obtain ⟨k0, k1, l0, l1⟩ := HX.out.cells; clear hb2))
    obtain ⟨q0, q1, _, _⟩ := (HX.out.store L true).cells
    refine bodyPost_ret (v := .agg #[.string L, .bool true]) (by simp [results, Tryz.results41, go_sem, q0, q1]) rfl ⟨by rw [HV.out], ?_⟩
    exact (HB.out.setCell (Nat.le_refl _) _).setCell (Nat.le_refl _) _
end Go.Proofs.YtlimajgmdhhggaaGreatDoor


namespace Go.Proofs.YtlimajgmdhhggaaGreatDoor
open Go.RowKit
set_option linter.unusedVariables false
set_option linter.unusedSimpArgs false

theorem canon_forms (t : List UInt8) : (∃ S : ByteArray, canonD t = some S.data.toList ∧ saidR (canonD t) = .agg #[.string S, .bool true] ∧ nameA t = S.data.toList) ∨ (canonD t = none ∧ saidR (canonD t) = .agg #[.string ⟨#[]⟩, .bool false] ∧ nameA t = t) := by
  cases h : canonD t with
  | none => exact .inr ⟨rfl, by rfl, by unfold nameA; rw [h]; rfl⟩
  | some s => exact .inl ⟨⟨s.toArray⟩, rfl, by rfl, by unfold nameA; rw [h]; rfl⟩

set_option maxRecDepth 100000 in
set_option maxHeartbeats 8000000 in
theorem setRef_any (d t : ByteArray) (ht : t.size ≤ 281474976710656) (L : List AT) (V : List (List UInt8)) (hs : smallA L) (v vv : Value) (w : World) (h : IsA w.heap.size w L v) (hvv : IsT w.heap.size w V vv) :
    Calls Tryz.prog 11 #[.agg #[.string d, v], .string t, vv] w fun e w' => ∃ v', e = .returned (.agg #[.string d, v']) ∧ IsA w'.heap.size w' (setA L t.data.toList V) v' ∧ Below w.heap.size w w' := by
  obtain ⟨sa, sc, rfl, hm, hcell⟩ := id h
  obtain ⟨va, vc, rfl, hvm, -⟩ := id hvv
  have hRS := runS_set t.data.toList V L
  obtain ⟨R, hR⟩ : ∃ R, R = setA L t.data.toList V := ⟨_, rfl⟩
  have hRl : R.length ≤ maxLen := by
    rw [hR]; unfold setA
    have h1 : (withoutA L t.data.toList).length ≤ L.length := List.length_filter_le _ _
    have h2 := hs.1
    split
    · unfold maxLen; omega
    · rw [insA_len]; unfold maxLen; omega
  rw [← hR] at hRS ⊢
  obtain ⟨n, hn⟩ : ∃ n, n = L.length := ⟨_, rfl⟩
  obtain ⟨vn, hvn⟩ : ∃ n, n = V.length := ⟨_, rfl⟩
  rw [← hvn] at hRS hvv ⊢
  rw [← hn] at ⊢ h
  have hs1 : n ≤ 1000 := by rw [hn]; exact hs.1
  have HN := Lib.hid hn
  have HRS := Lib.hid hRS
  have HRl := Lib.hid hRl
  have HC := Lib.hid hcell
  have HVv := Lib.hid hvv
  have hca := fun w => canonRef_any t ht w
  have HLo := Lib.hid (fun (s : ByteArray) (hs : s.size ≤ 281474976710656) (w : World) => lowerRef_any s w hs)
  obtain ⟨q0, hq0⟩ : ∃ q0 : Bool, decide (vn = 0) = q0 := ⟨_, rfl⟩
  have tq : ((vn : Int) == 0) = q0 := by rw [← hq0]; cases vn <;> simp <;> omega
  rw [hq0] at HRS
  have HBx := Lib.hid (boxE_new w d (.slice sa n sc))
  have e0 : ((w.alloc (.cells #[.string d, .slice sa n sc] 24)).alloc (.cells #[.string ⟨#[]⟩, .slice none 0 0] 24)).cell? ⟨w.heap.size, 1, none⟩ = some (.slice sa n sc) := by simp
  have HE0 := Lib.hid e0
  have hb0 : Below w.heap.size w ((w.alloc (.cells #[.string d, .slice sa n sc] 24)).alloc (.cells #[.string ⟨#[]⟩, .slice none 0 0] 24)) := ((Below.refl _ _).alloc (Nat.le_refl _) _).alloc (by simp) _
  have HB0 := Lib.hid hb0
  obtain ⟨eb, heb⟩ : ∃ b, b = w.heap.size := ⟨_, rfl⟩
  have HEb := Lib.hid heb
  rcases canon_forms t.data.toList with ⟨S, hc1, hc2, hc3⟩ | ⟨hc1, hc2, hc3⟩
  · rw [hc2] at hca
    have HCa := Lib.hid hca
    have hRS2 := HRS.out
    rw [hc3] at hRS2
    have HRS2 := Lib.hid hRS2
    have hsz : ∀ j (h : j < L.length), L[j].1.length ≤ 281474976710656 := fun j hj => Nat.le_trans (hs.2 _ (List.getElem_mem hj)).1 (by omega)
    have HSz := Lib.hid hsz
    have HLt := Lib.hid (HLo.out t ht)
    clear h hs hm hcell hvm hRS hR hRl hn hvn hvv hc1 hc2 hc3 hca hq0 e0 hb0 heb hsz HRS HEb hRS2
    go_enter Tryz.func11, Tryz.ntmps11
    go_upto_region 7 with (go_at_call 41; refine (HCa.out _).mono ?_; rintro e w2 ⟨rfl, hb2⟩; have HB2 := Lib.hid hb2; have f1 := ((Below.refl w2.heap.size w2).alloc (Nat.le_refl _) (.cells #[.string S, .bool true] 56)).cell (p := ⟨w.heap.size, 0, none⟩) (show w.heap.size < w2.heap.size by have := hb2.size; simp only [World.size_alloc] at this; omega); rw [(HBx.out.go hb2 (by simp)).1] at f1; clear hb2)
    have hz2 := HB2.out.size
    simp only [World.size_alloc] at hz2
    have hb25 : Below w2.heap.size w2 ((w2.alloc (.cells #[.string S, .bool true] 56)).alloc (.cells #[.string d, .slice none 0 0] 24)) := ((Below.refl _ _).alloc (Nat.le_refl _) _).alloc (by simp) _
    have HSt : OutI w.heap.size w.heap.size (w2.heap.size + 1) d (.slice sa n sc) (.slice none 0 0) [] w ((w2.alloc (.cells #[.string S, .bool true] 56)).alloc (.cells #[.string d, .slice none 0 0] 24)) := {
      e1 := (hb25.cell (p := ⟨w.heap.size, 1, none⟩) (show w.heap.size < w2.heap.size by omega)).trans ((HB2.out.cell (p := ⟨w.heap.size, 1, none⟩) (by simp; omega)).trans HE0.out)
      o0 := by simp
      o1 := by simp
      z1 := by simp
      own := ownI_nil _ _ _
      bel := HB0.out.trans ((HB2.out.mono HB0.out.size).trans (hb25.mono (by omega)))
      size := by simp
      box := (HBx.out.go HB2.out (by simp)).go hb25 (by omega) }
    generalize ((w2.alloc (.cells #[.string S, .bool true] 56)).alloc (.cells #[.string d, .slice none 0 0] 24)) = W5 at HSt ⊢
    obtain ⟨po, hpo⟩ : ∃ p, p = w2.heap.size + 1 := ⟨_, rfl⟩
    rw [← hpo] at HSt ⊢
    have hep : w.heap.size + 1 < po := by omega
    have hnp : w.heap.size ≤ po := by omega
    have hnp1 : w.heap.size ≤ po + 1 := by omega
    have HSt := Lib.hid HSt
    clear hb25 hz2 f1 HB2 hpo
    go_wp2
    go_loopw [10, 11] (fun dq i wr => ∃ (j : Nat) (q : Bool), j ≤ n ∧ i = .int .i64 j ∧ dq = .bool q ∧ SetI w.heap.size w.heap.size po d (.slice sa n sc) t.data.toList (S.data.toList, V) L R w wr j q) (fun dq i wr => n - (intOf i).toNat)
    case atStart => exact ⟨0, q0, by omega, rfl, rfl, [], _, by rw [List.drop_zero]; exact HRS2.out, by simp, HSt.out⟩
    case round =>
      obtain ⟨j, q, hj, rfl, rfl, A, l, hRj, hAl, hO⟩ := hrel
      obtain ⟨la, lc, hl⟩ := ownI_slice hO.own
      obtain ⟨an, han⟩ : ∃ k, k = A.length := ⟨_, rfl⟩
      rw [← han] at hl hAl
      subst hl
      have HO := Lib.hid hO
      have HAn := Lib.hid han
      have e1 := hO.e1
      by_cases hlt : j < n
      · have t1 : decide ((j : Int) < (n : Int)) = true := by simp; omega
        have t1' : decide (j < n) = true := by simpa using hlt
        have hjl : j < L.length := by rw [← HN.out]; exact hlt
        rw [List.drop_eq_getElem_cons hjl] at hRj
        obtain ⟨b, off, u, rfl, hb0, c0, c1, hu⟩ := HC.out j hjl
        obtain ⟨ua, uc, hue, _⟩ := id hu
        obtain ⟨un, hun⟩ : ∃ k, k = L[j].2.length := ⟨_, rfl⟩
        rw [← hun] at hue
        subst hue
        clear hun
        obtain ⟨X, hX⟩ : ∃ X : ByteArray, ⟨L[j].1.toArray⟩ = X := ⟨_, rfl⟩
        have hXl : X.data.toList = L[j].1 := by rw [← hX]
        have d0 : wr.cell? ⟨b, off + j * 2, none⟩ = some (.string X) := by rw [hO.bel.cell (p := ⟨b, _, none⟩) hb0, c0, ← hX]; rfl
        have d1 := (hO.bel.cell (p := ⟨b, off + j * 2 + 1, none⟩) hb0).trans c1
        have HLx := Lib.hid (HLo.out X (by have := HSz.out j hjl; rw [← hXl, bytes_len] at this; exact this))
        have HW1 := Lib.hid ((Below.refl wr.heap.size wr).alloc (Nat.le_refl _) (.cells #[.string X, .slice ua un uc] 54))
        have hk0 : (wr.alloc (.cells #[.string X, .slice ua un uc] 54)).cell? ⟨wr.heap.size, 0, none⟩ = some (.string X) := by simp
        have hk1 : (wr.alloc (.cells #[.string X, .slice ua un uc] 54)).cell? ⟨wr.heap.size, 1, none⟩ = some (.slice ua un uc) := by simp
        have K0 := Lib.hid hk0
        have K1 := Lib.hid hk1
        have HUu := Lib.hid hu
        obtain ⟨al, hal⟩ : ∃ al, (low L[j].1 == low t.data.toList) = al := ⟨_, rfl⟩
        have t2 : ((lowB X).toList == (lowB t).toList) = al := by rw [ByteArray.toList_eq, ByteArray.toList_eq, lowB_list, lowB_list, hXl]; exact hal
        have HXl := Lib.hid hXl
        clear hO han c0 c1 hu hX hXl hk0 hk1 hb0
        cases al with
        | true =>
          rw [runS_skip hal] at hRj
          have HRj := Lib.hid hRj
          clear hRj hal
          go_wp2_with (go_at_call 42; first | ((with_reducible refine (HLx.out _).mono ?_); rintro e w3 ⟨rfl, hb3⟩; have HB3 := Lib.hid hb3; clear hb3) | ((with_reducible refine (HLt.out _).mono ?_); rintro e w4 ⟨rfl, hb4⟩; have hb14 := bthen HB3.out hb4; have k0 := (hb14.cell (p := ⟨wr.heap.size, 0, none⟩) (by simp)).trans K0.out; have k1 := (hb14.cell (p := ⟨wr.heap.size, 1, none⟩) (by simp)).trans K1.out; have HO4 := Lib.hid (HO.out.go (bthen HW1.out hb14) hep hnp); have o1 := HO4.out.o1; have z1 := HO4.out.z1; have HP12 : Hid (wr.heap.size < w4.heap.size) := Lib.hid (by have := hb14.size; simp only [World.size_alloc] at this; omega); clear hb4 hb14))
          go_roundw
          case rel => exact ⟨j + 1, q, by omega, rfl, rfl, A, _, HRj.out, by rw [← HAn.out]; omega, HO4.out⟩
          case measure => simp [intOf]; omega
        | false =>
          have hgo : ∀ q, q = true ∨ gtB L[j].1 S.data.toList = false → (A ++ [(X.data.toList, L[j].2)]) ++ runS t.data.toList (S.data.toList, V) q (L.drop (j + 1)) = A ++ runS t.data.toList (S.data.toList, V) q (L[j] :: L.drop (j + 1)) := fun q hq => by
            rw [runS_on hal hq, HXl.out, List.append_assoc]; rfl
          cases q with
          | true =>
            rw [← hgo true (.inl rfl)] at hRj
            have HRj := Lib.hid hRj
            clear hRj hal hgo
            go_wp2_with (first
              | (go_at_call 42; first | ((with_reducible refine (HLx.out _).mono ?_); rintro e w3 ⟨rfl, hb3⟩; have HB3 := Lib.hid hb3; clear hb3) | ((with_reducible refine (HLt.out _).mono ?_); rintro e w4 ⟨rfl, hb4⟩; have hb14 := bthen HB3.out hb4; have k0 := (hb14.cell (p := ⟨wr.heap.size, 0, none⟩) (by simp)).trans K0.out; have k1 := (hb14.cell (p := ⟨wr.heap.size, 1, none⟩) (by simp)).trans K1.out; have HO4 := Lib.hid (HO.out.go (bthen HW1.out hb14) hep hnp); have o1 := HO4.out.o1; have z1 := HO4.out.z1; have HP12 : Hid (wr.heap.size < w4.heap.size) := Lib.hid (by have := hb14.size; simp only [World.size_alloc] at this; omega); clear hb4 hb14))
              | (at_builtin; refine wpList_append_attrI rfl (.tmp 61) (.tmp 63) rfl w.heap.size (po + 1) hnp1 (.slice la an lc) A rfl X (.slice ua un uc) L[j].2 HO4.out.own (HUu.out.below HO4.out.bel (Nat.le_refl _)) rfl (by have := HAn.out; omega) HO4.out.size ?_; intro v6 w6 hown6 hb6 hg6; (obtain ⟨r6, m6, c6, rfl⟩ := ownI_sl hown6); skip; have HO6 := Lib.hid (HO4.out.put hown6 hb6 hep hnp); have s1 := (hb6.cell (p := ⟨po, 1, none⟩) (show po < po + 1 by omega)).trans HO4.out.o1; have s2 := (hb6.frozen (p := ⟨po, 1, none⟩) (show po < po + 1 by omega)).trans HO4.out.z1; clear hown6 hb6 hg6))
            go_roundw
            case rel => exact ⟨j + 1, true, by omega, rfl, rfl, _, _, HRj.out, by rw [List.length_append, ← HAn.out]; simp; omega, HO6.out⟩
            case measure => simp [intOf]; omega
          | false =>
            obtain ⟨gg, hgg⟩ : ∃ gg, gtB L[j].1 S.data.toList = gg := ⟨_, rfl⟩
            have t3 : (!Op.bytesLess X.toList S.toList && !(X.toList == S.toList)) = gg := by
              rw [← hgg]; unfold gtB; rw [ByteArray.toList_eq, ByteArray.toList_eq, HXl.out]
            cases gg with
            | false =>
              rw [← hgo false (.inr hgg)] at hRj
              have HRj := Lib.hid hRj
              clear hRj hal hgo hgg
              go_wp2_with (first
                | (go_at_call 42; first | ((with_reducible refine (HLx.out _).mono ?_); rintro e w3 ⟨rfl, hb3⟩; have HB3 := Lib.hid hb3; clear hb3) | ((with_reducible refine (HLt.out _).mono ?_); rintro e w4 ⟨rfl, hb4⟩; have hb14 := bthen HB3.out hb4; have k0 := (hb14.cell (p := ⟨wr.heap.size, 0, none⟩) (by simp)).trans K0.out; have k1 := (hb14.cell (p := ⟨wr.heap.size, 1, none⟩) (by simp)).trans K1.out; have HO4 := Lib.hid (HO.out.go (bthen HW1.out hb14) hep hnp); have o1 := HO4.out.o1; have z1 := HO4.out.z1; have HP12 : Hid (wr.heap.size < w4.heap.size) := Lib.hid (by have := hb14.size; simp only [World.size_alloc] at this; omega); clear hb4 hb14))
                | (at_builtin; refine wpList_append_attrI rfl (.tmp 61) (.tmp 63) rfl w.heap.size (po + 1) hnp1 (.slice la an lc) A rfl X (.slice ua un uc) L[j].2 HO4.out.own (HUu.out.below HO4.out.bel (Nat.le_refl _)) rfl (by have := HAn.out; omega) HO4.out.size ?_; intro v6 w6 hown6 hb6 hg6; (obtain ⟨r6, m6, c6, rfl⟩ := ownI_sl hown6); skip; have HO6 := Lib.hid (HO4.out.put hown6 hb6 hep hnp); have s1 := (hb6.cell (p := ⟨po, 1, none⟩) (show po < po + 1 by omega)).trans HO4.out.o1; have s2 := (hb6.frozen (p := ⟨po, 1, none⟩) (show po < po + 1 by omega)).trans HO4.out.z1; clear hown6 hb6 hg6))
              go_roundw
              case rel => exact ⟨j + 1, false, by omega, rfl, rfl, _, _, HRj.out, by rw [List.length_append, ← HAn.out]; simp; omega, HO6.out⟩
              case measure => simp [intOf]; omega
            | true =>
              have hRp : ((A ++ [(S.data.toList, V)]) ++ [(X.data.toList, L[j].2)]) ++ runS t.data.toList (S.data.toList, V) true (L.drop (j + 1)) = A ++ runS t.data.toList (S.data.toList, V) false (L[j] :: L.drop (j + 1)) := by
                rw [runS_put hal hgg, HXl.out, List.append_assoc, List.append_assoc]; rfl
              rw [← hRp] at hRj
              have HRj := Lib.hid hRj
              have HR12 : Hid (some wr.heap.size ≠ (Value.slice la an lc).ownBlock) := Lib.hid (fun e => Nat.lt_irrefl _ (ownI_lt HO.out.own e.symm))
              clear hRj hal hgo hgg hRp
              go_upto_region 15 with (first
                | (go_at_call 42; first | ((with_reducible refine (HLx.out _).mono ?_); rintro e w3 ⟨rfl, hb3⟩; have HB3 := Lib.hid hb3; clear hb3) | ((with_reducible refine (HLt.out _).mono ?_); rintro e w4 ⟨rfl, hb4⟩; have hb14 := bthen HB3.out hb4; have k0 := (hb14.cell (p := ⟨wr.heap.size, 0, none⟩) (by simp)).trans K0.out; have k1 := (hb14.cell (p := ⟨wr.heap.size, 1, none⟩) (by simp)).trans K1.out; have HO4 := Lib.hid (HO.out.go (bthen HW1.out hb14) hep hnp); have o1 := HO4.out.o1; have z1 := HO4.out.z1; have HP12 : Hid (wr.heap.size < w4.heap.size) := Lib.hid (by have := hb14.size; simp only [World.size_alloc] at this; omega); clear hb4 hb14))
                | (at_builtin; refine wpList_append_attrI rfl (.tmp 53) (.tmp 57) rfl w.heap.size (po + 1) hnp1 (.slice la an lc) A rfl S (.slice va vn vc) V HO4.out.own (HVv.out.below HO4.out.bel (Nat.le_refl _)) rfl (by have := HAn.out; omega) HO4.out.size ?_; intro v6 w6 hown6 hb6 hg6; (obtain ⟨r6, m6, c6, rfl⟩ := ownI_sl hown6); have k2 := (box_over hg6 0 HP12.out HR12.out).trans k0; have k3 := (box_over hg6 1 HP12.out HR12.out).trans k1; have HO6 := Lib.hid (HO4.out.put hown6 hb6 hep hnp); have s1 := (hb6.cell (p := ⟨po, 1, none⟩) (show po < po + 1 by omega)).trans HO4.out.o1; have s2 := (hb6.frozen (p := ⟨po, 1, none⟩) (show po < po + 1 by omega)).trans HO4.out.z1; clear hown6 hb6 hg6))
              have e6 : (po = wr.heap.size) = False := eq_false (fun e => by have := HP12.out; have := HO.out.size; omega)
              have e6' : (wr.heap.size = po) = False := eq_false (fun e => by have := HO.out.size; omega)
              obtain ⟨W7, hW7⟩ : ∃ W, w6.setCell ⟨po, 1, none⟩ (.slice r6 m6 c6) = W := ⟨_, rfl⟩
              have k4 : W7.cell? ⟨wr.heap.size, 0, none⟩ = some (.string X) := by rw [← hW7, World.cell?_setCell_other _ _ _ _ (by simp)]; exact k2
              have k5 : W7.cell? ⟨wr.heap.size, 1, none⟩ = some (.slice ua un uc) := by rw [← hW7, World.cell?_setCell_other _ _ _ _ (by simp [e6, e6'])]; exact k3
              rw [hW7] at HO6 ⊢
              have HO7 := HO6
              have o2 := HO7.out.o1
              have z2 := HO7.out.z1
              clear hW7 k2 k3 s1 s2 k0 k1 o1 z1 HO4 HO6
              go_wp2_with (at_builtin; refine wpList_append_attrI rfl (.tmp 61) (.tmp 63) rfl w.heap.size (po + 1) hnp1 (.slice r6 m6 c6) (A ++ [(S.data.toList, V)]) rfl X (.slice ua un uc) L[j].2 HO7.out.own (HUu.out.below HO7.out.bel (Nat.le_refl _)) rfl (by have := HAn.out; have := hAl; (simp only [List.length_append, List.length_cons, List.length_nil]); omega) HO7.out.size ?_; intro v6 w6 hown6 hb6 hg6; (obtain ⟨r6, m6, c6, rfl⟩ := ownI_sl hown6); skip; have HO6 := Lib.hid (HO7.out.put hown6 hb6 hep hnp); have s1 := (hb6.cell (p := ⟨po, 1, none⟩) (show po < po + 1 by omega)).trans HO7.out.o1; have s2 := (hb6.frozen (p := ⟨po, 1, none⟩) (show po < po + 1 by omega)).trans HO7.out.z1; clear hown6 hb6 hg6)
              go_roundw
              case rel => exact ⟨j + 1, true, by omega, rfl, rfl, _, _, HRj.out, by rw [List.length_append, List.length_append, ← HAn.out]; simp; omega, HO6.out⟩
              case measure => simp [intOf]; omega
      · obtain rfl : j = n := by omega
        have t1 : decide ((j : Int) < (j : Int)) = false := by simp
        rw [List.drop_eq_nil_of_le (by rw [← HN.out]; exact Nat.le_refl _)] at hRj
        cases q with
        | true =>
          rw [runS_end, List.append_nil] at hRj
          have HRj := Lib.hid hRj
          have o0 := hO.o0
          have o1 := hO.o1
          obtain ⟨_, p0, p1, y0, y1⟩ := hO.box
          clear hRj hO han
          go_wp2
          refine bodyPost_ret (v := .agg #[.string d, .slice la an lc]) (by simp [results, Tryz.results11, go_sem, p0, p1]) rfl ⟨_, rfl, ?_, (HO.out.bel.setCell (p := ⟨w.heap.size + 1, 0, none⟩) (show w.heap.size ≤ w.heap.size + 1 by omega) _).setCell (p := ⟨w.heap.size + 1, 1, none⟩) (show w.heap.size ≤ w.heap.size + 1 by omega) _⟩
          have ho := ownI_set (ownI_set HO.out.own ⟨w.heap.size + 1, 0, none⟩ (.string d) (show w.heap.size + 1 < po + 1 by omega) (show w.heap.size ≤ w.heap.size + 1 by omega)) ⟨w.heap.size + 1, 1, none⟩ (.slice la an lc) (show w.heap.size + 1 < po + 1 by omega) (show w.heap.size ≤ w.heap.size + 1 by omega)
          have hz := HO.out.size
          rw [HRj.out] at ho
          exact ownI_isA ho HRl.out (by simp [World.setCell]; omega)
        | false =>
          have hRj2 : A ++ [(S.data.toList, V)] = R := hRj
          have HRj := Lib.hid hRj2
          have o1 := hO.o1
          have z1 := hO.z1
          clear hRj hRj2 hO han
          go_upto_region 18 with (at_builtin; refine wpList_append_attrI rfl (.tmp 69) (.tmp 73) rfl w.heap.size (po + 1) hnp1 (.slice la an lc) A rfl S (.slice va vn vc) V HO.out.own (HVv.out.below HO.out.bel (Nat.le_refl _)) rfl (by have := HAn.out; omega) HO.out.size ?_; intro v6 w6 hown6 hb6 hg6; (obtain ⟨r6, m6, c6, rfl⟩ := ownI_sl hown6); skip; have HO6 := Lib.hid (HO.out.put hown6 hb6 hep hnp); have s1 := (hb6.cell (p := ⟨po, 1, none⟩) (show po < po + 1 by omega)).trans HO.out.o1; have s2 := (hb6.frozen (p := ⟨po, 1, none⟩) (show po < po + 1 by omega)).trans HO.out.z1; clear hown6 hb6 hg6)
          obtain ⟨W7, hW7⟩ : ∃ W, w6.setCell ⟨po, 1, none⟩ (.slice r6 m6 c6) = W := ⟨_, rfl⟩
          rw [hW7] at HO6 ⊢
          have HO7 := HO6
          have o2 := HO7.out.o0
          have o3 := HO7.out.o1
          obtain ⟨_, p0, p1, y0, y1⟩ := HO7.out.box
          clear hW7 s1 s2 o1 z1 HO6
          go_wp2
          refine bodyPost_ret (v := .agg #[.string d, .slice r6 m6 c6]) (by simp [results, Tryz.results11, go_sem, p0, p1]) rfl ⟨_, rfl, ?_, (HO7.out.bel.setCell (p := ⟨w.heap.size + 1, 0, none⟩) (show w.heap.size ≤ w.heap.size + 1 by omega) _).setCell (p := ⟨w.heap.size + 1, 1, none⟩) (show w.heap.size ≤ w.heap.size + 1 by omega) _⟩
          have ho := ownI_set (ownI_set HO7.out.own ⟨w.heap.size + 1, 0, none⟩ (.string d) (show w.heap.size + 1 < po + 1 by omega) (show w.heap.size ≤ w.heap.size + 1 by omega)) ⟨w.heap.size + 1, 1, none⟩ (.slice r6 m6 c6) (show w.heap.size + 1 < po + 1 by omega) (show w.heap.size ≤ w.heap.size + 1 by omega)
          have hz := HO7.out.size
          rw [HRj.out] at ho
          exact ownI_isA ho HRl.out (by simp [World.setCell]; omega)
  · rw [hc2] at hca
    have HCa := Lib.hid hca
    have hRS2 := HRS.out
    rw [hc3] at hRS2
    have HRS2 := Lib.hid hRS2
    have hsz : ∀ j (h : j < L.length), L[j].1.length ≤ 281474976710656 := fun j hj => Nat.le_trans (hs.2 _ (List.getElem_mem hj)).1 (by omega)
    have HSz := Lib.hid hsz
    have HLt := Lib.hid (HLo.out t ht)
    clear h hs hm hcell hvm hRS hR hRl hn hvn hvv hc1 hc2 hc3 hca hq0 e0 hb0 heb hsz HRS HEb hRS2
    go_enter Tryz.func11, Tryz.ntmps11
    go_upto_region 7 with (go_at_call 41; refine (HCa.out _).mono ?_; rintro e w2 ⟨rfl, hb2⟩; have HB2 := Lib.hid hb2; have f1 := ((Below.refl w2.heap.size w2).alloc (Nat.le_refl _) (.cells #[.string ⟨#[]⟩, .bool false] 56)).cell (p := ⟨w.heap.size, 0, none⟩) (show w.heap.size < w2.heap.size by have := hb2.size; simp only [World.size_alloc] at this; omega); rw [(HBx.out.go hb2 (by simp)).1] at f1; clear hb2)
    have hz2 := HB2.out.size
    simp only [World.size_alloc] at hz2
    have hb25 : Below w2.heap.size w2 ((w2.alloc (.cells #[.string ⟨#[]⟩, .bool false] 56)).alloc (.cells #[.string d, .slice none 0 0] 24)) := ((Below.refl _ _).alloc (Nat.le_refl _) _).alloc (by simp) _
    have HSt : OutI w.heap.size w.heap.size (w2.heap.size + 1) d (.slice sa n sc) (.slice none 0 0) [] w ((w2.alloc (.cells #[.string ⟨#[]⟩, .bool false] 56)).alloc (.cells #[.string d, .slice none 0 0] 24)) := {
      e1 := (hb25.cell (p := ⟨w.heap.size, 1, none⟩) (show w.heap.size < w2.heap.size by omega)).trans ((HB2.out.cell (p := ⟨w.heap.size, 1, none⟩) (by simp; omega)).trans HE0.out)
      o0 := by simp
      o1 := by simp
      z1 := by simp
      own := ownI_nil _ _ _
      bel := HB0.out.trans ((HB2.out.mono HB0.out.size).trans (hb25.mono (by omega)))
      size := by simp
      box := (HBx.out.go HB2.out (by simp)).go hb25 (by omega) }
    generalize ((w2.alloc (.cells #[.string ⟨#[]⟩, .bool false] 56)).alloc (.cells #[.string d, .slice none 0 0] 24)) = W5 at HSt ⊢
    obtain ⟨po, hpo⟩ : ∃ p, p = w2.heap.size + 1 := ⟨_, rfl⟩
    rw [← hpo] at HSt ⊢
    have hep : w.heap.size + 1 < po := by omega
    have hnp : w.heap.size ≤ po := by omega
    have hnp1 : w.heap.size ≤ po + 1 := by omega
    have HSt := Lib.hid HSt
    clear hb25 hz2 f1 HB2 hpo
    go_wp2
    go_loopw [10, 11] (fun dq i wr => ∃ (j : Nat) (q : Bool), j ≤ n ∧ i = .int .i64 j ∧ dq = .bool q ∧ SetI w.heap.size w.heap.size po d (.slice sa n sc) t.data.toList (t.data.toList, V) L R w wr j q) (fun dq i wr => n - (intOf i).toNat)
    case atStart => exact ⟨0, q0, by omega, rfl, rfl, [], _, by rw [List.drop_zero]; exact HRS2.out, by simp, HSt.out⟩
    case round =>
      obtain ⟨j, q, hj, rfl, rfl, A, l, hRj, hAl, hO⟩ := hrel
      obtain ⟨la, lc, hl⟩ := ownI_slice hO.own
      obtain ⟨an, han⟩ : ∃ k, k = A.length := ⟨_, rfl⟩
      rw [← han] at hl hAl
      subst hl
      have HO := Lib.hid hO
      have HAn := Lib.hid han
      have e1 := hO.e1
      by_cases hlt : j < n
      · have t1 : decide ((j : Int) < (n : Int)) = true := by simp; omega
        have t1' : decide (j < n) = true := by simpa using hlt
        have hjl : j < L.length := by rw [← HN.out]; exact hlt
        rw [List.drop_eq_getElem_cons hjl] at hRj
        obtain ⟨b, off, u, rfl, hb0, c0, c1, hu⟩ := HC.out j hjl
        obtain ⟨ua, uc, hue, _⟩ := id hu
        obtain ⟨un, hun⟩ : ∃ k, k = L[j].2.length := ⟨_, rfl⟩
        rw [← hun] at hue
        subst hue
        clear hun
        obtain ⟨X, hX⟩ : ∃ X : ByteArray, ⟨L[j].1.toArray⟩ = X := ⟨_, rfl⟩
        have hXl : X.data.toList = L[j].1 := by rw [← hX]
        have d0 : wr.cell? ⟨b, off + j * 2, none⟩ = some (.string X) := by rw [hO.bel.cell (p := ⟨b, _, none⟩) hb0, c0, ← hX]; rfl
        have d1 := (hO.bel.cell (p := ⟨b, off + j * 2 + 1, none⟩) hb0).trans c1
        have HLx := Lib.hid (HLo.out X (by have := HSz.out j hjl; rw [← hXl, bytes_len] at this; exact this))
        have HW1 := Lib.hid ((Below.refl wr.heap.size wr).alloc (Nat.le_refl _) (.cells #[.string X, .slice ua un uc] 54))
        have hk0 : (wr.alloc (.cells #[.string X, .slice ua un uc] 54)).cell? ⟨wr.heap.size, 0, none⟩ = some (.string X) := by simp
        have hk1 : (wr.alloc (.cells #[.string X, .slice ua un uc] 54)).cell? ⟨wr.heap.size, 1, none⟩ = some (.slice ua un uc) := by simp
        have K0 := Lib.hid hk0
        have K1 := Lib.hid hk1
        have HUu := Lib.hid hu
        obtain ⟨al, hal⟩ : ∃ al, (low L[j].1 == low t.data.toList) = al := ⟨_, rfl⟩
        have t2 : ((lowB X).toList == (lowB t).toList) = al := by rw [ByteArray.toList_eq, ByteArray.toList_eq, lowB_list, lowB_list, hXl]; exact hal
        have HXl := Lib.hid hXl
        clear hO han c0 c1 hu hX hXl hk0 hk1 hb0
        cases al with
        | true =>
          rw [runS_skip hal] at hRj
          have HRj := Lib.hid hRj
          clear hRj hal
          go_wp2_with (go_at_call 42; first | ((with_reducible refine (HLx.out _).mono ?_); rintro e w3 ⟨rfl, hb3⟩; have HB3 := Lib.hid hb3; clear hb3) | ((with_reducible refine (HLt.out _).mono ?_); rintro e w4 ⟨rfl, hb4⟩; have hb14 := bthen HB3.out hb4; have k0 := (hb14.cell (p := ⟨wr.heap.size, 0, none⟩) (by simp)).trans K0.out; have k1 := (hb14.cell (p := ⟨wr.heap.size, 1, none⟩) (by simp)).trans K1.out; have HO4 := Lib.hid (HO.out.go (bthen HW1.out hb14) hep hnp); have o1 := HO4.out.o1; have z1 := HO4.out.z1; have HP12 : Hid (wr.heap.size < w4.heap.size) := Lib.hid (by have := hb14.size; simp only [World.size_alloc] at this; omega); clear hb4 hb14))
          go_roundw
          case rel => exact ⟨j + 1, q, by omega, rfl, rfl, A, _, HRj.out, by rw [← HAn.out]; omega, HO4.out⟩
          case measure => simp [intOf]; omega
        | false =>
          have hgo : ∀ q, q = true ∨ gtB L[j].1 t.data.toList = false → (A ++ [(X.data.toList, L[j].2)]) ++ runS t.data.toList (t.data.toList, V) q (L.drop (j + 1)) = A ++ runS t.data.toList (t.data.toList, V) q (L[j] :: L.drop (j + 1)) := fun q hq => by
            rw [runS_on hal hq, HXl.out, List.append_assoc]; rfl
          cases q with
          | true =>
            rw [← hgo true (.inl rfl)] at hRj
            have HRj := Lib.hid hRj
            clear hRj hal hgo
            go_wp2_with (first
              | (go_at_call 42; first | ((with_reducible refine (HLx.out _).mono ?_); rintro e w3 ⟨rfl, hb3⟩; have HB3 := Lib.hid hb3; clear hb3) | ((with_reducible refine (HLt.out _).mono ?_); rintro e w4 ⟨rfl, hb4⟩; have hb14 := bthen HB3.out hb4; have k0 := (hb14.cell (p := ⟨wr.heap.size, 0, none⟩) (by simp)).trans K0.out; have k1 := (hb14.cell (p := ⟨wr.heap.size, 1, none⟩) (by simp)).trans K1.out; have HO4 := Lib.hid (HO.out.go (bthen HW1.out hb14) hep hnp); have o1 := HO4.out.o1; have z1 := HO4.out.z1; have HP12 : Hid (wr.heap.size < w4.heap.size) := Lib.hid (by have := hb14.size; simp only [World.size_alloc] at this; omega); clear hb4 hb14))
              | (at_builtin; refine wpList_append_attrI rfl (.tmp 61) (.tmp 63) rfl w.heap.size (po + 1) hnp1 (.slice la an lc) A rfl X (.slice ua un uc) L[j].2 HO4.out.own (HUu.out.below HO4.out.bel (Nat.le_refl _)) rfl (by have := HAn.out; omega) HO4.out.size ?_; intro v6 w6 hown6 hb6 hg6; (obtain ⟨r6, m6, c6, rfl⟩ := ownI_sl hown6); skip; have HO6 := Lib.hid (HO4.out.put hown6 hb6 hep hnp); have s1 := (hb6.cell (p := ⟨po, 1, none⟩) (show po < po + 1 by omega)).trans HO4.out.o1; have s2 := (hb6.frozen (p := ⟨po, 1, none⟩) (show po < po + 1 by omega)).trans HO4.out.z1; clear hown6 hb6 hg6))
            go_roundw
            case rel => exact ⟨j + 1, true, by omega, rfl, rfl, _, _, HRj.out, by rw [List.length_append, ← HAn.out]; simp; omega, HO6.out⟩
            case measure => simp [intOf]; omega
          | false =>
            obtain ⟨gg, hgg⟩ : ∃ gg, gtB L[j].1 t.data.toList = gg := ⟨_, rfl⟩
            have t3 : (!Op.bytesLess X.toList t.toList && !(X.toList == t.toList)) = gg := by
              rw [← hgg]; unfold gtB; rw [ByteArray.toList_eq, ByteArray.toList_eq, HXl.out]
            cases gg with
            | false =>
              rw [← hgo false (.inr hgg)] at hRj
              have HRj := Lib.hid hRj
              clear hRj hal hgo hgg
              go_wp2_with (first
                | (go_at_call 42; first | ((with_reducible refine (HLx.out _).mono ?_); rintro e w3 ⟨rfl, hb3⟩; have HB3 := Lib.hid hb3; clear hb3) | ((with_reducible refine (HLt.out _).mono ?_); rintro e w4 ⟨rfl, hb4⟩; have hb14 := bthen HB3.out hb4; have k0 := (hb14.cell (p := ⟨wr.heap.size, 0, none⟩) (by simp)).trans K0.out; have k1 := (hb14.cell (p := ⟨wr.heap.size, 1, none⟩) (by simp)).trans K1.out; have HO4 := Lib.hid (HO.out.go (bthen HW1.out hb14) hep hnp); have o1 := HO4.out.o1; have z1 := HO4.out.z1; have HP12 : Hid (wr.heap.size < w4.heap.size) := Lib.hid (by have := hb14.size; simp only [World.size_alloc] at this; omega); clear hb4 hb14))
                | (at_builtin; refine wpList_append_attrI rfl (.tmp 61) (.tmp 63) rfl w.heap.size (po + 1) hnp1 (.slice la an lc) A rfl X (.slice ua un uc) L[j].2 HO4.out.own (HUu.out.below HO4.out.bel (Nat.le_refl _)) rfl (by have := HAn.out; omega) HO4.out.size ?_; intro v6 w6 hown6 hb6 hg6; (obtain ⟨r6, m6, c6, rfl⟩ := ownI_sl hown6); skip; have HO6 := Lib.hid (HO4.out.put hown6 hb6 hep hnp); have s1 := (hb6.cell (p := ⟨po, 1, none⟩) (show po < po + 1 by omega)).trans HO4.out.o1; have s2 := (hb6.frozen (p := ⟨po, 1, none⟩) (show po < po + 1 by omega)).trans HO4.out.z1; clear hown6 hb6 hg6))
              go_roundw
              case rel => exact ⟨j + 1, false, by omega, rfl, rfl, _, _, HRj.out, by rw [List.length_append, ← HAn.out]; simp; omega, HO6.out⟩
              case measure => simp [intOf]; omega
            | true =>
              have hRp : ((A ++ [(t.data.toList, V)]) ++ [(X.data.toList, L[j].2)]) ++ runS t.data.toList (t.data.toList, V) true (L.drop (j + 1)) = A ++ runS t.data.toList (t.data.toList, V) false (L[j] :: L.drop (j + 1)) := by
                rw [runS_put hal hgg, HXl.out, List.append_assoc, List.append_assoc]; rfl
              rw [← hRp] at hRj
              have HRj := Lib.hid hRj
              have HR12 : Hid (some wr.heap.size ≠ (Value.slice la an lc).ownBlock) := Lib.hid (fun e => Nat.lt_irrefl _ (ownI_lt HO.out.own e.symm))
              clear hRj hal hgo hgg hRp
              go_upto_region 15 with (first
                | (go_at_call 42; first | ((with_reducible refine (HLx.out _).mono ?_); rintro e w3 ⟨rfl, hb3⟩; have HB3 := Lib.hid hb3; clear hb3) | ((with_reducible refine (HLt.out _).mono ?_); rintro e w4 ⟨rfl, hb4⟩; have hb14 := bthen HB3.out hb4; have k0 := (hb14.cell (p := ⟨wr.heap.size, 0, none⟩) (by simp)).trans K0.out; have k1 := (hb14.cell (p := ⟨wr.heap.size, 1, none⟩) (by simp)).trans K1.out; have HO4 := Lib.hid (HO.out.go (bthen HW1.out hb14) hep hnp); have o1 := HO4.out.o1; have z1 := HO4.out.z1; have HP12 : Hid (wr.heap.size < w4.heap.size) := Lib.hid (by have := hb14.size; simp only [World.size_alloc] at this; omega); clear hb4 hb14))
                | (at_builtin; refine wpList_append_attrI rfl (.tmp 53) (.tmp 57) rfl w.heap.size (po + 1) hnp1 (.slice la an lc) A rfl t (.slice va vn vc) V HO4.out.own (HVv.out.below HO4.out.bel (Nat.le_refl _)) rfl (by have := HAn.out; omega) HO4.out.size ?_; intro v6 w6 hown6 hb6 hg6; (obtain ⟨r6, m6, c6, rfl⟩ := ownI_sl hown6); have k2 := (box_over hg6 0 HP12.out HR12.out).trans k0; have k3 := (box_over hg6 1 HP12.out HR12.out).trans k1; have HO6 := Lib.hid (HO4.out.put hown6 hb6 hep hnp); have s1 := (hb6.cell (p := ⟨po, 1, none⟩) (show po < po + 1 by omega)).trans HO4.out.o1; have s2 := (hb6.frozen (p := ⟨po, 1, none⟩) (show po < po + 1 by omega)).trans HO4.out.z1; clear hown6 hb6 hg6))
              have e6 : (po = wr.heap.size) = False := eq_false (fun e => by have := HP12.out; have := HO.out.size; omega)
              have e6' : (wr.heap.size = po) = False := eq_false (fun e => by have := HO.out.size; omega)
              obtain ⟨W7, hW7⟩ : ∃ W, w6.setCell ⟨po, 1, none⟩ (.slice r6 m6 c6) = W := ⟨_, rfl⟩
              have k4 : W7.cell? ⟨wr.heap.size, 0, none⟩ = some (.string X) := by rw [← hW7, World.cell?_setCell_other _ _ _ _ (by simp)]; exact k2
              have k5 : W7.cell? ⟨wr.heap.size, 1, none⟩ = some (.slice ua un uc) := by rw [← hW7, World.cell?_setCell_other _ _ _ _ (by simp [e6, e6'])]; exact k3
              rw [hW7] at HO6 ⊢
              have HO7 := HO6
              have o2 := HO7.out.o1
              have z2 := HO7.out.z1
              clear hW7 k2 k3 s1 s2 k0 k1 o1 z1 HO4 HO6
              go_wp2_with (at_builtin; refine wpList_append_attrI rfl (.tmp 61) (.tmp 63) rfl w.heap.size (po + 1) hnp1 (.slice r6 m6 c6) (A ++ [(t.data.toList, V)]) rfl X (.slice ua un uc) L[j].2 HO7.out.own (HUu.out.below HO7.out.bel (Nat.le_refl _)) rfl (by have := HAn.out; have := hAl; (simp only [List.length_append, List.length_cons, List.length_nil]); omega) HO7.out.size ?_; intro v6 w6 hown6 hb6 hg6; (obtain ⟨r6, m6, c6, rfl⟩ := ownI_sl hown6); skip; have HO6 := Lib.hid (HO7.out.put hown6 hb6 hep hnp); have s1 := (hb6.cell (p := ⟨po, 1, none⟩) (show po < po + 1 by omega)).trans HO7.out.o1; have s2 := (hb6.frozen (p := ⟨po, 1, none⟩) (show po < po + 1 by omega)).trans HO7.out.z1; clear hown6 hb6 hg6)
              go_roundw
              case rel => exact ⟨j + 1, true, by omega, rfl, rfl, _, _, HRj.out, by rw [List.length_append, List.length_append, ← HAn.out]; simp; omega, HO6.out⟩
              case measure => simp [intOf]; omega
      · obtain rfl : j = n := by omega
        have t1 : decide ((j : Int) < (j : Int)) = false := by simp
        rw [List.drop_eq_nil_of_le (by rw [← HN.out]; exact Nat.le_refl _)] at hRj
        cases q with
        | true =>
          rw [runS_end, List.append_nil] at hRj
          have HRj := Lib.hid hRj
          have o0 := hO.o0
          have o1 := hO.o1
          obtain ⟨_, p0, p1, y0, y1⟩ := hO.box
          clear hRj hO han
          go_wp2
          refine bodyPost_ret (v := .agg #[.string d, .slice la an lc]) (by simp [results, Tryz.results11, go_sem, p0, p1]) rfl ⟨_, rfl, ?_, (HO.out.bel.setCell (p := ⟨w.heap.size + 1, 0, none⟩) (show w.heap.size ≤ w.heap.size + 1 by omega) _).setCell (p := ⟨w.heap.size + 1, 1, none⟩) (show w.heap.size ≤ w.heap.size + 1 by omega) _⟩
          have ho := ownI_set (ownI_set HO.out.own ⟨w.heap.size + 1, 0, none⟩ (.string d) (show w.heap.size + 1 < po + 1 by omega) (show w.heap.size ≤ w.heap.size + 1 by omega)) ⟨w.heap.size + 1, 1, none⟩ (.slice la an lc) (show w.heap.size + 1 < po + 1 by omega) (show w.heap.size ≤ w.heap.size + 1 by omega)
          have hz := HO.out.size
          rw [HRj.out] at ho
          exact ownI_isA ho HRl.out (by simp [World.setCell]; omega)
        | false =>
          have hRj2 : A ++ [(t.data.toList, V)] = R := hRj
          have HRj := Lib.hid hRj2
          have o1 := hO.o1
          have z1 := hO.z1
          clear hRj hRj2 hO han
          go_upto_region 18 with (at_builtin; refine wpList_append_attrI rfl (.tmp 69) (.tmp 73) rfl w.heap.size (po + 1) hnp1 (.slice la an lc) A rfl t (.slice va vn vc) V HO.out.own (HVv.out.below HO.out.bel (Nat.le_refl _)) rfl (by have := HAn.out; omega) HO.out.size ?_; intro v6 w6 hown6 hb6 hg6; (obtain ⟨r6, m6, c6, rfl⟩ := ownI_sl hown6); skip; have HO6 := Lib.hid (HO.out.put hown6 hb6 hep hnp); have s1 := (hb6.cell (p := ⟨po, 1, none⟩) (show po < po + 1 by omega)).trans HO.out.o1; have s2 := (hb6.frozen (p := ⟨po, 1, none⟩) (show po < po + 1 by omega)).trans HO.out.z1; clear hown6 hb6 hg6)
          obtain ⟨W7, hW7⟩ : ∃ W, w6.setCell ⟨po, 1, none⟩ (.slice r6 m6 c6) = W := ⟨_, rfl⟩
          rw [hW7] at HO6 ⊢
          have HO7 := HO6
          have o2 := HO7.out.o0
          have o3 := HO7.out.o1
          obtain ⟨_, p0, p1, y0, y1⟩ := HO7.out.box
          clear hW7 s1 s2 o1 z1 HO6
          go_wp2
          refine bodyPost_ret (v := .agg #[.string d, .slice r6 m6 c6]) (by simp [results, Tryz.results11, go_sem, p0, p1]) rfl ⟨_, rfl, ?_, (HO7.out.bel.setCell (p := ⟨w.heap.size + 1, 0, none⟩) (show w.heap.size ≤ w.heap.size + 1 by omega) _).setCell (p := ⟨w.heap.size + 1, 1, none⟩) (show w.heap.size ≤ w.heap.size + 1 by omega) _⟩
          have ho := ownI_set (ownI_set HO7.out.own ⟨w.heap.size + 1, 0, none⟩ (.string d) (show w.heap.size + 1 < po + 1 by omega) (show w.heap.size ≤ w.heap.size + 1 by omega)) ⟨w.heap.size + 1, 1, none⟩ (.slice r6 m6 c6) (show w.heap.size + 1 < po + 1 by omega) (show w.heap.size ≤ w.heap.size + 1 by omega)
          have hz := HO7.out.size
          rw [HRj.out] at ho
          exact ownI_isA ho HRl.out (by simp [World.setCell]; omega)
end Go.Proofs.YtlimajgmdhhggaaGreatDoor

