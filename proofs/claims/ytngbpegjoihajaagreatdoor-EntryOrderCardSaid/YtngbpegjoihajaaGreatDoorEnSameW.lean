/- entry.sameAttr, Same; slices.EqualFunc of attributes; the document's SameEntry: the walks. -/
import Derived.Test.YtngbpegjoihajaaGreatDoorEnSame
namespace Go.Proofs.YtngbpegjoihajaaGreatDoor
open Go.RowKit
set_option linter.unusedVariables false

theorem IsT.sl {n : Nat} {w : World} {L : List (List UInt8)} {v : Value} (h : IsT n w L v) : ∃ a k c, v = .slice a k c := by
  obtain ⟨a, c, hv, _⟩ := h; exact ⟨a, _, c, hv⟩
theorem IsA.sl {n : Nat} {w : World} {L : List AT} {v : Value} (h : IsA n w L v) : ∃ a k c, v = .slice a k c := by
  obtain ⟨a, c, hv, _⟩ := h; exact ⟨a, _, c, hv⟩
set_option maxRecDepth 100000 in
set_option maxHeartbeats 2000000 in
theorem sameAttr_any (X Y : ByteArray) (A B : List (List UInt8)) (u v : Value) (hs : A.length ≤ 1000000) (w : World) (hu : IsT w.heap.size w A u) (hv : IsT w.heap.size w B v) :
    Calls Tryz.prog 71 #[.agg #[.string X, u], .agg #[.string Y, v]] w fun e w' => e = .returned (.bool ((X.data.toList, A) == (Y.data.toList, B))) ∧ Below w.heap.size w w' := by
  obtain ⟨ua, un, uc, rfl⟩ := hu.sl
  obtain ⟨va, vn, vc, rfl⟩ := hv.sl
  have hb : Below w.heap.size w ((w.alloc (.cells #[.string X, .slice ua un uc] 42)).alloc (.cells #[.string Y, .slice va vn vc] 42)) := ((Below.refl _ _).alloc (Nat.le_refl _) _).alloc (by simp) _
  have HB := Lib.hid hb
  have HU := Lib.hid hu
  have HV := Lib.hid hv
  obtain ⟨R, hR⟩ : ∃ R, R = ((X.data.toList, A) == (Y.data.toList, B)) := ⟨_, rfl⟩
  rw [← hR]
  have HR := Lib.hid hR
  clear hb hu hv hR
  by_cases he : X = Y
  · subst he
    obtain ⟨g, hg⟩ : ∃ g, g = (A == B) := ⟨_, rfl⟩
    have HF : Hid (R = g) := Lib.hid (HR.out.trans (by rw [hg]; show (X.data.toList == X.data.toList && A == B) = _; simp))
    have HG := Lib.hid hg
    clear hg
    go_enter Tryz.func71, Tryz.ntmps71
    go_wp2_with (go_at_call 107; refine (equalT_any A B hs (.slice ua un uc) (.slice va vn vc) _ (HU.out.below HB.out HB.out.size) (HV.out.below HB.out HB.out.size)).mono ?_; rintro e w2 ⟨he, hb2⟩; rw [← HG.out] at he; subst he; have HB2 := Lib.hid (HB.out.trans (hb2.mono HB.out.size)); clear hb2)
    go_ret
    exact ⟨by rw [HF.out]; rfl, HB2.out⟩
  · have t1 := str_ne he
    have HF : Hid (R = false) := Lib.hid (HR.out.trans (by
      show (X.data.toList == Y.data.toList && A == B) = false
      have : (X.data.toList == Y.data.toList) = false := by
        have : X.data.toList ≠ Y.data.toList := fun e => he (bytes_ext e)
        simpa using this
      rw [this]; rfl))
    clear he
    go_enter Tryz.func71, Tryz.ntmps71
    go_wp2
    go_ret
    exact ⟨by rw [HF.out]; rfl, HB.out⟩

set_option maxRecDepth 100000 in
set_option maxHeartbeats 4000000 in
theorem equalA_any (L M : List AT) (hs : smallA L) (v u : Value) (w : World) (hL : IsA w.heap.size w L v) (hM : IsA w.heap.size w M u) :
    Calls Tryz.prog 70 #[v, u, .func (.func 71) #[] #[]] w fun e w' => e = .returned (.bool (L == M)) ∧ Below w.heap.size w w' := by
  obtain ⟨a, c, rfl, hm, hcell⟩ := hL
  obtain ⟨b, d, rfl, hm2, hcell2⟩ := hM
  unfold maxLen at hm hm2
  have HC := Lib.hid hcell
  have HD := Lib.hid hcell2
  obtain ⟨R, hR⟩ : ∃ R, R = (L == M) := ⟨_, rfl⟩
  rw [← hR]
  have HR := Lib.hid hR
  have HS := Lib.hid hs
  clear hcell hcell2 hR
  by_cases hlen : L.length = M.length
  · obtain ⟨n, hn⟩ : ∃ n, n = L.length := ⟨_, rfl⟩
    have hn2 : n = M.length := hn.trans hlen
    have HN := Lib.hid hn
    have HN2 := Lib.hid hn2
    have hn5 : n ≤ 1000000 := by have := hs.1; omega
    rw [← hn, ← hn2]
    clear hlen hn hn2 hm hm2 hs
    go_enter Tryz.func70, Tryz.ntmps70
    go_wp2
    go_loopw [17] (fun i wr => ∃ j : Nat, j ≤ n ∧ i = .int .i64 j ∧ Hid (∀ k (h1 : k < L.length) (h2 : k < M.length), k < j → L[k] = M[k]) ∧ Below w.heap.size w wr) (fun i wr => n - (intOf i).toNat)
    case atStart => exact ⟨0, by omega, rfl, Lib.hid (fun k _ _ h => absurd h (by omega)), Below.refl _ _⟩
    case round =>
      obtain ⟨j, hj, rfl, HAll, hbel⟩ := hrel
      have HBel := Lib.hid hbel
      have hbs := hbel.size
      by_cases hlt : j < n
      · have t1 : decide ((j : Int) < (n : Int)) = true := by simp; omega
        have t1' : decide (j < n) = true := by simpa using hlt
        have q1 : (j : Int) < (n : Int) := by omega
        have hl1 : j < L.length := by rw [← HN.out]; exact hlt
        have hl2 : j < M.length := by rw [← HN2.out]; exact hlt
        obtain ⟨b1, f1, x, rfl, hb1, x0, x1, hx⟩ := HC.out j hl1
        obtain ⟨b2, f2, y, rfl, hb2, y0, y1, hy⟩ := HD.out j hl2
        obtain ⟨xa, xn, xc, rfl⟩ := hx.sl
        obtain ⟨ya, yn, yc, rfl⟩ := hy.sl
        obtain ⟨X, hX⟩ : ∃ X : ByteArray, ofL L[j].1 = X := ⟨_, rfl⟩
        obtain ⟨Y, hY⟩ : ∃ Y : ByteArray, ofL M[j].1 = Y := ⟨_, rfl⟩
        have gX : X.data.toList = L[j].1 := by rw [← hX, ofL_list]
        have gY : Y.data.toList = M[j].1 := by rw [← hY, ofL_list]
        have d0 : wr.cell? ⟨b1, f1 + j * 2, none⟩ = some (.string X) := by rw [hbel.cell (p := ⟨b1, _, none⟩) hb1, x0, ← hX]; rfl
        have d1 := (hbel.cell (p := ⟨b1, f1 + j * 2 + 1, none⟩) hb1).trans x1
        have hal : Below wr.heap.size wr (wr.alloc (.cells #[.string X, .slice xa xn xc] 42)) := (Below.refl _ _).alloc (Nat.le_refl _) _
        have e0 : (wr.alloc (.cells #[.string X, .slice xa xn xc] 42)).cell? ⟨b2, f2 + j * 2, none⟩ = some (.string Y) := by rw [hal.cell (p := ⟨b2, _, none⟩) (Nat.lt_of_lt_of_le hb2 hbs), hbel.cell (p := ⟨b2, _, none⟩) hb2, y0, ← hY]; rfl
        have e1 : (wr.alloc (.cells #[.string X, .slice xa xn xc] 42)).cell? ⟨b2, f2 + j * 2 + 1, none⟩ = some (.slice ya yn yc) := by rw [hal.cell (p := ⟨b2, _, none⟩) (Nat.lt_of_lt_of_le hb2 hbs), hbel.cell (p := ⟨b2, _, none⟩) hb2, y1]
        have h0 : ((wr.alloc (.cells #[.string X, .slice xa xn xc] 42)).alloc (.cells #[.string Y, .slice ya yn yc] 42)).cell? ⟨wr.heap.size, 0, none⟩ = some (.string X) := by rw [World.cell?_alloc_lt _ _ _ (by simp)]; simp
        have h1 : ((wr.alloc (.cells #[.string X, .slice xa xn xc] 42)).alloc (.cells #[.string Y, .slice ya yn yc] 42)).cell? ⟨wr.heap.size, 1, none⟩ = some (.slice xa xn xc) := by rw [World.cell?_alloc_lt _ _ _ (by simp)]; simp
        have hb2' : Below wr.heap.size wr ((wr.alloc (.cells #[.string X, .slice xa xn xc] 42)).alloc (.cells #[.string Y, .slice ya yn yc] 42)) := hal.alloc (by simp) _
        have HBB := Lib.hid (HBel.out.trans (hb2'.mono hbs))
        have hsa := sameAttr_any X Y L[j].2 M[j].2 (.slice xa xn xc) (.slice ya yn yc) (by have := (HS.out.2 L[j] (List.getElem_mem _)).2.1; omega) _ (hx.below HBB.out HBB.out.size) (hy.below HBB.out HBB.out.size)
        rw [gX, gY] at hsa
        obtain ⟨g, hg⟩ : ∃ g, g = ((L[j].1, L[j].2) == (M[j].1, M[j].2)) := ⟨_, rfl⟩
        rw [← hg] at hsa
        have HSa := Lib.hid hsa
        have hgl : g = (L[j] == M[j]) := hg
        cases g with
        | true =>
          have heq : L[j] = M[j] := by simpa using hgl.symm
          have HN1 : Hid (∀ k (h1 : k < L.length) (h2 : k < M.length), k < j + 1 → L[k] = M[k]) := Lib.hid (fun k h1 h2 h3 => by
            by_cases hk : k < j
            · exact HAll.out k h1 h2 hk
            · obtain rfl : k = j := by omega
              exact heq)
          clear heq hgl hg hsa x0 x1 y0 y1 hX hY gX gY hbel hal hb2' hx hy hl1 hl2
          go_wp2_with (go_at_call 71; refine (HSa.out).mono ?_; rintro e w2 ⟨rfl, hb2⟩; have HB2 := Lib.hid (HBB.out.trans (hb2.mono HBB.out.size)); clear hb2)
          go_roundw
          case rel => exact ⟨j + 1, by omega, by go_num, HN1, HB2.out⟩
          case measure => simp [intOf]; omega
        | false =>
          have hne : L[j] ≠ M[j] := by simpa using hgl.symm
          have HF : Hid (R = false) := Lib.hid (HR.out.trans (by
            have : L ≠ M := fun e => by subst e; exact hne rfl
            simpa using this))
          clear hne hgl hg hsa x0 x1 y0 y1 hX hY gX gY hbel hal hb2' hx hy hl1 hl2
          go_wp2_with (go_at_call 71; refine (HSa.out).mono ?_; rintro e w2 ⟨rfl, hb2⟩; have HB2 := Lib.hid (HBB.out.trans (hb2.mono HBB.out.size)); clear hb2)
          go_ret
          exact ⟨by rw [HF.out]; rfl, HB2.out⟩
      · obtain rfl : j = n := by omega
        have t1 : decide ((j : Int) < (j : Int)) = false := by simp
        have t1' : decide (j < j) = false := by simp
        have HF : Hid (R = true) := Lib.hid (HR.out.trans (by
          have : L = M := List.ext_getElem (by rw [← HN.out, ← HN2.out]) (fun k h1 h2 => HAll.out k h1 h2 (by rw [HN.out]; exact h1))
          simp [this]))
        clear hbel
        go_wp2
        go_ret
        exact ⟨by rw [HF.out]; rfl, HBel.out⟩
  · have t0 : ((L.length : Int) != (M.length : Int)) = true := by simp; omega
    have HF : Hid (R = false) := Lib.hid (HR.out.trans (by
      have : L ≠ M := fun e => hlen (by rw [e])
      simpa using this))
    clear hlen
    go_enter Tryz.func70, Tryz.ntmps70
    go_wp2
    go_ret
    exact ⟨by rw [HF.out]; rfl, Below.refl _ _⟩
end Go.Proofs.YtngbpegjoihajaaGreatDoor
