/- entry.without: the walk. -/
import Derived.Test.YtngbpegjoihajaaGreatDoorEnOwn
namespace Go.Proofs.YtngbpegjoihajaaGreatDoor
open Go.RowKit
set_option linter.unusedVariables false

theorem ownA_lt {B : Nat} {w : World} {v : Value} {L : List AT} (h : OwnA B w v L) (g : Nat) (e : v.ownBlock = some g) : g < w.heap.size := by
  obtain ⟨P, h1, _⟩ := h
  exact (World.ownsRow.lt h1 g e).2
def withoutA (L : List AT) (t : List UInt8) : List AT := L.filter (fun a => !(low a.1 == low t))
theorem without_more {L : List AT} {t : List UInt8} {j : Nat} (h : j < L.length) : withoutA (L.take (j + 1)) t = withoutA (L.take j) t ++ (if (low L[j].1 == low t) = true then [] else [L[j]]) := by
  unfold withoutA
  rw [List.take_succ_eq_append_getElem h, List.filter_append]
  congr 1
  cases e : (low L[j].1 == low t) <;> simp [List.filter, e]
theorem without_len (L : List AT) (t : List UInt8) (j : Nat) : (withoutA (L.take j) t).length ≤ j :=
  Nat.le_trans (List.length_filter_le _ _) (List.length_take_le _ _)

set_option maxRecDepth 100000 in
set_option maxHeartbeats 4000000 in
theorem without_any (L : List AT) (hs : smallA L) (v : Value) (t : ByteArray) (w : World) (h : IsA w.heap.size w L v) :
    Calls Tryz.prog 66 #[v, .string t] w fun e w' => ∃ u, e = .returned u ∧ OwnA w.heap.size w' u (withoutA L t.data.toList) ∧ Below w.heap.size w w' := by
  obtain ⟨a, c, rfl, hm, hcell⟩ := h
  unfold maxLen at hm
  have HC := Lib.hid hcell
  have HS := Lib.hid hs
  have hL := hs.1
  clear hcell hs
  go_enter Tryz.func66, Tryz.ntmps66
  go_wp2
  go_loopw [5, 10] (fun l i wr => ∃ j : Nat, j ≤ L.length ∧ i = .int .i64 j ∧ OwnA w.heap.size wr l (withoutA (L.take j) t.data.toList) ∧ Below w.heap.size w wr) (fun _ i wr => L.length - (intOf i).toNat)
  case atStart => exact ⟨0, by omega, rfl, ownA_nil _ _, Below.refl _ _⟩
  case round =>
    obtain ⟨j, hj, rfl, hown, hbel⟩ := hrel
    have HBel := Lib.hid hbel
    have hbs := hbel.size
    obtain ⟨la, lc, hlv⟩ := ownA_slice hown
    obtain ⟨W, hW⟩ : ∃ W, withoutA (L.take j) t.data.toList = W := ⟨_, rfl⟩
    have hWl := without_len L t.data.toList j
    rw [hW] at hown hlv hWl
    obtain ⟨ln, hln⟩ : ∃ n, n = W.length := ⟨_, rfl⟩
    rw [← hln] at hlv
    subst hlv
    have HLn := Lib.hid hln
    clear hln
    have HOwn := Lib.hid hown
    by_cases hlt : j < L.length
    · have t1 : decide ((j : Int) < (L.length : Int)) = true := by simp; omega
      have t1' : decide (j < L.length) = true := by simpa using hlt
      obtain ⟨b, off, u, rfl, hb0, c0, c1, ht⟩ := HC.out j hlt
      obtain ⟨ua, uc, hu, _⟩ := id ht
      obtain ⟨un, hun⟩ : ∃ n, n = L[j].2.length := ⟨_, rfl⟩
      rw [← hun] at hu
      subst hu
      clear hun
      have HT := Lib.hid ht
      obtain ⟨X, hX⟩ : ∃ X : ByteArray, ⟨L[j].1.toArray⟩ = X := ⟨_, rfl⟩
      have hXl : X.data.toList = L[j].1 := by rw [← hX]
      have d0 : (wr.cell? ⟨b, off + j * 2, none⟩) = some (.string X) := by
        rw [hbel.cell (p := ⟨b, _, none⟩) hb0, c0, ← hX]; rfl
      have d1 := (hbel.cell (p := ⟨b, off + j * 2 + 1, none⟩) hb0).trans c1
      have hXs : X.size ≤ 281474976710656 := by
        have := (HS.out.2 L[j] (List.getElem_mem _)).1
        rw [← bytes_len, hXl]; omega
      have hsl := fun w => sameLetters_any X t hXs w
      rw [hXl] at hsl
      have hnew := without_more (t := t.data.toList) hlt
      rw [hW] at hnew
      obtain ⟨g, hg⟩ : ∃ g, (low L[j].1 == low t.data.toList) = g := ⟨_, rfl⟩
      rw [hg] at hsl hnew
      have HSl := Lib.hid hsl
      have HA := Lib.hid (Below.alloc hbel hbs (.cells #[.string X, .slice ua un uc] 42))
      have HA0 := Lib.hid (Below.alloc (Below.refl wr.heap.size wr) (Nat.le_refl _) (.cells #[.string X, .slice ua un uc] 42))
      have hst := (HS.out.2 L[j] (List.getElem_mem _)).2
      have HST := Lib.hid hst
      have HXl := Lib.hid hXl
      have HCl := Lib.hid (fun w => clone_any X w hXs)
      clear hX hXl c0 c1 hsl hbel ht hg hown hst
      cases g with
      | true =>
        simp only [if_true, List.append_nil] at hnew
        have HN := Lib.hid hnew
        clear hnew
        go_wp2_with (go_at_call 100; refine (HSl.out _).mono ?_; rintro e w2 ⟨rfl, hb2⟩; have HB2 := Lib.hid (HA.out.trans (hb2.mono (by simp; omega))); have HO2 := Lib.hid (ownA_below HOwn.out (HA0.out.trans (hb2.mono (by simp)))); clear hb2)
        go_roundw
        case rel => exact ⟨j + 1, by omega, by go_num, by rw [HN.out]; exact HO2.out, HB2.out⟩
        case measure => simp [intOf]; omega
      | false =>
        simp only [Bool.false_eq_true, if_false] at hnew
        have HN := Lib.hid hnew
        clear hnew
        go_wp2_with (go_at_call 100; refine (HSl.out _).mono ?_; rintro e w2 ⟨rfl, hb2⟩; have f0 : w2.cell? ⟨wr.heap.size, 0, none⟩ = some (.string X) := by { rw [hb2.cell (p := ⟨wr.heap.size, 0, none⟩) (by simp)]; simp }; have f1 : w2.cell? ⟨wr.heap.size, 1, none⟩ = some (.slice ua un uc) := by { rw [hb2.cell (p := ⟨wr.heap.size, 1, none⟩) (by simp)]; simp }; have hz2 : wr.heap.size < w2.heap.size := by { have := hb2.size; simp at this; omega }; have HB2 := Lib.hid (HA.out.trans (hb2.mono (by simp; omega))); have HO2 := Lib.hid (ownA_below HOwn.out (HA0.out.trans (hb2.mono (by simp)))); clear hb2)
        have hdr : Below w2.heap.size w2 w2.drew := ⟨rfl, rfl, rfl, Nat.le_refl _, fun _ _ => rfl⟩
        have HB3 := Lib.hid (HB2.out.trans (hdr.mono HB2.out.size))
        have HO3 := Lib.hid (ownA_below HO2.out hdr)
        clear d0 d1 hdr
        have hz3 := HB2.out.size
        have hz3' : w.heap.size ≤ w2.drew.heap.size := hz3
        go_region_law (first
          | (go_simp; go_at_call 69; ((with_reducible refine (HCl.out _).mono ?_); rintro e w4 ⟨rfl, hb4⟩; have g0 : w4.cell? ⟨wr.heap.size, 0, none⟩ = some (.string X) := by { rw [hb4.cell (p := ⟨wr.heap.size, 0, none⟩) (by simp; omega)]; simpa using f0 }; have g1 : w4.cell? ⟨wr.heap.size, 1, none⟩ = some (.slice ua un uc) := by { rw [hb4.cell (p := ⟨wr.heap.size, 1, none⟩) (by simp; omega)]; simpa using f1 }; have hz4 := hb4.size; have HB4 := Lib.hid (bthen HB3.out hb4); have HO4 := Lib.hid (ownA_below HO3.out hb4); clear hb4))
          | (go_simp; go_at_call 59; ((with_reducible refine (copyVals_any _ HST.out _ _ (HT.out.below HB4.out HB4.out.size)).mono ?_); rintro e w5 ⟨u5, rfl, hu5, hb5⟩; have HU5 := Lib.hid (ownS_isTo hu5 (by have := HST.out.1; unfold maxLen; omega)); have HB5 := Lib.hid (bthen HB4.out hb5); have HO5 := Lib.hid (ownA_below HO4.out hb5); have hz5 := hb5.size; (obtain ⟨xa, xc, hxe⟩ := ownS_slice hu5); clear hu5 hb5; subst hxe))
          | (refine step_append_attr rfl (.tmp 19) (.tmp 27) rfl w.heap.size (.slice la ln lc) W rfl X _ L[j].2 HO5.out (HU5.out.imp (fun b hb => ⟨by have := hb.1; omega, hb.2, fun e => absurd (ownA_lt HO4.out b e.symm) (by have := hb.1; omega)⟩) (fun _ _ _ => rfl)) rfl rfl (by omega) (by omega) ?_; intro v6 w6 hown6 hb6; have HO6 := Lib.hid hown6; have HB6 := Lib.hid hb6; clear hown6 hb6))
        all_goals
          go_wp2
          go_roundw
          case rel => exact ⟨j + 1, by omega, by go_num, by rw [HN.out, show L[j] = (X.data.toList, L[j].2) from by rw [HXl.out]]; exact HO6.out, HB5.out.trans HB6.out⟩
          case measure => simp [intOf]; omega
    · obtain rfl : j = L.length := by omega
      have t1 : decide ((L.length : Int) < (L.length : Int)) = false := by simp
      have t1' : decide (L.length < L.length) = false := by simp
      rw [List.take_length] at hW
      have HW2 := Lib.hid hW
      clear hbel hW hown
      go_wp2
      go_ret
      exact ⟨_, rfl, by rw [HW2.out]; exact HOwn.out, HBel.out⟩
end Go.Proofs.YtngbpegjoihajaaGreatDoor
