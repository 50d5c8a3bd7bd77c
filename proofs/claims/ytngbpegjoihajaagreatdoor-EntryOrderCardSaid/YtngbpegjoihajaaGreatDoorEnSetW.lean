/- entry.Set: the walk. -/
import Derived.Test.YtngbpegjoihajaaGreatDoorEnSet
namespace Go.Proofs.YtngbpegjoihajaaGreatDoor
open Go.RowKit
set_option linter.unusedVariables false

def setA (L : List AT) (t : List UInt8) (V : List (List UInt8)) : List AT := if V = [] then withoutA L t else insA (withoutA L t) (nameA t, V)
theorem ownA_lower {B B' : Nat} {w : World} {v : Value} {L : List AT} (h : OwnA B w v L) (hle : B' ≤ B) : OwnA B' w v L := by
  obtain ⟨P, hr, hs⟩ := h
  refine ⟨P, ⟨hr.1, hr.2.imp id fun ⟨g, cap, cur, e1, hb, rest⟩ => ⟨g, cap, cur, e1, Nat.le_trans hle hb, rest⟩⟩, hs.1, fun j h1 h2 => ⟨(hs.2 j h1 h2).1, (hs.2 j h1 h2).2.imp (fun b hb => ⟨Nat.le_trans hle hb.1, hb.2⟩) (fun _ _ _ => rfl)⟩⟩
/-- A store below the row's base turns nothing of it. -/
theorem ownA_set {B : Nat} {w : World} {v : Value} {L : List AT} (h : OwnA B w v L) (a : Addr) (x : Value) (ha : a.block < B) : OwnA B (w.setCell a x) v L := by
  obtain ⟨P, hr, hs⟩ := h
  have hblk : ∀ k, k ≠ a.block → (w.setCell a x).heap[k]? = w.heap[k]? := fun k hk => by
    unfold World.setCell
    simp [Array.getElem?_modify, Ne.symm hk]
  refine ⟨P, ⟨hr.1, hr.2.imp id fun ⟨g, cap, cur, e1, hb, hg, rest⟩ => ⟨g, cap, cur, e1, hb, (hblk g (by omega)).trans hg, rest⟩⟩, hs.1, fun j h1 h2 => ⟨(hs.2 j h1 h2).1, (hs.2 j h1 h2).2.imp (fun b hb => ⟨hb.1, by simpa [World.setCell] using hb.2.1, hb.2.2⟩) (fun b o hb => by
    have := hblk b (by have := hb.1; omega)
    simp only [World.cell?, this])⟩⟩

theorem ownA_sl {B : Nat} {w : World} {v : Value} {L : List AT} (h : OwnA B w v L) : ∃ a n c, v = .slice a n c := by
  obtain ⟨a, c, h⟩ := ownA_slice h
  exact ⟨a, _, c, h⟩
/-- The boxes of a call of Set. -/
def BoxE (b : Nat) (d : ByteArray) (w : World) : Prop := w.cell? ⟨b, 0, none⟩ = some (.string d) ∧ w.cell? ⟨b + 1, 0, none⟩ = some (.string ⟨#[]⟩) ∧ w.cell? ⟨b + 1, 1, none⟩ = some (.slice none 0 0) ∧ w.frozen? ⟨b + 1, 0, none⟩ = false ∧ w.frozen? ⟨b + 1, 1, none⟩ = false
theorem BoxE.go {b n : Nat} {d : ByteArray} {w w' : World} (h : BoxE b d w) (hb : Below n w w') (hn : b + 2 ≤ n) : BoxE b d w' :=
  ⟨(hb.cell (p := ⟨b, 0, none⟩) (show b < n by omega)).trans h.1, (hb.cell (p := ⟨b + 1, 0, none⟩) (show b + 1 < n by omega)).trans h.2.1, (hb.cell (p := ⟨b + 1, 1, none⟩) (show b + 1 < n by omega)).trans h.2.2.1,
   (hb.frozen (p := ⟨b + 1, 0, none⟩) (show b + 1 < n by omega)).trans h.2.2.2.1, (hb.frozen (p := ⟨b + 1, 1, none⟩) (show b + 1 < n by omega)).trans h.2.2.2.2⟩
theorem boxE_new (w : World) (d : ByteArray) (x : Value) : BoxE w.heap.size d ((w.alloc (.cells #[.string d, x] 24)).alloc (.cells #[.string ⟨#[]⟩, .slice none 0 0] 24)) := by
  refine ⟨by simp, by simp, by simp, by simp, by simp⟩

set_option maxRecDepth 100000 in
set_option maxHeartbeats 4000000 in
theorem set_any (d t : ByteArray) (L : List AT) (V : List (List UInt8)) (hd : d.size ≤ 281474976710656) (ht : t.size ≤ 281474976710656) (hs : smallA L) (hV : smallT V) (v vv : Value) (w : World) (h : IsA w.heap.size w L v) (hvv : IsT w.heap.size w V vv) :
    Calls Tryz.prog 36 #[.agg #[.string d, v], .string t, vv] w fun e w' => ∃ v', e = .returned (.agg #[.string d, v']) ∧ OwnA w.heap.size w' v' (setA L t.data.toList V) ∧ Below w.heap.size w w' := by
  obtain ⟨sa, sc, hv, _⟩ := id h
  obtain ⟨sn, hsn⟩ : ∃ n, n = L.length := ⟨_, rfl⟩
  rw [← hsn] at hv
  subst hv
  obtain ⟨va, vc, hv2, _⟩ := id hvv
  obtain ⟨vn, hvn⟩ : ∃ n, n = V.length := ⟨_, rfl⟩
  rw [← hvn] at hv2
  subst hv2
  have HI := Lib.hid h
  have HVv := Lib.hid hvv
  have HS := Lib.hid hs
  have HVs := Lib.hid hV
  have HVn := Lib.hid hvn
  have hcl := fun w => clone_any d w hd
  have HCl := Lib.hid hcl
  have htn := fun w => typeName_any t ht w
  obtain ⟨T, hT⟩ : ∃ T, T = ofL (nameA t.data.toList) := ⟨_, rfl⟩
  have hTl : T.data.toList = nameA t.data.toList := by rw [hT, ofL_list]
  simp only [← hT] at htn
  have HTn := Lib.hid htn
  have HTl := Lib.hid hTl
  have hwl : (withoutA L t.data.toList).length ≤ 1000 := Nat.le_trans (List.length_filter_le _ _) hs.1
  have hb0 : Below w.heap.size w ((w.alloc (.cells #[.string d, .slice sa sn sc] 24)).alloc (.cells #[.string ⟨#[]⟩, .slice none 0 0] 24)) := ((Below.refl _ _).alloc (Nat.le_refl _) _).alloc (by simp) _
  have HB0 := Lib.hid hb0
  have HBx := Lib.hid (boxE_new w d (.slice sa sn sc))
  clear h hvv hs hV hsn hvn hcl htn hT hTl hb0
  by_cases hV0 : vn = 0
  · have t1 : decide ((0 : Int) < (vn : Int)) = false := by simp; omega
    have t1' : decide (0 < vn) = false := by simp; omega
    go_enter Tryz.func36, Tryz.ntmps36
    go_wp2_with (first
      | (go_at_call 66; refine (without_any L HS.out (.slice sa sn sc) t _ (HI.out.below HB0.out HB0.out.size)).mono ?_; rintro e w2 ⟨v2, rfl, hown2, hb2⟩; (obtain ⟨ra, rn, rc, rfl⟩ := ownA_sl hown2); have HBx2 := Lib.hid (HBx.out.go hb2 (by simp)); have f0 := HBx2.out.1; have HO := Lib.hid (ownA_lower (B' := w.heap.size + 2) hown2 (by simp)); have HB := Lib.hid (HB0.out.trans (hb2.mono HB0.out.size)); have hz2 := hb2.size; (simp only [World.size_alloc] at hz2); clear hown2 hb2)
      | (go_at_call 69; refine (HCl.out _).mono ?_; rintro e w6 ⟨rfl, hb6⟩; obtain ⟨_, p0, p1, q0, q1⟩ := HBx2.out.go hb6 (by omega); have HO := Lib.hid (ownA_below HO.out hb6); have HB := Lib.hid (bthen HB.out hb6); clear hb6))
    refine bodyPost_ret (v := .agg #[.string d, (.slice ra rn rc)]) (by simp [results, Tryz.results36, go_sem, p0, p1]) rfl ⟨_, rfl, ?_, (HB.out.setCell (p := ⟨w.heap.size + 1, 0, none⟩) (show w.heap.size ≤ w.heap.size + 1 by omega) _).setCell (p := ⟨w.heap.size + 1, 1, none⟩) (show w.heap.size ≤ w.heap.size + 1 by omega) _⟩
    have ho := ownA_set (ownA_set HO.out ⟨w.heap.size + 1, 0, none⟩ (.string d) (show w.heap.size + 1 < w.heap.size + 2 by omega)) ⟨w.heap.size + 1, 1, none⟩ (.slice ra rn rc) (show w.heap.size + 1 < w.heap.size + 2 by omega)
    have ho2 := ownA_lower (B' := w.heap.size) ho (by omega)
    unfold setA
    rw [if_pos (List.eq_nil_of_length_eq_zero (by rw [← HVn.out]; exact hV0))]
    exact ho2
  · have t1 : decide ((0 : Int) < (vn : Int)) = true := by simp; omega
    have t1' : decide (0 < vn) = true := by simp; omega
    go_enter Tryz.func36, Tryz.ntmps36
    go_wp2_with (first
      | (go_at_call 66; refine (without_any L HS.out (.slice sa sn sc) t _ (HI.out.below HB0.out HB0.out.size)).mono ?_; rintro e w2 ⟨v2, rfl, hown2, hb2⟩; (obtain ⟨ra, rn, rc, rfl⟩ := ownA_sl hown2); have HBx2 := Lib.hid (HBx.out.go hb2 (by simp)); have f0 := HBx2.out.1; have HO := Lib.hid (ownA_lower (B' := w.heap.size + 2) hown2 (by simp)); have HB := Lib.hid (HB0.out.trans (hb2.mono HB0.out.size)); have hz2 := hb2.size; (simp only [World.size_alloc] at hz2); clear hown2 hb2)
      | (go_at_call 68; refine (HTn.out _).mono ?_; rintro e w3 ⟨rfl, hb3⟩; have HBx3 := Lib.hid (HBx2.out.go hb3 (by omega)); have HO := Lib.hid (ownA_below HO.out hb3); have HB := Lib.hid (bthen HB.out hb3); have hz3 := hb3.size; clear hb3)
      | (go_at_call 59; refine (copyVals_any V HVs.out _ _ (HVv.out.below HB.out HB.out.size)).mono ?_; rintro e w4 ⟨u4, rfl, hu4, hb4⟩; have HU4 := Lib.hid (ownS_isTo hu4 (by have := HVs.out.1; unfold maxLen; omega)); (obtain ⟨xa, xc, rfl⟩ := ownS_slice hu4); have HOl := HO; have HBx4 := Lib.hid (HBx3.out.go hb4 (by omega)); have HO := Lib.hid (ownA_below HO.out hb4); have HB := Lib.hid (bthen HB.out hb4); have hz4 := hb4.size; clear hu4 hb4)
      | (go_at_call 67; refine (insert_any (withoutA L t.data.toList) _ (w.heap.size + 2) T _ V rfl _ HO.out (by omega) (by omega) (HU4.out.imp (fun b hb => ⟨by have := hb.1; omega, hb.2, fun e => absurd (ownA_lt HOl.out b e.symm) (by have := hb.1; omega)⟩) (fun _ _ _ => rfl))).mono ?_; rintro e w5 ⟨v5, rfl, hown5, hb5⟩; (obtain ⟨ra5, rn5, rc5, rfl⟩ := ownA_sl hown5); have HBx2 := Lib.hid (HBx4.out.go hb5 (by omega)); have f0 := HBx2.out.1; have HO := Lib.hid hown5; have hz5 := hb5.size; have HB := Lib.hid (HB.out.trans (hb5.mono (by omega))); clear hown5 hb5)
      | (go_at_call 69; refine (HCl.out _).mono ?_; rintro e w6 ⟨rfl, hb6⟩; obtain ⟨_, p0, p1, q0, q1⟩ := HBx2.out.go hb6 (by omega); have HO := Lib.hid (ownA_below HO.out hb6); have HB := Lib.hid (bthen HB.out hb6); clear hb6))
    refine bodyPost_ret (v := .agg #[.string d, (.slice ra5 rn5 rc5)]) (by simp [results, Tryz.results36, go_sem, p0, p1]) rfl ⟨_, rfl, ?_, (HB.out.setCell (p := ⟨w.heap.size + 1, 0, none⟩) (show w.heap.size ≤ w.heap.size + 1 by omega) _).setCell (p := ⟨w.heap.size + 1, 1, none⟩) (show w.heap.size ≤ w.heap.size + 1 by omega) _⟩
    have ho := ownA_set (ownA_set HO.out ⟨w.heap.size + 1, 0, none⟩ (.string d) (show w.heap.size + 1 < w.heap.size + 2 by omega)) ⟨w.heap.size + 1, 1, none⟩ (.slice ra5 rn5 rc5) (show w.heap.size + 1 < w.heap.size + 2 by omega)
    have ho2 := ownA_lower (B' := w.heap.size) ho (by omega)
    unfold setA
    rw [if_neg (fun e => hV0 (by rw [HVn.out, e]; rfl)), ← HTl.out]
    exact ho2
end Go.Proofs.YtngbpegjoihajaaGreatDoor
