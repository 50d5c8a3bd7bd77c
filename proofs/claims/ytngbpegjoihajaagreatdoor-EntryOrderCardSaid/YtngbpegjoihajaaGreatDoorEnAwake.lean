/- The document's example of chapter 5: the walk. -/
import Derived.Test.YtngbpegjoihajaaGreatDoorEnSetW
import Derived.Test.YtngbpegjoihajaaGreatDoorEnHas
import Derived.Test.YtngbpegjoihajaaGreatDoorEnFind
namespace Go.Proofs.YtngbpegjoihajaaGreatDoor
open Go.RowKit
set_option linter.unusedVariables false

theorem isT_one (w : World) (X : ByteArray) (n0 : Nat) (h : w.heap.size < n0) : IsT n0 (w.alloc (.cells #[.string X] 9)) [X.data.toList] (.slice (some ⟨w.heap.size, 0, none⟩) 1 1) :=
  ⟨_, _, rfl, by unfold maxLen; simp, fun j hj => by
    have : j = 0 := by simp at hj; omega
    subst this
    refine ⟨w.heap.size, 0, rfl, h, ?_⟩
    rw [show [X.data.toList][0] = X.data.toList from rfl, strV_whole]
    simp⟩
theorem smallA_nil : smallA [] := ⟨by simp, by simp⟩
theorem setO : setA [] [79] [[120]] = [([111], [[120]])] := by decide
theorem hasO : hasA [([111], [[120]])] [111] [88] = true := by decide +kernel

set_option maxRecDepth 100000 in
set_option maxHeartbeats 4000000 in
theorem awake5_any (w : World) (hw : LaidW w) : Calls Tryz.prog 27 #[] w fun e w' => e = .returned (.bool true) ∧ Below w.heap.size w w' := by
  have HW := Lib.hid hw
  have hset := set_any ⟨#[111, 61, 120]⟩ ⟨#[79]⟩ [] [[120]] (by decide) (by decide) smallA_nil ⟨by decide, by decide⟩ (.slice none 0 0) (.slice (some ⟨w.heap.size, 0, none⟩) 1 1) (w.alloc (.cells #[.string ⟨#[120]⟩] 9)) (isA_nil _ _ _ _) (isT_one w ⟨#[120]⟩ _ (by simp))
  rw [show (⟨#[79]⟩ : ByteArray).data.toList = [79] from rfl, setO] at hset
  have HSet := Lib.hid hset
  have HB0 := Lib.hid (Below.alloc (Below.refl w.heap.size w) (Nat.le_refl _) (.cells #[.string ⟨#[120]⟩] 9))
  have hsm : smallA [([111], [[120]])] := ⟨by decide, fun a ha => by simp only [List.mem_singleton] at ha; subst ha; exact ⟨by decide, by decide, by decide⟩⟩
  have HSm := Lib.hid hsm
  clear hw hset hsm
  go_enter Tryz.func27, Tryz.ntmps27
  go_wp2_with (first
    | (go_at_call 36; refine (HSet.out).mono ?_; rintro e w2 ⟨v2, rfl, hown2, hb2⟩; have HB2 := Lib.hid (HB0.out.trans (hb2.mono HB0.out.size)); (obtain ⟨sa, sc, hv2, hml, hc2⟩ := ownA_isA hown2 (by unfold maxLen; decide)); (obtain ⟨b, off, u, hsa, hbl, hc0, hc1, hu⟩ := hc2 0 (by decide)); have HIA := Lib.hid (ownA_isA hown2 (by unfold maxLen; decide)); subst hsa; (simp only [List.length_singleton] at hv2); subst hv2; (have hc00 : w2.cell? ⟨b, off, none⟩ = some (.string ⟨#[111]⟩) := by { simpa [strV] using hc0 }); clear hc0 hc1; clear hown2 hb2 hml hc2)
    | (go_at_call 32; refine (vals_any ⟨#[]⟩ [] smallA_nil (.slice none 0 0) ⟨#[99, 110]⟩ _ (isA_nil _ _ _ _)).mono ?_; rintro e w3 ⟨u3, rfl, hown3, hb3⟩; rw [show findA [] (⟨#[99, 110]⟩ : ByteArray).data.toList = [] from rfl] at hown3; (obtain ⟨xa, xc, rfl⟩ := ownS_slice hown3); (have hz : w2.heap.size < w3.heap.size := by { have := hb3.size; simp only [World.size_alloc] at this; omega }); (have p0 : w3.cell? ⟨w2.heap.size, 0, none⟩ = some (.string ⟨#[111, 61, 120]⟩) := (hb3.cell (p := ⟨w2.heap.size, 0, none⟩) (by simp)).trans (by simp)); (have p1 : w3.cell? ⟨w2.heap.size, 1, none⟩ = some (.slice (some ⟨b, off, none⟩) 1 sc) := (hb3.cell (p := ⟨w2.heap.size, 1, none⟩) (by simp)).trans (by simp)); have HBA := Lib.hid (((Below.refl w2.heap.size w2).alloc (Nat.le_refl _) (.cells #[.string ⟨#[111, 61, 120]⟩, .slice (some ⟨b, off, none⟩) 1 sc] 24)).trans (hb3.mono (by simp))); clear hown3 hb3)
    | (go_at_call 34; refine (has_any ⟨#[111, 61, 120]⟩ ⟨#[111]⟩ ⟨#[88]⟩ [([111], [[120]])] HSm.out (.slice (some ⟨b, off, none⟩) 1 sc) _ (HW.out.below (bthen HB2.out HBA.out)) (HIA.out.below HBA.out HBA.out.size)).mono ?_; rintro e w4 ⟨he, hb4⟩; rw [show (⟨#[111]⟩ : ByteArray).data.toList = [111] from rfl, show (⟨#[88]⟩ : ByteArray).data.toList = [88] from rfl, hasO] at he; subst he; (have p1 := (hb4.cell (p := ⟨w2.heap.size, 1, none⟩) hz).trans p1); (have q0 : w4.cell? ⟨b, off, none⟩ = some (.string ⟨#[111]⟩) := (hb4.cell (p := ⟨b, off, none⟩) (show b < w3.heap.size by omega)).trans ((HBA.out.cell (p := ⟨b, off, none⟩) hbl).trans hc00)); have HB4 := Lib.hid (bthen (bthen HB2.out HBA.out) hb4); clear hb4))
  go_ret
  exact ⟨rfl, HB4.out⟩
end Go.Proofs.YtngbpegjoihajaaGreatDoor
