/- Several texts in one file: ScDocE, ScFindE, ScGreat, EnSame, ScAllW, ArgE. -/
import Derived.Test.YtofmpaphafhdpaaGreatDoorAllP3
import Derived.Test.YtofmpaphafhdpaaGreatDoorAllP4
import Derived.Test.YtofmpaphafhdpaaGreatDoorRefParseW
import Derived.Test.YtofmpaphafhdpaaGreatDoorAllP1
import Derived.Test.YtofmpaphafhdpaaGreatDoorMaNorm
import Derived.Test.YtofmpaphafhdpaaGreatDoorAllP2
import Derived.Test.YtofmpaphafhdpaaGreatDoorEnRead
import Derived.Test.YtofmpaphafhdpaaGreatDoorEnFind
import Derived.Deep.RegionHeld3
import Derived.Lib.IndexAny
import Derived.OpenShut
import Derived.Carry
import Derived.ChangeSame
import Derived.ChangeSlices
import Derived.Deep.Strs
import Derived.Deep.SlicePairs
/- The document's Check: the walk. -/
namespace Go.Proofs.YtofmpaphafhdpaaGreatDoor
open Go.RowKit
set_option linter.unusedVariables false

theorem soundX_err {L : List AT} {c x : Int} (h : AttrsR L c) (he : soundR [] L = .error x) : c ≠ 0 ∧ c = x := by
  rcases h with ⟨_, h2⟩ | ⟨h1, h2⟩
  · rw [snd_end h2] at he; cases he
  · rw [h2] at he; cases he; exact ⟨h1, rfl⟩
theorem soundX_ok {L A : List AT} {c : Int} (h : AttrsR L c) (he : soundR [] L = .ok A) : c = 0 ∧ SndAt L L.length := by
  rcases h with ⟨h1, h2⟩ | ⟨h1, h2⟩
  · exact ⟨h1, h2⟩
  · rw [h2] at he; cases he

set_option maxRecDepth 100000 in
set_option maxHeartbeats 8000000 in
theorem checkRef_any (D : ByteArray) (hD : D.size ≤ 100000) (L : List AT) (hs : smallA L) (v : Value) (w : World) (h : IsA w.heap.size w L v) :
    Calls Tryz.prog 14 #[.agg #[.string D, v]] w fun e w' => e = .returned (.int .i64 (checkD D.data.toList L)) ∧ Below w.heap.size w w' := by
  obtain ⟨a, c, hv, hm, _⟩ := id h
  obtain ⟨n, hn⟩ : ∃ n, n = L.length := ⟨_, rfl⟩
  rw [← hn] at hv hm
  subst hv
  unfold maxLen at hm
  obtain ⟨R, hR⟩ : ∃ R, R = checkD D.data.toList L := ⟨_, rfl⟩
  rw [← hR]
  obtain ⟨W0, hW0⟩ : ∃ W0, W0 = w.alloc (.cells #[.string D, .slice a n c] 24) := ⟨_, rfl⟩
  have hB0 : Below w.heap.size w W0 := by rw [hW0]; exact (Below.refl _ _).alloc (Nat.le_refl _) _
  have hbx : BoxN W0 w.heap.size D (.slice a n c) := by rw [hW0]; exact boxN_new _ _ _
  have hz0 : W0.heap.size = w.heap.size + 1 := by rw [hW0]; simp
  obtain ⟨x0, x1⟩ := hbx.cells
  have hp := fun W => parseRef_any D hD W
  have hke := fun W => keyRef_any D hD W
  have HN := Lib.hid hn
  have HR := Lib.hid hR
  have HS := Lib.hid hs
  have HB0 := Lib.hid hB0
  have HBx := Lib.hid hbx
  have HW0 := Lib.hid hW0.symm
  have HA := Lib.hid h
  clear hn hR hs hB0 hbx hW0 h
  cases hpd : parseD D.data.toList with
  | none =>
    have HE : Hid (R = 34) := Lib.hid (by rw [HR.out]; exact check_none (key_no hpd))
    rw [hpd] at hp
    have HP := Lib.hid hp
    clear hp hpd hke
    go_enter Tryz.func14, Tryz.ntmps14
    go_upto_region 1 with (fail)
    rw [HW0.out]
    go_wp2_with (go_at_call 41; refine (HP.out _).mono ?_; rintro e w2 ⟨hb2, rfl⟩; have HB2 := Lib.hid (HB0.out.trans (hb2.mono HB0.out.size)); clear hb2)
    go_ret
    exact ⟨by rw [HE.out]; rfl, HB2.out.alloc HB2.out.size _⟩
  | some l =>
    rw [hpd] at hp
    cases l with
    | nil =>
      have HE : Hid (R = 34) := Lib.hid (by rw [HR.out]; exact check_empty (key_nil hpd))
      have HP := Lib.hid hp
      clear hp hpd hke
      go_enter Tryz.func14, Tryz.ntmps14
      go_upto_region 1 with (fail)
      rw [HW0.out]
      go_wp2_with (go_at_call 41; refine (HP.out _).mono ?_; rintro e w2 ⟨hb2, v2, rfl, hil⟩; (obtain ⟨la, lc, hlv, _⟩ := hil); (rw [List.length_nil] at hlv); subst hlv; have HB2 := Lib.hid (HB0.out.trans (hb2.mono HB0.out.size)); clear hb2)
      go_ret
      exact ⟨by rw [HE.out]; rfl, HB2.out.alloc HB2.out.size _⟩
    | cons r rs =>
      obtain ⟨ln, hln⟩ : ∃ k, k = (r :: rs).length := ⟨_, rfl⟩
      have hl0 : 0 < ln := by rw [hln]; simp
      have HP := Lib.hid hp
      have HLn := Lib.hid hln
      have HPd := Lib.hid hpd
      clear hp hpd hln
      go_enter Tryz.func14, Tryz.ntmps14
      go_upto_region 1 with (fail)
      rw [HW0.out]
      go_upto_region 2 with (go_at_call 41; refine (HP.out _).mono ?_; rintro e w2 ⟨hb2, v2, rfl, hil⟩; (obtain ⟨la, lc, hlv, hlm, hlc⟩ := hil); (rw [← HLn.out] at hlv); subst hlv; have HB2 := Lib.hid hb2; have HLc := Lib.hid hlc; clear hb2 hlc hlm)
      obtain ⟨lb, lo, rfl, hlb, c0, c1⟩ := HLc.out 0 (by simp)
      simp only [List.getElem_cons_zero, Nat.zero_mul, Nat.add_zero] at c0 c1
      obtain ⟨rT, hrT⟩ : ∃ X : ByteArray, ⟨r.1.toArray⟩ = X := ⟨_, rfl⟩
      obtain ⟨rV, hrV⟩ : ∃ X : ByteArray, ⟨r.2.toArray⟩ = X := ⟨_, rfl⟩
      have hrTl : rT.data.toList = r.1 := by rw [← hrT]
      have hrVl : rV.data.toList = r.2 := by rw [← hrV]
      have d0 : w2.cell? ⟨lb, lo, none⟩ = some (.string rT) := by rw [c0, ← hrT]; rfl
      have d1 : w2.cell? ⟨lb, lo + 1, none⟩ = some (.string rV) := by rw [c1, ← hrV]; rfl
      have hb3 : Below w2.heap.size w2 (w2.alloc (.cells #[.slice (some ⟨lb, lo, none⟩) ln lc, .bool true] 69)) := (Below.refl _ _).alloc (Nat.le_refl _) _
      have hbd := boxD_new w2 (.slice (some ⟨lb, lo, none⟩) ln lc) true
      have hs3 : (w2.alloc (.cells #[.slice (some ⟨lb, lo, none⟩) ln lc, .bool true] 69)).heap.size = w2.heap.size + 1 := by simp
      generalize w2.alloc (.cells #[.slice (some ⟨lb, lo, none⟩) ln lc, .bool true] 69) = W3 at hb3 hbd hs3 ⊢
      obtain ⟨gd, hgd⟩ : ∃ g, g = w2.heap.size := ⟨_, rfl⟩
      rw [← hgd] at hbd ⊢
      have hB3 := bthen HB2.out hb3
      have hbx3 := HBx.out.below hB3 (by omega)
      have hw3 : w.heap.size < W3.heap.size := by have := hB3.size; omega
      have hg3 : gd < W3.heap.size := by omega
      have hl3 : lb < W3.heap.size := by omega
      have HB3 := Lib.hid (HB0.out.trans (hB3.mono HB0.out.size))
      have HKc : Hid (∀ wx, Below W3.heap.size W3 wx → (wx.cell? ⟨w.heap.size, 0, none⟩ = some (.string D) ∧ wx.cell? ⟨w.heap.size, 1, none⟩ = some (.slice a n c)) ∧ (wx.cell? ⟨gd, 0, none⟩ = some (.slice (some ⟨lb, lo, none⟩) ln lc) ∧ wx.cell? ⟨gd, 1, none⟩ = some (.bool true))) := Lib.hid (fun wx hb => ⟨(hbx3.below hb hw3).cells, (hbd.below hb hg3).cells.1, (hbd.below hb hg3).cells.2.1⟩)
      have HKr : Hid (∀ wx, Below W3.heap.size W3 wx → (wx.cell? ⟨lb, lo, none⟩ = some (.string rT) ∧ wx.cell? ⟨lb, lo + 1, none⟩ = some (.string rV))) := Lib.hid (fun wx hb => ⟨by rw [hb.cell (p := ⟨lb, lo, none⟩) hl3, hb3.cell (p := ⟨lb, lo, none⟩) hlb]; exact d0, by rw [hb.cell (p := ⟨lb, lo + 1, none⟩) hl3, hb3.cell (p := ⟨lb, lo + 1, none⟩) hlb]; exact d1⟩)
      have HAz : Hid (IsA W3.heap.size W3 L (.slice a n c)) := Lib.hid (HA.out.below HB3.out HB3.out.size)
      have HRT := Lib.hid hrTl
      have HRV := Lib.hid hrVl
      have HTz := Lib.hid (Below.refl W3.heap.size W3)
      have s1 : ((ln : Int) == 0) = false := by simp; omega
      have s1' : decide ((ln : Int) = 0) = false := by simp; omega
      have HAt := Lib.hid (fun W (hb : Below W3.heap.size W3 W) => attrsRef_any D L HS.out (.slice a n c) W (HAz.out.below hb hb.size))
      have HCl := Lib.hid (fun (hS : SndAt L L.length) W (hb : Below W3.heap.size W3 W) => classesDoc_any D L HS.out hS (.slice a n c) W (HAz.out.below hb hb.size))
      obtain ⟨⟨x0, x1⟩, ⟨y0, y1⟩⟩ := HKc.out _ HTz.out
      clear c0 c1 d0 d1 hrT hrV hrTl hrVl hb3 hbd hB3 hbx3 hgd hlb
      cases hk : keyD D.data.toList with
      | none =>
        have HE : Hid (R = 34) := Lib.hid (by rw [HR.out]; exact check_none hk)
        rw [hk] at hke
        have HKe := Lib.hid (show ∀ W, Calls Tryz.prog 42 #[.string D] W fun e w' => e = .returned (.agg #[.string ⟨#[]⟩, .bool false]) ∧ Below W.heap.size W w' from hke)
        have fs := fun (W : World) => field_said1 W ⟨#[]⟩ false
        clear hke hk
        go_wp2_with (first | (go_at_call 42; refine (HKe.out _).mono ?_; rintro e wx ⟨rfl, hbx⟩; have HTz := Lib.hid (bthen HTz.out hbx); obtain ⟨⟨x0, x1⟩, ⟨y0, y1⟩⟩ := HKc.out _ HTz.out; clear hbx))
        go_ret
        exact ⟨by rw [HE.out]; rfl, bthen HB3.out HTz.out⟩
      | some kk =>
        have hkn := key_some HPd.out hk
        rw [hk] at hke
        have HKe := Lib.hid (show ∀ W, Calls Tryz.prog 42 #[.string D] W fun e w' => e = .returned (.agg #[.string ⟨kk.toArray⟩, .bool true]) ∧ Below W.heap.size W w' from hke)
        have fs := fun (W : World) => field_said1 W ⟨kk.toArray⟩ true
        have HK := Lib.hid hk
        have HKn := Lib.hid hkn
        clear hke hk hkn
        by_cases h20 : 20 < n
        · have HE : Hid (R = 19) := Lib.hid (by rw [HR.out]; exact check_many HK.out HKn.out (by rw [← HN.out]; exact h20))
          have s2 : decide ((20 : Int) < (n : Int)) = true := by simp; omega
          clear h20
          go_wp2_with (first | (go_at_call 42; refine (HKe.out _).mono ?_; rintro e wx ⟨rfl, hbx⟩; have HTz := Lib.hid (bthen HTz.out hbx); obtain ⟨⟨x0, x1⟩, ⟨y0, y1⟩⟩ := HKc.out _ HTz.out; clear hbx))
          go_ret
          exact ⟨by rw [HE.out]; rfl, bthen HB3.out HTz.out⟩
        · have HL20 : Hid (¬ 20 < L.length) := Lib.hid (by rw [← HN.out]; exact h20)
          have s2 : decide ((20 : Int) < (n : Int)) = false := by simp; omega
          clear h20
          cases hso : soundR [] L with
          | error x =>
            have HE : Hid (R = x) := Lib.hid (by rw [HR.out]; exact check_sound HK.out HKn.out HL20.out hso)
            have HEr := Lib.hid (fun c (h : AttrsR L c) => soundX_err h hso)
            clear hso
            go_wp2_with (first | (go_at_call 42; refine (HKe.out _).mono ?_; rintro e wx ⟨rfl, hbx⟩; have HTz := Lib.hid (bthen HTz.out hbx); obtain ⟨⟨x0, x1⟩, ⟨y0, y1⟩⟩ := HKc.out _ HTz.out; clear hbx) | (go_at_call 43; refine (HAt.out _ HTz.out).mono ?_; rintro e wx ⟨c1, rfl, hA, hbx⟩; have HTz := Lib.hid (bthen HTz.out hbx); obtain ⟨⟨x0, x1⟩, ⟨y0, y1⟩⟩ := HKc.out _ HTz.out; have hc1 := HEr.out c1 hA; have t9 : (c1 == 0) = false := (by simpa using hc1.1); have HC1 := Lib.hid hc1.2; clear hbx hA hc1))
            go_ret
            exact ⟨by rw [HE.out, ← HC1.out]; rfl, bthen HB3.out HTz.out⟩
          | ok A =>
            have HOk := Lib.hid (fun c (h : AttrsR L c) => soundX_ok h hso)
            have hA : ∀ (h : SndAt L L.length), R = behindD (canL L) D.data.toList := fun h => by
              have e : A = canL L := by rw [snd_end h] at hso; cases hso; rfl
              rw [HR.out, check_behind HK.out HKn.out HL20.out hso, e]
            have HBe := Lib.hid hA
            clear hso hA
            cases hcd : classedD (canL L) with
            | false =>
              have HCD := Lib.hid hcd
              have HCl := Lib.hid (fun (hS : SndAt L L.length) W (hb : Below W3.heap.size W3 W) => show Calls Tryz.prog 44 #[.agg #[.string D, .slice a n c]] W fun e w' => e = .returned (.bool false) ∧ Below W.heap.size W w' from by rw [← HCD.out]; exact HCl.out hS W hb)
              clear hcd
              go_wp2_with (first | (go_at_call 42; refine (HKe.out _).mono ?_; rintro e wx ⟨rfl, hbx⟩; have HTz := Lib.hid (bthen HTz.out hbx); obtain ⟨⟨x0, x1⟩, ⟨y0, y1⟩⟩ := HKc.out _ HTz.out; clear hbx) | (go_at_call 43; refine (HAt.out _ HTz.out).mono ?_; rintro e wx ⟨c1, rfl, hA, hbx⟩; have HTz := Lib.hid (bthen HTz.out hbx); obtain ⟨⟨x0, x1⟩, ⟨y0, y1⟩⟩ := HKc.out _ HTz.out; have hc1 := HOk.out c1 hA; have hz1 := hc1.1; subst hz1; have hcl := HCl.out hc1.2 _ HTz.out; have HSn := Lib.hid hc1.2; have HCc := Lib.hid hcl; clear hbx hA hc1 hcl) | (go_at_call 44; refine (HCc.out).mono ?_; rintro e wx ⟨rfl, hbx⟩; have HTz := Lib.hid (bthen HTz.out hbx); obtain ⟨⟨x0, x1⟩, ⟨y0, y1⟩⟩ := HKc.out _ HTz.out; clear hbx))
              go_ret
              exact ⟨by rw [HBe.out HSn.out]; unfold behindD; rw [if_pos HCD.out]; rfl, bthen HB3.out HTz.out⟩
            | true =>
              have HCD := Lib.hid hcd
              have HCl := Lib.hid (fun (hS : SndAt L L.length) W (hb : Below W3.heap.size W3 W) => show Calls Tryz.prog 44 #[.agg #[.string D, .slice a n c]] W fun e w' => e = .returned (.bool true) ∧ Below W.heap.size W w' from by rw [← HCD.out]; exact HCl.out hS W hb)
              clear hcd
              have hTs : rT.size ≤ 281474976710656 := by
                have := ((okL_small (parse_ok HPd.out)).2 r (by simp)).1
                rw [← bytes_len, HRT.out]
                omega
              have hha := fun W (hb : Below W3.heap.size W3 W) => hasRef_any D rT rV hTs L HS.out (.slice a n c) W (HAz.out.below hb hb.size)
              rw [HRT.out, HRV.out] at hha
              have HHa := Lib.hid hha
              clear hha
              go_upto_region 11 with (first | (go_at_call 42; refine (HKe.out _).mono ?_; rintro e wx ⟨rfl, hbx⟩; have HTz := Lib.hid (bthen HTz.out hbx); obtain ⟨⟨x0, x1⟩, ⟨y0, y1⟩⟩ := HKc.out _ HTz.out; clear hbx) | (go_at_call 43; refine (HAt.out _ HTz.out).mono ?_; rintro e wx ⟨c1, rfl, hA, hbx⟩; have HTz := Lib.hid (bthen HTz.out hbx); obtain ⟨⟨x0, x1⟩, ⟨y0, y1⟩⟩ := HKc.out _ HTz.out; have hc1 := HOk.out c1 hA; have hz1 := hc1.1; subst hz1; have hcl := HCl.out hc1.2 _ HTz.out; have HSn := Lib.hid hc1.2; have HCc := Lib.hid hcl; clear hbx hA hc1 hcl) | (go_at_call 44; refine (HCc.out).mono ?_; rintro e wx ⟨rfl, hbx⟩; have HTz := Lib.hid (bthen HTz.out hbx); obtain ⟨⟨x0, x1⟩, ⟨y0, y1⟩⟩ := HKc.out _ HTz.out; clear hbx))
              rename World => wz
              have hst0 : wz.drew.cell? ⟨w.heap.size, 0, none⟩ = some (.string D) ∧ wz.drew.cell? ⟨w.heap.size, 1, none⟩ = some (.slice a n c) ∧ wz.drew.cell? ⟨gd, 0, none⟩ = some (.slice (some ⟨lb, lo, none⟩) ln lc) ∧ wz.drew.cell? ⟨lb, lo, none⟩ = some (.string rT) ∧ wz.drew.cell? ⟨lb, lo + 1, none⟩ = some (.string rV) := ⟨x0, x1, y0, (HKr.out _ HTz.out).1, (HKr.out _ HTz.out).2⟩
              have HKa : Hid (∀ wx, Below W3.heap.size W3 wx → (wx.cell? ⟨w.heap.size, 0, none⟩ = some (.string D) ∧ wx.cell? ⟨w.heap.size, 1, none⟩ = some (.slice a n c) ∧ wx.cell? ⟨gd, 0, none⟩ = some (.slice (some ⟨lb, lo, none⟩) ln lc) ∧ wx.cell? ⟨lb, lo, none⟩ = some (.string rT) ∧ wx.cell? ⟨lb, lo + 1, none⟩ = some (.string rV))) := Lib.hid (fun wx hb => ⟨(HKc.out _ hb).1.1, (HKc.out _ hb).1.2, (HKc.out _ hb).2.1, (HKr.out _ hb).1, (HKr.out _ hb).2⟩)
              have hnm := named_can HSn.out HPd.out
              cases hh : (findA L r.1).any fun y => sameO (normD (ruleD r.1) y) (normD (ruleD r.1) r.2) with
              | false =>
                have HE : Hid (R = 64) := Lib.hid (by rw [HBe.out HSn.out]; unfold behindD; rw [if_neg (by rw [HCD.out]; simp), if_pos (by rw [hnm, hh])])
                have HH := Lib.hid (fun W (hb : Below W3.heap.size W3 W) => show Calls Tryz.prog 28 #[.agg #[.string D, .slice a n c], .string rT, .string rV] W fun e w' => e = .returned (.bool false) ∧ Below W.heap.size W w' from by rw [← hh]; exact HHa.out W hb)
                clear hh hnm
                go_region_held3 (fun w' => w'.cell? ⟨w.heap.size, 0, none⟩ = some (.string D) ∧ w'.cell? ⟨w.heap.size, 1, none⟩ = some (.slice a n c) ∧ w'.cell? ⟨gd, 0, none⟩ = some (.slice (some ⟨lb, lo, none⟩) ln lc) ∧ w'.cell? ⟨lb, lo, none⟩ = some (.string rT) ∧ w'.cell? ⟨lb, lo + 1, none⟩ = some (.string rV)) (first | (with_reducible exact hst0) | (with_reducible exact hst1)) (first | (go_at_call 28; (refine (HH.out _ HTz.out.drew).mono ?_); rintro e wx ⟨rfl, hbx⟩; have HTx := Lib.hid (bthen HTz.out (drewB hbx)); have hst1 := HKa.out _ HTx.out; clear hbx))
                all_goals
                  go_split_ands
                  go_simp
                  go_wp2
                  go_ret
                  exact ⟨by rw [HE.out]; rfl, bthen HB3.out HTx.out⟩
              | true =>
                have HE : Hid (R = 0) := Lib.hid (by rw [HBe.out HSn.out]; unfold behindD; rw [if_neg (by rw [HCD.out]; simp), if_neg (by rw [hnm, hh]; simp)])
                have HH := Lib.hid (fun W (hb : Below W3.heap.size W3 W) => show Calls Tryz.prog 28 #[.agg #[.string D, .slice a n c], .string rT, .string rV] W fun e w' => e = .returned (.bool true) ∧ Below W.heap.size W w' from by rw [← hh]; exact HHa.out W hb)
                clear hh hnm
                go_region_held3 (fun w' => w'.cell? ⟨w.heap.size, 0, none⟩ = some (.string D) ∧ w'.cell? ⟨w.heap.size, 1, none⟩ = some (.slice a n c) ∧ w'.cell? ⟨gd, 0, none⟩ = some (.slice (some ⟨lb, lo, none⟩) ln lc) ∧ w'.cell? ⟨lb, lo, none⟩ = some (.string rT) ∧ w'.cell? ⟨lb, lo + 1, none⟩ = some (.string rV)) (first | (with_reducible exact hst0) | (with_reducible exact hst1)) (first | (go_at_call 28; (refine (HH.out _ HTz.out.drew).mono ?_); rintro e wx ⟨rfl, hbx⟩; have HTx := Lib.hid (bthen HTz.out (drewB hbx)); have hst1 := HKa.out _ HTx.out; clear hbx))
                all_goals
                  go_split_ands
                  go_simp
                  go_wp2
                  go_ret
                  exact ⟨by rw [HE.out]; rfl, bthen HB3.out HTx.out⟩
end Go.Proofs.YtofmpaphafhdpaaGreatDoor

/- schema.Find: the walk. -/
namespace Go.Proofs.YtofmpaphafhdpaaGreatDoor
open Go.RowKit
set_option linter.unusedVariables false

def findE (n : List UInt8) : Option CT := if 18 < n.length then none else if 0 ≤ Lib.indexByte n 32 then none else findC (fold n)
set_option maxHeartbeats 1000000 in
theorem blankIdx_any (s : ByteArray) (w : World) : Calls Tryz.prog 66 #[.string s, .string ⟨#[32]⟩] w fun e w' => e = .returned (.int .i64 (Lib.indexByte s.data.toList 32)) ∧ w' = w := by
  go_enter Tryz.func66, Tryz.ntmps66
  go_wp2_with (go_at_call 101; refine (Tryz.stringslite_Index_one s 32 _).mono ?_; rintro e w2 ⟨rfl, rfl⟩)
  go_ret
  exact ⟨rfl, rfl⟩
set_option maxHeartbeats 1000000 in
theorem hasBlank_any (s : ByteArray) (w : World) : Calls Tryz.prog 32 #[.string s, .string ⟨#[32]⟩] w fun e w' => e = .returned (.bool (decide (0 ≤ Lib.indexByte s.data.toList 32))) ∧ w' = w := by
  have hb := fun w => blankIdx_any s w
  generalize Lib.indexByte s.data.toList 32 = I at hb ⊢
  have HB := Lib.hid hb
  clear hb
  go_enter Tryz.func32, Tryz.ntmps32
  go_wp2_with (go_at_call 66; refine (HB.out _).mono ?_; rintro e w2 ⟨rfl, rfl⟩)
  go_ret
  exact ⟨rfl, rfl⟩

set_option maxRecDepth 100000 in
set_option maxHeartbeats 4000000 in
theorem findE_any (n : ByteArray) (w : World) (hl : LaidF w) : Calls Tryz.prog 11 #[.string n] w (FindW w (findE n.data.toList)) := by
  obtain ⟨R, hR⟩ : ∃ R, R = findE n.data.toList := ⟨_, rfl⟩
  rw [← hR]
  unfold findE at hR
  rw [bytes_len] at hR
  obtain ⟨W0, hW0⟩ : ∃ W0, W0 = w.alloc (.cells #[.string ⟨#[]⟩, .string ⟨#[]⟩, .bool false, .slice none 0 0, .slice none 0 0] 29) := ⟨_, rfl⟩
  have hB0 : Below w.heap.size w W0 := by rw [hW0]; exact (Below.refl _ _).alloc (Nat.le_refl _) _
  have hbx : BoxC W0 w.heap.size (.string ⟨#[]⟩) (.string ⟨#[]⟩) (.bool false) (.slice none 0 0) (.slice none 0 0) := by rw [hW0]; exact boxC_new _ _ _ _ _ _
  have hz0 : W0.heap.size = w.heap.size + 1 := by rw [hW0]; simp
  have HB0 := Lib.hid hB0
  have HBx := Lib.hid hbx
  have HLF := Lib.hid (hl.below hB0)
  have HW0 := Lib.hid hW0.symm
  have hnone : ∀ (W : World), BoxC W w.heap.size (.string ⟨#[]⟩) (.string ⟨#[]⟩) (.bool false) (.slice none 0 0) (.slice none 0 0) → (set5 W w.heap.size (.string ⟨#[]⟩) (.string ⟨#[]⟩) (.bool false) (.slice none 0 0) (.slice none 0 0)).cell? ⟨w.heap.size, 0, none⟩ = some (.string ⟨#[]⟩) := fun W h => (h.store _ _ _ _ _).cells.1
  clear hW0 hB0 hbx hl hnone
  by_cases h18 : 18 < n.size
  · rw [if_pos h18] at hR
    subst hR
    have t1 : decide ((18 : Int) < (n.size : Int)) = true := by simp; omega
    obtain ⟨m0, m1, m2, m3, m4⟩ := HBx.out.cells
    obtain ⟨n0, n1, n2, n3, n4⟩ := HBx.out.frozen
    go_enter Tryz.func11, Tryz.ntmps11
    go_upto_region 1 with (fail)
    rw [HW0.out]
    go_wp2
    refine bodyPost_ret (v := .tuple #[noC, .bool false]) (by
      obtain ⟨p0, p1, p2, p3, p4⟩ := (HBx.out.store (.string ⟨#[]⟩) (.string ⟨#[]⟩) (.bool false) (.slice none 0 0) (.slice none 0 0)).cells
      simp [results, Tryz.results11, go_sem, p0, p1, p2, p3, p4, noC]) rfl ⟨?_, rfl⟩
    exact set5_below HB0.out (Nat.le_refl _) _ _ _ _ _
  · rw [if_neg h18] at hR
    have t1 : decide ((18 : Int) < (n.size : Int)) = false := by simp; omega
    have hco := fun w => hasBlank_any n w
    obtain ⟨b, hb⟩ : ∃ b, b = decide (0 ≤ Lib.indexByte n.data.toList 32) := ⟨_, rfl⟩
    rw [← hb] at hco
    cases b with
    | true =>
      rw [if_pos (of_decide_eq_true hb.symm)] at hR
      subst hR
      have HCo := Lib.hid hco
      obtain ⟨m0, m1, m2, m3, m4⟩ := HBx.out.cells
      obtain ⟨n0, n1, n2, n3, n4⟩ := HBx.out.frozen
      clear hco hb
      go_enter Tryz.func11, Tryz.ntmps11
      go_upto_region 1 with (fail)
      rw [HW0.out]
      go_wp2_with (go_at_call 32; refine (HCo.out _).mono ?_; rintro e w2 ⟨rfl, rfl⟩)
      refine bodyPost_ret (v := .tuple #[noC, .bool false]) (by
        obtain ⟨p0, p1, p2, p3, p4⟩ := (HBx.out.store (.string ⟨#[]⟩) (.string ⟨#[]⟩) (.bool false) (.slice none 0 0) (.slice none 0 0)).cells
        simp [results, Tryz.results11, go_sem, p0, p1, p2, p3, p4, noC]) rfl ⟨?_, rfl⟩
      exact set5_below HB0.out (Nat.le_refl _) _ _ _ _ _
    | false =>
      rw [if_neg (of_decide_eq_false hb.symm)] at hR
      have HCo := Lib.hid hco
      have hfo := fun w => fold_any trim_any n w (by omega)
      obtain ⟨F, hF⟩ : ∃ F, F = foldB n := ⟨_, rfl⟩
      have hFl : F.data.toList = fold n.data.toList := by rw [hF]; simp [foldB]
      rw [← hF] at hfo
      have hfi := fun W h => findC_any F W h
      rw [hFl, ← hR] at hfi
      have HFo := Lib.hid hfo
      clear hco hb hfo hF hFl hR
      cases R with
      | none =>
        have HFi := Lib.hid hfi
        clear hfi
        go_enter Tryz.func11, Tryz.ntmps11
        go_upto_region 1 with (fail)
        rw [HW0.out]
        go_wp2_with (first
          | (go_at_call 32; refine (HCo.out _).mono ?_; rintro e w2 ⟨rfl, rfl⟩)
          | (go_at_call 34; refine (HFo.out _).mono ?_; rintro e w3 ⟨rfl, hb3⟩; have hz3 := hb3.size; have HX3 := Lib.hid (HBx.out.below hb3 (by omega)); have HB3 := Lib.hid (HB0.out.trans (hb3.mono HB0.out.size)); have HL3 := Lib.hid (HLF.out.below hb3); clear hb3)
          | (go_at_call 33; refine (HFi.out _ HL3.out).mono ?_; rintro e w4 hfw; (simp only [FindW, noC] at hfw); (obtain ⟨hb4, rfl⟩ := hfw); have HX4 := Lib.hid (HX3.out.below hb4 (by omega)); (obtain ⟨m0, m1, m2, m3, m4⟩ := HX4.out.cells); (obtain ⟨n0, n1, n2, n3, n4⟩ := HX4.out.frozen); have HB4 := Lib.hid (bthen HB3.out hb4); clear hb4))
        refine bodyPost_ret (v := .tuple #[noC, .bool false]) (by
          obtain ⟨p0, p1, p2, p3, p4⟩ := (HX4.out.store (.string ⟨#[]⟩) (.string ⟨#[]⟩) (.bool false) (.slice none 0 0) (.slice none 0 0)).cells
          simp [results, Tryz.results11, go_sem, p0, p1, p2, p3, p4, noC]) rfl ⟨?_, rfl⟩
        exact set5_below HB4.out (Nat.le_refl _) _ _ _ _ _
      | some c =>
        obtain ⟨N, hN⟩ : ∃ X : ByteArray, X = ⟨c.name.toArray⟩ := ⟨_, rfl⟩
        obtain ⟨S, hS⟩ : ∃ X : ByteArray, X = ⟨c.sup.toArray⟩ := ⟨_, rfl⟩
        have HNe := Lib.hid hN
        have HSe := Lib.hid hS
        have HFi := Lib.hid hfi
        clear hfi hN hS
        go_enter Tryz.func11, Tryz.ntmps11
        go_upto_region 1 with (fail)
        rw [HW0.out]
        go_wp2_with (first
          | (go_at_call 32; refine (HCo.out _).mono ?_; rintro e w2 ⟨rfl, rfl⟩)
          | (go_at_call 34; refine (HFo.out _).mono ?_; rintro e w3 ⟨rfl, hb3⟩; have hz3 := hb3.size; have HX3 := Lib.hid (HBx.out.below hb3 (by omega)); have HB3 := Lib.hid (HB0.out.trans (hb3.mono HB0.out.size)); have HL3 := Lib.hid (HLF.out.below hb3); clear hb3)
          | (go_at_call 33; refine (HFi.out _ HL3.out).mono ?_; rintro e w4 hfw; (simp only [FindW, strV, ← HNe.out, ← HSe.out] at hfw); (obtain ⟨hb4, u1, u2, rfl, h1, h2⟩ := hfw); (obtain ⟨xa, xn, xc, hx1⟩ := isTo_slice h1); subst hx1; (obtain ⟨ya, yn, yc, hx2⟩ := isTo_slice h2); subst hx2; have HX4 := Lib.hid (HX3.out.below hb4 (by omega)); (obtain ⟨m0, m1, m2, m3, m4⟩ := HX4.out.cells); (obtain ⟨n0, n1, n2, n3, n4⟩ := HX4.out.frozen); have HB4 := Lib.hid (bthen HB3.out hb4); have H1 := Lib.hid h1; have H2 := Lib.hid h2; clear hb4 h1 h2))
        refine bodyPost_ret (v := .tuple #[.agg #[.string N, .string S, .bool c.st, .slice xa xn xc, .slice ya yn yc], .bool true]) (by
          obtain ⟨p0, p1, p2, p3, p4⟩ := (HX4.out.store (.string N) (.string S) (.bool c.st) (.slice xa xn xc) (.slice ya yn yc)).cells
          simp [results, Tryz.results11, go_sem, p0, p1, p2, p3, p4]) rfl ⟨?_, .slice xa xn xc, .slice ya yn yc, ?_, ?_, ?_⟩
        · exact set5_below HB4.out (Nat.le_refl _) _ _ _ _ _
        · rw [HNe.out, HSe.out]; rfl
        · exact isTo_set5 H1.out (by omega) (by omega) _ _ _ _ _
        · exact isTo_set5 H2.out (by omega) (by omega) _ _ _ _ _
end Go.Proofs.YtofmpaphafhdpaaGreatDoor

/- brooklaw4.Great: the walk. -/
namespace Go.Proofs.YtofmpaphafhdpaaGreatDoor
open Go.RowKit
set_option linter.unusedVariables false

def badG (a : AT) : Bool := decide (100 < a.1.length) || decide (50 < a.2.length) || a.2.any (fun s => decide (300 < s.length))
def greatD (d : List UInt8) (L : List AT) : Bool := (L.take 30).any badG || (decide (25 < L.length) || decide (600 < d.length))
theorem great_no {d : List UInt8} {L : List AT} (h : greatD d L = false) : L.length ≤ 25 ∧ d.length ≤ 600 ∧ ∀ a ∈ L, a.1.length ≤ 100 ∧ a.2.length ≤ 50 ∧ ∀ s ∈ a.2, s.length ≤ 300 := by
  unfold greatD at h
  simp only [Bool.or_eq_false_iff, decide_eq_false_iff_not] at h
  obtain ⟨h1, h2, h3⟩ := h
  rw [List.take_of_length_le (by omega), List.any_eq_false] at h1
  refine ⟨by omega, by omega, fun a ha => ?_⟩
  have := h1 a ha
  simp only [badG, Bool.or_eq_true, decide_eq_true_eq, List.any_eq_true, not_or, not_exists, not_and] at this
  exact ⟨by omega, by omega, fun s hs => by have := this.2 s hs; omega⟩
theorem great_bad {d : List UInt8} {L : List AT} {j : Nat} (hj : j < L.length) (h30 : j < 30) (h : badG L[j] = true) : greatD d L = true := by
  unfold greatD
  rw [List.any_eq_true.2 ⟨L[j], List.mem_take_iff_getElem.2 ⟨j, by omega, rfl⟩, h⟩]
  rfl
theorem great_rest {d : List UInt8} {L : List AT} (h : ∀ k (hk : k < L.length), k < 30 → badG L[k] = false) : greatD d L = (decide (25 < L.length) || decide (600 < d.length)) := by
  unfold greatD
  have : (L.take 30).any badG = false := by
    rw [List.any_eq_false]
    intro a ha
    obtain ⟨i, hi, rfl⟩ := List.mem_take_iff_getElem.1 ha
    rw [h i (by omega) (by omega)]
    simp
  rw [this, Bool.false_or]

set_option maxRecDepth 100000 in
set_option maxHeartbeats 8000000 in
theorem great_any (D : ByteArray) (L : List AT) (v : Value) (w : World) (h : IsA w.heap.size w L v) :
    Calls Tryz.prog 9 #[.agg #[.string D, v]] w fun e w' => e = .returned (.bool (greatD D.data.toList L)) ∧ Below w.heap.size w w' := by
  obtain ⟨a, c, hv, hm, hcell⟩ := id h
  obtain ⟨n, hn⟩ : ∃ n, n = L.length := ⟨_, rfl⟩
  rw [← hn] at hv hm
  subst hv
  unfold maxLen at hm
  obtain ⟨R, hR⟩ : ∃ R, R = greatD D.data.toList L := ⟨_, rfl⟩
  rw [← hR]
  obtain ⟨W0, hW0⟩ : ∃ W0, W0 = w.alloc (.cells #[.string D, .slice a n c] 24) := ⟨_, rfl⟩
  have hB0 : Below w.heap.size w W0 := by rw [hW0]; exact (Below.refl _ _).alloc (Nat.le_refl _) _
  have hbx : BoxN W0 w.heap.size D (.slice a n c) := by rw [hW0]; exact boxN_new _ _ _
  obtain ⟨x0, x1⟩ := hbx.cells
  have HN := Lib.hid hn
  have HC := Lib.hid hcell
  have HB0 := Lib.hid hB0
  have HW0 := Lib.hid hW0.symm
  have HR := Lib.hid hR
  clear hcell hn hB0 hbx hW0 h hR
  go_enter Tryz.func9, Tryz.ntmps9
  go_upto_region 1 with (fail)
  rw [HW0.out]
  go_wp2
  go_loopw [3] (fun i wr => ∃ j : Nat, j ≤ n ∧ j ≤ 30 ∧ i = .int .i64 j ∧ Hid (∀ k (hk : k < L.length), k < j → badG L[k] = false) ∧ W0 = wr) (fun i wr => n - (intOf i).toNat)
  case atStart => exact ⟨0, by omega, by omega, rfl, Lib.hid (fun k _ h => absurd h (by omega)), rfl⟩
  case round =>
    obtain ⟨j, hj, hj3, rfl, HNo, rfl⟩ := hrel
    have tail : ∀ (h : ∀ k (hk : k < L.length), k < 30 → badG L[k] = false), R = (decide (25 < n) || decide (600 < D.size)) := fun h => by rw [HR.out, great_rest h, ← HN.out, bytes_len]
    by_cases hlt : j < n
    · have t1 : decide ((j : Int) < (n : Int)) = true := by simp; omega
      have t1' : decide (j < n) = true := by simpa using hlt
      have hlL : j < L.length := by rw [← HN.out]; exact hlt
      by_cases h30 : j < 30
      · have t2 : decide ((j : Int) < 30) = true := by simp; omega
        obtain ⟨b, off, u, rfl, hb0, c0, c1, hit⟩ := HC.out j hlL
        obtain ⟨V, hV⟩ : ∃ V, V = L[j].2 := ⟨_, rfl⟩
        rw [← hV] at hit
        obtain ⟨ua, uc, hu, hum, huc⟩ := hit
        obtain ⟨m, hml⟩ : ∃ m, m = V.length := ⟨_, rfl⟩
        rw [← hml] at hu hum
        subst hu
        unfold maxLen at hum
        obtain ⟨X, hX⟩ : ∃ X : ByteArray, ⟨L[j].1.toArray⟩ = X := ⟨_, rfl⟩
        have hXl : X.size = L[j].1.length := by rw [← bytes_len, ← hX]
        have d0 : (W0.cell? ⟨b, off + j * 2, none⟩) = some (.string X) := by
          rw [HB0.out.cell (p := ⟨b, off + j * 2, none⟩) hb0, c0, ← hX]; rfl
        have d1 : (W0.cell? ⟨b, off + j * 2 + 1, none⟩) = some (.slice ua m uc) := by
          rw [HB0.out.cell (p := ⟨b, off + j * 2 + 1, none⟩) hb0, c1]
        have HUc : Hid (∀ k (hk : k < V.length), ∃ vb vo, ua = some ⟨vb, vo, none⟩ ∧ ∃ Y : ByteArray, Y.size = V[k].length ∧ W0.cell? ⟨vb, vo + k, none⟩ = some (.string Y)) := Lib.hid (fun k hk => by
          obtain ⟨vb, vo, e, hvb, hc⟩ := huc k hk
          refine ⟨vb, vo, e, ⟨V[k].toArray⟩, by rw [← bytes_len], ?_⟩
          rw [HB0.out.cell (p := ⟨vb, _, none⟩) hvb, hc]
          rfl)
        have HXl := Lib.hid hXl
        have HV := Lib.hid hV
        have HMl := Lib.hid hml
        clear hX hXl hV hml huc c0 c1 tail
        by_cases h100 : 100 < X.size
        · have t3 : decide ((100 : Int) < (X.size : Int)) = true := by simp; omega
          have HE : Hid (R = true) := Lib.hid (by rw [HR.out]; refine great_bad hlL h30 ?_; unfold badG; rw [show decide (100 < L[j].1.length) = true from by simp; rw [← HXl.out]; exact h100]; rfl)
          clear h100
          go_wp2
          go_ret
          exact ⟨by rw [HE.out]; rfl, HB0.out⟩
        · have t3 : decide ((100 : Int) < (X.size : Int)) = false := by simp; omega
          by_cases h50 : 50 < m
          · have t4 : decide ((50 : Int) < (m : Int)) = true := by simp; omega
            have HE : Hid (R = true) := Lib.hid (by rw [HR.out]; refine great_bad hlL h30 ?_; unfold badG; rw [show decide (50 < L[j].2.length) = true from by simp; rw [← HV.out, ← HMl.out]; exact h50]; simp)
            clear h100 h50
            go_wp2
            go_ret
            exact ⟨by rw [HE.out]; rfl, HB0.out⟩
          · have t4 : decide ((50 : Int) < (m : Int)) = false := by simp; omega
            have HB1 : Hid (decide (100 < L[j].1.length) = false ∧ decide (50 < L[j].2.length) = false) := Lib.hid ⟨by simp; rw [← HXl.out]; omega, by simp; rw [← HV.out, ← HMl.out]; omega⟩
            have ti0 : (0 : Int) ≤ (j : Int) := by omega
            have ti1 : (j : Int) < (n : Int) := by omega
            clear h100 h50
            go_wp2
            clear t3 t4
            go_loopw [4] (fun i wr => ∃ k : Nat, k ≤ m ∧ i = .int .i64 k ∧ Hid (∀ q (hq : q < V.length), q < k → V[q].length ≤ 300) ∧ W0 = wr) (fun i wr => m - (intOf i).toNat)
            case atStart => exact ⟨0, by omega, rfl, Lib.hid (fun k _ h => absurd h (by omega)), rfl⟩
            case round =>
              obtain ⟨k, hk, rfl, HAl, rfl⟩ := hrel
              by_cases hkm : k < m
              · have r1 : decide ((k : Int) < (m : Int)) = true := by simp; omega
                have r1' : decide (k < m) = true := by simpa using hkm
                have r2 : (0 : Int) ≤ (k : Int) := by omega
                have r3 : (k : Int) < (m : Int) := by omega
                have hkV : k < V.length := by rw [← HMl.out]; exact hkm
                obtain ⟨vb, vo, rfl, Y, hY, hyc⟩ := HUc.out k hkV
                have HY := Lib.hid hY
                clear hY
                by_cases h300 : 300 < Y.size
                · have r4 : decide ((300 : Int) < (Y.size : Int)) = true := by simp; omega
                  have HE : Hid (R = true) := Lib.hid (by
                    rw [HR.out]
                    refine great_bad hlL h30 ?_
                    unfold badG
                    have : L[j].2.any (fun s => decide (300 < s.length)) = true := List.any_eq_true.2 ⟨V[k], by rw [← HV.out]; exact List.getElem_mem _, by simp; rw [← HY.out]; exact h300⟩
                    rw [this]
                    simp)
                  clear h300
                  go_wp2
                  go_ret
                  exact ⟨by rw [HE.out]; rfl, HB0.out⟩
                · have r4 : decide ((300 : Int) < (Y.size : Int)) = false := by simp; omega
                  have HA2 : Hid (∀ q (hq : q < V.length), q < k + 1 → V[q].length ≤ 300) := Lib.hid (fun q h1 h3 => by
                    by_cases hk : q < k
                    · exact HAl.out q h1 hk
                    · obtain rfl : q = k := by omega
                      rw [← HY.out]
                      omega)
                  clear h300 HAl
                  go_wp2
                  go_roundw
                  case rel => exact ⟨k + 1, by omega, by go_num, HA2, by first | rfl | trivial⟩
                  case measure => simp [intOf]; omega
              · obtain rfl : k = m := by omega
                have r1 : decide ((k : Int) < (k : Int)) = false := by simp
                have r1' : decide (k < k) = false := by simp
                have HA2 : Hid (∀ q (hq : q < L.length), q < j + 1 → badG L[q] = false) := Lib.hid (fun q h1 h3 => by
                  by_cases hk : q < j
                  · exact HNo.out q h1 hk
                  · obtain rfl : q = j := by omega
                    unfold badG
                    rw [HB1.out.1, HB1.out.2]
                    have : L[q].2.any (fun s => decide (300 < s.length)) = false := by
                      rw [← HV.out, List.any_eq_false]
                      intro s hs
                      obtain ⟨x, hx, rfl⟩ := List.getElem_of_mem hs
                      have := HAl.out x hx (by rw [HMl.out]; exact hx)
                      simp
                      omega
                    rw [this]
                    rfl)
                clear HAl HNo
                go_wp2
                go_roundw
                case rel => exact ⟨j + 1, by omega, by omega, by go_num, HA2, by first | rfl | trivial⟩
                case measure => simp [intOf]; omega
      · have t2 : decide ((j : Int) < 30) = false := by simp; omega
        have HT := Lib.hid (tail (fun k hk h3 => HNo.out k hk (by omega)))
        have t5 : decide ((25 : Int) < (n : Int)) = true := by simp; omega
        have HE : Hid (R = true) := Lib.hid (by rw [HT.out, show decide (25 < n) = true from by simp; omega]; rfl)
        clear tail
        go_wp2
        go_ret
        exact ⟨by rw [HE.out]; rfl, HB0.out⟩
    · obtain rfl : j = n := by omega
      have t1 : decide ((j : Int) < (j : Int)) = false := by simp
      have t1' : decide (j < j) = false := by simp
      have HT := Lib.hid (tail (fun k hk h3 => HNo.out k hk (by rw [HN.out]; exact hk)))
      clear tail
      by_cases h25 : 25 < j
      · have t5 : decide ((25 : Int) < (j : Int)) = true := by simp; omega
        have HE : Hid (R = true) := Lib.hid (by rw [HT.out, show decide (25 < j) = true from by simp; omega]; rfl)
        clear h25
        go_wp2
        go_ret
        exact ⟨by rw [HE.out]; rfl, HB0.out⟩
      · have t5 : decide ((25 : Int) < (j : Int)) = false := by simp; omega
        have HE : Hid (R = decide (600 < D.size)) := Lib.hid (by rw [HT.out, show decide (25 < j) = false from by simp; omega]; rfl)
        clear h25
        by_cases h6 : 600 < D.size
        · have t6 : decide ((600 : Int) < (D.size : Int)) = true := by simp; omega
          have HE2 : Hid (R = true) := Lib.hid (by rw [HE.out]; simpa using h6)
          clear h6
          go_wp2
          go_ret
          exact ⟨by rw [HE2.out]; rfl, HB0.out⟩
        · have t6 : decide ((600 : Int) < (D.size : Int)) = false := by simp; omega
          have HE2 : Hid (R = false) := Lib.hid (by rw [HE.out]; simpa using h6)
          clear h6
          go_wp2
          go_ret
          exact ⟨by rw [HE2.out]; rfl, HB0.out⟩
end Go.Proofs.YtofmpaphafhdpaaGreatDoor

/- Two lists of texts, two entries: are they one? The program's and the document's: the walks. -/
namespace Go.Proofs.YtofmpaphafhdpaaGreatDoor
open Go.RowKit
set_option linter.unusedVariables false

set_option maxRecDepth 100000 in
set_option maxHeartbeats 2000000 in
theorem textsRef_q (L M : List (List UInt8)) (hs : L.length ≤ 1000000) (v u : Value) (w : World) (hL : IsT w.heap.size w L v) (hM : IsT w.heap.size w M u) :
    Calls Tryz.prog 15 #[v, u] w fun e w' => e = .returned (.bool (L == M)) ∧ ∃ m, w' = w.drewN m := by
  obtain ⟨a, c, rfl, hm, hcell⟩ := hL
  obtain ⟨b, d, rfl, hm2, hcell2⟩ := hM
  unfold maxLen at hm hm2
  have HC := Lib.hid hcell
  have HD := Lib.hid hcell2
  obtain ⟨R, hR⟩ : ∃ R, R = (L == M) := ⟨_, rfl⟩
  rw [← hR]
  have HR := Lib.hid hR
  clear hcell hcell2 hR
  by_cases hlen : L.length = M.length
  · have t0 : ((L.length : Int) != (M.length : Int)) = false := by simp [hlen]
    have t0' : ((M.length : Int) != (M.length : Int)) = false := by simp
    obtain ⟨n, hn⟩ : ∃ n, n = L.length := ⟨_, rfl⟩
    have hn2 : n = M.length := hn.trans hlen
    have HN := Lib.hid hn
    have HN2 := Lib.hid hn2
    have hn5 : n ≤ 1000000 := by omega
    rw [← hn, ← hn2]
    clear t0 t0' hlen hn hn2 hm hm2 hs
    go_enter Tryz.func15, Tryz.ntmps15
    go_wp2
    go_loopw [5] (fun i wr => ∃ j : Nat, j ≤ n ∧ i = .int .i64 j ∧ Hid (∀ k (h1 : k < L.length) (h2 : k < M.length), k < j → L[k] = M[k]) ∧ ∃ q, wr = w.drewN q) (fun i wr => n - (intOf i).toNat)
    case atStart => exact ⟨0, by omega, rfl, Lib.hid (fun k _ _ h => absurd h (by omega)), 0, rfl⟩
    case round =>
      obtain ⟨j, hj, rfl, HAll, q, rfl⟩ := hrel
      by_cases hlt : j < n
      · have t1 : decide ((j : Int) < (n : Int)) = true := by simp; omega
        have t1' : decide (j < n) = true := by simpa using hlt
        have q1 : (j : Int) < (n : Int) := by omega
        have hl1 : j < L.length := by rw [← HN.out]; exact hlt
        have hl2 : j < M.length := by rw [← HN2.out]; exact hlt
        obtain ⟨b1, f1, rfl, hb1, x0⟩ := HC.out j hl1
        obtain ⟨b2, f2, rfl, hb2, y0⟩ := HD.out j hl2
        obtain ⟨X, hX⟩ : ∃ X : ByteArray, ofL L[j] = X := ⟨_, rfl⟩
        obtain ⟨Y, hY⟩ : ∃ Y : ByteArray, ofL M[j] = Y := ⟨_, rfl⟩
        have gX : X.data.toList = L[j] := by rw [← hX, ofL_list]
        have gY : Y.data.toList = M[j] := by rw [← hY, ofL_list]
        have d0 : w.cell? ⟨b1, f1 + j, none⟩ = some (.string X) := by rw [x0, ← hX]; rfl
        have d1 : w.cell? ⟨b2, f2 + j, none⟩ = some (.string Y) := by rw [y0, ← hY]; rfl
        have GX := Lib.hid gX
        have GY := Lib.hid gY
        clear x0 y0 hX hY gX gY
        by_cases he : X = Y
        · subst he
          have HN1 : Hid (∀ k (h1 : k < L.length) (h2 : k < M.length), k < j + 1 → L[k] = M[k]) := Lib.hid (fun k h1 h2 h3 => by
            by_cases hk : k < j
            · exact HAll.out k h1 h2 hk
            · obtain rfl : k = j := by omega
              rw [← GX.out, ← GY.out])
          clear GX GY hl1 hl2
          go_wp2
          go_quiet (fail)
          go_wp2
          go_roundw
          case rel => exact ⟨j + 1, by omega, by go_num, HN1, _, rfl⟩
          case measure => simp [intOf]; omega
        · have t2 := str_ne he
          have HF : Hid (R = false) := Lib.hid (HR.out.trans (by
            have : L ≠ M := fun e => by
              subst e
              exact he (bytes_ext (by rw [GX.out, GY.out]))
            simpa using this))
          clear GX GY he hl1 hl2
          go_wp2
          go_quiet (fail)
          go_wp2
          go_ret
          exact ⟨by rw [HF.out]; rfl, _, World.drewN_drewN ..⟩
      · obtain rfl : j = n := by omega
        have t1 : decide ((j : Int) < (j : Int)) = false := by simp
        have t1' : decide (j < j) = false := by simp
        have HF : Hid (R = true) := Lib.hid (HR.out.trans (by
          have : L = M := List.ext_getElem (by rw [← HN.out, ← HN2.out]) (fun k h1 h2 => HAll.out k h1 h2 (by rw [HN.out]; exact h1))
          simp [this]))
        go_wp2
        go_ret
        exact ⟨by rw [HF.out]; rfl, _, rfl⟩
  · have t0 : ((L.length : Int) != (M.length : Int)) = true := by simp; omega
    have HF : Hid (R = false) := Lib.hid (HR.out.trans (by
      have : L ≠ M := fun e => hlen (by rw [e])
      simpa using this))
    clear hlen
    go_enter Tryz.func15, Tryz.ntmps15
    go_wp2
    go_ret
    exact ⟨by rw [HF.out]; rfl, 0, rfl⟩

set_option maxRecDepth 100000 in
set_option maxHeartbeats 2000000 in
theorem equalT_any (L M : List (List UInt8)) (hs : L.length ≤ 1000000) (v u : Value) (w : World) (hL : IsT w.heap.size w L v) (hM : IsT w.heap.size w M u) :
    Calls Tryz.prog 100 #[v, u] w fun e w' => e = .returned (.bool (L == M)) ∧ Below w.heap.size w w' := by
  obtain ⟨a, c, rfl, hm, hcell⟩ := hL
  obtain ⟨b, d, rfl, hm2, hcell2⟩ := hM
  unfold maxLen at hm hm2
  have HC := Lib.hid hcell
  have HD := Lib.hid hcell2
  obtain ⟨R, hR⟩ : ∃ R, R = (L == M) := ⟨_, rfl⟩
  rw [← hR]
  have HR := Lib.hid hR
  clear hcell hcell2 hR
  by_cases hlen : L.length = M.length
  · have t0 : ((L.length : Int) != (M.length : Int)) = false := by simp [hlen]
    have t0' : ((M.length : Int) != (M.length : Int)) = false := by simp
    obtain ⟨n, hn⟩ : ∃ n, n = L.length := ⟨_, rfl⟩
    have hn2 : n = M.length := hn.trans hlen
    have HN := Lib.hid hn
    have HN2 := Lib.hid hn2
    have hn5 : n ≤ 1000000 := by omega
    rw [← hn, ← hn2]
    clear t0 t0' hlen hn hn2 hm hm2 hs
    go_enter Tryz.func100, Tryz.ntmps100
    go_wp2
    go_loopw [13] (fun i wr => ∃ j : Nat, j ≤ n ∧ i = .int .i64 j ∧ Hid (∀ k (h1 : k < L.length) (h2 : k < M.length), k < j → L[k] = M[k]) ∧ Below w.heap.size w wr) (fun i wr => n - (intOf i).toNat)
    case atStart => exact ⟨0, by omega, rfl, Lib.hid (fun k _ _ h => absurd h (by omega)), Below.refl _ _⟩
    case round =>
      obtain ⟨j, hj, rfl, HAll, hbel⟩ := hrel
      have HBel := Lib.hid hbel
      by_cases hlt : j < n
      · have t1 : decide ((j : Int) < (n : Int)) = true := by simp; omega
        have t1' : decide (j < n) = true := by simpa using hlt
        have q1 : (j : Int) < (n : Int) := by omega
        have hl1 : j < L.length := by rw [← HN.out]; exact hlt
        have hl2 : j < M.length := by rw [← HN2.out]; exact hlt
        obtain ⟨b1, f1, rfl, hb1, x0⟩ := HC.out j hl1
        obtain ⟨b2, f2, rfl, hb2, y0⟩ := HD.out j hl2
        obtain ⟨X, hX⟩ : ∃ X : ByteArray, ofL L[j] = X := ⟨_, rfl⟩
        obtain ⟨Y, hY⟩ : ∃ Y : ByteArray, ofL M[j] = Y := ⟨_, rfl⟩
        have gX : X.data.toList = L[j] := by rw [← hX, ofL_list]
        have gY : Y.data.toList = M[j] := by rw [← hY, ofL_list]
        have d0 : wr.cell? ⟨b1, f1 + j, none⟩ = some (.string X) := by rw [hbel.cell (p := ⟨b1, _, none⟩) hb1, x0, ← hX]; rfl
        have d1 : wr.cell? ⟨b2, f2 + j, none⟩ = some (.string Y) := by rw [hbel.cell (p := ⟨b2, _, none⟩) hb2, y0, ← hY]; rfl
        have GX := Lib.hid gX
        have GY := Lib.hid gY
        clear x0 y0 hX hY gX gY hbel
        by_cases he : X = Y
        · subst he
          have HN1 : Hid (∀ k (h1 : k < L.length) (h2 : k < M.length), k < j + 1 → L[k] = M[k]) := Lib.hid (fun k h1 h2 h3 => by
            by_cases hk : k < j
            · exact HAll.out k h1 h2 hk
            · obtain rfl : k = j := by omega
              rw [← GX.out, ← GY.out])
          clear GX GY hl1 hl2
          go_wp2
          go_quiet (fail)
          go_wp2
          go_roundw
          case rel => exact ⟨j + 1, by omega, by go_num, HN1, below_drewN HBel.out _⟩
          case measure => simp [intOf]; omega
        · have t2 := str_ne he
          have HF : Hid (R = false) := Lib.hid (HR.out.trans (by
            have : L ≠ M := fun e => by
              subst e
              exact he (bytes_ext (by rw [GX.out, GY.out]))
            simpa using this))
          clear GX GY he hl1 hl2
          go_wp2
          go_quiet (fail)
          go_wp2
          go_ret
          exact ⟨by rw [HF.out]; rfl, below_drewN HBel.out _⟩
      · obtain rfl : j = n := by omega
        have t1 : decide ((j : Int) < (j : Int)) = false := by simp
        have t1' : decide (j < j) = false := by simp
        have HF : Hid (R = true) := Lib.hid (HR.out.trans (by
          have : L = M := List.ext_getElem (by rw [← HN.out, ← HN2.out]) (fun k h1 h2 => HAll.out k h1 h2 (by rw [HN.out]; exact h1))
          simp [this]))
        clear hbel
        go_wp2
        go_ret
        exact ⟨by rw [HF.out]; rfl, HBel.out⟩
  · have t0 : ((L.length : Int) != (M.length : Int)) = true := by simp; omega
    have HF : Hid (R = false) := Lib.hid (HR.out.trans (by
      have : L ≠ M := fun e => hlen (by rw [e])
      simpa using this))
    clear hlen
    go_enter Tryz.func100, Tryz.ntmps100
    go_wp2
    go_ret
    exact ⟨by rw [HF.out]; rfl, Below.refl _ _⟩
end Go.Proofs.YtofmpaphafhdpaaGreatDoor

/- SchemaAll: the walk. -/
namespace Go.Proofs.YtofmpaphafhdpaaGreatDoor
open Go.RowKit
set_option linter.unusedVariables false

theorem fsteps_plain : ∀ (l : List UInt8) (st : List UInt8), (∀ c ∈ l, c.toNat ≠ 32) → (l.foldl fstep (st, false)) = (st ++ low l, false)
  | [], st, _ => by simp [low]
  | c :: l, st, h => by
    rw [List.foldl_cons, fstep_other _ c (h c (by simp))]
    simp only [Bool.false_eq_true, if_false, List.append_nil]
    rw [fsteps_plain l _ (fun d hd => h d (by simp [hd]))]
    simp [low]
theorem fold_plain {l : List UInt8} (h : ∀ c ∈ l, c.toNat ≠ 32) : fold l = low l := by
  show (l.foldl fstep ([], false)).1 = _
  rw [fsteps_plain l [] h]
  rfl
theorem find_long {n : List UInt8} (h : 18 < n.length) : findC n = none := by
  cases e : findC n with
  | none => rfl
  | some c =>
    have h1 := findC_mem e
    have : (classL.all fun c => decide (c.name.length ≤ 18)) = true := by decide
    have h2 := List.all_eq_true.1 this c h1.1
    simp only [decide_eq_true_eq] at h2
    rw [h1.2] at h2
    omega
theorem find_blank {n : List UInt8} (h : (32 : UInt8) ∈ n) : findC n = none := by
  cases e : findC n with
  | none => rfl
  | some c =>
    have h1 := findC_mem e
    have : (classL.all fun c => !c.name.contains (32 : UInt8)) = true := by decide
    have h2 := List.all_eq_true.1 this c h1.1
    rw [h1.2] at h2
    simp at h2
    exact absurd h h2
theorem findE_low (n : List UInt8) : findE n = findC (low n) := by
  unfold findE
  by_cases h : 18 < n.length
  · rw [if_pos h, find_long (by simp [low]; exact h)]
  · rw [if_neg h]
    by_cases hb : (32 : UInt8) ∈ n
    · have hi : 0 ≤ Lib.indexByte n 32 := by
        have := Lib.contains_iff_indexByte n 32
        rw [List.contains_iff_mem.2 hb] at this
        simpa using this.symm
      rw [if_pos hi, find_blank (by unfold low; exact List.mem_map.2 ⟨32, hb, by decide⟩)]
    · have hi : ¬ 0 ≤ Lib.indexByte n 32 := by
        have := Lib.contains_iff_indexByte n 32
        intro h0
        rw [decide_eq_true h0] at this
        exact hb (List.contains_iff_mem.1 this)
      rw [if_neg hi, fold_plain]
      intro c hc e
      apply hb
      have : c = 32 := UInt8.toNat_inj.1 e
      rw [← this]; exact hc

set_option maxRecDepth 100000 in
set_option maxHeartbeats 8000000 in
theorem all4_walk (D nm : ByteArray) (L : List AT) (v : Value) (w : World) (hw : LaidW w) (hl : LaidF w) (h : IsA w.heap.size w L v) :
    Calls Tryz.prog 3 #[.agg #[.string D, v], .string nm] w fun e w' => e = .returned (.bool true) ∧ Below w.heap.size w w' := by
  obtain ⟨a, c, hv, hm, _⟩ := id h
  obtain ⟨n, hn⟩ : ∃ n, n = L.length := ⟨_, rfl⟩
  rw [← hn] at hv hm
  subst hv
  unfold maxLen at hm
  obtain ⟨W0, hW0⟩ : ∃ W0, W0 = w.alloc (.cells #[.string D, .slice a n c] 24) := ⟨_, rfl⟩
  have hB0 : Below w.heap.size w W0 := by rw [hW0]; exact (Below.refl _ _).alloc (Nat.le_refl _) _
  have hbx : BoxN W0 w.heap.size D (.slice a n c) := by rw [hW0]; exact boxN_new _ _ _
  have hz0 : W0.heap.size = w.heap.size + 1 := by rw [hW0]; simp
  obtain ⟨x0, x1⟩ := hbx.cells
  have hgr := great_any D L (.slice a n c) W0 (h.below hB0 hB0.size)
  have HAw := Lib.hid (fun W (hb : Below w.heap.size w W) => awake4_any W (hw.below hb) (hl.below hb))
  have HW := Lib.hid hw
  have HL := Lib.hid hl
  have HB0 := Lib.hid hB0
  have HBx := Lib.hid hbx
  have HW0 := Lib.hid hW0.symm
  have HA := Lib.hid h
  clear hn hB0 hbx hW0 h hw hl
  cases hg : greatD D.data.toList L with
  | true =>
    rw [hg] at hgr
    have HGr := Lib.hid hgr
    clear hgr hg
    go_enter Tryz.func3, Tryz.ntmps3
    go_upto_region 1 with (fail)
    rw [HW0.out]
    go_wp2_with (first
      | (go_at_call 9; refine (HGr.out).mono ?_; rintro e w2 ⟨rfl, hb2⟩; have HB2 := Lib.hid (HB0.out.trans (hb2.mono HB0.out.size)); clear hb2)
      | (go_at_call 10; refine (HAw.out _ HB2.out).mono ?_; rintro e w3 ⟨rfl, hb3⟩; have HB3 := Lib.hid (bthen HB2.out hb3); clear hb3))
    go_ret
    exact ⟨rfl, HB3.out⟩
  | false =>
    rw [hg] at hgr
    have HGr := Lib.hid hgr
    obtain ⟨g1, g2, g3⟩ := great_no hg
    have hD : D.size ≤ 600 := by rw [← bytes_len]; exact g2
    have hs : smallA L := ⟨by omega, fun x hx => ⟨by have := (g3 x hx).1; omega, by have := (g3 x hx).2.1; omega, fun s hs => by have := (g3 x hx).2.2 s hs; omega⟩⟩
    have HS := Lib.hid hs
    clear hgr hg g1 g2 g3 hs
    by_cases h100 : 100 < nm.size
    · have t1 : decide ((100 : Int) < (nm.size : Int)) = true := by simp; omega
      clear h100
      go_enter Tryz.func3, Tryz.ntmps3
      go_upto_region 1 with (fail)
      rw [HW0.out]
      go_wp2_with (first
        | (go_at_call 9; refine (HGr.out).mono ?_; rintro e w2 ⟨rfl, hb2⟩; have HB2 := Lib.hid (HB0.out.trans (hb2.mono HB0.out.size)); clear hb2)
        | (go_at_call 10; refine (HAw.out _ HB2.out).mono ?_; rintro e w3 ⟨rfl, hb3⟩; have HB3 := Lib.hid (bthen HB2.out hb3); clear hb3))
      go_ret
      exact ⟨rfl, HB3.out⟩
    · have t1 : decide ((100 : Int) < (nm.size : Int)) = false := by simp; omega
      have hfe := fun W (h : LaidF W) => findE_any nm W h
      have hfc := fun W => findClassRef_any nm (by omega) W
      rw [findE_low] at hfe
      obtain ⟨cd, hcd⟩ : ∃ x, x = checkD D.data.toList L := ⟨_, rfl⟩
      have HCd := Lib.hid hcd
      clear hcd h100
      cases hq : findC (low nm.data.toList) with
      | none =>
        rw [hq] at hfe hfc
        have HFe := Lib.hid hfe
        have HFc := Lib.hid hfc
        clear hfe hfc hq
        go_enter Tryz.func3, Tryz.ntmps3
        go_upto_region 1 with (fail)
        rw [HW0.out]
        go_upto_region 5 with (first
          | (go_at_call 9; refine (HGr.out).mono ?_; rintro e w2 ⟨rfl, hb2⟩; have HB2 := Lib.hid hb2; clear hb2)
          | (go_at_call 11; refine (HFe.out _ (HL.out.below (HB0.out.trans (HB2.out.mono HB0.out.size)))).mono ?_; rintro e w3 hfw; (simp only [FindW, noC] at hfw); (obtain ⟨hb3, rfl⟩ := hfw); have HB3 := Lib.hid (bthen HB2.out hb3); clear hb3)
          | (go_at_call 12; refine (HFc.out _).mono ?_; rintro e w4 hfw; (simp only [FndR] at hfw); (obtain ⟨hb4, rfl⟩ := hfw); have HB4 := Lib.hid hb4; clear hb4))
        obtain ⟨N, hN⟩ : ∃ X : ByteArray, X = ⟨#[]⟩ := ⟨_, rfl⟩
        have hc5 := boxC_new w3 (.string ⟨#[]⟩) (.string ⟨#[]⟩) (.bool false) (.slice none 0 0) (.slice none 0 0)
        have hb3' : Below w3.heap.size w3 (w3.alloc (.cells #[.string ⟨#[]⟩, .string ⟨#[]⟩, .bool false, .slice none 0 0, .slice none 0 0] 29)) := (Below.refl _ _).alloc (Nat.le_refl _) _
        have hc6 := boxF_new w4 (.string ⟨#[]⟩) (.string ⟨#[]⟩) (.bool false) (.slice none 0 0) (.slice none 0 0) (.bool false)
        have hb4' : Below w4.heap.size w4 (w4.alloc (.cells #[.string ⟨#[]⟩, .string ⟨#[]⟩, .bool false, .slice none 0 0, .slice none 0 0, .bool false] 33)) := (Below.refl _ _).alloc (Nat.le_refl _) _
        have htx := fun W => textsRef_q [] [] (by simp) (.slice none 0 0) (.slice none 0 0) W (isT_nil _ _ _ _) (isT_nil _ _ _ _)
        have HT1 := Lib.hid (fun W (hb : At9 (w4.alloc (.cells #[.string ⟨#[]⟩, .string ⟨#[]⟩, .bool false, .slice none 0 0, .slice none 0 0, .bool false] 33)) W) => htx W)
        have HT2 := HT1
        clear hN
        have hb5 := bthen (bthen hb3' HB4.out) hb4'
        have hc5b := hc5.below (bthen HB4.out hb4') (by simp)
        have hB3 := HB0.out.trans (HB3.out.mono HB0.out.size)
        have hB5 := bthen hB3 hb5
        have hbx5 := HBx.out.below (bthen HB3.out hb5) (by omega)
        generalize w4.alloc (.cells #[.string ⟨#[]⟩, .string ⟨#[]⟩, .bool false, .slice none 0 0, .slice none 0 0, .bool false] 33) = W5 at hb5 hc5b hc6 hB5 hbx5 HT1 HT2 ⊢
        obtain ⟨g5, hg5⟩ : ∃ g, g = w3.heap.size := ⟨_, rfl⟩
        obtain ⟨g6, hg6⟩ : ∃ g, g = w4.heap.size := ⟨_, rfl⟩
        rw [← hg5] at hc5b
        rw [← hg6] at hc6
        rw [← hg5, ← hg6]
        have hw5 := (Array.getElem?_eq_some_iff.1 hbx5).1
        have hq5 := (Array.getElem?_eq_some_iff.1 hc5b).1
        have hq6 := (Array.getElem?_eq_some_iff.1 hc6).1
        have HKp : Hid (∀ wx, At9 W5 wx → (wx.cell? ⟨w.heap.size, 0, none⟩ = some (.string D) ∧ wx.cell? ⟨w.heap.size, 1, none⟩ = some (.slice a n c) ∧ wx.cell? ⟨g5, 0, none⟩ = some (.string ⟨#[]⟩) ∧ wx.cell? ⟨g5, 1, none⟩ = some (.string ⟨#[]⟩) ∧ wx.cell? ⟨g5, 2, none⟩ = some (.bool false) ∧ wx.cell? ⟨g5, 3, none⟩ = some (.slice none 0 0) ∧ wx.cell? ⟨g5, 4, none⟩ = some (.slice none 0 0) ∧ wx.cell? ⟨g6, 0, none⟩ = some (.string ⟨#[]⟩) ∧ wx.cell? ⟨g6, 1, none⟩ = some (.string ⟨#[]⟩) ∧ wx.cell? ⟨g6, 2, none⟩ = some (.bool false) ∧ wx.cell? ⟨g6, 3, none⟩ = some (.slice none 0 0) ∧ wx.cell? ⟨g6, 4, none⟩ = some (.slice none 0 0) ∧ wx.cell? ⟨g6, 5, none⟩ = some (.bool false) ∧ At9 W5 wx)) := Lib.hid (fun wx hb => by
          obtain ⟨a0, a1⟩ := (hbx5.below hb hw5).cells
          obtain ⟨b0, b1, b2, b3, b4⟩ := (hc5b.below hb hq5).cells
          obtain ⟨d0, d1, d2, d3, d4, d5⟩ := (hc6.below hb hq6).cells
          exact ⟨a0, a1, b0, b1, b2, b3, b4, d0, d1, d2, d3, d4, d5, hb⟩)
        have hst5 := HKp.out W5.drew (Below.refl W5.heap.size W5).drew
        have HA5 : Hid (∀ W, At9 W5 W → LaidW W ∧ LaidF W) := Lib.hid (fun W hb => ⟨HW.out.below (bthen hB5 hb), HL.out.below (bthen hB5 hb)⟩)
        have HI5 : Hid (∀ W, At9 W5 W → IsA W.heap.size W L (.slice a n c)) := Lib.hid (fun W hb => (HA.out.below hB5 hB5.size).below hb hb.size)
        have HCe := Lib.hid (fun W (hb : At9 W5 W) => show Calls Tryz.prog 13 #[.agg #[.string D, .slice a n c]] W fun e w' => e = .returned (.int .i64 cd) ∧ Below W.heap.size W w' from by rw [HCd.out]; exact checkE_any D (by omega) L (.slice a n c) W (HA5.out W hb).1 (HA5.out W hb).2 (HI5.out W hb))
        have HCr := Lib.hid (fun W (hb : At9 W5 W) => show Calls Tryz.prog 14 #[.agg #[.string D, .slice a n c]] W fun e w' => e = .returned (.int .i64 cd) ∧ Below W.heap.size W w' from by rw [HCd.out]; exact checkRef_any D (by omega) L HS.out (.slice a n c) W (HI5.out W hb))
        have HX1 := Lib.hid (fun W (hb : At9 W5 W) => show Calls Tryz.prog 15 #[.slice none 0 0, .slice none 0 0] W fun e w' => e = .returned (.bool true) ∧ Below W.heap.size W w' from (HT1.out W hb).mono (by rintro e w' ⟨rfl, q, rfl⟩; exact ⟨by simp, below_drewN (Below.refl _ _) q⟩))
        have HX2 := Lib.hid (fun W (hb : At9 W5 W) => show Calls Tryz.prog 15 #[.slice none 0 0, .slice none 0 0] W fun e w' => e = .returned (.bool true) ∧ Below W.heap.size W w' from (HT2.out W hb).mono (by rintro e w' ⟨rfl, q, rfl⟩; exact ⟨by simp, below_drewN (Below.refl _ _) q⟩))
        have HCa := Lib.hid (fun W (hb : At9 W5 W) => awake4_any W (HA5.out W hb).1 (HA5.out W hb).2)
        have HB5 := Lib.hid hB5
        have hcc : ((cd : Int) == cd) = true := by simp
        clear hb5 hc5b hc5 hb3' hb4' hc6 hB3 hB5 hbx5 hg5 hg6 hw5 hq5 hq6 x0 x1
        go_region_held3 (fun w' => w'.cell? ⟨w.heap.size, 0, none⟩ = some (.string D) ∧ w'.cell? ⟨w.heap.size, 1, none⟩ = some (.slice a n c) ∧ w'.cell? ⟨g5, 0, none⟩ = some (.string ⟨#[]⟩) ∧ w'.cell? ⟨g5, 1, none⟩ = some (.string ⟨#[]⟩) ∧ w'.cell? ⟨g5, 2, none⟩ = some (.bool false) ∧ w'.cell? ⟨g5, 3, none⟩ = some (.slice none 0 0) ∧ w'.cell? ⟨g5, 4, none⟩ = some (.slice none 0 0) ∧ w'.cell? ⟨g6, 0, none⟩ = some (.string ⟨#[]⟩) ∧ w'.cell? ⟨g6, 1, none⟩ = some (.string ⟨#[]⟩) ∧ w'.cell? ⟨g6, 2, none⟩ = some (.bool false) ∧ w'.cell? ⟨g6, 3, none⟩ = some (.slice none 0 0) ∧ w'.cell? ⟨g6, 4, none⟩ = some (.slice none 0 0) ∧ w'.cell? ⟨g6, 5, none⟩ = some (.bool false) ∧ At9 W5 w') (first | (with_reducible exact hst5) | (go_split_ands; exact HKp.out _ (At9.go (by assumption) hbx)))
          (first
            | (go_at_call 13; go_split_ands; (with_reducible refine (HCe.out _ (by assumption)).mono ?_); rintro e wx ⟨rfl, hbx⟩)
            | (go_at_call 14; go_split_ands; (with_reducible refine (HCr.out _ (by assumption)).mono ?_); rintro e wx ⟨rfl, hbx⟩)
            | (go_at_call 15; go_split_ands; (with_reducible refine (HX1.out _ (by assumption)).mono ?_); rintro e wx ⟨rfl, hbx⟩)
            | (go_at_call 15; go_split_ands; (with_reducible refine (HX2.out _ (by assumption)).mono ?_); rintro e wx ⟨rfl, hbx⟩)
            | (go_at_call 10; go_split_ands; (with_reducible refine (HCa.out _ (by assumption)).mono ?_); rintro e wx ⟨rfl, hbx⟩))
        all_goals
          go_split_ands
          have hT : At9 W5 wx := by assumption
          go_wp2
          go_ret
          exact ⟨rfl, bthen HB5.out hT⟩
      | some k =>
        rw [hq] at hfe hfc
        obtain ⟨N, hN⟩ : ∃ X : ByteArray, X = ⟨k.name.toArray⟩ := ⟨_, rfl⟩
        obtain ⟨S, hS⟩ : ∃ X : ByteArray, X = ⟨k.sup.toArray⟩ := ⟨_, rfl⟩
        obtain ⟨st, hst⟩ : ∃ s, s = k.st := ⟨_, rfl⟩
        have hkm := cls_len k (findC_mem hq).1
        have HKm := Lib.hid hkm
        have HFe := Lib.hid hfe
        have HFc := Lib.hid hfc
        have HN := Lib.hid hN
        have HSS := Lib.hid hS
        have HST := Lib.hid hst
        clear hfe hfc hq hN hS hst hkm
        go_enter Tryz.func3, Tryz.ntmps3
        go_upto_region 1 with (fail)
        rw [HW0.out]
        go_upto_region 5 with (first
          | (go_at_call 9; refine (HGr.out).mono ?_; rintro e w2 ⟨rfl, hb2⟩; have HB2 := Lib.hid hb2; clear hb2)
          | (go_at_call 11; refine (HFe.out _ (HL.out.below (HB0.out.trans (HB2.out.mono HB0.out.size)))).mono ?_; rintro e w3 hfw; (simp only [FindW, strV, ← HN.out, ← HSS.out, ← HST.out] at hfw); (obtain ⟨hb3, u1, u2, rfl, hu1, hu2⟩ := hfw); (obtain ⟨xa, xn, xc, hx1⟩ := isTo_slice hu1); subst hx1; (obtain ⟨ya, yn, yc, hx2⟩ := isTo_slice hu2); subst hx2; have HU1 := Lib.hid hu1; have HU2 := Lib.hid hu2; have HB3 := Lib.hid (bthen HB2.out hb3); clear hb3 hu1 hu2)
          | (go_at_call 12; refine (HFc.out _).mono ?_; rintro e w4 hfw; (simp only [FndR, strV, ← HN.out, ← HSS.out, ← HST.out] at hfw); (obtain ⟨hb4, u3, u4, rfl, hu3, hu4⟩ := hfw); (obtain ⟨za, zn, zc, hx3⟩ := isTo_slice hu3); subst hx3; (obtain ⟨ta, tn, tc, hx4⟩ := isTo_slice hu4); subst hx4; have HU3 := Lib.hid hu3; have HU4 := Lib.hid hu4; have HB4 := Lib.hid hb4; clear hb4 hu3 hu4))
        have hc5 := boxC_new w3 (.string N) (.string S) (.bool st) (.slice xa xn xc) (.slice ya yn yc)
        have hb3' : Below w3.heap.size w3 (w3.alloc (.cells #[.string N, .string S, .bool st, .slice xa xn xc, .slice ya yn yc] 29)) := (Below.refl _ _).alloc (Nat.le_refl _) _
        have hc6 := boxF_new w4 (.string N) (.string S) (.bool st) (.slice za zn zc) (.slice ta tn tc) (.bool true)
        have hb4' : Below w4.heap.size w4 (w4.alloc (.cells #[.string N, .string S, .bool st, .slice za zn zc, .slice ta tn tc, .bool true] 33)) := (Below.refl _ _).alloc (Nat.le_refl _) _
        have hb34 := bthen (bthen hb3' HB4.out) hb4'
        have i1 : IsT w3.heap.size w3 k.mustL (.slice xa xn xc) := HU1.out.to (fun b hb => hb.2)
        have i2 : IsT w3.heap.size w3 k.mayL (.slice ya yn yc) := HU2.out.to (fun b hb => hb.2)
        have i3 : IsT w4.heap.size w4 k.mustL (.slice za zn zc) := HU3.out.to (fun b hb => hb.2)
        have i4 : IsT w4.heap.size w4 k.mayL (.slice ta tn tc) := HU4.out.to (fun b hb => hb.2)
        have j1 := i1.below hb34 hb34.size
        have j2 := i2.below hb34 hb34.size
        have j3 := i3.below hb4' hb4'.size
        have j4 := i4.below hb4' hb4'.size
        have HT1 := Lib.hid (fun W (hb : At9 (w4.alloc (.cells #[.string N, .string S, .bool st, .slice za zn zc, .slice ta tn tc, .bool true] 33)) W) => textsRef_q k.mustL k.mustL (by have := HKm.out.1; omega) (.slice xa xn xc) (.slice za zn zc) W (j1.below hb hb.size) (j3.below hb hb.size))
        have HT2 := Lib.hid (fun W (hb : At9 (w4.alloc (.cells #[.string N, .string S, .bool st, .slice za zn zc, .slice ta tn tc, .bool true] 33)) W) => textsRef_q k.mayL k.mayL (by have := HKm.out.2; omega) (.slice ya yn yc) (.slice ta tn tc) W (j2.below hb hb.size) (j4.below hb hb.size))
        clear i1 i2 i3 i4 j1 j2 j3 j4 hb34
        have hb5 := bthen (bthen hb3' HB4.out) hb4'
        have hc5b := hc5.below (bthen HB4.out hb4') (by simp)
        have hB3 := HB0.out.trans (HB3.out.mono HB0.out.size)
        have hB5 := bthen hB3 hb5
        have hbx5 := HBx.out.below (bthen HB3.out hb5) (by omega)
        generalize w4.alloc (.cells #[.string N, .string S, .bool st, .slice za zn zc, .slice ta tn tc, .bool true] 33) = W5 at hb5 hc5b hc6 hB5 hbx5 HT1 HT2 ⊢
        obtain ⟨g5, hg5⟩ : ∃ g, g = w3.heap.size := ⟨_, rfl⟩
        obtain ⟨g6, hg6⟩ : ∃ g, g = w4.heap.size := ⟨_, rfl⟩
        rw [← hg5] at hc5b
        rw [← hg6] at hc6
        rw [← hg5, ← hg6]
        have hw5 := (Array.getElem?_eq_some_iff.1 hbx5).1
        have hq5 := (Array.getElem?_eq_some_iff.1 hc5b).1
        have hq6 := (Array.getElem?_eq_some_iff.1 hc6).1
        have HKp : Hid (∀ wx, At9 W5 wx → (wx.cell? ⟨w.heap.size, 0, none⟩ = some (.string D) ∧ wx.cell? ⟨w.heap.size, 1, none⟩ = some (.slice a n c) ∧ wx.cell? ⟨g5, 0, none⟩ = some (.string N) ∧ wx.cell? ⟨g5, 1, none⟩ = some (.string S) ∧ wx.cell? ⟨g5, 2, none⟩ = some (.bool st) ∧ wx.cell? ⟨g5, 3, none⟩ = some (.slice xa xn xc) ∧ wx.cell? ⟨g5, 4, none⟩ = some (.slice ya yn yc) ∧ wx.cell? ⟨g6, 0, none⟩ = some (.string N) ∧ wx.cell? ⟨g6, 1, none⟩ = some (.string S) ∧ wx.cell? ⟨g6, 2, none⟩ = some (.bool st) ∧ wx.cell? ⟨g6, 3, none⟩ = some (.slice za zn zc) ∧ wx.cell? ⟨g6, 4, none⟩ = some (.slice ta tn tc) ∧ wx.cell? ⟨g6, 5, none⟩ = some (.bool true) ∧ At9 W5 wx)) := Lib.hid (fun wx hb => by
          obtain ⟨a0, a1⟩ := (hbx5.below hb hw5).cells
          obtain ⟨b0, b1, b2, b3, b4⟩ := (hc5b.below hb hq5).cells
          obtain ⟨d0, d1, d2, d3, d4, d5⟩ := (hc6.below hb hq6).cells
          exact ⟨a0, a1, b0, b1, b2, b3, b4, d0, d1, d2, d3, d4, d5, hb⟩)
        have hst5 := HKp.out W5.drew (Below.refl W5.heap.size W5).drew
        have HA5 : Hid (∀ W, At9 W5 W → LaidW W ∧ LaidF W) := Lib.hid (fun W hb => ⟨HW.out.below (bthen hB5 hb), HL.out.below (bthen hB5 hb)⟩)
        have HI5 : Hid (∀ W, At9 W5 W → IsA W.heap.size W L (.slice a n c)) := Lib.hid (fun W hb => (HA.out.below hB5 hB5.size).below hb hb.size)
        have HCe := Lib.hid (fun W (hb : At9 W5 W) => show Calls Tryz.prog 13 #[.agg #[.string D, .slice a n c]] W fun e w' => e = .returned (.int .i64 cd) ∧ Below W.heap.size W w' from by rw [HCd.out]; exact checkE_any D (by omega) L (.slice a n c) W (HA5.out W hb).1 (HA5.out W hb).2 (HI5.out W hb))
        have HCr := Lib.hid (fun W (hb : At9 W5 W) => show Calls Tryz.prog 14 #[.agg #[.string D, .slice a n c]] W fun e w' => e = .returned (.int .i64 cd) ∧ Below W.heap.size W w' from by rw [HCd.out]; exact checkRef_any D (by omega) L HS.out (.slice a n c) W (HI5.out W hb))
        have HX1 := Lib.hid (fun W (hb : At9 W5 W) => show Calls Tryz.prog 15 #[.slice xa xn xc, .slice za zn zc] W fun e w' => e = .returned (.bool true) ∧ Below W.heap.size W w' from (HT1.out W hb).mono (by rintro e w' ⟨rfl, q, rfl⟩; exact ⟨by simp, below_drewN (Below.refl _ _) q⟩))
        have HX2 := Lib.hid (fun W (hb : At9 W5 W) => show Calls Tryz.prog 15 #[.slice ya yn yc, .slice ta tn tc] W fun e w' => e = .returned (.bool true) ∧ Below W.heap.size W w' from (HT2.out W hb).mono (by rintro e w' ⟨rfl, q, rfl⟩; exact ⟨by simp, below_drewN (Below.refl _ _) q⟩))
        have HCa := Lib.hid (fun W (hb : At9 W5 W) => awake4_any W (HA5.out W hb).1 (HA5.out W hb).2)
        have HB5 := Lib.hid hB5
        have hcc : ((cd : Int) == cd) = true := by simp
        have ts : (st == st) = true := by simp
        clear hb5 hc5b hc5 hb3' hb4' hc6 hB3 hB5 hbx5 hg5 hg6 hw5 hq5 hq6 x0 x1
        go_region_held3 (fun w' => w'.cell? ⟨w.heap.size, 0, none⟩ = some (.string D) ∧ w'.cell? ⟨w.heap.size, 1, none⟩ = some (.slice a n c) ∧ w'.cell? ⟨g5, 0, none⟩ = some (.string N) ∧ w'.cell? ⟨g5, 1, none⟩ = some (.string S) ∧ w'.cell? ⟨g5, 2, none⟩ = some (.bool st) ∧ w'.cell? ⟨g5, 3, none⟩ = some (.slice xa xn xc) ∧ w'.cell? ⟨g5, 4, none⟩ = some (.slice ya yn yc) ∧ w'.cell? ⟨g6, 0, none⟩ = some (.string N) ∧ w'.cell? ⟨g6, 1, none⟩ = some (.string S) ∧ w'.cell? ⟨g6, 2, none⟩ = some (.bool st) ∧ w'.cell? ⟨g6, 3, none⟩ = some (.slice za zn zc) ∧ w'.cell? ⟨g6, 4, none⟩ = some (.slice ta tn tc) ∧ w'.cell? ⟨g6, 5, none⟩ = some (.bool true) ∧ At9 W5 w') (first | (with_reducible exact hst5) | (go_split_ands; exact HKp.out _ (At9.go (by assumption) hbx)))
          (first
            | (go_at_call 13; go_split_ands; (with_reducible refine (HCe.out _ (by assumption)).mono ?_); rintro e wx ⟨rfl, hbx⟩)
            | (go_at_call 14; go_split_ands; (with_reducible refine (HCr.out _ (by assumption)).mono ?_); rintro e wx ⟨rfl, hbx⟩)
            | (go_at_call 15; go_split_ands; (with_reducible refine (HX1.out _ (by assumption)).mono ?_); rintro e wx ⟨rfl, hbx⟩)
            | (go_at_call 15; go_split_ands; (with_reducible refine (HX2.out _ (by assumption)).mono ?_); rintro e wx ⟨rfl, hbx⟩)
            | (go_at_call 10; go_split_ands; (with_reducible refine (HCa.out _ (by assumption)).mono ?_); rintro e wx ⟨rfl, hbx⟩))
        all_goals
          go_split_ands
          have hT : At9 W5 wx := by assumption
          go_wp2
          go_ret
          exact ⟨rfl, bthen HB5.out hT⟩
end Go.Proofs.YtofmpaphafhdpaaGreatDoor

/- An entry among the arguments. -/
namespace Go.Proofs.YtofmpaphafhdpaaGreatDoor
open Go.RowKit
set_option linter.unusedVariables false

set_option maxRecDepth 100000 in
theorem open_isT {H : Type} {enc : TypeId × Value → H} {W : World} {fuel : Nat} {cs : List Value} {x : DataW H × List MemPlace} (h : DataW.trod enc Tryz.prog W 0 (fun _ => true) true fuel 27 cs = some x) :
    ∃ v L, cs = [v] ∧ IsT W.heap.size W L v := by
  have hc : Tryz.prog.cellsOf 9 = 1 := by kernel_rfl
  rcases Go.Deep.open_strs Tryz.underlying27 Tryz.underlying9 hc h with ⟨hcs, _⟩ | ⟨a, len, cap, m, Sx, hcs, _, hle, hmax, hm, _, hcell⟩
  · exact ⟨_, [], hcs, none, 0, rfl, Nat.zero_le _, fun j h => absurd h (by simp)⟩
  · simp only [if_true] at hm
    have hlen : ((List.range len).map fun i => (Sx i).data.toList).length = len := by simp
    refine ⟨_, (List.range len).map fun i => (Sx i).data.toList, hcs, some a, cap, by rw [hlen], by omega, fun j hj => ?_⟩
    rw [hlen] at hj
    obtain ⟨b, off, spot⟩ := a
    have h1 := (hcell j (by omega)).1
    have hspot : spot = none := by simpa [Addr.add] using World.cell?_spot (hcell 0 (by omega)).1
    subst hspot
    rw [Go.WideShapes.add_plain] at h1
    refine ⟨b, off, rfl, World.block_lt_of_cell? W _ h1, ?_⟩
    rw [h1]
    simp only [List.getElem_map, List.getElem_range]
    show some (Value.string (Sx j)) = some (.string ⟨(Sx j).data.toList.toArray⟩)
    rw [whole_ext]

set_option maxRecDepth 100000 in
theorem open_isA {H : Type} {enc : TypeId × Value → H} {W : World} {fuel : Nat} {cs : List Value} {x : DataW H × List MemPlace} (h : DataW.trod enc Tryz.prog W 0 (fun _ => true) true fuel 22 cs = some x) :
    ∃ v L, cs = [v] ∧ IsA W.heap.size W L v := by
  rcases Go.Deep.open_slice_pairs Tryz.underlying22 Tryz.underlying42 (by kernel_rfl) rfl rfl (by kernel_rfl) (by kernel_rfl) h with ⟨hcs, _⟩ | ⟨a, len, cap, m, n, V0, V1, D0, D1, P0, P1, hcs, _, hle, hmax, hm, _, hcell⟩
  · exact ⟨_, [], hcs, none, 0, rfl, Nat.zero_le _, fun j h => absurd h (by simp)⟩
  · simp only [if_true] at hm
    have each : ∀ i, ∃ r : AT, i < len → W.cell? (a.add (i * 2)) = some (strV r.1) ∧ ∃ u, W.cell? (a.add (i * 2 + 1)) = some u ∧ IsT W.heap.size W r.2 u := fun i => by
      by_cases h : i < len
      · obtain ⟨h0, h1, g0, g1⟩ := hcell i (by omega)
        obtain ⟨x, e0, _⟩ := DataW.trod_string Tryz.underlying9 g0
        simp only [List.cons.injEq, and_true] at e0
        obtain ⟨u, L, e1, hL⟩ := open_isT g1
        simp only [List.cons.injEq, and_true] at e1
        refine ⟨(x.data.toList, L), fun _ => ⟨?_, u, by rw [h1, e1], hL⟩⟩
        rw [h0, e0]; show some (Value.string x) = some (.string ⟨x.data.toList.toArray⟩); rw [whole_ext]
      · exact ⟨([], []), fun h' => absurd h' h⟩
    obtain ⟨f, hfl⟩ := Classical.skolem.1 each
    have hL : ((List.range len).map f).length = len := by simp
    refine ⟨_, (List.range len).map f, hcs, some a, cap, by rw [hL], by rw [hL]; omega, fun j hj => ?_⟩
    rw [hL] at hj
    obtain ⟨h0, u, h1, h2⟩ := hfl j hj
    obtain ⟨b, off, spot⟩ := a
    have hspot : spot = none := by simpa [Addr.add] using World.cell?_spot (hfl 0 (by omega)).1
    subst hspot
    rw [Go.WideShapes.add_plain] at h0 h1
    refine ⟨b, off, u, rfl, World.block_lt_of_cell? W _ h0, ?_, ?_, ?_⟩
    · rw [h0]; simp
    · rw [show off + j * 2 + 1 = off + (j * 2 + 1) from by omega, h1]
    · simpa using h2

set_option maxRecDepth 100000 in
theorem open_entry {H : Type} {enc : TypeId × Value → H} {W : World} {v : Value} {d : DataW H} {ps : List MemPlace} (hval : Value.okWide Tryz.prog W .any 0 24 v) (hd : DataW.Trod enc Tryz.prog W 0 (fun _ => true) true 24 v d ps) :
    ∃ (D : ByteArray) (L : List AT) (u : Value), v = .agg #[.string D, u] ∧ D.size ≤ maxLen ∧ IsA W.heap.size W L u := by
  obtain ⟨cs, rfl, _⟩ := Go.WideShapes.okWide_struct Tryz.underlying24 hval
  obtain ⟨fuel, hf⟩ := hd
  obtain ⟨y0, y1, n, _, hl, g0, g1⟩ := Go.ChangeShapes.trod_struct2 Tryz.underlying24 hf
  rw [show Tryz.prog.cellsOf 24 = 2 from by kernel_rfl] at hl
  obtain ⟨v0, v1, hcs⟩ : ∃ v0 v1, (Value.agg cs).cells.toList = [v0, v1] := by
    match h : (Value.agg cs).cells.toList, hl with
    | [v0, v1], _ => exact ⟨v0, v1, rfl⟩
  rw [hcs] at g0 g1
  have f0 : DataW.trod enc Tryz.prog W 0 (fun _ => true) true n 9 (([v0, v1].drop 0).take (Tryz.prog.cellsOf 9)) = some y0 := g0
  have f1 : DataW.trod enc Tryz.prog W 0 (fun _ => true) true n 22 (([v0, v1].drop 1).take (Tryz.prog.cellsOf 22)) = some y1 := g1
  rw [show Tryz.prog.cellsOf 9 = 1 from by kernel_rfl] at f0
  rw [show Tryz.prog.cellsOf 22 = 1 from by kernel_rfl] at f1
  simp only [List.drop_zero, List.take_succ_cons, List.take_zero, List.drop_succ_cons] at f0 f1
  obtain ⟨s, e0, _, hs⟩ := DataW.trod_string Tryz.underlying9 f0
  obtain ⟨u, L, e1, hL⟩ := open_isA f1
  simp only [List.cons.injEq, and_true] at e0 e1
  subst e0 e1
  refine ⟨s, L, _, ?_, hs, hL⟩
  have : cs = #[.string s, v1] := by
    cases cs
    simpa [Value.cells] using hcs
  rw [this]
end Go.Proofs.YtofmpaphafhdpaaGreatDoor
