/- Fold: the walk. -/
import Derived.Test.YtpnbcmblnplbgaaGreatDoorDnOwn
import Derived.Lib.Strings
namespace Go.Proofs.YtpnbcmblnplbgaaGreatDoor
open Go.RowKit
set_option linter.unusedVariables false

/-- What has come out never ends in a blank. -/
theorem frun_last : ∀ l : List UInt8, ∀ x, (frun l).1.getLast? = some x → x.toNat ≠ 32 := by
  refine snoc_ind (by simp [frun]) ?_
  intro l c ih x hx
  rw [frun_snoc] at hx
  unfold fstep at hx
  split at hx
  · exact ih x hx
  · rename_i h
    simp only [List.getLast?_append, List.getLast?_singleton, Option.some_or, Option.some.injEq] at hx
    rw [← hx]
    intro e; exact h ((lowC_blank c).1 e)

theorem trim_blank (O : List UInt8) : Lib.trimSuffix (O ++ [32]) [32] = O := by
  have h : Lib.hasSuffix (O ++ [32]) [32] = true := by unfold Lib.hasSuffix; rw [List.isSuffixOf_iff_suffix]; exact List.suffix_append _ _
  unfold Lib.trimSuffix; rw [if_pos h]; simp
theorem trim_none (O : List UInt8) (h : ∀ x, O.getLast? = some x → x.toNat ≠ 32) : Lib.trimSuffix O [32] = O := by
  have h2 : ¬ Lib.hasSuffix O [32] = true := by
    unfold Lib.hasSuffix; rw [List.isSuffixOf_iff_suffix]
    rintro ⟨t, ht⟩
    exact h 32 (by rw [← ht]; simp) rfl
  unfold Lib.trimSuffix; rw [if_neg h2]

theorem low32 (w : World) : Calls Tryz.prog 109 #[.int .u8 32] w fun e w' => e = .returned (.int .u8 32) ∧ w = w' := by
  have h := lower_any 32 w
  have h1 : ((32 : UInt8).toNat : Int) = 32 := by decide
  have h2 : ((lowC 32).toNat : Int) = 32 := by decide
  simp only [h1, h2] at h
  exact h

set_option maxRecDepth 100000 in
set_option maxHeartbeats 4000000 in
theorem fold_any (trim : ∀ (B : ByteArray) (w : World), B.size ≤ 9223372036854775807 → Calls Tryz.prog 110 #[.string B, .string ⟨#[32]⟩] w fun e w' => e = .returned (.string ⟨(Lib.trimSuffix B.data.toList [32]).toArray⟩) ∧ w = w')
    (s : ByteArray) (w : World) (hs : s.size ≤ 140737488351232) :
    Calls Tryz.prog 81 #[.string s] w fun e w' => e = .returned (.string (foldB s)) ∧ Below w.heap.size w w' := by
  obtain ⟨i0, hi, hz0, hz1, hz2⟩ := info_parts infoB
  have HTr := Lib.hid trim
  clear trim
  go_enter Tryz.func81, Tryz.ntmps81
  go_wp2
  go_loopw [3, 7] (fun b i wr => ∃ j : Nat, j ≤ s.size ∧ i = .int .i64 j ∧ OwnB w.heap.size wr b ((frun (s.data.toList.take j)).1 ++ (if (frun (s.data.toList.take j)).2 then [32] else [])) ∧ Below w.heap.size w wr)
    (fun _ i _ => s.size - (intOf i).toNat)
  case atStart => exact ⟨0, by omega, rfl, by simpa [frun] using own_nil _ _, Below.refl _ _⟩
  case round =>
    obtain ⟨j, hj, rfl, hown, hbel⟩ := hrel
    have hlen := frun_len (s.data.toList.take j)
    have htk : (s.data.toList.take j).length ≤ j := List.length_take_le _ _
    have hlast := frun_last (s.data.toList.take j)
    by_cases hlt : j < s.size
    · have t1 : decide ((j : Int) < (s.size : Int)) = true := by simp; omega
      have hjl : j < s.data.toList.length := by simpa using hlt
      have hst := frun_take s.data.toList j hjl
      rw [byte_get s j hlt hjl] at hst
      obtain ⟨O, hO⟩ : ∃ O, O = (frun (s.data.toList.take j)).1 := ⟨_, rfl⟩
      obtain ⟨g, hg⟩ : ∃ g, g = (frun (s.data.toList.take j)).2 := ⟨_, rfl⟩
      have hgap := frun_gap (s.data.toList.take j)
      have hpair : frun (s.data.toList.take j) = (O, g) := by rw [hO, hg]
      rw [← hO, ← hg] at hlen hown hgap
      rw [← hO] at hlast
      rw [hpair] at hst
      obtain ⟨c, hc⟩ : ∃ c : UInt8, c = s[j] := ⟨_, rfl⟩
      have hc' : s[j]'hlt = c := hc.symm
      rw [← hc] at hst
      have hcl := c.toNat_lt
      obtain ⟨L, hL⟩ : ∃ L, L = O ++ (if g then [32] else []) := ⟨_, rfl⟩
      rw [← hL] at hown
      have hLl : L.length ≤ j := by
        rw [hL, List.length_append]
        cases g with
        | true => rw [if_pos rfl] at hlen ⊢; simp only [List.length_singleton]; omega
        | false => rw [if_neg (by simp)] at hlen ⊢; simp only [List.length_nil]; omega
      have hlow := fun w => lower_any c w
      have HLow := Lib.hid hlow
      have HBel := Lib.hid hbel
      have hbs := hbel.size
      obtain ⟨a, cp, hv⟩ := own_slice hown
      subst hv
      by_cases h32 : c.toNat = 32
      · have t2 : ((c.toNat : Int) == 32) = true := by simp [h32]
        have hst2 : frun (s.data.toList.take (j + 1)) = (O, !O.isEmpty) := by rw [hst]; unfold fstep; rw [if_pos h32]
        by_cases hLe : L = []
        · have hnil : O = [] ∧ g = false := by
            rw [hL] at hLe; have := List.append_eq_nil_iff.1 hLe
            refine ⟨this.1, ?_⟩
            cases g with
            | false => rfl
            | true => exact absurd this.2 (by simp)
          have hnew : L = (frun (s.data.toList.take (j + 1))).1 ++ (if (frun (s.data.toList.take (j + 1))).2 then [32] else []) := by
            rw [hst2, hLe, hnil.1]; rfl
          have h0 : L.length = 0 := by rw [hLe]; rfl
          rw [h0]
          rw [h0] at hown
          rw [hnew] at hown
          have HN := Lib.hid hown
          clear hnew hown hst hst2 hlen htk hlast hO hg hpair hc hL hnil hLe hgap hbel hlow h0 hLl
          go_wp2
          go_roundw
          case rel => exact ⟨j + 1, by omega, by go_num, HN.out, HBel.out⟩
          case measure => simp [intOf]; omega
        · obtain ⟨m, hm⟩ : ∃ m, L.length = m + 1 := ⟨L.length - 1, by have : L.length ≠ 0 := fun h => hLe (List.eq_nil_of_length_eq_zero h); omega⟩
          obtain ⟨g0, cp0, hv, hcell⟩ := own_some hown hLe
          simp only [Value.slice.injEq, true_and] at hv
          obtain ⟨rfl, rfl⟩ := hv
          have hcm := hcell m (by omega)
          obtain ⟨x, hx⟩ : ∃ x : UInt8, x = L[m]'(by omega) := ⟨_, rfl⟩
          rw [← hx] at hcm
          have hxl := x.toNat_lt
          have hlastL : L.getLast? = some x := by rw [List.getLast?_eq_getElem?, hm, Nat.add_sub_cancel, hx]; exact List.getElem?_eq_getElem _
          have hxx : (x.toNat = 32) = (g = true) := by
            cases g with
            | true =>
              rw [hL, if_pos rfl, List.getLast?_append] at hlastL
              simp at hlastL
              rw [← hlastL]; simp
            | false =>
              rw [hL, if_neg (by simp), List.append_nil] at hlastL
              have := hlast x hlastL
              simp [this]
          have hm63 : m + 1 ≤ 9223372036854775807 := by omega
          have d0 : ((m : Int) + 1 == 0) = false := by simp; omega
          rw [hm] at hown ⊢
          by_cases hgt : g = true
          · have hnew : L = (frun (s.data.toList.take (j + 1))).1 ++ (if (frun (s.data.toList.take (j + 1))).2 then [32] else []) := by
              rw [hst2, hL, hgt]
              have : O.isEmpty = false := by cases h : O with | nil => exact absurd h (hgap hgt) | cons c r => rfl
              simp [this]
            have t3 : ((x.toNat : Int) == 32) = true := by have := hxx.symm ▸ hgt; simp [this]
            rw [hnew] at hown
            have HN := Lib.hid hown
            clear hnew hown hst hst2 hlen htk hlast hO hg hpair hc hL hLe hgap hbel hlow hcell hxx hlastL hx hm hLl
            go_wp2
            go_roundw
            case rel => exact ⟨j + 1, by omega, by go_num, HN.out, HBel.out⟩
            case measure => simp [intOf]; omega
          · have hgf : g = false := by simpa using hgt
            have hx32 : x.toNat ≠ 32 := fun e => hgt (hxx ▸ e)
            have t3 : ((x.toNat : Int) == 32) = false := by simp; omega
            have hc32 : lowC c = 32 := by apply UInt8.toNat_inj.1; rw [(lowC_blank c).2 h32]; rfl
            have hO2 : L = O := by rw [hL, hgf]; simp
            have hnew : L ++ [lowC c] = (frun (s.data.toList.take (j + 1))).1 ++ (if (frun (s.data.toList.take (j + 1))).2 then [32] else []) := by
              rw [hst2, hc32, hO2]
              have : O.isEmpty = false := by cases h : O with | nil => exact absurd (hO2.trans h) hLe | cons c r => rfl
              simp [this]
            have HO := Lib.hid hown
            rw [hc32] at hnew
            have HN := Lib.hid hnew
            clear hnew hown hst hst2 hlen htk hlast hO hg hpair hc hL hLe hgap hbel hlow hcell hxx hlastL hx hm hO2 hc32 hgt hgf
            have HL32 := Lib.hid low32
            go_wp2_with (first
              | (go_at_call 109; refine (HL32.out _).mono ?_; rintro e w2 ⟨rfl, rfl⟩)
              | (at_builtin; refine wpList_append_one rfl (.tmp 28) (.tmp 33) rfl w.heap.size i0 hi hz0 hz1 hz2 (.slice (some ⟨g0, 0, none⟩) (m + 1) cp) L rfl 32 32 rfl HO.out rfl (by omega) hbs ?_; intro v3 w3 hown3 hb3; have HO3 := Lib.hid hown3; have HB3 := Lib.hid hb3; clear hown3 hb3))
            go_roundw
            case rel => exact ⟨j + 1, by omega, by go_num, by rw [← HN.out]; exact HO3.out, HBel.out.trans HB3.out⟩
            case measure => simp [intOf]; omega
      · have t2 : ((c.toNat : Int) == 32) = false := by simp; omega
        have hnew : L ++ [lowC c] = (frun (s.data.toList.take (j + 1))).1 ++ (if (frun (s.data.toList.take (j + 1))).2 then [32] else []) := by
          rw [hst]; unfold fstep; rw [if_neg h32, hL]; simp
        have HO := Lib.hid hown
        have HN := Lib.hid hnew
        clear hnew hown hst hlen htk hlast hO hg hpair hc hL hgap hbel hlow
        go_wp2_with (first
              | (go_at_call 109; refine (HLow.out _).mono ?_; rintro e w2 ⟨rfl, rfl⟩)
              | (at_builtin; refine wpList_append_one rfl (.tmp 28) (.tmp 33) rfl w.heap.size i0 hi hz0 hz1 hz2 (.slice a L.length cp) L rfl ((lowC c).toNat : Int) (lowC c) rfl HO.out rfl (by omega) hbs ?_; intro v3 w3 hown3 hb3; have HO3 := Lib.hid hown3; have HB3 := Lib.hid hb3; clear hown3 hb3))
        go_roundw
        case rel => exact ⟨j + 1, by omega, by go_num, by rw [← HN.out]; exact HO3.out, HBel.out.trans HB3.out⟩
        case measure => simp [intOf]; omega
    · obtain rfl : j = s.size := by omega
      have t1 : decide ((s.size : Int) < (s.size : Int)) = false := by simp
      rw [List.take_of_length_le (by simp)] at hown hlast hlen
      obtain ⟨L, hL⟩ : ∃ L, L = (frun s.data.toList).1 ++ (if (frun s.data.toList).2 then [32] else []) := ⟨_, rfl⟩
      rw [← hL] at hown
      have htrim : Lib.trimSuffix L [32] = fold s.data.toList := by
        rw [hL]
        cases h : (frun s.data.toList).2 with
        | true => rw [if_pos rfl]; exact trim_blank _
        | false => rw [if_neg (by simp), List.append_nil]; exact trim_none _ hlast
      have hLl : L.length ≤ s.size := by
        rw [hL, List.length_append]
        have hl2 := frun_len s.data.toList
        have hl3 : s.data.toList.length = s.size := by simp
        cases h : (frun s.data.toList).2 with
        | true => rw [h, if_pos rfl] at hl2; rw [if_pos rfl]; simp only [List.length_singleton]; omega
        | false => rw [h, if_neg (by simp)] at hl2; rw [if_neg (by simp)]; simp only [List.length_nil]; omega
      have hcv := conv_own hown
      have htr := fun w => HTr.out ⟨L.toArray⟩ w (by show L.toArray.size ≤ _; simp; omega)
      have htr2 : ∀ w, Calls Tryz.prog 110 #[.string ⟨L.toArray⟩, .string ⟨#[32]⟩] w fun e w' => e = .returned (.string (foldB s)) ∧ w = w' := fun w => by
        have := htr w
        rw [show (⟨L.toArray⟩ : ByteArray).data.toList = L from by simp, htrim] at this
        exact this
      have HT2 := Lib.hid htr2
      have HBel := Lib.hid hbel
      obtain ⟨a, cp, hv⟩ := own_slice hown
      subst hv
      clear hown hlast hlen htrim hL hLl htr htr2 hbel htk
      go_wp2_with (go_at_call 110; refine (HT2.out _).mono ?_; rintro e w2 ⟨rfl, rfl⟩)
      go_ret
      exact ⟨rfl, HBel.out⟩
end Go.Proofs.YtpnbcmblnplbgaaGreatDoor
