/- filter.sign, isPlain, writeVal, write, Text: the walks. -/
import Derived.Test.YtmpicolplknomaaDoorFiMayW
import Derived.Test.YtmpicolplknomaaDoorDnText
namespace Go.Proofs.YtmpicolplknomaaDoor
open Go.RowKit
set_option linter.unusedVariables false
set_option linter.unusedSimpArgs false

set_option maxHeartbeats 1000000 in
theorem sign_any (k : Int) (w : World) : Calls Tryd.prog 26 #[.int .i64 k] w fun e w' => e = .returned (.string (ofL (signF k))) ∧ w = w' := by
  by_cases h1 : k = 1
  · subst h1
    go_enter Tryd.func26, Tryd.ntmps26
    go_wp2
    go_ret
    exact ⟨rfl, rfl⟩
  · have k1 : (k == 1) = false := by simpa using h1
    by_cases h2 : k = 2
    · subst h2
      go_enter Tryd.func26, Tryd.ntmps26
      go_wp2
      go_ret
      exact ⟨rfl, rfl⟩
    · have k2 : (k == 2) = false := by simpa using h2
      by_cases h3 : k = 3
      · subst h3
        go_enter Tryd.func26, Tryd.ntmps26
        go_wp2
        go_ret
        exact ⟨rfl, rfl⟩
      · have k3 : (k == 3) = false := by simpa using h3
        by_cases h6 : k = 6
        · subst h6
          go_enter Tryd.func26, Tryd.ntmps26
          go_wp2
          go_ret
          exact ⟨rfl, rfl⟩
        · have k6 : (k == 6) = false := by simpa using h6
          by_cases h7 : k = 7
          · subst h7
            go_enter Tryd.func26, Tryd.ntmps26
            go_wp2
            go_ret
            exact ⟨rfl, rfl⟩
          · have k7 : (k == 7) = false := by simpa using h7
            by_cases h8 : k = 8
            · subst h8
              go_enter Tryd.func26, Tryd.ntmps26
              go_wp2
              go_ret
              exact ⟨rfl, rfl⟩
            · have k8 : (k == 8) = false := by simpa using h8
              have hr : signF k = [61] := by unfold signF; rw [if_neg h1, if_neg h2, if_neg h3, if_neg h6, if_neg h7, if_neg h8]
              rw [hr]
              clear h1 h2 h3 h6 h7 h8 hr
              go_enter Tryd.func26, Tryd.ntmps26
              go_wp2
              go_ret
              exact ⟨rfl, rfl⟩

def markIx (c : UInt8) : Bool := decide (Lib.indexByte [42, 40, 41, 92] c < 0) == !(c == 42 || c == 40 || c == 41 || c == 92)
theorem mark_ix (c : UInt8) : decide (Lib.indexByte [42, 40, 41, 92] c < 0) = !(c == 42 || c == 40 || c == 41 || c == 92) := by
  have := all_bytes markIx (by decide +kernel) c
  unfold markIx at this
  simpa using this
set_option maxHeartbeats 1000000 in
theorem isPlain_any (c : UInt8) (w : World) : Calls Tryd.prog 52 #[.int .u8 c.toNat] w fun e w' => e = .returned (.bool (plainC c)) ∧ w = w' := by
  have hcl := c.toNat_lt
  have hix := fun w => idx_any ⟨#[42, 40, 41, 92]⟩ c w
  have hm := mark_ix c
  have h41 : (⟨#[42, 40, 41, 92]⟩ : ByteArray).data.toList = [42, 40, 41, 92] := rfl
  rw [h41] at hix
  obtain ⟨z, hz⟩ : ∃ z, z = Lib.indexByte [42, 40, 41, 92] c := ⟨_, rfl⟩
  rw [← hz] at hix hm
  have hr : plainC c = (decide ((32 : Int) ≤ (c.toNat : Int)) && decide ((c.toNat : Int) ≤ 126) && decide (z < 0)) := by
    unfold plainC
    rw [hm]
    congr 2
    · rw [Bool.eq_iff_iff]; simp; omega
    · rw [Bool.eq_iff_iff]; simp; omega
  have HI := Lib.hid hix
  rw [hr]
  clear hix hr h41 hz hm
  obtain ⟨t1, h1⟩ : ∃ b, decide ((32 : Int) ≤ (c.toNat : Int)) = b := ⟨_, rfl⟩
  obtain ⟨t2, h2⟩ : ∃ b, decide ((c.toNat : Int) ≤ 126) = b := ⟨_, rfl⟩
  obtain ⟨t3, h3⟩ : ∃ b, decide (z < 0) = b := ⟨_, rfl⟩
  rw [h1, h2, h3]
  cases t1 <;> cases t2 <;> cases t3 <;> (go_enter Tryd.func52, Tryd.ntmps52; go_wp2_with (go_at_call 71; refine (HI.out _).mono ?_; rintro e w2 ⟨rfl, rfl⟩); go_ret; exact ⟨rfl, rfl⟩)

theorem quoC_len (c : UInt8) : (quoC c).length ≤ 3 := by unfold quoC; split <;> simp
theorem quo_len : ∀ v : List UInt8, (quo v).length ≤ 3 * v.length
  | [] => by simp [quo]
  | c :: r => by
    have := quoC_len c
    have := quo_len r
    simp only [quo, List.length_append, List.length_cons]; omega
/-- The builder holds l and what has been written of v so far. -/
def WroteF (B b : Nat) (l : List UInt8) (v : ByteArray) (j : Nat) (w : World) : Prop := ∃ E, E ++ quo (v.data.toList.drop j) = quo v.data.toList ∧ Bld' B b (l ++ E) w

set_option maxRecDepth 100000 in
set_option maxHeartbeats 4000000 in
theorem writeValF_any (B b : Nat) (l : List UInt8) (v : ByteArray) (w : World) (h : Bld' B b l w) (hlen : l.length + 3 * v.size + 3 ≤ 140737488355328) (hBw : B ≤ w.heap.size) :
    Calls Tryd.prog 37 #[.pointer (some ⟨b, 0, none⟩), .string v] w fun e w' => e = .returned (.tuple #[]) ∧ Bld' B b (l ++ quo v.data.toList) w' ∧ Fr B b w w' := by
  have HB := Lib.hid h
  clear h
  go_enter Tryd.func37, Tryd.ntmps37
  go_wp2
  go_loopw [8] (fun i wr => ∃ j : Nat, j ≤ v.size ∧ i = .int .i64 j ∧ WroteF B b l v j wr ∧ Fr B b w wr) (fun i _ => v.size - (intOf i).toNat)
  case atStart => exact ⟨0, by omega, rfl, ⟨[], by simp, by rw [List.append_nil]; exact HB.out⟩, Fr.refl _ _ _⟩
  case round =>
    obtain ⟨j, hj, rfl, ⟨E, hE, hbld⟩, hbel⟩ := hrel
    have HBel := Lib.hid hbel
    have HBld := Lib.hid hbld
    have hbs := hbel.1.size
    by_cases hlt : j < v.size
    · have t1 : decide ((j : Int) < (v.size : Int)) = true := by simp; omega
      obtain ⟨c, hc⟩ : ∃ c : UInt8, c = v[j] := ⟨_, rfl⟩
      have hc' : v[j]'hlt = c := hc.symm
      have hcl := c.toNat_lt
      have hd := drop_at v j hlt
      rw [← hc] at hd
      rw [hd] at hE
      simp only [quo] at hE
      have hEl : (E ++ (quoC c ++ quo (v.data.toList.drop (j + 1)))).length ≤ 3 * v.size := by
        rw [hE]
        have := quo_len v.data.toList
        rw [bytes_len] at this
        exact this
      simp only [List.length_append] at hEl
      have hnext : ∀ X, quoC c = X → ∀ w', Bld' B b (l ++ E ++ X) w' → WroteF B b l v (j + 1) w' := by
        intro X hX w' hb
        exact ⟨E ++ X, by rw [← hE, hX, List.append_assoc], by rw [← List.append_assoc]; exact hb⟩
      have hk := fun w => isPlain_any c w
      obtain ⟨K, hK⟩ : ∃ K, K = plainC c := ⟨_, rfl⟩
      simp only [← hK] at hk
      have HK := Lib.hid hk
      cases K with
      | true =>
        have hesc : quoC c = [c] := by unfold quoC; rw [if_pos hK.symm]
        have hE3 : E.length + 1 ≤ 3 * v.size := by rw [hesc] at hEl; simp at hEl; omega
        have HN := Lib.hid (hnext _ hesc)
        clear hbel hbld hE hEl hnext hk hK hesc hd hc
        go_wp2_with (first
          | (go_at_call 52; refine (HK.out _).mono ?_; rintro e w2 ⟨rfl, rfl⟩)
          | (go_at_call 53; refine (wb_any B b (l ++ E) c (c.toNat : Int) rfl _ HBld.out.bld (by simp; omega) (by omega)).mono ?_; rintro e w3 ⟨rfl, hb3, hbe3⟩; have H3 := Lib.hid hb3; have HB3 := Lib.hid hbe3; clear hb3 hbe3))
        go_roundw
        case rel => exact ⟨j + 1, by omega, by go_num, HN.out _ H3.out, HBel.out.trans HB3.out⟩
        case measure => simp [intOf]; omega
      | false =>
        have hesc : quoC c = [92, digL (c.toNat / 16), digL (c.toNat % 16)] := by unfold quoC; rw [if_neg (by rw [← hK]; decide)]
        have hE3 : E.length + 3 ≤ 3 * v.size := by rw [hesc] at hEl; simp at hEl; omega
        have HN := Lib.hid (hnext _ hesc)
        clear hbel hbld hE hEl hnext hk hK hesc hd hc
        have tok1 : True := trivial
        have tok2 : True := trivial
        go_wp2_with (first
          | (go_at_call 52; refine (HK.out _).mono ?_; rintro e w2 ⟨rfl, rfl⟩)
          | (go_at_call 53; have _t := tok1; refine (wb_any B b (l ++ E) 92 92 rfl _ HBld.out.bld (by simp; omega) (by omega)).mono ?_; clear _t tok1; rintro e w3 ⟨rfl, hb3, hbe3⟩; have H3 := Lib.hid hb3; have HB3 := Lib.hid hbe3; clear hb3 hbe3)
          | (go_at_call 53; have _t := tok2; refine (wb_any B b (l ++ E ++ [92]) (digL (c.toNat / 16)) _ (by rw [dig_at]) _ H3.out.bld (by simp; omega) (by have := HB3.out.1.size; omega)).mono ?_; clear _t tok2; rintro e w4 ⟨rfl, hb4, hbe4⟩; have H4 := Lib.hid hb4; have HB4 := Lib.hid hbe4; clear hb4 hbe4)
          | (go_at_call 53; refine (wb_any B b (l ++ E ++ [92] ++ [digL (c.toNat / 16)]) (digL (c.toNat % 16)) _ (by rw [dig_at]) _ H4.out.bld (by simp; omega) (by have := HB3.out.1.size; have := HB4.out.1.size; omega)).mono ?_; rintro e w5 ⟨rfl, hb5, hbe5⟩; have H5 := Lib.hid hb5; have HB5 := Lib.hid hbe5; clear hb5 hbe5))
        go_roundw
        case rel => exact ⟨j + 1, by omega, by go_num, HN.out _ (by simpa using H5.out), ((HBel.out.trans HB3.out).trans HB4.out).trans HB5.out⟩
        case measure => simp [intOf]; omega
    · have t1 : decide ((j : Int) < (v.size : Int)) = false := by simp; omega
      rw [List.drop_of_length_le (by simp; omega)] at hE
      simp only [quo, List.append_nil] at hE
      rw [hE] at hbld
      have H9 := Lib.hid hbld
      clear hbld hbel hE
      go_wp2
      go_end0
      exact ⟨rfl, H9.out, HBel.out⟩
end Go.Proofs.YtmpicolplknomaaDoor
