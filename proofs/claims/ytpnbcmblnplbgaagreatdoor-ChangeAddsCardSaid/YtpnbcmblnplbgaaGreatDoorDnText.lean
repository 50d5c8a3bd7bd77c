/- dn.writeVal, dn.Text: the walks. -/
import Derived.Test.YtpnbcmblnplbgaaGreatDoorDnBld
namespace Go.Proofs.YtpnbcmblnplbgaaGreatDoor
open Go.RowKit
set_option linter.unusedVariables false

theorem wb_any (B b : Nat) (l : List UInt8) (x : UInt8) (n : Int) (hn : (x.toNat : Int) = n) (w : World) (h : Bld B b l w) (hlen : l.length + 1 ≤ 140737488355328) (hBw : B ≤ w.heap.size) :
    Calls Tryz.prog 101 #[.pointer (some ⟨b, 0, none⟩), .int .u8 n] w fun e w' => e = .returned .nilIface ∧ Bld' B b (l ++ [x]) w' ∧ Fr B b w w' := by
  subst hn; exact writeByte_any B b l x w h hlen hBw

theorem escC_len (f g : Bool) (c : UInt8) : (escC f g c).length ≤ 3 := by unfold escC; split <;> (try split) <;> simp
theorem escR_len : ∀ (v : List UInt8) (f : Bool), (escR f v).length ≤ 3 * v.length
  | [], f => by simp [escR]
  | c :: r, f => by
    have := escC_len f r.isEmpty c
    have := escR_len r false
    simp only [escR, List.length_append, List.length_cons]; omega

theorem dig_at (n : Nat) (h : n < (⟨#[48, 49, 50, 51, 52, 53, 54, 55, 56, 57, 97, 98, 99, 100, 101, 102]⟩ : ByteArray).size) : (⟨#[48, 49, 50, 51, 52, 53, 54, 55, 56, 57, 97, 98, 99, 100, 101, 102]⟩ : ByteArray)[n]'h = digL n := by
  have h16 : n < digs.length := h
  show digs[n] = digs.getD n 0
  rw [List.getD_eq_getElem?_getD, List.getElem?_eq_getElem h16]; rfl

/-- The builder holds l and what has been written of v so far. -/
def Wrote (B b : Nat) (l : List UInt8) (v : ByteArray) (j : Nat) (w : World) : Prop := ∃ E, E ++ escR (decide (j = 0)) (v.data.toList.drop j) = escV v.data.toList ∧ Bld' B b (l ++ E) w

set_option maxRecDepth 100000 in
set_option maxHeartbeats 4000000 in
theorem writeVal_any (B b : Nat) (l : List UInt8) (v : ByteArray) (w : World) (h : Bld' B b l w) (hlen : l.length + 3 * v.size + 3 ≤ 140737488355328) (hBw : B ≤ w.heap.size) :
    Calls Tryz.prog 103 #[.pointer (some ⟨b, 0, none⟩), .string v] w fun e w' => e = .returned (.tuple #[]) ∧ Bld' B b (l ++ escV v.data.toList) w' ∧ Fr B b w w' := by
  have HB := Lib.hid h
  clear h
  go_enter Tryz.func103, Tryz.ntmps103
  go_wp2
  go_loopw [8] (fun i wr => ∃ j : Nat, j ≤ v.size ∧ i = .int .i64 j ∧ Wrote B b l v j wr ∧ Fr B b w wr) (fun i _ => v.size - (intOf i).toNat)
  case atStart => exact ⟨0, by omega, rfl, ⟨[], by simp [escV], by rw [List.append_nil]; exact HB.out⟩, Fr.refl _ _ _⟩
  case round =>
    obtain ⟨j, hj, rfl, ⟨E, hE, hbld⟩, hbel⟩ := hrel
    have HBel := Lib.hid hbel
    have HBld := Lib.hid hbld
    have hbs := hbel.1.size
    by_cases hlt : j < v.size
    · have t1 : decide ((j : Int) < (v.size : Int)) = true := by simp; omega
      obtain ⟨c, hc⟩ : ∃ c : UInt8, c = v[j] := ⟨_, rfl⟩
      have hc' : v[j]'hlt = c := hc.symm
      have hcl := c.toNat_lt
      have hd := drop_at v j hlt
      rw [← hc] at hd
      rw [hd] at hE
      simp only [escR] at hE
      have hEl : (E ++ (escC (decide (j = 0)) (v.data.toList.drop (j + 1)).isEmpty c ++ escR false (v.data.toList.drop (j + 1)))).length ≤ 3 * v.size := by
        rw [hE]
        have := escR_len v.data.toList true
        rw [bytes_len] at this
        exact this
      simp only [List.length_append] at hEl
      have hnext : ∀ X, escC (decide (j = 0)) (v.data.toList.drop (j + 1)).isEmpty c = X → ∀ w', Bld' B b (l ++ E ++ X) w' → Wrote B b l v (j + 1) w' := by
        intro X hX w' hb
        refine ⟨E ++ X, ?_, by rw [← List.append_assoc]; exact hb⟩
        rw [← hE, hX, show decide (j + 1 = 0) = false from by simp, List.append_assoc]
      have hk := fun w => kindOf_any c w
      obtain ⟨K, hK⟩ : ∃ K, K = kindC c := ⟨_, rfl⟩
      simp only [← hK] at hk
      have HK := Lib.hid hk
      by_cases h0 : K = 0
      · subst h0
        have hesc : escC (decide (j = 0)) (v.data.toList.drop (j + 1)).isEmpty c = [92, digL (c.toNat / 16), digL (c.toNat % 16)] := by unfold escC; rw [if_pos hK.symm]
        have hE3 : E.length + 3 ≤ 3 * v.size := by rw [hesc] at hEl; simp at hEl; omega
        have HN := Lib.hid (hnext _ hesc)
        clear hbel hbld hE hEl hnext hk hK hesc hd hc
        have tok1 : True := trivial
        have tok2 : True := trivial
        go_wp2_with (first
          | (go_at_call 127; refine (HK.out _).mono ?_; rintro e w2 ⟨rfl, rfl⟩)
          | (go_at_call 101; have _t := tok1; refine (wb_any B b (l ++ E) 92 92 rfl _ HBld.out.bld (by simp; omega) (by omega)).mono ?_; clear _t tok1; rintro e w3 ⟨rfl, hb3, hbe3⟩; have H3 := Lib.hid hb3; have HB3 := Lib.hid hbe3; clear hb3 hbe3)
          | (go_at_call 101; have _t := tok2; refine (wb_any B b (l ++ E ++ [92]) (digL (c.toNat / 16)) _ (by rw [dig_at]) _ H3.out.bld (by simp; omega) (by have := HB3.out.1.size; omega)).mono ?_; clear _t tok2; rintro e w4 ⟨rfl, hb4, hbe4⟩; have H4 := Lib.hid hb4; have HB4 := Lib.hid hbe4; clear hb4 hbe4)
          | (go_at_call 101; refine (wb_any B b (l ++ E ++ [92] ++ [digL (c.toNat / 16)]) (digL (c.toNat % 16)) _ (by rw [dig_at]) _ H4.out.bld (by simp; omega) (by have := HB3.out.1.size; have := HB4.out.1.size; omega)).mono ?_; rintro e w5 ⟨rfl, hb5, hbe5⟩; have H5 := Lib.hid hb5; have HB5 := Lib.hid hbe5; clear hb5 hbe5))
        go_roundw
        case rel => exact ⟨j + 1, by omega, by go_num, HN.out _ (by simpa using H5.out), ((HBel.out.trans HB3.out).trans HB4.out).trans HB5.out⟩
        case measure => simp [intOf]; omega
      · have t0 : ((K : Int) == 0) = false := by simp; omega
        have hn := fun w => needsMark_any v j hlt (by omega) w
        rw [← hc] at hn
        have he : decide (j + 1 = v.size) = (v.data.toList.drop (j + 1)).isEmpty := by rw [drop_empty]; simp; omega
        rw [he] at hn
        obtain ⟨g, hg⟩ : ∃ g, g = needC c (decide (j = 0)) (v.data.toList.drop (j + 1)).isEmpty := ⟨_, rfl⟩
        simp only [← hg] at hn
        have HNM := Lib.hid hn
        have hesc : escC (decide (j = 0)) (v.data.toList.drop (j + 1)).isEmpty c = if g = true then [92, c] else [c] := by unfold escC; rw [if_neg (by rw [← hK]; exact h0), ← hg]
        cases g with
        | true =>
          rw [if_pos rfl] at hesc
          have hE3 : E.length + 2 ≤ 3 * v.size := by rw [hesc] at hEl; simp at hEl; omega
          have HN := Lib.hid (hnext _ hesc)
          clear hbel hbld hE hEl hnext hk hK hesc hd hc hn he hg
          have tok1 : True := trivial
          go_wp2_with (first
            | (go_at_call 127; refine (HK.out _).mono ?_; rintro e w2 ⟨rfl, rfl⟩)
            | (go_at_call 128; refine (HNM.out _).mono ?_; rintro e w2 ⟨rfl, rfl⟩)
            | (go_at_call 101; have _t := tok1; refine (wb_any B b (l ++ E) 92 92 rfl _ HBld.out.bld (by simp; omega) (by omega)).mono ?_; clear _t tok1; rintro e w3 ⟨rfl, hb3, hbe3⟩; have H3 := Lib.hid hb3; have HB3 := Lib.hid hbe3; clear hb3 hbe3)
            | (go_at_call 101; refine (wb_any B b (l ++ E ++ [92]) c (c.toNat : Int) rfl _ H3.out.bld (by simp; omega) (by have := HB3.out.1.size; omega)).mono ?_; rintro e w4 ⟨rfl, hb4, hbe4⟩; have H4 := Lib.hid hb4; have HB4 := Lib.hid hbe4; clear hb4 hbe4))
          go_roundw
          case rel => exact ⟨j + 1, by omega, by go_num, HN.out _ (by simpa using H4.out), (HBel.out.trans HB3.out).trans HB4.out⟩
          case measure => simp [intOf]; omega
        | false =>
          rw [if_neg (by simp)] at hesc
          have hE3 : E.length + 1 ≤ 3 * v.size := by rw [hesc] at hEl; simp at hEl; omega
          have HN := Lib.hid (hnext _ hesc)
          clear hbel hbld hE hEl hnext hk hK hesc hd hc hn he hg
          go_wp2_with (first
            | (go_at_call 127; refine (HK.out _).mono ?_; rintro e w2 ⟨rfl, rfl⟩)
            | (go_at_call 128; refine (HNM.out _).mono ?_; rintro e w2 ⟨rfl, rfl⟩)
            | (go_at_call 101; refine (wb_any B b (l ++ E) c (c.toNat : Int) rfl _ HBld.out.bld (by simp; omega) (by omega)).mono ?_; rintro e w3 ⟨rfl, hb3, hbe3⟩; have H3 := Lib.hid hb3; have HB3 := Lib.hid hbe3; clear hb3 hbe3))
          go_roundw
          case rel => exact ⟨j + 1, by omega, by go_num, HN.out _ H3.out, HBel.out.trans HB3.out⟩
          case measure => simp [intOf]; omega
    · have t1 : decide ((j : Int) < (v.size : Int)) = false := by simp; omega
      rw [List.drop_of_length_le (by simp; omega)] at hE
      simp only [escR, List.append_nil] at hE
      rw [hE] at hbld
      have HD := Lib.hid hbld
      clear HBld hbld hbel hE
      go_wp2
      go_end0
      exact ⟨rfl, HD.out, HBel.out⟩
end Go.Proofs.YtpnbcmblnplbgaaGreatDoor
