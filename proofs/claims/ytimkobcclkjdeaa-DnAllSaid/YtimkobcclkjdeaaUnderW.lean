/- What is above a name is above all below it: the walk. -/
import Derived.Test.YtimkobcclkjdeaaNames
import Derived.Test.YtimkobcclkjdeaaDnAwake
namespace Go.Proofs.Ytimkobcclkjdeaa
open Go.RowKit
set_option linter.unusedVariables false

theorem ownR_full {B : Nat} {w : World} {v : Value} {l : List R} (h : OwnR B w v l) (hl : l ≠ []) : ∃ g c, v = .slice (some ⟨g, 0, none⟩) l.length c ∧ l.length ≤ c ∧ c ≤ maxLen := by
  rcases h.2 with ⟨rfl, hz⟩ | ⟨g, cap, cur, rfl, hB, hg, hc, hm, _⟩
  · exact absurd (List.eq_nil_of_length_eq_zero hz) hl
  · exact ⟨g, cap, rfl, hc, hm⟩
theorem isL_drop {n0 : Nat} {w : World} {l : List R} {g off c : Nat} (h : IsL n0 w l (.slice (some ⟨g, off, none⟩) l.length c)) (i : Nat) (c' : Nat) :
    IsL n0 w (l.drop i) (.slice (some ⟨g, off + i * 2, none⟩) (l.length - i) c') := by
  obtain ⟨a, c0, hv, hm, hc⟩ := h
  simp only [Value.slice.injEq, true_and] at hv
  obtain ⟨rfl, rfl⟩ := hv
  refine ⟨some ⟨g, off + i * 2, none⟩, c', by rw [List.length_drop], by rw [List.length_drop]; omega, fun j hj => ?_⟩
  rw [List.length_drop] at hj
  obtain ⟨b, o, e, hlt, h0, h1⟩ := hc (i + j) (by omega)
  simp only [Option.some.injEq, Addr.mk.injEq, and_true] at e
  obtain ⟨rfl, rfl⟩ := e
  refine ⟨g, off + i * 2, rfl, hlt, ?_, ?_⟩
  · rw [List.getElem_drop, show off + i * 2 + j * 2 = off + (i + j) * 2 from by omega]; exact h0
  · rw [List.getElem_drop, show off + i * 2 + j * 2 + 1 = off + (i + j) * 2 + 1 from by omega]; exact h1
theorem isL_now {n0 : Nat} {w w' : World} {l : List R} {v : Value} (h : IsL n0 w l v) (hb : Below n0 w w') (hn : n0 ≤ w.heap.size) : IsL w'.heap.size w' l v := h.below hb (Nat.le_trans hn hb.size)

/-- The key of the i-th of the names above. -/
def kB (l : List R) (i : Nat) : ByteArray := ⟨(textD ((l.map normR).drop i)).toArray⟩
theorem kB_list (l : List R) (i : Nat) : (kB l i).data.toList = textD ((l.map normR).drop i) := by simp [kB]
theorem ofText_len (l : List R) (h : smallL l) : (textD l).length ≤ 5000000 := by
  have := textT_len l true h.2
  have := h.1
  rw [textT_true] at *
  omega

theorem key_part (l : List R) (hok : okL l = true) (hof : l.all okF = true) (i : Nat) (w : World) :
    Calls Try.prog 14 #[strV (textD (l.drop i))] w fun e w' => e = .returned (.tuple #[.string (kB l i), .bool true]) ∧ Below w.heap.size w w' := by
  have hmem : ∀ r ∈ l.drop i, r ∈ l := fun r hr => List.mem_of_mem_drop hr
  have h1 := okL_part hmem (by simp) hok
  have h2 := all_part hmem hof
  have htl := ofText_len (l.drop i) (okL_small h1)
  have hk := key_any ⟨(textD (l.drop i)).toArray⟩ (by show (textD (l.drop i)).length ≤ _; omega) w
  have hrw : (⟨(textD (l.drop i)).toArray⟩ : ByteArray).data.toList = textD (l.drop i) := by simp
  rw [hrw, key_text h1 h2, List.map_drop] at hk
  exact hk
theorem up_part (l : List R) (hok : okL (l.map normR) = true) (i : Nat) (hi : i < l.length) : upB (kB l i) = kB l (i + 1) :=
  bytes_ext (by rw [kB_list]; show upD (kB l i).data.toList = _; rw [kB_list]; exact up_drop hok i (by rw [List.length_map]; exact hi))
theorem kB_size_le (l : List R) (hok : okL (l.map normR) = true) (i : Nat) : (kB l i).size ≤ 5000000 := by
  rw [← bytes_len, kB_list]
  exact ofText_len _ (okL_small (okL_part (fun r hr => List.mem_of_mem_drop hr) (by simp) hok))
/-- Up of a part's key. -/
theorem upk_any (l : List R) (hok : okL (l.map normR) = true) (i : Nat) (hi : i < l.length) (w : World) :
    Calls Try.prog 19 #[.string (kB l i)] w fun e w' => e = .returned (.string (kB l (i + 1))) ∧ Below w.heap.size w w' := by
  have h := dnUp_any clone_any (kB l i) w (by have := kB_size_le l hok i; omega)
  rw [up_part l hok i hi] at h
  exact h

set_option maxRecDepth 100000 in
set_option maxHeartbeats 8000000 in
theorem under_walk (vals : List ByteArray) (ns : List UInt8) (a0 a1 : Option Addr) (c0 c1 : Nat) (t : Nat) (ht : t ≤ 255) (w : World) (h0 : IsS w.heap.size w vals a0 c0) (h1 : IsB w.heap.size w ns a1 c1) :
    Calls Try.prog 7 #[.slice a0 vals.length c0, .slice a1 ns.length c1, .int .u8 t] w fun e w' => e = .returned (.bool true) ∧ Below w.heap.size w w' := by
  have hmk := make_any vals ns a0 a1 c0 c1 w w (Below.refl _ _) h0 h1
  have hok := makeL_ok vals ns
  obtain ⟨_, hof, hl5⟩ := makeL_all vals ns
  obtain ⟨l, hl⟩ : ∃ l, l = makeL vals ns := ⟨_, rfl⟩
  rw [← hl] at hmk hok hof hl5
  have HMk := Lib.hid hmk
  have HOk := Lib.hid hok
  have HOf := Lib.hid hof
  have HAw := Lib.hid awake_any
  clear hmk hl h0 h1 hok hof
  by_cases hne : l = []
  · subst hne
    go_enter Try.func7, Try.ntmps7
    go_wp2_with (first
      | (go_at_call 27; refine (HMk.out).mono ?_; rintro e w1 ⟨v, rfl, hown, hb1⟩; obtain ⟨a, c, rfl⟩ := ownR_slice hown; have HB1 := Lib.hid hb1; clear hown hb1)
      | (go_at_call 11; refine (HAw.out _).mono ?_; rintro e w5 ⟨rfl, hb5⟩; have HB5 := Lib.hid hb5; clear hb5))
    go_ret
    exact ⟨rfl, then_ HB1.out HB5.out⟩
  have hlp : 0 < l.length := List.length_pos_iff.2 hne
  have t0 : ((l.length : Int) == 0) = false := by simp; omega
  have HNe := Lib.hid hne
  have hsm := okL_small HOk.out
  obtain ⟨i, hi⟩ : ∃ i, i = t % l.length := ⟨_, rfl⟩
  have hil : i < l.length := by rw [hi]; exact Nat.mod_lt _ hlp
  have himod : (t : Int) % (l.length : Int) = (i : Int) := by rw [hi]; omega
  have HSm := Lib.hid hsm
  have hsm2 : smallL (l.drop i) := ⟨by have := hsm.1; simp; omega, fun r hr => hsm.2 r (List.mem_of_mem_drop hr)⟩
  have HSm2 := Lib.hid hsm2
  have hk0 := fun w => key_part l HOk.out HOf.out 0 w
  rw [List.drop_zero] at hk0
  have HK0 := Lib.hid hk0
  have HK1 := Lib.hid (fun w => key_part l HOk.out HOf.out i w)
  have hno := okL_norm HOk.out HOf.out
  have HUp := Lib.hid (fun j hj w => upk_any l hno j hj w)
  clear hi hne hsm hsm2 hk0
  have tok1 : True := trivial
  have tok2 : True := trivial
  go_enter Try.func7, Try.ntmps7
  go_wp2_with (first
    | (go_at_call 27; refine (HMk.out).mono ?_; rintro e w1 ⟨v, rfl, hown, hb1⟩; obtain ⟨g, c, rfl, hlc, hcm⟩ := ownR_full hown HNe.out; have HB1 := Lib.hid hb1; have HIL := Lib.hid (ownR_isL hown (by unfold maxLen; omega)); have hic : ¬ (c = i) := (by intro e; omega); have hic2 : i ≤ c := (by omega); clear hown hb1)
    | (go_at_call 25; have _t := tok1; refine (text_any l HSm.out (.slice (some ⟨g, 0, none⟩) l.length c) _ HIL.out).mono ?_; clear _t tok1; rintro e w2 ⟨rfl, hb2⟩; have HB2 := Lib.hid hb2; clear hb2)
    | (go_at_call 14; have _t := tok2; refine (HK0.out _).mono ?_; clear _t tok2; rintro e w3 ⟨rfl, hb3⟩; have HB3 := Lib.hid hb3; have HIL3 := Lib.hid (isL_now (isL_now HIL.out HB2.out (Nat.le_refl _)) hb3 (Nat.le_refl _)); clear hb3)
    | (go_at_call 25; refine (text_any (l.drop i) HSm2.out (.slice (some ⟨g, i * 2, none⟩) (l.length - i) (c - i)) _ (by have := isL_drop HIL3.out i (c - i); rw [Nat.zero_add] at this; exact this)).mono ?_; rintro e w4 ⟨rfl, hb4⟩; have HB4 := Lib.hid hb4; clear hb4)
    | (go_at_call 14; refine (HK1.out _).mono ?_; rintro e w5 ⟨rfl, hb5⟩; have HB5 := Lib.hid hb5; clear hb5))
  have hW5 := then_ (then_ (then_ (then_ HB1.out HB2.out) HB3.out) HB4.out) HB5.out
  have HW5 := Lib.hid hW5
  have HNo := Lib.hid hno
  clear hW5 hno
  go_loopw [13, 14] (fun u k wr => ∃ j : Nat, j ≤ i ∧ k = .int .i64 j ∧ u = .string (kB l j) ∧ Below w.heap.size w wr) (fun _ k _ => i - (intOf k).toNat)
  case atStart => exact ⟨0, by omega, rfl, rfl, HW5.out⟩
  case round =>
    obtain ⟨j, hj, rfl, rfl, hbel⟩ := hrel
    have HBel := Lib.hid hbel
    by_cases hlt : j < i
    · have t1 : decide ((j : Int) < (i : Int)) = true := by simp; omega
      have t1' : decide (j < i) = true := by simpa using hlt
      have HU := Lib.hid (fun w => HUp.out j (by omega) w)
      clear hbel
      go_wp2_with (go_at_call 19; refine (HU.out _).mono ?_; rintro e w6 ⟨rfl, hb6⟩; have HB6 := Lib.hid hb6; clear hb6)
      go_roundw
      case rel => exact ⟨j + 1, by omega, by go_num, rfl, then_ HBel.out HB6.out⟩
      case measure => simp [intOf]; omega
    · obtain rfl : j = i := by omega
      have t1 : decide ((j : Int) < (j : Int)) = false := by simp
      have t1' : decide (j < j) = false := by simp
      clear hbel HW5 hlt
      go_wp2
      go_loopw [15, 16] (fun u k wr => ∃ q : Nat, q ≤ l.length ∧ k = .int .i64 q ∧ u = .string (kB l q) ∧ Below w.heap.size w wr) (fun _ k _ => l.length - (intOf k).toNat)
      case atStart => exact ⟨0, by omega, rfl, rfl, HBel.out⟩
      case round =>
        obtain ⟨q, hq, rfl, rfl, hbel⟩ := hrel
        have HBel2 := Lib.hid hbel
        by_cases hlt : q < l.length
        · have t2 : decide ((q : Int) < (l.length : Int)) = true := by simp; omega
          have t2' : decide (q < l.length) = true := by simpa using hlt
          have HU := Lib.hid (fun w => HUp.out q hlt w)
          clear hbel
          go_wp2_with (go_at_call 19; refine (HU.out _).mono ?_; rintro e w6 ⟨rfl, hb6⟩; have HB6 := Lib.hid hb6; clear hb6)
          go_roundw
          case rel => exact ⟨q + 1, by omega, by go_num, rfl, then_ HBel2.out HB6.out⟩
          case measure => simp [intOf]; omega
        · obtain rfl : q = l.length := by omega
          have t2 : decide ((l.length : Int) < (l.length : Int)) = false := by simp
          have t2' : decide (l.length < l.length) = false := by simp
          have hml : (l.map normR).length = l.length := List.length_map _
          have hend : kB l l.length = ⟨#[]⟩ := bytes_ext (by rw [kB_list, List.drop_of_length_le (by omega)]; rfl)
          have hu1 : underD (kB l 0).data.toList (kB l j).data.toList = true := by
            rw [kB_list, kB_list]
            have := under_drop HNo.out 0 j (by omega)
            rw [Nat.zero_add] at this; exact this
          have hu2 : underD (kB l 0).data.toList (⟨#[]⟩ : ByteArray).data.toList = true := by
            rw [kB_list]
            have := under_drop HNo.out 0 l.length (by omega)
            rw [Nat.zero_add, List.drop_of_length_le (by omega : (l.map normR).length ≤ l.length)] at this; exact this
          have hu3 : underD (kB l 0).data.toList (kB l 0).data.toList = true := under_self _
          have hk0 : 0 < (kB l 0).data.toList.length := by
            rw [kB_list]
            have := text_drop_lt (l.map normR) 0 (by omega)
            omega
          have hu5 : underD (⟨#[]⟩ : ByteArray).data.toList (kB l 0).data.toList = false := under_short _ _ _ (Nat.le_refl _) hk0
          have hu4 : j ≠ 0 → underD (kB l j).data.toList (kB l 0).data.toList = false := fun h => by
            refine under_short _ _ _ (Nat.le_refl _) ?_
            rw [kB_list, kB_list, List.drop_zero]
            obtain ⟨k, rfl⟩ : ∃ k, j = k + 1 := ⟨j - 1, by omega⟩
            exact text_drop_lt0 (l.map normR) k (by omega)
          have z0 := kB_size_le l HNo.out 0
          have zj := kB_size_le l HNo.out j
          have hc1 := fun w => under_any (kB l 0) (kB l j) w (by omega)
          have hc2 := fun w => under_any (kB l 0) ⟨#[]⟩ w (by omega)
          have hc3 := fun w => under_any (kB l 0) (kB l 0) w (by omega)
          have hc4 := fun w => under_any (kB l j) (kB l 0) w (by omega)
          have hc5 := fun w => under_any ⟨#[]⟩ (kB l 0) w (by decide)
          rw [hu1] at hc1
          rw [hu2] at hc2
          rw [hu3] at hc3
          rw [hu5] at hc5
          rw [hend]
          clear hu1 hu2 hu3 hu5 hbel hml hend hk0 z0 zj
          obtain ⟨A, hA⟩ : ∃ A, A = kB l 0 := ⟨_, rfl⟩
          by_cases hj0 : j = 0
          · subst hj0
            have t3 : ((0 : Int) == 0) = true := rfl
            simp only [← hA] at hc1 hc2 hc3 hc5 ⊢
            have HC2 := Lib.hid hc2
            have HC3 := Lib.hid hc3
            have HC5 := Lib.hid hc5
            clear hc1 hc2 hc3 hc4 hc5 hu4 hA
            go_wp2_with (first
              | (go_at_call 21; ((with_reducible refine (HC3.out _).mono ?_); rintro e w7 ⟨rfl, hb7⟩; have HBel2 := Lib.hid (then_ HBel2.out hb7); clear hb7))
              | (go_at_call 21; ((with_reducible refine (HC2.out _).mono ?_); rintro e w7 ⟨rfl, hb7⟩; have HBel2 := Lib.hid (then_ HBel2.out hb7); clear hb7))
              | (go_at_call 21; ((with_reducible refine (HC5.out _).mono ?_); rintro e w7 ⟨rfl, hb7⟩; have HBel2 := Lib.hid (then_ HBel2.out hb7); clear hb7))
              | (go_at_call 11; refine (HAw.out _).mono ?_; rintro e w7 ⟨rfl, hb7⟩; have HBel2 := Lib.hid (then_ HBel2.out hb7); clear hb7))
            go_ret
            exact ⟨rfl, HBel2.out⟩
          · have t3 : ((j : Int) == 0) = false := by simp; omega
            rw [hu4 hj0] at hc4
            obtain ⟨B, hB⟩ : ∃ B, B = kB l j := ⟨_, rfl⟩
            simp only [← hA, ← hB] at hc1 hc2 hc3 hc4 hc5 ⊢
            have HC1 := Lib.hid hc1
            have HC2 := Lib.hid hc2
            have HC3 := Lib.hid hc3
            have HC4 := Lib.hid hc4
            have HC5 := Lib.hid hc5
            clear hc1 hc2 hc3 hc4 hc5 hu4 hA hB hj0
            go_wp2_with (first
              | (go_at_call 21; ((with_reducible refine (HC1.out _).mono ?_); rintro e w7 ⟨rfl, hb7⟩; have HBel2 := Lib.hid (then_ HBel2.out hb7); clear hb7))
              | (go_at_call 21; ((with_reducible refine (HC2.out _).mono ?_); rintro e w7 ⟨rfl, hb7⟩; have HBel2 := Lib.hid (then_ HBel2.out hb7); clear hb7))
              | (go_at_call 21; ((with_reducible refine (HC3.out _).mono ?_); rintro e w7 ⟨rfl, hb7⟩; have HBel2 := Lib.hid (then_ HBel2.out hb7); clear hb7))
              | (go_at_call 21; ((with_reducible refine (HC4.out _).mono ?_); rintro e w7 ⟨rfl, hb7⟩; have HBel2 := Lib.hid (then_ HBel2.out hb7); clear hb7))
              | (go_at_call 21; ((with_reducible refine (HC5.out _).mono ?_); rintro e w7 ⟨rfl, hb7⟩; have HBel2 := Lib.hid (then_ HBel2.out hb7); clear hb7))
              | (go_at_call 11; refine (HAw.out _).mono ?_; rintro e w7 ⟨rfl, hb7⟩; have HBel2 := Lib.hid (then_ HBel2.out hb7); clear hb7))
            go_ret
            exact ⟨rfl, HBel2.out⟩
end Go.Proofs.Ytimkobcclkjdeaa
