/- A name is told again by its text: the walk. -/
import Derived.Test.YtimkobcclkjdeaaSame
namespace Go.Proofs.Ytimkobcclkjdeaa
open Go.RowKit
set_option linter.unusedVariables false

set_option maxRecDepth 100000 in
set_option maxHeartbeats 8000000 in
theorem back_walk (vals : List ByteArray) (ns : List UInt8) (a0 a1 : Option Addr) (c0 c1 : Nat) (w : World) (h0 : IsS w.heap.size w vals a0 c0) (h1 : IsB w.heap.size w ns a1 c1) :
    Calls Try.prog 5 #[.slice a0 vals.length c0, .slice a1 ns.length c1] w fun e w' => e = .returned (.bool true) ∧ Below w.heap.size w w' := by
  have hmk := make_any vals ns a0 a1 c0 c1 w w (Below.refl _ _) h0 h1
  have hok := makeL_ok vals ns
  obtain ⟨hall, _, hl5⟩ := makeL_all vals ns
  obtain ⟨l, hl⟩ : ∃ l, l = makeL vals ns := ⟨_, rfl⟩
  rw [← hl] at hmk hok hall hl5
  have HMk := Lib.hid hmk
  have HAw := Lib.hid awake_any
  have hsm := okL_small hok
  have HSm := Lib.hid hsm
  have htl := ofText_len l hsm
  obtain ⟨S, hS⟩ : ∃ S : ByteArray, S = ⟨(textD l).toArray⟩ := ⟨_, rfl⟩
  have hSl : S.data.toList = textD l := by rw [hS]
  have hSs : S.size ≤ 5000000 := by rw [← bytes_len, hSl]; exact htl
  have hpa := fun w => parse_any S (by omega) w
  rw [hSl, parse_text l hok] at hpa
  have HPa := Lib.hid hpa
  have hch := text_char l hall
  rw [← hSl] at hch
  have HCh := Lib.hid hch
  have HSv := Lib.hid hS
  clear hmk hl h0 h1 hok hall hsm htl hSl hpa hch hS
  go_enter Try.func5, Try.ntmps5
  go_wp2_with (first
    | (go_at_call 27; refine (HMk.out).mono ?_; rintro e w1 ⟨v, rfl, hown, hb1⟩; obtain ⟨a, c, rfl⟩ := ownR_slice hown; have HB1 := Lib.hid hb1; have HIL := Lib.hid (ownR_isL hown (by unfold maxLen; omega)); clear hown hb1)
    | (go_at_call 25; refine (text_any l HSm.out (.slice a l.length c) _ HIL.out).mono ?_; rintro e w2 ⟨he, hb2⟩; (unfold strV at he); rw [← HSv.out] at he; subst he; have HB2 := Lib.hid hb2; have HIL2 := Lib.hid (isL_now HIL.out hb2 (Nat.le_refl _)); clear hb2)
    | (go_at_call 12; refine (HPa.out _).mono ?_; rintro e w3 ⟨hb3, u, rfl, hown3⟩; obtain ⟨a3, c3, rfl⟩ := ownR_slice hown3; have HB3 := Lib.hid hb3; have HIL3 := Lib.hid (isL_now HIL2.out hb3 (Nat.le_refl _)); have HIX3 := Lib.hid (ownR_isL hown3 (by unfold maxLen; omega)); clear hb3 hown3))
  have hw3 := then_ (then_ HB1.out HB2.out) HB3.out
  have HW3 := Lib.hid hw3
  have HSame := Lib.hid (same_any l l (.slice a3 l.length c3) (.slice a l.length c) w3 HIX3.out HIL3.out)
  clear hw3
  go_loop [9] (fun i => ∃ j : Nat, j ≤ S.size ∧ i = .int .i64 j) (fun i => S.size - (intOf i).toNat)
  case atStart => exact ⟨0, by omega, rfl⟩
  case round =>
    obtain ⟨j, hj, rfl⟩ := hrel
    by_cases hlt : j < S.size
    · have t1 : decide ((j : Int) < (S.size : Int)) = true := by simp; omega
      obtain ⟨x, hx⟩ : ∃ x : UInt8, x = S[j] := ⟨_, rfl⟩
      have hx' : S[j]'hlt = x := hx.symm
      have hxc := HCh.out x (by rw [hx]; exact List.getElem_mem (by rw [bytes_len]; exact hlt))
      have t2 : decide ((x.toNat : Int) < 32) = false := by simp; omega
      have t3 : decide ((126 : Int) < (x.toNat : Int)) = false := by simp; omega
      clear hx hxc
      go_wp2
      go_round
      case rel => exact ⟨j + 1, by omega, by go_num⟩
      case measure => simp [intOf]; omega
    · obtain rfl : j = S.size := by omega
      have t1 : decide ((S.size : Int) < (S.size : Int)) = false := by simp
      have hsame := HSame.out
      rw [decide_eq_true rfl] at hsame
      have HSame := Lib.hid hsame
      clear hsame
      go_wp2_with (first
        | (go_at_call 16; refine (HSame.out).mono ?_; rintro e w4 ⟨rfl, hb4⟩; have HB4 := Lib.hid hb4; clear hb4)
        | (go_at_call 11; refine (HAw.out _).mono ?_; rintro e w5 ⟨rfl, hb5⟩; have HB5 := Lib.hid hb5; clear hb5))
      go_ret
      exact ⟨rfl, then_ (then_ HW3.out HB4.out) HB5.out⟩
end Go.Proofs.Ytimkobcclkjdeaa
