/- A key is its first part, a comma, and what is above it: the walk. -/
import Derived.Test.YtimkobcclkjdeaaUnderW
namespace Go.Proofs.Ytimkobcclkjdeaa
open Go.RowKit
set_option linter.unusedVariables false

theorem isL_one {n0 : Nat} {w : World} {l : List R} {g off c : Nat} (h : IsL n0 w l (.slice (some ⟨g, off, none⟩) l.length c)) (j : Nat) (hj : j < l.length) (c' : Nat) :
    IsL n0 w [l[j]] (.slice (some ⟨g, off + j * 2, none⟩) 1 c') := by
  obtain ⟨a, c0, hv, hm, hc⟩ := h
  simp only [Value.slice.injEq, true_and] at hv
  obtain ⟨rfl, rfl⟩ := hv
  refine ⟨some ⟨g, off + j * 2, none⟩, c', rfl, by unfold maxLen; simp, fun i hi => ?_⟩
  obtain rfl : i = 0 := by simp at hi; exact hi
  obtain ⟨b, o, e, hlt, h0, h1⟩ := hc j hj
  simp only [Option.some.injEq, Addr.mk.injEq, and_true] at e
  obtain ⟨rfl, rfl⟩ := e
  exact ⟨g, off + j * 2, rfl, hlt, h0, h1⟩

def fB (l : List R) (j : Nat) (h : j < l.length) : ByteArray := ⟨(textD [normR l[j]]).toArray⟩
theorem fB_list (l : List R) (j : Nat) (h : j < l.length) : (fB l j h).data.toList = textD [normR l[j]] := by simp [fB]
theorem key_one (l : List R) (hok : okL l = true) (hof : l.all okF = true) (j : Nat) (h : j < l.length) (w : World) :
    Calls Try.prog 14 #[strV (textD [l[j]])] w fun e w' => e = .returned (.tuple #[.string (fB l j h), .bool true]) ∧ Below w.heap.size w w' := by
  have hmem : ∀ r ∈ [l[j]], r ∈ l := fun r hr => by simp at hr; rw [hr]; exact List.getElem_mem h
  have h1 := okL_part hmem (by simp; omega) hok
  have h2 := all_part hmem hof
  have htl := ofText_len [l[j]] (okL_small h1)
  have hk := key_any ⟨(textD [l[j]]).toArray⟩ (by show (textD [l[j]]).length ≤ _; omega) w
  have hrw : (⟨(textD [l[j]]).toArray⟩ : ByteArray).data.toList = textD [l[j]] := by simp
  rw [hrw, key_text h1 h2] at hk
  exact hk
theorem kB_get (l : List R) (j : Nat) (h : j < l.length) : kB l j = if j + 1 < l.length then fB l j h ++ ⟨#[44]⟩ ++ kB l (j + 1) else fB l j h := by
  have hm : j < (l.map normR).length := by rw [List.length_map]; exact h
  have hd : (l.map normR).drop j = normR l[j] :: (l.map normR).drop (j + 1) := by rw [List.drop_eq_getElem_cons hm, List.getElem_map]
  by_cases h1 : j + 1 < l.length
  · rw [if_pos h1]
    have hm1 : j + 1 < (l.map normR).length := by rw [List.length_map]; exact h1
    have hd1 := List.drop_eq_getElem_cons hm1
    refine bytes_ext ?_
    rw [app_list, app_list, kB_list, kB_list, fB_list, hd, hd1, text_cons]
    show _ = (textR _ ++ [44]) ++ _
    rw [List.append_assoc]; rfl
  · rw [if_neg h1]
    refine bytes_ext ?_
    rw [kB_list, fB_list, hd, List.drop_of_length_le (by rw [List.length_map]; omega)]

set_option maxRecDepth 100000 in
set_option maxHeartbeats 8000000 in
theorem steps_walk (vals : List ByteArray) (ns : List UInt8) (a0 a1 : Option Addr) (c0 c1 : Nat) (w : World) (h0 : IsS w.heap.size w vals a0 c0) (h1 : IsB w.heap.size w ns a1 c1) :
    Calls Try.prog 10 #[.slice a0 vals.length c0, .slice a1 ns.length c1] w fun e w' => e = .returned (.bool true) ∧ Below w.heap.size w w' := by
  have hmk := make_any vals ns a0 a1 c0 c1 w w (Below.refl _ _) h0 h1
  have hok := makeL_ok vals ns
  obtain ⟨_, hof, hl5⟩ := makeL_all vals ns
  obtain ⟨l, hl⟩ : ∃ l, l = makeL vals ns := ⟨_, rfl⟩
  rw [← hl] at hmk hok hof hl5
  have HMk := Lib.hid hmk
  have HOk := Lib.hid hok
  have HOf := Lib.hid hof
  have HAw := Lib.hid awake_any
  have hsm := okL_small hok
  have HSm := Lib.hid hsm
  have hno := okL_norm hok hof
  have HNo := Lib.hid hno
  have hk0 := fun w => key_part l hok hof 0 w
  rw [List.drop_zero] at hk0
  have HK0 := Lib.hid hk0
  have HUp := Lib.hid (fun j hj w => upk_any l hno j hj w)
  clear hmk hl h0 h1 hok hof hsm hno hk0
  have hml : (l.map normR).length = l.length := List.length_map _
  have HMl := Lib.hid hml
  clear hml
  go_enter Try.func10, Try.ntmps10
  go_wp2_with (first
    | (go_at_call 27; refine (HMk.out).mono ?_; rintro e w1 ⟨v, rfl, hown, hb1⟩; obtain ⟨a, c, rfl⟩ := ownR_slice hown; have HB1 := Lib.hid hb1; have HOwn := Lib.hid hown; have HIL := Lib.hid (ownR_isL hown (by unfold maxLen; omega)); clear hown hb1)
    | (go_at_call 25; refine (text_any l HSm.out (.slice a l.length c) _ HIL.out).mono ?_; rintro e w2 ⟨rfl, hb2⟩; have HB2 := Lib.hid hb2; clear hb2)
    | (go_at_call 14; refine (HK0.out _).mono ?_; rintro e w3 ⟨rfl, hb3⟩; have HB3 := Lib.hid hb3; clear hb3))
  have hw13 : Below w1.heap.size w1 w3 := then_ HB2.out HB3.out
  have HW13 := Lib.hid hw13
  clear hw13
  go_loopw [6, 8] (fun k i wr => ∃ j : Nat, j ≤ l.length ∧ i = .int .i64 j ∧ k = .string (kB l j) ∧ Below w1.heap.size w1 wr) (fun _ i _ => l.length - (intOf i).toNat)
  case atStart => exact ⟨0, by omega, rfl, rfl, HW13.out⟩
  case round =>
    obtain ⟨j, hj, rfl, rfl, hbel⟩ := hrel
    have HBel := Lib.hid hbel
    by_cases hlt : j < l.length
    · have t1 : decide ((j : Int) < (l.length : Int)) = true := by simp; omega
      have t1' : decide (j < l.length) = true := by simpa using hlt
      have hne : l ≠ [] := by intro e; subst e; simp at hlt
      obtain ⟨g, c', hv, hlc, hcm⟩ := ownR_full HOwn.out hne
      simp only [Value.slice.injEq, true_and] at hv
      obtain ⟨rfl, rfl⟩ := hv
      have hil1 := isL_one (isL_now HIL.out hbel (Nat.le_refl _)) j hlt (c - j)
      rw [Nat.zero_add] at hil1
      have HI1 := Lib.hid hil1
      have hsm1 : smallL [l[j]] := ⟨by simp, fun r hr => by simp at hr; rw [hr]; exact HSm.out.2 _ (List.getElem_mem hlt)⟩
      have htx := text_any [l[j]] hsm1 (.slice (some ⟨g, j * 2, none⟩) 1 (c - j)) wr hil1
      have HTx := Lib.hid htx
      have hk1 := fun w => key_one l HOk.out HOf.out j hlt w
      have hup := fun w => HUp.out j hlt w
      have hget := kB_get l j hlt
      have z0 := kB_size_le l HNo.out j
      have z1 := kB_size_le l HNo.out (j + 1)
      have hfu : upB (fB l j hlt) = ⟨#[]⟩ := by
        refine bytes_ext ?_
        show upD (fB l j hlt).data.toList = []
        rw [fB_list]
        refine up_text (l := []) ?_
        have := HNo.out
        unfold okL at this
        simp only [Bool.and_eq_true, List.all_eq_true] at this
        have := this.2 (normR l[j]) (List.mem_map_of_mem (List.getElem_mem hlt))
        unfold okR at this
        simp only [Bool.and_eq_true] at this
        exact this.1.1
      have zf : (fB l j hlt).size ≤ 5000000 := by
        have : (fB l j hlt).size ≤ (kB l j).size := by
          rw [hget]
          split
          · rw [ByteArray.size_append, ByteArray.size_append]; omega
          · exact Nat.le_refl _
        omega
      have hupf := fun w => dnUp_any clone_any (fB l j hlt) w (by omega)
      simp only [hfu] at hupf
      have hu1 : underD (kB l j).data.toList (kB l (j + 1)).data.toList = true := by
        rw [kB_list, kB_list]
        exact under_drop HNo.out j 1 (by rw [HMl.out]; omega)
      have hlt2 : (kB l (j + 1)).data.toList.length < (kB l j).data.toList.length := by
        rw [kB_list, kB_list]
        exact text_drop_lt (l.map normR) j (by rw [HMl.out]; exact hlt)
      have hu2 : underD (kB l (j + 1)).data.toList (kB l j).data.toList = false := under_short _ _ _ (Nat.le_refl _) hlt2
      have hpos : 0 < (kB l j).size := by rw [bytes_len, bytes_len] at hlt2; omega
      have hc1 := fun w => under_any (kB l j) (kB l (j + 1)) w (by omega)
      have hc2 := fun w => under_any (kB l (j + 1)) (kB l j) w (by omega)
      rw [hu1] at hc1
      rw [hu2] at hc2
      obtain ⟨A, hA⟩ : ∃ A, A = kB l j := ⟨_, rfl⟩
      obtain ⟨U, hU⟩ : ∃ U, U = kB l (j + 1) := ⟨_, rfl⟩
      obtain ⟨F, hF⟩ : ∃ F, F = fB l j hlt := ⟨_, rfl⟩
      simp only [← hA, ← hU, ← hF] at hk1 hup hget hupf hc1 hc2 z0 z1 zf hpos ⊢
      have t4 : decide ((0 : Int) < (A.size : Int)) = true := by simp; omega
      have t4' : decide (0 < A.size) = true := by simpa using hpos
      have HK1 := Lib.hid hk1
      have HUpA := Lib.hid hup
      have HUpF := Lib.hid hupf
      have HC1 := Lib.hid hc1
      have HC2 := Lib.hid hc2
      have HUe := Lib.hid hU
      have hic : ¬ (c = j) := by intro e; omega
      have g1 : (j : Int) + 1 ≤ (c : Int) := by omega
      clear hil1 hsm1 htx hk1 hup hupf hc1 hc2 hfu hu1 hu2 hlt2 hA hU hF hne hbel
      by_cases hl1 : j + 1 < l.length
      · have t2 : decide ((j : Int) < (l.length : Int) - 1) = true := by simp; omega
        rw [if_pos hl1] at hget
        have s1 : F.size + 1 ≤ 9223372036854775807 := by omega
        have s2 : (F ++ ⟨#[44]⟩).size + U.size ≤ 9223372036854775807 := by rw [ByteArray.size_append]; show F.size + 1 + U.size ≤ _; omega
        have s3 : F.size + 1 + U.size ≤ 9223372036854775807 := by omega
        have hg2 := hget.symm
        clear hget
        go_wp2_with (first
          | (go_at_call 25; refine (HTx.out).mono ?_; rintro e w4 ⟨rfl, hb4⟩; have HBel := Lib.hid (HBel.out.trans (hb4.mono HBel.out.size)); clear hb4)
          | (go_at_call 14; refine (HK1.out _).mono ?_; rintro e w5 ⟨rfl, hb5⟩; have HBel := Lib.hid (HBel.out.trans (hb5.mono HBel.out.size)); clear hb5)
          | (go_at_call 19; ((with_reducible refine (HUpA.out _).mono ?_); rintro e w6 ⟨rfl, hb6⟩; have HBel := Lib.hid (HBel.out.trans (hb6.mono HBel.out.size)); clear hb6))
          | (go_at_call 19; ((with_reducible refine (HUpF.out _).mono ?_); rintro e w6 ⟨rfl, hb6⟩; have HBel := Lib.hid (HBel.out.trans (hb6.mono HBel.out.size)); clear hb6))
          | (go_at_call 21; ((with_reducible refine (HC1.out _).mono ?_); rintro e w6 ⟨rfl, hb6⟩; have HBel := Lib.hid (HBel.out.trans (hb6.mono HBel.out.size)); clear hb6))
          | (go_at_call 21; ((with_reducible refine (HC2.out _).mono ?_); rintro e w6 ⟨rfl, hb6⟩; have HBel := Lib.hid (HBel.out.trans (hb6.mono HBel.out.size)); clear hb6)))
        exact ⟨⟨j + 1, by omega, by go_num, by rw [HUe.out], HBel.out⟩, by simp [intOf]; omega⟩
      · have t2 : decide ((j : Int) < (l.length : Int) - 1) = false := by simp; omega
        rw [if_neg hl1] at hget
        subst hget
        have hUz : U = ⟨#[]⟩ := by rw [HUe.out]; exact bytes_ext (by rw [kB_list, List.drop_of_length_le (by rw [HMl.out]; omega)]; rfl)
        subst hUz
        go_wp2_with (first
          | (go_at_call 25; refine (HTx.out).mono ?_; rintro e w4 ⟨rfl, hb4⟩; have HBel := Lib.hid (HBel.out.trans (hb4.mono HBel.out.size)); clear hb4)
          | (go_at_call 14; refine (HK1.out _).mono ?_; rintro e w5 ⟨rfl, hb5⟩; have HBel := Lib.hid (HBel.out.trans (hb5.mono HBel.out.size)); clear hb5)
          | (go_at_call 19; ((with_reducible refine (HUpA.out _).mono ?_); rintro e w6 ⟨rfl, hb6⟩; have HBel := Lib.hid (HBel.out.trans (hb6.mono HBel.out.size)); clear hb6))
          | (go_at_call 19; ((with_reducible refine (HUpF.out _).mono ?_); rintro e w6 ⟨rfl, hb6⟩; have HBel := Lib.hid (HBel.out.trans (hb6.mono HBel.out.size)); clear hb6))
          | (go_at_call 21; ((with_reducible refine (HC1.out _).mono ?_); rintro e w6 ⟨rfl, hb6⟩; have HBel := Lib.hid (HBel.out.trans (hb6.mono HBel.out.size)); clear hb6))
          | (go_at_call 21; ((with_reducible refine (HC2.out _).mono ?_); rintro e w6 ⟨rfl, hb6⟩; have HBel := Lib.hid (HBel.out.trans (hb6.mono HBel.out.size)); clear hb6)))
        exact ⟨⟨j + 1, by omega, by go_num, by rw [HUe.out], HBel.out⟩, by simp [intOf]; omega⟩
    · obtain rfl : j = l.length := by omega
      have t1 : decide ((l.length : Int) < (l.length : Int)) = false := by simp
      have t1' : decide (l.length < l.length) = false := by simp
      have hend : kB l l.length = ⟨#[]⟩ := bytes_ext (by rw [kB_list, List.drop_of_length_le (by rw [HMl.out]; omega)]; rfl)
      rw [hend]
      clear hend hbel
      go_wp2_with (go_at_call 11; refine (HAw.out _).mono ?_; rintro e w7 ⟨rfl, hb7⟩; have HB7 := Lib.hid hb7; clear hb7)
      go_ret
      exact ⟨rfl, then_ (then_ HB1.out HBel.out) HB7.out⟩
end Go.Proofs.Ytimkobcclkjdeaa
