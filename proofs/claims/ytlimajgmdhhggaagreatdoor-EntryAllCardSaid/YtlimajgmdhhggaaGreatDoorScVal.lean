/- schema.checkVals: the walk. -/
import Derived.Test.YtlimajgmdhhggaaGreatDoorShelf2
import Derived.Test.YtlimajgmdhhggaaGreatDoorScPure
import Derived.Test.YtlimajgmdhhggaaGreatDoorMaNorm
import Derived.Sort.OwnSorted
namespace Go.Proofs.YtlimajgmdhhggaaGreatDoor
open Go.RowKit
set_option linter.unusedVariables false

/-- slices.Sort at a row of the call's own. -/
theorem sortS_any (A : List (List UInt8)) (B : Nat) (v : Value) (w : World) (h : OwnS B w v A) (hne : A ≠ []) (hl : A.length ≤ 1000000) :
    Calls Tryz.prog 167 #[v] w fun e w' => e = .returned (.tuple #[]) ∧ OwnS B w' v (A.mergeSort leB) ∧ w.grownBy w' v.ownBlock := by
  rcases h.2 with ⟨_, hz⟩ | ⟨g, cap, cur, rfl, hB, hg, h1, h2, h3, h4⟩
  · exact absurd (List.eq_nil_of_length_eq_zero hz) hne
  · refine (Tryz.slices_Sort_string g 0 cap A w (holds_of_block hg (by rw [Nat.mul_one] at h4; exact h4)) (Array.getElem?_eq_some_iff.1 hg).1 (by omega)).mono ?_
    rintro e w' ⟨rfl, n, os, rfl⟩
    refine ⟨rfl, ?_, grownBy_sorted _⟩
    have := ownsRow_sorted (n := n) (os := os) (e := 9) (ts := A.mergeSort leB) (ss := A) (by simp) hB hg h1 h2 h3
    unfold OwnS
    rw [List.length_mergeSort]
    exact this
theorem compactS_any (A : List (List UInt8)) (B : Nat) (v : Value) (w : World) (h : OwnS B w v A) (hne : A ≠ []) (hl : A.length ≤ 1000000) :
    Calls Tryz.prog 168 #[v] w fun e w' => (∃ a c, e = .returned (.slice a (Lib.compact A).length c)) ∧ w.grownBy w' v.ownBlock := by
  rcases h.2 with ⟨_, hz⟩ | ⟨g, cap, cur, rfl, hB, hg, h1, h2, h3, h4⟩
  · exact absurd (List.eq_nil_of_length_eq_zero hz) hne
  · refine (Tryz.slices_Compact_string g 0 cap A w (holds_of_block hg (by rw [Nat.mul_one] at h4; exact h4)) (by omega) h1).mono ?_
    rintro e w' ⟨rfl, q, rfl⟩
    refine ⟨⟨_, _, rfl⟩, ?_⟩
    have := grownBy_sorted (w := w) (g := g) (n := q) (os := #[]) (Lib.compact A ++ List.replicate (A.length - (Lib.compact A).length) []).toArray
    rwa [Sort.grow_empty] at this

theorem below_own {B : Nat} {w0 w w' : World} {v : Value} {L : List (List UInt8)} (h : Below B w0 w) (hs : B ≤ w.heap.size) (ho : OwnS B w v L) (hg : w.grownBy w' v.ownBlock) : Below B w0 w' :=
  h.grown hg hs (fun k e => (World.ownsRow.lt ho k e).1)

set_option maxRecDepth 100000 in
set_option maxHeartbeats 4000000 in
theorem checkVals_any (t : ByteArray) (V : List (List UInt8)) (v : Value) (w : World) (hw : LaidW w) (h : IsT w.heap.size w V v) :
    Calls Tryz.prog 140 #[.string t, v] w fun e w' => e = .returned (.int .i64 (valsC t.data.toList V)) ∧ Below w.heap.size w w' := by
  obtain ⟨a, c, rfl, hm, hcell⟩ := h
  unfold maxLen at hm
  have hmo := fun w => most_any t w
  obtain ⟨C, hC⟩ : ∃ C, C = valsC t.data.toList V := ⟨_, rfl⟩
  rw [← hC]
  unfold valsC at hC
  obtain ⟨m, hmm⟩ : ∃ m, m = mostS t.data.toList := ⟨_, rfl⟩
  rw [← hmm] at hC hmo
  have hm40 : m ≤ 40 := by rw [hmm]; unfold mostS; split <;> omega
  obtain ⟨r, hr⟩ : ∃ r, r = ruleD t.data.toList := ⟨_, rfl⟩
  have hno := fun X w hw => norm_any t X w hw
  rw [← hr] at hC
  simp only [← hr] at hno
  obtain ⟨n, hn⟩ : ∃ n, n = V.length := ⟨_, rfl⟩
  rw [← hn] at hC hm ⊢
  have HN := Lib.hid hn
  have HC := Lib.hid hcell
  have HMo := Lib.hid hmo
  have HNo := Lib.hid hno
  have HW := Lib.hid hw
  clear hcell hmm hr hmo hno hn hw
  by_cases h0 : n = 0
  · subst h0
    rw [if_pos (.inl rfl)] at hC
    subst hC
    have t1 : ((((0 : Nat) : Int)) == 0) = true := rfl
    have t1' : ((0 : Int) == 0) = true := rfl
    go_enter Tryz.func140, Tryz.ntmps140
    go_wp2
    go_ret
    exact ⟨rfl, Below.refl _ _⟩
  · have t1 : ((n : Int) == 0) = false := by simp; omega
    have t1' : (n == 0) = false := by simp; omega
    by_cases hmost : m < (n : Int)
    · rw [if_pos (.inr hmost)] at hC
      subst hC
      have t2 : decide (m < (n : Int)) = true := by simpa using hmost
      go_enter Tryz.func140, Tryz.ntmps140
      go_wp2_with (go_at_call 166; refine (HMo.out _).mono ?_; rintro e w1 ⟨rfl, rfl⟩)
      go_ret
      exact ⟨rfl, Below.refl _ _⟩
    · rw [if_neg (fun e => e.elim h0 hmost)] at hC
      have t2 : decide (m < (n : Int)) = false := by simpa using hmost
      have hn40 : n ≤ 40 := by omega
      have HCv := Lib.hid hC
      clear hC hmost
      go_enter Tryz.func140, Tryz.ntmps140
      go_wp2_with (go_at_call 166; refine (HMo.out _).mono ?_; rintro e w1 ⟨rfl, rfl⟩)
      go_loopw [5, 22] (fun l i wr => ∃ (j : Nat) (A : List (List UInt8)), j ≤ n ∧ i = .int .i64 j ∧ A.length = j ∧ normsR r A (V.drop j) = normsS r V ∧ OwnS w1.heap.size wr l A ∧ Below w1.heap.size w1 wr) (fun _ i wr => n - (intOf i).toNat)
      case atStart => exact ⟨0, [], by omega, rfl, rfl, by rw [List.drop_zero]; exact normsR_start r V, ownS_nil _ _, Below.refl _ _⟩
      case round =>
        obtain ⟨j, A, hj, rfl, hAl, hnr, hown, hbel⟩ := hrel
        have HBel := Lib.hid hbel
        have hbs := hbel.size
        have HW2 := Lib.hid (HW.out.below hbel)
        obtain ⟨sa, sc, rfl⟩ := ownS_slice hown
        rw [hAl] at hown ⊢
        have HAl := Lib.hid hAl
        have HOwn := Lib.hid hown
        by_cases hlt : j < n
        · have t3 : decide ((j : Int) < (n : Int)) = true := by simp; omega
          have t3' : decide (j < n) = true := by simpa using hlt
          have hlV : j < V.length := by rw [← HN.out]; exact hlt
          obtain ⟨b, off, rfl, hb0, c0⟩ := HC.out j hlV
          obtain ⟨X, hX⟩ : ∃ X : ByteArray, ⟨V[j].toArray⟩ = X := ⟨_, rfl⟩
          have hXl : X.data.toList = V[j] := by rw [← hX]
          have d0 : (wr.cell? ⟨b, off + j, none⟩) = some (.string X) := by
            rw [hbel.cell (p := ⟨b, _, none⟩) hb0, c0, ← hX]; rfl
          rw [List.drop_eq_getElem_cons hlV] at hnr
          have hnx := HNo.out X
          rw [hXl] at hnx
          cases hq : normD r V[j] with
          | none =>
            rw [hq] at hnx
            rw [normsR_none hq] at hnr
            have hf : C = 21 := by rw [HCv.out, ← hnr]
            subst hf
            have HNx := Lib.hid hnx
            clear hnx hnr hX hXl c0 hown hbel hAl hq HCv
            simp only [saidP] at HNx
            go_wp2_with (go_at_call 134; refine (HNx.out _ HW2.out).mono ?_; rintro e w2 ⟨rfl, hb2⟩; have HB2 := Lib.hid (bthen HBel.out hb2); clear hb2)
            go_ret
            exact ⟨rfl, HB2.out⟩
          | some x =>
            rw [hq] at hnx
            rw [normsR_step hq] at hnr
            simp only [saidP] at hnx
            obtain ⟨Y, hY⟩ : ∃ Y : ByteArray, ⟨x.toArray⟩ = Y := ⟨_, rfl⟩
            have hYl : Y.data.toList = x := by rw [← hY]
            rw [hY] at hnx
            rw [← hYl] at hnr
            have HNx := Lib.hid hnx
            have HNr := Lib.hid hnr
            clear hnx hnr hX hXl c0 hown hbel hAl hq hY hYl
            go_wp2_with (first
              | (go_at_call 134; refine (HNx.out _ HW2.out).mono ?_; rintro e w2 ⟨rfl, hb2⟩; have HB2 := Lib.hid (bthen HBel.out hb2); have HO2 := Lib.hid (ownS_below HOwn.out hb2); have hbs2 := hb2.size; clear hb2)
              | (at_builtin; refine wpList_append_text rfl (.tmp 34) (.tmp 36) rfl w1.heap.size (.slice sa j sc) A rfl Y HO2.out rfl (by have := HAl.out; omega) (by omega) ?_; intro v5 w5 hown5 hb5; have HO5 := Lib.hid hown5; have HB5 := Lib.hid hb5; clear hown5 hb5))
            go_roundw
            case rel => exact ⟨j + 1, A ++ [Y.data.toList], by omega, by go_num, by rw [List.length_append, HAl.out]; rfl, HNr.out, HO5.out, HB2.out.trans HB5.out⟩
            case measure => simp [intOf]; omega
        · obtain rfl : j = n := by omega
          have t3 : decide ((j : Int) < (j : Int)) = false := by simp
          have t3' : decide (j < j) = false := by simp
          have hA : normsS r V = some A := by
            rw [← hnr, List.drop_of_length_le (by rw [← HN.out]; exact Nat.le_refl _), normsR_end]
          have hCv : C = if A.Nodup then 0 else 20 := by rw [HCv.out, hA]
          have hne : A ≠ [] := fun e => h0 (by rw [← hAl, e]; rfl)
          have hl2 : (A.mergeSort leB).length = j := by rw [List.length_mergeSort, hAl]
          have hne2 : A.mergeSort leB ≠ [] := fun e => h0 (by rw [← hl2, e]; rfl)
          obtain ⟨k, hk⟩ : ∃ k, k = (Lib.compact (A.mergeSort leB)).length := ⟨_, rfl⟩
          have hd : k < j ↔ ¬ A.Nodup := by rw [hk, ← hAl]; exact dup_iff A
          have HSo := Lib.hid (sortS_any A w1.heap.size (.slice sa j sc) wr hown hne (by omega))
          have HCo := Lib.hid (fun W (h : OwnS w1.heap.size W (.slice sa j sc) (A.mergeSort leB)) => compactS_any (A.mergeSort leB) w1.heap.size (.slice sa j sc) W h hne2 (by omega))
          rw [← hk] at HCo
          have HNe := Lib.hid hne
          clear hnr hown hbel hAl hA hk HCv hl2 hne hne2
          by_cases hdup : A.Nodup
          · rw [if_pos hdup] at hCv
            subst hCv
            have t4 : decide ((k : Int) < (j : Int)) = false := by have := mt hd.1 (fun e => e hdup); simp; omega
            have t4' : decide (k < j) = false := by have := mt hd.1 (fun e => e hdup); simp; omega
            clear hd hdup
            go_wp2_with (first
              | (go_at_call 167; refine (HSo.out).mono ?_; rintro e w2 ⟨rfl, ho2, hg2⟩; have HO2 := Lib.hid ho2; have HB2 := Lib.hid (below_own HBel.out hbs HOwn.out hg2); clear ho2 hg2)
              | (go_at_call 168; refine (HCo.out _ HO2.out).mono ?_; rintro e w3 ⟨⟨ka, kc, rfl⟩, hg3⟩; have HB3 := Lib.hid (below_own HB2.out HB2.out.size HO2.out hg3); clear hg3))
            go_ret
            exact ⟨rfl, HB3.out⟩
          · rw [if_neg hdup] at hCv
            subst hCv
            have t4 : decide ((k : Int) < (j : Int)) = true := by have := hd.2 hdup; simp; omega
            have t4' : decide (k < j) = true := by have := hd.2 hdup; simp; omega
            clear hd hdup
            go_wp2_with (first
              | (go_at_call 167; refine (HSo.out).mono ?_; rintro e w2 ⟨rfl, ho2, hg2⟩; have HO2 := Lib.hid ho2; have HB2 := Lib.hid (below_own HBel.out hbs HOwn.out hg2); clear ho2 hg2)
              | (go_at_call 168; refine (HCo.out _ HO2.out).mono ?_; rintro e w3 ⟨⟨ka, kc, rfl⟩, hg3⟩; have HB3 := Lib.hid (below_own HB2.out HB2.out.size HO2.out hg3); clear hg3))
            go_ret
            exact ⟨rfl, HB3.out⟩
end Go.Proofs.YtlimajgmdhhggaaGreatDoor
