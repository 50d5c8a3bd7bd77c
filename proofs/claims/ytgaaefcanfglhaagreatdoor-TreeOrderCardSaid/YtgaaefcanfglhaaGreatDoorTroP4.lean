/- Several texts in one file: ScVal, ScSound, ScClassed, ScCheck, EnWith, EnIdx, EnIns. -/
import Derived.Test.YtgaaefcanfglhaaGreatDoorTroP2
import Derived.Sort.OwnSorted
import Derived.Test.YtgaaefcanfglhaaGreatDoorTroP3
import Derived.Test.YtgaaefcanfglhaaGreatDoorDnKey
import Derived.Test.YtgaaefcanfglhaaGreatDoorTroP1
import Derived.Shelf.Spec.SlicesInsert
import Derived.Lib.AppendZerosOnto
import Derived.Laws.NewBlocks
namespace Go.Proofs.YtgaaefcanfglhaaGreatDoor
open Go.RowKit
set_option linter.unusedVariables false

theorem sortS_any (A : List (List UInt8)) (B : Nat) (v : Value) (w : World) (h : OwnS B w v A) (hne : A ≠ []) (hl : A.length ≤ 1000000) :
    Calls Tryz.prog 129 #[v] w fun e w' => e = .returned (.tuple #[]) ∧ OwnS B w' v (A.mergeSort leB) ∧ w.grownBy w' v.ownBlock := by
  rcases h.2 with ⟨_, hz⟩ | ⟨g, cap, cur, rfl, hB, hg, h1, h2, h3, h4⟩
  · exact absurd (List.eq_nil_of_length_eq_zero hz) hne
  · refine (Tryz.slices_Sort_string g 0 cap A w (holds_of_block hg (by rw [Nat.mul_one] at h4; exact h4)) (Array.getElem?_eq_some_iff.1 hg).1 (by omega)).mono ?_
    rintro e w' ⟨rfl, n, os, rfl⟩
    refine ⟨rfl, ?_, grownBy_sorted _⟩
    have := ownsRow_sorted (n := n) (os := os) (e := 9) (ts := A.mergeSort leB) (ss := A) (by simp) hB hg h1 h2 h3
    unfold OwnS
    rw [List.length_mergeSort]
    exact this
theorem compactS_any (A : List (List UInt8)) (B : Nat) (v : Value) (w : World) (h : OwnS B w v A) (hne : A ≠ []) (hl : A.length ≤ 1000000) :
    Calls Tryz.prog 130 #[v] w fun e w' => (∃ a c, e = .returned (.slice a (Lib.compact A).length c)) ∧ w.grownBy w' v.ownBlock := by
  rcases h.2 with ⟨_, hz⟩ | ⟨g, cap, cur, rfl, hB, hg, h1, h2, h3, h4⟩
  · exact absurd (List.eq_nil_of_length_eq_zero hz) hne
  · refine (Tryz.slices_Compact_string g 0 cap A w (holds_of_block hg (by rw [Nat.mul_one] at h4; exact h4)) (by omega) h1).mono ?_
    rintro e w' ⟨rfl, q, rfl⟩
    refine ⟨⟨_, _, rfl⟩, ?_⟩
    have := grownBy_sorted (w := w) (g := g) (n := q) (os := #[]) (Lib.compact A ++ List.replicate (A.length - (Lib.compact A).length) []).toArray
    rwa [Sort.grow_empty] at this

theorem below_own {B : Nat} {w0 w w' : World} {v : Value} {L : List (List UInt8)} (h : Below B w0 w) (hs : B ≤ w.heap.size) (ho : OwnS B w v L) (hg : w.grownBy w' v.ownBlock) : Below B w0 w' :=
  h.grown hg hs (fun k e => (World.ownsRow.lt ho k e).1)

set_option maxRecDepth 100000 in
set_option maxHeartbeats 4000000 in
theorem checkVals_any (t : ByteArray) (V : List (List UInt8)) (v : Value) (w : World) (hw : LaidW w) (h : IsT w.heap.size w V v) :
    Calls Tryz.prog 92 #[.string t, v] w fun e w' => e = .returned (.int .i64 (valsC t.data.toList V)) ∧ Below w.heap.size w w' := by
  obtain ⟨a, c, rfl, hm, hcell⟩ := h
  unfold maxLen at hm
  have hmo := fun w => most_any t w
  obtain ⟨C, hC⟩ : ∃ C, C = valsC t.data.toList V := ⟨_, rfl⟩
  rw [← hC]
  unfold valsC at hC
  obtain ⟨m, hmm⟩ : ∃ m, m = mostS t.data.toList := ⟨_, rfl⟩
  rw [← hmm] at hC hmo
  have hm40 : m ≤ 40 := by rw [hmm]; unfold mostS; split <;> omega
  obtain ⟨r, hr⟩ : ∃ r, r = ruleD t.data.toList := ⟨_, rfl⟩
  have hno := fun X w hw => norm_any t X w hw
  rw [← hr] at hC
  simp only [← hr] at hno
  obtain ⟨n, hn⟩ : ∃ n, n = V.length := ⟨_, rfl⟩
  rw [← hn] at hC hm ⊢
  have HN := Lib.hid hn
  have HC := Lib.hid hcell
  have HMo := Lib.hid hmo
  have HNo := Lib.hid hno
  have HW := Lib.hid hw
  clear hcell hmm hr hmo hno hn hw
  by_cases h0 : n = 0
  · subst h0
    rw [if_pos (.inl rfl)] at hC
    subst hC
    have t1 : ((((0 : Nat) : Int)) == 0) = true := rfl
    have t1' : ((0 : Int) == 0) = true := rfl
    go_enter Tryz.func92, Tryz.ntmps92
    go_wp2
    go_ret
    exact ⟨rfl, Below.refl _ _⟩
  · have t1 : ((n : Int) == 0) = false := by simp; omega
    have t1' : (n == 0) = false := by simp; omega
    by_cases hmost : m < (n : Int)
    · rw [if_pos (.inr hmost)] at hC
      subst hC
      have t2 : decide (m < (n : Int)) = true := by simpa using hmost
      go_enter Tryz.func92, Tryz.ntmps92
      go_wp2_with (go_at_call 127; refine (HMo.out _).mono ?_; rintro e w1 ⟨rfl, rfl⟩)
      go_ret
      exact ⟨rfl, Below.refl _ _⟩
    · rw [if_neg (fun e => e.elim h0 hmost)] at hC
      have t2 : decide (m < (n : Int)) = false := by simpa using hmost
      have hn40 : n ≤ 40 := by omega
      have HCv := Lib.hid hC
      clear hC hmost
      go_enter Tryz.func92, Tryz.ntmps92
      go_wp2_with (go_at_call 127; refine (HMo.out _).mono ?_; rintro e w1 ⟨rfl, rfl⟩)
      go_loopw [5, 22] (fun l i wr => ∃ (j : Nat) (A : List (List UInt8)), j ≤ n ∧ i = .int .i64 j ∧ A.length = j ∧ normsR r A (V.drop j) = normsS r V ∧ OwnS w1.heap.size wr l A ∧ Below w1.heap.size w1 wr) (fun _ i wr => n - (intOf i).toNat)
      case atStart => exact ⟨0, [], by omega, rfl, rfl, by rw [List.drop_zero]; exact normsR_start r V, ownS_nil _ _, Below.refl _ _⟩
      case round =>
        obtain ⟨j, A, hj, rfl, hAl, hnr, hown, hbel⟩ := hrel
        have HBel := Lib.hid hbel
        have hbs := hbel.size
        have HW2 := Lib.hid (HW.out.below hbel)
        obtain ⟨sa, sc, rfl⟩ := ownS_slice hown
        rw [hAl] at hown ⊢
        have HAl := Lib.hid hAl
        have HOwn := Lib.hid hown
        by_cases hlt : j < n
        · have t3 : decide ((j : Int) < (n : Int)) = true := by simp; omega
          have t3' : decide (j < n) = true := by simpa using hlt
          have hlV : j < V.length := by rw [← HN.out]; exact hlt
          obtain ⟨b, off, rfl, hb0, c0⟩ := HC.out j hlV
          obtain ⟨X, hX⟩ : ∃ X : ByteArray, ⟨V[j].toArray⟩ = X := ⟨_, rfl⟩
          have hXl : X.data.toList = V[j] := by rw [← hX]
          have d0 : (wr.cell? ⟨b, off + j, none⟩) = some (.string X) := by
            rw [hbel.cell (p := ⟨b, _, none⟩) hb0, c0, ← hX]; rfl
          rw [List.drop_eq_getElem_cons hlV] at hnr
          have hnx := HNo.out X
          rw [hXl] at hnx
          cases hq : normD r V[j] with
          | none =>
            rw [hq] at hnx
            rw [normsR_none hq] at hnr
            have hf : C = 21 := by rw [HCv.out, ← hnr]
            subst hf
            have HNx := Lib.hid hnx
            clear hnx hnr hX hXl c0 hown hbel hAl hq HCv
            simp only [saidP] at HNx
            go_wp2_with (go_at_call 128; refine (HNx.out _ HW2.out).mono ?_; rintro e w2 ⟨rfl, hb2⟩; have HB2 := Lib.hid (bthen HBel.out hb2); clear hb2)
            go_ret
            exact ⟨rfl, HB2.out⟩
          | some x =>
            rw [hq] at hnx
            rw [normsR_step hq] at hnr
            simp only [saidP] at hnx
            obtain ⟨Y, hY⟩ : ∃ Y : ByteArray, ⟨x.toArray⟩ = Y := ⟨_, rfl⟩
            have hYl : Y.data.toList = x := by rw [← hY]
            rw [hY] at hnx
            rw [← hYl] at hnr
            have HNx := Lib.hid hnx
            have HNr := Lib.hid hnr
            clear hnx hnr hX hXl c0 hown hbel hAl hq hY hYl
            go_wp2_with (first
              | (go_at_call 128; refine (HNx.out _ HW2.out).mono ?_; rintro e w2 ⟨rfl, hb2⟩; have HB2 := Lib.hid (bthen HBel.out hb2); have HO2 := Lib.hid (ownS_below HOwn.out hb2); have hbs2 := hb2.size; clear hb2)
              | (at_builtin; refine wpList_append_text rfl (.tmp 34) (.tmp 36) rfl w1.heap.size (.slice sa j sc) A rfl Y HO2.out rfl (by have := HAl.out; omega) (by omega) ?_; intro v5 w5 hown5 hb5; have HO5 := Lib.hid hown5; have HB5 := Lib.hid hb5; clear hown5 hb5))
            go_roundw
            case rel => exact ⟨j + 1, A ++ [Y.data.toList], by omega, by go_num, by rw [List.length_append, HAl.out]; rfl, HNr.out, HO5.out, HB2.out.trans HB5.out⟩
            case measure => simp [intOf]; omega
        · obtain rfl : j = n := by omega
          have t3 : decide ((j : Int) < (j : Int)) = false := by simp
          have t3' : decide (j < j) = false := by simp
          have hA : normsS r V = some A := by
            rw [← hnr, List.drop_of_length_le (by rw [← HN.out]; exact Nat.le_refl _), normsR_end]
          have hCv : C = if A.Nodup then 0 else 20 := by rw [HCv.out, hA]
          have hne : A ≠ [] := fun e => h0 (by rw [← hAl, e]; rfl)
          have hl2 : (A.mergeSort leB).length = j := by rw [List.length_mergeSort, hAl]
          have hne2 : A.mergeSort leB ≠ [] := fun e => h0 (by rw [← hl2, e]; rfl)
          obtain ⟨k, hk⟩ : ∃ k, k = (Lib.compact (A.mergeSort leB)).length := ⟨_, rfl⟩
          have hd : k < j ↔ ¬ A.Nodup := by rw [hk, ← hAl]; exact dup_iff A
          have HSo := Lib.hid (sortS_any A w1.heap.size (.slice sa j sc) wr hown hne (by omega))
          have HCo := Lib.hid (fun W (h : OwnS w1.heap.size W (.slice sa j sc) (A.mergeSort leB)) => compactS_any (A.mergeSort leB) w1.heap.size (.slice sa j sc) W h hne2 (by omega))
          rw [← hk] at HCo
          have HNe := Lib.hid hne
          clear hnr hown hbel hAl hA hk HCv hl2 hne hne2
          by_cases hdup : A.Nodup
          · rw [if_pos hdup] at hCv
            subst hCv
            have t4 : decide ((k : Int) < (j : Int)) = false := by have := mt hd.1 (fun e => e hdup); simp; omega
            have t4' : decide (k < j) = false := by have := mt hd.1 (fun e => e hdup); simp; omega
            clear hd hdup
            go_wp2_with (first
              | (go_at_call 129; refine (HSo.out).mono ?_; rintro e w2 ⟨rfl, ho2, hg2⟩; have HO2 := Lib.hid ho2; have HB2 := Lib.hid (below_own HBel.out hbs HOwn.out hg2); clear ho2 hg2)
              | (go_at_call 130; refine (HCo.out _ HO2.out).mono ?_; rintro e w3 ⟨⟨ka, kc, rfl⟩, hg3⟩; have HB3 := Lib.hid (below_own HB2.out HB2.out.size HO2.out hg3); clear hg3))
            go_ret
            exact ⟨rfl, HB3.out⟩
          · rw [if_neg hdup] at hCv
            subst hCv
            have t4 : decide ((k : Int) < (j : Int)) = true := by have := hd.2 hdup; simp; omega
            have t4' : decide (k < j) = true := by have := hd.2 hdup; simp; omega
            clear hd hdup
            go_wp2_with (first
              | (go_at_call 129; refine (HSo.out).mono ?_; rintro e w2 ⟨rfl, ho2, hg2⟩; have HO2 := Lib.hid ho2; have HB2 := Lib.hid (below_own HBel.out hbs HOwn.out hg2); clear ho2 hg2)
              | (go_at_call 130; refine (HCo.out _ HO2.out).mono ?_; rintro e w3 ⟨⟨ka, kc, rfl⟩, hg3⟩; have HB3 := Lib.hid (below_own HB2.out HB2.out.size HO2.out hg3); clear hg3))
            go_ret
            exact ⟨rfl, HB3.out⟩
end Go.Proofs.YtgaaefcanfglhaaGreatDoor


namespace Go.Proofs.YtgaaefcanfglhaaGreatDoor
open Go.RowKit
set_option linter.unusedVariables false

def BoxA (w : World) (b : Nat) (x : ByteArray) (u : Value) : Prop := w.heap[b]? = some (.cells #[.string x, u] 60 (0, 0))
theorem BoxA.below {w w' : World} {b n : Nat} {x : ByteArray} {u : Value} (h : BoxA w b x u) (hb : Below n w w') (hn : b < n) : BoxA w' b x u := (hb.block b hn).trans h
theorem BoxA.cells {w : World} {b : Nat} {x : ByteArray} {u : Value} (h : BoxA w b x u) : w.cell? ⟨b, 0, none⟩ = some (.string x) ∧ w.cell? ⟨b, 1, none⟩ = some u := by
  unfold BoxA at h
  simp [World.cell?, h]
theorem boxA_new (w : World) (x : ByteArray) (u : Value) : BoxA (w.alloc (.cells #[.string x, u] 60)) w.heap.size x u := heap_alloc_new w _

theorem sound_err : ∀ {L A : List AT} {c : Int}, soundR A L = .error c → c ≠ 0
  | [], A, c, h => by simp [soundR] at h
  | a :: l, A, c, h => by
    simp only [soundR] at h
    cases e : canonD a.1 with
    | none => rw [e] at h; simp at h; omega
    | some t =>
      rw [e] at h
      simp only at h
      split at h
      · simp at h; omega
      · split at h
        · exact sound_err h
        · rename_i h2
          simp at h; omega
theorem sound_none {A l : List AT} {a : AT} (h : canonD a.1 = none) : soundR A (a :: l) = .error 17 := by simp [soundR, h]
theorem sound_twice {A l : List AT} {a : AT} {t : List UInt8} (h : canonD a.1 = some t) (h2 : hasS A t = true) : soundR A (a :: l) = .error 20 := by simp [soundR, h, h2]
theorem sound_vals {A l : List AT} {a : AT} {t : List UInt8} (h : canonD a.1 = some t) (h2 : hasS A t = false) (h3 : valsC t a.2 ≠ 0) : soundR A (a :: l) = .error (valsC t a.2) := by simp [soundR, h, h2, h3]
theorem sound_step {A l : List AT} {a : AT} {t : List UInt8} (h : canonD a.1 = some t) (h2 : hasS A t = false) (h3 : valsC t a.2 = 0) : soundR A (a :: l) = soundR (A ++ [(t, a.2)]) l := by simp [soundR, h, h2, h3]

def SoundW (w : World) (o : Except Int (List AT)) (e : Ending) (w' : World) : Prop := Below w.heap.size w w' ∧ match o with
  | .error c => e = .returned (.tuple #[.slice none 0 0, .int .i64 c])
  | .ok A => ∃ u, e = .returned (.tuple #[u, .int .i64 0]) ∧ OwnV w.heap.size w' u A

set_option maxRecDepth 100000 in
set_option maxHeartbeats 4000000 in
theorem sound_any (L : List AT) (hs : L.length ≤ 900) (v : Value) (w : World) (hw : LaidW w) (h : IsA w.heap.size w L v) :
    Calls Tryz.prog 58 #[v] w (SoundW w (soundR [] L)) := by
  obtain ⟨a, c, rfl, hm, hcell⟩ := h
  unfold maxLen at hm
  obtain ⟨R, hR⟩ : ∃ R, R = soundR [] L := ⟨_, rfl⟩
  rw [← hR]
  obtain ⟨n, hn⟩ : ∃ n, n = L.length := ⟨_, rfl⟩
  rw [← hn] at hm hs ⊢
  have HN := Lib.hid hn
  have HC := Lib.hid hcell
  have HW := Lib.hid hw
  have HR := Lib.hid hR
  clear hcell hn hw hR
  go_enter Tryz.func58, Tryz.ntmps58
  go_wp2
  go_loopw [4, 12] (fun l i wr => ∃ (j : Nat) (A : List AT), j ≤ n ∧ i = .int .i64 j ∧ A.length ≤ j ∧ soundR A (L.drop j) = R ∧ OwnV w.heap.size wr l A ∧ Below w.heap.size w wr) (fun _ i wr => n - (intOf i).toNat)
  case atStart => exact ⟨0, [], by omega, rfl, Nat.le_refl _, by rw [List.drop_zero]; exact HR.out.symm, ownV_nil _ _, Below.refl _ _⟩
  case round =>
    obtain ⟨j, A, hj, rfl, hAl, hsr, hown, hbel⟩ := hrel
    have HBel := Lib.hid hbel
    have hbs := hbel.size
    obtain ⟨sa, sc, hsv⟩ := ownV_slice hown
    obtain ⟨sn, hsn⟩ : ∃ k, k = A.length := ⟨_, rfl⟩
    rw [← hsn] at hsv hAl
    subst hsv
    have HSn := Lib.hid hsn
    have HOwn := Lib.hid hown
    by_cases hlt : j < n
    · have t3 : decide ((j : Int) < (n : Int)) = true := by simp; omega
      have t3' : decide (j < n) = true := by simpa using hlt
      have hlL : j < L.length := by rw [← HN.out]; exact hlt
      obtain ⟨b, off, u, rfl, hb0, c0, c1, ht⟩ := HC.out j hlL
      obtain ⟨ua, uc, hu, _⟩ := id ht
      obtain ⟨un, hun⟩ : ∃ k, k = L[j].2.length := ⟨_, rfl⟩
      rw [← hun] at hu
      subst hu
      clear hun
      have HT := Lib.hid ht
      obtain ⟨X, hX⟩ : ∃ X : ByteArray, ⟨L[j].1.toArray⟩ = X := ⟨_, rfl⟩
      have hXl : X.data.toList = L[j].1 := by rw [← hX]
      have d0 : (wr.cell? ⟨b, off + j * 2, none⟩) = some (.string X) := by
        rw [hbel.cell (p := ⟨b, _, none⟩) hb0, c0, ← hX]; rfl
      have d1 := (hbel.cell (p := ⟨b, off + j * 2 + 1, none⟩) hb0).trans c1
      have HA := Lib.hid (Below.alloc hbel hbs (.cells #[.string X, .slice ua un uc] 60))
      have HA0 := Lib.hid (Below.alloc (Below.refl wr.heap.size wr) (Nat.le_refl _) (.cells #[.string X, .slice ua un uc] 60))
      have HBx := Lib.hid (boxA_new wr X (.slice ua un uc))
      rw [List.drop_eq_getElem_cons hlL] at hsr
      have hca := fun w => canon_any X w
      rw [hXl] at hca
      cases hq : canonD L[j].1 with
      | none =>
        rw [hq] at hca
        rw [sound_none hq] at hsr
        subst hsr
        have HCa := Lib.hid hca
        clear hca hX hXl c0 c1 hown hbel ht hq hsn HR
        simp only [canonV] at HCa
        go_wp2_with (go_at_call 90; refine (HCa.out _).mono ?_; rintro e w2 ⟨rfl, hb2⟩; have HB2 := Lib.hid (HA.out.trans (hb2.mono HA.out.size)); clear hb2)
        go_ret2
        exact ⟨HB2.out, rfl⟩
      | some t =>
        rw [hq] at hca
        simp only [canonV] at hca
        obtain ⟨T, hT⟩ : ∃ T : ByteArray, ⟨t.toArray⟩ = T := ⟨_, rfl⟩
        have hTl : T.data.toList = t := by rw [← hT]
        rw [hT] at hca
        have HCa := Lib.hid hca
        have hhs := fun W (h : IsA W.heap.size W A (.slice sa sn sc)) => hasS_any A (by omega) (.slice sa sn sc) T W h
        rw [hTl] at hhs
        cases hq2 : hasS A t with
        | true =>
          rw [hq2] at hhs
          rw [sound_twice hq hq2] at hsr
          subst hsr
          have HHs := Lib.hid hhs
          clear hca hX hXl c0 c1 hown hbel ht hq hsn HR hT hTl hq2 hhs
          go_wp2_with (first
            | (go_at_call 90; refine (HCa.out _).mono ?_; rintro e w2 ⟨rfl, hb2⟩; have HB2 := Lib.hid (HA.out.trans (hb2.mono HA.out.size)); have HO2 := Lib.hid (ownV_below (ownV_below HOwn.out HA0.out hbs) hb2 (by simp; omega)); clear hb2)
            | (go_at_call 91; refine (HHs.out _ (ownV_isA HO2.out (by unfold maxLen; have := HSn.out; omega) HB2.out.size)).mono ?_; rintro e w3 ⟨rfl, hb3⟩; have HB3 := Lib.hid (bthen HB2.out hb3); clear hb3))
          go_ret2
          exact ⟨HB3.out, rfl⟩
        | false =>
          rw [hq2] at hhs
          have HHs := Lib.hid hhs
          have hcv := fun (W : World) (q1 : LaidW W) (q2 : IsT W.heap.size W L[j].2 (.slice ua un uc)) => checkVals_any T L[j].2 (.slice ua un uc) W q1 q2
          rw [hTl] at hcv
          obtain ⟨C, hC⟩ : ∃ C, C = valsC t L[j].2 := ⟨_, rfl⟩
          rw [← hC] at hcv
          have HCv := Lib.hid hcv
          by_cases hC0 : C = 0
          · have t5 : (C != 0) = false := by simpa using hC0
            rw [sound_step hq hq2 (by rw [← hC]; exact hC0)] at hsr
            rw [← hTl] at hsr
            have HSr := Lib.hid hsr
            subst hC0
            have t5' : ((0 : Int) != 0) = false := rfl
            clear hca hX hXl c0 c1 hown hbel ht hq hsn HR hT hTl hq2 hhs hcv hC hsr
            go_wp2_with (first
              | (go_at_call 90; refine (HCa.out _).mono ?_; rintro e w2 ⟨rfl, hb2⟩; have HB2 := Lib.hid (HA.out.trans (hb2.mono HA.out.size)); have HO2 := Lib.hid (ownV_below (ownV_below HOwn.out HA0.out hbs) hb2 (by simp; omega)); have HX2 := Lib.hid (HBx.out.below hb2 (by simp)); obtain ⟨f0, f1⟩ := HX2.out.cells; have hz2 := hb2.size; (simp only [World.size_alloc] at hz2); clear hb2)
              | (go_at_call 91; refine (HHs.out _ (ownV_isA HO2.out (by unfold maxLen; have := HSn.out; omega) HB2.out.size)).mono ?_; rintro e w3 ⟨rfl, hb3⟩; have HB3 := Lib.hid (bthen HB2.out hb3); have HO3 := Lib.hid (ownV_below HO2.out hb3 HB2.out.size); have HX3 := Lib.hid (HX2.out.below hb3 (by omega)); obtain ⟨g0, g1⟩ := HX3.out.cells; have hz3 := hb3.size; clear hb3)
              | (go_at_call 92; refine (HCv.out _ (HW.out.below HB3.out) (HT.out.below HB3.out HB3.out.size)).mono ?_; rintro e w4 ⟨rfl, hb4⟩; have HB4 := Lib.hid (bthen HB3.out hb4); have HO4 := Lib.hid (ownV_below HO3.out hb4 HB3.out.size); have HX4 := Lib.hid (HX3.out.below hb4 (by omega)); obtain ⟨k0, k1⟩ := HX4.out.cells; have hz4 := hb4.size; clear hb4)
              | (at_builtin; refine wpList_append_attrB rfl (.tmp 34) (.tmp 39) rfl w.heap.size (.slice sa sn sc) A rfl T (.slice ua un uc) L[j].2 HO4.out (HT.out.below HB4.out (Nat.le_refl _)) rfl (by have := HSn.out; omega) HB4.out.size ?_; intro v5 w5 hown5 hb5; have HO5 := Lib.hid hown5; have HB5 := Lib.hid (HB4.out.trans hb5); clear hown5 hb5))
            go_roundw
            case rel => exact ⟨j + 1, A ++ [(T.data.toList, L[j].2)], by omega, by go_num, by have := HSn.out; simp; omega, HSr.out, HO5.out, HB5.out⟩
            case measure => simp [intOf]; omega
          · have t5 : (C != 0) = true := by simpa using hC0
            rw [sound_vals hq hq2 (by rw [← hC]; exact hC0), ← hC] at hsr
            subst hsr
            clear hca hX hXl c0 c1 hown hbel ht hq hsn HR hT hTl hq2 hhs hcv hC
            go_wp2_with (first
              | (go_at_call 90; refine (HCa.out _).mono ?_; rintro e w2 ⟨rfl, hb2⟩; have HB2 := Lib.hid (HA.out.trans (hb2.mono HA.out.size)); have HO2 := Lib.hid (ownV_below (ownV_below HOwn.out HA0.out hbs) hb2 (by simp; omega)); have HX2 := Lib.hid (HBx.out.below hb2 (by simp)); obtain ⟨f0, f1⟩ := HX2.out.cells; have hz2 := hb2.size; (simp only [World.size_alloc] at hz2); clear hb2)
              | (go_at_call 91; refine (HHs.out _ (ownV_isA HO2.out (by unfold maxLen; have := HSn.out; omega) HB2.out.size)).mono ?_; rintro e w3 ⟨rfl, hb3⟩; have HB3 := Lib.hid (bthen HB2.out hb3); have HO3 := Lib.hid (ownV_below HO2.out hb3 HB2.out.size); have HX3 := Lib.hid (HX2.out.below hb3 (by omega)); obtain ⟨g0, g1⟩ := HX3.out.cells; have hz3 := hb3.size; clear hb3)
              | (go_at_call 92; refine (HCv.out _ (HW.out.below HB3.out) (HT.out.below HB3.out HB3.out.size)).mono ?_; rintro e w4 ⟨rfl, hb4⟩; have HB4 := Lib.hid (bthen HB3.out hb4); clear hb4))
            go_ret2
            exact ⟨HB4.out, rfl⟩
    · obtain rfl : j = n := by omega
      have t3 : decide ((j : Int) < (j : Int)) = false := by simp
      have t3' : decide (j < j) = false := by simp
      have hA : R = .ok A := by
        rw [← hsr, List.drop_of_length_le (by rw [← HN.out]; exact Nat.le_refl _)]; rfl
      subst hA
      clear hsr hown hbel hsn HR
      go_wp2
      go_ret2
      exact ⟨HBel.out, _, rfl, HOwn.out⟩
end Go.Proofs.YtgaaefcanfglhaaGreatDoor


namespace Go.Proofs.YtgaaefcanfglhaaGreatDoor
open Go.RowKit
set_option linter.unusedVariables false

theorem class_words : ∀ c ∈ classL, (c.mustL ++ c.mayL).length ≤ 8 := by
  intro c hc
  simp only [classL, List.mem_cons, List.not_mem_nil, or_false] at hc
  rcases hc with rfl | rfl | rfl | rfl | rfl | rfl | rfl <;> decide
theorem chain_mem : ∀ (k : Nat) (n : List UInt8), ∀ c ∈ chainC k n, c ∈ classL
  | 0, n, c, h => by simp [chainC] at h
  | k + 1, n, c, h => by
    simp only [chainC] at h
    cases e : findC n with
    | none => rw [e] at h; simp at h
    | some d =>
      rw [e] at h
      rcases List.mem_cons.1 h with rfl | h
      · exact (findC_mem e).1
      · exact chain_mem k d.sup c h
theorem allC_mem : ∀ {V : List (List UInt8)} {A : List CT} {s : Bool}, allC V = some (A, s) → (∀ c ∈ A, c ∈ classL) ∧ A.length ≤ 3 * V.length
  | [], A, s, h => by simp only [allC, Option.some.injEq, Prod.mk.injEq] at h; rw [← h.1]; simp
  | v :: l, A, s, h => by
    simp only [allC] at h
    cases e : findC (fold v) with
    | none => rw [e] at h; cases h
    | some c =>
      rw [e] at h
      cases e2 : allC l with
      | none => rw [e2] at h; cases h
      | some p =>
        obtain ⟨A2, s2⟩ := p
        rw [e2] at h
        simp only [Option.map_some, Option.some.injEq, Prod.mk.injEq] at h
        obtain ⟨h1, h2⟩ := allC_mem e2
        rw [← h.1]
        have := chain_len (fold v) 3
        exact ⟨fun c hc => (List.mem_append.1 hc).elim (chain_mem 3 _ c) (h1 c), by simp; omega⟩
theorem mayC_len {A : List CT} (h : ∀ c ∈ A, c ∈ classL) : (mayC A).length ≤ 8 * A.length := by
  induction A with
  | nil => simp [mayC]
  | cons c A ih =>
    have h1 := class_words c (h c (by simp))
    have h2 := ih (fun d hd => h d (by simp [hd]))
    simp only [mayC, List.flatMap_cons, List.length_append] at *
    simp only [List.length_cons]
    omega
theorem mayC_take (A : List CT) (j : Nat) (h : j < A.length) : mayC (A.take (j + 1)) = mayC (A.take j) ++ (A[j].mustL ++ A[j].mayL) := by
  unfold mayC
  rw [List.take_succ_eq_append_getElem h, List.flatMap_append]
  simp
theorem classed_none {L : List AT} (h : allC (valsS L objB) = none) : classedD L = false := by unfold classedD; rw [h]
theorem classed_not {L : List AT} {A : List CT} (h : allC (valsS L objB) = some (A, false)) : classedD L = false := by unfold classedD; rw [h]; rfl
theorem classed_must {L : List AT} {A : List CT} {s : Bool} (h : allC (valsS L objB) = some (A, s)) {c : CT} (hc : c ∈ A) {t : List UInt8} (ht : t ∈ c.mustL) (hn : hasS L t = false) : classedD L = false := by
  unfold classedD
  rw [h]
  have : A.all (fun c => c.mustL.all (hasS L)) = false := List.all_eq_false.2 ⟨c, hc, by
    simp only [Bool.not_eq_true]
    exact List.all_eq_false.2 ⟨t, ht, by rw [hn]; simp⟩⟩
  simp [this]
theorem classed_may {L : List AT} {A : List CT} {s : Bool} (h : allC (valsS L objB) = some (A, s)) {a : AT} (ha : a ∈ L) (hn : (mayC A).contains a.1 = false) : classedD L = false := by
  unfold classedD
  rw [h]
  have : L.all (fun a => (mayC A).contains a.1) = false := List.all_eq_false.2 ⟨a, ha, by rw [hn]; simp⟩
  simp only [this]
  simp
theorem classed_is {L : List AT} {A : List CT} (h : allC (valsS L objB) = some (A, true)) (h1 : ∀ c ∈ A, ∀ t ∈ c.mustL, hasS L t = true) (h2 : ∀ a ∈ L, (mayC A).contains a.1 = true) : classedD L = true := by
  unfold classedD
  rw [h]
  have e1 : A.all (fun c => c.mustL.all (hasS L)) = true := List.all_eq_true.2 (fun c hc => List.all_eq_true.2 (h1 c hc))
  have e2 : L.all (fun a => (mayC A).contains a.1) = true := List.all_eq_true.2 h2
  simp only [e1, e2]
  rfl

theorem isTT_three {n0 : Nat} {w : World} {A1 A2 A3 : List (List UInt8)} {u1 u2 u3 : Value} (h1 : IsT w.heap.size w A1 u1) (h2 : IsT w.heap.size w A2 u2) (h3 : IsT w.heap.size w A3 u3) (e : TypeId) :
    IsTT (w.alloc (.cells #[u1, u2, u3] e)).heap.size (w.alloc (.cells #[u1, u2, u3] e)) [A1, A2, A3] (.slice (some ⟨w.heap.size, 0, none⟩) 3 3) := by
  have ha : Below w.heap.size w (w.alloc (.cells #[u1, u2, u3] e)) := (Below.refl _ _).alloc (Nat.le_refl _) _
  have hh : (w.alloc (.cells #[u1, u2, u3] e)).heap[w.heap.size]? = some (.cells #[u1, u2, u3] e (0, 0)) := heap_alloc_new w _
  refine ⟨_, _, rfl, fun j hj => ?_⟩
  match j, hj with
  | 0, _ => exact ⟨w.heap.size, 0, u1, rfl, by simp, by simp only [World.cell?, hh]; rfl, h1.below ha ha.size⟩
  | 1, _ => exact ⟨w.heap.size, 0, u2, rfl, by simp, by simp only [World.cell?, hh]; rfl, h2.below ha ha.size⟩
  | 2, _ => exact ⟨w.heap.size, 0, u3, rfl, by simp, by simp only [World.cell?, hh]; rfl, h3.below ha ha.size⟩

set_option maxRecDepth 100000 in
set_option maxHeartbeats 8000000 in
theorem isClassed_any (L : List AT) (hs : L.length ≤ 900) (hsm : smallT (valsS L objB)) (v : Value) (w : World) (hl : LaidF w) (h : IsA w.heap.size w L v) :
    Calls Tryz.prog 59 #[v] w fun e w' => e = .returned (.bool (classedD L)) ∧ Below w.heap.size w w' := by
  obtain ⟨R, hR⟩ : ∃ R, R = classedD L := ⟨_, rfl⟩
  rw [← hR]
  have HI := Lib.hid h
  obtain ⟨sa, sc, hv, hmx, hcell⟩ := id h
  obtain ⟨n, hn⟩ : ∃ n, n = L.length := ⟨_, rfl⟩
  rw [← hn] at hv hs
  subst hv
  have HN := Lib.hid hn
  have HL := Lib.hid hl
  have HR := Lib.hid hR
  have HSm := Lib.hid hsm
  have HC := Lib.hid hcell
  have hvo := fun (W : World) (q : IsA W.heap.size W L (.slice sa n sc)) => valsOf_any L (by omega) (.slice sa n sc) ⟨#[111, 98, 106, 101, 99, 116, 99, 108, 97, 115, 115]⟩ W q
  have HVo := Lib.hid hvo
  clear hcell hR hl hsm hn h hmx hvo
  cases hq : allC (valsS L objB) with
  | none =>
    have hf : R = false := by rw [HR.out, classed_none hq]
    subst hf
    have HQ := Lib.hid hq
    clear hq HR
    go_enter Tryz.func59, Tryz.ntmps59
    go_wp2_with (first
      | (go_at_call 94; refine (HVo.out _ HI.out).mono ?_; rintro e w2 ⟨u, rfl, hu, hb2⟩; have HU := Lib.hid (hu.below hb2 hb2.size); have HB2 := Lib.hid hb2; clear hu hb2)
      | (go_at_call 93; refine (classesOf_any (valsS L objB) HSm.out _ _ (HL.out.below HB2.out) HU.out).mono ?_; rintro e w3 hcw; (simp only [ClsW, HQ.out] at hcw); (obtain ⟨hb3, rfl⟩ := hcw); have HB3 := Lib.hid (bthen HB2.out hb3); clear hb3))
    go_ret
    exact ⟨rfl, HB3.out⟩
  | some p =>
    obtain ⟨A, s⟩ := p
    have HQ := Lib.hid hq
    cases s with
    | false =>
      have hf : R = false := by rw [HR.out, classed_not hq]
      subst hf
      clear hq HR
      go_enter Tryz.func59, Tryz.ntmps59
      go_wp2_with (first
        | (go_at_call 94; refine (HVo.out _ HI.out).mono ?_; rintro e w2 ⟨u, rfl, hu, hb2⟩; have HU := Lib.hid (hu.below hb2 hb2.size); have HB2 := Lib.hid hb2; clear hu hb2)
        | (go_at_call 93; refine (classesOf_any (valsS L objB) HSm.out _ _ (HL.out.below HB2.out) HU.out).mono ?_; rintro e w3 hcw; (simp only [ClsW, HQ.out] at hcw); (obtain ⟨hb3, g3, v3, rfl, ho3⟩ := hcw); have HB3 := Lib.hid (bthen HB2.out hb3); clear hb3 ho3))
      go_ret
      exact ⟨rfl, HB3.out⟩
    | true =>
      obtain ⟨hmem, hAl⟩ := allC_mem hq
      have hA3 : A.length ≤ 3000 := by have := HSm.out.1; omega
      have hmay := mayC_len hmem
      obtain ⟨m, hm⟩ : ∃ m, m = A.length := ⟨_, rfl⟩
      have HM := Lib.hid hm
      have HMem := Lib.hid hmem
      rw [← hm] at hA3 hmay hAl
      clear hq hm hmem
      go_enter Tryz.func59, Tryz.ntmps59
      go_wp2_with (first
        | (go_at_call 94; refine (HVo.out _ HI.out).mono ?_; rintro e w2 ⟨u, rfl, hu, hb2⟩; have HU := Lib.hid (hu.below hb2 hb2.size); have HB2 := Lib.hid hb2; clear hu hb2)
        | (go_at_call 93; refine (classesOf_any (valsS L objB) HSm.out _ _ (HL.out.below HB2.out) HU.out).mono ?_; rintro e w3 hcw; (simp only [ClsW, HQ.out] at hcw); (obtain ⟨hb3, g3, v3, rfl, ho3⟩ := hcw); (obtain ⟨ca, cc, hcv, _, hck⟩ := ownK_isK ho3 (by unfold maxLen; have := HM.out; omega)); (rw [← HM.out] at hcv); subst hcv; have HK := Lib.hid hck; have HB3 := Lib.hid (bthen HB2.out hb3); clear hb3 ho3 hck))
      go_loopw [5, 22] (fun l i wr => ∃ (j : Nat), j ≤ m ∧ i = .int .i64 j ∧ Hid (∀ k (hk : k < A.length), k < j → ∀ t ∈ A[k].mustL, hasS L t = true) ∧ OwnS w3.heap.size wr l (mayC (A.take j)) ∧ Below w3.heap.size w3 wr) (fun _ i wr => m - (intOf i).toNat)
      case atStart => exact ⟨0, by omega, rfl, Lib.hid (fun k _ h => absurd h (by omega)), ownS_nil _ _, Below.refl _ _⟩
      case round =>
        obtain ⟨j, hj, rfl, HMu, hown, hbel⟩ := hrel
        rename World => wo
        have HBel := Lib.hid hbel
        have hbs := hbel.size
        obtain ⟨la, lc, hlv⟩ := ownS_slice hown
        have hml : (mayC (A.take j)).length ≤ 24000 := by
          have := mayC_len (A := A.take j) (fun c hc => HMem.out c (List.mem_of_mem_take hc))
          rw [List.length_take] at this
          omega
        obtain ⟨ln, hln⟩ : ∃ k, k = (mayC (A.take j)).length := ⟨_, rfl⟩
        rw [← hln] at hlv hml
        subst hlv
        have HOwn := Lib.hid hown
        have HLn := Lib.hid hln
        clear hln hown
        by_cases hlt : j < m
        · have t3 : decide ((j : Int) < (m : Int)) = true := by simp; omega
          have t3' : decide (j < m) = true := by simpa using hlt
          have hlA : j < A.length := by rw [← HM.out]; exact hlt
          obtain ⟨b, off, u1, u2, hae, hb0, c0, c1, c2, c3, c4, ht1, ht2⟩ := HK.out j hlA
          subst hae
          obtain ⟨pa, pc, hx1, _, hmc⟩ := id ht1
          obtain ⟨pn, hpn⟩ : ∃ k, k = A[j].mustL.length := ⟨_, rfl⟩
          rw [← hpn] at hx1
          subst hx1
          obtain ⟨qa, qc, hx2, _⟩ := id ht2
          obtain ⟨qn, hqn⟩ : ∃ k, k = A[j].mayL.length := ⟨_, rfl⟩
          rw [← hqn] at hx2
          subst hx2
          obtain ⟨N2, hN2⟩ : ∃ X : ByteArray, X = ⟨A[j].name.toArray⟩ := ⟨_, rfl⟩
          obtain ⟨S2, hS2⟩ : ∃ X : ByteArray, X = ⟨A[j].sup.toArray⟩ := ⟨_, rfl⟩
          obtain ⟨st, hst⟩ : ∃ b, b = A[j].st := ⟨_, rfl⟩
          simp only [strV, ← hN2, ← hS2, ← hst] at c0 c1 c2
          have d0 := (hbel.cell (p := ⟨b, _, none⟩) hb0).trans c0
          have d1 := (hbel.cell (p := ⟨b, _, none⟩) hb0).trans c1
          have d2 := (hbel.cell (p := ⟨b, _, none⟩) hb0).trans c2
          have d3 := (hbel.cell (p := ⟨b, _, none⟩) hb0).trans c3
          have d4 := (hbel.cell (p := ⟨b, _, none⟩) hb0).trans c4
          have hw8 := class_words A[j] (HMem.out _ (List.getElem_mem _))
          rw [List.length_append, ← hpn, ← hqn] at hw8
          have HPn := Lib.hid hpn
          have HQn := Lib.hid hqn
          have HMc := Lib.hid hmc
          have HT1 := Lib.hid ht1
          have HT2 := Lib.hid ht2
          clear c0 c1 c2 c3 c4 hN2 hS2 hst hpn hqn ht1 ht2 hmc
          obtain ⟨W1, hW1⟩ : ∃ W1, W1 = wo.alloc (.cells #[.string N2, .string S2, .bool st, .slice pa pn pc, .slice qa qn qc] 139) := ⟨_, rfl⟩
          have hba : Below wo.heap.size wo W1 := by rw [hW1]; exact (Below.refl _ _).alloc (Nat.le_refl _) _
          have hbx : BoxC W1 wo.heap.size (.string N2) (.string S2) (.bool st) (.slice pa pn pc) (.slice qa qn qc) := by rw [hW1]; exact boxC_new _ _ _ _ _ _
          have hz1 : W1.heap.size = wo.heap.size + 1 := by rw [hW1]; simp
          have HBa := Lib.hid hba
          have HBx := Lib.hid hbx
          have HW1 := Lib.hid hW1
          clear hba hbx hW1
          go_wp2
          go_loopw [29] (fun i wr => ∃ (q : Nat), q ≤ pn ∧ i = .int .i64 q ∧ Hid (∀ k (hk : k < A[j].mustL.length), k < q → hasS L A[j].mustL[k] = true) ∧ Below W1.heap.size W1 wr) (fun i wr => pn - (intOf i).toNat)
          case atStart => exact ⟨0, by omega, rfl, Lib.hid (fun k _ h => absurd h (by omega)), HW1.out ▸ Below.refl _ _⟩
          case round =>
            obtain ⟨q, hq, rfl, HAll, hbq⟩ := hrel
            have HBq := Lib.hid hbq
            have hbqs := hbq.size
            have HBr : Hid (Below wo.heap.size wo wr) := Lib.hid (HBa.out.trans (hbq.mono (by omega)))
            have HB0 : Hid (Below w3.heap.size w3 wr) := Lib.hid (bthen HBel.out HBr.out)
            have HBw : Hid (Below w.heap.size w wr) := Lib.hid (bthen HB3.out HB0.out)
            clear hbq
            by_cases hlt2 : q < pn
            · have t5 : decide ((q : Int) < (pn : Int)) = true := by simp; omega
              have t5' : decide (q < pn) = true := by simpa using hlt2
              have hlM : q < A[j].mustL.length := by rw [← HPn.out]; exact hlt2
              obtain ⟨b2, off2, hpe, hb2, e0⟩ := HMc.out q hlM
              subst hpe
              obtain ⟨T, hT⟩ : ∃ X : ByteArray, ⟨A[j].mustL[q].toArray⟩ = X := ⟨_, rfl⟩
              have hTl : T.data.toList = A[j].mustL[q] := by rw [← hT]
              have f0 : (wr.cell? ⟨b2, off2 + q, none⟩) = some (.string T) := by
                rw [HB0.out.cell (p := ⟨b2, _, none⟩) hb2, e0, ← hT]; rfl
              have hha := hasS_any L (by have := HN.out; omega) (.slice sa n sc) T wr (HI.out.below HBw.out HBw.out.size)
              rw [hTl] at hha
              obtain ⟨g, hg⟩ : ∃ g, hasS L A[j].mustL[q] = g := ⟨_, rfl⟩
              rw [hg] at hha
              have HHa := Lib.hid hha
              have HG := Lib.hid hg
              have HTl := Lib.hid hTl
              clear hT hTl e0 hha hg
              cases g with
              | true =>
                have HA2 : Hid (∀ k (hk : k < A[j].mustL.length), k < q + 1 → hasS L A[j].mustL[k] = true) := Lib.hid (fun k h1 h3 => by
                  by_cases hk : k < q
                  · exact HAll.out k h1 hk
                  · obtain rfl : k = q := by omega
                    exact HG.out)
                go_wp2_with (go_at_call 91; refine (HHa.out).mono ?_; rintro e w5 ⟨rfl, hb5⟩; have HB5 := Lib.hid (HBq.out.trans (hb5.mono hbqs)); clear hb5)
                go_roundw
                case rel => exact ⟨q + 1, by omega, by go_num, HA2, HB5.out⟩
                case measure => simp [intOf]; omega
              | false =>
                have hf : R = false := by rw [HR.out]; exact classed_must HQ.out (List.getElem_mem hlA) (List.getElem_mem hlM) HG.out
                subst hf
                go_wp2_with (go_at_call 91; refine (HHa.out).mono ?_; rintro e w5 ⟨rfl, hb5⟩; have HB5 := Lib.hid (bthen HBw.out hb5); clear hb5)
                go_ret
                exact ⟨rfl, HB5.out⟩
            · obtain rfl : q = pn := by omega
              have t5 : decide ((q : Int) < (q : Int)) = false := by simp
              have t5' : decide (q < q) = false := by simp
              have HMu2 : Hid (∀ k (hk : k < A.length), k < j + 1 → ∀ t ∈ A[k].mustL, hasS L t = true) := Lib.hid (fun k h1 h3 => by
                by_cases hk : k < j
                · exact HMu.out k h1 hk
                · obtain rfl : k = j := by omega
                  intro t ht
                  obtain ⟨i, hi, rfl⟩ := List.getElem_of_mem ht
                  exact HAll.out i hi (by rw [HPn.out]; exact hi))
              have HX := Lib.hid (HBx.out.below HBq.out (by omega))
              obtain ⟨p0, p1, p2, p3, p4⟩ := HX.out.cells
              have HI1 := Lib.hid ((ownS_isT HOwn.out (by unfold maxLen; have := HLn.out; omega)).below HBr.out HBr.out.size)
              have HI2 := Lib.hid (HT1.out.below HB0.out HB0.out.size)
              have HI3 := Lib.hid (HT2.out.below HB0.out HB0.out.size)
              have hU : [mayC (A.take j), A[j].mustL, A[j].mayL].flatten.length ≤ 100000 := by
                have := HLn.out; have := HPn.out; have := HQn.out
                simp; omega
              have HU2 := Lib.hid hU
              have HFl : Hid ([mayC (A.take j), A[j].mustL, A[j].mayL].flatten = mayC (A.take (j + 1))) := Lib.hid (by rw [mayC_take A j hlA]; simp)
              have hba2 : Below wr.heap.size wr (wr.alloc (.cells #[.slice la ln lc, .slice pa q pc, .slice qa qn qc] 33)) := (Below.refl _ _).alloc (Nat.le_refl _) _
              have HB8 := Lib.hid (bthen HB0.out hba2)
              clear hU hba2
              go_wp2_with (go_at_call 95; refine (concat_any [mayC (A.take j), A[j].mustL, A[j].mayL] HU2.out (by simp) _ _ (isTT_three (n0 := 0) HI1.out HI2.out HI3.out 33)).mono ?_; rintro e w6 ⟨v6, rfl, ho6, hb6⟩; (rw [HFl.out] at ho6); (obtain ⟨ra, rc, hrv⟩ := ownS_slice ho6); subst hrv; have HO6 := Lib.hid (ownS_lower (B' := w3.heap.size) ho6 HB8.out.size); have HB6 := Lib.hid (bthen HB8.out hb6); clear ho6 hb6)
              go_roundw
              case rel => exact ⟨j + 1, by omega, by go_num, HMu2, HO6.out, HB6.out⟩
              case measure => simp [intOf]; omega
        · obtain rfl : j = m := by omega
          have t3 : decide ((j : Int) < (j : Int)) = false := by simp
          have t3' : decide (j < j) = false := by simp
          have HTk : Hid (A.take j = A) := Lib.hid (by rw [HM.out, List.take_length])
          have HMay : Hid (IsT wo.heap.size wo (mayC A) (.slice la ln lc)) := Lib.hid (by have := ownS_isT HOwn.out (by unfold maxLen; have := HLn.out; omega); rwa [HTk.out] at this)
          have HMust : Hid (∀ c ∈ A, ∀ t ∈ c.mustL, hasS L t = true) := Lib.hid (fun c hc => by
            obtain ⟨k, hk, rfl⟩ := List.getElem_of_mem hc
            exact HMu.out k hk (by rw [HM.out]; exact hk))
          clear hbel
          go_wp2
          go_loopw [48] (fun i wr => ∃ (q : Nat), q ≤ n ∧ i = .int .i64 q ∧ Hid (∀ k (hk : k < L.length), k < q → (mayC A).contains L[k].1 = true) ∧ Below wo.heap.size wo wr) (fun i wr => n - (intOf i).toNat)
          case atStart => exact ⟨0, by omega, rfl, Lib.hid (fun k _ h => absurd h (by omega)), Below.refl _ _⟩
          case round =>
            obtain ⟨q, hq, rfl, HAll, hbq⟩ := hrel
            have HBq := Lib.hid hbq
            have hbqs := hbq.size
            by_cases hlt : q < n
            · have t5 : decide ((q : Int) < (n : Int)) = true := by simp; omega
              have t5' : decide (q < n) = true := by simpa using hlt
              have hlL : q < L.length := by rw [← HN.out]; exact hlt
              obtain ⟨b, off, u, hae, hb0, c0, c1, ht⟩ := HC.out q hlL
              subst hae
              obtain ⟨ua, uc, hu, _⟩ := id ht
              obtain ⟨un, hun⟩ : ∃ k, k = L[q].2.length := ⟨_, rfl⟩
              rw [← hun] at hu
              subst hu
              obtain ⟨X, hX⟩ : ∃ X : ByteArray, ⟨L[q].1.toArray⟩ = X := ⟨_, rfl⟩
              have hXl : X.data.toList = L[q].1 := by rw [← hX]
              have hbw : Below w.heap.size w wr := (bthen HB3.out HBel.out).trans (HBq.out.mono (Nat.le_trans HB3.out.size HBel.out.size))
              have d0 : (wr.cell? ⟨b, off + q * 2, none⟩) = some (.string X) := by
                rw [hbw.cell (p := ⟨b, _, none⟩) hb0, c0, ← hX]; rfl
              have d1 := (hbw.cell (p := ⟨b, off + q * 2 + 1, none⟩) hb0).trans c1
              have HA := Lib.hid (Below.alloc HBq.out hbqs (.cells #[.string X, .slice ua un uc] 60))
              have HCo := Lib.hid (containsS_any (mayC A) (.slice la ln lc) X _ (HMay.out.below HA.out HA.out.size))
              rw [hXl] at HCo
              obtain ⟨g, hg⟩ : ∃ g, (mayC A).contains L[q].1 = g := ⟨_, rfl⟩
              rw [hg] at HCo
              have HG := Lib.hid hg
              clear hun hX hXl c0 c1 ht hbq hbw hg
              cases g with
              | true =>
                have HA2 : Hid (∀ k (hk : k < L.length), k < q + 1 → (mayC A).contains L[k].1 = true) := Lib.hid (fun k h1 h3 => by
                  by_cases hk : k < q
                  · exact HAll.out k h1 hk
                  · obtain rfl : k = q := by omega
                    exact HG.out)
                go_wp2_with (go_at_call 96; refine (HCo.out).mono ?_; rintro e w5 ⟨rfl, rfl⟩)
                go_roundw
                case rel => exact ⟨q + 1, by omega, by go_num, HA2, HA.out⟩
                case measure => simp [intOf]; omega
              | false =>
                have hf : R = false := by rw [HR.out]; exact classed_may HQ.out (List.getElem_mem hlL) HG.out
                subst hf
                go_wp2_with (go_at_call 96; refine (HCo.out).mono ?_; rintro e w5 ⟨rfl, rfl⟩)
                go_ret
                exact ⟨rfl, (bthen HB3.out HBel.out).trans (HA.out.mono (Nat.le_trans HB3.out.size HBel.out.size))⟩
            · obtain rfl : q = n := by omega
              have t5 : decide ((q : Int) < (q : Int)) = false := by simp
              have t5' : decide (q < q) = false := by simp
              have hf : R = true := by
                rw [HR.out]
                exact classed_is HQ.out HMust.out (fun a ha => by
                  obtain ⟨k, hk, rfl⟩ := List.getElem_of_mem ha
                  exact HAll.out k hk (by rw [HN.out]; exact hk))
              subst hf
              clear hbq
              go_wp2
              go_ret
              exact ⟨rfl, (bthen HB3.out HBel.out).trans (HBq.out.mono (Nat.le_trans HB3.out.size HBel.out.size))⟩
end Go.Proofs.YtgaaefcanfglhaaGreatDoor


namespace Go.Proofs.YtgaaefcanfglhaaGreatDoor
open Go.RowKit
set_option linter.unusedVariables false

def BoxN (w : World) (b : Nat) (x : ByteArray) (u : Value) : Prop := w.heap[b]? = some (.cells #[.string x, u] 27 (0, 0))
theorem BoxN.below {w w' : World} {b n : Nat} {x : ByteArray} {u : Value} (h : BoxN w b x u) (hb : Below n w w') (hn : b < n) : BoxN w' b x u := (hb.block b hn).trans h
theorem BoxN.cells {w : World} {b : Nat} {x : ByteArray} {u : Value} (h : BoxN w b x u) : w.cell? ⟨b, 0, none⟩ = some (.string x) ∧ w.cell? ⟨b, 1, none⟩ = some u := by
  unfold BoxN at h
  simp [World.cell?, h]
theorem boxN_new (w : World) (x : ByteArray) (u : Value) : BoxN (w.alloc (.cells #[.string x, u] 27)) w.heap.size x u := heap_alloc_new w _

theorem norm_short {r : Nat} {v x : List UInt8} (h : normD r v = some x) : v.length ≤ 100 := by
  unfold normD at h
  split at h
  · cases h
  · rename_i hn
    have := not_or.1 hn
    omega
theorem norms_short {r : Nat} : ∀ {V l : List (List UInt8)}, normsS r V = some l → ∀ v ∈ V, v.length ≤ 100
  | [], l, h, v, hv => by simp at hv
  | x :: V, l, h, v, hv => by
    simp only [normsS] at h
    cases e : normD r x with
    | none => rw [e] at h; cases h
    | some y =>
      rw [e] at h
      cases e2 : normsS r V with
      | none => rw [e2] at h; cases h
      | some m =>
        rcases List.mem_cons.1 hv with rfl | hv
        · exact norm_short e
        · exact norms_short e2 v hv
theorem most_le (t : List UInt8) : mostS t ≤ 40 := by unfold mostS; split <;> omega
theorem vals_small {t : List UInt8} {V : List (List UInt8)} (h : valsC t V = 0) : V.length ≤ 40 ∧ ∀ v ∈ V, v.length ≤ 100 := by
  unfold valsC at h
  split at h
  · omega
  · rename_i hn
    have hm := most_le t
    have := not_or.1 hn
    refine ⟨by omega, ?_⟩
    cases e : normsS (ruleD t) V with
    | none => rw [e] at h; simp at h
    | some l => exact norms_short e
def soundS (A : List AT) : Prop := ∀ a ∈ A, a.2.length ≤ 40 ∧ ∀ v ∈ a.2, v.length ≤ 100
theorem sound_small : ∀ {L A B : List AT}, soundR A L = .ok B → soundS A → soundS B ∧ B.length ≤ A.length + L.length
  | [], A, B, h, hA => by simp only [soundR, Except.ok.injEq] at h; subst h; exact ⟨hA, by simp⟩
  | a :: l, A, B, h, hA => by
    simp only [soundR] at h
    cases e : canonD a.1 with
    | none => rw [e] at h; simp at h
    | some t =>
      rw [e] at h
      simp only at h
      split at h
      · simp at h
      · split at h
        · rename_i h0
          have := sound_small h (fun x hx => (List.mem_append.1 hx).elim (hA x) (fun hx => by
            rw [List.mem_singleton] at hx
            rw [hx]
            exact vals_small h0))
          exact ⟨this.1, by have := this.2; simp at this ⊢; omega⟩
        · simp at h
theorem vals_of_small {A : List AT} (h : soundS A) (t : List UInt8) : smallT (valsS A t) := by
  unfold valsS
  split
  · rename_i a ha
    have := h a (List.mem_of_find?_eq_some ha)
    exact ⟨by omega, fun v hv => by have := this.2 v hv; omega⟩
  · exact ⟨by simp, fun v hv => by simp at hv⟩
theorem key_parts {d k : List UInt8} (h : keyD d = some k) (hk : k ≠ []) : ∃ r rs, parseD d = some (r :: rs) := by
  rw [keyD_eq] at h
  cases e : parseD d with
  | none => rw [e] at h; cases h
  | some l =>
    cases l with
    | nil =>
      rw [e] at h
      exact absurd (by
        simp only [Option.bind_some, keyL] at h
        simpa [textD] using h.symm) hk
    | cons r rs => exact ⟨r, rs, rfl⟩
theorem check_none {d : List UInt8} {L : List AT} (h : keyD d = none) : checkD d L = 34 := by unfold checkD; rw [h]
theorem check_empty {d : List UInt8} {L : List AT} (h : keyD d = some []) : checkD d L = 34 := by unfold checkD; rw [h]; rfl
theorem check_many {d k : List UInt8} {L : List AT} (h : keyD d = some k) (hk : k ≠ []) (hl : 20 < L.length) : checkD d L = 19 := by unfold checkD; rw [h]; simp only; rw [if_neg hk, if_pos hl]
theorem check_sound {d k : List UInt8} {L : List AT} (h : keyD d = some k) (hk : k ≠ []) (hl : ¬ 20 < L.length) {c : Int} (hs : soundR [] L = .error c) : checkD d L = c := by unfold checkD; rw [h]; simp only; rw [if_neg hk, if_neg hl, hs]
theorem check_behind {d k : List UInt8} {L A : List AT} (h : keyD d = some k) (hk : k ≠ []) (hl : ¬ 20 < L.length) (hs : soundR [] L = .ok A) : checkD d L = behindD A d := by unfold checkD; rw [h]; simp only; rw [if_neg hk, if_neg hl, hs]

set_option maxRecDepth 100000 in
set_option maxHeartbeats 8000000 in
theorem checkE_any (D : ByteArray) (hD : D.size ≤ 1000000) (L : List AT) (v : Value) (w : World) (hw : LaidW w) (hl : LaidF w) (h : IsA w.heap.size w L v) :
    Calls Tryz.prog 33 #[.agg #[.string D, v]] w fun e w' => e = .returned (.int .i64 (checkD D.data.toList L)) ∧ Below w.heap.size w w' := by
  obtain ⟨R, hR⟩ : ∃ R, R = checkD D.data.toList L := ⟨_, rfl⟩
  rw [← hR]
  have hke := fun w => key_any D (by omega) w
  obtain ⟨sa, sc, hv, hmx, _⟩ := id h
  obtain ⟨n, hn⟩ : ∃ n, n = L.length := ⟨_, rfl⟩
  rw [← hn] at hv hmx
  unfold maxLen at hmx
  subst hv
  have HI := Lib.hid h
  have HN := Lib.hid hn
  have HR := Lib.hid hR
  have hb0 : Below w.heap.size w (w.alloc (.cells #[.string D, .slice sa n sc] 27)) := (Below.refl _ _).alloc (Nat.le_refl _) _
  have HB0 := Lib.hid hb0
  have HBx := Lib.hid (boxN_new w D (.slice sa n sc))
  have HW := Lib.hid hw
  have HF := Lib.hid hl
  clear h hn hR hb0 hw hl
  cases hq : keyD D.data.toList with
  | none =>
    have hf : R = 34 := by rw [HR.out, check_none hq]
    subst hf
    rw [hq] at hke
    simp only [keyV] at hke
    have HK := Lib.hid hke
    clear hke hq HR
    go_enter Tryz.func33, Tryz.ntmps33
    go_wp2_with (go_at_call 32; refine (HK.out _).mono ?_; rintro e w2 ⟨rfl, hb2⟩; have HB2 := Lib.hid (HB0.out.trans (hb2.mono HB0.out.size)); clear hb2)
    go_ret
    exact ⟨rfl, HB2.out⟩
  | some k =>
    rw [hq] at hke
    simp only [keyV] at hke
    by_cases hk : k = []
    · subst hk
      have hf : R = 34 := by rw [HR.out, check_empty hq]
      subst hf
      have HK := Lib.hid hke
      clear hke hq HR
      go_enter Tryz.func33, Tryz.ntmps33
      go_wp2_with (go_at_call 32; refine (HK.out _).mono ?_; rintro e w2 ⟨rfl, hb2⟩; have HB2 := Lib.hid (HB0.out.trans (hb2.mono HB0.out.size)); clear hb2)
      go_ret
      exact ⟨rfl, HB2.out⟩
    · obtain ⟨K, hK⟩ : ∃ K : ByteArray, K = ⟨k.toArray⟩ := ⟨_, rfl⟩
      have hKl : K.data.toList = k := by rw [hK]
      rw [← hK] at hke
      have hne : K ≠ ⟨#[]⟩ := fun e => hk (by rw [← hKl, e])
      have e1 := str_ne hne
      have e2 : (K.toList == []) = false := by
        have h2 : K.toList ≠ [] := by rw [ByteArray.toList_eq, hKl]; exact hk
        simpa using h2
      have e3 : K.toList.isEmpty = false := by
        have h2 : K.toList ≠ [] := by rw [ByteArray.toList_eq, hKl]; exact hk
        simpa [List.isEmpty_iff] using h2
      have e4 : (K.toList = []) = False := by
        have h2 : K.toList ≠ [] := by rw [ByteArray.toList_eq, hKl]; exact hk
        simpa using h2
      have HK := Lib.hid hke
      have HQ := Lib.hid hq
      have HKk := Lib.hid hk
      clear hke hq hk hK hKl hne
      by_cases hm : 20 < n
      · have hf : R = 19 := by rw [HR.out, check_many HQ.out HKk.out (by rw [← HN.out]; exact hm)]
        subst hf
        have t1 : decide ((20 : Int) < (n : Int)) = true := by simp; omega
        have t1' : decide (20 < n) = true := by simpa using hm
        clear HR
        go_enter Tryz.func33, Tryz.ntmps33
        go_wp2_with (go_at_call 32; refine (HK.out _).mono ?_; rintro e w2 ⟨rfl, hb2⟩; have HX2 := Lib.hid (HBx.out.below hb2 (by simp)); (obtain ⟨f0, f1⟩ := HX2.out.cells); have HB2 := Lib.hid (HB0.out.trans (hb2.mono HB0.out.size)); clear hb2)
        go_ret
        exact ⟨rfl, HB2.out⟩
      · have t1 : decide ((20 : Int) < (n : Int)) = false := by simp; omega
        have t1' : decide (20 < n) = false := by simpa using hm
        have hL20 : ¬ 20 < L.length := by rw [← HN.out]; exact hm
        have hso := fun (W : World) (q : LaidW W) (q2 : IsA W.heap.size W L (.slice sa n sc)) => sound_any L (by omega) (.slice sa n sc) W q q2
        cases hs : soundR [] L with
        | error c =>
          have hc0 := sound_err hs
          rw [hs] at hso
          have hf : R = c := by rw [HR.out, check_sound HQ.out HKk.out hL20 hs]
          subst hf
          have t2 : (R != 0) = true := by simpa using hc0
          have HSo := Lib.hid hso
          clear HR hso hs hL20 hc0
          go_enter Tryz.func33, Tryz.ntmps33
          go_wp2_with (first
            | (go_at_call 32; refine (HK.out _).mono ?_; rintro e w2 ⟨rfl, hb2⟩; have HX2 := Lib.hid (HBx.out.below hb2 (by simp)); (obtain ⟨f0, f1⟩ := HX2.out.cells); have HB2 := Lib.hid (HB0.out.trans (hb2.mono HB0.out.size)); clear hb2)
            | (go_at_call 58; refine (HSo.out _ (HW.out.below HB2.out) (HI.out.below HB2.out HB2.out.size)).mono ?_; rintro e w3 hsw; (simp only [SoundW] at hsw); (obtain ⟨hb3, rfl⟩ := hsw); have HB3 := Lib.hid (bthen HB2.out hb3); clear hb3))
          go_ret
          exact ⟨rfl, HB3.out⟩
        | ok A =>
          rw [hs] at hso
          obtain ⟨hsm, hAl⟩ := sound_small hs (fun a ha => by simp at ha)
          have hf : R = behindD A D.data.toList := by rw [HR.out, check_behind HQ.out HKk.out hL20 hs]
          obtain ⟨r, rs, hp⟩ := key_parts HQ.out HKk.out
          have hAl2 : A.length ≤ 20 := by simp at hAl; omega
          obtain ⟨an, han⟩ : ∃ k, k = A.length := ⟨_, rfl⟩
          rw [← han] at hAl2
          have HAn := Lib.hid han
          have hcl := fun (u : Value) (W : World) (q : LaidF W) (q2 : IsA W.heap.size W A u) => isClassed_any A (by omega) (vals_of_small hsm objB) u W q q2
          have hnm := fun (u : Value) (W : World) (q : LaidW W) (q2 : IsA W.heap.size W A u) => isNamed_any A (by omega) D hD r rs hp u W q q2
          obtain ⟨c, hc⟩ : ∃ c, classedD A = c := ⟨_, rfl⟩
          obtain ⟨m, hm2⟩ : ∃ c, namedD A D.data.toList = c := ⟨_, rfl⟩
          unfold behindD at hf
          rw [hc, hm2] at hf
          rw [hc] at hcl
          rw [hm2] at hnm
          have HSo := Lib.hid hso
          have HCl := Lib.hid hcl
          have HNm := Lib.hid hnm
          clear HR hso hs hL20 hsm hAl hp han hcl hnm hc hm2
          cases c with
          | false =>
            simp only [if_true] at hf
            subst hf
            go_enter Tryz.func33, Tryz.ntmps33
            go_wp2_with (first
              | (go_at_call 32; refine (HK.out _).mono ?_; rintro e w2 ⟨rfl, hb2⟩; have HX2 := Lib.hid (HBx.out.below hb2 (by simp)); (obtain ⟨f0, f1⟩ := HX2.out.cells); have hz2 := hb2.size; (simp only [World.size_alloc] at hz2); have HB2 := Lib.hid (HB0.out.trans (hb2.mono HB0.out.size)); clear hb2)
              | (go_at_call 58; refine (HSo.out _ (HW.out.below HB2.out) (HI.out.below HB2.out HB2.out.size)).mono ?_; rintro e w3 hsw; (simp only [SoundW] at hsw); (obtain ⟨hb3, u, rfl, ho3⟩ := hsw); (obtain ⟨ua, uc, hue⟩ := ownV_slice ho3); (rw [← HAn.out] at hue); subst hue; have HB3 := Lib.hid (bthen HB2.out hb3); have HA3 := Lib.hid (ownV_isA ho3 (by unfold maxLen; have := HAn.out; omega) hb3.size); clear hb3 ho3)
              | (go_at_call 59; refine (HCl.out _ _ (HF.out.below HB3.out) HA3.out).mono ?_; rintro e w4 ⟨rfl, hb4⟩; have HB4 := Lib.hid (bthen HB3.out hb4); clear hb4))
            go_ret
            exact ⟨rfl, HB4.out⟩
          | true =>
            simp only [Bool.true_eq_false, if_false] at hf
            cases m with
            | false =>
              simp only [if_true] at hf
              subst hf
              go_enter Tryz.func33, Tryz.ntmps33
              go_wp2_with (first
                | (go_at_call 32; refine (HK.out _).mono ?_; rintro e w2 ⟨rfl, hb2⟩; have HX2 := Lib.hid (HBx.out.below hb2 (by simp)); (obtain ⟨f0, f1⟩ := HX2.out.cells); have hz2 := hb2.size; (simp only [World.size_alloc] at hz2); have HB2 := Lib.hid (HB0.out.trans (hb2.mono HB0.out.size)); clear hb2)
                | (go_at_call 58; refine (HSo.out _ (HW.out.below HB2.out) (HI.out.below HB2.out HB2.out.size)).mono ?_; rintro e w3 hsw; (simp only [SoundW] at hsw); (obtain ⟨hb3, u, rfl, ho3⟩ := hsw); (obtain ⟨ua, uc, hue⟩ := ownV_slice ho3); (rw [← HAn.out] at hue); subst hue; have HX3 := Lib.hid (HX2.out.below hb3 (by omega)); have hz3 := hb3.size; have HB3 := Lib.hid (bthen HB2.out hb3); have HA3 := Lib.hid (ownV_isA ho3 (by unfold maxLen; have := HAn.out; omega) hb3.size); clear hb3 ho3)
                | (go_at_call 59; refine (HCl.out _ _ (HF.out.below HB3.out) HA3.out).mono ?_; rintro e w4 ⟨rfl, hb4⟩; have HX4 := Lib.hid (HX3.out.below hb4 (by omega)); (obtain ⟨k0, k1⟩ := HX4.out.cells); have HB4 := Lib.hid (bthen HB3.out hb4); have HA4 := Lib.hid (HA3.out.below hb4 hb4.size); clear hb4)
                | (go_at_call 60; refine (HNm.out _ _ (HW.out.below HB4.out) HA4.out).mono ?_; rintro e w5 ⟨rfl, hb5⟩; have HB5 := Lib.hid (bthen HB4.out hb5); clear hb5))
              go_ret
              exact ⟨rfl, HB5.out⟩
            | true =>
              simp only [Bool.true_eq_false, if_false] at hf
              subst hf
              go_enter Tryz.func33, Tryz.ntmps33
              go_wp2_with (first
                | (go_at_call 32; refine (HK.out _).mono ?_; rintro e w2 ⟨rfl, hb2⟩; have HX2 := Lib.hid (HBx.out.below hb2 (by simp)); (obtain ⟨f0, f1⟩ := HX2.out.cells); have hz2 := hb2.size; (simp only [World.size_alloc] at hz2); have HB2 := Lib.hid (HB0.out.trans (hb2.mono HB0.out.size)); clear hb2)
                | (go_at_call 58; refine (HSo.out _ (HW.out.below HB2.out) (HI.out.below HB2.out HB2.out.size)).mono ?_; rintro e w3 hsw; (simp only [SoundW] at hsw); (obtain ⟨hb3, u, rfl, ho3⟩ := hsw); (obtain ⟨ua, uc, hue⟩ := ownV_slice ho3); (rw [← HAn.out] at hue); subst hue; have HX3 := Lib.hid (HX2.out.below hb3 (by omega)); have hz3 := hb3.size; have HB3 := Lib.hid (bthen HB2.out hb3); have HA3 := Lib.hid (ownV_isA ho3 (by unfold maxLen; have := HAn.out; omega) hb3.size); clear hb3 ho3)
                | (go_at_call 59; refine (HCl.out _ _ (HF.out.below HB3.out) HA3.out).mono ?_; rintro e w4 ⟨rfl, hb4⟩; have HX4 := Lib.hid (HX3.out.below hb4 (by omega)); (obtain ⟨k0, k1⟩ := HX4.out.cells); have HB4 := Lib.hid (bthen HB3.out hb4); have HA4 := Lib.hid (HA3.out.below hb4 hb4.size); clear hb4)
                | (go_at_call 60; refine (HNm.out _ _ (HW.out.below HB4.out) HA4.out).mono ?_; rintro e w5 ⟨rfl, hb5⟩; have HB5 := Lib.hid (bthen HB4.out hb5); clear hb5))
              go_ret
              exact ⟨rfl, HB5.out⟩
end Go.Proofs.YtgaaefcanfglhaaGreatDoor


namespace Go.Proofs.YtgaaefcanfglhaaGreatDoor
open Go.RowKit
set_option linter.unusedVariables false

theorem ownA_lt {B : Nat} {w : World} {v : Value} {L : List AT} (h : OwnA B w v L) (g : Nat) (e : v.ownBlock = some g) : g < w.heap.size := by
  obtain ⟨P, h1, _⟩ := h
  exact (World.ownsRow.lt h1 g e).2
def withoutA (L : List AT) (t : List UInt8) : List AT := L.filter (fun a => !(low a.1 == low t))
end Go.Proofs.YtgaaefcanfglhaaGreatDoor


namespace Go.Proofs.YtgaaefcanfglhaaGreatDoor
open Go.RowKit
set_option linter.unusedVariables false

def gtB (x y : List UInt8) : Bool := !Op.bytesLess x y && !(x == y)
def idxI (L : List AT) (y : List UInt8) : Int := match L.findIdx? (fun b => gtB b.1 y) with
  | some k => (k : Int)
  | none => -1
end Go.Proofs.YtgaaefcanfglhaaGreatDoor


namespace Go.Proofs.YtgaaefcanfglhaaGreatDoor
open Go.RowKit
set_option linter.unusedVariables false

def InsW (B : Nat) (w : World) (ob : Option Nat) (Q : List PT) (e : Ending) (w' : World) : Prop := ∃ v', e = .returned v' ∧ RowP B w' v' Q ∧ w.grownBy w' ob ∧ (v'.ownBlock = ob ∨ v'.ownBlock = some w.heap.size)

end Go.Proofs.YtgaaefcanfglhaaGreatDoor

