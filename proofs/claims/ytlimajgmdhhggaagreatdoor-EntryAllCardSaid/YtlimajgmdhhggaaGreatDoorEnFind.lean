/- entry.find, typeName, Vals: the walks. -/
import Derived.Test.YtlimajgmdhhggaaGreatDoorEnRead
namespace Go.Proofs.YtlimajgmdhhggaaGreatDoor
open Go.RowKit
set_option linter.unusedVariables false

def smallA (L : List AT) : Prop := L.length ≤ 1000 ∧ ∀ a ∈ L, a.1.length ≤ 1000000 ∧ smallT a.2
def findA (L : List AT) (t : List UInt8) : List (List UInt8) := match L.find? (fun a => low a.1 == low t) with
  | some a => a.2
  | none => []
theorem findA_at {L : List AT} {t : List UInt8} (j : Nat) (hj : j < L.length) (h : ∀ k (hk : k < L.length), k < j → (low L[k].1 == low t) = false) (he : (low L[j].1 == low t) = true) : findA L t = L[j].2 := by
  have : L.find? (fun a => low a.1 == low t) = some L[j] := by
    induction L generalizing j with
    | nil => simp at hj
    | cons x l ih =>
      cases j with
      | zero => rw [List.find?_cons_of_pos (by exact he)]; rfl
      | succ j =>
        have h0 := h 0 (by simp) (by omega)
        rw [List.find?_cons_of_neg (by simpa using h0)]
        exact ih j (by simpa using hj) (fun k hk hkj => h (k + 1) (by simpa using hk) (by omega)) he
  unfold findA; rw [this]
theorem findA_no {L : List AT} {t : List UInt8} (h : ∀ k (hk : k < L.length), (low L[k].1 == low t) = false) : findA L t = [] := by
  have : L.find? (fun a => low a.1 == low t) = none := by
    rw [List.find?_eq_none]
    intro a ha
    obtain ⟨k, hk, rfl⟩ := List.getElem_of_mem ha
    simpa using h k hk
  unfold findA; rw [this]

set_option maxRecDepth 100000 in
set_option maxHeartbeats 2000000 in
theorem find_any (L : List AT) (hs : smallA L) (v : Value) (t : ByteArray) (w : World) (h : IsA w.heap.size w L v) :
    Calls Tryz.prog 52 #[v, .string t] w fun e w' => ∃ u, e = .returned u ∧ IsT w.heap.size w (findA L t.data.toList) u ∧ Below w.heap.size w w' := by
  obtain ⟨a, c, rfl, hm, hcell⟩ := h
  unfold maxLen at hm
  have HC := Lib.hid hcell
  have HS := Lib.hid hs
  have hL := hs.1
  clear hcell hs
  go_enter Tryz.func52, Tryz.ntmps52
  go_wp2
  go_loopw [9] (fun i wr => ∃ j : Nat, j ≤ L.length ∧ i = .int .i64 j ∧ Hid (∀ k (hk : k < L.length), k < j → (low L[k].1 == low t.data.toList) = false) ∧ Below w.heap.size w wr) (fun i _ => L.length - (intOf i).toNat)
  case atStart => exact ⟨0, by omega, rfl, Lib.hid (fun k _ h => absurd h (by omega)), Below.refl _ _⟩
  case round =>
    obtain ⟨j, hj, rfl, HNo, hbel⟩ := hrel
    have HBel := Lib.hid hbel
    have hbs := hbel.size
    by_cases hlt : j < L.length
    · have t1 : decide ((j : Int) < (L.length : Int)) = true := by simp; omega
      have t1' : decide (j < L.length) = true := by simpa using hlt
      obtain ⟨b, off, u, rfl, hb0, c0, c1, ht⟩ := HC.out j hlt
      obtain ⟨ua, uc, hu, _⟩ := id ht
      obtain ⟨un, hun⟩ : ∃ n, n = L[j].2.length := ⟨_, rfl⟩
      rw [← hun] at hu
      subst hu
      clear hun
      have HT := Lib.hid ht
      obtain ⟨X, hX⟩ : ∃ X : ByteArray, ⟨L[j].1.toArray⟩ = X := ⟨_, rfl⟩
      have hXl : X.data.toList = L[j].1 := by rw [← hX]
      have d0 : (wr.cell? ⟨b, off + j * 2, none⟩) = some (.string X) := by
        rw [hbel.cell (p := ⟨b, _, none⟩) hb0, c0, ← hX]; rfl
      have d1 := (hbel.cell (p := ⟨b, off + j * 2 + 1, none⟩) hb0).trans c1
      have hXs : X.size ≤ 281474976710656 := by
        have := (HS.out.2 L[j] (List.getElem_mem _)).1
        rw [← bytes_len, hXl]; omega
      have hsl := fun w => sameLetters_any X t hXs w
      rw [hXl] at hsl
      obtain ⟨g, hg⟩ : ∃ g, (low L[j].1 == low t.data.toList) = g := ⟨_, rfl⟩
      rw [hg] at hsl
      have HSl := Lib.hid hsl
      have HG := Lib.hid hg
      have HA := Lib.hid (Below.alloc hbel hbs (.cells #[.string X, .slice ua un uc] 54))
      clear hX hXl c0 c1 hsl hbel ht hg
      cases g with
      | true =>
        have HR := Lib.hid (findA_at j hlt HNo.out HG.out)
        go_wp2_with (go_at_call 93; refine (HSl.out _).mono ?_; rintro e w2 ⟨rfl, hb2⟩; have f1 : w2.cell? ⟨wr.heap.size, 1, none⟩ = some (.slice ua un uc) := by { rw [hb2.cell (p := ⟨wr.heap.size, 1, none⟩) (by simp)]; simp }; have HB2 := Lib.hid (HA.out.trans (hb2.mono (by simp; omega))); clear hb2)
        go_ret
        exact ⟨_, rfl, by rw [HR.out]; exact HT.out, HB2.out⟩
      | false =>
        have HN : Hid (∀ k (hk : k < L.length), k < j + 1 → (low L[k].1 == low t.data.toList) = false) := Lib.hid (fun k h1 h3 => by
            by_cases hk : k < j
            · exact HNo.out k h1 hk
            · obtain rfl : k = j := by omega
              exact HG.out)
        go_wp2_with (go_at_call 93; refine (HSl.out _).mono ?_; rintro e w2 ⟨rfl, hb2⟩; have HB2 := Lib.hid (HA.out.trans (hb2.mono (by simp; omega))); clear hb2)
        go_roundw
        case rel => exact ⟨j + 1, by omega, by go_num, HN, HB2.out⟩
        case measure => simp [intOf]; omega
    · obtain rfl : j = L.length := by omega
      have t1 : decide ((L.length : Int) < (L.length : Int)) = false := by simp
      have t1' : decide (L.length < L.length) = false := by simp
      have HR := Lib.hid (findA_no (t := t.data.toList) (fun k hk => HNo.out k hk hk))
      clear hbel
      go_wp2
      go_ret
      exact ⟨_, rfl, by rw [HR.out]; exact isT_nil _ _ _ _, HBel.out⟩

theorem ownS_lower {B B' : Nat} {w : World} {v : Value} {L : List (List UInt8)} (h : OwnS B w v L) (hle : B' ≤ B) : OwnS B' w v L :=
  ⟨h.1, h.2.imp id fun ⟨g, cap, cur, e1, hb, rest⟩ => ⟨g, cap, cur, e1, Nat.le_trans hle hb, rest⟩⟩
set_option maxRecDepth 100000 in
set_option maxHeartbeats 2000000 in
theorem vals_any (d : ByteArray) (L : List AT) (hs : smallA L) (v : Value) (t : ByteArray) (w : World) (h : IsA w.heap.size w L v) :
    Calls Tryz.prog 16 #[.agg #[.string d, v], .string t] w fun e w' => ∃ u, e = .returned u ∧ OwnS w.heap.size w' u (findA L t.data.toList) ∧ Below w.heap.size w w' := by
  have hf : smallT (findA L t.data.toList) := by
    unfold findA
    split
    · rename_i a ha
      exact (hs.2 a (List.mem_of_find?_eq_some ha)).2
    · exact ⟨by simp, by simp⟩
  have HF := Lib.hid hf
  have HS := Lib.hid hs
  have HI := Lib.hid h
  obtain ⟨sa, sc, hv, _⟩ := id h
  obtain ⟨sn, hsn⟩ : ∃ n, n = L.length := ⟨_, rfl⟩
  rw [← hsn] at hv
  subst hv
  clear hf hs h hsn
  have HW := Lib.hid (Below.alloc (Below.refl w.heap.size w) (Nat.le_refl _) (.cells #[.string d, .slice sa sn sc] 24))
  go_enter Tryz.func16, Tryz.ntmps16
  go_wp2_with (first
    | (go_at_call 52; refine (find_any L HS.out _ t _ (HI.out.below HW.out (by simp))).mono ?_; rintro e w2 ⟨u, rfl, hu, hb2⟩; have HU := Lib.hid (hu.below hb2 hb2.size); have HB := Lib.hid (HW.out.trans (hb2.mono (by simp))); clear hu hb2)
    | (go_at_call 51; refine (copyVals_any _ HF.out _ _ HU.out).mono ?_; rintro e w3 ⟨u3, rfl, hu, hb3⟩; have HU3 := Lib.hid (ownS_lower hu HB.out.size); have HB := Lib.hid (bthen HB.out hb3); clear hu hb3))
  go_ret
  exact ⟨_, rfl, HU3.out, HB.out⟩
end Go.Proofs.YtlimajgmdhhggaaGreatDoor
