/- schema.valsOf, has, most: the walks. -/
import Derived.Test.YtlimajgmdhhggaaGreatDoorEnFind
namespace Go.Proofs.YtlimajgmdhhggaaGreatDoor
open Go.RowKit
set_option linter.unusedVariables false

/-- The values of the first attribute of a type, by its very letters. -/
def valsS (L : List AT) (t : List UInt8) : List (List UInt8) := match L.find? (fun a => a.1 == t) with
  | some a => a.2
  | none => []
def hasS (L : List AT) (t : List UInt8) : Bool := decide (0 < (valsS L t).length)
def mostS (t : List UInt8) : Int := if t = [117, 105, 100, 110, 117, 109, 98, 101, 114] then 1 else 40
theorem valsS_at {L : List AT} {t : List UInt8} (j : Nat) (hj : j < L.length) (h : ∀ k (hk : k < L.length), k < j → L[k].1 ≠ t) (he : L[j].1 = t) : valsS L t = L[j].2 := by
  have : L.find? (fun a => a.1 == t) = some L[j] := by
    induction L generalizing j with
    | nil => simp at hj
    | cons x l ih =>
      cases j with
      | zero => rw [List.find?_cons_of_pos (by simpa using he)]; rfl
      | succ j =>
        have h0 := h 0 (by simp) (by omega)
        rw [List.find?_cons_of_neg (by simpa using h0)]
        exact ih j (by simpa using hj) (fun k hk hkj => h (k + 1) (by simpa using hk) (by omega)) he
  unfold valsS; rw [this]
theorem valsS_no {L : List AT} {t : List UInt8} (h : ∀ k (hk : k < L.length), L[k].1 ≠ t) : valsS L t = [] := by
  have : L.find? (fun a => a.1 == t) = none := by
    rw [List.find?_eq_none]
    intro a ha
    obtain ⟨k, hk, rfl⟩ := List.getElem_of_mem ha
    simpa using h k hk
  unfold valsS; rw [this]

set_option maxRecDepth 100000 in
set_option maxHeartbeats 2000000 in
theorem valsOf_any (L : List AT) (hs : L.length ≤ 1000) (v : Value) (t : ByteArray) (w : World) (h : IsA w.heap.size w L v) :
    Calls Tryz.prog 142 #[v, .string t] w fun e w' => ∃ u, e = .returned u ∧ IsT w.heap.size w (valsS L t.data.toList) u ∧ Below w.heap.size w w' := by
  obtain ⟨a, c, rfl, hm, hcell⟩ := h
  unfold maxLen at hm
  have HC := Lib.hid hcell
  clear hcell
  go_enter Tryz.func142, Tryz.ntmps142
  go_wp2
  go_loopw [9] (fun i wr => ∃ j : Nat, j ≤ L.length ∧ i = .int .i64 j ∧ Hid (∀ k (hk : k < L.length), k < j → L[k].1 ≠ t.data.toList) ∧ Below w.heap.size w wr) (fun i wr => L.length - (intOf i).toNat)
  case atStart => exact ⟨0, by omega, rfl, Lib.hid (fun k _ h => absurd h (by omega)), Below.refl _ _⟩
  case round =>
    obtain ⟨j, hj, rfl, HNo, hbel⟩ := hrel
    have HBel := Lib.hid hbel
    have hbs := hbel.size
    by_cases hlt : j < L.length
    · have t1 : decide ((j : Int) < (L.length : Int)) = true := by simp; omega
      have t1' : decide (j < L.length) = true := by simpa using hlt
      obtain ⟨b, off, u, rfl, hb0, c0, c1, ht⟩ := HC.out j hlt
      obtain ⟨ua, uc, hu, _⟩ := id ht
      obtain ⟨un, hun⟩ : ∃ n, n = L[j].2.length := ⟨_, rfl⟩
      rw [← hun] at hu
      subst hu
      clear hun
      have HT := Lib.hid ht
      obtain ⟨X, hX⟩ : ∃ X : ByteArray, ⟨L[j].1.toArray⟩ = X := ⟨_, rfl⟩
      have hXl : X.data.toList = L[j].1 := by rw [← hX]
      have d0 : (wr.cell? ⟨b, off + j * 2, none⟩) = some (.string X) := by
        rw [hbel.cell (p := ⟨b, _, none⟩) hb0, c0, ← hX]; rfl
      have d1 := (hbel.cell (p := ⟨b, off + j * 2 + 1, none⟩) hb0).trans c1
      have HXl := Lib.hid hXl
      have HA := Lib.hid (Below.alloc hbel hbs (.cells #[.string X, .slice ua un uc] 54))
      clear hX hXl c0 c1 hbel ht
      by_cases he : X = t
      · subst he
        have HR := Lib.hid (valsS_at j hlt HNo.out HXl.out.symm)
        go_wp2
        go_ret
        exact ⟨_, rfl, by rw [HR.out]; exact HT.out, HA.out⟩
      · have t2 := str_ne he
        have HN : Hid (∀ k (hk : k < L.length), k < j + 1 → L[k].1 ≠ t.data.toList) := Lib.hid (fun k h1 h3 => by
            by_cases hk : k < j
            · exact HNo.out k h1 hk
            · obtain rfl : k = j := by omega
              rw [← HXl.out]
              exact fun e => he (bytes_ext e))
        clear he
        go_wp2
        go_roundw
        case rel => exact ⟨j + 1, by omega, by go_num, HN, HA.out⟩
        case measure => simp [intOf]; omega
    · obtain rfl : j = L.length := by omega
      have t1 : decide ((L.length : Int) < (L.length : Int)) = false := by simp
      have t1' : decide (L.length < L.length) = false := by simp
      have HR := Lib.hid (valsS_no (t := t.data.toList) (fun k hk => HNo.out k hk hk))
      clear hbel
      go_wp2
      go_ret
      exact ⟨_, rfl, by rw [HR.out]; exact isT_nil _ _ _ _, HBel.out⟩

set_option maxRecDepth 100000 in
set_option maxHeartbeats 2000000 in
theorem hasS_any (L : List AT) (hs : L.length ≤ 1000) (v : Value) (t : ByteArray) (w : World) (h : IsA w.heap.size w L v) :
    Calls Tryz.prog 139 #[v, .string t] w fun e w' => e = .returned (.bool (hasS L t.data.toList)) ∧ Below w.heap.size w w' := by
  have hv := valsOf_any L hs v t w h
  obtain ⟨sa, sc, hsv, _⟩ := h
  obtain ⟨sn, hsn⟩ : ∃ n, n = L.length := ⟨_, rfl⟩
  rw [← hsn] at hsv
  subst hsv
  have HV := Lib.hid hv
  clear hv hsn
  go_enter Tryz.func139, Tryz.ntmps139
  go_wp2_with (go_at_call 142; refine (HV.out).mono ?_; rintro e w2 ⟨u, rfl, hu, hb2⟩; (obtain ⟨ua, uc, rfl, _⟩ := hu); have HB2 := Lib.hid hb2; clear hb2)
  go_ret
  exact ⟨by unfold hasS; congr 2, HB2.out⟩

set_option maxRecDepth 100000 in
theorem most_any (t : ByteArray) (w : World) : Calls Tryz.prog 166 #[.string t] w fun e w' => e = .returned (.int .i64 (mostS t.data.toList)) ∧ w' = w := by
  by_cases he : t = ⟨#[117, 105, 100, 110, 117, 109, 98, 101, 114]⟩
  · subst he
    go_enter Tryz.func166, Tryz.ntmps166
    go_wp2
    go_ret
    exact ⟨rfl, rfl⟩
  · have t1 := str_ne he
    have t2 : (t.toList == [117, 105, 100, 110, 117, 109, 98, 101, 114]) = false := by
      rw [← t1]; congr 1; rw [ByteArray.toList_eq]
    have hm : mostS t.data.toList = 40 := by
      unfold mostS
      rw [if_neg (fun e => he (bytes_ext e))]
    rw [hm]
    clear he t1 hm
    go_enter Tryz.func166, Tryz.ntmps166
    go_wp2
    go_ret
    exact ⟨rfl, rfl⟩
end Go.Proofs.YtlimajgmdhhggaaGreatDoor
