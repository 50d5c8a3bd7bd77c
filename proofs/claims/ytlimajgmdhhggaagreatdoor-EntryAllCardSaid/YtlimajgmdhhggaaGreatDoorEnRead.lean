/- Texts and attributes as they lie in memory; entry.lower, sameLetters, copyVals: the walks. -/
import Derived.Test.YtlimajgmdhhggaaGreatDoorRefCut
import Derived.Test.YtlimajgmdhhggaaGreatDoorDnLib
import Derived.Test.YtlimajgmdhhggaaGreatDoorMaFind
import Derived.BigQuiet
namespace Go.Proofs.YtlimajgmdhhggaaGreatDoor
open Go.RowKit
set_option linter.unusedVariables false

/-- The value v is the list of these texts, below block n0. -/
def IsT (n0 : Nat) (w : World) (L : List (List UInt8)) (v : Value) : Prop := ∃ a c, v = .slice a L.length c ∧ L.length ≤ maxLen ∧
  ∀ j, (h : j < L.length) → ∃ b off, a = some ⟨b, off, none⟩ ∧ b < n0 ∧ w.cell? ⟨b, off + j, none⟩ = some (strV L[j])
theorem IsT.below {n0 n1 : Nat} {w w' : World} {L : List (List UInt8)} {v : Value} (h : IsT n0 w L v) (hb : Below n0 w w') (hn : n0 ≤ n1) : IsT n1 w' L v := by
  obtain ⟨a, c, hv, hm, hc⟩ := h
  refine ⟨a, c, hv, hm, fun j hj => ?_⟩
  obtain ⟨b, off, ha, hlt, c0⟩ := hc j hj
  exact ⟨b, off, ha, Nat.lt_of_lt_of_le hlt hn, (hb.cell (p := ⟨b, _, none⟩) hlt).trans c0⟩
theorem isT_nil (n0 : Nat) (w : World) (c : Nat) (a : Option Addr) : IsT n0 w [] (.slice a 0 c) := ⟨a, c, rfl, Nat.zero_le _, fun j hj => absurd hj (by simp)⟩
theorem ownS_isT {B : Nat} {w : World} {v : Value} {L : List (List UInt8)} (h : OwnS B w v L) (hl : L.length ≤ maxLen) : IsT w.heap.size w L v := by
  by_cases hne : L = []
  · subst hne
    obtain ⟨a, c, hv⟩ := ownS_slice h
    exact ⟨a, c, hv, hl, fun j hj => absurd hj (by simp)⟩
  · obtain ⟨g, c, hv, _, hg, hc⟩ := ownS_at h hne
    exact ⟨_, c, hv, hl, fun j hj => ⟨g, 0, rfl, hg, by rw [Nat.zero_add]; exact hc j hj⟩⟩

abbrev AT := List UInt8 × List (List UInt8)
/-- The value v is the list of these attributes, below block n0. -/
def IsA (n0 : Nat) (w : World) (L : List AT) (v : Value) : Prop := ∃ a c, v = .slice a L.length c ∧ L.length ≤ maxLen ∧
  ∀ j, (h : j < L.length) → ∃ b off u, a = some ⟨b, off, none⟩ ∧ b < n0 ∧ w.cell? ⟨b, off + j * 2, none⟩ = some (strV L[j].1) ∧ w.cell? ⟨b, off + j * 2 + 1, none⟩ = some u ∧ IsT n0 w L[j].2 u
theorem IsA.below {n0 n1 : Nat} {w w' : World} {L : List AT} {v : Value} (h : IsA n0 w L v) (hb : Below n0 w w') (hn : n0 ≤ n1) : IsA n1 w' L v := by
  obtain ⟨a, c, hv, hm, hc⟩ := h
  refine ⟨a, c, hv, hm, fun j hj => ?_⟩
  obtain ⟨b, off, u, ha, hlt, c0, c1, ht⟩ := hc j hj
  exact ⟨b, off, u, ha, Nat.lt_of_lt_of_le hlt hn, (hb.cell (p := ⟨b, _, none⟩) hlt).trans c0, (hb.cell (p := ⟨b, _, none⟩) hlt).trans c1, ht.below hb hn⟩
theorem isA_nil (n0 : Nat) (w : World) (c : Nat) (a : Option Addr) : IsA n0 w [] (.slice a 0 c) := ⟨a, c, rfl, Nat.zero_le _, fun j hj => absurd hj (by simp)⟩

theorem below_drewN {B : Nat} {w w' : World} (h : Below B w w') (n : Nat) : Below B w (w'.drewN n) := h.trans ⟨rfl, rfl, rfl, Nat.le_refl _, fun _ _ => rfl⟩

theorem lowerE_any (c : UInt8) (w : World) : Calls Tryz.prog 133 #[.int .u8 c.toNat] w fun e w' => e = .returned (.int .u8 (lowC c).toNat) ∧ w' = w := by
  have hl := lowC_toNat c
  have hcl := c.toNat_lt
  by_cases h1 : 65 ≤ c.toNat
  · have t1 : decide ((65 : Int) ≤ (c.toNat : Int)) = true := by simp; omega
    by_cases h2 : c.toNat ≤ 90
    · have t2 : decide ((c.toNat : Int) ≤ 90) = true := by simp; omega
      rw [if_pos ⟨h1, h2⟩] at hl
      rw [hl]
      have e0 : ((c.toNat + 32 : Nat) : Int) = (c.toNat : Int) + 32 := by omega
      rw [e0]
      clear hl e0
      go_enter Tryz.func133, Tryz.ntmps133
      go_wp2
      go_ret
      refine ⟨?_, rfl⟩
      show Ending.returned (.int .u8 ((c.toNat : Int) - 65 + 97)) = _
      rw [show (c.toNat : Int) - 65 + 97 = (c.toNat : Int) + 32 from by omega]
    · have t2 : decide ((c.toNat : Int) ≤ 90) = false := by simp; omega
      rw [if_neg (by omega)] at hl
      rw [hl]
      clear hl
      go_enter Tryz.func133, Tryz.ntmps133
      go_wp2
      go_ret
      exact ⟨rfl, rfl⟩
  · have t1 : decide ((65 : Int) ≤ (c.toNat : Int)) = false := by simp; omega
    rw [if_neg (by omega)] at hl
    rw [hl]
    clear hl
    go_enter Tryz.func133, Tryz.ntmps133
    go_wp2
    go_ret
    exact ⟨rfl, rfl⟩

theorem low_ne_len {a b : List UInt8} (h : a.length ≠ b.length) : (low a == low b) = false := by
  have : low a ≠ low b := fun e => h (by have := congrArg List.length e; rwa [low_length, low_length] at this)
  simpa using this
theorem low_eq_all {a b : List UInt8} (hl : a.length = b.length) (h : ∀ k (h1 : k < a.length) (h2 : k < b.length), lowC a[k] = lowC b[k]) : (low a == low b) = true := by
  have : low a = low b := List.ext_getElem (by rw [low_length, low_length]; exact hl) (fun k h1 h2 => by
    simp only [low, List.getElem_map]
    exact h k (by rwa [low_length] at h1) (by rwa [low_length] at h2))
  simpa using this
theorem low_ne_at {a b : List UInt8} (k : Nat) (h1 : k < a.length) (h2 : k < b.length) (h : lowC a[k] ≠ lowC b[k]) : (low a == low b) = false := by
  have : low a ≠ low b := fun e => h (by
    have h3 : k < (low a).length := by rw [low_length]; exact h1
    have h4 : k < (low b).length := by rw [low_length]; exact h2
    have : (low a)[k] = (low b)[k] := by simp only [e]
    simpa only [low, List.getElem_map] using this)
  simpa using this

set_option maxRecDepth 100000 in
set_option maxHeartbeats 2000000 in
theorem sameLetters_any (a b : ByteArray) (ha : a.size ≤ 281474976710656) (w : World) : Calls Tryz.prog 93 #[.string a, .string b] w fun e w' => e = .returned (.bool (low a.data.toList == low b.data.toList)) ∧ Below w.heap.size w w' := by
  obtain ⟨R, hR⟩ : ∃ R, R = (low a.data.toList == low b.data.toList) := ⟨_, rfl⟩
  rw [← hR]
  by_cases hl : a.size = b.size
  · have HR := Lib.hid hR
    have t0 : ((a.size : Int) != (b.size : Int)) = false := by simp [hl]
    have t0' : ((b.size : Int) != (b.size : Int)) = false := by simp
    have HLn := Lib.hid hl
    clear hR hl
    go_enter Tryz.func93, Tryz.ntmps93
    go_wp2
    clear t0 t0'
    go_loopw [13] (fun i wr => ∃ j : Nat, j ≤ a.size ∧ i = .int .i64 j ∧ Hid (∀ k (h1 : k < a.data.toList.length) (h2 : k < b.data.toList.length), k < j → lowC a.data.toList[k] = lowC b.data.toList[k]) ∧ Below w.heap.size w wr) (fun i _ => a.size - (intOf i).toNat)
    case atStart => exact ⟨0, by omega, rfl, Lib.hid (fun k _ _ h => absurd h (by omega)), Below.refl _ _⟩
    case round =>
      obtain ⟨j, hj, rfl, HAll, hbel⟩ := hrel
      have HBel := Lib.hid hbel
      clear hbel
      by_cases hlt : j < a.size
      · have t1 : decide ((j : Int) < (a.size : Int)) = true := by simp; omega
        have hltb : j < b.size := by rw [← HLn.out]; exact hlt
        have q1 : j < a.data.toList.length := by rw [bytes_len]; exact hlt
        have q2 : j < b.data.toList.length := by rw [bytes_len]; exact hltb
        obtain ⟨x, hx⟩ : ∃ x : UInt8, a[j] = x := ⟨_, rfl⟩
        obtain ⟨y, hy⟩ : ∃ y : UInt8, b[j] = y := ⟨_, rfl⟩
        have gx : a.data.toList[j] = x := by rw [← hx]; rfl
        have gy : b.data.toList[j] = y := by rw [← hy]; rfl
        have hxl := x.toNat_lt
        have hyl := y.toNat_lt
        have L1 := Lib.hid (fun w => lowerE_any x w)
        have L2 := Lib.hid (fun w => lowerE_any y w)
        by_cases he : lowC x = lowC y
        · have HN : Hid (∀ k (h1 : k < a.data.toList.length) (h2 : k < b.data.toList.length), k < j + 1 → lowC a.data.toList[k] = lowC b.data.toList[k]) := Lib.hid (fun k h1 h2 h3 => by
            by_cases hk : k < j
            · exact HAll.out k h1 h2 hk
            · obtain rfl : k = j := by omega
              rw [gx, gy]; exact he)
          have t2 : (((lowC x).toNat : Int) != ((lowC y).toNat : Int)) = false := by rw [he]; simp
          clear gx gy HAll he
          go_wp2
          go_quiet (first | (go_at_call 133; (with_reducible refine Calls.quiet_of_same (L1.out _))) | (go_at_call 133; (with_reducible refine Calls.quiet_of_same (L2.out _))))
          go_wp2
          go_roundw
          case rel => exact ⟨j + 1, by omega, by go_num, HN, below_drewN HBel.out _⟩
          case measure => simp [intOf]; omega
        · have HF : Hid (R = false) := Lib.hid (HR.out.trans (low_ne_at j q1 q2 (by rw [gx, gy]; exact he)))
          have t2 : (((lowC x).toNat : Int) != ((lowC y).toNat : Int)) = true := by
            have : (lowC x).toNat ≠ (lowC y).toNat := fun e => he (UInt8.toNat_inj.1 e)
            simpa using fun e => this (by omega)
          clear gx gy HAll he
          go_wp2
          go_quiet (first | (go_at_call 133; (with_reducible refine Calls.quiet_of_same (L1.out _))) | (go_at_call 133; (with_reducible refine Calls.quiet_of_same (L2.out _))))
          go_wp2
          go_ret
          exact ⟨by rw [HF.out]; rfl, below_drewN HBel.out _⟩
      · obtain rfl : j = a.size := by omega
        have t1 : decide ((a.size : Int) < (a.size : Int)) = false := by simp
        have HF : Hid (R = true) := Lib.hid (HR.out.trans (low_eq_all (by rw [bytes_len, bytes_len]; exact HLn.out) (fun k h1 h2 => HAll.out k h1 h2 (by rw [bytes_len] at h1; exact h1))))
        clear HAll HLn
        go_wp2
        go_ret
        exact ⟨by rw [HF.out]; rfl, HBel.out⟩
  · have HF : Hid (R = false) := Lib.hid (hR.trans (low_ne_len (by rw [bytes_len, bytes_len]; exact hl)))
    have t0 : ((a.size : Int) != (b.size : Int)) = true := by simp; omega
    clear hR hl
    go_enter Tryz.func93, Tryz.ntmps93
    go_wp2
    go_ret
    exact ⟨by rw [HF.out]; rfl, Below.refl _ _⟩

def smallT (L : List (List UInt8)) : Prop := L.length ≤ 1000 ∧ ∀ s ∈ L, s.length ≤ 1000000
set_option maxRecDepth 100000 in
set_option maxHeartbeats 2000000 in
theorem copyVals_any (L : List (List UInt8)) (hs : smallT L) (v : Value) (w : World) (h : IsT w.heap.size w L v) :
    Calls Tryz.prog 51 #[v] w fun e w' => ∃ v', e = .returned v' ∧ OwnS w.heap.size w' v' L ∧ Below w.heap.size w w' := by
  obtain ⟨a, c, rfl, hm, hcell⟩ := h
  unfold maxLen at hm
  have HC := Lib.hid hcell
  have HS := Lib.hid hs
  have hL := hs.1
  clear hcell hs
  go_enter Tryz.func51, Tryz.ntmps51
  go_wp2
  go_loopw [3, 8] (fun l i wr => ∃ j : Nat, j ≤ L.length ∧ i = .int .i64 j ∧ OwnS w.heap.size wr l (L.take j) ∧ Below w.heap.size w wr) (fun _ i _ => L.length - (intOf i).toNat)
  case atStart => exact ⟨0, by omega, rfl, ownS_nil _ _, Below.refl _ _⟩
  case round =>
    obtain ⟨j, hj, rfl, hown, hbel⟩ := hrel
    obtain ⟨sa, sc, rfl⟩ := ownS_slice hown
    have htl : (L.take j).length = j := by rw [List.length_take]; omega
    simp only [htl] at hown ⊢
    have HOwn := Lib.hid hown
    have HBel := Lib.hid hbel
    have hbs := hbel.size
    by_cases hlt : j < L.length
    · have t1 : decide ((j : Int) < (L.length : Int)) = true := by simp; omega
      have t1' : decide (j < L.length) = true := by simpa using hlt
      obtain ⟨b, off, rfl, hb0, c0⟩ := HC.out j hlt
      obtain ⟨X, hX⟩ : ∃ X : ByteArray, ⟨L[j].toArray⟩ = X := ⟨_, rfl⟩
      have hXl : X.data.toList = L[j] := by rw [← hX]
      have c1 : (wr.cell? ⟨b, off + j, none⟩) = some (.string X) := by
        rw [hbel.cell (p := ⟨b, _, none⟩) hb0, c0, ← hX]; rfl
      have hXs : X.size ≤ 281474976710656 := by
        have := HS.out.2 L[j] (List.getElem_mem _)
        rw [← bytes_len, hXl]; omega
      have hcl := fun w => clone_any X w hXs
      have HCl := Lib.hid hcl
      have htk : L.take (j + 1) = L.take j ++ [X.data.toList] := by rw [List.take_succ_eq_append_getElem hlt, hXl]
      have HTk := Lib.hid htk
      clear hX hXl c0 hcl htk hown hbel htl
      go_wp2_with (first
        | (go_at_call 61; refine (HCl.out _).mono ?_; rintro e w2 ⟨rfl, hb2⟩; have HB2 := Lib.hid hb2; have HO2 := Lib.hid (ownS_below HOwn.out hb2); have hbs2 := hb2.size; clear hb2)
        | (at_builtin; refine wpList_append_text rfl (.tmp 12) (.tmp 15) rfl w.heap.size (.slice sa j sc) (L.take j) rfl X HO2.out rfl (by rw [List.length_take]; omega) (by omega) ?_; intro v5 w5 hown5 hb5; have HO5 := Lib.hid hown5; have HB5 := Lib.hid hb5; clear hown5 hb5))
      go_roundw
      case rel => exact ⟨j + 1, by omega, by go_num, by rw [HTk.out]; exact HO5.out, (HBel.out.trans (HB2.out.mono hbs)).trans HB5.out⟩
      case measure => simp [intOf]; omega
    · obtain rfl : j = L.length := by omega
      have t1 : decide ((L.length : Int) < (L.length : Int)) = false := by simp
      have t1' : decide (L.length < L.length) = false := by simp
      clear hown hbel htl
      go_wp2
      go_ret
      exact ⟨_, rfl, by have := HOwn.out; rwa [List.take_length] at this, HBel.out⟩
end Go.Proofs.YtlimajgmdhhggaaGreatDoor
