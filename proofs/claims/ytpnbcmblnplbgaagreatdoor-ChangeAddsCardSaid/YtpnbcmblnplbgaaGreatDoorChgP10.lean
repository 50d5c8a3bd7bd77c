/- Several texts in one file: ScDocA, MaNumP, MaRefN, MaRefM, MaRefL, ScDocH, ScDocP. -/
import Derived.Deep.Cut
import Derived.Test.YtpnbcmblnplbgaaGreatDoorChgP4
import Derived.Test.YtpnbcmblnplbgaaGreatDoorChgP1
import Derived.Test.YtpnbcmblnplbgaaGreatDoorChgP8
import Derived.Test.YtpnbcmblnplbgaaGreatDoorChgP5
import Derived.Test.YtpnbcmblnplbgaaGreatDoorRefKeyW
import Derived.Test.YtpnbcmblnplbgaaGreatDoorChgP2
import Derived.Deep.RegionLaw
import Derived.RegionTactic
import Derived.BigRegion
import Derived.Deep.RegionHeld3
namespace Go.Proofs.YtpnbcmblnplbgaaGreatDoor
open Go.RowKit
set_option linter.unusedVariables false

set_option maxRecDepth 100000 in
set_option maxHeartbeats 2000000 in
theorem amongRef_any (L : List (List UInt8)) (v : Value) (T : ByteArray) (w : World) (h : IsT w.heap.size w L v) :
    Calls Tryz.prog 78 #[v, .string T] w fun e w' => e = .returned (.bool (L.contains T.data.toList)) ∧ w = w' := by
  obtain ⟨a, c, rfl, hm, hcell⟩ := h
  unfold maxLen at hm
  have HC := Lib.hid hcell
  obtain ⟨R, hR⟩ : ∃ R, R = L.contains T.data.toList := ⟨_, rfl⟩
  rw [← hR]
  have HRR := Lib.hid hR
  clear hcell hR
  go_enter Tryz.func78, Tryz.ntmps78
  go_wp2
  go_loopw [5] (fun i wr => ∃ j : Nat, j ≤ L.length ∧ i = .int .i64 j ∧ Hid (∀ k (hk : k < L.length), k < j → L[k] ≠ T.data.toList) ∧ w = wr) (fun i wr => L.length - (intOf i).toNat)
  case atStart => exact ⟨0, by omega, rfl, Lib.hid (fun k _ h => absurd h (by omega)), rfl⟩
  case round =>
    obtain ⟨j, hj, rfl, HNo, rfl⟩ := hrel
    by_cases hlt : j < L.length
    · have t1 : decide ((j : Int) < (L.length : Int)) = true := by simp; omega
      have t1' : decide (j < L.length) = true := by simpa using hlt
      obtain ⟨b, off, rfl, hb0, c0⟩ := HC.out j hlt
      obtain ⟨X, hX⟩ : ∃ X : ByteArray, ⟨L[j].toArray⟩ = X := ⟨_, rfl⟩
      have hXl : X.data.toList = L[j] := by rw [← hX]
      have d0 : (w.cell? ⟨b, off + j, none⟩) = some (.string X) := by
        rw [c0, ← hX]; rfl
      by_cases he : X = T
      · have HR : Hid (R = true) := Lib.hid (by rw [HRR.out, List.contains_iff_mem, ← he, hXl]; exact List.getElem_mem _)
        subst he
        clear hX hXl c0 HNo
        go_wp2
        go_ret
        exact ⟨by rw [HR.out]; rfl, rfl⟩
      · have t2 := str_ne he
        have HN : Hid (∀ k (hk : k < L.length), k < j + 1 → L[k] ≠ T.data.toList) := Lib.hid (fun k h1 h3 => by
            by_cases hk : k < j
            · exact HNo.out k h1 hk
            · obtain rfl : k = j := by omega
              rw [← hXl]
              exact fun e => he (bytes_ext e))
        clear he hX hXl c0 HNo
        go_wp2
        go_roundw
        case rel => exact ⟨j + 1, by omega, by go_num, HN, by first | rfl | trivial⟩
        case measure => simp [intOf]; omega
    · obtain rfl : j = L.length := by omega
      have t1 : decide ((L.length : Int) < (L.length : Int)) = false := by simp
      have t1' : decide (L.length < L.length) = false := by simp
      have HR : Hid (R = false) := Lib.hid (by
        rw [HRR.out, Bool.eq_false_iff, Ne, List.contains_iff_mem]
        intro hx
        obtain ⟨k, hk, e⟩ := List.getElem_of_mem hx
        exact HNo.out k hk hk e)
      go_wp2
      go_ret
      exact ⟨by rw [HR.out]; rfl, rfl⟩

def AttrP (L : List AT) (t : List UInt8) (I : Int) : Prop := (∃ j, ∃ h : j < L.length, I = (j : Int) ∧ (low L[j].1 == low t) = true ∧ ∀ k (hk : k < L.length), k < j → (low L[k].1 == low t) = false) ∨ (I = -1 ∧ ∀ k (hk : k < L.length), (low L[k].1 == low t) = false)
set_option maxRecDepth 100000 in
set_option maxHeartbeats 4000000 in
theorem attrRef_any (D t : ByteArray) (ht : t.size ≤ 281474976710656) (L : List AT) (hs : smallA L) (v : Value) (w : World) (h : IsA w.heap.size w L v) :
    Calls Tryz.prog 73 #[.agg #[.string D, v], .string t] w fun e w' => ∃ I, e = .returned (.int .i64 I) ∧ AttrP L t.data.toList I ∧ Below w.heap.size w w' := by
  obtain ⟨a, c, hv, hm, hcell⟩ := h
  obtain ⟨n, hn⟩ : ∃ n, n = L.length := ⟨_, rfl⟩
  rw [← hn] at hv hm
  subst hv
  unfold maxLen at hm
  have hbx := boxN_new w D (.slice a n c)
  have HN := Lib.hid hn
  have HC := Lib.hid hcell
  have HS := Lib.hid hs
  have HBx := Lib.hid hbx
  have hB0 : Below w.heap.size w (w.alloc (.cells #[.string D, .slice a n c] 27)) := (Below.refl _ _).alloc (Nat.le_refl _) _
  have HB0 := Lib.hid hB0
  have HLt := Lib.hid (fun W => lowerRef_any t W ht)
  obtain ⟨T, hT⟩ : ∃ T, T = lowB t := ⟨_, rfl⟩
  have hTl : T.data.toList = low t.data.toList := by rw [hT, lowB_list]
  rw [← hT] at HLt
  have HTl := Lib.hid hTl
  clear hcell hn hs hbx hB0 hT hTl
  go_enter Tryz.func73, Tryz.ntmps73
  go_wp2
  go_loopw [5] (fun i wr => ∃ j : Nat, j ≤ n ∧ i = .int .i64 j ∧ Hid (∀ k (hk : k < L.length), k < j → (low L[k].1 == low t.data.toList) = false) ∧ Below (w.alloc (.cells #[.string D, .slice a n c] 27)).heap.size (w.alloc (.cells #[.string D, .slice a n c] 27)) wr) (fun i wr => n - (intOf i).toNat)
  case atStart => exact ⟨0, by omega, rfl, Lib.hid (fun k _ h => absurd h (by omega)), Below.refl _ _⟩
  case round =>
    obtain ⟨j, hj, rfl, HNo, hbel⟩ := hrel
    have HBel := Lib.hid (HB0.out.trans (hbel.mono HB0.out.size))
    obtain ⟨x0, x1⟩ := (HBx.out.below hbel (by simp)).cells
    have HBe := Lib.hid hbel
    have hbs := hbel.size
    clear hbel
    by_cases hlt : j < n
    · have t1 : decide ((j : Int) < (n : Int)) = true := by simp; omega
      have t1' : decide (j < n) = true := by simpa using hlt
      have hlL : j < L.length := by rw [← HN.out]; exact hlt
      obtain ⟨b, off, u, rfl, hb0, c0, c1, _⟩ := HC.out j hlL
      obtain ⟨X, hX⟩ : ∃ X : ByteArray, ⟨L[j].1.toArray⟩ = X := ⟨_, rfl⟩
      have hXl : X.data.toList = L[j].1 := by rw [← hX]
      have d0 : (wr.cell? ⟨b, off + j * 2, none⟩) = some (.string X) := by
        rw [HBel.out.cell (p := ⟨b, _, none⟩) hb0, c0, ← hX]; rfl
      have hXs : X.size ≤ 281474976710656 := by
        have := (HS.out.2 L[j] (List.getElem_mem _)).1
        rw [← bytes_len, hXl]; omega
      have HLx := Lib.hid (fun W => lowerRef_any X W hXs)
      obtain ⟨Y, hY⟩ : ∃ Y, Y = lowB X := ⟨_, rfl⟩
      have hYl : Y.data.toList = low L[j].1 := by rw [hY, lowB_list, hXl]
      rw [← hY] at HLx
      by_cases he : Y = T
      · have HR : Hid ((low L[j].1 == low t.data.toList) = true) := Lib.hid (by rw [← hYl, ← HTl.out, he]; simp)
        subst he
        clear hX hXl c0 c1 hY hYl
        go_wp2_with (first
          | (go_at_call 34; ((with_reducible refine (HLx.out _).mono ?_); rintro e w2 ⟨rfl, hb2⟩); have HB2 := Lib.hid (HBel.out.trans (hb2.mono HBel.out.size)); clear hb2)
          | (go_at_call 34; ((with_reducible refine (HLt.out _).mono ?_); rintro e w3 ⟨rfl, hb3⟩); have HB3 := Lib.hid (bthen HB2.out hb3); clear hb3))
        go_ret
        exact ⟨_, rfl, .inl ⟨j, hlL, rfl, HR.out, HNo.out⟩, HB3.out⟩
      · have t2 := str_ne he
        have HN2 : Hid (∀ k (hk : k < L.length), k < j + 1 → (low L[k].1 == low t.data.toList) = false) := Lib.hid (fun k h1 h3 => by
            by_cases hk : k < j
            · exact HNo.out k h1 hk
            · obtain rfl : k = j := by omega
              rw [← hYl, ← HTl.out]
              exact by simpa using fun e => he (bytes_ext e))
        clear he hX hXl c0 c1 hY hYl HNo
        go_wp2_with (first
          | (go_at_call 34; ((with_reducible refine (HLx.out _).mono ?_); rintro e w2 ⟨rfl, hb2⟩); have HB2 := Lib.hid (HBe.out.trans (hb2.mono hbs)); clear hb2)
          | (go_at_call 34; ((with_reducible refine (HLt.out _).mono ?_); rintro e w3 ⟨rfl, hb3⟩); have HB3 := Lib.hid (HB2.out.trans (hb3.mono HB2.out.size)); clear hb3))
        go_roundw
        case rel => exact ⟨j + 1, by omega, by go_num, HN2, HB3.out⟩
        case measure => simp [intOf]; omega
    · obtain rfl : j = n := by omega
      have t1 : decide ((j : Int) < (j : Int)) = false := by simp
      have t1' : decide (j < j) = false := by simp
      go_wp2
      go_ret
      exact ⟨_, rfl, .inr ⟨rfl, fun k hk => HNo.out k hk (by rw [HN.out]; exact hk)⟩, HBel.out⟩

set_option maxRecDepth 100000 in
set_option maxHeartbeats 4000000 in
theorem valsRef_any (D t : ByteArray) (ht : t.size ≤ 281474976710656) (L : List AT) (hs : smallA L) (v : Value) (w : World) (h : IsA w.heap.size w L v) :
    Calls Tryz.prog 76 #[.agg #[.string D, v], .string t] w fun e w' => ∃ u, e = .returned u ∧ IsT w.heap.size w (findA L t.data.toList) u ∧ Below w.heap.size w w' := by
  obtain ⟨a, c, hv, hm, hcell⟩ := id h
  obtain ⟨n, hn⟩ : ∃ n, n = L.length := ⟨_, rfl⟩
  rw [← hn] at hv hm
  subst hv
  unfold maxLen at hm
  have hbx := boxN_new w D (.slice a n c)
  have hB0 : Below w.heap.size w (w.alloc (.cells #[.string D, .slice a n c] 27)) := (Below.refl _ _).alloc (Nat.le_refl _) _
  have HAt := Lib.hid (attrRef_any D t ht L hs (.slice a n c) (w.alloc (.cells #[.string D, .slice a n c] 27)) (h.below hB0 hB0.size))
  have HN := Lib.hid hn
  have HC := Lib.hid hcell
  have HBx := Lib.hid hbx
  have HB0 := Lib.hid hB0
  clear hcell hn hs hbx hB0 h
  go_enter Tryz.func76, Tryz.ntmps76
  go_upto_region 2 with (go_at_call 73; refine (HAt.out).mono ?_; rintro e w2 ⟨I, rfl, hI, hb2⟩; have HI := Lib.hid hI; have HB2 := Lib.hid (HB0.out.trans (hb2.mono HB0.out.size)); (obtain ⟨x0, x1⟩ := (HBx.out.below hb2 (by simp)).cells); clear hI hb2)
  rcases HI.out with ⟨j, hlL, rfl, h1, h2⟩ | ⟨rfl, h2⟩
  · obtain ⟨b, off, u, rfl, hb0, c0, c1, hit⟩ := HC.out j hlL
    have hlt : j < n := by rw [HN.out]; exact hlL
    have t1 : decide ((j : Int) < 0) = false := by simp
    have d1 := (HB2.out.cell (p := ⟨b, off + j * 2 + 1, none⟩) hb0).trans c1
    have HF := Lib.hid (findA_at j hlL h2 h1)
    have HIt := Lib.hid hit
    obtain ⟨ua, uc, hu, _⟩ := id hit
    obtain ⟨un, hun⟩ : ∃ k, k = L[j].2.length := ⟨_, rfl⟩
    rw [← hun] at hu
    subst hu
    clear h1 h2 HI c0 c1 hit hun
    go_wp2
    go_ret
    exact ⟨_, rfl, by rw [HF.out]; exact HIt.out, HB2.out⟩
  · have t1 : decide ((-1 : Int) < 0) = true := by decide
    have HF := Lib.hid (findA_no h2)
    clear h2 HI
    go_wp2
    go_ret
    exact ⟨_, rfl, by rw [HF.out]; exact isT_nil _ _ _ _, HB2.out⟩
end Go.Proofs.YtpnbcmblnplbgaaGreatDoor


namespace Go.Proofs.YtpnbcmblnplbgaaGreatDoor
set_option linter.unusedVariables false

theorem decFrom_snoc (b : UInt8) : ∀ (l : List UInt8) (acc : Nat), Lib.decFrom acc (l ++ [b]) = (Lib.decFrom acc l).bind fun n => (Lib.digitVal b).map fun d => n * 10 + d
  | [], acc => by
    simp only [List.nil_append, Lib.decFrom, Option.bind_some]
    cases Lib.digitVal b <;> rfl
  | c :: l, acc => by
    simp only [List.cons_append, Lib.decFrom]
    cases Lib.digitVal c with
    | none => rfl
    | some d => exact decFrom_snoc b l _
theorem dec_ne (u : Nat) : Lib.decDigits u ≠ [] := by
  intro e
  have := Lib.decDigits_length u
  have h2 := Lib.nDigits_pos u
  rw [e] at this
  simp at this
  omega
theorem dec_digits (u : Nat) : ∀ c ∈ Lib.decDigits u, 48 ≤ c.toNat ∧ c.toNat ≤ 57 := by
  induction u using Nat.strongRecOn with
  | _ u ih =>
    intro c hc
    by_cases h : u < 10
    · rw [Lib.decDigits_one h] at hc
      simp at hc
      subst hc
      simp; omega
    · rw [Lib.decDigits, dif_neg h] at hc
      rcases List.mem_append.1 hc with hc | hc
      · exact ih (u / 10) (by omega) c hc
      · simp at hc
        subst hc
        simp; omega
theorem dec_head (u : Nat) (h0 : 1 ≤ u) : ∀ c r, Lib.decDigits u = c :: r → c.toNat ≠ 48 := by
  induction u using Nat.strongRecOn with
  | _ u ih =>
    intro c r hc
    by_cases h : u < 10
    · rw [Lib.decDigits_one h] at hc
      simp at hc
      rw [← hc.1]
      simp; omega
    · rw [Lib.decDigits, dif_neg h] at hc
      cases hd : Lib.decDigits (u / 10) with
      | nil => exact absurd hd (dec_ne _)
      | cons x y =>
        rw [hd] at hc
        simp at hc
        rw [← hc.1]
        exact ih (u / 10) (by omega) (by omega) x y hd
theorem itoa_ne (v : Int) : Lib.itoa v ≠ [] := by
  unfold Lib.itoa
  split
  · simp
  · exact dec_ne _
theorem trim_neg (l : List UInt8) : Lib.trimPrefix (45 :: l) [45] = l := by simp [Lib.trimPrefix, Lib.hasPrefix]
theorem trim_not {c : UInt8} {l : List UInt8} (h : c ≠ 45) : Lib.trimPrefix (c :: l) [45] = c :: l := by
  simp [Lib.trimPrefix, Lib.hasPrefix]
  intro e
  exact absurd e.symm h
theorem trim_itoa (v : Int) : Lib.trimPrefix (Lib.itoa v) [45] = Lib.decDigits v.natAbs := by
  unfold Lib.itoa
  split
  · exact trim_neg _
  · rename_i h
    have e : v.toNat = v.natAbs := by omega
    rw [e]
    cases hd : Lib.decDigits v.natAbs with
    | nil => exact absurd hd (dec_ne _)
    | cons c r =>
      refine trim_not ?_
      intro ec
      have := dec_digits v.natAbs c (by rw [hd]; simp)
      rw [ec] at this
      simp at this
theorem numD_some {l : List UInt8} {v : Int} (h : numD l = some v) : l = Lib.itoa v ∧ v.natAbs < 1000000000000000 := by
  unfold numD at h
  split at h
  · rename_i h15
    cases hp : Lib.parseIntB 64 l with
    | ok u =>
      rw [hp] at h
      simp only [okN] at h
      split at h
      · rename_i he
        cases h
        refine ⟨he.symm, ?_⟩
        rw [← he, trim_itoa, Lib.decDigits_length] at h15
        have h1 := Lib.lt_pow_nDigits v.natAbs
        have h2 : 10 ^ Lib.nDigits v.natAbs ≤ 10 ^ 15 := Nat.pow_le_pow_right (by decide) h15
        have h3 : (10 : Nat) ^ 15 = 1000000000000000 := by decide
        omega
      · cases h
    | «syntax» => rw [hp] at h; cases h
    | range => rw [hp] at h; cases h
  · cases h
theorem numD_minus : numD [45, 48] = none ∧ numD [45] = none ∧ numD [] = none ∧ numD [49, 50, 51, 52, 53, 54, 55, 56, 57, 48, 49, 50, 51, 52, 53, 54] = none := by
  refine ⟨?_, ?_, ?_, by decide⟩
  · cases hn : numD [45, 48] with
    | none => rfl
    | some v =>
      have h := (numD_some hn).1
      unfold Lib.itoa at h
      split at h
      · simp at h
        exact absurd rfl (dec_head v.natAbs (by omega) 48 [] h.symm)
      · exact absurd rfl ((fun e => by have := dec_digits v.toNat 45 (by rw [← h]; simp); simp at this) : ¬ (45 = 45))
  · cases hn : numD [45] with
    | none => rfl
    | some v =>
      have h := (numD_some hn).1
      unfold Lib.itoa at h
      split at h
      · simp at h
        exact absurd h (dec_ne _)
      · have := dec_digits v.toNat 45 (by rw [← h]; simp); simp at this
  · cases hn : numD [] with
    | none => rfl
    | some v => exact absurd (numD_some hn).1.symm (itoa_ne v)
end Go.Proofs.YtpnbcmblnplbgaaGreatDoor


namespace Go.Proofs.YtpnbcmblnplbgaaGreatDoor
open Go.RowKit
set_option linter.unusedVariables false

theorem decFrom_digits : ∀ (l : List UInt8) (acc n : Nat), Lib.decFrom acc l = some n → ∀ c ∈ l, 48 ≤ c.toNat ∧ c.toNat ≤ 57
  | [], _, _, _, c, hc => absurd hc (by simp)
  | a :: l, acc, n, h, c, hc => by
    simp only [Lib.decFrom, Lib.digitVal] at h
    by_cases hd : 48 ≤ a.toNat ∧ a.toNat ≤ 57
    · rw [if_pos hd] at h
      rcases List.mem_cons.1 hc with rfl | hc
      · exact hd
      · exact decFrom_digits l _ n h c hc
    · rw [if_neg hd] at h; cases h
theorem numD_pos {l : List UInt8} {n : Nat} (h0 : l ≠ []) (hl : l.length ≤ 15) (h : Lib.decFrom 0 l = some n) : numD l = if Lib.itoa (n : Int) = l then some (n : Int) else none := by
  cases l with
  | nil => exact absurd rfl h0
  | cons c r =>
    have hc := decFrom_digits _ _ _ h c (by simp)
    have h45 : c ≠ 45 := by intro e; rw [e] at hc; simp at hc
    have h43 : c ≠ 43 := by intro e; rw [e] at hc; simp at hc
    have hat : Lib.atoi (c :: r) = some (n : Int) := by
      simp only [Lib.atoi]
      rw [if_neg (by simpa using h45), if_neg (by simpa using h43)]
      simp only [Lib.decNat, List.isEmpty_cons, Bool.false_eq_true, if_false, h, Option.map_some]
    unfold numD
    rw [trim_not h45, if_pos hl, Lib.parseIntB_64, Lib.atoiAll_short _ (by omega), hat]
    rfl
theorem numD_neg {l : List UInt8} {n : Nat} (h0 : l ≠ []) (hl : l.length ≤ 15) (h : Lib.decFrom 0 l = some n) : numD (45 :: l) = if Lib.itoa (-(n : Int)) = 45 :: l then some (-(n : Int)) else none := by
  have hat : Lib.atoi (45 :: l) = some (-(n : Int)) := by
    cases l with
    | nil => exact absurd rfl h0
    | cons c r => simp only [Lib.atoi, beq_self_eq_true, if_true, Lib.decNat, List.isEmpty_cons, Bool.false_eq_true, if_false, h, Option.map_some]
  unfold numD
  rw [trim_neg, if_pos hl, Lib.parseIntB_64, Lib.atoiAll_short _ (by simp; omega), hat]
  rfl
theorem numD_bad {l : List UInt8} {c : UInt8} (hc : c ∈ Lib.trimPrefix l [45]) (h : ¬ (48 ≤ c.toNat ∧ c.toNat ≤ 57)) : numD l = none := by
  cases hn : numD l with
  | none => rfl
  | some v =>
    have := (numD_some hn).1
    subst this
    rw [trim_itoa] at hc
    exact absurd (dec_digits _ c hc) h
theorem numD_long {l : List UInt8} (h : 15 < (Lib.trimPrefix l [45]).length) : numD l = none := by unfold numD; rw [if_neg (by omega)]

def BoxNm (w : World) (b : Nat) (x : Int) (ok : Bool) : Prop := w.heap[b]? = some (.cells #[.int .i64 x, .bool ok] 161 (0, 0))
theorem BoxNm.below {w w' : World} {b n : Nat} {x : Int} {ok : Bool} (h : BoxNm w b x ok) (hb : Below n w w') (hn : b < n) : BoxNm w' b x ok := (hb.block b hn).trans h
theorem BoxNm.cells {w : World} {b : Nat} {x : Int} {ok : Bool} (h : BoxNm w b x ok) : w.cell? ⟨b, 0, none⟩ = some (.int .i64 x) ∧ w.cell? ⟨b, 1, none⟩ = some (.bool ok) ∧ w.frozen? ⟨b, 0, none⟩ = false ∧ w.frozen? ⟨b, 1, none⟩ = false := by
  unfold BoxNm at h
  simp [World.cell?, World.frozen?, h]
theorem boxNm_new (w : World) (x : Int) (ok : Bool) : BoxNm (w.alloc (.cells #[.int .i64 x, .bool ok] 161)) w.heap.size x ok := heap_alloc_new w _
theorem BoxNm.store {w : World} {b : Nat} {x : Int} {ok : Bool} (h : BoxNm w b x ok) (x' : Int) (ok' : Bool) : BoxNm ((w.setCell ⟨b, 0, none⟩ (.int .i64 x')).setCell ⟨b, 1, none⟩ (.bool ok')) b x' ok' := by
  unfold BoxNm at h ⊢
  simp [World.setCell, Array.getElem?_modify, h]

def numR (o : Option Int) : Value := match o with
  | some v => .agg #[.int .i64 v, .bool true]
  | none => .agg #[.int .i64 0, .bool false]

set_option maxRecDepth 100000 in
set_option maxHeartbeats 8000000 in
theorem numberRef_any (s : ByteArray) (hs : s.size ≤ 281474976710656) (w : World) : Calls Tryz.prog 107 #[.string s] w fun e w' => e = .returned (numR (numD s.data.toList)) ∧ Below w.heap.size w w' := by
  have HBox := Lib.hid (boxNm_new w 0 false)
  obtain ⟨q0, q1, _, _⟩ := (HBox.out.store 0 false).cells
  by_cases h0 : s.data.toList = []
  · obtain ⟨e1, e2⟩ := bytes_nil h0
    have hz : s.size = 0 := by rw [← bytes_len, h0]; rfl
    have HNo := Lib.hid (show numD s.data.toList = none by rw [h0]; exact numD_minus.2.2.1)
    have t0 : ((s.size : Int) == 0) = true := by simp [hz]
    clear h0 hz
    go_enter Tryz.func107, Tryz.ntmps107
    go_wp2
    refine bodyPost_ret (v := .agg #[.int .i64 0, .bool false]) (by simp [results, Tryz.results107, go_sem]) rfl ⟨by rw [HNo.out]; rfl, ?_⟩
    first | exact (Below.refl _ _).alloc (Nat.le_refl _) _ | exact (((Below.refl _ _).alloc (Nat.le_refl _) _).setCell (Nat.le_refl _) _).setCell (Nat.le_refl _) _
  obtain ⟨e1, e2⟩ := bytes_some h0
  have hpos : 0 < s.size := by
    rw [← bytes_len]; exact List.length_pos_iff.2 h0
  obtain ⟨a, ha⟩ : ∃ a : UInt8, s[0] = a := ⟨_, rfl⟩
  have hl0 : s.data.toList = a :: s.data.toList.drop 1 := by
    have := List.drop_eq_getElem_cons (l := s.data.toList) (i := 0) (by rw [bytes_len]; exact hpos)
    rw [List.drop_zero] at this
    rw [← ha]
    exact this
  have hal := a.toNat_lt
  by_cases h45 : a.toNat = 45
  · have ea : a = 45 := UInt8.toNat_inj.1 h45
    have t0 : ((a.toNat : Int) == 45) = true := by simp [h45]
    have e45 : (45 : UInt8) :: s.data.toList.drop 1 = s.data.toList := by rw [← ea]; exact hl0.symm
    have htr : Lib.trimPrefix s.data.toList [45] = s.data.toList.drop 1 := by have := trim_neg (s.data.toList.drop 1); rw [e45] at this; exact this
    clear e45
    by_cases h1 : s.size = 1
    · have HNo := Lib.hid (show numD s.data.toList = none by
        have : s.data.toList.drop 1 = [] := List.drop_eq_nil_iff.2 (by rw [bytes_len]; omega)
        rw [hl0, this, ea]; exact numD_minus.2.1)
      have t4 : ((s.size : Int) == 1) = true := by simp [h1]
      clear hl0 htr h45 ea h0 h1
      go_enter Tryz.func107, Tryz.ntmps107
      go_wp2
      refine bodyPost_ret (v := .agg #[.int .i64 0, .bool false]) (by simp [results, Tryz.results107, go_sem]) rfl ⟨by rw [HNo.out]; rfl, ?_⟩
      first | exact (Below.refl _ _).alloc (Nat.le_refl _) _ | exact (((Below.refl _ _).alloc (Nat.le_refl _) _).setCell (Nat.le_refl _) _).setCell (Nat.le_refl _) _
    have t4 : ((s.size : Int) == 1) = false := by simp; omega
    by_cases h15 : 15 < s.size - 1
    · have HNo := Lib.hid (numD_long (l := s.data.toList) (by rw [htr, List.length_drop, bytes_len]; exact h15))
      have t6 : decide ((15 : Int) < (s.size : Int) - 1) = true := by simp; omega
      have t7 : decide ((16 : Int) < (s.size : Int)) = true := by simp; omega
      clear hl0 htr h45 ea h0 h1
      go_enter Tryz.func107, Tryz.ntmps107
      go_wp2
      refine bodyPost_ret (v := .agg #[.int .i64 0, .bool false]) (by simp [results, Tryz.results107, go_sem]) rfl ⟨by rw [HNo.out]; rfl, ?_⟩
      first | exact (Below.refl _ _).alloc (Nat.le_refl _) _ | exact (((Below.refl _ _).alloc (Nat.le_refl _) _).setCell (Nat.le_refl _) _).setCell (Nat.le_refl _) _
    have t6 : decide ((15 : Int) < (s.size : Int) - 1) = false := by simp; omega
    have t7 : decide ((16 : Int) < (s.size : Int)) = false := by simp; omega
    have hbad : ∀ c ∈ s.data.toList.drop 1, ¬ (48 ≤ c.toNat ∧ c.toNat ≤ 57) → numD s.data.toList = none := fun c hc hn => numD_bad (by rw [htr]; exact hc) hn
    have hval : ∀ m : Nat, Lib.decFrom 0 (s.data.toList.drop 1) = some m → numD s.data.toList = if Lib.itoa (-(m : Int)) = s.data.toList then some (-(m : Int)) else none := fun m hm => by
      have hne : s.data.toList.drop 1 ≠ [] := fun e => by have := congrArg List.length e; rw [List.length_drop, bytes_len] at this; simp at this; omega
      have := numD_neg hne (by rw [List.length_drop, bytes_len]; omega) hm
      have e : (45 : UInt8) :: s.data.toList.drop 1 = s.data.toList := by rw [← ea]; exact hl0.symm
      rw [e] at this
      exact this
    clear hl0 htr h45 ea h0 h1
    have HBad := Lib.hid hbad
    have HVal := Lib.hid hval
    clear hbad hval
    go_enter Tryz.func107, Tryz.ntmps107
    go_wp2
    go_loop [3, 5] (fun n i => ∃ (j m : Nat), 1 ≤ j ∧ j ≤ s.size ∧ i = .int .i64 j ∧ n = .int .i64 m ∧ Hid (Lib.decFrom 0 ((s.data.toList.drop 1).take (j - 1)) = some m) ∧ Hid (m < 10 ^ (j - 1))) (fun _ i => s.size - (intOf i).toNat)
    case atStart => exact ⟨1, 0, by omega, by omega, rfl, rfl, Lib.hid (by simp [Lib.decFrom]), Lib.hid (by simp)⟩
    case round =>
      obtain ⟨j, m, hj0, hj, rfl, rfl, HD, HM⟩ := hrel
      by_cases hlt : j < s.size
      · have t1 : decide ((j : Int) < (s.size : Int)) = true := by simp; omega
        have hm14 : m ≤ 99999999999999 := by
          have h1 := HM.out
          have h2 : 10 ^ (j - 1) ≤ 10 ^ 14 := Nat.pow_le_pow_right (by decide) (by omega)
          have h3 : (10 : Nat) ^ 14 = 100000000000000 := by decide
          omega
        obtain ⟨c, hc⟩ : ∃ c : UInt8, s[j] = c := ⟨_, rfl⟩
        have hcl := c.toNat_lt
        have hmem : c ∈ s.data.toList.drop 1 := by
          rw [← hc]
          have e : (s.data.toList.drop 1)[j - 1]'(by rw [List.length_drop, bytes_len]; omega) = s[j] := by
            rw [List.getElem_drop]
            have : 1 + (j - 1) = j := by omega
            simp only [this]
            rfl
          rw [← e]
          exact List.getElem_mem _
        by_cases h48 : c.toNat < 48
        · have t2 : decide ((c.toNat : Int) < 48) = true := by simp; omega
          have HNo := Lib.hid (HBad.out c hmem (by omega))
          clear hmem
          go_wp2
          refine bodyPost_ret (v := .agg #[.int .i64 0, .bool false]) (by simp [results, Tryz.results107, go_sem]) rfl ⟨by rw [HNo.out]; rfl, ?_⟩
          first | exact (Below.refl _ _).alloc (Nat.le_refl _) _ | exact (((Below.refl _ _).alloc (Nat.le_refl _) _).setCell (Nat.le_refl _) _).setCell (Nat.le_refl _) _
        have t2 : decide ((c.toNat : Int) < 48) = false := by simp; omega
        by_cases h57 : 57 < c.toNat
        · have t3 : decide ((57 : Int) < (c.toNat : Int)) = true := by simp; omega
          have HNo := Lib.hid (HBad.out c hmem (by omega))
          clear hmem
          go_wp2
          refine bodyPost_ret (v := .agg #[.int .i64 0, .bool false]) (by simp [results, Tryz.results107, go_sem]) rfl ⟨by rw [HNo.out]; rfl, ?_⟩
          first | exact (Below.refl _ _).alloc (Nat.le_refl _) _ | exact (((Below.refl _ _).alloc (Nat.le_refl _) _).setCell (Nat.le_refl _) _).setCell (Nat.le_refl _) _
        have t3 : decide ((57 : Int) < (c.toNat : Int)) = false := by simp; omega
        have hnew : Lib.decFrom 0 ((s.data.toList.drop 1).take (j + 1 - 1)) = some (m * 10 + (c.toNat - 48)) := by
          rw [show j + 1 - 1 = (j - 1) + 1 by omega, List.take_succ_eq_append_getElem (by rw [List.length_drop, bytes_len]; omega), decFrom_snoc, HD.out]
          have e : (s.data.toList.drop 1)[j - 1]'(by rw [List.length_drop, bytes_len]; omega) = c := by
            rw [← hc, List.getElem_drop]
            have : 1 + (j - 1) = j := by omega
            simp only [this]
            rfl
          rw [e]
          simp only [Option.bind_some, Lib.digitVal]
          rw [if_pos (by omega)]
          rfl
        have hpow : m * 10 + (c.toNat - 48) < 10 ^ (j + 1 - 1) := by
          rw [show j + 1 - 1 = (j - 1) + 1 by omega, Nat.pow_succ]
          have := HM.out
          omega
        have HNew := Lib.hid hnew
        have HPow := Lib.hid hpow
        clear hnew hpow hmem
        go_wp2
        go_round
        case rel => exact ⟨j + 1, m * 10 + (c.toNat - 48), by omega, by omega, by go_num, by (congr 1; omega), HNew, HPow⟩
        case measure => simp [intOf]; omega
      · obtain rfl : j = s.size := by omega
        have t1 : decide ((s.size : Int) < (s.size : Int)) = false := by simp
        have hd := HD.out
        rw [List.take_of_length_le (by rw [List.length_drop, bytes_len]; omega)] at hd
        have hm15 : m < 1000000000000000 := by
          have h1 := HM.out
          have h2 : 10 ^ (s.size - 1) ≤ 10 ^ 15 := Nat.pow_le_pow_right (by decide) (by omega)
          have h3 : (10 : Nat) ^ 15 = 1000000000000000 := by decide
          omega
        have hres := HVal.out m hd
        have hdg := fun w => digits_any (-(m : Int)) (by omega) (by omega) w
        obtain ⟨F, hF⟩ : ∃ F : ByteArray, F = ofL (Lib.itoa (-(m : Int))) := ⟨_, rfl⟩
        have hFl : Lib.itoa (-(m : Int)) = F.data.toList := by rw [hF, ofL_list]
        rw [← hF] at hdg
        rw [hFl] at hres
        have HDg := Lib.hid hdg
        clear hF hFl hdg hd HD HM
        by_cases he : F = s
        · have hr : numD s.data.toList = some (-(m : Int)) := by rw [hres, if_pos (by rw [he])]
          have HR := Lib.hid hr
          subst he
          clear hr hres
          go_wp2_with (go_at_call 18; refine (HDg.out _).mono ?_; rintro e w1 ⟨rfl, hb1⟩; have HB := Lib.hid hb1; have HX := Lib.hid (HBox.out.below hb1 (by simp)); obtain ⟨k0, k1, l0, l1⟩ := HX.out.cells; clear hb1)
          obtain ⟨q0, q1, _, _⟩ := (HX.out.store (-(m : Int)) true).cells
          refine bodyPost_ret (v := .agg #[.int .i64 (-(m : Int)), .bool true]) (by simp [results, Tryz.results107, go_sem, q0, q1]) rfl ⟨by rw [HR.out]; rfl, ?_⟩
          exact ((((Below.refl _ _).alloc (Nat.le_refl _) _).trans (HB.out.mono (by simp))).setCell (Nat.le_refl _) _).setCell (Nat.le_refl _) _
        · have hr : numD s.data.toList = none := by rw [hres, if_neg (fun e => he (bytes_ext e))]
          have HR := Lib.hid hr
          have t5 := str_ne he
          clear hr hres he
          go_wp2_with (go_at_call 18; refine (HDg.out _).mono ?_; rintro e w1 ⟨rfl, hb1⟩; have HB := Lib.hid hb1; have HX := Lib.hid (HBox.out.below hb1 (by simp)); obtain ⟨k0, k1, l0, l1⟩ := HX.out.cells; clear hb1)
          obtain ⟨q0, q1, _, _⟩ := (HX.out.store (0 : Int) false).cells
          refine bodyPost_ret (v := .agg #[.int .i64 0, .bool false]) (by simp [results, Tryz.results107, go_sem, q0, q1]) rfl ⟨by rw [HR.out]; rfl, ?_⟩
          exact ((((Below.refl _ _).alloc (Nat.le_refl _) _).trans (HB.out.mono (by simp))).setCell (Nat.le_refl _) _).setCell (Nat.le_refl _) _
  · have na : a ≠ 45 := fun e => h45 (by rw [e]; rfl)
    have t0 : ((a.toNat : Int) == 45) = false := by simp; omega
    have htr : Lib.trimPrefix s.data.toList [45] = s.data.toList := by rw [hl0]; exact trim_not na
    have t4 : ((s.size : Int) == 0) = false := by rw [beq_eq_false_iff_ne]; omega
    by_cases h15 : 15 < s.size
    · have HNo := Lib.hid (numD_long (l := s.data.toList) (by rw [htr, bytes_len]; exact h15))
      have t6 : decide ((15 : Int) < (s.size : Int)) = true := by simp; omega
      clear hl0 htr h45 na h0
      go_enter Tryz.func107, Tryz.ntmps107
      go_wp2
      refine bodyPost_ret (v := .agg #[.int .i64 0, .bool false]) (by simp [results, Tryz.results107, go_sem]) rfl ⟨by rw [HNo.out]; rfl, ?_⟩
      first | exact (Below.refl _ _).alloc (Nat.le_refl _) _ | exact (((Below.refl _ _).alloc (Nat.le_refl _) _).setCell (Nat.le_refl _) _).setCell (Nat.le_refl _) _
    have t6 : decide ((15 : Int) < (s.size : Int)) = false := by simp; omega
    have hbad : ∀ c ∈ s.data.toList.drop 0, ¬ (48 ≤ c.toNat ∧ c.toNat ≤ 57) → numD s.data.toList = none := fun c hc hn => numD_bad (by rw [htr]; exact hc) hn
    have hval : ∀ m : Nat, Lib.decFrom 0 (s.data.toList.drop 0) = some m → numD s.data.toList = if Lib.itoa (m : Int) = s.data.toList then some (m : Int) else none := fun m hm => numD_pos h0 (by rw [bytes_len]; omega) hm
    clear hl0 htr h45 na h0
    have HBad := Lib.hid hbad
    have HVal := Lib.hid hval
    clear hbad hval
    go_enter Tryz.func107, Tryz.ntmps107
    go_wp2
    go_loop [3, 5] (fun n i => ∃ (j m : Nat), 0 ≤ j ∧ j ≤ s.size ∧ i = .int .i64 j ∧ n = .int .i64 m ∧ Hid (Lib.decFrom 0 ((s.data.toList.drop 0).take (j - 0)) = some m) ∧ Hid (m < 10 ^ (j - 0))) (fun _ i => s.size - (intOf i).toNat)
    case atStart => exact ⟨0, 0, by omega, by omega, rfl, rfl, Lib.hid (by simp [Lib.decFrom]), Lib.hid (by simp)⟩
    case round =>
      obtain ⟨j, m, hj0, hj, rfl, rfl, HD, HM⟩ := hrel
      by_cases hlt : j < s.size
      · have t1 : decide ((j : Int) < (s.size : Int)) = true := by simp; omega
        have hm14 : m ≤ 99999999999999 := by
          have h1 := HM.out
          have h2 : 10 ^ (j - 0) ≤ 10 ^ 14 := Nat.pow_le_pow_right (by decide) (by omega)
          have h3 : (10 : Nat) ^ 14 = 100000000000000 := by decide
          omega
        obtain ⟨c, hc⟩ : ∃ c : UInt8, s[j] = c := ⟨_, rfl⟩
        have hcl := c.toNat_lt
        have hmem : c ∈ s.data.toList.drop 0 := by
          rw [← hc]
          have e : (s.data.toList.drop 0)[j - 0]'(by rw [List.length_drop, bytes_len]; omega) = s[j] := by
            rw [List.getElem_drop]
            have : 0 + (j - 0) = j := by omega
            simp only [this]
            rfl
          rw [← e]
          exact List.getElem_mem _
        by_cases h48 : c.toNat < 48
        · have t2 : decide ((c.toNat : Int) < 48) = true := by simp; omega
          have HNo := Lib.hid (HBad.out c hmem (by omega))
          clear hmem
          go_wp2
          refine bodyPost_ret (v := .agg #[.int .i64 0, .bool false]) (by simp [results, Tryz.results107, go_sem]) rfl ⟨by rw [HNo.out]; rfl, ?_⟩
          first | exact (Below.refl _ _).alloc (Nat.le_refl _) _ | exact (((Below.refl _ _).alloc (Nat.le_refl _) _).setCell (Nat.le_refl _) _).setCell (Nat.le_refl _) _
        have t2 : decide ((c.toNat : Int) < 48) = false := by simp; omega
        by_cases h57 : 57 < c.toNat
        · have t3 : decide ((57 : Int) < (c.toNat : Int)) = true := by simp; omega
          have HNo := Lib.hid (HBad.out c hmem (by omega))
          clear hmem
          go_wp2
          refine bodyPost_ret (v := .agg #[.int .i64 0, .bool false]) (by simp [results, Tryz.results107, go_sem]) rfl ⟨by rw [HNo.out]; rfl, ?_⟩
          first | exact (Below.refl _ _).alloc (Nat.le_refl _) _ | exact (((Below.refl _ _).alloc (Nat.le_refl _) _).setCell (Nat.le_refl _) _).setCell (Nat.le_refl _) _
        have t3 : decide ((57 : Int) < (c.toNat : Int)) = false := by simp; omega
        have hnew : Lib.decFrom 0 ((s.data.toList.drop 0).take (j + 1 - 0)) = some (m * 10 + (c.toNat - 48)) := by
          rw [show j + 1 - 0 = (j - 0) + 1 by omega, List.take_succ_eq_append_getElem (by rw [List.length_drop, bytes_len]; omega), decFrom_snoc, HD.out]
          have e : (s.data.toList.drop 0)[j - 0]'(by rw [List.length_drop, bytes_len]; omega) = c := by
            rw [← hc, List.getElem_drop]
            have : 0 + (j - 0) = j := by omega
            simp only [this]
            rfl
          rw [e]
          simp only [Option.bind_some, Lib.digitVal]
          rw [if_pos (by omega)]
          rfl
        have hpow : m * 10 + (c.toNat - 48) < 10 ^ (j + 1 - 0) := by
          rw [show j + 1 - 0 = (j - 0) + 1 by omega, Nat.pow_succ]
          have := HM.out
          omega
        have HNew := Lib.hid hnew
        have HPow := Lib.hid hpow
        clear hnew hpow hmem
        go_wp2
        go_round
        case rel => exact ⟨j + 1, m * 10 + (c.toNat - 48), by omega, by omega, by go_num, by (congr 1; omega), HNew, HPow⟩
        case measure => simp [intOf]; omega
      · obtain rfl : j = s.size := by omega
        have t1 : decide ((s.size : Int) < (s.size : Int)) = false := by simp
        have hd := HD.out
        rw [List.take_of_length_le (by rw [List.length_drop, bytes_len]; omega)] at hd
        have hm15 : m < 1000000000000000 := by
          have h1 := HM.out
          have h2 : 10 ^ (s.size - 0) ≤ 10 ^ 15 := Nat.pow_le_pow_right (by decide) (by omega)
          have h3 : (10 : Nat) ^ 15 = 1000000000000000 := by decide
          omega
        have hres := HVal.out m hd
        have hdg := fun w => digits_any ((m : Int)) (by omega) (by omega) w
        obtain ⟨F, hF⟩ : ∃ F : ByteArray, F = ofL (Lib.itoa ((m : Int))) := ⟨_, rfl⟩
        have hFl : Lib.itoa ((m : Int)) = F.data.toList := by rw [hF, ofL_list]
        rw [← hF] at hdg
        rw [hFl] at hres
        have HDg := Lib.hid hdg
        clear hF hFl hdg hd HD HM
        by_cases he : F = s
        · have hr : numD s.data.toList = some ((m : Int)) := by rw [hres, if_pos (by rw [he])]
          have HR := Lib.hid hr
          subst he
          clear hr hres
          go_wp2_with (go_at_call 18; refine (HDg.out _).mono ?_; rintro e w1 ⟨rfl, hb1⟩; have HB := Lib.hid hb1; have HX := Lib.hid (HBox.out.below hb1 (by simp)); obtain ⟨k0, k1, l0, l1⟩ := HX.out.cells; clear hb1)
          obtain ⟨q0, q1, _, _⟩ := (HX.out.store ((m : Int)) true).cells
          refine bodyPost_ret (v := .agg #[.int .i64 ((m : Int)), .bool true]) (by simp [results, Tryz.results107, go_sem, q0, q1]) rfl ⟨by rw [HR.out]; rfl, ?_⟩
          exact ((((Below.refl _ _).alloc (Nat.le_refl _) _).trans (HB.out.mono (by simp))).setCell (Nat.le_refl _) _).setCell (Nat.le_refl _) _
        · have hr : numD s.data.toList = none := by rw [hres, if_neg (fun e => he (bytes_ext e))]
          have HR := Lib.hid hr
          have t5 := str_ne he
          clear hr hres he
          go_wp2_with (go_at_call 18; refine (HDg.out _).mono ?_; rintro e w1 ⟨rfl, hb1⟩; have HB := Lib.hid hb1; have HX := Lib.hid (HBox.out.below hb1 (by simp)); obtain ⟨k0, k1, l0, l1⟩ := HX.out.cells; clear hb1)
          obtain ⟨q0, q1, _, _⟩ := (HX.out.store (0 : Int) false).cells
          refine bodyPost_ret (v := .agg #[.int .i64 0, .bool false]) (by simp [results, Tryz.results107, go_sem, q0, q1]) rfl ⟨by rw [HR.out]; rfl, ?_⟩
          exact ((((Below.refl _ _).alloc (Nat.le_refl _) _).trans (HB.out.mono (by simp))).setCell (Nat.le_refl _) _).setCell (Nat.le_refl _) _
end Go.Proofs.YtpnbcmblnplbgaaGreatDoor


namespace Go.Proofs.YtpnbcmblnplbgaaGreatDoor
open Go.RowKit
set_option linter.unusedVariables false

theorem field_num1 (w : World) (v : Int) (b : Bool) : (Instr.field 161 (.agg #[.int .i64 v, .bool b]) 1).run Tryz.prog w = .ok (.bool b) w := by kernel_rfl
theorem field_said1 (w : World) (s : ByteArray) (b : Bool) : (Instr.field 60 (.agg #[.string s, .bool b]) 1).run Tryz.prog w = .ok (.bool b) w := by kernel_rfl
def sB (o : Option (List UInt8)) : ByteArray := match o with
  | some x => ⟨x.toArray⟩
  | none => ⟨#[]⟩
theorem saidR_eq (o : Option (List UInt8)) : saidR o = .agg #[.string (sB o), .bool o.isSome] := by cases o <;> rfl
set_option maxRecDepth 100000 in
set_option maxHeartbeats 8000000 in
theorem normRef_any (t s : ByteArray) (ht : t.size ≤ 281474976710656) (w : World) :
    Calls Tryz.prog 74 #[.string t, .string s] w fun e w' => e = .returned (saidR (normD (ruleD t.data.toList) s.data.toList)) ∧ Below w.heap.size w w' := by
  have hr := fun w => ruleRef_any t ht w
  generalize ruleD t.data.toList = r at hr ⊢
  have HR := Lib.hid hr
  clear hr
  have HBox := Lib.hid (boxS_new w ⟨#[]⟩ false)
  obtain ⟨q0, q1, _, _⟩ := (HBox.out.store ⟨#[]⟩ false).cells
  by_cases h0 : s.data.toList = []
  · obtain ⟨e1, e2⟩ := bytes_nil h0
    have HV := Lib.hid (show normD r s.data.toList = none by unfold normD; rw [if_pos (.inl h0)])
    clear h0
    go_enter Tryz.func74, Tryz.ntmps74
    go_wp2
    refine bodyPost_ret (v := .agg #[.string ⟨#[]⟩, .bool false]) (by simp [results, Tryz.results74, go_sem]) rfl ⟨by rw [HV.out]; rfl, ?_⟩
    first | exact (Below.refl _ _).alloc (Nat.le_refl _) _ | exact (((Below.refl _ _).alloc (Nat.le_refl _) _).setCell (Nat.le_refl _) _).setCell (Nat.le_refl _) _
  obtain ⟨e1, e2⟩ := bytes_some h0
  by_cases h100 : 100 < s.size
  · have t1 : decide ((100 : Int) < (s.size : Int)) = true := by simp; omega
    have HV := Lib.hid (show normD r s.data.toList = none by unfold normD; rw [if_pos (.inr (by rw [bytes_len]; exact h100))])
    clear h0
    go_enter Tryz.func74, Tryz.ntmps74
    go_wp2
    refine bodyPost_ret (v := .agg #[.string ⟨#[]⟩, .bool false]) (by simp [results, Tryz.results74, go_sem]) rfl ⟨by rw [HV.out]; rfl, ?_⟩
    first | exact (Below.refl _ _).alloc (Nat.le_refl _) _ | exact (((Below.refl _ _).alloc (Nat.le_refl _) _).setCell (Nat.le_refl _) _).setCell (Nat.le_refl _) _
  have t1 : decide ((100 : Int) < (s.size : Int)) = false := by simp; omega
  have hd : normD r s.data.toList = if r = 1 then (if fold s.data.toList = [] then none else some (fold s.data.toList)) else if r = 2 then (if (numD s.data.toList).isSome then some s.data.toList else none)
      else if r = 3 then (match keyD s.data.toList with | some k => if k = [] then none else some k | none => none) else if r = 4 then some s.data.toList else none := by
    unfold normD; rw [if_neg (by rw [bytes_len]; rintro (h | h); exact h0 h; exact h100 h)]; rfl
  have HD := Lib.hid hd
  clear hd h0 q0 q1
  by_cases h1 : r = 1
  · subst h1
    have hf := fun w => foldRef_any s w (by omega)
    obtain ⟨F, hF⟩ : ∃ F : ByteArray, F = foldB s := ⟨_, rfl⟩
    have hFl : fold s.data.toList = F.data.toList := by rw [hF]; simp [foldB]
    rw [← hF] at hf
    have HF := Lib.hid hf
    have hD : normD 1 s.data.toList = (if fold s.data.toList = [] then none else some (fold s.data.toList)) := HD.out.trans (if_pos rfl)
    rw [hFl] at hD
    clear hf hF hFl HD
    by_cases hne : F.data.toList = []
    · obtain ⟨n1, n2⟩ := bytes_nil hne
      rw [if_pos hne] at hD
      have hFe : F = ⟨#[]⟩ := bytes_ext hne
      have HD := Lib.hid hD
      have HFe := Lib.hid hFe
      clear hD hFe hne
      go_enter Tryz.func74, Tryz.ntmps74
      go_wp2_with (first | (go_at_call 56; refine (HR.out _).mono ?_; rintro e w1 ⟨rfl, hb1⟩; have HB := Lib.hid (((Below.refl _ _).alloc (Nat.le_refl _) _).trans (hb1.mono (by simp))); have HX := Lib.hid (HBox.out.below hb1 (by simp)); have hz1 : w.heap.size < w1.heap.size := (by have := hb1.size; simp at this; omega); obtain ⟨k0, k1, l0, l1⟩ := HX.out.cells; clear hb1) | (go_at_call 35; refine (HF.out _).mono ?_; rintro e w2 ⟨rfl, hb2⟩; have HB := Lib.hid (bthen HB.out hb2); have HX := Lib.hid (HX.out.below hb2 hz1); obtain ⟨k0, k1, l0, l1⟩ := HX.out.cells; have hz2 : w.heap.size < w2.heap.size := (by have := hb2.size; omega); clear hb2))
      obtain ⟨q0, q1, _, _⟩ := (HX.out.store F false).cells
      refine bodyPost_ret (v := .agg #[.string F, .bool false]) (by simp [results, Tryz.results74, go_sem, q0, q1]) rfl ⟨by rw [HD.out, HFe.out]; rfl, ?_⟩
      exact (HB.out.setCell (Nat.le_refl _) _).setCell (Nat.le_refl _) _
    · obtain ⟨n1, n2⟩ := bytes_some hne
      rw [if_neg hne] at hD
      have HD := Lib.hid hD
      clear hD hne
      go_enter Tryz.func74, Tryz.ntmps74
      go_wp2_with (first | (go_at_call 56; refine (HR.out _).mono ?_; rintro e w1 ⟨rfl, hb1⟩; have HB := Lib.hid (((Below.refl _ _).alloc (Nat.le_refl _) _).trans (hb1.mono (by simp))); have HX := Lib.hid (HBox.out.below hb1 (by simp)); have hz1 : w.heap.size < w1.heap.size := (by have := hb1.size; simp at this; omega); obtain ⟨k0, k1, l0, l1⟩ := HX.out.cells; clear hb1) | (go_at_call 35; refine (HF.out _).mono ?_; rintro e w2 ⟨rfl, hb2⟩; have HB := Lib.hid (bthen HB.out hb2); have HX := Lib.hid (HX.out.below hb2 hz1); obtain ⟨k0, k1, l0, l1⟩ := HX.out.cells; have hz2 : w.heap.size < w2.heap.size := (by have := hb2.size; omega); clear hb2))
      obtain ⟨q0, q1, _, _⟩ := (HX.out.store F true).cells
      refine bodyPost_ret (v := .agg #[.string F, .bool true]) (by simp [results, Tryz.results74, go_sem, q0, q1]) rfl ⟨by rw [HD.out]; simp [saidR], ?_⟩
      exact (HB.out.setCell (Nat.le_refl _) _).setCell (Nat.le_refl _) _
  have u1 : ((r : Int) == 1) = false := by simp; omega
  by_cases h2 : r = 2
  · subst h2
    have hn := fun w => numberRef_any s (by omega) w
    have hD : normD 2 s.data.toList = (if (numD s.data.toList).isSome = true then some s.data.toList else none) := (HD.out.trans (if_neg (by decide))).trans (if_pos rfl)
    clear u1 h1 HD
    have hfl := field_num1
    cases hnum : numD s.data.toList with
    | none =>
      rw [hnum] at hD hn
      simp only [numR] at hn
      have HF := Lib.hid hn
      have HD := Lib.hid hD
      clear hD hnum hn
      go_enter Tryz.func74, Tryz.ntmps74
      go_wp2_with (first | (go_at_call 56; refine (HR.out _).mono ?_; rintro e w1 ⟨rfl, hb1⟩; have HB := Lib.hid (((Below.refl _ _).alloc (Nat.le_refl _) _).trans (hb1.mono (by simp))); have HX := Lib.hid (HBox.out.below hb1 (by simp)); have hz1 : w.heap.size < w1.heap.size := (by have := hb1.size; simp at this; omega); obtain ⟨k0, k1, l0, l1⟩ := HX.out.cells; clear hb1) | (go_at_call 107; refine (HF.out _).mono ?_; rintro e w2 ⟨rfl, hb2⟩; have HB := Lib.hid (bthen HB.out hb2); have HX := Lib.hid (HX.out.below hb2 hz1); obtain ⟨k0, k1, l0, l1⟩ := HX.out.cells; have hz2 : w.heap.size < w2.heap.size := (by have := hb2.size; omega); clear hb2))
      obtain ⟨q0, q1, _, _⟩ := (HX.out.store ⟨#[]⟩ false).cells
      refine bodyPost_ret (v := .agg #[.string ⟨#[]⟩, .bool false]) (by simp [results, Tryz.results74, go_sem, q0, q1]) rfl ⟨by rw [HD.out]; rfl, ?_⟩
      exact (HB.out.setCell (Nat.le_refl _) _).setCell (Nat.le_refl _) _
    | some v =>
      rw [hnum] at hD hn
      simp only [numR] at hn
      have HF := Lib.hid hn
      have HD := Lib.hid hD
      clear hD hnum hn
      go_enter Tryz.func74, Tryz.ntmps74
      go_wp2_with (first | (go_at_call 56; refine (HR.out _).mono ?_; rintro e w1 ⟨rfl, hb1⟩; have HB := Lib.hid (((Below.refl _ _).alloc (Nat.le_refl _) _).trans (hb1.mono (by simp))); have HX := Lib.hid (HBox.out.below hb1 (by simp)); have hz1 : w.heap.size < w1.heap.size := (by have := hb1.size; simp at this; omega); obtain ⟨k0, k1, l0, l1⟩ := HX.out.cells; clear hb1) | (go_at_call 107; refine (HF.out _).mono ?_; rintro e w2 ⟨rfl, hb2⟩; have HB := Lib.hid (bthen HB.out hb2); have HX := Lib.hid (HX.out.below hb2 hz1); obtain ⟨k0, k1, l0, l1⟩ := HX.out.cells; have hz2 : w.heap.size < w2.heap.size := (by have := hb2.size; omega); clear hb2))
      obtain ⟨q0, q1, _, _⟩ := (HX.out.store s true).cells
      refine bodyPost_ret (v := .agg #[.string s, .bool true]) (by simp [results, Tryz.results74, go_sem, q0, q1]) rfl ⟨by rw [HD.out]; simp [saidR], ?_⟩
      exact (HB.out.setCell (Nat.le_refl _) _).setCell (Nat.le_refl _) _
  have u2 : ((r : Int) == 2) = false := by simp; omega
  by_cases h3 : r = 3
  · subst h3
    have hk := fun w => keyRef_any s (by omega) w
    have hD : normD 3 s.data.toList = (match keyD s.data.toList with | some k => if k = [] then none else some k | none => none) := ((HD.out.trans (if_neg (by decide))).trans (if_neg (by decide))).trans (if_pos rfl)
    clear u1 u2 h1 h2 HD
    cases hkey : keyD s.data.toList with
    | none =>
      rw [hkey] at hD hk
      simp only [saidV] at hk
      have HF := Lib.hid hk
      have HD := Lib.hid hD
      clear hD hkey hk
      go_enter Tryz.func74, Tryz.ntmps74
      go_wp2_with (first | (go_at_call 56; refine (HR.out _).mono ?_; rintro e w1 ⟨rfl, hb1⟩; have HB := Lib.hid (((Below.refl _ _).alloc (Nat.le_refl _) _).trans (hb1.mono (by simp))); have HX := Lib.hid (HBox.out.below hb1 (by simp)); have hz1 : w.heap.size < w1.heap.size := (by have := hb1.size; simp at this; omega); obtain ⟨k0, k1, l0, l1⟩ := HX.out.cells; clear hb1) | (go_at_call 20; refine (HF.out _).mono ?_; rintro e w2 ⟨rfl, hb2⟩; have HB := Lib.hid (bthen HB.out hb2); have HX := Lib.hid (HX.out.below hb2 hz1); obtain ⟨k0, k1, l0, l1⟩ := HX.out.cells; have hz2 : w.heap.size < w2.heap.size := (by have := hb2.size; omega); clear hb2))
      obtain ⟨q0, q1, _, _⟩ := (HX.out.store ⟨#[]⟩ false).cells
      refine bodyPost_ret (v := .agg #[.string ⟨#[]⟩, .bool false]) (by simp [results, Tryz.results74, go_sem, q0, q1, hz2]) rfl ⟨by rw [HD.out]; rfl, ?_⟩
      exact ((HB.out.setCell (Nat.le_refl _) _).setCell (Nat.le_refl _) _).alloc (by have := HB.out.size; simp; omega) _
    | some k =>
      rw [hkey] at hD hk
      obtain ⟨K, hKB⟩ : ∃ K : ByteArray, K = ⟨k.toArray⟩ := ⟨_, rfl⟩
      have hKl : k = K.data.toList := by rw [hKB]
      simp only [saidV, ← hKB] at hk
      have HF := Lib.hid hk
      clear hk hkey hKB
      simp only at hD
      subst hKl
      by_cases hne : K.data.toList = []
      · obtain ⟨n1, n2⟩ := bytes_nil hne
        rw [if_pos hne] at hD
        have HD := Lib.hid hD
        clear hD hne
        go_enter Tryz.func74, Tryz.ntmps74
        go_wp2_with (first | (go_at_call 56; refine (HR.out _).mono ?_; rintro e w1 ⟨rfl, hb1⟩; have HB := Lib.hid (((Below.refl _ _).alloc (Nat.le_refl _) _).trans (hb1.mono (by simp))); have HX := Lib.hid (HBox.out.below hb1 (by simp)); have hz1 : w.heap.size < w1.heap.size := (by have := hb1.size; simp at this; omega); obtain ⟨k0, k1, l0, l1⟩ := HX.out.cells; clear hb1) | (go_at_call 20; refine (HF.out _).mono ?_; rintro e w2 ⟨rfl, hb2⟩; have HB := Lib.hid (bthen HB.out hb2); have HX := Lib.hid (HX.out.below hb2 hz1); obtain ⟨k0, k1, l0, l1⟩ := HX.out.cells; have hz2 : w.heap.size < w2.heap.size := (by have := hb2.size; omega); clear hb2))
        obtain ⟨q0, q1, _, _⟩ := (HX.out.store ⟨#[]⟩ false).cells
        refine bodyPost_ret (v := .agg #[.string ⟨#[]⟩, .bool false]) (by simp [results, Tryz.results74, go_sem, q0, q1, hz2]) rfl ⟨by rw [HD.out]; rfl, ?_⟩
        exact ((HB.out.setCell (Nat.le_refl _) _).setCell (Nat.le_refl _) _).alloc (by have := HB.out.size; simp; omega) _
      · obtain ⟨n1, n2⟩ := bytes_some hne
        rw [if_neg hne] at hD
        have HD := Lib.hid hD
        clear hD hne
        go_enter Tryz.func74, Tryz.ntmps74
        go_wp2_with (first | (go_at_call 56; refine (HR.out _).mono ?_; rintro e w1 ⟨rfl, hb1⟩; have HB := Lib.hid (((Below.refl _ _).alloc (Nat.le_refl _) _).trans (hb1.mono (by simp))); have HX := Lib.hid (HBox.out.below hb1 (by simp)); have hz1 : w.heap.size < w1.heap.size := (by have := hb1.size; simp at this; omega); obtain ⟨k0, k1, l0, l1⟩ := HX.out.cells; clear hb1) | (go_at_call 20; refine (HF.out _).mono ?_; rintro e w2 ⟨rfl, hb2⟩; have HB := Lib.hid (bthen HB.out hb2); have HX := Lib.hid (HX.out.below hb2 hz1); obtain ⟨k0, k1, l0, l1⟩ := HX.out.cells; have hz2 : w.heap.size < w2.heap.size := (by have := hb2.size; omega); clear hb2))
        obtain ⟨q0, q1, _, _⟩ := (HX.out.store K true).cells
        refine bodyPost_ret (v := .agg #[.string K, .bool true]) (by simp [results, Tryz.results74, go_sem, q0, q1, hz2]) rfl ⟨by rw [HD.out]; simp [saidR], ?_⟩
        exact ((HB.out.setCell (Nat.le_refl _) _).setCell (Nat.le_refl _) _).alloc (by have := HB.out.size; simp; omega) _
  have u3 : ((r : Int) == 3) = false := by simp; omega
  have hD := HD.out
  rw [if_neg h1, if_neg h2, if_neg h3] at hD
  by_cases h4 : r = 4
  · subst h4
    rw [if_pos rfl] at hD
    have HD := Lib.hid hD
    clear hD u1 u2 u3 h1 h2 h3
    go_enter Tryz.func74, Tryz.ntmps74
    go_wp2_with (go_at_call 56; refine (HR.out _).mono ?_; rintro e w1 ⟨rfl, hb1⟩; have HB := Lib.hid (((Below.refl _ _).alloc (Nat.le_refl _) _).trans (hb1.mono (by simp))); have HX := Lib.hid (HBox.out.below hb1 (by simp)); have hz1 : w.heap.size < w1.heap.size := (by have := hb1.size; simp at this; omega); obtain ⟨k0, k1, l0, l1⟩ := HX.out.cells; clear hb1)
    obtain ⟨q0, q1, _, _⟩ := (HX.out.store s true).cells
    refine bodyPost_ret (v := .agg #[.string s, .bool true]) (by simp [results, Tryz.results74, go_sem, q0, q1]) rfl ⟨by rw [HD.out]; simp [saidR], ?_⟩
    exact (HB.out.setCell (Nat.le_refl _) _).setCell (Nat.le_refl _) _
  · rw [if_neg h4] at hD
    have u4 : ((r : Int) == 4) = false := by simp; omega
    have HD := Lib.hid hD
    clear hD h1 h2 h3 h4
    go_enter Tryz.func74, Tryz.ntmps74
    go_wp2_with (go_at_call 56; refine (HR.out _).mono ?_; rintro e w1 ⟨rfl, hb1⟩; have HB := Lib.hid (((Below.refl _ _).alloc (Nat.le_refl _) _).trans (hb1.mono (by simp))); have HX := Lib.hid (HBox.out.below hb1 (by simp)); have hz1 : w.heap.size < w1.heap.size := (by have := hb1.size; simp at this; omega); obtain ⟨k0, k1, l0, l1⟩ := HX.out.cells; clear hb1)
    obtain ⟨q0, q1, _, _⟩ := (HX.out.store ⟨#[]⟩ false).cells
    refine bodyPost_ret (v := .agg #[.string ⟨#[]⟩, .bool false]) (by simp [results, Tryz.results74, go_sem, q0, q1]) rfl ⟨by rw [HD.out]; rfl, ?_⟩
    exact (HB.out.setCell (Nat.le_refl _) _).setCell (Nat.le_refl _) _
end Go.Proofs.YtpnbcmblnplbgaaGreatDoor


namespace Go.Proofs.YtpnbcmblnplbgaaGreatDoor
open Go.RowKit
set_option linter.unusedVariables false

theorem normR_at (T s : ByteArray) (hT : T.size ≤ 281474976710656) (r : Nat) (hr : ruleD T.data.toList = r) (o : Option (List UInt8)) (h : normD r s.data.toList = o) (w : World) :
    Calls Tryz.prog 74 #[.string T, .string s] w fun e w' => e = .returned (.agg #[.string (sB o), .bool o.isSome]) ∧ Below w.heap.size w w' := by
  have := normRef_any T s hT w
  rw [hr, h, saidR_eq] at this
  exact this

set_option maxRecDepth 100000 in
set_option maxHeartbeats 8000000 in
theorem sameVal_any (t a b : ByteArray) (ht : t.size ≤ 281474976710656) (w : World) :
    Calls Tryz.prog 75 #[.string t, .string a, .string b] w fun e w' => e = .returned (.bool (sameO (normD (ruleD t.data.toList) a.data.toList) (normD (ruleD t.data.toList) b.data.toList))) ∧ Below w.heap.size w w' := by
  obtain ⟨r, hr⟩ : ∃ r, ruleD t.data.toList = r := ⟨_, rfl⟩
  obtain ⟨p, hp⟩ : ∃ p, normD r a.data.toList = p := ⟨_, rfl⟩
  obtain ⟨q, hq⟩ : ∃ q, normD r b.data.toList = q := ⟨_, rfl⟩
  have ha := fun w => normR_at t a ht r hr p hp w
  have hb := fun w => normR_at t b ht r hr q hq w
  rw [hr, hp, hq]
  have hs : sameO p q = ((p.isSome && q.isSome) && ((sB p).toList == (sB q).toList)) := by
    cases p <;> cases q <;> simp [sameO, sB, ByteArray.toList_eq]
  rw [hs]
  clear hs hr hp hq
  generalize sB p = X at ha ⊢
  generalize sB q = Y at hb ⊢
  generalize p.isSome = u at ha ⊢
  generalize q.isSome = v at hb ⊢
  have HA := Lib.hid ha
  have HQ := Lib.hid hb
  have tok : True := trivial
  clear ha hb
  go_enter Tryz.func75, Tryz.ntmps75
  go_wp2_with (go_at_call 74; first | (have _t := tok; (with_reducible refine (HA.out _).mono ?_); rintro e w1 ⟨rfl, hb1⟩; have HB := Lib.hid hb1; clear hb1 tok) | ((with_reducible refine (HQ.out _).mono ?_); rintro e w2 ⟨rfl, hb2⟩; have HB := Lib.hid (bthen HB.out hb2); clear hb2))
  all_goals
    go_ret
    exact ⟨by simp_all, (HB.out.alloc HB.out.size _).alloc (by have := HB.out.size; simp; omega) _⟩

def TwoAt (W : World) (b : Nat) (x y : Value) (w : World) : Prop := w.cell? ⟨b, 0, none⟩ = some x ∧ w.cell? ⟨b + 1, 0, none⟩ = some y ∧ b + 1 < W.heap.size ∧ Below W.heap.size W w
theorem TwoAt.go {W w w1 : World} {b : Nat} {x y : Value} (h : TwoAt W b x y w) (hb : Below w.heap.size w w1) : w1.cell? ⟨b, 0, none⟩ = some x ∧ w1.cell? ⟨b + 1, 0, none⟩ = some y ∧ TwoAt W b x y w1 := by
  obtain ⟨h1, h2, h3, h4⟩ := h
  have hs := h4.size
  have c1 := (hb.cell (p := ⟨b, 0, none⟩) (by show b < _; omega)).trans h1
  have c2 := (hb.cell (p := ⟨b + 1, 0, none⟩) (by show b + 1 < _; omega)).trans h2
  exact ⟨c1, c2, c1, c2, h3, h4.trans (hb.mono hs)⟩

end Go.Proofs.YtpnbcmblnplbgaaGreatDoor


namespace Go.Proofs.YtpnbcmblnplbgaaGreatDoor
open Go.RowKit
set_option linter.unusedVariables false

set_option maxRecDepth 100000 in
set_option maxHeartbeats 4000000 in
theorem hasRef_any (D t x : ByteArray) (ht : t.size ≤ 281474976710656) (L : List AT) (hs : smallA L) (v : Value) (w : World) (h : IsA w.heap.size w L v) :
    Calls Tryz.prog 51 #[.agg #[.string D, v], .string t, .string x] w fun e w' => e = .returned (.bool ((findA L t.data.toList).any fun y => sameO (normD (ruleD t.data.toList) y) (normD (ruleD t.data.toList) x.data.toList))) ∧ Below w.heap.size w w' := by
  obtain ⟨a, c, hv, hm, _⟩ := id h
  obtain ⟨n, hn⟩ : ∃ n, n = L.length := ⟨_, rfl⟩
  rw [← hn] at hv
  subst hv
  have hbx := boxN_new w D (.slice a n c)
  have hB0 : Below w.heap.size w (w.alloc (.cells #[.string D, .slice a n c] 27)) := (Below.refl _ _).alloc (Nat.le_refl _) _
  have hva := valsRef_any D t ht L hs (.slice a n c) (w.alloc (.cells #[.string D, .slice a n c] 27)) (h.below hB0 hB0.size)
  obtain ⟨V, hV⟩ : ∃ V, V = findA L t.data.toList := ⟨_, rfl⟩
  rw [← hV] at hva ⊢
  obtain ⟨R, hR⟩ : ∃ R, R = V.any fun y => sameO (normD (ruleD t.data.toList) y) (normD (ruleD t.data.toList) x.data.toList) := ⟨_, rfl⟩
  rw [← hR]
  obtain ⟨m, hml⟩ : ∃ m, m = V.length := ⟨_, rfl⟩
  have HVa := Lib.hid hva
  have HR := Lib.hid hR
  have HMl := Lib.hid hml
  have HB0 := Lib.hid hB0
  have HSv := Lib.hid (fun Y W => sameVal_any t Y x ht W)
  clear hva hR hV hn hB0 h hbx hs hml
  go_enter Tryz.func51, Tryz.ntmps51
  go_wp2_with (go_at_call 76; refine (HVa.out).mono ?_; rintro e w2 ⟨u, rfl, hit, hb2⟩; (obtain ⟨ua, uc, hu, hum, huc⟩ := hit); (rw [← HMl.out] at hu hum); subst hu; have HUc := Lib.hid huc; have HB2 := Lib.hid (HB0.out.trans (hb2.mono HB0.out.size)); have HB3 := Lib.hid hb2; clear hb2 huc)
  unfold maxLen at hum
  go_loopw [8] (fun i wr => ∃ j : Nat, j ≤ m ∧ i = .int .i64 j ∧ Hid (∀ k (hk : k < V.length), k < j → sameO (normD (ruleD t.data.toList) V[k]) (normD (ruleD t.data.toList) x.data.toList) = false) ∧ Below w2.heap.size w2 wr) (fun i wr => m - (intOf i).toNat)
  case atStart => exact ⟨0, by omega, rfl, Lib.hid (fun k _ h => absurd h (by omega)), Below.refl _ _⟩
  case round =>
    obtain ⟨j, hj, rfl, HNo, hbel⟩ := hrel
    have HBr := Lib.hid hbel
    by_cases hlt : j < m
    · have t1 : decide ((j : Int) < (m : Int)) = true := by simp; omega
      have t1' : decide (j < m) = true := by simpa using hlt
      have hjV : j < V.length := by rw [← HMl.out]; exact hlt
      obtain ⟨b, off, rfl, hb0, c0⟩ := HUc.out j hjV
      obtain ⟨X, hX⟩ : ∃ X : ByteArray, ⟨V[j].toArray⟩ = X := ⟨_, rfl⟩
      have hXl : X.data.toList = V[j] := by rw [← hX]
      have d0 : (wr.cell? ⟨b, off + j, none⟩) = some (.string X) := by
        rw [hbel.cell (p := ⟨b, _, none⟩) (Nat.lt_of_lt_of_le hb0 HB3.out.size), HB3.out.cell (p := ⟨b, _, none⟩) hb0, c0, ← hX]; rfl
      have hsv := fun W => HSv.out X W
      rw [hXl] at hsv
      cases hq : sameO (normD (ruleD t.data.toList) V[j]) (normD (ruleD t.data.toList) x.data.toList) with
      | true =>
        rw [hq] at hsv
        have HS := Lib.hid hsv
        have HRt : Hid (R = true) := Lib.hid (by rw [HR.out, List.any_eq_true]; exact ⟨V[j], List.getElem_mem _, hq⟩)
        clear hsv hq hX hXl c0 hbel HNo
        go_wp2_with (go_at_call 75; refine (HS.out _).mono ?_; rintro e w3 ⟨rfl, hb3⟩; have HB4 := Lib.hid (bthen HBr.out hb3); clear hb3)
        go_ret
        exact ⟨by rw [HRt.out]; rfl, HB2.out.trans (HB4.out.mono HB2.out.size)⟩
      | false =>
        rw [hq] at hsv
        have HS := Lib.hid hsv
        have HN2 : Hid (∀ k (hk : k < V.length), k < j + 1 → sameO (normD (ruleD t.data.toList) V[k]) (normD (ruleD t.data.toList) x.data.toList) = false) := Lib.hid (fun k h1 h3 => by
          by_cases hk : k < j
          · exact HNo.out k h1 hk
          · obtain rfl : k = j := by omega
            exact hq)
        clear hsv hq hX hXl c0 hbel HNo
        go_wp2_with (go_at_call 75; refine (HS.out _).mono ?_; rintro e w3 ⟨rfl, hb3⟩; have HB4 := Lib.hid (bthen HBr.out hb3); clear hb3)
        go_roundw
        case rel => exact ⟨j + 1, by omega, by go_num, HN2, HB4.out⟩
        case measure => simp [intOf]; omega
    · obtain rfl : j = m := by omega
      have t1 : decide ((j : Int) < (j : Int)) = false := by simp
      have t1' : decide (j < j) = false := by simp
      have HRf : Hid (R = false) := Lib.hid (by
        rw [HR.out, List.any_eq_false]
        intro y hy
        obtain ⟨k, hk, rfl⟩ := List.getElem_of_mem hy
        rw [HNo.out k hk (by rw [HMl.out]; exact hk)]
        simp)
      go_wp2
      go_ret
      exact ⟨by rw [HRf.out]; rfl, HB2.out.trans (HBr.out.mono HB2.out.size)⟩
end Go.Proofs.YtpnbcmblnplbgaaGreatDoor


namespace Go.Proofs.YtpnbcmblnplbgaaGreatDoor
open Go.RowKit
set_option linter.unusedVariables false

def canL (L : List AT) : List AT := L.map fun a => (low a.1, a.2)

theorem hasS_iff {A : List AT} (hne : ∀ a ∈ A, a.2 ≠ []) (t : List UInt8) : hasS A t = true ↔ ∃ a ∈ A, a.1 = t := by
  unfold hasS valsS
  simp only [decide_eq_true_eq]
  cases e : A.find? (fun a => a.1 == t) with
  | none =>
    rw [List.find?_eq_none] at e
    constructor
    · intro h; simp at h
    · rintro ⟨a, ha, rfl⟩; exact absurd (e a ha) (by simp)
  | some a =>
    have h1 := List.mem_of_find?_eq_some e
    have h2 := List.find?_some e
    constructor
    · intro _; exact ⟨a, h1, by simpa using h2⟩
    · intro _; exact List.length_pos_iff.2 (hne a h1)

def SndAt (L : List AT) (j : Nat) : Prop := soundR [] L = soundR (canL (L.take j)) (L.drop j) ∧ ∀ k (h : k < L.length), k < j → ruleD L[k].1 ≠ 0 ∧ L[k].2 ≠ []
theorem snd_zero (L : List AT) : SndAt L 0 := ⟨by simp [canL], fun k _ h => absurd h (by omega)⟩
theorem canon_some {t : List UInt8} (h : ruleD t ≠ 0) : canonD t = some (low t) := by
  cases e : canonD t with
  | none => exact absurd ((canon_rule t).1 e) h
  | some c => rw [(canon_eq e).1]
theorem can_mem {L : List AT} {j : Nat} {a : AT} (h : a ∈ canL (L.take j)) : ∃ k, ∃ hk : k < L.length, k < j ∧ a = (low L[k].1, L[k].2) := by
  unfold canL at h
  obtain ⟨x, hx, rfl⟩ := List.mem_map.1 h
  obtain ⟨i, hi, rfl⟩ := List.mem_take_iff_getElem.1 hx
  exact ⟨i, by omega, by omega, rfl⟩
theorem mem_can {L : List AT} {j k : Nat} (hk : k < L.length) (h : k < j) : (low L[k].1, L[k].2) ∈ canL (L.take j) :=
  List.mem_map.2 ⟨L[k], List.mem_take_iff_getElem.2 ⟨k, by omega, rfl⟩, rfl⟩
theorem snd_ne {L : List AT} {j : Nat} (h : SndAt L j) : ∀ a ∈ canL (L.take j), a.2 ≠ [] := by
  intro a ha
  obtain ⟨k, hk, hj, rfl⟩ := can_mem ha
  exact (h.2 k hk hj).2
theorem snd_rule {L : List AT} {j : Nat} (h : SndAt L j) (hj : j < L.length) (hr : ruleD L[j].1 = 0) : soundR [] L = .error 17 := by
  rw [h.1, List.drop_eq_getElem_cons hj]
  simp only [soundR, (canon_rule _).2 hr]
theorem snd_has {L : List AT} {j : Nat} (h : SndAt L j) (hj : j < L.length) (hr : ruleD L[j].1 ≠ 0) {k : Nat} (hk : k < L.length) (hkj : k < j) (he : low L[k].1 = low L[j].1) : soundR [] L = .error 20 := by
  rw [h.1, List.drop_eq_getElem_cons hj]
  simp only [soundR, canon_some hr]
  rw [if_pos ((hasS_iff (snd_ne h) _).2 ⟨_, mem_can hk hkj, he⟩)]
theorem snd_vals {L : List AT} {j : Nat} (h : SndAt L j) (hj : j < L.length) (hr : ruleD L[j].1 ≠ 0) (hno : ∀ k (hk : k < L.length), k < j → low L[k].1 ≠ low L[j].1) :
    soundR [] L = if valsC (low L[j].1) L[j].2 = 0 then soundR (canL (L.take (j + 1))) (L.drop (j + 1)) else .error (valsC (low L[j].1) L[j].2) := by
  have hf : ¬ hasS (canL (L.take j)) (low L[j].1) = true := fun e => by
    obtain ⟨a, ha, he⟩ := (hasS_iff (snd_ne h) _).1 e
    obtain ⟨k, hk, hkj, rfl⟩ := can_mem ha
    exact hno k hk hkj he
  have ht : canL (L.take (j + 1)) = canL (L.take j) ++ [(low L[j].1, L[j].2)] := by
    unfold canL
    rw [← List.take_append_getElem hj, List.map_append]
    rfl
  rw [h.1, List.drop_eq_getElem_cons hj, ht]
  simp only [soundR, canon_some hr]
  rw [if_neg hf]
theorem snd_bad {L : List AT} {j : Nat} (h : SndAt L j) (hj : j < L.length) (hr : ruleD L[j].1 ≠ 0) (hno : ∀ k (hk : k < L.length), k < j → low L[k].1 ≠ low L[j].1) {c : Int} (hv : valsC (low L[j].1) L[j].2 = c) (hc : c ≠ 0) : soundR [] L = .error c := by
  rw [snd_vals h hj hr hno, hv, if_neg hc]
theorem snd_more {L : List AT} {j : Nat} (h : SndAt L j) (hj : j < L.length) (hr : ruleD L[j].1 ≠ 0) (hno : ∀ k (hk : k < L.length), k < j → low L[k].1 ≠ low L[j].1) (hv : valsC (low L[j].1) L[j].2 = 0) : SndAt L (j + 1) := by
  refine ⟨by rw [snd_vals h hj hr hno, if_pos hv], fun k hk hkj => ?_⟩
  by_cases e : k < j
  · exact h.2 k hk e
  · obtain rfl : k = j := by omega
    refine ⟨hr, fun e2 => ?_⟩
    unfold valsC at hv
    rw [if_pos (.inl (by rw [e2]; rfl))] at hv
    cases hv
theorem snd_end {L : List AT} (h : SndAt L L.length) : soundR [] L = .ok (canL L) := by
  rw [h.1, List.take_length, List.drop_length]
  rfl

theorem rule_two (t : List UInt8) : ruleD t = 2 ↔ low t = [117, 105, 100, 110, 117, 109, 98, 101, 114] := by
  constructor
  · intro h
    unfold ruleD ruleL at h
    cases e : findL (low t) with
    | none => rw [e] at h; cases h
    | some k =>
      rw [e] at h
      simp only at h
      have h1 := findL_len e
      have h2 := List.mem_of_find?_eq_some e
      have hall : (kindsL.all fun k => decide (k.2 = 2 → k.1 = [117, 105, 100, 110, 117, 109, 98, 101, 114])) = true := by decide
      have h3 := List.all_eq_true.1 hall k h2
      simp only [decide_eq_true_eq] at h3
      rw [← h1.1, h3 h]
  · intro h
    unfold ruleD
    rw [h]
    decide
def cntBad (r n : Nat) : Prop := n = 0 ∨ 40 < n ∨ (r = 2 ∧ 1 < n)
theorem cnt_iff (t : List UInt8) (n : Nat) : (n = 0 ∨ mostS (low t) < (n : Int)) ↔ cntBad (ruleD t) n := by
  unfold mostS cntBad
  by_cases h : ruleD t = 2
  · rw [if_pos ((rule_two t).1 h)]
    omega
  · rw [if_neg (fun e => h ((rule_two t).2 e))]
    omega
theorem vals_many {t : List UInt8} {V : List (List UInt8)} (h : cntBad (ruleD t) V.length) : valsC (low t) V = 19 := by
  unfold valsC
  rw [if_pos ((cnt_iff t _).2 h)]
theorem norms_none {r : Nat} : ∀ {V : List (List UInt8)} (k : Nat) (hk : k < V.length), normD r V[k] = none → normsS r V = none
  | v :: V, 0, _, h => by simp only [normsS]; rw [show normD r v = none from h]
  | v :: V, k + 1, hk, h => by
    simp only [normsS]
    cases normD r v with
    | none => rfl
    | some x => simp only; rw [norms_none k (by simpa using hk) h]; rfl
theorem norms_all {r : Nat} : ∀ {V : List (List UInt8)}, (∀ k (hk : k < V.length), normD r V[k] ≠ none) → ∃ l, normsS r V = some l ∧ l.length = V.length ∧ ∀ k (h : k < V.length) (h' : k < l.length), normD r V[k] = some l[k]
  | [], _ => ⟨[], rfl, rfl, fun k h => absurd h (by simp)⟩
  | v :: V, h => by
    obtain ⟨l, h1, h2, h3⟩ := norms_all (V := V) (fun k hk => h (k + 1) (by simpa using hk))
    have h0 := h 0 (by simp)
    simp only [List.getElem_cons_zero] at h0
    cases e : normD r v with
    | none => exact absurd e h0
    | some x =>
      refine ⟨x :: l, by simp only [normsS]; rw [e, h1]; rfl, by simp [h2], fun k hk hk' => ?_⟩
      cases k with
      | zero => exact e
      | succ k => exact h3 k (by simpa using hk) (by simpa using hk')
theorem vals_no {t : List UInt8} {V : List (List UInt8)} (h : ¬ cntBad (ruleD t) V.length) {k : Nat} (hk : k < V.length) (hn : normD (ruleD t) V[k] = none) : valsC (low t) V = 21 := by
  unfold valsC
  rw [if_neg (fun e => h ((cnt_iff t _).1 e)), ruleD_low, norms_none k hk hn]
theorem vals_dup {t : List UInt8} {V : List (List UInt8)} (h : ¬ cntBad (ruleD t) V.length) (ha : ∀ k (hk : k < V.length), normD (ruleD t) V[k] ≠ none) {j k : Nat} (hk : k < V.length) (hj : j < k) (hs : sameO (normD (ruleD t) V[j]) (normD (ruleD t) V[k]) = true) : valsC (low t) V = 20 := by
  obtain ⟨l, h1, h2, h3⟩ := norms_all ha
  unfold valsC
  rw [if_neg (fun e => h ((cnt_iff t _).1 e)), ruleD_low, h1]
  simp only
  rw [if_neg]
  intro hn
  rw [h3 j (by omega) (by omega), h3 k hk (by omega)] at hs
  have e : l[j] = l[k] := by simpa [sameO] using hs
  exact List.pairwise_iff_getElem.1 hn j k (by omega) (by omega) hj e
theorem vals_ok {t : List UInt8} {V : List (List UInt8)} (h : ¬ cntBad (ruleD t) V.length) (ha : ∀ k (hk : k < V.length), normD (ruleD t) V[k] ≠ none) (hno : ∀ k (hk : k < V.length) j (hj : j < k), sameO (normD (ruleD t) V[j]) (normD (ruleD t) V[k]) = false) : valsC (low t) V = 0 := by
  obtain ⟨l, h1, h2, h3⟩ := norms_all ha
  unfold valsC
  rw [if_neg (fun e => h ((cnt_iff t _).1 e)), ruleD_low, h1]
  simp only
  rw [if_pos]
  refine List.pairwise_iff_getElem.2 fun j k hj hk hjk e => ?_
  have := hno k (by omega) j hjk
  rw [h3 j (by omega) hj, h3 k (by omega) hk] at this
  simp [sameO, e] at this

def mustA (A : List CT) : List (List UInt8) := A.flatMap CT.mustL
def mayA (A : List CT) : List (List UInt8) := A.flatMap CT.mayL
theorem chainD_mem : ∀ (k : Nat) (n : List UInt8) (c : CT), c ∈ chainC k n → c ∈ classL
  | 0, n, c, h => by simp [chainC] at h
  | k + 1, n, c, h => by
    simp only [chainC] at h
    cases e : findC n with
    | none => rw [e] at h; simp at h
    | some d =>
      rw [e] at h
      rcases List.mem_cons.1 h with rfl | h
      · exact (findC_mem e).1
      · exact chainD_mem k _ c h
theorem all_mem : ∀ {V : List (List UInt8)} {A : List CT} {s : Bool}, allC V = some (A, s) → ∀ c ∈ A, c ∈ classL
  | [], A, s, h, c, hc => by
    simp only [allC, Option.some.injEq, Prod.mk.injEq] at h
    rw [← h.1] at hc
    simp at hc
  | v :: V, A, s, h, c, hc => by
    simp only [allC] at h
    cases e : findC (fold v) with
    | none => rw [e] at h; cases h
    | some d =>
      rw [e] at h
      simp only [Option.map_eq_some_iff] at h
      obtain ⟨p, hp, h⟩ := h
      simp only [Prod.mk.injEq] at h
      rw [← h.1] at hc
      rcases List.mem_append.1 hc with hc | hc
      · exact chainD_mem _ _ c hc
      · exact all_mem (A := p.1) (s := p.2) hp c hc
theorem class_low : ∀ c ∈ classL, ∀ m ∈ c.mustL, low m = m := by
  have : (classL.all fun c => c.mustL.all fun m => decide (low m = m)) = true := by decide +kernel
  intro c hc m hm
  have := List.all_eq_true.1 (List.all_eq_true.1 this c hc) m hm
  simpa using this
theorem must_low {V : List (List UInt8)} {A : List CT} {s : Bool} (h : allC V = some (A, s)) {m : List UInt8} (hm : m ∈ mustA A) : low m = m := by
  obtain ⟨c, hc, hm⟩ := List.mem_flatMap.1 hm
  exact class_low c (all_mem h c hc) m hm

theorem vals_can (L : List AT) (t : List UInt8) : valsS (canL L) (low t) = findA L t := by
  unfold valsS findA canL
  rw [List.find?_map]
  show (match Option.map (fun (a : AT) => (low a.1, a.2)) (List.find? (fun (a : AT) => low a.1 == low t) L) with | some a => a.2 | none => []) = _
  cases List.find? (fun (a : AT) => low a.1 == low t) L <;> rfl
theorem low_obj : low objB = objB := by decide
theorem vals_obj (L : List AT) : valsS (canL L) objB = findA L objB := by rw [← vals_can, low_obj]
theorem can_all {L : List AT} : canL L = canL (L.take L.length) := by rw [List.take_length]
theorem has_can {L : List AT} (h : SndAt L L.length) (m : List UInt8) (hm : low m = m) : hasS (canL L) m = true ↔ ∃ k, ∃ hk : k < L.length, (low L[k].1 == low m) = true := by
  rw [can_all, hasS_iff (snd_ne h)]
  constructor
  · rintro ⟨a, ha, he⟩
    obtain ⟨k, hk, _, rfl⟩ := can_mem ha
    exact ⟨k, hk, by rw [hm]; simpa using he⟩
  · rintro ⟨k, hk, he⟩
    exact ⟨_, mem_can hk hk, by rw [hm] at he; simpa using he⟩

theorem classedD_none {L : List AT} (h : allC (findA L objB) = none) : classedD (canL L) = false := by
  unfold classedD
  rw [vals_obj, h]
theorem classedD_eq {L : List AT} {A : List CT} {s : Bool} (h : allC (findA L objB) = some (A, s)) :
    classedD (canL L) = (s && ((mustA A).all (hasS (canL L)) && L.all fun a => (mustA A).contains (low a.1) || (mayA A).contains (low a.1))) := by
  unfold classedD
  rw [vals_obj, h]
  have e1 : A.all (fun c => c.mustL.all (hasS (canL L))) = (mustA A).all (hasS (canL L)) := by
    unfold mustA
    rw [List.all_flatMap]
  have e2 : (canL L).all (fun a => (mayC A).contains a.1) = L.all fun a => (mustA A).contains (low a.1) || (mayA A).contains (low a.1) := by
    unfold canL
    rw [List.all_map]
    congr 1
    funext a
    show (mayC A).contains (low a.1) = _
    rw [Bool.eq_iff_iff]
    simp only [Bool.or_eq_true, List.contains_iff_mem, mayC, mustA, mayA, List.mem_flatMap, List.mem_append]
    constructor
    · rintro ⟨c, hc, h | h⟩
      · exact .inl ⟨c, hc, h⟩
      · exact .inr ⟨c, hc, h⟩
    · rintro (⟨c, hc, h⟩ | ⟨c, hc, h⟩)
      · exact ⟨c, hc, .inl h⟩
      · exact ⟨c, hc, .inr h⟩
  simp only
  rw [e1, e2]
theorem classedD_must {L : List AT} {A : List CT} {s : Bool} (hs : SndAt L L.length) (h : allC (findA L objB) = some (A, s)) (k : Nat) (hk : k < (mustA A).length) (hno : ∀ j (hj : j < L.length), (low L[j].1 == low (mustA A)[k]) = false) : classedD (canL L) = false := by
  have : hasS (canL L) (mustA A)[k] = false := by
    rw [Bool.eq_false_iff]
    intro e
    obtain ⟨j, hj, e2⟩ := (has_can hs _ (must_low h (List.getElem_mem hk))).1 e
    rw [hno j hj] at e2
    cases e2
  have e : (mustA A).all (hasS (canL L)) = false := by
    rw [List.all_eq_false]
    exact ⟨_, List.getElem_mem hk, by simp [this]⟩
  rw [classedD_eq h, e]
  simp
theorem classedD_may {L : List AT} {A : List CT} {s : Bool} (h : allC (findA L objB) = some (A, s)) (k : Nat) (hk : k < L.length) (h1 : (mustA A).contains (low L[k].1) = false) (h2 : (mayA A).contains (low L[k].1) = false) : classedD (canL L) = false := by
  have e : (L.all fun a => (mustA A).contains (low a.1) || (mayA A).contains (low a.1)) = false := by
    rw [List.all_eq_false]
    exact ⟨_, List.getElem_mem hk, by simp only [h1, h2]; simp⟩
  rw [classedD_eq h, e]
  simp
theorem classedD_st {L : List AT} {A : List CT} {s : Bool} (hs : SndAt L L.length) (h : allC (findA L objB) = some (A, s)) (hm : ∀ k (hk : k < (mustA A).length), ∃ j, ∃ hj : j < L.length, (low L[j].1 == low (mustA A)[k]) = true)
    (ha : ∀ k (hk : k < L.length), (mustA A).contains (low L[k].1) = true ∨ (mayA A).contains (low L[k].1) = true) : classedD (canL L) = s := by
  have e1 : (mustA A).all (hasS (canL L)) = true := by
    rw [List.all_eq_true]
    intro m hmm
    obtain ⟨k, hk, rfl⟩ := List.getElem_of_mem hmm
    exact (has_can hs _ (must_low h hmm)).2 (hm k hk)
  have e2 : (L.all fun a => (mustA A).contains (low a.1) || (mayA A).contains (low a.1)) = true := by
    rw [List.all_eq_true]
    intro a haa
    obtain ⟨k, hk, rfl⟩ := List.getElem_of_mem haa
    rw [Bool.or_eq_true]
    exact ha k hk
  rw [classedD_eq h, e1, e2]
  simp

theorem named_can {L : List AT} (hs : SndAt L L.length) {d : List UInt8} {r : R} {rs : List R} (hp : parseD d = some (r :: rs)) :
    namedD (canL L) d = (findA L r.1).any fun v => sameO (normD (ruleD r.1) v) (normD (ruleD r.1) r.2) := by
  unfold namedD
  rw [hp]
  simp only
  by_cases hr : ruleD r.1 = 0
  · have hf : findA L r.1 = [] := findA_no fun k hk => by
      rw [Bool.eq_false_iff]
      intro e
      have e2 : low L[k].1 = low r.1 := by simpa using e
      apply (hs.2 k hk hk).1
      rw [← ruleD_low, e2, ruleD_low, hr]
    have hv : valsS (canL L) [] = [] := valsS_no fun k hk => by
      have hk' : k < L.length := by simpa [canL] using hk
      intro e
      have e2 : low L[k].1 = [] := by simpa [canL] using e
      apply (hs.2 k hk' hk').1
      unfold ruleD
      rw [e2]
      rfl
    rw [hf, (canon_rule r.1).2 hr]
    simp only [Option.getD_none, hv]
    rfl
  · rw [canon_some hr]
    simp only [Option.getD_some, vals_can, ruleD_low]

theorem key_some {d k : List UInt8} {r : R} {rs : List R} (hp : parseD d = some (r :: rs)) (hk : keyD d = some k) : k ≠ [] := by
  unfold keyD at hk
  rw [hp] at hk
  simp only at hk
  split at hk
  · simp only [Option.some.injEq] at hk
    rw [← hk]
    cases rs with
    | nil => simp [textD, textR]
    | cons x l => simp [textD, textR]
  · cases hk
theorem key_nil {d : List UInt8} (hp : parseD d = some []) : keyD d = some [] := by
  unfold keyD
  rw [hp]
  rfl
theorem key_no {d : List UInt8} (hp : parseD d = none) : keyD d = none := by
  unfold keyD
  rw [hp]
end Go.Proofs.YtpnbcmblnplbgaaGreatDoor

