/- strings.Cut at a '='; dn.rdn: the walks. -/
import Derived.Test.YtpnbcmblnplbgaaGreatDoorDnValW
namespace Go.Proofs.YtpnbcmblnplbgaaGreatDoor
open Go.RowKit
set_option linter.unusedVariables false

theorem name_idx : ∀ l : List UInt8, (Lib.indexByte l 61 = -1 ∧ nameD l = l ∧ afterD l = []) ∨ (∃ n : Nat, Lib.indexByte l 61 = (n : Int) ∧ n < l.length ∧ nameD l = l.take n ∧ afterD l = l.drop (n + 1))
  | [] => .inl ⟨rfl, rfl, rfl⟩
  | b :: l => by
    by_cases hb : b = 61
    · subst hb
      exact .inr ⟨0, by simp [Lib.indexByte], by simp, by simp [nameD], by simp [afterD]⟩
    · have hb' : (b == 61) = false := by simpa using hb
      rcases name_idx l with ⟨h1, h2, h3⟩ | ⟨n, h1, h2, h3, h4⟩
      · refine .inl ⟨by simp [Lib.indexByte, hb', h1], ?_, ?_⟩
        · unfold nameD at h2 ⊢; rw [List.takeWhile_cons_of_pos (by simpa using hb), h2]
        · unfold afterD at h3 ⊢; rw [List.dropWhile_cons_of_pos (by simpa using hb), h3]
      · refine .inr ⟨n + 1, ?_, by simpa using h2, ?_, ?_⟩
        · simp only [Lib.indexByte, hb', h1]
          have : ((n : Int) == -1) = false := by simp
          rw [this]; rfl
        · unfold nameD at h3 ⊢; rw [List.takeWhile_cons_of_pos (by simpa using hb), h3]; rfl
        · unfold afterD at h4 ⊢; rw [List.dropWhile_cons_of_pos (by simpa using hb), h4]; rfl

def eqV (l : List UInt8) : Value := .tuple #[.string ⟨(nameD l).toArray⟩, .string ⟨(afterD l).toArray⟩, .bool (decide (0 ≤ Lib.indexByte l 61))]

set_option maxRecDepth 100000 in
set_option maxHeartbeats 1000000 in
theorem cutEq0 (s : ByteArray) (w : World) (hs : s.size ≤ 281474976710656) :
    Calls Tryz.prog 141 #[.string s, .string ⟨#[61]⟩] w fun e w' => e = .returned (eqV s.data.toList) ∧ ∃ n, w.drewN n = w' := by
  have hix := fun w => (Tryz.stringslite_Index_one s 61 w)
  rcases name_idx s.data.toList with ⟨h1, h2, h3⟩ | ⟨n, h1, h2, h3, h4⟩
  · simp only [h1] at hix
    have HI := Lib.hid hix
    unfold eqV
    rw [h1, h2, h3, whole_ext]
    clear hix h1 h2 h3
    go_enter Tryz.func141, Tryz.ntmps141
    go_wp2_with (go_at_call 167; refine (HI.out _).mono ?_; rintro e w2 ⟨rfl, hw⟩; subst hw)
    refine bodyPost_ret (v := .tuple #[.string s, .string ⟨#[]⟩, .bool false]) (by simp [results, Tryz.results141, go_sem]) rfl ⟨rfl, 0, rfl⟩
  · simp only [h1] at hix
    have HI := Lib.hid hix
    unfold eqV
    rw [h1, h3, h4, head_ext, rest_ext]
    have hn : n < s.size := by rw [← bytes_len]; exact h2
    have ht : decide (0 ≤ (n : Int)) = true := by simp
    clear hix h1 h2 h3 h4
    have ew : IntKind.i64.wrap ((n : Int) + 1) = (n : Int) + 1 := IntWalk.i64_in _ (by omega)
    have g0 : (0 : Int) ≤ (n : Int) := by omega
    have g1 : (n : Int) ≤ (s.size : Int) := by omega
    have g2 : (0 : Int) ≤ (n : Int) + 1 := by omega
    have g3 : (n : Int) + 1 ≤ (s.size : Int) := by omega
    have g4 : ((n : Int) + 1).toNat = n + 1 := by omega
    rw [ht]
    go_enter Tryz.func141, Tryz.ntmps141
    go_wp2_with (go_at_call 167; refine (HI.out _).mono ?_; rintro e w2 ⟨rfl, hw⟩; subst hw)
    go_quiet (fail)
    go_wp2
    refine bodyPost_ret (v := .tuple #[.string (s.extract 0 n), .string (s.extract (n + 1) s.size), .bool true]) (by simp [results, Tryz.results141, go_sem]) rfl ⟨rfl, _, rfl⟩

set_option maxHeartbeats 1000000 in
theorem cutEq_any (s : ByteArray) (w : World) (hs : s.size ≤ 281474976710656) :
    Calls Tryz.prog 122 #[.string s, .string ⟨#[61]⟩] w fun e w' => e = .returned (eqV s.data.toList) ∧ Below w.heap.size w w' := by
  have hc := fun w => cutEq0 s w hs
  unfold eqV at hc ⊢
  have HC := Lib.hid hc
  clear hc
  go_enter Tryz.func122, Tryz.ntmps122
  go_wp2_with (go_at_call 141; refine (HC.out _).mono ?_; rintro e w2 ⟨rfl, n, rfl⟩)
  refine bodyPost_ret (v := .tuple #[.string ⟨(nameD s.data.toList).toArray⟩, .string ⟨(afterD s.data.toList).toArray⟩, .bool (decide (0 ≤ Lib.indexByte s.data.toList 61))]) (by simp [results, Tryz.results122, go_sem]) rfl ⟨rfl, rfl, rfl, rfl, Nat.le_refl _, fun _ _ => rfl⟩

def rdnV (o : Option R) : Value := match o with
  | some r => .tuple #[.agg #[.string ⟨r.1.toArray⟩, .string ⟨r.2.toArray⟩], .bool true]
  | none => .tuple #[.agg #[.string ⟨#[]⟩, .string ⟨#[]⟩], .bool false]

theorem name_le (l : List UInt8) : (nameD l).length ≤ l.length ∧ (afterD l).length ≤ l.length := by
  rcases name_idx l with ⟨_, h2, h3⟩ | ⟨n, _, h2, h3, h4⟩
  · rw [h2, h3]; exact ⟨Nat.le_refl _, Nat.zero_le _⟩
  · rw [h3, h4]; simp; omega
theorem valN_le : ∀ (n : Nat) (f : Bool) (l v : List UInt8), valN n f l = some v → v.length ≤ l.length
  | 0, f, l, v, h => by
    unfold valN at h
    split at h
    · cases h; exact Nat.zero_le _
    · cases h
  | n + 1, f, l, v, h => by
    by_cases e : l = []
    · subst e; rw [valN_nil] at h; cases h; exact Nat.zero_le _
    · rw [valN_succ n f e] at h
      by_cases h0 : (oneD f l).2 = 0
      · rw [if_pos h0] at h; cases h
      · rw [if_neg h0] at h
        cases hv : valN n false (l.drop (oneD f l).2) with
        | none => rw [hv] at h; cases h
        | some v' =>
          rw [hv] at h
          cases h
          have := valN_le n false _ _ hv
          have hp : 0 < l.length := List.length_pos_iff.2 e
          simp at this ⊢; omega
theorem val_le {l v : List UInt8} (h : valD l = some v) : v.length ≤ l.length := valN_le _ _ _ _ h

theorem rdn_no1 {l : List UInt8} (h : okType (nameD l) = false) : rdnD l = none := by unfold rdnD; rw [h]; rfl
theorem rdn_no2 {l : List UInt8} (h : valD (afterD l) = none) : rdnD l = none := by unfold rdnD; rw [h]; split <;> rfl
theorem rdn_yes {l v : List UInt8} (h1 : okType (nameD l) = true) (h : valD (afterD l) = some v) : rdnD l = if (!v.isEmpty && decide (v.length ≤ 100)) = true then some (nameD l, v) else none := by
  unfold rdnD
  rw [if_pos h1, h]
  simp only
  by_cases hv : v ≠ [] ∧ v.length ≤ 100
  · rw [if_pos hv, if_pos]; simp [hv.1, hv.2]
  · rw [if_neg hv, if_neg]
    intro h; apply hv
    simp only [Bool.and_eq_true, Bool.not_eq_true', List.isEmpty_eq_false_iff, decide_eq_true_eq] at h
    exact h

/-- A part of a name in a block of its own. -/
def BoxR (w : World) (b : Nat) (x y : ByteArray) : Prop := w.heap[b]? = some (.cells #[.string x, .string y] 50 (0, 0))
theorem BoxR.below {w w' : World} {b n : Nat} {x y : ByteArray} (h : BoxR w b x y) (hb : Below n w w') (hn : b < n) : BoxR w' b x y := (hb.block b hn).trans h
theorem BoxR.cells {w : World} {b : Nat} {x y : ByteArray} (h : BoxR w b x y) : w.cell? ⟨b, 0, none⟩ = some (.string x) ∧ w.cell? ⟨b, 1, none⟩ = some (.string y) ∧ w.frozen? ⟨b, 0, none⟩ = false ∧ w.frozen? ⟨b, 1, none⟩ = false := by
  unfold BoxR at h
  simp [World.cell?, World.frozen?, h]
theorem boxR_new (w : World) (x y : ByteArray) : BoxR (w.alloc (.cells #[.string x, .string y] 50)) w.heap.size x y := heap_alloc_new w _
theorem BoxR.store {w : World} {b : Nat} {x y : ByteArray} (h : BoxR w b x y) (x' y' : ByteArray) : BoxR ((w.setCell ⟨b, 0, none⟩ (.string x')).setCell ⟨b, 1, none⟩ (.string y')) b x' y' := by
  unfold BoxR at h ⊢
  simp [World.setCell, Array.getElem?_modify, h]
theorem boxR_stored {W w : World} {b n : Nat} (hb : Below n W w) (hn : n ≤ b) (x' y' : Value) : Below n W ((w.setCell ⟨b, 0, none⟩ x').setCell ⟨b, 1, none⟩ y') :=
  (hb.setCell (p := ⟨b, 0, none⟩) hn _).setCell (p := ⟨b, 1, none⟩) hn _

set_option maxRecDepth 100000 in
set_option maxHeartbeats 2000000 in
theorem rdn_any (s : ByteArray) (w : World) (hs : s.size ≤ 140737488351232) :
    Calls Tryz.prog 100 #[.string s] w fun e w' => e = .returned (rdnV (rdnD s.data.toList)) ∧ Below w.heap.size w w' := by
  have hc := fun w => cutEq_any s w (by omega)
  have hle := name_le s.data.toList
  rw [bytes_len] at hle
  unfold eqV at hc
  obtain ⟨A, hA⟩ : ∃ A : ByteArray, A = ⟨(nameD s.data.toList).toArray⟩ := ⟨_, rfl⟩
  obtain ⟨B, hB⟩ : ∃ B : ByteArray, B = ⟨(afterD s.data.toList).toArray⟩ := ⟨_, rfl⟩
  have hAl : A.data.toList = nameD s.data.toList := by rw [hA]
  have hBl : B.data.toList = afterD s.data.toList := by rw [hB]
  simp only [← hA, ← hB] at hc
  have hAs : A.size ≤ s.size := by rw [← bytes_len, hAl]; exact hle.1
  have hBs : B.size ≤ s.size := by rw [← bytes_len, hBl]; exact hle.2
  have hmt := fun w => mayType_any A w
  have hvl := fun w => value_any B (by omega) w
  have hcl := fun w => clone_any A w (by omega)
  rw [hAl] at hmt
  rw [hBl] at hvl
  obtain ⟨r, hr⟩ : ∃ r, r = rdnD s.data.toList := ⟨_, rfl⟩
  rw [← hr]
  obtain ⟨f, hf⟩ : ∃ f, f = decide (0 ≤ Lib.indexByte s.data.toList 61) := ⟨_, rfl⟩
  simp only [← hf] at hc
  have HC := Lib.hid hc
  have HCl := Lib.hid hcl
  have HA := Lib.hid hA
  have hbox := boxR_new w ⟨#[]⟩ ⟨#[]⟩
  have HBox := Lib.hid hbox
  have hbb : Below w.heap.size w (w.alloc (.cells #[.string ⟨#[]⟩, .string ⟨#[]⟩] 50)) := (Below.refl _ _).alloc (Nat.le_refl _) _
  have HBB := Lib.hid hbb
  clear hc hcl hf hbox hbb
  cases ht : okType (nameD s.data.toList) with
  | false =>
    rw [rdn_no1 ht] at hr
    rw [ht] at hmt
    subst hr
    have HM := Lib.hid hmt
    clear hmt hvl ht hA hB hAl hBl hle
    go_enter Tryz.func100, Tryz.ntmps100
    go_wp2_with (first
      | (go_at_call 122; refine (HC.out _).mono ?_; rintro e w2 ⟨rfl, hb2⟩; have HB2 := Lib.hid hb2; have HX := Lib.hid (HBox.out.below hb2 (by simp)); obtain ⟨c0, c1, f0, f1⟩ := HX.out.cells; clear hb2)
      | (go_at_call 123; refine (HM.out _).mono ?_; rintro e w3 ⟨rfl, rfl⟩))
    obtain ⟨d0, d1, _, _⟩ := (HX.out.store ⟨#[]⟩ ⟨#[]⟩).cells
    refine bodyPost_ret (v := .tuple #[.agg #[.string ⟨#[]⟩, .string ⟨#[]⟩], .bool false]) (by simp [results, Tryz.results100, go_sem, d0, d1]) rfl ⟨rfl, ?_⟩
    exact boxR_stored (HBB.out.trans (HB2.out.mono (by simp))) (Nat.le_refl _) _ _
  | true =>
    rw [ht] at hmt
    have HM := Lib.hid hmt
    cases hv : valD (afterD s.data.toList) with
    | none =>
      rw [rdn_no2 hv] at hr
      subst hr
      rw [hv] at hvl
      unfold valV at hvl
      have HV := Lib.hid hvl
      clear hmt hvl ht hA hB hAl hBl hle hv
      go_enter Tryz.func100, Tryz.ntmps100
      go_wp2_with (first
        | (go_at_call 122; refine (HC.out _).mono ?_; rintro e w2 ⟨rfl, hb2⟩; have HB2 := Lib.hid hb2; have HX := Lib.hid (HBox.out.below hb2 (by simp)); clear hb2)
        | (go_at_call 123; refine (HM.out _).mono ?_; rintro e w3 ⟨rfl, rfl⟩)
        | (go_at_call 124; refine (HV.out _).mono ?_; rintro e w4 ⟨rfl, hb4⟩; have HB4 := Lib.hid hb4; have HY := Lib.hid (HX.out.below hb4 (by have := HB2.out.size; simp at this; omega)); obtain ⟨c0, c1, f0, f1⟩ := HY.out.cells; clear hb4))
      obtain ⟨d0, d1, _, _⟩ := (HY.out.store ⟨#[]⟩ ⟨#[]⟩).cells
      refine bodyPost_ret (v := .tuple #[.agg #[.string ⟨#[]⟩, .string ⟨#[]⟩], .bool false]) (by simp [results, Tryz.results100, go_sem, d0, d1]) rfl ⟨rfl, ?_⟩
      exact boxR_stored (bthen (HBB.out.trans (HB2.out.mono (by simp))) HB4.out) (Nat.le_refl _) _ _
    | some v =>
      rw [rdn_yes ht hv] at hr
      rw [hv] at hvl
      obtain ⟨V, hV⟩ : ∃ V : ByteArray, V = ⟨v.toArray⟩ := ⟨_, rfl⟩
      simp only [valV, ← hV] at hvl
      have HV := Lib.hid hvl
      have hVl : V.data.toList = v := by rw [hV]
      have hmv := fun w => mayVal_any V w
      have hsz : V.size = v.length := by rw [← bytes_len, hVl]
      rw [hVl, hsz] at hmv
      have HVe := Lib.hid hV
      obtain ⟨g, hg⟩ : ∃ g, g = (!v.isEmpty && decide (v.length ≤ 100)) := ⟨_, rfl⟩
      rw [← hg] at hr
      simp only [← hg] at hmv
      have HMV := Lib.hid hmv
      clear hmt hvl ht hA hB hAl hBl hle hv hmv hg hV hVl hsz
      cases g with
      | false =>
        rw [if_neg (by simp)] at hr
        subst hr
        go_enter Tryz.func100, Tryz.ntmps100
        go_wp2_with (first
          | (go_at_call 122; refine (HC.out _).mono ?_; rintro e w2 ⟨rfl, hb2⟩; have HB2 := Lib.hid hb2; have HX := Lib.hid (HBox.out.below hb2 (by simp)); clear hb2)
          | (go_at_call 123; refine (HM.out _).mono ?_; rintro e w3 ⟨rfl, rfl⟩)
          | (go_at_call 124; refine (HV.out _).mono ?_; rintro e w4 ⟨rfl, hb4⟩; have HB4 := Lib.hid hb4; have HY := Lib.hid (HX.out.below hb4 (by have := HB2.out.size; simp at this; omega)); obtain ⟨c0, c1, f0, f1⟩ := HY.out.cells; clear hb4)
          | (go_at_call 125; refine (HMV.out _).mono ?_; rintro e w5 ⟨rfl, rfl⟩))
        obtain ⟨d0, d1, _, _⟩ := (HY.out.store ⟨#[]⟩ ⟨#[]⟩).cells
        refine bodyPost_ret (v := .tuple #[.agg #[.string ⟨#[]⟩, .string ⟨#[]⟩], .bool false]) (by simp [results, Tryz.results100, go_sem, d0, d1]) rfl ⟨rfl, ?_⟩
        exact boxR_stored (bthen (HBB.out.trans (HB2.out.mono (by simp))) HB4.out) (Nat.le_refl _) _ _
      | true =>
        rw [if_pos rfl] at hr
        have HR := Lib.hid hr
        clear hr
        go_enter Tryz.func100, Tryz.ntmps100
        go_wp2_with (first
          | (go_at_call 122; refine (HC.out _).mono ?_; rintro e w2 ⟨rfl, hb2⟩; have HB2 := Lib.hid hb2; have HX := Lib.hid (HBox.out.below hb2 (by simp)); clear hb2)
          | (go_at_call 123; refine (HM.out _).mono ?_; rintro e w3 ⟨rfl, rfl⟩)
          | (go_at_call 124; refine (HV.out _).mono ?_; rintro e w4 ⟨rfl, hb4⟩; have HB4 := Lib.hid hb4; have HY := Lib.hid (HX.out.below hb4 (by have := HB2.out.size; simp at this; omega)); clear hb4)
          | (go_at_call 125; refine (HMV.out _).mono ?_; rintro e w5 ⟨rfl, rfl⟩)
          | (go_at_call 63; refine (HCl.out _).mono ?_; rintro e w6 ⟨rfl, hb6⟩; have HB6 := Lib.hid hb6; have HZ := Lib.hid (HY.out.below hb6 (by have := HB2.out.size; have := HB4.out.size; simp at *; omega)); obtain ⟨c0, c1, f0, f1⟩ := HZ.out.cells; clear hb6))
        obtain ⟨d0, d1, _, _⟩ := (HZ.out.store A V).cells
        refine bodyPost_ret (v := .tuple #[.agg #[.string A, .string V], .bool true]) (by simp [results, Tryz.results100, go_sem, d0, d1]) rfl ⟨?_, ?_⟩
        · rw [HR.out, HA.out, HVe.out]; rfl
        · exact boxR_stored (bthen (bthen (HBB.out.trans (HB2.out.mono (by simp))) HB4.out) HB6.out) (Nat.le_refl _) _ _
end Go.Proofs.YtpnbcmblnplbgaaGreatDoor
