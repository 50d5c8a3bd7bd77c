/- Several texts in one file: MaRefM, MaRefL, ScDocH, ScDocP, ScDocB, ScPer, MaUp, MaAwake, MaCasesW, ScFst. -/
import Derived.Test.YtofmpaphafhdpaaGreatDoorAllP2
import Derived.Test.YtofmpaphafhdpaaGreatDoorRefKeyW
import Derived.Test.YtofmpaphafhdpaaGreatDoorMaSame
import Derived.Deep.RegionLaw
import Derived.RegionTactic
import Derived.BigRegion
import Derived.Deep.RegionHeld3
import Derived.Deep.CutRange
import Derived.Test.YtofmpaphafhdpaaGreatDoorDnLow
import Derived.Test.YtofmpaphafhdpaaGreatDoorOfL
import Derived.Test.YtofmpaphafhdpaaGreatDoorMaPure
/- The document's Norm, SameVal: the walks. -/
namespace Go.Proofs.YtofmpaphafhdpaaGreatDoor
open Go.RowKit
set_option linter.unusedVariables false

theorem field_num0 (w : World) (v : Int) (b : Bool) : (Instr.field 153 (.agg #[.int .i64 v, .bool b]) 0).run Tryz.prog w = .ok (.int .i64 v) w := by kernel_rfl
theorem field_num1 (w : World) (v : Int) (b : Bool) : (Instr.field 153 (.agg #[.int .i64 v, .bool b]) 1).run Tryz.prog w = .ok (.bool b) w := by kernel_rfl
theorem field_said0 (w : World) (s : ByteArray) (b : Bool) : (Instr.field 72 (.agg #[.string s, .bool b]) 0).run Tryz.prog w = .ok (.string s) w := by kernel_rfl
theorem field_said1 (w : World) (s : ByteArray) (b : Bool) : (Instr.field 72 (.agg #[.string s, .bool b]) 1).run Tryz.prog w = .ok (.bool b) w := by kernel_rfl
def sB (o : Option (List UInt8)) : ByteArray := match o with
  | some x => ⟨x.toArray⟩
  | none => ⟨#[]⟩
theorem saidR_eq (o : Option (List UInt8)) : saidR o = .agg #[.string (sB o), .bool o.isSome] := by cases o <;> rfl
theorem saidV_eq (o : Option (List UInt8)) : saidV o = .agg #[.string (sB o), .bool o.isSome] := by cases o <;> rfl
theorem below_ab {w w1 w2 : World} {o : Obj} (h1 : Below (w.alloc o).heap.size (w.alloc o) w1) (h2 : Below w1.heap.size w1 w2) : Below w.heap.size w w2 :=
  ((Below.refl _ _).alloc (Nat.le_refl _) _).trans ((h1.trans (h2.mono h1.size)).mono (by simp))

set_option maxRecDepth 100000 in
set_option maxHeartbeats 8000000 in
theorem normRef_any (t s : ByteArray) (ht : t.size ≤ 281474976710656) (w : World) :
    Calls Tryz.prog 86 #[.string t, .string s] w fun e w' => e = .returned (saidR (normD (ruleD t.data.toList) s.data.toList)) ∧ Below w.heap.size w w' := by
  have hr := fun w => ruleRef_any t ht w
  generalize ruleD t.data.toList = r at hr ⊢
  have HR := Lib.hid hr
  clear hr
  have HBox := Lib.hid (boxS_new w ⟨#[]⟩ false)
  obtain ⟨q0, q1, _, _⟩ := (HBox.out.store ⟨#[]⟩ false).cells
  by_cases h0 : s.data.toList = []
  · obtain ⟨e1, e2⟩ := bytes_nil h0
    have HV := Lib.hid (show normD r s.data.toList = none by unfold normD; rw [if_pos (.inl h0)])
    clear h0
    go_enter Tryz.func86, Tryz.ntmps86
    go_wp2
    refine bodyPost_ret (v := .agg #[.string ⟨#[]⟩, .bool false]) (by simp [results, Tryz.results86, go_sem]) rfl ⟨by rw [HV.out]; rfl, ?_⟩
    first | exact (Below.refl _ _).alloc (Nat.le_refl _) _ | exact (((Below.refl _ _).alloc (Nat.le_refl _) _).setCell (Nat.le_refl _) _).setCell (Nat.le_refl _) _
  obtain ⟨e1, e2⟩ := bytes_some h0
  by_cases h100 : 100 < s.size
  · have t1 : decide ((100 : Int) < (s.size : Int)) = true := by simp; omega
    have HV := Lib.hid (show normD r s.data.toList = none by unfold normD; rw [if_pos (.inr (by rw [bytes_len]; exact h100))])
    clear h0
    go_enter Tryz.func86, Tryz.ntmps86
    go_wp2
    refine bodyPost_ret (v := .agg #[.string ⟨#[]⟩, .bool false]) (by simp [results, Tryz.results86, go_sem]) rfl ⟨by rw [HV.out]; rfl, ?_⟩
    first | exact (Below.refl _ _).alloc (Nat.le_refl _) _ | exact (((Below.refl _ _).alloc (Nat.le_refl _) _).setCell (Nat.le_refl _) _).setCell (Nat.le_refl _) _
  have t1 : decide ((100 : Int) < (s.size : Int)) = false := by simp; omega
  have hd : normD r s.data.toList = if r = 1 then (if fold s.data.toList = [] then none else some (fold s.data.toList)) else if r = 2 then (if (numD s.data.toList).isSome then some s.data.toList else none)
      else if r = 3 then (match keyD s.data.toList with | some k => if k = [] then none else some k | none => none) else if r = 4 then some s.data.toList else none := by
    unfold normD; rw [if_neg (by rw [bytes_len]; rintro (h | h); exact h0 h; exact h100 h)]; rfl
  have HD := Lib.hid hd
  clear hd h0 q0 q1
  by_cases h1 : r = 1
  · subst h1
    have hf := fun w => foldRef_any s w (by omega)
    obtain ⟨F, hF⟩ : ∃ F : ByteArray, F = foldB s := ⟨_, rfl⟩
    have hFl : fold s.data.toList = F.data.toList := by rw [hF]; simp [foldB]
    rw [← hF] at hf
    have HF := Lib.hid hf
    have hD : normD 1 s.data.toList = (if fold s.data.toList = [] then none else some (fold s.data.toList)) := HD.out.trans (if_pos rfl)
    rw [hFl] at hD
    clear hf hF hFl HD
    by_cases hne : F.data.toList = []
    · obtain ⟨n1, n2⟩ := bytes_nil hne
      rw [if_pos hne] at hD
      have hFe : F = ⟨#[]⟩ := bytes_ext hne
      have HD := Lib.hid hD
      have HFe := Lib.hid hFe
      clear hD hFe hne
      go_enter Tryz.func86, Tryz.ntmps86
      go_wp2_with (first | (go_at_call 31; refine (HR.out _).mono ?_; rintro e w1 ⟨rfl, hb1⟩; have HB := Lib.hid (((Below.refl _ _).alloc (Nat.le_refl _) _).trans (hb1.mono (by simp))); have HX := Lib.hid (HBox.out.below hb1 (by simp)); have hz1 : w.heap.size < w1.heap.size := (by have := hb1.size; simp at this; omega); obtain ⟨k0, k1, l0, l1⟩ := HX.out.cells; clear hb1) | (go_at_call 85; refine (HF.out _).mono ?_; rintro e w2 ⟨rfl, hb2⟩; have HB := Lib.hid (bthen HB.out hb2); have HX := Lib.hid (HX.out.below hb2 hz1); obtain ⟨k0, k1, l0, l1⟩ := HX.out.cells; have hz2 : w.heap.size < w2.heap.size := (by have := hb2.size; omega); clear hb2))
      obtain ⟨q0, q1, _, _⟩ := (HX.out.store F false).cells
      refine bodyPost_ret (v := .agg #[.string F, .bool false]) (by simp [results, Tryz.results86, go_sem, q0, q1]) rfl ⟨by rw [HD.out, HFe.out]; rfl, ?_⟩
      exact (HB.out.setCell (Nat.le_refl _) _).setCell (Nat.le_refl _) _
    · obtain ⟨n1, n2⟩ := bytes_some hne
      rw [if_neg hne] at hD
      have HD := Lib.hid hD
      clear hD hne
      go_enter Tryz.func86, Tryz.ntmps86
      go_wp2_with (first | (go_at_call 31; refine (HR.out _).mono ?_; rintro e w1 ⟨rfl, hb1⟩; have HB := Lib.hid (((Below.refl _ _).alloc (Nat.le_refl _) _).trans (hb1.mono (by simp))); have HX := Lib.hid (HBox.out.below hb1 (by simp)); have hz1 : w.heap.size < w1.heap.size := (by have := hb1.size; simp at this; omega); obtain ⟨k0, k1, l0, l1⟩ := HX.out.cells; clear hb1) | (go_at_call 85; refine (HF.out _).mono ?_; rintro e w2 ⟨rfl, hb2⟩; have HB := Lib.hid (bthen HB.out hb2); have HX := Lib.hid (HX.out.below hb2 hz1); obtain ⟨k0, k1, l0, l1⟩ := HX.out.cells; have hz2 : w.heap.size < w2.heap.size := (by have := hb2.size; omega); clear hb2))
      obtain ⟨q0, q1, _, _⟩ := (HX.out.store F true).cells
      refine bodyPost_ret (v := .agg #[.string F, .bool true]) (by simp [results, Tryz.results86, go_sem, q0, q1]) rfl ⟨by rw [HD.out]; simp [saidR], ?_⟩
      exact (HB.out.setCell (Nat.le_refl _) _).setCell (Nat.le_refl _) _
  have u1 : ((r : Int) == 1) = false := by simp; omega
  by_cases h2 : r = 2
  · subst h2
    have hn := fun w => numberRef_any s (by omega) w
    have hD : normD 2 s.data.toList = (if (numD s.data.toList).isSome = true then some s.data.toList else none) := (HD.out.trans (if_neg (by decide))).trans (if_pos rfl)
    clear u1 h1 HD
    have hfl := field_num1
    cases hnum : numD s.data.toList with
    | none =>
      rw [hnum] at hD hn
      simp only [numR] at hn
      have HF := Lib.hid hn
      have HD := Lib.hid hD
      clear hD hnum hn
      go_enter Tryz.func86, Tryz.ntmps86
      go_wp2_with (first | (go_at_call 31; refine (HR.out _).mono ?_; rintro e w1 ⟨rfl, hb1⟩; have HB := Lib.hid (((Below.refl _ _).alloc (Nat.le_refl _) _).trans (hb1.mono (by simp))); have HX := Lib.hid (HBox.out.below hb1 (by simp)); have hz1 : w.heap.size < w1.heap.size := (by have := hb1.size; simp at this; omega); obtain ⟨k0, k1, l0, l1⟩ := HX.out.cells; clear hb1) | (go_at_call 120; refine (HF.out _).mono ?_; rintro e w2 ⟨rfl, hb2⟩; have HB := Lib.hid (bthen HB.out hb2); have HX := Lib.hid (HX.out.below hb2 hz1); obtain ⟨k0, k1, l0, l1⟩ := HX.out.cells; have hz2 : w.heap.size < w2.heap.size := (by have := hb2.size; omega); clear hb2))
      obtain ⟨q0, q1, _, _⟩ := (HX.out.store ⟨#[]⟩ false).cells
      refine bodyPost_ret (v := .agg #[.string ⟨#[]⟩, .bool false]) (by simp [results, Tryz.results86, go_sem, q0, q1]) rfl ⟨by rw [HD.out]; rfl, ?_⟩
      exact (HB.out.setCell (Nat.le_refl _) _).setCell (Nat.le_refl _) _
    | some v =>
      rw [hnum] at hD hn
      simp only [numR] at hn
      have HF := Lib.hid hn
      have HD := Lib.hid hD
      clear hD hnum hn
      go_enter Tryz.func86, Tryz.ntmps86
      go_wp2_with (first | (go_at_call 31; refine (HR.out _).mono ?_; rintro e w1 ⟨rfl, hb1⟩; have HB := Lib.hid (((Below.refl _ _).alloc (Nat.le_refl _) _).trans (hb1.mono (by simp))); have HX := Lib.hid (HBox.out.below hb1 (by simp)); have hz1 : w.heap.size < w1.heap.size := (by have := hb1.size; simp at this; omega); obtain ⟨k0, k1, l0, l1⟩ := HX.out.cells; clear hb1) | (go_at_call 120; refine (HF.out _).mono ?_; rintro e w2 ⟨rfl, hb2⟩; have HB := Lib.hid (bthen HB.out hb2); have HX := Lib.hid (HX.out.below hb2 hz1); obtain ⟨k0, k1, l0, l1⟩ := HX.out.cells; have hz2 : w.heap.size < w2.heap.size := (by have := hb2.size; omega); clear hb2))
      obtain ⟨q0, q1, _, _⟩ := (HX.out.store s true).cells
      refine bodyPost_ret (v := .agg #[.string s, .bool true]) (by simp [results, Tryz.results86, go_sem, q0, q1]) rfl ⟨by rw [HD.out]; simp [saidR], ?_⟩
      exact (HB.out.setCell (Nat.le_refl _) _).setCell (Nat.le_refl _) _
  have u2 : ((r : Int) == 2) = false := by simp; omega
  by_cases h3 : r = 3
  · subst h3
    have hk := fun w => keyRef_any s (by omega) w
    have hD : normD 3 s.data.toList = (match keyD s.data.toList with | some k => if k = [] then none else some k | none => none) := ((HD.out.trans (if_neg (by decide))).trans (if_neg (by decide))).trans (if_pos rfl)
    clear u1 u2 h1 h2 HD
    cases hkey : keyD s.data.toList with
    | none =>
      rw [hkey] at hD hk
      simp only [saidV] at hk
      have HF := Lib.hid hk
      have HD := Lib.hid hD
      clear hD hkey hk
      go_enter Tryz.func86, Tryz.ntmps86
      go_wp2_with (first | (go_at_call 31; refine (HR.out _).mono ?_; rintro e w1 ⟨rfl, hb1⟩; have HB := Lib.hid (((Below.refl _ _).alloc (Nat.le_refl _) _).trans (hb1.mono (by simp))); have HX := Lib.hid (HBox.out.below hb1 (by simp)); have hz1 : w.heap.size < w1.heap.size := (by have := hb1.size; simp at this; omega); obtain ⟨k0, k1, l0, l1⟩ := HX.out.cells; clear hb1) | (go_at_call 42; refine (HF.out _).mono ?_; rintro e w2 ⟨rfl, hb2⟩; have HB := Lib.hid (bthen HB.out hb2); have HX := Lib.hid (HX.out.below hb2 hz1); obtain ⟨k0, k1, l0, l1⟩ := HX.out.cells; have hz2 : w.heap.size < w2.heap.size := (by have := hb2.size; omega); clear hb2))
      obtain ⟨q0, q1, _, _⟩ := (HX.out.store ⟨#[]⟩ false).cells
      refine bodyPost_ret (v := .agg #[.string ⟨#[]⟩, .bool false]) (by simp [results, Tryz.results86, go_sem, q0, q1, hz2]) rfl ⟨by rw [HD.out]; rfl, ?_⟩
      exact ((HB.out.setCell (Nat.le_refl _) _).setCell (Nat.le_refl _) _).alloc (by have := HB.out.size; simp; omega) _
    | some k =>
      rw [hkey] at hD hk
      obtain ⟨K, hKB⟩ : ∃ K : ByteArray, K = ⟨k.toArray⟩ := ⟨_, rfl⟩
      have hKl : k = K.data.toList := by rw [hKB]
      simp only [saidV, ← hKB] at hk
      have HF := Lib.hid hk
      clear hk hkey hKB
      simp only at hD
      subst hKl
      by_cases hne : K.data.toList = []
      · obtain ⟨n1, n2⟩ := bytes_nil hne
        rw [if_pos hne] at hD
        have HD := Lib.hid hD
        clear hD hne
        go_enter Tryz.func86, Tryz.ntmps86
        go_wp2_with (first | (go_at_call 31; refine (HR.out _).mono ?_; rintro e w1 ⟨rfl, hb1⟩; have HB := Lib.hid (((Below.refl _ _).alloc (Nat.le_refl _) _).trans (hb1.mono (by simp))); have HX := Lib.hid (HBox.out.below hb1 (by simp)); have hz1 : w.heap.size < w1.heap.size := (by have := hb1.size; simp at this; omega); obtain ⟨k0, k1, l0, l1⟩ := HX.out.cells; clear hb1) | (go_at_call 42; refine (HF.out _).mono ?_; rintro e w2 ⟨rfl, hb2⟩; have HB := Lib.hid (bthen HB.out hb2); have HX := Lib.hid (HX.out.below hb2 hz1); obtain ⟨k0, k1, l0, l1⟩ := HX.out.cells; have hz2 : w.heap.size < w2.heap.size := (by have := hb2.size; omega); clear hb2))
        obtain ⟨q0, q1, _, _⟩ := (HX.out.store ⟨#[]⟩ false).cells
        refine bodyPost_ret (v := .agg #[.string ⟨#[]⟩, .bool false]) (by simp [results, Tryz.results86, go_sem, q0, q1, hz2]) rfl ⟨by rw [HD.out]; rfl, ?_⟩
        exact ((HB.out.setCell (Nat.le_refl _) _).setCell (Nat.le_refl _) _).alloc (by have := HB.out.size; simp; omega) _
      · obtain ⟨n1, n2⟩ := bytes_some hne
        rw [if_neg hne] at hD
        have HD := Lib.hid hD
        clear hD hne
        go_enter Tryz.func86, Tryz.ntmps86
        go_wp2_with (first | (go_at_call 31; refine (HR.out _).mono ?_; rintro e w1 ⟨rfl, hb1⟩; have HB := Lib.hid (((Below.refl _ _).alloc (Nat.le_refl _) _).trans (hb1.mono (by simp))); have HX := Lib.hid (HBox.out.below hb1 (by simp)); have hz1 : w.heap.size < w1.heap.size := (by have := hb1.size; simp at this; omega); obtain ⟨k0, k1, l0, l1⟩ := HX.out.cells; clear hb1) | (go_at_call 42; refine (HF.out _).mono ?_; rintro e w2 ⟨rfl, hb2⟩; have HB := Lib.hid (bthen HB.out hb2); have HX := Lib.hid (HX.out.below hb2 hz1); obtain ⟨k0, k1, l0, l1⟩ := HX.out.cells; have hz2 : w.heap.size < w2.heap.size := (by have := hb2.size; omega); clear hb2))
        obtain ⟨q0, q1, _, _⟩ := (HX.out.store K true).cells
        refine bodyPost_ret (v := .agg #[.string K, .bool true]) (by simp [results, Tryz.results86, go_sem, q0, q1, hz2]) rfl ⟨by rw [HD.out]; simp [saidR], ?_⟩
        exact ((HB.out.setCell (Nat.le_refl _) _).setCell (Nat.le_refl _) _).alloc (by have := HB.out.size; simp; omega) _
  have u3 : ((r : Int) == 3) = false := by simp; omega
  have hD := HD.out
  rw [if_neg h1, if_neg h2, if_neg h3] at hD
  by_cases h4 : r = 4
  · subst h4
    rw [if_pos rfl] at hD
    have HD := Lib.hid hD
    clear hD u1 u2 u3 h1 h2 h3
    go_enter Tryz.func86, Tryz.ntmps86
    go_wp2_with (go_at_call 31; refine (HR.out _).mono ?_; rintro e w1 ⟨rfl, hb1⟩; have HB := Lib.hid (((Below.refl _ _).alloc (Nat.le_refl _) _).trans (hb1.mono (by simp))); have HX := Lib.hid (HBox.out.below hb1 (by simp)); have hz1 : w.heap.size < w1.heap.size := (by have := hb1.size; simp at this; omega); obtain ⟨k0, k1, l0, l1⟩ := HX.out.cells; clear hb1)
    obtain ⟨q0, q1, _, _⟩ := (HX.out.store s true).cells
    refine bodyPost_ret (v := .agg #[.string s, .bool true]) (by simp [results, Tryz.results86, go_sem, q0, q1]) rfl ⟨by rw [HD.out]; simp [saidR], ?_⟩
    exact (HB.out.setCell (Nat.le_refl _) _).setCell (Nat.le_refl _) _
  · rw [if_neg h4] at hD
    have u4 : ((r : Int) == 4) = false := by simp; omega
    have HD := Lib.hid hD
    clear hD h1 h2 h3 h4
    go_enter Tryz.func86, Tryz.ntmps86
    go_wp2_with (go_at_call 31; refine (HR.out _).mono ?_; rintro e w1 ⟨rfl, hb1⟩; have HB := Lib.hid (((Below.refl _ _).alloc (Nat.le_refl _) _).trans (hb1.mono (by simp))); have HX := Lib.hid (HBox.out.below hb1 (by simp)); have hz1 : w.heap.size < w1.heap.size := (by have := hb1.size; simp at this; omega); obtain ⟨k0, k1, l0, l1⟩ := HX.out.cells; clear hb1)
    obtain ⟨q0, q1, _, _⟩ := (HX.out.store ⟨#[]⟩ false).cells
    refine bodyPost_ret (v := .agg #[.string ⟨#[]⟩, .bool false]) (by simp [results, Tryz.results86, go_sem, q0, q1]) rfl ⟨by rw [HD.out]; rfl, ?_⟩
    exact (HB.out.setCell (Nat.le_refl _) _).setCell (Nat.le_refl _) _
end Go.Proofs.YtofmpaphafhdpaaGreatDoor

/- The document's SameVal, Less: the walks. -/
namespace Go.Proofs.YtofmpaphafhdpaaGreatDoor
open Go.RowKit
set_option linter.unusedVariables false

theorem normR_at (T s : ByteArray) (hT : T.size ≤ 281474976710656) (r : Nat) (hr : ruleD T.data.toList = r) (o : Option (List UInt8)) (h : normD r s.data.toList = o) (w : World) :
    Calls Tryz.prog 86 #[.string T, .string s] w fun e w' => e = .returned (.agg #[.string (sB o), .bool o.isSome]) ∧ Below w.heap.size w w' := by
  have := normRef_any T s hT w
  rw [hr, h, saidR_eq] at this
  exact this

set_option maxRecDepth 100000 in
set_option maxHeartbeats 8000000 in
theorem sameVal_any (t a b : ByteArray) (ht : t.size ≤ 281474976710656) (w : World) :
    Calls Tryz.prog 59 #[.string t, .string a, .string b] w fun e w' => e = .returned (.bool (sameO (normD (ruleD t.data.toList) a.data.toList) (normD (ruleD t.data.toList) b.data.toList))) ∧ Below w.heap.size w w' := by
  obtain ⟨r, hr⟩ : ∃ r, ruleD t.data.toList = r := ⟨_, rfl⟩
  obtain ⟨p, hp⟩ : ∃ p, normD r a.data.toList = p := ⟨_, rfl⟩
  obtain ⟨q, hq⟩ : ∃ q, normD r b.data.toList = q := ⟨_, rfl⟩
  have ha := fun w => normR_at t a ht r hr p hp w
  have hb := fun w => normR_at t b ht r hr q hq w
  rw [hr, hp, hq]
  have hs : sameO p q = ((p.isSome && q.isSome) && ((sB p).toList == (sB q).toList)) := by
    cases p <;> cases q <;> simp [sameO, sB, ByteArray.toList_eq]
  rw [hs]
  clear hs hr hp hq
  generalize sB p = X at ha ⊢
  generalize sB q = Y at hb ⊢
  generalize p.isSome = u at ha ⊢
  generalize q.isSome = v at hb ⊢
  have HA := Lib.hid ha
  have HQ := Lib.hid hb
  have tok : True := trivial
  clear ha hb
  go_enter Tryz.func59, Tryz.ntmps59
  go_wp2_with (go_at_call 86; first | (have _t := tok; (with_reducible refine (HA.out _).mono ?_); rintro e w1 ⟨rfl, hb1⟩; have HB := Lib.hid hb1; clear hb1 tok) | ((with_reducible refine (HQ.out _).mono ?_); rintro e w2 ⟨rfl, hb2⟩; have HB := Lib.hid (bthen HB.out hb2); clear hb2))
  all_goals
    go_ret
    exact ⟨by simp_all, (HB.out.alloc HB.out.size _).alloc (by have := HB.out.size; simp; omega) _⟩

def TwoAt (W : World) (b : Nat) (x y : Value) (w : World) : Prop := w.cell? ⟨b, 0, none⟩ = some x ∧ w.cell? ⟨b + 1, 0, none⟩ = some y ∧ b + 1 < W.heap.size ∧ Below W.heap.size W w
theorem TwoAt.go {W w w1 : World} {b : Nat} {x y : Value} (h : TwoAt W b x y w) (hb : Below w.heap.size w w1) : w1.cell? ⟨b, 0, none⟩ = some x ∧ w1.cell? ⟨b + 1, 0, none⟩ = some y ∧ TwoAt W b x y w1 := by
  obtain ⟨h1, h2, h3, h4⟩ := h
  have hs := h4.size
  have c1 := (hb.cell (p := ⟨b, 0, none⟩) (by show b < _; omega)).trans h1
  have c2 := (hb.cell (p := ⟨b + 1, 0, none⟩) (by show b + 1 < _; omega)).trans h2
  exact ⟨c1, c2, c1, c2, h3, h4.trans (hb.mono hs)⟩

end Go.Proofs.YtofmpaphafhdpaaGreatDoor

/- The document's Has: the walk. -/
namespace Go.Proofs.YtofmpaphafhdpaaGreatDoor
open Go.RowKit
set_option linter.unusedVariables false

set_option maxRecDepth 100000 in
set_option maxHeartbeats 4000000 in
theorem hasRef_any (D t x : ByteArray) (ht : t.size ≤ 281474976710656) (L : List AT) (hs : smallA L) (v : Value) (w : World) (h : IsA w.heap.size w L v) :
    Calls Tryz.prog 28 #[.agg #[.string D, v], .string t, .string x] w fun e w' => e = .returned (.bool ((findA L t.data.toList).any fun y => sameO (normD (ruleD t.data.toList) y) (normD (ruleD t.data.toList) x.data.toList))) ∧ Below w.heap.size w w' := by
  obtain ⟨a, c, hv, hm, _⟩ := id h
  obtain ⟨n, hn⟩ : ∃ n, n = L.length := ⟨_, rfl⟩
  rw [← hn] at hv
  subst hv
  have hbx := boxN_new w D (.slice a n c)
  have hB0 : Below w.heap.size w (w.alloc (.cells #[.string D, .slice a n c] 24)) := (Below.refl _ _).alloc (Nat.le_refl _) _
  have hva := valsRef_any D t ht L hs (.slice a n c) (w.alloc (.cells #[.string D, .slice a n c] 24)) (h.below hB0 hB0.size)
  obtain ⟨V, hV⟩ : ∃ V, V = findA L t.data.toList := ⟨_, rfl⟩
  rw [← hV] at hva ⊢
  obtain ⟨R, hR⟩ : ∃ R, R = V.any fun y => sameO (normD (ruleD t.data.toList) y) (normD (ruleD t.data.toList) x.data.toList) := ⟨_, rfl⟩
  rw [← hR]
  obtain ⟨m, hml⟩ : ∃ m, m = V.length := ⟨_, rfl⟩
  have HVa := Lib.hid hva
  have HR := Lib.hid hR
  have HMl := Lib.hid hml
  have HB0 := Lib.hid hB0
  have HSv := Lib.hid (fun Y W => sameVal_any t Y x ht W)
  clear hva hR hV hn hB0 h hbx hs hml
  go_enter Tryz.func28, Tryz.ntmps28
  go_wp2_with (go_at_call 26; refine (HVa.out).mono ?_; rintro e w2 ⟨u, rfl, hit, hb2⟩; (obtain ⟨ua, uc, hu, hum, huc⟩ := hit); (rw [← HMl.out] at hu hum); subst hu; have HUc := Lib.hid huc; have HB2 := Lib.hid (HB0.out.trans (hb2.mono HB0.out.size)); have HB3 := Lib.hid hb2; clear hb2 huc)
  unfold maxLen at hum
  go_loopw [8] (fun i wr => ∃ j : Nat, j ≤ m ∧ i = .int .i64 j ∧ Hid (∀ k (hk : k < V.length), k < j → sameO (normD (ruleD t.data.toList) V[k]) (normD (ruleD t.data.toList) x.data.toList) = false) ∧ Below w2.heap.size w2 wr) (fun i wr => m - (intOf i).toNat)
  case atStart => exact ⟨0, by omega, rfl, Lib.hid (fun k _ h => absurd h (by omega)), Below.refl _ _⟩
  case round =>
    obtain ⟨j, hj, rfl, HNo, hbel⟩ := hrel
    have HBr := Lib.hid hbel
    by_cases hlt : j < m
    · have t1 : decide ((j : Int) < (m : Int)) = true := by simp; omega
      have t1' : decide (j < m) = true := by simpa using hlt
      have hjV : j < V.length := by rw [← HMl.out]; exact hlt
      obtain ⟨b, off, rfl, hb0, c0⟩ := HUc.out j hjV
      obtain ⟨X, hX⟩ : ∃ X : ByteArray, ⟨V[j].toArray⟩ = X := ⟨_, rfl⟩
      have hXl : X.data.toList = V[j] := by rw [← hX]
      have d0 : (wr.cell? ⟨b, off + j, none⟩) = some (.string X) := by
        rw [hbel.cell (p := ⟨b, _, none⟩) (Nat.lt_of_lt_of_le hb0 HB3.out.size), HB3.out.cell (p := ⟨b, _, none⟩) hb0, c0, ← hX]; rfl
      have hsv := fun W => HSv.out X W
      rw [hXl] at hsv
      cases hq : sameO (normD (ruleD t.data.toList) V[j]) (normD (ruleD t.data.toList) x.data.toList) with
      | true =>
        rw [hq] at hsv
        have HS := Lib.hid hsv
        have HRt : Hid (R = true) := Lib.hid (by rw [HR.out, List.any_eq_true]; exact ⟨V[j], List.getElem_mem _, hq⟩)
        clear hsv hq hX hXl c0 hbel HNo
        go_wp2_with (go_at_call 59; refine (HS.out _).mono ?_; rintro e w3 ⟨rfl, hb3⟩; have HB4 := Lib.hid (bthen HBr.out hb3); clear hb3)
        go_ret
        exact ⟨by rw [HRt.out]; rfl, HB2.out.trans (HB4.out.mono HB2.out.size)⟩
      | false =>
        rw [hq] at hsv
        have HS := Lib.hid hsv
        have HN2 : Hid (∀ k (hk : k < V.length), k < j + 1 → sameO (normD (ruleD t.data.toList) V[k]) (normD (ruleD t.data.toList) x.data.toList) = false) := Lib.hid (fun k h1 h3 => by
          by_cases hk : k < j
          · exact HNo.out k h1 hk
          · obtain rfl : k = j := by omega
            exact hq)
        clear hsv hq hX hXl c0 hbel HNo
        go_wp2_with (go_at_call 59; refine (HS.out _).mono ?_; rintro e w3 ⟨rfl, hb3⟩; have HB4 := Lib.hid (bthen HBr.out hb3); clear hb3)
        go_roundw
        case rel => exact ⟨j + 1, by omega, by go_num, HN2, HB4.out⟩
        case measure => simp [intOf]; omega
    · obtain rfl : j = m := by omega
      have t1 : decide ((j : Int) < (j : Int)) = false := by simp
      have t1' : decide (j < j) = false := by simp
      have HRf : Hid (R = false) := Lib.hid (by
        rw [HR.out, List.any_eq_false]
        intro y hy
        obtain ⟨k, hk, rfl⟩ := List.getElem_of_mem hy
        rw [HNo.out k hk (by rw [HMl.out]; exact hk)]
        simp)
      go_wp2
      go_ret
      exact ⟨by rw [HRf.out]; rfl, HB2.out.trans (HBr.out.mono HB2.out.size)⟩
end Go.Proofs.YtofmpaphafhdpaaGreatDoor

/- SchemaAll: what the document's Check goes through, and that it comes to checkD; no program. -/
namespace Go.Proofs.YtofmpaphafhdpaaGreatDoor
open Go.RowKit
set_option linter.unusedVariables false

/-- The attributes by the one names of their types. -/
def canL (L : List AT) : List AT := L.map fun a => (low a.1, a.2)

theorem hasS_iff {A : List AT} (hne : ∀ a ∈ A, a.2 ≠ []) (t : List UInt8) : hasS A t = true ↔ ∃ a ∈ A, a.1 = t := by
  unfold hasS valsS
  simp only [decide_eq_true_eq]
  cases e : A.find? (fun a => a.1 == t) with
  | none =>
    rw [List.find?_eq_none] at e
    constructor
    · intro h; simp at h
    · rintro ⟨a, ha, rfl⟩; exact absurd (e a ha) (by simp)
  | some a =>
    have h1 := List.mem_of_find?_eq_some e
    have h2 := List.find?_some e
    constructor
    · intro _; exact ⟨a, h1, by simpa using h2⟩
    · intro _; exact List.length_pos_iff.2 (hne a h1)

/-- Behind j of the attributes, which are sound. -/
def SndAt (L : List AT) (j : Nat) : Prop := soundR [] L = soundR (canL (L.take j)) (L.drop j) ∧ ∀ k (h : k < L.length), k < j → ruleD L[k].1 ≠ 0 ∧ L[k].2 ≠ []
theorem snd_zero (L : List AT) : SndAt L 0 := ⟨by simp [canL], fun k _ h => absurd h (by omega)⟩
theorem canon_some {t : List UInt8} (h : ruleD t ≠ 0) : canonD t = some (low t) := by
  cases e : canonD t with
  | none => exact absurd ((canon_rule t).1 e) h
  | some c => rw [(canon_eq e).1]
theorem can_mem {L : List AT} {j : Nat} {a : AT} (h : a ∈ canL (L.take j)) : ∃ k, ∃ hk : k < L.length, k < j ∧ a = (low L[k].1, L[k].2) := by
  unfold canL at h
  obtain ⟨x, hx, rfl⟩ := List.mem_map.1 h
  obtain ⟨i, hi, rfl⟩ := List.mem_take_iff_getElem.1 hx
  exact ⟨i, by omega, by omega, rfl⟩
theorem mem_can {L : List AT} {j k : Nat} (hk : k < L.length) (h : k < j) : (low L[k].1, L[k].2) ∈ canL (L.take j) :=
  List.mem_map.2 ⟨L[k], List.mem_take_iff_getElem.2 ⟨k, by omega, rfl⟩, rfl⟩
theorem snd_ne {L : List AT} {j : Nat} (h : SndAt L j) : ∀ a ∈ canL (L.take j), a.2 ≠ [] := by
  intro a ha
  obtain ⟨k, hk, hj, rfl⟩ := can_mem ha
  exact (h.2 k hk hj).2
theorem snd_rule {L : List AT} {j : Nat} (h : SndAt L j) (hj : j < L.length) (hr : ruleD L[j].1 = 0) : soundR [] L = .error 17 := by
  rw [h.1, List.drop_eq_getElem_cons hj]
  simp only [soundR, (canon_rule _).2 hr]
theorem snd_has {L : List AT} {j : Nat} (h : SndAt L j) (hj : j < L.length) (hr : ruleD L[j].1 ≠ 0) {k : Nat} (hk : k < L.length) (hkj : k < j) (he : low L[k].1 = low L[j].1) : soundR [] L = .error 20 := by
  rw [h.1, List.drop_eq_getElem_cons hj]
  simp only [soundR, canon_some hr]
  rw [if_pos ((hasS_iff (snd_ne h) _).2 ⟨_, mem_can hk hkj, he⟩)]
theorem snd_vals {L : List AT} {j : Nat} (h : SndAt L j) (hj : j < L.length) (hr : ruleD L[j].1 ≠ 0) (hno : ∀ k (hk : k < L.length), k < j → low L[k].1 ≠ low L[j].1) :
    soundR [] L = if valsC (low L[j].1) L[j].2 = 0 then soundR (canL (L.take (j + 1))) (L.drop (j + 1)) else .error (valsC (low L[j].1) L[j].2) := by
  have hf : ¬ hasS (canL (L.take j)) (low L[j].1) = true := fun e => by
    obtain ⟨a, ha, he⟩ := (hasS_iff (snd_ne h) _).1 e
    obtain ⟨k, hk, hkj, rfl⟩ := can_mem ha
    exact hno k hk hkj he
  have ht : canL (L.take (j + 1)) = canL (L.take j) ++ [(low L[j].1, L[j].2)] := by
    unfold canL
    rw [← List.take_append_getElem hj, List.map_append]
    rfl
  rw [h.1, List.drop_eq_getElem_cons hj, ht]
  simp only [soundR, canon_some hr]
  rw [if_neg hf]
theorem snd_bad {L : List AT} {j : Nat} (h : SndAt L j) (hj : j < L.length) (hr : ruleD L[j].1 ≠ 0) (hno : ∀ k (hk : k < L.length), k < j → low L[k].1 ≠ low L[j].1) {c : Int} (hv : valsC (low L[j].1) L[j].2 = c) (hc : c ≠ 0) : soundR [] L = .error c := by
  rw [snd_vals h hj hr hno, hv, if_neg hc]
theorem snd_more {L : List AT} {j : Nat} (h : SndAt L j) (hj : j < L.length) (hr : ruleD L[j].1 ≠ 0) (hno : ∀ k (hk : k < L.length), k < j → low L[k].1 ≠ low L[j].1) (hv : valsC (low L[j].1) L[j].2 = 0) : SndAt L (j + 1) := by
  refine ⟨by rw [snd_vals h hj hr hno, if_pos hv], fun k hk hkj => ?_⟩
  by_cases e : k < j
  · exact h.2 k hk e
  · obtain rfl : k = j := by omega
    refine ⟨hr, fun e2 => ?_⟩
    unfold valsC at hv
    rw [if_pos (.inl (by rw [e2]; rfl))] at hv
    cases hv
theorem snd_end {L : List AT} (h : SndAt L L.length) : soundR [] L = .ok (canL L) := by
  rw [h.1, List.take_length, List.drop_length]
  rfl

theorem rule_two (t : List UInt8) : ruleD t = 2 ↔ low t = [117, 105, 100, 110, 117, 109, 98, 101, 114] := by
  constructor
  · intro h
    unfold ruleD ruleL at h
    cases e : findL (low t) with
    | none => rw [e] at h; cases h
    | some k =>
      rw [e] at h
      simp only at h
      have h1 := findL_len e
      have h2 := List.mem_of_find?_eq_some e
      have hall : (kindsL.all fun k => decide (k.2 = 2 → k.1 = [117, 105, 100, 110, 117, 109, 98, 101, 114])) = true := by decide
      have h3 := List.all_eq_true.1 hall k h2
      simp only [decide_eq_true_eq] at h3
      rw [← h1.1, h3 h]
  · intro h
    unfold ruleD
    rw [h]
    decide
/-- There are too few values, or too many. -/
def cntBad (r n : Nat) : Prop := n = 0 ∨ 40 < n ∨ (r = 2 ∧ 1 < n)
theorem cnt_iff (t : List UInt8) (n : Nat) : (n = 0 ∨ mostS (low t) < (n : Int)) ↔ cntBad (ruleD t) n := by
  unfold mostS cntBad
  by_cases h : ruleD t = 2
  · rw [if_pos ((rule_two t).1 h)]
    omega
  · rw [if_neg (fun e => h ((rule_two t).2 e))]
    omega
theorem vals_many {t : List UInt8} {V : List (List UInt8)} (h : cntBad (ruleD t) V.length) : valsC (low t) V = 19 := by
  unfold valsC
  rw [if_pos ((cnt_iff t _).2 h)]
theorem norms_none {r : Nat} : ∀ {V : List (List UInt8)} (k : Nat) (hk : k < V.length), normD r V[k] = none → normsS r V = none
  | v :: V, 0, _, h => by simp only [normsS]; rw [show normD r v = none from h]
  | v :: V, k + 1, hk, h => by
    simp only [normsS]
    cases normD r v with
    | none => rfl
    | some x => simp only; rw [norms_none k (by simpa using hk) h]; rfl
theorem norms_all {r : Nat} : ∀ {V : List (List UInt8)}, (∀ k (hk : k < V.length), normD r V[k] ≠ none) → ∃ l, normsS r V = some l ∧ l.length = V.length ∧ ∀ k (h : k < V.length) (h' : k < l.length), normD r V[k] = some l[k]
  | [], _ => ⟨[], rfl, rfl, fun k h => absurd h (by simp)⟩
  | v :: V, h => by
    obtain ⟨l, h1, h2, h3⟩ := norms_all (V := V) (fun k hk => h (k + 1) (by simpa using hk))
    have h0 := h 0 (by simp)
    simp only [List.getElem_cons_zero] at h0
    cases e : normD r v with
    | none => exact absurd e h0
    | some x =>
      refine ⟨x :: l, by simp only [normsS]; rw [e, h1]; rfl, by simp [h2], fun k hk hk' => ?_⟩
      cases k with
      | zero => exact e
      | succ k => exact h3 k (by simpa using hk) (by simpa using hk')
theorem vals_no {t : List UInt8} {V : List (List UInt8)} (h : ¬ cntBad (ruleD t) V.length) {k : Nat} (hk : k < V.length) (hn : normD (ruleD t) V[k] = none) : valsC (low t) V = 21 := by
  unfold valsC
  rw [if_neg (fun e => h ((cnt_iff t _).1 e)), ruleD_low, norms_none k hk hn]
theorem vals_dup {t : List UInt8} {V : List (List UInt8)} (h : ¬ cntBad (ruleD t) V.length) (ha : ∀ k (hk : k < V.length), normD (ruleD t) V[k] ≠ none) {j k : Nat} (hk : k < V.length) (hj : j < k) (hs : sameO (normD (ruleD t) V[j]) (normD (ruleD t) V[k]) = true) : valsC (low t) V = 20 := by
  obtain ⟨l, h1, h2, h3⟩ := norms_all ha
  unfold valsC
  rw [if_neg (fun e => h ((cnt_iff t _).1 e)), ruleD_low, h1]
  simp only
  rw [if_neg]
  intro hn
  rw [h3 j (by omega) (by omega), h3 k hk (by omega)] at hs
  have e : l[j] = l[k] := by simpa [sameO] using hs
  exact List.pairwise_iff_getElem.1 hn j k (by omega) (by omega) hj e
theorem vals_ok {t : List UInt8} {V : List (List UInt8)} (h : ¬ cntBad (ruleD t) V.length) (ha : ∀ k (hk : k < V.length), normD (ruleD t) V[k] ≠ none) (hno : ∀ k (hk : k < V.length) j (hj : j < k), sameO (normD (ruleD t) V[j]) (normD (ruleD t) V[k]) = false) : valsC (low t) V = 0 := by
  obtain ⟨l, h1, h2, h3⟩ := norms_all ha
  unfold valsC
  rw [if_neg (fun e => h ((cnt_iff t _).1 e)), ruleD_low, h1]
  simp only
  rw [if_pos]
  refine List.pairwise_iff_getElem.2 fun j k hj hk hjk e => ?_
  have := hno k (by omega) j hjk
  rw [h3 j (by omega) hj, h3 k (by omega) hk] at this
  simp [sameO, e] at this

/-- What the classes must have, and may. -/
def mustA (A : List CT) : List (List UInt8) := A.flatMap CT.mustL
def mayA (A : List CT) : List (List UInt8) := A.flatMap CT.mayL
theorem chainD_mem : ∀ (k : Nat) (n : List UInt8) (c : CT), c ∈ chainC k n → c ∈ classL
  | 0, n, c, h => by simp [chainC] at h
  | k + 1, n, c, h => by
    simp only [chainC] at h
    cases e : findC n with
    | none => rw [e] at h; simp at h
    | some d =>
      rw [e] at h
      rcases List.mem_cons.1 h with rfl | h
      · exact (findC_mem e).1
      · exact chainD_mem k _ c h
theorem all_mem : ∀ {V : List (List UInt8)} {A : List CT} {s : Bool}, allC V = some (A, s) → ∀ c ∈ A, c ∈ classL
  | [], A, s, h, c, hc => by
    simp only [allC, Option.some.injEq, Prod.mk.injEq] at h
    rw [← h.1] at hc
    simp at hc
  | v :: V, A, s, h, c, hc => by
    simp only [allC] at h
    cases e : findC (fold v) with
    | none => rw [e] at h; cases h
    | some d =>
      rw [e] at h
      simp only [Option.map_eq_some_iff] at h
      obtain ⟨p, hp, h⟩ := h
      simp only [Prod.mk.injEq] at h
      rw [← h.1] at hc
      rcases List.mem_append.1 hc with hc | hc
      · exact chainD_mem _ _ c hc
      · exact all_mem (A := p.1) (s := p.2) hp c hc
theorem class_low : ∀ c ∈ classL, ∀ m ∈ c.mustL, low m = m := by
  have : (classL.all fun c => c.mustL.all fun m => decide (low m = m)) = true := by decide +kernel
  intro c hc m hm
  have := List.all_eq_true.1 (List.all_eq_true.1 this c hc) m hm
  simpa using this
theorem must_low {V : List (List UInt8)} {A : List CT} {s : Bool} (h : allC V = some (A, s)) {m : List UInt8} (hm : m ∈ mustA A) : low m = m := by
  obtain ⟨c, hc, hm⟩ := List.mem_flatMap.1 hm
  exact class_low c (all_mem h c hc) m hm

theorem vals_can (L : List AT) (t : List UInt8) : valsS (canL L) (low t) = findA L t := by
  unfold valsS findA canL
  rw [List.find?_map]
  show (match Option.map (fun (a : AT) => (low a.1, a.2)) (List.find? (fun (a : AT) => low a.1 == low t) L) with | some a => a.2 | none => []) = _
  cases List.find? (fun (a : AT) => low a.1 == low t) L <;> rfl
theorem low_obj : low objB = objB := by decide
theorem vals_obj (L : List AT) : valsS (canL L) objB = findA L objB := by rw [← vals_can, low_obj]
theorem can_all {L : List AT} : canL L = canL (L.take L.length) := by rw [List.take_length]
theorem has_can {L : List AT} (h : SndAt L L.length) (m : List UInt8) (hm : low m = m) : hasS (canL L) m = true ↔ ∃ k, ∃ hk : k < L.length, (low L[k].1 == low m) = true := by
  rw [can_all, hasS_iff (snd_ne h)]
  constructor
  · rintro ⟨a, ha, he⟩
    obtain ⟨k, hk, _, rfl⟩ := can_mem ha
    exact ⟨k, hk, by rw [hm]; simpa using he⟩
  · rintro ⟨k, hk, he⟩
    exact ⟨_, mem_can hk hk, by rw [hm] at he; simpa using he⟩

theorem classedD_none {L : List AT} (h : allC (findA L objB) = none) : classedD (canL L) = false := by
  unfold classedD
  rw [vals_obj, h]
theorem classedD_eq {L : List AT} {A : List CT} {s : Bool} (h : allC (findA L objB) = some (A, s)) :
    classedD (canL L) = (s && ((mustA A).all (hasS (canL L)) && L.all fun a => (mustA A).contains (low a.1) || (mayA A).contains (low a.1))) := by
  unfold classedD
  rw [vals_obj, h]
  have e1 : A.all (fun c => c.mustL.all (hasS (canL L))) = (mustA A).all (hasS (canL L)) := by
    unfold mustA
    rw [List.all_flatMap]
  have e2 : (canL L).all (fun a => (mayC A).contains a.1) = L.all fun a => (mustA A).contains (low a.1) || (mayA A).contains (low a.1) := by
    unfold canL
    rw [List.all_map]
    congr 1
    funext a
    show (mayC A).contains (low a.1) = _
    rw [Bool.eq_iff_iff]
    simp only [Bool.or_eq_true, List.contains_iff_mem, mayC, mustA, mayA, List.mem_flatMap, List.mem_append]
    constructor
    · rintro ⟨c, hc, h | h⟩
      · exact .inl ⟨c, hc, h⟩
      · exact .inr ⟨c, hc, h⟩
    · rintro (⟨c, hc, h⟩ | ⟨c, hc, h⟩)
      · exact ⟨c, hc, .inl h⟩
      · exact ⟨c, hc, .inr h⟩
  simp only
  rw [e1, e2]
theorem classedD_must {L : List AT} {A : List CT} {s : Bool} (hs : SndAt L L.length) (h : allC (findA L objB) = some (A, s)) (k : Nat) (hk : k < (mustA A).length) (hno : ∀ j (hj : j < L.length), (low L[j].1 == low (mustA A)[k]) = false) : classedD (canL L) = false := by
  have : hasS (canL L) (mustA A)[k] = false := by
    rw [Bool.eq_false_iff]
    intro e
    obtain ⟨j, hj, e2⟩ := (has_can hs _ (must_low h (List.getElem_mem hk))).1 e
    rw [hno j hj] at e2
    cases e2
  have e : (mustA A).all (hasS (canL L)) = false := by
    rw [List.all_eq_false]
    exact ⟨_, List.getElem_mem hk, by simp [this]⟩
  rw [classedD_eq h, e]
  simp
theorem classedD_may {L : List AT} {A : List CT} {s : Bool} (h : allC (findA L objB) = some (A, s)) (k : Nat) (hk : k < L.length) (h1 : (mustA A).contains (low L[k].1) = false) (h2 : (mayA A).contains (low L[k].1) = false) : classedD (canL L) = false := by
  have e : (L.all fun a => (mustA A).contains (low a.1) || (mayA A).contains (low a.1)) = false := by
    rw [List.all_eq_false]
    exact ⟨_, List.getElem_mem hk, by simp only [h1, h2]; simp⟩
  rw [classedD_eq h, e]
  simp
theorem classedD_st {L : List AT} {A : List CT} {s : Bool} (hs : SndAt L L.length) (h : allC (findA L objB) = some (A, s)) (hm : ∀ k (hk : k < (mustA A).length), ∃ j, ∃ hj : j < L.length, (low L[j].1 == low (mustA A)[k]) = true)
    (ha : ∀ k (hk : k < L.length), (mustA A).contains (low L[k].1) = true ∨ (mayA A).contains (low L[k].1) = true) : classedD (canL L) = s := by
  have e1 : (mustA A).all (hasS (canL L)) = true := by
    rw [List.all_eq_true]
    intro m hmm
    obtain ⟨k, hk, rfl⟩ := List.getElem_of_mem hmm
    exact (has_can hs _ (must_low h hmm)).2 (hm k hk)
  have e2 : (L.all fun a => (mustA A).contains (low a.1) || (mayA A).contains (low a.1)) = true := by
    rw [List.all_eq_true]
    intro a haa
    obtain ⟨k, hk, rfl⟩ := List.getElem_of_mem haa
    rw [Bool.or_eq_true]
    exact ha k hk
  rw [classedD_eq h, e1, e2]
  simp

theorem named_can {L : List AT} (hs : SndAt L L.length) {d : List UInt8} {r : R} {rs : List R} (hp : parseD d = some (r :: rs)) :
    namedD (canL L) d = (findA L r.1).any fun v => sameO (normD (ruleD r.1) v) (normD (ruleD r.1) r.2) := by
  unfold namedD
  rw [hp]
  simp only
  by_cases hr : ruleD r.1 = 0
  · have hf : findA L r.1 = [] := findA_no fun k hk => by
      rw [Bool.eq_false_iff]
      intro e
      have e2 : low L[k].1 = low r.1 := by simpa using e
      apply (hs.2 k hk hk).1
      rw [← ruleD_low, e2, ruleD_low, hr]
    have hv : valsS (canL L) [] = [] := valsS_no fun k hk => by
      have hk' : k < L.length := by simpa [canL] using hk
      intro e
      have e2 : low L[k].1 = [] := by simpa [canL] using e
      apply (hs.2 k hk' hk').1
      unfold ruleD
      rw [e2]
      rfl
    rw [hf, (canon_rule r.1).2 hr]
    simp only [Option.getD_none, hv]
    rfl
  · rw [canon_some hr]
    simp only [Option.getD_some, vals_can, ruleD_low]

theorem key_some {d k : List UInt8} {r : R} {rs : List R} (hp : parseD d = some (r :: rs)) (hk : keyD d = some k) : k ≠ [] := by
  unfold keyD at hk
  rw [hp] at hk
  simp only at hk
  split at hk
  · simp only [Option.some.injEq] at hk
    rw [← hk]
    cases rs with
    | nil => simp [textD, textR]
    | cons x l => simp [textD, textR]
  · cases hk
theorem key_nil {d : List UInt8} (hp : parseD d = some []) : keyD d = some [] := by
  unfold keyD
  rw [hp]
  rfl
theorem key_no {d : List UInt8} (hp : parseD d = none) : keyD d = none := by
  unfold keyD
  rw [hp]
end Go.Proofs.YtofmpaphafhdpaaGreatDoor

/- The document's attrs: the walk. -/
namespace Go.Proofs.YtofmpaphafhdpaaGreatDoor
open Go.RowKit
set_option linter.unusedVariables false

/-- The code that the attributes have. -/
def AttrsR (L : List AT) (c : Int) : Prop := (c = 0 ∧ SndAt L L.length) ∨ (c ≠ 0 ∧ soundR [] L = .error c)
def BoxQ (w : World) (b : Nat) (x : ByteArray) (u : Value) : Prop := w.heap[b]? = some (.cells #[.string x, u] 42 (0, 0))
theorem BoxQ.cells {w : World} {b : Nat} {x : ByteArray} {u : Value} (h : BoxQ w b x u) : w.cell? ⟨b, 0, none⟩ = some (.string x) ∧ w.cell? ⟨b, 1, none⟩ = some u := by
  unfold BoxQ at h
  simp [World.cell?, h]
theorem World_drew_below {w w' : World} (h : Below w.drew.heap.size w.drew w') : Below w.heap.size w w' := (Below.refl w.heap.size w).drew.trans h
theorem attrP_dup {L : List AT} {j : Nat} {x : List UInt8} {I : Int} (h : AttrP L x I) {k : Nat} (hk : k < L.length) (hkj : k < j) (he : low L[k].1 = low x) : I < (j : Int) := by
  rcases h with ⟨q, hq, rfl, h1, h2⟩ | ⟨rfl, h2⟩
  · by_cases hqj : q ≤ k
    · omega
    · have := h2 k hk (by omega)
      rw [he] at this
      simp at this
  · omega
theorem attrP_no {L : List AT} {j : Nat} {x : List UInt8} {I : Int} (h : AttrP L x I) (hj : j < L.length) (hx : low L[j].1 = low x) (hno : ∀ k (hk : k < L.length), k < j → low L[k].1 ≠ low x) : ¬ I < (j : Int) := by
  rcases h with ⟨q, hq, rfl, h1, h2⟩ | ⟨rfl, h2⟩
  · intro hlt
    exact hno q hq (by omega) (by simpa using h1)
  · have := h2 j hj
    rw [hx] at this
    simp at this

set_option maxRecDepth 100000 in
set_option maxHeartbeats 8000000 in
theorem attrsRef_any (D : ByteArray) (L : List AT) (hs : smallA L) (v : Value) (w : World) (h : IsA w.heap.size w L v) :
    Calls Tryz.prog 43 #[.agg #[.string D, v]] w fun e w' => ∃ c, e = .returned (.int .i64 c) ∧ AttrsR L c ∧ Below w.heap.size w w' := by
  obtain ⟨a, c, hv, hm, hcell⟩ := id h
  obtain ⟨n, hn⟩ : ∃ n, n = L.length := ⟨_, rfl⟩
  rw [← hn] at hv hm
  subst hv
  unfold maxLen at hm
  obtain ⟨W0, hW0⟩ : ∃ W0, W0 = w.alloc (.cells #[.string D, .slice a n c] 24) := ⟨_, rfl⟩
  have hB0 : Below w.heap.size w W0 := by rw [hW0]; exact (Below.refl _ _).alloc (Nat.le_refl _) _
  have hbx : BoxN W0 w.heap.size D (.slice a n c) := by rw [hW0]; exact boxN_new _ _ _
  have hz0 : W0.heap.size = w.heap.size + 1 := by rw [hW0]; simp
  have HN := Lib.hid hn
  have HC := Lib.hid hcell
  have HS := Lib.hid hs
  have HB0 := Lib.hid hB0
  have HBx := Lib.hid hbx
  have HW0 := Lib.hid hW0.symm
  have HA := Lib.hid h
  clear hcell hn hs hB0 hbx hW0 h
  go_enter Tryz.func43, Tryz.ntmps43
  go_upto_region 1 with (fail)
  rw [HW0.out]
  go_wp2
  go_loopw [3] (fun i wr => ∃ j : Nat, j ≤ n ∧ i = .int .i64 j ∧ Hid (SndAt L j) ∧ Below W0.heap.size W0 wr) (fun i wr => n - (intOf i).toNat)
  case atStart => exact ⟨0, by omega, rfl, Lib.hid (snd_zero L), Below.refl _ _⟩
  case round =>
    obtain ⟨j, hj, rfl, HSn, hbel⟩ := hrel
    rename World => wo
    have HBr := Lib.hid hbel
    have HBw := Lib.hid (HB0.out.trans (hbel.mono HB0.out.size))
    have hbs := hbel.size
    obtain ⟨x0, x1⟩ := (HBx.out.below hbel (by omega)).cells
    by_cases hlt : j < n
    · have t1 : decide ((j : Int) < (n : Int)) = true := by simp; omega
      have t1' : decide (j < n) = true := by simpa using hlt
      have hlL : j < L.length := by rw [← HN.out]; exact hlt
      obtain ⟨b, off, u, rfl, hb0, c0, c1, hit⟩ := HC.out j hlL
      obtain ⟨V, hV⟩ : ∃ V, V = L[j].2 := ⟨_, rfl⟩
      rw [← hV] at hit
      obtain ⟨ua, uc, hu, hum, huc⟩ := hit
      obtain ⟨m, hml⟩ : ∃ m, m = V.length := ⟨_, rfl⟩
      rw [← hml] at hu hum
      subst hu
      unfold maxLen at hum
      have HV := Lib.hid hV
      have HMl := Lib.hid hml
      clear hV hml
      obtain ⟨X, hX⟩ : ∃ X : ByteArray, ⟨L[j].1.toArray⟩ = X := ⟨_, rfl⟩
      have hXl : X.data.toList = L[j].1 := by rw [← hX]
      have d0 : (wo.cell? ⟨b, off + j * 2, none⟩) = some (.string X) := by
        rw [HBw.out.cell (p := ⟨b, off + j * 2, none⟩) hb0, c0, ← hX]; rfl
      have d1 : (wo.cell? ⟨b, off + j * 2 + 1, none⟩) = some (.slice ua m uc) := by
        rw [HBw.out.cell (p := ⟨b, off + j * 2 + 1, none⟩) hb0, c1]
      have hXs : X.size ≤ 281474976710656 := by
        have := (HS.out.2 L[j] (List.getElem_mem _)).1
        rw [← bytes_len, hXl]; omega
      have hbA : Below wo.heap.size wo (wo.alloc (.cells #[.string X, .slice ua m uc] 42)) := (Below.refl _ _).alloc (Nat.le_refl _) _
      have hqx : BoxQ (wo.alloc (.cells #[.string X, .slice ua m uc] 42)) wo.heap.size X (.slice ua m uc) := heap_alloc_new wo _
      have hwz : (wo.alloc (.cells #[.string X, .slice ua m uc] 42)).heap.size = wo.heap.size + 1 := by simp
      go_upto_region 5 with (fail)
      generalize wo.alloc (.cells #[.string X, .slice ua m uc] 42) = W1 at hbA hqx hwz ⊢
      have HB1 := Lib.hid (bthen HBw.out hbA)
      have HB01 := Lib.hid (bthen HBr.out hbA)
      have hw1 : w.heap.size < W1.heap.size := by omega
      have hq1 : wo.heap.size < W1.heap.size := by omega
      obtain ⟨gq, hgq⟩ : ∃ g, g = wo.heap.size := ⟨_, rfl⟩
      rw [← hgq] at hqx hq1 ⊢
      have HKc : Hid (∀ wx, Below W1.heap.size W1 wx → (wx.cell? ⟨w.heap.size, 0, none⟩ = some (.string D) ∧ wx.cell? ⟨w.heap.size, 1, none⟩ = some (.slice (some ⟨b, off, none⟩) n c)) ∧ (wx.cell? ⟨gq, 0, none⟩ = some (.string X) ∧ wx.cell? ⟨gq, 1, none⟩ = some (.slice ua m uc))) := Lib.hid (fun wx hb => ⟨((HBx.out.below HB01.out (by omega)).below hb hw1).cells, (show BoxQ wx gq X (.slice ua m uc) from (hb.block gq hq1).trans hqx).cells⟩)
      have HUc : Hid (∀ wx, Below W1.heap.size W1 wx → ∀ k (hk : k < V.length), ∃ vb vo, ua = some ⟨vb, vo, none⟩ ∧ ∃ Y : ByteArray, Y.data.toList = V[k] ∧ wx.cell? ⟨vb, vo + k, none⟩ = some (.string Y) ∧ vb < W1.heap.size) := Lib.hid (fun wx hb k hk => by
        obtain ⟨vb, vo, e, hvb, hc⟩ := huc k hk
        refine ⟨vb, vo, e, ⟨V[k].toArray⟩, rfl, ?_, by omega⟩
        rw [hb.cell (p := ⟨vb, _, none⟩) (by show vb < _; omega), HB1.out.cell (p := ⟨vb, _, none⟩) hvb, hc]
        rfl)
      have hru := fun W => ruleRef_any X hXs W
      have hat := fun W (hb : Below W1.heap.size W1 W) => attrRef_any D X hXs L HS.out (.slice (some ⟨b, off, none⟩) n c) W ((HA.out.below HB1.out HB1.out.size).below hb hb.size)
      have hno := fun Y W => normRef_any X Y hXs W
      have hsv := fun Y Z W => sameVal_any X Y Z hXs W
      rw [hXl] at hru hat hno hsv
      obtain ⟨T, hT⟩ : ∃ T, T = L[j].1 := ⟨_, rfl⟩
      obtain ⟨r, hr⟩ : ∃ r, r = ruleD T := ⟨_, rfl⟩
      rw [← hT] at hru hat
      simp only [← hT, ← hr] at hru hno hsv
      have HRu := Lib.hid hru
      have HAt := Lib.hid hat
      have HNo := Lib.hid hno
      have HSv := Lib.hid hsv
      have HT := Lib.hid hT
      have HR := Lib.hid hr
      have HTz := Lib.hid (Below.refl W1.heap.size W1)
      obtain ⟨⟨x0, x1⟩, ⟨q0, q1⟩⟩ := HKc.out _ (Below.refl _ _)
      clear hru hat hno hsv hT hr hX hXl c0 c1 d0 d1 huc hbA hqx hbel hgq
      by_cases hr0 : r = 0
      · have t2 : ((r : Int) == 0) = true := by simp [hr0]
        have t2' : decide ((r : Int) = 0) = true := by simp [hr0]
        have HE : Hid (AttrsR L 17) := Lib.hid (.inr ⟨by decide, snd_rule HSn.out hlL (by rw [← HT.out, ← HR.out]; exact hr0)⟩)
        clear hr0
        go_wp2_with (first | (go_at_call 31; ((with_reducible refine (HRu.out _).mono ?_); rintro e wx ⟨rfl, hbx⟩); have HTz := Lib.hid (bthen HTz.out hbx); obtain ⟨⟨x0, x1⟩, ⟨q0, q1⟩⟩ := HKc.out _ HTz.out; clear hbx))
        go_ret
        exact ⟨_, rfl, HE.out, bthen HB1.out HTz.out⟩
      · have t0 : True := trivial
        have t2 : ((r : Int) == 0) = false := by simp; omega
        have t2' : decide ((r : Int) = 0) = false := by simp; omega
        have HR0 : Hid (ruleD L[j].1 ≠ 0) := Lib.hid (by rw [← HT.out, ← HR.out]; exact hr0)
        clear hr0
        by_cases hdup : ∃ k, ∃ hk : k < L.length, k < j ∧ low L[k].1 = low T
        · obtain ⟨k, hk, hkj, hke⟩ := hdup
          have HDu := Lib.hid (show ∀ I, AttrP L T I → I < (j : Int) from fun I h => attrP_dup h hk hkj hke)
          have HE : Hid (AttrsR L 20) := Lib.hid (.inr ⟨by decide, snd_has HSn.out hlL HR0.out hk hkj (by rw [hke, HT.out])⟩)
          clear hk hkj hke
          go_wp2_with (first | (go_at_call 31; ((with_reducible refine (HRu.out _).mono ?_); rintro e wx ⟨rfl, hbx⟩); have HTz := Lib.hid (bthen HTz.out hbx); obtain ⟨⟨x0, x1⟩, ⟨q0, q1⟩⟩ := HKc.out _ HTz.out; clear hbx) | (go_at_call 55; refine (HAt.out _ HTz.out).mono ?_; rintro e wx ⟨I, rfl, hI, hbx⟩; have t3 : decide (I < (j : Int)) = true := (by have := HDu.out I hI; simp; omega); have HTz := Lib.hid (bthen HTz.out hbx); obtain ⟨⟨x0, x1⟩, ⟨q0, q1⟩⟩ := HKc.out _ HTz.out; clear hbx hI))
          go_ret
          exact ⟨_, rfl, HE.out, bthen HB1.out HTz.out⟩
        · have HND := Lib.hid (show ∀ k (hk : k < L.length), k < j → low L[k].1 ≠ low T from fun k hk hkj e => hdup ⟨k, hk, hkj, e⟩)
          have HDn := Lib.hid (show ∀ I, AttrP L T I → ¬ I < (j : Int) from fun I h => attrP_no h hlL (by rw [HT.out]) HND.out)
          have HND2 : Hid (∀ k (hk : k < L.length), k < j → low L[k].1 ≠ low L[j].1) := Lib.hid (by rw [← HT.out]; exact HND.out)
          clear hdup
          go_upto_region 9 with (first | (go_at_call 31; ((with_reducible refine (HRu.out _).mono ?_); rintro e wx ⟨rfl, hbx⟩); have HTz := Lib.hid (bthen HTz.out hbx); obtain ⟨⟨x0, x1⟩, ⟨q0, q1⟩⟩ := HKc.out _ HTz.out; clear hbx) | (go_at_call 55; refine (HAt.out _ HTz.out).mono ?_; rintro e wx ⟨I, rfl, hI, hbx⟩; have t3 : decide (I < (j : Int)) = false := (by have := HDn.out I hI; simp; omega); have HTz := Lib.hid (bthen HTz.out hbx); obtain ⟨⟨x0, x1⟩, ⟨q0, q1⟩⟩ := HKc.out _ HTz.out; clear hbx hI))
          have HVe : Hid (valsC (low L[j].1) L[j].2 = valsC (low T) V) := Lib.hid (by rw [← HT.out, ← HV.out])
          by_cases hbad : cntBad r m
          · have HE : Hid (AttrsR L 19) := Lib.hid (.inr ⟨by decide, snd_bad HSn.out hlL HR0.out HND2.out (HVe.out.trans (vals_many (by rw [← HR.out, ← HMl.out]; exact hbad))) (by decide)⟩)
            by_cases hm0 : m = 0
            · have s1 : ((m : Int) == 0) = true := by simp [hm0]
              have s1' : decide ((m : Int) = 0) = true := by simp [hm0]
              clear hm0 hbad
              go_wp2_with (first | (go_at_call 31; ((with_reducible refine (HRu.out _).mono ?_); rintro e wx ⟨rfl, hbx⟩); have HTz := Lib.hid (bthen HTz.out hbx); obtain ⟨⟨x0, x1⟩, ⟨q0, q1⟩⟩ := HKc.out _ HTz.out; clear hbx))
              go_ret
              exact ⟨_, rfl, HE.out, bthen HB1.out HTz.out⟩
            · have s1 : ((m : Int) == 0) = false := by simp; omega
              have s1' : decide ((m : Int) = 0) = false := by simp; omega
              by_cases hm4 : 40 < m
              · have s2 : decide ((40 : Int) < (m : Int)) = true := by simp; omega
                clear hm0 hbad hm4
                go_wp2_with (first | (go_at_call 31; ((with_reducible refine (HRu.out _).mono ?_); rintro e wx ⟨rfl, hbx⟩); have HTz := Lib.hid (bthen HTz.out hbx); obtain ⟨⟨x0, x1⟩, ⟨q0, q1⟩⟩ := HKc.out _ HTz.out; clear hbx))
                go_ret
                exact ⟨_, rfl, HE.out, bthen HB1.out HTz.out⟩
              · have s2 : decide ((40 : Int) < (m : Int)) = false := by simp; omega
                have hr2 : r = 2 ∧ 1 < m := by rcases hbad with h | h | h <;> omega
                have s3 : ((r : Int) == 2) = true := by simp [hr2.1]
                have s3' : decide ((r : Int) = 2) = true := by simp [hr2.1]
                have s4 : decide ((1 : Int) < (m : Int)) = true := by simp; omega
                clear hm0 hbad hm4 hr2
                go_wp2_with (first | (go_at_call 31; ((with_reducible refine (HRu.out _).mono ?_); rintro e wx ⟨rfl, hbx⟩); have HTz := Lib.hid (bthen HTz.out hbx); obtain ⟨⟨x0, x1⟩, ⟨q0, q1⟩⟩ := HKc.out _ HTz.out; clear hbx))
                go_ret
                exact ⟨_, rfl, HE.out, bthen HB1.out HTz.out⟩
          · have hm0 : ¬ m = 0 := fun e => hbad (.inl e)
            have hm4 : ¬ 40 < m := fun e => hbad (.inr (.inl e))
            have s1 : ((m : Int) == 0) = false := by simp; omega
            have s1' : decide ((m : Int) = 0) = false := by simp; omega
            have s2 : decide ((40 : Int) < (m : Int)) = false := by simp; omega
            have HBd : Hid (¬ cntBad (ruleD T) V.length) := Lib.hid (by rw [← HR.out, ← HMl.out]; exact hbad)
            have hbw := fun (h : r = 2) => show ¬ 1 < m from fun e => hbad (.inr (.inr ⟨h, e⟩))
            go_cut [32] from 32 to 54 (fun s32 wx => s32 = .bool false ∧ Below W1.heap.size W1 wx)
            case first =>
              by_cases hr2 : r = 2
              · have s3 : ((r : Int) == 2) = true := by simp [hr2]
                have s3' : decide ((r : Int) = 2) = true := by simp [hr2]
                have s4 : decide ((1 : Int) < (m : Int)) = false := by have := hbw hr2; simp; omega
                clear hm0 hbad hm4 hr2 hbw
                go_wp2_with (first | (go_at_call 31; ((with_reducible refine (HRu.out _).mono ?_); rintro e wx ⟨rfl, hbx⟩); have HTz := Lib.hid (bthen HTz.out hbx); obtain ⟨⟨x0, x1⟩, ⟨q0, q1⟩⟩ := HKc.out _ HTz.out; clear hbx))
                go_meet
                exact ⟨rfl, HTz.out⟩
              · have s3 : ((r : Int) == 2) = false := by simp; omega
                have s3' : decide ((r : Int) = 2) = false := by simp; omega
                clear hm0 hbad hm4 hr2 hbw
                go_wp2_with (first | (go_at_call 31; ((with_reducible refine (HRu.out _).mono ?_); rintro e wx ⟨rfl, hbx⟩); have HTz := Lib.hid (bthen HTz.out hbx); obtain ⟨⟨x0, x1⟩, ⟨q0, q1⟩⟩ := HKc.out _ HTz.out; clear hbx))
                go_meet
                exact ⟨rfl, HTz.out⟩
            case rest =>
              obtain ⟨rfl, hcut⟩ := hcut
              rename World => wc0
              have HTc := Lib.hid hcut
              obtain ⟨⟨x0, x1⟩, ⟨q0, q1⟩⟩ := HKc.out _ hcut
              clear hcut hm0 hm4 hbw hbad s1 s1' s2
              go_wp2
              go_loopw [5] (fun i wr => ∃ k : Nat, k ≤ m ∧ i = .int .i64 k ∧ Hid (∀ q (hq : q < V.length), q < k → normD r V[q] ≠ none) ∧ Below W1.heap.size W1 wr) (fun i wr => m - (intOf i).toNat)
              case atStart => exact ⟨0, by omega, rfl, Lib.hid (fun q _ h => absurd h (by omega)), HTc.out⟩
              case round =>
                obtain ⟨k, hk, rfl, HAl, hbel⟩ := hrel
                rename World => wp
                have HTp := Lib.hid hbel
                obtain ⟨⟨x0, x1⟩, ⟨q0, q1⟩⟩ := HKc.out _ hbel
                by_cases hkm : k < m
                · have r1 : decide ((k : Int) < (m : Int)) = true := by simp; omega
                  have r1' : decide (k < m) = true := by simpa using hkm
                  have r2 : (0 : Int) ≤ (k : Int) := by omega
                  have r3 : (k : Int) < (m : Int) := by omega
                  have hkV : k < V.length := by rw [← HMl.out]; exact hkm
                  obtain ⟨vb, vo, rfl, Y, hY, hyc, hvb⟩ := HUc.out _ hbel k hkV
                  have HKy : Hid (∀ wx, Below W1.heap.size W1 wx → (wx.cell? ⟨gq, 0, none⟩ = some (.string X) ∧ wx.cell? ⟨gq, 1, none⟩ = some (.slice (some ⟨vb, vo, none⟩) m uc) ∧ wx.cell? ⟨vb, vo + k, none⟩ = some (.string Y))) := Lib.hid (fun wx hb => ⟨(HKc.out _ hb).2.1, (HKc.out _ hb).2.2, by
                    obtain ⟨vb', vo', e, Y', hY', hc', _⟩ := HUc.out _ hb k hkV
                    simp only [Option.some.injEq, Addr.mk.injEq, and_true] at e
                    obtain ⟨rfl, rfl⟩ := e
                    rw [hc', show Y' = Y from bytes_ext (by rw [hY', hY])]⟩)
                  have hst0 := HKy.out wp.drew hbel.drew
                  have hq := fun W => HNo.out Y W
                  rw [hY] at hq
                  cases hnq : normD r V[k] with
                  | none =>
                    rw [hnq] at hq
                    have HQ := Lib.hid (show ∀ W, Calls Tryz.prog 86 #[.string X, .string Y] W fun e w' => e = .returned (.agg #[.string ⟨#[]⟩, .bool false]) ∧ Below W.heap.size W w' from hq)
                    have HE : Hid (AttrsR L 21) := Lib.hid (.inr ⟨by decide, snd_bad HSn.out hlL HR0.out HND2.out (HVe.out.trans (vals_no HBd.out hkV (by rw [← HR.out]; exact hnq))) (by decide)⟩)
                    have fs := fun (W : World) => field_said1 W ⟨#[]⟩ false
                    clear hq hnq hY hyc hbel HAl
                    go_upto_region 14 with (fail)
                    go_region_held3 (fun w' => w'.cell? ⟨gq, 0, none⟩ = some (.string X) ∧ w'.cell? ⟨gq, 1, none⟩ = some (.slice (some ⟨vb, vo, none⟩) m uc) ∧ w'.cell? ⟨vb, vo + k, none⟩ = some (.string Y)) (first | (with_reducible exact hst0) | (with_reducible exact hst1)) (first | (go_at_call 86; ((with_reducible refine (HQ.out _).mono ?_); rintro e wx ⟨rfl, hbx⟩); have HTx := Lib.hid (bthen HTp.out (World_drew_below hbx)); have hst1 := HKy.out _ HTx.out; clear hbx))
                    all_goals
                      go_split_ands
                      go_simp
                      go_wp2
                      go_ret
                      exact ⟨_, rfl, HE.out, bthen HB1.out HTx.out⟩
                  | some z =>
                    rw [hnq] at hq
                    have HQ := Lib.hid (show ∀ W, Calls Tryz.prog 86 #[.string X, .string Y] W fun e w' => e = .returned (.agg #[.string ⟨z.toArray⟩, .bool true]) ∧ Below W.heap.size W w' from hq)
                    have HA2 : Hid (∀ q (hq : q < V.length), q < k + 1 → normD r V[q] ≠ none) := Lib.hid (fun q h1 h3 => by
                      by_cases hk : q < k
                      · exact HAl.out q h1 hk
                      · obtain rfl : q = k := by omega
                        rw [hnq]
                        simp)
                    have fs := fun (W : World) => field_said1 W ⟨z.toArray⟩ true
                    clear hq hnq hY hyc hbel HAl
                    go_upto_region 14 with (fail)
                    go_region_held3 (fun w' => w'.cell? ⟨gq, 0, none⟩ = some (.string X) ∧ w'.cell? ⟨gq, 1, none⟩ = some (.slice (some ⟨vb, vo, none⟩) m uc) ∧ w'.cell? ⟨vb, vo + k, none⟩ = some (.string Y)) (first | (with_reducible exact hst0) | (with_reducible exact hst1)) (first | (go_at_call 86; ((with_reducible refine (HQ.out _).mono ?_); rintro e wx ⟨rfl, hbx⟩); have HTx := Lib.hid (bthen HTp.out (World_drew_below hbx)); have hst1 := HKy.out _ HTx.out; clear hbx))
                    all_goals
                      go_split_ands
                      go_simp
                      go_wp2
                      go_roundw
                      case rel => exact ⟨k + 1, by omega, by go_num, HA2, HTx.out⟩
                      case measure => simp [intOf]; omega
                · obtain rfl : k = m := by omega
                  have r1 : decide ((k : Int) < (k : Int)) = false := by simp
                  have r1' : decide (k < k) = false := by simp
                  have HAll : Hid (∀ q (hq : q < V.length), normD (ruleD T) V[q] ≠ none) := Lib.hid (fun q hq => by rw [← HR.out]; exact HAl.out q hq (by rw [HMl.out]; exact hq))
                  clear hbel HAl
                  go_wp2
                  clear r1 r1'
                  go_loopw [6] (fun i wr => ∃ e : Nat, e ≤ k ∧ i = .int .i64 e ∧ Hid (∀ y (hy : y < V.length), y < e → ∀ x (hx : x < y), sameO (normD (ruleD T) V[x]) (normD (ruleD T) V[y]) = false) ∧ Below W1.heap.size W1 wr) (fun i wr => k - (intOf i).toNat)
                  case atStart => exact ⟨0, by omega, rfl, Lib.hid (fun q _ h => absurd h (by omega)), HTp.out⟩
                  case round =>
                    obtain ⟨e, he, rfl, HSa, hbel⟩ := hrel
                    rename World => wp2
                    have HTp2 := Lib.hid hbel
                    obtain ⟨⟨x0, x1⟩, ⟨q0, q1⟩⟩ := HKc.out _ hbel
                    by_cases hek : e < k
                    · have r1 : decide ((e : Int) < (k : Int)) = true := by simp; omega
                      have r1' : decide (e < k) = true := by simpa using hek
                      have r2 : (0 : Int) ≤ (e : Int) := by omega
                      have r3 : (e : Int) < (k : Int) := by omega
                      have heV : e < V.length := by rw [← HMl.out]; exact hek
                      clear hbel
                      go_wp2
                      clear r1 r1'
                      go_loopw [7] (fun i wr => ∃ f : Nat, f ≤ e ∧ i = .int .i64 f ∧ Hid (∀ x (hx : x < f) (hxV : x < V.length), sameO (normD (ruleD T) V[x]) (normD (ruleD T) V[e]) = false) ∧ Below W1.heap.size W1 wr) (fun i wr => e - (intOf i).toNat)
                      case atStart => exact ⟨0, by omega, rfl, Lib.hid (fun x h => absurd h (by omega)), HTp2.out⟩
                      case round =>
                        obtain ⟨f, hf, rfl, HSf, hbel⟩ := hrel
                        rename World => wq
                        have HTq := Lib.hid hbel
                        obtain ⟨⟨x0, x1⟩, ⟨q0, q1⟩⟩ := HKc.out _ hbel
                        by_cases hfe : f < e
                        · have r1 : decide ((f : Int) < (e : Int)) = true := by simp; omega
                          have r1' : decide (f < e) = true := by simpa using hfe
                          have r4 : (0 : Int) ≤ (f : Int) := by omega
                          have r5 : (f : Int) < (k : Int) := by omega
                          have hfV : f < V.length := by omega
                          obtain ⟨vb, vo, rfl, Y, hY, hyc, hvb⟩ := HUc.out _ hbel f hfV
                          have HKz : ∀ wx, Below W1.heap.size W1 wx → ∃ Z : ByteArray, Z.data.toList = V[e] ∧ wx.cell? ⟨vb, vo + e, none⟩ = some (.string Z) := fun wx hb => by
                            obtain ⟨vb', vo', e', Z, hZ, hc', _⟩ := HUc.out _ hb e heV
                            simp only [Option.some.injEq, Addr.mk.injEq, and_true] at e'
                            obtain ⟨rfl, rfl⟩ := e'
                            exact ⟨Z, hZ, hc'⟩
                          obtain ⟨Z, hZ, hzc⟩ := HKz _ hbel
                          have HKy : Hid (∀ wx, Below W1.heap.size W1 wx → (wx.cell? ⟨gq, 0, none⟩ = some (.string X) ∧ wx.cell? ⟨gq, 1, none⟩ = some (.slice (some ⟨vb, vo, none⟩) k uc) ∧ wx.cell? ⟨vb, vo + f, none⟩ = some (.string Y) ∧ wx.cell? ⟨vb, vo + e, none⟩ = some (.string Z))) := Lib.hid (fun wx hb => ⟨(HKc.out _ hb).2.1, (HKc.out _ hb).2.2, by
                            obtain ⟨vb', vo', e', Y', hY', hc', _⟩ := HUc.out _ hb f hfV
                            simp only [Option.some.injEq, Addr.mk.injEq, and_true] at e'
                            obtain ⟨rfl, rfl⟩ := e'
                            rw [hc', show Y' = Y from bytes_ext (by rw [hY', hY])], by
                            obtain ⟨Z', hZ', hc'⟩ := HKz _ hb
                            rw [hc', show Z' = Z from bytes_ext (by rw [hZ', hZ])]⟩)
                          have hst0 := HKy.out wq.drew hbel.drew
                          have hq := fun W => HSv.out Y Z W
                          rw [hY, hZ, HR.out] at hq
                          cases hsq : sameO (normD (ruleD T) V[f]) (normD (ruleD T) V[e]) with
                          | true =>
                            rw [hsq] at hq
                            have HQ := Lib.hid hq
                            have HE : Hid (AttrsR L 20) := Lib.hid (.inr ⟨by decide, snd_bad HSn.out hlL HR0.out HND2.out (HVe.out.trans (vals_dup HBd.out HAll.out heV hfe hsq)) (by decide)⟩)
                            clear hq hsq hY hyc hbel HSf hZ hzc HKz HSa
                            go_upto_region 22 with (fail)
                            go_region_held3 (fun w' => w'.cell? ⟨gq, 0, none⟩ = some (.string X) ∧ w'.cell? ⟨gq, 1, none⟩ = some (.slice (some ⟨vb, vo, none⟩) k uc) ∧ w'.cell? ⟨vb, vo + f, none⟩ = some (.string Y) ∧ w'.cell? ⟨vb, vo + e, none⟩ = some (.string Z)) (first | (with_reducible exact hst0) | (with_reducible exact hst1)) (first | (go_at_call 59; ((with_reducible refine (HQ.out _).mono ?_); rintro e wx ⟨rfl, hbx⟩); have HTx := Lib.hid (bthen HTq.out (World_drew_below hbx)); have hst1 := HKy.out _ HTx.out; clear hbx))
                            all_goals
                              go_split_ands
                              go_simp
                              go_wp2
                              go_ret
                              exact ⟨_, rfl, HE.out, bthen HB1.out HTx.out⟩
                          | false =>
                            rw [hsq] at hq
                            have HQ := Lib.hid hq
                            have HA2 : Hid (∀ x (hx : x < f + 1) (hxV : x < V.length), sameO (normD (ruleD T) V[x]) (normD (ruleD T) V[e]) = false) := Lib.hid (fun x h1 h3 => by
                              by_cases hk : x < f
                              · exact HSf.out x hk h3
                              · obtain rfl : x = f := by omega
                                exact hsq)
                            clear hq hsq hY hyc hbel HSf hZ hzc HKz
                            go_upto_region 22 with (fail)
                            go_region_held3 (fun w' => w'.cell? ⟨gq, 0, none⟩ = some (.string X) ∧ w'.cell? ⟨gq, 1, none⟩ = some (.slice (some ⟨vb, vo, none⟩) k uc) ∧ w'.cell? ⟨vb, vo + f, none⟩ = some (.string Y) ∧ w'.cell? ⟨vb, vo + e, none⟩ = some (.string Z)) (first | (with_reducible exact hst0) | (with_reducible exact hst1)) (first | (go_at_call 59; ((with_reducible refine (HQ.out _).mono ?_); rintro e wx ⟨rfl, hbx⟩); have HTx := Lib.hid (bthen HTq.out (World_drew_below hbx)); have hst1 := HKy.out _ HTx.out; clear hbx))
                            all_goals
                              go_split_ands
                              go_simp
                              go_wp2
                              go_roundw
                              case rel => exact ⟨f + 1, by omega, by go_num, HA2, HTx.out⟩
                              case measure => simp [intOf]; omega
                        · obtain rfl : f = e := by omega
                          have r1 : decide ((f : Int) < (f : Int)) = false := by simp
                          have r1' : decide (f < f) = false := by simp
                          have HA2 : Hid (∀ y (hy : y < V.length), y < f + 1 → ∀ x (hx : x < y), sameO (normD (ruleD T) V[x]) (normD (ruleD T) V[y]) = false) := Lib.hid (fun y h1 h3 x hx => by
                            by_cases hk : y < f
                            · exact HSa.out y h1 hk x hx
                            · obtain rfl : y = f := by omega
                              exact HSf.out x hx (by omega))
                          clear hbel HSf HSa
                          go_wp2
                          go_roundw
                          case rel => exact ⟨f + 1, by omega, by go_num, HA2, HTq.out⟩
                          case measure => simp [intOf]; omega
                    · obtain rfl : e = k := by omega
                      have r1 : decide ((e : Int) < (e : Int)) = false := by simp
                      have r1' : decide (e < e) = false := by simp
                      have HE : Hid (SndAt L (j + 1)) := Lib.hid (snd_more HSn.out hlL HR0.out HND2.out (HVe.out.trans (vals_ok HBd.out HAll.out (fun y hy x hx => HSa.out y hy (by rw [HMl.out]; exact hy) x hx))))
                      clear hbel HSa
                      go_wp2
                      go_roundw
                      case rel => exact ⟨j + 1, by omega, by go_num, HE, HB01.out.trans (HTp2.out.mono (by have := HB01.out.size; omega))⟩
                      case measure => simp [intOf]; omega
    · obtain rfl : j = n := by omega
      have t1 : decide ((j : Int) < (j : Int)) = false := by simp
      have t1' : decide (j < j) = false := by simp
      go_wp2
      go_ret
      exact ⟨0, rfl, .inl ⟨rfl, by rw [← HN.out]; exact HSn.out⟩, HBw.out⟩
end Go.Proofs.YtofmpaphafhdpaaGreatDoor

/- brooklaw4.Person, awake: the walks. -/
namespace Go.Proofs.YtofmpaphafhdpaaGreatDoor
open Go.RowKit
set_option linter.unusedVariables false

def perL (n : List UInt8) : List AT := [([99, 110], [n]), ([111, 98, 106, 101, 99, 116, 99, 108, 97, 115, 115], [[112, 101, 114, 115, 111, 110]]), ([115, 110], [[115]])]
def perD (n : List UInt8) : List UInt8 := [99, 110, 61] ++ n ++ [44, 111, 61, 120]

/-- The blocks of a person's attributes. -/
structure PerAt (w : World) (g : Nat) (N : ByteArray) : Prop where
  b1 : w.heap[g - 3]? = some (.cells #[.string N] 9 (0, 0))
  b2 : w.heap[g - 2]? = some (.cells #[.string ⟨#[112, 101, 114, 115, 111, 110]⟩] 9 (0, 0))
  b3 : w.heap[g - 1]? = some (.cells #[.string ⟨#[115]⟩] 9 (0, 0))
  b4 : w.heap[g]? = some (.cells #[.string ⟨#[99, 110]⟩, .slice (some ⟨g - 3, 0, none⟩) 1 1, .string ⟨#[111, 98, 106, 101, 99, 116, 99, 108, 97, 115, 115]⟩, .slice (some ⟨g - 2, 0, none⟩) 1 1, .string ⟨#[115, 110]⟩, .slice (some ⟨g - 1, 0, none⟩) 1 1] 42 (0, 0))
  lt : g < w.heap.size
theorem PerAt.below {w w' : World} {g n : Nat} {N : ByteArray} (h : PerAt w g N) (hb : Below n w w') (hn : g < n) : PerAt w' g N :=
  ⟨(hb.block _ (by omega)).trans h.b1, (hb.block _ (by omega)).trans h.b2, (hb.block _ (by omega)).trans h.b3, (hb.block _ hn).trans h.b4, Nat.lt_of_lt_of_le h.lt hb.size⟩
theorem isT_block {w : World} {b n0 : Nat} {X : ByteArray} {e : TypeId} (h : w.heap[b]? = some (.cells #[.string X] e (0, 0))) (hn : b < n0) : IsT n0 w [X.data.toList] (.slice (some ⟨b, 0, none⟩) 1 1) :=
  ⟨_, _, rfl, by unfold maxLen; simp, fun j hj => by
    have : j = 0 := by simp at hj; omega
    subst this
    refine ⟨b, 0, rfl, hn, ?_⟩
    rw [show [X.data.toList][0] = X.data.toList from rfl, strV_whole]
    simp only [World.cell?, h]; rfl⟩
theorem PerAt.isA {w : World} {g : Nat} {N : ByteArray} (h : PerAt w g N) : IsA w.heap.size w (perL N.data.toList) (.slice (some ⟨g, 0, none⟩) 3 3) := by
  have hg := h.lt
  refine ⟨_, _, rfl, by unfold maxLen perL; simp, fun j hj => ?_⟩
  match j, hj with
  | 0, _ => exact ⟨g, 0, _, rfl, hg, by simp only [World.cell?, h.b4]; rfl, by simp only [World.cell?, h.b4]; rfl, isT_block h.b1 (by omega)⟩
  | 1, _ => exact ⟨g, 0, _, rfl, hg, by simp only [World.cell?, h.b4]; rfl, by simp only [World.cell?, h.b4]; rfl, isT_block h.b2 (by omega)⟩
  | 2, _ => exact ⟨g, 0, _, rfl, hg, by simp only [World.cell?, h.b4]; rfl, by simp only [World.cell?, h.b4]; rfl, isT_block h.b3 (by omega)⟩

theorem PerAt.cells {w : World} {g : Nat} {N : ByteArray} (h : PerAt w g N) : w.cell? ⟨g, 2, none⟩ = some (.string ⟨#[111, 98, 106, 101, 99, 116, 99, 108, 97, 115, 115]⟩) ∧ w.cell? ⟨g, 3, none⟩ = some (.slice (some ⟨g - 2, 0, none⟩) 1 1) ∧ w.cell? ⟨g, 4, none⟩ = some (.string ⟨#[115, 110]⟩) ∧ w.cell? ⟨g, 5, none⟩ = some (.slice (some ⟨g - 1, 0, none⟩) 1 1) :=
  ⟨by simp only [World.cell?, h.b4]; rfl, by simp only [World.cell?, h.b4]; rfl, by simp only [World.cell?, h.b4]; rfl, by simp only [World.cell?, h.b4]; rfl⟩
theorem per_blocks (w : World) (N : ByteArray) (o : Obj) : PerAt (((((w.alloc o).alloc (.cells #[.string N] 9)).alloc (.cells #[.string ⟨#[112, 101, 114, 115, 111, 110]⟩] 9)).alloc (.cells #[.string ⟨#[115]⟩] 9)).alloc (.cells #[.string ⟨#[99, 110]⟩, .slice (some ⟨w.heap.size + 1, 0, none⟩) 1 1, .string ⟨#[111, 98, 106, 101, 99, 116, 99, 108, 97, 115, 115]⟩, .slice (some ⟨w.heap.size + 1 + 1, 0, none⟩) 1 1, .string ⟨#[115, 110]⟩, .slice (some ⟨w.heap.size + 1 + 1 + 1, 0, none⟩) 1 1] 42)) (w.heap.size + 4) N := by
  have s1 : (w.alloc o).heap.size = w.heap.size + 1 := by simp
  have e1 := heap_alloc_new (w.alloc o) (.cells #[.string N] 9)
  rw [s1] at e1
  generalize w.alloc o = W1 at s1 e1 ⊢
  have s2 : (W1.alloc (.cells #[.string N] 9)).heap.size = w.heap.size + 2 := by simp; omega
  have e2 := heap_alloc_new (W1.alloc (.cells #[.string N] 9)) (.cells #[.string ⟨#[112, 101, 114, 115, 111, 110]⟩] 9)
  rw [s2] at e2
  generalize W1.alloc (.cells #[.string N] 9) = W2 at s2 e1 e2 ⊢
  have s3 : (W2.alloc (.cells #[.string ⟨#[112, 101, 114, 115, 111, 110]⟩] 9)).heap.size = w.heap.size + 3 := by simp; omega
  have f1 := (heap_alloc_old W2 (.cells #[.string ⟨#[112, 101, 114, 115, 111, 110]⟩] 9) (show w.heap.size + 1 < W2.heap.size by omega)).trans e1
  have e3 := heap_alloc_new (W2.alloc (.cells #[.string ⟨#[112, 101, 114, 115, 111, 110]⟩] 9)) (.cells #[.string ⟨#[115]⟩] 9)
  rw [s3] at e3
  generalize W2.alloc (.cells #[.string ⟨#[112, 101, 114, 115, 111, 110]⟩] 9) = W3 at s3 e2 e3 f1 ⊢
  have s4 : (W3.alloc (.cells #[.string ⟨#[115]⟩] 9)).heap.size = w.heap.size + 4 := by simp; omega
  have g1 := (heap_alloc_old W3 (.cells #[.string ⟨#[115]⟩] 9) (show w.heap.size + 1 < W3.heap.size by omega)).trans f1
  have g2 := (heap_alloc_old W3 (.cells #[.string ⟨#[115]⟩] 9) (show w.heap.size + 2 < W3.heap.size by omega)).trans e2
  generalize W3.alloc (.cells #[.string ⟨#[115]⟩] 9) = W4 at s4 e3 g1 g2 ⊢
  generalize hO : Obj.cells #[.string ⟨#[99, 110]⟩, .slice (some ⟨w.heap.size + 1, 0, none⟩) 1 1, .string ⟨#[111, 98, 106, 101, 99, 116, 99, 108, 97, 115, 115]⟩, .slice (some ⟨w.heap.size + 1 + 1, 0, none⟩) 1 1, .string ⟨#[115, 110]⟩, .slice (some ⟨w.heap.size + 1 + 1 + 1, 0, none⟩) 1 1] 42 = O
  have e4 := heap_alloc_new W4 O
  rw [s4] at e4
  have k1 := (heap_alloc_old W4 O (show w.heap.size + 1 < W4.heap.size by omega)).trans g1
  have k2 := (heap_alloc_old W4 O (show w.heap.size + 2 < W4.heap.size by omega)).trans g2
  have k3 := (heap_alloc_old W4 O (show w.heap.size + 3 < W4.heap.size by omega)).trans e3
  exact ⟨k1, k2, k3, by rw [e4, ← hO]; rfl, by simp; omega⟩

theorem perAt_set {w : World} {g b : Nat} {N : ByteArray} {i : Nat} {x : Value} (h : PerAt w g N) (hb : b < g - 3) : PerAt (w.setCell ⟨b, i, none⟩ x) g N :=
  ⟨(block_ne w _ _ (show g - 3 ≠ b by omega)).trans h.b1, (block_ne w _ _ (show g - 2 ≠ b by omega)).trans h.b2, (block_ne w _ _ (show g - 1 ≠ b by omega)).trans h.b3, (block_ne w _ _ (show g ≠ b by omega)).trans h.b4, by rw [lt_set]; exact h.lt⟩

set_option maxRecDepth 100000 in
set_option maxHeartbeats 4000000 in
theorem person_any (N : ByteArray) (hN : N.size ≤ 1000) (w : World) : Calls Tryz.prog 18 #[.string N] w fun e w' => ∃ D g, e = .returned (.agg #[.string D, .slice (some ⟨g, 0, none⟩) 3 3]) ∧ D.data.toList = perD N.data.toList ∧ PerAt w' g N ∧ w.heap.size + 4 = g ∧ Below w.heap.size w w' := by
  obtain ⟨T, hT⟩ : ∃ T, (⟨#[99, 110, 61]⟩ : ByteArray) ++ N = T := ⟨_, rfl⟩
  obtain ⟨D, hD⟩ : ∃ D, T ++ (⟨#[44, 111, 61, 120]⟩ : ByteArray) = D := ⟨_, rfl⟩
  have hTs : T.size = 3 + N.size := by rw [← hT, ← bytes_len, app_list, List.length_append, bytes_len, bytes_len]; rfl
  have hDl : D.data.toList = perD N.data.toList := by rw [← hD, ← hT, app_list, app_list]; rfl
  have q1 : 3 + N.size ≤ 9223372036854775807 := by omega
  have q2 : T.size + 4 ≤ 9223372036854775807 := by omega
  have HDl := Lib.hid hDl
  have HP := Lib.hid (fun o => per_blocks w N o)
  have HB := Lib.hid (fun o => ((((((Below.refl w.heap.size w).alloc (Nat.le_refl _) o).alloc (by simp) (.cells #[.string N] 9)).alloc (by simp; omega) (.cells #[.string ⟨#[112, 101, 114, 115, 111, 110]⟩] 9)).alloc (by simp; omega) (.cells #[.string ⟨#[115]⟩] 9)).alloc (by simp; omega) (.cells #[.string ⟨#[99, 110]⟩, .slice (some ⟨w.heap.size + 1, 0, none⟩) 1 1, .string ⟨#[111, 98, 106, 101, 99, 116, 99, 108, 97, 115, 115]⟩, .slice (some ⟨w.heap.size + 1 + 1, 0, none⟩) 1 1, .string ⟨#[115, 110]⟩, .slice (some ⟨w.heap.size + 1 + 1 + 1, 0, none⟩) 1 1] 42)))
  clear hTs hDl
  go_enter Tryz.func18, Tryz.ntmps18
  go_wp2
  refine bodyPost_ret (v := .agg #[.string D, .slice (some ⟨w.heap.size + 4, 0, none⟩) 3 3]) (by simp [results, Tryz.results18, go_sem]) rfl ⟨D, w.heap.size + 4, rfl, HDl.out, ?_, rfl, ?_⟩
  · exact HP.out _
  · exact HB.out _

theorem awake_0 : checkD [] [] = 34 := by decide +kernel
theorem awake_1 : checkD (perD [97, 110, 110]) (perL [97, 110, 110]) = 0 := by decide +kernel
theorem awake_2 : checkD [99, 110, 61, 97, 110, 110] [] = 65 := by decide +kernel

set_option maxRecDepth 100000 in
set_option maxHeartbeats 4000000 in
theorem awake4_any (w : World) (hw : LaidW w) (hl : LaidF w) : Calls Tryz.prog 10 #[] w fun e w' => e = .returned (.bool true) ∧ Below w.heap.size w w' := by
  have hc1 := checkE_any ⟨#[]⟩ (by decide) [] (.slice none 0 0) w hw hl (isA_nil _ _ _ _)
  rw [show (⟨#[]⟩ : ByteArray).data.toList = [] from rfl, awake_0] at hc1
  have hc3 := fun (W : World) (q : LaidW W) (q2 : LaidF W) => checkE_any ⟨#[99, 110, 61, 97, 110, 110]⟩ (by decide) [] (.slice none 0 0) W q q2 (isA_nil _ _ _ _)
  rw [show (⟨#[99, 110, 61, 97, 110, 110]⟩ : ByteArray).data.toList = [99, 110, 61, 97, 110, 110] from rfl, awake_2] at hc3
  have HC1 := Lib.hid hc1
  have HC3 := Lib.hid hc3
  have HW := Lib.hid hw
  have HL := Lib.hid hl
  have HPe := Lib.hid (fun W => person_any ⟨#[97, 110, 110]⟩ (by decide) W)
  have tok1 : True := trivial
  clear hc1 hc3 hw hl
  go_enter Tryz.func10, Tryz.ntmps10
  go_wp2_with (first
    | (have _t := tok1; go_at_call 13; ((with_reducible refine (HC1.out).mono ?_); rintro e w2 ⟨rfl, hb2⟩); have HB2 := Lib.hid hb2; clear hb2 _t; clear tok1)
    | (go_at_call 18; go_loud ((with_reducible refine (HPe.out _).mono ?_); rintro e w3 ⟨D, g, rfl, hD, hp, hg, hb3⟩; have HB3 := Lib.hid (bthen HB2.out hb3); have HP := Lib.hid hp; have hc2 := checkE_any D (by rw [← bytes_len, hD]; simp [perD]) (perL [97, 110, 110]) _ _ (HW.out.below HB3.out) (HL.out.below HB3.out) hp.isA; (rw [hD] at hc2); (replace hc2 := (show Calls _ _ _ _ (fun e w' => e = .returned (.int .i64 (checkD (perD [97, 110, 110]) (perL [97, 110, 110]))) ∧ Below w3.heap.size w3 w') from hc2)); (rw [awake_1] at hc2); have HC2 := Lib.hid hc2; clear hD hp hc2 hb3))
    | (go_at_call 13; ((with_reducible refine (HC2.out).mono ?_); rintro e w4 ⟨rfl, hb4⟩); have HB4 := Lib.hid (bthen HB3.out hb4); clear hb4)
    | (go_at_call 13; ((with_reducible refine (HC3.out _ (HW.out.below HB4.out) (HL.out.below HB4.out)).mono ?_); rintro e w5 ⟨rfl, hb5⟩); have HB5 := Lib.hid (bthen HB4.out hb5); clear hb5))
  go_ret
  exact ⟨rfl, HB5.out⟩
end Go.Proofs.YtofmpaphafhdpaaGreatDoor

/- A row of bytes of the call's own, put through a function byte by byte; letters made great; what stays of it by Fold. -/
namespace Go.Proofs.YtofmpaphafhdpaaGreatDoor
open Go.RowKit
set_option linter.unusedVariables false

/-- The first j bytes of s have been put through f, in a row of the call's own. -/
def MapAt (f : UInt8 → UInt8) (w : World) (s : ByteArray) (j : Nat) (wr : World) : Prop :=
  Below w.heap.size w wr ∧ ∃ A : Array Value, wr.heap[w.heap.size]? = some (.cells A 5 (A.size, A.size + 1)) ∧ s.size ≤ A.size ∧ ∀ k (h : k < s.size), A[k]? = some (.int .u8 ((if k < j then f s[k] else s[k]).toNat : Int))

theorem mapAt_start (f : UInt8 → UInt8) (w : World) (s : ByteArray) : MapAt f w s 0 (Lib.bytesWorld w 5 s) := by
  refine ⟨⟨rfl, rfl, rfl, by rw [Lib.bytesWorld_size]; omega, fun k hk => Lib.bytesWorld_at_old w _ s k hk⟩, _, Lib.bytesWorld_at_new w _ s, by simp [Lib.bytesCells], fun k h => ?_⟩
  have hw := Lib.bytesWorld_cell w 5 s k h
  have h1 : k < s.data.toList.length := by simpa using h
  simp only [World.cell?, Lib.bytesWorld_at_new] at hw
  have hb : k < (Lib.bytesCells w 5 s).size := by simp [Lib.bytesCells]; omega
  rw [if_neg (by omega)]
  simp [List.getD, List.getElem?_eq_getElem h1] at hw
  exact hw

theorem MapAt.cell {f : UInt8 → UInt8} {w wr : World} {s : ByteArray} {j : Nat} (h : MapAt f w s j wr) (hj : j < s.size) : wr.cell? ⟨w.heap.size, j, none⟩ = some (.int .u8 (s[j].toNat : Int)) ∧ wr.frozen? ⟨w.heap.size, j, none⟩ = false := by
  obtain ⟨_, A, hA, hs, hc⟩ := h
  have := hc j hj
  rw [if_neg (by omega)] at this
  refine ⟨by simp only [World.cell?, hA]; simpa using this, by simp only [World.frozen?, hA]; simp; omega⟩
theorem MapAt.skip {f : UInt8 → UInt8} {w wr : World} {s : ByteArray} {j : Nat} (h : MapAt f w s j wr) (hj : j < s.size) (he : f s[j] = s[j]) : MapAt f w s (j + 1) wr := by
  obtain ⟨hb, A, hA, hs, hc⟩ := h
  refine ⟨hb, A, hA, hs, fun k hk => ?_⟩
  rw [hc k hk]
  by_cases h1 : k < j
  · rw [if_pos h1, if_pos (by omega)]
  · rw [if_neg h1]
    by_cases h2 : k = j
    · subst h2; rw [if_pos (by omega), he]
    · rw [if_neg (by omega)]
theorem MapAt.store {f : UInt8 → UInt8} {w wr : World} {s : ByteArray} {j : Nat} (h : MapAt f w s j wr) (hj : j < s.size) (n : Int) (hn : n = ((f s[j]).toNat : Int)) : MapAt f w s (j + 1) (wr.setCell ⟨w.heap.size, j, none⟩ (.int .u8 n)) := by
  subst hn
  obtain ⟨hb, A, hA, hs, hc⟩ := h
  refine ⟨hb.setCell (p := ⟨w.heap.size, j, none⟩) (Nat.le_refl _) _, A.setIfInBounds j (.int .u8 (f s[j]).toNat), ?_, by simpa using hs, fun k hk => ?_⟩
  · obtain ⟨hlt, hv⟩ := Array.getElem?_eq_some_iff.1 hA
    show (wr.heap.modify w.heap.size _)[w.heap.size]? = _
    rw [Array.getElem?_eq_getElem (by rw [Array.size_modify]; exact hlt), Array.getElem_modify_self, hv]
    simp
  · rw [Array.getElem?_setIfInBounds]
    by_cases h2 : j = k
    · subst h2; rw [if_pos rfl, if_pos (by omega), if_pos (by omega)]
    · rw [if_neg h2, hc k hk]
      by_cases h1 : k < j
      · rw [if_pos h1, if_pos (by omega)]
      · rw [if_neg h1, if_neg (by omega)]
theorem MapAt.conv {f : UInt8 → UInt8} {w wr : World} {s : ByteArray} {cap : Nat} (h : MapAt f w s s.size wr) :
    (convert 38 9 (.slice (some ⟨w.heap.size, 0, none⟩) s.size cap)).run Tryz.prog wr = .ok (.string ⟨(s.data.toList.map f).toArray⟩) wr := by
  obtain ⟨_, A, hA, hs, hc⟩ := h
  have hl : s.size = (s.data.toList.map f).length := by simp
  conv => lhs; rw [hl]
  refine run_convert_bytes_back wr 38 9 5 _ cap (s.data.toList.map f) Tryz.underlying38 Tryz.underlying5 Tryz.underlying9 fun j hj => ?_
  have hj' : j < s.size := by rw [hl]; exact hj
  have e : ((⟨w.heap.size, 0, none⟩ : Addr).add j) = ⟨w.heap.size, j, none⟩ := by simp [Addr.add]; omega
  have := hc j hj'
  rw [if_pos hj'] at this
  rw [e]
  simp only [World.cell?, hA]
  simp
  exact this


def upC (c : UInt8) : UInt8 := if 97 ≤ c.toNat ∧ c.toNat ≤ 122 then UInt8.ofNat (c.toNat - 32) else c
def upL (l : List UInt8) : List UInt8 := l.map upC
theorem upC_toNat (c : UInt8) : (upC c).toNat = if 97 ≤ c.toNat ∧ c.toNat ≤ 122 then c.toNat - 32 else c.toNat := by
  unfold upC; split
  · simp; omega
  · rfl
theorem lowC_upC (c : UInt8) : lowC (upC c) = lowC c := by
  have := all_bytes (fun c => lowC (upC c) == lowC c) (by decide +kernel) c
  simpa using this
theorem low_upL (l : List UInt8) : low (upL l) = low l := by simp [low, upL, lowC_upC]
theorem upL_length (l : List UInt8) : (upL l).length = l.length := by simp [upL]
theorem fold_up (n : Nat) (l : List UInt8) : fold (List.replicate n 32 ++ upL l ++ List.replicate n 32) = fold l := by
  rw [← fold_low, low_append, low_append, low_upL]
  have e : low (List.replicate n 32) = List.replicate n 32 := by simp [low, lowC]
  rw [e, fold_round]
theorem fold_more (n : Nat) (l : List UInt8) : fold (List.replicate n 32 ++ upL l ++ List.replicate n 32 ++ [32, 32, 90]) = fold (l ++ [32, 122]) := by
  have e : low (List.replicate n 32) = List.replicate n 32 := by simp [low, lowC]
  have e1 : fold (List.replicate n 32 ++ upL l ++ List.replicate n 32 ++ [32, 32, 90]) = fold (List.replicate n 32 ++ (low l ++ (List.replicate n 32 ++ [32, 32, 122]))) := by
    rw [← fold_low]
    simp only [low_append, low_upL, e]
    simp only [List.append_assoc]
    rfl
  have e2 : fold (l ++ [32, 122]) = fold (low l ++ [32, 122]) := by rw [← fold_low, low_append]; rfl
  rw [e1, e2]
  unfold fold
  rw [frun_ahead]
  have hb : ∀ (k : Nat) (st : List UInt8 × Bool), (List.replicate (k + 1) 32).foldl fstep st = (st.1, !st.1.isEmpty) := by
    intro k
    induction k with
    | zero => intro st; simp [fstep]
    | succ k ih => intro st; rw [List.replicate_succ, List.foldl_cons, ih]; simp [fstep]
  have h3 : List.replicate n 32 ++ ([32, 32, 122] : List UInt8) = List.replicate (n + 2) 32 ++ [122] := by
    rw [List.replicate_succ', List.replicate_succ']; simp
  rw [h3]
  unfold frun
  rw [List.foldl_append, List.foldl_append, hb, List.foldl_append]
  simp [fstep]
end Go.Proofs.YtofmpaphafhdpaaGreatDoor

/- The document's example of chapter 3: the walk. -/
namespace Go.Proofs.YtofmpaphafhdpaaGreatDoor
open Go.RowKit
set_option linter.unusedVariables false

theorem rule_cn : ruleD [99, 110] = 1 := by decide
theorem rule_sn : ruleD [115, 110] = 1 := by decide
theorem rule_mail : ruleD [109, 97, 105, 108] = 1 := by decide
theorem rule_pass : ruleD [117, 115, 101, 114, 80, 97, 115, 115, 119, 111, 114, 100] = 4 := by decide

end Go.Proofs.YtofmpaphafhdpaaGreatDoor

/- Letters in whatever case, blanks around and in rows: the walk. -/
namespace Go.Proofs.YtofmpaphafhdpaaGreatDoor
open Go.RowKit
set_option linter.unusedVariables false

theorem sameO_self {p q : Option (List UInt8)} {x : List UInt8} (h : p = some x) (k : q = some x) : sameO p q = true := by rw [h, k]; simp [sameO]
theorem bytesLess_self : ∀ l : List UInt8, Op.bytesLess l l = false
  | [] => rfl
  | c :: l => by
    have := bytesLess_self l
    simp [Op.bytesLess, this]
theorem normD_text {v : List UInt8} (h0 : v ≠ []) (h1 : v.length ≤ 100) (h2 : fold v ≠ []) : normD 1 v = some (fold v) := by
  unfold normD
  rw [if_neg (by rintro (h | h); exact h0 h; omega), if_pos rfl, if_neg h2]
theorem normD_pass {v : List UInt8} (h0 : v ≠ []) (h1 : v.length ≤ 100) : normD 4 v = some v := by
  unfold normD
  rw [if_neg (by rintro (h | h); exact h0 h; omega), if_neg (by decide), if_neg (by decide), if_neg (by decide), if_pos rfl]

end Go.Proofs.YtofmpaphafhdpaaGreatDoor

/- SchemaFirst: what is wrong first; no program. -/
namespace Go.Proofs.YtofmpaphafhdpaaGreatDoor
open Go.RowKit
set_option linter.unusedVariables false

theorem fstep_pre2 (st : List UInt8 × Bool) (c : UInt8) : st.1 <+: (fstep st c).1 := by
  by_cases h : c.toNat = 32
  · rw [fstep_blank st c h]; exact List.prefix_refl _
  · rw [fstep_other st c h]; simp only [List.append_assoc]; exact List.prefix_append _ _
theorem fsteps_pre2 : ∀ (l : List UInt8) (st : List UInt8 × Bool), st.1 <+: (l.foldl fstep st).1
  | [], st => List.prefix_refl _
  | c :: l, st => (fstep_pre2 st c).trans (fsteps_pre2 l (fstep st c))
theorem fold_head2 {c : UInt8} {l : List UInt8} (h : c.toNat ≠ 32) : ∃ r, fold (c :: l) = lowC c :: r := by
  have := fsteps_pre2 l (fstep ([], false) c)
  rw [fstep_other _ c h] at this
  obtain ⟨r, hr⟩ := this
  exact ⟨r, by show (List.foldl fstep ([], false) (c :: l)).1 = _; rw [List.foldl_cons, fstep_other _ c h]; simpa using hr.symm⟩

def codeL : List Int := [17, 19, 21, 19, 20, 20]
def badL : List AT := [([110, 111, 110, 101], [[120]]), ([100, 101, 115, 99, 114, 105, 112, 116, 105, 111, 110], []), ([117, 105, 100, 110, 117, 109, 98, 101, 114], [[120]]), ([117, 105, 100, 110, 117, 109, 98, 101, 114], [[49], [50]]), ([109, 97, 105, 108], [[97], [65, 32]]), ([67, 78], [[122]])]
def othD : List UInt8 := [99, 110, 61, 111, 116, 104, 101, 114]
/-- A person's name: p, and what is behind. -/
def pName (d : List UInt8) : List UInt8 := 112 :: d
theorem p_norm (d : List UInt8) (h : d.length ≤ 90) : ∃ r, normD 1 (pName d) = some (112 :: r) := by
  obtain ⟨r, hr⟩ := fold_head2 (c := 112) (l := d) (by decide)
  have hr2 : fold (pName d) = 112 :: r := hr
  exact ⟨r, by rw [normD_text (by simp [pName]) (by simp [pName]; omega) (by rw [hr2]; simp), hr2]⟩
theorem p_vals (d : List UInt8) (h : d.length ≤ 90) : valsC [99, 110] [pName d] = 0 := by
  obtain ⟨r, hr⟩ := p_norm d h
  unfold valsC
  rw [if_neg (by simp [mostS]), show ruleD [99, 110] = 1 from by decide]
  have e : normsS 1 [pName d] = some [112 :: r] := by
    simp only [normsS]
    rw [hr]
    rfl
  rw [e]
  simp
theorem p_step (d : List UInt8) (h : d.length ≤ 90) (l : List AT) : soundR [] (([99, 110], [pName d]) :: l) = soundR [([99, 110], [pName d])] l :=
  sound_step (show canonD [99, 110] = some [99, 110] from by decide) rfl (p_vals d h)
theorem fst_sound (d : List UInt8) (h : d.length ≤ 90) (k : Nat) (hk : k < badL.length) (hk2 : k < codeL.length) (l : List AT) : soundR [] (([99, 110], [pName d]) :: badL[k] :: l) = .error codeL[k] := by
  rw [p_step d h]
  generalize pName d = X
  match k, hk, hk2 with
  | 0, _, _ => exact sound_none (show canonD [110, 111, 110, 101] = none from by decide)
  | 1, _, _ => exact (sound_vals (a := ([100, 101, 115, 99, 114, 105, 112, 116, 105, 111, 110], [])) (t := [100, 101, 115, 99, 114, 105, 112, 116, 105, 111, 110]) (by decide) rfl (by decide +kernel)).trans (congrArg Except.error (show valsC [100, 101, 115, 99, 114, 105, 112, 116, 105, 111, 110] [] = 19 by decide +kernel))
  | 2, _, _ => exact (sound_vals (a := ([117, 105, 100, 110, 117, 109, 98, 101, 114], [[120]])) (t := [117, 105, 100, 110, 117, 109, 98, 101, 114]) (by decide) rfl (by decide +kernel)).trans (congrArg Except.error (show valsC [117, 105, 100, 110, 117, 109, 98, 101, 114] [[120]] = 21 by decide +kernel))
  | 3, _, _ => exact (sound_vals (a := ([117, 105, 100, 110, 117, 109, 98, 101, 114], [[49], [50]])) (t := [117, 105, 100, 110, 117, 109, 98, 101, 114]) (by decide) rfl (by decide +kernel)).trans (congrArg Except.error (show valsC [117, 105, 100, 110, 117, 109, 98, 101, 114] [[49], [50]] = 19 by decide +kernel))
  | 4, _, _ => exact (sound_vals (a := ([109, 97, 105, 108], [[97], [65, 32]])) (t := [109, 97, 105, 108]) (by decide) rfl (by decide +kernel)).trans (congrArg Except.error (show valsC [109, 97, 105, 108] [[97], [65, 32]] = 20 by decide +kernel))
  | 5, _, _ => exact sound_twice (show canonD [67, 78] = some [99, 110] from by decide) rfl
theorem oth_key : keyD othD = some [99, 110, 61, 111, 116, 104, 101, 114] := by decide +kernel
theorem fst_x (d : List UInt8) (h : d.length ≤ 90) (k m : Nat) (hk : k < badL.length) (hk2 : k < codeL.length) (hm : m < badL.length) : checkD othD [([99, 110], [pName d]), badL[k], badL[m]] = codeL[k] :=
  check_sound oth_key (by simp) (by simp) (fst_sound d h k hk hk2 _)
theorem fst_y (L : List AT) : checkD [99, 110] L = 34 := check_none (by decide +kernel)
def ouA : AT := ([111, 117], [[97]])
theorem fst_z (d : List UInt8) (h : d.length ≤ 90) : checkD othD (perL (pName d) ++ [ouA]) = 65 := by
  have hs : soundR [] (perL (pName d) ++ [ouA]) = .ok (perL (pName d) ++ [ouA]) := by
    show soundR [] (([99, 110], [pName d]) :: _) = _
    rw [p_step d h]
    show _ = Except.ok (([99, 110], [pName d]) :: _)
    generalize pName d = X
    rfl
  rw [check_behind oth_key (by simp) (by simp [perL, ouA]) hs]
  unfold behindD
  rw [if_pos]
  generalize pName d = X
  rfl
theorem fst_e (d : List UInt8) (h : d.length ≤ 90) : checkD othD (perL (pName d)) = 64 := by
  have hs : soundR [] (perL (pName d)) = .ok (perL (pName d)) := by
    show soundR [] (([99, 110], [pName d]) :: _) = _
    rw [p_step d h]
    show _ = Except.ok (([99, 110], [pName d]) :: _)
    generalize pName d = X
    rfl
  rw [check_behind oth_key (by simp) (by simp [perL]) hs]
  unfold behindD
  have hc : classedD (perL (pName d)) = true := by generalize pName d = X; rfl
  rw [hc, if_neg (by simp), if_pos]
  unfold namedD
  rw [show parseD othD = some [([99, 110], [111, 116, 104, 101, 114])] from by decide +kernel]
  simp only
  obtain ⟨r, hr⟩ := p_norm d h
  rw [show (canonD [99, 110]).getD [] = [99, 110] from by decide, show valsS (perL (pName d)) [99, 110] = [pName d] from rfl, show ruleD [99, 110] = 1 from by decide]
  simp only [List.any_cons, List.any_nil, Bool.or_false]
  rw [hr, show normD 1 [111, 116, 104, 101, 114] = some [111, 116, 104, 101, 114] from by decide]
  simp [sameO]
end Go.Proofs.YtofmpaphafhdpaaGreatDoor
