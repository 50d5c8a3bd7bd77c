/- The document's Norm, SameVal: the walks. -/
import Derived.Test.YtnkgjlehegknjaaGreatDoorMaRefN
import Derived.Test.YtnkgjlehegknjaaGreatDoorRefKeyW
import Derived.Test.YtnkgjlehegknjaaGreatDoorMaSame
namespace Go.Proofs.YtnkgjlehegknjaaGreatDoor
open Go.RowKit
set_option linter.unusedVariables false

theorem field_num0 (w : World) (v : Int) (b : Bool) : (Instr.field 47 (.agg #[.int .i64 v, .bool b]) 0).run Tryz.prog w = .ok (.int .i64 v) w := by kernel_rfl
theorem field_num1 (w : World) (v : Int) (b : Bool) : (Instr.field 47 (.agg #[.int .i64 v, .bool b]) 1).run Tryz.prog w = .ok (.bool b) w := by kernel_rfl
theorem field_said0 (w : World) (s : ByteArray) (b : Bool) : (Instr.field 26 (.agg #[.string s, .bool b]) 0).run Tryz.prog w = .ok (.string s) w := by kernel_rfl
theorem field_said1 (w : World) (s : ByteArray) (b : Bool) : (Instr.field 26 (.agg #[.string s, .bool b]) 1).run Tryz.prog w = .ok (.bool b) w := by kernel_rfl
def sB (o : Option (List UInt8)) : ByteArray := match o with
  | some x => ⟨x.toArray⟩
  | none => ⟨#[]⟩
theorem saidR_eq (o : Option (List UInt8)) : saidR o = .agg #[.string (sB o), .bool o.isSome] := by cases o <;> rfl
theorem saidV_eq (o : Option (List UInt8)) : saidV o = .agg #[.string (sB o), .bool o.isSome] := by cases o <;> rfl
theorem below_ab {w w1 w2 : World} {o : Obj} (h1 : Below (w.alloc o).heap.size (w.alloc o) w1) (h2 : Below w1.heap.size w1 w2) : Below w.heap.size w w2 :=
  ((Below.refl _ _).alloc (Nat.le_refl _) _).trans ((h1.trans (h2.mono h1.size)).mono (by simp))

set_option maxRecDepth 100000 in
set_option maxHeartbeats 8000000 in
theorem normRef_any (t s : ByteArray) (ht : t.size ≤ 281474976710656) (w : World) :
    Calls Tryz.prog 9 #[.string t, .string s] w fun e w' => e = .returned (saidR (normD (ruleD t.data.toList) s.data.toList)) ∧ Below w.heap.size w w' := by
  have hr := fun w => ruleRef_any t ht w
  generalize ruleD t.data.toList = r at hr ⊢
  have HR := Lib.hid hr
  clear hr
  have HBox := Lib.hid (boxS_new w ⟨#[]⟩ false)
  obtain ⟨q0, q1, _, _⟩ := (HBox.out.store ⟨#[]⟩ false).cells
  by_cases h0 : s.data.toList = []
  · obtain ⟨e1, e2⟩ := bytes_nil h0
    have HV := Lib.hid (show normD r s.data.toList = none by unfold normD; rw [if_pos (.inl h0)])
    clear h0
    go_enter Tryz.func9, Tryz.ntmps9
    go_wp2
    refine bodyPost_ret (v := .agg #[.string ⟨#[]⟩, .bool false]) (by simp [results, Tryz.results9, go_sem]) rfl ⟨by rw [HV.out]; rfl, ?_⟩
    first | exact (Below.refl _ _).alloc (Nat.le_refl _) _ | exact (((Below.refl _ _).alloc (Nat.le_refl _) _).setCell (Nat.le_refl _) _).setCell (Nat.le_refl _) _
  obtain ⟨e1, e2⟩ := bytes_some h0
  by_cases h100 : 100 < s.size
  · have t1 : decide ((100 : Int) < (s.size : Int)) = true := by simp; omega
    have HV := Lib.hid (show normD r s.data.toList = none by unfold normD; rw [if_pos (.inr (by rw [bytes_len]; exact h100))])
    clear h0
    go_enter Tryz.func9, Tryz.ntmps9
    go_wp2
    refine bodyPost_ret (v := .agg #[.string ⟨#[]⟩, .bool false]) (by simp [results, Tryz.results9, go_sem]) rfl ⟨by rw [HV.out]; rfl, ?_⟩
    first | exact (Below.refl _ _).alloc (Nat.le_refl _) _ | exact (((Below.refl _ _).alloc (Nat.le_refl _) _).setCell (Nat.le_refl _) _).setCell (Nat.le_refl _) _
  have t1 : decide ((100 : Int) < (s.size : Int)) = false := by simp; omega
  have hd : normD r s.data.toList = if r = 1 then (if fold s.data.toList = [] then none else some (fold s.data.toList)) else if r = 2 then (if (numD s.data.toList).isSome then some s.data.toList else none)
      else if r = 3 then (match keyD s.data.toList with | some k => if k = [] then none else some k | none => none) else if r = 4 then some s.data.toList else none := by
    unfold normD; rw [if_neg (by rw [bytes_len]; rintro (h | h); exact h0 h; exact h100 h)]; rfl
  have HD := Lib.hid hd
  clear hd h0 q0 q1
  by_cases h1 : r = 1
  · subst h1
    have hf := fun w => foldRef_any s w (by omega)
    obtain ⟨F, hF⟩ : ∃ F : ByteArray, F = foldB s := ⟨_, rfl⟩
    have hFl : fold s.data.toList = F.data.toList := by rw [hF]; simp [foldB]
    rw [← hF] at hf
    have HF := Lib.hid hf
    have hD : normD 1 s.data.toList = (if fold s.data.toList = [] then none else some (fold s.data.toList)) := HD.out.trans (if_pos rfl)
    rw [hFl] at hD
    clear hf hF hFl HD
    by_cases hne : F.data.toList = []
    · obtain ⟨n1, n2⟩ := bytes_nil hne
      rw [if_pos hne] at hD
      have hFe : F = ⟨#[]⟩ := bytes_ext hne
      have HD := Lib.hid hD
      have HFe := Lib.hid hFe
      clear hD hFe hne
      go_enter Tryz.func9, Tryz.ntmps9
      go_wp2_with (first | (go_at_call 13; refine (HR.out _).mono ?_; rintro e w1 ⟨rfl, hb1⟩; have HB := Lib.hid (((Below.refl _ _).alloc (Nat.le_refl _) _).trans (hb1.mono (by simp))); have HX := Lib.hid (HBox.out.below hb1 (by simp)); have hz1 : w.heap.size < w1.heap.size := (by have := hb1.size; simp at this; omega); obtain ⟨k0, k1, l0, l1⟩ := HX.out.cells; clear hb1) | (go_at_call 23; refine (HF.out _).mono ?_; rintro e w2 ⟨rfl, hb2⟩; have HB := Lib.hid (bthen HB.out hb2); have HX := Lib.hid (HX.out.below hb2 hz1); obtain ⟨k0, k1, l0, l1⟩ := HX.out.cells; have hz2 : w.heap.size < w2.heap.size := (by have := hb2.size; omega); clear hb2))
      obtain ⟨q0, q1, _, _⟩ := (HX.out.store F false).cells
      refine bodyPost_ret (v := .agg #[.string F, .bool false]) (by simp [results, Tryz.results9, go_sem, q0, q1]) rfl ⟨by rw [HD.out, HFe.out]; rfl, ?_⟩
      exact (HB.out.setCell (Nat.le_refl _) _).setCell (Nat.le_refl _) _
    · obtain ⟨n1, n2⟩ := bytes_some hne
      rw [if_neg hne] at hD
      have HD := Lib.hid hD
      clear hD hne
      go_enter Tryz.func9, Tryz.ntmps9
      go_wp2_with (first | (go_at_call 13; refine (HR.out _).mono ?_; rintro e w1 ⟨rfl, hb1⟩; have HB := Lib.hid (((Below.refl _ _).alloc (Nat.le_refl _) _).trans (hb1.mono (by simp))); have HX := Lib.hid (HBox.out.below hb1 (by simp)); have hz1 : w.heap.size < w1.heap.size := (by have := hb1.size; simp at this; omega); obtain ⟨k0, k1, l0, l1⟩ := HX.out.cells; clear hb1) | (go_at_call 23; refine (HF.out _).mono ?_; rintro e w2 ⟨rfl, hb2⟩; have HB := Lib.hid (bthen HB.out hb2); have HX := Lib.hid (HX.out.below hb2 hz1); obtain ⟨k0, k1, l0, l1⟩ := HX.out.cells; have hz2 : w.heap.size < w2.heap.size := (by have := hb2.size; omega); clear hb2))
      obtain ⟨q0, q1, _, _⟩ := (HX.out.store F true).cells
      refine bodyPost_ret (v := .agg #[.string F, .bool true]) (by simp [results, Tryz.results9, go_sem, q0, q1]) rfl ⟨by rw [HD.out]; simp [saidR], ?_⟩
      exact (HB.out.setCell (Nat.le_refl _) _).setCell (Nat.le_refl _) _
  have u1 : ((r : Int) == 1) = false := by simp; omega
  by_cases h2 : r = 2
  · subst h2
    have hn := fun w => numberRef_any s (by omega) w
    have hD : normD 2 s.data.toList = (if (numD s.data.toList).isSome = true then some s.data.toList else none) := (HD.out.trans (if_neg (by decide))).trans (if_pos rfl)
    clear u1 h1 HD
    have hfl := field_num1
    cases hnum : numD s.data.toList with
    | none =>
      rw [hnum] at hD hn
      simp only [numR] at hn
      have HF := Lib.hid hn
      have HD := Lib.hid hD
      clear hD hnum hn
      go_enter Tryz.func9, Tryz.ntmps9
      go_wp2_with (first | (go_at_call 13; refine (HR.out _).mono ?_; rintro e w1 ⟨rfl, hb1⟩; have HB := Lib.hid (((Below.refl _ _).alloc (Nat.le_refl _) _).trans (hb1.mono (by simp))); have HX := Lib.hid (HBox.out.below hb1 (by simp)); have hz1 : w.heap.size < w1.heap.size := (by have := hb1.size; simp at this; omega); obtain ⟨k0, k1, l0, l1⟩ := HX.out.cells; clear hb1) | (go_at_call 24; refine (HF.out _).mono ?_; rintro e w2 ⟨rfl, hb2⟩; have HB := Lib.hid (bthen HB.out hb2); have HX := Lib.hid (HX.out.below hb2 hz1); obtain ⟨k0, k1, l0, l1⟩ := HX.out.cells; have hz2 : w.heap.size < w2.heap.size := (by have := hb2.size; omega); clear hb2))
      obtain ⟨q0, q1, _, _⟩ := (HX.out.store ⟨#[]⟩ false).cells
      refine bodyPost_ret (v := .agg #[.string ⟨#[]⟩, .bool false]) (by simp [results, Tryz.results9, go_sem, q0, q1]) rfl ⟨by rw [HD.out]; rfl, ?_⟩
      exact (HB.out.setCell (Nat.le_refl _) _).setCell (Nat.le_refl _) _
    | some v =>
      rw [hnum] at hD hn
      simp only [numR] at hn
      have HF := Lib.hid hn
      have HD := Lib.hid hD
      clear hD hnum hn
      go_enter Tryz.func9, Tryz.ntmps9
      go_wp2_with (first | (go_at_call 13; refine (HR.out _).mono ?_; rintro e w1 ⟨rfl, hb1⟩; have HB := Lib.hid (((Below.refl _ _).alloc (Nat.le_refl _) _).trans (hb1.mono (by simp))); have HX := Lib.hid (HBox.out.below hb1 (by simp)); have hz1 : w.heap.size < w1.heap.size := (by have := hb1.size; simp at this; omega); obtain ⟨k0, k1, l0, l1⟩ := HX.out.cells; clear hb1) | (go_at_call 24; refine (HF.out _).mono ?_; rintro e w2 ⟨rfl, hb2⟩; have HB := Lib.hid (bthen HB.out hb2); have HX := Lib.hid (HX.out.below hb2 hz1); obtain ⟨k0, k1, l0, l1⟩ := HX.out.cells; have hz2 : w.heap.size < w2.heap.size := (by have := hb2.size; omega); clear hb2))
      obtain ⟨q0, q1, _, _⟩ := (HX.out.store s true).cells
      refine bodyPost_ret (v := .agg #[.string s, .bool true]) (by simp [results, Tryz.results9, go_sem, q0, q1]) rfl ⟨by rw [HD.out]; simp [saidR], ?_⟩
      exact (HB.out.setCell (Nat.le_refl _) _).setCell (Nat.le_refl _) _
  have u2 : ((r : Int) == 2) = false := by simp; omega
  by_cases h3 : r = 3
  · subst h3
    have hk := fun w => keyRef_any s (by omega) w
    have hD : normD 3 s.data.toList = (match keyD s.data.toList with | some k => if k = [] then none else some k | none => none) := ((HD.out.trans (if_neg (by decide))).trans (if_neg (by decide))).trans (if_pos rfl)
    clear u1 u2 h1 h2 HD
    cases hkey : keyD s.data.toList with
    | none =>
      rw [hkey] at hD hk
      simp only [saidV] at hk
      have HF := Lib.hid hk
      have HD := Lib.hid hD
      clear hD hkey hk
      go_enter Tryz.func9, Tryz.ntmps9
      go_wp2_with (first | (go_at_call 13; refine (HR.out _).mono ?_; rintro e w1 ⟨rfl, hb1⟩; have HB := Lib.hid (((Below.refl _ _).alloc (Nat.le_refl _) _).trans (hb1.mono (by simp))); have HX := Lib.hid (HBox.out.below hb1 (by simp)); have hz1 : w.heap.size < w1.heap.size := (by have := hb1.size; simp at this; omega); obtain ⟨k0, k1, l0, l1⟩ := HX.out.cells; clear hb1) | (go_at_call 25; refine (HF.out _).mono ?_; rintro e w2 ⟨rfl, hb2⟩; have HB := Lib.hid (bthen HB.out hb2); have HX := Lib.hid (HX.out.below hb2 hz1); obtain ⟨k0, k1, l0, l1⟩ := HX.out.cells; have hz2 : w.heap.size < w2.heap.size := (by have := hb2.size; omega); clear hb2))
      obtain ⟨q0, q1, _, _⟩ := (HX.out.store ⟨#[]⟩ false).cells
      refine bodyPost_ret (v := .agg #[.string ⟨#[]⟩, .bool false]) (by simp [results, Tryz.results9, go_sem, q0, q1, hz2]) rfl ⟨by rw [HD.out]; rfl, ?_⟩
      exact ((HB.out.setCell (Nat.le_refl _) _).setCell (Nat.le_refl _) _).alloc (by have := HB.out.size; simp; omega) _
    | some k =>
      rw [hkey] at hD hk
      obtain ⟨K, hKB⟩ : ∃ K : ByteArray, K = ⟨k.toArray⟩ := ⟨_, rfl⟩
      have hKl : k = K.data.toList := by rw [hKB]
      simp only [saidV, ← hKB] at hk
      have HF := Lib.hid hk
      clear hk hkey hKB
      simp only at hD
      subst hKl
      by_cases hne : K.data.toList = []
      · obtain ⟨n1, n2⟩ := bytes_nil hne
        rw [if_pos hne] at hD
        have HD := Lib.hid hD
        clear hD hne
        go_enter Tryz.func9, Tryz.ntmps9
        go_wp2_with (first | (go_at_call 13; refine (HR.out _).mono ?_; rintro e w1 ⟨rfl, hb1⟩; have HB := Lib.hid (((Below.refl _ _).alloc (Nat.le_refl _) _).trans (hb1.mono (by simp))); have HX := Lib.hid (HBox.out.below hb1 (by simp)); have hz1 : w.heap.size < w1.heap.size := (by have := hb1.size; simp at this; omega); obtain ⟨k0, k1, l0, l1⟩ := HX.out.cells; clear hb1) | (go_at_call 25; refine (HF.out _).mono ?_; rintro e w2 ⟨rfl, hb2⟩; have HB := Lib.hid (bthen HB.out hb2); have HX := Lib.hid (HX.out.below hb2 hz1); obtain ⟨k0, k1, l0, l1⟩ := HX.out.cells; have hz2 : w.heap.size < w2.heap.size := (by have := hb2.size; omega); clear hb2))
        obtain ⟨q0, q1, _, _⟩ := (HX.out.store ⟨#[]⟩ false).cells
        refine bodyPost_ret (v := .agg #[.string ⟨#[]⟩, .bool false]) (by simp [results, Tryz.results9, go_sem, q0, q1, hz2]) rfl ⟨by rw [HD.out]; rfl, ?_⟩
        exact ((HB.out.setCell (Nat.le_refl _) _).setCell (Nat.le_refl _) _).alloc (by have := HB.out.size; simp; omega) _
      · obtain ⟨n1, n2⟩ := bytes_some hne
        rw [if_neg hne] at hD
        have HD := Lib.hid hD
        clear hD hne
        go_enter Tryz.func9, Tryz.ntmps9
        go_wp2_with (first | (go_at_call 13; refine (HR.out _).mono ?_; rintro e w1 ⟨rfl, hb1⟩; have HB := Lib.hid (((Below.refl _ _).alloc (Nat.le_refl _) _).trans (hb1.mono (by simp))); have HX := Lib.hid (HBox.out.below hb1 (by simp)); have hz1 : w.heap.size < w1.heap.size := (by have := hb1.size; simp at this; omega); obtain ⟨k0, k1, l0, l1⟩ := HX.out.cells; clear hb1) | (go_at_call 25; refine (HF.out _).mono ?_; rintro e w2 ⟨rfl, hb2⟩; have HB := Lib.hid (bthen HB.out hb2); have HX := Lib.hid (HX.out.below hb2 hz1); obtain ⟨k0, k1, l0, l1⟩ := HX.out.cells; have hz2 : w.heap.size < w2.heap.size := (by have := hb2.size; omega); clear hb2))
        obtain ⟨q0, q1, _, _⟩ := (HX.out.store K true).cells
        refine bodyPost_ret (v := .agg #[.string K, .bool true]) (by simp [results, Tryz.results9, go_sem, q0, q1, hz2]) rfl ⟨by rw [HD.out]; simp [saidR], ?_⟩
        exact ((HB.out.setCell (Nat.le_refl _) _).setCell (Nat.le_refl _) _).alloc (by have := HB.out.size; simp; omega) _
  have u3 : ((r : Int) == 3) = false := by simp; omega
  have hD := HD.out
  rw [if_neg h1, if_neg h2, if_neg h3] at hD
  by_cases h4 : r = 4
  · subst h4
    rw [if_pos rfl] at hD
    have HD := Lib.hid hD
    clear hD u1 u2 u3 h1 h2 h3
    go_enter Tryz.func9, Tryz.ntmps9
    go_wp2_with (go_at_call 13; refine (HR.out _).mono ?_; rintro e w1 ⟨rfl, hb1⟩; have HB := Lib.hid (((Below.refl _ _).alloc (Nat.le_refl _) _).trans (hb1.mono (by simp))); have HX := Lib.hid (HBox.out.below hb1 (by simp)); have hz1 : w.heap.size < w1.heap.size := (by have := hb1.size; simp at this; omega); obtain ⟨k0, k1, l0, l1⟩ := HX.out.cells; clear hb1)
    obtain ⟨q0, q1, _, _⟩ := (HX.out.store s true).cells
    refine bodyPost_ret (v := .agg #[.string s, .bool true]) (by simp [results, Tryz.results9, go_sem, q0, q1]) rfl ⟨by rw [HD.out]; simp [saidR], ?_⟩
    exact (HB.out.setCell (Nat.le_refl _) _).setCell (Nat.le_refl _) _
  · rw [if_neg h4] at hD
    have u4 : ((r : Int) == 4) = false := by simp; omega
    have HD := Lib.hid hD
    clear hD h1 h2 h3 h4
    go_enter Tryz.func9, Tryz.ntmps9
    go_wp2_with (go_at_call 13; refine (HR.out _).mono ?_; rintro e w1 ⟨rfl, hb1⟩; have HB := Lib.hid (((Below.refl _ _).alloc (Nat.le_refl _) _).trans (hb1.mono (by simp))); have HX := Lib.hid (HBox.out.below hb1 (by simp)); have hz1 : w.heap.size < w1.heap.size := (by have := hb1.size; simp at this; omega); obtain ⟨k0, k1, l0, l1⟩ := HX.out.cells; clear hb1)
    obtain ⟨q0, q1, _, _⟩ := (HX.out.store ⟨#[]⟩ false).cells
    refine bodyPost_ret (v := .agg #[.string ⟨#[]⟩, .bool false]) (by simp [results, Tryz.results9, go_sem, q0, q1]) rfl ⟨by rw [HD.out]; rfl, ?_⟩
    exact (HB.out.setCell (Nat.le_refl _) _).setCell (Nat.le_refl _) _
end Go.Proofs.YtnkgjlehegknjaaGreatDoor
