/- The document's SameVal, Less: the walks. -/
import Derived.Test.YtnkgjlehegknjaaGreatDoorMaRefM
import Derived.Deep.RegionLaw
import Derived.RegionTactic
import Derived.BigRegion
import Derived.Deep.RegionHeld3
namespace Go.Proofs.YtnkgjlehegknjaaGreatDoor
open Go.RowKit
set_option linter.unusedVariables false

theorem normR_at (T s : ByteArray) (hT : T.size ≤ 281474976710656) (r : Nat) (hr : ruleD T.data.toList = r) (o : Option (List UInt8)) (h : normD r s.data.toList = o) (w : World) :
    Calls Tryz.prog 9 #[.string T, .string s] w fun e w' => e = .returned (.agg #[.string (sB o), .bool o.isSome]) ∧ Below w.heap.size w w' := by
  have := normRef_any T s hT w
  rw [hr, h, saidR_eq] at this
  exact this

set_option maxRecDepth 100000 in
set_option maxHeartbeats 8000000 in
theorem sameVal_any (t a b : ByteArray) (ht : t.size ≤ 281474976710656) (w : World) :
    Calls Tryz.prog 15 #[.string t, .string a, .string b] w fun e w' => e = .returned (.bool (sameO (normD (ruleD t.data.toList) a.data.toList) (normD (ruleD t.data.toList) b.data.toList))) ∧ Below w.heap.size w w' := by
  obtain ⟨r, hr⟩ : ∃ r, ruleD t.data.toList = r := ⟨_, rfl⟩
  obtain ⟨p, hp⟩ : ∃ p, normD r a.data.toList = p := ⟨_, rfl⟩
  obtain ⟨q, hq⟩ : ∃ q, normD r b.data.toList = q := ⟨_, rfl⟩
  have ha := fun w => normR_at t a ht r hr p hp w
  have hb := fun w => normR_at t b ht r hr q hq w
  rw [hr, hp, hq]
  have hs : sameO p q = ((p.isSome && q.isSome) && ((sB p).toList == (sB q).toList)) := by
    cases p <;> cases q <;> simp [sameO, sB, ByteArray.toList_eq]
  rw [hs]
  clear hs hr hp hq
  generalize sB p = X at ha ⊢
  generalize sB q = Y at hb ⊢
  generalize p.isSome = u at ha ⊢
  generalize q.isSome = v at hb ⊢
  have HA := Lib.hid ha
  have HQ := Lib.hid hb
  have tok : True := trivial
  clear ha hb
  go_enter Tryz.func15, Tryz.ntmps15
  go_wp2_with (go_at_call 9; first | (have _t := tok; (with_reducible refine (HA.out _).mono ?_); rintro e w1 ⟨rfl, hb1⟩; have HB := Lib.hid hb1; clear hb1 tok) | ((with_reducible refine (HQ.out _).mono ?_); rintro e w2 ⟨rfl, hb2⟩; have HB := Lib.hid (bthen HB.out hb2); clear hb2))
  all_goals
    go_ret
    exact ⟨by simp_all, (HB.out.alloc HB.out.size _).alloc (by have := HB.out.size; simp; omega) _⟩

set_option maxRecDepth 100000 in
set_option maxHeartbeats 8000000 in
theorem lessRef_no (t a b : ByteArray) (ht : t.size ≤ 281474976710656) (w : World) (h : normD (ruleD t.data.toList) a.data.toList = none ∨ normD (ruleD t.data.toList) b.data.toList = none ∨ (ruleD t.data.toList ≠ 1 ∧ ruleD t.data.toList ≠ 2)) :
    Calls Tryz.prog 11 #[.string t, .string a, .string b] w fun e w' => e = .returned (.tuple #[.bool false, .bool false]) ∧ Below w.heap.size w w' := by
  obtain ⟨r, hr⟩ : ∃ r, ruleD t.data.toList = r := ⟨_, rfl⟩
  obtain ⟨p, hp⟩ : ∃ p, normD r a.data.toList = p := ⟨_, rfl⟩
  obtain ⟨q, hq⟩ : ∃ q, normD r b.data.toList = q := ⟨_, rfl⟩
  have ha := fun w => normR_at t a ht r hr p hp w
  have hb := fun w => normR_at t b ht r hr q hq w
  have hru := fun w => ruleRef_any t ht w
  rw [hr] at hru h
  rw [hp, hq] at h
  have h' : (p.isSome && q.isSome) = false ∨ (((r : Int) != 1) = true ∧ ((r : Int) != 2) = true) := by
    rcases h with h | h | h
    · left; rw [h]; rfl
    · left; rw [h]; simp
    · right; constructor <;> (rw [bne_iff_ne]; omega)
  clear hr hp hq h
  generalize sB p = X at ha
  generalize sB q = Y at hb
  generalize p.isSome = u at ha h'
  generalize q.isSome = v at hb h'
  have HA := Lib.hid ha
  have HQ := Lib.hid hb
  have HR := Lib.hid hru
  have tok : True := trivial
  clear ha hb hru
  rcases h' with h' | ⟨h1, h2⟩
  · rcases (show u = false ∨ (u = true ∧ v = false) by cases u <;> cases v <;> simp_all) with rfl | ⟨rfl, rfl⟩
    all_goals
      clear h'
      go_enter Tryz.func11, Tryz.ntmps11
      go_wp2_with (first | (go_at_call 9; first | (have _t := tok; (with_reducible refine (HA.out _).mono ?_); rintro e w1 ⟨rfl, hb1⟩; have HB := Lib.hid hb1; clear hb1 tok) | ((with_reducible refine (HQ.out _).mono ?_); rintro e w2 ⟨rfl, hb2⟩; have HB := Lib.hid (bthen HB.out hb2); clear hb2)) | (go_at_call 13; refine (HR.out _).mono ?_; rintro e w3 ⟨rfl, hb3⟩; have HB := Lib.hid (bthen HB.out hb3); clear hb3))
      all_goals
        go_ret2
        exact ⟨rfl, (HB.out.alloc HB.out.size _).alloc (by have := HB.out.size; simp; omega) _⟩
  · cases u <;> cases v
    all_goals
      go_enter Tryz.func11, Tryz.ntmps11
      go_wp2_with (first | (go_at_call 9; first | (have _t := tok; (with_reducible refine (HA.out _).mono ?_); rintro e w1 ⟨rfl, hb1⟩; have HB := Lib.hid hb1; clear hb1 tok) | ((with_reducible refine (HQ.out _).mono ?_); rintro e w2 ⟨rfl, hb2⟩; have HB := Lib.hid (bthen HB.out hb2); clear hb2)) | (go_at_call 13; refine (HR.out _).mono ?_; rintro e w3 ⟨rfl, hb3⟩; have HB := Lib.hid (bthen HB.out hb3); clear hb3))
      all_goals
        go_ret2
        exact ⟨rfl, (HB.out.alloc HB.out.size _).alloc (by have := HB.out.size; simp; omega) _⟩

set_option maxRecDepth 100000 in
set_option maxHeartbeats 8000000 in
theorem lessRef_text (t a b X Y : ByteArray) (ht : t.size ≤ 281474976710656) (w : World) (hr : ruleD t.data.toList = 1) (hp : normD 1 a.data.toList = some X.data.toList) (hq : normD 1 b.data.toList = some Y.data.toList) :
    Calls Tryz.prog 11 #[.string t, .string a, .string b] w fun e w' => e = .returned (.tuple #[.bool (Op.bytesLess X.toList Y.toList), .bool true]) ∧ Below w.heap.size w w' := by
  have ha := fun w => normR_at t a ht 1 hr _ hp w
  have hb := fun w => normR_at t b ht 1 hr _ hq w
  have hru := fun w => ruleRef_any t ht w
  rw [hr] at hru
  have e1 : sB (some X.data.toList) = X := by simp [sB]
  have e2 : sB (some Y.data.toList) = Y := by simp [sB]
  simp only [e1, Option.isSome_some] at ha
  simp only [e2, Option.isSome_some] at hb
  have HA := Lib.hid ha
  have HQ := Lib.hid hb
  have HR := Lib.hid hru
  have tok : True := trivial
  clear ha hb hru hr hp hq e1 e2
  go_enter Tryz.func11, Tryz.ntmps11
  go_wp2_with (first | (go_at_call 9; first | (have _t := tok; (with_reducible refine (HA.out _).mono ?_); rintro e w1 ⟨rfl, hb1⟩; have HB := Lib.hid hb1; clear hb1 tok) | ((with_reducible refine (HQ.out _).mono ?_); rintro e w2 ⟨rfl, hb2⟩; have HB := Lib.hid (bthen HB.out hb2); clear hb2)) | (go_at_call 13; refine (HR.out _).mono ?_; rintro e w3 ⟨rfl, hb3⟩; have HB := Lib.hid (bthen HB.out hb3); clear hb3))
  go_ret2
  exact ⟨rfl, (HB.out.alloc HB.out.size _).alloc (by have := HB.out.size; simp; omega) _⟩

def TwoAt (W : World) (b : Nat) (x y : Value) (w : World) : Prop := w.cell? ⟨b, 0, none⟩ = some x ∧ w.cell? ⟨b + 1, 0, none⟩ = some y ∧ b + 1 < W.heap.size ∧ Below W.heap.size W w
theorem TwoAt.go {W w w1 : World} {b : Nat} {x y : Value} (h : TwoAt W b x y w) (hb : Below w.heap.size w w1) : w1.cell? ⟨b, 0, none⟩ = some x ∧ w1.cell? ⟨b + 1, 0, none⟩ = some y ∧ TwoAt W b x y w1 := by
  obtain ⟨h1, h2, h3, h4⟩ := h
  have hs := h4.size
  have c1 := (hb.cell (p := ⟨b, 0, none⟩) (by show b < _; omega)).trans h1
  have c2 := (hb.cell (p := ⟨b + 1, 0, none⟩) (by show b + 1 < _; omega)).trans h2
  exact ⟨c1, c2, c1, c2, h3, h4.trans (hb.mono hs)⟩

set_option maxRecDepth 100000 in
set_option maxHeartbeats 8000000 in
theorem lessRef_int (t a b : ByteArray) (m n : Int) (ht : t.size ≤ 281474976710656) (ha0 : a.size ≤ 281474976710656) (hb0 : b.size ≤ 281474976710656) (w : World) (hr : ruleD t.data.toList = 2) (hp : normD 2 a.data.toList = some a.data.toList) (hq : normD 2 b.data.toList = some b.data.toList)
    (hm : numD a.data.toList = some m) (hn : numD b.data.toList = some n) :
    Calls Tryz.prog 11 #[.string t, .string a, .string b] w fun e w' => e = .returned (.tuple #[.bool (decide (m < n)), .bool true]) ∧ Below w.heap.size w w' := by
  have ha := fun w => normR_at t a ht 2 hr _ hp w
  have hb := fun w => normR_at t b ht 2 hr _ hq w
  have hru := fun w => ruleRef_any t ht w
  rw [hr] at hru
  have e1 : sB (some a.data.toList) = a := by simp [sB]
  have e2 : sB (some b.data.toList) = b := by simp [sB]
  simp only [e1, Option.isSome_some] at ha
  simp only [e2, Option.isSome_some] at hb
  have h1 := fun w => numberRef_any a ha0 w
  have h2 := fun w => numberRef_any b hb0 w
  rw [hm] at h1
  rw [hn] at h2
  simp only [numR] at h1 h2
  have HA := Lib.hid ha
  have HQ := Lib.hid hb
  have HR := Lib.hid hru
  have H1 := Lib.hid h1
  have H2 := Lib.hid h2
  have tok : True := trivial
  clear ha hb hru hr hp hq e1 e2 h1 h2 hm hn
  go_enter Tryz.func11, Tryz.ntmps11
  go_wp2_with (first | (go_at_call 9; first | (have _t := tok; (with_reducible refine (HA.out _).mono ?_); rintro e w1 ⟨rfl, hb1⟩; have HB := Lib.hid hb1; clear hb1 tok) | ((with_reducible refine (HQ.out _).mono ?_); rintro e w2 ⟨rfl, hb2⟩; have HB := Lib.hid (bthen HB.out hb2); clear hb2)) | (go_at_call 13; refine (HR.out _).mono ?_; rintro e w3 ⟨rfl, hb3⟩; have HB := Lib.hid (bthen HB.out hb3); clear hb3))
  have hbw := (HB.out.alloc HB.out.size (.cells #[.string a, .bool true] 26)).alloc (by have := HB.out.size; simp; omega) (.cells #[.string b, .bool true] 26)
  have hst : TwoAt ((w3.alloc (.cells #[.string a, .bool true] 26)).alloc (.cells #[.string b, .bool true] 26)) w3.heap.size (.string a) (.string b) ((w3.alloc (.cells #[.string a, .bool true] 26)).alloc (.cells #[.string b, .bool true] 26)) := ⟨by simp, by simp, by simp, Below.refl _ _⟩
  generalize ((w3.alloc (.cells #[.string a, .bool true] 26)).alloc (.cells #[.string b, .bool true] 26)) = W at *
  generalize w3.heap.size = b8 at *
  have HBW := Lib.hid hbw
  have hst := hst.go (Below.refl _ _)
  have hfl := field_num0
  clear hbw
  go_region_held3 (fun w' => w'.cell? ⟨b8, 0, none⟩ = some (.string a) ∧ w'.cell? ⟨b8 + 1, 0, none⟩ = some (.string b) ∧ TwoAt W b8 (.string a) (.string b) w')
    (first | exact hst | (go_split_ands; exact TwoAt.go (by assumption) hb4) | (go_split_ands; exact TwoAt.go (by assumption) (Below.refl _ _).drew) | (go_split_ands; exact TwoAt.go (by assumption) (Below.refl _ _)))
    (first | (go_at_call 24; go_split_ands; (with_reducible refine (H1.out _).mono ?_); rintro e w4 ⟨rfl, hb4⟩) | (go_at_call 24; go_split_ands; (with_reducible refine (H2.out _).mono ?_); rintro e w4 ⟨rfl, hb4⟩))
  go_split_ands
  have hT : TwoAt W b8 (.string a) (.string b) w4 := by assumption
  have HT := Lib.hid hT.2.2.2
  clear hT
  go_wp2
  go_ret2
  exact ⟨rfl, HBW.out.trans (HT.out.mono HBW.out.size)⟩
end Go.Proofs.YtnkgjlehegknjaaGreatDoor
