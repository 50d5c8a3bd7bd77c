/- strings.Cut at a '='; dn.rdn: the walks. -/
import Derived.Test.YtmpicolplknomaaDoorDnValW
namespace Go.Proofs.YtmpicolplknomaaDoor
open Go.RowKit
set_option linter.unusedVariables false

theorem name_idx : ∀ l : List UInt8, (Lib.indexByte l 61 = -1 ∧ nameD l = l ∧ afterD l = []) ∨ (∃ n : Nat, Lib.indexByte l 61 = (n : Int) ∧ n < l.length ∧ nameD l = l.take n ∧ afterD l = l.drop (n + 1))
  | [] => .inl ⟨rfl, rfl, rfl⟩
  | b :: l => by
    by_cases hb : b = 61
    · subst hb
      exact .inr ⟨0, by simp [Lib.indexByte], by simp, by simp [nameD], by simp [afterD]⟩
    · have hb' : (b == 61) = false := by simpa using hb
      rcases name_idx l with ⟨h1, h2, h3⟩ | ⟨n, h1, h2, h3, h4⟩
      · refine .inl ⟨by simp [Lib.indexByte, hb', h1], ?_, ?_⟩
        · unfold nameD at h2 ⊢; rw [List.takeWhile_cons_of_pos (by simpa using hb), h2]
        · unfold afterD at h3 ⊢; rw [List.dropWhile_cons_of_pos (by simpa using hb), h3]
      · refine .inr ⟨n + 1, ?_, by simpa using h2, ?_, ?_⟩
        · simp only [Lib.indexByte, hb', h1]
          have : ((n : Int) == -1) = false := by simp
          rw [this]; rfl
        · unfold nameD at h3 ⊢; rw [List.takeWhile_cons_of_pos (by simpa using hb), h3]; rfl
        · unfold afterD at h4 ⊢; rw [List.dropWhile_cons_of_pos (by simpa using hb), h4]; rfl

def eqV (l : List UInt8) : Value := .tuple #[.string ⟨(nameD l).toArray⟩, .string ⟨(afterD l).toArray⟩, .bool (decide (0 ≤ Lib.indexByte l 61))]

set_option maxRecDepth 100000 in
set_option maxHeartbeats 1000000 in
theorem cutEq0 (s : ByteArray) (w : World) (hs : s.size ≤ 281474976710656) :
    Calls Tryd.prog 43 #[.string s, .string ⟨#[61]⟩] w fun e w' => e = .returned (eqV s.data.toList) ∧ ∃ n, w.drewN n = w' := by
  have hix := fun w => (Tryd.stringslite_Index_one s 61 w)
  rcases name_idx s.data.toList with ⟨h1, h2, h3⟩ | ⟨n, h1, h2, h3, h4⟩
  · simp only [h1] at hix
    have HI := Lib.hid hix
    unfold eqV
    rw [h1, h2, h3, whole_ext]
    clear hix h1 h2 h3
    go_enter Tryd.func43, Tryd.ntmps43
    go_wp2_with (go_at_call 59; refine (HI.out _).mono ?_; rintro e w2 ⟨rfl, hw⟩; subst hw)
    refine bodyPost_ret (v := .tuple #[.string s, .string ⟨#[]⟩, .bool false]) (by simp [results, Tryd.results43, go_sem]) rfl ⟨rfl, 0, rfl⟩
  · simp only [h1] at hix
    have HI := Lib.hid hix
    unfold eqV
    rw [h1, h3, h4, head_ext, rest_ext]
    have hn : n < s.size := by rw [← bytes_len]; exact h2
    have ht : decide (0 ≤ (n : Int)) = true := by simp
    clear hix h1 h2 h3 h4
    have ew : IntKind.i64.wrap ((n : Int) + 1) = (n : Int) + 1 := IntWalk.i64_in _ (by omega)
    have g0 : (0 : Int) ≤ (n : Int) := by omega
    have g1 : (n : Int) ≤ (s.size : Int) := by omega
    have g2 : (0 : Int) ≤ (n : Int) + 1 := by omega
    have g3 : (n : Int) + 1 ≤ (s.size : Int) := by omega
    have g4 : ((n : Int) + 1).toNat = n + 1 := by omega
    rw [ht]
    go_enter Tryd.func43, Tryd.ntmps43
    go_wp2_with (go_at_call 59; refine (HI.out _).mono ?_; rintro e w2 ⟨rfl, hw⟩; subst hw)
    go_quiet (fail)
    go_wp2
    refine bodyPost_ret (v := .tuple #[.string (s.extract 0 n), .string (s.extract (n + 1) s.size), .bool true]) (by simp [results, Tryd.results43, go_sem]) rfl ⟨rfl, _, rfl⟩

set_option maxHeartbeats 1000000 in
theorem cutEq_any (s : ByteArray) (w : World) (hs : s.size ≤ 281474976710656) :
    Calls Tryd.prog 28 #[.string s, .string ⟨#[61]⟩] w fun e w' => e = .returned (eqV s.data.toList) ∧ Below w.heap.size w w' := by
  have hc := fun w => cutEq0 s w hs
  unfold eqV at hc ⊢
  have HC := Lib.hid hc
  clear hc
  go_enter Tryd.func28, Tryd.ntmps28
  go_wp2_with (go_at_call 43; refine (HC.out _).mono ?_; rintro e w2 ⟨rfl, n, rfl⟩)
  refine bodyPost_ret (v := .tuple #[.string ⟨(nameD s.data.toList).toArray⟩, .string ⟨(afterD s.data.toList).toArray⟩, .bool (decide (0 ≤ Lib.indexByte s.data.toList 61))]) (by simp [results, Tryd.results28, go_sem]) rfl ⟨rfl, rfl, rfl, rfl, Nat.le_refl _, fun _ _ => rfl⟩

def rdnV (o : Option R) : Value := match o with
  | some r => .tuple #[.agg #[.string ⟨r.1.toArray⟩, .string ⟨r.2.toArray⟩], .bool true]
  | none => .tuple #[.agg #[.string ⟨#[]⟩, .string ⟨#[]⟩], .bool false]

theorem name_le (l : List UInt8) : (nameD l).length ≤ l.length ∧ (afterD l).length ≤ l.length := by
  rcases name_idx l with ⟨_, h2, h3⟩ | ⟨n, _, h2, h3, h4⟩
  · rw [h2, h3]; exact ⟨Nat.le_refl _, Nat.zero_le _⟩
  · rw [h3, h4]; simp; omega
theorem valN_le : ∀ (n : Nat) (f : Bool) (l v : List UInt8), valN n f l = some v → v.length ≤ l.length
  | 0, f, l, v, h => by
    unfold valN at h
    split at h
    · cases h; exact Nat.zero_le _
    · cases h
  | n + 1, f, l, v, h => by
    by_cases e : l = []
    · subst e; rw [valN_nil] at h; cases h; exact Nat.zero_le _
    · rw [valN_succ n f e] at h
      by_cases h0 : (oneD f l).2 = 0
      · rw [if_pos h0] at h; cases h
      · rw [if_neg h0] at h
        cases hv : valN n false (l.drop (oneD f l).2) with
        | none => rw [hv] at h; cases h
        | some v' =>
          rw [hv] at h
          cases h
          have := valN_le n false _ _ hv
          have hp : 0 < l.length := List.length_pos_iff.2 e
          simp at this ⊢; omega
theorem val_le {l v : List UInt8} (h : valD l = some v) : v.length ≤ l.length := valN_le _ _ _ _ h

theorem rdn_no1 {l : List UInt8} (h : okType (nameD l) = false) : rdnD l = none := by unfold rdnD; rw [h]; rfl
theorem rdn_no2 {l : List UInt8} (h : valD (afterD l) = none) : rdnD l = none := by unfold rdnD; rw [h]; split <;> rfl
theorem rdn_yes {l v : List UInt8} (h1 : okType (nameD l) = true) (h : valD (afterD l) = some v) : rdnD l = if (!v.isEmpty && decide (v.length ≤ 100)) = true then some (nameD l, v) else none := by
  unfold rdnD
  rw [if_pos h1, h]
  simp only
  by_cases hv : v ≠ [] ∧ v.length ≤ 100
  · rw [if_pos hv, if_pos]; simp [hv.1, hv.2]
  · rw [if_neg hv, if_neg]
    intro h; apply hv
    simp only [Bool.and_eq_true, Bool.not_eq_true', List.isEmpty_eq_false_iff, decide_eq_true_eq] at h
    exact h

theorem boxR_stored {W w : World} {b n : Nat} (hb : Below n W w) (hn : n ≤ b) (x' y' : Value) : Below n W ((w.setCell ⟨b, 0, none⟩ x').setCell ⟨b, 1, none⟩ y') :=
  (hb.setCell (p := ⟨b, 0, none⟩) hn _).setCell (p := ⟨b, 1, none⟩) hn _

end Go.Proofs.YtmpicolplknomaaDoor
