/- The document's two, escaped: the walks. -/
import Derived.Test.YtmpicolplknomaaDoorOfL
import Derived.Test.YtmpicolplknomaaDoorDnTextW
import Derived.Test.YtmpicolplknomaaDoorDnLowAll
import Derived.Deep.QuietTactic
import Derived.BigQuiet
namespace Go.Proofs.YtmpicolplknomaaDoor
open Go.RowKit
set_option linter.unusedVariables false

theorem drew_below {w : World} (n : Nat) : Below w.heap.size w (w.drewN n) := ⟨rfl, rfl, rfl, Nat.le_refl _, fun _ _ => rfl⟩

set_option maxRecDepth 100000 in
set_option maxHeartbeats 2000000 in
theorem two_any (x : UInt8) (w : World) : Calls Tryd.prog 55 #[.int .u8 x.toNat] w fun e w' => e = .returned (.string (ofL [92, digL (x.toNat / 16), digL (x.toNat % 16)])) ∧ ∃ n, w.drewN n = w' := by
  have hxl := x.toNat_lt
  obtain ⟨m, hm⟩ : ∃ m, m = x.toNat / 16 := ⟨_, rfl⟩
  obtain ⟨k, hk⟩ : ∃ k, k = x.toNat % 16 := ⟨_, rfl⟩
  have hm16 : m < 16 := by omega
  have hk16 : k < 16 := by omega
  have hmi : (x.toNat : Int) / 16 = (m : Int) := by omega
  have hki : (x.toNat : Int) % 16 = (k : Int) := by omega
  have hu := lower_at m hm16
  have hl := lower_at k hk16
  rw [← hm, ← hk]
  obtain ⟨D1, hD1⟩ : ∃ D, D = ofL [digL m] := ⟨_, rfl⟩
  obtain ⟨D2, hD2⟩ : ∃ D, D = ofL [digL k] := ⟨_, rfl⟩
  rw [← hD1] at hu
  rw [← hD2] at hl
  have hD1s : D1.size = 1 := by rw [hD1, ofL_size]; rfl
  have hD2s : D2.size = 1 := by rw [hD2, ofL_size]; rfl
  obtain ⟨T2, hT2⟩ : ∃ T, (⟨#[92]⟩ : ByteArray) ++ D1 = T := ⟨_, rfl⟩
  obtain ⟨T3, hT3⟩ : ∃ T, T2 ++ D2 = T := ⟨_, rfl⟩
  have hT2s : T2.size = 2 := by rw [← hT2, ByteArray.size_append, hD1s]; rfl
  have hnew : ofL [92, digL m, digL k] = T3 := by
    refine bytes_ext ?_
    rw [← hT3, ← hT2, hD1, hD2, app_list, app_list, ofL_list, ofL_list, ofL_list]; rfl
  have f2 : (9223372036854775807 < 1 + D1.size) = False := by simp; omega
  have f3 : (9223372036854775807 < T2.size + D2.size) = False := by simp; omega
  have g1 : (m : Int) + 1 ≤ 16 := by omega
  have g2 : (k : Int) + 1 ≤ 16 := by omega
  have g3 : ((m : Int) + 1).toNat = m + 1 := by omega
  have g4 : ((k : Int) + 1).toNat = k + 1 := by omega
  have g5 : (0 : Int) ≤ (m : Int) := by omega
  have g6 : (0 : Int) ≤ (k : Int) := by omega
  have g7 : (0 : Int) ≤ (m : Int) + 1 := by omega
  have g8 : (0 : Int) ≤ (k : Int) + 1 := by omega
  have w1' : IntKind.u8.wrap ((m : Int) + 1) = (m : Int) + 1 := IntWalk.u8_in _ (by omega)
  have w2' : IntKind.u8.wrap ((k : Int) + 1) = (k : Int) + 1 := IntWalk.u8_in _ (by omega)
  have HNew := Lib.hid hnew
  clear hm hk hD1 hD2 hD1s hD2s hT2s hnew
  go_enter Tryd.func55, Tryd.ntmps55
  go_wp2
  go_quiet (fail)
  go_wp2
  go_ret
  rw [HNew.out]
  exact ⟨rfl, _, rfl⟩

theorem need_ref (c : UInt8) (f l : Bool) (h : kindC c ≠ 0) : needC c f l = (([44, 43, 34, 92, 60, 62, 59] : List UInt8).contains c || (f && (decide (c.toNat = 35) || decide (c.toNat = 32))) || (l && decide (c.toNat = 32))) := by
  have := all_bytes (fun c => kindC c == 0 || (([true, false].all fun f => [true, false].all fun l => needC c f l == (([44, 43, 34, 92, 60, 62, 59] : List UInt8).contains c || (f && (decide (c.toNat = 35) || decide (c.toNat = 32))) || (l && decide (c.toNat = 32)))))) (by decide +kernel) c
  simp only [Bool.or_eq_true, beq_iff_eq, List.all_cons, List.all_nil, Bool.and_true, Bool.and_eq_true] at this
  have := this.resolve_left h
  cases f <;> cases l
  · exact this.2.2
  · exact this.2.1
  · exact this.1.2
  · exact this.1.1
theorem kind_zero (c : UInt8) : kindC c = 0 ↔ (c.toNat < 32 ∨ 126 < c.toNat) := by
  have := all_bytes (fun c => decide (kindC c = 0 ↔ (c.toNat < 32 ∨ 126 < c.toNat))) (by decide +kernel) c
  exact of_decide_eq_true this

def OutE (s : ByteArray) (j : Nat) (x : Value) : Prop := ∃ E, x = .string (ofL E) ∧ E ++ escR (decide (j = 0)) (s.data.toList.drop j) = escV s.data.toList

end Go.Proofs.YtmpicolplknomaaDoor
