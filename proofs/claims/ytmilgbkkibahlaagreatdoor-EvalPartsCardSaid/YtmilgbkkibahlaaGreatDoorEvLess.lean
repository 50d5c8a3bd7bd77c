/- match.Less, eval.notBelow, eval.lowered: the walks. -/
import Derived.Test.YtmilgbkkibahlaaGreatDoorEvPure
import Derived.Test.YtmilgbkkibahlaaGreatDoorMaSame
namespace Go.Proofs.YtmilgbkkibahlaaGreatDoor
open Go.RowKit
set_option linter.unusedVariables false
set_option linter.unusedSimpArgs false

def lessV (o : Option Bool) : Value := match o with
  | some b => .tuple #[.bool b, .bool true]
  | none => .tuple #[.bool false, .bool false]
theorem norm2_self {v x : List UInt8} (h : normD 2 v = some x) : x = v ∧ ∃ n, numD v = some n := by
  unfold normD at h
  rw [if_neg (fun e => by rw [if_pos e] at h; cases h)] at h
  rw [if_neg (by decide), if_pos rfl] at h
  split at h
  · rename_i hn
    obtain ⟨n, hn⟩ := Option.isSome_iff_exists.1 hn
    exact ⟨(Option.some.inj h).symm, n, hn⟩
  · cases h
theorem lessFl_any (t a b : ByteArray) (ha : a.size ≤ 281474976710656) (hb : b.size ≤ 281474976710656) (w : World) (hw : LaidW w) :
    Calls Tryz.prog 41 #[.string t, .string a, .string b] w fun e w' => e = .returned (lessV (lessD (ruleD t.data.toList) a.data.toList b.data.toList)) ∧ Below w.heap.size w w' := by
  cases hp : normD (ruleD t.data.toList) a.data.toList with
  | none =>
    have h := less_no t a b w hw (.inl hp)
    rw [show lessD (ruleD t.data.toList) a.data.toList b.data.toList = none from by unfold lessD; rw [hp]]
    exact h
  | some x =>
    cases hq : normD (ruleD t.data.toList) b.data.toList with
    | none =>
      have h := less_no t a b w hw (.inr (.inl hq))
      rw [show lessD (ruleD t.data.toList) a.data.toList b.data.toList = none from by unfold lessD; rw [hp, hq]]
      exact h
    | some y =>
      by_cases h1 : ruleD t.data.toList = 1
      · have hd : lessD (ruleD t.data.toList) a.data.toList b.data.toList = some (Op.bytesLess x y) := by unfold lessD; rw [hp, hq]; simp only [h1, if_true]
        rw [hd]
        rw [h1] at hp hq
        have h := less_text t a b ⟨x.toArray⟩ ⟨y.toArray⟩ w hw h1 (by rw [hp]) (by rw [hq])
        rw [ByteArray.toList_eq, ByteArray.toList_eq] at h
        exact h
      · by_cases h2 : ruleD t.data.toList = 2
        · rw [h2] at hp hq
          obtain ⟨rfl, m, hm⟩ := norm2_self hp
          obtain ⟨rfl, n, hn⟩ := norm2_self hq
          have hd : lessD (ruleD t.data.toList) a.data.toList b.data.toList = some (decide (m < n)) := by unfold lessD; rw [h2, hp, hq]; simp only [hm, hn]; rfl
          rw [hd]
          exact less_int t a b m n w ha hb hw h2 hp hq hm hn
        · have h := less_no t a b w hw (.inr (.inr ⟨h1, h2⟩))
          rw [show lessD (ruleD t.data.toList) a.data.toList b.data.toList = none from by unfold lessD; rw [hp, hq]; simp only; rw [if_neg h1, if_neg h2]]
          exact h
set_option maxRecDepth 100000 in
set_option maxHeartbeats 2000000 in
theorem notBelow_any (t a b : ByteArray) (ha : a.size ≤ 281474976710656) (hb : b.size ≤ 281474976710656) (w : World) (hw : LaidW w) :
    Calls Tryz.prog 47 #[.string t, .string a, .string b] w fun e w' => e = .returned (.bool (aboveE (ruleD t.data.toList) a.data.toList b.data.toList)) ∧ Below w.heap.size w w' := by
  have hl := lessFl_any t a b ha hb w hw
  unfold aboveE
  obtain ⟨o, ho⟩ : ∃ o, o = lessD (ruleD t.data.toList) a.data.toList b.data.toList := ⟨_, rfl⟩
  rw [← ho] at hl ⊢
  have HL := Lib.hid hl
  clear hl ho
  match o with
  | none =>
    go_enter Tryz.func47, Tryz.ntmps47
    go_wp2_with (go_at_call 41; refine (HL.out).mono ?_; rintro e w2 ⟨rfl, hb2⟩; have HB := Lib.hid hb2; clear hb2; unfold lessV)
    go_ret
    exact ⟨rfl, HB.out⟩
  | some true =>
    go_enter Tryz.func47, Tryz.ntmps47
    go_wp2_with (go_at_call 41; refine (HL.out).mono ?_; rintro e w2 ⟨rfl, hb2⟩; have HB := Lib.hid hb2; clear hb2; unfold lessV)
    go_ret
    exact ⟨rfl, HB.out⟩
  | some false =>
    go_enter Tryz.func47, Tryz.ntmps47
    go_wp2_with (go_at_call 41; refine (HL.out).mono ?_; rintro e w2 ⟨rfl, hb2⟩; have HB := Lib.hid hb2; clear hb2; unfold lessV)
    go_ret
    exact ⟨rfl, HB.out⟩
set_option maxRecDepth 100000 in
set_option maxHeartbeats 1000000 in
theorem lowEv_any (s : ByteArray) (w : World) (hs : s.size ≤ 281474976710656) :
    Calls Tryz.prog 63 #[.string s] w fun e w' => e = .returned (.string (lowB s)) ∧ Below w.heap.size w w' := by
  have hcv := fun w => Lib.run_convert_string_bytes (P := Tryz.prog) w 9 22 5 s Tryz.underlying9 Tryz.underlying22 Tryz.underlying5
  go_enter Tryz.func63, Tryz.ntmps63
  go_wp2
  clear hcv
  generalize grownCap w s.size 0 5 = cap
  go_loopw [10] (fun i wr => ∃ j : Nat, j ≤ s.size ∧ i = .int .i64 j ∧ LowAt w s j wr) (fun i _ => s.size - (intOf i).toNat)
  case atStart => exact ⟨0, by omega, rfl, lowAt_start w s⟩
  case round =>
    obtain ⟨j, hj, rfl, hlow⟩ := hrel
    by_cases hlt : j < s.size
    · have t1 : decide ((j : Int) < (s.size : Int)) = true := by simp; omega
      obtain ⟨c0, f0⟩ := hlow.cell hlt
      obtain ⟨c, hc⟩ : ∃ c : UInt8, c = s[j] := ⟨_, rfl⟩
      rw [← hc] at c0
      have hcl := c.toNat_lt
      have HLow := Lib.hid hlow
      clear hlow
      by_cases h1 : 65 ≤ c.toNat
      · have t2 : decide ((65 : Int) ≤ (c.toNat : Int)) = true := by simp; omega
        by_cases h2 : c.toNat ≤ 90
        · have t3 : decide ((c.toNat : Int) ≤ 90) = true := by simp; omega
          have HSt := Lib.hid (HLow.out.store hlt ((c.toNat : Int) + 97 - 65) (by rw [show (c.toNat : Int) + 97 - 65 = (c.toNat : Int) + 32 by omega, lowC_up h1 h2, hc]))
          clear hc
          go_wp2
          go_roundw
          case rel => exact ⟨j + 1, by omega, by go_num, HSt.out⟩
          case measure => simp [intOf]; omega
        · have t3 : decide ((c.toNat : Int) ≤ 90) = false := by simp; omega
          have HSt := Lib.hid (HLow.out.skip hlt (by rw [← hc]; exact lowC_no (by omega)))
          clear hc
          go_wp2
          go_roundw
          case rel => exact ⟨j + 1, by omega, by go_num, HSt.out⟩
          case measure => simp [intOf]; omega
      · have t2 : decide ((65 : Int) ≤ (c.toNat : Int)) = false := by simp; omega
        have HSt := Lib.hid (HLow.out.skip hlt (by rw [← hc]; exact lowC_no (by omega)))
        clear hc
        go_wp2
        go_roundw
        case rel => exact ⟨j + 1, by omega, by go_num, HSt.out⟩
        case measure => simp [intOf]; omega
    · obtain rfl : j = s.size := by omega
      have t1 : decide ((s.size : Int) < (s.size : Int)) = false := by simp
      have hcv := hlow.conv (cap := cap)
      have HLow := Lib.hid hlow
      clear hlow
      go_wp2
      go_ret
      exact ⟨rfl, HLow.out.1⟩
end Go.Proofs.YtmilgbkkibahlaaGreatDoor
