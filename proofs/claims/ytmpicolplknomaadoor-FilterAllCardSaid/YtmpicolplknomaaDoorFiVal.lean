/- filter.value: the walk. -/
import Derived.Test.YtmpicolplknomaaDoorFiOne
import Derived.Test.YtmpicolplknomaaDoorDnUp
namespace Go.Proofs.YtmpicolplknomaaDoor
open Go.RowKit
set_option linter.unusedVariables false
set_option linter.unusedSimpArgs false

theorem oneQ_le : ∀ l : List UInt8, (oneQ l).2 ≤ l.length ∧ (oneQ l).2 ≤ 3
  | [] => ⟨Nat.zero_le _, Nat.zero_le _⟩
  | c :: r => by
    by_cases hp : plainC c = true
    · rw [oneQ_plain hp]; exact ⟨by simp, by simp⟩
    · by_cases h92 : c = 92
      · subst h92
        match r with
        | [] => rw [oneQ_short (by simp)]; exact ⟨Nat.zero_le _, Nat.zero_le _⟩
        | [_] => rw [oneQ_short (by simp)]; exact ⟨Nat.zero_le _, Nat.zero_le _⟩
        | x :: y :: r' =>
          rw [oneQ_esc]
          cases escD x y with
          | none => exact ⟨Nat.zero_le _, Nat.zero_le _⟩
          | some b => exact ⟨by simp, Nat.le_refl _⟩
      · rw [oneQ_no hp h92]; exact ⟨Nat.zero_le _, Nat.zero_le _⟩
theorem valQ_step (m : Nat) : ∀ {l : List UInt8}, l ≠ [] → valQ m l = if (oneQ l).2 = 0 ∨ m = 0 then none else (valQ (m - 1) (l.drop (oneQ l).2)).map ((oneQ l).1 :: ·)
  | [], h => absurd rfl h
  | c :: r, _ => by
    cases m with
    | zero => rw [if_pos (.inr rfl)]; rfl
    | succ m =>
      by_cases hp : plainC c = true
      · rw [oneQ_plain hp, if_neg (by simp), valQ_plain hp]
        rfl
      · by_cases h92 : c = 92
        · subst h92
          match r with
          | [] => rw [oneQ_short (by simp), if_pos (.inl rfl), valQ_one]
          | [_] => rw [oneQ_short (by simp), if_pos (.inl rfl), valQ_two]
          | x :: y :: r' =>
            rw [oneQ_esc, valQ_esc]
            cases escD x y with
            | none => rfl
            | some b => rfl
        · rw [oneQ_no hp h92, if_pos (.inl rfl), valQ_no hp h92]
def valV2 (o : Option (List UInt8)) : Value := match o with
  | some v => .tuple #[.string ⟨v.toArray⟩, .bool true]
  | none => .tuple #[.string ⟨#[]⟩, .bool false]
theorem below_drewN2 {n : Nat} {w w' : World} (h : Below n w w') (k : Nat) : Below n w (w'.drewN k) := ⟨h.1, h.2, h.3, h.4, h.5⟩

set_option maxRecDepth 100000 in
set_option maxHeartbeats 4000000 in
theorem valueFl_any (s : ByteArray) (hs : s.size ≤ 140737488351232) (w : World) :
    Calls Tryd.prog 66 #[.string s] w fun e w' => e = .returned (valV2 (valQ 100 s.data.toList)) ∧ Below w.heap.size w w' := by
  obtain ⟨i0, hi, hz0, hz1, hz2⟩ := info_parts infoB
  obtain ⟨R, hR⟩ : ∃ R, R = valQ 100 s.data.toList := ⟨_, rfl⟩
  rw [← hR]
  have HR := Lib.hid hR
  clear hR
  go_enter Tryd.func66, Tryd.ntmps66
  go_wp2
  go_loopw [0, 4] (fun sv b wr => ∃ (S : ByteArray) (u : List UInt8), sv = .string S ∧ S.size ≤ s.size ∧ u.length ≤ 100 ∧ OwnB w.heap.size wr b u ∧ Below w.heap.size w wr ∧ R = (valQ (100 - u.length) S.data.toList).map (u ++ ·))
    (fun sv _ _ => match sv with | .string S => S.size | _ => 0)
  case atStart => exact ⟨s, [], rfl, Nat.le_refl _, by simp, own_nil _ _, Below.refl _ _, by rw [HR.out]; simp⟩
  case round =>
    obtain ⟨S, u, rfl, hSs, hu, hown, hbel, hres⟩ := hrel
    rename World => wo
    have HBel := Lib.hid hbel
    have hbs := hbel.size
    obtain ⟨a, cp, hv⟩ := own_slice hown
    subst hv
    by_cases he : S.data.toList = []
    · obtain ⟨e1, e2⟩ := bytes_nil he
      have h0 : R = some u := by
        rw [hres, he]
        cases (100 - u.length) <;> simp [valQ]
      have hcv := conv_own hown
      have HRes := Lib.hid h0
      clear hown hres hbel he h0
      go_wp2
      go_ret2
      rw [HRes.out]
      exact ⟨rfl, HBel.out⟩
    · obtain ⟨e1, e2⟩ := bytes_some he
      have hpos : 0 < S.size := by rw [← bytes_len]; exact List.length_pos_iff.2 he
      have hone := fun w => oneFl_any S hpos w
      rw [valQ_step _ he] at hres
      obtain ⟨hle, hle3⟩ := oneQ_le S.data.toList
      rw [bytes_len] at hle
      obtain ⟨r, hr⟩ : ∃ r, r = oneQ S.data.toList := ⟨_, rfl⟩
      simp only [← hr] at hone hres hle hle3
      obtain ⟨c, n⟩ := r
      simp only at hone hres hle hle3
      have HOne := Lib.hid hone
      have hcl := c.toNat_lt
      by_cases h0 : n = 0
      · subst h0
        have h1 : R = none := by rw [hres, if_pos (.inl rfl)]; rfl
        have HRes := Lib.hid h1
        clear hone hr hres hbel hown he h1
        go_wp2_with (go_at_call 81; refine (HOne.out _).mono ?_; rintro e w2 ⟨rfl, q, rfl⟩)
        go_ret2
        rw [HRes.out]
        exact ⟨rfl, below_drewN2 HBel.out q⟩
      · have t2 : ((n : Int) == 0) = false := by simp; omega
        by_cases h100 : u.length = 100
        · have t3 : ((u.length : Int) == 100) = true := by simp; omega
          have h1 : R = none := by rw [hres, if_pos (.inr (by omega))]; rfl
          have HRes := Lib.hid h1
          clear hone hr hres hbel hown he h1
          go_wp2_with (go_at_call 81; refine (HOne.out _).mono ?_; rintro e w2 ⟨rfl, q, rfl⟩)
          go_ret2
          rw [HRes.out]
          exact ⟨rfl, below_drewN2 HBel.out q⟩
        · have t3 : ((u.length : Int) == 100) = false := by simp; omega
          have hnew : R = (valQ (100 - (u ++ [c]).length) (S.extract n S.size).data.toList).map (u ++ [c] ++ ·) := by
            rw [hres, if_neg (by omega), rest_list]
            simp [Option.map_map, Function.comp_def, Nat.sub_sub]
          have hSz : (S.extract n S.size).size = S.size - n := by rw [← bytes_len, rest_list, List.length_drop, bytes_len]
          have HN := Lib.hid hnew
          have HO := Lib.hid hown
          have HSz := Lib.hid hSz
          have HPos := Lib.hid hpos
          have hn1 : (n : Int) ≤ (S.size : Int) := by omega
          clear hone hr hres hbel hown hnew he hSz hpos
          go_wp2_with (first
            | (go_at_call 81; refine (HOne.out _).mono ?_; rintro e w2 ⟨rfl, q, rfl⟩)
            | (at_builtin; refine wpList_append_one rfl (.tmp 21) (.tmp 23) rfl w.heap.size i0 hi hz0 hz1 hz2 (.slice a u.length cp) u rfl (c.toNat : Int) c rfl (show OwnB w.heap.size (wo.drewN q) (.slice a u.length cp) u from HO.out) rfl (by omega) hbs ?_; intro v3 w3 hown3 hb3; have HO3 := Lib.hid hown3; have HB3 := Lib.hid ((below_drewN2 HBel.out q).trans hb3); clear hown3 hb3))
          go_roundw
          case rel => exact ⟨_, u ++ [c], rfl, by rw [HSz.out]; omega, by simp; omega, HO3.out, HB3.out, HN.out⟩
          case measure => (have := HSz.out; have := HPos.out; simp only []; omega)
end Go.Proofs.YtmpicolplknomaaDoor
