/- strings.CutPrefix, Cut, SplitN, IndexAny, HasPrefix, Contains as filter uses them. -/
import Derived.Test.YtmilgbkkibahlaaGreatDoorFiIxA
import Derived.Test.YtmilgbkkibahlaaGreatDoorShelf
import Derived.Lib.IndexAny
namespace Go.Proofs.YtmilgbkkibahlaaGreatDoor
open Go.RowKit
set_option linter.unusedVariables false
set_option linter.unusedSimpArgs false

/-- A text without its first k bytes. -/
theorem ext_list (s : ByteArray) (k : Nat) : (s.extract k s.size).data.toList = s.data.toList.drop k := rest_list s k
set_option maxRecDepth 100000 in
set_option maxHeartbeats 1000000 in
theorem cutPre0 (s p : ByteArray) (hp : p.size ≤ 1000) (w : World) : Calls Tryz.prog 95 #[.string s, .string p] w fun e w' => e = .returned (if Lib.hasPrefix s.data.toList p.data.toList then .tuple #[.string (s.extract p.size s.size), .bool true] else .tuple #[.string s, .bool false]) ∧ w = w' := by
  have hh := fun w => (Tryz.stringslite_HasPrefix s p w)
  have hsz : Lib.hasPrefix s.data.toList p.data.toList = true → p.size ≤ s.size := fun h => by
    have := List.IsPrefix.length_le (List.isPrefixOf_iff_prefix.1 h)
    rwa [bytes_len, bytes_len] at this
  obtain ⟨b, hb⟩ : ∃ b, b = Lib.hasPrefix s.data.toList p.data.toList := ⟨_, rfl⟩
  rw [← hb] at hh hsz ⊢
  have HH := Lib.hid hh
  clear hh hb
  cases b with
  | false =>
    rw [if_neg (by decide)]
    clear hsz
    go_enter Tryz.func95, Tryz.ntmps95
    go_wp2_with (go_at_call 99; refine (HH.out _).mono ?_; rintro e w2 ⟨rfl, hw⟩; subst hw)
    go_ret2
    exact ⟨rfl, rfl⟩
  | true =>
    have h1 : p.size ≤ s.size := hsz rfl
    have h2 : (p.size : Int) ≤ (s.size : Int) := by omega
    rw [if_pos rfl]
    clear hsz
    go_enter Tryz.func95, Tryz.ntmps95
    go_wp2_with (go_at_call 99; refine (HH.out _).mono ?_; rintro e w2 ⟨rfl, hw⟩; subst hw)
    go_ret2
    exact ⟨rfl, rfl⟩
set_option maxRecDepth 100000 in
set_option maxHeartbeats 1000000 in
theorem cutPre_any (s p : ByteArray) (hp : p.size ≤ 1000) (w : World) : Calls Tryz.prog 80 #[.string s, .string p] w fun e w' => e = .returned (if Lib.hasPrefix s.data.toList p.data.toList then .tuple #[.string (s.extract p.size s.size), .bool true] else .tuple #[.string s, .bool false]) ∧ w = w' := by
  have hh := fun w => cutPre0 s p hp w
  obtain ⟨b, hb⟩ : ∃ b, b = Lib.hasPrefix s.data.toList p.data.toList := ⟨_, rfl⟩
  rw [← hb] at hh ⊢
  cases b with
  | false =>
    rw [if_neg (by decide)] at hh ⊢
    have HH := Lib.hid hh
    clear hh hb
    go_enter Tryz.func80, Tryz.ntmps80
    go_wp2_with (go_at_call 95; refine (HH.out _).mono ?_; rintro e w2 ⟨rfl, rfl⟩)
    go_ret2
    exact ⟨rfl, rfl⟩
  | true =>
    rw [if_pos rfl] at hh ⊢
    have HH := Lib.hid hh
    clear hh hb
    go_enter Tryz.func80, Tryz.ntmps80
    go_wp2_with (go_at_call 95; refine (HH.out _).mono ?_; rintro e w2 ⟨rfl, rfl⟩)
    go_ret2
    exact ⟨rfl, rfl⟩

/-- A byte's place in a list, by takeWhile. -/
theorem byte_idx (x : UInt8) : ∀ l : List UInt8, (Lib.indexByte l x = -1 ∧ l.contains x = false) ∨ (∃ n : Nat, Lib.indexByte l x = (n : Int) ∧ n < l.length ∧ l.contains x = true ∧ l.takeWhile (· ≠ x) = l.take n ∧ (l.dropWhile (· ≠ x)).drop 1 = l.drop (n + 1))
  | [] => .inl ⟨rfl, rfl⟩
  | b :: l => by
    by_cases hb : b = x
    · subst hb
      exact .inr ⟨0, by simp [Lib.indexByte], by simp, by simp, by simp, by simp⟩
    · have hb' : (b == x) = false := by simpa using hb
      have hx' : (x == b) = false := by simpa using fun e => hb e.symm
      rcases byte_idx x l with ⟨h1, h2⟩ | ⟨n, h1, h2, h3, h4, h5⟩
      · exact .inl ⟨by simp [Lib.indexByte, hb', h1], by rw [List.contains_cons, hx', h2]; rfl⟩
      · refine .inr ⟨n + 1, ?_, by simpa using h2, by rw [List.contains_cons, h3, Bool.or_true], ?_, ?_⟩
        · simp only [Lib.indexByte, hb', h1]
          have : ((n : Int) == -1) = false := by simp
          rw [this]; rfl
        · rw [List.takeWhile_cons_of_pos (by simpa using hb), h4]; rfl
        · rw [List.dropWhile_cons_of_pos (by simpa using hb), h5]; rfl
/-- What strings.Cut tells at one byte. -/
def cutBV (x : UInt8) (l : List UInt8) : Value := if l.contains x then .tuple #[strV (l.takeWhile (· ≠ x)), strV ((l.dropWhile (· ≠ x)).drop 1), .bool true] else .tuple #[strV l, strV [], .bool false]
set_option maxRecDepth 100000 in
set_option maxHeartbeats 1000000 in
theorem cutB0 (x : UInt8) (s : ByteArray) (w : World) (hs : s.size ≤ 281474976710656) :
    Calls Tryz.prog 97 #[.string s, .string ⟨#[x]⟩] w fun e w' => e = .returned (cutBV x s.data.toList) ∧ ∃ n, w.drewN n = w' := by
  have hix := fun w => (Tryz.stringslite_Index_one s x w)
  rcases byte_idx x s.data.toList with ⟨h1, h2⟩ | ⟨n, h1, h2, h3, h4, h5⟩
  · simp only [h1] at hix
    have HI := Lib.hid hix
    have hr : cutBV x s.data.toList = .tuple #[.string s, .string ⟨#[]⟩, .bool false] := by unfold cutBV; rw [if_neg (by rw [h2]; decide), strV_whole]; rfl
    rw [hr]
    clear hix h1 h2 hr
    go_enter Tryz.func97, Tryz.ntmps97
    go_wp2_with (go_at_call 115; refine (HI.out _).mono ?_; rintro e w2 ⟨rfl, hw⟩; subst hw)
    refine bodyPost_ret (v := .tuple #[.string s, .string ⟨#[]⟩, .bool false]) (by simp [results, Tryz.results97, go_sem]) rfl ⟨rfl, 0, rfl⟩
  · simp only [h1] at hix
    have HI := Lib.hid hix
    have hr : cutBV x s.data.toList = .tuple #[.string (s.extract 0 n), .string (s.extract (n + 1) s.size), .bool true] := by
      unfold cutBV
      rw [if_pos h3, h4, h5]
      show Value.tuple #[.string ⟨(s.data.toList.take n).toArray⟩, .string ⟨(s.data.toList.drop (n + 1)).toArray⟩, .bool true] = _
      rw [head_ext, rest_ext]
    rw [hr]
    have hn : n < s.size := by rw [← bytes_len]; exact h2
    have ht : decide (0 ≤ (n : Int)) = true := by simp
    clear hix h1 h2 h3 h4 h5 hr
    have ew : IntKind.i64.wrap ((n : Int) + 1) = (n : Int) + 1 := IntWalk.i64_in _ (by omega)
    have g0 : (0 : Int) ≤ (n : Int) := by omega
    have g1 : (n : Int) ≤ (s.size : Int) := by omega
    have g2 : (0 : Int) ≤ (n : Int) + 1 := by omega
    have g3 : (n : Int) + 1 ≤ (s.size : Int) := by omega
    have g4 : ((n : Int) + 1).toNat = n + 1 := by omega
    go_enter Tryz.func97, Tryz.ntmps97
    go_wp2_with (go_at_call 115; refine (HI.out _).mono ?_; rintro e w2 ⟨rfl, hw⟩; subst hw)
    go_quiet (fail)
    go_wp2
    refine bodyPost_ret (v := .tuple #[.string (s.extract 0 n), .string (s.extract (n + 1) s.size), .bool true]) (by simp [results, Tryz.results97, go_sem]) rfl ⟨rfl, _, rfl⟩
set_option maxRecDepth 100000 in
set_option maxHeartbeats 1000000 in
theorem cutB_any (x : UInt8) (s : ByteArray) (w : World) (hs : s.size ≤ 281474976710656) :
    Calls Tryz.prog 82 #[.string s, .string ⟨#[x]⟩] w fun e w' => e = .returned (cutBV x s.data.toList) ∧ ∃ n, w.drewN n = w' := by
  have hh := fun w => cutB0 x s w hs
  obtain ⟨a, b, c, hv⟩ : ∃ a b c, cutBV x s.data.toList = .tuple #[strV a, strV b, .bool c] := by
    unfold cutBV
    split <;> exact ⟨_, _, _, rfl⟩
  rw [hv] at hh ⊢
  have HH := Lib.hid hh
  clear hh hv
  obtain ⟨A, hA, _⟩ := strV_text a
  obtain ⟨B, hB, _⟩ := strV_text b
  rw [hA, hB] at HH ⊢
  clear hA hB
  go_enter Tryz.func82, Tryz.ntmps82
  go_wp2_with (go_at_call 97; refine (HH.out _).mono ?_; rintro e w2 ⟨rfl, n, rfl⟩)
  refine bodyPost_ret (v := .tuple #[.string A, .string B, .bool c]) (by simp [results, Tryz.results82, go_sem]) rfl ⟨rfl, n, rfl⟩

/-! ### SplitN -/
theorem spl_fuel : ∀ (n m : Nat) (l : List UInt8), l.length ≤ n → l.length ≤ m → splS n l = splS m l
  | 0, m, l, h, _ => by
    obtain rfl : l = [] := List.eq_nil_of_length_eq_zero (by omega)
    rw [spl_none 0 rfl, spl_none m rfl]
  | n + 1, 0, l, _, h => by
    obtain rfl : l = [] := List.eq_nil_of_length_eq_zero (by omega)
    rw [spl_none (n + 1) rfl, spl_none 0 rfl]
  | n + 1, m + 1, l, h1, h2 => by
    show (if l.contains 42 then _ else [l]) = (if l.contains 42 then _ else [l])
    by_cases hc : l.contains 42 = true
    · rw [if_pos hc, if_pos hc]
      have hl : ((l.dropWhile (· ≠ 42)).drop 1).length + 1 ≤ l.length := by
        have := congrArg List.length (split_at 42 hc).1
        rw [List.length_append, List.length_cons] at this
        omega
      rw [spl_fuel n m _ (by omega) (by omega)]
    · rw [if_neg hc, if_neg hc]
theorem spl_lib : ∀ (n : Nat) (s : ByteArray), (Lib.splitB ⟨#[42]⟩ 0 n s).map (fun x => x.data.toList) = splS n s.data.toList
  | 0, s => rfl
  | n + 1, s => by
    have hix : Lib.indexB s ⟨#[42]⟩ = Lib.indexByte s.data.toList 42 := Lib.index_one _ _
    rcases byte_idx 42 s.data.toList with ⟨h1, h2⟩ | ⟨i, h1, h2, h3, h4, h5⟩
    · rw [Lib.splitB_miss _ _ _ _ (hix.trans h1), spl_none _ h2]
      rfl
    · rw [Lib.splitB_hit _ _ _ _ i (hix.trans h1)]
      show (s.extract 0 (i + 0)).data.toList :: (Lib.splitB ⟨#[42]⟩ 0 n (s.extract (i + 1) s.size)).map (fun x => x.data.toList) = (if s.data.toList.contains 42 then s.data.toList.takeWhile (· ≠ 42) :: splS n ((s.data.toList.dropWhile (· ≠ 42)).drop 1) else _)
      rw [if_pos h3, h4, h5, spl_lib n, rest_list, Nat.add_zero, head_list]
/-! ### IndexAny -/
theorem any_idx : ∀ l : List UInt8, (Lib.indexAny l [61, 62, 60] = -1 ∧ l.dropWhile (fun c => !opC c) = []) ∨ (∃ n : Nat, Lib.indexAny l [61, 62, 60] = (n : Int) ∧ n < l.length ∧ l.takeWhile (fun c => !opC c) = l.take n ∧ l.dropWhile (fun c => !opC c) = l.drop n)
  | [] => .inl ⟨rfl, rfl⟩
  | b :: l => by
    have hop : ([61, 62, 60] : List UInt8).contains b = opC b := by
      have h := all_bytes (fun b => ([61, 62, 60] : List UInt8).contains b == opC b) (by decide +kernel) b
      simpa using h
    by_cases hb : opC b = true
    · refine .inr ⟨0, ?_, by simp, by simp [hb], by simp [hb]⟩
      unfold Lib.indexAny
      rw [hop, if_pos hb]
      rfl
    · have hb' : opC b = false := by simpa using hb
      rcases any_idx l with ⟨h1, h2⟩ | ⟨n, h1, h2, h3, h4⟩
      · refine .inl ⟨?_, by rw [List.dropWhile_cons_of_pos (by rw [hb']; rfl), h2]⟩
        unfold Lib.indexAny
        rw [hop, if_neg hb, h1]
        rfl
      · refine .inr ⟨n + 1, ?_, by simpa using h2, by rw [List.takeWhile_cons_of_pos (by rw [hb']; rfl), h3]; rfl, by rw [List.dropWhile_cons_of_pos (by rw [hb']; rfl), h4]; rfl⟩
        unfold Lib.indexAny
        rw [hop, if_neg hb, h1]
        have : ((n : Int) == -1) = false := by simp
        rw [this]
        rfl
/-- Whatever bytes (once: plain bytes alone). -/
def ascii (l : List UInt8) : Prop := ∀ c ∈ l, c.toNat < 256
theorem ascii_all (l : List UInt8) : ascii l := fun c _ => c.toNat_lt
end Go.Proofs.YtmilgbkkibahlaaGreatDoor
