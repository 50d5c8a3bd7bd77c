/- What is above a key: the walks. -/
import Derived.Test.YtpnbcmblnplbgaaGreatDoorDnFoldR
import Derived.Deep.QuietTactic
import Derived.BigQuiet
namespace Go.Proofs.YtpnbcmblnplbgaaGreatDoor
open Go.RowKit
set_option linter.unusedVariables false

def upB (s : ByteArray) : ByteArray := ⟨(upD s.data.toList).toArray⟩

theorem cutD_comma {c : UInt8} {r : List UInt8} (h : c.toNat = 44) : cutD (c :: r) = ([], r, true) := by rw [cutD.eq_def]; exact if_pos h
theorem cutD_mark0 {c : UInt8} (h : c.toNat = 92) : cutD [c] = ([c], [], false) := by rw [cutD.eq_def]; simp [h]
theorem cutD_mark {c x : UInt8} {r : List UInt8} (h : c.toNat = 92) : cutD (c :: x :: r) = (c :: x :: (cutD r).1, (cutD r).2.1, (cutD r).2.2) := by rw [cutD.eq_def]; simp [h]
theorem cutD_any {c : UInt8} {r : List UInt8} (h1 : c.toNat ≠ 44) (h2 : c.toNat ≠ 92) : cutD (c :: r) = (c :: (cutD r).1, (cutD r).2.1, (cutD r).2.2) := by rw [cutD.eq_def]; simp [h1, h2]

theorem drop_at (s : ByteArray) (j : Nat) (h : j < s.size) : s.data.toList.drop j = s[j] :: s.data.toList.drop (j + 1) := by
  rw [List.drop_eq_getElem_cons (by simpa using h)]; rfl

/-- Behind a mark two bytes are one. -/
theorem cutD_mark2 (s : ByteArray) (j : Nat) (h : j < s.size) (hm : (s[j]).toNat = 92) : cutD (s.data.toList.drop j) = (s.data.toList.drop j |>.take 2, [], false) ∧ s.data.toList.drop (j + 2) = [] ∨
    cutD (s.data.toList.drop j) = ((s.data.toList.drop j).take 2 ++ (cutD (s.data.toList.drop (j + 2))).1, (cutD (s.data.toList.drop (j + 2))).2.1, (cutD (s.data.toList.drop (j + 2))).2.2) := by
  rw [drop_at s j h]
  by_cases h2 : j + 1 < s.size
  · right
    rw [drop_at s (j + 1) h2, cutD_mark hm]
    simp
  · left
    have e1 : s.data.toList.drop (j + 1) = [] := List.drop_of_length_le (by simp; omega)
    rw [e1, cutD_mark0 hm]
    exact ⟨rfl, List.drop_of_length_le (by simp; omega)⟩

theorem up_mark (s : ByteArray) (j : Nat) (h : j < s.size) (hm : (s[j]).toNat = 92) : upD (s.data.toList.drop j) = upD (s.data.toList.drop (j + 2)) := by
  unfold upD
  rcases cutD_mark2 s j h hm with ⟨e1, e2⟩ | e
  · rw [e1, e2]; rfl
  · rw [e]
theorem up_any (s : ByteArray) (j : Nat) (h : j < s.size) (h1 : (s[j]).toNat ≠ 44) (h2 : (s[j]).toNat ≠ 92) : upD (s.data.toList.drop j) = upD (s.data.toList.drop (j + 1)) := by
  unfold upD; rw [drop_at s j h, cutD_any h1 h2]
theorem up_comma (s : ByteArray) (j : Nat) (h : j < s.size) (h1 : (s[j]).toNat = 44) : upD (s.data.toList.drop j) = s.data.toList.drop (j + 1) := by
  unfold upD; rw [drop_at s j h, cutD_comma h1]
theorem rest_list (s : ByteArray) (j : Nat) : (s.extract j s.size).data.toList = s.data.toList.drop j := by
  have : (s.extract j s.size).data.toList = (s.data.toList.drop j).take (s.size - j) := by simp [ByteArray.data_extract, Array.toList_extract, List.extract]
  rw [this, List.take_of_length_le (by simp)]

set_option maxRecDepth 100000 in
set_option maxHeartbeats 1000000 in
theorem upRef_any (s : ByteArray) (w : World) (hs : s.size ≤ 281474976710656) :
    Calls Tryz.prog 8 #[.string s] w fun e w' => e = .returned (.string (upB s)) ∧ w = w' := by
  go_enter Tryz.func8, Tryz.ntmps8
  go_wp2
  go_loop [3] (fun i => ∃ j : Nat, j ≤ s.size + 1 ∧ i = .int .i64 j ∧ upD (s.data.toList.drop j) = upD s.data.toList) (fun i => s.size + 1 - (intOf i).toNat)
  case atStart => exact ⟨0, by omega, rfl, by simp⟩
  case round =>
    obtain ⟨j, hj, rfl, hup⟩ := hrel
    by_cases hlt : j < s.size
    · have t1 : decide ((j : Int) < (s.size : Int)) = true := by simp; omega
      obtain ⟨c, hc⟩ : ∃ c : UInt8, c = s[j] := ⟨_, rfl⟩
      have hc' : s[j]'hlt = c := hc.symm
      have hcl := c.toNat_lt
      by_cases h92 : c.toNat = 92
      · have t2 : ((c.toNat : Int) == 92) = true := by simp [h92]
        have h := up_mark s j hlt (by rw [← hc]; exact h92)
        rw [hup] at h
        have HU := Lib.hid h
        clear hup hc h h92
        go_wp2
        go_round
        case rel => exact ⟨j + 2, by omega, by first | rfl | (congr 1), HU.out.symm⟩
        case measure => simp [intOf]; omega
      · have t2 : ((c.toNat : Int) == 92) = false := by simp; omega
        by_cases h44 : c.toNat = 44
        · have t3 : ((c.toNat : Int) == 44) = true := by simp [h44]
          have h := up_comma s j hlt (by rw [← hc]; exact h44)
          rw [hup] at h
          have HU := Lib.hid h
          clear hup hc h h92 h44
          go_wp2
          go_ret
          refine ⟨?_, rfl⟩
          rw [show upB s = s.extract (j + 1) s.size from bytes_ext (by rw [rest_list]; show upD _ = _; rw [HU.out])]; rfl
        · have t3 : ((c.toNat : Int) == 44) = false := by simp; omega
          have h := up_any s j hlt (by rw [← hc]; exact h44) (by rw [← hc]; exact h92)
          rw [hup] at h
          have HU := Lib.hid h
          clear hup hc h h92 h44
          go_wp2
          go_round
          case rel => exact ⟨j + 1, by omega, by go_num, HU.out.symm⟩
          case measure => simp [intOf]; omega
    · have t1 : decide ((j : Int) < (s.size : Int)) = false := by simp; omega
      have he : upD s.data.toList = [] := by rw [← hup, List.drop_of_length_le (by simp; omega)]; rfl
      have HU := Lib.hid he
      clear hup he
      go_wp2
      go_ret
      refine ⟨?_, rfl⟩
      rw [show upB s = ⟨#[]⟩ from bytes_ext (by show upD _ = _; rw [HU.out])]; rfl
theorem upD_lt : ∀ l : List UInt8, l ≠ [] → (upD l).length < l.length := by
  have h : ∀ (n : Nat) (l : List UInt8), l.length ≤ n → l ≠ [] → (upD l).length < l.length := by
    intro n
    induction n with
    | zero => intro l hl hne; exact absurd (List.eq_nil_of_length_eq_zero (by omega)) hne
    | succ n ih =>
      intro l hl hne
      cases l with
      | nil => exact absurd rfl hne
      | cons c r =>
        by_cases h1 : c.toNat = 44
        · unfold upD; rw [cutD_comma h1]; simp
        · by_cases h2 : c.toNat = 92
          · cases r with
            | nil => unfold upD; rw [cutD_mark0 h2]; simp
            | cons x r =>
              have e : upD (c :: x :: r) = upD r := by unfold upD; rw [cutD_mark h2]
              rw [e]
              by_cases hr : r = []
              · subst hr; simp [upD, cutD]
              · have := ih r (by simp at hl; omega) hr; simp; omega
          · have e : upD (c :: r) = upD r := by unfold upD; rw [cutD_any h1 h2]
            rw [e]
            by_cases hr : r = []
            · subst hr; simp [upD, cutD]
            · have := ih r (by simp at hl; omega) hr; simp; omega
  intro l; exact h l.length l (Nat.le_refl _)

/-- a is b, or what is above a is, so many times at most. -/
def undN : Nat → List UInt8 → List UInt8 → Bool
  | 0, a, b => a == b
  | n + 1, a, b => if a = b then true else if a = [] then false else undN n (upD a) b
def underD (a b : List UInt8) : Bool := undN a.length a b

theorem undN_fuel : ∀ (n m : Nat) (a b : List UInt8), a.length ≤ n → a.length ≤ m → undN n a b = undN m a b
  | 0, 0, _, _, _, _ => rfl
  | 0, m + 1, a, b, h, _ => by
    obtain rfl : a = [] := List.eq_nil_of_length_eq_zero (by omega)
    simp only [undN]
    by_cases e : [] = b
    · subst e; simp
    · have e' : ¬ b = [] := fun h => e h.symm
      rw [if_neg e]; simp [e']
  | n + 1, 0, a, b, _, h => by
    obtain rfl : a = [] := List.eq_nil_of_length_eq_zero (by omega)
    simp only [undN]
    by_cases e : [] = b
    · subst e; simp
    · have e' : ¬ b = [] := fun h => e h.symm
      rw [if_neg e]; simp [e']
  | n + 1, m + 1, a, b, h1, h2 => by
    simp only [undN]
    by_cases e : a = b
    · rw [if_pos e, if_pos e]
    · rw [if_neg e, if_neg e]
      by_cases e2 : a = []
      · rw [if_pos e2, if_pos e2]
      · rw [if_neg e2, if_neg e2]
        have := upD_lt a e2
        exact undN_fuel n m _ _ (by omega) (by omega)
theorem under_self (a : List UInt8) : underD a a = true := by
  unfold underD; cases h : a.length with
  | zero => simp [undN]
  | succ n => simp [undN]
theorem under_up {a b : List UInt8} (h1 : a ≠ b) (h2 : a ≠ []) : underD a b = underD (upD a) b := by
  have hl := upD_lt a h2
  unfold underD
  obtain ⟨n, hn⟩ : ∃ n, a.length = n + 1 := ⟨a.length - 1, by omega⟩
  rw [hn]
  simp only [undN]
  rw [if_neg h1, if_neg h2]
  exact undN_fuel _ _ _ _ (by omega) (Nat.le_refl _)
theorem under_nil {b : List UInt8} (h : [] ≠ b) : underD [] b = false := by
  show undN 0 [] b = false; simp only [undN]; simpa using h
/-- Nothing shorter is under it. -/
theorem under_short (b : List UInt8) : ∀ (n : Nat) (a : List UInt8), a.length ≤ n → a.length < b.length → underD a b = false
  | 0, a, h, h2 => by
    obtain rfl : a = [] := List.eq_nil_of_length_eq_zero (by omega)
    exact under_nil (by intro e; rw [← e] at h2; simp at h2)
  | n + 1, a, h, h2 => by
    by_cases e : a = []
    · subst e; exact under_nil (by intro e; rw [← e] at h2; simp at h2)
    · have := upD_lt a e
      rw [under_up (by intro e2; rw [e2] at h2; omega) e]
      exact under_short b n _ (by omega) (by omega)
theorem under_same {a b : List UInt8} (h : a.length ≤ b.length) : underD a b = (a == b) := by
  by_cases e : a = b
  · subst e; rw [under_self]; simp
  · rw [show (a == b) = false from by simpa using e]
    by_cases e2 : a = []
    · subst e2; exact under_nil e
    · have := upD_lt a e2
      rw [under_up e e2]
      exact under_short b _ _ (Nat.le_refl _) (by omega)

theorem toList_ne {A B : ByteArray} (h : A.data.toList ≠ B.data.toList) : ¬ A.toList = B.toList := by rw [ByteArray.toList_eq, ByteArray.toList_eq]; exact h
theorem toList_eq' {A B : ByteArray} (h : A.data.toList = B.data.toList) : A.toList = B.toList := by rw [ByteArray.toList_eq, ByteArray.toList_eq, h]
theorem upB_size (s : ByteArray) : (upB s).size = (upD s.data.toList).length := by simp [upB, ByteArray.size]

theorem head_list (s : ByteArray) (j : Nat) : (s.extract 0 j).data.toList = s.data.toList.take j := by simp [ByteArray.data_extract, Array.toList_extract, List.extract]
theorem head_ext (s : ByteArray) (j : Nat) : (⟨(s.data.toList.take j).toArray⟩ : ByteArray) = s.extract 0 j := bytes_ext (by rw [head_list])
theorem rest_ext (s : ByteArray) (j : Nat) : (⟨(s.data.toList.drop j).toArray⟩ : ByteArray) = s.extract j s.size := bytes_ext (by rw [rest_list])
theorem whole_ext (s : ByteArray) : (⟨s.data.toList.toArray⟩ : ByteArray) = s := bytes_ext (by simp)

/-- The three that cut tells. -/
def cutV (l : List UInt8) : Value := .tuple #[.string ⟨(cutD l).1.toArray⟩, .string ⟨(cutD l).2.1.toArray⟩, .bool (cutD l).2.2]

set_option maxRecDepth 100000 in
set_option maxHeartbeats 1000000 in
theorem cut_any (s : ByteArray) (w : World) (hs : s.size ≤ 281474976710656) :
    Calls Tryz.prog 62 #[.string s] w fun e w' => e = .returned (cutV s.data.toList) ∧ ∃ n, w.drewN n = w' := by
  go_enter Tryz.func62, Tryz.ntmps62
  go_wp2
  go_loop [5] (fun i => ∃ j : Nat, j ≤ s.size + 1 ∧ i = .int .i64 j ∧ cutD s.data.toList = (s.data.toList.take j ++ (cutD (s.data.toList.drop j)).1, (cutD (s.data.toList.drop j)).2.1, (cutD (s.data.toList.drop j)).2.2)) (fun i => s.size + 1 - (intOf i).toNat)
  case atStart => exact ⟨0, by omega, rfl, by simp⟩
  case round =>
    obtain ⟨j, hj, rfl, hcut⟩ := hrel
    by_cases hlt : j < s.size
    · have t1 : decide ((j : Int) < (s.size : Int)) = true := by simp; omega
      obtain ⟨c, hc⟩ : ∃ c : UInt8, c = s[j] := ⟨_, rfl⟩
      have hc' : s[j]'hlt = c := hc.symm
      have hcl := c.toNat_lt
      have htk : s.data.toList.take (j + 1) = s.data.toList.take j ++ [s[j]] := List.take_succ_eq_append_getElem (by simpa using hlt)
      by_cases h92 : c.toNat = 92
      · have t2 : ((c.toNat : Int) == 92) = true := by simp [h92]
        have h : cutD s.data.toList = (s.data.toList.take (j + 2) ++ (cutD (s.data.toList.drop (j + 2))).1, (cutD (s.data.toList.drop (j + 2))).2.1, (cutD (s.data.toList.drop (j + 2))).2.2) := by
          rw [hcut]
          have ht : s.data.toList.take (j + 2) = s.data.toList.take j ++ (s.data.toList.drop j).take 2 := by rw [List.take_add]
          rcases cutD_mark2 s j hlt (by rw [← hc]; exact h92) with ⟨e1, e2⟩ | e
          · rw [e1, e2, ht]; simp [cutD]
          · rw [e, ht, List.append_assoc]
        have HU := Lib.hid h
        clear hcut hc h h92 htk
        go_wp2
        go_round
        case rel => exact ⟨j + 2, by omega, by first | rfl | (congr 1), HU.out⟩
        case measure => simp [intOf]; omega
      · have t2 : ((c.toNat : Int) == 92) = false := by simp; omega
        by_cases h44 : c.toNat = 44
        · have t3 : ((c.toNat : Int) == 44) = true := by simp [h44]
          have h : cutD s.data.toList = (s.data.toList.take j, s.data.toList.drop (j + 1), true) := by rw [hcut, drop_at s j hlt, cutD_comma (by rw [← hc]; exact h44)]; simp
          have HU := Lib.hid h
          have ew : IntKind.i64.wrap ((j : Int) + 1) = (j : Int) + 1 := IntWalk.i64_in _ (by omega)
          have g0 : (0 : Int) ≤ (j : Int) := by omega
          have g1 : (j : Int) ≤ (s.size : Int) := by omega
          have g2 : (0 : Int) ≤ (j : Int) + 1 := by omega
          have g3 : (j : Int) + 1 ≤ (s.size : Int) := by omega
          have g4 : ((j : Int) + 1).toNat = j + 1 := by omega
          clear hcut hc h h92 h44 htk
          go_wp2
          go_quiet (fail)
          go_wp2
          refine bodyPost_ret (v := .tuple #[.string (s.extract 0 j), .string (s.extract (j + 1) s.size), .bool true]) (by simp [results, Tryz.results62, go_sem]) rfl ⟨?_, _, rfl⟩
          unfold cutV; rw [HU.out, head_ext, rest_ext]
        · have t3 : ((c.toNat : Int) == 44) = false := by simp; omega
          have h : cutD s.data.toList = (s.data.toList.take (j + 1) ++ (cutD (s.data.toList.drop (j + 1))).1, (cutD (s.data.toList.drop (j + 1))).2.1, (cutD (s.data.toList.drop (j + 1))).2.2) := by
            rw [hcut, drop_at s j hlt, cutD_any (by rw [← hc]; exact h44) (by rw [← hc]; exact h92), htk]; simp
          have HU := Lib.hid h
          clear hcut hc h h92 h44 htk
          go_wp2
          go_round
          case rel => exact ⟨j + 1, by omega, by go_num, HU.out⟩
          case measure => simp [intOf]; omega
    · have t1 : decide ((j : Int) < (s.size : Int)) = false := by simp; omega
      have he : cutD s.data.toList = (s.data.toList, [], false) := by rw [hcut, List.drop_of_length_le (by simp; omega), List.take_of_length_le (by simp; omega)]; simp [cutD]
      have HU := Lib.hid he
      clear hcut he
      go_wp2
      refine bodyPost_ret (v := .tuple #[.string s, .string ⟨#[]⟩, .bool false]) (by simp [results, Tryz.results62, go_sem]) rfl ⟨?_, 0, rfl⟩
      unfold cutV; rw [HU.out, whole_ext]
end Go.Proofs.YtpnbcmblnplbgaaGreatDoor
