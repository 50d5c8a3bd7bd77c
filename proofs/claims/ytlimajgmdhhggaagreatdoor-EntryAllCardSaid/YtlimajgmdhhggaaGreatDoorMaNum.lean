/- match.number, Norm, norms, Same, Less: the walks. The world must hold strconv's two errors and its table of powers of ten. -/
import Derived.Test.YtlimajgmdhhggaaGreatDoorMaFind
import Derived.Test.YtlimajgmdhhggaaGreatDoorDnKey
import Derived.Lib.SmallJoins
import Derived.Lib.AppendIntMem
namespace Go.Proofs.YtlimajgmdhhggaaGreatDoor
open Go.RowKit
set_option linter.unusedVariables false

def LaidW (w : World) : Prop := (∃ tp p, w.var? Tryz.prog "strconv.ErrSyntax" = some #[.iface tp p]) ∧ (∃ tp p, w.var? Tryz.prog "strconv.ErrRange" = some #[.iface tp p]) ∧ Lib.TabIs Tryz.prog w "internal/strconv.uint64pow10" .u64 Lib.pow10Tab
theorem LaidW.below {w w' : World} (h : LaidW w) (hb : Below w.heap.size w w') : LaidW w' := by
  obtain ⟨⟨t1, p1, h1⟩, ⟨t2, p2, h2⟩, h3⟩ := h
  exact ⟨⟨t1, p1, Joins.var_stays (g := 2) (by kernel_rfl) h1 hb (Nat.le_refl _)⟩, ⟨t2, p2, Joins.var_stays (g := 3) (by kernel_rfl) h2 hb (Nat.le_refl _)⟩, Joins.tab_stays (g := 4) (by kernel_rfl) h3 hb (Nat.le_refl _)⟩
theorem LaidW.drew {w : World} (h : LaidW w) (n : Nat) : LaidW (w.drewN n) := h.below ⟨rfl, rfl, rfl, Nat.le_refl _, fun _ _ => rfl⟩

theorem parseI_ok (s : ByteArray) (hs : s.size ≤ 281474976710656) (v : Int) (h : Lib.parseIntB 64 s.data.toList = .ok v) (w : World) :
    Calls Tryz.prog 186 #[.string s, .int .i64 10, .int .i64 64] w fun e w' => e = .returned (.tuple #[.int .i64 v, .nilIface]) ∧ Below w.heap.size w w' :=
  (Tryz.strconv_ParseInt_10_at64_ok s (by omega) v h w).mono fun e w' ⟨he, hw⟩ => ⟨he, by rcases hw with rfl | ⟨t, rfl⟩; exact Below.refl _ _; exact Lib.bytesWorld_below _ _ _⟩
theorem parseI_bad (s : ByteArray) (hs : s.size ≤ 281474976710656) (h : ∀ v, Lib.parseIntB 64 s.data.toList ≠ .ok v) (w : World) (hw : LaidW w) :
    Calls Tryz.prog 186 #[.string s, .int .i64 10, .int .i64 64] w fun e w' => ∃ v t N, (e = .returned (.tuple #[.int .i64 v, .iface t (.pointer (some ⟨N, 0, none⟩))])) ∧ Below w.heap.size w w' := by
  obtain ⟨⟨t1, p1, h1⟩, ⟨t2, p2, h2⟩, h3⟩ := hw
  cases e : Lib.parseIntB 64 s.data.toList with
  | ok v => exact absurd e (h v)
  | «syntax» => exact (Tryz.strconv_ParseInt_10_at64_syntax_var s hs e t1 p1 w h1).mono fun e w' ⟨N, he, _, _, hb⟩ => ⟨_, _, N, he, hb⟩
  | range => exact (Tryz.strconv_ParseInt_10_at64_range_var s hs e t2 p2 w h2).mono fun e w' ⟨N, he, _, _, hb⟩ => ⟨_, _, N, he, hb⟩
theorem fmt_any (v : Int) (h0 : -9223372036854775808 ≤ v) (h1 : v ≤ 9223372036854775807) (w : World) (hw : LaidW w) :
    Calls Tryz.prog 187 #[.int .i64 v, .int .i64 10] w fun e w' => e = .returned (.string ⟨(Lib.itoa v).toArray⟩) ∧ Below w.heap.size w w' :=
  (Tryz.strconv_FormatInt_10 v h0 h1 w hw.2.2).mono fun e w' ⟨he, k, os, hw⟩ => ⟨he, by subst hw; exact Lib.below_grow _ _ (Nat.le_refl _) k os⟩

def numV (o : Option Int) : Value := match o with
  | some v => .tuple #[.int .i64 v, .bool true]
  | none => .tuple #[.int .i64 0, .bool false]

set_option maxRecDepth 100000 in
set_option maxHeartbeats 1000000 in
theorem number_any (s : ByteArray) (hs : s.size ≤ 281474976710656) (w : World) (hw : LaidW w) :
    Calls Tryz.prog 162 #[.string s] w fun e w' => e = .returned (numV (numD s.data.toList)) ∧ Below w.heap.size w w' := by
  have htr := fun w => Tryz.strings_TrimPrefix s ⟨#[45]⟩ w
  obtain ⟨T, hT⟩ : ∃ T : ByteArray, T = ⟨(Lib.trimPrefix s.data.toList (⟨#[45]⟩ : ByteArray).data.toList).toArray⟩ := ⟨_, rfl⟩
  have hTl : (Lib.trimPrefix s.data.toList [45]).length = T.size := by rw [hT, ← bytes_len]
  rw [← hT] at htr
  have HTr := Lib.hid htr
  clear hT htr
  unfold numD
  rw [hTl]
  clear hTl
  have HW := Lib.hid hw
  clear hw
  by_cases h15 : T.size ≤ 15
  · rw [if_pos h15]
    have t0 : decide ((15 : Int) < (T.size : Int)) = false := by simp; omega
    by_cases hok : ∃ v, Lib.parseIntB 64 s.data.toList = .ok v
    · obtain ⟨v, hv⟩ := hok
      have hb := Lib.atoiAll_bounds (by rw [← Lib.parseIntB_64]; exact hv)
      have hp := fun w => parseI_ok s hs v hv w
      have hf := fun w => fmt_any v hb.1 hb.2 w
      obtain ⟨F, hF⟩ : ∃ F : ByteArray, F = ⟨(Lib.itoa v).toArray⟩ := ⟨_, rfl⟩
      have hFl : Lib.itoa v = F.data.toList := by rw [hF]
      rw [← hF] at hf
      rw [hv]
      simp only [okN, hFl]
      have HP := Lib.hid hp
      have HF := Lib.hid hf
      clear hv hb hp hf hF hFl
      by_cases he : F = s
      · subst he
        rw [if_pos rfl]
        go_enter Tryz.func162, Tryz.ntmps162
        go_wp2_with (first | (go_at_call 185; refine (HTr.out _).mono ?_; rintro e w1 ⟨rfl, rfl⟩) | (go_at_call 186; refine (HP.out _).mono ?_; rintro e w2 ⟨rfl, hb2⟩; have HB2 := Lib.hid hb2; clear hb2) | (go_at_call 187; refine (HF.out _ (HW.out.below HB2.out)).mono ?_; rintro e w3 ⟨rfl, hb3⟩; have HB3 := Lib.hid (bthen HB2.out hb3); clear hb3))
        go_ret2
        exact ⟨rfl, HB3.out⟩
      · have hn : ¬ F.data.toList = s.data.toList := fun e => he (bytes_ext e)
        rw [if_neg hn]
        have t1 := str_ne he
        have HN := Lib.hid hn
        clear hn he
        go_enter Tryz.func162, Tryz.ntmps162
        go_wp2_with (first | (go_at_call 185; refine (HTr.out _).mono ?_; rintro e w1 ⟨rfl, rfl⟩) | (go_at_call 186; refine (HP.out _).mono ?_; rintro e w2 ⟨rfl, hb2⟩; have HB2 := Lib.hid hb2; clear hb2) | (go_at_call 187; refine (HF.out _ (HW.out.below HB2.out)).mono ?_; rintro e w3 ⟨rfl, hb3⟩; have HB3 := Lib.hid (bthen HB2.out hb3); clear hb3))
        go_ret2
        exact ⟨rfl, HB3.out⟩
    · have hno : ∀ v, Lib.parseIntB 64 s.data.toList ≠ .ok v := fun v e => hok ⟨v, e⟩
      have hp := fun w => parseI_bad s hs hno w
      have hv : okN (Lib.parseIntB 64 s.data.toList) s.data.toList = none := by
        cases e : Lib.parseIntB 64 s.data.toList with
        | ok v => exact absurd e (hno v)
        | «syntax» => rfl
        | range => rfl
      rw [hv]
      have HP := Lib.hid hp
      clear hv hp hno hok
      go_enter Tryz.func162, Tryz.ntmps162
      go_wp2_with (first | (go_at_call 185; refine (HTr.out _).mono ?_; rintro e w1 ⟨rfl, rfl⟩) | (go_at_call 186; refine (HP.out _ HW.out).mono ?_; rintro e w2 ⟨v, t, N, rfl, hb2⟩; have HB2 := Lib.hid hb2; clear hb2))
      go_ret2
      exact ⟨rfl, HB2.out⟩
  · rw [if_neg h15]
    have t0 : decide ((15 : Int) < (T.size : Int)) = true := by simp; omega
    go_enter Tryz.func162, Tryz.ntmps162
    go_wp2_with (go_at_call 185; refine (HTr.out _).mono ?_; rintro e w1 ⟨rfl, rfl⟩)
    go_ret2
    exact ⟨rfl, Below.refl _ _⟩
end Go.Proofs.YtlimajgmdhhggaaGreatDoor
