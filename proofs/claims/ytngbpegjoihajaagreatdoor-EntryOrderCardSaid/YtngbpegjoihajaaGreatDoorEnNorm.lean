/- entry.nameText, the maker's more and next: the walks. -/
import Derived.Test.YtngbpegjoihajaaGreatDoorEnSort
import Derived.Test.YtngbpegjoihajaaGreatDoorEnSetW
import Derived.Test.YtngbpegjoihajaaGreatDoorDnTextW
import Derived.Test.YtngbpegjoihajaaGreatDoorDnKey
namespace Go.Proofs.YtngbpegjoihajaaGreatDoor
open Go.RowKit
set_option linter.unusedVariables false

def nameN (s : List UInt8) : List UInt8 := match parseD s with
  | some l => textD l
  | none => s
set_option maxRecDepth 100000 in
set_option maxHeartbeats 2000000 in
theorem nameText_any (s : ByteArray) (hs : s.size ≤ 140737488351232) (w : World) : Calls Tryz.prog 58 #[.string s] w fun e w' => e = .returned (strV (nameN s.data.toList)) ∧ Below w.heap.size w w' := by
  have hp := fun w => parse_any s hs w
  have hcl := fun w => clone_any s w (by omega)
  cases e : parseD s.data.toList with
  | none =>
    have hn : strV (nameN s.data.toList) = .string s := by unfold nameN; rw [e]; exact strV_whole s
    rw [hn]
    simp only [e] at hp
    have HP := Lib.hid hp
    have HCl := Lib.hid hcl
    clear hp hcl hn e
    go_enter Tryz.func58, Tryz.ntmps58
    go_wp2_with (first
      | (go_at_call 77; refine (HP.out _).mono ?_; rintro e w1 ⟨hb1, rfl⟩; have HB := Lib.hid hb1; clear hb1)
      | (go_at_call 69; refine (HCl.out _).mono ?_; rintro e w2 ⟨rfl, hb2⟩; have HB := Lib.hid (bthen HB.out hb2); clear hb2))
    go_ret
    exact ⟨rfl, HB.out⟩
  | some l =>
    have hsm := okL_small (parse_ok e)
    have hn : nameN s.data.toList = textD l := by unfold nameN; rw [e]
    rw [hn]
    obtain ⟨T, hT⟩ : ∃ T : ByteArray, strV (textD l) = .string T := ⟨_, rfl⟩
    have ht := fun v w h => text_any l hsm v w h
    simp only [hT] at ht
    rw [hT]
    simp only [e] at hp
    have HP := Lib.hid hp
    have HTx := Lib.hid ht
    have HSm := Lib.hid hsm
    clear hp hcl hn e ht hT hsm
    go_enter Tryz.func58, Tryz.ntmps58
    go_wp2_with (first
      | (go_at_call 77; refine (HP.out _).mono ?_; rintro e w1 ⟨hb1, hpp⟩; (obtain ⟨v1, rfl, hown1⟩ := hpp); have HIL := Lib.hid (ownR_isL hown1 (by have := HSm.out.1; unfold maxLen; omega)); (obtain ⟨sa, sc, hsv⟩ := ownR_slice hown1); (obtain ⟨sn, hsn⟩ : ∃ n, n = l.length := ⟨_, rfl⟩); rw [← hsn] at hsv; subst hsv; have HB := Lib.hid hb1; clear hb1 hown1 hsn)
      | (go_at_call 79; refine (HTx.out _ _ HIL.out).mono ?_; rintro e w2 ⟨rfl, hb2⟩; have HB := Lib.hid (bthen HB.out hb2); clear hb2))
    go_ret
    exact ⟨rfl, HB.out⟩

set_option maxRecDepth 100000 in
set_option maxHeartbeats 1000000 in
theorem more_any (mb : Nat) (sa : Option Addr) (n sc j : Nat) (w : World) (h0 : w.cell? ⟨mb, 0, none⟩ = some (.slice sa n sc)) (h1 : w.cell? ⟨mb, 1, none⟩ = some (.int .i64 j)) :
    Calls Tryz.prog 53 #[.pointer (some ⟨mb, 0, none⟩)] w fun e w' => e = .returned (.bool (decide ((j : Int) < (n : Int)))) ∧ ∃ m, w' = w.drewN m := by
  have hl := fun k => load_any mb 1 j (w.drewN k) h1
  have HL := Lib.hid hl
  obtain ⟨g, hg⟩ : ∃ g, g = decide ((j : Int) < (n : Int)) := ⟨_, rfl⟩
  have hg1 : decide ((j : Int) < (n : Int)) = g := hg.symm
  have hg2 : decide (j < n) = g := by rw [hg]; simp
  rw [← hg]
  clear hl hg
  go_enter Tryz.func53, Tryz.ntmps53
  go_wp2
  go_quiet ((go_at_call 96; refine Calls.quiet_of_same (HL.out _)))
  go_wp2
  go_ret
  exact ⟨rfl, _, rfl⟩
end Go.Proofs.YtngbpegjoihajaaGreatDoor
