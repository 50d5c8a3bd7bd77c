/- ber.head: the walk. -/
import Derived.Test.YtiagcegclgallaaInt
import Derived.Test.YtiagcegclgallaaTlv
namespace Go.Proofs.Ytiagcegclgallaa
open Go.RowKit
set_option linter.unusedVariables false

theorem owned_lit {B : Nat} (w : World) (hB : B ≤ w.heap.size) (l : List UInt8) (hl : l.length ≤ 100) :
    OwnB B (w.alloc (.cells (cellsOf l) 5)) (.slice (some ⟨w.heap.size, 0, none⟩) l.length l.length) l := by
  have h := World.ownsRow_lit (size := 1) (e := 5) w (cellsOf l) l.length hB (by unfold maxLen; omega) (by rw [cellsOf_size]; omega)
  unfold OwnB
  have e : (cellsOf l).toList = l.map byteV := by simp [cellsOf, byteV]
  rw [e] at h
  exact h

theorem cells_lit2 (a b : UInt8) : (#[byteV a, byteV b] : Array Value) = cellsOf [a, b] := by simp [cellsOf, byteV]

theorem len_any (x : Int) (w : World) (h0 : 0 ≤ x) (h1 : x ≤ 18446744073709551615) :
    Calls Try.prog 38 #[.int .u64 x] w fun e w' => e = .returned (.int .i64 (Lib.bitLen x.toNat)) ∧ w = w' :=
  (Try.bits_Len x w h0 h1).mono fun _ _ h => ⟨h.1, h.2.symm⟩

set_option maxRecDepth 100000 in
set_option maxHeartbeats 1000000 in
theorem head_any (tag : Int) (n : Nat) (hn : n < 16777216) (w : World) :
    Calls Try.prog 30 #[.int .i64 tag, .int .i64 n] w fun e w' => ∃ g cap, e = .returned (.slice (some ⟨g, 0, none⟩) (headB tag n).length cap) ∧ OwnB w.heap.size w' (.slice (some ⟨g, 0, none⟩) (headB tag n).length cap) (headB tag n) ∧ Below w.heap.size w w' := by
  by_cases h : n < 128
  · have hd : decide ((n : Int) < 128) = true := by simp; omega
    have hh : headB tag n = [byteAt tag 0, byteAt n 0] := by simp [headB, lenB, h]
    have ho := fun w : World => owned_lit (B := w.heap.size) w (Nat.le_refl _) [byteAt tag 0, byteAt n 0] (by simp)
    rw [← cells_lit2, byteAt_zero, byteAt_zero, show (n : Int) % 256 = n from by omega] at ho
    have HO := Lib.hid ho
    have HH := Lib.hid hh
    clear ho hh
    go_enter Try.func30, Try.ntmps30
    go_wp2
    go_ret
    rw [HH.out]
    exact ⟨_, _, rfl, HO.out w, (Below.refl _ _).alloc (Nat.le_refl _) _⟩
  · have hd : decide ((n : Int) < 128) = false := by simp; omega
    have hh : headB tag n = [byteAt tag 0, byteAt (128 + lenK n : Nat) 0] ++ nb n (lenK n) := by simp [headB, lenB, h]
    have hk := lenK_le hn
    have hb := bitLen63 (x := (n : Int)) (by omega) (by omega)
    have hkk : (((Lib.bitLen (n : Int).toNat : Nat) : Int) + 7) / 8 = (lenK n : Nat) := by unfold lenK; rw [Int.toNat_natCast]; omega
    have ho := fun w : World => owned_lit (B := w.heap.size) (w.alloc (.cells (cellsOf (nb n (lenK n))) 5)) (by simp) [byteAt tag 0, byteAt (128 + lenK n : Nat) 0] (by simp)
    simp only [World.size_alloc] at ho
    rw [← cells_lit2, byteAt_zero, byteAt_zero, show ((128 + lenK n : Nat) : Int) % 256 = 128 + (lenK n : Nat) from by omega] at ho
    have hsrc : ∀ (w : World) (o : Obj) j u, ((nb n (lenK n)).map byteV)[j]? = some u → ((w.alloc (.cells (cellsOf (nb n (lenK n))) 5)).alloc o).cell? ((⟨w.heap.size, 0, none⟩ : Addr).add j) = some u := by
      intro w o j u hj
      have e : ((⟨w.heap.size, 0, none⟩ : Addr).add j) = ⟨w.heap.size, j, none⟩ := by simp [Addr.add]; omega
      rw [e, World.cell?_alloc_past _ _ _ (by simp), World.cell?_alloc_new, cellsOf_get, ← hj, List.getElem?_map]
      rfl
    have hbel : ∀ (w : World) (o p : Obj), Below w.heap.size w ((w.alloc o).alloc p) := fun w o p => ((Below.refl _ _).alloc (Nat.le_refl _) _).alloc (by simp) _
    have HO := Lib.hid ho
    have HH := Lib.hid hh
    have HK := Lib.hid hkk
    have HS := Lib.hid hsrc
    have HB := Lib.hid hbel
    obtain ⟨i0, hi, hz0, hz1, hz2⟩ := info_parts info5
    have hnl := nb_length (n : Int) (lenK n)
    have HL := Lib.hid hnl
    rw [Int.toNat_natCast] at hb
    clear ho hh hkk hnl hsrc hbel
    go_enter Try.func30, Try.ntmps30
    go_wp2_with (first
      | (go_at_call 38; refine (len_any _ _ (by omega) (by omega)).mono ?_; rintro e w' ⟨rfl, rfl⟩)
      | (go_at_call 37; rw [show (((Lib.bitLen n : Nat) : Int) + 7) / 8 = (lenK n : Nat) from by have := HK.out; rwa [Int.toNat_natCast] at this]; refine (number_any n (by omega) (by omega) (lenK n) (by omega) _).mono ?_; rintro e w' ⟨rfl, rfl⟩)
      | (at_builtin; refine wpList_append_own _ rfl _ _ 44 rfl _ 5 i0 (.int .u8 0) 1 1 Try.underlying44 hi hz0 hz1 hz2 rfl (by decide) _ 2 _ rfl (HO.out _) ⟨_, 0, none⟩ (lenK n) (lenK n) ((nb n (lenK n)).map byteV) rfl (by simp [HL.out]) (HS.out _ _) (by intro u hu; simp at hu; obtain ⟨b, _, rfl⟩ := hu; rfl) (by unfold maxLen; omega) (by omega) (by simp; omega) ?_; intro v' w1 hown' hgrow _; have hbel3 := (HB.out _ _ _).grown hgrow (by simp; omega) (fun k e => by cases e; exact Nat.le_succ _)))
    go_ret
    have hO : OwnB w.heap.size w1 v' (headB tag n) := by
      rw [HH.out]; unfold OwnB; rw [List.map_append, List.length_append, HL.out]; exact hown'
    have hlen : (headB tag n).length ≠ 0 := by rw [HH.out]; simp
    rcases hO.split with ⟨_, e⟩ | ⟨g, cap, rfl⟩
    · rw [e] at hlen; simp at hlen
    · exact ⟨_, _, rfl, hO, by assumption⟩
end Go.Proofs.Ytiagcegclgallaa
