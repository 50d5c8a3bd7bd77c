/- The document's own length as bytes: the walk. -/
import Derived.Test.YtiagcegclgallaaLen
import Derived.Test.YtiagcegclgallaaTrip
namespace Go.Proofs.Ytiagcegclgallaa
open Go.RowKit
set_option linter.unusedVariables false

theorem lenK_zero : lenK 0 = 0 := by unfold lenK; rw [bitLen_zero]
theorem lenK_step {m : Nat} (h0 : 1 ≤ m) (h1 : m < 16777216) : lenK m = lenK (m / 256) + 1 := by
  unfold lenK
  by_cases h256 : 256 ≤ m
  · rw [Lib.bitLen_shift8 m h256 (by omega)]; omega
  · have : m / 256 = 0 := by omega
    rw [this, bitLen_zero]
    have hb := bitLen_bounds m (by omega) (by omega)
    have hle := Lib.bitLen_le m 8 (by decide) (by omega)
    omega
theorem nb_step {m : Nat} (h0 : 1 ≤ m) (h1 : m < 16777216) : nb m (lenK m) = nb ((m / 256 : Nat) : Int) (lenK (m / 256)) ++ [byteAt m 0] := by
  rw [lenK_step h0 h1, nb_snoc]; rfl

set_option maxRecDepth 100000 in
set_option maxHeartbeats 1000000 in
theorem refLen_any (k : Nat) (hk : k < 16777216) (w : World) :
    Calls Try.prog 41 #[.int .i64 k] w fun e w' => e = .returned (.string ⟨(lenB k).toArray⟩) ∧ Below w.heap.size w w' := by
  obtain ⟨i0, hi, hz0, hz1, hz2⟩ := info_parts info5
  by_cases hs : k < 128
  · have hlb : lenB k = [byteAt k 0] := if_pos hs
    rw [hlb]
    have d1 : decide ((k : Int) < 128) = true := by simp; omega
    have hb := byteAt_small (n := (k : Int)) (by omega) (by omega)
    have hcv := fun w => conv_one (k : Int) (byteAt k 0) hb w
    have hm : (k : Int) % 256 = (k : Int) := by omega
    clear hlb hb
    go_enter Try.func41, Try.ntmps41
    go_wp2
    go_ret
    exact ⟨rfl, (Below.refl _ _).alloc (Nat.le_refl _) _⟩
  · have hlb : lenB k = byteAt (128 + lenK k : Nat) 0 :: nb k (lenK k) := if_neg hs
    rw [hlb]
    have d1 : decide ((k : Int) < 128) = false := by simp; omega
    have hK := lenK_le hk
    have hK1 : 1 ≤ lenK k := by rw [lenK_step (by omega) hk]; omega
    have HLb := Lib.hid hlb
    clear hlb
    go_enter Try.func41, Try.ntmps41
    go_wp2
    go_loopw [3, 4] (fun b i wr => ∃ (m : Nat) (l : List UInt8), i = .int .i64 m ∧ m < 16777216 ∧ nb k (lenK k) = nb m (lenK m) ++ l ∧ l.length + lenK m ≤ 3 ∧ OwnB w.heap.size wr b l ∧ Below w.heap.size w wr)
      (fun _ i _ => (intOf i).toNat)
    case atStart => exact ⟨k, [], rfl, hk, by simp, by simp; omega, World.ownsRow_nil _ _ _ _, Below.refl _ _⟩
    case round =>
      obtain ⟨m, l, rfl, hm, hl, hlen, hown, hbel⟩ := hrel
      have hsz := hbel.size
      by_cases h0 : m = 0
      · subst h0
        rw [lenK_zero] at hl hlen
        have hnl : nb k (lenK k) = l := by rw [hl]; simp [nb]
        have hll : l.length = lenK k := by rw [← hnl, nb_length]
        have hbb := byteAt_small (n := ((128 + lenK k : Nat) : Int)) (by omega) (by omega)
        have hcv := fun w => conv_one (128 + (l.length : Int)) (byteAt (128 + lenK k : Nat) 0) (by rw [hbb, hll]; omega) w
        have hm2 : ((128 : Int) + (l.length : Int)) % 256 = 128 + (l.length : Int) := by omega
        have HL := Lib.hid hnl
        have hl63 : l.length ≤ 3 := by omega
        have HBel := Lib.hid hbel
        have HLl := Lib.hid hll
        clear hl hnl hll hbb hbel
        rcases hown.split with ⟨rfl, rfl⟩ | ⟨g, cap, rfl⟩
        · have h : ([] : List UInt8).length = lenK k := HLl.out
          rw [List.length_nil] at h
          omega
        · have hcv3 : ∀ o, (convert 44 9 (.slice (some ⟨g, 0, none⟩) l.length cap)).run Try.prog (wr.alloc o) = .ok (.string ⟨l.toArray⟩) (wr.alloc o) := fun o => conv_own (World.ownsRow.alloc hown o)
          clear hown
          go_wp2
          go_ret
          refine ⟨?_, HBel.out.alloc hsz _⟩
          show Ending.returned (.string ((⟨#[byteAt (128 + ((lenK k : Nat) : Int)) 0]⟩ : ByteArray) ++ ⟨l.toArray⟩)) = _
          rw [HL.out, show (((128 + lenK k : Nat) : Nat) : Int) = 128 + ((lenK k : Nat) : Int) from by omega]
          congr 2
      · have h0' : 1 ≤ m := by omega
        have hgt : decide ((0 : Int) < (m : Int)) = true := by simp; omega
        have hgt2 : decide (0 < m) = true := by simp; omega
        have hm0 : (0 : Int) ≤ (m : Int) := by omega
        have hm9 : (m : Int) ≤ 16777215 := by omega
        have hst := nb_step h0' hm
        have hks := lenK_step h0' hm
        have hcast : ((m : Nat) : Int) / 256 = ((m / 256 : Nat) : Int) := by omega
        have HL := Lib.hid hl
        have HSt := Lib.hid hst
        have HKs := Lib.hid hks
        have HLen := Lib.hid hlen
        have H0 := Lib.hid (byteAt_zero (m : Int))
        have hlit : (wr.alloc (.cells #[.int .u8 ((m : Int) % 256)] 5)).ownsRow w.heap.size 5 1 (.slice (some ⟨wr.heap.size, 0, none⟩) 1 1) 1 [.int .u8 ((m : Int) % 256)] :=
          World.ownsRow_lit wr #[.int .u8 ((m : Int) % 256)] 1 hsz (by decide) rfl
        have hbel1 := hbel.alloc hsz (.cells #[.int .u8 ((m : Int) % 256)] 5)
        have hs1 : w.heap.size ≤ (wr.alloc (.cells #[.int .u8 ((m : Int) % 256)] 5)).heap.size := by simp; omega
        have hl3 : l.length ≤ 3 := by omega
        have HBel := Lib.hid hbel
        have HCast := Lib.hid hcast
        clear hl hst hks hlen hbel hcast
        rcases hown.split with ⟨rfl, rfl⟩ | ⟨g, cap, rfl⟩
        · have hown2 : OwnB w.heap.size (wr.alloc (.cells #[.int .u8 ((m : Int) % 256)] 5)) (.slice (some ⟨wr.heap.size, 0, none⟩) 1 1) [byteAt m 0] := by
            unfold OwnB; rw [List.map_cons, byteAt_zero]; exact hlit
          have HO2 := Lib.hid hown2
          have HLit := Lib.hid hlit
          clear hown hown2 hlit
          go_wp2_with (at_builtin; refine wpList_append_own_none rfl _ _ 44 rfl w.heap.size 5 i0 1 Try.underlying44 hi _ 1 _ rfl HLit.out rfl ?_)
          go_roundw
          case rel => exact ⟨m / 256, [byteAt m 0], by rw [HCast.out], by omega, by rw [HL.out, HSt.out, List.append_nil], by have := HKs.out; have := HLen.out; simp at *; omega, HO2.out, hbel1⟩
          case measure => simp [intOf]; omega
        · have hc2 : ∀ j u, (l.map byteV)[j]? = some u → (wr.alloc (.cells #[.int .u8 ((m : Int) % 256)] 5)).cell? ((⟨g, 0, none⟩ : Addr).add j) = some u := (World.ownsRow.alloc hown _ : OwnB w.heap.size _ _ l).cells rfl
          have H1 := Lib.hid hc2
          have HO := Lib.hid hlit
          clear hc2 hlit hown
          go_wp2_with (at_builtin; refine wpList_append_own _ rfl _ _ 44 rfl w.heap.size 5 i0 (.int .u8 0) 1 1 Try.underlying44 hi hz0 hz1 hz2 rfl (by decide) _ 1 _ rfl HO.out ⟨g, 0, none⟩ l.length cap (l.map byteV) rfl (by simp) H1.out (by intro u hu; simp at hu; obtain ⟨b, _, rfl⟩ := hu; rfl) (by unfold maxLen; omega) (by omega) hs1 ?_; intro v' w1 hown' hgrow _; have hown3 : OwnB w.heap.size w1 v' (byteAt m 0 :: l) := (by unfold OwnB; rw [List.map_cons, byteAt_zero, List.length_cons, Nat.add_comm]; exact hown'); have hbel3 := hbel1.grown hgrow hs1 (fun k e => by cases e; exact hsz); clear hown')
          go_roundw
          case rel => exact ⟨m / 256, byteAt m 0 :: l, by rw [HCast.out], by omega, by rw [HL.out, HSt.out, List.append_assoc]; rfl, by have := HKs.out; have := HLen.out; simp; omega, by assumption, by assumption⟩
          case measure => simp [intOf]; omega
end Go.Proofs.Ytiagcegclgallaa
