/- Bytes among the arguments, and a byte turned. -/
import Derived.Test.YtiagcegclgallaaMake
import Derived.Test.YtiagcegclgallaaCanon
import Derived.OpenShut
import Derived.Carry
import Derived.Lib.ConvBytes
import Derived.Laws.IdiomStrings
import Derived.Laws.BitsAllLaws
import Derived.ChangeSlices
namespace Go.Proofs.Ytiagcegclgallaa
open Go.RowKit
set_option linter.unusedVariables false

theorem ofNat_small {n : Nat} (h : n < 256) : (UInt8.ofNat n).toNat = n := by simp; omega

theorem xor_byte {a b : Nat} (ha : a < 256) (hb : b < 256) : ∃ y : UInt8, bits .xor .u8 (a : Int) (b : Int) = (y.toNat : Int) ∧ (y.toNat = a → b = 0) := by
  have hx : a ^^^ b < 2 ^ 8 := Nat.xor_lt_two_pow (by omega) (by omega)
  refine ⟨UInt8.ofNat (a ^^^ b), ?_, ?_⟩
  · rw [u8_xor_nat a b ha hb]
    rw [ofNat_small hx]
  · intro h
    rw [ofNat_small hx] at h
    have : a ^^^ (a ^^^ b) = b := by rw [← Nat.xor_assoc, Nat.xor_self, Nat.zero_xor]
    rw [h, Nat.xor_self] at this
    exact this.symm

/-- A slice of bytes among the arguments. -/
theorem open_bytes {H : Type} {enc : TypeId × Value → H} {W : World} {v : Value} {d : DataW H} {ps : List MemPlace} (hval : Value.okWide Try.prog W .any 0 44 v) (hd : DataW.Trod enc Try.prog W 0 (fun _ => true) true 44 v d ps) :
    ∃ (a : Option Addr) (cap : Nat) (l : List UInt8), v = .slice a l.length cap ∧ IsB W.heap.size W l a cap := by
  obtain ⟨a0, len, cap, rfl⟩ := Go.WideShapes.okWide_slice Try.underlying44 hval
  obtain ⟨fuel, hf⟩ := hd
  have hc : Try.prog.cellsOf 5 = 1 := by kernel_rfl
  rcases Go.ChangeShapes.open_ints Try.underlying44 Try.underlying5 hc hf with ⟨hcs, _⟩ | ⟨a, len', cap', zs, hcs, _, hle, hmax, hall, _, hcell, hwf⟩
  · simp [Value.cells] at hcs
    obtain ⟨rfl, rfl, rfl⟩ := hcs
    exact ⟨none, 0, [], rfl, Nat.le_refl _, Nat.zero_le _, .inl rfl⟩
  · simp [Value.cells] at hcs
    obtain ⟨rfl, rfl, rfl⟩ := hcs
    simp only [if_true] at hall
    have hlen : ((zs.take len).map fun z => UInt8.ofNat z.toNat).length = len := by simp; omega
    refine ⟨some a, cap, (zs.take len).map fun z => UInt8.ofNat z.toNat, by rw [hlen], by omega, hmax, ?_⟩
    by_cases h0 : len = 0
    · left; subst h0; simp
    · right
      obtain ⟨b, off, rfl, hat⟩ := ints_at hcell (by omega)
      have hblt : b < W.heap.size := World.block_lt_of_cell? W ⟨b, off + 0, none⟩ (hat 0 (by omega))
      refine ⟨b, off, rfl, hblt, ?_⟩
      intro j x hx
      rw [List.getElem?_map, List.getElem?_take] at hx
      split at hx
      · rename_i hj
        have hjz : j < zs.length := by omega
        rw [List.getElem?_eq_getElem hjz] at hx
        simp only [Option.map_some, Option.some.injEq] at hx
        rw [hat j hjz, ← hx]
        have hw := hwf zs[j] (List.getElem_mem _)
        simp only [Lit.wf, Bool.and_eq_true, decide_eq_true_eq] at hw
        have h1 : (0 : Int) ≤ zs[j] := hw.1
        have h2 : zs[j] ≤ 255 := hw.2
        rw [ofNat_small (by omega)]
        simp [List.getD, List.getElem?_eq_getElem hjz]
        omega
      · cases hx

/-- 'string(b)' of an argument, in whatever world has it as it was. -/
theorem conv_arg {W w : World} {l : List UInt8} {a : Option Addr} {cap : Nat} (h : IsB W.heap.size W l a cap) (hb : Below W.heap.size W w) :
    (convert 44 9 (.slice a l.length cap)).run Try.prog w = .ok (.string ⟨l.toArray⟩) w := by
  obtain ⟨_, _, h⟩ := h
  rcases h with rfl | ⟨b, off, rfl, hlt, hc⟩
  · cases a with
    | none => exact run_convert_bytes_nil w 44 5 Try.underlying44 Try.underlying5 0 cap 9 Try.underlying9
    | some a => exact run_convert_bytes_back w 44 9 5 a cap [] Try.underlying44 Try.underlying5 Try.underlying9 fun j hj => by simp at hj
  · refine run_convert_bytes_back w 44 9 5 _ cap l Try.underlying44 Try.underlying5 Try.underlying9 fun j hj => ?_
    have e : ((⟨b, off, none⟩ : Addr).add j) = ⟨b, off + j, none⟩ := by simp [Addr.add]
    rw [e, hb.cell (p := ⟨b, off + j, none⟩) hlt]
    exact hc j _ (List.getElem?_eq_getElem hj)

/-- The bytes of a string as a row of the call's own, one of them turned. -/
theorem conv_turned {w : World} {P : ByteArray} (k : Nat) (hk : k < P.size) (y : UInt8) (cap : Nat) :
    (convert 44 9 (.slice (some ⟨w.heap.size, 0, none⟩) P.size cap)).run Try.prog ((Lib.bytesWorld w 5 P).setCell ⟨w.heap.size, k, none⟩ (.int .u8 y.toNat)) =
      .ok (.string ⟨(P.data.toList.set k y).toArray⟩) ((Lib.bytesWorld w 5 P).setCell ⟨w.heap.size, k, none⟩ (.int .u8 y.toNat)) := by
  have hl : P.size = (P.data.toList.set k y).length := by simp
  conv => lhs; rw [hl]
  refine run_convert_bytes_back _ 44 9 5 _ cap _ Try.underlying44 Try.underlying5 Try.underlying9 fun j hj => ?_
  have hj' : j < P.size := by rw [hl]; exact hj
  have e : ((⟨w.heap.size, 0, none⟩ : Addr).add j) = ⟨w.heap.size, j, none⟩ := by simp [Addr.add]; omega
  rw [e]
  have hw := Lib.bytesWorld_at_new w 5 P
  have hsz : (Lib.bytesCells w 5 P).size ≥ P.size := by simp [Lib.bytesCells]
  have hset : ((Lib.bytesWorld w 5 P).setCell ⟨w.heap.size, k, none⟩ (.int .u8 y.toNat)).heap[w.heap.size]? = some (.cells ((Lib.bytesCells w 5 P).setIfInBounds k (.int .u8 y.toNat)) 5 ((Lib.bytesCells w 5 P).size, (Lib.bytesCells w 5 P).size + 1)) := by
    obtain ⟨hlt, hv⟩ := Array.getElem?_eq_some_iff.1 hw
    show ((Lib.bytesWorld w 5 P).heap.modify w.heap.size _)[w.heap.size]? = _
    rw [Array.getElem?_eq_getElem (by rw [Array.size_modify]; exact hlt), Array.getElem_modify_self, hv]
    rfl
  have hc := Lib.bytesWorld_cell w 5 P j hj'
  simp only [World.cell?, hw] at hc
  simp only [World.cell?, hset]
  by_cases hjk : k = j
  · subst hjk
    simp [Array.getElem?_setIfInBounds, show k < (Lib.bytesCells w 5 P).size by omega]
  · simp [Array.getElem?_setIfInBounds, hjk] at hc ⊢
    simpa [List.getD, hj'] using hc

theorem bytes_frozen {w : World} {P : ByteArray} {k : Nat} (hk : k < P.size) : (Lib.bytesWorld w 5 P).frozen? ⟨w.heap.size, k, none⟩ = false := by
  have hw := Lib.bytesWorld_at_new w 5 P
  have hsz : (Lib.bytesCells w 5 P).size ≥ P.size := by simp [Lib.bytesCells]
  simp only [World.frozen?, hw]
  simp; omega

theorem bytes_below {n : Nat} {W w : World} {P : ByteArray} (h : Below n W w) (hn : n ≤ w.heap.size) : Below n W (Lib.bytesWorld w 5 P) :=
  ⟨h.os, h.tape, h.output, by rw [Lib.bytesWorld_size]; exact Nat.le_succ_of_le h.size, fun k hk => (Lib.bytesWorld_at_old w 5 P k (Nat.lt_of_lt_of_le hk hn)).trans (h.block k hk)⟩

end Go.Proofs.Ytiagcegclgallaa
