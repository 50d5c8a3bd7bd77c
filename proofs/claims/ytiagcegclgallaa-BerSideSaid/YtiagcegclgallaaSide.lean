/- What BerSide asks: the walk. -/
import Derived.Test.YtiagcegclgallaaBackW
namespace Go.Proofs.Ytiagcegclgallaa
open Go.RowKit
set_option linter.unusedVariables false

/-- Lists of bytes in memory. -/
def IsBB (n0 : Nat) (w : World) (L : List (List UInt8)) (a : Option Addr) (cap : Nat) : Prop :=
  L.length ≤ cap ∧ cap ≤ maxLen ∧ (L = [] ∨ ∃ b off, a = some ⟨b, off, none⟩ ∧ b < n0 ∧ ∀ j l, L[j]? = some l → ∃ aj cj, w.cell? ⟨b, off + j, none⟩ = some (.slice aj l.length cj) ∧ IsB n0 w l aj cj)

theorem open_bytes_list {H : Type} {enc : TypeId × Value → H} {W : World} {v : Value} {fuel : Nat} {x : DataW H × List MemPlace} (hf : DataW.trod enc Try.prog W 0 (fun _ => true) true fuel 44 [v] = some x) :
    ∃ (a : Option Addr) (cap : Nat) (l : List UInt8), v = .slice a l.length cap ∧ IsB W.heap.size W l a cap := by
  have hc : Try.prog.cellsOf 5 = 1 := by kernel_rfl
  rcases Go.ChangeShapes.open_ints Try.underlying44 Try.underlying5 hc hf with ⟨hcs, _⟩ | ⟨a, len', cap', zs, hcs, _, hle, hmax, hall, _, hcell, hwf⟩
  · simp at hcs
    subst hcs
    exact ⟨none, 0, [], rfl, Nat.le_refl _, Nat.zero_le _, .inl rfl⟩
  · simp at hcs
    subst hcs
    simp only [if_true] at hall
    have hlen : ((zs.take len').map fun z => UInt8.ofNat z.toNat).length = len' := by simp; omega
    refine ⟨some a, cap', (zs.take len').map fun z => UInt8.ofNat z.toNat, by rw [hlen], by omega, hmax, ?_⟩
    by_cases h0 : len' = 0
    · left; subst h0; simp
    · right
      obtain ⟨b, off, rfl, hat⟩ := ints_at hcell (by omega)
      have hblt : b < W.heap.size := World.block_lt_of_cell? W ⟨b, off + 0, none⟩ (hat 0 (by omega))
      refine ⟨b, off, rfl, hblt, ?_⟩
      intro j x hx
      rw [List.getElem?_map, List.getElem?_take] at hx
      split at hx
      · rename_i hj
        have hjz : j < zs.length := by omega
        rw [List.getElem?_eq_getElem hjz] at hx
        simp only [Option.map_some, Option.some.injEq] at hx
        rw [hat j hjz, ← hx]
        have hw := hwf zs[j] (List.getElem_mem _)
        simp only [Lit.wf, Bool.and_eq_true, decide_eq_true_eq] at hw
        have h1 : (0 : Int) ≤ zs[j] := hw.1
        have h2 : zs[j] ≤ 255 := hw.2
        rw [ofNat_small (by omega)]
        simp [List.getD, List.getElem?_eq_getElem hjz]
        omega
      · cases hx

/-- A slice of slices of bytes among the arguments. -/
theorem open_lists {H : Type} {enc : TypeId × Value → H} {W : World} {v : Value} {d : DataW H} {ps : List MemPlace} (hval : Value.okWide Try.prog W .any 0 51 v) (hd : DataW.Trod enc Try.prog W 0 (fun _ => true) true 51 v d ps) :
    ∃ (a : Option Addr) (cap : Nat) (L : List (List UInt8)), v = .slice a L.length cap ∧ IsBB W.heap.size W L a cap := by
  obtain ⟨a0, len, cap, rfl⟩ := Go.WideShapes.okWide_slice Try.underlying51 hval
  obtain ⟨fuel, hf⟩ := hd
  have hc : Try.prog.cellsOf 44 = 1 := by kernel_rfl
  rcases DataW.trod_slice Try.underlying51 hf with ⟨h0, _⟩ | ⟨a, len', cap', elems, rest, n, _, hcs, _, hb, hl, hm, hlen, hel, hsp, hns⟩
  · simp [Value.cells] at h0
    obtain ⟨rfl, rfl, rfl⟩ := h0
    exact ⟨none, 0, [], rfl, Nat.le_refl _, Nat.zero_le _, .inl rfl⟩
  · simp [Value.cells] at hcs
    obtain ⟨rfl, rfl, rfl⟩ := hcs
    have each : ∀ i, i < len → ∃ (ai : Option Addr) (ci : Nat) (l : List UInt8), W.cell? (a.add i) = some (.slice ai l.length ci) ∧ IsB W.heap.size W l ai ci := by
      intro i hi
      have h := hel i hi
      rw [hc, Nat.mul_one] at h
      have hil : i < elems.length := hlen.symm ▸ hi
      have hsome : ∃ y, elems[i]? = some y := ⟨_, List.getElem?_eq_getElem hil⟩
      obtain ⟨y, hy⟩ := hsome
      rw [hy, Option.bind_eq_some_iff] at h
      obtain ⟨cs', hcs, hy'⟩ := h
      have hlen1 := (World.cells?_some hcs).2.1
      obtain ⟨v1, rfl⟩ : ∃ v1, cs' = [v1] := by
        match cs', hlen1 with
        | [v1], _ => exact ⟨v1, rfl⟩
      have hcell := Go.ChangeShapes.cell_of_cells?_one hcs
      obtain ⟨ai, ci, l, hv, hib⟩ := open_bytes_list (v := v1) hy'
      rw [hv] at hcell
      exact ⟨ai, ci, l, hcell, hib⟩
    have each' : ∀ i, ∃ l : List UInt8, i < len → ∃ (ai : Option Addr) (ci : Nat), W.cell? (a.add i) = some (.slice ai l.length ci) ∧ IsB W.heap.size W l ai ci := fun i => by
      by_cases h : i < len
      · obtain ⟨ai, ci, l, h1, h2⟩ := each i h
        exact ⟨l, fun _ => ⟨ai, ci, h1, h2⟩⟩
      · exact ⟨[], fun h' => absurd h' h⟩
    obtain ⟨f, hfl⟩ := Classical.skolem.1 each'
    have hL : ((List.range len).map f).length = len := by simp
    refine ⟨some a, cap, (List.range len).map f, by rw [hL], by rw [hL]; exact hl, hm, ?_⟩
    by_cases h0 : len = 0
    · left; subst h0; simp
    · right
      obtain ⟨a1, c1, h1, _⟩ := hfl 0 (by omega)
      obtain ⟨b, off, spot⟩ := a
      have hspot : spot = none := by simpa [Addr.add] using World.cell?_spot h1
      subst hspot
      refine ⟨b, off, rfl, World.block_lt_of_cell? W _ h1, ?_⟩
      intro j l hj
      rw [List.getElem?_map] at hj
      have hjl : j < len := by
        rcases Nat.lt_or_ge j len with h | h
        · exact h
        · rw [List.getElem?_eq_none (by simpa using h)] at hj; cases hj
      rw [List.getElem?_range hjl] at hj
      simp only [Option.map_some, Option.some.injEq] at hj
      subst hj
      obtain ⟨aj, cj, h2, h3⟩ := hfl j hjl
      rw [Go.WideShapes.add_plain] at h2
      exact ⟨aj, cj, h2, h3⟩

/-- What stands of the tlvs of the first lists. -/
def encsB (ts : List T) : ByteArray := ⟨(encs ts).toArray⟩
theorem encsB_size (ts : List T) : (encsB ts).size = (encs ts).length := by simp [encsB, ByteArray.size]
theorem encsB_nil : encsB [] = ⟨#[]⟩ := rfl
theorem encsB_take (ts : List T) (j : Nat) (h : j < ts.length) (hok : okT 12 ts[j] = true) : encsB (ts.take j) ++ putB ts[j] = encsB (ts.take (j + 1)) := by
  apply ByteArray.ext
  rw [ByteArray.data_append]
  show (encs (ts.take j)).toArray ++ (putB ts[j]).data = (encs (ts.take (j + 1))).toArray
  rw [encs_take ts j h]
  simp [putB, hok]

theorem encs_bound {B : Nat} {l : List T} (h : ∀ x ∈ l, (enc x).length ≤ B) : (encs l).length ≤ l.length * B := encs_le h

/-- The tlv that begins where those ahead of it end. -/
theorem side_at (ts : List T) (hall : ∀ x ∈ ts, okT 12 x = true) (j : Nat) (h : j < ts.length) : getAt (encsB ts) ((encs (ts.take j)).length : Nat) = .ok (ts[j], (enc ts[j]).length) := by
  have hs := encs_append (ts.take j) (ts.drop j)
  rw [List.take_append_drop] at hs
  have hl : (encs ts).length = (encs (ts.take j)).length + (encs (ts.drop j)).length := by rw [hs, List.length_append]
  unfold getAt
  rw [if_neg (by rw [encsB_size]; omega), Int.toNat_natCast]
  have hd : (encsB ts).data.toList.drop (encs (ts.take j)).length = enc ts[j] ++ encs (ts.drop (j + 1)) := by
    show (encs ts).toArray.toList.drop _ = _
    rw [List.toList_toArray, hs, List.drop_left, encs_drop ts j ts[j] (List.getElem?_eq_getElem h)]
  rw [hd, dec_enc _ 12 _ (hall _ (List.getElem_mem h))]

theorem side_end (ts : List T) : getAt (encsB ts) ((encs ts).length : Nat) = .error 6 := by
  unfold getAt
  rw [if_neg (by rw [encsB_size]; omega), Int.toNat_natCast, List.drop_of_length_le (by show (encs ts).toArray.toList.length ≤ _; simp)]
  exact dec_none 12
theorem side_past (ts : List T) : getAt (encsB ts) (((encs ts).length : Int) + 1) = .error 1 := by
  unfold getAt; rw [if_pos (by rw [encsB_size]; omega)]
theorem side_ahead (s : ByteArray) : getAt s (-1) = .error 1 := by
  unfold getAt; rw [if_pos (by omega)]
end Go.Proofs.Ytiagcegclgallaa
