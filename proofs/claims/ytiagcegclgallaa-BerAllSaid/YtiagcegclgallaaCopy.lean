/- copy into a row that is known whole: of a string; of bytes that are owned. -/
import Derived.Test.YtiagcegclgallaaInt
import Derived.Laws.CopyOwn
import Derived.Deep.RegionLaw
namespace Go.Proofs.Ytiagcegclgallaa
open Go.RowKit
set_option linter.unusedVariables false
variable {P : Program}

theorem grownBy_trans {a b c : World} {row : Option Nat} (h : a.grownBy b row) (k : b.grownBy c row) : a.grownBy c row :=
  ⟨k.os.trans h.os, k.tape.trans h.tape, k.output.trans h.output, Nat.le_trans h.size k.size, fun i hi hr => (k.block i (Nat.lt_of_lt_of_le hi h.size) hr).trans (h.block i hi hr)⟩

theorem grownBy_setRow (w : World) (g : Nat) (cs : Array Value) : w.grownBy (w.setRow g cs) (some g) :=
  ⟨rfl, rfl, rfl, by simp [World.setRow], fun k _ hk => setRow_other w g k cs (fun e => hk (by rw [e]))⟩

def bytesV (l : List UInt8) : List Value := l.map byteV
theorem bytesV_length (l : List UInt8) : (bytesV l).length = l.length := by simp [bytesV]
theorem bytesV_one (l : List UInt8) : ∀ v ∈ bytesV l, v.oneCell' = true := by intro v hv; simp [bytesV] at hv; obtain ⟨b, _, rfl⟩ := hv; rfl

/-- 'copy(dst, s)', s a string no longer than dst. -/
theorem run_copy_str (w : World) (dT sT ty elem : TypeId) (dp : Option Addr) (dLen dCap : Nat) (s : ByteArray) (hu : P.underlying dT = some (.slice elem)) (hsz : (P.info? elem).map (·.size) = some 1) (hle : s.size ≤ dLen)
    (g off : Nat) (cur : List Value) (t : TypeId) (hg : w.heap[g]? = some (.cells cur.toArray t (0, 0))) (hpos : 0 < s.size → dp = some ⟨g, off, none⟩) (hfit : off + s.size ≤ cur.length) :
    ∃ w', (Builtin.copy_ #[dT, sT] ty #[.slice dp dLen dCap, .string s]).run P w = .ok (goInt s.size) w' ∧ w'.heap[g]? = some (.cells (splice cur off (bytesV s.data.toList)).toArray t (0, 0)) ∧ w.grownBy w' (some g) := by
  have hl : (bytesV s.data.toList).length = s.size := by rw [bytesV_length]; simp
  have hmin : Nat.min s.size dLen = s.size := Nat.min_eq_left hle
  have htake : (s.data.toList.map fun b => Value.int .u8 (b.toNat : Int)).take s.size = bytesV s.data.toList := by
    rw [List.take_of_length_le (by simp)]; rfl
  cases hq : P.info? elem with
  | none => simp [hq] at hsz
  | some i =>
    have hi : i.size = 1 := by simpa [hq] using hsz
    by_cases h0 : s.size = 0
    · have hnil : bytesV s.data.toList = [] := List.eq_nil_of_length_eq_zero (by omega)
      refine ⟨w, ?_, by rw [hnil]; simpa [splice] using hg, World.grownBy.refl _ _⟩
      have htake' := htake
      rw [hnil, h0] at htake'
      cases dp <;> simp [Builtin.copy_, run_underlying hu, Builtin.lenOf, Builtin.firstCells, sizeOf, typeInfo, hq, h0, storeCells]
    · obtain rfl := hpos (by omega)
      have hst := run_storeCells_at P g off t (bytesV s.data.toList) 0 cur.toArray w hg (by simpa [hl] using hfit) (bytesV_one _)
      refine ⟨w.setRow g (splice cur off (bytesV s.data.toList)).toArray, ?_, setRow_heap w g _ _ t _ hg, grownBy_setRow _ _ _⟩
      simp [Builtin.copy_, run_underlying hu, Builtin.lenOf, Builtin.firstCells, sizeOf, typeInfo, hq, hmin]
      rw [htake, hst]
      simp [splice, Result.andThen]

theorem wpList_copy_str {w : World} {ops : Array Oper} {rest : List Oper} {o : Oper} {a : Act} {Q : Exit → Act → World → Prop} (hgd : o.guard = none) (d x : Operand) (dT sT : TypeId)
    (ho : o.op = .call { callee := .builtin .copy, args := #[d, x], argTypes := #[dT, sT] }) (elem : TypeId) (hu : P.underlying dT = some (.slice elem)) (hsz : (P.info? elem).map (·.size) = some 1)
    (dp : Option Addr) (dLen dCap : Nat) (hd : a.eval d = .slice dp dLen dCap) (s : ByteArray) (hs : a.eval x = .string s) (hle : s.size ≤ dLen)
    (g off : Nat) (cur : List Value) (t : TypeId) (hg : w.heap[g]? = some (.cells cur.toArray t (0, 0))) (hpos : 0 < s.size → dp = some ⟨g, off, none⟩) (hfit : off + s.size ≤ cur.length)
    (h : ∀ w', Hid (w'.heap[g]? = some (.cells (splice cur off (bytesV s.data.toList)).toArray t (0, 0))) → w.grownBy w' (some g) → wpList P ops Q rest (a.put o.dst (goInt s.size)) w') : wpList P ops Q (o :: rest) a w := by
  refine wpList_plain hgd fun K hK => ?_
  obtain ⟨w', hrun, h1, h2⟩ := run_copy_str (P := P) w dT sT o.type elem dp dLen dCap s hu hsz hle g off cur t hg hpos hfit
  unfold Oper.wp
  simp [execOp, ho, resolve, invoke, builtin, hd, hs, hrun, Result.andThen]
  exact hK _ _ (h w' h1 h2)

/-- 'copy(dst, src)' of cells: as a law of the walk, with all that lies beside the row kept. -/
theorem wpList_copy_row {w : World} {ops : Array Oper} {rest : List Oper} {o : Oper} {a : Act} {Q : Exit → Act → World → Prop} (hgd : o.guard = none) (d s : Operand) (dT sT : TypeId)
    (ho : o.op = .call { callee := .builtin .copy, args := #[d, s], argTypes := #[dT, sT] }) (elem : TypeId) (hu : P.underlying dT = some (.slice elem)) (hsz : (P.info? elem).map (·.size) = some 1)
    (g off dLen dCap : Nat) (ad : Addr) (sLen sCap : Nat) (hd : a.eval d = .slice (some ⟨g, off, none⟩) dLen dCap) (hs : a.eval s = .slice (some ad) sLen sCap)
    (cur : List Value) (t : TypeId) (hg : w.heap[g]? = some (.cells cur.toArray t (0, 0))) (cs : List Value) (hn : cs.length = Nat.min sLen dLen)
    (hsrc : ∀ j v, cs[j]? = some v → w.cell? (ad.add j) = some v) (hfit : off + cs.length ≤ cur.length) (h1 : ∀ v ∈ cs, v.oneCell' = true)
    (h : ∀ w', Hid (w'.heap[g]? = some (.cells (splice cur off cs).toArray t (0, 0))) → w.grownBy w' (some g) → wpList P ops Q rest (a.put o.dst (goInt cs.length)) w') : wpList P ops Q (o :: rest) a w := by
  refine wpList_copy_own hgd d s dT sT ho elem hu hsz g off dLen dCap ad sLen sCap hd hs cur.toArray t hg cs hn hsrc (by simpa using hfit) h1 ?_
  exact h _ (show _ = _ by simpa [splice] using setRow_heap w g _ _ t _ hg) (grownBy_setRow _ _ _)

/-! ### Rows laid one beside the other -/
theorem splice_get {α : Type} (L : List α) (p : Nat) (cs : List α) (h : p + cs.length ≤ L.length) (j : Nat) : (splice L p cs)[j]? = if p ≤ j ∧ j < p + cs.length then cs[j - p]? else L[j]? := by
  unfold splice
  by_cases h1 : j < p
  · rw [List.getElem?_append_left (by simp; omega), List.getElem?_take, if_pos h1, if_neg (by omega)]
  · rw [List.getElem?_append_right (by simp; omega)]
    have e : (L.take p).length = p := by simp; omega
    rw [e]
    by_cases h2 : j < p + cs.length
    · rw [List.getElem?_append_left (by omega), if_pos ⟨by omega, h2⟩]
    · rw [List.getElem?_append_right (by omega), List.getElem?_drop, if_neg (by omega)]
      congr 1; omega

/-- What is laid ahead of what was laid before. -/
theorem splice_ahead {α : Type} (L : List α) (p q : Nat) (xs ys : List α) (hq : p + xs.length = q) (hfit : q + ys.length ≤ L.length) : splice (splice L q ys) p xs = splice L p (xs ++ ys) := by
  apply List.ext_getElem?
  intro j
  rw [splice_get (splice L q ys) p xs (by rw [length_splice _ _ _ hfit]; omega), splice_get L q ys hfit, splice_get L p (xs ++ ys) (by simp; omega)]
  simp only [List.length_append]
  by_cases h1 : p ≤ j ∧ j < p + xs.length
  · rw [if_pos h1, if_pos (by omega), List.getElem?_append_left (by omega)]
  · rw [if_neg h1]
    by_cases h2 : q ≤ j ∧ j < q + ys.length
    · rw [if_pos h2, if_pos (by omega), List.getElem?_append_right (by omega)]; congr 1; omega
    · rw [if_neg h2, if_neg (by omega)]

end Go.Proofs.Ytiagcegclgallaa
