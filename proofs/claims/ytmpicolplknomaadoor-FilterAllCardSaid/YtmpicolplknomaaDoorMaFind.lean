/- match.lowered, allTypes, find, Rule, Canon: the walks. -/
import Derived.Test.YtmpicolplknomaaDoorMaPure
import Derived.Test.YtmpicolplknomaaDoorDnLib
import Derived.Test.YtmpicolplknomaaDoorOfL
import Derived.Laws.Tables
import Derived.Great.BuildSlice
import Derived.Laws.CopyOwn
import Derived.Deep.WholeRow
namespace Go.Proofs.YtmpicolplknomaaDoor
open Go.RowKit
set_option linter.unusedVariables false

def kindCells : Array Value := #[.string { data := #[111, 98, 106, 101, 99, 116, 99, 108, 97, 115, 115] }, .int .i64 1, .string { data := #[99, 110] }, .int .i64 1, .string { data := #[115, 110] }, .int .i64 1, .string { data := #[111] }, .int .i64 1, .string { data := #[111, 117] }, .int .i64 1, .string { data := #[117, 105, 100] }, .int .i64 1, .string { data := #[109, 97, 105, 108] }, .int .i64 1, .string { data := #[100, 101, 115, 99, 114, 105, 112, 116, 105, 111, 110] }, .int .i64 1, .string { data := #[117, 105, 100, 110, 117, 109, 98, 101, 114] }, .int .i64 2, .string { data := #[109, 101, 109, 98, 101, 114] }, .int .i64 3, .string { data := #[117, 115, 101, 114, 112, 97, 115, 115, 119, 111, 114, 100] }, .int .i64 4]
def kindsV : Value := .agg kindCells
/-- One result, that lies in memory. -/
theorem results_one {P : Program} {fn : Func} {a : Tmp} {t : TypeId} (hr : fn.results = #[.cell a t]) {tmps : Array Value} {w : World} {v : Value} {d : Addr} (ha : tmps.getD a undef = .pointer (some d)) (hl : (loadVar t d).run P w = .ok v w) :
    (results fn tmps).run P w = .ok v w := by
  unfold results
  have ha' : tmps[a]?.getD undef = .pointer (some d) := by simpa using ha
  simp [hr, ha', asAddr, hl]

def findV (o : Option (List UInt8 × Nat)) : Value := match o with
  | some k => .tuple #[.agg #[.string ⟨k.1.toArray⟩, .int .i64 k.2], .bool true]
  | none => .tuple #[.agg #[.string ⟨#[]⟩, .int .i64 0], .bool false]

theorem lowB_size (s : ByteArray) : (lowB s).size = s.size := by rw [← bytes_len, lowB_list, low_length, bytes_len]
theorem bytes_ne {A : ByteArray} {l : List UInt8} (h : l ≠ A.data.toList) : (⟨l.toArray⟩ : ByteArray) ≠ A := fun e => h (by rw [← e])

theorem below_two {w W : World} {o : Obj} {u v : Value} (h : Below (w.alloc o).heap.size (w.alloc o) W) : Below w.heap.size w ((W.setCell ⟨w.heap.size, 0, none⟩ u).setCell ⟨w.heap.size, 1, none⟩ v) :=
  ((((Below.refl _ _).alloc (Nat.le_refl _) _).trans (h.mono (by simp))).setCell (Nat.le_refl _) _).setCell (Nat.le_refl _) _
def canonV (o : Option (List UInt8)) : Value := match o with
  | some k => .tuple #[.string ⟨k.toArray⟩, .bool true]
  | none => .tuple #[.string ⟨#[]⟩, .bool false]
end Go.Proofs.YtmpicolplknomaaDoor
