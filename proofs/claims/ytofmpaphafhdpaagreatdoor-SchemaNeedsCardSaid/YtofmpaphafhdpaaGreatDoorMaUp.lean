/- A row of bytes of the call's own, put through a function byte by byte; letters made great; what stays of it by Fold. -/
import Derived.Test.YtofmpaphafhdpaaGreatDoorDnLow
import Derived.Test.YtofmpaphafhdpaaGreatDoorOfL
import Derived.Test.YtofmpaphafhdpaaGreatDoorMaPure
namespace Go.Proofs.YtofmpaphafhdpaaGreatDoor
open Go.RowKit
set_option linter.unusedVariables false

/-- The first j bytes of s have been put through f, in a row of the call's own. -/
def MapAt (f : UInt8 → UInt8) (w : World) (s : ByteArray) (j : Nat) (wr : World) : Prop :=
  Below w.heap.size w wr ∧ ∃ A : Array Value, wr.heap[w.heap.size]? = some (.cells A 5 (A.size, A.size + 1)) ∧ s.size ≤ A.size ∧ ∀ k (h : k < s.size), A[k]? = some (.int .u8 ((if k < j then f s[k] else s[k]).toNat : Int))

theorem mapAt_start (f : UInt8 → UInt8) (w : World) (s : ByteArray) : MapAt f w s 0 (Lib.bytesWorld w 5 s) := by
  refine ⟨⟨rfl, rfl, rfl, by rw [Lib.bytesWorld_size]; omega, fun k hk => Lib.bytesWorld_at_old w _ s k hk⟩, _, Lib.bytesWorld_at_new w _ s, by simp [Lib.bytesCells], fun k h => ?_⟩
  have hw := Lib.bytesWorld_cell w 5 s k h
  have h1 : k < s.data.toList.length := by simpa using h
  simp only [World.cell?, Lib.bytesWorld_at_new] at hw
  have hb : k < (Lib.bytesCells w 5 s).size := by simp [Lib.bytesCells]; omega
  rw [if_neg (by omega)]
  simp [List.getD, List.getElem?_eq_getElem h1] at hw
  exact hw

theorem MapAt.cell {f : UInt8 → UInt8} {w wr : World} {s : ByteArray} {j : Nat} (h : MapAt f w s j wr) (hj : j < s.size) : wr.cell? ⟨w.heap.size, j, none⟩ = some (.int .u8 (s[j].toNat : Int)) ∧ wr.frozen? ⟨w.heap.size, j, none⟩ = false := by
  obtain ⟨_, A, hA, hs, hc⟩ := h
  have := hc j hj
  rw [if_neg (by omega)] at this
  refine ⟨by simp only [World.cell?, hA]; simpa using this, by simp only [World.frozen?, hA]; simp; omega⟩
theorem MapAt.skip {f : UInt8 → UInt8} {w wr : World} {s : ByteArray} {j : Nat} (h : MapAt f w s j wr) (hj : j < s.size) (he : f s[j] = s[j]) : MapAt f w s (j + 1) wr := by
  obtain ⟨hb, A, hA, hs, hc⟩ := h
  refine ⟨hb, A, hA, hs, fun k hk => ?_⟩
  rw [hc k hk]
  by_cases h1 : k < j
  · rw [if_pos h1, if_pos (by omega)]
  · rw [if_neg h1]
    by_cases h2 : k = j
    · subst h2; rw [if_pos (by omega), he]
    · rw [if_neg (by omega)]
theorem MapAt.store {f : UInt8 → UInt8} {w wr : World} {s : ByteArray} {j : Nat} (h : MapAt f w s j wr) (hj : j < s.size) (n : Int) (hn : n = ((f s[j]).toNat : Int)) : MapAt f w s (j + 1) (wr.setCell ⟨w.heap.size, j, none⟩ (.int .u8 n)) := by
  subst hn
  obtain ⟨hb, A, hA, hs, hc⟩ := h
  refine ⟨hb.setCell (p := ⟨w.heap.size, j, none⟩) (Nat.le_refl _) _, A.setIfInBounds j (.int .u8 (f s[j]).toNat), ?_, by simpa using hs, fun k hk => ?_⟩
  · obtain ⟨hlt, hv⟩ := Array.getElem?_eq_some_iff.1 hA
    show (wr.heap.modify w.heap.size _)[w.heap.size]? = _
    rw [Array.getElem?_eq_getElem (by rw [Array.size_modify]; exact hlt), Array.getElem_modify_self, hv]
    simp
  · rw [Array.getElem?_setIfInBounds]
    by_cases h2 : j = k
    · subst h2; rw [if_pos rfl, if_pos (by omega), if_pos (by omega)]
    · rw [if_neg h2, hc k hk]
      by_cases h1 : k < j
      · rw [if_pos h1, if_pos (by omega)]
      · rw [if_neg h1, if_neg (by omega)]
theorem MapAt.conv {f : UInt8 → UInt8} {w wr : World} {s : ByteArray} {cap : Nat} (h : MapAt f w s s.size wr) :
    (convert 38 9 (.slice (some ⟨w.heap.size, 0, none⟩) s.size cap)).run Tryz.prog wr = .ok (.string ⟨(s.data.toList.map f).toArray⟩) wr := by
  obtain ⟨_, A, hA, hs, hc⟩ := h
  have hl : s.size = (s.data.toList.map f).length := by simp
  conv => lhs; rw [hl]
  refine run_convert_bytes_back wr 38 9 5 _ cap (s.data.toList.map f) Tryz.underlying38 Tryz.underlying5 Tryz.underlying9 fun j hj => ?_
  have hj' : j < s.size := by rw [hl]; exact hj
  have e : ((⟨w.heap.size, 0, none⟩ : Addr).add j) = ⟨w.heap.size, j, none⟩ := by simp [Addr.add]; omega
  have := hc j hj'
  rw [if_pos hj'] at this
  rw [e]
  simp only [World.cell?, hA]
  simp
  exact this


def upC (c : UInt8) : UInt8 := if 97 ≤ c.toNat ∧ c.toNat ≤ 122 then UInt8.ofNat (c.toNat - 32) else c
def upL (l : List UInt8) : List UInt8 := l.map upC
theorem upC_toNat (c : UInt8) : (upC c).toNat = if 97 ≤ c.toNat ∧ c.toNat ≤ 122 then c.toNat - 32 else c.toNat := by
  unfold upC; split
  · simp; omega
  · rfl
theorem lowC_upC (c : UInt8) : lowC (upC c) = lowC c := by
  have := all_bytes (fun c => lowC (upC c) == lowC c) (by decide +kernel) c
  simpa using this
theorem low_upL (l : List UInt8) : low (upL l) = low l := by simp [low, upL, lowC_upC]
theorem upL_length (l : List UInt8) : (upL l).length = l.length := by simp [upL]
theorem fold_up (n : Nat) (l : List UInt8) : fold (List.replicate n 32 ++ upL l ++ List.replicate n 32) = fold l := by
  rw [← fold_low, low_append, low_append, low_upL]
  have e : low (List.replicate n 32) = List.replicate n 32 := by simp [low, lowC]
  rw [e, fold_round]
theorem fold_more (n : Nat) (l : List UInt8) : fold (List.replicate n 32 ++ upL l ++ List.replicate n 32 ++ [32, 32, 90]) = fold (l ++ [32, 122]) := by
  have e : low (List.replicate n 32) = List.replicate n 32 := by simp [low, lowC]
  have e1 : fold (List.replicate n 32 ++ upL l ++ List.replicate n 32 ++ [32, 32, 90]) = fold (List.replicate n 32 ++ (low l ++ (List.replicate n 32 ++ [32, 32, 122]))) := by
    rw [← fold_low]
    simp only [low_append, low_upL, e]
    simp only [List.append_assoc]
    rfl
  have e2 : fold (l ++ [32, 122]) = fold (low l ++ [32, 122]) := by rw [← fold_low, low_append]; rfl
  rw [e1, e2]
  unfold fold
  rw [frun_ahead]
  have hb : ∀ (k : Nat) (st : List UInt8 × Bool), (List.replicate (k + 1) 32).foldl fstep st = (st.1, !st.1.isEmpty) := by
    intro k
    induction k with
    | zero => intro st; simp [fstep]
    | succ k ih => intro st; rw [List.replicate_succ, List.foldl_cons, ih]; simp [fstep]
  have h3 : List.replicate n 32 ++ ([32, 32, 122] : List UInt8) = List.replicate (n + 2) 32 ++ [122] := by
    rw [List.replicate_succ', List.replicate_succ']; simp
  rw [h3]
  unfold frun
  rw [List.foldl_append, List.foldl_append, hb, List.foldl_append]
  simp [fstep]
end Go.Proofs.YtofmpaphafhdpaaGreatDoor
