/- Several texts in one file: EnNormW, EnSrtP, EnNEntP, TrPure, ScPer, MaUp, MaAwake, MaCasesW, ScFst, MaDig, ScFstW, RegInv, RegFact, RegTwo. -/
import Derived.Test.YtpnbcmblnplbgaaGreatDoorChgP4
import Derived.Test.YtpnbcmblnplbgaaGreatDoorChgP1
import Derived.Maps.OwnSet
import Derived.Deep.Cut
import Derived.Test.YtpnbcmblnplbgaaGreatDoorDnLow
import Derived.Test.YtpnbcmblnplbgaaGreatDoorOfL
import Derived.Test.YtpnbcmblnplbgaaGreatDoorChgP2
import Derived.Test.YtpnbcmblnplbgaaGreatDoorDnOwn
import Derived.Lib.ItoaLen
import Derived.Lib.ItoaMem
import Derived.Deep.CutRange
import Derived.RegionTactic
import Derived.Below
namespace Go.Proofs.YtpnbcmblnplbgaaGreatDoor
open Go.RowKit
set_option linter.unusedVariables false

def normL (L : List AT) : List AT := L.map (fun a => (nameA a.1, a.2))
theorem ownA_grown {B mb : Nat} {w w' : World} {v : Value} {L : List AT} (h : OwnA B w v L) (hg : w.grownBy w' (some mb)) (hm : mb < B) : OwnA B w' v L := by
  obtain ⟨P, hr, hs⟩ := h
  have hblk : ∀ k, B ≤ k → k < w.heap.size → w'.heap[k]? = w.heap[k]? := fun k h1 h2 => hg.block k h2 (by intro e; have := Option.some.inj e; omega)
  refine ⟨P, ⟨hr.1, hr.2.imp id fun ⟨g, cap, cur, e1, hb, hgg, rest⟩ => ⟨g, cap, cur, e1, hb, (hblk g hb (Array.getElem?_eq_some_iff.1 hgg).1).trans hgg, rest⟩⟩, hs.1, fun j h1 h2 => ⟨(hs.2 j h1 h2).1, (hs.2 j h1 h2).2.imp (fun b hb => ⟨hb.1, Nat.lt_of_lt_of_le hb.2.1 hg.size, hb.2.2⟩) (fun b o hb => by
    have := hblk b hb.1 hb.2.1
    simp only [World.cell?, this])⟩⟩
theorem BoxE.grown {b mb : Nat} {d : ByteArray} {w w' : World} (h : BoxE b d w) (hg : w.grownBy w' (some mb)) (hm : mb = b + 2) (hs : b + 2 < w.heap.size) : BoxE b d w' := by
  have h0 := hg.block b (by omega) (by intro e; have := Option.some.inj e; omega)
  have h1 := hg.block (b + 1) (by omega) (by intro e; have := Option.some.inj e; omega)
  obtain ⟨a0, a1, a2, a3, a4⟩ := h
  unfold BoxE
  simp only [World.cell?, World.frozen?, h0, h1]
  exact ⟨a0, a1, a2, a3, a4⟩
theorem below_grown {B mb : Nat} {w0 w w' : World} (h : Below B w0 w) (hg : w.grownBy w' (some mb)) (hB : B ≤ mb) (hw : B ≤ w.heap.size) : Below B w0 w' :=
  h.trans ⟨hg.os, hg.tape, hg.output, hg.size, fun k hk => hg.block k (by omega) (by intro e; have := Option.some.inj e; omega)⟩
structure NormAt (b : Nat) (d : ByteArray) (w wr : World) (v l : Value) (j : Nat) (L' : List AT) : Prop where
  own : OwnA (b + 3) wr l L'
  box : BoxE b d wr
  m0 : wr.cell? ⟨b + 2, 0, none⟩ = some v
  m1 : wr.cell? ⟨b + 2, 1, none⟩ = some (.int .i64 (j : Int))
  mz : wr.frozen? ⟨b + 2, 1, none⟩ = false
  size : b + 3 ≤ wr.heap.size
  bel : Below b w wr
theorem NormAt.go {b : Nat} {d : ByteArray} {w wr w2 : World} {v l : Value} {j : Nat} {L' : List AT} (h : NormAt b d w wr v l j L') (hb : Below wr.heap.size wr w2) : NormAt b d w w2 v l j L' where
  own := ownA_below h.own hb
  box := h.box.go hb (by have := h.size; omega)
  m0 := (hb.cell (p := ⟨b + 2, 0, none⟩) (show b + 2 < wr.heap.size by have := h.size; omega)).trans h.m0
  m1 := (hb.cell (p := ⟨b + 2, 1, none⟩) (show b + 2 < wr.heap.size by have := h.size; omega)).trans h.m1
  mz := (hb.frozen (p := ⟨b + 2, 1, none⟩) (show b + 2 < wr.heap.size by have := h.size; omega)).trans h.mz
  size := Nat.le_trans h.size hb.size
  bel := h.bel.trans (hb.mono (by have := h.size; omega))
theorem NormAt.next {b : Nat} {d : ByteArray} {w wr w2 : World} {v l : Value} {j : Nat} {L' : List AT} (h : NormAt b d w wr v l j L') (hg : wr.grownBy w2 (some (b + 2))) (h0 : w2.cell? ⟨b + 2, 0, none⟩ = some v) (h1 : w2.cell? ⟨b + 2, 1, none⟩ = some (.int .i64 (j + 1 : Nat))) (hz : w2.frozen? ⟨b + 2, 1, none⟩ = false) : NormAt b d w w2 v l (j + 1) L' where
  own := ownA_grown h.own hg (by omega)
  box := h.box.grown hg rfl (by have := h.size; omega)
  m0 := h0
  m1 := h1
  mz := hz
  size := Nat.le_trans h.size hg.size
  bel := below_grown h.bel hg (by omega) (by have := h.size; omega)
theorem NormAt.app {b : Nat} {d : ByteArray} {w wr w2 : World} {v l l2 : Value} {j : Nat} {L' L2 : List AT} (h : NormAt b d w wr v l j L') (hb : Below (b + 3) wr w2) (ho : OwnA (b + 3) w2 l2 L2) : NormAt b d w w2 v l2 j L2 where
  own := ho
  box := h.box.go hb (by omega)
  m0 := (hb.cell (p := ⟨b + 2, 0, none⟩) (show b + 2 < b + 3 by omega)).trans h.m0
  m1 := (hb.cell (p := ⟨b + 2, 1, none⟩) (show b + 2 < b + 3 by omega)).trans h.m1
  mz := (hb.frozen (p := ⟨b + 2, 1, none⟩) (show b + 2 < b + 3 by omega)).trans h.mz
  size := Nat.le_trans h.size hb.size
  bel := h.bel.trans (hb.mono (by omega))
theorem norm_block (w : World) (d : ByteArray) (v : Value) : (((w.alloc (.cells #[.string d, v] 27)).alloc (.cells #[.string ⟨#[]⟩, .slice none 0 0] 27)).alloc (.cells #[v, .int .i64 0] 84)).heap[w.heap.size + 2]? = some (.cells #[v, .int .i64 0] 84 (0, 0)) := by
  have := heap_alloc_new ((w.alloc (.cells #[.string d, v] 27)).alloc (.cells #[.string ⟨#[]⟩, .slice none 0 0] 27)) (.cells #[v, .int .i64 0] 84)
  simpa only [World.size_alloc] using this
theorem norm_start (w : World) (d : ByteArray) (v : Value) : NormAt w.heap.size d w (((w.alloc (.cells #[.string d, v] 27)).alloc (.cells #[.string ⟨#[]⟩, .slice none 0 0] 27)).alloc (.cells #[v, .int .i64 0] 84)) v (.slice none 0 0) 0 [] where
  own := ownA_nil _ _
  box := (boxE_new w d v).go (Below.alloc (Below.refl (w.heap.size + 2) _) (by simp) _) (by omega)
  m0 := by simp only [World.cell?, norm_block w d v]; rfl
  m1 := by simp only [World.cell?, norm_block w d v]; rfl
  mz := by simp only [World.frozen?, norm_block w d v]; rfl
  size := by simp
  bel := (((Below.refl _ _).alloc (Nat.le_refl _) _).alloc (by simp) _).alloc (by simp; omega) _
theorem normL_take (L : List AT) (j : Nat) (h : j < L.length) : normL (L.take (j + 1)) = normL (L.take j) ++ [(nameA L[j].1, L[j].2)] := by
  unfold normL
  rw [List.take_succ_eq_append_getElem h, List.map_append]; rfl

end Go.Proofs.YtpnbcmblnplbgaaGreatDoor


namespace Go.Proofs.YtpnbcmblnplbgaaGreatDoor
set_option linter.unusedVariables false
set_option linter.unusedSimpArgs false

section
variable {α β : Type}
def swapG (R : List α) (j : Nat) : List α := match R[j]?, R[j + 1]? with
  | some x, some y => (R.set j y).set (j + 1) x
  | _, _ => R
def bubG (key : α → List UInt8) : Nat → List α → List α
  | 0, R => R
  | j + 1, R => match R[j]?, R[j + 1]? with
    | some x, some y => if cmpL (key y) (key x) < 0 then bubG key j (swapG R j) else R
    | _, _ => R
def srtG (key : α → List UInt8) : Nat → List α → List α
  | 0, R => R
  | k + 1, R => bubG key (k + 1) (srtG key k R)
theorem swapG_length (R : List α) (j : Nat) : (swapG R j).length = R.length := by
  unfold swapG
  split
  · simp
  · rfl
theorem swapG_at {R : List α} {j : Nat} (h : j + 1 < R.length) : swapG R j = (R.set j R[j + 1]).set (j + 1) (R[j]'(by omega)) := by
  unfold swapG
  rw [List.getElem?_eq_getElem h, List.getElem?_eq_getElem (show j < R.length by omega)]
theorem swapG_mem {R : List α} {j : Nat} {x : α} (h : x ∈ swapG R j) : x ∈ R := by
  unfold swapG at h
  split at h
  · rename_i a b ha hb
    rcases List.mem_or_eq_of_mem_set h with h | h
    · rcases List.mem_or_eq_of_mem_set h with h | h
      · exact h
      · rw [h]; exact List.mem_of_getElem? hb
    · rw [h]; exact List.mem_of_getElem? ha
  · exact h
theorem bubG_length (key : α → List UInt8) : ∀ (j : Nat) (R : List α), (bubG key j R).length = R.length
  | 0, _ => rfl
  | j + 1, R => by
    unfold bubG
    split
    · split
      · rw [bubG_length key j, swapG_length]
      · rfl
    · rfl
theorem bubG_mem {key : α → List UInt8} : ∀ (j : Nat) {R : List α} {x : α}, x ∈ bubG key j R → x ∈ R
  | 0, _, _, h => h
  | j + 1, R, x, h => by
    unfold bubG at h
    split at h
    · split at h
      · exact swapG_mem (bubG_mem j h)
      · exact h
    · exact h
theorem srtG_length (key : α → List UInt8) : ∀ (k : Nat) (R : List α), (srtG key k R).length = R.length
  | 0, _ => rfl
  | k + 1, R => by
    show (bubG key (k + 1) (srtG key k R)).length = _
    rw [bubG_length, srtG_length key k]
theorem srtG_mem {key : α → List UInt8} : ∀ (k : Nat) {R : List α} {x : α}, x ∈ srtG key k R → x ∈ R
  | 0, _, _, h => h
  | k + 1, R, x, h => srtG_mem k (bubG_mem (k + 1) h)
theorem bubG_go {key : α → List UInt8} {j : Nat} {R : List α} (h : j + 1 < R.length) (hc : cmpL (key R[j + 1]) (key (R[j]'(by omega))) < 0) : bubG key (j + 1) R = bubG key j (swapG R j) := by
  conv => lhs; unfold bubG
  rw [List.getElem?_eq_getElem h, List.getElem?_eq_getElem (show j < R.length by omega)]
  simp only []
  rw [if_pos hc]
theorem bubG_stop {key : α → List UInt8} {j : Nat} {R : List α} (h : j + 1 < R.length) (hc : ¬ cmpL (key R[j + 1]) (key (R[j]'(by omega))) < 0) : bubG key (j + 1) R = R := by
  unfold bubG
  rw [List.getElem?_eq_getElem h, List.getElem?_eq_getElem (show j < R.length by omega)]
  simp only []
  rw [if_neg hc]
theorem swapG_map (f : α → β) (R : List α) (j : Nat) : (swapG R j).map f = swapG (R.map f) j := by
  unfold swapG
  rw [List.getElem?_map, List.getElem?_map]
  cases R[j]? with
  | none => rfl
  | some x =>
    cases R[j + 1]? with
    | none => rfl
    | some y => simp [List.map_set]
theorem bubG_map {key : α → List UInt8} {key' : β → List UInt8} (f : α → β) : ∀ (j : Nat) (R : List α), (∀ x ∈ R, key' (f x) = key x) → (bubG key j R).map f = bubG key' j (R.map f)
  | 0, _, _ => rfl
  | j + 1, R, h => by
    unfold bubG
    rw [List.getElem?_map, List.getElem?_map]
    cases hx : R[j]? with
    | none => rfl
    | some x =>
      cases hy : R[j + 1]? with
      | none => rfl
      | some y =>
        simp only [Option.map_some]
        rw [h x (List.mem_of_getElem? hx), h y (List.mem_of_getElem? hy)]
        split
        · rw [bubG_map f j _ fun z hz => h z (swapG_mem hz), swapG_map]
        · rfl
theorem srtG_map {key : α → List UInt8} {key' : β → List UInt8} (f : α → β) : ∀ (k : Nat) (R : List α), (∀ x ∈ R, key' (f x) = key x) → (srtG key k R).map f = srtG key' k (R.map f)
  | 0, _, _ => rfl
  | k + 1, R, h => by
    show (bubG key (k + 1) (srtG key k R)).map f = bubG key' (k + 1) (srtG key' k (R.map f))
    rw [bubG_map f (k + 1) _ fun x hx => h x (srtG_mem k hx), srtG_map f k R h]
end
def sortA (L : List AT) : List AT := srtG (fun a => a.1) (L.length - 1) L
end Go.Proofs.YtpnbcmblnplbgaaGreatDoor


namespace Go.Proofs.YtpnbcmblnplbgaaGreatDoor
set_option linter.unusedVariables false
set_option linter.unusedSimpArgs false

theorem ofL_bang (l : List UInt8) (i : Nat) : (ofL l)[i]! = l[i]! := by
  by_cases h : i < l.length
  · rw [getElem!_pos (ofL l) i (by simpa [ofL, ByteArray.size] using h), getElem!_pos l i h]
    rfl
  · rw [getElem!_neg (ofL l) i (by simpa [ofL, ByteArray.size] using h), getElem!_neg l i h]
theorem cmpL_cons (x y : UInt8) (a b : List UInt8) : cmpL (x :: a) (y :: b) = if (x != y) = true then (if x < y then -1 else 1) else cmpL a b := by
  unfold cmpL Extern.BytealgCompare.cmp
  simp only [ofL_bang, ofL_size, List.length_cons]
  rw [show min (a.length + 1) (b.length + 1) = min a.length b.length + 1 by omega, List.range_succ_eq_map, List.find?_cons]
  have e0 : (x :: a)[0]! = x := rfl
  have e1 : (y :: b)[0]! = y := rfl
  rw [e0, e1]
  by_cases h : (x != y) = true
  · rw [h, if_pos rfl]
    simp only [e0, e1]
  · have h' : (x != y) = false := by simpa using h
    rw [h', List.find?_map]
    simp only [Bool.false_eq_true, if_false]
    have e2 : ((fun i => (x :: a)[i]! != (y :: b)[i]!) ∘ Nat.succ) = fun i => a[i]! != b[i]! := by
      funext i
      simp
    rw [e2]
    cases hq : List.find? (fun i => a[i]! != b[i]!) (List.range (min a.length b.length)) with
    | none =>
      have e3 : (a.length + 1 < b.length + 1) = (a.length < b.length) := propext ⟨fun h => by omega, fun h => by omega⟩
      have e4 : (a.length + 1 > b.length + 1) = (a.length > b.length) := propext ⟨fun h => by omega, fun h => by omega⟩
      simp only [Option.map_none, e3, e4]
    | some i => simp
theorem cmpL_less : ∀ a b : List UInt8, decide (cmpL a b < 0) = Op.bytesLess a b
  | a, [] => by cases a <;> simp [cmpL, Extern.BytealgCompare.cmp, ofL_size, Op.bytesLess]
  | [], y :: b => by simp [cmpL, Extern.BytealgCompare.cmp, ofL_size, Op.bytesLess]
  | x :: a, y :: b => by
    have ih := cmpL_less a b
    rw [cmpL_cons]
    unfold Op.bytesLess
    by_cases h : x = y
    · subst h
      simp [ih]
    · have h1 : (x != y) = true := by simpa using h
      have h2 : (x == y) = false := by simpa using h
      rw [if_pos h1, h2]
      by_cases h3 : x < y <;> simp [h3]
theorem less_gtB : ∀ x y : List UInt8, Op.bytesLess y x = gtB x y
  | [], [] => rfl
  | [], _ :: _ => rfl
  | _ :: _, [] => rfl
  | a :: x, b :: y => by
    have ih := less_gtB x y
    unfold gtB at ih ⊢
    simp only [Op.bytesLess, List.cons_beq_cons]
    rw [ih]
    by_cases h : a = b
    · subst h; simp
    · have h1 : (a == b) = false := by simpa using h
      have h2 : (b == a) = false := by simpa using Ne.symm h
      rw [h1, h2]
      have h3 : a.toNat ≠ b.toNat := fun e => h (UInt8.toNat_inj.1 e)
      simp only [UInt8.lt_iff_toNat_lt]
      by_cases h4 : a.toNat < b.toNat
      · have h5 : ¬ b.toNat < a.toNat := by omega
        simp [h4, h5]
      · have h5 : b.toNat < a.toNat := by omega
        simp [h4, h5]
theorem cmp_gtB (x y : List UInt8) : cmpL y x < 0 ↔ gtB x y = true := by
  rw [← less_gtB, ← cmpL_less]; simp

def posB (S : List AT) (a : AT) : Nat → Nat
  | 0 => 0
  | k + 1 => match S[k]? with
    | some s => if gtB s.1 a.1 = true then posB S a k else k + 1
    | none => k + 1
def insB (S : List AT) (a : AT) : List AT := S.take (posB S a S.length) ++ a :: S.drop (posB S a S.length)
theorem posB_le (S : List AT) (a : AT) : ∀ k, posB S a k ≤ k
  | 0 => Nat.le_refl _
  | k + 1 => by
    unfold posB
    split
    · split
      · exact Nat.le_succ_of_le (posB_le S a k)
      · exact Nat.le_refl _
    · exact Nat.le_refl _
theorem posB_go {S : List AT} {a : AT} {k : Nat} (h : k < S.length) (hg : gtB S[k].1 a.1 = true) : posB S a (k + 1) = posB S a k := by
  rw [posB, List.getElem?_eq_getElem h]; simp only []; rw [if_pos hg]
theorem posB_stop {S : List AT} {a : AT} {k : Nat} (h : k < S.length) (hg : gtB S[k].1 a.1 = false) : posB S a (k + 1) = k + 1 := by
  rw [posB, List.getElem?_eq_getElem h]; simp only []; rw [if_neg (by simp [hg])]
theorem insB_length (S : List AT) (a : AT) : (insB S a).length = S.length + 1 := by
  unfold insB
  have := posB_le S a S.length
  simp; omega
theorem bub_pos (S : List AT) (a : AT) (r : List AT) : ∀ j, j ≤ S.length → bubG (fun a => a.1) j (S.take j ++ a :: (S.drop j ++ r)) = S.take (posB S a j) ++ a :: (S.drop (posB S a j) ++ r)
  | 0, _ => rfl
  | j + 1, h => by
    have hj : j < S.length := by omega
    have hl : j + 1 < (S.take (j + 1) ++ a :: (S.drop (j + 1) ++ r)).length := by simp; omega
    have hs : S.take (j + 1) = S.take j ++ [S[j]] := by rw [List.take_succ_eq_append_getElem hj]
    have hd : S.drop j = S[j] :: S.drop (j + 1) := List.drop_eq_getElem_cons hj
    have htl : (S.take j).length = j := by simp; omega
    have g1 : (S.take (j + 1) ++ a :: (S.drop (j + 1) ++ r))[j + 1]'hl = a := by
      rw [List.getElem_append_right (by simp; omega)]
      simp [show j + 1 - min (j + 1) S.length = 0 by omega]
    have g0 : (S.take (j + 1) ++ a :: (S.drop (j + 1) ++ r))[j]'(by omega) = S[j] := by
      rw [List.getElem_append_left (by simp; omega)]
      simp
    by_cases hg : gtB S[j].1 a.1 = true
    · rw [bubG_go hl (by rw [g1, g0]; exact (cmp_gtB _ _).2 hg), posB_go hj hg]
      have hsw : swapG (S.take (j + 1) ++ a :: (S.drop (j + 1) ++ r)) j = S.take j ++ a :: (S.drop j ++ r) := by
        rw [swapG_at hl, g1, g0, hs, hd]
        rw [List.append_assoc]
        simp only [List.cons_append, List.nil_append]
        rw [List.set_append_right _ _ (by omega), List.set_append_right _ _ (by omega)]
        rw [htl]
        simp
      rw [hsw]
      exact bub_pos S a r j (by omega)
    · have hg' : gtB S[j].1 a.1 = false := by simpa using hg
      rw [bubG_stop hl (by rw [g1, g0]; intro e; exact hg ((cmp_gtB _ _).1 e)), posB_stop hj hg']
theorem srt_fold (L : List AT) : ∀ k, k < L.length → srtG (fun a => a.1) k L = (L.take (k + 1)).foldl insB [] ++ L.drop (k + 1)
  | 0, h => by
    cases L with
    | nil => simp at h
    | cons a r => rfl
  | k + 1, h => by
    have ih := srt_fold L k (by omega)
    have hlen : ∀ (M : List AT) (S : List AT), (M.foldl insB S).length = S.length + M.length := by
      intro M
      induction M with
      | nil => intro S; rfl
      | cons a r ih => intro S; rw [List.foldl_cons, ih, insB_length, List.length_cons]; omega
    show bubG (fun a => a.1) (k + 1) (srtG (fun a => a.1) k L) = _
    rw [ih]
    obtain ⟨S, hS⟩ : ∃ S, S = (L.take (k + 1)).foldl insB [] := ⟨_, rfl⟩
    have hSl : S.length = k + 1 := by rw [hS, hlen]; simp; omega
    rw [← hS, List.drop_eq_getElem_cons h]
    have hb := bub_pos S L[k + 1] (L.drop (k + 1 + 1)) (k + 1) (by omega)
    rw [List.take_of_length_le (by omega), List.drop_of_length_le (by omega), List.nil_append] at hb
    rw [hb, List.take_succ_eq_append_getElem h, List.foldl_append, ← hS]
    show _ = insB S L[k + 1] ++ _
    unfold insB
    rw [hSl, List.append_assoc]; rfl
theorem sortA_fold (L : List AT) : sortA L = L.foldl insB [] := by
  unfold sortA
  cases hl : L with
  | nil => rfl
  | cons a r =>
    rw [srt_fold _ _ (by simp)]
    rw [List.take_of_length_le (by simp), List.drop_of_length_le (by simp), List.append_nil]
end Go.Proofs.YtpnbcmblnplbgaaGreatDoor


namespace Go.Proofs.YtpnbcmblnplbgaaGreatDoor
set_option linter.unusedVariables false
set_option linter.unusedSimpArgs false

theorem getD_in {α : Type} (l : List α) (d : α) {i : Nat} (h : i < l.length) : l.getD i d = l[i] := by simp [List.getD, h]
abbrev ET := List UInt8 × List AT
abbrev KL := List UInt8
def kE (e : ET) : KL := (keyD e.1).getD []
def keysE (L : List ET) : List KL := L.map kE
theorem keysE_len (L : List ET) : (keysE L).length = L.length := by simp [keysE]
theorem keysE_at (L : List ET) (j : Nat) (h : j < L.length) : (keysE L)[j]'(by rw [keysE_len]; exact h) = kE L[j] := by simp [keysE]

def idxK (KS : List KL) (k : KL) : Int := match KS.findIdx? (fun x => x == k) with
  | some i => (i : Int)
  | none => -1
theorem idxK_at {KS : List KL} {k : KL} (j : Nat) (hj : j < KS.length) (h : ∀ i (hi : i < KS.length), i < j → KS[i] ≠ k) (he : KS[j] = k) : idxK KS k = j := by
  have : KS.findIdx? (fun x => x == k) = some j := by
    rw [List.findIdx?_eq_some_iff_getElem]
    exact ⟨hj, by simp [he], fun i hi => by simpa using h i (by omega) hi⟩
  unfold idxK; rw [this]
theorem idxK_no {KS : List KL} {k : KL} (h : k ∉ KS) : idxK KS k = -1 := by
  have : KS.findIdx? (fun x => x == k) = none := by
    rw [List.findIdx?_eq_none_iff]
    intro x hx
    simpa using fun e => h (by rw [← e]; exact hx)
  unfold idxK; rw [this]
theorem idxK_some {KS : List KL} {k : KL} (h : k ∈ KS) : ∃ j, ∃ hj : j < KS.length, idxK KS k = j ∧ KS[j] = k ∧ ∀ i (hi : i < KS.length), i < j → KS[i] ≠ k := by
  cases e : KS.findIdx? (fun x => x == k) with
  | none =>
    rw [List.findIdx?_eq_none_iff] at e
    have := e k h
    simp at this
  | some j =>
    have e2 := e
    rw [List.findIdx?_eq_some_iff_getElem] at e
    obtain ⟨hj, h1, h2⟩ := e
    exact ⟨j, hj, by unfold idxK; rw [e2], by simpa using h1, fun i hi hij => by simpa using h2 i hij⟩
def findK (KS : List KL) (k : KL) : Int := if k = [] then -1 else idxK KS k
theorem findK_idx {KS : List KL} {k : KL} (h : [] ∉ KS) : findK KS k = idxK KS k := by
  unfold findK
  split
  · rename_i e; subst e; rw [idxK_no h]
  · rfl

def aboveK (KS : List KL) (k : KL) : Nat := (KS.findIdx? (fun x => gtB x k)).getD KS.length

open Go.Maps
def kLit (k : KL) : Lit := .string k
def PlD (KS : List KL) (D : DataW Unit) : Prop := IsMap D ∧ ∀ k : KL, has D (kLit k) = (KS.contains k && !k.isEmpty) ∧ (∀ i : Nat, idxK KS k = i → k ≠ [] → ∀ z, D.atKey (kLit k) z = .lit (.int .i64 i))
theorem plD_nil : PlD [] (.map []) := ⟨isMap_empty, fun k => ⟨rfl, fun i h => absurd h (by rw [idxK_no (by simp)]; omega)⟩⟩
theorem idxK_app_old {KS : List KL} {k x : KL} (h : k ∈ KS) : idxK (KS ++ [x]) k = idxK KS k := by
  obtain ⟨j, hj, e, h1, h2⟩ := idxK_some h
  rw [e]
  exact idxK_at j (by simp; omega) (fun i hi hij => by rw [List.getElem_append_left (by omega)]; exact h2 i (by omega) hij) (by rw [List.getElem_append_left hj]; exact h1)
theorem idxK_app_new {KS : List KL} {k : KL} (h : k ∉ KS) : idxK (KS ++ [k]) k = KS.length :=
  idxK_at KS.length (by simp) (fun i hi hij => by rw [List.getElem_append_left hij]; exact fun e => h (by rw [← e]; exact List.getElem_mem _)) (by simp)
theorem idxK_app_other {KS : List KL} {k x : KL} (h : x ≠ k) : idxK (KS ++ [x]) k = idxK KS k := by
  by_cases hk : k ∈ KS
  · exact idxK_app_old hk
  · rw [idxK_no hk, idxK_no (by simpa [hk] using Ne.symm h)]
theorem plD_skip {KS : List KL} {D : DataW Unit} {k : KL} (h : PlD KS D) (hs : (KS.contains k && !k.isEmpty) = true ∨ k = []) : PlD (KS ++ [k]) D := by
  refine ⟨h.1, fun x => ?_⟩
  by_cases e : k = x
  · subst e
    rcases hs with hs | rfl
    · have hm : k ∈ KS := by simp at hs; exact hs.1
      refine ⟨by rw [(h.2 k).1]; simp [hm], fun i hi hne z => (h.2 k).2 i (by rw [← hi, idxK_app_old hm]) hne z⟩
    · exact ⟨by rw [(h.2 []).1]; simp, fun i _ hne => absurd rfl hne⟩
  · refine ⟨by rw [(h.2 x).1]; simp [Ne.symm e], fun i hi hne z => (h.2 x).2 i (by rw [← hi, idxK_app_other e]) hne z⟩
theorem kLit_ne {a b : KL} (h : a ≠ b) : kLit a ≠ kLit b := fun e => h (by injection e)
theorem kLit_key (k : KL) : WideAt.IsKeyLit (kLit k) := by unfold kLit WideAt.IsKeyLit; trivial
theorem plD_put {KS : List KL} {D : DataW Unit} {k : KL} (h : PlD KS D) (hk : k ≠ []) (hn : has D (kLit k) = false) : PlD (KS ++ [k]) (D.put (kLit k) (.lit (.int .i64 (KS.length : Nat)))) := by
  have hm : k ∉ KS := by
    rw [(h.2 k).1] at hn
    intro hm
    have : k.isEmpty = false := by cases k <;> simp_all
    simp [hm, this] at hn
  refine ⟨h.1.put _ _, fun x => ?_⟩
  by_cases e : x = k
  · subst e
    refine ⟨?_, fun i hi _ z => ?_⟩
    · rw [has_put_same h.1 (kLit_key x)]
      have : x.isEmpty = false := by cases x <;> simp_all
      simp [this]
    · rw [atKey_put_same h.1 (kLit_key x)]
      rw [idxK_app_new hm] at hi
      rw [hi]
  · refine ⟨by rw [has_put_other (kLit_ne e), (h.2 x).1]; simp [e], fun i hi hne z => ?_⟩
    rw [atKey_put_other (kLit_ne e)]
    exact (h.2 x).2 i (by rw [← hi, idxK_app_other (Ne.symm e)]) hne z

theorem lessT_nat : ∀ a b : List UInt8, Op.bytesLess a b = decide (a.map UInt8.toNat < b.map UInt8.toNat)
  | a, [] => by cases a <;> simp [Op.bytesLess]
  | [], y :: b => by simp [Op.bytesLess]
  | x :: a, y :: b => by
    have ih := lessT_nat a b
    unfold Op.bytesLess
    simp only [List.map_cons, List.cons_lt_cons_iff, ih]
    by_cases h : x = y
    · subst h; simp
    · have h2 : (x == y) = false := by simpa using h
      have h3 : x.toNat ≠ y.toNat := fun e => h (UInt8.toNat_inj.1 e)
      simp [h2, h3, UInt8.lt_iff_toNat_lt]
theorem gtT_iff (x y : List UInt8) : gtB x y = true ↔ y.map UInt8.toNat < x.map UInt8.toNat := by rw [← less_gtB, lessT_nat]; simp
theorem gtT_trans {x y z : List UInt8} (h1 : gtB x y = true) (h2 : gtB y z = true) : gtB x z = true := by
  rw [gtT_iff] at h1 h2 ⊢
  exact List.lt_trans h2 h1
theorem leT_iff (x y : List UInt8) : gtB x y = false ↔ x.map UInt8.toNat ≤ y.map UInt8.toNat := by
  rw [← Bool.not_eq_true, gtT_iff]
  exact List.not_lt
theorem gleT_refl (x : List UInt8) : gtB x x = false := by rw [leT_iff]; exact List.le_refl _
def normE (e : ET) : ET := (nameN e.1, sortA (normL e.2))
def isNE (e : ET) : Bool := normE e == e
def okE (e : ET) : Bool := decide (checkD e.1 e.2 = 0) && isNE e
def riseK (KS : List KL) (i : Nat) : Bool := i == 0 || gtB (KS.getD i []) (KS.getD (i - 1) [])
def upK (KS : List KL) (i : Nat) : Bool := (upD (KS.getD i [])).isEmpty || KS.contains (upD (KS.getD i []))
def standsK (KS : List KL) : Bool := (List.range KS.length).all (fun i => riseK KS i && upK KS i)
def mayE (L : List ET) : Bool := decide (L.length ≤ 200) && L.all okE && standsK (keysE L)
theorem stands_yes {KS : List KL} (h : ∀ i, i < KS.length → riseK KS i = true ∧ upK KS i = true) : standsK KS = true := by
  unfold standsK
  rw [List.all_eq_true]
  intro i hi
  obtain ⟨h1, h2⟩ := h i (by simpa using hi)
  rw [h1, h2]; rfl
theorem stands_at {KS : List KL} (h : standsK KS = true) (i : Nat) (hi : i < KS.length) : riseK KS i = true ∧ upK KS i = true := by
  unfold standsK at h
  have := List.all_eq_true.1 h i (by simpa using hi)
  simpa using this
theorem may_stands {L : List ET} (hl : L.length ≤ 200) (h : ∀ i (hi : i < L.length), okE L[i] = true) : mayE L = standsK (keysE L) := by
  unfold mayE
  have : L.all okE = true := List.all_eq_true.2 fun x hx => by obtain ⟨i, hi, rfl⟩ := List.getElem_of_mem hx; exact h i hi
  rw [this]; simp [hl]
theorem check_key {d : List UInt8} {L : List AT} (h : checkD d L = 0) : ∃ k, keyD d = some k ∧ k ≠ [] := by
  cases e : keyD d with
  | none => rw [check_none e] at h; cases h
  | some k =>
    by_cases hk : k = []
    · subst hk; rw [check_empty e] at h; cases h
    · exact ⟨k, rfl, hk⟩
theorem ok_key {e : ET} (h : okE e = true) : kE e ≠ [] := by
  unfold okE at h
  simp only [Bool.and_eq_true, decide_eq_true_eq] at h
  obtain ⟨k, e, hk⟩ := check_key h.1
  unfold kE; rw [e]; exact hk
theorem may_keys {L : List ET} (h : mayE L = true) : [] ∉ keysE L := by
  unfold mayE at h
  simp only [Bool.and_eq_true, List.all_eq_true] at h
  intro hm
  obtain ⟨e, he, hk⟩ := List.mem_map.1 hm
  exact ok_key (h.1.2 e he) hk
theorem may_st {L : List ET} (h : mayE L = true) : standsK (keysE L) = true := by unfold mayE at h; simp only [Bool.and_eq_true] at h; exact h.2
theorem rise_lt {KS : List KL} (h : ∀ i, i < KS.length → riseK KS i = true) : ∀ (j i : Nat), i < j → j < KS.length → gtB (KS.getD j []) (KS.getD i []) = true
  | 0, i, hij, _ => by omega
  | j + 1, i, hij, hj => by
    have h1 := h (j + 1) hj
    unfold riseK at h1
    rw [show (j + 1 == 0) = false from by simp, Bool.false_or, show j + 1 - 1 = j from by omega] at h1
    by_cases e : i = j
    · subst e; exact h1
    · exact gtT_trans h1 (rise_lt h j i (by omega) (by omega))
theorem rise_ne {KS : List KL} (h : standsK KS = true) {i j : Nat} (hi : i < KS.length) (hj : j < KS.length) (hne : i ≠ j) : KS[i] ≠ KS[j] := by
  have hr := fun i hi => (stands_at h i hi).1
  have key : ∀ a b (ha : a < KS.length) (hb : b < KS.length), a < b → KS[a] ≠ KS[b] := fun a b ha hb hab e => by
    have h1 := rise_lt hr b a hab hb
    rw [getD_in _ _ ha, getD_in _ _ hb, e, gleT_refl] at h1
    cases h1
  by_cases hlt : i < j
  · exact key i j hi hj hlt
  · exact Ne.symm (key j i hj hi (by omega))

def kidsP (KS : List KL) (k : KL) : List KL := KS.filter (fun x => !x.isEmpty && upD x == k)
def kidsT (KS : List KL) (k : KL) : List KL := KS.filter (fun x => upD x == k && !(x == k))
def delE (L : List ET) (k : KL) : List ET := if findK (keysE L) k < 0 then L else L.take (findK (keysE L) k).toNat ++ L.drop ((findK (keysE L) k).toNat + 1)
def delD (L : List ET) (k : KL) : List ET := L.filter (fun e => !(kE e == k))
theorem del_eq {L : List ET} (h : mayE L = true) (k : KL) : delE L k = delD L k := by
  have h0 := may_keys h
  have hs := may_st h
  unfold delE
  rw [findK_idx h0]
  by_cases hm : k ∈ keysE L
  · obtain ⟨j, hj, e, h1, h2⟩ := idxK_some hm
    rw [e, if_neg (by omega)]
    have hjl : j < L.length := by rw [keysE_len] at hj; exact hj
    show L.take j ++ L.drop (j + 1) = delD L k
    unfold delD
    have hL : L = L.take j ++ L[j] :: L.drop (j + 1) := by rw [← List.drop_eq_getElem_cons hjl, List.take_append_drop]
    have hk : kE L[j] = k := by rw [← keysE_at L j hjl]; exact h1
    have other : ∀ i (hi : i < L.length), i ≠ j → kE L[i] ≠ k := fun i hi hij => by
      rw [← keysE_at L i hi, ← h1]
      exact rise_ne hs _ _ hij
    have f1 : (L.take j).filter (fun e => !(kE e == k)) = L.take j := List.filter_eq_self.2 fun x hx => by
      obtain ⟨i, hi, rfl⟩ := List.mem_take_iff_getElem.1 hx
      simpa using other i (by omega) (by omega)
    have f2 : (L.drop (j + 1)).filter (fun e => !(kE e == k)) = L.drop (j + 1) := List.filter_eq_self.2 fun x hx => by
      obtain ⟨i, hi, rfl⟩ := List.mem_drop_iff_getElem.1 hx
      simpa using other _ (by omega) (by omega)
    conv => rhs; rw [hL]
    rw [List.filter_append, List.filter_cons_of_neg (by simp [hk]), f1, f2]
  · rw [idxK_no hm, if_pos (by omega)]
    unfold delD
    exact (List.filter_eq_self.2 fun x hx => by
      have : kE x ≠ k := fun e => hm (by rw [← e]; exact List.mem_map_of_mem hx)
      simpa using this).symm
end Go.Proofs.YtpnbcmblnplbgaaGreatDoor


namespace Go.Proofs.YtpnbcmblnplbgaaGreatDoor
open Go.RowKit
set_option linter.unusedVariables false

def perL (n : List UInt8) : List AT := [([99, 110], [n]), ([111, 98, 106, 101, 99, 116, 99, 108, 97, 115, 115], [[112, 101, 114, 115, 111, 110]]), ([115, 110], [[115]])]
def perD (n : List UInt8) : List UInt8 := [99, 110, 61] ++ n ++ [44, 111, 61, 120]

structure PerAt (w : World) (g : Nat) (N : ByteArray) : Prop where
  b1 : w.heap[g - 3]? = some (.cells #[.string N] 9 (0, 0))
  b2 : w.heap[g - 2]? = some (.cells #[.string ⟨#[112, 101, 114, 115, 111, 110]⟩] 9 (0, 0))
  b3 : w.heap[g - 1]? = some (.cells #[.string ⟨#[115]⟩] 9 (0, 0))
  b4 : w.heap[g]? = some (.cells #[.string ⟨#[99, 110]⟩, .slice (some ⟨g - 3, 0, none⟩) 1 1, .string ⟨#[111, 98, 106, 101, 99, 116, 99, 108, 97, 115, 115]⟩, .slice (some ⟨g - 2, 0, none⟩) 1 1, .string ⟨#[115, 110]⟩, .slice (some ⟨g - 1, 0, none⟩) 1 1] 56 (0, 0))
  lt : g < w.heap.size
theorem PerAt.below {w w' : World} {g n : Nat} {N : ByteArray} (h : PerAt w g N) (hb : Below n w w') (hn : g < n) : PerAt w' g N :=
  ⟨(hb.block _ (by omega)).trans h.b1, (hb.block _ (by omega)).trans h.b2, (hb.block _ (by omega)).trans h.b3, (hb.block _ hn).trans h.b4, Nat.lt_of_lt_of_le h.lt hb.size⟩
theorem isT_block {w : World} {b n0 : Nat} {X : ByteArray} {e : TypeId} (h : w.heap[b]? = some (.cells #[.string X] e (0, 0))) (hn : b < n0) : IsT n0 w [X.data.toList] (.slice (some ⟨b, 0, none⟩) 1 1) :=
  ⟨_, _, rfl, by unfold maxLen; simp, fun j hj => by
    have : j = 0 := by simp at hj; omega
    subst this
    refine ⟨b, 0, rfl, hn, ?_⟩
    rw [show [X.data.toList][0] = X.data.toList from rfl, strV_whole]
    simp only [World.cell?, h]; rfl⟩
theorem PerAt.isA {w : World} {g : Nat} {N : ByteArray} (h : PerAt w g N) : IsA w.heap.size w (perL N.data.toList) (.slice (some ⟨g, 0, none⟩) 3 3) := by
  have hg := h.lt
  refine ⟨_, _, rfl, by unfold maxLen perL; simp, fun j hj => ?_⟩
  match j, hj with
  | 0, _ => exact ⟨g, 0, _, rfl, hg, by simp only [World.cell?, h.b4]; rfl, by simp only [World.cell?, h.b4]; rfl, isT_block h.b1 (by omega)⟩
  | 1, _ => exact ⟨g, 0, _, rfl, hg, by simp only [World.cell?, h.b4]; rfl, by simp only [World.cell?, h.b4]; rfl, isT_block h.b2 (by omega)⟩
  | 2, _ => exact ⟨g, 0, _, rfl, hg, by simp only [World.cell?, h.b4]; rfl, by simp only [World.cell?, h.b4]; rfl, isT_block h.b3 (by omega)⟩

theorem PerAt.cells {w : World} {g : Nat} {N : ByteArray} (h : PerAt w g N) : w.cell? ⟨g, 2, none⟩ = some (.string ⟨#[111, 98, 106, 101, 99, 116, 99, 108, 97, 115, 115]⟩) ∧ w.cell? ⟨g, 3, none⟩ = some (.slice (some ⟨g - 2, 0, none⟩) 1 1) ∧ w.cell? ⟨g, 4, none⟩ = some (.string ⟨#[115, 110]⟩) ∧ w.cell? ⟨g, 5, none⟩ = some (.slice (some ⟨g - 1, 0, none⟩) 1 1) :=
  ⟨by simp only [World.cell?, h.b4]; rfl, by simp only [World.cell?, h.b4]; rfl, by simp only [World.cell?, h.b4]; rfl, by simp only [World.cell?, h.b4]; rfl⟩
end Go.Proofs.YtpnbcmblnplbgaaGreatDoor


namespace Go.Proofs.YtpnbcmblnplbgaaGreatDoor
open Go.RowKit
set_option linter.unusedVariables false

def MapAt (f : UInt8 → UInt8) (w : World) (s : ByteArray) (j : Nat) (wr : World) : Prop :=
  Below w.heap.size w wr ∧ ∃ A : Array Value, wr.heap[w.heap.size]? = some (.cells A 5 (A.size, A.size + 1)) ∧ s.size ≤ A.size ∧ ∀ k (h : k < s.size), A[k]? = some (.int .u8 ((if k < j then f s[k] else s[k]).toNat : Int))

theorem MapAt.cell {f : UInt8 → UInt8} {w wr : World} {s : ByteArray} {j : Nat} (h : MapAt f w s j wr) (hj : j < s.size) : wr.cell? ⟨w.heap.size, j, none⟩ = some (.int .u8 (s[j].toNat : Int)) ∧ wr.frozen? ⟨w.heap.size, j, none⟩ = false := by
  obtain ⟨_, A, hA, hs, hc⟩ := h
  have := hc j hj
  rw [if_neg (by omega)] at this
  refine ⟨by simp only [World.cell?, hA]; simpa using this, by simp only [World.frozen?, hA]; simp; omega⟩
theorem MapAt.skip {f : UInt8 → UInt8} {w wr : World} {s : ByteArray} {j : Nat} (h : MapAt f w s j wr) (hj : j < s.size) (he : f s[j] = s[j]) : MapAt f w s (j + 1) wr := by
  obtain ⟨hb, A, hA, hs, hc⟩ := h
  refine ⟨hb, A, hA, hs, fun k hk => ?_⟩
  rw [hc k hk]
  by_cases h1 : k < j
  · rw [if_pos h1, if_pos (by omega)]
  · rw [if_neg h1]
    by_cases h2 : k = j
    · subst h2; rw [if_pos (by omega), he]
    · rw [if_neg (by omega)]
theorem MapAt.store {f : UInt8 → UInt8} {w wr : World} {s : ByteArray} {j : Nat} (h : MapAt f w s j wr) (hj : j < s.size) (n : Int) (hn : n = ((f s[j]).toNat : Int)) : MapAt f w s (j + 1) (wr.setCell ⟨w.heap.size, j, none⟩ (.int .u8 n)) := by
  subst hn
  obtain ⟨hb, A, hA, hs, hc⟩ := h
  refine ⟨hb.setCell (p := ⟨w.heap.size, j, none⟩) (Nat.le_refl _) _, A.setIfInBounds j (.int .u8 (f s[j]).toNat), ?_, by simpa using hs, fun k hk => ?_⟩
  · obtain ⟨hlt, hv⟩ := Array.getElem?_eq_some_iff.1 hA
    show (wr.heap.modify w.heap.size _)[w.heap.size]? = _
    rw [Array.getElem?_eq_getElem (by rw [Array.size_modify]; exact hlt), Array.getElem_modify_self, hv]
    simp
  · rw [Array.getElem?_setIfInBounds]
    by_cases h2 : j = k
    · subst h2; rw [if_pos rfl, if_pos (by omega), if_pos (by omega)]
    · rw [if_neg h2, hc k hk]
      by_cases h1 : k < j
      · rw [if_pos h1, if_pos (by omega)]
      · rw [if_neg h1, if_neg (by omega)]
theorem MapAt.conv {f : UInt8 → UInt8} {w wr : World} {s : ByteArray} {cap : Nat} (h : MapAt f w s s.size wr) :
    (convert 22 9 (.slice (some ⟨w.heap.size, 0, none⟩) s.size cap)).run Tryz.prog wr = .ok (.string ⟨(s.data.toList.map f).toArray⟩) wr := by
  obtain ⟨_, A, hA, hs, hc⟩ := h
  have hl : s.size = (s.data.toList.map f).length := by simp
  conv => lhs; rw [hl]
  refine run_convert_bytes_back wr 22 9 5 _ cap (s.data.toList.map f) Tryz.underlying22 Tryz.underlying5 Tryz.underlying9 fun j hj => ?_
  have hj' : j < s.size := by rw [hl]; exact hj
  have e : ((⟨w.heap.size, 0, none⟩ : Addr).add j) = ⟨w.heap.size, j, none⟩ := by simp [Addr.add]; omega
  have := hc j hj'
  rw [if_pos hj'] at this
  rw [e]
  simp only [World.cell?, hA]
  simp
  exact this


def upC (c : UInt8) : UInt8 := if 97 ≤ c.toNat ∧ c.toNat ≤ 122 then UInt8.ofNat (c.toNat - 32) else c
def upL (l : List UInt8) : List UInt8 := l.map upC
end Go.Proofs.YtpnbcmblnplbgaaGreatDoor


namespace Go.Proofs.YtpnbcmblnplbgaaGreatDoor
open Go.RowKit
set_option linter.unusedVariables false

end Go.Proofs.YtpnbcmblnplbgaaGreatDoor


namespace Go.Proofs.YtpnbcmblnplbgaaGreatDoor
open Go.RowKit
set_option linter.unusedVariables false

end Go.Proofs.YtpnbcmblnplbgaaGreatDoor


namespace Go.Proofs.YtpnbcmblnplbgaaGreatDoor
open Go.RowKit
set_option linter.unusedVariables false

def codeL : List Int := [17, 19, 21, 19, 20, 20]
def badL : List AT := [([110, 111, 110, 101], [[120]]), ([100, 101, 115, 99, 114, 105, 112, 116, 105, 111, 110], []), ([117, 105, 100, 110, 117, 109, 98, 101, 114], [[120]]), ([117, 105, 100, 110, 117, 109, 98, 101, 114], [[49], [50]]), ([109, 97, 105, 108], [[97], [65, 32]]), ([67, 78], [[122]])]
def othD : List UInt8 := [99, 110, 61, 111, 116, 104, 101, 114]
def pName (d : List UInt8) : List UInt8 := 112 :: d
def ouA : AT := ([111, 117], [[97]])
end Go.Proofs.YtpnbcmblnplbgaaGreatDoor


namespace Go.Proofs.YtpnbcmblnplbgaaGreatDoor
open Go.RowKit
set_option linter.unusedVariables false

theorem conv_one (m : Int) (b : UInt8) (h : (b.toNat : Int) = m) (w : World) : (convert 22 9 (.slice (some ⟨w.heap.size, 0, none⟩) 1 1)).run Tryz.prog (w.alloc (.cells #[.int .u8 m] 5)) = .ok (.string (ofL [b])) (w.alloc (.cells #[.int .u8 m] 5)) := by
  subst h
  refine run_convert_bytes_back _ 22 9 5 _ 1 [b] Tryz.underlying22 Tryz.underlying5 Tryz.underlying9 fun j hj => ?_
  have : j = 0 := by simp at hj; omega
  subst this
  simp [Addr.add]
theorem decDigits_big {u : Nat} (h : 10 ≤ u) : Lib.decDigits u = Lib.decDigits (u / 10) ++ [UInt8.ofNat (48 + u % 10)] := by rw [Lib.decDigits, dif_neg (by omega)]
theorem digit_val (u : Nat) : ((UInt8.ofNat (48 + u % 10)).toNat : Int) = 48 + (u : Int) % 10 := by simp; omega
theorem digit_val1 (u : Nat) (h : u < 10) : ((UInt8.ofNat (48 + u)).toNat : Int) = 48 + (u : Int) := by simp; omega

theorem wrap_u64 (n : Int) : IntKind.u64.wrap n = n % 18446744073709551616 := by
  unfold IntKind.wrap
  simp [IntKind.bits, IntKind.signed]
set_option maxRecDepth 100000 in
set_option maxHeartbeats 4000000 in
theorem digitsNat_any (neg : Bool) (N : Nat) (hN : N ≤ 1000000000000000000) (hneg : neg = true → 1 ≤ N) (w : World) :
    Calls Tryz.prog 18 #[.int .i64 (if neg then -(N : Int) else N)] w fun e w' => e = .returned (.string (ofL (if neg then 45 :: Lib.decDigits N else Lib.decDigits N))) ∧ Below w.heap.size w w' := by
  have hlen : (Lib.decDigits N).length ≤ 21 := by
    have := Lib.itoa_length_le (N : Int) (by omega) (by omega)
    rw [Lib.itoa_nonneg] at this
    exact this
  obtain ⟨V, hV⟩ : ∃ V, V = (if neg then -(N : Int) else N) := ⟨_, rfl⟩
  rw [← hV]
  obtain ⟨U, hU⟩ : ∃ U, IntKind.u64.wrap V = U := ⟨_, rfl⟩
  have key : decide (V < 0) = neg ∧ (neg = true → IntKind.u64.wrap (-U) = N) ∧ (neg = false → U = N) := by
    cases neg with
    | false =>
      simp at hV
      refine ⟨by simp; omega, by simp, fun _ => ?_⟩
      rw [← hU, hV]; simp only [wrap_u64]; omega
    | true =>
      simp at hV
      have := hneg rfl
      refine ⟨by simp; omega, fun _ => ?_, by simp⟩
      rw [← hU, hV]; simp only [wrap_u64]; omega
  obtain ⟨k1, k2, k3⟩ := key
  clear hV
  have HLen := Lib.hid hlen
  clear hlen
  cases neg with
  | false =>
    have hUN := k3 rfl
    clear k3 k2 hneg
    subst hUN
    go_enter Tryz.func18, Tryz.ntmps18
    go_wp2
    go_loopw [3, 4] (fun u s wr => ∃ (m : Nat) (D : List UInt8), u = .int .u64 m ∧ s = .string (ofL D) ∧ m ≤ 1000000000000000000 ∧ Hid (Lib.decDigits N = Lib.decDigits m ++ D) ∧ D.length ≤ 21 ∧ Below w.heap.size w wr) (fun u _ _ => (intOf u).toNat)
    case atStart => exact ⟨N, [], rfl, rfl, hN, Lib.hid (by simp), by simp, Below.refl _ _⟩
    case round =>
      obtain ⟨m, D, rfl, rfl, hm, HD, hDl, hbel⟩ := hrel
      have HBel := Lib.hid hbel
      have hsz := hbel.size
      clear hbel
      have hs1 := ofL_size D
      by_cases h10 : 10 ≤ m
      · have t1 : decide ((10 : Int) ≤ (m : Int)) = true := by simp; omega
        have hcv := conv_one (48 + (m : Int) % 10) (UInt8.ofNat (48 + m % 10)) (digit_val m) wr
        have hnew : Lib.decDigits N = Lib.decDigits (m / 10) ++ (UInt8.ofNat (48 + m % 10) :: D) := by rw [HD.out, decDigits_big h10]; simp
        have hl2 : (UInt8.ofNat (48 + m % 10) :: D).length ≤ 21 := by have := HLen.out; rw [hnew] at this; simp at this ⊢; omega
        have HNew := Lib.hid hnew
        have hs2 := ofL_size [UInt8.ofNat (48 + m % 10)]
        have hap : ofL [UInt8.ofNat (48 + m % 10)] ++ ofL D = ofL (UInt8.ofNat (48 + m % 10) :: D) := ofL_app _ _
        have hs1' : (ofL D).size ≤ 21 := by omega
        have hs2' : (ofL [UInt8.ofNat (48 + m % 10)]).size ≤ 1 := by rw [hs2]; simp
        have HAp := Lib.hid hap
        clear hnew hs1 hs2 hap
        generalize UInt8.ofNat (48 + m % 10) = b at *
        go_wp2
        go_roundw
        case rel => exact ⟨m / 10, b :: D, by go_num, by rw [HAp.out], by omega, HNew, hl2, HBel.out.alloc hsz _⟩
        case measure => simp [intOf]; omega
      · have t1 : decide ((10 : Int) ≤ (m : Int)) = false := by simp; omega
        have hcv := conv_one (48 + (m : Int)) (UInt8.ofNat (48 + m)) (digit_val1 m (by omega)) wr
        have hnew : Lib.decDigits N = UInt8.ofNat (48 + m) :: D := by rw [HD.out, Lib.decDigits_one (by omega)]; rfl
        have hs2 := ofL_size [UInt8.ofNat (48 + m)]
        have hap : ofL [UInt8.ofNat (48 + m)] ++ ofL D = ofL (Lib.decDigits N) := by rw [ofL_app, hnew]; rfl
        have hs1' : (ofL D).size ≤ 21 := by omega
        have hs2' : (ofL [UInt8.ofNat (48 + m)]).size ≤ 1 := by rw [hs2]; simp
        have hs3 : (ofL (Lib.decDigits N)).size ≤ 21 := by rw [ofL_size]; exact HLen.out
        have hs4 : (⟨#[45]⟩ : ByteArray).size = 1 := rfl
        have hap2 : (⟨#[45]⟩ : ByteArray) ++ ofL (Lib.decDigits N) = ofL (45 :: Lib.decDigits N) := ofL_app [45] _
        have HAp2 := Lib.hid hap2
        clear hnew hs1 hs2 hap2
        generalize UInt8.ofNat (48 + m) = b at *
        obtain ⟨R, hR⟩ : ∃ R, R = ofL (Lib.decDigits N) := ⟨_, rfl⟩
        rw [← hR] at hap hs3 HAp2
        have HR := Lib.hid hR
        clear hR
        go_wp2
        go_ret
        exact ⟨by rw [← HR.out]; rfl, HBel.out.alloc hsz _⟩
  | true =>
    have hN1 := hneg rfl
    have k2' := k2 rfl
    clear k3 k2 hneg
    go_enter Tryz.func18, Tryz.ntmps18
    go_wp2
    go_loopw [3, 4] (fun u s wr => ∃ (m : Nat) (D : List UInt8), u = .int .u64 m ∧ s = .string (ofL D) ∧ m ≤ 1000000000000000000 ∧ Hid (Lib.decDigits N = Lib.decDigits m ++ D) ∧ D.length ≤ 21 ∧ Below w.heap.size w wr) (fun u _ _ => (intOf u).toNat)
    case atStart => exact ⟨N, [], rfl, rfl, hN, Lib.hid (by simp), by simp, Below.refl _ _⟩
    case round =>
      obtain ⟨m, D, rfl, rfl, hm, HD, hDl, hbel⟩ := hrel
      have HBel := Lib.hid hbel
      have hsz := hbel.size
      clear hbel
      have hs1 := ofL_size D
      by_cases h10 : 10 ≤ m
      · have t1 : decide ((10 : Int) ≤ (m : Int)) = true := by simp; omega
        have hcv := conv_one (48 + (m : Int) % 10) (UInt8.ofNat (48 + m % 10)) (digit_val m) wr
        have hnew : Lib.decDigits N = Lib.decDigits (m / 10) ++ (UInt8.ofNat (48 + m % 10) :: D) := by rw [HD.out, decDigits_big h10]; simp
        have hl2 : (UInt8.ofNat (48 + m % 10) :: D).length ≤ 21 := by have := HLen.out; rw [hnew] at this; simp at this ⊢; omega
        have HNew := Lib.hid hnew
        have hs2 := ofL_size [UInt8.ofNat (48 + m % 10)]
        have hap : ofL [UInt8.ofNat (48 + m % 10)] ++ ofL D = ofL (UInt8.ofNat (48 + m % 10) :: D) := ofL_app _ _
        have hs1' : (ofL D).size ≤ 21 := by omega
        have hs2' : (ofL [UInt8.ofNat (48 + m % 10)]).size ≤ 1 := by rw [hs2]; simp
        have HAp := Lib.hid hap
        clear hnew hs1 hs2 hap
        generalize UInt8.ofNat (48 + m % 10) = b at *
        go_wp2
        go_roundw
        case rel => exact ⟨m / 10, b :: D, by go_num, by rw [HAp.out], by omega, HNew, hl2, HBel.out.alloc hsz _⟩
        case measure => simp [intOf]; omega
      · have t1 : decide ((10 : Int) ≤ (m : Int)) = false := by simp; omega
        have hcv := conv_one (48 + (m : Int)) (UInt8.ofNat (48 + m)) (digit_val1 m (by omega)) wr
        have hnew : Lib.decDigits N = UInt8.ofNat (48 + m) :: D := by rw [HD.out, Lib.decDigits_one (by omega)]; rfl
        have hs2 := ofL_size [UInt8.ofNat (48 + m)]
        have hap : ofL [UInt8.ofNat (48 + m)] ++ ofL D = ofL (Lib.decDigits N) := by rw [ofL_app, hnew]; rfl
        have hs1' : (ofL D).size ≤ 21 := by omega
        have hs2' : (ofL [UInt8.ofNat (48 + m)]).size ≤ 1 := by rw [hs2]; simp
        have hs3 : (ofL (Lib.decDigits N)).size ≤ 21 := by rw [ofL_size]; exact HLen.out
        have hs4 : (⟨#[45]⟩ : ByteArray).size = 1 := rfl
        have hap2 : (⟨#[45]⟩ : ByteArray) ++ ofL (Lib.decDigits N) = ofL (45 :: Lib.decDigits N) := ofL_app [45] _
        have HAp2 := Lib.hid hap2
        clear hnew hs1 hs2 hap2
        generalize UInt8.ofNat (48 + m) = b at *
        obtain ⟨R, hR⟩ : ∃ R, R = ofL (Lib.decDigits N) := ⟨_, rfl⟩
        rw [← hR] at hap hs3 HAp2
        have HR := Lib.hid hR
        clear hR
        go_wp2
        go_ret
        exact ⟨by rw [HAp2.out]; rfl, HBel.out.alloc hsz _⟩

theorem digits_any (n : Int) (h0 : -1000000000000000000 ≤ n) (h1 : n ≤ 1000000000000000000) (w : World) :
    Calls Tryz.prog 18 #[.int .i64 n] w fun e w' => e = .returned (.string (ofL (Lib.itoa n))) ∧ Below w.heap.size w w' := by
  by_cases h : n < 0
  · have := digitsNat_any true n.natAbs (by omega) (by intro _; omega) w
    simp only [if_true] at this
    have e : -(n.natAbs : Int) = n := by omega
    rw [e] at this
    unfold Lib.itoa
    rw [if_pos h]
    exact this
  · have := digitsNat_any false n.toNat (by omega) (by intro h; cases h) w
    simp only [Bool.false_eq_true, if_false] at this
    have e : (n.toNat : Int) = n := by omega
    rw [e] at this
    unfold Lib.itoa
    rw [if_neg h]
    exact this
end Go.Proofs.YtpnbcmblnplbgaaGreatDoor


namespace Go.Proofs.YtpnbcmblnplbgaaGreatDoor
open Go.RowKit
set_option linter.unusedVariables false

def bA (k : Nat) : AT := badL.getD k ([], [])
def bT (k : Nat) : ByteArray := ofL (bA k).1
def cK (k : Nat) : Int := codeL.getD k 0
def bV (h : Nat) (k : Nat) : Value := [.slice (some ⟨h + 1, 0, none⟩) 1 1, .slice none 0 0, .slice (some ⟨h + 2, 0, none⟩) 1 1, .slice (some ⟨h + 3, 0, none⟩) 2 2, .slice (some ⟨h + 4, 0, none⟩) 2 2, .slice (some ⟨h + 5, 0, none⟩) 1 1].getD k .nilIface
structure FstAt (h : Nat) (W : World) (E : ByteArray) (u : Value) : Prop where
  box : BoxN W h E u
  b1 : W.heap[h + 1]? = some (.cells #[.string ⟨#[120]⟩] 9 (0, 0))
  b2 : W.heap[h + 2]? = some (.cells #[.string ⟨#[120]⟩] 9 (0, 0))
  b3 : W.heap[h + 3]? = some (.cells #[.string ⟨#[49]⟩, .string ⟨#[50]⟩] 9 (0, 0))
  b4 : W.heap[h + 4]? = some (.cells #[.string ⟨#[97]⟩, .string ⟨#[65, 32]⟩] 9 (0, 0))
  b5 : W.heap[h + 5]? = some (.cells #[.string ⟨#[122]⟩] 9 (0, 0))
  b6 : W.heap[h + 6]? = some (.cells #[.string ⟨#[110, 111, 110, 101]⟩, .slice (some ⟨h + 1, 0, none⟩) 1 1, .string ⟨#[100, 101, 115, 99, 114, 105, 112, 116, 105, 111, 110]⟩, .slice none 0 0, .string ⟨#[117, 105, 100, 110, 117, 109, 98, 101, 114]⟩, .slice (some ⟨h + 2, 0, none⟩) 1 1, .string ⟨#[117, 105, 100, 110, 117, 109, 98, 101, 114]⟩, .slice (some ⟨h + 3, 0, none⟩) 2 2, .string ⟨#[109, 97, 105, 108]⟩, .slice (some ⟨h + 4, 0, none⟩) 2 2, .string ⟨#[67, 78]⟩, .slice (some ⟨h + 5, 0, none⟩) 1 1] 56 (0, 0))
  b7 : W.heap[h + 7]? = some (.cells #[.int .i64 17, .int .i64 19, .int .i64 21, .int .i64 19, .int .i64 20, .int .i64 20] 3 (0, 0))
  size : W.heap.size = h + 8

def XAt (W7 : World) (E : ByteArray) (L : List AT) (wx : World) (b : Nat) (u : Value) : Prop := W7.heap.size ≤ b ∧ b < wx.heap.size ∧ BoxN wx b E u ∧ IsA wx.heap.size wx L u ∧ Below W7.heap.size W7 wx
theorem XAt.drew {W7 wx : World} {E : ByteArray} {L : List AT} {b : Nat} {u : Value} (h : XAt W7 E L wx b u) : XAt W7 E L wx.drew b u := ⟨h.1, h.2.1, h.2.2.1, h.2.2.2.1, h.2.2.2.2.drew⟩
theorem XAt.from {W7 wx : World} {E : ByteArray} {L : List AT} {b : Nat} {u : Value} (h : XAt W7.drew E L wx b u) : XAt W7 E L wx b u := ⟨h.1, h.2.1, h.2.2.1, h.2.2.2.1, (Below.refl W7.heap.size W7).drew.trans h.2.2.2.2⟩
def At9 (w9 w : World) : Prop := Below w9.heap.size w9 w
theorem At9.go {w9 w w' : World} (h : At9 w9 w) (hb : Below w.heap.size w w') : At9 w9 w' := bthen h hb
theorem At9.mono {w9 w : World} (h : At9 w9 w) {n : Nat} (hn : n ≤ w9.heap.size) : Below n w9 w := Below.mono h hn
theorem At9.size {w9 w : World} (h : At9 w9 w) : w9.heap.size ≤ w.heap.size := Below.size h
theorem At9.cell {w9 w : World} (h : At9 w9 w) {p : Addr} (hp : p.block < w9.heap.size) : w.cell? p = w9.cell? p := Below.cell h hp
abbrev C6 (N1 N2 N3 : ByteArray) (v1 v2 v3 : Value) : Obj := .cells #[.string N1, v1, .string N2, v2, .string N3, v3] 56
abbrev C8 (g q : Nat) : Array Value := #[.string ⟨#[99, 110]⟩, .slice (some ⟨g - 3, 0, none⟩) 1 1, .string ⟨#[111, 98, 106, 101, 99, 116, 99, 108, 97, 115, 115]⟩, .slice (some ⟨g - 2, 0, none⟩) 1 1, .string ⟨#[115, 110]⟩, .slice (some ⟨g - 1, 0, none⟩) 1 1, .string ⟨#[111, 117]⟩, .slice (some ⟨q, 0, none⟩) 1 1]
end Go.Proofs.YtpnbcmblnplbgaaGreatDoor


namespace Go.Proofs.YtpnbcmblnplbgaaGreatDoor
set_option linter.unusedVariables false

section
variable {P : Program} {ops : Array Oper} {Q : Exit → Act → World → Prop} {md : Region.Mode}

def toCome (l : Array Bool) : Nat := l.toList.count false

theorem toCome_some {l : Array Bool} {i : Nat} (h : l.getD i true = false) : ∃ hi : i < l.size, l[i] = false := by
  rcases Nat.lt_or_ge i l.size with hi | hi
  · refine ⟨hi, ?_⟩
    simpa [hi] using h
  · simp [Array.getElem?_eq_none hi] at h

theorem toCome_set {l : Array Bool} {i : Nat} (h : l.getD i true = false) : toCome (l.setIfInBounds i true) + 1 = toCome l := by
  obtain ⟨hi, he⟩ := toCome_some h
  unfold toCome
  have hi' : i < l.toList.length := by simpa using hi
  have he' : l.toList[i] = false := by simpa using he
  have hpos : 0 < l.toList.count false := List.count_pos_iff.2 (by rw [← he']; exact List.getElem_mem hi')
  rw [Array.toList_setIfInBounds, List.count_set hi', he']
  rw [if_pos (by rfl), if_neg (by decide)]
  omega

theorem toCome_none {l : Array Bool} (h : toCome l = 0) {i : Nat} : l.getD i true ≠ false := fun hf => by
  have := toCome_set hf
  omega

theorem wpAny_inv (Inv : Array Bool → Act → World → Prop)
    (hstep : ∀ listed a w, Inv listed a w → ∀ i ∈ Region.ready md ops listed, wpOp P ops Q i (Inv (listed.setIfInBounds i true)) a w)
    (hend : ∀ listed a w, Inv listed a w → Region.ready md ops listed = [] → Q .normal a w) :
    ∀ (fuel : Nat) (listed : Array Bool) (a : Act) (w : World), toCome listed ≤ fuel → Inv listed a w → wpAny P md ops Q fuel listed a w
  | 0, listed, a, w, hf, hI => by
    have hr : Region.ready md ops listed = [] := by
      cases hc : Region.ready md ops listed with
      | nil => rfl
      | cons j rs => exact absurd (mem_ready.1 (hc ▸ List.mem_cons_self : j ∈ Region.ready md ops listed)).1 (toCome_none (by omega))
    exact ⟨hr, hend _ _ _ hI hr⟩
  | fuel + 1, listed, a, w, hf, hI => by
    refine ⟨fun hr => hend _ _ _ hI hr, fun i hi => wpOp_mono (fun a' w' h => ?_) (hstep _ _ _ hI i hi)⟩
    have := toCome_set (mem_ready.1 hi).1
    exact wpAny_inv Inv hstep hend fuel _ a' w' (by omega) h

theorem all_come {listed : Array Bool} (hb : ∀ (i : Nat) (o : Oper), ops[i]? = some o → ∀ e ∈ o.after, e.on < i) (hs : listed.size = ops.size) (hr : Region.ready md ops listed = []) :
    ∀ (n i : Nat), i < n → i < ops.size → listed.getD i false = true
  | 0, i, h, _ => by omega
  | n + 1, i, h, hi => by
    have ih := all_come hb hs hr n
    cases hc : listed.getD i false with
    | true => rfl
    | false =>
      exfalso
      have hm : i ∈ Region.ready md ops listed := by
        refine mem_ready.2 ⟨?_, ops[i], Array.getElem?_eq_getElem hi, fun e he _ => ?_⟩
        · have hi' : i < listed.size := by omega
          simpa [hi'] using hc
        · have := hb i _ (Array.getElem?_eq_getElem hi) e he
          exact ih e.on (by omega) (by omega)
      rw [hr] at hm
      cases hm

theorem region_inv {id : Nat} {a : Act} {w : World} (hm : P.follows .mixedOrders = true) (Inv : Array Bool → Act → World → Prop)
    (h0 : Inv (Array.replicate ops.size false) a { w with drawn := w.drawn + 1 })
    (hb : ∀ (i : Nat) (o : Oper), ops[i]? = some o → ∀ e ∈ o.after, e.on < i)
    (hsize : ∀ listed a w, Inv listed a w → listed.size = ops.size)
    (hstep : ∀ listed a w, Inv listed a w → ∀ (i : Nat) (o : Oper), ops[i]? = some o → listed.getD i true = false → (∀ e ∈ o.after, Region.binds .any e = true → listed.getD e.on false = true) →
      wpOp P ops Q i (Inv (listed.setIfInBounds i true)) a w)
    (hend : ∀ listed a w, Inv listed a w → (∀ i, i < ops.size → listed.getD i false = true) → Q .normal a w) : (Code.region id ops true).wp P Q a w := by
  refine wp_region_any hm (wpAny_inv Inv (fun listed a w hI i hi => ?_) (fun listed a w hI hr => ?_) _ _ _ _ ?_ h0)
  · obtain ⟨h1, o, h2, h3⟩ := mem_ready.1 hi
    exact hstep listed a w hI i o h2 h1 h3
  · exact hend listed a w hI fun i hi => all_come hb (hsize _ _ _ hI) hr (i + 1) i (by omega) hi
  · unfold toCome
    refine Nat.le_trans List.count_le_length ?_
    simp
end
end Go.Proofs.YtpnbcmblnplbgaaGreatDoor


namespace Go.Proofs.YtpnbcmblnplbgaaGreatDoor
set_option linter.unusedVariables false

section
variable {P : Program} {ops : Array Oper} {Q : Exit → Act → World → Prop}

def Came (listed : Array Bool) (o : Oper) : Prop := ∀ e ∈ o.after, Region.binds .any e = true → listed.getD e.on false = true

structure Kept (ops : Array Oper) (F : Nat → Value → World → Prop) (G : World → World → Prop) (a0 : Act) (w0 : World) (listed : Array Bool) (a : Act) (w : World) : Prop where
  size : listed.size = ops.size
  shut : ∀ (i : Nat) (o : Oper), ops[i]? = some o → listed.getD i false = true → Came listed o
  defers : a.defers = a0.defers
  slots : a.tmps.size = a0.tmps.size
  grown : G w0 w
  other : ∀ t, (∀ (i : Nat) (o : Oper), ops[i]? = some o → o.dst ≠ some t) → a.tmps[t]? = a0.tmps[t]?
  fact : ∀ (i : Nat) (o : Oper) (d : Tmp), ops[i]? = some o → o.dst = some d → listed.getD i false = true → ∃ v, a.tmps[d]? = some v ∧ F i v w

theorem came_more {listed : Array Bool} {i : Nat} {o : Oper} (h : Came listed o) : Came (listed.setIfInBounds i true) o := fun e he hb => getD_set_true (h e he hb)

theorem getD_set_self {listed : Array Bool} {i : Nat} (h : i < listed.size) : (listed.setIfInBounds i true).getD i false = true := by simp [h]

theorem Kept.more {F : Nat → Value → World → Prop} {G : World → World → Prop} {a0 a : Act} {w0 w w' : World} {listed : Array Bool} (hk : Kept ops F G a0 w0 listed a w) {i : Nat} {o : Oper} {d : Tmp} {v : Value}
    (hF : ∀ i v w w', F i v w → G w w' → F i v w') (hG : ∀ w w' w'', G w w' → G w' w'' → G w w'')
    (hd : ∀ (i j : Nat) (o o' : Oper) (d : Tmp), ops[i]? = some o → ops[j]? = some o' → o.dst = some d → o'.dst = some d → i = j)
    (hin : ∀ (i : Nat) (o : Oper) (d : Tmp), ops[i]? = some o → o.dst = some d → d < a0.tmps.size)
    (ho : ops[i]? = some o) (hod : o.dst = some d) (hc : Came listed o) (hg : G w w') (hv : F i v w') : Kept ops F G a0 w0 (listed.setIfInBounds i true) (a.put (some d) v) w' := by
  have hi : i < listed.size := by rw [hk.size]; exact (Array.getElem?_eq_some_iff.1 ho).1
  refine ⟨by simp [hk.size], fun j o' ho' hl => ?_, hk.defers, by simp [Act.put, hk.slots], hG _ _ _ hk.grown hg, fun t ht => ?_, fun j o' d' ho' hd' hl => ?_⟩
  · by_cases hij : i = j
    · subst hij
      rw [ho] at ho'; cases ho'
      exact came_more hc
    · rw [getD_set_ne false hij] at hl
      exact came_more (hk.shut j o' ho' hl)
  · have : d ≠ t := fun h => ht i o ho (by rw [hod, h])
    simp only [Act.put]
    rw [Array.getElem?_setIfInBounds_ne this]
    exact hk.other t ht
  · by_cases hij : i = j
    · subst hij
      rw [ho] at ho'; cases ho'
      rw [hod] at hd'; cases hd'
      refine ⟨v, ?_, hv⟩
      have : d < a.tmps.size := by rw [hk.slots]; exact hin i o d ho hod
      simp [Act.put, this]
    · rw [getD_set_ne false hij] at hl
      obtain ⟨u, hu, hf⟩ := hk.fact j o' d' ho' hd' hl
      have : d ≠ d' := fun h => hij (hd i j o o' d ho ho' hod (by rw [hd', h]))
      refine ⟨u, ?_, hF _ _ _ _ hf hg⟩
      simp only [Act.put]
      rw [Array.getElem?_setIfInBounds_ne this]
      exact hu

theorem rest_came {listed : Array Bool} (hs : ∀ (i : Nat) (o : Oper), ops[i]? = some o → listed.getD i false = true → Came listed o)
    (hw : ∀ i, i + 1 < ops.size → ∃ (j : Nat) (o : Oper), i < j ∧ ops[j]? = some o ∧ ∃ e ∈ o.after, Region.binds .any e = true ∧ e.on = i)
    {l : Oper} (hl : ops[ops.size - 1]? = some l) (hc : Came listed l) : ∀ (n i : Nat), ops.size ≤ i + 1 + n → i + 1 < ops.size → listed.getD i false = true
  | 0, i, h, hi => by omega
  | n + 1, i, h, hi => by
    obtain ⟨j, o, hij, ho, e, he, hb, rfl⟩ := hw i hi
    have hj : j < ops.size := (Array.getElem?_eq_some_iff.1 ho).1
    by_cases hlast : j = ops.size - 1
    · subst hlast
      rw [ho] at hl; cases hl
      exact hc e he hb
    · exact hs j o ho (rest_came hs hw hl hc n j (by omega) (by omega)) e he hb

theorem region_facts {id : Nat} {a0 : Act} {w0 : World} (hm : P.follows .mixedOrders = true) (F : Nat → Value → World → Prop) (G : World → World → Prop)
    (hF : ∀ i v w w', F i v w → G w w' → F i v w') (hG : ∀ w w' w'', G w w' → G w' w'' → G w w'') (h0 : G w0 { w0 with drawn := w0.drawn + 1 })
    (hb : ∀ (i : Nat) (o : Oper), ops[i]? = some o → ∀ e ∈ o.after, e.on < i)
    (hd : ∀ (i j : Nat) (o o' : Oper) (d : Tmp), ops[i]? = some o → ops[j]? = some o' → o.dst = some d → o'.dst = some d → i = j)
    (hin : ∀ (i : Nat) (o : Oper) (d : Tmp), ops[i]? = some o → o.dst = some d → d < a0.tmps.size)
    (hw : ∀ i, i + 1 < ops.size → ∃ (j : Nat) (o : Oper), i < j ∧ ops[j]? = some o ∧ ∃ e ∈ o.after, Region.binds .any e = true ∧ e.on = i)
    {l : Oper} (hl : ops[ops.size - 1]? = some l)
    (hstep : ∀ listed a w, Kept ops F G a0 w0 listed a w → ∀ (i : Nat) (o : Oper), ops[i]? = some o → i + 1 < ops.size → Came listed o →
      wpOp P ops Q i (fun a' w' => ∃ d v, o.dst = some d ∧ a' = a.put (some d) v ∧ G w w' ∧ F i v w') a w)
    (hlast : ∀ listed a w, Kept ops F G a0 w0 listed a w → (∀ i, i + 1 < ops.size → listed.getD i false = true) → wpOp P ops Q (ops.size - 1) (fun a' w' => Q .normal a' w') a w) :
    (Code.region id ops true).wp P Q a0 w0 := by
  have hne : 0 < ops.size := by
    have := (Array.getElem?_eq_some_iff.1 hl).1
    omega
  refine region_inv hm (fun listed a w => (Kept ops F G a0 w0 listed a w ∧ listed.getD (ops.size - 1) false = false) ∨ (listed.size = ops.size ∧ (∀ i, i < ops.size → listed.getD i false = true) ∧ Q .normal a w)) ?_ hb ?_ ?_ ?_
  · have hno : ∀ i, (Array.replicate ops.size false).getD i false = false := fun i => by
      rcases Nat.lt_or_ge i ops.size with h | h <;> simp [h]
    exact .inl ⟨⟨by simp, fun i o _ h => (by rw [hno] at h; cases h), rfl, rfl, h0, fun _ _ => rfl, fun i o d _ _ h => (by rw [hno] at h; cases h)⟩, hno _⟩
  · rintro listed a w (⟨h, _⟩ | ⟨h, _⟩)
    · exact h.size
    · exact h
  · rintro listed a w (⟨hk, hn⟩ | ⟨hs, ha, _⟩) i o ho hi hc
    · have hio : i < ops.size := (Array.getElem?_eq_some_iff.1 ho).1
      by_cases hlst : i = ops.size - 1
      · subst hlst
        rw [ho] at hl; cases hl
        have hall := fun j => rest_came hk.shut hw ho hc ops.size j (by omega)
        refine wpOp_mono (fun a' w' hq => .inr ⟨by simp [hk.size], fun j hj => ?_, hq⟩) (hlast listed a w hk hall)
        by_cases hjl : j = ops.size - 1
        · subst hjl; exact getD_set_self (by rw [hk.size]; exact hio)
        · exact getD_set_true (hall j (by omega))
      · refine wpOp_mono (fun a' w' hq => ?_) (hstep listed a w hk i o ho (by omega) hc)
        obtain ⟨d, v, hod, rfl, hg, hv⟩ := hq
        exact .inl ⟨hk.more hF hG hd hin ho hod hc hg hv, by rw [getD_set_ne false hlst]; exact hn⟩
    · exfalso
      have hio : i < ops.size := (Array.getElem?_eq_some_iff.1 ho).1
      have := ha i hio
      have hi' : i < listed.size := by omega
      simp [hi'] at this hi
      rw [this] at hi; cases hi
  · rintro listed a w (⟨hk, hn⟩ | ⟨_, _, hq⟩) ha
    · rw [ha _ (by omega)] at hn; cases hn
    · exact hq

def regOk (ops : Array Oper) (n : Nat) : Bool := (List.range ops.size).all fun i => match ops[i]? with
  | none => true
  | some o => (o.after.all fun e => decide (e.on < i)) && (match o.dst with
      | none => true
      | some d => decide (d < n) && (List.range ops.size).all fun j => match ops[j]? with
        | none => true
        | some o' => decide (o'.dst ≠ some d) || decide (i = j)) &&
    (decide (ops.size ≤ i + 1) || (List.range ops.size).any fun j => match ops[j]? with
        | none => false
        | some o' => decide (i < j) && o'.after.any fun e => Region.binds .any e && decide (e.on = i))

theorem regOk_at {n : Nat} (h : regOk ops n = true) {i : Nat} {o : Oper} (ho : ops[i]? = some o) :
    (∀ e ∈ o.after, e.on < i) ∧ (∀ d, o.dst = some d → d < n ∧ ∀ (j : Nat) (o' : Oper), ops[j]? = some o' → o'.dst = some d → i = j) ∧
      (i + 1 < ops.size → ∃ (j : Nat) (o' : Oper), i < j ∧ ops[j]? = some o' ∧ ∃ e ∈ o'.after, Region.binds .any e = true ∧ e.on = i) := by
  have hi : i < ops.size := (Array.getElem?_eq_some_iff.1 ho).1
  have h1 := List.all_eq_true.1 h i (List.mem_range.2 hi)
  rw [ho] at h1
  simp only [Bool.and_eq_true, Bool.or_eq_true, decide_eq_true_eq] at h1
  obtain ⟨⟨ha, hb⟩, hc⟩ := h1
  refine ⟨fun e he => ?_, fun d hd => ?_, fun hlt => ?_⟩
  · have := Array.all_eq_true_iff_forall_mem.1 ha e he
    simpa using this
  · rw [hd] at hb
    simp only [Bool.and_eq_true, decide_eq_true_eq] at hb
    refine ⟨hb.1, fun j o' ho' hd' => ?_⟩
    have h2 := List.all_eq_true.1 hb.2 j (List.mem_range.2 (Array.getElem?_eq_some_iff.1 ho').1)
    rw [ho'] at h2
    simp only [Bool.or_eq_true, decide_eq_true_eq] at h2
    rcases h2 with h2 | h2
    · exact absurd hd' h2
    · exact h2
  · rcases hc with hc | hc
    · omega
    · obtain ⟨j, _, hj⟩ := List.any_eq_true.1 hc
      cases ho' : ops[j]? with
      | none => rw [ho'] at hj; cases hj
      | some o' =>
        rw [ho'] at hj
        simp only [Bool.and_eq_true, decide_eq_true_eq] at hj
        obtain ⟨e, he, hbe⟩ := Array.any_eq_true'.1 hj.2
        simp only [Bool.and_eq_true, decide_eq_true_eq] at hbe
        exact ⟨j, o', hj.1, ho', e, he, hbe.1, hbe.2⟩

theorem region_factsB {id : Nat} {a0 : Act} {w0 : World} (hm : P.follows .mixedOrders = true) (F : Nat → Value → World → Prop) (G : World → World → Prop)
    (hF : ∀ i v w w', F i v w → G w w' → F i v w') (hG : ∀ w w' w'', G w w' → G w' w'' → G w w'') (h0 : G w0 { w0 with drawn := w0.drawn + 1 })
    (hok : regOk ops a0.tmps.size = true) {l : Oper} (hl : ops[ops.size - 1]? = some l)
    (hstep : ∀ listed a w, Kept ops F G a0 w0 listed a w → ∀ (i : Nat) (o : Oper), ops[i]? = some o → i + 1 < ops.size → Came listed o →
      wpOp P ops Q i (fun a' w' => ∃ d v, o.dst = some d ∧ a' = a.put (some d) v ∧ G w w' ∧ F i v w') a w)
    (hlast : ∀ listed a w, Kept ops F G a0 w0 listed a w → (∀ i, i + 1 < ops.size → listed.getD i false = true) → wpOp P ops Q (ops.size - 1) (fun a' w' => Q .normal a' w') a w) :
    (Code.region id ops true).wp P Q a0 w0 :=
  region_facts hm F G hF hG h0 (fun i o ho => (regOk_at hok ho).1) (fun i j o o' d ho ho' hd hd' => ((regOk_at hok ho).2.1 d hd).2 j o' ho' hd') (fun i o d ho hd => ((regOk_at hok ho).2.1 d hd).1)
    (fun i hi => (regOk_at hok (Array.getElem?_eq_getElem (show i < ops.size by omega))).2.2 hi) hl hstep hlast

theorem wpOp_val {i : Nat} {o : Oper} {a : Act} {w w' : World} {v : Value} {K : Act → World → Prop} (ho : ops[i]? = some o) (hg : o.guard = none) (hr : (execOp a.eval o).run P w = .ok (.value v) w') (hk : K (a.put o.dst v) w') : wpOp P ops Q i K a w := by
  unfold wpOp
  rw [ho]
  show if Region.wanted o (yielded ops a.tmps) = true then _ else _
  rw [if_pos (by unfold Region.wanted; rw [hg])]
  refine .inl ?_
  unfold Oper.wp
  rw [hr]
  exact hk

def noDst (ops : Array Oper) (t : Nat) : Bool := (List.range ops.size).all fun i => match ops[i]? with
  | none => true
  | some o => decide (o.dst ≠ some t)

theorem Kept.read {F : Nat → Value → World → Prop} {G : World → World → Prop} {a0 a : Act} {w0 w : World} {listed : Array Bool} (hk : Kept ops F G a0 w0 listed a w) {t : Nat} {v : Value} (hn : noDst ops t = true) (h : a0.tmps[t]? = some v) : a.tmps[t]?.getD undef = v := by
  have h1 := hk.other t fun i o ho => by
    have h2 := List.all_eq_true.1 hn i (List.mem_range.2 (Array.getElem?_eq_some_iff.1 ho).1)
    rw [ho] at h2
    simpa using h2
  rw [h1, h]
  rfl

theorem Kept.got {F : Nat → Value → World → Prop} {G : World → World → Prop} {a0 a : Act} {w0 w : World} {listed : Array Bool} (hk : Kept ops F G a0 w0 listed a w) {j : Nat} {o : Oper} {d : Tmp} (ho : ops[j]? = some o) (hd : o.dst = some d) (hl : listed.getD j false = true) :
    ∃ v, a.tmps[d]?.getD undef = v ∧ F j v w := by
  obtain ⟨v, h, hf⟩ := hk.fact j o d ho hd hl
  refine ⟨v, ?_, hf⟩
  rw [h]
  rfl
end
end Go.Proofs.YtpnbcmblnplbgaaGreatDoor


namespace Go.Proofs.YtpnbcmblnplbgaaGreatDoor
open Go.RowKit
set_option linter.unusedVariables false

section
variable {P : Program} {ops : Array Oper} {Q : Exit → Act → World → Prop}

theorem Kept.more2 {F F' : Nat → Value → World → Prop} {G : World → World → Prop} {a0 a : Act} {w0 w w' : World} {listed : Array Bool} (hk : Kept ops F G a0 w0 listed a w) {i : Nat} {o : Oper} {d : Tmp} {v : Value}
    (hF : ∀ j u, j ≠ i → F j u w → F' j u w') (hgr : G w0 w')
    (hd : ∀ (i j : Nat) (o o' : Oper) (d : Tmp), ops[i]? = some o → ops[j]? = some o' → o.dst = some d → o'.dst = some d → i = j)
    (hin : ∀ (i : Nat) (o : Oper) (d : Tmp), ops[i]? = some o → o.dst = some d → d < a0.tmps.size)
    (ho : ops[i]? = some o) (hod : o.dst = some d) (hc : Came listed o) (hv : F' i v w') : Kept ops F' G a0 w0 (listed.setIfInBounds i true) (a.put (some d) v) w' := by
  have hi : i < listed.size := by rw [hk.size]; exact (Array.getElem?_eq_some_iff.1 ho).1
  refine ⟨by simp [hk.size], fun j o' ho' hl => ?_, hk.defers, by simp [Act.put, hk.slots], hgr, fun t ht => ?_, fun j o' d' ho' hd' hl => ?_⟩
  · by_cases hij : i = j
    · subst hij
      rw [ho] at ho'; cases ho'
      exact came_more hc
    · rw [getD_set_ne false hij] at hl
      exact came_more (hk.shut j o' ho' hl)
  · have : d ≠ t := fun h => ht i o ho (by rw [hod, h])
    simp only [Act.put]
    rw [Array.getElem?_setIfInBounds_ne this]
    exact hk.other t ht
  · by_cases hij : i = j
    · subst hij
      rw [ho] at ho'; cases ho'
      rw [hod] at hd'; cases hd'
      refine ⟨v, ?_, hv⟩
      have : d < a.tmps.size := by rw [hk.slots]; exact hin i o d ho hod
      simp [Act.put, this]
    · rw [getD_set_ne false hij] at hl
      obtain ⟨u, hu, hf⟩ := hk.fact j o' d' ho' hd' hl
      have : d ≠ d' := fun h => hij (hd i j o o' d ho ho' hod (by rw [hd', h]))
      refine ⟨u, ?_, hF _ _ (fun h => hij h.symm) hf⟩
      simp only [Act.put]
      rw [Array.getElem?_setIfInBounds_ne this]
      exact hu

def depOn (ops : Array Oper) (l2 l1 : Nat) : Bool := match ops[l2]? with
  | none => false
  | some o => o.after.any fun e => Region.binds .any e && decide (e.on = l1)

def laidT (a : Array Value) : List Oper → Array Value → Array Value
  | [], r => r
  | o :: l, r => laidT a l (match o.dst with | none => r | some d => r.setIfInBounds d (a[d]?.getD undef))
theorem laidT_at (a : Array Value) (t : Nat) : ∀ (l : List Oper) (r : Array Value), r[t]? = a[t]? ∨ (∃ o ∈ l, o.dst = some t) → a.size = r.size → (laidT a l r)[t]? = a[t]?
  | [], r, h, _ => by
    rcases h with h | ⟨o, ho, _⟩
    · exact h
    · simp at ho
  | o :: l, r, h, hs => by
    rw [laidT]
    cases e : o.dst with
    | none =>
      refine laidT_at a t l r ?_ hs
      rcases h with h | ⟨o', ho', he⟩
      · exact .inl h
      · rcases List.mem_cons.1 ho' with rfl | ho'
        · rw [e] at he; cases he
        · exact .inr ⟨o', ho', he⟩
    | some d =>
      simp only
      refine laidT_at a t l _ ?_ (by simpa using hs)
      by_cases hdt : d = t
      · subst hdt
        left
        rcases Nat.lt_or_ge d a.size with hlt | hge
        · rw [Array.getElem?_setIfInBounds_self_of_lt (by omega), Array.getElem?_eq_getElem hlt]
          rfl
        · rw [Array.getElem?_eq_none hge, Array.getElem?_eq_none (by simp; omega)]
      · rcases h with h | ⟨o', ho', he⟩
        · left
          rw [Array.getElem?_setIfInBounds_ne hdt]
          exact h
        · rcases List.mem_cons.1 ho' with rfl | ho'
          · rw [e] at he; cases he; exact absurd rfl hdt
          · exact .inr ⟨o', ho', he⟩
theorem Kept.frame {F : Nat → Value → World → Prop} {G : World → World → Prop} {a0 a : Act} {w0 w : World} {listed : Array Bool} (hk : Kept ops F G a0 w0 listed a w) : a = { a0 with tmps := laidT a.tmps ops.toList a0.tmps } := by
  have h1 : a.tmps = laidT a.tmps ops.toList a0.tmps := by
    refine Array.ext_getElem? fun t => ?_
    symm
    refine laidT_at a.tmps t _ _ ?_ hk.slots
    by_cases h : ∃ o ∈ ops.toList, o.dst = some t
    · exact .inr h
    · left
      refine (hk.other t fun i o ho hd => h ⟨o, ?_, hd⟩).symm
      exact List.mem_of_getElem? (i := i) (by simpa using ho)
  cases a
  cases a0
  have h2 := hk.defers
  simp only at h1 h2
  simp only [← h1, h2]
def putT (t : Array Value) : List Oper → Act → Act
  | [], r => r
  | o :: l, r => putT t l (r.put o.dst (match o.dst with | none => undef | some d => t[d]?.getD undef))
theorem putT_eq (t : Array Value) : ∀ (l : List Oper) (r : Act), putT t l r = { r with tmps := laidT t l r.tmps }
  | [], r => rfl
  | o :: l, r => by
    rw [putT, putT_eq t l, laidT]
    cases o.dst <;> rfl
theorem Kept.puts {F : Nat → Value → World → Prop} {G : World → World → Prop} {a0 a : Act} {w0 w : World} {listed : Array Bool} (hk : Kept ops F G a0 w0 listed a w) : a = putT a.tmps ops.toList a0 := by
  rw [putT_eq]
  exact hk.frame
end
end Go.Proofs.YtpnbcmblnplbgaaGreatDoor

