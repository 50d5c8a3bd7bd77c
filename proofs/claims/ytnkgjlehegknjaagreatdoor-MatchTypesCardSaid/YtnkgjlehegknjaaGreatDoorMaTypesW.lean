/- Of each type there is, in whatever letters, all is the document's: the walk. -/
import Derived.Test.YtnkgjlehegknjaaGreatDoorMaAllW
import Derived.Test.YtnkgjlehegknjaaGreatDoorMaNormsW
import Derived.Deep.Grids
import Derived.OpenShut
import Derived.Carry
namespace Go.Proofs.YtnkgjlehegknjaaGreatDoor
open Go.RowKit
set_option linter.unusedVariables false

/-- A slice of bools that lies below block n0. -/
def IsBl (n0 : Nat) (w : World) (l : List Bool) (a : Option Addr) (cap : Nat) : Prop :=
  l.length ≤ maxLen ∧ (l = [] ∨ ∃ b off, a = some ⟨b, off, none⟩ ∧ b < n0 ∧ ∀ j, (h : j < l.length) → w.cell? ⟨b, off + j, none⟩ = some (.bool l[j]))
set_option maxRecDepth 100000 in
theorem open_bools {H : Type} {enc : TypeId × Value → H} {W : World} {v : Value} {d : DataW H} {ps : List MemPlace} (hval : Value.okWide Tryz.prog W .any 0 34 v) (hd : DataW.Trod enc Tryz.prog W 0 (fun _ => true) true 34 v d ps) :
    ∃ (a : Option Addr) (cap : Nat) (l : List Bool), v = .slice a l.length cap ∧ IsBl W.heap.size W l a cap := by
  obtain ⟨a0, len, cap, rfl⟩ := Go.WideShapes.okWide_slice Tryz.underlying34 hval
  obtain ⟨fuel, hf⟩ := hd
  have hc : Tryz.prog.cellsOf 4 = 1 := by kernel_rfl
  rcases Go.Deep.open_bools Tryz.underlying34 Tryz.underlying4 hc hf with ⟨hcs, _⟩ | ⟨a, len', cap', B, hcs, _, hle, hmax, _, hcell⟩
  · simp [Value.cells] at hcs
    obtain ⟨rfl, rfl, rfl⟩ := hcs
    exact ⟨none, 0, [], rfl, Nat.zero_le _, .inl rfl⟩
  · simp [Value.cells] at hcs
    obtain ⟨rfl, rfl, rfl⟩ := hcs
    have hlen : ((List.range len).map B).length = len := by simp
    refine ⟨some a, cap, (List.range len).map B, by rw [hlen], by omega, ?_⟩
    by_cases h0 : len = 0
    · left; subst h0; simp
    · right
      obtain ⟨b, off, spot⟩ := a
      have h1 := hcell 0 (by omega)
      have hspot : spot = none := by simpa [Addr.add] using World.cell?_spot h1
      subst hspot
      refine ⟨b, off, rfl, World.block_lt_of_cell? W _ h1, fun j hj => ?_⟩
      have h2 := hcell j (by omega)
      rw [Go.WideShapes.add_plain] at h2
      rw [h2]
      simp

/-- A row of bytes of the call's own, at the block that was the next one in w. -/
def RowAt (w : World) (D : List UInt8) (wr : World) : Prop :=
  Below w.heap.size w wr ∧ ∃ A : Array Value, wr.heap[w.heap.size]? = some (.cells A 5 (A.size, A.size + 1)) ∧ D.length ≤ A.size ∧ ∀ k (h : k < D.length), A[k]? = some (.int .u8 (D[k].toNat : Int))
theorem rowAt_start (w : World) (s : ByteArray) : RowAt w s.data.toList (Lib.bytesWorld w 5 s) := by
  obtain ⟨hb, A, hA, hs, hc⟩ := mapAt_start (fun c => c) w s
  refine ⟨hb, A, hA, by rw [bytes_len]; exact hs, fun k hk => ?_⟩
  have := hc k (by rw [bytes_len] at hk; exact hk)
  rw [if_neg (by omega)] at this
  exact this
theorem RowAt.cell {w wr : World} {D : List UInt8} (h : RowAt w D wr) {j : Nat} (hj : j < D.length) : wr.cell? ⟨w.heap.size, j, none⟩ = some (.int .u8 (D[j].toNat : Int)) ∧ wr.frozen? ⟨w.heap.size, j, none⟩ = false := by
  obtain ⟨_, A, hA, hs, hc⟩ := h
  have := hc j hj
  refine ⟨by simp only [World.cell?, hA]; simpa using this, by simp only [World.frozen?, hA]; simp; omega⟩
theorem RowAt.store {w wr : World} {D : List UInt8} (h : RowAt w D wr) {j : Nat} (hj : j < D.length) (c : UInt8) (n : Int) (hn : n = (c.toNat : Int)) : RowAt w (D.set j c) (wr.setCell ⟨w.heap.size, j, none⟩ (.int .u8 n)) := by
  subst hn
  obtain ⟨hb, A, hA, hs, hc⟩ := h
  refine ⟨hb.setCell (p := ⟨w.heap.size, j, none⟩) (Nat.le_refl _) _, A.setIfInBounds j (.int .u8 c.toNat), ?_, by simpa using hs, fun k hk => ?_⟩
  · obtain ⟨hlt, hv⟩ := Array.getElem?_eq_some_iff.1 hA
    show (wr.heap.modify w.heap.size _)[w.heap.size]? = _
    rw [Array.getElem?_eq_getElem (by rw [Array.size_modify]; exact hlt), Array.getElem_modify_self, hv]
    simp
  · rw [List.length_set] at hk
    rw [Array.getElem?_setIfInBounds]
    by_cases h2 : j = k
    · subst h2; rw [if_pos rfl, if_pos (by omega)]; simp
    · rw [if_neg h2, hc k hk]
      simp [List.getElem_set, h2]
theorem RowAt.conv {w wr : World} {D : List UInt8} {cap : Nat} (h : RowAt w D wr) :
    (convert 37 9 (.slice (some ⟨w.heap.size, 0, none⟩) D.length cap)).run Tryz.prog wr = .ok (.string (ofL D)) wr := by
  obtain ⟨_, A, hA, hs, hc⟩ := h
  refine run_convert_bytes_back wr 37 9 5 _ cap D Tryz.underlying37 Tryz.underlying5 Tryz.underlying9 fun j hj => ?_
  have e : ((⟨w.heap.size, 0, none⟩ : Addr).add j) = ⟨w.heap.size, j, none⟩ := by simp [Addr.add]; omega
  rw [e]
  simp only [World.cell?, hA]
  have := hc j hj
  simpa using this

theorem tyB_letters : ∀ k, k < 12 → (tyB k).size ≤ 15 ∧ ∀ c ∈ (tyB k).data.toList, 97 ≤ c.toNat ∧ c.toNat ≤ 122 := by decide +kernel

set_option maxRecDepth 100000 in
set_option maxHeartbeats 8000000 in
theorem types_walk (n : Nat) (hn : n ≤ 255) (up : List Bool) (a0 : Option Addr) (c0 : Nat) (a b : ByteArray) (w : World) (hup : IsBl w.heap.size w up a0 c0) (hw : LaidW w) :
    Calls Tryz.prog 4 #[.int .u8 n, .slice a0 up.length c0, .string a, .string b] w fun e w' => e = .returned (.bool true) ∧ Below w.heap.size w w' := by
  have HW := Lib.hid hw
  obtain ⟨hm, hcells⟩ := hup
  unfold maxLen at hm
  have HC := Lib.hid hcells
  clear hw hcells
  by_cases hla : 150 < a.size
  · have t0 : decide ((150 : Int) < (a.size : Int)) = true := by simp; omega
    go_enter Tryz.func4, Tryz.ntmps4
    go_wp2_with (go_at_call 5; refine (awake3_any _ HW.out).mono ?_; rintro e w2 ⟨rfl, hb2⟩; have HB := Lib.hid hb2; clear hb2)
    go_ret
    exact ⟨rfl, HB.out⟩
  have t0 : decide ((150 : Int) < (a.size : Int)) = false := by simp; omega
  by_cases hlb : 150 < b.size
  · have t1 : decide ((150 : Int) < (b.size : Int)) = true := by simp; omega
    go_enter Tryz.func4, Tryz.ntmps4
    go_wp2_with (go_at_call 5; refine (awake3_any _ HW.out).mono ?_; rintro e w2 ⟨rfl, hb2⟩; have HB := Lib.hid hb2; clear hb2)
    go_ret
    exact ⟨rfl, HB.out⟩
  have t1 : decide ((150 : Int) < (b.size : Int)) = false := by simp; omega
  obtain ⟨T, hT⟩ : ∃ T, T = tyB (n % 12) := ⟨_, rfl⟩
  have hlet := tyB_letters (n % 12) (Nat.mod_lt _ (by decide))
  rw [← hT] at hlet
  obtain ⟨hTs, hlet⟩ := hlet
  have HLet := Lib.hid hlet
  have HT := Lib.hid hT
  have hcv := fun w => Lib.run_convert_string_bytes (P := Tryz.prog) w 9 37 5 T Tryz.underlying9 Tryz.underlying37 Tryz.underlying5
  clear hT hlet
  go_enter Tryz.func4, Tryz.ntmps4
  go_wp2_with (go_at_call 16; refine (types_any _).mono ?_; rintro e w1 ⟨rfl, hcell, hlt1, hb1⟩; have cT := hcell (n % 12) (by omega); rw [← HT.out] at cT; have HB := Lib.hid hb1; clear hb1 hcell)
  clear hcv cT
  have hsz1 := HB.out.size
  generalize grownCap w1 T.size 0 5 = cap
  go_loopw [11] (fun i wr => ∃ (j : Nat) (D : List UInt8), j ≤ T.size ∧ i = .int .i64 j ∧ Hid (D.length = T.size) ∧ Hid (∀ k, (h : k < T.size) → j ≤ k → D[k]? = some T[k]) ∧ RowAt w1 D wr) (fun i _ => T.size - (intOf i).toNat)
  case atStart => exact ⟨0, T.data.toList, by omega, rfl, Lib.hid (bytes_len T), Lib.hid (fun k hk _ => by rw [List.getElem?_eq_getElem (by rw [bytes_len]; exact hk)]; rfl), rowAt_start w1 T⟩
  case round =>
    obtain ⟨j, D, hj, rfl, HDl, HDk, hrow⟩ := hrel
    by_cases hgo : j < T.size ∧ j < up.length
    · obtain ⟨hlt, hlu⟩ := hgo
      have e1 : decide ((j : Int) < (T.size : Int)) = true := by simp; omega
      have e2 : decide ((j : Int) < (up.length : Int)) = true := by simp; omega
      have e3 : decide (j < up.length) = true := by simpa using hlu
      have hjD : j < D.length := by rw [HDl.out]; exact hlt
      obtain ⟨cj, fj⟩ := hrow.cell hjD
      have hDj : D[j] = T[j] := by
        have := HDk.out j hlt (Nat.le_refl _)
        rw [List.getElem?_eq_getElem hjD] at this
        exact Option.some.inj this
      rw [hDj] at cj
      have hl := HLet.out (T[j]) (by rw [← Array.mem_def]; exact Array.getElem_mem _)
      rcases HC.out with h0 | ⟨b0, off, rfl, hb0, hcu⟩
      · subst h0; simp at hlu
      have cu := (hrow.1.cell (p := ⟨b0, off + j, none⟩) (show b0 < w1.heap.size by omega)).trans ((HB.out.cell (p := ⟨b0, off + j, none⟩) hb0).trans (hcu j hlu))
      obtain ⟨ub, hub⟩ : ∃ ub, up[j] = ub := ⟨_, rfl⟩
      rw [hub] at cu
      obtain ⟨c, hc⟩ : ∃ c : UInt8, T[j] = c := ⟨_, rfl⟩
      rw [hc] at cj hl
      have hcl := c.toNat_lt
      have HSt := Lib.hid (hrow.store hjD (UInt8.ofNat (c.toNat - 32)) ((c.toNat : Int) - 32) (by simp; omega))
      have HRow := Lib.hid hrow
      have HK : Hid (∀ k, (h : k < T.size) → j + 1 ≤ k → (D.set j (UInt8.ofNat (c.toNat - 32)))[k]? = some T[k]) := Lib.hid (fun k hk hle => by rw [List.getElem?_set_ne (by omega)]; exact HDk.out k hk (by omega))
      have HK0 : Hid (∀ k, (h : k < T.size) → j + 1 ≤ k → D[k]? = some T[k]) := Lib.hid (fun k hk hle => HDk.out k hk (by omega))
      have HL : Hid ((D.set j (UInt8.ofNat (c.toNat - 32))).length = T.size) := Lib.hid (by rw [List.length_set]; exact HDl.out)
      obtain ⟨hl1, hl2⟩ := hl
      clear hrow hcu hub hc hDj hjD
      cases ub with
      | true =>
        go_wp2
        go_roundw
        case rel => exact ⟨j + 1, _, by omega, by go_num, HL, HK, HSt.out⟩
        case measure => simp [intOf]; omega
      | false =>
        go_wp2
        go_roundw
        case rel => exact ⟨j + 1, D, by omega, by go_num, HDl, HK0, HRow.out⟩
        case measure => simp [intOf]; omega
    · have hcv := hrow.conv (cap := cap)
      rw [HDl.out] at hcv
      have HRow := Lib.hid hrow
      have HBel := Lib.hid (bthen HB.out hrow.1)
      clear hrow
      generalize ofL D = U at hcv
      have hall := fun w hw => all3_walk U a b w hw
      have HAll := Lib.hid hall
      clear hall
      by_cases hlt : j < T.size
      · have hlu : ¬ j < up.length := fun h => hgo ⟨hlt, h⟩
        have e1 : decide ((j : Int) < (T.size : Int)) = true := by simp; omega
        have e2 : decide ((j : Int) < (up.length : Int)) = false := by simp; omega
        have e3 : decide (j < up.length) = false := by simpa using hlu
        go_wp2_with (first | (go_at_call 3; refine (HAll.out _ (HW.out.below HBel.out)).mono ?_; rintro e w2 ⟨rfl, hb2⟩; have HB2 := Lib.hid (bthen HBel.out hb2); clear hb2) | (go_at_call 5; refine (awake3_any _ (HW.out.below HB2.out)).mono ?_; rintro e w2 ⟨rfl, hb2⟩; have HB2 := Lib.hid (bthen HB2.out hb2); clear hb2))
        go_ret
        exact ⟨rfl, HB2.out⟩
      · have e1 : decide ((j : Int) < (T.size : Int)) = false := by simp; omega
        go_wp2_with (first | (go_at_call 3; refine (HAll.out _ (HW.out.below HBel.out)).mono ?_; rintro e w2 ⟨rfl, hb2⟩; have HB2 := Lib.hid (bthen HBel.out hb2); clear hb2) | (go_at_call 5; refine (awake3_any _ (HW.out.below HB2.out)).mono ?_; rintro e w2 ⟨rfl, hb2⟩; have HB2 := Lib.hid (bthen HB2.out hb2); clear hb2))
        go_ret
        exact ⟨rfl, HB2.out⟩
end Go.Proofs.YtnkgjlehegknjaaGreatDoor
