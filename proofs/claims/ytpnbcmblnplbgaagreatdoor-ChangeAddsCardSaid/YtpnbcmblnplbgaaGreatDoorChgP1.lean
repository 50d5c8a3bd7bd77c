/- Several texts in one file: MaPure, MaFind, EnRead, EnFind, EnOwn, EnWith, EnIdx, EnIns, EnSet, EnMaker, TrOnce, ScVals, MaNum. -/
import Derived.Test.YtpnbcmblnplbgaaGreatDoorDnSpec
import Derived.Test.YtpnbcmblnplbgaaGreatDoorDnFoldP
import Derived.Lib.ParseIntBTie
import Derived.Lib.AtoiTie
import Derived.Lib.ItoaMem
import Derived.Lib.Strings
import Derived.Test.YtpnbcmblnplbgaaGreatDoorDnLib
import Derived.Test.YtpnbcmblnplbgaaGreatDoorOfL
import Derived.Laws.Tables
import Derived.Great.BuildSlice
import Derived.Laws.CopyOwn
import Derived.Deep.WholeRow
import Derived.Test.YtpnbcmblnplbgaaGreatDoorRefCut
import Derived.BigQuiet
import Derived.Deep.AppendLies
import Derived.Deep.RegionLaw
import Derived.Shelf.Spec.SlicesInsert
import Derived.Lib.AppendZerosOnto
import Derived.Laws.NewBlocks
import Derived.Laws.LoneSync
import Derived.Laws.Externs
import Derived.Tactics
import Derived.Tactics2
import Derived.Defers
import Derived.Laws.Pointers
import Derived.RegionTactic
import Derived.RegionCalls
import Derived.ChangeAlike
import Derived.Test.YtpnbcmblnplbgaaGreatDoorDnKey
import Derived.Lib.SmallJoins
import Derived.Lib.AppendIntMem
namespace Go.Proofs.YtpnbcmblnplbgaaGreatDoor
set_option linter.unusedVariables false

def kindsL : List (List UInt8 × Nat) := [
  ([111, 98, 106, 101, 99, 116, 99, 108, 97, 115, 115], 1), ([99, 110], 1), ([115, 110], 1), ([111], 1), ([111, 117], 1), ([117, 105, 100], 1), ([109, 97, 105, 108], 1),
  ([100, 101, 115, 99, 114, 105, 112, 116, 105, 111, 110], 1), ([117, 105, 100, 110, 117, 109, 98, 101, 114], 2), ([109, 101, 109, 98, 101, 114], 3), ([117, 115, 101, 114, 112, 97, 115, 115, 119, 111, 114, 100], 4)]
def findL (n : List UInt8) : Option (List UInt8 × Nat) := kindsL.find? (fun k => k.1 == n)
def ruleL (n : List UInt8) : Nat := match findL n with | some k => k.2 | none => 0
def ruleD (t : List UInt8) : Nat := ruleL (low t)
def canonD (t : List UInt8) : Option (List UInt8) := (findL (low t)).map (·.1)

def okN (e : Lib.NumEnd Int) (l : List UInt8) : Option Int := match e with
  | .ok v => if Lib.itoa v = l then some v else none
  | _ => none
def numD (l : List UInt8) : Option Int := if (Lib.trimPrefix l [45]).length ≤ 15 then okN (Lib.parseIntB 64 l) l else none

def normD (r : Nat) (v : List UInt8) : Option (List UInt8) :=
  if v = [] ∨ 100 < v.length then none
  else if r = 1 then (if fold v = [] then none else some (fold v))
  else if r = 2 then (if (numD v).isSome then some v else none)
  else if r = 3 then (match keyD v with | some k => if k = [] then none else some k | none => none)
  else if r = 4 then some v
  else none
def sameD (r : Nat) (a b : List UInt8) : Bool := match normD r a, normD r b with
  | some x, some y => x == y
  | _, _ => false

theorem findL_len {n : List UInt8} {k : List UInt8 × Nat} (h : findL n = some k) : k.1 = n ∧ n.length ≤ 15 ∧ 1 ≤ k.2 ∧ k.2 ≤ 4 := by
  have h1 := List.find?_some h
  have h2 := List.mem_of_find?_eq_some h
  have e : k.1 = n := by simpa using h1
  have hall : (kindsL.all fun k => decide (k.1.length ≤ 15 ∧ 1 ≤ k.2 ∧ k.2 ≤ 4)) = true := by decide
  have := List.all_eq_true.1 hall k h2
  simp only [decide_eq_true_eq] at this
  exact ⟨e, by rw [← e]; exact this.1, this.2⟩
theorem findL_long {n : List UInt8} (h : 15 < n.length) : findL n = none := by
  cases e : findL n with
  | none => rfl
  | some k => have := (findL_len e).2.1; omega
theorem canon_eq {t c : List UInt8} (h : canonD t = some c) : c = low t ∧ 1 ≤ ruleD t ∧ ruleD t ≤ 4 := by
  unfold canonD at h
  cases e : findL (low t) with
  | none => rw [e] at h; cases h
  | some k =>
    rw [e] at h
    simp only [Option.map_some, Option.some.injEq] at h
    have := findL_len e
    unfold ruleD ruleL
    rw [e]
    exact ⟨by rw [← h]; exact this.1, this.2.2⟩
theorem canon_rule (t : List UInt8) : canonD t = none ↔ ruleD t = 0 := by
  unfold canonD ruleD ruleL
  cases e : findL (low t) with
  | none => simp
  | some k =>
    have := findL_len e
    simp
    omega
theorem ruleD_low (t : List UInt8) : ruleD (low t) = ruleD t := by unfold ruleD; rw [low_low]
theorem find_take {n : List UInt8} : ∀ (l : List (List UInt8 × Nat)) (k : Nat), (∀ i, (h : i < l.length) → i < k → l[i].1 ≠ n) → l.find? (fun k => k.1 == n) = (l.drop k).find? (fun k => k.1 == n)
  | [], k, _ => by simp
  | x :: l, 0, _ => rfl
  | x :: l, k + 1, h => by
    have h0 : x.1 ≠ n := h 0 (by simp) (by omega)
    rw [List.find?_cons_of_neg (by simpa using h0)]
    exact find_take l k (fun i hi hk => h (i + 1) (by simpa using hi) (by omega))
theorem find_at {n : List UInt8} {k : Nat} (hk : k < kindsL.length) (h : ∀ i, (h : i < kindsL.length) → i < k → kindsL[i].1 ≠ n) (he : kindsL[k].1 = n) : findL n = some kindsL[k] := by
  unfold findL
  rw [find_take kindsL k h, List.drop_eq_getElem_cons hk, List.find?_cons_of_pos (by simpa using he)]
theorem find_no {n : List UInt8} (h : ∀ i, (h : i < kindsL.length) → kindsL[i].1 ≠ n) : findL n = none := by
  unfold findL
  rw [find_take kindsL kindsL.length (fun i hi _ => h i hi)]; simp
end Go.Proofs.YtpnbcmblnplbgaaGreatDoor


namespace Go.Proofs.YtpnbcmblnplbgaaGreatDoor
open Go.RowKit
set_option linter.unusedVariables false

set_option maxRecDepth 100000 in
set_option maxHeartbeats 1000000 in
theorem lowered_any (s : ByteArray) (w : World) (hs : s.size ≤ 281474976710656) :
    Calls Tryz.prog 132 #[.string s] w fun e w' => e = .returned (.string (lowB s)) ∧ Below w.heap.size w w' := by
  have hcv := fun w => Lib.run_convert_string_bytes (P := Tryz.prog) w 9 22 5 s Tryz.underlying9 Tryz.underlying22 Tryz.underlying5
  go_enter Tryz.func132, Tryz.ntmps132
  go_wp2
  clear hcv
  generalize grownCap w s.size 0 5 = cap
  go_loopw [10] (fun i wr => ∃ j : Nat, j ≤ s.size ∧ i = .int .i64 j ∧ LowAt w s j wr) (fun i _ => s.size - (intOf i).toNat)
  case atStart => exact ⟨0, by omega, rfl, lowAt_start w s⟩
  case round =>
    obtain ⟨j, hj, rfl, hlow⟩ := hrel
    by_cases hlt : j < s.size
    · have t1 : decide ((j : Int) < (s.size : Int)) = true := by simp; omega
      obtain ⟨c0, f0⟩ := hlow.cell hlt
      obtain ⟨c, hc⟩ : ∃ c : UInt8, c = s[j] := ⟨_, rfl⟩
      rw [← hc] at c0
      have hcl := c.toNat_lt
      have HLow := Lib.hid hlow
      clear hlow
      by_cases h1 : 65 ≤ c.toNat
      · have t2 : decide ((65 : Int) ≤ (c.toNat : Int)) = true := by simp; omega
        by_cases h2 : c.toNat ≤ 90
        · have t3 : decide ((c.toNat : Int) ≤ 90) = true := by simp; omega
          have HSt := Lib.hid (HLow.out.store hlt ((c.toNat : Int) + 97 - 65) (by rw [show (c.toNat : Int) + 97 - 65 = (c.toNat : Int) + 32 by omega, lowC_up h1 h2, hc]))
          clear hc
          go_wp2
          go_roundw
          case rel => exact ⟨j + 1, by omega, by go_num, HSt.out⟩
          case measure => simp [intOf]; omega
        · have t3 : decide ((c.toNat : Int) ≤ 90) = false := by simp; omega
          have HSt := Lib.hid (HLow.out.skip hlt (by rw [← hc]; exact lowC_no (by omega)))
          clear hc
          go_wp2
          go_roundw
          case rel => exact ⟨j + 1, by omega, by go_num, HSt.out⟩
          case measure => simp [intOf]; omega
      · have t2 : decide ((65 : Int) ≤ (c.toNat : Int)) = false := by simp; omega
        have HSt := Lib.hid (HLow.out.skip hlt (by rw [← hc]; exact lowC_no (by omega)))
        clear hc
        go_wp2
        go_roundw
        case rel => exact ⟨j + 1, by omega, by go_num, HSt.out⟩
        case measure => simp [intOf]; omega
    · obtain rfl : j = s.size := by omega
      have t1 : decide ((s.size : Int) < (s.size : Int)) = false := by simp
      have hcv := hlow.conv (cap := cap)
      have HLow := Lib.hid hlow
      clear hlow
      go_wp2
      go_ret
      exact ⟨rfl, HLow.out.1⟩

def kindCells : Array Value := #[.string { data := #[111, 98, 106, 101, 99, 116, 99, 108, 97, 115, 115] }, .int .i64 1, .string { data := #[99, 110] }, .int .i64 1, .string { data := #[115, 110] }, .int .i64 1, .string { data := #[111] }, .int .i64 1, .string { data := #[111, 117] }, .int .i64 1, .string { data := #[117, 105, 100] }, .int .i64 1, .string { data := #[109, 97, 105, 108] }, .int .i64 1, .string { data := #[100, 101, 115, 99, 114, 105, 112, 116, 105, 111, 110] }, .int .i64 1, .string { data := #[117, 105, 100, 110, 117, 109, 98, 101, 114] }, .int .i64 2, .string { data := #[109, 101, 109, 98, 101, 114] }, .int .i64 3, .string { data := #[117, 115, 101, 114, 112, 97, 115, 115, 119, 111, 114, 100] }, .int .i64 4]
def kindsV : Value := .agg kindCells
theorem kind_row : (Tryz.prog.info? 187).map (·.size) = some kindCells.size := by kernel_rfl
theorem results_one {P : Program} {fn : Func} {a : Tmp} {t : TypeId} (hr : fn.results = #[.cell a t]) {tmps : Array Value} {w : World} {v : Value} {d : Addr} (ha : tmps.getD a undef = .pointer (some d)) (hl : (loadVar t d).run P w = .ok v w) :
    (results fn tmps).run P w = .ok v w := by
  unfold results
  have ha' : tmps[a]?.getD undef = .pointer (some d) := by simpa using ha
  simp [hr, ha', asAddr, hl]

set_option maxRecDepth 100000 in
set_option maxHeartbeats 1000000 in
theorem allTypes_any (w : World) : Calls Tryz.prog 133 #[] w fun e w' => e = .returned kindsV ∧ Below w.heap.size w w' := by
  have hld := run_loadVar_new (P := Tryz.prog) w 187 kindCells 11 167 Tryz.underlying187 kind_row
  go_enter Tryz.func133, Tryz.ntmps133
  go_wp2_with (first | (refine wpList_buildTo rfl 187 _ rfl (some 12) rfl kindCells (by kernel_rfl) ?_) | (refine wpList_store_row rfl 187 (.tmp 0) (.tmp 12) rfl w.heap.size kindCells rfl rfl 187 _ (Array.getElem?_push_size ..) (by kernel_rfl) (by kernel_rfl) (by kernel_rfl) ?_; rw [World.setRow_alloc_new]))
  refine bodyPost_ret (v := kindsV) ?_ rfl ⟨rfl, (Below.refl _ _).alloc (Nat.le_refl _) _⟩
  exact results_one rfl rfl hld

theorem kind_all (w : World) : ∀ k : Fin 11, (Instr.index 187 kindsV (.int .i64 k.1)).run Tryz.prog w = .ok (.agg #[.string ⟨(kindsL.getD k.1 ([], 0)).1.toArray⟩, .int .i64 (kindsL.getD k.1 ([], 0)).2]) w
  | ⟨0, _⟩ => by show (Instr.index 187 kindsV (.int .i64 ((0 : Nat) : Int))).run Tryz.prog w = _; kernel_rfl
  | ⟨1, _⟩ => by show (Instr.index 187 kindsV (.int .i64 ((1 : Nat) : Int))).run Tryz.prog w = _; kernel_rfl
  | ⟨2, _⟩ => by show (Instr.index 187 kindsV (.int .i64 ((2 : Nat) : Int))).run Tryz.prog w = _; kernel_rfl
  | ⟨3, _⟩ => by show (Instr.index 187 kindsV (.int .i64 ((3 : Nat) : Int))).run Tryz.prog w = _; kernel_rfl
  | ⟨4, _⟩ => by show (Instr.index 187 kindsV (.int .i64 ((4 : Nat) : Int))).run Tryz.prog w = _; kernel_rfl
  | ⟨5, _⟩ => by show (Instr.index 187 kindsV (.int .i64 ((5 : Nat) : Int))).run Tryz.prog w = _; kernel_rfl
  | ⟨6, _⟩ => by show (Instr.index 187 kindsV (.int .i64 ((6 : Nat) : Int))).run Tryz.prog w = _; kernel_rfl
  | ⟨7, _⟩ => by show (Instr.index 187 kindsV (.int .i64 ((7 : Nat) : Int))).run Tryz.prog w = _; kernel_rfl
  | ⟨8, _⟩ => by show (Instr.index 187 kindsV (.int .i64 ((8 : Nat) : Int))).run Tryz.prog w = _; kernel_rfl
  | ⟨9, _⟩ => by show (Instr.index 187 kindsV (.int .i64 ((9 : Nat) : Int))).run Tryz.prog w = _; kernel_rfl
  | ⟨10, _⟩ => by show (Instr.index 187 kindsV (.int .i64 ((10 : Nat) : Int))).run Tryz.prog w = _; kernel_rfl
theorem kind_at (k : Nat) (h : k < kindsL.length) (w : World) : (Instr.index 187 kindsV (.int .i64 k)).run Tryz.prog w = .ok (.agg #[.string ⟨kindsL[k].1.toArray⟩, .int .i64 kindsL[k].2]) w := by
  have := kind_all w ⟨k, h⟩
  have e : kindsL.getD k ([], 0) = kindsL[k] := by simp [List.getD, h]
  simp only [e] at this
  exact this

def findV (o : Option (List UInt8 × Nat)) : Value := match o with
  | some k => .tuple #[.agg #[.string ⟨k.1.toArray⟩, .int .i64 k.2], .bool true]
  | none => .tuple #[.agg #[.string ⟨#[]⟩, .int .i64 0], .bool false]

theorem lowB_size (s : ByteArray) : (lowB s).size = s.size := by rw [← bytes_len, lowB_list, low_length, bytes_len]
theorem below_two {w W : World} {o : Obj} {u v : Value} (h : Below (w.alloc o).heap.size (w.alloc o) W) : Below w.heap.size w ((W.setCell ⟨w.heap.size, 0, none⟩ u).setCell ⟨w.heap.size, 1, none⟩ v) :=
  ((((Below.refl _ _).alloc (Nat.le_refl _) _).trans (h.mono (by simp))).setCell (Nat.le_refl _) _).setCell (Nat.le_refl _) _
set_option maxRecDepth 100000 in
set_option maxHeartbeats 1000000 in
theorem matchFind_any (s : ByteArray) (w : World) : Calls Tryz.prog 111 #[.string s] w fun e w' => e = .returned (findV (findL (low s.data.toList))) ∧ Below w.heap.size w w' := by
  by_cases h30 : 30 < s.size
  · have hno : findL (low s.data.toList) = none := findL_long (by rw [low_length, bytes_len]; omega)
    rw [hno]
    have t0 : decide ((30 : Int) < (s.size : Int)) = true := by simp; omega
    clear hno
    go_enter Tryz.func111, Tryz.ntmps111
    go_wp2
    refine bodyPost_ret (v := findV none) (by simp [results, Tryz.results111, go_sem, findV]) rfl ⟨rfl, ?_⟩
    exact (Below.refl _ _).alloc (Nat.le_refl _) _
  · have t0 : decide ((30 : Int) < (s.size : Int)) = false := by simp; omega
    obtain ⟨L, hL⟩ : ∃ L, L = lowB s := ⟨_, rfl⟩
    have hLl : L.data.toList = low s.data.toList := by rw [hL, lowB_list]
    rw [← hLl]
    have hlo := fun w => lowered_any s w (by omega)
    rw [← hL] at hlo
    have HLo := Lib.hid hlo
    have HLl := Lib.hid hLl
    clear hlo hL hLl
    go_enter Tryz.func111, Tryz.ntmps111
    go_wp2_with (first | (go_at_call 132; refine (HLo.out _).mono ?_; rintro e w1 ⟨rfl, hb1⟩; have HB1 := Lib.hid hb1; clear hb1) | (go_at_call 133; refine (allTypes_any _).mono ?_; rintro e w2 ⟨rfl, hb2⟩; have HB2 := Lib.hid (bthen HB1.out hb2); clear hb2))
    go_loopw [14] (fun i wr => ∃ k : Nat, k ≤ 11 ∧ i = .int .i64 k ∧ Hid (∀ i, (h : i < kindsL.length) → i < k → kindsL[i].1 ≠ L.data.toList) ∧ Below (w.alloc (.cells #[.string ⟨#[]⟩, .int .i64 0] 167)).heap.size (w.alloc (.cells #[.string ⟨#[]⟩, .int .i64 0] 167)) wr) (fun i _ => 11 - (intOf i).toNat)
    case atStart => exact ⟨0, by omega, rfl, Lib.hid (fun i _ h => absurd h (by omega)), HB2.out⟩
    case round =>
      obtain ⟨k, hk, rfl, HN, hb⟩ := hrel
      have HB := Lib.hid hb
      have hsz := hb.size
      simp at hsz
      have hz : w.heap.size < wr.heap.size := by omega
      obtain ⟨c0, f0⟩ := bcell hb
      have k0 : wr.cell? ⟨w.heap.size, 0, none⟩ = some (.string ⟨#[]⟩) := (c0 w.heap.size 0 (by simp)).trans (by simp)
      have k1 : wr.cell? ⟨w.heap.size, 1, none⟩ = some (.int .i64 0) := (c0 w.heap.size 1 (by simp)).trans (by simp)
      have l0 : wr.frozen? ⟨w.heap.size, 0, none⟩ = false := (f0 w.heap.size 0 (by simp)).trans (by simp)
      have l1 : wr.frozen? ⟨w.heap.size, 1, none⟩ = false := (f0 w.heap.size 1 (by simp)).trans (by simp)
      clear c0 f0 hb
      by_cases hlt : k < 11
      · have t1 : decide ((k : Int) < 11) = true := by simp; omega
        have hkl : k < kindsL.length := hlt
        obtain ⟨X, hX⟩ : ∃ X : ByteArray, X = ⟨kindsL[k].1.toArray⟩ := ⟨_, rfl⟩
        obtain ⟨R, hR⟩ : ∃ R : Nat, R = kindsL[k].2 := ⟨_, rfl⟩
        have hix := kind_at k hkl
        rw [← hX, ← hR] at hix
        by_cases he : X = L
        · have hf : findL L.data.toList = some kindsL[k] := find_at hkl HN.out (by rw [← he, hX])
          have hv : findV (findL L.data.toList) = .tuple #[.agg #[.string L, .int .i64 R], .bool true] := by rw [hf]; simp only [findV]; rw [← hX, ← hR, he]
          have HV := Lib.hid hv
          subst he
          clear hf hX hR hv HN
          go_wp2
          refine bodyPost_ret (v := .tuple #[.agg #[.string X, .int .i64 R], .bool true]) (by simp [results, Tryz.results111, go_sem, k0, k1, hz]) rfl ⟨by rw [HV.out], ?_⟩
          exact (below_two HB.out).alloc (by simp; omega) _
        · have hne : kindsL[k].1 ≠ L.data.toList := fun e => he (by rw [hX, e])
          have HN2 := Lib.hid (fun i (h : i < kindsL.length) (hi : i < k + 1) => (show kindsL[i].1 ≠ L.data.toList from if e : i = k then by subst e; exact hne else HN.out i h (by omega)))
          have t2 := str_ne he
          clear hne hX hR HN
          go_wp2
          exact ⟨⟨k + 1, by omega, by go_num, HN2, HB.out.alloc (by simp; omega) _⟩, by simp [intOf]; omega⟩
      · obtain rfl : k = 11 := by omega
        have hf : findL L.data.toList = none := find_no (fun i h => HN.out i h (by simpa [kindsL] using h))
        have hv : findV (findL L.data.toList) = .tuple #[.agg #[.string ⟨#[]⟩, .int .i64 0], .bool false] := by rw [hf]; rfl
        have HV := Lib.hid hv
        clear hf HN hv
        go_wp2
        refine bodyPost_ret (v := .tuple #[.agg #[.string ⟨#[]⟩, .int .i64 0], .bool false]) (by simp [results, Tryz.results111, go_sem, k0, k1]) rfl ⟨by rw [HV.out], ?_⟩
        exact below_two HB.out

set_option maxRecDepth 100000 in
set_option maxHeartbeats 1000000 in
theorem rule_any (s : ByteArray) (w : World) : Calls Tryz.prog 134 #[.string s] w fun e w' => e = .returned (.int .i64 (ruleD s.data.toList)) ∧ Below w.heap.size w w' := by
  have hf := fun w => matchFind_any s w
  have hr : ruleD s.data.toList = match findL (low s.data.toList) with | some k => k.2 | none => 0 := rfl
  cases e : findL (low s.data.toList) with
  | none =>
    rw [e] at hf hr
    simp only [findV] at hf hr
    rw [hr]
    have HF := Lib.hid hf
    clear hf hr e
    go_enter Tryz.func134, Tryz.ntmps134
    go_wp2_with (go_at_call 111; refine (HF.out _).mono ?_; rintro e w1 ⟨rfl, hb1⟩; have HB := Lib.hid hb1; clear hb1)
    go_ret
    exact ⟨rfl, HB.out.alloc HB.out.size _⟩
  | some k =>
    obtain ⟨n, r⟩ := k
    rw [e] at hf hr
    simp only [findV] at hf hr
    rw [hr]
    obtain ⟨X, hX⟩ : ∃ X : ByteArray, X = ⟨n.toArray⟩ := ⟨_, rfl⟩
    rw [← hX] at hf
    have HF := Lib.hid hf
    clear hf hr e hX
    go_enter Tryz.func134, Tryz.ntmps134
    go_wp2_with (go_at_call 111; refine (HF.out _).mono ?_; rintro e w1 ⟨rfl, hb1⟩; have HB := Lib.hid hb1; clear hb1)
    go_ret
    exact ⟨rfl, HB.out.alloc HB.out.size _⟩

def canonV (o : Option (List UInt8)) : Value := match o with
  | some k => .tuple #[.string ⟨k.toArray⟩, .bool true]
  | none => .tuple #[.string ⟨#[]⟩, .bool false]
set_option maxRecDepth 100000 in
set_option maxHeartbeats 1000000 in
theorem canon_any (s : ByteArray) (w : World) : Calls Tryz.prog 83 #[.string s] w fun e w' => e = .returned (canonV (canonD s.data.toList)) ∧ Below w.heap.size w w' := by
  have hf := fun w => matchFind_any s w
  have hr : canonD s.data.toList = (findL (low s.data.toList)).map (·.1) := rfl
  cases e : findL (low s.data.toList) with
  | none =>
    rw [e] at hf hr
    rw [hr]
    simp only [findV] at hf
    have HF := Lib.hid hf
    clear hf hr e
    go_enter Tryz.func83, Tryz.ntmps83
    go_wp2_with (go_at_call 111; refine (HF.out _).mono ?_; rintro e w1 ⟨rfl, hb1⟩; have HB := Lib.hid hb1; clear hb1)
    go_ret2
    exact ⟨rfl, HB.out.alloc HB.out.size _⟩
  | some k =>
    obtain ⟨n, r⟩ := k
    rw [e] at hf hr
    rw [hr]
    simp only [findV] at hf
    obtain ⟨X, hX⟩ : ∃ X : ByteArray, X = ⟨n.toArray⟩ := ⟨_, rfl⟩
    rw [← hX] at hf
    have hv : canonV (Option.map (·.1) (some (n, r))) = .tuple #[.string X, .bool true] := by rw [hX]; rfl
    have HV := Lib.hid hv
    have HF := Lib.hid hf
    clear hf hr e hX hv
    go_enter Tryz.func83, Tryz.ntmps83
    go_wp2_with (go_at_call 111; refine (HF.out _).mono ?_; rintro e w1 ⟨rfl, hb1⟩; have HB := Lib.hid hb1; clear hb1)
    go_ret2
    exact ⟨by rw [HV.out]; rfl, HB.out.alloc HB.out.size _⟩
end Go.Proofs.YtpnbcmblnplbgaaGreatDoor


namespace Go.Proofs.YtpnbcmblnplbgaaGreatDoor
open Go.RowKit
set_option linter.unusedVariables false

def IsT (n0 : Nat) (w : World) (L : List (List UInt8)) (v : Value) : Prop := ∃ a c, v = .slice a L.length c ∧ L.length ≤ maxLen ∧
  ∀ j, (h : j < L.length) → ∃ b off, a = some ⟨b, off, none⟩ ∧ b < n0 ∧ w.cell? ⟨b, off + j, none⟩ = some (strV L[j])
theorem IsT.below {n0 n1 : Nat} {w w' : World} {L : List (List UInt8)} {v : Value} (h : IsT n0 w L v) (hb : Below n0 w w') (hn : n0 ≤ n1) : IsT n1 w' L v := by
  obtain ⟨a, c, hv, hm, hc⟩ := h
  refine ⟨a, c, hv, hm, fun j hj => ?_⟩
  obtain ⟨b, off, ha, hlt, c0⟩ := hc j hj
  exact ⟨b, off, ha, Nat.lt_of_lt_of_le hlt hn, (hb.cell (p := ⟨b, _, none⟩) hlt).trans c0⟩
theorem isT_nil (n0 : Nat) (w : World) (c : Nat) (a : Option Addr) : IsT n0 w [] (.slice a 0 c) := ⟨a, c, rfl, Nat.zero_le _, fun j hj => absurd hj (by simp)⟩
theorem ownS_isT {B : Nat} {w : World} {v : Value} {L : List (List UInt8)} (h : OwnS B w v L) (hl : L.length ≤ maxLen) : IsT w.heap.size w L v := by
  by_cases hne : L = []
  · subst hne
    obtain ⟨a, c, hv⟩ := ownS_slice h
    exact ⟨a, c, hv, hl, fun j hj => absurd hj (by simp)⟩
  · obtain ⟨g, c, hv, _, hg, hc⟩ := ownS_at h hne
    exact ⟨_, c, hv, hl, fun j hj => ⟨g, 0, rfl, hg, by rw [Nat.zero_add]; exact hc j hj⟩⟩

abbrev AT := List UInt8 × List (List UInt8)
def IsA (n0 : Nat) (w : World) (L : List AT) (v : Value) : Prop := ∃ a c, v = .slice a L.length c ∧ L.length ≤ maxLen ∧
  ∀ j, (h : j < L.length) → ∃ b off u, a = some ⟨b, off, none⟩ ∧ b < n0 ∧ w.cell? ⟨b, off + j * 2, none⟩ = some (strV L[j].1) ∧ w.cell? ⟨b, off + j * 2 + 1, none⟩ = some u ∧ IsT n0 w L[j].2 u
theorem IsA.below {n0 n1 : Nat} {w w' : World} {L : List AT} {v : Value} (h : IsA n0 w L v) (hb : Below n0 w w') (hn : n0 ≤ n1) : IsA n1 w' L v := by
  obtain ⟨a, c, hv, hm, hc⟩ := h
  refine ⟨a, c, hv, hm, fun j hj => ?_⟩
  obtain ⟨b, off, u, ha, hlt, c0, c1, ht⟩ := hc j hj
  exact ⟨b, off, u, ha, Nat.lt_of_lt_of_le hlt hn, (hb.cell (p := ⟨b, _, none⟩) hlt).trans c0, (hb.cell (p := ⟨b, _, none⟩) hlt).trans c1, ht.below hb hn⟩
theorem below_drewN {B : Nat} {w w' : World} (h : Below B w w') (n : Nat) : Below B w (w'.drewN n) := h.trans ⟨rfl, rfl, rfl, Nat.le_refl _, fun _ _ => rfl⟩

def smallT (L : List (List UInt8)) : Prop := L.length ≤ 1000 ∧ ∀ s ∈ L, s.length ≤ 1000000
set_option maxRecDepth 100000 in
set_option maxHeartbeats 2000000 in
theorem copyVals_any (L : List (List UInt8)) (hs : smallT L) (v : Value) (w : World) (h : IsT w.heap.size w L v) :
    Calls Tryz.prog 67 #[v] w fun e w' => ∃ v', e = .returned v' ∧ OwnS w.heap.size w' v' L ∧ Below w.heap.size w w' := by
  obtain ⟨a, c, rfl, hm, hcell⟩ := h
  unfold maxLen at hm
  have HC := Lib.hid hcell
  have HS := Lib.hid hs
  have hL := hs.1
  clear hcell hs
  go_enter Tryz.func67, Tryz.ntmps67
  go_wp2
  go_loopw [3, 8] (fun l i wr => ∃ j : Nat, j ≤ L.length ∧ i = .int .i64 j ∧ OwnS w.heap.size wr l (L.take j) ∧ Below w.heap.size w wr) (fun _ i _ => L.length - (intOf i).toNat)
  case atStart => exact ⟨0, by omega, rfl, ownS_nil _ _, Below.refl _ _⟩
  case round =>
    obtain ⟨j, hj, rfl, hown, hbel⟩ := hrel
    obtain ⟨sa, sc, rfl⟩ := ownS_slice hown
    have htl : (L.take j).length = j := by rw [List.length_take]; omega
    simp only [htl] at hown ⊢
    have HOwn := Lib.hid hown
    have HBel := Lib.hid hbel
    have hbs := hbel.size
    by_cases hlt : j < L.length
    · have t1 : decide ((j : Int) < (L.length : Int)) = true := by simp; omega
      have t1' : decide (j < L.length) = true := by simpa using hlt
      obtain ⟨b, off, rfl, hb0, c0⟩ := HC.out j hlt
      obtain ⟨X, hX⟩ : ∃ X : ByteArray, ⟨L[j].toArray⟩ = X := ⟨_, rfl⟩
      have hXl : X.data.toList = L[j] := by rw [← hX]
      have c1 : (wr.cell? ⟨b, off + j, none⟩) = some (.string X) := by
        rw [hbel.cell (p := ⟨b, _, none⟩) hb0, c0, ← hX]; rfl
      have hXs : X.size ≤ 281474976710656 := by
        have := HS.out.2 L[j] (List.getElem_mem _)
        rw [← bytes_len, hXl]; omega
      have hcl := fun w => clone_any X w hXs
      have HCl := Lib.hid hcl
      have htk : L.take (j + 1) = L.take j ++ [X.data.toList] := by rw [List.take_succ_eq_append_getElem hlt, hXl]
      have HTk := Lib.hid htk
      clear hX hXl c0 hcl htk hown hbel htl
      go_wp2_with (first
        | (go_at_call 63; refine (HCl.out _).mono ?_; rintro e w2 ⟨rfl, hb2⟩; have HB2 := Lib.hid hb2; have HO2 := Lib.hid (ownS_below HOwn.out hb2); have hbs2 := hb2.size; clear hb2)
        | (at_builtin; refine wpList_append_text rfl (.tmp 12) (.tmp 15) rfl w.heap.size (.slice sa j sc) (L.take j) rfl X HO2.out rfl (by rw [List.length_take]; omega) (by omega) ?_; intro v5 w5 hown5 hb5; have HO5 := Lib.hid hown5; have HB5 := Lib.hid hb5; clear hown5 hb5))
      go_roundw
      case rel => exact ⟨j + 1, by omega, by go_num, by rw [HTk.out]; exact HO5.out, (HBel.out.trans (HB2.out.mono hbs)).trans HB5.out⟩
      case measure => simp [intOf]; omega
    · obtain rfl : j = L.length := by omega
      have t1 : decide ((L.length : Int) < (L.length : Int)) = false := by simp
      have t1' : decide (L.length < L.length) = false := by simp
      clear hown hbel htl
      go_wp2
      go_ret
      exact ⟨_, rfl, by have := HOwn.out; rwa [List.take_length] at this, HBel.out⟩
end Go.Proofs.YtpnbcmblnplbgaaGreatDoor


namespace Go.Proofs.YtpnbcmblnplbgaaGreatDoor
open Go.RowKit
set_option linter.unusedVariables false

def smallA (L : List AT) : Prop := L.length ≤ 1000 ∧ ∀ a ∈ L, a.1.length ≤ 1000000 ∧ smallT a.2
def findA (L : List AT) (t : List UInt8) : List (List UInt8) := match L.find? (fun a => low a.1 == low t) with
  | some a => a.2
  | none => []
theorem findA_at {L : List AT} {t : List UInt8} (j : Nat) (hj : j < L.length) (h : ∀ k (hk : k < L.length), k < j → (low L[k].1 == low t) = false) (he : (low L[j].1 == low t) = true) : findA L t = L[j].2 := by
  have : L.find? (fun a => low a.1 == low t) = some L[j] := by
    induction L generalizing j with
    | nil => simp at hj
    | cons x l ih =>
      cases j with
      | zero => rw [List.find?_cons_of_pos (by exact he)]; rfl
      | succ j =>
        have h0 := h 0 (by simp) (by omega)
        rw [List.find?_cons_of_neg (by simpa using h0)]
        exact ih j (by simpa using hj) (fun k hk hkj => h (k + 1) (by simpa using hk) (by omega)) he
  unfold findA; rw [this]
theorem findA_no {L : List AT} {t : List UInt8} (h : ∀ k (hk : k < L.length), (low L[k].1 == low t) = false) : findA L t = [] := by
  have : L.find? (fun a => low a.1 == low t) = none := by
    rw [List.find?_eq_none]
    intro a ha
    obtain ⟨k, hk, rfl⟩ := List.getElem_of_mem ha
    simpa using h k hk
  unfold findA; rw [this]

theorem ownS_lower {B B' : Nat} {w : World} {v : Value} {L : List (List UInt8)} (h : OwnS B w v L) (hle : B' ≤ B) : OwnS B' w v L :=
  ⟨h.1, h.2.imp id fun ⟨g, cap, cur, e1, hb, rest⟩ => ⟨g, cap, cur, e1, Nat.le_trans hle hb, rest⟩⟩
end Go.Proofs.YtpnbcmblnplbgaaGreatDoor


namespace Go.Proofs.YtpnbcmblnplbgaaGreatDoor
open Go.RowKit
set_option linter.unusedVariables false

abbrev PT := List UInt8 × Value
def cellsP : List PT → List Value
  | [] => []
  | r :: l => strV r.1 :: r.2 :: cellsP l
theorem cellsP_append : ∀ a b : List PT, cellsP (a ++ b) = cellsP a ++ cellsP b
  | [], _ => rfl
  | r :: a, b => by show _ :: _ :: cellsP (a ++ b) = _; rw [cellsP_append a b]; rfl
theorem cellsP_length : ∀ l : List PT, (cellsP l).length = l.length * 2
  | [] => rfl
  | r :: l => by simp [cellsP, cellsP_length l]; omega
theorem cellsP_get : ∀ (l : List PT) (j : Nat) (h : j < l.length), (cellsP l)[j * 2]? = some (strV l[j].1) ∧ (cellsP l)[j * 2 + 1]? = some l[j].2
  | r :: l, 0, _ => ⟨rfl, rfl⟩
  | r :: l, j + 1, h => by
    have := cellsP_get l j (by simpa using h)
    rw [show (j + 1) * 2 = j * 2 + 2 from by omega]
    exact this

theorem infoA : (Tryz.prog.info? 56).map (fun i => (i.zero, i.size, i.bytes)) = some (some (.agg #[.string ⟨#[]⟩, .slice none 0 0]), 2, 40) := by kernel_rfl

def IsTo (ok : Nat → Prop) (w : World) (L : List (List UInt8)) (v : Value) : Prop := ∃ a c, v = .slice a L.length c ∧ L.length ≤ maxLen ∧
  ∀ j, (h : j < L.length) → ∃ b off, a = some ⟨b, off, none⟩ ∧ ok b ∧ w.cell? ⟨b, off + j, none⟩ = some (strV L[j])
theorem IsTo.imp {ok ok' : Nat → Prop} {w w' : World} {L : List (List UInt8)} {v : Value} (h : IsTo ok w L v) (hi : ∀ b, ok b → ok' b) (hc : ∀ b o, ok b → w'.cell? ⟨b, o, none⟩ = w.cell? ⟨b, o, none⟩) : IsTo ok' w' L v := by
  obtain ⟨a, c, hv, hm, h⟩ := h
  refine ⟨a, c, hv, hm, fun j hj => ?_⟩
  obtain ⟨b, off, ha, hb, h0⟩ := h j hj
  exact ⟨b, off, ha, hi b hb, (hc b _ hb).trans h0⟩
theorem IsTo.to {ok : Nat → Prop} {n : Nat} {w : World} {L : List (List UInt8)} {v : Value} (h : IsTo ok w L v) (hi : ∀ b, ok b → b < n) : IsT n w L v := by
  obtain ⟨a, c, hv, hm, h⟩ := h
  refine ⟨a, c, hv, hm, fun j hj => ?_⟩
  obtain ⟨b, off, ha, hb, h0⟩ := h j hj
  exact ⟨b, off, ha, hi b hb, h0⟩
theorem ownS_isTo {B : Nat} {w : World} {v : Value} {L : List (List UInt8)} (h : OwnS B w v L) (hl : L.length ≤ maxLen) : IsTo (fun b => B ≤ b ∧ b < w.heap.size) w L v := by
  by_cases hne : L = []
  · subst hne
    obtain ⟨a, c, hv⟩ := ownS_slice h
    exact ⟨a, c, hv, hl, fun j hj => absurd hj (by simp)⟩
  · obtain ⟨g, c, hv, hB, hg, hc⟩ := ownS_at h hne
    exact ⟨_, c, hv, hl, fun j hj => ⟨g, 0, rfl, ⟨hB, hg⟩, by rw [Nat.zero_add]; exact hc j hj⟩⟩

def RowP (B : Nat) (w : World) (v : Value) (P : List PT) : Prop := w.ownsRow B 56 2 v P.length (cellsP P)
def Says (B : Nat) (w : World) (v : Value) (P : List PT) (L : List AT) : Prop := P.length = L.length ∧ ∀ j (h : j < L.length) (h' : j < P.length), P[j].1 = L[j].1 ∧ IsTo (fun b => B ≤ b ∧ b < w.heap.size ∧ some b ≠ v.ownBlock) w L[j].2 P[j].2
def OwnA (B : Nat) (w : World) (v : Value) (L : List AT) : Prop := ∃ P, RowP B w v P ∧ Says B w v P L

theorem rowP_below {B : Nat} {w w' : World} {v : Value} {P : List PT} (h : RowP B w v P) (hb : Below w.heap.size w w') : RowP B w' v P :=
  World.ownsRow.kept h (row := none) ⟨hb.os, hb.tape, hb.output, hb.size, fun k hk _ => hb.block k hk⟩ (by cases v.ownBlock <;> simp)
theorem says_below {B : Nat} {w w' : World} {v : Value} {P : List PT} {L : List AT} (h : Says B w v P L) (hb : Below w.heap.size w w') : Says B w' v P L :=
  ⟨h.1, fun j h1 h2 => ⟨(h.2 j h1 h2).1, (h.2 j h1 h2).2.imp (fun b hk => ⟨hk.1, Nat.lt_of_lt_of_le hk.2.1 hb.size, hk.2.2⟩) (fun b o hk => hb.cell (p := ⟨b, o, none⟩) hk.2.1)⟩⟩
theorem ownA_below {B : Nat} {w w' : World} {v : Value} {L : List AT} (h : OwnA B w v L) (hb : Below w.heap.size w w') : OwnA B w' v L := by
  obtain ⟨P, h1, h2⟩ := h
  exact ⟨P, rowP_below h1 hb, says_below h2 hb⟩
theorem rowP_slice {B : Nat} {w : World} {v : Value} {P : List PT} (h : RowP B w v P) : ∃ a c, v = .slice a P.length c := by
  rcases h.2 with ⟨rfl, hz⟩ | ⟨g, cap, cur, rfl, _⟩
  · exact ⟨_, _, by rw [hz]⟩
  · exact ⟨_, _, rfl⟩
theorem ownA_slice {B : Nat} {w : World} {v : Value} {L : List AT} (h : OwnA B w v L) : ∃ a c, v = .slice a L.length c := by
  obtain ⟨P, h1, h2⟩ := h
  rw [← h2.1]
  exact rowP_slice h1
theorem ownA_nil (B : Nat) (w : World) : OwnA B w (.slice none 0 0) [] := ⟨[], World.ownsRow_nil _ _ _ _, rfl, fun j h => absurd h (by simp)⟩
theorem rowP_at {B : Nat} {w : World} {v : Value} {P : List PT} (h : RowP B w v P) (hl : P ≠ []) : ∃ g c, v = .slice (some ⟨g, 0, none⟩) P.length c ∧ B ≤ g ∧ g < w.heap.size ∧ ∀ j (hj : j < P.length), w.cell? ⟨g, j * 2, none⟩ = some (strV P[j].1) ∧ w.cell? ⟨g, j * 2 + 1, none⟩ = some P[j].2 := by
  have hc := fun g (hg : v.ownBlock = some g) => World.ownsRow.cells h hg
  rcases h.2 with ⟨rfl, hz⟩ | ⟨g, cap, cur, rfl, hB, hg, _⟩
  · exact absurd (List.eq_nil_of_length_eq_zero hz) hl
  · refine ⟨g, cap, rfl, hB, (Array.getElem?_eq_some_iff.1 hg).1, fun j hj => ?_⟩
    obtain ⟨g1, g2⟩ := cellsP_get P j hj
    have h1 := hc g rfl (j * 2) _ g1
    have h2 := hc g rfl (j * 2 + 1) _ g2
    have e1 : ((⟨g, 0, none⟩ : Addr).add (j * 2)) = ⟨g, j * 2, none⟩ := by simp [Addr.add]; omega
    have e2 : ((⟨g, 0, none⟩ : Addr).add (j * 2 + 1)) = ⟨g, j * 2 + 1, none⟩ := by simp [Addr.add]
    rw [e1] at h1
    rw [e2] at h2
    exact ⟨h1, h2⟩
theorem ownA_isA {B : Nat} {w : World} {v : Value} {L : List AT} (h : OwnA B w v L) (hl : L.length ≤ maxLen) : IsA w.heap.size w L v := by
  obtain ⟨P, h1, h2⟩ := h
  by_cases hne : P = []
  · subst hne
    obtain ⟨a, c, hv⟩ := rowP_slice h1
    have : L = [] := List.eq_nil_of_length_eq_zero (by have := h2.1; simpa using this.symm)
    subst this
    exact ⟨a, c, hv, hl, fun j hj => absurd hj (by simp)⟩
  · obtain ⟨g, c, hv, _, hg, hc⟩ := rowP_at h1 hne
    refine ⟨_, c, by rw [hv, h2.1], hl, fun j hj => ?_⟩
    have hj' : j < P.length := by rw [h2.1]; exact hj
    obtain ⟨e1, e2⟩ := h2.2 j hj hj'
    refine ⟨g, 0, P[j].2, rfl, hg, ?_, ?_, e2.to (fun b hb => hb.2.1)⟩
    · rw [Nat.zero_add, ← e1]; exact (hc j hj').1
    · rw [Nat.zero_add]; exact (hc j hj').2

theorem says_more {B : Nat} {w w' : World} {v v' : Value} {P : List PT} {L : List AT} {X : List UInt8} {u : Value} {A : List (List UInt8)} (h : Says B w v P L) (hu : IsTo (fun b => B ≤ b ∧ b < w.heap.size ∧ some b ≠ v.ownBlock) w A u)
    (hg : w.grownBy w' v.ownBlock) (hat : v'.ownBlock = v.ownBlock ∨ v'.ownBlock = some w.heap.size) : Says B w' v' (P ++ [(X, u)]) (L ++ [(X, A)]) := by
  have ok : ∀ b, (B ≤ b ∧ b < w.heap.size ∧ some b ≠ v.ownBlock) → (B ≤ b ∧ b < w'.heap.size ∧ some b ≠ v'.ownBlock) := fun b hb => ⟨hb.1, Nat.lt_of_lt_of_le hb.2.1 hg.size, by
    rcases hat with e | e
    · rw [e]; exact hb.2.2
    · rw [e]; intro h; have := Option.some.inj h; have := hb.2.1; omega⟩
  have hc : ∀ b o, (B ≤ b ∧ b < w.heap.size ∧ some b ≠ v.ownBlock) → w'.cell? ⟨b, o, none⟩ = w.cell? ⟨b, o, none⟩ := fun b o hb => by
    have := hg.block b hb.2.1 hb.2.2
    simp only [World.cell?, this]
  refine ⟨by simp [h.1], fun j h1 h2 => ?_⟩
  by_cases hj : j < L.length
  · have hj' : j < P.length := by rw [h.1]; exact hj
    rw [List.getElem_append_left hj', List.getElem_append_left hj]
    exact ⟨(h.2 j hj hj').1, (h.2 j hj hj').2.imp ok hc⟩
  · have e1 : j = L.length := by simp at h1; omega
    have e2 : j = P.length := by rw [h.1]; exact e1
    have g1 : (P ++ [(X, u)])[j] = (X, u) := by simp [e2]
    have g2 : (L ++ [(X, A)])[j] = (X, A) := by simp [e1]
    rw [g1, g2]
    exact ⟨rfl, hu.imp ok hc⟩
theorem newsA (w : World) (x0 x1 : Value) : ∀ j u, [x0, x1][j]? = some u → (w.alloc (.cells #[x0, x1] 56)).cell? ((⟨w.heap.size, 0, none⟩ : Addr).add j) = some u := by
  intro j u hu
  have h : (w.alloc (.cells #[x0, x1] 56)).heap[w.heap.size]? = some (.cells #[x0, x1] 56 (0, 0)) := heap_alloc_new w _
  have hadd : (⟨w.heap.size, 0, none⟩ : Addr).add j = ⟨w.heap.size, j, none⟩ := by unfold Addr.add; split <;> simp_all
  rw [hadd]
  simp only [World.cell?, h]
  simpa using hu
theorem strV_whole (X : ByteArray) : strV X.data.toList = .string X := by show Value.string ⟨X.data.toList.toArray⟩ = _; rw [whole_ext]
theorem says_row {B : Nat} {w w' : World} {v v' : Value} {P : List PT} {L : List AT} {X : ByteArray} {u : Value} {A : List (List UInt8)} (hs : Says B w v P L)
    (hu : IsTo (fun b => B ≤ b ∧ b < w.heap.size ∧ some b ≠ v.ownBlock) w A u) (hr : w'.ownsRow B 56 2 v' (P.length + 1) (cellsP P ++ [.string X, u])) (hg : w.grownBy w' v.ownBlock) (hat : v'.ownBlock = v.ownBlock ∨ v'.ownBlock = some w.heap.size) :
    OwnA B w' v' (L ++ [(X.data.toList, A)]) := by
  refine ⟨P ++ [(X.data.toList, u)], ?_, says_more hs hu hg hat⟩
  unfold RowP
  rw [List.length_append, cellsP_append]
  show w'.ownsRow B 56 2 v' (P.length + 1) (cellsP P ++ [strV X.data.toList, u])
  rw [strV_whole]
  exact hr

theorem wpList_append_attr {ops : Array Oper} {rest : List Oper} {o : Oper} {a : Act} {w : World} {Q : Exit → Act → World → Prop} (hgd : o.guard = none) (sl x : Operand)
    (ho : o.op = .call { callee := .builtin .append, args := #[sl, x], argTypes := #[25, 25] })
    (base : Nat) (v : Value) (L : List AT) (hs : a.eval sl = v) (X : ByteArray) (u : Value) (A : List (List UInt8)) (hown : OwnA base w v L) (hu : IsTo (fun b => base ≤ b ∧ b < w.heap.size ∧ some b ≠ v.ownBlock) w A u) (hu1 : u.oneCell' = true) (hx : a.eval x = .slice (some ⟨w.heap.size, 0, none⟩) 1 1)
    (h63 : L.length + 1 ≤ 1000000) (hbase : base ≤ w.heap.size)
    (h : ∀ v' w', OwnA base w' v' (L ++ [(X.data.toList, A)]) → Below base w w' → wpList Tryz.prog ops Q rest (a.put o.dst v') w') : wpList Tryz.prog ops Q (o :: rest) a (w.alloc (.cells #[.string X, u] 56)) := by
  obtain ⟨i0, hi, hz0, hz1, hz2⟩ := info_parts infoA
  obtain ⟨P, hr, hsay⟩ := hown
  have hb : Below w.heap.size w (w.alloc (.cells #[.string X, u] 56)) := (Below.refl _ _).alloc (Nat.le_refl _) _
  have hPL := hsay.1
  refine wpList_append_own_at _ hgd sl x 25 ho base 56 i0 (.agg #[.string ⟨#[]⟩, .slice none 0 0]) 2 40 Tryz.underlying25 hi hz0 hz1 hz2 rfl (by decide) v P.length (cellsP P) hs (World.ownsRow.alloc hr _) ⟨w.heap.size, 0, none⟩ 1 1 [.string X, u] hx rfl (newsA w _ _) (by intro u' hu'; simp at hu'; rcases hu' with rfl | rfl; rfl; exact hu1) (by unfold maxLen; omega) (by omega) (by simp; omega) ?_
  intro v' w' hown' hgrow _ hat
  refine h v' w' (says_row (says_below hsay hb) (hu.imp (fun b hk => ⟨hk.1, Nat.lt_of_lt_of_le hk.2.1 hb.size, hk.2.2⟩) (fun b o hk => hb.cell (p := ⟨b, o, none⟩) hk.2.1)) hown' hgrow hat) ?_
  exact ((Below.refl base w).alloc hbase _).grown hgrow (by simp; omega) (fun k e => (World.ownsRow.lt hr k e).1)

end Go.Proofs.YtpnbcmblnplbgaaGreatDoor


namespace Go.Proofs.YtpnbcmblnplbgaaGreatDoor
open Go.RowKit
set_option linter.unusedVariables false

theorem ownA_lt {B : Nat} {w : World} {v : Value} {L : List AT} (h : OwnA B w v L) (g : Nat) (e : v.ownBlock = some g) : g < w.heap.size := by
  obtain ⟨P, h1, _⟩ := h
  exact (World.ownsRow.lt h1 g e).2
def withoutA (L : List AT) (t : List UInt8) : List AT := L.filter (fun a => !(low a.1 == low t))
end Go.Proofs.YtpnbcmblnplbgaaGreatDoor


namespace Go.Proofs.YtpnbcmblnplbgaaGreatDoor
open Go.RowKit
set_option linter.unusedVariables false

def gtB (x y : List UInt8) : Bool := !Op.bytesLess x y && !(x == y)
def idxI (L : List AT) (y : List UInt8) : Int := match L.findIdx? (fun b => gtB b.1 y) with
  | some k => (k : Int)
  | none => -1
end Go.Proofs.YtpnbcmblnplbgaaGreatDoor


namespace Go.Proofs.YtpnbcmblnplbgaaGreatDoor
open Go.RowKit
set_option linter.unusedVariables false

def InsW (B : Nat) (w : World) (ob : Option Nat) (Q : List PT) (e : Ending) (w' : World) : Prop := ∃ v', e = .returned v' ∧ RowP B w' v' Q ∧ w.grownBy w' ob ∧ (v'.ownBlock = ob ∨ v'.ownBlock = some w.heap.size)

end Go.Proofs.YtpnbcmblnplbgaaGreatDoor


namespace Go.Proofs.YtpnbcmblnplbgaaGreatDoor
open Go.RowKit
set_option linter.unusedVariables false

def RelP (ok : Nat → Prop) (w : World) : List PT → List AT → Prop
  | [], [] => True
  | p :: P, a :: L => (p.1 = a.1 ∧ IsTo ok w a.2 p.2) ∧ RelP ok w P L
  | _, _ => False
theorem RelP.app {ok : Nat → Prop} {w : World} : ∀ {P : List PT} {L : List AT} {P' : List PT} {L' : List AT}, RelP ok w P L → RelP ok w P' L' → RelP ok w (P ++ P') (L ++ L')
  | [], [], _, _, _, h => h
  | p :: P, a :: L, _, _, h, k => ⟨h.1, RelP.app h.2 k⟩
theorem RelP.take {ok : Nat → Prop} {w : World} : ∀ {P : List PT} {L : List AT} (k : Nat), RelP ok w P L → RelP ok w (P.take k) (L.take k)
  | [], [], k, h => by simp [RelP]
  | p :: P, a :: L, 0, h => trivial
  | p :: P, a :: L, k + 1, h => ⟨h.1, RelP.take k h.2⟩
theorem RelP.drop {ok : Nat → Prop} {w : World} : ∀ {P : List PT} {L : List AT} (k : Nat), RelP ok w P L → RelP ok w (P.drop k) (L.drop k)
  | [], [], k, h => by simp [RelP]
  | p :: P, a :: L, 0, h => h
  | p :: P, a :: L, k + 1, h => RelP.drop (P := P) (L := L) k h.2
theorem RelP.to {ok : Nat → Prop} {w : World} : ∀ {P : List PT} {L : List AT}, RelP ok w P L → P.length = L.length ∧ (∀ j (h : j < L.length) (h' : j < P.length), P[j].1 = L[j].1 ∧ IsTo ok w L[j].2 P[j].2)
  | [], [], _ => ⟨rfl, fun j h => absurd h (by simp)⟩
  | p :: P, a :: L, h => by
    have ih := RelP.to h.2
    refine ⟨by simp [ih.1], fun j h1 h2 => ?_⟩
    cases j with
    | zero => exact h.1
    | succ j => exact ih.2 j (by simpa using h1) (by simpa using h2)
def insA (L : List AT) (x : AT) : List AT := match L.findIdx? (fun b => gtB b.1 x.1) with
  | some k => L.take k ++ x :: L.drop k
  | none => L ++ [x]
def nameA (t : List UInt8) : List UInt8 := (canonD t).getD t
set_option maxRecDepth 100000 in
set_option maxHeartbeats 2000000 in
theorem typeName_any (t : ByteArray) (ht : t.size ≤ 281474976710656) (w : World) : Calls Tryz.prog 66 #[.string t] w fun e w' => e = .returned (.string (ofL (nameA t.data.toList))) ∧ Below w.heap.size w w' := by
  have hc := fun w => canon_any t w
  have hcl := fun w => clone_any t w ht
  cases e : canonD t.data.toList with
  | none =>
    have hn : ofL (nameA t.data.toList) = t := bytes_ext (by rw [ofL_list]; unfold nameA; rw [e]; rfl)
    rw [hn]
    simp only [e, canonV] at hc
    have HC := Lib.hid hc
    have HCl := Lib.hid hcl
    clear hc hcl hn e
    go_enter Tryz.func66, Tryz.ntmps66
    go_wp2_with (first
      | (go_at_call 83; refine (HC.out _).mono ?_; rintro e w1 ⟨rfl, hb1⟩; have HB := Lib.hid hb1; clear hb1)
      | (go_at_call 63; refine (HCl.out _).mono ?_; rintro e w2 ⟨rfl, hb2⟩; have HB := Lib.hid (bthen HB.out hb2); clear hb2))
    go_ret
    exact ⟨rfl, HB.out⟩
  | some k =>
    have hn : nameA t.data.toList = k := by unfold nameA; rw [e]; rfl
    rw [hn]
    simp only [e, canonV] at hc
    obtain ⟨K, hK⟩ : ∃ K, K = ofL k := ⟨_, rfl⟩
    have hK2 : (⟨k.toArray⟩ : ByteArray) = K := hK.symm
    rw [← hK]
    simp only [hK2] at hc
    have HC := Lib.hid hc
    clear hc hcl hn e hK hK2
    go_enter Tryz.func66, Tryz.ntmps66
    go_wp2_with (first
      | (go_at_call 83; refine (HC.out _).mono ?_; rintro e w1 ⟨rfl, hb1⟩; have HB := Lib.hid hb1; clear hb1))
    go_ret
    exact ⟨rfl, HB.out⟩
end Go.Proofs.YtpnbcmblnplbgaaGreatDoor


namespace Go.Proofs.YtpnbcmblnplbgaaGreatDoor
open Go.RowKit
set_option linter.unusedVariables false

set_option maxRecDepth 100000 in
theorem load_any (b o : Nat) (x : Int) (w : World) (h : w.cell? ⟨b, o, none⟩ = some (.int .i64 x)) : Calls Tryz.prog 64 #[.pointer (some ⟨b, o, none⟩)] w fun e w' => e = .returned (.int .i64 x) ∧ w' = w := by
  have hl := run_call_load (P := Tryz.prog) Tryz.func95 (by kernel_rfl) (by kernel_rfl) (by kernel_rfl) .i64 (by kernel_rfl) (a := ⟨b, o, none⟩) (x := x) (w := w) h
  go_enter Tryz.func64, Tryz.ntmps64
  go_wp2
  go_ret
  exact ⟨rfl, rfl⟩
set_option maxRecDepth 100000 in
theorem add_any (b o : Nat) (x : Int) (hx : 0 ≤ x) (hx2 : x ≤ 1000000000) (w : World) (h : w.cell? ⟨b, o, none⟩ = some (.int .i64 x)) (hz : w.frozen? ⟨b, o, none⟩ = false) : Calls Tryz.prog 65 #[.pointer (some ⟨b, o, none⟩), .int .i64 1] w fun e w' => e = .returned (.int .i64 (x + 1)) ∧ w' = w.setCell ⟨b, o, none⟩ (.int .i64 (x + 1)) := by
  have hl := run_call_add (P := Tryz.prog) Tryz.func96 (by kernel_rfl) (by kernel_rfl) (by kernel_rfl) .i64 (by kernel_rfl) (a := ⟨b, o, none⟩) (x := x) (y := 1) (s := x + 1) (w := w) h hz (by
    show Sem.run _ (pure (Value.int .i64 (IntKind.i64.wrap (x + 1)))) w = _
    rw [IntKind.wrap_i64, show (x + 1 + 9223372036854775808) % 18446744073709551616 - 9223372036854775808 = x + 1 from by omega]
    rfl)
  go_enter Tryz.func65, Tryz.ntmps65
  go_wp2
  go_ret
  exact ⟨rfl, rfl⟩

theorem cmpRun (a b : ByteArray) (w : World) : (callFunc 99 #[.string a, .string b]).run Tryz.prog w = .ok (.value (.int .i64 (Extern.BytealgCompare.cmp a b))) w := by
  rw [run_callFunc_extern Tryz.func99 (by kernel_rfl) (by kernel_rfl) (by kernel_rfl) (e := Extern.BytealgCompare.compare) (by kernel_rfl)]
  rfl
def cmpL (a b : List UInt8) : Int := Extern.BytealgCompare.cmp (ofL a) (ofL b)
set_option maxRecDepth 100000 in
theorem compareS_any (a b : ByteArray) (w : World) : Calls Tryz.prog 69 #[.string a, .string b] w fun e w' => e = .returned (.int .i64 (Extern.BytealgCompare.cmp a b)) ∧ w' = w := by
  have hr := cmpRun a b
  go_enter Tryz.func69, Tryz.ntmps69
  go_wp2
  go_ret
  exact ⟨rfl, rfl⟩
set_option maxRecDepth 100000 in
theorem compare_any (a b : ByteArray) (w : World) : Calls Tryz.prog 44 #[.string a, .string b] w fun e w' => e = .returned (.int .i64 (Extern.BytealgCompare.cmp a b)) ∧ w' = w := by
  go_enter Tryz.func44, Tryz.ntmps44
  go_wp2_with (go_at_call 69; refine (compareS_any a b _).mono ?_; rintro e w2 ⟨rfl, rfl⟩)
  go_ret
  exact ⟨rfl, rfl⟩
set_option maxRecDepth 100000 in
set_option maxHeartbeats 1000000 in
theorem typesCmp_any (X Y : ByteArray) (u v : Value) (w : World) : Calls Tryz.prog 43 #[.agg #[.string X, u], .agg #[.string Y, v]] w fun e w' => e = .returned (.int .i64 (Extern.BytealgCompare.cmp X Y)) ∧ Below w.heap.size w w' := by
  have hb : Below w.heap.size w ((w.alloc (.cells #[.string X, u] 56)).alloc (.cells #[.string Y, v] 56)) := ((Below.refl _ _).alloc (Nat.le_refl _) _).alloc (by simp) _
  have HB := Lib.hid hb
  clear hb
  go_enter Tryz.func43, Tryz.ntmps43
  go_wp2_with (go_at_call 44; refine (compare_any X Y _).mono ?_; rintro e w2 ⟨rfl, rfl⟩)
  go_ret
  exact ⟨rfl, HB.out⟩
end Go.Proofs.YtpnbcmblnplbgaaGreatDoor


namespace Go.Proofs.YtpnbcmblnplbgaaGreatDoor
open Go.RowKit
set_option linter.unusedVariables false

theorem raceDisable (w : World) : (callFunc 191 #[]).run Tryz.prog w = .ok (.value (.tuple #[])) w := run_call_mark0 Tryz.func191 (by kernel_rfl) (by kernel_rfl) (by kernel_rfl) .disable (by kernel_rfl) w
theorem raceEnable (w : World) : (callFunc 193 #[]).run Tryz.prog w = .ok (.value (.tuple #[])) w := run_call_mark0 Tryz.func193 (by kernel_rfl) (by kernel_rfl) (by kernel_rfl) .enable (by kernel_rfl) w
theorem raceAcquire (a : Addr) (w : World) : (callFunc 194 #[.pointer (some a)]).run Tryz.prog w = .ok (.value (.tuple #[])) w := run_call_marked Tryz.func194 (by kernel_rfl) (by kernel_rfl) (by kernel_rfl) .acquire (by kernel_rfl) a w
theorem raceRelease (a : Addr) (w : World) : (callFunc 196 #[.pointer (some a)]).run Tryz.prog w = .ok (.value (.tuple #[])) w := run_call_marked Tryz.func196 (by kernel_rfl) (by kernel_rfl) (by kernel_rfl) .releaseMerge (by kernel_rfl) a w

theorem storeTrue (a : Addr) (x : Value) (u : FrameMode) (w : World) (hc : w.cell? a = some x) (hz : w.frozen? a = false) :
    CallsD Tryz.prog 150 #[.pointer (some a), .bool true] u w fun e u' w' => u' = u ∧ (e = .returned (.tuple #[]) ∧ w' = w.drew.setCell a (.int .u32 1)) := by
  have hc' : w.drew.cell? a = some x := by go_simp
  have hz' : w.drew.frozen? a = false := by go_simp
  have hst := run_call_store (P := Tryz.prog) Tryz.func172 (by kernel_rfl) (by kernel_rfl) (by kernel_rfl) (by kernel_rfl) (k := .u32) (y := 1) hc' hz'
  go_enter_d Tryz.func150, Tryz.ntmps150
  go_wp2
  go_region_calls
  all_goals (go_end0; exact ⟨rfl, rfl⟩)

set_option maxRecDepth 100000 in
set_option maxHeartbeats 1600000 in
theorem unlockHeld (a : Addr) (u : FrameMode) (w : World) (hc : w.cell? a = some (.int .i32 1)) (hz : w.frozen? a = false) :
    CallsD Tryz.prog 149 #[.pointer (some a)] u w fun e u' w' => u' = u ∧ (e = .returned (.tuple #[]) ∧ w' = w.setCell a (.int .i32 0)) := by
  have hd := raceDisable
  have he := raceEnable
  have hr := raceRelease
  have hadd := run_call_add (P := Tryz.prog) Tryz.func197 (by kernel_rfl) (by kernel_rfl) (by kernel_rfl) .i32 (by kernel_rfl) (y := -1) (s := 0) hc hz (by simp [go_sem]; rfl)
  have hcv := run_convert_to_unsafe (P := Tryz.prog) (src := 237) (dst := 200) Tryz.underlying237 Tryz.underlying200 (by kernel_rfl) hc
  go_enter_d Tryz.func149, Tryz.ntmps149
  go_wp2
  go_end0
  go_wp2
  go_end0
  exact ⟨rfl, rfl⟩

set_option maxRecDepth 100000 in
set_option maxHeartbeats 1600000 in
theorem lockFree (a : Addr) (w : World) (hc : w.cell? a = some (.int .i32 0)) (hz : w.frozen? a = false) :
    Calls Tryz.prog 148 #[.pointer (some a)] w fun e w' => e = .returned (.tuple #[]) ∧ w' = w.setCell a (.int .i32 1) := by
  have hd := raceDisable
  have he := raceEnable
  have ha := raceAcquire
  have hcas := run_call_cas_hit (P := Tryz.prog) Tryz.func192 (by kernel_rfl) (by kernel_rfl) (by kernel_rfl) .i32 (by kernel_rfl) (y := 1) hc hz
  have hc' : (w.setCell a (.int .i32 1)).cell? a = some (.int .i32 1) := World.cell?_setCell_same w a _ hc
  have hcv := run_convert_to_unsafe (P := Tryz.prog) (src := 237) (dst := 200) Tryz.underlying237 Tryz.underlying200 (by kernel_rfl) hc'
  go_enter Tryz.func148, Tryz.ntmps148
  go_wp2
  first | go_end0 | (simp only [Exit.inBlock, Exit.then]; refine bodyPost_ret (results_none rfl _ _ _) rfl ?_) | refine bodyPost_ret (results_none rfl _ _ _) rfl ?_
  go_wp2
  go_end0
  exact ⟨rfl, rfl⟩

def BoxX (w : World) (b : Nat) (lv : Value) (d s : Int) (kv mv : Value) : Prop := w.heap[b]? = some (.cells #[lv, .int .u32 d, .int .i32 s, .int .u32 0, kv, mv] 121 (0, 0))
theorem BoxX.lt {w : World} {b : Nat} {lv kv mv : Value} {d s : Int} (h : BoxX w b lv d s kv mv) : b < w.heap.size := (Array.getElem?_eq_some_iff.1 h).1
theorem BoxX.cells {w : World} {b : Nat} {lv kv mv : Value} {d s : Int} (h : BoxX w b lv d s kv mv) : w.cell? ⟨b, 0, none⟩ = some lv ∧ w.cell? ⟨b, 1, none⟩ = some (.int .u32 d) ∧ w.cell? ⟨b, 2, none⟩ = some (.int .i32 s) ∧ w.cell? ⟨b, 4, none⟩ = some kv ∧ w.cell? ⟨b, 5, none⟩ = some mv := by
  unfold BoxX at h
  simp [World.cell?, h]
theorem BoxX.free {w : World} {b : Nat} {lv kv mv : Value} {d s : Int} (h : BoxX w b lv d s kv mv) (i : Nat) : w.frozen? ⟨b, i, none⟩ = false := by
  unfold BoxX at h
  simp [World.frozen?, h]
theorem BoxX.same {w w' : World} {b : Nat} {lv kv mv : Value} {d s : Int} (h : BoxX w b lv d s kv mv) (hb : w'.heap[b]? = w.heap[b]?) : BoxX w' b lv d s kv mv := hb.trans h
theorem BoxX.below {w w' : World} {b : Nat} {lv kv mv : Value} {d s : Int} (h : BoxX w b lv d s kv mv) (hb : Below w.heap.size w w') : BoxX w' b lv d s kv mv := h.same (hb.block _ h.lt)
theorem BoxX.drew {w : World} {b : Nat} {lv kv mv : Value} {d s : Int} (h : BoxX w b lv d s kv mv) : BoxX w.drew b lv d s kv mv := h
theorem BoxX.set1 {w : World} {b : Nat} {lv kv mv : Value} {d s x : Int} (h : BoxX w b lv d s kv mv) : BoxX (w.setCell ⟨b, 1, none⟩ (.int .u32 x)) b lv x s kv mv := by
  unfold BoxX at h ⊢
  simp [World.setCell, Array.getElem?_modify, h]
theorem BoxX.set2 {w : World} {b : Nat} {lv kv mv : Value} {d s x : Int} (h : BoxX w b lv d s kv mv) : BoxX (w.setCell ⟨b, 2, none⟩ (.int .i32 x)) b lv d x kv mv := by
  unfold BoxX at h ⊢
  simp [World.setCell, Array.getElem?_modify, h]
theorem BoxX.set4 {w : World} {b : Nat} {lv kv mv x : Value} {d s : Int} (h : BoxX w b lv d s kv mv) : BoxX (w.setCell ⟨b, 4, none⟩ x) b lv d s x mv := by
  unfold BoxX at h ⊢
  simp [World.setCell, Array.getElem?_modify, h]
theorem BoxX.set5 {w : World} {b : Nat} {lv kv mv x : Value} {d s : Int} (h : BoxX w b lv d s kv mv) : BoxX (w.setCell ⟨b, 5, none⟩ x) b lv d s kv x := by
  unfold BoxX at h ⊢
  simp [World.setCell, Array.getElem?_modify, h]
theorem grown_set {w : World} {b i : Nat} (x : Value) : w.grownBy (w.setCell ⟨b, i, none⟩ x) (some b) :=
  ⟨rfl, rfl, rfl, by simp [World.setCell], fun k _ hk => Below.heap_setCell _ _ _ _ (fun e => hk (by rw [e]))⟩
theorem grown_drew {w w' : World} {r : Option Nat} (h : w.grownBy w' r) : w.grownBy w'.drew r := ⟨h.os, h.tape, h.output, h.size, h.block⟩
theorem grown_below {w w' : World} {r : Option Nat} (h : Below w.heap.size w w') : w.grownBy w' r := ⟨h.os, h.tape, h.output, h.size, fun k hk _ => h.block k hk⟩
theorem below_ofGrown {w w' : World} {b : Nat} (h : w.grownBy w' (some b)) (hb : b ≤ w.heap.size) : Below b w w' := ⟨h.os, h.tape, h.output, h.size, fun k hk => h.block k (by omega) (fun e => by have := Option.some.inj e; omega)⟩

set_option maxRecDepth 100000 in
set_option maxHeartbeats 1600000 in
theorem slowX_any (b : Nat) (lv : Value) (Q : World → Value → Value → Prop) (w : World) (hbx : BoxX w b lv 0 0 (.slice none 0 0) (.map none))
    (hf : ∀ w1, BoxX w1 b lv 0 1 (.slice none 0 0) (.map none) → w.grownBy w1 (some b) → w1.heap.size = w.heap.size → Calls Tryz.prog 106 #[.pointer (some ⟨b, 0, none⟩)] w1 fun e w' => e = .returned (.tuple #[]) ∧ ∃ kv mv, BoxX w' b lv 0 1 kv mv ∧ Q w' kv mv ∧ w1.grownBy w' (some b)) :
    Calls Tryz.prog 130 #[.pointer (some ⟨b, 1, none⟩), .func (.func 106) #[.pointer (some ⟨b, 0, none⟩)] #[]] w fun e w' => e = .returned (.tuple #[]) ∧
      ∃ w3 kv mv, w' = ((w3.drew.setCell ⟨b, 1, none⟩ (.int .u32 1)).setCell ⟨b, 2, none⟩ (.int .i32 0)) ∧ BoxX w3 b lv 0 1 kv mv ∧ Q w3 kv mv ∧ w.grownBy w3 (some b) := by
  obtain ⟨c0, c1, c2, c4, c5⟩ := hbx.cells
  have hb1 : BoxX (w.setCell ⟨b, 2, none⟩ (.int .i32 1)) b lv 0 1 (.slice none 0 0) (.map none) := hbx.set2
  have hl := run_call_load (P := Tryz.prog) Tryz.func147 (by kernel_rfl) (by kernel_rfl) (by kernel_rfl) .u32 (by kernel_rfl) (w := w.setCell ⟨b, 2, none⟩ (.int .i32 1)) (a := ⟨b, 1, none⟩) (x := 0) hb1.cells.2.1
  have HF := Lib.hid (hf _ hb1 (grown_set _) (by simp [World.setCell]))
  have hz1 := hbx.free 1
  have hz2 := hbx.free 2
  have HG1 := Lib.hid (grown_set (w := w) (b := b) (i := 2) (.int .i32 1))
  clear hf hb1 c0 c1 c4 c5
  have hnot : ∀ (x : Bool) (w : World), (Op.unary .not (.bool x)).run Tryz.prog w = .ok (.bool (!x)) w := fun _ _ => rfl
  go_enter_defers Tryz.func130, Tryz.ntmps130
  go_wp2_with (first
    | (go_at_call 148; refine (lockFree ⟨b, 2, none⟩ _ c2 hz2).mono ?_; rintro e w' ⟨rfl, rfl⟩)
    | (go_at_call 106; refine (HF.out).mono ?_; rintro e w3 ⟨rfl, kv, mv, hbx3, hq3, hg3⟩)
    | (go_at_call 129; go_in))
  refine leaves_cons (f := 150) (args := #[.pointer (some ⟨b, 1, none⟩), .bool true]) (by simp) (by simp [go_sem]) ?_
  refine (storeTrue ⟨b, 1, none⟩ (.int .u32 0) .returning _ hbx3.cells.2.1 (hbx3.free 1)).mono ?_
  rintro e u' w'' ⟨rfl, rfl, rfl⟩
  refine leaves_cons (f := 149) (args := #[.pointer (some ⟨b, 2, none⟩)]) (by simp [settle]) (by simp [go_sem]) ?_
  refine (unlockHeld ⟨b, 2, none⟩ _ _ hbx3.drew.set1.cells.2.2.1 (hbx3.drew.set1.free 2)).mono ?_
  rintro e u' w'' ⟨rfl, rfl, rfl⟩
  have HE : Hid (∃ w4 kv mv, ((w3.drew.setCell ⟨b, 1, none⟩ (.int .u32 1)).setCell ⟨b, 2, none⟩ (.int .i32 0)) = ((w4.drew.setCell ⟨b, 1, none⟩ (.int .u32 1)).setCell ⟨b, 2, none⟩ (.int .i32 0)) ∧ BoxX w4 b lv 0 1 kv mv ∧ Q w4 kv mv ∧ w.grownBy w4 (some b)) := Lib.hid ⟨w3, kv, mv, rfl, hbx3, hq3, HG1.out.trans hg3⟩
  simp only [Leaves, settle, results, Tryz.results130]
  first | exact ⟨rfl, HE.out⟩ | simpa using HE.out

set_option maxRecDepth 100000 in
set_option maxHeartbeats 1600000 in
theorem doX_first (b : Nat) (lv : Value) (Q : World → Value → Value → Prop) (w : World) (hbx : BoxX w b lv 0 0 (.slice none 0 0) (.map none))
    (hf : ∀ w1, BoxX w1 b lv 0 1 (.slice none 0 0) (.map none) → w.grownBy w1 (some b) → w1.heap.size = w.heap.size → Calls Tryz.prog 106 #[.pointer (some ⟨b, 0, none⟩)] w1 fun e w' => e = .returned (.tuple #[]) ∧ ∃ kv mv, BoxX w' b lv 0 1 kv mv ∧ Q w' kv mv ∧ w1.grownBy w' (some b)) :
    Calls Tryz.prog 105 #[.pointer (some ⟨b, 1, none⟩), .func (.func 106) #[.pointer (some ⟨b, 0, none⟩)] #[]] w fun e w' => e = .returned (.tuple #[]) ∧
      ∃ w3 kv mv, w' = ((w3.drew.setCell ⟨b, 1, none⟩ (.int .u32 1)).setCell ⟨b, 2, none⟩ (.int .i32 0)) ∧ BoxX w3 b lv 0 1 kv mv ∧ Q w3 kv mv ∧ w.grownBy w3 (some b) := by
  have hl := run_call_load (P := Tryz.prog) Tryz.func147 (by kernel_rfl) (by kernel_rfl) (by kernel_rfl) .u32 (by kernel_rfl) hbx.cells.2.1
  have HS := Lib.hid (slowX_any b lv Q w hbx hf)
  clear hf hbx
  have hnot : ∀ (x : Bool) (w : World), (Op.unary .not (.bool x)).run Tryz.prog w = .ok (.bool (!x)) w := fun _ _ => rfl
  go_enter Tryz.func105, Tryz.ntmps105
  go_wp2_with (first | (go_at_call 130; refine (HS.out).mono ?_; rintro e w2 ⟨rfl, h2⟩; have H2 := Lib.hid h2; clear h2) | (go_at_call 129; go_in))
  go_end0
  exact ⟨rfl, H2.out⟩

theorem doX_done (a : Addr) (fv : Value) (w : World) (h0 : w.cell? a = some (.int .u32 1)) :
    Calls Tryz.prog 105 #[.pointer (some a), fv] w fun e w' => e = .returned (.tuple #[]) ∧ w' = w := by
  have hl := run_call_load (P := Tryz.prog) Tryz.func147 (by kernel_rfl) (by kernel_rfl) (by kernel_rfl) .u32 (by kernel_rfl) h0
  have hnot : ∀ (x : Bool) (w : World), (Op.unary .not (.bool x)).run Tryz.prog w = .ok (.bool (!x)) w := fun _ _ => rfl
  go_enter Tryz.func105, Tryz.ntmps105
  go_wp2
  go_end0
  exact ⟨rfl, rfl⟩
end Go.Proofs.YtpnbcmblnplbgaaGreatDoor


namespace Go.Proofs.YtpnbcmblnplbgaaGreatDoor
open Go.RowKit
set_option linter.unusedVariables false

def valsS (L : List AT) (t : List UInt8) : List (List UInt8) := match L.find? (fun a => a.1 == t) with
  | some a => a.2
  | none => []
def hasS (L : List AT) (t : List UInt8) : Bool := decide (0 < (valsS L t).length)
def mostS (t : List UInt8) : Int := if t = [117, 105, 100, 110, 117, 109, 98, 101, 114] then 1 else 40
theorem valsS_at {L : List AT} {t : List UInt8} (j : Nat) (hj : j < L.length) (h : ∀ k (hk : k < L.length), k < j → L[k].1 ≠ t) (he : L[j].1 = t) : valsS L t = L[j].2 := by
  have : L.find? (fun a => a.1 == t) = some L[j] := by
    induction L generalizing j with
    | nil => simp at hj
    | cons x l ih =>
      cases j with
      | zero => rw [List.find?_cons_of_pos (by simpa using he)]; rfl
      | succ j =>
        have h0 := h 0 (by simp) (by omega)
        rw [List.find?_cons_of_neg (by simpa using h0)]
        exact ih j (by simpa using hj) (fun k hk hkj => h (k + 1) (by simpa using hk) (by omega)) he
  unfold valsS; rw [this]
theorem valsS_no {L : List AT} {t : List UInt8} (h : ∀ k (hk : k < L.length), L[k].1 ≠ t) : valsS L t = [] := by
  have : L.find? (fun a => a.1 == t) = none := by
    rw [List.find?_eq_none]
    intro a ha
    obtain ⟨k, hk, rfl⟩ := List.getElem_of_mem ha
    simpa using h k hk
  unfold valsS; rw [this]

set_option maxRecDepth 100000 in
set_option maxHeartbeats 2000000 in
theorem valsOf_any (L : List AT) (hs : L.length ≤ 1000) (v : Value) (t : ByteArray) (w : World) (h : IsA w.heap.size w L v) :
    Calls Tryz.prog 87 #[v, .string t] w fun e w' => ∃ u, e = .returned u ∧ IsT w.heap.size w (valsS L t.data.toList) u ∧ Below w.heap.size w w' := by
  obtain ⟨a, c, rfl, hm, hcell⟩ := h
  unfold maxLen at hm
  have HC := Lib.hid hcell
  clear hcell
  go_enter Tryz.func87, Tryz.ntmps87
  go_wp2
  go_loopw [9] (fun i wr => ∃ j : Nat, j ≤ L.length ∧ i = .int .i64 j ∧ Hid (∀ k (hk : k < L.length), k < j → L[k].1 ≠ t.data.toList) ∧ Below w.heap.size w wr) (fun i wr => L.length - (intOf i).toNat)
  case atStart => exact ⟨0, by omega, rfl, Lib.hid (fun k _ h => absurd h (by omega)), Below.refl _ _⟩
  case round =>
    obtain ⟨j, hj, rfl, HNo, hbel⟩ := hrel
    have HBel := Lib.hid hbel
    have hbs := hbel.size
    by_cases hlt : j < L.length
    · have t1 : decide ((j : Int) < (L.length : Int)) = true := by simp; omega
      have t1' : decide (j < L.length) = true := by simpa using hlt
      obtain ⟨b, off, u, rfl, hb0, c0, c1, ht⟩ := HC.out j hlt
      obtain ⟨ua, uc, hu, _⟩ := id ht
      obtain ⟨un, hun⟩ : ∃ n, n = L[j].2.length := ⟨_, rfl⟩
      rw [← hun] at hu
      subst hu
      clear hun
      have HT := Lib.hid ht
      obtain ⟨X, hX⟩ : ∃ X : ByteArray, ⟨L[j].1.toArray⟩ = X := ⟨_, rfl⟩
      have hXl : X.data.toList = L[j].1 := by rw [← hX]
      have d0 : (wr.cell? ⟨b, off + j * 2, none⟩) = some (.string X) := by
        rw [hbel.cell (p := ⟨b, _, none⟩) hb0, c0, ← hX]; rfl
      have d1 := (hbel.cell (p := ⟨b, off + j * 2 + 1, none⟩) hb0).trans c1
      have HXl := Lib.hid hXl
      have HA := Lib.hid (Below.alloc hbel hbs (.cells #[.string X, .slice ua un uc] 56))
      clear hX hXl c0 c1 hbel ht
      by_cases he : X = t
      · subst he
        have HR := Lib.hid (valsS_at j hlt HNo.out HXl.out.symm)
        go_wp2
        go_ret
        exact ⟨_, rfl, by rw [HR.out]; exact HT.out, HA.out⟩
      · have t2 := str_ne he
        have HN : Hid (∀ k (hk : k < L.length), k < j + 1 → L[k].1 ≠ t.data.toList) := Lib.hid (fun k h1 h3 => by
            by_cases hk : k < j
            · exact HNo.out k h1 hk
            · obtain rfl : k = j := by omega
              rw [← HXl.out]
              exact fun e => he (bytes_ext e))
        clear he
        go_wp2
        go_roundw
        case rel => exact ⟨j + 1, by omega, by go_num, HN, HA.out⟩
        case measure => simp [intOf]; omega
    · obtain rfl : j = L.length := by omega
      have t1 : decide ((L.length : Int) < (L.length : Int)) = false := by simp
      have t1' : decide (L.length < L.length) = false := by simp
      have HR := Lib.hid (valsS_no (t := t.data.toList) (fun k hk => HNo.out k hk hk))
      clear hbel
      go_wp2
      go_ret
      exact ⟨_, rfl, by rw [HR.out]; exact isT_nil _ _ _ _, HBel.out⟩

set_option maxRecDepth 100000 in
set_option maxHeartbeats 2000000 in
theorem hasS_any (L : List AT) (hs : L.length ≤ 1000) (v : Value) (t : ByteArray) (w : World) (h : IsA w.heap.size w L v) :
    Calls Tryz.prog 84 #[v, .string t] w fun e w' => e = .returned (.bool (hasS L t.data.toList)) ∧ Below w.heap.size w w' := by
  have hv := valsOf_any L hs v t w h
  obtain ⟨sa, sc, hsv, _⟩ := h
  obtain ⟨sn, hsn⟩ : ∃ n, n = L.length := ⟨_, rfl⟩
  rw [← hsn] at hsv
  subst hsv
  have HV := Lib.hid hv
  clear hv hsn
  go_enter Tryz.func84, Tryz.ntmps84
  go_wp2_with (go_at_call 87; refine (HV.out).mono ?_; rintro e w2 ⟨u, rfl, hu, hb2⟩; (obtain ⟨ua, uc, rfl, _⟩ := hu); have HB2 := Lib.hid hb2; clear hb2)
  go_ret
  exact ⟨by unfold hasS; congr 2, HB2.out⟩

set_option maxRecDepth 100000 in
theorem most_any (t : ByteArray) (w : World) : Calls Tryz.prog 112 #[.string t] w fun e w' => e = .returned (.int .i64 (mostS t.data.toList)) ∧ w' = w := by
  by_cases he : t = ⟨#[117, 105, 100, 110, 117, 109, 98, 101, 114]⟩
  · subst he
    go_enter Tryz.func112, Tryz.ntmps112
    go_wp2
    go_ret
    exact ⟨rfl, rfl⟩
  · have t1 := str_ne he
    have t2 : (t.toList == [117, 105, 100, 110, 117, 109, 98, 101, 114]) = false := by
      rw [← t1]; congr 1; rw [ByteArray.toList_eq]
    have hm : mostS t.data.toList = 40 := by
      unfold mostS
      rw [if_neg (fun e => he (bytes_ext e))]
    rw [hm]
    clear he t1 hm
    go_enter Tryz.func112, Tryz.ntmps112
    go_wp2
    go_ret
    exact ⟨rfl, rfl⟩
end Go.Proofs.YtpnbcmblnplbgaaGreatDoor


namespace Go.Proofs.YtpnbcmblnplbgaaGreatDoor
open Go.RowKit
set_option linter.unusedVariables false

def LaidW (w : World) : Prop := (∃ tp p, w.var? Tryz.prog "strconv.ErrSyntax" = some #[.iface tp p]) ∧ (∃ tp p, w.var? Tryz.prog "strconv.ErrRange" = some #[.iface tp p]) ∧ Lib.TabIs Tryz.prog w "internal/strconv.uint64pow10" .u64 Lib.pow10Tab
theorem LaidW.below {w w' : World} (h : LaidW w) (hb : Below w.heap.size w w') : LaidW w' := by
  obtain ⟨⟨t1, p1, h1⟩, ⟨t2, p2, h2⟩, h3⟩ := h
  exact ⟨⟨t1, p1, Joins.var_stays (g := 3) (by kernel_rfl) h1 hb (Nat.le_refl _)⟩, ⟨t2, p2, Joins.var_stays (g := 4) (by kernel_rfl) h2 hb (Nat.le_refl _)⟩, Joins.tab_stays (g := 5) (by kernel_rfl) h3 hb (Nat.le_refl _)⟩
theorem LaidW.drew {w : World} (h : LaidW w) (n : Nat) : LaidW (w.drewN n) := h.below ⟨rfl, rfl, rfl, Nat.le_refl _, fun _ _ => rfl⟩

theorem parseI_ok (s : ByteArray) (hs : s.size ≤ 281474976710656) (v : Int) (h : Lib.parseIntB 64 s.data.toList = .ok v) (w : World) :
    Calls Tryz.prog 153 #[.string s, .int .i64 10, .int .i64 64] w fun e w' => e = .returned (.tuple #[.int .i64 v, .nilIface]) ∧ Below w.heap.size w w' :=
  (Tryz.strconv_ParseInt_10_at64_ok s (by omega) v h w).mono fun e w' ⟨he, hw⟩ => ⟨he, by rcases hw with rfl | ⟨t, rfl⟩; exact Below.refl _ _; exact Lib.bytesWorld_below _ _ _⟩
theorem parseI_bad (s : ByteArray) (hs : s.size ≤ 281474976710656) (h : ∀ v, Lib.parseIntB 64 s.data.toList ≠ .ok v) (w : World) (hw : LaidW w) :
    Calls Tryz.prog 153 #[.string s, .int .i64 10, .int .i64 64] w fun e w' => ∃ v t N, (e = .returned (.tuple #[.int .i64 v, .iface t (.pointer (some ⟨N, 0, none⟩))])) ∧ Below w.heap.size w w' := by
  obtain ⟨⟨t1, p1, h1⟩, ⟨t2, p2, h2⟩, h3⟩ := hw
  cases e : Lib.parseIntB 64 s.data.toList with
  | ok v => exact absurd e (h v)
  | «syntax» => exact (Tryz.strconv_ParseInt_10_at64_syntax_var s hs e t1 p1 w h1).mono fun e w' ⟨N, he, _, _, hb⟩ => ⟨_, _, N, he, hb⟩
  | range => exact (Tryz.strconv_ParseInt_10_at64_range_var s hs e t2 p2 w h2).mono fun e w' ⟨N, he, _, _, hb⟩ => ⟨_, _, N, he, hb⟩
theorem fmt_any (v : Int) (h0 : -9223372036854775808 ≤ v) (h1 : v ≤ 9223372036854775807) (w : World) (hw : LaidW w) :
    Calls Tryz.prog 154 #[.int .i64 v, .int .i64 10] w fun e w' => e = .returned (.string ⟨(Lib.itoa v).toArray⟩) ∧ Below w.heap.size w w' :=
  (Tryz.strconv_FormatInt_10 v h0 h1 w hw.2.2).mono fun e w' ⟨he, k, os, hw⟩ => ⟨he, by subst hw; exact Lib.below_grow _ _ (Nat.le_refl _) k os⟩

def numV (o : Option Int) : Value := match o with
  | some v => .tuple #[.int .i64 v, .bool true]
  | none => .tuple #[.int .i64 0, .bool false]

set_option maxRecDepth 100000 in
set_option maxHeartbeats 1000000 in
theorem number_any (s : ByteArray) (hs : s.size ≤ 281474976710656) (w : World) (hw : LaidW w) :
    Calls Tryz.prog 135 #[.string s] w fun e w' => e = .returned (numV (numD s.data.toList)) ∧ Below w.heap.size w w' := by
  have htr := fun w => Tryz.strings_TrimPrefix s ⟨#[45]⟩ w
  obtain ⟨T, hT⟩ : ∃ T : ByteArray, T = ⟨(Lib.trimPrefix s.data.toList (⟨#[45]⟩ : ByteArray).data.toList).toArray⟩ := ⟨_, rfl⟩
  have hTl : (Lib.trimPrefix s.data.toList [45]).length = T.size := by rw [hT, ← bytes_len]
  rw [← hT] at htr
  have HTr := Lib.hid htr
  clear hT htr
  unfold numD
  rw [hTl]
  clear hTl
  have HW := Lib.hid hw
  clear hw
  by_cases h15 : T.size ≤ 15
  · rw [if_pos h15]
    have t0 : decide ((15 : Int) < (T.size : Int)) = false := by simp; omega
    by_cases hok : ∃ v, Lib.parseIntB 64 s.data.toList = .ok v
    · obtain ⟨v, hv⟩ := hok
      have hb := Lib.atoiAll_bounds (by rw [← Lib.parseIntB_64]; exact hv)
      have hp := fun w => parseI_ok s hs v hv w
      have hf := fun w => fmt_any v hb.1 hb.2 w
      obtain ⟨F, hF⟩ : ∃ F : ByteArray, F = ⟨(Lib.itoa v).toArray⟩ := ⟨_, rfl⟩
      have hFl : Lib.itoa v = F.data.toList := by rw [hF]
      rw [← hF] at hf
      rw [hv]
      simp only [okN, hFl]
      have HP := Lib.hid hp
      have HF := Lib.hid hf
      clear hv hb hp hf hF hFl
      by_cases he : F = s
      · subst he
        rw [if_pos rfl]
        go_enter Tryz.func135, Tryz.ntmps135
        go_wp2_with (first | (go_at_call 152; refine (HTr.out _).mono ?_; rintro e w1 ⟨rfl, rfl⟩) | (go_at_call 153; refine (HP.out _).mono ?_; rintro e w2 ⟨rfl, hb2⟩; have HB2 := Lib.hid hb2; clear hb2) | (go_at_call 154; refine (HF.out _ (HW.out.below HB2.out)).mono ?_; rintro e w3 ⟨rfl, hb3⟩; have HB3 := Lib.hid (bthen HB2.out hb3); clear hb3))
        go_ret2
        exact ⟨rfl, HB3.out⟩
      · have hn : ¬ F.data.toList = s.data.toList := fun e => he (bytes_ext e)
        rw [if_neg hn]
        have t1 := str_ne he
        have HN := Lib.hid hn
        clear hn he
        go_enter Tryz.func135, Tryz.ntmps135
        go_wp2_with (first | (go_at_call 152; refine (HTr.out _).mono ?_; rintro e w1 ⟨rfl, rfl⟩) | (go_at_call 153; refine (HP.out _).mono ?_; rintro e w2 ⟨rfl, hb2⟩; have HB2 := Lib.hid hb2; clear hb2) | (go_at_call 154; refine (HF.out _ (HW.out.below HB2.out)).mono ?_; rintro e w3 ⟨rfl, hb3⟩; have HB3 := Lib.hid (bthen HB2.out hb3); clear hb3))
        go_ret2
        exact ⟨rfl, HB3.out⟩
    · have hno : ∀ v, Lib.parseIntB 64 s.data.toList ≠ .ok v := fun v e => hok ⟨v, e⟩
      have hp := fun w => parseI_bad s hs hno w
      have hv : okN (Lib.parseIntB 64 s.data.toList) s.data.toList = none := by
        cases e : Lib.parseIntB 64 s.data.toList with
        | ok v => exact absurd e (hno v)
        | «syntax» => rfl
        | range => rfl
      rw [hv]
      have HP := Lib.hid hp
      clear hv hp hno hok
      go_enter Tryz.func135, Tryz.ntmps135
      go_wp2_with (first | (go_at_call 152; refine (HTr.out _).mono ?_; rintro e w1 ⟨rfl, rfl⟩) | (go_at_call 153; refine (HP.out _ HW.out).mono ?_; rintro e w2 ⟨v, t, N, rfl, hb2⟩; have HB2 := Lib.hid hb2; clear hb2))
      go_ret2
      exact ⟨rfl, HB2.out⟩
  · rw [if_neg h15]
    have t0 : decide ((15 : Int) < (T.size : Int)) = true := by simp; omega
    go_enter Tryz.func135, Tryz.ntmps135
    go_wp2_with (go_at_call 152; refine (HTr.out _).mono ?_; rintro e w1 ⟨rfl, rfl⟩)
    go_ret2
    exact ⟨rfl, Below.refl _ _⟩
end Go.Proofs.YtpnbcmblnplbgaaGreatDoor

