/- match.lowered, allTypes, find, Rule, Canon: the walks. -/
import Derived.Test.YtlimajgmdhhggaaGreatDoorMaPure
import Derived.Test.YtlimajgmdhhggaaGreatDoorDnLib
import Derived.Test.YtlimajgmdhhggaaGreatDoorOfL
import Derived.Laws.Tables
import Derived.Great.BuildSlice
import Derived.Laws.CopyOwn
import Derived.Deep.WholeRow
namespace Go.Proofs.YtlimajgmdhhggaaGreatDoor
open Go.RowKit
set_option linter.unusedVariables false

set_option maxRecDepth 100000 in
set_option maxHeartbeats 1000000 in
theorem lowered_any (s : ByteArray) (w : World) (hs : s.size ≤ 281474976710656) :
    Calls Tryz.prog 164 #[.string s] w fun e w' => e = .returned (.string (lowB s)) ∧ Below w.heap.size w w' := by
  have hcv := fun w => Lib.run_convert_string_bytes (P := Tryz.prog) w 9 43 5 s Tryz.underlying9 Tryz.underlying43 Tryz.underlying5
  go_enter Tryz.func164, Tryz.ntmps164
  go_wp2
  clear hcv
  generalize grownCap w s.size 0 5 = cap
  go_loopw [10] (fun i wr => ∃ j : Nat, j ≤ s.size ∧ i = .int .i64 j ∧ LowAt w s j wr) (fun i _ => s.size - (intOf i).toNat)
  case atStart => exact ⟨0, by omega, rfl, lowAt_start w s⟩
  case round =>
    obtain ⟨j, hj, rfl, hlow⟩ := hrel
    by_cases hlt : j < s.size
    · have t1 : decide ((j : Int) < (s.size : Int)) = true := by simp; omega
      obtain ⟨c0, f0⟩ := hlow.cell hlt
      obtain ⟨c, hc⟩ : ∃ c : UInt8, c = s[j] := ⟨_, rfl⟩
      rw [← hc] at c0
      have hcl := c.toNat_lt
      have HLow := Lib.hid hlow
      clear hlow
      by_cases h1 : 65 ≤ c.toNat
      · have t2 : decide ((65 : Int) ≤ (c.toNat : Int)) = true := by simp; omega
        by_cases h2 : c.toNat ≤ 90
        · have t3 : decide ((c.toNat : Int) ≤ 90) = true := by simp; omega
          have HSt := Lib.hid (HLow.out.store hlt ((c.toNat : Int) + 97 - 65) (by rw [show (c.toNat : Int) + 97 - 65 = (c.toNat : Int) + 32 by omega, lowC_up h1 h2, hc]))
          clear hc
          go_wp2
          go_roundw
          case rel => exact ⟨j + 1, by omega, by go_num, HSt.out⟩
          case measure => simp [intOf]; omega
        · have t3 : decide ((c.toNat : Int) ≤ 90) = false := by simp; omega
          have HSt := Lib.hid (HLow.out.skip hlt (by rw [← hc]; exact lowC_no (by omega)))
          clear hc
          go_wp2
          go_roundw
          case rel => exact ⟨j + 1, by omega, by go_num, HSt.out⟩
          case measure => simp [intOf]; omega
      · have t2 : decide ((65 : Int) ≤ (c.toNat : Int)) = false := by simp; omega
        have HSt := Lib.hid (HLow.out.skip hlt (by rw [← hc]; exact lowC_no (by omega)))
        clear hc
        go_wp2
        go_roundw
        case rel => exact ⟨j + 1, by omega, by go_num, HSt.out⟩
        case measure => simp [intOf]; omega
    · obtain rfl : j = s.size := by omega
      have t1 : decide ((s.size : Int) < (s.size : Int)) = false := by simp
      have hcv := hlow.conv (cap := cap)
      have HLow := Lib.hid hlow
      clear hlow
      go_wp2
      go_ret
      exact ⟨rfl, HLow.out.1⟩

def kindCells : Array Value := #[.string { data := #[111, 98, 106, 101, 99, 116, 99, 108, 97, 115, 115] }, .int .i64 1, .string { data := #[99, 110] }, .int .i64 1, .string { data := #[115, 110] }, .int .i64 1, .string { data := #[111] }, .int .i64 1, .string { data := #[111, 117] }, .int .i64 1, .string { data := #[117, 105, 100] }, .int .i64 1, .string { data := #[109, 97, 105, 108] }, .int .i64 1, .string { data := #[100, 101, 115, 99, 114, 105, 112, 116, 105, 111, 110] }, .int .i64 1, .string { data := #[117, 105, 100, 110, 117, 109, 98, 101, 114] }, .int .i64 2, .string { data := #[109, 101, 109, 98, 101, 114] }, .int .i64 3, .string { data := #[117, 115, 101, 114, 112, 97, 115, 115, 119, 111, 114, 100] }, .int .i64 4]
def kindsV : Value := .agg kindCells
theorem kind_row : (Tryz.prog.info? 201).map (·.size) = some kindCells.size := by kernel_rfl
/-- One result, that lies in memory. -/
theorem results_one {P : Program} {fn : Func} {a : Tmp} {t : TypeId} (hr : fn.results = #[.cell a t]) {tmps : Array Value} {w : World} {v : Value} {d : Addr} (ha : tmps.getD a undef = .pointer (some d)) (hl : (loadVar t d).run P w = .ok v w) :
    (results fn tmps).run P w = .ok v w := by
  unfold results
  have ha' : tmps[a]?.getD undef = .pointer (some d) := by simpa using ha
  simp [hr, ha', asAddr, hl]

set_option maxRecDepth 100000 in
set_option maxHeartbeats 1000000 in
theorem allTypes_any (w : World) : Calls Tryz.prog 165 #[] w fun e w' => e = .returned kindsV ∧ Below w.heap.size w w' := by
  have hld := run_loadVar_new (P := Tryz.prog) w 201 kindCells 11 177 Tryz.underlying201 kind_row
  go_enter Tryz.func165, Tryz.ntmps165
  go_wp2_with (first | (refine wpList_buildTo rfl 201 _ rfl (some 12) rfl kindCells (by kernel_rfl) ?_) | (refine wpList_store_row rfl 201 (.tmp 0) (.tmp 12) rfl w.heap.size kindCells rfl rfl 201 _ (Array.getElem?_push_size ..) (by kernel_rfl) (by kernel_rfl) (by kernel_rfl) ?_; rw [World.setRow_alloc_new]))
  refine bodyPost_ret (v := kindsV) ?_ rfl ⟨rfl, (Below.refl _ _).alloc (Nat.le_refl _) _⟩
  exact results_one rfl rfl hld

theorem kind_all (w : World) : ∀ k : Fin 11, (Instr.index 201 kindsV (.int .i64 k.1)).run Tryz.prog w = .ok (.agg #[.string ⟨(kindsL.getD k.1 ([], 0)).1.toArray⟩, .int .i64 (kindsL.getD k.1 ([], 0)).2]) w
  | ⟨0, _⟩ => by show (Instr.index 201 kindsV (.int .i64 ((0 : Nat) : Int))).run Tryz.prog w = _; kernel_rfl
  | ⟨1, _⟩ => by show (Instr.index 201 kindsV (.int .i64 ((1 : Nat) : Int))).run Tryz.prog w = _; kernel_rfl
  | ⟨2, _⟩ => by show (Instr.index 201 kindsV (.int .i64 ((2 : Nat) : Int))).run Tryz.prog w = _; kernel_rfl
  | ⟨3, _⟩ => by show (Instr.index 201 kindsV (.int .i64 ((3 : Nat) : Int))).run Tryz.prog w = _; kernel_rfl
  | ⟨4, _⟩ => by show (Instr.index 201 kindsV (.int .i64 ((4 : Nat) : Int))).run Tryz.prog w = _; kernel_rfl
  | ⟨5, _⟩ => by show (Instr.index 201 kindsV (.int .i64 ((5 : Nat) : Int))).run Tryz.prog w = _; kernel_rfl
  | ⟨6, _⟩ => by show (Instr.index 201 kindsV (.int .i64 ((6 : Nat) : Int))).run Tryz.prog w = _; kernel_rfl
  | ⟨7, _⟩ => by show (Instr.index 201 kindsV (.int .i64 ((7 : Nat) : Int))).run Tryz.prog w = _; kernel_rfl
  | ⟨8, _⟩ => by show (Instr.index 201 kindsV (.int .i64 ((8 : Nat) : Int))).run Tryz.prog w = _; kernel_rfl
  | ⟨9, _⟩ => by show (Instr.index 201 kindsV (.int .i64 ((9 : Nat) : Int))).run Tryz.prog w = _; kernel_rfl
  | ⟨10, _⟩ => by show (Instr.index 201 kindsV (.int .i64 ((10 : Nat) : Int))).run Tryz.prog w = _; kernel_rfl
theorem kind_at (k : Nat) (h : k < kindsL.length) (w : World) : (Instr.index 201 kindsV (.int .i64 k)).run Tryz.prog w = .ok (.agg #[.string ⟨kindsL[k].1.toArray⟩, .int .i64 kindsL[k].2]) w := by
  have := kind_all w ⟨k, h⟩
  have e : kindsL.getD k ([], 0) = kindsL[k] := by simp [List.getD, h]
  simp only [e] at this
  exact this

def findV (o : Option (List UInt8 × Nat)) : Value := match o with
  | some k => .tuple #[.agg #[.string ⟨k.1.toArray⟩, .int .i64 k.2], .bool true]
  | none => .tuple #[.agg #[.string ⟨#[]⟩, .int .i64 0], .bool false]

theorem lowB_size (s : ByteArray) : (lowB s).size = s.size := by rw [← bytes_len, lowB_list, low_length, bytes_len]
theorem bytes_ne {A : ByteArray} {l : List UInt8} (h : l ≠ A.data.toList) : (⟨l.toArray⟩ : ByteArray) ≠ A := fun e => h (by rw [← e])

theorem below_two {w W : World} {o : Obj} {u v : Value} (h : Below (w.alloc o).heap.size (w.alloc o) W) : Below w.heap.size w ((W.setCell ⟨w.heap.size, 0, none⟩ u).setCell ⟨w.heap.size, 1, none⟩ v) :=
  ((((Below.refl _ _).alloc (Nat.le_refl _) _).trans (h.mono (by simp))).setCell (Nat.le_refl _) _).setCell (Nat.le_refl _) _
set_option maxRecDepth 100000 in
set_option maxHeartbeats 1000000 in
theorem matchFind_any (s : ByteArray) (w : World) : Calls Tryz.prog 138 #[.string s] w fun e w' => e = .returned (findV (findL (low s.data.toList))) ∧ Below w.heap.size w w' := by
  by_cases h30 : 30 < s.size
  · have hno : findL (low s.data.toList) = none := findL_long (by rw [low_length, bytes_len]; omega)
    rw [hno]
    have t0 : decide ((30 : Int) < (s.size : Int)) = true := by simp; omega
    clear hno
    go_enter Tryz.func138, Tryz.ntmps138
    go_wp2
    refine bodyPost_ret (v := findV none) (by simp [results, Tryz.results138, go_sem, findV]) rfl ⟨rfl, ?_⟩
    exact (Below.refl _ _).alloc (Nat.le_refl _) _
  · have t0 : decide ((30 : Int) < (s.size : Int)) = false := by simp; omega
    obtain ⟨L, hL⟩ : ∃ L, L = lowB s := ⟨_, rfl⟩
    have hLl : L.data.toList = low s.data.toList := by rw [hL, lowB_list]
    rw [← hLl]
    have hlo := fun w => lowered_any s w (by omega)
    rw [← hL] at hlo
    have HLo := Lib.hid hlo
    have HLl := Lib.hid hLl
    clear hlo hL hLl
    go_enter Tryz.func138, Tryz.ntmps138
    go_wp2_with (first | (go_at_call 164; refine (HLo.out _).mono ?_; rintro e w1 ⟨rfl, hb1⟩; have HB1 := Lib.hid hb1; clear hb1) | (go_at_call 165; refine (allTypes_any _).mono ?_; rintro e w2 ⟨rfl, hb2⟩; have HB2 := Lib.hid (bthen HB1.out hb2); clear hb2))
    go_loopw [14] (fun i wr => ∃ k : Nat, k ≤ 11 ∧ i = .int .i64 k ∧ Hid (∀ i, (h : i < kindsL.length) → i < k → kindsL[i].1 ≠ L.data.toList) ∧ Below (w.alloc (.cells #[.string ⟨#[]⟩, .int .i64 0] 177)).heap.size (w.alloc (.cells #[.string ⟨#[]⟩, .int .i64 0] 177)) wr) (fun i _ => 11 - (intOf i).toNat)
    case atStart => exact ⟨0, by omega, rfl, Lib.hid (fun i _ h => absurd h (by omega)), HB2.out⟩
    case round =>
      obtain ⟨k, hk, rfl, HN, hb⟩ := hrel
      have HB := Lib.hid hb
      have hsz := hb.size
      simp at hsz
      have hz : w.heap.size < wr.heap.size := by omega
      obtain ⟨c0, f0⟩ := bcell hb
      have k0 : wr.cell? ⟨w.heap.size, 0, none⟩ = some (.string ⟨#[]⟩) := (c0 w.heap.size 0 (by simp)).trans (by simp)
      have k1 : wr.cell? ⟨w.heap.size, 1, none⟩ = some (.int .i64 0) := (c0 w.heap.size 1 (by simp)).trans (by simp)
      have l0 : wr.frozen? ⟨w.heap.size, 0, none⟩ = false := (f0 w.heap.size 0 (by simp)).trans (by simp)
      have l1 : wr.frozen? ⟨w.heap.size, 1, none⟩ = false := (f0 w.heap.size 1 (by simp)).trans (by simp)
      clear c0 f0 hb
      by_cases hlt : k < 11
      · have t1 : decide ((k : Int) < 11) = true := by simp; omega
        have hkl : k < kindsL.length := hlt
        obtain ⟨X, hX⟩ : ∃ X : ByteArray, X = ⟨kindsL[k].1.toArray⟩ := ⟨_, rfl⟩
        obtain ⟨R, hR⟩ : ∃ R : Nat, R = kindsL[k].2 := ⟨_, rfl⟩
        have hix := kind_at k hkl
        rw [← hX, ← hR] at hix
        by_cases he : X = L
        · have hf : findL L.data.toList = some kindsL[k] := find_at hkl HN.out (by rw [← he, hX])
          have hv : findV (findL L.data.toList) = .tuple #[.agg #[.string L, .int .i64 R], .bool true] := by rw [hf]; simp only [findV]; rw [← hX, ← hR, he]
          have HV := Lib.hid hv
          subst he
          clear hf hX hR hv HN
          go_wp2
          refine bodyPost_ret (v := .tuple #[.agg #[.string X, .int .i64 R], .bool true]) (by simp [results, Tryz.results138, go_sem, k0, k1, hz]) rfl ⟨by rw [HV.out], ?_⟩
          exact (below_two HB.out).alloc (by simp; omega) _
        · have hne : kindsL[k].1 ≠ L.data.toList := fun e => he (by rw [hX, e])
          have HN2 := Lib.hid (fun i (h : i < kindsL.length) (hi : i < k + 1) => (show kindsL[i].1 ≠ L.data.toList from if e : i = k then by subst e; exact hne else HN.out i h (by omega)))
          have t2 := str_ne he
          clear hne hX hR HN
          go_wp2
          exact ⟨⟨k + 1, by omega, by go_num, HN2, HB.out.alloc (by simp; omega) _⟩, by simp [intOf]; omega⟩
      · obtain rfl : k = 11 := by omega
        have hf : findL L.data.toList = none := find_no (fun i h => HN.out i h (by simpa [kindsL] using h))
        have hv : findV (findL L.data.toList) = .tuple #[.agg #[.string ⟨#[]⟩, .int .i64 0], .bool false] := by rw [hf]; rfl
        have HV := Lib.hid hv
        clear hf HN hv
        go_wp2
        refine bodyPost_ret (v := .tuple #[.agg #[.string ⟨#[]⟩, .int .i64 0], .bool false]) (by simp [results, Tryz.results138, go_sem, k0, k1]) rfl ⟨by rw [HV.out], ?_⟩
        exact below_two HB.out

set_option maxRecDepth 100000 in
set_option maxHeartbeats 1000000 in
theorem rule_any (s : ByteArray) (w : World) : Calls Tryz.prog 161 #[.string s] w fun e w' => e = .returned (.int .i64 (ruleD s.data.toList)) ∧ Below w.heap.size w w' := by
  have hf := fun w => matchFind_any s w
  have hr : ruleD s.data.toList = match findL (low s.data.toList) with | some k => k.2 | none => 0 := rfl
  cases e : findL (low s.data.toList) with
  | none =>
    rw [e] at hf hr
    simp only [findV] at hf hr
    rw [hr]
    have HF := Lib.hid hf
    clear hf hr e
    go_enter Tryz.func161, Tryz.ntmps161
    go_wp2_with (go_at_call 138; refine (HF.out _).mono ?_; rintro e w1 ⟨rfl, hb1⟩; have HB := Lib.hid hb1; clear hb1)
    go_ret
    exact ⟨rfl, HB.out.alloc HB.out.size _⟩
  | some k =>
    obtain ⟨n, r⟩ := k
    rw [e] at hf hr
    simp only [findV] at hf hr
    rw [hr]
    obtain ⟨X, hX⟩ : ∃ X : ByteArray, X = ⟨n.toArray⟩ := ⟨_, rfl⟩
    rw [← hX] at hf
    have HF := Lib.hid hf
    clear hf hr e hX
    go_enter Tryz.func161, Tryz.ntmps161
    go_wp2_with (go_at_call 138; refine (HF.out _).mono ?_; rintro e w1 ⟨rfl, hb1⟩; have HB := Lib.hid hb1; clear hb1)
    go_ret
    exact ⟨rfl, HB.out.alloc HB.out.size _⟩

def canonV (o : Option (List UInt8)) : Value := match o with
  | some k => .tuple #[.string ⟨k.toArray⟩, .bool true]
  | none => .tuple #[.string ⟨#[]⟩, .bool false]
set_option maxRecDepth 100000 in
set_option maxHeartbeats 1000000 in
theorem canon_any (s : ByteArray) (w : World) : Calls Tryz.prog 100 #[.string s] w fun e w' => e = .returned (canonV (canonD s.data.toList)) ∧ Below w.heap.size w w' := by
  have hf := fun w => matchFind_any s w
  have hr : canonD s.data.toList = (findL (low s.data.toList)).map (·.1) := rfl
  cases e : findL (low s.data.toList) with
  | none =>
    rw [e] at hf hr
    rw [hr]
    simp only [findV] at hf
    have HF := Lib.hid hf
    clear hf hr e
    go_enter Tryz.func100, Tryz.ntmps100
    go_wp2_with (go_at_call 138; refine (HF.out _).mono ?_; rintro e w1 ⟨rfl, hb1⟩; have HB := Lib.hid hb1; clear hb1)
    go_ret2
    exact ⟨rfl, HB.out.alloc HB.out.size _⟩
  | some k =>
    obtain ⟨n, r⟩ := k
    rw [e] at hf hr
    rw [hr]
    simp only [findV] at hf
    obtain ⟨X, hX⟩ : ∃ X : ByteArray, X = ⟨n.toArray⟩ := ⟨_, rfl⟩
    rw [← hX] at hf
    have hv : canonV (Option.map (·.1) (some (n, r))) = .tuple #[.string X, .bool true] := by rw [hX]; rfl
    have HV := Lib.hid hv
    have HF := Lib.hid hf
    clear hf hr e hX hv
    go_enter Tryz.func100, Tryz.ntmps100
    go_wp2_with (go_at_call 138; refine (HF.out _).mono ?_; rintro e w1 ⟨rfl, hb1⟩; have HB := Lib.hid hb1; clear hb1)
    go_ret2
    exact ⟨by rw [HV.out]; rfl, HB.out.alloc HB.out.size _⟩
end Go.Proofs.YtlimajgmdhhggaaGreatDoor
