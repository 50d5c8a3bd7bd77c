/- Several texts in one file: EnHasP, TrAwk, TrOrdW. -/
import Derived.Test.YtgaaefcanfglhaaGreatDoorTroP14
import Derived.Test.YtgaaefcanfglhaaGreatDoorTroP3
import Derived.Test.YtgaaefcanfglhaaGreatDoorTroP6
import Derived.Test.YtgaaefcanfglhaaGreatDoorTroP16
import Derived.Test.YtgaaefcanfglhaaGreatDoorTroP8
import Derived.Test.YtgaaefcanfglhaaGreatDoorTroP11
import Derived.Test.YtgaaefcanfglhaaGreatDoorTroP15
import Derived.Test.YtgaaefcanfglhaaGreatDoorTroP9
namespace Go.Proofs.YtgaaefcanfglhaaGreatDoor
open Go.RowKit
set_option linter.unusedVariables false
set_option linter.unusedSimpArgs false

def okB (t : List UInt8) (A : List (List UInt8)) : Bool :=
  !A.isEmpty && A.all fun v => A.any (likeB t v) && (ruleD t != 1 || A.any (likeB t ([32] ++ upL v ++ [32]))) && (ruleD t != 4 || (A.any (likeB t (upL v)) == (upL v == v))) && !A.any (likeB t (v ++ [33, 33]))
def tysT : List (List (List UInt8)) :=
  let c : List UInt8 := [99, 110]; let o := objB; let s : List UInt8 := [115, 110]; let m : List UInt8 := [109, 97, 105, 108]; let d : List UInt8 := [68, 101, 115, 99, 114, 105, 112, 116, 105, 111, 110]
  let u : List UInt8 := [117, 105, 100]; let n : List UInt8 := [117, 105, 100, 78, 117, 109, 98, 101, 114]; let p : List UInt8 := [117, 115, 101, 114, 80, 97, 115, 115, 119, 111, 114, 100]
  [[c, o, s], [c, o, s, m], [c, o, s, d], [c, o, s, u, n], [c, o, s, m, u, n], [c, o, s, d, u, n], [c, o, s, p], [c, o, s, m, p], [c, o, s, d, p]]
def mkE (ns : List UInt8) : List AT := sortA (normL (mkLd ns))
end Go.Proofs.YtgaaefcanfglhaaGreatDoor


namespace Go.Proofs.YtgaaefcanfglhaaGreatDoor
open Go.RowKit
set_option linter.unusedVariables false

set_option maxRecDepth 100000 in
set_option maxHeartbeats 4000000 in
theorem awake8_any (w : World) (hw : LaidW w) (hlf : LaidF w) : Calls Tryz.prog 23 #[] w fun e w' => e = .returned (.bool true) ∧ Below w.heap.size w w' := by
  obtain ⟨W0, hW0⟩ : ∃ W, W = w.alloc (.cells #[.int .u8 0, .int .u8 2, .int .u8 0, .int .u8 3, .int .u8 0, .int .u8 0] 5) := ⟨_, rfl⟩
  have hb0 : Below w.heap.size w W0 := by rw [hW0]; exact (Below.refl _ _).alloc (Nat.le_refl _) _
  have hB : IsB W0.heap.size W0 ns8 (some ⟨w.heap.size, 0, none⟩) 6 := by
    refine ⟨by unfold maxLen ns8; simp, .inr ⟨w.heap.size, 0, rfl, by rw [hW0]; simp, fun j hj => ?_⟩⟩
    have hc : W0.heap[w.heap.size]? = some (.cells #[.int .u8 0, .int .u8 2, .int .u8 0, .int .u8 3, .int .u8 0, .int .u8 0] 5 (0, 0)) := by rw [hW0]; exact heap_alloc_new w _
    have hj6 : j < 6 := hj
    rcases (show j = 0 ∨ j = 1 ∨ j = 2 ∨ j = 3 ∨ j = 4 ∨ j = 5 by omega) with rfl | rfl | rfl | rfl | rfl | rfl <;> simp [World.cell?, hc, ns8]
  have hmk := make_any ns8 (some ⟨w.heap.size, 0, none⟩) 6 W0 hB
  have HB0 := Lib.hid hb0
  have HW0 := Lib.hid hW0
  have HMk := Lib.hid hmk
  have HLd := Lib.hid hw
  have HLf := Lib.hid hlf
  have HPut : Hid (∀ (D : ByteArray) (u : Value) (W : World), D.data.toList = mkD ns8 → IsA W.heap.size W (mkLd ns8) u → Calls Tryz.prog 18 #[.slice none 0 0, .agg #[.string D, u]] W fun e w' => ∃ v', e = .returned v' ∧ IsE w'.heap.size w' [(mkD ns8, mkLd ns8)] v' ∧ Below W.heap.size W w') := Lib.hid (fun D u W hD hu => by
    have hDs : D.size ≤ 100000 := by rw [← bytes_len, hD, awk_name]; simp [cn8]
    have := treePut_any [] ⟨by simp, by simp⟩ (.slice none 0 0) ⟨rfl, rfl⟩ D hDs (mkLd ns8) awk_fine awk_few u (by rw [hD, awk_key]; simp [cn8]) (by rw [hD]; exact awk_norm) W (isE_nil _ _ _ _) hu
    refine this.mono fun e w' h => ?_
    obtain ⟨v', h1, h2, _, h3⟩ := h
    rw [hD, awk_put] at h2
    exact ⟨v', h1, h2, h3⟩)
  have hsm : fineE [(mkD ns8, mkLd ns8)] := ⟨⟨by simp, fun e he => by
    simp only [List.mem_singleton] at he
    subst he
    exact ⟨by rw [awk_name]; simp [cn8], awk_fine.1⟩⟩, fun e he => by
    simp only [List.mem_singleton] at he
    subst he
    exact awk_fine⟩
  have HSm := Lib.hid hsm
  clear hW0 hb0 hB hmk hw hlf hsm
  have HCn : Hid ((⟨#[99, 110, 61, 110, 48]⟩ : ByteArray).data.toList = cn8) := Lib.hid rfl
  go_enter Tryz.func23, Tryz.ntmps23
  go_upto_region 2 with (first
    | (go_at_call 45; rw [← HW0.out]; refine (HMk.out).mono ?_; rintro e w2 ⟨D, u, rfl, hD, hu, hb2⟩; have HD := Lib.hid hD; have HU := Lib.hid (ownM_isA hu (by have := awk_fine.2.1; unfold maxLen; omega)); have HB2 := Lib.hid (HB0.out.trans (hb2.mono HB0.out.size)); (obtain ⟨ua, un, uc, rfl⟩ := HU.out.sl); clear hD hu hb2)
    | (go_at_call 18; refine (HPut.out D _ _ HD.out HU.out).mono ?_; rintro e w3 ⟨v3, rfl, h3, hb3⟩; have HB3 := Lib.hid (HB2.out.trans (hb3.mono HB2.out.size)); have HE3 := Lib.hid h3; (obtain ⟨la, lc, rfl⟩ := IsE.sl h3); clear h3 hb3))
  have HKids : Hid (∀ W, Calls Tryz.prog 15 #[.slice none 0 0, .string ⟨#[]⟩] W fun e w' => ∃ a c, e = .returned (.slice a 0 c) ∧ Below W.heap.size W w') := Lib.hid (fun W => (treeKids_any [] ⟨by simp, by simp⟩ (.slice none 0 0) ⟨#[]⟩ W (isE_nil _ _ _ _)).mono fun e w' h => by
    obtain ⟨v, h1, h2, h3⟩ := h
    obtain ⟨a, c, rfl⟩ := ownS_slice h2
    exact ⟨a, c, h1, h3⟩)
  have HFind : Hid (∀ W, Below w3.heap.size w3 W → Calls Tryz.prog 12 #[.slice la 1 lc, .string ⟨#[99, 110, 61, 110, 48]⟩] W fun e w' => e = .returned (.int .i64 0) ∧ Below W.heap.size W w') := Lib.hid (fun W hW => by
    have := treeFind_any [(mkD ns8, mkLd ns8)] HSm.out.1 (.slice la 1 lc) ⟨#[99, 110, 61, 110, 48]⟩ (by decide) W (HE3.out.below hW hW.size)
    rw [HCn.out, awk_find] at this
    exact this)
  have HMay : Hid (∀ W, Below w3.heap.size w3 W → Calls Tryz.prog 10 #[.slice la 1 lc] W fun e w' => e = .returned (.bool true) ∧ Below W.heap.size W w') := Lib.hid (fun W hW => by
    have h1 := HB3.out.trans (hW.mono HB3.out.size)
    have := treeMay_any [(mkD ns8, mkLd ns8)] HSm.out (.slice la 1 lc) W (HLd.out.below h1) (HLf.out.below h1) (HE3.out.below hW hW.size)
    rw [awk_may] at this
    exact this)
  have HR3 := Lib.hid (Below.refl w3.heap.size w3)
  go_wp2_with (first
    | (go_at_call 15; refine (HKids.out _).mono ?_; rintro e w4 ⟨ka, kc, rfl, hb4⟩; have HB4 := Lib.hid (bthen HR3.out hb4); clear hb4)
    | (go_at_call 12; refine (HFind.out _ HB4.out).mono ?_; rintro e w5 ⟨rfl, hb5⟩; have HB5 := Lib.hid (bthen HB4.out hb5); clear hb5)
    | (go_at_call 10; refine (HMay.out _ HB5.out).mono ?_; rintro e w6 ⟨rfl, hb6⟩; have HB6 := Lib.hid (bthen HB5.out hb6); clear hb6))
  go_ret
  exact ⟨rfl, HB3.out.trans (HB6.out.mono HB3.out.size)⟩
end Go.Proofs.YtgaaefcanfglhaaGreatDoor


namespace Go.Proofs.YtgaaefcanfglhaaGreatDoor
open Go.RowKit
set_option linter.unusedVariables false
set_option linter.unusedSimpArgs false

set_option maxRecDepth 100000 in
set_option maxHeartbeats 2000000 in
theorem makeNil_any (w : World) : Calls Tryz.prog 7 #[.slice none 0 0] w fun e w' => e = .returned (.slice none 0 0) ∧ Below w.heap.size w w' := by
  go_enter Tryz.func7, Tryz.ntmps7
  go_wp2
  go_loopw [3, 4] (fun l i wr => l = .slice none 0 0 ∧ i = .int .i64 0 ∧ Below w.heap.size w wr) (fun l i wr => 0)
  case atStart => exact ⟨rfl, rfl, Below.refl _ _⟩
  case round =>
    obtain ⟨rfl, rfl, hbel⟩ := hrel
    have HBel := Lib.hid hbel
    have t1 : decide ((0 : Int) < (0 : Int)) = false := by simp
    clear hbel
    go_wp2
    go_ret
    exact ⟨rfl, HBel.out⟩

theorem putEnt_any {I : List Nat} (hI : ∀ i ∈ I, i < 12) (hl : I.length ≤ 100) {j : Nat} (hj : j < 12) {n : Nat} (hn : n < 256) (v : Value) (hcap : capV v) (D : ByteArray) (hD : D.data.toList = (entE j n).1) (u : Value) (W : World) (h : IsE W.heap.size W (entL n I) v) (hu : IsA W.heap.size W (entE j n).2 u) :
    Calls Tryz.prog 18 #[v, .agg #[.string D, u]] W fun e w' => ∃ v', e = .returned v' ∧ IsE w'.heap.size w' (entL n (putI I j)) v' ∧ capV v' ∧ Below W.heap.size W w' := by
  have h1 := ent_small j n (by omega) hn
  have he : (D.data.toList, (entE j n).2) = entE j n := by rw [hD]
  have := treePut_any (entL n I) (entL_fine hn hI (by omega)).1 v hcap D (by rw [← bytes_len, hD]; exact h1.1) (entE j n).2 h1.2.1 h1.2.2 u (by rw [he]; exact ent_keyne j n) (by rw [he]; exact ent_norm j n) W h hu
  rw [he, put_entL hI hj] at this
  exact this

def stepsV : List Nat := [1, 5, 7, 11]
theorem steps_cell (s : Nat) (hs : s < 4) (W : World) : (W.alloc (.cells #[.int .i64 1, .int .i64 5, .int .i64 7, .int .i64 11] 3)).cell? ⟨W.heap.size, s, none⟩ = some (.int .i64 ((stepsV.getD s 0 : Nat) : Int)) := by
  have h := heap_alloc_new W (.cells #[.int .i64 1, .int .i64 5, .int .i64 7, .int .i64 11] 3)
  match s, hs with
  | 0, _ => simp only [World.cell?, h]; rfl
  | 1, _ => simp only [World.cell?, h]; rfl
  | 2, _ => simp only [World.cell?, h]; rfl
  | 3, _ => simp only [World.cell?, h]; rfl
  | n + 4, h => exact absurd h (by omega)
theorem steps_in {s : Nat} (hs : s < 4) : stepsV.getD s 0 ∈ [1, 5, 7, 11] := by
  match s, hs with
  | 0, _ => decide
  | 1, _ => decide
  | 2, _ => decide
  | 3, _ => decide
  | n + 4, h => exact absurd h (by omega)
theorem entL_cells {n : Nat} {I : List Nat} (hI : ∀ i ∈ I, i < 12) {w : World} {b off m c : Nat} (h : IsE w.heap.size w (entL n I) (.slice (some ⟨b, off, none⟩) m c)) (j : Nat) (hj : j < I.length) :
    ∃ X ua un uc, w.cell? ⟨b, off + j * 2, none⟩ = some (.string X) ∧ w.cell? ⟨b, off + j * 2 + 1, none⟩ = some (.slice ua un uc) ∧ X.data.toList = nmE (I.getD j 0) ∧ b < w.heap.size := by
  have hj' : j < (entL n I).length := by unfold entL; rw [List.length_map]; exact hj
  obtain ⟨a, c', b', off', u, hv, ha, hb, h0, h1, h2⟩ := IsE.at h j hj'
  obtain ⟨rfl, _, _⟩ := Value.slice.inj hv
  simp only [Option.some.injEq, Addr.mk.injEq, and_true] at ha
  obtain ⟨rfl, rfl⟩ := ha
  obtain ⟨ua, un, uc, rfl⟩ := h2.sl
  refine ⟨_, ua, un, uc, h0, h1, ?_, hb⟩
  rw [ofL_list]
  have e : (entL n I)[j] = entE (I.getD j 0) n := by
    have h9 : (entL n I)[j]? = some (entE (I.getD j 0) n) := by
      unfold entL
      rw [List.getElem?_map, List.getElem?_eq_getElem hj, getD_in _ _ hj]; rfl
    rw [List.getElem?_eq_getElem hj'] at h9
    exact Option.some.inj h9
  rw [e, ent_eq]
  show nmE (I.getD j 0 % 12) = nmE (I.getD j 0)
  rw [Nat.mod_eq_of_lt]
  rw [getD_in _ _ hj]
  exact hI _ (List.getElem_mem _)

set_option maxRecDepth 100000 in
set_option maxHeartbeats 8000000 in
theorem treeOrder_any (n t s : Nat) (hn : n < 256) (ht : t < 256) (hs : s < 256) (w : World) (hw : LaidW w) (hlf : LaidF w) :
    Calls Tryz.prog 6 #[.int .u8 n, .int .u8 t, .int .u8 s] w fun e w' => e = .returned (.bool true) ∧ Below w.heap.size w w' := by
  have hq4 : s % 4 < 4 := Nat.mod_lt _ (by decide)
  obtain ⟨kk, hkk⟩ : ∃ k, k = stepsV.getD (s % 4) 0 := ⟨_, rfl⟩
  have hkin : kk ∈ [1, 5, 7, 11] := by rw [hkk]; exact steps_in hq4
  have hk11 : kk ≤ 11 := by simp only [List.mem_cons, List.not_mem_nil, or_false] at hkin; omega
  have cst := fun W => steps_cell (s % 4) hq4 W
  rw [← hkk] at cst
  have q0 : (0 : Int) ≤ (s : Int) % 4 := by omega
  have q3 : (s : Int) % 4 < 4 := by omega
  have HMk := Lib.hid (fun (W : World) => makeNil_any W)
  have HLd := Lib.hid (fun (W : World) (h : Below w.heap.size w W) => And.intro (hw.below h) (hlf.below h))
  have HAw := Lib.hid (fun (W : World) (h : Below w.heap.size w W) => awake8_any W (hw.below h) (hlf.below h))
  have HKi := Lib.hid hkin
  have HR0 := Lib.hid (Below.refl w.heap.size w)
  clear hw hlf hkin hkk
  have tok : Hid ((0 : Nat) = 0) := Lib.hid rfl
  go_enter Tryz.func6, Tryz.ntmps6
  go_upto_region 3 with (first
    | (go_at_call 7; (have _t := tok); clear tok; refine (HMk.out _).mono ?_; rintro e w1 ⟨rfl, hb1⟩; have HB1 := Lib.hid hb1; clear hb1)
    | (go_at_call 7; refine (HMk.out _).mono ?_; rintro e w2 ⟨rfl, hb2⟩; have HB2 := Lib.hid (bthen HB1.out hb2); clear hb2))
  obtain ⟨W3, hW3⟩ : ∃ W, W = w2.alloc (.cells #[.int .i64 1, .int .i64 5, .int .i64 7, .int .i64 11] 3) := ⟨_, rfl⟩
  rw [← hW3]
  have HB3 : Hid (Below w.heap.size w W3) := Lib.hid (by rw [hW3]; exact bthen HB2.out ((Below.refl _ _).alloc (Nat.le_refl _) _))
  clear hW3 cst
  go_wp2
  go_loopw [7, 8, 10] (fun a b i wr => ∃ m : Nat, m ≤ 12 ∧ i = .int .i64 m ∧ Hid (IsE wr.heap.size wr (entL n (foldI (List.range m))) a ∧ capV a) ∧ Hid (IsE wr.heap.size wr (entL n (foldI (turnI kk t m))) b ∧ capV b) ∧ Below w.heap.size w wr) (fun a b i wr => 12 - (intOf i).toNat)
  case atStart => exact ⟨0, by omega, rfl, Lib.hid ⟨isE_nil _ _ 0 none, by exact ⟨rfl, rfl⟩⟩, Lib.hid ⟨isE_nil _ _ 0 none, by exact ⟨rfl, rfl⟩⟩, HB3.out⟩
  case round =>
    obtain ⟨m, hm, rfl, HA, HB, hbel⟩ := hrel
    rename Value => va
    rename Value => vb
    have HBel := Lib.hid hbel
    clear hbel
    by_cases hlt : m < 12
    · have t1 : decide ((m : Int) < (12 : Int)) = true := by simp; omega
      obtain ⟨p1, hp1⟩ : ∃ p, p = m * kk := ⟨_, rfl⟩
      have hp1b : p1 ≤ 132 := by rw [hp1]; exact Nat.mul_le_mul (by omega : m ≤ 12) hk11
      have e1 : (m : Int) * (kk : Int) = (p1 : Int) := by rw [hp1]; push_cast; rfl
      have e2 : IntKind.i64.wrap (p1 : Int) = (p1 : Int) := IntWalk.i64_in _ (by omega)
      have e3 : IntKind.i64.wrap (t : Int) = (t : Int) := IntWalk.i64_in _ (by omega)
      obtain ⟨p2, hp2⟩ : ∃ p, p = p1 + t := ⟨_, rfl⟩
      have e4 : (p1 : Int) + (t : Int) = (p2 : Int) := by rw [hp2]; push_cast; rfl
      have e5 : IntKind.i64.wrap (p2 : Int) = (p2 : Int) := IntWalk.i64_in _ (by omega)
      obtain ⟨p3, hp3⟩ : ∃ p, p = p2 % 12 := ⟨_, rfl⟩
      have e6 : (p2 : Int).tmod 12 = (p3 : Int) := by rw [Int.tmod_eq_emod_of_nonneg (by omega)]; omega
      have hp3b : p3 < 12 := by omega
      have HE1 := Lib.hid (fun (W : World) => entry8_any m n (by omega) hn W)
      have HE2 := Lib.hid (fun (W : World) => entry8_any p3 n (by omega) hn W)
      have hra : foldI (List.range (m + 1)) = putI (foldI (List.range m)) m := by rw [List.range_succ, foldI_snoc]
      have hrb : foldI (turnI kk t (m + 1)) = putI (foldI (turnI kk t m)) p3 := by rw [turnI_succ, foldI_snoc, hp3, hp2, hp1]
      have f1 := foldI_lt (range_lt (Nat.le_of_lt hlt))
      have f2 := foldI_lt (turn_lt kk t m)
      have l1 : (foldI (List.range m)).length ≤ 100 := by have := f1.2; rw [List.length_range] at this; omega
      have l2 : (foldI (turnI kk t m)).length ≤ 100 := by have := f2.2; unfold turnI at this ⊢; rw [List.length_map, List.length_range] at this; omega
      have HP1 := Lib.hid (fun (v : Value) (hc : capV v) (D : ByteArray) (hD : D.data.toList = (entE m n).1) (u : Value) (W : World) (h : IsE W.heap.size W (entL n (foldI (List.range m))) v) (hu : IsA W.heap.size W (entE m n).2 u) => putEnt_any f1.1 l1 hlt hn v hc D hD u W h hu)
      have HP2 := Lib.hid (fun (v : Value) (hc : capV v) (D : ByteArray) (hD : D.data.toList = (entE p3 n).1) (u : Value) (W : World) (h : IsE W.heap.size W (entL n (foldI (turnI kk t m))) v) (hu : IsA W.heap.size W (entE p3 n).2 u) => putEnt_any f2.1 l2 hp3b hn v hc D hD u W h hu)
      rw [← hra] at HP1
      rw [← hrb] at HP2
      have tok : Hid ((0 : Nat) = 0) := Lib.hid rfl
      have tok2 : Hid ((0 : Nat) = 0) := Lib.hid rfl
      clear hp1 hp2 hp3 hra hrb f1 f2 l1 l2
      go_wp2_with (first
        | (go_at_call 8; (have _t := tok); clear tok; refine (HE1.out _).mono ?_; rintro e w4 ⟨D4, v4, rfl, hd4, ha4, hb4⟩; have HB4 := Lib.hid (bthen HBel.out hb4); have HA4 := Lib.hid (HA.out.1.below hb4 hb4.size); have HBb4 := Lib.hid (HB.out.1.below hb4 hb4.size); have HD4 := Lib.hid hd4; have HX4 := Lib.hid ha4; clear hd4 ha4 hb4)
        | (go_at_call 18; (have _t := tok2); clear tok2; refine (HP1.out _ HA.out.2 _ HD4.out _ _ HA4.out HX4.out).mono ?_; rintro e w5 ⟨a5, rfl, hi5, hc5, hb5⟩; have HB5 := Lib.hid (bthen HB4.out hb5); have HA5 := Lib.hid (And.intro hi5 hc5); have HBb5 := Lib.hid (HBb4.out.below hb5 hb5.size); clear hi5 hc5 hb5)
        | (go_at_call 8; refine (HE2.out _).mono ?_; rintro e w6 ⟨D6, v6, rfl, hd6, ha6, hb6⟩; have HB6 := Lib.hid (bthen HB5.out hb6); have HA6 := Lib.hid (And.intro (HA5.out.1.below hb6 hb6.size) HA5.out.2); have HBb6 := Lib.hid (HBb5.out.below hb6 hb6.size); have HD6 := Lib.hid hd6; have HX6 := Lib.hid ha6; clear hd6 ha6 hb6)
        | (go_at_call 18; refine (HP2.out _ HB.out.2 _ HD6.out _ _ HBb6.out HX6.out).mono ?_; rintro e w7 ⟨b7, rfl, hi7, hc7, hb7⟩; have HB7 := Lib.hid (bthen HB6.out hb7); have HBb7 := Lib.hid (And.intro hi7 hc7); have HA7 := Lib.hid (And.intro (HA6.out.1.below hb7 hb7.size) HA6.out.2); clear hi7 hc7 hb7))
      go_roundw
      case rel => exact ⟨m + 1, by omega, by go_num, HA7, HBb7, HB7.out⟩
      case measure => simp [intOf]; omega
    · obtain rfl : m = 12 := by omega
      have t1 : decide ((12 : Int) < (12 : Int)) = false := by simp
      have h1 : foldI (List.range 12) = ordI := rfl
      have h2 := turn_all HKi.out t
      rw [h1] at HA
      rw [h2] at HB
      obtain ⟨aa, ac, rfl⟩ := IsE.sl HA.out.1
      obtain ⟨ba, bc, rfl⟩ := IsE.sl HB.out.1
      have hl12 : (entL n ordI).length = 12 := by unfold entL; rw [List.length_map, ord_len]
      rw [hl12] at HA HB ⊢
      have HF := Lib.hid (entL_fine hn ord_lt (by rw [ord_len]; omega) : fineE (entL n ordI))
      have HMy := Lib.hid (fun (W : World) (h : Below w.heap.size w W) (v : Value) (hv : IsE W.heap.size W (entL n ordI) v) => treeMay_any (entL n ordI) HF.out v W (HLd.out W h).1 (HLd.out W h).2 hv)
      rw [ord_may hn] at HMy
      have HS1 := Lib.hid (fun (W : World) (v u : Value) (hv : IsE W.heap.size W (entL n ordI) v) (hu : IsE W.heap.size W (entL n ordI) u) => treeSame_any (entL n ordI) (entL n ordI) HF.out.1 v u W hv hu)
      have HS2 := Lib.hid (fun (W : World) (v u : Value) (hv : IsE W.heap.size W (entL n ordI) v) (hu : IsE W.heap.size W (entL n ordI) u) => sameR7_any (entL n ordI) (entL n ordI) HF.out.1 v u W hv hu)
      rw [show (entL n ordI == entL n ordI) = true from by simp] at HS1 HS2
      rename World => wr
      obtain ⟨ab, aoff, rfl⟩ : ∃ b off, aa = some ⟨b, off, none⟩ := by
        obtain ⟨a, c, b, off, u, hv, ha, _⟩ := IsE.at HA.out.1 0 (by rw [hl12]; omega)
        obtain ⟨rfl, _, _⟩ := Value.slice.inj hv
        exact ⟨b, off, ha⟩
      clear h1 h2 hl12 HMk
      go_wp2
      go_loopw [11] (fun i wx => ∃ m : Nat, 1 ≤ m ∧ m ≤ 12 ∧ i = .int .i64 m ∧ Below wr.heap.size wr wx) (fun i wx => 12 - (intOf i).toNat)
      case atStart => exact ⟨1, by omega, by omega, rfl, Below.refl _ _⟩
      case round =>
        obtain ⟨m, hm1, hm, rfl, hbx⟩ := hrel
        have HBx := Lib.hid hbx
        clear hbx
        by_cases hlt : m < 12
        · have u1 : decide ((m : Int) < (12 : Int)) = true := by simp; omega
          obtain ⟨p, hp⟩ : ∃ p, p + 1 = m := ⟨m - 1, by omega⟩
          have e1 : (m : Int) - 1 = (p : Int) := by omega
          have e2 : IntKind.i64.wrap (p : Int) = (p : Int) := IntWalk.i64_in _ (by omega)
          have g0 : (p : Int) < 12 := by omega
          have g1 : (m : Int) < 12 := by omega
          have g2 : (0 : Int) ≤ (p : Int) := by omega
          rename World => wx
          obtain ⟨X, xa, xn, xc, x0, x1, hX, hlt1⟩ := entL_cells ord_lt HA.out.1 p (by rw [ord_len]; omega)
          obtain ⟨Y, ya, yn, yc, y0, y1, hY, _⟩ := entL_cells ord_lt HA.out.1 m (by rw [ord_len]; omega)
          have kin : ∀ i, i < 12 → nmE (ordI.getD i 0) ≠ [] ∧ (nmE (ordI.getD i 0)).length ≤ 30 ∧ keyD (nmE (ordI.getD i 0)) = some (nmE (ordI.getD i 0)) := fun i hi => by
            have h9 : ordI.getD i 0 < 12 := by rw [getD_in _ _ (by rw [ord_len]; exact hi)]; exact ord_lt _ (List.getElem_mem _)
            exact ⟨(okK_at h9).2.2.2.2, (nm_parse _ h9).2.2.1, (okK_at h9).2.2.1⟩
          have hXs : X.size ≤ 100000 := by rw [← bytes_len, hX]; have := (kin p (by omega)).2.1; omega
          have hYs : Y.size ≤ 100000 := by rw [← bytes_len, hY]; have := (kin m hlt).2.1; omega
          obtain ⟨K1, hK1⟩ : ∃ K, K = keyB (keyD X.data.toList) := ⟨_, rfl⟩
          obtain ⟨K2, hK2⟩ : ∃ K, K = keyB (keyD Y.data.toList) := ⟨_, rfl⟩
          have hls : Op.bytesLess K1.toList K2.toList = true := by
            rw [ByteArray.toList_eq, ByteArray.toList_eq, hK1, hK2, keyB_list, keyB_list, hX, hY, (kin p (by omega)).2.2, (kin m hlt).2.2, ← hp]
            exact ord_rise (by omega)
          have HC : Hid (∀ W, Below wr.heap.size wr W → (fun w' => w'.cell? ⟨ab, aoff + p * 2, none⟩ = some (.string X) ∧ w'.cell? ⟨ab, aoff + p * 2 + 1, none⟩ = some (.slice xa xn xc) ∧ w'.cell? ⟨ab, aoff + m * 2, none⟩ = some (.string Y) ∧ w'.cell? ⟨ab, aoff + m * 2 + 1, none⟩ = some (.slice ya yn yc) ∧ Below wr.heap.size wr w') W) := Lib.hid (fun W hW => ⟨(hW.cell (p := ⟨ab, aoff + p * 2, none⟩) hlt1).trans x0, (hW.cell (p := ⟨ab, aoff + p * 2 + 1, none⟩) hlt1).trans x1, (hW.cell (p := ⟨ab, aoff + m * 2, none⟩) hlt1).trans y0, (hW.cell (p := ⟨ab, aoff + m * 2 + 1, none⟩) hlt1).trans y1, hW⟩)
          have hst := HC.out _ HBx.out.drew
          have HK1 : Hid (∀ W, Below wr.heap.size wr W → Calls Tryz.prog 9 #[.agg #[.string X, .slice xa xn xc]] W (fun e w'' => e = .returned (.string K1) ∧ (fun w' => w'.cell? ⟨ab, aoff + p * 2, none⟩ = some (.string X) ∧ w'.cell? ⟨ab, aoff + p * 2 + 1, none⟩ = some (.slice xa xn xc) ∧ w'.cell? ⟨ab, aoff + m * 2, none⟩ = some (.string Y) ∧ w'.cell? ⟨ab, aoff + m * 2 + 1, none⟩ = some (.slice ya yn yc) ∧ Below wr.heap.size wr w') w'')) := Lib.hid (fun W hW => (treeKey_any X hXs xa xn xc W).mono (fun e w'' h => ⟨by rw [hK1]; exact h.1, HC.out w'' (bthen hW h.2)⟩))
          have HK2 : Hid (∀ W, Below wr.heap.size wr W → Calls Tryz.prog 9 #[.agg #[.string Y, .slice ya yn yc]] W (fun e w'' => e = .returned (.string K2) ∧ (fun w' => w'.cell? ⟨ab, aoff + p * 2, none⟩ = some (.string X) ∧ w'.cell? ⟨ab, aoff + p * 2 + 1, none⟩ = some (.slice xa xn xc) ∧ w'.cell? ⟨ab, aoff + m * 2, none⟩ = some (.string Y) ∧ w'.cell? ⟨ab, aoff + m * 2 + 1, none⟩ = some (.slice ya yn yc) ∧ Below wr.heap.size wr w') w'')) := Lib.hid (fun W hW => (treeKey_any Y hYs ya yn yc W).mono (fun e w'' h => ⟨by rw [hK2]; exact h.1, HC.out w'' (bthen hW h.2)⟩))
          clear x0 x1 y0 y1 hX hY kin hK1 hK2 HC
          go_upto_region 11 with fail
          refine region_det (by kernel_rfl) (fun w' => w'.cell? ⟨ab, aoff + p * 2, none⟩ = some (.string X) ∧ w'.cell? ⟨ab, aoff + p * 2 + 1, none⟩ = some (.slice xa xn xc) ∧ w'.cell? ⟨ab, aoff + m * 2, none⟩ = some (.string Y) ∧ w'.cell? ⟨ab, aoff + m * 2 + 1, none⟩ = some (.slice ya yn yc) ∧ Below wr.heap.size wr w') (hst) (by kernel_rfl) ?_
          simp only [List.toList_toArray]
          repeat' (first
            | (refine det_shut (by rfl) ?_; (simp only [Act.put, List.setIfInBounds_toArray, List.set_cons_zero, List.set_cons_succ]))
            | (apply det_val; (case hw => rfl); (case hv => (intro w' hS; (obtain ⟨s0, s1, s2, s3, s4⟩ := hS); go_simp; first | done | with_reducible exact rfl)); (simp only [Act.put, List.setIfInBounds_toArray, List.set_cons_zero, List.set_cons_succ]))
            | (apply det_call; (case hw => rfl); (case hv => (intro w' hS; (obtain ⟨s0, s1, s2, s3, s4⟩ := hS); go_simp; first | done | with_reducible exact rfl | with_reducible exact ⟨rfl, rfl⟩)); (case hc => (intro w' hS; (first | (go_at_call 9; with_reducible exact HK1.out w' hS.2.2.2.2) | (go_at_call 9; with_reducible exact HK2.out w' hS.2.2.2.2)))); (simp only [Act.put, List.setIfInBounds_toArray, List.set_cons_zero, List.set_cons_succ]))
            | fail)
          intro wz hSz
          have HBz := Lib.hid hSz.2.2.2.2
          clear hSz hst
          go_wp2
          go_roundw
          case rel => exact ⟨m + 1, by omega, by omega, by go_num, HBz.out⟩
          case measure => simp [intOf]; omega
        · obtain rfl : m = 12 := by omega
          have u1 : decide ((12 : Int) < (12 : Int)) = false := by simp
          have HB9 := Lib.hid (bthen HBel.out HBx.out)
          have HA9 := Lib.hid (HA.out.1.below HBx.out HBx.out.size)
          have HB9b := Lib.hid (HB.out.1.below HBx.out HBx.out.size)
          go_wp2_with (first
            | (go_at_call 17; refine (HS2.out _ _ _ HA9.out HB9b.out).mono ?_; rintro e z1 ⟨rfl, hb1⟩; have HC1 := Lib.hid (bthen HB9.out hb1); have HA1 := Lib.hid (HA9.out.below hb1 hb1.size); have HBB1 := Lib.hid (HB9b.out.below hb1 hb1.size); clear hb1)
            | (go_at_call 26; refine (HS1.out _ _ _ HA1.out HBB1.out).mono ?_; rintro e z2 ⟨rfl, hb2⟩; have HC2 := Lib.hid (bthen HC1.out hb2); have HA2 := Lib.hid (HA1.out.below hb2 hb2.size); clear hb2)
            | (go_at_call 10; refine (HMy.out _ HC2.out _ HA2.out).mono ?_; rintro e z3 ⟨rfl, hb3⟩; have HC3 := Lib.hid (bthen HC2.out hb3); clear hb3)
            | (go_at_call 23; refine (HAw.out _ HC3.out).mono ?_; rintro e z4 ⟨rfl, hb4⟩; have HC4 := Lib.hid (bthen HC3.out hb4); clear hb4))
          go_ret
          exact ⟨rfl, HC4.out⟩
end Go.Proofs.YtgaaefcanfglhaaGreatDoor

