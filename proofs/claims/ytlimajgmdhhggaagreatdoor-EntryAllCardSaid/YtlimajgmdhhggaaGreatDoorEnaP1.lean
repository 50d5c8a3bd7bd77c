/- Several texts in one file: EnWith, EnIdx, EnIns, EnSet, EnMaker, EnSort, EnSetW, EnNorm, EnNext, EnNormW, EnSrtP, RegInv, RegDet. -/
import Derived.Test.YtlimajgmdhhggaaGreatDoorEnOwn
import Derived.Shelf.Spec.SlicesInsert
import Derived.Lib.AppendZerosOnto
import Derived.Laws.NewBlocks
import Derived.Laws.LoneSync
import Derived.Laws.Externs
import Derived.Deep.RegionHeld3
import Derived.Test.YtlimajgmdhhggaaGreatDoorDnTextW
import Derived.Test.YtlimajgmdhhggaaGreatDoorDnKey
import Derived.RegionTactic
import Derived.RowKit
namespace Go.Proofs.YtlimajgmdhhggaaGreatDoor
open Go.RowKit
set_option linter.unusedVariables false

theorem ownA_lt {B : Nat} {w : World} {v : Value} {L : List AT} (h : OwnA B w v L) (g : Nat) (e : v.ownBlock = some g) : g < w.heap.size := by
  obtain ⟨P, h1, _⟩ := h
  exact (World.ownsRow.lt h1 g e).2
def withoutA (L : List AT) (t : List UInt8) : List AT := L.filter (fun a => !(low a.1 == low t))
theorem without_more {L : List AT} {t : List UInt8} {j : Nat} (h : j < L.length) : withoutA (L.take (j + 1)) t = withoutA (L.take j) t ++ (if (low L[j].1 == low t) = true then [] else [L[j]]) := by
  unfold withoutA
  rw [List.take_succ_eq_append_getElem h, List.filter_append]
  congr 1
  cases e : (low L[j].1 == low t) <;> simp [List.filter, e]
theorem without_len (L : List AT) (t : List UInt8) (j : Nat) : (withoutA (L.take j) t).length ≤ j :=
  Nat.le_trans (List.length_filter_le _ _) (List.length_take_le _ _)

set_option maxRecDepth 100000 in
set_option maxHeartbeats 4000000 in
theorem without_any (L : List AT) (hs : smallA L) (v : Value) (t : ByteArray) (w : World) (h : IsA w.heap.size w L v) :
    Calls Tryz.prog 58 #[v, .string t] w fun e w' => ∃ u, e = .returned u ∧ OwnA w.heap.size w' u (withoutA L t.data.toList) ∧ Below w.heap.size w w' := by
  obtain ⟨a, c, rfl, hm, hcell⟩ := h
  unfold maxLen at hm
  have HC := Lib.hid hcell
  have HS := Lib.hid hs
  have hL := hs.1
  clear hcell hs
  go_enter Tryz.func58, Tryz.ntmps58
  go_wp2
  go_loopw [5, 10] (fun l i wr => ∃ j : Nat, j ≤ L.length ∧ i = .int .i64 j ∧ OwnA w.heap.size wr l (withoutA (L.take j) t.data.toList) ∧ Below w.heap.size w wr) (fun _ i wr => L.length - (intOf i).toNat)
  case atStart => exact ⟨0, by omega, rfl, ownA_nil _ _, Below.refl _ _⟩
  case round =>
    obtain ⟨j, hj, rfl, hown, hbel⟩ := hrel
    have HBel := Lib.hid hbel
    have hbs := hbel.size
    obtain ⟨la, lc, hlv⟩ := ownA_slice hown
    obtain ⟨W, hW⟩ : ∃ W, withoutA (L.take j) t.data.toList = W := ⟨_, rfl⟩
    have hWl := without_len L t.data.toList j
    rw [hW] at hown hlv hWl
    obtain ⟨ln, hln⟩ : ∃ n, n = W.length := ⟨_, rfl⟩
    rw [← hln] at hlv
    subst hlv
    have HLn := Lib.hid hln
    clear hln
    have HOwn := Lib.hid hown
    by_cases hlt : j < L.length
    · have t1 : decide ((j : Int) < (L.length : Int)) = true := by simp; omega
      have t1' : decide (j < L.length) = true := by simpa using hlt
      obtain ⟨b, off, u, rfl, hb0, c0, c1, ht⟩ := HC.out j hlt
      obtain ⟨ua, uc, hu, _⟩ := id ht
      obtain ⟨un, hun⟩ : ∃ n, n = L[j].2.length := ⟨_, rfl⟩
      rw [← hun] at hu
      subst hu
      clear hun
      have HT := Lib.hid ht
      obtain ⟨X, hX⟩ : ∃ X : ByteArray, ⟨L[j].1.toArray⟩ = X := ⟨_, rfl⟩
      have hXl : X.data.toList = L[j].1 := by rw [← hX]
      have d0 : (wr.cell? ⟨b, off + j * 2, none⟩) = some (.string X) := by
        rw [hbel.cell (p := ⟨b, _, none⟩) hb0, c0, ← hX]; rfl
      have d1 := (hbel.cell (p := ⟨b, off + j * 2 + 1, none⟩) hb0).trans c1
      have hXs : X.size ≤ 281474976710656 := by
        have := (HS.out.2 L[j] (List.getElem_mem _)).1
        rw [← bytes_len, hXl]; omega
      have hsl := fun w => sameLetters_any X t hXs w
      rw [hXl] at hsl
      have hnew := without_more (t := t.data.toList) hlt
      rw [hW] at hnew
      obtain ⟨g, hg⟩ : ∃ g, (low L[j].1 == low t.data.toList) = g := ⟨_, rfl⟩
      rw [hg] at hsl hnew
      have HSl := Lib.hid hsl
      have HA := Lib.hid (Below.alloc hbel hbs (.cells #[.string X, .slice ua un uc] 54))
      have HA0 := Lib.hid (Below.alloc (Below.refl wr.heap.size wr) (Nat.le_refl _) (.cells #[.string X, .slice ua un uc] 54))
      have hst := (HS.out.2 L[j] (List.getElem_mem _)).2
      have HST := Lib.hid hst
      have HXl := Lib.hid hXl
      have HCl := Lib.hid (fun w => clone_any X w hXs)
      clear hX hXl c0 c1 hsl hbel ht hg hown hst
      cases g with
      | true =>
        simp only [if_true, List.append_nil] at hnew
        have HN := Lib.hid hnew
        clear hnew
        go_wp2_with (go_at_call 93; refine (HSl.out _).mono ?_; rintro e w2 ⟨rfl, hb2⟩; have HB2 := Lib.hid (HA.out.trans (hb2.mono (by simp; omega))); have HO2 := Lib.hid (ownA_below HOwn.out (HA0.out.trans (hb2.mono (by simp)))); clear hb2)
        go_roundw
        case rel => exact ⟨j + 1, by omega, by go_num, by rw [HN.out]; exact HO2.out, HB2.out⟩
        case measure => simp [intOf]; omega
      | false =>
        simp only [Bool.false_eq_true, if_false] at hnew
        have HN := Lib.hid hnew
        clear hnew
        go_wp2_with (go_at_call 93; refine (HSl.out _).mono ?_; rintro e w2 ⟨rfl, hb2⟩; have f0 : w2.cell? ⟨wr.heap.size, 0, none⟩ = some (.string X) := by { rw [hb2.cell (p := ⟨wr.heap.size, 0, none⟩) (by simp)]; simp }; have f1 : w2.cell? ⟨wr.heap.size, 1, none⟩ = some (.slice ua un uc) := by { rw [hb2.cell (p := ⟨wr.heap.size, 1, none⟩) (by simp)]; simp }; have hz2 : wr.heap.size < w2.heap.size := by { have := hb2.size; simp at this; omega }; have HB2 := Lib.hid (HA.out.trans (hb2.mono (by simp; omega))); have HO2 := Lib.hid (ownA_below HOwn.out (HA0.out.trans (hb2.mono (by simp)))); clear hb2)
        have hdr : Below w2.heap.size w2 w2.drew := ⟨rfl, rfl, rfl, Nat.le_refl _, fun _ _ => rfl⟩
        have HB3 := Lib.hid (HB2.out.trans (hdr.mono HB2.out.size))
        have HO3 := Lib.hid (ownA_below HO2.out hdr)
        clear d0 d1 hdr
        have hz3 := HB2.out.size
        have hz3' : w.heap.size ≤ w2.drew.heap.size := hz3
        go_region_law (first
          | (go_simp; go_at_call 61; ((with_reducible refine (HCl.out _).mono ?_); rintro e w4 ⟨rfl, hb4⟩; have g0 : w4.cell? ⟨wr.heap.size, 0, none⟩ = some (.string X) := by { rw [hb4.cell (p := ⟨wr.heap.size, 0, none⟩) (by simp; omega)]; simpa using f0 }; have g1 : w4.cell? ⟨wr.heap.size, 1, none⟩ = some (.slice ua un uc) := by { rw [hb4.cell (p := ⟨wr.heap.size, 1, none⟩) (by simp; omega)]; simpa using f1 }; have hz4 := hb4.size; have HB4 := Lib.hid (bthen HB3.out hb4); have HO4 := Lib.hid (ownA_below HO3.out hb4); clear hb4))
          | (go_simp; go_at_call 51; ((with_reducible refine (copyVals_any _ HST.out _ _ (HT.out.below HB4.out HB4.out.size)).mono ?_); rintro e w5 ⟨u5, rfl, hu5, hb5⟩; have HU5 := Lib.hid (ownS_isTo hu5 (by have := HST.out.1; unfold maxLen; omega)); have HB5 := Lib.hid (bthen HB4.out hb5); have HO5 := Lib.hid (ownA_below HO4.out hb5); have hz5 := hb5.size; (obtain ⟨xa, xc, hxe⟩ := ownS_slice hu5); clear hu5 hb5; subst hxe))
          | (refine step_append_attr rfl (.tmp 19) (.tmp 27) rfl w.heap.size (.slice la ln lc) W rfl X _ L[j].2 HO5.out (HU5.out.imp (fun b hb => ⟨by have := hb.1; omega, hb.2, fun e => absurd (ownA_lt HO4.out b e.symm) (by have := hb.1; omega)⟩) (fun _ _ _ => rfl)) rfl rfl (by omega) (by omega) ?_; intro v6 w6 hown6 hb6; have HO6 := Lib.hid hown6; have HB6 := Lib.hid hb6; clear hown6 hb6))
        all_goals
          go_wp2
          go_roundw
          case rel => exact ⟨j + 1, by omega, by go_num, by rw [HN.out, show L[j] = (X.data.toList, L[j].2) from by rw [HXl.out]]; exact HO6.out, HB5.out.trans HB6.out⟩
          case measure => simp [intOf]; omega
    · obtain rfl : j = L.length := by omega
      have t1 : decide ((L.length : Int) < (L.length : Int)) = false := by simp
      have t1' : decide (L.length < L.length) = false := by simp
      rw [List.take_length] at hW
      have HW2 := Lib.hid hW
      clear hbel hW hown
      go_wp2
      go_ret
      exact ⟨_, rfl, by rw [HW2.out]; exact HOwn.out, HBel.out⟩
end Go.Proofs.YtlimajgmdhhggaaGreatDoor


namespace Go.Proofs.YtlimajgmdhhggaaGreatDoor
open Go.RowKit
set_option linter.unusedVariables false

def gtB (x y : List UInt8) : Bool := !Op.bytesLess x y && !(x == y)
set_option maxRecDepth 100000 in
set_option maxHeartbeats 2000000 in
theorem above_any (X Y : ByteArray) (u : Value) (b o : Nat) (w : World) (hc : w.cell? ⟨b, o, none⟩ = some (.string Y)) (hb : b < w.heap.size) :
    Calls Tryz.prog 98 #[.agg #[.string X, u], .pointer (some ⟨b, o, none⟩)] w fun e w' => e = .returned (.bool (gtB X.data.toList Y.data.toList)) ∧ Below w.heap.size w w' := by
  have hbel : Below w.heap.size w (w.alloc (.cells #[.string X, u] 54)) := (Below.refl _ _).alloc (Nat.le_refl _) _
  have c1 := (hbel.cell (p := ⟨b, o, none⟩) hb).trans hc
  have HB := Lib.hid hbel
  clear hbel
  go_enter Tryz.func98, Tryz.ntmps98
  go_wp2
  go_ret
  exact ⟨by unfold gtB; rw [← ByteArray.toList_eq, ← ByteArray.toList_eq]; rfl, HB.out⟩

def idxI (L : List AT) (y : List UInt8) : Int := match L.findIdx? (fun b => gtB b.1 y) with
  | some k => (k : Int)
  | none => -1
theorem idxI_at {L : List AT} {y : List UInt8} (j : Nat) (hj : j < L.length) (h : ∀ k (hk : k < L.length), k < j → gtB L[k].1 y = false) (he : gtB L[j].1 y = true) : idxI L y = j := by
  have : L.findIdx? (fun b => gtB b.1 y) = some j := by
    rw [List.findIdx?_eq_some_iff_getElem]
    exact ⟨hj, he, fun k hk => by simpa using h k (by omega) hk⟩
  unfold idxI; rw [this]
theorem idxI_no {L : List AT} {y : List UInt8} (h : ∀ k (hk : k < L.length), gtB L[k].1 y = false) : idxI L y = -1 := by
  have : L.findIdx? (fun b => gtB b.1 y) = none := by
    rw [List.findIdx?_eq_none_iff]
    intro x hx
    obtain ⟨k, hk, rfl⟩ := List.getElem_of_mem hx
    exact h k hk
  unfold idxI; rw [this]

set_option maxRecDepth 100000 in
set_option maxHeartbeats 2000000 in
theorem indexA_any (L : List AT) (hs : L.length ≤ 1000000) (v : Value) (Y : ByteArray) (pb po : Nat) (w : World) (h : IsA w.heap.size w L v) (hc : w.cell? ⟨pb, po, none⟩ = some (.string Y)) (hb : pb < w.heap.size) :
    Calls Tryz.prog 97 #[v, .func (.func 98) #[] #[.pointer (some ⟨pb, po, none⟩)]] w fun e w' => e = .returned (.int .i64 (idxI L Y.data.toList)) ∧ Below w.heap.size w w' := by
  obtain ⟨a, c, rfl, hm, hcell⟩ := h
  unfold maxLen at hm
  have HC := Lib.hid hcell
  have HY := Lib.hid hc
  obtain ⟨I, hI⟩ : ∃ I, idxI L Y.data.toList = I := ⟨_, rfl⟩
  rw [hI]
  have HI := Lib.hid hI
  clear hcell hc hI
  go_enter Tryz.func97, Tryz.ntmps97
  go_wp2
  go_loopw [8] (fun i wr => ∃ j : Nat, j ≤ L.length ∧ i = .int .i64 j ∧ Hid (∀ k (hk : k < L.length), k < j → gtB L[k].1 Y.data.toList = false) ∧ Below w.heap.size w wr) (fun i wr => L.length - (intOf i).toNat)
  case atStart => exact ⟨0, by omega, rfl, Lib.hid (fun k _ h => absurd h (by omega)), Below.refl _ _⟩
  case round =>
    obtain ⟨j, hj, rfl, HNo, hbel⟩ := hrel
    have HBel := Lib.hid hbel
    have hbs := hbel.size
    by_cases hlt : j < L.length
    · have t1 : decide ((j : Int) < (L.length : Int)) = true := by simp; omega
      have t1' : decide (j < L.length) = true := by simpa using hlt
      obtain ⟨b, off, u, rfl, hb0, c0, c1, ht⟩ := HC.out j hlt
      obtain ⟨X, hX⟩ : ∃ X : ByteArray, ⟨L[j].1.toArray⟩ = X := ⟨_, rfl⟩
      have hXl : X.data.toList = L[j].1 := by rw [← hX]
      have d0 : (wr.cell? ⟨b, off + j * 2, none⟩) = some (.string X) := by
        rw [hbel.cell (p := ⟨b, _, none⟩) hb0, c0, ← hX]; rfl
      have d1 := (hbel.cell (p := ⟨b, off + j * 2 + 1, none⟩) hb0).trans c1
      have hab := above_any X Y u pb po wr ((hbel.cell (p := ⟨pb, po, none⟩) hb).trans HY.out) (by omega)
      rw [hXl] at hab
      obtain ⟨g, hg⟩ : ∃ g, gtB L[j].1 Y.data.toList = g := ⟨_, rfl⟩
      rw [hg] at hab
      have HAb := Lib.hid hab
      have HG := Lib.hid hg
      clear hX hXl c0 c1 hab hbel ht hg
      cases g with
      | true =>
        have HR := Lib.hid (HI.out.symm.trans (idxI_at j hlt HNo.out HG.out))
        go_wp2_with (go_at_call 98; refine (HAb.out).mono ?_; rintro e w2 ⟨rfl, hb2⟩; have HB2 := Lib.hid (HBel.out.trans (hb2.mono hbs)); clear hb2)
        go_ret
        exact ⟨by rw [HR.out]; rfl, HB2.out⟩
      | false =>
        have HN : Hid (∀ k (hk : k < L.length), k < j + 1 → gtB L[k].1 Y.data.toList = false) := Lib.hid (fun k h1 h3 => by
            by_cases hk : k < j
            · exact HNo.out k h1 hk
            · obtain rfl : k = j := by omega
              exact HG.out)
        go_wp2_with (go_at_call 98; refine (HAb.out).mono ?_; rintro e w2 ⟨rfl, hb2⟩; have HB2 := Lib.hid (HBel.out.trans (hb2.mono hbs)); clear hb2)
        go_roundw
        case rel => exact ⟨j + 1, by omega, by go_num, HN, HB2.out⟩
        case measure => simp [intOf]; omega
    · obtain rfl : j = L.length := by omega
      have t1 : decide ((L.length : Int) < (L.length : Int)) = false := by simp
      have t1' : decide (L.length < L.length) = false := by simp
      have HR := Lib.hid (HI.out.symm.trans (idxI_no (fun k hk => HNo.out k hk hk)))
      clear hbel
      go_wp2
      go_ret
      exact ⟨by rw [HR.out]; rfl, HBel.out⟩
end Go.Proofs.YtlimajgmdhhggaaGreatDoor


namespace Go.Proofs.YtlimajgmdhhggaaGreatDoor
open Go.RowKit
set_option linter.unusedVariables false

theorem sizeA : (Tryz.prog.info? 54).map (·.size) = some 2 := by kernel_rfl
theorem run_copy_attr (w : World) (ty : TypeId) (g o dLen dCap : Nat) (a : Addr) (sLen sCap : Nat) (cur : Array Value) (t : TypeId) (cs : List Value)
    (hg : w.heap[g]? = some (.cells cur t (0, 0))) (hn : cs.length = Nat.min sLen dLen * 2)
    (hsrc : ∀ j v, cs[j]? = some v → w.cell? (a.add j) = some v) (hfit : o + cs.length ≤ cur.size) (h1 : ∀ v ∈ cs, v.oneCell' = true) :
    (Builtin.copy_ #[22, 22] ty #[.slice (some ⟨g, o, none⟩) dLen dCap, .slice (some a) sLen sCap]).run Tryz.prog w =
      .ok (goInt (Nat.min sLen dLen)) (w.setRow g (cur.toList.take o ++ cs ++ cur.toList.drop (o + cs.length)).toArray) := by
  have hl := run_loadCells_list (P := Tryz.prog) w a cs hsrc
  have hst := run_storeCells_at Tryz.prog g o t cs 0 cur w hg (by simpa using hfit) h1
  have hu : Tryz.prog.underlying 22 = some (.slice 54) := Tryz.underlying22
  have hs := sizeA
  cases hq : Tryz.prog.info? 54 with
  | none => simp [hq] at hs
  | some i =>
    have hi : i.size = 2 := by simpa [hq] using hs
    simp [Builtin.copy_, run_underlying hu, Builtin.lenOf, Builtin.firstCells, sizeOf, typeInfo, hq, hi, ← hn, hl, hst]

def InsW (B : Nat) (w : World) (ob : Option Nat) (Q : List PT) (e : Ending) (w' : World) : Prop := ∃ v', e = .returned v' ∧ RowP B w' v' Q ∧ w.grownBy w' ob ∧ (v'.ownBlock = ob ∨ v'.ownBlock = some w.heap.size)

set_option maxRecDepth 100000 in
set_option maxHeartbeats 4000000 in
theorem insert_end (P : List PT) (v : Value) (B : Nat) (X : ByteArray) (u : Value) (hu1 : u.oneCell' = true) (vb : Nat) (w : World) (hrow : RowP B w v P) (hP : P.length + 1 ≤ 1000000) (hB : B ≤ w.heap.size)
    (h0 : w.cell? ⟨vb, 0, none⟩ = some (.string X)) (h1 : w.cell? ⟨vb, 1, none⟩ = some u) :
    Calls Tryz.prog 99 #[v, .int .i64 P.length, .slice (some ⟨vb, 0, none⟩) 1 1] w (InsW B w v.ownBlock (P ++ [(X.data.toList, u)])) := by
  obtain ⟨i0, hi, hz0, hz1, hz2⟩ := info_parts infoA
  have hnews : ∀ j x, [Value.string X, u][j]? = some x → w.cell? ((⟨vb, 0, none⟩ : Addr).add j) = some x := by
    intro j x hj
    match j, hj with
    | 0, hj => simp at hj; subst hj; simpa [Addr.add] using h0
    | 1, hj => simp at hj; subst hj; simpa [Addr.add] using h1
  have HNews := Lib.hid hnews
  have HRow := Lib.hid hrow
  obtain ⟨ob, hob⟩ : ∃ ob, v.ownBlock = ob := ⟨_, rfl⟩
  rw [hob]
  have HOb := Lib.hid hob
  obtain ⟨sa, sc, hv⟩ := rowP_slice hrow
  have hcap : P.length ≤ sc ∧ sc ≤ 9223372036854775807 ∧ (sa = none → P.length = 0 ∧ sc = 0) := by
    rcases hrow.2 with ⟨e1, hz⟩ | ⟨g, cap, cur, e1, _, _, h2, h3, _⟩
    · rw [hv] at e1; simp only [Value.slice.injEq] at e1; obtain ⟨rfl, e2, rfl⟩ := e1; exact ⟨by omega, by omega, fun _ => ⟨e2, rfl⟩⟩
    · rw [hv] at e1; simp only [Value.slice.injEq] at e1; obtain ⟨rfl, e2, rfl⟩ := e1; exact ⟨h2, by unfold maxLen at h3; omega, fun h => by cases h⟩
  obtain ⟨hc1, hc2, hc3⟩ := hcap
  obtain ⟨pn, hpn⟩ : ∃ n, n = P.length := ⟨_, rfl⟩
  have HPn := Lib.hid hpn
  have hPP := hP
  rw [← hpn] at hv hc1 hc3 hP ⊢
  subst hv
  clear hnews hrow h0 h1 hpn hob
  go_enter Tryz.func99, Tryz.ntmps99
  go_wp2_with (at_builtin; refine wpList_append_own_at _ rfl (.tmp 23) (.tmp 24) 22 rfl B 54 i0 (.agg #[.string ⟨#[]⟩, .slice none 0 0]) 2 40 Tryz.underlying22 hi hz0 hz1 hz2 rfl (by decide) (.slice sa pn sc) P.length (cellsP P) rfl HRow.out ⟨vb, 0, none⟩ 1 1 [.string X, u] rfl rfl HNews.out (by intro u' hu'; simp at hu'; rcases hu' with rfl | rfl; rfl; exact hu1) (by unfold maxLen; omega) (by omega) hB ?_; intro v5 w5 hown5 hgrow5 _ hat5; have HO5 := Lib.hid hown5; have HG5 := Lib.hid hgrow5; have HT5 := Lib.hid hat5; rw [HOb.out] at HG5 HT5; clear hown5 hgrow5 hat5)
  all_goals
    go_ret
    refine ⟨_, rfl, ?_, HG5.out, HT5.out⟩
    unfold RowP
    rw [List.length_append, cellsP_append]
    show World.ownsRow _ _ _ _ _ (P.length + 1) (cellsP P ++ [strV X.data.toList, u])
    rw [strV_whole]
    exact HO5.out

theorem cellsP_take : ∀ (P : List PT) (i : Nat), (cellsP P).take (i * 2) = cellsP (P.take i)
  | [], i => by simp [cellsP]
  | r :: P, 0 => by simp [cellsP]
  | r :: P, i + 1 => by
    rw [show (i + 1) * 2 = i * 2 + 2 from by omega]
    show _ :: _ :: (cellsP P).take (i * 2) = _
    rw [cellsP_take P i]; rfl
theorem cellsP_drop : ∀ (P : List PT) (i : Nat), (cellsP P).drop (i * 2) = cellsP (P.drop i)
  | [], i => by simp [cellsP]
  | r :: P, 0 => by simp [cellsP]
  | r :: P, i + 1 => by
    rw [show (i + 1) * 2 = i * 2 + 2 from by omega]
    show (cellsP P).drop (i * 2) = _
    rw [cellsP_drop P i]; rfl
theorem shift_row {α : Type} {C cur : List α} {k : Nat} {x y : α} (hC : cur.take C.length = C) (hk : k ≤ C.length) (hroom : C.length + 2 ≤ cur.length) :
    let A1 := cur.take (k + 2) ++ C.drop k ++ cur.drop (k + 2 + (C.drop k).length)
    A1.length = cur.length ∧ ∃ r, A1.take k ++ [x, y] ++ A1.drop (k + 2) = (C.take k ++ [x, y] ++ C.drop k) ++ r ∧ (A1.take k ++ [x, y] ++ A1.drop (k + 2)).length = cur.length := by
  have hCl : C.length ≤ cur.length := by omega
  have e0 : cur.take k = C.take k := by
    have := congrArg (List.take k) hC
    rwa [List.take_take, Nat.min_eq_left hk] at this
  have e1 : (cur.take (k + 2)).length = k + 2 := by rw [List.length_take]; omega
  have e2 : (C.drop k).length = C.length - k := List.length_drop
  refine ⟨by simp; omega, cur.drop (k + 2 + (C.drop k).length), ?_, by simp; omega⟩
  have f1 : (cur.take (k + 2) ++ C.drop k ++ cur.drop (k + 2 + (C.drop k).length)).take k = C.take k := by
    rw [List.append_assoc, List.take_append_of_le_length (by omega), List.take_take, Nat.min_eq_left (by omega), e0]
  have f2 : (cur.take (k + 2) ++ C.drop k ++ cur.drop (k + 2 + (C.drop k).length)).drop (k + 2) = C.drop k ++ cur.drop (k + 2 + (C.drop k).length) := by
    rw [List.append_assoc, List.drop_left' e1]
  rw [f1, f2]
  simp

theorem overlaps_no (w : World) (vb g o lb cb kB : Nat) (cv cur : Array Value) (hne : vb ≠ g) (hv : w.heap[vb]? = some (.cells cv 54 (0, 0))) (hg : w.heap[g]? = some (.cells cur 54 (0, 0))) (hk : cur.size ≠ 0) :
    (callFunc 136 #[.slice (some ⟨vb, 0, none⟩) 1 1, .slice (some ⟨g, o, none⟩) lb cb]).run Tryz.prog w = .ok (.value (.bool false)) w := by
  rw [run_callFunc_extern Tryz.func136 (by kernel_rfl) (by kernel_rfl) (by kernel_rfl) (e := Extern.SlicesOverlaps.overlaps #[22, 22] #[4]) (by kernel_rfl),
    Lib.run_overlaps_apart w 22 4 54 Tryz.underlying22 2 Tryz.sizeOf54 ⟨vb, 0, none⟩ ⟨g, o, none⟩ 1 1 lb cb hne 54 54 cv.size cur.size (by simp [World.shape?, hv]) (by simp [World.shape?, hg]) hk (by simp [World.frozen?, hv]) (by simp [World.frozen?, hv])]
  rfl

set_option maxRecDepth 100000 in
set_option maxHeartbeats 4000000 in
theorem insert_shift (P : List PT) (B g cap i vb : Nat) (cur : Array Value) (X : ByteArray) (u : Value) (hu1 : u.oneCell' = true) (w : World) (hBg : B ≤ g) (hg : w.heap[g]? = some (.cells cur 54 (0, 0)))
    (hcs : cur.size = cap * 2) (htake : cur.toList.take (cellsP P).length = cellsP P) (hi : i < P.length) (hroom : P.length + 1 ≤ cap) (hcm : cap ≤ 9223372036854775807) (hne : vb ≠ g) (hv : w.heap[vb]? = some (.cells #[.string X, u] 54 (0, 0))) (h1 : ∀ x ∈ cellsP P, x.oneCell' = true) :
    Calls Tryz.prog 99 #[.slice (some ⟨g, 0, none⟩) P.length cap, .int .i64 i, .slice (some ⟨vb, 0, none⟩) 1 1] w (InsW B w (some g) (P.take i ++ (X.data.toList, u) :: P.drop i)) := by
  obtain ⟨n, hn⟩ : ∃ n, n = P.length := ⟨_, rfl⟩
  rw [← hn] at hi hroom ⊢
  have HN := Lib.hid hn
  have hov := fun o lb cb => overlaps_no w vb g o lb cb 0 _ cur hne hv hg (by omega)
  have hz2 : ¬ ((i : Int) = (n : Int)) := by omega
  have hw1 : IntKind.i64.wrap ((i : Int) + 1) = (i : Int) + 1 := by rw [IntKind.wrap_i64]; omega
  have hb1 : (0 : Int) ≤ (i : Int) + 1 := by omega
  have hin : i ≤ n := by omega
  have htn : ((i : Int) + 1).toNat = i + 1 := by omega
  have hb2 : ¬ (cap = i + 1) := by omega
  have hb3 : (i : Int) ≤ (n : Int) + 1 := by omega
  have hb4 : ¬ (cap = i) := by omega
  have hb5 : i + 1 ≤ n + 1 := by omega
  have hCl : (cellsP P).length = n * 2 := by rw [cellsP_length, hn]
  obtain ⟨C, hC⟩ : ∃ C, C = cellsP P := ⟨_, rfl⟩
  rw [← hC] at htake h1 hCl
  have hcur : C.length + 2 ≤ cur.toList.length := by rw [hCl, Array.length_toList, hcs]; omega
  have hsh := shift_row (x := Value.string X) (y := u) htake (k := i * 2) (by omega) hcur
  simp only at hsh
  obtain ⟨A1, hA1⟩ : ∃ A1, A1 = cur.toList.take (i * 2 + 2) ++ C.drop (i * 2) ++ cur.toList.drop (i * 2 + 2 + (C.drop (i * 2)).length) := ⟨_, rfl⟩
  rw [← hA1] at hsh
  obtain ⟨hl1, r, hr, hl2⟩ := hsh
  have hdl : (C.drop (i * 2)).length = (n - i) * 2 := by rw [List.length_drop, hCl]; omega
  have hcat : ∀ j x, (C.drop (i * 2))[j]? = some x → cur.toList[i * 2 + j]? = some x := fun j x hj => by
    rw [List.getElem?_drop] at hj
    have hlt := (List.getElem?_eq_some_iff.1 hj).1
    rw [← htake, List.getElem?_take, if_pos hlt] at hj
    exact hj
  have hcp1 : ∀ ty dc sc, (Builtin.copy_ #[22, 22] ty #[.slice (some ⟨g, (i + 1) * 2, none⟩) (n - i) dc, .slice (some ⟨g, i * 2, none⟩) (n + 1 - i) sc]).run Tryz.prog w.drew = .ok (goInt (Nat.min (n + 1 - i) (n - i))) (w.drew.setRow g A1.toArray) := fun ty dc sc => by
    have := run_copy_attr w.drew ty g ((i + 1) * 2) (n - i) dc ⟨g, i * 2, none⟩ (n + 1 - i) sc cur 54 (C.drop (i * 2)) hg (by rw [hdl]; simp only [Nat.min_def]; split <;> omega)
      (fun j x hj => by
        have := hcat j x hj
        rw [Addr.add_lit]
        show w.cell? _ = _
        simp only [World.cell?, hg]
        simpa using this)
      (by rw [hdl, hcs]; omega) (fun x hx => h1 x (List.mem_of_mem_drop hx))
    rw [show (i + 1) * 2 = i * 2 + 2 from by omega] at this ⊢
    rw [← hA1] at this
    exact this
  have hg1 : (w.drew.setRow g A1.toArray).heap[g]? = some (.cells A1.toArray 54 (0, 0)) := setRow_heap w.drew g cur A1.toArray 54 (0, 0) hg
  have hv1 : (w.drew.setRow g A1.toArray).heap[vb]? = some (.cells #[.string X, u] 54 (0, 0)) := (setRow_other w.drew g vb _ hne).trans hv
  have hcp2 : ∀ ty dc, (Builtin.copy_ #[22, 22] ty #[.slice (some ⟨g, i * 2, none⟩) (n + 1 - i) dc, .slice (some ⟨vb, 0, none⟩) 1 1]).run Tryz.prog (w.drew.setRow g A1.toArray) = .ok (goInt (Nat.min 1 (n + 1 - i))) ((w.drew.setRow g A1.toArray).setRow g (A1.take (i * 2) ++ [Value.string X, u] ++ A1.drop (i * 2 + 2)).toArray) := fun ty dc => by
    have := run_copy_attr (w.drew.setRow g A1.toArray) ty g (i * 2) (n + 1 - i) dc ⟨vb, 0, none⟩ 1 1 A1.toArray 54 [Value.string X, u] hg1 (by simp only [Nat.min_def]; split <;> simp <;> omega)
      (fun j x hj => by
        rw [Addr.add_lit, Nat.zero_add]
        simp only [World.cell?, hv1]
        simpa using hj)
      (by simp [hl1, hcs]; omega) (by intro x hx; simp at hx; rcases hx with rfl | rfl; rfl; exact hu1)
    simpa using this
  obtain ⟨A2, hA2⟩ : ∃ A2, A2 = A1.take (i * 2) ++ [Value.string X, u] ++ A1.drop (i * 2 + 2) := ⟨_, rfl⟩
  rw [← hA2] at hcp2 hr hl2
  obtain ⟨W1, hW1⟩ : ∃ W1, W1 = w.drew.setRow g A1.toArray := ⟨_, rfl⟩
  rw [← hW1] at hcp1 hcp2
  have hfin : InsW B w (some g) (P.take i ++ (X.data.toList, u) :: P.drop i) (.returned (.slice (some ⟨g, 0, none⟩) (n + 1) cap)) (W1.setRow g A2.toArray) := by
    have hh := setRow_heap W1 g A1.toArray A2.toArray 54 (0, 0) (by rw [hW1]; exact hg1)
    have hlen : (P.take i ++ (X.data.toList, u) :: P.drop i).length = n + 1 := by simp; omega
    have hcl : cellsP (P.take i ++ (X.data.toList, u) :: P.drop i) = C.take (i * 2) ++ [Value.string X, u] ++ C.drop (i * 2) := by
      rw [cellsP_append, hC, cellsP_take, cellsP_drop]
      show _ ++ (strV X.data.toList :: u :: cellsP (P.drop i)) = _
      rw [strV_whole]; simp
    refine ⟨_, rfl, ?_, ?_, .inl rfl⟩
    · unfold RowP
      rw [hlen, hcl]
      refine ⟨by simp [hCl]; omega, .inr ⟨g, cap, A2.toArray, rfl, hBg, hh, by omega, by unfold maxLen; omega, by simp [hl2, hcs], ?_⟩⟩
      rw [show A2.toArray.toList = A2 from by simp, hr]
      exact List.take_left' (by simp [hCl]; omega)
    · exact ⟨by rw [hW1]; rfl, by rw [hW1]; rfl, by rw [hW1]; rfl, by rw [hW1]; simp [World.setRow], fun k hk hne => by
        have hkg : k ≠ g := fun e => hne (by rw [e])
        rw [setRow_other _ _ _ _ hkg, hW1, setRow_other _ _ _ _ hkg]; rfl⟩
  have HFin := Lib.hid hfin
  have mixed : Tryz.prog.follows Departure.mixedOrders = true := by kernel_rfl
  clear hn hfin hW1 hA2 hr hl2 hA1 hl1 hg1 hv1 hcat hdl hC htake h1 hCl hcur hcs
  go_enter Tryz.func99, Tryz.ntmps99
  go_wp2_with (simp only [hov])
  go_region_law_o (refine Go.Proofs.step_copy_runI rfl _ _ 22 22 rfl _ _ (by simp [Act.eval, Act.put]) (by simp [Act.eval, Act.put]) (hcp1 _ _ _) ?_)
  go_wp2_with (at_builtin; refine Go.Proofs.wpList_copy_runI _ rfl _ _ 22 22 rfl _ _ rfl rfl (hcp2 _ _) ?_)
  go_ret
  exact HFin.out

theorem grow_row {α : Type} {C Z : List α} {k : Nat} {x y : α} {row : List α} (hk : k ≤ C.length) (hrow : row = C.take k ++ Z) (hl : C.length + 2 ≤ row.length) :
    let R1 := row.take k ++ [x, y] ++ row.drop (k + 2)
    R1.length = row.length ∧ ∃ r, R1.take (k + 2) ++ C.drop k ++ R1.drop (k + 2 + (C.drop k).length) = (C.take k ++ [x, y] ++ C.drop k) ++ r ∧ (R1.take (k + 2) ++ C.drop k ++ R1.drop (k + 2 + (C.drop k).length)).length = row.length := by
  have e1 : (C.take k).length = k := by rw [List.length_take]; omega
  have e0 : row.take k = C.take k := by rw [hrow]; exact List.take_left' e1
  have e2 : (C.drop k).length = C.length - k := List.length_drop
  have hl1 : (row.take k ++ [x, y] ++ row.drop (k + 2)).length = row.length := by simp; omega
  refine ⟨hl1, (row.take k ++ [x, y] ++ row.drop (k + 2)).drop (k + 2 + (C.drop k).length), ?_, by simp; omega⟩
  have f1 : (row.take k ++ [x, y] ++ row.drop (k + 2)).take (k + 2) = C.take k ++ [x, y] := by
    rw [List.take_left' (by simp; omega), e0]
  rw [f1]

set_option maxRecDepth 100000 in
set_option maxHeartbeats 4000000 in
theorem insert_grow (P : List PT) (B g cap i vb : Nat) (cur : Array Value) (X : ByteArray) (u : Value) (hu1 : u.oneCell' = true) (w : World) (hBw : B ≤ w.heap.size) (hg : w.heap[g]? = some (.cells cur 54 (0, 0)))
    (hcs : cur.size = cap * 2) (htake : cur.toList.take (cellsP P).length = cellsP P) (hi : i < P.length) (hnc : P.length ≤ cap) (hroom : cap < P.length + 1) (hcm : P.length ≤ 1000000) (hv : w.heap[vb]? = some (.cells #[.string X, u] 54 (0, 0))) (h1 : ∀ x ∈ cellsP P, x.oneCell' = true) (ob : Option Nat) :
    Calls Tryz.prog 99 #[.slice (some ⟨g, 0, none⟩) P.length cap, .int .i64 i, .slice (some ⟨vb, 0, none⟩) 1 1] w (InsW B w ob (P.take i ++ (X.data.toList, u) :: P.drop i)) := by
  obtain ⟨n, hn⟩ : ∃ n, n = P.length := ⟨_, rfl⟩
  rw [← hn] at hi hroom hnc hcm ⊢
  obtain ⟨i0, hi0, hz0, hzs, hzb⟩ := info_parts infoA
  have hgw : g < w.heap.size := (Array.getElem?_eq_some_iff.1 hg).1
  have hvw : vb < w.heap.size := (Array.getElem?_eq_some_iff.1 hv).1
  have hCl : (cellsP P).length = n * 2 := by rw [cellsP_length, hn]
  obtain ⟨C, hC⟩ : ∃ C, C = cellsP P := ⟨_, rfl⟩
  rw [← hC] at htake h1 hCl
  have hcat : ∀ j x, C[j]? = some x → w.cell? ⟨g, j, none⟩ = some x := fun j x hj => by
    have hlt := (List.getElem?_eq_some_iff.1 hj).1
    rw [← htake, List.getElem?_take, if_pos hlt] at hj
    simp only [World.cell?, hg]
    simpa using hj
  have hkk : (n : Int) + 1 - (i : Int) = ((n + 1 - i : Nat) : Int) := by omega
  have hik : i + (n + 1 - i) = n + 1 := by omega
  have hold : (Builtin.firstCells i0.size i (.slice (some ⟨g, 0, none⟩) i cap)).run Tryz.prog w.drew = .ok (C.take (i * 2)).toArray w.drew := by
    rw [hzs]
    exact run_firstCells_some w.drew 2 i ⟨g, 0, none⟩ i cap (C.take (i * 2)) (by rw [List.length_take]; omega) (fun j v hj => by
      rw [Addr.add_lit, Nat.zero_add]
      rw [List.getElem?_take] at hj
      split at hj
      · exact hcat j v hj
      · cases hj)
  have hbig : (n + 1) * 40 ≤ 140737488355328 := by omega
  obtain ⟨G, hG⟩ : ∃ G, G = grownCap w (n + 1) cap 54 := ⟨_, rfl⟩
  obtain ⟨Z, hZ⟩ : ∃ Z : Array Value, Z = Builtin.zeroCells (Value.agg #[.string ⟨#[]⟩, .slice none 0 0]).cells (n + 1 - i) ++ Builtin.zeroCells (Value.agg #[.string ⟨#[]⟩, .slice none 0 0]).cells (G - (n + 1)) := ⟨_, rfl⟩
  obtain ⟨ROW, hROW⟩ : ∃ ROW : List Value, ROW = C.take (i * 2) ++ Z.toList := ⟨_, rfl⟩
  have hrz : ∀ ty, (Builtin.append_ #[22, 3] ty #[.slice (some ⟨g, 0, none⟩) i cap, .int .i64 ((n : Int) + 1 - (i : Int))]).run Tryz.prog w =
      .ok (.slice (some ⟨w.heap.size, 0, none⟩) (n + 1) G) (w.drew.alloc (.cells ROW.toArray 54)) := fun ty => by
    have h := Lib.run_append_grow_zeros w 22 3 ty 54 i0 _ .i64 .i64 Tryz.underlying22 Tryz.underlying3 hi0 hz0 (some ⟨g, 0, none⟩) i cap (C.take (i * 2)) hold (n + 1 - i) (by omega) (by omega) (by omega) (by omega) (by rw [hzb]; omega) (by rw [hzb, hik]; exact growslice_fits hroom hbig)
    rw [hik, ← hG] at h
    rw [hkk, h, hROW, hZ]
    congr 4
    simp
  have hGn : n + 1 ≤ G := by rw [hG]; exact grownCap_ge w _ _ _
  have hG63 : G ≤ 9223372036854775807 := by
    have := grownCap_le_maxLen w (n + 1) cap 54 (by unfold maxLen; omega)
    rw [← hG] at this
    unfold maxLen at this
    omega
  have hRs : ROW.length = G * 2 := by
    rw [hROW, hZ]
    simp [Builtin.zeroCells, Value.cells, hCl]
    omega
  have hgr := grow_row (x := Value.string X) (y := u) (k := i * 2) (by omega) hROW (by omega)
  simp only at hgr
  obtain ⟨R1, hR1⟩ : ∃ R1, R1 = ROW.take (i * 2) ++ [Value.string X, u] ++ ROW.drop (i * 2 + 2) := ⟨_, rfl⟩
  rw [← hR1] at hgr
  obtain ⟨hl1, r, hr, hl2⟩ := hgr
  obtain ⟨R2, hR2⟩ : ∃ R2, R2 = R1.take (i * 2 + 2) ++ C.drop (i * 2) ++ R1.drop (i * 2 + 2 + (C.drop (i * 2)).length) := ⟨_, rfl⟩
  rw [← hR2] at hr hl2
  have hdl : (C.drop (i * 2)).length = (n - i) * 2 := by rw [List.length_drop, hCl]; omega
  have hW1h : (w.drew.alloc (.cells ROW.toArray 54)).heap[w.heap.size]? = some (.cells ROW.toArray 54 (0, 0)) := heap_alloc_new w.drew _
  have hW1o : ∀ k, k < w.heap.size → (w.drew.alloc (.cells ROW.toArray 54)).heap[k]? = w.heap[k]? := fun k hk => heap_alloc_old w.drew _ hk
  have hcpA : ∀ (W : World), W.heap = (w.drew.alloc (.cells ROW.toArray 54)).heap → ∀ ty dc, (Builtin.copy_ #[22, 22] ty #[.slice (some ⟨w.heap.size, i * 2, none⟩) (n + 1 - i) dc, .slice (some ⟨vb, 0, none⟩) 1 1]).run Tryz.prog W = .ok (goInt (Nat.min 1 (n + 1 - i))) (W.setRow w.heap.size R1.toArray) := fun W hW ty dc => by
    have := run_copy_attr W ty w.heap.size (i * 2) (n + 1 - i) dc ⟨vb, 0, none⟩ 1 1 ROW.toArray 54 [Value.string X, u] (by rw [hW]; exact hW1h) (by simp only [Nat.min_def]; split <;> simp <;> omega)
      (fun j x hj => by
        rw [Addr.add_lit, Nat.zero_add]
        simp only [World.cell?, hW, hW1o vb hvw, hv]
        simpa using hj)
      (by simp [hRs]; omega) (by intro x hx; simp at hx; rcases hx with rfl | rfl; rfl; exact hu1)
    rw [hR1]
    simpa using this
  have hcpB : ∀ (W W0 : World), W0.heap = (w.drew.alloc (.cells ROW.toArray 54)).heap → W.heap = (W0.setRow w.heap.size R1.toArray).heap → ∀ ty dc sc, (Builtin.copy_ #[22, 22] ty #[.slice (some ⟨w.heap.size, (i + 1) * 2, none⟩) (n - i) dc, .slice (some ⟨g, i * 2, none⟩) (n - i) sc]).run Tryz.prog W = .ok (goInt (Nat.min (n - i) (n - i))) (W.setRow w.heap.size R2.toArray) := fun W W0 hW0 hW ty dc sc => by
    have := run_copy_attr W ty w.heap.size ((i + 1) * 2) (n - i) dc ⟨g, i * 2, none⟩ (n - i) sc R1.toArray 54 (C.drop (i * 2)) (by rw [hW]; exact setRow_heap W0 _ ROW.toArray _ _ _ (by rw [hW0]; exact hW1h)) (by rw [hdl]; simp only [Nat.min_def]; split <;> omega)
      (fun j x hj => by
        rw [Addr.add_lit]
        have h2 := hcat (i * 2 + j) x (by rwa [List.getElem?_drop] at hj)
        have h3 : W.heap[g]? = w.heap[g]? := by rw [hW, setRow_other _ _ _ _ (by omega), hW0, hW1o g hgw]
        simpa only [World.cell?, h3] using h2)
      (by rw [hdl]; simp [hl1, hRs]; omega) (fun x hx => h1 x (List.mem_of_mem_drop hx))
    rw [show (i + 1) * 2 = i * 2 + 2 from by omega] at this ⊢
    rw [hR2]
    simpa using this
  have hfin : ∀ (W W0 : World), W0.heap = (w.drew.alloc (.cells ROW.toArray 54)).heap → W.heap = (W0.setRow w.heap.size R1.toArray).heap → W.os = w.os → W.tape = w.tape → W.output = w.output → InsW B w ob (P.take i ++ (X.data.toList, u) :: P.drop i) (.returned (.slice (some ⟨w.heap.size, 0, none⟩) (n + 1) G)) (W.setRow w.heap.size R2.toArray) := fun W W0 hW0 hW e1 e2 e3 => by
    have hh := setRow_heap W w.heap.size R1.toArray R2.toArray 54 (0, 0) (by rw [hW]; exact setRow_heap W0 _ ROW.toArray _ _ _ (by rw [hW0]; exact hW1h))
    have hlen : (P.take i ++ (X.data.toList, u) :: P.drop i).length = n + 1 := by simp; omega
    have hcl : cellsP (P.take i ++ (X.data.toList, u) :: P.drop i) = C.take (i * 2) ++ [Value.string X, u] ++ C.drop (i * 2) := by
      rw [cellsP_append, hC, cellsP_take, cellsP_drop]
      show _ ++ (strV X.data.toList :: u :: cellsP (P.drop i)) = _
      rw [strV_whole]; simp
    refine ⟨_, rfl, ?_, ?_, .inr rfl⟩
    · unfold RowP
      rw [hlen, hcl]
      refine ⟨by simp [hCl]; omega, .inr ⟨w.heap.size, G, R2.toArray, rfl, hBw, hh, by omega, by unfold maxLen; omega, by simp [hl2, hRs], ?_⟩⟩
      rw [show R2.toArray.toList = R2 from by simp, hr]
      exact List.take_left' (by simp [hCl]; omega)
    · refine ⟨e1, e2, e3, ?_, fun k hk _ => ?_⟩
      · have hsz : W.heap.size = (W0.setRow w.heap.size R1.toArray).heap.size := by rw [hW]
        have hsz0 : W0.heap.size = w.heap.size + 1 := by rw [hW0]; simp
        simp [World.setRow] at hsz ⊢
        omega
      · rw [setRow_other _ _ _ _ (by omega), hW, setRow_other _ _ _ _ (by omega), hW0, hW1o k hk]
  have hw1 : IntKind.i64.wrap ((i : Int) + 1) = (i : Int) + 1 := by rw [IntKind.wrap_i64]; omega
  have hb1 : (0 : Int) ≤ (i : Int) + 1 := by omega
  have hz2 : ¬ ((i : Int) = (n : Int)) := by omega
  have hz3 : (cap : Int) < (n : Int) + 1 := by omega
  have hin : i ≤ n := by omega
  have htn : ((i : Int) + 1).toNat = i + 1 := by omega
  have hb3 : (i : Int) ≤ (n : Int) := by omega
  have hci : ¬ (cap = i) := by omega
  have hGi : ¬ (G = i) := by omega
  have hGi1 : ¬ (G = i + 1) := by omega
  have hb5 : i + 1 ≤ n + 1 := by omega
  have HFin := Lib.hid hfin
  have mixed : Tryz.prog.follows Departure.mixedOrders = true := by kernel_rfl
  have hcA := hcpA ((w.alloc (.cells ROW.toArray 54)).drew) rfl
  have HCpB := Lib.hid hcpB
  have HRz := Lib.hid hrz
  clear hn hfin hcpA hcpB hrz hkk hik hold hbig hG hZ hROW hRs hR1 hl1 hr hl2 hR2 hdl hW1h hW1o hcat hC htake h1 hCl hcs hi0 hz0 hzs hzb
  go_enter Tryz.func99, Tryz.ntmps99
  go_wp2_with (at_builtin; refine Lib.wpList_append_run _ rfl _ _ _ _ rfl _ _ rfl rfl _ _ (HRz.out _) ?_)
  go_region_law_o (refine Go.Proofs.step_copy_runI rfl _ _ 22 22 rfl (.slice (some ⟨w.heap.size, (i + 1) * 2, none⟩) (n - i) (G - (i + 1))) (.slice (some ⟨g, i * 2, none⟩) (n - i) (cap - i)) (by simp [Act.eval, Act.put]) (by simp [Act.eval, Act.put]) (HCpB.out ((((w.alloc (.cells ROW.toArray 54)).drew).setRow w.heap.size R1.toArray).drew) ((w.alloc (.cells ROW.toArray 54)).drew) rfl rfl 3 (G - (i + 1)) (cap - i)) ?_)
  go_wp2
  go_ret
  exact HFin.out _ ((w.alloc (.cells ROW.toArray 54)).drew) rfl rfl rfl rfl rfl
end Go.Proofs.YtlimajgmdhhggaaGreatDoor


namespace Go.Proofs.YtlimajgmdhhggaaGreatDoor
open Go.RowKit
set_option linter.unusedVariables false

def RelP (ok : Nat → Prop) (w : World) : List PT → List AT → Prop
  | [], [] => True
  | p :: P, a :: L => (p.1 = a.1 ∧ IsTo ok w a.2 p.2) ∧ RelP ok w P L
  | _, _ => False
theorem RelP.app {ok : Nat → Prop} {w : World} : ∀ {P : List PT} {L : List AT} {P' : List PT} {L' : List AT}, RelP ok w P L → RelP ok w P' L' → RelP ok w (P ++ P') (L ++ L')
  | [], [], _, _, _, h => h
  | p :: P, a :: L, _, _, h, k => ⟨h.1, RelP.app h.2 k⟩
theorem RelP.take {ok : Nat → Prop} {w : World} : ∀ {P : List PT} {L : List AT} (k : Nat), RelP ok w P L → RelP ok w (P.take k) (L.take k)
  | [], [], k, h => by simp [RelP]
  | p :: P, a :: L, 0, h => trivial
  | p :: P, a :: L, k + 1, h => ⟨h.1, RelP.take k h.2⟩
theorem RelP.drop {ok : Nat → Prop} {w : World} : ∀ {P : List PT} {L : List AT} (k : Nat), RelP ok w P L → RelP ok w (P.drop k) (L.drop k)
  | [], [], k, h => by simp [RelP]
  | p :: P, a :: L, 0, h => h
  | p :: P, a :: L, k + 1, h => RelP.drop (P := P) (L := L) k h.2
theorem relP_of {ok : Nat → Prop} {w : World} : ∀ {P : List PT} {L : List AT}, P.length = L.length → (∀ j (h : j < L.length) (h' : j < P.length), P[j].1 = L[j].1 ∧ IsTo ok w L[j].2 P[j].2) → RelP ok w P L
  | [], [], _, _ => trivial
  | [], a :: L, h, _ => by simp at h
  | p :: P, [], h, _ => by simp at h
  | p :: P, a :: L, h, k => ⟨k 0 (by simp) (by simp), relP_of (by simpa using h) (fun j h1 h2 => k (j + 1) (by simpa using h1) (by simpa using h2))⟩
theorem RelP.to {ok : Nat → Prop} {w : World} : ∀ {P : List PT} {L : List AT}, RelP ok w P L → P.length = L.length ∧ (∀ j (h : j < L.length) (h' : j < P.length), P[j].1 = L[j].1 ∧ IsTo ok w L[j].2 P[j].2)
  | [], [], _ => ⟨rfl, fun j h => absurd h (by simp)⟩
  | p :: P, a :: L, h => by
    have ih := RelP.to h.2
    refine ⟨by simp [ih.1], fun j h1 h2 => ?_⟩
    cases j with
    | zero => exact h.1
    | succ j => exact ih.2 j (by simpa using h1) (by simpa using h2)
theorem says_ins {B : Nat} {w w' : World} {v v' : Value} {P : List PT} {L : List AT} {X : List UInt8} {u : Value} {A : List (List UInt8)} (k : Nat) (h : Says B w v P L) (hu : IsTo (fun b => B ≤ b ∧ b < w.heap.size ∧ some b ≠ v.ownBlock) w A u)
    (hg : w.grownBy w' v.ownBlock) (hat : v'.ownBlock = v.ownBlock ∨ v'.ownBlock = some w.heap.size) : Says B w' v' (P.take k ++ (X, u) :: P.drop k) (L.take k ++ (X, A) :: L.drop k) := by
  have ok : ∀ b, (B ≤ b ∧ b < w.heap.size ∧ some b ≠ v.ownBlock) → (B ≤ b ∧ b < w'.heap.size ∧ some b ≠ v'.ownBlock) := fun b hb => ⟨hb.1, Nat.lt_of_lt_of_le hb.2.1 hg.size, by
    rcases hat with e | e
    · rw [e]; exact hb.2.2
    · rw [e]; intro h; have := Option.some.inj h; have := hb.2.1; omega⟩
  have hc : ∀ b o, (B ≤ b ∧ b < w.heap.size ∧ some b ≠ v.ownBlock) → w'.cell? ⟨b, o, none⟩ = w.cell? ⟨b, o, none⟩ := fun b o hb => by
    have := hg.block b hb.2.1 hb.2.2
    simp only [World.cell?, this]
  have hR : RelP (fun b => B ≤ b ∧ b < w'.heap.size ∧ some b ≠ v'.ownBlock) w' P L := relP_of h.1 (fun j h1 h2 => ⟨(h.2 j h1 h2).1, (h.2 j h1 h2).2.imp ok hc⟩)
  exact ((hR.take k).app (show RelP _ _ ((X, u) :: P.drop k) ((X, A) :: L.drop k) from ⟨⟨rfl, hu.imp ok hc⟩, hR.drop k⟩)).to

def insA (L : List AT) (x : AT) : List AT := match L.findIdx? (fun b => gtB b.1 x.1) with
  | some k => L.take k ++ x :: L.drop k
  | none => L ++ [x]
theorem insA_len (L : List AT) (x : AT) : (insA L x).length = L.length + 1 := by
  unfold insA
  split
  · rename_i k hk
    have := (List.findIdx?_eq_some_iff_getElem.1 hk).1
    simp; omega
  · simp

theorem rowP_one {B : Nat} {w : World} {v : Value} {P : List PT} (h : RowP B w v P) (hL : ∀ p ∈ P, p.2.oneCell' = true) : ∀ x ∈ cellsP P, x.oneCell' = true := by
  clear h
  induction P with
  | nil => simp [cellsP]
  | cons p P ih =>
    intro x hx
    simp only [cellsP, List.mem_cons] at hx
    rcases hx with rfl | rfl | hx
    · rfl
    · exact hL p (by simp)
    · exact ih (fun q hq => hL q (by simp [hq])) x hx
theorem says_one {B : Nat} {w : World} {v : Value} {P : List PT} {L : List AT} (h : Says B w v P L) : ∀ p ∈ P, p.2.oneCell' = true := by
  intro p hp
  obtain ⟨j, hj, rfl⟩ := List.getElem_of_mem hp
  obtain ⟨a, c, hv, _⟩ := (h.2 j (by rw [← h.1]; exact hj) hj).2
  rw [hv]; rfl

theorem insertL_any (L : List AT) (v : Value) (B : Nat) (X : ByteArray) (u : Value) (A : List (List UInt8)) (hu1 : u.oneCell' = true) (vb k : Nat) (w : World) (hown : OwnA B w v L) (hk : k ≤ L.length) (hL : L.length + 1 ≤ 1000000) (hB : B ≤ w.heap.size)
    (hu : IsTo (fun b => B ≤ b ∧ b < w.heap.size ∧ some b ≠ v.ownBlock) w A u) (hv : w.heap[vb]? = some (.cells #[.string X, u] 54 (0, 0))) (hne : some vb ≠ v.ownBlock) :
    Calls Tryz.prog 99 #[v, .int .i64 k, .slice (some ⟨vb, 0, none⟩) 1 1] w fun e w' => ∃ v', e = .returned v' ∧ OwnA B w' v' (L.take k ++ (X.data.toList, A) :: L.drop k) ∧ Below B w w' := by
  obtain ⟨P, hr, hsay⟩ := hown
  have hPL := hsay.1
  have hone := rowP_one hr (says_one hsay)
  have key : Calls Tryz.prog 99 #[v, .int .i64 k, .slice (some ⟨vb, 0, none⟩) 1 1] w (InsW B w v.ownBlock (P.take k ++ (X.data.toList, u) :: P.drop k)) := by
    by_cases hend : k = P.length
    · subst hend
      rw [List.take_length, List.drop_length]
      exact insert_end P v B X u hu1 vb w hr (by omega) hB (by simp [World.cell?, hv]) (by simp [World.cell?, hv])
    · have hklt : k < P.length := by omega
      rcases hr.2 with ⟨rfl, hz⟩ | ⟨g, cap, cur, rfl, hBg, hg, hnc, hcm, hcs, htake⟩
      · omega
      · have hne' : vb ≠ g := fun e => hne (by rw [e]; rfl)
        by_cases hroom : P.length + 1 ≤ cap
        · exact insert_shift P B g cap k vb cur X u hu1 w hBg hg hcs (by rw [cellsP_length]; exact htake) hklt hroom (by unfold maxLen at hcm; omega) hne' hv hone
        · exact insert_grow P B g cap k vb cur X u hu1 w hB hg hcs (by rw [cellsP_length]; exact htake) hklt hnc (by omega) (by omega) hv hone _
  refine key.mono fun e w' ⟨v', he, hr', hg', hat⟩ => ⟨v', he, ⟨_, hr', says_ins k hsay hu hg' hat⟩, ?_⟩
  exact (Below.refl B w).grown hg' hB (fun b e => (World.ownsRow.lt hr b e).1)

set_option maxRecDepth 100000 in
set_option maxHeartbeats 4000000 in
theorem insert_any (L : List AT) (v : Value) (B : Nat) (Y : ByteArray) (u : Value) (A : List (List UInt8)) (hu1 : u.oneCell' = true) (w : World) (hown : OwnA B w v L) (hL : L.length ≤ 100000) (hB : B ≤ w.heap.size)
    (hu : IsTo (fun b => B ≤ b ∧ b < w.heap.size ∧ some b ≠ v.ownBlock) w A u) :
    Calls Tryz.prog 59 #[v, .agg #[.string Y, u]] w fun e w' => ∃ v', e = .returned v' ∧ OwnA B w' v' (insA L (Y.data.toList, A)) ∧ Below B w w' := by
  have hmf : ∀ (fn : Fn) (first cap : Array Value) (w : World), (Instr.makeFunc fn first cap).run Tryz.prog w = .ok (.func fn first cap) w := fun _ _ _ _ => rfl
  obtain ⟨sa, sc, hv⟩ := ownA_slice hown
  obtain ⟨n, hn⟩ : ∃ n, n = L.length := ⟨_, rfl⟩
  rw [← hn] at hv
  have HOwn := Lib.hid hown
  have HU := Lib.hid hu
  have hb1 : Below w.heap.size w (w.alloc (.cells #[.string Y, u] 54)) := (Below.refl _ _).alloc (Nat.le_refl _) _
  have HB1 := Lib.hid hb1
  have HOA := Lib.hid (ownA_isA hown (by unfold maxLen; omega))
  have hidx : (idxI L Y.data.toList < 0 ∧ insA L (Y.data.toList, A) = L.take n ++ (Y.data.toList, A) :: L.drop n) ∨ ∃ k : Nat, k < n ∧ idxI L Y.data.toList = k ∧ insA L (Y.data.toList, A) = L.take k ++ (Y.data.toList, A) :: L.drop k := by
    unfold idxI insA
    cases hf : L.findIdx? (fun b => gtB b.1 Y.data.toList) with
    | none => left; exact ⟨by simp, by simp [hn]⟩
    | some k => right; exact ⟨k, by rw [hn]; exact (List.findIdx?_eq_some_iff_getElem.1 hf).1, rfl, rfl⟩
  have HN := Lib.hid hn
  have hn5 : n ≤ 100000 := by omega
  clear hown hu hb1 hn
  subst hv
  rcases hidx with ⟨h1, h2⟩ | ⟨k, hk, h1, h2⟩
  · obtain ⟨I, hI⟩ : ∃ I, idxI L Y.data.toList = I := ⟨_, rfl⟩
    rw [hI] at h1
    have HI := Lib.hid hI
    have H2 := Lib.hid h2
    have t1 : decide (I < 0) = true := by simpa using h1
    clear hI h2
    go_enter Tryz.func59, Tryz.ntmps59
    go_wp2_with (first
      | (go_at_call 97; refine (indexA_any L (by have := HN.out; omega) (.slice sa n sc) Y w.heap.size 0 _ (HOA.out.below HB1.out HB1.out.size) (by simp) (by simp)).mono ?_; rintro e w2 ⟨he, hb2⟩; rw [HI.out] at he; subst he; have f0 : w2.cell? ⟨w.heap.size, 0, none⟩ = some (.string Y) := (hb2.cell (p := ⟨w.heap.size, 0, none⟩) (by simp)).trans (by simp); have f1 : w2.cell? ⟨w.heap.size, 1, none⟩ = some u := (hb2.cell (p := ⟨w.heap.size, 1, none⟩) (by simp)).trans (by simp); have HB2 := Lib.hid (bthen HB1.out hb2); have HB3 := Lib.hid (Below.alloc (bthen HB1.out hb2) (bthen HB1.out hb2).size (.cells #[.string Y, u] 54)); clear hb2)
      | (go_at_call 99; refine (insertL_any L (.slice sa n sc) B Y u A hu1 w2.heap.size n _ (ownA_below HOwn.out HB3.out) (by have := HN.out; omega) (by have := HN.out; omega) (Nat.le_trans hB HB3.out.size) (HU.out.imp (fun b hb => ⟨hb.1, Nat.lt_of_lt_of_le hb.2.1 HB3.out.size, hb.2.2⟩) (fun b o hb => HB3.out.cell (p := ⟨b, o, none⟩) hb.2.1)) (heap_alloc_new w2 _) (fun e => absurd (ownA_lt HOwn.out _ e.symm) (by have := HB2.out.size; omega))).mono ?_; rintro e w4 ⟨v4, rfl, hown4, hb4⟩; have HO4 := Lib.hid hown4; have HB4 := Lib.hid ((HB3.out.mono hB).trans hb4); clear hown4 hb4))
    go_ret
    exact ⟨_, rfl, by rw [H2.out]; exact HO4.out, HB4.out⟩
  · have HI := Lib.hid h1
    have H2 := Lib.hid h2
    have t1 : decide ((k : Int) < 0) = false := by simp
    clear h1 h2
    go_enter Tryz.func59, Tryz.ntmps59
    go_wp2_with (first
      | (go_at_call 97; refine (indexA_any L (by have := HN.out; omega) (.slice sa n sc) Y w.heap.size 0 _ (HOA.out.below HB1.out HB1.out.size) (by simp) (by simp)).mono ?_; rintro e w2 ⟨he, hb2⟩; rw [HI.out] at he; subst he; have f0 : w2.cell? ⟨w.heap.size, 0, none⟩ = some (.string Y) := (hb2.cell (p := ⟨w.heap.size, 0, none⟩) (by simp)).trans (by simp); have f1 : w2.cell? ⟨w.heap.size, 1, none⟩ = some u := (hb2.cell (p := ⟨w.heap.size, 1, none⟩) (by simp)).trans (by simp); have HB2 := Lib.hid (bthen HB1.out hb2); have HB3 := Lib.hid (Below.alloc (bthen HB1.out hb2) (bthen HB1.out hb2).size (.cells #[.string Y, u] 54)); clear hb2)
      | (go_at_call 99; refine (insertL_any L (.slice sa n sc) B Y u A hu1 w2.heap.size k _ (ownA_below HOwn.out HB3.out) (by have := HN.out; omega) (by have := HN.out; omega) (Nat.le_trans hB HB3.out.size) (HU.out.imp (fun b hb => ⟨hb.1, Nat.lt_of_lt_of_le hb.2.1 HB3.out.size, hb.2.2⟩) (fun b o hb => HB3.out.cell (p := ⟨b, o, none⟩) hb.2.1)) (heap_alloc_new w2 _) (fun e => absurd (ownA_lt HOwn.out _ e.symm) (by have := HB2.out.size; omega))).mono ?_; rintro e w4 ⟨v4, rfl, hown4, hb4⟩; have HO4 := Lib.hid hown4; have HB4 := Lib.hid ((HB3.out.mono hB).trans hb4); clear hown4 hb4))
    go_ret
    exact ⟨_, rfl, by rw [H2.out]; exact HO4.out, HB4.out⟩

def nameA (t : List UInt8) : List UInt8 := (canonD t).getD t
set_option maxRecDepth 100000 in
set_option maxHeartbeats 2000000 in
theorem typeName_any (t : ByteArray) (ht : t.size ≤ 281474976710656) (w : World) : Calls Tryz.prog 60 #[.string t] w fun e w' => e = .returned (.string (ofL (nameA t.data.toList))) ∧ Below w.heap.size w w' := by
  have hc := fun w => canon_any t w
  have hcl := fun w => clone_any t w ht
  cases e : canonD t.data.toList with
  | none =>
    have hn : ofL (nameA t.data.toList) = t := bytes_ext (by rw [ofL_list]; unfold nameA; rw [e]; rfl)
    rw [hn]
    simp only [e, canonV] at hc
    have HC := Lib.hid hc
    have HCl := Lib.hid hcl
    clear hc hcl hn e
    go_enter Tryz.func60, Tryz.ntmps60
    go_wp2_with (first
      | (go_at_call 100; refine (HC.out _).mono ?_; rintro e w1 ⟨rfl, hb1⟩; have HB := Lib.hid hb1; clear hb1)
      | (go_at_call 61; refine (HCl.out _).mono ?_; rintro e w2 ⟨rfl, hb2⟩; have HB := Lib.hid (bthen HB.out hb2); clear hb2))
    go_ret
    exact ⟨rfl, HB.out⟩
  | some k =>
    have hn : nameA t.data.toList = k := by unfold nameA; rw [e]; rfl
    rw [hn]
    simp only [e, canonV] at hc
    obtain ⟨K, hK⟩ : ∃ K, K = ofL k := ⟨_, rfl⟩
    have hK2 : (⟨k.toArray⟩ : ByteArray) = K := hK.symm
    rw [← hK]
    simp only [hK2] at hc
    have HC := Lib.hid hc
    clear hc hcl hn e hK hK2
    go_enter Tryz.func60, Tryz.ntmps60
    go_wp2_with (first
      | (go_at_call 100; refine (HC.out _).mono ?_; rintro e w1 ⟨rfl, hb1⟩; have HB := Lib.hid hb1; clear hb1))
    go_ret
    exact ⟨rfl, HB.out⟩
end Go.Proofs.YtlimajgmdhhggaaGreatDoor


namespace Go.Proofs.YtlimajgmdhhggaaGreatDoor
open Go.RowKit
set_option linter.unusedVariables false

set_option maxRecDepth 100000 in
theorem load_any (b o : Nat) (x : Int) (w : World) (h : w.cell? ⟨b, o, none⟩ = some (.int .i64 x)) : Calls Tryz.prog 83 #[.pointer (some ⟨b, o, none⟩)] w fun e w' => e = .returned (.int .i64 x) ∧ w' = w := by
  have hl := run_call_load (P := Tryz.prog) Tryz.func119 (by kernel_rfl) (by kernel_rfl) (by kernel_rfl) .i64 (by kernel_rfl) (a := ⟨b, o, none⟩) (x := x) (w := w) h
  go_enter Tryz.func83, Tryz.ntmps83
  go_wp2
  go_ret
  exact ⟨rfl, rfl⟩
set_option maxRecDepth 100000 in
theorem add_any (b o : Nat) (x : Int) (hx : 0 ≤ x) (hx2 : x ≤ 1000000000) (w : World) (h : w.cell? ⟨b, o, none⟩ = some (.int .i64 x)) (hz : w.frozen? ⟨b, o, none⟩ = false) : Calls Tryz.prog 84 #[.pointer (some ⟨b, o, none⟩), .int .i64 1] w fun e w' => e = .returned (.int .i64 (x + 1)) ∧ w' = w.setCell ⟨b, o, none⟩ (.int .i64 (x + 1)) := by
  have hl := run_call_add (P := Tryz.prog) Tryz.func120 (by kernel_rfl) (by kernel_rfl) (by kernel_rfl) .i64 (by kernel_rfl) (a := ⟨b, o, none⟩) (x := x) (y := 1) (s := x + 1) (w := w) h hz (by
    show Sem.run _ (pure (Value.int .i64 (IntKind.i64.wrap (x + 1)))) w = _
    rw [IntKind.wrap_i64, show (x + 1 + 9223372036854775808) % 18446744073709551616 - 9223372036854775808 = x + 1 from by omega]
    rfl)
  go_enter Tryz.func84, Tryz.ntmps84
  go_wp2
  go_ret
  exact ⟨rfl, rfl⟩

theorem cmpRun (a b : ByteArray) (w : World) : (callFunc 123 #[.string a, .string b]).run Tryz.prog w = .ok (.value (.int .i64 (Extern.BytealgCompare.cmp a b))) w := by
  rw [run_callFunc_extern Tryz.func123 (by kernel_rfl) (by kernel_rfl) (by kernel_rfl) (e := Extern.BytealgCompare.compare) (by kernel_rfl)]
  rfl
def cmpL (a b : List UInt8) : Int := Extern.BytealgCompare.cmp (ofL a) (ofL b)
set_option maxRecDepth 100000 in
theorem compareS_any (a b : ByteArray) (w : World) : Calls Tryz.prog 86 #[.string a, .string b] w fun e w' => e = .returned (.int .i64 (Extern.BytealgCompare.cmp a b)) ∧ w' = w := by
  have hr := cmpRun a b
  go_enter Tryz.func86, Tryz.ntmps86
  go_wp2
  go_ret
  exact ⟨rfl, rfl⟩
set_option maxRecDepth 100000 in
theorem compare_any (a b : ByteArray) (w : World) : Calls Tryz.prog 47 #[.string a, .string b] w fun e w' => e = .returned (.int .i64 (Extern.BytealgCompare.cmp a b)) ∧ w' = w := by
  go_enter Tryz.func47, Tryz.ntmps47
  go_wp2_with (go_at_call 86; refine (compareS_any a b _).mono ?_; rintro e w2 ⟨rfl, rfl⟩)
  go_ret
  exact ⟨rfl, rfl⟩
set_option maxRecDepth 100000 in
set_option maxHeartbeats 1000000 in
theorem typesCmp_any (X Y : ByteArray) (u v : Value) (w : World) : Calls Tryz.prog 46 #[.agg #[.string X, u], .agg #[.string Y, v]] w fun e w' => e = .returned (.int .i64 (Extern.BytealgCompare.cmp X Y)) ∧ Below w.heap.size w w' := by
  have hb : Below w.heap.size w ((w.alloc (.cells #[.string X, u] 54)).alloc (.cells #[.string Y, v] 54)) := ((Below.refl _ _).alloc (Nat.le_refl _) _).alloc (by simp) _
  have HB := Lib.hid hb
  clear hb
  go_enter Tryz.func46, Tryz.ntmps46
  go_wp2_with (go_at_call 47; refine (compare_any X Y _).mono ?_; rintro e w2 ⟨rfl, rfl⟩)
  go_ret
  exact ⟨rfl, HB.out⟩
end Go.Proofs.YtlimajgmdhhggaaGreatDoor


namespace Go.Proofs.YtlimajgmdhhggaaGreatDoor
open Go.RowKit
set_option linter.unusedVariables false

def PairAt (W : World) (b p q : Nat) (X Y : ByteArray) (x y : Value) (w' : World) : Prop :=
  w'.cell? ⟨b, p, none⟩ = some (.string X) ∧ w'.cell? ⟨b, p + 1, none⟩ = some x ∧ w'.cell? ⟨b, q, none⟩ = some (.string Y) ∧ w'.cell? ⟨b, q + 1, none⟩ = some y ∧ b < W.heap.size ∧ Below W.heap.size W w'
theorem PairAt.go {W w1 w2 : World} {b p q : Nat} {X Y : ByteArray} {x y : Value} (h : PairAt W b p q X Y x y w1) (hb : Below w1.heap.size w1 w2) :
    w2.cell? ⟨b, p, none⟩ = some (.string X) ∧ w2.cell? ⟨b, p + 1, none⟩ = some x ∧ w2.cell? ⟨b, q, none⟩ = some (.string Y) ∧ w2.cell? ⟨b, q + 1, none⟩ = some y ∧ PairAt W b p q X Y x y w2 := by
  obtain ⟨h0, h1, h2, h3, h4, h5⟩ := h
  have hlt : b < w1.heap.size := Nat.lt_of_lt_of_le h4 h5.size
  have g0 := (hb.cell (p := ⟨b, p, none⟩) hlt).trans h0
  have g1 := (hb.cell (p := ⟨b, p + 1, none⟩) hlt).trans h1
  have g2 := (hb.cell (p := ⟨b, q, none⟩) hlt).trans h2
  have g3 := (hb.cell (p := ⟨b, q + 1, none⟩) hlt).trans h3
  exact ⟨g0, g1, g2, g3, g0, g1, g2, g3, h4, h5.trans (hb.mono h5.size)⟩
def inOrder (L : List AT) : Prop := ∀ i (h : i + 1 < L.length), ¬ cmpL L[i + 1].1 L[i].1 < 0
set_option maxRecDepth 100000 in
set_option maxHeartbeats 4000000 in
theorem insertion_any (L : List AT) (hl : L.length < 20) (ho : inOrder L) (v : Value) (w : World) (h : IsA w.heap.size w L v) :
    Calls Tryz.prog 121 #[v, .int .i64 0, .int .i64 L.length, .func (.func 46) #[] #[]] w fun e w' => e = .returned (.tuple #[]) ∧ Below w.heap.size w w' := by
  obtain ⟨a, c, rfl, hm, hcell⟩ := h
  have HC := Lib.hid hcell
  have HO := Lib.hid ho
  obtain ⟨n, hn⟩ : ∃ n, n = L.length := ⟨_, rfl⟩
  have HN := Lib.hid hn
  rw [← hn] at hl ⊢
  clear hcell ho hm hn
  go_enter Tryz.func121, Tryz.ntmps121
  go_wp2
  go_loopw [8] (fun i wr => ∃ j : Nat, 1 ≤ j ∧ j ≤ n + 1 ∧ i = .int .i64 j ∧ Below w.heap.size w wr) (fun i wr => n + 1 - (intOf i).toNat)
  case atStart => exact ⟨1, by omega, by omega, rfl, Below.refl _ _⟩
  case round =>
    obtain ⟨j, hj1, hj, rfl, hbel⟩ := hrel
    have HBel := Lib.hid hbel
    have hbs := hbel.size
    by_cases hlt : j < n
    · have t1 : decide ((j : Int) < (n : Int)) = true := by simp; omega
      have t1' : decide (j < n) = true := by simpa using hlt
      have t2 : decide ((0 : Int) < (j : Int)) = true := by simp; omega
      have t2' : decide (0 < j) = true := by simp; omega
      obtain ⟨k, rfl⟩ : ∃ k, j = k + 1 := ⟨j - 1, by omega⟩
      have hk1 : k + 1 < L.length := by rw [← HN.out]; exact hlt
      have hk0 : k < L.length := by omega
      obtain ⟨b, off, x, rfl, hb0, x0, x1, hx⟩ := HC.out (k + 1) hk1
      obtain ⟨b', off', y, hbe, hb0', y0, y1, hy⟩ := HC.out k hk0
      simp only [Option.some.injEq, Addr.mk.injEq, and_true] at hbe
      obtain ⟨rfl, rfl⟩ := hbe
      obtain ⟨xa, xn, xc, rfl⟩ := (show ∃ a k c, x = .slice a k c from by obtain ⟨a, c, hv, _⟩ := hx; exact ⟨a, _, c, hv⟩)
      obtain ⟨ya, yn, yc, rfl⟩ := (show ∃ a k c, y = .slice a k c from by obtain ⟨a, c, hv, _⟩ := hy; exact ⟨a, _, c, hv⟩)
      have hcmp := HO.out k hk1
      unfold cmpL at hcmp
      obtain ⟨X, hX⟩ : ∃ X : ByteArray, ofL L[k + 1].1 = X := ⟨_, rfl⟩
      obtain ⟨Y, hY⟩ : ∃ Y : ByteArray, ofL L[k].1 = Y := ⟨_, rfl⟩
      rw [hX, hY] at hcmp
      obtain ⟨I, hI⟩ : ∃ I, I = Extern.BytealgCompare.cmp X Y := ⟨_, rfl⟩
      rw [← hI] at hcmp
      have hcl : ∀ (p : Addr), p.block < w.heap.size → wr.cell? p = w.cell? p := fun p hp => hbel.cell hp
      have d0 : wr.cell? ⟨b, off + (k + 1) * 2, none⟩ = some (.string X) := by rw [hcl _ hb0, x0, ← hX]; rfl
      have d1 : wr.cell? ⟨b, off + (k + 1) * 2 + 1, none⟩ = some (.slice xa xn xc) := (hcl _ hb0).trans x1
      have e0 : wr.cell? ⟨b, off + k * 2, none⟩ = some (.string Y) := by rw [hcl _ hb0, y0, ← hY]; rfl
      have e1 : wr.cell? ⟨b, off + k * 2 + 1, none⟩ = some (.slice ya yn yc) := (hcl _ hb0).trans y1
      have t3 : decide (I < 0) = false := by simpa using hcmp
      have HI := Lib.hid hI
      have HCm := Lib.hid (fun w => typesCmp_any X Y (.slice xa xn xc) (.slice ya yn yc) w)
      have q1 : ((k : Int) + 1) < (n : Int) := by omega
      have q2 : (k : Int) < (n : Int) := by omega
      have q3 : (0 : Int) < (k : Int) + 1 := by omega
      have q4 : (0 : Int) ≤ (k : Int) + 1 := by omega
      have q5 : ((k : Int) + 1).toNat = k + 1 := by omega
      have q6 : IntKind.i64.wrap ((k : Int) + 1 - 1) = (k : Int) := by rw [IntKind.wrap_i64]; omega
      have q7 : (k : Int) + 1 - 1 = (k : Int) := by omega
      have q8 : IntKind.i64.wrap (k : Int) = (k : Int) := by rw [IntKind.wrap_i64]; omega
      have q9 : (0 : Int) ≤ (k : Int) := by omega
      have q10 : k < n := by omega
      clear hcl x0 x1 y0 y1 hX hY hI hcmp hx hy hbel hb0'
      go_wp2
      have hdr : Below wr.heap.size wr wr.drew := ⟨rfl, rfl, rfl, Nat.le_refl _, fun _ _ => rfl⟩
      have hbw : b < wr.heap.size := Nat.lt_of_lt_of_le hb0 hbs
      clear hdr
      go_loopw [9] (fun i wx => i = .int .i64 ((k : Int) + 1) ∧ Hid (wx = wr)) (fun i wx => 1)
      case atStart => exact ⟨by go_num, Lib.hid rfl⟩
      case round =>
        obtain ⟨rfl, hwx⟩ := hrel
        have hwx := hwx.out
        subst hwx
        go_wp2
        have hst : PairAt wr b (off + (k + 1) * 2) (off + k * 2) X Y (.slice xa xn xc) (.slice ya yn yc) wr := ⟨d0, d1, e0, e1, hbw, Below.refl _ _⟩
        have hst := hst.go (Below.refl _ _)
        go_region_held3 (fun w' => w'.cell? ⟨b, off + (k + 1) * 2, none⟩ = some (.string X) ∧ w'.cell? ⟨b, off + (k + 1) * 2 + 1, none⟩ = some (.slice xa xn xc) ∧ w'.cell? ⟨b, off + k * 2, none⟩ = some (.string Y) ∧ w'.cell? ⟨b, off + k * 2 + 1, none⟩ = some (.slice ya yn yc) ∧ PairAt wr b (off + (k + 1) * 2) (off + k * 2) X Y (.slice xa xn xc) (.slice ya yn yc) w')
          (first | exact hst | (go_split_ands; exact PairAt.go (by assumption) hb5) | (go_split_ands; exact PairAt.go (by assumption) (Below.refl _ _).drew) | (go_split_ands; exact PairAt.go (by assumption) (Below.refl _ _)))
          (first | (go_at_call 46; go_split_ands; ((with_reducible refine (HCm.out _).mono ?_); rintro e w5 ⟨he, hb5⟩; rw [← HI.out] at he; subst he)))
        go_split_ands
        have hT : PairAt wr b (off + (k + 1) * 2) (off + k * 2) X Y (.slice xa xn xc) (.slice ya yn yc) w5 := by assumption
        have HT := Lib.hid (HBel.out.trans (hT.2.2.2.2.2.mono hbs))
        clear hT
        go_wp2
        go_roundw
        case rel => exact ⟨k + 2, by omega, by omega, by go_num, HT.out⟩
        case measure => simp [intOf]; omega
    · have t1 : decide ((j : Int) < (n : Int)) = false := by simp; omega
      have t1' : decide (j < n) = false := by simp; omega
      clear hbel
      go_wp2
      go_end0
      exact ⟨rfl, HBel.out⟩

set_option maxRecDepth 100000 in
set_option maxHeartbeats 4000000 in
theorem stable_any (L : List AT) (hl : L.length < 20) (ho : inOrder L) (v : Value) (w : World) (h : IsA w.heap.size w L v) :
    Calls Tryz.prog 85 #[v, .int .i64 L.length, .func (.func 46) #[] #[]] w fun e w' => e = .returned (.tuple #[]) ∧ Below w.heap.size w w' := by
  have hi := insertion_any L hl ho v w h
  obtain ⟨sa, sn, sc, rfl⟩ := (show ∃ a k c, v = .slice a k c from by obtain ⟨a, c, hv, _⟩ := h; exact ⟨a, _, c, hv⟩)
  obtain ⟨n, hn⟩ : ∃ n, n = L.length := ⟨_, rfl⟩
  rw [← hn] at hi hl ⊢
  have HI := Lib.hid hi
  have t1 : decide ((20 : Int) ≤ (n : Int)) = false := by simp; omega
  have t1' : decide (20 ≤ n) = false := by simp; omega
  have t2 : decide ((20 : Int) < (n : Int)) = false := by simp; omega
  have t2' : decide (20 < n) = false := by simp; omega
  clear hi hn h ho
  go_enter Tryz.func85, Tryz.ntmps85
  go_wp2
  go_loopw [7, 8] (fun a b wr => a = .int .i64 0 ∧ b = .int .i64 20 ∧ Hid (wr = w)) (fun a b wr => 1)
  case atStart => exact ⟨rfl, rfl, Lib.hid rfl⟩
  case round =>
    obtain ⟨rfl, rfl, hwr⟩ := hrel
    have hwr := hwr.out
    subst hwr
    go_wp2_with (go_at_call 121; refine (HI.out).mono ?_; rintro e w2 ⟨rfl, hb2⟩; have HB2 := Lib.hid hb2; clear hb2)
    go_loopw [6] (fun a wx => a = .int .i64 20 ∧ Hid (wx = w2)) (fun a wx => 1)
    case atStart => exact ⟨rfl, Lib.hid rfl⟩
    case round =>
      obtain ⟨rfl, hwr2⟩ := hrel
      have hwr2 := hwr2.out
      subst hwr2
      go_wp2
      go_end0
      exact ⟨rfl, HB2.out⟩

set_option maxRecDepth 100000 in
set_option maxHeartbeats 1000000 in
theorem sorted_any (L : List AT) (hl : L.length < 20) (ho : inOrder L) (v : Value) (w : World) (h : IsA w.heap.size w L v) :
    Calls Tryz.prog 45 #[v, .func (.func 46) #[] #[]] w fun e w' => e = .returned (.tuple #[]) ∧ Below w.heap.size w w' := by
  have hi := stable_any L hl ho v w h
  obtain ⟨sa, sc, hv, _⟩ := h
  obtain ⟨n, hn⟩ : ∃ n, n = L.length := ⟨_, rfl⟩
  rw [← hn] at hi hv
  subst hv
  have HI := Lib.hid hi
  clear hi hn ho
  go_enter Tryz.func45, Tryz.ntmps45
  go_wp2_with (go_at_call 85; refine (HI.out).mono ?_; rintro e w2 ⟨rfl, hb2⟩; have HB2 := Lib.hid hb2; clear hb2)
  go_end0
  exact ⟨rfl, HB2.out⟩
end Go.Proofs.YtlimajgmdhhggaaGreatDoor


namespace Go.Proofs.YtlimajgmdhhggaaGreatDoor
open Go.RowKit
set_option linter.unusedVariables false

def setA (L : List AT) (t : List UInt8) (V : List (List UInt8)) : List AT := if V = [] then withoutA L t else insA (withoutA L t) (nameA t, V)
theorem ownA_lower {B B' : Nat} {w : World} {v : Value} {L : List AT} (h : OwnA B w v L) (hle : B' ≤ B) : OwnA B' w v L := by
  obtain ⟨P, hr, hs⟩ := h
  refine ⟨P, ⟨hr.1, hr.2.imp id fun ⟨g, cap, cur, e1, hb, rest⟩ => ⟨g, cap, cur, e1, Nat.le_trans hle hb, rest⟩⟩, hs.1, fun j h1 h2 => ⟨(hs.2 j h1 h2).1, (hs.2 j h1 h2).2.imp (fun b hb => ⟨Nat.le_trans hle hb.1, hb.2⟩) (fun _ _ _ => rfl)⟩⟩
theorem ownA_set {B : Nat} {w : World} {v : Value} {L : List AT} (h : OwnA B w v L) (a : Addr) (x : Value) (ha : a.block < B) : OwnA B (w.setCell a x) v L := by
  obtain ⟨P, hr, hs⟩ := h
  have hblk : ∀ k, k ≠ a.block → (w.setCell a x).heap[k]? = w.heap[k]? := fun k hk => by
    unfold World.setCell
    simp [Array.getElem?_modify, Ne.symm hk]
  refine ⟨P, ⟨hr.1, hr.2.imp id fun ⟨g, cap, cur, e1, hb, hg, rest⟩ => ⟨g, cap, cur, e1, hb, (hblk g (by omega)).trans hg, rest⟩⟩, hs.1, fun j h1 h2 => ⟨(hs.2 j h1 h2).1, (hs.2 j h1 h2).2.imp (fun b hb => ⟨hb.1, by simpa [World.setCell] using hb.2.1, hb.2.2⟩) (fun b o hb => by
    have := hblk b (by have := hb.1; omega)
    simp only [World.cell?, this])⟩⟩

theorem ownA_sl {B : Nat} {w : World} {v : Value} {L : List AT} (h : OwnA B w v L) : ∃ a n c, v = .slice a n c := by
  obtain ⟨a, c, h⟩ := ownA_slice h
  exact ⟨a, _, c, h⟩
def BoxE (b : Nat) (d : ByteArray) (w : World) : Prop := w.cell? ⟨b, 0, none⟩ = some (.string d) ∧ w.cell? ⟨b + 1, 0, none⟩ = some (.string ⟨#[]⟩) ∧ w.cell? ⟨b + 1, 1, none⟩ = some (.slice none 0 0) ∧ w.frozen? ⟨b + 1, 0, none⟩ = false ∧ w.frozen? ⟨b + 1, 1, none⟩ = false
theorem BoxE.go {b n : Nat} {d : ByteArray} {w w' : World} (h : BoxE b d w) (hb : Below n w w') (hn : b + 2 ≤ n) : BoxE b d w' :=
  ⟨(hb.cell (p := ⟨b, 0, none⟩) (show b < n by omega)).trans h.1, (hb.cell (p := ⟨b + 1, 0, none⟩) (show b + 1 < n by omega)).trans h.2.1, (hb.cell (p := ⟨b + 1, 1, none⟩) (show b + 1 < n by omega)).trans h.2.2.1,
   (hb.frozen (p := ⟨b + 1, 0, none⟩) (show b + 1 < n by omega)).trans h.2.2.2.1, (hb.frozen (p := ⟨b + 1, 1, none⟩) (show b + 1 < n by omega)).trans h.2.2.2.2⟩
theorem boxE_new (w : World) (d : ByteArray) (x : Value) : BoxE w.heap.size d ((w.alloc (.cells #[.string d, x] 24)).alloc (.cells #[.string ⟨#[]⟩, .slice none 0 0] 24)) := by
  refine ⟨by simp, by simp, by simp, by simp, by simp⟩

set_option maxRecDepth 100000 in
set_option maxHeartbeats 4000000 in
theorem set_any (d t : ByteArray) (L : List AT) (V : List (List UInt8)) (hd : d.size ≤ 281474976710656) (ht : t.size ≤ 281474976710656) (hs : smallA L) (hV : smallT V) (v vv : Value) (w : World) (h : IsA w.heap.size w L v) (hvv : IsT w.heap.size w V vv) :
    Calls Tryz.prog 20 #[.agg #[.string d, v], .string t, vv] w fun e w' => ∃ v', e = .returned (.agg #[.string d, v']) ∧ OwnA w.heap.size w' v' (setA L t.data.toList V) ∧ Below w.heap.size w w' := by
  obtain ⟨sa, sc, hv, _⟩ := id h
  obtain ⟨sn, hsn⟩ : ∃ n, n = L.length := ⟨_, rfl⟩
  rw [← hsn] at hv
  subst hv
  obtain ⟨va, vc, hv2, _⟩ := id hvv
  obtain ⟨vn, hvn⟩ : ∃ n, n = V.length := ⟨_, rfl⟩
  rw [← hvn] at hv2
  subst hv2
  have HI := Lib.hid h
  have HVv := Lib.hid hvv
  have HS := Lib.hid hs
  have HVs := Lib.hid hV
  have HVn := Lib.hid hvn
  have hcl := fun w => clone_any d w hd
  have HCl := Lib.hid hcl
  have htn := fun w => typeName_any t ht w
  obtain ⟨T, hT⟩ : ∃ T, T = ofL (nameA t.data.toList) := ⟨_, rfl⟩
  have hTl : T.data.toList = nameA t.data.toList := by rw [hT, ofL_list]
  simp only [← hT] at htn
  have HTn := Lib.hid htn
  have HTl := Lib.hid hTl
  have hwl : (withoutA L t.data.toList).length ≤ 1000 := Nat.le_trans (List.length_filter_le _ _) hs.1
  have hb0 : Below w.heap.size w ((w.alloc (.cells #[.string d, .slice sa sn sc] 24)).alloc (.cells #[.string ⟨#[]⟩, .slice none 0 0] 24)) := ((Below.refl _ _).alloc (Nat.le_refl _) _).alloc (by simp) _
  have HB0 := Lib.hid hb0
  have HBx := Lib.hid (boxE_new w d (.slice sa sn sc))
  clear h hvv hs hV hsn hvn hcl htn hT hTl hb0
  by_cases hV0 : vn = 0
  · have t1 : decide ((0 : Int) < (vn : Int)) = false := by simp; omega
    have t1' : decide (0 < vn) = false := by simp; omega
    go_enter Tryz.func20, Tryz.ntmps20
    go_wp2_with (first
      | (go_at_call 58; refine (without_any L HS.out (.slice sa sn sc) t _ (HI.out.below HB0.out HB0.out.size)).mono ?_; rintro e w2 ⟨v2, rfl, hown2, hb2⟩; (obtain ⟨ra, rn, rc, rfl⟩ := ownA_sl hown2); have HBx2 := Lib.hid (HBx.out.go hb2 (by simp)); have f0 := HBx2.out.1; have HO := Lib.hid (ownA_lower (B' := w.heap.size + 2) hown2 (by simp)); have HB := Lib.hid (HB0.out.trans (hb2.mono HB0.out.size)); have hz2 := hb2.size; (simp only [World.size_alloc] at hz2); clear hown2 hb2)
      | (go_at_call 61; refine (HCl.out _).mono ?_; rintro e w6 ⟨rfl, hb6⟩; obtain ⟨_, p0, p1, q0, q1⟩ := HBx2.out.go hb6 (by omega); have HO := Lib.hid (ownA_below HO.out hb6); have HB := Lib.hid (bthen HB.out hb6); clear hb6))
    refine bodyPost_ret (v := .agg #[.string d, (.slice ra rn rc)]) (by simp [results, Tryz.results20, go_sem, p0, p1]) rfl ⟨_, rfl, ?_, (HB.out.setCell (p := ⟨w.heap.size + 1, 0, none⟩) (show w.heap.size ≤ w.heap.size + 1 by omega) _).setCell (p := ⟨w.heap.size + 1, 1, none⟩) (show w.heap.size ≤ w.heap.size + 1 by omega) _⟩
    have ho := ownA_set (ownA_set HO.out ⟨w.heap.size + 1, 0, none⟩ (.string d) (show w.heap.size + 1 < w.heap.size + 2 by omega)) ⟨w.heap.size + 1, 1, none⟩ (.slice ra rn rc) (show w.heap.size + 1 < w.heap.size + 2 by omega)
    have ho2 := ownA_lower (B' := w.heap.size) ho (by omega)
    unfold setA
    rw [if_pos (List.eq_nil_of_length_eq_zero (by rw [← HVn.out]; exact hV0))]
    exact ho2
  · have t1 : decide ((0 : Int) < (vn : Int)) = true := by simp; omega
    have t1' : decide (0 < vn) = true := by simp; omega
    go_enter Tryz.func20, Tryz.ntmps20
    go_wp2_with (first
      | (go_at_call 58; refine (without_any L HS.out (.slice sa sn sc) t _ (HI.out.below HB0.out HB0.out.size)).mono ?_; rintro e w2 ⟨v2, rfl, hown2, hb2⟩; (obtain ⟨ra, rn, rc, rfl⟩ := ownA_sl hown2); have HBx2 := Lib.hid (HBx.out.go hb2 (by simp)); have f0 := HBx2.out.1; have HO := Lib.hid (ownA_lower (B' := w.heap.size + 2) hown2 (by simp)); have HB := Lib.hid (HB0.out.trans (hb2.mono HB0.out.size)); have hz2 := hb2.size; (simp only [World.size_alloc] at hz2); clear hown2 hb2)
      | (go_at_call 60; refine (HTn.out _).mono ?_; rintro e w3 ⟨rfl, hb3⟩; have HBx3 := Lib.hid (HBx2.out.go hb3 (by omega)); have HO := Lib.hid (ownA_below HO.out hb3); have HB := Lib.hid (bthen HB.out hb3); have hz3 := hb3.size; clear hb3)
      | (go_at_call 51; refine (copyVals_any V HVs.out _ _ (HVv.out.below HB.out HB.out.size)).mono ?_; rintro e w4 ⟨u4, rfl, hu4, hb4⟩; have HU4 := Lib.hid (ownS_isTo hu4 (by have := HVs.out.1; unfold maxLen; omega)); (obtain ⟨xa, xc, rfl⟩ := ownS_slice hu4); have HOl := HO; have HBx4 := Lib.hid (HBx3.out.go hb4 (by omega)); have HO := Lib.hid (ownA_below HO.out hb4); have HB := Lib.hid (bthen HB.out hb4); have hz4 := hb4.size; clear hu4 hb4)
      | (go_at_call 59; refine (insert_any (withoutA L t.data.toList) _ (w.heap.size + 2) T _ V rfl _ HO.out (by omega) (by omega) (HU4.out.imp (fun b hb => ⟨by have := hb.1; omega, hb.2, fun e => absurd (ownA_lt HOl.out b e.symm) (by have := hb.1; omega)⟩) (fun _ _ _ => rfl))).mono ?_; rintro e w5 ⟨v5, rfl, hown5, hb5⟩; (obtain ⟨ra5, rn5, rc5, rfl⟩ := ownA_sl hown5); have HBx2 := Lib.hid (HBx4.out.go hb5 (by omega)); have f0 := HBx2.out.1; have HO := Lib.hid hown5; have hz5 := hb5.size; have HB := Lib.hid (HB.out.trans (hb5.mono (by omega))); clear hown5 hb5)
      | (go_at_call 61; refine (HCl.out _).mono ?_; rintro e w6 ⟨rfl, hb6⟩; obtain ⟨_, p0, p1, q0, q1⟩ := HBx2.out.go hb6 (by omega); have HO := Lib.hid (ownA_below HO.out hb6); have HB := Lib.hid (bthen HB.out hb6); clear hb6))
    refine bodyPost_ret (v := .agg #[.string d, (.slice ra5 rn5 rc5)]) (by simp [results, Tryz.results20, go_sem, p0, p1]) rfl ⟨_, rfl, ?_, (HB.out.setCell (p := ⟨w.heap.size + 1, 0, none⟩) (show w.heap.size ≤ w.heap.size + 1 by omega) _).setCell (p := ⟨w.heap.size + 1, 1, none⟩) (show w.heap.size ≤ w.heap.size + 1 by omega) _⟩
    have ho := ownA_set (ownA_set HO.out ⟨w.heap.size + 1, 0, none⟩ (.string d) (show w.heap.size + 1 < w.heap.size + 2 by omega)) ⟨w.heap.size + 1, 1, none⟩ (.slice ra5 rn5 rc5) (show w.heap.size + 1 < w.heap.size + 2 by omega)
    have ho2 := ownA_lower (B' := w.heap.size) ho (by omega)
    unfold setA
    rw [if_neg (fun e => hV0 (by rw [HVn.out, e]; rfl)), ← HTl.out]
    exact ho2
end Go.Proofs.YtlimajgmdhhggaaGreatDoor


namespace Go.Proofs.YtlimajgmdhhggaaGreatDoor
open Go.RowKit
set_option linter.unusedVariables false

def nameN (s : List UInt8) : List UInt8 := match parseD s with
  | some l => textD l
  | none => s
set_option maxRecDepth 100000 in
set_option maxHeartbeats 2000000 in
theorem nameText_any (s : ByteArray) (hs : s.size ≤ 140737488351232) (w : World) : Calls Tryz.prog 48 #[.string s] w fun e w' => e = .returned (strV (nameN s.data.toList)) ∧ Below w.heap.size w w' := by
  have hp := fun w => parse_any s hs w
  have hcl := fun w => clone_any s w (by omega)
  cases e : parseD s.data.toList with
  | none =>
    have hn : strV (nameN s.data.toList) = .string s := by unfold nameN; rw [e]; exact strV_whole s
    rw [hn]
    simp only [e] at hp
    have HP := Lib.hid hp
    have HCl := Lib.hid hcl
    clear hp hcl hn e
    go_enter Tryz.func48, Tryz.ntmps48
    go_wp2_with (first
      | (go_at_call 87; refine (HP.out _).mono ?_; rintro e w1 ⟨hb1, rfl⟩; have HB := Lib.hid hb1; clear hb1)
      | (go_at_call 61; refine (HCl.out _).mono ?_; rintro e w2 ⟨rfl, hb2⟩; have HB := Lib.hid (bthen HB.out hb2); clear hb2))
    go_ret
    exact ⟨rfl, HB.out⟩
  | some l =>
    have hsm := okL_small (parse_ok e)
    have hn : nameN s.data.toList = textD l := by unfold nameN; rw [e]
    rw [hn]
    obtain ⟨T, hT⟩ : ∃ T : ByteArray, strV (textD l) = .string T := ⟨_, rfl⟩
    have ht := fun v w h => text_any l hsm v w h
    simp only [hT] at ht
    rw [hT]
    simp only [e] at hp
    have HP := Lib.hid hp
    have HTx := Lib.hid ht
    have HSm := Lib.hid hsm
    clear hp hcl hn e ht hT hsm
    go_enter Tryz.func48, Tryz.ntmps48
    go_wp2_with (first
      | (go_at_call 87; refine (HP.out _).mono ?_; rintro e w1 ⟨hb1, hpp⟩; (obtain ⟨v1, rfl, hown1⟩ := hpp); have HIL := Lib.hid (ownR_isL hown1 (by have := HSm.out.1; unfold maxLen; omega)); (obtain ⟨sa, sc, hsv⟩ := ownR_slice hown1); (obtain ⟨sn, hsn⟩ : ∃ n, n = l.length := ⟨_, rfl⟩); rw [← hsn] at hsv; subst hsv; have HB := Lib.hid hb1; clear hb1 hown1 hsn)
      | (go_at_call 88; refine (HTx.out _ _ HIL.out).mono ?_; rintro e w2 ⟨rfl, hb2⟩; have HB := Lib.hid (bthen HB.out hb2); clear hb2))
    go_ret
    exact ⟨rfl, HB.out⟩

set_option maxRecDepth 100000 in
set_option maxHeartbeats 1000000 in
theorem more_any (mb : Nat) (sa : Option Addr) (n sc j : Nat) (w : World) (h0 : w.cell? ⟨mb, 0, none⟩ = some (.slice sa n sc)) (h1 : w.cell? ⟨mb, 1, none⟩ = some (.int .i64 j)) :
    Calls Tryz.prog 43 #[.pointer (some ⟨mb, 0, none⟩)] w fun e w' => e = .returned (.bool (decide ((j : Int) < (n : Int)))) ∧ ∃ m, w' = w.drewN m := by
  have hl := fun k => load_any mb 1 j (w.drewN k) h1
  have HL := Lib.hid hl
  obtain ⟨g, hg⟩ : ∃ g, g = decide ((j : Int) < (n : Int)) := ⟨_, rfl⟩
  have hg1 : decide ((j : Int) < (n : Int)) = g := hg.symm
  have hg2 : decide (j < n) = g := by rw [hg]; simp
  rw [← hg]
  clear hl hg
  go_enter Tryz.func43, Tryz.ntmps43
  go_wp2
  go_quiet ((go_at_call 83; refine Calls.quiet_of_same (HL.out _)))
  go_wp2
  go_ret
  exact ⟨rfl, _, rfl⟩
end Go.Proofs.YtlimajgmdhhggaaGreatDoor


namespace Go.Proofs.YtlimajgmdhhggaaGreatDoor
open Go.RowKit
set_option linter.unusedVariables false

theorem nextAt_of {W : World} {mb b p : Nat} {v : Value} {X : ByteArray} {x : Value} {j : Nat} (hb : b < mb) (c0 : W.cell? ⟨mb, 0, none⟩ = some v) (c1 : W.cell? ⟨mb, 1, none⟩ = some (.int .i64 j)) (cz : W.frozen? ⟨mb, 1, none⟩ = false)
    (e0 : W.cell? ⟨b, p, none⟩ = some (.string X)) (e1 : W.cell? ⟨b, p + 1, none⟩ = some x) :
    ∀ w5, w5 = W.drew.setCell ⟨mb, 1, none⟩ (.int .i64 ((j : Int) + 1)) → w5.cell? ⟨b, p, none⟩ = some (.string X) ∧ w5.cell? ⟨b, p + 1, none⟩ = some x ∧ w5.cell? ⟨mb, 0, none⟩ = some v ∧ w5.cell? ⟨mb, 1, none⟩ = some (.int .i64 ((j : Int) + 1)) ∧ w5.frozen? ⟨mb, 1, none⟩ = false := by
  intro w5 hw5
  subst hw5
  refine ⟨?_, ?_, ?_, ?_, ?_⟩
  · rw [World.cell?_setCell_other _ _ _ _ (fun e => by have := congrArg Addr.block e; simp at this; omega)]; exact e0
  · rw [World.cell?_setCell_other _ _ _ _ (fun e => by have := congrArg Addr.block e; simp at this; omega)]; exact e1
  · rw [World.cell?_setCell_other _ _ _ _ (fun e => by have := congrArg Addr.off e; simp at this)]; exact c0
  · exact World.cell?_setCell_same _ _ _ c1
  · exact (World.frozen?_setCell ..).trans cz
theorem behind_of {w5 : World} {b p : Nat} {X : ByteArray} {x : Value} (hb : b < w5.heap.size) (e0 : w5.cell? ⟨b, p, none⟩ = some (.string X)) (e1 : w5.cell? ⟨b, p + 1, none⟩ = some x) (o : Obj) :
    (w5.alloc o).cell? ⟨b, p, none⟩ = some (.string X) ∧ (w5.alloc o).cell? ⟨b, p + 1, none⟩ = some x :=
  ⟨(World.cell?_alloc_lt _ _ _ hb).trans e0, (World.cell?_alloc_lt _ _ _ hb).trans e1⟩
theorem ahead_of {W : World} {mb : Nat} (hm : mb < W.heap.size) (y : Value) (w5 : World) (hw5 : w5 = (W.alloc (.cells #[.string ⟨#[]⟩, .slice none 0 0] 54)).drew.setCell ⟨mb, 1, none⟩ y) :
    w5.cell? ⟨W.heap.size, 0, none⟩ = some (.string ⟨#[]⟩) ∧ w5.cell? ⟨W.heap.size, 1, none⟩ = some (.slice none 0 0) ∧ w5.frozen? ⟨W.heap.size, 0, none⟩ = false ∧ w5.frozen? ⟨W.heap.size, 1, none⟩ = false := by
  subst hw5
  have h : (W.alloc (.cells #[.string ⟨#[]⟩, .slice none 0 0] 54)).drew.heap[W.heap.size]? = some (.cells #[.string ⟨#[]⟩, .slice none 0 0] 54 (0, 0)) := heap_alloc_new W _
  refine ⟨?_, ?_, ?_, ?_⟩
  · rw [World.cell?_setCell_other _ _ _ _ (fun e => by have := congrArg Addr.block e; simp at this; omega)]; simp only [World.cell?, h]; rfl
  · rw [World.cell?_setCell_other _ _ _ _ (fun e => by have := congrArg Addr.block e; simp at this; omega)]; simp only [World.cell?, h]; rfl
  · rw [World.frozen?_setCell]; simp only [World.frozen?, h]; rfl
  · rw [World.frozen?_setCell]; simp only [World.frozen?, h]; rfl
theorem size_of {W w5 : World} {a : Addr} {y : Value} (h : w5 = W.setCell a y) : w5.heap.size = W.heap.size := by subst h; simp [World.setCell]
def Tail (w w6 : World) (mb T : Nat) (v : Value) (j : Nat) (X : ByteArray) (x : Value) : Prop :=
  w.grownBy w6 (some mb) ∧ w6.cell? ⟨T, 0, none⟩ = some (.string X) ∧ w6.cell? ⟨T, 1, none⟩ = some x ∧ w6.cell? ⟨w.heap.size, 0, none⟩ = some (.string ⟨#[]⟩) ∧ w6.cell? ⟨w.heap.size, 1, none⟩ = some (.slice none 0 0) ∧ w6.frozen? ⟨w.heap.size, 0, none⟩ = false ∧ w6.frozen? ⟨w.heap.size, 1, none⟩ = false ∧
  w6.cell? ⟨mb, 0, none⟩ = some v ∧ w6.cell? ⟨mb, 1, none⟩ = some (.int .i64 ((j : Int) + 1)) ∧ w6.frozen? ⟨mb, 1, none⟩ = false ∧ T < w6.heap.size ∧ w.heap.size < w6.heap.size ∧ T ≠ w.heap.size ∧ T ≠ mb
theorem heap_set_other (w : World) (a : Addr) (x : Value) (k : Nat) (h : k ≠ a.block) : (w.setCell a x).heap[k]? = w.heap[k]? := by
  unfold World.setCell; simp [Array.getElem?_modify, Ne.symm h]
theorem Tail.go {w w6 w7 : World} {mb T : Nat} {v : Value} {j : Nat} {X : ByteArray} {x : Value} (hm : mb < w.heap.size) (h : Tail w w6 mb T v j X x) (hb : Below w6.heap.size w6 w7) : Tail w w7 mb T v j X x := by
  obtain ⟨h1, h2, h3, h4, h5, h6, h7, h8, h9, h10, h11, h12, h13, h14⟩ := h
  have hm6 : mb < w6.heap.size := Nat.lt_trans hm h12
  exact ⟨⟨hb.os.trans h1.os, hb.tape.trans h1.tape, hb.output.trans h1.output, Nat.le_trans h1.size hb.size, fun k hk hne => (hb.block k (Nat.lt_of_lt_of_le hk h1.size)).trans (h1.block k hk hne)⟩,
    (hb.cell (p := ⟨T, 0, none⟩) h11).trans h2, (hb.cell (p := ⟨T, 1, none⟩) h11).trans h3, (hb.cell (p := ⟨w.heap.size, 0, none⟩) h12).trans h4, (hb.cell (p := ⟨w.heap.size, 1, none⟩) h12).trans h5,
    (hb.frozen (p := ⟨w.heap.size, 0, none⟩) h12).trans h6, (hb.frozen (p := ⟨w.heap.size, 1, none⟩) h12).trans h7, (hb.cell (p := ⟨mb, 0, none⟩) hm6).trans h8, (hb.cell (p := ⟨mb, 1, none⟩) hm6).trans h9, (hb.frozen (p := ⟨mb, 1, none⟩) hm6).trans h10,
    Nat.lt_of_lt_of_le h11 hb.size, Nat.lt_of_lt_of_le h12 hb.size, h13, h14⟩
theorem Tail.grown {w w6 : World} {mb T : Nat} {v : Value} {j : Nat} {X : ByteArray} {x : Value} (h : Tail w w6 mb T v j X x) : w.grownBy w6 (some mb) := h.1
theorem Tail.rsz {w w6 : World} {mb T : Nat} {v : Value} {j : Nat} {X : ByteArray} {x : Value} (h : Tail w w6 mb T v j X x) : w.heap.size < w6.heap.size := by
  obtain ⟨h1, h2, h3, h4, h5, h6, h7, h8, h9, h10, h11, h12, h13, h14⟩ := h; exact h12
theorem isT_grown {mb : Nat} {w w7 : World} {A : List (List UInt8)} {x : Value} (h : IsT mb w A x) (hm : mb < w.heap.size) (hg : w.grownBy w7 (some mb)) : IsT w7.heap.size w7 A x := by
  obtain ⟨a, c, hv, hml, hc⟩ := h
  refine ⟨a, c, hv, hml, fun j hj => ?_⟩
  obtain ⟨b, off, ha, hb, h0⟩ := hc j hj
  have := hg.block b (by omega) (by intro e; have := Option.some.inj e; omega)
  exact ⟨b, off, ha, by have := hg.size; omega, by simp only [World.cell?, this]; exact h0⟩
theorem Tail.fin {w w8 : World} {mb T : Nat} {v : Value} {j : Nat} {X : ByteArray} {x : Value} (hm : mb < w.heap.size) (h : Tail w w8 mb T v j X x) (N : ByteArray) (u : Value) :
    w.grownBy ((w8.setCell ⟨w.heap.size, 0, none⟩ (.string N)).setCell ⟨w.heap.size, 1, none⟩ u) (some mb) ∧ ((w8.setCell ⟨w.heap.size, 0, none⟩ (.string N)).setCell ⟨w.heap.size, 1, none⟩ u).cell? ⟨mb, 0, none⟩ = some v ∧ ((w8.setCell ⟨w.heap.size, 0, none⟩ (.string N)).setCell ⟨w.heap.size, 1, none⟩ u).cell? ⟨mb, 1, none⟩ = some (.int .i64 (j + 1 : Nat)) ∧ ((w8.setCell ⟨w.heap.size, 0, none⟩ (.string N)).setCell ⟨w.heap.size, 1, none⟩ u).frozen? ⟨mb, 1, none⟩ = false ∧
    (∀ b o, b ≠ w.heap.size → ((w8.setCell ⟨w.heap.size, 0, none⟩ (.string N)).setCell ⟨w.heap.size, 1, none⟩ u).cell? ⟨b, o, none⟩ = w8.cell? ⟨b, o, none⟩) := by
  obtain ⟨h1, h2, h3, h4, h5, h6, h7, h8, h9, h10, h11, h12, h13, h14⟩ := h
  have oth : ∀ b o, b ≠ w.heap.size → ((w8.setCell ⟨w.heap.size, 0, none⟩ (.string N)).setCell ⟨w.heap.size, 1, none⟩ u).cell? ⟨b, o, none⟩ = w8.cell? ⟨b, o, none⟩ := fun b o hb => by
    rw [World.cell?_setCell_other _ _ _ _ (fun e => by have := congrArg Addr.block e; simp at this; omega), World.cell?_setCell_other _ _ _ _ (fun e => by have := congrArg Addr.block e; simp at this; omega)]
  refine ⟨⟨h1.os, h1.tape, h1.output, by simp [World.setCell]; exact h1.size, fun k hk hne => ?_⟩, (oth _ _ (by omega)).trans h8, (oth _ _ (by omega)).trans h9, by rw [World.frozen?_setCell, World.frozen?_setCell]; exact h10, oth⟩
  rw [heap_set_other _ _ _ k (show k ≠ w.heap.size by omega), heap_set_other _ _ _ k (show k ≠ w.heap.size by omega)]; exact h1.block k hk hne
theorem tail5 {w W1 W w5 : World} {mb : Nat} {v : Value} {j : Nat} (hm : mb < w.heap.size) (hW1 : W1 = w.alloc (.cells #[.string ⟨#[]⟩, .slice none 0 0] 54)) (hW : Below W1.heap.size W1 W) (hw5 : w5 = W.drew.setCell ⟨mb, 1, none⟩ (.int .i64 ((j : Int) + 1)))
    (f2 : w5.cell? ⟨mb, 0, none⟩ = some v) (f3 : w5.cell? ⟨mb, 1, none⟩ = some (.int .i64 ((j : Int) + 1))) (f4 : w5.frozen? ⟨mb, 1, none⟩ = false) :
    w.grownBy w5 (some mb) ∧ w5.cell? ⟨w.heap.size, 0, none⟩ = some (.string ⟨#[]⟩) ∧ w5.cell? ⟨w.heap.size, 1, none⟩ = some (.slice none 0 0) ∧ w5.frozen? ⟨w.heap.size, 0, none⟩ = false ∧ w5.frozen? ⟨w.heap.size, 1, none⟩ = false ∧ w.heap.size < w5.heap.size := by
  have s1 : W1.heap.size = w.heap.size + 1 := by rw [hW1]; simp
  have s5 : w5.heap.size = W.heap.size := size_of (W := W.drew) hw5
  have hz := hW.size
  have h0 : W1.heap[w.heap.size]? = some (.cells #[.string ⟨#[]⟩, .slice none 0 0] 54 (0, 0)) := by rw [hW1]; exact heap_alloc_new w _
  have hblk : ∀ k, k ≠ mb → w5.heap[k]? = W.heap[k]? := fun k hk => by rw [hw5]; exact heap_set_other _ _ _ k hk
  have h5 : w5.heap[w.heap.size]? = some (.cells #[.string ⟨#[]⟩, .slice none 0 0] 54 (0, 0)) := by rw [hblk _ (by omega), hW.block _ (by omega), h0]
  refine ⟨⟨?_, ?_, ?_, by omega, fun k hk hne => ?_⟩, by simp only [World.cell?, h5]; rfl, by simp only [World.cell?, h5]; rfl, by simp only [World.frozen?, h5]; rfl, by simp only [World.frozen?, h5]; rfl, by omega⟩
  · have h := hW.os; rw [hW1] at h; rw [hw5]; exact h
  · have h := hW.tape; rw [hW1] at h; rw [hw5]; exact h
  · have h := hW.output; rw [hW1] at h; rw [hw5]; exact h
  · have hkm : k ≠ mb := fun e => hne (by rw [e])
    rw [hblk k hkm, hW.block _ (by omega), hW1, heap_alloc_old _ _ hk]
theorem tailA {w W1 w5 : World} {mb : Nat} {v : Value} {j : Nat} (hm : mb < w.heap.size) (hW1 : W1 = w.alloc (.cells #[.string ⟨#[]⟩, .slice none 0 0] 54)) (hw5 : w5 = W1.drew.setCell ⟨mb, 1, none⟩ (.int .i64 ((j : Int) + 1)))
    (f2 : w5.cell? ⟨mb, 0, none⟩ = some v) (f3 : w5.cell? ⟨mb, 1, none⟩ = some (.int .i64 ((j : Int) + 1))) (f4 : w5.frozen? ⟨mb, 1, none⟩ = false) (X : ByteArray) (x : Value) : Tail w (w5.alloc (.cells #[.string X, x] 54)) mb w5.heap.size v j X x := by
  obtain ⟨h1, h2, h3, h4, h5, h6⟩ := tail5 hm hW1 (Below.refl _ _) hw5 f2 f3 f4
  have hb : Below w5.heap.size w5 (w5.alloc (.cells #[.string X, x] 54)) := (Below.refl _ _).alloc (Nat.le_refl _) _
  have hm5 : mb < w5.heap.size := by omega
  exact ⟨⟨hb.os.trans h1.os, hb.tape.trans h1.tape, hb.output.trans h1.output, Nat.le_trans h1.size hb.size, fun k hk hne => (hb.block k (Nat.lt_of_lt_of_le hk h1.size)).trans (h1.block k hk hne)⟩, by simp, by simp, (hb.cell (p := ⟨w.heap.size, 0, none⟩) h6).trans h2, (hb.cell (p := ⟨w.heap.size, 1, none⟩) h6).trans h3, (hb.frozen (p := ⟨w.heap.size, 0, none⟩) h6).trans h4, (hb.frozen (p := ⟨w.heap.size, 1, none⟩) h6).trans h5,
    (hb.cell (p := ⟨mb, 0, none⟩) hm5).trans f2, (hb.cell (p := ⟨mb, 1, none⟩) hm5).trans f3, (hb.frozen (p := ⟨mb, 1, none⟩) hm5).trans f4, by simp, by simp; omega, by omega, by omega⟩
theorem tailB {w W1 w5 : World} {mb : Nat} {v : Value} {j : Nat} (hm : mb < w.heap.size) (hW1 : W1 = w.alloc (.cells #[.string ⟨#[]⟩, .slice none 0 0] 54)) (hw5 : w5 = (W1.alloc (.cells #[.string ⟨#[]⟩, .slice none 0 0] 54)).drew.setCell ⟨mb, 1, none⟩ (.int .i64 ((j : Int) + 1)))
    (f2 : w5.cell? ⟨mb, 0, none⟩ = some v) (f3 : w5.cell? ⟨mb, 1, none⟩ = some (.int .i64 ((j : Int) + 1))) (f4 : w5.frozen? ⟨mb, 1, none⟩ = false) (p0 : w5.cell? ⟨W1.heap.size, 0, none⟩ = some (.string ⟨#[]⟩)) (p1 : w5.cell? ⟨W1.heap.size, 1, none⟩ = some (.slice none 0 0)) (X : ByteArray) (x : Value) :
    Tail w ((w5.setCell ⟨W1.heap.size, 0, none⟩ (.string X)).setCell ⟨W1.heap.size, 1, none⟩ x) mb W1.heap.size v j X x := by
  obtain ⟨h1, h2, h3, h4, h5, h6⟩ := tail5 hm hW1 ((Below.refl _ _).alloc (Nat.le_refl _) _) hw5 f2 f3 f4
  have s1 : W1.heap.size = w.heap.size + 1 := by rw [hW1]; simp
  have s5 : w5.heap.size = W1.heap.size + 1 := by rw [size_of hw5]; simp
  obtain ⟨T, hT⟩ : ∃ T, T = W1.heap.size := ⟨_, rfl⟩
  rw [← hT] at s1 s5 p0 p1 ⊢
  have oth : ∀ b o, b ≠ T → ((w5.setCell ⟨T, 0, none⟩ (.string X)).setCell ⟨T, 1, none⟩ x).cell? ⟨b, o, none⟩ = w5.cell? ⟨b, o, none⟩ := fun b o hb => by
    rw [World.cell?_setCell_other _ _ _ _ (fun e => by have := congrArg Addr.block e; simp at this; omega), World.cell?_setCell_other _ _ _ _ (fun e => by have := congrArg Addr.block e; simp at this; omega)]
  refine ⟨⟨h1.os, h1.tape, h1.output, by simp [World.setCell]; exact h1.size, fun k hk hne => ?_⟩, ?_, ?_, (oth _ _ (by omega)).trans h2, (oth _ _ (by omega)).trans h3, by rw [World.frozen?_setCell, World.frozen?_setCell]; exact h4, by rw [World.frozen?_setCell, World.frozen?_setCell]; exact h5, (oth _ _ (by omega)).trans f2, (oth _ _ (by omega)).trans f3, by rw [World.frozen?_setCell, World.frozen?_setCell]; exact f4, by simp [World.setCell]; omega, by simp [World.setCell]; omega, by omega, by omega⟩
  · rw [heap_set_other _ _ _ k (show k ≠ T by omega), heap_set_other _ _ _ k (show k ≠ T by omega)]; exact h1.block k hk hne
  · rw [World.cell?_setCell_other _ _ _ _ (fun e => by have := congrArg Addr.off e; simp at this)]; exact World.cell?_setCell_same _ _ _ p0
  · exact World.cell?_setCell_same _ _ _ ((World.cell?_setCell_other _ _ _ _ (fun e => by have := congrArg Addr.off e; simp at this)).trans p1)
set_option maxRecDepth 100000 in
set_option maxHeartbeats 4000000 in
theorem next_any (L : List AT) (hs : smallA L) (mb j : Nat) (v : Value) (w : World) (hm : mb < w.heap.size) (hL : IsA mb w L v) (hj : j < L.length) (h0 : w.cell? ⟨mb, 0, none⟩ = some v) (h1 : w.cell? ⟨mb, 1, none⟩ = some (.int .i64 j)) (hz : w.frozen? ⟨mb, 1, none⟩ = false) :
    Calls Tryz.prog 44 #[.pointer (some ⟨mb, 0, none⟩)] w fun e w' => ∃ u, e = .returned (.agg #[.string (ofL (nameA L[j].1)), u]) ∧ IsTo (fun b => w.heap.size ≤ b ∧ b < w'.heap.size) w' L[j].2 u ∧ w.grownBy w' (some mb) ∧ w'.cell? ⟨mb, 0, none⟩ = some v ∧ w'.cell? ⟨mb, 1, none⟩ = some (.int .i64 (j + 1 : Nat)) ∧ w'.frozen? ⟨mb, 1, none⟩ = false := by
  obtain ⟨sa, sc, rfl, hml, hcell⟩ := hL
  obtain ⟨b, off, x, rfl, hb0, x0, x1, hx⟩ := hcell j hj
  obtain ⟨xa, xn, xc, rfl⟩ := (show ∃ a k c, x = .slice a k c from by obtain ⟨a, c, hv, _⟩ := hx; exact ⟨a, _, c, hv⟩)
  unfold maxLen at hml
  obtain ⟨X, hX⟩ : ∃ X : ByteArray, ofL L[j].1 = X := ⟨_, rfl⟩
  have gX : X.data.toList = L[j].1 := by rw [← hX, ofL_list]
  have d0 : w.cell? ⟨b, off + j * 2, none⟩ = some (.string X) := by rw [x0, ← hX]; rfl
  have hXs : X.size ≤ 281474976710656 := by
    have := (hs.2 L[j] (List.getElem_mem _)).1
    rw [← bytes_len, gX]; omega
  obtain ⟨n, hn⟩ : ∃ n, n = L.length := ⟨_, rfl⟩
  rw [← hn] at h0 hml
  have HX := Lib.hid hx
  have hsT := (hs.2 L[j] (List.getElem_mem _)).2
  have hl5 : n ≤ 1000 := by rw [hn]; exact hs.1
  have hjn : j < n := by omega
  have HT := Lib.hid (fun w => typeName_any X hXs w)
  have HGX := Lib.hid gX
  have HST := Lib.hid hsT
  have HN := Lib.hid hn
  have q1 : (j : Int) < (n : Int) := by omega
  have q2 : (0 : Int) ≤ (j : Int) := by omega
  have q3 : IntKind.i64.wrap ((j : Int) + 1 - 1) = (j : Int) := by rw [IntKind.wrap_i64]; omega
  have q4 : (j : Int) + 1 - 1 = (j : Int) := by omega
  have q5 : IntKind.i64.wrap (j : Int) = (j : Int) := by rw [IntKind.wrap_i64]; omega
  have HAdd := Lib.hid (fun w h hz => add_any mb 1 (j : Int) (by omega) (by omega) w h hz)
  clear hcell hs hX gX x0 hx hsT hn hXs
  go_enter Tryz.func44, Tryz.ntmps44
  go_wp2
  obtain ⟨W1, hW1⟩ : ∃ W1, W1 = w.alloc (.cells #[.string ⟨#[]⟩, .slice none 0 0] 54) := ⟨_, rfl⟩
  have hW1b : Below w.heap.size w W1 := by rw [hW1]; exact (Below.refl _ _).alloc (Nat.le_refl _) _
  have c0 := (hW1b.cell (p := ⟨mb, 0, none⟩) hm).trans h0
  have c1 := (hW1b.cell (p := ⟨mb, 1, none⟩) hm).trans h1
  have cz := (hW1b.frozen (p := ⟨mb, 1, none⟩) hm).trans hz
  have hbw : b < w.heap.size := Nat.lt_trans hb0 hm
  have e0 := (hW1b.cell (p := ⟨b, off + j * 2, none⟩) hbw).trans d0
  have e1 := (hW1b.cell (p := ⟨b, off + j * 2 + 1, none⟩) hbw).trans x1
  rw [← hW1]
  have HW1 := Lib.hid hW1
  have HW1b := Lib.hid hW1b
  clear hW1 hW1b h0 h1 hz d0 x1
  obtain ⟨W2, hW2⟩ : ∃ W2, W2 = W1.alloc (.cells #[.string ⟨#[]⟩, .slice none 0 0] 54) := ⟨_, rfl⟩
  have hm1 : mb < W1.heap.size := Nat.lt_of_lt_of_le hm HW1b.out.size
  have hb1 : b < W1.heap.size := Nat.lt_of_lt_of_le hbw HW1b.out.size
  have hW2b : Below W1.heap.size W1 W2 := by rw [hW2]; exact (Below.refl _ _).alloc (Nat.le_refl _) _
  have HD := Lib.hid (nextAt_of (W := W1) (mb := mb) (b := b) (p := off + j * 2) hb0 c0 c1 cz e0 e1)
  have HE := Lib.hid (nextAt_of (W := W2) (mb := mb) (b := b) (p := off + j * 2) hb0 ((hW2b.cell (p := ⟨mb, 0, none⟩) hm1).trans c0) ((hW2b.cell (p := ⟨mb, 1, none⟩) hm1).trans c1) ((hW2b.frozen (p := ⟨mb, 1, none⟩) hm1).trans cz) ((hW2b.cell (p := ⟨b, off + j * 2, none⟩) hb1).trans e0) ((hW2b.cell (p := ⟨b, off + j * 2 + 1, none⟩) hb1).trans e1))
  have C1 : Hid (W1.drew.cell? ⟨mb, 1, none⟩ = some (.int .i64 (j : Int)) ∧ W1.drew.frozen? ⟨mb, 1, none⟩ = false) := Lib.hid ⟨c1, cz⟩
  have C2 : Hid ((W1.alloc (.cells #[.string ⟨#[]⟩, .slice none 0 0] 54)).drew.cell? ⟨mb, 1, none⟩ = some (.int .i64 (j : Int)) ∧ (W1.alloc (.cells #[.string ⟨#[]⟩, .slice none 0 0] 54)).drew.frozen? ⟨mb, 1, none⟩ = false) := Lib.hid (by rw [← hW2]; exact ⟨(hW2b.cell (p := ⟨mb, 1, none⟩) hm1).trans c1, (hW2b.frozen (p := ⟨mb, 1, none⟩) hm1).trans cz⟩)
  have c0a : (W1.alloc (.cells #[.string ⟨#[]⟩, .slice none 0 0] 54)).cell? ⟨mb, 0, none⟩ = some (.slice (some ⟨b, off, none⟩) n sc) := by rw [← hW2]; exact (hW2b.cell (p := ⟨mb, 0, none⟩) hm1).trans c0
  have HW2 := Lib.hid hW2
  clear hW2 hW2b
  go_region_law (go_simp; go_at_call 84; first
    | ((with_reducible refine (HAdd.out W1.drew C1.out.1 C1.out.2).mono ?_); rintro e w5 ⟨rfl, hw5⟩; (obtain ⟨f0, f1, f2, f3, f4⟩ := HD.out w5 hw5); (obtain ⟨g0, g1⟩ := behind_of (by rw [size_of hw5]; exact hb1) f0 f1 (.cells #[.string ⟨#[]⟩, .slice none 0 0] 54)); have g2 := (World.cell?_alloc_lt w5 (.cells #[.string ⟨#[]⟩, .slice none 0 0] 54) ⟨mb, 0, none⟩ (show mb < w5.heap.size by rw [size_of hw5]; exact hm1)).trans f2; have HW5 := Lib.hid hw5; clear hw5)
    | (((with_reducible refine (HAdd.out ((W1.alloc (.cells #[.string ⟨#[]⟩, .slice none 0 0] 54)).drew) C2.out.1 C2.out.2).mono ?_)); rintro e w5 ⟨rfl, hw5⟩; (obtain ⟨f0, f1, f2, f3, f4⟩ := HE.out w5 (by rw [HW2.out]; exact hw5)); (obtain ⟨p0, p1, p2, p3⟩ := ahead_of hm1 _ w5 hw5); have HW5 := Lib.hid hw5; clear hw5))
  all_goals
    first
      | (have htl := tailA hm HW1.out HW5.out f2 f3 f4 X (.slice xa xn xc)
         obtain ⟨w6, hw6⟩ : ∃ w6, w6 = w5.alloc (.cells #[.string X, .slice xa xn xc] 54) := ⟨_, rfl⟩
         rw [← hw6] at htl ⊢
         generalize w5.heap.size = T at htl ⊢
         clear hw6)
      | (have htl := tailB hm HW1.out HW5.out f2 f3 f4 p0 p1 X (.slice xa xn xc)
         obtain ⟨w6, hw6⟩ : ∃ w6, w6 = (w5.setCell ⟨W1.heap.size, 0, none⟩ (.string X)).setCell ⟨W1.heap.size, 1, none⟩ (.slice xa xn xc) := ⟨_, rfl⟩
         rw [← hw6] at htl ⊢
         generalize W1.heap.size = T at htl ⊢
         clear hw6)
    have HTl := Lib.hid htl
    obtain ⟨_, k0, k1, _⟩ := htl
    clear f0 f1 f2 f3 f4 c0 c1 cz e0 e1 c0a
    have hdr : Below w6.heap.size w6 w6.drew := ⟨rfl, rfl, rfl, Nat.le_refl _, fun _ _ => rfl⟩
    have HTd := Lib.hid (HTl.out.go hm hdr)
    clear hdr
    go_simp
    go_wp2
    go_region_law (first
      | (go_simp; go_at_call 60; ((with_reducible refine (HT.out _).mono ?_); rintro e w7 ⟨rfl, hb7⟩; have HT7 := Lib.hid (HTd.out.go hm hb7); (obtain ⟨_, _, m1, _⟩ := HT7.out); clear hb7))
      | (go_simp; go_at_call 51; ((with_reducible refine (copyVals_any _ HST.out _ _ (isT_grown HX.out hm HT7.out.grown)).mono ?_); rintro e w8 ⟨u8, rfl, hu8, hb8⟩; have HU8 := Lib.hid (ownS_isTo hu8 (by have := HST.out.1; unfold maxLen; omega)); have HT8 := Lib.hid (HT7.out.go hm hb8); (obtain ⟨_, _, _, r0, r1, r2, r3, _⟩ := HT8.out); have hz7 : w.heap.size < w7.heap.size := HT7.out.rsz; (obtain ⟨ya, yc, rfl⟩ := ownS_slice hu8); clear hu8 hb8)))
    all_goals
      go_simp
      go_wp2
      obtain ⟨hg, hc0, hc1, hcz, hoth⟩ := HT8.out.fin hm (ofL (nameA X.data.toList)) (.slice ya L[j].2.length yc)
      refine bodyPost_ret (v := .agg #[.string (ofL (nameA X.data.toList)), .slice ya L[j].2.length yc]) (by simp [results, Tryz.results44, go_sem, r0, r1]) rfl ⟨_, by rw [HGX.out], HU8.out.imp (fun b hb => ⟨by have := hb.1; omega, by simp [World.setCell]; exact hb.2⟩) (fun b o hb => hoth b o (by have := hb.1; omega)), hg, by rw [← HN.out]; exact hc0, hc1, hcz⟩
end Go.Proofs.YtlimajgmdhhggaaGreatDoor


namespace Go.Proofs.YtlimajgmdhhggaaGreatDoor
open Go.RowKit
set_option linter.unusedVariables false

def normL (L : List AT) : List AT := L.map (fun a => (nameA a.1, a.2))
theorem ownA_grown {B mb : Nat} {w w' : World} {v : Value} {L : List AT} (h : OwnA B w v L) (hg : w.grownBy w' (some mb)) (hm : mb < B) : OwnA B w' v L := by
  obtain ⟨P, hr, hs⟩ := h
  have hblk : ∀ k, B ≤ k → k < w.heap.size → w'.heap[k]? = w.heap[k]? := fun k h1 h2 => hg.block k h2 (by intro e; have := Option.some.inj e; omega)
  refine ⟨P, ⟨hr.1, hr.2.imp id fun ⟨g, cap, cur, e1, hb, hgg, rest⟩ => ⟨g, cap, cur, e1, hb, (hblk g hb (Array.getElem?_eq_some_iff.1 hgg).1).trans hgg, rest⟩⟩, hs.1, fun j h1 h2 => ⟨(hs.2 j h1 h2).1, (hs.2 j h1 h2).2.imp (fun b hb => ⟨hb.1, Nat.lt_of_lt_of_le hb.2.1 hg.size, hb.2.2⟩) (fun b o hb => by
    have := hblk b hb.1 hb.2.1
    simp only [World.cell?, this])⟩⟩
theorem BoxE.grown {b mb : Nat} {d : ByteArray} {w w' : World} (h : BoxE b d w) (hg : w.grownBy w' (some mb)) (hm : mb = b + 2) (hs : b + 2 < w.heap.size) : BoxE b d w' := by
  have h0 := hg.block b (by omega) (by intro e; have := Option.some.inj e; omega)
  have h1 := hg.block (b + 1) (by omega) (by intro e; have := Option.some.inj e; omega)
  obtain ⟨a0, a1, a2, a3, a4⟩ := h
  unfold BoxE
  simp only [World.cell?, World.frozen?, h0, h1]
  exact ⟨a0, a1, a2, a3, a4⟩
theorem below_grown {B mb : Nat} {w0 w w' : World} (h : Below B w0 w) (hg : w.grownBy w' (some mb)) (hB : B ≤ mb) (hw : B ≤ w.heap.size) : Below B w0 w' :=
  h.trans ⟨hg.os, hg.tape, hg.output, hg.size, fun k hk => hg.block k (by omega) (by intro e; have := Option.some.inj e; omega)⟩
structure NormAt (b : Nat) (d : ByteArray) (w wr : World) (v l : Value) (j : Nat) (L' : List AT) : Prop where
  own : OwnA (b + 3) wr l L'
  box : BoxE b d wr
  m0 : wr.cell? ⟨b + 2, 0, none⟩ = some v
  m1 : wr.cell? ⟨b + 2, 1, none⟩ = some (.int .i64 (j : Int))
  mz : wr.frozen? ⟨b + 2, 1, none⟩ = false
  size : b + 3 ≤ wr.heap.size
  bel : Below b w wr
theorem NormAt.go {b : Nat} {d : ByteArray} {w wr w2 : World} {v l : Value} {j : Nat} {L' : List AT} (h : NormAt b d w wr v l j L') (hb : Below wr.heap.size wr w2) : NormAt b d w w2 v l j L' where
  own := ownA_below h.own hb
  box := h.box.go hb (by have := h.size; omega)
  m0 := (hb.cell (p := ⟨b + 2, 0, none⟩) (show b + 2 < wr.heap.size by have := h.size; omega)).trans h.m0
  m1 := (hb.cell (p := ⟨b + 2, 1, none⟩) (show b + 2 < wr.heap.size by have := h.size; omega)).trans h.m1
  mz := (hb.frozen (p := ⟨b + 2, 1, none⟩) (show b + 2 < wr.heap.size by have := h.size; omega)).trans h.mz
  size := Nat.le_trans h.size hb.size
  bel := h.bel.trans (hb.mono (by have := h.size; omega))
theorem NormAt.next {b : Nat} {d : ByteArray} {w wr w2 : World} {v l : Value} {j : Nat} {L' : List AT} (h : NormAt b d w wr v l j L') (hg : wr.grownBy w2 (some (b + 2))) (h0 : w2.cell? ⟨b + 2, 0, none⟩ = some v) (h1 : w2.cell? ⟨b + 2, 1, none⟩ = some (.int .i64 (j + 1 : Nat))) (hz : w2.frozen? ⟨b + 2, 1, none⟩ = false) : NormAt b d w w2 v l (j + 1) L' where
  own := ownA_grown h.own hg (by omega)
  box := h.box.grown hg rfl (by have := h.size; omega)
  m0 := h0
  m1 := h1
  mz := hz
  size := Nat.le_trans h.size hg.size
  bel := below_grown h.bel hg (by omega) (by have := h.size; omega)
theorem NormAt.app {b : Nat} {d : ByteArray} {w wr w2 : World} {v l l2 : Value} {j : Nat} {L' L2 : List AT} (h : NormAt b d w wr v l j L') (hb : Below (b + 3) wr w2) (ho : OwnA (b + 3) w2 l2 L2) : NormAt b d w w2 v l2 j L2 where
  own := ho
  box := h.box.go hb (by omega)
  m0 := (hb.cell (p := ⟨b + 2, 0, none⟩) (show b + 2 < b + 3 by omega)).trans h.m0
  m1 := (hb.cell (p := ⟨b + 2, 1, none⟩) (show b + 2 < b + 3 by omega)).trans h.m1
  mz := (hb.frozen (p := ⟨b + 2, 1, none⟩) (show b + 2 < b + 3 by omega)).trans h.mz
  size := Nat.le_trans h.size hb.size
  bel := h.bel.trans (hb.mono (by omega))
theorem norm_block (w : World) (d : ByteArray) (v : Value) : (((w.alloc (.cells #[.string d, v] 24)).alloc (.cells #[.string ⟨#[]⟩, .slice none 0 0] 24)).alloc (.cells #[v, .int .i64 0] 65)).heap[w.heap.size + 2]? = some (.cells #[v, .int .i64 0] 65 (0, 0)) := by
  have := heap_alloc_new ((w.alloc (.cells #[.string d, v] 24)).alloc (.cells #[.string ⟨#[]⟩, .slice none 0 0] 24)) (.cells #[v, .int .i64 0] 65)
  simpa only [World.size_alloc] using this
theorem norm_start (w : World) (d : ByteArray) (v : Value) : NormAt w.heap.size d w (((w.alloc (.cells #[.string d, v] 24)).alloc (.cells #[.string ⟨#[]⟩, .slice none 0 0] 24)).alloc (.cells #[v, .int .i64 0] 65)) v (.slice none 0 0) 0 [] where
  own := ownA_nil _ _
  box := (boxE_new w d v).go (Below.alloc (Below.refl (w.heap.size + 2) _) (by simp) _) (by omega)
  m0 := by simp only [World.cell?, norm_block w d v]; rfl
  m1 := by simp only [World.cell?, norm_block w d v]; rfl
  mz := by simp only [World.frozen?, norm_block w d v]; rfl
  size := by simp
  bel := (((Below.refl _ _).alloc (Nat.le_refl _) _).alloc (by simp) _).alloc (by simp; omega) _
theorem normL_take (L : List AT) (j : Nat) (h : j < L.length) : normL (L.take (j + 1)) = normL (L.take j) ++ [(nameA L[j].1, L[j].2)] := by
  unfold normL
  rw [List.take_succ_eq_append_getElem h, List.map_append]; rfl

end Go.Proofs.YtlimajgmdhhggaaGreatDoor


namespace Go.Proofs.YtlimajgmdhhggaaGreatDoor
set_option linter.unusedVariables false
set_option linter.unusedSimpArgs false

section
variable {α β : Type}
def swapG (R : List α) (j : Nat) : List α := match R[j]?, R[j + 1]? with
  | some x, some y => (R.set j y).set (j + 1) x
  | _, _ => R
def bubG (key : α → List UInt8) : Nat → List α → List α
  | 0, R => R
  | j + 1, R => match R[j]?, R[j + 1]? with
    | some x, some y => if cmpL (key y) (key x) < 0 then bubG key j (swapG R j) else R
    | _, _ => R
def srtG (key : α → List UInt8) : Nat → List α → List α
  | 0, R => R
  | k + 1, R => bubG key (k + 1) (srtG key k R)
theorem swapG_length (R : List α) (j : Nat) : (swapG R j).length = R.length := by
  unfold swapG
  split
  · simp
  · rfl
theorem swapG_at {R : List α} {j : Nat} (h : j + 1 < R.length) : swapG R j = (R.set j R[j + 1]).set (j + 1) (R[j]'(by omega)) := by
  unfold swapG
  rw [List.getElem?_eq_getElem h, List.getElem?_eq_getElem (show j < R.length by omega)]
theorem swapG_mem {R : List α} {j : Nat} {x : α} (h : x ∈ swapG R j) : x ∈ R := by
  unfold swapG at h
  split at h
  · rename_i a b ha hb
    rcases List.mem_or_eq_of_mem_set h with h | h
    · rcases List.mem_or_eq_of_mem_set h with h | h
      · exact h
      · rw [h]; exact List.mem_of_getElem? hb
    · rw [h]; exact List.mem_of_getElem? ha
  · exact h
theorem bubG_length (key : α → List UInt8) : ∀ (j : Nat) (R : List α), (bubG key j R).length = R.length
  | 0, _ => rfl
  | j + 1, R => by
    unfold bubG
    split
    · split
      · rw [bubG_length key j, swapG_length]
      · rfl
    · rfl
theorem bubG_mem {key : α → List UInt8} : ∀ (j : Nat) {R : List α} {x : α}, x ∈ bubG key j R → x ∈ R
  | 0, _, _, h => h
  | j + 1, R, x, h => by
    unfold bubG at h
    split at h
    · split at h
      · exact swapG_mem (bubG_mem j h)
      · exact h
    · exact h
theorem srtG_length (key : α → List UInt8) : ∀ (k : Nat) (R : List α), (srtG key k R).length = R.length
  | 0, _ => rfl
  | k + 1, R => by
    show (bubG key (k + 1) (srtG key k R)).length = _
    rw [bubG_length, srtG_length key k]
theorem srtG_mem {key : α → List UInt8} : ∀ (k : Nat) {R : List α} {x : α}, x ∈ srtG key k R → x ∈ R
  | 0, _, _, h => h
  | k + 1, R, x, h => srtG_mem k (bubG_mem (k + 1) h)
theorem bubG_go {key : α → List UInt8} {j : Nat} {R : List α} (h : j + 1 < R.length) (hc : cmpL (key R[j + 1]) (key (R[j]'(by omega))) < 0) : bubG key (j + 1) R = bubG key j (swapG R j) := by
  conv => lhs; unfold bubG
  rw [List.getElem?_eq_getElem h, List.getElem?_eq_getElem (show j < R.length by omega)]
  simp only []
  rw [if_pos hc]
theorem bubG_stop {key : α → List UInt8} {j : Nat} {R : List α} (h : j + 1 < R.length) (hc : ¬ cmpL (key R[j + 1]) (key (R[j]'(by omega))) < 0) : bubG key (j + 1) R = R := by
  unfold bubG
  rw [List.getElem?_eq_getElem h, List.getElem?_eq_getElem (show j < R.length by omega)]
  simp only []
  rw [if_neg hc]
theorem swapG_map (f : α → β) (R : List α) (j : Nat) : (swapG R j).map f = swapG (R.map f) j := by
  unfold swapG
  rw [List.getElem?_map, List.getElem?_map]
  cases R[j]? with
  | none => rfl
  | some x =>
    cases R[j + 1]? with
    | none => rfl
    | some y => simp [List.map_set]
theorem bubG_map {key : α → List UInt8} {key' : β → List UInt8} (f : α → β) : ∀ (j : Nat) (R : List α), (∀ x ∈ R, key' (f x) = key x) → (bubG key j R).map f = bubG key' j (R.map f)
  | 0, _, _ => rfl
  | j + 1, R, h => by
    unfold bubG
    rw [List.getElem?_map, List.getElem?_map]
    cases hx : R[j]? with
    | none => rfl
    | some x =>
      cases hy : R[j + 1]? with
      | none => rfl
      | some y =>
        simp only [Option.map_some]
        rw [h x (List.mem_of_getElem? hx), h y (List.mem_of_getElem? hy)]
        split
        · rw [bubG_map f j _ fun z hz => h z (swapG_mem hz), swapG_map]
        · rfl
theorem srtG_map {key : α → List UInt8} {key' : β → List UInt8} (f : α → β) : ∀ (k : Nat) (R : List α), (∀ x ∈ R, key' (f x) = key x) → (srtG key k R).map f = srtG key' k (R.map f)
  | 0, _, _ => rfl
  | k + 1, R, h => by
    show (bubG key (k + 1) (srtG key k R)).map f = bubG key' (k + 1) (srtG key' k (R.map f))
    rw [bubG_map f (k + 1) _ fun x hx => h x (srtG_mem k hx), srtG_map f k R h]
end
def sortA (L : List AT) : List AT := srtG (fun a => a.1) (L.length - 1) L
end Go.Proofs.YtlimajgmdhhggaaGreatDoor


namespace Go.Proofs.YtlimajgmdhhggaaGreatDoor
set_option linter.unusedVariables false

section
variable {P : Program} {ops : Array Oper} {Q : Exit → Act → World → Prop} {md : Region.Mode}

def toCome (l : Array Bool) : Nat := l.toList.count false

theorem toCome_some {l : Array Bool} {i : Nat} (h : l.getD i true = false) : ∃ hi : i < l.size, l[i] = false := by
  rcases Nat.lt_or_ge i l.size with hi | hi
  · refine ⟨hi, ?_⟩
    simpa [hi] using h
  · simp [Array.getElem?_eq_none hi] at h

theorem toCome_set {l : Array Bool} {i : Nat} (h : l.getD i true = false) : toCome (l.setIfInBounds i true) + 1 = toCome l := by
  obtain ⟨hi, he⟩ := toCome_some h
  unfold toCome
  have hi' : i < l.toList.length := by simpa using hi
  have he' : l.toList[i] = false := by simpa using he
  have hpos : 0 < l.toList.count false := List.count_pos_iff.2 (by rw [← he']; exact List.getElem_mem hi')
  rw [Array.toList_setIfInBounds, List.count_set hi', he']
  rw [if_pos (by rfl), if_neg (by decide)]
  omega

theorem toCome_none {l : Array Bool} (h : toCome l = 0) {i : Nat} : l.getD i true ≠ false := fun hf => by
  have := toCome_set hf
  omega

theorem wpAny_inv (Inv : Array Bool → Act → World → Prop)
    (hstep : ∀ listed a w, Inv listed a w → ∀ i ∈ Region.ready md ops listed, wpOp P ops Q i (Inv (listed.setIfInBounds i true)) a w)
    (hend : ∀ listed a w, Inv listed a w → Region.ready md ops listed = [] → Q .normal a w) :
    ∀ (fuel : Nat) (listed : Array Bool) (a : Act) (w : World), toCome listed ≤ fuel → Inv listed a w → wpAny P md ops Q fuel listed a w
  | 0, listed, a, w, hf, hI => by
    have hr : Region.ready md ops listed = [] := by
      cases hc : Region.ready md ops listed with
      | nil => rfl
      | cons j rs => exact absurd (mem_ready.1 (hc ▸ List.mem_cons_self : j ∈ Region.ready md ops listed)).1 (toCome_none (by omega))
    exact ⟨hr, hend _ _ _ hI hr⟩
  | fuel + 1, listed, a, w, hf, hI => by
    refine ⟨fun hr => hend _ _ _ hI hr, fun i hi => wpOp_mono (fun a' w' h => ?_) (hstep _ _ _ hI i hi)⟩
    have := toCome_set (mem_ready.1 hi).1
    exact wpAny_inv Inv hstep hend fuel _ a' w' (by omega) h

theorem all_come {listed : Array Bool} (hb : ∀ (i : Nat) (o : Oper), ops[i]? = some o → ∀ e ∈ o.after, e.on < i) (hs : listed.size = ops.size) (hr : Region.ready md ops listed = []) :
    ∀ (n i : Nat), i < n → i < ops.size → listed.getD i false = true
  | 0, i, h, _ => by omega
  | n + 1, i, h, hi => by
    have ih := all_come hb hs hr n
    cases hc : listed.getD i false with
    | true => rfl
    | false =>
      exfalso
      have hm : i ∈ Region.ready md ops listed := by
        refine mem_ready.2 ⟨?_, ops[i], Array.getElem?_eq_getElem hi, fun e he _ => ?_⟩
        · have hi' : i < listed.size := by omega
          simpa [hi'] using hc
        · have := hb i _ (Array.getElem?_eq_getElem hi) e he
          exact ih e.on (by omega) (by omega)
      rw [hr] at hm
      cases hm

theorem region_inv {id : Nat} {a : Act} {w : World} (hm : P.follows .mixedOrders = true) (Inv : Array Bool → Act → World → Prop)
    (h0 : Inv (Array.replicate ops.size false) a { w with drawn := w.drawn + 1 })
    (hb : ∀ (i : Nat) (o : Oper), ops[i]? = some o → ∀ e ∈ o.after, e.on < i)
    (hsize : ∀ listed a w, Inv listed a w → listed.size = ops.size)
    (hstep : ∀ listed a w, Inv listed a w → ∀ (i : Nat) (o : Oper), ops[i]? = some o → listed.getD i true = false → (∀ e ∈ o.after, Region.binds .any e = true → listed.getD e.on false = true) →
      wpOp P ops Q i (Inv (listed.setIfInBounds i true)) a w)
    (hend : ∀ listed a w, Inv listed a w → (∀ i, i < ops.size → listed.getD i false = true) → Q .normal a w) : (Code.region id ops true).wp P Q a w := by
  refine wp_region_any hm (wpAny_inv Inv (fun listed a w hI i hi => ?_) (fun listed a w hI hr => ?_) _ _ _ _ ?_ h0)
  · obtain ⟨h1, o, h2, h3⟩ := mem_ready.1 hi
    exact hstep listed a w hI i o h2 h1 h3
  · exact hend listed a w hI fun i hi => all_come hb (hsize _ _ _ hI) hr (i + 1) i (by omega) hi
  · unfold toCome
    refine Nat.le_trans List.count_le_length ?_
    simp
end
end Go.Proofs.YtlimajgmdhhggaaGreatDoor


namespace Go.Proofs.YtlimajgmdhhggaaGreatDoor
set_option linter.unusedVariables false
set_option linter.unusedSimpArgs false

section
variable {P : Program} {ops : Array Oper} {Q : Exit → Act → World → Prop} {S : World → Prop}

def Det (P : Program) (ops : Array Oper) (S : World → Prop) (o : Oper) (v : Value) (a : Act) : Prop :=
  (Region.wanted o (yielded ops a.tmps) = true ∧ ∀ w, S w → (execOp a.eval o).run P w = .ok (.value v) w ∨
    ∃ f args, (execOp a.eval o).run P w = .ok (.enter f args) w ∧ Calls P f args w fun e w' => e = .returned v ∧ S w') ∨
  (Region.wanted o (yielded ops a.tmps) = false ∧ v = undef)

theorem Det.wpOp {i : Nat} {o : Oper} {v : Value} {a : Act} {w : World} {K : Act → World → Prop} (hi : ops[i]? = some o) (hd : Det P ops S o v a) (hS : S w) (hk : ∀ w', S w' → K (a.put o.dst v) w') : wpOp P ops Q i K a w := by
  unfold Go.wpOp
  simp only [hi]
  rcases hd with ⟨hw, hv⟩ | ⟨hw, rfl⟩
  · simp only [hw, if_true]
    refine .inl ?_
    unfold Oper.wp
    rcases hv w hS with h | ⟨f, args, h, hc⟩
    · rw [h]
      exact hk w hS
    · rw [h]
      exact Calls.mono hc fun e w' he => by
        obtain ⟨rfl, h⟩ := he
        exact hk w' h
  · simp only [hw, Bool.false_eq_true, if_false]
    exact hk w hS

def hasOn (o : Oper) (i : Nat) : Bool := o.after.any fun e => Region.binds .any e && decide (e.on = i)
def detOk (ops : Array Oper) (n : Nat) : Bool := (List.range ops.size).all fun i => match ops[i]? with
  | none => true
  | some o => (o.after.all fun e => decide (e.on < i)) && (match o.op with | .select _ _ => false | _ => true) && (match o.dst with
      | none => true
      | some d => decide (d < n) && (List.range ops.size).all fun j => match ops[j]? with
        | none => true
        | some o' => decide (i = j) || (decide (o'.dst ≠ some d) && (!(o'.looksAt ops).contains d || (if i < j then hasOn o' i else hasOn o j))))

structure DetOk (ops : Array Oper) (n : Nat) : Prop where
  back : ∀ (i : Nat) (o : Oper), ops[i]? = some o → ∀ e ∈ o.after, e.on < i
  sel : ∀ (i : Nat) (o : Oper), ops[i]? = some o → ∀ cs b, o.op ≠ .select cs b
  inn : ∀ (i : Nat) (o : Oper) (d : Tmp), ops[i]? = some o → o.dst = some d → d < n
  one : ∀ (i j : Nat) (o o' : Oper) (d : Tmp), ops[i]? = some o → ops[j]? = some o' → o.dst = some d → o'.dst = some d → i = j
  looks : ∀ (i j : Nat) (o o' : Oper) (d : Tmp), ops[i]? = some o → ops[j]? = some o' → o.dst = some d → d ∈ o'.looksAt ops → i ≠ j → (if i < j then hasOn o' i else hasOn o j) = true

theorem detOk_at {n : Nat} (h : detOk ops n = true) : DetOk ops n := by
  have key : ∀ (i : Nat) (o : Oper), ops[i]? = some o → (o.after.all fun e => decide (e.on < i)) = true ∧ (match o.op with | .select _ _ => false | _ => true) = true ∧ ∀ d, o.dst = some d → d < n ∧ ∀ (j : Nat) (o' : Oper), ops[j]? = some o' → i ≠ j → o'.dst ≠ some d ∧ (d ∈ o'.looksAt ops → (if i < j then hasOn o' i else hasOn o j) = true) := by
    intro i o ho
    have hi : i < ops.size := (Array.getElem?_eq_some_iff.1 ho).1
    have h1 := List.all_eq_true.1 h i (List.mem_range.2 hi)
    rw [ho] at h1
    simp only [Bool.and_eq_true] at h1
    obtain ⟨⟨ha, hs⟩, hb⟩ := h1
    refine ⟨ha, hs, fun d hd => ?_⟩
    rw [hd] at hb
    simp only [Bool.and_eq_true, decide_eq_true_eq] at hb
    refine ⟨hb.1, fun j o' ho' hne => ?_⟩
    have h2 := List.all_eq_true.1 hb.2 j (List.mem_range.2 (Array.getElem?_eq_some_iff.1 ho').1)
    rw [ho'] at h2
    simp only [Bool.or_eq_true, Bool.and_eq_true, decide_eq_true_eq, Bool.not_eq_true'] at h2
    rcases h2 with h2 | ⟨h2, h3⟩
    · exact absurd h2 hne
    · refine ⟨h2, fun hm => ?_⟩
      rcases h3 with h3 | h3
      · have : (o'.looksAt ops).contains d = true := by simpa using hm
        rw [this] at h3
        cases h3
      · exact h3
  refine ⟨fun i o ho e he => ?_, fun i o ho cs b hc => ?_, fun i o d ho hd => ((key i o ho).2.2 d hd).1, fun i j o o' d ho ho' hd hd' => ?_, fun i j o o' d ho ho' hd hm hne => (((key i o ho).2.2 d hd).2 j o' ho' hne).2 hm⟩
  · have := Array.all_eq_true_iff_forall_mem.1 (key i o ho).1 e he
    simpa using this
  · have := (key i o ho).2.1
    rw [hc] at this
    cases this
  · rcases Nat.decEq i j with hne | heq
    · exact absurd hd' (((key i o ho).2.2 d hd).2 j o' ho' hne).1
    · exact heq

structure FrameAt (ops : Array Oper) (vs : List Value) (a0 : Act) (L : Nat → Prop) (a : Act) : Prop where
  defers : a.defers = a0.defers
  slots : a.tmps.size = a0.tmps.size
  come : ∀ (i : Nat) (o : Oper) (d : Tmp), ops[i]? = some o → o.dst = some d → L i → a.tmps[d]? = vs[i]?
  rest : ∀ t, (∀ (i : Nat) (o : Oper), ops[i]? = some o → o.dst = some t → ¬ L i) → a.tmps[t]? = a0.tmps[t]?

theorem FrameAt.put {vs : List Value} {a0 a : Act} {L : Nat → Prop} {n : Nat} (hn : n = a0.tmps.size) (hok : DetOk ops n) (h : FrameAt ops vs a0 L a) {i : Nat} {o : Oper} {v : Value} (ho : ops[i]? = some o) (hv : vs[i]? = some v) :
    FrameAt ops vs a0 (fun j => L j ∨ j = i) (a.put o.dst v) := by
  subst hn
  cases hd : o.dst with
  | none =>
    refine ⟨h.defers, h.slots, fun j o' d ho' hd' hl => ?_, fun t ht => h.rest t fun j o' ho' hd' hl => ht j o' ho' hd' (.inl hl)⟩
    rcases hl with hl | rfl
    · exact h.come j o' d ho' hd' hl
    · rw [ho] at ho'; cases ho'
      rw [hd] at hd'; cases hd'
  | some d =>
    have hdl := hok.inn i o d ho hd
    refine ⟨h.defers, by simp [Act.put, h.slots], fun j o' d' ho' hd' hl => ?_, fun t ht => ?_⟩
    · by_cases hji : j = i
      · subst hji
        rw [ho] at ho'; cases ho'
        rw [hd] at hd'; cases hd'
        have : d < a.tmps.size := by rw [h.slots]; exact hdl
        simp [Act.put, this, hv]
      · have hl' : L j := hl.resolve_right hji
        have hne : d ≠ d' := fun e => hji (hok.one j i o' o d' ho' ho hd' (by rw [hd, e]))
        simp only [Act.put]
        rw [Array.getElem?_setIfInBounds_ne hne]
        exact h.come j o' d' ho' hd' hl'
    · have hne : d ≠ t := fun e => ht i o ho (by rw [hd, e]) (.inr rfl)
      simp only [Act.put]
      rw [Array.getElem?_setIfInBounds_ne hne]
      exact h.rest t fun j o' ho' hd' hl => ht j o' ho' hd' (.inl hl)

theorem FrameAt.same {vs : List Value} {a0 a a' : Act} {L L' : Nat → Prop} {n : Nat} (hok : DetOk ops n) (h : FrameAt ops vs a0 L a) (h' : FrameAt ops vs a0 L' a') {t : Tmp}
    (ht : ∀ (i : Nat) (o : Oper), ops[i]? = some o → o.dst = some t → (L i ↔ L' i)) : a.tmps[t]? = a'.tmps[t]? := by
  by_cases hx : ∃ (i : Nat) (o : Oper), ops[i]? = some o ∧ o.dst = some t ∧ L i
  · obtain ⟨i, o, ho, hd, hl⟩ := hx
    rw [h.come i o t ho hd hl, h'.come i o t ho hd ((ht i o ho hd).1 hl)]
  · rw [h.rest t fun i o ho hd hl => hx ⟨i, o, ho, hd, hl⟩, h'.rest t fun i o ho hd hl => hx ⟨i, o, ho, hd, (ht i o ho hd).2 hl⟩]

theorem FrameAt.imp {vs : List Value} {a0 a : Act} {L L' : Nat → Prop} (h : FrameAt ops vs a0 L a) (hl : ∀ i, i < ops.size → (L i ↔ L' i)) : FrameAt ops vs a0 L' a :=
  have lt : ∀ {i : Nat} {o : Oper}, ops[i]? = some o → i < ops.size := fun ho => (Array.getElem?_eq_some_iff.1 ho).1
  ⟨h.defers, h.slots, fun i o d ho hd hL => h.come i o d ho hd ((hl i (lt ho)).2 hL), fun t ht => h.rest t fun i o ho hd hL => ht i o ho hd ((hl i (lt ho)).1 hL)⟩

theorem Det.same {vs : List Value} {a0 a a' : Act} {L L' : Nat → Prop} {n : Nat} (hok : DetOk ops n) (h : FrameAt ops vs a0 L a) (h' : FrameAt ops vs a0 L' a') {i : Nat} {o : Oper} {v : Value} (ho : ops[i]? = some o)
    (ht : ∀ (j : Nat) (o' : Oper) (d : Tmp), ops[j]? = some o' → o'.dst = some d → d ∈ o.looksAt ops → (L j ↔ L' j)) (hd : Det P ops S o v a) : Det P ops S o v a' := by
  have hs : ∀ d, d ∈ o.looksAt ops → a.tmps[d]? = a'.tmps[d]? := fun d hm => h.same hok h' fun j o' ho' hd' => ht j o' d ho' hd' hm
  have he : execOp a'.eval o = execOp a.eval o := execOp_congr o (hok.sel i o ho) fun x hx => by
    cases x with
    | tmp t =>
      have : t ∈ o.looksAt ops := List.mem_append_left _ (List.mem_filterMap.2 ⟨.tmp t, by simpa using hx, rfl⟩)
      have hh := hs t this
      simp [Act.eval, hh]
    | _ => rfl
  have hw : Region.wanted o (yielded ops a'.tmps) = Region.wanted o (yielded ops a.tmps) := by
    unfold Region.wanted
    cases hg : o.guard with
    | none => rfl
    | some gw =>
      obtain ⟨g, want⟩ := gw
      have hy : yielded ops a'.tmps g = yielded ops a.tmps g := by
        unfold yielded
        cases hb : (ops[g]?).bind (·.dst) with
        | none => rfl
        | some t =>
          have : t ∈ o.looksAt ops := List.mem_append_right _ (by simp [hg, hb])
          have hh := hs t this
          simp [hh]
      simp only [hy]
  unfold Det at *
  rw [he, hw]
  exact hd

def DetSeq (P : Program) (ops : Array Oper) (S : World → Prop) : List Oper → Act → (Act → Prop) → Prop
  | [], a, K => K a
  | o :: rest, a, K => ∃ v, Det P ops S o v a ∧ DetSeq P ops S rest (a.put o.dst v) K

theorem detSeq_get {K : Act → Prop} : ∀ (l : List Oper) (k : Nat) (vs : List Value) (a0 a : Act) (n : Nat), n = a0.tmps.size → DetOk ops n → ops.toList.drop k = l → k ≤ ops.size → vs.length = k →
    (∀ i, i < k → ∀ o, ops[i]? = some o → ∃ b v, vs[i]? = some v ∧ FrameAt ops vs a0 (fun j => j < i) b ∧ Det P ops S o v b) → FrameAt ops vs a0 (fun j => j < k) a → DetSeq P ops S l a K →
    ∃ us : List Value, us.length = ops.size ∧ (∀ i, i < ops.size → ∀ o, ops[i]? = some o → ∃ b v, us[i]? = some v ∧ FrameAt ops us a0 (fun j => j < i) b ∧ Det P ops S o v b) ∧ ∃ b, FrameAt ops us a0 (fun _ => True) b ∧ K b
  | [], k, vs, a0, a, n, hn, hok, hl, hk, hv, hD, hF, hseq => by
    have hke : k = ops.size := by
      have := congrArg List.length hl
      simp at this
      omega
    subst hke
    exact ⟨vs, hv, hD, a, hF.imp fun i hi => ⟨fun _ => trivial, fun _ => hi⟩, hseq⟩
  | o :: l, k, vs, a0, a, n, hn, hok, hl, hk, hv, hD, hF, ⟨v, hd, hrest⟩ => by
    have hlt : k < ops.size := by
      have := congrArg List.length hl
      simp at this
      omega
    have ho : ops[k]? = some o := by
      have h1 : (ops.toList.drop k)[0]? = some o := by rw [hl]; rfl
      rw [List.getElem?_drop] at h1
      simpa using h1
    have old : ∀ i, i < k → (vs ++ [v])[i]? = vs[i]? := fun i hi => List.getElem?_append_left (by omega)
    have mv : ∀ (i : Nat) (b : Act), i ≤ k → FrameAt ops vs a0 (fun j => j < i) b → FrameAt ops (vs ++ [v]) a0 (fun j => j < i) b := fun i b hi hb =>
      ⟨hb.defers, hb.slots, fun j o' d ho' hd' hl' => by
        have hl' : j < i := hl'
        rw [hb.come j o' d ho' hd' hl', old j (by omega)], hb.rest⟩
    refine detSeq_get l (k + 1) (vs ++ [v]) a0 (a.put o.dst v) n hn hok ?_ (by omega) (by simp [hv]) (fun i hi o' ho' => ?_) ?_ hrest
    · have : (ops.toList.drop k).drop 1 = l := by rw [hl]; rfl
      rw [List.drop_drop] at this
      exact this
    · by_cases hik : i = k
      · subst hik
        rw [ho] at ho'; cases ho'
        exact ⟨a, v, by simp [← hv], mv i a (by omega) hF, hd⟩
      · obtain ⟨b, u, h1, h2, h3⟩ := hD i (by omega) o' ho'
        exact ⟨b, u, by rw [old i (by omega)]; exact h1, mv i b (by omega) h2, h3⟩
    · exact ((mv k a (by omega) hF).put hn hok ho (by simp [← hv])).imp fun j _ => ⟨fun h => by omega, fun h => by omega⟩

theorem region_det {id : Nat} {a0 : Act} {w0 : World} (hm : P.follows .mixedOrders = true) (S : World → Prop) (hS : S w0.drew) (hok : detOk ops a0.tmps.size = true)
    (h : DetSeq P ops S ops.toList a0 fun a => ∀ w, S w → Q .normal a w) : (Code.region id ops true).wp P Q a0 w0 := by
  have hk := detOk_at hok
  obtain ⟨us, hul, hD, b, hb, hQ⟩ := detSeq_get ops.toList 0 [] a0 a0 a0.tmps.size rfl hk (by simp) (by omega) rfl (fun i hi => absurd hi (by omega)) ⟨rfl, rfl, fun i o d _ _ hl => absurd hl (Nat.not_lt_zero i), fun _ _ => rfl⟩ h
  have hno : ∀ i, (Array.replicate ops.size false).getD i false = false := fun i => by
    rcases Nat.lt_or_ge i ops.size with h | h <;> simp [h]
  refine region_inv hm (fun listed a w => listed.size = ops.size ∧ S w ∧ (∀ (i : Nat) (o : Oper), ops[i]? = some o → listed.getD i false = true → ∀ e ∈ o.after, Region.binds .any e = true → listed.getD e.on false = true) ∧ FrameAt ops us a0 (fun j => listed.getD j false = true) a) ?_ hk.back (fun listed a w hI => hI.1) ?_ ?_
  · refine ⟨by simp, hS, fun i o _ hl => (by rw [hno] at hl; cases hl), rfl, rfl, fun i o d _ _ hl => (by rw [hno] at hl; cases hl), fun _ _ => rfl⟩
  · rintro listed a w ⟨hs, hSw, hshut, hF⟩ i o ho hi hc
    have hio : i < ops.size := (Array.getElem?_eq_some_iff.1 ho).1
    have hil : i < listed.size := by omega
    have hnl : ¬ listed.getD i false = true := by
      have : listed[i] = false := by simpa [hil] using hi
      simp [hil, this]
    obtain ⟨c, v, hv, hFc, hd⟩ := hD i hio o ho
    have hd' : Det P ops S o v a := hd.same hk hFc hF ho fun j o' d ho' hd' hm => by
      by_cases hji : j = i
      · subst hji
        exact ⟨fun h => absurd h (Nat.lt_irrefl _), fun h => absurd h hnl⟩
      · have hlk := hk.looks j i o' o d ho' ho hd' hm hji
        by_cases hlt : j < i
        · rw [if_pos hlt] at hlk
          obtain ⟨e, he, hbe⟩ := Array.any_eq_true'.1 hlk
          simp only [Bool.and_eq_true, decide_eq_true_eq] at hbe
          have := hc e he hbe.1
          rw [hbe.2] at this
          exact ⟨fun _ => this, fun _ => hlt⟩
        · rw [if_neg hlt] at hlk
          obtain ⟨e, he, hbe⟩ := Array.any_eq_true'.1 hlk
          simp only [Bool.and_eq_true, decide_eq_true_eq] at hbe
          refine ⟨fun h => absurd h hlt, fun h => ?_⟩
          have := hshut j o' ho' h e he hbe.1
          rw [hbe.2] at this
          exact absurd this hnl
    refine hd'.wpOp ho hSw fun w' hSw' => ⟨by simp [hs], hSw', fun j o' ho' hl e he hb => ?_, ?_⟩
    · by_cases hij : i = j
      · subst hij
        rw [ho] at ho'; cases ho'
        exact getD_set_true (hc e he hb)
      · rw [getD_set_ne false hij] at hl
        exact getD_set_true (hshut j o' ho' hl e he hb)
    · refine (hF.put rfl hk ho hv).imp fun j hj => ?_
      by_cases hij : i = j
      · subst hij
        exact ⟨fun _ => by simp [hil], fun _ => .inr rfl⟩
      · rw [getD_set_ne false hij]
        exact ⟨fun h => h.resolve_right fun e => hij e.symm, .inl⟩
  · rintro listed a w ⟨hs, hSw, _, hF⟩ ha
    have hF' := hF.imp (L' := fun _ => True) fun i hi => ⟨fun _ => trivial, fun _ => ha i hi⟩
    have : a = b := by
      obtain ⟨t1, d1⟩ := a
      obtain ⟨t2, d2⟩ := b
      have h1 : t1 = t2 := Array.ext_getElem? fun t => hF'.same hk hb fun _ _ _ _ => Iff.rfl
      have h2 : d1 = d2 := hF'.defers.trans hb.defers.symm
      rw [h1, h2]
    rw [this]
    exact hQ w hSw

theorem det_val {o : Oper} {v : Value} {rest : List Oper} {a : Act} {K : Act → Prop} (hw : Region.wanted o (yielded ops a.tmps) = true) (hv : ∀ w, S w → (execOp a.eval o).run P w = .ok (.value v) w)
    (h : DetSeq P ops S rest (a.put o.dst v) K) : DetSeq P ops S (o :: rest) a K := ⟨v, .inl ⟨hw, fun w hS => .inl (hv w hS)⟩, h⟩
theorem det_shut {o : Oper} {rest : List Oper} {a : Act} {K : Act → Prop} (hw : Region.wanted o (yielded ops a.tmps) = false)
    (h : DetSeq P ops S rest (a.put o.dst undef) K) : DetSeq P ops S (o :: rest) a K := ⟨undef, .inr ⟨hw, rfl⟩, h⟩
theorem det_call {o : Oper} {v : Value} {f : FuncId} {args : Array Value} {rest : List Oper} {a : Act} {K : Act → Prop} (hw : Region.wanted o (yielded ops a.tmps) = true) (hv : ∀ w, S w → (execOp a.eval o).run P w = .ok (.enter f args) w)
    (hc : ∀ w, S w → Calls P f args w fun e w' => e = .returned v ∧ S w')
    (h : DetSeq P ops S rest (a.put o.dst v) K) : DetSeq P ops S (o :: rest) a K := ⟨v, .inl ⟨hw, fun w hS => .inr ⟨f, args, hv w hS, hc w hS⟩⟩, h⟩
end
end Go.Proofs.YtlimajgmdhhggaaGreatDoor

