/- Several texts in one file: EnWith, EnIdx, EnIns, EnSet, EnMaker, EnSort, EnSetW, EnNorm. -/
import Derived.Test.YtncnlbmdkognnaaGreatDoorEnOwn
import Derived.Shelf.Spec.SlicesInsert
import Derived.Lib.AppendZerosOnto
import Derived.Laws.NewBlocks
import Derived.Laws.LoneSync
import Derived.Laws.Externs
import Derived.Deep.RegionHeld3
import Derived.Test.YtncnlbmdkognnaaGreatDoorDnTextW
import Derived.Test.YtncnlbmdkognnaaGreatDoorDnKey
namespace Go.Proofs.YtncnlbmdkognnaaGreatDoor
open Go.RowKit
set_option linter.unusedVariables false

theorem ownA_lt {B : Nat} {w : World} {v : Value} {L : List AT} (h : OwnA B w v L) (g : Nat) (e : v.ownBlock = some g) : g < w.heap.size := by
  obtain ⟨P, h1, _⟩ := h
  exact (World.ownsRow.lt h1 g e).2
def withoutA (L : List AT) (t : List UInt8) : List AT := L.filter (fun a => !(low a.1 == low t))
theorem without_more {L : List AT} {t : List UInt8} {j : Nat} (h : j < L.length) : withoutA (L.take (j + 1)) t = withoutA (L.take j) t ++ (if (low L[j].1 == low t) = true then [] else [L[j]]) := by
  unfold withoutA
  rw [List.take_succ_eq_append_getElem h, List.filter_append]
  congr 1
  cases e : (low L[j].1 == low t) <;> simp [List.filter, e]
theorem without_len (L : List AT) (t : List UInt8) (j : Nat) : (withoutA (L.take j) t).length ≤ j :=
  Nat.le_trans (List.length_filter_le _ _) (List.length_take_le _ _)

set_option maxRecDepth 100000 in
set_option maxHeartbeats 4000000 in
theorem without_any (L : List AT) (hs : smallA L) (v : Value) (t : ByteArray) (w : World) (h : IsA w.heap.size w L v) :
    Calls Tryz.prog 38 #[v, .string t] w fun e w' => ∃ u, e = .returned u ∧ OwnA w.heap.size w' u (withoutA L t.data.toList) ∧ Below w.heap.size w w' := by
  obtain ⟨a, c, rfl, hm, hcell⟩ := h
  unfold maxLen at hm
  have HC := Lib.hid hcell
  have HS := Lib.hid hs
  have hL := hs.1
  clear hcell hs
  go_enter Tryz.func38, Tryz.ntmps38
  go_wp2
  go_loopw [5, 10] (fun l i wr => ∃ j : Nat, j ≤ L.length ∧ i = .int .i64 j ∧ OwnA w.heap.size wr l (withoutA (L.take j) t.data.toList) ∧ Below w.heap.size w wr) (fun _ i wr => L.length - (intOf i).toNat)
  case atStart => exact ⟨0, by omega, rfl, ownA_nil _ _, Below.refl _ _⟩
  case round =>
    obtain ⟨j, hj, rfl, hown, hbel⟩ := hrel
    have HBel := Lib.hid hbel
    have hbs := hbel.size
    obtain ⟨la, lc, hlv⟩ := ownA_slice hown
    obtain ⟨W, hW⟩ : ∃ W, withoutA (L.take j) t.data.toList = W := ⟨_, rfl⟩
    have hWl := without_len L t.data.toList j
    rw [hW] at hown hlv hWl
    obtain ⟨ln, hln⟩ : ∃ n, n = W.length := ⟨_, rfl⟩
    rw [← hln] at hlv
    subst hlv
    have HLn := Lib.hid hln
    clear hln
    have HOwn := Lib.hid hown
    by_cases hlt : j < L.length
    · have t1 : decide ((j : Int) < (L.length : Int)) = true := by simp; omega
      have t1' : decide (j < L.length) = true := by simpa using hlt
      obtain ⟨b, off, u, rfl, hb0, c0, c1, ht⟩ := HC.out j hlt
      obtain ⟨ua, uc, hu, _⟩ := id ht
      obtain ⟨un, hun⟩ : ∃ n, n = L[j].2.length := ⟨_, rfl⟩
      rw [← hun] at hu
      subst hu
      clear hun
      have HT := Lib.hid ht
      obtain ⟨X, hX⟩ : ∃ X : ByteArray, ⟨L[j].1.toArray⟩ = X := ⟨_, rfl⟩
      have hXl : X.data.toList = L[j].1 := by rw [← hX]
      have d0 : (wr.cell? ⟨b, off + j * 2, none⟩) = some (.string X) := by
        rw [hbel.cell (p := ⟨b, _, none⟩) hb0, c0, ← hX]; rfl
      have d1 := (hbel.cell (p := ⟨b, off + j * 2 + 1, none⟩) hb0).trans c1
      have hXs : X.size ≤ 281474976710656 := by
        have := (HS.out.2 L[j] (List.getElem_mem _)).1
        rw [← bytes_len, hXl]; omega
      have hsl := fun w => sameLetters_any X t hXs w
      rw [hXl] at hsl
      have hnew := without_more (t := t.data.toList) hlt
      rw [hW] at hnew
      obtain ⟨g, hg⟩ : ∃ g, (low L[j].1 == low t.data.toList) = g := ⟨_, rfl⟩
      rw [hg] at hsl hnew
      have HSl := Lib.hid hsl
      have HA := Lib.hid (Below.alloc hbel hbs (.cells #[.string X, .slice ua un uc] 40))
      have HA0 := Lib.hid (Below.alloc (Below.refl wr.heap.size wr) (Nat.le_refl _) (.cells #[.string X, .slice ua un uc] 40))
      have hst := (HS.out.2 L[j] (List.getElem_mem _)).2
      have HST := Lib.hid hst
      have HXl := Lib.hid hXl
      have HCl := Lib.hid (fun w => clone_any X w hXs)
      clear hX hXl c0 c1 hsl hbel ht hg hown hst
      cases g with
      | true =>
        simp only [if_true, List.append_nil] at hnew
        have HN := Lib.hid hnew
        clear hnew
        go_wp2_with (go_at_call 56; refine (HSl.out _).mono ?_; rintro e w2 ⟨rfl, hb2⟩; have HB2 := Lib.hid (HA.out.trans (hb2.mono (by simp; omega))); have HO2 := Lib.hid (ownA_below HOwn.out (HA0.out.trans (hb2.mono (by simp)))); clear hb2)
        go_roundw
        case rel => exact ⟨j + 1, by omega, by go_num, by rw [HN.out]; exact HO2.out, HB2.out⟩
        case measure => simp [intOf]; omega
      | false =>
        simp only [Bool.false_eq_true, if_false] at hnew
        have HN := Lib.hid hnew
        clear hnew
        go_wp2_with (go_at_call 56; refine (HSl.out _).mono ?_; rintro e w2 ⟨rfl, hb2⟩; have f0 : w2.cell? ⟨wr.heap.size, 0, none⟩ = some (.string X) := by { rw [hb2.cell (p := ⟨wr.heap.size, 0, none⟩) (by simp)]; simp }; have f1 : w2.cell? ⟨wr.heap.size, 1, none⟩ = some (.slice ua un uc) := by { rw [hb2.cell (p := ⟨wr.heap.size, 1, none⟩) (by simp)]; simp }; have hz2 : wr.heap.size < w2.heap.size := by { have := hb2.size; simp at this; omega }; have HB2 := Lib.hid (HA.out.trans (hb2.mono (by simp; omega))); have HO2 := Lib.hid (ownA_below HOwn.out (HA0.out.trans (hb2.mono (by simp)))); clear hb2)
        have hdr : Below w2.heap.size w2 w2.drew := ⟨rfl, rfl, rfl, Nat.le_refl _, fun _ _ => rfl⟩
        have HB3 := Lib.hid (HB2.out.trans (hdr.mono HB2.out.size))
        have HO3 := Lib.hid (ownA_below HO2.out hdr)
        clear d0 d1 hdr
        have hz3 := HB2.out.size
        have hz3' : w.heap.size ≤ w2.drew.heap.size := hz3
        go_region_law (first
          | (go_simp; go_at_call 41; ((with_reducible refine (HCl.out _).mono ?_); rintro e w4 ⟨rfl, hb4⟩; have g0 : w4.cell? ⟨wr.heap.size, 0, none⟩ = some (.string X) := by { rw [hb4.cell (p := ⟨wr.heap.size, 0, none⟩) (by simp; omega)]; simpa using f0 }; have g1 : w4.cell? ⟨wr.heap.size, 1, none⟩ = some (.slice ua un uc) := by { rw [hb4.cell (p := ⟨wr.heap.size, 1, none⟩) (by simp; omega)]; simpa using f1 }; have hz4 := hb4.size; have HB4 := Lib.hid (bthen HB3.out hb4); have HO4 := Lib.hid (ownA_below HO3.out hb4); clear hb4))
          | (go_simp; go_at_call 31; ((with_reducible refine (copyVals_any _ HST.out _ _ (HT.out.below HB4.out HB4.out.size)).mono ?_); rintro e w5 ⟨u5, rfl, hu5, hb5⟩; have HU5 := Lib.hid (ownS_isTo hu5 (by have := HST.out.1; unfold maxLen; omega)); have HB5 := Lib.hid (bthen HB4.out hb5); have HO5 := Lib.hid (ownA_below HO4.out hb5); have hz5 := hb5.size; (obtain ⟨xa, xc, hxe⟩ := ownS_slice hu5); clear hu5 hb5; subst hxe))
          | (refine step_append_attr rfl (.tmp 19) (.tmp 27) rfl w.heap.size (.slice la ln lc) W rfl X _ L[j].2 HO5.out (HU5.out.imp (fun b hb => ⟨by have := hb.1; omega, hb.2, fun e => absurd (ownA_lt HO4.out b e.symm) (by have := hb.1; omega)⟩) (fun _ _ _ => rfl)) rfl rfl (by omega) (by omega) ?_; intro v6 w6 hown6 hb6; have HO6 := Lib.hid hown6; have HB6 := Lib.hid hb6; clear hown6 hb6))
        all_goals
          go_wp2
          go_roundw
          case rel => exact ⟨j + 1, by omega, by go_num, by rw [HN.out, show L[j] = (X.data.toList, L[j].2) from by rw [HXl.out]]; exact HO6.out, HB5.out.trans HB6.out⟩
          case measure => simp [intOf]; omega
    · obtain rfl : j = L.length := by omega
      have t1 : decide ((L.length : Int) < (L.length : Int)) = false := by simp
      have t1' : decide (L.length < L.length) = false := by simp
      rw [List.take_length] at hW
      have HW2 := Lib.hid hW
      clear hbel hW hown
      go_wp2
      go_ret
      exact ⟨_, rfl, by rw [HW2.out]; exact HOwn.out, HBel.out⟩
end Go.Proofs.YtncnlbmdkognnaaGreatDoor


namespace Go.Proofs.YtncnlbmdkognnaaGreatDoor
open Go.RowKit
set_option linter.unusedVariables false

def gtB (x y : List UInt8) : Bool := !Op.bytesLess x y && !(x == y)
set_option maxRecDepth 100000 in
set_option maxHeartbeats 2000000 in
theorem above_any (X Y : ByteArray) (u : Value) (b o : Nat) (w : World) (hc : w.cell? ⟨b, o, none⟩ = some (.string Y)) (hb : b < w.heap.size) :
    Calls Tryz.prog 61 #[.agg #[.string X, u], .pointer (some ⟨b, o, none⟩)] w fun e w' => e = .returned (.bool (gtB X.data.toList Y.data.toList)) ∧ Below w.heap.size w w' := by
  have hbel : Below w.heap.size w (w.alloc (.cells #[.string X, u] 40)) := (Below.refl _ _).alloc (Nat.le_refl _) _
  have c1 := (hbel.cell (p := ⟨b, o, none⟩) hb).trans hc
  have HB := Lib.hid hbel
  clear hbel
  go_enter Tryz.func61, Tryz.ntmps61
  go_wp2
  go_ret
  exact ⟨by unfold gtB; rw [← ByteArray.toList_eq, ← ByteArray.toList_eq]; rfl, HB.out⟩

def idxI (L : List AT) (y : List UInt8) : Int := match L.findIdx? (fun b => gtB b.1 y) with
  | some k => (k : Int)
  | none => -1
theorem idxI_at {L : List AT} {y : List UInt8} (j : Nat) (hj : j < L.length) (h : ∀ k (hk : k < L.length), k < j → gtB L[k].1 y = false) (he : gtB L[j].1 y = true) : idxI L y = j := by
  have : L.findIdx? (fun b => gtB b.1 y) = some j := by
    rw [List.findIdx?_eq_some_iff_getElem]
    exact ⟨hj, he, fun k hk => by simpa using h k (by omega) hk⟩
  unfold idxI; rw [this]
theorem idxI_no {L : List AT} {y : List UInt8} (h : ∀ k (hk : k < L.length), gtB L[k].1 y = false) : idxI L y = -1 := by
  have : L.findIdx? (fun b => gtB b.1 y) = none := by
    rw [List.findIdx?_eq_none_iff]
    intro x hx
    obtain ⟨k, hk, rfl⟩ := List.getElem_of_mem hx
    exact h k hk
  unfold idxI; rw [this]

set_option maxRecDepth 100000 in
set_option maxHeartbeats 2000000 in
theorem indexA_any (L : List AT) (hs : L.length ≤ 1000000) (v : Value) (Y : ByteArray) (pb po : Nat) (w : World) (h : IsA w.heap.size w L v) (hc : w.cell? ⟨pb, po, none⟩ = some (.string Y)) (hb : pb < w.heap.size) :
    Calls Tryz.prog 60 #[v, .func (.func 61) #[] #[.pointer (some ⟨pb, po, none⟩)]] w fun e w' => e = .returned (.int .i64 (idxI L Y.data.toList)) ∧ Below w.heap.size w w' := by
  obtain ⟨a, c, rfl, hm, hcell⟩ := h
  unfold maxLen at hm
  have HC := Lib.hid hcell
  have HY := Lib.hid hc
  obtain ⟨I, hI⟩ : ∃ I, idxI L Y.data.toList = I := ⟨_, rfl⟩
  rw [hI]
  have HI := Lib.hid hI
  clear hcell hc hI
  go_enter Tryz.func60, Tryz.ntmps60
  go_wp2
  go_loopw [8] (fun i wr => ∃ j : Nat, j ≤ L.length ∧ i = .int .i64 j ∧ Hid (∀ k (hk : k < L.length), k < j → gtB L[k].1 Y.data.toList = false) ∧ Below w.heap.size w wr) (fun i wr => L.length - (intOf i).toNat)
  case atStart => exact ⟨0, by omega, rfl, Lib.hid (fun k _ h => absurd h (by omega)), Below.refl _ _⟩
  case round =>
    obtain ⟨j, hj, rfl, HNo, hbel⟩ := hrel
    have HBel := Lib.hid hbel
    have hbs := hbel.size
    by_cases hlt : j < L.length
    · have t1 : decide ((j : Int) < (L.length : Int)) = true := by simp; omega
      have t1' : decide (j < L.length) = true := by simpa using hlt
      obtain ⟨b, off, u, rfl, hb0, c0, c1, ht⟩ := HC.out j hlt
      obtain ⟨X, hX⟩ : ∃ X : ByteArray, ⟨L[j].1.toArray⟩ = X := ⟨_, rfl⟩
      have hXl : X.data.toList = L[j].1 := by rw [← hX]
      have d0 : (wr.cell? ⟨b, off + j * 2, none⟩) = some (.string X) := by
        rw [hbel.cell (p := ⟨b, _, none⟩) hb0, c0, ← hX]; rfl
      have d1 := (hbel.cell (p := ⟨b, off + j * 2 + 1, none⟩) hb0).trans c1
      have hab := above_any X Y u pb po wr ((hbel.cell (p := ⟨pb, po, none⟩) hb).trans HY.out) (by omega)
      rw [hXl] at hab
      obtain ⟨g, hg⟩ : ∃ g, gtB L[j].1 Y.data.toList = g := ⟨_, rfl⟩
      rw [hg] at hab
      have HAb := Lib.hid hab
      have HG := Lib.hid hg
      clear hX hXl c0 c1 hab hbel ht hg
      cases g with
      | true =>
        have HR := Lib.hid (HI.out.symm.trans (idxI_at j hlt HNo.out HG.out))
        go_wp2_with (go_at_call 61; refine (HAb.out).mono ?_; rintro e w2 ⟨rfl, hb2⟩; have HB2 := Lib.hid (HBel.out.trans (hb2.mono hbs)); clear hb2)
        go_ret
        exact ⟨by rw [HR.out]; rfl, HB2.out⟩
      | false =>
        have HN : Hid (∀ k (hk : k < L.length), k < j + 1 → gtB L[k].1 Y.data.toList = false) := Lib.hid (fun k h1 h3 => by
            by_cases hk : k < j
            · exact HNo.out k h1 hk
            · obtain rfl : k = j := by omega
              exact HG.out)
        go_wp2_with (go_at_call 61; refine (HAb.out).mono ?_; rintro e w2 ⟨rfl, hb2⟩; have HB2 := Lib.hid (HBel.out.trans (hb2.mono hbs)); clear hb2)
        go_roundw
        case rel => exact ⟨j + 1, by omega, by go_num, HN, HB2.out⟩
        case measure => simp [intOf]; omega
    · obtain rfl : j = L.length := by omega
      have t1 : decide ((L.length : Int) < (L.length : Int)) = false := by simp
      have t1' : decide (L.length < L.length) = false := by simp
      have HR := Lib.hid (HI.out.symm.trans (idxI_no (fun k hk => HNo.out k hk hk)))
      clear hbel
      go_wp2
      go_ret
      exact ⟨by rw [HR.out]; rfl, HBel.out⟩
end Go.Proofs.YtncnlbmdkognnaaGreatDoor


namespace Go.Proofs.YtncnlbmdkognnaaGreatDoor
open Go.RowKit
set_option linter.unusedVariables false

theorem sizeA : (Tryz.prog.info? 40).map (·.size) = some 2 := by kernel_rfl
theorem run_copy_attr (w : World) (ty : TypeId) (g o dLen dCap : Nat) (a : Addr) (sLen sCap : Nat) (cur : Array Value) (t : TypeId) (cs : List Value)
    (hg : w.heap[g]? = some (.cells cur t (0, 0))) (hn : cs.length = Nat.min sLen dLen * 2)
    (hsrc : ∀ j v, cs[j]? = some v → w.cell? (a.add j) = some v) (hfit : o + cs.length ≤ cur.size) (h1 : ∀ v ∈ cs, v.oneCell' = true) :
    (Builtin.copy_ #[22, 22] ty #[.slice (some ⟨g, o, none⟩) dLen dCap, .slice (some a) sLen sCap]).run Tryz.prog w =
      .ok (goInt (Nat.min sLen dLen)) (w.setRow g (cur.toList.take o ++ cs ++ cur.toList.drop (o + cs.length)).toArray) := by
  have hl := run_loadCells_list (P := Tryz.prog) w a cs hsrc
  have hst := run_storeCells_at Tryz.prog g o t cs 0 cur w hg (by simpa using hfit) h1
  have hu : Tryz.prog.underlying 22 = some (.slice 40) := Tryz.underlying22
  have hs := sizeA
  cases hq : Tryz.prog.info? 40 with
  | none => simp [hq] at hs
  | some i =>
    have hi : i.size = 2 := by simpa [hq] using hs
    simp [Builtin.copy_, run_underlying hu, Builtin.lenOf, Builtin.firstCells, sizeOf, typeInfo, hq, hi, ← hn, hl, hst]

def InsW (B : Nat) (w : World) (ob : Option Nat) (Q : List PT) (e : Ending) (w' : World) : Prop := ∃ v', e = .returned v' ∧ RowP B w' v' Q ∧ w.grownBy w' ob ∧ (v'.ownBlock = ob ∨ v'.ownBlock = some w.heap.size)

set_option maxRecDepth 100000 in
set_option maxHeartbeats 4000000 in
theorem insert_end (P : List PT) (v : Value) (B : Nat) (X : ByteArray) (u : Value) (hu1 : u.oneCell' = true) (vb : Nat) (w : World) (hrow : RowP B w v P) (hP : P.length + 1 ≤ 1000000) (hB : B ≤ w.heap.size)
    (h0 : w.cell? ⟨vb, 0, none⟩ = some (.string X)) (h1 : w.cell? ⟨vb, 1, none⟩ = some u) :
    Calls Tryz.prog 62 #[v, .int .i64 P.length, .slice (some ⟨vb, 0, none⟩) 1 1] w (InsW B w v.ownBlock (P ++ [(X.data.toList, u)])) := by
  obtain ⟨i0, hi, hz0, hz1, hz2⟩ := info_parts infoA
  have hnews : ∀ j x, [Value.string X, u][j]? = some x → w.cell? ((⟨vb, 0, none⟩ : Addr).add j) = some x := by
    intro j x hj
    match j, hj with
    | 0, hj => simp at hj; subst hj; simpa [Addr.add] using h0
    | 1, hj => simp at hj; subst hj; simpa [Addr.add] using h1
  have HNews := Lib.hid hnews
  have HRow := Lib.hid hrow
  obtain ⟨ob, hob⟩ : ∃ ob, v.ownBlock = ob := ⟨_, rfl⟩
  rw [hob]
  have HOb := Lib.hid hob
  obtain ⟨sa, sc, hv⟩ := rowP_slice hrow
  have hcap : P.length ≤ sc ∧ sc ≤ 9223372036854775807 ∧ (sa = none → P.length = 0 ∧ sc = 0) := by
    rcases hrow.2 with ⟨e1, hz⟩ | ⟨g, cap, cur, e1, _, _, h2, h3, _⟩
    · rw [hv] at e1; simp only [Value.slice.injEq] at e1; obtain ⟨rfl, e2, rfl⟩ := e1; exact ⟨by omega, by omega, fun _ => ⟨e2, rfl⟩⟩
    · rw [hv] at e1; simp only [Value.slice.injEq] at e1; obtain ⟨rfl, e2, rfl⟩ := e1; exact ⟨h2, by unfold maxLen at h3; omega, fun h => by cases h⟩
  obtain ⟨hc1, hc2, hc3⟩ := hcap
  obtain ⟨pn, hpn⟩ : ∃ n, n = P.length := ⟨_, rfl⟩
  have HPn := Lib.hid hpn
  have hPP := hP
  rw [← hpn] at hv hc1 hc3 hP ⊢
  subst hv
  clear hnews hrow h0 h1 hpn hob
  go_enter Tryz.func62, Tryz.ntmps62
  go_wp2_with (at_builtin; refine wpList_append_own_at _ rfl (.tmp 23) (.tmp 24) 22 rfl B 40 i0 (.agg #[.string ⟨#[]⟩, .slice none 0 0]) 2 40 Tryz.underlying22 hi hz0 hz1 hz2 rfl (by decide) (.slice sa pn sc) P.length (cellsP P) rfl HRow.out ⟨vb, 0, none⟩ 1 1 [.string X, u] rfl rfl HNews.out (by intro u' hu'; simp at hu'; rcases hu' with rfl | rfl; rfl; exact hu1) (by unfold maxLen; omega) (by omega) hB ?_; intro v5 w5 hown5 hgrow5 _ hat5; have HO5 := Lib.hid hown5; have HG5 := Lib.hid hgrow5; have HT5 := Lib.hid hat5; rw [HOb.out] at HG5 HT5; clear hown5 hgrow5 hat5)
  all_goals
    go_ret
    refine ⟨_, rfl, ?_, HG5.out, HT5.out⟩
    unfold RowP
    rw [List.length_append, cellsP_append]
    show World.ownsRow _ _ _ _ _ (P.length + 1) (cellsP P ++ [strV X.data.toList, u])
    rw [strV_whole]
    exact HO5.out

theorem cellsP_take : ∀ (P : List PT) (i : Nat), (cellsP P).take (i * 2) = cellsP (P.take i)
  | [], i => by simp [cellsP]
  | r :: P, 0 => by simp [cellsP]
  | r :: P, i + 1 => by
    rw [show (i + 1) * 2 = i * 2 + 2 from by omega]
    show _ :: _ :: (cellsP P).take (i * 2) = _
    rw [cellsP_take P i]; rfl
theorem cellsP_drop : ∀ (P : List PT) (i : Nat), (cellsP P).drop (i * 2) = cellsP (P.drop i)
  | [], i => by simp [cellsP]
  | r :: P, 0 => by simp [cellsP]
  | r :: P, i + 1 => by
    rw [show (i + 1) * 2 = i * 2 + 2 from by omega]
    show (cellsP P).drop (i * 2) = _
    rw [cellsP_drop P i]; rfl
theorem shift_row {α : Type} {C cur : List α} {k : Nat} {x y : α} (hC : cur.take C.length = C) (hk : k ≤ C.length) (hroom : C.length + 2 ≤ cur.length) :
    let A1 := cur.take (k + 2) ++ C.drop k ++ cur.drop (k + 2 + (C.drop k).length)
    A1.length = cur.length ∧ ∃ r, A1.take k ++ [x, y] ++ A1.drop (k + 2) = (C.take k ++ [x, y] ++ C.drop k) ++ r ∧ (A1.take k ++ [x, y] ++ A1.drop (k + 2)).length = cur.length := by
  have hCl : C.length ≤ cur.length := by omega
  have e0 : cur.take k = C.take k := by
    have := congrArg (List.take k) hC
    rwa [List.take_take, Nat.min_eq_left hk] at this
  have e1 : (cur.take (k + 2)).length = k + 2 := by rw [List.length_take]; omega
  have e2 : (C.drop k).length = C.length - k := List.length_drop
  refine ⟨by simp; omega, cur.drop (k + 2 + (C.drop k).length), ?_, by simp; omega⟩
  have f1 : (cur.take (k + 2) ++ C.drop k ++ cur.drop (k + 2 + (C.drop k).length)).take k = C.take k := by
    rw [List.append_assoc, List.take_append_of_le_length (by omega), List.take_take, Nat.min_eq_left (by omega), e0]
  have f2 : (cur.take (k + 2) ++ C.drop k ++ cur.drop (k + 2 + (C.drop k).length)).drop (k + 2) = C.drop k ++ cur.drop (k + 2 + (C.drop k).length) := by
    rw [List.append_assoc, List.drop_left' e1]
  rw [f1, f2]
  simp

theorem overlaps_no (w : World) (vb g o lb cb kB : Nat) (cv cur : Array Value) (hne : vb ≠ g) (hv : w.heap[vb]? = some (.cells cv 40 (0, 0))) (hg : w.heap[g]? = some (.cells cur 40 (0, 0))) (hk : cur.size ≠ 0) :
    (callFunc 86 #[.slice (some ⟨vb, 0, none⟩) 1 1, .slice (some ⟨g, o, none⟩) lb cb]).run Tryz.prog w = .ok (.value (.bool false)) w := by
  rw [run_callFunc_extern Tryz.func86 (by kernel_rfl) (by kernel_rfl) (by kernel_rfl) (e := Extern.SlicesOverlaps.overlaps #[22, 22] #[4]) (by kernel_rfl),
    Lib.run_overlaps_apart w 22 4 40 Tryz.underlying22 2 Tryz.sizeOf40 ⟨vb, 0, none⟩ ⟨g, o, none⟩ 1 1 lb cb hne 40 40 cv.size cur.size (by simp [World.shape?, hv]) (by simp [World.shape?, hg]) hk (by simp [World.frozen?, hv]) (by simp [World.frozen?, hv])]
  rfl

set_option maxRecDepth 100000 in
set_option maxHeartbeats 4000000 in
theorem insert_shift (P : List PT) (B g cap i vb : Nat) (cur : Array Value) (X : ByteArray) (u : Value) (hu1 : u.oneCell' = true) (w : World) (hBg : B ≤ g) (hg : w.heap[g]? = some (.cells cur 40 (0, 0)))
    (hcs : cur.size = cap * 2) (htake : cur.toList.take (cellsP P).length = cellsP P) (hi : i < P.length) (hroom : P.length + 1 ≤ cap) (hcm : cap ≤ 9223372036854775807) (hne : vb ≠ g) (hv : w.heap[vb]? = some (.cells #[.string X, u] 40 (0, 0))) (h1 : ∀ x ∈ cellsP P, x.oneCell' = true) :
    Calls Tryz.prog 62 #[.slice (some ⟨g, 0, none⟩) P.length cap, .int .i64 i, .slice (some ⟨vb, 0, none⟩) 1 1] w (InsW B w (some g) (P.take i ++ (X.data.toList, u) :: P.drop i)) := by
  obtain ⟨n, hn⟩ : ∃ n, n = P.length := ⟨_, rfl⟩
  rw [← hn] at hi hroom ⊢
  have HN := Lib.hid hn
  have hov := fun o lb cb => overlaps_no w vb g o lb cb 0 _ cur hne hv hg (by omega)
  have hz2 : ¬ ((i : Int) = (n : Int)) := by omega
  have hw1 : IntKind.i64.wrap ((i : Int) + 1) = (i : Int) + 1 := by rw [IntKind.wrap_i64]; omega
  have hb1 : (0 : Int) ≤ (i : Int) + 1 := by omega
  have hin : i ≤ n := by omega
  have htn : ((i : Int) + 1).toNat = i + 1 := by omega
  have hb2 : ¬ (cap = i + 1) := by omega
  have hb3 : (i : Int) ≤ (n : Int) + 1 := by omega
  have hb4 : ¬ (cap = i) := by omega
  have hb5 : i + 1 ≤ n + 1 := by omega
  have hCl : (cellsP P).length = n * 2 := by rw [cellsP_length, hn]
  obtain ⟨C, hC⟩ : ∃ C, C = cellsP P := ⟨_, rfl⟩
  rw [← hC] at htake h1 hCl
  have hcur : C.length + 2 ≤ cur.toList.length := by rw [hCl, Array.length_toList, hcs]; omega
  have hsh := shift_row (x := Value.string X) (y := u) htake (k := i * 2) (by omega) hcur
  simp only at hsh
  obtain ⟨A1, hA1⟩ : ∃ A1, A1 = cur.toList.take (i * 2 + 2) ++ C.drop (i * 2) ++ cur.toList.drop (i * 2 + 2 + (C.drop (i * 2)).length) := ⟨_, rfl⟩
  rw [← hA1] at hsh
  obtain ⟨hl1, r, hr, hl2⟩ := hsh
  have hdl : (C.drop (i * 2)).length = (n - i) * 2 := by rw [List.length_drop, hCl]; omega
  have hcat : ∀ j x, (C.drop (i * 2))[j]? = some x → cur.toList[i * 2 + j]? = some x := fun j x hj => by
    rw [List.getElem?_drop] at hj
    have hlt := (List.getElem?_eq_some_iff.1 hj).1
    rw [← htake, List.getElem?_take, if_pos hlt] at hj
    exact hj
  have hcp1 : ∀ ty dc sc, (Builtin.copy_ #[22, 22] ty #[.slice (some ⟨g, (i + 1) * 2, none⟩) (n - i) dc, .slice (some ⟨g, i * 2, none⟩) (n + 1 - i) sc]).run Tryz.prog w.drew = .ok (goInt (Nat.min (n + 1 - i) (n - i))) (w.drew.setRow g A1.toArray) := fun ty dc sc => by
    have := run_copy_attr w.drew ty g ((i + 1) * 2) (n - i) dc ⟨g, i * 2, none⟩ (n + 1 - i) sc cur 40 (C.drop (i * 2)) hg (by rw [hdl]; simp only [Nat.min_def]; split <;> omega)
      (fun j x hj => by
        have := hcat j x hj
        rw [Addr.add_lit]
        show w.cell? _ = _
        simp only [World.cell?, hg]
        simpa using this)
      (by rw [hdl, hcs]; omega) (fun x hx => h1 x (List.mem_of_mem_drop hx))
    rw [show (i + 1) * 2 = i * 2 + 2 from by omega] at this ⊢
    rw [← hA1] at this
    exact this
  have hg1 : (w.drew.setRow g A1.toArray).heap[g]? = some (.cells A1.toArray 40 (0, 0)) := setRow_heap w.drew g cur A1.toArray 40 (0, 0) hg
  have hv1 : (w.drew.setRow g A1.toArray).heap[vb]? = some (.cells #[.string X, u] 40 (0, 0)) := (setRow_other w.drew g vb _ hne).trans hv
  have hcp2 : ∀ ty dc, (Builtin.copy_ #[22, 22] ty #[.slice (some ⟨g, i * 2, none⟩) (n + 1 - i) dc, .slice (some ⟨vb, 0, none⟩) 1 1]).run Tryz.prog (w.drew.setRow g A1.toArray) = .ok (goInt (Nat.min 1 (n + 1 - i))) ((w.drew.setRow g A1.toArray).setRow g (A1.take (i * 2) ++ [Value.string X, u] ++ A1.drop (i * 2 + 2)).toArray) := fun ty dc => by
    have := run_copy_attr (w.drew.setRow g A1.toArray) ty g (i * 2) (n + 1 - i) dc ⟨vb, 0, none⟩ 1 1 A1.toArray 40 [Value.string X, u] hg1 (by simp only [Nat.min_def]; split <;> simp <;> omega)
      (fun j x hj => by
        rw [Addr.add_lit, Nat.zero_add]
        simp only [World.cell?, hv1]
        simpa using hj)
      (by simp [hl1, hcs]; omega) (by intro x hx; simp at hx; rcases hx with rfl | rfl; rfl; exact hu1)
    simpa using this
  obtain ⟨A2, hA2⟩ : ∃ A2, A2 = A1.take (i * 2) ++ [Value.string X, u] ++ A1.drop (i * 2 + 2) := ⟨_, rfl⟩
  rw [← hA2] at hcp2 hr hl2
  obtain ⟨W1, hW1⟩ : ∃ W1, W1 = w.drew.setRow g A1.toArray := ⟨_, rfl⟩
  rw [← hW1] at hcp1 hcp2
  have hfin : InsW B w (some g) (P.take i ++ (X.data.toList, u) :: P.drop i) (.returned (.slice (some ⟨g, 0, none⟩) (n + 1) cap)) (W1.setRow g A2.toArray) := by
    have hh := setRow_heap W1 g A1.toArray A2.toArray 40 (0, 0) (by rw [hW1]; exact hg1)
    have hlen : (P.take i ++ (X.data.toList, u) :: P.drop i).length = n + 1 := by simp; omega
    have hcl : cellsP (P.take i ++ (X.data.toList, u) :: P.drop i) = C.take (i * 2) ++ [Value.string X, u] ++ C.drop (i * 2) := by
      rw [cellsP_append, hC, cellsP_take, cellsP_drop]
      show _ ++ (strV X.data.toList :: u :: cellsP (P.drop i)) = _
      rw [strV_whole]; simp
    refine ⟨_, rfl, ?_, ?_, .inl rfl⟩
    · unfold RowP
      rw [hlen, hcl]
      refine ⟨by simp [hCl]; omega, .inr ⟨g, cap, A2.toArray, rfl, hBg, hh, by omega, by unfold maxLen; omega, by simp [hl2, hcs], ?_⟩⟩
      rw [show A2.toArray.toList = A2 from by simp, hr]
      exact List.take_left' (by simp [hCl]; omega)
    · exact ⟨by rw [hW1]; rfl, by rw [hW1]; rfl, by rw [hW1]; rfl, by rw [hW1]; simp [World.setRow], fun k hk hne => by
        have hkg : k ≠ g := fun e => hne (by rw [e])
        rw [setRow_other _ _ _ _ hkg, hW1, setRow_other _ _ _ _ hkg]; rfl⟩
  have HFin := Lib.hid hfin
  have mixed : Tryz.prog.follows Departure.mixedOrders = true := by kernel_rfl
  clear hn hfin hW1 hA2 hr hl2 hA1 hl1 hg1 hv1 hcat hdl hC htake h1 hCl hcur hcs
  go_enter Tryz.func62, Tryz.ntmps62
  go_wp2_with (simp only [hov])
  go_region_law_o (refine Go.Proofs.step_copy_runI rfl _ _ 22 22 rfl _ _ (by simp [Act.eval, Act.put]) (by simp [Act.eval, Act.put]) (hcp1 _ _ _) ?_)
  go_wp2_with (at_builtin; refine Go.Proofs.wpList_copy_runI _ rfl _ _ 22 22 rfl _ _ rfl rfl (hcp2 _ _) ?_)
  go_ret
  exact HFin.out

theorem grow_row {α : Type} {C Z : List α} {k : Nat} {x y : α} {row : List α} (hk : k ≤ C.length) (hrow : row = C.take k ++ Z) (hl : C.length + 2 ≤ row.length) :
    let R1 := row.take k ++ [x, y] ++ row.drop (k + 2)
    R1.length = row.length ∧ ∃ r, R1.take (k + 2) ++ C.drop k ++ R1.drop (k + 2 + (C.drop k).length) = (C.take k ++ [x, y] ++ C.drop k) ++ r ∧ (R1.take (k + 2) ++ C.drop k ++ R1.drop (k + 2 + (C.drop k).length)).length = row.length := by
  have e1 : (C.take k).length = k := by rw [List.length_take]; omega
  have e0 : row.take k = C.take k := by rw [hrow]; exact List.take_left' e1
  have e2 : (C.drop k).length = C.length - k := List.length_drop
  have hl1 : (row.take k ++ [x, y] ++ row.drop (k + 2)).length = row.length := by simp; omega
  refine ⟨hl1, (row.take k ++ [x, y] ++ row.drop (k + 2)).drop (k + 2 + (C.drop k).length), ?_, by simp; omega⟩
  have f1 : (row.take k ++ [x, y] ++ row.drop (k + 2)).take (k + 2) = C.take k ++ [x, y] := by
    rw [List.take_left' (by simp; omega), e0]
  rw [f1]

set_option maxRecDepth 100000 in
set_option maxHeartbeats 4000000 in
theorem insert_grow (P : List PT) (B g cap i vb : Nat) (cur : Array Value) (X : ByteArray) (u : Value) (hu1 : u.oneCell' = true) (w : World) (hBw : B ≤ w.heap.size) (hg : w.heap[g]? = some (.cells cur 40 (0, 0)))
    (hcs : cur.size = cap * 2) (htake : cur.toList.take (cellsP P).length = cellsP P) (hi : i < P.length) (hnc : P.length ≤ cap) (hroom : cap < P.length + 1) (hcm : P.length ≤ 1000000) (hv : w.heap[vb]? = some (.cells #[.string X, u] 40 (0, 0))) (h1 : ∀ x ∈ cellsP P, x.oneCell' = true) (ob : Option Nat) :
    Calls Tryz.prog 62 #[.slice (some ⟨g, 0, none⟩) P.length cap, .int .i64 i, .slice (some ⟨vb, 0, none⟩) 1 1] w (InsW B w ob (P.take i ++ (X.data.toList, u) :: P.drop i)) := by
  obtain ⟨n, hn⟩ : ∃ n, n = P.length := ⟨_, rfl⟩
  rw [← hn] at hi hroom hnc hcm ⊢
  obtain ⟨i0, hi0, hz0, hzs, hzb⟩ := info_parts infoA
  have hgw : g < w.heap.size := (Array.getElem?_eq_some_iff.1 hg).1
  have hvw : vb < w.heap.size := (Array.getElem?_eq_some_iff.1 hv).1
  have hCl : (cellsP P).length = n * 2 := by rw [cellsP_length, hn]
  obtain ⟨C, hC⟩ : ∃ C, C = cellsP P := ⟨_, rfl⟩
  rw [← hC] at htake h1 hCl
  have hcat : ∀ j x, C[j]? = some x → w.cell? ⟨g, j, none⟩ = some x := fun j x hj => by
    have hlt := (List.getElem?_eq_some_iff.1 hj).1
    rw [← htake, List.getElem?_take, if_pos hlt] at hj
    simp only [World.cell?, hg]
    simpa using hj
  have hkk : (n : Int) + 1 - (i : Int) = ((n + 1 - i : Nat) : Int) := by omega
  have hik : i + (n + 1 - i) = n + 1 := by omega
  have hold : (Builtin.firstCells i0.size i (.slice (some ⟨g, 0, none⟩) i cap)).run Tryz.prog w.drew = .ok (C.take (i * 2)).toArray w.drew := by
    rw [hzs]
    exact run_firstCells_some w.drew 2 i ⟨g, 0, none⟩ i cap (C.take (i * 2)) (by rw [List.length_take]; omega) (fun j v hj => by
      rw [Addr.add_lit, Nat.zero_add]
      rw [List.getElem?_take] at hj
      split at hj
      · exact hcat j v hj
      · cases hj)
  have hbig : (n + 1) * 40 ≤ 140737488355328 := by omega
  obtain ⟨G, hG⟩ : ∃ G, G = grownCap w (n + 1) cap 40 := ⟨_, rfl⟩
  obtain ⟨Z, hZ⟩ : ∃ Z : Array Value, Z = Builtin.zeroCells (Value.agg #[.string ⟨#[]⟩, .slice none 0 0]).cells (n + 1 - i) ++ Builtin.zeroCells (Value.agg #[.string ⟨#[]⟩, .slice none 0 0]).cells (G - (n + 1)) := ⟨_, rfl⟩
  obtain ⟨ROW, hROW⟩ : ∃ ROW : List Value, ROW = C.take (i * 2) ++ Z.toList := ⟨_, rfl⟩
  have hrz : ∀ ty, (Builtin.append_ #[22, 3] ty #[.slice (some ⟨g, 0, none⟩) i cap, .int .i64 ((n : Int) + 1 - (i : Int))]).run Tryz.prog w =
      .ok (.slice (some ⟨w.heap.size, 0, none⟩) (n + 1) G) (w.drew.alloc (.cells ROW.toArray 40)) := fun ty => by
    have h := Lib.run_append_grow_zeros w 22 3 ty 40 i0 _ .i64 .i64 Tryz.underlying22 Tryz.underlying3 hi0 hz0 (some ⟨g, 0, none⟩) i cap (C.take (i * 2)) hold (n + 1 - i) (by omega) (by omega) (by omega) (by omega) (by rw [hzb]; omega) (by rw [hzb, hik]; exact growslice_fits hroom hbig)
    rw [hik, ← hG] at h
    rw [hkk, h, hROW, hZ]
    congr 4
    simp
  have hGn : n + 1 ≤ G := by rw [hG]; exact grownCap_ge w _ _ _
  have hG63 : G ≤ 9223372036854775807 := by
    have := grownCap_le_maxLen w (n + 1) cap 40 (by unfold maxLen; omega)
    rw [← hG] at this
    unfold maxLen at this
    omega
  have hRs : ROW.length = G * 2 := by
    rw [hROW, hZ]
    simp [Builtin.zeroCells, Value.cells, hCl]
    omega
  have hgr := grow_row (x := Value.string X) (y := u) (k := i * 2) (by omega) hROW (by omega)
  simp only at hgr
  obtain ⟨R1, hR1⟩ : ∃ R1, R1 = ROW.take (i * 2) ++ [Value.string X, u] ++ ROW.drop (i * 2 + 2) := ⟨_, rfl⟩
  rw [← hR1] at hgr
  obtain ⟨hl1, r, hr, hl2⟩ := hgr
  obtain ⟨R2, hR2⟩ : ∃ R2, R2 = R1.take (i * 2 + 2) ++ C.drop (i * 2) ++ R1.drop (i * 2 + 2 + (C.drop (i * 2)).length) := ⟨_, rfl⟩
  rw [← hR2] at hr hl2
  have hdl : (C.drop (i * 2)).length = (n - i) * 2 := by rw [List.length_drop, hCl]; omega
  have hW1h : (w.drew.alloc (.cells ROW.toArray 40)).heap[w.heap.size]? = some (.cells ROW.toArray 40 (0, 0)) := heap_alloc_new w.drew _
  have hW1o : ∀ k, k < w.heap.size → (w.drew.alloc (.cells ROW.toArray 40)).heap[k]? = w.heap[k]? := fun k hk => heap_alloc_old w.drew _ hk
  have hcpA : ∀ (W : World), W.heap = (w.drew.alloc (.cells ROW.toArray 40)).heap → ∀ ty dc, (Builtin.copy_ #[22, 22] ty #[.slice (some ⟨w.heap.size, i * 2, none⟩) (n + 1 - i) dc, .slice (some ⟨vb, 0, none⟩) 1 1]).run Tryz.prog W = .ok (goInt (Nat.min 1 (n + 1 - i))) (W.setRow w.heap.size R1.toArray) := fun W hW ty dc => by
    have := run_copy_attr W ty w.heap.size (i * 2) (n + 1 - i) dc ⟨vb, 0, none⟩ 1 1 ROW.toArray 40 [Value.string X, u] (by rw [hW]; exact hW1h) (by simp only [Nat.min_def]; split <;> simp <;> omega)
      (fun j x hj => by
        rw [Addr.add_lit, Nat.zero_add]
        simp only [World.cell?, hW, hW1o vb hvw, hv]
        simpa using hj)
      (by simp [hRs]; omega) (by intro x hx; simp at hx; rcases hx with rfl | rfl; rfl; exact hu1)
    rw [hR1]
    simpa using this
  have hcpB : ∀ (W W0 : World), W0.heap = (w.drew.alloc (.cells ROW.toArray 40)).heap → W.heap = (W0.setRow w.heap.size R1.toArray).heap → ∀ ty dc sc, (Builtin.copy_ #[22, 22] ty #[.slice (some ⟨w.heap.size, (i + 1) * 2, none⟩) (n - i) dc, .slice (some ⟨g, i * 2, none⟩) (n - i) sc]).run Tryz.prog W = .ok (goInt (Nat.min (n - i) (n - i))) (W.setRow w.heap.size R2.toArray) := fun W W0 hW0 hW ty dc sc => by
    have := run_copy_attr W ty w.heap.size ((i + 1) * 2) (n - i) dc ⟨g, i * 2, none⟩ (n - i) sc R1.toArray 40 (C.drop (i * 2)) (by rw [hW]; exact setRow_heap W0 _ ROW.toArray _ _ _ (by rw [hW0]; exact hW1h)) (by rw [hdl]; simp only [Nat.min_def]; split <;> omega)
      (fun j x hj => by
        rw [Addr.add_lit]
        have h2 := hcat (i * 2 + j) x (by rwa [List.getElem?_drop] at hj)
        have h3 : W.heap[g]? = w.heap[g]? := by rw [hW, setRow_other _ _ _ _ (by omega), hW0, hW1o g hgw]
        simpa only [World.cell?, h3] using h2)
      (by rw [hdl]; simp [hl1, hRs]; omega) (fun x hx => h1 x (List.mem_of_mem_drop hx))
    rw [show (i + 1) * 2 = i * 2 + 2 from by omega] at this ⊢
    rw [hR2]
    simpa using this
  have hfin : ∀ (W W0 : World), W0.heap = (w.drew.alloc (.cells ROW.toArray 40)).heap → W.heap = (W0.setRow w.heap.size R1.toArray).heap → W.os = w.os → W.tape = w.tape → W.output = w.output → InsW B w ob (P.take i ++ (X.data.toList, u) :: P.drop i) (.returned (.slice (some ⟨w.heap.size, 0, none⟩) (n + 1) G)) (W.setRow w.heap.size R2.toArray) := fun W W0 hW0 hW e1 e2 e3 => by
    have hh := setRow_heap W w.heap.size R1.toArray R2.toArray 40 (0, 0) (by rw [hW]; exact setRow_heap W0 _ ROW.toArray _ _ _ (by rw [hW0]; exact hW1h))
    have hlen : (P.take i ++ (X.data.toList, u) :: P.drop i).length = n + 1 := by simp; omega
    have hcl : cellsP (P.take i ++ (X.data.toList, u) :: P.drop i) = C.take (i * 2) ++ [Value.string X, u] ++ C.drop (i * 2) := by
      rw [cellsP_append, hC, cellsP_take, cellsP_drop]
      show _ ++ (strV X.data.toList :: u :: cellsP (P.drop i)) = _
      rw [strV_whole]; simp
    refine ⟨_, rfl, ?_, ?_, .inr rfl⟩
    · unfold RowP
      rw [hlen, hcl]
      refine ⟨by simp [hCl]; omega, .inr ⟨w.heap.size, G, R2.toArray, rfl, hBw, hh, by omega, by unfold maxLen; omega, by simp [hl2, hRs], ?_⟩⟩
      rw [show R2.toArray.toList = R2 from by simp, hr]
      exact List.take_left' (by simp [hCl]; omega)
    · refine ⟨e1, e2, e3, ?_, fun k hk _ => ?_⟩
      · have hsz : W.heap.size = (W0.setRow w.heap.size R1.toArray).heap.size := by rw [hW]
        have hsz0 : W0.heap.size = w.heap.size + 1 := by rw [hW0]; simp
        simp [World.setRow] at hsz ⊢
        omega
      · rw [setRow_other _ _ _ _ (by omega), hW, setRow_other _ _ _ _ (by omega), hW0, hW1o k hk]
  have hw1 : IntKind.i64.wrap ((i : Int) + 1) = (i : Int) + 1 := by rw [IntKind.wrap_i64]; omega
  have hb1 : (0 : Int) ≤ (i : Int) + 1 := by omega
  have hz2 : ¬ ((i : Int) = (n : Int)) := by omega
  have hz3 : (cap : Int) < (n : Int) + 1 := by omega
  have hin : i ≤ n := by omega
  have htn : ((i : Int) + 1).toNat = i + 1 := by omega
  have hb3 : (i : Int) ≤ (n : Int) := by omega
  have hci : ¬ (cap = i) := by omega
  have hGi : ¬ (G = i) := by omega
  have hGi1 : ¬ (G = i + 1) := by omega
  have hb5 : i + 1 ≤ n + 1 := by omega
  have HFin := Lib.hid hfin
  have mixed : Tryz.prog.follows Departure.mixedOrders = true := by kernel_rfl
  have hcA := hcpA ((w.alloc (.cells ROW.toArray 40)).drew) rfl
  have HCpB := Lib.hid hcpB
  have HRz := Lib.hid hrz
  clear hn hfin hcpA hcpB hrz hkk hik hold hbig hG hZ hROW hRs hR1 hl1 hr hl2 hR2 hdl hW1h hW1o hcat hC htake h1 hCl hcs hi0 hz0 hzs hzb
  go_enter Tryz.func62, Tryz.ntmps62
  go_wp2_with (at_builtin; refine Lib.wpList_append_run _ rfl _ _ _ _ rfl _ _ rfl rfl _ _ (HRz.out _) ?_)
  go_region_law_o (refine Go.Proofs.step_copy_runI rfl _ _ 22 22 rfl (.slice (some ⟨w.heap.size, (i + 1) * 2, none⟩) (n - i) (G - (i + 1))) (.slice (some ⟨g, i * 2, none⟩) (n - i) (cap - i)) (by simp [Act.eval, Act.put]) (by simp [Act.eval, Act.put]) (HCpB.out ((((w.alloc (.cells ROW.toArray 40)).drew).setRow w.heap.size R1.toArray).drew) ((w.alloc (.cells ROW.toArray 40)).drew) rfl rfl 3 (G - (i + 1)) (cap - i)) ?_)
  go_wp2
  go_ret
  exact HFin.out _ ((w.alloc (.cells ROW.toArray 40)).drew) rfl rfl rfl rfl rfl
end Go.Proofs.YtncnlbmdkognnaaGreatDoor


namespace Go.Proofs.YtncnlbmdkognnaaGreatDoor
open Go.RowKit
set_option linter.unusedVariables false

def RelP (ok : Nat → Prop) (w : World) : List PT → List AT → Prop
  | [], [] => True
  | p :: P, a :: L => (p.1 = a.1 ∧ IsTo ok w a.2 p.2) ∧ RelP ok w P L
  | _, _ => False
theorem RelP.app {ok : Nat → Prop} {w : World} : ∀ {P : List PT} {L : List AT} {P' : List PT} {L' : List AT}, RelP ok w P L → RelP ok w P' L' → RelP ok w (P ++ P') (L ++ L')
  | [], [], _, _, _, h => h
  | p :: P, a :: L, _, _, h, k => ⟨h.1, RelP.app h.2 k⟩
theorem RelP.take {ok : Nat → Prop} {w : World} : ∀ {P : List PT} {L : List AT} (k : Nat), RelP ok w P L → RelP ok w (P.take k) (L.take k)
  | [], [], k, h => by simp [RelP]
  | p :: P, a :: L, 0, h => trivial
  | p :: P, a :: L, k + 1, h => ⟨h.1, RelP.take k h.2⟩
theorem RelP.drop {ok : Nat → Prop} {w : World} : ∀ {P : List PT} {L : List AT} (k : Nat), RelP ok w P L → RelP ok w (P.drop k) (L.drop k)
  | [], [], k, h => by simp [RelP]
  | p :: P, a :: L, 0, h => h
  | p :: P, a :: L, k + 1, h => RelP.drop (P := P) (L := L) k h.2
theorem relP_of {ok : Nat → Prop} {w : World} : ∀ {P : List PT} {L : List AT}, P.length = L.length → (∀ j (h : j < L.length) (h' : j < P.length), P[j].1 = L[j].1 ∧ IsTo ok w L[j].2 P[j].2) → RelP ok w P L
  | [], [], _, _ => trivial
  | [], a :: L, h, _ => by simp at h
  | p :: P, [], h, _ => by simp at h
  | p :: P, a :: L, h, k => ⟨k 0 (by simp) (by simp), relP_of (by simpa using h) (fun j h1 h2 => k (j + 1) (by simpa using h1) (by simpa using h2))⟩
theorem RelP.to {ok : Nat → Prop} {w : World} : ∀ {P : List PT} {L : List AT}, RelP ok w P L → P.length = L.length ∧ (∀ j (h : j < L.length) (h' : j < P.length), P[j].1 = L[j].1 ∧ IsTo ok w L[j].2 P[j].2)
  | [], [], _ => ⟨rfl, fun j h => absurd h (by simp)⟩
  | p :: P, a :: L, h => by
    have ih := RelP.to h.2
    refine ⟨by simp [ih.1], fun j h1 h2 => ?_⟩
    cases j with
    | zero => exact h.1
    | succ j => exact ih.2 j (by simpa using h1) (by simpa using h2)
theorem says_ins {B : Nat} {w w' : World} {v v' : Value} {P : List PT} {L : List AT} {X : List UInt8} {u : Value} {A : List (List UInt8)} (k : Nat) (h : Says B w v P L) (hu : IsTo (fun b => B ≤ b ∧ b < w.heap.size ∧ some b ≠ v.ownBlock) w A u)
    (hg : w.grownBy w' v.ownBlock) (hat : v'.ownBlock = v.ownBlock ∨ v'.ownBlock = some w.heap.size) : Says B w' v' (P.take k ++ (X, u) :: P.drop k) (L.take k ++ (X, A) :: L.drop k) := by
  have ok : ∀ b, (B ≤ b ∧ b < w.heap.size ∧ some b ≠ v.ownBlock) → (B ≤ b ∧ b < w'.heap.size ∧ some b ≠ v'.ownBlock) := fun b hb => ⟨hb.1, Nat.lt_of_lt_of_le hb.2.1 hg.size, by
    rcases hat with e | e
    · rw [e]; exact hb.2.2
    · rw [e]; intro h; have := Option.some.inj h; have := hb.2.1; omega⟩
  have hc : ∀ b o, (B ≤ b ∧ b < w.heap.size ∧ some b ≠ v.ownBlock) → w'.cell? ⟨b, o, none⟩ = w.cell? ⟨b, o, none⟩ := fun b o hb => by
    have := hg.block b hb.2.1 hb.2.2
    simp only [World.cell?, this]
  have hR : RelP (fun b => B ≤ b ∧ b < w'.heap.size ∧ some b ≠ v'.ownBlock) w' P L := relP_of h.1 (fun j h1 h2 => ⟨(h.2 j h1 h2).1, (h.2 j h1 h2).2.imp ok hc⟩)
  exact ((hR.take k).app (show RelP _ _ ((X, u) :: P.drop k) ((X, A) :: L.drop k) from ⟨⟨rfl, hu.imp ok hc⟩, hR.drop k⟩)).to

def insA (L : List AT) (x : AT) : List AT := match L.findIdx? (fun b => gtB b.1 x.1) with
  | some k => L.take k ++ x :: L.drop k
  | none => L ++ [x]
theorem rowP_one {B : Nat} {w : World} {v : Value} {P : List PT} (h : RowP B w v P) (hL : ∀ p ∈ P, p.2.oneCell' = true) : ∀ x ∈ cellsP P, x.oneCell' = true := by
  clear h
  induction P with
  | nil => simp [cellsP]
  | cons p P ih =>
    intro x hx
    simp only [cellsP, List.mem_cons] at hx
    rcases hx with rfl | rfl | hx
    · rfl
    · exact hL p (by simp)
    · exact ih (fun q hq => hL q (by simp [hq])) x hx
theorem says_one {B : Nat} {w : World} {v : Value} {P : List PT} {L : List AT} (h : Says B w v P L) : ∀ p ∈ P, p.2.oneCell' = true := by
  intro p hp
  obtain ⟨j, hj, rfl⟩ := List.getElem_of_mem hp
  obtain ⟨a, c, hv, _⟩ := (h.2 j (by rw [← h.1]; exact hj) hj).2
  rw [hv]; rfl

theorem insertL_any (L : List AT) (v : Value) (B : Nat) (X : ByteArray) (u : Value) (A : List (List UInt8)) (hu1 : u.oneCell' = true) (vb k : Nat) (w : World) (hown : OwnA B w v L) (hk : k ≤ L.length) (hL : L.length + 1 ≤ 1000000) (hB : B ≤ w.heap.size)
    (hu : IsTo (fun b => B ≤ b ∧ b < w.heap.size ∧ some b ≠ v.ownBlock) w A u) (hv : w.heap[vb]? = some (.cells #[.string X, u] 40 (0, 0))) (hne : some vb ≠ v.ownBlock) :
    Calls Tryz.prog 62 #[v, .int .i64 k, .slice (some ⟨vb, 0, none⟩) 1 1] w fun e w' => ∃ v', e = .returned v' ∧ OwnA B w' v' (L.take k ++ (X.data.toList, A) :: L.drop k) ∧ Below B w w' := by
  obtain ⟨P, hr, hsay⟩ := hown
  have hPL := hsay.1
  have hone := rowP_one hr (says_one hsay)
  have key : Calls Tryz.prog 62 #[v, .int .i64 k, .slice (some ⟨vb, 0, none⟩) 1 1] w (InsW B w v.ownBlock (P.take k ++ (X.data.toList, u) :: P.drop k)) := by
    by_cases hend : k = P.length
    · subst hend
      rw [List.take_length, List.drop_length]
      exact insert_end P v B X u hu1 vb w hr (by omega) hB (by simp [World.cell?, hv]) (by simp [World.cell?, hv])
    · have hklt : k < P.length := by omega
      rcases hr.2 with ⟨rfl, hz⟩ | ⟨g, cap, cur, rfl, hBg, hg, hnc, hcm, hcs, htake⟩
      · omega
      · have hne' : vb ≠ g := fun e => hne (by rw [e]; rfl)
        by_cases hroom : P.length + 1 ≤ cap
        · exact insert_shift P B g cap k vb cur X u hu1 w hBg hg hcs (by rw [cellsP_length]; exact htake) hklt hroom (by unfold maxLen at hcm; omega) hne' hv hone
        · exact insert_grow P B g cap k vb cur X u hu1 w hB hg hcs (by rw [cellsP_length]; exact htake) hklt hnc (by omega) (by omega) hv hone _
  refine key.mono fun e w' ⟨v', he, hr', hg', hat⟩ => ⟨v', he, ⟨_, hr', says_ins k hsay hu hg' hat⟩, ?_⟩
  exact (Below.refl B w).grown hg' hB (fun b e => (World.ownsRow.lt hr b e).1)

set_option maxRecDepth 100000 in
set_option maxHeartbeats 4000000 in
theorem insert_any (L : List AT) (v : Value) (B : Nat) (Y : ByteArray) (u : Value) (A : List (List UInt8)) (hu1 : u.oneCell' = true) (w : World) (hown : OwnA B w v L) (hL : L.length ≤ 100000) (hB : B ≤ w.heap.size)
    (hu : IsTo (fun b => B ≤ b ∧ b < w.heap.size ∧ some b ≠ v.ownBlock) w A u) :
    Calls Tryz.prog 39 #[v, .agg #[.string Y, u]] w fun e w' => ∃ v', e = .returned v' ∧ OwnA B w' v' (insA L (Y.data.toList, A)) ∧ Below B w w' := by
  have hmf : ∀ (fn : Fn) (first cap : Array Value) (w : World), (Instr.makeFunc fn first cap).run Tryz.prog w = .ok (.func fn first cap) w := fun _ _ _ _ => rfl
  obtain ⟨sa, sc, hv⟩ := ownA_slice hown
  obtain ⟨n, hn⟩ : ∃ n, n = L.length := ⟨_, rfl⟩
  rw [← hn] at hv
  have HOwn := Lib.hid hown
  have HU := Lib.hid hu
  have hb1 : Below w.heap.size w (w.alloc (.cells #[.string Y, u] 40)) := (Below.refl _ _).alloc (Nat.le_refl _) _
  have HB1 := Lib.hid hb1
  have HOA := Lib.hid (ownA_isA hown (by unfold maxLen; omega))
  have hidx : (idxI L Y.data.toList < 0 ∧ insA L (Y.data.toList, A) = L.take n ++ (Y.data.toList, A) :: L.drop n) ∨ ∃ k : Nat, k < n ∧ idxI L Y.data.toList = k ∧ insA L (Y.data.toList, A) = L.take k ++ (Y.data.toList, A) :: L.drop k := by
    unfold idxI insA
    cases hf : L.findIdx? (fun b => gtB b.1 Y.data.toList) with
    | none => left; exact ⟨by simp, by simp [hn]⟩
    | some k => right; exact ⟨k, by rw [hn]; exact (List.findIdx?_eq_some_iff_getElem.1 hf).1, rfl, rfl⟩
  have HN := Lib.hid hn
  have hn5 : n ≤ 100000 := by omega
  clear hown hu hb1 hn
  subst hv
  rcases hidx with ⟨h1, h2⟩ | ⟨k, hk, h1, h2⟩
  · obtain ⟨I, hI⟩ : ∃ I, idxI L Y.data.toList = I := ⟨_, rfl⟩
    rw [hI] at h1
    have HI := Lib.hid hI
    have H2 := Lib.hid h2
    have t1 : decide (I < 0) = true := by simpa using h1
    clear hI h2
    go_enter Tryz.func39, Tryz.ntmps39
    go_wp2_with (first
      | (go_at_call 60; refine (indexA_any L (by have := HN.out; omega) (.slice sa n sc) Y w.heap.size 0 _ (HOA.out.below HB1.out HB1.out.size) (by simp) (by simp)).mono ?_; rintro e w2 ⟨he, hb2⟩; rw [HI.out] at he; subst he; have f0 : w2.cell? ⟨w.heap.size, 0, none⟩ = some (.string Y) := (hb2.cell (p := ⟨w.heap.size, 0, none⟩) (by simp)).trans (by simp); have f1 : w2.cell? ⟨w.heap.size, 1, none⟩ = some u := (hb2.cell (p := ⟨w.heap.size, 1, none⟩) (by simp)).trans (by simp); have HB2 := Lib.hid (bthen HB1.out hb2); have HB3 := Lib.hid (Below.alloc (bthen HB1.out hb2) (bthen HB1.out hb2).size (.cells #[.string Y, u] 40)); clear hb2)
      | (go_at_call 62; refine (insertL_any L (.slice sa n sc) B Y u A hu1 w2.heap.size n _ (ownA_below HOwn.out HB3.out) (by have := HN.out; omega) (by have := HN.out; omega) (Nat.le_trans hB HB3.out.size) (HU.out.imp (fun b hb => ⟨hb.1, Nat.lt_of_lt_of_le hb.2.1 HB3.out.size, hb.2.2⟩) (fun b o hb => HB3.out.cell (p := ⟨b, o, none⟩) hb.2.1)) (heap_alloc_new w2 _) (fun e => absurd (ownA_lt HOwn.out _ e.symm) (by have := HB2.out.size; omega))).mono ?_; rintro e w4 ⟨v4, rfl, hown4, hb4⟩; have HO4 := Lib.hid hown4; have HB4 := Lib.hid ((HB3.out.mono hB).trans hb4); clear hown4 hb4))
    go_ret
    exact ⟨_, rfl, by rw [H2.out]; exact HO4.out, HB4.out⟩
  · have HI := Lib.hid h1
    have H2 := Lib.hid h2
    have t1 : decide ((k : Int) < 0) = false := by simp
    clear h1 h2
    go_enter Tryz.func39, Tryz.ntmps39
    go_wp2_with (first
      | (go_at_call 60; refine (indexA_any L (by have := HN.out; omega) (.slice sa n sc) Y w.heap.size 0 _ (HOA.out.below HB1.out HB1.out.size) (by simp) (by simp)).mono ?_; rintro e w2 ⟨he, hb2⟩; rw [HI.out] at he; subst he; have f0 : w2.cell? ⟨w.heap.size, 0, none⟩ = some (.string Y) := (hb2.cell (p := ⟨w.heap.size, 0, none⟩) (by simp)).trans (by simp); have f1 : w2.cell? ⟨w.heap.size, 1, none⟩ = some u := (hb2.cell (p := ⟨w.heap.size, 1, none⟩) (by simp)).trans (by simp); have HB2 := Lib.hid (bthen HB1.out hb2); have HB3 := Lib.hid (Below.alloc (bthen HB1.out hb2) (bthen HB1.out hb2).size (.cells #[.string Y, u] 40)); clear hb2)
      | (go_at_call 62; refine (insertL_any L (.slice sa n sc) B Y u A hu1 w2.heap.size k _ (ownA_below HOwn.out HB3.out) (by have := HN.out; omega) (by have := HN.out; omega) (Nat.le_trans hB HB3.out.size) (HU.out.imp (fun b hb => ⟨hb.1, Nat.lt_of_lt_of_le hb.2.1 HB3.out.size, hb.2.2⟩) (fun b o hb => HB3.out.cell (p := ⟨b, o, none⟩) hb.2.1)) (heap_alloc_new w2 _) (fun e => absurd (ownA_lt HOwn.out _ e.symm) (by have := HB2.out.size; omega))).mono ?_; rintro e w4 ⟨v4, rfl, hown4, hb4⟩; have HO4 := Lib.hid hown4; have HB4 := Lib.hid ((HB3.out.mono hB).trans hb4); clear hown4 hb4))
    go_ret
    exact ⟨_, rfl, by rw [H2.out]; exact HO4.out, HB4.out⟩

def nameA (t : List UInt8) : List UInt8 := (canonD t).getD t
set_option maxRecDepth 100000 in
set_option maxHeartbeats 2000000 in
theorem typeName_any (t : ByteArray) (ht : t.size ≤ 281474976710656) (w : World) : Calls Tryz.prog 40 #[.string t] w fun e w' => e = .returned (.string (ofL (nameA t.data.toList))) ∧ Below w.heap.size w w' := by
  have hc := fun w => canon_any t w
  have hcl := fun w => clone_any t w ht
  cases e : canonD t.data.toList with
  | none =>
    have hn : ofL (nameA t.data.toList) = t := bytes_ext (by rw [ofL_list]; unfold nameA; rw [e]; rfl)
    rw [hn]
    simp only [e, canonV] at hc
    have HC := Lib.hid hc
    have HCl := Lib.hid hcl
    clear hc hcl hn e
    go_enter Tryz.func40, Tryz.ntmps40
    go_wp2_with (first
      | (go_at_call 63; refine (HC.out _).mono ?_; rintro e w1 ⟨rfl, hb1⟩; have HB := Lib.hid hb1; clear hb1)
      | (go_at_call 41; refine (HCl.out _).mono ?_; rintro e w2 ⟨rfl, hb2⟩; have HB := Lib.hid (bthen HB.out hb2); clear hb2))
    go_ret
    exact ⟨rfl, HB.out⟩
  | some k =>
    have hn : nameA t.data.toList = k := by unfold nameA; rw [e]; rfl
    rw [hn]
    simp only [e, canonV] at hc
    obtain ⟨K, hK⟩ : ∃ K, K = ofL k := ⟨_, rfl⟩
    have hK2 : (⟨k.toArray⟩ : ByteArray) = K := hK.symm
    rw [← hK]
    simp only [hK2] at hc
    have HC := Lib.hid hc
    clear hc hcl hn e hK hK2
    go_enter Tryz.func40, Tryz.ntmps40
    go_wp2_with (first
      | (go_at_call 63; refine (HC.out _).mono ?_; rintro e w1 ⟨rfl, hb1⟩; have HB := Lib.hid hb1; clear hb1))
    go_ret
    exact ⟨rfl, HB.out⟩
end Go.Proofs.YtncnlbmdkognnaaGreatDoor


namespace Go.Proofs.YtncnlbmdkognnaaGreatDoor
open Go.RowKit
set_option linter.unusedVariables false

set_option maxRecDepth 100000 in
theorem load_any (b o : Nat) (x : Int) (w : World) (h : w.cell? ⟨b, o, none⟩ = some (.int .i64 x)) : Calls Tryz.prog 46 #[.pointer (some ⟨b, o, none⟩)] w fun e w' => e = .returned (.int .i64 x) ∧ w' = w := by
  have hl := run_call_load (P := Tryz.prog) Tryz.func66 (by kernel_rfl) (by kernel_rfl) (by kernel_rfl) .i64 (by kernel_rfl) (a := ⟨b, o, none⟩) (x := x) (w := w) h
  go_enter Tryz.func46, Tryz.ntmps46
  go_wp2
  go_ret
  exact ⟨rfl, rfl⟩
set_option maxRecDepth 100000 in
theorem add_any (b o : Nat) (x : Int) (hx : 0 ≤ x) (hx2 : x ≤ 1000000000) (w : World) (h : w.cell? ⟨b, o, none⟩ = some (.int .i64 x)) (hz : w.frozen? ⟨b, o, none⟩ = false) : Calls Tryz.prog 47 #[.pointer (some ⟨b, o, none⟩), .int .i64 1] w fun e w' => e = .returned (.int .i64 (x + 1)) ∧ w' = w.setCell ⟨b, o, none⟩ (.int .i64 (x + 1)) := by
  have hl := run_call_add (P := Tryz.prog) Tryz.func67 (by kernel_rfl) (by kernel_rfl) (by kernel_rfl) .i64 (by kernel_rfl) (a := ⟨b, o, none⟩) (x := x) (y := 1) (s := x + 1) (w := w) h hz (by
    show Sem.run _ (pure (Value.int .i64 (IntKind.i64.wrap (x + 1)))) w = _
    rw [IntKind.wrap_i64, show (x + 1 + 9223372036854775808) % 18446744073709551616 - 9223372036854775808 = x + 1 from by omega]
    rfl)
  go_enter Tryz.func47, Tryz.ntmps47
  go_wp2
  go_ret
  exact ⟨rfl, rfl⟩

theorem cmpRun (a b : ByteArray) (w : World) : (callFunc 70 #[.string a, .string b]).run Tryz.prog w = .ok (.value (.int .i64 (Extern.BytealgCompare.cmp a b))) w := by
  rw [run_callFunc_extern Tryz.func70 (by kernel_rfl) (by kernel_rfl) (by kernel_rfl) (e := Extern.BytealgCompare.compare) (by kernel_rfl)]
  rfl
def cmpL (a b : List UInt8) : Int := Extern.BytealgCompare.cmp (ofL a) (ofL b)
set_option maxRecDepth 100000 in
theorem compareS_any (a b : ByteArray) (w : World) : Calls Tryz.prog 49 #[.string a, .string b] w fun e w' => e = .returned (.int .i64 (Extern.BytealgCompare.cmp a b)) ∧ w' = w := by
  have hr := cmpRun a b
  go_enter Tryz.func49, Tryz.ntmps49
  go_wp2
  go_ret
  exact ⟨rfl, rfl⟩
set_option maxRecDepth 100000 in
theorem compare_any (a b : ByteArray) (w : World) : Calls Tryz.prog 27 #[.string a, .string b] w fun e w' => e = .returned (.int .i64 (Extern.BytealgCompare.cmp a b)) ∧ w' = w := by
  go_enter Tryz.func27, Tryz.ntmps27
  go_wp2_with (go_at_call 49; refine (compareS_any a b _).mono ?_; rintro e w2 ⟨rfl, rfl⟩)
  go_ret
  exact ⟨rfl, rfl⟩
set_option maxRecDepth 100000 in
set_option maxHeartbeats 1000000 in
theorem typesCmp_any (X Y : ByteArray) (u v : Value) (w : World) : Calls Tryz.prog 26 #[.agg #[.string X, u], .agg #[.string Y, v]] w fun e w' => e = .returned (.int .i64 (Extern.BytealgCompare.cmp X Y)) ∧ Below w.heap.size w w' := by
  have hb : Below w.heap.size w ((w.alloc (.cells #[.string X, u] 40)).alloc (.cells #[.string Y, v] 40)) := ((Below.refl _ _).alloc (Nat.le_refl _) _).alloc (by simp) _
  have HB := Lib.hid hb
  clear hb
  go_enter Tryz.func26, Tryz.ntmps26
  go_wp2_with (go_at_call 27; refine (compare_any X Y _).mono ?_; rintro e w2 ⟨rfl, rfl⟩)
  go_ret
  exact ⟨rfl, HB.out⟩
end Go.Proofs.YtncnlbmdkognnaaGreatDoor


namespace Go.Proofs.YtncnlbmdkognnaaGreatDoor
open Go.RowKit
set_option linter.unusedVariables false

def PairAt (W : World) (b p q : Nat) (X Y : ByteArray) (x y : Value) (w' : World) : Prop :=
  w'.cell? ⟨b, p, none⟩ = some (.string X) ∧ w'.cell? ⟨b, p + 1, none⟩ = some x ∧ w'.cell? ⟨b, q, none⟩ = some (.string Y) ∧ w'.cell? ⟨b, q + 1, none⟩ = some y ∧ b < W.heap.size ∧ Below W.heap.size W w'
theorem PairAt.go {W w1 w2 : World} {b p q : Nat} {X Y : ByteArray} {x y : Value} (h : PairAt W b p q X Y x y w1) (hb : Below w1.heap.size w1 w2) :
    w2.cell? ⟨b, p, none⟩ = some (.string X) ∧ w2.cell? ⟨b, p + 1, none⟩ = some x ∧ w2.cell? ⟨b, q, none⟩ = some (.string Y) ∧ w2.cell? ⟨b, q + 1, none⟩ = some y ∧ PairAt W b p q X Y x y w2 := by
  obtain ⟨h0, h1, h2, h3, h4, h5⟩ := h
  have hlt : b < w1.heap.size := Nat.lt_of_lt_of_le h4 h5.size
  have g0 := (hb.cell (p := ⟨b, p, none⟩) hlt).trans h0
  have g1 := (hb.cell (p := ⟨b, p + 1, none⟩) hlt).trans h1
  have g2 := (hb.cell (p := ⟨b, q, none⟩) hlt).trans h2
  have g3 := (hb.cell (p := ⟨b, q + 1, none⟩) hlt).trans h3
  exact ⟨g0, g1, g2, g3, g0, g1, g2, g3, h4, h5.trans (hb.mono h5.size)⟩
def inOrder (L : List AT) : Prop := ∀ i (h : i + 1 < L.length), ¬ cmpL L[i + 1].1 L[i].1 < 0
set_option maxRecDepth 100000 in
set_option maxHeartbeats 4000000 in
theorem insertion_any (L : List AT) (hl : L.length < 20) (ho : inOrder L) (v : Value) (w : World) (h : IsA w.heap.size w L v) :
    Calls Tryz.prog 68 #[v, .int .i64 0, .int .i64 L.length, .func (.func 26) #[] #[]] w fun e w' => e = .returned (.tuple #[]) ∧ Below w.heap.size w w' := by
  obtain ⟨a, c, rfl, hm, hcell⟩ := h
  have HC := Lib.hid hcell
  have HO := Lib.hid ho
  obtain ⟨n, hn⟩ : ∃ n, n = L.length := ⟨_, rfl⟩
  have HN := Lib.hid hn
  rw [← hn] at hl ⊢
  clear hcell ho hm hn
  go_enter Tryz.func68, Tryz.ntmps68
  go_wp2
  go_loopw [8] (fun i wr => ∃ j : Nat, 1 ≤ j ∧ j ≤ n + 1 ∧ i = .int .i64 j ∧ Below w.heap.size w wr) (fun i wr => n + 1 - (intOf i).toNat)
  case atStart => exact ⟨1, by omega, by omega, rfl, Below.refl _ _⟩
  case round =>
    obtain ⟨j, hj1, hj, rfl, hbel⟩ := hrel
    have HBel := Lib.hid hbel
    have hbs := hbel.size
    by_cases hlt : j < n
    · have t1 : decide ((j : Int) < (n : Int)) = true := by simp; omega
      have t1' : decide (j < n) = true := by simpa using hlt
      have t2 : decide ((0 : Int) < (j : Int)) = true := by simp; omega
      have t2' : decide (0 < j) = true := by simp; omega
      obtain ⟨k, rfl⟩ : ∃ k, j = k + 1 := ⟨j - 1, by omega⟩
      have hk1 : k + 1 < L.length := by rw [← HN.out]; exact hlt
      have hk0 : k < L.length := by omega
      obtain ⟨b, off, x, rfl, hb0, x0, x1, hx⟩ := HC.out (k + 1) hk1
      obtain ⟨b', off', y, hbe, hb0', y0, y1, hy⟩ := HC.out k hk0
      simp only [Option.some.injEq, Addr.mk.injEq, and_true] at hbe
      obtain ⟨rfl, rfl⟩ := hbe
      obtain ⟨xa, xn, xc, rfl⟩ := (show ∃ a k c, x = .slice a k c from by obtain ⟨a, c, hv, _⟩ := hx; exact ⟨a, _, c, hv⟩)
      obtain ⟨ya, yn, yc, rfl⟩ := (show ∃ a k c, y = .slice a k c from by obtain ⟨a, c, hv, _⟩ := hy; exact ⟨a, _, c, hv⟩)
      have hcmp := HO.out k hk1
      unfold cmpL at hcmp
      obtain ⟨X, hX⟩ : ∃ X : ByteArray, ofL L[k + 1].1 = X := ⟨_, rfl⟩
      obtain ⟨Y, hY⟩ : ∃ Y : ByteArray, ofL L[k].1 = Y := ⟨_, rfl⟩
      rw [hX, hY] at hcmp
      obtain ⟨I, hI⟩ : ∃ I, I = Extern.BytealgCompare.cmp X Y := ⟨_, rfl⟩
      rw [← hI] at hcmp
      have hcl : ∀ (p : Addr), p.block < w.heap.size → wr.cell? p = w.cell? p := fun p hp => hbel.cell hp
      have d0 : wr.cell? ⟨b, off + (k + 1) * 2, none⟩ = some (.string X) := by rw [hcl _ hb0, x0, ← hX]; rfl
      have d1 : wr.cell? ⟨b, off + (k + 1) * 2 + 1, none⟩ = some (.slice xa xn xc) := (hcl _ hb0).trans x1
      have e0 : wr.cell? ⟨b, off + k * 2, none⟩ = some (.string Y) := by rw [hcl _ hb0, y0, ← hY]; rfl
      have e1 : wr.cell? ⟨b, off + k * 2 + 1, none⟩ = some (.slice ya yn yc) := (hcl _ hb0).trans y1
      have t3 : decide (I < 0) = false := by simpa using hcmp
      have HI := Lib.hid hI
      have HCm := Lib.hid (fun w => typesCmp_any X Y (.slice xa xn xc) (.slice ya yn yc) w)
      have q1 : ((k : Int) + 1) < (n : Int) := by omega
      have q2 : (k : Int) < (n : Int) := by omega
      have q3 : (0 : Int) < (k : Int) + 1 := by omega
      have q4 : (0 : Int) ≤ (k : Int) + 1 := by omega
      have q5 : ((k : Int) + 1).toNat = k + 1 := by omega
      have q6 : IntKind.i64.wrap ((k : Int) + 1 - 1) = (k : Int) := by rw [IntKind.wrap_i64]; omega
      have q7 : (k : Int) + 1 - 1 = (k : Int) := by omega
      have q8 : IntKind.i64.wrap (k : Int) = (k : Int) := by rw [IntKind.wrap_i64]; omega
      have q9 : (0 : Int) ≤ (k : Int) := by omega
      have q10 : k < n := by omega
      clear hcl x0 x1 y0 y1 hX hY hI hcmp hx hy hbel hb0'
      go_wp2
      have hdr : Below wr.heap.size wr wr.drew := ⟨rfl, rfl, rfl, Nat.le_refl _, fun _ _ => rfl⟩
      have hbw : b < wr.heap.size := Nat.lt_of_lt_of_le hb0 hbs
      clear hdr
      go_loopw [9] (fun i wx => i = .int .i64 ((k : Int) + 1) ∧ Hid (wx = wr)) (fun i wx => 1)
      case atStart => exact ⟨by go_num, Lib.hid rfl⟩
      case round =>
        obtain ⟨rfl, hwx⟩ := hrel
        have hwx := hwx.out
        subst hwx
        go_wp2
        have hst : PairAt wr b (off + (k + 1) * 2) (off + k * 2) X Y (.slice xa xn xc) (.slice ya yn yc) wr := ⟨d0, d1, e0, e1, hbw, Below.refl _ _⟩
        have hst := hst.go (Below.refl _ _)
        go_region_held3 (fun w' => w'.cell? ⟨b, off + (k + 1) * 2, none⟩ = some (.string X) ∧ w'.cell? ⟨b, off + (k + 1) * 2 + 1, none⟩ = some (.slice xa xn xc) ∧ w'.cell? ⟨b, off + k * 2, none⟩ = some (.string Y) ∧ w'.cell? ⟨b, off + k * 2 + 1, none⟩ = some (.slice ya yn yc) ∧ PairAt wr b (off + (k + 1) * 2) (off + k * 2) X Y (.slice xa xn xc) (.slice ya yn yc) w')
          (first | exact hst | (go_split_ands; exact PairAt.go (by assumption) hb5) | (go_split_ands; exact PairAt.go (by assumption) (Below.refl _ _).drew) | (go_split_ands; exact PairAt.go (by assumption) (Below.refl _ _)))
          (first | (go_at_call 26; go_split_ands; ((with_reducible refine (HCm.out _).mono ?_); rintro e w5 ⟨he, hb5⟩; rw [← HI.out] at he; subst he)))
        go_split_ands
        have hT : PairAt wr b (off + (k + 1) * 2) (off + k * 2) X Y (.slice xa xn xc) (.slice ya yn yc) w5 := by assumption
        have HT := Lib.hid (HBel.out.trans (hT.2.2.2.2.2.mono hbs))
        clear hT
        go_wp2
        go_roundw
        case rel => exact ⟨k + 2, by omega, by omega, by go_num, HT.out⟩
        case measure => simp [intOf]; omega
    · have t1 : decide ((j : Int) < (n : Int)) = false := by simp; omega
      have t1' : decide (j < n) = false := by simp; omega
      clear hbel
      go_wp2
      go_end0
      exact ⟨rfl, HBel.out⟩

set_option maxRecDepth 100000 in
set_option maxHeartbeats 4000000 in
theorem stable_any (L : List AT) (hl : L.length < 20) (ho : inOrder L) (v : Value) (w : World) (h : IsA w.heap.size w L v) :
    Calls Tryz.prog 48 #[v, .int .i64 L.length, .func (.func 26) #[] #[]] w fun e w' => e = .returned (.tuple #[]) ∧ Below w.heap.size w w' := by
  have hi := insertion_any L hl ho v w h
  obtain ⟨sa, sn, sc, rfl⟩ := (show ∃ a k c, v = .slice a k c from by obtain ⟨a, c, hv, _⟩ := h; exact ⟨a, _, c, hv⟩)
  obtain ⟨n, hn⟩ : ∃ n, n = L.length := ⟨_, rfl⟩
  rw [← hn] at hi hl ⊢
  have HI := Lib.hid hi
  have t1 : decide ((20 : Int) ≤ (n : Int)) = false := by simp; omega
  have t1' : decide (20 ≤ n) = false := by simp; omega
  have t2 : decide ((20 : Int) < (n : Int)) = false := by simp; omega
  have t2' : decide (20 < n) = false := by simp; omega
  clear hi hn h ho
  go_enter Tryz.func48, Tryz.ntmps48
  go_wp2
  go_loopw [7, 8] (fun a b wr => a = .int .i64 0 ∧ b = .int .i64 20 ∧ Hid (wr = w)) (fun a b wr => 1)
  case atStart => exact ⟨rfl, rfl, Lib.hid rfl⟩
  case round =>
    obtain ⟨rfl, rfl, hwr⟩ := hrel
    have hwr := hwr.out
    subst hwr
    go_wp2_with (go_at_call 68; refine (HI.out).mono ?_; rintro e w2 ⟨rfl, hb2⟩; have HB2 := Lib.hid hb2; clear hb2)
    go_loopw [6] (fun a wx => a = .int .i64 20 ∧ Hid (wx = w2)) (fun a wx => 1)
    case atStart => exact ⟨rfl, Lib.hid rfl⟩
    case round =>
      obtain ⟨rfl, hwr2⟩ := hrel
      have hwr2 := hwr2.out
      subst hwr2
      go_wp2
      go_end0
      exact ⟨rfl, HB2.out⟩

set_option maxRecDepth 100000 in
set_option maxHeartbeats 1000000 in
theorem sorted_any (L : List AT) (hl : L.length < 20) (ho : inOrder L) (v : Value) (w : World) (h : IsA w.heap.size w L v) :
    Calls Tryz.prog 25 #[v, .func (.func 26) #[] #[]] w fun e w' => e = .returned (.tuple #[]) ∧ Below w.heap.size w w' := by
  have hi := stable_any L hl ho v w h
  obtain ⟨sa, sc, hv, _⟩ := h
  obtain ⟨n, hn⟩ : ∃ n, n = L.length := ⟨_, rfl⟩
  rw [← hn] at hi hv
  subst hv
  have HI := Lib.hid hi
  clear hi hn ho
  go_enter Tryz.func25, Tryz.ntmps25
  go_wp2_with (go_at_call 48; refine (HI.out).mono ?_; rintro e w2 ⟨rfl, hb2⟩; have HB2 := Lib.hid hb2; clear hb2)
  go_end0
  exact ⟨rfl, HB2.out⟩
end Go.Proofs.YtncnlbmdkognnaaGreatDoor


namespace Go.Proofs.YtncnlbmdkognnaaGreatDoor
open Go.RowKit
set_option linter.unusedVariables false

def setA (L : List AT) (t : List UInt8) (V : List (List UInt8)) : List AT := if V = [] then withoutA L t else insA (withoutA L t) (nameA t, V)
theorem ownA_lower {B B' : Nat} {w : World} {v : Value} {L : List AT} (h : OwnA B w v L) (hle : B' ≤ B) : OwnA B' w v L := by
  obtain ⟨P, hr, hs⟩ := h
  refine ⟨P, ⟨hr.1, hr.2.imp id fun ⟨g, cap, cur, e1, hb, rest⟩ => ⟨g, cap, cur, e1, Nat.le_trans hle hb, rest⟩⟩, hs.1, fun j h1 h2 => ⟨(hs.2 j h1 h2).1, (hs.2 j h1 h2).2.imp (fun b hb => ⟨Nat.le_trans hle hb.1, hb.2⟩) (fun _ _ _ => rfl)⟩⟩
theorem ownA_set {B : Nat} {w : World} {v : Value} {L : List AT} (h : OwnA B w v L) (a : Addr) (x : Value) (ha : a.block < B) : OwnA B (w.setCell a x) v L := by
  obtain ⟨P, hr, hs⟩ := h
  have hblk : ∀ k, k ≠ a.block → (w.setCell a x).heap[k]? = w.heap[k]? := fun k hk => by
    unfold World.setCell
    simp [Array.getElem?_modify, Ne.symm hk]
  refine ⟨P, ⟨hr.1, hr.2.imp id fun ⟨g, cap, cur, e1, hb, hg, rest⟩ => ⟨g, cap, cur, e1, hb, (hblk g (by omega)).trans hg, rest⟩⟩, hs.1, fun j h1 h2 => ⟨(hs.2 j h1 h2).1, (hs.2 j h1 h2).2.imp (fun b hb => ⟨hb.1, by simpa [World.setCell] using hb.2.1, hb.2.2⟩) (fun b o hb => by
    have := hblk b (by have := hb.1; omega)
    simp only [World.cell?, this])⟩⟩

theorem ownA_sl {B : Nat} {w : World} {v : Value} {L : List AT} (h : OwnA B w v L) : ∃ a n c, v = .slice a n c := by
  obtain ⟨a, c, h⟩ := ownA_slice h
  exact ⟨a, _, c, h⟩
def BoxE (b : Nat) (d : ByteArray) (w : World) : Prop := w.cell? ⟨b, 0, none⟩ = some (.string d) ∧ w.cell? ⟨b + 1, 0, none⟩ = some (.string ⟨#[]⟩) ∧ w.cell? ⟨b + 1, 1, none⟩ = some (.slice none 0 0) ∧ w.frozen? ⟨b + 1, 0, none⟩ = false ∧ w.frozen? ⟨b + 1, 1, none⟩ = false
theorem BoxE.go {b n : Nat} {d : ByteArray} {w w' : World} (h : BoxE b d w) (hb : Below n w w') (hn : b + 2 ≤ n) : BoxE b d w' :=
  ⟨(hb.cell (p := ⟨b, 0, none⟩) (show b < n by omega)).trans h.1, (hb.cell (p := ⟨b + 1, 0, none⟩) (show b + 1 < n by omega)).trans h.2.1, (hb.cell (p := ⟨b + 1, 1, none⟩) (show b + 1 < n by omega)).trans h.2.2.1,
   (hb.frozen (p := ⟨b + 1, 0, none⟩) (show b + 1 < n by omega)).trans h.2.2.2.1, (hb.frozen (p := ⟨b + 1, 1, none⟩) (show b + 1 < n by omega)).trans h.2.2.2.2⟩
theorem boxE_new (w : World) (d : ByteArray) (x : Value) : BoxE w.heap.size d ((w.alloc (.cells #[.string d, x] 24)).alloc (.cells #[.string ⟨#[]⟩, .slice none 0 0] 24)) := by
  refine ⟨by simp, by simp, by simp, by simp, by simp⟩

set_option maxRecDepth 100000 in
set_option maxHeartbeats 4000000 in
theorem set_any (d t : ByteArray) (L : List AT) (V : List (List UInt8)) (hd : d.size ≤ 281474976710656) (ht : t.size ≤ 281474976710656) (hs : smallA L) (hV : smallT V) (v vv : Value) (w : World) (h : IsA w.heap.size w L v) (hvv : IsT w.heap.size w V vv) :
    Calls Tryz.prog 17 #[.agg #[.string d, v], .string t, vv] w fun e w' => ∃ v', e = .returned (.agg #[.string d, v']) ∧ OwnA w.heap.size w' v' (setA L t.data.toList V) ∧ Below w.heap.size w w' := by
  obtain ⟨sa, sc, hv, _⟩ := id h
  obtain ⟨sn, hsn⟩ : ∃ n, n = L.length := ⟨_, rfl⟩
  rw [← hsn] at hv
  subst hv
  obtain ⟨va, vc, hv2, _⟩ := id hvv
  obtain ⟨vn, hvn⟩ : ∃ n, n = V.length := ⟨_, rfl⟩
  rw [← hvn] at hv2
  subst hv2
  have HI := Lib.hid h
  have HVv := Lib.hid hvv
  have HS := Lib.hid hs
  have HVs := Lib.hid hV
  have HVn := Lib.hid hvn
  have hcl := fun w => clone_any d w hd
  have HCl := Lib.hid hcl
  have htn := fun w => typeName_any t ht w
  obtain ⟨T, hT⟩ : ∃ T, T = ofL (nameA t.data.toList) := ⟨_, rfl⟩
  have hTl : T.data.toList = nameA t.data.toList := by rw [hT, ofL_list]
  simp only [← hT] at htn
  have HTn := Lib.hid htn
  have HTl := Lib.hid hTl
  have hwl : (withoutA L t.data.toList).length ≤ 1000 := Nat.le_trans (List.length_filter_le _ _) hs.1
  have hb0 : Below w.heap.size w ((w.alloc (.cells #[.string d, .slice sa sn sc] 24)).alloc (.cells #[.string ⟨#[]⟩, .slice none 0 0] 24)) := ((Below.refl _ _).alloc (Nat.le_refl _) _).alloc (by simp) _
  have HB0 := Lib.hid hb0
  have HBx := Lib.hid (boxE_new w d (.slice sa sn sc))
  clear h hvv hs hV hsn hvn hcl htn hT hTl hb0
  by_cases hV0 : vn = 0
  · have t1 : decide ((0 : Int) < (vn : Int)) = false := by simp; omega
    have t1' : decide (0 < vn) = false := by simp; omega
    go_enter Tryz.func17, Tryz.ntmps17
    go_wp2_with (first
      | (go_at_call 38; refine (without_any L HS.out (.slice sa sn sc) t _ (HI.out.below HB0.out HB0.out.size)).mono ?_; rintro e w2 ⟨v2, rfl, hown2, hb2⟩; (obtain ⟨ra, rn, rc, rfl⟩ := ownA_sl hown2); have HBx2 := Lib.hid (HBx.out.go hb2 (by simp)); have f0 := HBx2.out.1; have HO := Lib.hid (ownA_lower (B' := w.heap.size + 2) hown2 (by simp)); have HB := Lib.hid (HB0.out.trans (hb2.mono HB0.out.size)); have hz2 := hb2.size; (simp only [World.size_alloc] at hz2); clear hown2 hb2)
      | (go_at_call 41; refine (HCl.out _).mono ?_; rintro e w6 ⟨rfl, hb6⟩; obtain ⟨_, p0, p1, q0, q1⟩ := HBx2.out.go hb6 (by omega); have HO := Lib.hid (ownA_below HO.out hb6); have HB := Lib.hid (bthen HB.out hb6); clear hb6))
    refine bodyPost_ret (v := .agg #[.string d, (.slice ra rn rc)]) (by simp [results, Tryz.results17, go_sem, p0, p1]) rfl ⟨_, rfl, ?_, (HB.out.setCell (p := ⟨w.heap.size + 1, 0, none⟩) (show w.heap.size ≤ w.heap.size + 1 by omega) _).setCell (p := ⟨w.heap.size + 1, 1, none⟩) (show w.heap.size ≤ w.heap.size + 1 by omega) _⟩
    have ho := ownA_set (ownA_set HO.out ⟨w.heap.size + 1, 0, none⟩ (.string d) (show w.heap.size + 1 < w.heap.size + 2 by omega)) ⟨w.heap.size + 1, 1, none⟩ (.slice ra rn rc) (show w.heap.size + 1 < w.heap.size + 2 by omega)
    have ho2 := ownA_lower (B' := w.heap.size) ho (by omega)
    unfold setA
    rw [if_pos (List.eq_nil_of_length_eq_zero (by rw [← HVn.out]; exact hV0))]
    exact ho2
  · have t1 : decide ((0 : Int) < (vn : Int)) = true := by simp; omega
    have t1' : decide (0 < vn) = true := by simp; omega
    go_enter Tryz.func17, Tryz.ntmps17
    go_wp2_with (first
      | (go_at_call 38; refine (without_any L HS.out (.slice sa sn sc) t _ (HI.out.below HB0.out HB0.out.size)).mono ?_; rintro e w2 ⟨v2, rfl, hown2, hb2⟩; (obtain ⟨ra, rn, rc, rfl⟩ := ownA_sl hown2); have HBx2 := Lib.hid (HBx.out.go hb2 (by simp)); have f0 := HBx2.out.1; have HO := Lib.hid (ownA_lower (B' := w.heap.size + 2) hown2 (by simp)); have HB := Lib.hid (HB0.out.trans (hb2.mono HB0.out.size)); have hz2 := hb2.size; (simp only [World.size_alloc] at hz2); clear hown2 hb2)
      | (go_at_call 40; refine (HTn.out _).mono ?_; rintro e w3 ⟨rfl, hb3⟩; have HBx3 := Lib.hid (HBx2.out.go hb3 (by omega)); have HO := Lib.hid (ownA_below HO.out hb3); have HB := Lib.hid (bthen HB.out hb3); have hz3 := hb3.size; clear hb3)
      | (go_at_call 31; refine (copyVals_any V HVs.out _ _ (HVv.out.below HB.out HB.out.size)).mono ?_; rintro e w4 ⟨u4, rfl, hu4, hb4⟩; have HU4 := Lib.hid (ownS_isTo hu4 (by have := HVs.out.1; unfold maxLen; omega)); (obtain ⟨xa, xc, rfl⟩ := ownS_slice hu4); have HOl := HO; have HBx4 := Lib.hid (HBx3.out.go hb4 (by omega)); have HO := Lib.hid (ownA_below HO.out hb4); have HB := Lib.hid (bthen HB.out hb4); have hz4 := hb4.size; clear hu4 hb4)
      | (go_at_call 39; refine (insert_any (withoutA L t.data.toList) _ (w.heap.size + 2) T _ V rfl _ HO.out (by omega) (by omega) (HU4.out.imp (fun b hb => ⟨by have := hb.1; omega, hb.2, fun e => absurd (ownA_lt HOl.out b e.symm) (by have := hb.1; omega)⟩) (fun _ _ _ => rfl))).mono ?_; rintro e w5 ⟨v5, rfl, hown5, hb5⟩; (obtain ⟨ra5, rn5, rc5, rfl⟩ := ownA_sl hown5); have HBx2 := Lib.hid (HBx4.out.go hb5 (by omega)); have f0 := HBx2.out.1; have HO := Lib.hid hown5; have hz5 := hb5.size; have HB := Lib.hid (HB.out.trans (hb5.mono (by omega))); clear hown5 hb5)
      | (go_at_call 41; refine (HCl.out _).mono ?_; rintro e w6 ⟨rfl, hb6⟩; obtain ⟨_, p0, p1, q0, q1⟩ := HBx2.out.go hb6 (by omega); have HO := Lib.hid (ownA_below HO.out hb6); have HB := Lib.hid (bthen HB.out hb6); clear hb6))
    refine bodyPost_ret (v := .agg #[.string d, (.slice ra5 rn5 rc5)]) (by simp [results, Tryz.results17, go_sem, p0, p1]) rfl ⟨_, rfl, ?_, (HB.out.setCell (p := ⟨w.heap.size + 1, 0, none⟩) (show w.heap.size ≤ w.heap.size + 1 by omega) _).setCell (p := ⟨w.heap.size + 1, 1, none⟩) (show w.heap.size ≤ w.heap.size + 1 by omega) _⟩
    have ho := ownA_set (ownA_set HO.out ⟨w.heap.size + 1, 0, none⟩ (.string d) (show w.heap.size + 1 < w.heap.size + 2 by omega)) ⟨w.heap.size + 1, 1, none⟩ (.slice ra5 rn5 rc5) (show w.heap.size + 1 < w.heap.size + 2 by omega)
    have ho2 := ownA_lower (B' := w.heap.size) ho (by omega)
    unfold setA
    rw [if_neg (fun e => hV0 (by rw [HVn.out, e]; rfl)), ← HTl.out]
    exact ho2
end Go.Proofs.YtncnlbmdkognnaaGreatDoor


namespace Go.Proofs.YtncnlbmdkognnaaGreatDoor
open Go.RowKit
set_option linter.unusedVariables false

def nameN (s : List UInt8) : List UInt8 := match parseD s with
  | some l => textD l
  | none => s
set_option maxRecDepth 100000 in
set_option maxHeartbeats 2000000 in
theorem nameText_any (s : ByteArray) (hs : s.size ≤ 140737488351232) (w : World) : Calls Tryz.prog 28 #[.string s] w fun e w' => e = .returned (strV (nameN s.data.toList)) ∧ Below w.heap.size w w' := by
  have hp := fun w => parse_any s hs w
  have hcl := fun w => clone_any s w (by omega)
  cases e : parseD s.data.toList with
  | none =>
    have hn : strV (nameN s.data.toList) = .string s := by unfold nameN; rw [e]; exact strV_whole s
    rw [hn]
    simp only [e] at hp
    have HP := Lib.hid hp
    have HCl := Lib.hid hcl
    clear hp hcl hn e
    go_enter Tryz.func28, Tryz.ntmps28
    go_wp2_with (first
      | (go_at_call 50; refine (HP.out _).mono ?_; rintro e w1 ⟨hb1, rfl⟩; have HB := Lib.hid hb1; clear hb1)
      | (go_at_call 41; refine (HCl.out _).mono ?_; rintro e w2 ⟨rfl, hb2⟩; have HB := Lib.hid (bthen HB.out hb2); clear hb2))
    go_ret
    exact ⟨rfl, HB.out⟩
  | some l =>
    have hsm := okL_small (parse_ok e)
    have hn : nameN s.data.toList = textD l := by unfold nameN; rw [e]
    rw [hn]
    obtain ⟨T, hT⟩ : ∃ T : ByteArray, strV (textD l) = .string T := ⟨_, rfl⟩
    have ht := fun v w h => text_any l hsm v w h
    simp only [hT] at ht
    rw [hT]
    simp only [e] at hp
    have HP := Lib.hid hp
    have HTx := Lib.hid ht
    have HSm := Lib.hid hsm
    clear hp hcl hn e ht hT hsm
    go_enter Tryz.func28, Tryz.ntmps28
    go_wp2_with (first
      | (go_at_call 50; refine (HP.out _).mono ?_; rintro e w1 ⟨hb1, hpp⟩; (obtain ⟨v1, rfl, hown1⟩ := hpp); have HIL := Lib.hid (ownR_isL hown1 (by have := HSm.out.1; unfold maxLen; omega)); (obtain ⟨sa, sc, hsv⟩ := ownR_slice hown1); (obtain ⟨sn, hsn⟩ : ∃ n, n = l.length := ⟨_, rfl⟩); rw [← hsn] at hsv; subst hsv; have HB := Lib.hid hb1; clear hb1 hown1 hsn)
      | (go_at_call 51; refine (HTx.out _ _ HIL.out).mono ?_; rintro e w2 ⟨rfl, hb2⟩; have HB := Lib.hid (bthen HB.out hb2); clear hb2))
    go_ret
    exact ⟨rfl, HB.out⟩

set_option maxRecDepth 100000 in
set_option maxHeartbeats 1000000 in
theorem more_any (mb : Nat) (sa : Option Addr) (n sc j : Nat) (w : World) (h0 : w.cell? ⟨mb, 0, none⟩ = some (.slice sa n sc)) (h1 : w.cell? ⟨mb, 1, none⟩ = some (.int .i64 j)) :
    Calls Tryz.prog 23 #[.pointer (some ⟨mb, 0, none⟩)] w fun e w' => e = .returned (.bool (decide ((j : Int) < (n : Int)))) ∧ ∃ m, w' = w.drewN m := by
  have hl := fun k => load_any mb 1 j (w.drewN k) h1
  have HL := Lib.hid hl
  obtain ⟨g, hg⟩ : ∃ g, g = decide ((j : Int) < (n : Int)) := ⟨_, rfl⟩
  have hg1 : decide ((j : Int) < (n : Int)) = g := hg.symm
  have hg2 : decide (j < n) = g := by rw [hg]; simp
  rw [← hg]
  clear hl hg
  go_enter Tryz.func23, Tryz.ntmps23
  go_wp2
  go_quiet ((go_at_call 46; refine Calls.quiet_of_same (HL.out _)))
  go_wp2
  go_ret
  exact ⟨rfl, _, rfl⟩
end Go.Proofs.YtncnlbmdkognnaaGreatDoor

