/- A name of some values: the law's Make, walked. -/
import Derived.Test.YtimkobcclkjdeaaArg
import Derived.Test.YtimkobcclkjdeaaDnFoldW
import Derived.Deep.AppendLies
import Derived.Deep.RegionLaw
import Derived.RegionTactic
import Derived.BigRegion
namespace Go.Proofs.Ytimkobcclkjdeaa
open Go.RowKit
set_option linter.unusedVariables false

def tNames : List (List UInt8) := [[99, 110], [79], [120, 45, 49], [117, 105, 100], [79, 85]]
def tName (n : Nat) : List UInt8 := tNames.getD (n % 5) []
def typR (ns : List UInt8) (j : Nat) : List UInt8 := if h : j < ns.length then tName ns[j].toNat else [99, 110]
def mkR (vals : List ByteArray) (ns : List UInt8) (j : Nat) : R := (typR ns j, 118 :: (vals.getD j ⟨#[]⟩).data.toList.take 60)
def makeN (vals : List ByteArray) (ns : List UInt8) (j : Nat) : List R := (List.range j).map (mkR vals ns)
def makeL (vals : List ByteArray) (ns : List UInt8) : List R := makeN vals ns (min vals.length 5)
theorem makeN_succ (vals : List ByteArray) (ns : List UInt8) (j : Nat) : makeN vals ns (j + 1) = makeN vals ns j ++ [mkR vals ns j] := by simp [makeN, List.range_succ]
theorem makeN_len (vals : List ByteArray) (ns : List UInt8) (j : Nat) : (makeN vals ns j).length = j := by simp [makeN]

def namesB : List ByteArray := [⟨#[99, 110]⟩, ⟨#[79]⟩, ⟨#[120, 45, 49]⟩, ⟨#[117, 105, 100]⟩, ⟨#[79, 85]⟩]
theorem names_at (k : Nat) (hk : k < 5) : (namesB[k]'hk).data.toList = tNames[k]'hk := by
  rcases (show k = 0 ∨ k = 1 ∨ k = 2 ∨ k = 3 ∨ k = 4 from by omega) with rfl | rfl | rfl | rfl | rfl <;> rfl
theorem names_cell (w : World) (k : Nat) (hk : k < 5) : (w.alloc (.cells (namesB.map Value.string).toArray 9)).cell? ⟨w.heap.size, k, none⟩ = some (.string (namesB[k]'hk)) := by
  have h := heap_alloc_new w (.cells (namesB.map Value.string).toArray 9)
  have hk2 : k < namesB.length := hk
  simp only [World.cell?, h]
  rw [List.getElem?_toArray, List.getElem?_map, List.getElem?_eq_getElem hk2]
  rfl

/-- 'append(l, r)' in a region that draws its order. -/
theorem step_append_rdn {ops : Array Oper} {o : Oper} {a : Act} {w : World} {K : Act → World → Prop} {Q : Exit → Act → World → Prop} {E : Prop} (hgd : o.guard = none) (sl x : Operand)
    (ho : o.op = .call { callee := .builtin .append, args := #[sl, x], argTypes := #[23, 23] })
    (base : Nat) (v : Value) (l : List R) (hs : a.eval sl = v) (X Y : ByteArray) (hown : OwnR base w v l) (hx : a.eval x = .slice (some ⟨w.heap.size, 0, none⟩) 1 1)
    (h63 : l.length + 1 ≤ 1000000) (hbase : base ≤ w.heap.size)
    (h : ∀ v' w', OwnR base w' v' (l ++ [(X.data.toList, Y.data.toList)]) → Below base w w' → K (a.put o.dst v') w') :
    if Region.wanted o (yielded ops a.tmps) = true then Oper.wp Try.prog o a (w.alloc (.cells #[.string X, .string Y] 38)) K Q else E := by
  obtain ⟨i0, hi, hz0, hz1, hz2⟩ := info_parts infoR
  refine step_append_lies _ hgd sl x 23 ho base 38 i0 (.agg #[.string ⟨#[]⟩, .string ⟨#[]⟩]) 2 32 Try.underlying23 hi hz0 hz1 hz2 rfl (by decide) v l.length (cellsR l) hs (World.ownsRow.alloc hown _) ⟨w.heap.size, 0, none⟩ 1 1 [.string X, .string Y] hx rfl (news2 w _ _) (by intro u hu; simp at hu; rcases hu with rfl | rfl <;> rfl) (by decide) (by unfold maxLen; omega) (by omega) (by simp; omega) _ rfl ?_
  intro g cap w' hown' hgrow hat hlt
  refine h _ w' ?_ ?_
  · unfold OwnR
    rw [List.length_append, cellsR_append]
    exact hown'
  · exact ((Below.refl base w).alloc hbase _).grown hgrow (by simp; omega) (fun k e => (World.ownsRow.lt hown k e).1)

theorem take_len (X : ByteArray) : X.data.toList.take (min X.size 60) = X.data.toList.take 60 := by
  rcases Nat.le_total X.size 60 with h | h
  · rw [Nat.min_eq_left h, List.take_of_length_le (by simp), List.take_of_length_le (by simp; omega)]
  · rw [Nat.min_eq_right h]

set_option maxRecDepth 100000 in
set_option maxHeartbeats 4000000 in
theorem make_any (vals : List ByteArray) (ns : List UInt8) (a0 a1 : Option Addr) (c0 c1 : Nat) (W w : World) (hb : Below W.heap.size W w) (h0 : IsS W.heap.size W vals a0 c0) (h1 : IsB W.heap.size W ns a1 c1) :
    Calls Try.prog 27 #[.slice a0 vals.length c0, .slice a1 ns.length c1] w fun e w' => ∃ v, e = .returned v ∧ OwnR w.heap.size w' v (makeL vals ns) ∧ Below w.heap.size w w' := by
  have hws := hb.size
  have g0 := h0.below hb
  have g1 := h1.below hb
  have hm0 : vals.length ≤ 9223372036854775807 := by have := h0.1; unfold maxLen at this; omega
  have hm1 : ns.length ≤ 9223372036854775807 := by have := h1.1; unfold maxLen at this; omega
  have G0 := Lib.hid g0
  have G1 := Lib.hid g1
  clear h0 h1 hb g0 g1
  go_enter Try.func27, Try.ntmps27
  go_wp2
  go_loopw [5, 6] (fun v i wr => ∃ j : Nat, j ≤ vals.length ∧ j ≤ 5 ∧ i = .int .i64 j ∧ OwnR w.heap.size wr v (makeN vals ns j) ∧ Below w.heap.size w wr) (fun _ i _ => 5 - (intOf i).toNat)
  case atStart => exact ⟨0, by omega, by omega, rfl, ownR_nil _ _, Below.refl _ _⟩
  case round =>
    obtain ⟨j, hj, hj5, rfl, hown, hbel⟩ := hrel
    obtain ⟨a, cp, rfl⟩ := ownR_slice hown
    rw [makeN_len]
    rw [makeN_len] at hown
    have HOwn := Lib.hid hown
    have HBel := Lib.hid hbel
    have hbs := hbel.size
    by_cases hlt : j < vals.length
    · have t1 : decide ((j : Int) < (vals.length : Int)) = true := by simp; omega
      have t1' : decide (j < vals.length) = true := by simpa using hlt
      by_cases h5 : j < 5
      · have t2 : decide ((j : Int) < 5) = true := by simp; omega
        obtain ⟨_, hvs, hvc⟩ := G0.out
        obtain ⟨b, off, rfl, hbw, hc⟩ := hvc.resolve_left (by intro e; subst e; simp at hlt)
        obtain ⟨X, hX⟩ : ∃ X, X = vals[j] := ⟨_, rfl⟩
        have hXs : X.size ≤ 9223372036854775807 := by have := hvs _ (List.getElem_mem hlt); rw [hX]; unfold maxLen at this; omega
        have d0 : wr.cell? ⟨b, off + j, none⟩ = some (.string X) := by rw [hbel.cell (p := ⟨b, _, none⟩) (Nat.lt_of_lt_of_le hbw hws), hc j hlt, hX]
        have hXg : vals.getD j ⟨#[]⟩ = X := by rw [List.getD_eq_getElem?_getD, List.getElem?_eq_getElem hlt, hX]; rfl
        obtain ⟨M, hM⟩ : ∃ M, M = min X.size 60 := ⟨_, rfl⟩
        have hM1 : M ≤ X.size := by omega
        have hM2 : M ≤ 60 := by omega
        have hmin : min (X.size : Int) 60 = (M : Int) := by omega
        have q1 : (M : Int) ≤ (X.size : Int) := by omega
        have q2 : (0 : Int) ≤ (M : Int) := by omega
        have hes : (X.extract 0 M).size = M := by rw [ByteArray.size_extract]; omega
        have hvl : ((⟨#[118]⟩ : ByteArray) ++ X.extract 0 M).data.toList = 118 :: X.data.toList.take 60 := by
          rw [app_list, head_list, hM]
          rw [take_len]; rfl
        obtain ⟨Z, hZ⟩ : ∃ Z, X.extract 0 M = Z := ⟨_, rfl⟩
        rw [hZ] at hes hvl
        have q3 : 1 + Z.size ≤ 9223372036854775807 := by omega
        have q7 : (9223372036854775807 < 1 + Z.size) = False := by simp; omega
        have hdr : Below wr.heap.size wr wr.drew := ⟨rfl, rfl, rfl, Nat.le_refl _, fun _ _ => rfl⟩
        have HDr := Lib.hid hdr
        have HV := Lib.hid hvl
        have HM := Lib.hid hM
        clear hvs hvc hc hX hM hes hdr hvl
        by_cases hn : j < ns.length
        · have t3 : decide ((j : Int) < (ns.length : Int)) = true := by simp; omega
          have t3' : decide (j < ns.length) = true := by simpa using hn
          obtain ⟨_, hnc⟩ := G1.out
          obtain ⟨b1, off1, rfl, hb1w, hc1⟩ := hnc.resolve_left (by intro e; subst e; simp at hn)
          obtain ⟨c, hcc⟩ : ∃ c : UInt8, c = ns[j] := ⟨_, rfl⟩
          have hcl := c.toNat_lt
          have d1 : wr.cell? ⟨b1, off1 + j, none⟩ = some (.int .u8 c.toNat) := by rw [hbel.cell (p := ⟨b1, _, none⟩) (Nat.lt_of_lt_of_le hb1w hws), hc1 j hn, hcc]
          have hk5 : c.toNat % 5 < 5 := Nat.mod_lt _ (by decide)
          have hcell := names_cell wr (c.toNat % 5) hk5
          have hnl := names_at (c.toNat % 5) hk5
          obtain ⟨T, hT⟩ : ∃ T, T = namesB[c.toNat % 5]'hk5 := ⟨_, rfl⟩
          rw [← hT] at hcell hnl
          have hR : mkR vals ns j = (T.data.toList, 118 :: X.data.toList.take 60) := by
            unfold mkR typR
            rw [dif_pos hn, hXg, hnl, ← hcc]
            unfold tName
            rw [List.getD_eq_getElem?_getD, List.getElem?_eq_getElem hk5]; rfl
          have hal : Below wr.heap.size wr (wr.alloc (.cells (namesB.map Value.string).toArray 9)) := (Below.refl _ _).alloc (Nat.le_refl _) _
          have HAl := Lib.hid hal
          have d1a : (wr.alloc (.cells (namesB.map Value.string).toArray 9)).cell? ⟨b1, off1 + j, none⟩ = some (.int .u8 c.toNat) := by
            rw [hal.cell (p := ⟨b1, _, none⟩) (Nat.lt_of_lt_of_le hb1w (Nat.le_trans hws hbs)), d1]
          have d0a : (wr.alloc (.cells (namesB.map Value.string).toArray 9)).cell? ⟨b, off + j, none⟩ = some (.string X) := by
            rw [hal.cell (p := ⟨b, _, none⟩) (Nat.lt_of_lt_of_le hbw (Nat.le_trans hws hbs)), d0]
          simp only [namesB, List.map_cons, List.map_nil] at hcell d1a d0a
          clear hown hbel hXg hT hnl hcc hc1 hnc hal hk5
          go_wp2
          obtain ⟨w4, hw4⟩ : ∃ w4, w4 = wr.alloc (.cells #[.string ⟨#[99, 110]⟩, .string ⟨#[79]⟩, .string ⟨#[120, 45, 49]⟩, .string ⟨#[117, 105, 100]⟩, .string ⟨#[79, 85]⟩] 9) := ⟨_, rfl⟩
          have HAl2 : Hid (Below wr.heap.size wr w4) := by rw [hw4]; exact HAl
          have hs4 : wr.heap.size ≤ w4.heap.size := HAl2.out.size
          have d0b : w4.cell? ⟨b, off + j, none⟩ = some (.string X) := by rw [hw4]; exact d0a
          rw [← hw4]
          clear hw4 HAl hcell d1a d0a d0 d1
          obtain ⟨Y, hY⟩ : ∃ Y, (⟨#[118]⟩ : ByteArray) ++ Z = Y := ⟨_, rfl⟩
          have hYl := HV.out
          rw [hY] at hYl
          have HY := Lib.hid hYl
          have HR := Lib.hid hR
          have hdr4 : Below w4.heap.size w4 w4.drew := ⟨rfl, rfl, rfl, Nat.le_refl _, fun _ _ => rfl⟩
          have HDr4 := Lib.hid hdr4
          have HO2 := Lib.hid (ownR_below (ownR_below HOwn.out HAl2.out) hdr4)
          clear hYl hR hdr4
          go_region_law (refine step_append_rdn rfl (.tmp 30) (.tmp 45) rfl w.heap.size (.slice a j cp) (makeN vals ns j) rfl T Y HO2.out rfl (by rw [makeN_len]; omega) (Nat.le_trans hbs hs4) ?_; intro v5 w5 hown5 hb5; have HO5 := Lib.hid hown5; have HB5 := Lib.hid hb5; clear hown5 hb5)
          all_goals
            go_wp2
            go_roundw
            case rel => exact ⟨j + 1, by omega, by omega, by go_num, by rw [makeN_succ, HR.out, ← HY.out]; exact HO5.out, (bthen (HBel.out.trans (HAl2.out.mono hbs)) HDr4.out).trans HB5.out⟩
            case measure => simp [intOf]; omega
        · have t3 : decide ((j : Int) < (ns.length : Int)) = false := by simp; omega
          have t3' : decide (j < ns.length) = false := by simp; omega
          have hR : mkR vals ns j = ([99, 110], 118 :: X.data.toList.take 60) := by unfold mkR typR; rw [dif_neg hn, hXg]
          clear hown hbel hXg
          obtain ⟨Y, hY⟩ : ∃ Y, (⟨#[118]⟩ : ByteArray) ++ Z = Y := ⟨_, rfl⟩
          have hYl := HV.out
          rw [hY] at hYl
          have HY := Lib.hid hYl
          have HR := Lib.hid hR
          have HO2 := Lib.hid (ownR_below HOwn.out HDr.out)
          clear hYl hR
          go_wp2
          go_region_law (refine step_append_rdn rfl (.tmp 30) (.tmp 45) rfl w.heap.size (.slice a j cp) (makeN vals ns j) rfl ⟨#[99, 110]⟩ Y HO2.out rfl (by rw [makeN_len]; omega) hbs ?_; intro v5 w5 hown5 hb5; have HO5 := Lib.hid hown5; have HB5 := Lib.hid hb5; clear hown5 hb5)
          all_goals
            go_wp2
            go_roundw
            case rel => exact ⟨j + 1, by omega, by omega, by go_num, by rw [makeN_succ, HR.out, ← HY.out]; exact HO5.out, (HBel.out.trans (HDr.out.mono hbs)).trans HB5.out⟩
            case measure => simp [intOf]; omega
      · obtain rfl : j = 5 := by omega
        have hmk : makeL vals ns = makeN vals ns 5 := by unfold makeL; rw [Nat.min_eq_right (by omega)]
        have HMk := Lib.hid hmk
        clear hown hbel hmk
        go_wp2
        go_ret
        refine ⟨_, rfl, ?_, HBel.out⟩
        rw [HMk.out]
        exact HOwn.out
    · obtain rfl : j = vals.length := by omega
      have t1 : decide ((vals.length : Int) < (vals.length : Int)) = false := by simp
      have t1' : decide (vals.length < vals.length) = false := by simp
      have hmk : makeL vals ns = makeN vals ns vals.length := by unfold makeL; rw [Nat.min_eq_left hj5]
      have HMk := Lib.hid hmk
      clear hown hbel hmk
      go_wp2
      go_ret
      refine ⟨_, rfl, ?_, HBel.out⟩
      rw [HMk.out]
      exact HOwn.out
end Go.Proofs.Ytimkobcclkjdeaa
