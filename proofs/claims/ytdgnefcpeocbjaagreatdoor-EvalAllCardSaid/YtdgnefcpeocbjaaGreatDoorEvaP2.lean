/- Several texts in one file: EvPrt, EvFit, FiAsked, FiLeaf, FiNext, EvTru, EvTal, EvDocP, EvDoc. -/
import Derived.Test.YtdgnefcpeocbjaaGreatDoorEvaP1
import Derived.Test.YtdgnefcpeocbjaaGreatDoorFiAsk
import Derived.Test.YtdgnefcpeocbjaaGreatDoorFiMayW
import Derived.Deep.RegionLaw
import Derived.Deep.AppendLies
import Derived.RegionTactic
import Derived.Test.YtdgnefcpeocbjaaGreatDoorFiSamR
import Derived.Deep.RegionHeld3
import Derived.Test.YtdgnefcpeocbjaaGreatDoorFiText
import Derived.Laws.LoneSync
import Derived.Laws.Externs
import Derived.Lib.IndexLaws
import Derived.Lib.IndexMore
import Derived.Test.YtdgnefcpeocbjaaGreatDoorDnFoldR
/- eval.hasParts and its question: the walks. -/
namespace Go.Proofs.YtdgnefcpeocbjaaGreatDoor
open Go.RowKit
set_option linter.unusedVariables false
set_option linter.unusedSimpArgs false

theorem step_append_textS {ops : Array Oper} {o : Oper} {a : Act} {w : World} {K : Act → World → Prop} {Q : Exit → Act → World → Prop} {E : Prop} (hgd : o.guard = none) (sl x : Operand)
    (ho : o.op = .call { callee := .builtin .append, args := #[sl, x], argTypes := #[22, 22] })
    (base : Nat) (v : Value) (L : List (List UInt8)) (hs : a.eval sl = v) (X : ByteArray) (hown : OwnS base w v L) (hx : a.eval x = .slice (some ⟨w.heap.size, 0, none⟩) 1 1)
    (h63 : L.length + 1 ≤ 1000000) (hbase : base ≤ w.heap.size)
    (h : ∀ v' w', OwnS base w' v' (L ++ [X.data.toList]) → Below base w w' → K (a.put o.dst v') w') :
    if Region.wanted o (yielded ops a.tmps) = true then Oper.wp Tryz.prog o a (w.alloc (.cells #[.string X] 9)) K Q else E := by
  obtain ⟨i0, hi, hz0, hz1, hz2⟩ := info_parts infoS
  refine step_append_lies _ hgd sl x 22 ho base 9 i0 (.string ⟨#[]⟩) 1 16 Tryz.underlying22 hi hz0 hz1 hz2 rfl (by decide) v L.length (L.map strV) hs (World.ownsRow.alloc hown _) ⟨w.heap.size, 0, none⟩ 1 1 [.string X] hx rfl (cell_one_new w (.string X) 9) (by intro u hu; simp at hu; rw [hu]; rfl) (by decide) (by unfold maxLen; omega) (by omega) (by simp; omega) _ rfl ?_
  intro g cap w' hown' hgrow hat hlt
  refine h _ w' ?_ ?_
  · unfold OwnS
    rw [List.length_append, List.map_append]
    have : [X.data.toList].map strV = [Value.string X] := by show [Value.string ⟨X.data.toList.toArray⟩] = _; rw [whole_ext]
    rw [this]
    exact hown'
  · exact ((Below.refl base w).alloc hbase _).grown hgrow (by simp; omega) (fun k e => (World.ownsRow.lt hown k e).1)
theorem normD_len {r : Nat} {v x : List UInt8} (h : normD r v = some x) : x.length ≤ 100 := by
  unfold normD at h
  split at h
  · cases h
  · rename_i h0
    have hv : v.length ≤ 100 := by omega
    split at h
    · split at h
      · cases h
      · rw [← Option.some.inj h]
        exact Nat.le_trans (fold_len v) hv
    · split at h
      · split at h
        · rw [← Option.some.inj h]; exact hv
        · cases h
      · split at h
        · split at h
          · rename_i k hk
            split at h
            · cases h
            · rw [← Option.some.inj h]
              exact Nat.le_trans (key_key hk).2 hv
          · cases h
        · split at h
          · rw [← Option.some.inj h]; exact hv
          · cases h
/-- A variable of texts in a block. -/
abbrev PvAt (W : World) (b : Nat) (v : Value) : Prop := W.heap[b]? = some (.cells #[v] 22 (0, 0))
theorem pv_lt {W : World} {b : Nat} {v : Value} (h : PvAt W b v) : b < W.heap.size := (Array.getElem?_eq_some_iff.1 h).1
theorem pv_below {W W' : World} {b m : Nat} {v : Value} (h : PvAt W b v) (hb : Below m W W') (hn : b < m) : PvAt W' b v := (hb.block b hn).trans h
theorem pv_cell {W : World} {b : Nat} {v : Value} (h : PvAt W b v) : W.cell? ⟨b, 0, none⟩ = some v ∧ W.frozen? ⟨b, 0, none⟩ = false := by
  have h' : W.heap[b]? = some (.cells #[v] 22 (0, 0)) := h
  refine ⟨?_, ?_⟩
  · simp [World.cell?, h']
  · simp [World.frozen?, h']
/-- What hasParts has made: the box of its filter, the variable of its parts, their row. -/
structure PrtAt (w wr : World) (x0 x1 x2 x3 x4 v : Value) (L : List (List UInt8)) : Prop where
  fl : FlAt wr w.heap.size x0 x1 x2 x3 x4
  pv : PvAt wr (w.heap.size + 1) v
  own : OwnS (w.heap.size + 2) wr v L
  bel : Below w.heap.size w wr
theorem PrtAt.lt {w wr : World} {x0 x1 x2 x3 x4 v : Value} {L : List (List UInt8)} (h : PrtAt w wr x0 x1 x2 x3 x4 v L) : w.heap.size + 2 ≤ wr.heap.size := by have := pv_lt h.pv; omega
theorem PrtAt.go {w wr wx : World} {x0 x1 x2 x3 x4 v : Value} {L : List (List UInt8)} (h : PrtAt w wr x0 x1 x2 x3 x4 v L) (hb : Below wr.heap.size wr wx) : PrtAt w wx x0 x1 x2 x3 x4 v L :=
  ⟨fl_below h.fl hb (fl_lt h.fl), pv_below h.pv hb (pv_lt h.pv), ownS_below h.own hb, bthen h.bel hb⟩
theorem prt_new (w : World) (x0 x1 x2 x3 x4 : Value) : PrtAt w ((w.alloc (.cells #[x0, x1, x2, x3, x4] 25)).alloc (.cells #[.slice none 0 0] 22)) x0 x1 x2 x3 x4 (.slice none 0 0) [] := by
  have h1 := box5 w x0 x1 x2 x3 x4
  have h2 : Below (w.alloc (.cells #[x0, x1, x2, x3, x4] 25)).heap.size (w.alloc (.cells #[x0, x1, x2, x3, x4] 25)) ((w.alloc (.cells #[x0, x1, x2, x3, x4] 25)).alloc (.cells #[.slice none 0 0] 22)) := (Below.refl _ _).alloc (Nat.le_refl _) _
  have hz : FlAt (w.alloc (.cells #[x0, x1, x2, x3, x4] 25)) w.heap.size x0 x1 x2 x3 x4 := heap_alloc_new w _
  have hs : (w.alloc (.cells #[x0, x1, x2, x3, x4] 25)).heap.size = w.heap.size + 1 := by simp only [World.alloc, Array.size_push]
  have hn := heap_alloc_new (w.alloc (.cells #[x0, x1, x2, x3, x4] 25)) (.cells #[.slice none 0 0] 22)
  rw [hs] at hn
  exact ⟨fl_below hz h2 (fl_lt hz), hn, ownS_nil _ _, bthen h1 h2⟩
/-- Behind an append: the variable holds the longer row. -/
theorem prt_next {w wr w4 w6 : World} {x0 x1 x2 x3 x4 v v6 : Value} {L L' : List (List UInt8)} (h : PrtAt w wr x0 x1 x2 x3 x4 v L) (h4 : Below wr.heap.size wr w4) (h6 : Below (w.heap.size + 2) w4 w6) (ho : OwnS (w.heap.size + 2) w6 v6 L') :
    PvAt w6 (w.heap.size + 1) v ∧ PrtAt w (w6.setCell ⟨w.heap.size + 1, 0, none⟩ v6) x0 x1 x2 x3 x4 v6 L' := by
  have hlt := h.lt
  have hg := h.go h4
  have hp6 := pv_below hg.pv h6 (Nat.lt_succ_self _)
  have hf6 := fl_below hg.fl h6 (by omega)
  refine ⟨hp6, (blockFl_ne _ ⟨w.heap.size + 1, 0, none⟩ _ (by show w.heap.size ≠ w.heap.size + 1; omega)).trans hf6, ?_, ?_, (hg.bel.trans (h6.mono (by omega))).setCell (p := ⟨w.heap.size + 1, 0, none⟩) (by show w.heap.size ≤ w.heap.size + 1; omega) _⟩
  · have h' : w6.heap[w.heap.size + 1]? = some (.cells #[v] 22 (0, 0)) := hp6
    show (w6.setCell ⟨w.heap.size + 1, 0, none⟩ v6).heap[w.heap.size + 1]? = _
    simp [World.setCell, Array.getElem?_modify, h']
  · refine World.ownsRow.kept ho (row := some (w.heap.size + 1)) ⟨rfl, rfl, rfl, by rw [World.size_setCell]; exact Nat.le_refl _, fun k hk hne => heap_setCell_other _ _ _ _ (fun e => hne (by rw [e]))⟩ ?_
    right
    intro e
    have := (World.ownsRow.lt ho _ e).1
    omega
set_option maxRecDepth 100000 in
set_option maxHeartbeats 4000000 in
theorem hasParts_any (k : Int) (T X : ByteArray) (p : List (List UInt8)) (pa ka : Option Addr) (n pc kn kc : Nat) (w : World) (hn : n = p.length) (hn3 : n ≤ 1000) (hpl : ∀ x ∈ p, x.length ≤ 1000000) (h : IsTo (Lt w) w p (.slice pa n pc)) :
    Calls Tryz.prog 68 #[.agg #[.int .i64 k, .string T, .string X, .slice pa n pc, .slice ka kn kc]] w fun e w' => ∃ v, e = .returned (.func (.func 86) #[] #[.pointer (some ⟨w.heap.size, 0, none⟩), .pointer (some ⟨w.heap.size + 1, 0, none⟩)]) ∧ PrtAt w w' (.int .i64 k) (.string T) (.string X) (.slice pa n pc) (.slice ka kn kc) v (p.map low) := by
  have hmf : ∀ (fn : Fn) (first cap : Array Value) (w : World), (Instr.makeFunc fn first cap).run Tryz.prog w = .ok (.func fn first cap) w := fun _ _ _ _ => rfl
  obtain ⟨W1, hW1⟩ : ∃ W, W = (w.alloc (.cells #[.int .i64 k, .string T, .string X, .slice pa n pc, .slice ka kn kc] 25)).alloc (.cells #[.slice none 0 0] 22) := ⟨_, rfl⟩
  have HP1 : Hid (PrtAt w W1 (.int .i64 k) (.string T) (.string X) (.slice pa n pc) (.slice ka kn kc) (.slice none 0 0) []) := Lib.hid (by rw [hW1]; exact prt_new w _ _ _ _ _)
  have HW1 := Lib.hid hW1.symm
  obtain ⟨a0, c0, e0, _, hcell⟩ := h
  have e1 : a0 = pa := by injection e0 with e1 _ _; exact e1.symm
  subst e1
  have HC := Lib.hid hcell
  have HN := Lib.hid hn
  have HPl := Lib.hid hpl
  obtain ⟨q0, q1, q2, q3, q4⟩ := fl_cells HP1.out.fl
  clear hW1 e0 hcell hn hpl
  go_enter Tryz.func68, Tryz.ntmps68
  go_upto_region 2 with (fail)
  rw [HW1.out]
  go_wp2
  clear q0 q1 q2 q3 q4
  go_loopw [9] (fun i wr => ∃ (j : Nat) (v : Value), j ≤ n ∧ i = .int .i64 j ∧ Hid (PrtAt w wr (.int .i64 k) (.string T) (.string X) (.slice a0 n pc) (.slice ka kn kc) v ((p.take j).map low))) (fun i _ => n - (intOf i).toNat)
  case atStart => exact ⟨0, .slice none 0 0, by omega, rfl, HP1⟩
  case round =>
    obtain ⟨j, v, hj, rfl, HP⟩ := hrel
    by_cases hlt : j < n
    · have t1 : decide ((j : Int) < (n : Int)) = true := by simp; omega
      have t1' : decide (j < n) = true := by simpa using hlt
      have hjp : j < p.length := by rw [← HN.out]; exact hlt
      obtain ⟨b, off, rfl, hbl, hc⟩ := HC.out j hjp
      obtain ⟨Y, hY, hYl⟩ := strV_text p[j]
      have d0 : wr.cell? ⟨b, off + j, none⟩ = some (.string Y) := by rw [HP.out.bel.cell (p := ⟨b, _, none⟩) hbl, hc, hY]
      have hYs : Y.size ≤ 281474976710656 := by rw [← bytes_len, hYl]; have := HPl.out _ (List.getElem_mem hjp); omega
      have hlo := fun W => lowEv_any Y W hYs
      have HLo := Lib.hid hlo
      have htk : ((p.take j).map low) ++ [(lowB Y).data.toList] = (p.take (j + 1)).map low := by
        rw [List.take_succ_eq_append_getElem hjp, List.map_append, lowB_list, hYl]
        rfl
      have HTk := Lib.hid htk
      obtain ⟨Z, hZ⟩ : ∃ Z, Z = lowB Y := ⟨_, rfl⟩
      rw [← hZ] at HLo HTk
      obtain ⟨va, vc, hv⟩ := ownS_slice HP.out.own
      have hll : ((p.take j).map low).length = j := by rw [List.length_map, List.length_take, ← HN.out]; omega
      rw [hll] at hv
      subst hv
      have HLl := Lib.hid hll
      obtain ⟨p0, p1⟩ := pv_cell HP.out.pv
      obtain ⟨pb, hpb⟩ : ∃ b, b = w.heap.size + 1 := ⟨_, rfl⟩
      have HPb := Lib.hid hpb
      rw [← hpb] at p0 p1
      have hlw := HP.out.lt
      rw [← hpb]
      clear hc hY hYl hlo htk hZ hpb hll
      go_upto_region 5 with (fail)
      have p0d : wr.drew.cell? ⟨pb, 0, none⟩ = some (.slice va j vc) := p0
      go_region_law (first
        | (go_simp; go_at_call 85; refine (HLo.out wr.drew).mono ?_; rintro e w4 ⟨rfl, hb4⟩; have hb4' : Below wr.heap.size wr w4 := ⟨hb4.1, hb4.2, hb4.3, hb4.4, hb4.5⟩; have hpl : pb < wr.heap.size := (by rw [HPb.out]; exact pv_lt HP.out.pv); have r0 : w4.cell? ⟨pb, 0, none⟩ = some (.slice va j vc) := (hb4'.cell (p := ⟨pb, 0, none⟩) hpl).trans p0; have r1 : (w4.alloc (.cells #[.string Z] 9)).cell? ⟨pb, 0, none⟩ = some (.slice va j vc) := (Below.cell (p := ⟨pb, 0, none⟩) ((Below.refl w4.heap.size w4).alloc (Nat.le_refl _) _) (Nat.lt_of_lt_of_le hpl hb4'.size)).trans r0; have HB4 := Lib.hid hb4'; clear hb4 hb4')
        | (refine step_append_textS rfl (.tmp 13) (.tmp 16) rfl (w.heap.size + 2) (.slice va j vc) ((p.take j).map low) rfl Z (ownS_below HP.out.own HB4.out) rfl (by rw [HLl.out]; omega) (by have := HB4.out.size; omega) ?_; intro v6 w6 hown6 hb6; have hx := prt_next HP.out HB4.out hb6 hown6; have hs6 := pv_cell hx.1; rw [← HPb.out] at hs6; (obtain ⟨s0, s1⟩ := hs6); (obtain ⟨ga, gc, hv6⟩ := ownS_slice hown6); (obtain ⟨m6, hm6⟩ : ∃ m, m = ((p.take j).map low ++ [Z.data.toList]).length := ⟨_, rfl⟩); rw [← hm6] at hv6; subst hv6; have HNx : Hid (PrtAt w (w6.setCell ⟨pb, 0, none⟩ (.slice ga m6 gc)) (.int .i64 k) (.string T) (.string X) (.slice (some ⟨b, off, none⟩) n pc) (.slice ka kn kc) (.slice ga m6 gc) ((p.take (j + 1)).map low)) := Lib.hid (by { rw [HPb.out, ← HTk.out]; exact hx.2 }); clear hown6 hb6 hx hm6))
      all_goals
        go_wp2
        go_roundw
        case rel => exact ⟨j + 1, _, by omega, by go_num, HNx⟩
        case measure => simp [intOf]; omega
    · obtain rfl : j = n := by omega
      have t1 : decide ((j : Int) < (j : Int)) = false := by simp
      have t1' : decide (j < j) = false := by simp
      have HE : Hid ((p.take j).map low = p.map low) := Lib.hid (by rw [List.take_of_length_le (by rw [← HN.out]; exact Nat.le_refl _)])
      go_wp2
      go_ret
      exact ⟨v, rfl, by rw [← HE.out]; exact HP.out⟩
set_option maxRecDepth 100000 in
set_option maxHeartbeats 4000000 in
theorem askParts_any (k : Int) (T X V : ByteArray) (p : List (List UInt8)) (b6 b7 : Nat) (x3 x4 v : Value) (q : List (List UInt8)) (w0 w1 w : World) (hw : LaidW w) (hX : LaidX w) (hP : PrtAt w0 w1 (.int .i64 k) (.string T) (.string X) x3 x4 v q) (hb : Below w1.heap.size w1 w) (hq : q = p.map low)
    (hq2 : 2 ≤ p.length) (hq3 : p.length ≤ 1000) (hpl : ∀ x ∈ p, x.length ≤ 1000000) (hV : V.size ≤ 1000000) (h6 : b6 = w0.heap.size) (h7 : b7 = w0.heap.size + 1) :
    Calls Tryz.prog 86 #[.string V, .pointer (some ⟨b6, 0, none⟩), .pointer (some ⟨b7, 0, none⟩)] w fun e w' => e = .returned (.bool (partsE (ruleD T.data.toList) p V.data.toList)) ∧ Below w.heap.size w w' := by
  have hP' := hP.go hb
  subst h6
  subst h7
  obtain ⟨c0, c1, c2, c3, c4⟩ := fl_cells hP'.fl
  obtain ⟨p0, _⟩ := pv_cell hP'.pv
  have hnm := norm_any T V w hw
  obtain ⟨R, hR⟩ : ∃ R, R = partsE (ruleD T.data.toList) p V.data.toList := ⟨_, rfl⟩
  rw [← hR]
  unfold partsE at hR
  have hql : q.length = p.length := by rw [hq, List.length_map]
  have hqp : ∀ x ∈ q, x.length ≤ 1000000 := by
    rw [hq]
    intro x hx
    obtain ⟨y, hy, rfl⟩ := List.mem_map.1 hx
    rw [low_length]
    exact hpl y hy
  have hne : q ≠ [] := fun e => by rw [e] at hql; simp at hql; omega
  obtain ⟨g, cp, hv, hg0, hg1, hcell⟩ := ownS_at hP'.own hne
  subst hv
  have hcp : q.length ≤ cp := by
    rcases hP'.own.2 with ⟨e, _⟩ | ⟨g', cap, cur, e, _, hc, _, hle, _⟩
    · cases e
    · cases e
      omega
  have hnl : ∀ x, normD (ruleD T.data.toList) V.data.toList = some x → x.length ≤ 1000000 := fun x hx => Nat.le_trans (normD_len hx) (by omega)
  obtain ⟨o, ho⟩ : ∃ o, o = normD (ruleD T.data.toList) V.data.toList := ⟨_, rfl⟩
  rw [← ho] at hR hnm hnl
  have HNm := Lib.hid hnm
  have HR := Lib.hid hR
  cases o with
  | none =>
    clear hnm hR hP hP' hb hcell ho
    go_enter Tryz.func86, Tryz.ntmps86
    go_wp2_with (go_at_call 59; refine (HNm.out).mono ?_; rintro e w2 ⟨rfl, hb2⟩; have HB := Lib.hid hb2; clear hb2; unfold saidP)
    go_ret
    exact ⟨by rw [HR.out]; rfl, HB.out⟩
  | some x =>
    obtain ⟨N, hN⟩ : ∃ N : ByteArray, N = ⟨x.toArray⟩ := ⟨_, rfl⟩
    have hNl : N.data.toList = x := by rw [hN]
    have hNs : N.size ≤ 1000000 := by rw [← bytes_len, hNl]; exact hnl x rfl
    have hmd := fun W (hW : Below w.heap.size w W) => madeOf_any N hNs q g 0 cp q.length W (hX.below hW) rfl (by omega) (by omega) hcp hqp (fun j h => by rw [Nat.zero_add]; exact (hW.cell (p := ⟨g, j, none⟩) hg1).trans (hcell j h)) (Nat.lt_of_lt_of_le hg1 hW.size)
    rw [hNl] at hmd
    have hR2 : R = madeO x q := by rw [hR, hq]
    rw [← hR2] at hmd
    have HMd := Lib.hid hmd
    have hsv : saidP (some x) = .tuple #[.string N, .bool true] := by rw [hN]; rfl
    rw [hsv] at HNm
    have p0' := fun W (hW : Below w.heap.size w W) => (hW.cell (p := ⟨w0.heap.size + 1, 0, none⟩) (pv_lt hP'.pv)).trans p0
    have HP0 := Lib.hid p0'
    obtain ⟨ql, hqq⟩ : ∃ n, n = q.length := ⟨_, rfl⟩
    rw [← hqq] at HMd HP0 p0
    clear hnm hR hP hP' hb hcell ho hmd hsv hN hNl hR2 p0' hqq
    go_enter Tryz.func86, Tryz.ntmps86
    go_wp2_with (first
      | (go_at_call 59; refine (HNm.out).mono ?_; rintro e w2 ⟨rfl, hb2⟩; have HB := Lib.hid hb2; have p2 := HP0.out _ hb2; clear hb2)
      | (go_at_call 87; refine (HMd.out _ HB.out).mono ?_; rintro e w3 ⟨rfl, hb3⟩; have HB3 := Lib.hid (bthen HB.out hb3); clear hb3))
    go_ret
    exact ⟨rfl, HB3.out⟩
end Go.Proofs.YtdgnefcpeocbjaaGreatDoor

/- eval's questions, some, mayAsk, fits, leaf: the walks. (Written by tools/gen_evfit.py.) -/
namespace Go.Proofs.YtdgnefcpeocbjaaGreatDoor
open Go.RowKit
set_option linter.unusedVariables false
set_option linter.unusedSimpArgs false

set_option maxRecDepth 100000 in
set_option maxHeartbeats 2000000 in
theorem askG_any (T X V : ByteArray) (x0 x3 x4 : Value) (b : Nat) (hX : X.size ≤ 281474976710656) (hV : V.size ≤ 281474976710656) (w : World) (hw : LaidW w) (hf : FlAt w b x0 (.string T) (.string X) x3 x4) :
    Calls Tryz.prog 65 #[.string V, .pointer (some ⟨b, 0, none⟩)] w fun e w' => e = .returned (.bool (aboveE (ruleD T.data.toList) V.data.toList X.data.toList)) ∧ Below w.heap.size w w' := by
  have hn := notBelow_any T V X (by omega) (by omega) w hw
  obtain ⟨c0, c1, c2, c3, c4⟩ := fl_cells hf
  have HN := Lib.hid hn
  clear hn hf
  go_enter Tryz.func65, Tryz.ntmps65
  go_wp2_with (go_at_call 66; refine (HN.out).mono ?_; rintro e w2 ⟨rfl, hb2⟩; have HB := Lib.hid hb2; clear hb2)
  go_ret
  exact ⟨rfl, HB.out⟩
set_option maxRecDepth 100000 in
set_option maxHeartbeats 2000000 in
theorem askL_any (T X V : ByteArray) (x0 x3 x4 : Value) (b : Nat) (hX : X.size ≤ 281474976710656) (hV : V.size ≤ 281474976710656) (w : World) (hw : LaidW w) (hf : FlAt w b x0 (.string T) (.string X) x3 x4) :
    Calls Tryz.prog 67 #[.string V, .pointer (some ⟨b, 0, none⟩)] w fun e w' => e = .returned (.bool (aboveE (ruleD T.data.toList) X.data.toList V.data.toList)) ∧ Below w.heap.size w w' := by
  have hn := notBelow_any T X V (by omega) (by omega) w hw
  obtain ⟨c0, c1, c2, c3, c4⟩ := fl_cells hf
  have HN := Lib.hid hn
  clear hn hf
  go_enter Tryz.func67, Tryz.ntmps67
  go_wp2_with (go_at_call 66; refine (HN.out).mono ?_; rintro e w2 ⟨rfl, hb2⟩; have HB := Lib.hid hb2; clear hb2)
  go_ret
  exact ⟨rfl, HB.out⟩
set_option maxRecDepth 100000 in
set_option maxHeartbeats 2000000 in
theorem someG_any (d T : ByteArray) (L : List AT) (hs : smallA L) (va : Option Addr) (vn vc : Nat) (b1 : Nat) (q : List UInt8 → Bool) (w : World) (h : IsA w.heap.size w L (.slice va vn vc))
    (HQ : ∀ (X : ByteArray) (W : World), Below w.heap.size w W → X.data.toList ∈ findA L T.data.toList → Calls Tryz.prog 65 #[.string X, .pointer (some ⟨b1, 0, none⟩)] W fun e w' => e = .returned (.bool (q X.data.toList)) ∧ Below W.heap.size W w') :
    Calls Tryz.prog 64 #[.agg #[.string d, .slice va vn vc], .string T, .func (.func 65) #[] #[.pointer (some ⟨b1, 0, none⟩)]] w fun e w' => e = .returned (.bool ((findA L T.data.toList).any q)) ∧ Below w.heap.size w w' := by
  have hfl : (findA L T.data.toList).length ≤ 1000000 := by
    unfold findA
    split
    · rename_i a ha
      have := ((hs.2 a (List.mem_of_find?_eq_some ha)).2).1
      omega
    · simp
  obtain ⟨W1, hW1⟩ : ∃ W, W = w.alloc (.cells #[.string d, .slice va vn vc] 28) := ⟨_, rfl⟩
  have hb1 : Below w.heap.size w W1 := by rw [hW1]; exact (Below.refl _ _).alloc (Nat.le_refl _) _
  have hv1 := vals_any d L hs (.slice va vn vc) T W1 (h.below hb1 hb1.size)
  have HV := Lib.hid hv1
  have HC := Lib.hid (fun (u : Value) (W : World) (hW : Below w.heap.size w W) (hu : IsT W.heap.size W (findA L T.data.toList) u) => containsQG_any (findA L T.data.toList) hfl u b1 q W hu (fun X W' hW' hm => HQ X W' (bthen hW hW') hm))
  have HB1 := Lib.hid hb1
  have HW1 := Lib.hid hW1.symm
  have HFl := Lib.hid hfl
  clear hW1 hb1 hv1 HQ h hfl
  go_enter Tryz.func64, Tryz.ntmps64
  go_upto_region 1 with (fail)
  rw [HW1.out]
  have e0 : W1.cell? ⟨w.heap.size, 0, none⟩ = some (.string d) ∧ W1.cell? ⟨w.heap.size, 1, none⟩ = some (.slice va vn vc) := by
    have := heap_alloc_new w (.cells #[.string d, .slice va vn vc] 28)
    rw [HW1.out] at this
    exact ⟨by simp [World.cell?, this], by simp [World.cell?, this]⟩
  obtain ⟨e0, e1⟩ := e0
  go_wp2_with (first
    | (go_at_call 69; refine (HV.out).mono ?_; rintro e w2 ⟨u, rfl, hown, hb2⟩; have HB2 := Lib.hid (bthen HB1.out hb2); have HU := Lib.hid (ownS_isT hown (by have := HFl.out; unfold maxLen; omega)); clear hown hb2)
    | (go_at_call 81; refine (HC.out _ _ HB2.out HU.out).mono ?_; rintro e w3 ⟨rfl, hb3⟩; have HB3 := Lib.hid (bthen HB2.out hb3); clear hb3))
  go_ret
  exact ⟨rfl, HB3.out⟩
set_option maxRecDepth 100000 in
set_option maxHeartbeats 2000000 in
theorem someL_any (d T : ByteArray) (L : List AT) (hs : smallA L) (va : Option Addr) (vn vc : Nat) (b1 : Nat) (q : List UInt8 → Bool) (w : World) (h : IsA w.heap.size w L (.slice va vn vc))
    (HQ : ∀ (X : ByteArray) (W : World), Below w.heap.size w W → X.data.toList ∈ findA L T.data.toList → Calls Tryz.prog 67 #[.string X, .pointer (some ⟨b1, 0, none⟩)] W fun e w' => e = .returned (.bool (q X.data.toList)) ∧ Below W.heap.size W w') :
    Calls Tryz.prog 64 #[.agg #[.string d, .slice va vn vc], .string T, .func (.func 67) #[] #[.pointer (some ⟨b1, 0, none⟩)]] w fun e w' => e = .returned (.bool ((findA L T.data.toList).any q)) ∧ Below w.heap.size w w' := by
  have hfl : (findA L T.data.toList).length ≤ 1000000 := by
    unfold findA
    split
    · rename_i a ha
      have := ((hs.2 a (List.mem_of_find?_eq_some ha)).2).1
      omega
    · simp
  obtain ⟨W1, hW1⟩ : ∃ W, W = w.alloc (.cells #[.string d, .slice va vn vc] 28) := ⟨_, rfl⟩
  have hb1 : Below w.heap.size w W1 := by rw [hW1]; exact (Below.refl _ _).alloc (Nat.le_refl _) _
  have hv1 := vals_any d L hs (.slice va vn vc) T W1 (h.below hb1 hb1.size)
  have HV := Lib.hid hv1
  have HC := Lib.hid (fun (u : Value) (W : World) (hW : Below w.heap.size w W) (hu : IsT W.heap.size W (findA L T.data.toList) u) => containsQL_any (findA L T.data.toList) hfl u b1 q W hu (fun X W' hW' hm => HQ X W' (bthen hW hW') hm))
  have HB1 := Lib.hid hb1
  have HW1 := Lib.hid hW1.symm
  have HFl := Lib.hid hfl
  clear hW1 hb1 hv1 HQ h hfl
  go_enter Tryz.func64, Tryz.ntmps64
  go_upto_region 1 with (fail)
  rw [HW1.out]
  have e0 : W1.cell? ⟨w.heap.size, 0, none⟩ = some (.string d) ∧ W1.cell? ⟨w.heap.size, 1, none⟩ = some (.slice va vn vc) := by
    have := heap_alloc_new w (.cells #[.string d, .slice va vn vc] 28)
    rw [HW1.out] at this
    exact ⟨by simp [World.cell?, this], by simp [World.cell?, this]⟩
  obtain ⟨e0, e1⟩ := e0
  go_wp2_with (first
    | (go_at_call 69; refine (HV.out).mono ?_; rintro e w2 ⟨u, rfl, hown, hb2⟩; have HB2 := Lib.hid (bthen HB1.out hb2); have HU := Lib.hid (ownS_isT hown (by have := HFl.out; unfold maxLen; omega)); clear hown hb2)
    | (go_at_call 81; refine (HC.out _ _ HB2.out HU.out).mono ?_; rintro e w3 ⟨rfl, hb3⟩; have HB3 := Lib.hid (bthen HB2.out hb3); clear hb3))
  go_ret
  exact ⟨rfl, HB3.out⟩
set_option maxRecDepth 100000 in
set_option maxHeartbeats 2000000 in
theorem someP_any (d T : ByteArray) (L : List AT) (hs : smallA L) (va : Option Addr) (vn vc : Nat) (b1 b2 : Nat) (q : List UInt8 → Bool) (w : World) (h : IsA w.heap.size w L (.slice va vn vc))
    (HQ : ∀ (X : ByteArray) (W : World), Below w.heap.size w W → X.data.toList ∈ findA L T.data.toList → Calls Tryz.prog 86 #[.string X, .pointer (some ⟨b1, 0, none⟩), .pointer (some ⟨b2, 0, none⟩)] W fun e w' => e = .returned (.bool (q X.data.toList)) ∧ Below W.heap.size W w') :
    Calls Tryz.prog 64 #[.agg #[.string d, .slice va vn vc], .string T, .func (.func 86) #[] #[.pointer (some ⟨b1, 0, none⟩), .pointer (some ⟨b2, 0, none⟩)]] w fun e w' => e = .returned (.bool ((findA L T.data.toList).any q)) ∧ Below w.heap.size w w' := by
  have hfl : (findA L T.data.toList).length ≤ 1000000 := by
    unfold findA
    split
    · rename_i a ha
      have := ((hs.2 a (List.mem_of_find?_eq_some ha)).2).1
      omega
    · simp
  obtain ⟨W1, hW1⟩ : ∃ W, W = w.alloc (.cells #[.string d, .slice va vn vc] 28) := ⟨_, rfl⟩
  have hb1 : Below w.heap.size w W1 := by rw [hW1]; exact (Below.refl _ _).alloc (Nat.le_refl _) _
  have hv1 := vals_any d L hs (.slice va vn vc) T W1 (h.below hb1 hb1.size)
  have HV := Lib.hid hv1
  have HC := Lib.hid (fun (u : Value) (W : World) (hW : Below w.heap.size w W) (hu : IsT W.heap.size W (findA L T.data.toList) u) => containsQP_any (findA L T.data.toList) hfl u b1 b2 q W hu (fun X W' hW' hm => HQ X W' (bthen hW hW') hm))
  have HB1 := Lib.hid hb1
  have HW1 := Lib.hid hW1.symm
  have HFl := Lib.hid hfl
  clear hW1 hb1 hv1 HQ h hfl
  go_enter Tryz.func64, Tryz.ntmps64
  go_upto_region 1 with (fail)
  rw [HW1.out]
  have e0 : W1.cell? ⟨w.heap.size, 0, none⟩ = some (.string d) ∧ W1.cell? ⟨w.heap.size, 1, none⟩ = some (.slice va vn vc) := by
    have := heap_alloc_new w (.cells #[.string d, .slice va vn vc] 28)
    rw [HW1.out] at this
    exact ⟨by simp [World.cell?, this], by simp [World.cell?, this]⟩
  obtain ⟨e0, e1⟩ := e0
  go_wp2_with (first
    | (go_at_call 69; refine (HV.out).mono ?_; rintro e w2 ⟨u, rfl, hown, hb2⟩; have HB2 := Lib.hid (bthen HB1.out hb2); have HU := Lib.hid (ownS_isT hown (by have := HFl.out; unfold maxLen; omega)); clear hown hb2)
    | (go_at_call 81; refine (HC.out _ _ HB2.out HU.out).mono ?_; rintro e w3 ⟨rfl, hb3⟩; have HB3 := Lib.hid (bthen HB2.out hb3); clear hb3))
  go_ret
  exact ⟨rfl, HB3.out⟩
set_option maxRecDepth 100000 in
set_option maxHeartbeats 4000000 in
theorem mayAsk_any (k : Int) (T X : ByteArray) (x3 x4 : Value) (hX : X.size ≤ 281474976710656) (s3 : ∃ a n c, x3 = .slice a n c) (s4 : ∃ a n c, x4 = .slice a n c) (w : World) (hw : LaidW w) :
    Calls Tryz.prog 49 #[.agg #[.int .i64 k, .string T, .string X, x3, x4]] w fun e w' => e = .returned (.bool (askE k T.data.toList X.data.toList)) ∧ Below w.heap.size w w' := by
  obtain ⟨a3, n3, c3, rfl⟩ := s3
  obtain ⟨a4, n4, c4, rfl⟩ := s4
  obtain ⟨W1, hW1⟩ : ∃ W, W = w.alloc (.cells #[.int .i64 k, .string T, .string X, .slice a3 n3 c3, .slice a4 n4 c4] 25) := ⟨_, rfl⟩
  have hb1 : Below w.heap.size w W1 := by rw [hW1]; exact box5 w _ _ _ _ _
  have hf : FlAt W1 w.heap.size (.int .i64 k) (.string T) (.string X) (.slice a3 n3 c3) (.slice a4 n4 c4) := by rw [hW1]; exact heap_alloc_new w _
  obtain ⟨d0, d1, d2, d3, d4⟩ := fl_cells hf
  have HW1 := Lib.hid hW1.symm
  have HB1 := Lib.hid hb1
  have HNm := Lib.hid (norm_any T X W1 (hw.below hb1))
  have HLs := Lib.hid (lessFl_any T X X hX hX W1 (hw.below hb1))
  have HRu := Lib.hid (rule_any T W1)
  have HCa := Lib.hid (canon_any T W1)
  obtain ⟨R, hR⟩ : ∃ R, R = askE k T.data.toList X.data.toList := ⟨_, rfl⟩
  rw [← hR]
  unfold askE at hR
  have HR := Lib.hid hR
  clear hW1 hb1 hf hR hw
  by_cases k4 : k = 4
  · have t4 : ((k : Int) == 4) = true := by simp [k4]
    have HR2 : Hid (R = (normD (ruleD T.data.toList) X.data.toList).isSome) := Lib.hid (by rw [HR.out, if_pos k4])
    obtain ⟨o, ho⟩ : ∃ o, o = normD (ruleD T.data.toList) X.data.toList := ⟨_, rfl⟩
    rw [← ho] at HNm HR2
    clear ho k4
    cases o with
    | none =>
      go_enter Tryz.func49, Tryz.ntmps49
      go_upto_region 1 with (fail)
      rw [HW1.out]
      go_wp2_with (go_at_call 59; refine (HNm.out).mono ?_; rintro e w2 ⟨rfl, hb2⟩; have HB2 := Lib.hid (bthen HB1.out hb2); clear hb2; unfold saidP)
      go_ret
      exact ⟨by rw [HR2.out]; rfl, HB2.out⟩
    | some y =>
      go_enter Tryz.func49, Tryz.ntmps49
      go_upto_region 1 with (fail)
      rw [HW1.out]
      go_wp2_with (go_at_call 59; refine (HNm.out).mono ?_; rintro e w2 ⟨rfl, hb2⟩; have HB2 := Lib.hid (bthen HB1.out hb2); clear hb2; unfold saidP)
      go_ret
      exact ⟨by rw [HR2.out]; rfl, HB2.out⟩
  · have t4 : ((k : Int) == 4) = false := by simp; omega
    by_cases k67 : k = 6 ∨ k = 7
    · have HR2 : Hid (R = (lessD (ruleD T.data.toList) X.data.toList X.data.toList).isSome) := Lib.hid (by rw [HR.out, if_neg k4, if_pos k67])
      obtain ⟨o, ho⟩ : ∃ o, o = lessD (ruleD T.data.toList) X.data.toList X.data.toList := ⟨_, rfl⟩
      rw [← ho] at HLs HR2
      clear ho
      obtain ⟨b6, t6⟩ : ∃ b, ((k : Int) == 6) = b := ⟨_, rfl⟩
      obtain ⟨b7, t7⟩ : ∃ b, ((k : Int) == 7) = b := ⟨_, rfl⟩
      have hor : b6 = true ∨ b7 = true := by rcases k67 with h | h <;> subst h <;> simp [← t6, ← t7]
      clear k4 k67
      cases b6 with
      | true =>
        clear hor
        cases o with
        | none =>
          go_enter Tryz.func49, Tryz.ntmps49
          go_upto_region 1 with (fail)
          rw [HW1.out]
          go_wp2_with (go_at_call 60; refine (HLs.out).mono ?_; rintro e w2 ⟨rfl, hb2⟩; have HB2 := Lib.hid (bthen HB1.out hb2); clear hb2; unfold lessV)
          go_ret
          exact ⟨by rw [HR2.out]; rfl, HB2.out⟩
        | some y =>
          go_enter Tryz.func49, Tryz.ntmps49
          go_upto_region 1 with (fail)
          rw [HW1.out]
          go_wp2_with (go_at_call 60; refine (HLs.out).mono ?_; rintro e w2 ⟨rfl, hb2⟩; have HB2 := Lib.hid (bthen HB1.out hb2); clear hb2; unfold lessV)
          go_ret
          exact ⟨by rw [HR2.out]; rfl, HB2.out⟩
      | false =>
        have hb7 : b7 = true := by simpa using hor
        subst hb7
        clear hor
        cases o with
        | none =>
          go_enter Tryz.func49, Tryz.ntmps49
          go_upto_region 1 with (fail)
          rw [HW1.out]
          go_wp2_with (go_at_call 60; refine (HLs.out).mono ?_; rintro e w2 ⟨rfl, hb2⟩; have HB2 := Lib.hid (bthen HB1.out hb2); clear hb2; unfold lessV)
          go_ret
          exact ⟨by rw [HR2.out]; rfl, HB2.out⟩
        | some y =>
          go_enter Tryz.func49, Tryz.ntmps49
          go_upto_region 1 with (fail)
          rw [HW1.out]
          go_wp2_with (go_at_call 60; refine (HLs.out).mono ?_; rintro e w2 ⟨rfl, hb2⟩; have HB2 := Lib.hid (bthen HB1.out hb2); clear hb2; unfold lessV)
          go_ret
          exact ⟨by rw [HR2.out]; rfl, HB2.out⟩
    · have t6 : ((k : Int) == 6) = false := by simp; omega
      have t7 : ((k : Int) == 7) = false := by simp; omega
      by_cases k5 : k = 5
      · have t5 : ((k : Int) == 5) = true := by simp [k5]
        have HR2 : Hid (R = decide (ruleD T.data.toList = 1)) := Lib.hid (by rw [HR.out, if_neg k4, if_neg k67, if_pos k5])
        obtain ⟨o, ho⟩ : ∃ o, o = ruleD T.data.toList := ⟨_, rfl⟩
        rw [← ho] at HRu HR2
        have HD : Hid (decide (o = 1) = ((o : Int) == 1)) := Lib.hid (by rw [Bool.eq_iff_iff]; simp; omega)
        clear ho k4 k5 k67
        go_enter Tryz.func49, Tryz.ntmps49
        go_upto_region 1 with (fail)
        rw [HW1.out]
        go_wp2_with (go_at_call 61; refine (HRu.out).mono ?_; rintro e w2 ⟨rfl, hb2⟩; have HB2 := Lib.hid (bthen HB1.out hb2); clear hb2)
        go_ret
        exact ⟨by rw [HR2.out, HD.out]; rfl, HB2.out⟩
      · have t5 : ((k : Int) == 5) = false := by simp; omega
        have HR2 : Hid (R = (canonD T.data.toList).isSome) := Lib.hid (by rw [HR.out, if_neg k4, if_neg k67, if_neg k5])
        obtain ⟨o, ho⟩ : ∃ o, o = canonD T.data.toList := ⟨_, rfl⟩
        rw [← ho] at HCa HR2
        clear ho k4 k5 k67
        cases o with
        | none =>
          go_enter Tryz.func49, Tryz.ntmps49
          go_upto_region 1 with (fail)
          rw [HW1.out]
          go_wp2_with (go_at_call 62; refine (HCa.out).mono ?_; rintro e w2 ⟨rfl, hb2⟩; have HB2 := Lib.hid (bthen HB1.out hb2); clear hb2; unfold canonV)
          go_ret
          exact ⟨by rw [HR2.out]; rfl, HB2.out⟩
        | some y =>
          go_enter Tryz.func49, Tryz.ntmps49
          go_upto_region 1 with (fail)
          rw [HW1.out]
          go_wp2_with (go_at_call 62; refine (HCa.out).mono ?_; rintro e w2 ⟨rfl, hb2⟩; have HB2 := Lib.hid (bthen HB1.out hb2); clear hb2; unfold canonV)
          go_ret
          exact ⟨by rw [HR2.out]; rfl, HB2.out⟩
theorem findA_short {L : List AT} {t : List UInt8} (hs : smallA L) : ∀ x ∈ findA L t, x.length ≤ 1000000 := by
  unfold findA
  intro x hx
  split at hx
  · rename_i a ha
    exact ((hs.2 a (List.mem_of_find?_eq_some ha)).2).2 x hx
  · cases hx
set_option maxRecDepth 100000 in
set_option maxHeartbeats 8000000 in
theorem fits_any (k : Int) (T X d : ByteArray) (p : List (List UInt8)) (L : List AT) (pa ka va : Option Addr) (n pc kn kc vn vc : Nat) (hX : X.size ≤ 1000000) (hn : n = p.length) (hp5 : k = 5 → 2 ≤ p.length) (hp3 : p.length ≤ 1000) (hpl : ∀ x ∈ p, x.length ≤ 1000000)
    (hs : smallA L) (w : World) (hw : LaidW w) (hx : LaidX w) (hp : IsTo (Lt w) w p (.slice pa n pc)) (h : IsA w.heap.size w L (.slice va vn vc)) :
    Calls Tryz.prog 50 #[.agg #[.int .i64 k, .string T, .string X, .slice pa n pc, .slice ka kn kc], .agg #[.string d, .slice va vn vc]] w fun e w' => e = .returned (.bool (fitE L k T.data.toList X.data.toList p)) ∧ Below w.heap.size w w' := by
  have hmf : ∀ (fn : Fn) (first cap : Array Value) (w : World), (Instr.makeFunc fn first cap).run Tryz.prog w = .ok (.func fn first cap) w := fun _ _ _ _ => rfl
  obtain ⟨W0, hW0⟩ : ∃ W, W = w.alloc (.cells #[.int .i64 k, .string T, .string X, .slice pa n pc, .slice ka kn kc] 25) := ⟨_, rfl⟩
  obtain ⟨W1, hW1⟩ : ∃ W, W = W0.alloc (.cells #[.string d, .slice va vn vc] 28) := ⟨_, rfl⟩
  have hb0 : Below w.heap.size w W0 := by rw [hW0]; exact box5 w _ _ _ _ _
  have hb01 : Below W0.heap.size W0 W1 := by rw [hW1]; exact (Below.refl _ _).alloc (Nat.le_refl _) _
  have hb1 : Below w.heap.size w W1 := bthen hb0 hb01
  have hf0 : FlAt W0 w.heap.size (.int .i64 k) (.string T) (.string X) (.slice pa n pc) (.slice ka kn kc) := by rw [hW0]; exact heap_alloc_new w _
  have hf : FlAt W1 w.heap.size (.int .i64 k) (.string T) (.string X) (.slice pa n pc) (.slice ka kn kc) := fl_below hf0 hb01 (fl_lt hf0)
  obtain ⟨eb, heb⟩ : ∃ b, b = w.heap.size + 1 := ⟨_, rfl⟩
  have hsz : W0.heap.size = eb := by rw [heb, hW0]; simp only [World.alloc, Array.size_push]
  have he : W1.heap[eb]? = some (.cells #[.string d, .slice va vn vc] 28 (0, 0)) := by rw [← hsz, hW1]; exact heap_alloc_new W0 _
  have hebl : eb < W1.heap.size := (Array.getElem?_eq_some_iff.1 he).1
  have hE : ∀ W, SamB W1 W → W.cell? ⟨w.heap.size, 0, none⟩ = some (.int .i64 k) ∧ W.cell? ⟨w.heap.size, 1, none⟩ = some (.string T) ∧ W.cell? ⟨w.heap.size, 2, none⟩ = some (.string X) ∧ W.cell? ⟨w.heap.size, 3, none⟩ = some (.slice pa n pc) ∧ W.cell? ⟨w.heap.size, 4, none⟩ = some (.slice ka kn kc) ∧ W.cell? ⟨eb, 0, none⟩ = some (.string d) ∧ W.cell? ⟨eb, 1, none⟩ = some (.slice va vn vc) ∧ SamB W1 W := fun W hW => by
    obtain ⟨a0, a1, a2, a3, a4⟩ := fl_cells (fl_below hf hW (fl_lt hf))
    have := (Below.block hW eb hebl).trans he
    exact ⟨a0, a1, a2, a3, a4, by simp [World.cell?, this], by simp [World.cell?, this], hW⟩
  have hA1 : IsA W1.heap.size W1 L (.slice va vn vc) := h.below hb1 hb1.size
  have HE := Lib.hid hE
  have HW0 := Lib.hid hW0.symm
  have HW1 := Lib.hid hW1.symm
  have HEb := Lib.hid heb.symm
  have HB1 := Lib.hid hb1
  have hw1 := hw.below hb1
  have hx1 := hx.below hb1
  have hp1 : IsTo (Lt W1) W1 p (.slice pa n pc) := hp.imp (fun b h => Nat.lt_of_lt_of_le h hb1.size) (fun b o h => hb1.cell (p := ⟨b, o, none⟩) h)
  have hsv := findA_short (t := T.data.toList) hs
  have HHas := Lib.hid (has_any d T X L hs (.slice va vn vc) W1 hw1 hA1)
  have HG := Lib.hid (someG_any d T L hs va vn vc w.heap.size (fun v => aboveE (ruleD T.data.toList) v X.data.toList) W1 hA1 (fun V W hW hm => askG_any T X V (.int .i64 k) (.slice pa n pc) (.slice ka kn kc) w.heap.size (by omega) (by have := hsv _ hm; rw [bytes_len] at this; omega) W (hw1.below hW) (fl_below hf hW (fl_lt hf))))
  have HLl := Lib.hid (someL_any d T L hs va vn vc w.heap.size (fun v => aboveE (ruleD T.data.toList) X.data.toList v) W1 hA1 (fun V W hW hm => askL_any T X V (.int .i64 k) (.slice pa n pc) (.slice ka kn kc) w.heap.size (by omega) (by have := hsv _ hm; rw [bytes_len] at this; omega) W (hw1.below hW) (fl_below hf hW (fl_lt hf))))
  have HPr := Lib.hid (fun (W : World) (hW : SamB W1 W) => hasParts_any k T X p pa ka n pc kn kc W hn (by omega) hpl (hp1.imp (fun b h => Nat.lt_of_lt_of_le h (Below.size hW)) (fun b o h => Below.cell (p := ⟨b, o, none⟩) hW h)))
  have HSo := Lib.hid (fun (h5 : k = 5) (N : Nat) (W wx : World) (v : Value) (hN : N = W.heap.size) (hW : SamB W1 wx) (hP : PrtAt W wx (.int .i64 k) (.string T) (.string X) (.slice pa n pc) (.slice ka kn kc) v (p.map low)) => someP_any d T L hs va vn vc N (N + 1) (partsE (ruleD T.data.toList) p) wx (hA1.below hW (Below.size hW)) (fun V W' hW' hm => askParts_any k T X V p _ _ _ _ v (p.map low) W wx W' (hw1.below (bthen hW hW')) (hx1.below (bthen hW hW')) hP hW' rfl (hp5 h5) hp3 hpl (by have := hsv _ hm; rw [bytes_len] at this; omega) hN (by rw [hN])))
  have HV := Lib.hid (vals_any d L hs (.slice va vn vc) T W1 hA1)
  obtain ⟨R, hR⟩ : ∃ R, R = fitE L k T.data.toList X.data.toList p := ⟨_, rfl⟩
  rw [← hR]
  unfold fitE at hR
  have HR := Lib.hid hR
  have hst5 := hE W1 (Below.refl _ _)
  have hst6 := hE W1.drew (Below.drew (Below.refl _ _))
  obtain ⟨d0, d1, d2, d3, d4, e0, e1, _⟩ := hE W1 (Below.refl _ _)
  clear hW0 hW1 hb0 hb01 hb1 hf0 hf heb hsz he hebl hE hA1 hw1 hx1 hp1 hsv hR hs hw hx hp h hpl hp3 hX hn
  by_cases k4 : k = 4
  · have t4 : ((k : Int) == 4) = true := by simp [k4]
    have HR2 : Hid (hasA L T.data.toList X.data.toList = R) := Lib.hid (by rw [HR.out, if_pos k4])
    rw [HR2.out] at HHas
    clear k4 hp5 hst5 hst6
    go_enter Tryz.func50, Tryz.ntmps50
    go_upto_region 1 with (fail)
    rw [HW0.out, HW1.out, HEb.out]
    go_wp2_with (go_at_call 63; refine (HHas.out).mono ?_; rintro e w2 ⟨rfl, hb2⟩; have HB2 := Lib.hid (bthen HB1.out hb2); clear hb2)
    go_ret
    exact ⟨rfl, HB2.out⟩
  · have t4 : ((k : Int) == 4) = false := by simp; omega
    by_cases k6 : k = 6
    · have t6 : ((k : Int) == 6) = true := by simp [k6]
      have HR2 : Hid ((findA L T.data.toList).any (fun v => aboveE (ruleD T.data.toList) v X.data.toList) = R) := Lib.hid (by rw [HR.out, if_neg k4, if_pos k6])
      rw [HR2.out] at HG
      clear k4 k6 hp5 hst5 hst6
      go_enter Tryz.func50, Tryz.ntmps50
      go_upto_region 1 with (fail)
      rw [HW0.out, HW1.out, HEb.out]
      go_wp2_with (go_at_call 64; refine (HG.out).mono ?_; rintro e w2 ⟨rfl, hb2⟩; have HB2 := Lib.hid (bthen HB1.out hb2); clear hb2)
      go_ret
      exact ⟨rfl, HB2.out⟩
    · have t6 : ((k : Int) == 6) = false := by simp; omega
      by_cases k7 : k = 7
      · have t7 : ((k : Int) == 7) = true := by simp [k7]
        have HR2 : Hid ((findA L T.data.toList).any (fun v => aboveE (ruleD T.data.toList) X.data.toList v) = R) := Lib.hid (by rw [HR.out, if_neg k4, if_neg k6, if_pos k7])
        rw [HR2.out] at HLl
        clear k4 k6 k7 hp5 hst5 hst6
        go_enter Tryz.func50, Tryz.ntmps50
        go_upto_region 1 with (fail)
        rw [HW0.out, HW1.out, HEb.out]
        go_wp2_with (go_at_call 64; refine (HLl.out).mono ?_; rintro e w2 ⟨rfl, hb2⟩; have HB2 := Lib.hid (bthen HB1.out hb2); clear hb2)
        go_ret
        exact ⟨rfl, HB2.out⟩
      · have t7 : ((k : Int) == 7) = false := by simp; omega
        by_cases k5 : k = 5
        · have t5 : ((k : Int) == 5) = true := by simp [k5]
          have HR2 : Hid ((findA L T.data.toList).any (partsE (ruleD T.data.toList) p) = R) := Lib.hid (by rw [HR.out, if_neg k4, if_neg k6, if_neg k7, if_pos k5])
          have HK := Lib.hid k5
          clear k4 k5 k6 k7 hp5
          go_enter Tryz.func50, Tryz.ntmps50
          go_upto_region 1 with (fail)
          rw [HW0.out, HW1.out, HEb.out]
          go_upto_region 9 with (fail)
          go_region_held3 (fun W => W.cell? ⟨w.heap.size, 0, none⟩ = some (.int .i64 k) ∧ W.cell? ⟨w.heap.size, 1, none⟩ = some (.string T) ∧ W.cell? ⟨w.heap.size, 2, none⟩ = some (.string X) ∧ W.cell? ⟨w.heap.size, 3, none⟩ = some (.slice pa n pc) ∧ W.cell? ⟨w.heap.size, 4, none⟩ = some (.slice ka kn kc) ∧ W.cell? ⟨eb, 0, none⟩ = some (.string d) ∧ W.cell? ⟨eb, 1, none⟩ = some (.slice va vn vc) ∧ SamB W1 W)
            (first | (with_reducible exact hst5) | (with_reducible exact hst6) | (go_split_ands; exact HE.out _ (SamB.go (by assumption) hbx)))
            (first
              | (go_at_call 68; go_split_ands; (with_reducible refine (HPr.out _ (by assumption)).mono ?_); rintro e wx ⟨v, rfl, hprt⟩; have hbx := hprt.bel; have HPt := Lib.hid hprt; clear hprt)
              | (go_at_call 64; go_split_ands; (with_reducible refine (HSo.out HK.out W1.heap.size W1.drew wx v rfl (by assumption) HPt.out).mono ?_); rintro e wy ⟨rfl, hbx⟩))
          all_goals
            go_split_ands
            have hT : SamB W1 wy := by assumption
            go_wp2
            go_ret
            exact ⟨by rw [← HR2.out]; rfl, bthen HB1.out hT⟩
        · have t5 : ((k : Int) == 5) = false := by simp; omega
          have HR2 : Hid (decide (0 < (findA L T.data.toList).length) = R) := Lib.hid (by rw [HR.out, if_neg k4, if_neg k6, if_neg k7, if_neg k5])
          obtain ⟨m, hm⟩ : ∃ m, m = (findA L T.data.toList).length := ⟨_, rfl⟩
          rw [← hm] at HR2
          have HM := Lib.hid hm
          clear k4 k5 k6 k7 hp5 hst5 hst6 hm
          go_enter Tryz.func50, Tryz.ntmps50
          go_upto_region 1 with (fail)
          rw [HW0.out, HW1.out, HEb.out]
          go_wp2_with (go_at_call 69; refine (HV.out).mono ?_; rintro e w2 ⟨u, rfl, hu, hb2⟩; (obtain ⟨ua, uc, hue⟩ := ownS_slice hu); rw [← HM.out] at hue; subst hue; have HB2 := Lib.hid (bthen HB1.out hb2); clear hb2 hu)
          go_ret
          exact ⟨by rw [← HR2.out]; simp, HB2.out⟩
set_option maxRecDepth 100000 in
set_option maxHeartbeats 4000000 in
theorem leafEv_any (k : Int) (T X d : ByteArray) (p : List (List UInt8)) (L : List AT) (pa ka va : Option Addr) (n pc kn kc vn vc : Nat) (hX : X.size ≤ 1000000) (hn : n = p.length) (hp5 : k = 5 → 2 ≤ p.length) (hp3 : p.length ≤ 1000) (hpl : ∀ x ∈ p, x.length ≤ 1000000)
    (hs : smallA L) (w : World) (hw : LaidW w) (hx : LaidX w) (hp : IsTo (Lt w) w p (.slice pa n pc)) (h : IsA w.heap.size w L (.slice va vn vc)) :
    Calls Tryz.prog 36 #[.agg #[.int .i64 k, .string T, .string X, .slice pa n pc, .slice ka kn kc], .agg #[.string d, .slice va vn vc]] w fun e w' => e = .returned (.int .i64 (leafE L k T.data.toList X.data.toList p : Nat)) ∧ Below w.heap.size w w' := by
  obtain ⟨W0, hW0⟩ : ∃ W, W = w.alloc (.cells #[.int .i64 k, .string T, .string X, .slice pa n pc, .slice ka kn kc] 25) := ⟨_, rfl⟩
  obtain ⟨W1, hW1⟩ : ∃ W, W = W0.alloc (.cells #[.string d, .slice va vn vc] 28) := ⟨_, rfl⟩
  have hb0 : Below w.heap.size w W0 := by rw [hW0]; exact box5 w _ _ _ _ _
  have hb01 : Below W0.heap.size W0 W1 := by rw [hW1]; exact (Below.refl _ _).alloc (Nat.le_refl _) _
  have hb1 : Below w.heap.size w W1 := bthen hb0 hb01
  have hf0 : FlAt W0 w.heap.size (.int .i64 k) (.string T) (.string X) (.slice pa n pc) (.slice ka kn kc) := by rw [hW0]; exact heap_alloc_new w _
  have hf : FlAt W1 w.heap.size (.int .i64 k) (.string T) (.string X) (.slice pa n pc) (.slice ka kn kc) := fl_below hf0 hb01 (fl_lt hf0)
  obtain ⟨eb, heb⟩ : ∃ b, b = w.heap.size + 1 := ⟨_, rfl⟩
  have hsz : W0.heap.size = eb := by rw [heb, hW0]; simp only [World.alloc, Array.size_push]
  have he : W1.heap[eb]? = some (.cells #[.string d, .slice va vn vc] 28 (0, 0)) := by rw [← hsz, hW1]; exact heap_alloc_new W0 _
  have hebl : eb < W1.heap.size := (Array.getElem?_eq_some_iff.1 he).1
  have hE : ∀ W, Below W1.heap.size W1 W → FlAt W w.heap.size (.int .i64 k) (.string T) (.string X) (.slice pa n pc) (.slice ka kn kc) ∧ W.cell? ⟨eb, 0, none⟩ = some (.string d) ∧ W.cell? ⟨eb, 1, none⟩ = some (.slice va vn vc) := fun W hW => by
    have := (Below.block hW eb hebl).trans he
    exact ⟨fl_below hf hW (fl_lt hf), by simp [World.cell?, this], by simp [World.cell?, this]⟩
  have HE := Lib.hid hE
  have HW0 := Lib.hid hW0.symm
  have HW1 := Lib.hid hW1.symm
  have HEb := Lib.hid heb.symm
  have HB1 := Lib.hid hb1
  have HM := Lib.hid (mayAsk_any k T X (.slice pa n pc) (.slice ka kn kc) (by omega) ⟨_, _, _, rfl⟩ ⟨_, _, _, rfl⟩ W1 (hw.below hb1))
  have HF := Lib.hid (fun (W : World) (hW : Below W1.heap.size W1 W) => fits_any k T X d p L pa ka va n pc kn kc vn vc hX hn hp5 hp3 hpl hs W (hw.below (bthen hb1 hW)) (hx.below (bthen hb1 hW)) (hp.imp (fun b h => Nat.lt_of_lt_of_le h (bthen hb1 hW).size) (fun b o h => (bthen hb1 hW).cell (p := ⟨b, o, none⟩) h)) (h.below (bthen hb1 hW) (bthen hb1 hW).size))
  obtain ⟨R, hR⟩ : ∃ R, R = leafE L k T.data.toList X.data.toList p := ⟨_, rfl⟩
  rw [← hR]
  unfold leafE at hR
  obtain ⟨a, ha⟩ : ∃ a, a = askE k T.data.toList X.data.toList := ⟨_, rfl⟩
  obtain ⟨f, hff⟩ : ∃ a, a = fitE L k T.data.toList X.data.toList p := ⟨_, rfl⟩
  rw [← ha] at HM
  rw [← hff] at HF
  rw [← ha, ← hff] at hR
  obtain ⟨hf1, e0, e1⟩ := hE W1 (Below.refl _ _)
  obtain ⟨d0, d1, d2, d3, d4⟩ := fl_cells hf1
  have HR := Lib.hid hR
  clear hW0 hW1 hb0 hb01 hb1 hf0 hf heb hsz he hebl hE hR hs hw hx hp h hpl hp3 hX hp5 hf1 ha hff hn
  cases a with
  | false =>
    go_enter Tryz.func36, Tryz.ntmps36
    go_upto_region 1 with (fail)
    rw [HW0.out, HW1.out, HEb.out]
    go_wp2_with (go_at_call 49; refine (HM.out).mono ?_; rintro e w2 ⟨rfl, hb2⟩; have HB2 := Lib.hid (bthen HB1.out hb2); clear hb2)
    go_ret
    exact ⟨by rw [HR.out]; rfl, HB2.out⟩
  | true =>
    cases f with
    | false =>
      go_enter Tryz.func36, Tryz.ntmps36
      go_upto_region 1 with (fail)
      rw [HW0.out, HW1.out, HEb.out]
      go_wp2_with (first
        | (go_at_call 49; refine (HM.out).mono ?_; rintro e w2 ⟨rfl, hb2⟩; have HX2 := Lib.hid hb2; have HB2 := Lib.hid (bthen HB1.out hb2); (obtain ⟨hf2, g0, g1⟩ := HE.out _ hb2); (obtain ⟨q0, q1, q2, q3, q4⟩ := fl_cells hf2); clear hb2 hf2)
        | (go_at_call 50; refine (HF.out _ HX2.out).mono ?_; rintro e w3 ⟨rfl, hb3⟩; have HB3 := Lib.hid (bthen HB2.out hb3); clear hb3))
      go_ret
      exact ⟨by rw [HR.out]; rfl, HB3.out⟩
    | true =>
      go_enter Tryz.func36, Tryz.ntmps36
      go_upto_region 1 with (fail)
      rw [HW0.out, HW1.out, HEb.out]
      go_wp2_with (first
        | (go_at_call 49; refine (HM.out).mono ?_; rintro e w2 ⟨rfl, hb2⟩; have HX2 := Lib.hid hb2; have HB2 := Lib.hid (bthen HB1.out hb2); (obtain ⟨hf2, g0, g1⟩ := HE.out _ hb2); (obtain ⟨q0, q1, q2, q3, q4⟩ := fl_cells hf2); clear hb2 hf2)
        | (go_at_call 50; refine (HF.out _ HX2.out).mono ?_; rintro e w3 ⟨rfl, hb3⟩; have HB3 := Lib.hid (bthen HB2.out hb3); clear hb3))
      go_ret
      exact ⟨by rw [HR.out]; rfl, HB3.out⟩
end Go.Proofs.YtdgnefcpeocbjaaGreatDoor

/- filter.asked: the walk. -/
namespace Go.Proofs.YtdgnefcpeocbjaaGreatDoor
open Go.RowKit
set_option linter.unusedVariables false
set_option linter.unusedSimpArgs false

def sgA : Nat → List UInt8
  | 0 => [61]
  | 1 => [62, 61]
  | _ => [60, 61]
def kdA : Nat → Int
  | 0 => 4
  | 1 => 6
  | _ => 7
theorem sgA_kd : ∀ j, j < 3 → signF (kdA j) = sgA j := by decide
theorem sgA_len (j : Nat) : (sgA j).length ≤ 2 := by
  match j with
  | 0 => decide
  | 1 => decide
  | _ + 2 => exact Nat.le_refl 2
theorem ask_none {l : List UInt8} (h : ∀ i, i < 3 → Lib.hasPrefix l (sgA i) = false) : askD l = none := by
  have h0 := h 0 (by omega)
  have h1 := h 1 (by omega)
  have h2 := h 2 (by omega)
  unfold askD
  split
  · rename_i hl
    subst hl
    simp [Lib.hasPrefix, sgA] at h0
  · split
    · simp [Lib.hasPrefix, sgA] at h0
    · simp [Lib.hasPrefix, sgA] at h1
    · simp [Lib.hasPrefix, sgA] at h2
    · rfl
theorem pre_eqFl {l p : List UInt8} (h : Lib.hasPrefix l p = true) : l = p ++ l.drop p.length := by
  have hp : p <+: l := List.isPrefixOf_iff_prefix.1 h
  obtain ⟨r, rfl⟩ := hp
  simp
theorem ask_at {l : List UInt8} {j : Nat} (hj : j < 3) (hn : l ≠ [61, 42]) (hp : Lib.hasPrefix l (sgA j) = true) (hc : j = 0 → (l.drop 1).contains 42 = false) : askD l = (valQ 100 (l.drop (sgA j).length)).map fun v => (kdA j, v, []) := by
  have he := pre_eqFl hp
  generalize hr : l.drop (sgA j).length = r at he ⊢
  match j, hj with
  | 0, _ =>
    have hc' := hc rfl
    have : l.drop 1 = r := hr
    rw [this] at hc'
    have he' : l = 61 :: r := he
    subst he'
    unfold askD
    rw [if_neg hn]
    show (if r.contains 42 then (allV (splS 8 r)).map fun p => (5, [], p) else (valQ 100 r).map fun v => (4, v, [])) = _
    rw [hc']
    rfl
  | 1, _ =>
    have he' : l = 62 :: 61 :: r := he
    subst he'
    unfold askD
    rw [if_neg hn]
    rfl
  | 2, _ =>
    have he' : l = 60 :: 61 :: r := he
    subst he'
    unfold askD
    rw [if_neg hn]
    rfl
theorem ask_parts {l : List UInt8} (hn : l ≠ [61, 42]) (hp : Lib.hasPrefix l [61] = true) (hc : (l.drop 1).contains 42 = true) : askD l = (allV (splS 8 (l.drop 1))).map fun p => (5, [], p) := by
  have he : l = 61 :: l.drop 1 := pre_eqFl hp
  generalize l.drop 1 = r at he hc ⊢
  subst he
  unfold askD
  rw [if_neg hn]
  show (if r.contains 42 then (allV (splS 8 r)).map fun p => (5, [], p) else (valQ 100 r).map fun v => (4, v, [])) = _
  rw [hc]
  rfl
theorem has_idx (s : List UInt8) (c : UInt8) : decide (0 ≤ Lib.indexByte s c) = s.contains c := by
  rcases byte_idx c s with ⟨h, hc⟩ | ⟨n, h, _, hc, _⟩
  · rw [h, hc]; rfl
  · rw [h, hc]; simp

end Go.Proofs.YtdgnefcpeocbjaaGreatDoor

/- filter.leaf: the walk. -/
namespace Go.Proofs.YtdgnefcpeocbjaaGreatDoor
open Go.RowKit
set_option linter.unusedVariables false
set_option linter.unusedSimpArgs false

theorem ask_facts {l : List UInt8} {k : Int} {x : List UInt8} {p : List (List UInt8)} (h : askD l = some (k, x, p)) : 4 ≤ k ∧ k ≤ 8 ∧ x.length ≤ 100 := by
  unfold askD at h
  split at h
  · cases h; decide
  · split at h
    · split at h
      · obtain ⟨q, hq, e⟩ := Option.map_eq_some_iff.1 h
        cases e
        decide
      · obtain ⟨q, hq, e⟩ := Option.map_eq_some_iff.1 h
        cases e
        exact ⟨by decide, by decide, valFl_len hq⟩
    · obtain ⟨q, hq, e⟩ := Option.map_eq_some_iff.1 h
      cases e
      exact ⟨by decide, by decide, valFl_len hq⟩
    · obtain ⟨q, hq, e⟩ := Option.map_eq_some_iff.1 h
      cases e
      exact ⟨by decide, by decide, valFl_len hq⟩
    · cases h
theorem mkFl {ok : Nat → Prop} {w : World} {k : Int} {t x : List UInt8} {p : List (List UInt8)} {u : Value} (hk : 4 ≤ k ∧ k ≤ 8) (ht : t.length ≤ maxLen) (hx : x.length ≤ maxLen) (hu : IsTo ok w p u) :
    IsFl ok w (.mk k t x p []) (.agg #[.int .i64 k, strV t, strV x, u, .slice none 0 0]) := by
  have hw : (Lit.int .i64 k).wf = true := by
    have := hk.1
    have := hk.2
    have h5 : k = 4 ∨ k = 5 ∨ k = 6 ∨ k = 7 ∨ k = 8 := by omega
    rcases h5 with rfl | rfl | rfl | rfl | rfl <;> rfl
  exact ⟨u, none, 0, rfl, hw, ht, hx, hu, by simp, trivial⟩
/-- What leaf, next and head tell. -/
def FlV (B : Nat) (w : World) (o : Option FT) (x : Value) (b : Bool) : Prop := match o with
  | none => x = .agg #[.int .i64 0, .string ⟨#[]⟩, .string ⟨#[]⟩, .slice none 0 0, .slice none 0 0] ∧ b = false
  | some f => IsFl (fun k => B ≤ k ∧ k < w.heap.size) w f x ∧ b = true
theorem fl_set1 {W : World} {b : Nat} {y0 y1 y2 y3 y4 : Value} (h : FlAt W b y0 y1 y2 y3 y4) (x1 : Value) : FlAt (W.setCell ⟨b, 1, none⟩ x1) b y0 x1 y2 y3 y4 := by
  have h' : W.heap[b]? = some (.cells #[y0, y1, y2, y3, y4] 25 (0, 0)) := h
  show (W.setCell ⟨b, 1, none⟩ x1).heap[b]? = _
  simp [World.setCell, Array.getElem?_modify, h']
theorem ownS_fl1 {W : World} {b B : Nat} {y0 y1 y2 y3 y4 : Value} (h : FlAt W b y0 y1 y2 y3 y4) {u : Value} {p : List (List UInt8)} (hu : OwnS B W u p) (x1 : Value) : OwnS B (W.setCell ⟨b, 1, none⟩ x1) u p := by
  have hg : W.grownBy (W.setCell ⟨b, 1, none⟩ x1) (some b) := ⟨by simp [World.setCell], by simp [World.setCell], by simp [World.setCell], by simp [World.setCell], fun k hk hn => blockFl_ne _ _ _ (fun e => hn (by rw [e]))⟩
  refine World.ownsRow.kept hu hg ?_
  rcases hu.2 with ⟨rfl, _⟩ | ⟨g, cap, cur, rfl, _, hgc, _⟩
  · exact .inl rfl
  · right
    intro e
    have : g = b := by simpa [Value.ownBlock] using e
    subst this
    rw [h] at hgc
    cases hgc
theorem fl_setC {W : World} {b k o : Nat} {x0 x1 x2 x3 x4 : Value} (h : k ≠ b) : (set5F W b x0 x1 x2 x3 x4).cell? ⟨k, o, none⟩ = W.cell? ⟨k, o, none⟩ := by
  unfold World.cell?
  rw [fl_setO h]
theorem OwnS.slice_len {B : Nat} {w : World} {u : Value} {p : List (List UInt8)} (h : OwnS B w u p) : p.length ≤ maxLen := by
  rcases h.2 with ⟨_, hn⟩ | ⟨g, cap, cur, _, _, _, h1, h2, _⟩
  · rw [hn]; exact Nat.zero_le _
  · exact Nat.le_trans h1 h2
theorem cloneFl_any (s : ByteArray) (hs : s.size ≤ 281474976710656) (w : World) : Calls Tryz.prog 77 #[.string s] w fun e w' => e = .returned (.string s) ∧ Below w.heap.size w w' := by
  have HH := Lib.hid (fun W => Tryz.stringslite_Clone s W hs)
  go_enter Tryz.func77, Tryz.ntmps77
  go_wp2_with (go_at_call 98; refine (HH.out _).mono ?_; rintro e w2 ⟨rfl, hb2⟩; have HB2 := Lib.hid hb2; clear hb2)
  go_ret
  exact ⟨rfl, HB2.out⟩

end Go.Proofs.YtdgnefcpeocbjaaGreatDoor

/- filter's reader: count and next. -/
namespace Go.Proofs.YtdgnefcpeocbjaaGreatDoor
open Go.RowKit
set_option linter.unusedVariables false
set_option linter.unusedSimpArgs false

set_option maxRecDepth 100000 in
theorem loadFl_any (b o : Nat) (x : Int) (w : World) (h : w.cell? ⟨b, o, none⟩ = some (.int .i64 x)) : Calls Tryz.prog 48 #[.pointer (some ⟨b, o, none⟩)] w fun e w' => e = .returned (.int .i64 x) ∧ w' = w := by
  have hl := run_call_load (P := Tryz.prog) Tryz.func58 (by kernel_rfl) (by kernel_rfl) (by kernel_rfl) .i64 (by kernel_rfl) (a := ⟨b, o, none⟩) (x := x) (w := w) h
  go_enter Tryz.func48, Tryz.ntmps48
  go_wp2
  go_ret
  exact ⟨rfl, rfl⟩
set_option maxRecDepth 100000 in
theorem addFl_any (b o : Nat) (x : Int) (hx : 0 ≤ x) (hx2 : x ≤ 1000000000) (w : World) (h : w.cell? ⟨b, o, none⟩ = some (.int .i64 x)) (hz : w.frozen? ⟨b, o, none⟩ = false) : Calls Tryz.prog 47 #[.pointer (some ⟨b, o, none⟩), .int .i64 1] w fun e w' => e = .returned (.int .i64 (x + 1)) ∧ w' = w.setCell ⟨b, o, none⟩ (.int .i64 (x + 1)) := by
  have hl := run_call_add (P := Tryz.prog) Tryz.func57 (by kernel_rfl) (by kernel_rfl) (by kernel_rfl) .i64 (by kernel_rfl) (a := ⟨b, o, none⟩) (x := x) (y := 1) (s := x + 1) (w := w) h hz (by
    show Sem.run _ (pure (Value.int .i64 (IntKind.i64.wrap (x + 1)))) w = _
    rw [IntKind.wrap_i64, show (x + 1 + 9223372036854775808) % 18446744073709551616 - 9223372036854775808 = x + 1 from by omega]
    rfl)
  go_enter Tryz.func47, Tryz.ntmps47
  go_wp2
  go_ret
  exact ⟨rfl, rfl⟩

/-- What head tells. -/
def HdV (B : Nat) (w : World) (o : Option (FT × List UInt8)) (x : Value) (r : ByteArray) (b : Bool) : Prop := match o with
  | none => x = .agg #[.int .i64 0, .string ⟨#[]⟩, .string ⟨#[]⟩, .slice none 0 0, .slice none 0 0] ∧ b = false
  | some (f, q) => IsFl (fun k => B ≤ k ∧ k < w.heap.size) w f x ∧ r.data.toList = q ∧ b = true
abbrev zF : Obj := .cells #[.int .i64 0, .string ⟨#[]⟩, .string ⟨#[]⟩, .slice none 0 0, .slice none 0 0] 25
end Go.Proofs.YtdgnefcpeocbjaaGreatDoor

/- eval's not, first, tallied, truth, Eval: the walks. -/
namespace Go.Proofs.YtdgnefcpeocbjaaGreatDoor
open Go.RowKit
set_option linter.unusedVariables false
set_option linter.unusedSimpArgs false

set_option maxRecDepth 100000 in
theorem notEv_any (r : Nat) (hr : r ≤ 2) (w : World) : Calls Tryz.prog 35 #[.int .i64 r] w fun e w' => e = .returned (.int .i64 (flipE r : Nat)) ∧ w = w' := by
  obtain rfl | rfl | rfl : r = 0 ∨ r = 1 ∨ r = 2 := by omega
  all_goals
    go_enter Tryz.func35, Tryz.ntmps35
    go_wp2
    go_ret
    exact ⟨rfl, rfl⟩
/-- The counts of one filter's kids. -/
abbrev TaAt (W : World) (b c0 c1 c2 : Nat) : Prop := W.heap[b]? = some (.cells #[.int .i64 c0, .int .i64 c1, .int .i64 c2] 77 (0, 0))
theorem ta_lt {W : World} {b c0 c1 c2 : Nat} (h : TaAt W b c0 c1 c2) : b < W.heap.size := (Array.getElem?_eq_some_iff.1 h).1
theorem ta_below {W W' : World} {b c0 c1 c2 m : Nat} (h : TaAt W b c0 c1 c2) (hb : Below m W W') (hn : b < m) : TaAt W' b c0 c1 c2 := (hb.block b hn).trans h
theorem ta_cells {W : World} {b c0 c1 c2 : Nat} (h : TaAt W b c0 c1 c2) : W.cell? ⟨b, 0, none⟩ = some (.int .i64 c0) ∧ W.cell? ⟨b, 1, none⟩ = some (.int .i64 c1) ∧ W.cell? ⟨b, 2, none⟩ = some (.int .i64 c2) ∧ W.frozen? ⟨b, 0, none⟩ = false ∧ W.frozen? ⟨b, 1, none⟩ = false ∧ W.frozen? ⟨b, 2, none⟩ = false := by
  have h' : W.heap[b]? = some (.cells #[.int .i64 c0, .int .i64 c1, .int .i64 c2] 77 (0, 0)) := h
  refine ⟨?_, ?_, ?_, ?_, ?_, ?_⟩ <;> simp [World.cell?, World.frozen?, h']
theorem ta_add0 {W : World} {b c0 c1 c2 : Nat} (h : TaAt W b c0 c1 c2) : TaAt (W.setCell ⟨b, 0, none⟩ (.int .i64 ((c0 : Int) + 1))) b (c0 + 1) c1 c2 := by
  have h' : W.heap[b]? = some (.cells #[.int .i64 c0, .int .i64 c1, .int .i64 c2] 77 (0, 0)) := h
  show (W.setCell ⟨b, 0, none⟩ (.int .i64 ((c0 : Int) + 1))).heap[b]? = _
  simp [World.setCell, Array.getElem?_modify, h']
theorem ta_add1 {W : World} {b c0 c1 c2 : Nat} (h : TaAt W b c0 c1 c2) : TaAt (W.setCell ⟨b, 1, none⟩ (.int .i64 ((c1 : Int) + 1))) b c0 (c1 + 1) c2 := by
  have h' : W.heap[b]? = some (.cells #[.int .i64 c0, .int .i64 c1, .int .i64 c2] 77 (0, 0)) := h
  show (W.setCell ⟨b, 1, none⟩ (.int .i64 ((c1 : Int) + 1))).heap[b]? = _
  simp [World.setCell, Array.getElem?_modify, h']
theorem ta_add2 {W : World} {b c0 c1 c2 : Nat} (h : TaAt W b c0 c1 c2) : TaAt (W.setCell ⟨b, 2, none⟩ (.int .i64 ((c2 : Int) + 1))) b c0 c1 (c2 + 1) := by
  have h' : W.heap[b]? = some (.cells #[.int .i64 c0, .int .i64 c1, .int .i64 c2] 77 (0, 0)) := h
  show (W.setCell ⟨b, 2, none⟩ (.int .i64 ((c2 : Int) + 1))).heap[b]? = _
  simp [World.setCell, Array.getElem?_modify, h']
def cntE (c0 c1 c2 : Nat) : Nat → Nat
  | 0 => c0
  | 1 => c1
  | _ => c2
theorem ta_at {W : World} {b c0 c1 c2 : Nat} (h : TaAt W b c0 c1 c2) (x : Nat) (hx : x ≤ 2) : W.cell? ⟨b, x, none⟩ = some (.int .i64 (cntE c0 c1 c2 x : Nat)) := by
  obtain ⟨h0, h1, h2, _⟩ := ta_cells h
  obtain rfl | rfl | rfl : x = 0 ∨ x = 1 ∨ x = 2 := by omega
  · exact h0
  · exact h1
  · exact h2
set_option maxRecDepth 100000 in
set_option maxHeartbeats 4000000 in
theorem firstEv_any (b c0 c1 c2 x y o : Nat) (hx : x ≤ 2) (hy : y ≤ 2) (w : World) (h : TaAt w b c0 c1 c2) :
    Calls Tryz.prog 34 #[.pointer (some ⟨b, 0, none⟩), .int .i64 x, .int .i64 y, .int .i64 o] w fun e w' => e = .returned (.int .i64 ((if 0 < cntE c0 c1 c2 x then x else if 0 < cntE c0 c1 c2 y then y else o : Nat) : Int)) ∧ Below w.heap.size w w' := by
  obtain ⟨W1, hW1⟩ : ∃ W, W = w.alloc (.cells #[.int .i64 x, .int .i64 y] 3) := ⟨_, rfl⟩
  have hb1 : Below w.heap.size w W1 := by rw [hW1]; exact (Below.refl _ _).alloc (Nat.le_refl _) _
  have hr : W1.heap[w.heap.size]? = some (.cells #[.int .i64 x, .int .i64 y] 3 (0, 0)) := by rw [hW1]; exact heap_alloc_new w _
  have r0 : W1.cell? ⟨w.heap.size, 0, none⟩ = some (.int .i64 x) := by simp [World.cell?, hr]
  have r1 : W1.cell? ⟨w.heap.size, 1, none⟩ = some (.int .i64 y) := by simp [World.cell?, hr]
  have h1 := ta_below h hb1 (ta_lt h)
  obtain ⟨n, hn⟩ : ∃ n, n = cntE c0 c1 c2 x := ⟨_, rfl⟩
  obtain ⟨m, hm⟩ : ∃ n, n = cntE c0 c1 c2 y := ⟨_, rfl⟩
  have lx := loadFl_any b x (n : Int) W1 (by rw [hn]; exact ta_at h1 x hx)
  have ly := loadFl_any b y (m : Int) W1 (by rw [hm]; exact ta_at h1 y hy)
  rw [← hn, ← hm]
  obtain ⟨R, hR⟩ : ∃ R, R = (if 0 < n then x else if 0 < m then y else o) := ⟨_, rfl⟩
  rw [← hR]
  have HR := Lib.hid hR
  clear hR
  have HX := Lib.hid lx
  have HY := Lib.hid ly
  have HW1 := Lib.hid hW1.symm
  have HB1 := Lib.hid hb1
  have x0 : (0 : Int) ≤ (x : Int) := by omega
  have x3 : (x : Int) < 3 := by omega
  have y0 : (0 : Int) ≤ (y : Int) := by omega
  have y3 : (y : Int) < 3 := by omega
  clear hW1 hb1 hr h1 hn hm lx ly h
  go_enter Tryz.func34, Tryz.ntmps34
  go_upto_region 2 with (fail)
  rw [HW1.out]
  go_wp2
  go_loop [15] (fun i => ∃ j : Nat, j ≤ 2 ∧ i = .int .i64 j ∧ Hid (1 ≤ j → n = 0) ∧ Hid (2 ≤ j → m = 0)) (fun i => 2 - (intOf i).toNat)
  case atStart => exact ⟨0, by omega, rfl, Lib.hid (by omega), Lib.hid (by omega)⟩
  case round =>
    obtain ⟨j, hj, rfl, H1, H2⟩ := hrel
    obtain rfl | rfl | rfl : j = 0 ∨ j = 1 ∨ j = 2 := by omega
    · by_cases hn : 0 < n
      · have t1 : decide ((0 : Int) < (n : Int)) = true := by simp; omega
        have t1' : decide (0 < n) = true := by simpa using hn
        have HF : Hid (R = x) := Lib.hid (by rw [HR.out, if_pos hn])
        clear hn
        go_wp2_with (go_at_call 48; refine (HX.out).mono ?_; rintro e w2 ⟨rfl, hw⟩; subst hw)
        go_ret
        exact ⟨by rw [HF.out]; rfl, HB1.out⟩
      · have t1 : decide ((0 : Int) < (n : Int)) = false := by simp; omega
        have t1' : decide (0 < n) = false := by simpa using hn
        have HN := Lib.hid (show n = 0 from by omega)
        clear hn
        go_wp2_with (go_at_call 48; refine (HX.out).mono ?_; rintro e w2 ⟨rfl, hw⟩; subst hw)
        go_round
        case rel => exact ⟨1, by omega, by first | rfl | go_num, Lib.hid (fun _ => HN.out), Lib.hid (by omega)⟩
        case measure => simp [intOf]
    · by_cases hm : 0 < m
      · have t1 : decide ((0 : Int) < (m : Int)) = true := by simp; omega
        have t1' : decide (0 < m) = true := by simpa using hm
        have HF : Hid (R = y) := Lib.hid (by rw [HR.out, if_neg (by have := H1.out (by omega); omega), if_pos hm])
        clear hm
        go_wp2_with (go_at_call 48; refine (HY.out).mono ?_; rintro e w2 ⟨rfl, hw⟩; subst hw)
        go_ret
        exact ⟨by rw [HF.out]; rfl, HB1.out⟩
      · have t1 : decide ((0 : Int) < (m : Int)) = false := by simp; omega
        have t1' : decide (0 < m) = false := by simpa using hm
        have HM := Lib.hid (show m = 0 from by omega)
        clear hm
        go_wp2_with (go_at_call 48; refine (HY.out).mono ?_; rintro e w2 ⟨rfl, hw⟩; subst hw)
        go_round
        case rel => exact ⟨2, by omega, by first | rfl | go_num, Lib.hid (fun _ => H1.out (by omega)), Lib.hid (fun _ => HM.out)⟩
        case measure => simp [intOf]
    · have HF : Hid (R = o) := Lib.hid (by rw [HR.out, if_neg (by have := H1.out (by omega); omega), if_neg (by have := H2.out (by omega); omega)])
      go_wp2
      go_ret
      exact ⟨by rw [HF.out]; rfl, HB1.out⟩
end Go.Proofs.YtdgnefcpeocbjaaGreatDoor

/- eval's tallied, truth, Eval: the walks. -/
namespace Go.Proofs.YtdgnefcpeocbjaaGreatDoor
open Go.RowKit
set_option linter.unusedVariables false
set_option linter.unusedSimpArgs false

/-- truth, of filters so deep at most. -/
def TruthIs (d : Nat) : Prop := ∀ (f : FT) (v : Value) (L : List AT) (D : ByteArray) (va : Option Addr) (vn vc : Nat) (w : World), mayF d f = true → IsFl (Lt w) w f v → smallA L → LaidW w → LaidX w → IsA w.heap.size w L (.slice va vn vc) →
  Calls Tryz.prog 25 #[v, .agg #[.string D, .slice va vn vc]] w fun e w' => e = .returned (.int .i64 (evF L f : Nat)) ∧ Below w.heap.size w w'
abbrev EnAt (W : World) (b : Nat) (D : ByteArray) (u : Value) : Prop := W.heap[b]? = some (.cells #[.string D, u] 28 (0, 0))
theorem en_lt {W : World} {b : Nat} {D : ByteArray} {u : Value} (h : EnAt W b D u) : b < W.heap.size := (Array.getElem?_eq_some_iff.1 h).1
theorem en_below {W W' : World} {b m : Nat} {D : ByteArray} {u : Value} (h : EnAt W b D u) (hb : Below m W W') (hn : b < m) : EnAt W' b D u := (hb.block b hn).trans h
theorem en_cells {W : World} {b : Nat} {D : ByteArray} {u : Value} (h : EnAt W b D u) : W.cell? ⟨b, 0, none⟩ = some (.string D) ∧ W.cell? ⟨b, 1, none⟩ = some u := by
  have h' : W.heap[b]? = some (.cells #[.string D, u] 28 (0, 0)) := h
  refine ⟨?_, ?_⟩ <;> simp [World.cell?, h']
/-- What stands while the kids are counted. -/
structure TalAt (w wr : World) (D : ByteArray) (u : Value) (c0 c1 c2 : Nat) : Prop where
  en : EnAt wr w.heap.size D u
  ta : TaAt wr (w.heap.size + 1) c0 c1 c2
  bel : Below w.heap.size w wr
theorem TalAt.go {w wr wx : World} {D : ByteArray} {u : Value} {c0 c1 c2 : Nat} (h : TalAt w wr D u c0 c1 c2) (hb : Below wr.heap.size wr wx) : TalAt w wx D u c0 c1 c2 :=
  ⟨en_below h.en hb (en_lt h.en), ta_below h.ta hb (ta_lt h.ta), bthen h.bel hb⟩
theorem tal_new (w : World) (D : ByteArray) (u : Value) : TalAt w ((w.alloc (.cells #[.string D, u] 28)).alloc (.cells #[.int .i64 0, .int .i64 0, .int .i64 0] 77)) D u 0 0 0 := by
  have h1 : Below w.heap.size w (w.alloc (.cells #[.string D, u] 28)) := (Below.refl _ _).alloc (Nat.le_refl _) _
  have h2 : Below (w.alloc (.cells #[.string D, u] 28)).heap.size (w.alloc (.cells #[.string D, u] 28)) ((w.alloc (.cells #[.string D, u] 28)).alloc (.cells #[.int .i64 0, .int .i64 0, .int .i64 0] 77)) := (Below.refl _ _).alloc (Nat.le_refl _) _
  have hz : EnAt (w.alloc (.cells #[.string D, u] 28)) w.heap.size D u := heap_alloc_new w _
  have hs : (w.alloc (.cells #[.string D, u] 28)).heap.size = w.heap.size + 1 := by simp only [World.alloc, Array.size_push]
  have hn := heap_alloc_new (w.alloc (.cells #[.string D, u] 28)) (.cells #[.int .i64 0, .int .i64 0, .int .i64 0] 77)
  rw [hs] at hn
  exact ⟨en_below hz h2 (en_lt hz), hn, bthen h1 h2⟩
theorem tal_set {w wr : World} {D : ByteArray} {u : Value} {c0 c1 c2 : Nat} (h : TalAt w wr D u c0 c1 c2) (o : Nat) (x : Value) : EnAt (wr.setCell ⟨w.heap.size + 1, o, none⟩ x) w.heap.size D u ∧ Below w.heap.size w (wr.setCell ⟨w.heap.size + 1, o, none⟩ x) :=
  ⟨(blockFl_ne _ ⟨w.heap.size + 1, o, none⟩ _ (by show w.heap.size ≠ w.heap.size + 1; omega)).trans h.en, h.bel.setCell (p := ⟨w.heap.size + 1, o, none⟩) (by show w.heap.size ≤ w.heap.size + 1; omega) _⟩
/-- The counts of the truths. -/
def CntAt (l : List Nat) (c0 c1 c2 : Nat) : Prop := c0 = l.count 0 ∧ c1 = l.count 1 ∧ c2 = l.count 2
theorem cnt_len {l : List Nat} {c0 c1 c2 : Nat} (h : CntAt l c0 c1 c2) : c0 ≤ l.length ∧ c1 ≤ l.length ∧ c2 ≤ l.length := by
  obtain ⟨rfl, rfl, rfl⟩ := h
  exact ⟨List.count_le_length, List.count_le_length, List.count_le_length⟩
theorem cnt_first {l : List Nat} {c0 c1 c2 : Nat} (h : CntAt l c0 c1 c2) (x y o : Nat) (hx : x ≤ 2) (hy : y ≤ 2) : (if 0 < cntE c0 c1 c2 x then x else if 0 < cntE c0 c1 c2 y then y else o) = firstE x y o l := by
  have hc : ∀ z, z ≤ 2 → cntE c0 c1 c2 z = l.count z := fun z hz => by
    obtain ⟨h0, h1, h2⟩ := h
    obtain rfl | rfl | rfl : z = 0 ∨ z = 1 ∨ z = 2 := by omega
    · exact h0
    · exact h1
    · exact h2
  unfold firstE
  rw [hc x hx, hc y hy]
  simp only [List.count_pos_iff]

set_option maxRecDepth 100000 in
set_option maxHeartbeats 8000000 in
theorem tallied_any (d : Nat) (ih : TruthIs d) (l : List FT) (hl : l.all (mayF d) = true) (hln : l.length ≤ 1000) (L : List AT) (D : ByteArray) (ka va : Option Addr) (n kc vn vc : Nat) (hn : n = l.length) (hs : smallA L) (w : World) (hw : LaidW w) (hx : LaidX w)
    (hk : IsFls (Lt w) w l ka 0) (h : IsA w.heap.size w L (.slice va vn vc)) :
    Calls Tryz.prog 33 #[.slice ka n kc, .agg #[.string D, .slice va vn vc]] w fun e w' => ∃ c0 c1 c2, e = .returned (.pointer (some ⟨w.heap.size + 1, 0, none⟩)) ∧ TalAt w w' D (.slice va vn vc) c0 c1 c2 ∧ CntAt (evFs L l) c0 c1 c2 := by
  obtain ⟨W1, hW1⟩ : ∃ W, W = (w.alloc (.cells #[.string D, .slice va vn vc] 28)).alloc (.cells #[.int .i64 0, .int .i64 0, .int .i64 0] 77) := ⟨_, rfl⟩
  have HT1 : Hid (TalAt w W1 D (.slice va vn vc) 0 0 0) := Lib.hid (by rw [hW1]; exact tal_new w D _)
  have HW1 := Lib.hid hW1.symm
  obtain ⟨tb, htb⟩ : ∃ b, b = w.heap.size + 1 := ⟨_, rfl⟩
  have HTb := Lib.hid htb
  have HIh := Lib.hid (fun (j : Nat) (hj : j < l.length) (v : Value) (W : World) (hW : Below w.heap.size w W) (hv : IsFl (Lt W) W l[j] v) => ih l[j] v L D va vn vc W (List.all_eq_true.1 hl _ (List.getElem_mem hj)) hv hs (hw.below hW) (hx.below hW) (h.below hW hW.size))
  have HK := Lib.hid hk
  have HN := Lib.hid hn
  have HLn := Lib.hid hln
  have hn1 : n ≤ 1000 := by omega
  clear hW1 hl hs hw hx hk h hn hln ih
  go_enter Tryz.func33, Tryz.ntmps33
  go_upto_region 2 with (fail)
  rw [HW1.out, ← htb]
  clear htb
  go_wp2
  go_loopw [12] (fun i wr => ∃ j c0 c1 c2 : Nat, j ≤ n ∧ i = .int .i64 j ∧ Hid (TalAt w wr D (.slice va vn vc) c0 c1 c2) ∧ Hid (CntAt (evFs L (l.take j)) c0 c1 c2)) (fun i _ => n - (intOf i).toNat)
  case atStart => exact ⟨0, 0, 0, 0, by omega, rfl, HT1, Lib.hid ⟨rfl, rfl, rfl⟩⟩
  case round =>
    obtain ⟨j, c0, c1, c2, hj, rfl, HT, HC⟩ := hrel
    rename World => wo
    by_cases hlt : j < n
    · have ti1 : (j : Int) < (n : Int) := by omega
      have ti2 : decide (j < n) = true := by simpa using hlt
      have ti3 : decide ((j : Int) < (n : Int)) = true := by simp; omega
      have hjl : j < l.length := by rw [← HN.out]; exact hlt
      obtain ⟨b, off, v0, v1, v2, v3, v4, rfl, hb, k0, k1, k2, k3, k4, hf⟩ := HK.out.get l _ 0 j l[j] (List.getElem?_eq_getElem hjl)
      rw [Nat.zero_add] at k0 k1 k2 k3 k4
      have hbel := HT.out.bel
      have hcw : ∀ o, wo.cell? ⟨b, o, none⟩ = w.cell? ⟨b, o, none⟩ := fun o => hbel.cell (p := ⟨b, o, none⟩) hb
      rw [← hcw] at k0 k1 k2 k3 k4
      have hf2 : IsFl (Lt wo) wo l[j] (.agg #[v0, v1, v2, v3, v4]) := hf.imp (fun b h => Nat.lt_of_lt_of_le h hbel.size) (fun b o h => hbel.cell (p := ⟨b, o, none⟩) h)
      obtain ⟨k', T', X', pa', pn', pc', ka', kn', kc', e⟩ := hf2.shape
      simp only [Value.agg.injEq, Array.mk.injEq, List.cons.injEq, and_true] at e
      obtain ⟨rfl, rfl, rfl, rfl, rfl⟩ := e
      obtain ⟨W5, hW5⟩ : ∃ W, W = wo.alloc (.cells #[.int .i64 k', .string T', .string X', .slice pa' pn' pc', .slice ka' kn' kc'] 25) := ⟨_, rfl⟩
      have hb5 : Below wo.heap.size wo W5 := by rw [hW5]; exact box5 wo _ _ _ _ _
      have hT5 := HT.out.go hb5
      have hfl5 : FlAt W5 wo.heap.size (.int .i64 k') (.string T') (.string X') (.slice pa' pn' pc') (.slice ka' kn' kc') := by rw [hW5]; exact heap_alloc_new wo _
      have hca := HIh.out j hjl _ W5 (bthen hbel hb5) (hf2.below hb5)
      have hr := evF_lt L l[j]
      obtain ⟨r, hrr⟩ : ∃ r, r = evF L l[j] := ⟨_, rfl⟩
      rw [← hrr] at hca hr
      have htk : evFs L (l.take (j + 1)) = evFs L (l.take j) ++ [r] := by rw [evFs_map, evFs_map, List.take_succ_eq_append_getElem hjl, List.map_append, hrr]; rfl
      have hlen : (evFs L (l.take j)).length ≤ 1000 := by rw [evFs_map, List.length_map, List.length_take]; omega
      obtain ⟨l0, l1, l2⟩ := cnt_len HC.out
      have HCa := Lib.hid (show Calls Tryz.prog 25 #[.agg #[.int .i64 k', .string T', .string X', .slice pa' pn' pc', .slice ka' kn' kc'], .agg #[.string D, .slice va vn vc]] W5.drew fun e w' => e = .returned (.int .i64 (r : Int)) ∧ Below W5.heap.size W5 w' from by
        have := HIh.out j hjl _ W5.drew ((bthen hbel hb5).drew) (hf2.below (hb5.drew))
        rw [← hrr] at this
        exact this.mono (fun e w' h => ⟨h.1, ⟨h.2.1, h.2.2, h.2.3, h.2.4, h.2.5⟩⟩))
      have HTk := Lib.hid htk
      have HT5 := Lib.hid hT5
      have HF5 := Lib.hid hfl5
      have HW5 := Lib.hid hW5.symm
      obtain ⟨p0, p1, p2, p3, p4⟩ := fl_cells hfl5
      obtain ⟨e0, e1⟩ := en_cells hT5.en
      have m0 : c0 ≤ 1000 := by omega
      have m1 : c1 ≤ 1000 := by omega
      have m2 : c2 ≤ 1000 := by omega
      clear hrr htk hlen l0 l1 l2 hT5 hfl5 hf hf2 hb5 hca hbel hcw hjl
      go_upto_region 5 with (fail)
      rw [HW5.out]
      clear hW5
      obtain rfl | rfl | rfl : r = 0 ∨ r = 1 ∨ r = 2 := by omega
      · have HCb := HCa.out
        rw [show ((0 : Nat) : Int) = 0 from rfl] at HCb
        have HCc := Lib.hid HCb
        clear HCb
        go_region_law (first
          | (go_simp; go_at_call 25; refine (HCc.out).mono ?_; rintro e w4 ⟨rfl, hb4⟩; have hT4 := HT5.out.go hb4; have hta : TaAt w4 tb c0 c1 c2 := (by rw [HTb.out]; exact hT4.ta); (obtain ⟨t0, t1, t2, f0, f1, f2⟩ := ta_cells hta); (obtain ⟨p0', p1', p2', p3', p4'⟩ := fl_cells (fl_below HF5.out hb4 (fl_lt HF5.out))); (obtain ⟨e0', e1'⟩ := en_cells hT4.en); have HT4 := Lib.hid hT4; clear hT4 hta hb4)
          | (go_simp; go_at_call 47; refine (addFl_any tb 0 (c0 : Int) (by omega) (by omega) _ t0 f0).mono ?_; rintro e w6 ⟨rfl, hw6⟩; subst hw6))
        all_goals
          go_wp2
          go_roundw
          case rel =>
            refine ⟨j + 1, c0 + 1, c1, c2, by omega, by go_num, Lib.hid (by rw [HTb.out]; exact ⟨(tal_set HT4.out 0 _).1, ta_add0 HT4.out.ta, (tal_set HT4.out 0 _).2⟩), Lib.hid ?_⟩
            rw [HTk.out]
            obtain ⟨h0, h1, h2⟩ := HC.out
            exact ⟨by rw [List.count_append, ← h0]; rfl, by rw [List.count_append, ← h1]; rfl, by rw [List.count_append, ← h2]; rfl⟩
          case measure => simp [intOf]; omega
      · have HCb := HCa.out
        rw [show ((1 : Nat) : Int) = 1 from rfl] at HCb
        have HCc := Lib.hid HCb
        clear HCb
        go_region_law (first
          | (go_simp; go_at_call 25; refine (HCc.out).mono ?_; rintro e w4 ⟨rfl, hb4⟩; have hT4 := HT5.out.go hb4; have hta : TaAt w4 tb c0 c1 c2 := (by rw [HTb.out]; exact hT4.ta); (obtain ⟨t0, t1, t2, f0, f1, f2⟩ := ta_cells hta); (obtain ⟨p0', p1', p2', p3', p4'⟩ := fl_cells (fl_below HF5.out hb4 (fl_lt HF5.out))); (obtain ⟨e0', e1'⟩ := en_cells hT4.en); have HT4 := Lib.hid hT4; clear hT4 hta hb4)
          | (go_simp; go_at_call 47; refine (addFl_any tb 1 (c1 : Int) (by omega) (by omega) _ t1 f1).mono ?_; rintro e w6 ⟨rfl, hw6⟩; subst hw6))
        all_goals
          go_wp2
          go_roundw
          case rel =>
            refine ⟨j + 1, c0, c1 + 1, c2, by omega, by go_num, Lib.hid (by rw [HTb.out]; exact ⟨(tal_set HT4.out 1 _).1, ta_add1 HT4.out.ta, (tal_set HT4.out 1 _).2⟩), Lib.hid ?_⟩
            rw [HTk.out]
            obtain ⟨h0, h1, h2⟩ := HC.out
            exact ⟨by rw [List.count_append, ← h0]; rfl, by rw [List.count_append, ← h1]; rfl, by rw [List.count_append, ← h2]; rfl⟩
          case measure => simp [intOf]; omega
      · have HCb := HCa.out
        rw [show ((2 : Nat) : Int) = 2 from rfl] at HCb
        have HCc := Lib.hid HCb
        clear HCb
        go_region_law (first
          | (go_simp; go_at_call 25; refine (HCc.out).mono ?_; rintro e w4 ⟨rfl, hb4⟩; have hT4 := HT5.out.go hb4; have hta : TaAt w4 tb c0 c1 c2 := (by rw [HTb.out]; exact hT4.ta); (obtain ⟨t0, t1, t2, f0, f1, f2⟩ := ta_cells hta); (obtain ⟨p0', p1', p2', p3', p4'⟩ := fl_cells (fl_below HF5.out hb4 (fl_lt HF5.out))); (obtain ⟨e0', e1'⟩ := en_cells hT4.en); have HT4 := Lib.hid hT4; clear hT4 hta hb4)
          | (go_simp; go_at_call 47; refine (addFl_any tb 2 (c2 : Int) (by omega) (by omega) _ t2 f2).mono ?_; rintro e w6 ⟨rfl, hw6⟩; subst hw6))
        all_goals
          go_wp2
          go_roundw
          case rel =>
            refine ⟨j + 1, c0, c1, c2 + 1, by omega, by go_num, Lib.hid (by rw [HTb.out]; exact ⟨(tal_set HT4.out 2 _).1, ta_add2 HT4.out.ta, (tal_set HT4.out 2 _).2⟩), Lib.hid ?_⟩
            rw [HTk.out]
            obtain ⟨h0, h1, h2⟩ := HC.out
            exact ⟨by rw [List.count_append, ← h0]; rfl, by rw [List.count_append, ← h1]; rfl, by rw [List.count_append, ← h2]; rfl⟩
          case measure => simp [intOf]; omega
    · obtain rfl : j = n := by omega
      have t1 : decide ((j : Int) < (j : Int)) = false := by simp
      have t1' : decide (j < j) = false := by simp
      have HE : Hid (l.take j = l) := Lib.hid (List.take_of_length_le (by rw [← HN.out]; exact Nat.le_refl _))
      go_wp2
      go_ret
      exact ⟨c0, c1, c2, by rw [HTb.out]; rfl, HT.out, by have := HC.out; rwa [HE.out] at this⟩
end Go.Proofs.YtdgnefcpeocbjaaGreatDoor

/- The document's parts of a text, as functions. No program. -/
namespace Go.Proofs.YtdgnefcpeocbjaaGreatDoor
set_option linter.unusedVariables false
set_option linter.unusedSimpArgs false

theorem cutO_hit {s x : List UInt8} {i : Nat} (h : ∀ j, j < i → (s.drop j).take x.length ≠ x) (hi : i + x.length ≤ s.length) (ho : (s.drop i).take x.length = x) : Lib.cut s x = (s.take i, s.drop (i + x.length), true) := by
  have hno : Lib.NoOcc s x i := fun j hj => by rw [Lib.occAt_iff_take s x j (by omega)]; simpa using h j hj
  have hx := Lib.index_hit hno (by omega) (by rw [Lib.occAt_iff_take s x i hi]; simpa using ho)
  unfold Lib.cut
  rw [hx]
  simp
theorem cutO_past {s x : List UInt8} {i : Nat} (hx : x ≠ []) (h : ∀ j, j < i → j + x.length ≤ s.length → (s.drop j).take x.length ≠ x) (hi : s.length < i + x.length) : (Lib.cut s x).2.2 = false := by
  have hno : Lib.NoOcc s x i := fun j hj => by
    by_cases hr : j + x.length ≤ s.length
    · rw [Lib.occAt_iff_take s x j hr]; simpa using h j hj hr
    · cases ho : Lib.occAt s x j with
      | false => rfl
      | true =>
        rcases Lib.occAt_room ho with h1 | h1
        · exact absurd h1 hr
        · exact absurd h1 hx
  have := Lib.index_past hx hno hi
  unfold Lib.cut
  rw [this]
  rfl
/-- Both ends of a text. -/
def endsO (n a b : List UInt8) : Bool := decide (a.length + b.length ≤ n.length) && (n.take a.length == a) && (n.drop (n.length - b.length) == b)
theorem prefix_iff (n a : List UInt8) : Lib.hasPrefix n a = true ↔ a.length ≤ n.length ∧ n.take a.length = a := by
  unfold Lib.hasPrefix
  rw [List.isPrefixOf_iff_prefix, List.prefix_iff_eq_take]
  constructor
  · intro h
    have := congrArg List.length h
    rw [List.length_take] at this
    exact ⟨by omega, h.symm⟩
  · rintro ⟨_, h⟩
    exact h.symm
theorem suffix_iff (n b : List UInt8) : Lib.hasSuffix n b = true ↔ b.length ≤ n.length ∧ n.drop (n.length - b.length) = b := by
  unfold Lib.hasSuffix
  rw [List.isSuffixOf_iff_suffix, List.suffix_iff_eq_drop]
  constructor
  · intro h
    have := congrArg List.length h
    rw [List.length_drop] at this
    exact ⟨by omega, h.symm⟩
  · rintro ⟨_, h⟩
    exact h.symm
theorem endsO_eq (n a b : List UInt8) : (Lib.hasPrefix n a && Lib.hasSuffix (Lib.trimPrefix n a) b) = endsO n a b := by
  rw [Bool.eq_iff_iff]
  unfold endsO
  simp only [Bool.and_eq_true, decide_eq_true_eq, beq_iff_eq]
  constructor
  · rintro ⟨h1, h2⟩
    obtain ⟨h3, h4⟩ := (prefix_iff n a).1 h1
    have ht : Lib.trimPrefix n a = n.drop a.length := by unfold Lib.trimPrefix; rw [if_pos h1]
    rw [ht] at h2
    obtain ⟨h5, h6⟩ := (suffix_iff _ b).1 h2
    rw [List.length_drop] at h5 h6
    rw [List.drop_drop, show a.length + (n.length - a.length - b.length) = n.length - b.length from by omega] at h6
    exact ⟨⟨by omega, h4⟩, h6⟩
  · rintro ⟨⟨h1, h2⟩, h3⟩
    have hp := (prefix_iff n a).2 ⟨by omega, h2⟩
    have ht : Lib.trimPrefix n a = n.drop a.length := by unfold Lib.trimPrefix; rw [if_pos hp]
    refine ⟨hp, ?_⟩
    rw [ht, suffix_iff, List.length_drop, List.drop_drop, show a.length + (n.length - a.length - b.length) = n.length - b.length from by omega]
    exact ⟨by omega, h3⟩
theorem endsO_rest {n a b : List UInt8} (h : endsO n a b = true) : Lib.trimSuffix (Lib.trimPrefix n a) b = (n.drop a.length).take (n.length - b.length - a.length) := by
  rw [← endsO_eq, Bool.and_eq_true] at h
  have ht : Lib.trimPrefix n a = n.drop a.length := by unfold Lib.trimPrefix; rw [if_pos h.1]
  unfold Lib.trimSuffix
  rw [if_pos h.2, ht, List.length_drop, show n.length - a.length - b.length = n.length - b.length - a.length from by omega]
theorem madeO_ends (n : List UInt8) (p : List (List UInt8)) : madeO n p = (endsO n (p.getD 0 []) (p.getD (p.length - 1) []) && midO ((n.drop (p.getD 0 []).length).take (n.length - (p.getD (p.length - 1) []).length - (p.getD 0 []).length)) ((p.drop 1).take (p.length - 2))) := by
  unfold madeO
  rw [endsO_eq]
  cases h : endsO n (p.getD 0 []) (p.getD (p.length - 1) []) with
  | false => rfl
  | true => rw [endsO_rest h]
end Go.Proofs.YtdgnefcpeocbjaaGreatDoor

/- The document's parts of a text (brookref7.parts): the walk. -/
namespace Go.Proofs.YtdgnefcpeocbjaaGreatDoor
open Go.RowKit
set_option linter.unusedVariables false
set_option linter.unusedSimpArgs false

theorem ext_mid (N : ByteArray) (i j : Nat) : (N.extract i j).data.toList = (N.data.toList.drop i).take (j - i) := by simp [ByteArray.data_extract, Array.toList_extract, List.extract]
set_option maxRecDepth 100000 in
set_option maxHeartbeats 8000000 in
theorem partsRef_any (N : ByteArray) (hN : N.size ≤ 1000000) (p : List (List UInt8)) (b off c n : Nat) (w : World) (hn : n = p.length) (hn2 : 2 ≤ n) (hn3 : n ≤ 1000) (hpl : ∀ x ∈ p, x.length ≤ 1000000) (hmid : ∀ i (h : i < p.length), 0 < i → i + 1 < p.length → p[i] ≠ [])
    (hcell : ∀ j (h : j < p.length), w.cell? ⟨b, off + j, none⟩ = some (strV p[j])) (hb : b < w.heap.size) :
    Calls Tryz.prog 42 #[.string N, .slice (some ⟨b, off, none⟩) n c] w fun e w' => e = .returned (.bool (madeO N.data.toList (p.map low))) ∧ Below w.heap.size w w' := by
  obtain ⟨R, hR⟩ : ∃ R, R = madeO N.data.toList (p.map low) := ⟨_, rfl⟩
  rw [← hR]
  rw [madeO_ends, List.length_map, ← hn] at hR
  obtain ⟨T0, hT0, hTl0⟩ := strV_text (p.getD 0 [])
  obtain ⟨T1, hT1, hTl1⟩ := strV_text (p.getD (n - 1) [])
  obtain ⟨n1, hn1⟩ : ∃ m, n = m + 1 := ⟨n - 1, by omega⟩
  have hc0 : w.cell? ⟨b, off, none⟩ = some (.string T0) := by
    have := hcell 0 (by omega)
    rw [Nat.add_zero] at this
    rw [this, ← hT0, List.getD_eq_getElem?_getD, List.getElem?_eq_getElem (by omega)]
    rfl
  have hc1 : w.cell? ⟨b, off + n1, none⟩ = some (.string T1) := by
    rw [hcell n1 (by omega), ← hT1, show n - 1 = n1 from by omega, List.getD_eq_getElem?_getD, List.getElem?_eq_getElem (by omega)]
    rfl
  have hs0 : T0.size ≤ 1000000 := by rw [← bytes_len, hTl0, List.getD_eq_getElem?_getD, List.getElem?_eq_getElem (by omega)]; exact hpl _ (List.getElem_mem _)
  have hs1 : T1.size ≤ 1000000 := by rw [← bytes_len, hTl1, List.getD_eq_getElem?_getD, List.getElem?_eq_getElem (by omega)]; exact hpl _ (List.getElem_mem _)
  have hl0 := fun W (_ : SamB w W) => lowerRef_any T0 W (by omega)
  have hl1 := fun W (_ : SamB w W) => lowerRef_any T1 W (by omega)
  obtain ⟨A, hA⟩ : ∃ A, A = lowB T0 := ⟨_, rfl⟩
  obtain ⟨B, hB⟩ : ∃ A, A = lowB T1 := ⟨_, rfl⟩
  have hAl : A.data.toList = (p.map low).getD 0 [] := by rw [hA, lowB_list, hTl0, List.getD_eq_getElem?_getD, List.getD_eq_getElem?_getD, List.getElem?_eq_getElem (by omega), List.getElem?_eq_getElem (by rw [List.length_map]; omega)]; simp
  have hBl : B.data.toList = (p.map low).getD (n - 1) [] := by rw [hB, lowB_list, hTl1, List.getD_eq_getElem?_getD, List.getD_eq_getElem?_getD, List.getElem?_eq_getElem (by omega), List.getElem?_eq_getElem (by rw [List.length_map]; omega)]; simp
  have hAs : A.size ≤ 1000000 := by rw [hA, lowB_size]; exact hs0
  have hBs : B.size ≤ 1000000 := by rw [hB, lowB_size]; exact hs1
  rw [← hA] at hl0
  rw [← hB] at hl1
  rw [← hAl, ← hBl] at hR
  obtain ⟨M, hM⟩ : ∃ M, M = ((p.map low).drop 1).take (n - 2) := ⟨_, rfl⟩
  rw [← hM] at hR
  obtain ⟨m, hm⟩ : ∃ m, n1 = m + 1 := ⟨n1 - 1, by omega⟩
  subst hm
  subst hn1
  have hMl : M.length = m := by rw [hM, List.length_take, List.length_drop, List.length_map, ← hn]; omega
  have hMc : ∀ j (h : j < M.length), ∃ X : ByteArray, w.cell? ⟨b, off + (j + 1), none⟩ = some (.string X) ∧ low X.data.toList = M[j] ∧ X.size ≤ 1000000 ∧ M[j] ≠ [] := fun j h => by
    have h2 : j + 1 < p.length := by omega
    obtain ⟨X, hX, hXl⟩ := strV_text p[j + 1]
    have he : M[j] = low p[j + 1] := by
      simp only [hM, List.getElem_take, List.getElem_drop, List.getElem_map]
      congr 2
      omega
    refine ⟨X, by rw [hcell (j + 1) h2, hX], by rw [he, hXl], by rw [← bytes_len, hXl]; exact hpl _ (List.getElem_mem _), ?_⟩
    rw [he]
    intro e
    have h3 := hmid (j + 1) h2 (by omega) (by omega)
    exact h3 (List.eq_nil_of_length_eq_zero (by have := congrArg List.length e; rw [low_length] at this; exact this))
  have hE : ∀ W, SamB w W → W.cell? ⟨b, off, none⟩ = some (.string T0) ∧ W.cell? ⟨b, off + (m + 1), none⟩ = some (.string T1) ∧ SamB w W := fun W hW => ⟨(Below.cell hW (p := ⟨b, off, none⟩) hb).trans hc0, (Below.cell hW (p := ⟨b, off + (m + 1), none⟩) hb).trans hc1, hW⟩
  have HE := Lib.hid hE
  have HL0 := Lib.hid hl0
  have HL1 := Lib.hid hl1
  have HMc := Lib.hid hMc
  have HMl := Lib.hid hMl
  have HRr := Lib.hid hR
  have hst5 := hE w (Below.refl _ _)
  have hst6 := hE w.drew (Below.drew (Below.refl _ _))
  have e1 : IntKind.i64.wrap ((m : Int) + 1 + 1 - 1) = (m : Int) + 1 := by rw [IntWalk.i64_in _ (by omega)]; omega
  have e1b : IntKind.i64.wrap ((m : Int) + 1) = (m : Int) + 1 := IntWalk.i64_in _ (by omega)
  have i0 : (0 : Int) < (m : Int) + 1 + 1 := by omega
  have i1 : (m : Int) + 1 < (m : Int) + 1 + 1 := by omega
  have i2 : (0 : Int) ≤ (m : Int) + 1 := by omega
  have i3 : ((m : Int) + 1).toNat = m + 1 := by omega
  obtain ⟨a, ha⟩ : ∃ a, a = A.size := ⟨_, rfl⟩
  obtain ⟨z, hz⟩ : ∃ a, a = B.size := ⟨_, rfl⟩
  obtain ⟨nl, hnl⟩ : ∃ a, a = N.size := ⟨_, rfl⟩
  have e2 : IntKind.i64.wrap ((A.size : Int) + (B.size : Int)) = (A.size : Int) + (B.size : Int) := IntWalk.i64_in _ (by omega)
  clear hE hl0 hl1 hMc hMl hR hA hB hAl hBl hM hT0 hT1 hTl0 hTl1 hcell hpl hmid hn ha hz hnl hc0 hc1
  go_enter Tryz.func42, Tryz.ntmps42
  go_upto_region 1 with (fail)
  go_region_held3 (fun W => W.cell? ⟨b, off, none⟩ = some (.string T0) ∧ W.cell? ⟨b, off + (m + 1), none⟩ = some (.string T1) ∧ SamB w W)
    (first | (with_reducible exact hst5) | (with_reducible exact hst6) | (go_split_ands; exact HE.out _ (SamB.go (by assumption) hbx)))
    (first
      | (go_at_call 30; go_split_ands; (with_reducible refine (HL0.out _ (by assumption)).mono ?_); rintro e wx ⟨rfl, hbx⟩)
      | (go_at_call 30; go_split_ands; (with_reducible refine (HL1.out _ (by assumption)).mono ?_); rintro e wy ⟨rfl, hbx⟩))
  all_goals
    go_split_ands
    have hT : SamB w wy := by assumption
    have HT := Lib.hid (show Below w.heap.size w wy from hT)
    clear hT
    by_cases hlt : N.size < A.size + B.size
    · have t1 : decide ((N.size : Int) < (A.size : Int) + (B.size : Int)) = true := by simp; omega
      have HF : Hid (R = false) := Lib.hid (by rw [HRr.out]; unfold endsO; rw [bytes_len, bytes_len, bytes_len, decide_eq_false (by omega)]; rfl)
      clear hlt
      go_wp2
      go_ret
      exact ⟨by rw [HF.out]; rfl, HT.out⟩
    · have t1 : decide ((N.size : Int) < (A.size : Int) + (B.size : Int)) = false := by simp; omega
      obtain ⟨nb, hnb⟩ : ∃ x, N.size = x + B.size := ⟨N.size - B.size, by omega⟩
      have e3 : IntKind.i64.wrap ((N.size : Int) - (B.size : Int)) = (nb : Int) := by rw [IntWalk.i64_in _ (by omega)]; omega
      have q0 : (A.size : Int) ≤ (N.size : Int) := by omega
      have q0' : A.size ≤ N.size := by omega
      have q1 : (nb : Int) ≤ (N.size : Int) := by omega
      have q1' : nb ≤ N.size := by omega
      have q2 : (A.size : Int) ≤ (nb : Int) := by omega
      have q2' : A.size ≤ nb := by omega
      obtain ⟨P, hP⟩ : ∃ P, N.extract 0 A.size = P := ⟨_, rfl⟩
      have hPl : P.data.toList = N.data.toList.take A.data.toList.length := by rw [← hP, ext_mid, bytes_len]; simp
      by_cases hPA : P = A
      · subst hPA
        obtain ⟨Q, hQ⟩ : ∃ Q, N.extract nb N.size = Q := ⟨_, rfl⟩
        have hQl : Q.data.toList = N.data.toList.drop (N.data.toList.length - B.data.toList.length) := by
          rw [← hQ, ext_mid, bytes_len, bytes_len, List.take_of_length_le (by rw [List.length_drop, bytes_len]; omega), show N.size - B.size = nb from by omega]
        by_cases hQB : Q = B
        · subst hQB
          obtain ⟨S0, hS0⟩ : ∃ Q, N.extract P.size nb = Q := ⟨_, rfl⟩
          have HSy : Hid (R = midO S0.data.toList M) := Lib.hid (by
            have he : endsO N.data.toList P.data.toList Q.data.toList = true := by
              unfold endsO
              rw [← hPl, ← hQl, bytes_len, bytes_len, bytes_len, decide_eq_true (by omega)]
              simp
            rw [HRr.out, he, ← hS0, ext_mid, bytes_len, bytes_len, bytes_len, show N.size - Q.size - P.size = nb - P.size from by omega]
            rfl)
          have hS0s : S0.size ≤ 1000000 := by rw [← bytes_len, ← hS0, ext_mid, List.length_take, List.length_drop, bytes_len]; omega
          clear hPl hQl hlt hnb
          go_upto_region 5 with (fail)
          clear t1 e3 q0 q0' q1 q1' q2 q2' hP hQ hS0 e1 e1b e2 i0 i1 i2 i3
          go_wp2
          go_loopw [0, 7] (fun r i wr => ∃ (j : Nat) (S : ByteArray), j ≤ m ∧ i = .int .i64 ((j : Int) + 1) ∧ r = .string S ∧ S.size ≤ 1000000 ∧ Hid (R = midO S.data.toList (M.drop j)) ∧ Below w.heap.size w wr) (fun _ i _ => m + 1 - (intOf i).toNat)
          case atStart => exact ⟨0, S0, by omega, rfl, rfl, hS0s, HSy, HT.out⟩
          case round =>
            obtain ⟨j, S, hj, rfl, rfl, hS, HSay, hbel⟩ := hrel
            rename World => wo
            have HBel := Lib.hid hbel
            have eA : IntKind.i64.wrap ((j : Int) + 1 + 1) = (j : Int) + 1 + 1 := IntWalk.i64_in _ (by omega)
            have eB : IntKind.i64.wrap ((j : Int) + 2) = (j : Int) + 2 := IntWalk.i64_in _ (by omega)
            by_cases hjm : j < m
            · have u1 : decide ((j : Int) + 1 + 1 < (m : Int) + 1 + 1) = true := by simp; omega
              have u2 : decide ((j : Int) + 1 < (m : Int) + 1) = true := by simp; omega
              have u3 : decide ((j : Int) < (m : Int)) = true := by simp; omega
              have u4 : decide (j < m) = true := by simpa using hjm
              have hjM : j < M.length := by rw [HMl.out]; exact hjm
              obtain ⟨X, hX, hXl, hXs, hXn⟩ := HMc.out j hjM
              have d0 : wo.cell? ⟨b, off + (j + 1), none⟩ = some (.string X) := (hbel.cell (p := ⟨b, _, none⟩) hb).trans hX
              have hlo := lowerRef_any X wo (by omega)
              obtain ⟨Y, hY⟩ : ∃ Y, Y = lowB X := ⟨_, rfl⟩
              have hYl : Y.data.toList = M[j] := by rw [hY, lowB_list, hXl]
              have hYs : Y.size ≤ 1000000 := by rw [hY, lowB_size]; exact hXs
              have hY1 : 1 ≤ Y.size := by rw [← bytes_len, hYl]; exact List.length_pos_iff.2 hXn
              rw [← hY] at hlo
              have HLo := Lib.hid hlo
              have hdr : M.drop j = M[j] :: M.drop (j + 1) := List.drop_eq_getElem_cons hjM
              have hst : R = ((Lib.cut S.data.toList Y.data.toList).2.2 && midO (Lib.cut S.data.toList Y.data.toList).2.1 (M.drop (j + 1))) := by rw [HSay.out, hdr, hYl]; rfl
              have HSt := Lib.hid hst
              have g0 : (0 : Int) ≤ (j : Int) + 1 := by omega
              have g1 : (j : Int) + 1 < (m : Int) + 1 + 1 := by omega
              have g2 : ((j : Int) + 1).toNat = j + 1 := by omega
              clear hX hXl hXn hlo hY hYl hdr hst hjM hbel
              go_upto_region 9 with (go_at_call 30; refine (HLo.out).mono ?_; rintro e w4 ⟨rfl, hb4⟩; have HB4 := Lib.hid (bthen HBel.out hb4); clear hb4)
              go_wp2
              go_loop [9] (fun i => ∃ k : Nat, i = .int .i64 k ∧ k ≤ S.size ∧ Hid (∀ i, i < k → i + Y.data.toList.length ≤ S.data.toList.length → (S.data.toList.drop i).take Y.data.toList.length ≠ Y.data.toList)) (fun i => S.size + 1 - (intOf i).toNat)
              case atStart => exact ⟨0, rfl, Nat.zero_le _, Lib.hid (fun i h => absurd h (Nat.not_lt_zero _))⟩
              case round =>
                obtain ⟨k, rfl, hk, HNo⟩ := hrel
                have f1 : IntKind.i64.wrap ((k : Int) + (Y.size : Int)) = (k : Int) + (Y.size : Int) := IntWalk.i64_in _ (by omega)
                by_cases hr : k + Y.size ≤ S.size
                · have v1 : decide ((k : Int) + (Y.size : Int) ≤ (S.size : Int)) = true := by simp; omega
                  have v2 : decide ((S.size : Int) < (k : Int) + (Y.size : Int)) = false := by simp; omega
                  have h0 : (0 : Int) ≤ (k : Int) := by omega
                  have h1 : (k : Int) ≤ (k : Int) + (Y.size : Int) := by omega
                  have h2 : (k : Int) + (Y.size : Int) ≤ (S.size : Int) := by omega
                  have h3 : ((k : Int) + (Y.size : Int)).toNat = k + Y.size := by omega
                  have h4 : (0 : Int) ≤ (k : Int) + (Y.size : Int) := by omega
                  obtain ⟨Z, hZ⟩ : ∃ Z, S.extract k (k + Y.size) = Z := ⟨_, rfl⟩
                  have hZl : Z.data.toList = (S.data.toList.drop k).take Y.data.toList.length := by rw [← hZ, ext_mid, bytes_len, show k + Y.size - k = Y.size from by omega]
                  by_cases hZY : Z = Y
                  · subst hZY
                    obtain ⟨V, hV⟩ : ∃ V, S.extract (k + Z.size) S.size = V := ⟨_, rfl⟩
                    have hcut := cutO_hit (s := S.data.toList) (x := Z.data.toList) (i := k) (fun i hi => HNo.out i hi (by rw [bytes_len, bytes_len]; omega)) (by rw [bytes_len, bytes_len]; exact hr) hZl.symm
                    have hVl : V.data.toList = S.data.toList.drop (k + Z.data.toList.length) := by rw [← hV, ext_mid, bytes_len, List.take_of_length_le (by rw [List.length_drop, bytes_len]; omega)]
                    have hVs : V.size ≤ 1000000 := by rw [← bytes_len, hVl, List.length_drop, bytes_len]; omega
                    have HNx : Hid (R = midO V.data.toList (M.drop (j + 1))) := Lib.hid (by rw [HSt.out, hcut, hVl]; rfl)
                    clear hcut hVl hZl hr
                    go_wp2
                    go_roundw
                    case rel => exact ⟨j + 1, V, by omega, by go_num, rfl, hVs, HNx, HB4.out⟩
                    case measure => simp [intOf]; omega
                  · have hne := str_ne hZY
                    have HNo2 : Hid (∀ i, i < k + 1 → i + Y.data.toList.length ≤ S.data.toList.length → (S.data.toList.drop i).take Y.data.toList.length ≠ Y.data.toList) := Lib.hid (fun i h1 h2 => by
                      by_cases e : i = k
                      · subst e
                        rw [← hZl]
                        exact fun e => hZY (bytes_ext e)
                      · exact HNo.out i (by omega) h2)
                    clear hZl hr hZY
                    go_wp2
                    go_round
                    case rel => exact ⟨k + 1, by go_num, by omega, HNo2⟩
                    case measure => simp [intOf]; omega
                · have v1 : decide ((k : Int) + (Y.size : Int) ≤ (S.size : Int)) = false := by simp; omega
                  have v2 : decide ((S.size : Int) < (k : Int) + (Y.size : Int)) = true := by simp; omega
                  have hpast := cutO_past (s := S.data.toList) (x := Y.data.toList) (i := k) (fun e => by rw [← bytes_len, e] at hY1; simp at hY1) (fun i hi hi2 => HNo.out i hi hi2) (by rw [bytes_len, bytes_len]; omega)
                  have HF : Hid (R = false) := Lib.hid (by rw [HSt.out, hpast]; rfl)
                  clear hpast hr
                  go_wp2
                  go_ret
                  exact ⟨by rw [HF.out]; rfl, HB4.out⟩
            · obtain rfl : j = m := by omega
              have u1 : decide ((j : Int) + 1 + 1 < (j : Int) + 1 + 1) = false := by simp
              have HTrue : Hid (R = true) := Lib.hid (by rw [HSay.out, List.drop_of_length_le (by rw [HMl.out]; exact Nat.le_refl _)]; rfl)
              clear hbel
              go_wp2
              go_ret
              exact ⟨by rw [HTrue.out]; rfl, HBel.out⟩
        · have hne := str_ne hQB
          have HF : Hid (R = false) := Lib.hid (by
            rw [HRr.out]
            unfold endsO
            rw [← hQl, show (Q.data.toList == B.data.toList) = false from by simpa using fun e => hQB (bytes_ext e)]
            simp)
          clear hPl hQl hlt hQB hnb
          go_wp2
          go_ret
          exact ⟨by rw [HF.out]; rfl, HT.out⟩
      · have hne := str_ne hPA
        have HF : Hid (R = false) := Lib.hid (by
          rw [HRr.out]
          unfold endsO
          rw [← hPl, show (P.data.toList == A.data.toList) = false from by simpa using fun e => hPA (bytes_ext e)]
          simp)
        clear hPl hlt hPA hnb
        go_wp2
        go_ret
        exact ⟨by rw [HF.out]; rfl, HT.out⟩
end Go.Proofs.YtdgnefcpeocbjaaGreatDoor
