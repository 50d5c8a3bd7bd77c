/- strip.undo, Fall: the walks (written by tools/gen_st3.py). -/
import Derived.Test.YtgmlgjdibpphaaaStNew
import Derived.Test.YtgmlgjdibpphaaaRegDet
namespace Go.Proofs.Ytgmlgjdibpphaaa
open Go.RowKit
set_option linter.unusedVariables false
set_option linter.unusedSimpArgs false

theorem exec_copyS {P : Program} {o : Oper} {a : Act} {w w' : World} {s x : Operand} {t t2 : TypeId} {v u v' : Value} (ho : o.op = .call { callee := .builtin .copy, args := #[s, x], argTypes := #[t, t2] }) (hs : a.eval s = v) (hx : a.eval x = u)
    (hr : (Builtin.copy_ #[t, t2] o.type #[v, u]).run P w = .ok v' w') : (execOp a.eval o).run P w = .ok (.value v') w' := by
  unfold execOp
  simp only [ho, resolve, invoke, builtin, Sem.run_bind, Sem.run_pure, Result.andThen_ok, List.map_toArray, List.map_cons, List.map_nil, hs, hx, hr]
theorem cells_ch {w : World} {cb i : Nat} {x : Blk} (h : w.heap[cb]? = some (.cells (cellsC (i, x)).toArray 70 (0, 0))) : w.cell? ⟨cb, 0, none⟩ = some (.int .i64 i) := by
  simp [World.cell?, h, cellsC]
/-- The strip in the midst of undo. -/
structure JU (B b g : Nat) (w0 : World) (cb : Nat) (bl : List Blk) (lo : List (Nat × Blk)) (ch cr : Int) (dn : Bool) (lv : Value) (i : Nat) (x : Blk) (w : World) : Prop where
  st : StA B b g w ⟨bl, lo, ch, cr, dn⟩ lv
  bx : w.heap[cb]? = some (.cells (cellsC (i, x)).toArray 70 (0, 0)) ∧ Tch B b g w0 w
theorem JU.go {B b g : Nat} {w0 w w' : World} {cb : Nat} {bl : List Blk} {lo : List (Nat × Blk)} {ch cr : Int} {dn : Bool} {lv : Value} {i : Nat} {x : Blk} (h : JU B b g w0 cb bl lo ch cr dn lv i x w) (hb : Below w.heap.size w w') : JU B b g w0 cb bl lo ch cr dn lv i x w' :=
  ⟨h.st.below hb, (hb.block _ (Array.getElem?_eq_some_iff.1 h.2.1).1).trans h.2.1, h.2.2.trans (.of_below hb)⟩
theorem undo_len {x y : Blk} {t : Nat} (hy : y.length = 32) (hx : x.length = 32) (ht : t ≤ 32) : (y.take t ++ x.drop t).length = 32 := by
  simp [hx, hy]; omega
theorem undo_copy {B b g : Nat} {w : World} {S : St} {lv : Value} (h : StA B b g w S lv) {i t A A2 cb : Nat} {x y : Blk} (hy : S.bl[i]? = some y) (hc : w.heap[cb]? = some (.cells (cellsC (i, x)).toArray 70 (0, 0))) (hx : x.length = 32) (ht : t ≤ 32) (hA : (t < 32 → A = i * 32 + t ∧ A2 = 1 + t) ∧ (t = 32 → A = i * 32 ∧ A2 = 1)) (ty : TypeId) :
    (Builtin.copy_ #[49, 49] ty #[.slice (some ⟨g, A, none⟩) (32 - t) (32 - t), .slice (some ⟨cb, A2, none⟩) (32 - t) (32 - t)]).run Try.prog w = .ok (goInt (32 - t : Nat)) (w.setRow g (flatB (S.bl.set i (y.take t ++ x.drop t))).toArray) := by
  obtain ⟨hi, hy⟩ := List.getElem?_eq_some_iff.1 hy
  have hfl := flatB_len S.bl h.ok
  have hl : ((x.drop t).map byteV).length = 32 - t := by simp [hx]
  have hr := run_copy_row (P := Try.prog) w 49 49 ty 5 g A (32 - t) (32 - t) ⟨cb, A2, none⟩ (32 - t) (32 - t) (flatB S.bl).toArray 68 ((x.drop t).map byteV) Try.underlying49 (by kernel_rfl) h.blk (by rw [hl]; exact (Nat.min_self _).symm) (fun j v hv => by
    have hj := (List.getElem?_eq_some_iff.1 hv).1
    rw [hl] at hj
    obtain ⟨_, rfl⟩ := hA.1 (by omega)
    rw [Addr.add_mid, cells_slice hc]
    rw [show 1 + t + j = (t + j) + 1 from by omega]
    show ((x.map byteV))[t + j]? = some v
    rw [← hv, List.map_drop, List.getElem?_drop]) (by
    rw [hl]
    simp only [List.size_toArray]
    by_cases h9 : t < 32
    · rw [(hA.1 h9).1]; omega
    · have : t = 32 := by omega
      rw [(hA.2 this).1]; omega) (map_one _)
  rw [hl] at hr
  rw [hr]
  congr 2
  by_cases h9 : t < 32
  · rw [(hA.1 h9).1]
    have := flatB_splice S.bl h.ok i t hi ht x hx
    rw [← hy, ← this]
    simp only [splice, hl, List.append_assoc]
  · have h8 : t = 32 := by omega
    subst h8
    have h7 : (x.drop 32).map byteV = [] := by rw [List.drop_of_length_le (by omega)]; rfl
    have h6 : y.take 32 ++ x.drop 32 = y := by rw [List.drop_of_length_le (by omega), List.append_nil, List.take_of_length_le (by rw [← hy]; exact Nat.le_of_eq (h.ok _ (List.getElem_mem hi)))]
    have h5 : S.bl.set i y = S.bl := by rw [← hy]; exact List.set_getElem_self hi
    rw [h7, h6, h5]
    simp
set_option maxRecDepth 100000 in
set_option maxHeartbeats 2000000 in
theorem undo_any {B b g : Nat} {w0 : World} {bl : List Blk} {lo : List (Nat × Blk)} {ch cr : Int} {dn : Bool} {lv : Value} (h : StA B b g w0 ⟨bl, lo, ch, cr, dn⟩ lv) (hB : B ≤ w0.heap.size) (i t : Nat) (x y : Blk) (hy : bl[i]? = some y) (hx : x.length = 32) (ht : t ≤ 32) : Calls Try.prog 32 #[.pointer (some ⟨b, 0, none⟩), .agg (cellsC (i, x)).toArray, .int .i64 t] w0 fun e w' => e = .returned (.tuple #[]) ∧ StA B b g w' ⟨bl.set i (y.take t ++ x.drop t), lo, ch, cr, dn⟩ lv ∧ Tch B b g w0 w' := by
  obtain ⟨W1, hW1⟩ : ∃ W, W = w0.alloc (.cells (cellsC (i, x)).toArray 70) := ⟨_, rfl⟩
  have hb1 : Below w0.heap.size w0 W1 := by rw [hW1]; exact (Below.refl _ _).alloc (Nat.le_refl _) _
  have hc1 : W1.heap[w0.heap.size]? = some (.cells (cellsC (i, x)).toArray 70 (0, 0)) := by rw [hW1]; exact heap_alloc_new w0 _
  have HJ0 : Hid (JU B b g w0 w0.heap.size bl lo ch cr dn lv i x W1) := Lib.hid ⟨h.below hb1, hc1, .of_below hb1⟩
  have HB := Lib.hid (Nat.le_trans hB hb1.size)
  obtain ⟨hi, hyy⟩ := List.getElem?_eq_some_iff.1 hy
  have HI := Lib.hid hi
  have HY := Lib.hid hy
  have HYl := Lib.hid (show y.length = 32 from by rw [← hyy]; exact h.ok _ (List.getElem_mem hi))
  have HXl := Lib.hid hx
  have HT32 := Lib.hid ht
  have ht0 : (0 : Int) ≤ (t : Int) := by omega
  have ht1 : (t : Int) ≤ 32 := by omega
  obtain ⟨n, hn⟩ : ∃ n, n = bl.length := ⟨_, rfl⟩
  have hin : (i : Int) < (n : Int) := by omega
  have hi0 : (0 : Int) ≤ (i : Int) := by omega
  have HN := Lib.hid hn
  obtain ⟨cb, hcb⟩ : ∃ k, k = w0.heap.size := ⟨_, rfl⟩
  rw [← hcb] at HJ0
  obtain ⟨A, hA⟩ : ∃ A, A = if 32 = t then i * 32 else i * 32 + t := ⟨_, rfl⟩
  obtain ⟨A2, hA2⟩ : ∃ A, A = if 32 = t then 1 else 1 + t := ⟨_, rfl⟩
  have HAA : Hid ((t < 32 → A = i * 32 + t ∧ A2 = 1 + t) ∧ (t = 32 → A = i * 32 ∧ A2 = 1)) := Lib.hid ⟨fun h9 => ⟨by rw [hA, if_neg (by omega)], by rw [hA2, if_neg (by omega)]⟩, fun h9 => ⟨by rw [hA, if_pos h9.symm], by rw [hA2, if_pos h9.symm]⟩⟩
  have HA : Hid ((if 32 = t then (⟨g, i * 32, none⟩ : Addr) else ⟨g, i * 32 + t, none⟩) = ⟨g, A, none⟩ ∧ (if 32 = t then (⟨cb, 1, none⟩ : Addr) else ⟨cb, 1 + t, none⟩) = ⟨cb, A2, none⟩) := Lib.hid (by
    rw [hA, hA2]
    by_cases h9 : 32 = t
    · exact ⟨by rw [if_pos h9, if_pos h9], by rw [if_pos h9, if_pos h9]⟩
    · exact ⟨by rw [if_neg h9, if_neg h9], by rw [if_neg h9, if_neg h9]⟩)
  have HW1 := Lib.hid hW1.symm
  clear hW1 hb1 hc1 h hB hyy hi hy hx ht hn hA hA2
  go_enter Try.func32, Try.ntmps32
  go_upto_region 1 with (fail)
  rw [HW1.out, ← hcb]
  clear hcb HW1
  refine region_J (by kernel_rfl) (B) 6 8 (fun _ _ oi ov _ => ov = [(.pointer (some ⟨b, 0, none⟩) : Value), .pointer (some ⟨b, 0, none⟩), .pointer (some ⟨b, 0, none⟩), .slice (some ⟨g, 0, none⟩) n n, .pointer (some ⟨cb, 0, none⟩), .int .i64 (i : Int), .pointer (some ⟨g, i * 32, none⟩), .int .i64 (t : Int), .slice (some ⟨g, A, none⟩) (32 - t) (32 - t), .pointer (some ⟨cb, 1, none⟩), .int .i64 (t : Int), .slice (some ⟨cb, A2, none⟩) (32 - t) (32 - t)].getD oi undef) (fun _ _ W => JU B b g w0 cb bl lo ch cr dn lv i x W) (fun _ _ _ _ _ h hb => h.go hb) HJ0.out (fun _ _ _ _ _ _ _ h _ => h) (HB.out) (by kernel_rfl) (by kernel_rfl) (by decide) (by rfl) ?hs1 ?hx1 ?hy1 ?hl1
  case hs1 =>
    intro listed a W p q hsz hj hk i0 o ho hi hi1 hi2 hc
    have e0 := hk.read (t := 0) (by kernel_rfl) rfl
    have e2 := hk.read (t := 2) (by kernel_rfl) rfl
    have e4 := hk.read (t := 4) (by kernel_rfl) rfl
    match i0, hi, hi1, hi2 with
    | 0, _, _, _ =>
      obtain rfl := Option.some.inj ho
      exact wpOp_val rfl rfl (v := .pointer (some ⟨b, 0, none⟩)) (w' := W) (by simp [go_sem, e0]) ⟨_, _, rfl, rfl, Below.refl _ _, rfl⟩
    | 1, _, _, _ =>
      obtain rfl := Option.some.inj ho
      obtain ⟨v0, g0, f0⟩ := hk.got (j := 0) rfl rfl (hc ⟨0, .data⟩ (by simp) rfl)
      obtain rfl : v0 = _ := f0
      exact wpOp_val rfl rfl (v := .pointer (some ⟨b, 0, none⟩)) (w' := W) (by simp [go_sem, g0]) ⟨_, _, rfl, rfl, Below.refl _ _, rfl⟩
    | 2, _, _, _ =>
      obtain rfl := Option.some.inj ho
      obtain ⟨v1, g1, f1⟩ := hk.got (j := 1) rfl rfl (hc ⟨1, .data⟩ (by simp) rfl)
      obtain rfl : v1 = _ := f1
      exact wpOp_val rfl rfl (v := .pointer (some ⟨b, 0, none⟩)) (w' := W) (by simp [go_sem, g1]) ⟨_, _, rfl, rfl, Below.refl _ _, rfl⟩
    | 3, _, _, _ =>
      obtain rfl := Option.some.inj ho
      obtain ⟨v2, g2, f2⟩ := hk.got (j := 2) rfl rfl (hc ⟨2, .data⟩ (by simp) rfl)
      obtain rfl : v2 = _ := f2
      have d := cells_box hj.1.box
      exact wpOp_val rfl rfl (v := .slice (some ⟨g, 0, none⟩) n n) (w' := W) (by simp [go_sem, g2, d.1, HN.out]) ⟨_, _, rfl, rfl, Below.refl _ _, rfl⟩
    | 4, _, _, _ =>
      obtain rfl := Option.some.inj ho
      exact wpOp_val rfl rfl (v := .pointer (some ⟨cb, 0, none⟩)) (w' := W) (by simp [go_sem, e4]) ⟨_, _, rfl, rfl, Below.refl _ _, rfl⟩
    | 5, _, _, _ =>
      obtain rfl := Option.some.inj ho
      obtain ⟨v4, g4, f4⟩ := hk.got (j := 4) rfl rfl (hc ⟨4, .data⟩ (by simp) rfl)
      obtain rfl : v4 = _ := f4
      have d := cells_ch hj.2.1
      exact wpOp_val rfl rfl (v := .int .i64 (i : Int)) (w' := W) (by simp [go_sem, g4, d]) ⟨_, _, rfl, rfl, Below.refl _ _, rfl⟩
    | 6, _, h, _ => exact absurd rfl h
    | 7, _, _, _ =>
      obtain rfl := Option.some.inj ho
      exact wpOp_val rfl rfl (v := .int .i64 (t : Int)) (w' := W) (by simp [go_sem, e2]) ⟨_, _, rfl, rfl, Below.refl _ _, rfl⟩
    | 8, _, _, h => exact absurd rfl h
    | 9, _, _, _ =>
      obtain rfl := Option.some.inj ho
      exact wpOp_val rfl rfl (v := .pointer (some ⟨cb, 1, none⟩)) (w' := W) (by simp [go_sem, e4]) ⟨_, _, rfl, rfl, Below.refl _ _, rfl⟩
    | 10, _, _, _ =>
      obtain rfl := Option.some.inj ho
      exact wpOp_val rfl rfl (v := .int .i64 (t : Int)) (w' := W) (by simp [go_sem, e2]) ⟨_, _, rfl, rfl, Below.refl _ _, rfl⟩
    | 11, _, _, _ =>
      obtain rfl := Option.some.inj ho
      obtain ⟨v9, g9, f9⟩ := hk.got (j := 9) rfl rfl (hc ⟨9, .data⟩ (by simp) rfl)
      obtain rfl : v9 = _ := f9
      obtain ⟨v10, g10, f10⟩ := hk.got (j := 10) rfl rfl (hc ⟨10, .data⟩ (by simp) rfl)
      obtain rfl : v10 = _ := f10
      exact wpOp_val rfl rfl (v := .slice (some ⟨cb, A2, none⟩) (32 - t) (32 - t)) (w' := W) (by simp [go_sem, g9, g10, ht0, ht1, HA.out.2]) ⟨_, _, rfl, rfl, Below.refl _ _, rfl⟩
    | m + 12, hm, _, _ => exact absurd hm (by simp)
  case hx1 =>
    intro listed a W hsz hj hk o ho hc
    obtain rfl := Option.some.inj ho
    obtain ⟨v3, g3, f3⟩ := hk.got (j := 3) rfl rfl (hc ⟨3, .data⟩ (by simp) rfl)
    obtain rfl : v3 = _ := f3
    obtain ⟨v5, g5, f5⟩ := hk.got (j := 5) rfl rfl (hc ⟨5, .data⟩ (by simp) rfl)
    obtain rfl : v5 = _ := f5
    exact wpOp_val rfl rfl (v := .pointer (some ⟨g, i * 32, none⟩)) (w' := W) (by simp [go_sem, g3, g5, hi0, hin]) ⟨_, _, rfl, rfl, Below.refl _ _, rfl, hj, fun j u hj2 h => h⟩
  case hy1 =>
    intro listed a W hsz hj hk o ho hc
    obtain rfl := Option.some.inj ho
    obtain ⟨v6, g6, f6⟩ := hk.got (j := 6) rfl rfl (hc ⟨6, .data⟩ (by simp) rfl)
    obtain rfl : v6 = _ := f6
    obtain ⟨v7, g7, f7⟩ := hk.got (j := 7) rfl rfl (hc ⟨7, .data⟩ (by simp) rfl)
    obtain rfl : v7 = _ := f7
    exact wpOp_val rfl rfl (v := .slice (some ⟨g, A, none⟩) (32 - t) (32 - t)) (w' := W) (by simp [go_sem, g6, g7, ht0, ht1, HA.out.1]) ⟨_, _, rfl, rfl, Below.refl _ _, rfl, hj, fun j u hj2 h => h⟩
  case hl1 =>
    intro listed a W hsz hj hk hall
    obtain ⟨v8, g8, f8⟩ := hk.got (j := 8) rfl rfl (hall 8 (by simp))
    obtain rfl : v8 = _ := f8
    obtain ⟨v11, g11, f11⟩ := hk.got (j := 11) rfl rfl (hall 11 (by simp))
    obtain rfl : v11 = _ := f11
    have hcp := undo_copy hj.1 HY.out hj.2.1 HXl.out HT32.out HAA.out
    have hs3 := hj.1.set_row i (y.take t ++ x.drop t) HI.out (undo_len HYl.out HXl.out HT32.out)
    have ht3 := hj.2.2.trans (tch_setRow (B := B) (b := b) W g (flatB (bl.set i (y.take t ++ x.drop t))).toArray)
    dsimp only at hcp hs3
    refine wpOp_val rfl rfl (exec_copyS rfl (by simp [go_sem, g8]) (by simp [go_sem, g11]) (hcp _)) ?_
    have hput := hk.puts
    rw [hput]
    simp only [putT]
    generalize a.tmps[6]?.getD undef = x6
    generalize a.tmps[7]?.getD undef = x7
    generalize a.tmps[8]?.getD undef = x8
    generalize a.tmps[9]?.getD undef = x9
    generalize a.tmps[10]?.getD undef = x10
    generalize a.tmps[11]?.getD undef = x11
    generalize a.tmps[12]?.getD undef = x12
    generalize a.tmps[13]?.getD undef = x13
    generalize a.tmps[14]?.getD undef = x14
    generalize a.tmps[15]?.getD undef = x15
    generalize a.tmps[16]?.getD undef = x16
    generalize a.tmps[17]?.getD undef = x17
    generalize a.tmps[18]?.getD undef = x18
    obtain ⟨W3, hW3⟩ : ∃ X, X = W.setRow g (flatB (bl.set i (y.take t ++ x.drop t))).toArray := ⟨_, rfl⟩
    rw [← hW3] at hs3 ht3 ⊢
    have HS3 := Lib.hid hs3
    have HT3 := Lib.hid ht3
    clear hs3 ht3 hj hk hall hput g8 g11 hW3 hcp hsz
    go_wp2
    go_end0
    exact ⟨rfl, HS3.out, HT3.out⟩

/-! ### Fall -/
def backB (bl : List Blk) (L : List (Nat × Blk)) : List Blk := L.foldr (fun c b => b.set c.1 c.2) bl
def kOf (kp : Int) (n : Nat) : Nat := (max kp 0).toNat % (n + 1)
def tOf (tn : Int) : Nat := (max tn 0).toNat % 33
/-- What a fall leaves of the blocks. -/
def fallB (bl : List Blk) (lo : List (Nat × Blk)) (k t : Nat) : List Blk := match lo[k]? with
  | none => backB bl (lo.drop (k + 1))
  | some c => (backB bl (lo.drop (k + 1))).set c.1 (((backB bl (lo.drop (k + 1))).getD c.1 []).take t ++ c.2.drop t)
theorem backB_len (bl : List Blk) : ∀ L, (backB bl L).length = bl.length
  | [] => rfl
  | c :: L => by simp [backB]; exact backB_len bl L
theorem backB_drop (bl : List Blk) (lo : List (Nat × Blk)) (j : Nat) (h : j < lo.length) : backB bl (lo.drop j) = (backB bl (lo.drop (j + 1))).set lo[j].1 lo[j].2 := by
  rw [List.drop_eq_getElem_cons h]
  rfl
theorem fallB_len (bl : List Blk) (lo : List (Nat × Blk)) (k t : Nat) : (fallB bl lo k t).length = bl.length := by
  unfold fallB
  cases lo[k]? with
  | none => exact backB_len _ _
  | some c => rw [List.length_set]; exact backB_len _ _
theorem kOf_le (kp : Int) (n : Nat) : kOf kp n ≤ n := by
  have := Nat.mod_lt (max kp 0).toNat (show 0 < n + 1 by omega)
  unfold kOf
  omega
theorem tOf_le (tn : Int) : tOf tn ≤ 32 := by
  have := Nat.mod_lt (max tn 0).toNat (show 0 < 33 by omega)
  unfold tOf
  omega
theorem kOf_mod (kp : Int) (n : Nat) : Int.tmod (max kp 0) ((n : Int) + 1) = (kOf kp n : Int) := by
  obtain ⟨m, hm⟩ : ∃ m : Nat, max kp 0 = (m : Int) := ⟨(max kp 0).toNat, by omega⟩
  unfold kOf
  rw [hm, Int.toNat_natCast]
  rw [Int.tmod_eq_emod_of_nonneg (by omega)]
  exact (Int.natCast_emod m (n + 1)).symm
theorem tOf_mod (tn : Int) : Int.tmod (max tn 0) 33 = (tOf tn : Int) := by
  obtain ⟨m, hm⟩ : ∃ m : Nat, max tn 0 = (m : Int) := ⟨(max tn 0).toNat, by omega⟩
  unfold tOf
  rw [hm, Int.toNat_natCast]
  rw [Int.tmod_eq_emod_of_nonneg (by omega)]
  omega
/-- One of the changes, as it lies. -/
theorem StA.change {B b g : Nat} {w : World} {S : St} {lv : Value} (h : StA B b g w S lv) (j : Nat) (c : Nat × Blk) (hc : S.lo[j]? = some c) : ∃ k cap, lv = .slice (some ⟨k, 0, none⟩) S.lo.length cap ∧ w.rangeAt k (j * 33) (cellsC c) := by
  obtain ⟨hj, rfl⟩ := List.getElem?_eq_some_iff.1 hc
  rcases h.row.2 with ⟨_, hz⟩ | ⟨k, cap, cur, h1, h2, h3, h4, h5, h6, h7⟩
  · omega
  · refine ⟨k, cap, h1, fun m v hv => ?_⟩
    have hl := cellsC_len S.lo[j] (h.okc _ (List.getElem_mem hj)).2
    have hm := (List.getElem?_eq_some_iff.1 hv).1
    rw [hl] at hm
    have h8 := flatC_at S.lo (fun c hc => (h.okc c hc).2) j m hj hm
    rw [hv, ← h7, List.getElem?_take_of_lt (by omega)] at h8
    simp only [World.cell?, h3]
    simpa using h8
set_option maxRecDepth 100000 in
set_option maxHeartbeats 4000000 in
theorem fall_any {B b g : Nat} {w0 : World} {bl : List Blk} {lo : List (Nat × Blk)} {ch cr : Int} {dn : Bool} {lv : Value} (h : StA B b g w0 ⟨bl, lo, ch, cr, dn⟩ lv) (hB : B ≤ w0.heap.size) (pn pc pk pt : Int) : Calls Try.prog 19 #[.pointer (some ⟨b, 0, none⟩), .agg #[.int .i64 pn, .int .i64 pc, .int .i64 pk, .int .i64 pt]] w0 fun e w' => e = .returned (.tuple #[]) ∧ StA B b g w' ⟨fallB bl lo (kOf pk lo.length) (tOf pt), [], 0, pc, false⟩ (.slice none 0 0) ∧ Tch B b g w0 w' := by
  obtain ⟨W1, hW1⟩ : ∃ W, W = w0.alloc (.cells #[.int .i64 pn, .int .i64 pc, .int .i64 pk, .int .i64 pt] 23) := ⟨_, rfl⟩
  have hb1 : Below w0.heap.size w0 W1 := by rw [hW1]; exact (Below.refl _ _).alloc (Nat.le_refl _) _
  have hc1 : W1.heap[w0.heap.size]? = some (.cells #[.int .i64 pn, .int .i64 pc, .int .i64 pk, .int .i64 pt] 23 (0, 0)) := by rw [hW1]; exact heap_alloc_new w0 _
  have hst := h.below hb1
  have htc : Tch B b g w0 W1 := .of_below hb1
  have hB1 := Nat.le_trans hB hb1.size
  obtain ⟨n, hn⟩ : ∃ n, n = lo.length := ⟨_, rfl⟩
  obtain ⟨k, hk⟩ : ∃ k, k = kOf pk n := ⟨_, rfl⟩
  obtain ⟨t, ht⟩ : ∃ t, t = tOf pt := ⟨_, rfl⟩
  have hkn : k ≤ n := by rw [hk]; exact kOf_le _ _
  have ht3 : t ≤ 32 := by rw [ht]; exact tOf_le _
  have m1 := kOf_mod pk n
  have m2 := tOf_mod pt
  rw [← hk] at m1
  rw [← ht] at m2
  rw [← hn, ← hk, ← ht]
  obtain ⟨la, lc, hlv⟩ := hst.lv
  dsimp only at hlv
  rw [← hn] at hlv
  have hn6 : n ≤ 1000000 := by rw [hn]; exact h.few
  obtain ⟨pb, hpb⟩ : ∃ p, p = w0.heap.size := ⟨_, rfl⟩
  rw [← hpb] at hc1
  have p1 : W1.cell? ⟨pb, 1, none⟩ = some (.int .i64 pc) := by simp [World.cell?, hc1]
  have p2 : W1.cell? ⟨pb, 2, none⟩ = some (.int .i64 pk) := by simp [World.cell?, hc1]
  have p3 : W1.cell? ⟨pb, 3, none⟩ = some (.int .i64 pt) := by simp [World.cell?, hc1]
  have d1 := hst.cells.2.1
  rw [hlv] at d1
  have HW1 := Lib.hid hW1.symm
  have HSt := Lib.hid hst
  have HTc := Lib.hid htc
  have HB := Lib.hid hB1
  have HC1 := Lib.hid hc1
  have HN := Lib.hid hn
  have HLv := Lib.hid hlv
  have HKn := Lib.hid hkn
  have HT3 := Lib.hid ht3
  have wn : IntKind.i64.wrap ((n : Int) + 1) = (n : Int) + 1 := IntWalk.i64_in _ (by omega)
  have wn2 : IntKind.i64.wrap ((n : Int) - 1) = (n : Int) - 1 := IntWalk.i64_in _ (by omega)
  have hn0 : ¬ ((n : Int) + 1 = 0) := by omega
  clear h hB hW1 hst htc hb1 hc1 hB1 hn hk ht hlv hkn ht3
  go_enter Try.func19, Try.ntmps19
  go_upto_region 1 with (fail)
  rw [HW1.out, ← hpb]
  clear HW1 hpb
  go_upto_region 2 with (fail)
  have hst0 : W1.cell? ⟨pb, 2, none⟩ = some (.int .i64 pk) ∧ W1.cell? ⟨b, 1, none⟩ = some (.slice la n lc) ∧ Below W1.heap.size W1 W1.drew := ⟨p2, d1, (Below.refl _ _).drew⟩
  refine region_det (by kernel_rfl) (fun w' => w'.cell? ⟨pb, 2, none⟩ = some (.int .i64 pk) ∧ w'.cell? ⟨b, 1, none⟩ = some (.slice la n lc) ∧ Below W1.heap.size W1 w') (hst0) (by kernel_rfl) ?_
  simp only [List.toList_toArray]
  repeat' (first
    | (apply det_val; (case hw => rfl); (case hv => (intro w' hS; (obtain ⟨s0, s1, s2⟩ := hS); go_simp; first | done | with_reducible exact rfl)); (simp only [Act.put, List.setIfInBounds_toArray, List.set_cons_zero, List.set_cons_succ]))
    | fail)
  intro wz hSz
  have hbz := hSz.2.2
  have hcz := (hbz.block pb (Array.getElem?_eq_some_iff.1 HC1.out).1).trans HC1.out
  have hstz := HSt.out.below hbz
  have htz : Tch B b g w0 wz := HTc.out.trans (.of_below hbz)
  have hBz := Nat.le_trans HB.out hbz.size
  have q3 : wz.cell? ⟨pb, 3, none⟩ = some (.int .i64 pt) := by simp [World.cell?, hcz]
  have q1 : wz.cell? ⟨b, 1, none⟩ = some (.slice la n lc) := hSz.2.1
  have hne : pb ≠ b ∧ pb ≠ g := ⟨fun e => by
    have := hstz.box
    rw [← e, hcz] at this
    injection this with this
    injection this with _ this
    exact absurd this (by decide), fun e => by
    have := hstz.blk
    rw [← e, hcz] at this
    injection this with this
    injection this with _ this
    exact absurd this (by decide)⟩
  have HPb : Hid (∀ W, Tch B b g wz W → W.cell? ⟨pb, 1, none⟩ = some (.int .i64 pc)) := Lib.hid (fun W hW => by
    have := (hW.block pb (Array.getElem?_eq_some_iff.1 hcz).1 hne.1 hne.2 (.inr (ne_ch hcz (by decide)))).trans hcz
    simp [World.cell?, this])
  have HSz := Lib.hid hstz
  have HTz := Lib.hid htz
  have HBz := Lib.hid hBz
  clear hSz hst0 HC1 HSt HTc HB hbz hcz hstz htz hBz hne p1 p2 p3 d1
  go_wp2
  go_loopw [6] (fun i wr => ∃ m : Nat, m ≤ n ∧ (k + 1 ≤ m ∨ m = n) ∧ i = .int .i64 ((m : Int) - 1) ∧ Hid (StA B b g wr ⟨backB bl (lo.drop m), lo, ch, cr, dn⟩ lv) ∧ Hid (Tch B b g wz wr)) (fun i wr => (intOf i + 1).toNat)
  case atStart =>
    refine ⟨n, Nat.le_refl _, .inr rfl, rfl, Lib.hid ?_, Lib.hid (Tch.refl _ _ _ _)⟩
    rw [List.drop_of_length_le (by rw [HN.out]; exact Nat.le_refl _)]
    exact HSz.out
  case round =>
    obtain ⟨m, hm, hmk, rfl, HS, HT⟩ := hrel
    rename World => wr
    have hBr : B ≤ wr.heap.size := Nat.le_trans HBz.out HT.out.size
    have hl1 := HS.out.cells.2.1
    rw [HLv.out] at hl1
    by_cases hgt : k + 1 < m
    · obtain ⟨j, rfl⟩ : ∃ j, m = j + 1 := ⟨m - 1, by omega⟩
      have e1 : ((j + 1 : Nat) : Int) - 1 = (j : Int) := by omega
      rw [e1]
      have t1 : decide ((k : Int) < (j : Int)) = true := by simp; omega
      have t1' : decide (k < j) = true := by simp; omega
      obtain ⟨c, hc⟩ : ∃ c, lo[j]? = some c := ⟨lo[j]'(by rw [← HN.out]; omega), List.getElem?_eq_getElem _⟩
      obtain ⟨kk, cap, hk1, hra⟩ := HS.out.change j c hc
      rw [HLv.out] at hk1
      dsimp only at hk1
      rw [← HN.out] at hk1
      injection hk1 with hk1 _ hk2
      subst hk1 hk2
      have hcc := HS.out.okc c (List.mem_of_getElem? hc)
      dsimp only at hcc
      obtain ⟨y, hy⟩ : ∃ y, (backB bl (lo.drop (j + 1)))[c.1]? = some y := ⟨_, List.getElem?_eq_getElem hcc.1⟩
      have hun := undo_any HS.out hBr c.1 0 c.2 y hy hcc.2 (by omega)
      rw [List.take_zero, List.drop_zero, List.nil_append] at hun
      have hst2 : ∀ W, StA B b g W ⟨(backB bl (lo.drop (j + 1))).set c.1 c.2, lo, ch, cr, dn⟩ lv → StA B b g W ⟨backB bl (lo.drop j), lo, ch, cr, dn⟩ lv := fun W h => by
        obtain ⟨hj, rfl⟩ := List.getElem?_eq_some_iff.1 hc
        rw [backB_drop bl lo j hj]
        exact h
      have hinf : (Try.prog.info? 70).map (·.size) = some (cellsC c).length := by
        obtain ⟨i0, h1, _, h3, _⟩ := infoS_parts infoC
        rw [h1, cellsC_len c hcc.2]
        simp [h3]
      have HUn := Lib.hid hun
      have HS2 := Lib.hid hst2
      have v0 : (0 : Int) ≤ (j : Int) := by omega
      have v1 : (j : Int) < (n : Int) := by omega
      have wj : IntKind.i64.wrap ((j : Int) - 1) = (j : Int) - 1 := IntWalk.i64_in _ (by omega)
      clear hc hcc hy hun hst2
      go_wp2_with (first
        | (refine wpList_load_mid rfl 70 (.tmp 40) rfl kk (j * 33) rfl (cellsC c) _ hra Try.underlying70 rfl hinf ?_)
        | (go_at_call 32; refine HUn.out.mono ?_; rintro e w2 ⟨rfl, hs2, ht2⟩; have HS3 := Lib.hid (HS2.out _ hs2); have HT3 := Lib.hid (HT.out.trans ht2); clear hs2 ht2))
      go_roundw
      case rel => exact ⟨j, by omega, by omega, rfl, HS3, HT3⟩
      case measure => simp [intOf]
    · have t1 : decide ((k : Int) < (m : Int) - 1) = false := by simp; omega
      have hkn := HKn.out
      have hcr := HS.out
      by_cases hkl : k < n
      · obtain rfl : m = k + 1 := by omega
        have t2 : decide ((k : Int) < (n : Int)) = true := by simp; omega
        have t2' : decide (k < n) = true := by simp; omega
        obtain ⟨c, hc⟩ : ∃ c, lo[k]? = some c := ⟨lo[k]'(by rw [← HN.out]; omega), List.getElem?_eq_getElem _⟩
        obtain ⟨kk, cap, hk1, hra⟩ := HS.out.change k c hc
        rw [HLv.out] at hk1
        dsimp only at hk1
        rw [← HN.out] at hk1
        injection hk1 with hk1 _ hk2
        subst hk1 hk2
        have hcc := HS.out.okc c (List.mem_of_getElem? hc)
        dsimp only at hcc
        obtain ⟨y, hy⟩ : ∃ y, (backB bl (lo.drop (k + 1)))[c.1]? = some y := ⟨_, List.getElem?_eq_getElem hcc.1⟩
        have hun := undo_any HS.out hBr c.1 t c.2 y hy hcc.2 HT3.out
        have hfb : fallB bl lo k t = (backB bl (lo.drop (k + 1))).set c.1 (y.take t ++ c.2.drop t) := by
          unfold fallB
          rw [hc]
          show (backB bl (lo.drop (k + 1))).set c.1 (((backB bl (lo.drop (k + 1))).getD c.1 []).take t ++ c.2.drop t) = _
          rw [List.getD_eq_getElem?_getD, hy]
          rfl
        rw [← hfb] at hun
        have hinf : (Try.prog.info? 70).map (·.size) = some (cellsC c).length := by
          obtain ⟨i0, h1, _, h3, _⟩ := infoS_parts infoC
          rw [h1, cellsC_len c hcc.2]
          simp [h3]
        have HUn := Lib.hid hun
        have v0 : (0 : Int) ≤ (k : Int) := by omega
        have v1 : (k : Int) < (n : Int) := by omega
        clear hc hcc hy hun hfb hcr
        go_upto_region 10 with (first
          | (refine wpList_load_mid rfl 70 (.tmp 56) rfl kk (k * 33) rfl (cellsC c) _ hra Try.underlying70 rfl hinf ?_)
          | (go_at_call 32; refine HUn.out.mono ?_; rintro e w2 ⟨rfl, hs2, ht2⟩; have HS3 := Lib.hid hs2; have HT4 := Lib.hid (HT.out.trans ht2); clear hs2 ht2))
        have hsn := HS3.out.set_nil
        have hsd := hsn.set_dn false
        have f1 := HS3.out.frozen 1
        have g1 := HS3.out.cells.2.1
        have f4 := hsn.frozen 4
        have g4 := hsn.cells.2.2.2.2
        have htl := (HT4.out.trans (Tch.setCell w2 1 (.slice none 0 0))).trans (Tch.setCell (B := B) (g := g) (b := b) _ 4 (.bool false))
        have hte := tear_any hsd pc
        have hp := HPb.out _ htl
        have HT5 := Lib.hid (HTz.out.trans htl)
        clear hsn hsd htl
        go_wp2_with (go_at_call 17; refine hte.mono ?_; rintro e w4 ⟨rfl, hs4, ht4⟩; have HS4 := Lib.hid hs4; have HT6 := Lib.hid (HT5.out.trans ht4); clear hs4 ht4)
        go_end0
        exact ⟨rfl, HS4.out, HT6.out⟩
      · have t2 : decide ((k : Int) < (n : Int)) = false := by simp; omega
        have t2' : decide (k < n) = false := by simp; omega
        have hfb : fallB bl lo k t = backB bl (lo.drop m) := by
          unfold fallB
          rw [List.getElem?_eq_none (by rw [← HN.out]; omega), List.drop_of_length_le (by rw [← HN.out]; omega), List.drop_of_length_le (by rw [← HN.out]; omega)]
        rw [← hfb] at hcr
        have HS3 := Lib.hid hcr
        clear hfb hcr
        go_upto_region 10 with (fail)
        have hsn := HS3.out.set_nil
        have hsd := hsn.set_dn false
        have f1 := HS3.out.frozen 1
        have g1 := HS3.out.cells.2.1
        have f4 := hsn.frozen 4
        have g4 := hsn.cells.2.2.2.2
        have htl := (HT.out.trans (Tch.setCell wr 1 (.slice none 0 0))).trans (Tch.setCell (B := B) (g := g) (b := b) _ 4 (.bool false))
        have hte := tear_any hsd pc
        have hp := HPb.out _ htl
        have HT5 := Lib.hid (HTz.out.trans htl)
        clear hsn hsd htl
        go_wp2_with (go_at_call 17; refine hte.mono ?_; rintro e w4 ⟨rfl, hs4, ht4⟩; have HS4 := Lib.hid hs4; have HT6 := Lib.hid (HT5.out.trans ht4); clear hs4 ht4)
        go_end0
        exact ⟨rfl, HS4.out, HT6.out⟩
end Go.Proofs.Ytgmlgjdibpphaaa

