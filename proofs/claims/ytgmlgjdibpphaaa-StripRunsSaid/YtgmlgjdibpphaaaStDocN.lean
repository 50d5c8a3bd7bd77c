/- The document's NewStrip: the walk. -/
import Derived.Test.YtgmlgjdibpphaaaStDocS
namespace Go.Proofs.Ytgmlgjdibpphaaa
open Go.RowKit
set_option linter.unusedVariables false
set_option linter.unusedSimpArgs false

theorem infoStr : (Try.prog.info? 9).map (fun i => (i.zero, i.size, i.bytes)) = some (some (.string ⟨#[]⟩), 1, 16) := by kernel_rfl
theorem wpList_appendT {ops : Array Oper} {rest : List Oper} {o : Oper} {a : Act} {w : World} {Q : Exit → Act → World → Prop} (hgd : o.guard = none) (sl x : Operand)
    (ho : o.op = .call { callee := .builtin .append, args := #[sl, x], argTypes := #[40, 40] })
    (base : Nat) (v : Value) (L : List Blk) (hs : a.eval sl = v) (s : Blk) (T : ByteArray) (hT : T = txtB s) (hown : w.ownsRow base 9 1 v L.length (strsD L)) (hx : a.eval x = .slice (some ⟨w.heap.size, 0, none⟩) 1 1)
    (h63 : L.length + 1 ≤ 1000000) (hbase : base ≤ w.heap.size)
    (h : ∀ v' w', w'.ownsRow base 9 1 v' (L ++ [s]).length (strsD (L ++ [s])) → (w.alloc (.cells #[.string T] 9)).grownBy w' v.ownBlock → wpList Try.prog ops Q rest (a.put o.dst v') w') : wpList Try.prog ops Q (o :: rest) a (w.alloc (.cells #[.string T] 9)) := by
  subst hT
  obtain ⟨i0, hi, hz0, hz1, hz2⟩ := infoS_parts infoStr
  have hn := heap_alloc_new w (.cells #[.string (txtB s)] 9)
  refine wpList_append_own_at _ hgd sl x 40 ho base 9 i0 (.string ⟨#[]⟩) 1 16 Try.underlying40 hi hz0 hz1 hz2 rfl (by decide) v L.length (strsD L) hs (World.ownsRow.alloc hown _) ⟨w.heap.size, 0, none⟩ 1 1 [.string (txtB s)] hx rfl (fun j u hu => by rw [Addr.add_mid, cells_slice hn, Nat.zero_add]; exact hu) (by intro u hu; simp at hu; rw [hu]; rfl) (by unfold maxLen; omega) (by omega) (by rw [size_alloc]; omega) ?_
  intro v' w' hown' hgrow _ hat
  refine h v' w' ?_ hgrow
  rw [List.length_append, show strsD (L ++ [s]) = strsD L ++ [.string (txtB s)] from by simp [strsD]]
  exact hown'
theorem StD.grownS {B d : Nat} {w w1 w' : World} {D : Dt} {sv lv sv' : Value} (h : StD B d w D sv lv) (hb : Below w.heap.size w w1) (hg : w1.grownBy w' sv.ownBlock) {L : List Blk} (hr : w'.ownsRow B 9 1 sv' L.length (strsD L)) :
    StD B d (w'.setCell ⟨d, 0, none⟩ sv') { D with sf := L } sv' lv ∧ TchD B d w (w'.setCell ⟨d, 0, none⟩ sv') ∧ w'.cell? ⟨d, 0, none⟩ = some sv ∧ w'.frozen? ⟨d, 0, none⟩ = false := by
  have h1 := h.below hb
  have hbox : w'.heap[d]? = w1.heap[d]? := hg.block d h1.lt fun e => by
    obtain ⟨_, cs, hc⟩ := rowD_at h1.safe e.symm
    exact ne_type hc h1.box (by decide) rfl
  have hrow : w'.ownsRow B 72 2 lv D.lo.length (flatD D.lo) := row_keepD h1.row fun k cs hc => hg.block k (Array.getElem?_eq_some_iff.1 hc).1 fun e => by
    obtain ⟨_, cs2, hc2⟩ := rowD_at h1.safe e.symm
    exact ne_type hc hc2 (by decide) rfl
  have hbx := hbox.trans h1.box
  have ht : TchD B d w1 w' := ⟨hg.os, hg.tape, hg.output, hg.size, fun k hk _ h3 => hg.block k hk fun e => by
    obtain ⟨r1, cs, hc⟩ := rowD_at h1.safe e.symm
    rcases h3 with h3 | h3
    · omega
    · exact h3 ⟨_, _, _, hc, .inl rfl⟩⟩
  refine ⟨⟨h.hd, heap_setCell_same w' d 0 _ _ _ hbx, row_keepD hr fun k cs hc => heap_setCell_ne _ _ _ _ _ (ne_type hc hbx (by decide)), row_keepD hrow fun k cs hc => heap_setCell_ne _ _ _ _ _ (ne_type hc hbx (by decide))⟩, ((TchD.of_below hb).trans ht).trans (TchD.setCell _ _ _), ?_, free_box hbx 0⟩
  simp only [World.cell?, hbx]
  rfl
set_option maxRecDepth 100000 in
set_option maxHeartbeats 4000000 in
theorem newD_any (n cr k t : Int) (hn : n ≤ 40) (w : World) : Calls Try.prog 11 #[.agg #[.int .i64 n, .int .i64 cr, .int .i64 k, .int .i64 t]] w fun e w' => ∃ d sv, e = .returned (.pointer (some ⟨d, 0, none⟩)) ∧ StD w.heap.size d w' ⟨List.replicate (nB n) zeroB, [], (max 0 cr).toNat, false⟩ sv (.slice none 0 0) ∧ Below w.heap.size w w' := by
  obtain ⟨W1, hW1⟩ : ∃ W, W = w.alloc (.cells #[.int .i64 n, .int .i64 cr, .int .i64 k, .int .i64 t] 23) := ⟨_, rfl⟩
  have hb1 : Below w.heap.size w W1 := by rw [hW1]; exact (Below.refl _ _).alloc (Nat.le_refl _) _
  have hs1 : W1.heap.size = w.heap.size + 1 := by rw [hW1, size_alloc]
  have hc1 : W1.heap[w.heap.size]? = some (.cells #[.int .i64 n, .int .i64 cr, .int .i64 k, .int .i64 t] 23 (0, 0)) := by rw [hW1]; exact heap_alloc_new w _
  obtain ⟨L, hL⟩ : ∃ l, l = (max 0 cr).toNat := ⟨_, rfl⟩
  have m3 : max 0 cr = (L : Int) := by omega
  obtain ⟨W2, hW2⟩ : ∃ W, W = W1.alloc (.cells #[.slice none 0 0, .slice none 0 0, .int .i64 (L : Int), .bool false] 43) := ⟨_, rfl⟩
  have hb2 : Below w.heap.size w W2 := by rw [hW2]; exact hb1.alloc (by omega) _
  obtain ⟨d, hd⟩ : ∃ d, d = W1.heap.size := ⟨_, rfl⟩
  have hst : StD w.heap.size d W2 ⟨[], [], L, false⟩ (.slice none 0 0) (.slice none 0 0) := ⟨by omega, by rw [hW2, hd]; exact heap_alloc_new W1 _, World.ownsRow_nil _ _ _ _, World.ownsRow_nil _ _ _ _⟩
  obtain ⟨Z, hZ⟩ : ∃ Z, Z = (List.replicate 32 (byteV 0)).toArray := ⟨_, rfl⟩
  obtain ⟨z0, hz0⟩ : ∃ z : ByteArray, z = ⟨zeroB.toArray⟩ := ⟨_, rfl⟩
  have hmk := mk32 W2
  have hcv := conv_zero Z hZ W2
  rw [← hZ] at hmk
  rw [← hz0] at hcv
  obtain ⟨W3, hW3⟩ : ∃ W, W = W2.alloc (.cells Z 5) := ⟨_, rfl⟩
  rw [← hW3] at hmk hcv
  have hb23 : Below W2.heap.size W2 W3 := by rw [hW3]; exact (Below.refl _ _).alloc (Nat.le_refl _) _
  have hb3 := hb2.trans (hb23.mono hb2.size)
  have hs3 := hst.below hb23
  obtain ⟨pb, hpb⟩ : ∃ p, p = w.heap.size := ⟨_, rfl⟩
  have hb13 : Below W1.heap.size W1 W3 := by
    have h12 : Below W1.heap.size W1 W2 := by rw [hW2]; exact (Below.refl _ _).alloc (Nat.le_refl _) _
    exact bthenS h12 hb23
  have hc3 : W3.heap[pb]? = some (.cells #[.int .i64 n, .int .i64 cr, .int .i64 k, .int .i64 t] 23 (0, 0)) := (hb13.block pb (by omega)).trans (by rw [hpb]; exact hc1)
  have p1 : W1.cell? ⟨pb, 1, none⟩ = some (.int .i64 cr) := by rw [hpb]; simp [World.cell?, hc1]
  have hpd : pb ≠ d := by omega
  have HPb : Hid (∀ W, TchD w.heap.size d W3 W → W.cell? ⟨pb, 0, none⟩ = some (.int .i64 n)) := Lib.hid (fun W hW => by
    have := (hW.block pb (Array.getElem?_eq_some_iff.1 hc3).1 hpd (.inr (not_isD hc3 (by decide) (by decide)))).trans hc3
    simp [World.cell?, this])
  obtain ⟨N, hN⟩ : ∃ m, m = nB n := ⟨_, rfl⟩
  have hmn : min n 65536 = n := by omega
  have hNn : (∀ j : Nat, j < N → (j : Int) < n) ∧ ¬ ((N : Int) < n) ∧ N ≤ 40 := ⟨fun j hj => by rw [hN] at hj; unfold nB at hj; omega, by rw [hN]; unfold nB; omega, by rw [hN]; unfold nB; omega⟩
  have HW1 := Lib.hid hW1.symm
  have HW2 := Lib.hid hW2.symm
  have HS3 := Lib.hid hs3
  have HB3 := Lib.hid hb3
  have HZ := Lib.hid hz0
  have HNn := Lib.hid hNn
  rw [← hL, ← hN]
  clear hn hb1 hs1 hc1 hL hW1 hW2 hb2 hst hZ hz0 hb23 hb3 hs3 hb13 hc3 hpd hN hNn hW3
  go_enter Try.func11, Try.ntmps11
  go_upto_region 1 with (fail)
  rw [HW1.out, ← hpb]
  clear hpb HW1
  go_upto_region 2 with (fail)
  rw [HW2.out, ← hd]
  clear hd HW2
  go_wp2
  have HS3' : Hid (∃ sv, StD w.heap.size d W3 ⟨List.replicate 0 zeroB, [], L, false⟩ sv (.slice none 0 0)) := Lib.hid ⟨_, HS3.out⟩
  go_loopw [5] (fun kv wr => ∃ j : Nat, j ≤ N ∧ kv = .int .i64 j ∧ Hid (∃ sv, StD w.heap.size d wr ⟨List.replicate j zeroB, [], L, false⟩ sv (.slice none 0 0)) ∧ Hid (TchD w.heap.size d W3 wr)) (fun kv wr => N - (intOf kv).toNat)
  case atStart => exact ⟨0, by omega, rfl, HS3', Lib.hid (TchD.refl _ _ _)⟩
  case round =>
    obtain ⟨j, hj, rfl, HD, HTd⟩ := hrel
    rename World => wr
    have p0 := HPb.out wr HTd.out
    obtain ⟨sv, hsv⟩ := HD.out
    by_cases hlt : j < N
    · have hjn := HNn.out.1 j hlt
      have r1 : decide ((j : Int) < n) = true := by simpa using hjn
      obtain ⟨sa, sc, hsl⟩ := slice_of hsv.safe
      dsimp only at hsl
      obtain ⟨l9, hl9⟩ : ∃ l, l = (List.replicate j zeroB).length := ⟨_, rfl⟩
      rw [← hl9] at hsl
      subst hsl
      have d0 := hsv.cells.1
      have HSv := Lib.hid hsv
      have hBr : w.heap.size ≤ wr.heap.size := Nat.le_trans HB3.out.size HTd.out.size
      have HBr := Lib.hid hBr
      have HNx : Hid (List.replicate j zeroB ++ [zeroB] = List.replicate (j + 1) zeroB) := Lib.hid (by rw [List.replicate_succ'])
      have HJ : Hid ((List.replicate j zeroB).length + 1 ≤ 1000000) := Lib.hid (by rw [List.length_replicate]; have := HNn.out.2.2; omega)
      have w9 : IntKind.i64.wrap ((j : Int) + 1) = (j : Int) + 1 := IntWalk.i64_in _ (by have := HNn.out.2.2; omega)
      clear hsv hl9 hjn hBr
      go_wp2_with (first
        | (refine wpList_appendT rfl (.tmp 24) (.tmp 26) rfl w.heap.size (.slice sa l9 sc) (List.replicate j zeroB) rfl zeroB z0 HZ.out HSv.out.safe rfl HJ.out HBr.out ?_
           intro v3 w3 hr3 hg3
           rw [HNx.out] at hr3
           obtain ⟨ra, rc, hv3⟩ := slice_of hr3
           obtain ⟨ln, hln⟩ : ∃ k, k = (List.replicate (j + 1) zeroB).length := ⟨_, rfl⟩
           rw [← hln] at hv3
           subst hv3
           clear hln
           obtain ⟨hs4, ht4, e4, f4⟩ := HSv.out.grownS ((Below.refl _ _).alloc (Nat.le_refl _) _) hg3 hr3
           have HS4 := Lib.hid hs4
           have HT4 := Lib.hid (HTd.out.trans ht4)
           clear hs4 ht4 hr3 hg3))
      go_roundw
      case rel => exact ⟨j + 1, by omega, by go_num, Lib.hid ⟨_, HS4.out⟩, HT4⟩
      case measure => simp [intOf]; omega
    · obtain rfl : j = N := by omega
      have r1 : decide ((j : Int) < n) = false := by simp; have := HNn.out.2.1; omega
      have HSv := Lib.hid hsv
      have hBr : w.heap.size ≤ W3.heap.size := HB3.out.size
      have HBr := Lib.hid hBr
      clear hsv hBr
      go_wp2
      go_ret
      exact ⟨_, _, rfl, HSv.out, HB3.out.trans (HTd.out.below HSv.out.hd HBr.out)⟩
end Go.Proofs.Ytgmlgjdibpphaaa
