/- ber.fill: the walk. -/
import Derived.Test.YtiagcegclgallaaBack
import Derived.Test.YtiagcegclgallaaHead
import Derived.Test.YtiagcegclgallaaMem
import Derived.Test.YtiagcegclgallaaCopy
import Derived.RegionTactic
import Derived.BigRegion
import Derived.StillTailTactics
namespace Go.Proofs.Ytiagcegclgallaa
open Go.RowKit Go.Shelf
set_option linter.unusedVariables false
attribute [local go_sem] Oper.semAt_some

/-- What fill does with t: it writes its bytes at the end of b, and tells what of b is ahead of them. -/
def FillsT (t : T) : Prop := ∀ (w : World) (g n c : Nat) (A : List Value) (v : Value), w.heap[g]? = some (.cells A.toArray 5 (0, 0)) → A.length = c → n ≤ c → c ≤ 16777215 → (enc t).length ≤ n → NoMix t → IsT g w t v →
  Calls Try.prog 31 #[.slice (some ⟨g, 0, none⟩) n c, v] w fun e w' => e = .returned (.slice (some ⟨g, 0, none⟩) (n - (enc t).length) c) ∧
    w'.heap[g]? = some (.cells (splice A (n - (enc t).length) (bytesV (enc t))).toArray 5 (0, 0)) ∧ w.grownBy w' (some g)

theorem grownBy_drew (w : World) (row : Option Nat) : w.grownBy w.drew row := ⟨rfl, rfl, rfl, Nat.le_refl _, fun _ _ _ => rfl⟩

theorem heap_kept {W W' : World} {row : Option Nat} {B i : Nat} {o : Obj} (h : W.heap[i]? = some o) (ho : o.isCells = true) (hg : W.grownBy W' row) (hr : ∀ r, row = some r → B ≤ r ∧ ∃ o : Obj, W.heap[r]? = some o ∧ o.isCells = false) : W'.heap[i]? = some o := by
  refine (hg.block i (Array.getElem?_eq_some_iff.1 h).1 fun e => ?_).trans h
  obtain ⟨_, o', ho', hc⟩ := hr i e.symm
  rw [h] at ho'; cases ho'; rw [ho] at hc; cases hc

theorem grownBy_later {w W W' : World} {row : Option Nat} {B g : Nat} (h : w.grownBy W (some g)) (hB : w.heap.size ≤ B) (hg : W.grownBy W' row) (hr : ∀ r, row = some r → B ≤ r ∧ ∃ o : Obj, W.heap[r]? = some o ∧ o.isCells = false) : w.grownBy W' (some g) :=
  ⟨hg.os.trans h.os, hg.tape.trans h.tape, hg.output.trans h.output, Nat.le_trans h.size hg.size, fun i hi hne => (hg.block i (Nat.lt_of_lt_of_le hi h.size) fun e => by have := (hr i e.symm).1; omega).trans (h.block i hi hne)⟩

theorem grownBy_below {w W : World} {g : Nat} (h : w.grownBy W (some g)) (hg : g < w.heap.size) : Below g w W :=
  ⟨h.os, h.tape, h.output, h.size, fun k hk => h.block k (by omega) (by simp; omega)⟩

/-- What holds of fill's memory when k of t's list, from the back, have been written. -/
def FillI (w : World) (g n c : Nat) (A : List Value) (tag : Int) (s : ByteArray) (l : List T) (a : Option Addr) (cap m : Nat) (k : Nat) (W : World) : Prop :=
  W.heap[g]? = some (.cells (splice A (n - s.size - (encs (l.drop (l.length - k))).length) (bytesV (encs (l.drop (l.length - k)) ++ s.data.toList))).toArray 5 (0, 0)) ∧
  W.heap[w.heap.size + 1]? = some (.cells #[.slice (some ⟨g, 0, none⟩) (n - s.size - (encs (l.drop (l.length - k))).length) c] 44 (0, 0)) ∧
  W.heap[w.heap.size]? = some (.cells #[.int .i64 tag, .string s, .slice a l.length cap] 24 (0, 0)) ∧ w.grownBy W (some g) ∧ m ≤ W.heap.size

theorem FillI.own {w : World} {g n c : Nat} {A : List Value} {tag : Int} {s : ByteArray} {l : List T} {a : Option Addr} {cap m B : Nat} (hB : w.heap.size ≤ B) : OwnFrom B (FillI w g n c A tag s l a cap m) :=
  fun k W W' row h hg hr => ⟨heap_kept h.1 rfl hg hr, heap_kept h.2.1 rfl hg hr, heap_kept h.2.2.1 rfl hg hr, grownBy_later h.2.2.2.1 hB hg hr, Nat.le_trans h.2.2.2.2 hg.size⟩

/-- The i-th cell of the j-th of a slice of tlvs. -/
noncomputable def cellV (w : World) (a : Option Addr) (j i : Nat) : Value := match a with | some ad => (w.cell? ⟨ad.block, ad.off + j * 3 + i, none⟩).getD undef | none => undef

theorem IsTs.cells {n0 : Nat} {w : World} {l : List T} {a : Option Addr} (h : IsTs n0 w l a 0) (j : Nat) (x : T) (hj : l[j]? = some x) :
    ∃ b off, a = some ⟨b, off, none⟩ ∧ b < n0 ∧ w.cell? ⟨b, off + j * 3, none⟩ = some (cellV w a j 0) ∧ w.cell? ⟨b, off + j * 3 + 1, none⟩ = some (cellV w a j 1) ∧ w.cell? ⟨b, off + j * 3 + 2, none⟩ = some (cellV w a j 2) ∧ IsT n0 w x (.agg #[cellV w a j 0, cellV w a j 1, cellV w a j 2]) := by
  obtain ⟨b, off, v0, v1, v2, rfl, hb, e0, e1, e2, ht⟩ := IsTs.get l a 0 h j x hj
  rw [Nat.zero_add] at e0 e1 e2
  have k0 : cellV w (some ⟨b, off, none⟩) j 0 = v0 := by simp [cellV, e0]
  have k1 : cellV w (some ⟨b, off, none⟩) j 1 = v1 := by simp [cellV, e1]
  have k2 : cellV w (some ⟨b, off, none⟩) j 2 = v2 := by simp [cellV, e2]
  rw [k0, k1, k2]
  exact ⟨b, off, rfl, hb, e0, e1, e2, ht⟩

theorem size5 : (Try.prog.info? 5).map (·.size) = some 1 := by kernel_rfl

set_option maxRecDepth 100000 in
set_option maxHeartbeats 4000000 in
theorem fill_node (tag : Int) (s : ByteArray) (l : List T) (ih : ∀ x ∈ l, FillsT x) : FillsT (.mk tag s l) := by
  rintro w g n c A v hg hA hn hc hlen hmix ⟨a, cap, rfl, hwf, hsz, hll, hl⟩
  have hgs : g < w.heap.size := (Array.getElem?_eq_some_iff.1 hg).1
  have he : (enc (.mk tag s l)).length = (headB tag (body (.mk tag s l)).length).length + (body (.mk tag s l)).length := by rw [enc_eq]; simp [T.tag]
  have hb : (body (.mk tag s l)).length = (encs l).length + s.size := by rw [body_nomix hmix.1]; simp
  have hs : s.size ≤ n := by omega
  have hAn : A.length = c := hA
  have h1 : (0 : Int) ≤ (n : Int) - (s.size : Int) := by omega
  refine callsIn_wide.1 (callsIn_of_wp_marks (F := Fence.wide) (n := 20) Try.func31 rfl trivial ?_ rfl)
  simp only [Try.ntmps31, List.size_toArray, List.length_cons, List.length_nil, Nat.reduceAdd, Nat.reduceSub, Array.replicate_succ, Array.replicate_zero, List.push_toArray, List.append_toArray, List.nil_append, List.cons_append]
  refine wpIn_wide.2 ?_
  have HE := Lib.hid he
  have HB := Lib.hid hb
  clear he hb
  have hg2 : ∀ o1 o2, ((w.alloc o1).alloc o2).drew.heap[g]? = some (.cells A.toArray 5 (0, 0)) := fun o1 o2 => ((Below.heap_alloc _ _ _ (by simp; omega)).trans (Below.heap_alloc _ _ _ hgs)).trans hg
  have hpos : 0 < s.size → (if c = n - s.size then some (⟨g, 0, none⟩ : Addr) else some ⟨g, n - s.size, none⟩) = some ⟨g, n - s.size, none⟩ := fun h => by rw [if_neg (by omega)]
  have hle : s.size ≤ n - (n - s.size) := by omega
  have hfit : n - s.size + s.size ≤ A.length := by omega
  have HG := Lib.hid hg2
  have HP := Lib.hid hpos
  have HL := Lib.hid hle
  have HF := Lib.hid hfit
  clear hg2 hpos hle hfit
  go_wp2_with fail
  obtain ⟨o1, ho1⟩ : ∃ o1 : Obj, o1 = .cells #[.int .i64 tag, .string s, .slice a l.length cap] 24 := ⟨_, rfl⟩
  obtain ⟨o2, ho2⟩ : ∃ o2 : Obj, o2 = .cells #[.slice (some ⟨g, 0, none⟩) (n - s.size) c] 44 := ⟨_, rfl⟩
  rw [← ho1, ← ho2]
  refine wp_region_still_tail 6 (by kernel_rfl) (by kernel_rfl) ?_
  simp only [List.take_succ_cons, List.take_zero, List.drop_succ_cons, List.drop_zero]
  show wpStill Try.prog _ ((w.alloc o1).alloc o2).drew (fun a' => wpList Try.prog _ _ _ a' ((w.alloc o1).alloc o2).drew) _ _
  rw [ho1, ho2]
  clear ho1 ho2
  repeat still_step
  refine wpStill_nil ?_
  refine wpList_copy_str rfl (.tmp 21) (.tmp 23) 44 9 rfl 5 Try.underlying44 size5 (if c = n - s.size then some (⟨g, 0, none⟩ : Addr) else some ⟨g, n - s.size, none⟩) (n - (n - s.size)) (c - (n - s.size)) rfl s rfl HL.out g (n - s.size) A 5 (HG.out _ _) HP.out HF.out fun w2 HG2 hgr2 => ?_
  generalize (if c = n - s.size then some (⟨g, 0, none⟩ : Addr) else some ⟨g, n - s.size, none⟩) = sa
  have hb0 : w2.heap[w.heap.size]? = some (.cells #[.int .i64 tag, .string s, .slice a l.length cap] 24 (0, 0)) := by
    rw [hgr2.block _ (by simp; omega) (by simp; omega)]
    exact (Below.heap_alloc _ _ _ (by simp)).trans (World.alloc_heap_new w _)
  have hb1 : w2.heap[w.heap.size + 1]? = some (.cells #[.slice (some ⟨g, 0, none⟩) (n - s.size) c] 44 (0, 0)) := by
    rw [hgr2.block _ (by simp) (by simp; omega)]
    have := World.alloc_heap_new (w.alloc (.cells #[.int .i64 tag, .string s, .slice a l.length cap] 24)) (.cells #[.slice (some ⟨g, 0, none⟩) (n - s.size) c] 44)
    rwa [World.size_alloc] at this
  have hsz2 : w.heap.size + 2 ≤ w2.heap.size := by have := hgr2.size; simp at this; omega
  have hgr : w.grownBy w2 (some g) := grownBy_trans (grownBy_trans (grownBy_trans (World.grownBy_alloc _ _ _) (World.grownBy_alloc _ _ _)) (grownBy_drew _ _)) hgr2
  have c00 : w2.cell? ⟨w.heap.size, 0, none⟩ = some (.int .i64 tag) := by simp [World.cell?, hb0]
  have c01 : w2.cell? ⟨w.heap.size, 1, none⟩ = some (.string s) := by simp [World.cell?, hb0]
  have c02 : w2.cell? ⟨w.heap.size, 2, none⟩ = some (.slice a l.length cap) := by simp [World.cell?, hb0]
  have HB0 := Lib.hid hb0
  have HB1 := Lib.hid hb1
  clear hb0 hb1 hgr2
  go_wp2_with (go_at_call 42; refine (callsIn_wide.1 (backward_in Fence.wide 5 trivial rfl _ _ _ _)).mono ?_; rintro e w3 ⟨rfl, rfl⟩)
  have hIl : ∀ j x, l[j]? = some x → _ := fun j x hj => hl.cells j x hj
  have hpay : (encs l).length + s.size ≤ n := by have := HE.out; have := HB.out; omega
  refine (wpIn_wide (n := 20)).1 ?_
  refine rangeFunc_seq (F := Fence.wide) rfl (by omega) (gf := 53) (lb := #[.pointer (some ⟨w2.heap.size, 0, none⟩)]) rfl trivial (enters_of Try.func53 (by kernel_rfl) rfl)
    (encs := fun x : Nat => #[Value.int .i64 x, .agg #[cellV w a x 0, cellV w a x 1, cellV w a x 2]]) (Kp := KpB g w2.heap.size) (xs := downFrom l.length)
    (back_runs Fence.wide 19 trivial rfl (by omega) w2.heap.size g a l.length cap (by unfold maxLen at hll; omega) (fun j => cellV w a j 0) (fun j => cellV w a j 1) (fun j => cellV w a j 2) _ (by simp; omega) (by simp) (World.cell?_alloc_new _ _ _ _) ?hc)
    (fun h k => h.trans k) (fun W l o h => kpB_b (by simp; omega) (by simp) W l o h) (fun _ => rfl)
    (FillI w g n c A tag s l a cap (w2.heap.size + 1)) (FillI.own (by simp; omega)) ?h0 (fun x a' W => ∃ Bx, w2.heap.size < Bx ∧ W.heap[Bx]? = some (.cells #[cellV w a x 0, cellV w a x 1, cellV w a x 2] 24 (0, 0)) ∧
      a' = { tmps := #[.slice (some ⟨g, 0, none⟩) n c, .agg #[.int .i64 tag, .string s, .slice a l.length cap], undef, .pointer (some ⟨w.heap.size, 0, none⟩), .slice none 0 0, .pointer (some ⟨w.heap.size + 1, 0, none⟩), undef, .pointer (some ⟨Bx, 0, none⟩), undef, undef,
        .slice (some ⟨g, 0, none⟩) n c, .slice (some ⟨g, 0, none⟩) n c, .int .i64 n, .pointer (some ⟨w.heap.size, 1, none⟩), .string s, .int .i64 s.size, .int .i64 ((n : Int) - s.size), .slice (some ⟨g, 0, none⟩) (n - s.size) c, .slice (some ⟨g, 0, none⟩) n c, .slice (some ⟨g, 0, none⟩) (n - s.size) c,
        .int .i64 ((n - s.size : Nat) : Int), .slice sa (n - (n - s.size)) (c - (n - s.size)), .pointer (some ⟨w.heap.size, 1, none⟩), .string s, .int .i64 s.size, .pointer (some ⟨w.heap.size, 2, none⟩), .slice a l.length cap, .func (.func 53) #[] #[.pointer (some ⟨w2.heap.size, 0, none⟩)],
        .int .i64 x, .agg #[cellV w a x 0, cellV w a x 1, cellV w a x 2], undef, undef, undef, undef, undef, undef, undef, undef, undef, undef, undef, undef, undef, undef, undef, undef, undef, undef, undef, undef, undef, undef, undef, undef], defers := [] })
    (fun x a' _ W W' row h hg hr => by obtain ⟨Bx, h1, h2, h3⟩ := h; exact ⟨Bx, h1, heap_kept h2 rfl hg hr, h3⟩) ?assign ?body ?done
  case hc =>
    intro j hj
    obtain ⟨b, off, e, hb, e0, e1, e2, _⟩ := hIl j l[j] (by simp [hj])
    have hbw := grownBy_below hgr hgs
    have hcw : ∀ o, ((w2.alloc (.cells #[.slice a l.length cap] 22)).cell? ⟨b, o, none⟩) = w.cell? ⟨b, o, none⟩ := fun o => by
      rw [World.cell?_alloc_past _ _ _ (by omega)]; exact hbw.cell (p := ⟨b, o, none⟩) hb
    exact ⟨b, off, e, hb, (hcw _).trans e0, (hcw _).trans e1, (hcw _).trans e2⟩
  case h0 =>
    have hd : l.drop (l.length - 0) = [] := by simp
    unfold FillI
    rw [hd]
    have hgw2 : g < w2.heap.size := by omega
    refine ⟨?_, ?_, ?_, grownBy_trans hgr (World.grownBy_alloc _ _ _), by simp⟩
    · rw [Below.heap_alloc _ _ _ hgw2, HG2.out]; simp [encs]
    · rw [Below.heap_alloc _ _ _ (by omega), HB1.out]; simp [encs]
    · rw [Below.heap_alloc _ _ _ (by omega), HB0.out]
  case assign =>
    intro l' k x W K hx hi hK
    have hszW : w2.heap.size < W.heap.size := hi.2.2.2.2
    have hfin := hK _ _ ((KeepsOthers.alloc W _).from _) (fun i hi' => Below.heap_alloc W (.cells #[cellV w a x 0, cellV w a x 1, cellV w a x 2] 24) i (by omega)) ((FillI.own (B := w.heap.size) (Nat.le_refl _)).alloc _ hi) ⟨W.heap.size, hszW, World.alloc_heap_new W _, rfl⟩
    have HF2 := Lib.hid hfin
    obtain ⟨hk, hxe⟩ := downFrom_some hx
    obtain ⟨b', off', ea, hb', ec0, ec1, ec2, ht⟩ := hIl x (l[x]'(by omega)) (by simp)
    obtain ⟨tg, s', a', n', cap', e⟩ := ht.shape
    simp only [Value.agg.injEq, Array.mk.injEq, List.cons.injEq, and_true] at e
    obtain ⟨e0, e1, e2⟩ := e
    clear hfin hK hi hx ht hxe ea ec0 ec1 ec2
    generalize cellV w a x 0 = u0 at *
    generalize cellV w a x 1 = u1 at *
    generalize cellV w a x 2 = u2 at *
    subst e0 e1 e2
    gi_wp2
    exact HF2.out
  case body =>
    rintro l' k x a' W hlB hx ⟨i1, i2, i3, i4, i5⟩ ⟨Bx, hBx, hcx, rfl⟩
    obtain ⟨hk, hxe⟩ := downFrom_some hx
    have hxl : x < l.length := by omega
    obtain ⟨b', off', ea, hb', ec0, ec1, ec2, ht⟩ := hIl x (l[x]'hxl) (by simp)
    have hq : l.drop (l.length - k) = l.drop (x + 1) := by rw [show l.length - k = x + 1 from by omega]
    rw [hq] at i1 i2
    have hq2 : encs (l.drop (l.length - (k + 1))) = enc (l[x]'hxl) ++ encs (l.drop (x + 1)) := by
      rw [show l.length - (k + 1) = x from by omega, encs_drop l x (l[x]'hxl) (by simp)]
    have hle := encs_drop_le l x
    rw [encs_drop l x (l[x]'hxl) (by simp), List.length_append] at hle
    have hcall := ih (l[x]'hxl) (by simp) W g (n - s.size - (encs (l.drop (x + 1))).length) c _ _ i1 (by rw [length_splice]; exact hA; rw [bytesV_length]; simp; omega) (by omega) hc (by omega) (hmix.2.get _ (by simp)) (ht.below (grownBy_below i4 hgs) (Nat.le_refl _))
    obtain ⟨tg, s', a', n', cap', e⟩ := ht.shape
    simp only [Value.agg.injEq, Array.mk.injEq, List.cons.injEq, and_true] at e
    obtain ⟨e0, e1, e2⟩ := e
    clear hx ht ea ec0 ec1 ec2 hxe hq
    generalize cellV w a x 0 = u0 at *
    generalize cellV w a x 1 = u1 at *
    generalize cellV w a x 2 = u2 at *
    subst e0 e1 e2
    have k5 : W.cell? ⟨w.heap.size + 1, 0, none⟩ = some (.slice (some ⟨g, 0, none⟩) (n - s.size - (encs (l.drop (x + 1))).length) c) := by simp [World.cell?, i2]
    have k70 : W.cell? ⟨Bx, 0, none⟩ = some (.int .i64 tg) := by simp [World.cell?, hcx]
    have k71 : W.cell? ⟨Bx, 1, none⟩ = some (.string s') := by simp [World.cell?, hcx]
    have k72 : W.cell? ⟨Bx, 2, none⟩ = some (.slice a' n' cap') := by simp [World.cell?, hcx]
    have HQ := Lib.hid hq2
    have HCall := Lib.hid hcall
    have HI1 := Lib.hid i1
    have HI2 := Lib.hid i2
    have HI3 := Lib.hid i3
    have HX := Lib.hid hcx
    clear hq2 hcall i1 i2 i3 hcx
    gi_wp2_with fail
    refine ⟨trivial, CallsIn.inRound l' (callsIn_wide.2 (HCall.out.mono ?_))⟩
    rintro e W3 ⟨rfl, j1, j2⟩
    have hne : (some (w.heap.size + 1) : Option Nat) ≠ some g := by simp; omega
    have hlt1 : w.heap.size + 1 < W.heap.size := by omega
    have m2 : W3.heap[w.heap.size + 1]? = some (.cells #[.slice (some ⟨g, 0, none⟩) (n - s.size - (encs (l.drop (x + 1))).length) c] 44 (0, 0)) := (j2.block _ hlt1 hne).trans HI2.out
    have m5 : W3.cell? ⟨w.heap.size + 1, 0, none⟩ = some (.slice (some ⟨g, 0, none⟩) (n - s.size - (encs (l.drop (x + 1))).length) c) := by simp [World.cell?, m2]
    have mf : W3.frozen? ⟨w.heap.size + 1, 0, none⟩ = false := by simp [World.frozen?, m2]
    have hpost : ∀ v, v = Value.slice (some ⟨g, 0, none⟩) (n - s.size - (encs (l.drop (x + 1))).length - (enc (l[x]'hxl)).length) c → KeepsFrom (w2.alloc (.cells #[.slice a l.length cap] 22)).heap.size W (W3.setCell ⟨w.heap.size + 1, 0, none⟩ v) ∧ KpB g w2.heap.size W (W3.setCell ⟨w.heap.size + 1, 0, none⟩ v) ∧
        FillI w g n c A tag s l a cap (w2.heap.size + 1) (k + 1) (W3.setCell ⟨w.heap.size + 1, 0, none⟩ v) := by
      rintro v rfl
      have hgW : g < W.heap.size := by omega
      have hset := grownBy_setCell' W3 (w.heap.size + 1) (.slice (some ⟨g, 0, none⟩) (n - s.size - (encs (l.drop (x + 1))).length - (enc (l[x]'hxl)).length) c)
      have hsz3 := j2.size
      refine ⟨(KeepsFrom.of_grownBy j2 (fun j e => by cases e; simp; omega)).trans ((KeepsOthers.setCell _ _ _).from _), ?_, ?_, ?_, ?_, ?_, ?_⟩
      · intro i hi
        rw [hset.block i (by omega) (by simp; omega)]
        exact j2.block i (by omega) (by simp; omega)
      · rw [hset.block g (by omega) (by simp; omega), j1, HQ.out]
        rw [splice_ahead _ _ _ _ _ (by rw [bytesV_length]; omega) (by rw [bytesV_length]; simp; omega)]
        rw [show n - s.size - (encs (l.drop (x + 1))).length - (enc (l[x]'hxl)).length = n - s.size - (enc (l[x]'hxl) ++ encs (l.drop (x + 1))).length from by rw [List.length_append]; omega]
        simp only [bytesV, List.map_append, List.append_assoc]
      · have := Boxed.set (.slice (some ⟨g, 0, none⟩) (n - s.size - (encs (l.drop (x + 1))).length - (enc (l[x]'hxl)).length) c) (show Boxed W3 (w.heap.size + 1) 44 _ from m2)
        rw [HQ.out, List.length_append]
        refine Eq.trans this ?_
        congr 5; omega
      · rw [hset.block _ (by omega) (by simp)]
        exact (j2.block _ (by omega) (by simp; omega)).trans HI3.out
      · exact ⟨hset.os.trans (j2.os.trans i4.os), hset.tape.trans (j2.tape.trans i4.tape), hset.output.trans (j2.output.trans i4.output), by have := hset.size; have := i4.size; omega,
          fun i hi hne => (hset.block i (by have := i4.size; omega) (by simp; omega)).trans ((j2.block i (by have := i4.size; omega) hne).trans (i4.block i hi hne))⟩
      · have := hset.size; omega
    have HPost := Lib.hid (hpost _ rfl)
    clear hpost j1 j2 m2
    gi_wp2
    exact HPost.out
  case done =>
    rintro D W hD hI hdef
    rw [downFrom_length] at hI
    unfold FillI at hI
    rw [show l.length - l.length = 0 from by omega, List.drop_zero] at hI
    obtain ⟨i1, i2, i3, i4, i5⟩ := hI
    have k30 : W.cell? ⟨w.heap.size, 0, none⟩ = some (.int .i64 tag) := by simp [World.cell?, i3]
    have k5 : W.cell? ⟨w.heap.size + 1, 0, none⟩ = some (.slice (some ⟨g, 0, none⟩) (n - s.size - (encs l).length) c) := by simp [World.cell?, i2]
    obtain ⟨p, hp⟩ : ∃ p, p = n - s.size - (encs l).length := ⟨_, rfl⟩
    rw [← hp] at k5 i1
    have hbn : (n : Int) - (p : Int) = ((body (.mk tag s l)).length : Nat) := by have := HB.out; omega
    have hpn : p ≤ n := by omega
    have HBN := Lib.hid hbn
    have HDef := Lib.hid hdef
    have HI1 := Lib.hid i1
    have HI2 := Lib.hid i2
    have HI3 := Lib.hid i3
    have HPp := Lib.hid hp
    clear hbn hdef i1 i2 i3 hp
    go_wp2_with fail
    rw [HBN.out]
    have hbl : (body (.mk tag s l)).length < 16777216 := by have := HE.out; omega
    obtain ⟨hh, hhe⟩ : ∃ hh, hh = headB tag (body (.mk tag s l)).length := ⟨_, rfl⟩
    have hca := head_any tag (body (.mk tag s l)).length hbl W
    rw [← hhe] at hca
    have hmp : hh.length ≤ p := by have := HE.out; have := HB.out; have := HPp.out; rw [hhe]; omega
    have hm2 : 2 ≤ hh.length := by rw [hhe, headB_length]; have := lenB_le hbl; omega
    have HHe := Lib.hid hhe
    clear hhe
    refine hca.mono ?_
    rintro e W3 ⟨gh, ch, rfl, hown, hbel⟩
    have k5' := (hbel.cell (p := ⟨w.heap.size + 1, 0, none⟩) (by simp; omega)).trans k5
    have hmp' : (0 : Int) ≤ (p : Int) - (hh.length : Int) := by omega
    have hsrc := hown.cells rfl
    have hgWs : g < W.heap.size := by omega
    have hg3 : W3.heap[g]? = some (.cells (splice A p (bytesV (encs l ++ s.data.toList))).toArray 5 (0, 0)) := (hbel.block g hgWs).trans HI1.out
    have hD3 : W3.heap[D]? = some (.deferred (some [])) := (hbel.block D (Array.getElem?_eq_some_iff.1 HDef.out).1).trans HDef.out
    have hDB : w2.heap.size < D := by simp at hD; omega
    have hfitA : p + (encs l ++ s.data.toList).length ≤ A.length := by have := HPp.out; simp; omega
    have hcl : (splice A p (bytesV (encs l ++ s.data.toList))).length = c := by rw [length_splice _ _ _ (by rw [bytesV_length]; exact hfitA)]; exact hA
    have hn2 : (bytesV hh).length = Nat.min hh.length (n - (p - hh.length)) := by rw [bytesV_length]; exact (Nat.min_eq_left (by omega)).symm
    have hfit2 : p - hh.length + (bytesV hh).length ≤ (splice A p (bytesV (encs l ++ s.data.toList))).length := by rw [hcl, bytesV_length]; omega
    have hend : n - (enc (.mk tag s l)).length = p - hh.length := by
      have e1 := HE.out; have e2 := HB.out; have e3 := HPp.out
      rw [← HHe.out] at e1
      omega
    have hcont : splice (splice A p (bytesV (encs l ++ s.data.toList))) (p - hh.length) (bytesV hh) = splice A (p - hh.length) (bytesV (enc (.mk tag s l))) := by
      rw [splice_ahead _ _ _ _ _ (by rw [bytesV_length]; omega) (by rw [bytesV_length]; exact hfitA), enc_eq, body_nomix hmix.1, ← body_nomix hmix.1 (tag := tag)]
      simp only [T.tag]
      rw [← HHe.out, body_nomix hmix.1]
      simp [bytesV]
    have HSrc := Lib.hid hsrc
    have HG3 := Lib.hid hg3
    have HD3 := Lib.hid hD3
    have HN2 := Lib.hid hn2
    have HF2 := Lib.hid hfit2
    have HEnd := Lib.hid hend
    have HCont := Lib.hid hcont
    clear hown hca hsrc hg3 hD3 hn2 hfit2 hend hcont hcl hfitA
    go_wp2_with ((with_reducible show wpList Try.prog _ _ ({ dst := some 50, op := _, type := _, pos := _, after := _, guard := _ } :: _) _ _); refine wpList_copy_row (o := ⟨some 50, _, _, _, _, _⟩) rfl (.tmp 48) (.tmp 49) 44 44 rfl 5 Try.underlying44 size5 g (p - hh.length) (n - (p - hh.length)) (c - (p - hh.length)) ⟨gh, 0, none⟩ hh.length ch rfl rfl _ 5 HG3.out (bytesV hh) HN2.out HSrc.out HF2.out (bytesV_one _) ?_; intro w4 HG4 hgr4)
    have hD4 : w4.heap[D]? = some (.deferred (some [])) := (hgr4.block D (Array.getElem?_eq_some_iff.1 HD3.out).1 (by simp; omega)).trans HD3.out
    refine ⟨by simp, .inl ⟨_, _, rfl, run_takeDeferred hD4, ?_⟩⟩
    refine ⟨_, results_tmp rfl _ _ _, by rw [HEnd.out]; rfl, ?_, ?_⟩
    · rw [World.putObj_heap_other (by omega), HG4.out, HEnd.out, HCont.out]
    · have h3 := hbel.size
      have h4 := hgr4.size
      have h0 := i4.size
      refine ⟨hgr4.os.trans (hbel.os.trans i4.os), hgr4.tape.trans (hbel.tape.trans i4.tape), hgr4.output.trans (hbel.output.trans i4.output), by simp; omega, fun i hi hne => ?_⟩
      rw [World.putObj_heap_other (by omega)]
      exact (hgr4.block i (by omega) hne).trans ((hbel.block i (by omega)).trans (i4.block i hi hne))

mutual
theorem fill_any : ∀ t : T, FillsT t
  | .mk tag s l => fill_node tag s l (fill_all l)
theorem fill_all : ∀ l : List T, ∀ x ∈ l, FillsT x
  | [], x, hx => by cases hx
  | t :: l, x, hx => by
    rcases List.mem_cons.1 hx with h | h
    · rw [h]; exact fill_any t
    · exact fill_all l x h
end
end Go.Proofs.Ytiagcegclgallaa
