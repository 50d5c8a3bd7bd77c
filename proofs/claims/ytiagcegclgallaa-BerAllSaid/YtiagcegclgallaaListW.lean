/- ber.list: the walk, over tlv's contract. -/
import Derived.Test.YtiagcegclgallaaEls
namespace Go.Proofs.Ytiagcegclgallaa
open Go.RowKit
set_option linter.unusedVariables false

theorem info24 : (Try.prog.info? 24).map (fun i => (i.zero, i.size, i.bytes)) = some (some (.agg #[.int .i64 0, .string ⟨#[]⟩, .slice none 0 0]), 3, 48) := by kernel_rfl

/-- What the rounds hold: place q, ts read so far. -/
def Gone (W : World) (c : ByteArray) (d : Nat) (v : Value) (wr : World) (q : Nat) (ts : List T) : Prop :=
  q ≤ c.size ∧ Rd wr W.heap.size c q ∧ ts.length ≤ q ∧ (∃ f, c.size - q ≤ f ∧ decsWith (dec d) c.size c.data.toList = (decsWith (dec d) f (c.data.toList.drop q)).map (ts ++ ·)) ∧
  (∃ xs, wr.ownsRow (W.heap.size + 1) 24 3 v ts.length xs ∧ Els (W.heap.size + 1) wr v.ownBlock ts xs) ∧ Below W.heap.size W wr

theorem dec_err {d : Nat} {l : List UInt8} {e : Int} (h : dec d l = .error e) : ¬ e = 0 := by
  by_cases e1 : (tagD l).2.1 ≠ 0
  · unfold dec at h; rw [if_pos e1] at h; cases h; exact e1
  · by_cases e2 : (lenD (l.drop 1)).2.1 ≠ 0
    · unfold dec at h; rw [if_neg e1, if_pos e2] at h; cases h; exact e2
    · obtain ⟨m, e3⟩ : ∃ m, (lenD (l.drop 1)).1.toNat = m := ⟨_, rfl⟩
      by_cases e5 : l.length < 1 + (lenD (l.drop 1)).2.2 + m
      · rw [dec_more d l m _ e1 e2 e3 rfl e5] at h; cases h; decide
      · by_cases e6 : isListB (tagD l).1 = true
        · cases d with
          | zero => rw [dec_list0 l m _ e1 e2 e3 rfl e5 e6] at h; cases h; decide
          | succ d' =>
            rw [dec_listS d' l m _ e1 e2 e3 rfl e5 e6] at h
            generalize decsWith (dec d') m _ = r at h
            cases r with
            | none => cases h; decide
            | some ts => cases h
        · rw [dec_leaf d l m _ e1 e2 e3 rfl e5 (by simpa using e6)] at h
          cases h

def placeOf (w : World) (b : Nat) : Nat := match w.cell? ⟨b, 1, none⟩ with | some (.int _ p) => p.toNat | _ => 0
theorem Rd.place {W : World} {b : Nat} {s : ByteArray} {p : Nat} (h : Rd W b s p) : placeOf W b = p := by unfold placeOf; rw [h.c1]; simp

theorem news3 (w : World) (o : Obj) (x0 x1 x2 : Value) : ∀ j u, [x0, x1, x2][j]? = some u → ((w.alloc o).alloc (.cells #[x0, x1, x2] 24)).cell? ((⟨w.heap.size + 1, 0, none⟩ : Addr).add j) = some u := by
  intro j u hu
  have h : ((w.alloc o).alloc (.cells #[x0, x1, x2] 24)).heap[w.heap.size + 1]? = some (.cells #[x0, x1, x2] 24 (0, 0)) := by
    have := World.alloc_heap_new (w.alloc o) (.cells #[x0, x1, x2] 24)
    rw [World.size_alloc] at this; exact this
  have hadd : (⟨w.heap.size + 1, 0, none⟩ : Addr).add j = ⟨w.heap.size + 1, j, none⟩ := by unfold Addr.add; split <;> simp_all
  rw [hadd]
  simp only [World.cell?, h]
  simpa using hu

/-- What a round has in its hands ahead of its append. -/
theorem gone_mid {W wr w2 : World} {b n1 q : Nat} {c : ByteArray} {v x0 x1 x2 : Value} {ts : List T} {xs : List Value} {t : T} (hb : b = W.heap.size)
    (hown : wr.ownsRow (b + 1) 24 3 v ts.length xs) (hels : Els (b + 1) wr v.ownBlock ts xs) (hblt : b < wr.heap.size) (hw2 : Went (wr.drewN n1) w2 b c q) (hnew : NewT (wr.drewN n1).heap.size w2 t (.agg #[x0, x1, x2])) (o o' : Obj) :
    ((w2.alloc o).alloc o').ownsRow (b + 1) 24 3 v ts.length xs ∧ Els (b + 1) ((w2.alloc o).alloc o') v.ownBlock (ts ++ [t]) (xs ++ [x0, x1, x2]) := by
  have hs : wr.heap.size ≤ w2.heap.size := hw2.2.size
  have hlt := hown.lt
  have hne : v.ownBlock = none ∨ v.ownBlock ≠ some b := by
    cases hv : v.ownBlock with
    | none => exact .inl rfl
    | some k => refine .inr fun e => ?_; cases e; have := (hlt b hv).1; omega
  have g1 : wr.grownBy w2 (some b) := ⟨hw2.2.os, hw2.2.tape, hw2.2.output, hw2.2.size, hw2.2.block⟩
  refine ⟨((hown.kept g1 hne).alloc _).alloc _, ?_⟩
  have e1 : Els (b + 1) w2 v.ownBlock ts xs := Els.step (g0 := b) (fun k hk hn => g1.block k hk (fun e => hn (by cases e; rfl))) hs (.inl (Nat.lt_succ_self _)) (fun g hg => .inl hg) hels
  have e2 := Els.snoc (hnew.mono (by show b + 1 ≤ wr.heap.size; omega)) (fun g hg => hnew.2 g (by have := (hlt g hg).2; exact this)) e1
  exact Els.step (g0 := w2.heap.size) (fun k hk _ => (Below.heap_alloc _ _ _ (by simp; omega)).trans (Below.heap_alloc _ _ _ hk)) (by simp; omega) (.inr (.inr (Nat.le_refl _))) (fun g hg => .inl hg) e2

/-- What it has behind it. -/
theorem gone_next {w3 w4 : World} {b q : Nat} {c : ByteArray} {v v' : Value} {ts : List T} {xs : List Value}
    (hown : w3.ownsRow (b + 1) 24 3 v ts.length xs) {us : List T} {ys : List Value} (hels : Els (b + 1) w3 v.ownBlock us ys) (hrd : Rd w3 b c q) (hgrow : w3.grownBy w4 v.ownBlock) (hat : v'.ownBlock = v.ownBlock ∨ v'.ownBlock = some w3.heap.size) :
    Els (b + 1) w4 v'.ownBlock us ys ∧ Rd w4 b c q ∧ Below b w3 w4 := by
  have hlt := hown.lt
  refine ⟨Els.step (g0 := v.ownBlock.getD w3.heap.size) ?_ hgrow.size ?_ ?_ hels, ?_, ?_⟩
  · intro k hk hn
    refine hgrow.block k hk fun e => hn ?_
    rw [← e]; rfl
  · cases hv : v.ownBlock with
    | none => exact .inr (.inr (Nat.le_refl _))
    | some g => exact .inr (.inl rfl)
  · intro g hg
    rcases hat with h | h
    · exact .inl (h ▸ hg)
    · rw [h] at hg; cases hg; exact .inr (.inr (Nat.le_refl _))
  · exact (hgrow.block b hrd.lt (fun e => by have := (hlt b e.symm).1; omega)).trans hrd
  · exact ⟨hgrow.os, hgrow.tape, hgrow.output, hgrow.size, fun k hk => hgrow.block k (by have := hrd.lt; omega) (fun e => by have := (hlt k e.symm).1; omega)⟩

set_option maxRecDepth 100000 in
set_option maxHeartbeats 4000000 in
theorem list_node (d : Nat) (hd : d ≤ 11) (htlv : TlvW d) : ListW d := by
  intro W c hc
  have hs' : c.size ≤ maxLen := by unfold maxLen; omega
  obtain ⟨u, hu⟩ : ∃ u : Int, u = ((12 - d : Nat) : Int) := ⟨_, rfl⟩
  have hu0 : 0 ≤ u := by omega
  have hu1 : u ≤ 12 := by omega
  have ht1 : decide ((12 : Int) < u) = false := by simp; omega
  have htl := fun W' q h' hq => htlv W' W.heap.size c q h' (by omega) hq
  rw [← hu] at htl ⊢
  have HTl := Lib.hid htl
  have hlf := fun W' q h' hq => left_any W' W.heap.size c q h' hs' hq
  have HLf := Lib.hid hlf
  obtain ⟨i0, hi, hz0, hz1, hz2⟩ := info_parts info24
  have hg0 : Gone W c d (.slice none 0 0) (W.alloc (.cells #[.string c, .int .i64 0] 68)) 0 [] :=
    ⟨Nat.zero_le _, World.alloc_heap_new W _, Nat.le_refl _, ⟨c.size, by omega, by simp⟩, ⟨[], World.ownsRow_nil _ _ _ _, rfl⟩, (Below.refl _ _).alloc (Nat.le_refl _) _⟩
  have HG0 := Lib.hid hg0
  clear htl hlf hu htlv hg0
  go_enter Try.func48, Try.ntmps48
  go_wp2
  go_loopw [7] (fun v wr => ∃ q ts, Gone W c d v wr q ts) (fun v wr => c.size - placeOf wr W.heap.size)
  case atStart => exact ⟨0, [], HG0.out⟩
  case round =>
    obtain ⟨q, ts, hq, hrd, htq, ⟨f, hf, hdec⟩, ⟨xs, hown, hels⟩, hbel⟩ := hrel
    have HDec := Lib.hid hdec
    have HEls := Lib.hid hels
    have HOwn := Lib.hid hown
    have HRd := Lib.hid hrd
    have HBel := Lib.hid hbel
    have hlf2 := HLf.out wr q hrd hq
    have hWlt : W.heap.size < wr.heap.size := hrd.lt
    by_cases hend : q = c.size
    · have hd0 : (c.data.toList.drop q) = [] := by rw [hend]; simp
      rw [hd0, decs_nil] at hdec
      have hR : decsWith (dec d) c.size c.data.toList = some ts := by rw [hdec]; simp
      obtain ⟨a, cp, hv, his, hoff⟩ := Els.done hels hown
      rw [hv]
      have hz : ((c.size - q : Nat) : Int) = 0 := by omega
      rw [hz] at hlf2
      have HLf2 := Lib.hid hlf2
      have HR := Lib.hid hR
      have HIs := Lib.hid his
      have HOff := Lib.hid hoff
      clear hdec hels hown hrd hbel hlf2 hend hd0 hR his hoff hv HDec hz HG0
      go_wp2_with (go_at_call 45; refine (HLf2.out).mono ?_; rintro e w1 ⟨rfl, n1, rfl⟩)
      go_ret2
      rw [HR.out]
      have hbn : Below wr.heap.size wr (wr.drewN n1) := ⟨rfl, rfl, rfl, Nat.le_refl _, fun _ _ => rfl⟩
      have hgn : ButG wr.heap.size wr.heap.size wr (wr.drewN n1) := fun _ _ _ => rfl
      exact ⟨HBel.out.trans (hbn.mono (by omega)), a, cp, rfl, by unfold maxLen; omega, IsTs.below hbn (Nat.le_refl _) ts a 0 HIs.out, fun g hg => OffTs.butG hgn ts a 0 HIs.out (IsTs.off (Nat.le_refl _) ts a 0 HIs.out) (HOff.out g (by omega))⟩
    · have hz : decide ((0 : Int) < ((c.size - q : Nat) : Int)) = true := by simp; omega
      have hz' : decide (0 < c.size - q) = true := by simp; omega
      have hz'' : 0 < c.size - q := by omega
      have HLf2 := Lib.hid hlf2
      have hne : c.data.toList.drop q ≠ [] := by intro e; have := congrArg List.length e; simp at this; omega
      obtain ⟨r, hr⟩ : ∃ r, r = dec d (c.data.toList.drop q) := ⟨_, rfl⟩
      have htl := fun W' h' => HTl.out W' q h' hq
      rw [← hr] at htl
      cases r with
      | error er =>
        rw [decs_err hr.symm hne] at hdec
        have hR : decsWith (dec d) c.size c.data.toList = none := by rw [hdec]; rfl
        have hern : (er != 0) = true := by simpa using dec_err hr.symm
        have hern' : ¬ er = 0 := dec_err hr.symm
        have HR := Lib.hid hR
        have HTl2 := Lib.hid htl
        clear hdec hels hown hrd hbel hlf2 hend hR HDec HG0 htl hr hne
        go_wp2_with (first
          | (go_at_call 45; refine (HLf2.out).mono ?_; rintro e w1 ⟨rfl, n1, rfl⟩)
          | (go_at_call 34; refine (HTl2.out _ (Went.drewN HRd.out n1).rd).mono ?_; rintro e w2 ⟨he, q2, hw2⟩; (unfold zeroV at he); subst he; have HW2 := Lib.hid hw2; clear hw2))
        go_ret2
        rw [HR.out]
        exact ⟨((HBel.out.grown ((Went.drewN HRd.out n1).2) (by omega) (by intro k e; cases e; omega)).grown HW2.out.2 (by show W.heap.size ≤ wr.heap.size; omega) (by intro k e; cases e; omega)).trans ((Below.refl _ _).alloc (Nat.le_refl _) _ |>.mono (by have := HW2.out.2.size; exact Nat.le_trans (Nat.le_of_lt hWlt) this)), rfl⟩
      | ok tn =>
        obtain ⟨t, n⟩ := tn
        cases f with
        | zero => exact absurd hf (by omega)
        | succ f =>
          rw [decs_ok hr.symm hne, List.drop_drop] at hdec
          have hpos := dec_pos hr.symm
          rw [List.length_drop] at hpos
          have hcl : c.data.toList.length = c.size := by simp
          rw [hcl] at hpos
          have HR := Lib.hid hdec
          have HTl2 := Lib.hid htl
          clear hdec hels hown hrd hbel hlf2 hend HDec HG0 htl hr hne hcl
          go_wp2_with (first
            | (go_at_call 45; refine (HLf2.out).mono ?_; rintro e w1 ⟨rfl, n1, rfl⟩)
            | (go_at_call 34; refine (HTl2.out _ (Went.drewN HRd.out n1).rd).mono ?_; rintro e w2 ⟨v, rfl, hnew, hw2⟩; have HW2 := Lib.hid hw2; (obtain ⟨tag0, s0, a0, n0, cap0, rfl⟩ := hnew.1.shape); have HNew := Lib.hid hnew; clear hw2 hnew)
            | (at_builtin; have hmid := gone_mid rfl HOwn.out HEls.out hWlt HW2.out HNew.out (.cells #[.int .i64 tag0, .string s0, .slice a0 n0 cap0] 24) (.cells #[.int .i64 tag0, .string s0, .slice a0 n0 cap0] 24); refine wpList_append_own_at _ rfl _ _ 22 rfl (W.heap.size + 1) 24 i0 (.agg #[.int .i64 0, .string ⟨#[]⟩, .slice none 0 0]) 3 48 Try.underlying22 hi hz0 hz1 hz2 rfl (by decide) _ ts.length xs rfl hmid.1 ⟨_, 0, none⟩ 1 1 [.int .i64 tag0, .string s0, .slice a0 n0 cap0] rfl rfl (news3 _ _ _ _ _) (by intro u hu; simp at hu; rcases hu with rfl | rfl | rfl <;> rfl) (by unfold maxLen; omega) (by omega) (by have := HW2.out.2.size; have : wr.heap.size ≤ w2.heap.size := this; simp; omega) ?_; intro v' w4 hown' hgrow _ hat; have hrd3 : Rd ((w2.alloc (.cells #[.int .i64 tag0, .string s0, .slice a0 n0 cap0] 24)).alloc (.cells #[.int .i64 tag0, .string s0, .slice a0 n0 cap0] 24)) W.heap.size c (q + n) := ((Below.heap_alloc _ _ _ (by have := HW2.out.1.lt; simp; omega)).trans (Below.heap_alloc _ _ _ HW2.out.1.lt)).trans HW2.out.1; have hnx := gone_next hmid.1 hmid.2 hrd3 hgrow hat; have HNx := Lib.hid hnx; have HOwn4 := Lib.hid hown'; clear hmid hown' hgrow hat hrd3 hnx))
          go_roundw
          case rel =>
            refine ⟨q + n, ts ++ [t], by omega, HNx.out.2.1, by simp; omega, ⟨f, by omega, ?_⟩, ⟨_, ?_, HNx.out.1⟩, ?_⟩
            · rw [HR.out]; cases decsWith (dec d) f _ <;> simp
            · rw [List.length_append]; exact HOwn4.out
            · have h1 : Below W.heap.size wr w2 := ⟨HW2.out.2.os, HW2.out.2.tape, HW2.out.2.output, HW2.out.2.size, fun k hk => HW2.out.2.block k (by show k < wr.heap.size; omega) (by intro e; cases e; omega)⟩
              exact ((HBel.out.trans h1).alloc (by have : wr.heap.size ≤ w2.heap.size := HW2.out.2.size; omega) _ |>.alloc (by have : wr.heap.size ≤ w2.heap.size := HW2.out.2.size; simp; omega) _).trans HNx.out.2.2
          case measure =>
            rw [HNx.out.2.1.place, HRd.out.place]; omega

/-- Thirteen deep: no. -/
theorem list_deep (W : World) (c : ByteArray) : Calls Try.prog 48 #[.string c, .int .i64 13] W fun e w' => e = .returned (.tuple #[.slice none 0 0, .bool false]) ∧ W = w' := by
  go_enter Try.func48, Try.ntmps48
  go_wp2
  go_ret2
  exact ⟨rfl, rfl⟩

theorem tlv_list : ∀ d, d ≤ 12 → TlvW d ∧ (d ≤ 11 → ListW d)
  | 0, _ => by
    have h := tlv_node 0 (by omega) (fun d' h => by omega) (fun _ => list_deep)
    exact ⟨h, fun _ => list_node 0 (by omega) h⟩
  | d + 1, hd => by
    have ih := tlv_list d (by omega)
    have h := tlv_node (d + 1) hd (fun d' e => by cases e; exact ih.2 (by omega)) (fun e => by omega)
    exact ⟨h, fun h' => list_node (d + 1) h' h⟩

/-- ber.reader.tlv, from the outermost. -/
theorem tlv_any : TlvW 12 := (tlv_list 12 (by omega)).1

end Go.Proofs.Ytiagcegclgallaa
