/- The document's own get of a tlv: the walk. -/
import Derived.Test.YtiagcegclgallaaHeadRef
namespace Go.Proofs.Ytiagcegclgallaa
open Go.RowKit
set_option linter.unusedVariables false

/-- What get says at a place, d lists in one another at most. -/
def getAtD (d : Nat) (s : ByteArray) (at_ : Int) : Except Int (T × Nat) := if at_ < 0 ∨ (s.size : Int) < at_ then .error 1 else dec d (s.data.toList.drop at_.toNat)

/-- What is told. -/
def RGet (r : Except Int (T × Nat)) (at_ : Int) (W : World) (e : Ending) (w' : World) : Prop :=
  match r with
  | .error er => e = .returned (.agg #[.int .i64 0, .string ⟨#[]⟩, .slice none 0 0, .int .i64 0, .int .i64 er]) ∧ Below W.heap.size W w'
  | .ok (t, n) => ∃ x0 x1 x2, e = .returned (.agg #[x0, x1, x2, .int .i64 (at_ + n), .int .i64 0]) ∧ NewT W.heap.size w' t (.agg #[x0, x1, x2]) ∧ Below W.heap.size W w'

theorem RGet.ok {t : T} {n : Nat} {at_ z : Int} {W w' : World} {x0 x1 x2 : Value} (hz : at_ + (n : Int) = z) (h : NewT W.heap.size w' t (.agg #[x0, x1, x2])) (hb : Below W.heap.size W w') : RGet (.ok (t, n)) at_ W (.returned (.agg #[x0, x1, x2, .int .i64 z, .int .i64 0])) w' :=
  ⟨x0, x1, x2, by rw [hz], h, hb⟩

def RGetW (d : Nat) : Prop := ∀ (s : ByteArray) (at_ : Int) (W : World), s.size ≤ 140737488351232 →
  Calls Try.prog 36 #[.string s, .int .i64 at_, .int .i64 d] W (RGet (getAtD d s at_) at_ W)

def zero5 : Array Value := #[.int .i64 0, .string ⟨#[]⟩, .slice none 0 0, .int .i64 0, .int .i64 0]

theorem headR_err {p d : Nat} {l : List UInt8} (h : (tagD l).2.1 ≠ 0 ∨ (lenD (l.drop 1)).2.1 ≠ 0) : ∃ er : Int, er ≠ 0 ∧ headR p l = .tuple #[.int .i64 0, .int .i64 0, .int .i64 er] ∧ dec d l = .error er := by
  by_cases h1 : (tagD l).2.1 ≠ 0
  · exact ⟨_, h1, headR_tag rfl h1, by unfold dec; rw [if_pos h1]⟩
  · have h2 : (lenD (l.drop 1)).2.1 ≠ 0 := h.resolve_left h1
    refine ⟨_, h2, ?_, by unfold dec; rw [if_neg h1, if_pos h2]⟩
    unfold headR; rw [if_neg h1, if_pos h2]

theorem list_and {c : UInt8} (h : isListB (c.toNat : Int) = true) : bits .and .i64 (c.toNat : Int) 32 = 32 := by
  have := c.toNat_lt
  rw [and32 (by omega) (by omega)]
  unfold isListB at h
  have := of_decide_eq_true h
  omega
theorem leaf_and {c : UInt8} (h : isListB (c.toNat : Int) = false) : bits .and .i64 (c.toNat : Int) 32 = 0 := by
  have := c.toNat_lt
  rw [and32 (by omega) (by omega)]
  unfold isListB at h
  have := of_decide_eq_false h
  omega

def listR (tg : Int) (n : Nat) (r : Option (List T)) : Except Int (T × Nat) := match r with | none => .error 5 | some ts => .ok (.mk tg ⟨#[]⟩ ts, n)

/-- What the rounds hold: place q, ts read so far, in the row v. -/
def GoneR (W : World) (tg : Int) (c : List UInt8) (m d : Nat) (wr : World) (q : Nat) (ts : List T) (v : Value) : Prop :=
  q ≤ m ∧ wr.heap[W.heap.size]? = some (.cells zero5 33 (0, 0)) ∧ wr.heap[W.heap.size + 1]? = some (.cells #[.int .i64 tg, .string ⟨#[]⟩, v] 24 (0, 0)) ∧ ts.length ≤ q ∧
  (∃ f, m - q ≤ f ∧ decsWith (dec d) m c = (decsWith (dec d) f (c.drop q)).map (ts ++ ·)) ∧
  (∃ xs, wr.ownsRow (W.heap.size + 2) 24 3 v ts.length xs ∧ Els (W.heap.size + 2) wr v.ownBlock ts xs) ∧ Below W.heap.size W wr

theorem goneR_start (W : World) (tg : Int) (c : List UInt8) (m d : Nat) : GoneR W tg c m d ((W.alloc (.cells zero5 33)).alloc (.cells #[.int .i64 tg, .string ⟨#[]⟩, .slice none 0 0] 24)) 0 [] (.slice none 0 0) := by
  refine ⟨Nat.zero_le _, ?_, ?_, Nat.le_refl _, ⟨m, by omega, by simp⟩, ⟨[], World.ownsRow_nil _ _ _ _, rfl⟩, ((Below.refl _ _).alloc (Nat.le_refl _) _).alloc (by simp) _⟩
  · exact (Below.heap_alloc _ _ _ (by simp)).trans (World.alloc_heap_new W _)
  · have := World.alloc_heap_new (W.alloc (.cells zero5 33)) (.cells #[.int .i64 tg, .string ⟨#[]⟩, .slice none 0 0] 24)
    rw [World.size_alloc] at this; exact this

/-- A block of five cells, none frozen. -/
theorem box5 {W : World} {b : Nat} {x y z u v : Value} {t : TypeId} (h : W.heap[b]? = some (.cells #[x, y, z, u, v] t (0, 0))) :
    W.cell? ⟨b, 0, none⟩ = some x ∧ W.cell? ⟨b, 1, none⟩ = some y ∧ W.cell? ⟨b, 2, none⟩ = some z ∧ W.cell? ⟨b, 3, none⟩ = some u ∧ W.cell? ⟨b, 4, none⟩ = some v ∧
    W.frozen? ⟨b, 0, none⟩ = false ∧ W.frozen? ⟨b, 1, none⟩ = false ∧ W.frozen? ⟨b, 2, none⟩ = false ∧ W.frozen? ⟨b, 3, none⟩ = false ∧ W.frozen? ⟨b, 4, none⟩ = false := by
  simp [World.cell?, World.frozen?, h]

def st5 (w : World) (b : Nat) (x0 x1 x2 x3 x4 : Value) : World := ((((w.setCell ⟨b, 0, none⟩ x0).setCell ⟨b, 1, none⟩ x1).setCell ⟨b, 2, none⟩ x2).setCell ⟨b, 3, none⟩ x3).setCell ⟨b, 4, none⟩ x4
theorem st5_size (w : World) (b : Nat) (x0 x1 x2 x3 x4 : Value) : (st5 w b x0 x1 x2 x3 x4).heap.size = w.heap.size := by simp [st5, World.setCell]
theorem st5_other (w : World) (b : Nat) (x0 x1 x2 x3 x4 : Value) (k : Nat) (h : k ≠ b) : (st5 w b x0 x1 x2 x3 x4).heap[k]? = w.heap[k]? :=
  ((((Below.heap_setCell _ ⟨b, 4, none⟩ _ k h).trans (Below.heap_setCell _ ⟨b, 3, none⟩ _ k h)).trans (Below.heap_setCell _ ⟨b, 2, none⟩ _ k h)).trans (Below.heap_setCell _ ⟨b, 1, none⟩ _ k h)).trans (Below.heap_setCell _ ⟨b, 0, none⟩ _ k h)
theorem box_store5 {W : World} {b : Nat} {x y z u v : Value} {t : TypeId} (h : W.heap[b]? = some (.cells #[x, y, z, u, v] t (0, 0))) (x' y' z' u' v' : Value) :
    (st5 W b x' y' z' u' v').heap[b]? = some (.cells #[x', y', z', u', v'] t (0, 0)) := by
  have := box_set1 (box_set1 (box_set1 (box_set1 (box_set1 h 0 x') 1 y') 2 z') 3 u') 4 v'
  unfold st5
  simpa using this
theorem st5_below {n : Nat} {w0 w : World} (h : Below n w0 w) (b : Nat) (hb : n ≤ b) (x0 x1 x2 x3 x4 : Value) : Below n w0 (st5 w b x0 x1 x2 x3 x4) :=
  ((((h.setCell (p := ⟨b, 0, none⟩) hb _).setCell (p := ⟨b, 1, none⟩) hb _).setCell (p := ⟨b, 2, none⟩) hb _).setCell (p := ⟨b, 3, none⟩) hb _).setCell (p := ⟨b, 4, none⟩) hb _

theorem ownsRow_slice {w : World} {base e size n : Nat} {v : Value} {xs : List Value} (h : w.ownsRow base e size v n xs) : ∃ a k c, v = .slice a k c := by
  rcases h.2 with ⟨rfl, _⟩ | ⟨g, cap, cur, rfl, _⟩
  · exact ⟨_, _, _, rfl⟩
  · exact ⟨_, _, _, rfl⟩

/-- What a round has in its hands ahead of its append. -/
theorem midR {W wr w2 : World} {v x0 x1 x2 : Value} {ts : List T} {xs : List Value} {t : T}
    (hown : wr.ownsRow (W.heap.size + 2) 24 3 v ts.length xs) (hels : Els (W.heap.size + 2) wr v.ownBlock ts xs) (hlt : W.heap.size + 1 < wr.heap.size) (hb2 : Below wr.heap.size wr w2) (hnew : NewT wr.heap.size w2 t (.agg #[x0, x1, x2])) (o o' : Obj) :
    ((w2.alloc o).alloc o').ownsRow (W.heap.size + 2) 24 3 v ts.length xs ∧ Els (W.heap.size + 2) ((w2.alloc o).alloc o') v.ownBlock (ts ++ [t]) (xs ++ [x0, x1, x2]) := by
  have hs : wr.heap.size ≤ w2.heap.size := hb2.size
  have hltv := hown.lt
  have g1 : wr.grownBy w2 none := ⟨hb2.os, hb2.tape, hb2.output, hb2.size, fun k hk _ => hb2.block k hk⟩
  refine ⟨((hown.kept g1 (by cases v.ownBlock <;> simp)).alloc _).alloc _, ?_⟩
  have e1 : Els (W.heap.size + 2) w2 v.ownBlock ts xs := Els.step (g0 := wr.heap.size) (fun k hk _ => hb2.block k hk) hs (.inr (.inr (Nat.le_refl _))) (fun g hg => .inl hg) hels
  have e2 := Els.snoc (hnew.mono (by omega)) (fun g hg => hnew.2 g (hltv g hg).2) e1
  exact Els.step (g0 := w2.heap.size) (fun k hk _ => (Below.heap_alloc _ _ _ (by simp; omega)).trans (Below.heap_alloc _ _ _ hk)) (by simp; omega) (.inr (.inr (Nat.le_refl _))) (fun g hg => .inl hg) e2

/-- What it has behind it. -/
theorem nextR {W wr w2 w4 : World} {tg : Int} {c : List UInt8} {m d q n f : Nat} {v v' x0 x1 x2 x3 x4 : Value} {ts : List T} {xs : List Value} {t : T}
    (hz : wr.heap[W.heap.size]? = some (.cells zero5 33 (0, 0))) (hb : wr.heap[W.heap.size + 1]? = some (.cells #[.int .i64 tg, .string ⟨#[]⟩, v] 24 (0, 0))) (hbel : Below W.heap.size W wr)
    (hown : wr.ownsRow (W.heap.size + 2) 24 3 v ts.length xs) (hels : Els (W.heap.size + 2) wr v.ownBlock ts xs) (hb2 : Below wr.heap.size wr w2) (hnew : NewT wr.heap.size w2 t (.agg #[x0, x1, x2])) (o' : Obj)
    (hown' : w4.ownsRow (W.heap.size + 2) 24 3 v' (ts.length + 1) (xs ++ [x0, x1, x2])) (hgrow : ((w2.alloc (.cells #[x0, x1, x2, x3, x4] 33)).alloc o').grownBy w4 v.ownBlock) (hat : v'.ownBlock = v.ownBlock ∨ v'.ownBlock = some ((w2.alloc (.cells #[x0, x1, x2, x3, x4] 33)).alloc o').heap.size)
    (hq : q + n ≤ m) (htq : ts.length ≤ q) (hn : 1 ≤ n) (hf : m - (q + n) ≤ f) (hdec : decsWith (dec d) m c = (decsWith (dec d) f (c.drop (q + n))).map ((ts ++ [t]) ++ ·)) :
    w4.cell? ⟨w2.heap.size, 3, none⟩ = some x3 ∧ w4.frozen? ⟨W.heap.size + 1, 2, none⟩ = false ∧ w4.cell? ⟨W.heap.size + 1, 2, none⟩ = some v ∧ w2.heap.size < w4.heap.size ∧
    GoneR W tg c m d (w4.setCell ⟨W.heap.size + 1, 2, none⟩ v') (q + n) (ts ++ [t]) v' := by
  have hlt : W.heap.size + 1 < wr.heap.size := (Array.getElem?_eq_some_iff.1 hb).1
  have hltv := hown.lt
  have hs := hb2.size
  have hsz : w2.heap.size + 2 ≤ w4.heap.size := by have := hgrow.size; simp at this; omega
  have hkeep : ∀ k, k < wr.heap.size → some k ≠ v.ownBlock → w4.heap[k]? = wr.heap[k]? := fun k hk hne =>
    (hgrow.block k (by simp; omega) hne).trans (((Below.heap_alloc _ _ _ (by simp; omega)).trans (Below.heap_alloc _ _ _ (by omega))).trans (hb2.block k hk))
  have hne0 : some W.heap.size ≠ v.ownBlock := fun e => by have := (hltv _ e.symm).1; omega
  have hne1 : some (W.heap.size + 1) ≠ v.ownBlock := fun e => by have := (hltv _ e.symm).1; omega
  have hb4 := (hkeep _ hlt hne1).trans hb
  have hz4 := (hkeep _ (by omega) hne0).trans hz
  have h13 : w4.heap[w2.heap.size]? = some (.cells #[x0, x1, x2, x3, x4] 33 (0, 0)) :=
    (hgrow.block _ (by simp; omega) (fun e => by have := (hltv _ e.symm).2; omega)).trans ((Below.heap_alloc _ _ _ (by simp)).trans (World.alloc_heap_new w2 _))
  obtain ⟨_, _, b2, _, _, g2⟩ := box3 hb4
  obtain ⟨_, _, _, y3, _⟩ := box5 h13
  refine ⟨y3, g2, b2, by omega, hq, ?_, ?_, by simp; omega, ⟨f, hf, hdec⟩, ⟨xs ++ [x0, x1, x2], ?_, ?_⟩, ?_⟩
  · exact (Below.heap_setCell _ ⟨W.heap.size + 1, 2, none⟩ _ _ (by simp)).trans hz4
  · have := box_set1 hb4 2 v'
    simpa using this
  · rw [List.length_append]
    refine hown'.kept (row := some (W.heap.size + 1)) ⟨rfl, rfl, rfl, by simp [World.setCell], fun k _ hk => Below.heap_setCell _ ⟨W.heap.size + 1, 2, none⟩ _ k (fun e => hk (by rw [e]))⟩ ?_
    cases hv : v'.ownBlock with
    | none => exact .inl rfl
    | some k => refine .inr fun e => ?_; cases e; have := (hown'.lt _ hv).1; omega
  · have e3 := (midR hown hels hlt hb2 hnew (.cells #[x0, x1, x2, x3, x4] 33) o').2
    have e4 : Els (W.heap.size + 2) w4 v'.ownBlock (ts ++ [t]) (xs ++ [x0, x1, x2]) := by
      refine Els.step (g0 := v.ownBlock.getD ((w2.alloc (.cells #[x0, x1, x2, x3, x4] 33)).alloc o').heap.size) ?_ hgrow.size ?_ ?_ e3
      · intro k hk hn
        refine hgrow.block k hk fun e => hn ?_
        rw [← e]; rfl
      · cases hv : v.ownBlock with
        | none => exact .inr (.inr (Nat.le_refl _))
        | some g => exact .inr (.inl rfl)
      · intro g hg
        rcases hat with h | h
        · exact .inl (h ▸ hg)
        · rw [h] at hg; cases hg; exact .inr (.inr (Nat.le_refl _))
    exact Els.step (g0 := W.heap.size + 1) (fun k _ hne => Below.heap_setCell _ ⟨W.heap.size + 1, 2, none⟩ _ k hne) (by simp [World.setCell]) (.inl (by omega)) (fun g hg => .inl hg) e4
  · have h4 : Below W.heap.size wr w4 := ⟨hgrow.os.trans hb2.os, hgrow.tape.trans hb2.tape, hgrow.output.trans hb2.output, by omega, fun k hk => hkeep k (by omega) (fun e => by have := (hltv _ e.symm).1; omega)⟩
    exact (hbel.trans h4).setCell (by simp) _

set_option maxRecDepth 100000 in
set_option maxHeartbeats 2000000 in
theorem rget_node (d : Nat) (hd : d ≤ 12) (ih : ∀ d', d = d' + 1 → RGetW d') : RGetW d := by
  intro s at_ W hs
  obtain ⟨i0, hi, hz0, hz1, hz2'⟩ := info_parts info24
  have hs' : s.size ≤ 9223372036854775807 := by omega
  by_cases h1 : at_ < 0
  · have hr : getAtD d s at_ = .error 1 := if_pos (.inl h1)
    rw [hr]
    have d1 : decide (at_ < 0) = true := by simpa using h1
    clear hr ih
    go_enter Try.func36, Try.ntmps36
    go_wp2
    refine bodyPost_ret (v := (.agg #[.int .i64 0, .string ⟨#[]⟩, .slice none 0 0, .int .i64 0, .int .i64 1])) (by simp [results, Try.results36, go_sem]) rfl ⟨rfl, ?_⟩
    exact (Below.refl _ _).alloc (Nat.le_refl _) _
  · by_cases h2 : (s.size : Int) < at_
    · have hr : getAtD d s at_ = .error 1 := if_pos (.inr h2)
      rw [hr]
      have d1 : decide (at_ < 0) = false := by simpa using h1
      have d2 : decide ((s.size : Int) < at_) = true := by simpa using h2
      clear hr ih
      go_enter Try.func36, Try.ntmps36
      go_wp2
      refine bodyPost_ret (v := (.agg #[.int .i64 0, .string ⟨#[]⟩, .slice none 0 0, .int .i64 0, .int .i64 1])) (by simp [results, Try.results36, go_sem]) rfl ⟨rfl, ?_⟩
      exact (Below.refl _ _).alloc (Nat.le_refl _) _
    · obtain ⟨p, rfl⟩ : ∃ p : Nat, at_ = (p : Int) := ⟨at_.toNat, by omega⟩
      have hp : p ≤ s.size := by omega
      have hr : getAtD d s p = dec d (s.data.toList.drop p) := by rw [show getAtD d s p = _ from if_neg (by omega)]; simp
      rw [hr]
      have d1 : decide ((p : Int) < 0) = false := by simp
      have d2 : decide ((s.size : Int) < (p : Int)) = false := by simpa using h2
      have d2' : decide (s.size < p) = false := by simpa using hp
      obtain ⟨l, hl⟩ : ∃ l, l = s.data.toList.drop p := ⟨_, rfl⟩
      have hhd := fun w => refHead_any s p hs hp w
      rw [← hl] at hhd ⊢
      by_cases q1 : (tagD l).2.1 ≠ 0 ∨ (lenD (l.drop 1)).2.1 ≠ 0
      · obtain ⟨er, her, e1, e2⟩ := headR_err (p := p) (d := d) q1
        rw [e1] at hhd
        rw [e2]
        have t1 : (er != 0) = true := by simpa using her
        have HH := Lib.hid hhd
        clear hr hhd e1 e2 q1 ih hl
        go_enter Try.func36, Try.ntmps36
        go_wp2_with (go_at_call 50; refine (HH.out _).mono ?_; rintro e w' ⟨rfl, rfl⟩)
        refine bodyPost_ret (v := (.agg #[.int .i64 0, .string ⟨#[]⟩, .slice none 0 0, .int .i64 0, .int .i64 er])) (by simp [results, Try.results36, go_sem]) rfl ⟨rfl, ?_⟩
        exact (Below.refl _ _).alloc (Nat.le_refl _) _
      · have e1 : ¬ (tagD l).2.1 ≠ 0 := fun h => q1 (.inl h)
        have e2 : ¬ (lenD (l.drop 1)).2.1 ≠ 0 := fun h => q1 (.inr h)
        have hlok := lenD_ok (l.drop 1) (by simpa using e2)
        obtain ⟨ln, hln⟩ : ∃ ln, ln = (lenD (l.drop 1)).2.2 := ⟨_, rfl⟩
        obtain ⟨m, hm⟩ : ∃ m : Nat, (lenD (l.drop 1)).1 = (m : Int) := ⟨(lenD (l.drop 1)).1.toNat, by omega⟩
        have e3 : (lenD (l.drop 1)).1.toNat = m := by rw [hm]; simp
        have hll : l.length = s.size - p := by rw [hl]; simp
        have hlt : p < s.size := by
          rcases Nat.lt_or_ge p s.size with h | h
          · exact h
          · exfalso; apply e1; rw [show l = [] from List.eq_nil_of_length_eq_zero (by omega)]; decide
        obtain ⟨c, hc⟩ : ∃ c : UInt8, c = s[p] := ⟨_, rfl⟩
        have hlc : l = c :: l.drop 1 := by rw [hl, drop_cons hlt, ← hc]; rfl
        have htg : (tagD l).1 = (c.toNat : Int) := by
          rw [hlc] at e1 ⊢
          by_cases h31 : (c.toNat : Int) % 32 = 31
          · rw [show tagD (c :: l.drop 1) = (0, 5, 1) from if_pos h31] at e1; exact absurd (by decide) e1
          · rw [show tagD (c :: l.drop 1) = ((c.toNat : Int), 0, 1) from if_neg h31]
        have hc' : s[p]'hlt = c := hc.symm
        have hcl := c.toNat_lt
        obtain ⟨f, hf⟩ : ∃ f : Nat, f = p + 1 + ln := ⟨_, rfl⟩
        have hfs : f ≤ s.size := by have := hlok.2.2; rw [← hln, List.length_drop, hll] at this; omega
        have hH : headR p l = .tuple #[.int .i64 (f : Int), .int .i64 (m : Int), .int .i64 0] := by
          unfold headR; rw [if_neg e1, if_neg e2, hm, ← hln, hf]
          rw [show (((p + 1 + ln : Nat) : Nat) : Int) = (p : Int) + 1 + (ln : Nat) from by omega]
        rw [hH] at hhd
        have HH := Lib.hid hhd
        have hm2 : m ≤ 1048576 := by omega
        have hmore := dec_more d l m ln e1 e2 e3 hln
        have hleaf := dec_leaf d l m ln e1 e2 e3 hln
        have hl0 := dec_list0 l m ln e1 e2 e3 hln
        have hls := fun d' => dec_listS d' l m ln e1 e2 e3 hln
        rw [htg] at hleaf hl0 hls
        rw [hll] at hmore hleaf hl0 hls
        clear q1 hH hhd hlok e1 e2 e3 hm htg hr hlc
        by_cases q3 : s.size - p < 1 + ln + m
        · rw [hmore q3]
          have t3 : decide ((s.size : Int) - (f : Int) < (m : Int)) = true := by simp; omega
          clear hmore hleaf hl0 hls ih hl hll hc hf hln
          go_enter Try.func36, Try.ntmps36
          go_wp2_with (go_at_call 50; refine (HH.out _).mono ?_; rintro e w' ⟨rfl, rfl⟩)
          refine bodyPost_ret (v := (.agg #[.int .i64 0, .string ⟨#[]⟩, .slice none 0 0, .int .i64 0, .int .i64 6])) (by simp [results, Try.results36, go_sem]) rfl ⟨rfl, ?_⟩
          exact (Below.refl _ _).alloc (Nat.le_refl _) _
        · have t3 : decide ((s.size : Int) - (f : Int) < (m : Int)) = false := by simp; omega
          have hfm : f + m ≤ s.size := by omega
          obtain ⟨x, hx⟩ : ∃ x, x = s.extract f (f + m) := ⟨_, rfl⟩
          have hxs : x.size = m := by rw [hx]; simp; omega
          have hxl : x.data.toList = (l.drop (1 + ln)).take m := by rw [hx, extract_list, hl, List.drop_drop, hf, Nat.add_assoc]
          have hpn : (p : Int) + ((1 + ln + m : Nat) : Int) = (f : Int) + (m : Int) := by omega
          have q3' : ¬ s.size - p < 1 + ln + m := q3
          have HX := Lib.hid hx
          have hfm1 : (f : Int) + (m : Int) ≤ 140737488351232 := by omega
          obtain ⟨L, hL⟩ : ∃ L : Int, L = (d : Int) := ⟨_, rfl⟩
          by_cases q4 : isListB (c.toNat : Int) = true
          · have ha := list_and q4
            rw [← hL]
            cases d with
            | zero =>
              rw [hl0 q3 q4]
              have t4 : decide (L < 1) = true := by simp; omega
              clear hmore hleaf hl0 hls ih hl hll hc hf hln hx hxs hxl q4 q3 q3' hL
              go_enter Try.func36, Try.ntmps36
              go_wp2_with (go_at_call 50; refine (HH.out _).mono ?_; rintro e w' ⟨rfl, rfl⟩)
              refine bodyPost_ret (v := (.agg #[.int .i64 0, .string ⟨#[]⟩, .slice none 0 0, .int .i64 0, .int .i64 5])) (by simp [results, Try.results36, go_sem]) rfl ⟨rfl, ?_⟩
              exact ((Below.refl _ _).alloc (Nat.le_refl _) _).alloc (by simp) _
            | succ d' =>
              rw [show dec (d' + 1) l = listR (c.toNat : Int) (1 + ln + m) _ from hls d' q3 q4, ← hxl]
              have t4 : decide (L < 1) = false := by simp; omega
              have hL1 : L - 1 = (d' : Int) := by omega
              have hL2 : 1 ≤ L := by omega
              have hL3 : L ≤ 12 := by omega
              have hcall := fun (q : Nat) (hq : q ≤ m) W' => ih d' rfl x q W' (by omega)
              rw [hx] at hcall
              have HC := Lib.hid hcall
              have HXs := Lib.hid hxs
              have hg0 := goneR_start W (c.toNat : Int) x.data.toList m d'
              have HG0 := Lib.hid hg0
              clear hg0 hmore hleaf hl0 hls ih hl hll hc hf hln hx hxs q4 q3 q3' hL hcall hxl
              go_enter Try.func36, Try.ntmps36
              go_wp2_with (go_at_call 50; refine (HH.out _).mono ?_; rintro e w' ⟨rfl, rfl⟩)
              go_loopw [12] (fun k wr => ∃ q ts v, k = .int .i64 (q : Nat) ∧ GoneR W (c.toNat : Int) x.data.toList m d' wr q ts v) (fun k _ => m - (intOf k).toNat)
              case atStart => exact ⟨0, [], .slice none 0 0, rfl, HG0.out⟩
              case round =>
                obtain ⟨q, ts, v, rfl, hq, hz, hb, htq, ⟨g, hg, hdec⟩, ⟨xs, hown, hels⟩, hbel⟩ := hrel
                by_cases hlt2 : q < m
                · have hgA : getAtD d' x (q : Int) = dec d' (x.data.toList.drop q) := by rw [show getAtD d' x (q : Int) = _ from if_neg (by have := HXs.out; omega)]; simp
                  obtain ⟨r, hr⟩ : ∃ r, r = dec d' (x.data.toList.drop q) := ⟨_, rfl⟩
                  have hcq := fun W' => HC.out q hq W'
                  rw [← HX.out, hgA, ← hr, HX.out] at hcq
                  have hne : x.data.toList.drop q ≠ [] := by intro e; have := congrArg List.length e; have := HXs.out; simp at *; omega
                  have hltw : W.heap.size + 1 < wr.heap.size := (Array.getElem?_eq_some_iff.1 hb).1
                  cases r with
                  | error er =>
                    rw [decs_err hr.symm hne] at hdec
                    have hR : decsWith (dec d') m x.data.toList = none := by rw [hdec]; rfl
                    have hern : (er != 0) = true := by simpa using dec_err hr.symm
                    have hern' : ¬ er = 0 := dec_err hr.symm
                    have HR := Lib.hid hR
                    have HCq := Lib.hid hcq
                    have HBel := Lib.hid hbel
                    have HZ := Lib.hid hz
                    clear hdec hels hown hR hbel HG0 HC HH hz hb hcq hr hne hgA
                    go_wp2_with (go_at_call 36; refine (HCq.out _).mono ?_; rintro e w2 ⟨rfl, hb2⟩; have k2 := (hb2.block W.heap.size (by omega)).trans HZ.out; have hz2 : W.heap.size + 1 < w2.heap.size := Nat.lt_of_lt_of_le hltw hb2.size; have hz3 : W.heap.size < w2.heap.size := Nat.lt_of_succ_lt hz2; obtain ⟨z0, z1, z2, z3, z4, y0, y1, y2, y3, y4⟩ := box5 k2; have HB2 := Lib.hid hb2; have K2 := Lib.hid k2; clear hb2 k2)
                    rw [HR.out]
                    have k3 := box_store5 K2.out (.int .i64 0) (.string ⟨#[]⟩) (.slice none 0 0) (.int .i64 0) (.int .i64 5)
                    have k5 := (Below.heap_alloc _ (.cells #[.int .i64 0, .string ⟨#[]⟩, .slice none 0 0, .int .i64 0, .int .i64 er] 33) _ (by rw [st5_size]; omega)).trans k3
                    clear z0 z1 z2 z3 z4 y0 y1 y2 y3 y4 k3
                    obtain ⟨z0, z1, z2, z3, z4, y0, y1, y2, y3, y4⟩ := box5 k5
                    show bodyPost Try.prog Try.f36 _ Exit.ret _ ((st5 w2 W.heap.size (.int .i64 0) (.string ⟨#[]⟩) (.slice none 0 0) (.int .i64 0) (.int .i64 5)).alloc (.cells #[.int .i64 0, .string ⟨#[]⟩, .slice none 0 0, .int .i64 0, .int .i64 er] 33))
                    refine bodyPost_ret (v := (.agg #[.int .i64 0, .string ⟨#[]⟩, .slice none 0 0, .int .i64 0, .int .i64 5])) (by simp [results, Try.results36, go_sem, z0, z1, z2, z3, z4]) rfl ⟨rfl, ?_⟩
                    exact (st5_below ((HBel.out).trans (HB2.out.mono (by omega))) _ (Nat.le_refl _) _ _ _ _ _).alloc (by rw [st5_size]; omega) _
                  | ok tn =>
                    obtain ⟨t, n⟩ := tn
                    cases g with
                    | zero => exact absurd hg (by omega)
                    | succ g =>
                      rw [decs_ok hr.symm hne, List.drop_drop] at hdec
                      have hpos := dec_pos hr.symm
                      rw [List.length_drop, show x.data.toList.length = x.size from by simp] at hpos
                      have hqn : q + n ≤ m := by have := HXs.out; omega
                      have hdec' : decsWith (dec d') m x.data.toList = (decsWith (dec d') g (x.data.toList.drop (q + n))).map ((ts ++ [t]) ++ ·) := by
                        rw [hdec]; cases decsWith (dec d') g _ <;> simp
                      obtain ⟨av, nv, cv, rfl⟩ := ownsRow_slice hown
                      have HDec := Lib.hid hdec'
                      have HCq := Lib.hid hcq
                      have HBel := Lib.hid hbel
                      have HZ := Lib.hid hz
                      have HB := Lib.hid hb
                      have HOwn := Lib.hid hown
                      have HEls := Lib.hid hels
                      clear hdec hdec' hels hown hbel HG0 HC HH hz hb hcq hr hne hgA
                      go_wp2_with (first
                        | (go_at_call 36; refine (HCq.out _).mono ?_; rintro e w2 ⟨x0, x1, x2, rfl, hnew, hb2⟩; obtain ⟨tag0, s0, a0, n0, cap0, hsh⟩ := hnew.1.shape; simp only [Value.agg.injEq, Array.mk.injEq, List.cons.injEq, and_true] at hsh; obtain ⟨rfl, rfl, rfl⟩ := hsh; have k2 := (hb2.block (W.heap.size + 1) (by omega)).trans HB.out; have hz2 : W.heap.size + 1 < w2.heap.size := Nat.lt_of_lt_of_le hltw hb2.size; have hz3 : W.heap.size < w2.heap.size := Nat.lt_of_succ_lt hz2; obtain ⟨b0, b1, b2, g0, g1, g2⟩ := box3 k2; have HB2 := Lib.hid hb2; have HNew := Lib.hid hnew; clear hb2 k2 hnew)
                        | (at_builtin; have hmid := midR HOwn.out HEls.out hltw HB2.out HNew.out (.cells #[.int .i64 tag0, .string s0, .slice a0 n0 cap0, .int .i64 ((q : Int) + n), .int .i64 0] 33) (.cells #[.int .i64 tag0, .string s0, .slice a0 n0 cap0] 24); refine wpList_append_own_at _ rfl _ _ 22 rfl (W.heap.size + 2) 24 i0 (.agg #[.int .i64 0, .string ⟨#[]⟩, .slice none 0 0]) 3 48 Try.underlying22 hi hz0 hz1 hz2' rfl (by decide) _ ts.length xs rfl hmid.1 ⟨_, 0, none⟩ 1 1 [.int .i64 tag0, .string s0, .slice a0 n0 cap0] rfl rfl (news3 _ _ _ _ _) (by intro u hu; simp at hu; rcases hu with rfl | rfl | rfl <;> rfl) (by unfold maxLen; omega) (by omega) (by simp; omega) ?_; intro v' w4 hown' hgrow _ hat; obtain ⟨h13, hf4, hc4, hs4, hnx⟩ := nextR HZ.out HB.out HBel.out HOwn.out HEls.out HB2.out HNew.out _ hown' hgrow hat hqn htq (by omega) (by omega) HDec.out; obtain ⟨av', nv', cv', rfl⟩ := ownsRow_slice hown'; have HNx := Lib.hid hnx; clear hmid hown' hgrow hat hnx b0 b1 b2 g0 g1 g2))
                      go_roundw
                      case rel => exact ⟨q + n, ts ++ [t], _, by go_num, HNx.out⟩
                      case measure => simp [intOf]; omega
                · obtain rfl : q = m := by omega
                  have hd0 : x.data.toList.drop q = [] := List.drop_of_length_le (by have := HXs.out; simp; omega)
                  rw [hd0, decs_nil] at hdec
                  have hR : decsWith (dec d') q x.data.toList = some ts := by rw [hdec]; simp
                  obtain ⟨a, cp, hv, his, hoff⟩ := Els.done hels hown
                  subst hv
                  obtain ⟨z0, z1, z2, z3, z4, y0, y1, y2, y3, y4⟩ := box5 hz
                  obtain ⟨b0, b1, b2, g0, g1, g2⟩ := box3 hb
                  have HR := Lib.hid hR
                  have HIs := Lib.hid his
                  have HOff := Lib.hid hoff
                  have HBel := Lib.hid hbel
                  clear hdec hels hown hd0 hR his hoff hbel HG0 HC HH hb
                  have k5 := box_store5 hz (.int .i64 c.toNat) (.string ⟨#[]⟩) (.slice a ts.length cp) (.int .i64 ((f : Int) + q)) (.int .i64 0)
                  have K5 := Lib.hid k5
                  clear k5 hz
                  go_wp2
                  rw [HR.out]
                  show bodyPost Try.prog Try.f36 _ Exit.ret _ (st5 wr W.heap.size (.int .i64 c.toNat) (.string ⟨#[]⟩) (.slice a ts.length cp) (.int .i64 ((f : Int) + q)) (.int .i64 0))
                  obtain ⟨z0, z1, z2, z3, z4, y0, y1, y2, y3, y4⟩ := box5 K5.out
                  refine bodyPost_ret (v := (.agg #[.int .i64 c.toNat, .string ⟨#[]⟩, .slice a ts.length cp, .int .i64 ((f : Int) + q), .int .i64 0])) (by simp [results, Try.results36, go_sem, z0, z1, z2, z3, z4]) rfl (RGet.ok hpn (newList (n := wr.heap.size) (g := W.heap.size) _ ts (by omega) (by omega) (by unfold maxLen; omega) (fun k hk hne => st5_other _ _ _ _ _ _ _ k hne) (by rw [st5_size]; omega) HIs.out (fun f hf => HOff.out f (by omega)) (HOff.out _ (by omega))) (st5_below HBel.out _ (Nat.le_refl _) _ _ _ _ _))
          · have q5 : isListB (c.toNat : Int) = false := by simpa using q4
            rw [hleaf q3 q5, ← hxl]
            have ha := leaf_and q5
            rw [← hL]
            have HXs := Lib.hid hxs
            clear hmore hleaf hl0 hls ih hl hll hc hf hln hx hxs hxl q4 q5 q3 q3' hL
            go_enter Try.func36, Try.ntmps36
            go_wp2_with (go_at_call 50; refine (HH.out _).mono ?_; rintro e w' ⟨rfl, rfl⟩)
            refine bodyPost_ret (v := (.agg #[.int .i64 c.toNat, .string x, .slice none 0 0, .int .i64 ((f : Int) + m), .int .i64 0])) (by simp [results, Try.results36, go_sem]; exact HX.out.symm) rfl (RGet.ok hpn (newLeaf _ _ _ _ (by omega) (by omega) ?_) ?_)
            · have := HXs.out; rw [Array.toArray_toList]; show x.size ≤ maxLen; unfold maxLen; omega
            · exact ((Below.refl _ _).alloc (Nat.le_refl _) _).alloc (by simp) _
theorem rget_any : ∀ d, d ≤ 12 → RGetW d
  | 0, h => rget_node 0 h (fun d' e => by omega)
  | d + 1, h => rget_node (d + 1) h (fun d' e => by cases e; exact rget_any d (by omega))

theorem getTlv_any (s : ByteArray) (at_ : Int) (W : World) (hs : s.size ≤ 140737488351232) : Calls Try.prog 20 #[.string s, .int .i64 at_] W (RGet (getAt s at_) at_ W) := by
  have h := fun w => rget_any 12 (Nat.le_refl _) s at_ w hs
  have hg : getAtD 12 s at_ = getAt s at_ := rfl
  rw [hg] at h
  have h' : ∀ w, Calls Try.prog 36 #[.string s, .int .i64 at_, .int .i64 12] w (RGet (getAt s at_) at_ w) := h
  obtain ⟨r, hr⟩ : ∃ r, r = getAt s at_ := ⟨_, rfl⟩
  rw [← hr] at h' ⊢
  have H := Lib.hid h'
  clear h h' hg hr
  cases r with
  | error er =>
    go_enter Try.func20, Try.ntmps20
    go_wp2_with (go_at_call 36; refine (H.out _).mono ?_; rintro e w2 ⟨rfl, hb2⟩; have k0 := (hb2.block W.heap.size (by simp)).trans (World.alloc_heap_new W _); obtain ⟨z0, z1, z2, z3, z4, y0, y1, y2, y3, y4⟩ := box5 k0; have HB2 := Lib.hid hb2; have K0 := Lib.hid k0; clear hb2 k0)
    have k5 := box_store5 K0.out (.int .i64 0) (.string ⟨#[]⟩) (.slice none 0 0) (.int .i64 0) (.int .i64 er)
    clear z0 z1 z2 z3 z4 y0 y1 y2 y3 y4
    obtain ⟨z0, z1, z2, z3, z4, y0, y1, y2, y3, y4⟩ := box5 k5
    show bodyPost Try.prog Try.f20 _ Exit.ret _ (st5 w2 W.heap.size (.int .i64 0) (.string ⟨#[]⟩) (.slice none 0 0) (.int .i64 0) (.int .i64 er))
    refine bodyPost_ret (v := (.agg #[.int .i64 0, .string ⟨#[]⟩, .slice none 0 0, .int .i64 0, .int .i64 er])) (by simp [results, Try.results20, go_sem, z0, z1, z2, z3, z4]) rfl ⟨rfl, ?_⟩
    exact st5_below (((Below.refl _ _).alloc (Nat.le_refl _) _).trans (HB2.out.mono (by simp))) _ (Nat.le_refl _) _ _ _ _ _
  | ok tn =>
    obtain ⟨t, n⟩ := tn
    go_enter Try.func20, Try.ntmps20
    go_wp2_with (go_at_call 36; refine (H.out _).mono ?_; rintro e w2 ⟨x0, x1, x2, rfl, hnew, hb2⟩; obtain ⟨tag0, s0, a0, n0, cap0, hsh⟩ := hnew.1.shape; simp only [Value.agg.injEq, Array.mk.injEq, List.cons.injEq, and_true] at hsh; obtain ⟨rfl, rfl, rfl⟩ := hsh; have k0 := (hb2.block W.heap.size (by simp)).trans (World.alloc_heap_new W _); obtain ⟨z0, z1, z2, z3, z4, y0, y1, y2, y3, y4⟩ := box5 k0; have HB2 := Lib.hid hb2; have K0 := Lib.hid k0; have HNew := Lib.hid hnew; clear hb2 k0 hnew)
    have k5 := box_store5 K0.out (.int .i64 tag0) (.string s0) (.slice a0 n0 cap0) (.int .i64 (at_ + n)) (.int .i64 0)
    clear z0 z1 z2 z3 z4 y0 y1 y2 y3 y4
    obtain ⟨z0, z1, z2, z3, z4, y0, y1, y2, y3, y4⟩ := box5 k5
    show bodyPost Try.prog Try.f20 _ Exit.ret _ (st5 w2 W.heap.size (.int .i64 tag0) (.string s0) (.slice a0 n0 cap0) (.int .i64 (at_ + n)) (.int .i64 0))
    refine bodyPost_ret (v := (.agg #[.int .i64 tag0, .string s0, .slice a0 n0 cap0, .int .i64 (at_ + n), .int .i64 0])) (by simp [results, Try.results20, go_sem, z0, z1, z2, z3, z4]) rfl (RGet.ok rfl ?_ ?_)
    · have hg : ButG w2.heap.size W.heap.size w2 (st5 w2 W.heap.size (.int .i64 tag0) (.string s0) (.slice a0 n0 cap0) (.int .i64 (at_ + n)) (.int .i64 0)) := fun k _ hne => st5_other _ _ _ _ _ _ _ k hne
      have ho := HNew.out.2 W.heap.size (by simp)
      exact ⟨IsT.butG hg (by rw [st5_size]; exact Nat.le_refl _) t _ HNew.out.1 ho, fun f hf => OffT.butG hg t _ HNew.out.1 ho (HNew.out.2 f (by simp; omega))⟩
    · exact st5_below (((Below.refl _ _).alloc (Nat.le_refl _) _).trans (HB2.out.mono (by simp))) _ (Nat.le_refl _) _ _ _ _ _
end Go.Proofs.Ytiagcegclgallaa
