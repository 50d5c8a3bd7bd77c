/- ber.reader.tlv: the walk, over list's contract. -/
import Derived.Test.YtiagcegclgallaaTag
import Derived.Test.YtiagcegclgallaaOff
namespace Go.Proofs.Ytiagcegclgallaa
open Go.RowKit
set_option linter.unusedVariables false

theorem clone_any (s : ByteArray) (w : World) (hs : s.size ≤ 281474976710656) : Calls Try.prog 47 #[.string s] w fun e w' => e = .returned (.string s) ∧ Below w.heap.size w w' := by
  have hc := fun w => Try.stringslite_Clone s w hs
  have HC := Lib.hid hc
  clear hc
  go_enter Try.func47, Try.ntmps47
  go_wp2_with (go_at_call 55; refine (HC.out _).mono ?_; rintro e w1 ⟨rfl, hb⟩)
  go_ret
  exact ⟨rfl, hb⟩

/-- No tlv. -/
def zeroV : Value := .agg #[.int .i64 0, .string ⟨#[]⟩, .slice none 0 0]

/-- What is told of r. -/
def TlvPost (r : Except Int (T × Nat)) (W : World) (b : Nat) (s : ByteArray) (p : Nat) (e : Ending) (w' : World) : Prop :=
  match r with
  | .error er => e = .returned (.tuple #[zeroV, .int .i64 er]) ∧ ∃ q, Went W w' b s q
  | .ok (t, n) => ∃ v, e = .returned (.tuple #[v, .int .i64 0]) ∧ NewT W.heap.size w' t v ∧ Went W w' b s (p + n)

/-- What tlv does, d lists may still stand in one another. -/
def TlvW (d : Nat) : Prop := ∀ (W : World) (b : Nat) (s : ByteArray) (p : Nat), Rd W b s p → s.size ≤ 140737488351232 → p ≤ s.size →
  Calls Try.prog 34 #[.pointer (some ⟨b, 0, none⟩), .int .i64 ((12 - d : Nat) : Int)] W (TlvPost (dec d (s.data.toList.drop p)) W b s p)

/-- What is told of a content. -/
def ListPost (r : Option (List T)) (W : World) (e : Ending) (w' : World) : Prop :=
  Below W.heap.size W w' ∧ match r with
  | none => e = .returned (.tuple #[.slice none 0 0, .bool false])
  | some ts => ∃ a c, e = .returned (.tuple #[.slice a ts.length c, .bool true]) ∧ ts.length ≤ maxLen ∧ IsTs w'.heap.size w' ts a 0 ∧ ∀ g, g < W.heap.size → OffTs g w' ts a 0

/-- What list does, where d more may stand in one another beyond this one. -/
def ListW (d : Nat) : Prop := ∀ (W : World) (c : ByteArray), c.size ≤ 1048576 → Calls Try.prog 48 #[.string c, .int .i64 ((12 - d : Nat) : Int)] W (ListPost (decsWith (dec d) c.size c.data.toList) W)

/-- A block of three cells, none frozen. -/
theorem box3 {W : World} {b : Nat} {x y z : Value} {t : TypeId} (h : W.heap[b]? = some (.cells #[x, y, z] t (0, 0))) :
    W.cell? ⟨b, 0, none⟩ = some x ∧ W.cell? ⟨b, 1, none⟩ = some y ∧ W.cell? ⟨b, 2, none⟩ = some z ∧ W.frozen? ⟨b, 0, none⟩ = false ∧ W.frozen? ⟨b, 1, none⟩ = false ∧ W.frozen? ⟨b, 2, none⟩ = false := by
  simp [World.cell?, World.frozen?, h]

theorem Went.store {W W' : World} {b : Nat} {s : ByteArray} {q : Nat} (h : Went W W' b s q) (hb : b < W.heap.size) {r : Nat} (hr : W.heap.size ≤ r) (o : Nat) (v : Value) : Went W (W'.setCell ⟨r, o, none⟩ v) b s q :=
  ⟨(Below.heap_setCell W' ⟨r, o, none⟩ v b (by simp; omega)).trans h.1, ⟨h.2.os, h.2.tape, h.2.output, by have := h.2.size; simp [World.setCell]; omega, fun k hk hne => (Below.heap_setCell W' ⟨r, o, none⟩ v k (by simp; omega)).trans (h.2.block k hk hne)⟩⟩

theorem Went.below {W W1 W2 : World} {b : Nat} {s : ByteArray} {q : Nat} (h : Went W W1 b s q) (hb : b < W.heap.size) (k : Below W1.heap.size W1 W2) : Went W W2 b s q :=
  ⟨(k.block b (by have := h.2.size; omega)).trans h.1, ⟨k.os.trans h.2.os, k.tape.trans h.2.tape, k.output.trans h.2.output, Nat.le_trans h.2.size k.size, fun i hi hne => (k.block i (by have := h.2.size; omega)).trans (h.2.block i hi hne)⟩⟩

theorem lenD_ok (l : List UInt8) (h : (lenD l).2.1 = 0) : 0 ≤ (lenD l).1 ∧ (lenD l).1 ≤ 1048576 ∧ (lenD l).2.2 ≤ l.length := by
  cases l with
  | nil => simp [lenD] at h
  | cons f r =>
    have hf := f.toNat_lt
    by_cases h1 : f.toNat < 128
    · rw [show lenD (f :: r) = ((f.toNat : Int), 0, 1) from if_pos h1]; refine ⟨?_, ?_, ?_⟩ <;> simp <;> omega
    · by_cases h2 : f.toNat = 128 ∨ 131 < f.toNat
      · rw [show lenD (f :: r) = (0, 5, 1) from (if_neg h1).trans (if_pos h2)] at h; exact absurd h (by decide)
      · by_cases h3 : r.length < f.toNat - 128
        · rw [show lenD (f :: r) = (0, 6, 1) from (if_neg h1).trans ((if_neg h2).trans (if_pos h3))] at h; exact absurd h (by decide)
        · by_cases h4 : (r[0]?.getD 0).toNat = 0 ∨ rdFrom 0 (r.take (f.toNat - 128)) < 128 ∨ 1048576 < rdFrom 0 (r.take (f.toNat - 128))
          · rw [show lenD (f :: r) = (0, 5, 1 + (f.toNat - 128)) from (if_neg h1).trans ((if_neg h2).trans ((if_neg h3).trans (if_pos h4)))] at h; exact absurd (show (5 : Int) = 0 from h) (by decide)
          · rw [show lenD (f :: r) = (rdFrom 0 (r.take (f.toNat - 128)), 0, 1 + (f.toNat - 128)) from (if_neg h1).trans ((if_neg h2).trans ((if_neg h3).trans (if_neg h4)))]
            generalize rdFrom 0 (r.take (f.toNat - 128)) = v at h4 ⊢
            have h5 : 0 ≤ v ∧ v ≤ 1048576 := by omega
            exact ⟨h5.1, h5.2, by simp only [List.length_cons]; omega⟩

theorem dec_more (d : Nat) (l : List UInt8) (m ln : Nat) (e1 : ¬ (tagD l).2.1 ≠ 0) (e2 : ¬ (lenD (l.drop 1)).2.1 ≠ 0) (e3 : (lenD (l.drop 1)).1.toNat = m) (e4 : ln = (lenD (l.drop 1)).2.2) (h : l.length < 1 + ln + m) : dec d l = .error 6 := by
  subst e4 e3
  unfold dec
  rw [if_neg e1, if_neg e2]
  simp only []
  rw [if_pos h]
theorem dec_leaf (d : Nat) (l : List UInt8) (m ln : Nat) (e1 : ¬ (tagD l).2.1 ≠ 0) (e2 : ¬ (lenD (l.drop 1)).2.1 ≠ 0) (e3 : (lenD (l.drop 1)).1.toNat = m) (e4 : ln = (lenD (l.drop 1)).2.2) (h : ¬ l.length < 1 + ln + m) (hi : isListB (tagD l).1 = false) : dec d l = .ok (.mk (tagD l).1 ⟨((l.drop (1 + ln)).take m).toArray⟩ [], 1 + ln + m) := by
  subst e4 e3
  unfold dec
  rw [if_neg e1, if_neg e2]
  simp only []
  rw [if_neg h, if_neg (by simp [hi])]
theorem dec_list0 (l : List UInt8) (m ln : Nat) (e1 : ¬ (tagD l).2.1 ≠ 0) (e2 : ¬ (lenD (l.drop 1)).2.1 ≠ 0) (e3 : (lenD (l.drop 1)).1.toNat = m) (e4 : ln = (lenD (l.drop 1)).2.2) (h : ¬ l.length < 1 + ln + m) (hi : isListB (tagD l).1 = true) : dec 0 l = .error 5 := by
  subst e4 e3
  unfold dec
  rw [if_neg e1, if_neg e2]
  simp only []
  rw [if_neg h, if_pos hi]
theorem dec_listS (d : Nat) (l : List UInt8) (m ln : Nat) (e1 : ¬ (tagD l).2.1 ≠ 0) (e2 : ¬ (lenD (l.drop 1)).2.1 ≠ 0) (e3 : (lenD (l.drop 1)).1.toNat = m) (e4 : ln = (lenD (l.drop 1)).2.2) (h : ¬ l.length < 1 + ln + m) (hi : isListB (tagD l).1 = true) : dec (d + 1) l = match decsWith (dec d) m ((l.drop (1 + ln)).take m) with
    | none => .error 5
    | some ts => .ok (.mk (tagD l).1 ⟨#[]⟩ ts, 1 + ln + m) := by
  subst e4 e3
  rw [dec.eq_def]
  rw [if_neg e1, if_neg e2]
  simp only []
  rw [if_neg h, if_pos hi]
  generalize decsWith (dec d) _ _ = r
  cases r <;> rfl

theorem newLeaf (B : Nat) (w : World) (tg : Int) (x : ByteArray) (h0 : 0 ≤ tg) (h1 : tg ≤ 255) (hx : x.size ≤ maxLen) : NewT B w (.mk tg x []) (.agg #[.int .i64 tg, .string x, .slice none 0 0]) :=
  ⟨⟨none, 0, rfl, (by simp only [Lit.wf, Bool.and_eq_true, decide_eq_true_eq]; exact ⟨show (-9223372036854775808 : Int) ≤ tg by omega, show tg ≤ 9223372036854775807 by omega⟩), hx, by simp, trivial⟩, fun g _ => ⟨none, 0, rfl, trivial⟩⟩

theorem newList {n g : Nat} {B : Nat} {w w' : World} (tg : Int) (ts : List T) {a : Option Addr} {c : Nat} (h0 : 0 ≤ tg) (h1 : tg ≤ 255) (hlen : ts.length ≤ maxLen) (hb : ButG n g w w') (hn : n ≤ w'.heap.size) (his : IsTs n w ts a 0) (hoff : ∀ f, f < B → OffTs f w ts a 0) (hg : OffTs g w ts a 0) : NewT B w' (.mk tg ⟨#[]⟩ ts) (.agg #[.int .i64 tg, .string ⟨#[]⟩, .slice a ts.length c]) :=
  ⟨⟨a, c, rfl, (by simp only [Lit.wf, Bool.and_eq_true, decide_eq_true_eq]; exact ⟨show (-9223372036854775808 : Int) ≤ tg by omega, show tg ≤ 9223372036854775807 by omega⟩), Nat.zero_le _, hlen, IsTs.butG hb hn ts a 0 his hg⟩, fun f hf => ⟨a, c, rfl, OffTs.butG hb ts a 0 his hg (hoff f hf)⟩⟩

set_option maxRecDepth 100000 in
set_option maxHeartbeats 2000000 in
theorem tlv_node (d : Nat) (hd : d ≤ 12) (hlist : ∀ d', d = d' + 1 → ListW d') (hdeep : d = 0 → ∀ (W : World) (c : ByteArray), Calls Try.prog 48 #[.string c, .int .i64 13] W fun e w' => e = .returned (.tuple #[.slice none 0 0, .bool false]) ∧ W = w') : TlvW d := by
  intro W b s p h hs hp
  have hs' : s.size ≤ maxLen := by unfold maxLen; omega
  have hW1 : ∀ o, Rd (W.alloc o) b s p := fun o => (Below.heap_alloc _ _ _ h.lt).trans h
  have hal : ∀ o, Went W (W.alloc o) b s p := fun o => ⟨hW1 o, World.grownBy_alloc _ _ _⟩
  have htag := fun o => tag_any (W.alloc o) b s p (hW1 o) hs' hp
  obtain ⟨l, hl⟩ : ∃ l, l = s.data.toList.drop p := ⟨_, rfl⟩
  rw [← hl] at htag ⊢
  have htb := tagD_bd l
  obtain ⟨tg, htg⟩ : ∃ tg, tg = (tagD l).1 := ⟨_, rfl⟩
  obtain ⟨te, hte⟩ : ∃ te, te = (tagD l).2.1 := ⟨_, rfl⟩
  obtain ⟨tn, htn⟩ : ∃ tn, tn = (tagD l).2.2 := ⟨_, rfl⟩
  rw [← htg] at htb
  rw [← htg, ← hte, ← htn] at htag
  have HTag := Lib.hid htag
  have H := Lib.hid h
  have HAl := Lib.hid hal
  have hbl : b < W.heap.size := h.lt
  clear htag h hW1 hal
  by_cases q1 : te = 0
  · have t1 : (te != 0) = false := by simp [q1]
    rw [q1] at HTag
    obtain ⟨le, hle⟩ : ∃ le, le = (lenD (l.drop 1)).2.1 := ⟨_, rfl⟩
    obtain ⟨lv, hlv⟩ : ∃ lv, lv = (lenD (l.drop 1)).1 := ⟨_, rfl⟩
    obtain ⟨ln, hln⟩ : ∃ ln, ln = (lenD (l.drop 1)).2.2 := ⟨_, rfl⟩
    have htn1 : tn = 1 := by
      cases l with
      | nil => rw [hte] at q1; simp [tagD] at q1
      | cons c r =>
        by_cases h31 : (c.toNat : Int) % 32 = 31
        · rw [hte, show tagD (c :: r) = (0, 5, 1) from if_pos h31] at q1; exact absurd q1 (by decide)
        · rw [htn, show tagD (c :: r) = ((c.toNat : Int), 0, 1) from if_neg h31]
    have hp1 : p + 1 ≤ s.size := by
      cases l with
      | nil => rw [hte] at q1; simp [tagD] at q1
      | cons c r =>
        have := congrArg List.length hl
        simp at this; omega
    subst htn1
    have hlen := fun W' (h' : Rd W' b s (p + 1)) => length_any W' b s (p + 1) h' hs' hp1
    have hdrop : s.data.toList.drop (p + 1) = l.drop 1 := by rw [hl, List.drop_drop]
    rw [hdrop, ← hle, ← hlv, ← hln] at hlen
    have HLen := Lib.hid hlen
    clear hlen
    by_cases q2 : le = 0
    · have hlok := lenD_ok (l.drop 1) (by rw [← hle]; exact q2)
      rw [← hlv, ← hln] at hlok
      obtain ⟨m, hm⟩ : ∃ m : Nat, lv = (m : Int) := ⟨lv.toNat, by omega⟩
      have hll : l.length = s.size - p := by rw [hl]; simp
      have hq : p + 1 + ln ≤ s.size := by have := hlok.2.2; rw [List.length_drop, hll] at this; omega
      have hleft := fun W' (h' : Rd W' b s (p + 1 + ln)) => left_any W' b s (p + 1 + ln) h' hs' hq
      have HLf := Lib.hid hleft
      clear hleft
      rw [q2, hm] at HLen
      have hm2 : m ≤ 1048576 := by omega
      have t2 : (0 : Int) ≤ m := by omega
      have e1 : ¬ (tagD l).2.1 ≠ 0 := by rw [← hte]; simpa using q1
      have e2 : ¬ (lenD (l.drop 1)).2.1 ≠ 0 := by rw [← hle]; simpa using q2
      have e3 : (lenD (l.drop 1)).1.toNat = m := by rw [← hlv, hm]; simp
      have hmore := dec_more d l m ln e1 e2 e3 hln
      have hleaf := dec_leaf d l m ln e1 e2 e3 hln
      have hl0 := dec_list0 l m ln e1 e2 e3 hln
      have hls := fun d' => dec_listS d' l m ln e1 e2 e3 hln
      rw [← htg] at hleaf hl0 hls
      rw [hll] at hmore hleaf hl0 hls
      clear q1 q2 hte htg htn hle hlv hln hdrop e1 e2 e3 hm hlok
      by_cases q3 : s.size - p < 1 + ln + m
      · rw [hmore q3]
        have t3 : decide (((s.size - (p + 1 + ln) : Nat) : Int) < (m : Int)) = true := by simp; omega
        have t3' : decide (s.size - (p + 1 + ln) < m) = true := by simp; omega
        clear hmore hleaf hl0 hls q3 hlist hdeep hll hl
        go_enter Try.func34, Try.ntmps34
        go_wp2_with (first
          | (go_at_call 43; refine (HTag.out _).mono ?_; rintro e w1 ⟨rfl, hw1⟩; have k0 := (hw1.2.block W.heap.size (by simp) (by simp; omega)).trans (World.alloc_heap_new W _); have HW1 := Lib.hid hw1; have K0 := Lib.hid k0; clear hw1 k0)
          | (go_at_call 44; refine (HLen.out _ HW1.out.rd).mono ?_; rintro e w2 ⟨rfl, hw2⟩; have s1 := HW1.out.2.size; rw [World.size_alloc] at s1; have k1 := (hw2.2.block W.heap.size (by omega) (by simp; omega)).trans K0.out; obtain ⟨c0, c1, c2, f0, f1, f2⟩ := box3 k1; have HW2 := Lib.hid hw2; clear hw2 k1)
          | (go_at_call 45; refine (HLf.out _ HW2.out.rd).mono ?_; rintro e w3 ⟨rfl, n3, rfl⟩))
        refine bodyPost_ret (v := .tuple #[zeroV, .int .i64 6]) (by simp [results, Try.results34, go_sem, c0, c1, c2, zeroV]) rfl ⟨rfl, p + 1 + ln, ?_⟩
        exact ((((((HAl.out _).then HW1.out).then HW2.out).then (Went.drewN HW2.out.rd n3)).store hbl (Nat.le_refl _) _ _).store hbl (Nat.le_refl _) _ _).store hbl (Nat.le_refl _) _ _
      · have q3' : ¬ s.size - p < 1 + ln + m := q3
        have t3 : decide (((s.size - (p + 1 + ln) : Nat) : Int) < (m : Int)) = false := by simp; omega
        have t3' : decide (s.size - (p + 1 + ln) < m) = false := by simp; omega
        obtain ⟨x, hx⟩ : ∃ x, x = s.extract (p + 1 + ln) (p + 1 + ln + m) := ⟨_, rfl⟩
        have hxs : x.size = m := by rw [hx]; simp; omega
        have hxl : x.data.toList = (l.drop (1 + ln)).take m := by rw [hx, extract_list, hl, List.drop_drop, Nat.add_assoc]
        have htk := fun W' (h' : Rd W' b s (p + 1 + ln)) => take_any W' b s (p + 1 + ln) m h' hs' (by omega)
        rw [← hx] at htk
        have HTk := Lib.hid htk
        have HX := Lib.hid hxs
        have hisl := fun w => isList_any tg htb.1 htb.2 w
        by_cases q4 : isListB tg = true
        · rw [q4] at hisl
          have HIs := Lib.hid hisl
          obtain ⟨u, hu⟩ : ∃ u : Int, u = ((12 - d : Nat) : Int) := ⟨_, rfl⟩
          have hu0 : 0 ≤ u := by omega
          have hu1 : u ≤ 12 := by omega
          clear hisl hmore hleaf htk hx
          rw [← hu]
          cases d with
          | zero =>
            rw [hl0 q3 q4]
            have hdeep' := hdeep rfl
            rw [show (13 : Int) = u + 1 from by omega] at hdeep'
            have HDp := Lib.hid hdeep'
            clear hdeep hdeep' hlist hl0 hls q3 q3' q4 hll hl hxs hxl hu
            go_enter Try.func34, Try.ntmps34
            go_wp2_with (first
            | (go_at_call 43; refine (HTag.out _).mono ?_; rintro e w1 ⟨rfl, hw1⟩; have k0 := (hw1.2.block W.heap.size (by simp) (by simp; omega)).trans (World.alloc_heap_new W _); have HW1 := Lib.hid hw1; have K0 := Lib.hid k0; clear hw1 k0)
            | (go_at_call 44; refine (HLen.out _ HW1.out.rd).mono ?_; rintro e w2 ⟨rfl, hw2⟩; have s1 := HW1.out.2.size; rw [World.size_alloc] at s1; have s2 := hw2.2.size; have k1 := (hw2.2.block W.heap.size (by omega) (by simp; omega)).trans K0.out; have K1 := Lib.hid k1; have HW2 := Lib.hid hw2; clear hw2 k1)
            | (go_at_call 45; refine (HLf.out _ HW2.out.rd).mono ?_; rintro e w3 ⟨rfl, n3, rfl⟩)
            | (go_at_call 46; refine (HTk.out _ (Went.drewN HW2.out.rd n3).rd).mono ?_; rintro e w4 ⟨rfl, hw4⟩; have k4 := (show _ from hw4 ▸ (Below.heap_setCell (w2.drewN n3) ⟨b, 1, none⟩ _ W.heap.size (by simp; omega)).trans K1.out); have hw4' := hw4 ▸ (Went.drewN HW2.out.rd n3).take (p + 1 + ln + m); have HW4 := Lib.hid hw4'; have K4 := Lib.hid k4; clear hw4 hw4' k4)
            | (go_at_call 40; refine (HIs.out _).mono ?_; rintro e w5 ⟨rfl, rfl⟩)
            | (go_at_call 48; refine (HDp.out _ _).mono ?_; rintro e w6 ⟨rfl, rfl⟩; obtain ⟨c0, c1, c2, f0, f1, f2⟩ := box3 K4.out))
            refine bodyPost_ret (v := .tuple #[zeroV, .int .i64 5]) (by simp [results, Try.results34, go_sem, c0, c1, c2, zeroV]) rfl ⟨rfl, p + 1 + ln + m, ?_⟩
            exact ((((HAl.out _).then HW1.out).then HW2.out).then HW4.out).store hbl (Nat.le_refl _) _ _ |>.store hbl (Nat.le_refl _) _ _ |>.store hbl (Nat.le_refl _) _ _
          | succ d' =>
            rw [hls d' q3 q4, ← hxl]
            have hli := fun w => hlist d' rfl w x (by omega)
            rw [show ((12 - d' : Nat) : Int) = u + 1 from by omega, hxs] at hli
            obtain ⟨r, hr⟩ : ∃ r, r = decsWith (dec d') m x.data.toList := ⟨_, rfl⟩
            rw [← hr] at hli ⊢
            have HLi := Lib.hid hli
            clear hdeep hli hlist hl0 hls q3 q3' q4 hll hl hxs hxl hu hr
            cases r with
            | none =>
              go_enter Try.func34, Try.ntmps34
              go_wp2_with (first
              | (go_at_call 43; refine (HTag.out _).mono ?_; rintro e w1 ⟨rfl, hw1⟩; have k0 := (hw1.2.block W.heap.size (by simp) (by simp; omega)).trans (World.alloc_heap_new W _); have HW1 := Lib.hid hw1; have K0 := Lib.hid k0; clear hw1 k0)
              | (go_at_call 44; refine (HLen.out _ HW1.out.rd).mono ?_; rintro e w2 ⟨rfl, hw2⟩; have s1 := HW1.out.2.size; rw [World.size_alloc] at s1; have s2 := hw2.2.size; have k1 := (hw2.2.block W.heap.size (by omega) (by simp; omega)).trans K0.out; have K1 := Lib.hid k1; have HW2 := Lib.hid hw2; clear hw2 k1)
              | (go_at_call 45; refine (HLf.out _ HW2.out.rd).mono ?_; rintro e w3 ⟨rfl, n3, rfl⟩)
              | (go_at_call 46; refine (HTk.out _ (Went.drewN HW2.out.rd n3).rd).mono ?_; rintro e w4 ⟨rfl, hw4⟩; have k4 := (show _ from hw4 ▸ (Below.heap_setCell (w2.drewN n3) ⟨b, 1, none⟩ _ W.heap.size (by simp; omega)).trans K1.out); have hw4' := hw4 ▸ (Went.drewN HW2.out.rd n3).take (p + 1 + ln + m); have HW4 := Lib.hid hw4'; have K4 := Lib.hid k4; clear hw4 hw4' k4)
              | (go_at_call 40; refine (HIs.out _).mono ?_; rintro e w5 ⟨rfl, rfl⟩)
              | (go_at_call 48; refine (HLi.out _).mono ?_; rintro e w6 ⟨hw6, rfl⟩; have s4 := HW4.out.2.size; have k6 := (hw6.block W.heap.size (by omega)).trans K4.out; obtain ⟨c0, c1, c2, f0, f1, f2⟩ := box3 k6; have HW6 := Lib.hid hw6; clear hw6 k6))
              refine bodyPost_ret (v := .tuple #[zeroV, .int .i64 5]) (by simp [results, Try.results34, go_sem, c0, c1, c2, zeroV]) rfl ⟨rfl, p + 1 + ln + m, ?_⟩
              exact (((((HAl.out _).then HW1.out).then HW2.out).then HW4.out).below hbl HW6.out).store hbl (Nat.le_refl _) _ _ |>.store hbl (Nat.le_refl _) _ _ |>.store hbl (Nat.le_refl _) _ _
            | some ts =>
              go_enter Try.func34, Try.ntmps34
              go_wp2_with (first
              | (go_at_call 43; refine (HTag.out _).mono ?_; rintro e w1 ⟨rfl, hw1⟩; have k0 := (hw1.2.block W.heap.size (by simp) (by simp; omega)).trans (World.alloc_heap_new W _); have HW1 := Lib.hid hw1; have K0 := Lib.hid k0; clear hw1 k0)
              | (go_at_call 44; refine (HLen.out _ HW1.out.rd).mono ?_; rintro e w2 ⟨rfl, hw2⟩; have s1 := HW1.out.2.size; rw [World.size_alloc] at s1; have s2 := hw2.2.size; have k1 := (hw2.2.block W.heap.size (by omega) (by simp; omega)).trans K0.out; have K1 := Lib.hid k1; have HW2 := Lib.hid hw2; clear hw2 k1)
              | (go_at_call 45; refine (HLf.out _ HW2.out.rd).mono ?_; rintro e w3 ⟨rfl, n3, rfl⟩)
              | (go_at_call 46; refine (HTk.out _ (Went.drewN HW2.out.rd n3).rd).mono ?_; rintro e w4 ⟨rfl, hw4⟩; have k4 := (show _ from hw4 ▸ (Below.heap_setCell (w2.drewN n3) ⟨b, 1, none⟩ _ W.heap.size (by simp; omega)).trans K1.out); have hw4' := hw4 ▸ (Went.drewN HW2.out.rd n3).take (p + 1 + ln + m); have HW4 := Lib.hid hw4'; have K4 := Lib.hid k4; clear hw4 hw4' k4)
              | (go_at_call 40; refine (HIs.out _).mono ?_; rintro e w5 ⟨rfl, rfl⟩)
              | (go_at_call 48; refine (HLi.out _).mono ?_; rintro e w6 ⟨hw6, av, cv, rfl, hlen, his, hoff⟩; have s4 := HW4.out.2.size; have k6 := (hw6.block W.heap.size (by omega)).trans K4.out; obtain ⟨c0, c1, c2, f0, f1, f2⟩ := box3 k6; have HW6 := Lib.hid hw6; clear hw6 k6; have HIs6 := Lib.hid his; have HOff := Lib.hid hoff; clear his hoff))
              refine bodyPost_ret (v := .tuple #[.agg #[.int .i64 tg, .string ⟨#[]⟩, .slice av ts.length cv], .int .i64 0]) (by simp [results, Try.results34, go_sem, c0, c1, c2]) rfl ⟨_, rfl, newList (n := w6.heap.size) (g := W.heap.size) tg ts htb.1 htb.2 hlen ?_ (by simp [World.setCell]) HIs6.out (fun f hf => HOff.out f (by omega)) (HOff.out _ (by omega)), ?_⟩
              · intro k hk hne
                exact ((Below.heap_setCell _ ⟨W.heap.size, 2, none⟩ _ k hne).trans (Below.heap_setCell _ ⟨W.heap.size, 1, none⟩ _ k hne)).trans (Below.heap_setCell _ ⟨W.heap.size, 0, none⟩ _ k hne)
              · rw [show p + (1 + ln + m) = p + 1 + ln + m from by omega]
                exact (((((HAl.out _).then HW1.out).then HW2.out).then HW4.out).below hbl HW6.out).store hbl (Nat.le_refl _) _ _ |>.store hbl (Nat.le_refl _) _ _ |>.store hbl (Nat.le_refl _) _ _
        · have q5 : isListB tg = false := by simpa using q4
          rw [hleaf q3 q5, ← hxl]
          rw [q5] at hisl
          have hcl := fun w => clone_any x w (by omega)
          have HIs := Lib.hid hisl
          have HCl := Lib.hid hcl
          clear hmore hleaf hl0 hls q3 q3' hlist hdeep hll hl hx hxs hxl htk hisl hcl q4 q5
          go_enter Try.func34, Try.ntmps34
          go_wp2_with (first
            | (go_at_call 43; refine (HTag.out _).mono ?_; rintro e w1 ⟨rfl, hw1⟩; have k0 := (hw1.2.block W.heap.size (by simp) (by simp; omega)).trans (World.alloc_heap_new W _); have HW1 := Lib.hid hw1; have K0 := Lib.hid k0; clear hw1 k0)
            | (go_at_call 44; refine (HLen.out _ HW1.out.rd).mono ?_; rintro e w2 ⟨rfl, hw2⟩; have s1 := HW1.out.2.size; rw [World.size_alloc] at s1; have s2 := hw2.2.size; have k1 := (hw2.2.block W.heap.size (by omega) (by simp; omega)).trans K0.out; have K1 := Lib.hid k1; have HW2 := Lib.hid hw2; clear hw2 k1)
            | (go_at_call 45; refine (HLf.out _ HW2.out.rd).mono ?_; rintro e w3 ⟨rfl, n3, rfl⟩)
            | (go_at_call 46; refine (HTk.out _ (Went.drewN HW2.out.rd n3).rd).mono ?_; rintro e w4 ⟨rfl, hw4⟩; have k4 := (show _ from hw4 ▸ (Below.heap_setCell (w2.drewN n3) ⟨b, 1, none⟩ _ W.heap.size (by simp; omega)).trans K1.out); have hw4' := hw4 ▸ (Went.drewN HW2.out.rd n3).take (p + 1 + ln + m); have HW4 := Lib.hid hw4'; have K4 := Lib.hid k4; clear hw4 hw4' k4)
            | (go_at_call 40; refine (HIs.out _).mono ?_; rintro e w5 ⟨rfl, rfl⟩)
            | (go_at_call 47; refine (HCl.out _).mono ?_; rintro e w6 ⟨rfl, hw6⟩; have s4 := HW4.out.2.size; have k6 := (hw6.block W.heap.size (by omega)).trans K4.out; obtain ⟨c0, c1, c2, f0, f1, f2⟩ := box3 k6; have HW6 := Lib.hid hw6; clear hw6 k6))
          refine bodyPost_ret (v := .tuple #[.agg #[.int .i64 tg, .string x, .slice none 0 0], .int .i64 0]) (by simp [results, Try.results34, go_sem, c0, c1, c2]) rfl ⟨_, rfl, newLeaf _ _ tg _ htb.1 htb.2 (by have := HX.out; show x.data.toList.toArray.size ≤ maxLen; rw [Array.toArray_toList]; show x.size ≤ maxLen; unfold maxLen; omega), ?_⟩
          rw [show p + (1 + ln + m) = p + 1 + ln + m from by omega]
          exact ((((((HAl.out _).then HW1.out).then HW2.out).then HW4.out).below hbl HW6.out).store hbl (Nat.le_refl _) _ _).store hbl (Nat.le_refl _) _ _ |>.store hbl (Nat.le_refl _) _ _
    · have hdec : dec d l = .error le := by unfold dec; rw [← hte, if_neg (by simpa using q1), ← hle, if_pos q2]
      rw [hdec]
      have t3 : (le != 0) = true := by simpa using q2
      have t4 : ¬ le = 0 := q2
      clear hdec q1 q2 hte htg htn hl hle hlv hln hdrop hlist hdeep t1
      go_enter Try.func34, Try.ntmps34
      go_wp2_with (first
        | (go_at_call 43; refine (HTag.out _).mono ?_; rintro e w1 ⟨rfl, hw1⟩; have k0 := (hw1.2.block W.heap.size (by simp) (by simp; omega)).trans (World.alloc_heap_new W _); have HW1 := Lib.hid hw1; have K0 := Lib.hid k0; clear hw1 k0)
        | (go_at_call 44; refine (HLen.out _ HW1.out.rd).mono ?_; rintro e w2 ⟨rfl, hw2⟩; have s1 := HW1.out.2.size; rw [World.size_alloc] at s1; have k1 := (hw2.2.block W.heap.size (by omega) (by simp; omega)).trans K0.out; obtain ⟨c0, c1, c2, f0, f1, f2⟩ := box3 k1; have HW2 := Lib.hid hw2; clear hw2 k1))
      refine bodyPost_ret (v := .tuple #[zeroV, .int .i64 le]) (by simp [results, Try.results34, go_sem, c0, c1, c2, zeroV]) rfl ⟨rfl, p + 1 + ln, ?_⟩
      exact (((((HAl.out _).then HW1.out).then HW2.out).store hbl (Nat.le_refl _) _ _).store hbl (Nat.le_refl _) _ _).store hbl (Nat.le_refl _) _ _
  · have hdec : dec d l = .error te := by unfold dec; rw [← hte, if_pos q1]
    rw [hdec]
    have t1 : (te != 0) = true := by simpa using q1
    have t2 : ¬ te = 0 := q1
    clear hdec q1 hte htg htn hl hlist hdeep
    go_enter Try.func34, Try.ntmps34
    go_wp2_with (go_at_call 43; refine (HTag.out _).mono ?_; rintro e w1 ⟨rfl, hw1⟩; have k0 := (hw1.2.block W.heap.size (by simp) (by simp; omega)).trans (World.alloc_heap_new W _); obtain ⟨c0, c1, c2, f0, f1, f2⟩ := box3 k0; have HW1 := Lib.hid hw1; clear hw1 k0)
    refine bodyPost_ret (v := .tuple #[zeroV, .int .i64 te]) (by simp [results, Try.results34, go_sem, c0, c1, c2, zeroV]) rfl ⟨rfl, p + tn, ?_⟩
    exact ((((HAl.out _).then HW1.out).store hbl (Nat.le_refl _) _ _).store hbl (Nat.le_refl _) _ _).store hbl (Nat.le_refl _) _ _
end Go.Proofs.Ytiagcegclgallaa
