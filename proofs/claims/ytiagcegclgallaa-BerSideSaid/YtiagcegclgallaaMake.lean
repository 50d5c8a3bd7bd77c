/- Make of the statements: a tlv by numbers: the walk. -/
import Derived.Test.YtiagcegclgallaaMk
import Derived.Test.YtiagcegclgallaaGet
import Derived.Deep.RegionLaw
import Derived.Deep.RegionHeld3
import Derived.Deep.AppendLies
import Derived.RegionTactic
namespace Go.Proofs.Ytiagcegclgallaa
open Go.RowKit
set_option linter.unusedVariables false

/-- Bytes in memory, as a slice of n and cap. -/
def IsB (n0 : Nat) (w : World) (l : List UInt8) (a : Option Addr) (cap : Nat) : Prop :=
  l.length ≤ cap ∧ cap ≤ maxLen ∧ (l = [] ∨ ∃ b off, a = some ⟨b, off, none⟩ ∧ b < n0 ∧ ∀ j x, l[j]? = some x → w.cell? ⟨b, off + j, none⟩ = some (.int .u8 x.toNat))

def MkPost (t : T) (W : World) (e : Ending) (w' : World) : Prop := ∃ v, e = .returned v ∧ NewT W.heap.size w' t v ∧ Below W.heap.size W w'

def MakeW (l : List UInt8) : Prop := ∀ (s : ByteArray) (a : Option Addr) (cap : Nat) (w : World), s.size ≤ maxLen → IsB w.heap.size w l a cap →
  Calls Try.prog 26 #[.slice a l.length cap, .string s] w (MkPost (mk s l) w)

/-- The rows of the statements' own tables. -/
theorem leaf_cell (k : Nat) (h : k < 6) : ∀ h', ([Value.int .i64 4, .int .i64 2, .int .i64 10, .int .i64 128, .int .i64 66, .int .i64 30] : List Value)[k]'h' = .int .i64 (tagLeaf k) := by
  have : k = 0 ∨ k = 1 ∨ k = 2 ∨ k = 3 ∨ k = 4 ∨ k = 5 := by omega
  rcases this with rfl | rfl | rfl | rfl | rfl | rfl <;> exact fun _ => rfl
theorem node_cell (k : Nat) (h : k < 4) : ∀ h', ([Value.int .i64 48, .int .i64 49, .int .i64 160, .int .i64 96] : List Value)[k]'h' = .int .i64 (tagNode k) := by
  have : k = 0 ∨ k = 1 ∨ k = 2 ∨ k = 3 := by omega
  rcases this with rfl | rfl | rfl | rfl <;> exact fun _ => rfl

theorem mayTagB_bd {t : Int} (h : mayTagB t = true) : 0 ≤ t ∧ t ≤ 255 := by
  unfold mayTagB at h
  simp only [Bool.and_eq_true, decide_eq_true_eq] at h
  exact h.1

/-- What the rounds hold: j kids made, in the row v. -/
def MadeK (W : World) (tg : Int) (K : Nat) (wr : World) (j : Nat) (ts : List T) (v : Value) : Prop :=
  j ≤ K ∧ wr.heap[W.heap.size]? = some (.cells #[.int .i64 0, .string ⟨#[]⟩, .slice none 0 0] 24 (0, 0)) ∧ wr.heap[W.heap.size + 1 + 1]? = some (.cells #[.int .i64 tg, .string ⟨#[]⟩, v] 24 (0, 0)) ∧
  (∃ xs, wr.ownsRow (W.heap.size + 3) 24 3 v ts.length xs ∧ Els (W.heap.size + 3) wr v.ownBlock ts xs) ∧ Below W.heap.size W wr

theorem madeK_start (W : World) (tg : Int) (K : Nat) (o : Obj) : MadeK W tg K (((W.alloc (.cells #[.int .i64 0, .string ⟨#[]⟩, .slice none 0 0] 24)).alloc o).alloc (.cells #[.int .i64 tg, .string ⟨#[]⟩, .slice none 0 0] 24)) 0 [] (.slice none 0 0) := by
  refine ⟨Nat.zero_le _, ?_, ?_, ⟨[], World.ownsRow_nil _ _ _ _, rfl⟩, (((Below.refl _ _).alloc (Nat.le_refl _) _).alloc (by simp) _).alloc (by simp; omega) _⟩
  · exact (Below.heap_alloc _ _ _ (by simp; omega)).trans ((Below.heap_alloc _ _ _ (by simp)).trans (World.alloc_heap_new W _))
  · have := World.alloc_heap_new ((W.alloc (.cells #[.int .i64 0, .string ⟨#[]⟩, .slice none 0 0] 24)).alloc o) (.cells #[.int .i64 tg, .string ⟨#[]⟩, .slice none 0 0] 24)
    rw [World.size_alloc, World.size_alloc] at this; exact this

theorem ownsRow_slice {w : World} {base e size n : Nat} {v : Value} {xs : List Value} (h : w.ownsRow base e size v n xs) : ∃ a k c, v = .slice a k c := by
  rcases h.2 with ⟨rfl, _⟩ | ⟨g, cap, cur, rfl, _⟩
  · exact ⟨_, _, _, rfl⟩
  · exact ⟨_, _, _, rfl⟩

/-- Ahead of an append to a row of one's own: the row as it was, what is to come in beside it. -/
theorem mid_any {B : Nat} {wr w2 w3 : World} {v x0 x1 x2 : Value} {ts : List T} {xs : List Value} {t : T}
    (hown : wr.ownsRow B 24 3 v ts.length xs) (hels : Els B wr v.ownBlock ts xs) (hB : B ≤ wr.heap.size) (hb2 : Below wr.heap.size wr w2) (hnew : NewT wr.heap.size w2 t (.agg #[x0, x1, x2])) (h3 : Below w2.heap.size w2 w3) :
    w3.ownsRow B 24 3 v ts.length xs ∧ Els B w3 v.ownBlock (ts ++ [t]) (xs ++ [x0, x1, x2]) := by
  have hs : wr.heap.size ≤ w2.heap.size := hb2.size
  have hltv := hown.lt
  have g1 : wr.grownBy w2 none := ⟨hb2.os, hb2.tape, hb2.output, hb2.size, fun k hk _ => hb2.block k hk⟩
  have g2 : w2.grownBy w3 none := ⟨h3.os, h3.tape, h3.output, h3.size, fun k hk _ => h3.block k hk⟩
  refine ⟨(hown.kept g1 (by cases v.ownBlock <;> simp)).kept g2 (by cases v.ownBlock <;> simp), ?_⟩
  have e1 : Els B w2 v.ownBlock ts xs := Els.step (g0 := wr.heap.size) (fun k hk _ => hb2.block k hk) hs (.inr (.inr (Nat.le_refl _))) (fun g hg => .inl hg) hels
  have e2 := Els.snoc (hnew.mono hB) (fun g hg => hnew.2 g (hltv g hg).2) e1
  exact Els.step (g0 := w2.heap.size) (fun k hk _ => h3.block k hk) h3.size (.inr (.inr (Nat.le_refl _))) (fun g hg => .inl hg) e2

/-- Behind it. -/
theorem els_after {B : Nat} {w3 w4 : World} {v v' : Value} {us : List T} {ys : List Value} (hels : Els B w3 v.ownBlock us ys) (hgrow : w3.grownBy w4 v.ownBlock) (hat : v'.ownBlock = v.ownBlock ∨ v'.ownBlock = some w3.heap.size) : Els B w4 v'.ownBlock us ys := by
  refine Els.step (g0 := v.ownBlock.getD w3.heap.size) ?_ hgrow.size ?_ ?_ hels
  · intro k hk hn
    refine hgrow.block k hk fun e => hn ?_
    rw [← e]; rfl
  · cases hv : v.ownBlock with
    | none => exact .inr (.inr (Nat.le_refl _))
    | some g => exact .inr (.inl rfl)
  · intro g hg
    rcases hat with h | h
    · exact .inl (h ▸ hg)
    · rw [h] at hg; cases hg; exact .inr (.inr (Nat.le_refl _))

theorem ownsRow_setCell {w : World} {B n : Nat} {v : Value} {xs : List Value} (h : w.ownsRow B 24 3 v n xs) {b : Nat} (hb : b < B) (o : Nat) (u : Value) : (w.setCell ⟨b, o, none⟩ u).ownsRow B 24 3 v n xs := by
  refine h.kept (row := some b) ⟨rfl, rfl, rfl, by simp [World.setCell], fun k _ hk => Below.heap_setCell _ ⟨b, o, none⟩ _ k (fun e => hk (by rw [e]))⟩ ?_
  cases hv : v.ownBlock with
  | none => exact .inl rfl
  | some k => refine .inr fun e => ?_; cases e; have := (h.lt _ hv).1; omega

theorem nextK {W wr w2 w4 : World} {tg : Int} {K j : Nat} {v x0 x1 x2 : Value} {ts : List T} {xs : List Value} {t : T} {g cap : Nat} {w3 : World}
    (hz : wr.heap[W.heap.size]? = some (.cells #[.int .i64 0, .string ⟨#[]⟩, .slice none 0 0] 24 (0, 0))) (hb6 : wr.heap[W.heap.size + 1 + 1]? = some (.cells #[.int .i64 tg, .string ⟨#[]⟩, v] 24 (0, 0))) (hbel : Below W.heap.size W wr)
    (hown : wr.ownsRow (W.heap.size + 3) 24 3 v ts.length xs) (hels : Els (W.heap.size + 3) wr v.ownBlock ts xs) (hb2 : Below wr.heap.size wr w2) (hnew : NewT wr.heap.size w2 t (.agg #[x0, x1, x2])) (h3 : Below w2.heap.size w2 w3)
    (hown' : w4.ownsRow (W.heap.size + 3) 24 3 (.slice (some ⟨g, 0, none⟩) (ts.length + 1) cap) (ts.length + 1) (xs ++ [x0, x1, x2])) (hgrow : w3.grownBy w4 v.ownBlock) (hat : v.ownBlock = some g ∨ g = w3.heap.size) (hj : j + 1 ≤ K) :
    w4.cell? ⟨W.heap.size + 1 + 1, 2, none⟩ = some v ∧ w4.frozen? ⟨W.heap.size + 1 + 1, 2, none⟩ = false ∧
    MadeK W tg K (w4.setCell ⟨W.heap.size + 1 + 1, 2, none⟩ (.slice (some ⟨g, 0, none⟩) (ts.length + 1) cap)) (j + 1) (ts ++ [t]) (.slice (some ⟨g, 0, none⟩) (ts.length + 1) cap) := by
  have hlt : W.heap.size + 1 + 1 < wr.heap.size := (Array.getElem?_eq_some_iff.1 hb6).1
  have hltv := hown.lt
  have hs := hb2.size
  have hs3 := h3.size
  have hs4 := hgrow.size
  have hkeep : ∀ k, k < wr.heap.size → some k ≠ v.ownBlock → w4.heap[k]? = wr.heap[k]? := fun k hk hne =>
    (hgrow.block k (by omega) hne).trans ((h3.block k (by omega)).trans (hb2.block k hk))
  have hne0 : some W.heap.size ≠ v.ownBlock := fun e => by have := (hltv _ e.symm).1; omega
  have hne1 : some (W.heap.size + 1 + 1) ≠ v.ownBlock := fun e => by have := (hltv _ e.symm).1; omega
  have hb4 := (hkeep _ hlt hne1).trans hb6
  have hz4 := (hkeep _ (by omega) hne0).trans hz
  obtain ⟨_, _, b2, _, _, g2⟩ := box3 hb4
  have hmid := mid_any hown hels (by omega) hb2 hnew h3
  have e4 := els_after (v' := .slice (some ⟨g, 0, none⟩) (ts.length + 1) cap) hmid.2 hgrow (by rcases hat with h | h; exact .inl h.symm; exact .inr (by rw [h]; rfl))
  refine ⟨b2, g2, hj, ?_, ?_, ⟨xs ++ [x0, x1, x2], ?_, ?_⟩, ?_⟩
  · exact (Below.heap_setCell _ ⟨W.heap.size + 1 + 1, 2, none⟩ _ _ (by simp; omega)).trans hz4
  · have := box_set1 hb4 2 (.slice (some ⟨g, 0, none⟩) (ts.length + 1) cap)
    simpa using this
  · rw [List.length_append]
    exact ownsRow_setCell hown' (by omega) _ _
  · exact Els.step (g0 := W.heap.size + 1 + 1) (fun k _ hne => Below.heap_setCell _ ⟨W.heap.size + 1 + 1, 2, none⟩ _ k hne) (by simp [World.setCell]) (.inl (by omega)) (fun g hg => .inl hg) e4
  · have h4 : Below W.heap.size wr w4 := ⟨hgrow.os.trans (h3.os.trans hb2.os), hgrow.tape.trans (h3.tape.trans hb2.tape), hgrow.output.trans (h3.output.trans hb2.output), by omega, fun k hk => hkeep k (by omega) (fun e => by have := (hltv _ e.symm).1; omega)⟩
    exact (hbel.trans h4).setCell (by simp; omega) _

/-- A row of one element, in a block of its own. -/
theorem news1 (w : World) (x0 x1 x2 : Value) : ∀ j u, [x0, x1, x2][j]? = some u → (w.alloc (.cells #[x0, x1, x2] 24)).cell? ((⟨w.heap.size, 0, none⟩ : Addr).add j) = some u := by
  intro j u hu
  have h := World.alloc_heap_new w (.cells #[x0, x1, x2] 24)
  have hadd : (⟨w.heap.size, 0, none⟩ : Addr).add j = ⟨w.heap.size, j, none⟩ := by unfold Addr.add; split <;> simp_all
  rw [hadd]
  simp only [World.cell?, h]
  simpa using hu

theorem made_done {W wr : World} {tg : Int} {v : Value} {ts : List T} {xs : List Value}
    (hz : wr.heap[W.heap.size]? = some (.cells #[.int .i64 0, .string ⟨#[]⟩, .slice none 0 0] 24 (0, 0))) (hb6 : wr.heap[W.heap.size + 1 + 1]? = some (.cells #[.int .i64 tg, .string ⟨#[]⟩, v] 24 (0, 0)))
    (hown : wr.ownsRow (W.heap.size + 3) 24 3 v ts.length xs) (hels : Els (W.heap.size + 3) wr v.ownBlock ts xs) (hbel : Below W.heap.size W wr) (h0 : 0 ≤ tg) (h1 : tg ≤ 255) (hlen : ts.length ≤ maxLen) :
    (((wr.setCell ⟨W.heap.size, 0, none⟩ (.int .i64 tg)).setCell ⟨W.heap.size, 1, none⟩ (.string ⟨#[]⟩)).setCell ⟨W.heap.size, 2, none⟩ v).cell? ⟨W.heap.size, 0, none⟩ = some (.int .i64 tg) ∧
    (((wr.setCell ⟨W.heap.size, 0, none⟩ (.int .i64 tg)).setCell ⟨W.heap.size, 1, none⟩ (.string ⟨#[]⟩)).setCell ⟨W.heap.size, 2, none⟩ v).cell? ⟨W.heap.size, 1, none⟩ = some (.string ⟨#[]⟩) ∧
    (((wr.setCell ⟨W.heap.size, 0, none⟩ (.int .i64 tg)).setCell ⟨W.heap.size, 1, none⟩ (.string ⟨#[]⟩)).setCell ⟨W.heap.size, 2, none⟩ v).cell? ⟨W.heap.size, 2, none⟩ = some v ∧
    NewT W.heap.size (((wr.setCell ⟨W.heap.size, 0, none⟩ (.int .i64 tg)).setCell ⟨W.heap.size, 1, none⟩ (.string ⟨#[]⟩)).setCell ⟨W.heap.size, 2, none⟩ v) (.mk tg ⟨#[]⟩ ts) (.agg #[.int .i64 tg, .string ⟨#[]⟩, v]) ∧
    Below W.heap.size W (((wr.setCell ⟨W.heap.size, 0, none⟩ (.int .i64 tg)).setCell ⟨W.heap.size, 1, none⟩ (.string ⟨#[]⟩)).setCell ⟨W.heap.size, 2, none⟩ v) := by
  obtain ⟨k0, k1, k2, _⟩ := box3 (box_store3 hz (.int .i64 tg) (.string ⟨#[]⟩) v)
  obtain ⟨a, cp, hv, his, hoff⟩ := Els.done hels hown
  refine ⟨k0, k1, k2, ?_, ((hbel.setCell (p := ⟨W.heap.size, 0, none⟩) (Nat.le_refl _) _).setCell (p := ⟨W.heap.size, 1, none⟩) (Nat.le_refl _) _).setCell (p := ⟨W.heap.size, 2, none⟩) (Nat.le_refl _) _⟩
  subst hv
  refine newList (n := wr.heap.size) (g := W.heap.size) _ ts h0 h1 hlen (fun k hk hne => ?_) (by simp [World.setCell]) his (fun f hf => hoff f (by omega)) (hoff _ (by omega))
  exact ((Below.heap_setCell _ ⟨W.heap.size, 2, none⟩ _ k hne).trans (Below.heap_setCell _ ⟨W.heap.size, 1, none⟩ _ k hne)).trans (Below.heap_setCell _ ⟨W.heap.size, 0, none⟩ _ k hne)

set_option maxRecDepth 100000 in
set_option maxHeartbeats 4000000 in
theorem make_node (l : List UInt8) (ih : ∀ l' : List UInt8, l'.length < l.length → MakeW l') : MakeW l := by
  intro s a cap W hs hb
  have hs' : s.size ≤ 9223372036854775807 := by unfold maxLen at hs; exact hs
  cases l with
  | nil =>
    rw [mk_nil]
    clear ih
    go_enter Try.func26, Try.ntmps26
    go_wp2
    refine bodyPost_ret (v := (.agg #[.int .i64 48, .string ⟨#[]⟩, .slice none 0 0])) (by simp [results, Try.results26, go_sem]) rfl ⟨_, rfl, newLeaf _ _ 48 ⟨#[]⟩ (by omega) (by omega) (Nat.zero_le _), ?_⟩
    exact (Below.refl _ _).alloc (Nat.le_refl _) _
  | cons c r =>
    obtain ⟨hlc, hcm, hl⟩ := hb
    obtain ⟨i0, hi, hz0, hz1, hz2⟩ := info_parts info24
    obtain ⟨b, off, rfl, hbl, hcells⟩ := hl.resolve_left (by simp)
    have hc0 := hcells 0 c rfl
    rw [Nat.add_zero] at hc0
    simp only [List.length_cons] at hlc
    have hcm' : cap ≤ 9223372036854775807 := by unfold maxLen at hcm; exact hcm
    have hrl : r.length + 1 ≤ 9223372036854775807 := by omega
    have hcl := c.toNat_lt
    obtain ⟨n, hn⟩ : ∃ n, n = c.toNat := ⟨_, rfl⟩
    by_cases h3 : c.toNat % 3 > 0
    · rw [mk_leaf s c r h3]
      rw [← hn] at hc0 hcl h3 ⊢
      have d3 : decide ((0 : Int) < (n : Int) % 3) = true := by simp; omega
      obtain ⟨k6, hk6⟩ : ∃ k6, k6 = n / 3 % 6 := ⟨_, rfl⟩
      rw [← hk6]
      have e6 : (n : Int) / 3 % 6 = (k6 : Int) := by omega
      have hk6' : k6 < 6 := by omega
      have htc := leaf_cell k6 hk6'
      obtain ⟨h2, hh2⟩ : ∃ h2, h2 = n / 2 := ⟨_, rfl⟩
      have e2 : (n : Int) / 2 = (h2 : Int) := by omega
      rw [← hh2]
      obtain ⟨m, hm⟩ : ∃ m, m = min s.size h2 := ⟨_, rfl⟩
      rw [← hm]
      have em : (min (s.size : Int) (h2 : Int)) = (m : Int) := by omega
      have hms : m ≤ s.size := by omega
      have hm63 : m ≤ 9223372036854775807 := by omega
      have d0 : (((r.length : Nat) : Int) + 1 == 0) = false := by simp; omega
      clear ih hn h3 hk6 hcells hh2 hm
      rw [show (c :: r).length = r.length + 1 from rfl]
      go_enter Try.func26, Try.ntmps26
      go_wp2
      go_region
      go_wp2
      have htg := mayTagB_bd (tagLeaf_ok k6).1
      refine bodyPost_ret (v := (.agg #[.int .i64 (tagLeaf k6), .string (s.extract 0 m), .slice none 0 0])) (by simp [results, Try.results26, go_sem]) rfl ⟨_, rfl, newLeaf _ _ _ _ htg.1 htg.2 (by simp [maxLen]; omega), ?_⟩
      exact (((Below.refl _ _).alloc (Nat.le_refl _) _).alloc (by simp) _).drew
    · rw [mk_node s c r h3]
      obtain ⟨ks, hks⟩ : ∃ ks : Nat → List T, ks = kids s c r := ⟨_, rfl⟩
      have hk0 : ks 0 = [] := by rw [hks]; rfl
      have hkS : ∀ j, ks (j + 1) = ks j ++ [kid s c r j] := fun j => by rw [hks]; exact kids_succ s c r j
      have hkl : ∀ j, (ks j).length = j := fun j => by rw [hks]; exact kids_length s c r j
      have hkid : ∀ j, j < r.length → MakeW (((c :: r).drop (j + 1)).take (c.toNat / 60 + 1)) := fun j hj => ih _ (by simp; omega)
      rw [← hks]
      obtain ⟨kd, hkd⟩ : ∃ kd : Nat → T, kd = kid s c r := ⟨_, rfl⟩
      rw [← hkd] at hkS
      rw [← hn] at hc0 hcl h3 hkid ⊢
      have d3 : decide ((0 : Int) < (n : Int) % 3) = false := by simp; omega
      obtain ⟨k4, hk4⟩ : ∃ k4, k4 = n / 3 % 4 := ⟨_, rfl⟩
      rw [← hk4]
      have e4 : (n : Int) / 3 % 4 = (k4 : Int) := by omega
      have hk4' : k4 < 4 := by omega
      have htc := node_cell k4 hk4'
      obtain ⟨k5, hk5⟩ : ∃ k5, k5 = n / 12 % 5 := ⟨_, rfl⟩
      rw [← hk5]
      have e5 : (n : Int) / 12 % 5 = (k5 : Int) := by omega
      have hk5' : k5 < 5 := by omega
      obtain ⟨k60, hk60⟩ : ∃ k60, k60 = n / 60 := ⟨_, rfl⟩
      have e60 : (n : Int) / 60 = (k60 : Int) := by omega
      have d0 : (((r.length : Nat) : Int) + 1 == 0) = false := by simp; omega
      have htg := mayTagB_bd (tagNode_ok k4).1
      obtain ⟨tg, htg'⟩ : ∃ tg, tg = tagNode k4 := ⟨_, rfl⟩
      rw [← htg'] at htg htc ⊢
      obtain ⟨rl, hrl'⟩ : ∃ rl, rl = r.length := ⟨_, rfl⟩
      rw [show (c :: r).length = r.length + 1 from rfl]
      rw [← hrl'] at hkid hlc hrl d0 ⊢
      have HK := Lib.hid hkid
      have HK0 := Lib.hid hk0
      have HKS := Lib.hid hkS
      have HKL := Lib.hid hkl
      have HCells := Lib.hid hcells
      have hkd60 : ∀ j, kd j = mk s (((c :: r).drop (j + 1)).take (c.toNat / 60 + 1)) := fun j => by rw [hkd]; rfl
      have h60 : k60 = c.toNat / 60 := by rw [hk60, hn]
      have HKD := Lib.hid hkd60
      have HK60 := Lib.hid h60
      have HK60' := Lib.hid hk60
      have HRL := Lib.hid hrl'
      clear hkd60 h60
      have hm0 : MadeK W tg (min rl k5) (((W.alloc (.cells #[.int .i64 0, .string ⟨#[]⟩, .slice none 0 0] 24)).alloc (.cells #[.int .i64 48, .int .i64 49, .int .i64 160, .int .i64 96] 3)).alloc (.cells #[.int .i64 tg, .string ⟨#[]⟩, .slice none 0 0] 24)) 0 (ks 0) (.slice none 0 0) := by rw [hk0]; exact madeK_start W tg _ _
      have HM0 := Lib.hid hm0
      clear hm0 ih hn h3 hk4 hcells hk5 hk60 htg' hks hkd hrl' hk0 hkS hkl hkid
      go_enter Try.func26, Try.ntmps26
      go_wp2
      clear e4
      go_loopw [7] (fun i wr => ∃ (j : Nat) (v : Value), i = .int .i64 ((j : Int) + 1) ∧ MadeK W tg (min rl k5) wr j (ks j) v) (fun i _ => rl + 1 - (intOf i).toNat)
      case atStart => exact ⟨0, .slice none 0 0, rfl, HM0.out⟩
      case round =>
        obtain ⟨j, v, rfl, hjK, hz, hb6, ⟨xs, hown, hels⟩, hbel⟩ := hrel
        have hwlt : W.heap.size + 1 + 1 < wr.heap.size := (Array.getElem?_eq_some_iff.1 hb6).1
        by_cases h1 : j < rl
        · have t1 : decide ((j : Int) < (rl : Int)) = true := by simp; omega
          have t1' : decide ((j : Int) + 1 < (rl : Int) + 1) = true := by simp; omega
          by_cases h2 : j + 1 ≤ k5
          · have t2 : decide ((j : Int) + 1 ≤ (k5 : Int)) = true := by simp; omega
            obtain ⟨ho, hhi⟩ : ∃ ho, ho = min (rl + 1) (j + 1 + k60 + 1) := ⟨_, rfl⟩
            have ew1 : IntKind.i64.wrap ((j : Int) + 1 + (k60 : Int)) = (j : Int) + 1 + (k60 : Int) := IntWalk.i64_in _ (by have := HK60'.out; omega)
            have ew2 : IntKind.i64.wrap ((j : Int) + 1 + (k60 : Int) + 1) = (j : Int) + 1 + (k60 : Int) + 1 := IntWalk.i64_in _ (by have := HK60'.out; omega)
            have em : min ((rl : Int) + 1) ((j : Int) + 1 + (k60 : Int) + 1) = (ho : Int) := by omega
            have ew0 : IntKind.i64.wrap (k60 : Int) = (k60 : Int) := IntWalk.i64_in _ (by have := HK60'.out; omega)
            have em2 : max (ho : Int) 0 = (ho : Int) := by omega
            have ecj : ¬ cap = j + 1 := by omega
            have hhi1 : j + 1 ≤ ho := by omega
            have hhi2 : ho ≤ rl + 1 := by omega
            have hhi3 : ho ≤ cap := by omega
            have ei1 : (0 : Int) ≤ (j : Int) + 1 := by omega
            have ei2 : (j : Int) + 1 ≤ (ho : Int) := by omega
            have ei3 : (ho : Int) ≤ (cap : Int) := by omega
            have ei4 : ((j : Int) + 1).toNat = j + 1 := by omega
            obtain ⟨x0, x1, x2, hv⟩ := ownsRow_slice hown
            subst hv
            obtain ⟨L, hL⟩ : ∃ L, L = ((c :: r).drop (j + 1)).take (k60 + 1) := ⟨_, rfl⟩
            have hLl : L.length = ho - (j + 1) := by rw [hL]; simp; have := HRL.out; omega
            have hkb : ∀ w2, Below W.heap.size W w2 → Calls Try.prog 26 #[.slice (some ⟨b, off + (j + 1), none⟩) (ho - (j + 1)) (cap - (j + 1)), .string s] w2 (MkPost (kd j) w2) := by
              intro w2 hb2
              rw [HKD.out j, ← HK60.out, ← hL, ← hLl]
              have := HK.out j h1
              rw [← HK60'.out, ← hL] at this
              refine this s _ _ w2 hs ⟨by omega, by omega, .inr ⟨b, off + (j + 1), rfl, Nat.lt_of_lt_of_le hbl hb2.size, ?_⟩⟩
              intro i x hx
              have hx2 : (c :: r)[j + 1 + i]? = some x := by
                rw [hL, List.getElem?_take] at hx
                split at hx
                · rw [List.getElem?_drop] at hx; exact hx
                · cases hx
              have := (hb2.cell (p := ⟨b, off + (j + 1 + i), none⟩) hbl).trans (HCells.out (j + 1 + i) x hx2)
              rw [← Nat.add_assoc] at this; exact this
            have HKb := Lib.hid hkb
            have HBel := Lib.hid hbel
            have HZ := Lib.hid hz
            have HB6 := Lib.hid hb6
            have HOwn := Lib.hid hown
            have HEls := Lib.hid hels
            obtain ⟨c0, c1, c2, f0, f1, f2⟩ := box3 hb6
            have hjK1 : j + 1 ≤ min rl k5 := by omega
            have hkj : (ks j).length ≤ 5 := by have := HKL.out j; omega
            clear hhi hL hLl hkb hbel hz hb6 hown hels
            go_wp2_with fail
            go_region_law (first
              | (go_simp; go_at_call 26; refine (HKb.out wr.drew HBel.out.drew).mono ?_; rintro e w2 ⟨v2, rfl, hnew, hb2⟩; (obtain ⟨tag0, s0, a0, n0, cap0, rfl⟩ := hnew.1.shape); have hw2 : W.heap.size + 1 + 1 < w2.heap.size := Nat.lt_of_lt_of_le hwlt hb2.size; have k2 := (hb2.block (W.heap.size + 1 + 1) hwlt).trans HB6.out; obtain ⟨c0', c1', c2', f0', f1', f2'⟩ := box3 k2; have HB2 := Lib.hid ((Below.refl _ _).drew.trans hb2); have HNew := Lib.hid hnew; clear hb2 hnew k2)
              | (refine step_append_lies _ (by rfl) _ _ _ (by rfl) (W.heap.size + 3) 24 i0 (.agg #[.int .i64 0, .string ⟨#[]⟩, .slice none 0 0]) 3 48 Try.underlying22 hi hz0 hz1 hz2 rfl (by omega) (.slice x0 x1 x2) (ks j).length xs (by rfl) (mid_any HOwn.out HEls.out (by omega) HB2.out HNew.out ((Below.refl _ _).alloc (Nat.le_refl _) _)).1 ⟨w2.heap.size, 0, none⟩ 1 1 [.int .i64 tag0, .string s0, .slice a0 n0 cap0] (by rfl) (by rfl) (news1 _ _ _ _) (by intro u hu; simp at hu; rcases hu with rfl | rfl | rfl <;> rfl) (by omega) (by unfold maxLen; omega) (by omega) (by have := HB2.out.size; simp; omega) _ rfl ?_; intro gg gc w4 hown1 hgrow hat hlt; obtain ⟨hc4, hf4, hnx⟩ := nextK HZ.out HB6.out HBel.out HOwn.out HEls.out HB2.out HNew.out ((Below.refl _ _).alloc (Nat.le_refl _) _) hown1 hgrow hat hjK1; have HNx := Lib.hid hnx; clear hown1 hgrow hat hnx))
            all_goals
              go_wp2
              go_roundw
              case rel => exact ⟨j + 1, _, by go_num, by rw [HKS.out]; exact HNx.out⟩
              case measure => simp [intOf]; omega
          · have t2 : decide ((j : Int) + 1 ≤ (k5 : Int)) = false := by simp; omega
            have hje : j = min rl k5 := by omega
            have HJE := Lib.hid hje
            clear hje
            have hend := made_done hz hb6 hown hels hbel htg.1 htg.2 (by rw [HKL.out]; unfold maxLen; omega)
            obtain ⟨x0, x1, x2, hv⟩ := ownsRow_slice hown
            subst hv
            obtain ⟨c0, c1, c2, f0, f1, f2⟩ := box3 hb6
            obtain ⟨z0, z1, z2, g0, g1, g2⟩ := box3 hz
            have HEnd := Lib.hid hend
            clear hend hz hb6 hown hels hbel HK HM0 HCells
            go_wp2
            obtain ⟨k0, k1, k2, hp⟩ := HEnd.out
            show bodyPost Try.prog Try.f26 _ Exit.ret _ (((wr.setCell ⟨W.heap.size, 0, none⟩ (.int .i64 tg)).setCell ⟨W.heap.size, 1, none⟩ (.string ⟨#[]⟩)).setCell ⟨W.heap.size, 2, none⟩ (.slice x0 x1 x2))
            refine bodyPost_ret (v := (.agg #[.int .i64 tg, .string ⟨#[]⟩, .slice x0 x1 x2])) (by simp [results, Try.results26, go_sem, k0, k1, k2]) rfl ⟨_, rfl, by rw [← HJE.out]; exact hp.1, hp.2⟩
        · have t1 : decide ((j : Int) < (rl : Int)) = false := by simp; omega
          have t1' : decide ((j : Int) + 1 < (rl : Int) + 1) = false := by simp; omega
          have hje : j = min rl k5 := by omega
          have HJE := Lib.hid hje
          clear hje
          have hend := made_done hz hb6 hown hels hbel htg.1 htg.2 (by rw [HKL.out]; unfold maxLen; omega)
          obtain ⟨x0, x1, x2, hv⟩ := ownsRow_slice hown
          subst hv
          obtain ⟨c0, c1, c2, f0, f1, f2⟩ := box3 hb6
          obtain ⟨z0, z1, z2, g0, g1, g2⟩ := box3 hz
          have HEnd := Lib.hid hend
          clear hend hz hb6 hown hels hbel HK HM0 HCells
          go_wp2
          obtain ⟨k0, k1, k2, hp⟩ := HEnd.out
          show bodyPost Try.prog Try.f26 _ Exit.ret _ (((wr.setCell ⟨W.heap.size, 0, none⟩ (.int .i64 tg)).setCell ⟨W.heap.size, 1, none⟩ (.string ⟨#[]⟩)).setCell ⟨W.heap.size, 2, none⟩ (.slice x0 x1 x2))
          refine bodyPost_ret (v := (.agg #[.int .i64 tg, .string ⟨#[]⟩, .slice x0 x1 x2])) (by simp [results, Try.results26, go_sem, k0, k1, k2]) rfl ⟨_, rfl, by rw [← HJE.out]; exact hp.1, hp.2⟩

theorem make_lt : ∀ (k : Nat) (l : List UInt8), l.length < k → MakeW l
  | 0, l, h => by omega
  | k + 1, l, h => make_node l fun l' h' => make_lt k l' (by omega)
theorem make_any (l : List UInt8) : MakeW l := make_lt _ l (Nat.lt_succ_self _)
end Go.Proofs.Ytiagcegclgallaa
