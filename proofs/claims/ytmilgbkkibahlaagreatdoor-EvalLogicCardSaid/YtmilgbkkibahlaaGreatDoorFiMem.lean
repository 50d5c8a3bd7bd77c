/- Filters in memory. -/
import Derived.Test.YtmilgbkkibahlaaGreatDoorFiRead
import Derived.Test.YtmilgbkkibahlaaGreatDoorEnOwn
namespace Go.Proofs.YtmilgbkkibahlaaGreatDoor
open Go.RowKit
set_option linter.unusedVariables false
set_option linter.unusedSimpArgs false

mutual
/-- The value v is the filter f, and all that it leads to lies in blocks of which ok is true. -/
def IsFl (ok : Nat → Prop) (w : World) : FT → Value → Prop
  | .mk k t x p l, v => ∃ pv a cap, v = .agg #[.int .i64 k, strV t, strV x, pv, .slice a l.length cap] ∧ (Lit.int .i64 k).wf = true ∧ t.length ≤ maxLen ∧ x.length ≤ maxLen ∧ IsTo ok w p pv ∧ l.length ≤ maxLen ∧ IsFls ok w l a 0
def IsFls (ok : Nat → Prop) (w : World) : List FT → Option Addr → Nat → Prop
  | [], _, _ => True
  | f :: l, a, i => (∃ b off v0 v1 v2 v3 v4, a = some ⟨b, off, none⟩ ∧ ok b ∧ w.cell? ⟨b, off + i * 5, none⟩ = some v0 ∧ w.cell? ⟨b, off + i * 5 + 1, none⟩ = some v1 ∧ w.cell? ⟨b, off + i * 5 + 2, none⟩ = some v2 ∧ w.cell? ⟨b, off + i * 5 + 3, none⟩ = some v3 ∧ w.cell? ⟨b, off + i * 5 + 4, none⟩ = some v4 ∧ IsFl ok w f (.agg #[v0, v1, v2, v3, v4])) ∧ IsFls ok w l a (i + 1)
end
mutual
theorem IsFl.imp {ok ok' : Nat → Prop} {w w' : World} (hi : ∀ b, ok b → ok' b) (hc : ∀ b o, ok b → w'.cell? ⟨b, o, none⟩ = w.cell? ⟨b, o, none⟩) : ∀ (f : FT) (v : Value), IsFl ok w f v → IsFl ok' w' f v
  | .mk k t x p l, v, ⟨pv, a, cap, e, h1, h2, h3, h4, h5, h6⟩ => ⟨pv, a, cap, e, h1, h2, h3, h4.imp hi hc, h5, IsFls.imp hi hc l a 0 h6⟩
theorem IsFls.imp {ok ok' : Nat → Prop} {w w' : World} (hi : ∀ b, ok b → ok' b) (hc : ∀ b o, ok b → w'.cell? ⟨b, o, none⟩ = w.cell? ⟨b, o, none⟩) : ∀ (l : List FT) (a : Option Addr) (i : Nat), IsFls ok w l a i → IsFls ok' w' l a i
  | [], _, _, _ => trivial
  | f :: l, a, i, ⟨⟨b, off, v0, v1, v2, v3, v4, e, hb, h0, h1, h2, h3, h4, hf⟩, hl⟩ =>
    ⟨⟨b, off, v0, v1, v2, v3, v4, e, hi b hb, (hc b _ hb).trans h0, (hc b _ hb).trans h1, (hc b _ hb).trans h2, (hc b _ hb).trans h3, (hc b _ hb).trans h4, IsFl.imp hi hc f _ hf⟩, IsFls.imp hi hc l a (i + 1) hl⟩
end
theorem IsFls.get {ok : Nat → Prop} {w : World} : ∀ (l : List FT) (a : Option Addr) (i : Nat), IsFls ok w l a i → ∀ (k : Nat) (f : FT), l[k]? = some f →
    ∃ b off v0 v1 v2 v3 v4, a = some ⟨b, off, none⟩ ∧ ok b ∧ w.cell? ⟨b, off + (i + k) * 5, none⟩ = some v0 ∧ w.cell? ⟨b, off + (i + k) * 5 + 1, none⟩ = some v1 ∧ w.cell? ⟨b, off + (i + k) * 5 + 2, none⟩ = some v2 ∧ w.cell? ⟨b, off + (i + k) * 5 + 3, none⟩ = some v3 ∧ w.cell? ⟨b, off + (i + k) * 5 + 4, none⟩ = some v4 ∧ IsFl ok w f (.agg #[v0, v1, v2, v3, v4])
  | [], _, _, _, k, t, h => by simp at h
  | f :: l, a, i, ⟨h0, hl⟩, 0, f', h => by
    simp at h; subst h; exact h0
  | f :: l, a, i, ⟨h0, hl⟩, k + 1, f', h => by
    have := IsFls.get l a (i + 1) hl k f' (by simpa using h)
    rw [show i + 1 + k = i + (k + 1) from by omega] at this
    exact this
/-- Below the heap's end. -/
abbrev Lt (w : World) : Nat → Prop := fun b => b < w.heap.size
theorem IsFl.below {w w' : World} {f : FT} {v : Value} (h : IsFl (Lt w) w f v) (hb : Below w.heap.size w w') : IsFl (Lt w') w' f v :=
  h.imp (fun b h => Nat.lt_of_lt_of_le h hb.size) (fun b o h => hb.cell (p := ⟨b, o, none⟩) h)
theorem IsFls.below {w w' : World} {l : List FT} {a : Option Addr} {i : Nat} (h : IsFls (Lt w) w l a i) (hb : Below w.heap.size w w') : IsFls (Lt w') w' l a i :=
  h.imp (fun b h => Nat.lt_of_lt_of_le h hb.size) (fun b o h => hb.cell (p := ⟨b, o, none⟩) h)
theorem isTo_isT {n0 : Nat} {w : World} {L : List (List UInt8)} {v : Value} (h : IsTo (fun b => b < n0) w L v) : IsT n0 w L v := h
theorem IsFl.shape {ok : Nat → Prop} {w : World} {f : FT} {v : Value} (h : IsFl ok w f v) : ∃ k T X pa pn pc ka kn kc, v = .agg #[.int .i64 k, .string T, .string X, .slice pa pn pc, .slice ka kn kc] := by
  cases f
  obtain ⟨pv, a, cap, e, _, _, _, ⟨pa, pc, rfl, _⟩, _⟩ := h
  exact ⟨_, _, _, _, _, _, _, _, _, e⟩
/-- A filter's five cells. -/
theorem IsFl.parts {ok : Nat → Prop} {w : World} {k : Int} {t x : List UInt8} {p : List (List UInt8)} {l : List FT} {v : Value} (h : IsFl ok w (.mk k t x p l) v) :
    ∃ pa pc ka kc, v = .agg #[.int .i64 k, strV t, strV x, .slice pa p.length pc, .slice ka l.length kc] ∧ (Lit.int .i64 k).wf = true ∧ t.length ≤ maxLen ∧ x.length ≤ maxLen ∧ IsTo ok w p (.slice pa p.length pc) ∧ l.length ≤ maxLen ∧ IsFls ok w l ka 0 := by
  obtain ⟨pv, a, cap, e, h1, h2, h3, h4, h5, h6⟩ := h
  obtain ⟨pa, pc, e4, _⟩ := id h4
  subst e4
  exact ⟨pa, pc, a, cap, e, h1, h2, h3, h4, h5, h6⟩

/-! ### Filters that a call has gathered into a row of its own -/
def ElsF (ok : Nat → Prop) (w : World) : List FT → List Value → Prop
  | [], xs => xs = []
  | f :: l, xs => ∃ x0 x1 x2 x3 x4 ys, xs = x0 :: x1 :: x2 :: x3 :: x4 :: ys ∧ IsFl ok w f (.agg #[x0, x1, x2, x3, x4]) ∧ ElsF ok w l ys
theorem ElsF.len {ok : Nat → Prop} {w : World} : ∀ {l : List FT} {xs : List Value}, ElsF ok w l xs → xs.length = l.length * 5
  | [], xs, h => by rw [show xs = [] from h]; rfl
  | f :: l, xs, ⟨x0, x1, x2, x3, x4, ys, e, _, h⟩ => by rw [e]; simp [ElsF.len h]; omega
theorem ElsF.imp {ok ok' : Nat → Prop} {w w' : World} (hi : ∀ b, ok b → ok' b) (hc : ∀ b o, ok b → w'.cell? ⟨b, o, none⟩ = w.cell? ⟨b, o, none⟩) : ∀ {l : List FT} {xs : List Value}, ElsF ok w l xs → ElsF ok' w' l xs
  | [], xs, h => h
  | f :: l, xs, ⟨x0, x1, x2, x3, x4, ys, e, h1, h⟩ => ⟨x0, x1, x2, x3, x4, ys, e, h1.imp hi hc, ElsF.imp hi hc h⟩
theorem ElsF.snoc {ok : Nat → Prop} {w : World} {f : FT} {x0 x1 x2 x3 x4 : Value} (hf : IsFl ok w f (.agg #[x0, x1, x2, x3, x4])) : ∀ {l : List FT} {xs : List Value}, ElsF ok w l xs → ElsF ok w (l ++ [f]) (xs ++ [x0, x1, x2, x3, x4])
  | [], xs, h => by rw [show xs = [] from h]; exact ⟨x0, x1, x2, x3, x4, [], rfl, hf, rfl⟩
  | g :: l, xs, ⟨y0, y1, y2, y3, y4, ys, e, h1, h⟩ => by
    rw [e]
    exact ⟨y0, y1, y2, y3, y4, ys ++ [x0, x1, x2, x3, x4], rfl, h1, ElsF.snoc hf h⟩
theorem ElsF.isFls {ok ok' : Nat → Prop} {w : World} {g : Nat} (hi : ∀ b, ok b → ok' b) (hg : ok' g) : ∀ {l : List FT} {xs : List Value} (i : Nat), ElsF ok w l xs → (∀ j u, xs[j]? = some u → w.cell? ⟨g, 0 + i * 5 + j, none⟩ = some u) → IsFls ok' w l (some ⟨g, 0, none⟩) i
  | [], _, _, _, _ => trivial
  | f :: l, xs, i, ⟨x0, x1, x2, x3, x4, ys, e, h1, h3⟩, hc => by
    subst e
    refine ⟨⟨g, 0, x0, x1, x2, x3, x4, rfl, hg, hc 0 x0 rfl, hc 1 x1 rfl, hc 2 x2 rfl, hc 3 x3 rfl, hc 4 x4 rfl, h1.imp hi (fun _ _ _ => rfl)⟩, ElsF.isFls hi hg (i + 1) h3 fun j u hu => ?_⟩
    have := hc (j + 5) u (by simpa using hu)
    rw [show 0 + (i + 1) * 5 + j = 0 + i * 5 + (j + 5) from by omega]; exact this
theorem ElsF.one {ok : Nat → Prop} {w : World} : ∀ {l : List FT} {xs : List Value}, ElsF ok w l xs → ∀ u ∈ xs, u.oneCell' = true
  | [], xs, h, u, hu => by rw [show xs = [] from h] at hu; cases hu
  | f :: l, xs, ⟨x0, x1, x2, x3, x4, ys, e, h1, h⟩, u, hu => by
    subst e
    obtain ⟨k, T, X, pa, pn, pc, ka, kn, kc, e⟩ := h1.shape
    simp only [Value.agg.injEq, Array.mk.injEq, List.cons.injEq, and_true] at e
    obtain ⟨rfl, rfl, rfl, rfl, rfl⟩ := e
    simp only [List.mem_cons] at hu
    rcases hu with rfl | rfl | rfl | rfl | rfl | hu
    · rfl
    · rfl
    · rfl
    · rfl
    · rfl
    · exact ElsF.one h u hu
/-- What a call has made since the block B, in other blocks than r. -/
abbrev NewB (B : Nat) (w : World) (r : Option Nat) : Nat → Prop := fun b => B ≤ b ∧ b < w.heap.size ∧ some b ≠ r
/-- A row of filters of the call's own. -/
def OwnF (B : Nat) (w : World) (v : Value) (l : List FT) : Prop := ∃ xs, ElsF (NewB B w v.ownBlock) w l xs ∧ w.ownsRow B 31 5 v l.length xs
theorem ownF_nil (B : Nat) (w : World) : OwnF B w (.slice none 0 0) [] := ⟨[], rfl, World.ownsRow_nil _ _ _ _⟩
theorem ownF_below {B : Nat} {w w' : World} {v : Value} {l : List FT} (h : OwnF B w v l) (hb : Below w.heap.size w w') : OwnF B w' v l := by
  obtain ⟨xs, h1, h2⟩ := h
  exact ⟨xs, h1.imp (fun b hb' => ⟨hb'.1, Nat.lt_of_lt_of_le hb'.2.1 hb.size, hb'.2.2⟩) (fun b o hb' => hb.cell (p := ⟨b, o, none⟩) hb'.2.1),
    World.ownsRow.kept h2 (row := none) ⟨hb.os, hb.tape, hb.output, hb.size, fun k hk _ => hb.block k hk⟩ (by cases v.ownBlock <;> simp)⟩
/-- The row as the list that it is. -/
theorem ownF_done {B : Nat} {w : World} {v : Value} {l : List FT} (h : OwnF B w v l) : ∃ a c, v = .slice a l.length c ∧ IsFls (fun b => B ≤ b ∧ b < w.heap.size) w l a 0 := by
  obtain ⟨xs, h1, ho⟩ := h
  rcases ho.2 with ⟨rfl, hn⟩ | ⟨g, cap, cur, rfl, hb, hg, _⟩
  · have : l = [] := List.eq_nil_of_length_eq_zero hn
    subst this
    exact ⟨none, 0, rfl, trivial⟩
  · have hlt : g < w.heap.size := (Array.getElem?_eq_some_iff.1 hg).1
    have hc : ∀ j u, xs[j]? = some u → w.cell? ⟨g, 0 + 0 * 5 + j, none⟩ = some u := fun j u hu => by
      have := ho.cells (g := g) rfl j u hu
      have hadd : (⟨g, 0, none⟩ : Addr).add j = ⟨g, j, none⟩ := by unfold Addr.add; split <;> simp_all
      rw [hadd] at this
      simpa using this
    exact ⟨_, cap, rfl, ElsF.isFls (fun b h => ⟨h.1, h.2.1⟩) ⟨hb, hlt⟩ 0 h1 hc⟩
theorem infoF : (Tryz.prog.info? 31).map (fun i => (i.zero, i.size, i.bytes)) = some (some (.agg #[.int .i64 0, .string ⟨#[]⟩, .string ⟨#[]⟩, .slice none 0 0, .slice none 0 0]), 5, 88) := by kernel_rfl
/-- 'append(l, f)': f was made apart from the row; its five cells lie in the block c. -/
theorem run_append_F {B c : Nat} {w : World} {v : Value} {l : List FT} (hown : OwnF B w v l) (hB : B ≤ w.heap.size) {f : FT} {x0 x1 x2 x3 x4 : Value} (hf : IsFl (NewB B w v.ownBlock) w f (.agg #[x0, x1, x2, x3, x4]))
    (hc : w.heap[c]? = some (.cells #[x0, x1, x2, x3, x4] 31 (0, 0))) (hlen : l.length ≤ 1000) (ty : TypeId) :
    ∃ v' w', (Builtin.append_ #[29, 29] ty #[v, .slice (some ⟨c, 0, none⟩) 1 1]).run Tryz.prog w = .ok v' w' ∧ OwnF B w' v' (l ++ [f]) ∧ Below B w w' ∧ (∀ k, k < w.heap.size → some k ≠ v.ownBlock → w'.heap[k]? = w.heap[k]?) := by
  obtain ⟨i0, hi, hz0, hz1, hz2⟩ := info_parts infoF
  obtain ⟨xs, hx, ho⟩ := hown
  have hone : ∀ u ∈ [x0, x1, x2, x3, x4], u.oneCell' = true := ElsF.one (l := [f]) ⟨x0, x1, x2, x3, x4, [], rfl, hf, rfl⟩
  have hcell : ∀ j u, [x0, x1, x2, x3, x4][j]? = some u → w.cell? ((⟨c, 0, none⟩ : Addr).add j) = some u := by
    intro j u hu
    have hadd : (⟨c, 0, none⟩ : Addr).add j = ⟨c, j, none⟩ := by simp [Addr.add]; omega
    rw [hadd]
    simp only [World.cell?, hc]
    simpa using hu
  obtain ⟨v', w', hrun, hown', hgrow, hlt', hat⟩ := run_append_own_at (P := Tryz.prog) w B 29 ty 31 i0 (.agg #[.int .i64 0, .string ⟨#[]⟩, .string ⟨#[]⟩, .slice none 0 0, .slice none 0 0]) 5 88 Tryz.underlying29 hi hz0 hz1 hz2 rfl (by decide) v l.length xs ho ⟨c, 0, none⟩ 1 1 [x0, x1, x2, x3, x4] rfl hcell hone (by unfold maxLen; omega) (by omega) hB
  have hkeep : ∀ k, k < w.heap.size → some k ≠ v.ownBlock → w'.heap[k]? = w.heap[k]? := fun k hk hne => hgrow.block k hk hne
  have himp : ∀ b, NewB B w v.ownBlock b → NewB B w' v'.ownBlock b := fun b hb => ⟨hb.1, Nat.lt_of_lt_of_le hb.2.1 hgrow.size, fun e => by
    rcases hat with h | h
    · exact hb.2.2 (e.trans h)
    · rw [h] at e; have := Option.some.inj e; have := hb.2.1; omega⟩
  have hcl : ∀ b o, NewB B w v.ownBlock b → w'.cell? ⟨b, o, none⟩ = w.cell? ⟨b, o, none⟩ := fun b o hb => by simp only [World.cell?, hkeep b hb.2.1 hb.2.2]
  exact ⟨v', w', hrun, ⟨xs ++ [x0, x1, x2, x3, x4], ElsF.snoc (hf.imp himp hcl) (hx.imp himp hcl), by rw [List.length_append]; exact hown'⟩, (Below.refl B w).grown hgrow hB (fun k e => (World.ownsRow.lt ho k e).1), hkeep⟩
end Go.Proofs.YtmilgbkkibahlaaGreatDoor
