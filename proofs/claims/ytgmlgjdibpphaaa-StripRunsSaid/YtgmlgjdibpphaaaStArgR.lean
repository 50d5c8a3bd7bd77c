/- StripRuns: a plan, and a list of acts, among the arguments. -/
import Derived.Test.YtgmlgjdibpphaaaStArg
namespace Go.Proofs.Ytgmlgjdibpphaaa
open Go.RowKit
set_option linter.unusedVariables false
set_option linter.unusedSimpArgs false

/-- An act: what is done, a number, a text, a plan. -/
structure Ac where
  d : Int
  i : Int
  b : ByteArray
  p0 : Int
  p1 : Int
  p2 : Int
  p3 : Int
def in64 (x : Int) : Prop := -9223372036854775808 ≤ x ∧ x ≤ 9223372036854775807
theorem in64_of {x : Int} (h : (Lit.int .i64 x).wf = true) : in64 x := by
  simp only [Lit.wf, Bool.and_eq_true, decide_eq_true_eq] at h
  exact h
structure AcAt (w : World) (b o : Nat) (a : Ac) : Prop where
  ed : w.cell? ⟨b, o, none⟩ = some (.int .i64 a.d)
  ei : w.cell? ⟨b, o + 1, none⟩ = some (.int .i64 a.i)
  eb : w.cell? ⟨b, o + 2, none⟩ = some (.string a.b)
  e0 : w.cell? ⟨b, o + 3, none⟩ = some (.int .i64 a.p0)
  e1 : w.cell? ⟨b, o + 4, none⟩ = some (.int .i64 a.p1)
  e2 : w.cell? ⟨b, o + 5, none⟩ = some (.int .i64 a.p2)
  e3 : w.cell? ⟨b, o + 6, none⟩ = some (.int .i64 a.p3)
  wi : in64 a.i
  w1 : in64 a.p1
theorem AcAt.below {w w' : World} {b o n0 : Nat} {a : Ac} (h : AcAt w b o a) (hb : Below n0 w w') (hlt : b < n0) : AcAt w' b o a := by
  obtain ⟨h1, h2, h3, h4, h5, h6, h7, h8, h9⟩ := h
  have k := fun o => hb.cell (p := ⟨b, o, none⟩) hlt
  exact ⟨(k _).trans h1, (k _).trans h2, (k _).trans h3, (k _).trans h4, (k _).trans h5, (k _).trans h6, (k _).trans h7, h8, h9⟩
/-- A list of acts that lies below block n0. -/
def IsAc (n0 : Nat) (w : World) (L : List Ac) (a : Option Addr) (cap : Nat) : Prop :=
  L.length ≤ maxLen ∧ (L = [] ∨ ∃ b off, a = some ⟨b, off, none⟩ ∧ b < n0 ∧ ∀ j, (h : j < L.length) → AcAt w b (off + j * 7) L[j])
theorem IsAc.below {n0 : Nat} {w w' : World} {l : List Ac} {a : Option Addr} {cap : Nat} (h : IsAc n0 w l a cap) (hb : Below n0 w w') : IsAc n0 w' l a cap :=
  ⟨h.1, h.2.imp id fun ⟨b, off, e, hlt, hc⟩ => ⟨b, off, e, hlt, fun j hj => by
    obtain ⟨h1, h2, h3, h4, h5, h6, h7, h8, h9⟩ := hc j hj
    have k := fun o => hb.cell (p := ⟨b, o, none⟩) hlt
    exact ⟨(k _).trans h1, (k _).trans h2, (k _).trans h3, (k _).trans h4, (k _).trans h5, (k _).trans h6, (k _).trans h7, h8, h9⟩⟩⟩
theorem plan_fields {H : Type} {enc : TypeId × Value → H} {W : World} {base fuel : Nat} {cs : List Value} {x : DataW H × List MemPlace} (h : DataW.trod enc Try.prog W base (fun _ => true) true fuel 23 cs = some x) : ∃ a b c d : Int, cs = [.int .i64 a, .int .i64 b, .int .i64 c, .int .i64 d] ∧ in64 b := by
  obtain ⟨xs, k, hk, hxy, hcl, hxl, hf⟩ := DataW.trod_struct Try.underlying23 h
  have hc : Try.prog.cellsOf 23 = 4 := by kernel_rfl
  have hi : Try.prog.cellsOf 3 = 1 := by kernel_rfl
  rw [hc] at hcl
  match cs, hcl, xs, hxl with
  | [v0, v1, v2, v3], _, [y0, y1, y2, y3], _ =>
    have g0 := hf 0 _ rfl
    have g1 := hf 1 _ rfl
    have g2 := hf 2 _ rfl
    have g3 := hf 3 _ rfl
    simp [hi] at g0 g1 g2 g3
    obtain ⟨a, e0, _, w0⟩ := DataW.trod_int Try.underlying3 g0
    obtain ⟨b, e1, _, w1⟩ := DataW.trod_int Try.underlying3 g1
    obtain ⟨c, e2, _, w2⟩ := DataW.trod_int Try.underlying3 g2
    obtain ⟨d, e3, _, w3⟩ := DataW.trod_int Try.underlying3 g3
    simp only [List.cons.injEq, and_true] at e0 e1 e2 e3
    subst e0 e1 e2 e3
    exact ⟨a, b, c, d, rfl, in64_of w1⟩
theorem open_planS {H : Type} {enc : TypeId × Value → H} {W : World} {v : Value} {d : DataW H} {ps : List MemPlace} (hval : Value.okWide Try.prog W .any 0 23 v) (hd : DataW.Trod enc Try.prog W 0 (fun _ => true) true 23 v d ps) :
    ∃ a b c e : Int, v = .agg #[.int .i64 a, .int .i64 b, .int .i64 c, .int .i64 e] ∧ in64 b := by
  obtain ⟨cs, hv, _⟩ := Go.WideShapes.okWide_struct Try.underlying23 hval
  obtain ⟨fuel, hf⟩ := hd
  subst hv
  obtain ⟨a, b, c, e, h1, h2⟩ := plan_fields hf
  refine ⟨a, b, c, e, ?_, h2⟩
  have : cs.toList = [.int .i64 a, .int .i64 b, .int .i64 c, .int .i64 e] := h1
  congr 1
  exact Array.toList_inj.1 this
theorem open_actsS {H : Type} {enc : TypeId × Value → H} {W : World} {v : Value} {d : DataW H} {ps : List MemPlace} (hval : Value.okWide Try.prog W .any 0 24 v) (hd : DataW.Trod enc Try.prog W 0 (fun _ => true) true 24 v d ps) :
    ∃ (a : Option Addr) (cap : Nat) (l : List Ac), v = .slice a l.length cap ∧ IsAc W.heap.size W l a cap := by
  obtain ⟨a0, len, cap, rfl⟩ := Go.WideShapes.okWide_slice Try.underlying24 hval
  obtain ⟨fuel, hf⟩ := hd
  have hc : Try.prog.cellsOf 31 = 7 := by kernel_rfl
  have hi : Try.prog.cellsOf 3 = 1 := by kernel_rfl
  have hs : Try.prog.cellsOf 9 = 1 := by kernel_rfl
  have hp : Try.prog.cellsOf 23 = 4 := by kernel_rfl
  rcases Go.Deep.open_slice Try.underlying24 hf with ⟨hcs, _⟩ | ⟨a, len', cap', m, n, D, Pl, hcs, _, hle, hmax, hm, _, hcell⟩
  · simp [Value.cells] at hcs
    obtain ⟨rfl, rfl, rfl⟩ := hcs
    exact ⟨none, 0, [], rfl, Nat.zero_le _, .inl rfl⟩
  · simp [Value.cells] at hcs
    obtain ⟨rfl, rfl, rfl⟩ := hcs
    simp only [if_true] at hm
    have each : ∀ i, ∃ r : Ac, i < len → ∀ b off, a = ⟨b, off, none⟩ → AcAt W b (off + i * 7) r := fun i => by
      by_cases h : i < len
      · obtain ⟨cs', h1, h2⟩ := hcell i (by omega)
        rw [hc] at h1
        obtain ⟨_, hlen, hcl⟩ := World.cells?_some h1
        obtain ⟨xs, k, hk, hxy, hcl2, hxl, hff⟩ := DataW.trod_struct Try.underlying31 h2
        match cs', hlen, xs, hxl with
        | [v0, v1, v2, v3, v4, v5, v6], _, [y0, y1, y2, y3], _ =>
          have g0 := hff 0 _ rfl
          have g1 := hff 1 _ rfl
          have g2 := hff 2 _ rfl
          have g3 := hff 3 _ rfl
          simp [hi, hs, hp] at g0 g1 g2 g3
          obtain ⟨d0, e0, _, w0⟩ := DataW.trod_int Try.underlying3 g0
          obtain ⟨d1, e1, _, w1⟩ := DataW.trod_int Try.underlying3 g1
          obtain ⟨d2, e2, _⟩ := DataW.trod_string Try.underlying9 g2
          obtain ⟨q0, q1, q2, q3, e3, w3⟩ := plan_fields g3
          simp only [List.cons.injEq, and_true] at e0 e1 e2 e3
          obtain ⟨e3, e4, e5, e6⟩ := e3
          subst e0 e1 e2 e3 e4 e5 e6
          refine ⟨⟨d0, d1, d2, q0, q1, q2, q3⟩, fun _ b off ha => ?_⟩
          subst ha
          have k := fun j (hj : j < 7) => hcl j hj
          have e : ∀ j, ((⟨b, off, none⟩ : Addr).add (i * 7)).add j = ⟨b, off + i * 7 + j, none⟩ := fun j => by rw [Addr.add_mid, Addr.add_mid]
          simp only [e] at k
          exact ⟨by simpa using k 0 (by omega), by simpa using k 1 (by omega), by simpa using k 2 (by omega), by simpa using k 3 (by omega), by simpa using k 4 (by omega), by simpa using k 5 (by omega), by simpa using k 6 (by omega), in64_of w1, w3⟩
      · exact ⟨⟨0, 0, ⟨#[]⟩, 0, 0, 0, 0⟩, fun h' => absurd h' h⟩
    obtain ⟨f, hfl⟩ := Classical.skolem.1 each
    have hL : ((List.range len).map f).length = len := by simp
    refine ⟨some a, cap, (List.range len).map f, by rw [hL], by rw [hL]; omega, ?_⟩
    by_cases h0 : len = 0
    · left; subst h0; simp
    · right
      obtain ⟨cs', h1, _⟩ := hcell 0 (by omega)
      rw [hc] at h1
      obtain ⟨_, hlen, hcl⟩ := World.cells?_some h1
      have h2 := hcl 0 (by omega)
      obtain ⟨b, off, spot⟩ := a
      have hspot : spot = none := by simpa [Addr.add] using World.cell?_spot (h2.trans (List.getElem?_eq_getElem (show 0 < cs'.length by omega)))
      subst hspot
      refine ⟨b, off, rfl, World.block_lt_of_cell? W _ (hfl 0 (by omega) b off rfl).ed, fun j hj => ?_⟩
      rw [hL] at hj
      have := hfl j hj b off rfl
      simpa using this
end Go.Proofs.Ytgmlgjdibpphaaa
