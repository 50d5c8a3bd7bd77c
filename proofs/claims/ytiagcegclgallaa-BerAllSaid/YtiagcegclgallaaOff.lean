/- Tlvs in memory that do not reach into a block. -/
import Derived.Test.YtiagcegclgallaaMem
import Derived.Test.YtiagcegclgallaaSize
namespace Go.Proofs.Ytiagcegclgallaa
open Go.RowKit
set_option linter.unusedVariables false

mutual
/-- What the value of t leads to does not lie in block g. -/
def OffT (g : Nat) (w : World) : T → Value → Prop
  | .mk tag s l, v => ∃ a cap, v = .agg #[.int .i64 tag, .string s, .slice a l.length cap] ∧ OffTs g w l a 0
def OffTs (g : Nat) (w : World) : List T → Option Addr → Nat → Prop
  | [], _, _ => True
  | t :: l, a, i => (∃ b off v0 v1 v2, a = some ⟨b, off, none⟩ ∧ b ≠ g ∧ w.cell? ⟨b, off + i * 3, none⟩ = some v0 ∧ w.cell? ⟨b, off + i * 3 + 1, none⟩ = some v1 ∧ w.cell? ⟨b, off + i * 3 + 2, none⟩ = some v2 ∧ OffT g w t (.agg #[v0, v1, v2])) ∧ OffTs g w l a (i + 1)
end

/-- Where all blocks below n0 but g lie as they lay. -/
def ButG (n0 g : Nat) (w w' : World) : Prop := ∀ k, k < n0 → k ≠ g → w'.heap[k]? = w.heap[k]?

mutual
theorem IsT.butG {n0 n1 g : Nat} {w w' : World} (h : ButG n0 g w w') (hn : n0 ≤ n1) : ∀ (t : T) (v : Value), IsT n0 w t v → OffT g w t v → IsT n1 w' t v
  | .mk tag s l, v, ⟨a, cap, e, h1, h2, h3, h4⟩, ⟨a', cap', e', k4⟩ => by
    rw [e] at e'
    simp only [Value.agg.injEq, Array.mk.injEq, List.cons.injEq, Value.slice.injEq, and_true, true_and] at e'
    obtain ⟨rfl, rfl⟩ := e'
    exact ⟨a, cap, e, h1, h2, h3, IsTs.butG h hn l a 0 h4 k4⟩
theorem IsTs.butG {n0 n1 g : Nat} {w w' : World} (h : ButG n0 g w w') (hn : n0 ≤ n1) : ∀ (l : List T) (a : Option Addr) (i : Nat), IsTs n0 w l a i → OffTs g w l a i → IsTs n1 w' l a i
  | [], _, _, _, _ => trivial
  | t :: l, a, i, ⟨⟨b, off, v0, v1, v2, e, hb, h0, h1, h2, ht⟩, hl⟩, ⟨⟨b', off', u0, u1, u2, e', hb', k0, k1, k2, kt⟩, kl⟩ => by
    rw [e] at e'
    simp only [Option.some.injEq, Addr.mk.injEq, and_true] at e'
    obtain ⟨rfl, rfl⟩ := e'
    rw [h0] at k0; rw [h1] at k1; rw [h2] at k2
    cases k0; cases k1; cases k2
    exact ⟨⟨b, off, v0, v1, v2, e, Nat.lt_of_lt_of_le hb hn, (World.cell?_of_block (h b hb hb')).trans h0, (World.cell?_of_block (h b hb hb')).trans h1, (World.cell?_of_block (h b hb hb')).trans h2, IsT.butG h hn t _ ht kt⟩, IsTs.butG h hn l a (i + 1) hl kl⟩
end

mutual
theorem OffT.butG {n0 g f : Nat} {w w' : World} (h : ButG n0 g w w') : ∀ (t : T) (v : Value), IsT n0 w t v → OffT g w t v → OffT f w t v → OffT f w' t v
  | .mk tag s l, v, ⟨a, cap, e, h1, h2, h3, h4⟩, ⟨a', cap', e', k4⟩, ⟨a2, cap2, e2, m4⟩ => by
    rw [e] at e' e2
    simp only [Value.agg.injEq, Array.mk.injEq, List.cons.injEq, Value.slice.injEq, and_true, true_and] at e' e2
    obtain ⟨rfl, rfl⟩ := e'
    obtain ⟨rfl, rfl⟩ := e2
    exact ⟨a, cap, e, OffTs.butG h l a 0 h4 k4 m4⟩
theorem OffTs.butG {n0 g f : Nat} {w w' : World} (h : ButG n0 g w w') : ∀ (l : List T) (a : Option Addr) (i : Nat), IsTs n0 w l a i → OffTs g w l a i → OffTs f w l a i → OffTs f w' l a i
  | [], _, _, _, _, _ => trivial
  | t :: l, a, i, ⟨⟨b, off, v0, v1, v2, e, hb, h0, h1, h2, ht⟩, hl⟩, ⟨⟨b', off', u0, u1, u2, e', hb', k0, k1, k2, kt⟩, kl⟩, ⟨⟨b2, off2, x0, x1, x2, e2, hb2, m0, m1, m2, mt⟩, ml⟩ => by
    rw [e] at e' e2
    simp only [Option.some.injEq, Addr.mk.injEq, and_true] at e' e2
    obtain ⟨rfl, rfl⟩ := e'
    obtain ⟨rfl, rfl⟩ := e2
    rw [h0] at k0 m0; rw [h1] at k1 m1; rw [h2] at k2 m2
    cases k0; cases k1; cases k2; cases m0; cases m1; cases m2
    exact ⟨⟨b, off, v0, v1, v2, e, hb2, (World.cell?_of_block (h b hb hb')).trans h0, (World.cell?_of_block (h b hb hb')).trans h1, (World.cell?_of_block (h b hb hb')).trans h2, OffT.butG h t _ ht kt mt⟩, OffTs.butG h l a (i + 1) hl kl ml⟩
end

mutual
/-- Nothing below n0 is at or above n0. -/
theorem IsT.off {n0 g : Nat} {w : World} (hg : n0 ≤ g) : ∀ (t : T) (v : Value), IsT n0 w t v → OffT g w t v
  | .mk tag s l, v, ⟨a, cap, e, _, _, _, h4⟩ => ⟨a, cap, e, IsTs.off hg l a 0 h4⟩
theorem IsTs.off {n0 g : Nat} {w : World} (hg : n0 ≤ g) : ∀ (l : List T) (a : Option Addr) (i : Nat), IsTs n0 w l a i → OffTs g w l a i
  | [], _, _, _ => trivial
  | t :: l, a, i, ⟨⟨b, off, v0, v1, v2, e, hb, h0, h1, h2, ht⟩, hl⟩ => ⟨⟨b, off, v0, v1, v2, e, by omega, h0, h1, h2, IsT.off hg t _ ht⟩, IsTs.off hg l a (i + 1) hl⟩
end

/-- What a call has made: a tlv that lies in memory newer than B. -/
def NewT (B : Nat) (w : World) (t : T) (v : Value) : Prop := IsT w.heap.size w t v ∧ ∀ g, g < B → OffT g w t v

/-- A step that turns block g alone, which t does not reach into. -/
theorem NewT.grown {B g : Nat} {w w' : World} {t : T} {v : Value} (h : NewT B w t v) (hg : g < B) (hgr : w.grownBy w' (some g)) : NewT B w' t v :=
  have hb : ButG w.heap.size g w w' := fun k hk hne => hgr.block k hk (fun e => hne (by cases e; rfl))
  ⟨h.1.butG hb hgr.size t v (h.2 g hg), fun f hf => OffT.butG hb t v h.1 (h.2 g hg) (h.2 f hf)⟩
theorem NewT.grownAt {B g : Nat} {w w' : World} {t : T} {v : Value} (h : NewT B w t v) (hg : OffT g w t v) (hgr : w.grownBy w' (some g)) : NewT B w' t v ∧ OffT g w' t v :=
  have hb : ButG w.heap.size g w w' := fun k hk hne => hgr.block k hk (fun e => hne (by cases e; rfl))
  ⟨⟨h.1.butG hb hgr.size t v hg, fun f hf => OffT.butG hb t v h.1 hg (h.2 f hf)⟩, OffT.butG hb t v h.1 hg hg⟩
theorem NewT.mono {B B' : Nat} {w : World} {t : T} {v : Value} (h : NewT B w t v) (hB : B' ≤ B) : NewT B' w t v := ⟨h.1, fun g hg => h.2 g (Nat.lt_of_lt_of_le hg hB)⟩

end Go.Proofs.Ytiagcegclgallaa
