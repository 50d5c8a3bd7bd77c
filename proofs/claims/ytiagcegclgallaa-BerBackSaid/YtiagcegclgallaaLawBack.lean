/-
  Of a tlv by numbers, with any bytes ahead and behind, ber.Get tells the tlv again by what ber.Put made of it; of a beginning of those bytes it asks for more; with a byte turned it tells another one, or none: for every list of numbers, every text, every bytes around, every cut, place and byte, with no further condition.
-/
import Derived.Test.YtiagcegclgallaaRows
import Derived.Test.YtiagcegclgallaaBackW
import Derived.WalkKit
import Derived.ProofKit
import Derived.OpenShut
import Derived.ShutString
import Derived.Below
namespace Go.Proofs.Ytiagcegclgallaa.berBack
open Go.ChangeShapes Go.WideShapes Go.ChangeAt Go.RowKit
open Go.ChangeMaps (open_string shut_string)
set_option linter.unusedVariables false

theorem own : ownKnob Try.prog.godebug = none := by kernel_rfl
theorem laid : laidOutB Try.prog = true := by kernel_rfl

theorem walk (ns fl bl : List UInt8) (a0 a2 a3 : Option Addr) (c0 c2 c3 : Nat) (s : ByteArray) (cut at_ by_ : Int) (w4 : (Lit.int .u16 cut).wf = true) (w5 : (Lit.int .u16 at_).wf = true) (w6 : (Lit.int .u8 by_).wf = true) {W : World}
    (i0 : IsB W.heap.size W ns a0 c0) (i2 : IsB W.heap.size W fl a2 c2) (i3 : IsB W.heap.size W bl a3 c3) (w : World) (hw : w = W := by rfl) :
    Calls Try.prog 6 #[.slice a0 ns.length c0, .string s, .slice a2 fl.length c2, .slice a3 bl.length c3, .int .u16 cut, .int .u16 at_, .int .u8 by_] w fun e w' => e = .returned (.bool true) ∧ Below w.heap.size w w' := by
  subst hw
  by_cases h : ns.length ≤ 20 ∧ s.size ≤ 200 ∧ fl.length ≤ 20 ∧ bl.length ≤ 20 ∧ by_ ≠ 0
  · exact back_in ns fl bl a0 a2 a3 c0 c2 c3 s cut at_ by_ h.1 h.2.1 h.2.2.1 h.2.2.2.1 h.2.2.2.2 (bounds_u16 w4) (bounds_u16 w5) (bounds_u8 w6) w i0 i2 i3
  · exact back_out ns fl bl a0 a2 a3 c0 c2 c3 s cut at_ by_ h w

set_option maxRecDepth 100000 in
theorem lifted (os : Os) (started : os.Started) (H : Type) (enc : TypeId × Value → H) :
    ReturnsInHanded {} Try.checked os 6 .any (Rows.berBackSpec.pre6 enc Try.prog Try.f6 Rows.berBackRow.domain false) (Rows.berBackSpec.post enc Try.prog Try.f6 false true false false) := by
  refine returnsInHanded_of_change (C := Try.checked) own started (by kernel_rfl) Try.func6
    (ChangeSpec.witness6 (enc := enc) (C := Try.checked) false ⟨#[], #[.slice none 0 0, .string ByteArray.empty, .slice none 0 0, .slice none 0 0, .int .u16 0, .int .u16 0, .int .u8 0], []⟩ 8 (by kernel_rfl) (by kernel_rfl) (by kernel_rfl) (by kernel_rfl)) ?_
  intro W base args ds gs before hval0 hW hcnd _
  have hval : ∀ (j : Nat) t v, Try.f6.params[j]? = some t → args[j]? = some v → Value.okWide Try.prog W .any base t v := hval0
  have hW' := hW
  obtain ⟨p, q, hA0, hV, rfl, hfz, hnd⟩ := hW
  have hA : DataW.TrodAll enc Try.prog W 0 (fun _ => true) true Try.f6.params.toList args.toList ds p := hA0
  rw [Try.params6] at hA hval
  obtain ⟨v0, vs0, d0, ds0, p0, q0, hargs, rfl, rfl, h0, r0⟩ := trodAll_cons hA
  obtain ⟨v1, vs1, d1, ds1, p1, q1, rfl, rfl, rfl, h1, r1⟩ := trodAll_cons r0
  obtain ⟨v2, vs2, d2, ds2, p2, q2, rfl, rfl, rfl, h2, r2⟩ := trodAll_cons r1
  obtain ⟨v3, vs3, d3, ds3, p3, q3, rfl, rfl, rfl, h3, r3⟩ := trodAll_cons r2
  obtain ⟨v4, vs4, d4, ds4, p4, q4, rfl, rfl, rfl, h4, r4⟩ := trodAll_cons r3
  obtain ⟨v5, vs5, d5, ds5, p5, q5, rfl, rfl, rfl, h5, r5⟩ := trodAll_cons r4
  obtain ⟨v6, vs6, d6, ds6, p6, q6, rfl, rfl, rfl, h6, r6⟩ := trodAll_cons r5
  obtain ⟨rfl, rfl, rfl⟩ := trodAll_nil r6
  obtain rfl : args = #[v0, v1, v2, v3, v4, v5, v6] := by cases args; simp_all
  obtain ⟨rfl, rfl⟩ := trodVars_none hV
  obtain ⟨a0, c0, l0, rfl, i0⟩ := open_bytes (hval 0 44 v0 rfl rfl) h0
  obtain ⟨s, rfl, rfl, rfl, w1⟩ := open_string Try.underlying9 (hval 1 9 v1 rfl rfl) h1
  obtain ⟨a2, c2, l2, rfl, i2⟩ := open_bytes (hval 2 44 v2 rfl rfl) h2
  obtain ⟨a3, c3, l3, rfl, i3⟩ := open_bytes (hval 3 44 v3 rfl rfl) h3
  obtain ⟨cut, rfl, rfl, rfl, w4⟩ := open_int Try.underlying45 (hval 4 45 v4 rfl rfl) h4
  obtain ⟨at_, rfl, rfl, rfl, w5⟩ := open_int Try.underlying45 (hval 5 45 v5 rfl rfl) h5
  obtain ⟨by_, rfl, rfl, rfl, w6⟩ := open_int Try.underlying5 (hval 6 5 v6 rfl rfl) h6
  clear hA0 hval0
  simp only [List.append_nil, List.nil_append] at hW'
  have hlt : ∀ x ∈ p0 ++ (p2 ++ p3), x.block < W.heap.size := fun x hx => by simpa using hW'.lt x hx
  refine (walk l0 l2 l3 a0 a2 a3 c0 c2 c3 s cut at_ by_ w4 w5 w6 i0 i2 i3 W).mono fun e W' ⟨he, hg⟩ => ?_
  subst he
  have k0 := Below.trod laid (by kernel_rfl) (of_decide_eq_true (by kernel_rfl)) h0 hg (fun x hx => hlt x (by simp [hx]))
  have k2 := Below.trod laid (by kernel_rfl) (of_decide_eq_true (by kernel_rfl)) h2 hg (fun x hx => hlt x (by simp [hx]))
  have k3 := Below.trod laid (by kernel_rfl) (of_decide_eq_true (by kernel_rfl)) h3 hg (fun x hx => hlt x (by simp [hx]))
  exact ⟨_, rfl, _, _, _, [], _, [], hW', (trodAll_cons_mk (shut_bool Try.underlying4 _) trodAll_mk0), (trodAll_cons_mk k0 (trodAll_cons_mk (shut_string Try.underlying9 w1) (trodAll_cons_mk k2 (trodAll_cons_mk k3 (trodAll_cons_mk (shut_int Try.underlying45 w4) (trodAll_cons_mk (shut_int Try.underlying45 w5) (trodAll_cons_mk (shut_int Try.underlying5 w6) trodAll_mk0))))))), rfl, hg.frame _, fun h => by cases h⟩

theorem over : Rows.berBackRow.holds Try.pinned (OpenSpec.ofChange Rows.berBackSpec) :=
  OpenClaim.holds_of_wide 6 Try.f6 rfl rfl rfl rfl rfl rfl rfl ⟨rfl, rfl, rfl, rfl, rfl⟩ rfl rfl rfl rfl rfl (by kernel_rfl) Try.func6 (by kernel_rfl)
    (of_decide_eq_true (by kernel_rfl)) (by unfold Func.isWrapper; first | (rw [if_pos (by decide +kernel)]; kernel_rfl) | (rw [if_neg (by decide +kernel)]; exact ⟨rfl, rfl⟩))
    (fun os started H enc _ => lifted os started H enc)

theorem proved : Rows.BerBackSaid :=
  over
#print axioms proved
end Go.Proofs.Ytiagcegclgallaa.berBack
