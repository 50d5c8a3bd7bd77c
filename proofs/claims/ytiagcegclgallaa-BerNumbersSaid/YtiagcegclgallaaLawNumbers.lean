/-
  ber.Int and ber.ReadInt tell of any number its bytes, and of any text the number that it is, as the document's own functions do, and a number is told again: for every number and every text, with no further condition.
-/
import Derived.Test.YtiagcegclgallaaRows
import Derived.Test.YtiagcegclgallaaRead
import Derived.Test.YtiagcegclgallaaAwake
import Derived.WalkKit
import Derived.ProofKit
import Derived.OpenShut
import Derived.ShutString
import Derived.Below
namespace Go.Proofs.Ytiagcegclgallaa.berNumbers
open Go.ChangeShapes Go.WideShapes Go.ChangeAt Go.RowKit
open Go.ChangeMaps (open_string shut_string)
set_option linter.unusedVariables false

theorem own : ownKnob Try.prog.godebug = none := by kernel_rfl

theorem rd_same (n : Int) (h0 : -9223372036854775808 ≤ n) (h1 : n ≤ 9223372036854775807) : okInt ⟨(intL n).toArray⟩ = true ∧ theInt ⟨(intL n).toArray⟩ = n := by
  have hk := intK_le h0 h1
  have hr := rd_intL h0 h1
  have hs : (⟨(intL n).toArray⟩ : ByteArray).size = intK n := by rw [← intL_length]; rfl
  have hok : okInt ⟨(intL n).toArray⟩ = true := by
    unfold okInt
    rw [hs]
    simp [hk.1, hk.2, hr]
  exact ⟨hok, by unfold theInt; rw [hok]; simpa using hr⟩

set_option maxRecDepth 100000 in
set_option maxHeartbeats 1000000 in
theorem walk (a0 : Int) (a1 : ByteArray) (w0 : (Lit.int .i64 a0).wf = true) (w1 : a1.size ≤ maxLen) (w : World) :
    Calls Try.prog 5 #[.int .i64 a0, .string a1] w fun e w' => e = .returned (.bool true) ∧ Below w.heap.size w w' := by
  have h64 : -9223372036854775808 ≤ a0 ∧ a0 ≤ 9223372036854775807 := bounds_i64 w0
  by_cases hlen : a1.size ≤ 100
  · have hd : decide ((100 : Int) < (a1.size : Int)) = false := by simp; omega
    obtain ⟨r1, r2⟩ := rd_same a0 h64.1 h64.2
    have hsz : (⟨(intL a0).toArray⟩ : ByteArray).size ≤ maxLen := by
      have := intK_le h64.1 h64.2
      show (intL a0).toArray.size ≤ maxLen
      simp [intL_length, maxLen]; omega
    have hri := fun w : World => readInt_any ⟨(intL a0).toArray⟩ hsz w
    rw [r1, r2] at hri
    have HRI := Lib.hid hri
    clear r1 r2 hri
    have hrs := fun w : World => readInt_any a1 w1 w
    have hrr := fun w : World => refReadInt_any a1 w1 w
    obtain ⟨ri, hri⟩ : ∃ ri, ri = theInt a1 := ⟨_, rfl⟩
    obtain ⟨rb, hrb⟩ : ∃ rb, rb = okInt a1 := ⟨_, rfl⟩
    rw [← hri, ← hrb] at hrs hrr
    have HRS := Lib.hid hrs
    have HRR := Lib.hid hrr
    clear hrs hrr hri hrb
    obtain ⟨l, hl⟩ : ∃ l, l = intL a0 := ⟨_, rfl⟩
    rw [← hl] at HRI
    have HL := Lib.hid hl
    clear hl
    have tok1 : True := trivial
    go_enter Try.func5, Try.ntmps5
    go_wp2_with (first
      | (go_at_call 22; have _t := tok1; refine (HRS.out _).mono ?_; clear tok1; rintro e w2 ⟨rfl, hb2⟩)
      | (go_at_call 22; refine (HRI.out _).mono ?_; rintro e w4 ⟨rfl, hb4⟩; have s4 := hb4.size; simp only [World.size_alloc] at s4; have k0 := (hb4.cell (p := ⟨w3.heap.size, 0, none⟩) (by simp; omega)).trans (show _ = some (.int .i64 ri) from by rw [World.cell?_alloc_past _ _ _ (by simp), World.cell?_alloc_new]; rfl); have k1 := (hb4.cell (p := ⟨w3.heap.size, 1, none⟩) (by simp; omega)).trans (show _ = some (.bool rb) from by rw [World.cell?_alloc_past _ _ _ (by simp), World.cell?_alloc_new]; rfl))
      | (go_at_call 23; refine (HRR.out _).mono ?_; rintro e w3 ⟨rfl, hb3⟩)
      | (go_at_call 24; refine (int_any a0 h64.1 h64.2 _).mono ?_; rw [← HL.out]; rintro e w5 ⟨rfl, rfl⟩)
      | (go_at_call 25; refine (refInt_any a0 h64.1 h64.2 _).mono ?_; rw [← HL.out]; rintro e w6 ⟨rfl, hb6⟩; have j0 := (hb6.cell (p := ⟨w3.heap.size, 0, none⟩) (by simp; omega)).trans ((World.cell?_alloc_past _ _ _ (by omega)).trans k0); have j1 := (hb6.cell (p := ⟨w3.heap.size, 1, none⟩) (by simp; omega)).trans ((World.cell?_alloc_past _ _ _ (by omega)).trans k1))
      | (go_at_call 12; refine (awake_any _).mono ?_; rintro e w7 ⟨rfl, hb7⟩))
    go_ret
    exact ⟨rfl, ((((hb2.then hb3).alloc' _).alloc' _).then hb4 |>.alloc' _).then hb6 |>.then hb7⟩
  · have hd : decide ((100 : Int) < (a1.size : Int)) = true := by simp; omega
    go_enter Try.func5, Try.ntmps5
    go_wp2_with (go_at_call 12; refine (awake_any _).mono ?_; rintro e w2 ⟨rfl, hb2⟩)
    go_ret
    exact ⟨rfl, hb2⟩

set_option maxRecDepth 100000 in
theorem lifted (os : Os) (started : os.Started) (H : Type) (enc : TypeId × Value → H) :
    ReturnsInHanded {} Try.checked os 5 .any (Rows.berNumbersSpec.pre6 enc Try.prog Try.f5 Rows.berNumbersRow.domain false) (Rows.berNumbersSpec.post enc Try.prog Try.f5 false true false false) := by
  refine returnsInHanded_of_change (C := Try.checked) own started (by kernel_rfl) Try.func5
    (ChangeSpec.witness6 (enc := enc) (C := Try.checked) false ⟨#[], #[.int .i64 0, .string ByteArray.empty], []⟩ 8 (by kernel_rfl) (by kernel_rfl) (by kernel_rfl) (by kernel_rfl)) ?_
  intro W base args ds gs before hval0 hW hcnd _
  have hval : ∀ (j : Nat) t v, Try.f5.params[j]? = some t → args[j]? = some v → Value.okWide Try.prog W .any base t v := hval0
  have hW' := hW
  obtain ⟨p, q, hA0, hV, rfl, hfz, hnd⟩ := hW
  have hA : DataW.TrodAll enc Try.prog W 0 (fun _ => true) true Try.f5.params.toList args.toList ds p := hA0
  rw [Try.params5] at hA hval
  obtain ⟨v0, vs0, d0, ds0, p0, q0, hargs, rfl, rfl, h0, r0⟩ := trodAll_cons hA
  obtain ⟨v1, vs1, d1, ds1, p1, q1, rfl, rfl, rfl, h1, r1⟩ := trodAll_cons r0
  obtain ⟨rfl, rfl, rfl⟩ := trodAll_nil r1
  obtain rfl : args = #[v0, v1] := by cases args; simp_all
  obtain ⟨rfl, rfl⟩ := trodVars_none hV
  obtain ⟨a0, rfl, rfl, rfl, w0⟩ := open_int Try.underlying3 (hval 0 3 v0 rfl rfl) h0
  obtain ⟨a1, rfl, rfl, rfl, w1⟩ := open_string Try.underlying9 (hval 1 9 v1 rfl rfl) h1
  clear hA0 hval0
  simp only [List.append_nil] at hW'
  refine (walk a0 a1 w0 w1 W).mono fun e W' ⟨he, hg⟩ => ?_
  subst he
  exact ⟨_, rfl, _, _, _, [], [], [], hW', (trodAll_cons_mk (shut_bool Try.underlying4 _) trodAll_mk0), (trodAll_cons_mk (shut_int Try.underlying3 w0) (trodAll_cons_mk (shut_string Try.underlying9 w1) trodAll_mk0)), rfl, hg.frame _, fun h => by cases h⟩

theorem over : Rows.berNumbersRow.holds Try.pinned (OpenSpec.ofChange Rows.berNumbersSpec) :=
  OpenClaim.holds_of_wide 5 Try.f5 rfl rfl rfl rfl rfl rfl rfl ⟨rfl, rfl, rfl, rfl, rfl⟩ rfl rfl rfl rfl rfl (by kernel_rfl) Try.func5 (by kernel_rfl)
    (of_decide_eq_true (by kernel_rfl)) (by unfold Func.isWrapper; first | (rw [if_pos (by decide +kernel)]; kernel_rfl) | (rw [if_neg (by decide +kernel)]; exact ⟨rfl, rfl⟩))
    (fun os started H enc _ => lifted os started H enc)

theorem proved : Rows.BerNumbersSaid :=
  over
#print axioms proved
end Go.Proofs.Ytiagcegclgallaa.berNumbers
