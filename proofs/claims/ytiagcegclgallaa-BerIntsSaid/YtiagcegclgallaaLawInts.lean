/-
  ber.Int writes a number in as few bytes as may be: it is read again as that number; with its sign's byte once more ahead it is read as none; without its first byte as another number or none; it stands within the range of its bytes: for every number and every shift, with no further condition.
-/
import Derived.Test.YtiagcegclgallaaRows
import Derived.Test.YtiagcegclgallaaRead
import Derived.Test.YtiagcegclgallaaSame
import Derived.WalkKit
import Derived.ProofKit
import Derived.OpenShut
import Derived.ShutString
import Derived.Below
namespace Go.Proofs.Ytiagcegclgallaa.berInts
open Go.ChangeShapes Go.WideShapes Go.ChangeAt Go.RowKit
open Go.ChangeMaps (open_string shut_string)
set_option linter.unusedVariables false

theorem own : ownKnob Try.prog.godebug = none := by kernel_rfl

theorem rd_same (n : Int) (h0 : -9223372036854775808 ≤ n) (h1 : n ≤ 9223372036854775807) : okInt ⟨(intL n).toArray⟩ = true ∧ theInt ⟨(intL n).toArray⟩ = n := by
  have hk := intK_le h0 h1
  have hr := rd_intL h0 h1
  have hs : (⟨(intL n).toArray⟩ : ByteArray).size = intK n := by rw [← intL_length]; rfl
  have hok : okInt ⟨(intL n).toArray⟩ = true := by
    unfold okInt
    rw [hs]
    simp [hk.1, hk.2, hr]
  exact ⟨hok, by unfold theInt; rw [hok]; simpa using hr⟩

theorem cat_eq (c : UInt8) (l : List UInt8) : (⟨#[c]⟩ ++ ⟨l.toArray⟩ : ByteArray) = ⟨(c :: l).toArray⟩ := by
  apply ByteArray.ext
  simp

/-- ReadInt of what is no number's own text. -/
theorem okInt_pad {k : Int} (h0 : -9223372036854775808 ≤ k) (h1 : k ≤ 9223372036854775807) (c : UInt8) (hc : c = if k < 0 then 255 else 0) : okInt ⟨(c :: intL k).toArray⟩ = false := by
  unfold okInt
  simp only [Bool.and_eq_false_iff]
  right
  show (intL (rd (c :: intL k)) == c :: intL k) = false
  rw [rd_pad h0 h1 c hc]
  simp only [beq_eq_false_iff_ne, ne_eq]
  intro h
  have := congrArg List.length h
  simp at this

theorem okInt_tail {k : Int} (h : okInt ⟨(intL k).tail.toArray⟩ = true) : theInt ⟨(intL k).tail.toArray⟩ ≠ k := by
  have h2 := h
  unfold okInt at h
  simp only [Bool.and_eq_true, beq_iff_eq] at h
  unfold theInt
  rw [h2, if_pos rfl]
  intro e
  have h3 := h.2
  rw [e] at h3
  have := congrArg List.length h3
  simp [intL_length, intK] at this

set_option maxRecDepth 100000 in
set_option maxHeartbeats 1000000 in
theorem walk (a0 : Int) (a1 : Int) (w0 : (Lit.int .i64 a0).wf = true) (w1 : (Lit.int .u8 a1).wf = true) (w : World) :
    Calls Try.prog 10 #[.int .i64 a0, .int .u8 a1] w fun e w' => e = .returned (.bool true) ∧ Below w.heap.size w w' := by
  have h64 := bounds_i64 w0
  have h8 := bounds_u8 w1
  have hk0 : -9223372036854775808 ≤ a0 / 2 ^ (a1 % 64).toNat ∧ a0 / 2 ^ (a1 % 64).toNat ≤ 9223372036854775807 := by
    have hp : (0 : Int) < 2 ^ (a1 % 64).toNat := by exact_mod_cast Nat.two_pow_pos _
    have h1 : (1 : Int) ≤ 2 ^ (a1 % 64).toNat := hp
    generalize (2 : Int) ^ (a1 % 64).toNat = p at *
    constructor
    · rw [Int.le_ediv_iff_mul_le hp]
      have : (-9223372036854775808 : Int) * p ≤ -9223372036854775808 * 1 := Int.mul_le_mul_of_nonpos_left (by decide) h1
      omega
    · by_cases hn : 0 ≤ a0
      · have := Int.ediv_le_self p hn; omega
      · have := Int.ediv_neg_of_neg_of_pos (by omega : a0 < 0) hp; omega
  obtain ⟨k, hk⟩ : ∃ k, k = a0 / 2 ^ (a1 % 64).toNat := ⟨_, rfl⟩
  rw [← hk] at hk0
  obtain ⟨r1, r2⟩ := rd_same k hk0.1 hk0.2
  have hkk := intK_le hk0.1 hk0.2
  have hlen := @intL_length k
  obtain ⟨l, hl⟩ : ∃ l, l = intL k := ⟨_, rfl⟩
  have hpad := fun c hc => okInt_pad hk0.1 hk0.2 c hc
  have htl := @okInt_tail k
  rw [← hl] at r1 r2 hlen hpad htl
  have HK := Lib.hid hk
  have HL := Lib.hid hl
  clear hk hl
  obtain ⟨b, r, rfl⟩ : ∃ b r, l = b :: r := by
    cases l with
    | nil => simp at hlen; omega
    | cons b r => exact ⟨b, r, rfl⟩
  have hr8 : r.length ≤ 7 := by simp at hlen; omega
  have hk1 : intK k = r.length + 1 := by simp at hlen; omega
  have hrange := intK_range hk0.1 hk0.2
  rw [hk1] at hrange
  have hsz : (⟨(b :: r).toArray⟩ : ByteArray).size ≤ maxLen := by show (b :: r).toArray.size ≤ maxLen; simp [maxLen]; omega
  have hri := fun w : World => readInt_any ⟨(b :: r).toArray⟩ hsz w
  rw [r1, r2] at hri
  have HRI := Lib.hid hri
  have HPad := Lib.hid hpad
  have HTl := Lib.hid htl
  have HRg := Lib.hid hrange
  clear r1 r2 hlen hpad htl hkk hk1 hri hrange
  have hd8 : decide ((8 : Int) < (r.length : Int) + 1) = false := by simp; omega
  have hsz9 : ∀ c : UInt8, (⟨(c :: b :: r).toArray⟩ : ByteArray).size ≤ maxLen := fun c => by show (c :: b :: r).toArray.size ≤ maxLen; simp [maxLen]; omega
  have hrp := fun (c : UInt8) (hc : c = if k < 0 then 255 else 0) (w : World) => readInt_any ⟨(c :: b :: r).toArray⟩ (hsz9 c) w
  have hrp2 : ∀ (c : UInt8) (hc : c = if k < 0 then 255 else 0) (w : World), Calls Try.prog 22 #[.string (⟨#[c]⟩ ++ ⟨(b :: r).toArray⟩)] w fun e w' => e = .returned (.tuple #[.int .i64 0, .bool false]) ∧ Below w.heap.size w w' := by
    intro c hc w
    have h1 := HPad.out c hc
    have h2 : theInt ⟨(c :: b :: r).toArray⟩ = 0 := by unfold theInt; rw [h1]; rfl
    have := hrp c hc w
    rw [h1, h2] at this
    rw [cat_eq]; exact this
  clear hrp
  have hre : ∀ w : World, Calls Try.prog 22 #[.string ⟨#[]⟩] w fun e w' => e = .returned (.tuple #[.int .i64 0, .bool false]) ∧ Below w.heap.size w w' := fun w => readInt_any ⟨#[]⟩ (by decide) w
  obtain ⟨y, hy⟩ : ∃ y, y = theInt ⟨r.toArray⟩ := ⟨_, rfl⟩
  obtain ⟨less, hless⟩ : ∃ less, less = okInt ⟨r.toArray⟩ := ⟨_, rfl⟩
  have hrt : ∀ w : World, Calls Try.prog 22 #[.string ((⟨(b :: r).toArray⟩ : ByteArray).extract 1 (r.length + 1))] w fun e w' => e = .returned (.tuple #[.int .i64 y, .bool less]) ∧ Below w.heap.size w w' := by
    intro w
    have e : (⟨(b :: r).toArray⟩ : ByteArray).extract 1 (r.length + 1) = ⟨r.toArray⟩ := by
      apply ByteArray.ext
      simp
    rw [e, hy, hless]
    exact readInt_any ⟨r.toArray⟩ (by show r.toArray.size ≤ maxLen; simp [maxLen]; omega) w
  have hyk : less = true → (y != k) = true := by
    intro h; rw [hless] at h
    have := HTl.out h
    rw [hy]; simpa using this
  have HRE := Lib.hid hre
  have HRT := Lib.hid hrt
  clear hre hrt hy hless
  have hsame : ∀ w : World, Calls Try.prog 17 #[.agg #[.int .i64 2, .string ⟨(b :: r).toArray⟩, .slice none 0 0], .agg #[.int .i64 2, .string ⟨(b :: r).toArray⟩, .slice none 0 0]] w fun e w' => e = .returned (.bool true) ∧ Below w.heap.size w w' := by
    intro w
    have := same_any (.mk 2 ⟨(b :: r).toArray⟩ []) (.mk 2 ⟨(b :: r).toArray⟩ []) w _ _ ⟨none, 0, rfl, rfl, hsz, by decide, trivial⟩ ⟨none, 0, rfl, rfl, hsz, by decide, trivial⟩
    rwa [(sameT_iff _ _).2 rfl] at this
  have HSame := Lib.hid hsame
  clear hsame
  obtain ⟨P, hP⟩ : ∃ P : Int, P = 2 ^ (8 * (r.length + 1) - 1) := ⟨_, rfl⟩
  have hrg := HRg.out
  rw [← hP] at hrg
  have hPb : r.length ≤ 6 → P ≤ 36028797018963968 ∧ 0 < P := by
    intro h6
    have h1 : (2 : Nat) ^ (8 * (r.length + 1) - 1) ≤ 2 ^ 55 := Nat.pow_le_pow_right (by decide) (by omega)
    have h2 : (0 : Nat) < 2 ^ (8 * (r.length + 1) - 1) := Nat.two_pow_pos _
    have e : P = ((2 ^ (8 * (r.length + 1) - 1) : Nat) : Int) := by rw [hP]; simp
    omega
  have HPb := Lib.hid hPb
  clear hPb
  obtain ⟨sign, hsign⟩ : ∃ sign : UInt8, sign = if k < 0 then 255 else 0 := ⟨_, rfl⟩
  have hrp3 := hrp2 sign hsign
  clear hrp2
  by_cases hn : k < 0
  all_goals
    first
    | (have hsg : sign = 255 := by rw [hsign, if_pos hn])
    | (have hsg : sign = 0 := by rw [hsign, if_neg hn])
    subst hsg
    clear hsign
    have HRP := Lib.hid hrp3
    clear hrp3
    by_cases h7 : r.length = 7
    · have hq : (((r.length : Nat) : Int) + 1 == 8) = true := by simp; omega
      have H7 := Lib.hid h7
      have HP := Lib.hid hP
      clear h7 hP hrg
      cases less
      all_goals
      go_enter Try.func10, Try.ntmps10
      go_wp2_with (first
        | (go_at_call 24; rw [← HK.out]; (with_reducible refine (int_any k hk0.1 hk0.2 _).mono ?_); rw [← HL.out]; rintro e w5 ⟨rfl, rfl⟩)
        | (go_at_call 24; (with_reducible refine (int_any k hk0.1 hk0.2 _).mono ?_); rw [← HL.out]; rintro e w9 ⟨rfl, rfl⟩)
        | (go_at_call 22; (with_reducible refine (HRI.out _).mono ?_); rintro e w4 ⟨rfl, hb4⟩)
        | (go_at_call 22; (with_reducible refine (HRP.out _).mono ?_); rintro e w6 ⟨rfl, hb6⟩)
        | (go_at_call 22; (with_reducible refine (HRT.out _).mono ?_); rintro e w7 ⟨rfl, hb7⟩)
        | (go_at_call 22; (with_reducible refine (HRE.out _).mono ?_); rintro e w8 ⟨rfl, hb8⟩)
        | (go_at_call 17; refine (HSame.out _).mono ?_; rintro e w10 ⟨rfl, hb10⟩)
        | (go_at_call 12; refine (awake_any _).mono ?_; rintro e w11 ⟨rfl, hb11⟩))
      go_ret
      exact ⟨rfl, by repeat (first | exact Below.refl _ _ | (refine Below.alloc' ?_ _) | (refine Below.then ?_ (by assumption)))⟩
    · have hq : (((r.length : Nat) : Int) + 1 == 8) = false := by simp; omega
      have hpb := HPb.out (by omega)
      have hw1 : wrap64 (2 ^ (8 * (r.length + 1) - 1)) = P := by rw [← hP]; exact IntWalk.wrap64_in _ ⟨by omega, by omega⟩
      have hw2 : wrap64 (-P) = -P := IntWalk.wrap64_in _ ⟨by omega, by omega⟩
      obtain ⟨hlo, hhi⟩ := hrg
      have H7 := Lib.hid h7
      have HP := Lib.hid hP
      clear h7 hP hpb
      cases less
      all_goals
      go_enter Try.func10, Try.ntmps10
      go_wp2_with (first
        | (go_at_call 24; rw [← HK.out]; (with_reducible refine (int_any k hk0.1 hk0.2 _).mono ?_); rw [← HL.out]; rintro e w5 ⟨rfl, rfl⟩)
        | (go_at_call 24; (with_reducible refine (int_any k hk0.1 hk0.2 _).mono ?_); rw [← HL.out]; rintro e w9 ⟨rfl, rfl⟩)
        | (go_at_call 22; (with_reducible refine (HRI.out _).mono ?_); rintro e w4 ⟨rfl, hb4⟩)
        | (go_at_call 22; (with_reducible refine (HRP.out _).mono ?_); rintro e w6 ⟨rfl, hb6⟩)
        | (go_at_call 22; (with_reducible refine (HRT.out _).mono ?_); rintro e w7 ⟨rfl, hb7⟩)
        | (go_at_call 22; (with_reducible refine (HRE.out _).mono ?_); rintro e w8 ⟨rfl, hb8⟩)
        | (go_at_call 17; refine (HSame.out _).mono ?_; rintro e w10 ⟨rfl, hb10⟩)
        | (go_at_call 12; refine (awake_any _).mono ?_; rintro e w11 ⟨rfl, hb11⟩))
      go_ret
      exact ⟨rfl, by repeat (first | exact Below.refl _ _ | (refine Below.alloc' ?_ _) | (refine Below.then ?_ (by assumption)))⟩

set_option maxRecDepth 100000 in
theorem lifted (os : Os) (started : os.Started) (H : Type) (enc : TypeId × Value → H) :
    ReturnsInHanded {} Try.checked os 10 .any (Rows.berIntsSpec.pre6 enc Try.prog Try.f10 Rows.berIntsRow.domain false) (Rows.berIntsSpec.post enc Try.prog Try.f10 false true false false) := by
  refine returnsInHanded_of_change (C := Try.checked) own started (by kernel_rfl) Try.func10
    (ChangeSpec.witness6 (enc := enc) (C := Try.checked) false ⟨#[], #[.int .i64 0, .int .u8 0], []⟩ 8 (by kernel_rfl) (by kernel_rfl) (by kernel_rfl) (by kernel_rfl)) ?_
  intro W base args ds gs before hval0 hW hcnd _
  have hval : ∀ (j : Nat) t v, Try.f10.params[j]? = some t → args[j]? = some v → Value.okWide Try.prog W .any base t v := hval0
  have hW' := hW
  obtain ⟨p, q, hA0, hV, rfl, hfz, hnd⟩ := hW
  have hA : DataW.TrodAll enc Try.prog W 0 (fun _ => true) true Try.f10.params.toList args.toList ds p := hA0
  rw [Try.params10] at hA hval
  obtain ⟨v0, vs0, d0, ds0, p0, q0, hargs, rfl, rfl, h0, r0⟩ := trodAll_cons hA
  obtain ⟨v1, vs1, d1, ds1, p1, q1, rfl, rfl, rfl, h1, r1⟩ := trodAll_cons r0
  obtain ⟨rfl, rfl, rfl⟩ := trodAll_nil r1
  obtain rfl : args = #[v0, v1] := by cases args; simp_all
  obtain ⟨rfl, rfl⟩ := trodVars_none hV
  obtain ⟨a0, rfl, rfl, rfl, w0⟩ := open_int Try.underlying3 (hval 0 3 v0 rfl rfl) h0
  obtain ⟨a1, rfl, rfl, rfl, w1⟩ := open_int Try.underlying5 (hval 1 5 v1 rfl rfl) h1
  clear hA0 hval0
  simp only [List.append_nil] at hW'
  refine (walk a0 a1 w0 w1 W).mono fun e W' ⟨he, hg⟩ => ?_
  subst he
  exact ⟨_, rfl, _, _, _, [], [], [], hW', (trodAll_cons_mk (shut_bool Try.underlying4 _) trodAll_mk0), (trodAll_cons_mk (shut_int Try.underlying3 w0) (trodAll_cons_mk (shut_int Try.underlying5 w1) trodAll_mk0)), rfl, hg.frame _, fun h => by cases h⟩

theorem over : Rows.berIntsRow.holds Try.pinned (OpenSpec.ofChange Rows.berIntsSpec) :=
  OpenClaim.holds_of_wide 10 Try.f10 rfl rfl rfl rfl rfl rfl rfl ⟨rfl, rfl, rfl, rfl, rfl⟩ rfl rfl rfl rfl rfl (by kernel_rfl) Try.func10 (by kernel_rfl)
    (of_decide_eq_true (by kernel_rfl)) (by unfold Func.isWrapper; first | (rw [if_pos (by decide +kernel)]; kernel_rfl) | (rw [if_neg (by decide +kernel)]; exact ⟨rfl, rfl⟩))
    (fun os started H enc _ => lifted os started H enc)

theorem proved : Rows.BerIntsSaid :=
  over
#print axioms proved
end Go.Proofs.Ytiagcegclgallaa.berInts
