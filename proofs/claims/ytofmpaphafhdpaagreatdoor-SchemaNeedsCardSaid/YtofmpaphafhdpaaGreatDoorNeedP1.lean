/- Several texts in one file: ScPer, ScFst, ScFstW, RegInv, RegFact, RegTwo. -/
import Derived.Test.YtofmpaphafhdpaaGreatDoorScCheck
import Derived.Test.YtofmpaphafhdpaaGreatDoorMaCasesW
import Derived.Test.YtofmpaphafhdpaaGreatDoorMaDig
import Derived.Deep.CutRange
import Derived.RegionTactic
import Derived.Below
/- brooklaw4.Person, awake: the walks. -/
namespace Go.Proofs.YtofmpaphafhdpaaGreatDoor
open Go.RowKit
set_option linter.unusedVariables false

def perL (n : List UInt8) : List AT := [([99, 110], [n]), ([111, 98, 106, 101, 99, 116, 99, 108, 97, 115, 115], [[112, 101, 114, 115, 111, 110]]), ([115, 110], [[115]])]
def perD (n : List UInt8) : List UInt8 := [99, 110, 61] ++ n ++ [44, 111, 61, 120]

/-- The blocks of a person's attributes. -/
structure PerAt (w : World) (g : Nat) (N : ByteArray) : Prop where
  b1 : w.heap[g - 3]? = some (.cells #[.string N] 9 (0, 0))
  b2 : w.heap[g - 2]? = some (.cells #[.string ⟨#[112, 101, 114, 115, 111, 110]⟩] 9 (0, 0))
  b3 : w.heap[g - 1]? = some (.cells #[.string ⟨#[115]⟩] 9 (0, 0))
  b4 : w.heap[g]? = some (.cells #[.string ⟨#[99, 110]⟩, .slice (some ⟨g - 3, 0, none⟩) 1 1, .string ⟨#[111, 98, 106, 101, 99, 116, 99, 108, 97, 115, 115]⟩, .slice (some ⟨g - 2, 0, none⟩) 1 1, .string ⟨#[115, 110]⟩, .slice (some ⟨g - 1, 0, none⟩) 1 1] 42 (0, 0))
  lt : g < w.heap.size
theorem PerAt.below {w w' : World} {g n : Nat} {N : ByteArray} (h : PerAt w g N) (hb : Below n w w') (hn : g < n) : PerAt w' g N :=
  ⟨(hb.block _ (by omega)).trans h.b1, (hb.block _ (by omega)).trans h.b2, (hb.block _ (by omega)).trans h.b3, (hb.block _ hn).trans h.b4, Nat.lt_of_lt_of_le h.lt hb.size⟩
theorem isT_block {w : World} {b n0 : Nat} {X : ByteArray} {e : TypeId} (h : w.heap[b]? = some (.cells #[.string X] e (0, 0))) (hn : b < n0) : IsT n0 w [X.data.toList] (.slice (some ⟨b, 0, none⟩) 1 1) :=
  ⟨_, _, rfl, by unfold maxLen; simp, fun j hj => by
    have : j = 0 := by simp at hj; omega
    subst this
    refine ⟨b, 0, rfl, hn, ?_⟩
    rw [show [X.data.toList][0] = X.data.toList from rfl, strV_whole]
    simp only [World.cell?, h]; rfl⟩
theorem PerAt.isA {w : World} {g : Nat} {N : ByteArray} (h : PerAt w g N) : IsA w.heap.size w (perL N.data.toList) (.slice (some ⟨g, 0, none⟩) 3 3) := by
  have hg := h.lt
  refine ⟨_, _, rfl, by unfold maxLen perL; simp, fun j hj => ?_⟩
  match j, hj with
  | 0, _ => exact ⟨g, 0, _, rfl, hg, by simp only [World.cell?, h.b4]; rfl, by simp only [World.cell?, h.b4]; rfl, isT_block h.b1 (by omega)⟩
  | 1, _ => exact ⟨g, 0, _, rfl, hg, by simp only [World.cell?, h.b4]; rfl, by simp only [World.cell?, h.b4]; rfl, isT_block h.b2 (by omega)⟩
  | 2, _ => exact ⟨g, 0, _, rfl, hg, by simp only [World.cell?, h.b4]; rfl, by simp only [World.cell?, h.b4]; rfl, isT_block h.b3 (by omega)⟩

theorem PerAt.cells {w : World} {g : Nat} {N : ByteArray} (h : PerAt w g N) : w.cell? ⟨g, 2, none⟩ = some (.string ⟨#[111, 98, 106, 101, 99, 116, 99, 108, 97, 115, 115]⟩) ∧ w.cell? ⟨g, 3, none⟩ = some (.slice (some ⟨g - 2, 0, none⟩) 1 1) ∧ w.cell? ⟨g, 4, none⟩ = some (.string ⟨#[115, 110]⟩) ∧ w.cell? ⟨g, 5, none⟩ = some (.slice (some ⟨g - 1, 0, none⟩) 1 1) :=
  ⟨by simp only [World.cell?, h.b4]; rfl, by simp only [World.cell?, h.b4]; rfl, by simp only [World.cell?, h.b4]; rfl, by simp only [World.cell?, h.b4]; rfl⟩
theorem per_blocks (w : World) (N : ByteArray) (o : Obj) : PerAt (((((w.alloc o).alloc (.cells #[.string N] 9)).alloc (.cells #[.string ⟨#[112, 101, 114, 115, 111, 110]⟩] 9)).alloc (.cells #[.string ⟨#[115]⟩] 9)).alloc (.cells #[.string ⟨#[99, 110]⟩, .slice (some ⟨w.heap.size + 1, 0, none⟩) 1 1, .string ⟨#[111, 98, 106, 101, 99, 116, 99, 108, 97, 115, 115]⟩, .slice (some ⟨w.heap.size + 1 + 1, 0, none⟩) 1 1, .string ⟨#[115, 110]⟩, .slice (some ⟨w.heap.size + 1 + 1 + 1, 0, none⟩) 1 1] 42)) (w.heap.size + 4) N := by
  have s1 : (w.alloc o).heap.size = w.heap.size + 1 := by simp
  have e1 := heap_alloc_new (w.alloc o) (.cells #[.string N] 9)
  rw [s1] at e1
  generalize w.alloc o = W1 at s1 e1 ⊢
  have s2 : (W1.alloc (.cells #[.string N] 9)).heap.size = w.heap.size + 2 := by simp; omega
  have e2 := heap_alloc_new (W1.alloc (.cells #[.string N] 9)) (.cells #[.string ⟨#[112, 101, 114, 115, 111, 110]⟩] 9)
  rw [s2] at e2
  generalize W1.alloc (.cells #[.string N] 9) = W2 at s2 e1 e2 ⊢
  have s3 : (W2.alloc (.cells #[.string ⟨#[112, 101, 114, 115, 111, 110]⟩] 9)).heap.size = w.heap.size + 3 := by simp; omega
  have f1 := (heap_alloc_old W2 (.cells #[.string ⟨#[112, 101, 114, 115, 111, 110]⟩] 9) (show w.heap.size + 1 < W2.heap.size by omega)).trans e1
  have e3 := heap_alloc_new (W2.alloc (.cells #[.string ⟨#[112, 101, 114, 115, 111, 110]⟩] 9)) (.cells #[.string ⟨#[115]⟩] 9)
  rw [s3] at e3
  generalize W2.alloc (.cells #[.string ⟨#[112, 101, 114, 115, 111, 110]⟩] 9) = W3 at s3 e2 e3 f1 ⊢
  have s4 : (W3.alloc (.cells #[.string ⟨#[115]⟩] 9)).heap.size = w.heap.size + 4 := by simp; omega
  have g1 := (heap_alloc_old W3 (.cells #[.string ⟨#[115]⟩] 9) (show w.heap.size + 1 < W3.heap.size by omega)).trans f1
  have g2 := (heap_alloc_old W3 (.cells #[.string ⟨#[115]⟩] 9) (show w.heap.size + 2 < W3.heap.size by omega)).trans e2
  generalize W3.alloc (.cells #[.string ⟨#[115]⟩] 9) = W4 at s4 e3 g1 g2 ⊢
  generalize hO : Obj.cells #[.string ⟨#[99, 110]⟩, .slice (some ⟨w.heap.size + 1, 0, none⟩) 1 1, .string ⟨#[111, 98, 106, 101, 99, 116, 99, 108, 97, 115, 115]⟩, .slice (some ⟨w.heap.size + 1 + 1, 0, none⟩) 1 1, .string ⟨#[115, 110]⟩, .slice (some ⟨w.heap.size + 1 + 1 + 1, 0, none⟩) 1 1] 42 = O
  have e4 := heap_alloc_new W4 O
  rw [s4] at e4
  have k1 := (heap_alloc_old W4 O (show w.heap.size + 1 < W4.heap.size by omega)).trans g1
  have k2 := (heap_alloc_old W4 O (show w.heap.size + 2 < W4.heap.size by omega)).trans g2
  have k3 := (heap_alloc_old W4 O (show w.heap.size + 3 < W4.heap.size by omega)).trans e3
  exact ⟨k1, k2, k3, by rw [e4, ← hO]; rfl, by simp; omega⟩

theorem perAt_set {w : World} {g b : Nat} {N : ByteArray} {i : Nat} {x : Value} (h : PerAt w g N) (hb : b < g - 3) : PerAt (w.setCell ⟨b, i, none⟩ x) g N :=
  ⟨(block_ne w _ _ (show g - 3 ≠ b by omega)).trans h.b1, (block_ne w _ _ (show g - 2 ≠ b by omega)).trans h.b2, (block_ne w _ _ (show g - 1 ≠ b by omega)).trans h.b3, (block_ne w _ _ (show g ≠ b by omega)).trans h.b4, by rw [lt_set]; exact h.lt⟩

set_option maxRecDepth 100000 in
set_option maxHeartbeats 4000000 in
theorem person_any (N : ByteArray) (hN : N.size ≤ 1000) (w : World) : Calls Tryz.prog 18 #[.string N] w fun e w' => ∃ D g, e = .returned (.agg #[.string D, .slice (some ⟨g, 0, none⟩) 3 3]) ∧ D.data.toList = perD N.data.toList ∧ PerAt w' g N ∧ w.heap.size + 4 = g ∧ Below w.heap.size w w' := by
  obtain ⟨T, hT⟩ : ∃ T, (⟨#[99, 110, 61]⟩ : ByteArray) ++ N = T := ⟨_, rfl⟩
  obtain ⟨D, hD⟩ : ∃ D, T ++ (⟨#[44, 111, 61, 120]⟩ : ByteArray) = D := ⟨_, rfl⟩
  have hTs : T.size = 3 + N.size := by rw [← hT, ← bytes_len, app_list, List.length_append, bytes_len, bytes_len]; rfl
  have hDl : D.data.toList = perD N.data.toList := by rw [← hD, ← hT, app_list, app_list]; rfl
  have q1 : 3 + N.size ≤ 9223372036854775807 := by omega
  have q2 : T.size + 4 ≤ 9223372036854775807 := by omega
  have HDl := Lib.hid hDl
  have HP := Lib.hid (fun o => per_blocks w N o)
  have HB := Lib.hid (fun o => ((((((Below.refl w.heap.size w).alloc (Nat.le_refl _) o).alloc (by simp) (.cells #[.string N] 9)).alloc (by simp; omega) (.cells #[.string ⟨#[112, 101, 114, 115, 111, 110]⟩] 9)).alloc (by simp; omega) (.cells #[.string ⟨#[115]⟩] 9)).alloc (by simp; omega) (.cells #[.string ⟨#[99, 110]⟩, .slice (some ⟨w.heap.size + 1, 0, none⟩) 1 1, .string ⟨#[111, 98, 106, 101, 99, 116, 99, 108, 97, 115, 115]⟩, .slice (some ⟨w.heap.size + 1 + 1, 0, none⟩) 1 1, .string ⟨#[115, 110]⟩, .slice (some ⟨w.heap.size + 1 + 1 + 1, 0, none⟩) 1 1] 42)))
  clear hTs hDl
  go_enter Tryz.func18, Tryz.ntmps18
  go_wp2
  refine bodyPost_ret (v := .agg #[.string D, .slice (some ⟨w.heap.size + 4, 0, none⟩) 3 3]) (by simp [results, Tryz.results18, go_sem]) rfl ⟨D, w.heap.size + 4, rfl, HDl.out, ?_, rfl, ?_⟩
  · exact HP.out _
  · exact HB.out _

theorem awake_0 : checkD [] [] = 34 := by decide +kernel
theorem awake_1 : checkD (perD [97, 110, 110]) (perL [97, 110, 110]) = 0 := by decide +kernel
theorem awake_2 : checkD [99, 110, 61, 97, 110, 110] [] = 65 := by decide +kernel

set_option maxRecDepth 100000 in
set_option maxHeartbeats 4000000 in
theorem awake4_any (w : World) (hw : LaidW w) (hl : LaidF w) : Calls Tryz.prog 10 #[] w fun e w' => e = .returned (.bool true) ∧ Below w.heap.size w w' := by
  have hc1 := checkE_any ⟨#[]⟩ (by decide) [] (.slice none 0 0) w hw hl (isA_nil _ _ _ _)
  rw [show (⟨#[]⟩ : ByteArray).data.toList = [] from rfl, awake_0] at hc1
  have hc3 := fun (W : World) (q : LaidW W) (q2 : LaidF W) => checkE_any ⟨#[99, 110, 61, 97, 110, 110]⟩ (by decide) [] (.slice none 0 0) W q q2 (isA_nil _ _ _ _)
  rw [show (⟨#[99, 110, 61, 97, 110, 110]⟩ : ByteArray).data.toList = [99, 110, 61, 97, 110, 110] from rfl, awake_2] at hc3
  have HC1 := Lib.hid hc1
  have HC3 := Lib.hid hc3
  have HW := Lib.hid hw
  have HL := Lib.hid hl
  have HPe := Lib.hid (fun W => person_any ⟨#[97, 110, 110]⟩ (by decide) W)
  have tok1 : True := trivial
  clear hc1 hc3 hw hl
  go_enter Tryz.func10, Tryz.ntmps10
  go_wp2_with (first
    | (have _t := tok1; go_at_call 13; ((with_reducible refine (HC1.out).mono ?_); rintro e w2 ⟨rfl, hb2⟩); have HB2 := Lib.hid hb2; clear hb2 _t; clear tok1)
    | (go_at_call 18; go_loud ((with_reducible refine (HPe.out _).mono ?_); rintro e w3 ⟨D, g, rfl, hD, hp, hg, hb3⟩; have HB3 := Lib.hid (bthen HB2.out hb3); have HP := Lib.hid hp; have hc2 := checkE_any D (by rw [← bytes_len, hD]; simp [perD]) (perL [97, 110, 110]) _ _ (HW.out.below HB3.out) (HL.out.below HB3.out) hp.isA; (rw [hD] at hc2); (replace hc2 := (show Calls _ _ _ _ (fun e w' => e = .returned (.int .i64 (checkD (perD [97, 110, 110]) (perL [97, 110, 110]))) ∧ Below w3.heap.size w3 w') from hc2)); (rw [awake_1] at hc2); have HC2 := Lib.hid hc2; clear hD hp hc2 hb3))
    | (go_at_call 13; ((with_reducible refine (HC2.out).mono ?_); rintro e w4 ⟨rfl, hb4⟩); have HB4 := Lib.hid (bthen HB3.out hb4); clear hb4)
    | (go_at_call 13; ((with_reducible refine (HC3.out _ (HW.out.below HB4.out) (HL.out.below HB4.out)).mono ?_); rintro e w5 ⟨rfl, hb5⟩); have HB5 := Lib.hid (bthen HB4.out hb5); clear hb5))
  go_ret
  exact ⟨rfl, HB5.out⟩
end Go.Proofs.YtofmpaphafhdpaaGreatDoor

/- SchemaFirst: what is wrong first; no program. -/
namespace Go.Proofs.YtofmpaphafhdpaaGreatDoor
open Go.RowKit
set_option linter.unusedVariables false

theorem fstep_pre2 (st : List UInt8 × Bool) (c : UInt8) : st.1 <+: (fstep st c).1 := by
  by_cases h : c.toNat = 32
  · rw [fstep_blank st c h]; exact List.prefix_refl _
  · rw [fstep_other st c h]; simp only [List.append_assoc]; exact List.prefix_append _ _
theorem fsteps_pre2 : ∀ (l : List UInt8) (st : List UInt8 × Bool), st.1 <+: (l.foldl fstep st).1
  | [], st => List.prefix_refl _
  | c :: l, st => (fstep_pre2 st c).trans (fsteps_pre2 l (fstep st c))
theorem fold_head2 {c : UInt8} {l : List UInt8} (h : c.toNat ≠ 32) : ∃ r, fold (c :: l) = lowC c :: r := by
  have := fsteps_pre2 l (fstep ([], false) c)
  rw [fstep_other _ c h] at this
  obtain ⟨r, hr⟩ := this
  exact ⟨r, by show (List.foldl fstep ([], false) (c :: l)).1 = _; rw [List.foldl_cons, fstep_other _ c h]; simpa using hr.symm⟩

def codeL : List Int := [17, 19, 21, 19, 20, 20]
def badL : List AT := [([110, 111, 110, 101], [[120]]), ([100, 101, 115, 99, 114, 105, 112, 116, 105, 111, 110], []), ([117, 105, 100, 110, 117, 109, 98, 101, 114], [[120]]), ([117, 105, 100, 110, 117, 109, 98, 101, 114], [[49], [50]]), ([109, 97, 105, 108], [[97], [65, 32]]), ([67, 78], [[122]])]
def othD : List UInt8 := [99, 110, 61, 111, 116, 104, 101, 114]
/-- A person's name: p, and what is behind. -/
def pName (d : List UInt8) : List UInt8 := 112 :: d
theorem p_norm (d : List UInt8) (h : d.length ≤ 90) : ∃ r, normD 1 (pName d) = some (112 :: r) := by
  obtain ⟨r, hr⟩ := fold_head2 (c := 112) (l := d) (by decide)
  have hr2 : fold (pName d) = 112 :: r := hr
  exact ⟨r, by rw [normD_text (by simp [pName]) (by simp [pName]; omega) (by rw [hr2]; simp), hr2]⟩
theorem p_vals (d : List UInt8) (h : d.length ≤ 90) : valsC [99, 110] [pName d] = 0 := by
  obtain ⟨r, hr⟩ := p_norm d h
  unfold valsC
  rw [if_neg (by simp [mostS]), show ruleD [99, 110] = 1 from by decide]
  have e : normsS 1 [pName d] = some [112 :: r] := by
    simp only [normsS]
    rw [hr]
    rfl
  rw [e]
  simp
theorem p_step (d : List UInt8) (h : d.length ≤ 90) (l : List AT) : soundR [] (([99, 110], [pName d]) :: l) = soundR [([99, 110], [pName d])] l :=
  sound_step (show canonD [99, 110] = some [99, 110] from by decide) rfl (p_vals d h)
theorem fst_sound (d : List UInt8) (h : d.length ≤ 90) (k : Nat) (hk : k < badL.length) (hk2 : k < codeL.length) (l : List AT) : soundR [] (([99, 110], [pName d]) :: badL[k] :: l) = .error codeL[k] := by
  rw [p_step d h]
  generalize pName d = X
  match k, hk, hk2 with
  | 0, _, _ => exact sound_none (show canonD [110, 111, 110, 101] = none from by decide)
  | 1, _, _ => exact (sound_vals (a := ([100, 101, 115, 99, 114, 105, 112, 116, 105, 111, 110], [])) (t := [100, 101, 115, 99, 114, 105, 112, 116, 105, 111, 110]) (by decide) rfl (by decide +kernel)).trans (congrArg Except.error (show valsC [100, 101, 115, 99, 114, 105, 112, 116, 105, 111, 110] [] = 19 by decide +kernel))
  | 2, _, _ => exact (sound_vals (a := ([117, 105, 100, 110, 117, 109, 98, 101, 114], [[120]])) (t := [117, 105, 100, 110, 117, 109, 98, 101, 114]) (by decide) rfl (by decide +kernel)).trans (congrArg Except.error (show valsC [117, 105, 100, 110, 117, 109, 98, 101, 114] [[120]] = 21 by decide +kernel))
  | 3, _, _ => exact (sound_vals (a := ([117, 105, 100, 110, 117, 109, 98, 101, 114], [[49], [50]])) (t := [117, 105, 100, 110, 117, 109, 98, 101, 114]) (by decide) rfl (by decide +kernel)).trans (congrArg Except.error (show valsC [117, 105, 100, 110, 117, 109, 98, 101, 114] [[49], [50]] = 19 by decide +kernel))
  | 4, _, _ => exact (sound_vals (a := ([109, 97, 105, 108], [[97], [65, 32]])) (t := [109, 97, 105, 108]) (by decide) rfl (by decide +kernel)).trans (congrArg Except.error (show valsC [109, 97, 105, 108] [[97], [65, 32]] = 20 by decide +kernel))
  | 5, _, _ => exact sound_twice (show canonD [67, 78] = some [99, 110] from by decide) rfl
theorem oth_key : keyD othD = some [99, 110, 61, 111, 116, 104, 101, 114] := by decide +kernel
theorem fst_x (d : List UInt8) (h : d.length ≤ 90) (k m : Nat) (hk : k < badL.length) (hk2 : k < codeL.length) (hm : m < badL.length) : checkD othD [([99, 110], [pName d]), badL[k], badL[m]] = codeL[k] :=
  check_sound oth_key (by simp) (by simp) (fst_sound d h k hk hk2 _)
theorem fst_y (L : List AT) : checkD [99, 110] L = 34 := check_none (by decide +kernel)
def ouA : AT := ([111, 117], [[97]])
theorem fst_z (d : List UInt8) (h : d.length ≤ 90) : checkD othD (perL (pName d) ++ [ouA]) = 65 := by
  have hs : soundR [] (perL (pName d) ++ [ouA]) = .ok (perL (pName d) ++ [ouA]) := by
    show soundR [] (([99, 110], [pName d]) :: _) = _
    rw [p_step d h]
    show _ = Except.ok (([99, 110], [pName d]) :: _)
    generalize pName d = X
    rfl
  rw [check_behind oth_key (by simp) (by simp [perL, ouA]) hs]
  unfold behindD
  rw [if_pos]
  generalize pName d = X
  rfl
theorem fst_e (d : List UInt8) (h : d.length ≤ 90) : checkD othD (perL (pName d)) = 64 := by
  have hs : soundR [] (perL (pName d)) = .ok (perL (pName d)) := by
    show soundR [] (([99, 110], [pName d]) :: _) = _
    rw [p_step d h]
    show _ = Except.ok (([99, 110], [pName d]) :: _)
    generalize pName d = X
    rfl
  rw [check_behind oth_key (by simp) (by simp [perL]) hs]
  unfold behindD
  have hc : classedD (perL (pName d)) = true := by generalize pName d = X; rfl
  rw [hc, if_neg (by simp), if_pos]
  unfold namedD
  rw [show parseD othD = some [([99, 110], [111, 116, 104, 101, 114])] from by decide +kernel]
  simp only
  obtain ⟨r, hr⟩ := p_norm d h
  rw [show (canonD [99, 110]).getD [] = [99, 110] from by decide, show valsS (perL (pName d)) [99, 110] = [pName d] from rfl, show ruleD [99, 110] = 1 from by decide]
  simp only [List.any_cons, List.any_nil, Bool.or_false]
  rw [hr, show normD 1 [111, 116, 104, 101, 114] = some [111, 116, 104, 101, 114] from by decide]
  simp [sameO]
end Go.Proofs.YtofmpaphafhdpaaGreatDoor

/- SchemaFirst: the walk. -/
namespace Go.Proofs.YtofmpaphafhdpaaGreatDoor
open Go.RowKit
set_option linter.unusedVariables false

theorem itoa_short : ∀ n : Fin 256, (Lib.itoa (n.1 : Int)).length ≤ 3 := by decide +kernel
def bA (k : Nat) : AT := badL.getD k ([], [])
def bT (k : Nat) : ByteArray := ofL (bA k).1
def cK (k : Nat) : Int := codeL.getD k 0
def bV (h : Nat) (k : Nat) : Value := [.slice (some ⟨h + 1, 0, none⟩) 1 1, .slice none 0 0, .slice (some ⟨h + 2, 0, none⟩) 1 1, .slice (some ⟨h + 3, 0, none⟩) 2 2, .slice (some ⟨h + 4, 0, none⟩) 2 2, .slice (some ⟨h + 5, 0, none⟩) 1 1].getD k .nilIface
theorem fst_xk (d : List UInt8) (h : d.length ≤ 90) (k m : Nat) (hk : k < 6) (hm : m < 6) : checkD othD [([99, 110], [pName d]), bA k, bA m] = cK k := by
  have e := fst_x d h k m (show k < badL.length from hk) (show k < codeL.length from hk) (show m < badL.length from hm)
  have e1 : bA k = badL[k]'(show k < badL.length from hk) := by unfold bA; rw [List.getD_eq_getElem?_getD, List.getElem?_eq_getElem (show k < badL.length from hk)]; rfl
  have e2 : bA m = badL[m]'(show m < badL.length from hm) := by unfold bA; rw [List.getD_eq_getElem?_getD, List.getElem?_eq_getElem (show m < badL.length from hm)]; rfl
  have e3 : cK k = codeL[k]'(show k < codeL.length from hk) := by unfold cK; rw [List.getD_eq_getElem?_getD, List.getElem?_eq_getElem (show k < codeL.length from hk)]; rfl
  rw [e1, e2, e3]
  exact e
theorem bV_slice (h k : Nat) (hk : k < 6) : ∃ a n c, bV h k = .slice a n c := by
  match k, hk with
  | 0, _ => exact ⟨_, _, _, rfl⟩
  | 1, _ => exact ⟨_, _, _, rfl⟩
  | 2, _ => exact ⟨_, _, _, rfl⟩
  | 3, _ => exact ⟨_, _, _, rfl⟩
  | 4, _ => exact ⟨_, _, _, rfl⟩
  | 5, _ => exact ⟨_, _, _, rfl⟩

/-- The lists of what is wrong, and of the codes, as they lie. -/
structure FstAt (h : Nat) (W : World) (E : ByteArray) (u : Value) : Prop where
  box : BoxN W h E u
  b1 : W.heap[h + 1]? = some (.cells #[.string ⟨#[120]⟩] 9 (0, 0))
  b2 : W.heap[h + 2]? = some (.cells #[.string ⟨#[120]⟩] 9 (0, 0))
  b3 : W.heap[h + 3]? = some (.cells #[.string ⟨#[49]⟩, .string ⟨#[50]⟩] 9 (0, 0))
  b4 : W.heap[h + 4]? = some (.cells #[.string ⟨#[97]⟩, .string ⟨#[65, 32]⟩] 9 (0, 0))
  b5 : W.heap[h + 5]? = some (.cells #[.string ⟨#[122]⟩] 9 (0, 0))
  b6 : W.heap[h + 6]? = some (.cells #[.string ⟨#[110, 111, 110, 101]⟩, .slice (some ⟨h + 1, 0, none⟩) 1 1, .string ⟨#[100, 101, 115, 99, 114, 105, 112, 116, 105, 111, 110]⟩, .slice none 0 0, .string ⟨#[117, 105, 100, 110, 117, 109, 98, 101, 114]⟩, .slice (some ⟨h + 2, 0, none⟩) 1 1, .string ⟨#[117, 105, 100, 110, 117, 109, 98, 101, 114]⟩, .slice (some ⟨h + 3, 0, none⟩) 2 2, .string ⟨#[109, 97, 105, 108]⟩, .slice (some ⟨h + 4, 0, none⟩) 2 2, .string ⟨#[67, 78]⟩, .slice (some ⟨h + 5, 0, none⟩) 1 1] 42 (0, 0))
  b7 : W.heap[h + 7]? = some (.cells #[.int .i64 17, .int .i64 19, .int .i64 21, .int .i64 19, .int .i64 20, .int .i64 20] 3 (0, 0))
  size : W.heap.size = h + 8

theorem step_alloc {W : World} {h k : Nat} {o : Obj} (hs : W.heap.size = h + k) : (W.alloc o).heap.size = h + k + 1 := by simp; omega
theorem fst_blocks (w : World) (E : ByteArray) (u : Value) : FstAt w.heap.size ((((((((w.alloc (.cells #[.string E, u] 24)).alloc (.cells #[.string ⟨#[120]⟩] 9)).alloc (.cells #[.string ⟨#[120]⟩] 9)).alloc (.cells #[.string ⟨#[49]⟩, .string ⟨#[50]⟩] 9)).alloc (.cells #[.string ⟨#[97]⟩, .string ⟨#[65, 32]⟩] 9)).alloc (.cells #[.string ⟨#[122]⟩] 9)).alloc (.cells #[.string ⟨#[110, 111, 110, 101]⟩, .slice (some ⟨w.heap.size + 1, 0, none⟩) 1 1, .string ⟨#[100, 101, 115, 99, 114, 105, 112, 116, 105, 111, 110]⟩, .slice none 0 0, .string ⟨#[117, 105, 100, 110, 117, 109, 98, 101, 114]⟩, .slice (some ⟨w.heap.size + 2, 0, none⟩) 1 1, .string ⟨#[117, 105, 100, 110, 117, 109, 98, 101, 114]⟩, .slice (some ⟨w.heap.size + 3, 0, none⟩) 2 2, .string ⟨#[109, 97, 105, 108]⟩, .slice (some ⟨w.heap.size + 4, 0, none⟩) 2 2, .string ⟨#[67, 78]⟩, .slice (some ⟨w.heap.size + 5, 0, none⟩) 1 1] 42)).alloc (.cells #[.int .i64 17, .int .i64 19, .int .i64 21, .int .i64 19, .int .i64 20, .int .i64 20] 3)) E u ∧
    Below w.heap.size w ((((((((w.alloc (.cells #[.string E, u] 24)).alloc (.cells #[.string ⟨#[120]⟩] 9)).alloc (.cells #[.string ⟨#[120]⟩] 9)).alloc (.cells #[.string ⟨#[49]⟩, .string ⟨#[50]⟩] 9)).alloc (.cells #[.string ⟨#[97]⟩, .string ⟨#[65, 32]⟩] 9)).alloc (.cells #[.string ⟨#[122]⟩] 9)).alloc (.cells #[.string ⟨#[110, 111, 110, 101]⟩, .slice (some ⟨w.heap.size + 1, 0, none⟩) 1 1, .string ⟨#[100, 101, 115, 99, 114, 105, 112, 116, 105, 111, 110]⟩, .slice none 0 0, .string ⟨#[117, 105, 100, 110, 117, 109, 98, 101, 114]⟩, .slice (some ⟨w.heap.size + 2, 0, none⟩) 1 1, .string ⟨#[117, 105, 100, 110, 117, 109, 98, 101, 114]⟩, .slice (some ⟨w.heap.size + 3, 0, none⟩) 2 2, .string ⟨#[109, 97, 105, 108]⟩, .slice (some ⟨w.heap.size + 4, 0, none⟩) 2 2, .string ⟨#[67, 78]⟩, .slice (some ⟨w.heap.size + 5, 0, none⟩) 1 1] 42)).alloc (.cells #[.int .i64 17, .int .i64 19, .int .i64 21, .int .i64 19, .int .i64 20, .int .i64 20] 3)) := by
  generalize hO6 : Obj.cells #[.string ⟨#[110, 111, 110, 101]⟩, .slice (some ⟨w.heap.size + 1, 0, none⟩) 1 1, .string ⟨#[100, 101, 115, 99, 114, 105, 112, 116, 105, 111, 110]⟩, .slice none 0 0, .string ⟨#[117, 105, 100, 110, 117, 109, 98, 101, 114]⟩, .slice (some ⟨w.heap.size + 2, 0, none⟩) 1 1, .string ⟨#[117, 105, 100, 110, 117, 109, 98, 101, 114]⟩, .slice (some ⟨w.heap.size + 3, 0, none⟩) 2 2, .string ⟨#[109, 97, 105, 108]⟩, .slice (some ⟨w.heap.size + 4, 0, none⟩) 2 2, .string ⟨#[67, 78]⟩, .slice (some ⟨w.heap.size + 5, 0, none⟩) 1 1] 42 = O6
  have e0 := heap_alloc_new w (.cells #[.string E, u] 24)
  have s0 := step_alloc (o := .cells #[.string E, u] 24) (show w.heap.size = w.heap.size + 0 from rfl)
  have l0 : Below w.heap.size w (w.alloc (.cells #[.string E, u] 24)) := (Below.refl _ _).alloc (Nat.le_refl _) _
  generalize w.alloc (.cells #[.string E, u] 24) = W0 at e0 s0 l0 ⊢
  have e1 := heap_alloc_new W0 (.cells #[.string ⟨#[120]⟩] 9)
  have s1 := step_alloc (o := .cells #[.string ⟨#[120]⟩] 9) s0
  have l1 : Below W0.heap.size W0 (W0.alloc (.cells #[.string ⟨#[120]⟩] 9)) := (Below.refl _ _).alloc (Nat.le_refl _) _
  rw [s0] at e1
  generalize W0.alloc (.cells #[.string ⟨#[120]⟩] 9) = W1 at e1 s1 l1 ⊢
  have e2 := heap_alloc_new W1 (.cells #[.string ⟨#[120]⟩] 9)
  have s2 := step_alloc (o := .cells #[.string ⟨#[120]⟩] 9) s1
  have l2 : Below W1.heap.size W1 (W1.alloc (.cells #[.string ⟨#[120]⟩] 9)) := (Below.refl _ _).alloc (Nat.le_refl _) _
  rw [s1] at e2
  generalize W1.alloc (.cells #[.string ⟨#[120]⟩] 9) = W2 at e2 s2 l2 ⊢
  have e3 := heap_alloc_new W2 (.cells #[.string ⟨#[49]⟩, .string ⟨#[50]⟩] 9)
  have s3 := step_alloc (o := .cells #[.string ⟨#[49]⟩, .string ⟨#[50]⟩] 9) s2
  have l3 : Below W2.heap.size W2 (W2.alloc (.cells #[.string ⟨#[49]⟩, .string ⟨#[50]⟩] 9)) := (Below.refl _ _).alloc (Nat.le_refl _) _
  rw [s2] at e3
  generalize W2.alloc (.cells #[.string ⟨#[49]⟩, .string ⟨#[50]⟩] 9) = W3 at e3 s3 l3 ⊢
  have e4 := heap_alloc_new W3 (.cells #[.string ⟨#[97]⟩, .string ⟨#[65, 32]⟩] 9)
  have s4 := step_alloc (o := .cells #[.string ⟨#[97]⟩, .string ⟨#[65, 32]⟩] 9) s3
  have l4 : Below W3.heap.size W3 (W3.alloc (.cells #[.string ⟨#[97]⟩, .string ⟨#[65, 32]⟩] 9)) := (Below.refl _ _).alloc (Nat.le_refl _) _
  rw [s3] at e4
  generalize W3.alloc (.cells #[.string ⟨#[97]⟩, .string ⟨#[65, 32]⟩] 9) = W4 at e4 s4 l4 ⊢
  have e5 := heap_alloc_new W4 (.cells #[.string ⟨#[122]⟩] 9)
  have s5 := step_alloc (o := .cells #[.string ⟨#[122]⟩] 9) s4
  have l5 : Below W4.heap.size W4 (W4.alloc (.cells #[.string ⟨#[122]⟩] 9)) := (Below.refl _ _).alloc (Nat.le_refl _) _
  rw [s4] at e5
  generalize W4.alloc (.cells #[.string ⟨#[122]⟩] 9) = W5 at e5 s5 l5 ⊢
  have e6 := heap_alloc_new W5 O6
  have s6 := step_alloc (o := O6) s5
  have l6 : Below W5.heap.size W5 (W5.alloc O6) := (Below.refl _ _).alloc (Nat.le_refl _) _
  rw [s5] at e6
  generalize W5.alloc O6 = W6 at e6 s6 l6 ⊢
  have e7 := heap_alloc_new W6 (.cells #[.int .i64 17, .int .i64 19, .int .i64 21, .int .i64 19, .int .i64 20, .int .i64 20] 3)
  have s7 := step_alloc (o := .cells #[.int .i64 17, .int .i64 19, .int .i64 21, .int .i64 19, .int .i64 20, .int .i64 20] 3) s6
  have l7 : Below W6.heap.size W6 (W6.alloc (.cells #[.int .i64 17, .int .i64 19, .int .i64 21, .int .i64 19, .int .i64 20, .int .i64 20] 3)) := (Below.refl _ _).alloc (Nat.le_refl _) _
  rw [s6] at e7
  generalize W6.alloc (.cells #[.int .i64 17, .int .i64 19, .int .i64 21, .int .i64 19, .int .i64 20, .int .i64 20] 3) = W7 at e7 s7 l7 ⊢
  have m6 := l7
  have m5 : Below W5.heap.size W5 W7 := l6.trans (m6.mono (by omega))
  have m4 : Below W4.heap.size W4 W7 := l5.trans (m5.mono (by omega))
  have m3 : Below W3.heap.size W3 W7 := l4.trans (m4.mono (by omega))
  have m2 : Below W2.heap.size W2 W7 := l3.trans (m3.mono (by omega))
  have m1 : Below W1.heap.size W1 W7 := l2.trans (m2.mono (by omega))
  have m0 : Below W0.heap.size W0 W7 := l1.trans (m1.mono (by omega))
  subst hO6
  exact ⟨⟨(m0.block _ (by omega)).trans e0, (m1.block _ (by omega)).trans e1, (m2.block _ (by omega)).trans e2, (m3.block _ (by omega)).trans e3, (m4.block _ (by omega)).trans e4, (m5.block _ (by omega)).trans e5, (m6.block _ (by omega)).trans e6, e7, by omega⟩, l0.trans (m0.mono (by omega))⟩

theorem isT_two {w : World} {b n0 : Nat} {X Y : ByteArray} {e : TypeId} (h : w.heap[b]? = some (.cells #[.string X, .string Y] e (0, 0))) (hn : b < n0) : IsT n0 w [X.data.toList, Y.data.toList] (.slice (some ⟨b, 0, none⟩) 2 2) :=
  ⟨_, _, rfl, by unfold maxLen; simp, fun j hj => by
    refine ⟨b, 0, rfl, hn, ?_⟩
    match j, hj with
    | 0, _ =>
      show _ = some (strV X.data.toList)
      rw [strV_whole]
      simp only [World.cell?, h]; rfl
    | 1, _ =>
      show _ = some (strV Y.data.toList)
      rw [strV_whole]
      simp only [World.cell?, h]; rfl⟩
theorem FstAt.bad {h : Nat} {W : World} {E : ByteArray} {u : Value} (H : FstAt h W E u) (k : Nat) (hk : k < 6) : W.cell? ⟨h + 6, k * 2, none⟩ = some (.string (bT k)) ∧ W.cell? ⟨h + 6, k * 2 + 1, none⟩ = some (bV h k) ∧ IsT W.heap.size W (bA k).2 (bV h k) ∧ W.cell? ⟨h + 7, k, none⟩ = some (.int .i64 (cK k)) := by
  have hz := H.size
  match k, hk with
  | 0, _ => exact ⟨by simp only [World.cell?, H.b6]; rfl, by simp only [World.cell?, H.b6]; rfl, isT_block H.b1 (by omega), by simp only [World.cell?, H.b7]; rfl⟩
  | 1, _ => exact ⟨by simp only [World.cell?, H.b6]; rfl, by simp only [World.cell?, H.b6]; rfl, isT_nil _ _ _ _, by simp only [World.cell?, H.b7]; rfl⟩
  | 2, _ => exact ⟨by simp only [World.cell?, H.b6]; rfl, by simp only [World.cell?, H.b6]; rfl, isT_block H.b2 (by omega), by simp only [World.cell?, H.b7]; rfl⟩
  | 3, _ => exact ⟨by simp only [World.cell?, H.b6]; rfl, by simp only [World.cell?, H.b6]; rfl, isT_two H.b3 (by omega), by simp only [World.cell?, H.b7]; rfl⟩
  | 4, _ => exact ⟨by simp only [World.cell?, H.b6]; rfl, by simp only [World.cell?, H.b6]; rfl, isT_two H.b4 (by omega), by simp only [World.cell?, H.b7]; rfl⟩
  | 5, _ => exact ⟨by simp only [World.cell?, H.b6]; rfl, by simp only [World.cell?, H.b6]; rfl, isT_block H.b5 (by omega), by simp only [World.cell?, H.b7]; rfl⟩
theorem PerAt.cell01 {w : World} {g : Nat} {N : ByteArray} (h : PerAt w g N) : w.cell? ⟨g, 0, none⟩ = some (.string ⟨#[99, 110]⟩) ∧ w.cell? ⟨g, 1, none⟩ = some (.slice (some ⟨g - 3, 0, none⟩) 1 1) :=
  ⟨by simp only [World.cell?, h.b4]; rfl, by simp only [World.cell?, h.b4]; rfl⟩

/-- The entry of three attributes, whichever way it was made. -/
def XAt (W7 : World) (E : ByteArray) (L : List AT) (wx : World) (b : Nat) (u : Value) : Prop := W7.heap.size ≤ b ∧ b < wx.heap.size ∧ BoxN wx b E u ∧ IsA wx.heap.size wx L u ∧ Below W7.heap.size W7 wx
theorem XAt.drew {W7 wx : World} {E : ByteArray} {L : List AT} {b : Nat} {u : Value} (h : XAt W7 E L wx b u) : XAt W7 E L wx.drew b u := ⟨h.1, h.2.1, h.2.2.1, h.2.2.2.1, h.2.2.2.2.drew⟩
theorem XAt.from {W7 wx : World} {E : ByteArray} {L : List AT} {b : Nat} {u : Value} (h : XAt W7.drew E L wx b u) : XAt W7 E L wx b u := ⟨h.1, h.2.1, h.2.2.1, h.2.2.2.1, (Below.refl W7.heap.size W7).drew.trans h.2.2.2.2⟩
/-- What lies below is as it was. -/
def At9 (w9 w : World) : Prop := Below w9.heap.size w9 w
theorem At9.go {w9 w w' : World} (h : At9 w9 w) (hb : Below w.heap.size w w') : At9 w9 w' := bthen h hb
theorem At9.mono {w9 w : World} (h : At9 w9 w) {n : Nat} (hn : n ≤ w9.heap.size) : Below n w9 w := Below.mono h hn
theorem At9.size {w9 w : World} (h : At9 w9 w) : w9.heap.size ≤ w.heap.size := Below.size h
theorem At9.cell {w9 w : World} (h : At9 w9 w) {p : Addr} (hp : p.block < w9.heap.size) : w.cell? p = w9.cell? p := Below.cell h hp
/-- Three attributes in a block. -/
abbrev C6 (N1 N2 N3 : ByteArray) (v1 v2 v3 : Value) : Obj := .cells #[.string N1, v1, .string N2, v2, .string N3, v3] 42
theorem isA_three {w : World} {c n0 : Nat} {N1 N2 N3 : ByteArray} {v1 v2 v3 : Value} {A1 A2 A3 : List (List UInt8)} (h : w.heap[c]? = some (.cells #[.string N1, v1, .string N2, v2, .string N3, v3] 42 (0, 0))) (hc : c < n0) (h1 : IsT n0 w A1 v1) (h2 : IsT n0 w A2 v2) (h3 : IsT n0 w A3 v3) :
    IsA n0 w [(N1.data.toList, A1), (N2.data.toList, A2), (N3.data.toList, A3)] (.slice (some ⟨c, 0, none⟩) 3 3) := by
  refine ⟨_, _, rfl, by unfold maxLen; simp, fun j hj => ?_⟩
  match j, hj with
  | 0, _ => exact ⟨c, 0, _, rfl, hc, by show _ = some (strV N1.data.toList); rw [strV_whole]; simp only [World.cell?, h]; rfl, by simp only [World.cell?, h]; rfl, h1⟩
  | 1, _ => exact ⟨c, 0, _, rfl, hc, by show _ = some (strV N2.data.toList); rw [strV_whole]; simp only [World.cell?, h]; rfl, by simp only [World.cell?, h]; rfl, h2⟩
  | 2, _ => exact ⟨c, 0, _, rfl, hc, by show _ = some (strV N3.data.toList); rw [strV_whole]; simp only [World.cell?, h]; rfl, by simp only [World.cell?, h]; rfl, h3⟩
theorem x_one {W : World} {E N1 N2 N3 : ByteArray} {v1 v2 v3 : Value} {A1 A2 A3 : List (List UInt8)} (h1 : IsT W.heap.size W A1 v1) (h2 : IsT W.heap.size W A2 v2) (h3 : IsT W.heap.size W A3 v3) :
    XAt W E [(N1.data.toList, A1), (N2.data.toList, A2), (N3.data.toList, A3)] ((W.alloc (C6 N1 N2 N3 v1 v2 v3)).alloc (.cells #[.string E, .slice (some ⟨W.heap.size, 0, none⟩) 3 3] 24)) (W.heap.size + 1) (.slice (some ⟨W.heap.size, 0, none⟩) 3 3) := by
  have e0 := heap_alloc_new W (.cells #[.string N1, v1, .string N2, v2, .string N3, v3] 42)
  have l0 : Below W.heap.size W (W.alloc (C6 N1 N2 N3 v1 v2 v3)) := (Below.refl _ _).alloc (Nat.le_refl _) _
  have s0 : (W.alloc (C6 N1 N2 N3 v1 v2 v3)).heap.size = W.heap.size + 1 := by simp
  generalize W.alloc (C6 N1 N2 N3 v1 v2 v3) = W0 at e0 l0 s0 ⊢
  have e1 := boxN_new W0 E (.slice (some ⟨W.heap.size, 0, none⟩) 3 3)
  have l1 : Below W0.heap.size W0 (W0.alloc (.cells #[.string E, .slice (some ⟨W.heap.size, 0, none⟩) 3 3] 24)) := (Below.refl _ _).alloc (Nat.le_refl _) _
  have s1 : (W0.alloc (.cells #[.string E, .slice (some ⟨W.heap.size, 0, none⟩) 3 3] 24)).heap.size = W0.heap.size + 1 := by simp
  rw [s0] at e1
  generalize W0.alloc (.cells #[.string E, .slice (some ⟨W.heap.size, 0, none⟩) 3 3] 24) = W1 at e1 l1 s1 ⊢
  have hb : Below W.heap.size W W1 := l0.trans (l1.mono (by omega))
  exact ⟨by omega, by omega, e1, isA_three ((l1.block _ (by omega)).trans e0) (by omega) (h1.below hb hb.size) (h2.below hb hb.size) (h3.below hb hb.size), hb⟩
theorem x_two {W : World} {E N1 N2 N3 : ByteArray} {v1 v2 v3 : Value} {A1 A2 A3 : List (List UInt8)} (h1 : IsT W.heap.size W A1 v1) (h2 : IsT W.heap.size W A2 v2) (h3 : IsT W.heap.size W A3 v3) :
    XAt W E [(N1.data.toList, A1), (N2.data.toList, A2), (N3.data.toList, A3)] ((W.alloc (.cells #[.string E, .slice (some ⟨W.heap.size + 1, 0, none⟩) 3 3] 24)).alloc (C6 N1 N2 N3 v1 v2 v3)) W.heap.size (.slice (some ⟨W.heap.size + 1, 0, none⟩) 3 3) := by
  have e0 := boxN_new W E (.slice (some ⟨W.heap.size + 1, 0, none⟩) 3 3)
  have l0 : Below W.heap.size W (W.alloc (.cells #[.string E, .slice (some ⟨W.heap.size + 1, 0, none⟩) 3 3] 24)) := (Below.refl _ _).alloc (Nat.le_refl _) _
  have s0 : (W.alloc (.cells #[.string E, .slice (some ⟨W.heap.size + 1, 0, none⟩) 3 3] 24)).heap.size = W.heap.size + 1 := by simp
  generalize W.alloc (.cells #[.string E, .slice (some ⟨W.heap.size + 1, 0, none⟩) 3 3] 24) = W0 at e0 l0 s0 ⊢
  have e1 := heap_alloc_new W0 (.cells #[.string N1, v1, .string N2, v2, .string N3, v3] 42)
  have l1 : Below W0.heap.size W0 (W0.alloc (C6 N1 N2 N3 v1 v2 v3)) := (Below.refl _ _).alloc (Nat.le_refl _) _
  have s1 : (W0.alloc (C6 N1 N2 N3 v1 v2 v3)).heap.size = W0.heap.size + 1 := by simp
  rw [s0] at e1
  generalize W0.alloc (C6 N1 N2 N3 v1 v2 v3) = W1 at e1 l1 s1 ⊢
  have hb : Below W.heap.size W W1 := l0.trans (l1.mono (by omega))
  exact ⟨Nat.le_refl _, by omega, e0.below l1 (by omega), isA_three e1 (by omega) (h1.below hb hb.size) (h2.below hb hb.size) (h3.below hb hb.size), hb⟩

theorem heap3 (W : World) (a b c : Array Value) (ta tb tc : TypeId) : (((W.alloc (.cells a ta)).alloc (.cells b tb)).alloc (.cells c tc)).heap[W.heap.size]? = some (.cells a ta (0, 0)) ∧ (((W.alloc (.cells a ta)).alloc (.cells b tb)).alloc (.cells c tc)).heap[W.heap.size + 1]? = some (.cells b tb (0, 0)) ∧ (((W.alloc (.cells a ta)).alloc (.cells b tb)).alloc (.cells c tc)).heap[W.heap.size + 2]? = some (.cells c tc (0, 0)) ∧ Below W.heap.size W (((W.alloc (.cells a ta)).alloc (.cells b tb)).alloc (.cells c tc)) ∧ (((W.alloc (.cells a ta)).alloc (.cells b tb)).alloc (.cells c tc)).heap.size = W.heap.size + 3 := by
  have e0 := heap_alloc_new W (.cells a ta)
  have l0 : Below W.heap.size W (W.alloc (.cells a ta)) := (Below.refl _ _).alloc (Nat.le_refl _) _
  have s0 : (W.alloc (.cells a ta)).heap.size = W.heap.size + 1 := by simp
  generalize W.alloc (.cells a ta) = W0 at e0 l0 s0 ⊢
  have e1 := heap_alloc_new W0 (.cells b tb)
  have l1 : Below W0.heap.size W0 (W0.alloc (.cells b tb)) := (Below.refl _ _).alloc (Nat.le_refl _) _
  have s1 : (W0.alloc (.cells b tb)).heap.size = W0.heap.size + 1 := by simp
  rw [s0] at e1
  generalize W0.alloc (.cells b tb) = W1 at e1 l1 s1 ⊢
  have e2 := heap_alloc_new W1 (.cells c tc)
  have l2 : Below W1.heap.size W1 (W1.alloc (.cells c tc)) := (Below.refl _ _).alloc (Nat.le_refl _) _
  have s2 : (W1.alloc (.cells c tc)).heap.size = W1.heap.size + 1 := by simp
  rw [s1, s0] at e2
  generalize W1.alloc (.cells c tc) = W2 at e2 l2 s2 ⊢
  exact ⟨(l2.block _ (by omega)).trans ((l1.block _ (by omega)).trans e0), (l2.block _ (by omega)).trans e1, e2, l0.trans ((l1.mono (by omega)).trans (l2.mono (by omega))), by omega⟩
theorem isA_ou {w : World} {c g q : Nat} {P : ByteArray} (hp : PerAt w g P) (h : w.heap[c]? = some (.cells #[.string ⟨#[99, 110]⟩, .slice (some ⟨g - 3, 0, none⟩) 1 1, .string ⟨#[111, 98, 106, 101, 99, 116, 99, 108, 97, 115, 115]⟩, .slice (some ⟨g - 2, 0, none⟩) 1 1, .string ⟨#[115, 110]⟩, .slice (some ⟨g - 1, 0, none⟩) 1 1, .string ⟨#[111, 117]⟩, .slice (some ⟨q, 0, none⟩) 1 1] 42 (0, 0))) (hq : w.heap[q]? = some (.cells #[.string ⟨#[97]⟩] 9 (0, 0))) (hc : c < w.heap.size) (hqs : q < w.heap.size) :
    IsA w.heap.size w (perL P.data.toList ++ [ouA]) (.slice (some ⟨c, 0, none⟩) 4 4) := by
  have hg := hp.lt
  refine ⟨_, _, rfl, by unfold maxLen perL ouA; simp, fun j hj => ?_⟩
  match j, hj with
  | 0, _ => exact ⟨c, 0, _, rfl, hc, by simp only [World.cell?, h]; rfl, by simp only [World.cell?, h]; rfl, isT_block hp.b1 (by omega)⟩
  | 1, _ => exact ⟨c, 0, _, rfl, hc, by simp only [World.cell?, h]; rfl, by simp only [World.cell?, h]; rfl, isT_block hp.b2 (by omega)⟩
  | 2, _ => exact ⟨c, 0, _, rfl, hc, by simp only [World.cell?, h]; rfl, by simp only [World.cell?, h]; rfl, isT_block hp.b3 (by omega)⟩
  | 3, _ => exact ⟨c, 0, _, rfl, hc, by simp only [World.cell?, h]; rfl, by simp only [World.cell?, h]; rfl, isT_block hq hqs⟩
abbrev C8 (g q : Nat) : Array Value := #[.string ⟨#[99, 110]⟩, .slice (some ⟨g - 3, 0, none⟩) 1 1, .string ⟨#[111, 98, 106, 101, 99, 116, 99, 108, 97, 115, 115]⟩, .slice (some ⟨g - 2, 0, none⟩) 1 1, .string ⟨#[115, 110]⟩, .slice (some ⟨g - 1, 0, none⟩) 1 1, .string ⟨#[111, 117]⟩, .slice (some ⟨q, 0, none⟩) 1 1]
theorem z_one {W : World} {E P : ByteArray} {g : Nat} (hp : PerAt W g P) : XAt W E (perL P.data.toList ++ [ouA]) (((W.alloc (.cells #[.string ⟨#[97]⟩] 9)).alloc (.cells (C8 g W.heap.size) 42)).alloc (.cells #[.string E, .slice (some ⟨W.heap.size + 1, 0, none⟩) 4 4] 24)) (W.heap.size + 1 + 1) (.slice (some ⟨W.heap.size + 1, 0, none⟩) 4 4) := by
  obtain ⟨a, b, c, d, e⟩ := heap3 W #[.string ⟨#[97]⟩] (C8 g W.heap.size) #[.string E, .slice (some ⟨W.heap.size + 1, 0, none⟩) 4 4] 9 42 24
  exact ⟨by omega, by omega, c, isA_ou (hp.below d hp.lt) b a (by omega) (by omega), d⟩
theorem z_two {W : World} {E P : ByteArray} {g : Nat} (hp : PerAt W g P) : XAt W E (perL P.data.toList ++ [ouA]) (((W.alloc (.cells #[.string ⟨#[97]⟩] 9)).alloc (.cells #[.string E, .slice (some ⟨W.heap.size + 1 + 1, 0, none⟩) 4 4] 24)).alloc (.cells (C8 g W.heap.size) 42)) (W.heap.size + 1) (.slice (some ⟨W.heap.size + 1 + 1, 0, none⟩) 4 4) := by
  obtain ⟨a, b, c, d, e⟩ := heap3 W #[.string ⟨#[97]⟩] #[.string E, .slice (some ⟨W.heap.size + 1 + 1, 0, none⟩) 4 4] (C8 g W.heap.size) 9 24 42
  exact ⟨by omega, by omega, b, isA_ou (hp.below d hp.lt) c a (by omega) (by omega), d⟩
theorem z_three {W : World} {E P : ByteArray} {g : Nat} (hp : PerAt W g P) : XAt W E (perL P.data.toList ++ [ouA]) (((W.alloc (.cells #[.string E, .slice (some ⟨W.heap.size + 1 + 1, 0, none⟩) 4 4] 24)).alloc (.cells #[.string ⟨#[97]⟩] 9)).alloc (.cells (C8 g (W.heap.size + 1)) 42)) W.heap.size (.slice (some ⟨W.heap.size + 1 + 1, 0, none⟩) 4 4) := by
  obtain ⟨a, b, c, d, e⟩ := heap3 W #[.string E, .slice (some ⟨W.heap.size + 1 + 1, 0, none⟩) 4 4] #[.string ⟨#[97]⟩] (C8 g (W.heap.size + 1)) 24 9 42
  exact ⟨by omega, by omega, a, isA_ou (hp.below d hp.lt) c b (by omega) (by omega), d⟩

end Go.Proofs.YtofmpaphafhdpaaGreatDoor

/- A region that draws its order, by ONE invariant over its steps: each operation is proved once, in whatever order they come. -/
namespace Go.Proofs.YtofmpaphafhdpaaGreatDoor
set_option linter.unusedVariables false

section
variable {P : Program} {ops : Array Oper} {Q : Exit → Act → World → Prop} {md : Region.Mode}

/-- How many operations are still to come. -/
def toCome (l : Array Bool) : Nat := l.toList.count false

theorem toCome_some {l : Array Bool} {i : Nat} (h : l.getD i true = false) : ∃ hi : i < l.size, l[i] = false := by
  rcases Nat.lt_or_ge i l.size with hi | hi
  · refine ⟨hi, ?_⟩
    simpa [hi] using h
  · simp [Array.getElem?_eq_none hi] at h

theorem toCome_set {l : Array Bool} {i : Nat} (h : l.getD i true = false) : toCome (l.setIfInBounds i true) + 1 = toCome l := by
  obtain ⟨hi, he⟩ := toCome_some h
  unfold toCome
  have hi' : i < l.toList.length := by simpa using hi
  have he' : l.toList[i] = false := by simpa using he
  have hpos : 0 < l.toList.count false := List.count_pos_iff.2 (by rw [← he']; exact List.getElem_mem hi')
  rw [Array.toList_setIfInBounds, List.count_set hi', he']
  rw [if_pos (by rfl), if_neg (by decide)]
  omega

theorem toCome_none {l : Array Bool} (h : toCome l = 0) {i : Nat} : l.getD i true ≠ false := fun hf => by
  have := toCome_set hf
  omega

theorem wpAny_inv (Inv : Array Bool → Act → World → Prop)
    (hstep : ∀ listed a w, Inv listed a w → ∀ i ∈ Region.ready md ops listed, wpOp P ops Q i (Inv (listed.setIfInBounds i true)) a w)
    (hend : ∀ listed a w, Inv listed a w → Region.ready md ops listed = [] → Q .normal a w) :
    ∀ (fuel : Nat) (listed : Array Bool) (a : Act) (w : World), toCome listed ≤ fuel → Inv listed a w → wpAny P md ops Q fuel listed a w
  | 0, listed, a, w, hf, hI => by
    have hr : Region.ready md ops listed = [] := by
      cases hc : Region.ready md ops listed with
      | nil => rfl
      | cons j rs => exact absurd (mem_ready.1 (hc ▸ List.mem_cons_self : j ∈ Region.ready md ops listed)).1 (toCome_none (by omega))
    exact ⟨hr, hend _ _ _ hI hr⟩
  | fuel + 1, listed, a, w, hf, hI => by
    refine ⟨fun hr => hend _ _ _ hI hr, fun i hi => wpOp_mono (fun a' w' h => ?_) (hstep _ _ _ hI i hi)⟩
    have := toCome_set (mem_ready.1 hi).1
    exact wpAny_inv Inv hstep hend fuel _ a' w' (by omega) h

/-- Where each operation comes behind operations of lesser numbers alone, none is ready only when all have come. -/
theorem all_come {listed : Array Bool} (hb : ∀ (i : Nat) (o : Oper), ops[i]? = some o → ∀ e ∈ o.after, e.on < i) (hs : listed.size = ops.size) (hr : Region.ready md ops listed = []) :
    ∀ (n i : Nat), i < n → i < ops.size → listed.getD i false = true
  | 0, i, h, _ => by omega
  | n + 1, i, h, hi => by
    have ih := all_come hb hs hr n
    cases hc : listed.getD i false with
    | true => rfl
    | false =>
      exfalso
      have hm : i ∈ Region.ready md ops listed := by
        refine mem_ready.2 ⟨?_, ops[i], Array.getElem?_eq_getElem hi, fun e he _ => ?_⟩
        · have hi' : i < listed.size := by omega
          simpa [hi'] using hc
        · have := hb i _ (Array.getElem?_eq_getElem hi) e he
          exact ih e.on (by omega) (by omega)
      rw [hr] at hm
      cases hm

/-- The region: an invariant that holds at its start and that each operation, once those it waits for have come, keeps. -/
theorem region_inv {id : Nat} {a : Act} {w : World} (hm : P.follows .mixedOrders = true) (Inv : Array Bool → Act → World → Prop)
    (h0 : Inv (Array.replicate ops.size false) a { w with drawn := w.drawn + 1 })
    (hb : ∀ (i : Nat) (o : Oper), ops[i]? = some o → ∀ e ∈ o.after, e.on < i)
    (hsize : ∀ listed a w, Inv listed a w → listed.size = ops.size)
    (hstep : ∀ listed a w, Inv listed a w → ∀ (i : Nat) (o : Oper), ops[i]? = some o → listed.getD i true = false → (∀ e ∈ o.after, Region.binds .any e = true → listed.getD e.on false = true) →
      wpOp P ops Q i (Inv (listed.setIfInBounds i true)) a w)
    (hend : ∀ listed a w, Inv listed a w → (∀ i, i < ops.size → listed.getD i false = true) → Q .normal a w) : (Code.region id ops true).wp P Q a w := by
  refine wp_region_any hm (wpAny_inv Inv (fun listed a w hI i hi => ?_) (fun listed a w hI hr => ?_) _ _ _ _ ?_ h0)
  · obtain ⟨h1, o, h2, h3⟩ := mem_ready.1 hi
    exact hstep listed a w hI i o h2 h1 h3
  · exact hend listed a w hI fun i hi => all_come hb (hsize _ _ _ hI) hr (i + 1) i (by omega) hi
  · unfold toCome
    refine Nat.le_trans List.count_le_length ?_
    simp
end
end Go.Proofs.YtofmpaphafhdpaaGreatDoor

/- A region that draws its order, by a fact for each operation's value: the facts stand whatever comes behind them (G: how the world may grow), the last operation (a store, say) ends it. -/
namespace Go.Proofs.YtofmpaphafhdpaaGreatDoor
set_option linter.unusedVariables false

section
variable {P : Program} {ops : Array Oper} {Q : Exit → Act → World → Prop}

/-- What an operation waits for has come. -/
def Came (listed : Array Bool) (o : Oper) : Prop := ∀ e ∈ o.after, Region.binds .any e = true → listed.getD e.on false = true

/-- The frame and the world in the midst of a region: what has come has its fact; the slots of no operation are as they were. -/
structure Kept (ops : Array Oper) (F : Nat → Value → World → Prop) (G : World → World → Prop) (a0 : Act) (w0 : World) (listed : Array Bool) (a : Act) (w : World) : Prop where
  size : listed.size = ops.size
  shut : ∀ (i : Nat) (o : Oper), ops[i]? = some o → listed.getD i false = true → Came listed o
  defers : a.defers = a0.defers
  slots : a.tmps.size = a0.tmps.size
  grown : G w0 w
  other : ∀ t, (∀ (i : Nat) (o : Oper), ops[i]? = some o → o.dst ≠ some t) → a.tmps[t]? = a0.tmps[t]?
  fact : ∀ (i : Nat) (o : Oper) (d : Tmp), ops[i]? = some o → o.dst = some d → listed.getD i false = true → ∃ v, a.tmps[d]? = some v ∧ F i v w

theorem came_more {listed : Array Bool} {i : Nat} {o : Oper} (h : Came listed o) : Came (listed.setIfInBounds i true) o := fun e he hb => getD_set_true (h e he hb)

theorem getD_set_self {listed : Array Bool} {i : Nat} (h : i < listed.size) : (listed.setIfInBounds i true).getD i false = true := by simp [h]

theorem Kept.more {F : Nat → Value → World → Prop} {G : World → World → Prop} {a0 a : Act} {w0 w w' : World} {listed : Array Bool} (hk : Kept ops F G a0 w0 listed a w) {i : Nat} {o : Oper} {d : Tmp} {v : Value}
    (hF : ∀ i v w w', F i v w → G w w' → F i v w') (hG : ∀ w w' w'', G w w' → G w' w'' → G w w'')
    (hd : ∀ (i j : Nat) (o o' : Oper) (d : Tmp), ops[i]? = some o → ops[j]? = some o' → o.dst = some d → o'.dst = some d → i = j)
    (hin : ∀ (i : Nat) (o : Oper) (d : Tmp), ops[i]? = some o → o.dst = some d → d < a0.tmps.size)
    (ho : ops[i]? = some o) (hod : o.dst = some d) (hc : Came listed o) (hg : G w w') (hv : F i v w') : Kept ops F G a0 w0 (listed.setIfInBounds i true) (a.put (some d) v) w' := by
  have hi : i < listed.size := by rw [hk.size]; exact (Array.getElem?_eq_some_iff.1 ho).1
  refine ⟨by simp [hk.size], fun j o' ho' hl => ?_, hk.defers, by simp [Act.put, hk.slots], hG _ _ _ hk.grown hg, fun t ht => ?_, fun j o' d' ho' hd' hl => ?_⟩
  · by_cases hij : i = j
    · subst hij
      rw [ho] at ho'; cases ho'
      exact came_more hc
    · rw [getD_set_ne false hij] at hl
      exact came_more (hk.shut j o' ho' hl)
  · have : d ≠ t := fun h => ht i o ho (by rw [hod, h])
    simp only [Act.put]
    rw [Array.getElem?_setIfInBounds_ne this]
    exact hk.other t ht
  · by_cases hij : i = j
    · subst hij
      rw [ho] at ho'; cases ho'
      rw [hod] at hd'; cases hd'
      refine ⟨v, ?_, hv⟩
      have : d < a.tmps.size := by rw [hk.slots]; exact hin i o d ho hod
      simp [Act.put, this]
    · rw [getD_set_ne false hij] at hl
      obtain ⟨u, hu, hf⟩ := hk.fact j o' d' ho' hd' hl
      have : d ≠ d' := fun h => hij (hd i j o o' d ho ho' hod (by rw [hd', h]))
      refine ⟨u, ?_, hF _ _ _ _ hf hg⟩
      simp only [Act.put]
      rw [Array.getElem?_setIfInBounds_ne this]
      exact hu

/-- Where the last operation may come, all others have come: each but it is waited for by a later one. -/
theorem rest_came {listed : Array Bool} (hs : ∀ (i : Nat) (o : Oper), ops[i]? = some o → listed.getD i false = true → Came listed o)
    (hw : ∀ i, i + 1 < ops.size → ∃ (j : Nat) (o : Oper), i < j ∧ ops[j]? = some o ∧ ∃ e ∈ o.after, Region.binds .any e = true ∧ e.on = i)
    {l : Oper} (hl : ops[ops.size - 1]? = some l) (hc : Came listed l) : ∀ (n i : Nat), ops.size ≤ i + 1 + n → i + 1 < ops.size → listed.getD i false = true
  | 0, i, h, hi => by omega
  | n + 1, i, h, hi => by
    obtain ⟨j, o, hij, ho, e, he, hb, rfl⟩ := hw i hi
    have hj : j < ops.size := (Array.getElem?_eq_some_iff.1 ho).1
    by_cases hlast : j = ops.size - 1
    · subst hlast
      rw [ho] at hl; cases hl
      exact hc e he hb
    · exact hs j o ho (rest_came hs hw hl hc n j (by omega) (by omega)) e he hb

/-- The region: each operation but the last lays a value that has its fact, from the facts of those it waits for; the last one, with all the facts, ends it. -/
theorem region_facts {id : Nat} {a0 : Act} {w0 : World} (hm : P.follows .mixedOrders = true) (F : Nat → Value → World → Prop) (G : World → World → Prop)
    (hF : ∀ i v w w', F i v w → G w w' → F i v w') (hG : ∀ w w' w'', G w w' → G w' w'' → G w w'') (h0 : G w0 { w0 with drawn := w0.drawn + 1 })
    (hb : ∀ (i : Nat) (o : Oper), ops[i]? = some o → ∀ e ∈ o.after, e.on < i)
    (hd : ∀ (i j : Nat) (o o' : Oper) (d : Tmp), ops[i]? = some o → ops[j]? = some o' → o.dst = some d → o'.dst = some d → i = j)
    (hin : ∀ (i : Nat) (o : Oper) (d : Tmp), ops[i]? = some o → o.dst = some d → d < a0.tmps.size)
    (hw : ∀ i, i + 1 < ops.size → ∃ (j : Nat) (o : Oper), i < j ∧ ops[j]? = some o ∧ ∃ e ∈ o.after, Region.binds .any e = true ∧ e.on = i)
    {l : Oper} (hl : ops[ops.size - 1]? = some l)
    (hstep : ∀ listed a w, Kept ops F G a0 w0 listed a w → ∀ (i : Nat) (o : Oper), ops[i]? = some o → i + 1 < ops.size → Came listed o →
      wpOp P ops Q i (fun a' w' => ∃ d v, o.dst = some d ∧ a' = a.put (some d) v ∧ G w w' ∧ F i v w') a w)
    (hlast : ∀ listed a w, Kept ops F G a0 w0 listed a w → (∀ i, i + 1 < ops.size → listed.getD i false = true) → wpOp P ops Q (ops.size - 1) (fun a' w' => Q .normal a' w') a w) :
    (Code.region id ops true).wp P Q a0 w0 := by
  have hne : 0 < ops.size := by
    have := (Array.getElem?_eq_some_iff.1 hl).1
    omega
  refine region_inv hm (fun listed a w => (Kept ops F G a0 w0 listed a w ∧ listed.getD (ops.size - 1) false = false) ∨ (listed.size = ops.size ∧ (∀ i, i < ops.size → listed.getD i false = true) ∧ Q .normal a w)) ?_ hb ?_ ?_ ?_
  · have hno : ∀ i, (Array.replicate ops.size false).getD i false = false := fun i => by
      rcases Nat.lt_or_ge i ops.size with h | h <;> simp [h]
    exact .inl ⟨⟨by simp, fun i o _ h => (by rw [hno] at h; cases h), rfl, rfl, h0, fun _ _ => rfl, fun i o d _ _ h => (by rw [hno] at h; cases h)⟩, hno _⟩
  · rintro listed a w (⟨h, _⟩ | ⟨h, _⟩)
    · exact h.size
    · exact h
  · rintro listed a w (⟨hk, hn⟩ | ⟨hs, ha, _⟩) i o ho hi hc
    · have hio : i < ops.size := (Array.getElem?_eq_some_iff.1 ho).1
      by_cases hlst : i = ops.size - 1
      · subst hlst
        rw [ho] at hl; cases hl
        have hall := fun j => rest_came hk.shut hw ho hc ops.size j (by omega)
        refine wpOp_mono (fun a' w' hq => .inr ⟨by simp [hk.size], fun j hj => ?_, hq⟩) (hlast listed a w hk hall)
        by_cases hjl : j = ops.size - 1
        · subst hjl; exact getD_set_self (by rw [hk.size]; exact hio)
        · exact getD_set_true (hall j (by omega))
      · refine wpOp_mono (fun a' w' hq => ?_) (hstep listed a w hk i o ho (by omega) hc)
        obtain ⟨d, v, hod, rfl, hg, hv⟩ := hq
        exact .inl ⟨hk.more hF hG hd hin ho hod hc hg hv, by rw [getD_set_ne false hlst]; exact hn⟩
    · exfalso
      have hio : i < ops.size := (Array.getElem?_eq_some_iff.1 ho).1
      have := ha i hio
      have hi' : i < listed.size := by omega
      simp [hi'] at this hi
      rw [this] at hi; cases hi
  · rintro listed a w (⟨hk, hn⟩ | ⟨_, _, hq⟩) ha
    · rw [ha _ (by omega)] at hn; cases hn
    · exact hq

/-- What region_facts asks of the operations' numbers, reckoned. -/
def regOk (ops : Array Oper) (n : Nat) : Bool := (List.range ops.size).all fun i => match ops[i]? with
  | none => true
  | some o => (o.after.all fun e => decide (e.on < i)) && (match o.dst with
      | none => true
      | some d => decide (d < n) && (List.range ops.size).all fun j => match ops[j]? with
        | none => true
        | some o' => decide (o'.dst ≠ some d) || decide (i = j)) &&
    (decide (ops.size ≤ i + 1) || (List.range ops.size).any fun j => match ops[j]? with
        | none => false
        | some o' => decide (i < j) && o'.after.any fun e => Region.binds .any e && decide (e.on = i))

theorem regOk_at {n : Nat} (h : regOk ops n = true) {i : Nat} {o : Oper} (ho : ops[i]? = some o) :
    (∀ e ∈ o.after, e.on < i) ∧ (∀ d, o.dst = some d → d < n ∧ ∀ (j : Nat) (o' : Oper), ops[j]? = some o' → o'.dst = some d → i = j) ∧
      (i + 1 < ops.size → ∃ (j : Nat) (o' : Oper), i < j ∧ ops[j]? = some o' ∧ ∃ e ∈ o'.after, Region.binds .any e = true ∧ e.on = i) := by
  have hi : i < ops.size := (Array.getElem?_eq_some_iff.1 ho).1
  have h1 := List.all_eq_true.1 h i (List.mem_range.2 hi)
  rw [ho] at h1
  simp only [Bool.and_eq_true, Bool.or_eq_true, decide_eq_true_eq] at h1
  obtain ⟨⟨ha, hb⟩, hc⟩ := h1
  refine ⟨fun e he => ?_, fun d hd => ?_, fun hlt => ?_⟩
  · have := Array.all_eq_true_iff_forall_mem.1 ha e he
    simpa using this
  · rw [hd] at hb
    simp only [Bool.and_eq_true, decide_eq_true_eq] at hb
    refine ⟨hb.1, fun j o' ho' hd' => ?_⟩
    have h2 := List.all_eq_true.1 hb.2 j (List.mem_range.2 (Array.getElem?_eq_some_iff.1 ho').1)
    rw [ho'] at h2
    simp only [Bool.or_eq_true, decide_eq_true_eq] at h2
    rcases h2 with h2 | h2
    · exact absurd hd' h2
    · exact h2
  · rcases hc with hc | hc
    · omega
    · obtain ⟨j, _, hj⟩ := List.any_eq_true.1 hc
      cases ho' : ops[j]? with
      | none => rw [ho'] at hj; cases hj
      | some o' =>
        rw [ho'] at hj
        simp only [Bool.and_eq_true, decide_eq_true_eq] at hj
        obtain ⟨e, he, hbe⟩ := Array.any_eq_true'.1 hj.2
        simp only [Bool.and_eq_true, decide_eq_true_eq] at hbe
        exact ⟨j, o', hj.1, ho', e, he, hbe.1, hbe.2⟩

theorem region_factsB {id : Nat} {a0 : Act} {w0 : World} (hm : P.follows .mixedOrders = true) (F : Nat → Value → World → Prop) (G : World → World → Prop)
    (hF : ∀ i v w w', F i v w → G w w' → F i v w') (hG : ∀ w w' w'', G w w' → G w' w'' → G w w'') (h0 : G w0 { w0 with drawn := w0.drawn + 1 })
    (hok : regOk ops a0.tmps.size = true) {l : Oper} (hl : ops[ops.size - 1]? = some l)
    (hstep : ∀ listed a w, Kept ops F G a0 w0 listed a w → ∀ (i : Nat) (o : Oper), ops[i]? = some o → i + 1 < ops.size → Came listed o →
      wpOp P ops Q i (fun a' w' => ∃ d v, o.dst = some d ∧ a' = a.put (some d) v ∧ G w w' ∧ F i v w') a w)
    (hlast : ∀ listed a w, Kept ops F G a0 w0 listed a w → (∀ i, i + 1 < ops.size → listed.getD i false = true) → wpOp P ops Q (ops.size - 1) (fun a' w' => Q .normal a' w') a w) :
    (Code.region id ops true).wp P Q a0 w0 :=
  region_facts hm F G hF hG h0 (fun i o ho => (regOk_at hok ho).1) (fun i j o o' d ho ho' hd hd' => ((regOk_at hok ho).2.1 d hd).2 j o' ho' hd') (fun i o d ho hd => ((regOk_at hok ho).2.1 d hd).1)
    (fun i hi => (regOk_at hok (Array.getElem?_eq_getElem (show i < ops.size by omega))).2.2 hi) hl hstep hlast

/-- An operation that lays a value. -/
theorem wpOp_val {i : Nat} {o : Oper} {a : Act} {w w' : World} {v : Value} {K : Act → World → Prop} (ho : ops[i]? = some o) (hg : o.guard = none) (hr : (execOp a.eval o).run P w = .ok (.value v) w') (hk : K (a.put o.dst v) w') : wpOp P ops Q i K a w := by
  unfold wpOp
  rw [ho]
  show if Region.wanted o (yielded ops a.tmps) = true then _ else _
  rw [if_pos (by unfold Region.wanted; rw [hg])]
  refine .inl ?_
  unfold Oper.wp
  rw [hr]
  exact hk

/-- No operation writes this slot. -/
def noDst (ops : Array Oper) (t : Nat) : Bool := (List.range ops.size).all fun i => match ops[i]? with
  | none => true
  | some o => decide (o.dst ≠ some t)

theorem Kept.read {F : Nat → Value → World → Prop} {G : World → World → Prop} {a0 a : Act} {w0 w : World} {listed : Array Bool} (hk : Kept ops F G a0 w0 listed a w) {t : Nat} {v : Value} (hn : noDst ops t = true) (h : a0.tmps[t]? = some v) : a.tmps[t]?.getD undef = v := by
  have h1 := hk.other t fun i o ho => by
    have h2 := List.all_eq_true.1 hn i (List.mem_range.2 (Array.getElem?_eq_some_iff.1 ho).1)
    rw [ho] at h2
    simpa using h2
  rw [h1, h]
  rfl

theorem Kept.got {F : Nat → Value → World → Prop} {G : World → World → Prop} {a0 a : Act} {w0 w : World} {listed : Array Bool} (hk : Kept ops F G a0 w0 listed a w) {j : Nat} {o : Oper} {d : Tmp} (ho : ops[j]? = some o) (hd : o.dst = some d) (hl : listed.getD j false = true) :
    ∃ v, a.tmps[d]?.getD undef = v ∧ F j v w := by
  obtain ⟨v, h, hf⟩ := hk.fact j o d ho hd hl
  refine ⟨v, ?_, hf⟩
  rw [h]
  rfl
end
end Go.Proofs.YtofmpaphafhdpaaGreatDoor

/- A region that draws its order, with ONE operation that may write into what was there (an append onto a row of one's own): the facts ahead of it and behind it; each operation is proved once. -/
namespace Go.Proofs.YtofmpaphafhdpaaGreatDoor
open Go.RowKit
set_option linter.unusedVariables false

section
variable {P : Program} {ops : Array Oper} {Q : Exit → Act → World → Prop}

theorem Kept.more2 {F F' : Nat → Value → World → Prop} {G : World → World → Prop} {a0 a : Act} {w0 w w' : World} {listed : Array Bool} (hk : Kept ops F G a0 w0 listed a w) {i : Nat} {o : Oper} {d : Tmp} {v : Value}
    (hF : ∀ j u, j ≠ i → F j u w → F' j u w') (hgr : G w0 w')
    (hd : ∀ (i j : Nat) (o o' : Oper) (d : Tmp), ops[i]? = some o → ops[j]? = some o' → o.dst = some d → o'.dst = some d → i = j)
    (hin : ∀ (i : Nat) (o : Oper) (d : Tmp), ops[i]? = some o → o.dst = some d → d < a0.tmps.size)
    (ho : ops[i]? = some o) (hod : o.dst = some d) (hc : Came listed o) (hv : F' i v w') : Kept ops F' G a0 w0 (listed.setIfInBounds i true) (a.put (some d) v) w' := by
  have hi : i < listed.size := by rw [hk.size]; exact (Array.getElem?_eq_some_iff.1 ho).1
  refine ⟨by simp [hk.size], fun j o' ho' hl => ?_, hk.defers, by simp [Act.put, hk.slots], hgr, fun t ht => ?_, fun j o' d' ho' hd' hl => ?_⟩
  · by_cases hij : i = j
    · subst hij
      rw [ho] at ho'; cases ho'
      exact came_more hc
    · rw [getD_set_ne false hij] at hl
      exact came_more (hk.shut j o' ho' hl)
  · have : d ≠ t := fun h => ht i o ho (by rw [hod, h])
    simp only [Act.put]
    rw [Array.getElem?_setIfInBounds_ne this]
    exact hk.other t ht
  · by_cases hij : i = j
    · subst hij
      rw [ho] at ho'; cases ho'
      rw [hod] at hd'; cases hd'
      refine ⟨v, ?_, hv⟩
      have : d < a.tmps.size := by rw [hk.slots]; exact hin i o d ho hod
      simp [Act.put, this]
    · rw [getD_set_ne false hij] at hl
      obtain ⟨u, hu, hf⟩ := hk.fact j o' d' ho' hd' hl
      have : d ≠ d' := fun h => hij (hd i j o o' d ho ho' hod (by rw [hd', h]))
      refine ⟨u, ?_, hF _ _ (fun h => hij h.symm) hf⟩
      simp only [Act.put]
      rw [Array.getElem?_setIfInBounds_ne this]
      exact hu

/-- Operation l2 waits for l1. -/
def depOn (ops : Array Oper) (l2 l1 : Nat) : Bool := match ops[l2]? with
  | none => false
  | some o => o.after.any fun e => Region.binds .any e && decide (e.on = l1)

/-- The region. F p q i v w: what holds of operation i's value, ahead of the loud ones l1, l2 (false) and behind them (true). -/
theorem region_two {id : Nat} {a0 : Act} {w0 : World} (hm : P.follows .mixedOrders = true) (n0 l1 l2 : Nat) (F : Bool → Bool → Nat → Value → World → Prop)
    (hF : ∀ p q i v w w', n0 ≤ w.heap.size → F p q i v w → Below w.heap.size w w' → F p q i v w') (hn : n0 ≤ w0.heap.size)
    (hok : regOk ops a0.tmps.size = true) (h12 : depOn ops l2 l1 = true) (h2 : decide (l1 < l2 ∧ l2 + 1 < ops.size) = true) {l : Oper} (hl : ops[ops.size - 1]? = some l)
    (hstep : ∀ listed a w p q, n0 ≤ w.heap.size → Kept ops (F p q) (Below n0) a0 w0 listed a w → ∀ (i : Nat) (o : Oper), ops[i]? = some o → i + 1 < ops.size → i ≠ l1 → i ≠ l2 → Came listed o →
      wpOp P ops Q i (fun a' w' => ∃ d v, o.dst = some d ∧ a' = a.put (some d) v ∧ Below w.heap.size w w' ∧ F p q i v w') a w)
    (hloud1 : ∀ listed a w, n0 ≤ w.heap.size → Kept ops (F false false) (Below n0) a0 w0 listed a w → ∀ o, ops[l1]? = some o → Came listed o →
      wpOp P ops Q l1 (fun a' w' => ∃ d v, o.dst = some d ∧ a' = a.put (some d) v ∧ Below n0 w w' ∧ F true false l1 v w' ∧ ∀ j u, j ≠ l1 → F false false j u w → F true false j u w') a w)
    (hloud2 : ∀ listed a w, n0 ≤ w.heap.size → Kept ops (F true false) (Below n0) a0 w0 listed a w → ∀ o, ops[l2]? = some o → Came listed o →
      wpOp P ops Q l2 (fun a' w' => ∃ d v, o.dst = some d ∧ a' = a.put (some d) v ∧ Below n0 w w' ∧ F true true l2 v w' ∧ ∀ j u, j ≠ l2 → F true false j u w → F true true j u w') a w)
    (hlast : ∀ listed a w, n0 ≤ w.heap.size → Kept ops (F true true) (Below n0) a0 w0 listed a w → (∀ i, i + 1 < ops.size → listed.getD i false = true) → wpOp P ops Q (ops.size - 1) (fun a' w' => Q .normal a' w') a w) :
    (Code.region id ops true).wp P Q a0 w0 := by
  have hne : 0 < ops.size := by
    have := (Array.getElem?_eq_some_iff.1 hl).1
    omega
  obtain ⟨hlt12, h2⟩ := of_decide_eq_true h2
  have hb := fun (i : Nat) (o : Oper) (ho : ops[i]? = some o) => (regOk_at hok ho).1
  have hd := fun (i j : Nat) (o o' : Oper) (d : Tmp) (ho : ops[i]? = some o) (ho' : ops[j]? = some o') (hd : o.dst = some d) (hd' : o'.dst = some d) => ((regOk_at hok ho).2.1 d hd).2 j o' ho' hd'
  have hin := fun (i : Nat) (o : Oper) (d : Tmp) (ho : ops[i]? = some o) (hd : o.dst = some d) => ((regOk_at hok ho).2.1 d hd).1
  have hw := fun i (hi : i + 1 < ops.size) => (regOk_at hok (Array.getElem?_eq_getElem (show i < ops.size by omega))).2.2 hi
  have hno : ∀ i, (Array.replicate ops.size false).getD i false = false := fun i => by
    rcases Nat.lt_or_ge i ops.size with h | h <;> simp [h]
  refine region_inv hm (fun listed a w => (Kept ops (F (listed.getD l1 false) (listed.getD l2 false)) (Below n0) a0 w0 listed a w ∧ listed.getD (ops.size - 1) false = false) ∨ (listed.size = ops.size ∧ (∀ i, i < ops.size → listed.getD i false = true) ∧ Q .normal a w)) ?_ hb ?_ ?_ ?_
  · exact .inl ⟨⟨by simp, fun i o _ h => (by rw [hno] at h; cases h), rfl, rfl, (Below.refl n0 w0).drew, fun _ _ => rfl, fun i o d _ _ h => (by rw [hno] at h; cases h)⟩, hno _⟩
  · rintro listed a w (⟨h, _⟩ | ⟨h, _⟩)
    · exact h.size
    · exact h
  · rintro listed a w (⟨hk, hnl⟩ | ⟨hs, ha, _⟩) i o ho hi hc
    · have hio : i < ops.size := (Array.getElem?_eq_some_iff.1 ho).1
      have hsz : n0 ≤ w.heap.size := Nat.le_trans hn hk.grown.size
      have hpi : listed.getD i false = false := by
        have hi' : i < listed.size := by rw [hk.size]; exact hio
        simpa [hi'] using hi
      have hsl : (listed.setIfInBounds i true).getD i false = true := getD_set_self (by rw [hk.size]; exact hio)
      by_cases hlst : i = ops.size - 1
      · subst hlst
        rw [ho] at hl; cases hl
        have hall := fun j => rest_came hk.shut hw ho hc ops.size j (by omega)
        rw [hall l2 h2, hall l1 (by omega)] at hk
        refine wpOp_mono (fun a' w' hq => .inr ⟨by simp [hk.size], fun j hj => ?_, hq⟩) (hlast listed a w hsz hk hall)
        by_cases hjl : j = ops.size - 1
        · subst hjl; exact hsl
        · exact getD_set_true (hall j (by omega))
      · by_cases hi1 : i = l1
        · subst hi1
          have hp2 : listed.getD l2 false = false := by
            cases e : listed.getD l2 false with
            | false => rfl
            | true =>
              exfalso
              unfold depOn at h12
              cases eo : ops[l2]? with
              | none => rw [eo] at h12; cases h12
              | some o2 =>
                rw [eo] at h12
                obtain ⟨x, hx, hxe⟩ := Array.any_eq_true'.1 h12
                simp only [Bool.and_eq_true, decide_eq_true_eq] at hxe
                have := hk.shut l2 o2 eo e x hx hxe.1
                rw [hxe.2, hpi] at this
                cases this
          rw [hpi, hp2] at hk
          refine wpOp_mono (fun a' w' hq => ?_) (hloud1 listed a w hsz hk o ho hc)
          obtain ⟨d, v, hod, rfl, hg, hv, hj⟩ := hq
          refine .inl ⟨?_, by rw [getD_set_ne false hlst]; exact hnl⟩
          rw [hsl, getD_set_ne false (show i ≠ l2 by omega), hp2]
          exact hk.more2 hj (hk.grown.trans hg) hd hin ho hod hc hv
        · by_cases hi2 : i = l2
          · subst hi2
            have hp1 : listed.getD l1 false = true := by
              unfold depOn at h12
              rw [ho] at h12
              obtain ⟨x, hx, hxe⟩ := Array.any_eq_true'.1 h12
              simp only [Bool.and_eq_true, decide_eq_true_eq] at hxe
              have := hc x hx hxe.1
              rwa [hxe.2] at this
            rw [hp1, hpi] at hk
            refine wpOp_mono (fun a' w' hq => ?_) (hloud2 listed a w hsz hk o ho hc)
            obtain ⟨d, v, hod, rfl, hg, hv, hj⟩ := hq
            refine .inl ⟨?_, by rw [getD_set_ne false hlst]; exact hnl⟩
            rw [hsl, getD_set_ne false (show i ≠ l1 by omega), hp1]
            exact hk.more2 hj (hk.grown.trans hg) hd hin ho hod hc hv
          · refine wpOp_mono (fun a' w' hq => ?_) (hstep listed a w _ _ hsz hk i o ho (by omega) hi1 hi2 hc)
            obtain ⟨d, v, hod, rfl, hg, hv⟩ := hq
            refine .inl ⟨?_, by rw [getD_set_ne false hlst]; exact hnl⟩
            rw [getD_set_ne false hi1, getD_set_ne false hi2]
            exact hk.more2 (fun j u _ h => hF _ _ _ _ _ _ hsz h hg) (hk.grown.trans (hg.mono hsz)) hd hin ho hod hc hv
    · exfalso
      have hio : i < ops.size := (Array.getElem?_eq_some_iff.1 ho).1
      have := ha i hio
      have hi' : i < listed.size := by omega
      simp [hi'] at this hi
      rw [this] at hi; cases hi
  · rintro listed a w (⟨hk, hnl⟩ | ⟨_, _, hq⟩) ha
    · rw [ha _ (by omega)] at hnl; cases hnl
    · exact hq

/-- The frame behind a region, slot by slot: what the operations lay, else what was there. -/
def laidT (a : Array Value) : List Oper → Array Value → Array Value
  | [], r => r
  | o :: l, r => laidT a l (match o.dst with | none => r | some d => r.setIfInBounds d (a[d]?.getD undef))
theorem laidT_size (a : Array Value) : ∀ (l : List Oper) (r : Array Value), (laidT a l r).size = r.size
  | [], r => rfl
  | o :: l, r => by
    rw [laidT, laidT_size a l]
    cases o.dst <;> simp
theorem laidT_at (a : Array Value) (t : Nat) : ∀ (l : List Oper) (r : Array Value), r[t]? = a[t]? ∨ (∃ o ∈ l, o.dst = some t) → a.size = r.size → (laidT a l r)[t]? = a[t]?
  | [], r, h, _ => by
    rcases h with h | ⟨o, ho, _⟩
    · exact h
    · simp at ho
  | o :: l, r, h, hs => by
    rw [laidT]
    cases e : o.dst with
    | none =>
      refine laidT_at a t l r ?_ hs
      rcases h with h | ⟨o', ho', he⟩
      · exact .inl h
      · rcases List.mem_cons.1 ho' with rfl | ho'
        · rw [e] at he; cases he
        · exact .inr ⟨o', ho', he⟩
    | some d =>
      simp only
      refine laidT_at a t l _ ?_ (by simpa using hs)
      by_cases hdt : d = t
      · subst hdt
        left
        rcases Nat.lt_or_ge d a.size with hlt | hge
        · rw [Array.getElem?_setIfInBounds_self_of_lt (by omega), Array.getElem?_eq_getElem hlt]
          rfl
        · rw [Array.getElem?_eq_none hge, Array.getElem?_eq_none (by simp; omega)]
      · rcases h with h | ⟨o', ho', he⟩
        · left
          rw [Array.getElem?_setIfInBounds_ne hdt]
          exact h
        · rcases List.mem_cons.1 ho' with rfl | ho'
          · rw [e] at he; cases he; exact absurd rfl hdt
          · exact .inr ⟨o', ho', he⟩
theorem Kept.frame {F : Nat → Value → World → Prop} {G : World → World → Prop} {a0 a : Act} {w0 w : World} {listed : Array Bool} (hk : Kept ops F G a0 w0 listed a w) : a = { a0 with tmps := laidT a.tmps ops.toList a0.tmps } := by
  have h1 : a.tmps = laidT a.tmps ops.toList a0.tmps := by
    refine Array.ext_getElem? fun t => ?_
    symm
    refine laidT_at a.tmps t _ _ ?_ hk.slots
    by_cases h : ∃ o ∈ ops.toList, o.dst = some t
    · exact .inr h
    · left
      refine (hk.other t fun i o ho hd => h ⟨o, ?_, hd⟩).symm
      exact List.mem_of_getElem? (i := i) (by simpa using ho)
  cases a
  cases a0
  have h2 := hk.defers
  simp only at h1 h2
  simp only [← h1, h2]
/-- The same, by puts. -/
def putT (t : Array Value) : List Oper → Act → Act
  | [], r => r
  | o :: l, r => putT t l (r.put o.dst (match o.dst with | none => undef | some d => t[d]?.getD undef))
theorem putT_eq (t : Array Value) : ∀ (l : List Oper) (r : Act), putT t l r = { r with tmps := laidT t l r.tmps }
  | [], r => rfl
  | o :: l, r => by
    rw [putT, putT_eq t l, laidT]
    cases o.dst <;> rfl
theorem Kept.puts {F : Nat → Value → World → Prop} {G : World → World → Prop} {a0 a : Act} {w0 w : World} {listed : Array Bool} (hk : Kept ops F G a0 w0 listed a w) : a = putT a.tmps ops.toList a0 := by
  rw [putT_eq]
  exact hk.frame
end
end Go.Proofs.YtofmpaphafhdpaaGreatDoor
