/- Several texts in one file: ScNam, ScNamW, ScDocP, ScDocA, ScDocC, ScDocD, TuW. -/
import Derived.Test.YtaapdipejpbdeaaGreatDoorMadeP2
import Derived.Test.YtaapdipejpbdeaaGreatDoorRefTextW
import Derived.Deep.RegionHeld3
import Derived.Deep.AppendSrc
import Derived.Deep.CutRange
import Derived.Test.YtaapdipejpbdeaaGreatDoorMadeP4
import Derived.Deep.CutBlock
import Derived.StillTailTactics
/- SchemaNames: the walk. -/
namespace Go.Proofs.YtaapdipejpbdeaaGreatDoor
open Go.RowKit
set_option linter.unusedVariables false

theorem fstep_pre (st : List UInt8 × Bool) (c : UInt8) : st.1 <+: (fstep st c).1 := by
  by_cases h : c.toNat = 32
  · rw [fstep_blank st c h]; exact List.prefix_refl _
  · rw [fstep_other st c h]; simp only [List.append_assoc]; exact List.prefix_append _ _
theorem fsteps_pre : ∀ (l : List UInt8) (st : List UInt8 × Bool), st.1 <+: (l.foldl fstep st).1
  | [], st => List.prefix_refl _
  | c :: l, st => (fstep_pre st c).trans (fsteps_pre l (fstep st c))
theorem fold_head {c : UInt8} {l : List UInt8} (h : c.toNat ≠ 32) : ∃ r, fold (c :: l) = lowC c :: r := by
  have := fsteps_pre l (fstep ([], false) c)
  rw [fstep_other _ c h] at this
  obtain ⟨r, hr⟩ := this
  exact ⟨r, by show (List.foldl fstep ([], false) (c :: l)).1 = _; rw [List.foldl_cons, fstep_other _ c h]; simpa using hr.symm⟩
theorem fold_bl (v : List UInt8) : fold (32 :: v) = fold v := by
  have := frun_ahead 1 v
  unfold fold
  rw [show (32 : UInt8) :: v = List.replicate 1 32 ++ v from rfl, this]
theorem fold_lw (l : List UInt8) : fold (low l) = fold l := by
  have := fold_round 0 l
  simpa using this
/-- The name's part, and the entry with it as a value. -/
def namV (s : List UInt8) : List UInt8 := 118 :: (s ++ [119])
def namD (s : List UInt8) : List UInt8 := textD [([67, 78], namV s), ([111], [120])]
def namL (s : List UInt8) : List AT := [([99, 110], [[111, 116, 104, 101, 114], 32 :: 32 :: low (namV s)]), ([111, 98, 106, 101, 99, 116, 99, 108, 97, 115, 115], [[112, 101, 114, 115, 111, 110]]), ([115, 110], [[115]])]
theorem nam_head (s : List UInt8) : ∃ r, fold (namV s) = 118 :: r := fold_head (c := 118) (by decide)
theorem nam_ne (s : List UInt8) : fold (namV s) ≠ [] := by obtain ⟨r, h⟩ := nam_head s; rw [h]; simp
theorem nam_parse (s : List UInt8) (h : s.length ≤ 30) : parseD (namD s) = some [([67, 78], namV s), ([111], [120])] := by
  refine parse_text _ ?_
  unfold okL
  simp only [Bool.and_eq_true, decide_eq_true_eq]
  refine ⟨by simp, ?_⟩
  rw [List.all_cons, List.all_cons, List.all_nil, Bool.and_true, Bool.and_eq_true]
  refine ⟨?_, by decide⟩
  unfold okR
  simp only [Bool.and_eq_true, decide_eq_true_eq]
  refine ⟨⟨by decide, by rfl⟩, by simp [namV]; omega⟩
theorem nam_key (s : List UInt8) (h : s.length ≤ 30) : ∃ k, keyD (namD s) = some k ∧ k ≠ [] := by
  rw [keyD_eq, nam_parse s h]
  simp only [Option.bind_some, keyL]
  rw [if_pos (by
    rw [List.all_cons, List.all_cons, List.all_nil, Bool.and_true, Bool.and_eq_true]
    refine ⟨?_, by decide⟩
    unfold okF
    have := nam_ne s
    simpa [List.isEmpty_iff] using this)]
  exact ⟨_, rfl, text_ne⟩
theorem nam_norm (s : List UInt8) (h : s.length ≤ 30) : normD 1 (namV s) = some (fold (namV s)) := normD_text (by simp [namV]) (by simp [namV]; omega) (nam_ne s)
theorem nam_norm2 (s : List UInt8) (h : s.length ≤ 30) : normD 1 (32 :: 32 :: low (namV s)) = some (fold (namV s)) := by
  have e : fold (32 :: 32 :: low (namV s)) = fold (namV s) := by rw [fold_bl, fold_bl, fold_lw]
  rw [normD_text (by simp) (by simp [namV, low_length]; omega) (by rw [e]; exact nam_ne s), e]
theorem nam_no (s : List UInt8) (h : s.length ≤ 30) : checkD (namD s) (perL [97, 110, 110]) = 64 := by
  obtain ⟨k, hk, hne⟩ := nam_key s h
  rw [check_behind hk hne (by simp [perL]) (show soundR [] (perL [97, 110, 110]) = .ok (perL [97, 110, 110]) from rfl)]
  unfold behindD
  rw [if_neg (by decide +kernel), if_pos]
  unfold namedD
  rw [nam_parse s h]
  simp only
  obtain ⟨r, hr⟩ := nam_head s
  rw [show (canonD [67, 78]).getD [] = [99, 110] from by decide, show valsS (perL [97, 110, 110]) [99, 110] = [[97, 110, 110]] from rfl, show ruleD [99, 110] = 1 from by decide, nam_norm s h, hr]
  simp only [List.any_cons, List.any_nil, Bool.or_false]
  rw [show normD 1 [97, 110, 110] = some [97, 110, 110] from by decide]
  simp [sameO]
theorem nam_sound (s : List UInt8) (h : s.length ≤ 30) : soundR [] (namL s) = .ok (namL s) := by
  obtain ⟨r, hr⟩ := nam_head s
  have hv : valsC [99, 110] [[111, 116, 104, 101, 114], 32 :: 32 :: low (namV s)] = 0 := by
    unfold valsC
    rw [if_neg (by simp [mostS]), show ruleD [99, 110] = 1 from by decide]
    have e : normsS 1 [[111, 116, 104, 101, 114], 32 :: 32 :: low (namV s)] = some [[111, 116, 104, 101, 114], 118 :: r] := by
      simp only [normsS]
      rw [show normD 1 [111, 116, 104, 101, 114] = some [111, 116, 104, 101, 114] from by decide, nam_norm2 s h, hr]
      rfl
    rw [e]
    simp
  unfold namL
  rw [sound_step (show canonD [99, 110] = some [99, 110] from by decide) rfl hv]
  generalize [[111, 116, 104, 101, 114], 32 :: 32 :: low (namV s)] = X
  rfl
theorem nam_is (s : List UInt8) (h : s.length ≤ 30) : checkD (namD s) (namL s) = 0 := by
  obtain ⟨k, hk, hne⟩ := nam_key s h
  rw [check_behind hk hne (by simp [namL]) (nam_sound s h)]
  have hc : classedD (namL s) = true := by
    unfold namL
    generalize 32 :: 32 :: low (namV s) = X
    rfl
  have hn : namedD (namL s) (namD s) = true := by
    unfold namedD
    rw [nam_parse s h]
    simp only
    rw [show (canonD [67, 78]).getD [] = [99, 110] from by decide, show valsS (namL s) [99, 110] = [[111, 116, 104, 101, 114], 32 :: 32 :: low (namV s)] from rfl, show ruleD [99, 110] = 1 from by decide, nam_norm s h]
    simp only [List.any_cons, List.any_nil, Bool.or_false]
    rw [nam_norm2 s h]
    simp [sameO]
  unfold behindD
  rw [hc, hn]
  rfl
end Go.Proofs.YtaapdipejpbdeaaGreatDoor

/- SchemaNames: the walk. -/
namespace Go.Proofs.YtaapdipejpbdeaaGreatDoor
open Go.RowKit
set_option linter.unusedVariables false

theorem isL_pair (w : World) (T1 V1 T2 V2 : ByteArray) : IsL (w.alloc (.cells #[.string T1, .string V1, .string T2, .string V2] 64)).heap.size (w.alloc (.cells #[.string T1, .string V1, .string T2, .string V2] 64))
    [(T1.data.toList, V1.data.toList), (T2.data.toList, V2.data.toList)] (.slice (some ⟨w.heap.size, 0, none⟩) 2 2) := by
  refine ⟨_, _, rfl, by unfold maxLen; simp, fun j hj => ⟨w.heap.size, 0, rfl, by simp, ?_⟩⟩
  have : j = 0 ∨ j = 1 := by simp at hj; omega
  rcases this with rfl | rfl <;> simp [strV]
theorem pair_any (w : World) (T1 V1 T2 V2 : ByteArray) (h1 : T1.size ≤ 1000) (h2 : V1.size ≤ 1000) (h3 : T2.size ≤ 1000) (h4 : V2.size ≤ 1000) (A : ByteArray) (hA : A.data.toList = textD [(T1.data.toList, V1.data.toList), (T2.data.toList, V2.data.toList)]) :
    Calls Tryz.prog 44 #[.slice (some ⟨w.heap.size, 0, none⟩) 2 2] (w.alloc (.cells #[.string T1, .string V1, .string T2, .string V2] 64)) fun e w' => e = .returned (.string A) ∧ Below w.heap.size w w' := by
  have hsm : smallL [(T1.data.toList, V1.data.toList), (T2.data.toList, V2.data.toList)] := by
    refine ⟨by simp, fun r hr => ?_⟩
    simp only [List.mem_cons, List.not_mem_nil, or_false] at hr
    rcases hr with rfl | rfl
    · exact ⟨by rw [bytes_len]; exact h1, by rw [bytes_len]; exact h2⟩
    · exact ⟨by rw [bytes_len]; exact h3, by rw [bytes_len]; exact h4⟩
  refine (textRef_any _ hsm _ _ (isL_pair w T1 V1 T2 V2)).mono fun e w' ⟨he, hb⟩ => ⟨?_, ((Below.refl _ _).alloc (Nat.le_refl _) _).trans (hb.mono (by simp))⟩
  rw [he, ← hA]; simp [strV]
theorem key_len_name (s : List UInt8) (h : s.length ≤ 30) : (namD s).length ≤ 1000000 := by
  have := textT_len [([67, 78], namV s), ([111], [120])] true (fun r hr => by
    simp only [List.mem_cons, List.not_mem_nil, or_false] at hr
    rcases hr with rfl | rfl
    · exact ⟨by simp, by simp [namV]; omega⟩
    · exact ⟨by simp, by simp⟩)
  have e : textT true [([67, 78], namV s), ([111], [120])] = namD s := by
    simp [textT, namD, textD]
  rw [e] at this
  simp at this
  omega

theorem PerAt.up {w : World} {g b i : Nat} {N : ByteArray} {x : Value} (h : PerAt w g N) (hb : g < b) : PerAt (w.setCell ⟨b, i, none⟩ x) g N :=
  ⟨(block_ne w _ _ (show g - 3 ≠ b by omega)).trans h.b1, (block_ne w _ _ (show g - 2 ≠ b by omega)).trans h.b2, (block_ne w _ _ (show g - 1 ≠ b by omega)).trans h.b3, (block_ne w _ _ (show g ≠ b by omega)).trans h.b4, by rw [lt_set]; exact h.lt⟩
theorem boxN_set1 {w : World} {b : Nat} {x : ByteArray} {u y : Value} (h : BoxN w b x u) : BoxN (w.setCell ⟨b, 1, none⟩ y) b x y := by
  unfold BoxN at h ⊢
  simp [World.setCell, Array.getElem?_modify, h]
theorem BoxN.ne {w : World} {b c i : Nat} {x : ByteArray} {u y : Value} (h : BoxN w b x u) (hb : b ≠ c) : BoxN (w.setCell ⟨c, i, none⟩ y) b x u := (block_ne w _ _ (show b ≠ c from hb)).trans h
theorem BoxN.frozen {w : World} {b : Nat} {x : ByteArray} {u : Value} (h : BoxN w b x u) : w.frozen? ⟨b, 0, none⟩ = false ∧ w.frozen? ⟨b, 1, none⟩ = false := by
  unfold BoxN at h
  simp [World.frozen?, h]
/-- The world behind the entry with two names. -/
abbrev namW (w : World) (X : ByteArray) (g b : Nat) : World := ((w.setCell ⟨b, 1, none⟩ (.slice (some ⟨w.heap.size + 1, 0, none⟩) 3 3)).alloc (.cells #[.string ⟨#[111, 116, 104, 101, 114]⟩, .string X] 9)).alloc (.cells #[.string ⟨#[99, 110]⟩, .slice (some ⟨w.heap.size, 0, none⟩) 2 2, .string ⟨#[111, 98, 106, 101, 99, 116, 99, 108, 97, 115, 115]⟩, .slice (some ⟨g - 2, 0, none⟩) 1 1, .string ⟨#[115, 110]⟩, .slice (some ⟨g - 1, 0, none⟩) 1 1] 31)
theorem nam_box {w : World} {X : ByteArray} {g b : Nat} {x : ByteArray} {u : Value} (h : BoxN w b x u) (hb : b < w.heap.size) : ((w.alloc (.cells #[.string ⟨#[111, 116, 104, 101, 114]⟩, .string X] 9)).alloc (.cells #[.string ⟨#[99, 110]⟩, .slice (some ⟨w.heap.size, 0, none⟩) 2 2, .string ⟨#[111, 98, 106, 101, 99, 116, 99, 108, 97, 115, 115]⟩, .slice (some ⟨g - 2, 0, none⟩) 1 1, .string ⟨#[115, 110]⟩, .slice (some ⟨g - 1, 0, none⟩) 1 1] 31)).cell? ⟨b, 1, none⟩ = some u ∧ ((w.alloc (.cells #[.string ⟨#[111, 116, 104, 101, 114]⟩, .string X] 9)).alloc (.cells #[.string ⟨#[99, 110]⟩, .slice (some ⟨w.heap.size, 0, none⟩) 2 2, .string ⟨#[111, 98, 106, 101, 99, 116, 99, 108, 97, 115, 115]⟩, .slice (some ⟨g - 2, 0, none⟩) 1 1, .string ⟨#[115, 110]⟩, .slice (some ⟨g - 1, 0, none⟩) 1 1] 31)).frozen? ⟨b, 1, none⟩ = false := by
  have hA : Below w.heap.size w ((w.alloc (.cells #[.string ⟨#[111, 116, 104, 101, 114]⟩, .string X] 9)).alloc (.cells #[.string ⟨#[99, 110]⟩, .slice (some ⟨w.heap.size, 0, none⟩) 2 2, .string ⟨#[111, 98, 106, 101, 99, 116, 99, 108, 97, 115, 115]⟩, .slice (some ⟨g - 2, 0, none⟩) 1 1, .string ⟨#[115, 110]⟩, .slice (some ⟨g - 1, 0, none⟩) 1 1] 31)) := ((Below.refl w.heap.size w).alloc (Nat.le_refl _) _).alloc (by simp) _
  exact ⟨(h.below hA hb).cells.2, (h.below hA hb).frozen.2⟩
theorem nam_cell {w : World} {X : ByteArray} {g b c o : Nat} (hc : c < w.heap.size) (hb : c ≠ b) : (namW w X g b).cell? ⟨c, o, none⟩ = w.cell? ⟨c, o, none⟩ := by
  rw [← cell_ne w ⟨b, 1, none⟩ (.slice (some ⟨w.heap.size + 1, 0, none⟩) 3 3) o hb]
  simp only [namW]
  have hz : (w.setCell ⟨b, 1, none⟩ (.slice (some ⟨w.heap.size + 1, 0, none⟩) 3 3)).heap.size = w.heap.size := lt_set
  generalize w.setCell ⟨b, 1, none⟩ (.slice (some ⟨w.heap.size + 1, 0, none⟩) 3 3) = W at hz ⊢
  exact ((((Below.refl W.heap.size W).alloc (Nat.le_refl _) _).alloc (by simp) _).cell (p := ⟨c, o, none⟩) (show c < W.heap.size by omega))
theorem nam_world {w : World} {g b : Nat} {X N D : ByteArray} {s : List UInt8} (hX : X.data.toList = 32 :: 32 :: low (namV s)) (h : PerAt w g N) (hg : g < b) (hb : b < w.heap.size) {u : Value} {c : Nat} (h7 : BoxN w c D u) (hcb : c < b) (h8 : BoxN w b D u) :
    PerAt (namW w X g b) g N ∧ IsA (namW w X g b).heap.size (namW w X g b) (namL s) (.slice (some ⟨w.heap.size + 1, 0, none⟩) 3 3) ∧ (∀ n, n ≤ b → n ≤ w.heap.size → Below n w (namW w X g b)) ∧ BoxN (namW w X g b) c D u ∧ BoxN (namW w X g b) b D (.slice (some ⟨w.heap.size + 1, 0, none⟩) 3 3) := by
  have hp0 : PerAt (w.setCell ⟨b, 1, none⟩ (.slice (some ⟨w.heap.size + 1, 0, none⟩) 3 3)) g N := h.up hg
  have hz : (w.setCell ⟨b, 1, none⟩ (.slice (some ⟨w.heap.size + 1, 0, none⟩) 3 3)).heap.size = w.heap.size := lt_set
  have h70 : BoxN (w.setCell ⟨b, 1, none⟩ (.slice (some ⟨w.heap.size + 1, 0, none⟩) 3 3)) c D u := h7.ne (by omega)
  have h80 : BoxN (w.setCell ⟨b, 1, none⟩ (.slice (some ⟨w.heap.size + 1, 0, none⟩) 3 3)) b D (.slice (some ⟨w.heap.size + 1, 0, none⟩) 3 3) := boxN_set1 h8
  have hbs : ∀ n, n ≤ b → Below n w (w.setCell ⟨b, 1, none⟩ (.slice (some ⟨w.heap.size + 1, 0, none⟩) 3 3)) := fun n hn => (Below.refl n w).setCell (p := ⟨b, 1, none⟩) hn _
  simp only [namW]
  generalize w.setCell ⟨b, 1, none⟩ (.slice (some ⟨w.heap.size + 1, 0, none⟩) 3 3) = W0 at hp0 hz h70 h80 hbs ⊢
  have ha : Below W0.heap.size W0 (W0.alloc (.cells #[.string ⟨#[111, 116, 104, 101, 114]⟩, .string X] 9)) := (Below.refl _ _).alloc (Nat.le_refl _) _
  have hs1 : (W0.alloc (.cells #[.string ⟨#[111, 116, 104, 101, 114]⟩, .string X] 9)).heap.size = w.heap.size + 1 := by simp; omega
  have e1 := heap_alloc_new W0 (.cells #[.string ⟨#[111, 116, 104, 101, 114]⟩, .string X] 9)
  rw [hz] at e1
  generalize W0.alloc (.cells #[.string ⟨#[111, 116, 104, 101, 114]⟩, .string X] 9) = W1 at ha hs1 e1 ⊢
  generalize hO : Obj.cells #[.string ⟨#[99, 110]⟩, .slice (some ⟨w.heap.size, 0, none⟩) 2 2, .string ⟨#[111, 98, 106, 101, 99, 116, 99, 108, 97, 115, 115]⟩, .slice (some ⟨g - 2, 0, none⟩) 1 1, .string ⟨#[115, 110]⟩, .slice (some ⟨g - 1, 0, none⟩) 1 1] 31 = O
  have hb2 : Below W1.heap.size W1 (W1.alloc O) := (Below.refl _ _).alloc (Nat.le_refl _) _
  have f2 := heap_alloc_new W1 O
  rw [hs1] at f2
  have hs2 : (W1.alloc O).heap.size = w.heap.size + 2 := by simp; omega
  have f1 := (hb2.block w.heap.size (by omega)).trans e1
  have hall : Below W0.heap.size W0 (W1.alloc O) := ha.trans (hb2.mono (by omega))
  generalize W1.alloc O = W3 at hs2 f2 f1 hall ⊢
  have hp3 : PerAt W3 g N := hp0.below hall (by omega)
  refine ⟨hp3, ?_, fun n hn hn2 => (hbs n hn).trans (hall.mono (by omega)), h70.below hall (by omega), h80.below hall (by omega)⟩
  subst hO
  have hgl := hp3.lt
  refine ⟨_, _, rfl, by unfold maxLen namL; simp, fun j hj => ?_⟩
  match j, hj with
  | 0, _ =>
    refine ⟨w.heap.size + 1, 0, _, rfl, by omega, by simp only [World.cell?, f2]; rfl, by simp only [World.cell?, f2]; rfl, ⟨_, _, rfl, by unfold maxLen; exact (show 2 ≤ 9223372036854775807 by omega), fun i hi => ⟨w.heap.size, 0, rfl, by omega, ?_⟩⟩⟩
    match i, hi with
    | 0, _ => simp only [World.cell?, f1]; rfl
    | 1, _ =>
      show _ = some (strV (32 :: 32 :: low (namV s)))
      rw [← hX, strV_whole]
      simp only [World.cell?, f1]; rfl
  | 1, _ => exact ⟨w.heap.size + 1, 0, _, rfl, by omega, by simp only [World.cell?, f2]; rfl, by simp only [World.cell?, f2]; rfl, isT_block hp3.b2 (by omega)⟩
  | 2, _ => exact ⟨w.heap.size + 1, 0, _, rfl, by omega, by simp only [World.cell?, f2]; rfl, by simp only [World.cell?, f2]; rfl, isT_block hp3.b3 (by omega)⟩

end Go.Proofs.YtaapdipejpbdeaaGreatDoor

/- SchemaAll: what the document's Check goes through, and that it comes to checkD; no program. -/
namespace Go.Proofs.YtaapdipejpbdeaaGreatDoor
open Go.RowKit
set_option linter.unusedVariables false

/-- The attributes by the one names of their types. -/
def canL (L : List AT) : List AT := L.map fun a => (low a.1, a.2)

theorem hasS_iff {A : List AT} (hne : ∀ a ∈ A, a.2 ≠ []) (t : List UInt8) : hasS A t = true ↔ ∃ a ∈ A, a.1 = t := by
  unfold hasS valsS
  simp only [decide_eq_true_eq]
  cases e : A.find? (fun a => a.1 == t) with
  | none =>
    rw [List.find?_eq_none] at e
    constructor
    · intro h; simp at h
    · rintro ⟨a, ha, rfl⟩; exact absurd (e a ha) (by simp)
  | some a =>
    have h1 := List.mem_of_find?_eq_some e
    have h2 := List.find?_some e
    constructor
    · intro _; exact ⟨a, h1, by simpa using h2⟩
    · intro _; exact List.length_pos_iff.2 (hne a h1)

/-- Behind j of the attributes, which are sound. -/
def SndAt (L : List AT) (j : Nat) : Prop := soundR [] L = soundR (canL (L.take j)) (L.drop j) ∧ ∀ k (h : k < L.length), k < j → ruleD L[k].1 ≠ 0 ∧ L[k].2 ≠ []
theorem snd_zero (L : List AT) : SndAt L 0 := ⟨by simp [canL], fun k _ h => absurd h (by omega)⟩
theorem canon_some {t : List UInt8} (h : ruleD t ≠ 0) : canonD t = some (low t) := by
  cases e : canonD t with
  | none => exact absurd ((canon_rule t).1 e) h
  | some c => rw [(canon_eq e).1]
theorem can_mem {L : List AT} {j : Nat} {a : AT} (h : a ∈ canL (L.take j)) : ∃ k, ∃ hk : k < L.length, k < j ∧ a = (low L[k].1, L[k].2) := by
  unfold canL at h
  obtain ⟨x, hx, rfl⟩ := List.mem_map.1 h
  obtain ⟨i, hi, rfl⟩ := List.mem_take_iff_getElem.1 hx
  exact ⟨i, by omega, by omega, rfl⟩
theorem mem_can {L : List AT} {j k : Nat} (hk : k < L.length) (h : k < j) : (low L[k].1, L[k].2) ∈ canL (L.take j) :=
  List.mem_map.2 ⟨L[k], List.mem_take_iff_getElem.2 ⟨k, by omega, rfl⟩, rfl⟩
theorem snd_ne {L : List AT} {j : Nat} (h : SndAt L j) : ∀ a ∈ canL (L.take j), a.2 ≠ [] := by
  intro a ha
  obtain ⟨k, hk, hj, rfl⟩ := can_mem ha
  exact (h.2 k hk hj).2
theorem snd_rule {L : List AT} {j : Nat} (h : SndAt L j) (hj : j < L.length) (hr : ruleD L[j].1 = 0) : soundR [] L = .error 17 := by
  rw [h.1, List.drop_eq_getElem_cons hj]
  simp only [soundR, (canon_rule _).2 hr]
theorem snd_has {L : List AT} {j : Nat} (h : SndAt L j) (hj : j < L.length) (hr : ruleD L[j].1 ≠ 0) {k : Nat} (hk : k < L.length) (hkj : k < j) (he : low L[k].1 = low L[j].1) : soundR [] L = .error 20 := by
  rw [h.1, List.drop_eq_getElem_cons hj]
  simp only [soundR, canon_some hr]
  rw [if_pos ((hasS_iff (snd_ne h) _).2 ⟨_, mem_can hk hkj, he⟩)]
theorem snd_vals {L : List AT} {j : Nat} (h : SndAt L j) (hj : j < L.length) (hr : ruleD L[j].1 ≠ 0) (hno : ∀ k (hk : k < L.length), k < j → low L[k].1 ≠ low L[j].1) :
    soundR [] L = if valsC (low L[j].1) L[j].2 = 0 then soundR (canL (L.take (j + 1))) (L.drop (j + 1)) else .error (valsC (low L[j].1) L[j].2) := by
  have hf : ¬ hasS (canL (L.take j)) (low L[j].1) = true := fun e => by
    obtain ⟨a, ha, he⟩ := (hasS_iff (snd_ne h) _).1 e
    obtain ⟨k, hk, hkj, rfl⟩ := can_mem ha
    exact hno k hk hkj he
  have ht : canL (L.take (j + 1)) = canL (L.take j) ++ [(low L[j].1, L[j].2)] := by
    unfold canL
    rw [← List.take_append_getElem hj, List.map_append]
    rfl
  rw [h.1, List.drop_eq_getElem_cons hj, ht]
  simp only [soundR, canon_some hr]
  rw [if_neg hf]
theorem snd_bad {L : List AT} {j : Nat} (h : SndAt L j) (hj : j < L.length) (hr : ruleD L[j].1 ≠ 0) (hno : ∀ k (hk : k < L.length), k < j → low L[k].1 ≠ low L[j].1) {c : Int} (hv : valsC (low L[j].1) L[j].2 = c) (hc : c ≠ 0) : soundR [] L = .error c := by
  rw [snd_vals h hj hr hno, hv, if_neg hc]
theorem snd_more {L : List AT} {j : Nat} (h : SndAt L j) (hj : j < L.length) (hr : ruleD L[j].1 ≠ 0) (hno : ∀ k (hk : k < L.length), k < j → low L[k].1 ≠ low L[j].1) (hv : valsC (low L[j].1) L[j].2 = 0) : SndAt L (j + 1) := by
  refine ⟨by rw [snd_vals h hj hr hno, if_pos hv], fun k hk hkj => ?_⟩
  by_cases e : k < j
  · exact h.2 k hk e
  · obtain rfl : k = j := by omega
    refine ⟨hr, fun e2 => ?_⟩
    unfold valsC at hv
    rw [if_pos (.inl (by rw [e2]; rfl))] at hv
    cases hv
theorem snd_end {L : List AT} (h : SndAt L L.length) : soundR [] L = .ok (canL L) := by
  rw [h.1, List.take_length, List.drop_length]
  rfl

theorem rule_two (t : List UInt8) : ruleD t = 2 ↔ low t = [117, 105, 100, 110, 117, 109, 98, 101, 114] := by
  constructor
  · intro h
    unfold ruleD ruleL at h
    cases e : findL (low t) with
    | none => rw [e] at h; cases h
    | some k =>
      rw [e] at h
      simp only at h
      have h1 := findL_len e
      have h2 := List.mem_of_find?_eq_some e
      have hall : (kindsL.all fun k => decide (k.2 = 2 → k.1 = [117, 105, 100, 110, 117, 109, 98, 101, 114])) = true := by decide
      have h3 := List.all_eq_true.1 hall k h2
      simp only [decide_eq_true_eq] at h3
      rw [← h1.1, h3 h]
  · intro h
    unfold ruleD
    rw [h]
    decide
/-- There are too few values, or too many. -/
def cntBad (r n : Nat) : Prop := n = 0 ∨ 40 < n ∨ (r = 2 ∧ 1 < n)
theorem cnt_iff (t : List UInt8) (n : Nat) : (n = 0 ∨ mostS (low t) < (n : Int)) ↔ cntBad (ruleD t) n := by
  unfold mostS cntBad
  by_cases h : ruleD t = 2
  · rw [if_pos ((rule_two t).1 h)]
    omega
  · rw [if_neg (fun e => h ((rule_two t).2 e))]
    omega
theorem vals_many {t : List UInt8} {V : List (List UInt8)} (h : cntBad (ruleD t) V.length) : valsC (low t) V = 19 := by
  unfold valsC
  rw [if_pos ((cnt_iff t _).2 h)]
theorem norms_none {r : Nat} : ∀ {V : List (List UInt8)} (k : Nat) (hk : k < V.length), normD r V[k] = none → normsS r V = none
  | v :: V, 0, _, h => by simp only [normsS]; rw [show normD r v = none from h]
  | v :: V, k + 1, hk, h => by
    simp only [normsS]
    cases normD r v with
    | none => rfl
    | some x => simp only; rw [norms_none k (by simpa using hk) h]; rfl
theorem norms_all {r : Nat} : ∀ {V : List (List UInt8)}, (∀ k (hk : k < V.length), normD r V[k] ≠ none) → ∃ l, normsS r V = some l ∧ l.length = V.length ∧ ∀ k (h : k < V.length) (h' : k < l.length), normD r V[k] = some l[k]
  | [], _ => ⟨[], rfl, rfl, fun k h => absurd h (by simp)⟩
  | v :: V, h => by
    obtain ⟨l, h1, h2, h3⟩ := norms_all (V := V) (fun k hk => h (k + 1) (by simpa using hk))
    have h0 := h 0 (by simp)
    simp only [List.getElem_cons_zero] at h0
    cases e : normD r v with
    | none => exact absurd e h0
    | some x =>
      refine ⟨x :: l, by simp only [normsS]; rw [e, h1]; rfl, by simp [h2], fun k hk hk' => ?_⟩
      cases k with
      | zero => exact e
      | succ k => exact h3 k (by simpa using hk) (by simpa using hk')
theorem vals_no {t : List UInt8} {V : List (List UInt8)} (h : ¬ cntBad (ruleD t) V.length) {k : Nat} (hk : k < V.length) (hn : normD (ruleD t) V[k] = none) : valsC (low t) V = 21 := by
  unfold valsC
  rw [if_neg (fun e => h ((cnt_iff t _).1 e)), ruleD_low, norms_none k hk hn]
theorem vals_dup {t : List UInt8} {V : List (List UInt8)} (h : ¬ cntBad (ruleD t) V.length) (ha : ∀ k (hk : k < V.length), normD (ruleD t) V[k] ≠ none) {j k : Nat} (hk : k < V.length) (hj : j < k) (hs : sameO (normD (ruleD t) V[j]) (normD (ruleD t) V[k]) = true) : valsC (low t) V = 20 := by
  obtain ⟨l, h1, h2, h3⟩ := norms_all ha
  unfold valsC
  rw [if_neg (fun e => h ((cnt_iff t _).1 e)), ruleD_low, h1]
  simp only
  rw [if_neg]
  intro hn
  rw [h3 j (by omega) (by omega), h3 k hk (by omega)] at hs
  have e : l[j] = l[k] := by simpa [sameO] using hs
  exact List.pairwise_iff_getElem.1 hn j k (by omega) (by omega) hj e
theorem vals_ok {t : List UInt8} {V : List (List UInt8)} (h : ¬ cntBad (ruleD t) V.length) (ha : ∀ k (hk : k < V.length), normD (ruleD t) V[k] ≠ none) (hno : ∀ k (hk : k < V.length) j (hj : j < k), sameO (normD (ruleD t) V[j]) (normD (ruleD t) V[k]) = false) : valsC (low t) V = 0 := by
  obtain ⟨l, h1, h2, h3⟩ := norms_all ha
  unfold valsC
  rw [if_neg (fun e => h ((cnt_iff t _).1 e)), ruleD_low, h1]
  simp only
  rw [if_pos]
  refine List.pairwise_iff_getElem.2 fun j k hj hk hjk e => ?_
  have := hno k (by omega) j hjk
  rw [h3 j (by omega) hj, h3 k (by omega) hk] at this
  simp [sameO, e] at this

/-- What the classes must have, and may. -/
def mustA (A : List CT) : List (List UInt8) := A.flatMap CT.mustL
def mayA (A : List CT) : List (List UInt8) := A.flatMap CT.mayL
theorem chainD_mem : ∀ (k : Nat) (n : List UInt8) (c : CT), c ∈ chainC k n → c ∈ classL
  | 0, n, c, h => by simp [chainC] at h
  | k + 1, n, c, h => by
    simp only [chainC] at h
    cases e : findC n with
    | none => rw [e] at h; simp at h
    | some d =>
      rw [e] at h
      rcases List.mem_cons.1 h with rfl | h
      · exact (findC_mem e).1
      · exact chainD_mem k _ c h
theorem all_mem : ∀ {V : List (List UInt8)} {A : List CT} {s : Bool}, allC V = some (A, s) → ∀ c ∈ A, c ∈ classL
  | [], A, s, h, c, hc => by
    simp only [allC, Option.some.injEq, Prod.mk.injEq] at h
    rw [← h.1] at hc
    simp at hc
  | v :: V, A, s, h, c, hc => by
    simp only [allC] at h
    cases e : findC (fold v) with
    | none => rw [e] at h; cases h
    | some d =>
      rw [e] at h
      simp only [Option.map_eq_some_iff] at h
      obtain ⟨p, hp, h⟩ := h
      simp only [Prod.mk.injEq] at h
      rw [← h.1] at hc
      rcases List.mem_append.1 hc with hc | hc
      · exact chainD_mem _ _ c hc
      · exact all_mem (A := p.1) (s := p.2) hp c hc
theorem class_low : ∀ c ∈ classL, ∀ m ∈ c.mustL, low m = m := by
  have : (classL.all fun c => c.mustL.all fun m => decide (low m = m)) = true := by decide +kernel
  intro c hc m hm
  have := List.all_eq_true.1 (List.all_eq_true.1 this c hc) m hm
  simpa using this
theorem must_low {V : List (List UInt8)} {A : List CT} {s : Bool} (h : allC V = some (A, s)) {m : List UInt8} (hm : m ∈ mustA A) : low m = m := by
  obtain ⟨c, hc, hm⟩ := List.mem_flatMap.1 hm
  exact class_low c (all_mem h c hc) m hm

theorem vals_can (L : List AT) (t : List UInt8) : valsS (canL L) (low t) = findA L t := by
  unfold valsS findA canL
  rw [List.find?_map]
  show (match Option.map (fun (a : AT) => (low a.1, a.2)) (List.find? (fun (a : AT) => low a.1 == low t) L) with | some a => a.2 | none => []) = _
  cases List.find? (fun (a : AT) => low a.1 == low t) L <;> rfl
theorem low_obj : low objB = objB := by decide
theorem vals_obj (L : List AT) : valsS (canL L) objB = findA L objB := by rw [← vals_can, low_obj]
theorem can_all {L : List AT} : canL L = canL (L.take L.length) := by rw [List.take_length]
theorem has_can {L : List AT} (h : SndAt L L.length) (m : List UInt8) (hm : low m = m) : hasS (canL L) m = true ↔ ∃ k, ∃ hk : k < L.length, (low L[k].1 == low m) = true := by
  rw [can_all, hasS_iff (snd_ne h)]
  constructor
  · rintro ⟨a, ha, he⟩
    obtain ⟨k, hk, _, rfl⟩ := can_mem ha
    exact ⟨k, hk, by rw [hm]; simpa using he⟩
  · rintro ⟨k, hk, he⟩
    exact ⟨_, mem_can hk hk, by rw [hm] at he; simpa using he⟩

theorem classedD_none {L : List AT} (h : allC (findA L objB) = none) : classedD (canL L) = false := by
  unfold classedD
  rw [vals_obj, h]
theorem classedD_eq {L : List AT} {A : List CT} {s : Bool} (h : allC (findA L objB) = some (A, s)) :
    classedD (canL L) = (s && ((mustA A).all (hasS (canL L)) && L.all fun a => (mustA A).contains (low a.1) || (mayA A).contains (low a.1))) := by
  unfold classedD
  rw [vals_obj, h]
  have e1 : A.all (fun c => c.mustL.all (hasS (canL L))) = (mustA A).all (hasS (canL L)) := by
    unfold mustA
    rw [List.all_flatMap]
  have e2 : (canL L).all (fun a => (mayC A).contains a.1) = L.all fun a => (mustA A).contains (low a.1) || (mayA A).contains (low a.1) := by
    unfold canL
    rw [List.all_map]
    congr 1
    funext a
    show (mayC A).contains (low a.1) = _
    rw [Bool.eq_iff_iff]
    simp only [Bool.or_eq_true, List.contains_iff_mem, mayC, mustA, mayA, List.mem_flatMap, List.mem_append]
    constructor
    · rintro ⟨c, hc, h | h⟩
      · exact .inl ⟨c, hc, h⟩
      · exact .inr ⟨c, hc, h⟩
    · rintro (⟨c, hc, h⟩ | ⟨c, hc, h⟩)
      · exact ⟨c, hc, .inl h⟩
      · exact ⟨c, hc, .inr h⟩
  simp only
  rw [e1, e2]
theorem classedD_must {L : List AT} {A : List CT} {s : Bool} (hs : SndAt L L.length) (h : allC (findA L objB) = some (A, s)) (k : Nat) (hk : k < (mustA A).length) (hno : ∀ j (hj : j < L.length), (low L[j].1 == low (mustA A)[k]) = false) : classedD (canL L) = false := by
  have : hasS (canL L) (mustA A)[k] = false := by
    rw [Bool.eq_false_iff]
    intro e
    obtain ⟨j, hj, e2⟩ := (has_can hs _ (must_low h (List.getElem_mem hk))).1 e
    rw [hno j hj] at e2
    cases e2
  have e : (mustA A).all (hasS (canL L)) = false := by
    rw [List.all_eq_false]
    exact ⟨_, List.getElem_mem hk, by simp [this]⟩
  rw [classedD_eq h, e]
  simp
theorem classedD_may {L : List AT} {A : List CT} {s : Bool} (h : allC (findA L objB) = some (A, s)) (k : Nat) (hk : k < L.length) (h1 : (mustA A).contains (low L[k].1) = false) (h2 : (mayA A).contains (low L[k].1) = false) : classedD (canL L) = false := by
  have e : (L.all fun a => (mustA A).contains (low a.1) || (mayA A).contains (low a.1)) = false := by
    rw [List.all_eq_false]
    exact ⟨_, List.getElem_mem hk, by simp only [h1, h2]; simp⟩
  rw [classedD_eq h, e]
  simp
theorem classedD_st {L : List AT} {A : List CT} {s : Bool} (hs : SndAt L L.length) (h : allC (findA L objB) = some (A, s)) (hm : ∀ k (hk : k < (mustA A).length), ∃ j, ∃ hj : j < L.length, (low L[j].1 == low (mustA A)[k]) = true)
    (ha : ∀ k (hk : k < L.length), (mustA A).contains (low L[k].1) = true ∨ (mayA A).contains (low L[k].1) = true) : classedD (canL L) = s := by
  have e1 : (mustA A).all (hasS (canL L)) = true := by
    rw [List.all_eq_true]
    intro m hmm
    obtain ⟨k, hk, rfl⟩ := List.getElem_of_mem hmm
    exact (has_can hs _ (must_low h hmm)).2 (hm k hk)
  have e2 : (L.all fun a => (mustA A).contains (low a.1) || (mayA A).contains (low a.1)) = true := by
    rw [List.all_eq_true]
    intro a haa
    obtain ⟨k, hk, rfl⟩ := List.getElem_of_mem haa
    rw [Bool.or_eq_true]
    exact ha k hk
  rw [classedD_eq h, e1, e2]
  simp

theorem named_can {L : List AT} (hs : SndAt L L.length) {d : List UInt8} {r : R} {rs : List R} (hp : parseD d = some (r :: rs)) :
    namedD (canL L) d = (findA L r.1).any fun v => sameO (normD (ruleD r.1) v) (normD (ruleD r.1) r.2) := by
  unfold namedD
  rw [hp]
  simp only
  by_cases hr : ruleD r.1 = 0
  · have hf : findA L r.1 = [] := findA_no fun k hk => by
      rw [Bool.eq_false_iff]
      intro e
      have e2 : low L[k].1 = low r.1 := by simpa using e
      apply (hs.2 k hk hk).1
      rw [← ruleD_low, e2, ruleD_low, hr]
    have hv : valsS (canL L) [] = [] := valsS_no fun k hk => by
      have hk' : k < L.length := by simpa [canL] using hk
      intro e
      have e2 : low L[k].1 = [] := by simpa [canL] using e
      apply (hs.2 k hk' hk').1
      unfold ruleD
      rw [e2]
      rfl
    rw [hf, (canon_rule r.1).2 hr]
    simp only [Option.getD_none, hv]
    rfl
  · rw [canon_some hr]
    simp only [Option.getD_some, vals_can, ruleD_low]

theorem key_some {d k : List UInt8} {r : R} {rs : List R} (hp : parseD d = some (r :: rs)) (hk : keyD d = some k) : k ≠ [] := by
  unfold keyD at hk
  rw [hp] at hk
  simp only at hk
  split at hk
  · simp only [Option.some.injEq] at hk
    rw [← hk]
    cases rs with
    | nil => simp [textD, textR]
    | cons x l => simp [textD, textR]
  · cases hk
theorem key_nil {d : List UInt8} (hp : parseD d = some []) : keyD d = some [] := by
  unfold keyD
  rw [hp]
  rfl
theorem key_no {d : List UInt8} (hp : parseD d = none) : keyD d = none := by
  unfold keyD
  rw [hp]
end Go.Proofs.YtaapdipejpbdeaaGreatDoor

/- The document's Among, attr, Vals, Has: the walks. -/
namespace Go.Proofs.YtaapdipejpbdeaaGreatDoor
open Go.RowKit
set_option linter.unusedVariables false

set_option maxRecDepth 100000 in
set_option maxHeartbeats 2000000 in
theorem amongRef_any (L : List (List UInt8)) (v : Value) (T : ByteArray) (w : World) (h : IsT w.heap.size w L v) :
    Calls Tryz.prog 76 #[v, .string T] w fun e w' => e = .returned (.bool (L.contains T.data.toList)) ∧ w = w' := by
  obtain ⟨a, c, rfl, hm, hcell⟩ := h
  unfold maxLen at hm
  have HC := Lib.hid hcell
  obtain ⟨R, hR⟩ : ∃ R, R = L.contains T.data.toList := ⟨_, rfl⟩
  rw [← hR]
  have HRR := Lib.hid hR
  clear hcell hR
  go_enter Tryz.func76, Tryz.ntmps76
  go_wp2
  go_loopw [5] (fun i wr => ∃ j : Nat, j ≤ L.length ∧ i = .int .i64 j ∧ Hid (∀ k (hk : k < L.length), k < j → L[k] ≠ T.data.toList) ∧ w = wr) (fun i wr => L.length - (intOf i).toNat)
  case atStart => exact ⟨0, by omega, rfl, Lib.hid (fun k _ h => absurd h (by omega)), rfl⟩
  case round =>
    obtain ⟨j, hj, rfl, HNo, rfl⟩ := hrel
    by_cases hlt : j < L.length
    · have t1 : decide ((j : Int) < (L.length : Int)) = true := by simp; omega
      have t1' : decide (j < L.length) = true := by simpa using hlt
      obtain ⟨b, off, rfl, hb0, c0⟩ := HC.out j hlt
      obtain ⟨X, hX⟩ : ∃ X : ByteArray, ⟨L[j].toArray⟩ = X := ⟨_, rfl⟩
      have hXl : X.data.toList = L[j] := by rw [← hX]
      have d0 : (w.cell? ⟨b, off + j, none⟩) = some (.string X) := by
        rw [c0, ← hX]; rfl
      by_cases he : X = T
      · have HR : Hid (R = true) := Lib.hid (by rw [HRR.out, List.contains_iff_mem, ← he, hXl]; exact List.getElem_mem _)
        subst he
        clear hX hXl c0 HNo
        go_wp2
        go_ret
        exact ⟨by rw [HR.out]; rfl, rfl⟩
      · have t2 := str_ne he
        have HN : Hid (∀ k (hk : k < L.length), k < j + 1 → L[k] ≠ T.data.toList) := Lib.hid (fun k h1 h3 => by
            by_cases hk : k < j
            · exact HNo.out k h1 hk
            · obtain rfl : k = j := by omega
              rw [← hXl]
              exact fun e => he (bytes_ext e))
        clear he hX hXl c0 HNo
        go_wp2
        go_roundw
        case rel => exact ⟨j + 1, by omega, by go_num, HN, by first | rfl | trivial⟩
        case measure => simp [intOf]; omega
    · obtain rfl : j = L.length := by omega
      have t1 : decide ((L.length : Int) < (L.length : Int)) = false := by simp
      have t1' : decide (L.length < L.length) = false := by simp
      have HR : Hid (R = false) := Lib.hid (by
        rw [HRR.out, Bool.eq_false_iff, Ne, List.contains_iff_mem]
        intro hx
        obtain ⟨k, hk, e⟩ := List.getElem_of_mem hx
        exact HNo.out k hk hk e)
      go_wp2
      go_ret
      exact ⟨by rw [HR.out]; rfl, rfl⟩

/-- I is the place of the first attribute of a type, or below nought. -/
def AttrP (L : List AT) (t : List UInt8) (I : Int) : Prop := (∃ j, ∃ h : j < L.length, I = (j : Int) ∧ (low L[j].1 == low t) = true ∧ ∀ k (hk : k < L.length), k < j → (low L[k].1 == low t) = false) ∨ (I = -1 ∧ ∀ k (hk : k < L.length), (low L[k].1 == low t) = false)
set_option maxRecDepth 100000 in
set_option maxHeartbeats 4000000 in
theorem attrRef_any (D t : ByteArray) (ht : t.size ≤ 281474976710656) (L : List AT) (hs : smallA L) (v : Value) (w : World) (h : IsA w.heap.size w L v) :
    Calls Tryz.prog 47 #[.agg #[.string D, v], .string t] w fun e w' => ∃ I, e = .returned (.int .i64 I) ∧ AttrP L t.data.toList I ∧ Below w.heap.size w w' := by
  obtain ⟨a, c, hv, hm, hcell⟩ := h
  obtain ⟨n, hn⟩ : ∃ n, n = L.length := ⟨_, rfl⟩
  rw [← hn] at hv hm
  subst hv
  unfold maxLen at hm
  have hbx := boxN_new w D (.slice a n c)
  have HN := Lib.hid hn
  have HC := Lib.hid hcell
  have HS := Lib.hid hs
  have HBx := Lib.hid hbx
  have hB0 : Below w.heap.size w (w.alloc (.cells #[.string D, .slice a n c] 25)) := (Below.refl _ _).alloc (Nat.le_refl _) _
  have HB0 := Lib.hid hB0
  have HLt := Lib.hid (fun W => lowerRef_any t W ht)
  obtain ⟨T, hT⟩ : ∃ T, T = lowB t := ⟨_, rfl⟩
  have hTl : T.data.toList = low t.data.toList := by rw [hT, lowB_list]
  rw [← hT] at HLt
  have HTl := Lib.hid hTl
  clear hcell hn hs hbx hB0 hT hTl
  go_enter Tryz.func47, Tryz.ntmps47
  go_wp2
  go_loopw [5] (fun i wr => ∃ j : Nat, j ≤ n ∧ i = .int .i64 j ∧ Hid (∀ k (hk : k < L.length), k < j → (low L[k].1 == low t.data.toList) = false) ∧ Below (w.alloc (.cells #[.string D, .slice a n c] 25)).heap.size (w.alloc (.cells #[.string D, .slice a n c] 25)) wr) (fun i wr => n - (intOf i).toNat)
  case atStart => exact ⟨0, by omega, rfl, Lib.hid (fun k _ h => absurd h (by omega)), Below.refl _ _⟩
  case round =>
    obtain ⟨j, hj, rfl, HNo, hbel⟩ := hrel
    have HBel := Lib.hid (HB0.out.trans (hbel.mono HB0.out.size))
    obtain ⟨x0, x1⟩ := (HBx.out.below hbel (by simp)).cells
    have HBe := Lib.hid hbel
    have hbs := hbel.size
    clear hbel
    by_cases hlt : j < n
    · have t1 : decide ((j : Int) < (n : Int)) = true := by simp; omega
      have t1' : decide (j < n) = true := by simpa using hlt
      have hlL : j < L.length := by rw [← HN.out]; exact hlt
      obtain ⟨b, off, u, rfl, hb0, c0, c1, _⟩ := HC.out j hlL
      obtain ⟨X, hX⟩ : ∃ X : ByteArray, ⟨L[j].1.toArray⟩ = X := ⟨_, rfl⟩
      have hXl : X.data.toList = L[j].1 := by rw [← hX]
      have d0 : (wr.cell? ⟨b, off + j * 2, none⟩) = some (.string X) := by
        rw [HBel.out.cell (p := ⟨b, _, none⟩) hb0, c0, ← hX]; rfl
      have hXs : X.size ≤ 281474976710656 := by
        have := (HS.out.2 L[j] (List.getElem_mem _)).1
        rw [← bytes_len, hXl]; omega
      have HLx := Lib.hid (fun W => lowerRef_any X W hXs)
      obtain ⟨Y, hY⟩ : ∃ Y, Y = lowB X := ⟨_, rfl⟩
      have hYl : Y.data.toList = low L[j].1 := by rw [hY, lowB_list, hXl]
      rw [← hY] at HLx
      by_cases he : Y = T
      · have HR : Hid ((low L[j].1 == low t.data.toList) = true) := Lib.hid (by rw [← hYl, ← HTl.out, he]; simp)
        subst he
        clear hX hXl c0 c1 hY hYl
        go_wp2_with (first
          | (go_at_call 37; ((with_reducible refine (HLx.out _).mono ?_); rintro e w2 ⟨rfl, hb2⟩); have HB2 := Lib.hid (HBel.out.trans (hb2.mono HBel.out.size)); clear hb2)
          | (go_at_call 37; ((with_reducible refine (HLt.out _).mono ?_); rintro e w3 ⟨rfl, hb3⟩); have HB3 := Lib.hid (bthen HB2.out hb3); clear hb3))
        go_ret
        exact ⟨_, rfl, .inl ⟨j, hlL, rfl, HR.out, HNo.out⟩, HB3.out⟩
      · have t2 := str_ne he
        have HN2 : Hid (∀ k (hk : k < L.length), k < j + 1 → (low L[k].1 == low t.data.toList) = false) := Lib.hid (fun k h1 h3 => by
            by_cases hk : k < j
            · exact HNo.out k h1 hk
            · obtain rfl : k = j := by omega
              rw [← hYl, ← HTl.out]
              exact by simpa using fun e => he (bytes_ext e))
        clear he hX hXl c0 c1 hY hYl HNo
        go_wp2_with (first
          | (go_at_call 37; ((with_reducible refine (HLx.out _).mono ?_); rintro e w2 ⟨rfl, hb2⟩); have HB2 := Lib.hid (HBe.out.trans (hb2.mono hbs)); clear hb2)
          | (go_at_call 37; ((with_reducible refine (HLt.out _).mono ?_); rintro e w3 ⟨rfl, hb3⟩); have HB3 := Lib.hid (HB2.out.trans (hb3.mono HB2.out.size)); clear hb3))
        go_roundw
        case rel => exact ⟨j + 1, by omega, by go_num, HN2, HB3.out⟩
        case measure => simp [intOf]; omega
    · obtain rfl : j = n := by omega
      have t1 : decide ((j : Int) < (j : Int)) = false := by simp
      have t1' : decide (j < j) = false := by simp
      go_wp2
      go_ret
      exact ⟨_, rfl, .inr ⟨rfl, fun k hk => HNo.out k hk (by rw [HN.out]; exact hk)⟩, HBel.out⟩

set_option maxRecDepth 100000 in
set_option maxHeartbeats 4000000 in
theorem valsRef_any (D t : ByteArray) (ht : t.size ≤ 281474976710656) (L : List AT) (hs : smallA L) (v : Value) (w : World) (h : IsA w.heap.size w L v) :
    Calls Tryz.prog 20 #[.agg #[.string D, v], .string t] w fun e w' => ∃ u, e = .returned u ∧ IsT w.heap.size w (findA L t.data.toList) u ∧ Below w.heap.size w w' := by
  obtain ⟨a, c, hv, hm, hcell⟩ := id h
  obtain ⟨n, hn⟩ : ∃ n, n = L.length := ⟨_, rfl⟩
  rw [← hn] at hv hm
  subst hv
  unfold maxLen at hm
  have hbx := boxN_new w D (.slice a n c)
  have hB0 : Below w.heap.size w (w.alloc (.cells #[.string D, .slice a n c] 25)) := (Below.refl _ _).alloc (Nat.le_refl _) _
  have HAt := Lib.hid (attrRef_any D t ht L hs (.slice a n c) (w.alloc (.cells #[.string D, .slice a n c] 25)) (h.below hB0 hB0.size))
  have HN := Lib.hid hn
  have HC := Lib.hid hcell
  have HBx := Lib.hid hbx
  have HB0 := Lib.hid hB0
  clear hcell hn hs hbx hB0 h
  go_enter Tryz.func20, Tryz.ntmps20
  go_upto_region 2 with (go_at_call 47; refine (HAt.out).mono ?_; rintro e w2 ⟨I, rfl, hI, hb2⟩; have HI := Lib.hid hI; have HB2 := Lib.hid (HB0.out.trans (hb2.mono HB0.out.size)); (obtain ⟨x0, x1⟩ := (HBx.out.below hb2 (by simp)).cells); clear hI hb2)
  rcases HI.out with ⟨j, hlL, rfl, h1, h2⟩ | ⟨rfl, h2⟩
  · obtain ⟨b, off, u, rfl, hb0, c0, c1, hit⟩ := HC.out j hlL
    have hlt : j < n := by rw [HN.out]; exact hlL
    have t1 : decide ((j : Int) < 0) = false := by simp
    have d1 := (HB2.out.cell (p := ⟨b, off + j * 2 + 1, none⟩) hb0).trans c1
    have HF := Lib.hid (findA_at j hlL h2 h1)
    have HIt := Lib.hid hit
    obtain ⟨ua, uc, hu, _⟩ := id hit
    obtain ⟨un, hun⟩ : ∃ k, k = L[j].2.length := ⟨_, rfl⟩
    rw [← hun] at hu
    subst hu
    clear h1 h2 HI c0 c1 hit hun
    go_wp2
    go_ret
    exact ⟨_, rfl, by rw [HF.out]; exact HIt.out, HB2.out⟩
  · have t1 : decide ((-1 : Int) < 0) = true := by decide
    have HF := Lib.hid (findA_no h2)
    clear h2 HI
    go_wp2
    go_ret
    exact ⟨_, rfl, by rw [HF.out]; exact isT_nil _ _ _ _, HB2.out⟩
end Go.Proofs.YtaapdipejpbdeaaGreatDoor

/- The document's Classes, FindClass: the walks. -/
namespace Go.Proofs.YtaapdipejpbdeaaGreatDoor
open Go.RowKit
set_option linter.unusedVariables false

/-- Blocks that are made one behind the other. -/
def allocs (w : World) (os : List Obj) : World := os.foldl World.alloc w
theorem allocs_old : ∀ (os : List Obj) (w : World) (k : Nat), k < w.heap.size → (allocs w os).heap[k]? = w.heap[k]?
  | [], w, k, _ => rfl
  | o :: os, w, k, h => (allocs_old os (w.alloc o) k (by simp; omega)).trans (heap_alloc_old w o h)
theorem allocs_at : ∀ (os : List Obj) (w : World) (i : Nat) (o : Obj), os[i]? = some o → (allocs w os).heap[w.heap.size + i]? = some o
  | [], w, i, o, h => by simp at h
  | x :: os, w, 0, o, h => by
    have e : x = o := by simpa using h
    subst e
    exact (allocs_old os (w.alloc x) _ (by simp)).trans (heap_alloc_new w x)
  | x :: os, w, i + 1, o, h => by
    have := allocs_at os (w.alloc x) i o (by simpa using h)
    rw [World.size_alloc] at this
    rw [show w.heap.size + (i + 1) = w.heap.size + 1 + i from by omega]
    exact this
theorem allocs_below : ∀ (os : List Obj) (w : World), Below w.heap.size w (allocs w os)
  | [], w => Below.refl _ _
  | o :: os, w => ((Below.refl _ _).alloc (Nat.le_refl _) o).trans ((allocs_below os (w.alloc o)).mono (by simp))
theorem allocs_size : ∀ (os : List Obj) (w : World), (allocs w os).heap.size = w.heap.size + os.length
  | [], w => rfl
  | o :: os, w => by
    show (allocs (w.alloc o) os).heap.size = _
    rw [allocs_size os (w.alloc o), World.size_alloc, List.length_cons]
    omega

abbrev oneT (x : List UInt8) : Obj := .cells #[.string ⟨x.toArray⟩] 9
abbrev twoT (x y : List UInt8) : Obj := .cells #[.string ⟨x.toArray⟩, .string ⟨y.toArray⟩] 9
def desB : List UInt8 := [100, 101, 115, 99, 114, 105, 112, 116, 105, 111, 110]
def clsO (h : Nat) : List Obj := [oneT objB, oneT [111], oneT desB, oneT [111, 117], oneT desB, twoT [99, 110] [115, 110], twoT desB [117, 115, 101, 114, 112, 97, 115, 115, 119, 111, 114, 100], twoT [117, 105, 100] [109, 97, 105, 108], twoT [117, 105, 100] [117, 105, 100, 110, 117, 109, 98, 101, 114], twoT [99, 110] [109, 101, 109, 98, 101, 114], oneT desB,
  .cells #[.string ⟨#[116, 111, 112]⟩, .string ⟨#[]⟩, .bool false, .slice (some ⟨h, 0, none⟩) 1 1, .slice none 0 0,
    .string ⟨#[111, 114, 103, 97, 110, 105, 122, 97, 116, 105, 111, 110]⟩, .string ⟨#[116, 111, 112]⟩, .bool true, .slice (some ⟨h + 1, 0, none⟩) 1 1, .slice (some ⟨h + 2, 0, none⟩) 1 1,
    .string ⟨#[111, 114, 103, 97, 110, 105, 122, 97, 116, 105, 111, 110, 97, 108, 117, 110, 105, 116]⟩, .string ⟨#[116, 111, 112]⟩, .bool true, .slice (some ⟨h + 3, 0, none⟩) 1 1, .slice (some ⟨h + 4, 0, none⟩) 1 1,
    .string ⟨#[112, 101, 114, 115, 111, 110]⟩, .string ⟨#[116, 111, 112]⟩, .bool true, .slice (some ⟨h + 5, 0, none⟩) 2 2, .slice (some ⟨h + 6, 0, none⟩) 2 2,
    .string ⟨#[105, 110, 101, 116, 111, 114, 103, 112, 101, 114, 115, 111, 110]⟩, .string ⟨#[112, 101, 114, 115, 111, 110]⟩, .bool true, .slice none 0 0, .slice (some ⟨h + 7, 0, none⟩) 2 2,
    .string ⟨#[112, 111, 115, 105, 120]⟩, .string ⟨#[116, 111, 112]⟩, .bool false, .slice (some ⟨h + 8, 0, none⟩) 2 2, .slice none 0 0,
    .string ⟨#[103, 114, 111, 117, 112, 111, 102, 110, 97, 109, 101, 115]⟩, .string ⟨#[116, 111, 112]⟩, .bool true, .slice (some ⟨h + 9, 0, none⟩) 2 2, .slice (some ⟨h + 10, 0, none⟩) 1 1] 97]
theorem isTo_one' {ok : Nat → Prop} {w : World} {b : Nat} {x : List UInt8} (h : w.heap[b]? = some (oneT x)) (hn : ok b) : IsTo ok w [x] (.slice (some ⟨b, 0, none⟩) 1 1) :=
  ⟨_, _, rfl, by unfold maxLen; simp, fun j hj => by
    have : j = 0 := by simp at hj; omega
    subst this
    exact ⟨b, 0, rfl, hn, by simp only [World.cell?, h]; rfl⟩⟩
theorem isTo_two' {ok : Nat → Prop} {w : World} {b : Nat} {x y : List UInt8} (h : w.heap[b]? = some (twoT x y)) (hn : ok b) : IsTo ok w [x, y] (.slice (some ⟨b, 0, none⟩) 2 2) :=
  ⟨_, _, rfl, by unfold maxLen; simp, fun j hj => by
    match j, hj with
    | 0, _ => exact ⟨b, 0, rfl, hn, by simp only [World.cell?, h]; rfl⟩
    | 1, _ => exact ⟨b, 0, rfl, hn, by simp only [World.cell?, h]; rfl⟩⟩
theorem isTo_nil' (ok : Nat → Prop) (w : World) : IsTo ok w [] (.slice none 0 0) := ⟨_, _, rfl, Nat.zero_le _, fun j h => absurd h (by simp)⟩

/-- The document's classes, in the block b. -/
def IsKN (B : Nat) (w : World) (b : Nat) : Prop := b < w.heap.size ∧ ∀ j (h : j < classL.length), ∃ u1 u2, w.cell? ⟨b, j * 5, none⟩ = some (strV classL[j].name) ∧ w.cell? ⟨b, j * 5 + 1, none⟩ = some (strV classL[j].sup) ∧ w.cell? ⟨b, j * 5 + 2, none⟩ = some (.bool classL[j].st) ∧
  w.cell? ⟨b, j * 5 + 3, none⟩ = some u1 ∧ w.cell? ⟨b, j * 5 + 4, none⟩ = some u2 ∧ IsTo (New B w) w classL[j].mustL u1 ∧ IsTo (New B w) w classL[j].mayL u2
theorem cls_isK (w : World) : IsKN w.heap.size (allocs w (clsO w.heap.size)) (w.heap.size + 11) := by
  have hs : (allocs w (clsO w.heap.size)).heap.size = w.heap.size + 12 := allocs_size _ w
  have ha := fun i o (h : (clsO w.heap.size)[i]? = some o) => allocs_at (clsO w.heap.size) w i o h
  have b0 := ha 0 _ rfl
  have b1 := ha 1 _ rfl
  have b2 := ha 2 _ rfl
  have b3 := ha 3 _ rfl
  have b4 := ha 4 _ rfl
  have b5 := ha 5 _ rfl
  have b6 := ha 6 _ rfl
  have b7 := ha 7 _ rfl
  have b8 := ha 8 _ rfl
  have b9 := ha 9 _ rfl
  have b10 := ha 10 _ rfl
  have b11 := ha 11 _ rfl
  clear ha
  generalize allocs w (clsO w.heap.size) = W at *
  generalize w.heap.size = h at *
  have hn : ∀ k, k < 12 → New h W (h + k) := fun k hk => ⟨by omega, by omega⟩
  refine ⟨by omega, fun j hj => ?_⟩
  match j, hj with
  | 0, _ => exact ⟨_, _, by simp only [World.cell?, b11]; rfl, by simp only [World.cell?, b11]; rfl, by simp only [World.cell?, b11]; rfl, by simp only [World.cell?, b11]; rfl, by simp only [World.cell?, b11]; rfl, isTo_one' b0 (hn 0 (by omega)), isTo_nil' _ _⟩
  | 1, _ => exact ⟨_, _, by simp only [World.cell?, b11]; rfl, by simp only [World.cell?, b11]; rfl, by simp only [World.cell?, b11]; rfl, by simp only [World.cell?, b11]; rfl, by simp only [World.cell?, b11]; rfl, isTo_one' b1 (hn 1 (by omega)), isTo_one' b2 (hn 2 (by omega))⟩
  | 2, _ => exact ⟨_, _, by simp only [World.cell?, b11]; rfl, by simp only [World.cell?, b11]; rfl, by simp only [World.cell?, b11]; rfl, by simp only [World.cell?, b11]; rfl, by simp only [World.cell?, b11]; rfl, isTo_one' b3 (hn 3 (by omega)), isTo_one' b4 (hn 4 (by omega))⟩
  | 3, _ => exact ⟨_, _, by simp only [World.cell?, b11]; rfl, by simp only [World.cell?, b11]; rfl, by simp only [World.cell?, b11]; rfl, by simp only [World.cell?, b11]; rfl, by simp only [World.cell?, b11]; rfl, isTo_two' b5 (hn 5 (by omega)), isTo_two' b6 (hn 6 (by omega))⟩
  | 4, _ => exact ⟨_, _, by simp only [World.cell?, b11]; rfl, by simp only [World.cell?, b11]; rfl, by simp only [World.cell?, b11]; rfl, by simp only [World.cell?, b11]; rfl, by simp only [World.cell?, b11]; rfl, isTo_nil' _ _, isTo_two' b7 (hn 7 (by omega))⟩
  | 5, _ => exact ⟨_, _, by simp only [World.cell?, b11]; rfl, by simp only [World.cell?, b11]; rfl, by simp only [World.cell?, b11]; rfl, by simp only [World.cell?, b11]; rfl, by simp only [World.cell?, b11]; rfl, isTo_two' b8 (hn 8 (by omega)), isTo_nil' _ _⟩
  | 6, _ => exact ⟨_, _, by simp only [World.cell?, b11]; rfl, by simp only [World.cell?, b11]; rfl, by simp only [World.cell?, b11]; rfl, by simp only [World.cell?, b11]; rfl, by simp only [World.cell?, b11]; rfl, isTo_two' b9 (hn 9 (by omega)), isTo_one' b10 (hn 10 (by omega))⟩

set_option maxRecDepth 100000 in
set_option maxHeartbeats 4000000 in
theorem classesRef_any (w : World) : Calls Tryz.prog 110 #[] w fun e w' => ∃ b, e = .returned (.slice (some ⟨b, 0, none⟩) 7 7) ∧ IsKN w.heap.size w' b ∧ Below w.heap.size w w' := by
  have HK := Lib.hid (cls_isK w)
  have HB := Lib.hid (allocs_below (clsO w.heap.size) w)
  go_enter Tryz.func110, Tryz.ntmps110
  go_wp2
  go_ret
  exact ⟨w.heap.size + 11, rfl, HK.out, HB.out⟩

/-- A class that was found, and that it was. -/
def FndR (w : World) (o : Option CT) (e : Ending) (w' : World) : Prop := Below w.heap.size w w' ∧ match o with
  | none => e = .returned (.agg #[.string ⟨#[]⟩, .string ⟨#[]⟩, .bool false, .slice none 0 0, .slice none 0 0, .bool false])
  | some c => ∃ u1 u2, e = .returned (.agg #[strV c.name, strV c.sup, .bool c.st, u1, u2, .bool true]) ∧ IsTo (New w.heap.size w') w' c.mustL u1 ∧ IsTo (New w.heap.size w') w' c.mayL u2

abbrev set6 (w : World) (b : Nat) (x0 x1 x2 x3 x4 x5 : Value) : World := (set5 w b x0 x1 x2 x3 x4).setCell ⟨b, 5, none⟩ x5
def BoxF (w : World) (b : Nat) (x0 x1 x2 x3 x4 x5 : Value) : Prop := w.heap[b]? = some (.cells #[x0, x1, x2, x3, x4, x5] 104 (0, 0))
theorem BoxF.below {w w' : World} {b n : Nat} {x0 x1 x2 x3 x4 x5 : Value} (h : BoxF w b x0 x1 x2 x3 x4 x5) (hb : Below n w w') (hn : b < n) : BoxF w' b x0 x1 x2 x3 x4 x5 := (hb.block b hn).trans h
theorem BoxF.cells {w : World} {b : Nat} {x0 x1 x2 x3 x4 x5 : Value} (h : BoxF w b x0 x1 x2 x3 x4 x5) : w.cell? ⟨b, 0, none⟩ = some x0 ∧ w.cell? ⟨b, 1, none⟩ = some x1 ∧ w.cell? ⟨b, 2, none⟩ = some x2 ∧ w.cell? ⟨b, 3, none⟩ = some x3 ∧ w.cell? ⟨b, 4, none⟩ = some x4 ∧ w.cell? ⟨b, 5, none⟩ = some x5 := by
  unfold BoxF at h
  simp [World.cell?, h]
theorem BoxF.frozen {w : World} {b : Nat} {x0 x1 x2 x3 x4 x5 : Value} (h : BoxF w b x0 x1 x2 x3 x4 x5) : w.frozen? ⟨b, 0, none⟩ = false ∧ w.frozen? ⟨b, 1, none⟩ = false ∧ w.frozen? ⟨b, 2, none⟩ = false ∧ w.frozen? ⟨b, 3, none⟩ = false ∧ w.frozen? ⟨b, 4, none⟩ = false ∧ w.frozen? ⟨b, 5, none⟩ = false := by
  unfold BoxF at h
  simp [World.frozen?, h]
theorem boxF_new (w : World) (x0 x1 x2 x3 x4 x5 : Value) : BoxF (w.alloc (.cells #[x0, x1, x2, x3, x4, x5] 104)) w.heap.size x0 x1 x2 x3 x4 x5 := heap_alloc_new w _
theorem BoxF.store {w : World} {b : Nat} {x0 x1 x2 x3 x4 x5 : Value} (h : BoxF w b x0 x1 x2 x3 x4 x5) (y0 y1 y2 y3 y4 y5 : Value) : BoxF (set6 w b y0 y1 y2 y3 y4 y5) b y0 y1 y2 y3 y4 y5 := by
  unfold BoxF at h ⊢
  simp [World.setCell, Array.getElem?_modify, h]
theorem set6_cell (w : World) (b : Nat) (x0 x1 x2 x3 x4 x5 : Value) {k : Nat} (o : Nat) (h : k ≠ b) : (set6 w b x0 x1 x2 x3 x4 x5).cell? ⟨k, o, none⟩ = w.cell? ⟨k, o, none⟩ :=
  (cell_ne _ ⟨b, 5, none⟩ x5 o h).trans (set5_cell w b x0 x1 x2 x3 x4 o h)
theorem set6_below {n b : Nat} {w w' : World} (h : Below n w w') (hb : n ≤ b) (x0 x1 x2 x3 x4 x5 : Value) : Below n w (set6 w' b x0 x1 x2 x3 x4 x5) := (set5_below h hb x0 x1 x2 x3 x4).setCell hb _
theorem set6_size (w : World) (b : Nat) (x0 x1 x2 x3 x4 x5 : Value) : (set6 w b x0 x1 x2 x3 x4 x5).heap.size = w.heap.size := by simp [set6, set5, World.setCell]
theorem isTo_set6 {B : Nat} {w : World} {L : List (List UInt8)} {v : Value} (h : IsTo (New B w) w L v) {b : Nat} (hb : b < B) {B' : Nat} (hB : B' ≤ B) (x0 x1 x2 x3 x4 x5 : Value) : IsTo (New B' (set6 w b x0 x1 x2 x3 x4 x5)) (set6 w b x0 x1 x2 x3 x4 x5) L v :=
  h.imp (fun k hk => ⟨Nat.le_trans hB hk.1, by rw [set6_size]; exact hk.2⟩) (fun k o hk => set6_cell w b x0 x1 x2 x3 x4 x5 o (by have := hk.1; omega))

set_option maxRecDepth 100000 in
set_option maxHeartbeats 4000000 in
theorem findClassRef_any (n : ByteArray) (hn : n.size ≤ 281474976710656) (w : World) : Calls Tryz.prog 75 #[.string n] w (FndR w (findC (low n.data.toList))) := by
  obtain ⟨R, hR⟩ : ∃ R, R = findC (low n.data.toList) := ⟨_, rfl⟩
  rw [← hR]
  have HLt := Lib.hid (fun W => lowerRef_any n W hn)
  obtain ⟨T, hT⟩ : ∃ T, T = lowB n := ⟨_, rfl⟩
  have hTl : T.data.toList = low n.data.toList := by rw [hT, lowB_list]
  rw [← hT] at HLt
  rw [← hTl] at hR
  have HR := Lib.hid hR
  obtain ⟨W0, hW0⟩ : ∃ W0, W0 = w.alloc (.cells #[.string ⟨#[]⟩, .string ⟨#[]⟩, .bool false, .slice none 0 0, .slice none 0 0, .bool false] 104) := ⟨_, rfl⟩
  have hB0 : Below w.heap.size w W0 := by rw [hW0]; exact (Below.refl _ _).alloc (Nat.le_refl _) _
  have hbx : BoxF W0 w.heap.size (.string ⟨#[]⟩) (.string ⟨#[]⟩) (.bool false) (.slice none 0 0) (.slice none 0 0) (.bool false) := by rw [hW0]; exact boxF_new _ _ _ _ _ _ _
  have hz0 : W0.heap.size = w.heap.size + 1 := by rw [hW0]; simp
  have HB0 := Lib.hid hB0
  have HBx := Lib.hid hbx
  have HW0 := Lib.hid hW0.symm
  clear hR hW0 hB0 hbx hT hTl
  go_enter Tryz.func75, Tryz.ntmps75
  go_upto_region 1 with (fail)
  rw [HW0.out]
  go_wp2_with (go_at_call 110; refine (classesRef_any _).mono ?_; rintro e w2 ⟨kb, rfl, hk, hb2⟩; have HB2 := Lib.hid hb2; have HK := Lib.hid hk; clear hk hb2)
  go_loopw [4] (fun i wr => ∃ k : Nat, k ≤ 7 ∧ i = .int .i64 k ∧ Hid (∀ i, (h : i < classL.length) → i < k → classL[i].name ≠ T.data.toList) ∧ Below w2.heap.size w2 wr) (fun i _ => 7 - (intOf i).toNat)
  case atStart => exact ⟨0, by omega, rfl, Lib.hid (fun i _ h => absurd h (by omega)), Below.refl _ _⟩
  case round =>
    obtain ⟨k, hk, rfl, HN, hb⟩ := hrel
    have hB0r : Below W0.heap.size W0 wr := HB2.out.trans (hb.mono HB2.out.size)
    have HX := Lib.hid (HBx.out.below hB0r (by omega))
    have HBr := Lib.hid hB0r
    have hsz := hB0r.size
    by_cases hlt : k < 7
    · have t1 : decide ((k : Int) < 7) = true := by simp; omega
      have ti0 : (0 : Int) ≤ (k : Int) := by omega
      have ti1 : (k : Int) < 7 := by omega
      have hkl : k < classL.length := hlt
      have hkb := HK.out.1
      obtain ⟨u1, u2, c0, c1, c2, c3, c4, hu1, hu2⟩ := HK.out.2 k hkl
      obtain ⟨xa, xn, xc, hx1⟩ := isTo_slice hu1
      subst hx1
      obtain ⟨ya, yn, yc, hx2⟩ := isTo_slice hu2
      subst hx2
      obtain ⟨X, hX⟩ : ∃ X : ByteArray, X = ⟨classL[k].name.toArray⟩ := ⟨_, rfl⟩
      obtain ⟨S, hS⟩ : ∃ X : ByteArray, X = ⟨classL[k].sup.toArray⟩ := ⟨_, rfl⟩
      obtain ⟨st, hst⟩ : ∃ b, b = classL[k].st := ⟨_, rfl⟩
      simp only [strV, ← hX, ← hS, ← hst] at c0 c1 c2
      have hn0 : ∀ b o, New W0.heap.size w2 b → wr.cell? ⟨b, o, none⟩ = w2.cell? ⟨b, o, none⟩ := fun b o hq => hb.cell (p := ⟨b, o, none⟩) hq.2
      have hv1 : IsTo (New W0.heap.size wr) wr classL[k].mustL (.slice xa xn xc) := hu1.imp (fun b hq => ⟨hq.1, Nat.lt_of_lt_of_le hq.2 hb.size⟩) hn0
      have hv2 : IsTo (New W0.heap.size wr) wr classL[k].mayL (.slice ya yn yc) := hu2.imp (fun b hq => ⟨hq.1, Nat.lt_of_lt_of_le hq.2 hb.size⟩) hn0
      have d0 := (hb.cell (p := ⟨kb, k * 5, none⟩) hkb).trans c0
      have d1 := (hb.cell (p := ⟨kb, k * 5 + 1, none⟩) hkb).trans c1
      have d2 := (hb.cell (p := ⟨kb, k * 5 + 2, none⟩) hkb).trans c2
      have d3 := (hb.cell (p := ⟨kb, k * 5 + 3, none⟩) hkb).trans c3
      have d4 := (hb.cell (p := ⟨kb, k * 5 + 4, none⟩) hkb).trans c4
      have hkr : kb < wr.heap.size := Nat.lt_of_lt_of_le hkb hb.size
      have HbR := Lib.hid hb
      have HKc : Hid (∀ wx, Below wr.heap.size wr wx → wx.cell? ⟨kb, k * 5, none⟩ = some (.string X) ∧ wx.cell? ⟨kb, k * 5 + 1, none⟩ = some (.string S) ∧ wx.cell? ⟨kb, k * 5 + 2, none⟩ = some (.bool st) ∧ wx.cell? ⟨kb, k * 5 + 3, none⟩ = some (.slice xa xn xc) ∧ wx.cell? ⟨kb, k * 5 + 4, none⟩ = some (.slice ya yn yc)) := Lib.hid (fun wx h => ⟨(h.cell (p := ⟨kb, _, none⟩) hkr).trans d0, (h.cell (p := ⟨kb, _, none⟩) hkr).trans d1, (h.cell (p := ⟨kb, _, none⟩) hkr).trans d2, (h.cell (p := ⟨kb, _, none⟩) hkr).trans d3, (h.cell (p := ⟨kb, _, none⟩) hkr).trans d4⟩)
      have HV1 := Lib.hid hv1
      have HV2 := Lib.hid hv2
      have hst0 : wr.drew.cell? ⟨kb, k * 5, none⟩ = some (.string X) := d0
      clear c0 c1 c2 c3 c4 hu1 hu2 hn0 hv1 hv2 d0 d1 d2 d3 d4 hb hB0r
      by_cases he : X = T
      · have hf : R = some classL[k] := by rw [HR.out]; exact findC_at hkl HN.out (by rw [← he, hX])
        subst he
        subst hf
        have HXX := Lib.hid hX
        have HSS := Lib.hid hS
        have HST := Lib.hid hst
        clear hX hS hst HN HR
        go_upto_region 5 with (fail)
        go_region_held3 (fun w' => w'.cell? ⟨kb, k * 5, none⟩ = some (.string X)) (first | (with_reducible exact hst0) | (with_reducible exact hst3)) (first | (go_at_call 37; ((with_reducible refine (HLt.out _).mono ?_); rintro e w3 ⟨rfl, hb3⟩); have HB3 := Lib.hid ((Below.refl wr.heap.size wr).drew.trans hb3); have hst3 := (HKc.out _ HB3.out).1; clear hb3))
        all_goals
          go_split_ands
          obtain ⟨m0, m1, m2, m3, m4⟩ := HKc.out _ HB3.out
          have HX3 := Lib.hid (HX.out.below HB3.out (by omega))
          obtain ⟨p0, p1, p2, p3, p4, p5⟩ := HX3.out.cells
          obtain ⟨n0, n1, n2, n3, n4, n5⟩ := HX3.out.frozen
          have hz3 := HB3.out.size
          have H1 := Lib.hid (isTo_go HV1.out HB3.out (Nat.le_refl _))
          have H2 := Lib.hid (isTo_go HV2.out HB3.out (Nat.le_refl _))
          go_simp
          go_wp2
          refine bodyPost_ret (v := .agg #[.string X, .string S, .bool st, .slice xa xn xc, .slice ya yn yc, .bool true]) (by
            have hbx := (HX3.out.store (.string X) (.string S) (.bool st) (.slice xa xn xc) (.slice ya yn yc) (.bool true)).cells
            obtain ⟨p0, p1, p2, p3, p4, p5⟩ := hbx
            simp [results, Tryz.results75, go_sem, p0, p1, p2, p3, p4, p5]) rfl ⟨?_, .slice xa xn xc, .slice ya yn yc, ?_, ?_, ?_⟩
          · exact set6_below (HB0.out.trans ((bthen HBr.out HB3.out).mono HB0.out.size)) (Nat.le_refl _) _ _ _ _ _ _
          · rw [HXX.out, HSS.out, HST.out]; rfl
          · exact isTo_set6 H1.out (by omega) (by omega) _ _ _ _ _ _
          · exact isTo_set6 H2.out (by omega) (by omega) _ _ _ _ _ _
      · have hne : classL[k].name ≠ T.data.toList := fun e => he (by rw [hX, e])
        have HN2 := Lib.hid (fun i (h : i < classL.length) (hi : i < k + 1) => (show classL[i].name ≠ T.data.toList from if e : i = k then by subst e; exact hne else HN.out i h (by omega)))
        have t2 := str_ne he
        clear hne hX hS hst HN HR
        go_upto_region 5 with (fail)
        go_region_held3 (fun w' => w'.cell? ⟨kb, k * 5, none⟩ = some (.string X)) (first | (with_reducible exact hst0) | (with_reducible exact hst3)) (first | (go_at_call 37; ((with_reducible refine (HLt.out _).mono ?_); rintro e w3 ⟨rfl, hb3⟩); have HB3 := Lib.hid ((Below.refl wr.heap.size wr).drew.trans hb3); have hst3 := (HKc.out _ HB3.out).1; clear hb3))
        all_goals
          go_split_ands
          go_simp
          go_wp2
          go_roundw
          case rel => exact ⟨k + 1, by omega, by go_num, HN2, HbR.out.trans (HB3.out.mono HbR.out.size)⟩
          case measure => simp [intOf]; omega
    · obtain rfl : k = 7 := by omega
      have hf : R = none := by rw [HR.out]; exact findC_no (fun i h => HN.out i h (by simpa [classL] using h))
      subst hf
      obtain ⟨m0, m1, m2, m3, m4, m5⟩ := HX.out.cells
      obtain ⟨n0, n1, n2, n3, n4, n5⟩ := HX.out.frozen
      clear HN HR
      go_wp2
      refine bodyPost_ret (v := .agg #[.string ⟨#[]⟩, .string ⟨#[]⟩, .bool false, .slice none 0 0, .slice none 0 0, .bool false]) (by
        have hbx := (HX.out.store (.string ⟨#[]⟩) (.string ⟨#[]⟩) (.bool false) (.slice none 0 0) (.slice none 0 0) (.bool false)).cells
        obtain ⟨p0, p1, p2, p3, p4, p5⟩ := hbx
        simp [results, Tryz.results75, go_sem, p0, p1, p2, p3, p4, p5]) rfl ⟨?_, rfl⟩
      exact set6_below (HB0.out.trans (HBr.out.mono HB0.out.size)) (Nat.le_refl _) _ _ _ _ _ _
end Go.Proofs.YtaapdipejpbdeaaGreatDoor

/- The document's classes: what its loops hold. -/
namespace Go.Proofs.YtaapdipejpbdeaaGreatDoor
open Go.RowKit
set_option linter.unusedVariables false

/-- 'append(l, x...)' of texts onto a row of the call's own. -/
theorem run_append_T {B : Nat} {w : World} {v : Value} {L : List (List UInt8)} (hown : OwnS B w v L) (hB : B ≤ w.heap.size) {ok : Nat → Prop} {u : Value} {M : List (List UInt8)} (hu : IsTo ok w M u) (hlen : L.length + M.length ≤ 100000) (ty : TypeId) :
    ∃ v' w', (Builtin.append_ #[29, 29] ty #[v, u]).run Tryz.prog w = .ok v' w' ∧ OwnS B w' v' (L ++ M) ∧ w.grownBy w' v.ownBlock ∧ (v'.ownBlock = v.ownBlock ∨ v'.ownBlock = some w.heap.size) ∧ Below B w w' := by
  obtain ⟨i0, hi, hz0, hz1, hz2⟩ := info_parts infoS
  obtain ⟨a, c, rfl, hm, hc⟩ := hu
  cases a with
  | none =>
    have hM : M = [] := by
      cases M with
      | nil => rfl
      | cons x l => obtain ⟨b, off, e, _⟩ := hc 0 (by simp); cases e
    subst hM
    refine ⟨v, w, ?_, by rw [List.append_nil]; exact hown, ⟨rfl, rfl, rfl, Nat.le_refl _, fun _ _ _ => rfl⟩, .inl rfl, Below.refl _ _⟩
    rcases hown.2 with ⟨rfl, hz⟩ | ⟨g, cap, cur, rfl, _, hg, hnc, _⟩
    · simp [Builtin.append_, run_underlying Tryz.underlying29, sizeOf, typeInfo, hi, Builtin.lenOf, Builtin.firstCells]
    · exact run_append_room_src (P := Tryz.prog) w 29 29 ty 9 i0 Tryz.underlying29 hi g 0 L.length cap (.slice none 0 c) 0 [] (Src.ofNil w Tryz.underlying29 c) hnc (fun j h => absurd h (by simp)) (fun j h => absurd h (by simp))
  | some ad =>
    have hcl : ∀ j x, (M.map strV)[j]? = some x → w.cell? (ad.add j) = some x := by
      intro j x hx
      have hj : j < M.length := by
        rcases Nat.lt_or_ge j M.length with h | h
        · exact h
        · rw [List.getElem?_eq_none (by simpa using h)] at hx; cases hx
      obtain ⟨b, off, e, _, h0⟩ := hc j hj
      simp only [Option.some.injEq] at e
      subst e
      have hadd : (⟨b, off, none⟩ : Addr).add j = ⟨b, off + j, none⟩ := by simp [Addr.add]
      rw [hadd, h0]
      simpa [hj] using hx
    obtain ⟨v', w', hrun, hown', hgrow, _, hat⟩ := run_append_own_at (P := Tryz.prog) w B 29 ty 9 i0 (.string ⟨#[]⟩) 1 16 Tryz.underlying29 hi hz0 hz1 hz2 rfl (by decide) v L.length (L.map strV) hown ad M.length c (M.map strV) (by simp) hcl (by intro u hu; obtain ⟨x, _, rfl⟩ := List.mem_map.1 hu; rfl) (by unfold maxLen; omega) (by omega) hB
    refine ⟨v', w', hrun, ?_, hgrow, hat, (Below.refl B w).grown hgrow hB (fun k e => (World.ownsRow.lt hown k e).1)⟩
    unfold OwnS
    rw [List.length_append, List.map_append]
    exact hown'
theorem wpList_append_T {ops : Array Oper} {rest : List Oper} {o : Oper} {a : Act} {w : World} {Q : Exit → Act → World → Prop} (hgd : o.guard = none) (sl x : Operand)
    (ho : o.op = .call { callee := .builtin .append, args := #[sl, x], argTypes := #[29, 29] })
    (B : Nat) (v u : Value) (L M : List (List UInt8)) (ok : Nat → Prop) (hs : a.eval sl = v) (hx : a.eval x = u) (hown : OwnS B w v L) (hu : IsTo ok w M u) (hlen : L.length + M.length ≤ 100000) (hB : B ≤ w.heap.size)
    (h : ∀ v' w', OwnS B w' v' (L ++ M) → w.grownBy w' v.ownBlock → (v'.ownBlock = v.ownBlock ∨ v'.ownBlock = some w.heap.size) → Below B w w' → wpList Tryz.prog ops Q rest (a.put o.dst v') w') : wpList Tryz.prog ops Q (o :: rest) a w := by
  obtain ⟨v', w', hrun, h1, h2, h3, h4⟩ := run_append_T hown hB hu hlen o.type
  exact Lib.wpList_append_run w hgd sl x _ _ ho v u hs hx v' w' hrun (h v' w' h1 h2 h3 h4)

theorem ownS_lt {B : Nat} {w : World} {v : Value} {L : List (List UInt8)} (h : OwnS B w v L) {k : Nat} (e : v.ownBlock = some k) : B ≤ k ∧ k < w.heap.size := World.ownsRow.lt h k e
theorem ownS_grown {B : Nat} {w w' : World} {v : Value} {L : List (List UInt8)} {row : Option Nat} (h : OwnS B w v L) (hg : w.grownBy w' row) (hne : ∀ k, row = some k → v.ownBlock ≠ some k) : OwnS B w' v L := by
  refine World.ownsRow.kept h hg ?_
  cases e : v.ownBlock with
  | none => exact .inl rfl
  | some k =>
    right
    intro he
    exact hne k he.symm e
theorem ownS_set6 {B g : Nat} {w : World} {v : Value} {L : List (List UInt8)} (h : OwnS B w v L) (hne : v.ownBlock ≠ some g) (x0 x1 x2 x3 x4 x5 : Value) : OwnS B (set6 w g x0 x1 x2 x3 x4 x5) v L := by
  have hb := set6_below (Below.refl 0 w) (Nat.zero_le g) x0 x1 x2 x3 x4 x5
  refine ownS_grown h (row := some g) ⟨hb.os, hb.tape, hb.output, hb.size, fun k hk hn => ?_⟩ (fun k e => by cases e; exact hne)
  have hkg : k ≠ g := fun e => hn (by rw [e])
  exact (block_ne _ ⟨g, 5, none⟩ x5 hkg).trans (set5_block w g x0 x1 x2 x3 x4 hkg)

/-- A block that is neither of the two rows nor g. -/
abbrev Ap (w : World) (mu ma : Value) (g b : Nat) : Prop := b < w.heap.size ∧ mu.ownBlock ≠ some b ∧ ma.ownBlock ≠ some b ∧ b ≠ g
/-- The two lists: each in a row of its own. -/
structure TwoS (B : Nat) (w : World) (mu ma : Value) (A : List CT) : Prop where
  om : OwnS B w mu (mustA A)
  oa : OwnS B w ma (mayA A)
  ap : ∀ k, mu.ownBlock = some k → ma.ownBlock ≠ some k
theorem TwoS.below {B : Nat} {w w' : World} {mu ma : Value} {A : List CT} (h : TwoS B w mu ma A) (hb : Below w.heap.size w w') : TwoS B w' mu ma A := ⟨ownS_below h.om hb, ownS_below h.oa hb, h.ap⟩
theorem twoS_nil (B : Nat) (w : World) : TwoS B w (.slice none 0 0) (.slice none 0 0) [] := ⟨ownS_nil _ _, ownS_nil _ _, fun k h => by cases h⟩
def ClsB (w : World) (mu ma : Value) (g : Nat) (o : Option CT) : Prop := ∃ x0 x1 x2 u1 u2, BoxF w g x0 x1 x2 u1 u2 (.bool o.isSome) ∧ match o with
  | none => True
  | some c => c ∈ classL ∧ x0 = strV c.name ∧ x1 = strV c.sup ∧ x2 = .bool c.st ∧ IsTo (Ap w mu ma g) w c.mustL u1 ∧ IsTo (Ap w mu ma g) w c.mayL u2
structure OneC (B g : Nat) (w : World) (mu ma : Value) (A : List CT) (o : Option CT) : Prop where
  two : TwoS B w mu ma A
  gB : B ≤ g
  gl : g < w.heap.size
  gm : mu.ownBlock ≠ some g
  ga : ma.ownBlock ≠ some g
  cls : ClsB w mu ma g o

theorem must_more (A : List CT) (d : CT) : mustA (A ++ [d]) = mustA A ++ d.mustL := by simp [mustA]
theorem may_more (A : List CT) (d : CT) : mayA (A ++ [d]) = mayA A ++ d.mayL := by simp [mayA]
theorem cls_len : ∀ c ∈ classL, c.mustL.length ≤ 2 ∧ c.mayL.length ≤ 2 := by
  have : (classL.all fun c => decide (c.mustL.length ≤ 2 ∧ c.mayL.length ≤ 2)) = true := by decide +kernel
  intro c hc
  simpa using List.all_eq_true.1 this c hc
theorem cls_sup : ∀ c ∈ classL, low c.sup = c.sup := by
  have : (classL.all fun c => decide (low c.sup = c.sup)) = true := by decide +kernel
  intro c hc
  simpa using List.all_eq_true.1 this c hc
theorem two_len : ∀ {A : List CT}, (∀ c ∈ A, c ∈ classL) → (mustA A).length ≤ 2 * A.length ∧ (mayA A).length ≤ 2 * A.length
  | [], _ => ⟨Nat.le_refl _, Nat.le_refl _⟩
  | c :: A, h => by
    have h1 := cls_len c (h c (by simp))
    have h2 := two_len (A := A) (fun d hd => h d (by simp [hd]))
    have e1 : mustA (c :: A) = c.mustL ++ mustA A := rfl
    have e2 : mayA (c :: A) = c.mayL ++ mayA A := rfl
    rw [e1, e2, List.length_append, List.length_append, List.length_cons]
    omega
theorem fsteps_low : ∀ (l : List UInt8) (st : List UInt8 × Bool), low st.1 = st.1 → low (l.foldl fstep st).1 = (l.foldl fstep st).1
  | [], st, h => h
  | c :: l, st, h => by
    refine fsteps_low l (fstep st c) ?_
    by_cases hc : c.toNat = 32
    · rw [fstep_blank st c hc]; exact h
    · rw [fstep_other st c hc]
      simp only [low_append, h]
      congr 1
      · congr 1
        split <;> rfl
      · show [lowC (lowC c)] = _
        rw [lowC_low]
theorem low_fold_eq (v : List UInt8) : low (fold v) = fold v := fsteps_low v _ rfl
theorem findA_small {L : List AT} (hs : smallA L) (t : List UInt8) : smallT (findA L t) := by
  unfold findA
  cases e : L.find? (fun a => low a.1 == low t) with
  | none => exact ⟨by simp, fun s h => by simp at h⟩
  | some a => exact (hs.2 a (List.mem_of_find?_eq_some e)).2
end Go.Proofs.YtaapdipejpbdeaaGreatDoor

/- brooklaw4.turned: the walk. -/
namespace Go.Proofs.YtaapdipejpbdeaaGreatDoor
open Go.RowKit
set_option linter.unusedVariables false

theorem take_cons_drop {α : Type} (l : List α) (j : Nat) (h : j < l.length) : l = l.take j ++ l[j] :: l.drop (j + 1) := by
  conv => lhs; rw [← List.take_append_drop j l, List.drop_eq_getElem_cons h]

/-- In the midst of turned: the entry in the block hb, the answer's block rb, the attributes in a row of the call's own in the block g. -/
structure TuIn (B : Nat) (w0 W : World) (hb rb : Nat) (D : ByteArray) (u0 : Value) (s : Value) (P : List PT) (L : List AT) : Prop where
  box : BoxN W hb D u0
  out : BoxN W rb ⟨#[]⟩ (.slice none 0 0)
  row : RowP B W s P
  says : SaysM W P L
  bel : Below B w0 W
  lo : B ≤ hb
  lor : B ≤ rb
theorem TuIn.go {B : Nat} {w0 W W' : World} {hb rb : Nat} {D : ByteArray} {u0 s : Value} {P : List PT} {L : List AT} (h : TuIn B w0 W hb rb D u0 s P L) (h0 : B ≤ W.heap.size) (hq : Below W.heap.size W W') : TuIn B w0 W' hb rb D u0 s P L :=
  ⟨h.box.below hq (Array.getElem?_eq_some_iff.1 h.box).1, h.out.below hq (Array.getElem?_eq_some_iff.1 h.out).1, rowP_below h.row hq, saysM_below h.says hq, h.bel.trans (hq.mono h0), h.lo, h.lor⟩
/-- What comes of each case. -/
def TuOut (B k m hb rb : Nat) (u0 : Value) (w0 W : World) (s : Value) : Prop := ∃ D P L, TuIn B w0 W hb rb D u0 s P L ∧ D.size ≤ m + 6 ∧ tinyA (k + 1) L
theorem tu_setT {B k m hb rb g n cap j : Nat} {w0 W : World} {D : ByteArray} {u0 : Value} {P : List PT} {L : List AT} (h : TuIn B w0 W hb rb D u0 (.slice (some ⟨g, 0, none⟩) n cap) P L) (hj : j < L.length) (X : ByteArray) (hX : X.size ≤ 1000) (hB : B ≤ g) (hD : D.size ≤ m) (ht : tinyA k L) :
    TuOut B k m hb rb u0 w0 (W.setCell ⟨g, j * 2, none⟩ (.string X)) (.slice (some ⟨g, 0, none⟩) n cap) := by
  obtain ⟨h1, h2, _, _, cs, hc⟩ := rowP_setT hj (by rw [h.says.1]; exact hj) X h.row h.says
  exact ⟨D, _, _, ⟨boxN_set h.box hc, boxN_set h.out hc, h1, h2, h.bel.setCell (p := ⟨g, j * 2, none⟩) hB _, h.lo, h.lor⟩, by omega, (ht.mono (Nat.le_succ k)).set (by rw [bytes_len]; exact hX) ((ht.at hj).2.mono (Nat.le_succ k))⟩
theorem tu_setV {B k m hb rb g n cap j : Nat} {w0 W : World} {D : ByteArray} {u0 : Value} {P : List PT} {L : List AT} (h : TuIn B w0 W hb rb D u0 (.slice (some ⟨g, 0, none⟩) n cap) P L) (hj : j < L.length) {A : List (List UInt8)} {x : Value} (hu : IsTo (StrB W) W A x) (hA : tinyT (k + 1) A) (hB : B ≤ g) (hD : D.size ≤ m) (ht : tinyA k L) :
    TuOut B k m hb rb u0 w0 (W.setCell ⟨g, j * 2 + 1, none⟩ x) (.slice (some ⟨g, 0, none⟩) n cap) := by
  obtain ⟨h1, h2, _, _, ⟨cs, hc⟩, _⟩ := rowP_set hj (by rw [h.says.1]; exact hj) h.row h.says hu
  exact ⟨D, _, _, ⟨boxN_set h.box hc, boxN_set h.out hc, h1, h2, h.bel.setCell (p := ⟨g, j * 2 + 1, none⟩) hB _, h.lo, h.lor⟩, by omega, (ht.mono (Nat.le_succ k)).set ((ht.at hj).1) hA⟩
theorem tu_cells {B hb rb g n cap j m : Nat} {w0 W : World} {D : ByteArray} {u0 : Value} {P : List PT} {L : List AT} {A : List (List UInt8)} (h : TuIn B w0 W hb rb D u0 (.slice (some ⟨g, 0, none⟩) n cap) P L) (hj : j < L.length) (hA : L[j].2 = A) (hm : A.length = m) :
    ∃ T a c, W.cell? ⟨g, j * 2, none⟩ = some (.string T) ∧ W.cell? ⟨g, j * 2 + 1, none⟩ = some (.slice a m c) ∧ W.frozen? ⟨g, j * 2, none⟩ = false ∧ W.frozen? ⟨g, j * 2 + 1, none⟩ = false ∧ IsTo (StrB W) W A (.slice a m c) ∧ T.data.toList = L[j].1 ∧ B ≤ g := by
  subst hA
  subst hm
  have hjP : j < P.length := by rw [h.says.1]; exact hj
  obtain ⟨e1, e2⟩ := h.says.2 j hj hjP
  obtain ⟨_, _, c1, f1, _⟩ := rowP_setT hj hjP ⟨#[]⟩ h.row h.says
  obtain ⟨_, _, c2, f2, _, hB, hn⟩ := rowP_set hj hjP h.row h.says e2
  obtain ⟨a, c, hv, hm, hcell⟩ := id e2
  refine ⟨ofL P[j].1, a, c, ?_, ?_, f1, f2, ?_, ?_, hB⟩
  · rw [c1]
    conv => lhs; rw [← ofL_list P[j].1]
    rw [strV_whole]
  · rw [c2, hv]
  · rw [← hv]; exact e2
  · rw [ofL_list, e1]

/-- What holds of the values of turned's region 10. -/
def FDup (n0 g j : Nat) (V : Value) (vb vo : Nat) (A : List (List UInt8)) (x : List UInt8) (p q : Bool) (i : Nat) (v : Value) (w : World) : Prop := match i with
  | 0 => v = .pointer (some ⟨g, j * 2, none⟩)
  | 1 => p = true ∨ ∃ b, v = .slice (some ⟨b, 0, none⟩) 0 0 ∧ n0 ≤ b ∧ w.heap[b]? = some (.cells #[] 9 (0, 0))
  | 2 => v = .pointer (some ⟨g, j * 2, none⟩)
  | 3 => v = .pointer (some ⟨g, j * 2, none⟩)
  | 4 => v = .pointer (some ⟨g, j * 2 + 1, none⟩)
  | 5 => v = V
  | 6 => q = true ∨ OwnS n0 w v A
  | 7 => v = .pointer (some ⟨g, j * 2, none⟩)
  | 8 => v = .pointer (some ⟨g, j * 2, none⟩)
  | 9 => v = .pointer (some ⟨g, j * 2 + 1, none⟩)
  | 10 => v = V
  | 11 => v = .pointer (some ⟨vb, vo, none⟩)
  | 12 => v = strV x
  | 13 => q = true ∨ ∃ c, v = .slice (some ⟨c, 0, none⟩) 1 1 ∧ w.heap[c]? = some (.cells #[strV x] 9 (0, 0))
  | 14 => q = true ∧ OwnS n0 w v (A ++ [x])
  | 15 => v = .pointer (some ⟨g, j * 2, none⟩)
  | 16 => v = .pointer (some ⟨g, j * 2 + 1, none⟩)
  | _ => True
theorem FDup.go {n0 g j vb vo : Nat} {V : Value} {A : List (List UInt8)} {x : List UInt8} {p q : Bool} {i : Nat} {v : Value} {w w' : World} (h : FDup n0 g j V vb vo A x p q i v w) (hb : Below w.heap.size w w') : FDup n0 g j V vb vo A x p q i v w' := by
  have hk : ∀ {b : Nat} {o : Obj}, w.heap[b]? = some o → w'.heap[b]? = some o := fun e => (hb.block _ (Array.getElem?_eq_some_iff.1 e).1).trans e
  match i, h with
  | 0, h => exact h
  | 1, h => exact h.imp id fun ⟨b, e, hn, hc⟩ => ⟨b, e, hn, hk hc⟩
  | 2, h => exact h
  | 3, h => exact h
  | 4, h => exact h
  | 5, h => exact h
  | 6, h => exact h.imp id fun e => ownS_below e hb
  | 7, h => exact h
  | 8, h => exact h
  | 9, h => exact h
  | 10, h => exact h
  | 11, h => exact h
  | 12, h => exact h
  | 13, h => exact h.imp id fun ⟨c, e, hc⟩ => ⟨c, e, hk hc⟩
  | 14, h => exact ⟨h.1, ownS_below h.2 hb⟩
  | 15, h => exact h
  | 16, h => exact h
  | _ + 17, h => exact trivial
theorem FDup.loud1 {n0 g j vb vo : Nat} {V : Value} {A : List (List UInt8)} {x : List UInt8} {i : Nat} {v : Value} {w w' : World} (h : FDup n0 g j V vb vo A x false false i v w) (hi : i ≠ 6)
    (hk : ∀ (b : Nat) (cs : Array Value), w.heap[b]? = some (.cells cs 9 (0, 0)) → 0 < cs.size → w'.heap[b]? = w.heap[b]?) : FDup n0 g j V vb vo A x true false i v w' := by
  match i, h, hi with
  | 0, h, _ => exact h
  | 1, h, _ => exact .inl rfl
  | 2, h, _ => exact h
  | 3, h, _ => exact h
  | 4, h, _ => exact h
  | 5, h, _ => exact h
  | 6, h, hi => exact absurd rfl hi
  | 7, h, _ => exact h
  | 8, h, _ => exact h
  | 9, h, _ => exact h
  | 10, h, _ => exact h
  | 11, h, _ => exact h
  | 12, h, _ => exact h
  | 13, h, _ => exact h.imp id fun ⟨c, e, hc⟩ => ⟨c, e, (hk _ _ hc (by simp)).trans hc⟩
  | 14, h, _ => cases h.1
  | 15, h, _ => exact h
  | 16, h, _ => exact h
  | _ + 17, h, _ => exact trivial
theorem FDup.loud2 {n0 g j vb vo : Nat} {V : Value} {A : List (List UInt8)} {x : List UInt8} {i : Nat} {v : Value} {w w' : World} (h : FDup n0 g j V vb vo A x true false i v w) : FDup n0 g j V vb vo A x true true i v w' := by
  match i, h with
  | 0, h => exact h
  | 1, h => exact .inl rfl
  | 2, h => exact h
  | 3, h => exact h
  | 4, h => exact h
  | 5, h => exact h
  | 6, h => exact .inl rfl
  | 7, h => exact h
  | 8, h => exact h
  | 9, h => exact h
  | 10, h => exact h
  | 11, h => exact h
  | 12, h => exact h
  | 13, h => exact .inl rfl
  | 14, h => cases h.1
  | 15, h => exact h
  | 16, h => exact h
  | _ + 17, h => exact trivial
theorem grow_other {b : Nat} {w w' : World} {v : Value} (h : v = .slice (some ⟨b, 0, none⟩) 0 0) (hb : w.heap[b]? = some (.cells #[] 9 (0, 0))) (hg : w.grownBy w' v.ownBlock) :
    ∀ (k : Nat) (cs : Array Value), w.heap[k]? = some (.cells cs 9 (0, 0)) → 0 < cs.size → w'.heap[k]? = w.heap[k]? := by
  intro k cs hk hs
  refine hg.block k (Array.getElem?_eq_some_iff.1 hk).1 fun e => ?_
  rw [h] at e
  have : k = b := by simpa [Value.ownBlock] using e
  subst this
  rw [hb] at hk
  cases hk
  simp at hs
theorem ownS_empty {B b : Nat} {w : World} (hb : w.heap[b]? = some (.cells #[] 9 (0, 0))) (hB : B ≤ b) : OwnS B w (.slice (some ⟨b, 0, none⟩) 0 0) [] :=
  ⟨rfl, .inr ⟨b, 0, #[], rfl, hB, hb, Nat.le_refl _, Nat.zero_le _, rfl, rfl⟩⟩
theorem ownS_lit {B b : Nat} {w : World} {x : List UInt8} (hb : w.heap[b]? = some (.cells #[strV x] 9 (0, 0))) (hB : B ≤ b) : OwnS B w (.slice (some ⟨b, 0, none⟩) 1 1) [x] :=
  ⟨rfl, .inr ⟨b, 1, #[strV x], rfl, hB, hb, Nat.le_refl _, by unfold maxLen; omega, rfl, rfl⟩⟩
/-- What turned tells. -/
def TurnedTo (B k m : Nat) (w : World) (e : Ending) (w' : World) : Prop := ∃ D u L, e = .returned (.agg #[.string D, u]) ∧ OwnM B w' u L ∧ Below B w w' ∧ D.size ≤ m + 6 ∧ tinyA (k + 1) L

set_option maxRecDepth 100000 in
set_option maxHeartbeats 8000000 in
theorem turned_any (k : Nat) (hk1 : 1 ≤ k) (hk : k ≤ 900) (D : ByteArray) (hD : D.size ≤ 100000) (L : List AT) (u : Value) (how which : Nat) (hho : how ≤ 1000) (hwh : which ≤ 1000) (w : World) (hown : OwnM 0 w u L) (hL : 0 < L.length) (ht : tinyA k L) (hne : ∀ a ∈ L, a.2 ≠ []) :
    Calls Tryz.prog 8 #[.agg #[.string D, u], .int .i64 how, .int .i64 which] w (TurnedTo w.heap.size k D.size w) := by
  obtain ⟨gs, cs, rfl⟩ := ownM_form hown hL
  obtain ⟨P0, hr0, hs0⟩ := hown
  have hcells0 := (rowP_at hr0 (fun e => by have := hs0.1; rw [e] at this; simp at this; omega))
  obtain ⟨n, hn⟩ : ∃ n, n = L.length := ⟨_, rfl⟩
  have hLk := ht.1
  rw [← hn] at hLk hr0 hcells0 ⊢
  obtain ⟨j, hj⟩ : ∃ j, j = which % n := ⟨_, rfl⟩
  have hn0 : 0 < n := by omega
  have hjn : j < n := by rw [hj]; exact Nat.mod_lt _ hn0
  have hmj : (which : Int) % (n : Int) = (j : Int) := by rw [hj]; simp
  obtain ⟨z, hz⟩ : ∃ z : Int, (how : Int) % 12 = z := ⟨_, rfl⟩
  have hz12 : 0 ≤ z ∧ z < 12 := by omega
  have HZ := Lib.hid hz12
  obtain ⟨W1, hW1⟩ : ∃ W, W = (w.alloc (.cells #[.string D, .slice (some ⟨gs, 0, none⟩) n cs] 25)).alloc (.cells #[.string ⟨#[]⟩, .slice none 0 0] 25) := ⟨_, rfl⟩
  have hb1 : Below w.heap.size w W1 := by rw [hW1]; exact ((Below.refl _ _).alloc (Nat.le_refl _) _).alloc (by simp) _
  have hx1 : BoxN W1 w.heap.size D (.slice (some ⟨gs, 0, none⟩) n cs) := by
    rw [hW1]
    have := boxN_new w D (.slice (some ⟨gs, 0, none⟩) n cs)
    exact this.below (n := w.heap.size + 1) ((Below.refl _ _).alloc (by simp) _) (by omega)
  have ho1 : BoxN W1 (w.heap.size + 1) ⟨#[]⟩ (.slice none 0 0) := by
    rw [hW1]
    have := boxN_new (w.alloc (.cells #[.string D, .slice (some ⟨gs, 0, none⟩) n cs] 25)) ⟨#[]⟩ (.slice none 0 0)
    simpa using this
  have hz1 : W1.heap.size = w.heap.size + 2 := by rw [hW1]; simp
  have hs1 := saysM_below hs0 hb1
  have hb2 : Below W1.heap.size W1 (W1.alloc (.cells #[] 31)) := (Below.refl _ _).alloc (Nat.le_refl _) _
  have hs2 := saysM_below hs1 hb2
  have hc2 : ∀ i x, (cellsP P0)[i]? = some x → (W1.alloc (.cells #[] 31)).cell? ((⟨gs, 0, none⟩ : Addr).add i) = some x := fun i x hx => by
    have h0 := World.ownsRow.cells hr0 (g := gs) rfl i x hx
    rw [addr0] at h0 ⊢
    have hgl : gs < w.heap.size := (World.ownsRow.lt hr0 gs rfl).2
    rw [hb2.cell (p := ⟨gs, i, none⟩) (show gs < W1.heap.size by omega), hb1.cell (p := ⟨gs, i, none⟩) hgl]
    exact h0
  obtain ⟨v3, W3, hrun, hown3, hb3, _⟩ := run_append_E (B := w.heap.size) (b := W1.heap.size) (heap_alloc_new W1 _) (by omega) (by simp; omega) hs2 ⟨gs, 0, none⟩ cs hc2 (by omega) 23
  rw [← hn] at hrun
  obtain ⟨g, cp, rfl⟩ := ownM_form hown3 hL
  obtain ⟨P, hr3, hs3⟩ := hown3
  rw [← hn] at hrun hr3
  have HRun := Lib.hid hrun
  have hbb : Below w.heap.size w (W1.alloc (.cells #[] 31)) := hb1.trans (hb2.mono (by omega))
  have hbx := hx1.below (n := W1.heap.size) hb2 (by omega)
  have hox := ho1.below (n := W1.heap.size) hb2 (by omega)
  have HBa := Lib.hid hbb
  obtain ⟨d0, d1⟩ := hbx.cells
  have HW1 := Lib.hid hW1.symm
  have HN := Lib.hid hn
  have HB3 := Lib.hid hb3
  have HS1 := Lib.hid hz1
  have HR3 := Lib.hid hr3
  have HSa3 := Lib.hid hs3
  have HNe := Lib.hid hne
  have HTi := Lib.hid ht
  have HHk : Hid (∀ (q : Nat) (cs : Array Value) (e : TypeId), (W1.alloc (.cells #[] 31)).heap[q]? = some (.cells cs e (0, 0)) → (0 < cs.size ∨ e ≠ 31) → W3.heap[q]? = (W1.alloc (.cells #[] 31)).heap[q]?) := Lib.hid (by assumption)
  have HBx : Hid (BoxN W3 w.heap.size D (.slice (some ⟨gs, 0, none⟩) n cs)) := Lib.hid ((HHk.out _ _ _ hbx (.inl (by simp))).trans hbx)
  have HOx : Hid (BoxN W3 (w.heap.size + 1) ⟨#[]⟩ (.slice none 0 0)) := Lib.hid ((HHk.out _ _ _ hox (.inl (by simp))).trans hox)
  have HJn := Lib.hid hjn
  have tn0 : (0 : Int) < (n : Int) := by omega
  have tj0 : (0 : Int) ≤ (j : Int) := by omega
  have tjn : (j : Int) < (n : Int) := by omega
  clear hW1 hn hb3 hz1 hr3 hs3 hne ht hbx hox hbb hrun hc2 hs2 hb2 hs1 hx1 ho1 hb1 hs0 hr0 hcells0 hL hz12 hj hjn hn0
  go_enter Tryz.func8, Tryz.ntmps8
  go_upto_region 1 with (fail)
  rw [HW1.out]
  go_upto_region 2 with ((at_builtin; refine Lib.wpList_append_run _ rfl _ _ _ _ rfl _ _ rfl rfl _ _ (HRun.out) ?_))
  go_upto_block 0 with (fail)
  rw [hmj, hz]
  clear d0 d1
  have HT : Hid (TuIn w.heap.size w W3 w.heap.size (w.heap.size + 1) D (.slice (some ⟨gs, 0, none⟩) n cs) (.slice (some ⟨g, 0, none⟩) n cp) P L) := Lib.hid ⟨HBx.out, HOx.out, HR3.out, HSa3.out, HBa.out.trans HB3.out, Nat.le_refl _, by omega⟩
  have HW3 : Hid (w.heap.size + 2 ≤ W3.heap.size) := Lib.hid (by have := HB3.out.size; have := HS1.out; simp at *; omega)
  clear HBx HOx HR3 HSa3 HBa HB3 HHk HRun HW1
  go_cut [7] from 21 to 116 (fun s7 wx => TuOut w.heap.size k D.size w.heap.size (w.heap.size + 1) (.slice (some ⟨gs, 0, none⟩) n cs) w wx s7)
  case first =>
    have hjL : j < L.length := by rw [← HN.out]; exact HJn.out
    have HjL := Lib.hid hjL
    obtain ⟨A, hA⟩ : ∃ A, L[j].2 = A := ⟨_, rfl⟩
    obtain ⟨m, hm⟩ : ∃ m, A.length = m := ⟨_, rfl⟩
    obtain ⟨T, a1, c1, x0, x1, f0, f1, hV, hT, hgB⟩ := tu_cells HT.out hjL hA hm
    have hAt : tinyT k A := by rw [← hA]; exact (HTi.out.at hjL).2
    have hAn : A ≠ [] := by rw [← hA]; exact HNe.out _ (List.getElem_mem hjL)
    have hTs : T.data.toList.length ≤ 1000 := by rw [hT]; exact (HTi.out.at hjL).1
    have hm0 : 0 < m := by rw [← hm]; exact List.length_pos_iff.2 hAn
    have tm0 : (0 : Int) < (m : Int) := by omega
    have hmne : ¬ m = 0 := by omega
    have HM := Lib.hid hm
    have HV := Lib.hid hV
    have HAt := Lib.hid hAt
    have HTs := Lib.hid hTs
    have HgB := Lib.hid hgB
    have HA := Lib.hid hA
    have hz13 : z = 0 ∨ z = 1 ∨ z = 2 ∨ z = 3 ∨ z = 4 ∨ z = 5 ∨ z = 6 ∨ z = 7 ∨ z = 8 ∨ z = 9 ∨ z = 10 ∨ z = 11 := by have := HZ.out; omega
    have hDs : D.size ≤ 100000 := by assumption
    have hgl : g < W3.heap.size := (World.ownsRow.lt HT.out.row g rfl).2
    obtain ⟨b0, b1⟩ := HT.out.box.cells
    obtain ⟨b2, b3⟩ := HT.out.box.frozen
    clear HZ hm hV hAt hTs hgB hA hT hAn hjL
    rcases hz13 with rfl | rfl | rfl | rfl | rfl | rfl | rfl | rfl | rfl | rfl | rfl | rfl
    · go_wp2
      go_meet
      exact tu_setT HT.out HjL.out ⟨#[110, 111, 110, 101]⟩ (by decide) HgB.out (Nat.le_refl _) HTi.out
    · go_wp2
      go_meet
      exact tu_setV HT.out HjL.out (A := []) ⟨_, _, rfl, by unfold maxLen; simp, fun j hj => absurd hj (by simp)⟩ ⟨by simp, fun t ht => absurd ht (by simp)⟩ HgB.out (Nat.le_refl _) HTi.out
    · obtain ⟨vb, vo, e1, hvs, hvc⟩ : ∃ vb vo, a1 = some ⟨vb, vo, none⟩ ∧ vb < W3.heap.size ∧ W3.cell? ⟨vb, vo, none⟩ = some (strV A[0]!) := by
        have hm1 : 0 < A.length := by rw [HM.out]; exact hm0
        obtain ⟨_, _, e0, _, hh⟩ := HV.out
        obtain ⟨b, off, e2, hb, hcc⟩ := hh 0 hm1
        have e3 := (Value.slice.inj e0).1
        refine ⟨b, off, e3.trans e2, hb.lt, ?_⟩
        have hcc' : W3.cell? ⟨b, off, none⟩ = _ := hcc
        rw [hcc']
        congr 2
        exact (getElem!_pos A 0 hm1).symm
      subst e1
      obtain ⟨X, hX⟩ : ∃ X, X = A[0]! := ⟨_, rfl⟩
      obtain ⟨X0, hX0⟩ : ∃ X0, X0 = ofL X := ⟨_, rfl⟩
      rw [← hX] at hvc
      have hsX : strV X = .string X0 := by rw [hX0, ← ofL_list X, strV_whole, ofL_list]
      rw [hsX] at hvc
      have HX : Hid (X ∈ A) := Lib.hid (by
        have hm1 : 0 < A.length := by rw [HM.out]; exact hm0
        rw [hX, getElem!_pos A 0 hm1]
        exact List.getElem_mem hm1)
      have HsX := Lib.hid hsX
      clear hX hX0 hsX
      go_upto_region 10 with (fail)
      refine region_two (by kernel_rfl) W3.heap.size 6 14 (FDup W3.heap.size g j (.slice (some ⟨vb, vo, none⟩) m c1) vb vo A X) (fun _ _ _ _ _ _ _ h hb => h.go hb) (Nat.le_refl _) (by kernel_rfl) (by kernel_rfl) (by decide) (by rfl) ?hs2 ?h12 ?h22 ?hl2
      case hs2 =>
        intro listed a W p q hsz hk i o ho hi hi1 hi2 hc
        have e8 := hk.read (t := 8) (by kernel_rfl) rfl
        have y0 : W.cell? ⟨g, j * 2 + 1, none⟩ = some (.slice (some ⟨vb, vo, none⟩) m c1) := (hk.grown.cell (p := ⟨g, j * 2 + 1, none⟩) hgl).trans x1
        have y1 : W.cell? ⟨vb, vo, none⟩ = some (.string X0) := (hk.grown.cell (p := ⟨vb, vo, none⟩) hvs).trans hvc
        match i, hi, hi1, hi2 with
        | 0, _, _, _ =>
          obtain rfl := Option.some.inj ho
          exact wpOp_val rfl rfl (v := .pointer (some ⟨g, j * 2, none⟩)) (w' := W) (by simp [go_sem, e8]) ⟨_, _, rfl, rfl, Below.refl _ _, rfl⟩
        | 1, _, _, _ =>
          obtain rfl := Option.some.inj ho
          exact wpOp_val rfl rfl (v := .slice (some ⟨W.heap.size, 0, none⟩) 0 0) (w' := W.alloc (.cells #[] 9)) (by simp [go_sem]) ⟨_, _, rfl, rfl, (Below.refl _ _).alloc (Nat.le_refl _) _, .inr ⟨_, rfl, hsz, heap_alloc_new W _⟩⟩
        | 2, _, _, _ =>
          obtain rfl := Option.some.inj ho
          exact wpOp_val rfl rfl (v := .pointer (some ⟨g, j * 2, none⟩)) (w' := W) (by simp [go_sem, e8]) ⟨_, _, rfl, rfl, Below.refl _ _, rfl⟩
        | 3, _, _, _ =>
          obtain rfl := Option.some.inj ho
          obtain ⟨v2, g2, f2⟩ := hk.got (j := 2) rfl rfl (hc ⟨2, .data⟩ (by simp) rfl)
          obtain rfl : v2 = _ := f2
          exact wpOp_val rfl rfl (v := .pointer (some ⟨g, j * 2, none⟩)) (w' := W) (by simp [go_sem, g2]) ⟨_, _, rfl, rfl, Below.refl _ _, rfl⟩
        | 4, _, _, _ =>
          obtain rfl := Option.some.inj ho
          obtain ⟨v3, g3, f3⟩ := hk.got (j := 3) rfl rfl (hc ⟨3, .data⟩ (by simp) rfl)
          obtain rfl : v3 = _ := f3
          exact wpOp_val rfl rfl (v := .pointer (some ⟨g, j * 2 + 1, none⟩)) (w' := W) (by simp [go_sem, g3]) ⟨_, _, rfl, rfl, Below.refl _ _, rfl⟩
        | 5, _, _, _ =>
          obtain rfl := Option.some.inj ho
          obtain ⟨v4, g4, f4⟩ := hk.got (j := 4) rfl rfl (hc ⟨4, .data⟩ (by simp) rfl)
          obtain rfl : v4 = _ := f4
          exact wpOp_val rfl rfl (v := .slice (some ⟨vb, vo, none⟩) m c1) (w' := W) (by simp [go_sem, g4, y0]) ⟨_, _, rfl, rfl, Below.refl _ _, rfl⟩
        | 7, _, _, _ =>
          obtain rfl := Option.some.inj ho
          exact wpOp_val rfl rfl (v := .pointer (some ⟨g, j * 2, none⟩)) (w' := W) (by simp [go_sem, e8]) ⟨_, _, rfl, rfl, Below.refl _ _, rfl⟩
        | 8, _, _, _ =>
          obtain rfl := Option.some.inj ho
          obtain ⟨v7, g7, f7⟩ := hk.got (j := 7) rfl rfl (hc ⟨7, .data⟩ (by simp) rfl)
          obtain rfl : v7 = _ := f7
          exact wpOp_val rfl rfl (v := .pointer (some ⟨g, j * 2, none⟩)) (w' := W) (by simp [go_sem, g7]) ⟨_, _, rfl, rfl, Below.refl _ _, rfl⟩
        | 9, _, _, _ =>
          obtain rfl := Option.some.inj ho
          obtain ⟨v8, g8, f8⟩ := hk.got (j := 8) rfl rfl (hc ⟨8, .data⟩ (by simp) rfl)
          obtain rfl : v8 = _ := f8
          exact wpOp_val rfl rfl (v := .pointer (some ⟨g, j * 2 + 1, none⟩)) (w' := W) (by simp [go_sem, g8]) ⟨_, _, rfl, rfl, Below.refl _ _, rfl⟩
        | 10, _, _, _ =>
          obtain rfl := Option.some.inj ho
          obtain ⟨v9, g9, f9⟩ := hk.got (j := 9) rfl rfl (hc ⟨9, .data⟩ (by simp) rfl)
          obtain rfl : v9 = _ := f9
          exact wpOp_val rfl rfl (v := .slice (some ⟨vb, vo, none⟩) m c1) (w' := W) (by simp [go_sem, g9, y0]) ⟨_, _, rfl, rfl, Below.refl _ _, rfl⟩
        | 11, _, _, _ =>
          obtain rfl := Option.some.inj ho
          obtain ⟨v10, g10, f10⟩ := hk.got (j := 10) rfl rfl (hc ⟨10, .data⟩ (by simp) rfl)
          obtain rfl : v10 = _ := f10
          exact wpOp_val rfl rfl (v := .pointer (some ⟨vb, vo, none⟩)) (w' := W) (by simp [go_sem, g10, hmne]) ⟨_, _, rfl, rfl, Below.refl _ _, rfl⟩
        | 12, _, _, _ =>
          obtain rfl := Option.some.inj ho
          obtain ⟨v11, g11, f11⟩ := hk.got (j := 11) rfl rfl (hc ⟨11, .data⟩ (by simp) rfl)
          obtain rfl : v11 = _ := f11
          exact wpOp_val rfl rfl (v := .string X0) (w' := W) (by simp [go_sem, g11, y1]) ⟨_, _, rfl, rfl, Below.refl _ _, HsX.out.symm⟩
        | 13, _, _, _ =>
          obtain rfl := Option.some.inj ho
          obtain ⟨v12, g12, f12⟩ := hk.got (j := 12) rfl rfl (hc ⟨12, .data⟩ (by simp) rfl)
          obtain rfl : v12 = .string X0 := Eq.trans (show v12 = strV X from f12) HsX.out
          exact wpOp_val rfl rfl (v := .slice (some ⟨W.heap.size, 0, none⟩) 1 1) (w' := W.alloc (.cells #[.string X0] 9)) (by simp [go_sem, g12]) ⟨_, _, rfl, rfl, (Below.refl _ _).alloc (Nat.le_refl _) _, .inr ⟨_, rfl, by rw [HsX.out]; exact heap_alloc_new W _⟩⟩
        | 15, _, _, _ =>
          obtain rfl := Option.some.inj ho
          obtain ⟨v0, g0, f0⟩ := hk.got (j := 0) rfl rfl (hc ⟨0, .data⟩ (by simp) rfl)
          obtain rfl : v0 = _ := f0
          exact wpOp_val rfl rfl (v := .pointer (some ⟨g, j * 2, none⟩)) (w' := W) (by simp [go_sem, g0]) ⟨_, _, rfl, rfl, Below.refl _ _, rfl⟩
        | 16, _, _, _ =>
          obtain rfl := Option.some.inj ho
          obtain ⟨v15, g15, f15⟩ := hk.got (j := 15) rfl rfl (hc ⟨15, .data⟩ (by simp) rfl)
          obtain rfl : v15 = _ := f15
          exact wpOp_val rfl rfl (v := .pointer (some ⟨g, j * 2 + 1, none⟩)) (w' := W) (by simp [go_sem, g15]) ⟨_, _, rfl, rfl, Below.refl _ _, rfl⟩
        | 6, _, h, _ => exact absurd rfl h
        | 14, _, _, h => exact absurd rfl h
        | mm + 17, hmm, _, _ => exact absurd hmm (by simp)
      case h12 =>
        intro listed a W hsz hk o ho hc
        obtain rfl := Option.some.inj ho
        obtain ⟨v1, g1, f1'⟩ := hk.got (j := 1) rfl rfl (hc ⟨1, .data⟩ (by simp) rfl)
        obtain ⟨v5, g5, f5⟩ := hk.got (j := 5) rfl rfl (hc ⟨5, .data⟩ (by simp) rfl)
        obtain ⟨b, rfl, hbn, hbc⟩ := f1'.resolve_left (by simp)
        obtain rfl : v5 = _ := f5
        have hu : IsTo (fun q => q < W3.heap.size) W A (.slice (some ⟨vb, vo, none⟩) m c1) := HV.out.imp (fun b hb => hb.lt) (fun b o hb => hk.grown.cell (p := ⟨b, o, none⟩) hb.lt)
        obtain ⟨v', w', hrun, hown', hgr, _, hbel⟩ := run_append_T (ownS_empty hbc hbn) hsz hu (by have := HAt.out.1; simp; omega) 29
        rw [List.nil_append] at hown'
        exact wpOp_val rfl rfl (exec_append rfl (by simp [go_sem, g1]) (by simp [go_sem, g5]) hrun) ⟨_, _, rfl, rfl, hbel, .inr hown', fun j u hj h => FDup.loud1 h hj (grow_other rfl hbc hgr)⟩
      case h22 =>
        intro listed a W hsz hk o ho hc
        obtain rfl := Option.some.inj ho
        obtain ⟨v6, g6, f6⟩ := hk.got (j := 6) rfl rfl (hc ⟨6, .data⟩ (by simp) rfl)
        obtain ⟨v13, g13, f13⟩ := hk.got (j := 13) rfl rfl (hc ⟨13, .data⟩ (by simp) rfl)
        obtain ⟨b, rfl, hbc⟩ := f13.resolve_left (by simp)
        have h6 := f6.resolve_left (by simp)
        have hu : IsTo (StrB W) W [X] (.slice (some ⟨b, 0, none⟩) 1 1) := by
          have := isTo_one (X := X0) (w := W) (b := b) (by rw [← HsX.out]; exact hbc)
          have e : X0.data.toList = X := by
            have := HsX.out
            unfold strV at this
            rw [← Value.string.inj this]
          rwa [e] at this
        obtain ⟨v', w', hrun, hown', _, _, hbel⟩ := run_append_T h6 hsz hu (by have := HAt.out.1; simp; omega) 29
        exact wpOp_val rfl rfl (exec_append rfl (by simp [go_sem, g6]) (by simp [go_sem, g13]) hrun) ⟨_, _, rfl, rfl, hbel, ⟨rfl, hown'⟩, fun j u hj h => FDup.loud2 h⟩
      case hl2 =>
        intro listed a W hsz hk hall
        obtain ⟨v14, g14, f14⟩ := hk.got (j := 14) rfl rfl (hall 14 (by simp))
        obtain ⟨v16, g16, f16⟩ := hk.got (j := 16) rfl rfl (hall 16 (by simp))
        obtain rfl : v16 = _ := f16
        obtain ⟨sa, sc, hv⟩ := ownS_slice f14.2
        obtain ⟨ln, hln⟩ : ∃ k, k = (A ++ [X]).length := ⟨_, rfl⟩
        rw [← hln] at hv
        subst hv
        have hTI := HT.out.go (by have := HW3.out; omega) (hk.grown.mono (Nat.le_refl _))
        obtain ⟨_, _, _, _, r1, _, r3, _⟩ := tu_cells hTI HjL.out HA.out HM.out
        have hout := tu_setV hTI HjL.out (ownS_strB f14.2 (by rw [← hln]; rw [hln]; have := HAt.out.1; unfold maxLen; simp; omega)) ((HAt.out.mono (Nat.le_succ k)).app (k := k + 1) ⟨by simp, fun t ht => by rw [List.mem_singleton.1 ht]; exact HAt.out.2 _ HX.out⟩ (by have := HAt.out.1; simp; omega)) HgB.out (Nat.le_refl _) HTi.out
        have hput := hk.puts
        refine wpOp_skip rfl rfl (w' := W.setCell ⟨g, j * 2 + 1, none⟩ (.slice sa ln sc)) (by simp [go_sem, g14, g16, r1, r3]) ?_
        rw [hput]
        simp only [putT]
        generalize a.tmps[36]?.getD undef = x36
        generalize a.tmps[37]?.getD undef = x37
        generalize a.tmps[38]?.getD undef = x38
        generalize a.tmps[39]?.getD undef = x39
        generalize a.tmps[40]?.getD undef = x40
        generalize a.tmps[41]?.getD undef = x41
        generalize a.tmps[42]?.getD undef = x42
        generalize a.tmps[43]?.getD undef = x43
        generalize a.tmps[44]?.getD undef = x44
        generalize a.tmps[45]?.getD undef = x45
        generalize a.tmps[46]?.getD undef = x46
        generalize a.tmps[47]?.getD undef = x47
        generalize a.tmps[48]?.getD undef = x48
        generalize a.tmps[49]?.getD undef = x49
        generalize a.tmps[50]?.getD undef = x50
        generalize a.tmps[51]?.getD undef = x51
        generalize a.tmps[52]?.getD undef = x52
        have HO := Lib.hid hout
        clear hall hput g14 g16 f14 hln hTI r1 r3 hk hout
        go_simp
        go_wp2
        go_meet
        exact HO.out
    · have ho1 : OwnS W3.heap.size (W3.alloc (.cells #[.string ⟨#[32, 32]⟩] 9)) (.slice (some ⟨W3.heap.size, 0, none⟩) 1 1) [[32, 32]] := ownS_lit (heap_alloc_new W3 _) (Nat.le_refl _)
      have hbl : Below W3.heap.size W3 (W3.alloc (.cells #[.string ⟨#[32, 32]⟩] 9)) := (Below.refl _ _).alloc (Nat.le_refl _) _
      have hu1 : IsTo (fun q => q < W3.heap.size) (W3.alloc (.cells #[.string ⟨#[32, 32]⟩] 9)) A (.slice a1 m c1) := HV.out.imp (fun b hb => hb.lt) (fun b o hb => hbl.cell (p := ⟨b, o, none⟩) hb.lt)
      obtain ⟨v4, W4, hrun, hown4, _, _, hb4⟩ := run_append_T ho1 hbl.size hu1 (by have := HAt.out.1; simp; omega) 29
      obtain ⟨sa, sc, hv⟩ := ownS_slice hown4
      obtain ⟨ln, hln⟩ : ∃ k, k = ([[32, 32]] ++ A).length := ⟨_, rfl⟩
      rw [← hln] at hv
      subst hv
      have hTI := HT.out.go (by have := HW3.out; omega) (hbl.trans hb4)
      obtain ⟨_, _, _, _, r1, _, r3, _⟩ := tu_cells hTI HjL.out HA.out HM.out
      have hout := tu_setV hTI HjL.out (ownS_strB hown4 (by have := HAt.out.1; unfold maxLen; simp; omega)) ((show tinyT (k + 1) [[32, 32]] from ⟨by simp, fun t ht => by rw [List.mem_singleton.1 ht]; decide⟩).app (HAt.out.mono (Nat.le_succ k)) (by have := HAt.out.1; simp; omega)) HgB.out (Nat.le_refl _) HTi.out
      have HRun := Lib.hid hrun
      have HO := Lib.hid hout
      clear hrun hout hTI hown4 hb4 hu1 ho1 hbl hln
      go_wp2_with ((at_builtin; refine Lib.wpList_append_run _ rfl _ _ _ _ rfl _ _ rfl rfl _ _ (HRun.out) ?_))
      go_meet
      exact HO.out
    · have hbl : Below W3.heap.size W3 (W3.alloc (.cells #[.string T, .slice a1 m c1] 31)) := (Below.refl _ _).alloc (Nat.le_refl _) _
      have hTI := HT.out.go (by have := HW3.out; omega) hbl
      have hps : SaysM (W3.alloc (.cells #[.string T, .slice a1 m c1] 31)) [(T.data.toList, .slice a1 m c1)] [(T.data.toList, A)] := ⟨rfl, fun i hi hi' => by
        have : i = 0 := by simp at hi; omega
        subst this
        exact ⟨rfl, HV.out.imp (fun b hb => by obtain ⟨cs, fr, e⟩ := hb; exact ⟨cs, fr, (hbl.block _ (Array.getElem?_eq_some_iff.1 e).1).trans e⟩) (fun b o hb => hbl.cell (p := ⟨b, o, none⟩) hb.lt)⟩⟩
      obtain ⟨v', W4, hrun, hr4, hs4, hb4, hk1, hk2⟩ := run_append_P hTI.row hTI.says (by have := HW3.out; simp; omega) hps ⟨W3.heap.size, 0, none⟩ 1 (fun i x hx => cells_one (heap_alloc_new W3 _) i x hx) (by have := HTi.out.1; simp; omega) 23
      obtain ⟨sa, sc, hv⟩ := rowP_slice hr4
      obtain ⟨ln, hln⟩ : ∃ k, k = (P ++ [(T.data.toList, Value.slice a1 m c1)]).length := ⟨_, rfl⟩
      rw [← hln] at hv
      subst hv
      have HO : Hid (TuOut w.heap.size k D.size w.heap.size (w.heap.size + 1) (.slice (some ⟨gs, 0, none⟩) n cs) w W4 (.slice sa ln sc)) := Lib.hid ⟨D, _, _, ⟨(hk2 _ _ _ hTI.box (by decide)).trans hTI.box, (hk2 _ _ _ hTI.out (by decide)).trans hTI.out, hr4, hs4, hTI.bel.trans hb4, hTI.lo, hTI.lor⟩, by omega, (HTi.out.mono (Nat.le_succ k)).app ⟨by simp, fun a ha => by rw [List.mem_singleton.1 ha]; exact ⟨HTs.out, HAt.out.mono (Nat.le_succ k)⟩⟩ (by have := HTi.out.1; simp; omega)⟩
      have HRun := Lib.hid hrun
      clear hrun hTI hr4 hs4 hb4 hk1 hk2 hps hbl hln
      go_wp2_with ((at_builtin; refine Lib.wpList_append_run _ rfl _ _ _ _ rfl _ _ rfl rfl _ _ (HRun.out) ?_))
      go_meet
      exact HO.out
    · have hTI := HT.out.go (by have := HW3.out; omega) (show Below W3.heap.size W3 W3.drew from (Below.refl _ _).drew)
      obtain ⟨W4, hrun, hr4, hs4, hb4, hk4⟩ := run_cutout hTI.row hTI.says HJn.out 23
      have hcp : n ≤ cp := by
        rcases HT.out.row.2 with ⟨h', _⟩ | ⟨_, _, _, h', _, _, h2, _⟩
        · simp at h'
        · simp only [Value.slice.injEq, Option.some.injEq, Addr.mk.injEq, and_true] at h'
          obtain ⟨_, e1, e2⟩ := h'
          omega
      have hcm : cp ≤ 9223372036854775807 := by
        rcases HT.out.row.2 with ⟨h', _⟩ | ⟨_, _, _, h', _, _, _, h2, _⟩
        · simp at h'
        · simp only [Value.slice.injEq, Option.some.injEq, Addr.mk.injEq, and_true] at h'
          obtain ⟨_, e1, e2⟩ := h'
          rw [e2]
          unfold maxLen at h2
          exact h2
      obtain ⟨cs1, hbc⟩ : ∃ cs1, W3.drew.heap[g]? = some (.cells cs1 31 (0, 0)) := by
        rcases hTI.row.2 with ⟨h', _⟩ | ⟨_, _, cur, h', _, h2, _⟩
        · simp at h'
        · simp only [Value.slice.injEq, Option.some.injEq, Addr.mk.injEq, and_true] at h'
          obtain ⟨e0, e1, e2⟩ := h'
          exact ⟨cur, by rw [e0]; exact h2⟩
      have nb : ∀ {b D' u'}, BoxN W3.drew b D' u' → b ≠ g := fun h e => by
        unfold BoxN at h
        rw [e, hbc] at h
        cases h
      have HO : Hid (TuOut w.heap.size k D.size w.heap.size (w.heap.size + 1) (.slice (some ⟨gs, 0, none⟩) n cs) w W4 (.slice (some ⟨g, 0, none⟩) (n - 1) cp)) := Lib.hid ⟨D, _, _, ⟨(hk4 _ (nb hTI.box)).trans hTI.box, (hk4 _ (nb hTI.out)).trans hTI.out, hr4, hs4, hTI.bel.trans hb4, hTI.lo, hTI.lor⟩, by omega, (HTi.out.mono (Nat.le_succ k)).erase⟩
      have hmj2 : (which : Int) % (n : Int) = (j : Int) := by assumption
      have hmt2 : (which : Int).tmod (n : Int) = (j : Int) := by rw [Int.tmod_eq_emod_of_nonneg (by omega)]; exact hmj2
      have hnz : ¬ n = 0 := by omega
      have hjn' := HJn.out
      have hw1 : IntKind.i64.wrap ((j : Int) + 1) = (j : Int) + 1 := IntWalk.i64_in _ (by omega)
      have hi1 : (j : Int) ≤ (cp : Int) := by omega
      have hi2 : (j : Int) + 1 ≤ (n : Int) := by omega
      have hi3 : (n : Int) ≤ (cp : Int) := by omega
      have hi4 : (0 : Int) ≤ (j : Int) + 1 := by omega
      have hi5 : ((j : Int) + 1).toNat = j + 1 := by omega
      have hi6 : j ≤ cp := by omega
      have hi7 : j + 1 ≤ n := by omega
      clear hjn' hTI hr4 hs4 hb4 hk4 hbc nb
      by_cases hcc : j + 1 = cp
      · rw [if_pos hcc] at hrun
        have HRun := Lib.hid hrun
        have hc1 : (j + 1 = cp) = True := by simp [hcc]
        have hc2 : (cp = j + 1) = True := by simp [hcc]
        clear hrun hcc
        go_upto_region 16 with (fail)
        refine wp_region_still_tail 13 (by kernel_rfl) (by kernel_rfl) ?_
        simp only [List.take_succ_cons, List.take_zero, List.drop_succ_cons, List.drop_zero]
        show wpStill Tryz.prog _ W3.drew (fun a' => wpList Tryz.prog _ _ _ a' W3.drew) _ _
        repeat still_step
        refine wpStill_nil ?_
        go_wp2_with ((at_builtin; refine Lib.wpList_append_run _ rfl _ _ _ _ rfl _ _ rfl rfl _ _ (HRun.out) ?_))
        go_meet
        exact HO.out
      · rw [if_neg hcc] at hrun
        have HRun := Lib.hid hrun
        have hc1 : (j + 1 = cp) = False := by simp [hcc]
        have hc2 : (cp = j + 1) = False := by simp [Ne.symm hcc]
        clear hrun hcc
        go_upto_region 16 with (fail)
        refine wp_region_still_tail 13 (by kernel_rfl) (by kernel_rfl) ?_
        simp only [List.take_succ_cons, List.take_zero, List.drop_succ_cons, List.drop_zero]
        show wpStill Tryz.prog _ W3.drew (fun a' => wpList Tryz.prog _ _ _ a' W3.drew) _ _
        repeat still_step
        refine wpStill_nil ?_
        go_wp2_with ((at_builtin; refine Lib.wpList_append_run _ rfl _ _ _ _ rfl _ _ rfl rfl _ _ (HRun.out) ?_))
        go_meet
        exact HO.out
    · go_wp2
      go_meet
      exact tu_setT HT.out HjL.out ⟨#[111, 117]⟩ (by decide) HgB.out (Nat.le_refl _) HTi.out
    · have q1 : 6 + D.size ≤ 9223372036854775807 := by omega
      have hsz : ((⟨#[115, 110, 61, 122, 122, 44]⟩ : ByteArray) ++ D).size ≤ D.size + 6 := by
        rw [← bytes_len, app_list, List.length_append, bytes_len, bytes_len]
        show 6 + D.size ≤ _
        omega
      have HO : Hid (TuOut w.heap.size k D.size w.heap.size (w.heap.size + 1) (.slice (some ⟨gs, 0, none⟩) n cs) w (W3.setCell ⟨w.heap.size, 0, none⟩ (.string ((⟨#[115, 110, 61, 122, 122, 44]⟩ : ByteArray) ++ D))) (.slice (some ⟨g, 0, none⟩) n cp)) := Lib.hid (by
        obtain ⟨e1, e2⟩ := rowP_setE (i := 0) (x := .string ((⟨#[115, 110, 61, 122, 122, 44]⟩ : ByteArray) ++ D)) HT.out.row HT.out.says HT.out.box
        refine ⟨(⟨#[115, 110, 61, 122, 122, 44]⟩ : ByteArray) ++ D, _, _, ⟨?_, ?_, e1, e2, HT.out.bel.setCell (p := ⟨w.heap.size, 0, none⟩) (Nat.le_refl _) _, HT.out.lo, HT.out.lor⟩, hsz, HTi.out.mono (Nat.le_succ k)⟩
        · have hb := HT.out.box
          unfold BoxN at hb ⊢
          simp [World.setCell, Array.getElem?_modify, hb]
        · exact HT.out.out.ne (by omega))
      clear hsz
      go_wp2
      go_meet
      exact HO.out
    · have q1 : D.size + 1 ≤ 9223372036854775807 := by omega
      have hsz : (D ++ (⟨#[44]⟩ : ByteArray)).size ≤ D.size + 6 := by
        rw [← bytes_len, app_list, List.length_append, bytes_len, bytes_len]
        show D.size + 1 ≤ _
        omega
      have HO : Hid (TuOut w.heap.size k D.size w.heap.size (w.heap.size + 1) (.slice (some ⟨gs, 0, none⟩) n cs) w (W3.setCell ⟨w.heap.size, 0, none⟩ (.string (D ++ (⟨#[44]⟩ : ByteArray)))) (.slice (some ⟨g, 0, none⟩) n cp)) := Lib.hid (by
        obtain ⟨e1, e2⟩ := rowP_setE (i := 0) (x := .string (D ++ (⟨#[44]⟩ : ByteArray))) HT.out.row HT.out.says HT.out.box
        refine ⟨D ++ (⟨#[44]⟩ : ByteArray), _, _, ⟨?_, ?_, e1, e2, HT.out.bel.setCell (p := ⟨w.heap.size, 0, none⟩) (Nat.le_refl _) _, HT.out.lo, HT.out.lor⟩, hsz, HTi.out.mono (Nat.le_succ k)⟩
        · have hb := HT.out.box
          unfold BoxN at hb ⊢
          simp [World.setCell, Array.getElem?_modify, hb]
        · exact HT.out.out.ne (by omega))
      clear hsz
      go_wp2
      go_meet
      exact HO.out
    · have hbl : Below W3.heap.size W3 (W3.alloc (.cells #[.string ⟨#[116, 111, 112]⟩] 9)) := (Below.refl _ _).alloc (Nat.le_refl _) _
      have hTI := HT.out.go (by have := HW3.out; omega) hbl
      obtain ⟨_, _, _, _, r1, _, r3, _⟩ := tu_cells hTI HjL.out HA.out HM.out
      have hout := tu_setV hTI HjL.out (isTo_one (X := ⟨#[116, 111, 112]⟩) (heap_alloc_new W3 _)) ⟨by simp, fun t ht => by rw [List.mem_singleton.1 ht]; decide⟩ HgB.out (Nat.le_refl _) HTi.out
      rw [World.setCell_alloc_past _ _ _ _ hgl] at hout
      have HO := Lib.hid hout
      clear hout
      clear hbl hTI
      go_wp2
      go_meet
      exact HO.out
    · have hbl : Below W3.heap.size W3 (W3.alloc (.cells #[.string ⟨#[49, 50]⟩, .string ⟨#[49, 51]⟩] 9)) := (Below.refl _ _).alloc (Nat.le_refl _) _
      have hTI := HT.out.go (by have := HW3.out; omega) hbl
      obtain ⟨_, _, _, _, r1, _, r3, _⟩ := tu_cells hTI HjL.out HA.out HM.out
      have hit := (saysM_two (X := ⟨#[]⟩) (Y := ⟨#[49, 50]⟩) (Z := ⟨#[49, 51]⟩) (heap_alloc_new W3 (.cells #[.string ⟨#[49, 50]⟩, .string ⟨#[49, 51]⟩] 9))).2 0 (by simp) (by simp) |>.2
      have hout := tu_setV hTI HjL.out hit ⟨by simp; omega, fun t ht => by
        rcases List.mem_cons.1 ht with rfl | ht
        · decide
        · rw [List.mem_singleton.1 ht]; decide⟩ HgB.out (Nat.le_refl _) HTi.out
      rw [World.setCell_alloc_past _ _ _ _ hgl] at hout
      have HO := Lib.hid hout
      clear hout
      clear hbl hTI hit
      go_wp2
      go_meet
      exact HO.out
    · go_wp2
      go_meet
      exact tu_setT HT.out HjL.out ⟨#[77, 69, 77, 66, 69, 82]⟩ (by decide) HgB.out (Nat.le_refl _) HTi.out
  case rest =>
    obtain ⟨D5, P5, L5, hTI, hDs, hti⟩ := hcut
    rename World => w5
    obtain ⟨sa, sc, hv⟩ := rowP_slice hTI.row
    obtain ⟨ln, hln⟩ : ∃ k, k = P5.length := ⟨_, rfl⟩
    rw [← hln] at hv
    subst hv
    obtain ⟨b0, b1⟩ := hTI.box.cells
    obtain ⟨b2, b3⟩ := hTI.box.frozen
    obtain ⟨o0, o1⟩ := hTI.out.cells
    obtain ⟨o2, o3⟩ := hTI.out.frozen
    obtain ⟨e1, e2⟩ := rowP_setE (i := 1) (x := .slice sa ln sc) hTI.row hTI.says hTI.box
    have hmt := mAt_store (D := D5) (W := w5.setCell ⟨w.heap.size, 1, none⟩ (.slice sa ln sc)) (b := w.heap.size + 1) (hTI.bel.setCell (p := ⟨w.heap.size, 1, none⟩) (Nat.le_refl _) (.slice sa ln sc)) (hTI.out.ne (by omega)) (Nat.le_succ _) ⟨P5, e1, e2⟩
    obtain ⟨z0, z1⟩ := hmt.box.cells
    have HMt := Lib.hid hmt
    have HDs := Lib.hid hDs
    have HTy := Lib.hid hti
    clear hTI hDs hti hln HT e1 e2 hmt
    go_wp2
    exact bodyPost_ret (v := .agg #[.string D5, .slice sa ln sc]) (by simp [results, Tryz.results8, go_sem, z0, z1]) rfl ⟨D5, _, _, rfl, HMt.out.own, HMt.out.below, HDs.out, HTy.out⟩
end Go.Proofs.YtaapdipejpbdeaaGreatDoor
