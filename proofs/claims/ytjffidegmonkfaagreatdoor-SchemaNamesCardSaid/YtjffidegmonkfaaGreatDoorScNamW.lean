/- SchemaNames: the walk. -/
import Derived.Test.YtjffidegmonkfaaGreatDoorScNam
namespace Go.Proofs.YtjffidegmonkfaaGreatDoor
open Go.RowKit
set_option linter.unusedVariables false

theorem isL_pair (w : World) (T1 V1 T2 V2 : ByteArray) : IsL (w.alloc (.cells #[.string T1, .string V1, .string T2, .string V2] 49)).heap.size (w.alloc (.cells #[.string T1, .string V1, .string T2, .string V2] 49))
    [(T1.data.toList, V1.data.toList), (T2.data.toList, V2.data.toList)] (.slice (some ⟨w.heap.size, 0, none⟩) 2 2) := by
  refine ⟨_, _, rfl, by unfold maxLen; simp, fun j hj => ⟨w.heap.size, 0, rfl, by simp, ?_⟩⟩
  have : j = 0 ∨ j = 1 := by simp at hj; omega
  rcases this with rfl | rfl <;> simp [strV]
theorem pair_any (w : World) (T1 V1 T2 V2 : ByteArray) (h1 : T1.size ≤ 1000) (h2 : V1.size ≤ 1000) (h3 : T2.size ≤ 1000) (h4 : V2.size ≤ 1000) (A : ByteArray) (hA : A.data.toList = textD [(T1.data.toList, V1.data.toList), (T2.data.toList, V2.data.toList)]) :
    Calls Tryz.prog 23 #[.slice (some ⟨w.heap.size, 0, none⟩) 2 2] (w.alloc (.cells #[.string T1, .string V1, .string T2, .string V2] 49)) fun e w' => e = .returned (.string A) ∧ Below w.heap.size w w' := by
  have hsm : smallL [(T1.data.toList, V1.data.toList), (T2.data.toList, V2.data.toList)] := by
    refine ⟨by simp, fun r hr => ?_⟩
    simp only [List.mem_cons, List.not_mem_nil, or_false] at hr
    rcases hr with rfl | rfl
    · exact ⟨by rw [bytes_len]; exact h1, by rw [bytes_len]; exact h2⟩
    · exact ⟨by rw [bytes_len]; exact h3, by rw [bytes_len]; exact h4⟩
  refine (textRef_any _ hsm _ _ (isL_pair w T1 V1 T2 V2)).mono fun e w' ⟨he, hb⟩ => ⟨?_, ((Below.refl _ _).alloc (Nat.le_refl _) _).trans (hb.mono (by simp))⟩
  rw [he, ← hA]; simp [strV]
theorem key_len_name (s : List UInt8) (h : s.length ≤ 30) : (namD s).length ≤ 1000000 := by
  have := textT_len [([67, 78], namV s), ([111], [120])] true (fun r hr => by
    simp only [List.mem_cons, List.not_mem_nil, or_false] at hr
    rcases hr with rfl | rfl
    · exact ⟨by simp, by simp [namV]; omega⟩
    · exact ⟨by simp, by simp⟩)
  have e : textT true [([67, 78], namV s), ([111], [120])] = namD s := by
    simp [textT, namD, textD]
  rw [e] at this
  simp at this
  omega

theorem PerAt.up {w : World} {g b i : Nat} {N : ByteArray} {x : Value} (h : PerAt w g N) (hb : g < b) : PerAt (w.setCell ⟨b, i, none⟩ x) g N :=
  ⟨(block_ne w _ _ (show g - 3 ≠ b by omega)).trans h.b1, (block_ne w _ _ (show g - 2 ≠ b by omega)).trans h.b2, (block_ne w _ _ (show g - 1 ≠ b by omega)).trans h.b3, (block_ne w _ _ (show g ≠ b by omega)).trans h.b4, by rw [lt_set]; exact h.lt⟩
theorem PerAt.cells {w : World} {g : Nat} {N : ByteArray} (h : PerAt w g N) : w.cell? ⟨g, 2, none⟩ = some (.string ⟨#[111, 98, 106, 101, 99, 116, 99, 108, 97, 115, 115]⟩) ∧ w.cell? ⟨g, 3, none⟩ = some (.slice (some ⟨g - 2, 0, none⟩) 1 1) ∧ w.cell? ⟨g, 4, none⟩ = some (.string ⟨#[115, 110]⟩) ∧ w.cell? ⟨g, 5, none⟩ = some (.slice (some ⟨g - 1, 0, none⟩) 1 1) :=
  ⟨by simp only [World.cell?, h.b4]; rfl, by simp only [World.cell?, h.b4]; rfl, by simp only [World.cell?, h.b4]; rfl, by simp only [World.cell?, h.b4]; rfl⟩
theorem boxN_set1 {w : World} {b : Nat} {x : ByteArray} {u y : Value} (h : BoxN w b x u) : BoxN (w.setCell ⟨b, 1, none⟩ y) b x y := by
  unfold BoxN at h ⊢
  simp [World.setCell, Array.getElem?_modify, h]
theorem BoxN.ne {w : World} {b c i : Nat} {x : ByteArray} {u y : Value} (h : BoxN w b x u) (hb : b ≠ c) : BoxN (w.setCell ⟨c, i, none⟩ y) b x u := (block_ne w _ _ (show b ≠ c from hb)).trans h
theorem BoxN.frozen {w : World} {b : Nat} {x : ByteArray} {u : Value} (h : BoxN w b x u) : w.frozen? ⟨b, 0, none⟩ = false ∧ w.frozen? ⟨b, 1, none⟩ = false := by
  unfold BoxN at h
  simp [World.frozen?, h]
/-- The world behind the entry with two names. -/
abbrev namW (w : World) (X : ByteArray) (g b : Nat) : World := ((w.setCell ⟨b, 1, none⟩ (.slice (some ⟨w.heap.size + 1, 0, none⟩) 3 3)).alloc (.cells #[.string ⟨#[111, 116, 104, 101, 114]⟩, .string X] 9)).alloc (.cells #[.string ⟨#[99, 110]⟩, .slice (some ⟨w.heap.size, 0, none⟩) 2 2, .string ⟨#[111, 98, 106, 101, 99, 116, 99, 108, 97, 115, 115]⟩, .slice (some ⟨g - 2, 0, none⟩) 1 1, .string ⟨#[115, 110]⟩, .slice (some ⟨g - 1, 0, none⟩) 1 1] 42)
theorem nam_box {w : World} {X : ByteArray} {g b : Nat} {x : ByteArray} {u : Value} (h : BoxN w b x u) (hb : b < w.heap.size) : ((w.alloc (.cells #[.string ⟨#[111, 116, 104, 101, 114]⟩, .string X] 9)).alloc (.cells #[.string ⟨#[99, 110]⟩, .slice (some ⟨w.heap.size, 0, none⟩) 2 2, .string ⟨#[111, 98, 106, 101, 99, 116, 99, 108, 97, 115, 115]⟩, .slice (some ⟨g - 2, 0, none⟩) 1 1, .string ⟨#[115, 110]⟩, .slice (some ⟨g - 1, 0, none⟩) 1 1] 42)).cell? ⟨b, 1, none⟩ = some u ∧ ((w.alloc (.cells #[.string ⟨#[111, 116, 104, 101, 114]⟩, .string X] 9)).alloc (.cells #[.string ⟨#[99, 110]⟩, .slice (some ⟨w.heap.size, 0, none⟩) 2 2, .string ⟨#[111, 98, 106, 101, 99, 116, 99, 108, 97, 115, 115]⟩, .slice (some ⟨g - 2, 0, none⟩) 1 1, .string ⟨#[115, 110]⟩, .slice (some ⟨g - 1, 0, none⟩) 1 1] 42)).frozen? ⟨b, 1, none⟩ = false := by
  have hA : Below w.heap.size w ((w.alloc (.cells #[.string ⟨#[111, 116, 104, 101, 114]⟩, .string X] 9)).alloc (.cells #[.string ⟨#[99, 110]⟩, .slice (some ⟨w.heap.size, 0, none⟩) 2 2, .string ⟨#[111, 98, 106, 101, 99, 116, 99, 108, 97, 115, 115]⟩, .slice (some ⟨g - 2, 0, none⟩) 1 1, .string ⟨#[115, 110]⟩, .slice (some ⟨g - 1, 0, none⟩) 1 1] 42)) := ((Below.refl w.heap.size w).alloc (Nat.le_refl _) _).alloc (by simp) _
  exact ⟨(h.below hA hb).cells.2, (h.below hA hb).frozen.2⟩
theorem nam_cell {w : World} {X : ByteArray} {g b c o : Nat} (hc : c < w.heap.size) (hb : c ≠ b) : (namW w X g b).cell? ⟨c, o, none⟩ = w.cell? ⟨c, o, none⟩ := by
  rw [← cell_ne w ⟨b, 1, none⟩ (.slice (some ⟨w.heap.size + 1, 0, none⟩) 3 3) o hb]
  simp only [namW]
  have hz : (w.setCell ⟨b, 1, none⟩ (.slice (some ⟨w.heap.size + 1, 0, none⟩) 3 3)).heap.size = w.heap.size := lt_set
  generalize w.setCell ⟨b, 1, none⟩ (.slice (some ⟨w.heap.size + 1, 0, none⟩) 3 3) = W at hz ⊢
  exact ((((Below.refl W.heap.size W).alloc (Nat.le_refl _) _).alloc (by simp) _).cell (p := ⟨c, o, none⟩) (show c < W.heap.size by omega))
theorem nam_world {w : World} {g b : Nat} {X N D : ByteArray} {s : List UInt8} (hX : X.data.toList = 32 :: 32 :: low (namV s)) (h : PerAt w g N) (hg : g < b) (hb : b < w.heap.size) {u : Value} {c : Nat} (h7 : BoxN w c D u) (hcb : c < b) (h8 : BoxN w b D u) :
    PerAt (namW w X g b) g N ∧ IsA (namW w X g b).heap.size (namW w X g b) (namL s) (.slice (some ⟨w.heap.size + 1, 0, none⟩) 3 3) ∧ (∀ n, n ≤ b → n ≤ w.heap.size → Below n w (namW w X g b)) ∧ BoxN (namW w X g b) c D u ∧ BoxN (namW w X g b) b D (.slice (some ⟨w.heap.size + 1, 0, none⟩) 3 3) := by
  have hp0 : PerAt (w.setCell ⟨b, 1, none⟩ (.slice (some ⟨w.heap.size + 1, 0, none⟩) 3 3)) g N := h.up hg
  have hz : (w.setCell ⟨b, 1, none⟩ (.slice (some ⟨w.heap.size + 1, 0, none⟩) 3 3)).heap.size = w.heap.size := lt_set
  have h70 : BoxN (w.setCell ⟨b, 1, none⟩ (.slice (some ⟨w.heap.size + 1, 0, none⟩) 3 3)) c D u := h7.ne (by omega)
  have h80 : BoxN (w.setCell ⟨b, 1, none⟩ (.slice (some ⟨w.heap.size + 1, 0, none⟩) 3 3)) b D (.slice (some ⟨w.heap.size + 1, 0, none⟩) 3 3) := boxN_set1 h8
  have hbs : ∀ n, n ≤ b → Below n w (w.setCell ⟨b, 1, none⟩ (.slice (some ⟨w.heap.size + 1, 0, none⟩) 3 3)) := fun n hn => (Below.refl n w).setCell (p := ⟨b, 1, none⟩) hn _
  simp only [namW]
  generalize w.setCell ⟨b, 1, none⟩ (.slice (some ⟨w.heap.size + 1, 0, none⟩) 3 3) = W0 at hp0 hz h70 h80 hbs ⊢
  have ha : Below W0.heap.size W0 (W0.alloc (.cells #[.string ⟨#[111, 116, 104, 101, 114]⟩, .string X] 9)) := (Below.refl _ _).alloc (Nat.le_refl _) _
  have hs1 : (W0.alloc (.cells #[.string ⟨#[111, 116, 104, 101, 114]⟩, .string X] 9)).heap.size = w.heap.size + 1 := by simp; omega
  have e1 := heap_alloc_new W0 (.cells #[.string ⟨#[111, 116, 104, 101, 114]⟩, .string X] 9)
  rw [hz] at e1
  generalize W0.alloc (.cells #[.string ⟨#[111, 116, 104, 101, 114]⟩, .string X] 9) = W1 at ha hs1 e1 ⊢
  generalize hO : Obj.cells #[.string ⟨#[99, 110]⟩, .slice (some ⟨w.heap.size, 0, none⟩) 2 2, .string ⟨#[111, 98, 106, 101, 99, 116, 99, 108, 97, 115, 115]⟩, .slice (some ⟨g - 2, 0, none⟩) 1 1, .string ⟨#[115, 110]⟩, .slice (some ⟨g - 1, 0, none⟩) 1 1] 42 = O
  have hb2 : Below W1.heap.size W1 (W1.alloc O) := (Below.refl _ _).alloc (Nat.le_refl _) _
  have f2 := heap_alloc_new W1 O
  rw [hs1] at f2
  have hs2 : (W1.alloc O).heap.size = w.heap.size + 2 := by simp; omega
  have f1 := (hb2.block w.heap.size (by omega)).trans e1
  have hall : Below W0.heap.size W0 (W1.alloc O) := ha.trans (hb2.mono (by omega))
  generalize W1.alloc O = W3 at hs2 f2 f1 hall ⊢
  have hp3 : PerAt W3 g N := hp0.below hall (by omega)
  refine ⟨hp3, ?_, fun n hn hn2 => (hbs n hn).trans (hall.mono (by omega)), h70.below hall (by omega), h80.below hall (by omega)⟩
  subst hO
  have hgl := hp3.lt
  refine ⟨_, _, rfl, by unfold maxLen namL; simp, fun j hj => ?_⟩
  match j, hj with
  | 0, _ =>
    refine ⟨w.heap.size + 1, 0, _, rfl, by omega, by simp only [World.cell?, f2]; rfl, by simp only [World.cell?, f2]; rfl, ⟨_, _, rfl, by unfold maxLen; exact (show 2 ≤ 9223372036854775807 by omega), fun i hi => ⟨w.heap.size, 0, rfl, by omega, ?_⟩⟩⟩
    match i, hi with
    | 0, _ => simp only [World.cell?, f1]; rfl
    | 1, _ =>
      show _ = some (strV (32 :: 32 :: low (namV s)))
      rw [← hX, strV_whole]
      simp only [World.cell?, f1]; rfl
  | 1, _ => exact ⟨w.heap.size + 1, 0, _, rfl, by omega, by simp only [World.cell?, f2]; rfl, by simp only [World.cell?, f2]; rfl, isT_block hp3.b2 (by omega)⟩
  | 2, _ => exact ⟨w.heap.size + 1, 0, _, rfl, by omega, by simp only [World.cell?, f2]; rfl, by simp only [World.cell?, f2]; rfl, isT_block hp3.b3 (by omega)⟩

set_option maxRecDepth 100000 in
set_option maxHeartbeats 8000000 in
theorem names_walk (s : ByteArray) (up : Bool) (w : World) (hw : LaidW w) (hl : LaidF w) :
    Calls Tryz.prog 6 #[.string s, .bool up] w fun e w' => e = .returned (.bool true) ∧ Below w.heap.size w w' := by
  have HW := Lib.hid hw
  have HL := Lib.hid hl
  clear hw hl
  by_cases hs : 30 < s.size
  · have t1 : decide ((30 : Int) < (s.size : Int)) = true := by simp; omega
    go_enter Tryz.func6, Tryz.ntmps6
    go_wp2_with (go_at_call 13; refine (awake4_any _ HW.out HL.out).mono ?_; rintro e w2 ⟨rfl, hb2⟩; have HB2 := Lib.hid hb2; clear hb2)
    go_ret
    exact ⟨rfl, HB2.out⟩
  · have t1 : decide ((30 : Int) < (s.size : Int)) = false := by simp; omega
    have hs30 : s.data.toList.length ≤ 30 := by rw [bytes_len]; omega
    obtain ⟨T, hT⟩ : ∃ T, (⟨#[118]⟩ : ByteArray) ++ s = T := ⟨_, rfl⟩
    obtain ⟨V, hV⟩ : ∃ V, T ++ (⟨#[119]⟩ : ByteArray) = V := ⟨_, rfl⟩
    have hTs : T.size = 1 + s.size := by rw [← hT, ← bytes_len, app_list]; simp [bytes_len]; omega
    have hVl : V.data.toList = namV s.data.toList := by rw [← hV, ← hT, app_list, app_list]; rfl
    have hVs : V.size = s.size + 2 := by rw [← bytes_len, hVl]; simp [namV, bytes_len]
    have q1 : 1 + s.size ≤ 9223372036854775807 := by omega
    have q2 : T.size + 1 ≤ 9223372036854775807 := by omega
    obtain ⟨D, hD⟩ : ∃ D : ByteArray, D = ofL (namD s.data.toList) := ⟨_, rfl⟩
    have hDl : D.data.toList = namD s.data.toList := by rw [hD, ofL_list]
    have hDs : D.size ≤ 1000000 := by rw [← bytes_len, hDl]; exact key_len_name _ hs30
    have HTx := Lib.hid (fun W => pair_any W ⟨#[67, 78]⟩ V ⟨#[111]⟩ ⟨#[120]⟩ (by decide) (by omega) (by decide) (by decide) D (by rw [hDl, hVl]; rfl))
    have HPe := Lib.hid (fun W => person_any ⟨#[97, 110, 110]⟩ (by decide) W)
    have HLo := Lib.hid (fun W => lowerRef_any V W (by omega))
    obtain ⟨Lw, hLw⟩ : ∃ L, L = lowB V := ⟨_, rfl⟩
    have hLl : Lw.data.toList = low (namV s.data.toList) := by rw [hLw, lowB_list, hVl]
    have hLs : Lw.size = s.size + 2 := by rw [← bytes_len, hLl, low_length]; simp [namV, bytes_len]
    rw [← hLw] at HLo
    obtain ⟨X, hX⟩ : ∃ X, (⟨#[32, 32]⟩ : ByteArray) ++ Lw = X := ⟨_, rfl⟩
    have hXl : X.data.toList = 32 :: 32 :: low (namV s.data.toList) := by rw [← hX, app_list, hLl]; rfl
    have q3 : (9223372036854775807 < (2 : Nat) + Lw.size) = False := by simp; omega
    have q3' : (9223372036854775807 < (⟨#[32, 32]⟩ : ByteArray).size + Lw.size) = False := by rw [show (⟨#[32, 32]⟩ : ByteArray).size = 2 from rfl]; simp; omega
    have HDl := Lib.hid hDl
    have HDs := Lib.hid hDs
    have HXl := Lib.hid hXl
    have HS := Lib.hid hs30
    clear hTs hVl hVs hD hDl hDs hLw hLl hLs hXl hs hs30
    go_enter Tryz.func6, Tryz.ntmps6
    go_upto_region 8 with (first
      | (go_at_call 23; refine (HTx.out _).mono ?_; rintro e w2 ⟨rfl, hb2⟩; have HB2 := Lib.hid hb2; clear hb2)
      | (go_at_call 21; refine (HPe.out _).mono ?_; rintro e w3 ⟨D3, g, rfl, hD3, hp, hg, hb3⟩; have HP := Lib.hid hp; have HB3 := Lib.hid (bthen HB2.out hb3); have hgl := hp.lt; clear hD3 hp hb3))
    have hW8 : ∃ W8, W8 = (w3.alloc (.cells #[.string D, .slice (some ⟨g, 0, none⟩) 3 3] 24)).alloc (.cells #[.string D, .slice (some ⟨g, 0, none⟩) 3 3] 24) := ⟨_, rfl⟩
    obtain ⟨W8, hW8⟩ := hW8
    have hb7 : Below w3.heap.size w3 (w3.alloc (.cells #[.string D, .slice (some ⟨g, 0, none⟩) 3 3] 24)) := (Below.refl _ _).alloc (Nat.le_refl _) _
    have hs7 : (w3.alloc (.cells #[.string D, .slice (some ⟨g, 0, none⟩) 3 3] 24)).heap.size = w3.heap.size + 1 := by simp
    have hx7 := boxN_new w3 D (.slice (some ⟨g, 0, none⟩) 3 3)
    rw [← hW8]
    generalize w3.alloc (.cells #[.string D, .slice (some ⟨g, 0, none⟩) 3 3] 24) = W7 at hW8 hb7 hs7 hx7
    have hx8 := boxN_new W7 D (.slice (some ⟨g, 0, none⟩) 3 3)
    have hb8 : Below W7.heap.size W7 (W7.alloc (.cells #[.string D, .slice (some ⟨g, 0, none⟩) 3 3] 24)) := (Below.refl _ _).alloc (Nat.le_refl _) _
    have hs8 : (W7.alloc (.cells #[.string D, .slice (some ⟨g, 0, none⟩) 3 3] 24)).heap.size = W7.heap.size + 1 := by simp
    rw [← hW8] at hx8 hb8 hs8
    rw [hs7] at hx8 hs8
    have hx7' := hx7.below hb8 (by omega)
    have hp8 : PerAt W8 g ⟨#[97, 110, 110]⟩ := (HP.out.below hb7 hgl).below hb8 (by omega)
    have hB8 : Below w.heap.size w W8 := bthen HB3.out (hb7.trans (hb8.mono (by omega)))
    clear hW8 hb7 hb8 hx7
    obtain ⟨_, r1⟩ := hx7'.cells
    obtain ⟨r2, r3, r4, r5⟩ := hp8.cells
    have hst0 : W8.drew.cell? ⟨w3.heap.size, 1, none⟩ = some (.slice (some ⟨g, 0, none⟩) 3 3) ∧ W8.drew.cell? ⟨g, 2, none⟩ = some (.string ⟨#[111, 98, 106, 101, 99, 116, 99, 108, 97, 115, 115]⟩) ∧ W8.drew.cell? ⟨g, 3, none⟩ = some (.slice (some ⟨g - 2, 0, none⟩) 1 1) ∧ W8.drew.cell? ⟨g, 4, none⟩ = some (.string ⟨#[115, 110]⟩) ∧ W8.drew.cell? ⟨g, 5, none⟩ = some (.slice (some ⟨g - 1, 0, none⟩) 1 1) := ⟨r1, r2, r3, r4, r5⟩
    have HB8 := Lib.hid (hB8.trans ((Below.refl W8.heap.size W8).drew.mono hB8.size))
    have HX7 := Lib.hid hx7'
    have HX8 := Lib.hid hx8
    have HP8 := Lib.hid hp8
    have HSt := Lib.hid hst0
    have hsd : W8.drew.heap.size = W8.heap.size := rfl
    clear hx7' hx8 hp8 hB8 r1 r2 r3 r4 r5
    go_region_held3 (fun w' => w'.cell? ⟨w3.heap.size, 1, none⟩ = some (.slice (some ⟨g, 0, none⟩) 3 3) ∧ w'.cell? ⟨g, 2, none⟩ = some (.string ⟨#[111, 98, 106, 101, 99, 116, 99, 108, 97, 115, 115]⟩) ∧ w'.cell? ⟨g, 3, none⟩ = some (.slice (some ⟨g - 2, 0, none⟩) 1 1) ∧ w'.cell? ⟨g, 4, none⟩ = some (.string ⟨#[115, 110]⟩) ∧ w'.cell? ⟨g, 5, none⟩ = some (.slice (some ⟨g - 1, 0, none⟩) 1 1))
      (first | (with_reducible exact hst0) | (with_reducible exact hst4) | (with_reducible exact ⟨(nam_cell (by omega) (by omega)).trans hst4.1, (nam_cell (by omega) (by omega)).trans hst4.2.1, (nam_cell (by omega) (by omega)).trans hst4.2.2.1, (nam_cell (by omega) (by omega)).trans hst4.2.2.2.1, (nam_cell (by omega) (by omega)).trans hst4.2.2.2.2⟩) | (refine ⟨?_, ?_, ?_, ?_, ?_⟩ <;> simp [hst4, World.cell?_alloc_some]; done))
      (first
        | (go_at_call 24; ((with_reducible refine (HLo.out _).mono ?_); rintro e w4 ⟨rfl, hb4⟩); have hz4 : w3.heap.size + 2 ≤ w4.heap.size := by { have := hb4.size; omega }; have hst4 : w4.cell? ⟨w3.heap.size, 1, none⟩ = some (.slice (some ⟨g, 0, none⟩) 3 3) ∧ w4.cell? ⟨g, 2, none⟩ = some (.string ⟨#[111, 98, 106, 101, 99, 116, 99, 108, 97, 115, 115]⟩) ∧ w4.cell? ⟨g, 3, none⟩ = some (.slice (some ⟨g - 2, 0, none⟩) 1 1) ∧ w4.cell? ⟨g, 4, none⟩ = some (.string ⟨#[115, 110]⟩) ∧ w4.cell? ⟨g, 5, none⟩ = some (.slice (some ⟨g - 1, 0, none⟩) 1 1) := ⟨(hb4.cell (p := ⟨w3.heap.size, 1, none⟩) (show w3.heap.size < W8.drew.heap.size by omega)).trans HSt.out.1, (hb4.cell (p := ⟨g, 2, none⟩) (show g < W8.drew.heap.size by omega)).trans HSt.out.2.1, (hb4.cell (p := ⟨g, 3, none⟩) (show g < W8.drew.heap.size by omega)).trans HSt.out.2.2.1, (hb4.cell (p := ⟨g, 4, none⟩) (show g < W8.drew.heap.size by omega)).trans HSt.out.2.2.2.1, (hb4.cell (p := ⟨g, 5, none⟩) (show g < W8.drew.heap.size by omega)).trans HSt.out.2.2.2.2⟩; have HX7b := Lib.hid ((HX7.out.below (n := W8.heap.size) (Below.refl _ _).drew (by omega)).below hb4 (show w3.heap.size < W8.drew.heap.size by omega)); have HX8b := Lib.hid ((HX8.out.below (n := W8.heap.size) (Below.refl _ _).drew (by omega)).below hb4 (show w3.heap.size + 1 < W8.drew.heap.size by omega)); have HP4 := Lib.hid ((HP8.out.below (n := W8.heap.size) (Below.refl _ _).drew (by omega)).below hb4 (show g < W8.drew.heap.size by omega)); have HB4 := Lib.hid (bthen HB8.out hb4); have m1 := HX8b.out.frozen.2; have m2 := HX8b.out.cells.2; have m3 : w3.heap.size + 1 < w4.heap.size := (by omega); have m4 : w3.heap.size + 1 < w4.heap.size + 1 := (by omega); have m5 : w3.heap.size < w4.heap.size := (by omega); (obtain ⟨m6, m7⟩ := nam_box (X := X) (g := g) HX8b.out m3); clear hb4))
    all_goals
      go_split_ands
      have hn := nam_world (s := s.data.toList) HXl.out HP4.out (show g < w3.heap.size + 1 by omega) m3 HX7b.out (show w3.heap.size < w3.heap.size + 1 by omega) HX8b.out
      obtain ⟨W9, hW9⟩ : ∃ W9, W9 = namW w4 X g (w3.heap.size + 1) := ⟨_, rfl⟩
      rw [← hW9] at hn
      simp only [namW] at hW9
      rw [← hW9]
      obtain ⟨hp9, hi9, hb9, h79, h89⟩ := hn
      have hB9 : Below w.heap.size w W9 := HB4.out.trans (hb9 w.heap.size (by have := HB3.out.size; omega) HB4.out.size)
      have hcA := checkE_any D HDs.out (perL [97, 110, 110]) _ W9 (HW.out.below hB9) (HL.out.below hB9) hp9.isA
      rw [HDl.out, nam_no _ HS.out] at hcA
      have hcB := fun (W : World) (q : LaidW W) (q2 : LaidF W) (q3 : IsA W.heap.size W (namL s.data.toList) (.slice (some ⟨w4.heap.size + 1, 0, none⟩) 3 3)) => checkE_any D HDs.out (namL s.data.toList) _ W q q2 q3
      rw [HDl.out, nam_is _ HS.out] at hcB
      obtain ⟨p0, p1⟩ := h79.cells
      have HCA := Lib.hid hcA
      have HCB := Lib.hid hcB
      have HI9 := Lib.hid hi9
      have HB9 := Lib.hid hB9
      have H89 := Lib.hid h89
      have hz9 : w3.heap.size + 1 < W9.heap.size := by have := (hb9 0 (by omega) (by omega)).size; omega
      clear hcA hcB hi9 hB9 h89 h79 hp9 hb9 hW9 m1 m2 m6 m7
      go_wp2_with (first
        | (go_at_call 16; ((with_reducible refine (HCA.out).mono ?_); rintro e wa ⟨rfl, hba⟩); have HBa := Lib.hid (bthen HB9.out hba); have HIa := Lib.hid (HI9.out.below hba hba.size); (obtain ⟨p2, p3⟩ := (H89.out.below hba hz9).cells); clear hba)
        | (go_at_call 16; ((with_reducible refine (HCB.out _ (HW.out.below HBa.out) (HL.out.below HBa.out) HIa.out).mono ?_); rintro e wb ⟨rfl, hbb⟩); have HBb := Lib.hid (bthen HBa.out hbb); clear hbb)
        | (go_at_call 13; ((with_reducible refine (awake4_any _ (HW.out.below HBb.out) (HL.out.below HBb.out)).mono ?_); rintro e wc ⟨rfl, hbc⟩); have HBc := Lib.hid (bthen HBb.out hbc); clear hbc))
      go_ret
      exact ⟨rfl, HBc.out⟩
end Go.Proofs.YtjffidegmonkfaaGreatDoor
