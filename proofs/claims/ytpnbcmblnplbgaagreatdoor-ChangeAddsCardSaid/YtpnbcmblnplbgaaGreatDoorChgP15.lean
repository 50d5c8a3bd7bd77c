/- Several texts in one file: TrEntW, TrEntQ. -/
import Derived.Test.YtpnbcmblnplbgaaGreatDoorChgP14
import Derived.Test.YtpnbcmblnplbgaaGreatDoorChgP9
import Derived.Test.YtpnbcmblnplbgaaGreatDoorChgP5
import Derived.Deep.CutRange
import Derived.Test.YtpnbcmblnplbgaaGreatDoorChgP8
import Derived.Test.YtpnbcmblnplbgaaGreatDoorChgP6
namespace Go.Proofs.YtpnbcmblnplbgaaGreatDoor
open Go.RowKit
set_option linter.unusedVariables false
set_option linter.unusedSimpArgs false

def NB8 : Array Value := #[.string ⟨#[111, 61, 120]⟩, .string ⟨#[111, 117, 61, 97, 44, 111, 61, 120]⟩, .string ⟨#[111, 117, 61, 98, 44, 111, 61, 120]⟩, .string ⟨#[99, 110, 61, 110, 48, 44, 111, 117, 61, 97, 44, 111, 61, 120]⟩, .string ⟨#[99, 110, 61, 110, 49, 44, 111, 117, 61, 97, 44, 111, 61, 120]⟩, .string ⟨#[99, 110, 61, 110, 50, 44, 111, 117, 61, 98, 44, 111, 61, 120]⟩, .string ⟨#[99, 110, 61, 110, 51, 44, 111, 61, 120]⟩, .string ⟨#[99, 110, 61, 110, 52]⟩, .string ⟨#[111, 117, 61, 99, 44, 111, 117, 61, 97, 44, 111, 61, 120]⟩, .string ⟨#[99, 110, 61, 110, 53, 44, 111, 117, 61, 99, 44, 111, 117, 61, 97, 44, 111, 61, 120]⟩, .string ⟨#[111, 61, 121]⟩, .string ⟨#[99, 110, 61, 110, 48, 44, 111, 61, 121]⟩]
theorem nb8_at (k : Nat) (hk : k < 12) : NB8[k]? = some (.string (nmT8.getD k ⟨#[]⟩)) := by
  match k, hk with
  | 0, _ => rfl
  | 1, _ => rfl
  | 2, _ => rfl
  | 3, _ => rfl
  | 4, _ => rfl
  | 5, _ => rfl
  | 6, _ => rfl
  | 7, _ => rfl
  | 8, _ => rfl
  | 9, _ => rfl
  | 10, _ => rfl
  | 11, _ => rfl
  | n + 12, h => exact absurd h (by omega)
set_option maxRecDepth 100000 in
set_option maxHeartbeats 4000000 in
theorem names8_any (w : World) : Calls Tryz.prog 16 #[] w fun e w' => ∃ nb, nb = w.heap.size ∧ e = .returned (.slice (some ⟨nb, 0, none⟩) 12 12) ∧ Below w.heap.size w w' ∧ ∀ k, k < 12 → w'.cell? ⟨nb, k, none⟩ = some (.string (nmT8.getD k ⟨#[]⟩)) := by
  go_enter Tryz.func16, Tryz.ntmps16
  go_wp2
  go_ret
  refine ⟨_, rfl, rfl, (Below.refl _ _).alloc (Nat.le_refl _) _, fun k hk => ?_⟩
  have := nb8_at k hk
  have h := heap_alloc_new w (.cells NB8 9)
  unfold NB8 at h this
  simp only [World.cell?, h]
  exact this
def FE (B : Nat) (T : List Fk) (D : ByteArray) (M : List AT) (i : Nat) (v : Value) (w : World) : Prop := FK B T false i v w ∧
  (i = 16 → ∃ c PM, v = .slice (some ⟨c, 0, none⟩) M.length M.length ∧ B ≤ c ∧ w.heap[c]? = some (.cells (cellsP PM).toArray 56 (0, 0)) ∧ SaysM w PM M) ∧
  (i = 17 → ∃ c PM, v = .agg #[.string D, .slice (some ⟨c, 0, none⟩) M.length M.length] ∧ B ≤ c ∧ w.heap[c]? = some (.cells (cellsP PM).toArray 56 (0, 0)) ∧ SaysM w PM M) ∧
  (i = 18 → ∃ g, v = .pointer (some ⟨g, 0, none⟩) ∧ B ≤ g ∧ BoxN w g ⟨#[]⟩ (.slice none 0 0))
theorem FE.go {B : Nat} {T : List Fk} {D : ByteArray} {M : List AT} {i : Nat} {v : Value} {w w' : World} (h : FE B T D M i v w) (hb : Below w.heap.size w w') : FE B T D M i v w' := by
  have hk : ∀ {b : Nat} {o : Obj}, w.heap[b]? = some o → w'.heap[b]? = some o := fun e => (hb.block _ (Array.getElem?_eq_some_iff.1 e).1).trans e
  obtain ⟨h0, h1, h2, h3⟩ := h
  refine ⟨h0.go hb, fun e => ?_, fun e => ?_, fun e => ?_⟩
  · obtain ⟨c, PM, a1, a2, a3, a4⟩ := h1 e; exact ⟨c, PM, a1, a2, hk a3, saysM_below a4 hb⟩
  · obtain ⟨c, PM, a1, a2, a3, a4⟩ := h2 e; exact ⟨c, PM, a1, a2, hk a3, saysM_below a4 hb⟩
  · obtain ⟨g, a1, a2, a3⟩ := h3 e; exact ⟨g, a1, a2, hk a3⟩
theorem FE.lay {B : Nat} {T : List Fk} {D : ByteArray} {M : List AT} {i : Nat} {v : Value} {w : World} (h : FK B T false i v w) (hi : i < 16) : FE B T D M i v w :=
  ⟨h, fun e => by omega, fun e => by omega, fun e => by omega⟩
theorem raw_small (i x : Nat) (hi : i < 256) (hx : x < 256) : smallA (rawE i x) := by
  have hk : i % 12 < 12 := Nat.mod_lt _ (by decide)
  obtain ⟨_, _, _, ht, hv⟩ := nm_parse (i % 12) hk
  have hd := itoa_byte hx
  have hp := itoa_byte hi
  have hs := itoa_byte (n := x % 4) (by omega)
  have cl8 : ∀ t : List UInt8, (clB t).data.toList.length ≤ 20 := fun t => by
    unfold clB
    split
    · decide
    · split <;> decide
  have one : ∀ v : List UInt8, v.length ≤ 100 → smallT [v] := fun v hv => ⟨by simp, fun s hs => by rw [List.mem_singleton] at hs; rw [hs]; omega⟩
  refine ⟨by have := raw_len i x; omega, fun a ha => ?_⟩
  have ha : a ∈ fstE (i % 12) x ++ snE x ++ pwE i := by
    unfold rawE at ha
    simp only [List.mem_append] at ha ⊢
    rcases ha with h | h
    · exact .inl (.inl h)
    · split at h
      · rw [List.mem_append] at h
        rcases h with h | h
        · exact .inl (.inr h)
        · split at h
          · exact .inr h
          · cases h
      · cases h
  unfold fstE snE pwE at ha
  simp only [List.cons_append, List.nil_append, List.mem_cons, List.not_mem_nil, or_false] at ha
  rcases ha with rfl | rfl | rfl | rfl | rfl
  · exact ⟨by show (avE (i % 12)).1.length ≤ 1000000; omega, one _ (by omega)⟩
  · exact ⟨by show 11 ≤ 1000000; omega, one _ (by have := cl8 (avE (i % 12)).1; omega)⟩
  · exact ⟨by show 11 ≤ 1000000; omega, one _ (by unfold dscE; simp; omega)⟩
  · exact ⟨by show 2 ≤ 1000000; omega, one _ (by rw [List.length_cons]; omega)⟩
  · exact ⟨by show 12 ≤ 1000000; omega, one _ (by simp; omega)⟩
def EnJ (B g rb : Nat) (D : ByteArray) (u : Value) (P : List PT) (L : List AT) (q : Bool) (W : World) : Prop := BoxN W g D u ∧ BoxN W rb ⟨#[]⟩ (.slice none 0 0) ∧ (q = false → RowP B W u P ∧ SaysM W P L)
theorem EnJ.go {B g rb : Nat} {D : ByteArray} {u : Value} {P : List PT} {L : List AT} {q : Bool} {W W' : World} (h : EnJ B g rb D u P L q W) (hb : Below W.heap.size W W') : EnJ B g rb D u P L q W' :=
  ⟨h.1.below hb (Array.getElem?_eq_some_iff.1 h.1).1, h.2.1.below hb (Array.getElem?_eq_some_iff.1 h.2.1).1, fun e => ⟨rowP_below (h.2.2 e).1 hb, saysM_below (h.2.2 e).2 hb⟩⟩
theorem EnJ.loud {B g rb : Nat} {D : ByteArray} {u : Value} {P : List PT} {L : List AT} {q : Bool} {W W' : World} (h : EnJ B g rb D u P L q W) (hk : ∀ (b : Nat) (cs : Array Value) (e : TypeId), W.heap[b]? = some (.cells cs e (0, 0)) → e ≠ 56 → W'.heap[b]? = W.heap[b]?) : EnJ B g rb D u P L true W' :=
  ⟨(hk _ _ _ h.1 (by decide)).trans h.1, (hk _ _ _ h.2.1 (by decide)).trans h.2.1, fun e => by cases e⟩
theorem enJ_store {B g rb : Nat} {D : ByteArray} {u s : Value} {P P2 : List PT} {L L2 : List AT} {W : World} {q : Bool} (h : EnJ B g rb D u P L q W) (hr : RowP B W s P2) (hs : SaysM W P2 L2) (hne : rb ≠ g) :
    BoxN (W.setCell ⟨g, 1, none⟩ s) g D s ∧ BoxN (W.setCell ⟨g, 1, none⟩ s) rb ⟨#[]⟩ (.slice none 0 0) ∧ RowP B (W.setCell ⟨g, 1, none⟩ s) s P2 ∧ SaysM (W.setCell ⟨g, 1, none⟩ s) P2 L2 ∧ W.cell? ⟨g, 1, none⟩ = some u ∧ W.frozen? ⟨g, 1, none⟩ = false := by
  obtain ⟨hb, hk, _⟩ := h
  exact ⟨boxN_store1 hb, (block_ne W ⟨g, 1, none⟩ s hne).trans hk, (rowP_setE hr hs hb).1, (rowP_setE hr hs hb).2, hb.cells.2, hb.free 1⟩
theorem raw_parts (i x : Nat) : rawE i x = fstE (i % 12) x ++ (if isP (i % 12) = true then snE x ++ (if x % 3 = 0 then pwE i else []) else []) := rfl
theorem clB_person (k : Nat) : ((clB (avE k).1).toList == [112, 101, 114, 115, 111, 110]) = isP k := by
  unfold clB isP
  by_cases h1 : (avE k).1 = [111]
  · rw [if_pos h1]; simp only [h1]; kernel_rfl
  · rw [if_neg h1]
    by_cases h2 : (avE k).1 = [111, 117]
    · rw [if_pos h2]; simp only [h2]; kernel_rfl
    · rw [if_neg h2]; simp only [h1, h2]; kernel_rfl
theorem field_dn0 (w : World) (a : Option Addr) (n c : Nat) (b : Bool) : (Instr.field 53 (.agg #[.slice a n c, .bool b]) 0).run Tryz.prog w = .ok (.slice a n c) w := by kernel_rfl
set_option maxRecDepth 100000 in
set_option maxHeartbeats 4000000 in
theorem entry8_any (i x : Nat) (hi : i < 256) (hx : x < 256) (w : World) :
    Calls Tryz.prog 5 #[.int .i64 i, .int .u8 x] w fun e w' => ∃ D v, e = .returned (.agg #[.string D, v]) ∧ D.data.toList = (entE i x).1 ∧ IsA w'.heap.size w' (entE i x).2 v ∧ Below w.heap.size w w' := by
  obtain ⟨k, hk⟩ : ∃ k, k = i % 12 := ⟨_, rfl⟩
  have hk12 : k < 12 := by omega
  have m12 : (i : Int).tmod 12 = (k : Int) := by rw [Int.tmod_eq_emod_of_nonneg (by omega)]; omega
  obtain ⟨l, hl⟩ := nm_first hk12
  obtain ⟨_, _, hn30, ht3, hv3⟩ := nm_parse k hk12
  obtain ⟨D, hD⟩ : ∃ D : ByteArray, D = nmT8.getD k ⟨#[]⟩ := ⟨_, rfl⟩
  have hDl : D.data.toList = nmE k := by rw [hD]; rfl
  have hDs : D.size ≤ 100000 := by rw [← bytes_len, hDl]; omega
  have hpa := fun w => parseRef_any D hDs w
  rw [hDl, hl] at hpa
  have HPa := Lib.hid hpa
  have HNb := Lib.hid (nb8_at k hk12)
  have HNm := Lib.hid hD
  obtain ⟨r, hr⟩ : ∃ r, r = avE k := ⟨_, rfl⟩
  rw [← hr] at HPa ht3 hv3
  have HR := Lib.hid hr
  have HK := Lib.hid hk
  have hki : (k : Int) < 12 := by omega
  have hk0 : (0 : Int) ≤ (k : Int) := by omega
  have HX1 := Lib.hid (boxN_new w ⟨#[]⟩ (.slice none 0 0))
  have HB1 := Lib.hid ((Below.refl w.heap.size w).alloc (Nat.le_refl _) (.cells #[.string ⟨#[]⟩, .slice none 0 0] 27))
  obtain ⟨TA, hTA⟩ : ∃ T : ByteArray, strV r.1 = .string T := ⟨_, rfl⟩
  obtain ⟨VA, hVA⟩ : ∃ T : ByteArray, strV r.2 = .string T := ⟨_, rfl⟩
  have HTA := Lib.hid hTA
  have HVA := Lib.hid hVA
  clear hTA hVA
  have hfd := fun w a n c b => field_dn0 w a n c b
  clear hpa hl hD hr hk
  go_enter Tryz.func5, Tryz.ntmps5
  go_upto_region 3 with (first
    | (go_at_call 16; refine (names8_any _).mono ?_; rintro e w2 ⟨nb, hnb, rfl, hb2, hc2⟩; replace hc2 := hc2 k hk12; rw [← HNm.out] at hc2; have HX2 := Lib.hid (HX1.out.below hb2 (by simp)); have HB2 := Lib.hid (bthen HB1.out hb2); clear hb2 hnb)
    | (go_at_call 17; (refine (HPa.out _).mono ?_; rintro e w3 ⟨hb3, v3, rfl, hil⟩; (obtain ⟨la, lc, rfl, _, hl0⟩ := id hil); obtain ⟨b, off, rfl, hbl, d0, d1⟩ := hl0 0 (Nat.succ_pos _); (rw [Nat.zero_mul, Nat.add_zero, List.getElem_cons_zero, HTA.out] at d0); (rw [Nat.zero_mul, Nat.add_zero, List.getElem_cons_zero, HVA.out] at d1);  have hlt : decide ((0 : Int) < ((l.length : Nat) : Int) + 1) = true := decide_eq_true (by omega); have HX3 := Lib.hid (HX2.out.below hb3 (Array.getElem?_eq_some_iff.1 HX2.out).1); have HB3 := Lib.hid (bthen HB2.out hb3); clear hb3 hl0 hil hc2)))
  obtain ⟨W4, hW4⟩ : ∃ W, W = w3.alloc (.cells #[.string TA, .string VA] 50) := ⟨_, rfl⟩
  rw [← hW4]
  have hb4 : Below w3.heap.size w3 W4 := by rw [hW4]; exact (Below.refl _ _).alloc (Nat.le_refl _) _
  have hx4 : W4.heap[w3.heap.size]? = some (.cells #[.string TA, .string VA] 50 (0, 0)) := by rw [hW4]; exact heap_alloc_new w3 _
  obtain ⟨pb, hpb⟩ : ∃ p, p = w3.heap.size := ⟨_, rfl⟩
  have HX4 := Lib.hid (HX3.out.below hb4 (Array.getElem?_eq_some_iff.1 HX3.out).1)
  have HB4 := Lib.hid (bthen HB3.out hb4)
  have hpw : pb < W4.heap.size := by rw [hpb]; exact (Array.getElem?_eq_some_iff.1 hx4).1
  have c0 : W4.cell? ⟨pb, 0, none⟩ = some (.string TA) := by rw [hpb]; simp [World.cell?, hx4]
  have c1 : W4.cell? ⟨pb, 1, none⟩ = some (.string VA) := by rw [hpb]; simp [World.cell?, hx4]
  rw [← hpb]
  have HVl : Hid (VA.data.toList = r.2) := Lib.hid (by have := HVA.out; unfold strV at this; injection this with e; rw [← e])
  have hTl : TA.data.toList = r.1 := by have := HTA.out; unfold strV at this; injection this with e; rw [← e]
  obtain ⟨C1, hC1⟩ : ∃ C, C = if r.1 = [111] then (⟨#[111, 114, 103, 97, 110, 105, 122, 97, 116, 105, 111, 110]⟩ : ByteArray) else (⟨#[112, 101, 114, 115, 111, 110]⟩ : ByteArray) := ⟨_, rfl⟩
  have HC1 := Lib.hid hC1
  obtain ⟨g1, hg1⟩ : ∃ g, g = (TA.toList == [111]) := ⟨_, rfl⟩
  have HG1 := Lib.hid hg1
  have q1 : (⟨#[111]⟩ : ByteArray).toList = [111] := by kernel_rfl
  have q2 : (⟨#[111, 117]⟩ : ByteArray).toList = [111, 117] := by kernel_rfl
  have hg1t : r.1 = [111] → g1 = true := fun h => by rw [hg1, toList_eq' (show TA.data.toList = (⟨#[111]⟩ : ByteArray).data.toList by rw [hTl, h]), q1]; rfl
  have hg1f : ¬ r.1 = [111] → g1 = false := fun h => by
    have e := toList_ne (show ¬ TA.data.toList = (⟨#[111]⟩ : ByteArray).data.toList by rw [hTl]; exact h)
    rw [q1] at e
    rw [hg1]; simpa using e
  obtain ⟨g2, hg2⟩ : ∃ g, g = (TA.toList == [111, 117]) := ⟨_, rfl⟩
  have HG2 := Lib.hid hg2
  have hg2t : r.1 = [111, 117] → g2 = true := fun h => by rw [hg2, toList_eq' (show TA.data.toList = (⟨#[111, 117]⟩ : ByteArray).data.toList by rw [hTl, h]), q2]; rfl
  have hg2f : ¬ r.1 = [111, 117] → g2 = false := fun h => by
    have e := toList_ne (show ¬ TA.data.toList = (⟨#[111, 117]⟩ : ByteArray).data.toList by rw [hTl]; exact h)
    rw [q2] at e
    rw [hg2]; simpa using e
  have HT1 := Lib.hid hg1t
  have HF1 := Lib.hid hg1f
  have HT2 := Lib.hid hg2t
  have HF2 := Lib.hid hg2f
  clear hW4 hb4 hx4 hpb hfd d0 d1 hbl hlt hg1t hg1f hg2t hg2f hg1 hg2 q1 q2 hC1
  go_upto_if 21 with fail
  rw [← HG1.out]
  go_cut [7] from 22 to 24 (fun s7 wx => s7 = .string C1 ∧ W4 = wx)
  case first =>
    by_cases h1 : r.1 = [111]
    · have t1 := HT1.out h1
      have e := HC1.out
      rw [if_pos h1] at e
      subst t1
      subst e
      go_wp2_with fail
      go_meet
      exact ⟨rfl, rfl⟩
    · have t1 := HF1.out h1
      have e := HC1.out
      rw [if_neg h1] at e
      subst t1
      subst e
      go_wp2_with fail
      go_meet
      exact ⟨rfl, rfl⟩
  case rest =>
    obtain ⟨rfl, rfl⟩ := hcut
    obtain ⟨C, hC⟩ : ∃ C, C = clB r.1 := ⟨_, rfl⟩
    have HC := Lib.hid hC
    clear hC
    go_upto_if 24 with fail
    rw [← HG2.out]
    go_cut [7] from 24 to 24 (fun s7 wx => s7 = .string C ∧ W4 = wx)
    case first =>
      by_cases h2 : r.1 = [111, 117]
      · have t2 := HT2.out h2
        have e := HC.out
        unfold clB at e
        rw [if_neg (by rw [h2]; simp), if_pos h2] at e
        subst t2
        subst e
        go_wp2_with fail
        go_meet
        exact ⟨rfl, rfl⟩
      · have t2 := HF2.out h2
        have e : C1 = C := by
          rw [HC1.out, HC.out]
          unfold clB
          by_cases h1 : r.1 = [111]
          · rw [if_pos h1, if_pos h1]
          · rw [if_neg h1, if_neg h1, if_neg h2]
        subst t2
        go_wp2_with fail
        go_meet
        first | exact ⟨rfl, rfl⟩ | exact ⟨by rw [e], rfl⟩
    case rest =>
      obtain ⟨rfl, rfl⟩ := hcut
      go_upto_region 8 with fail
      have hgr0 := Below.refl W4.heap.size W4
      obtain ⟨TD, hTD⟩ : ∃ T, T = ofL (Lib.itoa (x : Int)) := ⟨_, rfl⟩
      have hDg : ∀ w, Calls Tryz.prog 18 #[.int .i64 (x : Int)] w fun e w' => e = .returned (.string TD) ∧ Below w.heap.size w w' := fun w => by rw [hTD]; exact digits_any (x : Int) (by omega) (by omega) w
      have HDg := Lib.hid hDg
      have hTs : TD.size ≤ 3 := by rw [← bytes_len, hTD, ofL_list]; exact itoa_byte hx
      obtain ⟨TB, hTB⟩ : ∃ P, (⟨#[100]⟩ : ByteArray) ++ TD = P := ⟨_, rfl⟩
      have hTBl : TB.data.toList = dscE x := by rw [← hTB, app_list, hTD, ofL_list]; rfl
      have qTB : 1 + TD.size ≤ 9223372036854775807 := by omega
      have hw8 : IntKind.i64.wrap (x : Int) = (x : Int) := IntWalk.i64_in _ (by omega)
      refine region_factsB (by kernel_rfl) (FE W4.heap.size [.is (.string D), .is (.pointer (some ⟨pb, 0, none⟩)), .is (.string TA), .is (.pointer (some ⟨pb, 1, none⟩)), .is (.string VA), .val #[.string VA] (fun b => .slice (some ⟨b, 0, none⟩) 1 1), .val #[.string VA] (fun b => .agg #[.string TA, .slice (some ⟨b, 0, none⟩) 1 1]), .is (.string C), .val #[.string C] (fun b => .slice (some ⟨b, 0, none⟩) 1 1), .val #[.string C] (fun b => .agg #[.string ⟨#[111, 98, 106, 101, 99, 116, 99, 108, 97, 115, 115]⟩, .slice (some ⟨b, 0, none⟩) 1 1]), .is (.int .u8 (x : Int)), .is (.int .i64 (x : Int)), .is (.string TD), .is (.string TB), .val #[.string TB] (fun b => .slice (some ⟨b, 0, none⟩) 1 1), .val #[.string TB] (fun b => .agg #[.string ⟨#[100, 101, 115, 99, 114, 105, 112, 116, 105, 111, 110]⟩, .slice (some ⟨b, 0, none⟩) 1 1])] D [(TA.data.toList, [VA.data.toList]), ([111, 98, 106, 101, 99, 116, 99, 108, 97, 115, 115], [C.data.toList]), ([100, 101, 115, 99, 114, 105, 112, 116, 105, 111, 110], [TB.data.toList])]) (fun w w' => Below w.heap.size w w') (fun _ _ _ _ h hb => h.go hb) (fun _ _ _ h1 h2 => bthen h1 h2) (Below.refl _ _).drew (by kernel_rfl) rfl ?hs ?hl
      case hs =>
        intro listed a W hk i o ho hi hc
        have e1 := hk.read (t := 1) (by kernel_rfl) rfl
        have e5 := hk.read (t := 5) (by kernel_rfl) rfl
        have e6 := hk.read (t := 6) (by kernel_rfl) rfl
        have e7 := hk.read (t := 7) (by kernel_rfl) rfl
        have hgr : Below W4.heap.size W4 W := hk.grown
        match i, hi with
        | 0, _ =>
          obtain rfl := Option.some.inj ho
          exact wpOp_val rfl rfl (v := .string D) (w' := W) (by simp [go_sem, e5]) ⟨_, _, rfl, rfl, Below.refl _ _, FE.lay rfl (by decide)⟩
        | 1, _ =>
          obtain rfl := Option.some.inj ho
          exact wpOp_val rfl rfl (v := .pointer (some ⟨pb, 0, none⟩)) (w' := W) (by simp [go_sem, e6]) ⟨_, _, rfl, rfl, Below.refl _ _, FE.lay rfl (by decide)⟩
        | 2, _ =>
          obtain rfl := Option.some.inj ho
          obtain ⟨v1, g1, f1⟩ := hk.got (j := 1) rfl rfl (hc ⟨1, .data⟩ (by simp) rfl)
          obtain rfl : v1 = _ := f1.1
          have d := (hgr.cell (p := ⟨pb, 0, none⟩) hpw).trans c0
          exact wpOp_val rfl rfl (v := .string TA) (w' := W) (by simp [go_sem, g1, d]) ⟨_, _, rfl, rfl, Below.refl _ _, FE.lay rfl (by decide)⟩
        | 3, _ =>
          obtain rfl := Option.some.inj ho
          exact wpOp_val rfl rfl (v := .pointer (some ⟨pb, 1, none⟩)) (w' := W) (by simp [go_sem, e6]) ⟨_, _, rfl, rfl, Below.refl _ _, FE.lay rfl (by decide)⟩
        | 4, _ =>
          obtain rfl := Option.some.inj ho
          obtain ⟨v3, g3, f3⟩ := hk.got (j := 3) rfl rfl (hc ⟨3, .data⟩ (by simp) rfl)
          obtain rfl : v3 = _ := f3.1
          have d := (hgr.cell (p := ⟨pb, 1, none⟩) hpw).trans c1
          exact wpOp_val rfl rfl (v := .string VA) (w' := W) (by simp [go_sem, g3, d]) ⟨_, _, rfl, rfl, Below.refl _ _, FE.lay rfl (by decide)⟩
        | 5, _ =>
          obtain rfl := Option.some.inj ho
          obtain ⟨v4, g4, f4⟩ := hk.got (j := 4) rfl rfl (hc ⟨4, .data⟩ (by simp) rfl)
          obtain rfl : v4 = _ := f4.1
          exact wpOp_val rfl rfl (v := .slice (some ⟨W.heap.size, 0, none⟩) 1 1) (w' := W.alloc (.cells #[.string VA] 9)) (by simp [go_sem, g4]) ⟨_, _, rfl, rfl, (Below.refl _ _).alloc (Nat.le_refl _) _, FE.lay ⟨_, rfl, heap_alloc_new W _⟩ (by decide)⟩
        | 6, _ =>
          obtain rfl := Option.some.inj ho
          obtain ⟨v2, g2, f2⟩ := hk.got (j := 2) rfl rfl (hc ⟨2, .data⟩ (by simp) rfl)
          obtain rfl : v2 = _ := f2.1
          obtain ⟨v5, g5, f5⟩ := hk.got (j := 5) rfl rfl (hc ⟨5, .data⟩ (by simp) rfl)
          obtain ⟨b5, rfl, hb5⟩ := f5.1
          exact wpOp_val rfl rfl (v := .agg #[.string TA, .slice (some ⟨b5, 0, none⟩) 1 1]) (w' := W) (by simp [go_sem, g2, g5]) ⟨_, _, rfl, rfl, Below.refl _ _, FE.lay ⟨_, rfl, hb5⟩ (by decide)⟩
        | 7, _ =>
          obtain rfl := Option.some.inj ho
          exact wpOp_val rfl rfl (v := .string C) (w' := W) (by simp [go_sem, e7]) ⟨_, _, rfl, rfl, Below.refl _ _, FE.lay rfl (by decide)⟩
        | 8, _ =>
          obtain rfl := Option.some.inj ho
          obtain ⟨v7, g7, f7⟩ := hk.got (j := 7) rfl rfl (hc ⟨7, .data⟩ (by simp) rfl)
          obtain rfl : v7 = _ := f7.1
          exact wpOp_val rfl rfl (v := .slice (some ⟨W.heap.size, 0, none⟩) 1 1) (w' := W.alloc (.cells #[.string C] 9)) (by simp [go_sem, g7]) ⟨_, _, rfl, rfl, (Below.refl _ _).alloc (Nat.le_refl _) _, FE.lay ⟨_, rfl, heap_alloc_new W _⟩ (by decide)⟩
        | 9, _ =>
          obtain rfl := Option.some.inj ho
          obtain ⟨v8, g8, f8⟩ := hk.got (j := 8) rfl rfl (hc ⟨8, .data⟩ (by simp) rfl)
          obtain ⟨b8, rfl, hb8⟩ := f8.1
          exact wpOp_val rfl rfl (v := .agg #[.string ⟨#[111, 98, 106, 101, 99, 116, 99, 108, 97, 115, 115]⟩, .slice (some ⟨b8, 0, none⟩) 1 1]) (w' := W) (by simp [go_sem, g8]) ⟨_, _, rfl, rfl, Below.refl _ _, FE.lay ⟨_, rfl, hb8⟩ (by decide)⟩
        | 10, _ =>
          obtain rfl := Option.some.inj ho
          exact wpOp_val rfl rfl (v := .int .u8 (x : Int)) (w' := W) (by simp [go_sem, e1]) ⟨_, _, rfl, rfl, Below.refl _ _, FE.lay rfl (by decide)⟩
        | 11, _ =>
          obtain rfl := Option.some.inj ho
          obtain ⟨v10, g10, f10⟩ := hk.got (j := 10) rfl rfl (hc ⟨10, .data⟩ (by simp) rfl)
          obtain rfl : v10 = _ := f10.1
          exact wpOp_val rfl rfl (v := .int .i64 (x : Int)) (w' := W) (by simp [go_sem, g10, hw8]) ⟨_, _, rfl, rfl, Below.refl _ _, FE.lay rfl (by decide)⟩
        | 12, _ =>
          obtain rfl := Option.some.inj ho
          obtain ⟨v11, g11, f11⟩ := hk.got (j := 11) rfl rfl (hc ⟨11, .data⟩ (by simp) rfl)
          obtain rfl : v11 = _ := f11.1
          refine wpOp_call rfl rfl (f := 18) (args := #[.int .i64 (x : Int)]) (by simp [go_sem, g11]) ((HDg.out W).mono ?_)
          rintro e w2 ⟨rfl, hb2⟩
          exact ⟨_, rfl, _, _, rfl, rfl, hb2, FE.lay rfl (by decide)⟩
        | 13, _ =>
          obtain rfl := Option.some.inj ho
          obtain ⟨v12, g12, f12⟩ := hk.got (j := 12) rfl rfl (hc ⟨12, .data⟩ (by simp) rfl)
          obtain rfl : v12 = _ := f12.1
          exact wpOp_val rfl rfl (v := .string TB) (w' := W) (by simp [go_sem, g12, hTB, qTB]) ⟨_, _, rfl, rfl, Below.refl _ _, FE.lay rfl (by decide)⟩
        | 14, _ =>
          obtain rfl := Option.some.inj ho
          obtain ⟨v13, g13, f13⟩ := hk.got (j := 13) rfl rfl (hc ⟨13, .data⟩ (by simp) rfl)
          obtain rfl : v13 = _ := f13.1
          exact wpOp_val rfl rfl (v := .slice (some ⟨W.heap.size, 0, none⟩) 1 1) (w' := W.alloc (.cells #[.string TB] 9)) (by simp [go_sem, g13]) ⟨_, _, rfl, rfl, (Below.refl _ _).alloc (Nat.le_refl _) _, FE.lay ⟨_, rfl, heap_alloc_new W _⟩ (by decide)⟩
        | 15, _ =>
          obtain rfl := Option.some.inj ho
          obtain ⟨v14, g14, f14⟩ := hk.got (j := 14) rfl rfl (hc ⟨14, .data⟩ (by simp) rfl)
          obtain ⟨b14, rfl, hb14⟩ := f14.1
          exact wpOp_val rfl rfl (v := .agg #[.string ⟨#[100, 101, 115, 99, 114, 105, 112, 116, 105, 111, 110]⟩, .slice (some ⟨b14, 0, none⟩) 1 1]) (w' := W) (by simp [go_sem, g14]) ⟨_, _, rfl, rfl, Below.refl _ _, FE.lay ⟨_, rfl, hb14⟩ (by decide)⟩
        | 16, _ =>
          obtain rfl := Option.some.inj ho
          obtain ⟨v6, g6, f6⟩ := hk.got (j := 6) rfl rfl (hc ⟨6, .data⟩ (by simp) rfl)
          obtain ⟨b6, rfl, hb6⟩ := f6.1
          obtain ⟨v9, g9, f9⟩ := hk.got (j := 9) rfl rfl (hc ⟨9, .data⟩ (by simp) rfl)
          obtain ⟨b9, rfl, hb9⟩ := f9.1
          obtain ⟨v15, g15, f15⟩ := hk.got (j := 15) rfl rfl (hc ⟨15, .data⟩ (by simp) rfl)
          obtain ⟨b15, rfl, hb15⟩ := f15.1
          have l6 := (Array.getElem?_eq_some_iff.1 hb6).1
          have l9 := (Array.getElem?_eq_some_iff.1 hb9).1
          have l15 := (Array.getElem?_eq_some_iff.1 hb15).1
          exact wpOp_val rfl rfl (v := .slice (some ⟨W.heap.size, 0, none⟩) 3 3) (w' := W.alloc (.cells #[.string TA, .slice (some ⟨b6, 0, none⟩) 1 1, .string ⟨#[111, 98, 106, 101, 99, 116, 99, 108, 97, 115, 115]⟩, .slice (some ⟨b9, 0, none⟩) 1 1, .string ⟨#[100, 101, 115, 99, 114, 105, 112, 116, 105, 111, 110]⟩, .slice (some ⟨b15, 0, none⟩) 1 1] 56)) (by simp [go_sem, g6, g9, g15]) ⟨_, _, rfl, rfl, (Below.refl _ _).alloc (Nat.le_refl _) _, ⟨trivial, fun _ => ⟨W.heap.size, [(TA.data.toList, .slice (some ⟨b6, 0, none⟩) 1 1), ([111, 98, 106, 101, 99, 116, 99, 108, 97, 115, 115], .slice (some ⟨b9, 0, none⟩) 1 1), ([100, 101, 115, 99, 114, 105, 112, 116, 105, 111, 110], .slice (some ⟨b15, 0, none⟩) 1 1)], rfl, hgr.size, by rw [show (cellsP [(TA.data.toList, .slice (some ⟨b6, 0, none⟩) 1 1), ([111, 98, 106, 101, 99, 116, 99, 108, 97, 115, 115], .slice (some ⟨b9, 0, none⟩) 1 1), ([100, 101, 115, 99, 114, 105, 112, 116, 105, 111, 110], .slice (some ⟨b15, 0, none⟩) 1 1)]).toArray = #[.string TA, .slice (some ⟨b6, 0, none⟩) 1 1, .string ⟨#[111, 98, 106, 101, 99, 116, 99, 108, 97, 115, 115]⟩, .slice (some ⟨b9, 0, none⟩) 1 1, .string ⟨#[100, 101, 115, 99, 114, 105, 112, 116, 105, 111, 110]⟩, .slice (some ⟨b15, 0, none⟩) 1 1] from by simp [cellsP, strV_whole, strV]]; exact heap_alloc_new W _, saysM_app (saysM_one (X := TA) ((heap_alloc_old W _ l6).trans hb6)) (saysM_app (saysM_one (X := ⟨#[111, 98, 106, 101, 99, 116, 99, 108, 97, 115, 115]⟩) ((heap_alloc_old W _ l9).trans hb9)) (saysM_one (X := ⟨#[100, 101, 115, 99, 114, 105, 112, 116, 105, 111, 110]⟩) ((heap_alloc_old W _ l15).trans hb15)))⟩, fun h => absurd h (by decide), fun h => absurd h (by decide)⟩⟩
        | 17, _ =>
          obtain rfl := Option.some.inj ho
          obtain ⟨v0, g0, f0⟩ := hk.got (j := 0) rfl rfl (hc ⟨0, .data⟩ (by simp) rfl)
          obtain rfl : v0 = _ := f0.1
          obtain ⟨v16, g16, f16⟩ := hk.got (j := 16) rfl rfl (hc ⟨16, .data⟩ (by simp) rfl)
          obtain ⟨c, PM, rfl, hcB, hcc, hps⟩ := f16.2.1 rfl
          exact wpOp_val rfl rfl (v := .agg #[.string D, .slice (some ⟨c, 0, none⟩) 3 3]) (w' := W) (by simp [go_sem, g0, g16]) ⟨_, _, rfl, rfl, Below.refl _ _, ⟨trivial, fun h => absurd h (by decide), fun _ => ⟨c, PM, rfl, hcB, hcc, hps⟩, fun h => absurd h (by decide)⟩⟩
        | 18, _ =>
          obtain rfl := Option.some.inj ho
          exact wpOp_val rfl rfl (v := .pointer (some ⟨W.heap.size, 0, none⟩)) (w' := W.alloc (.cells #[.string ⟨#[]⟩, .slice none 0 0] 27)) (by simp [go_sem]) ⟨_, _, rfl, rfl, (Below.refl _ _).alloc (Nat.le_refl _) _, ⟨trivial, fun h => absurd h (by decide), fun h => absurd h (by decide), fun _ => ⟨W.heap.size, rfl, hgr.size, boxN_new W _ _⟩⟩⟩
        | m + 19, h => exact absurd h (by simp)
      case hl =>
        intro listed a W hk hall
        obtain ⟨v17, g17, f17⟩ := hk.got (j := 17) rfl rfl (hall 17 (by simp))
        obtain ⟨v18, g18, f18⟩ := hk.got (j := 18) rfl rfl (hall 18 (by simp))
        obtain ⟨c, PM, rfl, hcB, hcc, hps⟩ := f17.2.2.1 rfl
        obtain ⟨g, rfl, hgB, hgx⟩ := f18.2.2.2 rfl
        obtain ⟨q0, q1⟩ := hgx.cells
        have q2 := hgx.free 0
        have q3 := (boxN_store0 (y := D) hgx).free 1
        have q4 := (boxN_store0 (y := D) hgx).cells.2
        have hgr : Below W4.heap.size W4 W := hk.grown
        have hbl := (hgr.setCell (p := ⟨g, 0, none⟩) hgB (.string D)).setCell (p := ⟨g, 1, none⟩) hgB (.slice (some ⟨c, 0, none⟩) 3 3)
        have hbx := boxN_store1 (v := .slice (some ⟨c, 0, none⟩) 3 3) (boxN_store0 (y := D) hgx)
        have hput := hk.puts
        refine wpOp_skip rfl rfl (w' := (W.setCell ⟨g, 0, none⟩ (.string D)).setCell ⟨g, 1, none⟩ (.slice (some ⟨c, 0, none⟩) 3 3)) (by simp [go_sem, g17, g18, q0, q1, q2, q3, q4]) ?_
        rw [hput]
        simp only [putT, g18]
        generalize a.tmps[25]?.getD undef = x25
        generalize a.tmps[26]?.getD undef = x26
        generalize a.tmps[27]?.getD undef = x27
        generalize a.tmps[28]?.getD undef = x28
        generalize a.tmps[29]?.getD undef = x29
        generalize a.tmps[30]?.getD undef = x30
        generalize a.tmps[31]?.getD undef = x31
        generalize a.tmps[32]?.getD undef = x32
        generalize a.tmps[33]?.getD undef = x33
        generalize a.tmps[34]?.getD undef = x34
        generalize a.tmps[35]?.getD undef = x35
        generalize a.tmps[36]?.getD undef = x36
        generalize a.tmps[37]?.getD undef = x37
        generalize a.tmps[38]?.getD undef = x38
        generalize a.tmps[39]?.getD undef = x39
        generalize a.tmps[40]?.getD undef = x40
        generalize a.tmps[41]?.getD undef = x41
        generalize a.tmps[42]?.getD undef = x42
        obtain ⟨W8, hW8⟩ : ∃ X, X = (W.setCell ⟨g, 0, none⟩ (.string D)).setCell ⟨g, 1, none⟩ (.slice (some ⟨c, 0, none⟩) 3 3) := ⟨_, rfl⟩
        rw [← hW8] at hbx hbl ⊢
        obtain ⟨M, hM⟩ : ∃ M : List AT, M = [(TA.data.toList, [VA.data.toList]), ([111, 98, 106, 101, 99, 116, 99, 108, 97, 115, 115], [C.data.toList]), ([100, 101, 115, 99, 114, 105, 112, 116, 105, 111, 110], [TB.data.toList])] := ⟨_, rfl⟩
        have hM3 : M.length = 3 := by rw [hM]; rfl
        rw [← hM] at hps
        have hpl : PM.length = 3 := by rw [hps.1, hM3]
        have hkeep : ∀ k, k ≠ g → W8.heap[k]? = W.heap[k]? := fun k hk => by rw [hW8]; exact (block_ne _ ⟨g, 1, none⟩ _ hk).trans (block_ne _ ⟨g, 0, none⟩ _ hk)
        have hcg : c ≠ g := fun e => by
          unfold BoxN at hgx
          rw [e, hgx] at hcc
          exact absurd hcc (by simp)
        have hrow : RowP W4.heap.size W8 (.slice (some ⟨c, 0, none⟩) 3 3) PM := by
          have hcl : (cellsP PM).length = 6 := by rw [cellsP_length, hpl]
          refine ⟨by rw [cellsP_length], .inr ⟨c, 3, (cellsP PM).toArray, by rw [hpl], hcB, (hkeep c hcg).trans hcc, by rw [hpl]; omega, by unfold maxLen; omega, by simp [hcl], by rw [hpl, List.take_of_length_le (by simp [hcl])]⟩⟩
        have hsay : SaysM W8 PM M := saysM_to hps fun k hk => hkeep k fun e => by
          obtain ⟨cs, fr, hkc⟩ := hk
          unfold BoxN at hgx
          rw [e, hgx] at hkc
          cases hkc
        have HRow := Lib.hid hrow
        have HSay := Lib.hid hsay
        have HBx := Lib.hid hbx
        have HX8 := Lib.hid (HX4.out.below hbl (Array.getElem?_eq_some_iff.1 HX4.out).1)
        have HB8 := Lib.hid (bthen HB4.out hbl)
        have HMl := Lib.hid hM
        have HSz8 : Hid (W4.heap.size ≤ W8.heap.size) := Lib.hid hbl.size
        have hrb : w.heap.size < W4.heap.size := (Array.getElem?_eq_some_iff.1 HX4.out).1
        have HLe : Hid (w.heap.size ≤ W4.heap.size) := Lib.hid (by omega)
        have HGB0 : Hid (W4.heap.size ≤ g) := Lib.hid hgB
        have HNe : Hid (w.heap.size ≠ g) := Lib.hid (by omega)
        have HGe : Hid (w.heap.size ≤ g) := Lib.hid (by omega)
        have hMf : M = fstE k x := by
          rw [hM]; unfold fstE; rw [← HR.out, hTl, HVl.out, HC.out, hTBl]
        have hra := raw_parts i x
        rw [← HK.out, ← hMf] at hra
        have HRa := Lib.hid hra
        obtain ⟨g3, hg3⟩ : ∃ g, g = isP k := ⟨_, rfl⟩
        have hg3c : (C.toList == [112, 101, 114, 115, 111, 110]) = g3 := by rw [HC.out, HR.out, hg3]; exact clB_person k
        rw [← hg3] at hra
        have HG3 := Lib.hid hg3c
        have HRa := Lib.hid hra
        clear hra hMf hrb hg3 hg3c
        clear hW8 hM hkeep hrow hsay hbx hbl hgx hcc hps hall hput hk g17 g18 q0 q1 q2 q3 q4 f17 f18 hgr
        go_simp
        go_upto_if 44 with fail
        rw [HG3.out]
        go_cut [5] from 45 to 69 (fun s5 wx => s5 = .string D ∧ ∃ sa sn sc PM2, BoxN wx g D (.slice sa sn sc) ∧ RowP W4.heap.size wx (.slice sa sn sc) PM2 ∧ SaysM wx PM2 (rawE i x) ∧ BoxN wx w.heap.size ⟨#[]⟩ (.slice none 0 0) ∧ Below w.heap.size w wx)
        case first =>
          cases g3 with
          | false =>
            have e1 : rawE i x = M := by rw [HRa.out]; simp
            go_wp2_with fail
            go_meet
            exact ⟨rfl, _, _, _, _, HBx.out, HRow.out, by rw [e1]; exact HSay.out, HX8.out, HB8.out⟩
          | true =>
            obtain ⟨q4, hq4⟩ : ∃ q, q = x % 4 := ⟨_, rfl⟩
            have hm4 : (x : Int).tmod 4 = (q4 : Int) := by rw [Int.tmod_eq_emod_of_nonneg (by omega)]; omega
            obtain ⟨TE, hTE⟩ : ∃ T, T = ofL (Lib.itoa (q4 : Int)) := ⟨_, rfl⟩
            have hDe : ∀ w, Calls Tryz.prog 18 #[.int .i64 (q4 : Int)] w fun e w' => e = .returned (.string TE) ∧ Below w.heap.size w w' := fun w => by rw [hTE]; exact digits_any (q4 : Int) (by omega) (by omega) w
            have HDe := Lib.hid hDe
            have hEs : TE.size ≤ 3 := by rw [← bytes_len, hTE, ofL_list]; exact itoa_byte (by omega)
            obtain ⟨TS, hTS⟩ : ∃ P, (⟨#[115]⟩ : ByteArray) ++ TE = P := ⟨_, rfl⟩
            have hTSl : TS.data.toList = 115 :: Lib.itoa ((x % 4 : Nat) : Int) := by rw [← hTS, app_list, hTE, ofL_list, hq4]; rfl
            have qTS : 1 + TE.size ≤ 9223372036854775807 := by omega
            have HSn : Hid (snE x = [([115, 110], [TS.data.toList])]) := Lib.hid (by rw [hTSl]; rfl)
            have hDi : ∀ w, Calls Tryz.prog 18 #[.int .i64 (i : Int)] w fun e w' => e = .returned (.string (ofL (Lib.itoa (i : Int)))) ∧ Below w.heap.size w w' := fun w => digits_any (i : Int) (by omega) (by omega) w
            obtain ⟨TQ, hTQ⟩ : ∃ T, T = ofL (Lib.itoa (i : Int)) := ⟨_, rfl⟩
            rw [← hTQ] at hDi
            have HDi := Lib.hid hDi
            have hQs : TQ.size ≤ 3 := by rw [← bytes_len, hTQ, ofL_list]; exact itoa_byte hi
            obtain ⟨TP, hTP⟩ : ∃ P, (⟨#[112, 119]⟩ : ByteArray) ++ TQ = P := ⟨_, rfl⟩
            have hTPl : TP.data.toList = 112 :: 119 :: Lib.itoa (i : Int) := by rw [← hTP, app_list, hTQ, ofL_list]; rfl
            have qTP : 2 + TQ.size ≤ 9223372036854775807 := by omega
            have HPw : Hid (pwE i = [([117, 115, 101, 114, 112, 97, 115, 115, 119, 111, 114, 100], [TP.data.toList])]) := Lib.hid (by rw [hTPl]; rfl)
            have HZ : Hid (EnJ W4.heap.size g w.heap.size D (.slice (some ⟨c, 0, none⟩) 3 3) PM M false W8) := Lib.hid ⟨HBx.out, HX8.out, fun _ => ⟨HRow.out, HSay.out⟩⟩
            have HJ : Hid (W4.heap.size ≤ W8.heap.size) := HSz8
            have HLl : Hid (M.length ≤ 100) := Lib.hid (by rw [HMl.out]; simp)
            clear hDe hDi hEs hQs hTSl hTPl hTE hTQ hq4
            have HGB : Hid (W4.heap.size ≤ g) := HGB0
            go_upto_region 10 with fail
            refine region_J (by kernel_rfl) W4.heap.size 9 10 (fun _ q => FK W4.heap.size [.is (.pointer (some ⟨g, 1, none⟩)), .is (.slice (some ⟨c, 0, none⟩) 3 3), .is (.int .u8 (x : Int)), .is (.int .i64 (x : Int)), .is (.int .i64 (q4 : Int)), .is (.string TE), .is (.string TS), .val #[.string TS] (fun b => .slice (some ⟨b, 0, none⟩) 1 1), .val #[.string TS] (fun b => .agg #[.string ⟨#[115, 110]⟩, .slice (some ⟨b, 0, none⟩) 1 1]), .att [([115, 110], [TS.data.toList])], .row PM (M ++ [([115, 110], [TS.data.toList])]), .is (.pointer (some ⟨g, 1, none⟩))] q) (fun _ q => EnJ W4.heap.size g w.heap.size D (.slice (some ⟨c, 0, none⟩) 3 3) PM M q) (fun _ _ _ _ _ h hb => EnJ.go h hb) HZ.out (fun _ _ _ _ _ _ _ h hb => FK.go h hb) HJ.out (by kernel_rfl) (by kernel_rfl) (by decide) (by rfl) ?hs10 ?hx10 ?hy10 ?hl10
            case hs10 =>
              intro listed a W p q hsz hj hk i0 o ho hi hi1 hi2 hc
              have e1 := hk.read (t := 1) (by kernel_rfl) rfl
              have e8 := hk.read (t := 8) (by kernel_rfl) rfl
              match i0, hi, hi1, hi2 with
              | 0, _, _, _ =>
                obtain rfl := Option.some.inj ho
                exact wpOp_val rfl rfl (v := .pointer (some ⟨g, 1, none⟩)) (w' := W) (by simp [go_sem, e8]) ⟨_, _, rfl, rfl, Below.refl _ _, rfl⟩
              | 1, _, _, _ =>
                obtain rfl := Option.some.inj ho
                obtain ⟨v0, g0, f0⟩ := hk.got (j := 0) rfl rfl (hc ⟨0, .data⟩ (by simp) rfl)
                obtain rfl : v0 = _ := f0
                have d0 := hj.1.cells.2
                exact wpOp_val rfl rfl (v := .slice (some ⟨c, 0, none⟩) 3 3) (w' := W) (by simp [go_sem, g0, d0]) ⟨_, _, rfl, rfl, Below.refl _ _, rfl⟩
              | 2, _, _, _ =>
                obtain rfl := Option.some.inj ho
                exact wpOp_val rfl rfl (v := .int .u8 (x : Int)) (w' := W) (by simp [go_sem, e1]) ⟨_, _, rfl, rfl, Below.refl _ _, rfl⟩
              | 3, _, _, _ =>
                obtain rfl := Option.some.inj ho
                obtain ⟨v2, g2, f2⟩ := hk.got (j := 2) rfl rfl (hc ⟨2, .data⟩ (by simp) rfl)
                obtain rfl : v2 = _ := f2
                exact wpOp_val rfl rfl (v := .int .i64 (x : Int)) (w' := W) (by simp [go_sem, g2, hw8]) ⟨_, _, rfl, rfl, Below.refl _ _, rfl⟩
              | 4, _, _, _ =>
                obtain rfl := Option.some.inj ho
                obtain ⟨v3, g3, f3⟩ := hk.got (j := 3) rfl rfl (hc ⟨3, .data⟩ (by simp) rfl)
                obtain rfl : v3 = _ := f3
                exact wpOp_val rfl rfl (v := .int .i64 (q4 : Int)) (w' := W) (by simp [go_sem, g3, hm4]) ⟨_, _, rfl, rfl, Below.refl _ _, rfl⟩
              | 5, _, _, _ =>
                obtain rfl := Option.some.inj ho
                obtain ⟨v4, g4, f4⟩ := hk.got (j := 4) rfl rfl (hc ⟨4, .data⟩ (by simp) rfl)
                obtain rfl : v4 = _ := f4
                refine wpOp_call rfl rfl (f := 18) (args := #[.int .i64 (q4 : Int)]) (by simp [go_sem, g4]) ((HDe.out W).mono ?_)
                rintro e w2 ⟨rfl, hb2⟩
                exact ⟨_, rfl, _, _, rfl, rfl, hb2, rfl⟩
              | 6, _, _, _ =>
                obtain rfl := Option.some.inj ho
                obtain ⟨v5, g5, f5⟩ := hk.got (j := 5) rfl rfl (hc ⟨5, .data⟩ (by simp) rfl)
                obtain rfl : v5 = _ := f5
                exact wpOp_val rfl rfl (v := .string TS) (w' := W) (by simp [go_sem, g5, hTS, qTS]) ⟨_, _, rfl, rfl, Below.refl _ _, rfl⟩
              | 7, _, _, _ =>
                obtain rfl := Option.some.inj ho
                obtain ⟨v6, g6, f6⟩ := hk.got (j := 6) rfl rfl (hc ⟨6, .data⟩ (by simp) rfl)
                obtain rfl : v6 = _ := f6
                exact wpOp_val rfl rfl (v := .slice (some ⟨W.heap.size, 0, none⟩) 1 1) (w' := W.alloc (.cells #[.string TS] 9)) (by simp [go_sem, g6]) ⟨_, _, rfl, rfl, ((Below.refl _ _).alloc (Nat.le_refl _) _), ⟨_, rfl, heap_alloc_new W _⟩⟩
              | 8, _, _, _ =>
                obtain rfl := Option.some.inj ho
                obtain ⟨v7, g7, f7⟩ := hk.got (j := 7) rfl rfl (hc ⟨7, .data⟩ (by simp) rfl)
                obtain ⟨b, rfl, hb⟩ := f7
                exact wpOp_val rfl rfl (v := .agg #[.string ⟨#[115, 110]⟩, .slice (some ⟨b, 0, none⟩) 1 1]) (w' := W) (by simp [go_sem, g7]) ⟨_, _, rfl, rfl, Below.refl _ _, ⟨_, rfl, hb⟩⟩
              | 11, _, _, _ =>
                obtain rfl := Option.some.inj ho
                exact wpOp_val rfl rfl (v := .pointer (some ⟨g, 1, none⟩)) (w' := W) (by simp [go_sem, e8]) ⟨_, _, rfl, rfl, Below.refl _ _, rfl⟩
              | 9, _, h, _ => exact absurd rfl h
              | 10, _, _, h => exact absurd rfl h
              | m + 12, hm, _, _ => exact absurd hm (by simp)
            case hx10 =>
              intro listed a W hsz hj hk o ho hc
              obtain rfl := Option.some.inj ho
              obtain ⟨v8, g8, f8⟩ := hk.got (j := 8) rfl rfl (hc ⟨8, .data⟩ (by simp) rfl)
              obtain ⟨b, rfl, hb⟩ := f8
              have hbl := (Array.getElem?_eq_some_iff.1 hb).1
              exact wpOp_val rfl rfl (v := .slice (some ⟨W.heap.size, 0, none⟩) 1 1) (w' := W.alloc (.cells #[.string ⟨#[115, 110]⟩, .slice (some ⟨b, 0, none⟩) 1 1] 56)) (by simp [go_sem, g8]) ⟨_, _, rfl, rfl, ((Below.refl _ _).alloc (Nat.le_refl _) _).mono hsz, .inr ⟨W.heap.size, [(_, .slice (some ⟨b, 0, none⟩) 1 1)], rfl, heap_alloc_new W _, saysM_one (X := ⟨#[115, 110]⟩) ((heap_alloc_old W _ hbl).trans hb)⟩, EnJ.go hj ((Below.refl _ _).alloc (Nat.le_refl _) _), fun j u hj2 h => FK.go h ((Below.refl _ _).alloc (Nat.le_refl _) _)⟩
            case hy10 =>
              intro listed a W hsz hj hk o ho hc
              obtain rfl := Option.some.inj ho
              obtain ⟨v1, g1, f1⟩ := hk.got (j := 1) rfl rfl (hc ⟨1, .data⟩ (by simp) rfl)
              obtain rfl : v1 = _ := f1
              obtain ⟨v9, g9, f9⟩ := hk.got (j := 9) rfl rfl (hc ⟨9, .data⟩ (by simp) rfl)
              obtain ⟨c, PM, rfl, hcc, hps⟩ := f9.resolve_left (by simp)
              obtain ⟨hr, hsay⟩ := hj.2.2 rfl
              obtain ⟨v', w', hrun, hr', hs', hbel, hk1, hk2⟩ := run_append_P hr hsay hsz hps ⟨c, 0, none⟩ 1 (fun j u hu => by rw [addr0]; exact list_cells hcc j u hu) (by have := HLl.out; simp; omega) 25
              exact wpOp_val rfl rfl (exec_append rfl (by simp [go_sem, g1]) (by simp [go_sem, g9]) hrun) ⟨_, _, rfl, rfl, hbel, ⟨rfl, PM, hr', hs'⟩, EnJ.loud hj hk2, fun j u hj2 h => FK.loud h hk1 hk2⟩
            case hl10 =>
              intro listed a W hsz hj hk hall
              obtain ⟨vr, gr, fr⟩ := hk.got (j := 10) rfl rfl (hall 10 (by simp))
              obtain ⟨vp, gp, fp⟩ := hk.got (j := 11) rfl rfl (hall 11 (by simp))
              obtain rfl : vp = _ := fp
              obtain ⟨_, PN, hr, hs⟩ := fr
              obtain ⟨sa, sc, hv⟩ := rowP_slice hr
              obtain ⟨P3, hP3⟩ : ∃ X, X = PM ++ PN := ⟨_, rfl⟩
              rw [← hP3] at hr hs hv
              obtain ⟨ln, hln⟩ : ∃ k, k = P3.length := ⟨_, rfl⟩
              rw [← hln] at hv
              subst hv
              obtain ⟨hb1, hb2, hr2, hs2, c1, c2⟩ := enJ_store hj hr hs HNe.out
              have hput := hk.puts
              have hgrW := hk.grown.setCell (p := ⟨g, 1, none⟩) HGB.out (.slice sa ln sc)
              refine wpOp_skip rfl rfl (w' := W.setCell ⟨g, 1, none⟩ (.slice sa ln sc)) (by simp [go_sem, gr, gp, c1, c2]) ?_
              rw [hput]
              simp only [putT]
              generalize a.tmps[45]?.getD undef = x45
              generalize a.tmps[46]?.getD undef = x46
              generalize a.tmps[47]?.getD undef = x47
              generalize a.tmps[48]?.getD undef = x48
              generalize a.tmps[49]?.getD undef = x49
              generalize a.tmps[50]?.getD undef = x50
              generalize a.tmps[51]?.getD undef = x51
              generalize a.tmps[52]?.getD undef = x52
              generalize a.tmps[53]?.getD undef = x53
              generalize a.tmps[54]?.getD undef = x54
              generalize a.tmps[55]?.getD undef = x55
              generalize a.tmps[56]?.getD undef = x56
              obtain ⟨W10, hW10⟩ : ∃ X, X = W.setCell ⟨g, 1, none⟩ (.slice sa ln sc) := ⟨_, rfl⟩
              rw [← hW10] at hb1 hb2 hr2 hs2 hgrW ⊢
              clear hall hput gr gp hr hs c1 c2 hk hj hP3 hln hW10
              have HB10 := Lib.hid (HB8.out.trans (hgrW.mono HLe.out))
              have HJ10 : Hid (W4.heap.size ≤ W10.heap.size) := Lib.hid (Nat.le_trans HSz8.out hgrW.size)
              clear HZ HJ
              have HZ : Hid (EnJ W4.heap.size g w.heap.size D (.slice sa ln sc) P3 (M ++ [([115, 110], [TS.data.toList])]) false W10) := Lib.hid ⟨hb1, hb2, fun _ => ⟨hr2, hs2⟩⟩
              have HJ := HJ10
              obtain ⟨q3, hq3⟩ : ∃ q, q = x % 3 := ⟨_, rfl⟩
              have hm3 : (x : Int).tmod 3 = (q3 : Int) := by rw [Int.tmod_eq_emod_of_nonneg (by omega)]; omega
              clear hgrW hb1 hb2 hr2 hs2
              go_simp
              by_cases h3 : x % 3 = 0
              · have t3 : decide ((q3 : Int) = 0) = true := by simp; omega
                have t4 : ((q3 : Int) == 0) = true := by simp; omega
                replace HLl : Hid ((M ++ [([115, 110], [TS.data.toList])]).length ≤ 100) := Lib.hid (by rw [HMl.out]; simp)
                go_upto_region 12 with fail
                refine region_J (by kernel_rfl) W4.heap.size 7 8 (fun _ q => FK W4.heap.size [.is (.pointer (some ⟨g, 1, none⟩)), .is (.slice sa ln sc), .is (.int .i64 (i : Int)), .is (.string TQ), .is (.string TP), .val #[.string TP] (fun b => .slice (some ⟨b, 0, none⟩) 1 1), .val #[.string TP] (fun b => .agg #[.string ⟨#[117, 115, 101, 114, 112, 97, 115, 115, 119, 111, 114, 100]⟩, .slice (some ⟨b, 0, none⟩) 1 1]), .att [([117, 115, 101, 114, 112, 97, 115, 115, 119, 111, 114, 100], [TP.data.toList])], .row P3 ((M ++ [([115, 110], [TS.data.toList])]) ++ [([117, 115, 101, 114, 112, 97, 115, 115, 119, 111, 114, 100], [TP.data.toList])]), .is (.pointer (some ⟨g, 1, none⟩))] q) (fun _ q => EnJ W4.heap.size g w.heap.size D (.slice sa ln sc) P3 (M ++ [([115, 110], [TS.data.toList])]) q) (fun _ _ _ _ _ h hb => EnJ.go h hb) HZ.out (fun _ _ _ _ _ _ _ h hb => FK.go h hb) HJ.out (by kernel_rfl) (by kernel_rfl) (by decide) (by rfl) ?hs12 ?hx12 ?hy12 ?hl12
                case hs12 =>
                  intro listed a W p q hsz hj hk i0 o ho hi hi1 hi2 hc
                  have e0 := hk.read (t := 0) (by kernel_rfl) rfl
                  have e8 := hk.read (t := 8) (by kernel_rfl) rfl
                  match i0, hi, hi1, hi2 with
                  | 0, _, _, _ =>
                    obtain rfl := Option.some.inj ho
                    exact wpOp_val rfl rfl (v := .pointer (some ⟨g, 1, none⟩)) (w' := W) (by simp [go_sem, e8]) ⟨_, _, rfl, rfl, Below.refl _ _, rfl⟩
                  | 1, _, _, _ =>
                    obtain rfl := Option.some.inj ho
                    obtain ⟨v0, g0, f0⟩ := hk.got (j := 0) rfl rfl (hc ⟨0, .data⟩ (by simp) rfl)
                    obtain rfl : v0 = _ := f0
                    have d0 := hj.1.cells.2
                    exact wpOp_val rfl rfl (v := .slice sa ln sc) (w' := W) (by simp [go_sem, g0, d0]) ⟨_, _, rfl, rfl, Below.refl _ _, rfl⟩
                  | 2, _, _, _ =>
                    obtain rfl := Option.some.inj ho
                    exact wpOp_val rfl rfl (v := .int .i64 (i : Int)) (w' := W) (by simp [go_sem, e0]) ⟨_, _, rfl, rfl, Below.refl _ _, rfl⟩
                  | 3, _, _, _ =>
                    obtain rfl := Option.some.inj ho
                    obtain ⟨v2, g2, f2⟩ := hk.got (j := 2) rfl rfl (hc ⟨2, .data⟩ (by simp) rfl)
                    obtain rfl : v2 = _ := f2
                    refine wpOp_call rfl rfl (f := 18) (args := #[.int .i64 (i : Int)]) (by simp [go_sem, g2]) ((HDi.out W).mono ?_)
                    rintro e w2 ⟨rfl, hb2⟩
                    exact ⟨_, rfl, _, _, rfl, rfl, hb2, rfl⟩
                  | 4, _, _, _ =>
                    obtain rfl := Option.some.inj ho
                    obtain ⟨v3, g3, f3⟩ := hk.got (j := 3) rfl rfl (hc ⟨3, .data⟩ (by simp) rfl)
                    obtain rfl : v3 = _ := f3
                    exact wpOp_val rfl rfl (v := .string TP) (w' := W) (by simp [go_sem, g3, hTP, qTP]) ⟨_, _, rfl, rfl, Below.refl _ _, rfl⟩
                  | 5, _, _, _ =>
                    obtain rfl := Option.some.inj ho
                    obtain ⟨v4, g4, f4⟩ := hk.got (j := 4) rfl rfl (hc ⟨4, .data⟩ (by simp) rfl)
                    obtain rfl : v4 = _ := f4
                    exact wpOp_val rfl rfl (v := .slice (some ⟨W.heap.size, 0, none⟩) 1 1) (w' := W.alloc (.cells #[.string TP] 9)) (by simp [go_sem, g4]) ⟨_, _, rfl, rfl, ((Below.refl _ _).alloc (Nat.le_refl _) _), ⟨_, rfl, heap_alloc_new W _⟩⟩
                  | 6, _, _, _ =>
                    obtain rfl := Option.some.inj ho
                    obtain ⟨v5, g5, f5⟩ := hk.got (j := 5) rfl rfl (hc ⟨5, .data⟩ (by simp) rfl)
                    obtain ⟨b, rfl, hb⟩ := f5
                    exact wpOp_val rfl rfl (v := .agg #[.string ⟨#[117, 115, 101, 114, 112, 97, 115, 115, 119, 111, 114, 100]⟩, .slice (some ⟨b, 0, none⟩) 1 1]) (w' := W) (by simp [go_sem, g5]) ⟨_, _, rfl, rfl, Below.refl _ _, ⟨_, rfl, hb⟩⟩
                  | 9, _, _, _ =>
                    obtain rfl := Option.some.inj ho
                    exact wpOp_val rfl rfl (v := .pointer (some ⟨g, 1, none⟩)) (w' := W) (by simp [go_sem, e8]) ⟨_, _, rfl, rfl, Below.refl _ _, rfl⟩
                  | 7, _, h, _ => exact absurd rfl h
                  | 8, _, _, h => exact absurd rfl h
                  | m + 10, hm, _, _ => exact absurd hm (by simp)
                case hx12 =>
                  intro listed a W hsz hj hk o ho hc
                  obtain rfl := Option.some.inj ho
                  obtain ⟨v6, g6, f6⟩ := hk.got (j := 6) rfl rfl (hc ⟨6, .data⟩ (by simp) rfl)
                  obtain ⟨b, rfl, hb⟩ := f6
                  have hbl := (Array.getElem?_eq_some_iff.1 hb).1
                  exact wpOp_val rfl rfl (v := .slice (some ⟨W.heap.size, 0, none⟩) 1 1) (w' := W.alloc (.cells #[.string ⟨#[117, 115, 101, 114, 112, 97, 115, 115, 119, 111, 114, 100]⟩, .slice (some ⟨b, 0, none⟩) 1 1] 56)) (by simp [go_sem, g6]) ⟨_, _, rfl, rfl, ((Below.refl _ _).alloc (Nat.le_refl _) _).mono hsz, .inr ⟨W.heap.size, [(_, .slice (some ⟨b, 0, none⟩) 1 1)], rfl, heap_alloc_new W _, saysM_one (X := ⟨#[117, 115, 101, 114, 112, 97, 115, 115, 119, 111, 114, 100]⟩) ((heap_alloc_old W _ hbl).trans hb)⟩, EnJ.go hj ((Below.refl _ _).alloc (Nat.le_refl _) _), fun j u hj2 h => FK.go h ((Below.refl _ _).alloc (Nat.le_refl _) _)⟩
                case hy12 =>
                  intro listed a W hsz hj hk o ho hc
                  obtain rfl := Option.some.inj ho
                  obtain ⟨v1, g1, f1⟩ := hk.got (j := 1) rfl rfl (hc ⟨1, .data⟩ (by simp) rfl)
                  obtain rfl : v1 = _ := f1
                  obtain ⟨v7, g7, f7⟩ := hk.got (j := 7) rfl rfl (hc ⟨7, .data⟩ (by simp) rfl)
                  obtain ⟨c, PM, rfl, hcc, hps⟩ := f7.resolve_left (by simp)
                  obtain ⟨hr, hsay⟩ := hj.2.2 rfl
                  obtain ⟨v', w', hrun, hr', hs', hbel, hk1, hk2⟩ := run_append_P hr hsay hsz hps ⟨c, 0, none⟩ 1 (fun j u hu => by rw [addr0]; exact list_cells hcc j u hu) (by have := HLl.out; simp; omega) 25
                  exact wpOp_val rfl rfl (exec_append rfl (by simp [go_sem, g1]) (by simp [go_sem, g7]) hrun) ⟨_, _, rfl, rfl, hbel, ⟨rfl, PM, hr', hs'⟩, EnJ.loud hj hk2, fun j u hj2 h => FK.loud h hk1 hk2⟩
                case hl12 =>
                  intro listed a W hsz hj hk hall
                  obtain ⟨vr, gr, fr⟩ := hk.got (j := 8) rfl rfl (hall 8 (by simp))
                  obtain ⟨vp, gp, fp⟩ := hk.got (j := 9) rfl rfl (hall 9 (by simp))
                  obtain rfl : vp = _ := fp
                  obtain ⟨_, PN, hr, hs⟩ := fr
                  obtain ⟨sa, sc, hv⟩ := rowP_slice hr
                  obtain ⟨P3, hP3⟩ : ∃ X, X = P3 ++ PN := ⟨_, rfl⟩
                  rw [← hP3] at hr hs hv
                  obtain ⟨ln, hln⟩ : ∃ k, k = P3.length := ⟨_, rfl⟩
                  rw [← hln] at hv
                  subst hv
                  obtain ⟨hb1, hb2, hr2, hs2, c1, c2⟩ := enJ_store hj hr hs HNe.out
                  have hput := hk.puts
                  have hgrW := hk.grown.setCell (p := ⟨g, 1, none⟩) HGB.out (.slice sa ln sc)
                  refine wpOp_skip rfl rfl (w' := W.setCell ⟨g, 1, none⟩ (.slice sa ln sc)) (by simp [go_sem, gr, gp, c1, c2]) ?_
                  rw [hput]
                  simp only [putT]
                  generalize a.tmps[60]?.getD undef = x60
                  generalize a.tmps[61]?.getD undef = x61
                  generalize a.tmps[62]?.getD undef = x62
                  generalize a.tmps[63]?.getD undef = x63
                  generalize a.tmps[64]?.getD undef = x64
                  generalize a.tmps[65]?.getD undef = x65
                  generalize a.tmps[66]?.getD undef = x66
                  generalize a.tmps[67]?.getD undef = x67
                  generalize a.tmps[68]?.getD undef = x68
                  generalize a.tmps[69]?.getD undef = x69
                  obtain ⟨W12, hW12⟩ : ∃ X, X = W.setCell ⟨g, 1, none⟩ (.slice sa ln sc) := ⟨_, rfl⟩
                  rw [← hW12] at hb1 hb2 hr2 hs2 hgrW ⊢
                  clear hall hput gr gp hr hs c1 c2 hk hj hP3 hln hW12
                  have HB12 := (HB10.out.trans (hgrW.mono HLe.out))
                  go_simp
                  go_wp2_with fail
                  go_meet
                  exact ⟨rfl, _, _, _, _, hb1, hr2, by rw [HRa.out, if_pos trivial, if_pos h3, HSn.out, HPw.out]; rw [List.append_assoc] at hs2; exact hs2, hb2, HB12⟩
              · have t3 : decide ((q3 : Int) = 0) = false := by simp; omega
                have t4 : ((q3 : Int) == 0) = false := by simp; omega
                go_wp2_with fail
                go_meet
                exact ⟨rfl, _, _, _, _, HZ.out.1, (HZ.out.2.2 rfl).1, by rw [HRa.out, if_pos trivial, if_neg h3, HSn.out, List.append_nil]; exact (HZ.out.2.2 rfl).2, HZ.out.2.1, HB10.out⟩
        case rest =>
          obtain ⟨rfl, sa, sn, sc, PM2, hbx2, hrow2, hsay2, hx2, hb2⟩ := hcut
          have hisA := ownM_isA ⟨PM2, hrow2, hsay2⟩ (by have := raw_len i x; unfold maxLen; omega)
          obtain ⟨z0, z1⟩ := hbx2.cells
          have HA2 := Lib.hid hisA
          have HX2 := Lib.hid hx2
          have HB2 := Lib.hid hb2
          have HNr := Lib.hid (normRef_own D hDs (rawE i x) (raw_small i x hi hx) (.slice sa sn sc))
          obtain ⟨TN, hTN⟩ : ∃ T : ByteArray, strV (nameN D.data.toList) = .string T := ⟨_, rfl⟩
          have HTN := Lib.hid hTN
          rw [hTN] at HNr
          clear hisA hrow2 hsay2 hbx2 hx2 hb2 hTN
          go_wp2_with (go_at_call 19; refine (HNr.out _ HA2.out).mono ?_; rintro e w9 ⟨v9, rfl, hA9, hb9⟩; (obtain ⟨P9, hr9, hs9⟩ := id hA9); (obtain ⟨va, vc, hve⟩ := rowP_slice hr9); subst hve; have HX9 := Lib.hid (HX2.out.below hb9 (Array.getElem?_eq_some_iff.1 HX2.out).1); have y0 := HX9.out.cells.1; have y1 := HX9.out.cells.2; have y2 := HX9.out.free 0; have y3 := HX9.out.free 1; have HA9 := Lib.hid hA9; have HB9 := Lib.hid (bthen HB2.out hb9); clear hA9 hb9 hr9 hs9)
          have hbx9 := boxN_store1 (v := .slice va P9.length vc) (boxN_store0 (y := TN) HX9.out)
          obtain ⟨p0, p1⟩ := hbx9.cells
          have hlt2 := (Array.getElem?_eq_some_iff.1 HX2.out).1
          have ho := ownM_entry (i := 1) (x := .slice va P9.length vc) (ownM_entry (i := 0) (x := .string TN) HA9.out HX9.out (by omega)) (boxN_store0 HX9.out) (by omega)
          refine bodyPost_ret (v := .agg #[.string TN, .slice va P9.length vc]) (by simp [results, Tryz.results5, go_sem, p0, p1]) rfl ⟨TN, _, rfl, ?_, ?_, (HB9.out.setCell (p := ⟨w.heap.size, 0, none⟩) (Nat.le_refl _) _).setCell (p := ⟨w.heap.size, 1, none⟩) (Nat.le_refl _) _⟩
          · have e1 := HTN.out
            unfold strV at e1
            injection e1 with e1
            rw [← e1, hDl, HK.out]
            rfl
          · refine ownM_isA ho ?_
            have := raw_len i x
            show (sortA (normL (rawE i x))).length ≤ maxLen
            rw [sortA_len2]; unfold normL maxLen; rw [List.length_map]; omega
end Go.Proofs.YtpnbcmblnplbgaaGreatDoor


namespace Go.Proofs.YtpnbcmblnplbgaaGreatDoor
set_option linter.unusedVariables false
set_option linter.unusedSimpArgs false

def dB8 : List UInt8 := [100, 101, 115, 99, 114, 105, 112, 116, 105, 111, 110]
def oB8 : List UInt8 := [111, 98, 106, 101, 99, 116, 99, 108, 97, 115, 115]
def uB8 : List UInt8 := [117, 115, 101, 114, 112, 97, 115, 115, 119, 111, 114, 100]
def attV (kd : Nat) (v d s : List UInt8) (p : Option (List UInt8)) : List AT := match kd with
  | 0 => [(dB8, [d]), ([111], [v]), (oB8, [(clB [111]).data.toList])]
  | 1 => [(dB8, [d]), (oB8, [(clB [111, 117]).data.toList]), ([111, 117], [v])]
  | _ => [([99, 110], [v]), (dB8, [d]), (oB8, [(clB [99, 110]).data.toList]), ([115, 110], [s])] ++ (match p with
    | some p => [(uB8, [p])]
    | none => [])
def kdE (k : Nat) : Nat := if (avE k).1 = [111] then 0 else if (avE k).1 = [111, 117] then 1 else 2
def sV (x : Nat) : List UInt8 := 115 :: Lib.itoa ((x % 4 : Nat) : Int)
def pV (i : Nat) : List UInt8 := 112 :: 119 :: Lib.itoa (i : Int)
def attE (k i x : Nat) : List AT := attV (kdE k) (avE k).2 (dscE x) (sV x) (if x % 3 = 0 then some (pV i) else none)

def okK (k : Nat) : Bool := ((avE k).1 == [111] || (avE k).1 == [111, 117] || (avE k).1 == [99, 110]) && nameN (nmE k) == nmE k && keyD (nmE k) == some (nmE k) && decide (valsC (avE k).1 [(avE k).2] = 0) && !(nmE k).isEmpty
theorem okK_all : (List.range 12).all okK = true := by decide +kernel
theorem okK_at {k : Nat} (hk : k < 12) : ((avE k).1 = [111] ∨ (avE k).1 = [111, 117] ∨ (avE k).1 = [99, 110]) ∧ nameN (nmE k) = nmE k ∧ keyD (nmE k) = some (nmE k) ∧ valsC (avE k).1 [(avE k).2] = 0 ∧ nmE k ≠ [] := by
  have h := List.all_eq_true.1 okK_all k (by simpa using hk)
  unfold okK at h
  simp only [Bool.and_eq_true, Bool.or_eq_true, beq_iff_eq, decide_eq_true_eq, Bool.not_eq_true', List.isEmpty_eq_false_iff] at h
  exact ⟨by rcases h.1.1.1.1 with (h | h) | h <;> simp [h], h.1.1.1.2, h.1.1.2, h.1.2, h.2⟩

theorem srt_o (v c d : List UInt8) : sortA (normL [([111], [v]), (oB8, [c]), (dB8, [d])]) = [(dB8, [d]), ([111], [v]), (oB8, [c])] := by kernel_rfl
theorem srt_ou (v c d : List UInt8) : sortA (normL [([111, 117], [v]), (oB8, [c]), (dB8, [d])]) = [(dB8, [d]), (oB8, [c]), ([111, 117], [v])] := by kernel_rfl
theorem srt_cn (v c d s : List UInt8) : sortA (normL [([99, 110], [v]), (oB8, [c]), (dB8, [d]), ([115, 110], [s])]) = [([99, 110], [v]), (dB8, [d]), (oB8, [c]), ([115, 110], [s])] := by kernel_rfl
theorem srt_pw (v c d s p : List UInt8) : sortA (normL [([99, 110], [v]), (oB8, [c]), (dB8, [d]), ([115, 110], [s]), (uB8, [p])]) = [([99, 110], [v]), (dB8, [d]), (oB8, [c]), ([115, 110], [s]), (uB8, [p])] := by kernel_rfl
theorem nrm_o (v c d : List UInt8) : sortA (normL [(dB8, [d]), ([111], [v]), (oB8, [c])]) = [(dB8, [d]), ([111], [v]), (oB8, [c])] := by kernel_rfl
theorem nrm_ou (v c d : List UInt8) : sortA (normL [(dB8, [d]), (oB8, [c]), ([111, 117], [v])]) = [(dB8, [d]), (oB8, [c]), ([111, 117], [v])] := by kernel_rfl
theorem nrm_cn (v c d s : List UInt8) : sortA (normL [([99, 110], [v]), (dB8, [d]), (oB8, [c]), ([115, 110], [s])]) = [([99, 110], [v]), (dB8, [d]), (oB8, [c]), ([115, 110], [s])] := by kernel_rfl
theorem nrm_pw (v c d s p : List UInt8) : sortA (normL [([99, 110], [v]), (dB8, [d]), (oB8, [c]), ([115, 110], [s]), (uB8, [p])]) = [([99, 110], [v]), (dB8, [d]), (oB8, [c]), ([115, 110], [s]), (uB8, [p])] := by kernel_rfl

theorem ent_eq (i x : Nat) : entE i x = (nmE (i % 12), attE (i % 12) i x) := by
  have hk : i % 12 < 12 := Nat.mod_lt _ (by decide)
  obtain ⟨hc, hn, _⟩ := okK_at hk
  unfold entE normE
  refine Prod.ext hn ?_
  show sortA (normL (rawE i x)) = attE (i % 12) i x
  unfold rawE fstE attE kdE isP
  generalize i % 12 = k at hc ⊢
  rcases hc with h | h | h
  · rw [h]; exact srt_o _ _ _
  · rw [h]; exact srt_ou _ _ _
  · rw [h]
    by_cases h3 : x % 3 = 0
    · rw [if_pos h3, if_pos h3]; exact srt_pw _ _ _ _ _
    · rw [if_neg h3, if_neg h3]; exact srt_cn _ _ _ _
theorem attV_norm (kd : Nat) (v d s : List UInt8) (p : Option (List UInt8)) : sortA (normL (attV kd v d s p)) = attV kd v d s p := by
  match kd, p with
  | 0, _ => exact nrm_o _ _ _
  | 1, _ => exact nrm_ou _ _ _
  | n + 2, none => exact nrm_cn _ _ _ _
  | n + 2, some p => exact nrm_pw _ _ _ _ _
theorem ent_norm (i x : Nat) : isNE (entE i x) = true := by
  have hk : i % 12 < 12 := Nat.mod_lt _ (by decide)
  obtain ⟨_, hn, _⟩ := okK_at hk
  unfold isNE normE
  rw [ent_eq]
  show ((nameN (nmE (i % 12)), sortA (normL (attE (i % 12) i x))) == (nmE (i % 12), attE (i % 12) i x)) = true
  rw [hn, show sortA (normL (attE (i % 12) i x)) = attE (i % 12) i x from attV_norm _ _ _ _ _]
  simp
theorem ent_key (i x : Nat) : kE (entE i x) = nmE (i % 12) := by
  have hk : i % 12 < 12 := Nat.mod_lt _ (by decide)
  obtain ⟨_, _, h, _⟩ := okK_at hk
  rw [ent_eq]
  unfold kE
  rw [h]; rfl
theorem ent_keyne (i x : Nat) : kE (entE i x) ≠ [] := by
  rw [ent_key]
  exact (okK_at (Nat.mod_lt _ (by decide))).2.2.2.2

theorem attV_mem {kd : Nat} {v d s : List UInt8} {p : Option (List UInt8)} {a : AT} (h : a ∈ attV kd v d s p) : a = (dB8, [d]) ∨ (a.1 = oB8 ∧ ∃ t, a.2 = [(clB t).data.toList] ∧ (t = [111] ∨ t = [111, 117] ∨ t = [99, 110])) ∨ (a.2 = [v] ∧ a.1 = (if kd = 0 then [111] else if kd = 1 then [111, 117] else [99, 110])) ∨ a = ([115, 110], [s]) ∨ ∃ q, p = some q ∧ a = (uB8, [q]) := by
  match kd, p with
  | 0, _ =>
    simp only [attV, List.mem_cons, List.not_mem_nil, or_false] at h
    rcases h with rfl | rfl | rfl
    · exact .inl rfl
    · exact .inr (.inr (.inl ⟨rfl, rfl⟩))
    · exact .inr (.inl ⟨rfl, _, rfl, .inl rfl⟩)
  | 1, _ =>
    simp only [attV, List.mem_cons, List.not_mem_nil, or_false] at h
    rcases h with rfl | rfl | rfl
    · exact .inl rfl
    · exact .inr (.inl ⟨rfl, _, rfl, .inr (.inl rfl)⟩)
    · exact .inr (.inr (.inl ⟨rfl, rfl⟩))
  | n + 2, none =>
    simp only [attV, List.append_nil, List.mem_cons, List.not_mem_nil, or_false] at h
    rcases h with rfl | rfl | rfl | rfl
    · exact .inr (.inr (.inl ⟨rfl, by simp⟩))
    · exact .inl rfl
    · exact .inr (.inl ⟨rfl, _, rfl, .inr (.inr rfl)⟩)
    · exact .inr (.inr (.inr (.inl rfl)))
  | n + 2, some q =>
    simp only [attV, List.cons_append, List.nil_append, List.mem_cons, List.not_mem_nil, or_false] at h
    rcases h with rfl | rfl | rfl | rfl | rfl
    · exact .inr (.inr (.inl ⟨rfl, by simp⟩))
    · exact .inl rfl
    · exact .inr (.inl ⟨rfl, _, rfl, .inr (.inr rfl)⟩)
    · exact .inr (.inr (.inr (.inl rfl)))
    · exact .inr (.inr (.inr (.inr ⟨q, rfl, rfl⟩)))
theorem attV_types (kd : Nat) (v d s : List UInt8) (p : Option (List UInt8)) : ((attV kd v d s p).map (fun a => a.1)).Nodup ∧ (attV kd v d s p).length ≤ 5 := by
  match kd, p with
  | 0, _ => exact ⟨show [dB8, [111], oB8].Nodup by decide, by simp [attV]⟩
  | 1, _ => exact ⟨show [dB8, oB8, [111, 117]].Nodup by decide, by simp [attV]⟩
  | n + 2, none => exact ⟨show [[99, 110], dB8, oB8, [115, 110]].Nodup by decide, by simp [attV]⟩
  | n + 2, some q => exact ⟨show [[99, 110], dB8, oB8, [115, 110], uB8].Nodup by decide, by simp [attV]⟩

theorem hasS_no {A : List AT} {t : List UInt8} (h : t ∉ A.map (fun a => a.1)) : hasS A t = false := by
  have : A.find? (fun a => a.1 == t) = none := List.find?_eq_none.2 fun a ha => by
    have : a.1 ≠ t := fun e => h (by rw [← e]; exact List.mem_map_of_mem ha)
    simpa using this
  unfold hasS valsS
  rw [this]; rfl
theorem sound_go : ∀ (L A : List AT), (∀ a ∈ L, canonD a.1 = some a.1 ∧ valsC a.1 a.2 = 0) → ((A ++ L).map (fun a => a.1)).Nodup → soundR A L = .ok (A ++ L)
  | [], A, _, _ => by simp [soundR]
  | a :: l, A, h1, h2 => by
    obtain ⟨e, hv⟩ := h1 a (by simp)
    have hno : hasS A a.1 = false := hasS_no fun hm => by
      rw [List.map_append, List.nodup_append] at h2
      exact h2.2.2 _ hm _ (by simp) rfl
    unfold soundR
    rw [e]
    simp only [hno, hv]
    rw [if_neg (by simp), if_pos trivial, sound_go l (A ++ [(a.1, a.2)]) (fun b hb => h1 b (by simp [hb])) (by simpa using h2)]
    simp
theorem behindV (k : Nat) (hk : k < 12) (d s : List UInt8) (p : Option (List UInt8)) : behindD (attV (kdE k) (avE k).2 d s p) (nmE k) = 0 := by
  match k, hk, p with
  | 0, _, p => show behindD (attV (kdE 0) (avE 0).2 d s p) (nmE 0) = 0; kernel_rfl
  | 1, _, p => show behindD (attV (kdE 1) (avE 1).2 d s p) (nmE 1) = 0; kernel_rfl
  | 2, _, p => show behindD (attV (kdE 2) (avE 2).2 d s p) (nmE 2) = 0; kernel_rfl
  | 3, _, none => show behindD (attV (kdE 3) (avE 3).2 d s none) (nmE 3) = 0; kernel_rfl
  | 3, _, some q => show behindD (attV (kdE 3) (avE 3).2 d s (some q)) (nmE 3) = 0; kernel_rfl
  | 4, _, none => show behindD (attV (kdE 4) (avE 4).2 d s none) (nmE 4) = 0; kernel_rfl
  | 4, _, some q => show behindD (attV (kdE 4) (avE 4).2 d s (some q)) (nmE 4) = 0; kernel_rfl
  | 5, _, none => show behindD (attV (kdE 5) (avE 5).2 d s none) (nmE 5) = 0; kernel_rfl
  | 5, _, some q => show behindD (attV (kdE 5) (avE 5).2 d s (some q)) (nmE 5) = 0; kernel_rfl
  | 6, _, none => show behindD (attV (kdE 6) (avE 6).2 d s none) (nmE 6) = 0; kernel_rfl
  | 6, _, some q => show behindD (attV (kdE 6) (avE 6).2 d s (some q)) (nmE 6) = 0; kernel_rfl
  | 7, _, none => show behindD (attV (kdE 7) (avE 7).2 d s none) (nmE 7) = 0; kernel_rfl
  | 7, _, some q => show behindD (attV (kdE 7) (avE 7).2 d s (some q)) (nmE 7) = 0; kernel_rfl
  | 8, _, p => show behindD (attV (kdE 8) (avE 8).2 d s p) (nmE 8) = 0; kernel_rfl
  | 9, _, none => show behindD (attV (kdE 9) (avE 9).2 d s none) (nmE 9) = 0; kernel_rfl
  | 9, _, some q => show behindD (attV (kdE 9) (avE 9).2 d s (some q)) (nmE 9) = 0; kernel_rfl
  | 10, _, p => show behindD (attV (kdE 10) (avE 10).2 d s p) (nmE 10) = 0; kernel_rfl
  | 11, _, none => show behindD (attV (kdE 11) (avE 11).2 d s none) (nmE 11) = 0; kernel_rfl
  | 11, _, some q => show behindD (attV (kdE 11) (avE 11).2 d s (some q)) (nmE 11) = 0; kernel_rfl
  | n + 12, h, _ => exact absurd h (by omega)
theorem ok_dsc : ∀ x : Fin 256, valsC dB8 [dscE x.val] = 0 := by decide +kernel
theorem ok_sV : ∀ x : Fin 4, valsC [115, 110] [sV x.val] = 0 := by decide +kernel
theorem ok_pV : ∀ x : Fin 256, valsC uB8 [pV x.val] = 0 := by decide +kernel
theorem ok_cl : ∀ t ∈ [[111], [111, 117], [99, 110]], valsC oB8 [(clB t).data.toList] = 0 := by decide +kernel
theorem canon8 : ∀ t ∈ [[111], [111, 117], [99, 110], dB8, oB8, [115, 110], uB8], canonD t = some t := by decide +kernel
theorem sV_mod (x : Nat) : sV x = sV (x % 4) := by unfold sV; rw [Nat.mod_mod]
theorem ent_check (i x : Nat) (hi : i < 256) (hx : x < 256) : checkD (entE i x).1 (entE i x).2 = 0 := by
  have hk : i % 12 < 12 := Nat.mod_lt _ (by decide)
  obtain ⟨hc, _, hky, hv, hne⟩ := okK_at hk
  rw [ent_eq]
  generalize i % 12 = k at hk hc hky hv hne ⊢
  have ht := attV_types (kdE k) (avE k).2 (dscE x) (sV x) (if x % 3 = 0 then some (pV i) else none)
  have hs : soundR [] (attE k i x) = .ok (attE k i x) := sound_go _ [] (fun a ha => by
    rcases attV_mem ha with rfl | ⟨h1, t, h2, h3⟩ | ⟨h1, h2⟩ | rfl | ⟨q, hq, rfl⟩
    · exact ⟨canon8 _ (by simp), ok_dsc ⟨x, hx⟩⟩
    · rw [h1, h2]; exact ⟨canon8 _ (by simp), ok_cl t (by simpa using h3)⟩
    · have h3 : a.1 = (avE k).1 := by
        rw [h2]; unfold kdE
        rcases hc with h | h | h <;> rw [h] <;> rfl
      rw [h1, h3]
      exact ⟨canon8 _ (by rcases hc with h | h | h <;> rw [h] <;> simp), hv⟩
    · rw [sV_mod]; exact ⟨canon8 _ (by simp), ok_sV ⟨x % 4, Nat.mod_lt _ (by decide)⟩⟩
    · have : q = pV i := by
        by_cases h3 : x % 3 = 0
        · rw [if_pos h3] at hq; exact (Option.some.inj hq).symm
        · rw [if_neg h3] at hq; cases hq
      rw [this]; exact ⟨canon8 _ (by simp), ok_pV ⟨i, hi⟩⟩) (by rw [List.nil_append]; exact ht.1)
  show checkD (nmE k) (attE k i x) = 0
  unfold checkD
  rw [hky]
  have hl : ¬ 20 < (attE k i x).length := by have := ht.2; unfold attE; omega
  simp only [if_neg hne, if_neg hl, hs]
  exact behindV k hk _ _ _
theorem ent_ok (i x : Nat) (hi : i < 256) (hx : x < 256) : okE (entE i x) = true := by
  unfold okE
  rw [ent_check i x hi hx, ent_norm]; rfl
theorem sV_len (x : Nat) : (sV x).length ≤ 4 := by
  have h := itoa_byte (n := x % 4) (by omega)
  unfold sV; rw [List.length_cons]; omega
theorem ent_small (i x : Nat) (hi : i < 256) (hx : x < 256) : (entE i x).1.length ≤ 100000 ∧ fineA (entE i x).2 ∧ (entE i x).2.length ≤ 20 := by
  have hk : i % 12 < 12 := Nat.mod_lt _ (by decide)
  obtain ⟨_, _, hn, _, hv⟩ := nm_parse (i % 12) hk
  rw [ent_eq]
  have ht := attV_types (kdE (i % 12)) (avE (i % 12)).2 (dscE x) (sV x) (if x % 3 = 0 then some (pV i) else none)
  have hl : (attE (i % 12) i x).length ≤ 5 := ht.2
  have hd := itoa_byte hx
  have hp := itoa_byte hi
  have hs := sV_len x
  have cl8 : ∀ t : List UInt8, (clB t).data.toList.length ≤ 20 := fun t => by
    unfold clB
    split
    · decide
    · split <;> decide
  have hm : ∀ a ∈ attE (i % 12) i x, a.1.length ≤ 20 ∧ smallT a.2 := fun a ha => by
    have one : ∀ v : List UInt8, v.length ≤ 100 → smallT [v] := fun v hv => ⟨by simp, fun s hs => by rw [List.mem_singleton] at hs; rw [hs]; omega⟩
    rcases attV_mem ha with rfl | ⟨h1, t, h2, _⟩ | ⟨h1, h2⟩ | rfl | ⟨q, hq, rfl⟩
    · exact ⟨by show 11 ≤ 20; decide, one _ (by unfold dscE; simp; omega)⟩
    · rw [h1, h2]; exact ⟨by decide, one _ (by have := cl8 t; omega)⟩
    · rw [h1, h2]
      refine ⟨?_, one _ (by omega)⟩
      split
      · decide
      · split <;> decide
    · exact ⟨by show 2 ≤ 20; decide, one _ (by omega)⟩
    · have : q = pV i := by
        by_cases h3 : x % 3 = 0
        · rw [if_pos h3] at hq; exact (Option.some.inj hq).symm
        · rw [if_neg h3] at hq; cases hq
      rw [this]; exact ⟨by show 12 ≤ 20; decide, one _ (by unfold pV; simp; omega)⟩
  exact ⟨by show (nmE (i % 12)).length ≤ 100000; omega, ⟨⟨by show (attE (i % 12) i x).length ≤ 1000; omega, fun a ha => ⟨by have := (hm a ha).1; omega, (hm a ha).2⟩⟩, by show (attE (i % 12) i x).length < 40; omega, fun a ha => by have := (hm a ha).1; omega⟩, by show (attE (i % 12) i x).length ≤ 20; omega⟩
end Go.Proofs.YtpnbcmblnplbgaaGreatDoor

