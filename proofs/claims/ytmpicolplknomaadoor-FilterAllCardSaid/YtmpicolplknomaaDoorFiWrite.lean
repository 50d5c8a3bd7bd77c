/- filter.write, Text: the walks. -/
import Derived.Test.YtmpicolplknomaaDoorFiText
import Derived.Test.YtmpicolplknomaaDoorDnTextW
namespace Go.Proofs.YtmpicolplknomaaDoor
open Go.RowKit
set_option linter.unusedVariables false
set_option linter.unusedSimpArgs false

theorem mayF_leaf {d : Nat} {k : Int} {t x : List UInt8} {p : List (List UInt8)} {l : List FT} (h : mayF (d + 1) (.mk k t x p l) = true) : t.length ≤ 30 ∧ x.length ≤ 100 ∧ p.length ≤ 8 ∧ (∀ y ∈ p, y.length ≤ 100) ∧ (∀ f ∈ l, mayF d f = true) ∧ l.length ≤ 40 := by
  have h' : (if holdsC k then t.isEmpty && x.isEmpty && p.isEmpty && kidsC k l.length && l.all (mayF d) else okLeaf k t x p l.length) = true := h
  split at h'
  · simp only [Bool.and_eq_true, List.isEmpty_iff] at h'
    obtain ⟨⟨⟨⟨rfl, rfl⟩, rfl⟩, hk⟩, ha⟩ := h'
    refine ⟨by simp, by simp, by simp, fun y hy => absurd hy (by simp), List.all_eq_true.1 ha, ?_⟩
    unfold kidsC at hk
    split at hk
    · simp only [decide_eq_true_eq] at hk; omega
    · simpa using hk
  · unfold okLeaf at h'
    simp only [Bool.and_eq_true, decide_eq_true_eq] at h'
    obtain ⟨⟨ht, hl⟩, hc⟩ := h'
    have hl0 : l = [] := List.eq_nil_of_length_eq_zero hl
    subst hl0
    have ht30 : t.length ≤ 30 := by
      unfold okType at ht
      simp only [Bool.and_eq_true, decide_eq_true_eq] at ht
      exact ht.1.1.2
    refine ⟨ht30, ?_, ?_, ?_, fun f hf => absurd hf (by simp), by simp⟩
    · split at hc
      · simp only [Bool.and_eq_true, decide_eq_true_eq] at hc; exact hc.1
      · split at hc
        · simp only [Bool.and_eq_true, List.isEmpty_iff] at hc; rw [hc.1]; simp
        · split at hc
          · simp only [Bool.and_eq_true, List.isEmpty_iff] at hc; rw [hc.1]; simp
          · cases hc
    · split at hc
      · simp only [Bool.and_eq_true, List.isEmpty_iff] at hc; rw [hc.2]; simp
      · split at hc
        · simp only [Bool.and_eq_true] at hc
          exact ((okParts_iff p).1 hc.2).1.2
        · split at hc
          · simp only [Bool.and_eq_true, List.isEmpty_iff] at hc; rw [hc.2]; simp
          · cases hc
    · split at hc
      · simp only [Bool.and_eq_true, List.isEmpty_iff] at hc; rw [hc.2]; simp
      · split at hc
        · simp only [Bool.and_eq_true] at hc
          intro y hy
          obtain ⟨i, hi, rfl⟩ := List.getElem_of_mem hy
          exact (((okParts_iff p).1 hc.2).2.1 i hi).1
        · split at hc
          · simp only [Bool.and_eq_true, List.isEmpty_iff] at hc; rw [hc.2]; simp
          · cases hc
/-- Parts with stars ahead, but for the first. -/
def starR : Bool → List (List UInt8) → List UInt8
  | _, [] => []
  | f, x :: l => (if f then [] else [42]) ++ (quo x ++ starR false l)
theorem starR_false : ∀ (x : List UInt8) (l : List (List UInt8)), quo x ++ starR false l = starJ (x :: l)
  | x, [] => by simp [starR, starJ]
  | x, y :: l => by
    show quo x ++ ([42] ++ (quo y ++ starR false l)) = quo x ++ 42 :: starJ (y :: l)
    rw [starR_false y l]
    rfl
theorem starR_true (p : List (List UInt8)) : starR true p = starJ p := by
  cases p with
  | nil => rfl
  | cons x l => exact starR_false x l
theorem starR_drop (p : List (List UInt8)) (j : Nat) (hj : j < p.length) (f : Bool) : starR f (p.drop j) = (if f then [] else [42]) ++ (quo p[j] ++ starR false (p.drop (j + 1))) := by
  rw [List.drop_eq_getElem_cons hj]
  rfl
theorem Bld.bounds {B b : Nat} {l : List UInt8} {w : World} (h : Bld B b l w) : B ≤ b ∧ b < w.heap.size := by
  rcases h with ⟨h1, v, hb, _⟩ | ⟨h1, v, hb, _⟩
  · exact ⟨h1, (Array.getElem?_eq_some_iff.1 hb).1⟩
  · exact ⟨h1, (Array.getElem?_eq_some_iff.1 hb).1⟩
theorem bld'_alloc {B b : Nat} {l : List UInt8} {w : World} (h : Bld' B b l w) (o : Obj) : Bld' B b l (w.alloc o) := by
  have hlt := h.lt
  obtain ⟨hB, v, hb, hown, hne⟩ := h
  exact ⟨hB, v, (Lib.alloc_old w o b hlt).trans hb, World.ownsRow.alloc hown _, hne⟩
theorem Fr.box5 {B b k : Nat} {w w' : World} {cs : Array Value} (h : Fr B b w w') (hk : w.heap[k]? = some (.cells cs 25 (0, 0))) (hb : k ≠ b) : w'.heap[k]? = some (.cells cs 25 (0, 0)) := by
  refine (h.2 k (Array.getElem?_eq_some_iff.1 hk).1 hb fun cs' fr e => ?_).trans hk
  rw [hk] at e
  cases e
theorem cells5 {w : World} {k : Nat} {x0 x1 x2 x3 x4 : Value} (h : w.heap[k]? = some (.cells #[x0, x1, x2, x3, x4] 25 (0, 0))) : w.cell? ⟨k, 0, none⟩ = some x0 ∧ w.cell? ⟨k, 1, none⟩ = some x1 ∧ w.cell? ⟨k, 2, none⟩ = some x2 ∧ w.cell? ⟨k, 3, none⟩ = some x3 ∧ w.cell? ⟨k, 4, none⟩ = some x4 := by
  refine ⟨?_, ?_, ?_, ?_, ?_⟩ <;> simp [World.cell?, h]

set_option maxRecDepth 100000 in
set_option maxHeartbeats 8000000 in
theorem write_all : ∀ (d : Nat) (f : FT) (B b : Nat) (A : List UInt8) (v : Value) (w : World), mayF d f = true → Bld B b A w → IsFl (fun q => q < B) w f v → A.length + (textF f).length ≤ 1000000000000 → B ≤ w.heap.size →
    Calls Tryd.prog 19 #[.pointer (some ⟨b, 0, none⟩), v] w fun e w' => e = .returned (.tuple #[]) ∧ Bld' B b (A ++ textF f) w' ∧ Fr B b w w' := by
  intro d
  induction d with
  | zero => intro f B b A v w h; cases f; cases h
  | succ d ih =>
    intro f B b A v w hmay hbld h hlen hBw
    obtain ⟨k, t, x, p, l⟩ := f
    obtain ⟨s1, s2, s3, s4, s5, s6⟩ := mayF_leaf hmay
    obtain ⟨pa, pc, ka, kc, rfl, _, _, _, hp, _, hkids⟩ := h.parts
    obtain ⟨T, hT, hTl⟩ := strV_text t
    obtain ⟨X, hX, hXl⟩ := strV_text x
    rw [hT, hX]
    have hTx : textF (.mk k t x p l) = 40 :: (t ++ (signF k ++ (quo x ++ (starJ p ++ (textFs l ++ [41]))))) := by rw [textF]
    obtain ⟨n, hn⟩ : ∃ n, n = l.length := ⟨_, rfl⟩
    obtain ⟨m, hm⟩ : ∃ m, m = p.length := ⟨_, rfl⟩
    rw [← hn] at s6 ⊢
    rw [← hm] at hp s3 ⊢
    obtain ⟨A1, hA1⟩ : ∃ L, L = A ++ [40] := ⟨_, rfl⟩
    obtain ⟨A2, hA2⟩ : ∃ L, L = A1 ++ T.data.toList := ⟨_, rfl⟩
    obtain ⟨SG, hSG⟩ : ∃ S, S = ofL (signF k) := ⟨_, rfl⟩
    have hSl : SG.data.toList = signF k := by rw [hSG, ofL_list]
    obtain ⟨A3, hA3⟩ : ∃ L, L = A2 ++ SG.data.toList := ⟨_, rfl⟩
    obtain ⟨A4, hA4⟩ : ∃ L, L = A3 ++ quo X.data.toList := ⟨_, rfl⟩
    obtain ⟨A5, hA5⟩ : ∃ L, L = A4 ++ starJ p := ⟨_, rfl⟩
    obtain ⟨A6, hA6⟩ : ∃ L, L = A5 ++ textFs l := ⟨_, rfl⟩
    have hfin : A ++ textF (.mk k t x p l) = A6 ++ [41] := by rw [hTx, hA6, hA5, hA4, hA3, hA2, hA1, hTl, hXl, hSl]; simp
    have hle : A6.length + 1 ≤ 1000000000000 := by
      have := congrArg List.length hfin
      rw [List.length_append, List.length_append, List.length_singleton] at this
      omega
    have hsz : A1.length ≤ A6.length ∧ A2.length ≤ A6.length ∧ A3.length ≤ A6.length ∧ A4.length ≤ A6.length ∧ A5.length ≤ A6.length ∧ A.length + 1 = A1.length ∧ A1.length + T.size = A2.length ∧ A2.length + SG.size = A3.length := by
      have e1 : A1.length = A.length + 1 := by rw [hA1, List.length_append, List.length_singleton]
      have e2 : A2.length = A1.length + T.size := by rw [hA2, List.length_append, bytes_len]
      have e3 : A3.length = A2.length + SG.size := by rw [hA3, List.length_append, bytes_len]
      have e4 : A4.length = A3.length + (quo X.data.toList).length := by rw [hA4, List.length_append]
      have e5 : A5.length = A4.length + (starJ p).length := by rw [hA5, List.length_append]
      have e6 : A6.length = A5.length + (textFs l).length := by rw [hA6, List.length_append]
      omega
    rw [hfin]
    have hXs : X.size ≤ 100 := by rw [← bytes_len, hXl]; exact s2
    obtain ⟨hBb, hbw⟩ := hbld.bounds
    obtain ⟨W0, hW0⟩ : ∃ W, W = w.alloc (.cells #[.int .i64 k, .string T, .string X, .slice pa m pc, .slice ka n kc] 25) := ⟨_, rfl⟩
    have hbx : W0.heap[w.heap.size]? = some (.cells #[.int .i64 k, .string T, .string X, .slice pa m pc, .slice ka n kc] 25 (0, 0)) := by rw [hW0]; exact heap_alloc_new w _
    have hb0 : Bld B b A W0 := by rw [hW0]; exact bld_alloc hbld _
    have hf0 : Fr B b w W0 := by rw [hW0]; exact (Fr.refl B b w).alloc hBw _
    have hs0 : W0.heap.size = w.heap.size + 1 := by rw [hW0]; simp
    obtain ⟨hb, hhb⟩ : ∃ q, q = w.heap.size := ⟨_, rfl⟩
    rw [← hhb] at hbx
    have hne : hb ≠ b := by omega
    have HW0 := Lib.hid hW0.symm
    have HHb := Lib.hid hhb
    have HNe := Lib.hid hne
    have HBx := Lib.hid hbx
    have HB0 := Lib.hid hb0
    have HF0 := Lib.hid hf0
    have HP := Lib.hid hp
    have HKids := Lib.hid hkids
    have HN := Lib.hid hn
    have HM := Lib.hid hm
    have HA1 := Lib.hid hA1
    have HA2 := Lib.hid hA2
    have HA3 := Lib.hid hA3
    have HA4 := Lib.hid hA4
    have HA5 := Lib.hid hA5
    have HA6 := Lib.hid hA6
    have HSz := Lib.hid hsz
    have HLe := Lib.hid hle
    have HS4 := Lib.hid s4
    have HS5 := Lib.hid s5
    have HSG := Lib.hid (fun w => by have := sign_any k w; rwa [← hSG] at this)
    have HBW : Hid (B ≤ W0.heap.size ∧ B ≤ w.heap.size) := Lib.hid ⟨by omega, hBw⟩
    have HI := Lib.hid ih
    clear hW0 hhb hne hbx hb0 hf0 hp hkids hn hm hA1 hA2 hA3 hA4 hA5 hA6 hsz hle s1 s2 s4 s5 hSG hSl hTx hfin hT hTl hX hXl h hlen hBw hbld hmay hbw hs0 ih
    go_enter Tryd.func19, Tryd.ntmps19
    go_upto_region 1 with (fail)
    rw [HW0.out, ← HHb.out]
    go_upto_region 2 with (go_at_call 36; refine (writeString_any B b A ⟨#[40]⟩ W0 HB0.out (by have := HSz.out; have := HLe.out; have : (⟨#[40]⟩ : ByteArray).size = 1 := rfl; omega) HBW.out.1).mono ?_; rintro e w1 ⟨rfl, h1, f1⟩; rw [show A ++ (⟨#[40]⟩ : ByteArray).data.toList = A1 from HA1.out.symm] at h1; have H1 := Lib.hid h1; have F1 := Lib.hid f1; clear h1 f1)
    have HX1 := Lib.hid (F1.out.box5 HBx.out HNe.out)
    obtain ⟨c0, c1, c2, c3, c4⟩ := cells5 HX1.out
    have HZ1 : Hid (B ≤ w1.heap.size) := Lib.hid (Nat.le_trans HBW.out.1 F1.out.1.size)
    go_upto_region 3 with (go_at_call 36; refine (writeString_any B b A1 T w1 H1.out.bld (by have := HSz.out; have := HLe.out; omega) HZ1.out).mono ?_; rintro e w2 ⟨rfl, h1, f1⟩; rw [← HA2.out] at h1; have H2 := Lib.hid h1; have F2 := Lib.hid (F1.out.trans f1); clear h1 f1)
    have HX2 := Lib.hid (F2.out.box5 HBx.out HNe.out)
    clear c0 c1 c2 c3 c4
    obtain ⟨c0, c1, c2, c3, c4⟩ := cells5 HX2.out
    have HZ2 : Hid (B ≤ w2.heap.size) := Lib.hid (Nat.le_trans HBW.out.1 F2.out.1.size)
    go_upto_region 4 with (first
      | (go_at_call 26; refine (HSG.out _).mono ?_; rintro e w9 ⟨rfl, rfl⟩)
      | (go_at_call 36; refine (writeString_any B b A2 SG w2 H2.out.bld (by have := HSz.out; have := HLe.out; omega) HZ2.out).mono ?_; rintro e w3 ⟨rfl, h1, f1⟩; rw [← HA3.out] at h1; have H3 := Lib.hid h1; have F3 := Lib.hid (F2.out.trans f1); clear h1 f1))
    have HX3 := Lib.hid (F3.out.box5 HBx.out HNe.out)
    clear c0 c1 c2 c3 c4
    obtain ⟨c0, c1, c2, c3, c4⟩ := cells5 HX3.out
    have HZ3 : Hid (B ≤ w3.heap.size) := Lib.hid (Nat.le_trans HBW.out.1 F3.out.1.size)
    go_upto_region 5 with (go_at_call 37; refine (writeValF_any B b A3 X w3 H3.out (by have := HSz.out; have := HLe.out; omega) HZ3.out).mono ?_; rintro e w4 ⟨rfl, h1, f1⟩; rw [← HA4.out] at h1; have H4 := Lib.hid h1; have F4 := Lib.hid (F3.out.trans f1); clear h1 f1)
    have HX4 := Lib.hid (F4.out.box5 HBx.out HNe.out)
    clear c0 c1 c2 c3 c4
    obtain ⟨c0, c1, c2, c3, c4⟩ := cells5 HX4.out
    go_wp2
    clear c0 c1 c2 c3 c4
    go_loopw [26] (fun i wr => ∃ j : Nat, j ≤ m ∧ i = .int .i64 j ∧ Hid (∃ E, E ++ starR (decide (j = 0)) (p.drop j) = starJ p ∧ Bld' B b (A4 ++ E) wr) ∧ Hid (Fr B b W0 wr)) (fun i _ => m - (intOf i).toNat)
    case atStart => exact ⟨0, by omega, rfl, Lib.hid ⟨[], by rw [List.drop_zero]; exact starR_true p, by rw [List.append_nil]; exact H4.out⟩, F4⟩
    case round =>
      obtain ⟨j, hj, rfl, HE, HFr⟩ := hrel
      rename World => wo
      by_cases hlt : j < m
      · have hjl : j < p.length := by rw [← HM.out]; exact hlt
        obtain ⟨E, hE, hbE⟩ := HE.out
        rw [starR_drop p j hjl] at hE
        obtain ⟨_, _, e0, _, hh⟩ := HP.out
        obtain ⟨pb, po, e1, hpb, hcc⟩ := hh j hjl
        have e2 := (Value.slice.inj e0).1
        rw [e1] at e2
        subst e2
        obtain ⟨Y, hY, hYl⟩ := strV_text p[j]
        have hcj : wo.cell? ⟨pb, po + j, none⟩ = some (.string Y) := by
          have hb' : pb < B := hpb
          rw [HFr.out.1.cell (p := ⟨pb, po + j, none⟩) hb', HF0.out.1.cell (p := ⟨pb, po + j, none⟩) hb', hcc, hY]
        have hYs : Y.size ≤ 100 := by rw [← bytes_len, hYl]; exact HS4.out _ (List.getElem_mem hjl)
        have ti0 : (0 : Int) ≤ (j : Int) := by omega
        have ti1 : (j : Int) < (m : Int) := by omega
        have hEl : (A4 ++ E).length + 1 + (quo Y.data.toList).length ≤ A6.length + 1 := by
          have h5 : A5.length = A4.length + (starJ p).length := by rw [HA5.out, List.length_append]
          have := congrArg List.length hE
          simp only [List.length_append, ← hYl] at this
          have := HSz.out
          rw [List.length_append]
          by_cases h0 : j = 0
          · simp only [h0, decide_true, if_true] at *; simp at *; omega
          · simp only [h0, decide_false] at *; simp at *; omega
        have hz : B ≤ wo.heap.size := Nat.le_trans HBW.out.1 HFr.out.1.size
        rw [← hYl] at hE
        have HbE := Lib.hid hbE
        have HEl := Lib.hid hEl
        have HZ := Lib.hid hz
        by_cases h0 : j = 0
        · subst h0
          have hE2 : E ++ quo Y.data.toList ++ starR (decide (0 + 1 = 0)) (p.drop (0 + 1)) = starJ p := by rw [← hE]; simp
          have HE2 := Lib.hid hE2
          rw [Nat.add_zero] at hcj
          clear hE hE2 hbE hEl hz hcc hh e0 e1 hpb hY hYl hjl
          go_wp2_with (go_at_call 37; refine (writeValF_any B b (A4 ++ E) Y wo HbE.out (by have := HEl.out; have := HLe.out; omega) HZ.out).mono ?_; rintro e w5 ⟨rfl, h1, f1⟩; have H5 := Lib.hid h1; have F5 := Lib.hid (HFr.out.trans f1); clear h1 f1)
          go_roundw
          case rel => exact ⟨1, by omega, rfl, Lib.hid ⟨_, HE2.out, by rw [← List.append_assoc]; exact H5.out⟩, F5⟩
          case measure => simp [intOf]; omega
        · have hE2 : E ++ [42] ++ quo Y.data.toList ++ starR (decide (j + 1 = 0)) (p.drop (j + 1)) = starJ p := by rw [← hE]; simp [h0]
          have HE2 := Lib.hid hE2
          have t2 : decide ((0 : Int) < (j : Int)) = true := by simp; omega
          have t2' : decide (0 < j) = true := by simp; omega
          clear hE hE2 hbE hEl hz hcc hh e0 e1 hpb hY hYl hjl
          go_wp2_with (first
            | (go_at_call 36; refine (writeString_any B b (A4 ++ E) ⟨#[42]⟩ wo HbE.out.bld (by have := HEl.out; have := HLe.out; have : (⟨#[42]⟩ : ByteArray).size = 1 := rfl; omega) HZ.out).mono ?_; rintro e w5 ⟨rfl, h1, f1⟩; have H5 := Lib.hid h1; have F5 := Lib.hid (HFr.out.trans f1); have HZ5 : Hid (B ≤ w5.heap.size) := Lib.hid (Nat.le_trans HZ.out f1.1.size); clear h1 f1)
            | (go_at_call 37; refine (writeValF_any B b (A4 ++ E ++ (⟨#[42]⟩ : ByteArray).data.toList) Y w5 H5.out (by have := HEl.out; have := HLe.out; rw [List.length_append]; have : (⟨#[42]⟩ : ByteArray).data.toList.length = 1 := rfl; omega) HZ5.out).mono ?_; rintro e w6 ⟨rfl, h1, f1⟩; have H6 := Lib.hid h1; have F6 := Lib.hid (F5.out.trans f1); clear h1 f1))
          go_roundw
          case rel => exact ⟨j + 1, by omega, by go_num, Lib.hid ⟨_, HE2.out, by simpa using H6.out⟩, F6⟩
          case measure => simp [intOf]; omega
      · obtain ⟨E, hE, hbE⟩ := HE.out
        rw [List.drop_of_length_le (by rw [← HM.out]; omega)] at hE
        simp only [starR, List.append_nil] at hE
        rw [hE, ← HA5.out] at hbE
        have H5 := Lib.hid hbE
        have HX5 := Lib.hid (HFr.out.box5 HBx.out HNe.out)
        obtain ⟨c0, c1, c2, c3, c4⟩ := cells5 HX5.out
        have t9 : decide (j < m) = false := by simp; omega
        clear hE hbE HE
        go_wp2
        clear c0 c1 c2 c3 c4
        go_loopw [42] (fun i wr => ∃ j : Nat, j ≤ n ∧ i = .int .i64 j ∧ Hid (Bld' B b (A5 ++ textFs (l.take j)) wr) ∧ Hid (Fr B b W0 wr)) (fun i _ => n - (intOf i).toNat)
        case atStart => exact ⟨0, by omega, rfl, Lib.hid (by rw [List.take_zero, show textFs [] = [] from by rw [textFs], List.append_nil]; exact H5.out), HFr⟩
        case round =>
          obtain ⟨i, hi, rfl, HbE, HFi⟩ := hrel
          rename World => wi
          by_cases hli : i < n
          · have hil : i < l.length := by rw [← HN.out]; exact hli
            obtain ⟨b', off, v0, v1, v2, v3, v4, e, hb', g0, g1, g2, g3, g4, hf⟩ := HKids.out.get l _ 0 i l[i] (List.getElem?_eq_getElem hil)
            subst e
            rw [Nat.zero_add] at g0 g1 g2 g3 g4
            have hbb : b' < B := hb'
            have hcw : ∀ o, wi.cell? ⟨b', o, none⟩ = w.cell? ⟨b', o, none⟩ := fun o => by rw [HFi.out.1.cell (p := ⟨b', o, none⟩) hbb, HF0.out.1.cell (p := ⟨b', o, none⟩) hbb]
            rw [← hcw] at g0 g1 g2 g3 g4
            have hf2 : IsFl (fun q => q < B) wi l[i] (.agg #[v0, v1, v2, v3, v4]) := hf.imp (fun _ h => h) (fun q o h => by rw [HFi.out.1.cell (p := ⟨q, o, none⟩) h, HF0.out.1.cell (p := ⟨q, o, none⟩) h])
            obtain ⟨k', T', X', pa', pn', pc', ka', kn', kc', e⟩ := hf2.shape
            simp only [Value.agg.injEq, Array.mk.injEq, List.cons.injEq, and_true] at e
            obtain ⟨rfl, rfl, rfl, rfl, rfl⟩ := e
            have hz : B ≤ wi.heap.size := Nat.le_trans HBW.out.1 HFi.out.1.size
            have hba := bld'_alloc HbE.out (.cells #[.int .i64 k', .string T', .string X', .slice pa' pn' pc', .slice ka' kn' kc'] 25)
            have hfa : Fr B b W0 (wi.alloc (.cells #[.int .i64 k', .string T', .string X', .slice pa' pn' pc', .slice ka' kn' kc'] 25)) := HFi.out.alloc hz _
            have hf3 : IsFl (fun q => q < B) (wi.alloc (.cells #[.int .i64 k', .string T', .string X', .slice pa' pn' pc', .slice ka' kn' kc'] 25)) l[i] (.agg #[.int .i64 k', .string T', .string X', .slice pa' pn' pc', .slice ka' kn' kc']) := hf2.imp (fun _ h => h) (fun q o h => (box5 wi _ _ _ _ _).cell (p := ⟨q, o, none⟩) (show q < wi.heap.size by omega))
            have htk : textFs (l.take (i + 1)) = textFs (l.take i) ++ textF l[i] := by
              rw [List.take_succ_eq_append_getElem hil, textFs_append]
              rw [show textFs [l[i]] = textF l[i] from by rw [textFs, show textFs [] = [] from by rw [textFs], List.append_nil]]
            have htl : (textFs (l.take (i + 1))).length ≤ (textFs l).length := by
              have := congrArg List.length (textFs_append (l.take (i + 1)) (l.drop (i + 1)))
              rw [List.take_append_drop, List.length_append] at this
              omega
            have h6 : A6.length = A5.length + (textFs l).length := by rw [HA6.out, List.length_append]
            have hca := HI.out l[i] B b (A5 ++ textFs (l.take i)) _ _ (HS5.out _ (List.getElem_mem hil)) hba.bld hf3 (by rw [htk, List.length_append] at htl; rw [List.length_append]; have := HLe.out; omega) (by simp; omega)
            rw [List.append_assoc, ← htk] at hca
            have HCa := Lib.hid hca
            have HFa := Lib.hid hfa
            have ti0 : (0 : Int) ≤ (i : Int) := by omega
            have ti1 : (i : Int) < (n : Int) := by omega
            clear hca hfa hba hf hf2 hf3 hcw hz htk htl h6 hil hb' hbb
            go_wp2_with (go_at_call 19; refine (HCa.out).mono ?_; rintro e w6 ⟨rfl, h1, f1⟩; have H6 := Lib.hid h1; have F6 := Lib.hid (HFa.out.trans f1); clear h1 f1)
            go_roundw
            case rel => exact ⟨i + 1, by omega, by go_num, H6, F6⟩
            case measure => simp [intOf]; omega
          · have hA : Bld' B b A6 wi := by
              have := HbE.out
              rw [List.take_of_length_le (by rw [← HN.out]; omega), ← HA6.out] at this
              exact this
            have H6 := Lib.hid hA
            have HZ : Hid (B ≤ wi.heap.size) := Lib.hid (Nat.le_trans HBW.out.1 HFi.out.1.size)
            have t8 : decide (i < n) = false := by simp; omega
            clear hA HbE
            go_wp2_with (go_at_call 36; refine (writeString_any B b A6 ⟨#[41]⟩ wi H6.out.bld (by have := HLe.out; have : (⟨#[41]⟩ : ByteArray).size = 1 := rfl; omega) HZ.out).mono ?_; rintro e w7 ⟨rfl, h1, f1⟩; have H7 := Lib.hid h1; have F7 := Lib.hid (HF0.out.trans (HFi.out.trans f1)); clear h1 f1)
            go_end0
            exact ⟨rfl, H7.out, F7.out⟩
end Go.Proofs.YtmpicolplknomaaDoor
