/- dn.Text: the walk. -/
import Derived.Test.YtpnbcmblnplbgaaGreatDoorDnText
namespace Go.Proofs.YtpnbcmblnplbgaaGreatDoor
open Go.RowKit
set_option linter.unusedVariables false

/-- The value v is the list l, whose elements lie below block n0. -/
def IsL (n0 : Nat) (w : World) (l : List R) (v : Value) : Prop := ∃ a c, v = .slice a l.length c ∧ l.length ≤ maxLen ∧
  ∀ j, (h : j < l.length) → ∃ b off, a = some ⟨b, off, none⟩ ∧ b < n0 ∧ w.cell? ⟨b, off + j * 2, none⟩ = some (strV l[j].1) ∧ w.cell? ⟨b, off + j * 2 + 1, none⟩ = some (strV l[j].2)
theorem IsL.below {n0 n1 : Nat} {w w' : World} {l : List R} {v : Value} (h : IsL n0 w l v) (hb : Below n0 w w') (hn : n0 ≤ n1) : IsL n1 w' l v := by
  obtain ⟨a, c, hv, hm, hc⟩ := h
  refine ⟨a, c, hv, hm, fun j hj => ?_⟩
  obtain ⟨b, off, ha, hlt, c0, c1⟩ := hc j hj
  exact ⟨b, off, ha, Nat.lt_of_lt_of_le hlt hn, (hb.cell (p := ⟨b, _, none⟩) hlt).trans c0, (hb.cell (p := ⟨b, _, none⟩) hlt).trans c1⟩
theorem ownR_isL {B : Nat} {w : World} {v : Value} {l : List R} (h : OwnR B w v l) (hl : l.length ≤ maxLen) : IsL w.heap.size w l v := by
  by_cases hne : l = []
  · subst hne
    obtain ⟨a, c, hv⟩ := ownR_slice h
    exact ⟨a, c, hv, hl, fun j hj => absurd hj (by simp)⟩
  · obtain ⟨g, c, hv, _, hg, hc⟩ := ownR_at h hne
    refine ⟨_, c, hv, hl, fun j hj => ⟨g, 0, rfl, hg, ?_, ?_⟩⟩
    · rw [Nat.zero_add]; exact (hc j hj).1
    · rw [Nat.zero_add]; exact (hc j hj).2

def textT : Bool → List R → List UInt8
  | _, [] => []
  | f, r :: l => (if f then [] else [44]) ++ (textR r ++ textT false l)
theorem textT_false : ∀ l : List R, l ≠ [] → textT false l = 44 :: textD l
  | [], h => absurd rfl h
  | [r], _ => by simp [textT, textD]
  | r :: x :: l, _ => by
    have := textT_false (x :: l) (by simp)
    show [44] ++ (textR r ++ textT false (x :: l)) = _
    rw [this]; rfl
theorem textT_true : ∀ l : List R, textT true l = textD l
  | [] => rfl
  | [r] => by simp [textT, textD]
  | r :: x :: l => by
    show [] ++ (textR r ++ textT false (x :: l)) = _
    rw [textT_false (x :: l) (by simp)]; rfl
def smallL (l : List R) : Prop := l.length ≤ 1000 ∧ ∀ r ∈ l, r.1.length ≤ 1000 ∧ r.2.length ≤ 1000
theorem textT_len : ∀ (l : List R) (f : Bool), (∀ r ∈ l, r.1.length ≤ 1000 ∧ r.2.length ≤ 1000) → (textT f l).length ≤ l.length * 5000
  | [], f, _ => by simp [textT]
  | r :: l, f, h => by
    have h1 := h r (by simp)
    have h2 := textT_len l false (fun x hx => h x (by simp [hx]))
    have h3 := escR_len r.2 true
    have h4 : (textR r).length = r.1.length + 1 + (escR true r.2).length := by simp [textR, escV]; omega
    have h5 : (if f = true then ([] : List UInt8) else [44]).length ≤ 1 := by split <;> simp
    simp only [textT, List.length_append, List.length_cons]
    omega
theorem textT_drop (l : List R) (j : Nat) (f : Bool) (h : j < l.length) : textT f (l.drop j) = (if f then [] else [44]) ++ (textR l[j] ++ textT false (l.drop (j + 1))) := by
  rw [List.drop_eq_getElem_cons h]; rfl

theorem ofText_len (l : List R) (h : smallL l) : (textD l).length ≤ 5000000 := by
  have := textT_len l true h.2
  have := h.1
  rw [textT_true] at *
  omega

theorem bld_alloc {B b : Nat} {l : List UInt8} {w : World} (h : Bld B b l w) (o : Obj) : Bld B b l (w.alloc o) := by
  rcases h with h | h
  · have hlt := h.lt
    obtain ⟨hB, v, hb, hown, hne⟩ := h
    exact .inl ⟨hB, v, (Lib.alloc_old w o b hlt).trans hb, World.ownsRow.alloc hown _, hne⟩
  · have hlt := h.lt
    obtain ⟨hB, v, hb, hown, hne⟩ := h
    exact .inr ⟨hB, v, (Lib.alloc_old w o b hlt).trans hb, World.ownsRow.alloc hown _, hne⟩

/-- What has been written so far. -/
def Told (b : Nat) (l : List R) (j : Nat) (wr : World) : Prop := ∃ E, E ++ textT (decide (j = 0)) (l.drop j) = textD l ∧ Bld b b E wr ∧ E.length ≤ 5000000

set_option maxRecDepth 100000 in
set_option maxHeartbeats 4000000 in
theorem text_any (l : List R) (hs : smallL l) (v : Value) (w : World) (h : IsL w.heap.size w l v) :
    Calls Tryz.prog 71 #[v] w fun e w' => e = .returned (strV (textD l)) ∧ Below w.heap.size w w' := by
  obtain ⟨a, cp, rfl, hm, hcell⟩ := h
  unfold maxLen at hm
  have hfr0 : Below w.heap.size w (w.alloc (.cells #[.pointer none, .slice none 0 0] 151)) := (Below.refl _ _).alloc (Nat.le_refl _) _
  have hb0 : Bld w.heap.size w.heap.size [] (w.alloc (.cells #[.pointer none, .slice none 0 0] 151)) := Lib.fresh_isBuilder _ _ w
  have htot : (textD l).length ≤ 5000000 := by
    have := textT_len l true hs.2
    have := hs.1
    rw [textT_true] at *
    omega
  have HF0 := Lib.hid hfr0
  have HB0 := Lib.hid hb0
  have HC := Lib.hid hcell
  have HS := Lib.hid hs
  clear hfr0 hb0 hcell hs
  go_enter Tryz.func71, Tryz.ntmps71
  go_wp2
  go_loopw [8] (fun i wr => ∃ j : Nat, j ≤ l.length ∧ i = .int .i64 j ∧ Told w.heap.size l j wr ∧ Below w.heap.size w wr ∧ w.heap.size < wr.heap.size) (fun i _ => l.length - (intOf i).toNat)
  case atStart => exact ⟨0, by omega, rfl, ⟨[], by simp [textT_true], HB0.out, by simp⟩, HF0.out, by simp⟩
  case round =>
    obtain ⟨j, hj, rfl, ⟨E, hE, hbld, hEl⟩, hbel, hsz⟩ := hrel
    have HBel := Lib.hid hbel
    have HBld := Lib.hid hbld
    by_cases hlt : j < l.length
    · have t1 : decide ((j : Int) < (l.length : Int)) = true := by simp; omega
      have t1' : decide (j < l.length) = true := by simpa using hlt
      obtain ⟨b, off, rfl, hbw, c0, c1⟩ := HC.out j hlt
      obtain ⟨X, hX⟩ : ∃ X : ByteArray, X = ⟨l[j].1.toArray⟩ := ⟨_, rfl⟩
      obtain ⟨Y, hY⟩ : ∃ Y : ByteArray, Y = ⟨l[j].2.toArray⟩ := ⟨_, rfl⟩
      have hXl : X.data.toList = l[j].1 := by rw [hX]
      have hYl : Y.data.toList = l[j].2 := by rw [hY]
      have d0 : wr.cell? ⟨b, off + j * 2, none⟩ = some (.string X) := by rw [hbel.cell (p := ⟨b, _, none⟩) hbw, c0, hX]; rfl
      have d1 : wr.cell? ⟨b, off + j * 2 + 1, none⟩ = some (.string Y) := by rw [hbel.cell (p := ⟨b, _, none⟩) hbw, c1, hY]; rfl
      have hXs : X.size ≤ 1000 := by rw [← bytes_len, hXl]; exact (HS.out.2 _ (List.getElem_mem hlt)).1
      have hYs : Y.size ≤ 1000 := by rw [← bytes_len, hYl]; exact (HS.out.2 _ (List.getElem_mem hlt)).2
      have hbox := boxR_new wr X Y
      have HBox := Lib.hid hbox
      have HA := Lib.hid (bld_alloc hbld (.cells #[.string X, .string Y] 50))
      have HAB := Lib.hid (hbel.alloc (by omega) (.cells #[.string X, .string Y] 50))
      rw [textT_drop l j _ hlt] at hE
      have htr : textR l[j] = X.data.toList ++ ([61] ++ escV Y.data.toList) := by rw [hXl, hYl]; rfl
      rw [htr] at hE
      clear hbox hX hXl hY hYl c0 c1 htr
      by_cases h0 : j = 0
      · subst h0
        rw [Nat.zero_mul, Nat.add_zero] at d0 d1
        have hE2 : E ++ X.data.toList ++ [61] ++ escV Y.data.toList ++ textT false (l.drop 1) = textD l := by rw [← hE]; simp
        have hlen : (E ++ X.data.toList ++ [61] ++ escV Y.data.toList).length ≤ 5000000 := by
          have := congrArg List.length hE2
          rw [List.length_append] at this
          omega
        have HE := Lib.hid hE2
        have HLen := Lib.hid hlen
        obtain ⟨k0, k1, _, _⟩ := HBox.out.cells
        have hXl := bytes_len X
        clear hE hE2 hlen hbld hbel
        go_wp2_with (first
          | (go_at_call 102; refine (writeString_any w.heap.size w.heap.size E X _ HA.out (by (try simp only [List.length_append, List.length_cons, List.length_nil]); omega) (by (try simp); omega)).mono ?_; rintro e w2 ⟨rfl, hb2, hf2⟩; have H2 := Lib.hid hb2; have HF2 := Lib.hid hf2; have HX2 := Lib.hid (hf2.box HBox.out (by omega)); clear hb2 hf2)
          | (go_at_call 101; refine (wb_any w.heap.size w.heap.size (E ++ X.data.toList) 61 61 rfl _ H2.out.bld (by (try simp only [List.length_append]); omega) (by have := HF2.out.1.size; simp at *; omega)).mono ?_; rintro e w3 ⟨rfl, hb3, hf3⟩; have H3 := Lib.hid hb3; have HF3 := Lib.hid hf3; have HX3 := Lib.hid (hf3.box HX2.out (by omega)); obtain ⟨k0, k1, _, _⟩ := HX3.out.cells; clear hb3 hf3)
          | (go_at_call 103; refine (writeVal_any w.heap.size w.heap.size (E ++ X.data.toList ++ [61]) Y _ H3.out (by (try simp only [List.length_append, List.length_cons, List.length_nil]); omega) (by have := HF2.out.1.size; have := HF3.out.1.size; simp at *; omega)).mono ?_; rintro e w4 ⟨rfl, hb4, hf4⟩; have H4 := Lib.hid hb4; have HF4 := Lib.hid hf4; clear hb4 hf4))
        go_roundw
        case rel => exact ⟨1, by omega, rfl, ⟨_, by simpa using HE.out, H4.out.bld, HLen.out⟩, ((HAB.out.trans HF2.out.1).trans HF3.out.1).trans HF4.out.1, by have := HF2.out.1.size; have := HF3.out.1.size; have := HF4.out.1.size; simp at *; omega⟩
        case measure => simp [intOf]; omega
      · have t2 : decide ((0 : Int) < (j : Int)) = true := by simp; omega
        have t2' : decide (0 < j) = true := by simp; omega
        rw [show decide (j = 0) = false from by simpa using h0] at hE
        have hE2 : E ++ [44] ++ X.data.toList ++ [61] ++ escV Y.data.toList ++ textT false (l.drop (j + 1)) = textD l := by rw [← hE]; simp
        have hlen : (E ++ [44] ++ X.data.toList ++ [61] ++ escV Y.data.toList).length ≤ 5000000 := by
          have := congrArg List.length hE2
          rw [List.length_append] at this
          omega
        have HE := Lib.hid hE2
        have HLen := Lib.hid hlen
        have hXl := bytes_len X
        have tok1 : True := trivial
        clear hE hE2 hlen hbld hbel
        go_wp2_with (first
          | (go_at_call 101; have _t := tok1; refine (wb_any w.heap.size w.heap.size E 44 44 rfl _ HA.out (by omega) (by (try simp); omega)).mono ?_; clear _t tok1; rintro e w1 ⟨rfl, hb1, hf1⟩; have H1 := Lib.hid hb1; have HF1 := Lib.hid hf1; have HX1 := Lib.hid (hf1.box HBox.out (by omega)); obtain ⟨k0, k1, _, _⟩ := HX1.out.cells; clear hb1 hf1)
          | (go_at_call 102; refine (writeString_any w.heap.size w.heap.size (E ++ [44]) X _ H1.out.bld (by (try simp only [List.length_append, List.length_cons, List.length_nil]); omega) (by have := HF1.out.1.size; simp at this; omega)).mono ?_; rintro e w2 ⟨rfl, hb2, hf2⟩; have H2 := Lib.hid hb2; have HF2 := Lib.hid hf2; have HX2 := Lib.hid (hf2.box HX1.out (by omega)); clear hb2 hf2)
          | (go_at_call 101; refine (wb_any w.heap.size w.heap.size ((E ++ [44]) ++ X.data.toList) 61 61 rfl _ H2.out.bld (by (try simp only [List.length_append, List.length_cons, List.length_nil]); omega) (by have := HF1.out.1.size; have := HF2.out.1.size; simp at *; omega)).mono ?_; rintro e w3 ⟨rfl, hb3, hf3⟩; have H3 := Lib.hid hb3; have HF3 := Lib.hid hf3; have HX3 := Lib.hid (hf3.box HX2.out (by omega)); obtain ⟨k0, k1, _, _⟩ := HX3.out.cells; clear hb3 hf3)
          | (go_at_call 103; refine (writeVal_any w.heap.size w.heap.size ((E ++ [44]) ++ X.data.toList ++ [61]) Y _ H3.out (by (try simp only [List.length_append, List.length_cons, List.length_nil]); omega) (by have := HF1.out.1.size; have := HF2.out.1.size; have := HF3.out.1.size; simp at *; omega)).mono ?_; rintro e w4 ⟨rfl, hb4, hf4⟩; have H4 := Lib.hid hb4; have HF4 := Lib.hid hf4; clear hb4 hf4))
        go_roundw
        case rel => exact ⟨j + 1, by omega, by go_num, ⟨_, by simpa using HE.out, H4.out.bld, HLen.out⟩, (((HAB.out.trans HF1.out.1).trans HF2.out.1).trans HF3.out.1).trans HF4.out.1, by have := HF1.out.1.size; have := HF2.out.1.size; have := HF3.out.1.size; have := HF4.out.1.size; simp at *; omega⟩
        case measure => simp [intOf]; omega
    · have t1 : decide ((j : Int) < (l.length : Int)) = false := by simp; omega
      have t1' : decide (j < l.length) = false := by simp; omega
      rw [List.drop_of_length_le (by omega)] at hE
      simp only [textT, List.append_nil] at hE
      rw [hE] at hbld
      have hst := bldString_any w.heap.size w.heap.size (textD l) wr hbld (by omega)
      have HSt := Lib.hid hst
      clear hst hbld hE hbel
      go_wp2_with (go_at_call 104; refine (HSt.out).mono ?_; rintro e w2 ⟨rfl, hb2⟩; have HB2 := Lib.hid hb2; clear hb2)
      go_ret
      exact ⟨rfl, HBel.out.trans HB2.out⟩
end Go.Proofs.YtpnbcmblnplbgaaGreatDoor
