/- What BerDeep asks: the walk. -/
import Derived.Test.YtiagcegclgallaaNest
import Derived.Test.YtiagcegclgallaaLen
import Derived.Test.YtiagcegclgallaaSameRef
namespace Go.Proofs.Ytiagcegclgallaa
open Go.RowKit
set_option linter.unusedVariables false

def nestB (leaf : Bool) (j : Nat) : ByteArray := ⟨(enc (nest j (core leaf))).toArray⟩
theorem nestB_size (leaf : Bool) (j : Nat) (h : j ≤ 16) : (nestB leaf j).size = coreN leaf + 2 * j := by
  rw [← enc_nest_len leaf j h]; rfl

/-- What the rounds hold. -/
def InNest (w wr : World) (leaf : Bool) (j : Nat) : Prop :=
  ∃ x0 x1 x2, wr.heap[w.heap.size]? = some (.cells #[x0, x1, x2] 24 (0, 0)) ∧ IsT wr.heap.size wr (nest j (core leaf)) (.agg #[x0, x1, x2]) ∧ OffT w.heap.size wr (nest j (core leaf)) (.agg #[x0, x1, x2]) ∧ Below w.heap.size w wr

theorem inNest_leaf (w : World) : InNest w (w.alloc (.cells #[.int .i64 4, .string ⟨#[120]⟩, .slice none 0 0] 24)) true 0 :=
  ⟨_, _, _, World.alloc_heap_new w _, ⟨none, 0, rfl, rfl, by decide, by decide, trivial⟩, ⟨none, 0, rfl, trivial⟩, (Below.refl _ _).alloc (Nat.le_refl _) _⟩

mutual
theorem sameT_refl : ∀ t : T, sameT t t = true
  | .mk tag s l => by simp [sameT, sameTs_refl l]
theorem sameTs_refl : ∀ l : List T, sameTs l l = true
  | [] => rfl
  | a :: l => by simp [sameTs, sameT_refl a, sameTs_refl l]
end

def st3 (wr : World) (b : Nat) (x y z : Value) : World := ((wr.setCell ⟨b, 0, none⟩ x).setCell ⟨b, 1, none⟩ y).setCell ⟨b, 2, none⟩ z
theorem st3_size (wr : World) (b : Nat) (x y z : Value) : (st3 wr b x y z).heap.size = wr.heap.size := by simp [st3, World.setCell]
theorem st3_other (wr : World) (b : Nat) (x y z : Value) (k : Nat) (h : k ≠ b) : (st3 wr b x y z).heap[k]? = wr.heap[k]? :=
  ((Below.heap_setCell _ ⟨b, 2, none⟩ _ k h).trans (Below.heap_setCell _ ⟨b, 1, none⟩ _ k h)).trans (Below.heap_setCell _ ⟨b, 0, none⟩ _ k h)

theorem inNest_succ {w wr : World} {leaf : Bool} {j : Nat} {x0 x1 x2 : Value} (hcell : wr.heap[w.heap.size]? = some (.cells #[x0, x1, x2] 24 (0, 0)))
    (hist : IsT wr.heap.size wr (nest j (core leaf)) (.agg #[x0, x1, x2])) (hoff : OffT w.heap.size wr (nest j (core leaf)) (.agg #[x0, x1, x2])) (hbel : Below w.heap.size w wr) (o : Obj) :
    InNest w (((st3 wr w.heap.size (.int .i64 48) (.string ⟨#[]⟩) (.slice (some ⟨wr.heap.size, 0, none⟩) 1 1)).alloc (.cells #[x0, x1, x2] 24)).alloc o) leaf (j + 1) := by
  have hwlt : w.heap.size < wr.heap.size := (Array.getElem?_eq_some_iff.1 hcell).1
  have hs := st3_size wr w.heap.size (.int .i64 48) (.string ⟨#[]⟩) (.slice (some ⟨wr.heap.size, 0, none⟩) 1 1)
  have hb0 := box_store3 hcell (.int .i64 48) (.string ⟨#[]⟩) (.slice (some ⟨wr.heap.size, 0, none⟩) 1 1)
  have hb0' : (st3 wr w.heap.size (.int .i64 48) (.string ⟨#[]⟩) (.slice (some ⟨wr.heap.size, 0, none⟩) 1 1)).heap[w.heap.size]? = some (.cells #[.int .i64 48, .string ⟨#[]⟩, .slice (some ⟨wr.heap.size, 0, none⟩) 1 1] 24 (0, 0)) := hb0
  have hoth := st3_other wr w.heap.size (.int .i64 48) (.string ⟨#[]⟩) (.slice (some ⟨wr.heap.size, 0, none⟩) 1 1)
  have hbs : Below w.heap.size w (st3 wr w.heap.size (.int .i64 48) (.string ⟨#[]⟩) (.slice (some ⟨wr.heap.size, 0, none⟩) 1 1)) := ((hbel.setCell (p := ⟨w.heap.size, 0, none⟩) (Nat.le_refl _) _).setCell (p := ⟨w.heap.size, 1, none⟩) (Nat.le_refl _) _).setCell (p := ⟨w.heap.size, 2, none⟩) (Nat.le_refl _) _
  generalize st3 wr w.heap.size (.int .i64 48) (.string ⟨#[]⟩) (.slice (some ⟨wr.heap.size, 0, none⟩) 1 1) = W3 at hs hb0' hoth hbs ⊢
  have hn : ((W3.alloc (.cells #[x0, x1, x2] 24)).alloc o).heap[wr.heap.size]? = some (.cells #[x0, x1, x2] 24 (0, 0)) := by
    rw [← hs]; exact (Below.heap_alloc _ _ _ (by simp)).trans (World.alloc_heap_new W3 _)
  have hbg : ButG wr.heap.size w.heap.size wr ((W3.alloc (.cells #[x0, x1, x2] 24)).alloc o) := fun k hk hne =>
    ((Below.heap_alloc _ _ _ (by simp; omega)).trans (Below.heap_alloc _ _ _ (by omega))).trans (hoth k hne)
  have hsz : wr.heap.size ≤ ((W3.alloc (.cells #[x0, x1, x2] 24)).alloc o).heap.size := by simp; omega
  obtain ⟨c0, c1, c2, _⟩ := box3 hn
  have hi := IsT.butG hbg hsz _ _ hist hoff
  have ho := OffT.butG hbg _ _ hist hoff hoff
  refine ⟨_, _, _, ((Below.heap_alloc _ _ _ (by simp; omega)).trans (Below.heap_alloc _ _ _ (by omega))).trans hb0', ?_, ?_, (hbs.alloc (by omega) _).alloc (by simp; omega) _⟩
  · exact ⟨some ⟨wr.heap.size, 0, none⟩, 1, rfl, by decide, by decide, (by show (1 : Nat) ≤ maxLen; decide), ⟨⟨wr.heap.size, 0, x0, x1, x2, rfl, by simp; omega, by simpa using c0, by simpa using c1, by simpa using c2, hi⟩, trivial⟩⟩
  · exact ⟨some ⟨wr.heap.size, 0, none⟩, 1, rfl, ⟨⟨wr.heap.size, 0, x0, x1, x2, rfl, by omega, by simpa using c0, by simpa using c1, by simpa using c2, ho⟩, trivial⟩⟩

theorem nestB_succ (leaf : Bool) (j : Nat) (h : j ≤ 15) : (⟨#[48]⟩ : ByteArray) ++ ⟨#[byteAt ((coreN leaf + 2 * j : Nat) : Int) 0]⟩ ++ nestB leaf j = nestB leaf (j + 1) := by
  have hl := enc_nest_len leaf j (by omega)
  have hc : coreN leaf ≤ 3 := by cases leaf <;> decide
  have := enc_nest_succ j (core leaf) (by omega)
  rw [hl] at this
  apply ByteArray.ext
  show _ = (enc (nest (j + 1) (core leaf))).toArray
  rw [this]
  simp [ByteArray.data_append, nestB]

set_option maxRecDepth 100000 in
set_option maxHeartbeats 4000000 in
theorem deep_leaf (a0 : Int) (h0 : 0 ≤ a0 ∧ a0 ≤ 255) (w : World) :
    Calls Try.prog 7 #[.int .u8 a0, .bool true] w fun e w' => e = .returned (.bool true) ∧ Below w.heap.size w w' := by
  obtain ⟨k, hk⟩ : ∃ k : Nat, a0 % 16 = (k : Int) := ⟨(a0 % 16).toNat, by omega⟩
  have hk2 : k < 16 := by omega
  have HI := Lib.hid (inNest_leaf w)
  have h3 : (⟨#[4, 1, 120]⟩ : ByteArray) = nestB true 0 := by show _ = (⟨(enc (core true)).toArray⟩ : ByteArray); rw [enc_core]; rfl
  have H3 := Lib.hid h3
  clear h3
  go_enter Try.func7, Try.ntmps7
  go_wp2
  go_loopw [7, 8] (fun s i wr => ∃ j : Nat, j ≤ k ∧ i = .int .i64 j ∧ s = .string (nestB true j) ∧ InNest w wr true j) (fun _ i _ => k - (intOf i).toNat)
  case atStart => exact ⟨0, by omega, rfl, by rw [← H3.out], HI.out⟩
  case round =>
    obtain ⟨j, hj, rfl, rfl, x0, x1, x2, hcell, hist, hoff, hbel⟩ := hrel
    obtain ⟨tg, ts, ta, tn, tc, he⟩ := hist.shape
    simp only [Value.agg.injEq, Array.mk.injEq, List.cons.injEq, and_true] at he
    obtain ⟨rfl, rfl, rfl⟩ := he
    obtain ⟨c0, c1, c2, f0, f1, f2⟩ := box3 hcell
    have hwlt : w.heap.size < wr.heap.size := (Array.getElem?_eq_some_iff.1 hcell).1
    obtain ⟨S, hS⟩ : ∃ S, S = nestB true j := ⟨_, rfl⟩
    have hsz : S.size = 3 + 2 * j := by rw [hS]; exact nestB_size true j (by omega)
    rw [← hS]
    have HS := Lib.hid hS
    have HC := Lib.hid hcell
    have HT := Lib.hid hist
    have HO := Lib.hid hoff
    have HB := Lib.hid hbel
    clear hS hcell hist hoff hbel
    by_cases hlt : j < k
    · have hlt' : decide ((j : Int) < (k : Int)) = true := by simp; omega
      have hbS := byteAt_small (n := ((coreN true + 2 * j : Nat) : Int)) (by omega) (by show ((3 + 2 * j : Nat) : Int) < 256; omega)
      have hsu := nestB_succ true j (by omega)
      rw [← HS.out] at hsu
      obtain ⟨bS, hbe⟩ : ∃ bS, bS = byteAt ((coreN true + 2 * j : Nat) : Int) 0 := ⟨_, rfl⟩
      rw [← hbe] at hbS hsu
      have hb3 : (bS.toNat : Int) = 3 + 2 * (j : Int) := by rw [hbS]; show ((3 + 2 * j : Nat) : Int) = _; omega
      have hcv : ∀ (o : Obj) (x y z : Value), (convert 44 9 (.slice (some ⟨wr.heap.size + 1, 0, none⟩) 1 1)).run Try.prog (((((wr.setCell ⟨w.heap.size, 0, none⟩ x).setCell ⟨w.heap.size, 1, none⟩ y).setCell ⟨w.heap.size, 2, none⟩ z).alloc o).alloc (.cells #[.int .u8 (3 + 2 * (j : Int))] 5)) = .ok (.string ⟨#[bS]⟩) (((((wr.setCell ⟨w.heap.size, 0, none⟩ x).setCell ⟨w.heap.size, 1, none⟩ y).setCell ⟨w.heap.size, 2, none⟩ z).alloc o).alloc (.cells #[.int .u8 (3 + 2 * (j : Int))] 5)) := fun o x y z => by
        have h := conv_one' (3 + 2 * (j : Int)) bS hb3 (st3 wr w.heap.size x y z) o
        rw [st3_size] at h; exact h
      have HSu := Lib.hid hsu
      clear hsu hbe hbS hb3
      go_wp2
      go_roundw
      case rel =>
        refine ⟨j + 1, by omega, by go_num, by rw [← HSu.out], inNest_succ HC.out HT.out HO.out HB.out _⟩
      case measure => simp [intOf]; omega
    · obtain rfl : j = k := by omega
      have hlt' : decide ((j : Int) < (j : Int)) = false := by simp
      have hgl : getAt S 0 = dec 12 (enc (nest j (core true))) := by rw [HS.out]; exact getAt_list _ _ rfl
      have hget := fun W => get_any S 0 (by omega) W
      rw [hgl] at hget
      by_cases h12 : j ≤ 12
      · have hok : okT 12 (nest j (core true)) = true := by rw [nest_ok true j 12 (by omega)]; simpa using h12
        have hde := dec_enc (nest j (core true)) 12 [] hok
        rw [List.append_nil, enc_nest_len true j (by omega)] at hde
        rw [hde] at hget
        have hmay := fun v W h => may_any (nest j (core true)) v W h
        rw [hok] at hmay
        have hput := fun v W h => put_any (nest j (core true)) v W h
        rw [show putB (nest j (core true)) = S from by rw [HS.out]; simp [putB, hok, nestB]] at hput
        have HGet := Lib.hid hget
        have HMay := Lib.hid hmay
        have HPut := Lib.hid hput
        have d12 : decide ((12 : Int) < (j : Int)) = false := by simp; omega
        clear hgl hget hok hde hmay hput
        have hsame := fun v v' W h h' => sameRef_any (nest j (core true)) (nest j (core true)) W v v' h h'
        rw [sameT_refl] at hsame
        have HSame := Lib.hid hsame
        clear hsame
        have e1 : ((coreN true : Nat) : Int) + 2 * (j : Int) = 3 + 2 * (j : Int) := rfl
        go_wp2_with (first
          | (go_at_call 19; refine (HGet.out _).mono ?_; rintro e w1 ⟨v, rfl, hnew, hb1⟩; (obtain ⟨tg', ts', ta', tn', tc', rfl⟩ := hnew.1.shape); have s1 := hb1.size; have hlt1 : w.heap.size < w1.heap.size := (by omega); have k1 := (hb1.block w.heap.size hwlt).trans HC.out; have k1a := (fun o => (Below.heap_alloc w1 o _ hlt1).trans k1); have ca0 := (fun o => (box3 (k1a o)).1); have ca1 := (fun o => (box3 (k1a o)).2.1); have ca2 := (fun o => (box3 (k1a o)).2.2.1); have HNew := Lib.hid hnew; have HB1 := Lib.hid hb1; have K1a := Lib.hid k1a; clear hnew hb1 k1 k1a)
          | (go_at_call 13; refine (HMay.out _ _ (HT.out.below (HB1.out.alloc HB1.out.size _) (by have := HB1.out.size; simp; omega))).mono ?_; rintro e w2 ⟨rfl, hb2⟩; have s2 : w1.heap.size + 1 ≤ w2.heap.size := (by have := hb2.size; rw [World.size_alloc] at this; exact this); have k2 := (hb2.block w.heap.size (by simp; omega)).trans (K1a.out _); have v2 := (hb2.block w1.heap.size (by simp)).trans (World.alloc_heap_new w1 _); obtain ⟨cb0, cb1, cb2, _⟩ := box3 k2; obtain ⟨db0, db1, db2, _⟩ := box3 v2; have HB2 := Lib.hid ((HB1.out.alloc' _).then hb2); have HW2 := Lib.hid hb2; have K2 := Lib.hid k2; have V2 := Lib.hid v2; clear hb2 k2 v2)
          | (go_at_call 15; refine (HPut.out _ _ (HT.out.below HB2.out (by omega))).mono ?_; rintro e w3 ⟨rfl, hb3⟩; have s3 := hb3.size; have k3 := (hb3.block w.heap.size (by omega)).trans K2.out; have v3 := (hb3.block w1.heap.size (by omega)).trans V2.out; obtain ⟨cc0, cc1, cc2, _⟩ := box3 k3; obtain ⟨dc0, dc1, dc2, _⟩ := box3 v3; have HB3 := Lib.hid (HB2.out.then hb3); have HW3 := Lib.hid hb3; clear hb3 k3 v3)
          | (go_at_call 21; refine (num_any 0 _).mono ?_; rintro e w6 ⟨rfl, rfl⟩)
          | (go_at_call 18; refine (HSame.out _ _ _ (HNew.out.1.below (((Below.refl w1.heap.size w1).alloc (Nat.le_refl _) _).then HW2.out |>.then HW3.out) (by omega)) (HT.out.below HB3.out (by omega))).mono ?_; rintro e w4 ⟨rfl, hb4⟩)
          | (go_at_call 12; refine (awake_any _).mono ?_; rintro e w5 ⟨rfl, hb5⟩))
        go_ret
        exact ⟨rfl, HB.out.trans (((HB3.out.then hb4).then hb5).mono (by omega))⟩
      · have hok : okT 12 (nest j (core true)) = false := by rw [nest_ok true j 12 (by omega)]; simpa using h12
        have hde := dec_nest_deep true j 12 (by omega) (by simp; omega)
        rw [← hgl] at hde
        have hget := fun W => get_err S hde (by omega) W
        have hmay := fun v W h => may_any (nest j (core true)) v W h
        rw [hok] at hmay
        have hput := fun v W h => put_any (nest j (core true)) v W h
        rw [show putB (nest j (core true)) = ⟨#[]⟩ from by simp [putB, hok]] at hput
        have HGet := Lib.hid hget
        have HMay := Lib.hid hmay
        have HPut := Lib.hid hput
        have d12 : decide ((12 : Int) < (j : Int)) = true := by simp; omega
        clear hgl hget hok hde hmay hput
        go_wp2_with (first
          | (go_at_call 19; refine (HGet.out _).mono ?_; rintro e w1 ⟨rfl, hb1⟩; have s1 := hb1.size; have hlt1 : w.heap.size < w1.heap.size := (by omega); have k1 := (hb1.block w.heap.size hwlt).trans HC.out; have k1a := (fun o => (Below.heap_alloc w1 o _ hlt1).trans k1); have ca0 := (fun o => (box3 (k1a o)).1); have ca1 := (fun o => (box3 (k1a o)).2.1); have ca2 := (fun o => (box3 (k1a o)).2.2.1); have HB1 := Lib.hid hb1; have K1a := Lib.hid k1a; clear hb1 k1 k1a)
          | (go_at_call 13; refine (HMay.out _ _ (HT.out.below (HB1.out.alloc HB1.out.size _) (by have := HB1.out.size; simp; omega))).mono ?_; rintro e w2 ⟨rfl, hb2⟩; have s2 : w1.heap.size + 1 ≤ w2.heap.size := (by have := hb2.size; rw [World.size_alloc] at this; exact this); have k2 := (hb2.block w.heap.size (by simp; omega)).trans (K1a.out _); obtain ⟨cb0, cb1, cb2, _⟩ := box3 k2; have HB2 := Lib.hid ((HB1.out.alloc' _).then hb2); clear hb2 k2)
          | (go_at_call 15; refine (HPut.out _ _ (HT.out.below HB2.out (by omega))).mono ?_; rintro e w3 ⟨rfl, hb3⟩; have HB3 := Lib.hid (HB2.out.then hb3); clear hb3)
          | (go_at_call 21; refine (num_any 5 _).mono ?_; rintro e w6 ⟨rfl, rfl⟩)
          | (go_at_call 12; refine (awake_any _).mono ?_; rintro e w5 ⟨rfl, hb5⟩))
        go_ret
        exact ⟨rfl, HB.out.trans ((HB3.out.then hb5).mono (by omega))⟩
theorem inNest_node (w : World) : InNest w (w.alloc (.cells #[.int .i64 48, .string ⟨#[]⟩, .slice none 0 0] 24)) false 0 :=
  ⟨_, _, _, World.alloc_heap_new w _, ⟨none, 0, rfl, rfl, by decide, by decide, trivial⟩, ⟨none, 0, rfl, trivial⟩, (Below.refl _ _).alloc (Nat.le_refl _) _⟩

set_option maxRecDepth 100000 in
set_option maxHeartbeats 4000000 in
theorem deep_node (a0 : Int) (h0 : 0 ≤ a0 ∧ a0 ≤ 255) (w : World) :
    Calls Try.prog 7 #[.int .u8 a0, .bool false] w fun e w' => e = .returned (.bool true) ∧ Below w.heap.size w w' := by
  obtain ⟨k, hk⟩ : ∃ k : Nat, a0 % 16 = (k : Int) := ⟨(a0 % 16).toNat, by omega⟩
  have hk2 : k < 16 := by omega
  have HI := Lib.hid (inNest_node w)
  have h3 : (⟨#[48, 0]⟩ : ByteArray) = nestB false 0 := by show _ = (⟨(enc (core false)).toArray⟩ : ByteArray); rw [enc_core]; rfl
  have H3 := Lib.hid h3
  clear h3
  go_enter Try.func7, Try.ntmps7
  go_wp2
  go_loopw [7, 8] (fun s i wr => ∃ j : Nat, j ≤ k ∧ i = .int .i64 j ∧ s = .string (nestB false j) ∧ InNest w wr false j) (fun _ i _ => k - (intOf i).toNat)
  case atStart => exact ⟨0, by omega, rfl, by rw [← H3.out], HI.out⟩
  case round =>
    obtain ⟨j, hj, rfl, rfl, x0, x1, x2, hcell, hist, hoff, hbel⟩ := hrel
    obtain ⟨tg, ts, ta, tn, tc, he⟩ := hist.shape
    simp only [Value.agg.injEq, Array.mk.injEq, List.cons.injEq, and_true] at he
    obtain ⟨rfl, rfl, rfl⟩ := he
    obtain ⟨c0, c1, c2, f0, f1, f2⟩ := box3 hcell
    have hwlt : w.heap.size < wr.heap.size := (Array.getElem?_eq_some_iff.1 hcell).1
    obtain ⟨S, hS⟩ : ∃ S, S = nestB false j := ⟨_, rfl⟩
    have hsz : S.size = 2 + 2 * j := by rw [hS]; exact nestB_size false j (by omega)
    rw [← hS]
    have HS := Lib.hid hS
    have HC := Lib.hid hcell
    have HT := Lib.hid hist
    have HO := Lib.hid hoff
    have HB := Lib.hid hbel
    clear hS hcell hist hoff hbel
    by_cases hlt : j < k
    · have hlt' : decide ((j : Int) < (k : Int)) = true := by simp; omega
      have hbS := byteAt_small (n := ((coreN false + 2 * j : Nat) : Int)) (by omega) (by show ((2 + 2 * j : Nat) : Int) < 256; omega)
      have hsu := nestB_succ false j (by omega)
      rw [← HS.out] at hsu
      obtain ⟨bS, hbe⟩ : ∃ bS, bS = byteAt ((coreN false + 2 * j : Nat) : Int) 0 := ⟨_, rfl⟩
      rw [← hbe] at hbS hsu
      have hb3 : (bS.toNat : Int) = 2 + 2 * (j : Int) := by rw [hbS]; show ((2 + 2 * j : Nat) : Int) = _; omega
      have hcv : ∀ (o : Obj) (x y z : Value), (convert 44 9 (.slice (some ⟨wr.heap.size + 1, 0, none⟩) 1 1)).run Try.prog (((((wr.setCell ⟨w.heap.size, 0, none⟩ x).setCell ⟨w.heap.size, 1, none⟩ y).setCell ⟨w.heap.size, 2, none⟩ z).alloc o).alloc (.cells #[.int .u8 (2 + 2 * (j : Int))] 5)) = .ok (.string ⟨#[bS]⟩) (((((wr.setCell ⟨w.heap.size, 0, none⟩ x).setCell ⟨w.heap.size, 1, none⟩ y).setCell ⟨w.heap.size, 2, none⟩ z).alloc o).alloc (.cells #[.int .u8 (2 + 2 * (j : Int))] 5)) := fun o x y z => by
        have h := conv_one' (2 + 2 * (j : Int)) bS hb3 (st3 wr w.heap.size x y z) o
        rw [st3_size] at h; exact h
      have HSu := Lib.hid hsu
      clear hsu hbe hbS hb3
      go_wp2
      go_roundw
      case rel =>
        refine ⟨j + 1, by omega, by go_num, by rw [← HSu.out], inNest_succ HC.out HT.out HO.out HB.out _⟩
      case measure => simp [intOf]; omega
    · obtain rfl : j = k := by omega
      have hlt' : decide ((j : Int) < (j : Int)) = false := by simp
      have hgl : getAt S 0 = dec 12 (enc (nest j (core false))) := by rw [HS.out]; exact getAt_list _ _ rfl
      have hget := fun W => get_any S 0 (by omega) W
      rw [hgl] at hget
      by_cases h12 : j + 1 ≤ 12
      · have hok : okT 12 (nest j (core false)) = true := by rw [nest_ok false j 12 (by omega)]; simpa using h12
        have hde := dec_enc (nest j (core false)) 12 [] hok
        rw [List.append_nil, enc_nest_len false j (by omega)] at hde
        rw [hde] at hget
        have hmay := fun v W h => may_any (nest j (core false)) v W h
        rw [hok] at hmay
        have hput := fun v W h => put_any (nest j (core false)) v W h
        rw [show putB (nest j (core false)) = S from by rw [HS.out]; simp [putB, hok, nestB]] at hput
        have HGet := Lib.hid hget
        have HMay := Lib.hid hmay
        have HPut := Lib.hid hput
        have d12 : decide ((12 : Int) < (j : Int) + 1) = false := by simp; omega
        clear hgl hget hok hde hmay hput
        have hsame := fun v v' W h h' => sameRef_any (nest j (core false)) (nest j (core false)) W v v' h h'
        rw [sameT_refl] at hsame
        have HSame := Lib.hid hsame
        clear hsame
        have e1 : ((coreN false : Nat) : Int) + 2 * (j : Int) = 2 + 2 * (j : Int) := rfl
        go_wp2_with (first
          | (go_at_call 19; refine (HGet.out _).mono ?_; rintro e w1 ⟨v, rfl, hnew, hb1⟩; (obtain ⟨tg', ts', ta', tn', tc', rfl⟩ := hnew.1.shape); have s1 := hb1.size; have hlt1 : w.heap.size < w1.heap.size := (by omega); have k1 := (hb1.block w.heap.size hwlt).trans HC.out; have k1a := (fun o => (Below.heap_alloc w1 o _ hlt1).trans k1); have ca0 := (fun o => (box3 (k1a o)).1); have ca1 := (fun o => (box3 (k1a o)).2.1); have ca2 := (fun o => (box3 (k1a o)).2.2.1); have HNew := Lib.hid hnew; have HB1 := Lib.hid hb1; have K1a := Lib.hid k1a; clear hnew hb1 k1 k1a)
          | (go_at_call 13; refine (HMay.out _ _ (HT.out.below (HB1.out.alloc HB1.out.size _) (by have := HB1.out.size; simp; omega))).mono ?_; rintro e w2 ⟨rfl, hb2⟩; have s2 : w1.heap.size + 1 ≤ w2.heap.size := (by have := hb2.size; rw [World.size_alloc] at this; exact this); have k2 := (hb2.block w.heap.size (by simp; omega)).trans (K1a.out _); have v2 := (hb2.block w1.heap.size (by simp)).trans (World.alloc_heap_new w1 _); obtain ⟨cb0, cb1, cb2, _⟩ := box3 k2; obtain ⟨db0, db1, db2, _⟩ := box3 v2; have HB2 := Lib.hid ((HB1.out.alloc' _).then hb2); have HW2 := Lib.hid hb2; have K2 := Lib.hid k2; have V2 := Lib.hid v2; clear hb2 k2 v2)
          | (go_at_call 15; refine (HPut.out _ _ (HT.out.below HB2.out (by omega))).mono ?_; rintro e w3 ⟨rfl, hb3⟩; have s3 := hb3.size; have k3 := (hb3.block w.heap.size (by omega)).trans K2.out; have v3 := (hb3.block w1.heap.size (by omega)).trans V2.out; obtain ⟨cc0, cc1, cc2, _⟩ := box3 k3; obtain ⟨dc0, dc1, dc2, _⟩ := box3 v3; have HB3 := Lib.hid (HB2.out.then hb3); have HW3 := Lib.hid hb3; clear hb3 k3 v3)
          | (go_at_call 21; refine (num_any 0 _).mono ?_; rintro e w6 ⟨rfl, rfl⟩)
          | (go_at_call 18; refine (HSame.out _ _ _ (HNew.out.1.below (((Below.refl w1.heap.size w1).alloc (Nat.le_refl _) _).then HW2.out |>.then HW3.out) (by omega)) (HT.out.below HB3.out (by omega))).mono ?_; rintro e w4 ⟨rfl, hb4⟩)
          | (go_at_call 12; refine (awake_any _).mono ?_; rintro e w5 ⟨rfl, hb5⟩))
        go_ret
        exact ⟨rfl, HB.out.trans (((HB3.out.then hb4).then hb5).mono (by omega))⟩
      · have hok : okT 12 (nest j (core false)) = false := by rw [nest_ok false j 12 (by omega)]; simpa using h12
        have hde := dec_nest_deep false j 12 (by omega) (by simp; omega)
        rw [← hgl] at hde
        have hget := fun W => get_err S hde (by omega) W
        have hmay := fun v W h => may_any (nest j (core false)) v W h
        rw [hok] at hmay
        have hput := fun v W h => put_any (nest j (core false)) v W h
        rw [show putB (nest j (core false)) = ⟨#[]⟩ from by simp [putB, hok]] at hput
        have HGet := Lib.hid hget
        have HMay := Lib.hid hmay
        have HPut := Lib.hid hput
        have d12 : decide ((12 : Int) < (j : Int) + 1) = true := by simp; omega
        clear hgl hget hok hde hmay hput
        go_wp2_with (first
          | (go_at_call 19; refine (HGet.out _).mono ?_; rintro e w1 ⟨rfl, hb1⟩; have s1 := hb1.size; have hlt1 : w.heap.size < w1.heap.size := (by omega); have k1 := (hb1.block w.heap.size hwlt).trans HC.out; have k1a := (fun o => (Below.heap_alloc w1 o _ hlt1).trans k1); have ca0 := (fun o => (box3 (k1a o)).1); have ca1 := (fun o => (box3 (k1a o)).2.1); have ca2 := (fun o => (box3 (k1a o)).2.2.1); have HB1 := Lib.hid hb1; have K1a := Lib.hid k1a; clear hb1 k1 k1a)
          | (go_at_call 13; refine (HMay.out _ _ (HT.out.below (HB1.out.alloc HB1.out.size _) (by have := HB1.out.size; simp; omega))).mono ?_; rintro e w2 ⟨rfl, hb2⟩; have s2 : w1.heap.size + 1 ≤ w2.heap.size := (by have := hb2.size; rw [World.size_alloc] at this; exact this); have k2 := (hb2.block w.heap.size (by simp; omega)).trans (K1a.out _); obtain ⟨cb0, cb1, cb2, _⟩ := box3 k2; have HB2 := Lib.hid ((HB1.out.alloc' _).then hb2); clear hb2 k2)
          | (go_at_call 15; refine (HPut.out _ _ (HT.out.below HB2.out (by omega))).mono ?_; rintro e w3 ⟨rfl, hb3⟩; have HB3 := Lib.hid (HB2.out.then hb3); clear hb3)
          | (go_at_call 21; refine (num_any 5 _).mono ?_; rintro e w6 ⟨rfl, rfl⟩)
          | (go_at_call 12; refine (awake_any _).mono ?_; rintro e w5 ⟨rfl, hb5⟩))
        go_ret
        exact ⟨rfl, HB.out.trans ((HB3.out.then hb5).mono (by omega))⟩
end Go.Proofs.Ytiagcegclgallaa
