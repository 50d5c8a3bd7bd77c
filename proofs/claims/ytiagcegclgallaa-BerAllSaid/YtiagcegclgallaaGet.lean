/- ber.Get: the walk. -/
import Derived.Test.YtiagcegclgallaaListW
import Derived.Deep.RegionWith
namespace Go.Proofs.Ytiagcegclgallaa
open Go.RowKit
set_option linter.unusedVariables false

/-- What Get says of s at a place. -/
def getAt (s : ByteArray) (at_ : Int) : Except Int (T × Nat) := if at_ < 0 ∨ (s.size : Int) < at_ then .error 1 else dec 12 (s.data.toList.drop at_.toNat)

/-- What is told. -/
def GetPost (r : Except Int (T × Nat)) (at_ : Int) (W : World) (e : Ending) (w' : World) : Prop :=
  match r with
  | .error er => e = .returned (.tuple #[zeroV, .int .i64 0, .int .i64 er]) ∧ Below W.heap.size W w'
  | .ok (t, n) => ∃ v, e = .returned (.tuple #[v, .int .i64 (at_ + n), .int .i64 0]) ∧ NewT W.heap.size w' t v ∧ Below W.heap.size W w'

theorem box_set1 {W : World} {b : Nat} {cs : Array Value} {t : TypeId} (h : W.heap[b]? = some (.cells cs t (0, 0))) (o : Nat) (x : Value) : (W.setCell ⟨b, o, none⟩ x).heap[b]? = some (.cells (cs.setIfInBounds o x) t (0, 0)) := by
  obtain ⟨hlt, hv⟩ := Array.getElem?_eq_some_iff.1 h
  show (W.heap.modify b _)[b]? = _
  rw [Array.getElem?_eq_getElem (by rw [Array.size_modify]; exact hlt), Array.getElem_modify_self, hv]
  rfl

theorem box_store3 {W : World} {b : Nat} {x y z : Value} {t : TypeId} (h : W.heap[b]? = some (.cells #[x, y, z] t (0, 0))) (x' y' z' : Value) :
    (((W.setCell ⟨b, 0, none⟩ x').setCell ⟨b, 1, none⟩ y').setCell ⟨b, 2, none⟩ z').heap[b]? = some (.cells #[x', y', z'] t (0, 0)) := by
  have := box_set1 (box_set1 (box_set1 h 0 x') 1 y') 2 z'
  simpa using this

theorem Rd.off {W : World} {b : Nat} {s : ByteArray} {p : Nat} (h : Rd W b s p) (r : Nat) (hr : r ≠ b) (o : Nat) (v : Value) : Rd (W.setCell ⟨r, o, none⟩ v) b s p := (Below.heap_setCell W ⟨r, o, none⟩ v b (by simp; omega)).trans h

set_option maxRecDepth 100000 in
set_option maxHeartbeats 2000000 in
theorem get_any (s : ByteArray) (at_ : Int) (hs : s.size ≤ 140737488351232) (W : World) :
    Calls Try.prog 19 #[.string s, .int .i64 at_] W (GetPost (getAt s at_) at_ W) := by
  have hs' : s.size ≤ 9223372036854775807 := by omega
  by_cases h1 : at_ < 0
  · have hr : getAt s at_ = .error 1 := if_pos (.inl h1)
    rw [hr]
    have d1 : decide (at_ < 0) = true := by simpa using h1
    clear hr
    go_enter Try.func19, Try.ntmps19
    go_wp2
    refine bodyPost_ret (v := .tuple #[zeroV, .int .i64 0, .int .i64 1]) (by simp [results, Try.results19, go_sem, zeroV]) rfl ⟨rfl, ?_⟩
    exact (Below.refl _ _).alloc (Nat.le_refl _) _
  · by_cases h2 : (s.size : Int) < at_
    · have hr : getAt s at_ = .error 1 := if_pos (.inr h2)
      rw [hr]
      have d1 : decide (at_ < 0) = false := by simpa using h1
      have d2 : decide ((s.size : Int) < at_) = true := by simpa using h2
      clear hr
      go_enter Try.func19, Try.ntmps19
      go_wp2
      refine bodyPost_ret (v := .tuple #[zeroV, .int .i64 0, .int .i64 1]) (by simp [results, Try.results19, go_sem, zeroV]) rfl ⟨rfl, ?_⟩
      exact (Below.refl _ _).alloc (Nat.le_refl _) _
    · obtain ⟨p, rfl⟩ : ∃ p : Nat, at_ = (p : Int) := ⟨at_.toNat, by omega⟩
      have hp : p ≤ s.size := by omega
      have hr : getAt s p = dec 12 (s.data.toList.drop p) := by rw [show getAt s p = _ from if_neg (by omega)]; simp
      rw [hr]
      have d1 : decide ((p : Int) < 0) = false := by simp
      have d2 : decide ((s.size : Int) < (p : Int)) = false := by simpa using h2
      have d2' : decide (s.size < p) = false := by simpa using hp
      obtain ⟨x, hx⟩ : ∃ x, x = s.extract p s.size := ⟨_, rfl⟩
      have hxs : x.size ≤ 140737488351232 := by rw [hx]; simp; omega
      have hxl : x.data.toList = s.data.toList.drop p := by
        have := extract_list s p (s.size - p)
        rw [show p + (s.size - p) = s.size from by omega, ← hx] at this
        rw [this]; exact List.take_of_length_le (by simp)
      rw [← hxl]
      have hrd : ∀ o, Rd ((W.alloc o).alloc (.cells #[.string x, .int .i64 0] 68)) (W.heap.size + 1) x 0 := fun o => by
        have := World.alloc_heap_new (W.alloc o) (.cells #[.string x, .int .i64 0] 68)
        rw [World.size_alloc] at this; exact this
      have hbk : ∀ (o : Array Value) (o' : Obj), ((W.alloc (.cells o 24)).alloc o').heap[W.heap.size]? = some (.cells o 24) := fun o o' => (Below.heap_alloc _ _ _ (by simp)).trans (World.alloc_heap_new W _)
      have htl := fun W' h' => tlv_any W' (W.heap.size + 1) x 0 h' hxs (Nat.zero_le _)
      rw [List.drop_zero] at htl
      have HRd := Lib.hid hrd
      have HBk := Lib.hid hbk
      have HX := Lib.hid hx
      obtain ⟨r, hr'⟩ : ∃ r, r = dec 12 x.data.toList := ⟨_, rfl⟩
      rw [← hr'] at htl ⊢
      have hxs2 : x.size ≤ maxLen := by unfold maxLen; omega
      cases r with
      | error er =>
        have e1 : (er != 0) = true := by simpa using dec_err hr'.symm
        have e2 : ¬ er = 0 := dec_err hr'.symm
        have HTl := Lib.hid htl
        clear hr h1 h2 hrd hbk htl hxl hr' hxs2 hxs hx
        go_enter Try.func19, Try.ntmps19
        go_wp2_with (go_at_call 34; rw [← HX.out]; refine (HTl.out _ (HRd.out _)).mono ?_; rintro e w1 ⟨he, q, hw1⟩; unfold zeroV at he; subst he; have k0 := (hw1.2.block W.heap.size (by simp; omega) (by simp)).trans (HBk.out _ _); obtain ⟨c0, c1, c2, f0, f1, f2⟩ := box3 k0; have HW1 := Lib.hid hw1; have K0 := Lib.hid k0; clear hw1 k0)
        have hb1 : Below W.heap.size W w1 := (((Below.refl _ _).alloc (Nat.le_refl _) _).alloc (by simp) _).grown HW1.out.2 (by simp; omega) (by intro k e; cases e; omega)
        have k6 := box_store3 (box_store3 K0.out (.int .i64 0) (.string ⟨#[]⟩) (.slice none 0 0)) (.int .i64 0) (.string ⟨#[]⟩) (.slice none 0 0)
        have hb6 := (((((hb1.setCell (p := ⟨W.heap.size, 0, none⟩) (Nat.le_refl _) (.int .i64 0)).setCell (p := ⟨W.heap.size, 1, none⟩) (Nat.le_refl _) (.string ⟨#[]⟩)).setCell (p := ⟨W.heap.size, 2, none⟩) (Nat.le_refl _) (.slice none 0 0)).setCell (p := ⟨W.heap.size, 0, none⟩) (Nat.le_refl _) (.int .i64 0)).setCell (p := ⟨W.heap.size, 1, none⟩) (Nat.le_refl _) (.string ⟨#[]⟩)).setCell (p := ⟨W.heap.size, 2, none⟩) (Nat.le_refl _) (.slice none 0 0)
        clear c0 c1 c2 f0 f1 f2
        generalize ((((((w1.setCell ⟨W.heap.size, 0, none⟩ (.int .i64 0)).setCell ⟨W.heap.size, 1, none⟩ (.string ⟨#[]⟩)).setCell ⟨W.heap.size, 2, none⟩ (.slice none 0 0)).setCell ⟨W.heap.size, 0, none⟩ (.int .i64 0)).setCell ⟨W.heap.size, 1, none⟩ (.string ⟨#[]⟩)).setCell ⟨W.heap.size, 2, none⟩ (.slice none 0 0)) = w6 at *
        obtain ⟨c0, c1, c2, f0, f1, f2⟩ := box3 k6
        refine bodyPost_ret (v := .tuple #[zeroV, .int .i64 0, .int .i64 er]) (by simp [results, Try.results19, go_sem, c0, c1, c2, zeroV]) rfl ⟨rfl, hb6⟩
      | ok tn =>
        obtain ⟨t, n⟩ := tn
        have hn : n ≤ x.size := by have := (dec_pos hr'.symm).2; simpa using this
        have hn2 : n ≤ maxLen := by omega
        have hpn : (p : Int) + (n : Int) ≤ 9223372036854775807 := by have : x.size ≤ 9223372036854775807 - p := by (rw [hx]; simp; omega)
                                                                     omega
        have HTl := Lib.hid htl
        clear hr h1 h2 hrd hbk htl hxl hr' hxs2 hxs hx
        go_enter Try.func19, Try.ntmps19
        go_wp2_with (go_at_call 34; rw [← HX.out]; refine (HTl.out _ (HRd.out _)).mono ?_; rintro e w1 ⟨v, rfl, hnew, hw1⟩; rw [Nat.zero_add] at hw1; (obtain ⟨tag0, s0, a0, n0, cap0, rfl⟩ := hnew.1.shape); have HNew := Lib.hid hnew; have k0 := (hw1.2.block W.heap.size (by simp; omega) (by simp)).trans (HBk.out _ _); obtain ⟨c0, c1, c2, f0, f1, f2⟩ := box3 k0; have HW1 := Lib.hid hw1; have K0 := Lib.hid k0; clear hw1 k0 hnew)
        clear c0 c1 c2 f0 f1 f2
        have k3 := box_store3 K0.out (.int .i64 tag0) (.string s0) (.slice a0 n0 cap0)
        have hrd3 := ((HW1.out.1.off W.heap.size (by omega) 0 (.int .i64 tag0)).off W.heap.size (by omega) 1 (.string s0)).off W.heap.size (by omega) 2 (.slice a0 n0 cap0)
        have hb1 : Below W.heap.size W w1 := (((Below.refl _ _).alloc (Nat.le_refl _) _).alloc (by simp) _).grown HW1.out.2 (by simp; omega) (by intro k e; cases e; omega)
        have hb3 := ((hb1.setCell (p := ⟨W.heap.size, 0, none⟩) (Nat.le_refl _) (.int .i64 tag0)).setCell (p := ⟨W.heap.size, 1, none⟩) (Nat.le_refl _) (.string s0)).setCell (p := ⟨W.heap.size, 2, none⟩) (Nat.le_refl _) (.slice a0 n0 cap0)
        have hbg3 : ButG w1.heap.size W.heap.size w1 (((w1.setCell ⟨W.heap.size, 0, none⟩ (.int .i64 tag0)).setCell ⟨W.heap.size, 1, none⟩ (.string s0)).setCell ⟨W.heap.size, 2, none⟩ (.slice a0 n0 cap0)) := fun k hk hne =>
          ((Below.heap_setCell _ ⟨W.heap.size, 2, none⟩ _ k hne).trans (Below.heap_setCell _ ⟨W.heap.size, 1, none⟩ _ k hne)).trans (Below.heap_setCell _ ⟨W.heap.size, 0, none⟩ _ k hne)
        have hsz : w1.heap.size ≤ (((w1.setCell ⟨W.heap.size, 0, none⟩ (.int .i64 tag0)).setCell ⟨W.heap.size, 1, none⟩ (.string s0)).setCell ⟨W.heap.size, 2, none⟩ (.slice a0 n0 cap0)).heap.size := by simp [World.setCell]
        generalize (((w1.setCell ⟨W.heap.size, 0, none⟩ (.int .i64 tag0)).setCell ⟨W.heap.size, 1, none⟩ (.string s0)).setCell ⟨W.heap.size, 2, none⟩ (.slice a0 n0 cap0)) = w3 at *
        obtain ⟨c0, c1, c2, f0, f1, f2⟩ := box3 k3
        have HRd3 := Lib.hid hrd3
        have HB3 := Lib.hid hb3
        have HBg := Lib.hid hbg3
        have K3 := Lib.hid k3
        have HSz := Lib.hid hsz
        clear k3 hrd3 hb1 hb3 hbg3 hsz
        go_region_with (go_at_call 35; refine (count_any w3.drew (W.heap.size + 1) x n HRd3.out hn2).mono ?_; rintro e w5 ⟨rfl, rfl⟩)
        all_goals
          have k9 := box_store3 K3.out (.int .i64 tag0) (.string s0) (.slice a0 n0 cap0)
          have hb9 := ((HB3.out.setCell (p := ⟨W.heap.size, 0, none⟩) (Nat.le_refl _) (.int .i64 tag0)).setCell (p := ⟨W.heap.size, 1, none⟩) (Nat.le_refl _) (.string s0)).setCell (p := ⟨W.heap.size, 2, none⟩) (Nat.le_refl _) (.slice a0 n0 cap0)
          have hbg9 : ButG w1.heap.size W.heap.size w1 (((w3.setCell ⟨W.heap.size, 0, none⟩ (.int .i64 tag0)).setCell ⟨W.heap.size, 1, none⟩ (.string s0)).setCell ⟨W.heap.size, 2, none⟩ (.slice a0 n0 cap0)) := fun k hk hne =>
            (((Below.heap_setCell _ ⟨W.heap.size, 2, none⟩ _ k hne).trans (Below.heap_setCell _ ⟨W.heap.size, 1, none⟩ _ k hne)).trans (Below.heap_setCell _ ⟨W.heap.size, 0, none⟩ _ k hne)).trans (HBg.out k hk hne)
          have hsz9 : w1.heap.size ≤ (((w3.setCell ⟨W.heap.size, 0, none⟩ (.int .i64 tag0)).setCell ⟨W.heap.size, 1, none⟩ (.string s0)).setCell ⟨W.heap.size, 2, none⟩ (.slice a0 n0 cap0)).heap.size := by have := HSz.out; simpa [World.setCell] using this
          clear c0 c1 c2 f0 f1 f2
          generalize (((w3.setCell ⟨W.heap.size, 0, none⟩ (.int .i64 tag0)).setCell ⟨W.heap.size, 1, none⟩ (.string s0)).setCell ⟨W.heap.size, 2, none⟩ (.slice a0 n0 cap0)) = w9 at *
          obtain ⟨c0, c1, c2, f0, f1, f2⟩ := box3 k9
          have HB9 := Lib.hid hb9
          have HBg9 := Lib.hid hbg9
          have HSz9 := Lib.hid hsz9
          clear hb9 hbg9 hsz9 k9
          go_wp2
          refine bodyPost_ret (v := .tuple #[.agg #[.int .i64 tag0, .string s0, .slice a0 n0 cap0], .int .i64 ((p : Int) + n), .int .i64 0]) (by simp [results, Try.results19, go_sem, c0, c1, c2]; exact IntWalk.i64_in _ ⟨by omega, hpn⟩) rfl ⟨_, rfl, ?_, ?_⟩
          · have hg : ButG w1.heap.size W.heap.size w1 w9.drew := HBg9.out
            have ho := HNew.out.2 W.heap.size (by simp; omega)
            exact ⟨IsT.butG hg HSz9.out t _ HNew.out.1 ho, fun f hf => OffT.butG hg t _ HNew.out.1 ho (HNew.out.2 f (by simp; omega))⟩
          · exact HB9.out.trans ⟨rfl, rfl, rfl, Nat.le_refl _, fun _ _ => rfl⟩
end Go.Proofs.Ytiagcegclgallaa
