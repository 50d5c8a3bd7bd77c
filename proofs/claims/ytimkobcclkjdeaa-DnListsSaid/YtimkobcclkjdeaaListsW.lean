/- Lists of parts among the arguments; DnLists: the walk. -/
import Derived.Test.YtimkobcclkjdeaaMay
import Derived.Test.YtimkobcclkjdeaaDnAwake
namespace Go.Proofs.Ytimkobcclkjdeaa
open Go.RowKit
set_option linter.unusedVariables false

theorem open_rdns {H : Type} {enc : TypeId × Value → H} {W : World} {v : Value} {d : DataW H} {ps : List MemPlace} (hval : Value.okWide Try.prog W .any 0 23 v) (hd : DataW.Trod enc Try.prog W 0 (fun _ => true) true 23 v d ps) :
    ∃ (a : Option Addr) (cap : Nat) (L : List R), v = .slice a L.length cap ∧ IsL W.heap.size W L (.slice a L.length cap) := by
  obtain ⟨a0, len, cap, rfl⟩ := Go.WideShapes.okWide_slice Try.underlying23 hval
  obtain ⟨fuel, hf⟩ := hd
  rcases Go.Deep.open_slice_pairs Try.underlying23 Try.underlying38 (by kernel_rfl) rfl rfl (by kernel_rfl) (by kernel_rfl) hf with ⟨hcs, _⟩ | ⟨a, len', cap', m, n, V0, V1, D0, D1, P0, P1, hcs, _, hle, hmax, hm, _, hcell⟩
  · simp [Value.cells] at hcs
    obtain ⟨rfl, rfl, rfl⟩ := hcs
    exact ⟨none, 0, [], rfl, none, 0, rfl, Nat.zero_le _, fun j hj => absurd hj (by simp)⟩
  · simp [Value.cells] at hcs
    obtain ⟨rfl, rfl, rfl⟩ := hcs
    simp only [if_true] at hm
    have each : ∀ i, ∃ r : R, i < len → W.cell? (a.add (i * 2)) = some (strV r.1) ∧ W.cell? (a.add (i * 2 + 1)) = some (strV r.2) := fun i => by
      by_cases h : i < len
      · obtain ⟨h0, h1, g0, g1⟩ := hcell i (by omega)
        obtain ⟨x, e0, _⟩ := DataW.trod_string Try.underlying9 g0
        obtain ⟨y, e1, _⟩ := DataW.trod_string Try.underlying9 g1
        simp only [List.cons.injEq, and_true] at e0 e1
        refine ⟨(x.data.toList, y.data.toList), fun _ => ⟨?_, ?_⟩⟩
        · rw [h0, e0]; show some (Value.string x) = some (.string ⟨x.data.toList.toArray⟩); rw [whole_ext]
        · rw [h1, e1]; show some (Value.string y) = some (.string ⟨y.data.toList.toArray⟩); rw [whole_ext]
      · exact ⟨([], []), fun h' => absurd h' h⟩
    obtain ⟨f, hfl⟩ := Classical.skolem.1 each
    have hL : ((List.range len).map f).length = len := by simp
    refine ⟨some a, cap, (List.range len).map f, by rw [hL], some a, cap, rfl, by rw [hL]; omega, fun j hj => ?_⟩
    rw [hL] at hj
    obtain ⟨h0, h1⟩ := hfl j hj
    have h00 := (hfl 0 (by omega)).1
    obtain ⟨b, off, spot⟩ := a
    have hspot : spot = none := by simpa [Addr.add] using World.cell?_spot h00
    subst hspot
    rw [Go.WideShapes.add_plain] at h0 h1
    refine ⟨b, off, rfl, World.block_lt_of_cell? W _ h0, ?_, ?_⟩
    · rw [h0]; simp
    · rw [show off + j * 2 + 1 = off + (j * 2 + 1) from by omega, h1]; simp

set_option maxRecDepth 100000 in
set_option maxHeartbeats 8000000 in
theorem lists_walk (l : List R) (a0 : Option Addr) (cp : Nat) (w : World) (h : IsL w.heap.size w l (.slice a0 l.length cp)) :
    Calls Try.prog 4 #[.slice a0 l.length cp] w fun e w' => e = .returned (.bool true) ∧ Below w.heap.size w w' := by
  have HIL := Lib.hid h
  obtain ⟨a, cp', hv, hm, hcell⟩ := h
  simp only [Value.slice.injEq, true_and] at hv
  obtain ⟨rfl, rfl⟩ := hv
  unfold maxLen at hm
  have HC := Lib.hid hcell
  have HAw := Lib.hid awake_any
  clear hcell
  by_cases h12 : l.length ≤ 12
  · have t0 : decide ((12 : Int) < (l.length : Int)) = false := by simp; omega
    go_enter Try.func4, Try.ntmps4
    go_wp2
    go_loop [3] (fun i => ∃ j : Nat, j ≤ l.length ∧ i = .int .i64 j ∧ ∀ r ∈ l.take j, r.1.length ≤ 100 ∧ r.2.length ≤ 200) (fun i => l.length - (intOf i).toNat)
    case atStart => exact ⟨0, by omega, rfl, by simp⟩
    case round =>
      obtain ⟨j, hj, rfl, hall⟩ := hrel
      by_cases hlt : j < l.length
      · have t1 : decide ((j : Int) < (l.length : Int)) = true := by simp; omega
        have t1' : decide (j < l.length) = true := by simpa using hlt
        obtain ⟨b, off, rfl, hbw, c0, c1⟩ := HC.out j hlt
        obtain ⟨X, hX⟩ : ∃ X : ByteArray, X = ⟨l[j].1.toArray⟩ := ⟨_, rfl⟩
        obtain ⟨Y, hY⟩ : ∃ Y : ByteArray, Y = ⟨l[j].2.toArray⟩ := ⟨_, rfl⟩
        have hXl : X.size = l[j].1.length := by rw [hX]; rfl
        have hYl : Y.size = l[j].2.length := by rw [hY]; rfl
        have d0 : w.cell? ⟨b, off + j * 2, none⟩ = some (.string X) := by rw [c0, hX]; rfl
        have d1 : w.cell? ⟨b, off + j * 2 + 1, none⟩ = some (.string Y) := by rw [c1, hY]; rfl
        have q1 : (j : Int) < (l.length : Int) := by omega
        by_cases h1 : X.size ≤ 100
        · have t2 : decide ((100 : Int) < (X.size : Int)) = false := by simp; omega
          by_cases h2 : Y.size ≤ 200
          · have t3 : decide ((200 : Int) < (Y.size : Int)) = false := by simp; omega
            have hnew : ∀ r ∈ l.take (j + 1), r.1.length ≤ 100 ∧ r.2.length ≤ 200 := by
              intro r hr
              rw [List.take_succ_eq_append_getElem hlt, List.mem_append] at hr
              rcases hr with hr | hr
              · exact hall r hr
              · simp only [List.mem_singleton] at hr
                rw [hr]; omega
            have HN := Lib.hid hnew
            clear hX hY hXl hYl c0 c1 hall hnew
            go_wp2
            go_round
            case rel => exact ⟨j + 1, by omega, by go_num, HN.out⟩
            case measure => simp [intOf]; omega
          · have t3 : decide ((200 : Int) < (Y.size : Int)) = true := by simp; omega
            clear hX hY hXl hYl c0 c1 hall
            go_wp2_with (go_at_call 11; refine (HAw.out _).mono ?_; rintro e w5 ⟨rfl, hb5⟩; have HB5 := Lib.hid hb5; clear hb5)
            go_ret
            exact ⟨rfl, HB5.out⟩
        · have t2 : decide ((100 : Int) < (X.size : Int)) = true := by simp; omega
          clear hX hY hXl hYl c0 c1 hall
          go_wp2_with (go_at_call 11; refine (HAw.out _).mono ?_; rintro e w5 ⟨rfl, hb5⟩; have HB5 := Lib.hid hb5; clear hb5)
          go_ret
          exact ⟨rfl, HB5.out⟩
      · obtain rfl : j = l.length := by omega
        have t1 : decide ((l.length : Int) < (l.length : Int)) = false := by simp
        have t1' : decide (l.length < l.length) = false := by simp
        rw [List.take_length] at hall
        have hsm : smallL l := ⟨by omega, fun r hr => by have := hall r hr; omega⟩
        have HSm := Lib.hid hsm
        obtain ⟨g, hg⟩ : ∃ g, g = okL l := ⟨_, rfl⟩
        obtain ⟨S, hS⟩ : ∃ S, S = strV (textD l) := ⟨_, rfl⟩
        have hm1 := may_any l _ w HIL.out
        rw [← hg] at hm1
        have hm2 := fun (w2 : World) (hb : Below w.heap.size w w2) => mayRef_any l _ w2 (isL_now HIL.out hb (Nat.le_refl _))
        rw [← hg] at hm2
        have hx1 := fun (w2 : World) (hb : Below w.heap.size w w2) => text_any l hsm _ w2 (isL_now HIL.out hb (Nat.le_refl _))
        have hx2 := fun (w2 : World) (hb : Below w.heap.size w w2) => textRef_any l hsm _ w2 (isL_now HIL.out hb (Nat.le_refl _))
        unfold strV at hx1 hx2
        obtain ⟨Z, hZ⟩ : ∃ Z : ByteArray, Z = ⟨(textD l).toArray⟩ := ⟨_, rfl⟩
        simp only [← hZ] at hx1 hx2
        have HM1 := Lib.hid hm1
        have HM2 := Lib.hid hm2
        have HX1 := Lib.hid hx1
        have HX2 := Lib.hid hx2
        have gg : (g == g) = true := by cases g <;> rfl
        clear hall hsm hg hS hm1 hm2 hx1 hx2 hZ
        go_wp2_with (first
          | (go_at_call 23; refine (HM1.out).mono ?_; rintro e w2 ⟨rfl, hb2⟩; have HB := Lib.hid hb2; clear hb2)
          | (go_at_call 24; refine (HM2.out _ HB.out).mono ?_; rintro e w3 ⟨rfl, rfl⟩)
          | (go_at_call 25; refine (HX1.out _ HB.out).mono ?_; rintro e w4 ⟨rfl, hb4⟩; have HB := Lib.hid (then_ HB.out hb4); clear hb4)
          | (go_at_call 26; refine (HX2.out _ HB.out).mono ?_; rintro e w5 ⟨rfl, hb5⟩; have HB := Lib.hid (then_ HB.out hb5); clear hb5)
          | (go_at_call 11; refine (HAw.out _).mono ?_; rintro e w6 ⟨rfl, hb6⟩; have HB := Lib.hid (then_ HB.out hb6); clear hb6))
        go_ret
        exact ⟨rfl, HB.out⟩
  · have t0 : decide ((12 : Int) < (l.length : Int)) = true := by simp; omega
    go_enter Try.func4, Try.ntmps4
    go_wp2_with (go_at_call 11; refine (HAw.out _).mono ?_; rintro e w5 ⟨rfl, hb5⟩; have HB5 := Lib.hid hb5; clear hb5)
    go_ret
    exact ⟨rfl, HB5.out⟩
end Go.Proofs.Ytimkobcclkjdeaa
