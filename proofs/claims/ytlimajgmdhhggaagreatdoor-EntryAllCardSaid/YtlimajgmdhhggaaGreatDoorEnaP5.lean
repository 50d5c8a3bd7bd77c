/- Several texts in one file: EnRotW, EnSymW, EnSymE, EnInsO. -/
import Derived.Test.YtlimajgmdhhggaaGreatDoorEnaP4
namespace Go.Proofs.YtlimajgmdhhggaaGreatDoor
open Go.RowKit
set_option linter.unusedVariables false
set_option linter.unusedSimpArgs false

structure RotI (A U V C : List PT) (B g n cap m : Nat) (w : World) (i j : Nat) (V1 U' V' U2 : List PT) (wr : World) : Prop where
  li : U'.length = i
  lj : V'.length = j
  pi : 0 < i
  pj : 0 < j
  lm : A.length + V1.length + i = m
  eq : V1 ++ V' ++ U' ++ U2 = V ++ U
  row : wr.ownsRow B 54 2 (.slice (some ⟨g, 0, none⟩) n cap) n (cellsP (A ++ V1 ++ U' ++ V' ++ U2 ++ C))
  sl : slV (A ++ V1 ++ U' ++ V' ++ U2 ++ C)
  gr : w.grownBy wr (some g)
theorem slV_perm {L M : List PT} (h : slV L) (hm : ∀ r ∈ M, r ∈ L) : slV M := fun r hr => h r (hm r hr)
set_option maxRecDepth 100000 in
set_option maxHeartbeats 4000000 in
theorem rotate_any (A U V C : List PT) (B g n cap a m b : Nat) (w : World) (hn : n = (A ++ U ++ V ++ C).length) (hl : n ≤ 1000000) (ha : a = A.length) (hm : m = A.length + U.length) (hb : b = A.length + U.length + V.length) (hU : 0 < U.length) (hV : 0 < V.length)
    (h : w.ownsRow B 54 2 (.slice (some ⟨g, 0, none⟩) n cap) n (cellsP (A ++ U ++ V ++ C))) (hv : slV (A ++ U ++ V ++ C)) :
    Calls Tryz.prog 152 #[.slice (some ⟨g, 0, none⟩) n cap, .int .i64 a, .int .i64 m, .int .i64 b, .func (.func 46) #[] #[]] w fun e w' => e = .returned (.tuple #[]) ∧ w'.ownsRow B 54 2 (.slice (some ⟨g, 0, none⟩) n cap) n (cellsP (A ++ V ++ U ++ C)) ∧ w.grownBy w' (some g) := by
  have hlen : n = A.length + U.length + V.length + C.length := by rw [hn]; simp; omega
  obtain ⟨ui, hui⟩ : ∃ k, k = U.length := ⟨_, rfl⟩
  obtain ⟨vj, hvj⟩ : ∃ k, k = V.length := ⟨_, rfl⟩
  have q1 : IntKind.i64.wrap ((m : Int) - (a : Int)) = (ui : Int) := by rw [IntKind.wrap_i64]; omega
  have q2 : IntKind.i64.wrap ((b : Int) - (m : Int)) = (vj : Int) := by rw [IntKind.wrap_i64]; omega
  have HLen := Lib.hid hlen
  have hbn : b ≤ n := by omega
  have hab : a ≤ m := by omega
  have hst : RotI A U V C B g n cap m w ui vj [] U V [] w := ⟨hui.symm, hvj.symm, by omega, by omega, by simp; omega, by simp, by simpa using h, by simpa using hv, grown_refl _ _⟩
  have HSt := Lib.hid hst
  have HUV := Lib.hid (And.intro hU hV)
  clear hst h hv hn hU hV hui hvj ha hb hm hlen
  go_enter Tryz.func152, Tryz.ntmps152
  go_wp2
  go_loopw [10, 11] (fun x y wr => ∃ (i j : Nat) (V1 U' V' U2 : List PT), x = .int .i64 (i : Int) ∧ y = .int .i64 (j : Int) ∧ Hid (RotI A U V C B g n cap m w i j V1 U' V' U2 wr)) (fun x y wr => (intOf x).toNat + (intOf y).toNat)
  case atStart => exact ⟨ui, vj, [], U, V, [], rfl, rfl, HSt⟩
  case round =>
    obtain ⟨i, j, V1, U', V', U2, rfl, rfl, HI⟩ := hrel
    obtain ⟨li, lj, pi, pj, lm, heq, hrow, hsl, hgr⟩ := HI.out
    have htot := congrArg List.length heq
    simp only [List.length_append] at htot
    have hln := HLen.out
    obtain ⟨ai, hai⟩ : ∃ k, k = m - i := ⟨_, rfl⟩
    have r1 : IntKind.i64.wrap ((m : Int) - (i : Int)) = (ai : Int) := by rw [IntKind.wrap_i64]; omega
    have hrl : (A ++ V1 ++ U' ++ V' ++ U2 ++ C).length = n := by simp only [List.length_append]; omega
    by_cases hij : i = j
    · subst hij
      have t1 : ((i : Int) != (i : Int)) = false := by simp
      have hsw := swapRange_any (A ++ V1) U' [] V' (U2 ++ C) B g n cap ai m i wr (by rw [← hrl]; simp) hl li (by omega) (by simp; omega) (by simp; omega) (by simpa using hrow) (by simpa using hsl)
      have he : A ++ V1 ++ V' ++ [] ++ U' ++ (U2 ++ C) = A ++ V ++ U ++ C := by
        have : A ++ (V1 ++ V' ++ U' ++ U2) ++ C = A ++ (V ++ U) ++ C := by rw [heq]
        simpa using this
      rw [he] at hsw
      have HSw := Lib.hid hsw
      have HG := Lib.hid hgr
      clear hsw he li lj lm heq hrow hsl hgr htot hln hrl hai HI
      go_wp2_with (go_at_call 178; (with_reducible refine (HSw.out).mono ?_); rintro e w2 ⟨rfl, hr2, hg2⟩; have HR2 := Lib.hid hr2; have HG2 := Lib.hid (grown_trans HG.out hg2); clear hr2 hg2)
      go_end0
      exact ⟨rfl, HR2.out, HG2.out⟩
    · have t1 : ((i : Int) != (j : Int)) = true := by simp; omega
      have t1' : decide ((i : Int) = (j : Int)) = false := by simp; omega
      by_cases hgt : j < i
      · have t2 : decide ((j : Int) < (i : Int)) = true := by simp; omega
        have hX : (U'.take j).length = j := by rw [List.length_take]; omega
        have hsw := swapRange_any (A ++ V1) (U'.take j) (U'.drop j) V' (U2 ++ C) B g n cap ai m j wr (by rw [← hrl]; simp <;> omega) hl hX lj (by simp; omega) (by simp; omega) (by simpa using hrow) (by simpa using hsl)
        have hnew : ∀ w2, w2.ownsRow B 54 2 (.slice (some ⟨g, 0, none⟩) n cap) n (cellsP (A ++ V1 ++ V' ++ U'.drop j ++ U'.take j ++ (U2 ++ C))) → wr.grownBy w2 (some g) → RotI A U V C B g n cap m w (i - j) j (V1 ++ V') (U'.drop j) (U'.take j) U2 w2 := fun w2 h1 h2 => {
          li := by rw [List.length_drop]; omega
          lj := hX
          pi := by omega
          pj := pj
          lm := by simp; omega
          eq := by
            rw [← heq]
            conv => rhs; rw [← List.take_append_drop j U']
            simp
          row := by simpa using h1
          sl := slV_perm hsl (fun r hr => by
            simp only [List.mem_append] at hr ⊢
            rcases hr with ((((hr | hr | hr) | hr) | hr) | hr) | hr
            · simp [hr]
            · simp [hr]
            · simp [hr]
            · simp [List.mem_of_mem_drop hr]
            · simp [List.mem_of_mem_take hr]
            · simp [hr]
            · simp [hr])
          gr := grown_trans hgr h2 }
        have HSw := Lib.hid hsw
        have HNew := Lib.hid hnew
        obtain ⟨d, hd⟩ : ∃ k, k = i - j := ⟨_, rfl⟩
        rw [← hd] at HNew
        have r2 : IntKind.i64.wrap ((i : Int) - (j : Int)) = (d : Int) := by rw [IntKind.wrap_i64]; omega
        have hdm : d + j < i + j := by omega
        clear hsw hnew li lj lm heq hrow hsl hgr htot hln hrl hai hX hd HI
        go_wp2_with (go_at_call 178; (with_reducible refine (HSw.out).mono ?_); rintro e w2 ⟨rfl, hr2, hg2⟩; have HI2 := Lib.hid (HNew.out w2 hr2 hg2); clear hr2 hg2)
        go_roundw
        case rel => exact ⟨d, j, _, _, _, _, rfl, rfl, HI2⟩
        case measure => simp [intOf]; omega
      · have t2 : decide ((j : Int) < (i : Int)) = false := by simp; omega
        have hY : (V'.drop (j - i)).length = i := by rw [List.length_drop]; omega
        obtain ⟨bi, hbi⟩ : ∃ k, k = m + j - i := ⟨_, rfl⟩
        have hsw := swapRange_any (A ++ V1) U' (V'.take (j - i)) (V'.drop (j - i)) (U2 ++ C) B g n cap ai bi i wr (by rw [← hrl]; simp <;> omega) hl li hY (by simp; omega) (by simp; omega) (by simpa using hrow) (by simpa using hsl)
        have hnew : ∀ w2, w2.ownsRow B 54 2 (.slice (some ⟨g, 0, none⟩) n cap) n (cellsP (A ++ V1 ++ V'.drop (j - i) ++ V'.take (j - i) ++ U' ++ (U2 ++ C))) → wr.grownBy w2 (some g) → RotI A U V C B g n cap m w i (j - i) V1 (V'.drop (j - i)) (V'.take (j - i)) (U' ++ U2) w2 := fun w2 h1 h2 => {
          li := hY
          lj := by rw [List.length_take]; omega
          pi := pi
          pj := by omega
          lm := lm
          eq := by
            rw [← heq]
            conv => rhs; rw [← List.take_append_drop (j - i) V']
            simp
          row := by simpa using h1
          sl := slV_perm hsl (fun r hr => by
            simp only [List.mem_append] at hr ⊢
            rcases hr with ((((hr | hr) | hr) | hr) | hr | hr) | hr
            · simp [hr]
            · simp [hr]
            · simp [List.mem_of_mem_drop hr]
            · simp [List.mem_of_mem_take hr]
            · simp [hr]
            · simp [hr]
            · simp [hr])
          gr := grown_trans hgr h2 }
        have HSw := Lib.hid hsw
        have HNew := Lib.hid hnew
        obtain ⟨d, hd⟩ : ∃ k, k = j - i := ⟨_, rfl⟩
        rw [← hd] at HNew HSw
        have r2 : IntKind.i64.wrap ((j : Int) - (i : Int)) = (d : Int) := by rw [IntKind.wrap_i64]; omega
        obtain ⟨mj, hmj⟩ : ∃ k, k = m + j := ⟨_, rfl⟩
        have r3 : IntKind.i64.wrap ((m : Int) + (j : Int)) = (mj : Int) := by rw [IntKind.wrap_i64]; omega
        have r4 : IntKind.i64.wrap ((mj : Int) - (i : Int)) = (bi : Int) := by rw [IntKind.wrap_i64]; omega
        have hdm : i + d < i + j := by omega
        clear hmj
        clear hsw hnew li lj lm heq hrow hsl hgr htot hln hrl hai hY hd hbi HI
        go_wp2_with (go_at_call 178; (with_reducible refine (HSw.out).mono ?_); rintro e w2 ⟨rfl, hr2, hg2⟩; have HI2 := Lib.hid (HNew.out w2 hr2 hg2); clear hr2 hg2)
        go_roundw
        case rel => exact ⟨i, d, _, _, _, _, rfl, rfl, HI2⟩
        case measure => simp [intOf]; omega
end Go.Proofs.YtlimajgmdhhggaaGreatDoor


namespace Go.Proofs.YtlimajgmdhhggaaGreatDoor
open Go.RowKit
set_option linter.unusedVariables false
set_option linter.unusedSimpArgs false

def SymC (B g n cap : Nat) (X Y : List PT) : Prop := ∀ (A C : List PT) (a m b : Nat) (w : World), n = (A ++ X ++ Y ++ C).length → a = A.length → m = A.length + X.length → b = A.length + X.length + Y.length →
  w.ownsRow B 54 2 (.slice (some ⟨g, 0, none⟩) n cap) n (cellsP (A ++ X ++ Y ++ C)) → slV (A ++ X ++ Y ++ C) →
  Calls Tryz.prog 122 #[.slice (some ⟨g, 0, none⟩) n cap, .int .i64 a, .int .i64 m, .int .i64 b, .func (.func 46) #[] #[]] w fun e w' => e = .returned (.tuple #[]) ∧ w'.ownsRow B 54 2 (.slice (some ⟨g, 0, none⟩) n cap) n (cellsP (A ++ mrgG X Y ++ C)) ∧ w.grownBy w' (some g)
theorem get_X {A X Y C : List PT} {i t : Nat} (ht : t < X.length) (hi : i = A.length + t) : (A ++ X ++ Y ++ C)[i]? = some X[t] := by
  subst hi
  rw [List.append_assoc, List.append_assoc, List.getElem?_append_right (by omega), show A.length + t - A.length = t from by omega, List.getElem?_append_left ht]
  simp [ht]
theorem get_Y {A X Y C : List PT} {i t : Nat} (ht : t < Y.length) (hi : i = A.length + X.length + t) : (A ++ X ++ Y ++ C)[i]? = some Y[t] := by
  subst hi
  rw [List.append_assoc, List.append_assoc, List.getElem?_append_right (by omega), List.getElem?_append_right (by omega), show A.length + X.length + t - A.length - X.length = t from by omega, List.getElem?_append_left ht]
  simp [ht]
theorem row_pair {B g n cap : Nat} {W : World} {R : List PT} {i j : Nat} {ri rj : PT} (hl : n = R.length) (hi : R[i]? = some ri) (hj : R[j]? = some rj) (hr : W.ownsRow B 54 2 (.slice (some ⟨g, 0, none⟩) n cap) n (cellsP R)) (hv : slV R) :
    ∃ XX YY xa xn xc ya yn yc, ri = (XX.data.toList, .slice xa xn xc) ∧ rj = (YY.data.toList, .slice ya yn yc) ∧ PairAt W g (i * 2) (j * 2) XX YY (.slice xa xn xc) (.slice ya yn yc) W.drew ∧ decide (Extern.BytealgCompare.cmp XX YY < 0) = gtB rj.1 ri.1 := by
  obtain ⟨hi', rfl⟩ := List.getElem?_eq_some_iff.1 hi
  obtain ⟨hj', rfl⟩ := List.getElem?_eq_some_iff.1 hj
  obtain ⟨x0, x1⟩ := cellsP_get R i hi'
  obtain ⟨y0, y1⟩ := cellsP_get R j hj'
  obtain ⟨xa, xn, xc, hx⟩ := hv _ (List.getElem_mem hi')
  obtain ⟨ya, yn, yc, hy⟩ := hv _ (List.getElem_mem hj')
  have hc := fun j (hj : j < n * 2) => World.ownsRow.cellAt hr j hj
  have hg := (World.ownsRow.lt hr g rfl).2
  refine ⟨ofL R[i].1, ofL R[j].1, xa, xn, xc, ya, yn, yc, Prod.ext rfl hx, Prod.ext rfl hy, ⟨?_, ?_, ?_, ?_, hg, (Below.refl _ _).drew⟩, ?_⟩
  · show W.cell? _ = _; rw [hc _ (by omega), x0]; rfl
  · show W.cell? _ = _; rw [hc _ (by omega), x1, hx]
  · show W.cell? _ = _; rw [hc _ (by omega), y0]; rfl
  · show W.cell? _ = _; rw [hc _ (by omega), y1, hy]
  · have := cmp_gtB R[j].1 R[i].1
    rw [Bool.eq_iff_iff, ← this]
    simp only [decide_eq_true_eq]
    rfl
theorem row_below {B g n cap : Nat} {W W' : World} {v : List Value} (h : W.ownsRow B 54 2 (.slice (some ⟨g, 0, none⟩) n cap) n v) (hb : Below W.heap.size W W') : W'.ownsRow B 54 2 (.slice (some ⟨g, 0, none⟩) n cap) n v :=
  World.ownsRow.kept h (row := none) ⟨hb.os, hb.tape, hb.output, hb.size, fun k hk _ => hb.block k hk⟩ (.inr (by simp [Value.ownBlock]))
theorem swap2_comm {α : Type} (R : List α) (i j : Nat) (h : i ≠ j) : swap2 R i j = swap2 R j i := by
  unfold swap2
  cases hi : R[i]? with
  | none => cases hj : R[j]? <;> rfl
  | some x =>
    cases hj : R[j]? with
    | none => rfl
    | some y => exact List.set_comm _ _ h
theorem swap_at {B g n cap : Nat} {W : World} {R : List PT} {i j : Nat} {ri rj : PT} (hl : n = R.length) (hi : R[i]? = some ri) (hj : R[j]? = some rj) (hij : i ≠ j) (hr : W.ownsRow B 54 2 (.slice (some ⟨g, 0, none⟩) n cap) n (cellsP R)) (hv : slV R) :
    ∃ XX YY xa xn xc ya yn yc, W.cell? ⟨g, i * 2, none⟩ = some (.string XX) ∧ W.cell? ⟨g, i * 2 + 1, none⟩ = some (.slice xa xn xc) ∧ W.cell? ⟨g, j * 2, none⟩ = some (.string YY) ∧ W.cell? ⟨g, j * 2 + 1, none⟩ = some (.slice ya yn yc) ∧
      W.frozen? ⟨g, i * 2, none⟩ = false ∧ W.frozen? ⟨g, i * 2 + 1, none⟩ = false ∧ W.frozen? ⟨g, j * 2, none⟩ = false ∧ W.frozen? ⟨g, j * 2 + 1, none⟩ = false ∧
      ((((W.setCell ⟨g, i * 2, none⟩ (.string YY)).setCell ⟨g, i * 2 + 1, none⟩ (.slice ya yn yc)).setCell ⟨g, j * 2, none⟩ (.string XX)).setCell ⟨g, j * 2 + 1, none⟩ (.slice xa xn xc)).ownsRow B 54 2 (.slice (some ⟨g, 0, none⟩) n cap) n (cellsP (swap2 R i j)) ∧
      W.grownBy ((((W.setCell ⟨g, i * 2, none⟩ (.string YY)).setCell ⟨g, i * 2 + 1, none⟩ (.slice ya yn yc)).setCell ⟨g, j * 2, none⟩ (.string XX)).setCell ⟨g, j * 2 + 1, none⟩ (.slice xa xn xc)) (some g) := by
  obtain ⟨XX, YY, xa, xn, xc, ya, yn, yc, hri, hrj, ⟨s0, s1, s2, s3, _, _⟩, _⟩ := row_pair hl hi hj hr hv
  obtain ⟨hi', ei⟩ := List.getElem?_eq_some_iff.1 hi
  obtain ⟨hj', ej⟩ := List.getElem?_eq_some_iff.1 hj
  obtain ⟨hsw, hgw⟩ := rowP_swap2 hi' hj' hij hr
  rw [ei, ej, hri, hrj] at hsw hgw
  simp only [strV_whole] at hsw hgw
  exact ⟨XX, YY, xa, xn, xc, ya, yn, yc, s0, s1, s2, s3, World.ownsRow.frozenAt hr _, World.ownsRow.frozenAt hr _, World.ownsRow.frozenAt hr _, World.ownsRow.frozenAt hr _, hsw, hgw⟩
theorem up_step {A Y C : List PT} {x : PT} {k i : Nat} (hk : k < Y.length) (hi : i = A.length + k) : swap2 (A ++ (Y.take k ++ x :: Y.drop k) ++ C) i (i + 1) = A ++ (Y.take (k + 1) ++ x :: Y.drop (k + 1)) ++ C := by
  have hs := swap2_at (A ++ Y.take k) [] (Y.drop (k + 1) ++ C) x Y[k]
  have hl : (A ++ Y.take k).length = i := by simp; omega
  rw [hl] at hs
  rw [List.drop_eq_getElem_cons hk, List.take_succ_eq_append_getElem hk]
  simp only [List.append_assoc, List.cons_append, List.nil_append, List.length_nil, Nat.add_zero] at hs ⊢
  exact hs
theorem pair_up {A Y C : List PT} {x : PT} {k i : Nat} (hk : k < Y.length) (hi : i = A.length + k) : (A ++ (Y.take k ++ x :: Y.drop k) ++ C)[i]? = some x ∧ (A ++ (Y.take k ++ x :: Y.drop k) ++ C)[i + 1]? = some Y[k] := by
  have hl : (A ++ Y.take k).length = i := by simp; omega
  have e : A ++ (Y.take k ++ x :: Y.drop k) ++ C = (A ++ Y.take k) ++ (x :: Y[k] :: (Y.drop (k + 1) ++ C)) := by rw [List.drop_eq_getElem_cons hk]; simp only [List.append_assoc, List.cons_append]
  rw [e]
  constructor
  · rw [List.getElem?_append_right (by omega), hl, Nat.sub_self]; rfl
  · rw [List.getElem?_append_right (by omega), hl, show i + 1 - i = 1 from by omega]; rfl
theorem slV_up {A Y C : List PT} {x : PT} (k : Nat) (h : slV (A ++ x :: (Y ++ C))) : slV (A ++ (Y.take k ++ x :: Y.drop k) ++ C) := slV_perm h (fun r hr => by
  simp only [List.mem_append, List.mem_cons] at hr ⊢
  rcases hr with (hr | hr | hr | hr) | hr
  · simp [hr]
  · simp [List.mem_of_mem_take hr]
  · simp [hr]
  · simp [List.mem_of_mem_drop hr]
  · simp [hr])

set_option maxRecDepth 100000 in
set_option maxHeartbeats 8000000 in
theorem sym_one (x : PT) (Y : List PT) (B g n cap : Nat) (hl : n ≤ 1000000) (hY : sortedG Y) : SymC B g n cap [x] Y := by
  intro A C a m b w hn ha hm hb h hv
  simp only [List.length_append, List.length_singleton] at hn hm hb
  obtain ⟨ny, hny⟩ : ∃ k, k = Y.length := ⟨_, rfl⟩
  have q1 : IntKind.i64.wrap ((m : Int) - (a : Int)) = 1 := by rw [IntKind.wrap_i64]; omega
  have HQ := Lib.hid (And.intro (show m = a + 1 by omega) (show b = m + ny by omega))
  have hbn : b ≤ n := by omega
  have HR := Lib.hid h
  have HV := Lib.hid hv
  have HYs := Lib.hid hY
  have HLn := Lib.hid (And.intro hn (And.intro ha hny))
  clear h hv hY hn ha hm hb hny
  go_enter Tryz.func122, Tryz.ntmps122
  go_wp2
  go_loopw [10, 11, 12] (fun i j hh wr => ∃ ip jq : Nat, m ≤ ip ∧ ip ≤ jq ∧ jq ≤ b ∧ i = .int .i64 (ip : Int) ∧ j = .int .i64 (jq : Int) ∧ Hid (∀ t (h : t < Y.length), m + t < ip → gtB x.1 Y[t].1 = true) ∧ Hid (∀ t (h : t < Y.length), jq ≤ m + t → gtB x.1 Y[t].1 = false) ∧ Hid (wr.ownsRow B 54 2 (.slice (some ⟨g, 0, none⟩) n cap) n (cellsP (A ++ [x] ++ Y ++ C))) ∧ Hid (w.grownBy wr (some g))) (fun i j hh wr => (intOf j).toNat - (intOf i).toNat)
  case atStart => exact ⟨m, b, Nat.le_refl _, by have := HQ.out.2; omega, Nat.le_refl _, rfl, rfl, Lib.hid (fun t _ h => absurd h (by omega)), Lib.hid (fun t h1 h2 => absurd h1 (by have := HLn.out.2.2; have := HQ.out.2; omega)), HR, Lib.hid (grown_refl _ _)⟩
  case round =>
    obtain ⟨ip, jq, hmi, hij, hjb, rfl, rfl, HLo, HHi, HRr, HGr⟩ := hrel
    by_cases hlt : ip < jq
    · obtain ⟨hh, hhh⟩ : ∃ k, k = (ip + jq) / 2 := ⟨_, rfl⟩
      have t1 : decide ((ip : Int) < (jq : Int)) = true := by simp; omega
      have r1 : IntKind.i64.wrap ((ip : Int) + (jq : Int)) = (ip : Int) + (jq : Int) := by rw [IntKind.wrap_i64]; omega
      have r2 : ((ip : Int) + (jq : Int)) / 2 = (hh : Int) := by omega
      have hb1 : ip ≤ hh := by omega
      have hb2 : hh < jq := by omega
      obtain ⟨t, ht, htl⟩ : ∃ t, hh = m + t ∧ t < Y.length := ⟨hh - m, by omega, by have := HLn.out.2.2; have := HQ.out.2; omega⟩
      obtain ⟨XX, YY, xa, xn, xc, ya, yn, yc, hri, hrj, hst, hcg⟩ := row_pair (ri := Y[t]) (rj := x) (by rw [HLn.out.1]; simp; omega) (get_Y (A := A) (X := [x]) (C := C) (i := hh) htl (by have := HLn.out.2.1; have := HQ.out.1; simp; omega)) (get_X (A := A) (X := [x]) (Y := Y) (C := C) (i := a) (t := 0) (by simp) (by have := HLn.out.2.1; omega)) HRr.out HV.out
      obtain ⟨I, hI⟩ : ∃ I, I = Extern.BytealgCompare.cmp XX YY := ⟨_, rfl⟩
      have hcm := fun W => typesCmp_any XX YY (.slice xa xn xc) (.slice ya yn yc) W
      simp only [← hI] at hcm
      rw [← hI] at hcg
      have HCm := Lib.hid hcm
      have HT := Lib.hid (And.intro ht htl)
      have HHh := Lib.hid hhh
      have k0 : (0 : Int) ≤ (hh : Int) := by omega
      have k1 : (hh : Int) < (n : Int) := by omega
      have k2 : (0 : Int) ≤ (a : Int) := by omega
      have k3 : (a : Int) < (n : Int) := by have := HQ.out.1; omega
      obtain ⟨gg, hgg⟩ : ∃ b, decide (I < 0) = b := ⟨_, rfl⟩
      have HG : Hid (∀ h : t < Y.length, gtB x.1 (Y[t]'h).1 = gg) := Lib.hid (fun _ => hcg.symm.trans hgg)
      clear hri hrj hcm hI hcg ht htl hhh
      cases gg with
      | true =>
        go_upto_region 5 with (fail)
        refine region_det (by kernel_rfl) (PairAt wr g (hh * 2) (a * 2) XX YY (.slice xa xn xc) (.slice ya yn yc)) (hst) (by kernel_rfl) ?_
        simp only [List.toList_toArray]
        repeat' (first
          | (refine det_shut (by rfl) ?_; (simp only [Act.put, List.setIfInBounds_toArray, List.set_cons_zero, List.set_cons_succ]))
          | (apply det_val; (case hw => rfl); (case hv => (intro w' hS; ((obtain ⟨s0, s1, s2, s3, s4, s5⟩ := hS); go_simp); first | done | with_reducible exact rfl)); (simp only [Act.put, List.setIfInBounds_toArray, List.set_cons_zero, List.set_cons_succ]))
          | (apply det_call; (case hw => rfl); (case hv => (intro w' hS; ((obtain ⟨s0, s1, s2, s3, s4, s5⟩ := hS); go_simp); first | done | with_reducible exact rfl | with_reducible exact ⟨rfl, rfl⟩)); (case hc => (intro w' hS; (first | (go_at_call 46; with_reducible exact (HCm.out w').mono (fun e w'' h => ⟨h.1, (PairAt.go hS h.2).2.2.2.2⟩))))); (simp only [Act.put, List.setIfInBounds_toArray, List.set_cons_zero, List.set_cons_succ]))
          | fail)
        intro w9 hS9
        have HR9 := Lib.hid (row_below HRr.out hS9.2.2.2.2.2)
        have HG9 := Lib.hid (grown_trans HGr.out (below_grownR hS9.2.2.2.2.2))
        clear hS9 hst
        go_wp2
        go_roundw
        case rel => exact ⟨hh + 1, jq, by omega, by omega, hjb, by go_num, rfl, Lib.hid (fun s hs h => gt_le_trans (HG.out HT.out.2) (sorted_le HYs.out hs HT.out.2 (by have := HT.out.1; omega))), HHi, HR9, HG9⟩
        case measure => simp [intOf]; omega
      | false =>
        go_upto_region 5 with (fail)
        refine region_det (by kernel_rfl) (PairAt wr g (hh * 2) (a * 2) XX YY (.slice xa xn xc) (.slice ya yn yc)) (hst) (by kernel_rfl) ?_
        simp only [List.toList_toArray]
        repeat' (first
          | (refine det_shut (by rfl) ?_; (simp only [Act.put, List.setIfInBounds_toArray, List.set_cons_zero, List.set_cons_succ]))
          | (apply det_val; (case hw => rfl); (case hv => (intro w' hS; ((obtain ⟨s0, s1, s2, s3, s4, s5⟩ := hS); go_simp); first | done | with_reducible exact rfl)); (simp only [Act.put, List.setIfInBounds_toArray, List.set_cons_zero, List.set_cons_succ]))
          | (apply det_call; (case hw => rfl); (case hv => (intro w' hS; ((obtain ⟨s0, s1, s2, s3, s4, s5⟩ := hS); go_simp); first | done | with_reducible exact rfl | with_reducible exact ⟨rfl, rfl⟩)); (case hc => (intro w' hS; (first | (go_at_call 46; with_reducible exact (HCm.out w').mono (fun e w'' h => ⟨h.1, (PairAt.go hS h.2).2.2.2.2⟩))))); (simp only [Act.put, List.setIfInBounds_toArray, List.set_cons_zero, List.set_cons_succ]))
          | fail)
        intro w9 hS9
        have HR9 := Lib.hid (row_below HRr.out hS9.2.2.2.2.2)
        have HG9 := Lib.hid (grown_trans HGr.out (below_grownR hS9.2.2.2.2.2))
        clear hS9 hst
        go_wp2
        go_roundw
        case rel => exact ⟨ip, hh, hmi, by omega, by omega, rfl, rfl, HLo, Lib.hid (fun s hs h => gle_trans (HG.out HT.out.2) (sorted_le HYs.out HT.out.2 hs (by have := HT.out.1; omega))), HR9, HG9⟩
        case measure => simp [intOf]; omega
    · obtain rfl : ip = jq := by omega
      have t1 : decide ((ip : Int) < (ip : Int)) = false := by simp
      obtain ⟨p, hp⟩ : ∃ p, p = ip - m := ⟨_, rfl⟩
      have hpl : p ≤ Y.length := by have := HLn.out.2.2; have := HQ.out.2; omega
      have hmr := mrg_one (x := x) (Y := Y) (p := p) hpl (fun t h h1 => HLo.out t h (by omega)) (fun t h h1 => HHi.out t h (by omega))
      have HMr : Hid (A ++ (Y.take p ++ x :: Y.drop p) ++ C = A ++ mrgG [x] Y ++ C) := Lib.hid (by rw [hmr])
      obtain ⟨e, he⟩ : ∃ e, e = ip - 1 := ⟨_, rfl⟩
      have r3 : IntKind.i64.wrap ((ip : Int) - 1) = (e : Int) := by rw [IntKind.wrap_i64]; have := HQ.out.1; omega
      have HE : Hid (e = a + p ∧ p ≤ Y.length) := Lib.hid ⟨by have := HQ.out.1; omega, hpl⟩
      have HVx : Hid (slV (A ++ x :: (Y ++ C))) := Lib.hid (by have := HV.out; simpa using this)
      have HR0 : Hid (wr.ownsRow B 54 2 (.slice (some ⟨g, 0, none⟩) n cap) n (cellsP (A ++ (Y.take 0 ++ x :: Y.drop 0) ++ C))) := Lib.hid (by have := HRr.out; simpa using this)
      clear hmr hp he HLo HHi HRr hpl hmi hij hjb
      go_wp2
      go_loopw [13] (fun kk wr2 => ∃ i k : Nat, Hid (i = a + k) ∧ k ≤ p ∧ kk = .int .i64 (i : Int) ∧ Hid (wr2.ownsRow B 54 2 (.slice (some ⟨g, 0, none⟩) n cap) n (cellsP (A ++ (Y.take k ++ x :: Y.drop k) ++ C))) ∧ Hid (w.grownBy wr2 (some g))) (fun kk wr2 => n - (intOf kk).toNat)
      case atStart => exact ⟨a, 0, Lib.hid rfl, Nat.zero_le _, rfl, HR0, HGr⟩
      case round =>
        clear HGr
    
        obtain ⟨i, k, HI, hkp, rfl, HRr, HGr⟩ := hrel
        by_cases hlt2 : k < p
        · have t2 : decide ((i : Int) < (e : Int)) = true := by have := HE.out.1; have := HI.out; simp; omega
          have t2' : decide (i < e) = true := by have := HE.out.1; have := HI.out; simp; omega
          obtain ⟨j, hj⟩ : ∃ j, j = i + 1 := ⟨_, rfl⟩
          have hky : k < Y.length := by have := HE.out.2; omega
          have hjn : j < n := by have := HLn.out; have := HI.out; have := HQ.out; have := HE.out; omega
          have r4 : IntKind.i64.wrap ((i : Int) + 1) = (j : Int) := by rw [IntKind.wrap_i64]; omega
          have hRl : n = (A ++ (Y.take k ++ x :: Y.drop k) ++ C).length := by rw [HLn.out.1]; simp; omega
          have hin : i < n := by omega
          obtain ⟨gi, gj⟩ := pair_up (A := A) (C := C) (x := x) hky (show i = A.length + k by have := HLn.out.2.1; have := HI.out; omega)
          rw [← hj] at gj
          have hRv := slV_up k HVx.out
          have hst := up_step (A := A) (C := C) (x := x) hky (show i = A.length + k by have := HLn.out.2.1; have := HI.out; omega)
          rw [← hj] at hst
          have HI2 : Hid (j = a + (k + 1)) := Lib.hid (by have := HI.out; omega)
          have HJ := Lib.hid hj
          obtain ⟨XX, YY, xa, xn, xc, ya, yn, yc, s0, s1, s2, s3, z0, z1, z2, z3, hsw, hgw⟩ := swap_at (i := i) (j := j) hRl gi gj (by omega) HRr.out hRv
          rw [hst] at hsw
          have HSw := Lib.hid hsw
          have HGw := Lib.hid hgw
          have q3 : (0 : Int) ≤ (i : Int) := by omega
          have q4 : (i : Int) < (n : Int) := by omega
          have q5 : (0 : Int) ≤ (j : Int) := by omega
          have q6 : (j : Int) < (n : Int) := by omega
          have n0 : (i * 2 = j * 2) = False := eq_false (by omega)
          have n1 : (i * 2 + 1 = j * 2) = False := eq_false (by omega)
          have n2 : (i * 2 = j * 2 + 1) = False := eq_false (by omega)
          have n3 : (j * 2 = i * 2) = False := eq_false (by omega)
          have n4 : (j * 2 = i * 2 + 1) = False := eq_false (by omega)
          have n5 : (j * 2 + 1 = i * 2) = False := eq_false (by omega)
          clear hsw hgw hst hRl hRv gi gj hj
          go_upto_region 11 with (fail)
          go_region_law (fail)
          all_goals
            have hr10 := HSw.out
            have hg10 := HGw.out
            have hr11 := hr10.drew
            have hg11 := grown_trans HGr.out hg10
            generalize (((wr.setCell ⟨g, i * 2, none⟩ (.string YY)).setCell ⟨g, i * 2 + 1, none⟩ (.slice ya yn yc)).setCell ⟨g, j * 2, none⟩ (.string XX)).setCell ⟨g, j * 2 + 1, none⟩ (.slice xa xn xc) = W10 at hr11 hg11 ⊢
            have hg12 : w.grownBy W10.drew (some g) := ⟨hg11.os, hg11.tape, hg11.output, hg11.size, hg11.block⟩
            have HR12 := Lib.hid hr11
            have HG12 := Lib.hid hg12
            clear hr10 hg10 hr11 hg11 hg12 s0 s1 s2 s3 z0 z1 z2 z3
            go_wp2
            go_roundw
            case rel => exact ⟨j, k + 1, HI2, by omega, by first | rfl | (have e3 := HJ.out; simp [e3]) | go_num, HR12, HG12⟩
            case measure => (have e3 := HJ.out; simp [intOf]; omega)
        · obtain rfl : k = p := by omega
          have t2 : decide ((i : Int) < (e : Int)) = false := by have := HE.out.1; have := HI.out; simp; omega
          have t2' : decide (i < e) = false := by have := HE.out.1; have := HI.out; simp; omega
          have hend := HRr.out
          rw [HMr.out] at hend
          have HEn := Lib.hid hend
          clear hend
          go_wp2
          ((try simp only [Exit.inBlock, Exit.then]); refine bodyPost_ret (results_none rfl _ _ _) rfl ?_)
          exact ⟨rfl, HEn.out, HGr.out⟩
theorem down_step {A Y C : List PT} {x : PT} {k i j : Nat} (hk : k < Y.length) (hj : j = A.length + k) (hi : i = j + 1) : swap2 (A ++ (Y.take (k + 1) ++ x :: Y.drop (k + 1)) ++ C) i j = A ++ (Y.take k ++ x :: Y.drop k) ++ C := by
  have hs := swap2_at (A ++ Y.take k) [] (Y.drop (k + 1) ++ C) Y[k] x
  have hl : (A ++ Y.take k).length = j := by simp; omega
  rw [hl] at hs
  rw [swap2_comm _ _ _ (by omega), hi, List.drop_eq_getElem_cons hk, List.take_succ_eq_append_getElem hk]
  simp only [List.append_assoc, List.cons_append, List.nil_append, List.length_nil, Nat.add_zero] at hs ⊢
  exact hs
theorem pair_down {A Y C : List PT} {x : PT} {k i j : Nat} (hk : k < Y.length) (hj : j = A.length + k) (hi : i = j + 1) : (A ++ (Y.take (k + 1) ++ x :: Y.drop (k + 1)) ++ C)[i]? = some x ∧ (A ++ (Y.take (k + 1) ++ x :: Y.drop (k + 1)) ++ C)[j]? = some Y[k] := by
  have hl : (A ++ Y.take k).length = j := by simp; omega
  have e : A ++ (Y.take (k + 1) ++ x :: Y.drop (k + 1)) ++ C = (A ++ Y.take k) ++ (Y[k] :: x :: (Y.drop (k + 1) ++ C)) := by rw [List.take_succ_eq_append_getElem hk]; simp only [List.append_assoc, List.cons_append, List.nil_append]
  rw [e]
  constructor
  · rw [List.getElem?_append_right (by omega), hl, show i - j = 1 from by omega]; rfl
  · rw [List.getElem?_append_right (by omega), hl, Nat.sub_self]; rfl
set_option maxRecDepth 100000 in
set_option maxHeartbeats 8000000 in
theorem sym_last (y : PT) (X : List PT) (B g n cap : Nat) (hl : n ≤ 1000000) (hX : sortedG X) (hx2 : 2 ≤ X.length) : SymC B g n cap X [y] := by
  intro A C a m b w hn ha hm hb h hv
  simp only [List.length_append, List.length_singleton] at hn hm hb
  obtain ⟨nx, hnx⟩ : ∃ k, k = X.length := ⟨_, rfl⟩
  have q1 : IntKind.i64.wrap ((m : Int) - (a : Int)) = (nx : Int) := by rw [IntKind.wrap_i64]; omega
  have q1b : ((nx : Int) == 1) = false := by simp; omega
  have q1c : decide ((nx : Int) = 1) = false := by simp; omega
  have q1d : IntKind.i64.wrap ((b : Int) - (m : Int)) = 1 := by rw [IntKind.wrap_i64]; omega
  have HQ := Lib.hid (And.intro (show m = a + nx by omega) (show b = m + 1 by omega))
  have hbn : b ≤ n := by omega
  have HR := Lib.hid h
  have HV := Lib.hid hv
  have HXs := Lib.hid hX
  have HLn := Lib.hid (And.intro hn (And.intro ha hnx))
  clear h hv hX hn ha hm hb hnx hx2
  go_enter Tryz.func122, Tryz.ntmps122
  go_wp2
  go_loopw [14, 15, 16] (fun i j hh wr => ∃ ip jq : Nat, a ≤ ip ∧ ip ≤ jq ∧ jq ≤ m ∧ i = .int .i64 (ip : Int) ∧ j = .int .i64 (jq : Int) ∧ Hid (∀ t (h : t < X.length), a + t < ip → gtB X[t].1 y.1 = false) ∧ Hid (∀ t (h : t < X.length), jq ≤ a + t → gtB X[t].1 y.1 = true) ∧ Hid (wr.ownsRow B 54 2 (.slice (some ⟨g, 0, none⟩) n cap) n (cellsP (A ++ X ++ [y] ++ C))) ∧ Hid (w.grownBy wr (some g))) (fun i j hh wr => (intOf j).toNat - (intOf i).toNat)
  case atStart => exact ⟨a, m, Nat.le_refl _, by have := HQ.out.1; omega, Nat.le_refl _, rfl, rfl, Lib.hid (fun t _ h => absurd h (by omega)), Lib.hid (fun t h1 h2 => absurd h1 (by have := HLn.out.2.2; have := HQ.out.1; omega)), HR, Lib.hid (grown_refl _ _)⟩
  case round =>
    obtain ⟨ip, jq, hmi, hij, hjb, rfl, rfl, HLo, HHi, HRr, HGr⟩ := hrel
    by_cases hlt : ip < jq
    · obtain ⟨hh, hhh⟩ : ∃ k, k = (ip + jq) / 2 := ⟨_, rfl⟩
      have hmn : m < n := by have := HQ.out.2; omega
      have t1 : decide ((ip : Int) < (jq : Int)) = true := by simp; omega
      have r1 : IntKind.i64.wrap ((ip : Int) + (jq : Int)) = (ip : Int) + (jq : Int) := by rw [IntKind.wrap_i64]; omega
      have r2 : ((ip : Int) + (jq : Int)) / 2 = (hh : Int) := by omega
      have hb1 : ip ≤ hh := by omega
      have hb2 : hh < jq := by omega
      obtain ⟨t, ht, htl⟩ : ∃ t, hh = a + t ∧ t < X.length := ⟨hh - a, by omega, by have := HLn.out.2.2; have := HQ.out.1; omega⟩
      obtain ⟨XX, YY, xa, xn, xc, ya, yn, yc, hri, hrj, hst, hcg⟩ := row_pair (ri := y) (rj := X[t]) (by rw [HLn.out.1]; simp; omega) (get_Y (A := A) (X := X) (Y := [y]) (C := C) (i := m) (t := 0) (by simp) (by have := HLn.out.2; have := HQ.out.1; omega)) (get_X (A := A) (X := X) (Y := [y]) (C := C) (i := hh) htl (by have := HLn.out.2.1; omega)) HRr.out HV.out
      obtain ⟨I, hI⟩ : ∃ I, I = Extern.BytealgCompare.cmp XX YY := ⟨_, rfl⟩
      have hcm := fun W => typesCmp_any XX YY (.slice xa xn xc) (.slice ya yn yc) W
      simp only [← hI] at hcm
      rw [← hI] at hcg
      have HCm := Lib.hid hcm
      have HT := Lib.hid (And.intro ht htl)
      have HHh := Lib.hid hhh
      have k0 : (0 : Int) ≤ (hh : Int) := by omega
      have k1 : (hh : Int) < (n : Int) := by omega
      have k2 : (0 : Int) ≤ (m : Int) := by omega
      have k3 : (m : Int) < (n : Int) := by omega
      obtain ⟨gg, hgg⟩ : ∃ b, decide (I < 0) = b := ⟨_, rfl⟩
      have HG : Hid (∀ h : t < X.length, gtB (X[t]'h).1 y.1 = gg) := Lib.hid (fun _ => hcg.symm.trans hgg)
      clear hri hrj hcm hI hcg ht htl hhh
      cases gg with
      | true =>
        go_upto_region 17 with (fail)
        refine region_det (by kernel_rfl) (PairAt wr g (m * 2) (hh * 2) XX YY (.slice xa xn xc) (.slice ya yn yc)) (hst) (by kernel_rfl) ?_
        simp only [List.toList_toArray]
        repeat' (first
          | (refine det_shut (by rfl) ?_; (simp only [Act.put, List.setIfInBounds_toArray, List.set_cons_zero, List.set_cons_succ]))
          | (apply det_val; (case hw => rfl); (case hv => (intro w' hS; ((obtain ⟨s0, s1, s2, s3, s4, s5⟩ := hS); go_simp); first | done | with_reducible exact rfl)); (simp only [Act.put, List.setIfInBounds_toArray, List.set_cons_zero, List.set_cons_succ]))
          | (apply det_call; (case hw => rfl); (case hv => (intro w' hS; ((obtain ⟨s0, s1, s2, s3, s4, s5⟩ := hS); go_simp); first | done | with_reducible exact rfl | with_reducible exact ⟨rfl, rfl⟩)); (case hc => (intro w' hS; (first | (go_at_call 46; with_reducible exact (HCm.out w').mono (fun e w'' h => ⟨h.1, (PairAt.go hS h.2).2.2.2.2⟩))))); (simp only [Act.put, List.setIfInBounds_toArray, List.set_cons_zero, List.set_cons_succ]))
          | fail)
        intro w9 hS9
        have HR9 := Lib.hid (row_below HRr.out hS9.2.2.2.2.2)
        have HG9 := Lib.hid (grown_trans HGr.out (below_grownR hS9.2.2.2.2.2))
        clear hS9 hst
        go_wp2
        go_roundw
        case rel => exact ⟨ip, hh, hmi, by omega, by omega, rfl, rfl, HLo, Lib.hid (fun s hs h => le_gt_trans (HG.out HT.out.2) (sorted_le HXs.out HT.out.2 hs (by have := HT.out.1; omega))), HR9, HG9⟩
        case measure => simp [intOf]; omega
      | false =>
        go_upto_region 17 with (fail)
        refine region_det (by kernel_rfl) (PairAt wr g (m * 2) (hh * 2) XX YY (.slice xa xn xc) (.slice ya yn yc)) (hst) (by kernel_rfl) ?_
        simp only [List.toList_toArray]
        repeat' (first
          | (refine det_shut (by rfl) ?_; (simp only [Act.put, List.setIfInBounds_toArray, List.set_cons_zero, List.set_cons_succ]))
          | (apply det_val; (case hw => rfl); (case hv => (intro w' hS; ((obtain ⟨s0, s1, s2, s3, s4, s5⟩ := hS); go_simp); first | done | with_reducible exact rfl)); (simp only [Act.put, List.setIfInBounds_toArray, List.set_cons_zero, List.set_cons_succ]))
          | (apply det_call; (case hw => rfl); (case hv => (intro w' hS; ((obtain ⟨s0, s1, s2, s3, s4, s5⟩ := hS); go_simp); first | done | with_reducible exact rfl | with_reducible exact ⟨rfl, rfl⟩)); (case hc => (intro w' hS; (first | (go_at_call 46; with_reducible exact (HCm.out w').mono (fun e w'' h => ⟨h.1, (PairAt.go hS h.2).2.2.2.2⟩))))); (simp only [Act.put, List.setIfInBounds_toArray, List.set_cons_zero, List.set_cons_succ]))
          | fail)
        intro w9 hS9
        have HR9 := Lib.hid (row_below HRr.out hS9.2.2.2.2.2)
        have HG9 := Lib.hid (grown_trans HGr.out (below_grownR hS9.2.2.2.2.2))
        clear hS9 hst
        go_wp2
        go_roundw
        case rel => exact ⟨hh + 1, jq, by omega, by omega, hjb, by go_num, rfl, Lib.hid (fun s hs h => gle_trans (sorted_le HXs.out hs HT.out.2 (by have := HT.out.1; omega)) (HG.out HT.out.2)), HHi, HR9, HG9⟩
        case measure => simp [intOf]; omega
    · obtain rfl : ip = jq := by omega
      have t1 : decide ((ip : Int) < (ip : Int)) = false := by simp
      obtain ⟨p, hp⟩ : ∃ p, p = ip - a := ⟨_, rfl⟩
      have hpl : p ≤ X.length := by have := HLn.out.2.2; have := HQ.out.1; omega
      have hmr := mrg_last (y := y) (X := X) (p := p) hpl (fun t h h1 => HLo.out t h (by omega)) (fun t h h1 => HHi.out t h (by omega))
      have HMr : Hid (A ++ (X.take p ++ y :: X.drop p) ++ C = A ++ mrgG X [y] ++ C) := Lib.hid (by rw [hmr])
      have HE : Hid (ip = a + p ∧ p ≤ X.length) := Lib.hid ⟨by omega, hpl⟩
      have HVx : Hid (slV (A ++ y :: (X ++ C))) := Lib.hid (slV_perm HV.out (fun r hr => by
        simp only [List.mem_append, List.mem_cons] at hr ⊢
        rcases hr with hr | hr | hr | hr
        · simp [hr]
        · simp [hr]
        · simp [hr]
        · simp [hr]))
      have HR0 : Hid (wr.ownsRow B 54 2 (.slice (some ⟨g, 0, none⟩) n cap) n (cellsP (A ++ (X.take nx ++ y :: X.drop nx) ++ C))) := Lib.hid (by have := HRr.out; rw [HLn.out.2.2, List.take_of_length_le (Nat.le_refl _), List.drop_of_length_le (Nat.le_refl _)]; simpa using this)
      have hmn : m < n := by have := HQ.out.2; omega
      clear hmr hp HLo HHi HRr hpl hmi hij hjb
      go_wp2
      go_loopw [17] (fun kk wr2 => ∃ i k : Nat, Hid (i = a + k) ∧ p ≤ k ∧ k ≤ nx ∧ kk = .int .i64 (i : Int) ∧ Hid (wr2.ownsRow B 54 2 (.slice (some ⟨g, 0, none⟩) n cap) n (cellsP (A ++ (X.take k ++ y :: X.drop k) ++ C))) ∧ Hid (w.grownBy wr2 (some g))) (fun kk wr2 => (intOf kk).toNat)
      case atStart => exact ⟨m, nx, Lib.hid HQ.out.1, by have := HE.out.2; have := HLn.out.2.2; omega, Nat.le_refl _, rfl, HR0, HGr⟩
      case round =>
        clear HGr
        obtain ⟨i, k, HI, hpk, hkn, rfl, HRr, HGr⟩ := hrel
        by_cases hlt2 : p < k
        · have t2 : decide ((ip : Int) < (i : Int)) = true := by have := HE.out.1; have := HI.out; simp; omega
          have t2' : decide (ip < i) = true := by have := HE.out.1; have := HI.out; simp; omega
          obtain ⟨k2, hk2⟩ : ∃ q, q = k - 1 := ⟨_, rfl⟩
          obtain ⟨j, hj⟩ : ∃ j, j = i - 1 := ⟨_, rfl⟩
          have hkk : k = k2 + 1 := by omega
          have hin : i < n := by have := HLn.out; have := HI.out; have := HQ.out; omega
          have hij : i = j + 1 := by have := HI.out; omega
          have hjn : j < n := by omega
          have r4 : IntKind.i64.wrap ((i : Int) - 1) = (j : Int) := by rw [IntKind.wrap_i64]; omega
          have hky : k2 < X.length := by have := HLn.out.2.2; omega
          have hja : j = A.length + k2 := by have := HLn.out.2.1; have := HI.out; omega
          subst hkk
          have hRl : n = (A ++ (X.take (k2 + 1) ++ y :: X.drop (k2 + 1)) ++ C).length := by rw [HLn.out.1]; simp; omega
          obtain ⟨gi, gj⟩ := pair_down (A := A) (C := C) (x := y) hky hja hij
          have hRv := slV_up (k2 + 1) HVx.out
          have hst := down_step (A := A) (C := C) (x := y) hky hja hij
          have HI2 : Hid (j = a + k2) := Lib.hid (by have := HI.out; omega)
          have HJ := Lib.hid hij
          obtain ⟨XX, YY, xa, xn, xc, ya, yn, yc, s0, s1, s2, s3, z0, z1, z2, z3, hsw, hgw⟩ := swap_at (i := i) (j := j) hRl gi gj (by omega) HRr.out hRv
          rw [hst] at hsw
          have HSw := Lib.hid hsw
          have HGw := Lib.hid hgw
          have q3 : (0 : Int) ≤ (i : Int) := by omega
          have q4 : (i : Int) < (n : Int) := by omega
          have q5 : (0 : Int) ≤ (j : Int) := by omega
          have q6 : (j : Int) < (n : Int) := by omega
          have n0 : (i * 2 = j * 2) = False := eq_false (by omega)
          have n1 : (i * 2 + 1 = j * 2) = False := eq_false (by omega)
          have n2 : (i * 2 = j * 2 + 1) = False := eq_false (by omega)
          have n3 : (j * 2 = i * 2) = False := eq_false (by omega)
          have n4 : (j * 2 = i * 2 + 1) = False := eq_false (by omega)
          have n5 : (j * 2 + 1 = i * 2) = False := eq_false (by omega)
          clear hsw hgw hst hRl hRv gi gj hj hij hja hk2
          go_upto_region 23 with (fail)
          go_region_law (fail)
          all_goals
            have hr10 := HSw.out
            have hg10 := HGw.out
            have hr11 := hr10.drew
            have hg11 := grown_trans HGr.out hg10
            generalize (((wr.setCell ⟨g, i * 2, none⟩ (.string YY)).setCell ⟨g, i * 2 + 1, none⟩ (.slice ya yn yc)).setCell ⟨g, j * 2, none⟩ (.string XX)).setCell ⟨g, j * 2 + 1, none⟩ (.slice xa xn xc) = W10 at hr11 hg11 ⊢
            have hg12 : w.grownBy W10.drew (some g) := ⟨hg11.os, hg11.tape, hg11.output, hg11.size, hg11.block⟩
            have HR12 := Lib.hid hr11
            have HG12 := Lib.hid hg12
            clear hr10 hg10 hr11 hg11 hg12 s0 s1 s2 s3 z0 z1 z2 z3
            go_wp2
            go_roundw
            case rel => exact ⟨j, k2, HI2, by omega, by omega, by first | rfl | (have e3 := HJ.out; simp [e3]) | go_num, HR12, HG12⟩
            case measure => (have e3 := HJ.out; simp [intOf]; omega)
        · obtain rfl : k = p := by omega
          have t2 : decide ((ip : Int) < (i : Int)) = false := by have := HE.out.1; have := HI.out; simp; omega
          have t2' : decide (ip < i) = false := by have := HE.out.1; have := HI.out; simp; omega
          have hend := HRr.out
          rw [HMr.out] at hend
          have HEn := Lib.hid hend
          clear hend
          go_wp2
          ((try simp only [Exit.inBlock, Exit.then]); refine bodyPost_ret (results_none rfl _ _ _) rfl ?_)
          exact ⟨rfl, HEn.out, HGr.out⟩
end Go.Proofs.YtlimajgmdhhggaaGreatDoor


namespace Go.Proofs.YtlimajgmdhhggaaGreatDoor
open Go.RowKit
set_option linter.unusedVariables false
set_option linter.unusedSimpArgs false

theorem wrapS {x : Int} {y : Nat} (h : x = (y : Int)) (h2 : y ≤ 1000000000) : IntKind.i64.wrap x = (y : Int) := by
  subst h
  rw [IntKind.wrap_i64]; omega
theorem wrapI {x : Int} (h : 0 ≤ x) (h2 : x ≤ 1000000000) : IntKind.i64.wrap x = x := by
  rw [IntKind.wrap_i64]; omega
theorem mrgG_length {β : Type} : ∀ (k : Nat) (X Y : List (KV β)), X.length + Y.length ≤ k → (mrgG X Y).length = X.length + Y.length
  | _, [], Y, _ => by rw [mrgG_nil]; simp
  | 0, x :: X, Y, h => by simp at h
  | k + 1, x :: X, [], _ => by rw [mrgG_nilR]; simp
  | k + 1, x :: X, y :: Y, h => by
    cases g : gtB x.1 y.1 with
    | true => rw [mrgG_gt g, List.length_cons, mrgG_length k (x :: X) Y (by simp at h ⊢; omega)]; simp; omega
    | false => rw [mrgG_le g, List.length_cons, mrgG_length k X (y :: Y) (by simp at h ⊢; omega)]; simp; omega
theorem mrgG_mem {β : Type} {z : KV β} : ∀ (k : Nat) (X Y : List (KV β)), X.length + Y.length ≤ k → z ∈ mrgG X Y → z ∈ X ∨ z ∈ Y
  | _, [], Y, _, hz => by rw [mrgG_nil] at hz; exact .inr hz
  | 0, x :: X, Y, h, _ => by simp at h
  | k + 1, x :: X, [], _, hz => by rw [mrgG_nilR] at hz; exact .inl hz
  | k + 1, x :: X, y :: Y, h, hz => by
    cases g : gtB x.1 y.1 with
    | true =>
      rw [mrgG_gt g] at hz
      rcases List.mem_cons.1 hz with hz | hz
      · exact .inr (by simp [hz])
      · rcases mrgG_mem k (x :: X) Y (by simp at h ⊢; omega) hz with hz | hz
        · exact .inl hz
        · exact .inr (List.mem_cons_of_mem _ hz)
    | false =>
      rw [mrgG_le g] at hz
      rcases List.mem_cons.1 hz with hz | hz
      · exact .inl (by simp [hz])
      · rcases mrgG_mem k X (y :: Y) (by simp at h ⊢; omega) hz with hz | hz
        · exact .inl (List.mem_cons_of_mem _ hz)
        · exact .inr hz
structure SymE (B g n cap : Nat) (X Y : List PT) (A C : List PT) (a m b mid st e s u : Nat) : Prop where
  rot : s < X.length → 0 < u → ∀ W : World, W.ownsRow B 54 2 (.slice (some ⟨g, 0, none⟩) n cap) n (cellsP (A ++ X ++ Y ++ C)) → Calls Tryz.prog 152 #[.slice (some ⟨g, 0, none⟩) n cap, .int .i64 st, .int .i64 m, .int .i64 e, .func (.func 46) #[] #[]] W fun z w' => z = .returned (.tuple #[]) ∧ w'.ownsRow B 54 2 (.slice (some ⟨g, 0, none⟩) n cap) n (cellsP (A ++ X.take s ++ Y.take u ++ X.drop s ++ Y.drop u ++ C)) ∧ W.grownBy w' (some g)
  norot : ¬ (s < X.length ∧ 0 < u) → ∀ W : World, W.ownsRow B 54 2 (.slice (some ⟨g, 0, none⟩) n cap) n (cellsP (A ++ X ++ Y ++ C)) → W.ownsRow B 54 2 (.slice (some ⟨g, 0, none⟩) n cap) n (cellsP (A ++ X.take s ++ Y.take u ++ X.drop s ++ Y.drop u ++ C))
  one : 0 < s → 0 < u → ∀ W : World, W.ownsRow B 54 2 (.slice (some ⟨g, 0, none⟩) n cap) n (cellsP (A ++ X.take s ++ Y.take u ++ X.drop s ++ Y.drop u ++ C)) → Calls Tryz.prog 122 #[.slice (some ⟨g, 0, none⟩) n cap, .int .i64 a, .int .i64 st, .int .i64 mid, .func (.func 46) #[] #[]] W fun z w' => z = .returned (.tuple #[]) ∧ w'.ownsRow B 54 2 (.slice (some ⟨g, 0, none⟩) n cap) n (cellsP (A ++ mrgG (X.take s) (Y.take u) ++ X.drop s ++ Y.drop u ++ C)) ∧ W.grownBy w' (some g)
  noone : ¬ (0 < s ∧ 0 < u) → ∀ W : World, W.ownsRow B 54 2 (.slice (some ⟨g, 0, none⟩) n cap) n (cellsP (A ++ X.take s ++ Y.take u ++ X.drop s ++ Y.drop u ++ C)) → W.ownsRow B 54 2 (.slice (some ⟨g, 0, none⟩) n cap) n (cellsP (A ++ mrgG (X.take s) (Y.take u) ++ X.drop s ++ Y.drop u ++ C))
  two : s < X.length → u < Y.length → ∀ W : World, W.ownsRow B 54 2 (.slice (some ⟨g, 0, none⟩) n cap) n (cellsP (A ++ mrgG (X.take s) (Y.take u) ++ X.drop s ++ Y.drop u ++ C)) → Calls Tryz.prog 122 #[.slice (some ⟨g, 0, none⟩) n cap, .int .i64 mid, .int .i64 e, .int .i64 b, .func (.func 46) #[] #[]] W fun z w' => z = .returned (.tuple #[]) ∧ w'.ownsRow B 54 2 (.slice (some ⟨g, 0, none⟩) n cap) n (cellsP (A ++ mrgG X Y ++ C)) ∧ W.grownBy w' (some g)
  notwo : ¬ (s < X.length ∧ u < Y.length) → ∀ W : World, W.ownsRow B 54 2 (.slice (some ⟨g, 0, none⟩) n cap) n (cellsP (A ++ mrgG (X.take s) (Y.take u) ++ X.drop s ++ Y.drop u ++ C)) → W.ownsRow B 54 2 (.slice (some ⟨g, 0, none⟩) n cap) n (cellsP (A ++ mrgG X Y ++ C))
theorem symE_of {B g n cap : Nat} {X Y A C : List PT} {a m b mid st e s u : Nat} (hl : n ≤ 1000000) (hX : sortedG X) (hY : sortedG Y) (IH : ∀ X' Y' : List PT, X'.length + Y'.length < X.length + Y.length → 0 < X'.length → 0 < Y'.length → sortedG X' → sortedG Y' → SymC B g n cap X' Y')
    (hn : n = A.length + X.length + Y.length + C.length) (ha : a = A.length) (hm : m = a + X.length) (hb : b = m + Y.length) (hs : s ≤ X.length) (hu : u ≤ Y.length) (hst : st = a + s) (hmid : mid = st + u) (he : e = m + u) (hsu : s + u < X.length + Y.length) (hsu0 : 0 < s + u) (hv : slV (A ++ X ++ Y ++ C))
    (hcut : mrgG X Y = mrgG (X.take s) (Y.take u) ++ mrgG (X.drop s) (Y.drop u)) : SymE B g n cap X Y A C a m b mid st e s u := by
  have e1 : A ++ X ++ Y ++ C = A ++ X.take s ++ X.drop s ++ Y.take u ++ (Y.drop u ++ C) := by
    conv => lhs; rw [← List.take_append_drop s X, ← List.take_append_drop u Y]
    simp only [List.append_assoc]
  have lx1 : (X.take s).length = s := by rw [List.length_take]; omega
  have lx2 : (X.drop s).length = X.length - s := by rw [List.length_drop]
  have ly1 : (Y.take u).length = u := by rw [List.length_take]; omega
  have ly2 : (Y.drop u).length = Y.length - u := by rw [List.length_drop]
  have lm1 := mrgG_length _ (X.take s) (Y.take u) (Nat.le_refl _)
  have v2 : slV (A ++ X.take s ++ Y.take u ++ X.drop s ++ Y.drop u ++ C) := slV_perm hv (fun r hr => by
    simp only [List.mem_append] at hr ⊢
    rcases hr with ((((hr | hr) | hr) | hr) | hr) | hr
    · simp [hr]
    · simp [List.mem_of_mem_take hr]
    · simp [List.mem_of_mem_take hr]
    · simp [List.mem_of_mem_drop hr]
    · simp [List.mem_of_mem_drop hr]
    · simp [hr])
  have v3 : slV (A ++ mrgG (X.take s) (Y.take u) ++ X.drop s ++ Y.drop u ++ C) := slV_perm v2 (fun r hr => by
    simp only [List.mem_append] at hr ⊢
    rcases hr with (((hr | hr) | hr) | hr) | hr
    · simp [hr]
    · rcases mrgG_mem _ _ _ (Nat.le_refl _) hr with hr | hr <;> simp [hr]
    · simp [hr]
    · simp [hr]
    · simp [hr])
  refine ⟨fun h1 h2 W hW => ?_, fun h W hW => ?_, fun h1 h2 W hW => ?_, fun h W hW => ?_, fun h1 h2 W hW => ?_, fun h W hW => ?_⟩
  · rw [e1] at hW hv
    have hr := rotate_any (A ++ X.take s) (X.drop s) (Y.take u) (Y.drop u ++ C) B g n cap st m e W (by simp only [List.length_append, lx1, lx2, ly1, ly2]; omega) hl (by simp only [List.length_append, lx1]; omega) (by simp only [List.length_append, lx1, lx2]; omega) (by simp only [List.length_append, lx1, lx2, ly1]; omega) (by omega) (by omega) hW hv
    rw [show A ++ X.take s ++ Y.take u ++ X.drop s ++ (Y.drop u ++ C) = A ++ X.take s ++ Y.take u ++ X.drop s ++ Y.drop u ++ C from by simp only [List.append_assoc]] at hr
    exact hr
  · rw [e1] at hW
    have e2 : A ++ X.take s ++ X.drop s ++ Y.take u ++ (Y.drop u ++ C) = A ++ X.take s ++ Y.take u ++ X.drop s ++ Y.drop u ++ C := by
      rcases (show s = X.length ∨ u = 0 by omega) with h | h
      · subst h; simp only [List.take_length, List.drop_length, List.append_nil, List.nil_append, List.append_assoc]
      · subst h; simp only [List.take_zero, List.drop_zero, List.append_nil, List.nil_append, List.append_assoc]
    rw [e2] at hW
    exact hW
  · have hr := IH (X.take s) (Y.take u) (by omega) (by omega) (by omega) (sorted_take hX s) (sorted_take hY u) A (X.drop s ++ Y.drop u ++ C) a st mid W (by simp only [List.length_append, lx1, lx2, ly1, ly2]; omega) ha (by omega) (by omega) (by simpa only [List.append_assoc] using hW) (by simpa only [List.append_assoc] using v2)
    simpa only [List.append_assoc] using hr
  · have e2 : mrgG (X.take s) (Y.take u) = X.take s ++ Y.take u := by
      rcases (show s = 0 ∨ u = 0 by omega) with h | h
      · subst h; rw [List.take_zero, mrgG_nil]; rfl
      · subst h; rw [List.take_zero, mrgG_nilR, List.append_nil]
    rw [e2]
    simpa only [List.append_assoc] using hW
  · have hr := IH (X.drop s) (Y.drop u) (by omega) (by omega) (by omega) (sorted_drop hX s) (sorted_drop hY u) (A ++ mrgG (X.take s) (Y.take u)) C mid e b W (by simp only [List.length_append, lm1, lx1, lx2, ly1, ly2]; omega) (by simp only [List.length_append, lm1, lx1, ly1]; omega) (by simp only [List.length_append, lm1, lx1, lx2, ly1]; omega) (by simp only [List.length_append, lm1, lx1, lx2, ly1, ly2]; omega) hW v3
    rw [show A ++ mrgG (X.take s) (Y.take u) ++ mrgG (X.drop s) (Y.drop u) ++ C = A ++ mrgG X Y ++ C from by rw [hcut]; simp only [List.append_assoc]] at hr
    exact hr
  · rw [hcut]
    have e2 : mrgG (X.drop s) (Y.drop u) = X.drop s ++ Y.drop u := by
      rcases (show s = X.length ∨ u = Y.length by omega) with h | h
      · subst h; rw [List.drop_length, mrgG_nil]; rfl
      · subst h; rw [List.drop_length, mrgG_nilR, List.append_nil]
    rw [e2]
    simpa only [List.append_assoc] using hW
end Go.Proofs.YtlimajgmdhhggaaGreatDoor


namespace Go.Proofs.YtlimajgmdhhggaaGreatDoor
open Go.RowKit
set_option linter.unusedVariables false
set_option linter.unusedSimpArgs false

theorem swapG_swap2 {α : Type} (R : List α) (j : Nat) : swapG R j = swap2 R j (j + 1) := rfl
theorem swap_mid {α : Type} {A R C : List α} {m i j : Nat} (hm : m + 1 < R.length) (hj : j = A.length + m) (hi : i = j + 1) : swap2 (A ++ R ++ C) i j = A ++ swapG R m ++ C := by
  have hs := swap2_at (A ++ R.take m) [] (R.drop (m + 1 + 1) ++ C) (R[m]'(by omega)) R[m + 1]
  have hl : (A ++ R.take m).length = j := by simp; omega
  rw [hl] at hs
  have hs2 := swap2_at (R.take m) [] (R.drop (m + 1 + 1)) (R[m]'(by omega)) R[m + 1]
  have hl2 : (R.take m).length = m := by simp; omega
  rw [hl2] at hs2
  have e1 : R = R.take m ++ R[m]'(by omega) :: R[m + 1] :: R.drop (m + 1 + 1) := by
    conv => lhs; rw [← List.take_append_drop m R, List.drop_eq_getElem_cons (show m < R.length by omega), List.drop_eq_getElem_cons hm]
  have e2 : swapG R m = R.take m ++ R[m + 1] :: R[m]'(by omega) :: R.drop (m + 1 + 1) := by
    rw [swapG_swap2]
    simp only [List.nil_append, List.length_nil, Nat.add_zero] at hs2
    rw [← e1] at hs2
    exact hs2
  rw [swap2_comm _ _ _ (by omega), hi, e2]
  simp only [List.append_assoc, List.cons_append, List.nil_append, List.length_nil, Nat.add_zero] at hs ⊢
  rw [← hs]
  congr 1
  conv => lhs; rw [e1]
  simp only [List.append_assoc, List.cons_append]
theorem get_mid {α : Type} {A R C : List α} {m i : Nat} (hm : m < R.length) (hi : i = A.length + m) : (A ++ R ++ C)[i]? = some R[m] := by
  subst hi
  rw [List.append_assoc, List.getElem?_append_right (by omega), show A.length + m - A.length = m from by omega, List.getElem?_append_left hm]
  simp [hm]
def InsI (w : World) (A S C : List PT) (B g n cap : Nat) (k m : Nat) (wx : World) : Prop := ∃ R : List PT, Hid (R.length = S.length) ∧ Hid (slV (A ++ R ++ C)) ∧ Hid (bubG (fun r => r.1) m R = srtG (fun r => r.1) (k + 1) S) ∧ Hid (wx.ownsRow B 54 2 (.slice (some ⟨g, 0, none⟩) n cap) n (cellsP (A ++ R ++ C))) ∧ Hid (w.grownBy wx (some g))
set_option maxRecDepth 100000 in
set_option maxHeartbeats 8000000 in
theorem insertO_any (A S C : List PT) (B g n cap a b : Nat) (w : World) (hn : n = (A ++ S ++ C).length) (hl : n ≤ 1000000) (ha : a = A.length) (hb : b = A.length + S.length) (h : w.ownsRow B 54 2 (.slice (some ⟨g, 0, none⟩) n cap) n (cellsP (A ++ S ++ C))) (hv : slV (A ++ S ++ C)) :
    Calls Tryz.prog 121 #[.slice (some ⟨g, 0, none⟩) n cap, .int .i64 a, .int .i64 b, .func (.func 46) #[] #[]] w fun e w' => e = .returned (.tuple #[]) ∧ w'.ownsRow B 54 2 (.slice (some ⟨g, 0, none⟩) n cap) n (cellsP (A ++ sortG S ++ C)) ∧ w.grownBy w' (some g) := by
  have hn0 := hn
  simp only [List.length_append] at hn
  obtain ⟨ns, hns⟩ : ∃ k, k = S.length := ⟨_, rfl⟩
  obtain ⟨a1, ha1⟩ : ∃ k, k = a + 1 := ⟨_, rfl⟩
  have q1 : IntKind.i64.wrap ((a : Int) + 1) = (a1 : Int) := wrapS (by omega) (by omega)
  have hab : a ≤ b := by omega
  have hbn : b ≤ n := by omega
  have HQ := Lib.hid (And.intro hn (And.intro ha (And.intro (show b = a + ns by omega) (And.intro hns ha1))))
  have HR := Lib.hid h
  have HV := Lib.hid hv
  have HN0 := Lib.hid hn0
  clear h hv hn ha hb hns ha1 hn0
  go_enter Tryz.func121, Tryz.ntmps121
  go_wp2
  go_loopw [8] (fun i wr => ∃ i0 k : Nat, Hid (i0 = a + 1 + k ∧ (k + 1 ≤ ns ∨ k = 0)) ∧ i = .int .i64 (i0 : Int) ∧ Hid (slV (A ++ srtG (fun r => r.1) k S ++ C)) ∧ Hid (wr.ownsRow B 54 2 (.slice (some ⟨g, 0, none⟩) n cap) n (cellsP (A ++ srtG (fun r => r.1) k S ++ C))) ∧ Hid (w.grownBy wr (some g))) (fun i wr => n + 1 - (intOf i).toNat)
  case atStart => exact ⟨a1, 0, Lib.hid ⟨HQ.out.2.2.2.2, .inr rfl⟩, rfl, HV, HR, Lib.hid (grown_refl _ _)⟩
  case round =>
    obtain ⟨i0, k, HK, rfl, HVk, HRk, HGk⟩ := hrel
    by_cases hlt : i0 < b
    · have t1 : decide ((i0 : Int) < (b : Int)) = true := by simp; omega
      have t1' : decide (i0 < b) = true := by simpa using hlt
      go_wp2
      go_loopw [9] (fun i wx => ∃ j0 m : Nat, Hid (j0 = a + m ∧ m ≤ k + 1) ∧ i = .int .i64 (j0 : Int) ∧ InsI w A S C B g n cap k m wx) (fun i wx => (intOf i).toNat)
      case atStart => exact ⟨i0, k + 1, Lib.hid ⟨by have := HK.out.1; omega, Nat.le_refl _⟩, rfl, srtG (fun r => r.1) k S, Lib.hid (srtG_length _ _ _), HVk, Lib.hid rfl, HRk, HGk⟩
      case round =>
        obtain ⟨j, m, HM, rfl, R, HLn, HVr, HBu, HRr, HGr⟩ := hrel
        by_cases hm0 : j ≤ a
        · have t2 : decide ((a : Int) < (j : Int)) = false := by simp; omega
          have t2' : decide (a < j) = false := by simp; omega
          have hmz : m = 0 := by have := HM.out.1; omega
          go_upto_region 4 with (fail)
          refine region_det (by kernel_rfl) (fun w' => w' = wr.drew) (rfl) (by kernel_rfl) ?_
          simp only [List.toList_toArray]
          repeat' (first
            | (refine det_shut (by rfl) ?_; (simp only [Act.put, List.setIfInBounds_toArray, List.set_cons_zero, List.set_cons_succ]))
            | (apply det_val; (case hw => rfl); (case hv => (intro w' hS; (subst hS); go_simp; first | done | with_reducible exact rfl)); (simp only [Act.put, List.setIfInBounds_toArray, List.set_cons_zero, List.set_cons_succ]))
            | (apply det_call; (case hw => rfl); (case hv => (intro w' hS; (subst hS); go_simp; first | done | with_reducible exact rfl | with_reducible exact ⟨rfl, rfl⟩)); (case hc => (intro w' hS; (first | (go_at_call 46; with_reducible exact absurd hS id)))); (simp only [Act.put, List.setIfInBounds_toArray, List.set_cons_zero, List.set_cons_succ]))
            | fail)
          intro w9 hw9
          subst hw9
          have hr9 : wr.drew.ownsRow B 54 2 (.slice (some ⟨g, 0, none⟩) n cap) n (cellsP (A ++ srtG (fun r => r.1) (k + 1) S ++ C)) := by
            have hb := HBu.out
            rw [hmz] at hb
            rw [← hb]
            exact HRr.out.drew
          have hv9 : slV (A ++ srtG (fun r => r.1) (k + 1) S ++ C) := by
            have hb := HBu.out
            rw [hmz] at hb
            rw [← hb]
            exact HVr.out
          have hg9 : w.grownBy wr.drew (some g) := ⟨HGr.out.os, HGr.out.tape, HGr.out.output, HGr.out.size, HGr.out.block⟩
          have HR9 := Lib.hid hr9
          have HV9 := Lib.hid hv9
          have HG9 := Lib.hid hg9
          have HK9 : Hid (i0 + 1 = a + 1 + (k + 1) ∧ (k + 1 + 1 ≤ ns ∨ k + 1 = 0)) := Lib.hid ⟨by have := HK.out.1; omega, .inl (by have := HK.out.1; have := HQ.out.2.2.1; omega)⟩
          clear hr9 hv9 hg9 hmz
          go_wp2
          go_roundw
          case rel => exact ⟨i0 + 1, k + 1, HK9, by first | rfl | go_num, HV9, HR9, HG9⟩
          case measure => simp [intOf]; omega
        · obtain ⟨m2, hm2⟩ : ∃ q, m = q + 1 := ⟨m - 1, by have := HM.out.1; omega⟩
          subst hm2
          obtain ⟨j2, hj2⟩ : ∃ q, q = j - 1 := ⟨_, rfl⟩
          have hjj : j = j2 + 1 := by omega
          have hmR : m2 + 1 < R.length := by have := HLn.out; have := HK.out; have := HM.out; have := HQ.out; omega
          have hjn : j < n := by have := HLn.out; have := HM.out; have := HQ.out; omega
          have hja : j2 = A.length + m2 := by have := HM.out; have := HQ.out; omega
          have hRl : n = (A ++ R ++ C).length := by have := HLn.out; have := HQ.out.1; simp only [List.length_append]; omega
          have gi := get_mid (A := A) (C := C) hmR (show j = A.length + (m2 + 1) by omega)
          have gj := get_mid (A := A) (C := C) (show m2 < R.length by omega) hja
          obtain ⟨XX, YY, xa, xn, xc, ya, yn, yc, hri, hrj, hst, hcg⟩ := row_pair hRl gi gj HRr.out HVr.out
          have hsw := swap_mid (A := A) (C := C) hmR hja hjj
          obtain ⟨I, hI⟩ : ∃ I, I = Extern.BytealgCompare.cmp XX YY := ⟨_, rfl⟩
          have hcm := fun W => typesCmp_any XX YY (.slice xa xn xc) (.slice ya yn yc) W
          simp only [← hI] at hcm
          rw [← hI] at hcg
          have HCm := Lib.hid hcm
          have t2 : decide ((a : Int) < (j : Int)) = true := by simp; omega
          have t2' : decide (a < j) = true := by simp; omega
          have r4 : IntKind.i64.wrap ((j : Int) - 1) = (j2 : Int) := wrapS (by omega) (by omega)
          have k0 : (0 : Int) ≤ (j : Int) := by omega
          have k1 : (j : Int) < (n : Int) := by omega
          have k2 : (0 : Int) ≤ (j2 : Int) := by omega
          have k3 : (j2 : Int) < (n : Int) := by omega
          obtain ⟨gg, hgg⟩ : ∃ b, decide (I < 0) = b := ⟨_, rfl⟩
          have HG := Lib.hid (hcg.symm.trans hgg)
          have HP := Lib.hid (And.intro hRl (And.intro gi (And.intro gj (And.intro hsw (And.intro hjj hmR)))))
          clear hri hrj hcm hI hcg hRl gi gj hsw hj2 hjj hja
          cases gg with
          | true =>
            go_upto_region 4 with (fail)
            refine region_det (by kernel_rfl) (PairAt wr g (j * 2) (j2 * 2) XX YY (.slice xa xn xc) (.slice ya yn yc)) (hst) (by kernel_rfl) ?_
            simp only [List.toList_toArray]
            repeat' (first
              | (refine det_shut (by rfl) ?_; (simp only [Act.put, List.setIfInBounds_toArray, List.set_cons_zero, List.set_cons_succ]))
              | (apply det_val; (case hw => rfl); (case hv => (intro w' hS; ((obtain ⟨s0, s1, s2, s3, s4, s5⟩ := hS); go_simp); first | done | with_reducible exact rfl)); (simp only [Act.put, List.setIfInBounds_toArray, List.set_cons_zero, List.set_cons_succ]))
              | (apply det_call; (case hw => rfl); (case hv => (intro w' hS; ((obtain ⟨s0, s1, s2, s3, s4, s5⟩ := hS); go_simp); first | done | with_reducible exact rfl | with_reducible exact ⟨rfl, rfl⟩)); (case hc => (intro w' hS; (first | (go_at_call 46; with_reducible exact (HCm.out w').mono (fun e w'' h => ⟨h.1, (PairAt.go hS h.2).2.2.2.2⟩))))); (simp only [Act.put, List.setIfInBounds_toArray, List.set_cons_zero, List.set_cons_succ]))
              | fail)
            intro w9 hS9
            have hr9 := row_below HRr.out hS9.2.2.2.2.2
            have HGr := Lib.hid (grown_trans HGr.out (below_grownR hS9.2.2.2.2.2))
            have HRr := Lib.hid hr9
            clear hS9 hst hr9
            have hjj := HP.out.2.2.2.2.1
            obtain ⟨XX', YY', xa', xn', xc', ya', yn', yc', s0, s1, s2, s3, z0, z1, z2, z3, hsw, hgw⟩ := swap_at (i := j) (j := j2) HP.out.1 HP.out.2.1 HP.out.2.2.1 (by omega) HRr.out HVr.out
            rw [HP.out.2.2.2.1] at hsw
            have HSw := Lib.hid hsw
            have HGw := Lib.hid hgw
            have n0 : (j * 2 = j2 * 2) = False := eq_false (by omega)
            have n1 : (j * 2 + 1 = j2 * 2) = False := eq_false (by omega)
            have n2 : (j * 2 = j2 * 2 + 1) = False := eq_false (by omega)
            have n3 : (j2 * 2 = j * 2) = False := eq_false (by omega)
            have n4 : (j2 * 2 = j * 2 + 1) = False := eq_false (by omega)
            have n5 : (j2 * 2 + 1 = j * 2) = False := eq_false (by omega)
            have HB12 : Hid (bubG (fun r => r.1) m2 (swapG R m2) = srtG (fun r => r.1) (k + 1) S) := Lib.hid (by rw [← HBu.out, bubG_go HP.out.2.2.2.2.2 ((cmp_gtB _ _).2 HG.out)])
            have HL12 : Hid ((swapG R m2).length = S.length) := Lib.hid (by rw [swapG_length]; exact HLn.out)
            have HV12 : Hid (slV (A ++ swapG R m2 ++ C)) := Lib.hid (slV_perm HVr.out (fun r hr => by
              simp only [List.mem_append] at hr ⊢
              rcases hr with (hr | hr) | hr
              · simp [hr]
              · simp [swapG_mem hr]
              · simp [hr]))
            have HM12 : Hid (j2 = a + m2 ∧ m2 ≤ k + 1) := Lib.hid (by have := HM.out; omega)
            have HJ := Lib.hid hjj
            clear hsw hgw hjj
            go_upto_region 6 with (fail)
            go_region_law (fail)
            all_goals
              have hr10 := HSw.out
              have hg10 := HGw.out
              have hr11 := hr10.drew
              have hg11 := grown_trans HGr.out hg10
              generalize (((w9.setCell ⟨g, j * 2, none⟩ (.string YY')).setCell ⟨g, j * 2 + 1, none⟩ (.slice ya' yn' yc')).setCell ⟨g, j2 * 2, none⟩ (.string XX')).setCell ⟨g, j2 * 2 + 1, none⟩ (.slice xa' xn' xc') = W10 at hr11 hg11 ⊢
              have hg12 : w.grownBy W10.drew (some g) := ⟨hg11.os, hg11.tape, hg11.output, hg11.size, hg11.block⟩
              have HR12 := Lib.hid hr11
              have HG12 := Lib.hid hg12
              clear hr10 hg10 hr11 hg11 hg12 s0 s1 s2 s3 z0 z1 z2 z3
              go_wp2
              go_roundw
              case rel => exact ⟨j2, m2, HM12, by first | rfl | go_num, swapG R m2, HL12, HV12, HB12, HR12, HG12⟩
              case measure => (have e3 := HJ.out; simp [intOf]; omega)
          | false =>
            go_upto_region 4 with (fail)
            refine region_det (by kernel_rfl) (PairAt wr g (j * 2) (j2 * 2) XX YY (.slice xa xn xc) (.slice ya yn yc)) (hst) (by kernel_rfl) ?_
            simp only [List.toList_toArray]
            repeat' (first
              | (refine det_shut (by rfl) ?_; (simp only [Act.put, List.setIfInBounds_toArray, List.set_cons_zero, List.set_cons_succ]))
              | (apply det_val; (case hw => rfl); (case hv => (intro w' hS; ((obtain ⟨s0, s1, s2, s3, s4, s5⟩ := hS); go_simp); first | done | with_reducible exact rfl)); (simp only [Act.put, List.setIfInBounds_toArray, List.set_cons_zero, List.set_cons_succ]))
              | (apply det_call; (case hw => rfl); (case hv => (intro w' hS; ((obtain ⟨s0, s1, s2, s3, s4, s5⟩ := hS); go_simp); first | done | with_reducible exact rfl | with_reducible exact ⟨rfl, rfl⟩)); (case hc => (intro w' hS; (first | (go_at_call 46; with_reducible exact (HCm.out w').mono (fun e w'' h => ⟨h.1, (PairAt.go hS h.2).2.2.2.2⟩))))); (simp only [Act.put, List.setIfInBounds_toArray, List.set_cons_zero, List.set_cons_succ]))
              | fail)
            intro w9 hS9
            have hb := HBu.out
            rw [bubG_stop HP.out.2.2.2.2.2 (by intro h; rw [(cmp_gtB _ _).1 h] at HG; exact absurd HG.out (by simp))] at hb
            have HR9 : Hid (w9.ownsRow B 54 2 (.slice (some ⟨g, 0, none⟩) n cap) n (cellsP (A ++ srtG (fun r => r.1) (k + 1) S ++ C))) := Lib.hid (by rw [← hb]; exact row_below HRr.out hS9.2.2.2.2.2)
            have HV9 : Hid (slV (A ++ srtG (fun r => r.1) (k + 1) S ++ C)) := Lib.hid (by rw [← hb]; exact HVr.out)
            have HG9 := Lib.hid (grown_trans HGr.out (below_grownR hS9.2.2.2.2.2))
            have HK9 : Hid (i0 + 1 = a + 1 + (k + 1) ∧ (k + 1 + 1 ≤ ns ∨ k + 1 = 0)) := Lib.hid ⟨by have := HK.out.1; omega, .inl (by have := HK.out.1; have := HQ.out.2.2.1; omega)⟩
            clear hS9 hst hb
            go_wp2
            go_roundw
            case rel => exact ⟨i0 + 1, k + 1, HK9, by first | rfl | go_num, HV9, HR9, HG9⟩
            case measure => simp [intOf]; omega
    · have t1 : decide ((i0 : Int) < (b : Int)) = false := by simp; omega
      have t1' : decide (i0 < b) = false := by simp; omega
      have hke : k = S.length - 1 := by have := HK.out; have := HQ.out; omega
      have HE : Hid (wr.ownsRow B 54 2 (.slice (some ⟨g, 0, none⟩) n cap) n (cellsP (A ++ sortG S ++ C))) := Lib.hid (by have := HRk.out; rw [hke] at this; exact this)
      clear hke
      go_wp2
      go_end0
      exact ⟨rfl, HE.out, HGk.out⟩
end Go.Proofs.YtlimajgmdhhggaaGreatDoor

