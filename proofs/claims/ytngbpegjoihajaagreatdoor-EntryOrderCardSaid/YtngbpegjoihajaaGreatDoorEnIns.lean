/- slices.Insert of one attribute into a row of the call's own: the walk. -/
import Derived.Test.YtngbpegjoihajaaGreatDoorEnIdx
import Derived.Shelf.Spec.SlicesInsert
import Derived.Lib.AppendZerosOnto
import Derived.Laws.NewBlocks
namespace Go.Proofs.YtngbpegjoihajaaGreatDoor
open Go.RowKit
set_option linter.unusedVariables false

theorem sizeA : (Tryz.prog.info? 42).map (·.size) = some 2 := by kernel_rfl
theorem run_copy_attr (w : World) (ty : TypeId) (g o dLen dCap : Nat) (a : Addr) (sLen sCap : Nat) (cur : Array Value) (t : TypeId) (cs : List Value)
    (hg : w.heap[g]? = some (.cells cur t (0, 0))) (hn : cs.length = Nat.min sLen dLen * 2)
    (hsrc : ∀ j v, cs[j]? = some v → w.cell? (a.add j) = some v) (hfit : o + cs.length ≤ cur.size) (h1 : ∀ v ∈ cs, v.oneCell' = true) :
    (Builtin.copy_ #[22, 22] ty #[.slice (some ⟨g, o, none⟩) dLen dCap, .slice (some a) sLen sCap]).run Tryz.prog w =
      .ok (goInt (Nat.min sLen dLen)) (w.setRow g (cur.toList.take o ++ cs ++ cur.toList.drop (o + cs.length)).toArray) := by
  have hl := run_loadCells_list (P := Tryz.prog) w a cs hsrc
  have hst := run_storeCells_at Tryz.prog g o t cs 0 cur w hg (by simpa using hfit) h1
  have hu : Tryz.prog.underlying 22 = some (.slice 42) := Tryz.underlying22
  have hs := sizeA
  cases hq : Tryz.prog.info? 42 with
  | none => simp [hq] at hs
  | some i =>
    have hi : i.size = 2 := by simpa [hq] using hs
    simp [Builtin.copy_, run_underlying hu, Builtin.lenOf, Builtin.firstCells, sizeOf, typeInfo, hq, hi, ← hn, hl, hst]

/-- What Insert leaves: the list with one more, in the row or in a new one; nothing else is turned. -/
def InsW (B : Nat) (w : World) (ob : Option Nat) (Q : List PT) (e : Ending) (w' : World) : Prop := ∃ v', e = .returned v' ∧ RowP B w' v' Q ∧ w.grownBy w' ob ∧ (v'.ownBlock = ob ∨ v'.ownBlock = some w.heap.size)

set_option maxRecDepth 100000 in
set_option maxHeartbeats 4000000 in
theorem insert_end (P : List PT) (v : Value) (B : Nat) (X : ByteArray) (u : Value) (hu1 : u.oneCell' = true) (vb : Nat) (w : World) (hrow : RowP B w v P) (hP : P.length + 1 ≤ 1000000) (hB : B ≤ w.heap.size)
    (h0 : w.cell? ⟨vb, 0, none⟩ = some (.string X)) (h1 : w.cell? ⟨vb, 1, none⟩ = some u) :
    Calls Tryz.prog 105 #[v, .int .i64 P.length, .slice (some ⟨vb, 0, none⟩) 1 1] w (InsW B w v.ownBlock (P ++ [(X.data.toList, u)])) := by
  obtain ⟨i0, hi, hz0, hz1, hz2⟩ := info_parts infoA
  have hnews : ∀ j x, [Value.string X, u][j]? = some x → w.cell? ((⟨vb, 0, none⟩ : Addr).add j) = some x := by
    intro j x hj
    match j, hj with
    | 0, hj => simp at hj; subst hj; simpa [Addr.add] using h0
    | 1, hj => simp at hj; subst hj; simpa [Addr.add] using h1
  have HNews := Lib.hid hnews
  have HRow := Lib.hid hrow
  obtain ⟨ob, hob⟩ : ∃ ob, v.ownBlock = ob := ⟨_, rfl⟩
  rw [hob]
  have HOb := Lib.hid hob
  obtain ⟨sa, sc, hv⟩ := rowP_slice hrow
  have hcap : P.length ≤ sc ∧ sc ≤ 9223372036854775807 ∧ (sa = none → P.length = 0 ∧ sc = 0) := by
    rcases hrow.2 with ⟨e1, hz⟩ | ⟨g, cap, cur, e1, _, _, h2, h3, _⟩
    · rw [hv] at e1; simp only [Value.slice.injEq] at e1; obtain ⟨rfl, e2, rfl⟩ := e1; exact ⟨by omega, by omega, fun _ => ⟨e2, rfl⟩⟩
    · rw [hv] at e1; simp only [Value.slice.injEq] at e1; obtain ⟨rfl, e2, rfl⟩ := e1; exact ⟨h2, by unfold maxLen at h3; omega, fun h => by cases h⟩
  obtain ⟨hc1, hc2, hc3⟩ := hcap
  obtain ⟨pn, hpn⟩ : ∃ n, n = P.length := ⟨_, rfl⟩
  have HPn := Lib.hid hpn
  have hPP := hP
  rw [← hpn] at hv hc1 hc3 hP ⊢
  subst hv
  clear hnews hrow h0 h1 hpn hob
  go_enter Tryz.func105, Tryz.ntmps105
  go_wp2_with (at_builtin; refine wpList_append_own_at _ rfl (.tmp 23) (.tmp 24) 22 rfl B 42 i0 (.agg #[.string ⟨#[]⟩, .slice none 0 0]) 2 40 Tryz.underlying22 hi hz0 hz1 hz2 rfl (by decide) (.slice sa pn sc) P.length (cellsP P) rfl HRow.out ⟨vb, 0, none⟩ 1 1 [.string X, u] rfl rfl HNews.out (by intro u' hu'; simp at hu'; rcases hu' with rfl | rfl; rfl; exact hu1) (by unfold maxLen; omega) (by omega) hB ?_; intro v5 w5 hown5 hgrow5 _ hat5; have HO5 := Lib.hid hown5; have HG5 := Lib.hid hgrow5; have HT5 := Lib.hid hat5; rw [HOb.out] at HG5 HT5; clear hown5 hgrow5 hat5)
  all_goals
    go_ret
    refine ⟨_, rfl, ?_, HG5.out, HT5.out⟩
    unfold RowP
    rw [List.length_append, cellsP_append]
    show World.ownsRow _ _ _ _ _ (P.length + 1) (cellsP P ++ [strV X.data.toList, u])
    rw [strV_whole]
    exact HO5.out

theorem cellsP_take : ∀ (P : List PT) (i : Nat), (cellsP P).take (i * 2) = cellsP (P.take i)
  | [], i => by simp [cellsP]
  | r :: P, 0 => by simp [cellsP]
  | r :: P, i + 1 => by
    rw [show (i + 1) * 2 = i * 2 + 2 from by omega]
    show _ :: _ :: (cellsP P).take (i * 2) = _
    rw [cellsP_take P i]; rfl
theorem cellsP_drop : ∀ (P : List PT) (i : Nat), (cellsP P).drop (i * 2) = cellsP (P.drop i)
  | [], i => by simp [cellsP]
  | r :: P, 0 => by simp [cellsP]
  | r :: P, i + 1 => by
    rw [show (i + 1) * 2 = i * 2 + 2 from by omega]
    show (cellsP P).drop (i * 2) = _
    rw [cellsP_drop P i]; rfl
theorem shift_row {α : Type} {C cur : List α} {k : Nat} {x y : α} (hC : cur.take C.length = C) (hk : k ≤ C.length) (hroom : C.length + 2 ≤ cur.length) :
    let A1 := cur.take (k + 2) ++ C.drop k ++ cur.drop (k + 2 + (C.drop k).length)
    A1.length = cur.length ∧ ∃ r, A1.take k ++ [x, y] ++ A1.drop (k + 2) = (C.take k ++ [x, y] ++ C.drop k) ++ r ∧ (A1.take k ++ [x, y] ++ A1.drop (k + 2)).length = cur.length := by
  have hCl : C.length ≤ cur.length := by omega
  have e0 : cur.take k = C.take k := by
    have := congrArg (List.take k) hC
    rwa [List.take_take, Nat.min_eq_left hk] at this
  have e1 : (cur.take (k + 2)).length = k + 2 := by rw [List.length_take]; omega
  have e2 : (C.drop k).length = C.length - k := List.length_drop
  refine ⟨by simp; omega, cur.drop (k + 2 + (C.drop k).length), ?_, by simp; omega⟩
  have f1 : (cur.take (k + 2) ++ C.drop k ++ cur.drop (k + 2 + (C.drop k).length)).take k = C.take k := by
    rw [List.append_assoc, List.take_append_of_le_length (by omega), List.take_take, Nat.min_eq_left (by omega), e0]
  have f2 : (cur.take (k + 2) ++ C.drop k ++ cur.drop (k + 2 + (C.drop k).length)).drop (k + 2) = C.drop k ++ cur.drop (k + 2 + (C.drop k).length) := by
    rw [List.append_assoc, List.drop_left' e1]
  rw [f1, f2]
  simp

theorem overlaps_no (w : World) (vb g o lb cb kB : Nat) (cv cur : Array Value) (hne : vb ≠ g) (hv : w.heap[vb]? = some (.cells cv 42 (0, 0))) (hg : w.heap[g]? = some (.cells cur 42 (0, 0))) (hk : cur.size ≠ 0) :
    (callFunc 133 #[.slice (some ⟨vb, 0, none⟩) 1 1, .slice (some ⟨g, o, none⟩) lb cb]).run Tryz.prog w = .ok (.value (.bool false)) w := by
  rw [run_callFunc_extern Tryz.func133 (by kernel_rfl) (by kernel_rfl) (by kernel_rfl) (e := Extern.SlicesOverlaps.overlaps #[22, 22] #[4]) (by kernel_rfl),
    Lib.run_overlaps_apart w 22 4 42 Tryz.underlying22 2 Tryz.sizeOf42 ⟨vb, 0, none⟩ ⟨g, o, none⟩ 1 1 lb cb hne 42 42 cv.size cur.size (by simp [World.shape?, hv]) (by simp [World.shape?, hg]) hk (by simp [World.frozen?, hv]) (by simp [World.frozen?, hv])]
  rfl

set_option maxRecDepth 100000 in
set_option maxHeartbeats 4000000 in
theorem insert_shift (P : List PT) (B g cap i vb : Nat) (cur : Array Value) (X : ByteArray) (u : Value) (hu1 : u.oneCell' = true) (w : World) (hBg : B ≤ g) (hg : w.heap[g]? = some (.cells cur 42 (0, 0)))
    (hcs : cur.size = cap * 2) (htake : cur.toList.take (cellsP P).length = cellsP P) (hi : i < P.length) (hroom : P.length + 1 ≤ cap) (hcm : cap ≤ 9223372036854775807) (hne : vb ≠ g) (hv : w.heap[vb]? = some (.cells #[.string X, u] 42 (0, 0))) (h1 : ∀ x ∈ cellsP P, x.oneCell' = true) :
    Calls Tryz.prog 105 #[.slice (some ⟨g, 0, none⟩) P.length cap, .int .i64 i, .slice (some ⟨vb, 0, none⟩) 1 1] w (InsW B w (some g) (P.take i ++ (X.data.toList, u) :: P.drop i)) := by
  obtain ⟨n, hn⟩ : ∃ n, n = P.length := ⟨_, rfl⟩
  rw [← hn] at hi hroom ⊢
  have HN := Lib.hid hn
  have hov := fun o lb cb => overlaps_no w vb g o lb cb 0 _ cur hne hv hg (by omega)
  have hz2 : ¬ ((i : Int) = (n : Int)) := by omega
  have hw1 : IntKind.i64.wrap ((i : Int) + 1) = (i : Int) + 1 := by rw [IntKind.wrap_i64]; omega
  have hb1 : (0 : Int) ≤ (i : Int) + 1 := by omega
  have hin : i ≤ n := by omega
  have htn : ((i : Int) + 1).toNat = i + 1 := by omega
  have hb2 : ¬ (cap = i + 1) := by omega
  have hb3 : (i : Int) ≤ (n : Int) + 1 := by omega
  have hb4 : ¬ (cap = i) := by omega
  have hb5 : i + 1 ≤ n + 1 := by omega
  have hCl : (cellsP P).length = n * 2 := by rw [cellsP_length, hn]
  obtain ⟨C, hC⟩ : ∃ C, C = cellsP P := ⟨_, rfl⟩
  rw [← hC] at htake h1 hCl
  have hcur : C.length + 2 ≤ cur.toList.length := by rw [hCl, Array.length_toList, hcs]; omega
  have hsh := shift_row (x := Value.string X) (y := u) htake (k := i * 2) (by omega) hcur
  simp only at hsh
  obtain ⟨A1, hA1⟩ : ∃ A1, A1 = cur.toList.take (i * 2 + 2) ++ C.drop (i * 2) ++ cur.toList.drop (i * 2 + 2 + (C.drop (i * 2)).length) := ⟨_, rfl⟩
  rw [← hA1] at hsh
  obtain ⟨hl1, r, hr, hl2⟩ := hsh
  have hdl : (C.drop (i * 2)).length = (n - i) * 2 := by rw [List.length_drop, hCl]; omega
  have hcat : ∀ j x, (C.drop (i * 2))[j]? = some x → cur.toList[i * 2 + j]? = some x := fun j x hj => by
    rw [List.getElem?_drop] at hj
    have hlt := (List.getElem?_eq_some_iff.1 hj).1
    rw [← htake, List.getElem?_take, if_pos hlt] at hj
    exact hj
  have hcp1 : ∀ ty dc sc, (Builtin.copy_ #[22, 22] ty #[.slice (some ⟨g, (i + 1) * 2, none⟩) (n - i) dc, .slice (some ⟨g, i * 2, none⟩) (n + 1 - i) sc]).run Tryz.prog w.drew = .ok (goInt (Nat.min (n + 1 - i) (n - i))) (w.drew.setRow g A1.toArray) := fun ty dc sc => by
    have := run_copy_attr w.drew ty g ((i + 1) * 2) (n - i) dc ⟨g, i * 2, none⟩ (n + 1 - i) sc cur 42 (C.drop (i * 2)) hg (by rw [hdl]; simp only [Nat.min_def]; split <;> omega)
      (fun j x hj => by
        have := hcat j x hj
        rw [Addr.add_lit]
        show w.cell? _ = _
        simp only [World.cell?, hg]
        simpa using this)
      (by rw [hdl, hcs]; omega) (fun x hx => h1 x (List.mem_of_mem_drop hx))
    rw [show (i + 1) * 2 = i * 2 + 2 from by omega] at this ⊢
    rw [← hA1] at this
    exact this
  have hg1 : (w.drew.setRow g A1.toArray).heap[g]? = some (.cells A1.toArray 42 (0, 0)) := setRow_heap w.drew g cur A1.toArray 42 (0, 0) hg
  have hv1 : (w.drew.setRow g A1.toArray).heap[vb]? = some (.cells #[.string X, u] 42 (0, 0)) := (setRow_other w.drew g vb _ hne).trans hv
  have hcp2 : ∀ ty dc, (Builtin.copy_ #[22, 22] ty #[.slice (some ⟨g, i * 2, none⟩) (n + 1 - i) dc, .slice (some ⟨vb, 0, none⟩) 1 1]).run Tryz.prog (w.drew.setRow g A1.toArray) = .ok (goInt (Nat.min 1 (n + 1 - i))) ((w.drew.setRow g A1.toArray).setRow g (A1.take (i * 2) ++ [Value.string X, u] ++ A1.drop (i * 2 + 2)).toArray) := fun ty dc => by
    have := run_copy_attr (w.drew.setRow g A1.toArray) ty g (i * 2) (n + 1 - i) dc ⟨vb, 0, none⟩ 1 1 A1.toArray 42 [Value.string X, u] hg1 (by simp only [Nat.min_def]; split <;> simp <;> omega)
      (fun j x hj => by
        rw [Addr.add_lit, Nat.zero_add]
        simp only [World.cell?, hv1]
        simpa using hj)
      (by simp [hl1, hcs]; omega) (by intro x hx; simp at hx; rcases hx with rfl | rfl; rfl; exact hu1)
    simpa using this
  obtain ⟨A2, hA2⟩ : ∃ A2, A2 = A1.take (i * 2) ++ [Value.string X, u] ++ A1.drop (i * 2 + 2) := ⟨_, rfl⟩
  rw [← hA2] at hcp2 hr hl2
  obtain ⟨W1, hW1⟩ : ∃ W1, W1 = w.drew.setRow g A1.toArray := ⟨_, rfl⟩
  rw [← hW1] at hcp1 hcp2
  have hfin : InsW B w (some g) (P.take i ++ (X.data.toList, u) :: P.drop i) (.returned (.slice (some ⟨g, 0, none⟩) (n + 1) cap)) (W1.setRow g A2.toArray) := by
    have hh := setRow_heap W1 g A1.toArray A2.toArray 42 (0, 0) (by rw [hW1]; exact hg1)
    have hlen : (P.take i ++ (X.data.toList, u) :: P.drop i).length = n + 1 := by simp; omega
    have hcl : cellsP (P.take i ++ (X.data.toList, u) :: P.drop i) = C.take (i * 2) ++ [Value.string X, u] ++ C.drop (i * 2) := by
      rw [cellsP_append, hC, cellsP_take, cellsP_drop]
      show _ ++ (strV X.data.toList :: u :: cellsP (P.drop i)) = _
      rw [strV_whole]; simp
    refine ⟨_, rfl, ?_, ?_, .inl rfl⟩
    · unfold RowP
      rw [hlen, hcl]
      refine ⟨by simp [hCl]; omega, .inr ⟨g, cap, A2.toArray, rfl, hBg, hh, by omega, by unfold maxLen; omega, by simp [hl2, hcs], ?_⟩⟩
      rw [show A2.toArray.toList = A2 from by simp, hr]
      exact List.take_left' (by simp [hCl]; omega)
    · exact ⟨by rw [hW1]; rfl, by rw [hW1]; rfl, by rw [hW1]; rfl, by rw [hW1]; simp [World.setRow], fun k hk hne => by
        have hkg : k ≠ g := fun e => hne (by rw [e])
        rw [setRow_other _ _ _ _ hkg, hW1, setRow_other _ _ _ _ hkg]; rfl⟩
  have HFin := Lib.hid hfin
  have mixed : Tryz.prog.follows Departure.mixedOrders = true := by kernel_rfl
  clear hn hfin hW1 hA2 hr hl2 hA1 hl1 hg1 hv1 hcat hdl hC htake h1 hCl hcur hcs
  go_enter Tryz.func105, Tryz.ntmps105
  go_wp2_with (simp only [hov])
  go_region_law_o (refine Go.Proofs.step_copy_runI rfl _ _ 22 22 rfl _ _ (by simp [Act.eval, Act.put]) (by simp [Act.eval, Act.put]) (hcp1 _ _ _) ?_)
  go_wp2_with (at_builtin; refine Go.Proofs.wpList_copy_runI _ rfl _ _ 22 22 rfl _ _ rfl rfl (hcp2 _ _) ?_)
  go_ret
  exact HFin.out

theorem grow_row {α : Type} {C Z : List α} {k : Nat} {x y : α} {row : List α} (hk : k ≤ C.length) (hrow : row = C.take k ++ Z) (hl : C.length + 2 ≤ row.length) :
    let R1 := row.take k ++ [x, y] ++ row.drop (k + 2)
    R1.length = row.length ∧ ∃ r, R1.take (k + 2) ++ C.drop k ++ R1.drop (k + 2 + (C.drop k).length) = (C.take k ++ [x, y] ++ C.drop k) ++ r ∧ (R1.take (k + 2) ++ C.drop k ++ R1.drop (k + 2 + (C.drop k).length)).length = row.length := by
  have e1 : (C.take k).length = k := by rw [List.length_take]; omega
  have e0 : row.take k = C.take k := by rw [hrow]; exact List.take_left' e1
  have e2 : (C.drop k).length = C.length - k := List.length_drop
  have hl1 : (row.take k ++ [x, y] ++ row.drop (k + 2)).length = row.length := by simp; omega
  refine ⟨hl1, (row.take k ++ [x, y] ++ row.drop (k + 2)).drop (k + 2 + (C.drop k).length), ?_, by simp; omega⟩
  have f1 : (row.take k ++ [x, y] ++ row.drop (k + 2)).take (k + 2) = C.take k ++ [x, y] := by
    rw [List.take_left' (by simp; omega), e0]
  rw [f1]

set_option maxRecDepth 100000 in
set_option maxHeartbeats 4000000 in
theorem insert_grow (P : List PT) (B g cap i vb : Nat) (cur : Array Value) (X : ByteArray) (u : Value) (hu1 : u.oneCell' = true) (w : World) (hBw : B ≤ w.heap.size) (hg : w.heap[g]? = some (.cells cur 42 (0, 0)))
    (hcs : cur.size = cap * 2) (htake : cur.toList.take (cellsP P).length = cellsP P) (hi : i < P.length) (hnc : P.length ≤ cap) (hroom : cap < P.length + 1) (hcm : P.length ≤ 1000000) (hv : w.heap[vb]? = some (.cells #[.string X, u] 42 (0, 0))) (h1 : ∀ x ∈ cellsP P, x.oneCell' = true) (ob : Option Nat) :
    Calls Tryz.prog 105 #[.slice (some ⟨g, 0, none⟩) P.length cap, .int .i64 i, .slice (some ⟨vb, 0, none⟩) 1 1] w (InsW B w ob (P.take i ++ (X.data.toList, u) :: P.drop i)) := by
  obtain ⟨n, hn⟩ : ∃ n, n = P.length := ⟨_, rfl⟩
  rw [← hn] at hi hroom hnc hcm ⊢
  obtain ⟨i0, hi0, hz0, hzs, hzb⟩ := info_parts infoA
  have hgw : g < w.heap.size := (Array.getElem?_eq_some_iff.1 hg).1
  have hvw : vb < w.heap.size := (Array.getElem?_eq_some_iff.1 hv).1
  have hCl : (cellsP P).length = n * 2 := by rw [cellsP_length, hn]
  obtain ⟨C, hC⟩ : ∃ C, C = cellsP P := ⟨_, rfl⟩
  rw [← hC] at htake h1 hCl
  have hcat : ∀ j x, C[j]? = some x → w.cell? ⟨g, j, none⟩ = some x := fun j x hj => by
    have hlt := (List.getElem?_eq_some_iff.1 hj).1
    rw [← htake, List.getElem?_take, if_pos hlt] at hj
    simp only [World.cell?, hg]
    simpa using hj
  have hkk : (n : Int) + 1 - (i : Int) = ((n + 1 - i : Nat) : Int) := by omega
  have hik : i + (n + 1 - i) = n + 1 := by omega
  have hold : (Builtin.firstCells i0.size i (.slice (some ⟨g, 0, none⟩) i cap)).run Tryz.prog w.drew = .ok (C.take (i * 2)).toArray w.drew := by
    rw [hzs]
    exact run_firstCells_some w.drew 2 i ⟨g, 0, none⟩ i cap (C.take (i * 2)) (by rw [List.length_take]; omega) (fun j v hj => by
      rw [Addr.add_lit, Nat.zero_add]
      rw [List.getElem?_take] at hj
      split at hj
      · exact hcat j v hj
      · cases hj)
  have hbig : (n + 1) * 40 ≤ 140737488355328 := by omega
  obtain ⟨G, hG⟩ : ∃ G, G = grownCap w (n + 1) cap 42 := ⟨_, rfl⟩
  obtain ⟨Z, hZ⟩ : ∃ Z : Array Value, Z = Builtin.zeroCells (Value.agg #[.string ⟨#[]⟩, .slice none 0 0]).cells (n + 1 - i) ++ Builtin.zeroCells (Value.agg #[.string ⟨#[]⟩, .slice none 0 0]).cells (G - (n + 1)) := ⟨_, rfl⟩
  obtain ⟨ROW, hROW⟩ : ∃ ROW : List Value, ROW = C.take (i * 2) ++ Z.toList := ⟨_, rfl⟩
  have hrz : ∀ ty, (Builtin.append_ #[22, 3] ty #[.slice (some ⟨g, 0, none⟩) i cap, .int .i64 ((n : Int) + 1 - (i : Int))]).run Tryz.prog w =
      .ok (.slice (some ⟨w.heap.size, 0, none⟩) (n + 1) G) (w.drew.alloc (.cells ROW.toArray 42)) := fun ty => by
    have h := Lib.run_append_grow_zeros w 22 3 ty 42 i0 _ .i64 .i64 Tryz.underlying22 Tryz.underlying3 hi0 hz0 (some ⟨g, 0, none⟩) i cap (C.take (i * 2)) hold (n + 1 - i) (by omega) (by omega) (by omega) (by omega) (by rw [hzb]; omega) (by rw [hzb, hik]; exact growslice_fits hroom hbig)
    rw [hik, ← hG] at h
    rw [hkk, h, hROW, hZ]
    congr 4
    simp
  have hGn : n + 1 ≤ G := by rw [hG]; exact grownCap_ge w _ _ _
  have hG63 : G ≤ 9223372036854775807 := by
    have := grownCap_le_maxLen w (n + 1) cap 42 (by unfold maxLen; omega)
    rw [← hG] at this
    unfold maxLen at this
    omega
  have hRs : ROW.length = G * 2 := by
    rw [hROW, hZ]
    simp [Builtin.zeroCells, Value.cells, hCl]
    omega
  have hgr := grow_row (x := Value.string X) (y := u) (k := i * 2) (by omega) hROW (by omega)
  simp only at hgr
  obtain ⟨R1, hR1⟩ : ∃ R1, R1 = ROW.take (i * 2) ++ [Value.string X, u] ++ ROW.drop (i * 2 + 2) := ⟨_, rfl⟩
  rw [← hR1] at hgr
  obtain ⟨hl1, r, hr, hl2⟩ := hgr
  obtain ⟨R2, hR2⟩ : ∃ R2, R2 = R1.take (i * 2 + 2) ++ C.drop (i * 2) ++ R1.drop (i * 2 + 2 + (C.drop (i * 2)).length) := ⟨_, rfl⟩
  rw [← hR2] at hr hl2
  have hdl : (C.drop (i * 2)).length = (n - i) * 2 := by rw [List.length_drop, hCl]; omega
  have hW1h : (w.drew.alloc (.cells ROW.toArray 42)).heap[w.heap.size]? = some (.cells ROW.toArray 42 (0, 0)) := heap_alloc_new w.drew _
  have hW1o : ∀ k, k < w.heap.size → (w.drew.alloc (.cells ROW.toArray 42)).heap[k]? = w.heap[k]? := fun k hk => heap_alloc_old w.drew _ hk
  have hcpA : ∀ (W : World), W.heap = (w.drew.alloc (.cells ROW.toArray 42)).heap → ∀ ty dc, (Builtin.copy_ #[22, 22] ty #[.slice (some ⟨w.heap.size, i * 2, none⟩) (n + 1 - i) dc, .slice (some ⟨vb, 0, none⟩) 1 1]).run Tryz.prog W = .ok (goInt (Nat.min 1 (n + 1 - i))) (W.setRow w.heap.size R1.toArray) := fun W hW ty dc => by
    have := run_copy_attr W ty w.heap.size (i * 2) (n + 1 - i) dc ⟨vb, 0, none⟩ 1 1 ROW.toArray 42 [Value.string X, u] (by rw [hW]; exact hW1h) (by simp only [Nat.min_def]; split <;> simp <;> omega)
      (fun j x hj => by
        rw [Addr.add_lit, Nat.zero_add]
        simp only [World.cell?, hW, hW1o vb hvw, hv]
        simpa using hj)
      (by simp [hRs]; omega) (by intro x hx; simp at hx; rcases hx with rfl | rfl; rfl; exact hu1)
    rw [hR1]
    simpa using this
  have hcpB : ∀ (W W0 : World), W0.heap = (w.drew.alloc (.cells ROW.toArray 42)).heap → W.heap = (W0.setRow w.heap.size R1.toArray).heap → ∀ ty dc sc, (Builtin.copy_ #[22, 22] ty #[.slice (some ⟨w.heap.size, (i + 1) * 2, none⟩) (n - i) dc, .slice (some ⟨g, i * 2, none⟩) (n - i) sc]).run Tryz.prog W = .ok (goInt (Nat.min (n - i) (n - i))) (W.setRow w.heap.size R2.toArray) := fun W W0 hW0 hW ty dc sc => by
    have := run_copy_attr W ty w.heap.size ((i + 1) * 2) (n - i) dc ⟨g, i * 2, none⟩ (n - i) sc R1.toArray 42 (C.drop (i * 2)) (by rw [hW]; exact setRow_heap W0 _ ROW.toArray _ _ _ (by rw [hW0]; exact hW1h)) (by rw [hdl]; simp only [Nat.min_def]; split <;> omega)
      (fun j x hj => by
        rw [Addr.add_lit]
        have h2 := hcat (i * 2 + j) x (by rwa [List.getElem?_drop] at hj)
        have h3 : W.heap[g]? = w.heap[g]? := by rw [hW, setRow_other _ _ _ _ (by omega), hW0, hW1o g hgw]
        simpa only [World.cell?, h3] using h2)
      (by rw [hdl]; simp [hl1, hRs]; omega) (fun x hx => h1 x (List.mem_of_mem_drop hx))
    rw [show (i + 1) * 2 = i * 2 + 2 from by omega] at this ⊢
    rw [hR2]
    simpa using this
  have hfin : ∀ (W W0 : World), W0.heap = (w.drew.alloc (.cells ROW.toArray 42)).heap → W.heap = (W0.setRow w.heap.size R1.toArray).heap → W.os = w.os → W.tape = w.tape → W.output = w.output → InsW B w ob (P.take i ++ (X.data.toList, u) :: P.drop i) (.returned (.slice (some ⟨w.heap.size, 0, none⟩) (n + 1) G)) (W.setRow w.heap.size R2.toArray) := fun W W0 hW0 hW e1 e2 e3 => by
    have hh := setRow_heap W w.heap.size R1.toArray R2.toArray 42 (0, 0) (by rw [hW]; exact setRow_heap W0 _ ROW.toArray _ _ _ (by rw [hW0]; exact hW1h))
    have hlen : (P.take i ++ (X.data.toList, u) :: P.drop i).length = n + 1 := by simp; omega
    have hcl : cellsP (P.take i ++ (X.data.toList, u) :: P.drop i) = C.take (i * 2) ++ [Value.string X, u] ++ C.drop (i * 2) := by
      rw [cellsP_append, hC, cellsP_take, cellsP_drop]
      show _ ++ (strV X.data.toList :: u :: cellsP (P.drop i)) = _
      rw [strV_whole]; simp
    refine ⟨_, rfl, ?_, ?_, .inr rfl⟩
    · unfold RowP
      rw [hlen, hcl]
      refine ⟨by simp [hCl]; omega, .inr ⟨w.heap.size, G, R2.toArray, rfl, hBw, hh, by omega, by unfold maxLen; omega, by simp [hl2, hRs], ?_⟩⟩
      rw [show R2.toArray.toList = R2 from by simp, hr]
      exact List.take_left' (by simp [hCl]; omega)
    · refine ⟨e1, e2, e3, ?_, fun k hk _ => ?_⟩
      · have hsz : W.heap.size = (W0.setRow w.heap.size R1.toArray).heap.size := by rw [hW]
        have hsz0 : W0.heap.size = w.heap.size + 1 := by rw [hW0]; simp
        simp [World.setRow] at hsz ⊢
        omega
      · rw [setRow_other _ _ _ _ (by omega), hW, setRow_other _ _ _ _ (by omega), hW0, hW1o k hk]
  have hw1 : IntKind.i64.wrap ((i : Int) + 1) = (i : Int) + 1 := by rw [IntKind.wrap_i64]; omega
  have hb1 : (0 : Int) ≤ (i : Int) + 1 := by omega
  have hz2 : ¬ ((i : Int) = (n : Int)) := by omega
  have hz3 : (cap : Int) < (n : Int) + 1 := by omega
  have hin : i ≤ n := by omega
  have htn : ((i : Int) + 1).toNat = i + 1 := by omega
  have hb3 : (i : Int) ≤ (n : Int) := by omega
  have hci : ¬ (cap = i) := by omega
  have hGi : ¬ (G = i) := by omega
  have hGi1 : ¬ (G = i + 1) := by omega
  have hb5 : i + 1 ≤ n + 1 := by omega
  have HFin := Lib.hid hfin
  have mixed : Tryz.prog.follows Departure.mixedOrders = true := by kernel_rfl
  have hcA := hcpA ((w.alloc (.cells ROW.toArray 42)).drew) rfl
  have HCpB := Lib.hid hcpB
  have HRz := Lib.hid hrz
  clear hn hfin hcpA hcpB hrz hkk hik hold hbig hG hZ hROW hRs hR1 hl1 hr hl2 hR2 hdl hW1h hW1o hcat hC htake h1 hCl hcs hi0 hz0 hzs hzb
  go_enter Tryz.func105, Tryz.ntmps105
  go_wp2_with (at_builtin; refine Lib.wpList_append_run _ rfl _ _ _ _ rfl _ _ rfl rfl _ _ (HRz.out _) ?_)
  go_region_law_o (refine Go.Proofs.step_copy_runI rfl _ _ 22 22 rfl (.slice (some ⟨w.heap.size, (i + 1) * 2, none⟩) (n - i) (G - (i + 1))) (.slice (some ⟨g, i * 2, none⟩) (n - i) (cap - i)) (by simp [Act.eval, Act.put]) (by simp [Act.eval, Act.put]) (HCpB.out ((((w.alloc (.cells ROW.toArray 42)).drew).setRow w.heap.size R1.toArray).drew) ((w.alloc (.cells ROW.toArray 42)).drew) rfl rfl 3 (G - (i + 1)) (cap - i)) ?_)
  go_wp2
  go_ret
  exact HFin.out _ ((w.alloc (.cells ROW.toArray 42)).drew) rfl rfl rfl rfl rfl
end Go.Proofs.YtngbpegjoihajaaGreatDoor
