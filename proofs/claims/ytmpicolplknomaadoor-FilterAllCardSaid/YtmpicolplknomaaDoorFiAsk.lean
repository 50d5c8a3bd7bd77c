/- filter.parts, asked: the walks. -/
import Derived.Test.YtmpicolplknomaaDoorFiLib
import Derived.Test.YtmpicolplknomaaDoorFiWrite
namespace Go.Proofs.YtmpicolplknomaaDoor
open Go.RowKit
set_option linter.unusedVariables false
set_option linter.unusedSimpArgs false

/-- A filter in a block. -/
abbrev FlAt (W : World) (b : Nat) (x0 x1 x2 x3 x4 : Value) : Prop := W.heap[b]? = some (.cells #[x0, x1, x2, x3, x4] 25 (0, 0))
abbrev FzAt (W : World) (b : Nat) : Prop := FlAt W b (.int .i64 0) (.string ⟨#[]⟩) (.string ⟨#[]⟩) (.slice none 0 0) (.slice none 0 0)
def set5F (W : World) (b : Nat) (x0 x1 x2 x3 x4 : Value) : World := ((((W.setCell ⟨b, 0, none⟩ x0).setCell ⟨b, 1, none⟩ x1).setCell ⟨b, 2, none⟩ x2).setCell ⟨b, 3, none⟩ x3).setCell ⟨b, 4, none⟩ x4
theorem fl_lt {W : World} {b : Nat} {x0 x1 x2 x3 x4 : Value} (h : FlAt W b x0 x1 x2 x3 x4) : b < W.heap.size := (Array.getElem?_eq_some_iff.1 h).1
theorem fl_below {W W' : World} {b n : Nat} {x0 x1 x2 x3 x4 : Value} (h : FlAt W b x0 x1 x2 x3 x4) (hb : Below n W W') (hn : b < n) : FlAt W' b x0 x1 x2 x3 x4 := (hb.block b hn).trans h
theorem fl_cells {W : World} {b : Nat} {x0 x1 x2 x3 x4 : Value} (h : FlAt W b x0 x1 x2 x3 x4) : W.cell? ⟨b, 0, none⟩ = some x0 ∧ W.cell? ⟨b, 1, none⟩ = some x1 ∧ W.cell? ⟨b, 2, none⟩ = some x2 ∧ W.cell? ⟨b, 3, none⟩ = some x3 ∧ W.cell? ⟨b, 4, none⟩ = some x4 := cells5 h
theorem fl_frozen {W : World} {b : Nat} {x0 x1 x2 x3 x4 : Value} (h : FlAt W b x0 x1 x2 x3 x4) : W.frozen? ⟨b, 0, none⟩ = false ∧ W.frozen? ⟨b, 1, none⟩ = false ∧ W.frozen? ⟨b, 2, none⟩ = false ∧ W.frozen? ⟨b, 3, none⟩ = false ∧ W.frozen? ⟨b, 4, none⟩ = false := by
  refine ⟨?_, ?_, ?_, ?_, ?_⟩ <;> simp [World.frozen?, h]
theorem fl_set {W : World} {b : Nat} {y0 y1 y2 y3 y4 : Value} (h : FlAt W b y0 y1 y2 y3 y4) (x0 x1 x2 x3 x4 : Value) : FlAt (set5F W b x0 x1 x2 x3 x4) b x0 x1 x2 x3 x4 := by
  have h' : W.heap[b]? = some (.cells #[y0, y1, y2, y3, y4] 25 (0, 0)) := h
  show (set5F W b x0 x1 x2 x3 x4).heap[b]? = _
  simp [set5F, World.setCell, Array.getElem?_modify, h']
theorem fl_setB {W W0 : World} {b n : Nat} (h : Below n W0 W) (hn : n ≤ b) (x0 x1 x2 x3 x4 : Value) : Below n W0 (set5F W b x0 x1 x2 x3 x4) :=
  ((((h.setCell (p := ⟨b, 0, none⟩) hn x0).setCell (p := ⟨b, 1, none⟩) hn x1).setCell (p := ⟨b, 2, none⟩) hn x2).setCell (p := ⟨b, 3, none⟩) hn x3).setCell (p := ⟨b, 4, none⟩) hn x4
theorem blockFl_ne (w : World) (a : Addr) (x : Value) {b : Nat} (h : b ≠ a.block) : (w.setCell a x).heap[b]? = w.heap[b]? := by
  unfold World.setCell
  simp [Array.getElem?_modify, Ne.symm h]
theorem fl_setO {W : World} {b k : Nat} (h : k ≠ b) (x0 x1 x2 x3 x4 : Value) : (set5F W b x0 x1 x2 x3 x4).heap[k]? = W.heap[k]? := by
  unfold set5F
  rw [blockFl_ne _ ⟨b, 4, none⟩ _ h, blockFl_ne _ ⟨b, 3, none⟩ _ h, blockFl_ne _ ⟨b, 2, none⟩ _ h, blockFl_ne _ ⟨b, 1, none⟩ _ h, blockFl_ne _ ⟨b, 0, none⟩ _ h]
theorem set5F_size (W : World) (b : Nat) (x0 x1 x2 x3 x4 : Value) : (set5F W b x0 x1 x2 x3 x4).heap.size = W.heap.size := by simp [set5F, World.setCell]
/-- A row of texts that lies elsewhere. -/
theorem ownS_fl {W : World} {b B : Nat} {y0 y1 y2 y3 y4 : Value} (h : FlAt W b y0 y1 y2 y3 y4) {u : Value} {p : List (List UInt8)} (hu : OwnS B W u p) (x0 x1 x2 x3 x4 : Value) : OwnS B (set5F W b x0 x1 x2 x3 x4) u p := by
  have hg : W.grownBy (set5F W b x0 x1 x2 x3 x4) (some b) := ⟨by simp [set5F, World.setCell], by simp [set5F, World.setCell], by simp [set5F, World.setCell], by rw [set5F_size]; exact Nat.le_refl _, fun k hk hn => fl_setO (fun e => hn (by rw [e])) _ _ _ _ _⟩
  refine World.ownsRow.kept hu hg ?_
  rcases hu.2 with ⟨rfl, _⟩ | ⟨g, cap, cur, rfl, _, hgc, _⟩
  · exact .inl rfl
  · right
    intro e
    have : g = b := by simpa [Value.ownBlock] using e
    subst this
    rw [h] at hgc
    cases hgc

/-- What asked tells. -/
def AskV (B : Nat) (w : World) (o : Option (Int × List UInt8 × List (List UInt8))) (v : Value) : Prop := match o with
  | none => ∃ k : Int, v = .tuple #[.agg #[.int .i64 k, .string ⟨#[]⟩, .string ⟨#[]⟩, .slice none 0 0, .slice none 0 0], .bool false]
  | some (k, x, p) => ∃ u, v = .tuple #[.agg #[.int .i64 k, .string ⟨#[]⟩, strV x, u, .slice none 0 0], .bool true] ∧ OwnS B w u p
theorem allV_none {P : List (List UInt8)} {j : Nat} (hj : j < P.length) (h : valQ 100 P[j] = none) : allV P = none := by
  induction P generalizing j with
  | nil => simp at hj
  | cons x l ih =>
    show (match valQ 100 x, allV l with
      | some v, some r => some (v :: r)
      | _, _ => none) = none
    cases j with
    | zero =>
      have : valQ 100 x = none := h
      rw [this]
    | succ j =>
      rw [ih (by simpa using hj) h]
      cases valQ 100 x <;> rfl
theorem allV_snoc : ∀ (P : List (List UInt8)) (x : List UInt8) {V : List (List UInt8)} {v : List UInt8}, allV P = some V → valQ 100 x = some v → allV (P ++ [x]) = some (V ++ [v])
  | [], x, V, v, h, hv => by
    have : V = [] := by simpa [allV] using h.symm
    subst this
    show (match valQ 100 x, allV [] with
      | some v, some r => some (v :: r)
      | _, _ => none) = _
    rw [hv]
    rfl
  | y :: P, x, V, v, h, hv => by
    have h' : (match valQ 100 y, allV P with
      | some v, some r => some (v :: r)
      | _, _ => none) = some V := h
    cases h1 : valQ 100 y with
    | none => rw [h1] at h'; cases h'
    | some a =>
      cases h2 : allV P with
      | none => rw [h1, h2] at h'; cases h'
      | some r =>
        rw [h1, h2] at h'
        obtain rfl := Option.some.inj h'
        show (match valQ 100 y, allV (P ++ [x]) with
          | some v, some r => some (v :: r)
          | _, _ => none) = _
        rw [h1, allV_snoc P x h2 hv]
        rfl
theorem val_len {l v : List UInt8} (h : valQ 100 l = some v) : v.length ≤ 100 := (val_sound 100 l v h).2

set_option maxRecDepth 100000 in
set_option maxHeartbeats 8000000 in
theorem partsFl_any (s : ByteArray) (hs : s.size ≤ 1000000) (w : World) :
    Calls Tryd.prog 65 #[.string s] w fun e w' => ∃ v, e = .returned v ∧ AskV w.heap.size w' ((allV (splS 8 s.data.toList)).map fun p => (5, [], p)) v ∧ Below w.heap.size w w' := by
  obtain ⟨P, hP⟩ : ∃ P, P = splS 8 s.data.toList := ⟨_, rfl⟩
  have hsp := fun W => splitN_any s (by omega) W
  have hplen : ∀ x ∈ P, x.length ≤ 1000000 := by
    have hj := spl_join 8 s.data.toList
    rw [← hP] at hj
    have : ∀ (q : List (List UInt8)), ∀ x ∈ q, x.length ≤ (joinS q).length := by
      intro q
      induction q with
      | nil => intro x hx; cases hx
      | cons y q ih =>
        intro x hx
        cases q with
        | nil => rw [List.mem_singleton.1 hx]; exact Nat.le_refl _
        | cons z q =>
          show x.length ≤ (y ++ 42 :: joinS (z :: q)).length
          rcases List.mem_cons.1 hx with rfl | hx
          · simp
          · have := ih x hx
            simp
            omega
    intro x hx
    have := this P x hx
    rw [hj, bytes_len] at this
    omega
  have hp9 : P.length ≤ 9 := by
    have : ∀ (n : Nat) (l : List UInt8), (splS n l).length ≤ n + 1 := by
      intro n
      induction n with
      | zero => intro l; exact Nat.le_refl _
      | succ n ih =>
        intro l
        show (if l.contains 42 then l.takeWhile (· ≠ 42) :: splS n ((l.dropWhile (· ≠ 42)).drop 1) else [l]).length ≤ _
        split
        · have := ih ((l.dropWhile (· ≠ 42)).drop 1)
          simp only [List.length_cons]
          omega
        · simp
    rw [hP]
    exact this 8 _
  rw [← hP] at hsp ⊢
  obtain ⟨n, hn⟩ : ∃ n, n = P.length := ⟨_, rfl⟩
  obtain ⟨W0, hW0⟩ : ∃ W, W = w.alloc (.cells #[.int .i64 0, .string ⟨#[]⟩, .string ⟨#[]⟩, .slice none 0 0, .slice none 0 0] 25) := ⟨_, rfl⟩
  have hb0 : Below w.heap.size w W0 := by rw [hW0]; exact box5 w _ _ _ _ _
  have hx0 : FzAt W0 w.heap.size := by rw [hW0]; exact heap_alloc_new w _
  have HSp := Lib.hid (hsp W0)
  have HP := Lib.hid hplen
  have HP9 := Lib.hid hp9
  have HB0 := Lib.hid hb0
  have HX0 := Lib.hid hx0
  have HW0 := Lib.hid hW0.symm
  have HN := Lib.hid hn
  clear hsp hplen hp9 hb0 hx0 hW0 hP hn
  go_enter Tryd.func65, Tryd.ntmps65
  go_upto_region 1 with (fail)
  rw [HW0.out]
  go_wp2_with (go_at_call 80; refine (HSp.out).mono ?_; rintro e w1 ⟨N, rfl, hb1, hc1⟩; rw [← HN.out]; have HB1 := Lib.hid hb1; have HC1 := Lib.hid hc1; clear hb1 hc1)
  have HX1 := Lib.hid (fl_below HX0.out HB1.out (fl_lt HX0.out))
  have HW1 : Hid (Below w.heap.size w w1 ∧ W0.heap.size ≤ w1.heap.size ∧ w.heap.size < w1.heap.size) := Lib.hid ⟨bthen HB0.out HB1.out, HB1.out.size, Nat.lt_of_lt_of_le (fl_lt HX0.out) HB1.out.size⟩
  have HPb : Hid (∀ j, j < P.length → W0.heap.size < w1.heap.size) := Lib.hid (fun j hj => by
    have := HC1.out j hj
    exact World.block_lt_of_cell? _ _ this)
  go_loopw [4, 12] (fun lv i wr => ∃ (j : Nat) (V : List (List UInt8)), j ≤ n ∧ i = .int .i64 j ∧ Hid (allV (P.take j) = some V) ∧ Hid (V.length = j) ∧ Hid (OwnS w1.heap.size wr lv V) ∧ Hid (Below w1.heap.size w1 wr)) (fun _ i _ => n - (intOf i).toNat)
  case atStart => exact ⟨0, [], by omega, rfl, Lib.hid rfl, Lib.hid rfl, Lib.hid (ownS_nil _ _), Lib.hid (Below.refl _ _)⟩
  case round =>
    obtain ⟨j, V, hj, rfl, HV, hVl, HO, HBr⟩ := hrel
    rename World => wo
    obtain ⟨la, lc, hlv⟩ := ownS_slice HO.out
    subst hlv
    have hxo := fl_below HX1.out HBr.out HW1.out.2.2
    have HXo := Lib.hid hxo
    obtain ⟨c0, c1, c2, c3, c4⟩ := fl_cells hxo
    obtain ⟨f0, f1, f2, f3, f4⟩ := fl_frozen hxo
    have hbw := HW1.out.1.trans (HBr.out.mono (Nat.le_of_lt HW1.out.2.2))
    have HBw := Lib.hid hbw
    have hn9 : n ≤ 9 := by have := HP9.out; have := HN.out; omega
    by_cases hlt : j < n
    · have hjl : j < P.length := by rw [← HN.out]; exact hlt
      obtain ⟨T, hT, hTl⟩ := strV_text P[j]
      have hcj : wo.cell? ⟨W0.heap.size, j, none⟩ = some (.string T) := by
        rw [HBr.out.cell (p := ⟨W0.heap.size, j, none⟩) (HPb.out j hjl), HC1.out j hjl, hT]
      have hTs : T.size ≤ 1000000 := by rw [← bytes_len, hTl]; exact HP.out _ (List.getElem_mem hjl)
      have hva := valueFl_any T (by omega) wo
      rw [hTl] at hva
      have ti0 : (0 : Int) ≤ (j : Int) := by omega
      have ti1 : (j : Int) < (n : Int) := by omega
      cases hq : valQ 100 P[j] with
      | none =>
        rw [hq] at hva
        simp only [valV2] at hva
        have HVa := Lib.hid hva
        have HNo := Lib.hid (allV_none hjl hq)
        clear hva hq hT hTl hxo hbw hjl
        go_upto_region 7 with (go_at_call 66; refine (HVa.out).mono ?_; rintro e w3 ⟨rfl, hb3⟩; have HB3 := Lib.hid hb3; clear hb3)
        have hx3 := fl_below HXo.out HB3.out (fl_lt HXo.out)
        clear c0 c1 c2 c3 c4 f0 f1 f2 f3 f4 hcj
        obtain ⟨c0, c1, c2, c3, c4⟩ := fl_cells hx3
        obtain ⟨f0, f1, f2, f3, f4⟩ := fl_frozen hx3
        obtain ⟨z0, z1, z2, z3, z4⟩ := fl_cells (fl_set hx3 (.int .i64 0) (.string ⟨#[]⟩) (.string ⟨#[]⟩) (.slice none 0 0) (.slice none 0 0))
        unfold set5F at z0 z1 z2 z3 z4
        have HF := Lib.hid (fl_setB (bthen HBw.out HB3.out) (Nat.le_refl w.heap.size) (.int .i64 0) (.string ⟨#[]⟩) (.string ⟨#[]⟩) (.slice none 0 0) (.slice none 0 0))
        clear hx3
        go_wp2
        refine bodyPost_ret (v := .tuple #[.agg #[.int .i64 0, .string ⟨#[]⟩, .string ⟨#[]⟩, .slice none 0 0, .slice none 0 0], .bool false]) (by simp [results, Tryd.results65, go_sem, z0, z1, z2, z3, z4]) rfl ⟨_, rfl, ?_, HF.out⟩
        rw [HNo.out]
        exact ⟨0, rfl⟩
      | some v =>
        rw [hq] at hva
        have HVa := Lib.hid hva
        have HV2 : Hid (allV (P.take (j + 1)) = some (V ++ [v])) := Lib.hid (by rw [List.take_succ_eq_append_getElem hjl]; exact allV_snoc _ _ HV.out hq)
        obtain ⟨X, hX, hXl⟩ := strV_text v
        have hX' : (.string ⟨v.toArray⟩ : Value) = .string X := hX
        simp only [valV2, hX'] at HVa
        have HXl := Lib.hid hXl
        clear hva hq hT hTl hxo hbw hjl hX hX' hXl c0 c1 c2 c3 c4 f0 f1 f2 f3 f4
        have hwo : w1.heap.size ≤ wo.heap.size := HBr.out.size
        go_wp2_with (first
          | (go_at_call 66; refine (HVa.out).mono ?_; rintro e w3 ⟨rfl, hb3⟩; have HB3 := Lib.hid hb3; have hs3 := hb3.size; clear hb3)
          | (at_builtin; refine wpList_append_text rfl (.tmp 24) (.tmp 26) rfl w1.heap.size (.slice la V.length lc) V rfl X (ownS_below HO.out HB3.out) rfl (by have := hVl.out; have := HP9.out; have := HN.out; omega) (by omega) ?_; intro v5 w5 hown5 hb5; have HO5 := Lib.hid hown5; have HB5 := Lib.hid ((HBr.out.trans (HB3.out.mono hwo)).trans hb5); clear hown5 hb5))
        go_roundw
        case rel => exact ⟨j + 1, V ++ [v], by omega, by go_num, HV2, Lib.hid (by rw [List.length_append, hVl.out]; rfl), by rw [← HXl.out]; exact HO5, HB5⟩
        case measure => simp [intOf]; omega
    · have hend : allV P = some V := by
        have := HV.out
        rwa [List.take_of_length_le (by rw [← HN.out]; omega)] at this
      have HE := Lib.hid hend
      have t9 : decide (j < n) = false := by simp; omega
      obtain ⟨z0, z1, z2, z3, z4⟩ := fl_cells (fl_set hxo (.int .i64 5) (.string ⟨#[]⟩) (.string ⟨#[]⟩) (.slice la V.length lc) (.slice none 0 0))
      unfold set5F at z0 z1 z2 z3 z4
      have HF := Lib.hid (fl_setB hbw (Nat.le_refl w.heap.size) (.int .i64 5) (.string ⟨#[]⟩) (.string ⟨#[]⟩) (.slice la V.length lc) (.slice none 0 0))
      have HU := Lib.hid (ownS_fl hxo (ownS_lower HO.out (Nat.le_of_lt HW1.out.2.2)) (.int .i64 5) (.string ⟨#[]⟩) (.string ⟨#[]⟩) (.slice la V.length lc) (.slice none 0 0))
      clear hend hxo hbw
      go_wp2
      refine bodyPost_ret (v := .tuple #[.agg #[.int .i64 5, .string ⟨#[]⟩, .string ⟨#[]⟩, .slice la V.length lc, .slice none 0 0], .bool true]) (by simp [results, Tryd.results65, go_sem, z0, z1, z2, z3, z4]) rfl ⟨_, rfl, ?_, HF.out⟩
      rw [HE.out]
      exact ⟨_, rfl, HU.out⟩
end Go.Proofs.YtmpicolplknomaaDoor
