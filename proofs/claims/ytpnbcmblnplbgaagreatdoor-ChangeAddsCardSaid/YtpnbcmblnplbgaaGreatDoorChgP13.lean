/- Several texts in one file: TrAddW, ChOps, ChDel, TrDoc2. -/
import Derived.Test.YtpnbcmblnplbgaaGreatDoorChgP8
import Derived.Test.YtpnbcmblnplbgaaGreatDoorChgP6
import Derived.Test.YtpnbcmblnplbgaaGreatDoorChgP7
import Derived.Test.YtpnbcmblnplbgaaGreatDoorChgP9
import Derived.Test.YtpnbcmblnplbgaaGreatDoorChgP12
import Derived.OwnWalk
import Derived.Test.YtpnbcmblnplbgaaGreatDoorChgP4
import Derived.Test.YtpnbcmblnplbgaaGreatDoorDnUpW
namespace Go.Proofs.YtpnbcmblnplbgaaGreatDoor
open Go.RowKit
set_option linter.unusedVariables false
set_option linter.unusedSimpArgs false

abbrev zD : Obj := .cells #[.int .i64 0, .int .i64 0, .string ⟨#[]⟩, .string ⟨#[]⟩, .slice none 0 0, .int .i64 0] 44
abbrev DlAt (W : World) (b : Nat) (d : ByteArray) (v : Value) (c : Int) : Prop := W.heap[b]? = some (.cells #[.int .i64 0, .int .i64 0, .string ⟨#[]⟩, .string d, v, .int .i64 c] 44 (0, 0))
abbrev doneV (d : ByteArray) (v : Value) (c : Int) : Value := .agg #[.int .i64 0, .int .i64 0, .string ⟨#[]⟩, .string d, v, .int .i64 c]
def set6D (W : World) (b : Nat) (d : ByteArray) (v : Value) (c : Int) : World := (((((W.setCell ⟨b, 0, none⟩ (.int .i64 0)).setCell ⟨b, 1, none⟩ (.int .i64 0)).setCell ⟨b, 2, none⟩ (.string ⟨#[]⟩)).setCell ⟨b, 3, none⟩ (.string d)).setCell ⟨b, 4, none⟩ v).setCell ⟨b, 5, none⟩ (.int .i64 c)
theorem dl_lt {W : World} {b : Nat} {d : ByteArray} {v : Value} {c : Int} (h : DlAt W b d v c) : b < W.heap.size := (Array.getElem?_eq_some_iff.1 h).1
theorem dl_below {W W' : World} {b m : Nat} {d : ByteArray} {v : Value} {c : Int} (h : DlAt W b d v c) (hb : Below m W W') (hn : b < m) : DlAt W' b d v c := (hb.block b hn).trans h
theorem dl_cells {W : World} {b : Nat} {d : ByteArray} {v : Value} {c : Int} (h : DlAt W b d v c) : W.cell? ⟨b, 0, none⟩ = some (.int .i64 0) ∧ W.cell? ⟨b, 1, none⟩ = some (.int .i64 0) ∧ W.cell? ⟨b, 2, none⟩ = some (.string ⟨#[]⟩) ∧ W.cell? ⟨b, 3, none⟩ = some (.string d) ∧ W.cell? ⟨b, 4, none⟩ = some v ∧ W.cell? ⟨b, 5, none⟩ = some (.int .i64 c) := by
  have h' : W.heap[b]? = some (.cells #[.int .i64 0, .int .i64 0, .string ⟨#[]⟩, .string d, v, .int .i64 c] 44 (0, 0)) := h
  refine ⟨?_, ?_, ?_, ?_, ?_, ?_⟩ <;> simp [World.cell?, h']
theorem dl_frozen {W : World} {b : Nat} {d : ByteArray} {v : Value} {c : Int} (h : DlAt W b d v c) : W.frozen? ⟨b, 0, none⟩ = false ∧ W.frozen? ⟨b, 1, none⟩ = false ∧ W.frozen? ⟨b, 2, none⟩ = false ∧ W.frozen? ⟨b, 3, none⟩ = false ∧ W.frozen? ⟨b, 4, none⟩ = false ∧ W.frozen? ⟨b, 5, none⟩ = false := by
  have h' : W.heap[b]? = some (.cells #[.int .i64 0, .int .i64 0, .string ⟨#[]⟩, .string d, v, .int .i64 c] 44 (0, 0)) := h
  refine ⟨?_, ?_, ?_, ?_, ?_, ?_⟩ <;> simp [World.frozen?, h']
theorem dl_set {W : World} {b : Nat} {d0 : ByteArray} {v0 : Value} {c0 : Int} (h : DlAt W b d0 v0 c0) (d : ByteArray) (v : Value) (c : Int) : DlAt (set6D W b d v c) b d v c := by
  have h' : W.heap[b]? = some (.cells #[.int .i64 0, .int .i64 0, .string ⟨#[]⟩, .string d0, v0, .int .i64 c0] 44 (0, 0)) := h
  show (set6D W b d v c).heap[b]? = _
  simp [set6D, World.setCell, Array.getElem?_modify, h']
theorem dl_setB {W W0 : World} {b m : Nat} (h : Below m W0 W) (hn : m ≤ b) (d : ByteArray) (v : Value) (c : Int) : Below m W0 (set6D W b d v c) :=
  (((((h.setCell (p := ⟨b, 0, none⟩) hn _).setCell (p := ⟨b, 1, none⟩) hn _).setCell (p := ⟨b, 2, none⟩) hn _).setCell (p := ⟨b, 3, none⟩) hn _).setCell (p := ⟨b, 4, none⟩) hn _).setCell (p := ⟨b, 5, none⟩) hn _
theorem ownM_dl1 {B : Nat} {W : World} {v x : Value} {L : List AT} {p i : Nat} {cs : Array Value} {fr : Nat × Nat} (h : OwnM B W v L) (hp : W.heap[p]? = some (.cells cs 44 fr)) : OwnM B (W.setCell ⟨p, i, none⟩ x) v L := by
  obtain ⟨P, hr, hs⟩ := h
  have hgr : W.grownBy (W.setCell ⟨p, i, none⟩ x) (some p) := ⟨rfl, rfl, rfl, by simp [World.setCell], fun k hk hn => block_ne W ⟨p, i, none⟩ x (fun e => hn (by rw [e]))⟩
  refine ⟨P, World.ownsRow.kept hr hgr (.inr fun he => ?_), saysM_to hs fun k hk => block_ne W ⟨p, i, none⟩ x fun e => ?_⟩
  · rcases hr.2 with ⟨rfl, _⟩ | ⟨g, cap, cur, rfl, _, hgc, _⟩
    · cases he
    · have : g = p := by simpa [Value.ownBlock] using he
      subst this
      rw [hgc] at hp
      cases hp
  · obtain ⟨cs', fr', hk⟩ := hk
    rw [show k = p from e, hp] at hk
    cases hk
theorem dl_keep {W : World} {p i : Nat} {x : Value} {cs : Array Value} {fr : Nat × Nat} (hp : W.heap[p]? = some (.cells cs 44 fr)) : ∃ cs', (W.setCell ⟨p, i, none⟩ x).heap[p]? = some (.cells cs' 44 fr) := by
  simp [World.setCell, Array.getElem?_modify, hp]
theorem ownM_dl {B : Nat} {W : World} {u : Value} {L : List AT} {p : Nat} {d0 : ByteArray} {v0 : Value} {c0 : Int} (h : OwnM B W u L) (hp : DlAt W p d0 v0 c0) (d : ByteArray) (v : Value) (c : Int) : OwnM B (set6D W p d v c) u L := by
  unfold set6D
  obtain ⟨_, k1⟩ := dl_keep (i := 0) (x := .int .i64 0) hp
  obtain ⟨_, k2⟩ := dl_keep (i := 1) (x := .int .i64 0) k1
  obtain ⟨_, k3⟩ := dl_keep (i := 2) (x := .string ⟨#[]⟩) k2
  obtain ⟨_, k4⟩ := dl_keep (i := 3) (x := .string d) k3
  obtain ⟨_, k5⟩ := dl_keep (i := 4) (x := v) k4
  exact ownM_dl1 (ownM_dl1 (ownM_dl1 (ownM_dl1 (ownM_dl1 (ownM_dl1 h hp) k1) k2) k3) k4) k5

set_option maxRecDepth 100000 in
set_option maxHeartbeats 2000000 in
theorem code7_any (n : Int) (w : World) : Calls Tryz.prog 28 #[.int .i64 n] w fun e w' => e = .returned (doneV ⟨#[]⟩ (.slice none 0 0) n) ∧ Below w.heap.size w w' := by
  obtain ⟨W1, hW1⟩ : ∃ W, W = w.alloc zD := ⟨_, rfl⟩
  have hk : DlAt W1 w.heap.size ⟨#[]⟩ (.slice none 0 0) 0 := by rw [hW1]; exact heap_alloc_new w _
  have hb : Below w.heap.size w W1 := by rw [hW1]; exact (Below.refl _ _).alloc (Nat.le_refl _) _
  have hbz := dl_setB hb (Nat.le_refl w.heap.size) ⟨#[]⟩ (.slice none 0 0) n
  obtain ⟨c0, c1, c2, c3, c4, c5⟩ := dl_cells hk
  obtain ⟨f0, f1, f2, f3, f4, f5⟩ := dl_frozen hk
  obtain ⟨z0, z1, z2, z3, z4, z5⟩ := dl_cells (dl_set hk ⟨#[]⟩ (.slice none 0 0) n)
  unfold set6D at z0 z1 z2 z3 z4 z5
  have HB := Lib.hid hbz
  clear hbz hk hb
  go_enter Tryz.func28, Tryz.ntmps28
  go_upto_region 1 with fail
  rw [← hW1]
  clear hW1
  go_wp2
  exact bodyPost_ret (v := doneV ⟨#[]⟩ (.slice none 0 0) n) (by simp [results, Tryz.results28, go_sem, z0, z1, z2, z3, z4, z5]) rfl ⟨rfl, HB.out⟩

def addC (KS : List KL) (k : KL) : Int := if 0 ≤ idxK KS k then 68 else if upD k ≠ [] ∧ idxK KS (upD k) < 0 then 32 else 0
structure AdAt (w W : World) (D : ByteArray) (u : Value) : Prop where
  box : BoxN W w.heap.size D u
  res : DlAt W (w.heap.size + 1) ⟨#[]⟩ (.slice none 0 0) 0
  bel : Below w.heap.size w W
theorem AdAt.go {w W W' : World} {D : ByteArray} {u : Value} (h : AdAt w W D u) (hb : Below W.heap.size W W') : AdAt w W' D u :=
  ⟨h.box.below hb (Array.getElem?_eq_some_iff.1 h.box).1, dl_below h.res hb (dl_lt h.res), bthen h.bel hb⟩
set_option maxRecDepth 100000 in
set_option maxHeartbeats 8000000 in
theorem add7_any (L : List ET) (hs : smallE L) (hl : L.length < 200) (v : Value) (D : ByteArray) (hD : D.size ≤ 100000) (A : List AT) (hA : smallA A) (hc : checkD D.data.toList A = 0) (u : Value) (w : World) (h : IsE w.heap.size w L v) (hu : IsA w.heap.size w A u) :
    Calls Tryz.prog 14 #[v, .agg #[.string D, u]] w fun e w' => ∃ d' xa xn xc c, e = .returned (doneV d' (.slice xa xn xc) c) ∧ c = addC (keysE L) (kE (D.data.toList, A)) ∧ (c = 0 → d'.data.toList = nameN D.data.toList ∧ ∃ B, OwnM B w' (.slice xa xn xc) (sortA (normL A))) ∧ Below w.heap.size w w' := by
  obtain ⟨ua, un, uc, rfl⟩ := hu.sl
  obtain ⟨la, lc, rfl⟩ := IsE.sl h
  obtain ⟨W2, hW2⟩ : ∃ W, W = (w.alloc (.cells #[.string D, .slice ua un uc] 27)).alloc zD := ⟨_, rfl⟩
  have hAd : AdAt w W2 D (.slice ua un uc) := by
    rw [hW2]
    refine ⟨(boxN_new w D _).below (Below.refl _ _ |>.alloc (Nat.le_refl _) _) (by simp), ?_, ((Below.refl _ _).alloc (Nat.le_refl _) _).alloc (by simp) _⟩
    have e : (w.alloc (.cells #[.string D, .slice ua un uc] 27)).heap.size = w.heap.size + 1 := by simp
    show ((w.alloc (.cells #[.string D, .slice ua un uc] 27)).alloc zD).heap[w.heap.size + 1]? = _
    rw [← e]
    exact heap_alloc_new _ _
  obtain ⟨ln, hln⟩ : ∃ n, n = L.length := ⟨_, rfl⟩
  rw [← hln] at h ⊢
  have HCk := Lib.hid (fun (W : World) (hW : AdAt w W D (.slice ua un uc)) => checkRef_any D hD A hA (.slice ua un uc) W (hu.below hW.bel hW.bel.size))
  rw [hc] at HCk
  obtain ⟨ko, hko⟩ : ∃ o, o = keyD D.data.toList := ⟨_, rfl⟩
  obtain ⟨K, hK⟩ : ∃ K, K = keyB ko := ⟨_, rfl⟩
  have HKy := Lib.hid (fun (W : World) => keyR_any D hD ua un uc W)
  rw [← hko, ← hK] at HKy
  have hKl : K.data.toList = kE (D.data.toList, A) := by rw [hK, keyB_list, hko]; rfl
  have hKs : K.size ≤ 100000 := by
    have := keyB_size D.data.toList
    rw [bytes_len] at this
    rw [hK, hko]; omega
  obtain ⟨U, hU⟩ : ∃ U, U = upB K := ⟨_, rfl⟩
  have HUp := Lib.hid (fun (W : World) => upRef_any K W (by omega))
  rw [← hU] at HUp
  have hUl : U.data.toList = upD (kE (D.data.toList, A)) := by rw [hU, upK_list, hKl]
  obtain ⟨I, hI⟩ : ∃ I, I = idxK (keysE L) K.data.toList := ⟨_, rfl⟩
  have HF1 := Lib.hid (fun (W : World) (hW : AdAt w W D (.slice ua un uc)) => findR7_any L hs (.slice la ln lc) K W (h.below hW.bel hW.bel.size))
  rw [← hI] at HF1
  obtain ⟨J, hJ⟩ : ∃ J, J = idxK (keysE L) U.data.toList := ⟨_, rfl⟩
  have HF2 := Lib.hid (fun (W : World) (hW : AdAt w W D (.slice ua un uc)) => findR7_any L hs (.slice la ln lc) U W (h.below hW.bel hW.bel.size))
  rw [← hJ] at HF2
  have HNr := Lib.hid (fun (W : World) (hW : AdAt w W D (.slice ua un uc)) => normRef_own D hD A hA (.slice ua un uc) W (hu.below hW.bel hW.bel.size))
  obtain ⟨TN, hTN⟩ : ∃ T : ByteArray, strV (nameN D.data.toList) = .string T := ⟨_, rfl⟩
  have hTNl : TN.data.toList = nameN D.data.toList := by
    generalize nameN D.data.toList = NM at hTN ⊢
    unfold strV at hTN
    injection hTN with e
    rw [← e]
  have HTN := Lib.hid hTNl
  rw [hTN] at HNr
  have hcA : addC (keysE L) (kE (D.data.toList, A)) = if 0 ≤ I then 68 else if U.data.toList ≠ [] ∧ J < 0 then 32 else 0 := by
    rw [hI, hJ, hUl, hKl]; rfl
  have HcA := Lib.hid hcA
  have HS := Lib.hid hA
  have HC8 := Lib.hid (fun (n : Int) (W : World) => code7_any n W)
  have r1 : decide ((200 : Int) ≤ (ln : Int)) = false := by simp; omega
  have HAd := Lib.hid hAd
  obtain ⟨b0, b1⟩ := hAd.box.cells
  clear hTN hTNl hcA hc hko hK hKl hKs hU hUl hI hJ hAd h hu hA hs hl hln
  by_cases hI0 : 0 ≤ I
  · have i1 : decide ((0 : Int) ≤ I) = true := by simpa using hI0
    go_enter Tryz.func14, Tryz.ntmps14
    go_upto_region 1 with fail
    rw [← hW2]
    clear hW2
    go_wp2_with (first
      | (go_at_call 27; refine (HCk.out _ HAd.out).mono ?_; rintro e xH3 ⟨rfl, hbH3⟩; have H3 := Lib.hid (HAd.out.go hbH3); have b0 := H3.out.box.cells.1; have b1 := H3.out.box.cells.2; clear hbH3)
      | (go_at_call 6; refine (HKy.out _).mono ?_; rintro e xH4 ⟨rfl, hbH4⟩; have H4 := Lib.hid (H3.out.go hbH4); have b0 := H4.out.box.cells.1; have b1 := H4.out.box.cells.2; clear hbH4)
      | (go_at_call 8; refine (HUp.out _).mono ?_; rintro e x ⟨rfl, rfl⟩)
      | (go_at_call 7; refine (HF1.out _ H4.out).mono ?_; rintro e xH5 ⟨rfl, hbH5⟩; have H5 := Lib.hid (H4.out.go hbH5); have b0 := H5.out.box.cells.1; have b1 := H5.out.box.cells.2; clear hbH5)
      | (go_at_call 28; refine (HC8.out 68 _).mono ?_; rintro e xH6 ⟨rfl, hbH6⟩; have H6 := Lib.hid (H5.out.go hbH6); clear hbH6; (obtain ⟨c0, c1, c2, c3, c4, c5⟩ := dl_cells H6.out.res); (obtain ⟨f0, f1, f2, f3, f4, f5⟩ := dl_frozen H6.out.res); (obtain ⟨z0, z1, z2, z3, z4, z5⟩ := dl_cells (dl_set H6.out.res ⟨#[]⟩ (.slice none 0 0) 68)); unfold set6D at z0 z1 z2 z3 z4 z5))
    refine bodyPost_ret (v := doneV ⟨#[]⟩ (.slice none 0 0) 68) (by simp [results, Tryz.results14, go_sem, z0, z1, z2, z3, z4, z5]) rfl ⟨⟨#[]⟩, none, 0, 0, 68, rfl, ?_, ?_, ?_⟩
    · rw [HcA.out, if_pos hI0]
    · intro h; exact absurd h (by decide)
    · exact dl_setB H6.out.bel (Nat.le_succ _) ⟨#[]⟩ (.slice none 0 0) 68
  · have i1 : decide ((0 : Int) ≤ I) = false := by simpa using hI0
    by_cases hU0 : U.data.toList = []
    · obtain ⟨e1, e2⟩ := bytes_nil hU0
      have e3 : (U.toList == []) = true := by rw [e1]; rfl
      have e4 : (U.toList != []) = false := by rw [e1]; rfl
      go_enter Tryz.func14, Tryz.ntmps14
      go_upto_region 1 with fail
      rw [← hW2]
      clear hW2
      go_wp2_with (first
        | (go_at_call 27; refine (HCk.out _ HAd.out).mono ?_; rintro e xH3 ⟨rfl, hbH3⟩; have H3 := Lib.hid (HAd.out.go hbH3); have b0 := H3.out.box.cells.1; have b1 := H3.out.box.cells.2; clear hbH3)
        | (go_at_call 6; refine (HKy.out _).mono ?_; rintro e xH4 ⟨rfl, hbH4⟩; have H4 := Lib.hid (H3.out.go hbH4); have b0 := H4.out.box.cells.1; have b1 := H4.out.box.cells.2; clear hbH4)
        | (go_at_call 8; refine (HUp.out _).mono ?_; rintro e x ⟨rfl, rfl⟩)
        | (go_at_call 7; refine (HF1.out _ H4.out).mono ?_; rintro e xH5 ⟨rfl, hbH5⟩; have H5 := Lib.hid (H4.out.go hbH5); have b0 := H5.out.box.cells.1; have b1 := H5.out.box.cells.2; clear hbH5)
        | (go_at_call 19; refine (HNr.out _ H5.out).mono ?_; rintro e xH6 ⟨v9, rfl, ho9, hbH6⟩; (obtain ⟨P9, hr9, hs9⟩ := id ho9); (obtain ⟨va, vc, hve⟩ := rowP_slice hr9); (obtain ⟨vn, hvn⟩ : ∃ n, n = P9.length := ⟨_, rfl⟩); rw [← hvn] at hve; subst hve; have HLt := Lib.hid (dl_lt H5.out.res); have H6 := Lib.hid (H5.out.go hbH6); have HO9 := Lib.hid ho9; clear hbH6 ho9 hr9 hs9 hvn; (obtain ⟨c0, c1, c2, c3, c4, c5⟩ := dl_cells H6.out.res); (obtain ⟨f0, f1, f2, f3, f4, f5⟩ := dl_frozen H6.out.res); (obtain ⟨z0, z1, z2, z3, z4, z5⟩ := dl_cells (dl_set H6.out.res TN (.slice va vn vc) 0)); unfold set6D at z0 z1 z2 z3 z4 z5))
      have ho := ownM_dl HO9.out H6.out.res TN (.slice va vn vc) 0
      have hbz := dl_setB (b := w.heap.size + 1) H6.out.bel (Nat.le_succ w.heap.size) TN (.slice va vn vc) 0
      unfold set6D at ho hbz
      refine bodyPost_ret (v := doneV TN (.slice va vn vc) 0) (by simp [results, Tryz.results14, go_sem, z0, z1, z2, z3, z4, z5]) rfl ⟨TN, va, vn, vc, 0, rfl, ?_, ?_, ?_⟩
      · rw [HcA.out, if_neg (show ¬ 0 ≤ I by omega), if_neg (fun h => h.1 hU0)]
      · intro _
        refine ⟨?_, ?_⟩
        · exact HTN.out
        · exact ⟨_, ho⟩
      · exact hbz
    · obtain ⟨e1, e2⟩ := bytes_some hU0
      have e3 : (U.toList == []) = false := by simpa using e1
      have e4 : (U.toList != []) = true := by simpa using e1
      by_cases hJ0 : J < 0
      · have j1 : decide (J < (0 : Int)) = true := by simpa using hJ0
        have tok : Hid ((0 : Nat) = 0) := Lib.hid rfl
        go_enter Tryz.func14, Tryz.ntmps14
        go_upto_region 1 with fail
        rw [← hW2]
        clear hW2
        go_wp2_with (first
          | (go_at_call 27; refine (HCk.out _ HAd.out).mono ?_; rintro e xH3 ⟨rfl, hbH3⟩; have H3 := Lib.hid (HAd.out.go hbH3); have b0 := H3.out.box.cells.1; have b1 := H3.out.box.cells.2; clear hbH3)
          | (go_at_call 6; refine (HKy.out _).mono ?_; rintro e xH4 ⟨rfl, hbH4⟩; have H4 := Lib.hid (H3.out.go hbH4); have b0 := H4.out.box.cells.1; have b1 := H4.out.box.cells.2; clear hbH4)
          | (go_at_call 8; refine (HUp.out _).mono ?_; rintro e x ⟨rfl, rfl⟩)
          | (go_at_call 7; (have _t := tok); clear tok; refine (HF1.out _ H4.out).mono ?_; rintro e xH5 ⟨rfl, hbH5⟩; have H5 := Lib.hid (H4.out.go hbH5); have b0 := H5.out.box.cells.1; have b1 := H5.out.box.cells.2; clear hbH5)
          | (go_at_call 7; refine (HF2.out _ H5.out).mono ?_; rintro e xH6 ⟨rfl, hbH6⟩; have H6 := Lib.hid (H5.out.go hbH6); have b0 := H6.out.box.cells.1; have b1 := H6.out.box.cells.2; clear hbH6)
          | (go_at_call 28; refine (HC8.out 32 _).mono ?_; rintro e xH7 ⟨rfl, hbH7⟩; have H7 := Lib.hid (H6.out.go hbH7); clear hbH7; (obtain ⟨c0, c1, c2, c3, c4, c5⟩ := dl_cells H7.out.res); (obtain ⟨f0, f1, f2, f3, f4, f5⟩ := dl_frozen H7.out.res); (obtain ⟨z0, z1, z2, z3, z4, z5⟩ := dl_cells (dl_set H7.out.res ⟨#[]⟩ (.slice none 0 0) 32)); unfold set6D at z0 z1 z2 z3 z4 z5))
        refine bodyPost_ret (v := doneV ⟨#[]⟩ (.slice none 0 0) 32) (by simp [results, Tryz.results14, go_sem, z0, z1, z2, z3, z4, z5]) rfl ⟨⟨#[]⟩, none, 0, 0, 32, rfl, ?_, ?_, ?_⟩
        · rw [HcA.out, if_neg (show ¬ 0 ≤ I by omega), if_pos ⟨hU0, (show J < 0 by omega)⟩]
        · intro h; exact absurd h (by decide)
        · exact dl_setB H7.out.bel (Nat.le_succ _) ⟨#[]⟩ (.slice none 0 0) 32
      · have j1 : decide (J < (0 : Int)) = false := by simpa using hJ0
        have tok : Hid ((0 : Nat) = 0) := Lib.hid rfl
        go_enter Tryz.func14, Tryz.ntmps14
        go_upto_region 1 with fail
        rw [← hW2]
        clear hW2
        go_wp2_with (first
          | (go_at_call 27; refine (HCk.out _ HAd.out).mono ?_; rintro e xH3 ⟨rfl, hbH3⟩; have H3 := Lib.hid (HAd.out.go hbH3); have b0 := H3.out.box.cells.1; have b1 := H3.out.box.cells.2; clear hbH3)
          | (go_at_call 6; refine (HKy.out _).mono ?_; rintro e xH4 ⟨rfl, hbH4⟩; have H4 := Lib.hid (H3.out.go hbH4); have b0 := H4.out.box.cells.1; have b1 := H4.out.box.cells.2; clear hbH4)
          | (go_at_call 8; refine (HUp.out _).mono ?_; rintro e x ⟨rfl, rfl⟩)
          | (go_at_call 7; (have _t := tok); clear tok; refine (HF1.out _ H4.out).mono ?_; rintro e xH5 ⟨rfl, hbH5⟩; have H5 := Lib.hid (H4.out.go hbH5); have b0 := H5.out.box.cells.1; have b1 := H5.out.box.cells.2; clear hbH5)
          | (go_at_call 7; refine (HF2.out _ H5.out).mono ?_; rintro e xH6 ⟨rfl, hbH6⟩; have H6 := Lib.hid (H5.out.go hbH6); have b0 := H6.out.box.cells.1; have b1 := H6.out.box.cells.2; clear hbH6)
          | (go_at_call 19; refine (HNr.out _ H6.out).mono ?_; rintro e xH7 ⟨v9, rfl, ho9, hbH7⟩; (obtain ⟨P9, hr9, hs9⟩ := id ho9); (obtain ⟨va, vc, hve⟩ := rowP_slice hr9); (obtain ⟨vn, hvn⟩ : ∃ n, n = P9.length := ⟨_, rfl⟩); rw [← hvn] at hve; subst hve; have HLt := Lib.hid (dl_lt H6.out.res); have H7 := Lib.hid (H6.out.go hbH7); have HO9 := Lib.hid ho9; clear hbH7 ho9 hr9 hs9 hvn; (obtain ⟨c0, c1, c2, c3, c4, c5⟩ := dl_cells H7.out.res); (obtain ⟨f0, f1, f2, f3, f4, f5⟩ := dl_frozen H7.out.res); (obtain ⟨z0, z1, z2, z3, z4, z5⟩ := dl_cells (dl_set H7.out.res TN (.slice va vn vc) 0)); unfold set6D at z0 z1 z2 z3 z4 z5))
        have ho := ownM_dl HO9.out H7.out.res TN (.slice va vn vc) 0
        have hbz := dl_setB (b := w.heap.size + 1) H7.out.bel (Nat.le_succ w.heap.size) TN (.slice va vn vc) 0
        unfold set6D at ho hbz
        refine bodyPost_ret (v := doneV TN (.slice va vn vc) 0) (by simp [results, Tryz.results14, go_sem, z0, z1, z2, z3, z4, z5]) rfl ⟨TN, va, vn, vc, 0, rfl, ?_, ?_, ?_⟩
        · rw [HcA.out, if_neg (show ¬ 0 ≤ I by omega), if_neg (fun h => (show ¬ J < 0 by omega) h.2)]
        · intro _
          refine ⟨?_, ?_⟩
          · exact HTN.out
          · exact ⟨_, ho⟩
        · exact hbz
end Go.Proofs.YtpnbcmblnplbgaaGreatDoor


namespace Go.Proofs.YtpnbcmblnplbgaaGreatDoor
open Go.RowKit
set_option linter.unusedVariables false
set_option linter.unusedSimpArgs false

abbrev deltaV (g d : ByteArray) (v : Value) : Value := .agg #[.int .i64 0, .int .i64 0, .string g, .string d, v]
set_option maxRecDepth 100000 in
set_option maxHeartbeats 2000000 in
theorem chHas_any (L : List ET) (hs : smallE L) (v : Value) (K : ByteArray) (hK : K.size ≤ 100000) (w : World) (h : IsE w.heap.size w L v) :
    Calls Tryz.prog 38 #[v, .string K] w fun e w' => e = .returned (.bool (decide (0 ≤ findK (keysE L) K.data.toList))) ∧ Below w.heap.size w w' := by
  have HF := Lib.hid (treeFind_any L hs v K hK w h)
  obtain ⟨la, lc, rfl⟩ := IsE.sl h
  obtain ⟨I, hI⟩ : ∃ I, I = findK (keysE L) K.data.toList := ⟨_, rfl⟩
  rw [← hI] at HF ⊢
  clear h hI
  go_enter Tryz.func38, Tryz.ntmps38
  go_wp2_with (go_at_call 61; refine (HF.out).mono ?_; rintro e w2 ⟨rfl, hb2⟩; have HB2 := Lib.hid hb2; clear hb2)
  go_ret
  exact ⟨by first | rfl | simp, HB2.out⟩
def lookC (KS : List KL) (k : KL) : Int × Int := if k = [] then (0, 34) else if findK KS k < 0 then (0, 32) else (findK KS k, 0)
set_option maxRecDepth 100000 in
set_option maxHeartbeats 4000000 in
theorem chLook_any (L : List ET) (hs : smallE L) (v : Value) (N : ByteArray) (hN : N.size ≤ 100000) (w : World) (h : IsE w.heap.size w L v) :
    Calls Tryz.prog 46 #[v, .string N] w fun e w' => ∃ key : ByteArray, e = .returned (.tuple #[.int .i64 (lookC (keysE L) (keyB (keyD N.data.toList)).data.toList).1, .string key, .int .i64 (lookC (keysE L) (keyB (keyD N.data.toList)).data.toList).2]) ∧
      ((lookC (keysE L) (keyB (keyD N.data.toList)).data.toList).2 = 0 → key = keyB (keyD N.data.toList)) ∧ Below w.heap.size w w' := by
  obtain ⟨K, hK⟩ : ∃ K, K = keyB (keyD N.data.toList) := ⟨_, rfl⟩
  have hKs : K.size ≤ 100000 := by
    have := keyB_size N.data.toList
    rw [bytes_len] at this
    rw [hK]; omega
  have HKy := Lib.hid (key_any N (by omega) w)
  rw [keyV_kB, ← hK] at HKy
  rw [← hK]
  have HF := Lib.hid (fun (W : World) (hb : Below w.heap.size w W) => treeFind_any L hs v K hKs W (h.below hb hb.size))
  obtain ⟨la, lc, rfl⟩ := IsE.sl h
  obtain ⟨I, hI⟩ : ∃ I, I = findK (keysE L) K.data.toList := ⟨_, rfl⟩
  have hc : lookC (keysE L) K.data.toList = if K.data.toList = [] then (0, 34) else if I < 0 then (0, 32) else (I, 0) := by unfold lookC; rw [← hI]
  rw [← hI] at HF
  obtain ⟨b, hb⟩ : ∃ b, b = (keyD N.data.toList).isSome := ⟨_, rfl⟩
  rw [← hb] at HKy
  rw [hc]
  clear h hI hK hc hb
  by_cases hk : K.data.toList = []
  · obtain ⟨e1, e2⟩ := bytes_nil hk
    have e3 : (K.toList == []) = true := by rw [e1]; rfl
    rw [if_pos hk]
    clear hk
    go_enter Tryz.func46, Tryz.ntmps46
    go_wp2_with (go_at_call 57; refine (HKy.out).mono ?_; rintro e w2 ⟨rfl, hb2⟩; have HB2 := Lib.hid hb2; clear hb2)
    go_ret3
    exact ⟨_, rfl, fun h => absurd h (by decide), HB2.out⟩
  · obtain ⟨e1, e2⟩ := bytes_some hk
    have e3 : (K.toList == []) = false := by simpa using e1
    rw [if_neg hk]
    clear hk
    by_cases hi : I < 0
    · have i1 : decide (I < (0 : Int)) = true := by simpa using hi
      rw [if_pos hi]
      clear hi
      go_enter Tryz.func46, Tryz.ntmps46
      go_wp2_with (first
        | (go_at_call 57; refine (HKy.out).mono ?_; rintro e w2 ⟨rfl, hb2⟩; have HB2 := Lib.hid hb2; clear hb2)
        | (go_at_call 61; refine (HF.out _ HB2.out).mono ?_; rintro e w3 ⟨rfl, hb3⟩; have HB3 := Lib.hid (bthen HB2.out hb3); clear hb3))
      go_ret3
      exact ⟨_, rfl, fun h => absurd h (by decide), HB3.out⟩
    · have i1 : decide (I < (0 : Int)) = false := by simpa using hi
      rw [if_neg hi]
      clear hi
      go_enter Tryz.func46, Tryz.ntmps46
      go_wp2_with (first
        | (go_at_call 57; refine (HKy.out).mono ?_; rintro e w2 ⟨rfl, hb2⟩; have HB2 := Lib.hid hb2; clear hb2)
        | (go_at_call 61; refine (HF.out _ HB2.out).mono ?_; rintro e w3 ⟨rfl, hb3⟩; have HB3 := Lib.hid (bthen HB2.out hb3); clear hb3))
      go_ret3
      exact ⟨_, rfl, fun _ => rfl, HB3.out⟩
def leafC (KS : List KL) (k : KL) : Int × Int := if (lookC KS k).2 = 0 ∧ kidsP KS k ≠ [] then (0, 66) else lookC KS k
set_option maxRecDepth 100000 in
set_option maxHeartbeats 4000000 in
theorem chLeaf_any (L : List ET) (hs : smallE L) (hl : L.length ≤ 1000) (v : Value) (N : ByteArray) (hN : N.size ≤ 100000) (w : World) (h : IsE w.heap.size w L v) :
    Calls Tryz.prog 25 #[v, .string N] w fun e w' => ∃ key : ByteArray, e = .returned (.tuple #[.int .i64 (leafC (keysE L) (keyB (keyD N.data.toList)).data.toList).1, .string key, .int .i64 (leafC (keysE L) (keyB (keyD N.data.toList)).data.toList).2]) ∧
      ((leafC (keysE L) (keyB (keyD N.data.toList)).data.toList).2 = 0 → key = keyB (keyD N.data.toList)) ∧ Below w.heap.size w w' := by
  obtain ⟨K, hK⟩ : ∃ K, K = keyB (keyD N.data.toList) := ⟨_, rfl⟩
  have HLk := Lib.hid (chLook_any L hs v N hN w h)
  rw [← hK] at HLk ⊢
  obtain ⟨P, hP⟩ : ∃ P, P = lookC (keysE L) K.data.toList := ⟨_, rfl⟩
  have hlc : leafC (keysE L) K.data.toList = if P.2 = 0 ∧ kidsP (keysE L) K.data.toList ≠ [] then (0, 66) else P := by unfold leafC; rw [← hP]
  rw [← hP] at HLk
  rw [hlc]
  obtain ⟨KS, hKS⟩ : ∃ S, S = kidsP (keysE L) K.data.toList := ⟨_, rfl⟩
  have HKi := Lib.hid (fun (W : World) (hb : Below w.heap.size w W) => treeKids_any L hs v K W (h.below hb hb.size))
  simp only [← hKS] at HKi ⊢
  obtain ⟨kl, hkl⟩ : ∃ n, n = KS.length := ⟨_, rfl⟩
  have hkl9 : kl ≤ 1000 := by
    rw [hkl, hKS]
    have h2 : (kidsP (keysE L) K.data.toList).length ≤ (keysE L).length := List.length_filter_le _ _
    rw [keysE_len] at h2
    omega
  have HKl := Lib.hid hkl
  have HN9 := Lib.hid (show (KS = []) ↔ kl = 0 from by rw [hkl]; exact List.length_eq_zero_iff.symm)
  obtain ⟨la, lc, rfl⟩ := IsE.sl h
  obtain ⟨p1, p2⟩ := P
  dsimp only at HLk ⊢
  clear h hP hlc hKS hK hkl
  by_cases h0 : p2 = 0
  · subst h0
    by_cases hk : kl = 0
    · have e1 : ¬ ((0 : Int) = 0 ∧ KS ≠ []) := fun h9 => h9.2 (HN9.out.2 hk)
      rw [if_neg e1]
      have i1 : decide ((kl : Int) > 0) = false := by simp; omega
      have i1' : decide ((0 : Int) < (kl : Int)) = false := by simp; omega
      have i1'' : decide (0 < kl) = false := by simp; omega
      clear e1 hk
      go_enter Tryz.func25, Tryz.ntmps25
      go_wp2_with (first
        | (go_at_call 46; refine (HLk.out).mono ?_; rintro e w2 ⟨key, rfl, hkey, hb2⟩; (obtain rfl := hkey rfl); have HB2 := Lib.hid hb2; clear hb2 hkey)
        | (go_at_call 47; refine (HKi.out _ HB2.out).mono ?_; rintro e w3 ⟨v3, rfl, hk3, hb3⟩; (obtain ⟨ka, kc, hke⟩ := ownS_slice hk3); rw [← HKl.out] at hke; subst hke; have HB3 := Lib.hid (bthen HB2.out hb3); clear hk3 hb3))
      go_ret3
      exact ⟨_, rfl, fun _ => rfl, HB3.out⟩
    · have e1 : (0 : Int) = 0 ∧ KS ≠ [] := ⟨rfl, fun h9 => hk (HN9.out.1 h9)⟩
      rw [if_pos e1]
      have i1 : decide ((kl : Int) > 0) = true := by simp; omega
      have i1' : decide ((0 : Int) < (kl : Int)) = true := by simp; omega
      have i1'' : decide (0 < kl) = true := by simp; omega
      clear e1 hk
      go_enter Tryz.func25, Tryz.ntmps25
      go_wp2_with (first
        | (go_at_call 46; refine (HLk.out).mono ?_; rintro e w2 ⟨key, rfl, hkey, hb2⟩; (obtain rfl := hkey rfl); have HB2 := Lib.hid hb2; clear hb2 hkey)
        | (go_at_call 47; refine (HKi.out _ HB2.out).mono ?_; rintro e w3 ⟨v3, rfl, hk3, hb3⟩; (obtain ⟨ka, kc, hke⟩ := ownS_slice hk3); rw [← HKl.out] at hke; subst hke; have HB3 := Lib.hid (bthen HB2.out hb3); clear hk3 hb3))
      go_ret3
      exact ⟨_, rfl, fun h => absurd h (by decide), HB3.out⟩
  · have e1 : ¬ (p2 = 0 ∧ KS ≠ []) := fun h9 => h0 h9.1
    rw [if_neg e1]
    have i1 : decide (p2 = 0) = false := decide_eq_false h0
    have i2 : (p2 == 0) = false := beq_eq_false_iff_ne.2 h0
    have H0 := Lib.hid h0
    clear e1 h0
    go_enter Tryz.func25, Tryz.ntmps25
    go_wp2_with (first
      | (go_at_call 46; refine (HLk.out).mono ?_; rintro e w2 ⟨key, rfl, hkey, hb2⟩; have HB2 := Lib.hid hb2; clear hb2 hkey))
    go_ret3
    exact ⟨_, rfl, fun h => absurd h H0.out, HB2.out⟩
set_option maxRecDepth 100000 in
set_option maxHeartbeats 8000000 in
theorem chNew_any (L : List ET) (hs : smallE L) (hl : L.length < 200) (v : Value) (D : ByteArray) (hD : D.size ≤ 100000) (A : List AT) (hc : checkD D.data.toList A = 0) (hkne : kE (D.data.toList, A) ≠ []) (u : Value) (w : World) (hw : LaidW w) (hlf : LaidF w) (h : IsE w.heap.size w L v) (hu : IsA w.heap.size w A u) :
    Calls Tryz.prog 21 #[v, .agg #[.string D, u]] w fun e w' => e = .returned (.int .i64 (addC (keysE L) (kE (D.data.toList, A)))) ∧ Below w.heap.size w w' := by
  obtain ⟨ua, un, uc, rfl⟩ := hu.sl
  obtain ⟨la, lc, rfl⟩ := IsE.sl h
  obtain ⟨W1, hW1⟩ : ∃ W, W = w.alloc (.cells #[.string D, .slice ua un uc] 27) := ⟨_, rfl⟩
  have hb1 : Below w.heap.size w W1 := by rw [hW1]; exact (Below.refl _ _).alloc (Nat.le_refl _) _
  obtain ⟨eb, heb⟩ : ∃ k, k = w.heap.size := ⟨_, rfl⟩
  have hc1 : W1.heap[eb]? = some (.cells #[.string D, .slice ua un uc] 27 (0, 0)) := by rw [hW1, heb]; exact heap_alloc_new w _
  have HCe : Hid (∀ W, Below W1.heap.size W1 W → W.cell? ⟨eb, 0, none⟩ = some (.string D) ∧ W.cell? ⟨eb, 1, none⟩ = some (.slice ua un uc)) := Lib.hid (fun W hW => by
    have := (hW.block eb (Array.getElem?_eq_some_iff.1 hc1).1).trans hc1
    simp [World.cell?, this])
  obtain ⟨ln, hln⟩ : ∃ n, n = L.length := ⟨_, rfl⟩
  rw [← hln] at h ⊢
  have HCk := Lib.hid (fun (W : World) (hW : Below w.heap.size w W) => checkE_any D (by omega) A (.slice ua un uc) W (hw.below hW) (hlf.below hW) (hu.below hW hW.size))
  rw [hc] at HCk
  obtain ⟨ko, hko⟩ : ∃ o, o = keyD D.data.toList := ⟨_, rfl⟩
  obtain ⟨K, hK⟩ : ∃ K, K = keyB ko := ⟨_, rfl⟩
  have HKy := Lib.hid (fun (W : World) => treeKey_any D hD ua un uc W)
  rw [← hko, ← hK] at HKy
  have hKl : K.data.toList = kE (D.data.toList, A) := by rw [hK, keyB_list, hko]; rfl
  have hKs : K.size ≤ 100000 := by
    have := keyB_size D.data.toList
    rw [bytes_len] at this
    rw [hK, hko]; omega
  obtain ⟨U, hU⟩ : ∃ U, U = upB K := ⟨_, rfl⟩
  have HUp := Lib.hid (fun (W : World) => dnUp_any clone_any K W (by omega))
  rw [← hU] at HUp
  have hUl : U.data.toList = upD (kE (D.data.toList, A)) := by rw [hU, upK_list, hKl]
  have hUs : U.size ≤ 100000 := by
    have h9 := upB_size K
    have h8 : (upD K.data.toList).length ≤ K.data.toList.length := by
      by_cases h7 : K.data.toList = []
      · rw [h7]; exact Nat.le_refl _
      · exact Nat.le_of_lt (upD_lt _ h7)
    rw [bytes_len] at h8
    rw [hU]; omega
  obtain ⟨I, hI⟩ : ∃ I, I = findK (keysE L) K.data.toList := ⟨_, rfl⟩
  have HF1 := Lib.hid (fun (W : World) (hW : Below w.heap.size w W) => chHas_any L hs (.slice la ln lc) K hKs W (h.below hW hW.size))
  rw [← hI] at HF1
  obtain ⟨J, hJ⟩ : ∃ J, J = findK (keysE L) U.data.toList := ⟨_, rfl⟩
  have HF2 := Lib.hid (fun (W : World) (hW : Below w.heap.size w W) => chHas_any L hs (.slice la ln lc) U hUs W (h.below hW hW.size))
  rw [← hJ] at HF2
  have hcA : addC (keysE L) (kE (D.data.toList, A)) = if 0 ≤ I then 68 else if U.data.toList ≠ [] ∧ J < 0 then 32 else 0 := by
    rw [hI, hJ, hUl, hKl]
    unfold addC findK
    rw [if_neg hkne]
    by_cases hu0 : upD (kE (D.data.toList, A)) = []
    · simp [hu0]
    · rw [if_neg hu0]
  have n1 : decide ((ln : Int) ≥ 200) = false := by simp; omega
  have n1' : decide ((200 : Int) ≤ (ln : Int)) = false := by simp; omega
  have n1'' : decide (200 ≤ ln) = false := by simp; omega
  have HB1 := Lib.hid hb1
  have HW1 := Lib.hid hW1.symm
  rw [hcA]
  clear h hu hb1 hW1 hc1 hln hc hko hK hKl hKs hU hUl hUs hI hJ hcA hw hlf hl hkne
  have tok : Hid ((0 : Nat) = 0) := Lib.hid rfl
  by_cases hi : 0 ≤ I
  · have i1 : decide (0 ≤ I) = true := by simpa using hi
    rw [if_pos hi]
    rw [i1] at HF1
    clear hi
    go_enter Tryz.func21, Tryz.ntmps21
    go_upto_region 1 with fail
    rw [HW1.out, ← heb]
    clear heb
    obtain ⟨y0, y1⟩ := HCe.out W1 (Below.refl _ _)
    go_wp2_with (first
      | (go_at_call 36; refine (HCk.out _ HB1.out).mono ?_; rintro e w2 ⟨rfl, hb2⟩; have HB2 := Lib.hid (bthen HB1.out hb2); (obtain ⟨x0, x1⟩ := HCe.out w2 hb2); clear hb2) | (go_at_call 37; refine (HKy.out _).mono ?_; rintro e w3 ⟨rfl, hb3⟩; have HB3 := Lib.hid (bthen HB2.out hb3); clear hb3)
      | (go_at_call 38; refine (HF1.out _ HB3.out).mono ?_; rintro e w4 ⟨rfl, hb4⟩; have HB4 := Lib.hid (bthen HB3.out hb4); clear hb4))
    go_ret
    exact ⟨rfl, HB4.out⟩
  · have i1 : decide (0 ≤ I) = false := by simpa using hi
    rw [if_neg hi]
    rw [i1] at HF1
    clear hi
    by_cases hu0 : U.data.toList = []
    · obtain ⟨e1, e2⟩ := bytes_nil hu0
      have e3 : (U.toList == []) = true := by rw [e1]; rfl
      have e4 : (U.toList != []) = false := by rw [e1]; rfl
      have hn : ¬ (U.data.toList ≠ [] ∧ J < 0) := fun h9 => h9.1 hu0
      rw [if_neg hn]
      clear hn hu0
      go_enter Tryz.func21, Tryz.ntmps21
      go_upto_region 1 with fail
      rw [HW1.out, ← heb]
      clear heb
      obtain ⟨y0, y1⟩ := HCe.out W1 (Below.refl _ _)
      go_wp2_with (first
        | (go_at_call 36; refine (HCk.out _ HB1.out).mono ?_; rintro e w2 ⟨rfl, hb2⟩; have HB2 := Lib.hid (bthen HB1.out hb2); (obtain ⟨x0, x1⟩ := HCe.out w2 hb2); clear hb2) | (go_at_call 37; refine (HKy.out _).mono ?_; rintro e w3 ⟨rfl, hb3⟩; have HB3 := Lib.hid (bthen HB2.out hb3); clear hb3)
        | (go_at_call 38; refine (HF1.out _ HB3.out).mono ?_; rintro e w4 ⟨rfl, hb4⟩; have HB4 := Lib.hid (bthen HB3.out hb4); clear hb4)
        | (go_at_call 39; refine (HUp.out _).mono ?_; rintro e w5 ⟨rfl, hb5⟩; have HB5 := Lib.hid (bthen HB4.out hb5); clear hb5))
      go_ret
      exact ⟨rfl, HB5.out⟩
    · obtain ⟨e1, e2⟩ := bytes_some hu0
      have e3 : (U.toList == []) = false := by simpa using e1
      have e4 : (U.toList != []) = true := by simpa using e1
      by_cases hj : J < 0
      · have j1 : decide (0 ≤ J) = false := by simp; omega
        rw [if_pos ⟨hu0, hj⟩]
        rw [j1] at HF2
        clear hu0 hj
        go_enter Tryz.func21, Tryz.ntmps21
        go_upto_region 1 with fail
        rw [HW1.out, ← heb]
        clear heb
        obtain ⟨y0, y1⟩ := HCe.out W1 (Below.refl _ _)
        go_wp2_with (first
          | (go_at_call 36; refine (HCk.out _ HB1.out).mono ?_; rintro e w2 ⟨rfl, hb2⟩; have HB2 := Lib.hid (bthen HB1.out hb2); (obtain ⟨x0, x1⟩ := HCe.out w2 hb2); clear hb2) | (go_at_call 37; refine (HKy.out _).mono ?_; rintro e w3 ⟨rfl, hb3⟩; have HB3 := Lib.hid (bthen HB2.out hb3); clear hb3)
          | (go_at_call 38; (have tk := tok; clear tok); refine (HF1.out _ HB3.out).mono ?_; rintro e w4 ⟨rfl, hb4⟩; have HB4 := Lib.hid (bthen HB3.out hb4); clear hb4)
          | (go_at_call 39; refine (HUp.out _).mono ?_; rintro e w5 ⟨rfl, hb5⟩; have HB5 := Lib.hid (bthen HB4.out hb5); clear hb5)
          | (go_at_call 38; refine (HF2.out _ HB5.out).mono ?_; rintro e w6 ⟨rfl, hb6⟩; have HB6 := Lib.hid (bthen HB5.out hb6); clear hb6))
        go_ret
        exact ⟨rfl, HB6.out⟩
      · have j1 : decide (0 ≤ J) = true := by simp; omega
        have hn : ¬ (U.data.toList ≠ [] ∧ J < 0) := fun h9 => hj h9.2
        rw [if_neg hn]
        rw [j1] at HF2
        clear hn hu0 hj
        go_enter Tryz.func21, Tryz.ntmps21
        go_upto_region 1 with fail
        rw [HW1.out, ← heb]
        clear heb
        obtain ⟨y0, y1⟩ := HCe.out W1 (Below.refl _ _)
        go_wp2_with (first
          | (go_at_call 36; refine (HCk.out _ HB1.out).mono ?_; rintro e w2 ⟨rfl, hb2⟩; have HB2 := Lib.hid (bthen HB1.out hb2); (obtain ⟨x0, x1⟩ := HCe.out w2 hb2); clear hb2) | (go_at_call 37; refine (HKy.out _).mono ?_; rintro e w3 ⟨rfl, hb3⟩; have HB3 := Lib.hid (bthen HB2.out hb3); clear hb3)
          | (go_at_call 38; (have tk := tok; clear tok); refine (HF1.out _ HB3.out).mono ?_; rintro e w4 ⟨rfl, hb4⟩; have HB4 := Lib.hid (bthen HB3.out hb4); clear hb4)
          | (go_at_call 39; refine (HUp.out _).mono ?_; rintro e w5 ⟨rfl, hb5⟩; have HB5 := Lib.hid (bthen HB4.out hb5); clear hb5)
          | (go_at_call 38; refine (HF2.out _ HB5.out).mono ?_; rintro e w6 ⟨rfl, hb6⟩; have HB6 := Lib.hid (bthen HB5.out hb6); clear hb6))
        go_ret
        exact ⟨rfl, HB6.out⟩
end Go.Proofs.YtpnbcmblnplbgaaGreatDoor


namespace Go.Proofs.YtpnbcmblnplbgaaGreatDoor
open Go.RowKit
set_option linter.unusedVariables false
set_option linter.unusedSimpArgs false

abbrev zX : Obj := .cells #[.int .i64 0, .int .i64 0, .string ⟨#[]⟩, .string ⟨#[]⟩, .slice none 0 0] 35
abbrev DxAt (W : World) (b : Nat) (g d : ByteArray) (v : Value) : Prop := W.heap[b]? = some (.cells #[.int .i64 0, .int .i64 0, .string g, .string d, v] 35 (0, 0))
def set5X (W : World) (b : Nat) (g d : ByteArray) (v : Value) : World := ((((W.setCell ⟨b, 0, none⟩ (.int .i64 0)).setCell ⟨b, 1, none⟩ (.int .i64 0)).setCell ⟨b, 2, none⟩ (.string g)).setCell ⟨b, 3, none⟩ (.string d)).setCell ⟨b, 4, none⟩ v
theorem dx_lt {W : World} {b : Nat} {g d : ByteArray} {v : Value} (h : DxAt W b g d v) : b < W.heap.size := (Array.getElem?_eq_some_iff.1 h).1
theorem dx_below {W W' : World} {b m : Nat} {g d : ByteArray} {v : Value} (h : DxAt W b g d v) (hb : Below m W W') (hn : b < m) : DxAt W' b g d v := (hb.block b hn).trans h
theorem dx_cells {W : World} {b : Nat} {g d : ByteArray} {v : Value} (h : DxAt W b g d v) : W.cell? ⟨b, 0, none⟩ = some (.int .i64 0) ∧ W.cell? ⟨b, 1, none⟩ = some (.int .i64 0) ∧ W.cell? ⟨b, 2, none⟩ = some (.string g) ∧ W.cell? ⟨b, 3, none⟩ = some (.string d) ∧ W.cell? ⟨b, 4, none⟩ = some v := by
  have h' : W.heap[b]? = some (.cells #[.int .i64 0, .int .i64 0, .string g, .string d, v] 35 (0, 0)) := h
  refine ⟨?_, ?_, ?_, ?_, ?_⟩ <;> simp [World.cell?, h']
theorem dx_frozen {W : World} {b : Nat} {g d : ByteArray} {v : Value} (h : DxAt W b g d v) : W.frozen? ⟨b, 0, none⟩ = false ∧ W.frozen? ⟨b, 1, none⟩ = false ∧ W.frozen? ⟨b, 2, none⟩ = false ∧ W.frozen? ⟨b, 3, none⟩ = false ∧ W.frozen? ⟨b, 4, none⟩ = false := by
  have h' : W.heap[b]? = some (.cells #[.int .i64 0, .int .i64 0, .string g, .string d, v] 35 (0, 0)) := h
  refine ⟨?_, ?_, ?_, ?_, ?_⟩ <;> simp [World.frozen?, h']
theorem dx_set {W : World} {b : Nat} {g0 d0 : ByteArray} {v0 : Value} (h : DxAt W b g0 d0 v0) (g d : ByteArray) (v : Value) : DxAt (set5X W b g d v) b g d v := by
  have h' : W.heap[b]? = some (.cells #[.int .i64 0, .int .i64 0, .string g0, .string d0, v0] 35 (0, 0)) := h
  show (set5X W b g d v).heap[b]? = _
  simp [set5X, World.setCell, Array.getElem?_modify, h']
theorem dx_setB {W W0 : World} {b m : Nat} (h : Below m W0 W) (hn : m ≤ b) (g d : ByteArray) (v : Value) : Below m W0 (set5X W b g d v) :=
  ((((h.setCell (p := ⟨b, 0, none⟩) hn _).setCell (p := ⟨b, 1, none⟩) hn _).setCell (p := ⟨b, 2, none⟩) hn _).setCell (p := ⟨b, 3, none⟩) hn _).setCell (p := ⟨b, 4, none⟩) hn _

set_option maxRecDepth 100000 in
set_option maxHeartbeats 4000000 in
theorem chDel_any (L : List ET) (hs : smallE L) (hl : L.length ≤ 1000) (v : Value) (N : ByteArray) (hN : N.size ≤ 100000) (w : World) (h : IsE w.heap.size w L v) :
    Calls Tryz.prog 12 #[v, .string N] w fun e w' => ∃ g : ByteArray, e = .returned (.tuple #[deltaV g ⟨#[]⟩ (.slice none 0 0), .int .i64 (leafC (keysE L) (keyB (keyD N.data.toList)).data.toList).2]) ∧
      ((leafC (keysE L) (keyB (keyD N.data.toList)).data.toList).2 = 0 → g = keyB (keyD N.data.toList)) ∧ ((leafC (keysE L) (keyB (keyD N.data.toList)).data.toList).2 ≠ 0 → g = ⟨#[]⟩) ∧ Below w.heap.size w w' := by
  obtain ⟨W1, hW1⟩ : ∃ W, W = w.alloc zX := ⟨_, rfl⟩
  have hk : DxAt W1 w.heap.size ⟨#[]⟩ ⟨#[]⟩ (.slice none 0 0) := by rw [hW1]; exact heap_alloc_new w _
  have hb : Below w.heap.size w W1 := by rw [hW1]; exact (Below.refl _ _).alloc (Nat.le_refl _) _
  obtain ⟨K, hK⟩ : ∃ K, K = keyB (keyD N.data.toList) := ⟨_, rfl⟩
  rw [← hK]
  have HLf := Lib.hid (chLeaf_any L hs hl v N hN W1 (h.below hb hb.size))
  rw [← hK] at HLf
  obtain ⟨P, hP⟩ : ∃ P, P = leafC (keysE L) K.data.toList := ⟨_, rfl⟩
  rw [← hP] at HLf ⊢
  obtain ⟨p1, p2⟩ := P
  dsimp only at HLf ⊢
  obtain ⟨la, lc, rfl⟩ := IsE.sl h
  have HB := Lib.hid hb
  have HK := Lib.hid hk
  have HN2 := Lib.hid (dx_lt hk)
  clear hb hk hK hP h
  by_cases h0 : p2 = 0
  · subst h0
    go_enter Tryz.func12, Tryz.ntmps12
    go_upto_region 1 with fail
    rw [← hW1]
    clear hW1
    go_wp2_with (go_at_call 25; refine (HLf.out).mono ?_; rintro e w2 ⟨key, rfl, hkey, hb2⟩; (obtain rfl := hkey rfl); have HD2 := Lib.hid (dx_below HK.out hb2 HN2.out); have HB2 := Lib.hid (bthen HB.out hb2); clear hb2 hkey; (obtain ⟨c0, c1, c2, c3, c4⟩ := dx_cells HD2.out); (obtain ⟨f0, f1, f2, f3, f4⟩ := dx_frozen HD2.out); (obtain ⟨z0, z1, z2, z3, z4⟩ := dx_cells (dx_set HD2.out key ⟨#[]⟩ (.slice none 0 0))); unfold set5X at z0 z1 z2 z3 z4)
    have hbz := dx_setB (b := w.heap.size) HB2.out (Nat.le_refl _) key ⟨#[]⟩ (.slice none 0 0)
    unfold set5X at hbz
    exact bodyPost_ret (v := .tuple #[deltaV key ⟨#[]⟩ (.slice none 0 0), .int .i64 0]) (by simp [results, Tryz.results12, go_sem, z0, z1, z2, z3, z4]) rfl ⟨key, rfl, fun _ => rfl, fun h => absurd rfl h, hbz⟩
  · have i1 : decide (p2 = 0) = false := decide_eq_false h0
    have i2 : (p2 == 0) = false := beq_eq_false_iff_ne.2 h0
    have i3 : (p2 != 0) = true := by simpa using h0
    have H0 := Lib.hid h0
    clear h0
    go_enter Tryz.func12, Tryz.ntmps12
    go_upto_region 1 with fail
    rw [← hW1]
    clear hW1
    go_wp2_with (go_at_call 25; refine (HLf.out).mono ?_; rintro e w2 ⟨key, rfl, hkey, hb2⟩; have HD2 := Lib.hid (dx_below HK.out hb2 HN2.out); have HB2 := Lib.hid (bthen HB.out hb2); clear hb2 hkey; (obtain ⟨c0, c1, c2, c3, c4⟩ := dx_cells HD2.out); (obtain ⟨f0, f1, f2, f3, f4⟩ := dx_frozen HD2.out); (obtain ⟨z0, z1, z2, z3, z4⟩ := dx_cells (dx_set HD2.out ⟨#[]⟩ ⟨#[]⟩ (.slice none 0 0))); unfold set5X at z0 z1 z2 z3 z4)
    have hbz := dx_setB (b := w.heap.size) HB2.out (Nat.le_refl _) ⟨#[]⟩ ⟨#[]⟩ (.slice none 0 0)
    unfold set5X at hbz
    exact bodyPost_ret (v := .tuple #[deltaV ⟨#[]⟩ ⟨#[]⟩ (.slice none 0 0), .int .i64 p2]) (by simp [results, Tryz.results12, go_sem, z0, z1, z2, z3, z4]) rfl ⟨⟨#[]⟩, rfl, fun h => absurd h H0.out, fun _ => rfl, hbz⟩

structure AxAt (w W : World) (D : ByteArray) (u : Value) : Prop where
  box : BoxN W w.heap.size D u
  res : DxAt W (w.heap.size + 1) ⟨#[]⟩ ⟨#[]⟩ (.slice none 0 0)
  bel : Below w.heap.size w W
theorem AxAt.go {w W W' : World} {D : ByteArray} {u : Value} (h : AxAt w W D u) (hb : Below W.heap.size W W') : AxAt w W' D u :=
  ⟨h.box.below hb (Array.getElem?_eq_some_iff.1 h.box).1, dx_below h.res hb (dx_lt h.res), bthen h.bel hb⟩
set_option maxRecDepth 100000 in
set_option maxHeartbeats 8000000 in
theorem chAdd_any (L : List ET) (hs : smallE L) (hl : L.length < 200) (v : Value) (D : ByteArray) (hD : D.size ≤ 100000) (A : List AT) (hA : smallA A) (hA20 : A.length ≤ 20) (hc : checkD D.data.toList A = 0) (hkne : kE (D.data.toList, A) ≠ []) (u : Value) (w : World) (hw : LaidW w) (hlf : LaidF w) (h : IsE w.heap.size w L v) (hu : IsA w.heap.size w A u) :
    Calls Tryz.prog 9 #[v, .agg #[.string D, u]] w fun e w' => ∃ d' v', e = .returned (.tuple #[deltaV ⟨#[]⟩ d' v', .int .i64 (addC (keysE L) (kE (D.data.toList, A)))]) ∧ (addC (keysE L) (kE (D.data.toList, A)) = 0 → d'.data.toList = nameN D.data.toList ∧ OwnA w.heap.size w' v' (sortA (normL A))) ∧ (addC (keysE L) (kE (D.data.toList, A)) ≠ 0 → d' = ⟨#[]⟩ ∧ v' = .slice none 0 0) ∧ Below w.heap.size w w' := by
  obtain ⟨ua, un, uc, rfl⟩ := hu.sl
  obtain ⟨la, lc, rfl⟩ := IsE.sl h
  obtain ⟨W2, hW2⟩ : ∃ W, W = (w.alloc (.cells #[.string D, .slice ua un uc] 27)).alloc zX := ⟨_, rfl⟩
  have hAd : AxAt w W2 D (.slice ua un uc) := by
    rw [hW2]
    refine ⟨(boxN_new w D _).below (Below.refl _ _ |>.alloc (Nat.le_refl _) _) (by simp), ?_, ((Below.refl _ _).alloc (Nat.le_refl _) _).alloc (by simp) _⟩
    have e : (w.alloc (.cells #[.string D, .slice ua un uc] 27)).heap.size = w.heap.size + 1 := by simp
    show ((w.alloc (.cells #[.string D, .slice ua un uc] 27)).alloc zX).heap[w.heap.size + 1]? = _
    rw [← e]
    exact heap_alloc_new _ _
  have HNw := Lib.hid (fun (W : World) (hW : AxAt w W D (.slice ua un uc)) => chNew_any L hs hl (.slice la L.length lc) D hD A hc hkne (.slice ua un uc) W (hw.below hW.bel) (hlf.below hW.bel) (h.below hW.bel hW.bel.size) (hu.below hW.bel hW.bel.size))
  have HNr := Lib.hid (fun (W : World) (hW : AxAt w W D (.slice ua un uc)) => normU_entry D (by omega) A hA hA20 (.slice ua un uc) W (hu.below hW.bel hW.bel.size))
  obtain ⟨ln, hln⟩ : ∃ n, n = L.length := ⟨_, rfl⟩
  obtain ⟨c, hcd⟩ : ∃ c, c = addC (keysE L) (kE (D.data.toList, A)) := ⟨_, rfl⟩
  rw [← hcd] at HNw ⊢
  rw [← hln] at HNw ⊢
  obtain ⟨TN, hTN⟩ : ∃ T : ByteArray, strV (nameN D.data.toList) = .string T := ⟨_, rfl⟩
  have hTNl : TN.data.toList = nameN D.data.toList := by
    generalize nameN D.data.toList = NM at hTN ⊢
    unfold strV at hTN
    injection hTN with e
    rw [← e]
  have HTN := Lib.hid hTNl
  rw [hTN] at HNr
  have HAd := Lib.hid hAd
  obtain ⟨b0, b1⟩ := hAd.box.cells
  clear hTN hTNl hc hAd h hu hA hA20 hs hl hln hcd hkne hw hlf
  by_cases h0 : c = 0
  · subst h0
    go_enter Tryz.func9, Tryz.ntmps9
    go_upto_region 1 with fail
    rw [← hW2]
    clear hW2
    go_wp2_with (first
      | (go_at_call 21; refine (HNw.out _ HAd.out).mono ?_; rintro e xH3 ⟨rfl, hbH3⟩; have H3 := Lib.hid (HAd.out.go hbH3); have b0 := H3.out.box.cells.1; have b1 := H3.out.box.cells.2; clear hbH3)
      | (go_at_call 22; refine (HNr.out _ H3.out).mono ?_; rintro e xH6 ⟨v9, rfl, ho9, hbH6⟩; (obtain ⟨va, vn, vc, rfl⟩ := ownA_sl ho9); have HLt := Lib.hid (dx_lt H3.out.res); have HB3 := Lib.hid H3.out.bel.size; have H6 := Lib.hid (H3.out.go hbH6); have HO9 := Lib.hid ho9; clear hbH6 ho9; (obtain ⟨c0, c1, c2, c3, c4⟩ := dx_cells H6.out.res); (obtain ⟨f0, f1, f2, f3, f4⟩ := dx_frozen H6.out.res); (obtain ⟨z0, z1, z2, z3, z4⟩ := dx_cells (dx_set H6.out.res ⟨#[]⟩ TN (.slice va vn vc))); unfold set5X at z0 z1 z2 z3 z4))
    have ho := ownA_set (ownA_set (ownA_set (ownA_set (ownA_set HO9.out ⟨w.heap.size + 1, 0, none⟩ (.int .i64 0) HLt.out) ⟨w.heap.size + 1, 1, none⟩ (.int .i64 0) HLt.out) ⟨w.heap.size + 1, 2, none⟩ (.string ⟨#[]⟩) HLt.out) ⟨w.heap.size + 1, 3, none⟩ (.string TN) HLt.out) ⟨w.heap.size + 1, 4, none⟩ (.slice va vn vc) HLt.out
    have hbz := dx_setB (b := w.heap.size + 1) H6.out.bel (Nat.le_succ w.heap.size) ⟨#[]⟩ TN (.slice va vn vc)
    unfold set5X at hbz
    refine bodyPost_ret (v := .tuple #[deltaV ⟨#[]⟩ TN (.slice va vn vc), .int .i64 0]) (by simp [results, Tryz.results9, go_sem, z0, z1, z2, z3, z4]) rfl ⟨TN, .slice va vn vc, rfl, fun _ => ⟨HTN.out, ?_⟩, fun h => absurd rfl h, hbz⟩
    exact ownA_lower ho HB3.out
  · have i1 : decide (c = 0) = false := decide_eq_false h0
    have i2 : (c == 0) = false := beq_eq_false_iff_ne.2 h0
    have i3 : (c != 0) = true := by simpa using h0
    have H0 := Lib.hid h0
    clear h0
    go_enter Tryz.func9, Tryz.ntmps9
    go_upto_region 1 with fail
    rw [← hW2]
    clear hW2
    go_wp2_with (go_at_call 21; refine (HNw.out _ HAd.out).mono ?_; rintro e xH3 ⟨rfl, hbH3⟩; have H3 := Lib.hid (HAd.out.go hbH3); clear hbH3; (obtain ⟨c0, c1, c2, c3, c4⟩ := dx_cells H3.out.res); (obtain ⟨f0, f1, f2, f3, f4⟩ := dx_frozen H3.out.res); (obtain ⟨z0, z1, z2, z3, z4⟩ := dx_cells (dx_set H3.out.res ⟨#[]⟩ ⟨#[]⟩ (.slice none 0 0))); unfold set5X at z0 z1 z2 z3 z4)
    have hbz := dx_setB (b := w.heap.size + 1) H3.out.bel (Nat.le_succ w.heap.size) ⟨#[]⟩ ⟨#[]⟩ (.slice none 0 0)
    unfold set5X at hbz
    exact bodyPost_ret (v := .tuple #[deltaV ⟨#[]⟩ ⟨#[]⟩ (.slice none 0 0), .int .i64 c]) (by simp [results, Tryz.results9, go_sem, z0, z1, z2, z3, z4]) rfl ⟨⟨#[]⟩, .slice none 0 0, rfl, fun h => absurd h H0.out, fun _ => ⟨rfl, rfl⟩, hbz⟩
end Go.Proofs.YtpnbcmblnplbgaaGreatDoor


namespace Go.Proofs.YtpnbcmblnplbgaaGreatDoor
open Go.RowKit
set_option linter.unusedVariables false

theorem delD_take (L : List ET) (k : KL) (j : Nat) (h : j < L.length) : delD (L.take (j + 1)) k = delD (L.take j) k ++ (if (kE L[j] == k) = true then [] else [L[j]]) := by
  unfold delD
  rw [List.take_succ_eq_append_getElem h, List.filter_append]
  congr 1
  cases e : (kE L[j] == k) <;> simp only [List.filter, e] <;> simp
theorem delD_len (L : List ET) (k : KL) (j : Nat) : (delD (L.take j) k).length ≤ j := Nat.le_trans (List.length_filter_le _ _) (List.length_take_le _ _)
theorem ownE_empty {ok : Nat → Prop} {B b : Nat} {w : World} (hb : w.heap[b]? = some (.cells #[] 27 (0, 0))) (hB : B ≤ b) : OwnE ok B w (.slice (some ⟨b, 0, none⟩) 0 0) [] :=
  ⟨[], ⟨rfl, .inr ⟨b, 0, #[], rfl, hB, hb, Nat.le_refl _, Nat.zero_le _, rfl, rfl⟩⟩, rfl, fun j h => absurd h (by simp)⟩

set_option maxRecDepth 100000 in
set_option maxHeartbeats 4000000 in
theorem delR7_any (L : List ET) (hs : smallE L) (v : Value) (K : ByteArray) (w : World) (h : IsE w.heap.size w L v) :
    Calls Tryz.prog 23 #[v, .string K] w fun e w' => ∃ v', e = .returned v' ∧ IsE w'.heap.size w' (delD L K.data.toList) v' ∧ capV v' ∧ Below w.heap.size w w' := by
  obtain ⟨a, c, rfl, hm, hcell⟩ := h
  have hL := hs.1
  obtain ⟨n, hn⟩ : ∃ n, n = L.length := ⟨_, rfl⟩
  rw [← hn] at hm hL ⊢
  unfold maxLen at hm
  have HN := Lib.hid hn
  have HC := Lib.hid hcell
  have HS := Lib.hid hs
  clear hcell hs hn
  go_enter Tryz.func23, Tryz.ntmps23
  go_wp2
  go_loopw [5, 6] (fun l i wr => ∃ j : Nat, j ≤ n ∧ i = .int .i64 j ∧ OwnE (fun b => b < w.heap.size) w.heap.size wr l (delD (L.take j) K.data.toList) ∧ Below w.heap.size w wr) (fun _ i wr => n - (intOf i).toNat)
  case atStart => exact ⟨0, by omega, rfl, ownE_nil _ _ _, Below.refl _ _⟩
  case round =>
    obtain ⟨j, hj, rfl, hown, hbel⟩ := hrel
    have HBel := Lib.hid hbel
    have hbs := hbel.size
    obtain ⟨sa, sc, hsv⟩ := ownE_slice hown
    obtain ⟨G, hG⟩ : ∃ G, G = delD (L.take j) K.data.toList := ⟨_, rfl⟩
    have hGl := delD_len L K.data.toList j
    rw [← hG] at hsv hGl hown
    obtain ⟨sn, hsn⟩ : ∃ k, k = G.length := ⟨_, rfl⟩
    rw [← hsn] at hsv hGl
    subst hsv
    have HG := Lib.hid hG
    have HSn := Lib.hid hsn
    have HOwn := Lib.hid hown
    clear hown hsn hG
    by_cases hlt : j < n
    · have t1 : decide ((j : Int) < (n : Int)) = true := by simp; omega
      have t1' : decide (j < n) = true := by simpa using hlt
      have q1 : (j : Int) < (n : Int) := by omega
      have hjL : j < L.length := by rw [← HN.out]; exact hlt
      obtain ⟨b, off, u, rfl, hb0, c0, c1, hto⟩ := HC.out j hjL
      have ht := IsAo.isA hto
      obtain ⟨ua, un, uc, rfl⟩ := ht.sl
      obtain ⟨X, hX⟩ : ∃ X : ByteArray, ofL L[j].1 = X := ⟨_, rfl⟩
      have hXl : X.data.toList = L[j].1 := by rw [← hX, ofL_list]
      have d0 : (wr.cell? ⟨b, off + j * 2, none⟩) = some (.string X) := by
        rw [hbel.cell (p := ⟨b, _, none⟩) hb0, c0, ← hX]; rfl
      have d1 := (hbel.cell (p := ⟨b, off + j * 2 + 1, none⟩) hb0).trans c1
      have hXs : X.size ≤ 100000 := by rw [← bytes_len, hXl]; exact (HS.out.2 _ (List.getElem_mem hjL)).1
      have hkey := fun W => keyR_any X hXs ua un uc W
      obtain ⟨Y, hY⟩ : ∃ Y, Y = keyB (keyD X.data.toList) := ⟨_, rfl⟩
      rw [← hY] at hkey
      have hYl : Y.data.toList = kE L[j] := by rw [hY, keyB_list, hXl]; rfl
      have HKey := Lib.hid hkey
      have hnew := delD_take L K.data.toList j hjL
      rw [← HG.out, ← hYl, show L[j] = (X.data.toList, L[j].2) from by rw [hXl]] at hnew
      have HNew0 := Lib.hid hnew
      have HTo := Lib.hid hto
      clear hX hXl c0 c1 ht hto hkey hY hYl hnew
      by_cases heq : Y = K
      · have q2 : (K.toList == K.toList) = true := by simp
        have HNew : Hid (delD (L.take (j + 1)) K.data.toList = G) := Lib.hid (by
          have := HNew0.out
          rw [if_pos (by rw [heq]; simp), List.append_nil] at this
          exact this)
        subst heq
        clear hbel
        go_wp2_with (go_at_call 6; refine (HKey.out _).mono ?_; rintro e w2 ⟨rfl, hb2⟩; have HB2 := Lib.hid (HBel.out.trans (hb2.mono hbs)); have HO2 := Lib.hid (ownE_below (ok' := fun b => b < w.heap.size) HOwn.out hb2 (fun b hk => Nat.lt_of_lt_of_le hk hbs) (fun _ h => h)); clear hb2)
        go_roundw
        case rel => exact ⟨j + 1, by omega, by go_num, by rw [HNew.out]; exact HO2.out, HB2.out⟩
        case measure => simp [intOf]; omega
      · have q2 := str_ne heq
        have HNew : Hid (delD (L.take (j + 1)) K.data.toList = G ++ [(X.data.toList, L[j].2)]) := Lib.hid (by
          have := HNew0.out
          rw [if_neg (by
            simp only [beq_iff_eq]
            exact fun e => heq (bytes_ext e))] at this
          exact this)
        have HD0 := Lib.hid (fun (W : World) (hW : Below w.heap.size w W) => (hW.cell (p := ⟨b, off + j * 2, none⟩) hb0).trans ((hbel.cell (p := ⟨b, off + j * 2, none⟩) hb0).symm.trans d0))
        have HD1 := Lib.hid (fun (W : World) (hW : Below w.heap.size w W) => (hW.cell (p := ⟨b, off + j * 2 + 1, none⟩) hb0).trans ((hbel.cell (p := ⟨b, off + j * 2 + 1, none⟩) hb0).symm.trans d1))
        have HToW := Lib.hid (fun (W : World) (hW : Below w.heap.size w W) => HTo.out.imp (ok' := fun b => b < w.heap.size) (fun _ h => h) (fun b o hk => hW.cell (p := ⟨b, o, none⟩) hk))
        clear heq hbel
        go_wp2_with (first
          | (go_at_call 6; refine (HKey.out _).mono ?_; rintro e w2 ⟨rfl, hb2⟩; have hbs2 := Nat.le_trans hbs hb2.size; have HB2 := Lib.hid (HBel.out.trans (hb2.mono hbs)); have r0 := HD0.out _ HB2.out; have r1 := HD1.out _ HB2.out; have HO2 := Lib.hid (ownE_below (ok' := fun b => b < w.heap.size) HOwn.out hb2 (fun b hk => Nat.lt_of_lt_of_le hk hbs) (fun _ h => h)); clear hb2)
          | (at_builtin; refine wpList_append_ent rfl (.tmp 20) (.tmp 25) rfl w.heap.size (.slice sa sn sc) G X (.slice ua un uc) L[j].2 rfl HO2.out rfl (HToW.out _ HB2.out) (Nat.le_refl _) (by rw [← HSn.out]; omega) hbs2 ?_; intro v5 w5 hown5 hb5; have HO5 := Lib.hid hown5; have HB5 := Lib.hid (HB2.out.trans hb5); clear hown5 hb5))
        go_roundw
        case rel => exact ⟨j + 1, by omega, by go_num, by rw [HNew.out]; exact HO5.out, HB5.out⟩
        case measure => simp [intOf]; omega
    · obtain rfl : j = n := by omega
      have t1 : decide ((j : Int) < (j : Int)) = false := by simp
      have t1' : decide (j < j) = false := by simp
      have HF : Hid (G = delD L K.data.toList) := Lib.hid (by rw [HG.out, List.take_of_length_le (by rw [← HN.out]; exact Nat.le_refl _)])
      clear hbel
      go_wp2
      go_ret
      exact ⟨_, rfl, by rw [← HF.out]; exact ownE_isE HOwn.out (by rw [← HSn.out]; unfold maxLen; omega) (fun b hb => by omega), ownE_cap HOwn.out, HBel.out⟩

def atK (KS : List KL) (k : KL) : Nat := (KS.findIdx? (fun x => !Op.bytesLess x k)).getD KS.length
theorem atK_eq {KS : List KL} {k : KL} (j : Nat) (hj : j ≤ KS.length) (h : ∀ i (hi : i < KS.length), i < j → Op.bytesLess KS[i] k = true) (he : ∀ hj : j < KS.length, Op.bytesLess KS[j] k = false) : atK KS k = j := by
  unfold atK
  by_cases hlt : j < KS.length
  · have : KS.findIdx? (fun x => !Op.bytesLess x k) = some j := by
      rw [List.findIdx?_eq_some_iff_getElem]
      exact ⟨hlt, by rw [he hlt]; rfl, fun i hij => by rw [h i (by omega) hij]; simp⟩
    rw [this]; rfl
  · have hj' : j = KS.length := by omega
    have : KS.findIdx? (fun x => !Op.bytesLess x k) = none := by
      rw [List.findIdx?_eq_none_iff]
      intro x hx
      obtain ⟨i, hi, rfl⟩ := List.getElem_of_mem hx
      rw [h i hi (by omega)]; rfl
    rw [this, hj']; rfl
def putD (L : List ET) (e : ET) : List ET :=
  L.take (atK (keysE L) (kE e)) ++ [e] ++ L.drop (if (keysE L)[atK (keysE L) (kE e)]? = some (kE e) then atK (keysE L) (kE e) + 1 else atK (keysE L) (kE e))
end Go.Proofs.YtpnbcmblnplbgaaGreatDoor

