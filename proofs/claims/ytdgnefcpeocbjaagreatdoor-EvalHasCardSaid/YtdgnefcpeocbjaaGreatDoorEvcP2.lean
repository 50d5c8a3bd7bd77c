/- Several texts in one file: EvTru, EvTal, EvDocP, EvDoc, MaRef, MaNumP, MaDig, MaRefN, RefVal, RefTextW, May, RefParse, RefParseW. -/
import Derived.Test.YtdgnefcpeocbjaaGreatDoorEvcP1
import Derived.Test.YtdgnefcpeocbjaaGreatDoorFiMayW
import Derived.Deep.RegionLaw
import Derived.RegionTactic
import Derived.Lib.IndexLaws
import Derived.Lib.IndexMore
import Derived.Test.YtdgnefcpeocbjaaGreatDoorFiSamR
import Derived.Test.YtdgnefcpeocbjaaGreatDoorDnFoldR
import Derived.Deep.RegionHeld3
import Derived.Test.YtdgnefcpeocbjaaGreatDoorMaFind
import Derived.Test.YtdgnefcpeocbjaaGreatDoorMaPure
import Derived.Test.YtdgnefcpeocbjaaGreatDoorOfL
import Derived.Test.YtdgnefcpeocbjaaGreatDoorDnOwn
import Derived.Lib.ItoaLen
import Derived.Lib.ItoaMem
import Derived.Test.YtdgnefcpeocbjaaGreatDoorRefCut
import Derived.Deep.AppendLies
import Derived.BigRegion
import Derived.Test.YtdgnefcpeocbjaaGreatDoorRefText
import Derived.Test.YtdgnefcpeocbjaaGreatDoorDnTypeR
import Derived.OneCell
namespace Go.Proofs.YtdgnefcpeocbjaaGreatDoor
open Go.RowKit
set_option linter.unusedVariables false
set_option linter.unusedSimpArgs false

set_option maxRecDepth 100000 in
theorem notEv_any (r : Nat) (hr : r ≤ 2) (w : World) : Calls Tryz.prog 35 #[.int .i64 r] w fun e w' => e = .returned (.int .i64 (flipE r : Nat)) ∧ w = w' := by
  obtain rfl | rfl | rfl : r = 0 ∨ r = 1 ∨ r = 2 := by omega
  all_goals
    go_enter Tryz.func35, Tryz.ntmps35
    go_wp2
    go_ret
    exact ⟨rfl, rfl⟩
abbrev TaAt (W : World) (b c0 c1 c2 : Nat) : Prop := W.heap[b]? = some (.cells #[.int .i64 c0, .int .i64 c1, .int .i64 c2] 77 (0, 0))
theorem ta_lt {W : World} {b c0 c1 c2 : Nat} (h : TaAt W b c0 c1 c2) : b < W.heap.size := (Array.getElem?_eq_some_iff.1 h).1
theorem ta_below {W W' : World} {b c0 c1 c2 m : Nat} (h : TaAt W b c0 c1 c2) (hb : Below m W W') (hn : b < m) : TaAt W' b c0 c1 c2 := (hb.block b hn).trans h
theorem ta_cells {W : World} {b c0 c1 c2 : Nat} (h : TaAt W b c0 c1 c2) : W.cell? ⟨b, 0, none⟩ = some (.int .i64 c0) ∧ W.cell? ⟨b, 1, none⟩ = some (.int .i64 c1) ∧ W.cell? ⟨b, 2, none⟩ = some (.int .i64 c2) ∧ W.frozen? ⟨b, 0, none⟩ = false ∧ W.frozen? ⟨b, 1, none⟩ = false ∧ W.frozen? ⟨b, 2, none⟩ = false := by
  have h' : W.heap[b]? = some (.cells #[.int .i64 c0, .int .i64 c1, .int .i64 c2] 77 (0, 0)) := h
  refine ⟨?_, ?_, ?_, ?_, ?_, ?_⟩ <;> simp [World.cell?, World.frozen?, h']
theorem ta_add0 {W : World} {b c0 c1 c2 : Nat} (h : TaAt W b c0 c1 c2) : TaAt (W.setCell ⟨b, 0, none⟩ (.int .i64 ((c0 : Int) + 1))) b (c0 + 1) c1 c2 := by
  have h' : W.heap[b]? = some (.cells #[.int .i64 c0, .int .i64 c1, .int .i64 c2] 77 (0, 0)) := h
  show (W.setCell ⟨b, 0, none⟩ (.int .i64 ((c0 : Int) + 1))).heap[b]? = _
  simp [World.setCell, Array.getElem?_modify, h']
theorem ta_add1 {W : World} {b c0 c1 c2 : Nat} (h : TaAt W b c0 c1 c2) : TaAt (W.setCell ⟨b, 1, none⟩ (.int .i64 ((c1 : Int) + 1))) b c0 (c1 + 1) c2 := by
  have h' : W.heap[b]? = some (.cells #[.int .i64 c0, .int .i64 c1, .int .i64 c2] 77 (0, 0)) := h
  show (W.setCell ⟨b, 1, none⟩ (.int .i64 ((c1 : Int) + 1))).heap[b]? = _
  simp [World.setCell, Array.getElem?_modify, h']
theorem ta_add2 {W : World} {b c0 c1 c2 : Nat} (h : TaAt W b c0 c1 c2) : TaAt (W.setCell ⟨b, 2, none⟩ (.int .i64 ((c2 : Int) + 1))) b c0 c1 (c2 + 1) := by
  have h' : W.heap[b]? = some (.cells #[.int .i64 c0, .int .i64 c1, .int .i64 c2] 77 (0, 0)) := h
  show (W.setCell ⟨b, 2, none⟩ (.int .i64 ((c2 : Int) + 1))).heap[b]? = _
  simp [World.setCell, Array.getElem?_modify, h']
def cntE (c0 c1 c2 : Nat) : Nat → Nat
  | 0 => c0
  | 1 => c1
  | _ => c2
theorem ta_at {W : World} {b c0 c1 c2 : Nat} (h : TaAt W b c0 c1 c2) (x : Nat) (hx : x ≤ 2) : W.cell? ⟨b, x, none⟩ = some (.int .i64 (cntE c0 c1 c2 x : Nat)) := by
  obtain ⟨h0, h1, h2, _⟩ := ta_cells h
  obtain rfl | rfl | rfl : x = 0 ∨ x = 1 ∨ x = 2 := by omega
  · exact h0
  · exact h1
  · exact h2
set_option maxRecDepth 100000 in
set_option maxHeartbeats 4000000 in
theorem firstEv_any (b c0 c1 c2 x y o : Nat) (hx : x ≤ 2) (hy : y ≤ 2) (w : World) (h : TaAt w b c0 c1 c2) :
    Calls Tryz.prog 34 #[.pointer (some ⟨b, 0, none⟩), .int .i64 x, .int .i64 y, .int .i64 o] w fun e w' => e = .returned (.int .i64 ((if 0 < cntE c0 c1 c2 x then x else if 0 < cntE c0 c1 c2 y then y else o : Nat) : Int)) ∧ Below w.heap.size w w' := by
  obtain ⟨W1, hW1⟩ : ∃ W, W = w.alloc (.cells #[.int .i64 x, .int .i64 y] 3) := ⟨_, rfl⟩
  have hb1 : Below w.heap.size w W1 := by rw [hW1]; exact (Below.refl _ _).alloc (Nat.le_refl _) _
  have hr : W1.heap[w.heap.size]? = some (.cells #[.int .i64 x, .int .i64 y] 3 (0, 0)) := by rw [hW1]; exact heap_alloc_new w _
  have r0 : W1.cell? ⟨w.heap.size, 0, none⟩ = some (.int .i64 x) := by simp [World.cell?, hr]
  have r1 : W1.cell? ⟨w.heap.size, 1, none⟩ = some (.int .i64 y) := by simp [World.cell?, hr]
  have h1 := ta_below h hb1 (ta_lt h)
  obtain ⟨n, hn⟩ : ∃ n, n = cntE c0 c1 c2 x := ⟨_, rfl⟩
  obtain ⟨m, hm⟩ : ∃ n, n = cntE c0 c1 c2 y := ⟨_, rfl⟩
  have lx := loadFl_any b x (n : Int) W1 (by rw [hn]; exact ta_at h1 x hx)
  have ly := loadFl_any b y (m : Int) W1 (by rw [hm]; exact ta_at h1 y hy)
  rw [← hn, ← hm]
  obtain ⟨R, hR⟩ : ∃ R, R = (if 0 < n then x else if 0 < m then y else o) := ⟨_, rfl⟩
  rw [← hR]
  have HR := Lib.hid hR
  clear hR
  have HX := Lib.hid lx
  have HY := Lib.hid ly
  have HW1 := Lib.hid hW1.symm
  have HB1 := Lib.hid hb1
  have x0 : (0 : Int) ≤ (x : Int) := by omega
  have x3 : (x : Int) < 3 := by omega
  have y0 : (0 : Int) ≤ (y : Int) := by omega
  have y3 : (y : Int) < 3 := by omega
  clear hW1 hb1 hr h1 hn hm lx ly h
  go_enter Tryz.func34, Tryz.ntmps34
  go_upto_region 2 with (fail)
  rw [HW1.out]
  go_wp2
  go_loop [15] (fun i => ∃ j : Nat, j ≤ 2 ∧ i = .int .i64 j ∧ Hid (1 ≤ j → n = 0) ∧ Hid (2 ≤ j → m = 0)) (fun i => 2 - (intOf i).toNat)
  case atStart => exact ⟨0, by omega, rfl, Lib.hid (by omega), Lib.hid (by omega)⟩
  case round =>
    obtain ⟨j, hj, rfl, H1, H2⟩ := hrel
    obtain rfl | rfl | rfl : j = 0 ∨ j = 1 ∨ j = 2 := by omega
    · by_cases hn : 0 < n
      · have t1 : decide ((0 : Int) < (n : Int)) = true := by simp; omega
        have t1' : decide (0 < n) = true := by simpa using hn
        have HF : Hid (R = x) := Lib.hid (by rw [HR.out, if_pos hn])
        clear hn
        go_wp2_with (go_at_call 48; refine (HX.out).mono ?_; rintro e w2 ⟨rfl, hw⟩; subst hw)
        go_ret
        exact ⟨by rw [HF.out]; rfl, HB1.out⟩
      · have t1 : decide ((0 : Int) < (n : Int)) = false := by simp; omega
        have t1' : decide (0 < n) = false := by simpa using hn
        have HN := Lib.hid (show n = 0 from by omega)
        clear hn
        go_wp2_with (go_at_call 48; refine (HX.out).mono ?_; rintro e w2 ⟨rfl, hw⟩; subst hw)
        go_round
        case rel => exact ⟨1, by omega, by first | rfl | go_num, Lib.hid (fun _ => HN.out), Lib.hid (by omega)⟩
        case measure => simp [intOf]
    · by_cases hm : 0 < m
      · have t1 : decide ((0 : Int) < (m : Int)) = true := by simp; omega
        have t1' : decide (0 < m) = true := by simpa using hm
        have HF : Hid (R = y) := Lib.hid (by rw [HR.out, if_neg (by have := H1.out (by omega); omega), if_pos hm])
        clear hm
        go_wp2_with (go_at_call 48; refine (HY.out).mono ?_; rintro e w2 ⟨rfl, hw⟩; subst hw)
        go_ret
        exact ⟨by rw [HF.out]; rfl, HB1.out⟩
      · have t1 : decide ((0 : Int) < (m : Int)) = false := by simp; omega
        have t1' : decide (0 < m) = false := by simpa using hm
        have HM := Lib.hid (show m = 0 from by omega)
        clear hm
        go_wp2_with (go_at_call 48; refine (HY.out).mono ?_; rintro e w2 ⟨rfl, hw⟩; subst hw)
        go_round
        case rel => exact ⟨2, by omega, by first | rfl | go_num, Lib.hid (fun _ => H1.out (by omega)), Lib.hid (fun _ => HM.out)⟩
        case measure => simp [intOf]
    · have HF : Hid (R = o) := Lib.hid (by rw [HR.out, if_neg (by have := H1.out (by omega); omega), if_neg (by have := H2.out (by omega); omega)])
      go_wp2
      go_ret
      exact ⟨by rw [HF.out]; rfl, HB1.out⟩
end Go.Proofs.YtdgnefcpeocbjaaGreatDoor


namespace Go.Proofs.YtdgnefcpeocbjaaGreatDoor
open Go.RowKit
set_option linter.unusedVariables false
set_option linter.unusedSimpArgs false

def TruthIs (d : Nat) : Prop := ∀ (f : FT) (v : Value) (L : List AT) (D : ByteArray) (va : Option Addr) (vn vc : Nat) (w : World), mayF d f = true → IsFl (Lt w) w f v → smallA L → LaidW w → LaidX w → IsA w.heap.size w L (.slice va vn vc) →
  Calls Tryz.prog 25 #[v, .agg #[.string D, .slice va vn vc]] w fun e w' => e = .returned (.int .i64 (evF L f : Nat)) ∧ Below w.heap.size w w'
abbrev EnAt (W : World) (b : Nat) (D : ByteArray) (u : Value) : Prop := W.heap[b]? = some (.cells #[.string D, u] 28 (0, 0))
theorem en_lt {W : World} {b : Nat} {D : ByteArray} {u : Value} (h : EnAt W b D u) : b < W.heap.size := (Array.getElem?_eq_some_iff.1 h).1
theorem en_below {W W' : World} {b m : Nat} {D : ByteArray} {u : Value} (h : EnAt W b D u) (hb : Below m W W') (hn : b < m) : EnAt W' b D u := (hb.block b hn).trans h
theorem en_cells {W : World} {b : Nat} {D : ByteArray} {u : Value} (h : EnAt W b D u) : W.cell? ⟨b, 0, none⟩ = some (.string D) ∧ W.cell? ⟨b, 1, none⟩ = some u := by
  have h' : W.heap[b]? = some (.cells #[.string D, u] 28 (0, 0)) := h
  refine ⟨?_, ?_⟩ <;> simp [World.cell?, h']
structure TalAt (w wr : World) (D : ByteArray) (u : Value) (c0 c1 c2 : Nat) : Prop where
  en : EnAt wr w.heap.size D u
  ta : TaAt wr (w.heap.size + 1) c0 c1 c2
  bel : Below w.heap.size w wr
theorem TalAt.go {w wr wx : World} {D : ByteArray} {u : Value} {c0 c1 c2 : Nat} (h : TalAt w wr D u c0 c1 c2) (hb : Below wr.heap.size wr wx) : TalAt w wx D u c0 c1 c2 :=
  ⟨en_below h.en hb (en_lt h.en), ta_below h.ta hb (ta_lt h.ta), bthen h.bel hb⟩
theorem tal_new (w : World) (D : ByteArray) (u : Value) : TalAt w ((w.alloc (.cells #[.string D, u] 28)).alloc (.cells #[.int .i64 0, .int .i64 0, .int .i64 0] 77)) D u 0 0 0 := by
  have h1 : Below w.heap.size w (w.alloc (.cells #[.string D, u] 28)) := (Below.refl _ _).alloc (Nat.le_refl _) _
  have h2 : Below (w.alloc (.cells #[.string D, u] 28)).heap.size (w.alloc (.cells #[.string D, u] 28)) ((w.alloc (.cells #[.string D, u] 28)).alloc (.cells #[.int .i64 0, .int .i64 0, .int .i64 0] 77)) := (Below.refl _ _).alloc (Nat.le_refl _) _
  have hz : EnAt (w.alloc (.cells #[.string D, u] 28)) w.heap.size D u := heap_alloc_new w _
  have hs : (w.alloc (.cells #[.string D, u] 28)).heap.size = w.heap.size + 1 := by simp only [World.alloc, Array.size_push]
  have hn := heap_alloc_new (w.alloc (.cells #[.string D, u] 28)) (.cells #[.int .i64 0, .int .i64 0, .int .i64 0] 77)
  rw [hs] at hn
  exact ⟨en_below hz h2 (en_lt hz), hn, bthen h1 h2⟩
theorem tal_set {w wr : World} {D : ByteArray} {u : Value} {c0 c1 c2 : Nat} (h : TalAt w wr D u c0 c1 c2) (o : Nat) (x : Value) : EnAt (wr.setCell ⟨w.heap.size + 1, o, none⟩ x) w.heap.size D u ∧ Below w.heap.size w (wr.setCell ⟨w.heap.size + 1, o, none⟩ x) :=
  ⟨(blockFl_ne _ ⟨w.heap.size + 1, o, none⟩ _ (by show w.heap.size ≠ w.heap.size + 1; omega)).trans h.en, h.bel.setCell (p := ⟨w.heap.size + 1, o, none⟩) (by show w.heap.size ≤ w.heap.size + 1; omega) _⟩
def CntAt (l : List Nat) (c0 c1 c2 : Nat) : Prop := c0 = l.count 0 ∧ c1 = l.count 1 ∧ c2 = l.count 2
theorem cnt_len {l : List Nat} {c0 c1 c2 : Nat} (h : CntAt l c0 c1 c2) : c0 ≤ l.length ∧ c1 ≤ l.length ∧ c2 ≤ l.length := by
  obtain ⟨rfl, rfl, rfl⟩ := h
  exact ⟨List.count_le_length, List.count_le_length, List.count_le_length⟩
theorem cnt_first {l : List Nat} {c0 c1 c2 : Nat} (h : CntAt l c0 c1 c2) (x y o : Nat) (hx : x ≤ 2) (hy : y ≤ 2) : (if 0 < cntE c0 c1 c2 x then x else if 0 < cntE c0 c1 c2 y then y else o) = firstE x y o l := by
  have hc : ∀ z, z ≤ 2 → cntE c0 c1 c2 z = l.count z := fun z hz => by
    obtain ⟨h0, h1, h2⟩ := h
    obtain rfl | rfl | rfl : z = 0 ∨ z = 1 ∨ z = 2 := by omega
    · exact h0
    · exact h1
    · exact h2
  unfold firstE
  rw [hc x hx, hc y hy]
  simp only [List.count_pos_iff]

set_option maxRecDepth 100000 in
set_option maxHeartbeats 8000000 in
theorem tallied_any (d : Nat) (ih : TruthIs d) (l : List FT) (hl : l.all (mayF d) = true) (hln : l.length ≤ 1000) (L : List AT) (D : ByteArray) (ka va : Option Addr) (n kc vn vc : Nat) (hn : n = l.length) (hs : smallA L) (w : World) (hw : LaidW w) (hx : LaidX w)
    (hk : IsFls (Lt w) w l ka 0) (h : IsA w.heap.size w L (.slice va vn vc)) :
    Calls Tryz.prog 33 #[.slice ka n kc, .agg #[.string D, .slice va vn vc]] w fun e w' => ∃ c0 c1 c2, e = .returned (.pointer (some ⟨w.heap.size + 1, 0, none⟩)) ∧ TalAt w w' D (.slice va vn vc) c0 c1 c2 ∧ CntAt (evFs L l) c0 c1 c2 := by
  obtain ⟨W1, hW1⟩ : ∃ W, W = (w.alloc (.cells #[.string D, .slice va vn vc] 28)).alloc (.cells #[.int .i64 0, .int .i64 0, .int .i64 0] 77) := ⟨_, rfl⟩
  have HT1 : Hid (TalAt w W1 D (.slice va vn vc) 0 0 0) := Lib.hid (by rw [hW1]; exact tal_new w D _)
  have HW1 := Lib.hid hW1.symm
  obtain ⟨tb, htb⟩ : ∃ b, b = w.heap.size + 1 := ⟨_, rfl⟩
  have HTb := Lib.hid htb
  have HIh := Lib.hid (fun (j : Nat) (hj : j < l.length) (v : Value) (W : World) (hW : Below w.heap.size w W) (hv : IsFl (Lt W) W l[j] v) => ih l[j] v L D va vn vc W (List.all_eq_true.1 hl _ (List.getElem_mem hj)) hv hs (hw.below hW) (hx.below hW) (h.below hW hW.size))
  have HK := Lib.hid hk
  have HN := Lib.hid hn
  have HLn := Lib.hid hln
  have hn1 : n ≤ 1000 := by omega
  clear hW1 hl hs hw hx hk h hn hln ih
  go_enter Tryz.func33, Tryz.ntmps33
  go_upto_region 2 with (fail)
  rw [HW1.out, ← htb]
  clear htb
  go_wp2
  go_loopw [12] (fun i wr => ∃ j c0 c1 c2 : Nat, j ≤ n ∧ i = .int .i64 j ∧ Hid (TalAt w wr D (.slice va vn vc) c0 c1 c2) ∧ Hid (CntAt (evFs L (l.take j)) c0 c1 c2)) (fun i _ => n - (intOf i).toNat)
  case atStart => exact ⟨0, 0, 0, 0, by omega, rfl, HT1, Lib.hid ⟨rfl, rfl, rfl⟩⟩
  case round =>
    obtain ⟨j, c0, c1, c2, hj, rfl, HT, HC⟩ := hrel
    rename World => wo
    by_cases hlt : j < n
    · have ti1 : (j : Int) < (n : Int) := by omega
      have ti2 : decide (j < n) = true := by simpa using hlt
      have ti3 : decide ((j : Int) < (n : Int)) = true := by simp; omega
      have hjl : j < l.length := by rw [← HN.out]; exact hlt
      obtain ⟨b, off, v0, v1, v2, v3, v4, rfl, hb, k0, k1, k2, k3, k4, hf⟩ := HK.out.get l _ 0 j l[j] (List.getElem?_eq_getElem hjl)
      rw [Nat.zero_add] at k0 k1 k2 k3 k4
      have hbel := HT.out.bel
      have hcw : ∀ o, wo.cell? ⟨b, o, none⟩ = w.cell? ⟨b, o, none⟩ := fun o => hbel.cell (p := ⟨b, o, none⟩) hb
      rw [← hcw] at k0 k1 k2 k3 k4
      have hf2 : IsFl (Lt wo) wo l[j] (.agg #[v0, v1, v2, v3, v4]) := hf.imp (fun b h => Nat.lt_of_lt_of_le h hbel.size) (fun b o h => hbel.cell (p := ⟨b, o, none⟩) h)
      obtain ⟨k', T', X', pa', pn', pc', ka', kn', kc', e⟩ := hf2.shape
      simp only [Value.agg.injEq, Array.mk.injEq, List.cons.injEq, and_true] at e
      obtain ⟨rfl, rfl, rfl, rfl, rfl⟩ := e
      obtain ⟨W5, hW5⟩ : ∃ W, W = wo.alloc (.cells #[.int .i64 k', .string T', .string X', .slice pa' pn' pc', .slice ka' kn' kc'] 25) := ⟨_, rfl⟩
      have hb5 : Below wo.heap.size wo W5 := by rw [hW5]; exact box5 wo _ _ _ _ _
      have hT5 := HT.out.go hb5
      have hfl5 : FlAt W5 wo.heap.size (.int .i64 k') (.string T') (.string X') (.slice pa' pn' pc') (.slice ka' kn' kc') := by rw [hW5]; exact heap_alloc_new wo _
      have hca := HIh.out j hjl _ W5 (bthen hbel hb5) (hf2.below hb5)
      have hr := evF_lt L l[j]
      obtain ⟨r, hrr⟩ : ∃ r, r = evF L l[j] := ⟨_, rfl⟩
      rw [← hrr] at hca hr
      have htk : evFs L (l.take (j + 1)) = evFs L (l.take j) ++ [r] := by rw [evFs_map, evFs_map, List.take_succ_eq_append_getElem hjl, List.map_append, hrr]; rfl
      have hlen : (evFs L (l.take j)).length ≤ 1000 := by rw [evFs_map, List.length_map, List.length_take]; omega
      obtain ⟨l0, l1, l2⟩ := cnt_len HC.out
      have HCa := Lib.hid (show Calls Tryz.prog 25 #[.agg #[.int .i64 k', .string T', .string X', .slice pa' pn' pc', .slice ka' kn' kc'], .agg #[.string D, .slice va vn vc]] W5.drew fun e w' => e = .returned (.int .i64 (r : Int)) ∧ Below W5.heap.size W5 w' from by
        have := HIh.out j hjl _ W5.drew ((bthen hbel hb5).drew) (hf2.below (hb5.drew))
        rw [← hrr] at this
        exact this.mono (fun e w' h => ⟨h.1, ⟨h.2.1, h.2.2, h.2.3, h.2.4, h.2.5⟩⟩))
      have HTk := Lib.hid htk
      have HT5 := Lib.hid hT5
      have HF5 := Lib.hid hfl5
      have HW5 := Lib.hid hW5.symm
      obtain ⟨p0, p1, p2, p3, p4⟩ := fl_cells hfl5
      obtain ⟨e0, e1⟩ := en_cells hT5.en
      have m0 : c0 ≤ 1000 := by omega
      have m1 : c1 ≤ 1000 := by omega
      have m2 : c2 ≤ 1000 := by omega
      clear hrr htk hlen l0 l1 l2 hT5 hfl5 hf hf2 hb5 hca hbel hcw hjl
      go_upto_region 5 with (fail)
      rw [HW5.out]
      clear hW5
      obtain rfl | rfl | rfl : r = 0 ∨ r = 1 ∨ r = 2 := by omega
      · have HCb := HCa.out
        rw [show ((0 : Nat) : Int) = 0 from rfl] at HCb
        have HCc := Lib.hid HCb
        clear HCb
        go_region_law (first
          | (go_simp; go_at_call 25; refine (HCc.out).mono ?_; rintro e w4 ⟨rfl, hb4⟩; have hT4 := HT5.out.go hb4; have hta : TaAt w4 tb c0 c1 c2 := (by rw [HTb.out]; exact hT4.ta); (obtain ⟨t0, t1, t2, f0, f1, f2⟩ := ta_cells hta); (obtain ⟨p0', p1', p2', p3', p4'⟩ := fl_cells (fl_below HF5.out hb4 (fl_lt HF5.out))); (obtain ⟨e0', e1'⟩ := en_cells hT4.en); have HT4 := Lib.hid hT4; clear hT4 hta hb4)
          | (go_simp; go_at_call 47; refine (addFl_any tb 0 (c0 : Int) (by omega) (by omega) _ t0 f0).mono ?_; rintro e w6 ⟨rfl, hw6⟩; subst hw6))
        all_goals
          go_wp2
          go_roundw
          case rel =>
            refine ⟨j + 1, c0 + 1, c1, c2, by omega, by go_num, Lib.hid (by rw [HTb.out]; exact ⟨(tal_set HT4.out 0 _).1, ta_add0 HT4.out.ta, (tal_set HT4.out 0 _).2⟩), Lib.hid ?_⟩
            rw [HTk.out]
            obtain ⟨h0, h1, h2⟩ := HC.out
            exact ⟨by rw [List.count_append, ← h0]; rfl, by rw [List.count_append, ← h1]; rfl, by rw [List.count_append, ← h2]; rfl⟩
          case measure => simp [intOf]; omega
      · have HCb := HCa.out
        rw [show ((1 : Nat) : Int) = 1 from rfl] at HCb
        have HCc := Lib.hid HCb
        clear HCb
        go_region_law (first
          | (go_simp; go_at_call 25; refine (HCc.out).mono ?_; rintro e w4 ⟨rfl, hb4⟩; have hT4 := HT5.out.go hb4; have hta : TaAt w4 tb c0 c1 c2 := (by rw [HTb.out]; exact hT4.ta); (obtain ⟨t0, t1, t2, f0, f1, f2⟩ := ta_cells hta); (obtain ⟨p0', p1', p2', p3', p4'⟩ := fl_cells (fl_below HF5.out hb4 (fl_lt HF5.out))); (obtain ⟨e0', e1'⟩ := en_cells hT4.en); have HT4 := Lib.hid hT4; clear hT4 hta hb4)
          | (go_simp; go_at_call 47; refine (addFl_any tb 1 (c1 : Int) (by omega) (by omega) _ t1 f1).mono ?_; rintro e w6 ⟨rfl, hw6⟩; subst hw6))
        all_goals
          go_wp2
          go_roundw
          case rel =>
            refine ⟨j + 1, c0, c1 + 1, c2, by omega, by go_num, Lib.hid (by rw [HTb.out]; exact ⟨(tal_set HT4.out 1 _).1, ta_add1 HT4.out.ta, (tal_set HT4.out 1 _).2⟩), Lib.hid ?_⟩
            rw [HTk.out]
            obtain ⟨h0, h1, h2⟩ := HC.out
            exact ⟨by rw [List.count_append, ← h0]; rfl, by rw [List.count_append, ← h1]; rfl, by rw [List.count_append, ← h2]; rfl⟩
          case measure => simp [intOf]; omega
      · have HCb := HCa.out
        rw [show ((2 : Nat) : Int) = 2 from rfl] at HCb
        have HCc := Lib.hid HCb
        clear HCb
        go_region_law (first
          | (go_simp; go_at_call 25; refine (HCc.out).mono ?_; rintro e w4 ⟨rfl, hb4⟩; have hT4 := HT5.out.go hb4; have hta : TaAt w4 tb c0 c1 c2 := (by rw [HTb.out]; exact hT4.ta); (obtain ⟨t0, t1, t2, f0, f1, f2⟩ := ta_cells hta); (obtain ⟨p0', p1', p2', p3', p4'⟩ := fl_cells (fl_below HF5.out hb4 (fl_lt HF5.out))); (obtain ⟨e0', e1'⟩ := en_cells hT4.en); have HT4 := Lib.hid hT4; clear hT4 hta hb4)
          | (go_simp; go_at_call 47; refine (addFl_any tb 2 (c2 : Int) (by omega) (by omega) _ t2 f2).mono ?_; rintro e w6 ⟨rfl, hw6⟩; subst hw6))
        all_goals
          go_wp2
          go_roundw
          case rel =>
            refine ⟨j + 1, c0, c1, c2 + 1, by omega, by go_num, Lib.hid (by rw [HTb.out]; exact ⟨(tal_set HT4.out 2 _).1, ta_add2 HT4.out.ta, (tal_set HT4.out 2 _).2⟩), Lib.hid ?_⟩
            rw [HTk.out]
            obtain ⟨h0, h1, h2⟩ := HC.out
            exact ⟨by rw [List.count_append, ← h0]; rfl, by rw [List.count_append, ← h1]; rfl, by rw [List.count_append, ← h2]; rfl⟩
          case measure => simp [intOf]; omega
    · obtain rfl : j = n := by omega
      have t1 : decide ((j : Int) < (j : Int)) = false := by simp
      have t1' : decide (j < j) = false := by simp
      have HE : Hid (l.take j = l) := Lib.hid (List.take_of_length_le (by rw [← HN.out]; exact Nat.le_refl _))
      go_wp2
      go_ret
      exact ⟨c0, c1, c2, by rw [HTb.out]; rfl, HT.out, by have := HC.out; rwa [HE.out] at this⟩
end Go.Proofs.YtdgnefcpeocbjaaGreatDoor


namespace Go.Proofs.YtdgnefcpeocbjaaGreatDoor
set_option linter.unusedVariables false
set_option linter.unusedSimpArgs false

theorem cutO_hit {s x : List UInt8} {i : Nat} (h : ∀ j, j < i → (s.drop j).take x.length ≠ x) (hi : i + x.length ≤ s.length) (ho : (s.drop i).take x.length = x) : Lib.cut s x = (s.take i, s.drop (i + x.length), true) := by
  have hno : Lib.NoOcc s x i := fun j hj => by rw [Lib.occAt_iff_take s x j (by omega)]; simpa using h j hj
  have hx := Lib.index_hit hno (by omega) (by rw [Lib.occAt_iff_take s x i hi]; simpa using ho)
  unfold Lib.cut
  rw [hx]
  simp
theorem cutO_past {s x : List UInt8} {i : Nat} (hx : x ≠ []) (h : ∀ j, j < i → j + x.length ≤ s.length → (s.drop j).take x.length ≠ x) (hi : s.length < i + x.length) : (Lib.cut s x).2.2 = false := by
  have hno : Lib.NoOcc s x i := fun j hj => by
    by_cases hr : j + x.length ≤ s.length
    · rw [Lib.occAt_iff_take s x j hr]; simpa using h j hj hr
    · cases ho : Lib.occAt s x j with
      | false => rfl
      | true =>
        rcases Lib.occAt_room ho with h1 | h1
        · exact absurd h1 hr
        · exact absurd h1 hx
  have := Lib.index_past hx hno hi
  unfold Lib.cut
  rw [this]
  rfl
def endsO (n a b : List UInt8) : Bool := decide (a.length + b.length ≤ n.length) && (n.take a.length == a) && (n.drop (n.length - b.length) == b)
theorem prefix_iff (n a : List UInt8) : Lib.hasPrefix n a = true ↔ a.length ≤ n.length ∧ n.take a.length = a := by
  unfold Lib.hasPrefix
  rw [List.isPrefixOf_iff_prefix, List.prefix_iff_eq_take]
  constructor
  · intro h
    have := congrArg List.length h
    rw [List.length_take] at this
    exact ⟨by omega, h.symm⟩
  · rintro ⟨_, h⟩
    exact h.symm
theorem suffix_iff (n b : List UInt8) : Lib.hasSuffix n b = true ↔ b.length ≤ n.length ∧ n.drop (n.length - b.length) = b := by
  unfold Lib.hasSuffix
  rw [List.isSuffixOf_iff_suffix, List.suffix_iff_eq_drop]
  constructor
  · intro h
    have := congrArg List.length h
    rw [List.length_drop] at this
    exact ⟨by omega, h.symm⟩
  · rintro ⟨_, h⟩
    exact h.symm
theorem endsO_eq (n a b : List UInt8) : (Lib.hasPrefix n a && Lib.hasSuffix (Lib.trimPrefix n a) b) = endsO n a b := by
  rw [Bool.eq_iff_iff]
  unfold endsO
  simp only [Bool.and_eq_true, decide_eq_true_eq, beq_iff_eq]
  constructor
  · rintro ⟨h1, h2⟩
    obtain ⟨h3, h4⟩ := (prefix_iff n a).1 h1
    have ht : Lib.trimPrefix n a = n.drop a.length := by unfold Lib.trimPrefix; rw [if_pos h1]
    rw [ht] at h2
    obtain ⟨h5, h6⟩ := (suffix_iff _ b).1 h2
    rw [List.length_drop] at h5 h6
    rw [List.drop_drop, show a.length + (n.length - a.length - b.length) = n.length - b.length from by omega] at h6
    exact ⟨⟨by omega, h4⟩, h6⟩
  · rintro ⟨⟨h1, h2⟩, h3⟩
    have hp := (prefix_iff n a).2 ⟨by omega, h2⟩
    have ht : Lib.trimPrefix n a = n.drop a.length := by unfold Lib.trimPrefix; rw [if_pos hp]
    refine ⟨hp, ?_⟩
    rw [ht, suffix_iff, List.length_drop, List.drop_drop, show a.length + (n.length - a.length - b.length) = n.length - b.length from by omega]
    exact ⟨by omega, h3⟩
theorem endsO_rest {n a b : List UInt8} (h : endsO n a b = true) : Lib.trimSuffix (Lib.trimPrefix n a) b = (n.drop a.length).take (n.length - b.length - a.length) := by
  rw [← endsO_eq, Bool.and_eq_true] at h
  have ht : Lib.trimPrefix n a = n.drop a.length := by unfold Lib.trimPrefix; rw [if_pos h.1]
  unfold Lib.trimSuffix
  rw [if_pos h.2, ht, List.length_drop, show n.length - a.length - b.length = n.length - b.length - a.length from by omega]
theorem madeO_ends (n : List UInt8) (p : List (List UInt8)) : madeO n p = (endsO n (p.getD 0 []) (p.getD (p.length - 1) []) && midO ((n.drop (p.getD 0 []).length).take (n.length - (p.getD (p.length - 1) []).length - (p.getD 0 []).length)) ((p.drop 1).take (p.length - 2))) := by
  unfold madeO
  rw [endsO_eq]
  cases h : endsO n (p.getD 0 []) (p.getD (p.length - 1) []) with
  | false => rfl
  | true => rw [endsO_rest h]
end Go.Proofs.YtdgnefcpeocbjaaGreatDoor


namespace Go.Proofs.YtdgnefcpeocbjaaGreatDoor
open Go.RowKit
set_option linter.unusedVariables false
set_option linter.unusedSimpArgs false

theorem ext_mid (N : ByteArray) (i j : Nat) : (N.extract i j).data.toList = (N.data.toList.drop i).take (j - i) := by simp [ByteArray.data_extract, Array.toList_extract, List.extract]
set_option maxRecDepth 100000 in
set_option maxHeartbeats 8000000 in
theorem partsRef_any (N : ByteArray) (hN : N.size ≤ 1000000) (p : List (List UInt8)) (b off c n : Nat) (w : World) (hn : n = p.length) (hn2 : 2 ≤ n) (hn3 : n ≤ 1000) (hpl : ∀ x ∈ p, x.length ≤ 1000000) (hmid : ∀ i (h : i < p.length), 0 < i → i + 1 < p.length → p[i] ≠ [])
    (hcell : ∀ j (h : j < p.length), w.cell? ⟨b, off + j, none⟩ = some (strV p[j])) (hb : b < w.heap.size) :
    Calls Tryz.prog 42 #[.string N, .slice (some ⟨b, off, none⟩) n c] w fun e w' => e = .returned (.bool (madeO N.data.toList (p.map low))) ∧ Below w.heap.size w w' := by
  obtain ⟨R, hR⟩ : ∃ R, R = madeO N.data.toList (p.map low) := ⟨_, rfl⟩
  rw [← hR]
  rw [madeO_ends, List.length_map, ← hn] at hR
  obtain ⟨T0, hT0, hTl0⟩ := strV_text (p.getD 0 [])
  obtain ⟨T1, hT1, hTl1⟩ := strV_text (p.getD (n - 1) [])
  obtain ⟨n1, hn1⟩ : ∃ m, n = m + 1 := ⟨n - 1, by omega⟩
  have hc0 : w.cell? ⟨b, off, none⟩ = some (.string T0) := by
    have := hcell 0 (by omega)
    rw [Nat.add_zero] at this
    rw [this, ← hT0, List.getD_eq_getElem?_getD, List.getElem?_eq_getElem (by omega)]
    rfl
  have hc1 : w.cell? ⟨b, off + n1, none⟩ = some (.string T1) := by
    rw [hcell n1 (by omega), ← hT1, show n - 1 = n1 from by omega, List.getD_eq_getElem?_getD, List.getElem?_eq_getElem (by omega)]
    rfl
  have hs0 : T0.size ≤ 1000000 := by rw [← bytes_len, hTl0, List.getD_eq_getElem?_getD, List.getElem?_eq_getElem (by omega)]; exact hpl _ (List.getElem_mem _)
  have hs1 : T1.size ≤ 1000000 := by rw [← bytes_len, hTl1, List.getD_eq_getElem?_getD, List.getElem?_eq_getElem (by omega)]; exact hpl _ (List.getElem_mem _)
  have hl0 := fun W (_ : SamB w W) => lowerRef_any T0 W (by omega)
  have hl1 := fun W (_ : SamB w W) => lowerRef_any T1 W (by omega)
  obtain ⟨A, hA⟩ : ∃ A, A = lowB T0 := ⟨_, rfl⟩
  obtain ⟨B, hB⟩ : ∃ A, A = lowB T1 := ⟨_, rfl⟩
  have hAl : A.data.toList = (p.map low).getD 0 [] := by rw [hA, lowB_list, hTl0, List.getD_eq_getElem?_getD, List.getD_eq_getElem?_getD, List.getElem?_eq_getElem (by omega), List.getElem?_eq_getElem (by rw [List.length_map]; omega)]; simp
  have hBl : B.data.toList = (p.map low).getD (n - 1) [] := by rw [hB, lowB_list, hTl1, List.getD_eq_getElem?_getD, List.getD_eq_getElem?_getD, List.getElem?_eq_getElem (by omega), List.getElem?_eq_getElem (by rw [List.length_map]; omega)]; simp
  have hAs : A.size ≤ 1000000 := by rw [hA, lowB_size]; exact hs0
  have hBs : B.size ≤ 1000000 := by rw [hB, lowB_size]; exact hs1
  rw [← hA] at hl0
  rw [← hB] at hl1
  rw [← hAl, ← hBl] at hR
  obtain ⟨M, hM⟩ : ∃ M, M = ((p.map low).drop 1).take (n - 2) := ⟨_, rfl⟩
  rw [← hM] at hR
  obtain ⟨m, hm⟩ : ∃ m, n1 = m + 1 := ⟨n1 - 1, by omega⟩
  subst hm
  subst hn1
  have hMl : M.length = m := by rw [hM, List.length_take, List.length_drop, List.length_map, ← hn]; omega
  have hMc : ∀ j (h : j < M.length), ∃ X : ByteArray, w.cell? ⟨b, off + (j + 1), none⟩ = some (.string X) ∧ low X.data.toList = M[j] ∧ X.size ≤ 1000000 ∧ M[j] ≠ [] := fun j h => by
    have h2 : j + 1 < p.length := by omega
    obtain ⟨X, hX, hXl⟩ := strV_text p[j + 1]
    have he : M[j] = low p[j + 1] := by
      simp only [hM, List.getElem_take, List.getElem_drop, List.getElem_map]
      congr 2
      omega
    refine ⟨X, by rw [hcell (j + 1) h2, hX], by rw [he, hXl], by rw [← bytes_len, hXl]; exact hpl _ (List.getElem_mem _), ?_⟩
    rw [he]
    intro e
    have h3 := hmid (j + 1) h2 (by omega) (by omega)
    exact h3 (List.eq_nil_of_length_eq_zero (by have := congrArg List.length e; rw [low_length] at this; exact this))
  have hE : ∀ W, SamB w W → W.cell? ⟨b, off, none⟩ = some (.string T0) ∧ W.cell? ⟨b, off + (m + 1), none⟩ = some (.string T1) ∧ SamB w W := fun W hW => ⟨(Below.cell hW (p := ⟨b, off, none⟩) hb).trans hc0, (Below.cell hW (p := ⟨b, off + (m + 1), none⟩) hb).trans hc1, hW⟩
  have HE := Lib.hid hE
  have HL0 := Lib.hid hl0
  have HL1 := Lib.hid hl1
  have HMc := Lib.hid hMc
  have HMl := Lib.hid hMl
  have HRr := Lib.hid hR
  have hst5 := hE w (Below.refl _ _)
  have hst6 := hE w.drew (Below.drew (Below.refl _ _))
  have e1 : IntKind.i64.wrap ((m : Int) + 1 + 1 - 1) = (m : Int) + 1 := by rw [IntWalk.i64_in _ (by omega)]; omega
  have e1b : IntKind.i64.wrap ((m : Int) + 1) = (m : Int) + 1 := IntWalk.i64_in _ (by omega)
  have i0 : (0 : Int) < (m : Int) + 1 + 1 := by omega
  have i1 : (m : Int) + 1 < (m : Int) + 1 + 1 := by omega
  have i2 : (0 : Int) ≤ (m : Int) + 1 := by omega
  have i3 : ((m : Int) + 1).toNat = m + 1 := by omega
  obtain ⟨a, ha⟩ : ∃ a, a = A.size := ⟨_, rfl⟩
  obtain ⟨z, hz⟩ : ∃ a, a = B.size := ⟨_, rfl⟩
  obtain ⟨nl, hnl⟩ : ∃ a, a = N.size := ⟨_, rfl⟩
  have e2 : IntKind.i64.wrap ((A.size : Int) + (B.size : Int)) = (A.size : Int) + (B.size : Int) := IntWalk.i64_in _ (by omega)
  clear hE hl0 hl1 hMc hMl hR hA hB hAl hBl hM hT0 hT1 hTl0 hTl1 hcell hpl hmid hn ha hz hnl hc0 hc1
  go_enter Tryz.func42, Tryz.ntmps42
  go_upto_region 1 with (fail)
  go_region_held3 (fun W => W.cell? ⟨b, off, none⟩ = some (.string T0) ∧ W.cell? ⟨b, off + (m + 1), none⟩ = some (.string T1) ∧ SamB w W)
    (first | (with_reducible exact hst5) | (with_reducible exact hst6) | (go_split_ands; exact HE.out _ (SamB.go (by assumption) hbx)))
    (first
      | (go_at_call 30; go_split_ands; (with_reducible refine (HL0.out _ (by assumption)).mono ?_); rintro e wx ⟨rfl, hbx⟩)
      | (go_at_call 30; go_split_ands; (with_reducible refine (HL1.out _ (by assumption)).mono ?_); rintro e wy ⟨rfl, hbx⟩))
  all_goals
    go_split_ands
    have hT : SamB w wy := by assumption
    have HT := Lib.hid (show Below w.heap.size w wy from hT)
    clear hT
    by_cases hlt : N.size < A.size + B.size
    · have t1 : decide ((N.size : Int) < (A.size : Int) + (B.size : Int)) = true := by simp; omega
      have HF : Hid (R = false) := Lib.hid (by rw [HRr.out]; unfold endsO; rw [bytes_len, bytes_len, bytes_len, decide_eq_false (by omega)]; rfl)
      clear hlt
      go_wp2
      go_ret
      exact ⟨by rw [HF.out]; rfl, HT.out⟩
    · have t1 : decide ((N.size : Int) < (A.size : Int) + (B.size : Int)) = false := by simp; omega
      obtain ⟨nb, hnb⟩ : ∃ x, N.size = x + B.size := ⟨N.size - B.size, by omega⟩
      have e3 : IntKind.i64.wrap ((N.size : Int) - (B.size : Int)) = (nb : Int) := by rw [IntWalk.i64_in _ (by omega)]; omega
      have q0 : (A.size : Int) ≤ (N.size : Int) := by omega
      have q0' : A.size ≤ N.size := by omega
      have q1 : (nb : Int) ≤ (N.size : Int) := by omega
      have q1' : nb ≤ N.size := by omega
      have q2 : (A.size : Int) ≤ (nb : Int) := by omega
      have q2' : A.size ≤ nb := by omega
      obtain ⟨P, hP⟩ : ∃ P, N.extract 0 A.size = P := ⟨_, rfl⟩
      have hPl : P.data.toList = N.data.toList.take A.data.toList.length := by rw [← hP, ext_mid, bytes_len]; simp
      by_cases hPA : P = A
      · subst hPA
        obtain ⟨Q, hQ⟩ : ∃ Q, N.extract nb N.size = Q := ⟨_, rfl⟩
        have hQl : Q.data.toList = N.data.toList.drop (N.data.toList.length - B.data.toList.length) := by
          rw [← hQ, ext_mid, bytes_len, bytes_len, List.take_of_length_le (by rw [List.length_drop, bytes_len]; omega), show N.size - B.size = nb from by omega]
        by_cases hQB : Q = B
        · subst hQB
          obtain ⟨S0, hS0⟩ : ∃ Q, N.extract P.size nb = Q := ⟨_, rfl⟩
          have HSy : Hid (R = midO S0.data.toList M) := Lib.hid (by
            have he : endsO N.data.toList P.data.toList Q.data.toList = true := by
              unfold endsO
              rw [← hPl, ← hQl, bytes_len, bytes_len, bytes_len, decide_eq_true (by omega)]
              simp
            rw [HRr.out, he, ← hS0, ext_mid, bytes_len, bytes_len, bytes_len, show N.size - Q.size - P.size = nb - P.size from by omega]
            rfl)
          have hS0s : S0.size ≤ 1000000 := by rw [← bytes_len, ← hS0, ext_mid, List.length_take, List.length_drop, bytes_len]; omega
          clear hPl hQl hlt hnb
          go_upto_region 5 with (fail)
          clear t1 e3 q0 q0' q1 q1' q2 q2' hP hQ hS0 e1 e1b e2 i0 i1 i2 i3
          go_wp2
          go_loopw [0, 7] (fun r i wr => ∃ (j : Nat) (S : ByteArray), j ≤ m ∧ i = .int .i64 ((j : Int) + 1) ∧ r = .string S ∧ S.size ≤ 1000000 ∧ Hid (R = midO S.data.toList (M.drop j)) ∧ Below w.heap.size w wr) (fun _ i _ => m + 1 - (intOf i).toNat)
          case atStart => exact ⟨0, S0, by omega, rfl, rfl, hS0s, HSy, HT.out⟩
          case round =>
            obtain ⟨j, S, hj, rfl, rfl, hS, HSay, hbel⟩ := hrel
            rename World => wo
            have HBel := Lib.hid hbel
            have eA : IntKind.i64.wrap ((j : Int) + 1 + 1) = (j : Int) + 1 + 1 := IntWalk.i64_in _ (by omega)
            have eB : IntKind.i64.wrap ((j : Int) + 2) = (j : Int) + 2 := IntWalk.i64_in _ (by omega)
            by_cases hjm : j < m
            · have u1 : decide ((j : Int) + 1 + 1 < (m : Int) + 1 + 1) = true := by simp; omega
              have u2 : decide ((j : Int) + 1 < (m : Int) + 1) = true := by simp; omega
              have u3 : decide ((j : Int) < (m : Int)) = true := by simp; omega
              have u4 : decide (j < m) = true := by simpa using hjm
              have hjM : j < M.length := by rw [HMl.out]; exact hjm
              obtain ⟨X, hX, hXl, hXs, hXn⟩ := HMc.out j hjM
              have d0 : wo.cell? ⟨b, off + (j + 1), none⟩ = some (.string X) := (hbel.cell (p := ⟨b, _, none⟩) hb).trans hX
              have hlo := lowerRef_any X wo (by omega)
              obtain ⟨Y, hY⟩ : ∃ Y, Y = lowB X := ⟨_, rfl⟩
              have hYl : Y.data.toList = M[j] := by rw [hY, lowB_list, hXl]
              have hYs : Y.size ≤ 1000000 := by rw [hY, lowB_size]; exact hXs
              have hY1 : 1 ≤ Y.size := by rw [← bytes_len, hYl]; exact List.length_pos_iff.2 hXn
              rw [← hY] at hlo
              have HLo := Lib.hid hlo
              have hdr : M.drop j = M[j] :: M.drop (j + 1) := List.drop_eq_getElem_cons hjM
              have hst : R = ((Lib.cut S.data.toList Y.data.toList).2.2 && midO (Lib.cut S.data.toList Y.data.toList).2.1 (M.drop (j + 1))) := by rw [HSay.out, hdr, hYl]; rfl
              have HSt := Lib.hid hst
              have g0 : (0 : Int) ≤ (j : Int) + 1 := by omega
              have g1 : (j : Int) + 1 < (m : Int) + 1 + 1 := by omega
              have g2 : ((j : Int) + 1).toNat = j + 1 := by omega
              clear hX hXl hXn hlo hY hYl hdr hst hjM hbel
              go_upto_region 9 with (go_at_call 30; refine (HLo.out).mono ?_; rintro e w4 ⟨rfl, hb4⟩; have HB4 := Lib.hid (bthen HBel.out hb4); clear hb4)
              go_wp2
              go_loop [9] (fun i => ∃ k : Nat, i = .int .i64 k ∧ k ≤ S.size ∧ Hid (∀ i, i < k → i + Y.data.toList.length ≤ S.data.toList.length → (S.data.toList.drop i).take Y.data.toList.length ≠ Y.data.toList)) (fun i => S.size + 1 - (intOf i).toNat)
              case atStart => exact ⟨0, rfl, Nat.zero_le _, Lib.hid (fun i h => absurd h (Nat.not_lt_zero _))⟩
              case round =>
                obtain ⟨k, rfl, hk, HNo⟩ := hrel
                have f1 : IntKind.i64.wrap ((k : Int) + (Y.size : Int)) = (k : Int) + (Y.size : Int) := IntWalk.i64_in _ (by omega)
                by_cases hr : k + Y.size ≤ S.size
                · have v1 : decide ((k : Int) + (Y.size : Int) ≤ (S.size : Int)) = true := by simp; omega
                  have v2 : decide ((S.size : Int) < (k : Int) + (Y.size : Int)) = false := by simp; omega
                  have h0 : (0 : Int) ≤ (k : Int) := by omega
                  have h1 : (k : Int) ≤ (k : Int) + (Y.size : Int) := by omega
                  have h2 : (k : Int) + (Y.size : Int) ≤ (S.size : Int) := by omega
                  have h3 : ((k : Int) + (Y.size : Int)).toNat = k + Y.size := by omega
                  have h4 : (0 : Int) ≤ (k : Int) + (Y.size : Int) := by omega
                  obtain ⟨Z, hZ⟩ : ∃ Z, S.extract k (k + Y.size) = Z := ⟨_, rfl⟩
                  have hZl : Z.data.toList = (S.data.toList.drop k).take Y.data.toList.length := by rw [← hZ, ext_mid, bytes_len, show k + Y.size - k = Y.size from by omega]
                  by_cases hZY : Z = Y
                  · subst hZY
                    obtain ⟨V, hV⟩ : ∃ V, S.extract (k + Z.size) S.size = V := ⟨_, rfl⟩
                    have hcut := cutO_hit (s := S.data.toList) (x := Z.data.toList) (i := k) (fun i hi => HNo.out i hi (by rw [bytes_len, bytes_len]; omega)) (by rw [bytes_len, bytes_len]; exact hr) hZl.symm
                    have hVl : V.data.toList = S.data.toList.drop (k + Z.data.toList.length) := by rw [← hV, ext_mid, bytes_len, List.take_of_length_le (by rw [List.length_drop, bytes_len]; omega)]
                    have hVs : V.size ≤ 1000000 := by rw [← bytes_len, hVl, List.length_drop, bytes_len]; omega
                    have HNx : Hid (R = midO V.data.toList (M.drop (j + 1))) := Lib.hid (by rw [HSt.out, hcut, hVl]; rfl)
                    clear hcut hVl hZl hr
                    go_wp2
                    go_roundw
                    case rel => exact ⟨j + 1, V, by omega, by go_num, rfl, hVs, HNx, HB4.out⟩
                    case measure => simp [intOf]; omega
                  · have hne := str_ne hZY
                    have HNo2 : Hid (∀ i, i < k + 1 → i + Y.data.toList.length ≤ S.data.toList.length → (S.data.toList.drop i).take Y.data.toList.length ≠ Y.data.toList) := Lib.hid (fun i h1 h2 => by
                      by_cases e : i = k
                      · subst e
                        rw [← hZl]
                        exact fun e => hZY (bytes_ext e)
                      · exact HNo.out i (by omega) h2)
                    clear hZl hr hZY
                    go_wp2
                    go_round
                    case rel => exact ⟨k + 1, by go_num, by omega, HNo2⟩
                    case measure => simp [intOf]; omega
                · have v1 : decide ((k : Int) + (Y.size : Int) ≤ (S.size : Int)) = false := by simp; omega
                  have v2 : decide ((S.size : Int) < (k : Int) + (Y.size : Int)) = true := by simp; omega
                  have hpast := cutO_past (s := S.data.toList) (x := Y.data.toList) (i := k) (fun e => by rw [← bytes_len, e] at hY1; simp at hY1) (fun i hi hi2 => HNo.out i hi hi2) (by rw [bytes_len, bytes_len]; omega)
                  have HF : Hid (R = false) := Lib.hid (by rw [HSt.out, hpast]; rfl)
                  clear hpast hr
                  go_wp2
                  go_ret
                  exact ⟨by rw [HF.out]; rfl, HB4.out⟩
            · obtain rfl : j = m := by omega
              have u1 : decide ((j : Int) + 1 + 1 < (j : Int) + 1 + 1) = false := by simp
              have HTrue : Hid (R = true) := Lib.hid (by rw [HSay.out, List.drop_of_length_le (by rw [HMl.out]; exact Nat.le_refl _)]; rfl)
              clear hbel
              go_wp2
              go_ret
              exact ⟨by rw [HTrue.out]; rfl, HBel.out⟩
        · have hne := str_ne hQB
          have HF : Hid (R = false) := Lib.hid (by
            rw [HRr.out]
            unfold endsO
            rw [← hQl, show (Q.data.toList == B.data.toList) = false from by simpa using fun e => hQB (bytes_ext e)]
            simp)
          clear hPl hQl hlt hQB hnb
          go_wp2
          go_ret
          exact ⟨by rw [HF.out]; rfl, HT.out⟩
      · have hne := str_ne hPA
        have HF : Hid (R = false) := Lib.hid (by
          rw [HRr.out]
          unfold endsO
          rw [← hPl, show (P.data.toList == A.data.toList) = false from by simpa using fun e => hPA (bytes_ext e)]
          simp)
        clear hPl hlt hPA hnb
        go_wp2
        go_ret
        exact ⟨by rw [HF.out]; rfl, HT.out⟩
end Go.Proofs.YtdgnefcpeocbjaaGreatDoor


namespace Go.Proofs.YtdgnefcpeocbjaaGreatDoor
open Go.RowKit
set_option linter.unusedVariables false

theorem kinds_mem {n : List UInt8} {k : List UInt8 × Nat} (h : findL n = some k) : k ∈ kindsL := List.mem_of_find?_eq_some h
theorem find_none_ne {n : List UInt8} (h : findL n = none) : ∀ k ∈ kindsL, n ≠ k.1 := by
  intro k hk e
  have := List.find?_eq_none.1 h k hk
  simp [e] at this
theorem ne_str {L : ByteArray} {l : List UInt8} (h : L.data.toList ≠ l) : (L.toList == l) = false := by
  rw [beq_eq_false_iff_ne, ByteArray.toList_eq]; exact h

set_option maxRecDepth 100000 in
set_option maxHeartbeats 4000000 in
theorem ruleRef_any (s : ByteArray) (hs : s.size ≤ 281474976710656) (w : World) : Calls Tryz.prog 38 #[.string s] w fun e w' => e = .returned (.int .i64 (ruleD s.data.toList)) ∧ Below w.heap.size w w' := by
  obtain ⟨L, hL⟩ : ∃ L, L = lowB s := ⟨_, rfl⟩
  have hLl : L.data.toList = low s.data.toList := by rw [hL, lowB_list]
  have hr : ruleD s.data.toList = ruleL L.data.toList := by unfold ruleD; rw [hLl]
  rw [hr]
  have hlo := fun w => lowerRef_any s w hs
  rw [← hL] at hlo
  clear hL hLl hr
  have HLo := Lib.hid hlo
  clear hlo
  cases hf : findL L.data.toList with
  | some k =>
    have hm := kinds_mem hf
    have he := (findL_len hf).1
    have hru : ruleL L.data.toList = k.2 := by unfold ruleL; rw [hf]
    rw [hru]
    clear hru hf
    have hLk : L = ⟨k.1.toArray⟩ := bytes_ext (by rw [← he])
    clear he
    subst hLk
    simp only [kindsL, List.mem_cons, List.not_mem_nil, or_false] at hm
    rcases hm with rfl | rfl | rfl | rfl | rfl | rfl | rfl | rfl | rfl | rfl | rfl
    all_goals
      go_enter Tryz.func38, Tryz.ntmps38
      go_wp2_with (go_at_call 30; refine (HLo.out _).mono ?_; rintro e w1 ⟨rfl, hb1⟩; have HB := Lib.hid hb1; clear hb1)
      go_ret
      exact ⟨rfl, HB.out⟩
  | none =>
    have hru : ruleL L.data.toList = 0 := by unfold ruleL; rw [hf]
    rw [hru]
    have hne := find_none_ne hf
    clear hru hf
    have q0 := ne_str (hne ([111, 98, 106, 101, 99, 116, 99, 108, 97, 115, 115], 1) (by simp [kindsL]))
    have q1 := ne_str (hne ([99, 110], 1) (by simp [kindsL]))
    have q2 := ne_str (hne ([115, 110], 1) (by simp [kindsL]))
    have q3 := ne_str (hne ([111], 1) (by simp [kindsL]))
    have q4 := ne_str (hne ([111, 117], 1) (by simp [kindsL]))
    have q5 := ne_str (hne ([117, 105, 100], 1) (by simp [kindsL]))
    have q6 := ne_str (hne ([109, 97, 105, 108], 1) (by simp [kindsL]))
    have q7 := ne_str (hne ([100, 101, 115, 99, 114, 105, 112, 116, 105, 111, 110], 1) (by simp [kindsL]))
    have q8 := ne_str (hne ([117, 105, 100, 110, 117, 109, 98, 101, 114], 2) (by simp [kindsL]))
    have q9 := ne_str (hne ([109, 101, 109, 98, 101, 114], 3) (by simp [kindsL]))
    have q10 := ne_str (hne ([117, 115, 101, 114, 112, 97, 115, 115, 119, 111, 114, 100], 4) (by simp [kindsL]))
    clear hne
    go_enter Tryz.func38, Tryz.ntmps38
    go_wp2_with (go_at_call 30; refine (HLo.out _).mono ?_; rintro e w1 ⟨rfl, hb1⟩; have HB := Lib.hid hb1; clear hb1)
    go_ret
    exact ⟨rfl, HB.out⟩

def BoxS (w : World) (b : Nat) (x : ByteArray) (ok : Bool) : Prop := w.heap[b]? = some (.cells #[.string x, .bool ok] 62 (0, 0))
theorem BoxS.below {w w' : World} {b n : Nat} {x : ByteArray} {ok : Bool} (h : BoxS w b x ok) (hb : Below n w w') (hn : b < n) : BoxS w' b x ok := (hb.block b hn).trans h
theorem BoxS.cells {w : World} {b : Nat} {x : ByteArray} {ok : Bool} (h : BoxS w b x ok) : w.cell? ⟨b, 0, none⟩ = some (.string x) ∧ w.cell? ⟨b, 1, none⟩ = some (.bool ok) ∧ w.frozen? ⟨b, 0, none⟩ = false ∧ w.frozen? ⟨b, 1, none⟩ = false := by
  unfold BoxS at h
  simp [World.cell?, World.frozen?, h]
theorem boxS_new (w : World) (x : ByteArray) (ok : Bool) : BoxS (w.alloc (.cells #[.string x, .bool ok] 62)) w.heap.size x ok := heap_alloc_new w _
theorem BoxS.store {w : World} {b : Nat} {x : ByteArray} {ok : Bool} (h : BoxS w b x ok) (x' : ByteArray) (ok' : Bool) : BoxS ((w.setCell ⟨b, 0, none⟩ (.string x')).setCell ⟨b, 1, none⟩ (.bool ok')) b x' ok' := by
  unfold BoxS at h ⊢
  simp [World.setCell, Array.getElem?_modify, h]

def saidR (o : Option (List UInt8)) : Value := match o with
  | some k => .agg #[.string ⟨k.toArray⟩, .bool true]
  | none => .agg #[.string ⟨#[]⟩, .bool false]

end Go.Proofs.YtdgnefcpeocbjaaGreatDoor


namespace Go.Proofs.YtdgnefcpeocbjaaGreatDoor
set_option linter.unusedVariables false

theorem decFrom_snoc (b : UInt8) : ∀ (l : List UInt8) (acc : Nat), Lib.decFrom acc (l ++ [b]) = (Lib.decFrom acc l).bind fun n => (Lib.digitVal b).map fun d => n * 10 + d
  | [], acc => by
    simp only [List.nil_append, Lib.decFrom, Option.bind_some]
    cases Lib.digitVal b <;> rfl
  | c :: l, acc => by
    simp only [List.cons_append, Lib.decFrom]
    cases Lib.digitVal c with
    | none => rfl
    | some d => exact decFrom_snoc b l _
theorem dec_ne (u : Nat) : Lib.decDigits u ≠ [] := by
  intro e
  have := Lib.decDigits_length u
  have h2 := Lib.nDigits_pos u
  rw [e] at this
  simp at this
  omega
theorem dec_digits (u : Nat) : ∀ c ∈ Lib.decDigits u, 48 ≤ c.toNat ∧ c.toNat ≤ 57 := by
  induction u using Nat.strongRecOn with
  | _ u ih =>
    intro c hc
    by_cases h : u < 10
    · rw [Lib.decDigits_one h] at hc
      simp at hc
      subst hc
      simp; omega
    · rw [Lib.decDigits, dif_neg h] at hc
      rcases List.mem_append.1 hc with hc | hc
      · exact ih (u / 10) (by omega) c hc
      · simp at hc
        subst hc
        simp; omega
theorem dec_head (u : Nat) (h0 : 1 ≤ u) : ∀ c r, Lib.decDigits u = c :: r → c.toNat ≠ 48 := by
  induction u using Nat.strongRecOn with
  | _ u ih =>
    intro c r hc
    by_cases h : u < 10
    · rw [Lib.decDigits_one h] at hc
      simp at hc
      rw [← hc.1]
      simp; omega
    · rw [Lib.decDigits, dif_neg h] at hc
      cases hd : Lib.decDigits (u / 10) with
      | nil => exact absurd hd (dec_ne _)
      | cons x y =>
        rw [hd] at hc
        simp at hc
        rw [← hc.1]
        exact ih (u / 10) (by omega) (by omega) x y hd
theorem nDigits_le : ∀ (k u : Nat), u < 10 ^ (k + 1) → Lib.nDigits u ≤ k + 1
  | 0, u, h => by rw [Lib.nDigits_small (by simpa using h)]; exact Nat.le_refl _
  | k + 1, u, h => by
    by_cases h1 : u < 10
    · rw [Lib.nDigits_small h1]; omega
    · rw [Lib.nDigits_big h1]
      have := nDigits_le k (u / 10) (by rw [Nat.pow_succ] at h; omega)
      omega
theorem itoa_ne (v : Int) : Lib.itoa v ≠ [] := by
  unfold Lib.itoa
  split
  · simp
  · exact dec_ne _
theorem itoa_chars (v : Int) : ∀ c ∈ Lib.itoa v, c = 45 ∨ (48 ≤ c.toNat ∧ c.toNat ≤ 57) := by
  intro c hc
  unfold Lib.itoa at hc
  split at hc
  · rcases List.mem_cons.1 hc with h | h
    · exact .inl h
    · exact .inr (dec_digits _ c h)
  · exact .inr (dec_digits _ c hc)
theorem trim_neg (l : List UInt8) : Lib.trimPrefix (45 :: l) [45] = l := by simp [Lib.trimPrefix, Lib.hasPrefix]
theorem trim_not {c : UInt8} {l : List UInt8} (h : c ≠ 45) : Lib.trimPrefix (c :: l) [45] = c :: l := by
  simp [Lib.trimPrefix, Lib.hasPrefix]
  intro e
  exact absurd e.symm h
theorem trim_itoa (v : Int) : Lib.trimPrefix (Lib.itoa v) [45] = Lib.decDigits v.natAbs := by
  unfold Lib.itoa
  split
  · exact trim_neg _
  · rename_i h
    have e : v.toNat = v.natAbs := by omega
    rw [e]
    cases hd : Lib.decDigits v.natAbs with
    | nil => exact absurd hd (dec_ne _)
    | cons c r =>
      refine trim_not ?_
      intro ec
      have := dec_digits v.natAbs c (by rw [hd]; simp)
      rw [ec] at this
      simp at this
theorem numD_some {l : List UInt8} {v : Int} (h : numD l = some v) : l = Lib.itoa v ∧ v.natAbs < 1000000000000000 := by
  unfold numD at h
  split at h
  · rename_i h15
    cases hp : Lib.parseIntB 64 l with
    | ok u =>
      rw [hp] at h
      simp only [okN] at h
      split at h
      · rename_i he
        cases h
        refine ⟨he.symm, ?_⟩
        rw [← he, trim_itoa, Lib.decDigits_length] at h15
        have h1 := Lib.lt_pow_nDigits v.natAbs
        have h2 : 10 ^ Lib.nDigits v.natAbs ≤ 10 ^ 15 := Nat.pow_le_pow_right (by decide) h15
        have h3 : (10 : Nat) ^ 15 = 1000000000000000 := by decide
        omega
      · cases h
    | «syntax» => rw [hp] at h; cases h
    | range => rw [hp] at h; cases h
  · cases h
theorem itoa_len (v : Int) (h : v.natAbs < 1000000000000000) : (Lib.itoa v).length ≤ 16 := by
  have h15 : (Lib.decDigits v.natAbs).length ≤ 15 := by rw [Lib.decDigits_length]; exact nDigits_le 14 _ (by simpa using h)
  unfold Lib.itoa
  split
  · simp; omega
  · rename_i h; rw [show v.toNat = v.natAbs by omega]; omega

theorem numD_char {l : List UInt8} {c : UInt8} (hc : c ∈ l) (h : c ≠ 45 ∧ ¬ (48 ≤ c.toNat ∧ c.toNat ≤ 57)) : numD l = none := by
  cases hn : numD l with
  | none => rfl
  | some v =>
    have := (numD_some hn).1
    subst this
    rcases itoa_chars v c hc with e | e
    · exact absurd e h.1
    · exact absurd e h.2
theorem numD_minus : numD [45, 48] = none ∧ numD [45] = none ∧ numD [] = none ∧ numD [49, 50, 51, 52, 53, 54, 55, 56, 57, 48, 49, 50, 51, 52, 53, 54] = none := by
  refine ⟨?_, ?_, ?_, by decide⟩
  · cases hn : numD [45, 48] with
    | none => rfl
    | some v =>
      have h := (numD_some hn).1
      unfold Lib.itoa at h
      split at h
      · simp at h
        exact absurd rfl (dec_head v.natAbs (by omega) 48 [] h.symm)
      · exact absurd rfl ((fun e => by have := dec_digits v.toNat 45 (by rw [← h]; simp); simp at this) : ¬ (45 = 45))
  · cases hn : numD [45] with
    | none => rfl
    | some v =>
      have h := (numD_some hn).1
      unfold Lib.itoa at h
      split at h
      · simp at h
        exact absurd h (dec_ne _)
      · have := dec_digits v.toNat 45 (by rw [← h]; simp); simp at this
  · cases hn : numD [] with
    | none => rfl
    | some v => exact absurd (numD_some hn).1.symm (itoa_ne v)
theorem normD_num {l : List UInt8} (h : numD l = none) : normD 2 l = none := by
  unfold normD
  split
  · rfl
  · rw [if_neg (by decide), if_pos rfl, h]; rfl
end Go.Proofs.YtdgnefcpeocbjaaGreatDoor


namespace Go.Proofs.YtdgnefcpeocbjaaGreatDoor
open Go.RowKit
set_option linter.unusedVariables false

theorem conv_one (m : Int) (b : UInt8) (h : (b.toNat : Int) = m) (w : World) : (convert 34 9 (.slice (some ⟨w.heap.size, 0, none⟩) 1 1)).run Tryz.prog (w.alloc (.cells #[.int .u8 m] 5)) = .ok (.string (ofL [b])) (w.alloc (.cells #[.int .u8 m] 5)) := by
  subst h
  refine run_convert_bytes_back _ 34 9 5 _ 1 [b] Tryz.underlying34 Tryz.underlying5 Tryz.underlying9 fun j hj => ?_
  have : j = 0 := by simp at hj; omega
  subst this
  simp [Addr.add]
theorem decDigits_big {u : Nat} (h : 10 ≤ u) : Lib.decDigits u = Lib.decDigits (u / 10) ++ [UInt8.ofNat (48 + u % 10)] := by rw [Lib.decDigits, dif_neg (by omega)]
theorem digit_val (u : Nat) : ((UInt8.ofNat (48 + u % 10)).toNat : Int) = 48 + (u : Int) % 10 := by simp; omega
theorem digit_val1 (u : Nat) (h : u < 10) : ((UInt8.ofNat (48 + u)).toNat : Int) = 48 + (u : Int) := by simp; omega

theorem wrap_u64 (n : Int) : IntKind.u64.wrap n = n % 18446744073709551616 := by
  unfold IntKind.wrap
  simp [IntKind.bits, IntKind.signed]
set_option maxRecDepth 100000 in
set_option maxHeartbeats 4000000 in
theorem digitsNat_any (neg : Bool) (N : Nat) (hN : N ≤ 1000000000000000000) (hneg : neg = true → 1 ≤ N) (w : World) :
    Calls Tryz.prog 28 #[.int .i64 (if neg then -(N : Int) else N)] w fun e w' => e = .returned (.string (ofL (if neg then 45 :: Lib.decDigits N else Lib.decDigits N))) ∧ Below w.heap.size w w' := by
  have hlen : (Lib.decDigits N).length ≤ 21 := by
    have := Lib.itoa_length_le (N : Int) (by omega) (by omega)
    rw [Lib.itoa_nonneg] at this
    exact this
  obtain ⟨V, hV⟩ : ∃ V, V = (if neg then -(N : Int) else N) := ⟨_, rfl⟩
  rw [← hV]
  obtain ⟨U, hU⟩ : ∃ U, IntKind.u64.wrap V = U := ⟨_, rfl⟩
  have key : decide (V < 0) = neg ∧ (neg = true → IntKind.u64.wrap (-U) = N) ∧ (neg = false → U = N) := by
    cases neg with
    | false =>
      simp at hV
      refine ⟨by simp; omega, by simp, fun _ => ?_⟩
      rw [← hU, hV]; simp only [wrap_u64]; omega
    | true =>
      simp at hV
      have := hneg rfl
      refine ⟨by simp; omega, fun _ => ?_, by simp⟩
      rw [← hU, hV]; simp only [wrap_u64]; omega
  obtain ⟨k1, k2, k3⟩ := key
  clear hV
  have HLen := Lib.hid hlen
  clear hlen
  cases neg with
  | false =>
    have hUN := k3 rfl
    clear k3 k2 hneg
    subst hUN
    go_enter Tryz.func28, Tryz.ntmps28
    go_wp2
    go_loopw [3, 4] (fun u s wr => ∃ (m : Nat) (D : List UInt8), u = .int .u64 m ∧ s = .string (ofL D) ∧ m ≤ 1000000000000000000 ∧ Hid (Lib.decDigits N = Lib.decDigits m ++ D) ∧ D.length ≤ 21 ∧ Below w.heap.size w wr) (fun u _ _ => (intOf u).toNat)
    case atStart => exact ⟨N, [], rfl, rfl, hN, Lib.hid (by simp), by simp, Below.refl _ _⟩
    case round =>
      obtain ⟨m, D, rfl, rfl, hm, HD, hDl, hbel⟩ := hrel
      have HBel := Lib.hid hbel
      have hsz := hbel.size
      clear hbel
      have hs1 := ofL_size D
      by_cases h10 : 10 ≤ m
      · have t1 : decide ((10 : Int) ≤ (m : Int)) = true := by simp; omega
        have hcv := conv_one (48 + (m : Int) % 10) (UInt8.ofNat (48 + m % 10)) (digit_val m) wr
        have hnew : Lib.decDigits N = Lib.decDigits (m / 10) ++ (UInt8.ofNat (48 + m % 10) :: D) := by rw [HD.out, decDigits_big h10]; simp
        have hl2 : (UInt8.ofNat (48 + m % 10) :: D).length ≤ 21 := by have := HLen.out; rw [hnew] at this; simp at this ⊢; omega
        have HNew := Lib.hid hnew
        have hs2 := ofL_size [UInt8.ofNat (48 + m % 10)]
        have hap : ofL [UInt8.ofNat (48 + m % 10)] ++ ofL D = ofL (UInt8.ofNat (48 + m % 10) :: D) := ofL_app _ _
        have hs1' : (ofL D).size ≤ 21 := by omega
        have hs2' : (ofL [UInt8.ofNat (48 + m % 10)]).size ≤ 1 := by rw [hs2]; simp
        have HAp := Lib.hid hap
        clear hnew hs1 hs2 hap
        generalize UInt8.ofNat (48 + m % 10) = b at *
        go_wp2
        go_roundw
        case rel => exact ⟨m / 10, b :: D, by go_num, by rw [HAp.out], by omega, HNew, hl2, HBel.out.alloc hsz _⟩
        case measure => simp [intOf]; omega
      · have t1 : decide ((10 : Int) ≤ (m : Int)) = false := by simp; omega
        have hcv := conv_one (48 + (m : Int)) (UInt8.ofNat (48 + m)) (digit_val1 m (by omega)) wr
        have hnew : Lib.decDigits N = UInt8.ofNat (48 + m) :: D := by rw [HD.out, Lib.decDigits_one (by omega)]; rfl
        have hs2 := ofL_size [UInt8.ofNat (48 + m)]
        have hap : ofL [UInt8.ofNat (48 + m)] ++ ofL D = ofL (Lib.decDigits N) := by rw [ofL_app, hnew]; rfl
        have hs1' : (ofL D).size ≤ 21 := by omega
        have hs2' : (ofL [UInt8.ofNat (48 + m)]).size ≤ 1 := by rw [hs2]; simp
        have hs3 : (ofL (Lib.decDigits N)).size ≤ 21 := by rw [ofL_size]; exact HLen.out
        have hs4 : (⟨#[45]⟩ : ByteArray).size = 1 := rfl
        have hap2 : (⟨#[45]⟩ : ByteArray) ++ ofL (Lib.decDigits N) = ofL (45 :: Lib.decDigits N) := ofL_app [45] _
        have HAp2 := Lib.hid hap2
        clear hnew hs1 hs2 hap2
        generalize UInt8.ofNat (48 + m) = b at *
        obtain ⟨R, hR⟩ : ∃ R, R = ofL (Lib.decDigits N) := ⟨_, rfl⟩
        rw [← hR] at hap hs3 HAp2
        have HR := Lib.hid hR
        clear hR
        go_wp2
        go_ret
        exact ⟨by rw [← HR.out]; rfl, HBel.out.alloc hsz _⟩
  | true =>
    have hN1 := hneg rfl
    have k2' := k2 rfl
    clear k3 k2 hneg
    go_enter Tryz.func28, Tryz.ntmps28
    go_wp2
    go_loopw [3, 4] (fun u s wr => ∃ (m : Nat) (D : List UInt8), u = .int .u64 m ∧ s = .string (ofL D) ∧ m ≤ 1000000000000000000 ∧ Hid (Lib.decDigits N = Lib.decDigits m ++ D) ∧ D.length ≤ 21 ∧ Below w.heap.size w wr) (fun u _ _ => (intOf u).toNat)
    case atStart => exact ⟨N, [], rfl, rfl, hN, Lib.hid (by simp), by simp, Below.refl _ _⟩
    case round =>
      obtain ⟨m, D, rfl, rfl, hm, HD, hDl, hbel⟩ := hrel
      have HBel := Lib.hid hbel
      have hsz := hbel.size
      clear hbel
      have hs1 := ofL_size D
      by_cases h10 : 10 ≤ m
      · have t1 : decide ((10 : Int) ≤ (m : Int)) = true := by simp; omega
        have hcv := conv_one (48 + (m : Int) % 10) (UInt8.ofNat (48 + m % 10)) (digit_val m) wr
        have hnew : Lib.decDigits N = Lib.decDigits (m / 10) ++ (UInt8.ofNat (48 + m % 10) :: D) := by rw [HD.out, decDigits_big h10]; simp
        have hl2 : (UInt8.ofNat (48 + m % 10) :: D).length ≤ 21 := by have := HLen.out; rw [hnew] at this; simp at this ⊢; omega
        have HNew := Lib.hid hnew
        have hs2 := ofL_size [UInt8.ofNat (48 + m % 10)]
        have hap : ofL [UInt8.ofNat (48 + m % 10)] ++ ofL D = ofL (UInt8.ofNat (48 + m % 10) :: D) := ofL_app _ _
        have hs1' : (ofL D).size ≤ 21 := by omega
        have hs2' : (ofL [UInt8.ofNat (48 + m % 10)]).size ≤ 1 := by rw [hs2]; simp
        have HAp := Lib.hid hap
        clear hnew hs1 hs2 hap
        generalize UInt8.ofNat (48 + m % 10) = b at *
        go_wp2
        go_roundw
        case rel => exact ⟨m / 10, b :: D, by go_num, by rw [HAp.out], by omega, HNew, hl2, HBel.out.alloc hsz _⟩
        case measure => simp [intOf]; omega
      · have t1 : decide ((10 : Int) ≤ (m : Int)) = false := by simp; omega
        have hcv := conv_one (48 + (m : Int)) (UInt8.ofNat (48 + m)) (digit_val1 m (by omega)) wr
        have hnew : Lib.decDigits N = UInt8.ofNat (48 + m) :: D := by rw [HD.out, Lib.decDigits_one (by omega)]; rfl
        have hs2 := ofL_size [UInt8.ofNat (48 + m)]
        have hap : ofL [UInt8.ofNat (48 + m)] ++ ofL D = ofL (Lib.decDigits N) := by rw [ofL_app, hnew]; rfl
        have hs1' : (ofL D).size ≤ 21 := by omega
        have hs2' : (ofL [UInt8.ofNat (48 + m)]).size ≤ 1 := by rw [hs2]; simp
        have hs3 : (ofL (Lib.decDigits N)).size ≤ 21 := by rw [ofL_size]; exact HLen.out
        have hs4 : (⟨#[45]⟩ : ByteArray).size = 1 := rfl
        have hap2 : (⟨#[45]⟩ : ByteArray) ++ ofL (Lib.decDigits N) = ofL (45 :: Lib.decDigits N) := ofL_app [45] _
        have HAp2 := Lib.hid hap2
        clear hnew hs1 hs2 hap2
        generalize UInt8.ofNat (48 + m) = b at *
        obtain ⟨R, hR⟩ : ∃ R, R = ofL (Lib.decDigits N) := ⟨_, rfl⟩
        rw [← hR] at hap hs3 HAp2
        have HR := Lib.hid hR
        clear hR
        go_wp2
        go_ret
        exact ⟨by rw [HAp2.out]; rfl, HBel.out.alloc hsz _⟩

theorem digits_any (n : Int) (h0 : -1000000000000000000 ≤ n) (h1 : n ≤ 1000000000000000000) (w : World) :
    Calls Tryz.prog 28 #[.int .i64 n] w fun e w' => e = .returned (.string (ofL (Lib.itoa n))) ∧ Below w.heap.size w w' := by
  by_cases h : n < 0
  · have := digitsNat_any true n.natAbs (by omega) (by intro _; omega) w
    simp only [if_true] at this
    have e : -(n.natAbs : Int) = n := by omega
    rw [e] at this
    unfold Lib.itoa
    rw [if_pos h]
    exact this
  · have := digitsNat_any false n.toNat (by omega) (by intro h; cases h) w
    simp only [Bool.false_eq_true, if_false] at this
    have e : (n.toNat : Int) = n := by omega
    rw [e] at this
    unfold Lib.itoa
    rw [if_neg h]
    exact this
end Go.Proofs.YtdgnefcpeocbjaaGreatDoor


namespace Go.Proofs.YtdgnefcpeocbjaaGreatDoor
open Go.RowKit
set_option linter.unusedVariables false

theorem decFrom_digits : ∀ (l : List UInt8) (acc n : Nat), Lib.decFrom acc l = some n → ∀ c ∈ l, 48 ≤ c.toNat ∧ c.toNat ≤ 57
  | [], _, _, _, c, hc => absurd hc (by simp)
  | a :: l, acc, n, h, c, hc => by
    simp only [Lib.decFrom, Lib.digitVal] at h
    by_cases hd : 48 ≤ a.toNat ∧ a.toNat ≤ 57
    · rw [if_pos hd] at h
      rcases List.mem_cons.1 hc with rfl | hc
      · exact hd
      · exact decFrom_digits l _ n h c hc
    · rw [if_neg hd] at h; cases h
theorem numD_pos {l : List UInt8} {n : Nat} (h0 : l ≠ []) (hl : l.length ≤ 15) (h : Lib.decFrom 0 l = some n) : numD l = if Lib.itoa (n : Int) = l then some (n : Int) else none := by
  cases l with
  | nil => exact absurd rfl h0
  | cons c r =>
    have hc := decFrom_digits _ _ _ h c (by simp)
    have h45 : c ≠ 45 := by intro e; rw [e] at hc; simp at hc
    have h43 : c ≠ 43 := by intro e; rw [e] at hc; simp at hc
    have hat : Lib.atoi (c :: r) = some (n : Int) := by
      simp only [Lib.atoi]
      rw [if_neg (by simpa using h45), if_neg (by simpa using h43)]
      simp only [Lib.decNat, List.isEmpty_cons, Bool.false_eq_true, if_false, h, Option.map_some]
    unfold numD
    rw [trim_not h45, if_pos hl, Lib.parseIntB_64, Lib.atoiAll_short _ (by omega), hat]
    rfl
theorem numD_neg {l : List UInt8} {n : Nat} (h0 : l ≠ []) (hl : l.length ≤ 15) (h : Lib.decFrom 0 l = some n) : numD (45 :: l) = if Lib.itoa (-(n : Int)) = 45 :: l then some (-(n : Int)) else none := by
  have hat : Lib.atoi (45 :: l) = some (-(n : Int)) := by
    cases l with
    | nil => exact absurd rfl h0
    | cons c r => simp only [Lib.atoi, beq_self_eq_true, if_true, Lib.decNat, List.isEmpty_cons, Bool.false_eq_true, if_false, h, Option.map_some]
  unfold numD
  rw [trim_neg, if_pos hl, Lib.parseIntB_64, Lib.atoiAll_short _ (by simp; omega), hat]
  rfl
theorem numD_bad {l : List UInt8} {c : UInt8} (hc : c ∈ Lib.trimPrefix l [45]) (h : ¬ (48 ≤ c.toNat ∧ c.toNat ≤ 57)) : numD l = none := by
  cases hn : numD l with
  | none => rfl
  | some v =>
    have := (numD_some hn).1
    subst this
    rw [trim_itoa] at hc
    exact absurd (dec_digits _ c hc) h
theorem numD_long {l : List UInt8} (h : 15 < (Lib.trimPrefix l [45]).length) : numD l = none := by unfold numD; rw [if_neg (by omega)]

def BoxNm (w : World) (b : Nat) (x : Int) (ok : Bool) : Prop := w.heap[b]? = some (.cells #[.int .i64 x, .bool ok] 81 (0, 0))
theorem BoxNm.below {w w' : World} {b n : Nat} {x : Int} {ok : Bool} (h : BoxNm w b x ok) (hb : Below n w w') (hn : b < n) : BoxNm w' b x ok := (hb.block b hn).trans h
theorem BoxNm.cells {w : World} {b : Nat} {x : Int} {ok : Bool} (h : BoxNm w b x ok) : w.cell? ⟨b, 0, none⟩ = some (.int .i64 x) ∧ w.cell? ⟨b, 1, none⟩ = some (.bool ok) ∧ w.frozen? ⟨b, 0, none⟩ = false ∧ w.frozen? ⟨b, 1, none⟩ = false := by
  unfold BoxNm at h
  simp [World.cell?, World.frozen?, h]
theorem boxNm_new (w : World) (x : Int) (ok : Bool) : BoxNm (w.alloc (.cells #[.int .i64 x, .bool ok] 81)) w.heap.size x ok := heap_alloc_new w _
theorem BoxNm.store {w : World} {b : Nat} {x : Int} {ok : Bool} (h : BoxNm w b x ok) (x' : Int) (ok' : Bool) : BoxNm ((w.setCell ⟨b, 0, none⟩ (.int .i64 x')).setCell ⟨b, 1, none⟩ (.bool ok')) b x' ok' := by
  unfold BoxNm at h ⊢
  simp [World.setCell, Array.getElem?_modify, h]

def numR (o : Option Int) : Value := match o with
  | some v => .agg #[.int .i64 v, .bool true]
  | none => .agg #[.int .i64 0, .bool false]

set_option maxRecDepth 100000 in
set_option maxHeartbeats 8000000 in
theorem numberRef_any (s : ByteArray) (hs : s.size ≤ 281474976710656) (w : World) : Calls Tryz.prog 51 #[.string s] w fun e w' => e = .returned (numR (numD s.data.toList)) ∧ Below w.heap.size w w' := by
  have HBox := Lib.hid (boxNm_new w 0 false)
  obtain ⟨q0, q1, _, _⟩ := (HBox.out.store 0 false).cells
  by_cases h0 : s.data.toList = []
  · obtain ⟨e1, e2⟩ := bytes_nil h0
    have hz : s.size = 0 := by rw [← bytes_len, h0]; rfl
    have HNo := Lib.hid (show numD s.data.toList = none by rw [h0]; exact numD_minus.2.2.1)
    have t0 : ((s.size : Int) == 0) = true := by simp [hz]
    clear h0 hz
    go_enter Tryz.func51, Tryz.ntmps51
    go_wp2
    refine bodyPost_ret (v := .agg #[.int .i64 0, .bool false]) (by simp [results, Tryz.results51, go_sem]) rfl ⟨by rw [HNo.out]; rfl, ?_⟩
    first | exact (Below.refl _ _).alloc (Nat.le_refl _) _ | exact (((Below.refl _ _).alloc (Nat.le_refl _) _).setCell (Nat.le_refl _) _).setCell (Nat.le_refl _) _
  obtain ⟨e1, e2⟩ := bytes_some h0
  have hpos : 0 < s.size := by
    rw [← bytes_len]; exact List.length_pos_iff.2 h0
  obtain ⟨a, ha⟩ : ∃ a : UInt8, s[0] = a := ⟨_, rfl⟩
  have hl0 : s.data.toList = a :: s.data.toList.drop 1 := by
    have := List.drop_eq_getElem_cons (l := s.data.toList) (i := 0) (by rw [bytes_len]; exact hpos)
    rw [List.drop_zero] at this
    rw [← ha]
    exact this
  have hal := a.toNat_lt
  by_cases h45 : a.toNat = 45
  · have ea : a = 45 := UInt8.toNat_inj.1 h45
    have t0 : ((a.toNat : Int) == 45) = true := by simp [h45]
    have e45 : (45 : UInt8) :: s.data.toList.drop 1 = s.data.toList := by rw [← ea]; exact hl0.symm
    have htr : Lib.trimPrefix s.data.toList [45] = s.data.toList.drop 1 := by have := trim_neg (s.data.toList.drop 1); rw [e45] at this; exact this
    clear e45
    by_cases h1 : s.size = 1
    · have HNo := Lib.hid (show numD s.data.toList = none by
        have : s.data.toList.drop 1 = [] := List.drop_eq_nil_iff.2 (by rw [bytes_len]; omega)
        rw [hl0, this, ea]; exact numD_minus.2.1)
      have t4 : ((s.size : Int) == 1) = true := by simp [h1]
      clear hl0 htr h45 ea h0 h1
      go_enter Tryz.func51, Tryz.ntmps51
      go_wp2
      refine bodyPost_ret (v := .agg #[.int .i64 0, .bool false]) (by simp [results, Tryz.results51, go_sem]) rfl ⟨by rw [HNo.out]; rfl, ?_⟩
      first | exact (Below.refl _ _).alloc (Nat.le_refl _) _ | exact (((Below.refl _ _).alloc (Nat.le_refl _) _).setCell (Nat.le_refl _) _).setCell (Nat.le_refl _) _
    have t4 : ((s.size : Int) == 1) = false := by simp; omega
    by_cases h15 : 15 < s.size - 1
    · have HNo := Lib.hid (numD_long (l := s.data.toList) (by rw [htr, List.length_drop, bytes_len]; exact h15))
      have t6 : decide ((15 : Int) < (s.size : Int) - 1) = true := by simp; omega
      have t7 : decide ((16 : Int) < (s.size : Int)) = true := by simp; omega
      clear hl0 htr h45 ea h0 h1
      go_enter Tryz.func51, Tryz.ntmps51
      go_wp2
      refine bodyPost_ret (v := .agg #[.int .i64 0, .bool false]) (by simp [results, Tryz.results51, go_sem]) rfl ⟨by rw [HNo.out]; rfl, ?_⟩
      first | exact (Below.refl _ _).alloc (Nat.le_refl _) _ | exact (((Below.refl _ _).alloc (Nat.le_refl _) _).setCell (Nat.le_refl _) _).setCell (Nat.le_refl _) _
    have t6 : decide ((15 : Int) < (s.size : Int) - 1) = false := by simp; omega
    have t7 : decide ((16 : Int) < (s.size : Int)) = false := by simp; omega
    have hbad : ∀ c ∈ s.data.toList.drop 1, ¬ (48 ≤ c.toNat ∧ c.toNat ≤ 57) → numD s.data.toList = none := fun c hc hn => numD_bad (by rw [htr]; exact hc) hn
    have hval : ∀ m : Nat, Lib.decFrom 0 (s.data.toList.drop 1) = some m → numD s.data.toList = if Lib.itoa (-(m : Int)) = s.data.toList then some (-(m : Int)) else none := fun m hm => by
      have hne : s.data.toList.drop 1 ≠ [] := fun e => by have := congrArg List.length e; rw [List.length_drop, bytes_len] at this; simp at this; omega
      have := numD_neg hne (by rw [List.length_drop, bytes_len]; omega) hm
      have e : (45 : UInt8) :: s.data.toList.drop 1 = s.data.toList := by rw [← ea]; exact hl0.symm
      rw [e] at this
      exact this
    clear hl0 htr h45 ea h0 h1
    have HBad := Lib.hid hbad
    have HVal := Lib.hid hval
    clear hbad hval
    go_enter Tryz.func51, Tryz.ntmps51
    go_wp2
    go_loop [3, 5] (fun n i => ∃ (j m : Nat), 1 ≤ j ∧ j ≤ s.size ∧ i = .int .i64 j ∧ n = .int .i64 m ∧ Hid (Lib.decFrom 0 ((s.data.toList.drop 1).take (j - 1)) = some m) ∧ Hid (m < 10 ^ (j - 1))) (fun _ i => s.size - (intOf i).toNat)
    case atStart => exact ⟨1, 0, by omega, by omega, rfl, rfl, Lib.hid (by simp [Lib.decFrom]), Lib.hid (by simp)⟩
    case round =>
      obtain ⟨j, m, hj0, hj, rfl, rfl, HD, HM⟩ := hrel
      by_cases hlt : j < s.size
      · have t1 : decide ((j : Int) < (s.size : Int)) = true := by simp; omega
        have hm14 : m ≤ 99999999999999 := by
          have h1 := HM.out
          have h2 : 10 ^ (j - 1) ≤ 10 ^ 14 := Nat.pow_le_pow_right (by decide) (by omega)
          have h3 : (10 : Nat) ^ 14 = 100000000000000 := by decide
          omega
        obtain ⟨c, hc⟩ : ∃ c : UInt8, s[j] = c := ⟨_, rfl⟩
        have hcl := c.toNat_lt
        have hmem : c ∈ s.data.toList.drop 1 := by
          rw [← hc]
          have e : (s.data.toList.drop 1)[j - 1]'(by rw [List.length_drop, bytes_len]; omega) = s[j] := by
            rw [List.getElem_drop]
            have : 1 + (j - 1) = j := by omega
            simp only [this]
            rfl
          rw [← e]
          exact List.getElem_mem _
        by_cases h48 : c.toNat < 48
        · have t2 : decide ((c.toNat : Int) < 48) = true := by simp; omega
          have HNo := Lib.hid (HBad.out c hmem (by omega))
          clear hmem
          go_wp2
          refine bodyPost_ret (v := .agg #[.int .i64 0, .bool false]) (by simp [results, Tryz.results51, go_sem]) rfl ⟨by rw [HNo.out]; rfl, ?_⟩
          first | exact (Below.refl _ _).alloc (Nat.le_refl _) _ | exact (((Below.refl _ _).alloc (Nat.le_refl _) _).setCell (Nat.le_refl _) _).setCell (Nat.le_refl _) _
        have t2 : decide ((c.toNat : Int) < 48) = false := by simp; omega
        by_cases h57 : 57 < c.toNat
        · have t3 : decide ((57 : Int) < (c.toNat : Int)) = true := by simp; omega
          have HNo := Lib.hid (HBad.out c hmem (by omega))
          clear hmem
          go_wp2
          refine bodyPost_ret (v := .agg #[.int .i64 0, .bool false]) (by simp [results, Tryz.results51, go_sem]) rfl ⟨by rw [HNo.out]; rfl, ?_⟩
          first | exact (Below.refl _ _).alloc (Nat.le_refl _) _ | exact (((Below.refl _ _).alloc (Nat.le_refl _) _).setCell (Nat.le_refl _) _).setCell (Nat.le_refl _) _
        have t3 : decide ((57 : Int) < (c.toNat : Int)) = false := by simp; omega
        have hnew : Lib.decFrom 0 ((s.data.toList.drop 1).take (j + 1 - 1)) = some (m * 10 + (c.toNat - 48)) := by
          rw [show j + 1 - 1 = (j - 1) + 1 by omega, List.take_succ_eq_append_getElem (by rw [List.length_drop, bytes_len]; omega), decFrom_snoc, HD.out]
          have e : (s.data.toList.drop 1)[j - 1]'(by rw [List.length_drop, bytes_len]; omega) = c := by
            rw [← hc, List.getElem_drop]
            have : 1 + (j - 1) = j := by omega
            simp only [this]
            rfl
          rw [e]
          simp only [Option.bind_some, Lib.digitVal]
          rw [if_pos (by omega)]
          rfl
        have hpow : m * 10 + (c.toNat - 48) < 10 ^ (j + 1 - 1) := by
          rw [show j + 1 - 1 = (j - 1) + 1 by omega, Nat.pow_succ]
          have := HM.out
          omega
        have HNew := Lib.hid hnew
        have HPow := Lib.hid hpow
        clear hnew hpow hmem
        go_wp2
        go_round
        case rel => exact ⟨j + 1, m * 10 + (c.toNat - 48), by omega, by omega, by go_num, by (congr 1; omega), HNew, HPow⟩
        case measure => simp [intOf]; omega
      · obtain rfl : j = s.size := by omega
        have t1 : decide ((s.size : Int) < (s.size : Int)) = false := by simp
        have hd := HD.out
        rw [List.take_of_length_le (by rw [List.length_drop, bytes_len]; omega)] at hd
        have hm15 : m < 1000000000000000 := by
          have h1 := HM.out
          have h2 : 10 ^ (s.size - 1) ≤ 10 ^ 15 := Nat.pow_le_pow_right (by decide) (by omega)
          have h3 : (10 : Nat) ^ 15 = 1000000000000000 := by decide
          omega
        have hres := HVal.out m hd
        have hdg := fun w => digits_any (-(m : Int)) (by omega) (by omega) w
        obtain ⟨F, hF⟩ : ∃ F : ByteArray, F = ofL (Lib.itoa (-(m : Int))) := ⟨_, rfl⟩
        have hFl : Lib.itoa (-(m : Int)) = F.data.toList := by rw [hF, ofL_list]
        rw [← hF] at hdg
        rw [hFl] at hres
        have HDg := Lib.hid hdg
        clear hF hFl hdg hd HD HM
        by_cases he : F = s
        · have hr : numD s.data.toList = some (-(m : Int)) := by rw [hres, if_pos (by rw [he])]
          have HR := Lib.hid hr
          subst he
          clear hr hres
          go_wp2_with (go_at_call 28; refine (HDg.out _).mono ?_; rintro e w1 ⟨rfl, hb1⟩; have HB := Lib.hid hb1; have HX := Lib.hid (HBox.out.below hb1 (by simp)); obtain ⟨k0, k1, l0, l1⟩ := HX.out.cells; clear hb1)
          obtain ⟨q0, q1, _, _⟩ := (HX.out.store (-(m : Int)) true).cells
          refine bodyPost_ret (v := .agg #[.int .i64 (-(m : Int)), .bool true]) (by simp [results, Tryz.results51, go_sem, q0, q1]) rfl ⟨by rw [HR.out]; rfl, ?_⟩
          exact ((((Below.refl _ _).alloc (Nat.le_refl _) _).trans (HB.out.mono (by simp))).setCell (Nat.le_refl _) _).setCell (Nat.le_refl _) _
        · have hr : numD s.data.toList = none := by rw [hres, if_neg (fun e => he (bytes_ext e))]
          have HR := Lib.hid hr
          have t5 := str_ne he
          clear hr hres he
          go_wp2_with (go_at_call 28; refine (HDg.out _).mono ?_; rintro e w1 ⟨rfl, hb1⟩; have HB := Lib.hid hb1; have HX := Lib.hid (HBox.out.below hb1 (by simp)); obtain ⟨k0, k1, l0, l1⟩ := HX.out.cells; clear hb1)
          obtain ⟨q0, q1, _, _⟩ := (HX.out.store (0 : Int) false).cells
          refine bodyPost_ret (v := .agg #[.int .i64 0, .bool false]) (by simp [results, Tryz.results51, go_sem, q0, q1]) rfl ⟨by rw [HR.out]; rfl, ?_⟩
          exact ((((Below.refl _ _).alloc (Nat.le_refl _) _).trans (HB.out.mono (by simp))).setCell (Nat.le_refl _) _).setCell (Nat.le_refl _) _
  · have na : a ≠ 45 := fun e => h45 (by rw [e]; rfl)
    have t0 : ((a.toNat : Int) == 45) = false := by simp; omega
    have htr : Lib.trimPrefix s.data.toList [45] = s.data.toList := by rw [hl0]; exact trim_not na
    have t4 : ((s.size : Int) == 0) = false := by rw [beq_eq_false_iff_ne]; omega
    by_cases h15 : 15 < s.size
    · have HNo := Lib.hid (numD_long (l := s.data.toList) (by rw [htr, bytes_len]; exact h15))
      have t6 : decide ((15 : Int) < (s.size : Int)) = true := by simp; omega
      clear hl0 htr h45 na h0
      go_enter Tryz.func51, Tryz.ntmps51
      go_wp2
      refine bodyPost_ret (v := .agg #[.int .i64 0, .bool false]) (by simp [results, Tryz.results51, go_sem]) rfl ⟨by rw [HNo.out]; rfl, ?_⟩
      first | exact (Below.refl _ _).alloc (Nat.le_refl _) _ | exact (((Below.refl _ _).alloc (Nat.le_refl _) _).setCell (Nat.le_refl _) _).setCell (Nat.le_refl _) _
    have t6 : decide ((15 : Int) < (s.size : Int)) = false := by simp; omega
    have hbad : ∀ c ∈ s.data.toList.drop 0, ¬ (48 ≤ c.toNat ∧ c.toNat ≤ 57) → numD s.data.toList = none := fun c hc hn => numD_bad (by rw [htr]; exact hc) hn
    have hval : ∀ m : Nat, Lib.decFrom 0 (s.data.toList.drop 0) = some m → numD s.data.toList = if Lib.itoa (m : Int) = s.data.toList then some (m : Int) else none := fun m hm => numD_pos h0 (by rw [bytes_len]; omega) hm
    clear hl0 htr h45 na h0
    have HBad := Lib.hid hbad
    have HVal := Lib.hid hval
    clear hbad hval
    go_enter Tryz.func51, Tryz.ntmps51
    go_wp2
    go_loop [3, 5] (fun n i => ∃ (j m : Nat), 0 ≤ j ∧ j ≤ s.size ∧ i = .int .i64 j ∧ n = .int .i64 m ∧ Hid (Lib.decFrom 0 ((s.data.toList.drop 0).take (j - 0)) = some m) ∧ Hid (m < 10 ^ (j - 0))) (fun _ i => s.size - (intOf i).toNat)
    case atStart => exact ⟨0, 0, by omega, by omega, rfl, rfl, Lib.hid (by simp [Lib.decFrom]), Lib.hid (by simp)⟩
    case round =>
      obtain ⟨j, m, hj0, hj, rfl, rfl, HD, HM⟩ := hrel
      by_cases hlt : j < s.size
      · have t1 : decide ((j : Int) < (s.size : Int)) = true := by simp; omega
        have hm14 : m ≤ 99999999999999 := by
          have h1 := HM.out
          have h2 : 10 ^ (j - 0) ≤ 10 ^ 14 := Nat.pow_le_pow_right (by decide) (by omega)
          have h3 : (10 : Nat) ^ 14 = 100000000000000 := by decide
          omega
        obtain ⟨c, hc⟩ : ∃ c : UInt8, s[j] = c := ⟨_, rfl⟩
        have hcl := c.toNat_lt
        have hmem : c ∈ s.data.toList.drop 0 := by
          rw [← hc]
          have e : (s.data.toList.drop 0)[j - 0]'(by rw [List.length_drop, bytes_len]; omega) = s[j] := by
            rw [List.getElem_drop]
            have : 0 + (j - 0) = j := by omega
            simp only [this]
            rfl
          rw [← e]
          exact List.getElem_mem _
        by_cases h48 : c.toNat < 48
        · have t2 : decide ((c.toNat : Int) < 48) = true := by simp; omega
          have HNo := Lib.hid (HBad.out c hmem (by omega))
          clear hmem
          go_wp2
          refine bodyPost_ret (v := .agg #[.int .i64 0, .bool false]) (by simp [results, Tryz.results51, go_sem]) rfl ⟨by rw [HNo.out]; rfl, ?_⟩
          first | exact (Below.refl _ _).alloc (Nat.le_refl _) _ | exact (((Below.refl _ _).alloc (Nat.le_refl _) _).setCell (Nat.le_refl _) _).setCell (Nat.le_refl _) _
        have t2 : decide ((c.toNat : Int) < 48) = false := by simp; omega
        by_cases h57 : 57 < c.toNat
        · have t3 : decide ((57 : Int) < (c.toNat : Int)) = true := by simp; omega
          have HNo := Lib.hid (HBad.out c hmem (by omega))
          clear hmem
          go_wp2
          refine bodyPost_ret (v := .agg #[.int .i64 0, .bool false]) (by simp [results, Tryz.results51, go_sem]) rfl ⟨by rw [HNo.out]; rfl, ?_⟩
          first | exact (Below.refl _ _).alloc (Nat.le_refl _) _ | exact (((Below.refl _ _).alloc (Nat.le_refl _) _).setCell (Nat.le_refl _) _).setCell (Nat.le_refl _) _
        have t3 : decide ((57 : Int) < (c.toNat : Int)) = false := by simp; omega
        have hnew : Lib.decFrom 0 ((s.data.toList.drop 0).take (j + 1 - 0)) = some (m * 10 + (c.toNat - 48)) := by
          rw [show j + 1 - 0 = (j - 0) + 1 by omega, List.take_succ_eq_append_getElem (by rw [List.length_drop, bytes_len]; omega), decFrom_snoc, HD.out]
          have e : (s.data.toList.drop 0)[j - 0]'(by rw [List.length_drop, bytes_len]; omega) = c := by
            rw [← hc, List.getElem_drop]
            have : 0 + (j - 0) = j := by omega
            simp only [this]
            rfl
          rw [e]
          simp only [Option.bind_some, Lib.digitVal]
          rw [if_pos (by omega)]
          rfl
        have hpow : m * 10 + (c.toNat - 48) < 10 ^ (j + 1 - 0) := by
          rw [show j + 1 - 0 = (j - 0) + 1 by omega, Nat.pow_succ]
          have := HM.out
          omega
        have HNew := Lib.hid hnew
        have HPow := Lib.hid hpow
        clear hnew hpow hmem
        go_wp2
        go_round
        case rel => exact ⟨j + 1, m * 10 + (c.toNat - 48), by omega, by omega, by go_num, by (congr 1; omega), HNew, HPow⟩
        case measure => simp [intOf]; omega
      · obtain rfl : j = s.size := by omega
        have t1 : decide ((s.size : Int) < (s.size : Int)) = false := by simp
        have hd := HD.out
        rw [List.take_of_length_le (by rw [List.length_drop, bytes_len]; omega)] at hd
        have hm15 : m < 1000000000000000 := by
          have h1 := HM.out
          have h2 : 10 ^ (s.size - 0) ≤ 10 ^ 15 := Nat.pow_le_pow_right (by decide) (by omega)
          have h3 : (10 : Nat) ^ 15 = 1000000000000000 := by decide
          omega
        have hres := HVal.out m hd
        have hdg := fun w => digits_any ((m : Int)) (by omega) (by omega) w
        obtain ⟨F, hF⟩ : ∃ F : ByteArray, F = ofL (Lib.itoa ((m : Int))) := ⟨_, rfl⟩
        have hFl : Lib.itoa ((m : Int)) = F.data.toList := by rw [hF, ofL_list]
        rw [← hF] at hdg
        rw [hFl] at hres
        have HDg := Lib.hid hdg
        clear hF hFl hdg hd HD HM
        by_cases he : F = s
        · have hr : numD s.data.toList = some ((m : Int)) := by rw [hres, if_pos (by rw [he])]
          have HR := Lib.hid hr
          subst he
          clear hr hres
          go_wp2_with (go_at_call 28; refine (HDg.out _).mono ?_; rintro e w1 ⟨rfl, hb1⟩; have HB := Lib.hid hb1; have HX := Lib.hid (HBox.out.below hb1 (by simp)); obtain ⟨k0, k1, l0, l1⟩ := HX.out.cells; clear hb1)
          obtain ⟨q0, q1, _, _⟩ := (HX.out.store ((m : Int)) true).cells
          refine bodyPost_ret (v := .agg #[.int .i64 ((m : Int)), .bool true]) (by simp [results, Tryz.results51, go_sem, q0, q1]) rfl ⟨by rw [HR.out]; rfl, ?_⟩
          exact ((((Below.refl _ _).alloc (Nat.le_refl _) _).trans (HB.out.mono (by simp))).setCell (Nat.le_refl _) _).setCell (Nat.le_refl _) _
        · have hr : numD s.data.toList = none := by rw [hres, if_neg (fun e => he (bytes_ext e))]
          have HR := Lib.hid hr
          have t5 := str_ne he
          clear hr hres he
          go_wp2_with (go_at_call 28; refine (HDg.out _).mono ?_; rintro e w1 ⟨rfl, hb1⟩; have HB := Lib.hid hb1; have HX := Lib.hid (HBox.out.below hb1 (by simp)); obtain ⟨k0, k1, l0, l1⟩ := HX.out.cells; clear hb1)
          obtain ⟨q0, q1, _, _⟩ := (HX.out.store (0 : Int) false).cells
          refine bodyPost_ret (v := .agg #[.int .i64 0, .bool false]) (by simp [results, Tryz.results51, go_sem, q0, q1]) rfl ⟨by rw [HR.out]; rfl, ?_⟩
          exact ((((Below.refl _ _).alloc (Nat.le_refl _) _).trans (HB.out.mono (by simp))).setCell (Nat.le_refl _) _).setCell (Nat.le_refl _) _
end Go.Proofs.YtdgnefcpeocbjaaGreatDoor


namespace Go.Proofs.YtdgnefcpeocbjaaGreatDoor
open Go.RowKit
set_option linter.unusedVariables false

theorem step_append_one {ops : Array Oper} {o : Oper} {a : Act} {w : World} {K : Act → World → Prop} {Q : Exit → Act → World → Prop} {E : Prop} (hgd : o.guard = none) (sl x : Operand)
    (ho : o.op = .call { callee := .builtin .append, args := #[sl, x], argTypes := #[34, 34] })
    (base : Nat) (v : Value) (l : List UInt8) (hs : a.eval sl = v) (n : Int) (c : UInt8) (hc : (c.toNat : Int) = n) (hown : OwnB base w v l) (hx : a.eval x = .slice (some ⟨w.heap.size, 0, none⟩) 1 1)
    (h63 : l.length + 1 ≤ 1000000) (hbase : base ≤ w.heap.size)
    (h : ∀ v' w', OwnB base w' v' (l ++ [c]) → Below base w w' → K (a.put o.dst v') w') :
    if Region.wanted o (yielded ops a.tmps) = true then Oper.wp Tryz.prog o a (w.alloc (.cells #[.int .u8 n] 5)) K Q else E := by
  subst hc
  obtain ⟨i0, hi, hz0, hz1, hz2⟩ := info_parts infoB
  refine step_append_lies _ hgd sl x 34 ho base 5 i0 (.int .u8 0) 1 1 Tryz.underlying34 hi hz0 hz1 hz2 rfl (by decide) v l.length (l.map byteV) hs (World.ownsRow.alloc hown _) ⟨w.heap.size, 0, none⟩ 1 1 [.int .u8 c.toNat] hx rfl (cell_one_new w (.int .u8 c.toNat) 5) (by intro u hu; simp at hu; rw [hu]; rfl) (by decide) (by unfold maxLen; omega) (by omega) (by simp; omega) _ rfl ?_
  intro g cap w' hown' hgrow hat hlt
  refine h _ w' ?_ ?_
  · unfold OwnB
    rw [List.length_append, List.map_append]
    exact hown'
  · exact ((Below.refl base w).alloc hbase _).grown hgrow (by simp; omega) (fun k e => (World.ownsRow.lt hown k e).1)

theorem hex_kind (c : UInt8) (h : hexB c = true) : kindC c = 1 := by
  have := all_bytes (fun c => !hexB c || decide (kindC c = 1)) (by decide +kernel) c
  rw [h] at this; simpa using this
theorem spec_kind (c : UInt8) : ([44, 43, 34, 92, 60, 62, 59, 61, 35, 32] : List UInt8).contains c = decide (2 ≤ kindC c) := by
  have := all_bytes (fun c => ([44, 43, 34, 92, 60, 62, 59, 61, 35, 32] : List UInt8).contains c == decide (2 ≤ kindC c)) (by decide +kernel) c
  simpa using this
theorem six_seven (c : UInt8) (h : c.toNat ≠ 92) : ([44, 43, 34, 60, 62, 59] : List UInt8).contains c = ([44, 43, 34, 92, 60, 62, 59] : List UInt8).contains c := by
  have := all_bytes (fun c => decide (c.toNat = 92) || (([44, 43, 34, 60, 62, 59] : List UInt8).contains c == ([44, 43, 34, 92, 60, 62, 59] : List UInt8).contains c)) (by decide +kernel) c
  simpa [h] using this

theorem valF_none {f : Bool} {l : List UInt8} {R : Option (List UInt8)} {L : List UInt8} (hne : l ≠ []) (h : R = (valF f l).map (L ++ ·)) (h0 : (oneD f l).2 = 0) : R = none := by
  rw [h, valF_step f hne, if_pos h0]; rfl
theorem valF_more {s : ByteArray} {j n : Nat} {c : UInt8} {R : Option (List UInt8)} {L : List UInt8} (hne : s.data.toList.drop j ≠ []) (h : R = (valF (decide (j = 0)) (s.data.toList.drop j)).map (L ++ ·)) (h1 : oneD (decide (j = 0)) (s.data.toList.drop j) = (c, n)) (hn : n ≠ 0) :
    R = (valF (decide (j + n = 0)) (s.data.toList.drop (j + n))).map (L ++ [c] ++ ·) := by
  rw [h, valF_step _ hne, h1]
  simp only
  rw [if_neg hn, show decide (j + n = 0) = false from by simp; omega, List.drop_drop]
  simp [Option.map_map, Function.comp_def]

set_option maxRecDepth 100000 in
set_option maxHeartbeats 8000000 in
theorem valueRef_any (s : ByteArray) (hs : s.size ≤ 100000) (w : World) :
    Calls Tryz.prog 90 #[.string s] w fun e w' => e = .returned (valV (valD s.data.toList)) ∧ Below w.heap.size w w' := by
  obtain ⟨i0, hi, hz0, hz1, hz2⟩ := info_parts infoB
  have hval : valD s.data.toList = valF true s.data.toList := rfl
  obtain ⟨R, hR⟩ : ∃ R, R = valD s.data.toList := ⟨_, rfl⟩
  rw [← hR] at hval ⊢
  have HR := Lib.hid hval
  clear hR hval
  go_enter Tryz.func90, Tryz.ntmps90
  go_wp2
  go_loopw [4, 5] (fun b i wr => ∃ (j : Nat) (L : List UInt8), i = .int .i64 j ∧ L.length ≤ j ∧ j ≤ s.size + 3 ∧ OwnB w.heap.size wr b L ∧ Below w.heap.size w wr ∧ R = (valF (decide (j = 0)) (s.data.toList.drop j)).map (L ++ ·))
    (fun _ i _ => s.size + 3 - (intOf i).toNat)
  case atStart => exact ⟨0, [], rfl, Nat.le_refl _, by omega, own_nil _ _, Below.refl _ _, by rw [HR.out]; simp⟩
  case round =>
    obtain ⟨j, L, rfl, hLj, hj3, hown, hbel, hres⟩ := hrel
    have HBel := Lib.hid hbel
    have hbs := hbel.size
    obtain ⟨a, cp, hv⟩ := own_slice hown
    subst hv
    have HO := Lib.hid hown
    by_cases hlt : j < s.size
    · have t1 : decide ((j : Int) < (s.size : Int)) = true := by simp; omega
      have hlist := drop_at s j hlt
      have hne : s.data.toList.drop j ≠ [] := by rw [hlist]; simp
      obtain ⟨c, hc⟩ : ∃ c : UInt8, c = s[j] := ⟨_, rfl⟩
      have hc' : s[j]'hlt = c := hc.symm
      have hcl := c.toNat_lt
      rw [← hc] at hlist
      have hnone := valF_none hne hres
      have hmore := fun (x : UInt8) (n : Nat) (h1 : oneD (decide (j = 0)) (s.data.toList.drop j) = (x, n)) hn => valF_more hne hres h1 hn
      clear hown hbel hne hres
      by_cases h92 : c.toNat = 92
      · have t2 : ((c.toNat : Int) == 92) = true := by simp [h92]
        rw [hlist, oneD_mark h92] at hnone hmore
        clear hc h92
        by_cases h1 : j + 1 < s.size
        · have hl1 := drop_at s (j + 1) h1
          obtain ⟨x, hx⟩ : ∃ x : UInt8, x = s[j + 1] := ⟨_, rfl⟩
          have hx' : s[j + 1]'h1 = x := hx.symm
          have hxl := x.toNat_lt
          rw [← hx] at hl1
          rw [hl1] at hnone hmore
          have g1 : (j : Int) + 1 < (s.size : Int) := by omega
          have t3 : decide ((s.size : Int) ≤ (j : Int) + 1) = false := by simp; omega
          have hhx := fun w => hexRef_any x w
          have hin := fun w => inRef_any ⟨#[44, 43, 34, 92, 60, 62, 59, 61, 35, 32]⟩ x w (by decide)
          have hsk : (⟨#[44, 43, 34, 92, 60, 62, 59, 61, 35, 32]⟩ : ByteArray).data.toList.contains x = decide (2 ≤ kindC x) := spec_kind x
          simp only [hsk] at hin
          have hk1 := hex_kind x
          have hd1 := (hex_idx x).1
          have hu1 : hexI x = if hexB x then (hexN x : Int) else -1 := rfl
          clear hlist hl1 hx hsk
          by_cases h2 : j + 2 < s.size
          · have hl2 := drop_at s (j + 2) h2
            obtain ⟨y, hy⟩ : ∃ y : UInt8, y = s[j + 2] := ⟨_, rfl⟩
            have hy' : s[j + 2]'h2 = y := hy.symm
            have hyl := y.toNat_lt
            rw [← hy] at hl2
            rw [hl2] at hnone hmore
            have t4 : decide ((j : Int) + 2 < (s.size : Int)) = true := by simp; omega
            have g2 : (j : Int) + 2 < (s.size : Int) := by omega
            have hhy := fun w => hexRef_any y w
            have hd2 := (hex_idx y).1
            have hu2 : hexI y = if hexB y then (hexN y : Int) else -1 := rfl
            clear hl2 hy
            cases hbx : hexB x with
            | false =>
              rw [hbx] at hu1
              simp only [hu1] at hhx
              have HH1 := Lib.hid hhx
              clear hhx hhy hd1 hd2 hu1 hu2 hk1
              by_cases hk : 2 ≤ kindC x
              · have HNew := Lib.hid (hmore x 2 (behD_free hk) (by omega))
                have hin1 := hin
                simp only [decide_eq_true hk] at hin1
                have HIn := Lib.hid hin1
                clear hnone hmore hin hin1 hk
                go_wp2_with (first
                  | (go_at_call 109; ((with_reducible refine (HH1.out _).mono ?_); rintro e w2 ⟨rfl, rfl⟩))
                  | (go_at_call 110; refine (HIn.out _).mono ?_; rintro e w2 ⟨rfl, rfl⟩)
                  | (at_builtin; refine wpList_append_one rfl (.tmp 70) (.tmp 75) rfl w.heap.size i0 hi hz0 hz1 hz2 (.slice a L.length cp) L rfl (x.toNat : Int) x rfl HO.out rfl (by omega) hbs ?_; intro v3 w3 hown3 hb3; have HO3 := Lib.hid hown3; have HB3 := Lib.hid hb3; clear hown3 hb3))
                go_roundw
                case rel => exact ⟨j + 2, L ++ [x], by first | rfl | (congr 1), by simp; omega, by omega, HO3.out, HBel.out.trans HB3.out, HNew.out⟩
                case measure => simp [intOf]; omega
              · have HN := Lib.hid (hnone (by rw [behD_hex hk, hbx]; rfl))
                have hin1 := hin
                simp only [decide_eq_false hk] at hin1
                have HIn := Lib.hid hin1
                clear hnone hmore hin hin1 hk
                go_wp2_with (first
                  | (go_at_call 109; ((with_reducible refine (HH1.out _).mono ?_); rintro e w2 ⟨rfl, rfl⟩))
                  | (go_at_call 110; refine (HIn.out _).mono ?_; rintro e w2 ⟨rfl, rfl⟩))
                go_ret2
                rw [HN.out]
                exact ⟨rfl, HBel.out⟩
            | true =>
              rw [hbx] at hu1
              simp only [hu1] at hhx
              obtain ⟨_, hm⟩ := hd1 hbx
              have hkx := hk1 hbx
              obtain ⟨m, hme⟩ : ∃ m, m = hexN x := ⟨_, rfl⟩
              simp only [← hme, if_true] at hhx
              rw [← hme] at hm
              have HH1 := Lib.hid hhx
              have m0 : decide ((0 : Int) ≤ (m : Int)) = true := by simp
              cases hby : hexB y with
              | false =>
                rw [hby] at hu2
                simp only [hu2] at hhy
                have HH2 := Lib.hid hhy
                have HN := Lib.hid (hnone (by rw [behD_hex (by omega), hbx, hby]; rfl))
                have hin1 := hin
                simp only [decide_eq_false (show ¬ 2 ≤ kindC x from by omega)] at hin1
                have HIn := Lib.hid hin1
                clear hnone hmore hin hin1 hhx hhy hd1 hd2 hu1 hu2 hk1 hkx hme hbx hby
                go_wp2_with (first
                  | (go_at_call 109; ((with_reducible refine (HH1.out _).mono ?_); rintro e w2 ⟨rfl, rfl⟩))
                  | (go_at_call 109; ((with_reducible refine (HH2.out _).mono ?_); rintro e w2 ⟨rfl, rfl⟩))
                  | (go_at_call 110; refine (HIn.out _).mono ?_; rintro e w2 ⟨rfl, rfl⟩))
                go_ret2
                rw [HN.out]
                exact ⟨rfl, HBel.out⟩
              | true =>
                rw [hby] at hu2
                simp only [hu2] at hhy
                obtain ⟨_, hk⟩ := hd2 hby
                obtain ⟨k, hke⟩ : ∃ k, k = hexN y := ⟨_, rfl⟩
                simp only [← hke, if_true] at hhy
                rw [← hke] at hk
                have HH2 := Lib.hid hhy
                have k0 : decide ((0 : Int) ≤ (k : Int)) = true := by simp
                have HNew := Lib.hid (hmore (UInt8.ofNat (m * 16 + k)) 3 (by rw [behD_hex (by omega), if_pos ⟨hbx, hby⟩, hme, hke]) (by omega))
                have hz : ((UInt8.ofNat (m * 16 + k)).toNat : Int) = (m : Int) * 16 + (k : Int) := by simp; omega
                have e1 : IntKind.i64.wrap ((m : Int) * 16) = (m : Int) * 16 := IntWalk.i64_in _ (by omega)
                have e2 : IntKind.i64.wrap ((m : Int) * 16 + (k : Int)) = (m : Int) * 16 + (k : Int) := IntWalk.i64_in _ (by omega)
                have e3 : IntKind.u8.wrap ((m : Int) * 16 + (k : Int)) = (m : Int) * 16 + (k : Int) := IntWalk.u8_in _ (by omega)
                have e4 : IntKind.i64.wrap ((j : Int) + 1) = (j : Int) + 1 := IntWalk.i64_in _ (by omega)
                have e5 : IntKind.i64.wrap ((j : Int) + 2) = (j : Int) + 2 := IntWalk.i64_in _ (by omega)
                have n1 : (0 : Int) ≤ (j : Int) + 1 := by omega
                have n2 : (0 : Int) ≤ (j : Int) + 2 := by omega
                have n3 : ((j : Int) + 1).toNat = j + 1 := by omega
                have n4 : ((j : Int) + 2).toNat = j + 2 := by omega
                obtain ⟨z, hze⟩ : ∃ z, z = UInt8.ofNat (m * 16 + k) := ⟨_, rfl⟩
                rw [← hze] at HNew hz
                have HZ := Lib.hid hz
                have hdr : Below wr.heap.size wr wr.drew := ⟨rfl, rfl, rfl, Nat.le_refl _, fun _ _ => rfl⟩
                have HDr := Lib.hid hdr
                have HO2 := Lib.hid (own_below HO.out hdr)
                clear hnone hmore hin hhx hhy hd1 hd2 hu1 hu2 hk1 hkx hme hke hbx hby hze hz hdr
                go_wp2_with (first
                  | (go_at_call 109; ((with_reducible refine (HH1.out _).mono ?_); rintro e w2 ⟨rfl, rfl⟩))
                  | (go_at_call 109; ((with_reducible refine (HH2.out _).mono ?_); rintro e w2 ⟨rfl, rfl⟩)))
                go_region_law (first
                  | (go_simp; go_at_call 109; ((with_reducible refine (HH1.out _).mono ?_); rintro e w2 ⟨rfl, rfl⟩))
                  | (go_simp; go_at_call 109; ((with_reducible refine (HH2.out _).mono ?_); rintro e w2 ⟨rfl, rfl⟩))
                  | (refine step_append_one rfl (.tmp 39) (.tmp 53) rfl w.heap.size (.slice a L.length cp) L rfl ((m : Int) * 16 + (k : Int)) z HZ.out HO2.out rfl (by omega) hbs ?_; intro v5 w5 hown5 hb5; have HO5 := Lib.hid hown5; have HB5 := Lib.hid hb5; clear hown5 hb5))
                all_goals
                  go_wp2
                  go_roundw
                  case rel => exact ⟨j + 3, L ++ [z], by first | rfl | (congr 1), by simp; omega, by omega, HO5.out, (HBel.out.trans (HDr.out.mono hbs)).trans HB5.out, HNew.out⟩
                  case measure => simp [intOf]; omega
          · have t4 : decide ((j : Int) + 2 < (s.size : Int)) = false := by simp; omega
            have hl2 : s.data.toList.drop (j + 1 + 1) = [] := List.drop_of_length_le (by simp; omega)
            rw [hl2] at hnone hmore
            clear hl2
            clear hhx hk1 hd1 hu1
            by_cases hk : 2 ≤ kindC x
            · have HNew := Lib.hid (hmore x 2 (behD_free hk) (by omega))
              have hin1 := hin
              simp only [decide_eq_true hk] at hin1
              have HIn := Lib.hid hin1
              clear hnone hmore hin hin1 hk
              go_wp2_with (first
                | (go_at_call 110; refine (HIn.out _).mono ?_; rintro e w2 ⟨rfl, rfl⟩)
                | (at_builtin; refine wpList_append_one rfl (.tmp 70) (.tmp 75) rfl w.heap.size i0 hi hz0 hz1 hz2 (.slice a L.length cp) L rfl (x.toNat : Int) x rfl HO.out rfl (by omega) hbs ?_; intro v3 w3 hown3 hb3; have HO3 := Lib.hid hown3; have HB3 := Lib.hid hb3; clear hown3 hb3))
              go_roundw
              case rel => exact ⟨j + 2, L ++ [x], by first | rfl | (congr 1), by simp; omega, by omega, HO3.out, HBel.out.trans HB3.out, HNew.out⟩
              case measure => simp [intOf]; omega
            · have HN := Lib.hid (hnone (by rw [behD_nil hk]))
              have hin1 := hin
              simp only [decide_eq_false hk] at hin1
              have HIn := Lib.hid hin1
              clear hnone hmore hin hin1 hk
              go_wp2_with (first
                | (go_at_call 110; refine (HIn.out _).mono ?_; rintro e w2 ⟨rfl, rfl⟩))
              go_ret2
              rw [HN.out]
              exact ⟨rfl, HBel.out⟩
        · have t3 : decide ((s.size : Int) ≤ (j : Int) + 1) = true := by simp; omega
          have t4 : decide ((j : Int) + 2 < (s.size : Int)) = false := by simp; omega
          have hl1 : s.data.toList.drop (j + 1) = [] := List.drop_of_length_le (by simp; omega)
          rw [hl1] at hnone
          have HN := Lib.hid (hnone rfl)
          clear hnone hmore hlist hl1
          go_wp2
          go_ret2
          rw [HN.out]
          exact ⟨rfl, HBel.out⟩
      · have t2 : ((c.toNat : Int) == 92) = false := by simp; omega
        rw [hlist] at hnone hmore
        by_cases h0 : c.toNat < 32 ∨ 126 < c.toNat
        · have HN := Lib.hid (hnone (by rw [oneD_no h92 (.inl ((kind_zero c).2 h0))]))
          clear hnone hmore hc hlist
          by_cases h1 : c.toNat < 32
          · have t3 : decide ((c.toNat : Int) < 32) = true := by simp; omega
            go_wp2
            go_ret2
            rw [HN.out]
            exact ⟨rfl, HBel.out⟩
          · have t3 : decide ((c.toNat : Int) < 32) = false := by simp; omega
            have t4 : decide ((126 : Int) < (c.toNat : Int)) = true := by simp; omega
            go_wp2
            go_ret2
            rw [HN.out]
            exact ⟨rfl, HBel.out⟩
        have hk : kindC c ≠ 0 := fun e => h0 ((kind_zero c).1 e)
        have t3 : decide ((c.toNat : Int) < 32) = false := by simp; omega
        have t4 : decide ((126 : Int) < (c.toNat : Int)) = false := by simp; omega
        have hin := fun w => inRef_any ⟨#[44, 43, 34, 60, 62, 59]⟩ c w (by decide)
        have h67 : (⟨#[44, 43, 34, 60, 62, 59]⟩ : ByteArray).data.toList.contains c = ([44, 43, 34, 92, 60, 62, 59] : List UInt8).contains c := six_seven c h92
        obtain ⟨M, hM⟩ : ∃ M, M = ([44, 43, 34, 92, 60, 62, 59] : List UInt8).contains c := ⟨_, rfl⟩
        rw [← hM] at h67
        simp only [h67] at hin
        have HIn := Lib.hid hin
        have hnr := need_ref c (decide (j = 0)) (s.data.toList.drop (j + 1)).isEmpty hk
        rw [← hM, drop_empty] at hnr
        rw [← drop_empty] at hnr
        have hde := drop_empty s j
        clear hin h67 hM h0
        cases M with
        | true =>
          have HN := Lib.hid (hnone (by rw [oneD_no h92 (.inr (by rw [hnr]; simp))]))
          clear hnone hmore hnr hc hlist
          go_wp2_with (go_at_call 110; refine (HIn.out _).mono ?_; rintro e w2 ⟨rfl, rfl⟩)
          go_ret2
          rw [HN.out]
          exact ⟨rfl, HBel.out⟩
        | false =>
          by_cases hj0 : j = 0
          · have f0 : ((j : Int) == 0) = true := by simp [hj0]
            have f0d : decide (j = 0) = true := by simp [hj0]
            have HJ := Lib.hid hj0
            clear hj0
            by_cases h35 : c.toNat = 35
            · have e35 : ((c.toNat : Int) == 35) = true := by simp [h35]
              have d35 : decide (c.toNat = 35) = true := by simp [h35]
              have H35 := Lib.hid h35
              clear h35
              have HN := Lib.hid (hnone (by rw [oneD_no h92 (.inr (by rw [hnr]; rw [f0d, d35]; simp))]))
              clear hnone hmore hnr hc hlist d35 f0d hde
              go_wp2_with (go_at_call 110; refine (HIn.out _).mono ?_; rintro e w2 ⟨rfl, rfl⟩)
              go_ret2
              rw [HN.out]
              exact ⟨rfl, HBel.out⟩
            · have e35 : ((c.toNat : Int) == 35) = false := by simp; omega
              have d35 : decide (c.toNat = 35) = false := by simp; omega
              by_cases h32 : c.toNat = 32
              · have e32 : ((c.toNat : Int) == 32) = true := by simp [h32]
                have d32 : decide (c.toNat = 32) = true := by simp [h32]
                have H32 := Lib.hid h32
                clear h32
                have HN := Lib.hid (hnone (by rw [oneD_no h92 (.inr (by rw [hnr]; rw [f0d, d32]; simp))]))
                clear hnone hmore hnr hc hlist d35 d32 f0d hde
                go_wp2_with (go_at_call 110; refine (HIn.out _).mono ?_; rintro e w2 ⟨rfl, rfl⟩)
                go_ret2
                rw [HN.out]
                exact ⟨rfl, HBel.out⟩
              · have e32 : ((c.toNat : Int) == 32) = false := by simp; omega
                have d32 : decide (c.toNat = 32) = false := by simp; omega
                by_cases hL : j + 1 = s.size
                · have f1 : ((j : Int) == (s.size : Int) - 1) = true := by simp; omega
                  have HNew := Lib.hid (hmore c 1 (oneD_plain h92 (by rintro (h | h); exact hk h; rw [hnr] at h; revert h; rw [d35, d32]; simp)) (by omega))
                  clear hnone hmore hnr hc hlist d35 d32 f0d hde hL
                  go_wp2_with (first
                    | (go_at_call 110; refine (HIn.out _).mono ?_; rintro e w2 ⟨rfl, rfl⟩)
                    | (at_builtin; refine wpList_append_one rfl (.tmp 112) (.tmp 114) rfl w.heap.size i0 hi hz0 hz1 hz2 (.slice a L.length cp) L rfl (c.toNat : Int) c rfl HO.out rfl (by omega) hbs ?_; intro v3 w3 hown3 hb3; have HO3 := Lib.hid hown3; have HB3 := Lib.hid hb3; clear hown3 hb3))
                  go_roundw
                  case rel => exact ⟨j + 1, L ++ [c], by go_num, by simp; omega, by omega, HO3.out, HBel.out.trans HB3.out, HNew.out⟩
                  case measure => simp [intOf]; omega
                · have f1 : ((j : Int) == (s.size : Int) - 1) = false := by simp; omega
                  have HNew := Lib.hid (hmore c 1 (oneD_plain h92 (by rintro (h | h); exact hk h; rw [hnr] at h; revert h; rw [d35, d32]; simp)) (by omega))
                  clear hnone hmore hnr hc hlist d35 d32 f0d hde
                  go_wp2_with (first
                    | (go_at_call 110; refine (HIn.out _).mono ?_; rintro e w2 ⟨rfl, rfl⟩)
                    | (at_builtin; refine wpList_append_one rfl (.tmp 112) (.tmp 114) rfl w.heap.size i0 hi hz0 hz1 hz2 (.slice a L.length cp) L rfl (c.toNat : Int) c rfl HO.out rfl (by omega) hbs ?_; intro v3 w3 hown3 hb3; have HO3 := Lib.hid hown3; have HB3 := Lib.hid hb3; clear hown3 hb3))
                  go_roundw
                  case rel => exact ⟨j + 1, L ++ [c], by go_num, by simp; omega, by omega, HO3.out, HBel.out.trans HB3.out, HNew.out⟩
                  case measure => simp [intOf]; omega
          · have f0 : ((j : Int) == 0) = false := by simp; omega
            have f0d : decide (j = 0) = false := by simpa using hj0
            by_cases hL : j + 1 = s.size
            · have f1 : ((j : Int) == (s.size : Int) - 1) = true := by simp; omega
              have f1d : decide (s.size ≤ j + 1) = true := by simp; omega
              have HL := Lib.hid hL
              clear hL
              by_cases h32 : c.toNat = 32
              · have e32 : ((c.toNat : Int) == 32) = true := by simp [h32]
                have d32 : decide (c.toNat = 32) = true := by simp [h32]
                have H32 := Lib.hid h32
                clear h32
                have HN := Lib.hid (hnone (by rw [oneD_no h92 (.inr (by rw [hnr]; rw [hde, f1d, d32]; simp))]))
                clear hnone hmore hnr hc hlist d32 f0d f1d hde
                go_wp2_with (go_at_call 110; refine (HIn.out _).mono ?_; rintro e w2 ⟨rfl, rfl⟩)
                go_ret2
                rw [HN.out]
                exact ⟨rfl, HBel.out⟩
              · have e32 : ((c.toNat : Int) == 32) = false := by simp; omega
                have d32 : decide (c.toNat = 32) = false := by simp; omega
                have HNew := Lib.hid (hmore c 1 (oneD_plain h92 (by rintro (h | h); exact hk h; rw [hnr] at h; revert h; rw [f0d, d32]; simp)) (by omega))
                clear hnone hmore hnr hc hlist d32 f0d f1d hde
                go_wp2_with (first
                  | (go_at_call 110; refine (HIn.out _).mono ?_; rintro e w2 ⟨rfl, rfl⟩)
                  | (at_builtin; refine wpList_append_one rfl (.tmp 112) (.tmp 114) rfl w.heap.size i0 hi hz0 hz1 hz2 (.slice a L.length cp) L rfl (c.toNat : Int) c rfl HO.out rfl (by omega) hbs ?_; intro v3 w3 hown3 hb3; have HO3 := Lib.hid hown3; have HB3 := Lib.hid hb3; clear hown3 hb3))
                go_roundw
                case rel => exact ⟨j + 1, L ++ [c], by go_num, by simp; omega, by omega, HO3.out, HBel.out.trans HB3.out, HNew.out⟩
                case measure => simp [intOf]; omega
            · have f1 : ((j : Int) == (s.size : Int) - 1) = false := by simp; omega
              have f1d : decide (s.size ≤ j + 1) = false := by simp; omega
              have HNew := Lib.hid (hmore c 1 (oneD_plain h92 (by rintro (h | h); exact hk h; rw [hnr] at h; revert h; rw [f0d, hde, f1d]; simp)) (by omega))
              clear hnone hmore hnr hc hlist f0d f1d hde
              go_wp2_with (first
                | (go_at_call 110; refine (HIn.out _).mono ?_; rintro e w2 ⟨rfl, rfl⟩)
                | (at_builtin; refine wpList_append_one rfl (.tmp 112) (.tmp 114) rfl w.heap.size i0 hi hz0 hz1 hz2 (.slice a L.length cp) L rfl (c.toNat : Int) c rfl HO.out rfl (by omega) hbs ?_; intro v3 w3 hown3 hb3; have HO3 := Lib.hid hown3; have HB3 := Lib.hid hb3; clear hown3 hb3))
              go_roundw
              case rel => exact ⟨j + 1, L ++ [c], by go_num, by simp; omega, by omega, HO3.out, HBel.out.trans HB3.out, HNew.out⟩
              case measure => simp [intOf]; omega
    · have t1 : decide ((j : Int) < (s.size : Int)) = false := by simp; omega
      rw [List.drop_of_length_le (by simp; omega), valF_nil] at hres
      simp only [Option.map_some, List.append_nil] at hres
      have hcv := conv_own hown
      have HRes := Lib.hid hres
      clear hown hres hbel
      go_wp2
      go_ret2
      rw [HRes.out]
      exact ⟨rfl, HBel.out⟩
end Go.Proofs.YtdgnefcpeocbjaaGreatDoor


namespace Go.Proofs.YtdgnefcpeocbjaaGreatDoor
open Go.RowKit
set_option linter.unusedVariables false

theorem drew_more {w wr : World} (h : ∃ n, w.drewN n = wr) (m : Nat) : ∃ n, w.drewN n = wr.drewN m := by
  obtain ⟨n, rfl⟩ := h
  exact ⟨n + m, by rw [World.drewN_drewN]⟩

set_option maxRecDepth 100000 in
set_option maxHeartbeats 8000000 in
theorem textRef_any (l : List R) (hsm : smallL l) (v : Value) (w : World) (h : IsL w.heap.size w l v) :
    Calls Tryz.prog 71 #[v] w fun e w' => e = .returned (strV (textD l)) ∧ Below w.heap.size w w' := by
  obtain ⟨a, cp, rfl, hm, hcell⟩ := h
  unfold maxLen at hm
  have HC := Lib.hid hcell
  have HSm := Lib.hid hsm
  have htl := ofText_len l hsm
  clear hcell hsm
  go_enter Tryz.func71, Tryz.ntmps71
  go_wp2
  go_loopw [3, 4] (fun x i wr => ∃ j : Nat, j ≤ l.length ∧ i = .int .i64 j ∧ (∃ E, x = .string (ofL E) ∧ E ++ textT (decide (j = 0)) (l.drop j) = textD l) ∧ ∃ n, w.drewN n = wr) (fun _ i _ => l.length - (intOf i).toNat)
  case atStart => exact ⟨0, by omega, rfl, ⟨[], rfl, by simp [textT_true]⟩, 0, rfl⟩
  case round =>
    obtain ⟨j, hj, rfl, ⟨E, rfl, hE⟩, hwr⟩ := hrel
    have HWr := Lib.hid hwr
    have hbel : Below w.heap.size w wr := by obtain ⟨n, rfl⟩ := hwr; exact drew_below n
    have HBel := Lib.hid hbel
    clear hwr
    by_cases hlt : j < l.length
    · have t1 : decide ((j : Int) < (l.length : Int)) = true := by simp; omega
      have t1' : decide (j < l.length) = true := by simpa using hlt
      obtain ⟨b, off, rfl, hbw, c0, c1⟩ := HC.out j hlt
      obtain ⟨X, hX⟩ : ∃ X : ByteArray, X = ⟨l[j].1.toArray⟩ := ⟨_, rfl⟩
      obtain ⟨Y, hY⟩ : ∃ Y : ByteArray, Y = ⟨l[j].2.toArray⟩ := ⟨_, rfl⟩
      have hXl : X.data.toList = l[j].1 := by rw [hX]
      have hYl : Y.data.toList = l[j].2 := by rw [hY]
      have d0 : wr.cell? ⟨b, off + j * 2, none⟩ = some (.string X) := by rw [hbel.cell (p := ⟨b, _, none⟩) hbw, c0, hX]; rfl
      have d1 : wr.cell? ⟨b, off + j * 2 + 1, none⟩ = some (.string Y) := by rw [hbel.cell (p := ⟨b, _, none⟩) hbw, c1, hY]; rfl
      have hXs : X.size ≤ 1000 := by rw [← bytes_len, hXl]; exact (HSm.out.2 _ (List.getElem_mem hlt)).1
      have hYs : Y.size ≤ 1000 := by rw [← bytes_len, hYl]; exact (HSm.out.2 _ (List.getElem_mem hlt)).2
      have hes : ∀ w, Calls Tryz.prog 92 #[.string Y] w fun e w' => e = .returned (.string (ofL (escV Y.data.toList))) ∧ ∃ m, w' = w.drewN m := fun w => (escaped_any Y (by omega) w).mono fun _ _ ⟨he, m, hm⟩ => ⟨he, m, hm.symm⟩
      obtain ⟨V, hV⟩ : ∃ V, V = ofL (escV Y.data.toList) := ⟨_, rfl⟩
      have hVs : V.size ≤ 3000 := by
        have := escR_len Y.data.toList true
        rw [bytes_len] at this
        rw [hV, ofL_size]
        show (escR true Y.data.toList).length ≤ _
        omega
      simp only [← hV] at hes
      have HEs := Lib.hid hes
      rw [textT_drop l j _ hlt] at hE
      have htr : textR l[j] = X.data.toList ++ ([61] ++ escV Y.data.toList) := by rw [hXl, hYl]; rfl
      rw [htr] at hE
      have hEl : E.length ≤ 5000000 := by
        have h2 := congrArg List.length hE
        rw [List.length_append] at h2
        omega
      obtain ⟨A, hA⟩ : ∃ A, A = ofL E := ⟨_, rfl⟩
      have hAs : A.size ≤ 5000000 := by rw [hA, ofL_size]; exact hEl
      have q1 : A.size + 1 ≤ 9223372036854775807 := by omega
      by_cases h0 : j = 0
      · subst h0
        rw [Nat.zero_mul, Nat.add_zero] at d0 d1
        obtain ⟨B1, hB1⟩ : ∃ B, A ++ X = B := ⟨_, rfl⟩
        obtain ⟨B2, hB2⟩ : ∃ B, B1 ++ ⟨#[61]⟩ = B := ⟨_, rfl⟩
        obtain ⟨B3, hB3⟩ : ∃ B, B2 ++ V = B := ⟨_, rfl⟩
        have s1 : B1.size = A.size + X.size := by rw [← hB1, ByteArray.size_append]
        have s2 : B2.size = B1.size + 1 := by rw [← hB2, ByteArray.size_append]; rfl
        have f1 : (9223372036854775807 < A.size + X.size) = False := by simp; omega
        have f2 : (9223372036854775807 < B1.size + 1) = False := by simp; omega
        have f3 : (9223372036854775807 < B2.size + V.size) = False := by simp; omega
        have hnew : ∃ E', B3 = ofL E' ∧ E' ++ textT (decide (0 + 1 = 0)) (l.drop (0 + 1)) = textD l := by
          refine ⟨E ++ X.data.toList ++ [61] ++ escV Y.data.toList, ?_, ?_⟩
          · rw [← hB3, ← hB2, ← hB1, hA, hV]
            refine bytes_ext ?_
            rw [app_list, app_list, app_list, ofL_list, ofL_list, ofL_list]
          · rw [← hE]; simp
        have HNew := Lib.hid hnew
        rw [← hA]
        clear hbel hE hEl hA hV hVs hX hY hXl hYl c0 c1 htr hes s1 s2 hnew
        go_wp2
        go_quiet ((go_at_call 92; refine Calls.quiet_of (HEs.out _)))
        go_wp2
        obtain ⟨E', hE1, hE2⟩ := HNew.out
        exact ⟨⟨1, by omega, rfl, ⟨E', by rw [hE1], hE2⟩, drew_more HWr.out _⟩, by simp [intOf]; omega⟩
      · have t2 : decide ((0 : Int) < (j : Int)) = true := by simp; omega
        have t2' : decide (0 < j) = true := by simp; omega
        rw [show decide (j = 0) = false from by simpa using h0] at hE
        obtain ⟨A1, hA1⟩ : ∃ B, A ++ ⟨#[44]⟩ = B := ⟨_, rfl⟩
        obtain ⟨B1, hB1⟩ : ∃ B, A1 ++ X = B := ⟨_, rfl⟩
        obtain ⟨B2, hB2⟩ : ∃ B, B1 ++ ⟨#[61]⟩ = B := ⟨_, rfl⟩
        obtain ⟨B3, hB3⟩ : ∃ B, B2 ++ V = B := ⟨_, rfl⟩
        have s0 : A1.size = A.size + 1 := by rw [← hA1, ByteArray.size_append]; rfl
        have s1 : B1.size = A1.size + X.size := by rw [← hB1, ByteArray.size_append]
        have s2 : B2.size = B1.size + 1 := by rw [← hB2, ByteArray.size_append]; rfl
        have f1 : (9223372036854775807 < A1.size + X.size) = False := by simp; omega
        have f2 : (9223372036854775807 < B1.size + 1) = False := by simp; omega
        have f3 : (9223372036854775807 < B2.size + V.size) = False := by simp; omega
        have hnew : ∃ E', B3 = ofL E' ∧ E' ++ textT (decide (j + 1 = 0)) (l.drop (j + 1)) = textD l := by
          refine ⟨E ++ [44] ++ X.data.toList ++ [61] ++ escV Y.data.toList, ?_, ?_⟩
          · rw [← hB3, ← hB2, ← hB1, ← hA1, hA, hV]
            refine bytes_ext ?_
            rw [app_list, app_list, app_list, app_list, ofL_list, ofL_list, ofL_list]
          · rw [← hE]; simp
        have HNew := Lib.hid hnew
        rw [← hA]
        clear hbel hE hEl hA hV hVs hX hY hXl hYl c0 c1 htr hes s0 s1 s2 hnew h0
        go_wp2
        go_quiet ((go_at_call 92; refine Calls.quiet_of (HEs.out _)))
        go_wp2
        obtain ⟨E', hE1, hE2⟩ := HNew.out
        exact ⟨⟨j + 1, by omega, by go_num, ⟨E', by rw [hE1], hE2⟩, drew_more HWr.out _⟩, by simp [intOf]; omega⟩
    · obtain rfl : j = l.length := by omega
      have t1 : decide ((l.length : Int) < (l.length : Int)) = false := by simp
      have t1' : decide (l.length < l.length) = false := by simp
      rw [List.drop_of_length_le (by omega)] at hE
      simp only [textT, List.append_nil] at hE
      rw [hE]
      clear hE hbel
      go_wp2
      go_ret
      exact ⟨rfl, HBel.out⟩
end Go.Proofs.YtdgnefcpeocbjaaGreatDoor


namespace Go.Proofs.YtdgnefcpeocbjaaGreatDoor
open Go.RowKit
set_option linter.unusedVariables false

theorem okL_bad {l : List R} {j : Nat} (h : j < l.length) (hb : okR l[j] = false) : okL l = false := by
  cases ho : okL l with
  | false => rfl
  | true =>
    unfold okL at ho
    simp only [Bool.and_eq_true, List.all_eq_true] at ho
    rw [ho.2 _ (List.getElem_mem h)] at hb
    cases hb
theorem okR_parts (r : R) (X Y : ByteArray) (hX : X.data.toList = r.1) (hY : Y.data.toList = r.2) : okR r = (okType X.data.toList && (!Y.data.toList.isEmpty && decide (Y.size ≤ 100))) := by
  unfold okR
  rw [← hX, ← hY, bytes_len, Bool.and_assoc]

set_option maxRecDepth 100000 in
set_option maxHeartbeats 8000000 in
theorem mayRef_any (l : List R) (v : Value) (w : World) (h : IsL w.heap.size w l v) :
    Calls Tryz.prog 91 #[v] w fun e w' => e = .returned (.bool (okL l)) ∧ w = w' := by
  obtain ⟨a, cp, rfl, hm, hcell⟩ := h
  unfold maxLen at hm
  have HC := Lib.hid hcell
  clear hcell
  go_enter Tryz.func91, Tryz.ntmps91
  go_wp2
  go_loop [3] (fun i => ∃ j : Nat, j ≤ l.length ∧ i = .int .i64 j ∧ (l.take j).all okR = true) (fun i => l.length - (intOf i).toNat)
  case atStart => exact ⟨0, by omega, rfl, by simp⟩
  case round =>
    obtain ⟨j, hj, rfl, hall⟩ := hrel
    by_cases hlt : j < l.length
    · have t1 : decide ((j : Int) < (l.length : Int)) = true := by simp; omega
      have t1' : decide (j < l.length) = true := by simpa using hlt
      obtain ⟨b, off, rfl, hbw, c0, c1⟩ := HC.out j hlt
      obtain ⟨X, hX⟩ : ∃ X : ByteArray, X = ⟨l[j].1.toArray⟩ := ⟨_, rfl⟩
      obtain ⟨Y, hY⟩ : ∃ Y : ByteArray, Y = ⟨l[j].2.toArray⟩ := ⟨_, rfl⟩
      have hXl : X.data.toList = l[j].1 := by rw [hX]
      have hYl : Y.data.toList = l[j].2 := by rw [hY]
      have d0 : w.cell? ⟨b, off + j * 2, none⟩ = some (.string X) := by rw [c0, hX]; rfl
      have d1 : w.cell? ⟨b, off + j * 2 + 1, none⟩ = some (.string Y) := by rw [c1, hY]; rfl
      have hp := okR_parts l[j] X Y hXl hYl
      have hmt := fun w => mayTypeRef_any X w
      obtain ⟨b1, hb1⟩ : ∃ b1, b1 = okType X.data.toList := ⟨_, rfl⟩
      rw [← hb1] at hp
      simp only [← hb1] at hmt
      have HM := Lib.hid hmt
      have hbad := okL_bad hlt
      have hnew : (l.take (j + 1)).all okR = okR l[j] := by rw [List.take_succ_eq_append_getElem hlt, List.all_append, hall]; simp
      have q1 : (j : Int) < (l.length : Int) := by omega
      clear hmt hX hXl hY hYl c0 c1 hall hb1
      cases b1 with
      | false =>
        rw [Bool.false_and] at hp
        have HN := Lib.hid (hbad hp)
        clear hp hbad hnew
        go_wp2_with (go_at_call 54; refine (HM.out _).mono ?_; rintro e w2 ⟨rfl, rfl⟩)
        go_ret
        rw [HN.out]
        exact ⟨rfl, rfl⟩
      | true =>
        rw [Bool.true_and] at hp
        by_cases hne : Y.data.toList = []
        · obtain ⟨e1, e2⟩ := bytes_nil hne
          rw [hne] at hp
          have HN := Lib.hid (hbad hp)
          clear hp hbad hnew hne
          go_wp2_with (go_at_call 54; refine (HM.out _).mono ?_; rintro e w2 ⟨rfl, rfl⟩)
          go_ret
          rw [HN.out]
          exact ⟨rfl, rfl⟩
        · obtain ⟨e1, e2⟩ := bytes_some hne
          have hie : Y.data.toList.isEmpty = false := by cases h : Y.data.toList with | nil => exact absurd h hne | cons x r => rfl
          rw [hie] at hp
          by_cases h100 : Y.size ≤ 100
          · have t2 : decide ((100 : Int) < (Y.size : Int)) = false := by simp; omega
            rw [decide_eq_true h100] at hp
            rw [hp] at hnew
            have HN := Lib.hid hnew
            clear hp hbad hnew hne hie
            go_wp2_with (go_at_call 54; refine (HM.out _).mono ?_; rintro e w2 ⟨rfl, rfl⟩)
            exact ⟨⟨j + 1, by omega, by go_num, by rw [HN.out]; rfl⟩, by simp [intOf]; omega⟩
          · have t2 : decide ((100 : Int) < (Y.size : Int)) = true := by simp; omega
            rw [decide_eq_false h100] at hp
            have HN := Lib.hid (hbad hp)
            clear hp hbad hnew hne hie
            go_wp2_with (go_at_call 54; refine (HM.out _).mono ?_; rintro e w2 ⟨rfl, rfl⟩)
            go_ret
            rw [HN.out]
            exact ⟨rfl, rfl⟩
    · obtain rfl : j = l.length := by omega
      have t1 : decide ((l.length : Int) < (l.length : Int)) = false := by simp
      have t1' : decide (l.length < l.length) = false := by simp
      rw [List.take_length] at hall
      have hok : okL l = decide ((l.length : Int) ≤ 8) := by
        unfold okL
        rw [hall, Bool.and_true, Bool.eq_iff_iff]
        simp
        omega
      have HOk := Lib.hid hok
      clear hall hok
      go_wp2
      go_ret
      rw [HOk.out]
      exact ⟨rfl, rfl⟩

end Go.Proofs.YtdgnefcpeocbjaaGreatDoor


namespace Go.Proofs.YtdgnefcpeocbjaaGreatDoor
open Go.RowKit
set_option linter.unusedVariables false

def preD (p : List UInt8) : Option R := if p.contains 61 = true then (valD (afterD p)).map (fun v => (nameD p, v)) else none
def allO : List (List UInt8) → Option (List R)
  | [] => some []
  | p :: l => match preD p with
    | none => none
    | some r => (allO l).map (r :: ·)
theorem allO_snoc : ∀ (l : List (List UInt8)) (p : List UInt8) (L : List R) (r : R), allO l = some L → preD p = some r → allO (l ++ [p]) = some (L ++ [r])
  | [], p, L, r, h, hp => by
    cases h
    simp [allO, hp]
  | q :: l, p, L, r, h, hp => by
    simp only [allO] at h
    cases hq : preD q with
    | none => rw [hq] at h; cases h
    | some x =>
      rw [hq] at h
      cases ha : allO l with
      | none => simp only [ha] at h; cases h
      | some L' =>
        simp only [ha, Option.map_some, Option.some.injEq] at h
        subst h
        simp only [List.cons_append, allO, hq, allO_snoc l p L' r ha hp, Option.map_some]
theorem allO_none : ∀ (l : List (List UInt8)) (p : List UInt8), p ∈ l → preD p = none → allO l = none
  | q :: l, p, h, hp => by
    simp only [allO]
    cases hq : preD q with
    | none => rfl
    | some x =>
      rcases List.mem_cons.1 h with rfl | h
      · rw [hp] at hq; cases hq
      · simp only [allO_none l p h hp]; rfl
theorem allO_len : ∀ (l : List (List UInt8)) (L : List R), allO l = some L → L.length = l.length
  | [], L, h => by cases h; rfl
  | q :: l, L, h => by
    simp only [allO] at h
    cases hq : preD q with
    | none => rw [hq] at h; cases h
    | some x =>
      rw [hq] at h
      cases ha : allO l with
      | none => simp only [ha] at h; cases h
      | some L' =>
        simp only [ha, Option.map_some, Option.some.injEq] at h
        subst h
        simp [allO_len l L' ha]
theorem drop_all : ∀ p : List UInt8, (∀ x ∈ p, x ≠ 61) → p.dropWhile (· ≠ 61) = []
  | [], _ => rfl
  | c :: r, h => by
    rw [List.dropWhile_cons_of_pos (by simpa using h c (by simp))]
    exact drop_all r fun x hx => h x (by simp [hx])
theorem no_eq {p : List UInt8} (h : p.contains 61 = false) : afterD p = [] := by
  unfold afterD
  have : p.dropWhile (· ≠ 61) = [] := by
    refine drop_all p fun x hx => ?_
    rintro rfl
    rw [List.contains_iff_mem.2 hx] at h; cases h
  rw [this]; rfl
theorem rdn_pre (p : List UInt8) : rdnD p = match preD p with
    | none => none
    | some r => if okR r = true then some r else none := by
  unfold preD
  by_cases hc : p.contains 61 = true
  · rw [if_pos hc]
    cases hv : valD (afterD p) with
    | none => exact rdn_no2 hv
    | some v =>
      simp only [Option.map_some]
      cases ht : okType (nameD p) with
      | false =>
        rw [rdn_no1 ht, if_neg]
        unfold okR; rw [ht]; simp
      | true =>
        rw [rdn_yes ht hv]
        unfold okR
        simp only [ht, Bool.true_and]
  · rw [if_neg hc, rdn_yes' hc]
where
  rdn_yes' {p : List UInt8} (hc : ¬ p.contains 61 = true) : rdnD p = none := by
    have ha := no_eq (by simpa using hc)
    cases ht : okType (nameD p) with
    | false => exact rdn_no1 ht
    | true => rw [rdn_yes ht (v := []) (by rw [ha]; rfl)]; rfl
theorem par_pre : ∀ (k : Nat) (l : List UInt8), parN k l = match allO (partsD l) with
    | none => none
    | some L => if (decide (L.length ≤ k) && L.all okR) = true then some L else none
  | 0, l => by
    cases h : allO (partsD l) with
    | none => rfl
    | some L =>
      have := allO_len _ _ h
      have hp : 0 < (partsD l).length := by
        cases hc : (cutD l).2.2 with
        | true => rw [partsD_more hc]; simp
        | false => rw [partsD_end hc]; simp
      have e : decide (L.length ≤ 0) = false := by rw [decide_eq_false_iff_not]; omega
      simp only [e, Bool.false_and]
      rfl
  | k + 1, l => by
    unfold parN
    rw [rdn_pre]
    cases hc : (cutD l).2.2 with
    | true =>
      rw [partsD_more hc]
      simp only [allO]
      cases hp : preD (cutD l).1 with
      | none => rfl
      | some r =>
        simp only [if_true]
        have ih := par_pre k (cutD l).2.1
        by_cases ho : okR r = true
        · rw [if_pos ho]
          simp only
          rw [ih]
          cases ha : allO (partsD (cutD l).2.1) with
          | none => rfl
          | some L =>
            simp only [Option.map_some]
            by_cases hb : (decide (L.length ≤ k) && L.all okR) = true
            · rw [if_pos hb, if_pos (by simp only [Bool.and_eq_true, decide_eq_true_eq] at hb ⊢; exact ⟨by simp; omega, by rw [List.all_cons, ho, hb.2]; rfl⟩)]
              rfl
            · rw [if_neg hb, if_neg (by
                intro hh; apply hb
                simp only [Bool.and_eq_true, decide_eq_true_eq, List.all_cons] at hh ⊢
                exact ⟨by have := hh.1; simp at this; omega, hh.2.2⟩)]
              rfl
        · rw [if_neg ho]
          simp only
          cases ha : allO (partsD (cutD l).2.1) with
          | none => rfl
          | some L =>
            simp only [Option.map_some]
            rw [if_neg (by intro hh; simp only [Bool.and_eq_true, List.all_cons] at hh; exact ho hh.2.1)]
    | false =>
      rw [partsD_end hc]
      simp only [allO]
      cases hp : preD (cutD l).1 with
      | none => rfl
      | some r =>
        simp only [Option.map_some]
        by_cases ho : okR r = true
        · rw [if_pos ho]
          simp only
          rw [if_neg (by simp), if_pos (by simp [ho])]
        · rw [if_neg ho, if_neg (by simp [ho])]
theorem parse_pre {s : List UInt8} (h : s ≠ []) : parseD s = match allO (partsD s) with
    | none => none
    | some L => if okL L = true then some L else none := by
  unfold parseD
  rw [if_neg h, par_pre]
  rfl
theorem parse_none {s p : List UInt8} (h : s ≠ []) (hm : p ∈ partsD s) (hp : preD p = none) : parseD s = none := by
  rw [parse_pre h, allO_none _ p hm hp]

theorem partsN_le : ∀ (n : Nat) (l p : List UInt8), p ∈ partsN n l → p.length ≤ l.length
  | 0, l, p, h => by simp [partsN] at h; rw [h]; exact Nat.le_refl _
  | n + 1, l, p, h => by
    have hl := cutD_le l
    unfold partsN at h
    split at h
    · rcases List.mem_cons.1 h with rfl | h
      · exact hl.1
      · exact Nat.le_trans (partsN_le n _ p h) hl.2
    · simp at h; rw [h]; exact hl.1
theorem partsD_le {l p : List UInt8} (h : p ∈ partsD l) : p.length ≤ l.length := partsN_le _ _ _ h
theorem partsN_len : ∀ (n : Nat) (l : List UInt8), (partsN n l).length ≤ n + 1
  | 0, l => by simp [partsN]
  | n + 1, l => by
    unfold partsN
    split
    · have := partsN_len n (cutD l).2.1; simp; omega
    · simp

theorem eq_at {p : List UInt8} {k : Nat} (h : k < p.length) (h61 : p[k] = 61) (hall : ∀ x ∈ p.take k, x ≠ 61) : nameD p = p.take k ∧ afterD p = p.drop (k + 1) ∧ p.contains 61 = true := by
  have e : p = p.take k ++ 61 :: p.drop (k + 1) := by
    have := List.take_append_drop k p
    rw [List.drop_eq_getElem_cons h, h61] at this
    exact this.symm
  have ht : ∀ c ∈ p.take k, (decide (c ≠ 61)) = true := fun c hc => by simpa using hall c hc
  refine ⟨?_, ?_, ?_⟩
  · unfold nameD
    conv => lhs; rw [e]
    rw [List.takeWhile_append_of_pos ht]; simp
  · unfold afterD
    conv => lhs; rw [e]
    rw [List.dropWhile_append_of_pos ht]; simp
  · rw [List.contains_iff_mem, ← h61]; exact List.getElem_mem h

def BoxD (w : World) (b : Nat) (v : Value) (ok : Bool) : Prop := w.heap[b]? = some (.cells #[v, .bool ok] 98 (0, 0))
theorem BoxD.below {w w' : World} {b n : Nat} {v : Value} {ok : Bool} (h : BoxD w b v ok) (hb : Below n w w') (hn : b < n) : BoxD w' b v ok := (hb.block b hn).trans h
theorem BoxD.cells {w : World} {b : Nat} {v : Value} {ok : Bool} (h : BoxD w b v ok) : w.cell? ⟨b, 0, none⟩ = some v ∧ w.cell? ⟨b, 1, none⟩ = some (.bool ok) ∧ w.frozen? ⟨b, 0, none⟩ = false ∧ w.frozen? ⟨b, 1, none⟩ = false := by
  unfold BoxD at h
  simp [World.cell?, World.frozen?, h]
theorem boxD_new (w : World) (v : Value) (ok : Bool) : BoxD (w.alloc (.cells #[v, .bool ok] 98)) w.heap.size v ok := heap_alloc_new w _
theorem BoxD.store {w : World} {b : Nat} {v : Value} {ok : Bool} (h : BoxD w b v ok) (v' : Value) (ok' : Bool) : BoxD ((w.setCell ⟨b, 0, none⟩ v').setCell ⟨b, 1, none⟩ (.bool ok')) b v' ok' := by
  unfold BoxD at h ⊢
  simp [World.setCell, Array.getElem?_modify, h]

def PRef (w : World) (o : Option (List R)) (e : Ending) (w' : World) : Prop :=
  Below w.heap.size w w' ∧ match o with
  | none => e = .returned (.agg #[.slice none 0 0, .bool false])
  | some l => ∃ v, e = .returned (.agg #[v, .bool true]) ∧ IsL w'.heap.size w' l v
end Go.Proofs.YtdgnefcpeocbjaaGreatDoor


namespace Go.Proofs.YtdgnefcpeocbjaaGreatDoor
open Go.RowKit
set_option linter.unusedVariables false

theorem ownR_stored {B b : Nat} {w : World} {v : Value} {l : List R} (h : OwnR B w v l) (hb : b < B) (x y : Value) : OwnR B ((w.setCell ⟨b, 0, none⟩ x).setCell ⟨b, 1, none⟩ y) v l := by
  have hne : v.ownBlock ≠ some b := by
    intro e
    have := (World.ownsRow.lt h b e).1
    omega
  exact ownsRow_setCell_other (a := ⟨b, 1, none⟩) (ownsRow_setCell_other (a := ⟨b, 0, none⟩) h hne x) hne y

set_option maxRecDepth 100000 in
set_option maxHeartbeats 8000000 in
theorem parseRef_any (s : ByteArray) (hs : s.size ≤ 100000) (w : World) : Calls Tryz.prog 70 #[.string s] w (PRef w (parseD s.data.toList)) := by
  have HBox := Lib.hid (boxD_new w (.slice none 0 0) false)
  have hbb : Below w.heap.size w (w.alloc (.cells #[.slice none 0 0, .bool false] 98)) := (Below.refl _ _).alloc (Nat.le_refl _) _
  have HBB := Lib.hid hbb
  clear hbb
  by_cases hne : s.data.toList = []
  · obtain ⟨e1, e2⟩ := bytes_nil hne
    have hp : parseD s.data.toList = some [] := by rw [hne]; rfl
    rw [hp]
    obtain ⟨c0, c1, f0, f1⟩ := HBox.out.cells
    clear hp hne
    go_enter Tryz.func70, Tryz.ntmps70
    go_wp2
    obtain ⟨d0, d1, _, _⟩ := (HBox.out.store (.slice none 0 0) true).cells
    refine bodyPost_ret (v := .agg #[.slice none 0 0, .bool true]) (by simp [results, Tryz.results70, go_sem]) rfl ⟨(Below.refl _ _).alloc (Nat.le_refl _) _, _, rfl, none, 0, rfl, Nat.zero_le _, fun j hj => absurd hj (by simp)⟩
  obtain ⟨e1, e2⟩ := bytes_some hne
  have hpre := parse_pre hne
  have hnone := fun p => parse_none (p := p) hne
  have hcut := fun w => cutRef_any s hs w
  have hple := fun p => partsD_le (l := s.data.toList) (p := p)
  have hplen : (partsD s.data.toList).length ≤ s.size + 2 := by
    have := partsN_len (s.data.toList.length + 1) s.data.toList
    rw [bytes_len] at this
    unfold partsD
    rw [bytes_len]; omega
  obtain ⟨P, hP⟩ : ∃ P, P = partsD s.data.toList := ⟨_, rfl⟩
  simp only [← hP] at hpre hnone hcut hple hplen
  obtain ⟨res, hres⟩ : ∃ res, res = parseD s.data.toList := ⟨_, rfl⟩
  rw [← hres] at hpre hnone ⊢
  have HPre := Lib.hid hpre
  have HNone := Lib.hid hnone
  have HCut := Lib.hid hcut
  have HPle := Lib.hid hple
  clear hne hpre hnone hcut hP hres hple
  go_enter Tryz.func70, Tryz.ntmps70
  go_wp2_with (go_at_call 89; refine (HCut.out _).mono ?_; rintro e w2 ⟨u, rfl, hown2, hb2⟩; obtain ⟨pa, pc, rfl⟩ := ownS_slice hown2; have HP2 := Lib.hid hown2; have HB2 := Lib.hid hb2; have HX2 := Lib.hid (HBox.out.below hb2 (by simp)); clear hown2 hb2)
  have hbw2 : w.heap.size < w2.heap.size := by have := HB2.out.size; simp at this; omega
  have hw2 : Below w.heap.size w w2 := HBB.out.trans (HB2.out.mono (by simp))
  have HW2 := Lib.hid hw2
  clear hw2 e1 e2
  go_loopw [3, 5] (fun v i wr => ∃ (j : Nat) (L : List R), i = .int .i64 j ∧ j ≤ P.length ∧ L.length = j ∧ allO (P.take j) = some L ∧ OwnR w2.heap.size wr v L ∧ Below w2.heap.size w2 wr) (fun _ i _ => P.length - (intOf i).toNat)
  case atStart => exact ⟨0, [], rfl, Nat.zero_le _, rfl, rfl, ownR_nil _ _, Below.refl _ _⟩
  case round =>
    obtain ⟨j, L, rfl, hj, hLj, hall, hown, hbel⟩ := hrel
    obtain ⟨a, cp, rfl⟩ := ownR_slice hown
    have HLj := Lib.hid hLj
    have hll : L.length ≤ P.length := by omega
    clear hLj
    have HBel := Lib.hid hbel
    have hbs := hbel.size
    have HOwn := Lib.hid hown
    have HX := Lib.hid (HX2.out.below hbel hbw2)
    by_cases hlt : j < P.length
    · have t1 : decide ((j : Int) < (P.length : Int)) = true := by simp; omega
      have t1' : decide (j < P.length) = true := by simpa using hlt
      obtain ⟨g, pc', hv, _, hg2, hcell⟩ := ownS_at HP2.out (by intro e; rw [e] at hlt; simp at hlt)
      simp only [Value.slice.injEq, true_and] at hv
      obtain ⟨rfl, rfl⟩ := hv
      obtain ⟨X, hX⟩ : ∃ X : ByteArray, X = ⟨P[j].toArray⟩ := ⟨_, rfl⟩
      have hXl : X.data.toList = P[j] := by rw [hX]
      have d0 : wr.cell? ⟨g, j, none⟩ = some (.string X) := by rw [hbel.cell (p := ⟨g, _, none⟩) hg2, hcell j hlt, hX]; rfl
      have hmem : X.data.toList ∈ P := by rw [hXl]; exact List.getElem_mem hlt
      have hXs : X.size ≤ 100000 := by
        have := HPle.out _ hmem
        rw [bytes_len, bytes_len] at this; omega
      have hsnoc : ∀ r, preD X.data.toList = some r → allO (P.take (j + 1)) = some (L ++ [r]) := fun r hr => by
        rw [List.take_succ_eq_append_getElem hlt, ← hXl]
        exact allO_snoc _ _ _ _ hall hr
      have hno : preD X.data.toList = none → res = none := fun h => HNone.out _ hmem h
      have HSnoc := Lib.hid hsnoc
      have HNo := Lib.hid hno
      have hg1 : (j : Int) < (P.length : Int) := by omega
      clear hcell hX hXl hmem hall hown hbel hsnoc hno
      go_wp2
      go_loop [6] (fun x => ∃ k : Nat, x = .int .i64 k ∧ k ≤ X.size ∧ ∀ y ∈ X.data.toList.take k, y ≠ 61) (fun x => X.size - (intOf x).toNat)
      case atStart => exact ⟨0, rfl, Nat.zero_le _, by simp⟩
      case round =>
        obtain ⟨k, rfl, hk, hbef⟩ := hrel
        have p0 : (0 : Int) ≤ (k : Int) := by omega
        have p1 : (k : Int) ≤ (X.size : Int) := by omega
        by_cases hkl : k < X.size
        · have t2 : decide ((k : Int) < (X.size : Int)) = true := by simp; omega
          obtain ⟨y, hy⟩ : ∃ y : UInt8, y = X[k] := ⟨_, rfl⟩
          have hy' : X[k]'hkl = y := hy.symm
          have hyl := y.toNat_lt
          have hkl' : k < X.data.toList.length := by rw [bytes_len]; exact hkl
          by_cases h61 : y.toNat = 61
          · have t3 : ((y.toNat : Int) != 61) = false := by simp [h61]
            have t3' : ((y.toNat : Int) == 61) = true := by simp [h61]
            have t4 : ((k : Int) == (X.size : Int)) = false := by simp; omega
            have t4' : (k == X.size) = false := by simp; omega
            have heq := eq_at hkl' (by show X[k] = 61; rw [hy']; exact UInt8.toNat_inj.1 h61) hbef
            have hpr : preD X.data.toList = (valD (X.extract (k + 1) X.size).data.toList).map (fun v => ((X.extract 0 k).data.toList, v)) := by
              unfold preD
              rw [if_pos heq.2.2, heq.1, heq.2.1, rest_list, head_list]
            obtain ⟨Z, hZ⟩ : ∃ Z, X.extract (k + 1) X.size = Z := ⟨_, rfl⟩
            obtain ⟨Y, hY⟩ : ∃ Y, X.extract 0 k = Y := ⟨_, rfl⟩
            rw [hZ, hY] at hpr
            have hZs : Z.size ≤ 100000 := by rw [← hZ, ByteArray.size_extract]; omega
            have hvl := fun w => valueRef_any Z hZs w
            have p2 : (k : Int) + 1 ≤ (X.size : Int) := by omega
            clear hy heq hbef
            cases hvd : valD Z.data.toList with
            | none =>
              rw [hvd] at hpr hvl
              unfold valV at hvl
              have HV := Lib.hid hvl
              have HRes := Lib.hid (HNo.out (by rw [hpr]; rfl))
              clear hpr hvl hvd h61
              go_wp2_with (go_at_call 90; refine (HV.out _).mono ?_; rintro e w4 ⟨rfl, hb4⟩; have HB4 := Lib.hid hb4; have HY := Lib.hid (HX.out.below hb4 (Nat.lt_of_lt_of_le hbw2 hbs)); obtain ⟨c0, c1, f0, f1⟩ := HY.out.cells; clear hb4)
              obtain ⟨q0, q1, _, _⟩ := (HY.out.store (.slice none 0 0) false).cells
              refine bodyPost_ret (v := .agg #[.slice none 0 0, .bool false]) (by simp [results, Tryz.results70, go_sem, q0, q1]) rfl ?_
              rw [HRes.out]
              exact ⟨boxR_stored (HW2.out.trans (((HBel.out.trans (HB4.out.mono hbs))).mono (Nat.le_of_lt hbw2))) (Nat.le_refl _) _ _, rfl⟩
            | some v =>
              rw [hvd] at hpr hvl
              obtain ⟨V, hV⟩ : ∃ V : ByteArray, V = ⟨v.toArray⟩ := ⟨_, rfl⟩
              have hVl : V.data.toList = v := by rw [hV]
              simp only [valV, ← hV] at hvl
              have HV := Lib.hid hvl
              have HNew := Lib.hid (HSnoc.out (Y.data.toList, V.data.toList) (by rw [hpr, hVl]; rfl))
              clear hpr hvl hvd h61 hV hVl
              go_wp2_with (first
                | (go_at_call 90; refine (HV.out _).mono ?_; rintro e w4 ⟨rfl, hb4⟩; have HB4 := Lib.hid hb4; have d0 := (hb4.cell (p := ⟨g, j, none⟩) (Nat.lt_of_lt_of_le hg2 hbs)).trans d0; have HO4 := Lib.hid (ownR_below HOwn.out hb4); clear hb4)
                | (at_builtin; refine wpList_append_rdn rfl (.tmp 60) (.tmp 69) rfl w2.heap.size (.slice a L.length cp) L rfl Y V HO4.out rfl (by omega) (Nat.le_trans hbs HB4.out.size) ?_; intro v5 w5 hown5 hb5; have HO5 := Lib.hid hown5; have HB5 := Lib.hid hb5; clear hown5 hb5))
              go_roundw
              case rel => exact ⟨j + 1, L ++ [(Y.data.toList, V.data.toList)], by go_num, by omega, by simp; have := HLj.out; omega, HNew.out, HO5.out, (HBel.out.trans (HB4.out.mono hbs)).trans HB5.out⟩
              case measure => simp [intOf]; omega
          · have t3 : ((y.toNat : Int) != 61) = true := by simp; omega
            have t3' : ((y.toNat : Int) == 61) = false := by simp; omega
            have hnext : ∀ z ∈ X.data.toList.take (k + 1), z ≠ 61 := by
              intro z hz
              rw [List.take_succ_eq_append_getElem hkl', List.mem_append] at hz
              rcases hz with hz | hz
              · exact hbef z hz
              · simp only [List.mem_singleton] at hz
                rintro rfl
                apply h61
                rw [hy]
                have : X.data.toList[k] = X[k] := rfl
                rw [← this, ← hz]; rfl
            have HNx := Lib.hid hnext
            clear hy hbef hnext
            go_wp2
            go_round
            case rel => exact ⟨k + 1, by go_num, by omega, HNx.out⟩
            case measure => simp [intOf]; omega
        · obtain rfl : k = X.size := by omega
          have t2 : decide ((X.size : Int) < (X.size : Int)) = false := by simp
          have hc61 : X.data.toList.contains 61 = false := by
            cases h : X.data.toList.contains 61 with
            | false => rfl
            | true =>
              rw [List.contains_iff_mem] at h
              rw [List.take_of_length_le (by simp)] at hbef
              exact absurd rfl (hbef 61 h)
          have HRes := Lib.hid (HNo.out (by unfold preD; rw [if_neg (by rw [hc61]; simp)]))
          obtain ⟨c0, c1, f0, f1⟩ := HX.out.cells
          clear hbef hc61
          go_wp2
          obtain ⟨q0, q1, _, _⟩ := (HX.out.store (.slice none 0 0) false).cells
          refine bodyPost_ret (v := .agg #[.slice none 0 0, .bool false]) (by simp [results, Tryz.results70, go_sem, q0, q1]) rfl ?_
          rw [HRes.out]
          exact ⟨boxR_stored (HW2.out.trans (HBel.out.mono (Nat.le_of_lt hbw2))) (Nat.le_refl _) _ _, rfl⟩
    · obtain rfl : j = P.length := by omega
      have t1 : decide ((P.length : Int) < (P.length : Int)) = false := by simp
      have t1' : decide (P.length < P.length) = false := by simp
      rw [List.take_length] at hall
      have hpre := HPre.out
      rw [hall] at hpre
      simp only at hpre
      have hm : L.length ≤ maxLen := by unfold maxLen; omega
      have hmay := mayRef_any L (.slice a L.length cp) wr (ownR_isL hown hm)
      obtain ⟨b, hb⟩ : ∃ b, b = okL L := ⟨_, rfl⟩
      rw [← hb] at hmay hpre
      have HM := Lib.hid hmay
      obtain ⟨c0, c1, f0, f1⟩ := HX.out.cells
      clear hown hbel hall hmay hb
      cases b with
      | true =>
        rw [if_pos rfl] at hpre
        have HRes := Lib.hid hpre
        clear hpre
        go_wp2_with (go_at_call 91; refine (HM.out).mono ?_; rintro e w5 ⟨rfl, rfl⟩)
        obtain ⟨q0, q1, _, _⟩ := (HX.out.store (.slice a L.length cp) true).cells
        refine bodyPost_ret (v := .agg #[.slice a L.length cp, .bool true]) (by simp [results, Tryz.results70, go_sem, q0, q1]) rfl ?_
        rw [HRes.out]
        exact ⟨boxR_stored (HW2.out.trans (HBel.out.mono (Nat.le_of_lt hbw2))) (Nat.le_refl _) _ _, _, rfl, ownR_isL (ownR_stored HOwn.out hbw2 _ _) hm⟩
      | false =>
        rw [if_neg (by simp)] at hpre
        have HRes := Lib.hid hpre
        clear hpre
        go_wp2_with (go_at_call 91; refine (HM.out).mono ?_; rintro e w5 ⟨rfl, rfl⟩)
        obtain ⟨q0, q1, _, _⟩ := (HX.out.store (.slice none 0 0) false).cells
        refine bodyPost_ret (v := .agg #[.slice none 0 0, .bool false]) (by simp [results, Tryz.results70, go_sem, q0, q1]) rfl ?_
        rw [HRes.out]
        exact ⟨boxR_stored (HW2.out.trans (HBel.out.mono (Nat.le_of_lt hbw2))) (Nat.le_refl _) _ _, rfl⟩
end Go.Proofs.YtdgnefcpeocbjaaGreatDoor

