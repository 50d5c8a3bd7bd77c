/- Several texts in one file: FiMkH. -/
import Derived.Test.YtdcfmgnpjmpboaaDoorBackP3
import Derived.Deep.RegionLaw
import Derived.Deep.AppendLies
import Derived.RegionTactic
/- brooklaw6.Make: the walk (filters that hold others). -/
namespace Go.Proofs.YtdcfmgnpjmpboaaDoor
open Go.RowKit
set_option linter.unusedVariables false
set_option linter.unusedSimpArgs false

theorem isC_all {n0 : Nat} {w : World} {c : UInt8} {r : List UInt8} {a : Option Addr} {cap : Nat} (h : IsC n0 w (c :: r) a cap) : ∃ b off, a = some ⟨b, off, none⟩ ∧ (∀ j, (h : j < (c :: r).length) → w.cell? ⟨b, off + j, none⟩ = some (.int .u8 (c :: r)[j].toNat)) ∧ b < n0 := by
  obtain ⟨_, _, h⟩ := h
  obtain ⟨b, off, e, hlt, hc⟩ := h.resolve_left (by simp)
  exact ⟨b, off, e, hc, hlt⟩
/-- What the rounds hold: the kids made so far, in the row v. -/
def MadeF (w : World) (B6 : Nat) (K : Int) (wr : World) (l : List FT) (v : Value) : Prop :=
  FlAt wr w.heap.size (.int .i64 0) (.string ⟨#[]⟩) (.string ⟨#[]⟩) (.slice none 0 0) (.slice none 0 0) ∧ FlAt wr B6 (.int .i64 K) (.string ⟨#[]⟩) (.string ⟨#[]⟩) (.slice none 0 0) v ∧
  (∃ xs, wr.ownsRow (w.heap.size + 4) 25 5 v l.length xs ∧ ElsF (NewB (w.heap.size + 4) wr v.ownBlock) wr l xs) ∧ Below w.heap.size w wr
theorem ownsRow_sliceF {w : World} {base e size n : Nat} {v : Value} {xs : List Value} (h : w.ownsRow base e size v n xs) : ∃ a k c, v = .slice a k c := by
  rcases h.2 with ⟨rfl, _⟩ | ⟨g, cap, cur, rfl, _⟩
  · exact ⟨_, _, _, rfl⟩
  · exact ⟨_, _, _, rfl⟩
theorem fl_set4 {W : World} {b : Nat} {y0 y1 y2 y3 y4 : Value} (h : FlAt W b y0 y1 y2 y3 y4) (x4 : Value) : FlAt (W.setCell ⟨b, 4, none⟩ x4) b y0 y1 y2 y3 x4 := by
  have h' : W.heap[b]? = some (.cells #[y0, y1, y2, y3, y4] 25 (0, 0)) := h
  show (W.setCell ⟨b, 4, none⟩ x4).heap[b]? = _
  simp [World.setCell, Array.getElem?_modify, h']
theorem mid_anyF {B : Nat} {wr w2 w3 : World} {v x0 x1 x2 x3 x4 : Value} {l : List FT} {xs : List Value} {f : FT}
    (hown : wr.ownsRow B 25 5 v l.length xs) (hels : ElsF (NewB B wr v.ownBlock) wr l xs) (hB : B ≤ wr.heap.size) (hb2 : Below wr.heap.size wr w2) (hnew : IsFl (fun b => wr.heap.size ≤ b ∧ b < w2.heap.size) w2 f (.agg #[x0, x1, x2, x3, x4])) (h3 : Below w2.heap.size w2 w3) :
    w3.ownsRow B 25 5 v l.length xs ∧ ElsF (NewB B w3 v.ownBlock) w3 (l ++ [f]) (xs ++ [x0, x1, x2, x3, x4]) := by
  have hs : wr.heap.size ≤ w2.heap.size := hb2.size
  have hltv := hown.lt
  have g1 : wr.grownBy w2 none := ⟨hb2.os, hb2.tape, hb2.output, hb2.size, fun k hk _ => hb2.block k hk⟩
  have g2 : w2.grownBy w3 none := ⟨h3.os, h3.tape, h3.output, h3.size, fun k hk _ => h3.block k hk⟩
  refine ⟨(hown.kept g1 (by cases v.ownBlock <;> simp)).kept g2 (by cases v.ownBlock <;> simp), ElsF.snoc (hnew.imp (fun b hb => ⟨Nat.le_trans hB hb.1, Nat.lt_of_lt_of_le hb.2 h3.size, fun e => ?_⟩) (fun b o hb => h3.cell (p := ⟨b, o, none⟩) hb.2)) (hels.imp (fun b hb => ⟨hb.1, Nat.lt_of_lt_of_le hb.2.1 (Nat.le_trans hs h3.size), hb.2.2⟩) (fun b o hb => (bthen hb2 h3).cell (p := ⟨b, o, none⟩) hb.2.1))⟩
  have := (hltv _ e.symm).2
  have := hb.1
  omega
theorem els_afterF {B : Nat} {w3 w4 : World} {v v' : Value} {us : List FT} {ys : List Value} (hels : ElsF (NewB B w3 v.ownBlock) w3 us ys) (hgrow : w3.grownBy w4 v.ownBlock) (hat : v'.ownBlock = v.ownBlock ∨ v'.ownBlock = some w3.heap.size) : ElsF (NewB B w4 v'.ownBlock) w4 us ys := by
  refine hels.imp (fun b hb => ⟨hb.1, Nat.lt_of_lt_of_le hb.2.1 hgrow.size, fun e => ?_⟩) (fun b o hb => World.cell?_of_block (w := w3) (w' := w4) (a := ⟨b, o, none⟩) (hgrow.block b hb.2.1 hb.2.2))
  rcases hat with h | h
  · exact hb.2.2 (e.trans h)
  · rw [h] at e
    have := Option.some.inj e
    have := hb.2.1
    omega
theorem nextKF {w wr w2 w3 w4 : World} {B6 : Nat} {K : Int} {v x0 x1 x2 x3 x4 : Value} {l : List FT} {xs : List Value} {f : FT} {g cap : Nat} (hB6 : B6 = w.heap.size + 1) (hsz : w.heap.size + 4 ≤ wr.heap.size)
    (hm : MadeF w B6 K wr l v) (hown : wr.ownsRow (w.heap.size + 4) 25 5 v l.length xs) (hels : ElsF (NewB (w.heap.size + 4) wr v.ownBlock) wr l xs) (hb2 : Below wr.heap.size wr w2) (hnew : IsFl (fun b => wr.heap.size ≤ b ∧ b < w2.heap.size) w2 f (.agg #[x0, x1, x2, x3, x4])) (h3 : Below w2.heap.size w2 w3)
    (hown' : w4.ownsRow (w.heap.size + 4) 25 5 (.slice (some ⟨g, 0, none⟩) (l.length + 1) cap) (l.length + 1) (xs ++ [x0, x1, x2, x3, x4])) (hgrow : w3.grownBy w4 v.ownBlock) (hat : v.ownBlock = some g ∨ g = w3.heap.size) :
    w4.cell? ⟨B6, 4, none⟩ = some v ∧ w4.frozen? ⟨B6, 4, none⟩ = false ∧
    MadeF w B6 K (w4.setCell ⟨B6, 4, none⟩ (.slice (some ⟨g, 0, none⟩) (l.length + 1) cap)) (l ++ [f]) (.slice (some ⟨g, 0, none⟩) (l.length + 1) cap) := by
  obtain ⟨hz, hb6, _, hbel⟩ := hm
  have hltv := hown.lt
  have hs := hb2.size
  have hs3 := h3.size
  have hs4 := hgrow.size
  have hkeep : ∀ k, k < wr.heap.size → some k ≠ v.ownBlock → w4.heap[k]? = wr.heap[k]? := fun k hk hne =>
    (hgrow.block k (by omega) hne).trans ((h3.block k (by omega)).trans (hb2.block k hk))
  have hne0 : some w.heap.size ≠ v.ownBlock := fun e => by have := (hltv _ e.symm).1; omega
  have hne1 : some B6 ≠ v.ownBlock := fun e => by have := (hltv _ e.symm).1; omega
  have hb4 : FlAt w4 B6 (.int .i64 K) (.string ⟨#[]⟩) (.string ⟨#[]⟩) (.slice none 0 0) v := (hkeep _ (by omega) hne1).trans hb6
  have hz4 : FlAt w4 w.heap.size (.int .i64 0) (.string ⟨#[]⟩) (.string ⟨#[]⟩) (.slice none 0 0) (.slice none 0 0) := (hkeep _ (by omega) hne0).trans hz
  have hmid := mid_anyF hown hels hsz hb2 hnew h3
  have e4 := els_afterF (v' := .slice (some ⟨g, 0, none⟩) (l.length + 1) cap) hmid.2 hgrow (by rcases hat with h | h; exact .inl h.symm; exact .inr (by rw [h]; rfl))
  have h4 : Below w.heap.size wr w4 := ⟨hgrow.os.trans (h3.os.trans hb2.os), hgrow.tape.trans (h3.tape.trans hb2.tape), hgrow.output.trans (h3.output.trans hb2.output), by omega, fun k hk => hkeep k (by omega) (fun e => by have := (hltv _ e.symm).1; omega)⟩
  refine ⟨(fl_cells hb4).2.2.2.2, (fl_frozen hb4).2.2.2.2, (blockFl_ne _ ⟨B6, 4, none⟩ _ (by show w.heap.size ≠ B6; omega)).trans hz4, fl_set4 hb4 _, ⟨xs ++ [x0, x1, x2, x3, x4], ?_, ?_⟩, (hbel.trans h4).setCell (p := ⟨B6, 4, none⟩) (by show w.heap.size ≤ B6; omega) _⟩
  · rw [List.length_append]
    exact hown'.kept (set1_grown w4 B6 4 _) (by right; intro e; have e1 : g = B6 := Option.some.inj (show some g = some B6 from e); have e2 : w.heap.size + 4 ≤ g := (hown'.lt g rfl).1; omega)
  · exact e4.imp (fun b hb => ⟨hb.1, by rw [World.size_setCell]; exact hb.2.1, hb.2.2⟩) (fun b o hb => World.cell?_of_block (a := ⟨b, o, none⟩) (heap_setCell_other _ _ _ _ (by have := hb.1; show b ≠ B6; omega)))
theorem news5 (w : World) (x0 x1 x2 x3 x4 : Value) : ∀ j u, [x0, x1, x2, x3, x4][j]? = some u → (w.alloc (.cells #[x0, x1, x2, x3, x4] 25)).cell? ((⟨w.heap.size, 0, none⟩ : Addr).add j) = some u := by
  intro j u hu
  have h := heap_alloc_new w (.cells #[x0, x1, x2, x3, x4] 25)
  have hadd : (⟨w.heap.size, 0, none⟩ : Addr).add j = ⟨w.heap.size, j, none⟩ := by unfold Addr.add; split <;> simp_all
  rw [hadd]
  simp only [World.cell?, h]
  simpa using hu
/-- The result's cells. -/
theorem made_doneF {w wr : World} {B6 : Nat} {K : Int} {l : List FT} {v : Value} (hm : MadeF w B6 K wr l v) (hsz : w.heap.size + 4 ≤ wr.heap.size) (hK : (Lit.int .i64 K).wf = true) (hl : l.length ≤ maxLen) :
    IsFl (fun b => w.heap.size ≤ b ∧ b < (set5F wr w.heap.size (.int .i64 K) (.string ⟨#[]⟩) (.string ⟨#[]⟩) (.slice none 0 0) v).heap.size) (set5F wr w.heap.size (.int .i64 K) (.string ⟨#[]⟩) (.string ⟨#[]⟩) (.slice none 0 0) v) (.mk K [] [] [] l) (.agg #[.int .i64 K, .string ⟨#[]⟩, .string ⟨#[]⟩, .slice none 0 0, v]) := by
  obtain ⟨_, _, ⟨xs, ho, he⟩, _⟩ := hm
  obtain ⟨a, cp, rfl, his⟩ := ownF_done ⟨xs, he, ho⟩
  exact mkHold hK hl (his.imp (fun b hb => ⟨by omega, by rw [set5F_size]; exact hb.2⟩) (fun b o hb => fl_setC (by omega)))

set_option maxRecDepth 100000 in
set_option maxHeartbeats 8000000 in
theorem mkHold1 (S : ByteArray) (hS : S.size ≤ 1000) (fu : Nat) (c : UInt8) (r : List UInt8) (n : Nat) (hn : c.toNat = n) (hk : c.toNat % 8 = 0) (a : Option Addr) (cap : Nat) (w : World) (ih : MakesF S fu) (hfu : r.length ≤ fu) (hC : IsC w.heap.size w (c :: r) a cap) :
    Calls Tryd.prog 18 #[.slice a (c :: r).length cap, .string S] w fun e w' => ∃ v, e = .returned v ∧ IsFl (fun b => w.heap.size ≤ b ∧ b < w'.heap.size) w' (makeFu S.data.toList (fu + 1) (c :: r)) v ∧ Below w.heap.size w w' := by
  rw [show makeFu S.data.toList (fu + 1) (c :: r) = FT.mk 1 [] [] [] (kidsM (makeFu S.data.toList fu) (c :: r) (c.toNat / 60) (min r.length (c.toNat / 24 % 4))) from by
    show (if c.toNat % 8 = 0 then _ else _) = _
    rw [if_pos hk]]
  have hcl := c.toNat_lt
  have hcap := hC.2.1
  have hlen := hC.1
  obtain ⟨m, hm⟩ : ∃ m, m = (c :: r).length := ⟨_, rfl⟩
  have hm1 : 1 ≤ m := by rw [hm]; simp
  rw [← hm] at hlen ⊢
  rw [hn] at hk hcl
  unfold maxLen at hcap
  obtain ⟨TY, hTY, hTYl⟩ := strV_text (mkTy n)
  obtain ⟨VL, hVL, hVLl⟩ := strV_text (mkVl S.data.toList n)
  obtain ⟨A1, hA1⟩ : ∃ A, w.alloc (.cells #[.int .i64 0, .string ⟨#[]⟩, .string ⟨#[]⟩, .slice none 0 0, .slice none 0 0] 25) = A := ⟨_, rfl⟩
  obtain ⟨A2, hA2⟩ : ∃ A, A1.alloc (.cells #[.int .i64 1, .string ⟨#[]⟩, .string ⟨#[]⟩, .slice none 0 0, .slice none 0 0] 25) = A := ⟨_, rfl⟩
  obtain ⟨A3, hA3⟩ : ∃ A, A2.alloc (.cells #[.string ⟨#[99, 110]⟩, .string ⟨#[115, 110]⟩, .string ⟨#[100, 101, 115, 99, 114, 105, 112, 116, 105, 111, 110]⟩, .string ⟨#[117, 105, 100, 78, 117, 109, 98, 101, 114]⟩, .string ⟨#[109, 97, 105, 108]⟩, .string ⟨#[111, 98, 106, 101, 99, 116, 67, 108, 97, 115, 115]⟩] 9) = A := ⟨_, rfl⟩
  obtain ⟨A4, hA4⟩ : ∃ A, A3.alloc (.cells #[.string ⟨#[110, 49]⟩, .string ⟨#[78, 50]⟩, .string S, .string ⟨#[53]⟩, .string ⟨#[100]⟩, .string ⟨#[112, 101, 114, 115, 111, 110]⟩] 9) = A := ⟨_, rfl⟩
  obtain ⟨x4, x6, hty, hvl, hb1, hb4, z1, z4⟩ := mk_rows w A1 A2 A3 A4 1 S n hA1 hA2 hA3 hA4
  obtain ⟨b, off, rfl, hcells, hbl⟩ := isC_all hC
  have hc0 : A1.cell? ⟨b, off, none⟩ = some (.int .u8 c.toNat) := (hb1.cell (p := ⟨b, off, none⟩) hbl).trans (by have := hcells 0 (by simp); simpa using this)
  have HA2 := Lib.hid hA2
  clear hA2
  rw [hTY] at hty
  rw [hVL] at hvl
  rw [hn] at hc0
  obtain ⟨k6, hk6⟩ : ∃ k, k = n / 8 % 6 := ⟨_, rfl⟩
  obtain ⟨v6, hv6⟩ : ∃ k, k = n / 16 % 6 := ⟨_, rfl⟩
  rw [← hk6] at hty
  rw [← hv6] at hvl
  have e8 : (n : Int) % 8 = 0 := by omega
  have e8' : Int.tmod (n : Int) 8 = 0 := by rw [Int.tmod_eq_emod_of_nonneg (by omega)]; omega
  have e6 : (n : Int) / 8 % 6 = (k6 : Int) := by omega
  have e16 : (n : Int) / 16 % 6 = (v6 : Int) := by omega
  have hk65 : k6 < 6 := by omega
  have hv65 : v6 < 6 := by omega
  have tw : IntKind.i64.wrap (n : Int) = (n : Int) := IntWalk.i64_in _ (by omega)
  have hl0 : (((m : Nat) : Int) == 0) = false := by simp; omega
  obtain ⟨ks, hks⟩ : ∃ ks : Nat → List FT, ks = kidsM (makeFu S.data.toList fu) (c :: r) (c.toNat / 60) := ⟨_, rfl⟩
  obtain ⟨rl, hrl⟩ : ∃ rl, rl = r.length := ⟨_, rfl⟩
  have hmr : m = rl + 1 := by rw [hm, hrl]; rfl
  subst hmr
  clear hl0
  have hl0 : ((rl : Int) + 1 == 0) = false := by simp; omega
  obtain ⟨i0, hi, hz0, hz1, hz2⟩ := info_parts infoF
  obtain ⟨k4, hk4⟩ : ∃ k, k = n / 24 % 4 := ⟨_, rfl⟩
  obtain ⟨q60, hq60⟩ : ∃ k, k = n / 60 := ⟨_, rfl⟩
  have e24 : (n : Int) / 24 % 4 = (k4 : Int) := by omega
  have e60 : (n : Int) / 60 = (q60 : Int) := by omega
  have hk44 : k4 < 4 := by omega
  have hq5 : q60 < 5 := by omega
  have hnd : r.length = rl := hrl.symm
  rw [← hks, hnd, hn, ← hk4]
  rw [hn, ← hq60] at hks
  have HKs := Lib.hid hks
  have HCells := Lib.hid hcells
  have HIh := Lib.hid ih
  have HRl := Lib.hid hrl
  have HBl := Lib.hid hbl
  have HTYl := Lib.hid hTYl
  have HFu := Lib.hid hfu
  have hm0 : MadeF w A1.heap.size 1 A4 (ks 0) (.slice none 0 0) := ⟨x4, x6, ⟨[], by rw [hks]; exact World.ownsRow_nil _ _ _ _, by rw [hks]; rfl⟩, hb4⟩
  have HM0 := Lib.hid hm0
  have HZ1 := Lib.hid z1
  have HZ4 := Lib.hid z4
  obtain ⟨g0, g1, g2, g3, g4⟩ := fl_cells x6
  clear hm0 hTYl hVLl hTY hVL x4 x6 hb1 hb4 z1 z4 hC hm hk6 hv6 hn hk hks hcells ih hrl hbl hfu hk4 hq60 hnd
  go_enter Tryd.func18, Tryd.ntmps18
  go_upto_region 5 with (fail)
  rw [HA2.out]
  go_wp2
  clear g0 g1 g2 g3 g4 e6 e16 e8 e8' hA1 hA3 hA4 hc0 hty hvl
  go_loopw [9] (fun i wr => ∃ (j : Nat) (v : Value), i = .int .i64 ((j : Int) + 1) ∧ j ≤ min rl k4 ∧ Hid (MadeF w A1.heap.size 1 wr (ks j) v) ∧ Hid (w.heap.size + 4 ≤ wr.heap.size)) (fun i _ => rl + 1 - (intOf i).toNat)
  case atStart => exact ⟨0, .slice none 0 0, rfl, Nat.zero_le _, HM0, Lib.hid (by rw [HZ4.out]; exact Nat.le_refl _)⟩
  case round =>
    obtain ⟨j, v, rfl, hjK, HM, HSz⟩ := hrel
    by_cases h1 : j < rl
    · have t1 : decide ((j : Int) < (rl : Int)) = true := by simp; omega
      have t1' : decide ((j : Int) + 1 < (rl : Int) + 1) = true := by simp; omega
      by_cases h2 : j + 1 ≤ k4
      · have t2 : decide ((j : Int) + 1 ≤ (k4 : Int)) = true := by simp; omega
        obtain ⟨hz, hb6, ⟨xs, hown, hels⟩, hbel⟩ := HM.out
        obtain ⟨ho, hhi⟩ : ∃ ho, ho = min (rl + 1) (j + 1 + q60 + 1) := ⟨_, rfl⟩
        have ew1 : IntKind.i64.wrap ((j : Int) + 1 + (q60 : Int)) = (j : Int) + 1 + (q60 : Int) := IntWalk.i64_in _ (by omega)
        have ew2 : IntKind.i64.wrap ((j : Int) + 1 + (q60 : Int) + 1) = (j : Int) + 1 + (q60 : Int) + 1 := IntWalk.i64_in _ (by omega)
        have em : min ((rl : Int) + 1) ((j : Int) + 1 + (q60 : Int) + 1) = (ho : Int) := by omega
        have ew0 : IntKind.i64.wrap (q60 : Int) = (q60 : Int) := IntWalk.i64_in _ (by omega)
        have em2 : max (ho : Int) 0 = (ho : Int) := by omega
        have ecj : ¬ cap = j + 1 := by omega
        have hhi1 : j + 1 ≤ ho := by omega
        have hhi2 : ho ≤ rl + 1 := by omega
        have hhi3 : ho ≤ cap := by omega
        have ei1 : (0 : Int) ≤ (j : Int) + 1 := by omega
        have ei2 : (j : Int) + 1 ≤ (ho : Int) := by omega
        have ei3 : (ho : Int) ≤ (cap : Int) := by omega
        have ei4 : ((j : Int) + 1).toNat = j + 1 := by omega
        obtain ⟨y0, y1, y2, hv⟩ := ownsRow_sliceF hown
        subst hv
        obtain ⟨L, hL⟩ : ∃ L, L = ((c :: r).drop (j + 1)).take (q60 + 1) := ⟨_, rfl⟩
        have hLl : L.length = ho - (j + 1) := by rw [hL]; simp; have := HRl.out; omega
        have hkl : (ks j).length = j := by rw [HKs.out]; exact kidsM_len _ _ _ j
        have hks1 : ks (j + 1) = ks j ++ [makeFu S.data.toList fu L] := by rw [HKs.out, hL]; rfl
        have hkb : ∀ w2, Below w.heap.size w w2 → Calls Tryd.prog 18 #[.slice (some ⟨b, off + (j + 1), none⟩) (ho - (j + 1)) (cap - (j + 1)), .string S] w2 fun e w' => ∃ v, e = .returned v ∧ IsFl (fun b => w2.heap.size ≤ b ∧ b < w'.heap.size) w' (makeFu S.data.toList fu L) v ∧ Below w2.heap.size w2 w' := by
          intro w2 hb2
          rw [← hLl]
          refine HIh.out L _ _ w2 (by have := HFu.out; have := HRl.out; omega) ⟨by omega, by unfold maxLen; omega, .inr ⟨b, off + (j + 1), rfl, Nat.lt_of_lt_of_le HBl.out hb2.size, fun i hi => ?_⟩⟩
          have hx2 : j + 1 + i < (c :: r).length := by have := HRl.out; simp; omega
          have he : L[i] = (c :: r)[j + 1 + i] := by simp only [hL, List.getElem_take, List.getElem_drop]
          have := (hb2.cell (p := ⟨b, off + (j + 1 + i), none⟩) HBl.out).trans (HCells.out (j + 1 + i) hx2)
          rw [he, Nat.add_assoc]; exact this
        have HKb := Lib.hid hkb
        have HBel := Lib.hid hbel
        have HOwn := Lib.hid hown
        have HEls := Lib.hid hels
        have HKs1 := Lib.hid hks1
        have HB6 := Lib.hid hb6
        obtain ⟨c0, c1, c2, c3, c4⟩ := fl_cells hb6
        obtain ⟨f0, f1, f2, f3, f4⟩ := fl_frozen hb6
        have hwlt : A1.heap.size < wr.heap.size := fl_lt hb6
        have hjK1 : j + 1 ≤ min rl k4 := by omega
        have HKl := Lib.hid hkl
        have hkj : (ks j).length ≤ 5 := by omega
        clear hhi hL hLl hkb hbel hz hb6 hown hels hkl hks1
        go_wp2_with fail
        go_region_law (first
          | (go_simp; go_at_call 18; refine (HKb.out wr.drew HBel.out.drew).mono ?_; rintro e w2 ⟨v2, rfl, hnew, hb2⟩; (obtain ⟨kk0, kT0, kX0, kpa, kpn, kpc, kka, kkn, kkc, hsh⟩ := hnew.shape); subst hsh; have hk2 := fl_below HB6.out ((Below.refl _ _).drew.trans hb2) hwlt; (obtain ⟨c0', c1', c2', c3', c4'⟩ := fl_cells hk2); (obtain ⟨f0', f1', f2', f3', f4'⟩ := fl_frozen hk2); have hw2 := fl_lt hk2; have hka := fl_below hk2 (box5 w2 (.int .i64 kk0) (.string kT0) (.string kX0) (.slice kpa kpn kpc) (.slice kka kkn kkc)) hw2; (obtain ⟨a0', a1', a2', a3', a4'⟩ := fl_cells hka); clear hka; have HB2 := Lib.hid ((Below.refl wr.heap.size wr).drew.trans hb2); have HNew := Lib.hid hnew; clear hb2 hnew hk2)
          | (refine step_append_lies _ (by rfl) _ _ _ (by rfl) (w.heap.size + 4) 25 i0 (.agg #[.int .i64 0, .string ⟨#[]⟩, .string ⟨#[]⟩, .slice none 0 0, .slice none 0 0]) 5 88 Tryd.underlying23 hi hz0 hz1 hz2 rfl (by omega) (.slice y0 y1 y2) (ks j).length xs (by rfl) (mid_anyF HOwn.out HEls.out HSz.out HB2.out HNew.out ((Below.refl _ _).alloc (Nat.le_refl _) _)).1 ⟨w2.heap.size, 0, none⟩ 1 1 [.int .i64 kk0, .string kT0, .string kX0, .slice kpa kpn kpc, .slice kka kkn kkc] (by rfl) (by rfl) (news5 _ _ _ _ _ _) (by intro u hu; simp at hu; rcases hu with rfl | rfl | rfl | rfl | rfl <;> rfl) (by omega) (by unfold maxLen; omega) (by omega) (by have := HB2.out.size; have := HSz.out; simp; omega) _ rfl ?_; intro gg gc w4 hown1 hgrow hat hlt; obtain ⟨hc4, hf4, hnx⟩ := nextKF HZ1.out HSz.out HM.out HOwn.out HEls.out HB2.out HNew.out ((Below.refl _ _).alloc (Nat.le_refl _) _) hown1 hgrow hat; have HNx := Lib.hid hnx; have HSz2 : Hid (w.heap.size + 4 ≤ w4.heap.size) := Lib.hid (by have := HSz.out; have := HB2.out.size; have := hgrow.size; simp at this; omega); clear hown1 hgrow hat hnx))
        all_goals
          go_wp2
          go_roundw
          case rel => exact ⟨j + 1, _, by go_num, by omega, by rw [HKs1.out]; exact HNx, Lib.hid (by rw [World.size_setCell]; exact HSz2.out)⟩
          case measure => simp [intOf]; omega
      · have t2 : decide ((j : Int) + 1 ≤ (k4 : Int)) = false := by simp; omega
        have hje : j = min rl k4 := by omega
        obtain ⟨hz, hb6, ⟨xs, hown, hels⟩, hbel⟩ := HM.out
        obtain ⟨y0, y1, y2, hv⟩ := ownsRow_sliceF hown
        subst hv
        obtain ⟨c0, c1, c2, c3, c4⟩ := fl_cells hb6
        obtain ⟨d0, d1, d2, d3, d4⟩ := fl_cells hz
        obtain ⟨q0, q1, q2, q3, q4⟩ := fl_frozen hz
        obtain ⟨r0, r1, r2, r3, r4⟩ := fl_cells (fl_set hz (.int .i64 1) (.string ⟨#[]⟩) (.string ⟨#[]⟩) (.slice none 0 0) (.slice y0 y1 y2))
        unfold set5F at r0 r1 r2 r3 r4
        have HBel := Lib.hid hbel
        have HJe := Lib.hid hje
        clear hz hb6 hown hels hbel hje
        go_wp2
        have hbz := fl_setB HBel.out (Nat.le_refl w.heap.size) (.int .i64 1) (.string ⟨#[]⟩) (.string ⟨#[]⟩) (.slice none 0 0) (.slice y0 y1 y2)
        refine bodyPost_ret (v := .agg #[.int .i64 1, .string ⟨#[]⟩, .string ⟨#[]⟩, .slice none 0 0, .slice y0 y1 y2]) (by simp [results, Tryd.results18, go_sem, r0, r1, r2, r3, r4]) rfl ⟨_, rfl, ?_, hbz⟩
        rw [← HJe.out]
        exact made_doneF HM.out HSz.out (by decide) (by rw [HKs.out, kidsM_len]; unfold maxLen; omega)
    · have t1 : decide ((j : Int) < (rl : Int)) = false := by simp; omega
      have t1' : decide ((j : Int) + 1 < (rl : Int) + 1) = false := by simp; omega
      have hje : j = min rl k4 := by omega
      obtain ⟨hz, hb6, ⟨xs, hown, hels⟩, hbel⟩ := HM.out
      obtain ⟨y0, y1, y2, hv⟩ := ownsRow_sliceF hown
      subst hv
      obtain ⟨c0, c1, c2, c3, c4⟩ := fl_cells hb6
      obtain ⟨d0, d1, d2, d3, d4⟩ := fl_cells hz
      obtain ⟨q0, q1, q2, q3, q4⟩ := fl_frozen hz
      obtain ⟨r0, r1, r2, r3, r4⟩ := fl_cells (fl_set hz (.int .i64 1) (.string ⟨#[]⟩) (.string ⟨#[]⟩) (.slice none 0 0) (.slice y0 y1 y2))
      unfold set5F at r0 r1 r2 r3 r4
      have HBel := Lib.hid hbel
      have HJe := Lib.hid hje
      clear hz hb6 hown hels hbel hje
      go_wp2
      have hbz := fl_setB HBel.out (Nat.le_refl w.heap.size) (.int .i64 1) (.string ⟨#[]⟩) (.string ⟨#[]⟩) (.slice none 0 0) (.slice y0 y1 y2)
      refine bodyPost_ret (v := .agg #[.int .i64 1, .string ⟨#[]⟩, .string ⟨#[]⟩, .slice none 0 0, .slice y0 y1 y2]) (by simp [results, Tryd.results18, go_sem, r0, r1, r2, r3, r4]) rfl ⟨_, rfl, ?_, hbz⟩
      rw [← HJe.out]
      exact made_doneF HM.out HSz.out (by decide) (by rw [HKs.out, kidsM_len]; unfold maxLen; omega)
set_option maxRecDepth 100000 in
set_option maxHeartbeats 8000000 in
theorem mkHold2 (S : ByteArray) (hS : S.size ≤ 1000) (fu : Nat) (c : UInt8) (r : List UInt8) (n : Nat) (hn : c.toNat = n) (hk : c.toNat % 8 = 1) (a : Option Addr) (cap : Nat) (w : World) (ih : MakesF S fu) (hfu : r.length ≤ fu) (hC : IsC w.heap.size w (c :: r) a cap) :
    Calls Tryd.prog 18 #[.slice a (c :: r).length cap, .string S] w fun e w' => ∃ v, e = .returned v ∧ IsFl (fun b => w.heap.size ≤ b ∧ b < w'.heap.size) w' (makeFu S.data.toList (fu + 1) (c :: r)) v ∧ Below w.heap.size w w' := by
  rw [show makeFu S.data.toList (fu + 1) (c :: r) = FT.mk 2 [] [] [] (kidsM (makeFu S.data.toList fu) (c :: r) (c.toNat / 60) (min r.length (c.toNat / 24 % 4))) from by
    show (if c.toNat % 8 = 0 then _ else _) = _
    rw [if_neg (by omega)]; rw [if_pos hk]]
  have hcl := c.toNat_lt
  have hcap := hC.2.1
  have hlen := hC.1
  obtain ⟨m, hm⟩ : ∃ m, m = (c :: r).length := ⟨_, rfl⟩
  have hm1 : 1 ≤ m := by rw [hm]; simp
  rw [← hm] at hlen ⊢
  rw [hn] at hk hcl
  unfold maxLen at hcap
  obtain ⟨TY, hTY, hTYl⟩ := strV_text (mkTy n)
  obtain ⟨VL, hVL, hVLl⟩ := strV_text (mkVl S.data.toList n)
  obtain ⟨A1, hA1⟩ : ∃ A, w.alloc (.cells #[.int .i64 0, .string ⟨#[]⟩, .string ⟨#[]⟩, .slice none 0 0, .slice none 0 0] 25) = A := ⟨_, rfl⟩
  obtain ⟨A2, hA2⟩ : ∃ A, A1.alloc (.cells #[.int .i64 2, .string ⟨#[]⟩, .string ⟨#[]⟩, .slice none 0 0, .slice none 0 0] 25) = A := ⟨_, rfl⟩
  obtain ⟨A3, hA3⟩ : ∃ A, A2.alloc (.cells #[.string ⟨#[99, 110]⟩, .string ⟨#[115, 110]⟩, .string ⟨#[100, 101, 115, 99, 114, 105, 112, 116, 105, 111, 110]⟩, .string ⟨#[117, 105, 100, 78, 117, 109, 98, 101, 114]⟩, .string ⟨#[109, 97, 105, 108]⟩, .string ⟨#[111, 98, 106, 101, 99, 116, 67, 108, 97, 115, 115]⟩] 9) = A := ⟨_, rfl⟩
  obtain ⟨A4, hA4⟩ : ∃ A, A3.alloc (.cells #[.string ⟨#[110, 49]⟩, .string ⟨#[78, 50]⟩, .string S, .string ⟨#[53]⟩, .string ⟨#[100]⟩, .string ⟨#[112, 101, 114, 115, 111, 110]⟩] 9) = A := ⟨_, rfl⟩
  obtain ⟨x4, x6, hty, hvl, hb1, hb4, z1, z4⟩ := mk_rows w A1 A2 A3 A4 2 S n hA1 hA2 hA3 hA4
  obtain ⟨b, off, rfl, hcells, hbl⟩ := isC_all hC
  have hc0 : A1.cell? ⟨b, off, none⟩ = some (.int .u8 c.toNat) := (hb1.cell (p := ⟨b, off, none⟩) hbl).trans (by have := hcells 0 (by simp); simpa using this)
  have HA2 := Lib.hid hA2
  clear hA2
  rw [hTY] at hty
  rw [hVL] at hvl
  rw [hn] at hc0
  obtain ⟨k6, hk6⟩ : ∃ k, k = n / 8 % 6 := ⟨_, rfl⟩
  obtain ⟨v6, hv6⟩ : ∃ k, k = n / 16 % 6 := ⟨_, rfl⟩
  rw [← hk6] at hty
  rw [← hv6] at hvl
  have e8 : (n : Int) % 8 = 1 := by omega
  have e8' : Int.tmod (n : Int) 8 = 1 := by rw [Int.tmod_eq_emod_of_nonneg (by omega)]; omega
  have e6 : (n : Int) / 8 % 6 = (k6 : Int) := by omega
  have e16 : (n : Int) / 16 % 6 = (v6 : Int) := by omega
  have hk65 : k6 < 6 := by omega
  have hv65 : v6 < 6 := by omega
  have tw : IntKind.i64.wrap (n : Int) = (n : Int) := IntWalk.i64_in _ (by omega)
  have hl0 : (((m : Nat) : Int) == 0) = false := by simp; omega
  obtain ⟨ks, hks⟩ : ∃ ks : Nat → List FT, ks = kidsM (makeFu S.data.toList fu) (c :: r) (c.toNat / 60) := ⟨_, rfl⟩
  obtain ⟨rl, hrl⟩ : ∃ rl, rl = r.length := ⟨_, rfl⟩
  have hmr : m = rl + 1 := by rw [hm, hrl]; rfl
  subst hmr
  clear hl0
  have hl0 : ((rl : Int) + 1 == 0) = false := by simp; omega
  obtain ⟨i0, hi, hz0, hz1, hz2⟩ := info_parts infoF
  obtain ⟨k4, hk4⟩ : ∃ k, k = n / 24 % 4 := ⟨_, rfl⟩
  obtain ⟨q60, hq60⟩ : ∃ k, k = n / 60 := ⟨_, rfl⟩
  have e24 : (n : Int) / 24 % 4 = (k4 : Int) := by omega
  have e60 : (n : Int) / 60 = (q60 : Int) := by omega
  have hk44 : k4 < 4 := by omega
  have hq5 : q60 < 5 := by omega
  have hnd : r.length = rl := hrl.symm
  rw [← hks, hnd, hn, ← hk4]
  rw [hn, ← hq60] at hks
  have HKs := Lib.hid hks
  have HCells := Lib.hid hcells
  have HIh := Lib.hid ih
  have HRl := Lib.hid hrl
  have HBl := Lib.hid hbl
  have HTYl := Lib.hid hTYl
  have HFu := Lib.hid hfu
  have hm0 : MadeF w A1.heap.size 2 A4 (ks 0) (.slice none 0 0) := ⟨x4, x6, ⟨[], by rw [hks]; exact World.ownsRow_nil _ _ _ _, by rw [hks]; rfl⟩, hb4⟩
  have HM0 := Lib.hid hm0
  have HZ1 := Lib.hid z1
  have HZ4 := Lib.hid z4
  obtain ⟨g0, g1, g2, g3, g4⟩ := fl_cells x6
  clear hm0 hTYl hVLl hTY hVL x4 x6 hb1 hb4 z1 z4 hC hm hk6 hv6 hn hk hks hcells ih hrl hbl hfu hk4 hq60 hnd
  go_enter Tryd.func18, Tryd.ntmps18
  go_upto_region 5 with (fail)
  rw [HA2.out]
  go_wp2
  clear g0 g1 g2 g3 g4 e6 e16 e8 e8' hA1 hA3 hA4 hc0 hty hvl
  go_loopw [9] (fun i wr => ∃ (j : Nat) (v : Value), i = .int .i64 ((j : Int) + 1) ∧ j ≤ min rl k4 ∧ Hid (MadeF w A1.heap.size 2 wr (ks j) v) ∧ Hid (w.heap.size + 4 ≤ wr.heap.size)) (fun i _ => rl + 1 - (intOf i).toNat)
  case atStart => exact ⟨0, .slice none 0 0, rfl, Nat.zero_le _, HM0, Lib.hid (by rw [HZ4.out]; exact Nat.le_refl _)⟩
  case round =>
    obtain ⟨j, v, rfl, hjK, HM, HSz⟩ := hrel
    by_cases h1 : j < rl
    · have t1 : decide ((j : Int) < (rl : Int)) = true := by simp; omega
      have t1' : decide ((j : Int) + 1 < (rl : Int) + 1) = true := by simp; omega
      by_cases h2 : j + 1 ≤ k4
      · have t2 : decide ((j : Int) + 1 ≤ (k4 : Int)) = true := by simp; omega
        obtain ⟨hz, hb6, ⟨xs, hown, hels⟩, hbel⟩ := HM.out
        obtain ⟨ho, hhi⟩ : ∃ ho, ho = min (rl + 1) (j + 1 + q60 + 1) := ⟨_, rfl⟩
        have ew1 : IntKind.i64.wrap ((j : Int) + 1 + (q60 : Int)) = (j : Int) + 1 + (q60 : Int) := IntWalk.i64_in _ (by omega)
        have ew2 : IntKind.i64.wrap ((j : Int) + 1 + (q60 : Int) + 1) = (j : Int) + 1 + (q60 : Int) + 1 := IntWalk.i64_in _ (by omega)
        have em : min ((rl : Int) + 1) ((j : Int) + 1 + (q60 : Int) + 1) = (ho : Int) := by omega
        have ew0 : IntKind.i64.wrap (q60 : Int) = (q60 : Int) := IntWalk.i64_in _ (by omega)
        have em2 : max (ho : Int) 0 = (ho : Int) := by omega
        have ecj : ¬ cap = j + 1 := by omega
        have hhi1 : j + 1 ≤ ho := by omega
        have hhi2 : ho ≤ rl + 1 := by omega
        have hhi3 : ho ≤ cap := by omega
        have ei1 : (0 : Int) ≤ (j : Int) + 1 := by omega
        have ei2 : (j : Int) + 1 ≤ (ho : Int) := by omega
        have ei3 : (ho : Int) ≤ (cap : Int) := by omega
        have ei4 : ((j : Int) + 1).toNat = j + 1 := by omega
        obtain ⟨y0, y1, y2, hv⟩ := ownsRow_sliceF hown
        subst hv
        obtain ⟨L, hL⟩ : ∃ L, L = ((c :: r).drop (j + 1)).take (q60 + 1) := ⟨_, rfl⟩
        have hLl : L.length = ho - (j + 1) := by rw [hL]; simp; have := HRl.out; omega
        have hkl : (ks j).length = j := by rw [HKs.out]; exact kidsM_len _ _ _ j
        have hks1 : ks (j + 1) = ks j ++ [makeFu S.data.toList fu L] := by rw [HKs.out, hL]; rfl
        have hkb : ∀ w2, Below w.heap.size w w2 → Calls Tryd.prog 18 #[.slice (some ⟨b, off + (j + 1), none⟩) (ho - (j + 1)) (cap - (j + 1)), .string S] w2 fun e w' => ∃ v, e = .returned v ∧ IsFl (fun b => w2.heap.size ≤ b ∧ b < w'.heap.size) w' (makeFu S.data.toList fu L) v ∧ Below w2.heap.size w2 w' := by
          intro w2 hb2
          rw [← hLl]
          refine HIh.out L _ _ w2 (by have := HFu.out; have := HRl.out; omega) ⟨by omega, by unfold maxLen; omega, .inr ⟨b, off + (j + 1), rfl, Nat.lt_of_lt_of_le HBl.out hb2.size, fun i hi => ?_⟩⟩
          have hx2 : j + 1 + i < (c :: r).length := by have := HRl.out; simp; omega
          have he : L[i] = (c :: r)[j + 1 + i] := by simp only [hL, List.getElem_take, List.getElem_drop]
          have := (hb2.cell (p := ⟨b, off + (j + 1 + i), none⟩) HBl.out).trans (HCells.out (j + 1 + i) hx2)
          rw [he, Nat.add_assoc]; exact this
        have HKb := Lib.hid hkb
        have HBel := Lib.hid hbel
        have HOwn := Lib.hid hown
        have HEls := Lib.hid hels
        have HKs1 := Lib.hid hks1
        have HB6 := Lib.hid hb6
        obtain ⟨c0, c1, c2, c3, c4⟩ := fl_cells hb6
        obtain ⟨f0, f1, f2, f3, f4⟩ := fl_frozen hb6
        have hwlt : A1.heap.size < wr.heap.size := fl_lt hb6
        have hjK1 : j + 1 ≤ min rl k4 := by omega
        have HKl := Lib.hid hkl
        have hkj : (ks j).length ≤ 5 := by omega
        clear hhi hL hLl hkb hbel hz hb6 hown hels hkl hks1
        go_wp2_with fail
        go_region_law (first
          | (go_simp; go_at_call 18; refine (HKb.out wr.drew HBel.out.drew).mono ?_; rintro e w2 ⟨v2, rfl, hnew, hb2⟩; (obtain ⟨kk0, kT0, kX0, kpa, kpn, kpc, kka, kkn, kkc, hsh⟩ := hnew.shape); subst hsh; have hk2 := fl_below HB6.out ((Below.refl _ _).drew.trans hb2) hwlt; (obtain ⟨c0', c1', c2', c3', c4'⟩ := fl_cells hk2); (obtain ⟨f0', f1', f2', f3', f4'⟩ := fl_frozen hk2); have hw2 := fl_lt hk2; have hka := fl_below hk2 (box5 w2 (.int .i64 kk0) (.string kT0) (.string kX0) (.slice kpa kpn kpc) (.slice kka kkn kkc)) hw2; (obtain ⟨a0', a1', a2', a3', a4'⟩ := fl_cells hka); clear hka; have HB2 := Lib.hid ((Below.refl wr.heap.size wr).drew.trans hb2); have HNew := Lib.hid hnew; clear hb2 hnew hk2)
          | (refine step_append_lies _ (by rfl) _ _ _ (by rfl) (w.heap.size + 4) 25 i0 (.agg #[.int .i64 0, .string ⟨#[]⟩, .string ⟨#[]⟩, .slice none 0 0, .slice none 0 0]) 5 88 Tryd.underlying23 hi hz0 hz1 hz2 rfl (by omega) (.slice y0 y1 y2) (ks j).length xs (by rfl) (mid_anyF HOwn.out HEls.out HSz.out HB2.out HNew.out ((Below.refl _ _).alloc (Nat.le_refl _) _)).1 ⟨w2.heap.size, 0, none⟩ 1 1 [.int .i64 kk0, .string kT0, .string kX0, .slice kpa kpn kpc, .slice kka kkn kkc] (by rfl) (by rfl) (news5 _ _ _ _ _ _) (by intro u hu; simp at hu; rcases hu with rfl | rfl | rfl | rfl | rfl <;> rfl) (by omega) (by unfold maxLen; omega) (by omega) (by have := HB2.out.size; have := HSz.out; simp; omega) _ rfl ?_; intro gg gc w4 hown1 hgrow hat hlt; obtain ⟨hc4, hf4, hnx⟩ := nextKF HZ1.out HSz.out HM.out HOwn.out HEls.out HB2.out HNew.out ((Below.refl _ _).alloc (Nat.le_refl _) _) hown1 hgrow hat; have HNx := Lib.hid hnx; have HSz2 : Hid (w.heap.size + 4 ≤ w4.heap.size) := Lib.hid (by have := HSz.out; have := HB2.out.size; have := hgrow.size; simp at this; omega); clear hown1 hgrow hat hnx))
        all_goals
          go_wp2
          go_roundw
          case rel => exact ⟨j + 1, _, by go_num, by omega, by rw [HKs1.out]; exact HNx, Lib.hid (by rw [World.size_setCell]; exact HSz2.out)⟩
          case measure => simp [intOf]; omega
      · have t2 : decide ((j : Int) + 1 ≤ (k4 : Int)) = false := by simp; omega
        have hje : j = min rl k4 := by omega
        obtain ⟨hz, hb6, ⟨xs, hown, hels⟩, hbel⟩ := HM.out
        obtain ⟨y0, y1, y2, hv⟩ := ownsRow_sliceF hown
        subst hv
        obtain ⟨c0, c1, c2, c3, c4⟩ := fl_cells hb6
        obtain ⟨d0, d1, d2, d3, d4⟩ := fl_cells hz
        obtain ⟨q0, q1, q2, q3, q4⟩ := fl_frozen hz
        obtain ⟨r0, r1, r2, r3, r4⟩ := fl_cells (fl_set hz (.int .i64 2) (.string ⟨#[]⟩) (.string ⟨#[]⟩) (.slice none 0 0) (.slice y0 y1 y2))
        unfold set5F at r0 r1 r2 r3 r4
        have HBel := Lib.hid hbel
        have HJe := Lib.hid hje
        clear hz hb6 hown hels hbel hje
        go_wp2
        have hbz := fl_setB HBel.out (Nat.le_refl w.heap.size) (.int .i64 2) (.string ⟨#[]⟩) (.string ⟨#[]⟩) (.slice none 0 0) (.slice y0 y1 y2)
        refine bodyPost_ret (v := .agg #[.int .i64 2, .string ⟨#[]⟩, .string ⟨#[]⟩, .slice none 0 0, .slice y0 y1 y2]) (by simp [results, Tryd.results18, go_sem, r0, r1, r2, r3, r4]) rfl ⟨_, rfl, ?_, hbz⟩
        rw [← HJe.out]
        exact made_doneF HM.out HSz.out (by decide) (by rw [HKs.out, kidsM_len]; unfold maxLen; omega)
    · have t1 : decide ((j : Int) < (rl : Int)) = false := by simp; omega
      have t1' : decide ((j : Int) + 1 < (rl : Int) + 1) = false := by simp; omega
      have hje : j = min rl k4 := by omega
      obtain ⟨hz, hb6, ⟨xs, hown, hels⟩, hbel⟩ := HM.out
      obtain ⟨y0, y1, y2, hv⟩ := ownsRow_sliceF hown
      subst hv
      obtain ⟨c0, c1, c2, c3, c4⟩ := fl_cells hb6
      obtain ⟨d0, d1, d2, d3, d4⟩ := fl_cells hz
      obtain ⟨q0, q1, q2, q3, q4⟩ := fl_frozen hz
      obtain ⟨r0, r1, r2, r3, r4⟩ := fl_cells (fl_set hz (.int .i64 2) (.string ⟨#[]⟩) (.string ⟨#[]⟩) (.slice none 0 0) (.slice y0 y1 y2))
      unfold set5F at r0 r1 r2 r3 r4
      have HBel := Lib.hid hbel
      have HJe := Lib.hid hje
      clear hz hb6 hown hels hbel hje
      go_wp2
      have hbz := fl_setB HBel.out (Nat.le_refl w.heap.size) (.int .i64 2) (.string ⟨#[]⟩) (.string ⟨#[]⟩) (.slice none 0 0) (.slice y0 y1 y2)
      refine bodyPost_ret (v := .agg #[.int .i64 2, .string ⟨#[]⟩, .string ⟨#[]⟩, .slice none 0 0, .slice y0 y1 y2]) (by simp [results, Tryd.results18, go_sem, r0, r1, r2, r3, r4]) rfl ⟨_, rfl, ?_, hbz⟩
      rw [← HJe.out]
      exact made_doneF HM.out HSz.out (by decide) (by rw [HKs.out, kidsM_len]; unfold maxLen; omega)
end Go.Proofs.YtdcfmgnpjmpboaaDoor
