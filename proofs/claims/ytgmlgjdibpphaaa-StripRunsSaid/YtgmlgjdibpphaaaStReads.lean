/- StripReads: the walk. -/
import Derived.Test.YtgmlgjdibpphaaaStFalls
namespace Go.Proofs.Ytgmlgjdibpphaaa
open Go.RowKit
set_option linter.unusedVariables false
set_option linter.unusedSimpArgs false

theorem StA.keep {B b g : Nat} {w w' : World} {S : St} {lv : Value} (h : StA B b g w S lv) (hk : ∀ j, j = b ∨ j = g ∨ IsCh w j → w'.heap[j]? = w.heap[j]?) : StA B b g w' S lv := by
  refine ⟨h.hb, h.hg, (hk b (.inl rfl)).trans h.box, (hk g (.inr (.inl rfl))).trans h.blk, ⟨h.row.1, ?_⟩, h.ok, h.okc, h.most, h.few⟩
  rcases h.row.2 with h1 | ⟨k, cap, cur, h1, h2, h3, h4⟩
  · exact .inl h1
  · exact .inr ⟨k, cap, cur, h1, h2, (hk k (.inr (.inr ⟨_, _, h3⟩))).trans h3, h4⟩
/-- A strip that has nothing loose is as it was behind what another one does. -/
theorem StA.keepT {B b g B1 b1 g1 : Nat} {w w' : World} {S : St} (h : StA B b g w S (.slice none 0 0)) (ht : Tch B1 b1 g1 w w') (n1 : b ≠ b1) (n2 : b ≠ g1) (n3 : g ≠ b1) (n4 : g ≠ g1) : StA B b g w' S (.slice none 0 0) := by
  have hz : S.lo.length = 0 := by
    rcases h.row.2 with ⟨_, hz⟩ | ⟨k, cap, cur, h1, _⟩
    · exact hz
    · cases h1
  refine ⟨h.hb, h.hg, (ht.block b (Array.getElem?_eq_some_iff.1 h.box).1 n1 n2 (.inr (ne_ch h.box (by decide)))).trans h.box, (ht.block g (Array.getElem?_eq_some_iff.1 h.blk).1 n3 n4 (.inr (ne_ch h.blk (by decide)))).trans h.blk, ⟨h.row.1, .inl ⟨rfl, hz⟩⟩, h.ok, h.okc, h.most, h.few⟩
theorem StA.ltB {B b g : Nat} {w : World} {S : St} {lv : Value} (h : StA B b g w S lv) : b < w.heap.size ∧ g < w.heap.size := ⟨(Array.getElem?_eq_some_iff.1 h.box).1, (Array.getElem?_eq_some_iff.1 h.blk).1⟩
theorem ne_type {w : World} {j k : Nat} {cs ds : Array Value} {t u : TypeId} {fr gr : Nat × Nat} (h : w.heap[j]? = some (.cells cs t fr)) (h2 : w.heap[k]? = some (.cells ds u gr)) (ht : t ≠ u) : j ≠ k := fun e => by
  rw [e, h2] at h
  injection h with h
  injection h with _ h
  exact ht h.symm
def fR (s : ByteArray) : Blk := if s.size = 0 then zeroB else s.data.toList
theorem mk8S (w : World) : (Instr.makeSlice 40 (.int .i64 8) (.int .i64 8)).run Try.prog w = .ok (.slice (some ⟨w.heap.size, 0, none⟩) 8 8) (w.alloc (.cells ((List.replicate 8 (⟨#[]⟩ : ByteArray)).map Value.string).toArray 9)) := by kernel_rfl
theorem fR_zero : (List.replicate 8 (⟨#[]⟩ : ByteArray)).map fR = List.replicate 8 zeroB := by rfl
theorem fR_set (WL : List ByteArray) (k : Nat) (s : ByteArray) (hs : s.size = 32) : (WL.map fR).set k s.data.toList = (WL.set k s).map fR := by
  rw [List.map_set]
  congr 1
  unfold fR
  rw [if_neg (by omega)]
/-- Where StripReads stands: its two strips, what is wanted. -/
structure RdAt (B ba ga bb gb wb i : Nat) (WL : List ByteArray) (w : World) : Prop where
  a : ∃ lo ch lv, StA B ba ga w ⟨WL.map fR, lo, ch, 0, false⟩ lv ∧ lo.length ≤ i ∧ 0 ≤ ch ∧ ch ≤ 2 * i
  b : StA B bb gb w ⟨List.replicate 8 zeroB, [], 0, 0, false⟩ (.slice none 0 0)
  want : w.heap[wb]? = some (.cells (WL.map Value.string).toArray 9 (0, 0))
  len : WL.length = 8
  hw : B ≤ wb
  ne : bb ≠ ba ∧ bb ≠ ga ∧ gb ≠ ba ∧ gb ≠ ga
  ok : ∀ s ∈ WL, s.size = 0 ∨ s.size = 32
theorem RdAt.below {B ba ga bb gb wb i : Nat} {WL : List ByteArray} {w w' : World} (h : RdAt B ba ga bb gb wb i WL w) (hb : Below w.heap.size w w') : RdAt B ba ga bb gb wb i WL w' := by
  obtain ⟨lo, ch, lv, h1, h2⟩ := h.a
  exact ⟨⟨lo, ch, lv, h1.below hb, h2⟩, h.b.below hb, (hb.block _ (Array.getElem?_eq_some_iff.1 h.want).1).trans h.want, h.len, h.hw, h.ne, h.ok⟩
theorem RdAt.next {B ba ga bb gb wb i : Nat} {WL : List ByteArray} {w : World} (h : RdAt B ba ga bb gb wb i WL w) : RdAt B ba ga bb gb wb (i + 1) WL w := by
  obtain ⟨lo, ch, lv, h1, h2, h3, h4⟩ := h.a
  exact ⟨⟨lo, ch, lv, h1, by omega, h3, by omega⟩, h.b, h.want, h.len, h.hw, h.ne, h.ok⟩
theorem rd_tch {B ba ga bb gb wb i : Nat} {WL : List ByteArray} {w w' : World} (h : RdAt B ba ga bb gb wb i WL w) (ht : Tch B ba ga w w') : StA B bb gb w' ⟨List.replicate 8 zeroB, [], 0, 0, false⟩ (.slice none 0 0) ∧ w'.heap[wb]? = some (.cells (WL.map Value.string).toArray 9 (0, 0)) := by
  obtain ⟨lo, ch, lv, h1, h2⟩ := h.a
  exact ⟨h.b.keepT ht h.ne.1 h.ne.2.1 h.ne.2.2.1 h.ne.2.2.2, (ht.block wb (Array.getElem?_eq_some_iff.1 h.want).1 (ne_type h.want h1.box (by decide)) (ne_type h.want h1.blk (by decide)) (.inr (ne_ch h.want (by decide)))).trans h.want⟩
/-- want[k] = s -/
theorem rd_want {B ba ga bb gb wb i : Nat} {WL : List ByteArray} {w : World} (h : RdAt B ba ga bb gb wb i WL w) (k : Nat) (s : ByteArray) : (∃ lo ch lv, StA B ba ga (w.setCell ⟨wb, k, none⟩ (.string s)) ⟨WL.map fR, lo, ch, 0, false⟩ lv ∧ lo.length ≤ i ∧ 0 ≤ ch ∧ ch ≤ 2 * i) ∧ StA B bb gb (w.setCell ⟨wb, k, none⟩ (.string s)) ⟨List.replicate 8 zeroB, [], 0, 0, false⟩ (.slice none 0 0) ∧ (w.setCell ⟨wb, k, none⟩ (.string s)).heap[wb]? = some (.cells ((WL.set k s).map Value.string).toArray 9 (0, 0)) := by
  obtain ⟨lo, ch, lv, h1, h2⟩ := h.a
  have hk : ∀ j, j ≠ wb → (w.setCell ⟨wb, k, none⟩ (.string s)).heap[j]? = w.heap[j]? := fun j hj => heap_setCell_ne _ _ _ _ _ hj
  have hc : ∀ j, IsCh w j → j ≠ wb := fun j ⟨_, _, hj⟩ => ne_type hj h.want (by decide)
  refine ⟨⟨lo, ch, lv, h1.keep fun j hj => hk j ?_, h2⟩, h.b.keep fun j hj => hk j ?_, ?_⟩
  · rcases hj with rfl | rfl | hj
    · exact ne_type h1.box h.want (by decide)
    · exact ne_type h1.blk h.want (by decide)
    · exact hc j hj
  · rcases hj with rfl | rfl | hj
    · exact ne_type h.b.box h.want (by decide)
    · exact ne_type h.b.blk h.want (by decide)
    · exact hc j hj
  · rw [heap_setCell_same w wb k _ _ _ h.want, List.map_set]
    simp
/-- A write of what is wanted. -/
theorem rd_write {B ba ga bb gb wb i : Nat} {WL : List ByteArray} {w : World} (h : RdAt B ba ga bb gb wb i WL w) (hB : B ≤ w.heap.size) (hi : i < 40) (k : Nat) (hk : k < 8) (s : ByteArray) (hs : s.size = 32) :
    Calls Try.prog 13 #[.pointer (some ⟨ba, 0, none⟩), .int .i64 k, .string s] (w.setCell ⟨wb, k, none⟩ (.string s)) fun e w' => e = .returned (.int .i64 0) ∧ RdAt B ba ga bb gb wb (i + 1) (WL.set k s) w' ∧ (∃ lo ch lv, StA B ba ga w' ⟨(WL.set k s).map fR, lo, ch, 0, false⟩ lv ∧ 0 ≤ ch ∧ ch + 1 ≤ 2 * ((i + 1 : Nat) : Int)) ∧ Below B (w.setCell ⟨wb, k, none⟩ (.string s)) w' := by
  obtain ⟨⟨lo, ch, lv, h1, h2, h3, h4⟩, hb, hw⟩ := rd_want h k s
  have hsz : (w.setCell ⟨wb, k, none⟩ (.string s)).heap.size = w.heap.size := by simp [World.setCell]
  have hl := h.len
  refine (write_up h1 (by omega) h3 (by omega) (by omega) k (by simp; omega) s hs (by omega)).mono ?_
  rintro e w' ⟨lv', rfl, hs', ht⟩
  have hne1 := ne_type hw h1.box (by decide)
  have hne2 := ne_type hw h1.blk (by decide)
  refine ⟨rfl, ⟨⟨_, _, lv', by rw [← fR_set WL k s hs]; exact hs', by simp; omega, by omega, by omega⟩, hb.keepT ht h.ne.1 h.ne.2.1 h.ne.2.2.1 h.ne.2.2.2, (ht.block wb (Array.getElem?_eq_some_iff.1 hw).1 hne1 hne2 (.inr (ne_ch hw (by decide)))).trans hw, by simp [hl], h.hw, h.ne, fun x hx => ?_⟩, ⟨_, _, lv', by rw [← fR_set WL k s hs]; exact hs', by omega, by omega⟩, ht.below h1.hb h1.hg (by omega)⟩
  rcases List.mem_or_eq_of_mem_set hx with hx | rfl
  · exact h.ok x hx
  · exact .inr hs
theorem rd_sync {B ba ga bb gb wb i : Nat} {WL : List ByteArray} {w : World} (h : RdAt B ba ga bb gb wb i WL w) (hB : B ≤ w.heap.size) (hi : i ≤ 40) (hi2 : ∃ lo ch lv, StA B ba ga w ⟨WL.map fR, lo, ch, 0, false⟩ lv ∧ 0 ≤ ch ∧ ch + 1 ≤ 2 * (i : Int)) :
    Calls Try.prog 15 #[.pointer (some ⟨ba, 0, none⟩)] w fun e w' => e = .returned (.int .i64 0) ∧ RdAt B ba ga bb gb wb i WL w' ∧ (∃ ch lv, StA B ba ga w' ⟨WL.map fR, [], ch, 0, false⟩ lv) ∧ Below B w w' := by
  obtain ⟨lo, ch, lv, h1, h2, h3⟩ := hi2
  refine (sync_ok h1 hB h2 (by omega) (by omega)).mono ?_
  rintro e w' ⟨lv', rfl, hs', ht⟩
  obtain ⟨hb, hw⟩ := rd_tch h ht
  exact ⟨rfl, ⟨⟨[], _, lv', hs', by simp, by omega, by omega⟩, hb, hw, h.len, h.hw, h.ne, h.ok⟩, ⟨_, _, hs'⟩, ht.below h1.hb h1.hg hB⟩
theorem text_eta (s : ByteArray) : (⟨s.data.toList.toArray⟩ : ByteArray) = s := rfl
set_option maxRecDepth 100000 in
set_option maxHeartbeats 8000000 in
theorem stripReads_any (is : List UInt8) (a0 : Option Addr) (c0 : Nat) (ss : List Bool) (a1 : Option Addr) (c1 : Nat) (w : World) (hi : IsBS w.heap.size w is a0 c0) (hs : IsBoS w.heap.size w ss a1 c1) : Calls Try.prog 8 #[.slice a0 is.length c0, .slice a1 ss.length c1] w fun e w' => e = .returned (.bool true) ∧ Below w.heap.size w w' := by
  obtain ⟨n, hn⟩ : ∃ n, n = is.length := ⟨_, rfl⟩
  obtain ⟨m, hm⟩ : ∃ m, m = ss.length := ⟨_, rfl⟩
  have HAw := Lib.hid (fun W => awake16_any W)
  have HN := Lib.hid hn
  have HM := Lib.hid hm
  have HI := Lib.hid hi
  have HS := Lib.hid hs
  rw [← hn, ← hm]
  clear hn hm hi hs
  by_cases hbig : 40 < n
  · have t1 : decide ((n : Int) > 40) = true := by simp; omega
    have t1' : decide (40 < (n : Int)) = true := by simp; omega
    have t1'' : decide (40 < n) = true := by simpa using hbig
    go_enter Try.func8, Try.ntmps8
    go_wp2_with (go_at_call 9; refine (HAw.out _).mono ?_; rintro e w9 ⟨rfl, hb9⟩; have HB9 := Lib.hid hb9; clear hb9)
    go_ret
    exact ⟨rfl, HB9.out⟩
  · have t1 : decide ((n : Int) > 40) = false := by simp; omega
    have t1' : decide (40 < (n : Int)) = false := by simp; omega
    have t1'' : decide (40 < n) = false := by simpa using hbig
    by_cases hbig2 : 40 < m
    · have t2 : decide ((m : Int) > 40) = true := by simp; omega
      have t2' : decide (40 < (m : Int)) = true := by simp; omega
      have t2'' : decide (40 < m) = true := by simpa using hbig2
      go_enter Try.func8, Try.ntmps8
      go_wp2_with (go_at_call 9; refine (HAw.out _).mono ?_; rintro e w9 ⟨rfl, hb9⟩; have HB9 := Lib.hid hb9; clear hb9)
      go_ret
      exact ⟨rfl, HB9.out⟩
    · have t2 : decide ((m : Int) > 40) = false := by simp; omega
      have t2' : decide (40 < (m : Int)) = false := by simp; omega
      have t2'' : decide (40 < m) = false := by simpa using hbig2
      have HN3 : Hid (n ≤ 40) := Lib.hid (by omega)
      have HM3 : Hid (m ≤ 40) := Lib.hid (by omega)
      have HNew := Lib.hid (fun W => new_any 8 0 0 0 W)
      rw [show nB 8 = 8 from by decide] at HNew
      have HNum := Lib.hid num_any
      have HBk := Lib.hid (fun (b : UInt8) W => block_any b W)
      obtain ⟨z0, hz0⟩ : ∃ z : ByteArray, z = ⟨zeroB.toArray⟩ := ⟨_, rfl⟩
      obtain ⟨Z, hZ⟩ : ∃ Z, Z = (List.replicate 32 (byteV 0)).toArray := ⟨_, rfl⟩
      obtain ⟨Y, hY⟩ : ∃ Y, Y = ((List.replicate 8 (⟨#[]⟩ : ByteArray)).map Value.string).toArray := ⟨_, rfl⟩
      have hmk := mk32
      rw [← hZ] at hmk
      have hcv := conv_zero Z hZ
      rw [← hz0] at hcv
      have hmk8 := mk8S
      rw [← hY] at hmk8
      have HZ := Lib.hid hz0
      have HY := Lib.hid hY
      clear hbig hbig2 hz0 hZ hY
      have tok : Hid ((0 : Nat) = 0) := Lib.hid rfl
      go_enter Try.func8, Try.ntmps8
      go_upto_region 7 with (first
        | (go_at_call 10; (have tk := tok; clear tok); refine (HNew.out _).mono ?_; rintro e w1 ⟨ba, ga, rfl, hs1, hb1⟩; have HS1 := Lib.hid hs1; have HB1 := Lib.hid hb1; clear hs1 hb1)
        | (go_at_call 10; refine (HNew.out _).mono ?_; rintro e w2 ⟨bb, gb, rfl, hs2, hb2⟩; have HS2 := Lib.hid hs2; have HB2 := Lib.hid hb2; clear hs2 hb2))
      obtain ⟨W3, hW3⟩ : ∃ X, X = w2.alloc (.cells Y 9) := ⟨_, rfl⟩
      obtain ⟨wb, hwb⟩ : ∃ k, k = w2.heap.size := ⟨_, rfl⟩
      have hb3 : Below w2.heap.size w2 W3 := by rw [hW3]; exact (Below.refl _ _).alloc (Nat.le_refl _) _
      have hb1w := HB1.out
      have hl1 := HS1.out.ltB
      have hat : RdAt w.heap.size ba ga bb gb wb 0 (List.replicate 8 ⟨#[]⟩) W3 := by
        have hb2 := HS2.out.hb
        have hg2 := HS2.out.hg
        refine ⟨⟨[], 0, .slice none 0 0, ?_, Nat.le_refl _, Int.le_refl _, Int.le_refl _⟩, ?_, ?_, rfl, ?_, ⟨by omega, by omega, by omega, by omega⟩, fun s hs => .inl (by rw [(List.mem_replicate.1 hs).2]; rfl)⟩
        · rw [fR_zero]
          exact (HS1.out.below HB2.out).below hb3
        · have h9 := HS2.out.below hb3
          exact ⟨Nat.le_trans HB1.out.size h9.hb, Nat.le_trans HB1.out.size h9.hg, h9.box, h9.blk, World.ownsRow_nil _ _ _ _, h9.ok, h9.okc, h9.most, h9.few⟩
        · rw [hW3, ← HY.out, hwb]
          exact heap_alloc_new w2 _
        · rw [hwb]
          exact Nat.le_trans HB1.out.size HB2.out.size
      have HAt := Lib.hid hat
      have HB3 := Lib.hid (bthenS HB1.out (bthenS HB2.out hb3))
      have HW3 := Lib.hid hW3.symm
      rw [HW3.out, ← hwb]
      clear hat hb3 hb1w hl1 hW3 hwb HS1 HS2 HW3
      go_upto_region 8 with (fail)
      obtain ⟨W4, hW4⟩ : ∃ X, X = W3.alloc (.cells Z 5) := ⟨_, rfl⟩
      have hb4 : Below W3.heap.size W3 W4 := by rw [hW4]; exact (Below.refl _ _).alloc (Nat.le_refl _) _
      have HAt4 := Lib.hid (HAt.out.below hb4)
      have HB4 := Lib.hid (bthenS HB3.out hb4)
      have HW4 := Lib.hid hW4.symm
      rw [HW4.out]
      clear hb4 hW4 HW4 HAt HB3 hcv hmk hmk8
      go_wp2
      go_loopw [9] (fun iv wr => ∃ (i : Nat) (WL : List ByteArray), i ≤ n ∧ iv = .int .i64 i ∧ Hid (RdAt w.heap.size ba ga bb gb wb i WL wr) ∧ Hid (Below w.heap.size w wr)) (fun iv wr => n - (intOf iv).toNat)
      case atStart => exact ⟨0, _, by omega, rfl, HAt4, HB4⟩
      case round =>
        obtain ⟨i, WL, hin, rfl, HA, HB⟩ := hrel
        rename World => wr
        by_cases hlt : i < n
        · have r1 : decide ((i : Int) < (n : Int)) = true := by simp; omega
          have r1' : decide (i < n) = true := by simpa using hlt
          have u0 : (0 : Int) ≤ (i : Int) := by omega
          have u1 : (i : Int) < (n : Int) := by omega
          have hil : i < is.length := by rw [← HN.out]; exact hlt
          obtain ⟨_, hne | ⟨ab, off, ha, hab, hcell⟩⟩ := HI.out.below HB.out
          · rw [hne] at hil; cases hil
          subst ha
          have c1 := hcell i hil
          obtain ⟨x, hx⟩ : ∃ x, x = is[i] := ⟨_, rfl⟩
          rw [← hx] at c1
          obtain ⟨k, hk⟩ : ∃ k, k = x.toNat % 8 := ⟨_, rfl⟩
          have hk8 : k < 8 := by omega
          have hx8 := x.toNat_lt
          have w1 : IntKind.i64.wrap (x.toNat : Int) = (x.toNat : Int) := IntWalk.i64_in _ (by omega)
          have w2x : Int.tmod (x.toNat : Int) 8 = (k : Int) := by rw [Int.tmod_eq_emod_of_nonneg (by omega)]; omega
          have w9 : IntKind.i64.wrap ((i : Int) + 1) = (i : Int) + 1 := IntWalk.i64_in _ (by have := HN3.out; omega)
          have k0 : (0 : Int) ≤ (k : Int) := by omega
          have k1 : (k : Int) < 8 := by omega
          obtain ⟨sb, hsb⟩ : ∃ s : ByteArray, s = ⟨(blockB x).toArray⟩ := ⟨_, rfl⟩
          have hss : sb.size = 32 := by rw [← bytes_len, hsb]; exact blockB_len _
          have HBk2 := Lib.hid (fun W => HBk.out x W)
          rw [← hsb] at HBk2
          have HWr := Lib.hid (fun (W : World) (h : RdAt w.heap.size ba ga bb gb wb i WL W) (hB : w.heap.size ≤ W.heap.size) => rd_write h hB (by have := HN3.out; omega) k hk8 sb hss)
          have HC := Lib.hid hcell
          clear hx hsb hss hk hab hcell
          have HH : ∀ W, RdAt w.heap.size ba ga bb gb wb i WL W → (∃ u, W.cell? ⟨wb, k, none⟩ = some u) ∧ W.frozen? ⟨wb, k, none⟩ = false ∧ (W.setCell ⟨wb, k, none⟩ (.string sb)).cell? ⟨wb, k, none⟩ = some (.string sb) := fun W h => by
            have h2 := (rd_want h k sb).2.2
            have hl := h.len
            refine ⟨⟨.string (WL[k]'(by omega)), ?_⟩, free_box h.want k, ?_⟩
            · simp [World.cell?, h.want, hl, hk8]
            · simp [World.cell?, h2, hl, hk8]
          have H12 := Lib.hid HH
          have HWb := Lib.hid HA.out.hw
          clear HH
          by_cases hm : i < m
          · have s1 : decide ((i : Int) < (m : Int)) = true := by simp; omega
            have s1' : decide (i < m) = true := by simpa using hm
            have u2 : (i : Int) < (m : Int) := by omega
            have hjl : i < ss.length := by rw [← HM.out]; exact hm
            obtain ⟨_, hne2 | ⟨sbk, soff, hsa, hsbk, hscell⟩⟩ := HS.out
            · rw [hne2] at hjl; cases hjl
            subst hsa
            have hsc := hscell i hjl
            have HSc := Lib.hid (fun W (hb : Below w.heap.size w W) => (hb.cell (p := ⟨sbk, soff + i, none⟩) hsbk).trans hsc)
            obtain ⟨y, hy⟩ : ∃ y, y = ss[i] := ⟨_, rfl⟩
            simp only [← hy] at HSc
            clear hsc hscell hsbk hy
            go_upto_region 15 with (first
              | (go_at_call 26; refine (HBk2.out _).mono ?_; rintro e w6 ⟨rfl, hb6⟩; have HA6 := Lib.hid (HA.out.below hb6); have HB6 := Lib.hid (bthenS HB.out hb6); (obtain ⟨⟨u9, d1⟩, d2, d3⟩ := H12.out _ HA6.out); clear hb6)
              | (go_at_call 13; refine (HWr.out _ HA6.out HB6.out.size).mono ?_; rintro e w8 ⟨rfl, ha8, hy8, hb8⟩; have HA8 := Lib.hid ha8; have HY8 := Lib.hid hy8; have HB8 := Lib.hid ((HB6.out.setCell (p := ⟨wb, k, none⟩) HWb.out (.string sb)).trans hb8); clear ha8 hy8 hb8)
              | (go_at_call 12; refine (HNum.out _ _).mono ?_; rintro e w7 ⟨rfl, hw⟩; replace hw := hw.symm; subst hw))
            have e1 := HSc.out _ HB8.out
            cases y
            · go_upto_region 17 with (fail)
              have HAz := HA8
              have HBz := HB8
              obtain ⟨WL2, hWL2⟩ : ∃ X, X = WL.set k sb := ⟨_, rfl⟩
              rw [← hWL2] at HAz
              clear hWL2
              go_wp2
              go_loopw [11] (fun jv wy => ∃ j : Nat, j ≤ 8 ∧ jv = .int .i64 j ∧ Hid (Below w8.heap.size w8 wy)) (fun jv wy => 8 - (intOf jv).toNat)
              case atStart => exact ⟨0, by omega, rfl, Lib.hid (Below.refl _ _)⟩
              case round =>
                obtain ⟨j, hj, rfl, HBy⟩ := hrel
                rename World => wy
                have HAy := Lib.hid (HAz.out.below HBy.out)
                have HBw := Lib.hid (bthenS HBz.out HBy.out)
                by_cases hj8 : j < 8
                · have g1 : decide ((j : Int) < 8) = true := by simp; omega
                  have g1' : decide (j < 8) = true := by simpa using hj8
                  have v0 : (0 : Int) ≤ (j : Int) := by omega
                  have v1 : (j : Int) < 8 := by omega
                  have w8 : IntKind.i64.wrap ((j : Int) + 1) = (j : Int) + 1 := IntWalk.i64_in _ (by omega)
                  have hl := HAy.out.len
                  obtain ⟨s, hs⟩ : ∃ s, WL2[j]? = some s := ⟨_, List.getElem?_eq_getElem (by omega)⟩
                  have hsok := HAy.out.ok s (List.mem_of_getElem? hs)
                  have cj : wy.cell? ⟨wb, j, none⟩ = some (.string s) := by simp [World.cell?, HAy.out.want, hs]
                  obtain ⟨lo, ch, lv, hsta, _⟩ := HAy.out.a
                  have hra := read_in hsta j (fR s) (by rw [List.getElem?_map, hs]; rfl)
                  have hrb := read_in HAy.out.b j zeroB (by rw [List.getElem?_replicate, if_pos hj8])
                  rw [← HZ.out] at hrb
                  have HRb := Lib.hid hrb
                  have tok : Hid ((0 : Nat) = 0) := Lib.hid rfl
                  clear hrb hsta hl hs
                  rcases hsok with h0 | h32
                  · obtain rfl : s = ⟨#[]⟩ := bytes_extS (by have := bytes_len s; rw [h0] at this; exact (List.eq_nil_of_length_eq_zero this).trans rfl)
                    rw [show (⟨(fR ⟨#[]⟩).toArray⟩ : ByteArray) = z0 from by rw [HZ.out]; rfl] at hra
                    have HRa := Lib.hid hra
                    clear hra h0
                    go_wp2_with (first
                      | (go_at_call 24; (have tk := tok; clear tok); refine HRa.out.mono ?_; rintro e w7 ⟨rfl, hw⟩; replace hw := hw.symm; subst hw)
                      | (go_at_call 24; refine HRb.out.mono ?_; rintro e w7 ⟨rfl, hw⟩; replace hw := hw.symm; subst hw)
                      | (go_at_call 12; refine (HNum.out _ _).mono ?_; rintro e w7 ⟨rfl, hw⟩; replace hw := hw.symm; subst hw))
                    go_roundw
                    case rel => exact ⟨j + 1, by omega, by go_num, HBy⟩
                    case measure => simp [intOf]; omega
                  · have hfs : (⟨(fR s).toArray⟩ : ByteArray) = s := by
                      unfold fR
                      rw [if_neg (by omega)]
                    have hne : (s.toList == []) = false := by
                      have h9 := bytes_len s
                      rw [h32] at h9
                      cases hc : s.toList with
                      | nil => rw [ByteArray.toList_eq] at hc; rw [hc] at h9; cases h9
                      | cons _ _ => rfl
                    rw [hfs] at hra
                    have HRa := Lib.hid hra
                    clear hra h32 hfs
                    go_wp2_with (first
                      | (go_at_call 24; (have tk := tok; clear tok); refine HRa.out.mono ?_; rintro e w7 ⟨rfl, hw⟩; replace hw := hw.symm; subst hw)
                      | (go_at_call 24; refine HRb.out.mono ?_; rintro e w7 ⟨rfl, hw⟩; replace hw := hw.symm; subst hw)
                      | (go_at_call 12; refine (HNum.out _ _).mono ?_; rintro e w7 ⟨rfl, hw⟩; replace hw := hw.symm; subst hw))
                    go_roundw
                    case rel => exact ⟨j + 1, by omega, by go_num, HBy⟩
                    case measure => simp [intOf]; omega
                · obtain rfl : j = 8 := by omega
                  have g1 : decide ((8 : Int) < (8 : Int)) = false := by simp
                  go_wp2
                  go_roundw
                  case rel => exact ⟨i + 1, WL2, by omega, by go_num, HAy, HBw⟩
                  case measure => simp [intOf]; omega
            · go_upto_region 17 with (first
                | (go_at_call 15; refine (rd_sync HA8.out HB8.out.size (by have := HN3.out; omega) HY8.out).mono ?_; rintro e w9 ⟨rfl, ha9, hl9, hb9⟩; have HA9 := Lib.hid ha9; have HL9 := Lib.hid hl9; have HB9 := Lib.hid (HB8.out.trans hb9); clear ha9 hl9 hb9)
                | (go_at_call 22; (obtain ⟨ch9, lv9, hst9⟩ := HL9.out); refine (loose_any hst9).mono ?_; rintro e w7 ⟨rfl, hw⟩; replace hw := hw.symm; subst hw)
                | (go_at_call 12; refine (HNum.out _ _).mono ?_; rintro e w7 ⟨rfl, hw⟩; replace hw := hw.symm; subst hw))
              have HAz := HA9
              have HBz := HB9
              obtain ⟨WL2, hWL2⟩ : ∃ X, X = WL.set k sb := ⟨_, rfl⟩
              rw [← hWL2] at HAz
              clear hWL2
              go_wp2
              go_loopw [11] (fun jv wy => ∃ j : Nat, j ≤ 8 ∧ jv = .int .i64 j ∧ Hid (Below w9.heap.size w9 wy)) (fun jv wy => 8 - (intOf jv).toNat)
              case atStart => exact ⟨0, by omega, rfl, Lib.hid (Below.refl _ _)⟩
              case round =>
                obtain ⟨j, hj, rfl, HBy⟩ := hrel
                rename World => wy
                have HAy := Lib.hid (HAz.out.below HBy.out)
                have HBw := Lib.hid (bthenS HBz.out HBy.out)
                by_cases hj8 : j < 8
                · have g1 : decide ((j : Int) < 8) = true := by simp; omega
                  have g1' : decide (j < 8) = true := by simpa using hj8
                  have v0 : (0 : Int) ≤ (j : Int) := by omega
                  have v1 : (j : Int) < 8 := by omega
                  have w8 : IntKind.i64.wrap ((j : Int) + 1) = (j : Int) + 1 := IntWalk.i64_in _ (by omega)
                  have hl := HAy.out.len
                  obtain ⟨s, hs⟩ : ∃ s, WL2[j]? = some s := ⟨_, List.getElem?_eq_getElem (by omega)⟩
                  have hsok := HAy.out.ok s (List.mem_of_getElem? hs)
                  have cj : wy.cell? ⟨wb, j, none⟩ = some (.string s) := by simp [World.cell?, HAy.out.want, hs]
                  obtain ⟨lo, ch, lv, hsta, _⟩ := HAy.out.a
                  have hra := read_in hsta j (fR s) (by rw [List.getElem?_map, hs]; rfl)
                  have hrb := read_in HAy.out.b j zeroB (by rw [List.getElem?_replicate, if_pos hj8])
                  rw [← HZ.out] at hrb
                  have HRb := Lib.hid hrb
                  have tok : Hid ((0 : Nat) = 0) := Lib.hid rfl
                  clear hrb hsta hl hs
                  rcases hsok with h0 | h32
                  · obtain rfl : s = ⟨#[]⟩ := bytes_extS (by have := bytes_len s; rw [h0] at this; exact (List.eq_nil_of_length_eq_zero this).trans rfl)
                    rw [show (⟨(fR ⟨#[]⟩).toArray⟩ : ByteArray) = z0 from by rw [HZ.out]; rfl] at hra
                    have HRa := Lib.hid hra
                    clear hra h0
                    go_wp2_with (first
                      | (go_at_call 24; (have tk := tok; clear tok); refine HRa.out.mono ?_; rintro e w7 ⟨rfl, hw⟩; replace hw := hw.symm; subst hw)
                      | (go_at_call 24; refine HRb.out.mono ?_; rintro e w7 ⟨rfl, hw⟩; replace hw := hw.symm; subst hw)
                      | (go_at_call 12; refine (HNum.out _ _).mono ?_; rintro e w7 ⟨rfl, hw⟩; replace hw := hw.symm; subst hw))
                    go_roundw
                    case rel => exact ⟨j + 1, by omega, by go_num, HBy⟩
                    case measure => simp [intOf]; omega
                  · have hfs : (⟨(fR s).toArray⟩ : ByteArray) = s := by
                      unfold fR
                      rw [if_neg (by omega)]
                    have hne : (s.toList == []) = false := by
                      have h9 := bytes_len s
                      rw [h32] at h9
                      cases hc : s.toList with
                      | nil => rw [ByteArray.toList_eq] at hc; rw [hc] at h9; cases h9
                      | cons _ _ => rfl
                    rw [hfs] at hra
                    have HRa := Lib.hid hra
                    clear hra h32 hfs
                    go_wp2_with (first
                      | (go_at_call 24; (have tk := tok; clear tok); refine HRa.out.mono ?_; rintro e w7 ⟨rfl, hw⟩; replace hw := hw.symm; subst hw)
                      | (go_at_call 24; refine HRb.out.mono ?_; rintro e w7 ⟨rfl, hw⟩; replace hw := hw.symm; subst hw)
                      | (go_at_call 12; refine (HNum.out _ _).mono ?_; rintro e w7 ⟨rfl, hw⟩; replace hw := hw.symm; subst hw))
                    go_roundw
                    case rel => exact ⟨j + 1, by omega, by go_num, HBy⟩
                    case measure => simp [intOf]; omega
                · obtain rfl : j = 8 := by omega
                  have g1 : decide ((8 : Int) < (8 : Int)) = false := by simp
                  go_wp2
                  go_roundw
                  case rel => exact ⟨i + 1, WL2, by omega, by go_num, HAy, HBw⟩
                  case measure => simp [intOf]; omega
          · have s1 : decide ((i : Int) < (m : Int)) = false := by simp; omega
            have s1' : decide (i < m) = false := by simpa using hm
            go_upto_region 17 with (first
              | (go_at_call 26; refine (HBk2.out _).mono ?_; rintro e w6 ⟨rfl, hb6⟩; have HA6 := Lib.hid (HA.out.below hb6); have HB6 := Lib.hid (bthenS HB.out hb6); (obtain ⟨⟨u9, d1⟩, d2, d3⟩ := H12.out _ HA6.out); clear hb6)
              | (go_at_call 13; refine (HWr.out _ HA6.out HB6.out.size).mono ?_; rintro e w8 ⟨rfl, ha8, hy8, hb8⟩; have HA8 := Lib.hid ha8; have HY8 := Lib.hid hy8; have HB8 := Lib.hid ((HB6.out.setCell (p := ⟨wb, k, none⟩) HWb.out (.string sb)).trans hb8); clear ha8 hy8 hb8)
              | (go_at_call 12; refine (HNum.out _ _).mono ?_; rintro e w7 ⟨rfl, hw⟩; replace hw := hw.symm; subst hw))
            have HAz := HA8
            have HBz := HB8
            obtain ⟨WL2, hWL2⟩ : ∃ X, X = WL.set k sb := ⟨_, rfl⟩
            rw [← hWL2] at HAz
            clear hWL2
            go_wp2
            go_loopw [11] (fun jv wy => ∃ j : Nat, j ≤ 8 ∧ jv = .int .i64 j ∧ Hid (Below w8.heap.size w8 wy)) (fun jv wy => 8 - (intOf jv).toNat)
            case atStart => exact ⟨0, by omega, rfl, Lib.hid (Below.refl _ _)⟩
            case round =>
              obtain ⟨j, hj, rfl, HBy⟩ := hrel
              rename World => wy
              have HAy := Lib.hid (HAz.out.below HBy.out)
              have HBw := Lib.hid (bthenS HBz.out HBy.out)
              by_cases hj8 : j < 8
              · have g1 : decide ((j : Int) < 8) = true := by simp; omega
                have g1' : decide (j < 8) = true := by simpa using hj8
                have v0 : (0 : Int) ≤ (j : Int) := by omega
                have v1 : (j : Int) < 8 := by omega
                have w8 : IntKind.i64.wrap ((j : Int) + 1) = (j : Int) + 1 := IntWalk.i64_in _ (by omega)
                have hl := HAy.out.len
                obtain ⟨s, hs⟩ : ∃ s, WL2[j]? = some s := ⟨_, List.getElem?_eq_getElem (by omega)⟩
                have hsok := HAy.out.ok s (List.mem_of_getElem? hs)
                have cj : wy.cell? ⟨wb, j, none⟩ = some (.string s) := by simp [World.cell?, HAy.out.want, hs]
                obtain ⟨lo, ch, lv, hsta, _⟩ := HAy.out.a
                have hra := read_in hsta j (fR s) (by rw [List.getElem?_map, hs]; rfl)
                have hrb := read_in HAy.out.b j zeroB (by rw [List.getElem?_replicate, if_pos hj8])
                rw [← HZ.out] at hrb
                have HRb := Lib.hid hrb
                have tok : Hid ((0 : Nat) = 0) := Lib.hid rfl
                clear hrb hsta hl hs
                rcases hsok with h0 | h32
                · obtain rfl : s = ⟨#[]⟩ := bytes_extS (by have := bytes_len s; rw [h0] at this; exact (List.eq_nil_of_length_eq_zero this).trans rfl)
                  rw [show (⟨(fR ⟨#[]⟩).toArray⟩ : ByteArray) = z0 from by rw [HZ.out]; rfl] at hra
                  have HRa := Lib.hid hra
                  clear hra h0
                  go_wp2_with (first
                    | (go_at_call 24; (have tk := tok; clear tok); refine HRa.out.mono ?_; rintro e w7 ⟨rfl, hw⟩; replace hw := hw.symm; subst hw)
                    | (go_at_call 24; refine HRb.out.mono ?_; rintro e w7 ⟨rfl, hw⟩; replace hw := hw.symm; subst hw)
                    | (go_at_call 12; refine (HNum.out _ _).mono ?_; rintro e w7 ⟨rfl, hw⟩; replace hw := hw.symm; subst hw))
                  go_roundw
                  case rel => exact ⟨j + 1, by omega, by go_num, HBy⟩
                  case measure => simp [intOf]; omega
                · have hfs : (⟨(fR s).toArray⟩ : ByteArray) = s := by
                    unfold fR
                    rw [if_neg (by omega)]
                  have hne : (s.toList == []) = false := by
                    have h9 := bytes_len s
                    rw [h32] at h9
                    cases hc : s.toList with
                    | nil => rw [ByteArray.toList_eq] at hc; rw [hc] at h9; cases h9
                    | cons _ _ => rfl
                  rw [hfs] at hra
                  have HRa := Lib.hid hra
                  clear hra h32 hfs
                  go_wp2_with (first
                    | (go_at_call 24; (have tk := tok; clear tok); refine HRa.out.mono ?_; rintro e w7 ⟨rfl, hw⟩; replace hw := hw.symm; subst hw)
                    | (go_at_call 24; refine HRb.out.mono ?_; rintro e w7 ⟨rfl, hw⟩; replace hw := hw.symm; subst hw)
                    | (go_at_call 12; refine (HNum.out _ _).mono ?_; rintro e w7 ⟨rfl, hw⟩; replace hw := hw.symm; subst hw))
                  go_roundw
                  case rel => exact ⟨j + 1, by omega, by go_num, HBy⟩
                  case measure => simp [intOf]; omega
              · obtain rfl : j = 8 := by omega
                have g1 : decide ((8 : Int) < (8 : Int)) = false := by simp
                go_wp2
                go_roundw
                case rel => exact ⟨i + 1, WL2, by omega, by go_num, HAy, HBw⟩
                case measure => simp [intOf]; omega
        · obtain rfl : i = n := by omega
          have r1 : decide ((i : Int) < (i : Int)) = false := by simp
          have r1' : decide (i < i) = false := by simp
          go_wp2_with (go_at_call 9; refine (HAw.out _).mono ?_; rintro e w9 ⟨rfl, hb9⟩; have HB9 := Lib.hid (bthenS HB.out hb9); clear hb9)
          go_ret
          exact ⟨rfl, HB9.out⟩
end Go.Proofs.Ytgmlgjdibpphaaa
