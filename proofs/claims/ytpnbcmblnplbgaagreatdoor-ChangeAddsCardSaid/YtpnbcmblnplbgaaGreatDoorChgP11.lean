/- Several texts in one file: ScDocB, ScDocC, ScDocD, ScDocG. -/
import Derived.Test.YtpnbcmblnplbgaaGreatDoorChgP10
import Derived.Deep.RegionHeld3
import Derived.Deep.CutRange
import Derived.Test.YtpnbcmblnplbgaaGreatDoorChgP5
import Derived.Deep.AppendSrc
namespace Go.Proofs.YtpnbcmblnplbgaaGreatDoor
open Go.RowKit
set_option linter.unusedVariables false

def AttrsR (L : List AT) (c : Int) : Prop := (c = 0 ∧ SndAt L L.length) ∨ (c ≠ 0 ∧ soundR [] L = .error c)
def BoxQ (w : World) (b : Nat) (x : ByteArray) (u : Value) : Prop := w.heap[b]? = some (.cells #[.string x, u] 56 (0, 0))
theorem BoxQ.cells {w : World} {b : Nat} {x : ByteArray} {u : Value} (h : BoxQ w b x u) : w.cell? ⟨b, 0, none⟩ = some (.string x) ∧ w.cell? ⟨b, 1, none⟩ = some u := by
  unfold BoxQ at h
  simp [World.cell?, h]
theorem World_drew_below {w w' : World} (h : Below w.drew.heap.size w.drew w') : Below w.heap.size w w' := (Below.refl w.heap.size w).drew.trans h
theorem attrP_dup {L : List AT} {j : Nat} {x : List UInt8} {I : Int} (h : AttrP L x I) {k : Nat} (hk : k < L.length) (hkj : k < j) (he : low L[k].1 = low x) : I < (j : Int) := by
  rcases h with ⟨q, hq, rfl, h1, h2⟩ | ⟨rfl, h2⟩
  · by_cases hqj : q ≤ k
    · omega
    · have := h2 k hk (by omega)
      rw [he] at this
      simp at this
  · omega
theorem attrP_no {L : List AT} {j : Nat} {x : List UInt8} {I : Int} (h : AttrP L x I) (hj : j < L.length) (hx : low L[j].1 = low x) (hno : ∀ k (hk : k < L.length), k < j → low L[k].1 ≠ low x) : ¬ I < (j : Int) := by
  rcases h with ⟨q, hq, rfl, h1, h2⟩ | ⟨rfl, h2⟩
  · intro hlt
    exact hno q hq (by omega) (by simpa using h1)
  · have := h2 j hj
    rw [hx] at this
    simp at this

set_option maxRecDepth 100000 in
set_option maxHeartbeats 8000000 in
theorem attrsRef_any (D : ByteArray) (L : List AT) (hs : smallA L) (v : Value) (w : World) (h : IsA w.heap.size w L v) :
    Calls Tryz.prog 49 #[.agg #[.string D, v]] w fun e w' => ∃ c, e = .returned (.int .i64 c) ∧ AttrsR L c ∧ Below w.heap.size w w' := by
  obtain ⟨a, c, hv, hm, hcell⟩ := id h
  obtain ⟨n, hn⟩ : ∃ n, n = L.length := ⟨_, rfl⟩
  rw [← hn] at hv hm
  subst hv
  unfold maxLen at hm
  obtain ⟨W0, hW0⟩ : ∃ W0, W0 = w.alloc (.cells #[.string D, .slice a n c] 27) := ⟨_, rfl⟩
  have hB0 : Below w.heap.size w W0 := by rw [hW0]; exact (Below.refl _ _).alloc (Nat.le_refl _) _
  have hbx : BoxN W0 w.heap.size D (.slice a n c) := by rw [hW0]; exact boxN_new _ _ _
  have hz0 : W0.heap.size = w.heap.size + 1 := by rw [hW0]; simp
  have HN := Lib.hid hn
  have HC := Lib.hid hcell
  have HS := Lib.hid hs
  have HB0 := Lib.hid hB0
  have HBx := Lib.hid hbx
  have HW0 := Lib.hid hW0.symm
  have HA := Lib.hid h
  clear hcell hn hs hB0 hbx hW0 h
  go_enter Tryz.func49, Tryz.ntmps49
  go_upto_region 1 with (fail)
  rw [HW0.out]
  go_wp2
  go_loopw [3] (fun i wr => ∃ j : Nat, j ≤ n ∧ i = .int .i64 j ∧ Hid (SndAt L j) ∧ Below W0.heap.size W0 wr) (fun i wr => n - (intOf i).toNat)
  case atStart => exact ⟨0, by omega, rfl, Lib.hid (snd_zero L), Below.refl _ _⟩
  case round =>
    obtain ⟨j, hj, rfl, HSn, hbel⟩ := hrel
    rename World => wo
    have HBr := Lib.hid hbel
    have HBw := Lib.hid (HB0.out.trans (hbel.mono HB0.out.size))
    have hbs := hbel.size
    obtain ⟨x0, x1⟩ := (HBx.out.below hbel (by omega)).cells
    by_cases hlt : j < n
    · have t1 : decide ((j : Int) < (n : Int)) = true := by simp; omega
      have t1' : decide (j < n) = true := by simpa using hlt
      have hlL : j < L.length := by rw [← HN.out]; exact hlt
      obtain ⟨b, off, u, rfl, hb0, c0, c1, hit⟩ := HC.out j hlL
      obtain ⟨V, hV⟩ : ∃ V, V = L[j].2 := ⟨_, rfl⟩
      rw [← hV] at hit
      obtain ⟨ua, uc, hu, hum, huc⟩ := hit
      obtain ⟨m, hml⟩ : ∃ m, m = V.length := ⟨_, rfl⟩
      rw [← hml] at hu hum
      subst hu
      unfold maxLen at hum
      have HV := Lib.hid hV
      have HMl := Lib.hid hml
      clear hV hml
      obtain ⟨X, hX⟩ : ∃ X : ByteArray, ⟨L[j].1.toArray⟩ = X := ⟨_, rfl⟩
      have hXl : X.data.toList = L[j].1 := by rw [← hX]
      have d0 : (wo.cell? ⟨b, off + j * 2, none⟩) = some (.string X) := by
        rw [HBw.out.cell (p := ⟨b, off + j * 2, none⟩) hb0, c0, ← hX]; rfl
      have d1 : (wo.cell? ⟨b, off + j * 2 + 1, none⟩) = some (.slice ua m uc) := by
        rw [HBw.out.cell (p := ⟨b, off + j * 2 + 1, none⟩) hb0, c1]
      have hXs : X.size ≤ 281474976710656 := by
        have := (HS.out.2 L[j] (List.getElem_mem _)).1
        rw [← bytes_len, hXl]; omega
      have hbA : Below wo.heap.size wo (wo.alloc (.cells #[.string X, .slice ua m uc] 56)) := (Below.refl _ _).alloc (Nat.le_refl _) _
      have hqx : BoxQ (wo.alloc (.cells #[.string X, .slice ua m uc] 56)) wo.heap.size X (.slice ua m uc) := heap_alloc_new wo _
      have hwz : (wo.alloc (.cells #[.string X, .slice ua m uc] 56)).heap.size = wo.heap.size + 1 := by simp
      go_upto_region 5 with (fail)
      generalize wo.alloc (.cells #[.string X, .slice ua m uc] 56) = W1 at hbA hqx hwz ⊢
      have HB1 := Lib.hid (bthen HBw.out hbA)
      have HB01 := Lib.hid (bthen HBr.out hbA)
      have hw1 : w.heap.size < W1.heap.size := by omega
      have hq1 : wo.heap.size < W1.heap.size := by omega
      obtain ⟨gq, hgq⟩ : ∃ g, g = wo.heap.size := ⟨_, rfl⟩
      rw [← hgq] at hqx hq1 ⊢
      have HKc : Hid (∀ wx, Below W1.heap.size W1 wx → (wx.cell? ⟨w.heap.size, 0, none⟩ = some (.string D) ∧ wx.cell? ⟨w.heap.size, 1, none⟩ = some (.slice (some ⟨b, off, none⟩) n c)) ∧ (wx.cell? ⟨gq, 0, none⟩ = some (.string X) ∧ wx.cell? ⟨gq, 1, none⟩ = some (.slice ua m uc))) := Lib.hid (fun wx hb => ⟨((HBx.out.below HB01.out (by omega)).below hb hw1).cells, (show BoxQ wx gq X (.slice ua m uc) from (hb.block gq hq1).trans hqx).cells⟩)
      have HUc : Hid (∀ wx, Below W1.heap.size W1 wx → ∀ k (hk : k < V.length), ∃ vb vo, ua = some ⟨vb, vo, none⟩ ∧ ∃ Y : ByteArray, Y.data.toList = V[k] ∧ wx.cell? ⟨vb, vo + k, none⟩ = some (.string Y) ∧ vb < W1.heap.size) := Lib.hid (fun wx hb k hk => by
        obtain ⟨vb, vo, e, hvb, hc⟩ := huc k hk
        refine ⟨vb, vo, e, ⟨V[k].toArray⟩, rfl, ?_, by omega⟩
        rw [hb.cell (p := ⟨vb, _, none⟩) (by show vb < _; omega), HB1.out.cell (p := ⟨vb, _, none⟩) hvb, hc]
        rfl)
      have hru := fun W => ruleRef_any X hXs W
      have hat := fun W (hb : Below W1.heap.size W1 W) => attrRef_any D X hXs L HS.out (.slice (some ⟨b, off, none⟩) n c) W ((HA.out.below HB1.out HB1.out.size).below hb hb.size)
      have hno := fun Y W => normRef_any X Y hXs W
      have hsv := fun Y Z W => sameVal_any X Y Z hXs W
      rw [hXl] at hru hat hno hsv
      obtain ⟨T, hT⟩ : ∃ T, T = L[j].1 := ⟨_, rfl⟩
      obtain ⟨r, hr⟩ : ∃ r, r = ruleD T := ⟨_, rfl⟩
      rw [← hT] at hru hat
      simp only [← hT, ← hr] at hru hno hsv
      have HRu := Lib.hid hru
      have HAt := Lib.hid hat
      have HNo := Lib.hid hno
      have HSv := Lib.hid hsv
      have HT := Lib.hid hT
      have HR := Lib.hid hr
      have HTz := Lib.hid (Below.refl W1.heap.size W1)
      obtain ⟨⟨x0, x1⟩, ⟨q0, q1⟩⟩ := HKc.out _ (Below.refl _ _)
      clear hru hat hno hsv hT hr hX hXl c0 c1 d0 d1 huc hbA hqx hbel hgq
      by_cases hr0 : r = 0
      · have t2 : ((r : Int) == 0) = true := by simp [hr0]
        have t2' : decide ((r : Int) = 0) = true := by simp [hr0]
        have HE : Hid (AttrsR L 17) := Lib.hid (.inr ⟨by decide, snd_rule HSn.out hlL (by rw [← HT.out, ← HR.out]; exact hr0)⟩)
        clear hr0
        go_wp2_with (first | (go_at_call 56; ((with_reducible refine (HRu.out _).mono ?_); rintro e wx ⟨rfl, hbx⟩); have HTz := Lib.hid (bthen HTz.out hbx); obtain ⟨⟨x0, x1⟩, ⟨q0, q1⟩⟩ := HKc.out _ HTz.out; clear hbx))
        go_ret
        exact ⟨_, rfl, HE.out, bthen HB1.out HTz.out⟩
      · have t0 : True := trivial
        have t2 : ((r : Int) == 0) = false := by simp; omega
        have t2' : decide ((r : Int) = 0) = false := by simp; omega
        have HR0 : Hid (ruleD L[j].1 ≠ 0) := Lib.hid (by rw [← HT.out, ← HR.out]; exact hr0)
        clear hr0
        by_cases hdup : ∃ k, ∃ hk : k < L.length, k < j ∧ low L[k].1 = low T
        · obtain ⟨k, hk, hkj, hke⟩ := hdup
          have HDu := Lib.hid (show ∀ I, AttrP L T I → I < (j : Int) from fun I h => attrP_dup h hk hkj hke)
          have HE : Hid (AttrsR L 20) := Lib.hid (.inr ⟨by decide, snd_has HSn.out hlL HR0.out hk hkj (by rw [hke, HT.out])⟩)
          clear hk hkj hke
          go_wp2_with (first | (go_at_call 56; ((with_reducible refine (HRu.out _).mono ?_); rintro e wx ⟨rfl, hbx⟩); have HTz := Lib.hid (bthen HTz.out hbx); obtain ⟨⟨x0, x1⟩, ⟨q0, q1⟩⟩ := HKc.out _ HTz.out; clear hbx) | (go_at_call 73; refine (HAt.out _ HTz.out).mono ?_; rintro e wx ⟨I, rfl, hI, hbx⟩; have t3 : decide (I < (j : Int)) = true := (by have := HDu.out I hI; simp; omega); have HTz := Lib.hid (bthen HTz.out hbx); obtain ⟨⟨x0, x1⟩, ⟨q0, q1⟩⟩ := HKc.out _ HTz.out; clear hbx hI))
          go_ret
          exact ⟨_, rfl, HE.out, bthen HB1.out HTz.out⟩
        · have HND := Lib.hid (show ∀ k (hk : k < L.length), k < j → low L[k].1 ≠ low T from fun k hk hkj e => hdup ⟨k, hk, hkj, e⟩)
          have HDn := Lib.hid (show ∀ I, AttrP L T I → ¬ I < (j : Int) from fun I h => attrP_no h hlL (by rw [HT.out]) HND.out)
          have HND2 : Hid (∀ k (hk : k < L.length), k < j → low L[k].1 ≠ low L[j].1) := Lib.hid (by rw [← HT.out]; exact HND.out)
          clear hdup
          go_upto_region 9 with (first | (go_at_call 56; ((with_reducible refine (HRu.out _).mono ?_); rintro e wx ⟨rfl, hbx⟩); have HTz := Lib.hid (bthen HTz.out hbx); obtain ⟨⟨x0, x1⟩, ⟨q0, q1⟩⟩ := HKc.out _ HTz.out; clear hbx) | (go_at_call 73; refine (HAt.out _ HTz.out).mono ?_; rintro e wx ⟨I, rfl, hI, hbx⟩; have t3 : decide (I < (j : Int)) = false := (by have := HDn.out I hI; simp; omega); have HTz := Lib.hid (bthen HTz.out hbx); obtain ⟨⟨x0, x1⟩, ⟨q0, q1⟩⟩ := HKc.out _ HTz.out; clear hbx hI))
          have HVe : Hid (valsC (low L[j].1) L[j].2 = valsC (low T) V) := Lib.hid (by rw [← HT.out, ← HV.out])
          by_cases hbad : cntBad r m
          · have HE : Hid (AttrsR L 19) := Lib.hid (.inr ⟨by decide, snd_bad HSn.out hlL HR0.out HND2.out (HVe.out.trans (vals_many (by rw [← HR.out, ← HMl.out]; exact hbad))) (by decide)⟩)
            by_cases hm0 : m = 0
            · have s1 : ((m : Int) == 0) = true := by simp [hm0]
              have s1' : decide ((m : Int) = 0) = true := by simp [hm0]
              clear hm0 hbad
              go_wp2_with (first | (go_at_call 56; ((with_reducible refine (HRu.out _).mono ?_); rintro e wx ⟨rfl, hbx⟩); have HTz := Lib.hid (bthen HTz.out hbx); obtain ⟨⟨x0, x1⟩, ⟨q0, q1⟩⟩ := HKc.out _ HTz.out; clear hbx))
              go_ret
              exact ⟨_, rfl, HE.out, bthen HB1.out HTz.out⟩
            · have s1 : ((m : Int) == 0) = false := by simp; omega
              have s1' : decide ((m : Int) = 0) = false := by simp; omega
              by_cases hm4 : 40 < m
              · have s2 : decide ((40 : Int) < (m : Int)) = true := by simp; omega
                clear hm0 hbad hm4
                go_wp2_with (first | (go_at_call 56; ((with_reducible refine (HRu.out _).mono ?_); rintro e wx ⟨rfl, hbx⟩); have HTz := Lib.hid (bthen HTz.out hbx); obtain ⟨⟨x0, x1⟩, ⟨q0, q1⟩⟩ := HKc.out _ HTz.out; clear hbx))
                go_ret
                exact ⟨_, rfl, HE.out, bthen HB1.out HTz.out⟩
              · have s2 : decide ((40 : Int) < (m : Int)) = false := by simp; omega
                have hr2 : r = 2 ∧ 1 < m := by rcases hbad with h | h | h <;> omega
                have s3 : ((r : Int) == 2) = true := by simp [hr2.1]
                have s3' : decide ((r : Int) = 2) = true := by simp [hr2.1]
                have s4 : decide ((1 : Int) < (m : Int)) = true := by simp; omega
                clear hm0 hbad hm4 hr2
                go_wp2_with (first | (go_at_call 56; ((with_reducible refine (HRu.out _).mono ?_); rintro e wx ⟨rfl, hbx⟩); have HTz := Lib.hid (bthen HTz.out hbx); obtain ⟨⟨x0, x1⟩, ⟨q0, q1⟩⟩ := HKc.out _ HTz.out; clear hbx))
                go_ret
                exact ⟨_, rfl, HE.out, bthen HB1.out HTz.out⟩
          · have hm0 : ¬ m = 0 := fun e => hbad (.inl e)
            have hm4 : ¬ 40 < m := fun e => hbad (.inr (.inl e))
            have s1 : ((m : Int) == 0) = false := by simp; omega
            have s1' : decide ((m : Int) = 0) = false := by simp; omega
            have s2 : decide ((40 : Int) < (m : Int)) = false := by simp; omega
            have HBd : Hid (¬ cntBad (ruleD T) V.length) := Lib.hid (by rw [← HR.out, ← HMl.out]; exact hbad)
            have hbw := fun (h : r = 2) => show ¬ 1 < m from fun e => hbad (.inr (.inr ⟨h, e⟩))
            go_cut [32] from 32 to 54 (fun s32 wx => s32 = .bool false ∧ Below W1.heap.size W1 wx)
            case first =>
              by_cases hr2 : r = 2
              · have s3 : ((r : Int) == 2) = true := by simp [hr2]
                have s3' : decide ((r : Int) = 2) = true := by simp [hr2]
                have s4 : decide ((1 : Int) < (m : Int)) = false := by have := hbw hr2; simp; omega
                clear hm0 hbad hm4 hr2 hbw
                go_wp2_with (first | (go_at_call 56; ((with_reducible refine (HRu.out _).mono ?_); rintro e wx ⟨rfl, hbx⟩); have HTz := Lib.hid (bthen HTz.out hbx); obtain ⟨⟨x0, x1⟩, ⟨q0, q1⟩⟩ := HKc.out _ HTz.out; clear hbx))
                go_meet
                exact ⟨rfl, HTz.out⟩
              · have s3 : ((r : Int) == 2) = false := by simp; omega
                have s3' : decide ((r : Int) = 2) = false := by simp; omega
                clear hm0 hbad hm4 hr2 hbw
                go_wp2_with (first | (go_at_call 56; ((with_reducible refine (HRu.out _).mono ?_); rintro e wx ⟨rfl, hbx⟩); have HTz := Lib.hid (bthen HTz.out hbx); obtain ⟨⟨x0, x1⟩, ⟨q0, q1⟩⟩ := HKc.out _ HTz.out; clear hbx))
                go_meet
                exact ⟨rfl, HTz.out⟩
            case rest =>
              obtain ⟨rfl, hcut⟩ := hcut
              rename World => wc0
              have HTc := Lib.hid hcut
              obtain ⟨⟨x0, x1⟩, ⟨q0, q1⟩⟩ := HKc.out _ hcut
              clear hcut hm0 hm4 hbw hbad s1 s1' s2
              go_wp2
              go_loopw [5] (fun i wr => ∃ k : Nat, k ≤ m ∧ i = .int .i64 k ∧ Hid (∀ q (hq : q < V.length), q < k → normD r V[q] ≠ none) ∧ Below W1.heap.size W1 wr) (fun i wr => m - (intOf i).toNat)
              case atStart => exact ⟨0, by omega, rfl, Lib.hid (fun q _ h => absurd h (by omega)), HTc.out⟩
              case round =>
                obtain ⟨k, hk, rfl, HAl, hbel⟩ := hrel
                rename World => wp
                have HTp := Lib.hid hbel
                obtain ⟨⟨x0, x1⟩, ⟨q0, q1⟩⟩ := HKc.out _ hbel
                by_cases hkm : k < m
                · have r1 : decide ((k : Int) < (m : Int)) = true := by simp; omega
                  have r1' : decide (k < m) = true := by simpa using hkm
                  have r2 : (0 : Int) ≤ (k : Int) := by omega
                  have r3 : (k : Int) < (m : Int) := by omega
                  have hkV : k < V.length := by rw [← HMl.out]; exact hkm
                  obtain ⟨vb, vo, rfl, Y, hY, hyc, hvb⟩ := HUc.out _ hbel k hkV
                  have HKy : Hid (∀ wx, Below W1.heap.size W1 wx → (wx.cell? ⟨gq, 0, none⟩ = some (.string X) ∧ wx.cell? ⟨gq, 1, none⟩ = some (.slice (some ⟨vb, vo, none⟩) m uc) ∧ wx.cell? ⟨vb, vo + k, none⟩ = some (.string Y))) := Lib.hid (fun wx hb => ⟨(HKc.out _ hb).2.1, (HKc.out _ hb).2.2, by
                    obtain ⟨vb', vo', e, Y', hY', hc', _⟩ := HUc.out _ hb k hkV
                    simp only [Option.some.injEq, Addr.mk.injEq, and_true] at e
                    obtain ⟨rfl, rfl⟩ := e
                    rw [hc', show Y' = Y from bytes_ext (by rw [hY', hY])]⟩)
                  have hst0 := HKy.out wp.drew hbel.drew
                  have hq := fun W => HNo.out Y W
                  rw [hY] at hq
                  cases hnq : normD r V[k] with
                  | none =>
                    rw [hnq] at hq
                    have HQ := Lib.hid (show ∀ W, Calls Tryz.prog 74 #[.string X, .string Y] W fun e w' => e = .returned (.agg #[.string ⟨#[]⟩, .bool false]) ∧ Below W.heap.size W w' from hq)
                    have HE : Hid (AttrsR L 21) := Lib.hid (.inr ⟨by decide, snd_bad HSn.out hlL HR0.out HND2.out (HVe.out.trans (vals_no HBd.out hkV (by rw [← HR.out]; exact hnq))) (by decide)⟩)
                    have fs := fun (W : World) => field_said1 W ⟨#[]⟩ false
                    clear hq hnq hY hyc hbel HAl
                    go_upto_region 14 with (fail)
                    go_region_held3 (fun w' => w'.cell? ⟨gq, 0, none⟩ = some (.string X) ∧ w'.cell? ⟨gq, 1, none⟩ = some (.slice (some ⟨vb, vo, none⟩) m uc) ∧ w'.cell? ⟨vb, vo + k, none⟩ = some (.string Y)) (first | (with_reducible exact hst0) | (with_reducible exact hst1)) (first | (go_at_call 74; ((with_reducible refine (HQ.out _).mono ?_); rintro e wx ⟨rfl, hbx⟩); have HTx := Lib.hid (bthen HTp.out (World_drew_below hbx)); have hst1 := HKy.out _ HTx.out; clear hbx))
                    all_goals
                      go_split_ands
                      go_simp
                      go_wp2
                      go_ret
                      exact ⟨_, rfl, HE.out, bthen HB1.out HTx.out⟩
                  | some z =>
                    rw [hnq] at hq
                    have HQ := Lib.hid (show ∀ W, Calls Tryz.prog 74 #[.string X, .string Y] W fun e w' => e = .returned (.agg #[.string ⟨z.toArray⟩, .bool true]) ∧ Below W.heap.size W w' from hq)
                    have HA2 : Hid (∀ q (hq : q < V.length), q < k + 1 → normD r V[q] ≠ none) := Lib.hid (fun q h1 h3 => by
                      by_cases hk : q < k
                      · exact HAl.out q h1 hk
                      · obtain rfl : q = k := by omega
                        rw [hnq]
                        simp)
                    have fs := fun (W : World) => field_said1 W ⟨z.toArray⟩ true
                    clear hq hnq hY hyc hbel HAl
                    go_upto_region 14 with (fail)
                    go_region_held3 (fun w' => w'.cell? ⟨gq, 0, none⟩ = some (.string X) ∧ w'.cell? ⟨gq, 1, none⟩ = some (.slice (some ⟨vb, vo, none⟩) m uc) ∧ w'.cell? ⟨vb, vo + k, none⟩ = some (.string Y)) (first | (with_reducible exact hst0) | (with_reducible exact hst1)) (first | (go_at_call 74; ((with_reducible refine (HQ.out _).mono ?_); rintro e wx ⟨rfl, hbx⟩); have HTx := Lib.hid (bthen HTp.out (World_drew_below hbx)); have hst1 := HKy.out _ HTx.out; clear hbx))
                    all_goals
                      go_split_ands
                      go_simp
                      go_wp2
                      go_roundw
                      case rel => exact ⟨k + 1, by omega, by go_num, HA2, HTx.out⟩
                      case measure => simp [intOf]; omega
                · obtain rfl : k = m := by omega
                  have r1 : decide ((k : Int) < (k : Int)) = false := by simp
                  have r1' : decide (k < k) = false := by simp
                  have HAll : Hid (∀ q (hq : q < V.length), normD (ruleD T) V[q] ≠ none) := Lib.hid (fun q hq => by rw [← HR.out]; exact HAl.out q hq (by rw [HMl.out]; exact hq))
                  clear hbel HAl
                  go_wp2
                  clear r1 r1'
                  go_loopw [6] (fun i wr => ∃ e : Nat, e ≤ k ∧ i = .int .i64 e ∧ Hid (∀ y (hy : y < V.length), y < e → ∀ x (hx : x < y), sameO (normD (ruleD T) V[x]) (normD (ruleD T) V[y]) = false) ∧ Below W1.heap.size W1 wr) (fun i wr => k - (intOf i).toNat)
                  case atStart => exact ⟨0, by omega, rfl, Lib.hid (fun q _ h => absurd h (by omega)), HTp.out⟩
                  case round =>
                    obtain ⟨e, he, rfl, HSa, hbel⟩ := hrel
                    rename World => wp2
                    have HTp2 := Lib.hid hbel
                    obtain ⟨⟨x0, x1⟩, ⟨q0, q1⟩⟩ := HKc.out _ hbel
                    by_cases hek : e < k
                    · have r1 : decide ((e : Int) < (k : Int)) = true := by simp; omega
                      have r1' : decide (e < k) = true := by simpa using hek
                      have r2 : (0 : Int) ≤ (e : Int) := by omega
                      have r3 : (e : Int) < (k : Int) := by omega
                      have heV : e < V.length := by rw [← HMl.out]; exact hek
                      clear hbel
                      go_wp2
                      clear r1 r1'
                      go_loopw [7] (fun i wr => ∃ f : Nat, f ≤ e ∧ i = .int .i64 f ∧ Hid (∀ x (hx : x < f) (hxV : x < V.length), sameO (normD (ruleD T) V[x]) (normD (ruleD T) V[e]) = false) ∧ Below W1.heap.size W1 wr) (fun i wr => e - (intOf i).toNat)
                      case atStart => exact ⟨0, by omega, rfl, Lib.hid (fun x h => absurd h (by omega)), HTp2.out⟩
                      case round =>
                        obtain ⟨f, hf, rfl, HSf, hbel⟩ := hrel
                        rename World => wq
                        have HTq := Lib.hid hbel
                        obtain ⟨⟨x0, x1⟩, ⟨q0, q1⟩⟩ := HKc.out _ hbel
                        by_cases hfe : f < e
                        · have r1 : decide ((f : Int) < (e : Int)) = true := by simp; omega
                          have r1' : decide (f < e) = true := by simpa using hfe
                          have r4 : (0 : Int) ≤ (f : Int) := by omega
                          have r5 : (f : Int) < (k : Int) := by omega
                          have hfV : f < V.length := by omega
                          obtain ⟨vb, vo, rfl, Y, hY, hyc, hvb⟩ := HUc.out _ hbel f hfV
                          have HKz : ∀ wx, Below W1.heap.size W1 wx → ∃ Z : ByteArray, Z.data.toList = V[e] ∧ wx.cell? ⟨vb, vo + e, none⟩ = some (.string Z) := fun wx hb => by
                            obtain ⟨vb', vo', e', Z, hZ, hc', _⟩ := HUc.out _ hb e heV
                            simp only [Option.some.injEq, Addr.mk.injEq, and_true] at e'
                            obtain ⟨rfl, rfl⟩ := e'
                            exact ⟨Z, hZ, hc'⟩
                          obtain ⟨Z, hZ, hzc⟩ := HKz _ hbel
                          have HKy : Hid (∀ wx, Below W1.heap.size W1 wx → (wx.cell? ⟨gq, 0, none⟩ = some (.string X) ∧ wx.cell? ⟨gq, 1, none⟩ = some (.slice (some ⟨vb, vo, none⟩) k uc) ∧ wx.cell? ⟨vb, vo + f, none⟩ = some (.string Y) ∧ wx.cell? ⟨vb, vo + e, none⟩ = some (.string Z))) := Lib.hid (fun wx hb => ⟨(HKc.out _ hb).2.1, (HKc.out _ hb).2.2, by
                            obtain ⟨vb', vo', e', Y', hY', hc', _⟩ := HUc.out _ hb f hfV
                            simp only [Option.some.injEq, Addr.mk.injEq, and_true] at e'
                            obtain ⟨rfl, rfl⟩ := e'
                            rw [hc', show Y' = Y from bytes_ext (by rw [hY', hY])], by
                            obtain ⟨Z', hZ', hc'⟩ := HKz _ hb
                            rw [hc', show Z' = Z from bytes_ext (by rw [hZ', hZ])]⟩)
                          have hst0 := HKy.out wq.drew hbel.drew
                          have hq := fun W => HSv.out Y Z W
                          rw [hY, hZ, HR.out] at hq
                          cases hsq : sameO (normD (ruleD T) V[f]) (normD (ruleD T) V[e]) with
                          | true =>
                            rw [hsq] at hq
                            have HQ := Lib.hid hq
                            have HE : Hid (AttrsR L 20) := Lib.hid (.inr ⟨by decide, snd_bad HSn.out hlL HR0.out HND2.out (HVe.out.trans (vals_dup HBd.out HAll.out heV hfe hsq)) (by decide)⟩)
                            clear hq hsq hY hyc hbel HSf hZ hzc HKz HSa
                            go_upto_region 22 with (fail)
                            go_region_held3 (fun w' => w'.cell? ⟨gq, 0, none⟩ = some (.string X) ∧ w'.cell? ⟨gq, 1, none⟩ = some (.slice (some ⟨vb, vo, none⟩) k uc) ∧ w'.cell? ⟨vb, vo + f, none⟩ = some (.string Y) ∧ w'.cell? ⟨vb, vo + e, none⟩ = some (.string Z)) (first | (with_reducible exact hst0) | (with_reducible exact hst1)) (first | (go_at_call 75; ((with_reducible refine (HQ.out _).mono ?_); rintro e wx ⟨rfl, hbx⟩); have HTx := Lib.hid (bthen HTq.out (World_drew_below hbx)); have hst1 := HKy.out _ HTx.out; clear hbx))
                            all_goals
                              go_split_ands
                              go_simp
                              go_wp2
                              go_ret
                              exact ⟨_, rfl, HE.out, bthen HB1.out HTx.out⟩
                          | false =>
                            rw [hsq] at hq
                            have HQ := Lib.hid hq
                            have HA2 : Hid (∀ x (hx : x < f + 1) (hxV : x < V.length), sameO (normD (ruleD T) V[x]) (normD (ruleD T) V[e]) = false) := Lib.hid (fun x h1 h3 => by
                              by_cases hk : x < f
                              · exact HSf.out x hk h3
                              · obtain rfl : x = f := by omega
                                exact hsq)
                            clear hq hsq hY hyc hbel HSf hZ hzc HKz
                            go_upto_region 22 with (fail)
                            go_region_held3 (fun w' => w'.cell? ⟨gq, 0, none⟩ = some (.string X) ∧ w'.cell? ⟨gq, 1, none⟩ = some (.slice (some ⟨vb, vo, none⟩) k uc) ∧ w'.cell? ⟨vb, vo + f, none⟩ = some (.string Y) ∧ w'.cell? ⟨vb, vo + e, none⟩ = some (.string Z)) (first | (with_reducible exact hst0) | (with_reducible exact hst1)) (first | (go_at_call 75; ((with_reducible refine (HQ.out _).mono ?_); rintro e wx ⟨rfl, hbx⟩); have HTx := Lib.hid (bthen HTq.out (World_drew_below hbx)); have hst1 := HKy.out _ HTx.out; clear hbx))
                            all_goals
                              go_split_ands
                              go_simp
                              go_wp2
                              go_roundw
                              case rel => exact ⟨f + 1, by omega, by go_num, HA2, HTx.out⟩
                              case measure => simp [intOf]; omega
                        · obtain rfl : f = e := by omega
                          have r1 : decide ((f : Int) < (f : Int)) = false := by simp
                          have r1' : decide (f < f) = false := by simp
                          have HA2 : Hid (∀ y (hy : y < V.length), y < f + 1 → ∀ x (hx : x < y), sameO (normD (ruleD T) V[x]) (normD (ruleD T) V[y]) = false) := Lib.hid (fun y h1 h3 x hx => by
                            by_cases hk : y < f
                            · exact HSa.out y h1 hk x hx
                            · obtain rfl : y = f := by omega
                              exact HSf.out x hx (by omega))
                          clear hbel HSf HSa
                          go_wp2
                          go_roundw
                          case rel => exact ⟨f + 1, by omega, by go_num, HA2, HTq.out⟩
                          case measure => simp [intOf]; omega
                    · obtain rfl : e = k := by omega
                      have r1 : decide ((e : Int) < (e : Int)) = false := by simp
                      have r1' : decide (e < e) = false := by simp
                      have HE : Hid (SndAt L (j + 1)) := Lib.hid (snd_more HSn.out hlL HR0.out HND2.out (HVe.out.trans (vals_ok HBd.out HAll.out (fun y hy x hx => HSa.out y hy (by rw [HMl.out]; exact hy) x hx))))
                      clear hbel HSa
                      go_wp2
                      go_roundw
                      case rel => exact ⟨j + 1, by omega, by go_num, HE, HB01.out.trans (HTp2.out.mono (by have := HB01.out.size; omega))⟩
                      case measure => simp [intOf]; omega
    · obtain rfl : j = n := by omega
      have t1 : decide ((j : Int) < (j : Int)) = false := by simp
      have t1' : decide (j < j) = false := by simp
      go_wp2
      go_ret
      exact ⟨0, rfl, .inl ⟨rfl, by rw [← HN.out]; exact HSn.out⟩, HBw.out⟩
end Go.Proofs.YtpnbcmblnplbgaaGreatDoor


namespace Go.Proofs.YtpnbcmblnplbgaaGreatDoor
open Go.RowKit
set_option linter.unusedVariables false

def allocs (w : World) (os : List Obj) : World := os.foldl World.alloc w
theorem allocs_old : ∀ (os : List Obj) (w : World) (k : Nat), k < w.heap.size → (allocs w os).heap[k]? = w.heap[k]?
  | [], w, k, _ => rfl
  | o :: os, w, k, h => (allocs_old os (w.alloc o) k (by simp; omega)).trans (heap_alloc_old w o h)
theorem allocs_at : ∀ (os : List Obj) (w : World) (i : Nat) (o : Obj), os[i]? = some o → (allocs w os).heap[w.heap.size + i]? = some o
  | [], w, i, o, h => by simp at h
  | x :: os, w, 0, o, h => by
    have e : x = o := by simpa using h
    subst e
    exact (allocs_old os (w.alloc x) _ (by simp)).trans (heap_alloc_new w x)
  | x :: os, w, i + 1, o, h => by
    have := allocs_at os (w.alloc x) i o (by simpa using h)
    rw [World.size_alloc] at this
    rw [show w.heap.size + (i + 1) = w.heap.size + 1 + i from by omega]
    exact this
theorem allocs_below : ∀ (os : List Obj) (w : World), Below w.heap.size w (allocs w os)
  | [], w => Below.refl _ _
  | o :: os, w => ((Below.refl _ _).alloc (Nat.le_refl _) o).trans ((allocs_below os (w.alloc o)).mono (by simp))
theorem allocs_size : ∀ (os : List Obj) (w : World), (allocs w os).heap.size = w.heap.size + os.length
  | [], w => rfl
  | o :: os, w => by
    show (allocs (w.alloc o) os).heap.size = _
    rw [allocs_size os (w.alloc o), World.size_alloc, List.length_cons]
    omega

abbrev oneT (x : List UInt8) : Obj := .cells #[.string ⟨x.toArray⟩] 9
abbrev twoT (x y : List UInt8) : Obj := .cells #[.string ⟨x.toArray⟩, .string ⟨y.toArray⟩] 9
def desB : List UInt8 := [100, 101, 115, 99, 114, 105, 112, 116, 105, 111, 110]
def clsO (h : Nat) : List Obj := [oneT objB, oneT [111], oneT desB, oneT [111, 117], oneT desB, twoT [99, 110] [115, 110], twoT desB [117, 115, 101, 114, 112, 97, 115, 115, 119, 111, 114, 100], twoT [117, 105, 100] [109, 97, 105, 108], twoT [117, 105, 100] [117, 105, 100, 110, 117, 109, 98, 101, 114], twoT [99, 110] [109, 101, 109, 98, 101, 114], oneT desB,
  .cells #[.string ⟨#[116, 111, 112]⟩, .string ⟨#[]⟩, .bool false, .slice (some ⟨h, 0, none⟩) 1 1, .slice none 0 0,
    .string ⟨#[111, 114, 103, 97, 110, 105, 122, 97, 116, 105, 111, 110]⟩, .string ⟨#[116, 111, 112]⟩, .bool true, .slice (some ⟨h + 1, 0, none⟩) 1 1, .slice (some ⟨h + 2, 0, none⟩) 1 1,
    .string ⟨#[111, 114, 103, 97, 110, 105, 122, 97, 116, 105, 111, 110, 97, 108, 117, 110, 105, 116]⟩, .string ⟨#[116, 111, 112]⟩, .bool true, .slice (some ⟨h + 3, 0, none⟩) 1 1, .slice (some ⟨h + 4, 0, none⟩) 1 1,
    .string ⟨#[112, 101, 114, 115, 111, 110]⟩, .string ⟨#[116, 111, 112]⟩, .bool true, .slice (some ⟨h + 5, 0, none⟩) 2 2, .slice (some ⟨h + 6, 0, none⟩) 2 2,
    .string ⟨#[105, 110, 101, 116, 111, 114, 103, 112, 101, 114, 115, 111, 110]⟩, .string ⟨#[112, 101, 114, 115, 111, 110]⟩, .bool true, .slice none 0 0, .slice (some ⟨h + 7, 0, none⟩) 2 2,
    .string ⟨#[112, 111, 115, 105, 120]⟩, .string ⟨#[116, 111, 112]⟩, .bool false, .slice (some ⟨h + 8, 0, none⟩) 2 2, .slice none 0 0,
    .string ⟨#[103, 114, 111, 117, 112, 111, 102, 110, 97, 109, 101, 115]⟩, .string ⟨#[116, 111, 112]⟩, .bool true, .slice (some ⟨h + 9, 0, none⟩) 2 2, .slice (some ⟨h + 10, 0, none⟩) 1 1] 127]
theorem isTo_one' {ok : Nat → Prop} {w : World} {b : Nat} {x : List UInt8} (h : w.heap[b]? = some (oneT x)) (hn : ok b) : IsTo ok w [x] (.slice (some ⟨b, 0, none⟩) 1 1) :=
  ⟨_, _, rfl, by unfold maxLen; simp, fun j hj => by
    have : j = 0 := by simp at hj; omega
    subst this
    exact ⟨b, 0, rfl, hn, by simp only [World.cell?, h]; rfl⟩⟩
theorem isTo_two' {ok : Nat → Prop} {w : World} {b : Nat} {x y : List UInt8} (h : w.heap[b]? = some (twoT x y)) (hn : ok b) : IsTo ok w [x, y] (.slice (some ⟨b, 0, none⟩) 2 2) :=
  ⟨_, _, rfl, by unfold maxLen; simp, fun j hj => by
    match j, hj with
    | 0, _ => exact ⟨b, 0, rfl, hn, by simp only [World.cell?, h]; rfl⟩
    | 1, _ => exact ⟨b, 0, rfl, hn, by simp only [World.cell?, h]; rfl⟩⟩
theorem isTo_nil' (ok : Nat → Prop) (w : World) : IsTo ok w [] (.slice none 0 0) := ⟨_, _, rfl, Nat.zero_le _, fun j h => absurd h (by simp)⟩

def IsKN (B : Nat) (w : World) (b : Nat) : Prop := b < w.heap.size ∧ ∀ j (h : j < classL.length), ∃ u1 u2, w.cell? ⟨b, j * 5, none⟩ = some (strV classL[j].name) ∧ w.cell? ⟨b, j * 5 + 1, none⟩ = some (strV classL[j].sup) ∧ w.cell? ⟨b, j * 5 + 2, none⟩ = some (.bool classL[j].st) ∧
  w.cell? ⟨b, j * 5 + 3, none⟩ = some u1 ∧ w.cell? ⟨b, j * 5 + 4, none⟩ = some u2 ∧ IsTo (New B w) w classL[j].mustL u1 ∧ IsTo (New B w) w classL[j].mayL u2
theorem cls_isK (w : World) : IsKN w.heap.size (allocs w (clsO w.heap.size)) (w.heap.size + 11) := by
  have hs : (allocs w (clsO w.heap.size)).heap.size = w.heap.size + 12 := allocs_size _ w
  have ha := fun i o (h : (clsO w.heap.size)[i]? = some o) => allocs_at (clsO w.heap.size) w i o h
  have b0 := ha 0 _ rfl
  have b1 := ha 1 _ rfl
  have b2 := ha 2 _ rfl
  have b3 := ha 3 _ rfl
  have b4 := ha 4 _ rfl
  have b5 := ha 5 _ rfl
  have b6 := ha 6 _ rfl
  have b7 := ha 7 _ rfl
  have b8 := ha 8 _ rfl
  have b9 := ha 9 _ rfl
  have b10 := ha 10 _ rfl
  have b11 := ha 11 _ rfl
  clear ha
  generalize allocs w (clsO w.heap.size) = W at *
  generalize w.heap.size = h at *
  have hn : ∀ k, k < 12 → New h W (h + k) := fun k hk => ⟨by omega, by omega⟩
  refine ⟨by omega, fun j hj => ?_⟩
  match j, hj with
  | 0, _ => exact ⟨_, _, by simp only [World.cell?, b11]; rfl, by simp only [World.cell?, b11]; rfl, by simp only [World.cell?, b11]; rfl, by simp only [World.cell?, b11]; rfl, by simp only [World.cell?, b11]; rfl, isTo_one' b0 (hn 0 (by omega)), isTo_nil' _ _⟩
  | 1, _ => exact ⟨_, _, by simp only [World.cell?, b11]; rfl, by simp only [World.cell?, b11]; rfl, by simp only [World.cell?, b11]; rfl, by simp only [World.cell?, b11]; rfl, by simp only [World.cell?, b11]; rfl, isTo_one' b1 (hn 1 (by omega)), isTo_one' b2 (hn 2 (by omega))⟩
  | 2, _ => exact ⟨_, _, by simp only [World.cell?, b11]; rfl, by simp only [World.cell?, b11]; rfl, by simp only [World.cell?, b11]; rfl, by simp only [World.cell?, b11]; rfl, by simp only [World.cell?, b11]; rfl, isTo_one' b3 (hn 3 (by omega)), isTo_one' b4 (hn 4 (by omega))⟩
  | 3, _ => exact ⟨_, _, by simp only [World.cell?, b11]; rfl, by simp only [World.cell?, b11]; rfl, by simp only [World.cell?, b11]; rfl, by simp only [World.cell?, b11]; rfl, by simp only [World.cell?, b11]; rfl, isTo_two' b5 (hn 5 (by omega)), isTo_two' b6 (hn 6 (by omega))⟩
  | 4, _ => exact ⟨_, _, by simp only [World.cell?, b11]; rfl, by simp only [World.cell?, b11]; rfl, by simp only [World.cell?, b11]; rfl, by simp only [World.cell?, b11]; rfl, by simp only [World.cell?, b11]; rfl, isTo_nil' _ _, isTo_two' b7 (hn 7 (by omega))⟩
  | 5, _ => exact ⟨_, _, by simp only [World.cell?, b11]; rfl, by simp only [World.cell?, b11]; rfl, by simp only [World.cell?, b11]; rfl, by simp only [World.cell?, b11]; rfl, by simp only [World.cell?, b11]; rfl, isTo_two' b8 (hn 8 (by omega)), isTo_nil' _ _⟩
  | 6, _ => exact ⟨_, _, by simp only [World.cell?, b11]; rfl, by simp only [World.cell?, b11]; rfl, by simp only [World.cell?, b11]; rfl, by simp only [World.cell?, b11]; rfl, by simp only [World.cell?, b11]; rfl, isTo_two' b9 (hn 9 (by omega)), isTo_one' b10 (hn 10 (by omega))⟩

set_option maxRecDepth 100000 in
set_option maxHeartbeats 4000000 in
theorem classesRef_any (w : World) : Calls Tryz.prog 108 #[] w fun e w' => ∃ b, e = .returned (.slice (some ⟨b, 0, none⟩) 7 7) ∧ IsKN w.heap.size w' b ∧ Below w.heap.size w w' := by
  have HK := Lib.hid (cls_isK w)
  have HB := Lib.hid (allocs_below (clsO w.heap.size) w)
  go_enter Tryz.func108, Tryz.ntmps108
  go_wp2
  go_ret
  exact ⟨w.heap.size + 11, rfl, HK.out, HB.out⟩

def FndR (w : World) (o : Option CT) (e : Ending) (w' : World) : Prop := Below w.heap.size w w' ∧ match o with
  | none => e = .returned (.agg #[.string ⟨#[]⟩, .string ⟨#[]⟩, .bool false, .slice none 0 0, .slice none 0 0, .bool false])
  | some c => ∃ u1 u2, e = .returned (.agg #[strV c.name, strV c.sup, .bool c.st, u1, u2, .bool true]) ∧ IsTo (New w.heap.size w') w' c.mustL u1 ∧ IsTo (New w.heap.size w') w' c.mayL u2

abbrev set6 (w : World) (b : Nat) (x0 x1 x2 x3 x4 x5 : Value) : World := (set5 w b x0 x1 x2 x3 x4).setCell ⟨b, 5, none⟩ x5
def BoxF (w : World) (b : Nat) (x0 x1 x2 x3 x4 x5 : Value) : Prop := w.heap[b]? = some (.cells #[x0, x1, x2, x3, x4, x5] 129 (0, 0))
theorem BoxF.below {w w' : World} {b n : Nat} {x0 x1 x2 x3 x4 x5 : Value} (h : BoxF w b x0 x1 x2 x3 x4 x5) (hb : Below n w w') (hn : b < n) : BoxF w' b x0 x1 x2 x3 x4 x5 := (hb.block b hn).trans h
theorem BoxF.cells {w : World} {b : Nat} {x0 x1 x2 x3 x4 x5 : Value} (h : BoxF w b x0 x1 x2 x3 x4 x5) : w.cell? ⟨b, 0, none⟩ = some x0 ∧ w.cell? ⟨b, 1, none⟩ = some x1 ∧ w.cell? ⟨b, 2, none⟩ = some x2 ∧ w.cell? ⟨b, 3, none⟩ = some x3 ∧ w.cell? ⟨b, 4, none⟩ = some x4 ∧ w.cell? ⟨b, 5, none⟩ = some x5 := by
  unfold BoxF at h
  simp [World.cell?, h]
theorem BoxF.frozen {w : World} {b : Nat} {x0 x1 x2 x3 x4 x5 : Value} (h : BoxF w b x0 x1 x2 x3 x4 x5) : w.frozen? ⟨b, 0, none⟩ = false ∧ w.frozen? ⟨b, 1, none⟩ = false ∧ w.frozen? ⟨b, 2, none⟩ = false ∧ w.frozen? ⟨b, 3, none⟩ = false ∧ w.frozen? ⟨b, 4, none⟩ = false ∧ w.frozen? ⟨b, 5, none⟩ = false := by
  unfold BoxF at h
  simp [World.frozen?, h]
theorem boxF_new (w : World) (x0 x1 x2 x3 x4 x5 : Value) : BoxF (w.alloc (.cells #[x0, x1, x2, x3, x4, x5] 129)) w.heap.size x0 x1 x2 x3 x4 x5 := heap_alloc_new w _
theorem BoxF.store {w : World} {b : Nat} {x0 x1 x2 x3 x4 x5 : Value} (h : BoxF w b x0 x1 x2 x3 x4 x5) (y0 y1 y2 y3 y4 y5 : Value) : BoxF (set6 w b y0 y1 y2 y3 y4 y5) b y0 y1 y2 y3 y4 y5 := by
  unfold BoxF at h ⊢
  simp [World.setCell, Array.getElem?_modify, h]
theorem set6_cell (w : World) (b : Nat) (x0 x1 x2 x3 x4 x5 : Value) {k : Nat} (o : Nat) (h : k ≠ b) : (set6 w b x0 x1 x2 x3 x4 x5).cell? ⟨k, o, none⟩ = w.cell? ⟨k, o, none⟩ :=
  (cell_ne _ ⟨b, 5, none⟩ x5 o h).trans (set5_cell w b x0 x1 x2 x3 x4 o h)
theorem set6_below {n b : Nat} {w w' : World} (h : Below n w w') (hb : n ≤ b) (x0 x1 x2 x3 x4 x5 : Value) : Below n w (set6 w' b x0 x1 x2 x3 x4 x5) := (set5_below h hb x0 x1 x2 x3 x4).setCell hb _
theorem set6_size (w : World) (b : Nat) (x0 x1 x2 x3 x4 x5 : Value) : (set6 w b x0 x1 x2 x3 x4 x5).heap.size = w.heap.size := by simp [set6, set5, World.setCell]
theorem isTo_set6 {B : Nat} {w : World} {L : List (List UInt8)} {v : Value} (h : IsTo (New B w) w L v) {b : Nat} (hb : b < B) {B' : Nat} (hB : B' ≤ B) (x0 x1 x2 x3 x4 x5 : Value) : IsTo (New B' (set6 w b x0 x1 x2 x3 x4 x5)) (set6 w b x0 x1 x2 x3 x4 x5) L v :=
  h.imp (fun k hk => ⟨Nat.le_trans hB hk.1, by rw [set6_size]; exact hk.2⟩) (fun k o hk => set6_cell w b x0 x1 x2 x3 x4 x5 o (by have := hk.1; omega))

set_option maxRecDepth 100000 in
set_option maxHeartbeats 4000000 in
theorem findClassRef_any (n : ByteArray) (hn : n.size ≤ 281474976710656) (w : World) : Calls Tryz.prog 77 #[.string n] w (FndR w (findC (low n.data.toList))) := by
  obtain ⟨R, hR⟩ : ∃ R, R = findC (low n.data.toList) := ⟨_, rfl⟩
  rw [← hR]
  have HLt := Lib.hid (fun W => lowerRef_any n W hn)
  obtain ⟨T, hT⟩ : ∃ T, T = lowB n := ⟨_, rfl⟩
  have hTl : T.data.toList = low n.data.toList := by rw [hT, lowB_list]
  rw [← hT] at HLt
  rw [← hTl] at hR
  have HR := Lib.hid hR
  obtain ⟨W0, hW0⟩ : ∃ W0, W0 = w.alloc (.cells #[.string ⟨#[]⟩, .string ⟨#[]⟩, .bool false, .slice none 0 0, .slice none 0 0, .bool false] 129) := ⟨_, rfl⟩
  have hB0 : Below w.heap.size w W0 := by rw [hW0]; exact (Below.refl _ _).alloc (Nat.le_refl _) _
  have hbx : BoxF W0 w.heap.size (.string ⟨#[]⟩) (.string ⟨#[]⟩) (.bool false) (.slice none 0 0) (.slice none 0 0) (.bool false) := by rw [hW0]; exact boxF_new _ _ _ _ _ _ _
  have hz0 : W0.heap.size = w.heap.size + 1 := by rw [hW0]; simp
  have HB0 := Lib.hid hB0
  have HBx := Lib.hid hbx
  have HW0 := Lib.hid hW0.symm
  clear hR hW0 hB0 hbx hT hTl
  go_enter Tryz.func77, Tryz.ntmps77
  go_upto_region 1 with (fail)
  rw [HW0.out]
  go_wp2_with (go_at_call 108; refine (classesRef_any _).mono ?_; rintro e w2 ⟨kb, rfl, hk, hb2⟩; have HB2 := Lib.hid hb2; have HK := Lib.hid hk; clear hk hb2)
  go_loopw [4] (fun i wr => ∃ k : Nat, k ≤ 7 ∧ i = .int .i64 k ∧ Hid (∀ i, (h : i < classL.length) → i < k → classL[i].name ≠ T.data.toList) ∧ Below w2.heap.size w2 wr) (fun i _ => 7 - (intOf i).toNat)
  case atStart => exact ⟨0, by omega, rfl, Lib.hid (fun i _ h => absurd h (by omega)), Below.refl _ _⟩
  case round =>
    obtain ⟨k, hk, rfl, HN, hb⟩ := hrel
    have hB0r : Below W0.heap.size W0 wr := HB2.out.trans (hb.mono HB2.out.size)
    have HX := Lib.hid (HBx.out.below hB0r (by omega))
    have HBr := Lib.hid hB0r
    have hsz := hB0r.size
    by_cases hlt : k < 7
    · have t1 : decide ((k : Int) < 7) = true := by simp; omega
      have ti0 : (0 : Int) ≤ (k : Int) := by omega
      have ti1 : (k : Int) < 7 := by omega
      have hkl : k < classL.length := hlt
      have hkb := HK.out.1
      obtain ⟨u1, u2, c0, c1, c2, c3, c4, hu1, hu2⟩ := HK.out.2 k hkl
      obtain ⟨xa, xn, xc, hx1⟩ := isTo_slice hu1
      subst hx1
      obtain ⟨ya, yn, yc, hx2⟩ := isTo_slice hu2
      subst hx2
      obtain ⟨X, hX⟩ : ∃ X : ByteArray, X = ⟨classL[k].name.toArray⟩ := ⟨_, rfl⟩
      obtain ⟨S, hS⟩ : ∃ X : ByteArray, X = ⟨classL[k].sup.toArray⟩ := ⟨_, rfl⟩
      obtain ⟨st, hst⟩ : ∃ b, b = classL[k].st := ⟨_, rfl⟩
      simp only [strV, ← hX, ← hS, ← hst] at c0 c1 c2
      have hn0 : ∀ b o, New W0.heap.size w2 b → wr.cell? ⟨b, o, none⟩ = w2.cell? ⟨b, o, none⟩ := fun b o hq => hb.cell (p := ⟨b, o, none⟩) hq.2
      have hv1 : IsTo (New W0.heap.size wr) wr classL[k].mustL (.slice xa xn xc) := hu1.imp (fun b hq => ⟨hq.1, Nat.lt_of_lt_of_le hq.2 hb.size⟩) hn0
      have hv2 : IsTo (New W0.heap.size wr) wr classL[k].mayL (.slice ya yn yc) := hu2.imp (fun b hq => ⟨hq.1, Nat.lt_of_lt_of_le hq.2 hb.size⟩) hn0
      have d0 := (hb.cell (p := ⟨kb, k * 5, none⟩) hkb).trans c0
      have d1 := (hb.cell (p := ⟨kb, k * 5 + 1, none⟩) hkb).trans c1
      have d2 := (hb.cell (p := ⟨kb, k * 5 + 2, none⟩) hkb).trans c2
      have d3 := (hb.cell (p := ⟨kb, k * 5 + 3, none⟩) hkb).trans c3
      have d4 := (hb.cell (p := ⟨kb, k * 5 + 4, none⟩) hkb).trans c4
      have hkr : kb < wr.heap.size := Nat.lt_of_lt_of_le hkb hb.size
      have HbR := Lib.hid hb
      have HKc : Hid (∀ wx, Below wr.heap.size wr wx → wx.cell? ⟨kb, k * 5, none⟩ = some (.string X) ∧ wx.cell? ⟨kb, k * 5 + 1, none⟩ = some (.string S) ∧ wx.cell? ⟨kb, k * 5 + 2, none⟩ = some (.bool st) ∧ wx.cell? ⟨kb, k * 5 + 3, none⟩ = some (.slice xa xn xc) ∧ wx.cell? ⟨kb, k * 5 + 4, none⟩ = some (.slice ya yn yc)) := Lib.hid (fun wx h => ⟨(h.cell (p := ⟨kb, _, none⟩) hkr).trans d0, (h.cell (p := ⟨kb, _, none⟩) hkr).trans d1, (h.cell (p := ⟨kb, _, none⟩) hkr).trans d2, (h.cell (p := ⟨kb, _, none⟩) hkr).trans d3, (h.cell (p := ⟨kb, _, none⟩) hkr).trans d4⟩)
      have HV1 := Lib.hid hv1
      have HV2 := Lib.hid hv2
      have hst0 : wr.drew.cell? ⟨kb, k * 5, none⟩ = some (.string X) := d0
      clear c0 c1 c2 c3 c4 hu1 hu2 hn0 hv1 hv2 d0 d1 d2 d3 d4 hb hB0r
      by_cases he : X = T
      · have hf : R = some classL[k] := by rw [HR.out]; exact findC_at hkl HN.out (by rw [← he, hX])
        subst he
        subst hf
        have HXX := Lib.hid hX
        have HSS := Lib.hid hS
        have HST := Lib.hid hst
        clear hX hS hst HN HR
        go_upto_region 5 with (fail)
        go_region_held3 (fun w' => w'.cell? ⟨kb, k * 5, none⟩ = some (.string X)) (first | (with_reducible exact hst0) | (with_reducible exact hst3)) (first | (go_at_call 34; ((with_reducible refine (HLt.out _).mono ?_); rintro e w3 ⟨rfl, hb3⟩); have HB3 := Lib.hid ((Below.refl wr.heap.size wr).drew.trans hb3); have hst3 := (HKc.out _ HB3.out).1; clear hb3))
        all_goals
          go_split_ands
          obtain ⟨m0, m1, m2, m3, m4⟩ := HKc.out _ HB3.out
          have HX3 := Lib.hid (HX.out.below HB3.out (by omega))
          obtain ⟨p0, p1, p2, p3, p4, p5⟩ := HX3.out.cells
          obtain ⟨n0, n1, n2, n3, n4, n5⟩ := HX3.out.frozen
          have hz3 := HB3.out.size
          have H1 := Lib.hid (isTo_go HV1.out HB3.out (Nat.le_refl _))
          have H2 := Lib.hid (isTo_go HV2.out HB3.out (Nat.le_refl _))
          go_simp
          go_wp2
          refine bodyPost_ret (v := .agg #[.string X, .string S, .bool st, .slice xa xn xc, .slice ya yn yc, .bool true]) (by
            have hbx := (HX3.out.store (.string X) (.string S) (.bool st) (.slice xa xn xc) (.slice ya yn yc) (.bool true)).cells
            obtain ⟨p0, p1, p2, p3, p4, p5⟩ := hbx
            simp [results, Tryz.results77, go_sem, p0, p1, p2, p3, p4, p5]) rfl ⟨?_, .slice xa xn xc, .slice ya yn yc, ?_, ?_, ?_⟩
          · exact set6_below (HB0.out.trans ((bthen HBr.out HB3.out).mono HB0.out.size)) (Nat.le_refl _) _ _ _ _ _ _
          · rw [HXX.out, HSS.out, HST.out]; rfl
          · exact isTo_set6 H1.out (by omega) (by omega) _ _ _ _ _ _
          · exact isTo_set6 H2.out (by omega) (by omega) _ _ _ _ _ _
      · have hne : classL[k].name ≠ T.data.toList := fun e => he (by rw [hX, e])
        have HN2 := Lib.hid (fun i (h : i < classL.length) (hi : i < k + 1) => (show classL[i].name ≠ T.data.toList from if e : i = k then by subst e; exact hne else HN.out i h (by omega)))
        have t2 := str_ne he
        clear hne hX hS hst HN HR
        go_upto_region 5 with (fail)
        go_region_held3 (fun w' => w'.cell? ⟨kb, k * 5, none⟩ = some (.string X)) (first | (with_reducible exact hst0) | (with_reducible exact hst3)) (first | (go_at_call 34; ((with_reducible refine (HLt.out _).mono ?_); rintro e w3 ⟨rfl, hb3⟩); have HB3 := Lib.hid ((Below.refl wr.heap.size wr).drew.trans hb3); have hst3 := (HKc.out _ HB3.out).1; clear hb3))
        all_goals
          go_split_ands
          go_simp
          go_wp2
          go_roundw
          case rel => exact ⟨k + 1, by omega, by go_num, HN2, HbR.out.trans (HB3.out.mono HbR.out.size)⟩
          case measure => simp [intOf]; omega
    · obtain rfl : k = 7 := by omega
      have hf : R = none := by rw [HR.out]; exact findC_no (fun i h => HN.out i h (by simpa [classL] using h))
      subst hf
      obtain ⟨m0, m1, m2, m3, m4, m5⟩ := HX.out.cells
      obtain ⟨n0, n1, n2, n3, n4, n5⟩ := HX.out.frozen
      clear HN HR
      go_wp2
      refine bodyPost_ret (v := .agg #[.string ⟨#[]⟩, .string ⟨#[]⟩, .bool false, .slice none 0 0, .slice none 0 0, .bool false]) (by
        have hbx := (HX.out.store (.string ⟨#[]⟩) (.string ⟨#[]⟩) (.bool false) (.slice none 0 0) (.slice none 0 0) (.bool false)).cells
        obtain ⟨p0, p1, p2, p3, p4, p5⟩ := hbx
        simp [results, Tryz.results77, go_sem, p0, p1, p2, p3, p4, p5]) rfl ⟨?_, rfl⟩
      exact set6_below (HB0.out.trans (HBr.out.mono HB0.out.size)) (Nat.le_refl _) _ _ _ _ _ _
end Go.Proofs.YtpnbcmblnplbgaaGreatDoor


namespace Go.Proofs.YtpnbcmblnplbgaaGreatDoor
open Go.RowKit
set_option linter.unusedVariables false

theorem run_append_T {B : Nat} {w : World} {v : Value} {L : List (List UInt8)} (hown : OwnS B w v L) (hB : B ≤ w.heap.size) {ok : Nat → Prop} {u : Value} {M : List (List UInt8)} (hu : IsTo ok w M u) (hlen : L.length + M.length ≤ 100000) (ty : TypeId) :
    ∃ v' w', (Builtin.append_ #[47, 47] ty #[v, u]).run Tryz.prog w = .ok v' w' ∧ OwnS B w' v' (L ++ M) ∧ w.grownBy w' v.ownBlock ∧ (v'.ownBlock = v.ownBlock ∨ v'.ownBlock = some w.heap.size) ∧ Below B w w' := by
  obtain ⟨i0, hi, hz0, hz1, hz2⟩ := info_parts infoS
  obtain ⟨a, c, rfl, hm, hc⟩ := hu
  cases a with
  | none =>
    have hM : M = [] := by
      cases M with
      | nil => rfl
      | cons x l => obtain ⟨b, off, e, _⟩ := hc 0 (by simp); cases e
    subst hM
    refine ⟨v, w, ?_, by rw [List.append_nil]; exact hown, ⟨rfl, rfl, rfl, Nat.le_refl _, fun _ _ _ => rfl⟩, .inl rfl, Below.refl _ _⟩
    rcases hown.2 with ⟨rfl, hz⟩ | ⟨g, cap, cur, rfl, _, hg, hnc, _⟩
    · simp [Builtin.append_, run_underlying Tryz.underlying47, sizeOf, typeInfo, hi, Builtin.lenOf, Builtin.firstCells]
    · exact run_append_room_src (P := Tryz.prog) w 47 47 ty 9 i0 Tryz.underlying47 hi g 0 L.length cap (.slice none 0 c) 0 [] (Src.ofNil w Tryz.underlying47 c) hnc (fun j h => absurd h (by simp)) (fun j h => absurd h (by simp))
  | some ad =>
    have hcl : ∀ j x, (M.map strV)[j]? = some x → w.cell? (ad.add j) = some x := by
      intro j x hx
      have hj : j < M.length := by
        rcases Nat.lt_or_ge j M.length with h | h
        · exact h
        · rw [List.getElem?_eq_none (by simpa using h)] at hx; cases hx
      obtain ⟨b, off, e, _, h0⟩ := hc j hj
      simp only [Option.some.injEq] at e
      subst e
      have hadd : (⟨b, off, none⟩ : Addr).add j = ⟨b, off + j, none⟩ := by simp [Addr.add]
      rw [hadd, h0]
      simpa [hj] using hx
    obtain ⟨v', w', hrun, hown', hgrow, _, hat⟩ := run_append_own_at (P := Tryz.prog) w B 47 ty 9 i0 (.string ⟨#[]⟩) 1 16 Tryz.underlying47 hi hz0 hz1 hz2 rfl (by decide) v L.length (L.map strV) hown ad M.length c (M.map strV) (by simp) hcl (by intro u hu; obtain ⟨x, _, rfl⟩ := List.mem_map.1 hu; rfl) (by unfold maxLen; omega) (by omega) hB
    refine ⟨v', w', hrun, ?_, hgrow, hat, (Below.refl B w).grown hgrow hB (fun k e => (World.ownsRow.lt hown k e).1)⟩
    unfold OwnS
    rw [List.length_append, List.map_append]
    exact hown'
theorem wpList_append_T {ops : Array Oper} {rest : List Oper} {o : Oper} {a : Act} {w : World} {Q : Exit → Act → World → Prop} (hgd : o.guard = none) (sl x : Operand)
    (ho : o.op = .call { callee := .builtin .append, args := #[sl, x], argTypes := #[47, 47] })
    (B : Nat) (v u : Value) (L M : List (List UInt8)) (ok : Nat → Prop) (hs : a.eval sl = v) (hx : a.eval x = u) (hown : OwnS B w v L) (hu : IsTo ok w M u) (hlen : L.length + M.length ≤ 100000) (hB : B ≤ w.heap.size)
    (h : ∀ v' w', OwnS B w' v' (L ++ M) → w.grownBy w' v.ownBlock → (v'.ownBlock = v.ownBlock ∨ v'.ownBlock = some w.heap.size) → Below B w w' → wpList Tryz.prog ops Q rest (a.put o.dst v') w') : wpList Tryz.prog ops Q (o :: rest) a w := by
  obtain ⟨v', w', hrun, h1, h2, h3, h4⟩ := run_append_T hown hB hu hlen o.type
  exact Lib.wpList_append_run w hgd sl x _ _ ho v u hs hx v' w' hrun (h v' w' h1 h2 h3 h4)

theorem ownS_lt {B : Nat} {w : World} {v : Value} {L : List (List UInt8)} (h : OwnS B w v L) {k : Nat} (e : v.ownBlock = some k) : B ≤ k ∧ k < w.heap.size := World.ownsRow.lt h k e
theorem ownS_grown {B : Nat} {w w' : World} {v : Value} {L : List (List UInt8)} {row : Option Nat} (h : OwnS B w v L) (hg : w.grownBy w' row) (hne : ∀ k, row = some k → v.ownBlock ≠ some k) : OwnS B w' v L := by
  refine World.ownsRow.kept h hg ?_
  cases e : v.ownBlock with
  | none => exact .inl rfl
  | some k =>
    right
    intro he
    exact hne k he.symm e
theorem ownS_set6 {B g : Nat} {w : World} {v : Value} {L : List (List UInt8)} (h : OwnS B w v L) (hne : v.ownBlock ≠ some g) (x0 x1 x2 x3 x4 x5 : Value) : OwnS B (set6 w g x0 x1 x2 x3 x4 x5) v L := by
  have hb := set6_below (Below.refl 0 w) (Nat.zero_le g) x0 x1 x2 x3 x4 x5
  refine ownS_grown h (row := some g) ⟨hb.os, hb.tape, hb.output, hb.size, fun k hk hn => ?_⟩ (fun k e => by cases e; exact hne)
  have hkg : k ≠ g := fun e => hn (by rw [e])
  exact (block_ne _ ⟨g, 5, none⟩ x5 hkg).trans (set5_block w g x0 x1 x2 x3 x4 hkg)

abbrev Ap (w : World) (mu ma : Value) (g b : Nat) : Prop := b < w.heap.size ∧ mu.ownBlock ≠ some b ∧ ma.ownBlock ≠ some b ∧ b ≠ g
structure TwoS (B : Nat) (w : World) (mu ma : Value) (A : List CT) : Prop where
  om : OwnS B w mu (mustA A)
  oa : OwnS B w ma (mayA A)
  ap : ∀ k, mu.ownBlock = some k → ma.ownBlock ≠ some k
theorem TwoS.below {B : Nat} {w w' : World} {mu ma : Value} {A : List CT} (h : TwoS B w mu ma A) (hb : Below w.heap.size w w') : TwoS B w' mu ma A := ⟨ownS_below h.om hb, ownS_below h.oa hb, h.ap⟩
theorem twoS_nil (B : Nat) (w : World) : TwoS B w (.slice none 0 0) (.slice none 0 0) [] := ⟨ownS_nil _ _, ownS_nil _ _, fun k h => by cases h⟩
def ClsB (w : World) (mu ma : Value) (g : Nat) (o : Option CT) : Prop := ∃ x0 x1 x2 u1 u2, BoxF w g x0 x1 x2 u1 u2 (.bool o.isSome) ∧ match o with
  | none => True
  | some c => c ∈ classL ∧ x0 = strV c.name ∧ x1 = strV c.sup ∧ x2 = .bool c.st ∧ IsTo (Ap w mu ma g) w c.mustL u1 ∧ IsTo (Ap w mu ma g) w c.mayL u2
structure OneC (B g : Nat) (w : World) (mu ma : Value) (A : List CT) (o : Option CT) : Prop where
  two : TwoS B w mu ma A
  gB : B ≤ g
  gl : g < w.heap.size
  gm : mu.ownBlock ≠ some g
  ga : ma.ownBlock ≠ some g
  cls : ClsB w mu ma g o

theorem must_more (A : List CT) (d : CT) : mustA (A ++ [d]) = mustA A ++ d.mustL := by simp [mustA]
theorem may_more (A : List CT) (d : CT) : mayA (A ++ [d]) = mayA A ++ d.mayL := by simp [mayA]
theorem cls_len : ∀ c ∈ classL, c.mustL.length ≤ 2 ∧ c.mayL.length ≤ 2 := by
  have : (classL.all fun c => decide (c.mustL.length ≤ 2 ∧ c.mayL.length ≤ 2)) = true := by decide +kernel
  intro c hc
  simpa using List.all_eq_true.1 this c hc
theorem cls_sup : ∀ c ∈ classL, low c.sup = c.sup := by
  have : (classL.all fun c => decide (low c.sup = c.sup)) = true := by decide +kernel
  intro c hc
  simpa using List.all_eq_true.1 this c hc
theorem two_len : ∀ {A : List CT}, (∀ c ∈ A, c ∈ classL) → (mustA A).length ≤ 2 * A.length ∧ (mayA A).length ≤ 2 * A.length
  | [], _ => ⟨Nat.le_refl _, Nat.le_refl _⟩
  | c :: A, h => by
    have h1 := cls_len c (h c (by simp))
    have h2 := two_len (A := A) (fun d hd => h d (by simp [hd]))
    have e1 : mustA (c :: A) = c.mustL ++ mustA A := rfl
    have e2 : mayA (c :: A) = c.mayL ++ mayA A := rfl
    rw [e1, e2, List.length_append, List.length_append, List.length_cons]
    omega
theorem fsteps_low : ∀ (l : List UInt8) (st : List UInt8 × Bool), low st.1 = st.1 → low (l.foldl fstep st).1 = (l.foldl fstep st).1
  | [], st, h => h
  | c :: l, st, h => by
    refine fsteps_low l (fstep st c) ?_
    by_cases hc : c.toNat = 32
    · rw [fstep_blank st c hc]; exact h
    · rw [fstep_other st c hc]
      simp only [low_append, h]
      congr 1
      · congr 1
        split <;> rfl
      · show [lowC (lowC c)] = _
        rw [lowC_low]
theorem low_fold_eq (v : List UInt8) : low (fold v) = fold v := fsteps_low v _ rfl
theorem findA_small {L : List AT} (hs : smallA L) (t : List UInt8) : smallT (findA L t) := by
  unfold findA
  cases e : L.find? (fun a => low a.1 == low t) with
  | none => exact ⟨by simp, fun s h => by simp at h⟩
  | some a => exact (hs.2 a (List.mem_of_find?_eq_some e)).2
end Go.Proofs.YtpnbcmblnplbgaaGreatDoor


namespace Go.Proofs.YtpnbcmblnplbgaaGreatDoor
open Go.RowKit
set_option linter.unusedVariables false

theorem New.ap {w w' : World} {mu ma : Value} {g b : Nat} {A : List CT} {B : Nat} (h : TwoS B w mu ma A) (hg : g < w.heap.size ∨ w'.heap.size ≤ g) (hb : New w.heap.size w' b) : Ap w' mu ma g b :=
  ⟨hb.2, fun e => by have := (ownS_lt h.om e).2; have := hb.1; omega, fun e => by have := (ownS_lt h.oa e).2; have := hb.1; omega, fun e => by have := hb.1; have := hb.2; omega⟩
theorem oneC_new {B : Nat} {w w' : World} {mu ma : Value} {A : List CT} {c : CT} {x0 x1 x2 u1 u2 : Value} (h : TwoS B w mu ma A) (hB : B ≤ w.heap.size) (hb : Below w.heap.size w w') (hc : c ∈ classL) (h0 : x0 = strV c.name) (h1 : x1 = strV c.sup) (h2 : x2 = .bool c.st)
    (hu1 : IsTo (New w.heap.size w') w' c.mustL u1) (hu2 : IsTo (New w.heap.size w') w' c.mayL u2) :
    OneC B w'.heap.size (w'.alloc (.cells #[x0, x1, x2, u1, u2, .bool true] 129)) mu ma A (some c) := by
  have hs := hb.size
  have ha : Below w'.heap.size w' (w'.alloc (.cells #[x0, x1, x2, u1, u2, .bool true] 129)) := (Below.refl _ _).alloc (Nat.le_refl _) _
  have ht := (h.below hb).below ha
  have hz : (w'.alloc (.cells #[x0, x1, x2, u1, u2, .bool true] 129)).heap.size = w'.heap.size + 1 := by simp
  refine ⟨ht, by omega, by omega, fun e => by have := (ownS_lt h.om e).2; omega, fun e => by have := (ownS_lt h.oa e).2; omega, x0, x1, x2, u1, u2, boxF_new _ _ _ _ _ _ _, hc, h0, h1, h2, ?_, ?_⟩
  · exact hu1.imp (fun b hb' => by have q := New.ap h (g := w'.heap.size) (.inr (Nat.le_refl _)) hb'; exact ⟨by have := q.1; omega, q.2⟩) (fun b o hb' => ha.cell (p := ⟨b, o, none⟩) hb'.2)
  · exact hu2.imp (fun b hb' => by have q := New.ap h (g := w'.heap.size) (.inr (Nat.le_refl _)) hb'; exact ⟨by have := q.1; omega, q.2⟩) (fun b o hb' => ha.cell (p := ⟨b, o, none⟩) hb'.2)
theorem oneC_must {B g : Nat} {w w' : World} {mu ma mu' : Value} {A : List CT} {d : CT} {x0 x1 x2 u1 u2 : Value} (h : OneC B g w mu ma A (some d)) (hbx : BoxF w g x0 x1 x2 u1 u2 (.bool true)) (h2 : IsTo (Ap w mu ma g) w d.mayL u2)
    (hown : OwnS B w' mu' (mustA A ++ d.mustL)) (hg : w.grownBy w' mu.ownBlock) (hat : mu'.ownBlock = mu.ownBlock ∨ mu'.ownBlock = some w.heap.size) :
    OwnS B w' ma (mayA A) ∧ BoxF w' g x0 x1 x2 u1 u2 (.bool true) ∧ IsTo (Ap w' mu' ma g) w' d.mayL u2 ∧ (∀ k, mu'.ownBlock = some k → ma.ownBlock ≠ some k) ∧ mu'.ownBlock ≠ some g := by
  have hs := hg.size
  have hne : ∀ k, k < w.heap.size → mu.ownBlock ≠ some k → mu'.ownBlock ≠ some k := fun k hk hn e => by
    rcases hat with q | q
    · exact hn (by rw [← q, e])
    · rw [q] at e; have := Option.some.inj e; omega
  refine ⟨ownS_grown h.two.oa hg (fun k e => h.two.ap k e), (hg.block g h.gl (fun e => h.gm e.symm)).trans hbx, h2.imp (fun b hb => ⟨by have := hb.1; omega, hne b hb.1 hb.2.1, hb.2.2⟩) (fun b o hb => by simp only [World.cell?, hg.block b hb.1 (fun e => hb.2.1 e.symm)]), fun k e => ?_, hne g h.gl h.gm⟩
  rcases hat with q | q
  · exact h.two.ap k (by rw [← q, e])
  · rw [q] at e
    have := Option.some.inj e
    intro e2
    have := (ownS_lt h.two.oa e2).2
    omega
theorem oneC_may {B g : Nat} {w w' : World} {mu ma ma' : Value} {A : List CT} {d : CT} {x0 x1 x2 u1 u2 : Value} (hm : OwnS B w mu (mustA A ++ d.mustL)) (ha : OwnS B w ma (mayA A)) (hap : ∀ k, mu.ownBlock = some k → ma.ownBlock ≠ some k) (hgl : g < w.heap.size) (hgm : mu.ownBlock ≠ some g) (hga : ma.ownBlock ≠ some g) (hbx : BoxF w g x0 x1 x2 u1 u2 (.bool true))
    (hown : OwnS B w' ma' (mayA A ++ d.mayL)) (hg : w.grownBy w' ma.ownBlock) (hat : ma'.ownBlock = ma.ownBlock ∨ ma'.ownBlock = some w.heap.size) :
    TwoS B w' mu ma' (A ++ [d]) ∧ BoxF w' g x0 x1 x2 u1 u2 (.bool true) ∧ ma'.ownBlock ≠ some g := by
  have hs := hg.size
  have hne : ∀ k, k < w.heap.size → ma.ownBlock ≠ some k → ma'.ownBlock ≠ some k := fun k hk hn e => by
    rcases hat with q | q
    · exact hn (by rw [← q, e])
    · rw [q] at e; have := Option.some.inj e; omega
  refine ⟨⟨by rw [must_more]; exact ownS_grown hm hg (fun k e e2 => hap k e2 e), by rw [may_more]; exact hown, fun k e => hne k (ownS_lt hm e).2 (hap k e)⟩, (hg.block g hgl (fun e => hga e.symm)).trans hbx, hne g hgl hga⟩
theorem oneC_next {B g : Nat} {w w' : World} {mu ma : Value} {A : List CT} {c : CT} {y0 y1 y2 v1 v2 y5 x0 x1 x2 u1 u2 : Value} (h : TwoS B w mu ma A) (hgB : B ≤ g) (hgl : g < w.heap.size) (hgm : mu.ownBlock ≠ some g) (hga : ma.ownBlock ≠ some g) (hb : Below w.heap.size w w') (hbx : BoxF w g y0 y1 y2 v1 v2 y5) (hc : c ∈ classL) (h0 : x0 = strV c.name) (h1 : x1 = strV c.sup) (h2 : x2 = .bool c.st)
    (hu1 : IsTo (New w.heap.size w') w' c.mustL u1) (hu2 : IsTo (New w.heap.size w') w' c.mayL u2) : OneC B g (set6 w' g x0 x1 x2 u1 u2 (.bool true)) mu ma A (some c) := by
  have hs := hb.size
  have ht := h.below hb
  have hx : BoxF w' g y0 y1 y2 v1 v2 y5 := hbx.below hb hgl
  have hcl : ∀ b o, b ≠ g → (set6 w' g x0 x1 x2 u1 u2 (.bool true)).cell? ⟨b, o, none⟩ = w'.cell? ⟨b, o, none⟩ := fun b o hb => set6_cell w' g _ _ _ _ _ _ o hb
  refine ⟨⟨ownS_set6 ht.om hgm _ _ _ _ _ _, ownS_set6 ht.oa hga _ _ _ _ _ _, h.ap⟩, hgB, by rw [set6_size]; omega, hgm, hga, x0, x1, x2, u1, u2, hx.store _ _ _ _ _ _, hc, h0, h1, h2, ?_, ?_⟩
  · exact hu1.imp (fun b hb' => by have q := New.ap h (g := g) (.inl hgl) hb'; exact ⟨by rw [set6_size]; exact q.1, q.2⟩) (fun b o hb' => hcl b o (by have := hb'.1; omega))
  · exact hu2.imp (fun b hb' => by have q := New.ap h (g := g) (.inl hgl) hb'; exact ⟨by rw [set6_size]; exact q.1, q.2⟩) (fun b o hb' => hcl b o (by have := hb'.1; omega))
theorem oneC_none {B g : Nat} {w w' : World} {mu ma : Value} {A : List CT} {y0 y1 y2 v1 v2 y5 x0 x1 x2 u1 u2 : Value} (h : TwoS B w mu ma A) (hgB : B ≤ g) (hgl : g < w.heap.size) (hgm : mu.ownBlock ≠ some g) (hga : ma.ownBlock ≠ some g) (hb : Below w.heap.size w w') (hbx : BoxF w g y0 y1 y2 v1 v2 y5) : OneC B g (set6 w' g x0 x1 x2 u1 u2 (.bool false)) mu ma A none := by
  have hs := hb.size
  have ht := h.below hb
  have hx : BoxF w' g y0 y1 y2 v1 v2 y5 := hbx.below hb hgl
  exact ⟨⟨ownS_set6 ht.om hgm _ _ _ _ _ _, ownS_set6 ht.oa hga _ _ _ _ _ _, h.ap⟩, hgB, by rw [set6_size]; omega, hgm, hga, x0, x1, x2, u1, u2, hx.store _ _ _ _ _ _, trivial⟩
end Go.Proofs.YtpnbcmblnplbgaaGreatDoor

