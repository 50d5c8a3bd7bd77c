/- Several texts in one file: EnHasW. -/
import Derived.Test.YtncnlbmdkognnaaGreatDoorEnhP3
import Derived.Test.YtncnlbmdkognnaaGreatDoorEnhP4
import Derived.Test.YtncnlbmdkognnaaGreatDoorEnhP2
import Derived.Deep.RegionLaw
import Derived.RegionTactic
import Derived.Deep.RegionHeld3
namespace Go.Proofs.YtncnlbmdkognnaaGreatDoor
open Go.RowKit
set_option linter.unusedVariables false
set_option linter.unusedSimpArgs false

theorem MapAt.below {f : UInt8 → UInt8} {w wr W : World} {s : ByteArray} {j : Nat} (h : MapAt f w s j wr) (hb : Below wr.heap.size wr W) : MapAt f w s j W := by
  obtain ⟨h1, A, hA, hs, hc⟩ := h
  exact ⟨bthen h1 hb, A, (hb.block _ (Array.getElem?_eq_some_iff.1 hA).1).trans hA, hs, hc⟩
theorem isA_at {n0 : Nat} {w : World} {L : List AT} {v : Value} (h : IsA n0 w L v) (j : Nat) (hj : j < L.length) : ∃ b off c ua uc, v = .slice (some ⟨b, off, none⟩) L.length c ∧ b < n0 ∧ w.cell? ⟨b, off + j * 2, none⟩ = some (strV L[j].1) ∧ w.cell? ⟨b, off + j * 2 + 1, none⟩ = some (.slice ua L[j].2.length uc) ∧ ∀ k (hk : k < L[j].2.length), ∃ b2 o2, ua = some ⟨b2, o2, none⟩ ∧ b2 < n0 ∧ w.cell? ⟨b2, o2 + k, none⟩ = some (strV L[j].2[k]) := by
  obtain ⟨a, c, rfl, _, hc⟩ := h
  obtain ⟨b, off, u, rfl, hb, c0, c1, ua, uc, rfl, _, ht⟩ := hc j hj
  exact ⟨b, off, c, ua, uc, rfl, hb, c0, c1, ht⟩
theorem mkD_size (ns : List UInt8) {D : ByteArray} (h : D.data.toList = mkD ns) : D.size ≤ 30 := by
  have h1 := mkN_len ns
  rw [← bytes_len, h]
  unfold mkD perD
  split
  · simp; omega
  · split
    · simp; omega
    · simp; omega
set_option maxRecDepth 100000 in
set_option maxHeartbeats 8000000 in
theorem entryHas_any (ns : List UInt8) (b0 : Option Addr) (cq : Nat) (which nn : Int) (hwh : 0 ≤ which ∧ which ≤ 255) (hnn : 0 ≤ nn ∧ nn ≤ 255) (w : World) (hw : LaidW w) (he : IsB w.heap.size w ns b0 cq) :
    Calls Tryz.prog 5 #[.slice b0 ns.length cq, .int .u8 which, .int .u8 nn] w fun e w' => e = .returned (.bool true) ∧ Below w.heap.size w w' := by
  have hmk := make_any ns b0 cq w he
  have hlL := mkE_length ns
  obtain ⟨L, hL⟩ : ∃ L, L = mkE ns := ⟨_, rfl⟩
  have hsm := mkE_small ns
  have hsy := fun (a : AT) (ha : a ∈ mkE ns) => mkE_says ha
  have hok := fun (a : AT) (ha : a ∈ mkE ns) => (mkE_ok ha).2
  rw [← hL] at hlL hsm hsy hok
  have hno := fun (D : ByteArray) (hD : D.data.toList = mkD ns) (u : Value) (W : World) (hu : IsA W.heap.size W (mkLd ns) u) => normS_entry D (by have := mkD_size ns hD; omega) (mkLd ns) ((mkLd_tiny ns).1.small (by omega)) (by have := (mkLd_tiny ns).1.1; omega) u W hu
  have hLs : sortA (normL (mkLd ns)) = L := hL.symm
  rw [hLs] at hno
  have HNo := Lib.hid hno
  have HMk := Lib.hid hmk
  have HAw := Lib.hid (fun (W : World) (hW : Below w.heap.size w W) => awake5_any W (hw.below hW))
  have HHa := Lib.hid (fun (D T V : ByteArray) (v : Value) (W : World) (hW : Below w.heap.size w W) (hA : IsA W.heap.size W L v) => has_any D T V L hsm v W (hw.below hW) hA)
  have htn := (mkLd_tiny ns).1.1
  have HTn : Hid (∀ {B : Nat} {W : World} {v : Value}, OwnM B W v (mkLd ns) → IsA W.heap.size W (mkLd ns) v) := Lib.hid (fun h => ownM_isA h (by unfold maxLen; omega))
  have HSy := Lib.hid hsy
  have HL8 : Hid (L.length ≤ maxLen) := Lib.hid (by unfold maxLen; omega)
  have HOk := Lib.hid hok
  obtain ⟨q, hq⟩ : ∃ k, k = ns.length := ⟨_, rfl⟩
  rw [← hq] at HMk ⊢
  obtain ⟨ln, hln⟩ : ∃ k, k = L.length := ⟨_, rfl⟩
  have t1 : decide ((ln : Int) < 3) = false := by simp; omega
  have t1' : decide (ln < 3) = false := by simp; omega
  obtain ⟨j, hj, hj1⟩ : ∃ j : Nat, which.tmod (ln : Int) = (j : Int) ∧ j < ln := by
    have h1 := Int.emod_lt_of_pos which (show (0 : Int) < (ln : Int) by omega)
    have h2 := Int.emod_nonneg which (show (ln : Int) ≠ 0 by omega)
    exact ⟨(which % (ln : Int)).toNat, by rw [Int.tmod_eq_emod_of_nonneg hwh.1]; omega, by omega⟩
  have hjl : j < L.length := by omega
  have hz : ((ln : Int) = 0) = False := by simp; omega
  have ti0 : (0 : Int) ≤ (j : Int) := by omega
  have ti1 : (j : Int) < (ln : Int) := by omega
  obtain ⟨hne, hval⟩ := hsy L[j] (List.getElem_mem hjl)
  have hTl := hok L[j] (List.getElem_mem hjl)
  obtain ⟨A, hA⟩ : ∃ A, A = L[j].2 := ⟨_, rfl⟩
  obtain ⟨TY, hTY, hTYl⟩ : ∃ T : ByteArray, strV L[j].1 = .string T ∧ T.data.toList = L[j].1 := ⟨⟨L[j].1.toArray⟩, rfl, rfl⟩
  rw [← hTYl] at hval hTl
  rw [← hA] at hne hval
  obtain ⟨m, hm⟩ : ∃ k, k = A.length := ⟨_, rfl⟩
  have hm0 : 0 < m := by rw [hm]; exact (by cases A with | nil => exact absurd rfl hne | cons x r => simp)
  obtain ⟨i, hi, hi1⟩ : ∃ i : Nat, nn.tmod (m : Int) = (i : Int) ∧ i < m := by
    have h1 := Int.emod_lt_of_pos nn (show (0 : Int) < (m : Int) by omega)
    have h2 := Int.emod_nonneg nn (show (m : Int) ≠ 0 by omega)
    exact ⟨(nn % (m : Int)).toNat, by rw [Int.tmod_eq_emod_of_nonneg hnn.1]; omega, by omega⟩
  have hil : i < A.length := by omega
  have hzm : ((m : Int) = 0) = False := by simp; omega
  have t2 : decide ((m : Int) = 0) = false := by simp; omega
  have tj0 : (0 : Int) ≤ (i : Int) := by omega
  have tj1 : (i : Int) < (m : Int) := by omega
  have hv := hval A[i] (List.getElem_mem hil)
  obtain ⟨V, hV, hVl⟩ : ∃ T : ByteArray, strV A[i] = .string T ∧ T.data.toList = A[i] := ⟨⟨A[i].toArray⟩, rfl, rfl⟩
  rw [← hVl] at hv
  have hVs : V.size ≤ 1000000 := by rw [← bytes_len, hVl]; exact (hsm.2 _ (List.getElem_mem hjl)).2.2 _ (by rw [← hA]; exact List.getElem_mem hil)
  have hcv := fun w => Lib.run_convert_string_bytes (P := Tryz.prog) w 9 36 5 V Tryz.underlying9 Tryz.underlying36 Tryz.underlying5
  have HCv := Lib.hid hcv
  clear hcv
  have HV := Lib.hid hv
  have HTl := Lib.hid hTl
  have hAt : ∀ (W : World) (v : Value), IsA W.heap.size W L v → ∃ b off c, v = .slice (some ⟨b, off, none⟩) ln c ∧ b < W.heap.size ∧ W.cell? ⟨b, off + j * 2, none⟩ = some (.string TY) ∧ ∃ b2 o2 c2, W.cell? ⟨b, off + j * 2 + 1, none⟩ = some (.slice (some ⟨b2, o2, none⟩) m c2) ∧ b2 < W.heap.size ∧ W.cell? ⟨b2, o2 + i, none⟩ = some (.string V) := by
    intro W v h
    obtain ⟨b, off, c, ua, uc, rfl, hb, c0, c1, ht⟩ := isA_at h j hjl
    obtain ⟨b2, o2, rfl, hb2, c2⟩ := ht i (by rw [← hA]; exact hil)
    refine ⟨b, off, c, by rw [hln], hb, by rw [c0, hTY], b2, o2, uc, by rw [c1, ← hA, ← hm], hb2, ?_⟩
    rw [c2]
    simp only [← hA]
    rw [hV]
  have HAt := Lib.hid hAt
  clear hmk hno hLs hsm hsy hok htn he hq hL hlL hw hln hne hval hTl hA hTY hTYl hm hm0 hv hV hVl hAt hjl hil
  go_enter Tryz.func5, Tryz.ntmps5
  go_upto_region 4 with (first
    | (go_at_call 19; refine (HMk.out).mono ?_; rintro e w2 ⟨D, u, rfl, hD, ho, hb⟩; have HB2 := Lib.hid hb; have HU2 := Lib.hid (HTn.out ho); have HD := Lib.hid hD; clear hb ho hD)
    | (go_at_call 10; refine (HNo.out D HD.out u w2 HU2.out).mono ?_; rintro e w3 ⟨v3, rfl, ho, hb⟩; have HB3 := Lib.hid (bthen HB2.out hb); have HA3 := Lib.hid (ownA_isA ho HL8.out); (obtain ⟨g, go, gc, rfl, hg, c0, b2, o2, c2, c1, hb2, c3⟩ := HAt.out w3 _ HA3.out); (obtain ⟨TD, hTD⟩ : ∃ T : ByteArray, strV (nameN D.data.toList) = .string T := ⟨_, rfl⟩); rw [hTD]; clear hb ho hTD))
  obtain ⟨W4, hW4⟩ : ∃ W, W = w3.alloc (.cells #[.string TD, .slice (some ⟨g, go, none⟩) ln gc] 24) := ⟨_, rfl⟩
  obtain ⟨p, hp⟩ : ∃ p, p = w3.heap.size := ⟨_, rfl⟩
  have hb34 : Below w3.heap.size w3 W4 := by rw [hW4]; exact (Below.refl _ _).alloc (Nat.le_refl _) _
  have hs4 : W4.heap.size = p + 1 := by rw [hW4, hp]; go_simp
  have hx0 : W4.cell? ⟨p, 0, none⟩ = some (.string TD) := by rw [hW4, hp]; go_simp
  have hx1 : W4.cell? ⟨p, 1, none⟩ = some (.slice (some ⟨g, go, none⟩) ln gc) := by rw [hW4, hp]; go_simp
  have y0 := (hb34.cell (p := ⟨g, go + j * 2, none⟩) hg).trans c0
  have y1 := (hb34.cell (p := ⟨g, go + j * 2 + 1, none⟩) hg).trans c1
  have y2 := (hb34.cell (p := ⟨b2, o2 + i, none⟩) hb2).trans c3
  rw [← hW4, ← hp]
  have HE := Lib.hid (fun (W : World) (hW : Below W4.heap.size W4 W) => And.intro ((hW.cell (p := ⟨p, 0, none⟩) (by show p < W4.heap.size; omega)).trans hx0) (And.intro ((hW.cell (p := ⟨p, 1, none⟩) (by show p < W4.heap.size; omega)).trans hx1) (And.intro ((hW.cell (p := ⟨g, go + j * 2, none⟩) (Nat.lt_of_lt_of_le hg hb34.size)).trans y0) (And.intro ((hW.cell (p := ⟨g, go + j * 2 + 1, none⟩) (Nat.lt_of_lt_of_le hg hb34.size)).trans y1) ((hW.cell (p := ⟨b2, o2 + i, none⟩) (Nat.lt_of_lt_of_le hb2 hb34.size)).trans y2)))))
  have HA4 := Lib.hid (HA3.out.below hb34 hb34.size)
  have HB4 := Lib.hid (bthen HB3.out hb34)
  clear hW4 hp hb34 hx0 hx1 y0 y1 y2 c0 c1 c3 hg hb2
  have hb4 := Below.refl W4.heap.size W4
  obtain ⟨a0, a1, a2, a3, -⟩ := HE.out _ hb4
  obtain ⟨e0, e1, e2, e3, -⟩ := HE.out _ hb4.drew
  have hb4a := hb4.alloc (Nat.le_refl _) (.cells #[.string ⟨#[]⟩, .slice none 0 0] 40)
  obtain ⟨f0, f1, f2, f3, -⟩ := HE.out _ hb4a
  obtain ⟨d0, d1, d2, d3, -⟩ := HE.out _ hb4a.drew
  clear hb4 hb4a
  go_region
  obtain ⟨W5, hW5⟩ : ∃ W, W = (W4.alloc (.cells #[.string TY, .slice (some ⟨b2, o2, none⟩) m c2] 40)).drew := ⟨_, rfl⟩
  have hb45 : Below W4.heap.size W4 W5 := by rw [hW5]; exact ((Below.refl _ _).alloc (Nat.le_refl _) _).drew
  have hs5 : W5.heap.size = p + 2 := by rw [hW5, World.size_drew, World.size_alloc, hs4]
  have hz0 : W5.cell? ⟨p + 1, 0, none⟩ = some (.string TY) := by rw [hW5, ← hs4]; go_simp
  have hz1 : W5.cell? ⟨p + 1, 1, none⟩ = some (.slice (some ⟨b2, o2, none⟩) m c2) := by rw [hW5, ← hs4]; go_simp
  rw [← hW5]
  have HE5 := Lib.hid (fun (W : World) (hW : Below W5.heap.size W5 W) => And.intro (HE.out W (bthen hb45 hW)) (And.intro ((hW.cell (p := ⟨p + 1, 0, none⟩) (by show p + 1 < W5.heap.size; omega)).trans hz0) ((hW.cell (p := ⟨p + 1, 1, none⟩) (by show p + 1 < W5.heap.size; omega)).trans hz1)))
  have HA5 := Lib.hid (HA4.out.below hb45 hb45.size)
  have HB5 := Lib.hid (bthen HB4.out hb45)
  clear hW5 hb45 hz0 hz1 a0 a1 a2 a3 e0 e1 e2 e3 f0 f1 f2 f3 d0 d1 d2 d3 hs4 hj
  have hb5 := Below.refl W5.heap.size W5
  obtain ⟨⟨-, -, -, -, a2⟩, a0, a1⟩ := HE5.out _ hb5
  obtain ⟨⟨-, -, -, -, e2⟩, e0, e1⟩ := HE5.out _ hb5.drew
  go_upto_region 7 with (fail)
  go_region
  clear a0 a1 a2 e0 e1 e2 hi ti0 ti1 hz hzm tj0 tj1
  obtain ⟨W6, hW6⟩ : ∃ W, W = W5.drew := ⟨_, rfl⟩
  have hb56 : Below W5.heap.size W5 W6 := by rw [hW6]; exact hb5.drew
  rw [← hW6]
  clear hW6 hb5
  have hcv := HCv.out
  go_wp2
  clear hcv
  generalize grownCap W6 V.size 0 5 = cap
  go_loopw [11] (fun i wr => ∃ j : Nat, j ≤ V.size ∧ i = .int .i64 j ∧ MapAt upC W6 V j wr) (fun i _ => V.size - (intOf i).toNat)
  case atStart => exact ⟨0, by omega, rfl, mapAt_start upC W6 V⟩
  case round =>
    obtain ⟨j5, hj5, rfl, hlow⟩ := hrel
    by_cases hlt : j5 < V.size
    · have t1 : decide ((j5 : Int) < (V.size : Int)) = true := by simp; omega
      obtain ⟨c0, f0⟩ := hlow.cell hlt
      obtain ⟨c, hc⟩ : ∃ c : UInt8, c = V[j5] := ⟨_, rfl⟩
      rw [← hc] at c0
      have hcl := c.toNat_lt
      have HLow := Lib.hid hlow
      clear hlow
      have hup := upC_toNat c
      by_cases h1 : 97 ≤ c.toNat
      · have t2 : decide ((97 : Int) ≤ (c.toNat : Int)) = true := by simp; omega
        by_cases h2 : c.toNat ≤ 122
        · have t3 : decide ((c.toNat : Int) ≤ 122) = true := by simp; omega
          rw [if_pos ⟨h1, h2⟩] at hup
          have HSt := Lib.hid (HLow.out.store hlt ((c.toNat : Int) - 32) (by rw [← hc]; omega))
          clear hc hup
          go_wp2
          go_roundw
          case rel => exact ⟨j5 + 1, by omega, by go_num, HSt.out⟩
          case measure => simp [intOf]; omega
        · have t3 : decide ((c.toNat : Int) ≤ 122) = false := by simp; omega
          have HSt := Lib.hid (HLow.out.skip hlt (by rw [← hc]; unfold upC; rw [if_neg (by omega)]))
          clear hc hup
          go_wp2
          go_roundw
          case rel => exact ⟨j5 + 1, by omega, by go_num, HSt.out⟩
          case measure => simp [intOf]; omega
      · have t2 : decide ((97 : Int) ≤ (c.toNat : Int)) = false := by simp; omega
        have HSt := Lib.hid (HLow.out.skip hlt (by rw [← hc]; unfold upC; rw [if_neg (by omega)]))
        clear hc hup
        go_wp2
        go_roundw
        case rel => exact ⟨j5 + 1, by omega, by go_num, HSt.out⟩
        case measure => simp [intOf]; omega
    · obtain rfl : j5 = V.size := by omega
      have t1 : decide ((V.size : Int) < (V.size : Int)) = false := by simp
      obtain ⟨B, hB⟩ : ∃ B : ByteArray, B = ⟨(V.data.toList.map upC).toArray⟩ := ⟨_, rfl⟩
      have hBl : B.data.toList = upL V.data.toList := by rw [hB]; rfl
      have hBs : B.size = V.size := by rw [← bytes_len, hBl, upL_length, bytes_len]
      have HLow := Lib.hid hlow
      have hbr := bthen hb56 hlow.1
      obtain ⟨-, y0, y1⟩ := HE5.out _ hbr
      have HBr := Lib.hid hbr
      have HBe := Lib.hid hB
      have HBl := Lib.hid hBl
      have hru := fun W => ruleRef_any TY (by have := HTl.out; rw [bytes_len] at this; omega) W
      have HRu0 := Lib.hid hru
      obtain ⟨r, hr⟩ : ∃ r : Nat, r = ruleD TY.data.toList := ⟨_, rfl⟩
      simp only [← hr] at HRu0
      have HRr := Lib.hid hr
      clear hB hlow hbr hru hBl hr
      have z1 : (⟨#[32]⟩ : ByteArray).size = 1 := rfl
      have z2 : (⟨#[33, 33]⟩ : ByteArray).size = 2 := rfl
      go_upto_region 15 with (go_at_call 20; refine (HRu0.out _).mono ?_; rintro e w9 ⟨rfl, hb⟩; have HW9 := Lib.hid hb; clear hb)
      obtain ⟨U1, hU1⟩ : ∃ X : ByteArray, ⟨#[32]⟩ ++ B = X := ⟨_, rfl⟩
      obtain ⟨U, hU⟩ : ∃ X : ByteArray, U1 ++ ⟨#[32]⟩ = X := ⟨_, rfl⟩
      obtain ⟨V2, hV2⟩ : ∃ X : ByteArray, V ++ ⟨#[33, 33]⟩ = X := ⟨_, rfl⟩
      have hU1s : U1.size = B.size + 1 := by
        have h1 : U1.data.toList.length = 1 + B.data.toList.length := by rw [← hU1, app_list, List.length_append]; rfl
        rw [bytes_len, bytes_len] at h1
        omega
      have hUl : U.data.toList = [32] ++ upL V.data.toList ++ [32] := by rw [← hU, ← hU1, app_list, app_list, HBl.out]
      have hV2l : V2.data.toList = V.data.toList ++ [33, 33] := by rw [← hV2, app_list]
      obtain ⟨v1, v2, v3, v4, v5⟩ := HV.out
      rw [← hUl] at v2
      rw [← HBl.out] at v3
      rw [← hV2l] at v4
      rw [← HRr.out] at v2 v3
      obtain ⟨b, hb⟩ : ∃ b, (B.toList == V.toList) = b := ⟨_, rfl⟩
      have hb2 : (B.data.toList == V.data.toList) = b := by rw [← ByteArray.toList_eq, ← ByteArray.toList_eq]; exact hb
      rw [hb2] at v3
      have hbb : (b == b) = true := by simp
      have hbase := bthen HBr.out HW9.out
      have HB9 := Lib.hid (bthen HB5.out hbase)
      have HA9 := Lib.hid (HA5.out.below hbase hbase.size)
      have HC : Hid (∀ W, Below w9.heap.size w9 W → (fun w' => w'.cell? ⟨p, 0, none⟩ = some (.string TD) ∧ w'.cell? ⟨p, 1, none⟩ = some (.slice (some ⟨g, go, none⟩) ln gc) ∧ w'.cell? ⟨p + 1, 0, none⟩ = some (.string TY) ∧ (convert 36 9 (.slice (some ⟨W6.heap.size, 0, none⟩) V.size cap)).run Tryz.prog w' = .ok (.string B) w' ∧ Below w9.heap.size w9 w') W) := Lib.hid (fun W hW => by
        obtain ⟨⟨x0, x1, -⟩, x2, -⟩ := HE5.out W (bthen hbase hW)
        refine ⟨x0, x1, x2, ?_, hW⟩
        rw [HBe.out]
        exact (HLow.out.below (bthen HW9.out hW)).conv (cap := cap))
      have hst := HC.out _ (Below.refl _ _).drew
      have HAk : Hid (∀ W, Below w9.heap.size w9 W → Calls Tryz.prog 7 #[] W (fun e w'' => e = .returned (.bool true) ∧ (fun w' => w'.cell? ⟨p, 0, none⟩ = some (.string TD) ∧ w'.cell? ⟨p, 1, none⟩ = some (.slice (some ⟨g, go, none⟩) ln gc) ∧ w'.cell? ⟨p + 1, 0, none⟩ = some (.string TY) ∧ (convert 36 9 (.slice (some ⟨W6.heap.size, 0, none⟩) V.size cap)).run Tryz.prog w' = .ok (.string B) w' ∧ Below w9.heap.size w9 w') w'')) := Lib.hid (fun W hW => (HAw.out W (bthen HB9.out hW)).mono (fun e w'' h => ⟨h.1, HC.out w'' (bthen hW h.2)⟩))
      have HRu : Hid (∀ W, Below w9.heap.size w9 W → Calls Tryz.prog 20 #[.string TY] W (fun e w'' => e = .returned (.int .i64 (r : Int)) ∧ (fun w' => w'.cell? ⟨p, 0, none⟩ = some (.string TD) ∧ w'.cell? ⟨p, 1, none⟩ = some (.slice (some ⟨g, go, none⟩) ln gc) ∧ w'.cell? ⟨p + 1, 0, none⟩ = some (.string TY) ∧ (convert 36 9 (.slice (some ⟨W6.heap.size, 0, none⟩) V.size cap)).run Tryz.prog w' = .ok (.string B) w' ∧ Below w9.heap.size w9 w') w'')) := Lib.hid (fun W hW => (HRu0.out W).mono (fun e w'' h => ⟨h.1, HC.out w'' (bthen hW h.2)⟩))
      have HX1 : Hid (∀ W, Below w9.heap.size w9 W → Calls Tryz.prog 15 #[.agg #[.string TD, .slice (some ⟨g, go, none⟩) ln gc], .string TY, .string V] W (fun e w'' => e = .returned (.bool true) ∧ (fun w' => w'.cell? ⟨p, 0, none⟩ = some (.string TD) ∧ w'.cell? ⟨p, 1, none⟩ = some (.slice (some ⟨g, go, none⟩) ln gc) ∧ w'.cell? ⟨p + 1, 0, none⟩ = some (.string TY) ∧ (convert 36 9 (.slice (some ⟨W6.heap.size, 0, none⟩) V.size cap)).run Tryz.prog w' = .ok (.string B) w' ∧ Below w9.heap.size w9 w') w'')) := Lib.hid (fun W hW => (HHa.out TD TY V _ W (bthen HB9.out hW) (HA9.out.below hW hW.size)).mono (fun e w'' h => ⟨h.1.trans (by rw [v1]), HC.out w'' (bthen hW h.2)⟩))
      have HX4 : Hid (∀ W, Below w9.heap.size w9 W → Calls Tryz.prog 15 #[.agg #[.string TD, .slice (some ⟨g, go, none⟩) ln gc], .string TY, .string V2] W (fun e w'' => e = .returned (.bool false) ∧ (fun w' => w'.cell? ⟨p, 0, none⟩ = some (.string TD) ∧ w'.cell? ⟨p, 1, none⟩ = some (.slice (some ⟨g, go, none⟩) ln gc) ∧ w'.cell? ⟨p + 1, 0, none⟩ = some (.string TY) ∧ (convert 36 9 (.slice (some ⟨W6.heap.size, 0, none⟩) V.size cap)).run Tryz.prog w' = .ok (.string B) w' ∧ Below w9.heap.size w9 w') w'')) := Lib.hid (fun W hW => (HHa.out TD TY V2 _ W (bthen HB9.out hW) (HA9.out.below hW hW.size)).mono (fun e w'' h => ⟨h.1.trans (by rw [v4]), HC.out w'' (bthen hW h.2)⟩))
      have HX5 : Hid (∀ W, Below w9.heap.size w9 W → Calls Tryz.prog 15 #[.agg #[.string TD, .slice (some ⟨g, go, none⟩) ln gc], .string ⟨#[110, 111, 110, 101]⟩, .string V] W (fun e w'' => e = .returned (.bool false) ∧ (fun w' => w'.cell? ⟨p, 0, none⟩ = some (.string TD) ∧ w'.cell? ⟨p, 1, none⟩ = some (.slice (some ⟨g, go, none⟩) ln gc) ∧ w'.cell? ⟨p + 1, 0, none⟩ = some (.string TY) ∧ (convert 36 9 (.slice (some ⟨W6.heap.size, 0, none⟩) V.size cap)).run Tryz.prog w' = .ok (.string B) w' ∧ Below w9.heap.size w9 w') w'')) := Lib.hid (fun W hW => (HHa.out TD ⟨#[110, 111, 110, 101]⟩ V _ W (bthen HB9.out hW) (HA9.out.below hW hW.size)).mono (fun e w'' h => ⟨h.1.trans (by rw [show hasA L (⟨#[110, 111, 110, 101]⟩ : ByteArray).data.toList V.data.toList = false from v5]), HC.out w'' (bthen hW h.2)⟩))
      have k1 : (9223372036854775807 < 1 + V.size) = False := eq_false (by omega)
      have k2 : (9223372036854775807 < V.size + 2) = False := eq_false (by omega)
      have k3 : (9223372036854775807 < V.size + 1 + 1) = False := eq_false (by omega)
      clear v1 v4 v5 hUl hV2l hb2 hbase y0 y1 t1 HE HE5 HA3 HA4 HA5 HMk HNo HAt HTn HSy HOk HTl HU2 HCv HB2 HB3 HB4
      by_cases r1 : r = 1
      · have r1' : ((r : Int) == 1) = true := by simp; omega
        have v2 := v2 r1
        have HX2 : Hid (∀ W, Below w9.heap.size w9 W → Calls Tryz.prog 15 #[.agg #[.string TD, .slice (some ⟨g, go, none⟩) ln gc], .string TY, .string U] W (fun e w'' => e = .returned (.bool true) ∧ (fun w' => w'.cell? ⟨p, 0, none⟩ = some (.string TD) ∧ w'.cell? ⟨p, 1, none⟩ = some (.slice (some ⟨g, go, none⟩) ln gc) ∧ w'.cell? ⟨p + 1, 0, none⟩ = some (.string TY) ∧ (convert 36 9 (.slice (some ⟨W6.heap.size, 0, none⟩) V.size cap)).run Tryz.prog w' = .ok (.string B) w' ∧ Below w9.heap.size w9 w') w'')) := Lib.hid (fun W hW => (HHa.out TD TY U _ W (bthen HB9.out hW) (HA9.out.below hW hW.size)).mono (fun e w'' h => ⟨h.1.trans (by rw [v2]), HC.out w'' (bthen hW h.2)⟩))
        clear v2 v3 r1 hb
        refine region_det (by kernel_rfl) (fun w' => w'.cell? ⟨p, 0, none⟩ = some (.string TD) ∧ w'.cell? ⟨p, 1, none⟩ = some (.slice (some ⟨g, go, none⟩) ln gc) ∧ w'.cell? ⟨p + 1, 0, none⟩ = some (.string TY) ∧ (convert 36 9 (.slice (some ⟨W6.heap.size, 0, none⟩) V.size cap)).run Tryz.prog w' = .ok (.string B) w' ∧ Below w9.heap.size w9 w') (hst) (by kernel_rfl) ?_
        simp only [List.toList_toArray]
        repeat' (first
          | (refine det_shut (by rfl) ?_; (simp only [Act.put, List.setIfInBounds_toArray, List.set_cons_zero, List.set_cons_succ]))
          | (apply det_val; (case hw => rfl); (case hv => (intro w' hS; (obtain ⟨s0, s1, s2, s3, s4⟩ := hS); go_simp; first | done | with_reducible exact rfl)); (simp only [Act.put, List.setIfInBounds_toArray, List.set_cons_zero, List.set_cons_succ]))
          | (apply det_call; (case hw => rfl); (case hv => (intro w' hS; (obtain ⟨s0, s1, s2, s3, s4⟩ := hS); go_simp; first | done | with_reducible exact rfl | with_reducible exact ⟨rfl, rfl⟩)); (case hc => (intro w' hS; (first | (go_at_call 15; with_reducible exact HX1.out w' hS.2.2.2.2) | (go_at_call 15; with_reducible exact HX2.out w' hS.2.2.2.2) | (go_at_call 15; with_reducible exact HX4.out w' hS.2.2.2.2) | (go_at_call 15; with_reducible exact HX5.out w' hS.2.2.2.2) | (go_at_call 20; with_reducible exact HRu.out w' hS.2.2.2.2) | (go_at_call 7; with_reducible exact HAk.out w' hS.2.2.2.2)))); (simp only [Act.put, List.setIfInBounds_toArray, List.set_cons_zero, List.set_cons_succ]))
          | fail)
        intro wz hSz
        have HBz := Lib.hid (bthen HB9.out hSz.2.2.2.2)
        go_wp2
        go_ret
        exact ⟨rfl, HBz.out⟩
      · have r1' : ((r : Int) == 1) = false := by simp; omega
        by_cases r4 : r = 4
        · have r4' : ((r : Int) == 4) = true := by simp; omega
          have r4n : ((r : Int) != 4) = false := by simp; omega
          have v3 := v3 r4
          have HX3 : Hid (∀ W, Below w9.heap.size w9 W → Calls Tryz.prog 15 #[.agg #[.string TD, .slice (some ⟨g, go, none⟩) ln gc], .string TY, .string B] W (fun e w'' => e = .returned (.bool b) ∧ (fun w' => w'.cell? ⟨p, 0, none⟩ = some (.string TD) ∧ w'.cell? ⟨p, 1, none⟩ = some (.slice (some ⟨g, go, none⟩) ln gc) ∧ w'.cell? ⟨p + 1, 0, none⟩ = some (.string TY) ∧ (convert 36 9 (.slice (some ⟨W6.heap.size, 0, none⟩) V.size cap)).run Tryz.prog w' = .ok (.string B) w' ∧ Below w9.heap.size w9 w') w'')) := Lib.hid (fun W hW => (HHa.out TD TY B _ W (bthen HB9.out hW) (HA9.out.below hW hW.size)).mono (fun e w'' h => ⟨h.1.trans (by rw [v3]), HC.out w'' (bthen hW h.2)⟩))
          clear v2 v3 r1 r4
          refine region_det (by kernel_rfl) (fun w' => w'.cell? ⟨p, 0, none⟩ = some (.string TD) ∧ w'.cell? ⟨p, 1, none⟩ = some (.slice (some ⟨g, go, none⟩) ln gc) ∧ w'.cell? ⟨p + 1, 0, none⟩ = some (.string TY) ∧ (convert 36 9 (.slice (some ⟨W6.heap.size, 0, none⟩) V.size cap)).run Tryz.prog w' = .ok (.string B) w' ∧ Below w9.heap.size w9 w') (hst) (by kernel_rfl) ?_
          simp only [List.toList_toArray]
          repeat' (first
            | (refine det_shut (by rfl) ?_; (simp only [Act.put, List.setIfInBounds_toArray, List.set_cons_zero, List.set_cons_succ]))
            | (apply det_val; (case hw => rfl); (case hv => (intro w' hS; (obtain ⟨s0, s1, s2, s3, s4⟩ := hS); go_simp; first | done | with_reducible exact rfl)); (simp only [Act.put, List.setIfInBounds_toArray, List.set_cons_zero, List.set_cons_succ]))
            | (apply det_call; (case hw => rfl); (case hv => (intro w' hS; (obtain ⟨s0, s1, s2, s3, s4⟩ := hS); go_simp; first | done | with_reducible exact rfl | with_reducible exact ⟨rfl, rfl⟩)); (case hc => (intro w' hS; (first | (go_at_call 15; with_reducible exact HX1.out w' hS.2.2.2.2) | (go_at_call 15; with_reducible exact HX3.out w' hS.2.2.2.2) | (go_at_call 15; with_reducible exact HX4.out w' hS.2.2.2.2) | (go_at_call 15; with_reducible exact HX5.out w' hS.2.2.2.2) | (go_at_call 20; with_reducible exact HRu.out w' hS.2.2.2.2) | (go_at_call 7; with_reducible exact HAk.out w' hS.2.2.2.2)))); (simp only [Act.put, List.setIfInBounds_toArray, List.set_cons_zero, List.set_cons_succ]))
            | fail)
          intro wz hSz
          have HBz := Lib.hid (bthen HB9.out hSz.2.2.2.2)
          go_wp2
          go_ret
          exact ⟨rfl, HBz.out⟩
        · have r4' : ((r : Int) == 4) = false := by simp; omega
          have r4n : ((r : Int) != 4) = true := by simp; omega
          clear v2 v3 r1 r4 hb
          refine region_det (by kernel_rfl) (fun w' => w'.cell? ⟨p, 0, none⟩ = some (.string TD) ∧ w'.cell? ⟨p, 1, none⟩ = some (.slice (some ⟨g, go, none⟩) ln gc) ∧ w'.cell? ⟨p + 1, 0, none⟩ = some (.string TY) ∧ (convert 36 9 (.slice (some ⟨W6.heap.size, 0, none⟩) V.size cap)).run Tryz.prog w' = .ok (.string B) w' ∧ Below w9.heap.size w9 w') (hst) (by kernel_rfl) ?_
          simp only [List.toList_toArray]
          repeat' (first
            | (refine det_shut (by rfl) ?_; (simp only [Act.put, List.setIfInBounds_toArray, List.set_cons_zero, List.set_cons_succ]))
            | (apply det_val; (case hw => rfl); (case hv => (intro w' hS; (obtain ⟨s0, s1, s2, s3, s4⟩ := hS); go_simp; first | done | with_reducible exact rfl)); (simp only [Act.put, List.setIfInBounds_toArray, List.set_cons_zero, List.set_cons_succ]))
            | (apply det_call; (case hw => rfl); (case hv => (intro w' hS; (obtain ⟨s0, s1, s2, s3, s4⟩ := hS); go_simp; first | done | with_reducible exact rfl | with_reducible exact ⟨rfl, rfl⟩)); (case hc => (intro w' hS; (first | (go_at_call 15; with_reducible exact HX1.out w' hS.2.2.2.2) | (go_at_call 15; with_reducible exact HX4.out w' hS.2.2.2.2) | (go_at_call 15; with_reducible exact HX5.out w' hS.2.2.2.2) | (go_at_call 20; with_reducible exact HRu.out w' hS.2.2.2.2) | (go_at_call 7; with_reducible exact HAk.out w' hS.2.2.2.2)))); (simp only [Act.put, List.setIfInBounds_toArray, List.set_cons_zero, List.set_cons_succ]))
            | fail)
          intro wz hSz
          have HBz := Lib.hid (bthen HB9.out hSz.2.2.2.2)
          go_wp2
          go_ret
          exact ⟨rfl, HBz.out⟩
end Go.Proofs.YtncnlbmdkognnaaGreatDoor

