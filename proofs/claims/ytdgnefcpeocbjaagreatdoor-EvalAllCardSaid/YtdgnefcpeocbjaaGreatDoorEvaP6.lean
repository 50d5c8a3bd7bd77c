/- Several texts in one file: EvRL4, EvEval, EvREv, ScPer, EvOrdP, EvAwk, FiRQuo, FiRTxL, FiRTxt, FiTextW, FiMany, FiGreat, ScGreat. -/
import Derived.Test.YtdgnefcpeocbjaaGreatDoorEvaP5
import Derived.Deep.RegionLaw
import Derived.RegionTactic
import Derived.Test.YtdgnefcpeocbjaaGreatDoorEvaP2
import Derived.Test.YtdgnefcpeocbjaaGreatDoorFiRMay
import Derived.Deep.Cut
import Derived.Test.YtdgnefcpeocbjaaGreatDoorEvaP1
import Derived.Test.YtdgnefcpeocbjaaGreatDoorEvaP3
import Derived.Test.YtdgnefcpeocbjaaGreatDoorRefText
import Derived.Test.YtdgnefcpeocbjaaGreatDoorFiRead
import Derived.Test.YtdgnefcpeocbjaaGreatDoorFiWrite
/- The document's eval of a leaf: parts. -/
namespace Go.Proofs.YtdgnefcpeocbjaaGreatDoor
open Go.RowKit
set_option linter.unusedVariables false
set_option linter.unusedSimpArgs false

theorem saidR_at {W w5 : World} {b ty : Nat} {x y : Value} (hb5 : Below W.heap.size W w5) (h : W.heap[b]? = some (.cells #[x, y] ty (0, 0))) : w5.cell? ⟨b, 0, none⟩ = some x ∧ w5.cell? ⟨b, 1, none⟩ = some y ∧ w5.frozen? ⟨b, 0, none⟩ = false ∧ w5.frozen? ⟨b, 1, none⟩ = false ∧ Hid (w5.heap[b]? = some (.cells #[x, y] ty (0, 0))) := by
  have h' := (hb5.block b (Array.getElem?_eq_some_iff.1 h).1).trans h
  refine ⟨?_, ?_, ?_, ?_, Lib.hid h'⟩ <;> simp [World.cell?, World.frozen?, h']
theorem saidR_set {w5 : World} {b ty : Nat} {x y : Value} (N : ByteArray) (q : Bool) (h : w5.heap[b]? = some (.cells #[x, y] ty (0, 0))) : ((w5.setCell ⟨b, 0, none⟩ (.string N)).setCell ⟨b, 1, none⟩ (.bool q)).cell? ⟨b, 0, none⟩ = some (.string N) ∧ ((w5.setCell ⟨b, 0, none⟩ (.string N)).setCell ⟨b, 1, none⟩ (.bool q)).cell? ⟨b, 1, none⟩ = some (.bool q) := by
  have h1 : (w5.setCell ⟨b, 0, none⟩ (.string N)).heap[b]? = some (.cells #[.string N, y] ty (0, 0)) := by simp [World.setCell, Array.getElem?_modify, h]
  generalize w5.setCell ⟨b, 0, none⟩ (.string N) = W at h1 ⊢
  have h2 : (W.setCell ⟨b, 1, none⟩ (.bool q)).heap[b]? = some (.cells #[.string N, .bool q] ty (0, 0)) := by simp [World.setCell, Array.getElem?_modify, h1]
  constructor <;> simp [World.cell?, h2]
theorem partsR_some {r : Nat} {p : List (List UInt8)} {v : List UInt8} : partsE r p v = ((normD r v).isSome && madeO (sB (normD r v)).data.toList (p.map low)) := by
  unfold partsE
  cases normD r v with
  | none => rfl
  | some n => simp [sB]
set_option maxRecDepth 100000 in
set_option maxHeartbeats 8000000 in
theorem subR_any (k : Int) (T X D : ByteArray) (p : List (List UInt8)) (L : List AT) (pa ka va : Option Addr) (n pc kn kc vn vc : Nat) (hT : T.size ≤ 1000000) (hX : X.size ≤ 1000000) (hs : smallA L) (w : World) (h : IsA w.heap.size w L (.slice va vn vc)) (hn : n = p.length) (hp2 : 2 ≤ n) (hp3 : n ≤ 1000) (hpl : ∀ x ∈ p, x.length ≤ 1000000) (hmid : ∀ i (h : i < p.length), 0 < i → i + 1 < p.length → p[i] ≠ []) (hp : IsTo (Lt w) w p (.slice pa n pc)) (hk : k = 5) (h0 : ruleD T.data.toList ≠ 0) :
    Calls Tryz.prog 26 #[.agg #[.int .i64 k, .string T, .string X, .slice pa n pc, .slice ka kn kc], .agg #[.string D, .slice va vn vc]] w fun e w' => e = .returned (.int .i64 (leafE L k T.data.toList X.data.toList p : Nat)) ∧ Below w.heap.size w w' := by
  obtain ⟨W0, hW0⟩ : ∃ W, W = w.alloc (.cells #[.int .i64 k, .string T, .string X, .slice pa n pc, .slice ka kn kc] 25) := ⟨_, rfl⟩
  obtain ⟨W1, hW1⟩ : ∃ W, W = W0.alloc (.cells #[.string D, .slice va vn vc] 28) := ⟨_, rfl⟩
  have hb0 : Below w.heap.size w W0 := by rw [hW0]; exact box5 w _ _ _ _ _
  have hb01 : Below W0.heap.size W0 W1 := by rw [hW1]; exact (Below.refl _ _).alloc (Nat.le_refl _) _
  have hb1 : Below w.heap.size w W1 := bthen hb0 hb01
  have hf0 : FlAt W0 w.heap.size (.int .i64 k) (.string T) (.string X) (.slice pa n pc) (.slice ka kn kc) := by rw [hW0]; exact heap_alloc_new w _
  have hf : FlAt W1 w.heap.size (.int .i64 k) (.string T) (.string X) (.slice pa n pc) (.slice ka kn kc) := fl_below hf0 hb01 (fl_lt hf0)
  obtain ⟨eb, heb⟩ : ∃ b, b = w.heap.size + 1 := ⟨_, rfl⟩
  have hsz : W0.heap.size = eb := by rw [heb, hW0]; simp only [World.alloc, Array.size_push]
  have he : EnAt W1 eb D (.slice va vn vc) := by rw [← hsz, hW1]; exact heap_alloc_new W0 _
  have hE : ∀ W, Below W1.heap.size W1 W → FlAt W w.heap.size (.int .i64 k) (.string T) (.string X) (.slice pa n pc) (.slice ka kn kc) ∧ EnAt W eb D (.slice va vn vc) := fun W hW => ⟨fl_below hf hW (fl_lt hf), en_below he hW (en_lt he)⟩
  have HE := Lib.hid hE
  have HW0 := Lib.hid hW0.symm
  have HW1 := Lib.hid hW1.symm
  have HEb := Lib.hid heb.symm
  have HB1 := Lib.hid hb1
  obtain ⟨d0, d1, d2, d3, d4⟩ := fl_cells hf
  obtain ⟨e0, e1⟩ := en_cells he
  have HRu := Lib.hid (fun W => ruleRef_any T (by omega) W)
  have HVa := Lib.hid (fun W (hW : Below W1.heap.size W1 W) => valsRef_any D T (by omega) L hs (.slice va vn vc) W (h.below (bthen hb1 hW) (bthen hb1 hW).size))
  obtain ⟨R, hR⟩ : ∃ R, R = leafE L k T.data.toList X.data.toList p := ⟨_, rfl⟩
  rw [← hR]
  obtain ⟨r, hr⟩ : ∃ r, r = ruleD T.data.toList := ⟨_, rfl⟩
  obtain ⟨V, hV⟩ : ∃ V, V = findA L T.data.toList := ⟨_, rfl⟩
  obtain ⟨m, hml⟩ : ∃ m, m = V.length := ⟨_, rfl⟩
  have HVq := Lib.hid hV
  rw [← hV] at HVa
  have HMl := Lib.hid hml
  obtain ⟨pb, po, hpa, hpb, hpc⟩ : ∃ b off, pa = some ⟨b, off, none⟩ ∧ b < w.heap.size ∧ ∀ j (h : j < p.length), w.cell? ⟨b, off + j, none⟩ = some (strV p[j]) := by
    obtain ⟨a, c, hv, _, hc⟩ := hp
    simp only [Value.slice.injEq] at hv
    obtain ⟨rfl, _, rfl⟩ := hv
    obtain ⟨b, off, e, hb, _⟩ := hc 0 (by omega)
    refine ⟨b, off, e, hb, fun j hj => ?_⟩
    obtain ⟨b', off', e', _, h'⟩ := hc j hj
    rw [e] at e'
    simp only [Option.some.injEq, Addr.mk.injEq, and_true] at e'
    obtain ⟨rfl, rfl⟩ := e'
    exact h'
  subst hpa
  have hR2 : R = if r = 1 then (if V.any (partsE r p) then 1 else 0) else 2 := by rw [hR, leafR_sub L hk, ← hr, ← hV]
  rw [← hr] at HRu h0
  have hno := fun (Y : ByteArray) W => normR_at T Y (by omega) r hr.symm _ rfl W
  have hpt := fun (N : ByteArray) (hN : N.size ≤ 1000000) (W : World) (hW : Below w.heap.size w W) => partsRef_any N hN p pb po pc n W hn hp2 hp3 hpl hmid (fun j hj => (hW.cell (p := ⟨pb, _, none⟩) hpb).trans (hpc j hj)) (Nat.lt_of_lt_of_le hpb hW.size)
  have HNo := Lib.hid hno
  have HPt := Lib.hid hpt
  have HR2 := Lib.hid hR2
  have t1 : ((k : Int) == 1) = false := by simp [hk]
  have t2 : ((k : Int) == 2) = false := by simp [hk]
  have t3 : ((k : Int) == 3) = false := by simp [hk]
  have t8 : ((k : Int) == 8) = false := by simp [hk]
  have t4 : ((k : Int) == 4) = false := by simp [hk]
  have t6 : ((k : Int) == 6) = false := by simp [hk]
  have t7 : ((k : Int) == 7) = false := by simp [hk]
  have t0 : ((r : Int) == 0) = false := by simp; omega
  clear hW0 hW1 hb0 hb01 hb1 hf0 hf heb hsz he hE hR hs h hr hV hml hk h0 hno hpt hR2 hn hp2 hp3 hpl hmid hp hpc hpb
  by_cases h1 : r = 1
  · have HRa : Hid (R = if V.any (partsE r p) then 1 else 0) := Lib.hid (by rw [HR2.out, if_pos h1])
    have s1 : ((r : Int) != 1) = false := by simp [h1]
    have s2 : ((r : Int) == 1) = true := by simp [h1]
    clear h1
    go_enter Tryz.func26, Tryz.ntmps26
    go_upto_region 1 with (fail)
    rw [HW0.out, HW1.out, HEb.out]
    go_wp2_with (first | (go_at_call 38; refine (HRu.out _).mono ?_; rintro e w2 ⟨rfl, hb2⟩; have HX2 := Lib.hid hb2; (obtain ⟨g0, g1, g2, g3, g4⟩ := fl_cells (HE.out _ hb2).1); (obtain ⟨z0, z1⟩ := en_cells (HE.out _ hb2).2); clear hb2) | (go_at_call 22; refine (HVa.out _ HX2.out).mono ?_; rintro e w3 ⟨u, rfl, hit, hb3⟩; clear d0 d1 d2 d3 d4 e0 e1 g0 g1 g2 g3 g4 z0 z1; have HX3 := Lib.hid (bthen HX2.out hb3); (obtain ⟨g0, g1, g2, g3, g4⟩ := fl_cells (HE.out _ HX3.out).1); (obtain ⟨z0, z1⟩ := en_cells (HE.out _ HX3.out).2); (obtain ⟨ua, uc, hu, hum, huc⟩ := hit); (rw [← HMl.out] at hu hum); subst hu; have HUc := Lib.hid huc; have HB3w := Lib.hid hb3; clear hb3 huc) | (go_at_call 38; refine (HRu.out _).mono ?_; rintro e w4 ⟨rfl, hb4⟩; clear g0 g1 g2 g3 g4 z0 z1; have HX4 := Lib.hid (bthen HX3.out hb4); have HY4 := Lib.hid hb4; (obtain ⟨g0, g1, g2, g3, g4⟩ := fl_cells (HE.out _ HX4.out).1); (obtain ⟨z0, z1⟩ := en_cells (HE.out _ HX4.out).2); clear hb4))
    unfold maxLen at hum
    go_loopw [10, 16] (fun f i wr => ∃ (j : Nat) (a : Bool), j ≤ m ∧ i = .int .i64 j ∧ f = .bool a ∧ Hid (a = (V.take j).any (partsE r p)) ∧ Below w3.heap.size w3 wr) (fun _ i _ => m - (intOf i).toNat)
    case atStart => exact ⟨0, false, by omega, rfl, rfl, Lib.hid rfl, HY4.out⟩
    case round =>
      obtain ⟨j, a, hj, rfl, rfl, HA, hbel⟩ := hrel
      rename World => wr
      have HBr := Lib.hid hbel
      clear g0 g1 g2 g3 g4 z0 z1
      obtain ⟨g0, g1, g2, g3, g4⟩ := fl_cells (HE.out _ (bthen HX3.out hbel)).1
      by_cases hlt : j < m
      · have u1 : decide ((j : Int) < (m : Int)) = true := by simp; omega
        have u2 : decide (j < m) = true := by simpa using hlt
        have hjV : j < V.length := by rw [← HMl.out]; exact hlt
        have u3 : IntKind.i64.wrap ((j : Int) + 1) = (j : Int) + 1 := IntWalk.i64_in _ (by omega)
        obtain ⟨b, off, rfl, hb0, c0⟩ := HUc.out j hjV
        obtain ⟨Y, hY⟩ : ∃ Y : ByteArray, ⟨V[j].toArray⟩ = Y := ⟨_, rfl⟩
        have hYl : Y.data.toList = V[j] := by rw [← hY]
        have d9 : wr.cell? ⟨b, off + j, none⟩ = some (.string Y) := by
          rw [hbel.cell (p := ⟨b, _, none⟩) (Nat.lt_of_lt_of_le hb0 HB3w.out.size), HB3w.out.cell (p := ⟨b, _, none⟩) hb0, c0, ← hY]; rfl
        have halc : Below wr.heap.size wr (wr.alloc (.cells #[.string ⟨#[]⟩, .bool false] 62)) := (Below.refl _ _).alloc (Nat.le_refl _) _
        have x9 := (halc.cell (p := ⟨b, off + j, none⟩) (show b < wr.heap.size from Nat.lt_of_lt_of_le hb0 (Nat.le_trans HB3w.out.size hbel.size))).trans d9
        obtain ⟨x0, x1, x2, x3, x4⟩ := fl_cells (HE.out _ (bthen (bthen HX3.out hbel) halc)).1
        obtain ⟨o, ho⟩ : ∃ o, o = normD r Y.data.toList := ⟨_, rfl⟩
        have HAlc := Lib.hid halc
        clear halc
        have hnx : (V.take (j + 1)).any (partsE r p) = (a || (o.isSome && madeO (sB o).data.toList (p.map low))) := by rw [anyR_next hjV, ← HA.out, partsR_some, ho, hYl]
        have hN : (sB o).size ≤ 1000000 := by
          cases o with
          | none => exact Nat.zero_le _
          | some x => rw [← bytes_len]; have := normD_len ho.symm; simp [sB]; omega
        have hla := fun W => HNo.out Y W
        rw [← ho] at hla
        obtain ⟨N, hNe⟩ : ∃ N, N = sB o := ⟨_, rfl⟩
        obtain ⟨q, hq⟩ : ∃ q, q = o.isSome := ⟨_, rfl⟩
        obtain ⟨md, hmd⟩ : ∃ q, q = madeO (sB o).data.toList (p.map low) := ⟨_, rfl⟩
        have hpt := fun W hW => HPt.out (sB o) hN W hW
        rw [← hmd] at hpt hnx
        rw [← hq] at hla hnx
        rw [← hNe] at hla hpt
        have HNx := Lib.hid hnx
        have HLa := Lib.hid hla
        have HPp := Lib.hid hpt
        clear hnx hla hpt ho hN hNe hq hmd hYl hY c0 hb0 hjV hbel HA
        go_upto_region 29 with (fail)
        go_region_law (go_simp; go_at_call 39; refine (HLa.out _).mono ?_; rintro e w5 ⟨rfl, hb5⟩; (first | (obtain ⟨s0, s1, s2, s3, HS4⟩ := saidR_at hb5 (heap_alloc_new wr _)) | skip))
        all_goals
          have HB5 : Hid (Below wr.heap.size wr w5) := Lib.hid (by first | exact bthen (Below.refl _ _).drew hb5 | exact bthen HAlc.out.drew hb5 | exact bthen (Below.refl _ _) hb5 | exact bthen HAlc.out hb5)
          clear hb5
          first
            | (obtain ⟨W6, hW6⟩ : ∃ W, W = w5.alloc (.cells #[.string N, .bool q] 62) := ⟨_, rfl⟩
               rw [← hW6]
               obtain ⟨bx, hbx⟩ : ∃ n, n = w5.heap.size := ⟨_, rfl⟩
               rw [← hbx]
               have y0 : W6.cell? ⟨bx, 0, none⟩ = some (.string N) := by rw [hW6, hbx]; simp
               have y1 : W6.cell? ⟨bx, 1, none⟩ = some (.bool q) := by rw [hW6, hbx]; simp
               have HB6 : Hid (Below wr.heap.size wr W6) := Lib.hid (by rw [hW6]; exact HB5.out.alloc HB5.out.size _)
               clear hW6 hbx)
            | (obtain ⟨W6, hW6⟩ : ∃ W, W = (w5.setCell ⟨wr.heap.size, 0, none⟩ (.string N)).setCell ⟨wr.heap.size, 1, none⟩ (.bool q) := ⟨_, rfl⟩
               rw [← hW6]
               obtain ⟨bx, hbx⟩ : ∃ n, n = wr.heap.size := ⟨_, rfl⟩
               have y0 : W6.cell? ⟨bx, 0, none⟩ = some (.string N) := by rw [hW6, hbx]; exact (saidR_set N q HS4.out).1
               have y1 : W6.cell? ⟨bx, 1, none⟩ = some (.bool q) := by rw [hW6, hbx]; exact (saidR_set N q HS4.out).2
               have HB6 : Hid (Below wr.heap.size wr W6) := Lib.hid (by rw [hW6]; exact (HB5.out.setCell (p := ⟨wr.heap.size, 0, none⟩) (Nat.le_refl _) _).setCell (p := ⟨wr.heap.size, 1, none⟩) (Nat.le_refl _) _)
               rw [← hbx]
               clear hW6 hbx s0 s1 s2 s3)
          clear g0 g1 g2 g3 g4 x0 x1 x2 x3 x4 x9 d9
          obtain ⟨g0, g1, g2, g3, g4⟩ := fl_cells (HE.out _ (bthen HX3.out (bthen HBr.out HB6.out))).1
          cases a
          · cases q
            · go_wp2
              go_roundw
              case rel => exact ⟨j + 1, _, by omega, by go_num, rfl, Lib.hid (by rw [HNx.out]; rfl), bthen HBr.out HB6.out⟩
              case measure => simp [intOf]; omega
            · go_wp2_with (go_at_call 42; refine (HPp.out _ (bthen HB1.out (bthen HX3.out (bthen HBr.out HB6.out)))).mono ?_; rintro e w7 ⟨rfl, hb7⟩; have HB7 := Lib.hid (bthen HB6.out hb7); clear hb7)
              go_roundw
              case rel => exact ⟨j + 1, _, by omega, by go_num, rfl, Lib.hid (by rw [HNx.out]; rfl), bthen HBr.out HB7.out⟩
              case measure => simp [intOf]; omega
          · go_wp2
            go_roundw
            case rel => exact ⟨j + 1, _, by omega, by go_num, rfl, Lib.hid (by rw [HNx.out]; rfl), bthen HBr.out HB6.out⟩
            case measure => simp [intOf]; omega
      · obtain rfl : j = m := by omega
        have u1 : decide ((j : Int) < (j : Int)) = false := by simp
        have u2 : decide (j < j) = false := by simp
        have HRb : Hid (R = if a then 1 else 0) := Lib.hid (by rw [HRa.out, HA.out, List.take_of_length_le (by rw [HMl.out]; exact Nat.le_refl _)])
        clear hlt hbel
        cases a
        all_goals
          go_wp2
          go_ret
          exact ⟨by rw [HRb.out]; rfl, bthen HB1.out (bthen HX3.out HBr.out)⟩
  · have HRa : Hid (R = 2) := Lib.hid (by rw [HR2.out, if_neg h1])
    have s1 : ((r : Int) != 1) = true := by simp; omega
    have s2 : ((r : Int) == 1) = false := by simp; omega
    clear h1
    go_enter Tryz.func26, Tryz.ntmps26
    go_upto_region 1 with (fail)
    rw [HW0.out, HW1.out, HEb.out]
    go_wp2_with (first | (go_at_call 38; refine (HRu.out _).mono ?_; rintro e w2 ⟨rfl, hb2⟩; have HX2 := Lib.hid hb2; (obtain ⟨g0, g1, g2, g3, g4⟩ := fl_cells (HE.out _ hb2).1); (obtain ⟨z0, z1⟩ := en_cells (HE.out _ hb2).2); clear hb2) | (go_at_call 22; refine (HVa.out _ HX2.out).mono ?_; rintro e w3 ⟨u, rfl, hit, hb3⟩; clear d0 d1 d2 d3 d4 e0 e1 g0 g1 g2 g3 g4 z0 z1; have HX3 := Lib.hid (bthen HX2.out hb3); (obtain ⟨g0, g1, g2, g3, g4⟩ := fl_cells (HE.out _ HX3.out).1); (obtain ⟨z0, z1⟩ := en_cells (HE.out _ HX3.out).2); (obtain ⟨ua, uc, hu, hum, huc⟩ := hit); (rw [← HMl.out] at hu hum); subst hu; have HUc := Lib.hid huc; have HB3w := Lib.hid hb3; clear hb3 huc) | (go_at_call 38; refine (HRu.out _).mono ?_; rintro e w4 ⟨rfl, hb4⟩; have HX4 := Lib.hid (bthen HX3.out hb4); clear hb4))
    go_ret
    exact ⟨by rw [HRa.out]; rfl, bthen HB1.out HX4.out⟩
end Go.Proofs.YtdgnefcpeocbjaaGreatDoor

/- eval's truth at each depth, Eval: the walks. -/
namespace Go.Proofs.YtdgnefcpeocbjaaGreatDoor
open Go.RowKit
set_option linter.unusedVariables false
set_option linter.unusedSimpArgs false

theorem okLeaf_parts {k : Int} {t x : List UInt8} {p : List (List UInt8)} {m : Nat} (h : okLeaf k t x p m = true) : (k = 5 → 2 ≤ p.length) ∧ p.length ≤ 8 ∧ (∀ y ∈ p, y.length ≤ 100) ∧ x.length ≤ 100 := by
  unfold okLeaf at h
  simp only [Bool.and_eq_true] at h
  obtain ⟨_, h⟩ := h
  split at h
  · rename_i hk
    simp only [Bool.and_eq_true, decide_eq_true_eq, List.isEmpty_iff] at h
    obtain ⟨h1, rfl⟩ := h
    exact ⟨fun e => by omega, by simp, by simp, h1⟩
  · split at h
    · simp only [Bool.and_eq_true, List.isEmpty_iff] at h
      obtain ⟨rfl, h1⟩ := h
      obtain ⟨⟨h2, h3⟩, h4, _⟩ := (okParts_iff p).1 h1
      exact ⟨fun _ => h2, h3, fun y hy => by obtain ⟨i, hi, rfl⟩ := List.getElem_of_mem hy; exact (h4 i hi).1, by simp⟩
    · split at h
      · rename_i h5 _
        simp only [Bool.and_eq_true, List.isEmpty_iff] at h
        obtain ⟨rfl, rfl⟩ := h
        exact ⟨fun e => absurd e h5, by simp, by simp, by simp⟩
      · cases h
theorem mayEv_kids {d : Nat} {k : Int} {t x : List UInt8} {p : List (List UInt8)} {l : List FT} (h : mayF (d + 1) (.mk k t x p l) = true) (hk : holdsC k = true) : l.all (mayF d) = true ∧ l.length ≤ 40 ∧ (k = 3 → l.length = 1) := by
  rw [mayFl_hold hk] at h
  simp only [Bool.and_eq_true] at h
  obtain ⟨⟨_, hc⟩, ha⟩ := h
  refine ⟨ha, ?_, ?_⟩
  · unfold kidsC at hc
    split at hc <;> simp at hc <;> omega
  · intro h3
    unfold kidsC at hc
    rw [if_pos h3] at hc
    simpa using hc
theorem mayEv_leaf {d : Nat} {k : Int} {t x : List UInt8} {p : List (List UInt8)} {l : List FT} (h : mayF (d + 1) (.mk k t x p l) = true) (hk : ¬ holdsC k = true) : okLeaf k t x p l.length = true := by
  have h' : (if holdsC k then t.isEmpty && x.isEmpty && p.isEmpty && kidsC k l.length && l.all (mayF d) else okLeaf k t x p l.length) = true := h
  rwa [if_neg hk] at h'
set_option maxRecDepth 100000 in
set_option maxHeartbeats 8000000 in
theorem truth_all : ∀ d : Nat, TruthIs d := by
  intro d
  induction d with
  | zero => intro f v L D va vn vc w hm; cases f; cases hm
  | succ d ih =>
    intro f v L D va vn vc w hm h hs hw hx hA
    obtain ⟨k, t, x, p, l⟩ := f
    obtain ⟨pa, pc, ka, kc, rfl, hwf, ht, hxl, hp, hl, hkids⟩ := h.parts
    obtain ⟨T, hT, hTl⟩ := strV_text t
    obtain ⟨X, hX, hXl⟩ := strV_text x
    rw [hT, hX]
    obtain ⟨n, hn⟩ : ∃ n, n = l.length := ⟨_, rfl⟩
    obtain ⟨m, hmm⟩ : ∃ m, m = p.length := ⟨_, rfl⟩
    rw [← hn, ← hmm]
    obtain ⟨W0, hW0⟩ : ∃ W, W = w.alloc (.cells #[.int .i64 k, .string T, .string X, .slice pa m pc, .slice ka n kc] 25) := ⟨_, rfl⟩
    obtain ⟨W1, hW1⟩ : ∃ W, W = W0.alloc (.cells #[.string D, .slice va vn vc] 28) := ⟨_, rfl⟩
    have hb0 : Below w.heap.size w W0 := by rw [hW0]; exact box5 w _ _ _ _ _
    have hb01 : Below W0.heap.size W0 W1 := by rw [hW1]; exact (Below.refl _ _).alloc (Nat.le_refl _) _
    have hb1 : Below w.heap.size w W1 := bthen hb0 hb01
    have hf0 : FlAt W0 w.heap.size (.int .i64 k) (.string T) (.string X) (.slice pa m pc) (.slice ka n kc) := by rw [hW0]; exact heap_alloc_new w _
    have hf : FlAt W1 w.heap.size (.int .i64 k) (.string T) (.string X) (.slice pa m pc) (.slice ka n kc) := fl_below hf0 hb01 (fl_lt hf0)
    obtain ⟨eb, heb⟩ : ∃ b, b = w.heap.size + 1 := ⟨_, rfl⟩
    have hsz : W0.heap.size = eb := by rw [heb, hW0]; simp only [World.alloc, Array.size_push]
    have he : EnAt W1 eb D (.slice va vn vc) := by rw [← hsz, hW1]; exact heap_alloc_new W0 _
    have HW0 := Lib.hid hW0.symm
    have HW1 := Lib.hid hW1.symm
    have HEb := Lib.hid heb.symm
    have HB1 := Lib.hid hb1
    have hw1 := hw.below hb1
    have hx1 := hx.below hb1
    have hA1 : IsA W1.heap.size W1 L (.slice va vn vc) := hA.below hb1 hb1.size
    have hk1 : IsFls (Lt W1) W1 l ka 0 := hkids.below hb1
    have hp1 : IsTo (Lt W1) W1 p (.slice pa m pc) := by rw [hmm]; exact hp.imp (fun b h => Nat.lt_of_lt_of_le h hb1.size) (fun b o h => hb1.cell (p := ⟨b, o, none⟩) h)
    obtain ⟨d0, d1, d2, d3, d4⟩ := fl_cells hf
    obtain ⟨e0, e1⟩ := en_cells he
    obtain ⟨R, hR⟩ : ∃ R, R = evF L (.mk k t x p l) := ⟨_, rfl⟩
    rw [← hR]
    rw [evF] at hR
    by_cases k1 : k = 1
    · have t1 : ((k : Int) == 1) = true := by simp [k1]
      obtain ⟨ha, h40, _⟩ := mayEv_kids hm (by rw [k1]; rfl)
      have hta := tallied_any d ih l ha (by omega) L D ka va n kc vn vc hn hs W1 hw1 hx1 hk1 hA1
      have HR2 : Hid (R = firstE 0 2 1 (evFs L l)) := Lib.hid (by rw [hR, if_pos k1])
      have hfi : ∀ (W : World) (b c0 c1 c2 : Nat), TaAt W b c0 c1 c2 → CntAt (evFs L l) c0 c1 c2 → Calls Tryz.prog 34 #[.pointer (some ⟨b, 0, none⟩), .int .i64 0, .int .i64 2, .int .i64 1] W fun e w' => e = .returned (.int .i64 (R : Nat)) ∧ Below W.heap.size W w' := fun W b c0 c1 c2 hTA hC => by
        have hh := firstEv_any b c0 c1 c2 0 2 1 (by omega) (by omega) W hTA
        rw [cnt_first hC 0 2 1 (by omega) (by omega), ← HR2.out] at hh
        exact hh
      have HTa := Lib.hid hta
      have HFi := Lib.hid hfi
      clear hW0 hW1 hb0 hb01 hb1 hf0 hf heb hsz he hR hs hw hx hp h hp1 hA hA1 hw1 hx1 hk1 hkids hm ha h40 hta hfi hT hX hTl hXl hn hmm ht hxl hl ih k1 hwf
      go_enter Tryz.func25, Tryz.ntmps25
      go_upto_region 1 with (fail)
      rw [HW0.out, HW1.out, HEb.out]
      go_wp2_with (first
        | (go_at_call 33; refine (HTa.out).mono ?_; rintro e w2 ⟨c0, c1, c2, rfl, hta, hcn⟩; have HTA := Lib.hid hta; have HCn := Lib.hid hcn; clear hta hcn)
        | (go_at_call 34; refine (HFi.out _ _ c0 c1 c2 HTA.out.ta HCn.out).mono ?_; rintro e w3 ⟨rfl, hb3⟩; have HB3 := Lib.hid (bthen (bthen HB1.out HTA.out.bel) hb3); clear hb3))
      go_ret
      exact ⟨rfl, HB3.out⟩
    · have t1 : ((k : Int) == 1) = false := by simp; omega
      by_cases k2 : k = 2
      · have t2 : ((k : Int) == 2) = true := by simp [k2]
        obtain ⟨ha, h40, _⟩ := mayEv_kids hm (by rw [k2]; rfl)
        have hta := tallied_any d ih l ha (by omega) L D ka va n kc vn vc hn hs W1 hw1 hx1 hk1 hA1
        have HR2 : Hid (R = firstE 1 2 0 (evFs L l)) := Lib.hid (by rw [hR, if_neg k1, if_pos k2])
        have hfi : ∀ (W : World) (b c0 c1 c2 : Nat), TaAt W b c0 c1 c2 → CntAt (evFs L l) c0 c1 c2 → Calls Tryz.prog 34 #[.pointer (some ⟨b, 0, none⟩), .int .i64 1, .int .i64 2, .int .i64 0] W fun e w' => e = .returned (.int .i64 (R : Nat)) ∧ Below W.heap.size W w' := fun W b c0 c1 c2 hTA hC => by
          have hh := firstEv_any b c0 c1 c2 1 2 0 (by omega) (by omega) W hTA
          rw [cnt_first hC 1 2 0 (by omega) (by omega), ← HR2.out] at hh
          exact hh
        have HTa := Lib.hid hta
        have HFi := Lib.hid hfi
        clear hW0 hW1 hb0 hb01 hb1 hf0 hf heb hsz he hR hs hw hx hp h hp1 hA hA1 hw1 hx1 hk1 hkids hm ha h40 hta hfi hT hX hTl hXl hn hmm ht hxl hl ih k1 k2 hwf
        go_enter Tryz.func25, Tryz.ntmps25
        go_upto_region 1 with (fail)
        rw [HW0.out, HW1.out, HEb.out]
        go_wp2_with (first
          | (go_at_call 33; refine (HTa.out).mono ?_; rintro e w2 ⟨c0, c1, c2, rfl, hta, hcn⟩; have HTA := Lib.hid hta; have HCn := Lib.hid hcn; clear hta hcn)
          | (go_at_call 34; refine (HFi.out _ _ c0 c1 c2 HTA.out.ta HCn.out).mono ?_; rintro e w3 ⟨rfl, hb3⟩; have HB3 := Lib.hid (bthen (bthen HB1.out HTA.out.bel) hb3); clear hb3))
        go_ret
        exact ⟨rfl, HB3.out⟩
      · have t2 : ((k : Int) == 2) = false := by simp; omega
        by_cases k3 : k = 3
        · have t3 : ((k : Int) == 3) = true := by simp [k3]
          obtain ⟨ha, _, hl1⟩ := mayEv_kids hm (by rw [k3]; rfl)
          obtain ⟨g, rfl⟩ : ∃ g, l = [g] := List.length_eq_one_iff.1 (hl1 k3)
          obtain rfl : n = 1 := by rw [hn]; rfl
          obtain ⟨b, off, v0, v1, v2, v3, v4, rfl, hb, q0, q1, q2, q3, q4, hg⟩ := hk1.get [g] _ 0 0 g rfl
          rw [show off + (0 + 0) * 5 = off from by omega] at q0 q1 q2 q3 q4
          obtain ⟨k', T', X', pa', pn', pc', ka', kn', kc', e⟩ := hg.shape
          simp only [Value.agg.injEq, Array.mk.injEq, List.cons.injEq, and_true] at e
          obtain ⟨rfl, rfl, rfl, rfl, rfl⟩ := e
          have hgm : mayF d g = true := by simpa using ha
          have hr := evF_lt L g
          obtain ⟨r, hrr⟩ : ∃ r, r = evF L g := ⟨_, rfl⟩
          have hcall : ∀ W, SamB W1 W → Calls Tryz.prog 25 #[.agg #[.int .i64 k', .string T', .string X', .slice pa' pn' pc', .slice ka' kn' kc'], .agg #[.string D, .slice va vn vc]] W fun e w' => e = .returned (.int .i64 (r : Int)) ∧ Below W.heap.size W w' := fun W hW => by
            rw [hrr]
            exact ih g _ L D va vn vc W hgm (hg.below hW) hs (hw1.below hW) (hx1.below hW) (hA1.below hW (Below.size hW))
          have hnot : ∀ W, SamB W1 W → Calls Tryz.prog 35 #[.int .i64 (r : Int)] W fun e w' => e = .returned (.int .i64 (flipE r : Nat)) ∧ Below W.heap.size W w' := fun W _ => (notEv_any r (by rw [hrr]; exact hr) W).mono (fun e w' h => ⟨h.1, by rw [← h.2]; exact Below.refl _ _⟩)
          have hE : ∀ W, SamB W1 W → W.cell? ⟨w.heap.size, 4, none⟩ = some (.slice (some ⟨b, off, none⟩) 1 kc) ∧ W.cell? ⟨eb, 0, none⟩ = some (.string D) ∧ W.cell? ⟨eb, 1, none⟩ = some (.slice va vn vc) ∧ W.cell? ⟨b, off, none⟩ = some (.int .i64 k') ∧ W.cell? ⟨b, off + 1, none⟩ = some (.string T') ∧ W.cell? ⟨b, off + 2, none⟩ = some (.string X') ∧ W.cell? ⟨b, off + 3, none⟩ = some (.slice pa' pn' pc') ∧ W.cell? ⟨b, off + 4, none⟩ = some (.slice ka' kn' kc') ∧ SamB W1 W := fun W hW => by
            have a4 := (fl_cells (fl_below hf hW (fl_lt hf))).2.2.2.2
            obtain ⟨z0, z1⟩ := en_cells (en_below he hW (en_lt he))
            exact ⟨a4, z0, z1, (Below.cell hW (p := ⟨b, off, none⟩) hb).trans q0, (Below.cell hW (p := ⟨b, off + 1, none⟩) hb).trans q1, (Below.cell hW (p := ⟨b, off + 2, none⟩) hb).trans q2, (Below.cell hW (p := ⟨b, off + 3, none⟩) hb).trans q3, (Below.cell hW (p := ⟨b, off + 4, none⟩) hb).trans q4, hW⟩
          have HE := Lib.hid hE
          have HCl := Lib.hid hcall
          have HNt := Lib.hid hnot
          have HR2 : Hid (R = flipE r) := Lib.hid (by rw [hR, if_neg k1, if_neg k2, if_pos k3, hrr]; rfl)
          have hst5 := hE W1 (Below.refl _ _)
          have hst6 := hE W1.drew (Below.drew (Below.refl _ _))
          clear hW0 hW1 hb0 hb01 hb1 hf0 hf heb hsz he hR hs hw hx hp h hp1 hA hA1 hw1 hx1 hk1 hkids hm ha hl1 hT hX hTl hXl hn hmm ht hxl hl ih k1 k2 k3 hwf hE hcall hnot hgm hr hrr hg hb
          go_enter Tryz.func25, Tryz.ntmps25
          go_upto_region 1 with (fail)
          rw [HW0.out, HW1.out, HEb.out]
          go_upto_region 7 with (fail)
          go_region_held3 (fun W => W.cell? ⟨w.heap.size, 4, none⟩ = some (.slice (some ⟨b, off, none⟩) 1 kc) ∧ W.cell? ⟨eb, 0, none⟩ = some (.string D) ∧ W.cell? ⟨eb, 1, none⟩ = some (.slice va vn vc) ∧ W.cell? ⟨b, off, none⟩ = some (.int .i64 k') ∧ W.cell? ⟨b, off + 1, none⟩ = some (.string T') ∧ W.cell? ⟨b, off + 2, none⟩ = some (.string X') ∧ W.cell? ⟨b, off + 3, none⟩ = some (.slice pa' pn' pc') ∧ W.cell? ⟨b, off + 4, none⟩ = some (.slice ka' kn' kc') ∧ SamB W1 W)
            (first | (with_reducible exact hst5) | (with_reducible exact hst6) | (go_split_ands; exact HE.out _ (SamB.go (by assumption) hbx)))
            (first
              | (go_at_call 25; go_split_ands; (with_reducible refine (HCl.out _ (by assumption)).mono ?_); rintro e wx ⟨rfl, hbx⟩)
              | (go_at_call 35; go_split_ands; (with_reducible refine (HNt.out _ (by assumption)).mono ?_); rintro e wy ⟨rfl, hbx⟩))
          all_goals
            go_split_ands
            have hT : SamB W1 wy := by assumption
            go_wp2
            go_ret
            exact ⟨by rw [HR2.out]; rfl, bthen HB1.out hT⟩
        · have t3 : ((k : Int) == 3) = false := by simp; omega
          have hnh : ¬ holdsC k = true := by unfold holdsC; simp [k1, k2, k3]
          obtain ⟨h5, h8, hpl, hx100⟩ := okLeaf_parts (mayEv_leaf hm hnh)
          have hlf := leafEv_any k T X D p L pa ka va m pc n kc vn vc (by rw [← bytes_len, hXl]; omega) hmm h5 (by omega) (fun y hy => by have := hpl y hy; omega) hs W1 hw1 hx1 hp1 hA1
          rw [hTl, hXl] at hlf
          have HLf := Lib.hid hlf
          have HR2 : Hid (leafE L k t x p = R) := Lib.hid (by rw [hR, if_neg k1, if_neg k2, if_neg k3])
          rw [HR2.out] at HLf
          clear hW0 hW1 hb0 hb01 hb1 hf0 hf heb hsz he hR hs hw hx hp h hp1 hA hA1 hw1 hx1 hk1 hkids hm hT hX hTl hXl hn hmm ht hxl hl ih k1 k2 k3 hwf h5 h8 hpl hx100 hlf hnh
          go_enter Tryz.func25, Tryz.ntmps25
          go_upto_region 1 with (fail)
          rw [HW0.out, HW1.out, HEb.out]
          go_wp2_with (go_at_call 36; refine (HLf.out).mono ?_; rintro e w2 ⟨rfl, hb2⟩; have HB2 := Lib.hid (bthen HB1.out hb2); clear hb2)
          go_ret
          exact ⟨rfl, HB2.out⟩
set_option maxRecDepth 100000 in
set_option maxHeartbeats 4000000 in
theorem evalP_any (f : FT) (v : Value) (L : List AT) (D : ByteArray) (va : Option Addr) (vn vc : Nat) (w : World) (h : IsFl (Lt w) w f v) (hs : smallA L) (hw : LaidW w) (hx : LaidX w) (hA : IsA w.heap.size w L (.slice va vn vc)) :
    Calls Tryz.prog 12 #[v, .agg #[.string D, .slice va vn vc]] w fun e w' => e = .returned (.int .i64 (evalD L f : Nat)) ∧ Below w.heap.size w w' := by
  obtain ⟨k, T, X, pa, m, pc, ka, n, kc, rfl⟩ := h.shape
  obtain ⟨W0, hW0⟩ : ∃ W, W = w.alloc (.cells #[.int .i64 k, .string T, .string X, .slice pa m pc, .slice ka n kc] 25) := ⟨_, rfl⟩
  obtain ⟨W1, hW1⟩ : ∃ W, W = W0.alloc (.cells #[.string D, .slice va vn vc] 28) := ⟨_, rfl⟩
  have hb0 : Below w.heap.size w W0 := by rw [hW0]; exact box5 w _ _ _ _ _
  have hb01 : Below W0.heap.size W0 W1 := by rw [hW1]; exact (Below.refl _ _).alloc (Nat.le_refl _) _
  have hb1 : Below w.heap.size w W1 := bthen hb0 hb01
  have hf0 : FlAt W0 w.heap.size (.int .i64 k) (.string T) (.string X) (.slice pa m pc) (.slice ka n kc) := by rw [hW0]; exact heap_alloc_new w _
  have hf : FlAt W1 w.heap.size (.int .i64 k) (.string T) (.string X) (.slice pa m pc) (.slice ka n kc) := fl_below hf0 hb01 (fl_lt hf0)
  obtain ⟨eb, heb⟩ : ∃ b, b = w.heap.size + 1 := ⟨_, rfl⟩
  have hsz : W0.heap.size = eb := by rw [heb, hW0]; simp only [World.alloc, Array.size_push]
  have he : EnAt W1 eb D (.slice va vn vc) := by rw [← hsz, hW1]; exact heap_alloc_new W0 _
  have HW0 := Lib.hid hW0.symm
  have HW1 := Lib.hid hW1.symm
  have HEb := Lib.hid heb.symm
  have HB1 := Lib.hid hb1
  have hfl1 : IsFl (Lt W1) W1 f (.agg #[.int .i64 k, .string T, .string X, .slice pa m pc, .slice ka n kc]) := h.below hb1
  have hmy := mayTop_any f _ W1 hfl1
  obtain ⟨q, hq⟩ : ∃ q, q = mayF 13 f := ⟨_, rfl⟩
  rw [← hq] at hmy
  have HMy := Lib.hid hmy
  have HTr := Lib.hid (fun (hm : mayF 13 f = true) (W : World) (hW : Below W1.heap.size W1 W) => truth_all 13 f _ L D va vn vc W hm (hfl1.below hW) hs (hw.below (bthen hb1 hW)) (hx.below (bthen hb1 hW)) (hA.below (bthen hb1 hW) (bthen hb1 hW).size))
  have HFl := Lib.hid hf
  have HEn := Lib.hid he
  obtain ⟨d0, d1, d2, d3, d4⟩ := fl_cells hf
  obtain ⟨R, hR⟩ : ∃ R, R = evalD L f := ⟨_, rfl⟩
  rw [← hR]
  unfold evalD at hR
  rw [← hq] at hR
  have HR := Lib.hid hR
  have HQ := Lib.hid hq
  clear hW0 hW1 hb0 hb01 hb1 hf0 hf heb hsz he hfl1 hmy hq hR h hs hw hx hA
  cases q with
  | false =>
    go_enter Tryz.func12, Tryz.ntmps12
    go_upto_region 1 with (fail)
    rw [HW0.out, HW1.out, HEb.out]
    go_wp2_with (go_at_call 24; refine (HMy.out).mono ?_; rintro e w2 ⟨rfl, hb2⟩; have HB2 := Lib.hid (bthen HB1.out hb2); clear hb2)
    go_ret
    exact ⟨by rw [HR.out]; rfl, HB2.out⟩
  | true =>
    have HR2 : Hid (evF L f = R) := Lib.hid (by rw [HR.out, if_pos rfl])
    go_enter Tryz.func12, Tryz.ntmps12
    go_upto_region 1 with (fail)
    rw [HW0.out, HW1.out, HEb.out]
    go_wp2_with (first
      | (go_at_call 24; refine (HMy.out).mono ?_; rintro e w2 ⟨rfl, hb2⟩; have HX2 := Lib.hid hb2; have HB2 := Lib.hid (bthen HB1.out hb2); (obtain ⟨g0, g1, g2, g3, g4⟩ := fl_cells (fl_below HFl.out hb2 (fl_lt HFl.out))); (obtain ⟨e0, e1⟩ := en_cells (en_below HEn.out hb2 (en_lt HEn.out))); clear hb2)
      | (go_at_call 25; refine (HTr.out HQ.out.symm _ HX2.out).mono ?_; rintro e w3 ⟨rfl, hb3⟩; have HB3 := Lib.hid (bthen HB2.out hb3); clear hb3))
    go_ret
    exact ⟨by rw [← HR2.out]; rfl, HB3.out⟩
end Go.Proofs.YtdgnefcpeocbjaaGreatDoor

/- The document's eval, Eval: whole. -/
namespace Go.Proofs.YtdgnefcpeocbjaaGreatDoor
open Go.RowKit
set_option linter.unusedVariables false
set_option linter.unusedSimpArgs false

theorem okTypeR_len {t : List UInt8} (h : okType t = true) : t.length ≤ 30 := by
  unfold okType at h
  simp only [Bool.and_eq_true, decide_eq_true_eq] at h
  exact h.1.1.2
theorem okLeafR_kind {k : Int} {t x : List UInt8} {p : List (List UInt8)} {m : Nat} (h : okLeaf k t x p m = true) : (k = 4 ∨ k = 6 ∨ k = 7) ∨ (k = 5 ∧ okParts p = true) ∨ k = 8 := by
  unfold okLeaf at h
  simp only [Bool.and_eq_true] at h
  obtain ⟨_, h⟩ := h
  split at h
  · rename_i hk; exact .inl hk
  · split at h
    · rename_i h5
      simp only [Bool.and_eq_true] at h
      exact .inr (.inl ⟨h5, h.2⟩)
    · split at h
      · rename_i h8; exact .inr (.inr h8)
      · cases h
set_option maxHeartbeats 4000000 in
theorem evR_all : ∀ d : Nat, EvRIs d := by
  intro d
  induction d with
  | zero => intro f v L D va vn vc w hm; cases f; cases hm
  | succ d ih =>
    intro f v L D va vn vc w hm h hs hA
    obtain ⟨k, t, x, p, l⟩ := f
    obtain ⟨pa, pc, ka, kc, rfl, hwf, ht, hxl, hp, hl, hkids⟩ := h.parts
    obtain ⟨T, hT, hTl⟩ := strV_text t
    obtain ⟨X, hX, hXl⟩ := strV_text x
    rw [hT, hX]
    obtain ⟨n, hn⟩ : ∃ n, n = l.length := ⟨_, rfl⟩
    obtain ⟨m, hmm⟩ : ∃ m, m = p.length := ⟨_, rfl⟩
    rw [← hn, ← hmm, evF]
    by_cases k1 : k = 1
    · obtain ⟨ha, h40, _⟩ := mayEv_kids hm (by rw [k1]; rfl)
      rw [if_pos k1]
      exact kids1R_any d ih k T X D l L pa ka va n m pc kc vn vc hn (by omega) hs w hA ha hkids k1
    · rw [if_neg k1]
      by_cases k2 : k = 2
      · obtain ⟨ha, h40, _⟩ := mayEv_kids hm (by rw [k2]; rfl)
        rw [if_pos k2]
        exact kids2R_any d ih k T X D l L pa ka va n m pc kc vn vc hn (by omega) hs w hA ha hkids k2
      · rw [if_neg k2]
        by_cases k3 : k = 3
        · obtain ⟨ha, h40, hl1⟩ := mayEv_kids hm (by rw [k3]; rfl)
          rw [if_pos k3]
          exact notR_any d ih k T X D l L pa ka va n m pc kc vn vc hn (by omega) hs w hA ha hkids k3 (by rw [hn]; exact hl1 k3)
        · rw [if_neg k3]
          have hnh : ¬ holdsC k = true := by unfold holdsC; simp [k1, k2, k3]
          have hlf := mayEv_leaf hm hnh
          have hT30 := okTypeR_len (okLeaf_type hlf).1
          obtain ⟨h5, h8, hpl, hx100⟩ := okLeaf_parts hlf
          have hTs : T.size ≤ 1000000 := by rw [← bytes_len, hTl]; omega
          have hXs : X.size ≤ 1000000 := by rw [← bytes_len, hXl]; omega
          rw [← hTl, ← hXl]
          by_cases h0 : ruleD T.data.toList = 0
          · exact zeroR_any k T X D p L pa ka va m pc n kc vn vc hTs hXs hs w hA ⟨k1, k2, k3⟩ h0
          · rcases okLeafR_kind hlf with (hk | hk | hk) | ⟨hk, hpp⟩ | hk
            · exact eqR_any k T X D p L pa ka va m pc n kc vn vc hTs hXs hs w hA hk h0
            · exact ord6R_any k T X D p L pa ka va m pc n kc vn vc hTs hXs hs w hA hk h0
            · exact ord7R_any k T X D p L pa ka va m pc n kc vn vc hTs hXs hs w hA hk h0
            · obtain ⟨⟨p1, p2⟩, p3, _⟩ := (okParts_iff p).1 hpp
              exact subR_any k T X D p L pa ka va m pc n kc vn vc hTs hXs hs w hA hmm (by omega) (by omega) (fun y hy => by have := hpl y hy; omega) (fun i hi => (p3 i hi).2) (by rw [hmm]; exact hp) hk h0
            · exact hasR_any k T X D p L pa ka va m pc n kc vn vc hTs hXs hs w hA hk h0
set_option maxRecDepth 100000 in
set_option maxHeartbeats 4000000 in
theorem evalR_any (f : FT) (v : Value) (L : List AT) (D : ByteArray) (va : Option Addr) (vn vc : Nat) (w : World) (h : IsFl (Lt w) w f v) (hs : smallA L) (hA : IsA w.heap.size w L (.slice va vn vc)) :
    Calls Tryz.prog 13 #[v, .agg #[.string D, .slice va vn vc]] w fun e w' => e = .returned (.int .i64 (evalD L f : Nat)) ∧ Below w.heap.size w w' := by
  obtain ⟨k, T, X, pa, m, pc, ka, n, kc, rfl⟩ := h.shape
  obtain ⟨W0, hW0⟩ : ∃ W, W = w.alloc (.cells #[.int .i64 k, .string T, .string X, .slice pa m pc, .slice ka n kc] 25) := ⟨_, rfl⟩
  obtain ⟨W1, hW1⟩ : ∃ W, W = W0.alloc (.cells #[.string D, .slice va vn vc] 28) := ⟨_, rfl⟩
  have hb0 : Below w.heap.size w W0 := by rw [hW0]; exact box5 w _ _ _ _ _
  have hb01 : Below W0.heap.size W0 W1 := by rw [hW1]; exact (Below.refl _ _).alloc (Nat.le_refl _) _
  have hb1 : Below w.heap.size w W1 := bthen hb0 hb01
  have hf0 : FlAt W0 w.heap.size (.int .i64 k) (.string T) (.string X) (.slice pa m pc) (.slice ka n kc) := by rw [hW0]; exact heap_alloc_new w _
  have hf : FlAt W1 w.heap.size (.int .i64 k) (.string T) (.string X) (.slice pa m pc) (.slice ka n kc) := fl_below hf0 hb01 (fl_lt hf0)
  obtain ⟨eb, heb⟩ : ∃ b, b = w.heap.size + 1 := ⟨_, rfl⟩
  have hsz : W0.heap.size = eb := by rw [heb, hW0]; simp only [World.alloc, Array.size_push]
  have he : EnAt W1 eb D (.slice va vn vc) := by rw [← hsz, hW1]; exact heap_alloc_new W0 _
  have HW0 := Lib.hid hW0.symm
  have HW1 := Lib.hid hW1.symm
  have HEb := Lib.hid heb.symm
  have HB1 := Lib.hid hb1
  have hfl1 : IsFl (Lt W1) W1 f (.agg #[.int .i64 k, .string T, .string X, .slice pa m pc, .slice ka n kc]) := h.below hb1
  have hmy := mayFilter_any f _ W1 hfl1
  obtain ⟨q, hq⟩ : ∃ q, q = mayF 13 f := ⟨_, rfl⟩
  rw [← hq] at hmy
  have HMy := Lib.hid hmy
  have HTr := Lib.hid (fun (hm : mayF 13 f = true) (W : World) (hW : Below W1.heap.size W1 W) => evR_all 13 f _ L D va vn vc W hm (hfl1.below hW) hs (hA.below (bthen hb1 hW) (bthen hb1 hW).size))
  have HFl := Lib.hid hf
  have HEn := Lib.hid he
  obtain ⟨d0, d1, d2, d3, d4⟩ := fl_cells hf
  obtain ⟨R, hR⟩ : ∃ R, R = evalD L f := ⟨_, rfl⟩
  rw [← hR]
  unfold evalD at hR
  rw [← hq] at hR
  have HR := Lib.hid hR
  have HQ := Lib.hid hq
  clear hW0 hW1 hb0 hb01 hb1 hf0 hf heb hsz he hfl1 hmy hq hR h hs hA
  cases q with
  | false =>
    go_enter Tryz.func13, Tryz.ntmps13
    go_upto_region 1 with (fail)
    rw [HW0.out, HW1.out, HEb.out]
    go_wp2_with (go_at_call 18; refine (HMy.out).mono ?_; rintro e w2 ⟨rfl, hb2⟩; have HB2 := Lib.hid (bthen HB1.out hb2); clear hb2)
    go_ret
    exact ⟨by rw [HR.out]; rfl, HB2.out⟩
  | true =>
    have HR2 : Hid (evF L f = R) := Lib.hid (by rw [HR.out, if_pos rfl])
    go_enter Tryz.func13, Tryz.ntmps13
    go_upto_region 1 with (fail)
    rw [HW0.out, HW1.out, HEb.out]
    go_wp2_with (first
      | (go_at_call 18; refine (HMy.out).mono ?_; rintro e w2 ⟨rfl, hb2⟩; have HX2 := Lib.hid hb2; have HB2 := Lib.hid (bthen HB1.out hb2); (obtain ⟨g0, g1, g2, g3, g4⟩ := fl_cells (fl_below HFl.out hb2 (fl_lt HFl.out))); (obtain ⟨e0, e1⟩ := en_cells (en_below HEn.out hb2 (en_lt HEn.out))); clear hb2)
      | (go_at_call 26; refine (HTr.out HQ.out.symm _ HX2.out).mono ?_; rintro e w3 ⟨rfl, hb3⟩; have HB3 := Lib.hid (bthen HB2.out hb3); clear hb3))
    go_ret
    exact ⟨by rw [← HR2.out]; rfl, HB3.out⟩
end Go.Proofs.YtdgnefcpeocbjaaGreatDoor

/- brooklaw4.Person, awake: the walks. -/
namespace Go.Proofs.YtdgnefcpeocbjaaGreatDoor
open Go.RowKit
set_option linter.unusedVariables false

def perL (n : List UInt8) : List AT := [([99, 110], [n]), ([111, 98, 106, 101, 99, 116, 99, 108, 97, 115, 115], [[112, 101, 114, 115, 111, 110]]), ([115, 110], [[115]])]
def perD (n : List UInt8) : List UInt8 := [99, 110, 61] ++ n ++ [44, 111, 61, 120]

/-- The blocks of a person's attributes. -/
structure PerAt (w : World) (g : Nat) (N : ByteArray) : Prop where
  b1 : w.heap[g - 3]? = some (.cells #[.string N] 9 (0, 0))
  b2 : w.heap[g - 2]? = some (.cells #[.string ⟨#[112, 101, 114, 115, 111, 110]⟩] 9 (0, 0))
  b3 : w.heap[g - 1]? = some (.cells #[.string ⟨#[115]⟩] 9 (0, 0))
  b4 : w.heap[g]? = some (.cells #[.string ⟨#[99, 110]⟩, .slice (some ⟨g - 3, 0, none⟩) 1 1, .string ⟨#[111, 98, 106, 101, 99, 116, 99, 108, 97, 115, 115]⟩, .slice (some ⟨g - 2, 0, none⟩) 1 1, .string ⟨#[115, 110]⟩, .slice (some ⟨g - 1, 0, none⟩) 1 1] 45 (0, 0))
  lt : g < w.heap.size
theorem PerAt.below {w w' : World} {g n : Nat} {N : ByteArray} (h : PerAt w g N) (hb : Below n w w') (hn : g < n) : PerAt w' g N :=
  ⟨(hb.block _ (by omega)).trans h.b1, (hb.block _ (by omega)).trans h.b2, (hb.block _ (by omega)).trans h.b3, (hb.block _ hn).trans h.b4, Nat.lt_of_lt_of_le h.lt hb.size⟩
theorem isT_block {w : World} {b n0 : Nat} {X : ByteArray} {e : TypeId} (h : w.heap[b]? = some (.cells #[.string X] e (0, 0))) (hn : b < n0) : IsT n0 w [X.data.toList] (.slice (some ⟨b, 0, none⟩) 1 1) :=
  ⟨_, _, rfl, by unfold maxLen; simp, fun j hj => by
    have : j = 0 := by simp at hj; omega
    subst this
    refine ⟨b, 0, rfl, hn, ?_⟩
    rw [show [X.data.toList][0] = X.data.toList from rfl, strV_whole]
    simp only [World.cell?, h]; rfl⟩
theorem PerAt.isA {w : World} {g : Nat} {N : ByteArray} (h : PerAt w g N) : IsA w.heap.size w (perL N.data.toList) (.slice (some ⟨g, 0, none⟩) 3 3) := by
  have hg := h.lt
  refine ⟨_, _, rfl, by unfold maxLen perL; simp, fun j hj => ?_⟩
  match j, hj with
  | 0, _ => exact ⟨g, 0, _, rfl, hg, by simp only [World.cell?, h.b4]; rfl, by simp only [World.cell?, h.b4]; rfl, isT_block h.b1 (by omega)⟩
  | 1, _ => exact ⟨g, 0, _, rfl, hg, by simp only [World.cell?, h.b4]; rfl, by simp only [World.cell?, h.b4]; rfl, isT_block h.b2 (by omega)⟩
  | 2, _ => exact ⟨g, 0, _, rfl, hg, by simp only [World.cell?, h.b4]; rfl, by simp only [World.cell?, h.b4]; rfl, isT_block h.b3 (by omega)⟩

theorem PerAt.cells {w : World} {g : Nat} {N : ByteArray} (h : PerAt w g N) : w.cell? ⟨g, 2, none⟩ = some (.string ⟨#[111, 98, 106, 101, 99, 116, 99, 108, 97, 115, 115]⟩) ∧ w.cell? ⟨g, 3, none⟩ = some (.slice (some ⟨g - 2, 0, none⟩) 1 1) ∧ w.cell? ⟨g, 4, none⟩ = some (.string ⟨#[115, 110]⟩) ∧ w.cell? ⟨g, 5, none⟩ = some (.slice (some ⟨g - 1, 0, none⟩) 1 1) :=
  ⟨by simp only [World.cell?, h.b4]; rfl, by simp only [World.cell?, h.b4]; rfl, by simp only [World.cell?, h.b4]; rfl, by simp only [World.cell?, h.b4]; rfl⟩
theorem per_blocks (w : World) (N : ByteArray) (o : Obj) : PerAt (((((w.alloc o).alloc (.cells #[.string N] 9)).alloc (.cells #[.string ⟨#[112, 101, 114, 115, 111, 110]⟩] 9)).alloc (.cells #[.string ⟨#[115]⟩] 9)).alloc (.cells #[.string ⟨#[99, 110]⟩, .slice (some ⟨w.heap.size + 1, 0, none⟩) 1 1, .string ⟨#[111, 98, 106, 101, 99, 116, 99, 108, 97, 115, 115]⟩, .slice (some ⟨w.heap.size + 1 + 1, 0, none⟩) 1 1, .string ⟨#[115, 110]⟩, .slice (some ⟨w.heap.size + 1 + 1 + 1, 0, none⟩) 1 1] 45)) (w.heap.size + 4) N := by
  have s1 : (w.alloc o).heap.size = w.heap.size + 1 := by simp
  have e1 := heap_alloc_new (w.alloc o) (.cells #[.string N] 9)
  rw [s1] at e1
  generalize w.alloc o = W1 at s1 e1 ⊢
  have s2 : (W1.alloc (.cells #[.string N] 9)).heap.size = w.heap.size + 2 := by simp; omega
  have e2 := heap_alloc_new (W1.alloc (.cells #[.string N] 9)) (.cells #[.string ⟨#[112, 101, 114, 115, 111, 110]⟩] 9)
  rw [s2] at e2
  generalize W1.alloc (.cells #[.string N] 9) = W2 at s2 e1 e2 ⊢
  have s3 : (W2.alloc (.cells #[.string ⟨#[112, 101, 114, 115, 111, 110]⟩] 9)).heap.size = w.heap.size + 3 := by simp; omega
  have f1 := (heap_alloc_old W2 (.cells #[.string ⟨#[112, 101, 114, 115, 111, 110]⟩] 9) (show w.heap.size + 1 < W2.heap.size by omega)).trans e1
  have e3 := heap_alloc_new (W2.alloc (.cells #[.string ⟨#[112, 101, 114, 115, 111, 110]⟩] 9)) (.cells #[.string ⟨#[115]⟩] 9)
  rw [s3] at e3
  generalize W2.alloc (.cells #[.string ⟨#[112, 101, 114, 115, 111, 110]⟩] 9) = W3 at s3 e2 e3 f1 ⊢
  have s4 : (W3.alloc (.cells #[.string ⟨#[115]⟩] 9)).heap.size = w.heap.size + 4 := by simp; omega
  have g1 := (heap_alloc_old W3 (.cells #[.string ⟨#[115]⟩] 9) (show w.heap.size + 1 < W3.heap.size by omega)).trans f1
  have g2 := (heap_alloc_old W3 (.cells #[.string ⟨#[115]⟩] 9) (show w.heap.size + 2 < W3.heap.size by omega)).trans e2
  generalize W3.alloc (.cells #[.string ⟨#[115]⟩] 9) = W4 at s4 e3 g1 g2 ⊢
  generalize hO : Obj.cells #[.string ⟨#[99, 110]⟩, .slice (some ⟨w.heap.size + 1, 0, none⟩) 1 1, .string ⟨#[111, 98, 106, 101, 99, 116, 99, 108, 97, 115, 115]⟩, .slice (some ⟨w.heap.size + 1 + 1, 0, none⟩) 1 1, .string ⟨#[115, 110]⟩, .slice (some ⟨w.heap.size + 1 + 1 + 1, 0, none⟩) 1 1] 45 = O
  have e4 := heap_alloc_new W4 O
  rw [s4] at e4
  have k1 := (heap_alloc_old W4 O (show w.heap.size + 1 < W4.heap.size by omega)).trans g1
  have k2 := (heap_alloc_old W4 O (show w.heap.size + 2 < W4.heap.size by omega)).trans g2
  have k3 := (heap_alloc_old W4 O (show w.heap.size + 3 < W4.heap.size by omega)).trans e3
  exact ⟨k1, k2, k3, by rw [e4, ← hO]; rfl, by simp; omega⟩

theorem perAt_set {w : World} {g b : Nat} {N : ByteArray} {i : Nat} {x : Value} (h : PerAt w g N) (hb : b < g - 3) : PerAt (w.setCell ⟨b, i, none⟩ x) g N :=
  ⟨(block_ne w _ _ (show g - 3 ≠ b by omega)).trans h.b1, (block_ne w _ _ (show g - 2 ≠ b by omega)).trans h.b2, (block_ne w _ _ (show g - 1 ≠ b by omega)).trans h.b3, (block_ne w _ _ (show g ≠ b by omega)).trans h.b4, by rw [lt_set]; exact h.lt⟩

set_option maxRecDepth 100000 in
set_option maxHeartbeats 4000000 in
theorem person_any (N : ByteArray) (hN : N.size ≤ 1000) (w : World) : Calls Tryz.prog 27 #[.string N] w fun e w' => ∃ D g, e = .returned (.agg #[.string D, .slice (some ⟨g, 0, none⟩) 3 3]) ∧ D.data.toList = perD N.data.toList ∧ PerAt w' g N ∧ w.heap.size + 4 = g ∧ Below w.heap.size w w' := by
  obtain ⟨T, hT⟩ : ∃ T, (⟨#[99, 110, 61]⟩ : ByteArray) ++ N = T := ⟨_, rfl⟩
  obtain ⟨D, hD⟩ : ∃ D, T ++ (⟨#[44, 111, 61, 120]⟩ : ByteArray) = D := ⟨_, rfl⟩
  have hTs : T.size = 3 + N.size := by rw [← hT, ← bytes_len, app_list, List.length_append, bytes_len, bytes_len]; rfl
  have hDl : D.data.toList = perD N.data.toList := by rw [← hD, ← hT, app_list, app_list]; rfl
  have q1 : 3 + N.size ≤ 9223372036854775807 := by omega
  have q2 : T.size + 4 ≤ 9223372036854775807 := by omega
  have HDl := Lib.hid hDl
  have HP := Lib.hid (fun o => per_blocks w N o)
  have HB := Lib.hid (fun o => ((((((Below.refl w.heap.size w).alloc (Nat.le_refl _) o).alloc (by simp) (.cells #[.string N] 9)).alloc (by simp; omega) (.cells #[.string ⟨#[112, 101, 114, 115, 111, 110]⟩] 9)).alloc (by simp; omega) (.cells #[.string ⟨#[115]⟩] 9)).alloc (by simp; omega) (.cells #[.string ⟨#[99, 110]⟩, .slice (some ⟨w.heap.size + 1, 0, none⟩) 1 1, .string ⟨#[111, 98, 106, 101, 99, 116, 99, 108, 97, 115, 115]⟩, .slice (some ⟨w.heap.size + 1 + 1, 0, none⟩) 1 1, .string ⟨#[115, 110]⟩, .slice (some ⟨w.heap.size + 1 + 1 + 1, 0, none⟩) 1 1] 45)))
  clear hTs hDl
  go_enter Tryz.func27, Tryz.ntmps27
  go_wp2
  refine bodyPost_ret (v := .agg #[.string D, .slice (some ⟨w.heap.size + 4, 0, none⟩) 3 3]) (by simp [results, Tryz.results27, go_sem]) rfl ⟨D, w.heap.size + 4, rfl, HDl.out, ?_, rfl, ?_⟩
  · exact HP.out _
  · exact HB.out _

theorem awake_0 : checkD [] [] = 34 := by decide +kernel
theorem awake_1 : checkD (perD [97, 110, 110]) (perL [97, 110, 110]) = 0 := by decide +kernel
theorem awake_2 : checkD [99, 110, 61, 97, 110, 110] [] = 65 := by decide +kernel

end Go.Proofs.YtdgnefcpeocbjaaGreatDoor

/- EvalOrder: what eval tells of one number and of one text, as functions. No program. -/
namespace Go.Proofs.YtdgnefcpeocbjaaGreatDoor
set_option linter.unusedVariables false
set_option linter.unusedSimpArgs false

theorem foldl_plain : ∀ (l out : List UInt8), (∀ c ∈ l, c.toNat ≠ 32) → l.foldl fstep (out, false) = (out ++ low l, false)
  | [], out, _ => by simp [low]
  | c :: r, out, h => by
    have hc := h c (by simp)
    show r.foldl fstep (fstep (out, false) c) = _
    have hs : fstep (out, false) c = (out ++ [lowC c], false) := by unfold fstep; rw [if_neg hc]; simp
    rw [hs, foldl_plain r _ (fun x hx => h x (by simp [hx]))]
    simp [low]
theorem fold_plainE {l : List UInt8} (h : ∀ c ∈ l, c.toNat ≠ 32) : fold l = low l := by
  unfold fold frun
  rw [foldl_plain l [] h]
  simp
theorem low_plainE {l : List UInt8} (h : ∀ c ∈ l, lowC c = c) : low l = l := by
  unfold low
  induction l with
  | nil => rfl
  | cons c r ih => rw [List.map_cons, h c (by simp), ih (fun x hx => h x (by simp [hx]))]
def numOk (c : UInt8) : Bool := !(c == 45 || (decide (48 ≤ c.toNat) && decide (c.toNat ≤ 57))) || (lowC c == c && decide (c.toNat ≠ 32))
theorem num_ok (c : UInt8) : numOk c = true := all_bytes numOk (by decide +kernel) c
theorem itoa_plain (m : Int) : ∀ c ∈ Lib.itoa m, lowC c = c ∧ c.toNat ≠ 32 := fun c hc => by
  have h := num_ok c
  unfold numOk at h
  rcases itoa_chars m c hc with h1 | h1
  · subst h1; decide
  · simp only [Bool.or_eq_true, Bool.not_eq_true', Bool.and_eq_true, decide_eq_true_eq, beq_iff_eq, Bool.or_eq_false_iff, Bool.and_eq_false_iff] at h
    rcases h with h | h
    · obtain ⟨_, h | h⟩ := h <;> simp at h <;> omega
    · exact h
theorem fold_c (m : Int) (x : UInt8) (hx : x = 99 ∨ x = 67) : fold (x :: Lib.itoa m) = 99 :: Lib.itoa m := by
  have hp := itoa_plain m
  rw [fold_plainE (fun c hc => by
    rcases List.mem_cons.1 hc with h | h
    · subst h; rcases hx with h | h <;> subst h <;> decide
    · exact (hp c h).2)]
  show lowC x :: low (Lib.itoa m) = _
  rw [low_plainE (fun c hc => (hp c hc).1)]
  rcases hx with h | h <;> subst h <;> rfl
def ordL (m : Int) : List AT := [([117, 105, 100, 110, 117, 109, 98, 101, 114], [Lib.itoa m]), ([99, 110], [99 :: Lib.itoa m])]
theorem ord_small {m : Int} (h : m.natAbs < 1000000000000000) : smallA (ordL m) := by
  have := itoa_len m h
  refine ⟨by simp [ordL], fun a ha => ?_⟩
  simp only [ordL, List.mem_cons, List.not_mem_nil, or_false] at ha
  rcases ha with rfl | rfl
  · refine ⟨by simp, by simp, fun s hs => ?_⟩
    simp only [List.mem_singleton] at hs
    subst hs
    omega
  · refine ⟨by simp, by simp, fun s hs => ?_⟩
    simp only [List.mem_singleton] at hs
    subst hs
    simp
    omega
abbrev uidN : List UInt8 := [117, 105, 100, 78, 117, 109, 98, 101, 114]
theorem find_uid (m : Int) : findA (ordL m) uidN = [Lib.itoa m] := rfl
theorem find_cn (m : Int) : findA (ordL m) [99, 110] = [99 :: Lib.itoa m] := rfl
theorem rule_uid : ruleD uidN = 2 := by decide +kernel
theorem rule_cn : ruleD [99, 110] = 1 := by decide +kernel
theorem norm_uid {m : Int} (h : m.natAbs < 1000000000000000) : normD 2 (Lib.itoa m) = some (Lib.itoa m) := by
  have h1 := itoa_len m h
  have h2 := itoa_ne m
  unfold normD
  rw [if_neg (by intro e; rcases e with e | e; exact h2 e; omega), if_neg (by decide), if_pos rfl, numD_itoa m h]
  rfl
theorem norm_cn {m : Int} (h : m.natAbs < 1000000000000000) (x : UInt8) (hx : x = 99 ∨ x = 67) : normD 1 (x :: Lib.itoa m) = some (99 :: Lib.itoa m) := by
  have h1 := itoa_len m h
  unfold normD
  rw [if_neg (by simp; omega), if_pos rfl, fold_c m x hx, if_neg (by simp)]
theorem lessE_uid {m n : Int} (hm : m.natAbs < 1000000000000000) (hn : n.natAbs < 1000000000000000) : lessD 2 (Lib.itoa m) (Lib.itoa n) = some (decide (m < n)) := by
  unfold lessD
  rw [norm_uid hm, norm_uid hn, numD_itoa m hm, numD_itoa n hn]
  rfl
theorem lessE_cn {m n : Int} (hm : m.natAbs < 1000000000000000) (hn : n.natAbs < 1000000000000000) (x y : UInt8) (hx : x = 99 ∨ x = 67) (hy : y = 99 ∨ y = 67) : lessD 1 (x :: Lib.itoa m) (y :: Lib.itoa n) = some (Op.bytesLess (99 :: Lib.itoa m) (99 :: Lib.itoa n)) := by
  unfold lessD
  rw [norm_cn hm x hx, norm_cn hn y hy]
  rfl
theorem may_leaf (k : Int) (hk : k = 4 ∨ k = 6 ∨ k = 7) (t x : List UInt8) (ht : okType t = true) (hx : x.length ≤ 100) : mayF 13 (.mk k t x [] []) = true := by
  have hh : holdsC k = false := by unfold holdsC; rcases hk with rfl | rfl | rfl <;> rfl
  show (if holdsC k = true then _ else okLeaf k t x [] ([] : List FT).length) = true
  rw [hh, if_neg (by decide)]
  unfold okLeaf
  rw [ht, if_pos hk, decide_eq_true hx]
  rfl
theorem evalD_leaf (L : List AT) (k : Int) (hk : k = 4 ∨ k = 6 ∨ k = 7) (t x : List UInt8) (ht : okType t = true) (hx : x.length ≤ 100) : evalD L (.mk k t x [] []) = leafE L k t x [] := by
  unfold evalD
  rw [if_pos (may_leaf k hk t x ht hx), evF, if_neg (by omega), if_neg (by omega), if_neg (by omega)]
def bN (b : Bool) : Nat := if b then 1 else 0
theorem uid_eq {m n : Int} (hm : m.natAbs < 1000000000000000) (hn : n.natAbs < 1000000000000000) : evalD (ordL m) (.mk 4 uidN (Lib.itoa n) [] []) = bN (decide (m = n)) := by
  have hl := itoa_len n hn
  rw [evalD_leaf _ 4 (by decide) _ _ (by decide +kernel) (by omega)]
  unfold leafE askE fitE hasA
  rw [find_uid, if_pos rfl, if_pos rfl, rule_uid, norm_uid hn]
  simp only [Option.isSome_some, if_true, List.any_cons, List.any_nil, Bool.or_false]
  unfold likeB
  rw [rule_uid, norm_uid hn, norm_uid hm]
  have : sameO (some (Lib.itoa m)) (some (Lib.itoa n)) = decide (m = n) := by
    rw [Bool.eq_iff_iff]
    simp only [sameO, beq_iff_eq, decide_eq_true_eq]
    exact ⟨itoa_inj hm, fun e => by rw [e]⟩
  rw [this]
  rfl
theorem uid_ge {m n : Int} (hm : m.natAbs < 1000000000000000) (hn : n.natAbs < 1000000000000000) : evalD (ordL m) (.mk 6 uidN (Lib.itoa n) [] []) = bN (!decide (m < n)) := by
  have hl := itoa_len n hn
  rw [evalD_leaf _ 6 (by decide) _ _ (by decide +kernel) (by omega)]
  unfold leafE askE fitE
  rw [find_uid, rule_uid, lessE_uid hn hn]
  simp only [show ¬ ((6 : Int) = 4) from by decide, if_false, true_or, if_true, Option.isSome_some, List.any_cons, List.any_nil, Bool.or_false]
  unfold aboveE
  rw [lessE_uid hm hn]
  cases decide (m < n) <;> rfl
theorem uid_le {m n : Int} (hm : m.natAbs < 1000000000000000) (hn : n.natAbs < 1000000000000000) : evalD (ordL m) (.mk 7 uidN (Lib.itoa n) [] []) = bN (!decide (n < m)) := by
  have hl := itoa_len n hn
  rw [evalD_leaf _ 7 (by decide) _ _ (by decide +kernel) (by omega)]
  unfold leafE askE fitE
  rw [find_uid, rule_uid, lessE_uid hn hn]
  simp only [show ¬ ((7 : Int) = 4) from by decide, show ¬ ((7 : Int) = 6) from by decide, if_false, false_or, or_true, if_true, Option.isSome_some, List.any_cons, List.any_nil, Bool.or_false]
  unfold aboveE
  rw [lessE_uid hn hm]
  cases decide (n < m) <;> rfl
theorem cn_eq {m n : Int} (hm : m.natAbs < 1000000000000000) (hn : n.natAbs < 1000000000000000) : evalD (ordL m) (.mk 4 [99, 110] (67 :: Lib.itoa n) [] []) = bN (decide (m = n)) := by
  have hl := itoa_len n hn
  rw [evalD_leaf _ 4 (by decide) _ _ (by decide +kernel) (by simp; omega)]
  unfold leafE askE fitE hasA
  rw [find_cn, if_pos rfl, if_pos rfl, rule_cn, norm_cn hn 67 (.inr rfl)]
  simp only [Option.isSome_some, if_true, List.any_cons, List.any_nil, Bool.or_false]
  unfold likeB
  rw [rule_cn, norm_cn hn 67 (.inr rfl), norm_cn hm 99 (.inl rfl)]
  have : sameO (some (99 :: Lib.itoa m)) (some (99 :: Lib.itoa n)) = decide (m = n) := by
    rw [Bool.eq_iff_iff]
    simp only [sameO, beq_iff_eq, decide_eq_true_eq, List.cons.injEq, true_and]
    exact ⟨itoa_inj hm, fun e => by rw [e]⟩
  rw [this]
  rfl
theorem cn_ge {m n : Int} (hm : m.natAbs < 1000000000000000) (hn : n.natAbs < 1000000000000000) : evalD (ordL m) (.mk 6 [99, 110] (67 :: Lib.itoa n) [] []) = bN (!Op.bytesLess (99 :: Lib.itoa m) (99 :: Lib.itoa n)) := by
  have hl := itoa_len n hn
  rw [evalD_leaf _ 6 (by decide) _ _ (by decide +kernel) (by simp; omega)]
  unfold leafE askE fitE
  rw [find_cn, rule_cn, lessE_cn hn hn 67 67 (.inr rfl) (.inr rfl)]
  simp only [show ¬ ((6 : Int) = 4) from by decide, if_false, true_or, if_true, Option.isSome_some, List.any_cons, List.any_nil, Bool.or_false]
  unfold aboveE
  rw [lessE_cn hm hn 99 67 (.inl rfl) (.inr rfl)]
  cases Op.bytesLess (99 :: Lib.itoa m) (99 :: Lib.itoa n) <;> rfl
theorem cn_le {m n : Int} (hm : m.natAbs < 1000000000000000) (hn : n.natAbs < 1000000000000000) : evalD (ordL m) (.mk 7 [99, 110] (67 :: Lib.itoa n) [] []) = bN (!Op.bytesLess (99 :: Lib.itoa n) (99 :: Lib.itoa m)) := by
  have hl := itoa_len n hn
  rw [evalD_leaf _ 7 (by decide) _ _ (by decide +kernel) (by simp; omega)]
  unfold leafE askE fitE
  rw [find_cn, rule_cn, lessE_cn hn hn 67 67 (.inr rfl) (.inr rfl)]
  simp only [show ¬ ((7 : Int) = 4) from by decide, show ¬ ((7 : Int) = 6) from by decide, if_false, false_or, or_true, if_true, Option.isSome_some, List.any_cons, List.any_nil, Bool.or_false]
  unfold aboveE
  rw [lessE_cn hn hm 67 99 (.inr rfl) (.inl rfl)]
  cases Op.bytesLess (99 :: Lib.itoa n) (99 :: Lib.itoa m) <;> rfl
theorem awE_1 : evalD [] (.mk 1 [] [] [] []) = 1 := by decide +kernel
theorem awE_2 : evalD (perL [97, 110, 110]) (.mk 4 [99, 110] [65, 78, 78] [] []) = 1 := by decide +kernel
end Go.Proofs.YtdgnefcpeocbjaaGreatDoor

/- brooklaw7.awake: the walk. -/
namespace Go.Proofs.YtdgnefcpeocbjaaGreatDoor
open Go.RowKit
set_option linter.unusedVariables false
set_option linter.unusedSimpArgs false

theorem isFl_leafE (ok : Nat → Prop) (w : World) (k : Int) (T X : ByteArray) (hk : (Lit.int .i64 k).wf = true) (hT : T.size ≤ 1000000) (hX : X.size ≤ 1000000) : IsFl ok w (.mk k T.data.toList X.data.toList [] []) (.agg #[.int .i64 k, .string T, .string X, .slice none 0 0, .slice none 0 0]) := by
  have hs : ∀ A : ByteArray, Value.string A = strV A.data.toList := fun A => congrArg Value.string (bytes_ext (ofL_list _).symm)
  rw [hs T, hs X]
  exact ⟨.slice none 0 0, none, 0, rfl, hk, by rw [bytes_len]; unfold maxLen; omega, by rw [bytes_len]; unfold maxLen; omega, ⟨none, 0, rfl, Nat.zero_le _, fun j h => absurd h (Nat.not_lt_zero _)⟩, Nat.zero_le _, trivial⟩
theorem per_small : smallA (perL [97, 110, 110]) := by
  refine ⟨by decide, fun a ha => ?_⟩
  simp only [perL, List.mem_cons, List.not_mem_nil, or_false] at ha
  rcases ha with rfl | rfl | rfl <;> exact ⟨by decide, by decide, fun s hs => by simp only [List.mem_singleton] at hs; subst hs; decide⟩
set_option maxRecDepth 100000 in
set_option maxHeartbeats 4000000 in
theorem awake7_any (w : World) (hw : LaidW w) (hx : LaidX w) : Calls Tryz.prog 14 #[] w fun e w' => e = .returned (.bool true) ∧ Below w.heap.size w w' := by
  have h1 := evalP_any (.mk 1 [] [] [] []) (.agg #[.int .i64 1, .string ⟨#[]⟩, .string ⟨#[]⟩, .slice none 0 0, .slice none 0 0]) [] ⟨#[]⟩ none 0 0 w (isFl_leafE _ _ 1 ⟨#[]⟩ ⟨#[]⟩ (by decide) (by decide) (by decide)) ⟨by simp, by simp⟩ hw hx (isA_nil _ _ _ _)
  rw [awE_1, show ((1 : Nat) : Int) = 1 from rfl] at h1
  have h2 := fun (W : World) (D : ByteArray) (g : Nat) (hW : LaidW W) (hX : LaidX W) (hA : IsA W.heap.size W (perL [97, 110, 110]) (.slice (some ⟨g, 0, none⟩) 3 3)) => evalP_any (.mk 4 [99, 110] [65, 78, 78] [] []) (.agg #[.int .i64 4, .string ⟨#[99, 110]⟩, .string ⟨#[65, 78, 78]⟩, .slice none 0 0, .slice none 0 0]) (perL [97, 110, 110]) D (some ⟨g, 0, none⟩) 3 3 W (isFl_leafE _ _ 4 ⟨#[99, 110]⟩ ⟨#[65, 78, 78]⟩ (by decide) (by decide) (by decide)) per_small hW hX hA
  rw [awE_2, show ((1 : Nat) : Int) = 1 from rfl] at h2
  have H1 := Lib.hid h1
  have H2 := Lib.hid h2
  have HW := Lib.hid hw
  have HX := Lib.hid hx
  have HPe := Lib.hid (fun W => person_any ⟨#[97, 110, 110]⟩ (by decide) W)
  have tok1 : True := trivial
  clear h1 h2 hw hx
  go_enter Tryz.func14, Tryz.ntmps14
  go_wp2_with (first
    | (have _t := tok1; go_at_call 12; ((with_reducible refine (H1.out).mono ?_); rintro e w2 ⟨rfl, hb2⟩); have HB2 := Lib.hid hb2; clear hb2 _t; clear tok1)
    | (go_at_call 27; ((with_reducible refine (HPe.out _).mono ?_); rintro e w3 ⟨D, g, rfl, hD, hp, hg, hb3⟩; have HB3 := Lib.hid (bthen HB2.out hb3); have HP := Lib.hid hp.isA; clear hb3 hp hg hD))
    | (go_at_call 12; ((with_reducible refine (H2.out _ _ _ (HW.out.below HB3.out) (HX.out.below HB3.out) HP.out).mono ?_); rintro e w4 ⟨rfl, hb4⟩); have HB4 := Lib.hid (bthen HB3.out hb4); clear hb4))
  go_ret
  exact ⟨rfl, HB4.out⟩
end Go.Proofs.YtdgnefcpeocbjaaGreatDoor

/- The document's quoted: the walk. -/
namespace Go.Proofs.YtdgnefcpeocbjaaGreatDoor
open Go.RowKit
set_option linter.unusedVariables false
set_option linter.unusedSimpArgs false

theorem quoC_lenQ (c : UInt8) : (quoC c).length ≤ 3 := by unfold quoC; split <;> simp
theorem quo_lenQ : ∀ v : List UInt8, (quo v).length ≤ 3 * v.length
  | [] => by simp [quo]
  | c :: r => by
    have := quoC_lenQ c
    have := quo_lenQ r
    simp only [quo, List.length_append, List.length_cons]; omega
def plainIn (c : UInt8) : Bool := plainC c == (decide (32 ≤ c.toNat) && decide (c.toNat ≤ 126) && !([42, 40, 41, 92] : List UInt8).contains c)
theorem plain_in (c : UInt8) : plainC c = (decide (32 ≤ c.toNat) && decide (c.toNat ≤ 126) && !([42, 40, 41, 92] : List UInt8).contains c) := by
  have := all_bytes plainIn (by decide +kernel) c
  unfold plainIn at this
  simpa using this
def OutQ (s : ByteArray) (j : Nat) (x : Value) : Prop := ∃ E, x = .string (ofL E) ∧ E ++ quo (s.data.toList.drop j) = quo s.data.toList
end Go.Proofs.YtdgnefcpeocbjaaGreatDoor

/- The document's text, TextFilter: the walks. -/
namespace Go.Proofs.YtdgnefcpeocbjaaGreatDoor
open Go.RowKit
set_option linter.unusedVariables false
set_option linter.unusedSimpArgs false

theorem star_snoc : ∀ (q : List (List UInt8)) (x : List UInt8), q ≠ [] → starJ (q ++ [x]) = starJ q ++ 42 :: quo x
  | [], _, h => absurd rfl h
  | [y], x, _ => rfl
  | y :: z :: q, x, _ => by
    have := star_snoc (z :: q) x (by simp)
    show quo y ++ 42 :: starJ (z :: q ++ [x]) = _
    rw [this]
    show _ = (quo y ++ 42 :: starJ (z :: q)) ++ 42 :: quo x
    simp
theorem textFs_snoc (l : List FT) (f : FT) : textFs (l ++ [f]) = textFs l ++ textF f := by rw [textFs_append]; simp [textFs]
theorem textFs_take (l : List FT) (j : Nat) : (textFs (l.take j)).length ≤ (textFs l).length := by
  have h := textFs_append (l.take j) (l.drop j)
  rw [List.take_append_drop] at h
  rw [h, List.length_append]
  omega
theorem star_take (p : List (List UInt8)) : ∀ j, (starJ (p.take j)).length ≤ (starJ p).length := by
  have h2 : ∀ (a b : List (List UInt8)), (starJ a).length ≤ (starJ (a ++ b)).length := by
    intro a
    induction a with
    | nil => intro b; simp [starJ]
    | cons x a ih =>
      intro b
      cases a with
      | nil =>
        cases b with
        | nil => simp
        | cons y b => simp [starJ]
      | cons y a =>
        have := ih b
        simp only [List.cons_append, starJ, List.length_append, List.length_cons] at this ⊢
        omega
  intro j
  have := h2 (p.take j) (p.drop j)
  rwa [List.take_append_drop] at this
end Go.Proofs.YtdgnefcpeocbjaaGreatDoor

/- The document's text, TextFilter: the walks. -/
namespace Go.Proofs.YtdgnefcpeocbjaaGreatDoor
open Go.RowKit
set_option linter.unusedVariables false
set_option linter.unusedSimpArgs false

/-- What has been written of the parts. -/
def OutP (T : ByteArray) (p : List (List UInt8)) (j : Nat) (x : Value) : Prop := ∃ E : ByteArray, x = .string E ∧ E.data.toList = 40 :: (T.data.toList ++ 61 :: starJ (p.take j)) ∧ E.size ≤ 10000000
theorem outP_len {T : ByteArray} {p : List (List UInt8)} (hT : T.size ≤ 1000) (hp : (starJ p).length ≤ 9000000) (j : Nat) : (40 :: (T.data.toList ++ 61 :: starJ (p.take j))).length ≤ 9100000 := by
  have := star_take p j
  simp
  omega
theorem parts_len {p : List (List UInt8)} (h : okParts p = true) : (∀ x ∈ p, x.length ≤ 1000) ∧ (starJ p).length ≤ 9000000 := by
  obtain ⟨⟨h1, h2⟩, h3, _⟩ := (okParts_iff p).1 h
  have hx : ∀ x ∈ p, x.length ≤ 100 := fun x hx => by
    obtain ⟨i, hi, rfl⟩ := List.getElem_of_mem hx
    exact (h3 i hi).1
  refine ⟨fun x hx' => Nat.le_trans (hx x hx') (by omega), ?_⟩
  have : ∀ q : List (List UInt8), (∀ x ∈ q, x.length ≤ 100) → (starJ q).length ≤ q.length * 301 := by
    intro q
    induction q with
    | nil => intro _; simp [starJ]
    | cons x q ih =>
      intro hq
      have hx1 := quo_lenQ x
      have hx2 := hq x (by simp)
      have := ih (fun y hy => hq y (by simp [hy]))
      cases q with
      | nil => simp [starJ]; omega
      | cons y q =>
        show (quo x ++ 42 :: starJ (y :: q)).length ≤ _
        rw [List.length_append, List.length_cons]
        simp only [List.length_cons] at this ⊢
        omega
  have := this p hx
  omega
theorem okType_len {t : List UInt8} (h : okType t = true) : t.length ≤ 30 := by
  unfold okType at h
  simp only [Bool.and_eq_true, decide_eq_true_eq] at h
  exact h.1.1.2
end Go.Proofs.YtdgnefcpeocbjaaGreatDoor

/- filter.Text: the walk. -/
namespace Go.Proofs.YtdgnefcpeocbjaaGreatDoor
open Go.RowKit
set_option linter.unusedVariables false
set_option linter.unusedSimpArgs false

def textTop (f : FT) : List UInt8 := if mayF 13 f then textF f else []
end Go.Proofs.YtdgnefcpeocbjaaGreatDoor

/- The document's TextFilter; how many filters there are within (many, Great): the walks. -/
namespace Go.Proofs.YtdgnefcpeocbjaaGreatDoor
open Go.RowKit
set_option linter.unusedVariables false
set_option linter.unusedSimpArgs false

/-! ### How many -/
mutual
/-- All filters within, and the filter itself. -/
def nodesF : FT → Nat
  | .mk _ _ _ _ l => 1 + nodesFs l
def nodesFs : List FT → Nat
  | [] => 0
  | f :: l => nodesF f + nodesFs l
end
theorem nodesFs_snoc : ∀ (l : List FT) (f : FT), nodesFs (l ++ [f]) = nodesFs l + nodesF f
  | [], f => by simp [nodesFs]
  | g :: l, f => by
    have := nodesFs_snoc l f
    show nodesF g + nodesFs (l ++ [f]) = nodesF g + nodesFs l + nodesF f
    omega
theorem fewPs_take {l : List FT} {j : Nat} (hj : j < l.length) (h : fewPs (l.take j)) (hf : fewP l[j]) : fewPs (l.take (j + 1)) := by
  rw [List.take_succ_eq_append_getElem hj]
  exact fewPs_mk fun f hm => by
    rcases List.mem_append.1 hm with h1 | h1
    · exact fewPs_at h f h1
    · rw [List.mem_singleton.1 h1]; exact hf
/-- A filter that is not gone through: too deep, or too much of something. -/
def tooF (d : Nat) (f : FT) : Bool := decide (20 < d) || decide (60 < f.l.length) || decide (20 < f.p.length) || decide (100 < f.t.length) || decide (300 < f.v.length) || f.p.any (fun u => decide (300 < u.length))
mutual
/-- How many there are, as the call counts them. -/
def manyN : FT → Nat → Nat
  | .mk k t x p l, d => if tooF d (.mk k t x p l) = true then 1000 else manyNs l (d + 1) 1
def manyNs : List FT → Nat → Nat → Nat
  | [], _, n => n
  | f :: l, d, n => if n < 1000 then manyNs l d (n + manyN f d) else n
end
theorem manyN_too {f : FT} {d : Nat} (h : tooF d f = true) : manyN f d = 1000 := by
  obtain ⟨k, t, x, p, l⟩ := f
  unfold manyN
  rw [if_pos h]
theorem manyN_not {k : Int} {t x : List UInt8} {p : List (List UInt8)} {l : List FT} {d : Nat} (h : tooF d (.mk k t x p l) = false) : manyN (.mk k t x p l) d = manyNs l (d + 1) 1 := by
  unfold manyN
  rw [if_neg (by rw [h]; decide)]
theorem manyNs_next {l : List FT} {a d n : Nat} (ha : a < l.length) (hn : n < 1000) : manyNs (l.drop a) d n = manyNs (l.drop (a + 1)) d (n + manyN l[a] d) := by
  rw [List.drop_eq_getElem_cons ha]
  conv => lhs; unfold manyNs
  rw [if_pos hn]
theorem manyNs_full {l : List FT} {a d n : Nat} (ha : a < l.length) (hn : ¬ n < 1000) : manyNs (l.drop a) d n = n := by
  rw [List.drop_eq_getElem_cons ha]
  unfold manyNs
  rw [if_neg hn]
/-- What many tells. -/
def ManySays (f : FT) (deep n : Nat) : Prop := n = manyN f deep ∧ n ≤ 1000 * (22 - deep) ∧ (n < 1000 → nodesF f = n ∧ fewP f)
theorem many_1000 (f : FT) {deep : Nat} (h : deep ≤ 21) (ht : tooF deep f = true) : ManySays f deep 1000 := ⟨(manyN_too ht).symm, by omega, fun h => absurd h (by omega)⟩
def ManysF (deep : Nat) : Prop := ∀ (f : FT) (v : Value) (w : World), IsFl (Lt w) w f v →
  Calls Tryz.prog 23 #[v, .int .i64 deep] w fun e w' => ∃ n : Nat, e = .returned (.int .i64 n) ∧ ManySays f deep n ∧ Below w.heap.size w w'

set_option maxRecDepth 100000 in
set_option maxHeartbeats 8000000 in
theorem many_step (deep : Nat) (hd : deep ≤ 21) (ih : deep ≤ 20 → ManysF (deep + 1)) : ManysF deep := by
  intro f v w h
  obtain ⟨k, t, x, p, l⟩ := f
  obtain ⟨pa, pc, ka, kc, rfl, hwf, ht, hx, hp, hl, hkids⟩ := h.parts
  obtain ⟨T, hT, hTl⟩ := strV_text t
  obtain ⟨X, hX, hXl⟩ := strV_text x
  rw [hT, hX]
  obtain ⟨q, hq⟩ : ∃ q, q = l.length := ⟨_, rfl⟩
  obtain ⟨m, hm⟩ : ∃ m, m = p.length := ⟨_, rfl⟩
  rw [← hq] at hl ⊢
  rw [← hm] at hp ⊢
  have hmm : m ≤ maxLen := by rw [hm]; exact hp.choose_spec.choose_spec.2.1
  have hTz : T.size ≤ maxLen := by rw [← bytes_len, hTl]; exact ht
  have hXz : X.size ≤ maxLen := by rw [← bytes_len, hXl]; exact hx
  unfold maxLen at hl hmm hTz hXz
  obtain ⟨W0, hW0⟩ : ∃ W, W = w.alloc (.cells #[.int .i64 k, .string T, .string X, .slice pa m pc, .slice ka q kc] 25) := ⟨_, rfl⟩
  have hb0 : Below w.heap.size w W0 := by rw [hW0]; exact box5 w _ _ _ _ _
  have hx0 : FlAt W0 w.heap.size (.int .i64 k) (.string T) (.string X) (.slice pa m pc) (.slice ka q kc) := by rw [hW0]; exact heap_alloc_new w _
  obtain ⟨c0, c1, c2, c3, c4⟩ := fl_cells hx0
  have HW0 := Lib.hid hW0.symm
  have HX0 := Lib.hid hx0
  have HB0 := Lib.hid hb0
  have HK := Lib.hid hkids
  have HP := Lib.hid hp
  have HQ := Lib.hid hq
  have HM := Lib.hid hm
  have HI := Lib.hid ih
  have H1000 := Lib.hid (fun ht => many_1000 (.mk k t x p l) (deep := deep) hd ht)
  have hz : tooF deep (.mk k t x p l) = (decide (20 < deep) || decide (60 < q) || decide (20 < m) || decide (100 < T.size) || decide (300 < X.size) || p.any (fun u => decide (300 < u.length))) := by
    rw [hq, hm, ← bytes_len T, hTl, ← bytes_len X, hXl]
    rfl
  have HZ := Lib.hid hz
  clear hT hTl hX hXl hW0 hb0 hx0 hwf ht hx hp h hkids hq hm ih hz
  by_cases h1 : 20 < deep
  · have t1 : decide ((20 : Int) < (deep : Int)) = true := by simp; omega
    go_enter Tryz.func23, Tryz.ntmps23
    go_upto_region 1 with (fail)
    rw [HW0.out]
    go_wp2
    go_ret
    exact ⟨1000, rfl, H1000.out (by rw [HZ.out]; simp [h1]), HB0.out⟩
  · have t1 : decide ((20 : Int) < (deep : Int)) = false := by simp; omega
    by_cases h2 : 60 < q
    · have t2 : decide ((60 : Int) < (q : Int)) = true := by simp; omega
      go_enter Tryz.func23, Tryz.ntmps23
      go_upto_region 1 with (fail)
      rw [HW0.out]
      go_wp2
      go_ret
      exact ⟨1000, rfl, H1000.out (by rw [HZ.out]; simp [h2]), HB0.out⟩
    · have t2 : decide ((60 : Int) < (q : Int)) = false := by simp; omega
      by_cases h3 : 20 < m
      · have t3 : decide ((20 : Int) < (m : Int)) = true := by simp; omega
        go_enter Tryz.func23, Tryz.ntmps23
        go_upto_region 1 with (fail)
        rw [HW0.out]
        go_wp2
        go_ret
        exact ⟨1000, rfl, H1000.out (by rw [HZ.out]; simp [h3]), HB0.out⟩
      · have t3 : decide ((20 : Int) < (m : Int)) = false := by simp; omega
        by_cases h4 : 100 < T.size
        · have t4 : decide ((100 : Int) < (T.size : Int)) = true := by simp; omega
          go_enter Tryz.func23, Tryz.ntmps23
          go_upto_region 1 with (fail)
          rw [HW0.out]
          go_wp2
          go_ret
          exact ⟨1000, rfl, H1000.out (by rw [HZ.out]; simp [h4]), HB0.out⟩
        · have t4 : decide ((100 : Int) < (T.size : Int)) = false := by simp; omega
          by_cases h5 : 300 < X.size
          · have t5 : decide ((300 : Int) < (X.size : Int)) = true := by simp; omega
            go_enter Tryz.func23, Tryz.ntmps23
            go_upto_region 1 with (fail)
            rw [HW0.out]
            go_wp2
            go_ret
            exact ⟨1000, rfl, H1000.out (by rw [HZ.out]; simp [h5]), HB0.out⟩
          · have t5 : decide ((300 : Int) < (X.size : Int)) = false := by simp; omega
            go_enter Tryz.func23, Tryz.ntmps23
            go_upto_region 1 with (fail)
            rw [HW0.out]
            go_wp2
            go_loopw [5] (fun i wr => ∃ j : Nat, j ≤ m ∧ i = .int .i64 j ∧ Hid (W0 = wr) ∧ Hid ((p.take j).any (fun u => decide (300 < u.length)) = false)) (fun i _ => m - (intOf i).toNat)
            case atStart => exact ⟨0, by omega, rfl, Lib.hid rfl, Lib.hid rfl⟩
            case round =>
              obtain ⟨j, hj, rfl, hwr, HN0⟩ := hrel
              have hwr := hwr.out
              subst hwr
              by_cases hlt : j < m
              · have u1 : decide ((j : Int) < (m : Int)) = true := by simp; omega
                have u1' : decide (j < m) = true := by simp; omega
                have ti0 : (0 : Int) ≤ (j : Int) := by omega
                have ti1 : (j : Int) < (m : Int) := by omega
                have hjp : j < p.length := by rw [← HM.out]; exact hlt
                obtain ⟨b, off, U, hpa, hcj, hUl⟩ : ∃ b off U, pa = some ⟨b, off, none⟩ ∧ W0.cell? ⟨b, off + j, none⟩ = some (.string U) ∧ U.data.toList = p[j] := by
                  obtain ⟨a, c, ha, _, hC⟩ := HP.out
                  obtain ⟨b, off, e, hb, h0⟩ := hC j (by rw [← HM.out]; exact hlt)
                  obtain ⟨U, hU, hUl⟩ := strV_text p[j]
                  exact ⟨b, off, U, (Value.slice.inj ha).1.trans e, (HB0.out.cell (p := ⟨b, off + j, none⟩) hb).trans (h0.trans (by rw [hU])), hUl⟩
                subst hpa
                have hUz : p[j].length = U.size := by rw [← hUl, bytes_len]
                have HUz := Lib.hid hUz
                clear hUl hUz
                by_cases hbig : 300 < U.size
                · have u2 : decide ((300 : Int) < (U.size : Int)) = true := by simp; omega
                  have HBig : Hid (tooF deep (.mk k t x p l) = true) := Lib.hid (by
                    have ha : p.any (fun u => decide (300 < u.length)) = true := List.any_eq_true.2 ⟨p[j], List.getElem_mem hjp, by rw [HUz.out]; simpa using hbig⟩
                    rw [HZ.out, ha, Bool.or_true])
                  go_wp2
                  go_ret
                  exact ⟨1000, rfl, H1000.out (HBig.out), HB0.out⟩
                · have u2 : decide ((300 : Int) < (U.size : Int)) = false := by simp; omega
                  go_wp2
                  go_roundw
                  case rel => exact ⟨j + 1, by omega, by go_num, Lib.hid (by trivial), Lib.hid (by rw [List.take_succ_eq_append_getElem hjp, List.any_append, HN0.out, Bool.false_or, List.any_cons, List.any_nil, Bool.or_false, HUz.out]; simpa using hbig)⟩
                  case measure => simp [intOf]; omega
              · obtain rfl : j = m := by omega
                have u1 : decide ((j : Int) < (j : Int)) = false := by simp
                have u1' : decide (j < j) = false := by simp
                have HI2 := Lib.hid (HI.out (by omega))
                have HNt : Hid (manyN (.mk k t x p l) deep = manyNs l (deep + 1) 1) := Lib.hid (manyN_not (by
                  have ha := HN0.out
                  rw [List.take_of_length_le (by rw [← HM.out]; omega)] at ha
                  rw [HZ.out, ha]
                  simp [h1, h2, h3, h4, h5]))
                clear HI HN0
                go_wp2
                go_loopw [6, 7] (fun n i wr => ∃ (a b : Nat), a ≤ q ∧ i = .int .i64 a ∧ n = .int .i64 b ∧ b ≤ 1000 * (22 - deep) ∧ Hid (b < 1000 → b = 1 + nodesFs (l.take a) ∧ fewPs (l.take a)) ∧ Hid (manyN (.mk k t x p l) deep = manyNs (l.drop a) (deep + 1) b) ∧ Hid (Below W0.heap.size W0 wr)) (fun _ i _ => q - (intOf i).toNat)
                case atStart => exact ⟨0, 1, by omega, rfl, rfl, by omega, Lib.hid (fun _ => ⟨by simp [nodesFs], trivial⟩), Lib.hid HNt.out, Lib.hid (Below.refl _ _)⟩
                case round =>
                  obtain ⟨a, b, ha, rfl, rfl, hb, HS, HNd, HBr⟩ := hrel
                  obtain ⟨y0, y1, y2, y3, y4⟩ := fl_cells (fl_below HX0.out HBr.out (fl_lt HX0.out))
                  by_cases hlt : a < q
                  · have u3 : decide ((a : Int) < (q : Int)) = true := by simp; omega
                    have u3' : decide (a < q) = true := by simp; omega
                    by_cases hbl : b < 1000
                    · have u4 : decide ((b : Int) < 1000) = true := by simp; omega
                      have u4' : decide (b < 1000) = true := by simp; omega
                      have hjl : a < l.length := by rw [← HQ.out]; exact hlt
                      obtain ⟨g, off, v0, v1, v2, v3, v4, rfl, hg, g0, g1, g2, g3, g4, hf⟩ := HK.out.get l _ 0 a l[a] (List.getElem?_eq_getElem hjl)
                      rw [Nat.zero_add] at g0 g1 g2 g3 g4
                      have hbel := bthen HB0.out HBr.out
                      have hcw : ∀ o, wr.cell? ⟨g, o, none⟩ = w.cell? ⟨g, o, none⟩ := fun o => hbel.cell (p := ⟨g, o, none⟩) hg
                      rw [← hcw] at g0 g1 g2 g3 g4
                      have hf2 : IsFl (Lt wr) wr l[a] (.agg #[v0, v1, v2, v3, v4]) := hf.imp (fun b h => Nat.lt_of_lt_of_le h hbel.size) (fun b o h => hbel.cell (p := ⟨b, o, none⟩) h)
                      obtain ⟨fk, fT, fX, fpa, fpn, fpc, fka, fkn, fkc, e⟩ := hf2.shape
                      simp only [Value.agg.injEq, Array.mk.injEq, List.cons.injEq, and_true] at e
                      obtain ⟨rfl, rfl, rfl, rfl, rfl⟩ := e
                      have hca := HI2.out l[a] _ wr hf2
                      rw [show ((deep + 1 : Nat) : Int) = (deep : Int) + 1 from rfl] at hca
                      have HCa := Lib.hid hca
                      have ti0 : (0 : Int) ≤ (a : Int) := by omega
                      have ti1 : (a : Int) < (q : Int) := by omega
                      have HSt : Hid (∀ c : Nat, ManySays l[a] (deep + 1) c → b + c ≤ 1000 * (22 - deep) ∧ manyN (.mk k t x p l) deep = manyNs (l.drop (a + 1)) (deep + 1) (b + c) ∧ (b + c < 1000 → b + c = 1 + nodesFs (l.take (a + 1)) ∧ fewPs (l.take (a + 1)))) := Lib.hid (fun c hc => ⟨by have := hc.2.1; omega, by rw [hc.1, ← manyNs_next hjl hbl]; exact HNd.out, fun hlt => by
                        obtain ⟨h1, h2⟩ := HS.out hbl
                        obtain ⟨h3, h4⟩ := hc.2.2 (by omega)
                        rw [List.take_succ_eq_append_getElem hjl, nodesFs_snoc, h3]
                        refine ⟨by omega, ?_⟩
                        rw [← List.take_succ_eq_append_getElem hjl]
                        exact fewPs_take hjl h2 h4⟩)
                      clear hca hf hf2 hcw hbel
                      go_wp2_with (go_at_call 23; refine (HCa.out).mono ?_; rintro e w3 ⟨c, rfl, hc, hb3⟩; have HB3 := Lib.hid (bthen HBr.out hb3); have hcb : c ≤ 22000 := (by have := hc.2.1; omega); (obtain ⟨hn1, hn3, hn2⟩ := HSt.out c hc); have HN2 := Lib.hid hn2; have HN1 := Lib.hid hn1; have HN3 := Lib.hid hn3; clear hb3 hc hn2 hn1 hn3)
                      go_roundw
                      case rel => exact ⟨a + 1, b + c, by omega, by go_num, by go_num, HN1.out, HN2, HN3, HB3⟩
                      case measure => simp [intOf]; omega
                    · have u4 : decide ((b : Int) < 1000) = false := by simp; omega
                      have u4' : decide (b < 1000) = false := by simp; omega
                      have hs : ManySays (.mk k t x p l) deep b := ⟨by rw [HNd.out, manyNs_full (by rw [← HQ.out]; exact hlt) hbl], hb, fun h => absurd h hbl⟩
                      have HSy := Lib.hid hs
                      clear hs
                      go_wp2
                      go_ret
                      exact ⟨b, rfl, HSy.out, bthen HB0.out HBr.out⟩
                  · obtain rfl : a = q := by omega
                    have u3 : decide ((a : Int) < (a : Int)) = false := by simp
                    have u3' : decide (a < a) = false := by simp
                    have hs : ManySays (.mk k t x p l) deep b := ⟨by rw [HNd.out, List.drop_eq_nil_of_le (by rw [← HQ.out]; omega)]; unfold manyNs; rfl, hb, fun hlt => by
                      obtain ⟨h1, h2⟩ := HS.out hlt
                      rw [List.take_of_length_le (by rw [← HQ.out]; omega)] at h1 h2
                      exact ⟨h1.symm, by rw [← HM.out]; omega, h2⟩⟩
                    have HSy := Lib.hid hs
                    clear hs
                    go_wp2
                    go_ret
                    exact ⟨b, rfl, HSy.out, bthen HB0.out HBr.out⟩
theorem many_all : ∀ (d deep : Nat), deep + d = 21 → ManysF deep
  | 0, deep, h => many_step deep (by omega) (fun h' => absurd h' (by omega))
  | d + 1, deep, h => many_step deep (by omega) (fun _ => many_all d (deep + 1) (by omega))

/-- A filter that is gone through: of few others, each with few parts. -/
def SmallF (f : FT) : Prop := nodesF f ≤ 200 ∧ fewP f
end Go.Proofs.YtdgnefcpeocbjaaGreatDoor

/- Great of the statements about filters: the walk. -/
namespace Go.Proofs.YtdgnefcpeocbjaaGreatDoor
open Go.RowKit
set_option linter.unusedVariables false
set_option linter.unusedSimpArgs false

/-- More than a statement goes through? -/
def greatF (f : FT) : Bool := decide (200 < manyN f 0)
set_option maxRecDepth 100000 in
set_option maxHeartbeats 2000000 in
theorem greatFl_says (f : FT) (v : Value) (w : World) (h : IsFl (Lt w) w f v) :
    Calls Tryz.prog 10 #[v] w fun e w' => e = .returned (.bool (greatF f)) ∧ (greatF f = false → SmallF f) ∧ Below w.heap.size w w' := by
  have hm := fun W (hW : Below w.heap.size w W) => many_all 21 0 rfl f v W (h.imp (fun b h => Nat.lt_of_lt_of_le h hW.size) (fun b o h => hW.cell (p := ⟨b, o, none⟩) h))
  obtain ⟨k, T, X, pa, pn, pc, ka, kn, kc, rfl⟩ := h.shape
  have hb := box5 w (.int .i64 k) (.string T) (.string X) (.slice pa pn pc) (.slice ka kn kc)
  have HM : Hid (∀ W, Below w.heap.size w W → Calls Tryz.prog 23 #[.agg #[.int .i64 k, .string T, .string X, .slice pa pn pc, .slice ka kn kc], .int .i64 0] W fun e w' => ∃ n : Nat, e = .returned (.int .i64 n) ∧ ManySays f 0 n ∧ Below W.heap.size W w') := Lib.hid hm
  have HB := Lib.hid hb
  clear hm hb h
  go_enter Tryz.func10, Tryz.ntmps10
  go_wp2_with (go_at_call 23; refine (HM.out _ HB.out).mono ?_; rintro e w3 ⟨n, rfl, hn, hb3⟩; have HB3 := Lib.hid (bthen HB.out hb3); have HN := Lib.hid hn; clear hb3 hn)
  go_ret
  have hg : greatF f = decide ((200 : Int) < (n : Int)) := by
    unfold greatF
    rw [← HN.out.1]
    exact decide_eq_decide.2 ⟨by omega, by omega⟩
  refine ⟨by rw [hg]; rfl, fun hf => ?_, HB3.out⟩
  rw [hg] at hf
  have hlt : n ≤ 200 := by simp at hf; omega
  obtain ⟨h1, h2⟩ := HN.out.2.2 (by omega)
  exact ⟨by omega, h2⟩
theorem greatFl_any (f : FT) (v : Value) (w : World) (h : IsFl (Lt w) w f v) :
    Calls Tryz.prog 10 #[v] w fun e w' => ∃ b, e = .returned (.bool b) ∧ (b = false → SmallF f) ∧ Below w.heap.size w w' :=
  (greatFl_says f v w h).mono fun _ _ h => ⟨_, h.1, h.2.1, h.2.2⟩
end Go.Proofs.YtdgnefcpeocbjaaGreatDoor

/- brooklaw4.Great: the walk. -/
namespace Go.Proofs.YtdgnefcpeocbjaaGreatDoor
open Go.RowKit
set_option linter.unusedVariables false

def badG (a : AT) : Bool := decide (100 < a.1.length) || decide (50 < a.2.length) || a.2.any (fun s => decide (300 < s.length))
def greatD (d : List UInt8) (L : List AT) : Bool := (L.take 30).any badG || (decide (25 < L.length) || decide (600 < d.length))
theorem great_no {d : List UInt8} {L : List AT} (h : greatD d L = false) : L.length ≤ 25 ∧ d.length ≤ 600 ∧ ∀ a ∈ L, a.1.length ≤ 100 ∧ a.2.length ≤ 50 ∧ ∀ s ∈ a.2, s.length ≤ 300 := by
  unfold greatD at h
  simp only [Bool.or_eq_false_iff, decide_eq_false_iff_not] at h
  obtain ⟨h1, h2, h3⟩ := h
  rw [List.take_of_length_le (by omega), List.any_eq_false] at h1
  refine ⟨by omega, by omega, fun a ha => ?_⟩
  have := h1 a ha
  simp only [badG, Bool.or_eq_true, decide_eq_true_eq, List.any_eq_true, not_or, not_exists, not_and] at this
  exact ⟨by omega, by omega, fun s hs => by have := this.2 s hs; omega⟩
theorem great_bad {d : List UInt8} {L : List AT} {j : Nat} (hj : j < L.length) (h30 : j < 30) (h : badG L[j] = true) : greatD d L = true := by
  unfold greatD
  rw [List.any_eq_true.2 ⟨L[j], List.mem_take_iff_getElem.2 ⟨j, by omega, rfl⟩, h⟩]
  rfl
theorem great_rest {d : List UInt8} {L : List AT} (h : ∀ k (hk : k < L.length), k < 30 → badG L[k] = false) : greatD d L = (decide (25 < L.length) || decide (600 < d.length)) := by
  unfold greatD
  have : (L.take 30).any badG = false := by
    rw [List.any_eq_false]
    intro a ha
    obtain ⟨i, hi, rfl⟩ := List.mem_take_iff_getElem.1 ha
    rw [h i (by omega) (by omega)]
    simp
  rw [this, Bool.false_or]

set_option maxRecDepth 100000 in
set_option maxHeartbeats 8000000 in
theorem great_any (D : ByteArray) (L : List AT) (v : Value) (w : World) (h : IsA w.heap.size w L v) :
    Calls Tryz.prog 11 #[.agg #[.string D, v]] w fun e w' => e = .returned (.bool (greatD D.data.toList L)) ∧ Below w.heap.size w w' := by
  obtain ⟨a, c, hv, hm, hcell⟩ := id h
  obtain ⟨n, hn⟩ : ∃ n, n = L.length := ⟨_, rfl⟩
  rw [← hn] at hv hm
  subst hv
  unfold maxLen at hm
  obtain ⟨R, hR⟩ : ∃ R, R = greatD D.data.toList L := ⟨_, rfl⟩
  rw [← hR]
  obtain ⟨W0, hW0⟩ : ∃ W0, W0 = w.alloc (.cells #[.string D, .slice a n c] 28) := ⟨_, rfl⟩
  have hB0 : Below w.heap.size w W0 := by rw [hW0]; exact (Below.refl _ _).alloc (Nat.le_refl _) _
  have hbx : BoxN W0 w.heap.size D (.slice a n c) := by rw [hW0]; exact boxN_new _ _ _
  obtain ⟨x0, x1⟩ := hbx.cells
  have HN := Lib.hid hn
  have HC := Lib.hid hcell
  have HB0 := Lib.hid hB0
  have HW0 := Lib.hid hW0.symm
  have HR := Lib.hid hR
  clear hcell hn hB0 hbx hW0 h hR
  go_enter Tryz.func11, Tryz.ntmps11
  go_upto_region 1 with (fail)
  rw [HW0.out]
  go_wp2
  go_loopw [3] (fun i wr => ∃ j : Nat, j ≤ n ∧ j ≤ 30 ∧ i = .int .i64 j ∧ Hid (∀ k (hk : k < L.length), k < j → badG L[k] = false) ∧ W0 = wr) (fun i wr => n - (intOf i).toNat)
  case atStart => exact ⟨0, by omega, by omega, rfl, Lib.hid (fun k _ h => absurd h (by omega)), rfl⟩
  case round =>
    obtain ⟨j, hj, hj3, rfl, HNo, rfl⟩ := hrel
    have tail : ∀ (h : ∀ k (hk : k < L.length), k < 30 → badG L[k] = false), R = (decide (25 < n) || decide (600 < D.size)) := fun h => by rw [HR.out, great_rest h, ← HN.out, bytes_len]
    by_cases hlt : j < n
    · have t1 : decide ((j : Int) < (n : Int)) = true := by simp; omega
      have t1' : decide (j < n) = true := by simpa using hlt
      have hlL : j < L.length := by rw [← HN.out]; exact hlt
      by_cases h30 : j < 30
      · have t2 : decide ((j : Int) < 30) = true := by simp; omega
        obtain ⟨b, off, u, rfl, hb0, c0, c1, hit⟩ := HC.out j hlL
        obtain ⟨V, hV⟩ : ∃ V, V = L[j].2 := ⟨_, rfl⟩
        rw [← hV] at hit
        obtain ⟨ua, uc, hu, hum, huc⟩ := hit
        obtain ⟨m, hml⟩ : ∃ m, m = V.length := ⟨_, rfl⟩
        rw [← hml] at hu hum
        subst hu
        unfold maxLen at hum
        obtain ⟨X, hX⟩ : ∃ X : ByteArray, ⟨L[j].1.toArray⟩ = X := ⟨_, rfl⟩
        have hXl : X.size = L[j].1.length := by rw [← bytes_len, ← hX]
        have d0 : (W0.cell? ⟨b, off + j * 2, none⟩) = some (.string X) := by
          rw [HB0.out.cell (p := ⟨b, off + j * 2, none⟩) hb0, c0, ← hX]; rfl
        have d1 : (W0.cell? ⟨b, off + j * 2 + 1, none⟩) = some (.slice ua m uc) := by
          rw [HB0.out.cell (p := ⟨b, off + j * 2 + 1, none⟩) hb0, c1]
        have HUc : Hid (∀ k (hk : k < V.length), ∃ vb vo, ua = some ⟨vb, vo, none⟩ ∧ ∃ Y : ByteArray, Y.size = V[k].length ∧ W0.cell? ⟨vb, vo + k, none⟩ = some (.string Y)) := Lib.hid (fun k hk => by
          obtain ⟨vb, vo, e, hvb, hc⟩ := huc k hk
          refine ⟨vb, vo, e, ⟨V[k].toArray⟩, by rw [← bytes_len], ?_⟩
          rw [HB0.out.cell (p := ⟨vb, _, none⟩) hvb, hc]
          rfl)
        have HXl := Lib.hid hXl
        have HV := Lib.hid hV
        have HMl := Lib.hid hml
        clear hX hXl hV hml huc c0 c1 tail
        by_cases h100 : 100 < X.size
        · have t3 : decide ((100 : Int) < (X.size : Int)) = true := by simp; omega
          have HE : Hid (R = true) := Lib.hid (by rw [HR.out]; refine great_bad hlL h30 ?_; unfold badG; rw [show decide (100 < L[j].1.length) = true from by simp; rw [← HXl.out]; exact h100]; rfl)
          clear h100
          go_wp2
          go_ret
          exact ⟨by rw [HE.out]; rfl, HB0.out⟩
        · have t3 : decide ((100 : Int) < (X.size : Int)) = false := by simp; omega
          by_cases h50 : 50 < m
          · have t4 : decide ((50 : Int) < (m : Int)) = true := by simp; omega
            have HE : Hid (R = true) := Lib.hid (by rw [HR.out]; refine great_bad hlL h30 ?_; unfold badG; rw [show decide (50 < L[j].2.length) = true from by simp; rw [← HV.out, ← HMl.out]; exact h50]; simp)
            clear h100 h50
            go_wp2
            go_ret
            exact ⟨by rw [HE.out]; rfl, HB0.out⟩
          · have t4 : decide ((50 : Int) < (m : Int)) = false := by simp; omega
            have HB1 : Hid (decide (100 < L[j].1.length) = false ∧ decide (50 < L[j].2.length) = false) := Lib.hid ⟨by simp; rw [← HXl.out]; omega, by simp; rw [← HV.out, ← HMl.out]; omega⟩
            have ti0 : (0 : Int) ≤ (j : Int) := by omega
            have ti1 : (j : Int) < (n : Int) := by omega
            clear h100 h50
            go_wp2
            clear t3 t4
            go_loopw [4] (fun i wr => ∃ k : Nat, k ≤ m ∧ i = .int .i64 k ∧ Hid (∀ q (hq : q < V.length), q < k → V[q].length ≤ 300) ∧ W0 = wr) (fun i wr => m - (intOf i).toNat)
            case atStart => exact ⟨0, by omega, rfl, Lib.hid (fun k _ h => absurd h (by omega)), rfl⟩
            case round =>
              obtain ⟨k, hk, rfl, HAl, rfl⟩ := hrel
              by_cases hkm : k < m
              · have r1 : decide ((k : Int) < (m : Int)) = true := by simp; omega
                have r1' : decide (k < m) = true := by simpa using hkm
                have r2 : (0 : Int) ≤ (k : Int) := by omega
                have r3 : (k : Int) < (m : Int) := by omega
                have hkV : k < V.length := by rw [← HMl.out]; exact hkm
                obtain ⟨vb, vo, rfl, Y, hY, hyc⟩ := HUc.out k hkV
                have HY := Lib.hid hY
                clear hY
                by_cases h300 : 300 < Y.size
                · have r4 : decide ((300 : Int) < (Y.size : Int)) = true := by simp; omega
                  have HE : Hid (R = true) := Lib.hid (by
                    rw [HR.out]
                    refine great_bad hlL h30 ?_
                    unfold badG
                    have : L[j].2.any (fun s => decide (300 < s.length)) = true := List.any_eq_true.2 ⟨V[k], by rw [← HV.out]; exact List.getElem_mem _, by simp; rw [← HY.out]; exact h300⟩
                    rw [this]
                    simp)
                  clear h300
                  go_wp2
                  go_ret
                  exact ⟨by rw [HE.out]; rfl, HB0.out⟩
                · have r4 : decide ((300 : Int) < (Y.size : Int)) = false := by simp; omega
                  have HA2 : Hid (∀ q (hq : q < V.length), q < k + 1 → V[q].length ≤ 300) := Lib.hid (fun q h1 h3 => by
                    by_cases hk : q < k
                    · exact HAl.out q h1 hk
                    · obtain rfl : q = k := by omega
                      rw [← HY.out]
                      omega)
                  clear h300 HAl
                  go_wp2
                  go_roundw
                  case rel => exact ⟨k + 1, by omega, by go_num, HA2, by first | rfl | trivial⟩
                  case measure => simp [intOf]; omega
              · obtain rfl : k = m := by omega
                have r1 : decide ((k : Int) < (k : Int)) = false := by simp
                have r1' : decide (k < k) = false := by simp
                have HA2 : Hid (∀ q (hq : q < L.length), q < j + 1 → badG L[q] = false) := Lib.hid (fun q h1 h3 => by
                  by_cases hk : q < j
                  · exact HNo.out q h1 hk
                  · obtain rfl : q = j := by omega
                    unfold badG
                    rw [HB1.out.1, HB1.out.2]
                    have : L[q].2.any (fun s => decide (300 < s.length)) = false := by
                      rw [← HV.out, List.any_eq_false]
                      intro s hs
                      obtain ⟨x, hx, rfl⟩ := List.getElem_of_mem hs
                      have := HAl.out x hx (by rw [HMl.out]; exact hx)
                      simp
                      omega
                    rw [this]
                    rfl)
                clear HAl HNo
                go_wp2
                go_roundw
                case rel => exact ⟨j + 1, by omega, by omega, by go_num, HA2, by first | rfl | trivial⟩
                case measure => simp [intOf]; omega
      · have t2 : decide ((j : Int) < 30) = false := by simp; omega
        have HT := Lib.hid (tail (fun k hk h3 => HNo.out k hk (by omega)))
        have t5 : decide ((25 : Int) < (n : Int)) = true := by simp; omega
        have HE : Hid (R = true) := Lib.hid (by rw [HT.out, show decide (25 < n) = true from by simp; omega]; rfl)
        clear tail
        go_wp2
        go_ret
        exact ⟨by rw [HE.out]; rfl, HB0.out⟩
    · obtain rfl : j = n := by omega
      have t1 : decide ((j : Int) < (j : Int)) = false := by simp
      have t1' : decide (j < j) = false := by simp
      have HT := Lib.hid (tail (fun k hk h3 => HNo.out k hk (by rw [HN.out]; exact hk)))
      clear tail
      by_cases h25 : 25 < j
      · have t5 : decide ((25 : Int) < (j : Int)) = true := by simp; omega
        have HE : Hid (R = true) := Lib.hid (by rw [HT.out, show decide (25 < j) = true from by simp; omega]; rfl)
        clear h25
        go_wp2
        go_ret
        exact ⟨by rw [HE.out]; rfl, HB0.out⟩
      · have t5 : decide ((25 : Int) < (j : Int)) = false := by simp; omega
        have HE : Hid (R = decide (600 < D.size)) := Lib.hid (by rw [HT.out, show decide (25 < j) = false from by simp; omega]; rfl)
        clear h25
        by_cases h6 : 600 < D.size
        · have t6 : decide ((600 : Int) < (D.size : Int)) = true := by simp; omega
          have HE2 : Hid (R = true) := Lib.hid (by rw [HE.out]; simpa using h6)
          clear h6
          go_wp2
          go_ret
          exact ⟨by rw [HE2.out]; rfl, HB0.out⟩
        · have t6 : decide ((600 : Int) < (D.size : Int)) = false := by simp; omega
          have HE2 : Hid (R = false) := Lib.hid (by rw [HE.out]; simpa using h6)
          clear h6
          go_wp2
          go_ret
          exact ⟨by rw [HE2.out]; rfl, HB0.out⟩
end Go.Proofs.YtdgnefcpeocbjaaGreatDoor
