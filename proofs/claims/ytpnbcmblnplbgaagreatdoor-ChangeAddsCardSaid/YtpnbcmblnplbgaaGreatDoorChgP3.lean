/- Several texts in one file: ScCls, ScCat, EnHas, ScIdx, ScVal, ScSound. -/
import Derived.Test.YtpnbcmblnplbgaaGreatDoorChgP2
import Derived.Test.YtpnbcmblnplbgaaGreatDoorDnParse
import Derived.Lib.AppendZerosOnto
import Derived.Deep.Upon
import Derived.Test.YtpnbcmblnplbgaaGreatDoorChgP1
import Derived.Deep.RegionLaw
import Derived.Sort.OwnSorted
namespace Go.Proofs.YtpnbcmblnplbgaaGreatDoor
open Go.RowKit
set_option linter.unusedVariables false

def ClsW (w : World) (o : Option (List CT × Bool)) (e : Ending) (w' : World) : Prop := Below w.heap.size w w' ∧ match o with
  | none => e = .returned (.tuple #[.slice none 0 0, .bool false])
  | some p => ∃ g v, e = .returned (.tuple #[v, .bool p.2]) ∧ OwnK w.heap.size g w' v p.1

theorem chain_len (n : List UInt8) : ∀ k, (chainC k n).length ≤ k := by
  intro k
  induction k generalizing n with
  | zero => simp [chainC]
  | succ k ih =>
    simp only [chainC]
    cases findC n with
    | none => simp
    | some c => have := ih c.sup; simp; omega
def AtC (B : Nat) (w : World) (l : Value) (g : Nat) (o : Option CT) : Prop := (g < w.heap.size ∧ some g ≠ l.ownBlock ∧ B ≤ g) ∧ ∃ x0 x1 x2 u1 u2, BoxC w g x0 x1 x2 u1 u2 ∧ match o with
  | none => True
  | some c => x0 = strV c.name ∧ x1 = strV c.sup ∧ x2 = .bool c.st ∧ IsTo (Apart B g w l) w c.mustL u1 ∧ IsTo (Apart B g w l) w c.mayL u2
def restC : Option CT → List CT
  | none => []
  | some c => c :: chainC 3 c.sup
theorem rest_find (n : List UInt8) : restC (findC n) = chainC 3 n := by
  cases e : findC n with
  | none => rw [chain_none e]; rfl
  | some c => rw [chain_step e]; rfl
theorem block_ne (w : World) (a : Addr) (x : Value) {b : Nat} (h : b ≠ a.block) : (w.setCell a x).heap[b]? = w.heap[b]? := by
  unfold World.setCell
  simp [Array.getElem?_modify, Ne.symm h]
theorem set5_block (w : World) (g : Nat) (x0 x1 x2 x3 x4 : Value) {b : Nat} (h : b ≠ g) : (set5 w g x0 x1 x2 x3 x4).heap[b]? = w.heap[b]? := by
  simp only [set5]
  rw [block_ne _ ⟨g, 4, none⟩ _ h, block_ne _ ⟨g, 3, none⟩ _ h, block_ne _ ⟨g, 2, none⟩ _ h, block_ne _ ⟨g, 1, none⟩ _ h, block_ne _ ⟨g, 0, none⟩ _ h]
theorem grown_set5 (w : World) (g : Nat) (x0 x1 x2 x3 x4 : Value) : w.grownBy (set5 w g x0 x1 x2 x3 x4) (some g) :=
  have hb := set5_below (Below.refl 0 w) (Nat.zero_le g) x0 x1 x2 x3 x4
  ⟨hb.os, hb.tape, hb.output, hb.size, fun k hk hne => set5_block w g x0 x1 x2 x3 x4 (fun e => hne (by rw [e]))⟩
theorem OwnK.apart {B g0 g : Nat} {w : World} {v : Value} {L : List CT} (h : OwnK B g0 w v L) (hg : w.heap.size ≤ g) : OwnK B g w v L := by
  obtain ⟨P, h0, h1, h2⟩ := h
  exact ⟨P, h0, h1, fun j hj => ⟨(h2 j hj).1.imp (fun b hb => ⟨hb.1, hb.2.1, hb.2.2.1, by have := hb.2.1; omega⟩) (fun _ _ _ => rfl), (h2 j hj).2.imp (fun b hb => ⟨hb.1, hb.2.1, hb.2.2.1, by have := hb.2.1; omega⟩) (fun _ _ _ => rfl)⟩⟩
theorem OwnK.store {B g : Nat} {w : World} {v : Value} {L : List CT} (h : OwnK B g w v L) (hg : v.ownBlock ≠ some g) (x0 x1 x2 x3 x4 : Value) : OwnK B g (set5 w g x0 x1 x2 x3 x4) v L := by
  obtain ⟨P, h0, h1, h2⟩ := h
  refine ⟨P, h0, World.ownsRow.kept h1 (grown_set5 w g x0 x1 x2 x3 x4) (.inr hg), fun j hj => ⟨(h2 j hj).1.imp (fun b hk => ⟨hk.1, by rw [set5_size]; exact hk.2.1, hk.2.2⟩) (fun b o hk => set5_cell w g x0 x1 x2 x3 x4 o hk.2.2.2), (h2 j hj).2.imp (fun b hk => ⟨hk.1, by rw [set5_size]; exact hk.2.1, hk.2.2⟩) (fun b o hk => set5_cell w g x0 x1 x2 x3 x4 o hk.2.2.2)⟩⟩
theorem apart_new {B g g0 n : Nat} {w w' : World} {l : Value} {L : List CT} {v : Value} {A : List (List UInt8)} (hr : OwnK B g0 w l L) (hB : B ≤ n) (hn : w.heap.size ≤ n) (hg : g < n ∨ w'.heap.size ≤ g) (h : IsTo (New n w') w' A v) : IsTo (Apart B g w' l) w' A v :=
  h.imp (fun b hb => ⟨Nat.le_trans hB hb.1, hb.2, fun e => by have := ownK_lt hr b e.symm; have := hb.1; omega, by have := hb.1; have := hb.2; omega⟩) (fun _ _ _ => rfl)
theorem apart_go {B g : Nat} {w w' : World} {l : Value} {v : Value} {A : List (List UInt8)} (h : IsTo (Apart B g w l) w A v) (hb : Below w.heap.size w w') : IsTo (Apart B g w' l) w' A v :=
  h.imp (fun b hk => ⟨hk.1, Nat.lt_of_lt_of_le hk.2.1 hb.size, hk.2.2⟩) (fun b o hk => hb.cell (p := ⟨b, o, none⟩) hk.2.1)
theorem apart_set {B g : Nat} {w : World} {l : Value} {v : Value} {A : List (List UInt8)} (h : IsTo (Apart B g w l) w A v) (x0 x1 x2 x3 x4 : Value) : IsTo (Apart B g (set5 w g x0 x1 x2 x3 x4) l) (set5 w g x0 x1 x2 x3 x4) A v :=
  h.imp (fun b hk => ⟨hk.1, by rw [set5_size]; exact hk.2.1, hk.2.2⟩) (fun b o hk => set5_cell w g x0 x1 x2 x3 x4 o hk.2.2.2)

set_option maxRecDepth 100000 in
set_option maxHeartbeats 8000000 in
theorem classesOf_any (V : List (List UInt8)) (hs : smallT V) (v : Value) (w : World) (hl : LaidF w) (h : IsT w.heap.size w V v) :
    Calls Tryz.prog 86 #[v] w (ClsW w (allC V)) := by
  obtain ⟨a, c, rfl, hm, hcell⟩ := h
  unfold maxLen at hm
  obtain ⟨R, hR⟩ : ∃ R, R = allC V := ⟨_, rfl⟩
  rw [← hR]
  have hs1 := hs.1
  obtain ⟨n, hn⟩ : ∃ n, n = V.length := ⟨_, rfl⟩
  rw [← hn] at hm hs1 ⊢
  have HN := Lib.hid hn
  have HC := Lib.hid hcell
  have HL := Lib.hid hl
  have HR := Lib.hid hR
  have HS := Lib.hid hs
  clear hcell hn hl hR hs
  go_enter Tryz.func86, Tryz.ntmps86
  go_wp2
  go_loopw [4, 5, 12] (fun l s i wr => ∃ (j g0 : Nat) (A : List CT) (b : Bool), j ≤ n ∧ i = .int .i64 j ∧ s = .bool b ∧ A.length ≤ 3 * j ∧ allR A b (V.drop j) = R ∧ OwnK w.heap.size g0 wr l A ∧ Below w.heap.size w wr) (fun _ _ i wr => n - (intOf i).toNat)
  case atStart => exact ⟨0, 0, [], false, by omega, rfl, rfl, Nat.zero_le _, by rw [List.drop_zero, allR_start]; exact HR.out.symm, ownK_nil _ _ _, Below.refl _ _⟩
  case round =>
    obtain ⟨j, g0, A, b, hj, rfl, rfl, hAl, har, hown, hbel⟩ := hrel
    have HBel := Lib.hid hbel
    have hbs := hbel.size
    obtain ⟨sa, sc, hsv⟩ := ownK_slice hown
    obtain ⟨sn, hsn⟩ : ∃ k, k = A.length := ⟨_, rfl⟩
    rw [← hsn] at hsv hAl
    subst hsv
    have HSn := Lib.hid hsn
    have HOwn := Lib.hid hown
    by_cases hlt : j < n
    · have t3 : decide ((j : Int) < (n : Int)) = true := by simp; omega
      have t3' : decide (j < n) = true := by simpa using hlt
      have hlV : j < V.length := by rw [← HN.out]; exact hlt
      obtain ⟨xb, off, rfl, hb0, c0⟩ := HC.out j hlV
      obtain ⟨X, hX⟩ : ∃ X : ByteArray, ⟨V[j].toArray⟩ = X := ⟨_, rfl⟩
      have hXl : X.data.toList = V[j] := by rw [← hX]
      have d0 : (wr.cell? ⟨xb, off + j, none⟩) = some (.string X) := by
        rw [hbel.cell (p := ⟨xb, _, none⟩) hb0, c0, ← hX]; rfl
      have hXs : X.size ≤ 1000000 := by
        have := HS.out.2 V[j] (List.getElem_mem _)
        rw [← bytes_len, hXl]; omega
      rw [List.drop_eq_getElem_cons hlV] at har
      have hfo := fun w => fold_any trim_any X w (by omega)
      obtain ⟨F, hF⟩ : ∃ F, F = foldB X := ⟨_, rfl⟩
      have hFl : F.data.toList = fold V[j] := by rw [hF, ← hXl]; simp [foldB]
      rw [← hF] at hfo
      have HFo := Lib.hid hfo
      have hfi := fun W h => findC_any F W h
      rw [hFl] at hfi
      cases hq : findC (fold V[j]) with
      | none =>
        rw [hq] at hfi
        rw [allR_none hq] at har
        subst har
        have HFi := Lib.hid hfi
        clear hfo hfi hX hXl c0 hown hbel hsn HR hF hFl hq
        go_wp2_with (first
          | (go_at_call 81; refine (HFo.out _).mono ?_; rintro e w2 ⟨rfl, hb2⟩; have HB2 := Lib.hid (bthen HBel.out hb2); clear hb2)
          | (go_at_call 116; refine (HFi.out _ (HL.out.below HB2.out)).mono ?_; rintro e w3 hfw; (simp only [FindW, noC] at hfw); (obtain ⟨hb3, rfl⟩ := hfw); have HB3 := Lib.hid (bthen HB2.out hb3); clear hb3))
        go_ret2
        exact ⟨HB3.out.alloc HB3.out.size _, rfl⟩
      | some k =>
        rw [hq] at hfi
        rw [allR_step hq] at har
        have HFi := Lib.hid hfi
        obtain ⟨N, hN⟩ : ∃ X : ByteArray, X = ⟨k.name.toArray⟩ := ⟨_, rfl⟩
        obtain ⟨S, hS⟩ : ∃ X : ByteArray, X = ⟨k.sup.toArray⟩ := ⟨_, rfl⟩
        obtain ⟨T, hT⟩ : ∃ T, T = A ++ chainC 3 (fold V[j]) := ⟨_, rfl⟩
        have hTl : T.length ≤ sn + 3 := by rw [hT, List.length_append, ← hsn]; have := chain_len (fold V[j]) 3; omega
        have hT2 : A ++ restC (some k) = T := by rw [hT, ← rest_find, hq]
        rw [← hT] at har
        have HAr := Lib.hid har
        have HT2 := Lib.hid hT2
        clear hfo hfi hX hXl c0 hown hbel hsn HR hF hFl hq hT hT2 har
        have HNe := Lib.hid hN
        have HSe := Lib.hid hS
        have HNk : Hid (N.data.toList = k.name) := Lib.hid (by rw [hN])
        have HSk : Hid (S.data.toList = k.sup) := Lib.hid (by rw [hS])
        clear hN hS
        cases b with
        | true =>
          have HAr2 : Hid (allR T true (V.drop (j + 1)) = R) := HAr
          go_wp2_with (first
            | (go_at_call 81; refine (HFo.out _).mono ?_; rintro e w2 ⟨rfl, hb2⟩; have HB2 := Lib.hid (bthen HBel.out hb2); have HO2 := Lib.hid (ownK_below HOwn.out hb2); clear hb2)
            | (go_at_call 116; refine (HFi.out _ (HL.out.below HB2.out)).mono ?_; rintro e w3 hfw; (simp only [FindW, strV, ← HNe.out, ← HSe.out] at hfw); (obtain ⟨hb3, u1, u2, rfl, h1, h2⟩ := hfw); (obtain ⟨xa, xn, xc, hx1⟩ := isTo_slice h1); subst hx1; (obtain ⟨ya, yn, yc, hx2⟩ := isTo_slice h2); subst hx2; have hz3 := hb3.size; have HB3 := Lib.hid (bthen HB2.out hb3); have HO3 := Lib.hid ((ownK_below HO2.out hb3).apart (Nat.le_refl _)); have H1 := Lib.hid (apart_new (g := w3.heap.size) HO2.out HB2.out.size (Nat.le_refl _) (.inr (Nat.le_refl _)) h1); have H2 := Lib.hid (apart_new (g := w3.heap.size) HO2.out HB2.out.size (Nat.le_refl _) (.inr (Nat.le_refl _)) h2); clear hb3 h1 h2))
          have ha3 : Below w3.heap.size w3 (w3.alloc (.cells #[.string N, .string S, .bool k.st, .slice xa xn xc, .slice ya yn yc] 127)) := (Below.refl _ _).alloc (Nat.le_refl _) _
          have hb4 := bthen HB3.out ha3
          have hat : AtC w.heap.size (w3.alloc (.cells #[.string N, .string S, .bool k.st, .slice xa xn xc, .slice ya yn yc] 127)) (.slice sa sn sc) w3.heap.size (some k) :=
            ⟨⟨by simp, fun e => by have := ownK_lt HO3.out w3.heap.size e.symm; omega, HB3.out.size⟩, .string N, .string S, .bool k.st, .slice xa xn xc, .slice ya yn yc, boxC_new _ _ _ _ _ _, by rw [← HNk.out]; exact (strV_whole N).symm, by rw [← HSk.out]; exact (strV_whole S).symm, rfl, apart_go H1.out ha3, apart_go H2.out ha3⟩
          have HB4 := Lib.hid hb4
          have HAt := Lib.hid hat
          have HO4 := Lib.hid (ownK_below HO3.out ha3)
          clear ha3 hb4 hat
          go_loopw [4, 9] (fun l ok wq => ∃ (A' : List CT) (o : Option CT), ok = .bool o.isSome ∧ A' ++ restC o = T ∧ OwnK w.heap.size w3.heap.size wq l A' ∧ Below w.heap.size w wq ∧ AtC w.heap.size wq l w3.heap.size o) (fun l _ wq => T.length + 1 - lenOf l)
          case atStart => exact ⟨A, some k, rfl, HT2.out, HO4.out, HB4.out, HAt.out⟩
          case round =>
            obtain ⟨A', o, rfl, hAT, hown', hbel', ⟨hg1, hg2, hg3⟩, x0, x1, x2, u1, u2, hbox, hcls⟩ := hrel
            obtain ⟨la, lc, hlv⟩ := ownK_slice hown'
            obtain ⟨ln, hln⟩ : ∃ k, k = A'.length := ⟨_, rfl⟩
            rw [← hln] at hlv
            subst hlv
            have HO' := Lib.hid hown'
            have HB' := Lib.hid hbel'
            have HLn := Lib.hid hln
            have HG2 := Lib.hid hg2
            cases o with
            | none =>
              have hA' : A' = T := by rw [← hAT]; simp [restC]
              subst hA'
              simp only [Option.isSome_none]
              clear hAT hown' hbel' hln hbox hcls hg2
              go_wp2
              go_roundw
              case rel => exact ⟨j + 1, _, A', true, by omega, by go_num, rfl, by omega, HAr2.out, HO'.out, HB'.out⟩
              case measure => simp [intOf]; omega
            | some d =>
              obtain ⟨rfl, rfl, rfl, hu1, hu2⟩ := hcls
              obtain ⟨pa, pn, pc, hx1⟩ := isTo_slice hu1
              subst hx1
              obtain ⟨qa, qn, qc, hx2⟩ := isTo_slice hu2
              subst hx2
              simp only [Option.isSome_some]
              obtain ⟨N2, hN2⟩ : ∃ X : ByteArray, X = ⟨d.name.toArray⟩ := ⟨_, rfl⟩
              obtain ⟨S2, hS2⟩ : ∃ X : ByteArray, X = ⟨d.sup.toArray⟩ := ⟨_, rfl⟩
              simp only [strV, ← hN2, ← hS2] at hbox
              have hN2l : N2.data.toList = d.name := by rw [hN2]
              have hS2l : S2.data.toList = d.sup := by rw [hS2]
              have hTl2 : ln + 1 ≤ T.length := by rw [← hAT, List.length_append, ← hln]; simp [restC]
              have hTn : A' ++ [d] ++ restC (findC d.sup) = T := by rw [← hAT, rest_find]; simp [restC]
              obtain ⟨p0, p1, p2, p3, p4⟩ := hbox.cells
              have HBx := Lib.hid hbox
              have HU1 := Lib.hid hu1
              have HU2 := Lib.hid hu2
              have HN2 := Lib.hid hN2l
              have HS2 := Lib.hid hS2l
              have hfi2 := fun W h => findC_any S2 W h
              rw [hS2l] at hfi2
              cases hq2 : findC d.sup with
              | none =>
                rw [hq2] at hfi2 hTn
                have HTn := Lib.hid hTn
                have HF2 := Lib.hid hfi2
                clear hfi2 hTn hq2 hN2 hS2 hN2l hS2l hbox hu1 hu2 hAT hown' hbel' hln hg2
                go_wp2_with (first
                  | (at_builtin; refine wpList_append_class rfl (.tmp 30) (.tmp 32) rfl w.heap.size w3.heap.size (.slice la ln lc) A' rfl N2 S2 d (.slice pa pn pc) (.slice qa qn qc) HN2.out HS2.out HO'.out HU1.out HU2.out rfl (by have := HLn.out; omega) HB'.out.size ?_; intro v5 w5 hown5 hb5 hk5 hv5 hz5; (obtain ⟨ra, rc, hrv⟩ := ownK_slice hown5); (rw [List.length_append, List.length_singleton, ← HLn.out] at hrv); subst hrv; have HX5 := Lib.hid (show BoxC w5 w3.heap.size _ _ _ _ _ from (hk5 w3.heap.size hg1 HG2.out).trans HBx.out); (obtain ⟨r0, r1, r2, r3, r4⟩ := HX5.out.cells); have HO5 := Lib.hid hown5; have HB5 := Lib.hid (HB'.out.trans hb5); have HV5 := Lib.hid (fun e => (hv5 w3.heap.size e).elim (fun q => HG2.out q.symm) (fun q => by omega)); clear hown5 hb5 hk5 hv5)
                  | (go_at_call 116; refine (HF2.out _ (HL.out.below HB5.out)).mono ?_; rintro e w6 hfw; (simp only [FindW, noC] at hfw); (obtain ⟨hb6, rfl⟩ := hfw); have HX6 := Lib.hid (HX5.out.below hb6 (by omega)); (obtain ⟨m0, m1, m2, m3, m4⟩ := HX6.out.cells); (obtain ⟨n0, n1, n2, n3, n4⟩ := HX6.out.frozen); have HO6 := Lib.hid (ownK_below HO5.out hb6); have hz6 := hb6.size; have HB6 := Lib.hid (bthen HB5.out hb6); clear hb6))
                go_roundw
                case rel => exact ⟨A' ++ [d], none, rfl, HTn.out, HO6.out.store HV5.out _ _ _ _ _, set5_below HB6.out (by omega) _ _ _ _ _, ⟨by rw [set5_size]; omega, fun e => HV5.out e.symm, by omega⟩, _, _, _, _, _, HX6.out.store _ _ _ _ _, trivial⟩
                case measure => simp [lenOf]; omega
              | some d2 =>
                rw [hq2] at hfi2 hTn
                have HTn := Lib.hid hTn
                have HF2 := Lib.hid hfi2
                clear hfi2 hTn hq2 hN2 hS2 hN2l hS2l hbox hu1 hu2 hAT hown' hbel' hln hg2
                obtain ⟨N3, hN3⟩ : ∃ X : ByteArray, X = ⟨d2.name.toArray⟩ := ⟨_, rfl⟩
                obtain ⟨S3, hS3⟩ : ∃ X : ByteArray, X = ⟨d2.sup.toArray⟩ := ⟨_, rfl⟩
                have HN3 := Lib.hid hN3
                have HS3 := Lib.hid hS3
                clear hN3 hS3
                go_wp2_with (first
                  | (at_builtin; refine wpList_append_class rfl (.tmp 30) (.tmp 32) rfl w.heap.size w3.heap.size (.slice la ln lc) A' rfl N2 S2 d (.slice pa pn pc) (.slice qa qn qc) HN2.out HS2.out HO'.out HU1.out HU2.out rfl (by have := HLn.out; omega) HB'.out.size ?_; intro v5 w5 hown5 hb5 hk5 hv5 hz5; (obtain ⟨ra, rc, hrv⟩ := ownK_slice hown5); (rw [List.length_append, List.length_singleton, ← HLn.out] at hrv); subst hrv; have HX5 := Lib.hid (show BoxC w5 w3.heap.size _ _ _ _ _ from (hk5 w3.heap.size hg1 HG2.out).trans HBx.out); (obtain ⟨r0, r1, r2, r3, r4⟩ := HX5.out.cells); have HO5 := Lib.hid hown5; have HB5 := Lib.hid (HB'.out.trans hb5); have HV5 := Lib.hid (fun e => (hv5 w3.heap.size e).elim (fun q => HG2.out q.symm) (fun q => by omega)); clear hown5 hb5 hk5 hv5)
                  | (go_at_call 116; refine (HF2.out _ (HL.out.below HB5.out)).mono ?_; rintro e w6 hfw; (simp only [FindW, strV, ← HN3.out, ← HS3.out] at hfw); (obtain ⟨hb6, y1, y2, rfl, h1, h2⟩ := hfw); (obtain ⟨xa2, xn2, xc2, hx1⟩ := isTo_slice h1); subst hx1; (obtain ⟨ya2, yn2, yc2, hx2⟩ := isTo_slice h2); subst hx2; have HX6 := Lib.hid (HX5.out.below hb6 (by omega)); (obtain ⟨m0, m1, m2, m3, m4⟩ := HX6.out.cells); (obtain ⟨n0, n1, n2, n3, n4⟩ := HX6.out.frozen); have HO6 := Lib.hid (ownK_below HO5.out hb6); have hz6 := hb6.size; have HB6 := Lib.hid (bthen HB5.out hb6); have HY1 := Lib.hid (apart_new (g := w3.heap.size) HO5.out HB5.out.size (Nat.le_refl _) (.inl (by omega)) h1); have HY2 := Lib.hid (apart_new (g := w3.heap.size) HO5.out HB5.out.size (Nat.le_refl _) (.inl (by omega)) h2); clear h1 h2; clear hb6))
                go_roundw
                case rel => exact ⟨A' ++ [d], some d2, rfl, HTn.out, HO6.out.store HV5.out _ _ _ _ _, set5_below HB6.out (by omega) _ _ _ _ _, ⟨by rw [set5_size]; omega, fun e => HV5.out e.symm, by omega⟩, _, _, _, _, _, HX6.out.store _ _ _ _ _, by rw [HN3.out]; rfl, by rw [HS3.out]; rfl, rfl, apart_set HY1.out _ _ _ _ _, apart_set HY2.out _ _ _ _ _⟩
                case measure => simp [lenOf]; omega
        | false =>
          have HAr2 : Hid (allR T k.st (V.drop (j + 1)) = R) := HAr
          go_wp2_with (first
            | (go_at_call 81; refine (HFo.out _).mono ?_; rintro e w2 ⟨rfl, hb2⟩; have HB2 := Lib.hid (bthen HBel.out hb2); have HO2 := Lib.hid (ownK_below HOwn.out hb2); clear hb2)
            | (go_at_call 116; refine (HFi.out _ (HL.out.below HB2.out)).mono ?_; rintro e w3 hfw; (simp only [FindW, strV, ← HNe.out, ← HSe.out] at hfw); (obtain ⟨hb3, u1, u2, rfl, h1, h2⟩ := hfw); (obtain ⟨xa, xn, xc, hx1⟩ := isTo_slice h1); subst hx1; (obtain ⟨ya, yn, yc, hx2⟩ := isTo_slice h2); subst hx2; have hz3 := hb3.size; have HB3 := Lib.hid (bthen HB2.out hb3); have HO3 := Lib.hid ((ownK_below HO2.out hb3).apart (Nat.le_refl _)); have H1 := Lib.hid (apart_new (g := w3.heap.size) HO2.out HB2.out.size (Nat.le_refl _) (.inr (Nat.le_refl _)) h1); have H2 := Lib.hid (apart_new (g := w3.heap.size) HO2.out HB2.out.size (Nat.le_refl _) (.inr (Nat.le_refl _)) h2); clear hb3 h1 h2))
          have ha3 : Below w3.heap.size w3 (w3.alloc (.cells #[.string N, .string S, .bool k.st, .slice xa xn xc, .slice ya yn yc] 127)) := (Below.refl _ _).alloc (Nat.le_refl _) _
          have hb4 := bthen HB3.out ha3
          have hat : AtC w.heap.size (w3.alloc (.cells #[.string N, .string S, .bool k.st, .slice xa xn xc, .slice ya yn yc] 127)) (.slice sa sn sc) w3.heap.size (some k) :=
            ⟨⟨by simp, fun e => by have := ownK_lt HO3.out w3.heap.size e.symm; omega, HB3.out.size⟩, .string N, .string S, .bool k.st, .slice xa xn xc, .slice ya yn yc, boxC_new _ _ _ _ _ _, by rw [← HNk.out]; exact (strV_whole N).symm, by rw [← HSk.out]; exact (strV_whole S).symm, rfl, apart_go H1.out ha3, apart_go H2.out ha3⟩
          have HB4 := Lib.hid hb4
          have HAt := Lib.hid hat
          have HO4 := Lib.hid (ownK_below HO3.out ha3)
          clear ha3 hb4 hat
          go_loopw [4, 9] (fun l ok wq => ∃ (A' : List CT) (o : Option CT), ok = .bool o.isSome ∧ A' ++ restC o = T ∧ OwnK w.heap.size w3.heap.size wq l A' ∧ Below w.heap.size w wq ∧ AtC w.heap.size wq l w3.heap.size o) (fun l _ wq => T.length + 1 - lenOf l)
          case atStart => exact ⟨A, some k, rfl, HT2.out, HO4.out, HB4.out, HAt.out⟩
          case round =>
            obtain ⟨A', o, rfl, hAT, hown', hbel', ⟨hg1, hg2, hg3⟩, x0, x1, x2, u1, u2, hbox, hcls⟩ := hrel
            obtain ⟨la, lc, hlv⟩ := ownK_slice hown'
            obtain ⟨ln, hln⟩ : ∃ k, k = A'.length := ⟨_, rfl⟩
            rw [← hln] at hlv
            subst hlv
            have HO' := Lib.hid hown'
            have HB' := Lib.hid hbel'
            have HLn := Lib.hid hln
            have HG2 := Lib.hid hg2
            cases o with
            | none =>
              have hA' : A' = T := by rw [← hAT]; simp [restC]
              subst hA'
              simp only [Option.isSome_none]
              clear hAT hown' hbel' hln hbox hcls hg2
              go_wp2
              go_roundw
              case rel => exact ⟨j + 1, _, A', k.st, by omega, by go_num, rfl, by omega, HAr2.out, HO'.out, HB'.out⟩
              case measure => simp [intOf]; omega
            | some d =>
              obtain ⟨rfl, rfl, rfl, hu1, hu2⟩ := hcls
              obtain ⟨pa, pn, pc, hx1⟩ := isTo_slice hu1
              subst hx1
              obtain ⟨qa, qn, qc, hx2⟩ := isTo_slice hu2
              subst hx2
              simp only [Option.isSome_some]
              obtain ⟨N2, hN2⟩ : ∃ X : ByteArray, X = ⟨d.name.toArray⟩ := ⟨_, rfl⟩
              obtain ⟨S2, hS2⟩ : ∃ X : ByteArray, X = ⟨d.sup.toArray⟩ := ⟨_, rfl⟩
              simp only [strV, ← hN2, ← hS2] at hbox
              have hN2l : N2.data.toList = d.name := by rw [hN2]
              have hS2l : S2.data.toList = d.sup := by rw [hS2]
              have hTl2 : ln + 1 ≤ T.length := by rw [← hAT, List.length_append, ← hln]; simp [restC]
              have hTn : A' ++ [d] ++ restC (findC d.sup) = T := by rw [← hAT, rest_find]; simp [restC]
              obtain ⟨p0, p1, p2, p3, p4⟩ := hbox.cells
              have HBx := Lib.hid hbox
              have HU1 := Lib.hid hu1
              have HU2 := Lib.hid hu2
              have HN2 := Lib.hid hN2l
              have HS2 := Lib.hid hS2l
              have hfi2 := fun W h => findC_any S2 W h
              rw [hS2l] at hfi2
              cases hq2 : findC d.sup with
              | none =>
                rw [hq2] at hfi2 hTn
                have HTn := Lib.hid hTn
                have HF2 := Lib.hid hfi2
                clear hfi2 hTn hq2 hN2 hS2 hN2l hS2l hbox hu1 hu2 hAT hown' hbel' hln hg2
                go_wp2_with (first
                  | (at_builtin; refine wpList_append_class rfl (.tmp 30) (.tmp 32) rfl w.heap.size w3.heap.size (.slice la ln lc) A' rfl N2 S2 d (.slice pa pn pc) (.slice qa qn qc) HN2.out HS2.out HO'.out HU1.out HU2.out rfl (by have := HLn.out; omega) HB'.out.size ?_; intro v5 w5 hown5 hb5 hk5 hv5 hz5; (obtain ⟨ra, rc, hrv⟩ := ownK_slice hown5); (rw [List.length_append, List.length_singleton, ← HLn.out] at hrv); subst hrv; have HX5 := Lib.hid (show BoxC w5 w3.heap.size _ _ _ _ _ from (hk5 w3.heap.size hg1 HG2.out).trans HBx.out); (obtain ⟨r0, r1, r2, r3, r4⟩ := HX5.out.cells); have HO5 := Lib.hid hown5; have HB5 := Lib.hid (HB'.out.trans hb5); have HV5 := Lib.hid (fun e => (hv5 w3.heap.size e).elim (fun q => HG2.out q.symm) (fun q => by omega)); clear hown5 hb5 hk5 hv5)
                  | (go_at_call 116; refine (HF2.out _ (HL.out.below HB5.out)).mono ?_; rintro e w6 hfw; (simp only [FindW, noC] at hfw); (obtain ⟨hb6, rfl⟩ := hfw); have HX6 := Lib.hid (HX5.out.below hb6 (by omega)); (obtain ⟨m0, m1, m2, m3, m4⟩ := HX6.out.cells); (obtain ⟨n0, n1, n2, n3, n4⟩ := HX6.out.frozen); have HO6 := Lib.hid (ownK_below HO5.out hb6); have hz6 := hb6.size; have HB6 := Lib.hid (bthen HB5.out hb6); clear hb6))
                go_roundw
                case rel => exact ⟨A' ++ [d], none, rfl, HTn.out, HO6.out.store HV5.out _ _ _ _ _, set5_below HB6.out (by omega) _ _ _ _ _, ⟨by rw [set5_size]; omega, fun e => HV5.out e.symm, by omega⟩, _, _, _, _, _, HX6.out.store _ _ _ _ _, trivial⟩
                case measure => simp [lenOf]; omega
              | some d2 =>
                rw [hq2] at hfi2 hTn
                have HTn := Lib.hid hTn
                have HF2 := Lib.hid hfi2
                clear hfi2 hTn hq2 hN2 hS2 hN2l hS2l hbox hu1 hu2 hAT hown' hbel' hln hg2
                obtain ⟨N3, hN3⟩ : ∃ X : ByteArray, X = ⟨d2.name.toArray⟩ := ⟨_, rfl⟩
                obtain ⟨S3, hS3⟩ : ∃ X : ByteArray, X = ⟨d2.sup.toArray⟩ := ⟨_, rfl⟩
                have HN3 := Lib.hid hN3
                have HS3 := Lib.hid hS3
                clear hN3 hS3
                go_wp2_with (first
                  | (at_builtin; refine wpList_append_class rfl (.tmp 30) (.tmp 32) rfl w.heap.size w3.heap.size (.slice la ln lc) A' rfl N2 S2 d (.slice pa pn pc) (.slice qa qn qc) HN2.out HS2.out HO'.out HU1.out HU2.out rfl (by have := HLn.out; omega) HB'.out.size ?_; intro v5 w5 hown5 hb5 hk5 hv5 hz5; (obtain ⟨ra, rc, hrv⟩ := ownK_slice hown5); (rw [List.length_append, List.length_singleton, ← HLn.out] at hrv); subst hrv; have HX5 := Lib.hid (show BoxC w5 w3.heap.size _ _ _ _ _ from (hk5 w3.heap.size hg1 HG2.out).trans HBx.out); (obtain ⟨r0, r1, r2, r3, r4⟩ := HX5.out.cells); have HO5 := Lib.hid hown5; have HB5 := Lib.hid (HB'.out.trans hb5); have HV5 := Lib.hid (fun e => (hv5 w3.heap.size e).elim (fun q => HG2.out q.symm) (fun q => by omega)); clear hown5 hb5 hk5 hv5)
                  | (go_at_call 116; refine (HF2.out _ (HL.out.below HB5.out)).mono ?_; rintro e w6 hfw; (simp only [FindW, strV, ← HN3.out, ← HS3.out] at hfw); (obtain ⟨hb6, y1, y2, rfl, h1, h2⟩ := hfw); (obtain ⟨xa2, xn2, xc2, hx1⟩ := isTo_slice h1); subst hx1; (obtain ⟨ya2, yn2, yc2, hx2⟩ := isTo_slice h2); subst hx2; have HX6 := Lib.hid (HX5.out.below hb6 (by omega)); (obtain ⟨m0, m1, m2, m3, m4⟩ := HX6.out.cells); (obtain ⟨n0, n1, n2, n3, n4⟩ := HX6.out.frozen); have HO6 := Lib.hid (ownK_below HO5.out hb6); have hz6 := hb6.size; have HB6 := Lib.hid (bthen HB5.out hb6); have HY1 := Lib.hid (apart_new (g := w3.heap.size) HO5.out HB5.out.size (Nat.le_refl _) (.inl (by omega)) h1); have HY2 := Lib.hid (apart_new (g := w3.heap.size) HO5.out HB5.out.size (Nat.le_refl _) (.inl (by omega)) h2); clear h1 h2; clear hb6))
                go_roundw
                case rel => exact ⟨A' ++ [d], some d2, rfl, HTn.out, HO6.out.store HV5.out _ _ _ _ _, set5_below HB6.out (by omega) _ _ _ _ _, ⟨by rw [set5_size]; omega, fun e => HV5.out e.symm, by omega⟩, _, _, _, _, _, HX6.out.store _ _ _ _ _, by rw [HN3.out]; rfl, by rw [HS3.out]; rfl, rfl, apart_set HY1.out _ _ _ _ _, apart_set HY2.out _ _ _ _ _⟩
                case measure => simp [lenOf]; omega
    · obtain rfl : j = n := by omega
      have t3 : decide ((j : Int) < (j : Int)) = false := by simp
      have t3' : decide (j < j) = false := by simp
      have hA : R = some (A, b) := by
        rw [← har, List.drop_of_length_le (by rw [← HN.out]; exact Nat.le_refl _), allR_end]
      subst hA
      clear har hown hbel hsn HR
      go_wp2
      go_ret2
      exact ⟨HBel.out, _, _, rfl, HOwn.out⟩
end Go.Proofs.YtpnbcmblnplbgaaGreatDoor


namespace Go.Proofs.YtpnbcmblnplbgaaGreatDoor
open Go.RowKit
set_option linter.unusedVariables false

theorem flat_take {α : Type} (U : List (List α)) (j : Nat) (h : j < U.length) : (U.take (j + 1)).flatten = (U.take j).flatten ++ U[j] := by
  rw [List.take_succ_eq_append_getElem h, List.flatten_append]
  simp
theorem flat_le {α : Type} (U : List (List α)) (j : Nat) : (U.take j).flatten.length ≤ U.flatten.length := by
  have : U.flatten = (U.take j).flatten ++ (U.drop j).flatten := by rw [← List.flatten_append, List.take_append_drop]
  rw [this, List.length_append]
  omega

set_option maxRecDepth 100000 in
set_option maxHeartbeats 2000000 in
theorem grow_any (n : Nat) (hn : n ≤ 100000) (w : World) :
    Calls Tryz.prog 117 #[.slice none 0 0, .int .i64 n] w fun e w' => ∃ v, e = .returned v ∧ OwnS w.heap.size w' v [] ∧ Below w.heap.size w w' := by
  have t0 : decide ((n : Int) < 0) = false := by simp
  by_cases h0 : n = 0
  · subst h0
    go_enter Tryz.func117, Tryz.ntmps117
    go_wp2
    go_ret
    exact ⟨_, rfl, ownS_nil _ _, Below.refl _ _⟩
  · have t1 : decide ((0 : Int) < (n : Int)) = true := by simp; omega
    obtain ⟨i0, hi, hz0, hz1, hz2⟩ := info_parts infoS
    have hap := fun ty => Lib.run_append_nil_zeros (P := Tryz.prog) w 47 3 ty 9 i0 (.string ⟨#[]⟩) .i64 .i64 Tryz.underlying47 Tryz.underlying3 hi hz0 n (by omega) (by omega) (by omega) (by rw [hz2]; omega)
    obtain ⟨cap, hcap⟩ : ∃ cap, cap = grownCap w n 0 9 := ⟨_, rfl⟩
    have hc1 : n ≤ cap := by rw [hcap]; exact grownCap_ge _ _ _ _
    have hc2 : cap ≤ maxLen := by rw [hcap]; exact grownCap_le_maxLen _ _ _ _ (by unfold maxLen; omega)
    obtain ⟨W, hW⟩ : ∃ W, W = w.drew.alloc (.cells (Builtin.zeroCells (Value.string ⟨#[]⟩).cells n ++ Builtin.zeroCells (Value.string ⟨#[]⟩).cells (cap - n)) 9) := ⟨_, rfl⟩
    have hown : OwnS w.heap.size W (.slice (some ⟨w.heap.size, 0, none⟩) 0 cap) [] := by
      rw [hW]
      exact World.ownsRow_made (w := w.drew) (base := w.heap.size) (e := 9) (size := 1) _ cap (Nat.le_refl _) hc2 (by simp [Builtin.zeroCells, Value.cells]; omega)
    have hbel : Below w.heap.size w W := by
      rw [hW]
      exact (Below.refl _ _).drew.alloc (Nat.le_refl _) _
    rw [← hcap, ← hW] at hap
    have HAp := Lib.hid hap
    have HO := Lib.hid hown
    have HB := Lib.hid hbel
    clear hap hown hbel hW hcap
    unfold maxLen at hc2
    go_enter Tryz.func117, Tryz.ntmps117
    go_wp2_with (at_builtin; refine Lib.wpList_append_run _ rfl _ _ _ _ rfl _ _ rfl rfl _ _ (HAp.out _) ?_)
    go_ret
    exact ⟨_, rfl, HO.out, HB.out⟩

def IsTT (n0 : Nat) (w : World) (U : List (List (List UInt8))) (v : Value) : Prop := ∃ a c, v = .slice a U.length c ∧ ∀ j, (h : j < U.length) → ∃ b off u, a = some ⟨b, off, none⟩ ∧ b < n0 ∧ w.cell? ⟨b, off + j, none⟩ = some u ∧ IsT n0 w U[j] u

set_option maxRecDepth 100000 in
set_option maxHeartbeats 4000000 in
theorem concat_any (U : List (List (List UInt8))) (hU : U.flatten.length ≤ 100000) (hl : U.length ≤ 1000) (v : Value) (w : World) (h : IsTT w.heap.size w U v) :
    Calls Tryz.prog 88 #[v] w fun e w' => ∃ v', e = .returned v' ∧ OwnS w.heap.size w' v' U.flatten ∧ Below w.heap.size w w' := by
  obtain ⟨a, c, rfl, hcell⟩ := h
  obtain ⟨n, hn⟩ : ∃ n, n = U.length := ⟨_, rfl⟩
  rw [← hn] at hl ⊢
  have HN := Lib.hid hn
  have HC := Lib.hid hcell
  clear hcell hn
  go_enter Tryz.func88, Tryz.ntmps88
  go_wp2
  go_loopw [3, 11] (fun s i wr => ∃ (j k : Nat), j ≤ n ∧ i = .int .i64 j ∧ s = .int .i64 k ∧ k = (U.take j).flatten.length ∧ w = wr) (fun _ i wr => n - (intOf i).toNat)
  case atStart => exact ⟨0, 0, by omega, rfl, rfl, rfl, rfl⟩
  case round =>
    obtain ⟨j, k, hj, rfl, rfl, hk, rfl⟩ := hrel
    have hk2 := flat_le U j
    rw [← hk] at hk2
    by_cases hlt : j < n
    · have t3 : decide ((j : Int) < (n : Int)) = true := by simp; omega
      have t3' : decide (j < n) = true := by simpa using hlt
      have hlU : j < U.length := by rw [← HN.out]; exact hlt
      obtain ⟨b, off, u, rfl, hb0, c0, ht⟩ := HC.out j hlU
      obtain ⟨ua, uc, hu, _⟩ := id ht
      obtain ⟨un, hun⟩ : ∃ k, k = U[j].length := ⟨_, rfl⟩
      rw [← hun] at hu
      subst hu
      have hnew : k + un = (U.take (j + 1)).flatten.length := by rw [flat_take U j hlU, List.length_append, ← hk, ← hun]
      have hk3 := flat_le U (j + 1)
      rw [← hnew] at hk3
      have HNew := Lib.hid hnew
      have t4 : decide (((k : Int) + (un : Int)) < 0) = false := by simp; omega
      have t4' : decide (((k + un : Nat) : Int) < 0) = false := by simp; omega
      clear hun hk hnew ht
      go_wp2
      go_roundw
      case rel => exact ⟨j + 1, k + un, by omega, by go_num, by go_num, HNew.out, by first | rfl | trivial⟩
      case measure => simp [intOf]; omega
    · obtain rfl : j = n := by omega
      have t3 : decide ((j : Int) < (j : Int)) = false := by simp
      have t3' : decide (j < j) = false := by simp
      have HG := Lib.hid (fun W => grow_any k (by omega) W)
      clear hk
      go_wp2_with (go_at_call 117; refine (HG.out _).mono ?_; rintro e w2 ⟨v2, rfl, ho2, hb2⟩; (obtain ⟨xa, xc, hxe⟩ := ownS_slice ho2); (simp only [List.length_nil] at hxe); subst hxe; have HO2 := Lib.hid ho2; have HB2 := Lib.hid hb2; clear ho2 hb2)
      go_loopw [6, 27] (fun l i wr => ∃ (q : Nat), q ≤ j ∧ i = .int .i64 q ∧ OwnS w.heap.size wr l (U.take q).flatten ∧ Below w.heap.size w wr) (fun _ i wr => j - (intOf i).toNat)
      case atStart => exact ⟨0, by omega, rfl, HO2.out, HB2.out⟩
      case round =>
        obtain ⟨q, hq, rfl, hown, hbel⟩ := hrel
        have HBel := Lib.hid hbel
        have hbs := hbel.size
        have hsz := flat_le U q
        obtain ⟨sa, sc, hsv⟩ := ownS_slice hown
        obtain ⟨sn, hsn⟩ : ∃ k, k = (U.take q).flatten.length := ⟨_, rfl⟩
        rw [← hsn] at hsv hsz
        subst hsv
        have HOwn := Lib.hid hown
        have HSn := Lib.hid hsn
        clear hsn hown
        by_cases hlt : q < j
        · have t5 : decide ((q : Int) < (j : Int)) = true := by simp; omega
          have t5' : decide (q < j) = true := by simpa using hlt
          have hlU : q < U.length := by rw [← HN.out]; exact hlt
          obtain ⟨b, off, u, hae, hb0, c0, ht⟩ := HC.out q hlU
          subst hae
          obtain ⟨ua, uc, hu, hmx, hcu⟩ := id ht
          obtain ⟨un, hun⟩ : ∃ k, k = U[q].length := ⟨_, rfl⟩
          rw [← hun] at hu
          subst hu
          have d0 := (hbel.cell (p := ⟨b, off + q, none⟩) hb0).trans c0
          have htot : sn + un ≤ 100000 := by
            have := flat_le U (q + 1)
            rw [flat_take U q hlU, List.length_append, ← HSn.out, ← hun] at this
            omega
          have hnew := flat_take U q hlU
          have HNew := Lib.hid hnew
          obtain ⟨i0, hi, hz0, hz1, hz2⟩ := info_parts infoS
          have HUn := Lib.hid hun
          have HT := Lib.hid ht
          clear c0 hnew ht hbel hun
          by_cases hu0 : un = 0
          · subst hu0
            have hle : sn ≤ sc := by
              rcases HOwn.out.2 with ⟨e, _⟩ | ⟨g, cap, cur, e, _, _, h1, _⟩
              · obtain ⟨_, rfl, rfl⟩ := Value.slice.inj e; omega
              · obtain ⟨_, _, rfl⟩ := Value.slice.inj e; rw [HSn.out]; exact h1
            have hsrc : Src Tryz.prog i0.size 47 (.slice ua 0 uc) 0 [] wr := by
              cases ua with
              | none => exact Src.ofNil _ Tryz.underlying47 uc
              | some ad => exact Src.ofSlice _ Tryz.underlying47 ad 0 uc [] (by simp) (by simp) (by simp)
            have HRn := Lib.hid (fun ty => run_append_nothing wr 47 47 ty 9 i0 Tryz.underlying47 hi sa sn sc hle (.slice ua 0 uc) hsrc)
            have hnil : U[q] = [] := List.eq_nil_of_length_eq_zero HUn.out.symm
            have HNil := Lib.hid hnil
            clear hsrc hle hnil hi hz0 hz1 hz2 hcu
            go_wp2_with (at_builtin; refine Lib.wpList_append_run _ rfl _ _ _ _ rfl _ _ rfl rfl _ _ (HRn.out _) ?_)
            go_roundw
            case rel => exact ⟨q + 1, by omega, by go_num, by rw [HNew.out, HNil.out, List.append_nil]; exact HOwn.out, HBel.out⟩
            case measure => simp [intOf]; omega
          · obtain ⟨b2, off2, hua, hb2, _⟩ := hcu 0 (by have := HUn.out; omega)
            subst hua
            have hnews : ∀ i u, (U[q].map strV)[i]? = some u → wr.cell? ((⟨b2, off2, none⟩ : Addr).add i) = some u := by
              intro i u hiu
              rw [List.getElem?_map] at hiu
              cases e : U[q][i]? with
              | none => rw [e] at hiu; cases hiu
              | some x =>
                rw [e] at hiu
                simp only [Option.map_some, Option.some.injEq] at hiu
                obtain ⟨hi2, hx⟩ := List.getElem?_eq_some_iff.1 e
                obtain ⟨b3, off3, e3, hb3, c3⟩ := hcu i hi2
                obtain ⟨rfl, rfl⟩ : b2 = b3 ∧ off2 = off3 := by simpa using e3
                have hadd : (⟨b2, off2, none⟩ : Addr).add i = ⟨b2, off2 + i, none⟩ := by unfold Addr.add; split <;> simp_all
                rw [hadd, HBel.out.cell (p := ⟨b2, _, none⟩) hb3, c3, ← hiu, hx]
            have HNw := Lib.hid hnews
            clear hcu hnews
            go_wp2_with (at_builtin; refine wpList_append_own_at _ rfl (.tmp 31) (.tmp 32) 47 rfl w.heap.size 9 i0 (.string ⟨#[]⟩) 1 16 Tryz.underlying47 hi hz0 hz1 hz2 rfl (by decide) (.slice sa sn sc) sn ((U.take q).flatten.map strV) rfl (by have := HOwn.out; unfold OwnS at this; rw [← HSn.out] at this; exact this) ⟨b2, off2, none⟩ un uc (U[q].map strV) rfl (by rw [List.length_map, Nat.mul_one]; exact HUn.out.symm) HNw.out (by intro u hu; obtain ⟨x, _, rfl⟩ := List.mem_map.1 hu; rfl) (by unfold maxLen; omega) (by omega) hbs ?_; intro v5 w5 hown5 hg5 _ _; have HO5 := Lib.hid hown5; have HB5 := Lib.hid (HBel.out.grown hg5 hbs (fun k e => (World.ownsRow.lt HOwn.out k e).1)); clear hown5 hg5)
            go_roundw
            case rel => exact ⟨q + 1, by omega, by go_num, by unfold OwnS; rw [HNew.out, List.length_append, List.map_append, ← HSn.out, ← HUn.out]; exact HO5.out, HB5.out⟩
            case measure => simp [intOf]; omega
        · obtain rfl : q = j := by omega
          have t5 : decide ((q : Int) < (q : Int)) = false := by simp
          have t5' : decide (q < q) = false := by simp
          have hall : (U.take q).flatten = U.flatten := by rw [List.take_of_length_le (by rw [← HN.out]; exact Nat.le_refl _)]
          have HAll := Lib.hid hall
          clear hall hbel
          go_wp2
          go_ret
          exact ⟨.slice sa sn sc, rfl, by have := HOwn.out; rwa [HAll.out] at this, HBel.out⟩
end Go.Proofs.YtpnbcmblnplbgaaGreatDoor


namespace Go.Proofs.YtpnbcmblnplbgaaGreatDoor
open Go.RowKit
set_option linter.unusedVariables false

def likeB (t val x : List UInt8) : Bool := sameO (normD (ruleD t) x) (normD (ruleD t) val)
def hasA (L : List AT) (t val : List UInt8) : Bool := (findA L t).any (likeB t val)
end Go.Proofs.YtpnbcmblnplbgaaGreatDoor


namespace Go.Proofs.YtpnbcmblnplbgaaGreatDoor
open Go.RowKit
set_option linter.unusedVariables false

set_option maxRecDepth 100000 in
set_option maxHeartbeats 2000000 in
theorem indexS_any (L : List (List UInt8)) (v : Value) (T : ByteArray) (w : World) (h : IsT w.heap.size w L v) :
    Calls Tryz.prog 118 #[v, .string T] w fun e w' => ∃ I : Int, e = .returned (.int .i64 I) ∧ decide (0 ≤ I) = L.contains T.data.toList ∧ w = w' := by
  obtain ⟨a, c, rfl, hm, hcell⟩ := h
  unfold maxLen at hm
  have HC := Lib.hid hcell
  clear hcell
  go_enter Tryz.func118, Tryz.ntmps118
  go_wp2
  go_loopw [8] (fun i wr => ∃ j : Nat, j ≤ L.length ∧ i = .int .i64 j ∧ Hid (∀ k (hk : k < L.length), k < j → L[k] ≠ T.data.toList) ∧ w = wr) (fun i wr => L.length - (intOf i).toNat)
  case atStart => exact ⟨0, by omega, rfl, Lib.hid (fun k _ h => absurd h (by omega)), rfl⟩
  case round =>
    obtain ⟨j, hj, rfl, HNo, rfl⟩ := hrel
    by_cases hlt : j < L.length
    · have t1 : decide ((j : Int) < (L.length : Int)) = true := by simp; omega
      have t1' : decide (j < L.length) = true := by simpa using hlt
      obtain ⟨b, off, rfl, hb0, c0⟩ := HC.out j hlt
      obtain ⟨X, hX⟩ : ∃ X : ByteArray, ⟨L[j].toArray⟩ = X := ⟨_, rfl⟩
      have hXl : X.data.toList = L[j] := by rw [← hX]
      have d0 : (w.cell? ⟨b, off + j, none⟩) = some (.string X) := by
        rw [c0, ← hX]; rfl
      by_cases he : T = X
      · have HR : Hid (L.contains T.data.toList = true) := Lib.hid (by rw [List.contains_iff_mem, he, hXl]; exact List.getElem_mem _)
        subst he
        clear hX hXl c0 HNo
        go_wp2
        go_ret
        exact ⟨_, rfl, by rw [HR.out]; simp, rfl⟩
      · have t2 := str_ne he
        have HN : Hid (∀ k (hk : k < L.length), k < j + 1 → L[k] ≠ T.data.toList) := Lib.hid (fun k h1 h3 => by
            by_cases hk : k < j
            · exact HNo.out k h1 hk
            · obtain rfl : k = j := by omega
              rw [← hXl]
              exact fun e => he (bytes_ext e.symm))
        clear he hX hXl c0 HNo
        go_wp2
        go_roundw
        case rel => exact ⟨j + 1, by omega, by go_num, HN, by first | rfl | trivial⟩
        case measure => simp [intOf]; omega
    · obtain rfl : j = L.length := by omega
      have t1 : decide ((L.length : Int) < (L.length : Int)) = false := by simp
      have t1' : decide (L.length < L.length) = false := by simp
      have HR : Hid (L.contains T.data.toList = false) := Lib.hid (by
        rw [Bool.eq_false_iff, Ne, List.contains_iff_mem]
        intro hx
        obtain ⟨k, hk, e⟩ := List.getElem_of_mem hx
        exact HNo.out k hk hk e)
      go_wp2
      go_ret
      exact ⟨_, rfl, by rw [HR.out]; rfl, rfl⟩

set_option maxRecDepth 100000 in
set_option maxHeartbeats 2000000 in
theorem containsS_any (L : List (List UInt8)) (v : Value) (T : ByteArray) (w : World) (h : IsT w.heap.size w L v) :
    Calls Tryz.prog 89 #[v, .string T] w fun e w' => e = .returned (.bool (L.contains T.data.toList)) ∧ w = w' := by
  have hc := indexS_any L v T w h
  obtain ⟨R, hR⟩ : ∃ R, R = L.contains T.data.toList := ⟨_, rfl⟩
  rw [← hR] at hc ⊢
  obtain ⟨sa, sc, hv, _⟩ := id h
  obtain ⟨sn, hsn⟩ : ∃ n, n = L.length := ⟨_, rfl⟩
  rw [← hsn] at hv
  subst hv
  have HC := Lib.hid hc
  clear hc hR hsn h
  go_enter Tryz.func89, Tryz.ntmps89
  go_wp2_with (go_at_call 118; refine (HC.out).mono ?_; rintro e w2 ⟨I, rfl, hI, rfl⟩)
  go_ret
  exact ⟨rfl, rfl⟩

set_option maxRecDepth 100000 in
set_option maxHeartbeats 2000000 in
theorem like2_any (T V X : ByteArray) (b1 o1 b2 o2 g n c : Nat) (hn : 0 < n) (hn2 : n ≤ 1000) (w : World) (hw : LaidW w) (h1 : w.cell? ⟨b1, o1, none⟩ = some (.string T)) (h2 : w.cell? ⟨b2, o2, none⟩ = some (.slice (some ⟨g, 0, none⟩) n c)) (h3 : w.cell? ⟨g, 1, none⟩ = some (.string V)) :
    Calls Tryz.prog 91 #[.string X, .pointer (some ⟨b1, o1, none⟩), .pointer (some ⟨b2, o2, none⟩)] w fun e w' => e = .returned (.bool (likeB T.data.toList V.data.toList X.data.toList)) ∧ Below w.heap.size w w' := by
  have hs := fun w hw => same_any T X V w hw
  unfold likeB
  generalize sameO (normD (ruleD T.data.toList) X.data.toList) (normD (ruleD T.data.toList) V.data.toList) = r at hs ⊢
  have HS := Lib.hid hs
  have HW : Hid (LaidW w.drew) := Lib.hid (hw.below (Below.refl _ _).drew)
  have t1 : (0 : Int) < (n : Int) := by omega
  clear hs hw
  go_enter Tryz.func91, Tryz.ntmps91
  go_wp2
  go_region_law (first
    | (go_simp; go_at_call 92; ((with_reducible refine (HS.out _ HW.out).mono ?_); rintro e w3 ⟨rfl, hb3⟩; have HB3 := Lib.hid hb3; clear hb3)))
  all_goals
    go_wp2
    go_ret
    exact ⟨rfl, (Below.refl _ _).drew.trans (HB3.out.mono (Nat.le_refl _))⟩

theorem indexQ_any (p : List UInt8 → Bool) (L : List (List UInt8)) (v : Value) (b1 o1 b2 o2 : Nat) (w : World) (h : IsT w.heap.size w L v)
    (hp : ∀ (X : ByteArray) (W : World), Below w.heap.size w W → Calls Tryz.prog 91 #[.string X, .pointer (some ⟨b1, o1, none⟩), .pointer (some ⟨b2, o2, none⟩)] W fun e w' => e = .returned (.bool (p X.data.toList)) ∧ Below W.heap.size W w') :
    Calls Tryz.prog 119 #[v, .func (.func 91) #[] #[.pointer (some ⟨b1, o1, none⟩), .pointer (some ⟨b2, o2, none⟩)]] w fun e w' => ∃ I : Int, e = .returned (.int .i64 I) ∧ decide (0 ≤ I) = L.any p ∧ Below w.heap.size w w' := by
  obtain ⟨a, c, rfl, hm, hcell⟩ := h
  unfold maxLen at hm
  have HC := Lib.hid hcell
  have HP := Lib.hid hp
  clear hcell hp
  go_enter Tryz.func119, Tryz.ntmps119
  go_wp2
  go_loopw [8] (fun i wr => ∃ j : Nat, j ≤ L.length ∧ i = .int .i64 j ∧ Hid (∀ k (hk : k < L.length), k < j → p L[k] = false) ∧ Below w.heap.size w wr) (fun i wr => L.length - (intOf i).toNat)
  case atStart => exact ⟨0, by omega, rfl, Lib.hid (fun k _ h => absurd h (by omega)), Below.refl _ _⟩
  case round =>
    obtain ⟨j, hj, rfl, HNo, hbel⟩ := hrel
    have HBel := Lib.hid hbel
    have hbs := hbel.size
    by_cases hlt : j < L.length
    · have t1 : decide ((j : Int) < (L.length : Int)) = true := by simp; omega
      have t1' : decide (j < L.length) = true := by simpa using hlt
      obtain ⟨b, off, rfl, hb0, c0⟩ := HC.out j hlt
      obtain ⟨X, hX⟩ : ∃ X : ByteArray, ⟨L[j].toArray⟩ = X := ⟨_, rfl⟩
      have hXl : X.data.toList = L[j] := by rw [← hX]
      have d0 : (wr.cell? ⟨b, off + j, none⟩) = some (.string X) := by
        rw [hbel.cell (p := ⟨b, _, none⟩) hb0, c0, ← hX]; rfl
      have hab := HP.out X wr hbel
      rw [hXl] at hab
      obtain ⟨g, hg⟩ : ∃ g, p L[j] = g := ⟨_, rfl⟩
      rw [hg] at hab
      have HAb := Lib.hid hab
      have HG := Lib.hid hg
      clear hX hXl c0 hab hbel hg
      cases g with
      | true =>
        have HR : Hid (L.any p = true) := Lib.hid (List.any_eq_true.2 ⟨L[j], List.getElem_mem _, HG.out⟩)
        go_wp2_with (go_at_call 91; refine (HAb.out).mono ?_; rintro e w2 ⟨rfl, hb2⟩; have HB2 := Lib.hid (HBel.out.trans (hb2.mono hbs)); clear hb2)
        go_ret
        exact ⟨_, rfl, by rw [HR.out]; simp, HB2.out⟩
      | false =>
        have HN : Hid (∀ k (hk : k < L.length), k < j + 1 → p L[k] = false) := Lib.hid (fun k h1 h3 => by
            by_cases hk : k < j
            · exact HNo.out k h1 hk
            · obtain rfl : k = j := by omega
              exact HG.out)
        go_wp2_with (go_at_call 91; refine (HAb.out).mono ?_; rintro e w2 ⟨rfl, hb2⟩; have HB2 := Lib.hid (HBel.out.trans (hb2.mono hbs)); clear hb2)
        go_roundw
        case rel => exact ⟨j + 1, by omega, by go_num, HN, HB2.out⟩
        case measure => simp [intOf]; omega
    · obtain rfl : j = L.length := by omega
      have t1 : decide ((L.length : Int) < (L.length : Int)) = false := by simp
      have t1' : decide (L.length < L.length) = false := by simp
      have HR : Hid (L.any p = false) := Lib.hid (List.any_eq_false.2 (fun x hx => by
        obtain ⟨k, hk, rfl⟩ := List.getElem_of_mem hx
        simpa using HNo.out k hk hk))
      clear hbel
      go_wp2
      go_ret
      exact ⟨_, rfl, by rw [HR.out]; rfl, HBel.out⟩
set_option maxRecDepth 100000 in
set_option maxHeartbeats 2000000 in
theorem containsQ_any (p : List UInt8 → Bool) (L : List (List UInt8)) (v : Value) (b1 o1 b2 o2 : Nat) (w : World) (h : IsT w.heap.size w L v)
    (hp : ∀ (X : ByteArray) (W : World), Below w.heap.size w W → Calls Tryz.prog 91 #[.string X, .pointer (some ⟨b1, o1, none⟩), .pointer (some ⟨b2, o2, none⟩)] W fun e w' => e = .returned (.bool (p X.data.toList)) ∧ Below W.heap.size W w') :
    Calls Tryz.prog 90 #[v, .func (.func 91) #[] #[.pointer (some ⟨b1, o1, none⟩), .pointer (some ⟨b2, o2, none⟩)]] w fun e w' => e = .returned (.bool (L.any p)) ∧ Below w.heap.size w w' := by
  have hc := indexQ_any p L v b1 o1 b2 o2 w h hp
  obtain ⟨R, hR⟩ : ∃ R, R = L.any p := ⟨_, rfl⟩
  rw [← hR] at hc ⊢
  obtain ⟨sa, sc, hv, _⟩ := id h
  obtain ⟨sn, hsn⟩ : ∃ n, n = L.length := ⟨_, rfl⟩
  rw [← hsn] at hv
  subst hv
  have HC := Lib.hid hc
  clear hc hR hsn h hp
  go_enter Tryz.func90, Tryz.ntmps90
  go_wp2_with (go_at_call 119; refine (HC.out).mono ?_; rintro e w2 ⟨I, rfl, hI, hb2⟩; have HB2 := Lib.hid hb2; clear hb2)
  go_ret
  exact ⟨rfl, HB2.out⟩

def Box1 (w : World) (b : Nat) (x : Value) : Prop := w.cell? ⟨b, 0, none⟩ = some x
theorem Box1.below {w w' : World} {b n : Nat} {x : Value} (h : Box1 w b x) (hb : Below n w w') (hn : b < n) : Box1 w' b x := (hb.cell (p := ⟨b, 0, none⟩) hn).trans h
theorem box1_new (w : World) (x : Value) (e : TypeId) : Box1 (w.alloc (.cells #[x] e)) w.heap.size x := by
  have h : (w.alloc (.cells #[x] e)).heap[w.heap.size]? = some (.cells #[x] e (0, 0)) := heap_alloc_new w _
  simp only [Box1, World.cell?, h]; rfl

set_option maxRecDepth 100000 in
set_option maxHeartbeats 4000000 in
theorem isNamed_any (L : List AT) (hs : L.length ≤ 900) (D : ByteArray) (hD : D.size ≤ 1000000) (r : R) (rs : List R) (hp : parseD D.data.toList = some (r :: rs)) (v : Value) (w : World) (hw : LaidW w) (h : IsA w.heap.size w L v) :
    Calls Tryz.prog 60 #[v, .string D] w fun e w' => e = .returned (.bool (namedD L D.data.toList)) ∧ Below w.heap.size w w' := by
  have hmf : ∀ (fn : Fn) (first cap : Array Value) (w : World), (Instr.makeFunc fn first cap).run Tryz.prog w = .ok (.func fn first cap) w := fun _ _ _ _ => rfl
  have hpa := parse_any D (by omega) w
  rw [hp] at hpa
  have hlen : (r :: rs).length ≤ 8 := by
    have := parse_ok hp
    unfold okL at this
    simp only [Bool.and_eq_true, decide_eq_true_eq] at this
    exact this.1
  obtain ⟨m, hm⟩ : ∃ m, m = (r :: rs).length := ⟨_, rfl⟩
  rw [← hm] at hlen
  have hm0 : 0 < m := by rw [hm]; simp
  obtain ⟨R0, hR0⟩ : ∃ R0, R0 = namedD L D.data.toList := ⟨_, rfl⟩
  rw [← hR0]
  unfold namedD at hR0
  rw [hp] at hR0
  simp only at hR0
  obtain ⟨X, hX⟩ : ∃ X : ByteArray, X = ⟨r.1.toArray⟩ := ⟨_, rfl⟩
  obtain ⟨V, hV⟩ : ∃ X : ByteArray, X = ⟨r.2.toArray⟩ := ⟨_, rfl⟩
  have hXl : X.data.toList = r.1 := by rw [hX]
  have hVl : V.data.toList = r.2 := by rw [hV]
  have hca := fun w => canon_any X w
  rw [hXl] at hca
  obtain ⟨T, ok, hT⟩ : ∃ (T : ByteArray) (ok : Bool), canonV (canonD r.1) = .tuple #[.string T, .bool ok] ∧ T.data.toList = (canonD r.1).getD [] := by
    cases canonD r.1 with
    | none => exact ⟨⟨#[]⟩, false, rfl, rfl⟩
    | some t => exact ⟨⟨t.toArray⟩, true, rfl, by simp⟩
  rw [hT.1] at hca
  rw [← hT.2, ← hVl] at hR0
  have hR1 : R0 = (valsS L T.data.toList).any (likeB T.data.toList V.data.toList) := hR0
  have HR1 := Lib.hid hR1
  have HCa := Lib.hid hca
  have HPa := Lib.hid hpa
  have HM := Lib.hid hm
  have HXX := Lib.hid hX
  have HVV := Lib.hid hV
  have HI := Lib.hid h
  have HW := Lib.hid hw
  obtain ⟨sa, sc, hv, _⟩ := id h
  obtain ⟨sn, hsn⟩ : ∃ n, n = L.length := ⟨_, rfl⟩
  rw [← hsn] at hv
  subst hv
  clear h hsn hw hX hV hXl hVl hca hT hR1 hR0 hpa hm hp
  have t0 : (0 : Int) < (m : Int) := by omega
  have t0' : decide ((0 : Int) < (m : Int)) = true := by simp; omega
  go_enter Tryz.func60, Tryz.ntmps60
  go_wp2_with (first
    | (go_at_call 70; refine (HPa.out).mono ?_; rintro e w2 ⟨hb2, pv, rfl, hown⟩; (obtain ⟨g, gc, hgv, hgB, hgs, hcells⟩ := ownR_at hown (by simp)); (rw [← HM.out] at hgv); subst hgv; have c0 : w2.cell? ⟨g, 0, none⟩ = some (.string X) := by { have := (hcells 0 (by simp)).1; simpa [strV, HXX.out] using this }; have c1 : w2.cell? ⟨g, 1, none⟩ = some (.string V) := by { have := (hcells 0 (by simp)).2; simpa [strV, HVV.out] using this }; have HB2 := Lib.hid hb2; have HA2 := Lib.hid ((Below.refl w2.heap.size w2).alloc (Nat.le_refl _) (.cells #[.slice (some ⟨g, 0, none⟩) m gc] 51)); have hx0 : (w2.alloc (.cells #[.slice (some ⟨g, 0, none⟩) m gc] 51)).cell? ⟨g, 0, none⟩ = some (.string X) := (HA2.out.cell (p := ⟨g, 0, none⟩) hgs).trans c0; have HBx := Lib.hid (box1_new w2 (.slice (some ⟨g, 0, none⟩) m gc) 51); clear hb2 hown hcells c0)
    | (go_at_call 83; refine (HCa.out _).mono ?_; rintro e w3 ⟨rfl, hb3⟩; have hz3 := hb3.size; (simp only [World.size_alloc] at hz3); have HB3 := Lib.hid ((bthen HB2.out HA2.out).trans (hb3.mono (by have := HB2.out.size; simp; omega))); have HX3 := Lib.hid (HBx.out.below hb3 (by simp)); have HV3 : Hid (w3.cell? ⟨g, 1, none⟩ = some (.string V)) := Lib.hid ((hb3.cell (p := ⟨g, 1, none⟩) (show g < _ by simp; omega)).trans ((HA2.out.cell (p := ⟨g, 1, none⟩) hgs).trans c1)); have HA3 := Lib.hid ((Below.refl w3.heap.size w3).alloc (Nat.le_refl _) (.cells #[.string T] 9)); have HBt := Lib.hid (box1_new w3 (.string T) 9); clear hb3)
    | (go_at_call 87; refine (valsOf_any L (by omega) (.slice sa sn sc) T _ (HI.out.below (bthen HB3.out HA3.out) (Nat.le_trans HB3.out.size HA3.out.size))).mono ?_; rintro e w4 ⟨u, rfl, hu, hb4⟩; have hz4 := hb4.size; (simp only [World.size_alloc] at hz4); have HU := Lib.hid (hu.below hb4 hb4.size); have HB4 := Lib.hid (bthen (bthen HB3.out HA3.out) hb4); have HX4 := Lib.hid ((HX3.out.below HA3.out (by omega)).below hb4 (by simp; omega)); have HT4 := Lib.hid (HBt.out.below hb4 (by simp)); have HV4 := Lib.hid ((hb4.cell (p := ⟨g, 1, none⟩) (show g < _ by simp; omega)).trans ((HA3.out.cell (p := ⟨g, 1, none⟩) (show g < w3.heap.size by omega)).trans HV3.out)); clear hu hb4)
    | (go_at_call 90; refine (containsQ_any (likeB T.data.toList V.data.toList) _ _ w3.heap.size 0 w2.heap.size 0 _ HU.out (fun Y W hbW => like2_any T V Y w3.heap.size 0 w2.heap.size 0 g m gc hm0 (by omega) W (HW.out.below (bthen HB4.out hbW)) (HT4.out.below hbW (by omega)) (HX4.out.below hbW (by omega)) ((hbW.cell (p := ⟨g, 1, none⟩) (show g < w4.heap.size by omega)).trans HV4.out))).mono ?_; rintro e w5 ⟨rfl, hb5⟩; have HB5 := Lib.hid (bthen HB4.out hb5); clear hb5))
  go_ret
  exact ⟨by rw [HR1.out]; rfl, HB5.out⟩
end Go.Proofs.YtpnbcmblnplbgaaGreatDoor


namespace Go.Proofs.YtpnbcmblnplbgaaGreatDoor
open Go.RowKit
set_option linter.unusedVariables false

theorem sortS_any (A : List (List UInt8)) (B : Nat) (v : Value) (w : World) (h : OwnS B w v A) (hne : A ≠ []) (hl : A.length ≤ 1000000) :
    Calls Tryz.prog 114 #[v] w fun e w' => e = .returned (.tuple #[]) ∧ OwnS B w' v (A.mergeSort leB) ∧ w.grownBy w' v.ownBlock := by
  rcases h.2 with ⟨_, hz⟩ | ⟨g, cap, cur, rfl, hB, hg, h1, h2, h3, h4⟩
  · exact absurd (List.eq_nil_of_length_eq_zero hz) hne
  · refine (Tryz.slices_Sort_string g 0 cap A w (holds_of_block hg (by rw [Nat.mul_one] at h4; exact h4)) (Array.getElem?_eq_some_iff.1 hg).1 (by omega)).mono ?_
    rintro e w' ⟨rfl, n, os, rfl⟩
    refine ⟨rfl, ?_, grownBy_sorted _⟩
    have := ownsRow_sorted (n := n) (os := os) (e := 9) (ts := A.mergeSort leB) (ss := A) (by simp) hB hg h1 h2 h3
    unfold OwnS
    rw [List.length_mergeSort]
    exact this
theorem compactS_any (A : List (List UInt8)) (B : Nat) (v : Value) (w : World) (h : OwnS B w v A) (hne : A ≠ []) (hl : A.length ≤ 1000000) :
    Calls Tryz.prog 115 #[v] w fun e w' => (∃ a c, e = .returned (.slice a (Lib.compact A).length c)) ∧ w.grownBy w' v.ownBlock := by
  rcases h.2 with ⟨_, hz⟩ | ⟨g, cap, cur, rfl, hB, hg, h1, h2, h3, h4⟩
  · exact absurd (List.eq_nil_of_length_eq_zero hz) hne
  · refine (Tryz.slices_Compact_string g 0 cap A w (holds_of_block hg (by rw [Nat.mul_one] at h4; exact h4)) (by omega) h1).mono ?_
    rintro e w' ⟨rfl, q, rfl⟩
    refine ⟨⟨_, _, rfl⟩, ?_⟩
    have := grownBy_sorted (w := w) (g := g) (n := q) (os := #[]) (Lib.compact A ++ List.replicate (A.length - (Lib.compact A).length) []).toArray
    rwa [Sort.grow_empty] at this

theorem below_own {B : Nat} {w0 w w' : World} {v : Value} {L : List (List UInt8)} (h : Below B w0 w) (hs : B ≤ w.heap.size) (ho : OwnS B w v L) (hg : w.grownBy w' v.ownBlock) : Below B w0 w' :=
  h.grown hg hs (fun k e => (World.ownsRow.lt ho k e).1)

set_option maxRecDepth 100000 in
set_option maxHeartbeats 4000000 in
theorem checkVals_any (t : ByteArray) (V : List (List UInt8)) (v : Value) (w : World) (hw : LaidW w) (h : IsT w.heap.size w V v) :
    Calls Tryz.prog 85 #[.string t, v] w fun e w' => e = .returned (.int .i64 (valsC t.data.toList V)) ∧ Below w.heap.size w w' := by
  obtain ⟨a, c, rfl, hm, hcell⟩ := h
  unfold maxLen at hm
  have hmo := fun w => most_any t w
  obtain ⟨C, hC⟩ : ∃ C, C = valsC t.data.toList V := ⟨_, rfl⟩
  rw [← hC]
  unfold valsC at hC
  obtain ⟨m, hmm⟩ : ∃ m, m = mostS t.data.toList := ⟨_, rfl⟩
  rw [← hmm] at hC hmo
  have hm40 : m ≤ 40 := by rw [hmm]; unfold mostS; split <;> omega
  obtain ⟨r, hr⟩ : ∃ r, r = ruleD t.data.toList := ⟨_, rfl⟩
  have hno := fun X w hw => norm_any t X w hw
  rw [← hr] at hC
  simp only [← hr] at hno
  obtain ⟨n, hn⟩ : ∃ n, n = V.length := ⟨_, rfl⟩
  rw [← hn] at hC hm ⊢
  have HN := Lib.hid hn
  have HC := Lib.hid hcell
  have HMo := Lib.hid hmo
  have HNo := Lib.hid hno
  have HW := Lib.hid hw
  clear hcell hmm hr hmo hno hn hw
  by_cases h0 : n = 0
  · subst h0
    rw [if_pos (.inl rfl)] at hC
    subst hC
    have t1 : ((((0 : Nat) : Int)) == 0) = true := rfl
    have t1' : ((0 : Int) == 0) = true := rfl
    go_enter Tryz.func85, Tryz.ntmps85
    go_wp2
    go_ret
    exact ⟨rfl, Below.refl _ _⟩
  · have t1 : ((n : Int) == 0) = false := by simp; omega
    have t1' : (n == 0) = false := by simp; omega
    by_cases hmost : m < (n : Int)
    · rw [if_pos (.inr hmost)] at hC
      subst hC
      have t2 : decide (m < (n : Int)) = true := by simpa using hmost
      go_enter Tryz.func85, Tryz.ntmps85
      go_wp2_with (go_at_call 112; refine (HMo.out _).mono ?_; rintro e w1 ⟨rfl, rfl⟩)
      go_ret
      exact ⟨rfl, Below.refl _ _⟩
    · rw [if_neg (fun e => e.elim h0 hmost)] at hC
      have t2 : decide (m < (n : Int)) = false := by simpa using hmost
      have hn40 : n ≤ 40 := by omega
      have HCv := Lib.hid hC
      clear hC hmost
      go_enter Tryz.func85, Tryz.ntmps85
      go_wp2_with (go_at_call 112; refine (HMo.out _).mono ?_; rintro e w1 ⟨rfl, rfl⟩)
      go_loopw [5, 22] (fun l i wr => ∃ (j : Nat) (A : List (List UInt8)), j ≤ n ∧ i = .int .i64 j ∧ A.length = j ∧ normsR r A (V.drop j) = normsS r V ∧ OwnS w1.heap.size wr l A ∧ Below w1.heap.size w1 wr) (fun _ i wr => n - (intOf i).toNat)
      case atStart => exact ⟨0, [], by omega, rfl, rfl, by rw [List.drop_zero]; exact normsR_start r V, ownS_nil _ _, Below.refl _ _⟩
      case round =>
        obtain ⟨j, A, hj, rfl, hAl, hnr, hown, hbel⟩ := hrel
        have HBel := Lib.hid hbel
        have hbs := hbel.size
        have HW2 := Lib.hid (HW.out.below hbel)
        obtain ⟨sa, sc, rfl⟩ := ownS_slice hown
        rw [hAl] at hown ⊢
        have HAl := Lib.hid hAl
        have HOwn := Lib.hid hown
        by_cases hlt : j < n
        · have t3 : decide ((j : Int) < (n : Int)) = true := by simp; omega
          have t3' : decide (j < n) = true := by simpa using hlt
          have hlV : j < V.length := by rw [← HN.out]; exact hlt
          obtain ⟨b, off, rfl, hb0, c0⟩ := HC.out j hlV
          obtain ⟨X, hX⟩ : ∃ X : ByteArray, ⟨V[j].toArray⟩ = X := ⟨_, rfl⟩
          have hXl : X.data.toList = V[j] := by rw [← hX]
          have d0 : (wr.cell? ⟨b, off + j, none⟩) = some (.string X) := by
            rw [hbel.cell (p := ⟨b, _, none⟩) hb0, c0, ← hX]; rfl
          rw [List.drop_eq_getElem_cons hlV] at hnr
          have hnx := HNo.out X
          rw [hXl] at hnx
          cases hq : normD r V[j] with
          | none =>
            rw [hq] at hnx
            rw [normsR_none hq] at hnr
            have hf : C = 21 := by rw [HCv.out, ← hnr]
            subst hf
            have HNx := Lib.hid hnx
            clear hnx hnr hX hXl c0 hown hbel hAl hq HCv
            simp only [saidP] at HNx
            go_wp2_with (go_at_call 113; refine (HNx.out _ HW2.out).mono ?_; rintro e w2 ⟨rfl, hb2⟩; have HB2 := Lib.hid (bthen HBel.out hb2); clear hb2)
            go_ret
            exact ⟨rfl, HB2.out⟩
          | some x =>
            rw [hq] at hnx
            rw [normsR_step hq] at hnr
            simp only [saidP] at hnx
            obtain ⟨Y, hY⟩ : ∃ Y : ByteArray, ⟨x.toArray⟩ = Y := ⟨_, rfl⟩
            have hYl : Y.data.toList = x := by rw [← hY]
            rw [hY] at hnx
            rw [← hYl] at hnr
            have HNx := Lib.hid hnx
            have HNr := Lib.hid hnr
            clear hnx hnr hX hXl c0 hown hbel hAl hq hY hYl
            go_wp2_with (first
              | (go_at_call 113; refine (HNx.out _ HW2.out).mono ?_; rintro e w2 ⟨rfl, hb2⟩; have HB2 := Lib.hid (bthen HBel.out hb2); have HO2 := Lib.hid (ownS_below HOwn.out hb2); have hbs2 := hb2.size; clear hb2)
              | (at_builtin; refine wpList_append_text rfl (.tmp 34) (.tmp 36) rfl w1.heap.size (.slice sa j sc) A rfl Y HO2.out rfl (by have := HAl.out; omega) (by omega) ?_; intro v5 w5 hown5 hb5; have HO5 := Lib.hid hown5; have HB5 := Lib.hid hb5; clear hown5 hb5))
            go_roundw
            case rel => exact ⟨j + 1, A ++ [Y.data.toList], by omega, by go_num, by rw [List.length_append, HAl.out]; rfl, HNr.out, HO5.out, HB2.out.trans HB5.out⟩
            case measure => simp [intOf]; omega
        · obtain rfl : j = n := by omega
          have t3 : decide ((j : Int) < (j : Int)) = false := by simp
          have t3' : decide (j < j) = false := by simp
          have hA : normsS r V = some A := by
            rw [← hnr, List.drop_of_length_le (by rw [← HN.out]; exact Nat.le_refl _), normsR_end]
          have hCv : C = if A.Nodup then 0 else 20 := by rw [HCv.out, hA]
          have hne : A ≠ [] := fun e => h0 (by rw [← hAl, e]; rfl)
          have hl2 : (A.mergeSort leB).length = j := by rw [List.length_mergeSort, hAl]
          have hne2 : A.mergeSort leB ≠ [] := fun e => h0 (by rw [← hl2, e]; rfl)
          obtain ⟨k, hk⟩ : ∃ k, k = (Lib.compact (A.mergeSort leB)).length := ⟨_, rfl⟩
          have hd : k < j ↔ ¬ A.Nodup := by rw [hk, ← hAl]; exact dup_iff A
          have HSo := Lib.hid (sortS_any A w1.heap.size (.slice sa j sc) wr hown hne (by omega))
          have HCo := Lib.hid (fun W (h : OwnS w1.heap.size W (.slice sa j sc) (A.mergeSort leB)) => compactS_any (A.mergeSort leB) w1.heap.size (.slice sa j sc) W h hne2 (by omega))
          rw [← hk] at HCo
          have HNe := Lib.hid hne
          clear hnr hown hbel hAl hA hk HCv hl2 hne hne2
          by_cases hdup : A.Nodup
          · rw [if_pos hdup] at hCv
            subst hCv
            have t4 : decide ((k : Int) < (j : Int)) = false := by have := mt hd.1 (fun e => e hdup); simp; omega
            have t4' : decide (k < j) = false := by have := mt hd.1 (fun e => e hdup); simp; omega
            clear hd hdup
            go_wp2_with (first
              | (go_at_call 114; refine (HSo.out).mono ?_; rintro e w2 ⟨rfl, ho2, hg2⟩; have HO2 := Lib.hid ho2; have HB2 := Lib.hid (below_own HBel.out hbs HOwn.out hg2); clear ho2 hg2)
              | (go_at_call 115; refine (HCo.out _ HO2.out).mono ?_; rintro e w3 ⟨⟨ka, kc, rfl⟩, hg3⟩; have HB3 := Lib.hid (below_own HB2.out HB2.out.size HO2.out hg3); clear hg3))
            go_ret
            exact ⟨rfl, HB3.out⟩
          · rw [if_neg hdup] at hCv
            subst hCv
            have t4 : decide ((k : Int) < (j : Int)) = true := by have := hd.2 hdup; simp; omega
            have t4' : decide (k < j) = true := by have := hd.2 hdup; simp; omega
            clear hd hdup
            go_wp2_with (first
              | (go_at_call 114; refine (HSo.out).mono ?_; rintro e w2 ⟨rfl, ho2, hg2⟩; have HO2 := Lib.hid ho2; have HB2 := Lib.hid (below_own HBel.out hbs HOwn.out hg2); clear ho2 hg2)
              | (go_at_call 115; refine (HCo.out _ HO2.out).mono ?_; rintro e w3 ⟨⟨ka, kc, rfl⟩, hg3⟩; have HB3 := Lib.hid (below_own HB2.out HB2.out.size HO2.out hg3); clear hg3))
            go_ret
            exact ⟨rfl, HB3.out⟩
end Go.Proofs.YtpnbcmblnplbgaaGreatDoor


namespace Go.Proofs.YtpnbcmblnplbgaaGreatDoor
open Go.RowKit
set_option linter.unusedVariables false

def BoxA (w : World) (b : Nat) (x : ByteArray) (u : Value) : Prop := w.heap[b]? = some (.cells #[.string x, u] 56 (0, 0))
theorem BoxA.below {w w' : World} {b n : Nat} {x : ByteArray} {u : Value} (h : BoxA w b x u) (hb : Below n w w') (hn : b < n) : BoxA w' b x u := (hb.block b hn).trans h
theorem BoxA.cells {w : World} {b : Nat} {x : ByteArray} {u : Value} (h : BoxA w b x u) : w.cell? ⟨b, 0, none⟩ = some (.string x) ∧ w.cell? ⟨b, 1, none⟩ = some u := by
  unfold BoxA at h
  simp [World.cell?, h]
theorem boxA_new (w : World) (x : ByteArray) (u : Value) : BoxA (w.alloc (.cells #[.string x, u] 56)) w.heap.size x u := heap_alloc_new w _

theorem sound_err : ∀ {L A : List AT} {c : Int}, soundR A L = .error c → c ≠ 0
  | [], A, c, h => by simp [soundR] at h
  | a :: l, A, c, h => by
    simp only [soundR] at h
    cases e : canonD a.1 with
    | none => rw [e] at h; simp at h; omega
    | some t =>
      rw [e] at h
      simp only at h
      split at h
      · simp at h; omega
      · split at h
        · exact sound_err h
        · rename_i h2
          simp at h; omega
theorem sound_none {A l : List AT} {a : AT} (h : canonD a.1 = none) : soundR A (a :: l) = .error 17 := by simp [soundR, h]
theorem sound_twice {A l : List AT} {a : AT} {t : List UInt8} (h : canonD a.1 = some t) (h2 : hasS A t = true) : soundR A (a :: l) = .error 20 := by simp [soundR, h, h2]
theorem sound_vals {A l : List AT} {a : AT} {t : List UInt8} (h : canonD a.1 = some t) (h2 : hasS A t = false) (h3 : valsC t a.2 ≠ 0) : soundR A (a :: l) = .error (valsC t a.2) := by simp [soundR, h, h2, h3]
theorem sound_step {A l : List AT} {a : AT} {t : List UInt8} (h : canonD a.1 = some t) (h2 : hasS A t = false) (h3 : valsC t a.2 = 0) : soundR A (a :: l) = soundR (A ++ [(t, a.2)]) l := by simp [soundR, h, h2, h3]

def SoundW (w : World) (o : Except Int (List AT)) (e : Ending) (w' : World) : Prop := Below w.heap.size w w' ∧ match o with
  | .error c => e = .returned (.tuple #[.slice none 0 0, .int .i64 c])
  | .ok A => ∃ u, e = .returned (.tuple #[u, .int .i64 0]) ∧ OwnV w.heap.size w' u A

set_option maxRecDepth 100000 in
set_option maxHeartbeats 4000000 in
theorem sound_any (L : List AT) (hs : L.length ≤ 900) (v : Value) (w : World) (hw : LaidW w) (h : IsA w.heap.size w L v) :
    Calls Tryz.prog 58 #[v] w (SoundW w (soundR [] L)) := by
  obtain ⟨a, c, rfl, hm, hcell⟩ := h
  unfold maxLen at hm
  obtain ⟨R, hR⟩ : ∃ R, R = soundR [] L := ⟨_, rfl⟩
  rw [← hR]
  obtain ⟨n, hn⟩ : ∃ n, n = L.length := ⟨_, rfl⟩
  rw [← hn] at hm hs ⊢
  have HN := Lib.hid hn
  have HC := Lib.hid hcell
  have HW := Lib.hid hw
  have HR := Lib.hid hR
  clear hcell hn hw hR
  go_enter Tryz.func58, Tryz.ntmps58
  go_wp2
  go_loopw [4, 12] (fun l i wr => ∃ (j : Nat) (A : List AT), j ≤ n ∧ i = .int .i64 j ∧ A.length ≤ j ∧ soundR A (L.drop j) = R ∧ OwnV w.heap.size wr l A ∧ Below w.heap.size w wr) (fun _ i wr => n - (intOf i).toNat)
  case atStart => exact ⟨0, [], by omega, rfl, Nat.le_refl _, by rw [List.drop_zero]; exact HR.out.symm, ownV_nil _ _, Below.refl _ _⟩
  case round =>
    obtain ⟨j, A, hj, rfl, hAl, hsr, hown, hbel⟩ := hrel
    have HBel := Lib.hid hbel
    have hbs := hbel.size
    obtain ⟨sa, sc, hsv⟩ := ownV_slice hown
    obtain ⟨sn, hsn⟩ : ∃ k, k = A.length := ⟨_, rfl⟩
    rw [← hsn] at hsv hAl
    subst hsv
    have HSn := Lib.hid hsn
    have HOwn := Lib.hid hown
    by_cases hlt : j < n
    · have t3 : decide ((j : Int) < (n : Int)) = true := by simp; omega
      have t3' : decide (j < n) = true := by simpa using hlt
      have hlL : j < L.length := by rw [← HN.out]; exact hlt
      obtain ⟨b, off, u, rfl, hb0, c0, c1, ht⟩ := HC.out j hlL
      obtain ⟨ua, uc, hu, _⟩ := id ht
      obtain ⟨un, hun⟩ : ∃ k, k = L[j].2.length := ⟨_, rfl⟩
      rw [← hun] at hu
      subst hu
      clear hun
      have HT := Lib.hid ht
      obtain ⟨X, hX⟩ : ∃ X : ByteArray, ⟨L[j].1.toArray⟩ = X := ⟨_, rfl⟩
      have hXl : X.data.toList = L[j].1 := by rw [← hX]
      have d0 : (wr.cell? ⟨b, off + j * 2, none⟩) = some (.string X) := by
        rw [hbel.cell (p := ⟨b, _, none⟩) hb0, c0, ← hX]; rfl
      have d1 := (hbel.cell (p := ⟨b, off + j * 2 + 1, none⟩) hb0).trans c1
      have HA := Lib.hid (Below.alloc hbel hbs (.cells #[.string X, .slice ua un uc] 56))
      have HA0 := Lib.hid (Below.alloc (Below.refl wr.heap.size wr) (Nat.le_refl _) (.cells #[.string X, .slice ua un uc] 56))
      have HBx := Lib.hid (boxA_new wr X (.slice ua un uc))
      rw [List.drop_eq_getElem_cons hlL] at hsr
      have hca := fun w => canon_any X w
      rw [hXl] at hca
      cases hq : canonD L[j].1 with
      | none =>
        rw [hq] at hca
        rw [sound_none hq] at hsr
        subst hsr
        have HCa := Lib.hid hca
        clear hca hX hXl c0 c1 hown hbel ht hq hsn HR
        simp only [canonV] at HCa
        go_wp2_with (go_at_call 83; refine (HCa.out _).mono ?_; rintro e w2 ⟨rfl, hb2⟩; have HB2 := Lib.hid (HA.out.trans (hb2.mono HA.out.size)); clear hb2)
        go_ret2
        exact ⟨HB2.out, rfl⟩
      | some t =>
        rw [hq] at hca
        simp only [canonV] at hca
        obtain ⟨T, hT⟩ : ∃ T : ByteArray, ⟨t.toArray⟩ = T := ⟨_, rfl⟩
        have hTl : T.data.toList = t := by rw [← hT]
        rw [hT] at hca
        have HCa := Lib.hid hca
        have hhs := fun W (h : IsA W.heap.size W A (.slice sa sn sc)) => hasS_any A (by omega) (.slice sa sn sc) T W h
        rw [hTl] at hhs
        cases hq2 : hasS A t with
        | true =>
          rw [hq2] at hhs
          rw [sound_twice hq hq2] at hsr
          subst hsr
          have HHs := Lib.hid hhs
          clear hca hX hXl c0 c1 hown hbel ht hq hsn HR hT hTl hq2 hhs
          go_wp2_with (first
            | (go_at_call 83; refine (HCa.out _).mono ?_; rintro e w2 ⟨rfl, hb2⟩; have HB2 := Lib.hid (HA.out.trans (hb2.mono HA.out.size)); have HO2 := Lib.hid (ownV_below (ownV_below HOwn.out HA0.out hbs) hb2 (by simp; omega)); clear hb2)
            | (go_at_call 84; refine (HHs.out _ (ownV_isA HO2.out (by unfold maxLen; have := HSn.out; omega) HB2.out.size)).mono ?_; rintro e w3 ⟨rfl, hb3⟩; have HB3 := Lib.hid (bthen HB2.out hb3); clear hb3))
          go_ret2
          exact ⟨HB3.out, rfl⟩
        | false =>
          rw [hq2] at hhs
          have HHs := Lib.hid hhs
          have hcv := fun (W : World) (q1 : LaidW W) (q2 : IsT W.heap.size W L[j].2 (.slice ua un uc)) => checkVals_any T L[j].2 (.slice ua un uc) W q1 q2
          rw [hTl] at hcv
          obtain ⟨C, hC⟩ : ∃ C, C = valsC t L[j].2 := ⟨_, rfl⟩
          rw [← hC] at hcv
          have HCv := Lib.hid hcv
          by_cases hC0 : C = 0
          · have t5 : (C != 0) = false := by simpa using hC0
            rw [sound_step hq hq2 (by rw [← hC]; exact hC0)] at hsr
            rw [← hTl] at hsr
            have HSr := Lib.hid hsr
            subst hC0
            have t5' : ((0 : Int) != 0) = false := rfl
            clear hca hX hXl c0 c1 hown hbel ht hq hsn HR hT hTl hq2 hhs hcv hC hsr
            go_wp2_with (first
              | (go_at_call 83; refine (HCa.out _).mono ?_; rintro e w2 ⟨rfl, hb2⟩; have HB2 := Lib.hid (HA.out.trans (hb2.mono HA.out.size)); have HO2 := Lib.hid (ownV_below (ownV_below HOwn.out HA0.out hbs) hb2 (by simp; omega)); have HX2 := Lib.hid (HBx.out.below hb2 (by simp)); obtain ⟨f0, f1⟩ := HX2.out.cells; have hz2 := hb2.size; (simp only [World.size_alloc] at hz2); clear hb2)
              | (go_at_call 84; refine (HHs.out _ (ownV_isA HO2.out (by unfold maxLen; have := HSn.out; omega) HB2.out.size)).mono ?_; rintro e w3 ⟨rfl, hb3⟩; have HB3 := Lib.hid (bthen HB2.out hb3); have HO3 := Lib.hid (ownV_below HO2.out hb3 HB2.out.size); have HX3 := Lib.hid (HX2.out.below hb3 (by omega)); obtain ⟨g0, g1⟩ := HX3.out.cells; have hz3 := hb3.size; clear hb3)
              | (go_at_call 85; refine (HCv.out _ (HW.out.below HB3.out) (HT.out.below HB3.out HB3.out.size)).mono ?_; rintro e w4 ⟨rfl, hb4⟩; have HB4 := Lib.hid (bthen HB3.out hb4); have HO4 := Lib.hid (ownV_below HO3.out hb4 HB3.out.size); have HX4 := Lib.hid (HX3.out.below hb4 (by omega)); obtain ⟨k0, k1⟩ := HX4.out.cells; have hz4 := hb4.size; clear hb4)
              | (at_builtin; refine wpList_append_attrB rfl (.tmp 34) (.tmp 39) rfl w.heap.size (.slice sa sn sc) A rfl T (.slice ua un uc) L[j].2 HO4.out (HT.out.below HB4.out (Nat.le_refl _)) rfl (by have := HSn.out; omega) HB4.out.size ?_; intro v5 w5 hown5 hb5; have HO5 := Lib.hid hown5; have HB5 := Lib.hid (HB4.out.trans hb5); clear hown5 hb5))
            go_roundw
            case rel => exact ⟨j + 1, A ++ [(T.data.toList, L[j].2)], by omega, by go_num, by have := HSn.out; simp; omega, HSr.out, HO5.out, HB5.out⟩
            case measure => simp [intOf]; omega
          · have t5 : (C != 0) = true := by simpa using hC0
            rw [sound_vals hq hq2 (by rw [← hC]; exact hC0), ← hC] at hsr
            subst hsr
            clear hca hX hXl c0 c1 hown hbel ht hq hsn HR hT hTl hq2 hhs hcv hC
            go_wp2_with (first
              | (go_at_call 83; refine (HCa.out _).mono ?_; rintro e w2 ⟨rfl, hb2⟩; have HB2 := Lib.hid (HA.out.trans (hb2.mono HA.out.size)); have HO2 := Lib.hid (ownV_below (ownV_below HOwn.out HA0.out hbs) hb2 (by simp; omega)); have HX2 := Lib.hid (HBx.out.below hb2 (by simp)); obtain ⟨f0, f1⟩ := HX2.out.cells; have hz2 := hb2.size; (simp only [World.size_alloc] at hz2); clear hb2)
              | (go_at_call 84; refine (HHs.out _ (ownV_isA HO2.out (by unfold maxLen; have := HSn.out; omega) HB2.out.size)).mono ?_; rintro e w3 ⟨rfl, hb3⟩; have HB3 := Lib.hid (bthen HB2.out hb3); have HO3 := Lib.hid (ownV_below HO2.out hb3 HB2.out.size); have HX3 := Lib.hid (HX2.out.below hb3 (by omega)); obtain ⟨g0, g1⟩ := HX3.out.cells; have hz3 := hb3.size; clear hb3)
              | (go_at_call 85; refine (HCv.out _ (HW.out.below HB3.out) (HT.out.below HB3.out HB3.out.size)).mono ?_; rintro e w4 ⟨rfl, hb4⟩; have HB4 := Lib.hid (bthen HB3.out hb4); clear hb4))
            go_ret2
            exact ⟨HB4.out, rfl⟩
    · obtain rfl : j = n := by omega
      have t3 : decide ((j : Int) < (j : Int)) = false := by simp
      have t3' : decide (j < j) = false := by simp
      have hA : R = .ok A := by
        rw [← hsr, List.drop_of_length_le (by rw [← HN.out]; exact Nat.le_refl _)]; rfl
      subst hA
      clear hsr hown hbel hsn HR
      go_wp2
      go_ret2
      exact ⟨HBel.out, _, rfl, HOwn.out⟩
end Go.Proofs.YtpnbcmblnplbgaaGreatDoor

