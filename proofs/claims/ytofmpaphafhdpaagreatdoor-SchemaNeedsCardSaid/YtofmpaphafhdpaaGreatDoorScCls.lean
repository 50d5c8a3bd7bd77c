/- schema.classesOf: the walk. -/
import Derived.Test.YtofmpaphafhdpaaGreatDoorScFind
import Derived.Test.YtofmpaphafhdpaaGreatDoorMaNorm
import Derived.Test.YtofmpaphafhdpaaGreatDoorDnParse
namespace Go.Proofs.YtofmpaphafhdpaaGreatDoor
open Go.RowKit
set_option linter.unusedVariables false

def ClsW (w : World) (o : Option (List CT × Bool)) (e : Ending) (w' : World) : Prop := Below w.heap.size w w' ∧ match o with
  | none => e = .returned (.tuple #[.slice none 0 0, .bool false])
  | some p => ∃ g v, e = .returned (.tuple #[v, .bool p.2]) ∧ OwnK w.heap.size g w' v p.1

theorem chain_len (n : List UInt8) : ∀ k, (chainC k n).length ≤ k := by
  intro k
  induction k generalizing n with
  | zero => simp [chainC]
  | succ k ih =>
    simp only [chainC]
    cases findC n with
    | none => simp
    | some c => have := ih c.sup; simp; omega
/-- What the inner loop holds: the class that is looked at, in the block g. -/
def AtC (B : Nat) (w : World) (l : Value) (g : Nat) (o : Option CT) : Prop := (g < w.heap.size ∧ some g ≠ l.ownBlock ∧ B ≤ g) ∧ ∃ x0 x1 x2 u1 u2, BoxC w g x0 x1 x2 u1 u2 ∧ match o with
  | none => True
  | some c => x0 = strV c.name ∧ x1 = strV c.sup ∧ x2 = .bool c.st ∧ IsTo (Apart B g w l) w c.mustL u1 ∧ IsTo (Apart B g w l) w c.mayL u2
def restC : Option CT → List CT
  | none => []
  | some c => c :: chainC 3 c.sup
theorem rest_find (n : List UInt8) : restC (findC n) = chainC 3 n := by
  cases e : findC n with
  | none => rw [chain_none e]; rfl
  | some c => rw [chain_step e]; rfl
theorem lt_set {w : World} {a : Addr} {x : Value} : (w.setCell a x).heap.size = w.heap.size := by simp [World.setCell]
theorem block_ne (w : World) (a : Addr) (x : Value) {b : Nat} (h : b ≠ a.block) : (w.setCell a x).heap[b]? = w.heap[b]? := by
  unfold World.setCell
  simp [Array.getElem?_modify, Ne.symm h]
theorem set5_block (w : World) (g : Nat) (x0 x1 x2 x3 x4 : Value) {b : Nat} (h : b ≠ g) : (set5 w g x0 x1 x2 x3 x4).heap[b]? = w.heap[b]? := by
  simp only [set5]
  rw [block_ne _ ⟨g, 4, none⟩ _ h, block_ne _ ⟨g, 3, none⟩ _ h, block_ne _ ⟨g, 2, none⟩ _ h, block_ne _ ⟨g, 1, none⟩ _ h, block_ne _ ⟨g, 0, none⟩ _ h]
/-- A store into a block that is neither the row's nor one of those that its classes need. -/
theorem grown_set5 (w : World) (g : Nat) (x0 x1 x2 x3 x4 : Value) : w.grownBy (set5 w g x0 x1 x2 x3 x4) (some g) :=
  have hb := set5_below (Below.refl 0 w) (Nat.zero_le g) x0 x1 x2 x3 x4
  ⟨hb.os, hb.tape, hb.output, hb.size, fun k hk hne => set5_block w g x0 x1 x2 x3 x4 (fun e => hne (by rw [e]))⟩
theorem OwnK.apart {B g0 g : Nat} {w : World} {v : Value} {L : List CT} (h : OwnK B g0 w v L) (hg : w.heap.size ≤ g) : OwnK B g w v L := by
  obtain ⟨P, h0, h1, h2⟩ := h
  exact ⟨P, h0, h1, fun j hj => ⟨(h2 j hj).1.imp (fun b hb => ⟨hb.1, hb.2.1, hb.2.2.1, by have := hb.2.1; omega⟩) (fun _ _ _ => rfl), (h2 j hj).2.imp (fun b hb => ⟨hb.1, hb.2.1, hb.2.2.1, by have := hb.2.1; omega⟩) (fun _ _ _ => rfl)⟩⟩
theorem OwnK.store {B g : Nat} {w : World} {v : Value} {L : List CT} (h : OwnK B g w v L) (hg : v.ownBlock ≠ some g) (x0 x1 x2 x3 x4 : Value) : OwnK B g (set5 w g x0 x1 x2 x3 x4) v L := by
  obtain ⟨P, h0, h1, h2⟩ := h
  refine ⟨P, h0, World.ownsRow.kept h1 (grown_set5 w g x0 x1 x2 x3 x4) (.inr hg), fun j hj => ⟨(h2 j hj).1.imp (fun b hk => ⟨hk.1, by rw [set5_size]; exact hk.2.1, hk.2.2⟩) (fun b o hk => set5_cell w g x0 x1 x2 x3 x4 o hk.2.2.2), (h2 j hj).2.imp (fun b hk => ⟨hk.1, by rw [set5_size]; exact hk.2.1, hk.2.2⟩) (fun b o hk => set5_cell w g x0 x1 x2 x3 x4 o hk.2.2.2)⟩⟩
theorem apart_new {B g g0 n : Nat} {w w' : World} {l : Value} {L : List CT} {v : Value} {A : List (List UInt8)} (hr : OwnK B g0 w l L) (hB : B ≤ n) (hn : w.heap.size ≤ n) (hg : g < n ∨ w'.heap.size ≤ g) (h : IsTo (New n w') w' A v) : IsTo (Apart B g w' l) w' A v :=
  h.imp (fun b hb => ⟨Nat.le_trans hB hb.1, hb.2, fun e => by have := ownK_lt hr b e.symm; have := hb.1; omega, by have := hb.1; have := hb.2; omega⟩) (fun _ _ _ => rfl)
theorem apart_go {B g : Nat} {w w' : World} {l : Value} {v : Value} {A : List (List UInt8)} (h : IsTo (Apart B g w l) w A v) (hb : Below w.heap.size w w') : IsTo (Apart B g w' l) w' A v :=
  h.imp (fun b hk => ⟨hk.1, Nat.lt_of_lt_of_le hk.2.1 hb.size, hk.2.2⟩) (fun b o hk => hb.cell (p := ⟨b, o, none⟩) hk.2.1)
theorem apart_set {B g : Nat} {w : World} {l : Value} {v : Value} {A : List (List UInt8)} (h : IsTo (Apart B g w l) w A v) (x0 x1 x2 x3 x4 : Value) : IsTo (Apart B g (set5 w g x0 x1 x2 x3 x4) l) (set5 w g x0 x1 x2 x3 x4) A v :=
  h.imp (fun b hk => ⟨hk.1, by rw [set5_size]; exact hk.2.1, hk.2.2⟩) (fun b o hk => set5_cell w g x0 x1 x2 x3 x4 o hk.2.2.2)

set_option maxRecDepth 100000 in
set_option maxHeartbeats 8000000 in
theorem classesOf_any (V : List (List UInt8)) (hs : smallT V) (v : Value) (w : World) (hl : LaidF w) (h : IsT w.heap.size w V v) :
    Calls Tryz.prog 77 #[v] w (ClsW w (allC V)) := by
  obtain ⟨a, c, rfl, hm, hcell⟩ := h
  unfold maxLen at hm
  obtain ⟨R, hR⟩ : ∃ R, R = allC V := ⟨_, rfl⟩
  rw [← hR]
  have hs1 := hs.1
  obtain ⟨n, hn⟩ : ∃ n, n = V.length := ⟨_, rfl⟩
  rw [← hn] at hm hs1 ⊢
  have HN := Lib.hid hn
  have HC := Lib.hid hcell
  have HL := Lib.hid hl
  have HR := Lib.hid hR
  have HS := Lib.hid hs
  clear hcell hn hl hR hs
  go_enter Tryz.func77, Tryz.ntmps77
  go_wp2
  go_loopw [4, 5, 12] (fun l s i wr => ∃ (j g0 : Nat) (A : List CT) (b : Bool), j ≤ n ∧ i = .int .i64 j ∧ s = .bool b ∧ A.length ≤ 3 * j ∧ allR A b (V.drop j) = R ∧ OwnK w.heap.size g0 wr l A ∧ Below w.heap.size w wr) (fun _ _ i wr => n - (intOf i).toNat)
  case atStart => exact ⟨0, 0, [], false, by omega, rfl, rfl, Nat.zero_le _, by rw [List.drop_zero, allR_start]; exact HR.out.symm, ownK_nil _ _ _, Below.refl _ _⟩
  case round =>
    obtain ⟨j, g0, A, b, hj, rfl, rfl, hAl, har, hown, hbel⟩ := hrel
    have HBel := Lib.hid hbel
    have hbs := hbel.size
    obtain ⟨sa, sc, hsv⟩ := ownK_slice hown
    obtain ⟨sn, hsn⟩ : ∃ k, k = A.length := ⟨_, rfl⟩
    rw [← hsn] at hsv hAl
    subst hsv
    have HSn := Lib.hid hsn
    have HOwn := Lib.hid hown
    by_cases hlt : j < n
    · have t3 : decide ((j : Int) < (n : Int)) = true := by simp; omega
      have t3' : decide (j < n) = true := by simpa using hlt
      have hlV : j < V.length := by rw [← HN.out]; exact hlt
      obtain ⟨xb, off, rfl, hb0, c0⟩ := HC.out j hlV
      obtain ⟨X, hX⟩ : ∃ X : ByteArray, ⟨V[j].toArray⟩ = X := ⟨_, rfl⟩
      have hXl : X.data.toList = V[j] := by rw [← hX]
      have d0 : (wr.cell? ⟨xb, off + j, none⟩) = some (.string X) := by
        rw [hbel.cell (p := ⟨xb, _, none⟩) hb0, c0, ← hX]; rfl
      have hXs : X.size ≤ 1000000 := by
        have := HS.out.2 V[j] (List.getElem_mem _)
        rw [← bytes_len, hXl]; omega
      rw [List.drop_eq_getElem_cons hlV] at har
      have hfo := fun w => fold_any trim_any X w (by omega)
      obtain ⟨F, hF⟩ : ∃ F, F = foldB X := ⟨_, rfl⟩
      have hFl : F.data.toList = fold V[j] := by rw [hF, ← hXl]; simp [foldB]
      rw [← hF] at hfo
      have HFo := Lib.hid hfo
      have hfi := fun W h => findC_any F W h
      rw [hFl] at hfi
      cases hq : findC (fold V[j]) with
      | none =>
        rw [hq] at hfi
        rw [allR_none hq] at har
        subst har
        have HFi := Lib.hid hfi
        clear hfo hfi hX hXl c0 hown hbel hsn HR hF hFl hq
        go_wp2_with (first
          | (go_at_call 34; refine (HFo.out _).mono ?_; rintro e w2 ⟨rfl, hb2⟩; have HB2 := Lib.hid (bthen HBel.out hb2); clear hb2)
          | (go_at_call 33; refine (HFi.out _ (HL.out.below HB2.out)).mono ?_; rintro e w3 hfw; (simp only [FindW, noC] at hfw); (obtain ⟨hb3, rfl⟩ := hfw); have HB3 := Lib.hid (bthen HB2.out hb3); clear hb3))
        go_ret2
        exact ⟨HB3.out.alloc HB3.out.size _, rfl⟩
      | some k =>
        rw [hq] at hfi
        rw [allR_step hq] at har
        have HFi := Lib.hid hfi
        obtain ⟨N, hN⟩ : ∃ X : ByteArray, X = ⟨k.name.toArray⟩ := ⟨_, rfl⟩
        obtain ⟨S, hS⟩ : ∃ X : ByteArray, X = ⟨k.sup.toArray⟩ := ⟨_, rfl⟩
        obtain ⟨T, hT⟩ : ∃ T, T = A ++ chainC 3 (fold V[j]) := ⟨_, rfl⟩
        have hTl : T.length ≤ sn + 3 := by rw [hT, List.length_append, ← hsn]; have := chain_len (fold V[j]) 3; omega
        have hT2 : A ++ restC (some k) = T := by rw [hT, ← rest_find, hq]
        rw [← hT] at har
        have HAr := Lib.hid har
        have HT2 := Lib.hid hT2
        clear hfo hfi hX hXl c0 hown hbel hsn HR hF hFl hq hT hT2 har
        have HNe := Lib.hid hN
        have HSe := Lib.hid hS
        have HNk : Hid (N.data.toList = k.name) := Lib.hid (by rw [hN])
        have HSk : Hid (S.data.toList = k.sup) := Lib.hid (by rw [hS])
        clear hN hS
        cases b with
        | true =>
          have HAr2 : Hid (allR T true (V.drop (j + 1)) = R) := HAr
          go_wp2_with (first
            | (go_at_call 34; refine (HFo.out _).mono ?_; rintro e w2 ⟨rfl, hb2⟩; have HB2 := Lib.hid (bthen HBel.out hb2); have HO2 := Lib.hid (ownK_below HOwn.out hb2); clear hb2)
            | (go_at_call 33; refine (HFi.out _ (HL.out.below HB2.out)).mono ?_; rintro e w3 hfw; (simp only [FindW, strV, ← HNe.out, ← HSe.out] at hfw); (obtain ⟨hb3, u1, u2, rfl, h1, h2⟩ := hfw); (obtain ⟨xa, xn, xc, hx1⟩ := isTo_slice h1); subst hx1; (obtain ⟨ya, yn, yc, hx2⟩ := isTo_slice h2); subst hx2; have hz3 := hb3.size; have HB3 := Lib.hid (bthen HB2.out hb3); have HO3 := Lib.hid ((ownK_below HO2.out hb3).apart (Nat.le_refl _)); have H1 := Lib.hid (apart_new (g := w3.heap.size) HO2.out HB2.out.size (Nat.le_refl _) (.inr (Nat.le_refl _)) h1); have H2 := Lib.hid (apart_new (g := w3.heap.size) HO2.out HB2.out.size (Nat.le_refl _) (.inr (Nat.le_refl _)) h2); clear hb3 h1 h2))
          have ha3 : Below w3.heap.size w3 (w3.alloc (.cells #[.string N, .string S, .bool k.st, .slice xa xn xc, .slice ya yn yc] 29)) := (Below.refl _ _).alloc (Nat.le_refl _) _
          have hb4 := bthen HB3.out ha3
          have hat : AtC w.heap.size (w3.alloc (.cells #[.string N, .string S, .bool k.st, .slice xa xn xc, .slice ya yn yc] 29)) (.slice sa sn sc) w3.heap.size (some k) :=
            ⟨⟨by simp, fun e => by have := ownK_lt HO3.out w3.heap.size e.symm; omega, HB3.out.size⟩, .string N, .string S, .bool k.st, .slice xa xn xc, .slice ya yn yc, boxC_new _ _ _ _ _ _, by rw [← HNk.out]; exact (strV_whole N).symm, by rw [← HSk.out]; exact (strV_whole S).symm, rfl, apart_go H1.out ha3, apart_go H2.out ha3⟩
          have HB4 := Lib.hid hb4
          have HAt := Lib.hid hat
          have HO4 := Lib.hid (ownK_below HO3.out ha3)
          clear ha3 hb4 hat
          go_loopw [4, 9] (fun l ok wq => ∃ (A' : List CT) (o : Option CT), ok = .bool o.isSome ∧ A' ++ restC o = T ∧ OwnK w.heap.size w3.heap.size wq l A' ∧ Below w.heap.size w wq ∧ AtC w.heap.size wq l w3.heap.size o) (fun l _ wq => T.length + 1 - lenOf l)
          case atStart => exact ⟨A, some k, rfl, HT2.out, HO4.out, HB4.out, HAt.out⟩
          case round =>
            obtain ⟨A', o, rfl, hAT, hown', hbel', ⟨hg1, hg2, hg3⟩, x0, x1, x2, u1, u2, hbox, hcls⟩ := hrel
            obtain ⟨la, lc, hlv⟩ := ownK_slice hown'
            obtain ⟨ln, hln⟩ : ∃ k, k = A'.length := ⟨_, rfl⟩
            rw [← hln] at hlv
            subst hlv
            have HO' := Lib.hid hown'
            have HB' := Lib.hid hbel'
            have HLn := Lib.hid hln
            have HG2 := Lib.hid hg2
            cases o with
            | none =>
              have hA' : A' = T := by rw [← hAT]; simp [restC]
              subst hA'
              simp only [Option.isSome_none]
              clear hAT hown' hbel' hln hbox hcls hg2
              go_wp2
              go_roundw
              case rel => exact ⟨j + 1, _, A', true, by omega, by go_num, rfl, by omega, HAr2.out, HO'.out, HB'.out⟩
              case measure => simp [intOf]; omega
            | some d =>
              obtain ⟨rfl, rfl, rfl, hu1, hu2⟩ := hcls
              obtain ⟨pa, pn, pc, hx1⟩ := isTo_slice hu1
              subst hx1
              obtain ⟨qa, qn, qc, hx2⟩ := isTo_slice hu2
              subst hx2
              simp only [Option.isSome_some]
              obtain ⟨N2, hN2⟩ : ∃ X : ByteArray, X = ⟨d.name.toArray⟩ := ⟨_, rfl⟩
              obtain ⟨S2, hS2⟩ : ∃ X : ByteArray, X = ⟨d.sup.toArray⟩ := ⟨_, rfl⟩
              simp only [strV, ← hN2, ← hS2] at hbox
              have hN2l : N2.data.toList = d.name := by rw [hN2]
              have hS2l : S2.data.toList = d.sup := by rw [hS2]
              have hTl2 : ln + 1 ≤ T.length := by rw [← hAT, List.length_append, ← hln]; simp [restC]
              have hTn : A' ++ [d] ++ restC (findC d.sup) = T := by rw [← hAT, rest_find]; simp [restC]
              obtain ⟨p0, p1, p2, p3, p4⟩ := hbox.cells
              have HBx := Lib.hid hbox
              have HU1 := Lib.hid hu1
              have HU2 := Lib.hid hu2
              have HN2 := Lib.hid hN2l
              have HS2 := Lib.hid hS2l
              have hfi2 := fun W h => findC_any S2 W h
              rw [hS2l] at hfi2
              cases hq2 : findC d.sup with
              | none =>
                rw [hq2] at hfi2 hTn
                have HTn := Lib.hid hTn
                have HF2 := Lib.hid hfi2
                clear hfi2 hTn hq2 hN2 hS2 hN2l hS2l hbox hu1 hu2 hAT hown' hbel' hln hg2
                go_wp2_with (first
                  | (at_builtin; refine wpList_append_class rfl (.tmp 30) (.tmp 32) rfl w.heap.size w3.heap.size (.slice la ln lc) A' rfl N2 S2 d (.slice pa pn pc) (.slice qa qn qc) HN2.out HS2.out HO'.out HU1.out HU2.out rfl (by have := HLn.out; omega) HB'.out.size ?_; intro v5 w5 hown5 hb5 hk5 hv5 hz5; (obtain ⟨ra, rc, hrv⟩ := ownK_slice hown5); (rw [List.length_append, List.length_singleton, ← HLn.out] at hrv); subst hrv; have HX5 := Lib.hid (show BoxC w5 w3.heap.size _ _ _ _ _ from (hk5 w3.heap.size hg1 HG2.out).trans HBx.out); (obtain ⟨r0, r1, r2, r3, r4⟩ := HX5.out.cells); have HO5 := Lib.hid hown5; have HB5 := Lib.hid (HB'.out.trans hb5); have HV5 := Lib.hid (fun e => (hv5 w3.heap.size e).elim (fun q => HG2.out q.symm) (fun q => by omega)); clear hown5 hb5 hk5 hv5)
                  | (go_at_call 33; refine (HF2.out _ (HL.out.below HB5.out)).mono ?_; rintro e w6 hfw; (simp only [FindW, noC] at hfw); (obtain ⟨hb6, rfl⟩ := hfw); have HX6 := Lib.hid (HX5.out.below hb6 (by omega)); (obtain ⟨m0, m1, m2, m3, m4⟩ := HX6.out.cells); (obtain ⟨n0, n1, n2, n3, n4⟩ := HX6.out.frozen); have HO6 := Lib.hid (ownK_below HO5.out hb6); have hz6 := hb6.size; have HB6 := Lib.hid (bthen HB5.out hb6); clear hb6))
                go_roundw
                case rel => exact ⟨A' ++ [d], none, rfl, HTn.out, HO6.out.store HV5.out _ _ _ _ _, set5_below HB6.out (by omega) _ _ _ _ _, ⟨by rw [set5_size]; omega, fun e => HV5.out e.symm, by omega⟩, _, _, _, _, _, HX6.out.store _ _ _ _ _, trivial⟩
                case measure => simp [lenOf]; omega
              | some d2 =>
                rw [hq2] at hfi2 hTn
                have HTn := Lib.hid hTn
                have HF2 := Lib.hid hfi2
                clear hfi2 hTn hq2 hN2 hS2 hN2l hS2l hbox hu1 hu2 hAT hown' hbel' hln hg2
                obtain ⟨N3, hN3⟩ : ∃ X : ByteArray, X = ⟨d2.name.toArray⟩ := ⟨_, rfl⟩
                obtain ⟨S3, hS3⟩ : ∃ X : ByteArray, X = ⟨d2.sup.toArray⟩ := ⟨_, rfl⟩
                have HN3 := Lib.hid hN3
                have HS3 := Lib.hid hS3
                clear hN3 hS3
                go_wp2_with (first
                  | (at_builtin; refine wpList_append_class rfl (.tmp 30) (.tmp 32) rfl w.heap.size w3.heap.size (.slice la ln lc) A' rfl N2 S2 d (.slice pa pn pc) (.slice qa qn qc) HN2.out HS2.out HO'.out HU1.out HU2.out rfl (by have := HLn.out; omega) HB'.out.size ?_; intro v5 w5 hown5 hb5 hk5 hv5 hz5; (obtain ⟨ra, rc, hrv⟩ := ownK_slice hown5); (rw [List.length_append, List.length_singleton, ← HLn.out] at hrv); subst hrv; have HX5 := Lib.hid (show BoxC w5 w3.heap.size _ _ _ _ _ from (hk5 w3.heap.size hg1 HG2.out).trans HBx.out); (obtain ⟨r0, r1, r2, r3, r4⟩ := HX5.out.cells); have HO5 := Lib.hid hown5; have HB5 := Lib.hid (HB'.out.trans hb5); have HV5 := Lib.hid (fun e => (hv5 w3.heap.size e).elim (fun q => HG2.out q.symm) (fun q => by omega)); clear hown5 hb5 hk5 hv5)
                  | (go_at_call 33; refine (HF2.out _ (HL.out.below HB5.out)).mono ?_; rintro e w6 hfw; (simp only [FindW, strV, ← HN3.out, ← HS3.out] at hfw); (obtain ⟨hb6, y1, y2, rfl, h1, h2⟩ := hfw); (obtain ⟨xa2, xn2, xc2, hx1⟩ := isTo_slice h1); subst hx1; (obtain ⟨ya2, yn2, yc2, hx2⟩ := isTo_slice h2); subst hx2; have HX6 := Lib.hid (HX5.out.below hb6 (by omega)); (obtain ⟨m0, m1, m2, m3, m4⟩ := HX6.out.cells); (obtain ⟨n0, n1, n2, n3, n4⟩ := HX6.out.frozen); have HO6 := Lib.hid (ownK_below HO5.out hb6); have hz6 := hb6.size; have HB6 := Lib.hid (bthen HB5.out hb6); have HY1 := Lib.hid (apart_new (g := w3.heap.size) HO5.out HB5.out.size (Nat.le_refl _) (.inl (by omega)) h1); have HY2 := Lib.hid (apart_new (g := w3.heap.size) HO5.out HB5.out.size (Nat.le_refl _) (.inl (by omega)) h2); clear h1 h2; clear hb6))
                go_roundw
                case rel => exact ⟨A' ++ [d], some d2, rfl, HTn.out, HO6.out.store HV5.out _ _ _ _ _, set5_below HB6.out (by omega) _ _ _ _ _, ⟨by rw [set5_size]; omega, fun e => HV5.out e.symm, by omega⟩, _, _, _, _, _, HX6.out.store _ _ _ _ _, by rw [HN3.out]; rfl, by rw [HS3.out]; rfl, rfl, apart_set HY1.out _ _ _ _ _, apart_set HY2.out _ _ _ _ _⟩
                case measure => simp [lenOf]; omega
        | false =>
          have HAr2 : Hid (allR T k.st (V.drop (j + 1)) = R) := HAr
          go_wp2_with (first
            | (go_at_call 34; refine (HFo.out _).mono ?_; rintro e w2 ⟨rfl, hb2⟩; have HB2 := Lib.hid (bthen HBel.out hb2); have HO2 := Lib.hid (ownK_below HOwn.out hb2); clear hb2)
            | (go_at_call 33; refine (HFi.out _ (HL.out.below HB2.out)).mono ?_; rintro e w3 hfw; (simp only [FindW, strV, ← HNe.out, ← HSe.out] at hfw); (obtain ⟨hb3, u1, u2, rfl, h1, h2⟩ := hfw); (obtain ⟨xa, xn, xc, hx1⟩ := isTo_slice h1); subst hx1; (obtain ⟨ya, yn, yc, hx2⟩ := isTo_slice h2); subst hx2; have hz3 := hb3.size; have HB3 := Lib.hid (bthen HB2.out hb3); have HO3 := Lib.hid ((ownK_below HO2.out hb3).apart (Nat.le_refl _)); have H1 := Lib.hid (apart_new (g := w3.heap.size) HO2.out HB2.out.size (Nat.le_refl _) (.inr (Nat.le_refl _)) h1); have H2 := Lib.hid (apart_new (g := w3.heap.size) HO2.out HB2.out.size (Nat.le_refl _) (.inr (Nat.le_refl _)) h2); clear hb3 h1 h2))
          have ha3 : Below w3.heap.size w3 (w3.alloc (.cells #[.string N, .string S, .bool k.st, .slice xa xn xc, .slice ya yn yc] 29)) := (Below.refl _ _).alloc (Nat.le_refl _) _
          have hb4 := bthen HB3.out ha3
          have hat : AtC w.heap.size (w3.alloc (.cells #[.string N, .string S, .bool k.st, .slice xa xn xc, .slice ya yn yc] 29)) (.slice sa sn sc) w3.heap.size (some k) :=
            ⟨⟨by simp, fun e => by have := ownK_lt HO3.out w3.heap.size e.symm; omega, HB3.out.size⟩, .string N, .string S, .bool k.st, .slice xa xn xc, .slice ya yn yc, boxC_new _ _ _ _ _ _, by rw [← HNk.out]; exact (strV_whole N).symm, by rw [← HSk.out]; exact (strV_whole S).symm, rfl, apart_go H1.out ha3, apart_go H2.out ha3⟩
          have HB4 := Lib.hid hb4
          have HAt := Lib.hid hat
          have HO4 := Lib.hid (ownK_below HO3.out ha3)
          clear ha3 hb4 hat
          go_loopw [4, 9] (fun l ok wq => ∃ (A' : List CT) (o : Option CT), ok = .bool o.isSome ∧ A' ++ restC o = T ∧ OwnK w.heap.size w3.heap.size wq l A' ∧ Below w.heap.size w wq ∧ AtC w.heap.size wq l w3.heap.size o) (fun l _ wq => T.length + 1 - lenOf l)
          case atStart => exact ⟨A, some k, rfl, HT2.out, HO4.out, HB4.out, HAt.out⟩
          case round =>
            obtain ⟨A', o, rfl, hAT, hown', hbel', ⟨hg1, hg2, hg3⟩, x0, x1, x2, u1, u2, hbox, hcls⟩ := hrel
            obtain ⟨la, lc, hlv⟩ := ownK_slice hown'
            obtain ⟨ln, hln⟩ : ∃ k, k = A'.length := ⟨_, rfl⟩
            rw [← hln] at hlv
            subst hlv
            have HO' := Lib.hid hown'
            have HB' := Lib.hid hbel'
            have HLn := Lib.hid hln
            have HG2 := Lib.hid hg2
            cases o with
            | none =>
              have hA' : A' = T := by rw [← hAT]; simp [restC]
              subst hA'
              simp only [Option.isSome_none]
              clear hAT hown' hbel' hln hbox hcls hg2
              go_wp2
              go_roundw
              case rel => exact ⟨j + 1, _, A', k.st, by omega, by go_num, rfl, by omega, HAr2.out, HO'.out, HB'.out⟩
              case measure => simp [intOf]; omega
            | some d =>
              obtain ⟨rfl, rfl, rfl, hu1, hu2⟩ := hcls
              obtain ⟨pa, pn, pc, hx1⟩ := isTo_slice hu1
              subst hx1
              obtain ⟨qa, qn, qc, hx2⟩ := isTo_slice hu2
              subst hx2
              simp only [Option.isSome_some]
              obtain ⟨N2, hN2⟩ : ∃ X : ByteArray, X = ⟨d.name.toArray⟩ := ⟨_, rfl⟩
              obtain ⟨S2, hS2⟩ : ∃ X : ByteArray, X = ⟨d.sup.toArray⟩ := ⟨_, rfl⟩
              simp only [strV, ← hN2, ← hS2] at hbox
              have hN2l : N2.data.toList = d.name := by rw [hN2]
              have hS2l : S2.data.toList = d.sup := by rw [hS2]
              have hTl2 : ln + 1 ≤ T.length := by rw [← hAT, List.length_append, ← hln]; simp [restC]
              have hTn : A' ++ [d] ++ restC (findC d.sup) = T := by rw [← hAT, rest_find]; simp [restC]
              obtain ⟨p0, p1, p2, p3, p4⟩ := hbox.cells
              have HBx := Lib.hid hbox
              have HU1 := Lib.hid hu1
              have HU2 := Lib.hid hu2
              have HN2 := Lib.hid hN2l
              have HS2 := Lib.hid hS2l
              have hfi2 := fun W h => findC_any S2 W h
              rw [hS2l] at hfi2
              cases hq2 : findC d.sup with
              | none =>
                rw [hq2] at hfi2 hTn
                have HTn := Lib.hid hTn
                have HF2 := Lib.hid hfi2
                clear hfi2 hTn hq2 hN2 hS2 hN2l hS2l hbox hu1 hu2 hAT hown' hbel' hln hg2
                go_wp2_with (first
                  | (at_builtin; refine wpList_append_class rfl (.tmp 30) (.tmp 32) rfl w.heap.size w3.heap.size (.slice la ln lc) A' rfl N2 S2 d (.slice pa pn pc) (.slice qa qn qc) HN2.out HS2.out HO'.out HU1.out HU2.out rfl (by have := HLn.out; omega) HB'.out.size ?_; intro v5 w5 hown5 hb5 hk5 hv5 hz5; (obtain ⟨ra, rc, hrv⟩ := ownK_slice hown5); (rw [List.length_append, List.length_singleton, ← HLn.out] at hrv); subst hrv; have HX5 := Lib.hid (show BoxC w5 w3.heap.size _ _ _ _ _ from (hk5 w3.heap.size hg1 HG2.out).trans HBx.out); (obtain ⟨r0, r1, r2, r3, r4⟩ := HX5.out.cells); have HO5 := Lib.hid hown5; have HB5 := Lib.hid (HB'.out.trans hb5); have HV5 := Lib.hid (fun e => (hv5 w3.heap.size e).elim (fun q => HG2.out q.symm) (fun q => by omega)); clear hown5 hb5 hk5 hv5)
                  | (go_at_call 33; refine (HF2.out _ (HL.out.below HB5.out)).mono ?_; rintro e w6 hfw; (simp only [FindW, noC] at hfw); (obtain ⟨hb6, rfl⟩ := hfw); have HX6 := Lib.hid (HX5.out.below hb6 (by omega)); (obtain ⟨m0, m1, m2, m3, m4⟩ := HX6.out.cells); (obtain ⟨n0, n1, n2, n3, n4⟩ := HX6.out.frozen); have HO6 := Lib.hid (ownK_below HO5.out hb6); have hz6 := hb6.size; have HB6 := Lib.hid (bthen HB5.out hb6); clear hb6))
                go_roundw
                case rel => exact ⟨A' ++ [d], none, rfl, HTn.out, HO6.out.store HV5.out _ _ _ _ _, set5_below HB6.out (by omega) _ _ _ _ _, ⟨by rw [set5_size]; omega, fun e => HV5.out e.symm, by omega⟩, _, _, _, _, _, HX6.out.store _ _ _ _ _, trivial⟩
                case measure => simp [lenOf]; omega
              | some d2 =>
                rw [hq2] at hfi2 hTn
                have HTn := Lib.hid hTn
                have HF2 := Lib.hid hfi2
                clear hfi2 hTn hq2 hN2 hS2 hN2l hS2l hbox hu1 hu2 hAT hown' hbel' hln hg2
                obtain ⟨N3, hN3⟩ : ∃ X : ByteArray, X = ⟨d2.name.toArray⟩ := ⟨_, rfl⟩
                obtain ⟨S3, hS3⟩ : ∃ X : ByteArray, X = ⟨d2.sup.toArray⟩ := ⟨_, rfl⟩
                have HN3 := Lib.hid hN3
                have HS3 := Lib.hid hS3
                clear hN3 hS3
                go_wp2_with (first
                  | (at_builtin; refine wpList_append_class rfl (.tmp 30) (.tmp 32) rfl w.heap.size w3.heap.size (.slice la ln lc) A' rfl N2 S2 d (.slice pa pn pc) (.slice qa qn qc) HN2.out HS2.out HO'.out HU1.out HU2.out rfl (by have := HLn.out; omega) HB'.out.size ?_; intro v5 w5 hown5 hb5 hk5 hv5 hz5; (obtain ⟨ra, rc, hrv⟩ := ownK_slice hown5); (rw [List.length_append, List.length_singleton, ← HLn.out] at hrv); subst hrv; have HX5 := Lib.hid (show BoxC w5 w3.heap.size _ _ _ _ _ from (hk5 w3.heap.size hg1 HG2.out).trans HBx.out); (obtain ⟨r0, r1, r2, r3, r4⟩ := HX5.out.cells); have HO5 := Lib.hid hown5; have HB5 := Lib.hid (HB'.out.trans hb5); have HV5 := Lib.hid (fun e => (hv5 w3.heap.size e).elim (fun q => HG2.out q.symm) (fun q => by omega)); clear hown5 hb5 hk5 hv5)
                  | (go_at_call 33; refine (HF2.out _ (HL.out.below HB5.out)).mono ?_; rintro e w6 hfw; (simp only [FindW, strV, ← HN3.out, ← HS3.out] at hfw); (obtain ⟨hb6, y1, y2, rfl, h1, h2⟩ := hfw); (obtain ⟨xa2, xn2, xc2, hx1⟩ := isTo_slice h1); subst hx1; (obtain ⟨ya2, yn2, yc2, hx2⟩ := isTo_slice h2); subst hx2; have HX6 := Lib.hid (HX5.out.below hb6 (by omega)); (obtain ⟨m0, m1, m2, m3, m4⟩ := HX6.out.cells); (obtain ⟨n0, n1, n2, n3, n4⟩ := HX6.out.frozen); have HO6 := Lib.hid (ownK_below HO5.out hb6); have hz6 := hb6.size; have HB6 := Lib.hid (bthen HB5.out hb6); have HY1 := Lib.hid (apart_new (g := w3.heap.size) HO5.out HB5.out.size (Nat.le_refl _) (.inl (by omega)) h1); have HY2 := Lib.hid (apart_new (g := w3.heap.size) HO5.out HB5.out.size (Nat.le_refl _) (.inl (by omega)) h2); clear h1 h2; clear hb6))
                go_roundw
                case rel => exact ⟨A' ++ [d], some d2, rfl, HTn.out, HO6.out.store HV5.out _ _ _ _ _, set5_below HB6.out (by omega) _ _ _ _ _, ⟨by rw [set5_size]; omega, fun e => HV5.out e.symm, by omega⟩, _, _, _, _, _, HX6.out.store _ _ _ _ _, by rw [HN3.out]; rfl, by rw [HS3.out]; rfl, rfl, apart_set HY1.out _ _ _ _ _, apart_set HY2.out _ _ _ _ _⟩
                case measure => simp [lenOf]; omega
    · obtain rfl : j = n := by omega
      have t3 : decide ((j : Int) < (j : Int)) = false := by simp
      have t3' : decide (j < j) = false := by simp
      have hA : R = some (A, b) := by
        rw [← har, List.drop_of_length_le (by rw [← HN.out]; exact Nat.le_refl _), allR_end]
      subst hA
      clear har hown hbel hsn HR
      go_wp2
      go_ret2
      exact ⟨HBel.out, _, _, rfl, HOwn.out⟩
end Go.Proofs.YtofmpaphafhdpaaGreatDoor
