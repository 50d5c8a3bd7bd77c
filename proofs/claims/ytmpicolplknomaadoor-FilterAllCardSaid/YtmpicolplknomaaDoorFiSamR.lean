/- The document's SameFilter: the walk. -/
import Derived.Test.YtmpicolplknomaaDoorFiAsk
import Derived.Test.YtmpicolplknomaaDoorEnSame
import Derived.Deep.RegionHeld3
namespace Go.Proofs.YtmpicolplknomaaDoor
open Go.RowKit
set_option linter.unusedVariables false
set_option linter.unusedSimpArgs false

/-- Are two filters one? -/
noncomputable def sameFT (f g : FT) : Bool := @decide (f = g) (Classical.propDecidable _)
theorem sameFT_pos {f g : FT} (h : f = g) : sameFT f g = true := @decide_eq_true _ (Classical.propDecidable _) h
theorem sameFT_neg {f g : FT} (h : ¬ f = g) : sameFT f g = false := @decide_eq_false _ (Classical.propDecidable _) h
mutual
/-- Its parts are few. -/
def fewP : FT → Prop
  | .mk _ _ _ p l => p.length ≤ 1000000 ∧ fewPs l
def fewPs : List FT → Prop
  | [] => True
  | f :: l => fewP f ∧ fewPs l
end
theorem fewPs_at : ∀ {l : List FT}, fewPs l → ∀ f ∈ l, fewP f
  | g :: l, ⟨h1, h2⟩, f, hf => by
    rcases List.mem_cons.1 hf with rfl | hf
    · exact h1
    · exact fewPs_at h2 f hf
theorem fewPs_mk : ∀ {l : List FT}, (∀ f ∈ l, fewP f) → fewPs l
  | [], _ => trivial
  | g :: l, h => ⟨h g (by simp), fewPs_mk fun f hf => h f (by simp [hf])⟩
theorem few_may : ∀ (d : Nat) (f : FT), mayF d f = true → fewP f
  | 0, _, h => by cases h
  | d + 1, .mk k t v p l, h => by
    have h' : (if holdsC k then t.isEmpty && v.isEmpty && p.isEmpty && kidsC k l.length && l.all (mayF d) else okLeaf k t v p l.length) = true := h
    split at h'
    · simp only [Bool.and_eq_true] at h'
      obtain ⟨⟨⟨_, hp⟩, _⟩, hl⟩ := h'
      have : p = [] := by cases p <;> simp_all
      subst this
      exact ⟨by simp, fewPs_mk fun f hf => few_may d f (List.all_eq_true.1 hl f hf)⟩
    · unfold okLeaf at h'
      simp only [Bool.and_eq_true, decide_eq_true_eq] at h'
      obtain ⟨⟨_, hl⟩, hp⟩ := h'
      have hl0 : l = [] := List.eq_nil_of_length_eq_zero hl
      subst hl0
      refine ⟨?_, trivial⟩
      split at hp
      · simp only [Bool.and_eq_true] at hp
        have : p = [] := by cases p <;> simp_all
        subst this; simp
      · split at hp
        · unfold okParts at hp
          simp only [Bool.and_eq_true, decide_eq_true_eq] at hp
          omega
        · split at hp
          · simp only [Bool.and_eq_true] at hp
            have : p = [] := by cases p <;> simp_all
            subst this; simp
          · cases hp
/-- What has been made since. -/
def SamB (w0 : World) (W : World) : Prop := Below w0.heap.size w0 W
theorem SamB.cell {w0 W W' : World} (h : SamB w0 W) (hb : Below W.heap.size W W') {b o : Nat} {x : Value} (hl : b < w0.heap.size) (hc : w0.cell? ⟨b, o, none⟩ = some x) : W'.cell? ⟨b, o, none⟩ = some x :=
  ((bthen h hb).cell (p := ⟨b, o, none⟩) hl).trans hc
theorem SamB.size {w0 W : World} (h : SamB w0 W) : w0.heap.size ≤ W.heap.size := Below.size h
theorem SamB.cell' {w0 W : World} (h : SamB w0 W) {p : Addr} (hp : p.block < w0.heap.size) : W.cell? p = w0.cell? p := Below.cell h hp
theorem SamB.go {w0 W W' : World} (h : SamB w0 W) (hb : Below W.heap.size W W') : SamB w0 W' := bthen h hb
theorem texts_below (L M : List (List UInt8)) (hs : L.length ≤ 1000000) (v u : Value) (w : World) (hL : IsT w.heap.size w L v) (hM : IsT w.heap.size w M u) :
    Calls Tryd.prog 24 #[v, u] w fun e w' => e = .returned (.bool (L == M)) ∧ Below w.heap.size w w' :=
  (textsRef_q L M hs v u w hL hM).mono (by rintro e w' ⟨rfl, m, rfl⟩; exact ⟨rfl, below_drewN (Below.refl _ _) m⟩)

set_option maxRecDepth 100000 in
set_option maxHeartbeats 8000000 in
theorem sameFl_all : ∀ (n : Nat) (f g : FT) (v u : Value) (w : World), SizeOf.sizeOf f ≤ n → fewP f → IsFl (Lt w) w f v → IsFl (Lt w) w g u →
    Calls Tryd.prog 13 #[v, u] w fun e w' => e = .returned (.bool (sameFT f g)) ∧ Below w.heap.size w w' := by
  intro n
  induction n with
  | zero =>
    intro f g v u w hn
    cases f
    simp at hn
  | succ n ih =>
    intro f g v u w hn hfew hf hg
    obtain ⟨k, t, x, p, l⟩ := f
    obtain ⟨k', t', x', p', l'⟩ := g
    obtain ⟨pa, pc, ka, kc, rfl, hwf, ht, hx, hp, hl, hkids⟩ := hf.parts
    obtain ⟨pa', pc', ka', kc', rfl, hwf', ht', hx', hp', hl', hkids'⟩ := hg.parts
    obtain ⟨T, hT, hTl⟩ := strV_text t
    obtain ⟨X, hX, hXl⟩ := strV_text x
    obtain ⟨T', hT', hTl'⟩ := strV_text t'
    obtain ⟨X', hX', hXl'⟩ := strV_text x'
    obtain ⟨S, hS⟩ : ∃ S, S = sameFT (.mk k t x p l) (.mk k' t' x' p' l') := ⟨_, rfl⟩
    rw [← hS]
    rw [hT, hX, hT', hX']
    obtain ⟨m, hm⟩ : ∃ m, m = l.length := ⟨_, rfl⟩
    obtain ⟨m', hm'⟩ : ∃ m', m' = l'.length := ⟨_, rfl⟩
    have hp2 : IsT w.heap.size w p (.slice pa p.length pc) := hp
    have hp2' : IsT w.heap.size w p' (.slice pa' p'.length pc') := hp'
    obtain ⟨q, hq⟩ : ∃ q, q = p.length := ⟨_, rfl⟩
    obtain ⟨q', hq'⟩ : ∃ q', q' = p'.length := ⟨_, rfl⟩
    rw [← hq] at hp2
    rw [← hq'] at hp2'
    rw [← hm] at hl
    rw [← hm'] at hl'
    rw [← hm, ← hm', ← hq, ← hq']
    unfold maxLen at hl hl'
    obtain ⟨W0, hW0⟩ : ∃ W, W = w.alloc (.cells #[.int .i64 k, .string T, .string X, .slice pa q pc, .slice ka m kc] 25) := ⟨_, rfl⟩
    have hb0 : Below w.heap.size w W0 := by rw [hW0]; exact box5 w _ _ _ _ _
    have hs0 : W0.heap.size = w.heap.size + 1 := by rw [hW0]; simp
    have hx0 : FlAt W0 w.heap.size (.int .i64 k) (.string T) (.string X) (.slice pa q pc) (.slice ka m kc) := by rw [hW0]; exact heap_alloc_new w _
    obtain ⟨W1, hW1⟩ : ∃ W, W = W0.alloc (.cells #[.int .i64 k', .string T', .string X', .slice pa' q' pc', .slice ka' m' kc'] 25) := ⟨_, rfl⟩
    have hb1 : Below W0.heap.size W0 W1 := by rw [hW1]; exact box5 W0 _ _ _ _ _
    have hs1 : W1.heap.size = w.heap.size + 2 := by rw [hW1]; simp [hs0]
    have hx1 : FlAt W1 (w.heap.size + 1) (.int .i64 k') (.string T') (.string X') (.slice pa' q' pc') (.slice ka' m' kc') := by rw [hW1, ← hs0]; exact heap_alloc_new W0 _
    have hx2 : FlAt W1 w.heap.size (.int .i64 k) (.string T) (.string X) (.slice pa q pc) (.slice ka m kc) := fl_below hx0 hb1 (by omega)
    have hb2 : Below w.heap.size w W1 := bthen hb0 hb1
    obtain ⟨a0, a1, a2, a3, a4⟩ := fl_cells hx2
    obtain ⟨c0, c1, c2, c3, c4⟩ := fl_cells hx1
    have hW : (w.alloc (.cells #[.int .i64 k, .string T, .string X, .slice pa q pc, .slice ka m kc] 25)).alloc (.cells #[.int .i64 k', .string T', .string X', .slice pa' q' pc', .slice ka' m' kc'] 25) = W1 := by rw [hW1, hW0]
    have HW := Lib.hid hW
    have HB := Lib.hid hb2
    have HS1 := Lib.hid hs1
    have HX2 := Lib.hid hx2
    have HX1 := Lib.hid hx1
    have HS := Lib.hid hS
    have HM := Lib.hid hm
    have HM' := Lib.hid hm'
    have hz : w.heap.size < w.heap.size + 1 := by omega
    have htx := texts_below p p' hfew.1 _ _ W1 (hp2.below hb2 hb2.size) (hp2'.below hb2 hb2.size)
    have HTx := Lib.hid htx
    have HKids := Lib.hid hkids
    have HKids' := Lib.hid hkids'
    have HFew := Lib.hid hfew
    have HI := Lib.hid ih
    have HN := Lib.hid hn
    have HP : Hid (k = k' ∧ T = T' ∧ X = X' ∧ p = p' ∧ l = l' ↔ FT.mk k t x p l = FT.mk k' t' x' p' l') := Lib.hid (by
      constructor
      · rintro ⟨rfl, rfl, rfl, rfl, rfl⟩
        rw [← hTl, ← hXl, ← hTl', ← hXl']
      · intro e
        cases e
        exact ⟨rfl, bytes_ext (by rw [hTl, hTl']), bytes_ext (by rw [hXl, hXl']), rfl, rfl⟩)
    clear hW0 hW1 hW hx0 hx1 hx2 hb0 hb1 hb2 hs0 hs1 hS hT hX hT' hX' hTl hXl hTl' hXl' hp hp' hp2 hp2' hm hm' hq hq' ht hx ht' hx' hf hg hwf hwf' htx hkids hkids' hfew ih hn
    by_cases hk : k = k'
    · subst hk
      have t1 : (k != k) = false := by simp
      by_cases hT : T = T'
      · subst hT
        by_cases hX : X = X'
        · subst hX
          by_cases hpp : p = p'
          · have e3 : (p == p') = true := by simpa using hpp
            rw [e3] at HTx
            by_cases hll : m = m'
            · subst hll
              have t4 : ((m : Int) != (m : Int)) = false := by simp
              go_enter Tryd.func13, Tryd.ntmps13
              go_upto_region 1 with (fail)
              rw [HW.out]
              go_wp2_with (go_at_call 24; refine (HTx.out).mono ?_; rintro e w2 ⟨rfl, hb2⟩; have d4 := (hb2.cell (p := ⟨w.heap.size, 4, none⟩) (by have := HS1.out; show w.heap.size < _; omega)).trans a4; have f4 := (hb2.cell (p := ⟨w.heap.size + 1, 4, none⟩) (by have := HS1.out; show w.heap.size + 1 < _; omega)).trans c4; have HB2 := Lib.hid hb2; clear hb2)
              have hxa := fl_below HX2.out HB2.out (by have := HS1.out; omega)
              have hxb := fl_below HX1.out HB2.out (by have := HS1.out; omega)
              have HB3 := Lib.hid (bthen HB.out HB2.out)
              have HXa := Lib.hid hxa
              have HXb := Lib.hid hxb
              have HP4 := Lib.hid hpp
              clear a0 a1 a2 a3 a4 c0 c1 c2 c3 c4 d4 f4 hxa hxb hpp t1 t4 e3
              go_loopw [5] (fun i wr => ∃ j : Nat, j ≤ m ∧ i = .int .i64 j ∧ Hid (∀ k (h1 : k < l.length) (h2 : k < l'.length), k < j → l[k] = l'[k]) ∧ Hid (FlAt wr w.heap.size (.int .i64 k) (.string T) (.string X) (.slice pa q pc) (.slice ka m kc)) ∧ Hid (FlAt wr (w.heap.size + 1) (.int .i64 k) (.string T) (.string X) (.slice pa' q' pc') (.slice ka' m kc')) ∧ Below w.heap.size w wr) (fun i _ => m - (intOf i).toNat)
              case atStart => exact ⟨0, by omega, rfl, Lib.hid (fun k h1 h2 h => absurd h (Nat.not_lt_zero _)), HXa, HXb, HB3.out⟩
              case round =>
                obtain ⟨j, hj, rfl, HAll, HXa, HXb, hbel⟩ := hrel
                rename World => wo
                have HBr := Lib.hid hbel
                obtain ⟨_, _, _, _, x4⟩ := fl_cells HXa.out
                obtain ⟨_, _, _, _, y4⟩ := fl_cells HXb.out
                have hlx := fl_lt HXa.out
                have hly := fl_lt HXb.out
                have HLx : Hid (w.heap.size < wo.heap.size) := Lib.hid hlx
                have HLy : Hid (w.heap.size + 1 < wo.heap.size) := Lib.hid hly
                clear hlx hly
                by_cases hlt : j < m
                · have hjl : j < l.length := by rw [← HM.out]; exact hlt
                  have hjl' : j < l'.length := by rw [← HM'.out]; exact hlt
                  have hfw : fewP l[j] := fewPs_at HFew.out.2 _ (List.getElem_mem hjl)
                  have hsz : SizeOf.sizeOf l[j] ≤ n := by
                    have h1 := List.sizeOf_lt_of_mem (List.getElem_mem hjl)
                    have h2 := HN.out
                    simp only [FT.mk.sizeOf_spec] at h2
                    omega
                  obtain ⟨b, off, v0, v1, v2, v3, v4, rfl, hb, g0, g1, g2, g3, g4, hf⟩ := HKids.out.get l _ 0 j l[j] (List.getElem?_eq_getElem hjl)
                  obtain ⟨b', off', u0, u1, u2, u3, u4, rfl, hb', p0, p1, p2, p3, p4, hg⟩ := HKids'.out.get l' _ 0 j l'[j] (List.getElem?_eq_getElem hjl')
                  rw [Nat.zero_add] at g0 g1 g2 g3 g4 p0 p1 p2 p3 p4
                  have hcw : ∀ o, wo.cell? ⟨b, o, none⟩ = w.cell? ⟨b, o, none⟩ := fun o => hbel.cell (p := ⟨b, o, none⟩) hb
                  have hcw' : ∀ o, wo.cell? ⟨b', o, none⟩ = w.cell? ⟨b', o, none⟩ := fun o => hbel.cell (p := ⟨b', o, none⟩) hb'
                  rw [← hcw] at g0 g1 g2 g3 g4
                  rw [← hcw'] at p0 p1 p2 p3 p4
                  have hbo : b < wo.heap.size := Nat.lt_of_lt_of_le hb hbel.size
                  have hbo' : b' < wo.heap.size := Nat.lt_of_lt_of_le hb' hbel.size
                  have hf2 : IsFl (Lt wo) wo l[j] (.agg #[v0, v1, v2, v3, v4]) := hf.imp (fun b h => Nat.lt_of_lt_of_le h hbel.size) (fun b o h => hbel.cell (p := ⟨b, o, none⟩) h)
                  have hg2 : IsFl (Lt wo) wo l'[j] (.agg #[u0, u1, u2, u3, u4]) := hg.imp (fun b h => Nat.lt_of_lt_of_le h hbel.size) (fun b o h => hbel.cell (p := ⟨b, o, none⟩) h)
                  obtain ⟨fk, fT, fX, fpa, fpn, fpc, fka, fkn, fkc, e⟩ := hf2.shape
                  simp only [Value.agg.injEq, Array.mk.injEq, List.cons.injEq, and_true] at e
                  obtain ⟨rfl, rfl, rfl, rfl, rfl⟩ := e
                  obtain ⟨ek, eT, eX, epa, epn, epc, eka, ekn, ekc, e⟩ := hg2.shape
                  simp only [Value.agg.injEq, Array.mk.injEq, List.cons.injEq, and_true] at e
                  obtain ⟨rfl, rfl, rfl, rfl, rfl⟩ := e
                  have hca := fun W (hW : SamB wo W) => HI.out l[j] l'[j] _ _ W hsz hfw (hf2.imp (fun b h => Nat.lt_of_lt_of_le h hW.size) (fun b o h => hW.cell' (p := ⟨b, o, none⟩) h)) (hg2.imp (fun b h => Nat.lt_of_lt_of_le h hW.size) (fun b o h => hW.cell' (p := ⟨b, o, none⟩) h))
                  have ti0 : (0 : Int) ≤ (j : Int) := by omega
                  have ti1 : (j : Int) < (m : Int) := by omega
                  have hst := And.intro x4 (And.intro y4 (And.intro g0 (And.intro g1 (And.intro g2 (And.intro g3 (And.intro g4 (And.intro p0 (And.intro p1 (And.intro p2 (And.intro p3 (And.intro p4 (show SamB wo wo from Below.refl _ _))))))))))))
                  have hkp := fun W W' (hW : SamB wo W) (hW' : Below W.heap.size W W') => And.intro (hW.cell hW' HLx.out x4) (And.intro (hW.cell hW' HLy.out y4) (And.intro (hW.cell hW' hbo g0) (And.intro (hW.cell hW' hbo g1) (And.intro (hW.cell hW' hbo g2) (And.intro (hW.cell hW' hbo g3) (And.intro (hW.cell hW' hbo g4) (And.intro (hW.cell hW' hbo' p0) (And.intro (hW.cell hW' hbo' p1) (And.intro (hW.cell hW' hbo' p2) (And.intro (hW.cell hW' hbo' p3) (And.intro (hW.cell hW' hbo' p4) (hW.go hW'))))))))))))
                  have HK := Lib.hid hkp
                  obtain ⟨r, hr⟩ : ∃ r, r = sameFT l[j] l'[j] := ⟨_, rfl⟩
                  rw [← hr] at hca
                  have HCa := Lib.hid hca
                  have hsd := HK.out wo wo.drew (Below.refl _ _) (Below.refl _ _).drew
                  clear hca hkp hf hf2 hg hg2 hcw hcw' hbel hfw hsz hb hb' hbo hbo' x4 y4 g0 g1 g2 g3 g4 p0 p1 p2 p3 p4
                  cases r with
                  | false =>
                    have HF : Hid (S = false) := Lib.hid (HS.out.trans (sameFT_neg fun e => by
                      have h5 := (HP.out.2 e).2.2.2.2
                      have : l[j] = l'[j] := by simp only [h5]
                      rw [sameFT_pos this] at hr
                      cases hr))
                    clear hr hjl hjl'
                    go_wp2
                    go_region_held3 (fun w' => w'.cell? ⟨w.heap.size, 4, none⟩ = some (.slice (some ⟨b, off, none⟩) m kc) ∧ w'.cell? ⟨w.heap.size + 1, 4, none⟩ = some (.slice (some ⟨b', off', none⟩) m kc') ∧ w'.cell? ⟨b, off + j * 5, none⟩ = some (.int .i64 fk) ∧ w'.cell? ⟨b, off + j * 5 + 1, none⟩ = some (.string fT) ∧ w'.cell? ⟨b, off + j * 5 + 2, none⟩ = some (.string fX) ∧ w'.cell? ⟨b, off + j * 5 + 3, none⟩ = some (.slice fpa fpn fpc) ∧ w'.cell? ⟨b, off + j * 5 + 4, none⟩ = some (.slice fka fkn fkc) ∧ w'.cell? ⟨b', off' + j * 5, none⟩ = some (.int .i64 ek) ∧ w'.cell? ⟨b', off' + j * 5 + 1, none⟩ = some (.string eT) ∧ w'.cell? ⟨b', off' + j * 5 + 2, none⟩ = some (.string eX) ∧ w'.cell? ⟨b', off' + j * 5 + 3, none⟩ = some (.slice epa epn epc) ∧ w'.cell? ⟨b', off' + j * 5 + 4, none⟩ = some (.slice eka ekn ekc) ∧ SamB wo w')
                      (first | (with_reducible exact hst) | (with_reducible exact hsd) | (go_split_ands; exact HK.out _ _ (by assumption) hb5) | (go_split_ands; exact HK.out _ _ (by assumption) (Below.refl _ _).drew) | (go_split_ands; exact HK.out _ _ (by assumption) (Below.refl _ _)))
                      (first | (go_at_call 13; go_split_ands; ((with_reducible refine (HCa.out _ (by assumption)).mono ?_); rintro e w5 ⟨rfl, hb5⟩)))
                    go_split_ands
                    have hT : SamB wo w5 := by assumption
                    have HT := Lib.hid hT
                    clear hT
                    go_wp2
                    go_ret
                    exact ⟨by rw [HF.out]; rfl, HBr.out.trans (Below.mono HT.out HBr.out.size)⟩
                  | true =>
                    have HAll2 : Hid (∀ k (h1 : k < l.length) (h2 : k < l'.length), k < j + 1 → l[k] = l'[k]) := Lib.hid (fun k h1 h2 h3 => by
                      by_cases hk : k < j
                      · exact HAll.out k h1 h2 hk
                      · obtain rfl : k = j := by omega
                        exact Classical.byContradiction fun hn => by rw [sameFT_neg hn] at hr; cases hr)
                    clear hr hjl hjl'
                    go_wp2
                    go_region_held3 (fun w' => w'.cell? ⟨w.heap.size, 4, none⟩ = some (.slice (some ⟨b, off, none⟩) m kc) ∧ w'.cell? ⟨w.heap.size + 1, 4, none⟩ = some (.slice (some ⟨b', off', none⟩) m kc') ∧ w'.cell? ⟨b, off + j * 5, none⟩ = some (.int .i64 fk) ∧ w'.cell? ⟨b, off + j * 5 + 1, none⟩ = some (.string fT) ∧ w'.cell? ⟨b, off + j * 5 + 2, none⟩ = some (.string fX) ∧ w'.cell? ⟨b, off + j * 5 + 3, none⟩ = some (.slice fpa fpn fpc) ∧ w'.cell? ⟨b, off + j * 5 + 4, none⟩ = some (.slice fka fkn fkc) ∧ w'.cell? ⟨b', off' + j * 5, none⟩ = some (.int .i64 ek) ∧ w'.cell? ⟨b', off' + j * 5 + 1, none⟩ = some (.string eT) ∧ w'.cell? ⟨b', off' + j * 5 + 2, none⟩ = some (.string eX) ∧ w'.cell? ⟨b', off' + j * 5 + 3, none⟩ = some (.slice epa epn epc) ∧ w'.cell? ⟨b', off' + j * 5 + 4, none⟩ = some (.slice eka ekn ekc) ∧ SamB wo w')
                      (first | (with_reducible exact hst) | (with_reducible exact hsd) | (go_split_ands; exact HK.out _ _ (by assumption) hb5) | (go_split_ands; exact HK.out _ _ (by assumption) (Below.refl _ _).drew) | (go_split_ands; exact HK.out _ _ (by assumption) (Below.refl _ _)))
                      (first | (go_at_call 13; go_split_ands; ((with_reducible refine (HCa.out _ (by assumption)).mono ?_); rintro e w5 ⟨rfl, hb5⟩)))
                    go_split_ands
                    have hT : SamB wo w5 := by assumption
                    have HT := Lib.hid hT
                    clear hT
                    have HXa2 := Lib.hid (fl_below HXa.out HT.out HLx.out)
                    have HXb2 := Lib.hid (fl_below HXb.out HT.out HLy.out)
                    go_wp2
                    go_roundw
                    case rel => exact ⟨j + 1, by omega, by go_num, HAll2, HXa2, HXb2, HBr.out.trans (Below.mono HT.out HBr.out.size)⟩
                    case measure => simp [intOf]; omega
                · obtain rfl : j = m := by omega
                  have t9 : decide ((j : Int) < (j : Int)) = false := by simp
                  have t9' : decide (j < j) = false := by simp
                  have HF : Hid (S = true) := Lib.hid (HS.out.trans (sameFT_pos (HP.out.1 ⟨by trivial, by trivial, by trivial, HP4.out, List.ext_getElem (by rw [← HM.out, ← HM'.out]) fun k h1 h2 => HAll.out k h1 h2 (by rw [HM.out]; exact h1)⟩)))
                  clear hbel
                  go_wp2
                  go_ret
                  exact ⟨by rw [HF.out]; rfl, HBr.out⟩
            · have t4 : ((m : Int) != (m' : Int)) = true := by simp; omega
              have HF : Hid (S = false) := Lib.hid (HS.out.trans (sameFT_neg fun e => by
                have := (HP.out.2 e).2.2.2.2
                exact hll (by rw [HM.out, HM'.out, this])))
              clear hll
              go_enter Tryd.func13, Tryd.ntmps13
              go_upto_region 1 with (fail)
              rw [HW.out]
              go_wp2_with (go_at_call 24; refine (HTx.out).mono ?_; rintro e w2 ⟨rfl, hb2⟩; have d4 := (hb2.cell (p := ⟨w.heap.size, 4, none⟩) (by have := HS1.out; show w.heap.size < _; omega)).trans a4; have f4 := (hb2.cell (p := ⟨w.heap.size + 1, 4, none⟩) (by have := HS1.out; show w.heap.size + 1 < _; omega)).trans c4; have HB2 := Lib.hid hb2; clear hb2)
              go_ret
              exact ⟨by rw [HF.out]; rfl, bthen HB.out HB2.out⟩
          · have e3 : (p == p') = false := by simpa using hpp
            rw [e3] at HTx
            have HF : Hid (S = false) := Lib.hid (HS.out.trans (sameFT_neg fun e => hpp (HP.out.2 e).2.2.2.1))
            clear hpp
            go_enter Tryd.func13, Tryd.ntmps13
            go_upto_region 1 with (fail)
            rw [HW.out]
            go_wp2_with (go_at_call 24; refine (HTx.out).mono ?_; rintro e w2 ⟨rfl, hb2⟩; have HB2 := Lib.hid hb2; clear hb2)
            go_ret
            exact ⟨by rw [HF.out]; rfl, bthen HB.out HB2.out⟩
        · have t3 := str_ne hX
          have HF : Hid (S = false) := Lib.hid (HS.out.trans (sameFT_neg fun e => hX (HP.out.2 e).2.2.1))
          clear hX
          go_enter Tryd.func13, Tryd.ntmps13
          go_upto_region 1 with (fail)
          rw [HW.out]
          go_wp2
          go_ret
          exact ⟨by rw [HF.out]; rfl, HB.out⟩
      · have t2 := str_ne hT
        have HF : Hid (S = false) := Lib.hid (HS.out.trans (sameFT_neg fun e => hT (HP.out.2 e).2.1))
        clear hT
        go_enter Tryd.func13, Tryd.ntmps13
        go_upto_region 1 with (fail)
        rw [HW.out]
        go_wp2
        go_ret
        exact ⟨by rw [HF.out]; rfl, HB.out⟩
    · have t1 : (k != k') = true := by simpa using hk
      have HF : Hid (S = false) := Lib.hid (HS.out.trans (sameFT_neg fun e => hk (HP.out.2 e).1))
      clear hk
      go_enter Tryd.func13, Tryd.ntmps13
      go_upto_region 1 with (fail)
      rw [HW.out]
      go_wp2
      go_ret
      exact ⟨by rw [HF.out]; rfl, HB.out⟩
end Go.Proofs.YtmpicolplknomaaDoor
