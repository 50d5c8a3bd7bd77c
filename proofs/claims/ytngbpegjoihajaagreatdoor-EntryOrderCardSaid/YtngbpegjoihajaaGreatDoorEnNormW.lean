/- entry.Norm of fewer than twenty attributes whose names stand in order: the walk. -/
import Derived.Test.YtngbpegjoihajaaGreatDoorEnNext
namespace Go.Proofs.YtngbpegjoihajaaGreatDoor
open Go.RowKit
set_option linter.unusedVariables false

def normL (L : List AT) : List AT := L.map (fun a => (nameA a.1, a.2))
theorem ownA_grown {B mb : Nat} {w w' : World} {v : Value} {L : List AT} (h : OwnA B w v L) (hg : w.grownBy w' (some mb)) (hm : mb < B) : OwnA B w' v L := by
  obtain ⟨P, hr, hs⟩ := h
  have hblk : ∀ k, B ≤ k → k < w.heap.size → w'.heap[k]? = w.heap[k]? := fun k h1 h2 => hg.block k h2 (by intro e; have := Option.some.inj e; omega)
  refine ⟨P, ⟨hr.1, hr.2.imp id fun ⟨g, cap, cur, e1, hb, hgg, rest⟩ => ⟨g, cap, cur, e1, hb, (hblk g hb (Array.getElem?_eq_some_iff.1 hgg).1).trans hgg, rest⟩⟩, hs.1, fun j h1 h2 => ⟨(hs.2 j h1 h2).1, (hs.2 j h1 h2).2.imp (fun b hb => ⟨hb.1, Nat.lt_of_lt_of_le hb.2.1 hg.size, hb.2.2⟩) (fun b o hb => by
    have := hblk b hb.1 hb.2.1
    simp only [World.cell?, this])⟩⟩
theorem BoxE.grown {b mb : Nat} {d : ByteArray} {w w' : World} (h : BoxE b d w) (hg : w.grownBy w' (some mb)) (hm : mb = b + 2) (hs : b + 2 < w.heap.size) : BoxE b d w' := by
  have h0 := hg.block b (by omega) (by intro e; have := Option.some.inj e; omega)
  have h1 := hg.block (b + 1) (by omega) (by intro e; have := Option.some.inj e; omega)
  obtain ⟨a0, a1, a2, a3, a4⟩ := h
  unfold BoxE
  simp only [World.cell?, World.frozen?, h0, h1]
  exact ⟨a0, a1, a2, a3, a4⟩
theorem below_grown {B mb : Nat} {w0 w w' : World} (h : Below B w0 w) (hg : w.grownBy w' (some mb)) (hB : B ≤ mb) (hw : B ≤ w.heap.size) : Below B w0 w' :=
  h.trans ⟨hg.os, hg.tape, hg.output, hg.size, fun k hk => hg.block k (by omega) (by intro e; have := Option.some.inj e; omega)⟩
/-- What Norm's rounds hold. -/
structure NormAt (b : Nat) (d : ByteArray) (w wr : World) (v l : Value) (j : Nat) (L' : List AT) : Prop where
  own : OwnA (b + 3) wr l L'
  box : BoxE b d wr
  m0 : wr.cell? ⟨b + 2, 0, none⟩ = some v
  m1 : wr.cell? ⟨b + 2, 1, none⟩ = some (.int .i64 (j : Int))
  mz : wr.frozen? ⟨b + 2, 1, none⟩ = false
  size : b + 3 ≤ wr.heap.size
  bel : Below b w wr
theorem NormAt.go {b : Nat} {d : ByteArray} {w wr w2 : World} {v l : Value} {j : Nat} {L' : List AT} (h : NormAt b d w wr v l j L') (hb : Below wr.heap.size wr w2) : NormAt b d w w2 v l j L' where
  own := ownA_below h.own hb
  box := h.box.go hb (by have := h.size; omega)
  m0 := (hb.cell (p := ⟨b + 2, 0, none⟩) (show b + 2 < wr.heap.size by have := h.size; omega)).trans h.m0
  m1 := (hb.cell (p := ⟨b + 2, 1, none⟩) (show b + 2 < wr.heap.size by have := h.size; omega)).trans h.m1
  mz := (hb.frozen (p := ⟨b + 2, 1, none⟩) (show b + 2 < wr.heap.size by have := h.size; omega)).trans h.mz
  size := Nat.le_trans h.size hb.size
  bel := h.bel.trans (hb.mono (by have := h.size; omega))
theorem NormAt.next {b : Nat} {d : ByteArray} {w wr w2 : World} {v l : Value} {j : Nat} {L' : List AT} (h : NormAt b d w wr v l j L') (hg : wr.grownBy w2 (some (b + 2))) (h0 : w2.cell? ⟨b + 2, 0, none⟩ = some v) (h1 : w2.cell? ⟨b + 2, 1, none⟩ = some (.int .i64 (j + 1 : Nat))) (hz : w2.frozen? ⟨b + 2, 1, none⟩ = false) : NormAt b d w w2 v l (j + 1) L' where
  own := ownA_grown h.own hg (by omega)
  box := h.box.grown hg rfl (by have := h.size; omega)
  m0 := h0
  m1 := h1
  mz := hz
  size := Nat.le_trans h.size hg.size
  bel := below_grown h.bel hg (by omega) (by have := h.size; omega)
theorem NormAt.app {b : Nat} {d : ByteArray} {w wr w2 : World} {v l l2 : Value} {j : Nat} {L' L2 : List AT} (h : NormAt b d w wr v l j L') (hb : Below (b + 3) wr w2) (ho : OwnA (b + 3) w2 l2 L2) : NormAt b d w w2 v l2 j L2 where
  own := ho
  box := h.box.go hb (by omega)
  m0 := (hb.cell (p := ⟨b + 2, 0, none⟩) (show b + 2 < b + 3 by omega)).trans h.m0
  m1 := (hb.cell (p := ⟨b + 2, 1, none⟩) (show b + 2 < b + 3 by omega)).trans h.m1
  mz := (hb.frozen (p := ⟨b + 2, 1, none⟩) (show b + 2 < b + 3 by omega)).trans h.mz
  size := Nat.le_trans h.size hb.size
  bel := h.bel.trans (hb.mono (by omega))
theorem norm_block (w : World) (d : ByteArray) (v : Value) : (((w.alloc (.cells #[.string d, v] 24)).alloc (.cells #[.string ⟨#[]⟩, .slice none 0 0] 24)).alloc (.cells #[v, .int .i64 0] 91)).heap[w.heap.size + 2]? = some (.cells #[v, .int .i64 0] 91 (0, 0)) := by
  have := heap_alloc_new ((w.alloc (.cells #[.string d, v] 24)).alloc (.cells #[.string ⟨#[]⟩, .slice none 0 0] 24)) (.cells #[v, .int .i64 0] 91)
  simpa only [World.size_alloc] using this
theorem norm_start (w : World) (d : ByteArray) (v : Value) : NormAt w.heap.size d w (((w.alloc (.cells #[.string d, v] 24)).alloc (.cells #[.string ⟨#[]⟩, .slice none 0 0] 24)).alloc (.cells #[v, .int .i64 0] 91)) v (.slice none 0 0) 0 [] where
  own := ownA_nil _ _
  box := (boxE_new w d v).go (Below.alloc (Below.refl (w.heap.size + 2) _) (by simp) _) (by omega)
  m0 := by simp only [World.cell?, norm_block w d v]; rfl
  m1 := by simp only [World.cell?, norm_block w d v]; rfl
  mz := by simp only [World.frozen?, norm_block w d v]; rfl
  size := by simp
  bel := (((Below.refl _ _).alloc (Nat.le_refl _) _).alloc (by simp) _).alloc (by simp; omega) _
theorem normL_take (L : List AT) (j : Nat) (h : j < L.length) : normL (L.take (j + 1)) = normL (L.take j) ++ [(nameA L[j].1, L[j].2)] := by
  unfold normL
  rw [List.take_succ_eq_append_getElem h, List.map_append]; rfl

set_option maxRecDepth 100000 in
set_option maxHeartbeats 4000000 in
theorem norm_entry (d : ByteArray) (hd : d.size ≤ 140737488351232) (L : List AT) (hs : smallA L) (hl : L.length < 20) (ho : inOrder (normL L)) (v : Value) (w : World) (h : IsA w.heap.size w L v) :
    Calls Tryz.prog 30 #[.agg #[.string d, v]] w fun e w' => ∃ v', e = .returned (.agg #[strV (nameN d.data.toList), v']) ∧ OwnA w.heap.size w' v' (normL L) ∧ Below w.heap.size w w' := by
  obtain ⟨sa, sc, hv, _⟩ := id h
  obtain ⟨n, hn⟩ : ∃ n, n = L.length := ⟨_, rfl⟩
  rw [← hn] at hv
  subst hv
  have HI := Lib.hid h
  have HS := Lib.hid hs
  have HO := Lib.hid ho
  have HN := Lib.hid hn
  have hl5 : n < 20 := by omega
  have HSt := Lib.hid (norm_start w d (.slice sa n sc))
  obtain ⟨T, hT⟩ : ∃ T : ByteArray, strV (nameN d.data.toList) = .string T := ⟨_, rfl⟩
  have hnt := fun w => nameText_any d hd w
  simp only [hT] at hnt
  rw [hT]
  have HNt := Lib.hid hnt
  clear h hs ho hn hnt hT hl
  go_enter Tryz.func30, Tryz.ntmps30
  go_wp2
  rw [show w.heap.size + 1 + 1 = w.heap.size + 2 from rfl]
  have HSt2 := HSt
  generalize (((w.alloc (.cells #[.string d, .slice sa n sc] 24)).alloc (.cells #[.string ⟨#[]⟩, .slice none 0 0] 24)).alloc (.cells #[.slice sa n sc, .int .i64 0] 91)) = W3 at HSt2 ⊢
  clear HSt
  go_loopw [4] (fun l wr => ∃ j : Nat, j ≤ n ∧ lenOf l = j ∧ NormAt w.heap.size d w wr (.slice sa n sc) l j (normL (L.take j))) (fun l wr => n - lenOf l)
  case atStart => exact ⟨0, by omega, rfl, HSt2.out⟩
  case round =>
    obtain ⟨j, hj, hlj, hat⟩ := hrel
    obtain ⟨la, ln, lc, rfl⟩ := ownA_sl hat.own
    simp only [lenOf] at hlj
    subst hlj
    have HAt := Lib.hid hat
    have hmo := more_any (w.heap.size + 2) sa n sc ln wr hat.m0 hat.m1
    have HMo := Lib.hid hmo
    clear hmo hat
    by_cases hlt : ln < n
    · have t1 : decide ((ln : Int) < (n : Int)) = true := by simp; omega
      have hjl : ln < L.length := by rw [← HN.out]; exact hlt
      rw [t1] at HMo
      have htk := normL_take L ln hjl
      have HTk := Lib.hid htk
      have hwl : (normL (L.take ln)).length ≤ 1000 := by unfold normL; rw [List.length_map, List.length_take]; omega
      clear htk t1
      go_wp2_with (first
        | (go_at_call 53; refine (HMo.out).mono ?_; rintro e w2 ⟨rfl, m, hw2⟩; have hb2 : Below wr.heap.size wr w2 := (by { rw [hw2]; exact below_drewN (Below.refl _ _) m }); have HAt2 := Lib.hid (HAt.out.go hb2); clear hw2 hb2)
        | (go_at_call 54; refine (next_any L HS.out (w.heap.size + 2) ln (.slice sa n sc) _ (by have := HAt2.out.size; omega) ((HI.out.below HAt2.out.bel (by omega)).below (Below.refl _ _) (Nat.le_refl _)) hjl HAt2.out.m0 HAt2.out.m1 HAt2.out.mz).mono ?_; rintro e w5 ⟨u5, rfl, hu5, hg5, h50, h51, h5z⟩; have HAt5 := Lib.hid (HAt2.out.next hg5 h50 h51 h5z); (obtain ⟨ya, yc, hye, _⟩ := id hu5); subst hye; have HU5 := Lib.hid hu5; have HO2 := Lib.hid HAt2.out.own; have hz2 := HAt2.out.size; clear hu5 hg5 h50 h51 h5z)
        | (at_builtin; refine wpList_append_attr rfl (.tmp 11) (.tmp 14) rfl (w.heap.size + 3) (.slice la ln lc) (normL (L.take ln)) rfl (ofL (nameA L[ln].1)) (.slice ya L[ln].2.length yc) L[ln].2 HAt5.out.own (HU5.out.imp (fun b hb => ⟨by have := hb.1; omega, hb.2, fun e => absurd (ownA_lt HO2.out b e.symm) (by have := hb.1; omega)⟩) (fun _ _ _ => rfl)) rfl rfl (by omega) HAt5.out.size ?_; intro v6 w6 hown6 hb6; have HAt6 := Lib.hid (HAt5.out.app hb6 hown6); clear hown6 hb6))
      obtain ⟨ra, rn, rc, rfl⟩ := ownA_sl HAt6.out.own
      have hrn : rn = ln + 1 := by
        obtain ⟨_, _, h⟩ := ownA_slice HAt6.out.own
        simp only [Value.slice.injEq] at h
        rw [h.2.1]
        unfold normL
        simp; omega
      subst hrn
      go_roundw
      case rel => exact ⟨ln + 1, by omega, rfl, by rw [HTk.out]; have := HAt6.out; rw [ofL_list] at this; exact this⟩
      case measure => simp [lenOf]; omega
    · obtain rfl : ln = n := by omega
      have t1 : decide ((ln : Int) < (ln : Int)) = false := by simp
      rw [t1] at HMo
      have hall : normL (L.take ln) = normL L := by rw [List.take_of_length_le (by rw [← HN.out]; exact Nat.le_refl _)]
      have HAll := Lib.hid hall
      clear t1 hall
      go_wp2_with (first
        | (go_at_call 53; refine (HMo.out).mono ?_; rintro e w2 ⟨rfl, m, hw2⟩; have hb2 : Below wr.heap.size wr w2 := (by { rw [hw2]; exact below_drewN (Below.refl _ _) m }); have HAt2 := Lib.hid (HAt.out.go hb2); clear hw2 hb2)
        | (go_at_call 55; refine (sorted_any (normL L) (by unfold normL; rw [List.length_map, ← HN.out]; exact hl5) HO.out _ _ (by have := ownA_isA HAt2.out.own (by rw [HAll.out]; unfold normL maxLen; rw [List.length_map, ← HN.out]; omega); rwa [HAll.out] at this)).mono ?_; rintro e w3 ⟨rfl, hb3⟩; have HAt3 := Lib.hid (HAt2.out.go hb3); have f0 := HAt3.out.box.1; clear hb3)
        | (go_at_call 58; refine (HNt.out _).mono ?_; rintro e w4 ⟨rfl, hb4⟩; have HAt4 := Lib.hid (HAt3.out.go hb4); (obtain ⟨_, p0, p1, q0, q1⟩ := HAt4.out.box); clear hb4))
      refine bodyPost_ret (v := .agg #[.string T, .slice la ln lc]) (by simp [results, Tryz.results30, go_sem, p0, p1]) rfl ⟨_, rfl, ?_, (HAt4.out.bel.setCell (p := ⟨w.heap.size + 1, 0, none⟩) (show w.heap.size ≤ w.heap.size + 1 by omega) _).setCell (p := ⟨w.heap.size + 1, 1, none⟩) (show w.heap.size ≤ w.heap.size + 1 by omega) _⟩
      have ho := ownA_set (ownA_set HAt4.out.own ⟨w.heap.size + 1, 0, none⟩ (.string T) (show w.heap.size + 1 < w.heap.size + 3 by omega)) ⟨w.heap.size + 1, 1, none⟩ (.slice la ln lc) (show w.heap.size + 1 < w.heap.size + 3 by omega)
      have ho2 := ownA_lower (B' := w.heap.size) ho (by omega)
      rwa [HAll.out] at ho2
end Go.Proofs.YtngbpegjoihajaaGreatDoor
