/- entry.insert, typeName, Set: the walks. -/
import Derived.Test.YtngbpegjoihajaaGreatDoorEnIns
namespace Go.Proofs.YtngbpegjoihajaaGreatDoor
open Go.RowKit
set_option linter.unusedVariables false

def RelP (ok : Nat → Prop) (w : World) : List PT → List AT → Prop
  | [], [] => True
  | p :: P, a :: L => (p.1 = a.1 ∧ IsTo ok w a.2 p.2) ∧ RelP ok w P L
  | _, _ => False
theorem RelP.app {ok : Nat → Prop} {w : World} : ∀ {P : List PT} {L : List AT} {P' : List PT} {L' : List AT}, RelP ok w P L → RelP ok w P' L' → RelP ok w (P ++ P') (L ++ L')
  | [], [], _, _, _, h => h
  | p :: P, a :: L, _, _, h, k => ⟨h.1, RelP.app h.2 k⟩
theorem RelP.take {ok : Nat → Prop} {w : World} : ∀ {P : List PT} {L : List AT} (k : Nat), RelP ok w P L → RelP ok w (P.take k) (L.take k)
  | [], [], k, h => by simp [RelP]
  | p :: P, a :: L, 0, h => trivial
  | p :: P, a :: L, k + 1, h => ⟨h.1, RelP.take k h.2⟩
theorem RelP.drop {ok : Nat → Prop} {w : World} : ∀ {P : List PT} {L : List AT} (k : Nat), RelP ok w P L → RelP ok w (P.drop k) (L.drop k)
  | [], [], k, h => by simp [RelP]
  | p :: P, a :: L, 0, h => h
  | p :: P, a :: L, k + 1, h => RelP.drop (P := P) (L := L) k h.2
theorem relP_of {ok : Nat → Prop} {w : World} : ∀ {P : List PT} {L : List AT}, P.length = L.length → (∀ j (h : j < L.length) (h' : j < P.length), P[j].1 = L[j].1 ∧ IsTo ok w L[j].2 P[j].2) → RelP ok w P L
  | [], [], _, _ => trivial
  | [], a :: L, h, _ => by simp at h
  | p :: P, [], h, _ => by simp at h
  | p :: P, a :: L, h, k => ⟨k 0 (by simp) (by simp), relP_of (by simpa using h) (fun j h1 h2 => k (j + 1) (by simpa using h1) (by simpa using h2))⟩
theorem RelP.to {ok : Nat → Prop} {w : World} : ∀ {P : List PT} {L : List AT}, RelP ok w P L → P.length = L.length ∧ (∀ j (h : j < L.length) (h' : j < P.length), P[j].1 = L[j].1 ∧ IsTo ok w L[j].2 P[j].2)
  | [], [], _ => ⟨rfl, fun j h => absurd h (by simp)⟩
  | p :: P, a :: L, h => by
    have ih := RelP.to h.2
    refine ⟨by simp [ih.1], fun j h1 h2 => ?_⟩
    cases j with
    | zero => exact h.1
    | succ j => exact ih.2 j (by simpa using h1) (by simpa using h2)
theorem says_ins {B : Nat} {w w' : World} {v v' : Value} {P : List PT} {L : List AT} {X : List UInt8} {u : Value} {A : List (List UInt8)} (k : Nat) (h : Says B w v P L) (hu : IsTo (fun b => B ≤ b ∧ b < w.heap.size ∧ some b ≠ v.ownBlock) w A u)
    (hg : w.grownBy w' v.ownBlock) (hat : v'.ownBlock = v.ownBlock ∨ v'.ownBlock = some w.heap.size) : Says B w' v' (P.take k ++ (X, u) :: P.drop k) (L.take k ++ (X, A) :: L.drop k) := by
  have ok : ∀ b, (B ≤ b ∧ b < w.heap.size ∧ some b ≠ v.ownBlock) → (B ≤ b ∧ b < w'.heap.size ∧ some b ≠ v'.ownBlock) := fun b hb => ⟨hb.1, Nat.lt_of_lt_of_le hb.2.1 hg.size, by
    rcases hat with e | e
    · rw [e]; exact hb.2.2
    · rw [e]; intro h; have := Option.some.inj h; have := hb.2.1; omega⟩
  have hc : ∀ b o, (B ≤ b ∧ b < w.heap.size ∧ some b ≠ v.ownBlock) → w'.cell? ⟨b, o, none⟩ = w.cell? ⟨b, o, none⟩ := fun b o hb => by
    have := hg.block b hb.2.1 hb.2.2
    simp only [World.cell?, this]
  have hR : RelP (fun b => B ≤ b ∧ b < w'.heap.size ∧ some b ≠ v'.ownBlock) w' P L := relP_of h.1 (fun j h1 h2 => ⟨(h.2 j h1 h2).1, (h.2 j h1 h2).2.imp ok hc⟩)
  exact ((hR.take k).app (show RelP _ _ ((X, u) :: P.drop k) ((X, A) :: L.drop k) from ⟨⟨rfl, hu.imp ok hc⟩, hR.drop k⟩)).to

def insA (L : List AT) (x : AT) : List AT := match L.findIdx? (fun b => gtB b.1 x.1) with
  | some k => L.take k ++ x :: L.drop k
  | none => L ++ [x]
theorem insA_len (L : List AT) (x : AT) : (insA L x).length = L.length + 1 := by
  unfold insA
  split
  · rename_i k hk
    have := (List.findIdx?_eq_some_iff_getElem.1 hk).1
    simp; omega
  · simp

theorem rowP_one {B : Nat} {w : World} {v : Value} {P : List PT} (h : RowP B w v P) (hL : ∀ p ∈ P, p.2.oneCell' = true) : ∀ x ∈ cellsP P, x.oneCell' = true := by
  clear h
  induction P with
  | nil => simp [cellsP]
  | cons p P ih =>
    intro x hx
    simp only [cellsP, List.mem_cons] at hx
    rcases hx with rfl | rfl | hx
    · rfl
    · exact hL p (by simp)
    · exact ih (fun q hq => hL q (by simp [hq])) x hx
theorem says_one {B : Nat} {w : World} {v : Value} {P : List PT} {L : List AT} (h : Says B w v P L) : ∀ p ∈ P, p.2.oneCell' = true := by
  intro p hp
  obtain ⟨j, hj, rfl⟩ := List.getElem_of_mem hp
  obtain ⟨a, c, hv, _⟩ := (h.2 j (by rw [← h.1]; exact hj) hj).2
  rw [hv]; rfl

/-- Insert at any place. -/
theorem insertL_any (L : List AT) (v : Value) (B : Nat) (X : ByteArray) (u : Value) (A : List (List UInt8)) (hu1 : u.oneCell' = true) (vb k : Nat) (w : World) (hown : OwnA B w v L) (hk : k ≤ L.length) (hL : L.length + 1 ≤ 1000000) (hB : B ≤ w.heap.size)
    (hu : IsTo (fun b => B ≤ b ∧ b < w.heap.size ∧ some b ≠ v.ownBlock) w A u) (hv : w.heap[vb]? = some (.cells #[.string X, u] 42 (0, 0))) (hne : some vb ≠ v.ownBlock) :
    Calls Tryz.prog 105 #[v, .int .i64 k, .slice (some ⟨vb, 0, none⟩) 1 1] w fun e w' => ∃ v', e = .returned v' ∧ OwnA B w' v' (L.take k ++ (X.data.toList, A) :: L.drop k) ∧ Below B w w' := by
  obtain ⟨P, hr, hsay⟩ := hown
  have hPL := hsay.1
  have hone := rowP_one hr (says_one hsay)
  have key : Calls Tryz.prog 105 #[v, .int .i64 k, .slice (some ⟨vb, 0, none⟩) 1 1] w (InsW B w v.ownBlock (P.take k ++ (X.data.toList, u) :: P.drop k)) := by
    by_cases hend : k = P.length
    · subst hend
      rw [List.take_length, List.drop_length]
      exact insert_end P v B X u hu1 vb w hr (by omega) hB (by simp [World.cell?, hv]) (by simp [World.cell?, hv])
    · have hklt : k < P.length := by omega
      rcases hr.2 with ⟨rfl, hz⟩ | ⟨g, cap, cur, rfl, hBg, hg, hnc, hcm, hcs, htake⟩
      · omega
      · have hne' : vb ≠ g := fun e => hne (by rw [e]; rfl)
        by_cases hroom : P.length + 1 ≤ cap
        · exact insert_shift P B g cap k vb cur X u hu1 w hBg hg hcs (by rw [cellsP_length]; exact htake) hklt hroom (by unfold maxLen at hcm; omega) hne' hv hone
        · exact insert_grow P B g cap k vb cur X u hu1 w hB hg hcs (by rw [cellsP_length]; exact htake) hklt hnc (by omega) (by omega) hv hone _
  refine key.mono fun e w' ⟨v', he, hr', hg', hat⟩ => ⟨v', he, ⟨_, hr', says_ins k hsay hu hg' hat⟩, ?_⟩
  exact (Below.refl B w).grown hg' hB (fun b e => (World.ownsRow.lt hr b e).1)

set_option maxRecDepth 100000 in
set_option maxHeartbeats 4000000 in
theorem insert_any (L : List AT) (v : Value) (B : Nat) (Y : ByteArray) (u : Value) (A : List (List UInt8)) (hu1 : u.oneCell' = true) (w : World) (hown : OwnA B w v L) (hL : L.length ≤ 100000) (hB : B ≤ w.heap.size)
    (hu : IsTo (fun b => B ≤ b ∧ b < w.heap.size ∧ some b ≠ v.ownBlock) w A u) :
    Calls Tryz.prog 67 #[v, .agg #[.string Y, u]] w fun e w' => ∃ v', e = .returned v' ∧ OwnA B w' v' (insA L (Y.data.toList, A)) ∧ Below B w w' := by
  have hmf : ∀ (fn : Fn) (first cap : Array Value) (w : World), (Instr.makeFunc fn first cap).run Tryz.prog w = .ok (.func fn first cap) w := fun _ _ _ _ => rfl
  obtain ⟨sa, sc, hv⟩ := ownA_slice hown
  obtain ⟨n, hn⟩ : ∃ n, n = L.length := ⟨_, rfl⟩
  rw [← hn] at hv
  have HOwn := Lib.hid hown
  have HU := Lib.hid hu
  have hb1 : Below w.heap.size w (w.alloc (.cells #[.string Y, u] 42)) := (Below.refl _ _).alloc (Nat.le_refl _) _
  have HB1 := Lib.hid hb1
  have HOA := Lib.hid (ownA_isA hown (by unfold maxLen; omega))
  have hidx : (idxI L Y.data.toList < 0 ∧ insA L (Y.data.toList, A) = L.take n ++ (Y.data.toList, A) :: L.drop n) ∨ ∃ k : Nat, k < n ∧ idxI L Y.data.toList = k ∧ insA L (Y.data.toList, A) = L.take k ++ (Y.data.toList, A) :: L.drop k := by
    unfold idxI insA
    cases hf : L.findIdx? (fun b => gtB b.1 Y.data.toList) with
    | none => left; exact ⟨by simp, by simp [hn]⟩
    | some k => right; exact ⟨k, by rw [hn]; exact (List.findIdx?_eq_some_iff_getElem.1 hf).1, rfl, rfl⟩
  have HN := Lib.hid hn
  have hn5 : n ≤ 100000 := by omega
  clear hown hu hb1 hn
  subst hv
  rcases hidx with ⟨h1, h2⟩ | ⟨k, hk, h1, h2⟩
  · obtain ⟨I, hI⟩ : ∃ I, idxI L Y.data.toList = I := ⟨_, rfl⟩
    rw [hI] at h1
    have HI := Lib.hid hI
    have H2 := Lib.hid h2
    have t1 : decide (I < 0) = true := by simpa using h1
    clear hI h2
    go_enter Tryz.func67, Tryz.ntmps67
    go_wp2_with (first
      | (go_at_call 103; refine (indexA_any L (by have := HN.out; omega) (.slice sa n sc) Y w.heap.size 0 _ (HOA.out.below HB1.out HB1.out.size) (by simp) (by simp)).mono ?_; rintro e w2 ⟨he, hb2⟩; rw [HI.out] at he; subst he; have f0 : w2.cell? ⟨w.heap.size, 0, none⟩ = some (.string Y) := (hb2.cell (p := ⟨w.heap.size, 0, none⟩) (by simp)).trans (by simp); have f1 : w2.cell? ⟨w.heap.size, 1, none⟩ = some u := (hb2.cell (p := ⟨w.heap.size, 1, none⟩) (by simp)).trans (by simp); have HB2 := Lib.hid (bthen HB1.out hb2); have HB3 := Lib.hid (Below.alloc (bthen HB1.out hb2) (bthen HB1.out hb2).size (.cells #[.string Y, u] 42)); clear hb2)
      | (go_at_call 105; refine (insertL_any L (.slice sa n sc) B Y u A hu1 w2.heap.size n _ (ownA_below HOwn.out HB3.out) (by have := HN.out; omega) (by have := HN.out; omega) (Nat.le_trans hB HB3.out.size) (HU.out.imp (fun b hb => ⟨hb.1, Nat.lt_of_lt_of_le hb.2.1 HB3.out.size, hb.2.2⟩) (fun b o hb => HB3.out.cell (p := ⟨b, o, none⟩) hb.2.1)) (heap_alloc_new w2 _) (fun e => absurd (ownA_lt HOwn.out _ e.symm) (by have := HB2.out.size; omega))).mono ?_; rintro e w4 ⟨v4, rfl, hown4, hb4⟩; have HO4 := Lib.hid hown4; have HB4 := Lib.hid ((HB3.out.mono hB).trans hb4); clear hown4 hb4))
    go_ret
    exact ⟨_, rfl, by rw [H2.out]; exact HO4.out, HB4.out⟩
  · have HI := Lib.hid h1
    have H2 := Lib.hid h2
    have t1 : decide ((k : Int) < 0) = false := by simp
    clear h1 h2
    go_enter Tryz.func67, Tryz.ntmps67
    go_wp2_with (first
      | (go_at_call 103; refine (indexA_any L (by have := HN.out; omega) (.slice sa n sc) Y w.heap.size 0 _ (HOA.out.below HB1.out HB1.out.size) (by simp) (by simp)).mono ?_; rintro e w2 ⟨he, hb2⟩; rw [HI.out] at he; subst he; have f0 : w2.cell? ⟨w.heap.size, 0, none⟩ = some (.string Y) := (hb2.cell (p := ⟨w.heap.size, 0, none⟩) (by simp)).trans (by simp); have f1 : w2.cell? ⟨w.heap.size, 1, none⟩ = some u := (hb2.cell (p := ⟨w.heap.size, 1, none⟩) (by simp)).trans (by simp); have HB2 := Lib.hid (bthen HB1.out hb2); have HB3 := Lib.hid (Below.alloc (bthen HB1.out hb2) (bthen HB1.out hb2).size (.cells #[.string Y, u] 42)); clear hb2)
      | (go_at_call 105; refine (insertL_any L (.slice sa n sc) B Y u A hu1 w2.heap.size k _ (ownA_below HOwn.out HB3.out) (by have := HN.out; omega) (by have := HN.out; omega) (Nat.le_trans hB HB3.out.size) (HU.out.imp (fun b hb => ⟨hb.1, Nat.lt_of_lt_of_le hb.2.1 HB3.out.size, hb.2.2⟩) (fun b o hb => HB3.out.cell (p := ⟨b, o, none⟩) hb.2.1)) (heap_alloc_new w2 _) (fun e => absurd (ownA_lt HOwn.out _ e.symm) (by have := HB2.out.size; omega))).mono ?_; rintro e w4 ⟨v4, rfl, hown4, hb4⟩; have HO4 := Lib.hid hown4; have HB4 := Lib.hid ((HB3.out.mono hB).trans hb4); clear hown4 hb4))
    go_ret
    exact ⟨_, rfl, by rw [H2.out]; exact HO4.out, HB4.out⟩

def nameA (t : List UInt8) : List UInt8 := (canonD t).getD t
set_option maxRecDepth 100000 in
set_option maxHeartbeats 2000000 in
theorem typeName_any (t : ByteArray) (ht : t.size ≤ 281474976710656) (w : World) : Calls Tryz.prog 68 #[.string t] w fun e w' => e = .returned (.string (ofL (nameA t.data.toList))) ∧ Below w.heap.size w w' := by
  have hc := fun w => canon_any t w
  have hcl := fun w => clone_any t w ht
  cases e : canonD t.data.toList with
  | none =>
    have hn : ofL (nameA t.data.toList) = t := bytes_ext (by rw [ofL_list]; unfold nameA; rw [e]; rfl)
    rw [hn]
    simp only [e, canonV] at hc
    have HC := Lib.hid hc
    have HCl := Lib.hid hcl
    clear hc hcl hn e
    go_enter Tryz.func68, Tryz.ntmps68
    go_wp2_with (first
      | (go_at_call 80; refine (HC.out _).mono ?_; rintro e w1 ⟨rfl, hb1⟩; have HB := Lib.hid hb1; clear hb1)
      | (go_at_call 69; refine (HCl.out _).mono ?_; rintro e w2 ⟨rfl, hb2⟩; have HB := Lib.hid (bthen HB.out hb2); clear hb2))
    go_ret
    exact ⟨rfl, HB.out⟩
  | some k =>
    have hn : nameA t.data.toList = k := by unfold nameA; rw [e]; rfl
    rw [hn]
    simp only [e, canonV] at hc
    obtain ⟨K, hK⟩ : ∃ K, K = ofL k := ⟨_, rfl⟩
    have hK2 : (⟨k.toArray⟩ : ByteArray) = K := hK.symm
    rw [← hK]
    simp only [hK2] at hc
    have HC := Lib.hid hc
    clear hc hcl hn e hK hK2
    go_enter Tryz.func68, Tryz.ntmps68
    go_wp2_with (first
      | (go_at_call 80; refine (HC.out _).mono ?_; rintro e w1 ⟨rfl, hb1⟩; have HB := Lib.hid hb1; clear hb1))
    go_ret
    exact ⟨rfl, HB.out⟩
end Go.Proofs.YtngbpegjoihajaaGreatDoor
