/- entry.Has: the walk. -/
import Derived.Test.YtmilgbkkibahlaaGreatDoorEnFind
import Derived.Test.YtmilgbkkibahlaaGreatDoorMaSame
namespace Go.Proofs.YtmilgbkkibahlaaGreatDoor
open Go.RowKit
set_option linter.unusedVariables false

def likeB (t val x : List UInt8) : Bool := sameO (normD (ruleD t) x) (normD (ruleD t) val)
def hasA (L : List AT) (t val : List UInt8) : Bool := (findA L t).any (likeB t val)
set_option maxRecDepth 100000 in
set_option maxHeartbeats 2000000 in
theorem like_any (T V X : ByteArray) (b1 o1 b2 o2 : Nat) (w : World) (hw : LaidW w) (h1 : w.cell? ⟨b1, o1, none⟩ = some (.string T)) (h2 : w.cell? ⟨b2, o2, none⟩ = some (.string V)) :
    Calls Tryz.prog 61 #[.string X, .pointer (some ⟨b1, o1, none⟩), .pointer (some ⟨b2, o2, none⟩)] w fun e w' => e = .returned (.bool (likeB T.data.toList V.data.toList X.data.toList)) ∧ Below w.heap.size w w' := by
  have hs := same_any T X V w hw
  unfold likeB
  generalize sameO (normD (ruleD T.data.toList) X.data.toList) (normD (ruleD T.data.toList) V.data.toList) = r at hs ⊢
  have HS := Lib.hid hs
  clear hs
  go_enter Tryz.func61, Tryz.ntmps61
  go_wp2_with (go_at_call 62; refine (HS.out).mono ?_; rintro e w1 ⟨rfl, hb1⟩; have HB := Lib.hid hb1; clear hb1)
  go_ret
  exact ⟨rfl, HB.out⟩

set_option maxRecDepth 100000 in
set_option maxHeartbeats 2000000 in
theorem indexF_any (L : List (List UInt8)) (hs : L.length ≤ 1000000) (v : Value) (T V : ByteArray) (b1 o1 b2 o2 : Nat) (w : World) (hw : LaidW w) (h : IsT w.heap.size w L v) (h1 : w.cell? ⟨b1, o1, none⟩ = some (.string T)) (h2 : w.cell? ⟨b2, o2, none⟩ = some (.string V)) (g1 : b1 < w.heap.size) (g2 : b2 < w.heap.size) :
    Calls Tryz.prog 78 #[v, .func (.func 61) #[] #[.pointer (some ⟨b1, o1, none⟩), .pointer (some ⟨b2, o2, none⟩)]] w fun e w' => ∃ I : Int, e = .returned (.int .i64 I) ∧ decide (0 ≤ I) = L.any (likeB T.data.toList V.data.toList) ∧ Below w.heap.size w w' := by
  obtain ⟨a, c, rfl, hm, hcell⟩ := h
  unfold maxLen at hm
  have HC := Lib.hid hcell
  have H1 := Lib.hid h1
  have H2 := Lib.hid h2
  have HW := Lib.hid hw
  clear hcell h1 h2 hw
  go_enter Tryz.func78, Tryz.ntmps78
  go_wp2
  go_loopw [8] (fun i wr => ∃ j : Nat, j ≤ L.length ∧ i = .int .i64 j ∧ Hid (∀ k (hk : k < L.length), k < j → likeB T.data.toList V.data.toList L[k] = false) ∧ Below w.heap.size w wr) (fun i wr => L.length - (intOf i).toNat)
  case atStart => exact ⟨0, by omega, rfl, Lib.hid (fun k _ h => absurd h (by omega)), Below.refl _ _⟩
  case round =>
    obtain ⟨j, hj, rfl, HNo, hbel⟩ := hrel
    have HBel := Lib.hid hbel
    have hbs := hbel.size
    by_cases hlt : j < L.length
    · have t1 : decide ((j : Int) < (L.length : Int)) = true := by simp; omega
      have t1' : decide (j < L.length) = true := by simpa using hlt
      obtain ⟨b, off, rfl, hb0, c0⟩ := HC.out j hlt
      obtain ⟨X, hX⟩ : ∃ X : ByteArray, ⟨L[j].toArray⟩ = X := ⟨_, rfl⟩
      have hXl : X.data.toList = L[j] := by rw [← hX]
      have d0 : (wr.cell? ⟨b, off + j, none⟩) = some (.string X) := by
        rw [hbel.cell (p := ⟨b, _, none⟩) hb0, c0, ← hX]; rfl
      have hab := like_any T V X b1 o1 b2 o2 wr (HW.out.below hbel) ((hbel.cell (p := ⟨b1, o1, none⟩) g1).trans H1.out) ((hbel.cell (p := ⟨b2, o2, none⟩) g2).trans H2.out)
      rw [hXl] at hab
      obtain ⟨g, hg⟩ : ∃ g, likeB T.data.toList V.data.toList L[j] = g := ⟨_, rfl⟩
      rw [hg] at hab
      have HAb := Lib.hid hab
      have HG := Lib.hid hg
      clear hX hXl c0 hab hbel hg
      cases g with
      | true =>
        have HR : Hid (L.any (likeB T.data.toList V.data.toList) = true) := Lib.hid (List.any_eq_true.2 ⟨L[j], List.getElem_mem _, HG.out⟩)
        go_wp2_with (go_at_call 61; refine (HAb.out).mono ?_; rintro e w2 ⟨rfl, hb2⟩; have HB2 := Lib.hid (HBel.out.trans (hb2.mono hbs)); clear hb2)
        go_ret
        exact ⟨_, rfl, by rw [HR.out]; simp, HB2.out⟩
      | false =>
        have HN : Hid (∀ k (hk : k < L.length), k < j + 1 → likeB T.data.toList V.data.toList L[k] = false) := Lib.hid (fun k h1 h3 => by
            by_cases hk : k < j
            · exact HNo.out k h1 hk
            · obtain rfl : k = j := by omega
              exact HG.out)
        go_wp2_with (go_at_call 61; refine (HAb.out).mono ?_; rintro e w2 ⟨rfl, hb2⟩; have HB2 := Lib.hid (HBel.out.trans (hb2.mono hbs)); clear hb2)
        go_roundw
        case rel => exact ⟨j + 1, by omega, by go_num, HN, HB2.out⟩
        case measure => simp [intOf]; omega
    · obtain rfl : j = L.length := by omega
      have t1 : decide ((L.length : Int) < (L.length : Int)) = false := by simp
      have t1' : decide (L.length < L.length) = false := by simp
      have HR : Hid (L.any (likeB T.data.toList V.data.toList) = false) := Lib.hid (List.any_eq_false.2 (fun x hx => by
        obtain ⟨k, hk, rfl⟩ := List.getElem_of_mem hx
        simpa using HNo.out k hk hk))
      clear hbel
      go_wp2
      go_ret
      exact ⟨_, rfl, by rw [HR.out]; rfl, HBel.out⟩

theorem boxH2 (w : World) (o : Obj) (T V : ByteArray) : (((w.alloc o).alloc (.cells #[.string T] 9)).alloc (.cells #[.string V] 9)).cell? ⟨w.heap.size + 2, 0, none⟩ = some (.string V) := by
  have h : (((w.alloc o).alloc (.cells #[.string T] 9)).alloc (.cells #[.string V] 9)).heap[w.heap.size + 2]? = some (.cells #[.string V] 9 (0, 0)) := by
    have := heap_alloc_new ((w.alloc o).alloc (.cells #[.string T] 9)) (.cells #[.string V] 9)
    simpa only [World.size_alloc] using this
  simp only [World.cell?, h]; rfl
theorem boxH1 (w : World) (o : Obj) (T V : ByteArray) : (((w.alloc o).alloc (.cells #[.string T] 9)).alloc (.cells #[.string V] 9)).cell? ⟨w.heap.size + 1, 0, none⟩ = some (.string T) := by
  have h0 : ((w.alloc o).alloc (.cells #[.string T] 9)).heap[w.heap.size + 1]? = some (.cells #[.string T] 9 (0, 0)) := by
    have := heap_alloc_new (w.alloc o) (.cells #[.string T] 9)
    simpa only [World.size_alloc] using this
  have h : (((w.alloc o).alloc (.cells #[.string T] 9)).alloc (.cells #[.string V] 9)).heap[w.heap.size + 1]? = some (.cells #[.string T] 9 (0, 0)) := by
    rw [heap_alloc_old _ _ (by simp)]; exact h0
  simp only [World.cell?, h]; rfl

set_option maxRecDepth 100000 in
set_option maxHeartbeats 2000000 in
theorem containsF_any (L : List (List UInt8)) (hs : L.length ≤ 1000000) (v : Value) (T V : ByteArray) (b1 o1 b2 o2 : Nat) (w : World) (hw : LaidW w) (h : IsT w.heap.size w L v) (h1 : w.cell? ⟨b1, o1, none⟩ = some (.string T)) (h2 : w.cell? ⟨b2, o2, none⟩ = some (.string V)) (g1 : b1 < w.heap.size) (g2 : b2 < w.heap.size) :
    Calls Tryz.prog 59 #[v, .func (.func 61) #[] #[.pointer (some ⟨b1, o1, none⟩), .pointer (some ⟨b2, o2, none⟩)]] w fun e w' => e = .returned (.bool (L.any (likeB T.data.toList V.data.toList))) ∧ Below w.heap.size w w' := by
  have hc := indexF_any L hs v T V b1 o1 b2 o2 w hw h h1 h2 g1 g2
  obtain ⟨R, hR⟩ : ∃ R, R = L.any (likeB T.data.toList V.data.toList) := ⟨_, rfl⟩
  rw [← hR] at hc ⊢
  obtain ⟨sa, sc, hv, _⟩ := id h
  obtain ⟨sn, hsn⟩ : ∃ n, n = L.length := ⟨_, rfl⟩
  rw [← hsn] at hv
  subst hv
  have HC := Lib.hid hc
  clear hc hR hsn h h1 h2 hw
  go_enter Tryz.func59, Tryz.ntmps59
  go_wp2_with (go_at_call 78; refine (HC.out).mono ?_; rintro e w2 ⟨I, rfl, hI, hb2⟩; have HB2 := Lib.hid hb2; clear hb2)
  go_ret
  exact ⟨rfl, HB2.out⟩

set_option maxRecDepth 100000 in
set_option maxHeartbeats 2000000 in
theorem has_any (d T V : ByteArray) (L : List AT) (hs : smallA L) (v : Value) (w : World) (hw : LaidW w) (h : IsA w.heap.size w L v) :
    Calls Tryz.prog 44 #[.agg #[.string d, v], .string T, .string V] w fun e w' => e = .returned (.bool (hasA L T.data.toList V.data.toList)) ∧ Below w.heap.size w w' := by
  have hmf : ∀ (fn : Fn) (first cap : Array Value) (w : World), (Instr.makeFunc fn first cap).run Tryz.prog w = .ok (.func fn first cap) w := fun _ _ _ _ => rfl
  have hf : (findA L T.data.toList).length ≤ 1000000 := by
    unfold findA
    split
    · rename_i a ha
      have := ((hs.2 a (List.mem_of_find?_eq_some ha)).2).1
      omega
    · simp
  have hR : hasA L T.data.toList V.data.toList = (findA L T.data.toList).any (likeB T.data.toList V.data.toList) := rfl
  obtain ⟨R, hRR⟩ : ∃ R, R = hasA L T.data.toList V.data.toList := ⟨_, rfl⟩
  rw [← hRR] at hR ⊢
  have HR := Lib.hid hR
  have HF := Lib.hid hf
  have HS := Lib.hid hs
  have HI := Lib.hid h
  have HW := Lib.hid hw
  obtain ⟨sa, sc, hv, _⟩ := id h
  obtain ⟨sn, hsn⟩ : ∃ n, n = L.length := ⟨_, rfl⟩
  rw [← hsn] at hv
  subst hv
  have hb0 : Below w.heap.size w (((w.alloc (.cells #[.string d, .slice sa sn sc] 26)).alloc (.cells #[.string T] 9)).alloc (.cells #[.string V] 9)) := (((Below.refl _ _).alloc (Nat.le_refl _) _).alloc (by simp) _).alloc (by simp; omega) _
  have HB0 := Lib.hid hb0
  clear hf hs h hsn hw hR hRR hb0
  go_enter Tryz.func44, Tryz.ntmps44
  go_wp2_with (first
    | (go_at_call 60; refine (find_any L HS.out (.slice sa sn sc) T _ (HI.out.below HB0.out HB0.out.size)).mono ?_; rintro e w2 ⟨u, rfl, hu, hb2⟩; have f1 : w2.cell? ⟨w.heap.size + 1, 0, none⟩ = some (.string T) := (hb2.cell (p := ⟨w.heap.size + 1, 0, none⟩) (by simp)).trans (boxH1 w _ T V); have f2 : w2.cell? ⟨w.heap.size + 2, 0, none⟩ = some (.string V) := (hb2.cell (p := ⟨w.heap.size + 2, 0, none⟩) (by simp)).trans (boxH2 w _ T V); have HU := Lib.hid (hu.below hb2 hb2.size); have HB := Lib.hid (HB0.out.trans (hb2.mono HB0.out.size)); have hz2 := hb2.size; (simp only [World.size_alloc] at hz2); clear hu hb2)
    | (go_at_call 59; refine (containsF_any _ HF.out _ T V (w.heap.size + 1) 0 (w.heap.size + 2) 0 _ (HW.out.below HB.out) HU.out f1 f2 (by omega) (by omega)).mono ?_; rintro e w3 ⟨he, hb3⟩; rw [← HR.out] at he; subst he; have HB := Lib.hid (bthen HB.out hb3); clear hb3))
  go_ret
  exact ⟨rfl, HB.out⟩
end Go.Proofs.YtmilgbkkibahlaaGreatDoor
