/- slices.Index, Contains at texts; IndexFunc, ContainsFunc with isNamed's question; isNamed: the walks. -/
import Derived.Test.YtofmpaphafhdpaaGreatDoorScPure
import Derived.Test.YtofmpaphafhdpaaGreatDoorEnHas
import Derived.Test.YtofmpaphafhdpaaGreatDoorDnParse
import Derived.Deep.RegionLaw
namespace Go.Proofs.YtofmpaphafhdpaaGreatDoor
open Go.RowKit
set_option linter.unusedVariables false

set_option maxRecDepth 100000 in
set_option maxHeartbeats 2000000 in
theorem indexS_any (L : List (List UInt8)) (v : Value) (T : ByteArray) (w : World) (h : IsT w.heap.size w L v) :
    Calls Tryz.prog 116 #[v, .string T] w fun e w' => ∃ I : Int, e = .returned (.int .i64 I) ∧ decide (0 ≤ I) = L.contains T.data.toList ∧ w = w' := by
  obtain ⟨a, c, rfl, hm, hcell⟩ := h
  unfold maxLen at hm
  have HC := Lib.hid hcell
  clear hcell
  go_enter Tryz.func116, Tryz.ntmps116
  go_wp2
  go_loopw [8] (fun i wr => ∃ j : Nat, j ≤ L.length ∧ i = .int .i64 j ∧ Hid (∀ k (hk : k < L.length), k < j → L[k] ≠ T.data.toList) ∧ w = wr) (fun i wr => L.length - (intOf i).toNat)
  case atStart => exact ⟨0, by omega, rfl, Lib.hid (fun k _ h => absurd h (by omega)), rfl⟩
  case round =>
    obtain ⟨j, hj, rfl, HNo, rfl⟩ := hrel
    by_cases hlt : j < L.length
    · have t1 : decide ((j : Int) < (L.length : Int)) = true := by simp; omega
      have t1' : decide (j < L.length) = true := by simpa using hlt
      obtain ⟨b, off, rfl, hb0, c0⟩ := HC.out j hlt
      obtain ⟨X, hX⟩ : ∃ X : ByteArray, ⟨L[j].toArray⟩ = X := ⟨_, rfl⟩
      have hXl : X.data.toList = L[j] := by rw [← hX]
      have d0 : (w.cell? ⟨b, off + j, none⟩) = some (.string X) := by
        rw [c0, ← hX]; rfl
      by_cases he : T = X
      · have HR : Hid (L.contains T.data.toList = true) := Lib.hid (by rw [List.contains_iff_mem, he, hXl]; exact List.getElem_mem _)
        subst he
        clear hX hXl c0 HNo
        go_wp2
        go_ret
        exact ⟨_, rfl, by rw [HR.out]; simp, rfl⟩
      · have t2 := str_ne he
        have HN : Hid (∀ k (hk : k < L.length), k < j + 1 → L[k] ≠ T.data.toList) := Lib.hid (fun k h1 h3 => by
            by_cases hk : k < j
            · exact HNo.out k h1 hk
            · obtain rfl : k = j := by omega
              rw [← hXl]
              exact fun e => he (bytes_ext e.symm))
        clear he hX hXl c0 HNo
        go_wp2
        go_roundw
        case rel => exact ⟨j + 1, by omega, by go_num, HN, by first | rfl | trivial⟩
        case measure => simp [intOf]; omega
    · obtain rfl : j = L.length := by omega
      have t1 : decide ((L.length : Int) < (L.length : Int)) = false := by simp
      have t1' : decide (L.length < L.length) = false := by simp
      have HR : Hid (L.contains T.data.toList = false) := Lib.hid (by
        rw [Bool.eq_false_iff, Ne, List.contains_iff_mem]
        intro hx
        obtain ⟨k, hk, e⟩ := List.getElem_of_mem hx
        exact HNo.out k hk hk e)
      go_wp2
      go_ret
      exact ⟨_, rfl, by rw [HR.out]; rfl, rfl⟩

set_option maxRecDepth 100000 in
set_option maxHeartbeats 2000000 in
theorem containsS_any (L : List (List UInt8)) (v : Value) (T : ByteArray) (w : World) (h : IsT w.heap.size w L v) :
    Calls Tryz.prog 80 #[v, .string T] w fun e w' => e = .returned (.bool (L.contains T.data.toList)) ∧ w = w' := by
  have hc := indexS_any L v T w h
  obtain ⟨R, hR⟩ : ∃ R, R = L.contains T.data.toList := ⟨_, rfl⟩
  rw [← hR] at hc ⊢
  obtain ⟨sa, sc, hv, _⟩ := id h
  obtain ⟨sn, hsn⟩ : ∃ n, n = L.length := ⟨_, rfl⟩
  rw [← hsn] at hv
  subst hv
  have HC := Lib.hid hc
  clear hc hR hsn h
  go_enter Tryz.func80, Tryz.ntmps80
  go_wp2_with (go_at_call 116; refine (HC.out).mono ?_; rintro e w2 ⟨I, rfl, hI, rfl⟩)
  go_ret
  exact ⟨rfl, rfl⟩

set_option maxRecDepth 100000 in
set_option maxHeartbeats 2000000 in
theorem like2_any (T V X : ByteArray) (b1 o1 b2 o2 g n c : Nat) (hn : 0 < n) (hn2 : n ≤ 1000) (w : World) (hw : LaidW w) (h1 : w.cell? ⟨b1, o1, none⟩ = some (.string T)) (h2 : w.cell? ⟨b2, o2, none⟩ = some (.slice (some ⟨g, 0, none⟩) n c)) (h3 : w.cell? ⟨g, 1, none⟩ = some (.string V)) :
    Calls Tryz.prog 81 #[.string X, .pointer (some ⟨b1, o1, none⟩), .pointer (some ⟨b2, o2, none⟩)] w fun e w' => e = .returned (.bool (likeB T.data.toList V.data.toList X.data.toList)) ∧ Below w.heap.size w w' := by
  have hs := fun w hw => same_any T X V w hw
  unfold likeB
  generalize sameO (normD (ruleD T.data.toList) X.data.toList) (normD (ruleD T.data.toList) V.data.toList) = r at hs ⊢
  have HS := Lib.hid hs
  have HW : Hid (LaidW w.drew) := Lib.hid (hw.below (Below.refl _ _).drew)
  have t1 : (0 : Int) < (n : Int) := by omega
  clear hs hw
  go_enter Tryz.func81, Tryz.ntmps81
  go_wp2
  go_region_law (first
    | (go_simp; go_at_call 58; ((with_reducible refine (HS.out _ HW.out).mono ?_); rintro e w3 ⟨rfl, hb3⟩; have HB3 := Lib.hid hb3; clear hb3)))
  all_goals
    go_wp2
    go_ret
    exact ⟨rfl, (Below.refl _ _).drew.trans (HB3.out.mono (Nat.le_refl _))⟩

/-- IndexFunc with a question of isNamed's form. -/
theorem indexQ_any (p : List UInt8 → Bool) (L : List (List UInt8)) (v : Value) (b1 o1 b2 o2 : Nat) (w : World) (h : IsT w.heap.size w L v)
    (hp : ∀ (X : ByteArray) (W : World), Below w.heap.size w W → Calls Tryz.prog 81 #[.string X, .pointer (some ⟨b1, o1, none⟩), .pointer (some ⟨b2, o2, none⟩)] W fun e w' => e = .returned (.bool (p X.data.toList)) ∧ Below W.heap.size W w') :
    Calls Tryz.prog 94 #[v, .func (.func 81) #[] #[.pointer (some ⟨b1, o1, none⟩), .pointer (some ⟨b2, o2, none⟩)]] w fun e w' => ∃ I : Int, e = .returned (.int .i64 I) ∧ decide (0 ≤ I) = L.any p ∧ Below w.heap.size w w' := by
  obtain ⟨a, c, rfl, hm, hcell⟩ := h
  unfold maxLen at hm
  have HC := Lib.hid hcell
  have HP := Lib.hid hp
  clear hcell hp
  go_enter Tryz.func94, Tryz.ntmps94
  go_wp2
  go_loopw [8] (fun i wr => ∃ j : Nat, j ≤ L.length ∧ i = .int .i64 j ∧ Hid (∀ k (hk : k < L.length), k < j → p L[k] = false) ∧ Below w.heap.size w wr) (fun i wr => L.length - (intOf i).toNat)
  case atStart => exact ⟨0, by omega, rfl, Lib.hid (fun k _ h => absurd h (by omega)), Below.refl _ _⟩
  case round =>
    obtain ⟨j, hj, rfl, HNo, hbel⟩ := hrel
    have HBel := Lib.hid hbel
    have hbs := hbel.size
    by_cases hlt : j < L.length
    · have t1 : decide ((j : Int) < (L.length : Int)) = true := by simp; omega
      have t1' : decide (j < L.length) = true := by simpa using hlt
      obtain ⟨b, off, rfl, hb0, c0⟩ := HC.out j hlt
      obtain ⟨X, hX⟩ : ∃ X : ByteArray, ⟨L[j].toArray⟩ = X := ⟨_, rfl⟩
      have hXl : X.data.toList = L[j] := by rw [← hX]
      have d0 : (wr.cell? ⟨b, off + j, none⟩) = some (.string X) := by
        rw [hbel.cell (p := ⟨b, _, none⟩) hb0, c0, ← hX]; rfl
      have hab := HP.out X wr hbel
      rw [hXl] at hab
      obtain ⟨g, hg⟩ : ∃ g, p L[j] = g := ⟨_, rfl⟩
      rw [hg] at hab
      have HAb := Lib.hid hab
      have HG := Lib.hid hg
      clear hX hXl c0 hab hbel hg
      cases g with
      | true =>
        have HR : Hid (L.any p = true) := Lib.hid (List.any_eq_true.2 ⟨L[j], List.getElem_mem _, HG.out⟩)
        go_wp2_with (go_at_call 81; refine (HAb.out).mono ?_; rintro e w2 ⟨rfl, hb2⟩; have HB2 := Lib.hid (HBel.out.trans (hb2.mono hbs)); clear hb2)
        go_ret
        exact ⟨_, rfl, by rw [HR.out]; simp, HB2.out⟩
      | false =>
        have HN : Hid (∀ k (hk : k < L.length), k < j + 1 → p L[k] = false) := Lib.hid (fun k h1 h3 => by
            by_cases hk : k < j
            · exact HNo.out k h1 hk
            · obtain rfl : k = j := by omega
              exact HG.out)
        go_wp2_with (go_at_call 81; refine (HAb.out).mono ?_; rintro e w2 ⟨rfl, hb2⟩; have HB2 := Lib.hid (HBel.out.trans (hb2.mono hbs)); clear hb2)
        go_roundw
        case rel => exact ⟨j + 1, by omega, by go_num, HN, HB2.out⟩
        case measure => simp [intOf]; omega
    · obtain rfl : j = L.length := by omega
      have t1 : decide ((L.length : Int) < (L.length : Int)) = false := by simp
      have t1' : decide (L.length < L.length) = false := by simp
      have HR : Hid (L.any p = false) := Lib.hid (List.any_eq_false.2 (fun x hx => by
        obtain ⟨k, hk, rfl⟩ := List.getElem_of_mem hx
        simpa using HNo.out k hk hk))
      clear hbel
      go_wp2
      go_ret
      exact ⟨_, rfl, by rw [HR.out]; rfl, HBel.out⟩
set_option maxRecDepth 100000 in
set_option maxHeartbeats 2000000 in
theorem containsQ_any (p : List UInt8 → Bool) (L : List (List UInt8)) (v : Value) (b1 o1 b2 o2 : Nat) (w : World) (h : IsT w.heap.size w L v)
    (hp : ∀ (X : ByteArray) (W : World), Below w.heap.size w W → Calls Tryz.prog 81 #[.string X, .pointer (some ⟨b1, o1, none⟩), .pointer (some ⟨b2, o2, none⟩)] W fun e w' => e = .returned (.bool (p X.data.toList)) ∧ Below W.heap.size W w') :
    Calls Tryz.prog 56 #[v, .func (.func 81) #[] #[.pointer (some ⟨b1, o1, none⟩), .pointer (some ⟨b2, o2, none⟩)]] w fun e w' => e = .returned (.bool (L.any p)) ∧ Below w.heap.size w w' := by
  have hc := indexQ_any p L v b1 o1 b2 o2 w h hp
  obtain ⟨R, hR⟩ : ∃ R, R = L.any p := ⟨_, rfl⟩
  rw [← hR] at hc ⊢
  obtain ⟨sa, sc, hv, _⟩ := id h
  obtain ⟨sn, hsn⟩ : ∃ n, n = L.length := ⟨_, rfl⟩
  rw [← hsn] at hv
  subst hv
  have HC := Lib.hid hc
  clear hc hR hsn h hp
  go_enter Tryz.func56, Tryz.ntmps56
  go_wp2_with (go_at_call 94; refine (HC.out).mono ?_; rintro e w2 ⟨I, rfl, hI, hb2⟩; have HB2 := Lib.hid hb2; clear hb2)
  go_ret
  exact ⟨rfl, HB2.out⟩

/-- A box of one slice. -/
def Box1 (w : World) (b : Nat) (x : Value) : Prop := w.cell? ⟨b, 0, none⟩ = some x
theorem Box1.below {w w' : World} {b n : Nat} {x : Value} (h : Box1 w b x) (hb : Below n w w') (hn : b < n) : Box1 w' b x := (hb.cell (p := ⟨b, 0, none⟩) hn).trans h
theorem box1_new (w : World) (x : Value) (e : TypeId) : Box1 (w.alloc (.cells #[x] e)) w.heap.size x := by
  have h : (w.alloc (.cells #[x] e)).heap[w.heap.size]? = some (.cells #[x] e (0, 0)) := heap_alloc_new w _
  simp only [Box1, World.cell?, h]; rfl

set_option maxRecDepth 100000 in
set_option maxHeartbeats 4000000 in
theorem isNamed_any (L : List AT) (hs : L.length ≤ 900) (D : ByteArray) (hD : D.size ≤ 1000000) (r : R) (rs : List R) (hp : parseD D.data.toList = some (r :: rs)) (v : Value) (w : World) (hw : LaidW w) (h : IsA w.heap.size w L v) :
    Calls Tryz.prog 40 #[v, .string D] w fun e w' => e = .returned (.bool (namedD L D.data.toList)) ∧ Below w.heap.size w w' := by
  have hmf : ∀ (fn : Fn) (first cap : Array Value) (w : World), (Instr.makeFunc fn first cap).run Tryz.prog w = .ok (.func fn first cap) w := fun _ _ _ _ => rfl
  have hpa := parse_any D (by omega) w
  rw [hp] at hpa
  have hlen : (r :: rs).length ≤ 8 := by
    have := parse_ok hp
    unfold okL at this
    simp only [Bool.and_eq_true, decide_eq_true_eq] at this
    exact this.1
  obtain ⟨m, hm⟩ : ∃ m, m = (r :: rs).length := ⟨_, rfl⟩
  rw [← hm] at hlen
  have hm0 : 0 < m := by rw [hm]; simp
  obtain ⟨R0, hR0⟩ : ∃ R0, R0 = namedD L D.data.toList := ⟨_, rfl⟩
  rw [← hR0]
  unfold namedD at hR0
  rw [hp] at hR0
  simp only at hR0
  obtain ⟨X, hX⟩ : ∃ X : ByteArray, X = ⟨r.1.toArray⟩ := ⟨_, rfl⟩
  obtain ⟨V, hV⟩ : ∃ X : ByteArray, X = ⟨r.2.toArray⟩ := ⟨_, rfl⟩
  have hXl : X.data.toList = r.1 := by rw [hX]
  have hVl : V.data.toList = r.2 := by rw [hV]
  have hca := fun w => canon_any X w
  rw [hXl] at hca
  obtain ⟨T, ok, hT⟩ : ∃ (T : ByteArray) (ok : Bool), canonV (canonD r.1) = .tuple #[.string T, .bool ok] ∧ T.data.toList = (canonD r.1).getD [] := by
    cases canonD r.1 with
    | none => exact ⟨⟨#[]⟩, false, rfl, rfl⟩
    | some t => exact ⟨⟨t.toArray⟩, true, rfl, by simp⟩
  rw [hT.1] at hca
  rw [← hT.2, ← hVl] at hR0
  have hR1 : R0 = (valsS L T.data.toList).any (likeB T.data.toList V.data.toList) := hR0
  have HR1 := Lib.hid hR1
  have HCa := Lib.hid hca
  have HPa := Lib.hid hpa
  have HM := Lib.hid hm
  have HXX := Lib.hid hX
  have HVV := Lib.hid hV
  have HI := Lib.hid h
  have HW := Lib.hid hw
  obtain ⟨sa, sc, hv, _⟩ := id h
  obtain ⟨sn, hsn⟩ : ∃ n, n = L.length := ⟨_, rfl⟩
  rw [← hsn] at hv
  subst hv
  clear h hsn hw hX hV hXl hVl hca hT hR1 hR0 hpa hm hp
  have t0 : (0 : Int) < (m : Int) := by omega
  have t0' : decide ((0 : Int) < (m : Int)) = true := by simp; omega
  go_enter Tryz.func40, Tryz.ntmps40
  go_wp2_with (first
    | (go_at_call 71; refine (HPa.out).mono ?_; rintro e w2 ⟨hb2, pv, rfl, hown⟩; (obtain ⟨g, gc, hgv, hgB, hgs, hcells⟩ := ownR_at hown (by simp)); (rw [← HM.out] at hgv); subst hgv; have c0 : w2.cell? ⟨g, 0, none⟩ = some (.string X) := by { have := (hcells 0 (by simp)).1; simpa [strV, HXX.out] using this }; have c1 : w2.cell? ⟨g, 1, none⟩ = some (.string V) := by { have := (hcells 0 (by simp)).2; simpa [strV, HVV.out] using this }; have HB2 := Lib.hid hb2; have HA2 := Lib.hid ((Below.refl w2.heap.size w2).alloc (Nat.le_refl _) (.cells #[.slice (some ⟨g, 0, none⟩) m gc] 67)); have hx0 : (w2.alloc (.cells #[.slice (some ⟨g, 0, none⟩) m gc] 67)).cell? ⟨g, 0, none⟩ = some (.string X) := (HA2.out.cell (p := ⟨g, 0, none⟩) hgs).trans c0; have HBx := Lib.hid (box1_new w2 (.slice (some ⟨g, 0, none⟩) m gc) 67); clear hb2 hown hcells c0)
    | (go_at_call 74; refine (HCa.out _).mono ?_; rintro e w3 ⟨rfl, hb3⟩; have hz3 := hb3.size; (simp only [World.size_alloc] at hz3); have HB3 := Lib.hid ((bthen HB2.out HA2.out).trans (hb3.mono (by have := HB2.out.size; simp; omega))); have HX3 := Lib.hid (HBx.out.below hb3 (by simp)); have HV3 : Hid (w3.cell? ⟨g, 1, none⟩ = some (.string V)) := Lib.hid ((hb3.cell (p := ⟨g, 1, none⟩) (show g < _ by simp; omega)).trans ((HA2.out.cell (p := ⟨g, 1, none⟩) hgs).trans c1)); have HA3 := Lib.hid ((Below.refl w3.heap.size w3).alloc (Nat.le_refl _) (.cells #[.string T] 9)); have HBt := Lib.hid (box1_new w3 (.string T) 9); clear hb3)
    | (go_at_call 78; refine (valsOf_any L (by omega) (.slice sa sn sc) T _ (HI.out.below (bthen HB3.out HA3.out) (Nat.le_trans HB3.out.size HA3.out.size))).mono ?_; rintro e w4 ⟨u, rfl, hu, hb4⟩; have hz4 := hb4.size; (simp only [World.size_alloc] at hz4); have HU := Lib.hid (hu.below hb4 hb4.size); have HB4 := Lib.hid (bthen (bthen HB3.out HA3.out) hb4); have HX4 := Lib.hid ((HX3.out.below HA3.out (by omega)).below hb4 (by simp; omega)); have HT4 := Lib.hid (HBt.out.below hb4 (by simp)); have HV4 := Lib.hid ((hb4.cell (p := ⟨g, 1, none⟩) (show g < _ by simp; omega)).trans ((HA3.out.cell (p := ⟨g, 1, none⟩) (show g < w3.heap.size by omega)).trans HV3.out)); clear hu hb4)
    | (go_at_call 56; refine (containsQ_any (likeB T.data.toList V.data.toList) _ _ w3.heap.size 0 w2.heap.size 0 _ HU.out (fun Y W hbW => like2_any T V Y w3.heap.size 0 w2.heap.size 0 g m gc hm0 (by omega) W (HW.out.below (bthen HB4.out hbW)) (HT4.out.below hbW (by omega)) (HX4.out.below hbW (by omega)) ((hbW.cell (p := ⟨g, 1, none⟩) (show g < w4.heap.size by omega)).trans HV4.out))).mono ?_; rintro e w5 ⟨rfl, hb5⟩; have HB5 := Lib.hid (bthen HB4.out hb5); clear hb5))
  go_ret
  exact ⟨by rw [HR1.out]; rfl, HB5.out⟩
end Go.Proofs.YtofmpaphafhdpaaGreatDoor
