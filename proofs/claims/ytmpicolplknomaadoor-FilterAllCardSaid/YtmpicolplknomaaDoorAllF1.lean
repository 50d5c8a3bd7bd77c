/- Several texts in one file: FiRQuo, FiRTxL, FiRTxt, FiTextW, FiMany, FiOnQ. -/
import Derived.Test.YtmpicolplknomaaDoorRefText
import Derived.Test.YtmpicolplknomaaDoorFiRead
import Derived.Test.YtmpicolplknomaaDoorFiRMay
import Derived.Test.YtmpicolplknomaaDoorFiWrite
import Derived.Test.YtmpicolplknomaaDoorFiOnP
/- The document's quoted: the walk. -/
namespace Go.Proofs.YtmpicolplknomaaDoor
open Go.RowKit
set_option linter.unusedVariables false
set_option linter.unusedSimpArgs false

theorem quoC_lenQ (c : UInt8) : (quoC c).length ≤ 3 := by unfold quoC; split <;> simp
theorem quo_lenQ : ∀ v : List UInt8, (quo v).length ≤ 3 * v.length
  | [] => by simp [quo]
  | c :: r => by
    have := quoC_lenQ c
    have := quo_lenQ r
    simp only [quo, List.length_append, List.length_cons]; omega
def plainIn (c : UInt8) : Bool := plainC c == (decide (32 ≤ c.toNat) && decide (c.toNat ≤ 126) && !([42, 40, 41, 92] : List UInt8).contains c)
theorem plain_in (c : UInt8) : plainC c = (decide (32 ≤ c.toNat) && decide (c.toNat ≤ 126) && !([42, 40, 41, 92] : List UInt8).contains c) := by
  have := all_bytes plainIn (by decide +kernel) c
  unfold plainIn at this
  simpa using this
def OutQ (s : ByteArray) (j : Nat) (x : Value) : Prop := ∃ E, x = .string (ofL E) ∧ E ++ quo (s.data.toList.drop j) = quo s.data.toList
set_option maxRecDepth 100000 in
set_option maxHeartbeats 4000000 in
theorem quoted_any (s : ByteArray) (hs : s.size ≤ 1000000) (w : World) :
    Calls Tryd.prog 38 #[.string s] w fun e w' => e = .returned (.string (ofL (quo s.data.toList))) ∧ ∃ n, w' = w.drewN n := by
  go_enter Tryd.func38, Tryd.ntmps38
  go_wp2
  go_loopw [3, 4] (fun x i wr => ∃ j : Nat, j ≤ s.size ∧ i = .int .i64 j ∧ OutQ s j x ∧ ∃ n, w.drewN n = wr) (fun _ i _ => s.size - (intOf i).toNat)
  case atStart => exact ⟨0, by omega, rfl, ⟨[], rfl, rfl⟩, 0, rfl⟩
  case round =>
    obtain ⟨j, hj, rfl, ⟨E, rfl, hE⟩, n, rfl⟩ := hrel
    by_cases hlt : j < s.size
    · have t1 : decide ((j : Int) < (s.size : Int)) = true := by simp; omega
      have hjl : j < s.data.toList.length := by rw [bytes_len]; exact hlt
      obtain ⟨c, hc⟩ : ∃ c : UInt8, c = s[j] := ⟨_, rfl⟩
      have hc' : s[j]'hlt = c := hc.symm
      have hcl := c.toNat_lt
      have hd : s.data.toList.drop j = c :: s.data.toList.drop (j + 1) := by rw [List.drop_eq_getElem_cons hjl]; rw [hc]; rfl
      have hn : OutQ s (j + 1) (.string (ofL (E ++ quoC c))) := ⟨_, rfl, by rw [← hE, hd, List.append_assoc]; rfl⟩
      have hEl : E.length ≤ 3000000 := by
        have h1 := congrArg List.length hE
        rw [List.length_append] at h1
        have h2 := quo_lenQ s.data.toList
        rw [bytes_len] at h2
        omega
      obtain ⟨A, hA⟩ : ∃ A, A = ofL E := ⟨_, rfl⟩
      have hAs : A.size ≤ 3000000 := by rw [hA, ofL_size]; exact hEl
      have htw := fun w => two_any c w
      obtain ⟨Z, hZ⟩ : ∃ Z, Z = ofL [92, digL (c.toNat / 16), digL (c.toNat % 16)] := ⟨_, rfl⟩
      have hZs : Z.size = 3 := by rw [hZ, ofL_size]; rfl
      simp only [← hZ] at htw
      have HT := Lib.hid htw
      have q1 : A.size + Z.size ≤ 9223372036854775807 := by omega
      have hin := fun w => inRef_any ⟨#[42, 40, 41, 92]⟩ c w (by decide)
      obtain ⟨M, hM⟩ : ∃ M, M = ([42, 40, 41, 92] : List UInt8).contains c := ⟨_, rfl⟩
      have hMx : (⟨#[42, 40, 41, 92]⟩ : ByteArray).data.toList.contains c = M := hM.symm
      simp only [hMx] at hin
      have HIn := Lib.hid hin
      have hpl : plainC c = (decide (32 ≤ c.toNat) && decide (c.toNat ≤ 126) && !M) := by rw [hM]; exact plain_in c
      rw [← hA]
      by_cases h1 : c.toNat < 32
      · have t2 : decide ((c.toNat : Int) < 32) = true := by simp; omega
        have hq : quoC c = [92, digL (c.toNat / 16), digL (c.toNat % 16)] := by unfold quoC; rw [if_neg (by rw [hpl]; simp; omega)]
        rw [hq, ← ofL_app, ← hA, ← hZ] at hn
        have HN := Lib.hid hn
        clear hE hEl hn htw hZ hZs hA hd hc hq hpl hin hMx hM hjl
        go_wp2_with (go_at_call 55; refine (HT.out _).mono ?_; rintro e w2 ⟨rfl, n2, rfl⟩)
        exact ⟨⟨j + 1, by omega, by go_num, HN.out, _, rfl⟩, by simp [intOf]; omega⟩
      · have t2 : decide ((c.toNat : Int) < 32) = false := by simp; omega
        by_cases h2 : 126 < c.toNat
        · have t3 : decide ((126 : Int) < (c.toNat : Int)) = true := by simp; omega
          have hq : quoC c = [92, digL (c.toNat / 16), digL (c.toNat % 16)] := by unfold quoC; rw [if_neg (by rw [hpl]; simp; omega)]
          rw [hq, ← ofL_app, ← hA, ← hZ] at hn
          have HN := Lib.hid hn
          clear hE hEl hn htw hZ hZs hA hd hc hq hpl hin hMx hM hjl
          go_wp2_with (go_at_call 55; refine (HT.out _).mono ?_; rintro e w2 ⟨rfl, n2, rfl⟩)
          exact ⟨⟨j + 1, by omega, by go_num, HN.out, _, rfl⟩, by simp [intOf]; omega⟩
        · have t3 : decide ((126 : Int) < (c.toNat : Int)) = false := by simp; omega
          cases M with
          | true =>
            have hq : quoC c = [92, digL (c.toNat / 16), digL (c.toNat % 16)] := by unfold quoC; rw [if_neg (by rw [hpl]; simp)]
            rw [hq, ← ofL_app, ← hA, ← hZ] at hn
            have HN := Lib.hid hn
            clear hE hEl hn htw hZ hZs hA hd hc hq hpl hin hMx hM hjl
            go_wp2_with (first
              | (go_at_call 54; refine (HIn.out _).mono ?_; rintro e w2 ⟨rfl, rfl⟩)
              | (go_at_call 55; refine (HT.out _).mono ?_; rintro e w2 ⟨rfl, n2, rfl⟩))
            exact ⟨⟨j + 1, by omega, by go_num, HN.out, _, rfl⟩, by simp [intOf]; omega⟩
          | false =>
            have hq : quoC c = [c] := by unfold quoC; rw [if_pos (by rw [hpl]; simp; omega)]
            have hone := one_byte s j hlt
            have hos := one_size s j hlt
            obtain ⟨O, hO⟩ : ∃ O, s.extract j (j + 1) = O := ⟨_, rfl⟩
            rw [hO] at hone hos
            rw [show s[j] = c from hc'] at hone
            have hOe : O = ofL [c] := bytes_ext (by rw [hone, ofL_list])
            rw [hq, ← ofL_app, ← hA, ← hOe] at hn
            have q2 : A.size + O.size ≤ 9223372036854775807 := by omega
            have q0 : (j : Int) + 1 ≤ (s.size : Int) := by omega
            have HN := Lib.hid hn
            clear hE hEl hn htw hZ hZs hA hd hc hq hpl hin hMx hM hjl hone hOe
            go_wp2_with (go_at_call 54; refine (HIn.out _).mono ?_; rintro e w2 ⟨rfl, rfl⟩)
            exact ⟨⟨j + 1, by omega, by go_num, HN.out, _, rfl⟩, by simp [intOf]; omega⟩
    · obtain rfl : j = s.size := by omega
      have t1 : decide ((s.size : Int) < (s.size : Int)) = false := by simp
      have hE2 : E = quo s.data.toList := by
        rw [List.drop_of_length_le (by rw [bytes_len]; omega)] at hE
        simpa [quo] using hE
      have HE := Lib.hid hE2
      clear hE hE2
      go_wp2
      go_ret
      exact ⟨by rw [HE.out]; rfl, n, rfl⟩
end Go.Proofs.YtmpicolplknomaaDoor

/- The document's text, TextFilter: the walks. -/
namespace Go.Proofs.YtmpicolplknomaaDoor
open Go.RowKit
set_option linter.unusedVariables false
set_option linter.unusedSimpArgs false

theorem star_snoc : ∀ (q : List (List UInt8)) (x : List UInt8), q ≠ [] → starJ (q ++ [x]) = starJ q ++ 42 :: quo x
  | [], _, h => absurd rfl h
  | [y], x, _ => rfl
  | y :: z :: q, x, _ => by
    have := star_snoc (z :: q) x (by simp)
    show quo y ++ 42 :: starJ (z :: q ++ [x]) = _
    rw [this]
    show _ = (quo y ++ 42 :: starJ (z :: q)) ++ 42 :: quo x
    simp
theorem textFs_snoc (l : List FT) (f : FT) : textFs (l ++ [f]) = textFs l ++ textF f := by rw [textFs_append]; simp [textFs]
theorem textFs_take (l : List FT) (j : Nat) : (textFs (l.take j)).length ≤ (textFs l).length := by
  have h := textFs_append (l.take j) (l.drop j)
  rw [List.take_append_drop] at h
  rw [h, List.length_append]
  omega
theorem star_take (p : List (List UInt8)) : ∀ j, (starJ (p.take j)).length ≤ (starJ p).length := by
  have h2 : ∀ (a b : List (List UInt8)), (starJ a).length ≤ (starJ (a ++ b)).length := by
    intro a
    induction a with
    | nil => intro b; simp [starJ]
    | cons x a ih =>
      intro b
      cases a with
      | nil =>
        cases b with
        | nil => simp
        | cons y b => simp [starJ]
      | cons y a =>
        have := ih b
        simp only [List.cons_append, starJ, List.length_append, List.length_cons] at this ⊢
        omega
  intro j
  have := h2 (p.take j) (p.drop j)
  rwa [List.take_append_drop] at this
/-- What text tells, of filters that may be, so deep. -/
def TextsR (d : Nat) : Prop := ∀ (f : FT) (v : Value) (w : World), mayF d f = true → IsFl (Lt w) w f v → (textF f).length ≤ 900000000 →
  Calls Tryd.prog 21 #[v] w fun e w' => e = .returned (.string (ofL (textF f))) ∧ Below w.heap.size w w'
theorem quoted_below (s : ByteArray) (hs : s.size ≤ 1000000) (w : World) :
    Calls Tryd.prog 38 #[.string s] w fun e w' => e = .returned (.string (ofL (quo s.data.toList))) ∧ Below w.heap.size w w' :=
  (quoted_any s hs w).mono (by rintro e w' ⟨rfl, m, rfl⟩; exact ⟨rfl, below_drewN (Below.refl _ _) m⟩)

set_option maxRecDepth 100000 in
set_option maxHeartbeats 8000000 in
theorem textL4 (T X : ByteArray) (hT : T.size ≤ 1000) (hX : X.size ≤ 1000) (pa ka : Option Addr) (pc kc m q : Nat) (hq : q = 0) (w : World) :
    Calls Tryd.prog 21 #[.agg #[.int .i64 4, .string T, .string X, .slice pa m pc, .slice ka q kc]] w fun e w' => e = .returned (.string (ofL (40 :: (T.data.toList ++ ([61] ++ (quo X.data.toList ++ [41])))))) ∧ Below w.heap.size w w' := by
  subst hq
  obtain ⟨W0, hW0⟩ : ∃ W, W = w.alloc (.cells #[.int .i64 4, .string T, .string X, .slice pa m pc, .slice ka 0 kc] 25) := ⟨_, rfl⟩
  have hb0 : Below w.heap.size w W0 := by rw [hW0]; exact box5 w _ _ _ _ _
  have hx0 : FlAt W0 w.heap.size (.int .i64 4) (.string T) (.string X) (.slice pa m pc) (.slice ka 0 kc) := by rw [hW0]; exact heap_alloc_new w _
  obtain ⟨c0, c1, c2, c3, c4⟩ := fl_cells hx0
  have HW0 := Lib.hid hW0.symm
  have HB0 := Lib.hid hb0
  have HX0 := Lib.hid hx0
  clear hb0 hx0 hW0
  obtain ⟨S1, h1⟩ : ∃ S, (⟨#[40]⟩ : ByteArray) ++ T = S := ⟨_, rfl⟩
  obtain ⟨S2, h2⟩ : ∃ S, S1 ++ (⟨#[61]⟩ : ByteArray) = S := ⟨_, rfl⟩
  obtain ⟨Q, hQ⟩ : ∃ Q, Q = ofL (quo X.data.toList) := ⟨_, rfl⟩
  obtain ⟨S3, h3⟩ : ∃ S, S2 ++ Q = S := ⟨_, rfl⟩
  obtain ⟨S4, h4⟩ : ∃ S, S3 ++ (⟨#[41]⟩ : ByteArray) = S := ⟨_, rfl⟩
  have z1 : S1.size = 1 + T.size := by rw [← h1, ByteArray.size_append]; rfl
  have z2 : S2.size = S1.size + 1 := by rw [← h2, ByteArray.size_append]; rfl
  have zQ : Q.size ≤ 3000 := by rw [hQ, ofL_size]; have := quo_lenQ X.data.toList; rw [bytes_len] at this; omega
  have z3 : S3.size = S2.size + Q.size := by rw [← h3, ByteArray.size_append]
  have hR : ofL (40 :: (T.data.toList ++ ([61] ++ (quo X.data.toList ++ [41])))) = S4 := bytes_ext (by rw [← h4, ← h3, ← h2, ← h1, hQ]; simp [ofL_list, app_list])
  have hqt := fun W => quoted_any X (by omega) W
  rw [← hQ] at hqt
  rw [hR]
  have HQt := Lib.hid hqt
  have b1 : 1 + T.size ≤ 9223372036854775807 := by omega
  have b2 : S1.size + 1 ≤ 9223372036854775807 := by omega
  have b3 : S2.size + Q.size ≤ 9223372036854775807 := by omega
  have b4 : S3.size + 1 ≤ 9223372036854775807 := by omega
  have HZ := Lib.hid (And.intro z1 (And.intro z2 z3))
  have x1 : (9223372036854775807 < 1 + T.size) = False := by simp; omega
  have x2 : (9223372036854775807 < S1.size + 1) = False := by simp; omega
  have x3 : (9223372036854775807 < S2.size + Q.size) = False := by simp; omega
  clear hR hqt hQ z1 z2 z3 zQ
  go_enter Tryd.func21, Tryd.ntmps21
  go_upto_region 1 with (fail)
  rw [HW0.out]
  go_wp2
  go_quiet ((go_at_call 38; refine Calls.quiet_of (HQt.out _)))
  obtain ⟨wq, hwq⟩ : ∃ W, W = W0.drewN nq := ⟨_, rfl⟩
  rw [← hwq]
  have hbq : Below W0.heap.size W0 wq := by rw [hwq]; exact below_drewN2 (Below.refl _ _) _
  obtain ⟨d0, d1, d2, d3, d4⟩ := fl_cells (fl_below HX0.out hbq (fl_lt HX0.out))
  have HBq := Lib.hid (bthen HB0.out hbq)
  clear hwq hbq nq c0 c1 c2 c3 c4
  go_wp2
  go_loop [3, 5] (fun x i => x = .string S3 ∧ i = .int .i64 0) (fun _ _ => 0)
  case atStart => exact ⟨rfl, rfl⟩
  case round =>
    obtain ⟨rfl, rfl⟩ := hrel
    go_wp2
    go_ret
    exact ⟨rfl, HBq.out⟩
set_option maxRecDepth 100000 in
set_option maxHeartbeats 8000000 in
theorem textL6 (T X : ByteArray) (hT : T.size ≤ 1000) (hX : X.size ≤ 1000) (pa ka : Option Addr) (pc kc m q : Nat) (hq : q = 0) (w : World) :
    Calls Tryd.prog 21 #[.agg #[.int .i64 6, .string T, .string X, .slice pa m pc, .slice ka q kc]] w fun e w' => e = .returned (.string (ofL (40 :: (T.data.toList ++ ([62, 61] ++ (quo X.data.toList ++ [41])))))) ∧ Below w.heap.size w w' := by
  subst hq
  obtain ⟨W0, hW0⟩ : ∃ W, W = w.alloc (.cells #[.int .i64 6, .string T, .string X, .slice pa m pc, .slice ka 0 kc] 25) := ⟨_, rfl⟩
  have hb0 : Below w.heap.size w W0 := by rw [hW0]; exact box5 w _ _ _ _ _
  have hx0 : FlAt W0 w.heap.size (.int .i64 6) (.string T) (.string X) (.slice pa m pc) (.slice ka 0 kc) := by rw [hW0]; exact heap_alloc_new w _
  obtain ⟨c0, c1, c2, c3, c4⟩ := fl_cells hx0
  have HW0 := Lib.hid hW0.symm
  have HB0 := Lib.hid hb0
  have HX0 := Lib.hid hx0
  clear hb0 hx0 hW0
  obtain ⟨S1, h1⟩ : ∃ S, (⟨#[40]⟩ : ByteArray) ++ T = S := ⟨_, rfl⟩
  obtain ⟨S2, h2⟩ : ∃ S, S1 ++ (⟨#[62, 61]⟩ : ByteArray) = S := ⟨_, rfl⟩
  obtain ⟨Q, hQ⟩ : ∃ Q, Q = ofL (quo X.data.toList) := ⟨_, rfl⟩
  obtain ⟨S3, h3⟩ : ∃ S, S2 ++ Q = S := ⟨_, rfl⟩
  obtain ⟨S4, h4⟩ : ∃ S, S3 ++ (⟨#[41]⟩ : ByteArray) = S := ⟨_, rfl⟩
  have z1 : S1.size = 1 + T.size := by rw [← h1, ByteArray.size_append]; rfl
  have z2 : S2.size = S1.size + 2 := by rw [← h2, ByteArray.size_append]; rfl
  have zQ : Q.size ≤ 3000 := by rw [hQ, ofL_size]; have := quo_lenQ X.data.toList; rw [bytes_len] at this; omega
  have z3 : S3.size = S2.size + Q.size := by rw [← h3, ByteArray.size_append]
  have hR : ofL (40 :: (T.data.toList ++ ([62, 61] ++ (quo X.data.toList ++ [41])))) = S4 := bytes_ext (by rw [← h4, ← h3, ← h2, ← h1, hQ]; simp [ofL_list, app_list])
  have hqt := fun W => quoted_any X (by omega) W
  rw [← hQ] at hqt
  rw [hR]
  have HQt := Lib.hid hqt
  have b1 : 1 + T.size ≤ 9223372036854775807 := by omega
  have b2 : S1.size + 2 ≤ 9223372036854775807 := by omega
  have b3 : S2.size + Q.size ≤ 9223372036854775807 := by omega
  have b4 : S3.size + 1 ≤ 9223372036854775807 := by omega
  have HZ := Lib.hid (And.intro z1 (And.intro z2 z3))
  have x1 : (9223372036854775807 < 1 + T.size) = False := by simp; omega
  have x2 : (9223372036854775807 < S1.size + 2) = False := by simp; omega
  have x3 : (9223372036854775807 < S2.size + Q.size) = False := by simp; omega
  clear hR hqt hQ z1 z2 z3 zQ
  go_enter Tryd.func21, Tryd.ntmps21
  go_upto_region 1 with (fail)
  rw [HW0.out]
  go_wp2
  go_quiet ((go_at_call 38; refine Calls.quiet_of (HQt.out _)))
  obtain ⟨wq, hwq⟩ : ∃ W, W = W0.drewN nq := ⟨_, rfl⟩
  rw [← hwq]
  have hbq : Below W0.heap.size W0 wq := by rw [hwq]; exact below_drewN2 (Below.refl _ _) _
  obtain ⟨d0, d1, d2, d3, d4⟩ := fl_cells (fl_below HX0.out hbq (fl_lt HX0.out))
  have HBq := Lib.hid (bthen HB0.out hbq)
  clear hwq hbq nq c0 c1 c2 c3 c4
  go_wp2
  go_loop [3, 5] (fun x i => x = .string S3 ∧ i = .int .i64 0) (fun _ _ => 0)
  case atStart => exact ⟨rfl, rfl⟩
  case round =>
    obtain ⟨rfl, rfl⟩ := hrel
    go_wp2
    go_ret
    exact ⟨rfl, HBq.out⟩
set_option maxRecDepth 100000 in
set_option maxHeartbeats 8000000 in
theorem textL7 (T X : ByteArray) (hT : T.size ≤ 1000) (hX : X.size ≤ 1000) (pa ka : Option Addr) (pc kc m q : Nat) (hq : q = 0) (w : World) :
    Calls Tryd.prog 21 #[.agg #[.int .i64 7, .string T, .string X, .slice pa m pc, .slice ka q kc]] w fun e w' => e = .returned (.string (ofL (40 :: (T.data.toList ++ ([60, 61] ++ (quo X.data.toList ++ [41])))))) ∧ Below w.heap.size w w' := by
  subst hq
  obtain ⟨W0, hW0⟩ : ∃ W, W = w.alloc (.cells #[.int .i64 7, .string T, .string X, .slice pa m pc, .slice ka 0 kc] 25) := ⟨_, rfl⟩
  have hb0 : Below w.heap.size w W0 := by rw [hW0]; exact box5 w _ _ _ _ _
  have hx0 : FlAt W0 w.heap.size (.int .i64 7) (.string T) (.string X) (.slice pa m pc) (.slice ka 0 kc) := by rw [hW0]; exact heap_alloc_new w _
  obtain ⟨c0, c1, c2, c3, c4⟩ := fl_cells hx0
  have HW0 := Lib.hid hW0.symm
  have HB0 := Lib.hid hb0
  have HX0 := Lib.hid hx0
  clear hb0 hx0 hW0
  obtain ⟨S1, h1⟩ : ∃ S, (⟨#[40]⟩ : ByteArray) ++ T = S := ⟨_, rfl⟩
  obtain ⟨S2, h2⟩ : ∃ S, S1 ++ (⟨#[60, 61]⟩ : ByteArray) = S := ⟨_, rfl⟩
  obtain ⟨Q, hQ⟩ : ∃ Q, Q = ofL (quo X.data.toList) := ⟨_, rfl⟩
  obtain ⟨S3, h3⟩ : ∃ S, S2 ++ Q = S := ⟨_, rfl⟩
  obtain ⟨S4, h4⟩ : ∃ S, S3 ++ (⟨#[41]⟩ : ByteArray) = S := ⟨_, rfl⟩
  have z1 : S1.size = 1 + T.size := by rw [← h1, ByteArray.size_append]; rfl
  have z2 : S2.size = S1.size + 2 := by rw [← h2, ByteArray.size_append]; rfl
  have zQ : Q.size ≤ 3000 := by rw [hQ, ofL_size]; have := quo_lenQ X.data.toList; rw [bytes_len] at this; omega
  have z3 : S3.size = S2.size + Q.size := by rw [← h3, ByteArray.size_append]
  have hR : ofL (40 :: (T.data.toList ++ ([60, 61] ++ (quo X.data.toList ++ [41])))) = S4 := bytes_ext (by rw [← h4, ← h3, ← h2, ← h1, hQ]; simp [ofL_list, app_list])
  have hqt := fun W => quoted_any X (by omega) W
  rw [← hQ] at hqt
  rw [hR]
  have HQt := Lib.hid hqt
  have b1 : 1 + T.size ≤ 9223372036854775807 := by omega
  have b2 : S1.size + 2 ≤ 9223372036854775807 := by omega
  have b3 : S2.size + Q.size ≤ 9223372036854775807 := by omega
  have b4 : S3.size + 1 ≤ 9223372036854775807 := by omega
  have HZ := Lib.hid (And.intro z1 (And.intro z2 z3))
  have x1 : (9223372036854775807 < 1 + T.size) = False := by simp; omega
  have x2 : (9223372036854775807 < S1.size + 2) = False := by simp; omega
  have x3 : (9223372036854775807 < S2.size + Q.size) = False := by simp; omega
  clear hR hqt hQ z1 z2 z3 zQ
  go_enter Tryd.func21, Tryd.ntmps21
  go_upto_region 1 with (fail)
  rw [HW0.out]
  go_wp2
  go_quiet ((go_at_call 38; refine Calls.quiet_of (HQt.out _)))
  obtain ⟨wq, hwq⟩ : ∃ W, W = W0.drewN nq := ⟨_, rfl⟩
  rw [← hwq]
  have hbq : Below W0.heap.size W0 wq := by rw [hwq]; exact below_drewN2 (Below.refl _ _) _
  obtain ⟨d0, d1, d2, d3, d4⟩ := fl_cells (fl_below HX0.out hbq (fl_lt HX0.out))
  have HBq := Lib.hid (bthen HB0.out hbq)
  clear hwq hbq nq c0 c1 c2 c3 c4
  go_wp2
  go_loop [3, 5] (fun x i => x = .string S3 ∧ i = .int .i64 0) (fun _ _ => 0)
  case atStart => exact ⟨rfl, rfl⟩
  case round =>
    obtain ⟨rfl, rfl⟩ := hrel
    go_wp2
    go_ret
    exact ⟨rfl, HBq.out⟩
end Go.Proofs.YtmpicolplknomaaDoor

/- The document's text, TextFilter: the walks. -/
namespace Go.Proofs.YtmpicolplknomaaDoor
open Go.RowKit
set_option linter.unusedVariables false
set_option linter.unusedSimpArgs false

set_option maxRecDepth 100000 in
set_option maxHeartbeats 8000000 in
theorem textL8 (T X : ByteArray) (hT : T.size ≤ 1000) (pa ka : Option Addr) (pc kc m q : Nat) (hq : q = 0) (w : World) :
    Calls Tryd.prog 21 #[.agg #[.int .i64 8, .string T, .string X, .slice pa m pc, .slice ka q kc]] w fun e w' => e = .returned (.string (ofL (40 :: (T.data.toList ++ ([61, 42] ++ [41]))))) ∧ Below w.heap.size w w' := by
  subst hq
  obtain ⟨W0, hW0⟩ : ∃ W, W = w.alloc (.cells #[.int .i64 8, .string T, .string X, .slice pa m pc, .slice ka 0 kc] 25) := ⟨_, rfl⟩
  have hb0 : Below w.heap.size w W0 := by rw [hW0]; exact box5 w _ _ _ _ _
  have hx0 : FlAt W0 w.heap.size (.int .i64 8) (.string T) (.string X) (.slice pa m pc) (.slice ka 0 kc) := by rw [hW0]; exact heap_alloc_new w _
  obtain ⟨c0, c1, c2, c3, c4⟩ := fl_cells hx0
  have HW0 := Lib.hid hW0.symm
  have HB0 := Lib.hid hb0
  have HX0 := Lib.hid hx0
  clear hb0 hx0 hW0
  obtain ⟨S1, h1⟩ : ∃ S, (⟨#[40]⟩ : ByteArray) ++ T = S := ⟨_, rfl⟩
  obtain ⟨S2, h2⟩ : ∃ S, S1 ++ (⟨#[61, 42]⟩ : ByteArray) = S := ⟨_, rfl⟩
  obtain ⟨S4, h4⟩ : ∃ S, S2 ++ (⟨#[41]⟩ : ByteArray) = S := ⟨_, rfl⟩
  have z1 : S1.size = 1 + T.size := by rw [← h1, ByteArray.size_append]; rfl
  have z2 : S2.size = S1.size + 2 := by rw [← h2, ByteArray.size_append]; rfl
  have hR : ofL (40 :: (T.data.toList ++ ([61, 42] ++ [41]))) = S4 := bytes_ext (by rw [← h4, ← h2, ← h1]; simp [ofL_list, app_list])
  rw [hR]
  have b1 : 1 + T.size ≤ 9223372036854775807 := by omega
  have b2 : S1.size + 2 ≤ 9223372036854775807 := by omega
  have b4 : S2.size + 1 ≤ 9223372036854775807 := by omega
  clear hR z1 z2
  go_enter Tryd.func21, Tryd.ntmps21
  go_upto_region 1 with (fail)
  rw [HW0.out]
  go_wp2
  go_loop [3, 5] (fun x i => x = .string S2 ∧ i = .int .i64 0) (fun _ _ => 0)
  case atStart => exact ⟨rfl, rfl⟩
  case round =>
    obtain ⟨rfl, rfl⟩ := hrel
    go_wp2
    go_ret
    exact ⟨rfl, HB0.out⟩
/-- What has been written of the parts. -/
def OutP (T : ByteArray) (p : List (List UInt8)) (j : Nat) (x : Value) : Prop := ∃ E : ByteArray, x = .string E ∧ E.data.toList = 40 :: (T.data.toList ++ 61 :: starJ (p.take j)) ∧ E.size ≤ 10000000
theorem outP_len {T : ByteArray} {p : List (List UInt8)} (hT : T.size ≤ 1000) (hp : (starJ p).length ≤ 9000000) (j : Nat) : (40 :: (T.data.toList ++ 61 :: starJ (p.take j))).length ≤ 9100000 := by
  have := star_take p j
  simp
  omega
set_option maxRecDepth 100000 in
set_option maxHeartbeats 8000000 in
theorem textL5 (T X : ByteArray) (hT : T.size ≤ 1000) (p : List (List UInt8)) (hpl : ∀ x ∈ p, x.length ≤ 1000) (hps : (starJ p).length ≤ 9000000) (pa ka : Option Addr) (pc kc m q : Nat) (hq : q = 0) (hm : m = p.length) (w : World) (hp : IsTo (Lt w) w p (.slice pa m pc)) :
    Calls Tryd.prog 21 #[.agg #[.int .i64 5, .string T, .string X, .slice pa m pc, .slice ka q kc]] w fun e w' => e = .returned (.string (ofL (40 :: (T.data.toList ++ 61 :: (starJ p ++ [41]))))) ∧ Below w.heap.size w w' := by
  subst hq
  have hmm : m ≤ maxLen := by rw [hm]; exact hp.choose_spec.choose_spec.2.1
  unfold maxLen at hmm
  obtain ⟨W0, hW0⟩ : ∃ W, W = w.alloc (.cells #[.int .i64 5, .string T, .string X, .slice pa m pc, .slice ka 0 kc] 25) := ⟨_, rfl⟩
  have hb0 : Below w.heap.size w W0 := by rw [hW0]; exact box5 w _ _ _ _ _
  have hx0 : FlAt W0 w.heap.size (.int .i64 5) (.string T) (.string X) (.slice pa m pc) (.slice ka 0 kc) := by rw [hW0]; exact heap_alloc_new w _
  obtain ⟨c0, c1, c2, c3, c4⟩ := fl_cells hx0
  have HW0 := Lib.hid hW0.symm
  have HB0 := Lib.hid hb0
  have HX0 := Lib.hid hx0
  clear hb0 hx0 hW0
  obtain ⟨S1, h1⟩ : ∃ S, (⟨#[40]⟩ : ByteArray) ++ T = S := ⟨_, rfl⟩
  obtain ⟨S2, h2⟩ : ∃ S, S1 ++ (⟨#[61]⟩ : ByteArray) = S := ⟨_, rfl⟩
  have z1 : S1.size = 1 + T.size := by rw [← h1, ByteArray.size_append]; rfl
  have z2 : S2.size = S1.size + 1 := by rw [← h2, ByteArray.size_append]; rfl
  have hS2 : OutP T p 0 (.string S2) := ⟨S2, rfl, by rw [← h2, ← h1]; simp [app_list, starJ], by omega⟩
  have b1 : 1 + T.size ≤ 9223372036854775807 := by omega
  have b2 : S1.size + 1 ≤ 9223372036854775807 := by omega
  have HS2 := Lib.hid hS2
  have HM := Lib.hid hm
  have HP := Lib.hid hp
  have HPl := Lib.hid hpl
  have HT := Lib.hid hT
  have HPs := Lib.hid hps
  clear z1 z2 hS2 hm hp hpl hps
  go_enter Tryd.func21, Tryd.ntmps21
  go_upto_region 1 with (fail)
  rw [HW0.out]
  go_wp2
  clear b1 b2 h1 h2
  go_loopw [3, 4] (fun x i wr => ∃ j : Nat, j ≤ m ∧ i = .int .i64 j ∧ Hid (OutP T p j x) ∧ Hid (Below W0.heap.size W0 wr)) (fun _ i _ => m - (intOf i).toNat)
  case atStart => exact ⟨0, by omega, rfl, HS2, Lib.hid (Below.refl _ _)⟩
  case round =>
    obtain ⟨j, hj, rfl, HO, HBr⟩ := hrel
    obtain ⟨E, rfl, hE, hEz⟩ := HO.out
    obtain ⟨x0, x1, x2, x3, x4⟩ := fl_cells (fl_below HX0.out HBr.out (fl_lt HX0.out))
    by_cases hlt : j < m
    · have t1 : decide ((j : Int) < (m : Int)) = true := by simp; omega
      have t1' : decide (j < m) = true := by simp; omega
      have ti0 : (0 : Int) ≤ (j : Int) := by omega
      have ti1 : (j : Int) < (m : Int) := by omega
      have hjp : j < p.length := by rw [← HM.out]; exact hlt
      obtain ⟨U, hU, hUl⟩ := strV_text p[j]
      obtain ⟨b, off, hpa, hb, hcj⟩ : ∃ b off, pa = some ⟨b, off, none⟩ ∧ b < w.heap.size ∧ wr.cell? ⟨b, off + j, none⟩ = some (.string U) := by
        obtain ⟨a, c, ha, _, hC⟩ := HP.out
        obtain ⟨b, off, e, hb, h0⟩ := hC j hjp
        exact ⟨b, off, (Value.slice.inj ha).1.trans e, hb, (((bthen HB0.out HBr.out).cell (p := ⟨b, off + j, none⟩) hb).trans h0).trans (by rw [hU])⟩
      subst hpa
      have hUz : U.size ≤ 1000 := by rw [← bytes_len, hUl]; exact HPl.out _ (List.getElem_mem hjp)
      obtain ⟨Q, hQ⟩ : ∃ Q, Q = ofL (quo U.data.toList) := ⟨_, rfl⟩
      have zQ : Q.size ≤ 3000 := by rw [hQ, ofL_size]; have := quo_lenQ U.data.toList; rw [bytes_len] at this; omega
      have hqt := fun W => quoted_below U (by omega) W
      rw [← hQ] at hqt
      have HQt := Lib.hid hqt
      have htk : p.take (j + 1) = p.take j ++ [p[j]] := List.take_succ_eq_append_getElem hjp
      by_cases hj0 : 0 < j
      · have t2 : decide ((0 : Int) < (j : Int)) = true := by simp; omega
        have t2' : decide (0 < j) = true := by simp; omega
        obtain ⟨E1, hE1⟩ : ∃ S, E ++ (⟨#[42]⟩ : ByteArray) = S := ⟨_, rfl⟩
        have zE1 : E1.size = E.size + 1 := by rw [← hE1, ByteArray.size_append]; rfl
        have hn : (E1 ++ Q).data.toList = 40 :: (T.data.toList ++ 61 :: starJ (p.take (j + 1))) := by
          rw [app_list, ← hE1, app_list, hE, htk, star_snoc _ _ (by intro e; have := congrArg List.length e; rw [List.length_take, List.length_nil] at this; omega), hQ, ofL_list, hUl]
          simp
        have HO2 : Hid (OutP T p (j + 1) (.string (E1 ++ Q))) := Lib.hid ⟨_, rfl, hn, by rw [← bytes_len, hn]; exact Nat.le_trans (outP_len HT.out HPs.out (j + 1)) (by omega)⟩
        have b1 : E.size + 1 ≤ 9223372036854775807 := by omega
        have b2 : E1.size + Q.size ≤ 9223372036854775807 := by omega
        clear hqt hQ zQ hn zE1 htk hU hUl hE
        go_wp2_with (go_at_call 38; refine (HQt.out _).mono ?_; rintro e w3 ⟨rfl, hb3⟩; have HB3 := Lib.hid (bthen HBr.out hb3); clear hb3)
        go_roundw
        case rel => exact ⟨j + 1, by omega, by go_num, HO2, HB3⟩
        case measure => simp [intOf]; omega
      · have t2 : decide ((0 : Int) < (j : Int)) = false := by simp; omega
        have t2' : decide (0 < j) = false := by simp; omega
        have hn : (E ++ Q).data.toList = 40 :: (T.data.toList ++ 61 :: starJ (p.take (j + 1))) := by
          rw [app_list, hE, htk, hQ, ofL_list, hUl]
          have hz : j = 0 := by omega
          subst hz
          simp [starJ]
        have HO2 : Hid (OutP T p (j + 1) (.string (E ++ Q))) := Lib.hid ⟨_, rfl, hn, by rw [← bytes_len, hn]; exact Nat.le_trans (outP_len HT.out HPs.out (j + 1)) (by omega)⟩
        have b2 : E.size + Q.size ≤ 9223372036854775807 := by omega
        clear hqt hQ zQ hn htk hU hUl hE
        go_wp2_with (go_at_call 38; refine (HQt.out _).mono ?_; rintro e w3 ⟨rfl, hb3⟩; have HB3 := Lib.hid (bthen HBr.out hb3); clear hb3)
        go_roundw
        case rel => exact ⟨j + 1, by omega, by go_num, HO2, HB3⟩
        case measure => simp [intOf]; omega
    · obtain rfl : j = m := by omega
      have t1 : decide ((j : Int) < (j : Int)) = false := by simp
      have t1' : decide (j < j) = false := by simp
      have hR : ofL (40 :: (T.data.toList ++ 61 :: (starJ p ++ [41]))) = E ++ (⟨#[41]⟩ : ByteArray) := bytes_ext (by rw [app_list, hE, ofL_list, List.take_of_length_le (by rw [← HM.out]; omega)]; simp)
      have b1 : E.size + 1 ≤ 9223372036854775807 := by omega
      have HR := Lib.hid hR
      clear hR hE
      go_wp2
      go_loop [3, 5] (fun x i => x = .string E ∧ i = .int .i64 0) (fun _ _ => 0)
      case atStart => exact ⟨rfl, rfl⟩
      case round =>
        obtain ⟨rfl, rfl⟩ := hrel
        go_wp2
        go_ret
        exact ⟨by rw [HR.out]; rfl, bthen HB0.out HBr.out⟩
set_option maxRecDepth 100000 in
set_option maxHeartbeats 8000000 in
theorem textH1 (d : Nat) (ih : TextsR d) (l : List FT) (hl : l.all (mayF d) = true) (hls : (textFs l).length ≤ 900000000) (T X : ByteArray) (pa ka : Option Addr) (pc kc m q : Nat) (hq : q = l.length) (hqm : q ≤ 9223372036854775807) (w : World) (hk : IsFls (Lt w) w l ka 0) :
    Calls Tryd.prog 21 #[.agg #[.int .i64 1, .string T, .string X, .slice pa m pc, .slice ka q kc]] w fun e w' => e = .returned (.string (ofL (40 :: 38 :: (textFs l ++ [41])))) ∧ Below w.heap.size w w' := by
  obtain ⟨W0, hW0⟩ : ∃ W, W = w.alloc (.cells #[.int .i64 1, .string T, .string X, .slice pa m pc, .slice ka q kc] 25) := ⟨_, rfl⟩
  have hb0 : Below w.heap.size w W0 := by rw [hW0]; exact box5 w _ _ _ _ _
  have hx0 : FlAt W0 w.heap.size (.int .i64 1) (.string T) (.string X) (.slice pa m pc) (.slice ka q kc) := by rw [hW0]; exact heap_alloc_new w _
  obtain ⟨c0, c1, c2, c3, c4⟩ := fl_cells hx0
  have HW0 := Lib.hid hW0.symm
  have HB0 := Lib.hid hb0
  have HX0 := Lib.hid hx0
  clear hb0 hx0 hW0
  have HI := Lib.hid ih
  have HL := Lib.hid hl
  have HQ := Lib.hid hq
  have HLs := Lib.hid hls
  have HKids := Lib.hid hk
  clear ih hl hq hls hk
  go_enter Tryd.func21, Tryd.ntmps21
  go_upto_region 1 with (fail)
  rw [HW0.out]
  go_wp2
  go_loopw [3, 5] (fun x i wr => ∃ j : Nat, j ≤ q ∧ i = .int .i64 j ∧ Hid (∃ E : ByteArray, x = .string E ∧ E.data.toList = 40 :: 38 :: textFs (l.take j)) ∧ Hid (Below W0.heap.size W0 wr)) (fun _ i _ => q - (intOf i).toNat)
  case atStart => exact ⟨0, by omega, rfl, Lib.hid ⟨_, rfl, by rfl⟩, Lib.hid (Below.refl _ _)⟩
  case round =>
    obtain ⟨j, hj, rfl, HO, HBr⟩ := hrel
    obtain ⟨E, rfl, hE⟩ := HO.out
    have hEz : E.size ≤ 900000002 := by
      rw [← bytes_len, hE]
      have := textFs_take l j
      have := HLs.out
      simp only [List.length_cons]
      omega
    obtain ⟨x0, x1, x2, x3, x4⟩ := fl_cells (fl_below HX0.out HBr.out (fl_lt HX0.out))
    by_cases hlt : j < q
    · have hjl : j < l.length := by rw [← HQ.out]; exact hlt
      have t9 : decide ((j : Int) < (q : Int)) = true := by simp; omega
      have t9' : decide (j < q) = true := by simp; omega
      obtain ⟨b, off, v0, v1, v2, v3, v4, rfl, hb, g0, g1, g2, g3, g4, hf⟩ := HKids.out.get l _ 0 j l[j] (List.getElem?_eq_getElem hjl)
      rw [Nat.zero_add] at g0 g1 g2 g3 g4
      have hbel := bthen HB0.out HBr.out
      have hcw : ∀ o, wr.cell? ⟨b, o, none⟩ = w.cell? ⟨b, o, none⟩ := fun o => hbel.cell (p := ⟨b, o, none⟩) hb
      rw [← hcw] at g0 g1 g2 g3 g4
      have hf2 : IsFl (Lt wr) wr l[j] (.agg #[v0, v1, v2, v3, v4]) := hf.imp (fun b h => Nat.lt_of_lt_of_le h hbel.size) (fun b o h => hbel.cell (p := ⟨b, o, none⟩) h)
      obtain ⟨fk, fT, fX, fpa, fpn, fpc, fka, fkn, fkc, e⟩ := hf2.shape
      simp only [Value.agg.injEq, Array.mk.injEq, List.cons.injEq, and_true] at e
      obtain ⟨rfl, rfl, rfl, rfl, rfl⟩ := e
      have htk : l.take (j + 1) = l.take j ++ [l[j]] := List.take_succ_eq_append_getElem hjl
      have htl : (textFs (l.take j)).length + (textF l[j]).length ≤ 900000000 := by
        have h1 := textFs_take l (j + 1)
        rw [htk, textFs_snoc, List.length_append] at h1
        have := HLs.out
        omega
      have hca := HI.out l[j] _ wr (List.all_eq_true.1 HL.out _ (List.getElem_mem hjl)) hf2 (by omega)
      obtain ⟨Q, hQ⟩ : ∃ Q, Q = ofL (textF l[j]) := ⟨_, rfl⟩
      have zQ : Q.size ≤ 900000000 := by rw [hQ, ofL_size]; omega
      rw [← hQ] at hca
      have HCa := Lib.hid hca
      have hn : (E ++ Q).data.toList = 40 :: 38 :: textFs (l.take (j + 1)) := by rw [app_list, hE, htk, textFs_snoc, hQ, ofL_list]; rfl
      have HO2 : Hid (∃ F : ByteArray, Value.string (E ++ Q) = .string F ∧ F.data.toList = 40 :: 38 :: textFs (l.take (j + 1))) := Lib.hid ⟨_, rfl, hn⟩
      have ti0 : (0 : Int) ≤ (j : Int) := by omega
      have ti1 : (j : Int) < (q : Int) := by omega
      have b2 : E.size + Q.size ≤ 9223372036854775807 := by omega
      clear hca hf hf2 hcw hbel hjl hQ hn zQ htk htl hE
      go_wp2_with (go_at_call 21; refine (HCa.out).mono ?_; rintro e w3 ⟨rfl, hb3⟩; have HB3 := Lib.hid (bthen HBr.out hb3); clear hb3)
      go_roundw
      case rel => exact ⟨j + 1, by omega, by go_num, HO2, HB3⟩
      case measure => simp [intOf]; omega
    · obtain rfl : j = q := by omega
      have t9 : decide ((j : Int) < (j : Int)) = false := by simp
      have t9' : decide (j < j) = false := by simp
      have hR : ofL (40 :: 38 :: (textFs l ++ [41])) = E ++ (⟨#[41]⟩ : ByteArray) := bytes_ext (by rw [app_list, hE, ofL_list, List.take_of_length_le (by rw [← HQ.out]; omega)]; rfl)
      have b1 : E.size + 1 ≤ 9223372036854775807 := by omega
      have HR := Lib.hid hR
      clear hR hE
      go_wp2
      go_ret
      exact ⟨by rw [HR.out]; rfl, bthen HB0.out HBr.out⟩
set_option maxRecDepth 100000 in
set_option maxHeartbeats 8000000 in
theorem textH2 (d : Nat) (ih : TextsR d) (l : List FT) (hl : l.all (mayF d) = true) (hls : (textFs l).length ≤ 900000000) (T X : ByteArray) (pa ka : Option Addr) (pc kc m q : Nat) (hq : q = l.length) (hqm : q ≤ 9223372036854775807) (w : World) (hk : IsFls (Lt w) w l ka 0) :
    Calls Tryd.prog 21 #[.agg #[.int .i64 2, .string T, .string X, .slice pa m pc, .slice ka q kc]] w fun e w' => e = .returned (.string (ofL (40 :: 124 :: (textFs l ++ [41])))) ∧ Below w.heap.size w w' := by
  obtain ⟨W0, hW0⟩ : ∃ W, W = w.alloc (.cells #[.int .i64 2, .string T, .string X, .slice pa m pc, .slice ka q kc] 25) := ⟨_, rfl⟩
  have hb0 : Below w.heap.size w W0 := by rw [hW0]; exact box5 w _ _ _ _ _
  have hx0 : FlAt W0 w.heap.size (.int .i64 2) (.string T) (.string X) (.slice pa m pc) (.slice ka q kc) := by rw [hW0]; exact heap_alloc_new w _
  obtain ⟨c0, c1, c2, c3, c4⟩ := fl_cells hx0
  have HW0 := Lib.hid hW0.symm
  have HB0 := Lib.hid hb0
  have HX0 := Lib.hid hx0
  clear hb0 hx0 hW0
  have HI := Lib.hid ih
  have HL := Lib.hid hl
  have HQ := Lib.hid hq
  have HLs := Lib.hid hls
  have HKids := Lib.hid hk
  clear ih hl hq hls hk
  go_enter Tryd.func21, Tryd.ntmps21
  go_upto_region 1 with (fail)
  rw [HW0.out]
  go_wp2
  go_loopw [3, 5] (fun x i wr => ∃ j : Nat, j ≤ q ∧ i = .int .i64 j ∧ Hid (∃ E : ByteArray, x = .string E ∧ E.data.toList = 40 :: 124 :: textFs (l.take j)) ∧ Hid (Below W0.heap.size W0 wr)) (fun _ i _ => q - (intOf i).toNat)
  case atStart => exact ⟨0, by omega, rfl, Lib.hid ⟨_, rfl, by rfl⟩, Lib.hid (Below.refl _ _)⟩
  case round =>
    obtain ⟨j, hj, rfl, HO, HBr⟩ := hrel
    obtain ⟨E, rfl, hE⟩ := HO.out
    have hEz : E.size ≤ 900000002 := by
      rw [← bytes_len, hE]
      have := textFs_take l j
      have := HLs.out
      simp only [List.length_cons]
      omega
    obtain ⟨x0, x1, x2, x3, x4⟩ := fl_cells (fl_below HX0.out HBr.out (fl_lt HX0.out))
    by_cases hlt : j < q
    · have hjl : j < l.length := by rw [← HQ.out]; exact hlt
      have t9 : decide ((j : Int) < (q : Int)) = true := by simp; omega
      have t9' : decide (j < q) = true := by simp; omega
      obtain ⟨b, off, v0, v1, v2, v3, v4, rfl, hb, g0, g1, g2, g3, g4, hf⟩ := HKids.out.get l _ 0 j l[j] (List.getElem?_eq_getElem hjl)
      rw [Nat.zero_add] at g0 g1 g2 g3 g4
      have hbel := bthen HB0.out HBr.out
      have hcw : ∀ o, wr.cell? ⟨b, o, none⟩ = w.cell? ⟨b, o, none⟩ := fun o => hbel.cell (p := ⟨b, o, none⟩) hb
      rw [← hcw] at g0 g1 g2 g3 g4
      have hf2 : IsFl (Lt wr) wr l[j] (.agg #[v0, v1, v2, v3, v4]) := hf.imp (fun b h => Nat.lt_of_lt_of_le h hbel.size) (fun b o h => hbel.cell (p := ⟨b, o, none⟩) h)
      obtain ⟨fk, fT, fX, fpa, fpn, fpc, fka, fkn, fkc, e⟩ := hf2.shape
      simp only [Value.agg.injEq, Array.mk.injEq, List.cons.injEq, and_true] at e
      obtain ⟨rfl, rfl, rfl, rfl, rfl⟩ := e
      have htk : l.take (j + 1) = l.take j ++ [l[j]] := List.take_succ_eq_append_getElem hjl
      have htl : (textFs (l.take j)).length + (textF l[j]).length ≤ 900000000 := by
        have h1 := textFs_take l (j + 1)
        rw [htk, textFs_snoc, List.length_append] at h1
        have := HLs.out
        omega
      have hca := HI.out l[j] _ wr (List.all_eq_true.1 HL.out _ (List.getElem_mem hjl)) hf2 (by omega)
      obtain ⟨Q, hQ⟩ : ∃ Q, Q = ofL (textF l[j]) := ⟨_, rfl⟩
      have zQ : Q.size ≤ 900000000 := by rw [hQ, ofL_size]; omega
      rw [← hQ] at hca
      have HCa := Lib.hid hca
      have hn : (E ++ Q).data.toList = 40 :: 124 :: textFs (l.take (j + 1)) := by rw [app_list, hE, htk, textFs_snoc, hQ, ofL_list]; rfl
      have HO2 : Hid (∃ F : ByteArray, Value.string (E ++ Q) = .string F ∧ F.data.toList = 40 :: 124 :: textFs (l.take (j + 1))) := Lib.hid ⟨_, rfl, hn⟩
      have ti0 : (0 : Int) ≤ (j : Int) := by omega
      have ti1 : (j : Int) < (q : Int) := by omega
      have b2 : E.size + Q.size ≤ 9223372036854775807 := by omega
      clear hca hf hf2 hcw hbel hjl hQ hn zQ htk htl hE
      go_wp2_with (go_at_call 21; refine (HCa.out).mono ?_; rintro e w3 ⟨rfl, hb3⟩; have HB3 := Lib.hid (bthen HBr.out hb3); clear hb3)
      go_roundw
      case rel => exact ⟨j + 1, by omega, by go_num, HO2, HB3⟩
      case measure => simp [intOf]; omega
    · obtain rfl : j = q := by omega
      have t9 : decide ((j : Int) < (j : Int)) = false := by simp
      have t9' : decide (j < j) = false := by simp
      have hR : ofL (40 :: 124 :: (textFs l ++ [41])) = E ++ (⟨#[41]⟩ : ByteArray) := bytes_ext (by rw [app_list, hE, ofL_list, List.take_of_length_le (by rw [← HQ.out]; omega)]; rfl)
      have b1 : E.size + 1 ≤ 9223372036854775807 := by omega
      have HR := Lib.hid hR
      clear hR hE
      go_wp2
      go_ret
      exact ⟨by rw [HR.out]; rfl, bthen HB0.out HBr.out⟩
set_option maxRecDepth 100000 in
set_option maxHeartbeats 8000000 in
theorem textH3 (d : Nat) (ih : TextsR d) (l : List FT) (hl : l.all (mayF d) = true) (hls : (textFs l).length ≤ 900000000) (T X : ByteArray) (pa ka : Option Addr) (pc kc m q : Nat) (hq : q = l.length) (hqm : q ≤ 9223372036854775807) (w : World) (hk : IsFls (Lt w) w l ka 0) :
    Calls Tryd.prog 21 #[.agg #[.int .i64 3, .string T, .string X, .slice pa m pc, .slice ka q kc]] w fun e w' => e = .returned (.string (ofL (40 :: 33 :: (textFs l ++ [41])))) ∧ Below w.heap.size w w' := by
  obtain ⟨W0, hW0⟩ : ∃ W, W = w.alloc (.cells #[.int .i64 3, .string T, .string X, .slice pa m pc, .slice ka q kc] 25) := ⟨_, rfl⟩
  have hb0 : Below w.heap.size w W0 := by rw [hW0]; exact box5 w _ _ _ _ _
  have hx0 : FlAt W0 w.heap.size (.int .i64 3) (.string T) (.string X) (.slice pa m pc) (.slice ka q kc) := by rw [hW0]; exact heap_alloc_new w _
  obtain ⟨c0, c1, c2, c3, c4⟩ := fl_cells hx0
  have HW0 := Lib.hid hW0.symm
  have HB0 := Lib.hid hb0
  have HX0 := Lib.hid hx0
  clear hb0 hx0 hW0
  have HI := Lib.hid ih
  have HL := Lib.hid hl
  have HQ := Lib.hid hq
  have HLs := Lib.hid hls
  have HKids := Lib.hid hk
  clear ih hl hq hls hk
  go_enter Tryd.func21, Tryd.ntmps21
  go_upto_region 1 with (fail)
  rw [HW0.out]
  go_wp2
  go_loopw [3, 5] (fun x i wr => ∃ j : Nat, j ≤ q ∧ i = .int .i64 j ∧ Hid (∃ E : ByteArray, x = .string E ∧ E.data.toList = 40 :: 33 :: textFs (l.take j)) ∧ Hid (Below W0.heap.size W0 wr)) (fun _ i _ => q - (intOf i).toNat)
  case atStart => exact ⟨0, by omega, rfl, Lib.hid ⟨_, rfl, by rfl⟩, Lib.hid (Below.refl _ _)⟩
  case round =>
    obtain ⟨j, hj, rfl, HO, HBr⟩ := hrel
    obtain ⟨E, rfl, hE⟩ := HO.out
    have hEz : E.size ≤ 900000002 := by
      rw [← bytes_len, hE]
      have := textFs_take l j
      have := HLs.out
      simp only [List.length_cons]
      omega
    obtain ⟨x0, x1, x2, x3, x4⟩ := fl_cells (fl_below HX0.out HBr.out (fl_lt HX0.out))
    by_cases hlt : j < q
    · have hjl : j < l.length := by rw [← HQ.out]; exact hlt
      have t9 : decide ((j : Int) < (q : Int)) = true := by simp; omega
      have t9' : decide (j < q) = true := by simp; omega
      obtain ⟨b, off, v0, v1, v2, v3, v4, rfl, hb, g0, g1, g2, g3, g4, hf⟩ := HKids.out.get l _ 0 j l[j] (List.getElem?_eq_getElem hjl)
      rw [Nat.zero_add] at g0 g1 g2 g3 g4
      have hbel := bthen HB0.out HBr.out
      have hcw : ∀ o, wr.cell? ⟨b, o, none⟩ = w.cell? ⟨b, o, none⟩ := fun o => hbel.cell (p := ⟨b, o, none⟩) hb
      rw [← hcw] at g0 g1 g2 g3 g4
      have hf2 : IsFl (Lt wr) wr l[j] (.agg #[v0, v1, v2, v3, v4]) := hf.imp (fun b h => Nat.lt_of_lt_of_le h hbel.size) (fun b o h => hbel.cell (p := ⟨b, o, none⟩) h)
      obtain ⟨fk, fT, fX, fpa, fpn, fpc, fka, fkn, fkc, e⟩ := hf2.shape
      simp only [Value.agg.injEq, Array.mk.injEq, List.cons.injEq, and_true] at e
      obtain ⟨rfl, rfl, rfl, rfl, rfl⟩ := e
      have htk : l.take (j + 1) = l.take j ++ [l[j]] := List.take_succ_eq_append_getElem hjl
      have htl : (textFs (l.take j)).length + (textF l[j]).length ≤ 900000000 := by
        have h1 := textFs_take l (j + 1)
        rw [htk, textFs_snoc, List.length_append] at h1
        have := HLs.out
        omega
      have hca := HI.out l[j] _ wr (List.all_eq_true.1 HL.out _ (List.getElem_mem hjl)) hf2 (by omega)
      obtain ⟨Q, hQ⟩ : ∃ Q, Q = ofL (textF l[j]) := ⟨_, rfl⟩
      have zQ : Q.size ≤ 900000000 := by rw [hQ, ofL_size]; omega
      rw [← hQ] at hca
      have HCa := Lib.hid hca
      have hn : (E ++ Q).data.toList = 40 :: 33 :: textFs (l.take (j + 1)) := by rw [app_list, hE, htk, textFs_snoc, hQ, ofL_list]; rfl
      have HO2 : Hid (∃ F : ByteArray, Value.string (E ++ Q) = .string F ∧ F.data.toList = 40 :: 33 :: textFs (l.take (j + 1))) := Lib.hid ⟨_, rfl, hn⟩
      have ti0 : (0 : Int) ≤ (j : Int) := by omega
      have ti1 : (j : Int) < (q : Int) := by omega
      have b2 : E.size + Q.size ≤ 9223372036854775807 := by omega
      clear hca hf hf2 hcw hbel hjl hQ hn zQ htk htl hE
      go_wp2_with (go_at_call 21; refine (HCa.out).mono ?_; rintro e w3 ⟨rfl, hb3⟩; have HB3 := Lib.hid (bthen HBr.out hb3); clear hb3)
      go_roundw
      case rel => exact ⟨j + 1, by omega, by go_num, HO2, HB3⟩
      case measure => simp [intOf]; omega
    · obtain rfl : j = q := by omega
      have t9 : decide ((j : Int) < (j : Int)) = false := by simp
      have t9' : decide (j < j) = false := by simp
      have hR : ofL (40 :: 33 :: (textFs l ++ [41])) = E ++ (⟨#[41]⟩ : ByteArray) := bytes_ext (by rw [app_list, hE, ofL_list, List.take_of_length_le (by rw [← HQ.out]; omega)]; rfl)
      have b1 : E.size + 1 ≤ 9223372036854775807 := by omega
      have HR := Lib.hid hR
      clear hR hE
      go_wp2
      go_ret
      exact ⟨by rw [HR.out]; rfl, bthen HB0.out HBr.out⟩

theorem parts_len {p : List (List UInt8)} (h : okParts p = true) : (∀ x ∈ p, x.length ≤ 1000) ∧ (starJ p).length ≤ 9000000 := by
  obtain ⟨⟨h1, h2⟩, h3, _⟩ := (okParts_iff p).1 h
  have hx : ∀ x ∈ p, x.length ≤ 100 := fun x hx => by
    obtain ⟨i, hi, rfl⟩ := List.getElem_of_mem hx
    exact (h3 i hi).1
  refine ⟨fun x hx' => Nat.le_trans (hx x hx') (by omega), ?_⟩
  have : ∀ q : List (List UInt8), (∀ x ∈ q, x.length ≤ 100) → (starJ q).length ≤ q.length * 301 := by
    intro q
    induction q with
    | nil => intro _; simp [starJ]
    | cons x q ih =>
      intro hq
      have hx1 := quo_lenQ x
      have hx2 := hq x (by simp)
      have := ih (fun y hy => hq y (by simp [hy]))
      cases q with
      | nil => simp [starJ]; omega
      | cons y q =>
        show (quo x ++ 42 :: starJ (y :: q)).length ≤ _
        rw [List.length_append, List.length_cons]
        simp only [List.length_cons] at this ⊢
        omega
  have := this p hx
  omega
theorem okType_len {t : List UInt8} (h : okType t = true) : t.length ≤ 30 := by
  unfold okType at h
  simp only [Bool.and_eq_true, decide_eq_true_eq] at h
  exact h.1.1.2
theorem textR_all : ∀ d : Nat, TextsR d
  | 0, f, v, w, hm, h, hlen => by cases hm
  | d + 1, .mk k t x p l, v, w, hm, h, hlen => by
    obtain ⟨pa, pc, ka, kc, rfl, hwf, ht, hx, hp, hl, hkids⟩ := h.parts
    obtain ⟨T, hT, hTl⟩ := strV_text t
    obtain ⟨X, hX, hXl⟩ := strV_text x
    rw [hT, hX]
    by_cases hk : holdsC k = true
    · rw [mayFl_hold hk] at hm
      simp only [Bool.and_eq_true] at hm
      obtain ⟨⟨⟨⟨ht0, hx0⟩, hp0⟩, hkc⟩, hall⟩ := hm
      have ht1 : t = [] := by cases t <;> simp_all
      have hx1 : x = [] := by cases x <;> simp_all
      have hp1 : p = [] := by cases p <;> simp_all
      have h3 : k = 1 ∨ k = 2 ∨ k = 3 := by
        unfold holdsC at hk
        simp only [Bool.or_eq_true, decide_eq_true_eq] at hk
        omega
      subst ht1 hx1 hp1
      unfold maxLen at hl
      have hls : (textFs l).length ≤ 900000000 := by
        rw [textF] at hlen
        simp [quo, starJ] at hlen
        omega
      rcases h3 with rfl | rfl | rfl
      · have he : textF (.mk 1 [] [] [] l) = 40 :: 38 :: (textFs l ++ [41]) := by rw [textF]; simp [signF, quo, starJ]
        rw [he]
        exact textH1 d (textR_all d) l hall hls T X pa ka pc kc _ _ rfl hl w hkids
      · have he : textF (.mk 2 [] [] [] l) = 40 :: 124 :: (textFs l ++ [41]) := by rw [textF]; simp [signF, quo, starJ]
        rw [he]
        exact textH2 d (textR_all d) l hall hls T X pa ka pc kc _ _ rfl hl w hkids
      · have he : textF (.mk 3 [] [] [] l) = 40 :: 33 :: (textFs l ++ [41]) := by rw [textF]; simp [signF, quo, starJ]
        rw [he]
        exact textH3 d (textR_all d) l hall hls T X pa ka pc kc _ _ rfl hl w hkids
    · rw [mayFl_leaf hk] at hm
      simp only [Bool.and_eq_true, decide_eq_true_eq] at hm
      obtain ⟨hl0, hs⟩ := hm
      have hl1 : l = [] := List.eq_nil_of_length_eq_zero hl0
      subst hl1
      unfold simpleD at hs
      simp only [Bool.and_eq_true, decide_eq_true_eq] at hs
      obtain ⟨⟨hty, hx100⟩, hs⟩ := hs
      have hT30 : T.size ≤ 1000 := by rw [← bytes_len, hTl]; exact Nat.le_trans (okType_len hty) (by omega)
      have hX100 : X.size ≤ 1000 := by rw [← bytes_len, hXl]; omega
      by_cases h4 : k = 4 ∨ k = 6 ∨ k = 7
      · rw [if_pos h4] at hs
        have hp1 : p = [] := by cases p <;> simp_all
        subst hp1
        rcases h4 with rfl | rfl | rfl
        · have he : textF (.mk 4 t x [] []) = 40 :: (T.data.toList ++ ([61] ++ (quo X.data.toList ++ [41]))) := by rw [textF, hTl, hXl]; simp [signF, starJ, textFs]
          rw [he]
          exact textL4 T X hT30 hX100 pa ka pc kc _ _ rfl w
        · have he : textF (.mk 6 t x [] []) = 40 :: (T.data.toList ++ ([62, 61] ++ (quo X.data.toList ++ [41]))) := by rw [textF, hTl, hXl]; simp [signF, starJ, textFs]
          rw [he]
          exact textL6 T X hT30 hX100 pa ka pc kc _ _ rfl w
        · have he : textF (.mk 7 t x [] []) = 40 :: (T.data.toList ++ ([60, 61] ++ (quo X.data.toList ++ [41]))) := by rw [textF, hTl, hXl]; simp [signF, starJ, textFs]
          rw [he]
          exact textL7 T X hT30 hX100 pa ka pc kc _ _ rfl w
      · rw [if_neg h4] at hs
        by_cases h8 : k = 8
        · subst h8
          rw [if_pos rfl] at hs
          simp only [Bool.and_eq_true] at hs
          have hp1 : p = [] := by cases p <;> simp_all
          have hx1 : x = [] := by cases x <;> simp_all
          subst hp1 hx1
          have he : textF (.mk 8 t [] [] []) = 40 :: (T.data.toList ++ ([61, 42] ++ [41])) := by rw [textF, hTl]; simp [signF, quo, starJ, textFs]
          rw [he]
          exact textL8 T X hT30 pa ka pc kc _ _ rfl w
        · rw [if_neg h8] at hs
          by_cases h5 : k = 5
          · subst h5
            rw [if_pos rfl] at hs
            simp only [Bool.and_eq_true] at hs
            have hx1 : x = [] := by cases x <;> simp_all
            subst hx1
            obtain ⟨hpx, hps⟩ := parts_len hs.2
            have he : textF (.mk 5 t [] p []) = 40 :: (T.data.toList ++ 61 :: (starJ p ++ [41])) := by rw [textF, hTl]; simp [signF, quo, textFs]
            rw [he]
            exact textL5 T X hT30 p hpx hps pa ka pc kc _ _ rfl rfl w hp
          · rw [if_neg h5] at hs
            cases hs
end Go.Proofs.YtmpicolplknomaaDoor

/- filter.Text: the walk. -/
namespace Go.Proofs.YtmpicolplknomaaDoor
open Go.RowKit
set_option linter.unusedVariables false
set_option linter.unusedSimpArgs false

def textTop (f : FT) : List UInt8 := if mayF 13 f then textF f else []
set_option maxRecDepth 100000 in
set_option maxHeartbeats 4000000 in
theorem textTop_any (f : FT) (v : Value) (w : World) (h : IsFl (Lt w) w f v) (hlen : mayF 13 f = true → (textF f).length ≤ 900000000000) :
    Calls Tryd.prog 10 #[v] w fun e w' => e = .returned (.string (ofL (textTop f))) ∧ Below w.heap.size w w' := by
  have hmay := fun W (hW : Below w.heap.size w W) => mayTop_any f v W (h.imp (fun b h => Nat.lt_of_lt_of_le h hW.size) (fun b o h => hW.cell (p := ⟨b, o, none⟩) h))
  have hfl := fun W (hW : Below w.heap.size w W) => (h.imp (ok' := fun q => q < W.heap.size) (w' := W) (fun b h => Nat.lt_of_lt_of_le h hW.size) (fun b o h => hW.cell (p := ⟨b, o, none⟩) h) : IsFl (fun q => q < W.heap.size) W f v)
  obtain ⟨k, T, X, pa, pn, pc, ka, kn, kc, rfl⟩ := h.shape
  have hb := box5 w (.int .i64 k) (.string T) (.string X) (.slice pa pn pc) (.slice ka kn kc)
  have hbx := heap_alloc_new w (.cells #[.int .i64 k, .string T, .string X, .slice pa pn pc, .slice ka kn kc] 25)
  obtain ⟨W0, hW0⟩ : ∃ W, W = w.alloc (.cells #[.int .i64 k, .string T, .string X, .slice pa pn pc, .slice ka kn kc] 25) := ⟨_, rfl⟩
  rw [← hW0] at hb hbx
  have hm := hmay W0 hb
  obtain ⟨c0, c1, c2, c3, c4⟩ := cells5 hbx
  have HFl := Lib.hid hfl
  have HB := Lib.hid hb
  have HBx := Lib.hid hbx
  have HW0 := Lib.hid hW0.symm
  have HLen := Lib.hid hlen
  clear hmay hfl hb hbx hW0 h hlen
  obtain ⟨q, hq⟩ : ∃ q, q = mayF 13 f := ⟨_, rfl⟩
  rw [← hq] at hm
  have HM := Lib.hid hm
  clear hm
  cases q with
  | false =>
    have hr : textTop f = [] := by unfold textTop; rw [if_neg (by rw [← hq]; decide)]
    rw [hr]
    clear hr hq
    go_enter Tryd.func10, Tryd.ntmps10
    go_upto_region 1 with (fail)
    rw [HW0.out]
    go_wp2_with (go_at_call 8; refine (HM.out).mono ?_; rintro e w1 ⟨rfl, hb1⟩; have HB1 := Lib.hid (bthen HB.out hb1); clear hb1)
    go_ret
    exact ⟨rfl, HB1.out⟩
  | true =>
    have hr : textTop f = textF f := by unfold textTop; rw [if_pos hq.symm]
    rw [hr]
    have HQ := Lib.hid hq.symm
    clear hr hq
    go_enter Tryd.func10, Tryd.ntmps10
    go_upto_region 1 with (fail)
    rw [HW0.out]
    go_upto_region 4 with (go_at_call 8; refine (HM.out).mono ?_; rintro e w1 ⟨rfl, hb1⟩; have HB1 := Lib.hid hb1; clear hb1)
    have hbl := Lib.fresh_isBuilder 46 5 w1
    have hal : Below w1.heap.size w1 (w1.alloc (.cells #[.pointer none, .slice none 0 0] 46)) := (Below.refl _ _).alloc (Nat.le_refl _) _
    have hf1 := HFl.out w1 (bthen HB.out HB1.out)
    have hf2 : IsFl (fun q => q < w1.heap.size) (w1.alloc (.cells #[.pointer none, .slice none 0 0] 46)) f (.agg #[.int .i64 k, .string T, .string X, .slice pa pn pc, .slice ka kn kc]) := hf1.imp (fun _ h => h) (fun b o h => hal.cell (p := ⟨b, o, none⟩) h)
    have hx2 := (((HB1.out).trans (hal.mono HB1.out.size)).block _ (Array.getElem?_eq_some_iff.1 HBx.out).1).trans HBx.out
    have hwr := write_all 13 f w1.heap.size w1.heap.size [] _ _ HQ.out hbl hf2 (by have := HLen.out HQ.out; simp; omega) (by simp)
    rw [List.nil_append] at hwr
    have HBs := Lib.hid (bthen (bthen HB.out HB1.out) hal)
    have HZ : Hid (w1.heap.size ≤ (w1.alloc (.cells #[.pointer none, .slice none 0 0] 46)).heap.size ∧ w.heap.size ≤ w1.heap.size) := Lib.hid ⟨by simp, (bthen HB.out HB1.out).size⟩
    generalize w1.alloc (.cells #[.pointer none, .slice none 0 0] 46) = W2 at hwr hx2 HBs HZ ⊢
    clear c0 c1 c2 c3 c4
    obtain ⟨c0, c1, c2, c3, c4⟩ := cells5 hx2
    have HWr := Lib.hid hwr
    clear hwr hf1 hf2 hal hbl hx2
    go_wp2_with (first
      | (go_at_call 19; refine (HWr.out).mono ?_; rintro e w3 ⟨rfl, h3, f3⟩; have H3 := Lib.hid h3; have F3 := Lib.hid f3; clear h3 f3)
      | (go_at_call 20; refine (bldString_any w1.heap.size w1.heap.size (textF f) w3 H3.out.bld (Nat.le_trans HZ.out.1 F3.out.1.size)).mono ?_; rintro e w4 ⟨rfl, hb4⟩; have HB4 := Lib.hid ((HBs.out.trans (F3.out.1.mono HZ.out.2)).trans (hb4.mono HZ.out.2)); clear hb4))
    go_ret
    exact ⟨rfl, HB4.out⟩
end Go.Proofs.YtmpicolplknomaaDoor

/- The document's TextFilter; how many filters there are within (many, Great): the walks. -/
namespace Go.Proofs.YtmpicolplknomaaDoor
open Go.RowKit
set_option linter.unusedVariables false
set_option linter.unusedSimpArgs false

set_option maxRecDepth 100000 in
set_option maxHeartbeats 4000000 in
theorem textFilter_any (f : FT) (v : Value) (w : World) (h : IsFl (Lt w) w f v) (hlen : mayF 13 f = true → (textF f).length ≤ 900000000) :
    Calls Tryd.prog 11 #[v] w fun e w' => e = .returned (.string (ofL (textTop f))) ∧ Below w.heap.size w w' := by
  have hm := fun W (hW : Below w.heap.size w W) => mayFilter_any f v W (h.imp (fun b h => Nat.lt_of_lt_of_le h hW.size) (fun b o h => hW.cell (p := ⟨b, o, none⟩) h))
  have ht := fun W (hW : Below w.heap.size w W) (hm : mayF 13 f = true) => textR_all 13 f v W hm (h.imp (fun b h => Nat.lt_of_lt_of_le h hW.size) (fun b o h => hW.cell (p := ⟨b, o, none⟩) h)) (hlen hm)
  obtain ⟨k, T, X, pa, pn, pc, ka, kn, kc, rfl⟩ := h.shape
  obtain ⟨W0, hW0⟩ : ∃ W, W = w.alloc (.cells #[.int .i64 k, .string T, .string X, .slice pa pn pc, .slice ka kn kc] 25) := ⟨_, rfl⟩
  have hb0 : Below w.heap.size w W0 := by rw [hW0]; exact box5 w _ _ _ _ _
  have hx0 : FlAt W0 w.heap.size (.int .i64 k) (.string T) (.string X) (.slice pa pn pc) (.slice ka kn kc) := by rw [hW0]; exact heap_alloc_new w _
  obtain ⟨c0, c1, c2, c3, c4⟩ := fl_cells hx0
  have HW0 := Lib.hid hW0.symm
  have HX0 := Lib.hid hx0
  have HB0 := Lib.hid hb0
  obtain ⟨q, hq⟩ : ∃ q, q = mayF 13 f := ⟨_, rfl⟩
  have hm0 := hm W0 hb0
  rw [← hq] at hm0
  have HM := Lib.hid hm0
  have HT := Lib.hid ht
  clear hm ht hW0 hb0 hx0 hm0 h hlen
  cases q with
  | false =>
    have hr : textTop f = [] := by unfold textTop; rw [if_neg (by rw [← hq]; decide)]
    rw [hr]
    clear hr hq
    go_enter Tryd.func11, Tryd.ntmps11
    go_upto_region 1 with (fail)
    rw [HW0.out]
    go_wp2_with (go_at_call 9; refine (HM.out).mono ?_; rintro e w1 ⟨rfl, hb1⟩; have HB1 := Lib.hid (bthen HB0.out hb1); clear hb1)
    go_ret
    exact ⟨rfl, HB1.out⟩
  | true =>
    have hr : textTop f = textF f := by unfold textTop; rw [if_pos hq.symm]
    rw [hr]
    have HQ := Lib.hid hq.symm
    clear hr hq
    go_enter Tryd.func11, Tryd.ntmps11
    go_upto_region 1 with (fail)
    rw [HW0.out]
    go_wp2_with (first
      | (go_at_call 9; refine (HM.out).mono ?_; rintro e w1 ⟨rfl, hb1⟩; have HB1 := Lib.hid (bthen HB0.out hb1); (obtain ⟨d0, d1, d2, d3, d4⟩ := fl_cells (fl_below HX0.out hb1 (fl_lt HX0.out))); clear hb1)
      | (go_at_call 21; refine (HT.out _ HB1.out HQ.out).mono ?_; rintro e w2 ⟨rfl, hb2⟩; have HB2 := Lib.hid (bthen HB1.out hb2); clear hb2))
    go_ret
    exact ⟨rfl, HB2.out⟩

/-! ### How many -/
mutual
/-- All filters within, and the filter itself. -/
def nodesF : FT → Nat
  | .mk _ _ _ _ l => 1 + nodesFs l
def nodesFs : List FT → Nat
  | [] => 0
  | f :: l => nodesF f + nodesFs l
end
theorem nodesFs_snoc : ∀ (l : List FT) (f : FT), nodesFs (l ++ [f]) = nodesFs l + nodesF f
  | [], f => by simp [nodesFs]
  | g :: l, f => by
    have := nodesFs_snoc l f
    show nodesF g + nodesFs (l ++ [f]) = nodesF g + nodesFs l + nodesF f
    omega
theorem fewPs_take {l : List FT} {j : Nat} (hj : j < l.length) (h : fewPs (l.take j)) (hf : fewP l[j]) : fewPs (l.take (j + 1)) := by
  rw [List.take_succ_eq_append_getElem hj]
  exact fewPs_mk fun f hm => by
    rcases List.mem_append.1 hm with h1 | h1
    · exact fewPs_at h f h1
    · rw [List.mem_singleton.1 h1]; exact hf
/-- What many tells. -/
def ManySays (f : FT) (deep n : Nat) : Prop := n ≤ 1000 * (22 - deep) ∧ (n < 1000 → nodesF f = n ∧ fewP f)
theorem many_1000 (f : FT) {deep : Nat} (h : deep ≤ 21) : ManySays f deep 1000 := ⟨by omega, fun h => absurd h (by omega)⟩
def ManysF (deep : Nat) : Prop := ∀ (f : FT) (v : Value) (w : World), IsFl (Lt w) w f v →
  Calls Tryd.prog 14 #[v, .int .i64 deep] w fun e w' => ∃ n : Nat, e = .returned (.int .i64 n) ∧ ManySays f deep n ∧ Below w.heap.size w w'

set_option maxRecDepth 100000 in
set_option maxHeartbeats 8000000 in
theorem many_step (deep : Nat) (hd : deep ≤ 21) (ih : deep ≤ 20 → ManysF (deep + 1)) : ManysF deep := by
  intro f v w h
  obtain ⟨k, t, x, p, l⟩ := f
  obtain ⟨pa, pc, ka, kc, rfl, hwf, ht, hx, hp, hl, hkids⟩ := h.parts
  obtain ⟨T, hT, hTl⟩ := strV_text t
  obtain ⟨X, hX, hXl⟩ := strV_text x
  rw [hT, hX]
  obtain ⟨q, hq⟩ : ∃ q, q = l.length := ⟨_, rfl⟩
  obtain ⟨m, hm⟩ : ∃ m, m = p.length := ⟨_, rfl⟩
  rw [← hq] at hl ⊢
  rw [← hm] at hp ⊢
  have hmm : m ≤ maxLen := by rw [hm]; exact hp.choose_spec.choose_spec.2.1
  have hTz : T.size ≤ maxLen := by rw [← bytes_len, hTl]; exact ht
  have hXz : X.size ≤ maxLen := by rw [← bytes_len, hXl]; exact hx
  unfold maxLen at hl hmm hTz hXz
  obtain ⟨W0, hW0⟩ : ∃ W, W = w.alloc (.cells #[.int .i64 k, .string T, .string X, .slice pa m pc, .slice ka q kc] 25) := ⟨_, rfl⟩
  have hb0 : Below w.heap.size w W0 := by rw [hW0]; exact box5 w _ _ _ _ _
  have hx0 : FlAt W0 w.heap.size (.int .i64 k) (.string T) (.string X) (.slice pa m pc) (.slice ka q kc) := by rw [hW0]; exact heap_alloc_new w _
  obtain ⟨c0, c1, c2, c3, c4⟩ := fl_cells hx0
  have HW0 := Lib.hid hW0.symm
  have HX0 := Lib.hid hx0
  have HB0 := Lib.hid hb0
  have HK := Lib.hid hkids
  have HP := Lib.hid hp
  have HQ := Lib.hid hq
  have HM := Lib.hid hm
  have HI := Lib.hid ih
  have H1000 := Lib.hid (many_1000 (.mk k t x p l) hd)
  clear hT hTl hX hXl hW0 hb0 hx0 hwf ht hx hp h hkids hq hm ih
  by_cases h1 : 20 < deep
  · have t1 : decide ((20 : Int) < (deep : Int)) = true := by simp; omega
    go_enter Tryd.func14, Tryd.ntmps14
    go_upto_region 1 with (fail)
    rw [HW0.out]
    go_wp2
    go_ret
    exact ⟨1000, rfl, H1000.out, HB0.out⟩
  · have t1 : decide ((20 : Int) < (deep : Int)) = false := by simp; omega
    by_cases h2 : 60 < q
    · have t2 : decide ((60 : Int) < (q : Int)) = true := by simp; omega
      go_enter Tryd.func14, Tryd.ntmps14
      go_upto_region 1 with (fail)
      rw [HW0.out]
      go_wp2
      go_ret
      exact ⟨1000, rfl, H1000.out, HB0.out⟩
    · have t2 : decide ((60 : Int) < (q : Int)) = false := by simp; omega
      by_cases h3 : 20 < m
      · have t3 : decide ((20 : Int) < (m : Int)) = true := by simp; omega
        go_enter Tryd.func14, Tryd.ntmps14
        go_upto_region 1 with (fail)
        rw [HW0.out]
        go_wp2
        go_ret
        exact ⟨1000, rfl, H1000.out, HB0.out⟩
      · have t3 : decide ((20 : Int) < (m : Int)) = false := by simp; omega
        by_cases h4 : 100 < T.size
        · have t4 : decide ((100 : Int) < (T.size : Int)) = true := by simp; omega
          go_enter Tryd.func14, Tryd.ntmps14
          go_upto_region 1 with (fail)
          rw [HW0.out]
          go_wp2
          go_ret
          exact ⟨1000, rfl, H1000.out, HB0.out⟩
        · have t4 : decide ((100 : Int) < (T.size : Int)) = false := by simp; omega
          by_cases h5 : 300 < X.size
          · have t5 : decide ((300 : Int) < (X.size : Int)) = true := by simp; omega
            go_enter Tryd.func14, Tryd.ntmps14
            go_upto_region 1 with (fail)
            rw [HW0.out]
            go_wp2
            go_ret
            exact ⟨1000, rfl, H1000.out, HB0.out⟩
          · have t5 : decide ((300 : Int) < (X.size : Int)) = false := by simp; omega
            go_enter Tryd.func14, Tryd.ntmps14
            go_upto_region 1 with (fail)
            rw [HW0.out]
            go_wp2
            go_loopw [5] (fun i wr => ∃ j : Nat, j ≤ m ∧ i = .int .i64 j ∧ Hid (W0 = wr)) (fun i _ => m - (intOf i).toNat)
            case atStart => exact ⟨0, by omega, rfl, Lib.hid rfl⟩
            case round =>
              obtain ⟨j, hj, rfl, hwr⟩ := hrel
              have hwr := hwr.out
              subst hwr
              by_cases hlt : j < m
              · have u1 : decide ((j : Int) < (m : Int)) = true := by simp; omega
                have u1' : decide (j < m) = true := by simp; omega
                have ti0 : (0 : Int) ≤ (j : Int) := by omega
                have ti1 : (j : Int) < (m : Int) := by omega
                obtain ⟨b, off, U, hpa, hcj⟩ : ∃ b off U, pa = some ⟨b, off, none⟩ ∧ W0.cell? ⟨b, off + j, none⟩ = some (.string U) := by
                  obtain ⟨a, c, ha, _, hC⟩ := HP.out
                  obtain ⟨b, off, e, hb, h0⟩ := hC j (by rw [← HM.out]; exact hlt)
                  obtain ⟨U, hU, _⟩ := strV_text p[j]
                  exact ⟨b, off, U, (Value.slice.inj ha).1.trans e, (HB0.out.cell (p := ⟨b, off + j, none⟩) hb).trans (h0.trans (by rw [hU]))⟩
                subst hpa
                by_cases hbig : 300 < U.size
                · have u2 : decide ((300 : Int) < (U.size : Int)) = true := by simp; omega
                  go_wp2
                  go_ret
                  exact ⟨1000, rfl, H1000.out, HB0.out⟩
                · have u2 : decide ((300 : Int) < (U.size : Int)) = false := by simp; omega
                  go_wp2
                  go_roundw
                  case rel => exact ⟨j + 1, by omega, by go_num, Lib.hid (by trivial)⟩
                  case measure => simp [intOf]; omega
              · obtain rfl : j = m := by omega
                have u1 : decide ((j : Int) < (j : Int)) = false := by simp
                have u1' : decide (j < j) = false := by simp
                have HI2 := Lib.hid (HI.out (by omega))
                clear HI
                go_wp2
                go_loopw [6, 7] (fun n i wr => ∃ (a b : Nat), a ≤ q ∧ i = .int .i64 a ∧ n = .int .i64 b ∧ b ≤ 1000 * (22 - deep) ∧ Hid (b < 1000 → b = 1 + nodesFs (l.take a) ∧ fewPs (l.take a)) ∧ Hid (Below W0.heap.size W0 wr)) (fun _ i _ => q - (intOf i).toNat)
                case atStart => exact ⟨0, 1, by omega, rfl, rfl, by omega, Lib.hid (fun _ => ⟨by simp [nodesFs], trivial⟩), Lib.hid (Below.refl _ _)⟩
                case round =>
                  obtain ⟨a, b, ha, rfl, rfl, hb, HS, HBr⟩ := hrel
                  obtain ⟨y0, y1, y2, y3, y4⟩ := fl_cells (fl_below HX0.out HBr.out (fl_lt HX0.out))
                  by_cases hlt : a < q
                  · have u3 : decide ((a : Int) < (q : Int)) = true := by simp; omega
                    have u3' : decide (a < q) = true := by simp; omega
                    by_cases hbl : b < 1000
                    · have u4 : decide ((b : Int) < 1000) = true := by simp; omega
                      have u4' : decide (b < 1000) = true := by simp; omega
                      have hjl : a < l.length := by rw [← HQ.out]; exact hlt
                      obtain ⟨g, off, v0, v1, v2, v3, v4, rfl, hg, g0, g1, g2, g3, g4, hf⟩ := HK.out.get l _ 0 a l[a] (List.getElem?_eq_getElem hjl)
                      rw [Nat.zero_add] at g0 g1 g2 g3 g4
                      have hbel := bthen HB0.out HBr.out
                      have hcw : ∀ o, wr.cell? ⟨g, o, none⟩ = w.cell? ⟨g, o, none⟩ := fun o => hbel.cell (p := ⟨g, o, none⟩) hg
                      rw [← hcw] at g0 g1 g2 g3 g4
                      have hf2 : IsFl (Lt wr) wr l[a] (.agg #[v0, v1, v2, v3, v4]) := hf.imp (fun b h => Nat.lt_of_lt_of_le h hbel.size) (fun b o h => hbel.cell (p := ⟨b, o, none⟩) h)
                      obtain ⟨fk, fT, fX, fpa, fpn, fpc, fka, fkn, fkc, e⟩ := hf2.shape
                      simp only [Value.agg.injEq, Array.mk.injEq, List.cons.injEq, and_true] at e
                      obtain ⟨rfl, rfl, rfl, rfl, rfl⟩ := e
                      have hca := HI2.out l[a] _ wr hf2
                      rw [show ((deep + 1 : Nat) : Int) = (deep : Int) + 1 from rfl] at hca
                      have HCa := Lib.hid hca
                      have ti0 : (0 : Int) ≤ (a : Int) := by omega
                      have ti1 : (a : Int) < (q : Int) := by omega
                      have HSt : Hid (∀ c : Nat, ManySays l[a] (deep + 1) c → b + c ≤ 1000 * (22 - deep) ∧ (b + c < 1000 → b + c = 1 + nodesFs (l.take (a + 1)) ∧ fewPs (l.take (a + 1)))) := Lib.hid (fun c hc => ⟨by have := hc.1; omega, fun hlt => by
                        obtain ⟨h1, h2⟩ := HS.out hbl
                        obtain ⟨h3, h4⟩ := hc.2 (by omega)
                        rw [List.take_succ_eq_append_getElem hjl, nodesFs_snoc, h3]
                        refine ⟨by omega, ?_⟩
                        rw [← List.take_succ_eq_append_getElem hjl]
                        exact fewPs_take hjl h2 h4⟩)
                      clear hca hf hf2 hcw hbel
                      go_wp2_with (go_at_call 14; refine (HCa.out).mono ?_; rintro e w3 ⟨c, rfl, hc, hb3⟩; have HB3 := Lib.hid (bthen HBr.out hb3); have hcb : c ≤ 22000 := (by have := hc.1; omega); (obtain ⟨hn1, hn2⟩ := HSt.out c hc); have HN2 := Lib.hid hn2; have HN1 := Lib.hid hn1; clear hb3 hc hn2 hn1)
                      go_roundw
                      case rel => exact ⟨a + 1, b + c, by omega, by go_num, by go_num, HN1.out, HN2, HB3⟩
                      case measure => simp [intOf]; omega
                    · have u4 : decide ((b : Int) < 1000) = false := by simp; omega
                      have u4' : decide (b < 1000) = false := by simp; omega
                      have hs : ManySays (.mk k t x p l) deep b := ⟨hb, fun h => absurd h hbl⟩
                      have HSy := Lib.hid hs
                      clear hs
                      go_wp2
                      go_ret
                      exact ⟨b, rfl, HSy.out, bthen HB0.out HBr.out⟩
                  · obtain rfl : a = q := by omega
                    have u3 : decide ((a : Int) < (a : Int)) = false := by simp
                    have u3' : decide (a < a) = false := by simp
                    have hs : ManySays (.mk k t x p l) deep b := ⟨hb, fun hlt => by
                      obtain ⟨h1, h2⟩ := HS.out hlt
                      rw [List.take_of_length_le (by rw [← HQ.out]; omega)] at h1 h2
                      exact ⟨h1.symm, by rw [← HM.out]; omega, h2⟩⟩
                    have HSy := Lib.hid hs
                    clear hs
                    go_wp2
                    go_ret
                    exact ⟨b, rfl, HSy.out, bthen HB0.out HBr.out⟩
theorem many_all : ∀ (d deep : Nat), deep + d = 21 → ManysF deep
  | 0, deep, h => many_step deep (by omega) (fun h' => absurd h' (by omega))
  | d + 1, deep, h => many_step deep (by omega) (fun _ => many_all d (deep + 1) (by omega))

/-- A filter that is gone through: of few others, each with few parts. -/
def SmallF (f : FT) : Prop := nodesF f ≤ 200 ∧ fewP f
end Go.Proofs.YtmpicolplknomaaDoor

/- The document's one: what it leaves is shorter, and the text of what it reads is no longer than three times what it has read. No program. -/
namespace Go.Proofs.YtmpicolplknomaaDoor
set_option linter.unusedVariables false
set_option linter.unusedSimpArgs false

/-- Texts, each with a star. -/
def lenP : List (List UInt8) → Nat
  | [] => 0
  | x :: l => x.length + 1 + lenP l
theorem plainO_le : ∀ (n : Nat) (l cur : List UInt8), l.length ≤ n → lenP (plainO cur l).1 + (plainO cur l).2.length ≤ cur.length + l.length + 1 ∧ (plainO cur l).2.length ≤ l.length
  | n, [], cur, _ => by rw [plainO_nil]; simp [lenP]
  | 0, c :: r, cur, h => by simp at h
  | n + 1, c :: r, cur, h => by
    by_cases hc : ∃ x y r', c = 92 ∧ r = x :: y :: r'
    · obtain ⟨x, y, r', rfl, rfl⟩ := hc
      cases he : escO x y with
      | none =>
        rw [plainO_no _ _ he]
        have := plainO_le n (x :: y :: r') (cur ++ [92]) (by simp at h ⊢; omega)
        simp at this ⊢
        omega
      | some b =>
        rw [plainO_esc _ _ he]
        have := plainO_le n r' (cur ++ [b]) (by simp at h ⊢; omega)
        simp at this ⊢
        omega
    · rw [plainO_gen cur c r (fun x y r' h1 h2 => hc ⟨x, y, r', h1, h2⟩)]
      split
      · simp [lenP]; omega
      · split
        · have := plainO_le n r [] (by simp at h; omega)
          simp [lenP] at this ⊢
          omega
        · have := plainO_le n r (cur ++ [c]) (by simp at h; omega)
          simp at this ⊢
          omega
theorem plainO_ne (n : Nat) : ∀ (l cur : List UInt8), l.length ≤ n → (plainO cur l).1 ≠ [] := by
  induction n with
  | zero =>
    intro l cur h
    have : l = [] := List.eq_nil_of_length_eq_zero (by omega)
    subst this
    rw [plainO_nil]; simp
  | succ n ih =>
    intro l cur h
    cases l with
    | nil => rw [plainO_nil]; simp
    | cons c r =>
      by_cases hc : ∃ x y r', c = 92 ∧ r = x :: y :: r'
      · obtain ⟨x, y, r', rfl, rfl⟩ := hc
        cases he : escO x y with
        | none => rw [plainO_no _ _ he]; exact ih _ _ (by simp at h ⊢; omega)
        | some b => rw [plainO_esc _ _ he]; exact ih _ _ (by simp at h ⊢; omega)
      · rw [plainO_gen cur c r (fun x y r' h1 h2 => hc ⟨x, y, r', h1, h2⟩)]
        split
        · simp
        · split
          · simp
          · exact ih _ _ (by simp at h; omega)
theorem starJ_lenP : ∀ p : List (List UInt8), (starJ p).length ≤ 3 * lenP p
  | [] => by simp [starJ]
  | [x] => by have := quo_lenQ x; simp [starJ, lenP]; omega
  | x :: y :: l => by
    have h1 := quo_lenQ x
    have h2 := starJ_lenP (y :: l)
    show (quo x ++ 42 :: starJ (y :: l)).length ≤ _
    rw [List.length_append, List.length_cons]
    show _ ≤ 3 * (x.length + 1 + lenP (y :: l))
    omega
/-- What is read is no longer than what is gone of the text. -/
def LenD (D : List UInt8 → Option (FT × List UInt8)) : Prop := ∀ q f r, D q = some (f, r) → r.length < q.length ∧ (textF f).length + 3 * r.length ≤ 3 * q.length
theorem kidsO_len {D : List UInt8 → Option (FT × List UInt8)} (hD : LenD D) : ∀ (fu : Nat) (s : List UInt8) (l : List FT) (r : List UInt8), kidsO D fu s = some (l, r) → r.length ≤ s.length ∧ (textFs l).length + 3 * r.length ≤ 3 * s.length
  | 0, s, l, r, h => by
    simp only [kidsO, Option.some.injEq, Prod.mk.injEq] at h
    obtain ⟨rfl, rfl⟩ := h
    simp [textFs]
  | fu + 1, s, l, r, h => by
    rw [kidsO] at h
    split at h
    · split at h
      · cases h
      · rename_i f r' he
        cases hk : kidsO D fu r' with
        | none => rw [hk] at h; cases h
        | some x =>
          obtain ⟨l', r2⟩ := x
          rw [hk] at h
          simp only [Option.map_some, Option.some.injEq, Prod.mk.injEq] at h
          obtain ⟨rfl, rfl⟩ := h
          have h1 := hD _ _ _ he
          have h2 := kidsO_len hD fu r' l' r2 hk
          show _ ∧ (textF f ++ textFs l').length + _ ≤ _
          rw [List.length_append]
          omega
    · simp only [Option.some.injEq, Prod.mk.injEq] at h
      obtain ⟨rfl, rfl⟩ := h
      simp [textFs]
theorem signF_len (k : Int) : (signF k).length ≤ 2 := by unfold signF; (repeat' split) <;> simp
theorem valO_len (k : Int) {P : List (List UInt8)} (hP : P ≠ []) : (quo (valO k P).2.1).length + (starJ (valO k P).2.2).length ≤ 3 * lenP P := by
  unfold valO
  split
  · split
    · simp [quo, starJ]
    · have := starJ_lenP P; simpa [quo] using this
  · cases P with
    | nil => exact absurd rfl hP
    | cons x l => have := quo_lenQ x; simp [starJ, lenP]; omega
theorem leafO_len {s : List UInt8} {f : FT} {r : List UInt8} (h : leafO s = some (f, r)) : r.length < s.length ∧ (textF f).length + 3 * r.length ≤ 3 * s.length + 4 := by
  unfold leafO at h
  have hd : (s.takeWhile typC).length + (s.dropWhile typC).length = s.length := by rw [← List.length_append, List.takeWhile_append_dropWhile]
  have hq : (signO (s.dropWhile typC)).2.length ≤ (s.dropWhile typC).length := by unfold signO; split <;> simp_all
  simp only at h
  split at h
  · rename_i r0 he
    rw [he] at hq
    obtain ⟨h1, h2⟩ := plainO_le _ r0 [] (Nat.le_refl _)
    have h3 := valO_len (signO (s.dropWhile typC)).1 (plainO_ne _ r0 [] (Nat.le_refl _))
    simp only [Option.some.injEq, Prod.mk.injEq] at h
    obtain ⟨rfl, rfl⟩ := h
    have h4 := signF_len (valO (signO (s.dropWhile typC)).1 (plainO [] r0).1).1
    rw [textF]
    simp [textFs] at *
    omega
  · cases h
theorem oneO_len : ∀ d : Nat, LenD (oneO d)
  | 0, q, f, r, h => by cases h
  | d + 1, q, f, r, h => by
    have ih := oneO_len d
    unfold oneO at h
    split at h
    · rename_i c r0
      split at h
      · rename_i g X he
        simp only [Option.some.injEq, Prod.mk.injEq] at h
        obtain ⟨rfl, rfl⟩ := h
        unfold bodyO at he
        split at he
        · cases hk : kidsO (oneO d) r0.length r0 with
          | none => rw [hk] at he; cases he
          | some x =>
            obtain ⟨l, r2⟩ := x
            rw [hk] at he
            simp only [Option.map_some, Option.some.injEq, Prod.mk.injEq] at he
            obtain ⟨rfl, rfl⟩ := he
            have h1 := kidsO_len ih _ _ _ _ hk
            have h2 : (signF (holdO c)).length = 1 := by unfold holdO; (repeat' split) <;> rfl
            rw [textF]
            simp [quo, starJ, h2] at *
            omega
        · have h1 := leafO_len he
          simp at h1 ⊢
          omega
      · cases h
    · cases h
theorem gotO_len {s : List UInt8} {f : FT} {r : List UInt8} (h : oneO 13 s = some (f, r)) : (textF f).length ≤ 3 * s.length := by
  have := (oneO_len 13 _ _ _ h).2
  omega

/-! ### The text of a filter that is gone through -/
theorem textsF_small {d : Nat} (ih : ∀ f, mayF d f = true → (textF f).length ≤ 10000000 * nodesF f) : ∀ l : List FT, l.all (mayF d) = true → (textFs l).length ≤ 10000000 * nodesFs l
  | [], _ => by simp [textFs]
  | f :: l, h => by
    simp only [List.all_cons, Bool.and_eq_true] at h
    have h1 := ih f h.1
    have h2 := textsF_small ih l h.2
    show (textF f ++ textFs l).length ≤ 10000000 * (nodesF f + nodesFs l)
    rw [List.length_append]
    omega
theorem textF_small : ∀ (d : Nat) (f : FT), mayF d f = true → (textF f).length ≤ 10000000 * nodesF f
  | 0, f, h => by cases f; cases h
  | d + 1, .mk k t v p l, h => by
    have h' : (if holdsC k then t.isEmpty && v.isEmpty && p.isEmpty && kidsC k l.length && l.all (mayF d) else okLeaf k t v p l.length) = true := h
    have hs := signF_len k
    show _ ≤ 10000000 * (1 + nodesFs l)
    rw [textF]
    split at h'
    · simp only [Bool.and_eq_true, List.isEmpty_iff] at h'
      obtain ⟨⟨⟨⟨rfl, rfl⟩, rfl⟩, _⟩, hall⟩ := h'
      have := textsF_small (fun f => textF_small d f) l hall
      simp [quo, starJ]
      omega
    · have h1 := okType_len (okLeaf_type h').1
      have h2 : l = [] := List.eq_nil_of_length_eq_zero (okLeaf_type h').2
      subst h2
      have hq := quo_lenQ v
      have h3 : v.length ≤ 100 ∧ (starJ p).length ≤ 9000000 := by
        unfold okLeaf at h'
        simp only [Bool.and_eq_true] at h'
        obtain ⟨_, h'⟩ := h'
        split at h'
        · simp only [Bool.and_eq_true, decide_eq_true_eq, List.isEmpty_iff] at h'
          obtain ⟨h4, rfl⟩ := h'
          exact ⟨h4, by simp [starJ]⟩
        · split at h'
          · simp only [Bool.and_eq_true, List.isEmpty_iff] at h'
            obtain ⟨rfl, h4⟩ := h'
            exact ⟨by simp, (parts_len h4).2⟩
          · split at h'
            · simp only [Bool.and_eq_true, List.isEmpty_iff] at h'
              obtain ⟨rfl, rfl⟩ := h'
              exact ⟨by simp, by simp [starJ]⟩
            · cases h'
      simp [textFs]
      omega
theorem small_len {f : FT} (h : SmallF f) (hm : mayF 13 f = true) : (textF f).length ≤ 2000000000 := by
  have := textF_small 13 f hm
  have := h.1
  omega
end Go.Proofs.YtmpicolplknomaaDoor
