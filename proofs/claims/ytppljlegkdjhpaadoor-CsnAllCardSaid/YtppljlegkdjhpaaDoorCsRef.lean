/- The document's numbers of changes: the text, reading it, how two stand: the walks. -/
import Derived.Test.YtppljlegkdjhpaaDoorCsRead
namespace Go.Proofs.YtppljlegkdjhpaaDoor
open Go.RowKit
set_option linter.unusedVariables false
set_option linter.unusedSimpArgs false

set_option maxRecDepth 100000 in
set_option maxHeartbeats 4000000 in
theorem textCR_any (e n : Int) (h : mayN e n = true) (w : World) :
    Calls Tryd.prog 14 #[.agg #[.int .i64 e, .int .i64 n]] w fun x w' => x = .returned (.string (ofL (textC e n))) ∧ Below w.heap.size w w' := by
  obtain ⟨⟨he0, he1⟩, hn0, hn1⟩ := (mayN_iff e n).1 h
  obtain ⟨W0, hW0⟩ : ∃ W, W = w.alloc (.cells #[.int .i64 e, .int .i64 n] 23) := ⟨_, rfl⟩
  have hb0 : Below w.heap.size w W0 := by rw [hW0]; exact box2C w e n
  have c0 : W0.cell? ⟨w.heap.size, 0, none⟩ = some (.int .i64 e) := by rw [hW0]; go_simp
  have c1 : W0.cell? ⟨w.heap.size, 1, none⟩ = some (.int .i64 n) := by rw [hW0]; go_simp
  have hs0 : W0.heap.size = w.heap.size + 1 := by rw [hW0]; go_simp
  have hl : w.heap.size < W0.heap.size := by omega
  obtain ⟨A, hA⟩ : ∃ A, A = ofL (Lib.itoa e) := ⟨_, rfl⟩
  obtain ⟨C, hC⟩ : ∃ C, C = ofL (Lib.itoa n) := ⟨_, rfl⟩
  have hAs : A.size ≤ 21 := by rw [hA, ofL_size]; exact Lib.itoa_length_le e (by omega) (by omega)
  have hCs : C.size ≤ 21 := by rw [hC, ofL_size]; exact Lib.itoa_length_le n (by omega) (by omega)
  have h1 := fun W => digits_any e (by omega) (by omega) W
  have h2 := fun W => digits_any n (by omega) (by omega) W
  have hT : ofL (textC e n) = A ++ ⟨#[46]⟩ ++ C := by
    rw [hA, hC]
    show _ = ofL (Lib.itoa e) ++ ofL [46] ++ ofL (Lib.itoa n)
    rw [ofL_app, ofL_app]
    rfl
  rw [← hA] at h1
  rw [← hC] at h2
  obtain ⟨M, hM⟩ : ∃ M, M = A ++ (⟨#[46]⟩ : ByteArray) := ⟨_, rfl⟩
  obtain ⟨R, hR⟩ : ∃ R, R = M ++ C := ⟨_, rfl⟩
  rw [hT, ← hM, ← hR]
  have hMs : M.size ≤ 22 := by rw [hM, ByteArray.size_append]; show A.size + 1 ≤ 22; omega
  have hM' := hM.symm
  have hR' := hR.symm
  have s1 : (9223372036854775807 < A.size + (⟨#[46]⟩ : ByteArray).size) = False := eq_false (by show ¬ 9223372036854775807 < A.size + 1; omega)
  have s1' : (9223372036854775807 < A.size + 1) = False := eq_false (by omega)
  have s2 : (9223372036854775807 < M.size + C.size) = False := eq_false (by omega)
  have hst : W0.drew.cell? ⟨w.heap.size, 0, none⟩ = some (.int .i64 e) ∧ W0.drew.cell? ⟨w.heap.size, 1, none⟩ = some (.int .i64 n) ∧ Below W0.heap.size W0 W0.drew := ⟨c0, c1, (Below.refl _ _).drew⟩
  have hk : ∀ W, Below W0.heap.size W0 W → W.cell? ⟨w.heap.size, 0, none⟩ = some (.int .i64 e) ∧ W.cell? ⟨w.heap.size, 1, none⟩ = some (.int .i64 n) ∧ Below W0.heap.size W0 W := fun W hb => ⟨(hb.cell (p := ⟨w.heap.size, 0, none⟩) hl).trans c0, (hb.cell (p := ⟨w.heap.size, 1, none⟩) hl).trans c1, hb⟩
  have HK := Lib.hid hk
  have H1 := Lib.hid h1
  have H2 := Lib.hid h2
  have HW0 := Lib.hid hW0.symm
  have HB := Lib.hid hb0
  clear hk h1 h2 hW0 hb0 c0 c1 hl hs0 hA hC hT hM hR hAs hCs hMs he0 he1 hn0 hn1 h
  go_enter Tryd.func14, Tryd.ntmps14
  go_upto_region 1 with (fail)
  rw [HW0.out]
  go_region_held3 (fun w' => w'.cell? ⟨w.heap.size, 0, none⟩ = some (.int .i64 e) ∧ w'.cell? ⟨w.heap.size, 1, none⟩ = some (.int .i64 n) ∧ Below W0.heap.size W0 w') (first | (with_reducible exact hst) | (go_split_ands; exact HK.out _ (bthen (by assumption) hbx)))
    (first
      | (go_at_call 24; go_split_ands; (with_reducible refine (H1.out _).mono ?_); rintro x wx ⟨rfl, hbx⟩)
      | (go_at_call 24; go_split_ands; (with_reducible refine (H2.out _).mono ?_); rintro x wx ⟨rfl, hbx⟩))
  all_goals
    go_split_ands
    have hT : Below W0.heap.size W0 wx := by assumption
    have HT := Lib.hid (bthen HB.out hT)
    go_wp2
    go_ret
    exact ⟨rfl, HT.out⟩

theorem isDg_iff (c : UInt8) : isDg c = true ↔ 48 ≤ c.toNat ∧ c.toNat ≤ 57 := by simp [isDg]
set_option maxRecDepth 100000 in
set_option maxHeartbeats 4000000 in
theorem decimal_any (s : ByteArray) (hs : s.size ≤ 1000000) (w : World) :
    Calls Tryd.prog 19 #[.string s] w fun e w' => e = .returned (.tuple #[.int .i64 (decN s.data.toList : Nat), .int .i64 (decK s.data.toList : Nat)]) ∧ w' = w := by
  obtain ⟨l, hl⟩ : ∃ l, l = s.data.toList := ⟨_, rfl⟩
  have hlen : l.length = s.size := by rw [hl, bytes_len]
  rw [← hl]
  have HL := Lib.hid hl
  have HLen := Lib.hid hlen
  clear hl hlen
  go_enter Tryd.func19, Tryd.ntmps19
  go_wp2
  go_loopw [4, 5] (fun n k wr => ∃ (j a : Nat), k = .int .i64 j ∧ n = .int .i64 a ∧ j ≤ s.size ∧ j ≤ 17 ∧ Hid (Lib.decFrom 0 (l.take j) = some a) ∧ Hid (∀ c ∈ l.take j, isDg c = true) ∧ Hid (w = wr)) (fun _ k _ => s.size - (intOf k).toNat)
  case atStart => exact ⟨0, 0, rfl, rfl, by omega, by omega, Lib.hid rfl, Lib.hid (by simp), Lib.hid rfl⟩
  case round =>
    obtain ⟨j, a, rfl, rfl, hj, h17, HD, HA, hwr⟩ := hrel
    have hwr := hwr.out
    subst hwr
    have HAs : Hid (a < 100000000000000000) := Lib.hid (decFrom_lt17 h17 HD.out)
    have HEnd : Hid ((j = l.length ∨ j = 17 ∨ ∃ h : j < l.length, isDg l[j] = false) → decN l = a ∧ decK l = j) := Lib.hid (fun h => by
      have h1 := digsC_end (s := l) (j := j) (by rw [HLen.out]; exact hj) h17 HA.out h
      unfold decN decK
      rw [h1, HD.out]
      exact ⟨rfl, by rw [List.length_take, HLen.out]; omega⟩)
    by_cases h1 : j < s.size
    · have t1 : decide ((j : Int) < (s.size : Int)) = true := by simp; omega
      by_cases h2 : j < 17
      · have t2 : decide ((j : Int) < 17) = true := by simp; omega
        have hjl : j < l.length := by rw [HLen.out]; exact h1
        have hc : l[j] = s[j]'h1 := by
          have : l = s.data.toList := HL.out
          subst this
          simp
          rfl
        have ti0 : (0 : Int) ≤ (j : Int) := by omega
        have ti1 : (j : Int) < (s.size : Int) := by omega
        by_cases h3 : 48 ≤ (s[j]'h1).toNat
        · have t3 : decide ((48 : Int) ≤ ((s[j]'h1).toNat : Int)) = true := by simp; omega
          by_cases h4 : (s[j]'h1).toNat ≤ 57
          · have t4 : decide (((s[j]'h1).toNat : Int) ≤ 57) = true := by simp; omega
            have HNx : Hid (Lib.decFrom 0 (l.take (j + 1)) = some (a * 10 + ((s[j]'h1).toNat - 48)) ∧ ∀ c ∈ l.take (j + 1), isDg c = true) := Lib.hid (by
              have hd : isDg l[j] = true := by rw [hc, isDg_iff]; exact ⟨h3, h4⟩
              refine ⟨?_, ?_⟩
              · rw [Lib.decFrom_take l j 0 a l[j] (l[j].toNat - 48) HD.out (List.getElem?_eq_getElem hjl) (isDg_val hd), hc]
              · rw [List.take_succ_eq_append_getElem hjl]
                intro c hm
                rcases List.mem_append.1 hm with h | h
                · exact HA.out c h
                · rw [List.mem_singleton.1 h]; exact hd)
            have hal := HAs.out
            go_wp2
            go_roundw
            case rel => exact ⟨j + 1, a * 10 + ((s[j]'h1).toNat - 48), by go_num, by congr 1; omega, by omega, by omega, Lib.hid HNx.out.1, Lib.hid HNx.out.2, Lib.hid (by trivial)⟩
            case measure => simp [intOf]; omega
          · have t4 : decide (((s[j]'h1).toNat : Int) ≤ 57) = false := by simp; omega
            have HE := Lib.hid (HEnd.out (.inr (.inr ⟨hjl, by rw [hc]; cases hq : isDg (s[j]'h1); rfl; exact absurd ((isDg_iff _).1 hq).2 h4⟩)))
            go_wp2
            go_ret2
            exact ⟨by rw [HE.out.1, HE.out.2]; rfl, rfl⟩
        · have t3 : decide ((48 : Int) ≤ ((s[j]'h1).toNat : Int)) = false := by simp; omega
          have HE := Lib.hid (HEnd.out (.inr (.inr ⟨hjl, by rw [hc]; cases hq : isDg (s[j]'h1); rfl; exact absurd ((isDg_iff _).1 hq).1 h3⟩)))
          go_wp2
          go_ret2
          exact ⟨by rw [HE.out.1, HE.out.2]; rfl, rfl⟩
      · have t2 : decide ((j : Int) < 17) = false := by simp; omega
        have HE := Lib.hid (HEnd.out (.inr (.inl (by omega))))
        go_wp2
        go_ret2
        exact ⟨by rw [HE.out.1, HE.out.2]; rfl, rfl⟩
    · have t1 : decide ((j : Int) < (s.size : Int)) = false := by simp; omega
      have HE := Lib.hid (HEnd.out (.inl (by rw [HLen.out]; omega)))
      go_wp2
      go_ret2
      exact ⟨by rw [HE.out.1, HE.out.2]; rfl, rfl⟩

/-! ### ReadCsn -/
def refO (s : List UInt8) : Option (Int × Int) :=
  if s.length ≤ decK s then none
  else if mayN (decN s : Nat) (decN (s.drop (decK s + 1)) : Nat) = true ∧ textC (decN s : Nat) (decN (s.drop (decK s + 1)) : Nat) = s then some ((decN s : Nat), (decN (s.drop (decK s + 1)) : Nat)) else none
theorem refO_eq (s : List UInt8) : refO s = readO s := by
  by_cases h : ∃ e n, mayN e n = true ∧ s = textC e n
  · obtain ⟨e, n, hm, rfl⟩ := h
    obtain ⟨⟨he0, he1⟩, hn0, hn1⟩ := (mayN_iff e n).1 hm
    obtain ⟨h1, h2, h3⟩ := text_dec hm
    rw [readO_text hm]
    unfold refO
    have h4 := (text_len hm).2
    rw [if_neg (by rw [h2]; omega), h3, h1]
    have e1 : ((e.toNat : Nat) : Int) = e := by omega
    have e2 : ((n.toNat : Nat) : Int) = n := by omega
    rw [e1, e2, if_pos ⟨hm, rfl⟩]
  · have hn : ∀ e n, mayN e n = true → s ≠ textC e n := fun e n hm he => h ⟨e, n, hm, he⟩
    rw [readO_none hn]
    unfold refO
    split
    · rfl
    · split
      · rename_i hc
        exact absurd hc.2.symm (hn _ _ hc.1)
      · rfl
def readRV (o : Option (Int × Int)) : Value := match o with
  | some (e, n) => .agg #[.int .i64 e, .int .i64 n, .bool true]
  | none => .agg #[.int .i64 0, .int .i64 0, .bool false]
theorem dropS (s : ByteArray) (k : Nat) : (s.extract k s.size).data.toList = s.data.toList.drop k := by
  rw [ByteArray.data_extract, Array.toList_extract, List.extract_eq_take_drop]
  rw [List.take_of_length_le (by rw [List.length_drop, bytes_len]; omega)]
set_option maxRecDepth 100000 in
set_option maxHeartbeats 4000000 in
theorem readCR_any (s : ByteArray) (hs : s.size ≤ 1000000) (w : World) :
    Calls Tryd.prog 8 #[.string s] w fun x w' => x = .returned (readRV (readO s.data.toList)) ∧ Below w.heap.size w w' := by
  rw [← refO_eq]
  obtain ⟨a, ha⟩ : ∃ a, a = decN s.data.toList := ⟨_, rfl⟩
  obtain ⟨k, hk⟩ : ∃ k, k = decK s.data.toList := ⟨_, rfl⟩
  obtain ⟨b, hb⟩ : ∃ b, b = decN (s.data.toList.drop (k + 1)) := ⟨_, rfl⟩
  unfold refO
  rw [← hk, ← ha, ← hb, bytes_len]
  have hkl : k ≤ s.size := by rw [hk, ← bytes_len]; exact decK_le _
  obtain ⟨W0, hW0⟩ : ∃ W, W = w.alloc (.cells #[.int .i64 0, .int .i64 0, .bool false] 28) := ⟨_, rfl⟩
  have hb0 : Below w.heap.size w W0 := by rw [hW0]; exact (Below.refl _ _).alloc (Nat.le_refl _) _
  have hs0 : W0.heap.size = w.heap.size + 1 := by rw [hW0]; go_simp
  obtain ⟨r, hr⟩ : ∃ r, r = w.heap.size := ⟨_, rfl⟩
  have r0 : W0.cell? ⟨r, 0, none⟩ = some (.int .i64 0) := by rw [hW0, hr]; go_simp
  have r1 : W0.cell? ⟨r, 1, none⟩ = some (.int .i64 0) := by rw [hW0, hr]; go_simp
  have r2 : W0.cell? ⟨r, 2, none⟩ = some (.bool false) := by rw [hW0, hr]; go_simp
  have f0 : W0.frozen? ⟨r, 0, none⟩ = false := by rw [hW0, hr]; go_simp
  have f1 : W0.frozen? ⟨r, 1, none⟩ = false := by rw [hW0, hr]; go_simp
  have f2 : W0.frozen? ⟨r, 2, none⟩ = false := by rw [hW0, hr]; go_simp
  have hkeep : ∀ W, Below W0.heap.size W0 W → W.cell? ⟨r, 0, none⟩ = some (.int .i64 0) ∧ W.cell? ⟨r, 1, none⟩ = some (.int .i64 0) ∧ W.cell? ⟨r, 2, none⟩ = some (.bool false) ∧ W.frozen? ⟨r, 0, none⟩ = false ∧ W.frozen? ⟨r, 1, none⟩ = false ∧ W.frozen? ⟨r, 2, none⟩ = false := fun W hb =>
    ⟨(hb.cell (p := ⟨r, 0, none⟩) (by show r < W0.heap.size; omega)).trans r0, (hb.cell (p := ⟨r, 1, none⟩) (by show r < W0.heap.size; omega)).trans r1, (hb.cell (p := ⟨r, 2, none⟩) (by show r < W0.heap.size; omega)).trans r2, (hb.frozen (p := ⟨r, 0, none⟩) (by show r < W0.heap.size; omega)).trans f0, (hb.frozen (p := ⟨r, 1, none⟩) (by show r < W0.heap.size; omega)).trans f1, (hb.frozen (p := ⟨r, 2, none⟩) (by show r < W0.heap.size; omega)).trans f2⟩
  have h1 : ∀ W, Calls Tryd.prog 19 #[.string s] W fun e w' => e = .returned (.tuple #[.int .i64 a, .int .i64 k]) ∧ w' = W := fun W => by
    rw [ha, hk]; exact decimal_any s hs W
  have hrl : w.heap.size ≤ r := by omega
  have HRL := Lib.hid hrl
  have HK := Lib.hid hkeep
  have H1 := Lib.hid h1
  have HW0 := Lib.hid hW0.symm
  have HB := Lib.hid hb0
  have HR := Lib.hid hr.symm
  have HS := Lib.hid hs0
  by_cases hle : s.size ≤ k
  · rw [if_pos hle]
    have hke : k = s.size := by omega
    subst hke
    have t1 : decide ((s.size : Int) ≤ (s.size : Int)) = true := by simp
    clear ha hb hk hkl hW0 hb0 hs0 hr hkeep h1 hrl hs hle
    go_enter Tryd.func8, Tryd.ntmps8
    go_upto_region 1 with (fail)
    rw [HW0.out, HR.out]
    go_wp2_with (first
      | (go_at_call 19; refine (H1.out _).mono ?_; rintro x w2 ⟨rfl, rfl⟩))
    refine bodyPost_ret (v := .agg #[.int .i64 0, .int .i64 0, .bool false]) (by simp [results, Tryd.results8, go_sem, r0, r1, r2]) rfl ⟨rfl, ((HB.out.setCell HRL.out _).setCell HRL.out _).setCell HRL.out _⟩
  · rw [if_neg hle]
    have t1 : decide ((s.size : Int) ≤ (k : Int)) = false := by simp; omega
    have ew : IntKind.i64.wrap ((k : Int) + 1) = (k : Int) + 1 := IntWalk.i64_in _ (by omega)
    have g2 : (0 : Int) ≤ (k : Int) + 1 := by omega
    have g3 : (k : Int) + 1 ≤ (s.size : Int) := by omega
    have g4 : ((k : Int) + 1).toNat = k + 1 := by omega
    obtain ⟨T, hT⟩ : ∃ T, T = s.extract (k + 1) s.size := ⟨_, rfl⟩
    have hTl : T.data.toList = s.data.toList.drop (k + 1) := by rw [hT, dropS]
    have hTs : T.size ≤ 1000000 := by rw [← bytes_len, hTl, List.length_drop, bytes_len]; omega
    have h2 : ∀ W, Calls Tryd.prog 19 #[.string T] W fun e w' => e = .returned (.tuple #[.int .i64 b, .int .i64 (decK T.data.toList : Nat)]) ∧ w' = W := fun W => by
      rw [hb, ← hTl]; exact decimal_any T hTs W
    obtain ⟨k2, hk2⟩ : ∃ x, x = decK T.data.toList := ⟨_, rfl⟩
    rw [← hk2] at h2
    have H2 := Lib.hid h2
    have h3 := fun W => mayR_any a b W
    obtain ⟨W1, hW1⟩ : ∃ W, W = W0.alloc (.cells #[.int .i64 a, .int .i64 b] 23) := ⟨_, rfl⟩
    have hb1 : Below W0.heap.size W0 W1 := by rw [hW1]; exact (Below.refl _ _).alloc (Nat.le_refl _) _
    have hs1 : W1.heap.size = W0.heap.size + 1 := by rw [hW1]; go_simp
    obtain ⟨p, hp⟩ : ∃ p, p = W0.heap.size := ⟨_, rfl⟩
    have c0 : W1.cell? ⟨p, 0, none⟩ = some (.int .i64 a) := by rw [hW1, hp]; go_simp
    have c1 : W1.cell? ⟨p, 1, none⟩ = some (.int .i64 b) := by rw [hW1, hp]; go_simp
    have hcx : ∀ W, Below W1.heap.size W1 W → W.cell? ⟨p, 0, none⟩ = some (.int .i64 a) ∧ W.cell? ⟨p, 1, none⟩ = some (.int .i64 b) := fun W hb =>
      ⟨(hb.cell (p := ⟨p, 0, none⟩) (by show p < W1.heap.size; omega)).trans c0, (hb.cell (p := ⟨p, 1, none⟩) (by show p < W1.heap.size; omega)).trans c1⟩
    have HCx := Lib.hid hcx
    have HW1 := Lib.hid hW1.symm
    have HP := Lib.hid hp.symm
    have HB1 := Lib.hid hb1
    have hT' := hT.symm
    cases hm : mayN a b with
    | false =>
      rw [if_neg (by simp)]
      rw [hm] at h3
      have H3 := Lib.hid h3
      clear ha hb hk hkl hW0 hb0 hs0 hr f0 f1 f2 hkeep h1 hrl hs hle hT hTl hTs h2 h3 hW1 hb1 hs1 hp hcx hm hk2 r0 r1 r2
      go_enter Tryd.func8, Tryd.ntmps8
      go_upto_region 1 with (fail)
      rw [HW0.out, HR.out]
      go_upto_region 6 with (first
        | (go_at_call 19; (with_reducible refine (H1.out _).mono ?_); rintro x w2 ⟨rfl, rfl⟩)
        | (go_at_call 19; (with_reducible refine (H2.out _).mono ?_); rintro x w2 ⟨rfl, rfl⟩))
      rw [HW1.out, HP.out]
      go_wp2_with (first
        | (go_at_call 10; refine (H3.out _).mono ?_; rintro x w3 ⟨rfl, hb3⟩; have HB3 := Lib.hid (bthen HB1.out hb3); (obtain ⟨k3, k4, k5, k6, k7, k8⟩ := HK.out _ HB3.out); clear hb3))
      refine bodyPost_ret (v := .agg #[.int .i64 0, .int .i64 0, .bool false]) (by simp [results, Tryd.results8, go_sem, k3, k4, k5]) rfl ⟨rfl, (((bthen HB.out HB3.out).setCell HRL.out _).setCell HRL.out _).setCell HRL.out _⟩
    | true =>
      rw [hm] at h3
      have H3 := Lib.hid h3
      have h4 := fun W => textCR_any a b hm W
      by_cases he : ofL (textC a b) = s
      · have he2 : textC a b = s.data.toList := by rw [← he, ofL_list]
        rw [if_pos ⟨rfl, he2⟩]
        have h4' : ∀ W, Calls Tryd.prog 14 #[.agg #[.int .i64 a, .int .i64 b]] W fun x w' => x = .returned (.string s) ∧ Below W.heap.size W w' := fun W => by rw [← he]; exact h4 W
        have H4 := Lib.hid h4'
        have t2 : (s.toList == s.toList) = true := by simp
        clear ha hb hk hkl hW0 hb0 hs0 hr f0 f1 f2 hkeep h1 hrl hs hle hT hTl hTs h2 h3 hW1 hb1 hs1 hp hcx hm hk2 h4 h4' he he2 r0 r1 r2
        go_enter Tryd.func8, Tryd.ntmps8
        go_upto_region 1 with (fail)
        rw [HW0.out, HR.out]
        go_upto_region 6 with (first
          | (go_at_call 19; (with_reducible refine (H1.out _).mono ?_); rintro x w2 ⟨rfl, rfl⟩)
          | (go_at_call 19; (with_reducible refine (H2.out _).mono ?_); rintro x w2 ⟨rfl, rfl⟩))
        rw [HW1.out, HP.out]
        go_wp2_with (first
          | (go_at_call 10; refine (H3.out _).mono ?_; rintro x w3 ⟨rfl, hb3⟩; have HB3 := Lib.hid hb3; (obtain ⟨y0, y1⟩ := HCx.out _ HB3.out); clear hb3)
          | (go_at_call 14; refine (H4.out _).mono ?_; rintro x w4 ⟨rfl, hb4⟩; have HB4 := Lib.hid (bthen HB1.out (bthen HB3.out hb4)); (obtain ⟨y3, y4⟩ := HCx.out _ (bthen HB3.out hb4)); (obtain ⟨k3, k4, k5, k6, k7, k8⟩ := HK.out _ HB4.out); clear hb4))
        refine bodyPost_ret (v := .agg #[.int .i64 a, .int .i64 b, .bool true]) (by simp [results, Tryd.results8, go_sem, k3, k4, k5]) rfl ⟨rfl, (((bthen HB.out HB4.out).setCell HRL.out _).setCell HRL.out _).setCell HRL.out _⟩
      · have he2 : ¬ textC a b = s.data.toList := fun h => he (by rw [h]; exact bytes_ext (by rw [ofL_list]))
        rw [if_neg (by rintro ⟨_, h⟩; exact he2 h)]
        obtain ⟨S, hS⟩ : ∃ S, S = ofL (textC a b) := ⟨_, rfl⟩
        rw [← hS] at he h4
        have t2 := str_ne he
        have H4 := Lib.hid h4
        clear ha hb hk hkl hW0 hb0 hs0 hr f0 f1 f2 hkeep h1 hrl hs hle hT hTl hTs h2 h3 hW1 hb1 hs1 hp hcx hm hk2 h4 he he2 hS r0 r1 r2
        go_enter Tryd.func8, Tryd.ntmps8
        go_upto_region 1 with (fail)
        rw [HW0.out, HR.out]
        go_upto_region 6 with (first
          | (go_at_call 19; (with_reducible refine (H1.out _).mono ?_); rintro x w2 ⟨rfl, rfl⟩)
          | (go_at_call 19; (with_reducible refine (H2.out _).mono ?_); rintro x w2 ⟨rfl, rfl⟩))
        rw [HW1.out, HP.out]
        go_wp2_with (first
          | (go_at_call 10; refine (H3.out _).mono ?_; rintro x w3 ⟨rfl, hb3⟩; have HB3 := Lib.hid hb3; (obtain ⟨y0, y1⟩ := HCx.out _ HB3.out); clear hb3)
          | (go_at_call 14; refine (H4.out _).mono ?_; rintro x w4 ⟨rfl, hb4⟩; have HB4 := Lib.hid (bthen HB1.out (bthen HB3.out hb4)); (obtain ⟨k3, k4, k5, k6, k7, k8⟩ := HK.out _ HB4.out); clear hb4))
        refine bodyPost_ret (v := .agg #[.int .i64 0, .int .i64 0, .bool false]) (by simp [results, Tryd.results8, go_sem, k3, k4, k5]) rfl ⟨rfl, (((bthen HB.out HB4.out).setCell HRL.out _).setCell HRL.out _).setCell HRL.out _⟩

end Go.Proofs.YtppljlegkdjhpaaDoor
