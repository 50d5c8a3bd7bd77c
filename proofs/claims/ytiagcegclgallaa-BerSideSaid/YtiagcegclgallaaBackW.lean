/- What BerBack asks: the walk. -/
import Derived.Test.YtiagcegclgallaaArg
import Derived.Test.YtiagcegclgallaaBytes
namespace Go.Proofs.Ytiagcegclgallaa
open Go.RowKit
set_option linter.unusedVariables false

/-- What is told, by its parts. -/
def ToldV (t : T) (nx er : Int) (W : World) (e : Ending) (w' : World) : Prop :=
  ∃ tag s a n c, e = .returned (.tuple #[.agg #[.int .i64 tag, .string s, .slice a n c], .int .i64 nx, .int .i64 er]) ∧ IsT w'.heap.size w' t (.agg #[.int .i64 tag, .string s, .slice a n c]) ∧ Below W.heap.size W w'

theorem get_v {s : ByteArray} {at_ : Int} {r : Except Int (T × Nat)} (h : getAt s at_ = r) (hs : s.size ≤ 140737488351232) (W : World) : Calls Try.prog 19 #[.string s, .int .i64 at_] W (ToldV (tT r) (tN at_ r) (tE r) W) := by
  subst h; exact get_told s at_ hs W

theorem putB_list {t : T} (h : okT 12 t = true) : (putB t).data.toList = enc t := by simp [putB, h]
theorem putB_size {t : T} (h : okT 12 t = true) : (putB t).size = (enc t).length := by simp [putB, h, ByteArray.size]
theorem enc_pos (t : T) : 0 < (enc t).length := by
  rw [enc_length]; have := @headB_length t.tag (body t).length; omega

theorem around {t : T} (h : okT 12 t = true) (fl bl : List UInt8) : getAt ((⟨fl.toArray⟩ : ByteArray) ++ putB t ++ ⟨bl.toArray⟩) (fl.length : Nat) = .ok (t, (putB t).size) := by
  have hl : ((⟨fl.toArray⟩ : ByteArray) ++ putB t ++ ⟨bl.toArray⟩).data.toList = fl ++ (enc t ++ bl) := by
    simp [ByteArray.data_append, putB_list h]
  have hsz : ((⟨fl.toArray⟩ : ByteArray) ++ putB t ++ ⟨bl.toArray⟩).size = fl.length + ((enc t).length + bl.length) := by
    rw [ByteArray.size_append, ByteArray.size_append, putB_size h]; show fl.toArray.size + _ + bl.toArray.size = _; simp; omega
  unfold getAt
  rw [if_neg (by rw [hsz]; omega), hl]
  rw [Int.toNat_natCast, List.drop_left, dec_enc t 12 bl h, putB_size h]

theorem cut_short {t : T} (h : okT 12 t = true) (k : Nat) (hk : k < (putB t).size) : getAt ((putB t).extract 0 k) 0 = .error 6 := by
  have hk' : k < (enc t).length := by rw [← putB_size h]; exact hk
  rw [getAt_list _ ((enc t).take k) (by rw [← putB_list h]; simp)]
  exact dec_cut t 12 k h hk'

/-- A byte turned: another one, or none. -/
theorem turned {t : T} (h : okT 12 t = true) (k : Nat) (hk : k < (putB t).size) (y : UInt8) (hy : y ≠ (putB t)[k]) :
    tE (getAt ⟨((putB t).data.toList.set k y).toArray⟩ 0) ≠ 0 ∨ tN 0 (getAt ⟨((putB t).data.toList.set k y).toArray⟩ 0) ≠ ((putB t).size : Int) ∨ sameT (tT (getAt ⟨((putB t).data.toList.set k y).toArray⟩ 0)) t = false := by
  obtain ⟨Q, hQ⟩ : ∃ Q, Q = (putB t).data.toList.set k y := ⟨_, rfl⟩
  rw [← hQ]
  rw [getAt_list ⟨Q.toArray⟩ Q rfl]
  cases hd : dec 12 Q with
  | error er =>
    left
    exact dec_err hd
  | ok tn =>
    obtain ⟨u, n⟩ := tn
    right
    by_cases hn : n = (putB t).size
    · right
      cases hsm : sameT u t with
      | false => exact hsm
      | true =>
        exfalso
        have hut := (sameT_iff u t).1 hsm
        subst hut
        have hc := (dec_canon 12 Q u n hd).2
        have hQl : Q.length = (putB u).size := by rw [hQ]; simp
        rw [List.take_of_length_le (by omega)] at hc
        apply hy
        have h1 : Q[k]? = some y := by rw [hQ, List.getElem?_set_self (by simpa using hk)]
        rw [← hc, ← putB_list h] at h1
        rw [List.getElem?_eq_getElem (by simpa using hk)] at h1
        simp at h1
        exact h1.symm
    · left
      show (0 : Int) + (n : Nat) ≠ _
      omega
theorem alloc_at (w : World) (o : Obj) : (w.alloc o).heap[w.heap.size]? = some o := World.alloc_heap_new w o

/-- The fences say no. -/
theorem back_out (ns fl bl : List UInt8) (a0 a2 a3 : Option Addr) (c0 c2 c3 : Nat) (s : ByteArray) (cut at_ by_ : Int) (hn : ¬ (ns.length ≤ 20 ∧ s.size ≤ 200 ∧ fl.length ≤ 20 ∧ bl.length ≤ 20 ∧ by_ ≠ 0)) (w : World) :
    Calls Try.prog 6 #[.slice a0 ns.length c0, .string s, .slice a2 fl.length c2, .slice a3 bl.length c3, .int .u16 cut, .int .u16 at_, .int .u8 by_] w fun e w' => e = .returned (.bool true) ∧ Below w.heap.size w w' := by
  by_cases q1 : ns.length ≤ 20
  · have d1 : decide ((20 : Int) < (ns.length : Int)) = false := by simp; omega
    by_cases q2 : s.size ≤ 200
    · have d2 : decide ((200 : Int) < (s.size : Int)) = false := by simp; omega
      by_cases q3 : fl.length ≤ 20
      · have d3 : decide ((20 : Int) < (fl.length : Int)) = false := by simp; omega
        by_cases q4 : bl.length ≤ 20
        · have d4 : decide ((20 : Int) < (bl.length : Int)) = false := by simp; omega
          have q5 : by_ = 0 := by
            apply Decidable.byContradiction; intro h; exact hn ⟨q1, q2, q3, q4, h⟩
          subst q5
          clear hn
          go_enter Try.func6, Try.ntmps6
          go_wp2_with (go_at_call 12; refine (awake_any _).mono ?_; rintro e w2 ⟨rfl, hb2⟩)
          go_ret
          exact ⟨rfl, hb2⟩
        · have d4 : decide ((20 : Int) < (bl.length : Int)) = true := by simp; omega
          clear hn
          go_enter Try.func6, Try.ntmps6
          go_wp2_with (go_at_call 12; refine (awake_any _).mono ?_; rintro e w2 ⟨rfl, hb2⟩)
          go_ret
          exact ⟨rfl, hb2⟩
      · have d3 : decide ((20 : Int) < (fl.length : Int)) = true := by simp; omega
        clear hn
        go_enter Try.func6, Try.ntmps6
        go_wp2_with (go_at_call 12; refine (awake_any _).mono ?_; rintro e w2 ⟨rfl, hb2⟩)
        go_ret
        exact ⟨rfl, hb2⟩
    · have d2 : decide ((200 : Int) < (s.size : Int)) = true := by simp; omega
      clear hn
      go_enter Try.func6, Try.ntmps6
      go_wp2_with (go_at_call 12; refine (awake_any _).mono ?_; rintro e w2 ⟨rfl, hb2⟩)
      go_ret
      exact ⟨rfl, hb2⟩
  · have d1 : decide ((20 : Int) < (ns.length : Int)) = true := by simp; omega
    clear hn
    go_enter Try.func6, Try.ntmps6
    go_wp2_with (go_at_call 12; refine (awake_any _).mono ?_; rintro e w2 ⟨rfl, hb2⟩)
    go_ret
    exact ⟨rfl, hb2⟩

set_option maxRecDepth 100000 in
set_option maxHeartbeats 4000000 in
theorem back_in (ns fl bl : List UInt8) (a0 a2 a3 : Option Addr) (c0 c2 c3 : Nat) (s : ByteArray) (cut at_ by_ : Int) (h1 : ns.length ≤ 20) (h2 : s.size ≤ 200) (h3 : fl.length ≤ 20) (h4 : bl.length ≤ 20) (h5 : by_ ≠ 0)
    (hcut : 0 ≤ cut ∧ cut ≤ 65535) (hat : 0 ≤ at_ ∧ at_ ≤ 65535) (hby : 0 ≤ by_ ∧ by_ ≤ 255) (w : World) (i0 : IsB w.heap.size w ns a0 c0) (i2 : IsB w.heap.size w fl a2 c2) (i3 : IsB w.heap.size w bl a3 c3) :
    Calls Try.prog 6 #[.slice a0 ns.length c0, .string s, .slice a2 fl.length c2, .slice a3 bl.length c3, .int .u16 cut, .int .u16 at_, .int .u8 by_] w fun e w' => e = .returned (.bool true) ∧ Below w.heap.size w w' := by
  have d1 : decide ((20 : Int) < (ns.length : Int)) = false := by simp; omega
  have d2 : decide ((200 : Int) < (s.size : Int)) = false := by simp; omega
  have d3 : decide ((20 : Int) < (fl.length : Int)) = false := by simp; omega
  have d4 : decide ((20 : Int) < (bl.length : Int)) = false := by simp; omega
  have d5 : (by_ == 0) = false := by simpa using h5
  obtain ⟨t, ht⟩ : ∃ t, t = mk s ns := ⟨_, rfl⟩
  have hok : okT 12 t = true := by rw [ht]; exact mk_ok s ns
  have hmk := make_any ns s a0 c0 w (by unfold maxLen; omega) i0
  rw [← ht] at hmk
  obtain ⟨P, hP⟩ : ∃ P, P = putB t := ⟨_, rfl⟩
  have hput := fun v W h => put_any t v W h
  rw [← hP] at hput
  have hPl := putB_size hok
  rw [← hP] at hPl
  have hP0 : 0 < P.size := by rw [hPl]; exact enc_pos t
  have hP1 : P.size ≤ 1048581 := by have := enc_le hok; omega
  obtain ⟨F, hF⟩ : ∃ F : ByteArray, F = ⟨fl.toArray⟩ := ⟨_, rfl⟩
  obtain ⟨B, hB⟩ : ∃ B : ByteArray, B = ⟨bl.toArray⟩ := ⟨_, rfl⟩
  have hF1 : F.size ≤ 20 := by rw [hF]; show fl.toArray.size ≤ 20; simpa using h3
  have hB1 : B.size ≤ 20 := by rw [hB]; show bl.toArray.size ≤ 20; simpa using h4
  have hg1 : getAt (F ++ P ++ B) (fl.length : Nat) = .ok (t, P.size) := by rw [hF, hB, hP]; exact around hok fl bl
  have hG1 : ∀ W, Calls Try.prog 19 #[.string (F ++ P ++ B), .int .i64 (fl.length : Nat)] W (ToldV t ((fl.length : Int) + (P.size : Int)) 0 W) := fun W => get_v hg1 (by rw [ByteArray.size_append, ByteArray.size_append]; omega) W
  have hcF : ∀ W', Below w.heap.size w W' → (convert 44 9 (.slice a2 fl.length c2)).run Try.prog W' = .ok (.string F) W' := fun W' hb => by rw [hF]; exact conv_arg i2 hb
  have hcB : ∀ W', Below w.heap.size w W' → (convert 44 9 (.slice a3 bl.length c3)).run Try.prog W' = .ok (.string B) W' := fun W' hb => by rw [hB]; exact conv_arg i3 hb
  have hPn : ¬ P.toList = [] := by rw [ByteArray.toList_eq]; intro h; have h2 : P.data.toList.length = 0 := (by rw [h]; rfl); have h3 : P.data.toList.length = P.size := (by simp); omega
  have hPn2 : P.toList.isEmpty = false := by cases h : P.toList with | nil => exact absurd h hPn | cons c r => rfl
  -- the cut
  obtain ⟨kc, ekc⟩ : ∃ kc : Nat, cut % (P.size : Int) = (kc : Int) := ⟨(cut % (P.size : Int)).toNat, by have := Int.emod_nonneg cut (b := (P.size : Int)) (by omega); omega⟩
  have hkc : kc < P.size := by have := Int.emod_lt_of_pos cut (b := (P.size : Int)) (by omega); omega
  have hg2 : getAt (P.extract 0 kc) 0 = .error 6 := by rw [hP]; exact cut_short hok kc (by rw [← hP]; exact hkc)
  have hG2 : ∀ W, Calls Try.prog 19 #[.string (P.extract 0 kc), .int .i64 0] W (ToldV (.mk 0 ⟨#[]⟩ []) 0 6 W) := fun W => get_v hg2 (by simp; omega) W
  -- the byte turned
  obtain ⟨ka, eka⟩ : ∃ ka : Nat, at_ % (P.size : Int) = (ka : Int) := ⟨(at_ % (P.size : Int)).toNat, by have := Int.emod_nonneg at_ (b := (P.size : Int)) (by omega); omega⟩
  have hka : ka < P.size := by have := Int.emod_lt_of_pos at_ (b := (P.size : Int)) (by omega); omega
  obtain ⟨x, hx⟩ : ∃ x : UInt8, x = P[ka] := ⟨_, rfl⟩
  obtain ⟨y, hxr, hy⟩ := xor_byte (a := x.toNat) (b := by_.toNat) x.toNat_lt (by omega)
  rw [show ((by_.toNat : Nat) : Int) = by_ from by omega] at hxr
  have hyx : y ≠ P[ka] := by rw [← hx]; intro h; have := hy (by rw [h]); omega
  obtain ⟨Q, hQ⟩ : ∃ Q : ByteArray, Q = ⟨(P.data.toList.set ka y).toArray⟩ := ⟨_, rfl⟩
  have hQs : Q.size = P.size := by rw [hQ]; show (P.data.toList.set ka y).toArray.size = _; simp
  have hcl : tE (getAt Q 0) ≠ 0 ∨ tN 0 (getAt Q 0) ≠ (P.size : Int) ∨ sameT (tT (getAt Q 0)) t = false := by
    rw [hQ]; subst hP; exact turned hok ka hka y hyx
  obtain ⟨r3, hr3⟩ : ∃ r3, r3 = getAt Q 0 := ⟨_, rfl⟩
  have hG3 : ∀ W, Calls Try.prog 19 #[.string Q, .int .i64 0] W (ToldV (tT r3) (tN 0 r3) (tE r3) W) := fun W => get_v hr3.symm (by omega) W
  rw [← hr3] at hcl
  have hsame3 := fun v v' W h h' => sameRef_any (tT r3) t W v v' h h'
  generalize tE r3 = er3 at hcl hG3
  generalize tN 0 r3 = nx3 at hcl hG3
  generalize tT r3 = u3 at hcl hG3 hsame3
  have hcv : ∀ (w : World) (o : Obj), (convert 9 44 (.string P)).run Try.prog (w.alloc o) = .ok (.slice (some ⟨w.heap.size + 1, 0, none⟩) P.size (grownCap (w.alloc o) P.size 0 5)) (Lib.bytesWorld (w.alloc o) 5 P) := fun w o => by
    have := Lib.run_convert_string_bytes (P := Try.prog) (w.alloc o) 9 44 5 P Try.underlying9 Try.underlying44 Try.underlying5
    rw [World.size_alloc] at this; exact this
  have hbc : ∀ (w : World) (o : Obj), (Lib.bytesWorld (w.alloc o) 5 P).cell? ⟨w.heap.size + 1, ka, none⟩ = some (.int .u8 x.toNat) := fun w o => by
    have := Lib.bytesWorld_cell (w.alloc o) 5 P ka hka
    rw [World.size_alloc] at this
    have h1 : ka < P.data.toList.length := by simpa using hka
    have hg : P.data.toList.getD ka 0 = P[ka] := by simp only [List.getD, List.getElem?_eq_getElem h1, Option.getD_some]; rfl
    rw [this, hx, hg]
  have hbf : ∀ (w : World) (o : Obj), (Lib.bytesWorld (w.alloc o) 5 P).frozen? ⟨w.heap.size + 1, ka, none⟩ = false := fun w o => by
    have := bytes_frozen (w := w.alloc o) (P := P) hka
    rw [World.size_alloc] at this; exact this
  have hcb : ∀ (w : World) (o : Obj) (cap : Nat), (convert 44 9 (.slice (some ⟨w.heap.size + 1, 0, none⟩) P.size cap)).run Try.prog ((Lib.bytesWorld (w.alloc o) 5 P).setCell ⟨w.heap.size + 1, ka, none⟩ (.int .u8 y.toNat)) = .ok (.string Q) ((Lib.bytesWorld (w.alloc o) 5 P).setCell ⟨w.heap.size + 1, ka, none⟩ (.int .u8 y.toNat)) := fun w o cap => by
    have := conv_turned (w := w.alloc o) (P := P) ka hka y cap
    rw [World.size_alloc] at this; rw [hQ]; exact this
  have HMk := Lib.hid hmk
  have HPut := Lib.hid hput
  have HG1 := Lib.hid hG1
  have HCF := Lib.hid hcF
  have HCB := Lib.hid hcB
  have HPT := Lib.hid hP
  have HOk := Lib.hid hok
  have hsame := fun v v' W h h' => sameRef_any t t W v v' h h'
  rw [sameT_self] at hsame
  have HSame := Lib.hid hsame
  have HG2 := Lib.hid hG2
  have HG3 := Lib.hid hG3
  have HSame3 := Lib.hid hsame3
  clear ht hok hmk hP hput hPl hF hB hg1 hG1 hcF hcB hsame i0 i2 i3 hg2 hG2 hG3 hsame3 hx hy hyx hQ hQs hr3
  by_cases q : er3 = 0
  · subst q
    by_cases q2 : nx3 = (P.size : Int)
    · have q3 : sameT u3 t = false := (hcl.resolve_left (by simp)).resolve_left (by simpa using q2)
      subst q2
      clear hcl
      go_enter Try.func6, Try.ntmps6
      go_wp2_with (first
        | (go_at_call 26; (with_reducible refine (HMk.out).mono ?_); rintro e w1 ⟨v1, rfl, hn1, hb1⟩; (obtain ⟨tg1, s1, x1, n1, k1, rfl⟩ := hn1.1.shape); have HI1 := Lib.hid hn1.1; have HB1 := Lib.hid hb1; clear hn1 hb1)
        | (go_at_call 15; refine (HPut.out _ _ (HI1.out.below ((Below.refl _ _).alloc (Nat.le_refl _) _) (by simp))).mono ?_; rintro e w2 ⟨rfl, hb2⟩; have hbw2 := (HB1.out.alloc' _).then hb2; have kF := HCF.out w2 hbw2; have kB := HCB.out w2 hbw2; have s2 : w1.heap.size < w2.heap.size := (by have := hb2.size; rw [World.size_alloc] at this; exact this); have e2 := (hb2.block w1.heap.size (by simp)).trans (alloc_at w1 _); have HB2 := Lib.hid hb2; have HBW2 := Lib.hid hbw2; have E2 := Lib.hid e2; clear hb2 hbw2 e2)
        | (go_at_call 19; (with_reducible refine (HG1.out _).mono ?_); rintro e w3 ⟨tg3, s3, x3, n3, k3, rfl, ht3, hb3⟩; have s3' : w1.heap.size < w3.heap.size := Nat.lt_of_lt_of_le s2 hb3.size; have e3 := (hb3.block w1.heap.size s2).trans E2.out; obtain ⟨p30, p31, p32, _⟩ := box3 e3; have HI3 := Lib.hid ht3; have HB3 := Lib.hid hb3; have E3 := Lib.hid e3; clear ht3 hb3 e3 kF kB)
        | (go_at_call 21; refine (num_any _ _).mono ?_; rintro e w6 ⟨rfl, rfl⟩)
        | (go_at_call 18; (with_reducible refine (HSame.out (.agg #[.int .i64 tg3, .string s3, .slice x3 n3 k3]) _ _ (HI3.out.below ((Below.refl _ _).alloc (Nat.le_refl _) _) (by simp)) (HI1.out.below ((((Below.refl _ _).alloc (Nat.le_refl _) _).trans (HB2.out.mono (by simp))).trans (HB3.out.mono (by omega)) |>.alloc (by omega) _) (by simp; omega))).mono ?_); rintro e w4 ⟨rfl, hb4⟩; have s4' : w1.heap.size < w4.heap.size := (by have := hb4.size; rw [World.size_alloc] at this; omega); have e4 := (hb4.block w1.heap.size (by simp; omega)).trans ((Below.heap_alloc _ _ _ s3').trans E3.out); have HBW4 := Lib.hid (((HBW2.out.then HB3.out).alloc' _).then hb4); have E4 := Lib.hid e4; have HB14 := Lib.hid (((((Below.refl _ _).alloc (Nat.le_refl w1.heap.size) _).trans (HB2.out.mono (by simp))).trans (HB3.out.mono (by omega)) |>.alloc (by omega) _).trans (hb4.mono (by simp; omega))); clear hb4 e4 p30 p31 p32)
        | (go_at_call 19; (with_reducible refine (HG2.out _).mono ?_); rintro e w5 ⟨tg5, s5, x5, n5, k5, rfl, _, hb5⟩; have s5' := hb5.size; have HBX := Lib.hid (fun o v => (bytes_below (P := P) (hb5.alloc s5' o) (by simp; omega)).setCell (p := ⟨w5.heap.size + 1, ka, none⟩) (by show w4.heap.size ≤ w5.heap.size + 1; omega) v); have HSX := Lib.hid (fun (o : Obj) (v : Value) => (show ((Lib.bytesWorld (w5.alloc o) 5 P).setCell ⟨w5.heap.size + 1, ka, none⟩ v).heap.size = w5.heap.size + 2 from by simp [World.setCell, Lib.bytesWorld_size])); clear hb5)
        | (go_at_call 19; (with_reducible refine (HG3.out _).mono ?_); rintro e w8 ⟨tg8, s8, x8, n8, k8, rfl, ht8, hb8⟩; have s8' : w5.heap.size + 2 ≤ w8.heap.size := (by have := hb8.size; rw [HSX.out] at this; exact this); have s18 : w1.heap.size < w8.heap.size := (by omega); have e8 := (hb8.block w1.heap.size (by rw [HSX.out]; omega)).trans (((HBX.out _ _).block w1.heap.size s4').trans E4.out); obtain ⟨p80, p81, p82, _⟩ := box3 e8; have HI8 := Lib.hid ht8; have HB48 := Lib.hid ((HBX.out _ _).then hb8); clear ht8 hb8 e8)
        | (go_at_call 18; (with_reducible refine (HSame3.out (.agg #[.int .i64 tg8, .string s8, .slice x8 n8 k8]) (.agg #[.int .i64 tg1, .string s1, .slice x1 n1 k1]) _ (HI8.out.below ((Below.refl _ _).alloc (Nat.le_refl _) _) (by simp)) (HI1.out.below ((HB14.out.trans (HB48.out.mono (by omega))).alloc (by omega) _) (by simp; omega))).mono ?_); rw [q3]; rintro e w9 ⟨rfl, hb9⟩)
        | (go_at_call 12; refine (awake_any _).mono ?_; rintro e w10 ⟨rfl, hb10⟩))
      go_ret
      exact ⟨rfl, ((((HBW4.out.then HB48.out).alloc' _).then hb9).then hb10)⟩
    · have t3 : (nx3 != (P.size : Int)) = true := by simpa using q2
      have q3 : True := trivial
      clear hcl q2
      go_enter Try.func6, Try.ntmps6
      go_wp2_with (first
        | (go_at_call 26; (with_reducible refine (HMk.out).mono ?_); rintro e w1 ⟨v1, rfl, hn1, hb1⟩; (obtain ⟨tg1, s1, x1, n1, k1, rfl⟩ := hn1.1.shape); have HI1 := Lib.hid hn1.1; have HB1 := Lib.hid hb1; clear hn1 hb1)
        | (go_at_call 15; refine (HPut.out _ _ (HI1.out.below ((Below.refl _ _).alloc (Nat.le_refl _) _) (by simp))).mono ?_; rintro e w2 ⟨rfl, hb2⟩; have hbw2 := (HB1.out.alloc' _).then hb2; have kF := HCF.out w2 hbw2; have kB := HCB.out w2 hbw2; have s2 : w1.heap.size < w2.heap.size := (by have := hb2.size; rw [World.size_alloc] at this; exact this); have e2 := (hb2.block w1.heap.size (by simp)).trans (alloc_at w1 _); have HB2 := Lib.hid hb2; have HBW2 := Lib.hid hbw2; have E2 := Lib.hid e2; clear hb2 hbw2 e2)
        | (go_at_call 19; (with_reducible refine (HG1.out _).mono ?_); rintro e w3 ⟨tg3, s3, x3, n3, k3, rfl, ht3, hb3⟩; have s3' : w1.heap.size < w3.heap.size := Nat.lt_of_lt_of_le s2 hb3.size; have e3 := (hb3.block w1.heap.size s2).trans E2.out; obtain ⟨p30, p31, p32, _⟩ := box3 e3; have HI3 := Lib.hid ht3; have HB3 := Lib.hid hb3; have E3 := Lib.hid e3; clear ht3 hb3 e3 kF kB)
        | (go_at_call 21; refine (num_any _ _).mono ?_; rintro e w6 ⟨rfl, rfl⟩)
        | (go_at_call 18; (with_reducible refine (HSame.out (.agg #[.int .i64 tg3, .string s3, .slice x3 n3 k3]) _ _ (HI3.out.below ((Below.refl _ _).alloc (Nat.le_refl _) _) (by simp)) (HI1.out.below ((((Below.refl _ _).alloc (Nat.le_refl _) _).trans (HB2.out.mono (by simp))).trans (HB3.out.mono (by omega)) |>.alloc (by omega) _) (by simp; omega))).mono ?_); rintro e w4 ⟨rfl, hb4⟩; have s4' : w1.heap.size < w4.heap.size := (by have := hb4.size; rw [World.size_alloc] at this; omega); have e4 := (hb4.block w1.heap.size (by simp; omega)).trans ((Below.heap_alloc _ _ _ s3').trans E3.out); have HBW4 := Lib.hid (((HBW2.out.then HB3.out).alloc' _).then hb4); have E4 := Lib.hid e4; have HB14 := Lib.hid (((((Below.refl _ _).alloc (Nat.le_refl w1.heap.size) _).trans (HB2.out.mono (by simp))).trans (HB3.out.mono (by omega)) |>.alloc (by omega) _).trans (hb4.mono (by simp; omega))); clear hb4 e4 p30 p31 p32)
        | (go_at_call 19; (with_reducible refine (HG2.out _).mono ?_); rintro e w5 ⟨tg5, s5, x5, n5, k5, rfl, _, hb5⟩; have s5' := hb5.size; have HBX := Lib.hid (fun o v => (bytes_below (P := P) (hb5.alloc s5' o) (by simp; omega)).setCell (p := ⟨w5.heap.size + 1, ka, none⟩) (by show w4.heap.size ≤ w5.heap.size + 1; omega) v); have HSX := Lib.hid (fun (o : Obj) (v : Value) => (show ((Lib.bytesWorld (w5.alloc o) 5 P).setCell ⟨w5.heap.size + 1, ka, none⟩ v).heap.size = w5.heap.size + 2 from by simp [World.setCell, Lib.bytesWorld_size])); clear hb5)
        | (go_at_call 19; (with_reducible refine (HG3.out _).mono ?_); rintro e w8 ⟨tg8, s8, x8, n8, k8, rfl, ht8, hb8⟩; have s8' : w5.heap.size + 2 ≤ w8.heap.size := (by have := hb8.size; rw [HSX.out] at this; exact this); have s18 : w1.heap.size < w8.heap.size := (by omega); have e8 := (hb8.block w1.heap.size (by rw [HSX.out]; omega)).trans (((HBX.out _ _).block w1.heap.size s4').trans E4.out); obtain ⟨p80, p81, p82, _⟩ := box3 e8; have HI8 := Lib.hid ht8; have HB48 := Lib.hid ((HBX.out _ _).then hb8); clear ht8 hb8 e8)
        | (go_at_call 18; (with_reducible refine (HSame3.out (.agg #[.int .i64 tg8, .string s8, .slice x8 n8 k8]) (.agg #[.int .i64 tg1, .string s1, .slice x1 n1 k1]) _ (HI8.out.below ((Below.refl _ _).alloc (Nat.le_refl _) _) (by simp)) (HI1.out.below ((HB14.out.trans (HB48.out.mono (by omega))).alloc (by omega) _) (by simp; omega))).mono ?_); rw [q3]; rintro e w9 ⟨rfl, hb9⟩)
        | (go_at_call 12; refine (awake_any _).mono ?_; rintro e w10 ⟨rfl, hb10⟩))
      go_ret
      exact ⟨rfl, (((HBW4.out.then HB48.out).alloc' _).then hb10)⟩
  · have t3 : (er3 != 0) = true := by simpa using q
    have q3 : True := trivial
    clear hcl
    go_enter Try.func6, Try.ntmps6
    go_wp2_with (first
      | (go_at_call 26; (with_reducible refine (HMk.out).mono ?_); rintro e w1 ⟨v1, rfl, hn1, hb1⟩; (obtain ⟨tg1, s1, x1, n1, k1, rfl⟩ := hn1.1.shape); have HI1 := Lib.hid hn1.1; have HB1 := Lib.hid hb1; clear hn1 hb1)
      | (go_at_call 15; refine (HPut.out _ _ (HI1.out.below ((Below.refl _ _).alloc (Nat.le_refl _) _) (by simp))).mono ?_; rintro e w2 ⟨rfl, hb2⟩; have hbw2 := (HB1.out.alloc' _).then hb2; have kF := HCF.out w2 hbw2; have kB := HCB.out w2 hbw2; have s2 : w1.heap.size < w2.heap.size := (by have := hb2.size; rw [World.size_alloc] at this; exact this); have e2 := (hb2.block w1.heap.size (by simp)).trans (alloc_at w1 _); have HB2 := Lib.hid hb2; have HBW2 := Lib.hid hbw2; have E2 := Lib.hid e2; clear hb2 hbw2 e2)
      | (go_at_call 19; (with_reducible refine (HG1.out _).mono ?_); rintro e w3 ⟨tg3, s3, x3, n3, k3, rfl, ht3, hb3⟩; have s3' : w1.heap.size < w3.heap.size := Nat.lt_of_lt_of_le s2 hb3.size; have e3 := (hb3.block w1.heap.size s2).trans E2.out; obtain ⟨p30, p31, p32, _⟩ := box3 e3; have HI3 := Lib.hid ht3; have HB3 := Lib.hid hb3; have E3 := Lib.hid e3; clear ht3 hb3 e3 kF kB)
      | (go_at_call 21; refine (num_any _ _).mono ?_; rintro e w6 ⟨rfl, rfl⟩)
      | (go_at_call 18; (with_reducible refine (HSame.out (.agg #[.int .i64 tg3, .string s3, .slice x3 n3 k3]) _ _ (HI3.out.below ((Below.refl _ _).alloc (Nat.le_refl _) _) (by simp)) (HI1.out.below ((((Below.refl _ _).alloc (Nat.le_refl _) _).trans (HB2.out.mono (by simp))).trans (HB3.out.mono (by omega)) |>.alloc (by omega) _) (by simp; omega))).mono ?_); rintro e w4 ⟨rfl, hb4⟩; have s4' : w1.heap.size < w4.heap.size := (by have := hb4.size; rw [World.size_alloc] at this; omega); have e4 := (hb4.block w1.heap.size (by simp; omega)).trans ((Below.heap_alloc _ _ _ s3').trans E3.out); have HBW4 := Lib.hid (((HBW2.out.then HB3.out).alloc' _).then hb4); have E4 := Lib.hid e4; have HB14 := Lib.hid (((((Below.refl _ _).alloc (Nat.le_refl w1.heap.size) _).trans (HB2.out.mono (by simp))).trans (HB3.out.mono (by omega)) |>.alloc (by omega) _).trans (hb4.mono (by simp; omega))); clear hb4 e4 p30 p31 p32)
      | (go_at_call 19; (with_reducible refine (HG2.out _).mono ?_); rintro e w5 ⟨tg5, s5, x5, n5, k5, rfl, _, hb5⟩; have s5' := hb5.size; have HBX := Lib.hid (fun o v => (bytes_below (P := P) (hb5.alloc s5' o) (by simp; omega)).setCell (p := ⟨w5.heap.size + 1, ka, none⟩) (by show w4.heap.size ≤ w5.heap.size + 1; omega) v); have HSX := Lib.hid (fun (o : Obj) (v : Value) => (show ((Lib.bytesWorld (w5.alloc o) 5 P).setCell ⟨w5.heap.size + 1, ka, none⟩ v).heap.size = w5.heap.size + 2 from by simp [World.setCell, Lib.bytesWorld_size])); clear hb5)
      | (go_at_call 19; (with_reducible refine (HG3.out _).mono ?_); rintro e w8 ⟨tg8, s8, x8, n8, k8, rfl, ht8, hb8⟩; have s8' : w5.heap.size + 2 ≤ w8.heap.size := (by have := hb8.size; rw [HSX.out] at this; exact this); have s18 : w1.heap.size < w8.heap.size := (by omega); have e8 := (hb8.block w1.heap.size (by rw [HSX.out]; omega)).trans (((HBX.out _ _).block w1.heap.size s4').trans E4.out); obtain ⟨p80, p81, p82, _⟩ := box3 e8; have HI8 := Lib.hid ht8; have HB48 := Lib.hid ((HBX.out _ _).then hb8); clear ht8 hb8 e8)
      | (go_at_call 18; (with_reducible refine (HSame3.out (.agg #[.int .i64 tg8, .string s8, .slice x8 n8 k8]) (.agg #[.int .i64 tg1, .string s1, .slice x1 n1 k1]) _ (HI8.out.below ((Below.refl _ _).alloc (Nat.le_refl _) _) (by simp)) (HI1.out.below ((HB14.out.trans (HB48.out.mono (by omega))).alloc (by omega) _) (by simp; omega))).mono ?_); rw [q3]; rintro e w9 ⟨rfl, hb9⟩)
      | (go_at_call 12; refine (awake_any _).mono ?_; rintro e w10 ⟨rfl, hb10⟩))
    go_ret
    exact ⟨rfl, (((HBW4.out.then HB48.out).alloc' _).then hb10)⟩
end Go.Proofs.Ytiagcegclgallaa
