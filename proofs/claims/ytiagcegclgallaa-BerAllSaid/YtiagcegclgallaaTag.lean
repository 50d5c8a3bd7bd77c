/- ber.reader: tag, length: the walks. -/
import Derived.Test.YtiagcegclgallaaReader
import Derived.Test.YtiagcegclgallaaDec
import Derived.Test.YtiagcegclgallaaSize
import Derived.Test.YtiagcegclgallaaRead
import Derived.Test.YtiagcegclgallaaCopy
namespace Go.Proofs.Ytiagcegclgallaa
open Go.RowKit
set_option linter.unusedVariables false

/-- The reader at b has gone on to place q; all else lies as it lay. -/
def Went (W W' : World) (b : Nat) (s : ByteArray) (q : Nat) : Prop := Rd W' b s q ∧ W.grownBy W' (some b)

theorem Went.rd {W W' : World} {b : Nat} {s : ByteArray} {q : Nat} (h : Went W W' b s q) : Rd W' b s q := h.1

theorem Went.drewN {W : World} {b : Nat} {s : ByteArray} {p : Nat} (h : Rd W b s p) (n : Nat) : Went W (W.drewN n) b s p := ⟨h, ⟨rfl, rfl, rfl, Nat.le_refl _, fun _ _ _ => rfl⟩⟩
theorem Went.take {W W' : World} {b : Nat} {s : ByteArray} {p : Nat} (h : Went W W' b s p) (q : Nat) : Went W (W'.setCell ⟨b, 1, none⟩ (.int .i64 q)) b s q :=
  ⟨h.1.set q, grownBy_trans h.2 ⟨rfl, rfl, rfl, by simp [World.setCell], fun k _ hk => Below.heap_setCell W' ⟨b, 1, none⟩ _ k (fun e => hk (by rw [e]))⟩⟩
theorem Went.then {W W1 W2 : World} {b : Nat} {s : ByteArray} {p q : Nat} (h : Went W W1 b s p) (k : Went W1 W2 b s q) : Went W W2 b s q := ⟨k.1, grownBy_trans h.2 k.2⟩

theorem drop_cons {s : ByteArray} {p : Nat} (h : p < s.size) : s.data.toList.drop p = s[p] :: s.data.toList.drop (p + 1) := by
  rw [List.drop_eq_getElem_cons (by simpa using h), get_data s p h]

theorem extract_one (s : ByteArray) (p : Nat) (h : p < s.size) : (s.extract p (p + 1)).size = 1 ∧ ∀ h', (s.extract p (p + 1))[0]'h' = s[p] := by
  constructor
  · simp; omega
  · intro h'; rw [get_data _ 0 h', get_data s p h]; simp

set_option maxHeartbeats 1000000 in
theorem tag_any (W : World) (b : Nat) (s : ByteArray) (p : Nat) (h : Rd W b s p) (hs : s.size ≤ maxLen) (hp : p ≤ s.size) :
    Calls Try.prog 43 #[.pointer (some ⟨b, 0, none⟩)] W fun e w' => e = .returned (.tuple #[.int .i64 (if (tagD (s.data.toList.drop p)).2.1 = 0 then (tagD (s.data.toList.drop p)).1 else 0), .int .i64 (tagD (s.data.toList.drop p)).2.1]) ∧ Went W w' b s (p + (tagD (s.data.toList.drop p)).2.2) := by
  have hleft := left_any W b s p h hs hp
  have HLf := Lib.hid hleft
  have H := Lib.hid h
  clear hleft h
  by_cases hend : p = s.size
  · have hd : s.data.toList.drop p = [] := by rw [hend]; simp
    rw [hd]
    have hz : ((s.size - p : Nat) : Int) = 0 := by omega
    rw [hz] at HLf
    have HE := Lib.hid hend
    clear hd hz hend
    go_enter Try.func43, Try.ntmps43
    go_wp2_with (go_at_call 45; refine HLf.out.mono ?_; rintro e w1 ⟨rfl, n1, rfl⟩)
    go_ret2
    exact ⟨rfl, Went.drewN H.out n1⟩
  · have hlt : p < s.size := by omega
    rw [drop_cons hlt]
    have hz : (((s.size - p : Nat) : Int) == 0) = false := by simp; omega
    have hx := extract_one s p hlt
    have htk := fun W' (h' : Rd W' b s p) => take_any W' b s p 1 h' hs (by omega)
    obtain ⟨x, hxe⟩ : ∃ x, x = s.extract p (p + 1) := ⟨_, rfl⟩
    have hx1 : x.size = 1 := by rw [hxe]; exact hx.1
    have hx0 : ∀ h', (x[0]'h') = s[p] := by intro h'; subst hxe; exact hx.2 h'
    rw [← hxe] at htk
    have h0 : 0 < x.size := by omega
    obtain ⟨c, hc⟩ : ∃ c : UInt8, c = s[p] := ⟨_, rfl⟩
    rw [← hc] at hx0 ⊢
    have hx0' : x[0]'h0 = c := hx0 h0
    have HTk := Lib.hid htk
    have hc256 := c.toNat_lt
    have HX := Lib.hid hx1
    clear hx hxe hx1 hx0 hc htk
    by_cases hm : (c.toNat : Int) % 32 = 31
    · have ht : tagD (c :: s.data.toList.drop (p + 1)) = (0, 5, 1) := by simp [tagD, hm]
      rw [ht]
      have hmt : mayTagB (c.toNat : Int) = false := by simp [mayTagB, hm]
      have hmay := fun w => mayTag_any (c.toNat : Int) w
      rw [hmt] at hmay
      have HM := Lib.hid hmay
      clear ht hm hmt hmay
      go_enter Try.func43, Try.ntmps43
      go_wp2_with (first
        | (go_at_call 45; refine HLf.out.mono ?_; rintro e w1 ⟨rfl, n1, rfl⟩)
        | (go_at_call 46; refine (HTk.out _ (Went.drewN H.out _).1).mono ?_; rintro e w2 ⟨rfl, rfl⟩)
        | (go_at_call 39; refine (HM.out _).mono ?_; rintro e w3 ⟨rfl, rfl⟩))
      go_ret2
      exact ⟨rfl, (Went.drewN H.out n1).take _⟩
    · have ht : tagD (c :: s.data.toList.drop (p + 1)) = ((c.toNat : Int), 0, 1) := by simp [tagD, hm]
      rw [ht]
      have hmt : mayTagB (c.toNat : Int) = true := by simp [mayTagB, hm]; omega
      have hmay := fun w => mayTag_any (c.toNat : Int) w
      rw [hmt] at hmay
      have HM := Lib.hid hmay
      clear ht hm hmt hmay
      go_enter Try.func43, Try.ntmps43
      go_wp2_with (first
        | (go_at_call 45; refine HLf.out.mono ?_; rintro e w1 ⟨rfl, n1, rfl⟩)
        | (go_at_call 46; refine (HTk.out _ (Went.drewN H.out _).1).mono ?_; rintro e w2 ⟨rfl, rfl⟩)
        | (go_at_call 39; refine (HM.out _).mono ?_; rintro e w3 ⟨rfl, rfl⟩))
      go_ret2
      exact ⟨rfl, (Went.drewN H.out n1).take _⟩

theorem extract_list (s : ByteArray) (p k : Nat) : (s.extract p (p + k)).data.toList = (s.data.toList.drop p).take k := by
  simp [List.extract_eq_take_drop]

set_option maxRecDepth 100000 in
set_option maxHeartbeats 2000000 in
theorem length_any (W : World) (b : Nat) (s : ByteArray) (p : Nat) (h : Rd W b s p) (hs : s.size ≤ maxLen) (hp : p ≤ s.size) :
    Calls Try.prog 44 #[.pointer (some ⟨b, 0, none⟩)] W fun e w' => e = .returned (.tuple #[.int .i64 (lenD (s.data.toList.drop p)).1, .int .i64 (lenD (s.data.toList.drop p)).2.1]) ∧ Went W w' b s (p + (lenD (s.data.toList.drop p)).2.2) := by
  have hleft := left_any W b s p h hs hp
  have HLf := Lib.hid hleft
  have H := Lib.hid h
  clear hleft h
  by_cases hend : p = s.size
  · have hd : s.data.toList.drop p = [] := by rw [hend]; simp
    rw [hd]
    have hz : ((s.size - p : Nat) : Int) = 0 := by omega
    rw [hz] at HLf
    have HE := Lib.hid hend
    clear hd hz hend
    go_enter Try.func44, Try.ntmps44
    go_wp2_with (go_at_call 45; refine HLf.out.mono ?_; rintro e w1 ⟨rfl, n1, rfl⟩)
    go_ret2
    exact ⟨rfl, Went.drewN H.out n1⟩
  · have hlt : p < s.size := by omega
    rw [drop_cons hlt]
    have hz : (((s.size - p : Nat) : Int) == 0) = false := by simp; omega
    have hx := extract_one s p hlt
    have htk := fun W' (h' : Rd W' b s p) => take_any W' b s p 1 h' hs (by omega)
    obtain ⟨x, hxe⟩ : ∃ x, x = s.extract p (p + 1) := ⟨_, rfl⟩
    have hx1 : x.size = 1 := by rw [hxe]; exact hx.1
    have hx0 : ∀ h', (x[0]'h') = s[p] := by intro h'; subst hxe; exact hx.2 h'
    rw [← hxe] at htk
    have h0 : 0 < x.size := by omega
    obtain ⟨f, hf⟩ : ∃ f : UInt8, f = s[p] := ⟨_, rfl⟩
    rw [← hf] at hx0 ⊢
    have hx0' : x[0]'h0 = f := hx0 h0
    have HTk := Lib.hid htk
    have hf256 := f.toNat_lt
    have HX := Lib.hid hx1
    clear hx hxe hx1 hx0 hf htk
    obtain ⟨r, hr⟩ : ∃ r, r = s.data.toList.drop (p + 1) := ⟨_, rfl⟩
    have hrl : r.length = s.size - (p + 1) := by rw [hr]; simp
    rw [← hr]
    by_cases h128 : f.toNat < 128
    · have hl : lenD (f :: r) = ((f.toNat : Int), 0, 1) := if_pos h128
      rw [hl]
      have hd : decide ((f.toNat : Int) < 128) = true := by simp; omega
      clear hl h128 hr hrl
      go_enter Try.func44, Try.ntmps44
      go_wp2_with (first
        | (go_at_call 45; refine HLf.out.mono ?_; rintro e w1 ⟨rfl, n1, rfl⟩)
        | (go_at_call 46; refine (HTk.out _ (Went.drewN H.out _).1).mono ?_; rintro e w2 ⟨rfl, rfl⟩))
      go_ret2
      exact ⟨rfl, (Went.drewN H.out n1).take _⟩
    · have hd : decide ((f.toNat : Int) < 128) = false := by simp; omega
      by_cases hk : f.toNat = 128 ∨ 131 < f.toNat
      · have hl : lenD (f :: r) = (0, 5, 1) := by show (if _ then _ else _) = _; rw [if_neg h128, if_pos hk]
        rw [hl]
        by_cases hk1 : f.toNat = 128
        all_goals
          first
          | (have hd1 : decide ((f.toNat : Int) - 128 < 1) = true := by simp; omega)
          | (have hd1 : decide ((f.toNat : Int) - 128 < 1) = false := by simp; omega)
          first
          | (have hd2 : decide (3 < (f.toNat : Int) - 128) = true := by simp; omega)
          | skip
          have HK1 := Lib.hid hk1
          clear hl hk hk1 hr hrl
          go_enter Try.func44, Try.ntmps44
          go_wp2_with (first
            | (go_at_call 45; refine HLf.out.mono ?_; rintro e w1 ⟨rfl, n1, rfl⟩)
            | (go_at_call 46; refine (HTk.out _ (Went.drewN H.out _).1).mono ?_; rintro e w2 ⟨rfl, rfl⟩))
          go_ret2
          exact ⟨rfl, (Went.drewN H.out n1).take _⟩
      · obtain ⟨k, hkf⟩ : ∃ k, k = f.toNat - 128 := ⟨_, rfl⟩
        have hk1 : 1 ≤ k ∧ k ≤ 3 := by omega
        have hfk : (f.toNat : Int) - 128 = (k : Nat) := by omega
        have hd1 : decide (((k : Nat) : Int) < 1) = false := by simp; omega
        have hd2 : decide ((3 : Int) < ((k : Nat) : Int)) = false := by simp; omega
        have hl0 : lenD (f :: r) = if r.length < k then (0, 6, 1) else if (r[0]?.getD 0).toNat = 0 ∨ rdFrom 0 (r.take k) < 128 ∨ 1048576 < rdFrom 0 (r.take k) then (0, 5, 1 + k) else (rdFrom 0 (r.take k), 0, 1 + k) := by
          show (if _ then _ else _) = _; rw [if_neg h128, if_neg hk, ← hkf]
        have hlf2 := fun W' (h' : Rd W' b s (p + 1)) => left_any W' b s (p + 1) h' hs (by omega)
        rw [← hrl] at hlf2
        have HLf2 := Lib.hid hlf2
        have HKf := Lib.hid hkf
        clear hlf2 hkf hk h128
        by_cases hrk : r.length < k
        · have hl : lenD (f :: r) = (0, 6, 1) := by rw [hl0, if_pos hrk]
          rw [hl]
          have hd3 : decide (((r.length : Nat) : Int) < ((k : Nat) : Int)) = true := by simp; omega
          have hd3' : decide (r.length < k) = true := by simp; omega
          clear hl hl0 hr hrl hrk
          go_enter Try.func44, Try.ntmps44
          go_wp2_with (first
            | (go_at_call 45; (with_reducible refine HLf.out.mono ?_); rintro e w1 ⟨rfl, n1, rfl⟩)
            | (go_at_call 46; refine (HTk.out _ (Went.drewN H.out _).1).mono ?_; rintro e w2 ⟨rfl, rfl⟩)
            | (go_at_call 45; refine (HLf2.out _ ((Went.drewN H.out n1).take _).rd).mono ?_; rintro e w3 ⟨rfl, n3, rfl⟩))
          go_ret2
          exact ⟨rfl, ((Went.drewN H.out n1).take _).then (Went.drewN ((Went.drewN H.out n1).take _).1 n3)⟩
        · have hd3 : decide (((r.length : Nat) : Int) < ((k : Nat) : Int)) = false := by simp; omega
          have hd3' : decide (r.length < k) = false := by simp; omega
          have htk2 := fun W' (h' : Rd W' b s (p + 1)) => take_any W' b s (p + 1) k h' hs (by omega)
          obtain ⟨z, hze⟩ : ∃ z, z = s.extract (p + 1) (p + 1 + k) := ⟨_, rfl⟩
          have hzl : z.data.toList = r.take k := by rw [hze, extract_list, hr]
          have hzk : z.size = k := by
            have := congrArg List.length hzl
            simp at this; omega
          rw [← hze] at htk2
          rw [if_neg hrk, ← hzl] at hl0
          have hr0 : r[0]?.getD 0 = z.data.toList[0]?.getD 0 := by rw [hzl, List.getElem?_take, if_pos (by omega)]
          rw [hr0] at hl0
          have hzlen : z.data.toList.length = k := by rw [← hzk]; simp
          have hzsz : 0 < z.size := by omega
          have hg0 : z.data.toList[0]?.getD 0 = z[0]'hzsz := by rw [get_data z 0 hzsz]; simp [List.getElem?_eq_getElem (show 0 < z.data.toList.length by omega)]
          rw [hg0] at hl0
          obtain ⟨z0, hz0⟩ : ∃ z0 : UInt8, z0 = z[0]'hzsz := ⟨_, rfl⟩
          rw [← hz0] at hl0
          have hin : ∀ j : Nat, (hj : j < z.size) → rdFrom 0 (z.data.toList.take (j + 1)) = rdFrom 0 (z.data.toList.take j) * 256 + (z[j].toNat : Int) := by
            intro j hj; rw [rdFrom_take _ _ _ (by omega), get_data z j hj]
          have hbd := fun j hj h3 => rd0_small z.data.toList j hj h3
          have hall : z.data.toList.take k = z.data.toList := List.take_of_length_le (by omega)
          have HTk2 := Lib.hid htk2
          have HIn := Lib.hid hin
          have HBd := Lib.hid hbd
          have HAll := Lib.hid hall
          have HL0 := Lib.hid hl0
          have HZL := Lib.hid hzlen
          have hz0' : z[0]'hzsz = z0 := hz0.symm
          have hz256 := z0.toNat_lt
          have HZK := Lib.hid hzk
          have hzk3 : z.size ≤ 3 := by omega
          clear hl0 hr hrl hrk htk2 hze hzl hr0 hzlen hg0 hz0 hin hbd hall hzk
          have tok1 : True := trivial
          go_enter Try.func44, Try.ntmps44
          go_wp2_with (first
            | (go_at_call 45; (with_reducible refine HLf.out.mono ?_); rintro e w1 ⟨rfl, n1, rfl⟩)
            | (go_at_call 46; have _t := tok1; refine (HTk.out _ (Went.drewN H.out n1).rd).mono ?_; clear tok1; rintro e w2 ⟨rfl, rfl⟩)
            | (go_at_call 45; refine (HLf2.out _ ((Went.drewN H.out n1).take _).rd).mono ?_; rintro e w3 ⟨rfl, n3, rfl⟩)
            | (go_at_call 46; refine (HTk2.out _ (((Went.drewN H.out n1).take _).then (Went.drewN ((Went.drewN H.out n1).take _).rd n3)).rd).mono ?_; rintro e w4 ⟨rfl, rfl⟩))
          have hW4 := (((Went.drewN H.out n1).take (p + 1)).then (Went.drewN ((Went.drewN H.out n1).take (p + 1)).rd n3)).take (p + 1 + k)
          rw [show ((p + 1 + k : Nat) : Int) = (p : Int) + 1 + (k : Int) from by omega, show ((p + 1 : Nat) : Int) = (p : Int) + 1 from by omega, show p + 1 + k = p + (1 + k) from by omega] at hW4
          have HW4 := Lib.hid hW4
          clear hW4
          go_loop [7, 36] (fun n i => ∃ j : Nat, j ≤ z.size ∧ i = .int .i64 j ∧ n = .int .i64 (rdFrom 0 (z.data.toList.take j))) (fun _ i => z.size - (intOf i).toNat)
          case atStart => exact ⟨0, by omega, rfl, by simp [rdFrom]⟩
          case round =>
            obtain ⟨j, hj, rfl, rfl⟩ := hrel
            by_cases hlt2 : j < z.size
            · have hb1 := HBd.out j (by rw [HZL.out]; have := HZK.out; omega) (by omega)
              have HI1 := Lib.hid (HIn.out j hlt2)
              obtain ⟨v, hv⟩ : ∃ v, v = rdFrom 0 (z.data.toList.take j) := ⟨_, rfl⟩
              rw [← hv] at hb1 HI1 ⊢
              have hc := z[j].toNat_lt
              obtain ⟨hb1l, hb1h⟩ := hb1
              have hor : bits .or .i64 (v * 256) (z[j].toNat : Int) = v * 256 + (z[j].toNat : Int) := i64_or_low (by omega) (by omega) (by omega) (by omega) (by omega)
              have HV := Lib.hid hv
              clear hv
              go_wp2
              go_round
              case rel => exact ⟨j + 1, by omega, by go_num, by rw [HI1.out]⟩
              case measure => simp [intOf]; omega
            · obtain rfl : j = z.size := by omega
              have hall2 : z.data.toList.take z.size = z.data.toList := by rw [HZK.out, HAll.out]
              rw [hall2]
              have hv := HBd.out z.size (by rw [HZL.out, HZK.out]; exact Nat.le_refl _) hzk3
              rw [hall2] at hv
              have hl0 := HL0.out
              obtain ⟨v, hve⟩ : ∃ v, v = rdFrom 0 z.data.toList := ⟨_, rfl⟩
              rw [← hve] at hv hl0 ⊢
              clear hall2 hve
              by_cases q1 : z0.toNat = 0
              · have hl : lenD (f :: r) = (0, 5, 1 + k) := by rw [hl0, if_pos (.inl q1)]
                have t1 : (((z0.toNat : Nat) : Int) == 0) = true := by simp [q1]
                have HL := Lib.hid hl
                have Q1 := Lib.hid q1
                clear hl hl0 q1
                go_wp2
                go_ret2
                exact ⟨by rw [HL.out]; rfl, by rw [HL.out]; exact HW4.out⟩
              · have t1 : (((z0.toNat : Nat) : Int) == 0) = false := by simpa using q1
                by_cases q2 : v < 128
                · have hl : lenD (f :: r) = (0, 5, 1 + k) := by rw [hl0, if_pos (.inr (.inl q2))]
                  have HL := Lib.hid hl
                  have Q1 := Lib.hid q1
                  clear hl hl0 q1
                  go_wp2
                  go_ret2
                  exact ⟨by rw [HL.out]; rfl, by rw [HL.out]; exact HW4.out⟩
                · by_cases q3 : 1048576 < v
                  · have hl : lenD (f :: r) = (0, 5, 1 + k) := by rw [hl0, if_pos (.inr (.inr q3))]
                    have HL := Lib.hid hl
                    have Q1 := Lib.hid q1
                    clear hl hl0 q1
                    go_wp2
                    go_ret2
                    exact ⟨by rw [HL.out]; rfl, by rw [HL.out]; exact HW4.out⟩
                  · have hl : lenD (f :: r) = (v, 0, 1 + k) := by rw [hl0, if_neg (by omega)]
                    have HL := Lib.hid hl
                    have Q1 := Lib.hid q1
                    clear hl hl0 q1
                    go_wp2
                    go_ret2
                    exact ⟨by rw [HL.out]; rfl, by rw [HL.out]; exact HW4.out⟩
end Go.Proofs.Ytiagcegclgallaa
