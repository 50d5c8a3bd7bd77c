/- The document's own head of a tlv: the walk. -/
import Derived.Test.YtiagcegclgallaaGet
namespace Go.Proofs.Ytiagcegclgallaa
open Go.RowKit
set_option linter.unusedVariables false

theorem and31u {n : Nat} (h : n < 256) : bits .and .u8 (n : Int) 31 = (n : Int) % 32 := by
  have h' : ∀ n : Fin 256, bits .and .u8 (n.val : Int) 31 = (n.val : Int) % 32 := by decide +kernel
  exact h' ⟨n, h⟩

def headR (p : Nat) (l : List UInt8) : Value :=
  if (tagD l).2.1 ≠ 0 then .tuple #[.int .i64 0, .int .i64 0, .int .i64 (tagD l).2.1]
  else if (lenD (l.drop 1)).2.1 ≠ 0 then .tuple #[.int .i64 0, .int .i64 0, .int .i64 (lenD (l.drop 1)).2.1]
  else .tuple #[.int .i64 ((p : Int) + 1 + ((lenD (l.drop 1)).2.2 : Nat)), .int .i64 (lenD (l.drop 1)).1, .int .i64 0]

theorem headR_tag {p : Nat} {l : List UInt8} {e : Int} (h : (tagD l).2.1 = e) (he : e ≠ 0) : headR p l = .tuple #[.int .i64 0, .int .i64 0, .int .i64 e] := by
  subst h; unfold headR; rw [if_pos he]
theorem headR_len {p : Nat} {l : List UInt8} {v : Int} {n : Nat} {e : Int} (h : (tagD l).2.1 = 0) (h2 : lenD (l.drop 1) = (v, e, n)) (he : e ≠ 0) : headR p l = .tuple #[.int .i64 0, .int .i64 0, .int .i64 e] := by
  unfold headR; rw [if_neg (by rw [h]; simp), h2, if_pos he]
theorem headR_ok {p : Nat} {l : List UInt8} {v : Int} {n : Nat} (h : (tagD l).2.1 = 0) (h2 : lenD (l.drop 1) = (v, 0, n)) : headR p l = .tuple #[.int .i64 ((p : Int) + 1 + (n : Nat)), .int .i64 v, .int .i64 0] := by
  unfold headR; rw [if_neg (by rw [h]; simp), h2, if_neg (by simp)]

theorem lenD_c (f : UInt8) (r : List UInt8) : lenD (f :: r) = if f.toNat < 128 then ((f.toNat : Int), 0, 1)
    else if f.toNat = 128 ∨ 131 < f.toNat then (0, 5, 1)
    else if r.length < f.toNat - 128 then (0, 6, 1)
    else if (r[0]?.getD 0).toNat = 0 ∨ rdFrom 0 (r.take (f.toNat - 128)) < 128 ∨ 1048576 < rdFrom 0 (r.take (f.toNat - 128)) then (0, 5, 1 + (f.toNat - 128))
    else (rdFrom 0 (r.take (f.toNat - 128)), 0, 1 + (f.toNat - 128)) := rfl

set_option maxRecDepth 100000 in
set_option maxHeartbeats 2000000 in
theorem refHead_any (s : ByteArray) (p : Nat) (hs : s.size ≤ 140737488351232) (hp : p ≤ s.size) (w : World) :
    Calls Try.prog 50 #[.string s, .int .i64 p] w fun e w' => e = .returned (headR p (s.data.toList.drop p)) ∧ w = w' := by
  by_cases hend : p = s.size
  · have hr : headR p (s.data.toList.drop p) = .tuple #[.int .i64 0, .int .i64 0, .int .i64 6] := by
      rw [hend, List.drop_of_length_le (by simp)]; exact headR_tag rfl (by decide)
    rw [hr]
    subst hend
    clear hr
    go_enter Try.func50, Try.ntmps50
    go_wp2
    refine bodyPost_ret (v := (.tuple #[.int .i64 0, .int .i64 0, .int .i64 6])) (by simp [results, Try.results50, go_sem]) rfl ⟨rfl, rfl⟩
  · have hlt : p < s.size := by omega
    have d0 : ((p : Int) == (s.size : Int)) = false := by simp; omega
    have d0' : (p == s.size) = false := by simpa using hend
    obtain ⟨c, hc⟩ : ∃ c : UInt8, c = s[p] := ⟨_, rfl⟩
    obtain ⟨r, hr⟩ : ∃ r, r = s.data.toList.drop (p + 1) := ⟨_, rfl⟩
    rw [drop_cons hlt, ← hc, ← hr]
    have hrl : r.length = s.size - (p + 1) := by rw [hr]; simp
    have hc' : s[p]'hlt = c := hc.symm
    have hcl := c.toNat_lt
    have ha := and31u hcl
    by_cases h31 : (c.toNat : Int) % 32 = 31
    · rw [headR_tag (e := 5) (congrArg (·.2.1) (show tagD (c :: r) = (0, 5, 1) from if_pos h31)) (by decide)]
      clear hc hr
      go_enter Try.func50, Try.ntmps50
      go_wp2
      refine bodyPost_ret (v := (.tuple #[.int .i64 0, .int .i64 0, .int .i64 5])) (by simp [results, Try.results50, go_sem]) rfl ⟨rfl, rfl⟩
    · have ht : (tagD (c :: r)).2.1 = 0 := congrArg (·.2.1) (show tagD (c :: r) = ((c.toNat : Int), 0, 1) from if_neg h31)
      have d31 : (((c.toNat : Int) % 32) == 31) = false := by simpa using h31
      by_cases hend1 : p + 1 = s.size
      · rw [headR_len (v := 0) (n := 0) (e := 6) ht (by rw [show r = [] from List.eq_nil_of_length_eq_zero (by omega)]; rfl) (by decide)]
        have d1 : (((p : Int) + 1) == (s.size : Int)) = true := by simp; omega
        clear hc hr ht
        go_enter Try.func50, Try.ntmps50
        go_wp2
        refine bodyPost_ret (v := (.tuple #[.int .i64 0, .int .i64 0, .int .i64 6])) (by simp [results, Try.results50, go_sem]) rfl ⟨rfl, rfl⟩
      · have d1 : (((p : Int) + 1) == (s.size : Int)) = false := by simp; omega
        have hlt1 : p + 1 < s.size := by omega
        obtain ⟨f, hf⟩ : ∃ f : UInt8, f = s[p + 1] := ⟨_, rfl⟩
        obtain ⟨q, hq⟩ : ∃ q, q = s.data.toList.drop (p + 2) := ⟨_, rfl⟩
        have hrq : r = f :: q := by rw [hr, drop_cons hlt1, ← hf, ← hq]
        have hql : q.length = s.size - (p + 2) := by rw [hq]; simp
        have hf' : s[p + 1]'hlt1 = f := hf.symm
        have hfl := f.toNat_lt
        subst hrq
        have hL := lenD_c f q
        by_cases h128 : f.toNat < 128
        · rw [if_pos h128] at hL
          rw [headR_ok ht hL]
          have d2 : decide ((f.toNat : Int) < 128) = true := by simp; omega
          clear hc hr ht hL hf hq
          go_enter Try.func50, Try.ntmps50
          go_wp2
          refine bodyPost_ret (v := (.tuple #[.int .i64 ((p : Int) + 1 + (1 : Nat)), .int .i64 f.toNat, .int .i64 0])) (by simp [results, Try.results50, go_sem]; try omega) rfl ⟨rfl, rfl⟩
        · have d2 : decide ((f.toNat : Int) < 128) = false := by simp; omega
          rw [if_neg h128] at hL
          obtain ⟨k, hk⟩ : ∃ k, k = f.toNat - 128 := ⟨_, rfl⟩
          have hfk : (f.toNat : Int) - 128 = (k : Nat) := by omega
          rw [← hk] at hL
          have hF := Lib.hid hk
          by_cases hbad : f.toNat = 128 ∨ 131 < f.toNat
          · rw [if_pos hbad] at hL
            rw [headR_len ht hL (by decide)]
            by_cases hk1 : k < 1
            · have d3 : decide ((k : Int) < 1) = true := by simp; omega
              clear hc hr ht hL hf hq hbad hk
              go_enter Try.func50, Try.ntmps50
              go_wp2
              refine bodyPost_ret (v := (.tuple #[.int .i64 0, .int .i64 0, .int .i64 5])) (by simp [results, Try.results50, go_sem]) rfl ⟨rfl, rfl⟩
            · have d3 : decide ((k : Int) < 1) = false := by simp; omega
              have d4 : decide ((3 : Int) < (k : Int)) = true := by simp; omega
              clear hc hr ht hL hf hq hbad hk
              go_enter Try.func50, Try.ntmps50
              go_wp2
              refine bodyPost_ret (v := (.tuple #[.int .i64 0, .int .i64 0, .int .i64 5])) (by simp [results, Try.results50, go_sem]) rfl ⟨rfl, rfl⟩
          · rw [if_neg hbad] at hL
            have d3 : decide ((k : Int) < 1) = false := by simp; omega
            have d4 : decide ((3 : Int) < (k : Int)) = false := by simp; omega
            have hk13 : 1 ≤ k ∧ k ≤ 3 := by omega
            by_cases hsh : q.length < k
            · rw [if_pos hsh] at hL
              rw [headR_len ht hL (by decide)]
              have d5 : decide ((s.size : Int) < (p : Int) + 2 + (k : Int)) = true := by simp; omega
              clear hc hr ht hL hf hq hbad hk
              go_enter Try.func50, Try.ntmps50
              go_wp2
              refine bodyPost_ret (v := (.tuple #[.int .i64 0, .int .i64 0, .int .i64 6])) (by simp [results, Try.results50, go_sem]) rfl ⟨rfl, rfl⟩
            · rw [if_neg hsh] at hL
              have d5 : decide ((s.size : Int) < (p : Int) + 2 + (k : Int)) = false := by simp; omega
              have hks : p + 2 + k ≤ s.size := by omega
              have hin : ∀ j : Nat, (hj : j < k) → rdFrom 0 (q.take (j + 1)) = rdFrom 0 (q.take j) * 256 + ((s[p + 2 + j]'(Nat.lt_of_lt_of_le (Nat.add_lt_add_left hj (p + 2)) hks)).toNat : Int) := by
                intro j hj
                rw [rdFrom_take _ _ _ (by omega)]
                congr 2
                rw [get_data s (p + 2 + j) (by omega)]
                subst hq
                simp
              have hbd := fun j hj h3 => rd0_small q j hj h3
              have h2lt : p + 2 < s.size := by omega
              obtain ⟨z0, hz0⟩ : ∃ z0 : UInt8, z0 = s[p + 2]'h2lt := ⟨_, rfl⟩
              have H0 : q[0]?.getD 0 = z0 := by
                rw [hz0, get_data s (p + 2) h2lt]; subst hq; simp [List.getElem?_eq_getElem (show p + 2 < s.data.toList.length by simp; omega)]
              rw [H0] at hL
              have hz0' : s[p + 2]'h2lt = z0 := hz0.symm
              have hz256 := z0.toNat_lt
              have hkq : k ≤ q.length := by omega
              have HIn := Lib.hid hin
              have HBd := Lib.hid hbd
              have HL := Lib.hid hL
              have HT := Lib.hid ht
              have HKq := Lib.hid hkq
              clear hc hr ht hL hf hq hbad hk hin hbd H0 hz0 hql hrl hsh hkq
              go_enter Try.func50, Try.ntmps50
              go_wp2
              go_loop [7, 9] (fun n i => ∃ j : Nat, j ≤ k ∧ i = .int .i64 j ∧ n = .int .i64 (rdFrom 0 (q.take j))) (fun _ i => k - (intOf i).toNat)
              case atStart => exact ⟨0, by omega, rfl, by simp [rdFrom]⟩
              case round =>
                obtain ⟨j, hj, rfl, rfl⟩ := hrel
                by_cases hlt2 : j < k
                · have hb1 := HBd.out j (by have := HKq.out; omega) (by omega)
                  have HI1 := Lib.hid (HIn.out j hlt2)
                  obtain ⟨v, hv⟩ : ∃ v, v = rdFrom 0 (q.take j) := ⟨_, rfl⟩
                  rw [← hv] at hb1 HI1 ⊢
                  have hjs : p + 2 + j < s.size := by omega
                  have hc2 := (s[p + 2 + j]'hjs).toNat_lt
                  obtain ⟨hb1l, hb1h⟩ := hb1
                  have HV := Lib.hid hv
                  clear hv
                  go_wp2
                  go_round
                  case rel => exact ⟨j + 1, by omega, by go_num, by rw [HI1.out]⟩
                  case measure => simp [intOf]; omega
                · obtain rfl : j = k := by omega
                  have hb1 := HBd.out j (by have := HKq.out; omega) (by omega)
                  have hL := HL.out
                  obtain ⟨v, hv⟩ : ∃ v, v = rdFrom 0 (q.take j) := ⟨_, rfl⟩
                  rw [← hv] at hb1 hL ⊢
                  clear hv
                  obtain ⟨hb1l, hb1h⟩ := hb1
                  by_cases e0 : z0.toNat = 0
                  · rw [if_pos (.inl e0)] at hL
                    have hR := headR_len HT.out hL (p := p) (by decide)
                    have HR := Lib.hid hR
                    have e0' : ((z0.toNat : Int) == 0) = true := by simp; omega
                    clear hR hL
                    go_wp2
                    refine bodyPost_ret (v := (.tuple #[.int .i64 0, .int .i64 0, .int .i64 5])) (by simp [results, Try.results50, go_sem]) rfl ⟨by rw [HR.out], rfl⟩
                  · have e0' : ((z0.toNat : Int) == 0) = false := by simp; omega
                    by_cases e1 : v < 128
                    · rw [if_pos (.inr (.inl e1))] at hL
                      have hR := headR_len HT.out hL (p := p) (by decide)
                      have HR := Lib.hid hR
                      have e1' : decide (v < 128) = true := by simpa using e1
                      clear hR hL
                      go_wp2
                      refine bodyPost_ret (v := (.tuple #[.int .i64 0, .int .i64 0, .int .i64 5])) (by simp [results, Try.results50, go_sem]) rfl ⟨by rw [HR.out], rfl⟩
                    · have e1' : decide (v < 128) = false := by simpa using e1
                      by_cases e2 : 1048576 < v
                      · rw [if_pos (.inr (.inr e2))] at hL
                        have hR := headR_len HT.out hL (p := p) (by decide)
                        have HR := Lib.hid hR
                        have e2' : decide (1048576 < v) = true := by simpa using e2
                        clear hR hL
                        go_wp2
                        refine bodyPost_ret (v := (.tuple #[.int .i64 0, .int .i64 0, .int .i64 5])) (by simp [results, Try.results50, go_sem]) rfl ⟨by rw [HR.out], rfl⟩
                      · rw [if_neg (by omega)] at hL
                        have hR := headR_ok (p := p) HT.out hL
                        rw [show (p : Int) + 1 + ((1 + j : Nat) : Int) = (p : Int) + 2 + (j : Int) from by omega] at hR
                        have HR := Lib.hid hR
                        have e2' : decide (1048576 < v) = false := by simpa using e2
                        clear hR hL
                        go_wp2
                        refine bodyPost_ret (v := (.tuple #[.int .i64 ((p : Int) + 2 + (j : Int)), .int .i64 v, .int .i64 0])) (by simp [results, Try.results50, go_sem]) rfl ⟨by rw [HR.out], rfl⟩
end Go.Proofs.Ytiagcegclgallaa
