/- ber.mayTag, isList, size, May: the walks. -/
import Derived.Test.YtiagcegclgallaaHead
import Derived.Test.YtiagcegclgallaaMem
import Derived.BigQuiet
import Derived.Deep.QuietTactic
namespace Go.Proofs.Ytiagcegclgallaa
open Go.RowKit
set_option linter.unusedVariables false

theorem and31 {tag : Int} (h0 : 0 ≤ tag) (h1 : tag ≤ 255) : bits .and .i64 tag 31 = tag % 32 := by
  have h : ∀ n : Fin 256, bits .and .i64 (n.val : Int) 31 = (n.val : Int) % 32 := by decide +kernel
  have := h ⟨tag.toNat, by omega⟩
  simpa [Int.toNat_of_nonneg h0] using this
theorem and32 {tag : Int} (h0 : 0 ≤ tag) (h1 : tag ≤ 255) : bits .and .i64 tag 32 = tag / 32 % 2 * 32 := by
  have h : ∀ n : Fin 256, bits .and .i64 (n.val : Int) 32 = (n.val : Int) / 32 % 2 * 32 := by decide +kernel
  have := h ⟨tag.toNat, by omega⟩
  simpa [Int.toNat_of_nonneg h0] using this

set_option maxHeartbeats 400000 in
theorem mayTag_any (tag : Int) (w : World) : Calls Try.prog 39 #[.int .i64 tag] w fun e w' => e = .returned (.bool (mayTagB tag)) ∧ w = w' := by
  by_cases h0 : 0 ≤ tag
  · by_cases h1 : tag ≤ 255
    · have h2 := and31 h0 h1
      by_cases h3 : tag % 32 = 31
      · have hm : mayTagB tag = false := by simp [mayTagB, h3]
        rw [hm]
        have hq : ((tag % 32 : Int) != 31) = false := by simp [h3]
        have H3 := Lib.hid h3
        clear h3 hm
        go_enter Try.func39, Try.ntmps39
        go_wp2
        go_ret
        exact ⟨rfl, rfl⟩
      · have hm : mayTagB tag = true := by simp [mayTagB, h0, h1, h3]
        rw [hm]
        have hq : ((tag % 32 : Int) != 31) = true := by simp [h3]
        have H3 := Lib.hid h3
        clear h3 hm
        go_enter Try.func39, Try.ntmps39
        go_wp2
        go_ret
        exact ⟨rfl, rfl⟩
    · have hm : mayTagB tag = false := by simp [mayTagB]; intro _ h; omega
      rw [hm]; clear hm
      have hd : decide (tag ≤ 255) = false := by simp; omega
      go_enter Try.func39, Try.ntmps39
      go_wp2
      go_ret
      exact ⟨rfl, rfl⟩
  · have hm : mayTagB tag = false := by simp [mayTagB, h0]
    rw [hm]; clear hm
    have hd : decide (0 ≤ tag) = false := by simp; omega
    go_enter Try.func39, Try.ntmps39
    go_wp2
    go_ret
    exact ⟨rfl, rfl⟩

theorem isList_any (tag : Int) (h0 : 0 ≤ tag) (h1 : tag ≤ 255) (w : World) : Calls Try.prog 40 #[.int .i64 tag] w fun e w' => e = .returned (.bool (isListB tag)) ∧ w = w' := by
  have h2 := and32 h0 h1
  by_cases h3 : tag / 32 % 2 = 1
  · have hm : isListB tag = true := by simp [isListB, h3]
    rw [hm]
    rw [h3] at h2
    clear h3 hm
    go_enter Try.func40, Try.ntmps40
    go_wp2
    go_ret
    exact ⟨rfl, rfl⟩
  · have hm : isListB tag = false := by simp [isListB, h3]
    rw [hm]
    rw [show tag / 32 % 2 = 0 from by omega] at h2
    clear h3 hm
    go_enter Try.func40, Try.ntmps40
    go_wp2
    go_ret
    exact ⟨rfl, rfl⟩
/-- What size tells of t, that stands in so many lists. -/
def SizesT (t : T) : Prop := ∀ (w : World) (above : Nat) (v : Value), above ≤ 100 → IsT w.heap.size w t v →
  Calls Try.prog 28 #[v, .int .i64 above] w fun e w' => ∃ m : Int, e = .returned (.tuple #[.int .i64 m, .bool (okT (12 - above) t)]) ∧ (okT (12 - above) t = true → m = (body t).length) ∧ Below w.heap.size w w'

theorem body_len_nil {tag : Int} {s : ByteArray} {l : List T} (h : s.size = 0) : (body (.mk tag s l)).length = (encs l).length := by
  have e : s.data.toList.length = s.size := by simp
  rw [body_nomix (.inl h), List.length_append, e, h]; rfl

theorem cells_shape {n0 : Nat} {w : World} {l : List T} {a : Option Addr} (h : IsTs n0 w l a 0) (j : Nat) (hj : j < l.length) :
    ∃ b off s' a' n' cap', a = some ⟨b, off, none⟩ ∧ b < n0 ∧ w.cell? ⟨b, off + j * 3, none⟩ = some (.int .i64 l[j].tag) ∧ w.cell? ⟨b, off + j * 3 + 1, none⟩ = some (.string s') ∧ w.cell? ⟨b, off + j * 3 + 2, none⟩ = some (.slice a' n' cap') ∧
      IsT n0 w l[j] (.agg #[.int .i64 l[j].tag, .string s', .slice a' n' cap']) := by
  obtain ⟨b, off, v0, v1, v2, e, hb, e0, e1, e2, ht⟩ := IsTs.get l a 0 h j l[j] (by simp)
  rw [Nat.zero_add] at e0 e1 e2
  generalize l[j] = t at *
  cases t with
  | mk tag s k =>
    have ht' := ht
    obtain ⟨a', cap', ev, _⟩ := ht
    simp only [Value.agg.injEq, Array.mk.injEq, List.cons.injEq, and_true] at ev
    obtain ⟨rfl, rfl, rfl⟩ := ev
    exact ⟨b, off, _, _, _, _, e, hb, e0, e1, e2, ht'⟩

set_option maxRecDepth 100000 in
set_option maxHeartbeats 2000000 in
theorem size_node (tag : Int) (s : ByteArray) (l : List T) (ih : ∀ x ∈ l, SizesT x) : SizesT (.mk tag s l) := by
  rintro w above v habove ⟨a, cap, rfl, hwf, hsz, hll, hl⟩
  by_cases hm : mayTagB tag = true
  · have htag : 0 ≤ tag ∧ tag ≤ 255 := by simp [mayTagB] at hm; exact ⟨hm.1.1, hm.1.2⟩
    by_cases hL : isListB tag = true
    · have hok : okT (12 - above) (.mk tag s l) = (decide (s.size = 0) && decide (1 ≤ 12 - above) && okTs (12 - above - 1) l && decide ((encs l).length ≤ 1048576)) := by simp [okT, hm, hL]
      by_cases hsz0 : s.size = 0
      · have hse : s.toList.isEmpty = true := by rw [ByteArray.toList_eq]; simp; rw [← Array.size_eq_zero_iff]; exact hsz0
        have hse' : s.toList = [] := by simpa using hse
        by_cases hab : 12 ≤ above
        · have hok' : okT (12 - above) (.mk tag s l) = false := by rw [hok]; simp; intro _ h; omega
          have hd : decide ((12 : Int) ≤ (above : Int)) = true := by simp; omega
          rw [hok']
          clear hok hok' hl hsz0 hse
          go_enter Try.func28, Try.ntmps28
          go_wp2_with (first
            | (go_at_call 39; refine (mayTag_any tag _).mono ?_; rintro e w' ⟨rfl, rfl⟩)
            | (go_at_call 40; refine (isList_any tag htag.1 htag.2 _).mono ?_; rintro e w' ⟨rfl, rfl⟩))
          go_ret2
          exact ⟨0, rfl, (fun h => by cases h), (Below.refl _ _).alloc (Nat.le_refl _) _⟩
        · have hd : decide ((12 : Int) ≤ (above : Int)) = false := by simp; omega
          have hbody := body_len_nil (tag := tag) (l := l) hsz0
          have HOk := Lib.hid hok
          have HBody := Lib.hid hbody
          have HHL := Lib.hid hl
          have hll' : l.length ≤ 9223372036854775807 := by unfold maxLen at hll; exact hll
          have HZ := Lib.hid hsz0
          clear hok hbody hl hsz0 hse
          go_enter Try.func28, Try.ntmps28
          go_wp2_with (first
            | (go_at_call 39; refine (mayTag_any tag _).mono ?_; rintro e w' ⟨rfl, rfl⟩)
            | (go_at_call 40; refine (isList_any tag htag.1 htag.2 _).mono ?_; rintro e w' ⟨rfl, rfl⟩))
          go_loopw [6, 42] (fun sum i wr => ∃ j : Nat, j ≤ l.length ∧ i = .int .i64 j ∧ sum = .int .i64 ((encs (l.take j)).length : Nat) ∧ okTs (12 - above - 1) (l.take j) = true ∧ (encs (l.take j)).length ≤ 1048576 ∧ Below w.heap.size w wr)
            (fun _ i _ => l.length - (intOf i).toNat)
          case atStart => exact ⟨0, by omega, rfl, by simp [encs], by simp [okTs], by simp [encs], (Below.refl _ _).alloc (Nat.le_refl _) _⟩
          case round =>
            obtain ⟨j, hj, rfl, rfl, hoks, hle, hbel⟩ := hrel
            by_cases hlt : j < l.length
            · obtain ⟨b, off, s', a', n', cap', ea, hb, e0, e1, e2, ht⟩ := cells_shape HHL.out j hlt
              subst ea
              have f0 := (hbel.cell (p := ⟨b, _, none⟩) hb).trans e0
              have f1 := (hbel.cell (p := ⟨b, _, none⟩) hb).trans e1
              have f2 := (hbel.cell (p := ⟨b, _, none⟩) hb).trans e2
              have hs1 : w.heap.size ≤ wr.heap.size := hbel.size
              have hbel1 := hbel.alloc hs1 (.cells #[.int .i64 l[j].tag, .string s', .slice a' n' cap'] 24)
              have hcall := ih l[j] (by simp) (wr.alloc (.cells #[.int .i64 l[j].tag, .string s', .slice a' n' cap'] 24)) (above + 1) (.agg #[.int .i64 l[j].tag, .string s', .slice a' n' cap']) (by omega) (ht.below hbel1 (by simp; omega))
              rw [show 12 - (above + 1) = 12 - above - 1 from by omega] at hcall
              have hcast : ((above + 1 : Nat) : Int) = (above : Int) + 1 := by omega
              rw [hcast] at hcall
              have ht1 := encs_take l j hlt
              have ht2 := okTs_take (12 - above - 1) l j hlt
              have ht3 := encs_take_le l (j + 1)
              rw [ht1, List.length_append, enc_length] at ht3
              have hok3 : okT (12 - above) (.mk tag s l) = true → okT (12 - above - 1) l[j] = true ∧ (encs l).length ≤ 1048576 := by
                rw [HOk.out]; simp only [Bool.and_eq_true, decide_eq_true_eq]
                intro h; exact ⟨okTs_get h.1.2 j hlt, h.2⟩
              have HC := Lib.hid hcall
              have HT1 := Lib.hid ht1
              have HT2 := Lib.hid ht2
              have HK3 := Lib.hid hok3
              have HOs := Lib.hid hoks
              have ht3' := ht3
              clear hcall ht1 ht2 e0 e1 e2 ht hcast hok3 hoks
              by_cases hokj : okT (12 - above - 1) l[j] = true
              · have hb1 := okT_body hokj
                have htg := okT_tag hokj
                have hbl : (body l[j]).length < 16777216 := by omega
                obtain ⟨nb, hnb⟩ : ∃ nb, nb = (body l[j]).length := ⟨_, rfl⟩
                rw [← hnb] at hb1 hbl ht3
                have hc2 : Calls Try.prog 28 #[.agg #[.int .i64 l[j].tag, .string s', .slice a' n' cap'], .int .i64 ((above : Int) + 1)] (wr.alloc (.cells #[.int .i64 l[j].tag, .string s', .slice a' n' cap'] 24)) fun e w' => e = .returned (.tuple #[.int .i64 (nb : Nat), .bool true]) ∧ Below (wr.alloc (.cells #[.int .i64 l[j].tag, .string s', .slice a' n' cap'] 24)).heap.size (wr.alloc (.cells #[.int .i64 l[j].tag, .string s', .slice a' n' cap'] 24)) w' :=
                  HC.out.mono fun e w' ⟨m, he, hm, hb⟩ => ⟨by rw [he, hokj, hm hokj, hnb], hb⟩
                have HC2 := Lib.hid hc2
                have henc := enc_length l[j]
                rw [← hnb] at henc
                have HNB := Lib.hid hnb
                have HOj := Lib.hid hokj
                have hhl := @headB_length l[j].tag nb
                have hlb := lenB_le hbl
                have hh5 : (headB l[j].tag nb).length ≤ 5 := by omega
                have hbig : okT (12 - above) (.mk tag s l) = true → ((encs (l.take j)).length + ((headB l[j].tag nb).length + nb) ≤ 1048576) := fun h => by have := (HK3.out h).2; omega
                have HBig := Lib.hid hbig
                clear hnb hokj hhl hc2 hbig ih
                generalize hhb : headB l[j].tag nb = hd' at *
                generalize l[j].tag = tg at *
                obtain ⟨sm, hsm⟩ : ∃ sm, sm = (encs (l.take j)).length := ⟨_, rfl⟩
                have HEnc := Lib.hid henc
                have HHB := Lib.hid hhb
                have HSM := Lib.hid hsm
                rw [← hsm] at hle ⊢
                clear hhb hsm henc
                by_cases hover : sm + (hd'.length + nb) ≤ 1048576
                · have hov : decide ((1048576 : Int) < (sm : Int) + ((hd'.length : Int) + (nb : Int))) = false := by simp; omega
                  go_wp2_with (first
                    | (go_at_call 28; refine HC2.out.mono ?_; rintro e w2 ⟨rfl, hb2⟩; have hc0 := hb2.cell (p := ⟨wr.heap.size, 0, none⟩) (by simp); rw [World.cell?_alloc_new] at hc0; have hc0' : w2.cell? ⟨wr.heap.size, 0, none⟩ = some (.int .i64 tg) := hc0; clear hc0)
                    | (go_at_call 30; refine (head_any tg nb hbl _).mono ?_; rw [HHB.out]; rintro e w3 ⟨gh, ch, rfl, _, hb3⟩))
                  have hlen : (encs (l.take (j + 1))).length = sm + (hd'.length + nb) := by rw [HT1.out, List.length_append, HEnc.out, HSM.out]
                  have hok1 : okTs (12 - above - 1) (l.take (j + 1)) = true := by rw [HT2.out, HOs.out, HOj.out]; rfl
                  go_roundw
                  case rel => exact ⟨j + 1, by omega, by go_num, by rw [hlen]; go_num, hok1, by omega, (hbel1.trans (hb2.mono (by simp; omega))).trans (hb3.mono (by have := hb2.size; simp at this; omega))⟩
                  case measure => simp [intOf]; omega
                · have hov : decide ((1048576 : Int) < (sm : Int) + ((hd'.length : Int) + (nb : Int))) = true := by simp; omega
                  have hno : okT (12 - above) (.mk tag s l) = false := by
                    cases h : okT (12 - above) (.mk tag s l) with
                    | false => rfl
                    | true => exact absurd (by have := HBig.out h; rw [← HSM.out] at this; exact this) hover
                  have HNo := Lib.hid hno
                  clear hno
                  go_wp2_with (first
                    | (go_at_call 28; refine HC2.out.mono ?_; rintro e w2 ⟨rfl, hb2⟩; have hc0 := hb2.cell (p := ⟨wr.heap.size, 0, none⟩) (by simp); rw [World.cell?_alloc_new] at hc0; have hc0' : w2.cell? ⟨wr.heap.size, 0, none⟩ = some (.int .i64 tg) := hc0; clear hc0)
                    | (go_at_call 30; refine (head_any tg nb hbl _).mono ?_; rw [HHB.out]; rintro e w3 ⟨gh, ch, rfl, _, hb3⟩))
                  go_ret2
                  exact ⟨0, by rw [HNo.out]; rfl, (fun h => by rw [HNo.out] at h; cases h), (hbel1.trans (hb2.mono (by simp; omega))).trans (hb3.mono (by have := hb2.size; simp at this; omega))⟩
              · have hokj' : okT (12 - above - 1) l[j] = false := by simpa using hokj
                have hno : okT (12 - above) (.mk tag s l) = false := by
                  cases h : okT (12 - above) (.mk tag s l) with
                  | false => rfl
                  | true => exact absurd (HK3.out h).1 hokj
                have hc2 : Calls Try.prog 28 #[.agg #[.int .i64 l[j].tag, .string s', .slice a' n' cap'], .int .i64 ((above : Int) + 1)] (wr.alloc (.cells #[.int .i64 l[j].tag, .string s', .slice a' n' cap'] 24)) fun e w' => ∃ m : Int, e = .returned (.tuple #[.int .i64 m, .bool false]) ∧ Below (wr.alloc (.cells #[.int .i64 l[j].tag, .string s', .slice a' n' cap'] 24)).heap.size (wr.alloc (.cells #[.int .i64 l[j].tag, .string s', .slice a' n' cap'] 24)) w' :=
                  HC.out.mono fun e w' ⟨m, he, hm, hb⟩ => ⟨m, by rw [he, hokj'], hb⟩
                have HC2 := Lib.hid hc2
                have HNo := Lib.hid hno
                clear hc2 hno hokj hokj' ih
                go_wp2_with (go_at_call 28; refine HC2.out.mono ?_; rintro e w2 ⟨m, rfl, hb2⟩)
                go_ret2
                exact ⟨0, by rw [HNo.out]; rfl, (fun h => by rw [HNo.out] at h; cases h), hbel1.trans (hb2.mono (by simp; omega))⟩
            · obtain rfl : j = l.length := by omega
              rw [List.take_length] at hoks hle ⊢
              have hyes : okT (12 - above) (.mk tag s l) = true := by
                rw [HOk.out]; simp only [Bool.and_eq_true, decide_eq_true_eq]
                have hz := HZ.out
                exact ⟨⟨⟨hz, by omega⟩, hoks⟩, hle⟩
              have HYes := Lib.hid hyes
              clear hyes hoks
              go_wp2
              go_ret2
              exact ⟨_, by rw [HYes.out]; rfl, (fun _ => by rw [HBody.out]), hbel⟩
      · have hse : s.toList.isEmpty = false := by
          rw [ByteArray.toList_eq]; simp; intro e
          have : s.size = 0 := by rw [← ByteArray.size_data, e]; rfl
          exact hsz0 this
        have hse' : ¬ s.toList = [] := by intro e; rw [e] at hse; simp at hse
        have hok' : okT (12 - above) (.mk tag s l) = false := by rw [hok]; simp only [Bool.and_eq_false_iff, decide_eq_false_iff_not]; exact .inl (.inl (.inl hsz0))
        rw [hok']
        clear hok hok' hl hsz0
        go_enter Try.func28, Try.ntmps28
        go_wp2_with (first
          | (go_at_call 39; refine (mayTag_any tag _).mono ?_; rintro e w' ⟨rfl, rfl⟩)
          | (go_at_call 40; refine (isList_any tag htag.1 htag.2 _).mono ?_; rintro e w' ⟨rfl, rfl⟩))
        go_ret2
        exact ⟨0, rfl, (fun h => by cases h), (Below.refl _ _).alloc (Nat.le_refl _) _⟩
    · have hL' : isListB tag = false := by simpa using hL
      have hok : okT (12 - above) (.mk tag s l) = (decide (l.length = 0) && decide (s.size ≤ 1048576)) := by simp [okT, hm, hL']
      have hbody : okT (12 - above) (.mk tag s l) = true → ((s.size : Nat) : Int) = (body (.mk tag s l)).length := by
        rw [hok]; simp only [Bool.and_eq_true, decide_eq_true_eq]; intro h
        have : l = [] := List.eq_nil_of_length_eq_zero h.1
        subst this; simp [body, T.s, T.l, encs]
      have HOk := Lib.hid hok
      have HBody := Lib.hid hbody
      clear hok hbody hL hl
      by_cases hlz : l.length = 0
      all_goals
        have hz : (((l.length : Nat) : Int) == 0) = decide (l.length = 0) := by simp [hlz]
        simp only [hlz, decide_true, decide_false] at hz
        go_enter Try.func28, Try.ntmps28
        go_wp2_with (first
          | (go_at_call 39; refine (mayTag_any tag _).mono ?_; rintro e w' ⟨rfl, rfl⟩)
          | (go_at_call 40; refine (isList_any tag htag.1 htag.2 _).mono ?_; rintro e w' ⟨rfl, rfl⟩))
        go_quiet (fail)
        go_wp2
        go_ret2
        exact ⟨_, by rw [HOk.out]; simp [hlz]; try omega, HBody.out, below_drewN ((Below.refl _ _).alloc (Nat.le_refl _) _) _⟩
  · have hm' : mayTagB tag = false := by simpa using hm
    have hok : okT (12 - above) (.mk tag s l) = false := by simp [okT, hm']
    rw [hok]
    clear hm hl hok
    go_enter Try.func28, Try.ntmps28
    go_wp2_with (go_at_call 39; refine (mayTag_any tag _).mono ?_; rintro e w' ⟨rfl, rfl⟩)
    go_ret2
    exact ⟨0, rfl, (fun h => by cases h), (Below.refl _ _).alloc (Nat.le_refl _) _⟩

mutual
theorem size_any : ∀ t : T, SizesT t
  | .mk tag s l => size_node tag s l (size_all l)
theorem size_all : ∀ l : List T, ∀ x ∈ l, SizesT x
  | [], x, hx => by cases hx
  | t :: l, x, hx => by
    rcases List.mem_cons.1 hx with h | h
    · rw [h]; exact size_any t
    · exact size_all l x h
end

set_option maxHeartbeats 400000 in
/-- ber.May. -/
theorem may_any (t : T) (v : Value) (w : World) (ht : IsT w.heap.size w t v) : Calls Try.prog 13 #[v] w fun e w' => e = .returned (.bool (okT 12 t)) ∧ Below w.heap.size w w' := by
  obtain ⟨tg, s, a, n, cap, rfl⟩ := ht.shape
  have hb1 := (Below.refl w.heap.size w).alloc (Nat.le_refl _) (.cells #[.int .i64 tg, .string s, .slice a n cap] 24)
  have hc := size_any t (w.alloc (.cells #[.int .i64 tg, .string s, .slice a n cap] 24)) 0 _ (by omega) (ht.below hb1 (by simp))
  have HC := Lib.hid hc
  clear hc ht
  go_enter Try.func13, Try.ntmps13
  go_wp2_with (go_at_call 28; refine HC.out.mono ?_; rintro e w2 ⟨m, rfl, _, hb2⟩)
  go_ret
  exact ⟨rfl, hb1.trans (hb2.mono (by simp))⟩
end Go.Proofs.Ytiagcegclgallaa
