/- What BerSide asks: the walk. -/
import Derived.Test.YtiagcegclgallaaSide
namespace Go.Proofs.Ytiagcegclgallaa
open Go.RowKit
set_option linter.unusedVariables false

theorem IsB.below {n0 n1 : Nat} {W w : World} {l : List UInt8} {a : Option Addr} {cap : Nat} (h : IsB n0 W l a cap) (hb : Below n0 W w) (hn : n0 ≤ n1) : IsB n1 w l a cap := by
  obtain ⟨h1, h2, h3⟩ := h
  refine ⟨h1, h2, ?_⟩
  rcases h3 with h3 | ⟨b, off, e, hlt, hc⟩
  · exact .inl h3
  · exact .inr ⟨b, off, e, Nat.lt_of_lt_of_le hlt hn, fun j x hx => (hb.cell (p := ⟨b, off + j, none⟩) hlt).trans (hc j x hx)⟩

/-- The fences say no. -/
theorem side_out (L : List (List UInt8)) (a0 : Option Addr) (c0 : Nat) (s : ByteArray) (hn : ¬ (L.length ≤ 10 ∧ s.size ≤ 100)) (w : World) :
    Calls Try.prog 9 #[.slice a0 L.length c0, .string s] w fun e w' => e = .returned (.bool true) ∧ Below w.heap.size w w' := by
  by_cases q1 : L.length ≤ 10
  · have d1 : decide ((10 : Int) < (L.length : Int)) = false := by simp; omega
    have d2 : decide ((100 : Int) < (s.size : Int)) = true := by simp; omega
    clear hn
    go_enter Try.func9, Try.ntmps9
    go_wp2_with (go_at_call 12; refine (awake_any _).mono ?_; rintro e w2 ⟨rfl, hb2⟩)
    go_ret
    exact ⟨rfl, hb2⟩
  · have d1 : decide ((10 : Int) < (L.length : Int)) = true := by simp; omega
    clear hn
    go_enter Try.func9, Try.ntmps9
    go_wp2_with (go_at_call 12; refine (awake_any _).mono ?_; rintro e w2 ⟨rfl, hb2⟩)
    go_ret
    exact ⟨rfl, hb2⟩

/-- What stays of the tlv that was told, and of the row of lists. -/
def OneAt (W0 : World) (b1 : Nat) (x0 x1 x2 : Value) (p : Addr) (v : Value) (w' : World) : Prop := W0.heap[b1]? = some (.cells #[x0, x1, x2] 24 (0, 0)) ∧ W0.cell? p = some v ∧ p.block < W0.heap.size ∧ Below W0.heap.size W0 w'
theorem OneAt.go {W0 wa wb : World} {b1 : Nat} {x0 x1 x2 v : Value} {p : Addr} (h : OneAt W0 b1 x0 x1 x2 p v wa) (hb : Below wa.heap.size wa wb) :
    wb.cell? ⟨b1, 0, none⟩ = some x0 ∧ wb.cell? ⟨b1, 1, none⟩ = some x1 ∧ wb.cell? ⟨b1, 2, none⟩ = some x2 ∧ wb.cell? p = some v ∧ OneAt W0 b1 x0 x1 x2 p v wb := by
  have hbb := h.2.2.2.then hb
  obtain ⟨c0, c1, c2, _⟩ := box3 ((hbb.block b1 (Array.getElem?_eq_some_iff.1 h.1).1).trans h.1)
  exact ⟨c0, c1, c2, (hbb.cell h.2.2.1).trans h.2.1, h.1, h.2.1, h.2.2.1, hbb⟩

set_option maxRecDepth 100000 in
set_option maxHeartbeats 4000000 in
theorem side_in (L : List (List UInt8)) (a0 : Option Addr) (c0 : Nat) (s : ByteArray) (h1 : L.length ≤ 10) (h2 : s.size ≤ 100) (W : World) (i0 : IsBB W.heap.size W L a0 c0) :
    Calls Try.prog 9 #[.slice a0 L.length c0, .string s] W fun e w' => e = .returned (.bool true) ∧ Below W.heap.size W w' := by
  have d1 : decide ((10 : Int) < (L.length : Int)) = false := by simp; omega
  have d2 : decide ((100 : Int) < (s.size : Int)) = false := by simp; omega
  obtain ⟨ts, hts⟩ : ∃ ts, ts = L.map (mk s) := ⟨_, rfl⟩
  have htl : ts.length = L.length := by rw [hts]; simp
  have hall : ∀ x ∈ ts, okT 12 x = true := by
    intro x hx; rw [hts, List.mem_map] at hx; obtain ⟨l, _, rfl⟩ := hx; exact mk_ok s l
  have hget : ∀ (j : Nat) (l : List UInt8), L[j]? = some l → ts[j]? = some (mk s l) := by
    intro j l h; rw [hts, List.getElem?_map, h]; rfl
  have hB : (encs ts).length ≤ 10 * 1048581 := Nat.le_trans (encs_le (B := 1048581) fun x hx => enc_le (hall x hx)) (Nat.mul_le_mul_right _ (by omega))
  obtain ⟨A, hA⟩ : ∃ A : Nat → Nat, A = fun j => (encs (ts.take j)).length := ⟨_, rfl⟩
  obtain ⟨E, hE⟩ : ∃ E : Nat → ByteArray, E = fun j => encsB (ts.take j) := ⟨_, rfl⟩
  have hE0 : E 0 = ⟨#[]⟩ := by rw [hE]; rfl
  have hES : ∀ (j : Nat) (l : List UInt8), L[j]? = some l → E j ++ putB (mk s l) = E (j + 1) := by
    intro j l h
    have ht := hget j l h
    obtain ⟨hj, he⟩ := List.getElem?_eq_some_iff.1 ht
    rw [hE, ← he]
    exact encsB_take ts j hj (hall _ (List.getElem_mem hj))
  have hA0 : A 0 = 0 := by rw [hA]; rfl
  have hAS : ∀ (j : Nat) (l : List UInt8), L[j]? = some l → A (j + 1) = A j + (enc (mk s l)).length ∧ getAt (E L.length) (A j : Nat) = .ok (mk s l, (enc (mk s l)).length) := by
    intro j l h
    have ht := hget j l h
    obtain ⟨hj, he⟩ := List.getElem?_eq_some_iff.1 ht
    rw [hA, hE, ← he]
    refine ⟨by show (encs (ts.take (j + 1))).length = _; rw [encs_take ts j hj, List.length_append], ?_⟩
    show getAt (encsB (ts.take L.length)) _ = _
    rw [← htl, List.take_length]
    exact side_at ts hall j hj
  have hAle : ∀ j, A j ≤ 10485810 := fun j => by rw [hA]; exact Nat.le_trans (encs_take_le ts j) hB
  have hAE : A L.length = (E L.length).size := by rw [hA, hE]; show (encs (ts.take L.length)).length = (encsB (ts.take L.length)).size; rw [encsB_size]
  have hEnd : getAt (E L.length) (A L.length : Nat) = .error 6 ∧ getAt (E L.length) ((A L.length : Nat) + 1) = .error 1 ∧ getAt (E L.length) (-1) = .error 1 := by
    rw [hA, hE]
    show getAt (encsB (ts.take L.length)) ((encs (ts.take L.length)).length : Nat) = _ ∧ getAt (encsB (ts.take L.length)) (((encs (ts.take L.length)).length : Nat) + 1) = _ ∧ getAt (encsB (ts.take L.length)) (-1) = _
    rw [← htl, List.take_length]
    exact ⟨side_end ts, side_past ts, side_ahead _⟩
  have hEle : ∀ j, (E j).size ≤ 10485810 := fun j => by rw [hE]; show (encsB (ts.take j)).size ≤ _; rw [encsB_size]; exact Nat.le_trans (encs_take_le ts j) hB
  obtain ⟨g1, g2, g3⟩ := hEnd
  have hG1 : ∀ W, Calls Try.prog 19 #[.string (E L.length), .int .i64 (A L.length : Nat)] W (ToldV (.mk 0 ⟨#[]⟩ []) 0 6 W) := fun W => get_v g1 (by have := hEle L.length; omega) W
  have hG2 : ∀ W, Calls Try.prog 19 #[.string (E L.length), .int .i64 ((A L.length : Int) + 1)] W (ToldV (.mk 0 ⟨#[]⟩ []) 0 1 W) := fun W => get_v g2 (by have := hEle L.length; omega) W
  have hG3 : ∀ W, Calls Try.prog 19 #[.string (E L.length), .int .i64 (-1)] W (ToldV (.mk 0 ⟨#[]⟩ []) 0 1 W) := fun W => get_v g3 (by have := hEle L.length; omega) W
  have HI0 := Lib.hid i0
  have HE0 := Lib.hid hE0
  have HES := Lib.hid hES
  have HA0 := Lib.hid hA0
  have HAS := Lib.hid hAS
  have HAle := Lib.hid hAle
  have HEle := Lib.hid hEle
  have HAE := Lib.hid hAE
  have HG1 := Lib.hid hG1
  have HG2 := Lib.hid hG2
  have HG3 := Lib.hid hG3
  clear i0 hE0 hES hA0 hAS hAle hEle hAE hG1 hG2 hG3 g1 g2 g3 hts htl hall hget hB hA hE
  go_enter Try.func9, Try.ntmps9
  go_wp2
  go_loopw [5, 6] (fun b i wr => ∃ j : Nat, j ≤ L.length ∧ i = .int .i64 j ∧ b = .string (E j) ∧ Below W.heap.size W wr) (fun _ i _ => L.length - (intOf i).toNat)
  case atStart => exact ⟨0, by omega, rfl, by rw [HE0.out], Below.refl _ _⟩
  case round =>
    obtain ⟨j, hj, rfl, rfl, hbel⟩ := hrel
    by_cases hlt : j < L.length
    · obtain ⟨l, hl⟩ : ∃ l, L[j]? = some l := ⟨_, List.getElem?_eq_getElem hlt⟩
      obtain ⟨hc1, hc2, hor⟩ := HI0.out
      obtain ⟨b, off, ha, hblt, hcells⟩ := hor.resolve_left (by intro h; rw [h] at hlt; simp at hlt)
      subst ha
      obtain ⟨aj, cj, hcell, hib⟩ := hcells j l hl
      have hcr := (hbel.cell (p := ⟨b, off + j, none⟩) hblt).trans hcell
      have t1 : decide ((j : Int) < (L.length : Int)) = true := by simp; omega
      have hlm : l.length ≤ 9223372036854775807 := by have := hib.1; have := hib.2.1; unfold maxLen at this; omega
      by_cases hsh : l.length ≤ 12
      · have t2 : decide ((12 : Int) < (l.length : Int)) = false := by simp; omega
        have hmk := fun w2 (h : Below W.heap.size W w2) => make_any l s aj cj w2 (by unfold maxLen; omega) (hib.below h h.size)
        have hput := fun v w2 h => put_any (mk s l) v w2 h
        have hes := HES.out j l hl
        have hsz1 : (E j).size + (putB (mk s l)).size ≤ 9223372036854775807 := by have := HEle.out j; have := putB_size (mk_ok s l); have := enc_le (mk_ok s l); omega
        have hsz2 : (E j).size ≤ 9223372036854775807 := by have := HEle.out j; omega
        have HMk := Lib.hid hmk
        have HPut := Lib.hid hput
        have HEs := Lib.hid hes
        have HBel := Lib.hid hbel
        generalize mk s l = t at HMk HPut HEs hsz1
        clear hmk hput hes hbel hib hcell hcells hor hc1 hc2 hl
        go_wp2_with (first
          | (go_at_call 26; refine (HMk.out _ HBel.out).mono ?_; rintro e w1 ⟨v1, rfl, hn1, hb1⟩; have HI1 := Lib.hid hn1.1; have HB1 := Lib.hid (HBel.out.trans (hb1.mono HBel.out.size)); clear hn1 hb1)
          | (go_at_call 15; refine (HPut.out _ _ HI1.out).mono ?_; rintro e w2 ⟨rfl, hb2⟩; have HB2 := Lib.hid (HB1.out.then hb2); clear hb2))
        go_roundw
        case rel => exact ⟨j + 1, by omega, by go_num, by rw [HEs.out], HB2.out⟩
        case measure => simp [intOf]; omega
      · have t2 : decide ((12 : Int) < (l.length : Int)) = true := by simp; omega
        clear hib hcell hcells hor hc1 hc2 hl
        go_wp2_with (go_at_call 12; refine (awake_any _).mono ?_; rintro e w2 ⟨rfl, hb2⟩)
        go_ret
        exact ⟨rfl, hbel.then hb2⟩
    · obtain rfl : j = L.length := by omega
      have t1 : decide ((L.length : Int) < (L.length : Int)) = false := by simp
      have HBel := Lib.hid hbel
      obtain ⟨B, hB⟩ : ∃ B, B = E L.length := ⟨_, rfl⟩
      have HG1' := HG1.out
      have HG2' := HG2.out
      have HG3' := HG3.out
      rw [← hB] at HG1' HG2' HG3' ⊢
      have HG1 := Lib.hid HG1'
      have HG2 := Lib.hid HG2'
      have HG3 := Lib.hid HG3'
      have HBE := Lib.hid hB
      clear hbel HG1' HG2' HG3' hB
      go_wp2
      go_loopw [7, 8] (fun p i w' => ∃ k : Nat, k ≤ L.length ∧ i = .int .i64 k ∧ p = .int .i64 (A k : Nat) ∧ Below W.heap.size W w') (fun _ i _ => L.length - (intOf i).toNat)
      case atStart => exact ⟨0, by omega, rfl, by rw [HA0.out]; rfl, HBel.out⟩
      case round =>
        obtain ⟨k, hk, rfl, rfl, hbel2⟩ := hrel
        by_cases hlt : k < L.length
        · obtain ⟨l, hl⟩ : ∃ l, L[k]? = some l := ⟨_, List.getElem?_eq_getElem hlt⟩
          obtain ⟨hc1, hc2, hor⟩ := HI0.out
          obtain ⟨b, off, ha, hblt, hcells⟩ := hor.resolve_left (by intro h; rw [h] at hlt; simp at hlt)
          subst ha
          obtain ⟨aj, cj, hcell, hib⟩ := hcells k l hl
          have t2 : decide ((k : Int) < (L.length : Int)) = true := by simp; omega
          obtain ⟨hA1, hg⟩ := HAS.out k l hl
          rw [← HBE.out] at hg
          have hG : ∀ W, Calls Try.prog 19 #[.string B, .int .i64 (A k : Nat)] W (ToldV (mk s l) ((A (k + 1) : Nat) : Int) 0 W) := fun W => by
            have := get_v hg (by rw [HBE.out]; have := HEle.out L.length; omega) W
            rw [show tN (A k : Nat) (.ok (mk s l, (enc (mk s l)).length)) = ((A (k + 1) : Nat) : Int) from by rw [hA1]; show (A k : Int) + _ = _; omega] at this
            exact this
          have t3 : decide ((A (k + 1) : Nat) ≤ (A k : Nat)) = false := by have := enc_pos (mk s l); simp; omega
          have t3' : decide (((A (k + 1) : Nat) : Int) ≤ ((A k : Nat) : Int)) = false := by have := enc_pos (mk s l); simp; omega
          have hmk := fun w2 (h : Below W.heap.size W w2) => make_any l s aj cj w2 (by unfold maxLen; omega) (hib.below h h.size)
          have hsame := fun v v' W h h' => sameRef_any (mk s l) (mk s l) W v v' h h'
          rw [sameT_self] at hsame
          have HG := Lib.hid hG
          have HMk := Lib.hid hmk
          have HSame := Lib.hid hsame
          have HBel2 := Lib.hid hbel2
          have HCell := Lib.hid hcell
          generalize mk s l = t at HG HMk HSame
          clear hG hmk hsame hbel2 hib hcell hcells hor hc1 hc2 hl hg hA1 HG1 HG2 HG3 HE0 HES HA0 HAS
          go_wp2_with (go_at_call 19; refine (HG.out _).mono ?_; rintro e w3 ⟨tg3, s3, x3, n3, k3, rfl, ht3, hb3⟩; have HI3 := Lib.hid ht3; have HB3 := Lib.hid (HBel2.out.trans (hb3.mono HBel2.out.size)); clear ht3 hb3)
          have hone : OneAt (w3.alloc (.cells #[.int .i64 tg3, .string s3, .slice x3 n3 k3] 24)) w3.heap.size (.int .i64 tg3) (.string s3) (.slice x3 n3 k3) ⟨b, off + k, none⟩ (.slice aj l.length cj) (w3.alloc (.cells #[.int .i64 tg3, .string s3, .slice x3 n3 k3] 24)) :=
            ⟨World.alloc_heap_new w3 _, (((HB3.out.alloc HB3.out.size _).cell (p := ⟨b, off + k, none⟩) hblt).trans HCell.out), by have := HB3.out.size; simp; omega, Below.refl _ _⟩
          have hbw3 := HB3.out.alloc HB3.out.size (.cells #[.int .i64 tg3, .string s3, .slice x3 n3 k3] 24)
          have hit := HI3.out.below ((Below.refl _ _).alloc (Nat.le_refl _) (.cells #[.int .i64 tg3, .string s3, .slice x3 n3 k3] 24)) (show w3.heap.size ≤ (w3.alloc (.cells #[.int .i64 tg3, .string s3, .slice x3 n3 k3] 24)).heap.size by simp)
          generalize (w3.alloc (.cells #[.int .i64 tg3, .string s3, .slice x3 n3 k3] 24)) = W3 at hone hbw3 hit ⊢
          generalize w3.heap.size = b3 at hone ⊢
          have HBW3 := Lib.hid hbw3
          have HIt := Lib.hid hit
          have hmk2 := fun wx (h : OneAt W3 b3 (.int .i64 tg3) (.string s3) (.slice x3 n3 k3) ⟨b, off + k, none⟩ (.slice aj l.length cj) wx) => HMk.out wx (HBW3.out.trans (h.2.2.2.mono HBW3.out.size))
          have hsm2 := fun wx v (h : OneAt W3 b3 (.int .i64 tg3) (.string s3) (.slice x3 n3 k3) ⟨b, off + k, none⟩ (.slice aj l.length cj) wx) (h2 : IsT wx.heap.size wx t v) => HSame.out _ v wx (HIt.out.below h.2.2.2 h.2.2.2.size) h2
          have HMk2 := Lib.hid hmk2
          have HSm2 := Lib.hid hsm2
          have hst := hone.go (Below.refl _ _)
          clear hmk2 hsm2 hone hbw3 hit HMk HSame HI3 HB3
          go_region_held3 (fun w' => w'.cell? ⟨b3, 0, none⟩ = some (.int .i64 tg3) ∧ w'.cell? ⟨b3, 1, none⟩ = some (.string s3) ∧ w'.cell? ⟨b3, 2, none⟩ = some (.slice x3 n3 k3) ∧ w'.cell? ⟨b, off + k, none⟩ = some (.slice aj l.length cj) ∧ OneAt W3 b3 (.int .i64 tg3) (.string s3) (.slice x3 n3 k3) ⟨b, off + k, none⟩ (.slice aj l.length cj) w')
            (first | exact hst | (go_split_ands; exact OneAt.go (by assumption) hb4) | (go_split_ands; exact OneAt.go (by assumption) hb5) | (go_split_ands; exact OneAt.go (by assumption) (Below.refl _ _).drew) | (go_split_ands; exact OneAt.go (by assumption) (Below.refl _ _)))
            (first
              | (go_at_call 21; refine (num_any 0 _).mono ?_; rintro e w6 ⟨rfl, rfl⟩)
              | (go_at_call 26; go_split_ands; refine (HMk2.out _ (by assumption)).mono ?_; rintro e w4 ⟨v4, rfl, hn4, hb4⟩; (obtain ⟨tg4, s4, x4, n4, k4, rfl⟩ := hn4.1.shape); have HI4 := Lib.hid hn4.1; clear hn4)
              | (go_at_call 18; go_split_ands; refine (HSm2.out _ _ (by assumption) HI4.out).mono ?_; rintro e w5 ⟨rfl, hb5⟩))
          go_split_ands
          have hT : OneAt W3 b3 (.int .i64 tg3) (.string s3) (.slice x3 n3 k3) ⟨b, off + k, none⟩ (.slice aj l.length cj) w5 := by assumption
          have HT := Lib.hid hT.2.2.2
          clear hT
          go_wp2
          go_roundw
          case rel => exact ⟨k + 1, by omega, by go_num, rfl, HBW3.out.trans (HT.out.mono HBW3.out.size)⟩
          case measure => simp [intOf]; omega
        · obtain rfl : k = L.length := by omega
          have t2 : decide ((L.length : Int) < (L.length : Int)) = false := by simp
          have hal : A L.length ≤ 9223372036854775806 := by have := HAle.out L.length; omega
          have hae : (((A L.length : Nat) : Int) == (B.size : Int)) = true := by rw [HBE.out, ← HAE.out]; simp
          have hae2 : (A L.length == B.size) = true := by rw [HBE.out, ← HAE.out]; simp
          have HBel2 := Lib.hid hbel2
          clear hbel2 HE0 HES HA0 HAS HI0
          go_wp2_with (first
            | (go_at_call 19; (with_reducible refine (HG1.out _).mono ?_); rintro e w3 ⟨tg3, s3, x3, n3, k3, rfl, _, hb3⟩; have HB3 := Lib.hid (HBel2.out.trans (hb3.mono HBel2.out.size)); clear hb3)
            | (go_at_call 19; (with_reducible refine (HG2.out _).mono ?_); rintro e w4 ⟨tg4, s4, x4, n4, k4, rfl, _, hb4⟩; have HB4 := Lib.hid ((HB3.out.alloc' _).then hb4); clear hb4)
            | (go_at_call 19; (with_reducible refine (HG3.out _).mono ?_); rintro e w5 ⟨tg5, s5, x5, n5, k5, rfl, _, hb5⟩; have HB5 := Lib.hid ((HB4.out.alloc' _).then hb5); clear hb5)
            | (go_at_call 21; refine (num_any _ _).mono ?_; rintro e w6 ⟨rfl, rfl⟩)
            | (go_at_call 12; refine (awake_any _).mono ?_; rintro e w10 ⟨rfl, hb10⟩))
          go_ret
          exact ⟨rfl, (HB5.out.alloc' _).then hb10⟩
end Go.Proofs.Ytiagcegclgallaa
