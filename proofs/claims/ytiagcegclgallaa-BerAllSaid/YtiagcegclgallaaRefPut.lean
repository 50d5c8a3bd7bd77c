/- The document's own MayTlv, put and PutTlv: the walks. -/
import Derived.Test.YtiagcegclgallaaRefSize
import Derived.Test.YtiagcegclgallaaGrew
import Derived.Test.YtiagcegclgallaaPut
namespace Go.Proofs.Ytiagcegclgallaa
open Go.RowKit
set_option linter.unusedVariables false

theorem mayRef_any (t : T) (v : Value) (w : World) (hw : wt t ≤ 300000) (h : IsT w.heap.size w t v) : Calls Try.prog 14 #[v] w fun e w' => e = .returned (.bool (okT 12 t)) ∧ Below w.heap.size w w' := by
  obtain ⟨tg, s, a, n, cap, rfl⟩ := h.shape
  have hc := rsize_any t (w.alloc (.cells #[.int .i64 tg, .string s, .slice a n cap] 24)) _ hw (h.below ((Below.refl _ _).alloc (Nat.le_refl _) _) (by simp))
  have hd : decide (0 ≤ rsN t) = okT 12 t := by
    cases h : okT 12 t with
    | true => rw [(rs_yes h).1]; simp
    | false => rw [(rs_no h).1]; rfl
  rw [← hd]
  generalize rsN t = rn at *
  generalize rsD t = rd at *
  have HC := Lib.hid hc
  clear hc hd
  go_enter Try.func14, Try.ntmps14
  go_wp2_with (go_at_call 29; refine HC.out.mono ?_; rintro e w2 ⟨rfl, hb⟩)
  go_ret
  exact ⟨rfl, ((Below.refl _ _).alloc (Nat.le_refl _) _).trans (hb.mono (by simp))⟩

theorem own_slice {B : Nat} {w : World} {v : Value} {l : List UInt8} (h : OwnB B w v l) : ∃ a k c, v = .slice a k c := by
  rcases h.2 with ⟨rfl, _⟩ | ⟨g, cap, cur, rfl, _⟩
  · exact ⟨_, _, _, rfl⟩
  · exact ⟨_, _, _, rfl⟩
theorem own_below {B : Nat} {w w' : World} {v : Value} {l : List UInt8} (h : OwnB B w v l) (hb : Below w.heap.size w w') : OwnB B w' v l :=
  World.ownsRow.kept h (row := none) ⟨hb.os, hb.tape, hb.output, hb.size, fun k hk _ => hb.block k hk⟩ (by cases v.ownBlock <;> simp)
theorem own_lt {B : Nat} {w : World} {v : Value} {l : List UInt8} (h : OwnB B w v l) : ∀ k, v.ownBlock = some k → B ≤ k ∧ k < w.heap.size := World.ownsRow.lt h

def PutPost (B : Nat) (w : World) (v : Value) (l : List UInt8) (e : Ending) (w' : World) : Prop := ∃ v', e = .returned v' ∧ OwnB B w' v' l ∧ Grew w v w' v'
def RPutT (t : T) : Prop := ∀ (B : Nat) (w : World) (v vt : Value) (lo : List UInt8), wt t ≤ 300000 → okT 12 t = true → lo.length + (enc t).length ≤ 2000000 → IsT B w t vt → B ≤ w.heap.size → OwnB B w v lo →
  Calls Try.prog 32 #[v, vt] w (PutPost B w v (lo ++ enc t))

/-- The box of the tlv that was handed in stays, whatever the row does. -/
theorem box_stays {w w' : World} {v v' : Value} {x y z : Value} {B : Nat} {lo : List UInt8} (hown : OwnB B w v lo) (h : Grew (w.alloc (.cells #[x, y, z] 24)) v w' v') : w'.heap[w.heap.size]? = some (.cells #[x, y, z] 24 (0, 0)) :=
  (h.1.block w.heap.size (by simp) (fun e => by have := (own_lt hown _ e.symm).2; omega)).trans (World.alloc_heap_new w _)

set_option maxRecDepth 100000 in
set_option maxHeartbeats 4000000 in
theorem rput_node (tag : Int) (s : ByteArray) (l : List T) (ih : ∀ x ∈ l, RPutT x) : RPutT (.mk tag s l) := by
  rintro B w v vt lo hwt hok hlo hit hB hown
  have hit0 := hit
  obtain ⟨a, cap, rfl, hwf, hsz, hll, hl⟩ := hit
  obtain ⟨i0, hi, hz0, hz1, hz2⟩ := info_parts info5
  obtain ⟨htg0, htg1⟩ := okT_tag hok
  have htg0' : 0 ≤ tag := htg0
  have htg1' : tag ≤ 255 := htg1
  have hbt := byteAt_small (n := tag) (by omega) (by omega)
  have hm : tag % 256 = tag := by omega
  have hs63 : s.size ≤ 9223372036854775807 := by unfold maxLen at hsz; exact hsz
  have hl63 : l.length ≤ 9223372036854775807 := by unfold maxLen at hll; exact hll
  obtain ⟨N, hN⟩ : ∃ N, N = (body (.mk tag s l)).length := ⟨_, rfl⟩
  have hN2 : N ≤ 1048576 := by rw [hN]; exact okT_body hok
  have henc : enc (.mk tag s l) = [byteAt tag 0] ++ lenB N ++ s.data.toList ++ encs l := by rw [enc_eq, ← hN]; simp [headB, body, T.tag, T.s, T.l]
  have hlen := fun w => refLen_any N (by omega) w
  obtain ⟨S, hS⟩ : ∃ S : ByteArray, S = ⟨(lenB N).toArray⟩ := ⟨_, rfl⟩
  have hSl : S.data.toList = lenB N := by rw [hS]
  have hSs : S.size = (lenB N).length := by rw [hS]; simp [ByteArray.size]
  rw [← hS] at hlen
  rw [← hSl] at henc hSs
  have hS5 : S.data.toList.length ≤ 5 := by rw [hSl]; have := lenB_le (n := N) (by omega); omega
  have hlo2 : lo.length + (1 + S.size + s.size + (encs l).length) ≤ 2000000 := by rw [henc] at hlo; simp at hlo; rw [hSs]; simp; omega
  have hcall := fun wx hx => rsize_any (.mk tag s l) wx (.agg #[.int .i64 tag, .string s, .slice a l.length cap]) hwt hx
  rw [(rs_yes hok).1, (rs_yes hok).2, ← hN] at hcall
  obtain ⟨D, hD⟩ : ∃ D, D = dp (.mk tag s l) := ⟨_, rfl⟩
  rw [← hD] at hcall
  have hkid : ∀ j (h : j < l.length), okT 12 l[j] = true ∧ wt l[j] ≤ 300000 := fun j h => by
    refine ⟨?_, by rw [wt] at hwt; exact Nat.le_trans (wts_get l j h) (by omega)⟩
    simp only [okT, Bool.and_eq_true] at hok
    have hk := hok.2
    split at hk
    · simp only [Bool.and_eq_true] at hk; exact okT_mono (d := 11) (by omega) _ (okTs_get hk.1.2 j h)
    · simp only [Bool.and_eq_true, decide_eq_true_eq] at hk; omega
  obtain ⟨R, hR⟩ : ∃ R, R = lo ++ enc (.mk tag s l) := ⟨_, rfl⟩
  rw [← hR]
  have hR2 : R = lo ++ [byteAt tag 0] ++ S.data.toList ++ s.data.toList ++ encs l := by rw [hR, henc]; simp
  obtain ⟨x0, x1, x2, hv⟩ := own_slice hown
  subst hv
  have hown0 := own_below hown ((Below.refl _ _).alloc (Nat.le_refl _) (.cells #[.int .i64 tag, .string s, .slice a l.length cap] 24))
  have hw0 : w.heap.size ≤ (w.alloc (.cells #[.int .i64 tag, .string s, .slice a l.length cap] 24)).heap.size := by simp
  have hcall0 := hcall (w.alloc (.cells #[.int .i64 tag, .string s, .slice a l.length cap] 24)) (hit0.below ((Below.refl _ _).alloc hB _) (by simp; omega))
  have HC := Lib.hid hcall0
  have HLen := Lib.hid hlen
  have HOwn := Lib.hid hown
  have HOwn0 := Lib.hid hown0
  have HKid := Lib.hid hkid
  have HIt := Lib.hid hl
  have HBt := Lib.hid hbt
  have HLo := Lib.hid hlo2
  have HSs := Lib.hid hSs
  have HIH := Lib.hid ih
  have HR2 := Lib.hid hR2
  clear hcall hcall0 hlen hown hown0 hkid hl hbt hlo hlo2 hit0 hok hwt hN henc hS hSl hSs hD hwf ih hR hR2
  generalize byteAt tag 0 = c at *
  go_enter Try.func32, Try.ntmps32
  go_wp2_with (first
    | (go_at_call 29; refine HC.out.mono ?_; rintro e w2 ⟨rfl, hb2⟩; have hg2 := Grew.ofBelow (.slice x0 x1 x2) hb2; have k2 := box_stays HOwn.out hg2; obtain ⟨c20, c21, c22, _⟩ := box3 k2; have HO2 := Lib.hid (own_below HOwn0.out hb2); have HG2 := Lib.hid hg2; clear hg2 k2 hb2)
    | (go_at_call 41; refine (HLen.out _).mono ?_; rintro e w4 ⟨rfl, hb4⟩; have HO4 := Lib.hid (own_below HO3.out hb4); have HG4 := Lib.hid (HG3.out.below hb4); clear hb4)
    | (at_builtin; refine wpList_append_one rfl _ _ rfl B i0 hi hz0 hz1 hz2 (.slice x0 x1 x2) lo rfl tag c HBt.out HO2.out rfl (by have := HLo.out; omega) (by have := HG2.out.1.size; omega) ?_; intro v3 w3 hown3 hg3; (obtain ⟨y0, y1, y2, rfl⟩ := own_slice hown3); have HO3 := Lib.hid hown3; have HG3 := Lib.hid (HG2.out.trans hg3); clear hown3 hg3)
    | (at_builtin; refine wpList_append_str rfl _ _ rfl B i0 hi hz0 hz1 hz2 (.slice y0 y1 y2) (lo ++ [c]) rfl HO4.out S rfl (by have := HLo.out; simp; omega) (by have := HG4.out.1.size; omega) ?_; intro v5 w5 hown5 hg5; (obtain ⟨z0, z1, z2, rfl⟩ := own_slice hown5); have hgg := HG4.out.trans hg5; have k5 := box_stays HOwn.out hgg; obtain ⟨c50, c51, c52, _⟩ := box3 k5; have HO5 := Lib.hid hown5; have HG5 := Lib.hid hgg; clear hown5 hg5 hgg k5)
    | (at_builtin; refine wpList_append_str rfl _ _ rfl B i0 hi hz0 hz1 hz2 (.slice z0 z1 z2) (lo ++ [c] ++ S.data.toList) rfl HO5.out s rfl (by have := HLo.out; have := HSs.out; simp; omega) (by have := HG5.out.1.size; omega) ?_; intro v6 w6 hown6 hg6; (obtain ⟨u0, u1, u2, rfl⟩ := own_slice hown6); have hgg := HG5.out.trans hg6; have HO6 := Lib.hid hown6; have HG6 := Lib.hid hgg; clear hown6 hg6 hgg))
  obtain ⟨LO, hLO⟩ : ∃ LO, LO = lo ++ [c] ++ S.data.toList ++ s.data.toList := ⟨_, rfl⟩
  have hown6 := HO6.out
  have hR3 := HR2.out
  rw [← hLO] at hown6 hR3
  have hLOl : LO.length + (encs l).length ≤ 2000000 := by have := HLo.out; have := HSs.out; rw [hLO]; simp at *; omega
  have HO7 := Lib.hid hown6
  have HR3 := Lib.hid hR3
  clear hown6 hR3 hLO c20 c21 c22 c50 c51 c52
  go_loopw [0, 7] (fun u i wr => ∃ j : Nat, j ≤ l.length ∧ i = .int .i64 j ∧ OwnB B wr u (LO ++ encs (l.take j)) ∧ Grew (w.alloc (.cells #[.int .i64 tag, .string s, .slice a l.length cap] 24)) (.slice x0 x1 x2) wr u)
    (fun _ i _ => l.length - (intOf i).toNat)
  case atStart => exact ⟨0, by omega, rfl, by simpa [encs] using HO7.out, HG6.out⟩
  case round =>
    obtain ⟨j, hj, rfl, hown, hgg⟩ := hrel
    obtain ⟨v0, v1, v2, hv⟩ := own_slice hown
    subst hv
    have k2 := box_stays HOwn.out hgg
    obtain ⟨c0, c1, c2, _⟩ := box3 k2
    have hbw : Below B w wr := ((Below.refl B w).alloc hB _).trans (hgg.toBelow (by simp; omega) (fun k e => (own_lt HOwn0.out k e).1))
    by_cases hlt : j < l.length
    · have t5 : decide ((j : Int) < (l.length : Int)) = true := by simp; omega
      obtain ⟨b1, o1, s1, a1, n1, q1, ea, hb1, e0, e1, e2, hta⟩ := cells_shape HIt.out j hlt
      subst ea
      have f0 := (hbw.cell (p := ⟨b1, _, none⟩) hb1).trans e0
      have f1 := (hbw.cell (p := ⟨b1, _, none⟩) hb1).trans e1
      have f2 := (hbw.cell (p := ⟨b1, _, none⟩) hb1).trans e2
      obtain ⟨hk1, hk2⟩ := HKid.out j hlt
      have hes := encs_take l j hlt
      have hle := encs_take_le l (j + 1)
      have hcall := HIH.out l[j] (by simp) B wr _ _ _ hk2 hk1 (by rw [hes] at hle; simp at hle ⊢; omega) (hta.below hbw (Nat.le_refl _)) (Nat.le_trans hB hbw.size) hown
      rw [List.append_assoc, ← hes] at hcall
      have HC2 := Lib.hid hcall
      have HGG := Lib.hid hgg
      clear hcall e0 e1 e2 hta hk1 hk2 hes hle hown hgg hbw k2
      generalize l[j].tag = tg1 at *
      go_wp2_with (go_at_call 32; refine HC2.out.mono ?_; rintro e w2 ⟨v3, rfl, hown2, hg2⟩; have HO2 := Lib.hid hown2; have HG2 := Lib.hid hg2; clear hown2 hg2)
      go_roundw
      case rel => exact ⟨j + 1, by omega, by go_num, HO2.out, HGG.out.trans HG2.out⟩
      case measure => simp [intOf]; omega
    · obtain rfl : j = l.length := by omega
      have t5 : decide ((l.length : Int) < (l.length : Int)) = false := by simp
      rw [List.take_length] at hown
      have HOwnE := Lib.hid hown
      have HGG := Lib.hid hgg
      clear hown hgg hbw k2
      go_wp2
      go_ret
      exact ⟨_, rfl, by rw [HR3.out]; exact HOwnE.out, ((Grew.refl w (.slice x0 x1 x2)).alloc _).trans HGG.out⟩
mutual
theorem rput_any : ∀ t : T, RPutT t
  | .mk tag s l => rput_node tag s l (rput_all l)
theorem rput_all : ∀ l : List T, ∀ x ∈ l, RPutT x
  | [], x, hx => by cases hx
  | t :: l, x, hx => by
    rcases List.mem_cons.1 hx with h | h
    · rw [h]; exact rput_any t
    · exact rput_all l x h
end

set_option maxHeartbeats 1000000 in
theorem putRef_any (t : T) (v : Value) (w : World) (hw : wt t ≤ 300000) (h : IsT w.heap.size w t v) : Calls Try.prog 16 #[v] w fun e w' => e = .returned (.string (putB t)) ∧ Below w.heap.size w w' := by
  obtain ⟨tg, s, a, n, cap, rfl⟩ := h.shape
  have h0 := h.below ((Below.refl _ _).alloc (Nat.le_refl _) (.cells #[.int .i64 tg, .string s, .slice a n cap] 24)) (show w.heap.size ≤ (w.alloc (.cells #[.int .i64 tg, .string s, .slice a n cap] 24)).heap.size by simp)
  have hm := mayRef_any t _ _ hw h0
  cases hok : okT 12 t with
  | false =>
    rw [hok] at hm
    rw [show putB t = ⟨#[]⟩ from by simp [putB, hok]]
    have HM := Lib.hid hm
    clear hm h0 h hok
    go_enter Try.func16, Try.ntmps16
    go_wp2_with (go_at_call 14; refine HM.out.mono ?_; rintro e w2 ⟨rfl, hb⟩)
    go_ret
    exact ⟨rfl, ((Below.refl _ _).alloc (Nat.le_refl _) _).trans (hb.mono (by simp))⟩
  | true =>
    rw [hok] at hm
    have hel := enc_wt t (by omega)
    have hp := fun w2 (hb : Below (w.alloc (.cells #[.int .i64 tg, .string s, .slice a n cap] 24)).heap.size (w.alloc (.cells #[.int .i64 tg, .string s, .slice a n cap] 24)) w2) =>
      rput_any t w2.heap.size w2 (.slice none 0 0) (.agg #[.int .i64 tg, .string s, .slice a n cap]) [] hw hok (by simp; omega) (h0.below hb hb.size) (Nat.le_refl _) (World.ownsRow_nil _ _ _ _)
    have hpb : (⟨(enc t).toArray⟩ : ByteArray) = putB t := by simp [putB, hok]
    rw [← hpb]
    generalize enc t = E at hp hpb ⊢
    have HM := Lib.hid hm
    have HP := Lib.hid hp
    have H0 := Lib.hid h0
    clear hm hp h0 h hok hpb hel
    go_enter Try.func16, Try.ntmps16
    go_wp2_with (first
      | (go_at_call 14; refine HM.out.mono ?_; rintro e w2 ⟨rfl, hb⟩; have k2 := (hb.block w.heap.size (by simp)).trans (World.alloc_heap_new w _); obtain ⟨c0, c1, c2, _⟩ := box3 k2; have HB := Lib.hid hb; clear hb k2)
      | (go_at_call 32; refine (HP.out _ HB.out).mono ?_; rintro e w3 ⟨v3, rfl, hown3, hg3⟩; rw [List.nil_append] at hown3; have hcv := conv_own hown3; have HG3 := Lib.hid hg3; clear hown3 hg3))
    go_ret
    exact ⟨rfl, (((Below.refl _ _).alloc (Nat.le_refl _) _).trans (HB.out.mono (by simp))).trans (HG3.out.toBelow (by have := HB.out.size; simp at this; omega) (fun k e => by cases e))⟩
end Go.Proofs.Ytiagcegclgallaa
