/- ber.Put: the walk. -/
import Derived.Test.YtiagcegclgallaaFill
import Derived.Test.YtiagcegclgallaaSize
namespace Go.Proofs.Ytiagcegclgallaa
open Go.RowKit
set_option linter.unusedVariables false

theorem splice_whole {α : Type} (L cs : List α) (h : cs.length = L.length) : splice L 0 cs = cs := by
  simp [splice, h]

/-- What Put makes of t. -/
def putB (t : T) : ByteArray := ⟨(if okT 12 t then enc t else []).toArray⟩

/-- 'string(b)' of a block known whole. -/
theorem conv_row {W : World} {g c : Nat} {l : List UInt8} (hg : W.heap[g]? = some (.cells (bytesV l).toArray 5 (0, 0))) (hc : l.length = c) :
    (convert 44 9 (.slice (some ⟨g, 0, none⟩) c c)).run Try.prog W = .ok (.string ⟨l.toArray⟩) W := by
  subst hc
  refine run_convert_bytes_back W 44 9 5 _ l.length l Try.underlying44 Try.underlying5 Try.underlying9 fun j hj => ?_
  have e : ((⟨g, 0, none⟩ : Addr).add j) = ⟨g, j, none⟩ := by simp [Addr.add]; omega
  rw [e]
  simp [World.cell?, hg, bytesV, byteV, hj]

set_option maxRecDepth 100000 in
set_option maxHeartbeats 1000000 in
theorem put_any (t : T) (v : Value) (w : World) (ht : IsT w.heap.size w t v) : Calls Try.prog 15 #[v] w fun e w' => e = .returned (.string (putB t)) ∧ Below w.heap.size w w' := by
  obtain ⟨tg, s, a, n, cap, rfl⟩ := ht.shape
  have htg : tg = t.tag := by cases t; obtain ⟨_, _, e, _⟩ := ht; simp at e; exact e.1
  subst htg
  have hb1 := (Below.refl w.heap.size w).alloc (Nat.le_refl _) (.cells #[.int .i64 t.tag, .string s, .slice a n cap] 24)
  have ht1 := ht.below hb1 (show w.heap.size ≤ (w.alloc (.cells #[.int .i64 t.tag, .string s, .slice a n cap] 24)).heap.size by simp)
  have hc := size_any t (w.alloc (.cells #[.int .i64 t.tag, .string s, .slice a n cap] 24)) 0 _ (by omega) ht1
  have hfc0 : (w.alloc (.cells #[.int .i64 t.tag, .string s, .slice a n cap] 24)).cell? ⟨w.heap.size, 0, none⟩ = some (.int .i64 t.tag) := by rw [World.cell?_alloc_new]; rfl
  have hfc1 : (w.alloc (.cells #[.int .i64 t.tag, .string s, .slice a n cap] 24)).cell? ⟨w.heap.size, 1, none⟩ = some (.string s) := by rw [World.cell?_alloc_new]; rfl
  have hfc2 : (w.alloc (.cells #[.int .i64 t.tag, .string s, .slice a n cap] 24)).cell? ⟨w.heap.size, 2, none⟩ = some (.slice a n cap) := by rw [World.cell?_alloc_new]; rfl
  have HC := Lib.hid hc
  have HT1 := Lib.hid ht1
  clear hc ht ht1
  by_cases hok : okT 12 t = true
  · have hpb : putB t = ⟨(enc t).toArray⟩ := by simp [putB, hok]
    have hb := okT_body hok
    have hbl : (body t).length < 16777216 := by omega
    have henc := enc_length t
    have hle := enc_le hok
    have hmix := okT_nomix 12 t hok
    obtain ⟨N, hN⟩ : ∃ N, N = (enc t).length := ⟨_, rfl⟩
    rw [← hN] at henc hle
    have hc2 : Calls Try.prog 28 #[.agg #[.int .i64 t.tag, .string s, .slice a n cap], .int .i64 (0 : Nat)] (w.alloc (.cells #[.int .i64 t.tag, .string s, .slice a n cap] 24)) fun e w' => e = .returned (.tuple #[.int .i64 ((body t).length : Nat), .bool true]) ∧ Below (w.alloc (.cells #[.int .i64 t.tag, .string s, .slice a n cap] 24)).heap.size (w.alloc (.cells #[.int .i64 t.tag, .string s, .slice a n cap] 24)) w' :=
      HC.out.mono fun e w' ⟨m, he, hm, hb⟩ => ⟨by rw [he, hok, hm hok], hb⟩
    obtain ⟨hd, hhd⟩ : ∃ hd, hd = headB t.tag (body t).length := ⟨_, rfl⟩
    rw [← hhd] at henc
    have hw64 : wrap64 ((hd.length : Int) + ((body t).length : Int)) = (N : Nat) := by rw [IntWalk.wrap64_in _ (by omega)]; omega
    obtain ⟨i0, hi, hz0, hz1, hz2⟩ := info_parts info5
    have hmk := fun w => run_make (P := Try.prog) w 44 5 i0 (.int .u8 0) Try.underlying44 hi hz0 .i64 .i64 N N (by omega) (by omega) (by rw [hz2]; omega) (by omega)
    rw [hz1] at hmk
    simp only [Nat.mul_one, Int.toNat_natCast] at hmk
    have HC2 := Lib.hid hc2
    have HHd := Lib.hid hhd
    have HN := Lib.hid hN
    have HPb := Lib.hid hpb
    have HEnc := Lib.hid henc
    clear hi hz0 hz1 hz2 hc2 hhd hN hpb henc hok
    have hfill : ∀ w2 w3 : World, Below (w.alloc (.cells #[.int .i64 t.tag, .string s, .slice a n cap] 24)).heap.size (w.alloc (.cells #[.int .i64 t.tag, .string s, .slice a n cap] 24)) w2 → Below w2.heap.size w2 w3 →
        Calls Try.prog 31 #[.slice (some ⟨w3.heap.size, 0, none⟩) N N, .agg #[.int .i64 t.tag, .string s, .slice a n cap]] (w3.alloc (.cells (madeCells #[.int .u8 0] N) 5)) fun e w' => ∃ v, e = .returned v ∧
          (convert 44 9 (.slice (some ⟨w3.heap.size, 0, none⟩) N N)).run Try.prog w' = .ok (.string (putB t)) w' ∧ Below w.heap.size w w' := by
      intro w2 w3 hb2 hb3
      have s2 := hb2.size
      have s3 := hb3.size
      rw [World.size_alloc] at s2
      have hm : (madeCells #[.int .u8 0] N : Array Value) = (List.replicate N (Value.int .u8 0)).toArray := by rw [← toList_madeCells_one]
      have hg : (w3.alloc (.cells (madeCells #[.int .u8 0] N) 5)).heap[w3.heap.size]? = some (.cells (List.replicate N (Value.int .u8 0)).toArray 5 (0, 0)) := by rw [← hm]; exact World.alloc_heap_new _ _
      have htB : Below (w.alloc (.cells #[.int .i64 t.tag, .string s, .slice a n cap] 24)).heap.size (w.alloc (.cells #[.int .i64 t.tag, .string s, .slice a n cap] 24)) (w3.alloc (.cells (madeCells #[.int .u8 0] N) 5)) := (hb2.trans (hb3.mono hb2.size)).alloc (by simp; omega) _
      refine (fill_any t _ w3.heap.size N N _ _ hg (by simp) (Nat.le_refl _) (by omega) (by have := HN.out; omega) hmix (HT1.out.below htB (by simp; omega))).mono ?_
      rintro e w' ⟨he, hg', hgr⟩
      refine ⟨_, he, ?_, ?_⟩
      · rw [← HN.out, Nat.sub_self, splice_whole _ _ (by rw [bytesV_length]; simp; exact HN.out.symm)] at hg'
        rw [HPb.out]
        exact conv_row hg' HN.out.symm
      · exact hb1.trans (((hb2.trans (hb3.mono hb2.size)).alloc (by simp; omega) _).mono (by simp) |>.trans ⟨hgr.os, hgr.tape, hgr.output, hgr.size, fun k hk => hgr.block k (by simp; omega) (by simp; omega)⟩)
    have HFill := Lib.hid hfill
    clear hfill
    go_enter Try.func15, Try.ntmps15
    go_wp2_with (first
      | (go_at_call 28; refine HC2.out.mono ?_; rintro e w2 ⟨rfl, hb2⟩; have c0 := (hb2.cell (p := ⟨w.heap.size, 0, none⟩) (by simp)).trans hfc0; have c1 := (hb2.cell (p := ⟨w.heap.size, 1, none⟩) (by simp)).trans hfc1; have c2 := (hb2.cell (p := ⟨w.heap.size, 2, none⟩) (by simp)).trans hfc2)
      | (go_at_call 30; refine (head_any t.tag (body t).length hbl _).mono ?_; rw [← HHd.out]; rintro e w3 ⟨gh, ch, rfl, _, hb3⟩; have s2 := hb2.size; rw [World.size_alloc] at s2; have s3 := hb3.size; have z3 : w.heap.size < w3.heap.size := (by omega); have c1' := (hb3.cell (p := ⟨w.heap.size, 1, none⟩) (by simp; omega)).trans c1; have c0' := (hb3.cell (p := ⟨w.heap.size, 0, none⟩) (by simp; omega)).trans c0; have c2' := (hb3.cell (p := ⟨w.heap.size, 2, none⟩) (by simp; omega)).trans c2)
      | (go_at_call 31; refine (HFill.out _ _ hb2 hb3).mono ?_; rintro e w5 ⟨v5, rfl, hcv, hb5⟩))
    go_ret
    exact ⟨rfl, hb5⟩
  · have hok' : okT 12 t = false := by simpa using hok
    have hpb : putB t = ⟨#[]⟩ := by simp [putB, hok']
    have hc2 : Calls Try.prog 28 #[.agg #[.int .i64 t.tag, .string s, .slice a n cap], .int .i64 (0 : Nat)] (w.alloc (.cells #[.int .i64 t.tag, .string s, .slice a n cap] 24)) fun e w' => ∃ m : Int, e = .returned (.tuple #[.int .i64 m, .bool false]) ∧ Below (w.alloc (.cells #[.int .i64 t.tag, .string s, .slice a n cap] 24)).heap.size (w.alloc (.cells #[.int .i64 t.tag, .string s, .slice a n cap] 24)) w' :=
      HC.out.mono fun e w' ⟨m, he, hm, hb⟩ => ⟨m, by rw [he, hok'], hb⟩
    have HC2 := Lib.hid hc2
    rw [hpb]
    clear hc2 hok hok' hpb
    go_enter Try.func15, Try.ntmps15
    go_wp2_with (go_at_call 28; refine HC2.out.mono ?_; rintro e w2 ⟨m, rfl, hb2⟩)
    go_ret
    exact ⟨rfl, hb1.trans (hb2.mono (by simp))⟩
end Go.Proofs.Ytiagcegclgallaa
