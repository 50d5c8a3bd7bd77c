/- StripRuns: each step of the program's strip beside the document's. -/
import Derived.Test.YtgmlgjdibpphaaaStDocN
namespace Go.Proofs.Ytgmlgjdibpphaaa
open Go.RowKit
set_option linter.unusedVariables false
set_option linter.unusedSimpArgs false

def WrA (S S' : St) (c i : Int) (s : ByteArray) : Prop := ∀ (B b g : Nat) (W : World) (lv : Value), StA B b g W S lv → B ≤ W.heap.size → Calls Try.prog 13 #[.pointer (some ⟨b, 0, none⟩), .int .i64 i, .string s] W fun e w' => e = .returned (.int .i64 c) ∧ ∃ lv', StA B b g w' S' lv' ∧ Tch B b g W w'
def WrD (D D' : Dt) (c i : Int) (s : ByteArray) : Prop := ∀ (B d : Nat) (W : World) (sv dv : Value), StD B d W D sv dv → B ≤ W.heap.size → Calls Try.prog 14 #[.pointer (some ⟨d, 0, none⟩), .int .i64 i, .string s] W fun e w' => e = .returned (.int .i64 c) ∧ ∃ sv' dv', StD B d w' D' sv' dv' ∧ TchD B d W w'
theorem run_write {n : Nat} {S : St} {D : Dt} (h : SimS n S D) (hn : n ≤ 60) (hcr : S.cr ≤ 9223372036854775807) (i : Int) (s : ByteArray) : ∃ c S' D', SimS (n + 1) S' D' ∧ S'.cr ≤ 9223372036854775807 ∧ WrA S S' c i s ∧ WrD D D' c i s := by
  obtain ⟨bl, lo, ch, cr, dn⟩ := S
  obtain ⟨sf, L, left, off⟩ := D
  have hdn : dn = off := h.dn
  subst hdn
  have hlen : bl.length = sf.length := h.len
  have hlol : lo.length = L.length := h.lo_len
  have hfew : L.length ≤ n := h.few
  have hc0 : 0 ≤ ch := h.c0
  have hc1 : ch ≤ n := h.c1
  have hleft : (left : Int) = max 0 (cr - ch) := h.left
  have hcr2 : cr ≤ 9223372036854775807 := hcr
  cases dn
  · by_cases hin : inB sf.length i = true ∧ s.size = 32
    · obtain ⟨h1, h32⟩ := hin
      have h1' : 0 ≤ i ∧ i < (sf.length : Int) := of_decide_eq_true h1
      obtain ⟨j, rfl⟩ : ∃ j : Nat, i = (j : Int) := ⟨i.toNat, by omega⟩
      have hj : j < sf.length := by omega
      have hjb : j < bl.length := by omega
      by_cases hq : ch + 1 = cr
      · have hl1 : left = 1 := (SimS.next h rfl).1 hq
        subst hl1
        refine ⟨8, _, _, h.crash hq, hcr, fun B b g W lv hs hB => ?_, fun B d W sv dv hs hB => ?_⟩
        · refine (write_crash hs hB hc0 (by omega) hq j hjb s h32).mono ?_
          rintro e w' ⟨rfl, h2, h3⟩
          exact ⟨rfl, lv, h2, h3⟩
        · refine (writeD_crash hs j hj s h32).mono ?_
          rintro e w' ⟨rfl, h2, h3⟩
          exact ⟨rfl, sv, dv, h2, h3⟩
      · have hl1 : left ≠ 1 := fun e => hq ((SimS.next h rfl).2 e)
        have hls : s.data.toList.length = 32 := by rw [bytes_len, h32]
        refine ⟨0, _, _, h.write rfl hq j hj hjb s.data.toList hls (left - 1) (by show left - 1 = if 0 < left then left - 1 else 0; split <;> omega), hcr, fun B b g W lv hs hB => ?_, fun B d W sv dv hs hB => ?_⟩
        · refine (write_up hs hB hc0 (by omega) hq j hjb s h32 (by omega)).mono ?_
          rintro e w' ⟨lv', rfl, h2, h3⟩
          exact ⟨rfl, lv', h2, h3⟩
        · refine (writeD_go hs hB (by omega) hl1 (by omega) j hj s h32).mono ?_
          rintro e w' ⟨lv', rfl, h2, h3⟩
          exact ⟨rfl, sv, lv', h2, h3⟩
    · have hbad : inB sf.length i = false ∨ s.size ≠ 32 := by
        by_cases h1 : inB sf.length i = true
        · exact .inr fun h2 => hin ⟨h1, h2⟩
        · exact .inl (by simpa using h1)
      refine ⟨1, _, _, h.more (Nat.le_succ n), hcr, fun B b g W lv hs hB => ?_, fun B d W sv dv hs hB => ?_⟩
      · refine (write_bad hs i s (by rw [hlen]; exact hbad)).mono ?_
        rintro e w' ⟨rfl, rfl⟩
        exact ⟨rfl, lv, hs, Tch.refl _ _ _ _⟩
      · refine (writeD_bad hs i s hbad).mono ?_
        rintro e w' ⟨rfl, rfl⟩
        exact ⟨rfl, sv, dv, hs, TchD.refl _ _ _⟩
  · refine ⟨8, _, _, h.more (Nat.le_succ n), hcr, fun B b g W lv hs hB => ?_, fun B d W sv dv hs hB => ?_⟩
    · refine (write_down hs i s).mono ?_
      rintro e w' ⟨rfl, rfl⟩
      exact ⟨rfl, lv, hs, Tch.refl _ _ _ _⟩
    · refine (writeD_down hs i s).mono ?_
      rintro e w' ⟨rfl, rfl⟩
      exact ⟨rfl, sv, dv, hs, TchD.refl _ _ _⟩
def SyA (S S' : St) (c : Int) : Prop := ∀ (B b g : Nat) (W : World) (lv : Value), StA B b g W S lv → B ≤ W.heap.size → Calls Try.prog 15 #[.pointer (some ⟨b, 0, none⟩)] W fun e w' => e = .returned (.int .i64 c) ∧ ∃ lv', StA B b g w' S' lv' ∧ Tch B b g W w'
def SyD (D D' : Dt) (c : Int) : Prop := ∀ (B d : Nat) (W : World) (sv dv : Value), StD B d W D sv dv → B ≤ W.heap.size → Calls Try.prog 16 #[.pointer (some ⟨d, 0, none⟩)] W fun e w' => e = .returned (.int .i64 c) ∧ ∃ sv' dv', StD B d w' D' sv' dv' ∧ TchD B d W w'
theorem run_sync {n : Nat} {S : St} {D : Dt} (h : SimS n S D) (hn : n ≤ 60) (hcr : S.cr ≤ 9223372036854775807) : ∃ c S' D', SimS (n + 1) S' D' ∧ S'.cr ≤ 9223372036854775807 ∧ SyA S S' c ∧ SyD D D' c := by
  obtain ⟨bl, lo, ch, cr, dn⟩ := S
  obtain ⟨sf, L, left, off⟩ := D
  have hdn : dn = off := h.dn
  subst hdn
  have hfew : L.length ≤ n := h.few
  have hc0 : 0 ≤ ch := h.c0
  have hc1 : ch ≤ n := h.c1
  have hleft : (left : Int) = max 0 (cr - ch) := h.left
  have hcr2 : cr ≤ 9223372036854775807 := hcr
  have hokc : okC sf.length L := h.okc
  cases dn
  · by_cases hq : ch + 1 = cr
    · have hl1 : left = 1 := (SimS.next h rfl).1 hq
      subst hl1
      refine ⟨8, _, _, h.crash hq, hcr, fun B b g W lv hs hB => ?_, fun B d W sv dv hs hB => ?_⟩
      · refine (sync_up hs hB hc0 (by omega)).mono ?_
        rintro e w' ⟨lv', rfl, h2, h3⟩
        rw [if_pos hq, show (ch + 1 == cr) = true from by simpa using hq] at h2
        exact ⟨by rw [if_pos hq], lv', h2, h3⟩
      · refine (syncD_crash hs).mono ?_
        rintro e w' ⟨rfl, h2, h3⟩
        exact ⟨rfl, sv, dv, h2, h3⟩
    · have hl1 : left ≠ 1 := fun e => hq ((SimS.next h rfl).2 e)
      refine ⟨0, _, _, h.sync rfl hq (left - 1) (by show left - 1 = if 0 < left then left - 1 else 0; split <;> omega), hcr, fun B b g W lv hs hB => ?_, fun B d W sv dv hs hB => ?_⟩
      · refine (sync_ok hs hB hc0 (by omega) hq).mono ?_
        rintro e w' ⟨lv', rfl, h2, h3⟩
        exact ⟨rfl, lv', h2, h3⟩
      · refine (syncD_go hs hB (by omega) hl1 (by omega) fun c hc => (hokc c hc).1).mono ?_
        rintro e w' ⟨rfl, h2, h3⟩
        exact ⟨rfl, sv, _, h2, h3⟩
  · refine ⟨8, _, _, h.more (Nat.le_succ n), hcr, fun B b g W lv hs hB => ?_, fun B d W sv dv hs hB => ?_⟩
    · refine (sync_down hs).mono ?_
      rintro e w' ⟨rfl, rfl⟩
      exact ⟨rfl, lv, hs, Tch.refl _ _ _ _⟩
    · refine (syncD_down hs).mono ?_
      rintro e w' ⟨rfl, rfl⟩
      exact ⟨rfl, sv, dv, hs, TchD.refl _ _ _⟩
def FaA (S S' : St) (p0 p1 p2 p3 : Int) : Prop := ∀ (B b g : Nat) (W : World) (lv : Value), StA B b g W S lv → B ≤ W.heap.size → Calls Try.prog 19 #[.pointer (some ⟨b, 0, none⟩), .agg #[.int .i64 p0, .int .i64 p1, .int .i64 p2, .int .i64 p3]] W fun e w' => e = .returned (.tuple #[]) ∧ ∃ lv', StA B b g w' S' lv' ∧ Tch B b g W w'
def FaD (D D' : Dt) (p0 p1 p2 p3 : Int) : Prop := ∀ (B d : Nat) (W : World) (sv dv : Value), StD B d W D sv dv → B ≤ W.heap.size → Calls Try.prog 20 #[.pointer (some ⟨d, 0, none⟩), .agg #[.int .i64 p0, .int .i64 p1, .int .i64 p2, .int .i64 p3]] W fun e w' => e = .returned (.tuple #[]) ∧ ∃ sv' dv', StD B d w' D' sv' dv' ∧ TchD B d W w'
theorem okD {sf : List Blk} {L : List (Nat × Blk)} (h : ok32 sf) (hc : okC sf.length L) (k t : Nat) (ht : t ≤ 32) : ok32 (fallD sf L k t) := by
  have h1 : ok32 (applyB sf (L.take k)) := okC_apply h fun c hc2 => hc c (List.mem_of_mem_take hc2)
  unfold fallD
  cases hk : L[k]? with
  | none => exact h1
  | some c =>
    have hcc := hc c (List.mem_of_getElem? hk)
    refine ok32_set h1 _ _ ?_
    have h2 : ((applyB sf (L.take k)).getD c.1 []).length = 32 := by
      rw [List.getD_eq_getElem?_getD, List.getElem?_eq_getElem (by rw [applyB_len]; exact hcc.1)]
      exact h1 _ (List.getElem_mem _)
    exact undo_len hcc.2 h2 ht
theorem run_fall {n : Nat} {S : St} {D : Dt} (h : SimS n S D) (hn : n ≤ 60) (p0 p1 p2 p3 : Int) (hp : p1 ≤ 9223372036854775807) : ∃ S' D', SimS (n + 1) S' D' ∧ S'.cr ≤ 9223372036854775807 ∧ FaA S S' p0 p1 p2 p3 ∧ FaD D D' p0 p1 p2 p3 := by
  have hll := h.lo_len
  have hfew := h.few
  have hok : ok32 (fallB S.bl S.lo (kOf p2 D.lo.length) (tOf p3)) := by
    have e : fallB S.bl S.lo (kOf p2 D.lo.length) (tOf p3) = fallD D.sf D.lo (kOf p2 D.lo.length) (tOf p3) := by rw [h.bl, h.lo]; exact fall_same _ _ _ _ (fun c hc => (h.okc c hc).1) (kOf_le _ _)
    rw [e]
    exact okD h.ok h.okc _ _ (tOf_le _)
  refine ⟨_, _, h.fall p1 (kOf p2 D.lo.length) (tOf p3) (kOf_le _ _) (tOf_le _) hok, hp, fun B b g W lv hs hB => ?_, fun B d W sv dv hs hB => ?_⟩
  · obtain ⟨bl, lo, ch, cr, dn⟩ := S
    dsimp only at hll
    refine (fall_any hs hB p0 p1 p2 p3).mono ?_
    rintro e w' ⟨rfl, h2, h3⟩
    rw [hll] at h2
    exact ⟨rfl, _, h2, h3⟩
  · obtain ⟨sf, L, left, off⟩ := D
    refine (fallD_any hs hB (by dsimp only at hfew; omega) h.ok h.okc p0 p1 p2 p3).mono ?_
    rintro e w' ⟨rfl, h2, h3⟩
    exact ⟨rfl, _, _, h2, h3⟩
def RdA (S : St) (T : ByteArray) (c i : Int) : Prop := ∀ (B b g : Nat) (W : World) (lv : Value), StA B b g W S lv → Calls Try.prog 24 #[.pointer (some ⟨b, 0, none⟩), .int .i64 i] W fun e w' => e = .returned (.tuple #[.string T, .int .i64 c]) ∧ w' = W
def RdD (D : Dt) (T : ByteArray) (c i : Int) : Prop := ∀ (B d : Nat) (W : World) (sv dv : Value), StD B d W D sv dv → Calls Try.prog 25 #[.pointer (some ⟨d, 0, none⟩), .int .i64 i] W fun e w' => e = .returned (.tuple #[.string T, .int .i64 c]) ∧ Below W.heap.size W w'
theorem run_read {n : Nat} {S : St} {D : Dt} (h : SimS n S D) (hn : n ≤ 60) (i : Int) : ∃ T c, RdA S T c i ∧ RdD D T c i := by
  obtain ⟨bl, lo, ch, cr, dn⟩ := S
  obtain ⟨sf, L, left, off⟩ := D
  have hdn : dn = off := h.dn
  subst hdn
  have hlen : bl.length = sf.length := h.len
  have hfew : L.length ≤ n := h.few
  have hbl : bl = applyB sf L := h.bl
  have hokc : okC sf.length L := h.okc
  cases dn
  · by_cases hin : inB sf.length i = true
    · have h1' : 0 ≤ i ∧ i < (sf.length : Int) := of_decide_eq_true hin
      obtain ⟨j, rfl⟩ : ∃ j : Nat, i = (j : Int) := ⟨i.toNat, by omega⟩
      have hj : j < sf.length := by omega
      refine ⟨txtB ((applyB sf L).getD j []), 0, fun B b g W lv hs => ?_, fun B d W sv dv hs => ?_⟩
      · exact read_in hs j _ (by
          rw [hbl, List.getD_eq_getElem?_getD, List.getElem?_eq_getElem (by rw [applyB_len]; exact hj)]
          rfl)
      · exact readD_in hs (by omega) (fun c hc => (hokc c hc).1) j hj
    · have hin2 : inB sf.length i = false := by simpa using hin
      refine ⟨⟨#[]⟩, 1, fun B b g W lv hs => read_out hs i (by rw [hlen]; exact hin2), fun B d W sv dv hs => ?_⟩
      refine (readD_out hs i hin2).mono ?_
      rintro e w' ⟨rfl, rfl⟩
      exact ⟨rfl, Below.refl _ _⟩
  · refine ⟨⟨#[]⟩, 8, fun B b g W lv hs => read_down hs i, fun B d W sv dv hs => ?_⟩
    refine (readD_down hs i).mono ?_
    rintro e w' ⟨rfl, rfl⟩
    exact ⟨rfl, Below.refl _ _⟩
end Go.Proofs.Ytgmlgjdibpphaaa
