/- Several texts in one file: EnNrmU, TrNorm, TrMayW, TrCat, TrPut, TrDoc, RegJ, MkA, MkP, MkG, TuA, EnNEntR, EnNEntS, EnRSetP, MaRef, EnRSetW. -/
import Derived.Test.YtpnbcmblnplbgaaGreatDoorChgP7
import Derived.Deep.RegionHeld3
import Derived.Deep.Cut
import Derived.Test.YtpnbcmblnplbgaaGreatDoorChgP6
import Derived.Test.YtpnbcmblnplbgaaGreatDoorChgP3
import Derived.Lib.AppendZerosOnto
import Derived.Deep.Upon
import Derived.Test.YtpnbcmblnplbgaaGreatDoorChgP5
import Derived.Deep.AppendSrc
import Derived.Deep.Onto
import Derived.ArgAppend
import Derived.Test.YtpnbcmblnplbgaaGreatDoorChgP4
import Derived.Test.YtpnbcmblnplbgaaGreatDoorChgP2
import Derived.Test.YtpnbcmblnplbgaaGreatDoorChgP1
import Derived.Deep.CutRange
namespace Go.Proofs.YtpnbcmblnplbgaaGreatDoor
open Go.RowKit
set_option linter.unusedVariables false
set_option linter.unusedSimpArgs false

set_option maxRecDepth 100000 in
set_option maxHeartbeats 4000000 in
theorem insert_none (sa : Option Addr) (n sc : Nat) (w : World) : Calls Tryz.prog 97 #[.slice sa n sc, .int .i64 20, .int .i64 20, .func (.func 43) #[] #[]] w fun e w' => e = .returned (.tuple #[]) ∧ w = w' := by
  go_enter Tryz.func97, Tryz.ntmps97
  go_wp2
  go_loopw [8] (fun a wr => a = .int .i64 21 ∧ w = wr) (fun a wr => 1)
  case atStart => exact ⟨rfl, rfl⟩
  case round =>
    obtain ⟨rfl, rfl⟩ := hrel
    go_wp2
    go_end0
    exact ⟨rfl, rfl⟩

set_option maxRecDepth 100000 in
set_option maxHeartbeats 4000000 in
theorem stable20_any (sa : Option Addr) (sc : Nat) (w : World) (Q : World → Prop) (hi : Calls Tryz.prog 97 #[.slice sa 20 sc, .int .i64 0, .int .i64 20, .func (.func 43) #[] #[]] w fun e w' => e = .returned (.tuple #[]) ∧ Q w') :
    Calls Tryz.prog 68 #[.slice sa 20 sc, .int .i64 20, .func (.func 43) #[] #[]] w fun e w' => e = .returned (.tuple #[]) ∧ Q w' := by
  have HI := Lib.hid hi
  have HN := Lib.hid (fun W => insert_none sa 20 sc W)
  clear hi
  go_enter Tryz.func68, Tryz.ntmps68
  go_wp2
  go_loopw [7, 8] (fun a b wr => (a = .int .i64 0 ∧ b = .int .i64 20 ∧ Hid (w = wr)) ∨ (a = .int .i64 20 ∧ b = .int .i64 40 ∧ Hid (Q wr))) (fun a b wr => 40 - (intOf b).toNat)
  case atStart => exact .inl ⟨rfl, rfl, Lib.hid rfl⟩
  case round =>
    rcases hrel with ⟨rfl, rfl, hwr⟩ | ⟨rfl, rfl, HQ⟩
    · have hwr := hwr.out
      subst hwr
      go_wp2_with (go_at_call 97; refine (HI.out).mono ?_; rintro e w2 ⟨rfl, hb2⟩; have HB2 := Lib.hid hb2; clear hb2)
      go_roundw
      case rel => exact .inr ⟨rfl, rfl, HB2⟩
      case measure => simp [intOf]
    · go_wp2_with (go_at_call 97; refine (HN.out _).mono ?_; rintro e w2 ⟨rfl, rfl⟩)
      go_loopw [6] (fun a wx => a = .int .i64 20 ∧ Hid (Q wx)) (fun a wx => 1)
      case atStart => exact ⟨rfl, HQ⟩
      case round =>
        obtain ⟨rfl, HQ2⟩ := hrel
        go_wp2
        go_end0
        exact ⟨rfl, HQ2.out⟩
theorem stableU_any (n : Nat) (hl : n ≤ 20) (sa : Option Addr) (sc : Nat) (w : World) (Q : World → Prop) (hi : Calls Tryz.prog 97 #[.slice sa n sc, .int .i64 0, .int .i64 n, .func (.func 43) #[] #[]] w fun e w' => e = .returned (.tuple #[]) ∧ Q w') :
    Calls Tryz.prog 68 #[.slice sa n sc, .int .i64 n, .func (.func 43) #[] #[]] w fun e w' => e = .returned (.tuple #[]) ∧ Q w' := by
  by_cases h : n < 20
  · exact stableR_any n h sa sc w Q hi
  · obtain rfl : n = 20 := by omega
    exact stable20_any sa sc w Q hi

set_option maxRecDepth 100000 in
set_option maxHeartbeats 1000000 in
theorem sortedU_any (n : Nat) (hl : n ≤ 20) (sa : Option Addr) (sc : Nat) (w : World) (Q : World → Prop) (hi : Calls Tryz.prog 97 #[.slice sa n sc, .int .i64 0, .int .i64 n, .func (.func 43) #[] #[]] w fun e w' => e = .returned (.tuple #[]) ∧ Q w') :
    Calls Tryz.prog 42 #[.slice sa n sc, .func (.func 43) #[] #[]] w fun e w' => e = .returned (.tuple #[]) ∧ Q w' := by
  have HI := Lib.hid (stableU_any n hl sa sc w Q hi)
  clear hi
  go_enter Tryz.func42, Tryz.ntmps42
  go_wp2_with (go_at_call 68; refine (HI.out).mono ?_; rintro e w2 ⟨rfl, hb2⟩; have HB2 := Lib.hid hb2; clear hb2)
  go_end0
  exact ⟨rfl, HB2.out⟩

theorem sortedU_own (B : Nat) (L : List AT) (hl : L.length ≤ 20) (v : Value) (w : World) (hB : B ≤ w.heap.size) (h : OwnA B w v L) :
    Calls Tryz.prog 42 #[v, .func (.func 43) #[] #[]] w fun e w' => e = .returned (.tuple #[]) ∧ OwnA B w' v (sortA L) ∧ Below B w w' := by
  obtain ⟨P, hP, hs⟩ := id h
  by_cases hne : P = []
  · have hL : L = [] := List.eq_nil_of_length_eq_zero (by have := hs.1; rw [hne] at this; simpa using this.symm)
    subst hL
    have hA := ownA_isA h (by simp)
    exact (sorted_any [] (by simp) (fun i h => absurd h (by simp)) v w hA).mono fun e w' ⟨he, hb⟩ => ⟨he, ownA_below h hb, hb.mono hB⟩
  · obtain ⟨g, cap, rfl, hBg, hgl, _⟩ := rowP_at hP hne
    have hn : P.length ≤ 20 := by rw [hs.1]; exact hl
    obtain ⟨n, hnn⟩ : ∃ n, n = P.length := ⟨_, rfl⟩
    rw [← hnn] at hP hs hn ⊢
    have hrow : w.ownsRow B 56 2 (.slice (some ⟨g, 0, none⟩) n cap) n (cellsP P) := by
      have hP' : w.ownsRow B 56 2 (.slice (some ⟨g, 0, none⟩) n cap) P.length (cellsP P) := hP
      rw [← hnn] at hP'
      exact hP'
    have hv : ∀ r ∈ P, ∃ a k c, r.2 = Value.slice a k c := fun r hr => by
      obtain ⟨j, hj, rfl⟩ := List.getElem_of_mem hr
      obtain ⟨a, c, e, _⟩ := (hs.2 j (by rw [← hs.1]; exact hj) hj).2
      exact ⟨a, _, c, e⟩
    have hi := insertR_any P B g n cap w hnn (by omega) hrow hv
    exact (sortedU_any n hn (some ⟨g, 0, none⟩) cap w _ hi).mono fun e w' ⟨he, hr, hg⟩ => ⟨he, ownA_sort hP hs hnn hr hg, ⟨hg.os, hg.tape, hg.output, hg.size, fun k hk => hg.block k (Nat.lt_of_lt_of_le hk hB) (fun e => by have := Option.some.inj e; omega)⟩⟩

set_option maxRecDepth 100000 in
set_option maxHeartbeats 4000000 in
theorem normU_entry (d : ByteArray) (hd : d.size ≤ 140737488351232) (L : List AT) (hs : smallA L) (hl : L.length ≤ 20) (v : Value) (w : World) (h : IsA w.heap.size w L v) :
    Calls Tryz.prog 22 #[.agg #[.string d, v]] w fun e w' => ∃ v', e = .returned (.agg #[strV (nameN d.data.toList), v']) ∧ OwnA w.heap.size w' v' (sortA (normL L)) ∧ Below w.heap.size w w' := by
  obtain ⟨sa, sc, hv, _⟩ := id h
  obtain ⟨n, hn⟩ : ∃ n, n = L.length := ⟨_, rfl⟩
  rw [← hn] at hv
  subst hv
  have HI := Lib.hid h
  have HS := Lib.hid hs
  have HN := Lib.hid hn
  have hl5 : n ≤ 20 := by omega
  have HSt := Lib.hid (norm_start w d (.slice sa n sc))
  obtain ⟨T, hT⟩ : ∃ T : ByteArray, strV (nameN d.data.toList) = .string T := ⟨_, rfl⟩
  have hnt := fun w => nameText_any d hd w
  simp only [hT] at hnt
  rw [hT]
  have HNt := Lib.hid hnt
  clear h hs hn hnt hT hl
  go_enter Tryz.func22, Tryz.ntmps22
  go_wp2
  rw [show w.heap.size + 1 + 1 = w.heap.size + 2 from rfl]
  have HSt2 := HSt
  generalize (((w.alloc (.cells #[.string d, .slice sa n sc] 27)).alloc (.cells #[.string ⟨#[]⟩, .slice none 0 0] 27)).alloc (.cells #[.slice sa n sc, .int .i64 0] 84)) = W3 at HSt2 ⊢
  clear HSt
  go_loopw [4] (fun l wr => ∃ j : Nat, j ≤ n ∧ lenOf l = j ∧ NormAt w.heap.size d w wr (.slice sa n sc) l j (normL (L.take j))) (fun l wr => n - lenOf l)
  case atStart => exact ⟨0, by omega, rfl, HSt2.out⟩
  case round =>
    obtain ⟨j, hj, hlj, hat⟩ := hrel
    obtain ⟨la, ln, lc, rfl⟩ := ownA_sl hat.own
    simp only [lenOf] at hlj
    subst hlj
    have HAt := Lib.hid hat
    have hmo := more_any (w.heap.size + 2) sa n sc ln wr hat.m0 hat.m1
    have HMo := Lib.hid hmo
    clear hmo hat
    by_cases hlt : ln < n
    · have t1 : decide ((ln : Int) < (n : Int)) = true := by simp; omega
      have hjl : ln < L.length := by rw [← HN.out]; exact hlt
      rw [t1] at HMo
      have htk := normL_take L ln hjl
      have HTk := Lib.hid htk
      have hwl : (normL (L.take ln)).length ≤ 1000 := by unfold normL; rw [List.length_map, List.length_take]; omega
      clear htk t1
      go_wp2_with (first
        | (go_at_call 40; refine (HMo.out).mono ?_; rintro e w2 ⟨rfl, m, hw2⟩; have hb2 : Below wr.heap.size wr w2 := (by { rw [hw2]; exact below_drewN (Below.refl _ _) m }); have HAt2 := Lib.hid (HAt.out.go hb2); clear hw2 hb2)
        | (go_at_call 41; refine (next_any L HS.out (w.heap.size + 2) ln (.slice sa n sc) _ (by have := HAt2.out.size; omega) ((HI.out.below HAt2.out.bel (by omega)).below (Below.refl _ _) (Nat.le_refl _)) hjl HAt2.out.m0 HAt2.out.m1 HAt2.out.mz).mono ?_; rintro e w5 ⟨u5, rfl, hu5, hg5, h50, h51, h5z⟩; have HAt5 := Lib.hid (HAt2.out.next hg5 h50 h51 h5z); (obtain ⟨ya, yc, hye, _⟩ := id hu5); subst hye; have HU5 := Lib.hid hu5; have HO2 := Lib.hid HAt2.out.own; have hz2 := HAt2.out.size; clear hu5 hg5 h50 h51 h5z)
        | (at_builtin; refine wpList_append_attr rfl (.tmp 11) (.tmp 14) rfl (w.heap.size + 3) (.slice la ln lc) (normL (L.take ln)) rfl (ofL (nameA L[ln].1)) (.slice ya L[ln].2.length yc) L[ln].2 HAt5.out.own (HU5.out.imp (fun b hb => ⟨by have := hb.1; omega, hb.2, fun e => absurd (ownA_lt HO2.out b e.symm) (by have := hb.1; omega)⟩) (fun _ _ _ => rfl)) rfl rfl (by omega) HAt5.out.size ?_; intro v6 w6 hown6 hb6; have HAt6 := Lib.hid (HAt5.out.app hb6 hown6); clear hown6 hb6))
      obtain ⟨ra, rn, rc, rfl⟩ := ownA_sl HAt6.out.own
      have hrn : rn = ln + 1 := by
        obtain ⟨_, _, h⟩ := ownA_slice HAt6.out.own
        simp only [Value.slice.injEq] at h
        rw [h.2.1]
        unfold normL
        simp; omega
      subst hrn
      go_roundw
      case rel => exact ⟨ln + 1, by omega, rfl, by rw [HTk.out]; have := HAt6.out; rw [ofL_list] at this; exact this⟩
      case measure => simp [lenOf]; omega
    · obtain rfl : ln = n := by omega
      have t1 : decide ((ln : Int) < (ln : Int)) = false := by simp
      rw [t1] at HMo
      have hall : normL (L.take ln) = normL L := by rw [List.take_of_length_le (by rw [← HN.out]; exact Nat.le_refl _)]
      have HAll := Lib.hid hall
      clear t1 hall
      go_wp2_with (first
        | (go_at_call 40; refine (HMo.out).mono ?_; rintro e w2 ⟨rfl, m, hw2⟩; have hb2 : Below wr.heap.size wr w2 := (by { rw [hw2]; exact below_drewN (Below.refl _ _) m }); have HAt2 := Lib.hid (HAt.out.go hb2); clear hw2 hb2)
        | (go_at_call 42; refine (sortedU_own (w.heap.size + 3) (normL L) (by unfold normL; rw [List.length_map, ← HN.out]; exact hl5) _ _ HAt2.out.size (by have := HAt2.out.own; rwa [HAll.out] at this)).mono ?_; rintro e w3 ⟨rfl, ho3, hb3⟩; have HAt3 := Lib.hid (HAt2.out.app hb3 ho3); have f0 := HAt3.out.box.1; clear hb3 ho3)
        | (go_at_call 45; refine (HNt.out _).mono ?_; rintro e w4 ⟨rfl, hb4⟩; have HAt4 := Lib.hid (HAt3.out.go hb4); (obtain ⟨_, p0, p1, q0, q1⟩ := HAt4.out.box); clear hb4))
      refine bodyPost_ret (v := .agg #[.string T, .slice la ln lc]) (by simp [results, Tryz.results22, go_sem, p0, p1]) rfl ⟨_, rfl, ?_, (HAt4.out.bel.setCell (p := ⟨w.heap.size + 1, 0, none⟩) (show w.heap.size ≤ w.heap.size + 1 by omega) _).setCell (p := ⟨w.heap.size + 1, 1, none⟩) (show w.heap.size ≤ w.heap.size + 1 by omega) _⟩
      have ho := ownA_set (ownA_set HAt4.out.own ⟨w.heap.size + 1, 0, none⟩ (.string T) (show w.heap.size + 1 < w.heap.size + 3 by omega)) ⟨w.heap.size + 1, 1, none⟩ (.slice la ln lc) (show w.heap.size + 1 < w.heap.size + 3 by omega)
      have ho2 := ownA_lower (B' := w.heap.size) ho (by omega)
      exact ho2

end Go.Proofs.YtpnbcmblnplbgaaGreatDoor


namespace Go.Proofs.YtpnbcmblnplbgaaGreatDoor
open Go.RowKit
set_option linter.unusedVariables false

def fineA (L : List AT) : Prop := smallA L ∧ L.length < 40 ∧ ∀ a ∈ L, a.1.length ≤ 1000
end Go.Proofs.YtpnbcmblnplbgaaGreatDoor


namespace Go.Proofs.YtpnbcmblnplbgaaGreatDoor
open Go.RowKit
set_option linter.unusedVariables false

def fineE (L : List ET) : Prop := smallE L ∧ ∀ e ∈ L, fineA e.2

end Go.Proofs.YtpnbcmblnplbgaaGreatDoor


namespace Go.Proofs.YtpnbcmblnplbgaaGreatDoor
open Go.RowKit
set_option linter.unusedVariables false

def capV : Value → Prop
  | .slice none n c => n = 0 ∧ c = 0
  | .slice (some a) n c => n ≤ c ∧ a.spot = none
  | _ => True
theorem ownE_cap {ok : Nat → Prop} {B : Nat} {w : World} {v : Value} {L : List ET} (h : OwnE ok B w v L) : capV v := by
  obtain ⟨P, hr, hsay⟩ := h
  rcases hr.2 with ⟨rfl, _⟩ | ⟨g, cap, cur, rfl, _, _, h1, _⟩
  · exact ⟨rfl, rfl⟩
  · exact ⟨h1, rfl⟩
def IsEE (n0 : Nat) (w : World) (U : List (List ET)) (v : Value) : Prop := ∃ a c, v = .slice a U.length c ∧ ∀ j, (h : j < U.length) → ∃ b off u, a = some ⟨b, off, none⟩ ∧ b < n0 ∧ w.cell? ⟨b, off + j, none⟩ = some u ∧ IsE n0 w U[j] u

end Go.Proofs.YtpnbcmblnplbgaaGreatDoor


namespace Go.Proofs.YtpnbcmblnplbgaaGreatDoor
open Go.RowKit
set_option linter.unusedVariables false

def capW : Value → Prop
  | .slice _ n c => n ≤ c
  | _ => True
def fromK (KS : List KL) (k : KL) : Nat := if findK KS k < 0 then aboveK KS k else (findK KS k).toNat
def toK (KS : List KL) (k : KL) : Nat := if findK KS k < 0 then aboveK KS k else (findK KS k).toNat + 1
def putE (L : List ET) (e : ET) : List ET := L.take (fromK (keysE L) (kE e)) ++ [e] ++ L.drop (toK (keysE L) (kE e))
end Go.Proofs.YtpnbcmblnplbgaaGreatDoor


namespace Go.Proofs.YtpnbcmblnplbgaaGreatDoor
open Go.RowKit
set_option linter.unusedVariables false

theorem wpList_append_list {n0 : Nat} {ops : Array Oper} {rest : List Oper} {o : Oper} {a : Act} {w : World} {Q : Exit → Act → World → Prop} (hgd : o.guard = none) (sl x : Operand)
    (ho : o.op = .call { callee := .builtin .append, args := #[sl, x], argTypes := #[23, 23] })
    (base : Nat) (v xv : Value) (L M : List ET) (hs : a.eval sl = v) (hown : OwnE (fun b => b < n0) base w v L) (hx : a.eval x = xv) (hM : IsEo (fun b => b < n0) w M xv) (hn0 : n0 ≤ base)
    (h63 : L.length + M.length ≤ 1000000) (hbase : base ≤ w.heap.size)
    (h : ∀ v' w', OwnE (fun b => b < n0) base w' v' (L ++ M) → Below base w w' → wpList Tryz.prog ops Q rest (a.put o.dst v') w') : wpList Tryz.prog ops Q (o :: rest) a w := by
  obtain ⟨xa, xc, rfl, hxm, hcell⟩ := id hM
  by_cases hne : M = []
  · subst hne
    obtain ⟨i0, hi, hz0, hz1, hz2⟩ := info_parts infoE
    have hcap := ownE_cap hown
    obtain ⟨sa, sc, rfl⟩ := ownE_slice hown
    have hle : L.length ≤ sc := by
      cases sa with
      | none => have := hcap.1; omega
      | some ad => exact hcap.1
    have hsrc : Src Tryz.prog i0.size 23 (.slice xa 0 xc) 0 [] w := by
      cases xa with
      | none => exact Src.ofNil _ Tryz.underlying23 xc
      | some ad => exact Src.ofSlice _ Tryz.underlying23 ad 0 xc [] (by simp) (by simp) (by simp)
    have hrun := fun ty => run_append_nothing w 23 23 ty 27 i0 Tryz.underlying23 hi sa L.length sc hle (.slice xa 0 xc) hsrc
    refine Lib.wpList_append_run _ hgd _ _ _ _ ho _ _ hs hx _ _ (hrun _) ?_
    exact h _ w (by rw [List.append_nil]; exact hown) (Below.refl _ _)
  · obtain ⟨b, off, u, rfl, hb, _⟩ := hcell 0 (List.length_pos_iff.2 hne)
    obtain ⟨PM, hPM, _, hPc⟩ := isE_cells hM
    refine wpList_append_entries hgd sl x ho base v L M hs b off M.length xc hown PM hPM hPc hx rfl (fun k hk => ⟨by omega, fun e => ?_⟩) h63 hbase hne (fun v' w' ho' hb' _ _ => h v' w' ho' hb')
    obtain ⟨P, hr, _⟩ := hown
    have := (World.ownsRow.lt hr k e.symm).1
    omega
theorem wpList_append_ent {n0 : Nat} {ops : Array Oper} {rest : List Oper} {o : Oper} {a : Act} {w : World} {Q : Exit → Act → World → Prop} (hgd : o.guard = none) (sl x : Operand)
    (ho : o.op = .call { callee := .builtin .append, args := #[sl, x], argTypes := #[23, 23] })
    (base : Nat) (v : Value) (L : List ET) (X : ByteArray) (u : Value) (A : List AT) (hs : a.eval sl = v) (hown : OwnE (fun b => b < n0) base w v L) (hx : a.eval x = .slice (some ⟨w.heap.size, 0, none⟩) 1 1) (hA : IsAo (fun b => b < n0) w A u) (hn0 : n0 ≤ base)
    (h63 : L.length + 1 ≤ 1000000) (hbase : base ≤ w.heap.size)
    (h : ∀ v' w', OwnE (fun b => b < n0) base w' v' (L ++ [(X.data.toList, A)]) → Below base w w' → wpList Tryz.prog ops Q rest (a.put o.dst v') w') : wpList Tryz.prog ops Q (o :: rest) a (w.alloc (.cells #[.string X, u] 27)) := by
  have hb : Below w.heap.size w (w.alloc (.cells #[.string X, u] 27)) := (Below.refl _ _).alloc (Nat.le_refl _) _
  have hown' := ownE_below (ok' := fun b => b < n0) hown hb (fun b hk => by omega) (fun _ h => h)
  have hA' := hA.imp (ok' := fun b => b < n0) (w' := w.alloc (.cells #[.string X, u] 27)) (fun _ h => h) (fun b o hk => hb.cell (p := ⟨b, o, none⟩) (by show b < _; omega))
  have hsay : SaysE (fun b => b < n0) (w.alloc (.cells #[.string X, u] 27)) [(X.data.toList, u)] [(X.data.toList, A)] := ⟨rfl, fun j h1 h2 => by
    have : j = 0 := by simp at h1; omega
    subst this
    exact ⟨rfl, hA'⟩⟩
  refine wpList_append_entries hgd sl x ho base v L [(X.data.toList, A)] hs w.heap.size 0 1 1 hown' [(X.data.toList, u)] hsay ?_ hx rfl (fun k hk => ⟨by have := hb.size; omega, fun e => ?_⟩) h63 (Nat.le_trans hbase hb.size) (by simp) (fun v' w' ho' hb' _ _ => h v' w' ho' ((hb.mono hbase).trans hb'))
  · intro j y hy
    have e : cellsP [(X.data.toList, u)] = [.string X, u] := by
      show [strV X.data.toList, u] = _
      rw [strV_whole]
    rw [e] at hy
    exact newsE w _ _ j y hy
  · obtain ⟨P, hr, _⟩ := hown
    have := (World.ownsRow.lt hr k e.symm).1
    omega

set_option maxRecDepth 100000 in
set_option maxHeartbeats 4000000 in
theorem findR7_any (L : List ET) (hs : smallE L) (v : Value) (K : ByteArray) (w : World) (h : IsE w.heap.size w L v) :
    Calls Tryz.prog 7 #[v, .string K] w fun e w' => e = .returned (.int .i64 (idxK (keysE L) K.data.toList)) ∧ Below w.heap.size w w' := by
  obtain ⟨a, c, rfl, hm, hcell⟩ := h
  have hL := hs.1
  obtain ⟨n, hn⟩ : ∃ n, n = L.length := ⟨_, rfl⟩
  rw [← hn] at hm hL ⊢
  unfold maxLen at hm
  have HN := Lib.hid hn
  have HC := Lib.hid hcell
  have HS := Lib.hid hs
  obtain ⟨I, hI⟩ : ∃ I, I = idxK (keysE L) K.data.toList := ⟨_, rfl⟩
  rw [← hI]
  have HI := Lib.hid hI
  clear hcell hs hI hn
  go_enter Tryz.func7, Tryz.ntmps7
  go_wp2
  go_loopw [5] (fun i wr => ∃ j : Nat, j ≤ n ∧ i = .int .i64 j ∧ Hid (∀ i (hi : i < L.length), i < j → kE L[i] ≠ K.data.toList) ∧ Below w.heap.size w wr) (fun i wr => n - (intOf i).toNat)
  case atStart => exact ⟨0, by omega, rfl, Lib.hid (fun _ _ h => absurd h (by omega)), Below.refl _ _⟩
  case round =>
    obtain ⟨j, hj, rfl, HAll, hbel⟩ := hrel
    have HBel := Lib.hid hbel
    have hbs := hbel.size
    by_cases hlt : j < n
    · have t1 : decide ((j : Int) < (n : Int)) = true := by simp; omega
      have t1' : decide (j < n) = true := by simpa using hlt
      have q1 : (j : Int) < (n : Int) := by omega
      have hjL : j < L.length := by rw [← HN.out]; exact hlt
      obtain ⟨b, off, u, rfl, hb0, c0, c1, ht⟩ := HC.out j hjL
      replace ht := IsAo.isA ht
      obtain ⟨ua, un, uc, rfl⟩ := ht.sl
      obtain ⟨X, hX⟩ : ∃ X : ByteArray, ofL L[j].1 = X := ⟨_, rfl⟩
      have hXl : X.data.toList = L[j].1 := by rw [← hX, ofL_list]
      have d0 : (wr.cell? ⟨b, off + j * 2, none⟩) = some (.string X) := by
        rw [hbel.cell (p := ⟨b, _, none⟩) hb0, c0, ← hX]; rfl
      have d1 := (hbel.cell (p := ⟨b, off + j * 2 + 1, none⟩) hb0).trans c1
      have hXs : X.size ≤ 100000 := by rw [← bytes_len, hXl]; exact (HS.out.2 _ (List.getElem_mem hjL)).1
      have hkey := fun W => keyR_any X hXs ua un uc W
      obtain ⟨Y, hY⟩ : ∃ Y, Y = keyB (keyD X.data.toList) := ⟨_, rfl⟩
      rw [← hY] at hkey
      have hYl : Y.data.toList = kE L[j] := by rw [hY, keyB_list, hXl]; rfl
      have HKey := Lib.hid hkey
      have HYl := Lib.hid hYl
      clear hX hXl c0 c1 ht hkey hY hYl hbel
      by_cases he : Y = K
      · have q2 : (K.toList == K.toList) = true := by simp
        have HF : Hid (I = (j : Int)) := Lib.hid (HI.out.trans (idxK_at j (by rw [keysE_len]; exact hjL) (fun i hi hij => by rw [keysE_at L i (by rw [keysE_len] at hi; exact hi)]; exact HAll.out i _ hij) (by rw [keysE_at L j hjL, ← HYl.out, he])))
        subst he
        go_wp2_with (go_at_call 6; refine (HKey.out _).mono ?_; rintro e w2 ⟨rfl, hb2⟩; have HB2 := Lib.hid (HBel.out.trans (hb2.mono hbs)); clear hb2)
        go_ret
        exact ⟨by rw [HF.out]; rfl, HB2.out⟩
      · have q2 := str_ne he
        have HN1 : Hid (∀ i (hi : i < L.length), i < j + 1 → kE L[i] ≠ K.data.toList) := Lib.hid (fun i h1 h3 => by
          by_cases hk : i < j
          · exact HAll.out i h1 hk
          · obtain rfl : i = j := by omega
            rw [← HYl.out]
            exact fun e => he (bytes_ext e))
        clear he
        go_wp2_with (go_at_call 6; refine (HKey.out _).mono ?_; rintro e w2 ⟨rfl, hb2⟩; have HB2 := Lib.hid (HBel.out.trans (hb2.mono hbs)); clear hb2)
        go_roundw
        case rel => exact ⟨j + 1, by omega, by go_num, HN1, HB2.out⟩
        case measure => simp [intOf]; omega
    · obtain rfl : j = n := by omega
      have t1 : decide ((j : Int) < (j : Int)) = false := by simp
      have t1' : decide (j < j) = false := by simp
      have HF : Hid (I = -1) := Lib.hid (HI.out.trans (idxK_no (fun hm => by
        obtain ⟨e, he, hk⟩ := List.mem_map.1 hm
        obtain ⟨i, hi, rfl⟩ := List.getElem_of_mem he
        exact HAll.out i hi (by rw [HN.out]; exact hi) hk)))
      clear hbel
      go_wp2
      go_ret
      exact ⟨by rw [HF.out]; rfl, HBel.out⟩

end Go.Proofs.YtpnbcmblnplbgaaGreatDoor


namespace Go.Proofs.YtpnbcmblnplbgaaGreatDoor
open Go.RowKit
set_option linter.unusedVariables false

section
variable {P : Program} {ops : Array Oper} {Q : Exit → Act → World → Prop}

theorem region_J {id : Nat} {a0 : Act} {w0 : World} (hm : P.follows .mixedOrders = true) (n0 l1 l2 : Nat) (F : Bool → Bool → Nat → Value → World → Prop) (J : Bool → Bool → World → Prop)
    (hJ : ∀ p q w w', n0 ≤ w.heap.size → J p q w → Below w.heap.size w w' → J p q w') (hJ0 : J false false w0)
    (hF : ∀ p q i v w w', n0 ≤ w.heap.size → F p q i v w → Below w.heap.size w w' → F p q i v w') (hn : n0 ≤ w0.heap.size)
    (hok : regOk ops a0.tmps.size = true) (h12 : depOn ops l2 l1 = true) (h2 : decide (l1 < l2 ∧ l2 + 1 < ops.size) = true) {l : Oper} (hl : ops[ops.size - 1]? = some l)
    (hstep : ∀ listed a w p q, n0 ≤ w.heap.size → J p q w → Kept ops (F p q) (Below n0) a0 w0 listed a w → ∀ (i : Nat) (o : Oper), ops[i]? = some o → i + 1 < ops.size → i ≠ l1 → i ≠ l2 → Came listed o →
      wpOp P ops Q i (fun a' w' => ∃ d v, o.dst = some d ∧ a' = a.put (some d) v ∧ Below w.heap.size w w' ∧ F p q i v w') a w)
    (hloud1 : ∀ listed a w, n0 ≤ w.heap.size → J false false w → Kept ops (F false false) (Below n0) a0 w0 listed a w → ∀ o, ops[l1]? = some o → Came listed o →
      wpOp P ops Q l1 (fun a' w' => ∃ d v, o.dst = some d ∧ a' = a.put (some d) v ∧ Below n0 w w' ∧ F true false l1 v w' ∧ J true false w' ∧ ∀ j u, j ≠ l1 → F false false j u w → F true false j u w') a w)
    (hloud2 : ∀ listed a w, n0 ≤ w.heap.size → J true false w → Kept ops (F true false) (Below n0) a0 w0 listed a w → ∀ o, ops[l2]? = some o → Came listed o →
      wpOp P ops Q l2 (fun a' w' => ∃ d v, o.dst = some d ∧ a' = a.put (some d) v ∧ Below n0 w w' ∧ F true true l2 v w' ∧ J true true w' ∧ ∀ j u, j ≠ l2 → F true false j u w → F true true j u w') a w)
    (hlast : ∀ listed a w, n0 ≤ w.heap.size → J true true w → Kept ops (F true true) (Below n0) a0 w0 listed a w → (∀ i, i + 1 < ops.size → listed.getD i false = true) → wpOp P ops Q (ops.size - 1) (fun a' w' => Q .normal a' w') a w) :
    (Code.region id ops true).wp P Q a0 w0 := by
  have hne : 0 < ops.size := by
    have := (Array.getElem?_eq_some_iff.1 hl).1
    omega
  obtain ⟨hlt12, h2⟩ := of_decide_eq_true h2
  have hb := fun (i : Nat) (o : Oper) (ho : ops[i]? = some o) => (regOk_at hok ho).1
  have hd := fun (i j : Nat) (o o' : Oper) (d : Tmp) (ho : ops[i]? = some o) (ho' : ops[j]? = some o') (hd : o.dst = some d) (hd' : o'.dst = some d) => ((regOk_at hok ho).2.1 d hd).2 j o' ho' hd'
  have hin := fun (i : Nat) (o : Oper) (d : Tmp) (ho : ops[i]? = some o) (hd : o.dst = some d) => ((regOk_at hok ho).2.1 d hd).1
  have hw := fun i (hi : i + 1 < ops.size) => (regOk_at hok (Array.getElem?_eq_getElem (show i < ops.size by omega))).2.2 hi
  have hno : ∀ i, (Array.replicate ops.size false).getD i false = false := fun i => by
    rcases Nat.lt_or_ge i ops.size with h | h <;> simp [h]
  refine region_inv hm (fun listed a w => (Kept ops (F (listed.getD l1 false) (listed.getD l2 false)) (Below n0) a0 w0 listed a w ∧ J (listed.getD l1 false) (listed.getD l2 false) w ∧ listed.getD (ops.size - 1) false = false) ∨ (listed.size = ops.size ∧ (∀ i, i < ops.size → listed.getD i false = true) ∧ Q .normal a w)) ?_ hb ?_ ?_ ?_
  · exact .inl ⟨⟨by simp, fun i o _ h => (by rw [hno] at h; cases h), rfl, rfl, (Below.refl n0 w0).drew, fun _ _ => rfl, fun i o d _ _ h => (by rw [hno] at h; cases h)⟩, by rw [hno, hno]; exact hJ _ _ _ _ hn hJ0 (Below.refl _ _).drew, hno _⟩
  · rintro listed a w (⟨h, _⟩ | ⟨h, _⟩)
    · exact h.size
    · exact h
  · rintro listed a w (⟨hk, hjw, hnl⟩ | ⟨hs, ha, _⟩) i o ho hi hc
    · have hio : i < ops.size := (Array.getElem?_eq_some_iff.1 ho).1
      have hsz : n0 ≤ w.heap.size := Nat.le_trans hn hk.grown.size
      have hpi : listed.getD i false = false := by
        have hi' : i < listed.size := by rw [hk.size]; exact hio
        simpa [hi'] using hi
      have hsl : (listed.setIfInBounds i true).getD i false = true := getD_set_self (by rw [hk.size]; exact hio)
      by_cases hlst : i = ops.size - 1
      · subst hlst
        rw [ho] at hl; cases hl
        have hall := fun j => rest_came hk.shut hw ho hc ops.size j (by omega)
        rw [hall l2 h2, hall l1 (by omega)] at hk hjw
        refine wpOp_mono (fun a' w' hq => .inr ⟨by simp [hk.size], fun j hj => ?_, hq⟩) (hlast listed a w hsz hjw hk hall)
        by_cases hjl : j = ops.size - 1
        · subst hjl; exact hsl
        · exact getD_set_true (hall j (by omega))
      · by_cases hi1 : i = l1
        · subst hi1
          have hp2 : listed.getD l2 false = false := by
            cases e : listed.getD l2 false with
            | false => rfl
            | true =>
              exfalso
              unfold depOn at h12
              cases eo : ops[l2]? with
              | none => rw [eo] at h12; cases h12
              | some o2 =>
                rw [eo] at h12
                obtain ⟨x, hx, hxe⟩ := Array.any_eq_true'.1 h12
                simp only [Bool.and_eq_true, decide_eq_true_eq] at hxe
                have := hk.shut l2 o2 eo e x hx hxe.1
                rw [hxe.2, hpi] at this
                cases this
          rw [hpi, hp2] at hk hjw
          refine wpOp_mono (fun a' w' hq => ?_) (hloud1 listed a w hsz hjw hk o ho hc)
          obtain ⟨d, v, hod, rfl, hg, hv, hj2, hj⟩ := hq
          refine .inl ⟨?_, by rw [hsl, getD_set_ne false (show i ≠ l2 by omega), hp2]; exact hj2, by rw [getD_set_ne false hlst]; exact hnl⟩
          rw [hsl, getD_set_ne false (show i ≠ l2 by omega), hp2]
          exact hk.more2 hj (hk.grown.trans hg) hd hin ho hod hc hv
        · by_cases hi2 : i = l2
          · subst hi2
            have hp1 : listed.getD l1 false = true := by
              unfold depOn at h12
              rw [ho] at h12
              obtain ⟨x, hx, hxe⟩ := Array.any_eq_true'.1 h12
              simp only [Bool.and_eq_true, decide_eq_true_eq] at hxe
              have := hc x hx hxe.1
              rwa [hxe.2] at this
            rw [hp1, hpi] at hk hjw
            refine wpOp_mono (fun a' w' hq => ?_) (hloud2 listed a w hsz hjw hk o ho hc)
            obtain ⟨d, v, hod, rfl, hg, hv, hj2, hj⟩ := hq
            refine .inl ⟨?_, by rw [hsl, getD_set_ne false (show i ≠ l1 by omega), hp1]; exact hj2, by rw [getD_set_ne false hlst]; exact hnl⟩
            rw [hsl, getD_set_ne false (show i ≠ l1 by omega), hp1]
            exact hk.more2 hj (hk.grown.trans hg) hd hin ho hod hc hv
          · refine wpOp_mono (fun a' w' hq => ?_) (hstep listed a w _ _ hsz hjw hk i o ho (by omega) hi1 hi2 hc)
            obtain ⟨d, v, hod, rfl, hg, hv⟩ := hq
            refine .inl ⟨?_, by rw [getD_set_ne false hi1, getD_set_ne false hi2]; exact hJ _ _ _ _ hsz hjw hg, by rw [getD_set_ne false hlst]; exact hnl⟩
            rw [getD_set_ne false hi1, getD_set_ne false hi2]
            exact hk.more2 (fun j u _ h => hF _ _ _ _ _ _ hsz h hg) (hk.grown.trans (hg.mono hsz)) hd hin ho hod hc hv
    · exfalso
      have hio : i < ops.size := (Array.getElem?_eq_some_iff.1 ho).1
      have := ha i hio
      have hi' : i < listed.size := by omega
      simp [hi'] at this hi
      rw [this] at hi; cases hi
  · rintro listed a w (⟨hk, _, hnl⟩ | ⟨_, _, hq⟩) ha
    · rw [ha _ (by omega)] at hnl; cases hnl
    · exact hq


theorem wpOp_call {i : Nat} {o : Oper} {a : Act} {w : World} {f : FuncId} {args : Array Value} {K : Act → World → Prop} (ho : ops[i]? = some o) (hg : o.guard = none) (hr : (execOp a.eval o).run P w = .ok (.enter f args) w)
    (hc : Calls P f args w fun e w' => ∃ v, e = .returned v ∧ K (a.put o.dst v) w') : wpOp P ops Q i K a w := by
  unfold wpOp
  rw [ho]
  show if Region.wanted o (yielded ops a.tmps) = true then _ else _
  rw [if_pos (by unfold Region.wanted; rw [hg])]
  refine .inl ?_
  unfold Oper.wp
  rw [hr]
  exact Calls.mono hc (fun e w' h => by obtain ⟨v, rfl, h⟩ := h; exact h)
end
end Go.Proofs.YtpnbcmblnplbgaaGreatDoor


namespace Go.Proofs.YtpnbcmblnplbgaaGreatDoor
open Go.RowKit
set_option linter.unusedVariables false

inductive Fk where
  | is (v : Value)
  | val (VB : Array Value) (g : Nat → Value)
  | att (M : List AT)
  | row (P : List PT) (L : List AT)
  | txt (L : List (List UInt8))
  | any
def FK (B : Nat) (T : List Fk) (q : Bool) (i : Nat) (v : Value) (w : World) : Prop := match T.getD i .any with
  | .is x => v = x
  | .val VB g => ∃ b, v = g b ∧ w.heap[b]? = some (.cells VB 9 (0, 0))
  | .att M => q = true ∨ ∃ c PM, v = .slice (some ⟨c, 0, none⟩) M.length M.length ∧ w.heap[c]? = some (.cells (cellsP PM).toArray 56 (0, 0)) ∧ SaysM w PM M
  | .row P L => q = true ∧ ∃ PM, RowP B w v (P ++ PM) ∧ SaysM w (P ++ PM) L
  | .txt L => IsTo (StrB w) w L v
  | .any => True
theorem FK.go {B : Nat} {T : List Fk} {q : Bool} {i : Nat} {v : Value} {w w' : World} (h : FK B T q i v w) (hb : Below w.heap.size w w') : FK B T q i v w' := by
  have hk : ∀ {b : Nat} {o : Obj}, w.heap[b]? = some o → w'.heap[b]? = some o := fun e => (hb.block _ (Array.getElem?_eq_some_iff.1 e).1).trans e
  unfold FK at h ⊢
  cases e : T.getD i .any with
  | is x => rw [e] at h; exact h
  | val VB g => rw [e] at h; obtain ⟨b, h1, h2⟩ := h; exact ⟨b, h1, hk h2⟩
  | att M => rw [e] at h; exact h.imp id fun ⟨c, PM, h1, h2, h3⟩ => ⟨c, PM, h1, hk h2, saysM_below h3 hb⟩
  | row P L => rw [e] at h; obtain ⟨hq, PM, h1, h2⟩ := h; exact ⟨hq, PM, rowP_below h1 hb, saysM_below h2 hb⟩
  | txt L => rw [e] at h; exact h.imp (fun b ⟨cs, fr, hc⟩ => ⟨cs, fr, hk hc⟩) (fun b o hs => hb.cell (p := ⟨b, o, none⟩) hs.lt)
  | any => exact trivial
theorem FK.loud {B : Nat} {T : List Fk} {i : Nat} {v : Value} {w w' : World} (h : FK B T false i v w) (hks : ∀ (b : Nat) (cs : Array Value) (fr : Nat × Nat), w.heap[b]? = some (.cells cs 9 fr) → w'.heap[b]? = w.heap[b]?) (hk : ∀ (b : Nat) (cs : Array Value) (e : TypeId), w.heap[b]? = some (.cells cs e (0, 0)) → e ≠ 56 → w'.heap[b]? = w.heap[b]?) : FK B T true i v w' := by
  unfold FK at h ⊢
  cases e : T.getD i .any with
  | is x => rw [e] at h; exact h
  | val VB g => rw [e] at h; obtain ⟨b, h1, h2⟩ := h; exact ⟨b, h1, (hk _ _ _ h2 (by decide)).trans h2⟩
  | att M => exact .inl rfl
  | row P L => rw [e] at h; cases h.1
  | txt L =>
    rw [e] at h
    have hs : ∀ b, StrB w b → w'.heap[b]? = w.heap[b]? := fun b ⟨cs, fr, hc⟩ => hks b cs fr hc
    exact h.imp (fun b hb => by obtain ⟨cs, fr, hc⟩ := hb; exact ⟨cs, fr, (hs b ⟨cs, fr, hc⟩).trans hc⟩) (fun b o hb => by simp only [World.cell?, hs b hb])
  | any => exact trivial

def kOf (ns : List UInt8) (i : Nat) : Nat := (ns.getD i 0).toNat
structure MkAt (B : Nat) (W : World) (ge : Nat) (D : ByteArray) (u : Value) (P : List PT) (L : List AT) (kb : Nat) (KC : Array Value) : Prop where
  box : BoxN W ge D u
  row : RowP B W u P
  says : SaysM W P L
  nums : W.heap[kb]? = some (.cells KC 3 (0, 0))
  lo : B ≤ ge
theorem MkAt.own {B ge kb : Nat} {D : ByteArray} {u : Value} {P : List PT} {L : List AT} {KC : Array Value} {W : World} (h : MkAt B W ge D u P L kb KC) : OwnM B W u L := ⟨P, h.row, h.says⟩
theorem MkAt.go {B ge kb : Nat} {D : ByteArray} {u : Value} {P : List PT} {L : List AT} {KC : Array Value} {W W' : World} (h : MkAt B W ge D u P L kb KC) (hb : Below W.heap.size W W') : MkAt B W' ge D u P L kb KC :=
  ⟨h.box.below hb (Array.getElem?_eq_some_iff.1 h.box).1, rowP_below h.row hb, saysM_below h.says hb, (hb.block _ (Array.getElem?_eq_some_iff.1 h.nums).1).trans h.nums, h.lo⟩
def MkJ (B ge kb : Nat) (D : ByteArray) (u : Value) (P : List PT) (L : List AT) (KC : Array Value) (q : Bool) (W : World) : Prop := BoxN W ge D u ∧ W.heap[kb]? = some (.cells KC 3 (0, 0)) ∧ (q = false → RowP B W u P ∧ SaysM W P L)
theorem MkJ.go {B ge kb : Nat} {D : ByteArray} {u : Value} {P : List PT} {L : List AT} {KC : Array Value} {q : Bool} {W W' : World} (h : MkJ B ge kb D u P L KC q W) (hb : Below W.heap.size W W') : MkJ B ge kb D u P L KC q W' :=
  ⟨h.1.below hb (Array.getElem?_eq_some_iff.1 h.1).1, (hb.block _ (Array.getElem?_eq_some_iff.1 h.2.1).1).trans h.2.1, fun e => ⟨rowP_below (h.2.2 e).1 hb, saysM_below (h.2.2 e).2 hb⟩⟩
theorem MkJ.loud {B ge kb : Nat} {D : ByteArray} {u : Value} {P : List PT} {L : List AT} {KC : Array Value} {q : Bool} {W W' : World} (h : MkJ B ge kb D u P L KC q W) (hk : ∀ (b : Nat) (cs : Array Value) (e : TypeId), W.heap[b]? = some (.cells cs e (0, 0)) → e ≠ 56 → W'.heap[b]? = W.heap[b]?) : MkJ B ge kb D u P L KC true W' :=
  ⟨(hk _ _ _ h.1 (by decide)).trans h.1, (hk _ _ _ h.2.1 (by decide)).trans h.2.1, fun e => by cases e⟩
theorem MkAt.j {B ge kb : Nat} {D : ByteArray} {u : Value} {P : List PT} {L : List AT} {KC : Array Value} {W : World} (h : MkAt B W ge D u P L kb KC) : MkJ B ge kb D u P L KC false W := ⟨h.box, h.nums, fun _ => ⟨h.row, h.says⟩⟩
theorem run_append_P {B : Nat} {w : World} {v : Value} {P : List PT} {L : List AT} (hr : RowP B w v P) (hsay : SaysM w P L) (hB : B ≤ w.heap.size) {PM : List PT} {M : List AT} (hs : SaysM w PM M) (ad : Addr) (c : Nat)
    (hc : ∀ j u, (cellsP PM)[j]? = some u → w.cell? (ad.add j) = some u) (hlen : L.length + M.length ≤ 1000) (ty : TypeId) :
    ∃ v' w', (Builtin.append_ #[25, 25] ty #[v, .slice (some ad) M.length c]).run Tryz.prog w = .ok v' w' ∧ RowP B w' v' (P ++ PM) ∧ SaysM w' (P ++ PM) (L ++ M) ∧ Below B w w' ∧
      (∀ (k : Nat) (cs : Array Value) (fr : Nat × Nat), w.heap[k]? = some (.cells cs 9 fr) → w'.heap[k]? = w.heap[k]?) ∧ (∀ (k : Nat) (cs : Array Value) (e : TypeId), w.heap[k]? = some (.cells cs e (0, 0)) → e ≠ 56 → w'.heap[k]? = w.heap[k]?) := by
  obtain ⟨i0, hi, hz0, hz1, hz2⟩ := info_parts infoA
  have e1 := hsay.1
  have e2 := hs.1
  have h1 : ∀ u ∈ cellsP PM, u.oneCell' = true := by
    intro u hu
    have : ∀ (l : List PT), (∀ j (h : j < l.length), l[j].2.oneCell' = true) → ∀ u ∈ cellsP l, u.oneCell' = true := by
      intro l
      induction l with
      | nil => intro _ u hu; simp [cellsP] at hu
      | cons r l ih =>
        intro h u hu
        simp only [cellsP, List.mem_cons] at hu
        rcases hu with rfl | rfl | hu
        · rfl
        · exact h 0 (by simp)
        · exact ih (fun j hj => h (j + 1) (by simpa using hj)) u hu
    exact this PM (fun j hj => one_isTo (hs.2 j (by omega) hj).2) u hu
  obtain ⟨v', w', hrun, hown', hgrow, _, hat⟩ := run_append_own_at (P := Tryz.prog) w B 25 ty 56 i0 (.agg #[.string ⟨#[]⟩, .slice none 0 0]) 2 40 Tryz.underlying25 hi hz0 hz1 hz2 rfl (by decide) v P.length (cellsP P) hr ad PM.length c (cellsP PM) (cellsP_length PM) hc h1 (by unfold maxLen; omega) (by omega) hB
  rw [e2] at hrun
  refine ⟨v', w', hrun, ?_, saysM_app (saysM_grown hr hgrow hsay) (saysM_grown hr hgrow hs), (Below.refl B w).grown hgrow hB (fun k e => (World.ownsRow.lt hr k e).1), fun k cs fr hk => row_keep hr hgrow hk (by decide), fun k cs e hk hne => row_keep hr hgrow hk hne⟩
  unfold RowP
  rw [List.length_append, cellsP_append]
  exact hown'

theorem rowP_setE {B b i : Nat} {w : World} {v x : Value} {P : List PT} {L : List AT} {cs : Array Value} {fr : Nat × Nat} (hr : RowP B w v P) (hs : SaysM w P L) (hb : w.heap[b]? = some (.cells cs 27 fr)) : RowP B (w.setCell ⟨b, i, none⟩ x) v P ∧ SaysM (w.setCell ⟨b, i, none⟩ x) P L := by
  have hgr : w.grownBy (w.setCell ⟨b, i, none⟩ x) (some b) := ⟨rfl, rfl, rfl, by simp [World.setCell], fun k hk hn => block_ne w ⟨b, i, none⟩ x (fun e => hn (by rw [e]))⟩
  refine ⟨World.ownsRow.kept hr hgr (.inr fun he => ?_), saysM_to hs fun k hk => block_ne w ⟨b, i, none⟩ x fun e => ?_⟩
  · rcases hr.2 with ⟨rfl, _⟩ | ⟨g, cap, cur, rfl, _, hgc, _⟩
    · cases he
    · have : g = b := by simpa [Value.ownBlock] using he
      subst this
      rw [hgc] at hb
      cases hb
  · obtain ⟨cs', fr', hk⟩ := hk
    rw [show k = b from e, hb] at hk
    cases hk
end Go.Proofs.YtpnbcmblnplbgaaGreatDoor


namespace Go.Proofs.YtpnbcmblnplbgaaGreatDoor
open Go.RowKit
set_option linter.unusedVariables false

def mkN (ns : List UInt8) : List UInt8 := 110 :: Lib.itoa ((kOf ns 0 % 6 : Nat) : Int)
def mkLa (ns : List UInt8) : List AT := if kOf ns 1 % 3 = 0 then [([99, 110], [mkN ns]), (objB, [[105, 110, 101, 116, 79, 114, 103, 80, 101, 114, 115, 111, 110]]), ([115, 110], [[115]]), ([109, 97, 105, 108], [[97, 64] ++ Lib.itoa (kOf ns 2 : Int)])] else perL (mkN ns)
def mkLb (ns : List UInt8) : List AT := if kOf ns 1 % 3 = 1 then mkLa ns ++ [([68, 101, 115, 99, 114, 105, 112, 116, 105, 111, 110], [[100, 32] ++ Lib.itoa ((kOf ns 2 % 9 : Nat) : Int), [101]])] else mkLa ns
def mkLc (ns : List UInt8) : List AT := if kOf ns 3 % 4 = 0 then (mkLb ns).set 1 (objB, ((mkLb ns).getD 1 ([], [])).2 ++ [[112, 111, 115, 105, 120]]) ++ [([117, 105, 100], [[117] ++ Lib.itoa ((kOf ns 4 % 9 : Nat) : Int)]), ([117, 105, 100, 78, 117, 109, 98, 101, 114], [Lib.itoa ((kOf ns 4 : Int) - 100)])] else mkLb ns
def mkLd (ns : List UInt8) : List AT := if kOf ns 3 % 4 = 1 then mkLc ns ++ [([117, 115, 101, 114, 80, 97, 115, 115, 119, 111, 114, 100], [[115, 101, 99, 114, 101, 116]])] else mkLc ns
def mkD (ns : List UInt8) : List UInt8 := if kOf ns 5 % 5 = 0 then [99, 110, 61] ++ mkN ns else if kOf ns 5 % 5 = 1 then [67, 78, 61] ++ mkN ns ++ [44, 111, 117, 61, 97, 44, 111, 61, 120] else perD (mkN ns)
end Go.Proofs.YtpnbcmblnplbgaaGreatDoor


namespace Go.Proofs.YtpnbcmblnplbgaaGreatDoor
open Go.RowKit
set_option linter.unusedVariables false

theorem addr0 (c j : Nat) : (⟨c, 0, none⟩ : Addr).add j = ⟨c, j, none⟩ := by simp [Addr.add]; omega
end Go.Proofs.YtpnbcmblnplbgaaGreatDoor


namespace Go.Proofs.YtpnbcmblnplbgaaGreatDoor
open Go.RowKit
set_option linter.unusedVariables false

def tinyT (k : Nat) (A : List (List UInt8)) : Prop := A.length ≤ k ∧ ∀ t ∈ A, t.length ≤ 1000
def tinyA (k : Nat) (L : List AT) : Prop := L.length ≤ k ∧ ∀ a ∈ L, a.1.length ≤ 1000 ∧ tinyT k a.2
theorem tinyT.mono {k m : Nat} {A : List (List UInt8)} (h : tinyT k A) (hk : k ≤ m) : tinyT m A := ⟨Nat.le_trans h.1 hk, h.2⟩
theorem tinyA.mono {k m : Nat} {L : List AT} (h : tinyA k L) (hk : k ≤ m) : tinyA m L := ⟨Nat.le_trans h.1 hk, fun a ha => ⟨(h.2 a ha).1, (h.2 a ha).2.mono hk⟩⟩
theorem tinyA.set {k j : Nat} {L : List AT} {x : AT} (h : tinyA k L) (h1 : x.1.length ≤ 1000) (h2 : tinyT k x.2) : tinyA k (L.set j x) :=
  ⟨by simpa using h.1, fun a ha => by
    rcases List.mem_or_eq_of_mem_set ha with h' | rfl
    · exact h.2 _ h'
    · exact ⟨h1, h2⟩⟩
theorem tinyA.app {k : Nat} {L M : List AT} (h : tinyA k L) (hm : tinyA k M) (hl : L.length + M.length ≤ k) : tinyA k (L ++ M) :=
  ⟨by rw [List.length_append]; exact hl, fun a ha => by
    rcases List.mem_append.1 ha with h' | h'
    · exact h.2 _ h'
    · exact hm.2 _ h'⟩
theorem tinyT.app {k : Nat} {L M : List (List UInt8)} (h : tinyT k L) (hm : tinyT k M) (hl : L.length + M.length ≤ k) : tinyT k (L ++ M) :=
  ⟨by rw [List.length_append]; exact hl, fun a ha => by
    rcases List.mem_append.1 ha with h' | h'
    · exact h.2 _ h'
    · exact hm.2 _ h'⟩
theorem tinyA.at {k j : Nat} {L : List AT} (h : tinyA k L) (hj : j < L.length) : L[j].1.length ≤ 1000 ∧ tinyT k L[j].2 := h.2 _ (List.getElem_mem hj)

theorem ownS_strB {B : Nat} {w : World} {v : Value} {L : List (List UInt8)} (h : OwnS B w v L) (hl : L.length ≤ maxLen) : IsTo (StrB w) w L v := by
  have hc := ownS_isTo h hl
  by_cases hL : L = []
  · subst hL
    obtain ⟨a, c, hv⟩ := ownS_slice h
    exact ⟨a, c, hv, hl, fun j hj => absurd hj (by simp)⟩
  · obtain ⟨g, c, hv, _, hg, hcell⟩ := ownS_at h hL
    subst hv
    refine ⟨_, c, rfl, hl, fun j hj => ⟨g, 0, rfl, ?_, by rw [Nat.zero_add]; exact hcell j hj⟩⟩
    rcases h.2 with ⟨h', _⟩ | ⟨g', cap', cur, h', _, hgc, _⟩
    · simp at h'
    · simp only [Value.slice.injEq, Option.some.injEq, Addr.mk.injEq, and_true] at h'
      obtain ⟨rfl, _, _⟩ := h'
      exact ⟨cur, _, hgc⟩
theorem ownM_mono {B B' : Nat} {w : World} {v : Value} {L : List AT} (h : OwnM B w v L) (hb : B' ≤ B) : OwnM B' w v L := by
  obtain ⟨P, h1, h2⟩ := h
  exact ⟨P, World.ownsRow.mono h1 hb, h2⟩
end Go.Proofs.YtpnbcmblnplbgaaGreatDoor


namespace Go.Proofs.YtpnbcmblnplbgaaGreatDoor
open Go.RowKit
set_option linter.unusedVariables false
set_option linter.unusedSimpArgs false

theorem run_copy_T {w : World} {ok : Nat → Prop} {g : Nat} {u : Value} {A : List (List UInt8)} (hg : w.heap[g]? = some (.cells #[] 9 (0, 0))) (hu : IsTo ok w A u) (hlen : A.length ≤ 100000) (ty : TypeId) :
    ∃ v' w', (Builtin.append_ #[47, 47] ty #[.slice (some ⟨g, 0, none⟩) 0 0, u]).run Tryz.prog w = .ok v' w' ∧ IsTo (StrB w') w' A v' ∧ Below w.heap.size w w' := by
  obtain ⟨i0, hi, hz0, hz1, hz2⟩ := info_parts infoS
  obtain ⟨a, c, rfl, hm, hc⟩ := hu
  cases a with
  | none =>
    have hA : A = [] := by
      cases A with
      | nil => rfl
      | cons x l => obtain ⟨b, off, e, _⟩ := hc 0 (by simp); cases e
    subst hA
    refine ⟨.slice (some ⟨g, 0, none⟩) 0 0, w, ?_, ⟨_, _, rfl, Nat.zero_le _, fun j h => absurd h (by simp)⟩, Below.refl _ _⟩
    exact run_append_room_src (P := Tryz.prog) w 47 47 ty 9 i0 Tryz.underlying47 hi g 0 0 0 (.slice none 0 c) 0 [] (Src.ofNil w Tryz.underlying47 c) (by simp) (fun j h => absurd h (by simp)) (fun j h => absurd h (by simp))
  | some ad =>
    have hcl : ∀ j x, (A.map strV)[j]? = some x → w.cell? (ad.add j) = some x := by
      intro j x hx
      have hj : j < A.length := by
        rcases Nat.lt_or_ge j A.length with h | h
        · exact h
        · rw [List.getElem?_eq_none (by simpa using h)] at hx; cases hx
      obtain ⟨b, off, e, _, h0⟩ := hc j hj
      simp only [Option.some.injEq] at e
      subst e
      have hadd : (⟨b, off, none⟩ : Addr).add j = ⟨b, off + j, none⟩ := by simp [Addr.add]
      rw [hadd, h0]
      simpa [hj] using hx
    by_cases hA : A = []
    · subst hA
      refine ⟨.slice (some ⟨g, 0, none⟩) 0 0, w, ?_, ⟨_, _, rfl, Nat.zero_le _, fun j h => absurd h (by simp)⟩, Below.refl _ _⟩
      exact run_append_room_src (P := Tryz.prog) w 47 47 ty 9 i0 Tryz.underlying47 hi g 0 0 0 (.slice (some ad) 0 c) 0 [] (by rw [hz1]; exact Src.ofSlice w Tryz.underlying47 ad 0 c [] (by simp) (fun j u h => absurd h (by simp)) (by simp)) (by simp) (fun j h => absurd h (by simp)) (fun j h => absurd h (by simp))
    · have hpos : 0 < A.length := by cases A with | nil => exact absurd rfl hA | cons x r => simp
      obtain ⟨v', w', hrun, hown, hgr⟩ := run_append_arg_grows (P := Tryz.prog) (w := w) 47 ty 9 i0 (.string ⟨#[]⟩) 1 16 Tryz.underlying47 hi hz0 hz1 hz2 rfl (by decide) ⟨g, 0, none⟩ 0 0 [] (by simp) (fun j u h => absurd h (by simp)) ad A.length c (A.map strV) (by simp) hcl (by omega) (by unfold maxLen; omega) (by simp; omega)
      have hown2 : OwnS w.heap.size w' v' A := by
        unfold OwnS
        rw [List.nil_append, Nat.zero_add] at hown
        exact hown
      exact ⟨v', w', hrun, ownS_strB hown2 (by unfold maxLen; omega), ⟨hgr.os, hgr.tape, hgr.output, hgr.size, fun k hk => hgr.block k hk (by simp)⟩⟩

theorem sortA_len2 (L : List AT) : (sortA L).length = L.length := srtG_length _ _ _
theorem insF_len : ∀ (M S : List AT), (M.foldl insB S).length = S.length + M.length
  | [], S => rfl
  | a :: r, S => by rw [List.foldl_cons, insF_len r, insB_length, List.length_cons]; omega
theorem run_copy_A {w : World} {B Bz g k n cap : Nat} {la : Option Addr} {P : List PT} {L : List AT} (hg : w.heap[g]? = some (.cells #[] 56 (0, 0))) (hBg : Bz ≤ g) (hBz : Bz ≤ w.heap.size) (hr : RowP B w (.slice la n cap) P) (hs : SaysM w P L) (hk0 : 0 < k) (hk : k ≤ L.length) (hL : L.length ≤ 1000) (ty : TypeId) :
    ∃ v' w', (Builtin.append_ #[25, 25] ty #[.slice (some ⟨g, 0, none⟩) 0 0, .slice la k cap]).run Tryz.prog w = .ok v' w' ∧ OwnM Bz w' v' (L.take k) ∧ Below w.heap.size w w' := by
  obtain ⟨i0, hi, hz0, hz1, hz2⟩ := info_parts infoA
  have hPl := hs.1
  have hne : P ≠ [] := by intro e; rw [e] at hPl; simp at hPl; omega
  obtain ⟨g2, c2, hv, _⟩ := rowP_at hr hne
  simp only [Value.slice.injEq] at hv
  obtain ⟨rfl, rfl, rfl⟩ := hv
  have hcells := World.ownsRow.cells hr (show (Value.slice (some ⟨g2, 0, none⟩) P.length cap).ownBlock = some g2 from rfl)
  have hsrc := row_part (w := w) (b := g2) (P := P) (fun j u h => by
    have h1 := hcells j u h
    have hadd : (⟨g2, 0, none⟩ : Addr).add j = ⟨g2, j, none⟩ := by simp [Addr.add]; omega
    rw [hadd] at h1
    exact h1) [] (P.take k) (P.drop k) (by simp)
  have hsay : SaysM w (P.take k) (L.take k) := saysM_part (A := []) (C := P.drop k) (L := []) (N := L.drop k) (by simpa using hs) rfl (by simp [hPl])
  have hkl : (P.take k).length = k := by simp; omega
  obtain ⟨v', w', hrun, hown, hgr⟩ := run_append_arg_grows (P := Tryz.prog) (w := w) 25 ty 56 i0 (.agg #[.string ⟨#[]⟩, .slice none 0 0]) 2 40 Tryz.underlying25 hi hz0 hz1 hz2 rfl (by decide) ⟨g, 0, none⟩ 0 0 [] (by simp) (fun j u h => absurd h (by simp)) ⟨g2, 0, none⟩ k cap (cellsP (P.take k)) (by rw [cellsP_length, hkl]) (fun j u h => by have := hsrc j u h; simpa using this) (by omega) (by unfold maxLen; omega) (by simp; omega)
  have hbl : Below w.heap.size w w' := ⟨hgr.os, hgr.tape, hgr.output, hgr.size, fun k hk => hgr.block k hk (by simp)⟩
  refine ⟨v', w', hrun, ownM_mono ⟨P.take k, ?_, saysM_below hsay hbl⟩ hBz, hbl⟩
  unfold RowP
  rw [hkl]
  rw [List.nil_append, Nat.zero_add] at hown
  exact hown
inductive Fn where
  | is (v : Value)
  | emp
  | txt (A : List (List UInt8))
  | agg (X : ByteArray) (A : List (List UInt8))
  | box
def FN (B : Nat) (T : List Fn) (i : Nat) (v : Value) (w : World) : Prop := match T.getD i .emp with
  | .is x => v = x
  | .emp => ∃ g, v = .slice (some ⟨g, 0, none⟩) 0 0 ∧ B ≤ g ∧ w.heap[g]? = some (.cells #[] 9 (0, 0))
  | .txt A => IsTo (StrB w) w A v
  | .agg X A => ∃ u, v = .agg #[.string X, u] ∧ IsTo (StrB w) w A u
  | .box => ∃ p, v = .pointer (some ⟨p, 0, none⟩) ∧ B ≤ p ∧ w.heap[p]? = some (.cells #[.string ⟨#[]⟩, .slice none 0 0] 56 (0, 0))
theorem isTo_strB_go {w w' : World} {A : List (List UInt8)} {v : Value} (h : IsTo (StrB w) w A v) (hb : Below w.heap.size w w') : IsTo (StrB w') w' A v :=
  h.imp (fun b ⟨cs, fr, hc⟩ => ⟨cs, fr, (hb.block _ (Array.getElem?_eq_some_iff.1 hc).1).trans hc⟩) (fun b o hs => hb.cell (p := ⟨b, o, none⟩) hs.lt)
theorem FN.go {B : Nat} {T : List Fn} {i : Nat} {v : Value} {w w' : World} (h : FN B T i v w) (hb : Below w.heap.size w w') : FN B T i v w' := by
  have hk : ∀ {b : Nat} {o : Obj}, w.heap[b]? = some o → w'.heap[b]? = some o := fun e => (hb.block _ (Array.getElem?_eq_some_iff.1 e).1).trans e
  unfold FN at h ⊢
  cases e : T.getD i .emp with
  | is x => rw [e] at h; exact h
  | emp => rw [e] at h; obtain ⟨g, h1, h2, h3⟩ := h; exact ⟨g, h1, h2, hk h3⟩
  | txt A => rw [e] at h; exact isTo_strB_go h hb
  | agg X A => rw [e] at h; obtain ⟨u, h1, h2⟩ := h; exact ⟨u, h1, isTo_strB_go h2 hb⟩
  | box => rw [e] at h; obtain ⟨p, h1, h2, h3⟩ := h; exact ⟨p, h1, h2, hk h3⟩

theorem boxN_store0 {W : World} {b : Nat} {x y : ByteArray} {u : Value} (h : BoxN W b x u) : BoxN (W.setCell ⟨b, 0, none⟩ (.string y)) b y u := by
  unfold BoxN at h ⊢
  simp [World.setCell, Array.getElem?_modify, h]
theorem boxN_store1 {W : World} {b : Nat} {x : ByteArray} {u v : Value} (h : BoxN W b x u) : BoxN (W.setCell ⟨b, 1, none⟩ v) b x v := by
  unfold BoxN at h ⊢
  simp [World.setCell, Array.getElem?_modify, h]
theorem BoxN.free {W : World} {b : Nat} {x : ByteArray} {u : Value} (h : BoxN W b x u) (i : Nat) : W.frozen? ⟨b, i, none⟩ = false := by
  unfold BoxN at h
  simp [World.frozen?, h]
theorem strB_attr {W : World} {p b : Nat} {cs : Array Value} {fr : Nat × Nat} (hp : W.heap[p]? = some (.cells cs 56 fr)) (h : StrB W b) : b ≠ p := by
  rintro rfl
  obtain ⟨cs', fr', hc⟩ := h
  rw [hc] at hp
  have := Option.some.inj hp
  simp at this
theorem set_blk {W : World} {p b i : Nat} {x : Value} (h : b ≠ p) : (W.setCell ⟨p, i, none⟩ x).heap[b]? = W.heap[b]? := by
  unfold World.setCell
  simp [Array.getElem?_modify, Ne.symm h]
theorem isTo_attr {W : World} {p i : Nat} {cs : Array Value} {fr : Nat × Nat} {A : List (List UInt8)} {v x : Value} (hp : W.heap[p]? = some (.cells cs 56 fr)) (h : IsTo (StrB W) W A v) : IsTo (StrB (W.setCell ⟨p, i, none⟩ x)) (W.setCell ⟨p, i, none⟩ x) A v :=
  h.imp (fun b hs => by obtain ⟨cs', fr', hc⟩ := id hs; exact ⟨cs', fr', (set_blk (strB_attr hp hs)).trans hc⟩) (fun b o hs => by simp only [World.cell?, set_blk (strB_attr hp hs)])
theorem ownM_entry {B : Nat} {W : World} {v x : Value} {L : List AT} {p i : Nat} {cs : Array Value} {fr : Nat × Nat} (h : OwnM B W v L) (hp : W.heap[p]? = some (.cells cs 27 fr)) (hB : p < B) : OwnM B (W.setCell ⟨p, i, none⟩ x) v L := by
  obtain ⟨P, hr, hs⟩ := h
  refine ⟨P, ⟨hr.1, hr.2.imp id fun ⟨g, cap, cur, e1, hb, hg, rest⟩ => ⟨g, cap, cur, e1, hb, (set_blk (by omega)).trans hg, rest⟩⟩, saysM_to hs fun b hb => set_blk ?_⟩
  rintro rfl
  obtain ⟨cs', fr', hc⟩ := hb
  rw [hc] at hp
  have := Option.some.inj hp
  simp at this
def BoxT (W : World) (p : Nat) (x : ByteArray) (u : Value) : Prop := W.heap[p]? = some (.cells #[.string x, u] 56 (0, 0))
theorem BoxT.cells {W : World} {p : Nat} {x : ByteArray} {u : Value} (h : BoxT W p x u) : W.cell? ⟨p, 0, none⟩ = some (.string x) ∧ W.cell? ⟨p, 1, none⟩ = some u ∧ W.frozen? ⟨p, 0, none⟩ = false ∧ W.frozen? ⟨p, 1, none⟩ = false := by
  unfold BoxT at h
  simp [World.cell?, World.frozen?, h]
theorem BoxT.set0 {W : World} {p : Nat} {x y : ByteArray} {u : Value} (h : BoxT W p x u) : BoxT (W.setCell ⟨p, 0, none⟩ (.string y)) p y u := by
  unfold BoxT at h ⊢
  simp [World.setCell, Array.getElem?_modify, h]
theorem BoxT.set1 {W : World} {p : Nat} {x : ByteArray} {u v : Value} (h : BoxT W p x u) : BoxT (W.setCell ⟨p, 1, none⟩ v) p x v := by
  unfold BoxT at h ⊢
  simp [World.setCell, Array.getElem?_modify, h]
structure NeAt (w : World) (TD d : ByteArray) (v l : Value) (A : List AT) (wr : World) : Prop where
  e1 : wr.cell? ⟨w.heap.size, 1, none⟩ = some v
  box : BoxE w.heap.size d wr
  out : BoxN wr (w.heap.size + 2) TD l
  own : OwnM (w.heap.size + 3) wr l A
  bel : Below w.heap.size w wr
  size : w.heap.size + 3 ≤ wr.heap.size
  res : BoxN wr (w.heap.size + 1) ⟨#[]⟩ (.slice none 0 0)
theorem NeAt.go {w wr W : World} {TD d : ByteArray} {v l : Value} {A : List AT} (h : NeAt w TD d v l A wr) (hb : Below wr.heap.size wr W) : NeAt w TD d v l A W where
  e1 := (hb.cell (p := ⟨w.heap.size, 1, none⟩) (show w.heap.size < wr.heap.size by have := h.size; omega)).trans h.e1
  box := h.box.go hb (by have := h.size; omega)
  out := h.out.below hb (by have := h.size; omega)
  own := ownM_below h.own hb
  bel := h.bel.trans (hb.mono (by have := h.size; omega))
  size := Nat.le_trans h.size hb.size
  res := h.res.below hb (by have := h.size; omega)
theorem NeAt.named {w W : World} {TD d : ByteArray} {v : Value} (h : NeAt w d d v (.slice none 0 0) [] W) : NeAt w TD d v (.slice none 0 0) [] (W.setCell ⟨w.heap.size + 2, 0, none⟩ (.string TD)) where
  e1 := by rw [World.cell?_setCell_other _ _ _ _ (by simp <;> omega)]; exact h.e1
  box := by
    obtain ⟨x0, x1, x2, x3, x4⟩ := h.box
    refine ⟨?_, ?_, ?_, ?_, ?_⟩
    · rw [World.cell?_setCell_other _ _ _ _ (by simp <;> omega)]; exact x0
    · rw [World.cell?_setCell_other _ _ _ _ (by simp <;> omega)]; exact x1
    · rw [World.cell?_setCell_other _ _ _ _ (by simp <;> omega)]; exact x2
    · rw [World.frozen?_setCell]; exact x3
    · rw [World.frozen?_setCell]; exact x4
  out := boxN_store0 h.out
  own := ⟨[], World.ownsRow_nil _ _ _ _, rfl, fun j h => absurd h (by simp)⟩
  bel := h.bel.setCell (p := ⟨w.heap.size + 2, 0, none⟩) (show w.heap.size ≤ w.heap.size + 2 by omega) _
  size := by have := h.size; simpa [World.setCell] using this
  res := (set_blk (by omega)).trans h.res
def NeI (w : World) (TD d : ByteArray) (v : Value) (L : List AT) (wr : World) (j : Nat) : Prop := ∃ l, NeAt w TD d v l ((normL (L.take j)).foldl insB []) wr
end Go.Proofs.YtpnbcmblnplbgaaGreatDoor


namespace Go.Proofs.YtpnbcmblnplbgaaGreatDoor
open Go.RowKit
set_option linter.unusedVariables false
set_option linter.unusedSimpArgs false

theorem run_append_noneA {B : Nat} {w : World} {v : Value} {L : List AT} (hown : OwnM B w v L) (c : Nat) (ty : TypeId) :
    (Builtin.append_ #[25, 25] ty #[v, .slice none 0 c]).run Tryz.prog w = .ok v w := by
  obtain ⟨i0, hi, hz0, hz1, hz2⟩ := info_parts infoA
  obtain ⟨P, hr, hs⟩ := hown
  rcases hr.2 with ⟨rfl, hz⟩ | ⟨g, cap, cur, rfl, _, hg, hnc, _⟩
  · simp [Builtin.append_, run_underlying Tryz.underlying25, sizeOf, typeInfo, hi, Builtin.lenOf, Builtin.firstCells]
  · exact run_append_room_src (P := Tryz.prog) w 25 25 ty 56 i0 Tryz.underlying25 hi g 0 P.length cap (.slice none 0 c) 0 [] (Src.ofNil w Tryz.underlying25 c) hnc (fun j h => absurd h (by simp)) (fun j h => absurd h (by simp))
theorem run_copy_K {w : World} {B Bz g k n cap : Nat} {la : Option Addr} {P : List PT} {L : List AT} (hg : w.heap[g]? = some (.cells #[] 56 (0, 0))) (hBg : Bz ≤ g) (hBz : Bz ≤ w.heap.size) (hr : RowP B w (.slice la n cap) P) (hs : SaysM w P L) (hk : k ≤ L.length) (hL : L.length ≤ 1000) (ty : TypeId) :
    ∃ v' w', (Builtin.append_ #[25, 25] ty #[.slice (some ⟨g, 0, none⟩) 0 0, .slice la k cap]).run Tryz.prog w = .ok v' w' ∧ OwnM Bz w' v' (L.take k) ∧ Below w.heap.size w w' := by
  by_cases hk0 : k = 0
  · subst hk0
    obtain ⟨i0, hi, hz0, hz1, hz2⟩ := info_parts infoA
    refine ⟨.slice (some ⟨g, 0, none⟩) 0 0, w, ?_, by rw [List.take_zero]; exact ownM_empty hg hBg, Below.refl _ _⟩
    cases la with
    | none => exact run_append_room_src (P := Tryz.prog) w 25 25 ty 56 i0 Tryz.underlying25 hi g 0 0 0 (.slice none 0 cap) 0 [] (Src.ofNil w Tryz.underlying25 cap) (by simp) (fun j h => absurd h (by simp)) (fun j h => absurd h (by simp))
    | some ad => exact run_append_room_src (P := Tryz.prog) w 25 25 ty 56 i0 Tryz.underlying25 hi g 0 0 0 (.slice (some ad) 0 cap) 0 [] (by rw [hz1]; exact Src.ofSlice w Tryz.underlying25 ad 0 cap [] (by simp) (fun j u h => absurd h (by simp)) (by simp)) (by simp) (fun j h => absurd h (by simp)) (fun j h => absurd h (by simp))
  · exact run_copy_A hg hBg hBz hr hs (by omega) hk hL ty
theorem rowP_shape {B n c : Nat} {w : World} {a : Option Addr} {P : List PT} (h : RowP B w (.slice a n c) P) : n = P.length ∧ ((a = none ∧ n = 0 ∧ c = 0) ∨ ((∃ g cs, a = some ⟨g, 0, none⟩ ∧ w.heap[g]? = some (.cells cs 56 (0, 0))) ∧ n ≤ c)) := by
  obtain ⟨a2, c2, hv⟩ := rowP_slice h
  simp only [Value.slice.injEq] at hv
  refine ⟨hv.2.1, ?_⟩
  rcases h.2 with ⟨h', _⟩ | ⟨g', cap', cur, h', hb, hg, hnc, _⟩
  · simp only [Value.slice.injEq] at h'
    exact .inl h'
  · simp only [Value.slice.injEq] at h'
    exact .inr ⟨⟨g', cur, h'.1, hg⟩, by rw [h'.2.2, hv.2.1]; exact hnc⟩
theorem run_rest_K {w : World} {B Bz k n cap : Nat} {la : Option Addr} {v : Value} {P : List PT} {L M : List AT} (hown : OwnM Bz w v M) (hBz : Bz ≤ w.heap.size) (hr : RowP B w (.slice la n cap) P) (hs : SaysM w P L) (hk : k ≤ n) (hL : M.length + (n - k) ≤ 1000) (ty : TypeId) :
    ∃ v' w', (Builtin.append_ #[25, 25] ty #[v, .slice (if cap = k then la else la.map (fun a => a.add (k * 2))) (n - k) (cap - k)]).run Tryz.prog w = .ok v' w' ∧ OwnM Bz w' v' (M ++ L.drop k) ∧ Below Bz w w' := by
  have hPl := hs.1
  obtain ⟨hn, ⟨rfl, h0, h1⟩ | ⟨⟨g, cs, rfl, hg⟩, hnc⟩⟩ := rowP_shape hr
  · have hL0 : L = [] := List.eq_nil_of_length_eq_zero (by omega)
    subst hL0
    subst h0
    refine ⟨v, w, ?_, by simpa using hown, Below.refl _ _⟩
    rw [show 0 - k = 0 from by omega, show (if cap = k then none else (none : Option Addr).map (fun a => a.add (k * 2))) = none from by split <;> rfl]
    exact run_append_noneA hown _ ty
  · have hcells := World.ownsRow.cells hr (show (Value.slice (some ⟨g, 0, none⟩) n cap).ownBlock = some g from rfl)
    have hcell : ∀ j u, (cellsP P)[j]? = some u → w.cell? ⟨g, j, none⟩ = some u := fun j u h => by
      have h1 := hcells j u h
      have hadd : (⟨g, 0, none⟩ : Addr).add j = ⟨g, j, none⟩ := by simp [Addr.add]; omega
      rw [hadd] at h1
      exact h1
    have htl : (P.take k).length = k := by rw [List.length_take]; omega
    have hsrc := row_part (w := w) (b := g) (P := P) hcell (P.take k) (P.drop k) [] (by simp)
    have hsay : SaysM w (P.drop k) (L.drop k) := saysM_part (A := P.take k) (C := []) (L := L.take k) (N := []) (by simpa using hs) (by simp [hPl]) (by simp [hPl])
    have hdl : (L.drop k).length = n - k := by rw [List.length_drop]; omega
    obtain ⟨v', w', hrun, ho, hb, _⟩ := run_append_M hown hBz hsay (if cap = k then ⟨g, 0, none⟩ else ⟨g, k * 2, none⟩) (cap - k) (fun j u h => by
      by_cases hkc : cap = k
      · have : P.drop k = [] := List.drop_eq_nil_of_le (by omega)
        rw [this] at h
        simp [cellsP] at h
      · rw [if_neg hkc]
        have := hsrc j u h
        rw [htl] at this
        simpa using this) (by rw [hdl]; omega) ty
    rw [hdl] at hrun
    refine ⟨v', w', ?_, ho, hb⟩
    rw [show (if cap = k then some (⟨g, 0, none⟩ : Addr) else (some (⟨g, 0, none⟩ : Addr)).map (fun a => a.add (k * 2))) = some (if cap = k then ⟨g, 0, none⟩ else ⟨g, k * 2, none⟩) from by split <;> simp [Addr.add] <;> intro h <;> omega]
    exact hrun
theorem three_appends {w wz : World} {TD d NM : ByteArray} {v : Value} {la xa : Option Addr} {sn lc p xc k : Nat} {SL : List AT} {A : List (List UInt8)} (h : NeAt w TD d v (.slice la sn lc) SL wz) (hb : BoxT wz p NM (.slice xa A.length xc)) (hto : IsTo (StrB wz) wz A (.slice xa A.length xc)) (hk : k ≤ sn) (hSL : SL.length ≤ 999) (ty : TypeId) :
    ∃ v15 w15 v16 w16 v17 w17,
      (Builtin.append_ #[25, 25] ty #[.slice (some ⟨wz.heap.size, 0, none⟩) 0 0, .slice la k lc]).run Tryz.prog (wz.alloc (.cells #[] 56)) = .ok v15 w15 ∧
      (Builtin.append_ #[25, 25] ty #[v15, .slice (some ⟨w15.heap.size, 0, none⟩) 1 1]).run Tryz.prog (w15.alloc (.cells #[.string NM, .slice xa A.length xc] 56)) = .ok v16 w16 ∧
      (Builtin.append_ #[25, 25] ty #[v16, .slice (if lc = k then la else la.map (fun a => a.add (k * 2))) (sn - k) (lc - k)]).run Tryz.prog w16 = .ok v17 w17 ∧
      w15.cell? ⟨p, 0, none⟩ = some (.string NM) ∧ w15.cell? ⟨p, 1, none⟩ = some (.slice xa A.length xc) ∧ w16.cell? ⟨w.heap.size + 2, 1, none⟩ = some (.slice la sn lc) ∧ w17.cell? ⟨w.heap.size + 2, 1, none⟩ = some (.slice la sn lc) ∧ w17.frozen? ⟨w.heap.size + 2, 1, none⟩ = false ∧
      NeAt w TD d v v17 (SL.take k ++ (NM.data.toList, A) :: SL.drop k) (w17.setCell ⟨w.heap.size + 2, 1, none⟩ v17) := by
  have hbA : Below wz.heap.size wz (wz.alloc (.cells #[] 56)) := (Below.refl _ _).alloc (Nat.le_refl _) _
  obtain ⟨P, hr, hs⟩ := (h.go hbA).own
  have hPl := hs.1
  obtain ⟨hn, _⟩ := rowP_shape hr
  obtain ⟨v15, w15, r15, ho15, hb15⟩ := run_copy_K (g := wz.heap.size) (Bz := wz.heap.size) (heap_alloc_new wz _) (Nat.le_refl _) (by simp) hr hs (show k ≤ SL.length by omega) (by omega) ty
  have hbz15 : Below wz.heap.size wz w15 := bthen hbA hb15
  have hb2 : Below w15.heap.size w15 (w15.alloc (.cells #[.string NM, .slice xa A.length xc] 56)) := (Below.refl _ _).alloc (Nat.le_refl _) _
  have hbz2 := bthen hbz15 hb2
  have hs2 : SaysM (w15.alloc (.cells #[.string NM, .slice xa A.length xc] 56)) [(NM.data.toList, .slice xa A.length xc)] [(NM.data.toList, A)] := ⟨rfl, fun j hj hj' => by
    have : j = 0 := by simp at hj; omega
    subst this
    exact ⟨rfl, isTo_strB_go hto hbz2⟩⟩
  have htk : (SL.take k).length = k := by rw [List.length_take]; omega
  obtain ⟨v16, w16, r16, ho16, hb16, _⟩ := run_append_M (ownM_below ho15 hb2) hbz2.size hs2 ⟨w15.heap.size, 0, none⟩ 1 (cells_one (heap_alloc_new w15 _)) (by rw [htk]; simp; omega) ty
  have hbz16 := hbz2.trans hb16
  have h16 := h.go hbz16
  obtain ⟨P2, hr2, hs2'⟩ := h16.own
  obtain ⟨v17, w17, r17, ho17, hb17⟩ := run_rest_K ho16 hbz16.size hr2 hs2' hk (by simp only [List.length_append, htk, List.length_cons, List.length_nil]; omega) ty
  have hbz17 := hbz16.trans hb17
  have h17 := h.go hbz17
  have hpz : p < wz.heap.size := (Array.getElem?_eq_some_iff.1 hb).1
  have hb15b : BoxT w15 p NM (.slice xa A.length xc) := (hbz15.block p hpz).trans hb
  have hsz := h.size
  refine ⟨v15, w15, v16, w16, v17, w17, r15, r16, r17, hb15b.cells.1, hb15b.cells.2.1, h16.out.cells.2, h17.out.cells.2, h17.out.free 1, ?_⟩
  exact {
    e1 := by rw [World.cell?_setCell_other _ _ _ _ (by simp <;> omega)]; exact h17.e1
    box := by
      obtain ⟨x0, x1, x2, x3, x4⟩ := h17.box
      refine ⟨?_, ?_, ?_, ?_, ?_⟩
      · rw [World.cell?_setCell_other _ _ _ _ (by simp <;> omega)]; exact x0
      · rw [World.cell?_setCell_other _ _ _ _ (by simp <;> omega)]; exact x1
      · rw [World.cell?_setCell_other _ _ _ _ (by simp <;> omega)]; exact x2
      · rw [World.frozen?_setCell]; exact x3
      · rw [World.frozen?_setCell]; exact x4
    out := boxN_store1 h17.out
    own := by
      have := ownM_entry (i := 1) (x := v17) (ownM_mono ho17 h.size) h17.out (show w.heap.size + 2 < w.heap.size + 3 by omega)
      simpa using this
    bel := h17.bel.setCell (p := ⟨w.heap.size + 2, 1, none⟩) (show w.heap.size ≤ w.heap.size + 2 by omega) _
    size := by have := h17.size; simpa [World.setCell] using this
    res := (set_blk (by omega)).trans h17.res }
end Go.Proofs.YtpnbcmblnplbgaaGreatDoor


namespace Go.Proofs.YtpnbcmblnplbgaaGreatDoor
open Go.RowKit
set_option linter.unusedVariables false
set_option linter.unusedSimpArgs false

def runS (t : List UInt8) (x : AT) : Bool → List AT → List AT
  | d, [] => if d then [] else [x]
  | d, a :: r => if (low a.1 == low t) = true then runS t x d r else if (!d && gtB a.1 x.1) = true then x :: a :: runS t x true r else a :: runS t x d r
def OwnI (n0 B : Nat) (w : World) (v : Value) (L : List AT) : Prop := ∃ P, RowP B w v P ∧ SaysV n0 w P L
theorem ownI_below {n0 B : Nat} {w w' : World} {v : Value} {L : List AT} (h : OwnI n0 B w v L) (hb : Below w.heap.size w w') (hB : n0 ≤ w.heap.size) : OwnI n0 B w' v L := by
  obtain ⟨P, h1, h2⟩ := h
  exact ⟨P, rowP_below h1 hb, saysV_go h2 hb hB⟩
theorem ownI_set {n0 B : Nat} {w : World} {v : Value} {L : List AT} (h : OwnI n0 B w v L) (a : Addr) (x : Value) (ha : a.block < B) (hn : n0 ≤ a.block) : OwnI n0 B (w.setCell a x) v L := by
  obtain ⟨P, hr, hs⟩ := h
  have hblk : ∀ k, k ≠ a.block → (w.setCell a x).heap[k]? = w.heap[k]? := fun k hk => by
    unfold World.setCell
    simp [Array.getElem?_modify, Ne.symm hk]
  exact ⟨P, ⟨hr.1, hr.2.imp id fun ⟨g, cap, cur, e1, hb, hg, rest⟩ => ⟨g, cap, cur, e1, hb, (hblk g (by omega)).trans hg, rest⟩⟩, saysV_go hs ((Below.refl n0 w).setCell (p := a) hn x) (Nat.le_refl _)⟩
structure OutI (n0 eb po : Nat) (d : ByteArray) (v l : Value) (A : List AT) (w wr : World) : Prop where
  e1 : wr.cell? ⟨eb, 1, none⟩ = some v
  o0 : wr.cell? ⟨po, 0, none⟩ = some (.string d)
  o1 : wr.cell? ⟨po, 1, none⟩ = some l
  z1 : wr.frozen? ⟨po, 1, none⟩ = false
  own : OwnI n0 (po + 1) wr l A
  bel : Below n0 w wr
  size : po + 1 ≤ wr.heap.size
  box : BoxE eb d wr
theorem OutI.go {n0 eb po : Nat} {d : ByteArray} {v l : Value} {A : List AT} {w wr W : World} (h : OutI n0 eb po d v l A w wr) (hb : Below wr.heap.size wr W) (he : eb + 1 < po) (hn : n0 ≤ po) : OutI n0 eb po d v l A w W where
  e1 := (hb.cell (p := ⟨eb, 1, none⟩) (show eb < wr.heap.size by have := h.size; omega)).trans h.e1
  o0 := (hb.cell (p := ⟨po, 0, none⟩) (show po < wr.heap.size by have := h.size; omega)).trans h.o0
  o1 := (hb.cell (p := ⟨po, 1, none⟩) (show po < wr.heap.size by have := h.size; omega)).trans h.o1
  z1 := (hb.frozen (p := ⟨po, 1, none⟩) (show po < wr.heap.size by have := h.size; omega)).trans h.z1
  own := ownI_below h.own hb (by have := h.size; omega)
  bel := h.bel.trans (hb.mono (by have := h.size; omega))
  size := Nat.le_trans h.size hb.size
  box := h.box.go hb (by have := h.size; omega)
theorem OutI.put {n0 eb po : Nat} {d : ByteArray} {v l l2 : Value} {A A2 : List AT} {w wr W : World} (h : OutI n0 eb po d v l A w wr) (ho : OwnI n0 (po + 1) W l2 A2) (hb : Below (po + 1) wr W) (he : eb + 1 < po) (hn : n0 ≤ po) : OutI n0 eb po d v l2 A2 w (W.setCell ⟨po, 1, none⟩ l2) := by
  have hz := h.size
  have h0 : W.cell? ⟨po, 1, none⟩ = some l := (hb.cell (p := ⟨po, 1, none⟩) (show po < po + 1 by omega)).trans h.o1
  exact {
    e1 := by rw [World.cell?_setCell_other _ _ _ _ (by simp <;> omega)]; exact (hb.cell (p := ⟨eb, 1, none⟩) (show eb < po + 1 by omega)).trans h.e1
    o0 := by rw [World.cell?_setCell_other _ _ _ _ (by simp)]; exact (hb.cell (p := ⟨po, 0, none⟩) (show po < po + 1 by omega)).trans h.o0
    o1 := World.cell?_setCell_same _ _ _ h0
    z1 := by rw [World.frozen?_setCell]; exact (hb.frozen (p := ⟨po, 1, none⟩) (show po < po + 1 by omega)).trans h.z1
    own := ownI_set ho ⟨po, 1, none⟩ l2 (show po < po + 1 by omega) hn
    bel := (h.bel.trans (hb.mono (by omega))).setCell (p := ⟨po, 1, none⟩) hn l2
    size := by have := hb.size; have : (W.setCell ⟨po, 1, none⟩ l2).heap.size = W.heap.size := by simp [World.setCell]
               omega
    box := by
      obtain ⟨x0, x1, x2, x3, x4⟩ := h.box.go hb (by omega)
      refine ⟨?_, ?_, ?_, ?_, ?_⟩
      · rw [World.cell?_setCell_other _ _ _ _ (by simp <;> omega)]; exact x0
      · rw [World.cell?_setCell_other _ _ _ _ (by simp <;> omega)]; exact x1
      · rw [World.cell?_setCell_other _ _ _ _ (by simp <;> omega)]; exact x2
      · rw [World.frozen?_setCell]; exact x3
      · rw [World.frozen?_setCell]; exact x4 }
def SetI (n0 eb po : Nat) (d : ByteArray) (v : Value) (t : List UInt8) (x : AT) (L R : List AT) (w wr : World) (j : Nat) (q : Bool) : Prop := ∃ A l, A ++ runS t x q (L.drop j) = R ∧ A.length ≤ 2 * j ∧ OutI n0 eb po d v l A w wr
end Go.Proofs.YtpnbcmblnplbgaaGreatDoor


namespace Go.Proofs.YtpnbcmblnplbgaaGreatDoor
open Go.RowKit
set_option linter.unusedVariables false

theorem kinds_mem {n : List UInt8} {k : List UInt8 × Nat} (h : findL n = some k) : k ∈ kindsL := List.mem_of_find?_eq_some h
theorem find_none_ne {n : List UInt8} (h : findL n = none) : ∀ k ∈ kindsL, n ≠ k.1 := by
  intro k hk e
  have := List.find?_eq_none.1 h k hk
  simp [e] at this
theorem ne_str {L : ByteArray} {l : List UInt8} (h : L.data.toList ≠ l) : (L.toList == l) = false := by
  rw [beq_eq_false_iff_ne, ByteArray.toList_eq]; exact h

set_option maxRecDepth 100000 in
set_option maxHeartbeats 4000000 in
theorem ruleRef_any (s : ByteArray) (hs : s.size ≤ 281474976710656) (w : World) : Calls Tryz.prog 56 #[.string s] w fun e w' => e = .returned (.int .i64 (ruleD s.data.toList)) ∧ Below w.heap.size w w' := by
  obtain ⟨L, hL⟩ : ∃ L, L = lowB s := ⟨_, rfl⟩
  have hLl : L.data.toList = low s.data.toList := by rw [hL, lowB_list]
  have hr : ruleD s.data.toList = ruleL L.data.toList := by unfold ruleD; rw [hLl]
  rw [hr]
  have hlo := fun w => lowerRef_any s w hs
  rw [← hL] at hlo
  clear hL hLl hr
  have HLo := Lib.hid hlo
  clear hlo
  cases hf : findL L.data.toList with
  | some k =>
    have hm := kinds_mem hf
    have he := (findL_len hf).1
    have hru : ruleL L.data.toList = k.2 := by unfold ruleL; rw [hf]
    rw [hru]
    clear hru hf
    have hLk : L = ⟨k.1.toArray⟩ := bytes_ext (by rw [← he])
    clear he
    subst hLk
    simp only [kindsL, List.mem_cons, List.not_mem_nil, or_false] at hm
    rcases hm with rfl | rfl | rfl | rfl | rfl | rfl | rfl | rfl | rfl | rfl | rfl
    all_goals
      go_enter Tryz.func56, Tryz.ntmps56
      go_wp2_with (go_at_call 34; refine (HLo.out _).mono ?_; rintro e w1 ⟨rfl, hb1⟩; have HB := Lib.hid hb1; clear hb1)
      go_ret
      exact ⟨rfl, HB.out⟩
  | none =>
    have hru : ruleL L.data.toList = 0 := by unfold ruleL; rw [hf]
    rw [hru]
    have hne := find_none_ne hf
    clear hru hf
    have q0 := ne_str (hne ([111, 98, 106, 101, 99, 116, 99, 108, 97, 115, 115], 1) (by simp [kindsL]))
    have q1 := ne_str (hne ([99, 110], 1) (by simp [kindsL]))
    have q2 := ne_str (hne ([115, 110], 1) (by simp [kindsL]))
    have q3 := ne_str (hne ([111], 1) (by simp [kindsL]))
    have q4 := ne_str (hne ([111, 117], 1) (by simp [kindsL]))
    have q5 := ne_str (hne ([117, 105, 100], 1) (by simp [kindsL]))
    have q6 := ne_str (hne ([109, 97, 105, 108], 1) (by simp [kindsL]))
    have q7 := ne_str (hne ([100, 101, 115, 99, 114, 105, 112, 116, 105, 111, 110], 1) (by simp [kindsL]))
    have q8 := ne_str (hne ([117, 105, 100, 110, 117, 109, 98, 101, 114], 2) (by simp [kindsL]))
    have q9 := ne_str (hne ([109, 101, 109, 98, 101, 114], 3) (by simp [kindsL]))
    have q10 := ne_str (hne ([117, 115, 101, 114, 112, 97, 115, 115, 119, 111, 114, 100], 4) (by simp [kindsL]))
    clear hne
    go_enter Tryz.func56, Tryz.ntmps56
    go_wp2_with (go_at_call 34; refine (HLo.out _).mono ?_; rintro e w1 ⟨rfl, hb1⟩; have HB := Lib.hid hb1; clear hb1)
    go_ret
    exact ⟨rfl, HB.out⟩

def BoxS (w : World) (b : Nat) (x : ByteArray) (ok : Bool) : Prop := w.heap[b]? = some (.cells #[.string x, .bool ok] 60 (0, 0))
theorem BoxS.below {w w' : World} {b n : Nat} {x : ByteArray} {ok : Bool} (h : BoxS w b x ok) (hb : Below n w w') (hn : b < n) : BoxS w' b x ok := (hb.block b hn).trans h
theorem BoxS.cells {w : World} {b : Nat} {x : ByteArray} {ok : Bool} (h : BoxS w b x ok) : w.cell? ⟨b, 0, none⟩ = some (.string x) ∧ w.cell? ⟨b, 1, none⟩ = some (.bool ok) ∧ w.frozen? ⟨b, 0, none⟩ = false ∧ w.frozen? ⟨b, 1, none⟩ = false := by
  unfold BoxS at h
  simp [World.cell?, World.frozen?, h]
theorem boxS_new (w : World) (x : ByteArray) (ok : Bool) : BoxS (w.alloc (.cells #[.string x, .bool ok] 60)) w.heap.size x ok := heap_alloc_new w _
theorem BoxS.store {w : World} {b : Nat} {x : ByteArray} {ok : Bool} (h : BoxS w b x ok) (x' : ByteArray) (ok' : Bool) : BoxS ((w.setCell ⟨b, 0, none⟩ (.string x')).setCell ⟨b, 1, none⟩ (.bool ok')) b x' ok' := by
  unfold BoxS at h ⊢
  simp [World.setCell, Array.getElem?_modify, h]

def saidR (o : Option (List UInt8)) : Value := match o with
  | some k => .agg #[.string ⟨k.toArray⟩, .bool true]
  | none => .agg #[.string ⟨#[]⟩, .bool false]

set_option maxRecDepth 100000 in
set_option maxHeartbeats 4000000 in
theorem canonRef_any (s : ByteArray) (hs : s.size ≤ 281474976710656) (w : World) : Calls Tryz.prog 33 #[.string s] w fun e w' => e = .returned (saidR (canonD s.data.toList)) ∧ Below w.heap.size w w' := by
  obtain ⟨L, hL⟩ : ∃ L, L = lowB s := ⟨_, rfl⟩
  have hLl : L.data.toList = low s.data.toList := by rw [hL, lowB_list]
  have hLs : L.size ≤ 281474976710656 := by rw [hL, lowB_size]; exact hs
  have hru := fun w => ruleRef_any L hLs w
  have hlo := fun w => lowerRef_any s w hs
  rw [← hL] at hlo
  have hr : ruleD L.data.toList = ruleD s.data.toList := by rw [hLl, ruleD_low]
  simp only [hr] at hru
  have HR := Lib.hid hru
  have HLo := Lib.hid hlo
  clear hlo hru hr
  have HBox := Lib.hid (boxS_new w ⟨#[]⟩ false)
  cases hc : canonD s.data.toList with
  | none =>
    have h0 := (canon_rule _).1 hc
    rw [h0] at HR
    clear h0 hc hL hLl
    go_enter Tryz.func33, Tryz.ntmps33
    go_wp2_with (first | (go_at_call 34; refine (HLo.out _).mono ?_; rintro e w1 ⟨rfl, hb1⟩; have HB := Lib.hid (((Below.refl _ _).alloc (Nat.le_refl _) _).trans (hb1.mono (by simp))); have HX := Lib.hid (HBox.out.below hb1 (by simp)); have hz1 : w.heap.size < w1.heap.size := (by have := hb1.size; simp at this; omega); clear hb1) | (go_at_call 56; refine (HR.out _).mono ?_; rintro e w2 ⟨rfl, hb2⟩; have HB := Lib.hid (bthen HB.out hb2); have HX := Lib.hid (HX.out.below hb2 hz1); obtain ⟨k0, k1, l0, l1⟩ := HX.out.cells; clear hb2))
    obtain ⟨q0, q1, _, _⟩ := (HX.out.store ⟨#[]⟩ false).cells
    refine bodyPost_ret (v := .agg #[.string ⟨#[]⟩, .bool false]) (by simp [results, Tryz.results33, go_sem, q0, q1]) rfl ⟨rfl, ?_⟩
    exact (HB.out.setCell (Nat.le_refl _) _).setCell (Nat.le_refl _) _
  | some k =>
    obtain ⟨e1, e2, _⟩ := canon_eq hc
    have hr1 : ((ruleD s.data.toList : Nat) : Int) ≠ 0 := by omega
    have t0 : (((ruleD s.data.toList : Nat) : Int) == 0) = false := by simpa using hr1
    have hv : saidR (some k) = .agg #[.string L, .bool true] := by rw [e1, ← hLl]; simp [saidR]
    have HV := Lib.hid hv
    generalize ruleD s.data.toList = r at *
    clear hc e1 e2 hr1 hv hL hLl
    go_enter Tryz.func33, Tryz.ntmps33
    go_wp2_with (first | (go_at_call 34; refine (HLo.out _).mono ?_; rintro e w1 ⟨rfl, hb1⟩; have HB := Lib.hid (((Below.refl _ _).alloc (Nat.le_refl _) _).trans (hb1.mono (by simp))); have HX := Lib.hid (HBox.out.below hb1 (by simp)); have hz1 : w.heap.size < w1.heap.size := (by have := hb1.size; simp at this; omega); clear hb1) | (go_at_call 56; refine (HR.out _).mono ?_; rintro e w2 ⟨rfl, hb2⟩; have HB := Lib.hid (bthen HB.out hb2); have HX := Lib.hid (HX.out.below hb2 hz1); obtain ⟨k0, k1, l0, l1⟩ := HX.out.cells; clear hb2))
    obtain ⟨q0, q1, _, _⟩ := (HX.out.store L true).cells
    refine bodyPost_ret (v := .agg #[.string L, .bool true]) (by simp [results, Tryz.results33, go_sem, q0, q1]) rfl ⟨by rw [HV.out], ?_⟩
    exact (HB.out.setCell (Nat.le_refl _) _).setCell (Nat.le_refl _) _
end Go.Proofs.YtpnbcmblnplbgaaGreatDoor


namespace Go.Proofs.YtpnbcmblnplbgaaGreatDoor
open Go.RowKit
set_option linter.unusedVariables false
set_option linter.unusedSimpArgs false

theorem canon_forms (t : List UInt8) : (∃ S : ByteArray, canonD t = some S.data.toList ∧ saidR (canonD t) = .agg #[.string S, .bool true] ∧ nameA t = S.data.toList) ∨ (canonD t = none ∧ saidR (canonD t) = .agg #[.string ⟨#[]⟩, .bool false] ∧ nameA t = t) := by
  cases h : canonD t with
  | none => exact .inr ⟨rfl, by rfl, by unfold nameA; rw [h]; rfl⟩
  | some s => exact .inl ⟨⟨s.toArray⟩, rfl, by rfl, by unfold nameA; rw [h]; rfl⟩

end Go.Proofs.YtpnbcmblnplbgaaGreatDoor

