/- Several texts in one file: EnSame, EnSameW, EnSameR, RegDet, EnSrtW, EnNrmW, TrAsk, TrSame, TrMay. -/
import Derived.Test.YtpnbcmblnplbgaaGreatDoorChgP1
import Derived.Test.YtpnbcmblnplbgaaGreatDoorChgP5
import Derived.RowKit
import Derived.Laws.OwnMore
import Derived.RegionTactic
import Derived.Deep.Cut
import Derived.Deep.RegionLaw
import Derived.Test.YtpnbcmblnplbgaaGreatDoorChgP4
import Derived.Test.YtpnbcmblnplbgaaGreatDoorChgP6
namespace Go.Proofs.YtpnbcmblnplbgaaGreatDoor
open Go.RowKit
set_option linter.unusedVariables false

set_option maxRecDepth 100000 in
set_option maxHeartbeats 2000000 in
theorem textsRef_q (L M : List (List UInt8)) (hs : L.length ≤ 1000000) (v u : Value) (w : World) (hL : IsT w.heap.size w L v) (hM : IsT w.heap.size w M u) :
    Calls Tryz.prog 48 #[v, u] w fun e w' => e = .returned (.bool (L == M)) ∧ ∃ m, w' = w.drewN m := by
  obtain ⟨a, c, rfl, hm, hcell⟩ := hL
  obtain ⟨b, d, rfl, hm2, hcell2⟩ := hM
  unfold maxLen at hm hm2
  have HC := Lib.hid hcell
  have HD := Lib.hid hcell2
  obtain ⟨R, hR⟩ : ∃ R, R = (L == M) := ⟨_, rfl⟩
  rw [← hR]
  have HR := Lib.hid hR
  clear hcell hcell2 hR
  by_cases hlen : L.length = M.length
  · have t0 : ((L.length : Int) != (M.length : Int)) = false := by simp [hlen]
    have t0' : ((M.length : Int) != (M.length : Int)) = false := by simp
    obtain ⟨n, hn⟩ : ∃ n, n = L.length := ⟨_, rfl⟩
    have hn2 : n = M.length := hn.trans hlen
    have HN := Lib.hid hn
    have HN2 := Lib.hid hn2
    have hn5 : n ≤ 1000000 := by omega
    rw [← hn, ← hn2]
    clear t0 t0' hlen hn hn2 hm hm2 hs
    go_enter Tryz.func48, Tryz.ntmps48
    go_wp2
    go_loopw [5] (fun i wr => ∃ j : Nat, j ≤ n ∧ i = .int .i64 j ∧ Hid (∀ k (h1 : k < L.length) (h2 : k < M.length), k < j → L[k] = M[k]) ∧ ∃ q, wr = w.drewN q) (fun i wr => n - (intOf i).toNat)
    case atStart => exact ⟨0, by omega, rfl, Lib.hid (fun k _ _ h => absurd h (by omega)), 0, rfl⟩
    case round =>
      obtain ⟨j, hj, rfl, HAll, q, rfl⟩ := hrel
      by_cases hlt : j < n
      · have t1 : decide ((j : Int) < (n : Int)) = true := by simp; omega
        have t1' : decide (j < n) = true := by simpa using hlt
        have q1 : (j : Int) < (n : Int) := by omega
        have hl1 : j < L.length := by rw [← HN.out]; exact hlt
        have hl2 : j < M.length := by rw [← HN2.out]; exact hlt
        obtain ⟨b1, f1, rfl, hb1, x0⟩ := HC.out j hl1
        obtain ⟨b2, f2, rfl, hb2, y0⟩ := HD.out j hl2
        obtain ⟨X, hX⟩ : ∃ X : ByteArray, ofL L[j] = X := ⟨_, rfl⟩
        obtain ⟨Y, hY⟩ : ∃ Y : ByteArray, ofL M[j] = Y := ⟨_, rfl⟩
        have gX : X.data.toList = L[j] := by rw [← hX, ofL_list]
        have gY : Y.data.toList = M[j] := by rw [← hY, ofL_list]
        have d0 : w.cell? ⟨b1, f1 + j, none⟩ = some (.string X) := by rw [x0, ← hX]; rfl
        have d1 : w.cell? ⟨b2, f2 + j, none⟩ = some (.string Y) := by rw [y0, ← hY]; rfl
        have GX := Lib.hid gX
        have GY := Lib.hid gY
        clear x0 y0 hX hY gX gY
        by_cases he : X = Y
        · subst he
          have HN1 : Hid (∀ k (h1 : k < L.length) (h2 : k < M.length), k < j + 1 → L[k] = M[k]) := Lib.hid (fun k h1 h2 h3 => by
            by_cases hk : k < j
            · exact HAll.out k h1 h2 hk
            · obtain rfl : k = j := by omega
              rw [← GX.out, ← GY.out])
          clear GX GY hl1 hl2
          go_wp2
          go_quiet (fail)
          go_wp2
          go_roundw
          case rel => exact ⟨j + 1, by omega, by go_num, HN1, _, rfl⟩
          case measure => simp [intOf]; omega
        · have t2 := str_ne he
          have HF : Hid (R = false) := Lib.hid (HR.out.trans (by
            have : L ≠ M := fun e => by
              subst e
              exact he (bytes_ext (by rw [GX.out, GY.out]))
            simpa using this))
          clear GX GY he hl1 hl2
          go_wp2
          go_quiet (fail)
          go_wp2
          go_ret
          exact ⟨by rw [HF.out]; rfl, _, World.drewN_drewN ..⟩
      · obtain rfl : j = n := by omega
        have t1 : decide ((j : Int) < (j : Int)) = false := by simp
        have t1' : decide (j < j) = false := by simp
        have HF : Hid (R = true) := Lib.hid (HR.out.trans (by
          have : L = M := List.ext_getElem (by rw [← HN.out, ← HN2.out]) (fun k h1 h2 => HAll.out k h1 h2 (by rw [HN.out]; exact h1))
          simp [this]))
        go_wp2
        go_ret
        exact ⟨by rw [HF.out]; rfl, _, rfl⟩
  · have t0 : ((L.length : Int) != (M.length : Int)) = true := by simp; omega
    have HF : Hid (R = false) := Lib.hid (HR.out.trans (by
      have : L ≠ M := fun e => hlen (by rw [e])
      simpa using this))
    clear hlen
    go_enter Tryz.func48, Tryz.ntmps48
    go_wp2
    go_ret
    exact ⟨by rw [HF.out]; rfl, 0, rfl⟩

end Go.Proofs.YtpnbcmblnplbgaaGreatDoor


namespace Go.Proofs.YtpnbcmblnplbgaaGreatDoor
open Go.RowKit
set_option linter.unusedVariables false

theorem IsT.sl {n : Nat} {w : World} {L : List (List UInt8)} {v : Value} (h : IsT n w L v) : ∃ a k c, v = .slice a k c := by
  obtain ⟨a, c, hv, _⟩ := h; exact ⟨a, _, c, hv⟩
theorem IsA.sl {n : Nat} {w : World} {L : List AT} {v : Value} (h : IsA n w L v) : ∃ a k c, v = .slice a k c := by
  obtain ⟨a, c, hv, _⟩ := h; exact ⟨a, _, c, hv⟩
end Go.Proofs.YtpnbcmblnplbgaaGreatDoor


namespace Go.Proofs.YtpnbcmblnplbgaaGreatDoor
open Go.RowKit
set_option linter.unusedVariables false

theorem boxes2 (w : World) (d e : ByteArray) (x y : Value) : ((w.alloc (.cells #[.string d, x] 27)).alloc (.cells #[.string e, y] 27)).cell? ⟨w.heap.size, 0, none⟩ = some (.string d) ∧ ((w.alloc (.cells #[.string d, x] 27)).alloc (.cells #[.string e, y] 27)).cell? ⟨w.heap.size, 1, none⟩ = some x ∧
    ((w.alloc (.cells #[.string d, x] 27)).alloc (.cells #[.string e, y] 27)).cell? ⟨w.heap.size + 1, 0, none⟩ = some (.string e) ∧ ((w.alloc (.cells #[.string d, x] 27)).alloc (.cells #[.string e, y] 27)).cell? ⟨w.heap.size + 1, 1, none⟩ = some y := by
  refine ⟨?_, ?_, ?_, ?_⟩
  · rw [World.cell?_alloc_lt _ _ _ (by simp)]; simp
  · rw [World.cell?_alloc_lt _ _ _ (by simp)]; simp
  · simp
  · simp

set_option maxRecDepth 100000 in
set_option maxHeartbeats 8000000 in
theorem sameRef_entry (d e : ByteArray) (L M : List AT) (hs : smallA L) (v u : Value) (w : World) (hL : IsA w.heap.size w L v) (hM : IsA w.heap.size w M u) :
    Calls Tryz.prog 26 #[.agg #[.string d, v], .agg #[.string e, u]] w fun r w' => r = .returned (.bool ((d.data.toList, L) == (e.data.toList, M))) ∧ Below w.heap.size w w' := by
  obtain ⟨ua, uc, hu, hum, _⟩ := id hL
  obtain ⟨va, vc, hv, hvm, _⟩ := id hM
  obtain ⟨un, hun⟩ : ∃ n, n = L.length := ⟨_, rfl⟩
  obtain ⟨vn, hvn⟩ : ∃ n, n = M.length := ⟨_, rfl⟩
  rw [← hun] at hu hum
  rw [← hvn] at hv hvm
  unfold maxLen at hum hvm
  subst hu hv
  have hb : Below w.heap.size w ((w.alloc (.cells #[.string d, .slice ua un uc] 27)).alloc (.cells #[.string e, .slice va vn vc] 27)) := ((Below.refl _ _).alloc (Nat.le_refl _) _).alloc (by simp) _
  have HB := Lib.hid hb
  have hLW := hL.below hb hb.size
  have hMW := hM.below hb hb.size
  obtain ⟨R, hR⟩ : ∃ R, R = ((d.data.toList, L) == (e.data.toList, M)) := ⟨_, rfl⟩
  rw [← hR]
  have HR := Lib.hid hR
  obtain ⟨b0, b1, b2, b3⟩ := boxes2 w d e (.slice ua un uc) (.slice va vn vc)
  have HS := Lib.hid hs
  have hn5 : un ≤ 1000000 := by have := hs.1; omega
  have HUn := Lib.hid hun
  have HVn := Lib.hid hvn
  have HL := Lib.hid hLW
  have HM := Lib.hid hMW
  clear hb hL hM hR hs hun hvn hLW hMW
  by_cases he : d ≠ e
  · have t1 := str_ne he
    have HF : Hid (R = false) := Lib.hid (HR.out.trans (by
      show (d.data.toList == e.data.toList && L == M) = false
      have : (d.data.toList == e.data.toList) = false := by
        have : d.data.toList ≠ e.data.toList := fun x => he (bytes_ext x)
        simpa using this
      rw [this]; rfl))
    clear he
    go_enter Tryz.func26, Tryz.ntmps26
    go_wp2
    go_ret
    exact ⟨by rw [HF.out]; rfl, HB.out⟩
  have he := Classical.not_not.1 he
  subst he
  by_cases hlen : un ≠ vn
  · have t0 : ((un : Int) != (vn : Int)) = true := by simp; omega
    have HF : Hid (R = false) := Lib.hid (HR.out.trans (by
      have : L ≠ M := fun x => hlen (by rw [HUn.out, HVn.out, x])
      have h2 : (L == M) = false := by simpa using this
      show (d.data.toList == d.data.toList && L == M) = false
      rw [h2]; simp))
    clear hlen
    go_enter Tryz.func26, Tryz.ntmps26
    go_wp2
    go_ret
    exact ⟨by rw [HF.out]; rfl, HB.out⟩
  have hlen := Classical.not_not.1 hlen
  subst hlen
  have HR2 : Hid (R = (L == M)) := Lib.hid (HR.out.trans (by show (d.data.toList == d.data.toList && L == M) = _; simp))
  clear HR
  go_enter Tryz.func26, Tryz.ntmps26
  go_wp2
  generalize ((w.alloc (.cells #[.string d, .slice ua un uc] 27)).alloc (.cells #[.string d, .slice va un vc] 27)) = W at b0 b1 b2 b3 HB HL HM ⊢
  go_loopw [5] (fun i wr => ∃ j : Nat, j ≤ un ∧ i = .int .i64 j ∧ Hid (∀ k (h1 : k < L.length) (h2 : k < M.length), k < j → L[k] = M[k]) ∧ ∃ q, wr = W.drewN q) (fun i wr => un - (intOf i).toNat)
  case atStart => exact ⟨0, by omega, rfl, Lib.hid (fun k _ _ h => absurd h (by omega)), 0, rfl⟩
  case round =>
    obtain ⟨j, hj, rfl, HAll, hq⟩ := hrel
    have HQ := Lib.hid hq
    have hcl : ∀ b o, wr.cell? ⟨b, o, none⟩ = W.cell? ⟨b, o, none⟩ := fun b o => by obtain ⟨q, rfl⟩ := hq; rfl
    have c0 := (hcl _ _).trans b0
    have c1 := (hcl _ _).trans b1
    have c2 := (hcl _ _).trans b2
    have c3 := (hcl _ _).trans b3
    have HLr : Hid (IsA wr.heap.size wr L (.slice ua un uc)) := Lib.hid (by obtain ⟨q, rfl⟩ := hq; exact HL.out)
    have HMr : Hid (IsA wr.heap.size wr M (.slice va un vc)) := Lib.hid (by obtain ⟨q, rfl⟩ := hq; exact HM.out)
    have HBr : Hid (Below w.heap.size w wr) := Lib.hid (by obtain ⟨q, rfl⟩ := hq; exact below_drewN HB.out _)
    clear hcl hq b0 b1 b2 b3
    by_cases hlt : j < un
    · have t1 : decide ((j : Int) < (un : Int)) = true := by simp; omega
      have t1' : decide (j < un) = true := by simpa using hlt
      have q1 : (j : Int) < (un : Int) := by omega
      have hl1 : j < L.length := by rw [← HUn.out]; exact hlt
      have hl2 : j < M.length := by rw [← HVn.out]; exact hlt
      obtain ⟨xa0, xc0, hxe, _, hxc⟩ := HLr.out
      obtain ⟨ya0, yc0, hye, _, hyc⟩ := HMr.out
      obtain ⟨g1, f1, x, hxa, hb1, x0, x1, hx⟩ := hxc j hl1
      obtain ⟨g2, f2, y, hya, hb2, y0, y1, hy⟩ := hyc j hl2
      simp only [Value.slice.injEq] at hxe hye
      obtain ⟨hxe1, hxe2, hxe3⟩ := hxe
      obtain ⟨hye1, hye2, hye3⟩ := hye
      clear hxe2 hye2 hxe3 hye3 hxc hyc
      subst hxe1 hye1
      subst hxa hya
      obtain ⟨xa, xn, xc, rfl⟩ := hx.sl
      obtain ⟨ya, yn, yc, rfl⟩ := hy.sl
      obtain ⟨X, hX⟩ : ∃ X : ByteArray, ofL L[j].1 = X := ⟨_, rfl⟩
      obtain ⟨Y, hY⟩ : ∃ Y : ByteArray, ofL M[j].1 = Y := ⟨_, rfl⟩
      have gX : X.data.toList = L[j].1 := by rw [← hX, ofL_list]
      have gY : Y.data.toList = M[j].1 := by rw [← hY, ofL_list]
      have d0 : wr.cell? ⟨g1, f1 + j * 2, none⟩ = some (.string X) := by rw [x0, ← hX]; rfl
      have e0 : wr.cell? ⟨g2, f2 + j * 2, none⟩ = some (.string Y) := by rw [y0, ← hY]; rfl
      by_cases he : X = Y
      · have hT := fun n => textsRef_q L[j].2 M[j].2 (by have := (HS.out.2 L[j] (List.getElem_mem _)).2.1; omega) (.slice xa xn xc) (.slice ya yn yc) (wr.drewN n) hx hy
        obtain ⟨g, hg⟩ : ∃ g, g = (L[j].2 == M[j].2) := ⟨_, rfl⟩
        rw [← hg] at hT
        have HT := Lib.hid hT
        have hgl : g = (L[j] == M[j]) := by
          rw [hg]
          show _ = (L[j].1 == M[j].1 && L[j].2 == M[j].2)
          rw [← gX, ← gY, he]; simp
        cases g with
        | true =>
          have heq : L[j] = M[j] := by simpa using hgl.symm
          have HN1 : Hid (∀ k (h1 : k < L.length) (h2 : k < M.length), k < j + 1 → L[k] = M[k]) := Lib.hid (fun k h1 h2 h3 => by
            by_cases hk : k < j
            · exact HAll.out k h1 h2 hk
            · obtain rfl : k = j := by omega
              exact heq)
          clear heq hgl hg hT x0 y0 hX hY gX gY hx hy hl1 hl2
          subst he
          go_wp2
          go_quiet ((go_at_call 48; refine Calls.quiet_of (HT.out _)))
          go_wp2
          go_roundw
          case rel => exact ⟨j + 1, by omega, by go_num, HN1, by obtain ⟨q, hq⟩ := HQ.out; exact ⟨_, by rw [hq]; exact World.drewN_drewN ..⟩⟩
          case measure => simp [intOf]; omega
        | false =>
          have hne : L[j] ≠ M[j] := by simpa using hgl.symm
          have HF : Hid (R = false) := Lib.hid (HR2.out.trans (by
            have : L ≠ M := fun e => by subst e; exact hne rfl
            simpa using this))
          clear hne hgl hg hT x0 y0 hX hY gX gY hx hy hl1 hl2
          subst he
          go_wp2
          go_quiet ((go_at_call 48; refine Calls.quiet_of (HT.out _)))
          go_wp2
          go_ret
          exact ⟨by rw [HF.out]; rfl, below_drewN HBr.out _⟩
      · have t2 := str_ne he
        have HF : Hid (R = false) := Lib.hid (HR2.out.trans (by
          have : L ≠ M := fun x => by subst x; exact he (bytes_ext (by rw [gX, gY]))
          simpa using this))
        clear x0 y0 hX hY gX gY hx hy hl1 hl2 he
        go_wp2
        go_quiet (fail)
        go_wp2
        go_ret
        exact ⟨by rw [HF.out]; rfl, below_drewN HBr.out _⟩
    · obtain rfl : j = un := by omega
      have t1 : decide ((j : Int) < (j : Int)) = false := by simp
      have t1' : decide (j < j) = false := by simp
      have HF : Hid (R = true) := Lib.hid (HR2.out.trans (by
        have : L = M := List.ext_getElem (by rw [← HUn.out, ← HVn.out]) (fun k h1 h2 => HAll.out k h1 h2 (by rw [HUn.out]; exact h1))
        simp [this]))
      go_wp2
      go_ret
      exact ⟨by rw [HF.out]; rfl, HBr.out⟩
end Go.Proofs.YtpnbcmblnplbgaaGreatDoor


namespace Go.Proofs.YtpnbcmblnplbgaaGreatDoor
set_option linter.unusedVariables false
set_option linter.unusedSimpArgs false

section
variable {P : Program} {ops : Array Oper} {Q : Exit → Act → World → Prop} {S : World → Prop}

def Det (P : Program) (ops : Array Oper) (S : World → Prop) (o : Oper) (v : Value) (a : Act) : Prop :=
  (Region.wanted o (yielded ops a.tmps) = true ∧ ∀ w, S w → (execOp a.eval o).run P w = .ok (.value v) w ∨
    ∃ f args, (execOp a.eval o).run P w = .ok (.enter f args) w ∧ Calls P f args w fun e w' => e = .returned v ∧ S w') ∨
  (Region.wanted o (yielded ops a.tmps) = false ∧ v = undef)

theorem Det.wpOp {i : Nat} {o : Oper} {v : Value} {a : Act} {w : World} {K : Act → World → Prop} (hi : ops[i]? = some o) (hd : Det P ops S o v a) (hS : S w) (hk : ∀ w', S w' → K (a.put o.dst v) w') : wpOp P ops Q i K a w := by
  unfold Go.wpOp
  simp only [hi]
  rcases hd with ⟨hw, hv⟩ | ⟨hw, rfl⟩
  · simp only [hw, if_true]
    refine .inl ?_
    unfold Oper.wp
    rcases hv w hS with h | ⟨f, args, h, hc⟩
    · rw [h]
      exact hk w hS
    · rw [h]
      exact Calls.mono hc fun e w' he => by
        obtain ⟨rfl, h⟩ := he
        exact hk w' h
  · simp only [hw, Bool.false_eq_true, if_false]
    exact hk w hS

def hasOn (o : Oper) (i : Nat) : Bool := o.after.any fun e => Region.binds .any e && decide (e.on = i)
def detOk (ops : Array Oper) (n : Nat) : Bool := (List.range ops.size).all fun i => match ops[i]? with
  | none => true
  | some o => (o.after.all fun e => decide (e.on < i)) && (match o.op with | .select _ _ => false | _ => true) && (match o.dst with
      | none => true
      | some d => decide (d < n) && (List.range ops.size).all fun j => match ops[j]? with
        | none => true
        | some o' => decide (i = j) || (decide (o'.dst ≠ some d) && (!(o'.looksAt ops).contains d || (if i < j then hasOn o' i else hasOn o j))))

structure DetOk (ops : Array Oper) (n : Nat) : Prop where
  back : ∀ (i : Nat) (o : Oper), ops[i]? = some o → ∀ e ∈ o.after, e.on < i
  sel : ∀ (i : Nat) (o : Oper), ops[i]? = some o → ∀ cs b, o.op ≠ .select cs b
  inn : ∀ (i : Nat) (o : Oper) (d : Tmp), ops[i]? = some o → o.dst = some d → d < n
  one : ∀ (i j : Nat) (o o' : Oper) (d : Tmp), ops[i]? = some o → ops[j]? = some o' → o.dst = some d → o'.dst = some d → i = j
  looks : ∀ (i j : Nat) (o o' : Oper) (d : Tmp), ops[i]? = some o → ops[j]? = some o' → o.dst = some d → d ∈ o'.looksAt ops → i ≠ j → (if i < j then hasOn o' i else hasOn o j) = true

theorem detOk_at {n : Nat} (h : detOk ops n = true) : DetOk ops n := by
  have key : ∀ (i : Nat) (o : Oper), ops[i]? = some o → (o.after.all fun e => decide (e.on < i)) = true ∧ (match o.op with | .select _ _ => false | _ => true) = true ∧ ∀ d, o.dst = some d → d < n ∧ ∀ (j : Nat) (o' : Oper), ops[j]? = some o' → i ≠ j → o'.dst ≠ some d ∧ (d ∈ o'.looksAt ops → (if i < j then hasOn o' i else hasOn o j) = true) := by
    intro i o ho
    have hi : i < ops.size := (Array.getElem?_eq_some_iff.1 ho).1
    have h1 := List.all_eq_true.1 h i (List.mem_range.2 hi)
    rw [ho] at h1
    simp only [Bool.and_eq_true] at h1
    obtain ⟨⟨ha, hs⟩, hb⟩ := h1
    refine ⟨ha, hs, fun d hd => ?_⟩
    rw [hd] at hb
    simp only [Bool.and_eq_true, decide_eq_true_eq] at hb
    refine ⟨hb.1, fun j o' ho' hne => ?_⟩
    have h2 := List.all_eq_true.1 hb.2 j (List.mem_range.2 (Array.getElem?_eq_some_iff.1 ho').1)
    rw [ho'] at h2
    simp only [Bool.or_eq_true, Bool.and_eq_true, decide_eq_true_eq, Bool.not_eq_true'] at h2
    rcases h2 with h2 | ⟨h2, h3⟩
    · exact absurd h2 hne
    · refine ⟨h2, fun hm => ?_⟩
      rcases h3 with h3 | h3
      · have : (o'.looksAt ops).contains d = true := by simpa using hm
        rw [this] at h3
        cases h3
      · exact h3
  refine ⟨fun i o ho e he => ?_, fun i o ho cs b hc => ?_, fun i o d ho hd => ((key i o ho).2.2 d hd).1, fun i j o o' d ho ho' hd hd' => ?_, fun i j o o' d ho ho' hd hm hne => (((key i o ho).2.2 d hd).2 j o' ho' hne).2 hm⟩
  · have := Array.all_eq_true_iff_forall_mem.1 (key i o ho).1 e he
    simpa using this
  · have := (key i o ho).2.1
    rw [hc] at this
    cases this
  · rcases Nat.decEq i j with hne | heq
    · exact absurd hd' (((key i o ho).2.2 d hd).2 j o' ho' hne).1
    · exact heq

structure FrameAt (ops : Array Oper) (vs : List Value) (a0 : Act) (L : Nat → Prop) (a : Act) : Prop where
  defers : a.defers = a0.defers
  slots : a.tmps.size = a0.tmps.size
  come : ∀ (i : Nat) (o : Oper) (d : Tmp), ops[i]? = some o → o.dst = some d → L i → a.tmps[d]? = vs[i]?
  rest : ∀ t, (∀ (i : Nat) (o : Oper), ops[i]? = some o → o.dst = some t → ¬ L i) → a.tmps[t]? = a0.tmps[t]?

theorem FrameAt.put {vs : List Value} {a0 a : Act} {L : Nat → Prop} {n : Nat} (hn : n = a0.tmps.size) (hok : DetOk ops n) (h : FrameAt ops vs a0 L a) {i : Nat} {o : Oper} {v : Value} (ho : ops[i]? = some o) (hv : vs[i]? = some v) :
    FrameAt ops vs a0 (fun j => L j ∨ j = i) (a.put o.dst v) := by
  subst hn
  cases hd : o.dst with
  | none =>
    refine ⟨h.defers, h.slots, fun j o' d ho' hd' hl => ?_, fun t ht => h.rest t fun j o' ho' hd' hl => ht j o' ho' hd' (.inl hl)⟩
    rcases hl with hl | rfl
    · exact h.come j o' d ho' hd' hl
    · rw [ho] at ho'; cases ho'
      rw [hd] at hd'; cases hd'
  | some d =>
    have hdl := hok.inn i o d ho hd
    refine ⟨h.defers, by simp [Act.put, h.slots], fun j o' d' ho' hd' hl => ?_, fun t ht => ?_⟩
    · by_cases hji : j = i
      · subst hji
        rw [ho] at ho'; cases ho'
        rw [hd] at hd'; cases hd'
        have : d < a.tmps.size := by rw [h.slots]; exact hdl
        simp [Act.put, this, hv]
      · have hl' : L j := hl.resolve_right hji
        have hne : d ≠ d' := fun e => hji (hok.one j i o' o d' ho' ho hd' (by rw [hd, e]))
        simp only [Act.put]
        rw [Array.getElem?_setIfInBounds_ne hne]
        exact h.come j o' d' ho' hd' hl'
    · have hne : d ≠ t := fun e => ht i o ho (by rw [hd, e]) (.inr rfl)
      simp only [Act.put]
      rw [Array.getElem?_setIfInBounds_ne hne]
      exact h.rest t fun j o' ho' hd' hl => ht j o' ho' hd' (.inl hl)

theorem FrameAt.same {vs : List Value} {a0 a a' : Act} {L L' : Nat → Prop} {n : Nat} (hok : DetOk ops n) (h : FrameAt ops vs a0 L a) (h' : FrameAt ops vs a0 L' a') {t : Tmp}
    (ht : ∀ (i : Nat) (o : Oper), ops[i]? = some o → o.dst = some t → (L i ↔ L' i)) : a.tmps[t]? = a'.tmps[t]? := by
  by_cases hx : ∃ (i : Nat) (o : Oper), ops[i]? = some o ∧ o.dst = some t ∧ L i
  · obtain ⟨i, o, ho, hd, hl⟩ := hx
    rw [h.come i o t ho hd hl, h'.come i o t ho hd ((ht i o ho hd).1 hl)]
  · rw [h.rest t fun i o ho hd hl => hx ⟨i, o, ho, hd, hl⟩, h'.rest t fun i o ho hd hl => hx ⟨i, o, ho, hd, (ht i o ho hd).2 hl⟩]

theorem FrameAt.imp {vs : List Value} {a0 a : Act} {L L' : Nat → Prop} (h : FrameAt ops vs a0 L a) (hl : ∀ i, i < ops.size → (L i ↔ L' i)) : FrameAt ops vs a0 L' a :=
  have lt : ∀ {i : Nat} {o : Oper}, ops[i]? = some o → i < ops.size := fun ho => (Array.getElem?_eq_some_iff.1 ho).1
  ⟨h.defers, h.slots, fun i o d ho hd hL => h.come i o d ho hd ((hl i (lt ho)).2 hL), fun t ht => h.rest t fun i o ho hd hL => ht i o ho hd ((hl i (lt ho)).1 hL)⟩

theorem Det.same {vs : List Value} {a0 a a' : Act} {L L' : Nat → Prop} {n : Nat} (hok : DetOk ops n) (h : FrameAt ops vs a0 L a) (h' : FrameAt ops vs a0 L' a') {i : Nat} {o : Oper} {v : Value} (ho : ops[i]? = some o)
    (ht : ∀ (j : Nat) (o' : Oper) (d : Tmp), ops[j]? = some o' → o'.dst = some d → d ∈ o.looksAt ops → (L j ↔ L' j)) (hd : Det P ops S o v a) : Det P ops S o v a' := by
  have hs : ∀ d, d ∈ o.looksAt ops → a.tmps[d]? = a'.tmps[d]? := fun d hm => h.same hok h' fun j o' ho' hd' => ht j o' d ho' hd' hm
  have he : execOp a'.eval o = execOp a.eval o := execOp_congr o (hok.sel i o ho) fun x hx => by
    cases x with
    | tmp t =>
      have : t ∈ o.looksAt ops := List.mem_append_left _ (List.mem_filterMap.2 ⟨.tmp t, by simpa using hx, rfl⟩)
      have hh := hs t this
      simp [Act.eval, hh]
    | _ => rfl
  have hw : Region.wanted o (yielded ops a'.tmps) = Region.wanted o (yielded ops a.tmps) := by
    unfold Region.wanted
    cases hg : o.guard with
    | none => rfl
    | some gw =>
      obtain ⟨g, want⟩ := gw
      have hy : yielded ops a'.tmps g = yielded ops a.tmps g := by
        unfold yielded
        cases hb : (ops[g]?).bind (·.dst) with
        | none => rfl
        | some t =>
          have : t ∈ o.looksAt ops := List.mem_append_right _ (by simp [hg, hb])
          have hh := hs t this
          simp [hh]
      simp only [hy]
  unfold Det at *
  rw [he, hw]
  exact hd

def DetSeq (P : Program) (ops : Array Oper) (S : World → Prop) : List Oper → Act → (Act → Prop) → Prop
  | [], a, K => K a
  | o :: rest, a, K => ∃ v, Det P ops S o v a ∧ DetSeq P ops S rest (a.put o.dst v) K

theorem detSeq_get {K : Act → Prop} : ∀ (l : List Oper) (k : Nat) (vs : List Value) (a0 a : Act) (n : Nat), n = a0.tmps.size → DetOk ops n → ops.toList.drop k = l → k ≤ ops.size → vs.length = k →
    (∀ i, i < k → ∀ o, ops[i]? = some o → ∃ b v, vs[i]? = some v ∧ FrameAt ops vs a0 (fun j => j < i) b ∧ Det P ops S o v b) → FrameAt ops vs a0 (fun j => j < k) a → DetSeq P ops S l a K →
    ∃ us : List Value, us.length = ops.size ∧ (∀ i, i < ops.size → ∀ o, ops[i]? = some o → ∃ b v, us[i]? = some v ∧ FrameAt ops us a0 (fun j => j < i) b ∧ Det P ops S o v b) ∧ ∃ b, FrameAt ops us a0 (fun _ => True) b ∧ K b
  | [], k, vs, a0, a, n, hn, hok, hl, hk, hv, hD, hF, hseq => by
    have hke : k = ops.size := by
      have := congrArg List.length hl
      simp at this
      omega
    subst hke
    exact ⟨vs, hv, hD, a, hF.imp fun i hi => ⟨fun _ => trivial, fun _ => hi⟩, hseq⟩
  | o :: l, k, vs, a0, a, n, hn, hok, hl, hk, hv, hD, hF, ⟨v, hd, hrest⟩ => by
    have hlt : k < ops.size := by
      have := congrArg List.length hl
      simp at this
      omega
    have ho : ops[k]? = some o := by
      have h1 : (ops.toList.drop k)[0]? = some o := by rw [hl]; rfl
      rw [List.getElem?_drop] at h1
      simpa using h1
    have old : ∀ i, i < k → (vs ++ [v])[i]? = vs[i]? := fun i hi => List.getElem?_append_left (by omega)
    have mv : ∀ (i : Nat) (b : Act), i ≤ k → FrameAt ops vs a0 (fun j => j < i) b → FrameAt ops (vs ++ [v]) a0 (fun j => j < i) b := fun i b hi hb =>
      ⟨hb.defers, hb.slots, fun j o' d ho' hd' hl' => by
        have hl' : j < i := hl'
        rw [hb.come j o' d ho' hd' hl', old j (by omega)], hb.rest⟩
    refine detSeq_get l (k + 1) (vs ++ [v]) a0 (a.put o.dst v) n hn hok ?_ (by omega) (by simp [hv]) (fun i hi o' ho' => ?_) ?_ hrest
    · have : (ops.toList.drop k).drop 1 = l := by rw [hl]; rfl
      rw [List.drop_drop] at this
      exact this
    · by_cases hik : i = k
      · subst hik
        rw [ho] at ho'; cases ho'
        exact ⟨a, v, by simp [← hv], mv i a (by omega) hF, hd⟩
      · obtain ⟨b, u, h1, h2, h3⟩ := hD i (by omega) o' ho'
        exact ⟨b, u, by rw [old i (by omega)]; exact h1, mv i b (by omega) h2, h3⟩
    · exact ((mv k a (by omega) hF).put hn hok ho (by simp [← hv])).imp fun j _ => ⟨fun h => by omega, fun h => by omega⟩

theorem region_det {id : Nat} {a0 : Act} {w0 : World} (hm : P.follows .mixedOrders = true) (S : World → Prop) (hS : S w0.drew) (hok : detOk ops a0.tmps.size = true)
    (h : DetSeq P ops S ops.toList a0 fun a => ∀ w, S w → Q .normal a w) : (Code.region id ops true).wp P Q a0 w0 := by
  have hk := detOk_at hok
  obtain ⟨us, hul, hD, b, hb, hQ⟩ := detSeq_get ops.toList 0 [] a0 a0 a0.tmps.size rfl hk (by simp) (by omega) rfl (fun i hi => absurd hi (by omega)) ⟨rfl, rfl, fun i o d _ _ hl => absurd hl (Nat.not_lt_zero i), fun _ _ => rfl⟩ h
  have hno : ∀ i, (Array.replicate ops.size false).getD i false = false := fun i => by
    rcases Nat.lt_or_ge i ops.size with h | h <;> simp [h]
  refine region_inv hm (fun listed a w => listed.size = ops.size ∧ S w ∧ (∀ (i : Nat) (o : Oper), ops[i]? = some o → listed.getD i false = true → ∀ e ∈ o.after, Region.binds .any e = true → listed.getD e.on false = true) ∧ FrameAt ops us a0 (fun j => listed.getD j false = true) a) ?_ hk.back (fun listed a w hI => hI.1) ?_ ?_
  · refine ⟨by simp, hS, fun i o _ hl => (by rw [hno] at hl; cases hl), rfl, rfl, fun i o d _ _ hl => (by rw [hno] at hl; cases hl), fun _ _ => rfl⟩
  · rintro listed a w ⟨hs, hSw, hshut, hF⟩ i o ho hi hc
    have hio : i < ops.size := (Array.getElem?_eq_some_iff.1 ho).1
    have hil : i < listed.size := by omega
    have hnl : ¬ listed.getD i false = true := by
      have : listed[i] = false := by simpa [hil] using hi
      simp [hil, this]
    obtain ⟨c, v, hv, hFc, hd⟩ := hD i hio o ho
    have hd' : Det P ops S o v a := hd.same hk hFc hF ho fun j o' d ho' hd' hm => by
      by_cases hji : j = i
      · subst hji
        exact ⟨fun h => absurd h (Nat.lt_irrefl _), fun h => absurd h hnl⟩
      · have hlk := hk.looks j i o' o d ho' ho hd' hm hji
        by_cases hlt : j < i
        · rw [if_pos hlt] at hlk
          obtain ⟨e, he, hbe⟩ := Array.any_eq_true'.1 hlk
          simp only [Bool.and_eq_true, decide_eq_true_eq] at hbe
          have := hc e he hbe.1
          rw [hbe.2] at this
          exact ⟨fun _ => this, fun _ => hlt⟩
        · rw [if_neg hlt] at hlk
          obtain ⟨e, he, hbe⟩ := Array.any_eq_true'.1 hlk
          simp only [Bool.and_eq_true, decide_eq_true_eq] at hbe
          refine ⟨fun h => absurd h hlt, fun h => ?_⟩
          have := hshut j o' ho' h e he hbe.1
          rw [hbe.2] at this
          exact absurd this hnl
    refine hd'.wpOp ho hSw fun w' hSw' => ⟨by simp [hs], hSw', fun j o' ho' hl e he hb => ?_, ?_⟩
    · by_cases hij : i = j
      · subst hij
        rw [ho] at ho'; cases ho'
        exact getD_set_true (hc e he hb)
      · rw [getD_set_ne false hij] at hl
        exact getD_set_true (hshut j o' ho' hl e he hb)
    · refine (hF.put rfl hk ho hv).imp fun j hj => ?_
      by_cases hij : i = j
      · subst hij
        exact ⟨fun _ => by simp [hil], fun _ => .inr rfl⟩
      · rw [getD_set_ne false hij]
        exact ⟨fun h => h.resolve_right fun e => hij e.symm, .inl⟩
  · rintro listed a w ⟨hs, hSw, _, hF⟩ ha
    have hF' := hF.imp (L' := fun _ => True) fun i hi => ⟨fun _ => trivial, fun _ => ha i hi⟩
    have : a = b := by
      obtain ⟨t1, d1⟩ := a
      obtain ⟨t2, d2⟩ := b
      have h1 : t1 = t2 := Array.ext_getElem? fun t => hF'.same hk hb fun _ _ _ _ => Iff.rfl
      have h2 : d1 = d2 := hF'.defers.trans hb.defers.symm
      rw [h1, h2]
    rw [this]
    exact hQ w hSw

theorem det_val {o : Oper} {v : Value} {rest : List Oper} {a : Act} {K : Act → Prop} (hw : Region.wanted o (yielded ops a.tmps) = true) (hv : ∀ w, S w → (execOp a.eval o).run P w = .ok (.value v) w)
    (h : DetSeq P ops S rest (a.put o.dst v) K) : DetSeq P ops S (o :: rest) a K := ⟨v, .inl ⟨hw, fun w hS => .inl (hv w hS)⟩, h⟩
theorem det_shut {o : Oper} {rest : List Oper} {a : Act} {K : Act → Prop} (hw : Region.wanted o (yielded ops a.tmps) = false)
    (h : DetSeq P ops S rest (a.put o.dst undef) K) : DetSeq P ops S (o :: rest) a K := ⟨undef, .inr ⟨hw, rfl⟩, h⟩
theorem det_call {o : Oper} {v : Value} {f : FuncId} {args : Array Value} {rest : List Oper} {a : Act} {K : Act → Prop} (hw : Region.wanted o (yielded ops a.tmps) = true) (hv : ∀ w, S w → (execOp a.eval o).run P w = .ok (.enter f args) w)
    (hc : ∀ w, S w → Calls P f args w fun e w' => e = .returned v ∧ S w')
    (h : DetSeq P ops S rest (a.put o.dst v) K) : DetSeq P ops S (o :: rest) a K := ⟨v, .inl ⟨hw, fun w hS => .inr ⟨f, args, hv w hS, hc w hS⟩⟩, h⟩
end
end Go.Proofs.YtpnbcmblnplbgaaGreatDoor


namespace Go.Proofs.YtpnbcmblnplbgaaGreatDoor
open Go.RowKit
set_option linter.unusedVariables false
set_option linter.unusedSimpArgs false

theorem grown_trans {w a b : World} {g : Nat} (h : w.grownBy a (some g)) (k : a.grownBy b (some g)) : w.grownBy b (some g) :=
  ⟨k.os.trans h.os, k.tape.trans h.tape, k.output.trans h.output, Nat.le_trans h.size k.size, fun j hj hne => (k.block j (Nat.lt_of_lt_of_le hj h.size) hne).trans (h.block j hj hne)⟩
theorem below_grownR {w w' : World} {g : Nat} (h : Below w.heap.size w w') : w.grownBy w' (some g) := ⟨h.os, h.tape, h.output, h.size, fun k hk _ => h.block k hk⟩
theorem rowP_swap {B g n cap : Nat} {w : World} {P : List PT} {j : Nat} (hj : j + 1 < P.length) (h : w.ownsRow B 56 2 (.slice (some ⟨g, 0, none⟩) n cap) n (cellsP P)) :
    let w' := (((w.setCell ⟨g, (j + 1) * 2, none⟩ (strV P[j].1)).setCell ⟨g, (j + 1) * 2 + 1, none⟩ P[j].2).setCell ⟨g, j * 2, none⟩ (strV P[j + 1].1)).setCell ⟨g, j * 2 + 1, none⟩ P[j + 1].2
    w'.ownsRow B 56 2 (.slice (some ⟨g, 0, none⟩) n cap) n (cellsP (swapG P j)) ∧ w.grownBy w' (some g) := by
  intro w'
  obtain ⟨h1, g1⟩ := h.stored ((j + 1) * 2) (strV P[j].1)
  obtain ⟨h2, g2⟩ := h1.stored ((j + 1) * 2 + 1) P[j].2
  obtain ⟨h3, g3⟩ := h2.stored (j * 2) (strV P[j + 1].1)
  obtain ⟨h4, g4⟩ := h3.stored (j * 2 + 1) P[j + 1].2
  refine ⟨?_, grown_trans (grown_trans (grown_trans g1 g2) g3) g4⟩
  have he : ((((cellsP P).set ((j + 1) * 2) (strV P[j].1)).set ((j + 1) * 2 + 1) P[j].2).set (j * 2) (strV P[j + 1].1)).set (j * 2 + 1) P[j + 1].2 = cellsP (swapG P j) := by
    refine List.ext_getElem? fun i => ?_
    have hl := cellsP_length P
    have hls := cellsP_length (swapG P j)
    rw [swapG_length] at hls
    by_cases hi : i < P.length * 2
    · obtain ⟨q, hq⟩ : ∃ q, i = q * 2 ∨ i = q * 2 + 1 := ⟨i / 2, by omega⟩
      have hqp : q < (swapG P j).length := by rw [swapG_length]; omega
      obtain ⟨s0, s1⟩ := cellsP_get (swapG P j) q hqp
      obtain ⟨p0, p1⟩ := cellsP_get P q (by rw [swapG_length] at hqp; exact hqp)
      have hsw : (swapG P j)[q] = if q = j + 1 then P[j] else if q = j then P[j + 1] else P[q]'(by rw [swapG_length] at hqp; exact hqp) := by
        have := swapG_at hj
        simp only [this, List.getElem_set]
        by_cases e1 : j + 1 = q
        · rw [if_pos e1, if_pos (show q = j + 1 from e1.symm)]
        · rw [if_neg e1, if_neg (show ¬ q = j + 1 from fun h => e1 h.symm)]
          by_cases e2 : j = q
          · rw [if_pos e2, if_pos (show q = j from e2.symm)]
          · rw [if_neg e2, if_neg (show ¬ q = j from fun h => e2 h.symm)]
      simp only [List.getElem?_set, List.length_set, hl]
      rcases hq with rfl | rfl
      · rw [s0, hsw]
        by_cases e1 : q = j + 1
        · subst e1
          rw [if_neg (by omega), if_neg (by omega), if_neg (by omega), if_pos rfl, if_pos (by omega), if_pos rfl]
        · by_cases e2 : q = j
          · subst e2
            rw [if_neg (by omega), if_pos rfl, if_pos (by omega), if_neg e1, if_pos rfl]
          · rw [if_neg (by omega), if_neg (by omega), if_neg (by omega), if_neg (by omega), if_neg e1, if_neg e2]
            exact p0
      · rw [s1, hsw]
        by_cases e1 : q = j + 1
        · subst e1
          rw [if_neg (by omega), if_neg (by omega), if_pos rfl, if_pos (by omega), if_pos rfl]
        · by_cases e2 : q = j
          · subst e2
            rw [if_pos rfl, if_pos (by omega), if_neg e1, if_pos rfl]
          · rw [if_neg (by omega), if_neg (by omega), if_neg (by omega), if_neg (by omega), if_neg e1, if_neg e2]
            exact p1
    · rw [List.getElem?_eq_none (by simp only [List.length_set]; omega), List.getElem?_eq_none (by omega)]
  rw [← he]
  exact h4

def SrtI (w : World) (B g n cap : Nat) (P : List PT) (k m : Nat) (wx : World) : Prop := ∃ R : List PT, Hid (R.length = n) ∧ Hid (∀ r ∈ R, ∃ a k c, r.2 = Value.slice a k c) ∧ Hid (bubG (fun r => r.1) m R = srtG (fun r => r.1) (k + 1) P) ∧ Hid (wx.ownsRow B 56 2 (.slice (some ⟨g, 0, none⟩) n cap) n (cellsP R)) ∧ Hid (w.grownBy wx (some g))
set_option maxRecDepth 100000 in
set_option maxHeartbeats 8000000 in
theorem insertR_any (P : List PT) (B g n cap : Nat) (w : World) (hn : n = P.length) (hl : n ≤ 1000000) (h : w.ownsRow B 56 2 (.slice (some ⟨g, 0, none⟩) n cap) n (cellsP P)) (hv : ∀ r ∈ P, ∃ a k c, r.2 = .slice a k c) :
    Calls Tryz.prog 97 #[.slice (some ⟨g, 0, none⟩) n cap, .int .i64 0, .int .i64 n, .func (.func 43) #[] #[]] w fun e w' => e = .returned (.tuple #[]) ∧ w'.ownsRow B 56 2 (.slice (some ⟨g, 0, none⟩) n cap) n (cellsP (srtG (fun r => r.1) (n - 1) P)) ∧ w.grownBy w' (some g) := by
  have HV := Lib.hid hv
  have HN := Lib.hid hn
  have HR := Lib.hid h
  have hlt0 := World.ownsRow.lt h
  have HG := Lib.hid (hlt0 g rfl)
  clear hv hn h hlt0
  go_enter Tryz.func97, Tryz.ntmps97
  go_wp2
  go_loopw [8] (fun i wr => ∃ k : Nat, (k + 1 ≤ n ∨ k = 0) ∧ i = .int .i64 ((k + 1 : Nat) : Int) ∧ Hid (wr.ownsRow B 56 2 (.slice (some ⟨g, 0, none⟩) n cap) n (cellsP (srtG (fun r => r.1) k P))) ∧ Hid (w.grownBy wr (some g))) (fun i wr => n + 1 - (intOf i).toNat)
  case atStart => exact ⟨0, .inr rfl, rfl, HR, Lib.hid ⟨rfl, rfl, rfl, Nat.le_refl _, fun _ _ _ => rfl⟩⟩
  case round =>
    obtain ⟨k, hk, rfl, HRk, HGk⟩ := hrel
    rename World => wo
    by_cases hlt : k + 1 < n
    · have t1 : decide (((k + 1 : Nat) : Int) < (n : Int)) = true := by simp; omega
      have t1' : decide ((k : Int) + 1 < (n : Int)) = true := by simp; omega
      go_wp2
      go_loopw [9] (fun i wx => ∃ m : Nat, m ≤ k + 1 ∧ i = .int .i64 (m : Int) ∧ SrtI w B g n cap P k m wx) (fun i wx => (intOf i).toNat)
      case atStart => exact ⟨k + 1, Nat.le_refl _, by first | rfl | go_num, srtG (fun r => r.1) k P, Lib.hid (by rw [srtG_length]; exact HN.out.symm), Lib.hid (fun r hr => HV.out r (srtG_mem k hr)), Lib.hid rfl, HRk, HGk⟩
      case round =>
        obtain ⟨m, hm, rfl, R, HLn, HVr, HBu, HRx, HGx⟩ := hrel
        by_cases hm0 : m = 0
        · subst hm0
          go_upto_region 4 with (fail)
          refine region_det (by kernel_rfl) (fun w' => w' = wr.drew) (rfl) (by kernel_rfl) ?_
          simp only [List.toList_toArray]
          repeat' (first
            | (refine det_shut (by rfl) ?_; (simp only [Act.put, List.setIfInBounds_toArray, List.set_cons_zero, List.set_cons_succ]))
            | (apply det_val; (case hw => rfl); (case hv => (intro w' hS; (subst hS); go_simp; first | done | with_reducible exact rfl)); (simp only [Act.put, List.setIfInBounds_toArray, List.set_cons_zero, List.set_cons_succ]))
            | (apply det_call; (case hw => rfl); (case hv => (intro w' hS; (subst hS); go_simp; first | done | with_reducible exact rfl | with_reducible exact ⟨rfl, rfl⟩)); (case hc => (intro w' hS; (first | (go_at_call 43; with_reducible exact absurd hS id)))); (simp only [Act.put, List.setIfInBounds_toArray, List.set_cons_zero, List.set_cons_succ]))
            | fail)
          intro w9 hw9
          subst hw9
          have hr9 : (wr.drew).ownsRow B 56 2 (.slice (some ⟨g, 0, none⟩) n cap) n (cellsP (srtG (fun r => r.1) (k + 1) P)) := by
            have hb := HBu.out
            rw [← hb]
            exact HRx.out.drew
          have hg9 : w.grownBy wr.drew (some g) := ⟨HGx.out.os, HGx.out.tape, HGx.out.output, HGx.out.size, HGx.out.block⟩
          have HR9 := Lib.hid hr9
          have HG9 := Lib.hid hg9
          clear hr9 hg9
          go_wp2
          go_roundw
          case rel => exact ⟨k + 1, .inl (by omega), by first | rfl | go_num, HR9, HG9⟩
          case measure => simp [intOf]; omega
        · obtain ⟨m, rfl⟩ : ∃ q, m = q + 1 := ⟨m - 1, by omega⟩
          have hmn : m + 1 < R.length := by have := HLn.out; omega
          obtain ⟨y0, y1⟩ := cellsP_get R (m + 1) hmn
          obtain ⟨x0, x1⟩ := cellsP_get R m (by omega)
          obtain ⟨ya, yn, yc, hy⟩ := HVr.out _ (List.getElem_mem hmn)
          obtain ⟨xa, xn, xc, hx⟩ := HVr.out _ (List.getElem_mem (show m < R.length by omega))
          obtain ⟨Y, hY⟩ : ∃ Y : ByteArray, Y = ofL R[m + 1].1 := ⟨_, rfl⟩
          obtain ⟨X, hX⟩ : ∃ X : ByteArray, X = ofL (R[m]'(by omega)).1 := ⟨_, rfl⟩
          have hc := fun j (hj : j < n * 2) => World.ownsRow.cellAt HRx.out j hj
          have hf := fun j => World.ownsRow.frozenAt HRx.out j
          have c0 : wr.cell? ⟨g, (m + 1) * 2, none⟩ = some (.string Y) := by rw [hc _ (by omega), y0, hY]; rfl
          have c1 : wr.cell? ⟨g, (m + 1) * 2 + 1, none⟩ = some (.slice ya yn yc) := by rw [hc _ (by omega), y1, hy]
          have c2 : wr.cell? ⟨g, m * 2, none⟩ = some (.string X) := by rw [hc _ (by omega), x0, hX]; rfl
          have c3 : wr.cell? ⟨g, m * 2 + 1, none⟩ = some (.slice xa xn xc) := by rw [hc _ (by omega), x1, hx]
          have hgl : g < wr.heap.size := Nat.lt_of_lt_of_le HG.out.2 HGx.out.size
          have hst : PairAt wr g ((m + 1) * 2) (m * 2) Y X (.slice ya yn yc) (.slice xa xn xc) wr.drew := ⟨c0, c1, c2, c3, hgl, (Below.refl _ _).drew⟩
          obtain ⟨I, hI⟩ : ∃ I, I = Extern.BytealgCompare.cmp Y X := ⟨_, rfl⟩
          have hIc : I = cmpL R[m + 1].1 (R[m]'(by omega)).1 := by rw [hI, hY, hX]; rfl
          have hcm := fun W => typesCmp_any Y X (.slice ya yn yc) (.slice xa xn xc) W
          simp only [← hI] at hcm
          have HCm := Lib.hid hcm
          have HIc := Lib.hid hIc
          have HYX := Lib.hid (And.intro hY hX)
          have HHy := Lib.hid (And.intro hy hx)
          have q1 : ((m : Int) + 1) < (n : Int) := by have := HLn.out; omega
          have q2 : (m : Int) < (n : Int) := by omega
          have q3 : (0 : Int) < (m : Int) + 1 := by omega
          have q4 : (0 : Int) ≤ (m : Int) + 1 := by omega
          have q5 : ((m : Int) + 1).toNat = m + 1 := by omega
          have q6 : IntKind.i64.wrap ((m : Int) + 1 - 1) = (m : Int) := by rw [IntKind.wrap_i64]; omega
          have q7 : (m : Int) + 1 - 1 = (m : Int) := by omega
          have q8 : IntKind.i64.wrap (m : Int) = (m : Int) := by rw [IntKind.wrap_i64]; omega
          have q9 : (0 : Int) ≤ (m : Int) := by omega
          have q10 : m + 1 < n := by omega
          clear y0 y1 x0 x1 hc hI hIc hcm hY hX hy hx
          by_cases hneg : I < 0
          · have t3 : decide (I < 0) = true := by simpa using hneg
            go_upto_region 4 with (fail)
            refine region_det (by kernel_rfl) (PairAt wr g ((m + 1) * 2) (m * 2) Y X (.slice ya yn yc) (.slice xa xn xc)) (hst) (by kernel_rfl) ?_
            simp only [List.toList_toArray]
            repeat' (first
              | (refine det_shut (by rfl) ?_; (simp only [Act.put, List.setIfInBounds_toArray, List.set_cons_zero, List.set_cons_succ]))
              | (apply det_val; (case hw => rfl); (case hv => (intro w' hS; (obtain ⟨s0, s1, s2, s3, s4, s5⟩ := hS); go_simp; first | done | with_reducible exact rfl)); (simp only [Act.put, List.setIfInBounds_toArray, List.set_cons_zero, List.set_cons_succ]))
              | (apply det_call; (case hw => rfl); (case hv => (intro w' hS; (obtain ⟨s0, s1, s2, s3, s4, s5⟩ := hS); go_simp; first | done | with_reducible exact rfl | with_reducible exact ⟨rfl, rfl⟩)); (case hc => (intro w' hS; (first | (go_at_call 43; with_reducible exact (HCm.out w').mono (fun e w'' h => ⟨h.1, (PairAt.go hS h.2).2.2.2.2⟩))))); (simp only [Act.put, List.setIfInBounds_toArray, List.set_cons_zero, List.set_cons_succ]))
              | fail)
            intro w9 hS9
            have hr9 : w9.ownsRow B 56 2 (.slice (some ⟨g, 0, none⟩) n cap) n (cellsP R) := World.ownsRow.kept HRx.out (row := none) ⟨hS9.2.2.2.2.2.os, hS9.2.2.2.2.2.tape, hS9.2.2.2.2.2.output, hS9.2.2.2.2.2.size, fun k hk _ => hS9.2.2.2.2.2.block k hk⟩ (.inr (by simp [Value.ownBlock]))
            have hg9 : w.grownBy w9 (some g) := grown_trans HGx.out (below_grownR hS9.2.2.2.2.2)
            have hf := fun j => World.ownsRow.frozenAt hr9 j
            have z0 := hf ((m + 1) * 2)
            have z1 := hf ((m + 1) * 2 + 1)
            have z2 := hf (m * 2)
            have z3 := hf (m * 2 + 1)
            obtain ⟨s0, s1, s2, s3, s4, s5⟩ := hS9
            obtain ⟨hsw, hgw⟩ := rowP_swap (j := m) hmn hr9
            have n0 : ((m + 1) * 2 = m * 2) = False := eq_false (by omega)
            have n1 : ((m + 1) * 2 + 1 = m * 2) = False := eq_false (by omega)
            have n2 : ((m + 1) * 2 = m * 2 + 1) = False := eq_false (by omega)
            have n3 : (m * 2 = (m + 1) * 2) = False := eq_false (by omega)
            have n4 : (m * 2 = (m + 1) * 2 + 1) = False := eq_false (by omega)
            have n5 : (m * 2 + 1 = (m + 1) * 2) = False := eq_false (by omega)
            have HSw := Lib.hid hsw
            have HGw := Lib.hid hgw
            have HG9 := Lib.hid hg9
            clear hr9 hg9 hf hsw hgw hst c0 c1 c2 c3 s5
            go_upto_region 6 with (fail)
            go_region_law (fail)
            all_goals
              have e1 : strV (R[m]'(by omega)).1 = .string X := by rw [HYX.out.2]; rfl
              have e2 : strV R[m + 1].1 = .string Y := by rw [HYX.out.1]; rfl
              have hr10 := HSw.out
              have hg10 := HGw.out
              rw [e1, e2, HHy.out.1, HHy.out.2] at hr10 hg10
              have hr11 := hr10.drew
              have hg11 := grown_trans HG9.out hg10
              generalize (((w9.setCell ⟨g, (m + 1) * 2, none⟩ (.string X)).setCell ⟨g, (m + 1) * 2 + 1, none⟩ (.slice xa xn xc)).setCell ⟨g, m * 2, none⟩ (.string Y)).setCell ⟨g, m * 2 + 1, none⟩ (.slice ya yn yc) = W10 at hr11 hg11 ⊢
              have hg12 : w.grownBy W10.drew (some g) := ⟨hg11.os, hg11.tape, hg11.output, hg11.size, hg11.block⟩
              have hb12 : bubG (fun r => r.1) m (swapG R m) = srtG (fun r => r.1) (k + 1) P := by rw [← HBu.out, bubG_go hmn (by rw [← HIc.out]; exact hneg)]
              have HR12 := Lib.hid hr11
              have HG12 := Lib.hid hg12
              have HB12 := Lib.hid hb12
              have HL12 : Hid ((swapG R m).length = n) := Lib.hid (by rw [swapG_length]; exact HLn.out)
              have HV12 := Lib.hid (fun r (hr : r ∈ swapG R m) => HVr.out r (swapG_mem hr))
              clear e1 e2 hr10 hg10 hr11 hg11 hg12 hb12 s0 s1 s2 s3 z0 z1 z2 z3
              go_wp2
              go_roundw
              case rel => exact ⟨m, by omega, by first | rfl | go_num, swapG R m, HL12, HV12, HB12, HR12, HG12⟩
              case measure => simp [intOf]; omega
          · have t3 : decide (I < 0) = false := by simpa using hneg
            go_upto_region 4 with (fail)
            refine region_det (by kernel_rfl) (PairAt wr g ((m + 1) * 2) (m * 2) Y X (.slice ya yn yc) (.slice xa xn xc)) (hst) (by kernel_rfl) ?_
            simp only [List.toList_toArray]
            repeat' (first
              | (refine det_shut (by rfl) ?_; (simp only [Act.put, List.setIfInBounds_toArray, List.set_cons_zero, List.set_cons_succ]))
              | (apply det_val; (case hw => rfl); (case hv => (intro w' hS; (obtain ⟨s0, s1, s2, s3, s4, s5⟩ := hS); go_simp; first | done | with_reducible exact rfl)); (simp only [Act.put, List.setIfInBounds_toArray, List.set_cons_zero, List.set_cons_succ]))
              | (apply det_call; (case hw => rfl); (case hv => (intro w' hS; (obtain ⟨s0, s1, s2, s3, s4, s5⟩ := hS); go_simp; first | done | with_reducible exact rfl | with_reducible exact ⟨rfl, rfl⟩)); (case hc => (intro w' hS; (first | (go_at_call 43; with_reducible exact (HCm.out w').mono (fun e w'' h => ⟨h.1, (PairAt.go hS h.2).2.2.2.2⟩))))); (simp only [Act.put, List.setIfInBounds_toArray, List.set_cons_zero, List.set_cons_succ]))
              | fail)
            intro w9 hS9
            have hr9 : w9.ownsRow B 56 2 (.slice (some ⟨g, 0, none⟩) n cap) n (cellsP (srtG (fun r => r.1) (k + 1) P)) := by
              have hb := HBu.out
              rw [bubG_stop hmn (by rw [← HIc.out]; exact hneg)] at hb
              rw [← hb]
              exact World.ownsRow.kept HRx.out (row := none) ⟨hS9.2.2.2.2.2.os, hS9.2.2.2.2.2.tape, hS9.2.2.2.2.2.output, hS9.2.2.2.2.2.size, fun k hk _ => hS9.2.2.2.2.2.block k hk⟩ (.inr (by simp [Value.ownBlock]))
            have hg9 : w.grownBy w9 (some g) := grown_trans HGx.out (below_grownR hS9.2.2.2.2.2)
            have HR9 := Lib.hid hr9
            have HG9 := Lib.hid hg9
            clear hr9 hg9 hS9
            go_wp2
            go_roundw
            case rel => exact ⟨k + 1, .inl (by omega), by first | rfl | go_num, HR9, HG9⟩
            case measure => simp [intOf]; omega
    · have t1 : decide (((k + 1 : Nat) : Int) < (n : Int)) = false := by simp; omega
      have t1' : decide ((k : Int) + 1 < (n : Int)) = false := by simp; omega
      have hke : k = n - 1 := by omega
      go_wp2
      go_end0
      exact ⟨rfl, by rw [← hke]; exact HRk.out, HGk.out⟩
end Go.Proofs.YtpnbcmblnplbgaaGreatDoor


namespace Go.Proofs.YtpnbcmblnplbgaaGreatDoor
open Go.RowKit
set_option linter.unusedVariables false
set_option linter.unusedSimpArgs false

set_option maxRecDepth 100000 in
set_option maxHeartbeats 4000000 in
theorem stableR_any (n : Nat) (hl : n < 20) (sa : Option Addr) (sc : Nat) (w : World) (Q : World → Prop) (hi : Calls Tryz.prog 97 #[.slice sa n sc, .int .i64 0, .int .i64 n, .func (.func 43) #[] #[]] w fun e w' => e = .returned (.tuple #[]) ∧ Q w') :
    Calls Tryz.prog 68 #[.slice sa n sc, .int .i64 n, .func (.func 43) #[] #[]] w fun e w' => e = .returned (.tuple #[]) ∧ Q w' := by
  have HI := Lib.hid hi
  have t1 : decide ((20 : Int) ≤ (n : Int)) = false := by simp; omega
  have t1' : decide (20 ≤ n) = false := by simp; omega
  have t2 : decide ((20 : Int) < (n : Int)) = false := by simp; omega
  have t2' : decide (20 < n) = false := by simp; omega
  clear hi
  go_enter Tryz.func68, Tryz.ntmps68
  go_wp2
  go_loopw [7, 8] (fun a b wr => a = .int .i64 0 ∧ b = .int .i64 20 ∧ Hid (wr = w)) (fun a b wr => 1)
  case atStart => exact ⟨rfl, rfl, Lib.hid rfl⟩
  case round =>
    obtain ⟨rfl, rfl, hwr⟩ := hrel
    have hwr := hwr.out
    subst hwr
    go_wp2_with (go_at_call 97; refine (HI.out).mono ?_; rintro e w2 ⟨rfl, hb2⟩; have HB2 := Lib.hid hb2; clear hb2)
    go_loopw [6] (fun a wx => a = .int .i64 20 ∧ Hid (wx = w2)) (fun a wx => 1)
    case atStart => exact ⟨rfl, Lib.hid rfl⟩
    case round =>
      obtain ⟨rfl, hwr2⟩ := hrel
      have hwr2 := hwr2.out
      subst hwr2
      go_wp2
      go_end0
      exact ⟨rfl, HB2.out⟩

theorem ownA_sort {B g n cap : Nat} {w w' : World} {L : List AT} {P : List PT} (hP : RowP B w (.slice (some ⟨g, 0, none⟩) n cap) P) (hs : Says B w (.slice (some ⟨g, 0, none⟩) n cap) P L) (hn : n = P.length)
    (hr : w'.ownsRow B 56 2 (.slice (some ⟨g, 0, none⟩) n cap) n (cellsP (srtG (fun r => r.1) (n - 1) P))) (hg : w.grownBy w' (some g)) : OwnA B w' (.slice (some ⟨g, 0, none⟩) n cap) (sortA L) := by
  have hPL := hs.1
  have hP1 : P = (P.zip L).map (fun z => z.1) := by
    have := List.map_fst_zip (l₁ := P) (l₂ := L) (by omega)
    exact this.symm
  have hL1 : L = (P.zip L).map (fun z => z.2) := by
    have := List.map_snd_zip (l₁ := P) (l₂ := L) (by omega)
    exact this.symm
  have hz : ∀ z ∈ P.zip L, ∃ (j : Nat) (h1 : j < L.length) (h2 : j < P.length), z = (P[j], L[j]) := fun z hm => by
    obtain ⟨j, hj, rfl⟩ := List.getElem_of_mem hm
    have hj' : j < P.length ∧ j < L.length := by rw [List.length_zip] at hj; omega
    exact ⟨j, hj'.2, hj'.1, List.getElem_zip⟩
  have e1 : srtG (fun r : PT => r.1) (n - 1) P = (srtG (fun z : PT × AT => z.1.1) (n - 1) (P.zip L)).map (fun z => z.1) := by
    rw [srtG_map (key' := fun r : PT => r.1) (fun z : PT × AT => z.1) (n - 1) (P.zip L) (fun _ _ => rfl), ← hP1]
  have e2 : sortA L = (srtG (fun z : PT × AT => z.1.1) (n - 1) (P.zip L)).map (fun z => z.2) := by
    unfold sortA
    rw [srtG_map (key' := fun a : AT => a.1) (fun z : PT × AT => z.2) (n - 1) (P.zip L) (fun z hm => by
      obtain ⟨j, h1, h2, rfl⟩ := hz z hm
      exact (hs.2 j h1 h2).1.symm), ← hL1, hn, hPL]
  refine ⟨srtG (fun r => r.1) (n - 1) P, ?_, ?_, fun j h1 h2 => ?_⟩
  · show w'.ownsRow B 56 2 (.slice (some ⟨g, 0, none⟩) n cap) (srtG (fun r => r.1) (n - 1) P).length (cellsP (srtG (fun r => r.1) (n - 1) P))
    rw [srtG_length, ← hn]
    exact hr
  · rw [e1, e2, List.length_map, List.length_map]
  · simp only [e1, e2, List.getElem_map]
    have hm := srtG_mem _ (List.getElem_mem (show j < (srtG (fun z : PT × AT => z.1.1) (n - 1) (P.zip L)).length by rw [e2, List.length_map] at h1; exact h1))
    obtain ⟨i, i1, i2, hi⟩ := hz _ hm
    rw [hi]
    obtain ⟨s1, s2⟩ := hs.2 i i1 i2
    refine ⟨s1, s2.imp (fun b hb => ⟨hb.1, Nat.lt_of_lt_of_le hb.2.1 hg.size, hb.2.2⟩) (fun b o hb => ?_)⟩
    have := hg.block b hb.2.1 hb.2.2
    simp only [World.cell?, this]
end Go.Proofs.YtpnbcmblnplbgaaGreatDoor


namespace Go.Proofs.YtpnbcmblnplbgaaGreatDoor
open Go.RowKit Go.Maps
set_option linter.unusedVariables false

theorem idx_new (w : World) (lv : Value) (KS : List KL) : Idx w.heap.size (w.alloc (.cells #[lv, .int .u32 0, .int .i32 0, .int .u32 0, .slice none 0 0, .map none] 121)) lv KS := .inl (heap_alloc_new w _)
theorem below_idx {b : Nat} {w W w' : World} (hb : Below w.heap.size w W) (hg : W.grownBy w' (some b)) (h : w.heap.size ≤ b) : Below w.heap.size w w' :=
  hb.trans ⟨hg.os, hg.tape, hg.output, hg.size, fun k hk => hg.block k (by have := hb.size; omega) (fun e => by have := Option.some.inj e; omega)⟩

set_option maxRecDepth 100000 in
set_option maxHeartbeats 2000000 in
theorem treeFind_any (L : List ET) (hs : smallE L) (lv : Value) (K : ByteArray) (hK : K.size ≤ 100000) (w : World) (h : IsE w.heap.size w L lv) :
    Calls Tryz.prog 61 #[lv, .string K] w fun e w' => e = .returned (.int .i64 (findK (keysE L) K.data.toList)) ∧ Below w.heap.size w w' := by
  obtain ⟨W, hW⟩ : ∃ W, W = w.alloc (.cells #[lv, .int .u32 0, .int .i32 0, .int .u32 0, .slice none 0 0, .map none] 121) := ⟨_, rfl⟩
  have hbW : Below w.heap.size w W := by rw [hW]; exact (Below.refl _ _).alloc (Nat.le_refl _) _
  have hx : Idx w.heap.size W lv (keysE L) := by rw [hW]; exact idx_new w lv _
  have HP := Lib.hid (place_any L hs w.heap.size lv K hK W hx (h.below hbW (Nat.le_refl _)))
  have HB := Lib.hid hbW
  have HW := Lib.hid hW
  obtain ⟨la, lc, rfl⟩ := IsE.sl h
  clear hbW hx h hW
  go_enter Tryz.func61, Tryz.ntmps61
  go_upto_region 2 with (fail)
  rw [← HW.out]
  go_wp2_with (go_at_call 93; refine (HP.out).mono ?_; rintro e w2 ⟨rfl, kv, mv, _, hg⟩; have HG := Lib.hid hg; clear hg)
  go_ret
  exact ⟨rfl, below_idx HB.out HG.out (Nat.le_refl _)⟩

theorem upK_list (K : ByteArray) : (upB K).data.toList = upD K.data.toList := by simp [upB]
theorem kidsP_take (KS : List KL) (k : KL) (j : Nat) (h : j < KS.length) : kidsP (KS.take (j + 1)) k = kidsP (KS.take j) k ++ (if (!KS[j].isEmpty && upD KS[j] == k) = true then [KS[j]] else []) := by
  unfold kidsP
  rw [List.take_succ_eq_append_getElem h, List.filter_append]
  congr 1
  cases e : (!KS[j].isEmpty && upD KS[j] == k) <;> simp [List.filter, e]
theorem kidsP_len (KS : List KL) (k : KL) (j : Nat) : (kidsP (KS.take j) k).length ≤ j := Nat.le_trans (List.length_filter_le _ _) (List.length_take_le _ _)

set_option maxRecDepth 100000 in
set_option maxHeartbeats 4000000 in
theorem treeKids_any (L : List ET) (hs : smallE L) (lv : Value) (K : ByteArray) (w : World) (h : IsE w.heap.size w L lv) :
    Calls Tryz.prog 47 #[lv, .string K] w fun e w' => ∃ v, e = .returned v ∧ OwnS w.heap.size w' v (kidsP (keysE L) K.data.toList) ∧ Below w.heap.size w w' := by
  obtain ⟨W, hW⟩ : ∃ W, W = w.alloc (.cells #[lv, .int .u32 0, .int .i32 0, .int .u32 0, .slice none 0 0, .map none] 121) := ⟨_, rfl⟩
  have hbW : Below w.heap.size w W := by rw [hW]; exact (Below.refl _ _).alloc (Nat.le_refl _) _
  have hx : Idx w.heap.size W lv (keysE L) := by rw [hW]; exact idx_new w lv _
  have HA := Lib.hid (all_any L hs w.heap.size lv W hx (h.below hbW (Nat.le_refl _)))
  have HB := Lib.hid hbW
  have HW := Lib.hid hW
  have HS := Lib.hid hs
  have hL := hs.1
  obtain ⟨la, lc, rfl⟩ := IsE.sl h
  obtain ⟨KS, hKS⟩ : ∃ KS, KS = keysE L := ⟨_, rfl⟩
  have hKl : KS.length = L.length := by rw [hKS, keysE_len]
  have hksz : ∀ j (hj : j < KS.length), KS[j].length ≤ 100000 := fun j hj => by
    subst hKS
    rw [keysE_at L j (by rw [keysE_len] at hj; exact hj)]
    exact Nat.le_trans (kE_len _) (hs.2 _ (List.getElem_mem _)).1
  rw [← hKS] at HA ⊢
  obtain ⟨n, hn⟩ : ∃ n, n = KS.length := ⟨_, rfl⟩
  have hn1 : n ≤ 1000 := by omega
  have HN := Lib.hid hn
  have HKs := Lib.hid hksz
  clear hbW hx h hW hKS hKl hn hksz
  go_enter Tryz.func47, Tryz.ntmps47
  go_upto_region 3 with (fail)
  rw [← HW.out]
  clear HW
  go_wp2_with (go_at_call 72; refine (HA.out).mono ?_; rintro e w2 ⟨kv, mv, rfl, hm, hg⟩; have HT := Lib.hid (hm.isT (by unfold maxLen; rw [← HN.out]; omega)); have HB2 := Lib.hid (below_idx HB.out hg (Nat.le_refl _)); (obtain ⟨ka, kc, hkv, _, hcell⟩ := HT.out); rw [← HN.out] at hkv; have HC := Lib.hid hcell; clear hm hg hcell; subst hkv)
  go_loopw [5, 15] (fun l i wr => ∃ j : Nat, j ≤ n ∧ i = .int .i64 j ∧ OwnS w2.heap.size wr l (kidsP (KS.take j) K.data.toList) ∧ Below w2.heap.size w2 wr) (fun _ i wr => n - (intOf i).toNat)
  case atStart => exact ⟨0, by omega, rfl, ownS_nil _ _, Below.refl _ _⟩
  case round =>
    obtain ⟨j, hj, rfl, hown, hbel⟩ := hrel
    have HBel := Lib.hid hbel
    have hbs := hbel.size
    obtain ⟨sa, sc, hsv⟩ := ownS_slice hown
    obtain ⟨G, hG⟩ : ∃ G, G = kidsP (KS.take j) K.data.toList := ⟨_, rfl⟩
    have hGl := kidsP_len KS K.data.toList j
    rw [← hG] at hsv hGl hown
    obtain ⟨sn, hsn⟩ : ∃ k, k = G.length := ⟨_, rfl⟩
    rw [← hsn] at hsv hGl
    subst hsv
    have HG := Lib.hid hG
    have HSn := Lib.hid hsn
    have HOwn := Lib.hid hown
    clear hown hsn
    by_cases hlt : j < n
    · have t1 : decide ((j : Int) < (n : Int)) = true := by simp; omega
      have t1' : decide (j < n) = true := by simpa using hlt
      have hjK : j < KS.length := by rw [← HN.out]; exact hlt
      obtain ⟨b, off, hae, hb0, c0⟩ := HC.out j hjK
      subst hae
      obtain ⟨X, hX⟩ : ∃ X : ByteArray, ofL KS[j] = X := ⟨_, rfl⟩
      have hXl : X.data.toList = KS[j] := by rw [← hX, ofL_list]
      have d0 : (wr.cell? ⟨b, off + j, none⟩) = some (.string X) := by
        rw [hbel.cell (p := ⟨b, _, none⟩) hb0, c0, ← hX]; rfl
      have hXs : X.size ≤ 100000 := by rw [← bytes_len, hXl]; exact HKs.out j hjK
      have hup := fun w => dnUp_any clone_any X w (by omega)
      obtain ⟨U, hU⟩ : ∃ U, U = upB X := ⟨_, rfl⟩
      rw [← hU] at hup
      have hUl : U.data.toList = upD KS[j] := by rw [hU, upK_list, hXl]
      have HUp := Lib.hid hup
      have hnew := kidsP_take KS K.data.toList j hjK
      rw [← HG.out] at hnew
      have HNew0 := Lib.hid hnew
      have HXl := Lib.hid hXl
      have HUl := Lib.hid hUl
      clear hnew hX hU c0 hbel hup hXl hUl hG
      by_cases hne : X.data.toList = []
      · obtain ⟨e1, e2⟩ := bytes_nil hne
        have e3 : (X.toList == []) = true := by rw [e1]; rfl
        have HNew : Hid (kidsP (KS.take (j + 1)) K.data.toList = G) := Lib.hid (by
          have h1 : KS[j] = [] := HXl.out.symm.trans hne
          have := HNew0.out
          rw [h1] at this
          simpa using this)
        clear hne
        go_wp2
        go_roundw
        case rel => exact ⟨j + 1, by omega, by go_num, by rw [HNew.out]; exact HOwn.out, HBel.out⟩
        case measure => simp [intOf]; omega
      · obtain ⟨e1, e2⟩ := bytes_some hne
        have e3 : (X.toList == []) = false := by simpa using e1
        have hje : KS[j].isEmpty = false := by
          rw [← HXl.out]
          cases h : X.data.toList with
          | nil => exact absurd h hne
          | cons _ _ => rfl
        have HJe := Lib.hid hje
        clear hne hje
        by_cases heq : U = K
        · subst heq
          have HNew : Hid (kidsP (KS.take (j + 1)) U.data.toList = G ++ [X.data.toList]) := Lib.hid (by
            have := HNew0.out
            rw [if_pos (by rw [HJe.out, ← HUl.out]; simp)] at this
            rw [this, HXl.out])
          have q1 : (U.toList == U.toList) = true := by simp
          go_wp2_with (first
            | (go_at_call 39; refine (HUp.out _).mono ?_; rintro e w4 ⟨rfl, hb4⟩; have HB4 := Lib.hid hb4; have HO4 := Lib.hid (ownS_below HOwn.out hb4); have hbs4 := hb4.size; clear hb4)
            | (at_builtin; refine wpList_append_text rfl (.tmp 27) (.tmp 29) rfl w2.heap.size (.slice sa sn sc) G rfl X HO4.out rfl (by rw [← HSn.out]; omega) (by omega) ?_; intro v5 w5 hown5 hb5; have HO5 := Lib.hid hown5; have HB5 := Lib.hid hb5; clear hown5 hb5))
          go_roundw
          case rel => exact ⟨j + 1, by omega, by go_num, by rw [HNew.out]; exact HO5.out, (HBel.out.trans (HB4.out.mono hbs)).trans HB5.out⟩
          case measure => simp [intOf]; omega
        · have q1 := str_ne heq
          have HNew : Hid (kidsP (KS.take (j + 1)) K.data.toList = G) := Lib.hid (by
            have := HNew0.out
            rw [if_neg (by
              rw [HJe.out, ← HUl.out]
              simp only [Bool.not_false, Bool.true_and, beq_iff_eq]
              exact fun e => heq (bytes_ext e)), List.append_nil] at this
            exact this)
          clear heq
          go_wp2_with (go_at_call 39; refine (HUp.out _).mono ?_; rintro e w4 ⟨rfl, hb4⟩; have HB4 := Lib.hid hb4; have HO4 := Lib.hid (ownS_below HOwn.out hb4); have hbs4 := hb4.size; clear hb4)
          go_roundw
          case rel => exact ⟨j + 1, by omega, by go_num, by rw [HNew.out]; exact HO4.out, HBel.out.trans (HB4.out.mono hbs)⟩
          case measure => simp [intOf]; omega
    · obtain rfl : j = n := by omega
      have t1 : decide ((j : Int) < (j : Int)) = false := by simp
      have t1' : decide (j < j) = false := by simp
      have HF : Hid (G = kidsP KS K.data.toList) := Lib.hid (by rw [hG, List.take_of_length_le (by rw [← HN.out]; exact Nat.le_refl _)])
      clear hbel hG
      go_wp2
      go_ret
      exact ⟨_, rfl, by rw [← HF.out]; exact ownS_lower HOwn.out HB2.out.size, HB2.out.trans (HBel.out.mono HB2.out.size)⟩
end Go.Proofs.YtpnbcmblnplbgaaGreatDoor


namespace Go.Proofs.YtpnbcmblnplbgaaGreatDoor
open Go.RowKit
set_option linter.unusedVariables false

theorem same_R (wr w : World) (x y : ET) (X Y : ByteArray) (gX : X.data.toList = x.1) (gY : Y.data.toList = y.1) (v u : Value) (hs : smallA x.2) (hx : IsA w.heap.size w x.2 v) (hy : IsA w.heap.size w y.2 u) (hb : Below w.heap.size w wr) :
    Calls Tryz.prog 26 #[.agg #[.string X, v], .agg #[.string Y, u]] wr fun r w' => r = .returned (.bool (x == y)) ∧ Below wr.heap.size wr w' := by
  have := sameRef_entry X Y x.2 y.2 hs v u wr (hx.below hb hb.size) (hy.below hb hb.size)
  rw [gX, gY] at this
  exact this

set_option maxRecDepth 100000 in
set_option maxHeartbeats 4000000 in
theorem sameR7_any (L M : List ET) (hs : smallE L) (v u : Value) (w : World) (hL : IsE w.heap.size w L v) (hM : IsE w.heap.size w M u) :
    Calls Tryz.prog 13 #[v, u] w fun e w' => e = .returned (.bool (L == M)) ∧ Below w.heap.size w w' := by
  obtain ⟨a, c, rfl, hm, hcell⟩ := hL
  obtain ⟨b, d, rfl, hm2, hcell2⟩ := hM
  unfold maxLen at hm hm2
  have HC := Lib.hid hcell
  have HD := Lib.hid hcell2
  obtain ⟨R, hR⟩ : ∃ R, R = (L == M) := ⟨_, rfl⟩
  rw [← hR]
  have HR := Lib.hid hR
  have HS := Lib.hid hs
  clear hcell hcell2 hR
  by_cases hlen : L.length = M.length
  · obtain ⟨n, hn⟩ : ∃ n, n = L.length := ⟨_, rfl⟩
    have hn2 : n = M.length := hn.trans hlen
    have HN := Lib.hid hn
    have HN2 := Lib.hid hn2
    have hn5 : n ≤ 1000000 := by have := hs.1; omega
    rw [← hn, ← hn2]
    clear hlen hn hn2 hm hm2 hs
    go_enter Tryz.func13, Tryz.ntmps13
    go_wp2
    go_loopw [5] (fun i wr => ∃ j : Nat, j ≤ n ∧ i = .int .i64 j ∧ Hid (∀ k (h1 : k < L.length) (h2 : k < M.length), k < j → L[k] = M[k]) ∧ Below w.heap.size w wr) (fun i wr => n - (intOf i).toNat)
    case atStart => exact ⟨0, by omega, rfl, Lib.hid (fun k _ _ h => absurd h (by omega)), Below.refl _ _⟩
    case round =>
      obtain ⟨j, hj, rfl, HAll, hbel⟩ := hrel
      have HBel := Lib.hid hbel
      have hbs := hbel.size
      by_cases hlt : j < n
      · have t1 : decide ((j : Int) < (n : Int)) = true := by simp; omega
        have t1' : decide (j < n) = true := by simpa using hlt
        have q1 : (j : Int) < (n : Int) := by omega
        have hl1 : j < L.length := by rw [← HN.out]; exact hlt
        have hl2 : j < M.length := by rw [← HN2.out]; exact hlt
        obtain ⟨b1, f1, x, rfl, hb1, x0, x1, hx⟩ := HC.out j hl1
        obtain ⟨b2, f2, y, rfl, hb2, y0, y1, hy⟩ := HD.out j hl2
        replace hx := IsAo.isA hx
        replace hy := IsAo.isA hy
        obtain ⟨xa, xn, xc, rfl⟩ := hx.sl
        obtain ⟨ya, yn, yc, rfl⟩ := hy.sl
        obtain ⟨X, hX⟩ : ∃ X : ByteArray, ofL L[j].1 = X := ⟨_, rfl⟩
        obtain ⟨Y, hY⟩ : ∃ Y : ByteArray, ofL M[j].1 = Y := ⟨_, rfl⟩
        have gX : X.data.toList = L[j].1 := by rw [← hX, ofL_list]
        have gY : Y.data.toList = M[j].1 := by rw [← hY, ofL_list]
        have d0 : wr.cell? ⟨b1, f1 + j * 2, none⟩ = some (.string X) := by rw [hbel.cell (p := ⟨b1, _, none⟩) hb1, x0, ← hX]; rfl
        have d1 := (hbel.cell (p := ⟨b1, f1 + j * 2 + 1, none⟩) hb1).trans x1
        have e0 : wr.cell? ⟨b2, f2 + j * 2, none⟩ = some (.string Y) := by rw [hbel.cell (p := ⟨b2, _, none⟩) hb2, y0, ← hY]; rfl
        have e1 := (hbel.cell (p := ⟨b2, f2 + j * 2 + 1, none⟩) hb2).trans y1
        have hdr : Below wr.heap.size wr wr.drew := (Below.refl _ _).drew
        have hsa0 := fun W h => same_R W w L[j] M[j] X Y gX gY (.slice xa xn xc) (.slice ya yn yc) (HS.out.2 L[j] (List.getElem_mem _)).2 hx hy h
        obtain ⟨g, hg⟩ : ∃ g, g = (L[j] == M[j]) := ⟨_, rfl⟩
        simp only [← hg] at hsa0
        have HBd := Lib.hid hbel.drew
        have HSa := Lib.hid hsa0
        cases g with
        | true =>
          have heq : L[j] = M[j] := by simpa using hg.symm
          have HN1 : Hid (∀ k (h1 : k < L.length) (h2 : k < M.length), k < j + 1 → L[k] = M[k]) := Lib.hid (fun k h1 h2 h3 => by
            by_cases hk : k < j
            · exact HAll.out k h1 h2 hk
            · obtain rfl : k = j := by omega
              exact heq)
          clear heq hg hsa0 x0 x1 y0 y1 hX hY gX gY hbel hdr hx hy hl1 hl2
          go_upto_region 6 with (fail)
          go_region_law (go_simp; go_at_call 26; (with_reducible refine (HSa.out _ HBd.out).mono ?_); rintro e w2 ⟨rfl, hb2⟩; have HB2 := Lib.hid (HBd.out.trans (hb2.mono HBd.out.size)); clear hb2)
          all_goals
            go_wp2
            go_roundw
            case rel => exact ⟨j + 1, by omega, by go_num, HN1, HB2.out⟩
            case measure => simp [intOf]; omega
        | false =>
          have hne : L[j] ≠ M[j] := by simpa using hg.symm
          have HF : Hid (R = false) := Lib.hid (HR.out.trans (by
            have : L ≠ M := fun e => by subst e; exact hne rfl
            simpa using this))
          clear hne hg hsa0 x0 x1 y0 y1 hX hY gX gY hbel hdr hx hy hl1 hl2
          go_upto_region 6 with (fail)
          go_region_law (go_simp; go_at_call 26; (with_reducible refine (HSa.out _ HBd.out).mono ?_); rintro e w2 ⟨rfl, hb2⟩; have HB2 := Lib.hid (HBd.out.trans (hb2.mono HBd.out.size)); clear hb2)
          all_goals
            go_wp2
            go_ret
            exact ⟨by rw [HF.out]; rfl, HB2.out⟩
      · obtain rfl : j = n := by omega
        have t1 : decide ((j : Int) < (j : Int)) = false := by simp
        have t1' : decide (j < j) = false := by simp
        have HF : Hid (R = true) := Lib.hid (HR.out.trans (by
          have : L = M := List.ext_getElem (by rw [← HN.out, ← HN2.out]) (fun k h1 h2 => HAll.out k h1 h2 (by rw [HN.out]; exact h1))
          simp [this]))
        clear hbel
        go_wp2
        go_ret
        exact ⟨by rw [HF.out]; rfl, HBel.out⟩
  · have t0 : ((L.length : Int) != (M.length : Int)) = true := by simp; omega
    have HF : Hid (R = false) := Lib.hid (HR.out.trans (by
      have : L ≠ M := fun e => hlen (by rw [e])
      simpa using this))
    clear hlen
    go_enter Tryz.func13, Tryz.ntmps13
    go_wp2
    go_ret
    exact ⟨by rw [HF.out]; rfl, Below.refl _ _⟩
end Go.Proofs.YtpnbcmblnplbgaaGreatDoor


namespace Go.Proofs.YtpnbcmblnplbgaaGreatDoor
open Go.RowKit Go.Maps
set_option linter.unusedVariables false

end Go.Proofs.YtpnbcmblnplbgaaGreatDoor

