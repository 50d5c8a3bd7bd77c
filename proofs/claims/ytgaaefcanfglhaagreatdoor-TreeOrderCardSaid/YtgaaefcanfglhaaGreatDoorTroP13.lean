/- Several texts in one file: TrCopy, TrFill, TrIdx, EnSame. -/
import Derived.Test.YtgaaefcanfglhaaGreatDoorTroP12
import Derived.Maps.Own
import Derived.Maps.OwnSet
import Derived.Test.YtgaaefcanfglhaaGreatDoorTroP1
namespace Go.Proofs.YtgaaefcanfglhaaGreatDoor
open Go.RowKit
set_option linter.unusedVariables false

set_option maxRecDepth 100000 in
set_option maxHeartbeats 2000000 in
theorem copyTexts_any (L : List (List UInt8)) (hs : smallT L) (v : Value) (w : World) (h : IsT w.heap.size w L v) :
    Calls Tryz.prog 109 #[v] w fun e w' => ∃ v', e = .returned v' ∧ OwnS w.heap.size w' v' L ∧ Below w.heap.size w w' := by
  obtain ⟨a, c, rfl, hm, hcell⟩ := h
  unfold maxLen at hm
  have HC := Lib.hid hcell
  have HS := Lib.hid hs
  have hL := hs.1
  clear hcell hs
  go_enter Tryz.func109, Tryz.ntmps109
  go_wp2
  go_loopw [3, 8] (fun l i wr => ∃ j : Nat, j ≤ L.length ∧ i = .int .i64 j ∧ OwnS w.heap.size wr l (L.take j) ∧ Below w.heap.size w wr) (fun _ i _ => L.length - (intOf i).toNat)
  case atStart => exact ⟨0, by omega, rfl, ownS_nil _ _, Below.refl _ _⟩
  case round =>
    obtain ⟨j, hj, rfl, hown, hbel⟩ := hrel
    obtain ⟨sa, sc, rfl⟩ := ownS_slice hown
    have htl : (L.take j).length = j := by rw [List.length_take]; omega
    simp only [htl] at hown ⊢
    have HOwn := Lib.hid hown
    have HBel := Lib.hid hbel
    have hbs := hbel.size
    by_cases hlt : j < L.length
    · have t1 : decide ((j : Int) < (L.length : Int)) = true := by simp; omega
      have t1' : decide (j < L.length) = true := by simpa using hlt
      obtain ⟨b, off, rfl, hb0, c0⟩ := HC.out j hlt
      obtain ⟨X, hX⟩ : ∃ X : ByteArray, ⟨L[j].toArray⟩ = X := ⟨_, rfl⟩
      have hXl : X.data.toList = L[j] := by rw [← hX]
      have c1 : (wr.cell? ⟨b, off + j, none⟩) = some (.string X) := by
        rw [hbel.cell (p := ⟨b, _, none⟩) hb0, c0, ← hX]; rfl
      have hXs : X.size ≤ 281474976710656 := by
        have := HS.out.2 L[j] (List.getElem_mem _)
        rw [← bytes_len, hXl]; omega
      have hcl := fun w => clone_any X w hXs
      have HCl := Lib.hid hcl
      have htk : L.take (j + 1) = L.take j ++ [X.data.toList] := by rw [List.take_succ_eq_append_getElem hlt, hXl]
      have HTk := Lib.hid htk
      clear hX hXl c0 hcl htk hown hbel htl
      go_wp2_with (first
        | (go_at_call 67; refine (HCl.out _).mono ?_; rintro e w2 ⟨rfl, hb2⟩; have HB2 := Lib.hid hb2; have HO2 := Lib.hid (ownS_below HOwn.out hb2); have hbs2 := hb2.size; clear hb2)
        | (at_builtin; refine wpList_append_text rfl (.tmp 12) (.tmp 15) rfl w.heap.size (.slice sa j sc) (L.take j) rfl X HO2.out rfl (by rw [List.length_take]; omega) (by omega) ?_; intro v5 w5 hown5 hb5; have HO5 := Lib.hid hown5; have HB5 := Lib.hid hb5; clear hown5 hb5))
      go_roundw
      case rel => exact ⟨j + 1, by omega, by go_num, by rw [HTk.out]; exact HO5.out, (HBel.out.trans (HB2.out.mono hbs)).trans HB5.out⟩
      case measure => simp [intOf]; omega
    · obtain rfl : j = L.length := by omega
      have t1 : decide ((L.length : Int) < (L.length : Int)) = false := by simp
      have t1' : decide (L.length < L.length) = false := by simp
      clear hown hbel htl
      go_wp2
      go_ret
      exact ⟨_, rfl, by have := HOwn.out; rwa [List.take_length] at this, HBel.out⟩

set_option maxRecDepth 100000 in
set_option maxHeartbeats 4000000 in
theorem copyAttrs_any (L : List AT) (hs : smallA L) (v : Value) (w : World) (h : IsA w.heap.size w L v) :
    Calls Tryz.prog 71 #[v] w fun e w' => ∃ u, e = .returned u ∧ OwnA w.heap.size w' u L ∧ Below w.heap.size w w' := by
  obtain ⟨a, c, rfl, hm, hcell⟩ := h
  unfold maxLen at hm
  have HC := Lib.hid hcell
  have HS := Lib.hid hs
  have hL := hs.1
  clear hcell hs
  go_enter Tryz.func71, Tryz.ntmps71
  go_wp2
  go_loopw [3, 8] (fun l i wr => ∃ j : Nat, j ≤ L.length ∧ i = .int .i64 j ∧ OwnA w.heap.size wr l (L.take j) ∧ Below w.heap.size w wr) (fun _ i wr => L.length - (intOf i).toNat)
  case atStart => exact ⟨0, by omega, rfl, ownA_nil _ _, Below.refl _ _⟩
  case round =>
    obtain ⟨j, hj, rfl, hown, hbel⟩ := hrel
    have HBel := Lib.hid hbel
    have hbs := hbel.size
    obtain ⟨la, lc, hlv⟩ := ownA_slice hown
    have htl : (L.take j).length = j := by rw [List.length_take]; omega
    rw [htl] at hlv
    subst hlv
    have HTl := Lib.hid htl
    have HOwn := Lib.hid hown
    clear htl
    by_cases hlt : j < L.length
    · have t1 : decide ((j : Int) < (L.length : Int)) = true := by simp; omega
      have t1' : decide (j < L.length) = true := by simpa using hlt
      obtain ⟨b, off, u, rfl, hb0, c0, c1, ht⟩ := HC.out j hlt
      obtain ⟨ua, uc, hu, _⟩ := id ht
      obtain ⟨un, hun⟩ : ∃ n, n = L[j].2.length := ⟨_, rfl⟩
      rw [← hun] at hu
      subst hu
      clear hun
      have HT := Lib.hid ht
      obtain ⟨X, hX⟩ : ∃ X : ByteArray, ⟨L[j].1.toArray⟩ = X := ⟨_, rfl⟩
      have hXl : X.data.toList = L[j].1 := by rw [← hX]
      have d0 : (wr.cell? ⟨b, off + j * 2, none⟩) = some (.string X) := by
        rw [hbel.cell (p := ⟨b, _, none⟩) hb0, c0, ← hX]; rfl
      have d1 := (hbel.cell (p := ⟨b, off + j * 2 + 1, none⟩) hb0).trans c1
      have hXs : X.size ≤ 281474976710656 := by
        have := (HS.out.2 L[j] (List.getElem_mem _)).1
        rw [← bytes_len, hXl]; omega
      have HA := Lib.hid (Below.alloc hbel hbs (.cells #[.string X, .slice ua un uc] 60))
      have HA0 := Lib.hid (Below.alloc (Below.refl wr.heap.size wr) (Nat.le_refl _) (.cells #[.string X, .slice ua un uc] 60))
      have hst := (HS.out.2 L[j] (List.getElem_mem _)).2
      have HST := Lib.hid hst
      have htk : L.take (j + 1) = L.take j ++ [(X.data.toList, L[j].2)] := by rw [List.take_succ_eq_append_getElem hlt, hXl]
      have HTk := Lib.hid htk
      have HCl := Lib.hid (fun w => clone_any X w hXs)
      clear hX hXl c0 c1 hbel ht hown hst htk
      go_upto_region 5 with (fail)
      obtain ⟨w2, hw2⟩ : ∃ W, W = wr.alloc (.cells #[.string X, .slice ua un uc] 60) := ⟨_, rfl⟩
      rw [← hw2]
      have f0 : w2.cell? ⟨wr.heap.size, 0, none⟩ = some (.string X) := by rw [hw2]; simp
      have f1 : w2.cell? ⟨wr.heap.size, 1, none⟩ = some (.slice ua un uc) := by rw [hw2]; simp
      have hz2 : wr.heap.size < w2.heap.size := by rw [hw2]; simp
      have hB2 := HA.out
      have hO2 := ownA_below HOwn.out HA0.out
      rw [← hw2] at hB2 hO2
      have hdr : Below w2.heap.size w2 w2.drew := ⟨rfl, rfl, rfl, Nat.le_refl _, fun _ _ => rfl⟩
      have HB3 := Lib.hid (hB2.trans (hdr.mono hB2.size))
      have HO3 := Lib.hid (ownA_below hO2 hdr)
      have hz3 := hB2.size
      have hz3' : w.heap.size ≤ w2.drew.heap.size := hz3
      clear d0 d1 hdr hw2 hB2 hO2
      go_region_law (first
        | (go_simp; go_at_call 67; ((with_reducible refine (HCl.out _).mono ?_); rintro e w4 ⟨rfl, hb4⟩; have g0 : w4.cell? ⟨wr.heap.size, 0, none⟩ = some (.string X) := by { rw [hb4.cell (p := ⟨wr.heap.size, 0, none⟩) (by simp; omega)]; simpa using f0 }; have g1 : w4.cell? ⟨wr.heap.size, 1, none⟩ = some (.slice ua un uc) := by { rw [hb4.cell (p := ⟨wr.heap.size, 1, none⟩) (by simp; omega)]; simpa using f1 }; have hz4 := hb4.size; have HB4 := Lib.hid (bthen HB3.out hb4); have HO4 := Lib.hid (ownA_below HO3.out hb4); clear hb4))
        | (go_simp; go_at_call 109; ((with_reducible refine (copyTexts_any _ HST.out _ _ (HT.out.below HB4.out HB4.out.size)).mono ?_); rintro e w5 ⟨u5, rfl, hu5, hb5⟩; have HU5 := Lib.hid (ownS_isTo hu5 (by have := HST.out.1; unfold maxLen; omega)); have HB5 := Lib.hid (bthen HB4.out hb5); have HO5 := Lib.hid (ownA_below HO4.out hb5); have hz5 := hb5.size; (obtain ⟨xa, xc, hxe⟩ := ownS_slice hu5); clear hu5 hb5; subst hxe))
        | (refine step_append_attr rfl (.tmp 12) (.tmp 20) rfl w.heap.size (.slice la j lc) (L.take j) rfl X _ L[j].2 HO5.out (HU5.out.imp (fun b hb => ⟨by have := hb.1; omega, hb.2, fun e => absurd (ownA_lt HO4.out b e.symm) (by have := hb.1; omega)⟩) (fun _ _ _ => rfl)) rfl rfl (by rw [HTl.out]; omega) (by omega) ?_; intro v6 w6 hown6 hb6; have HO6 := Lib.hid hown6; have HB6 := Lib.hid hb6; clear hown6 hb6))
      all_goals
        go_wp2
        go_roundw
        case rel => exact ⟨j + 1, by omega, by go_num, by rw [HTk.out]; exact HO6.out, HB5.out.trans HB6.out⟩
        case measure => simp [intOf]; omega
    · obtain rfl : j = L.length := by omega
      have t1 : decide ((L.length : Int) < (L.length : Int)) = false := by simp
      have t1' : decide (L.length < L.length) = false := by simp
      clear hbel hown
      go_wp2
      go_ret
      exact ⟨_, rfl, by have := HOwn.out; rwa [List.take_length] at this, HBel.out⟩

def ownOk (B : Nat) (w : World) (v : Value) (b : Nat) : Prop := B ≤ b ∧ b < w.heap.size ∧ some b ≠ v.ownBlock
def OwnN (B : Nat) (w : World) (v : Value) (L : List ET) : Prop := OwnE (ownOk B w v) B w v L
theorem ownN_nil (B : Nat) (w : World) : OwnN B w (.slice none 0 0) [] := ownE_nil _ _ _
theorem ownN_below {B : Nat} {w w' : World} {v : Value} {L : List ET} (h : OwnN B w v L) (hb : Below w.heap.size w w') : OwnN B w' v L :=
  ownE_below h hb (fun b h => h.2.1) (fun b h => ⟨h.1, Nat.lt_of_lt_of_le h.2.1 hb.size, h.2.2⟩)
theorem ownN_lt {B : Nat} {w : World} {v : Value} {L : List ET} (h : OwnN B w v L) (g : Nat) (e : v.ownBlock = some g) : g < w.heap.size := by
  obtain ⟨P, h1, _⟩ := h
  exact (World.ownsRow.lt h1 g e).2
theorem ownN_isE {B : Nat} {w : World} {v : Value} {L : List ET} (h : OwnN B w v L) (hl : L.length ≤ maxLen) : IsE w.heap.size w L v := ownE_isE h hl (fun b h => h.2.1)
theorem ownA_isAo {B : Nat} {w : World} {v : Value} {L : List AT} (h : OwnA B w v L) (hl : L.length ≤ maxLen) : IsAo (fun b => B ≤ b ∧ b < w.heap.size) w L v := by
  obtain ⟨P, h1, h2⟩ := h
  by_cases hne : P = []
  · subst hne
    obtain ⟨a, c, hv⟩ := rowP_slice h1
    have : L = [] := List.eq_nil_of_length_eq_zero (by have := h2.1; simpa using this.symm)
    subst this
    exact ⟨a, c, hv, hl, fun j hj => absurd hj (by simp)⟩
  · obtain ⟨g, c, hv, hB, hg, hc⟩ := rowP_at h1 hne
    refine ⟨_, c, by rw [hv, h2.1], hl, fun j hj => ?_⟩
    have hj' : j < P.length := by rw [h2.1]; exact hj
    obtain ⟨e1, e2⟩ := h2.2 j hj hj'
    refine ⟨g, 0, P[j].2, rfl, ⟨hB, hg⟩, ?_, ?_, e2.imp (fun b hb => ⟨hb.1, hb.2.1⟩) (fun _ _ _ => rfl)⟩
    · rw [Nat.zero_add, ← e1]; exact (hc j hj').1
    · rw [Nat.zero_add]; exact (hc j hj').2
theorem newsE (w : World) (x0 x1 : Value) : ∀ j u, [x0, x1][j]? = some u → (w.alloc (.cells #[x0, x1] 27)).cell? ((⟨w.heap.size, 0, none⟩ : Addr).add j) = some u := by
  intro j u hu
  have h : (w.alloc (.cells #[x0, x1] 27)).heap[w.heap.size]? = some (.cells #[x0, x1] 27 (0, 0)) := heap_alloc_new w _
  have hadd : (⟨w.heap.size, 0, none⟩ : Addr).add j = ⟨w.heap.size, j, none⟩ := by unfold Addr.add; split <;> simp_all
  rw [hadd]
  simp only [World.cell?, h]
  simpa using hu
theorem saysN_row {B : Nat} {w w' : World} {v v' : Value} {P : List PT} {L : List ET} {X : ByteArray} {u : Value} {A : List AT} (hs : SaysE (ownOk B w v) w P L)
    (hu : IsAo (ownOk B w v) w A u) (hr : w'.ownsRow B 27 2 v' (P.length + 1) (cellsP P ++ [.string X, u])) (hg : w.grownBy w' v.ownBlock) (hat : v'.ownBlock = v.ownBlock ∨ v'.ownBlock = some w.heap.size) :
    OwnN B w' v' (L ++ [(X.data.toList, A)]) := by
  have ok : ∀ b, ownOk B w v b → ownOk B w' v' b := fun b hb => ⟨hb.1, Nat.lt_of_lt_of_le hb.2.1 hg.size, by
    rcases hat with e | e
    · rw [e]; exact hb.2.2
    · rw [e]; intro h; have := Option.some.inj h; have := hb.2.1; omega⟩
  have hc : ∀ b o, ownOk B w v b → w'.cell? ⟨b, o, none⟩ = w.cell? ⟨b, o, none⟩ := fun b o hb => by
    have := hg.block b hb.2.1 hb.2.2
    simp only [World.cell?, this]
  have hone : SaysE (ownOk B w v) w [(X.data.toList, u)] [(X.data.toList, A)] := ⟨rfl, fun j h1 h2 => by
    have : j = 0 := by simp at h1; omega
    subst this
    exact ⟨rfl, hu⟩⟩
  refine ⟨P ++ [(X.data.toList, u)], ?_, (saysE_app hs hone).imp ok hc⟩
  unfold RowE
  rw [List.length_append, cellsP_append]
  show w'.ownsRow B 27 2 v' (P.length + 1) (cellsP P ++ [strV X.data.toList, u])
  rw [strV_whole]
  exact hr
theorem step_append_entry {ops : Array Oper} {o : Oper} {a : Act} {w : World} {K : Act → World → Prop} {Q : Exit → Act → World → Prop} {E : Prop} (hgd : o.guard = none) (sl x : Operand)
    (ho : o.op = .call { callee := .builtin .append, args := #[sl, x], argTypes := #[23, 23] })
    (base : Nat) (v : Value) (L : List ET) (hs : a.eval sl = v) (X : ByteArray) (u : Value) (A : List AT) (hown : OwnN base w v L) (hu : IsAo (ownOk base w v) w A u) (hu1 : u.oneCell' = true) (hx : a.eval x = .slice (some ⟨w.heap.size, 0, none⟩) 1 1)
    (h63 : L.length + 1 ≤ 1000000) (hbase : base ≤ w.heap.size)
    (h : ∀ v' w', OwnN base w' v' (L ++ [(X.data.toList, A)]) → Below base w w' → K (a.put o.dst v') w') :
    if Region.wanted o (yielded ops a.tmps) = true then Oper.wp Tryz.prog o a (w.alloc (.cells #[.string X, u] 27)) K Q else E := by
  obtain ⟨i0, hi, hz0, hz1, hz2⟩ := info_parts infoE
  obtain ⟨P, hr, hsay⟩ := hown
  have hb : Below w.heap.size w (w.alloc (.cells #[.string X, u] 27)) := (Below.refl _ _).alloc (Nat.le_refl _) _
  have hPL := hsay.1
  have ok : ∀ b, ownOk base w v b → ownOk base (w.alloc (.cells #[.string X, u] 27)) v b := fun b hk => ⟨hk.1, Nat.lt_of_lt_of_le hk.2.1 hb.size, hk.2.2⟩
  refine step_append_lies _ hgd sl x 23 ho base 27 i0 (.agg #[.string ⟨#[]⟩, .slice none 0 0]) 2 40 Tryz.underlying23 hi hz0 hz1 hz2 rfl (by decide) v P.length (cellsP P) hs (World.ownsRow.alloc hr _) ⟨w.heap.size, 0, none⟩ 1 1 [.string X, u] hx rfl (newsE w _ _) (by intro u' hu'; simp at hu'; rcases hu' with rfl | rfl; rfl; exact hu1) (by decide) (by unfold maxLen; omega) (by omega) (by simp; omega) _ rfl ?_
  intro g cap w' hown' hgrow hat hlt
  refine h _ w' (saysN_row (hsay.imp ok (fun b o hk => hb.cell (p := ⟨b, o, none⟩) hk.2.1)) (hu.imp ok (fun b o hk => hb.cell (p := ⟨b, o, none⟩) hk.2.1)) hown' hgrow (by rcases hat with e | e; exact .inl e.symm; exact .inr (by rw [e]; rfl))) ?_
  exact ((Below.refl base w).alloc hbase _).grown hgrow (by simp; omega) (fun k e => (World.ownsRow.lt hr k e).1)

def smallE (L : List ET) : Prop := L.length ≤ 1000 ∧ ∀ e ∈ L, e.1.length ≤ 100000 ∧ smallA e.2

set_option maxRecDepth 100000 in
set_option maxHeartbeats 4000000 in
theorem copies_any (L : List ET) (hs : smallE L) (v : Value) (w : World) (h : IsE w.heap.size w L v) :
    Calls Tryz.prog 42 #[v] w fun e w' => ∃ u, e = .returned u ∧ OwnN w.heap.size w' u L ∧ Below w.heap.size w w' := by
  obtain ⟨a, c, rfl, hm, hcell⟩ := h
  unfold maxLen at hm
  have HC := Lib.hid hcell
  have HS := Lib.hid hs
  have hL := hs.1
  clear hcell hs
  go_enter Tryz.func42, Tryz.ntmps42
  go_wp2
  go_loopw [3, 8] (fun l i wr => ∃ j : Nat, j ≤ L.length ∧ i = .int .i64 j ∧ OwnN w.heap.size wr l (L.take j) ∧ Below w.heap.size w wr) (fun _ i wr => L.length - (intOf i).toNat)
  case atStart => exact ⟨0, by omega, rfl, ownN_nil _ _, Below.refl _ _⟩
  case round =>
    obtain ⟨j, hj, rfl, hown, hbel⟩ := hrel
    have HBel := Lib.hid hbel
    have hbs := hbel.size
    obtain ⟨la, lc, hlv⟩ := ownE_slice hown
    have htl : (L.take j).length = j := by rw [List.length_take]; omega
    rw [htl] at hlv
    subst hlv
    have HTl := Lib.hid htl
    have HOwn := Lib.hid hown
    clear htl
    by_cases hlt : j < L.length
    · have t1 : decide ((j : Int) < (L.length : Int)) = true := by simp; omega
      have t1' : decide (j < L.length) = true := by simpa using hlt
      obtain ⟨b, off, u, rfl, hb0, c0, c1, ht⟩ := HC.out j hlt
      have ht := IsAo.isA ht
      obtain ⟨ua, uc, hu, _⟩ := id ht
      obtain ⟨un, hun⟩ : ∃ n, n = L[j].2.length := ⟨_, rfl⟩
      rw [← hun] at hu
      subst hu
      clear hun
      have HT := Lib.hid ht
      obtain ⟨X, hX⟩ : ∃ X : ByteArray, ⟨L[j].1.toArray⟩ = X := ⟨_, rfl⟩
      have hXl : X.data.toList = L[j].1 := by rw [← hX]
      have d0 : (wr.cell? ⟨b, off + j * 2, none⟩) = some (.string X) := by
        rw [hbel.cell (p := ⟨b, _, none⟩) hb0, c0, ← hX]; rfl
      have d1 := (hbel.cell (p := ⟨b, off + j * 2 + 1, none⟩) hb0).trans c1
      have hXs : X.size ≤ 281474976710656 := by
        have := (HS.out.2 L[j] (List.getElem_mem _)).1
        rw [← bytes_len, hXl]; omega
      have HA := Lib.hid (Below.alloc hbel hbs (.cells #[.string X, .slice ua un uc] 27))
      have HA0 := Lib.hid (Below.alloc (Below.refl wr.heap.size wr) (Nat.le_refl _) (.cells #[.string X, .slice ua un uc] 27))
      have hst := (HS.out.2 L[j] (List.getElem_mem _)).2
      have HST := Lib.hid hst
      have htk : L.take (j + 1) = L.take j ++ [(X.data.toList, L[j].2)] := by rw [List.take_succ_eq_append_getElem hlt, hXl]
      have HTk := Lib.hid htk
      have HCl := Lib.hid (fun w => clone_any X w hXs)
      clear hX hXl c0 c1 hbel ht hown hst htk
      go_upto_region 5 with (fail)
      obtain ⟨w2, hw2⟩ : ∃ W, W = wr.alloc (.cells #[.string X, .slice ua un uc] 27) := ⟨_, rfl⟩
      rw [← hw2]
      have f0 : w2.cell? ⟨wr.heap.size, 0, none⟩ = some (.string X) := by rw [hw2]; simp
      have f1 : w2.cell? ⟨wr.heap.size, 1, none⟩ = some (.slice ua un uc) := by rw [hw2]; simp
      have hz2 : wr.heap.size < w2.heap.size := by rw [hw2]; simp
      have hB2 := HA.out
      have hO2 := ownN_below HOwn.out HA0.out
      rw [← hw2] at hB2 hO2
      have hdr : Below w2.heap.size w2 w2.drew := ⟨rfl, rfl, rfl, Nat.le_refl _, fun _ _ => rfl⟩
      have HB3 := Lib.hid (hB2.trans (hdr.mono hB2.size))
      have HO3 := Lib.hid (ownN_below hO2 hdr)
      have hz3 := hB2.size
      have hz3' : w.heap.size ≤ w2.drew.heap.size := hz3
      clear d0 d1 hdr hw2 hB2 hO2
      go_region_law (first
        | (go_simp; go_at_call 67; ((with_reducible refine (HCl.out _).mono ?_); rintro e w4 ⟨rfl, hb4⟩; have g0 : w4.cell? ⟨wr.heap.size, 0, none⟩ = some (.string X) := by { rw [hb4.cell (p := ⟨wr.heap.size, 0, none⟩) (by simp; omega)]; simpa using f0 }; have g1 : w4.cell? ⟨wr.heap.size, 1, none⟩ = some (.slice ua un uc) := by { rw [hb4.cell (p := ⟨wr.heap.size, 1, none⟩) (by simp; omega)]; simpa using f1 }; have hz4 := hb4.size; have HB4 := Lib.hid (bthen HB3.out hb4); have HO4 := Lib.hid (ownN_below HO3.out hb4); clear hb4))
        | (go_simp; go_at_call 71; ((with_reducible refine (copyAttrs_any _ HST.out _ _ (HT.out.below HB4.out HB4.out.size)).mono ?_); rintro e w5 ⟨u5, rfl, hu5, hb5⟩; have HU5 := Lib.hid (ownA_isAo hu5 (by have := HST.out.1; unfold maxLen; omega)); have HB5 := Lib.hid (bthen HB4.out hb5); have HO5 := Lib.hid (ownN_below HO4.out hb5); have hz5 := hb5.size; (obtain ⟨xa, xc, hxe⟩ := ownA_slice hu5); clear hu5 hb5; subst hxe))
        | (refine step_append_entry rfl (.tmp 12) (.tmp 20) rfl w.heap.size (.slice la j lc) (L.take j) rfl X _ L[j].2 HO5.out (HU5.out.imp (fun b hb => ⟨by have := hb.1; omega, hb.2, fun e => absurd (ownN_lt HO4.out b e.symm) (by have := hb.1; omega)⟩) (fun _ _ _ => rfl)) rfl rfl (by rw [HTl.out]; omega) (by omega) ?_; intro v6 w6 hown6 hb6; have HO6 := Lib.hid hown6; have HB6 := Lib.hid hb6; clear hown6 hb6))
      all_goals
        go_wp2
        go_roundw
        case rel => exact ⟨j + 1, by omega, by go_num, by rw [HTk.out]; exact HO6.out, HB5.out.trans HB6.out⟩
        case measure => simp [intOf]; omega
    · obtain rfl : j = L.length := by omega
      have t1 : decide ((L.length : Int) < (L.length : Int)) = false := by simp
      have t1' : decide (L.length < L.length) = false := by simp
      clear hbel hown
      go_wp2
      go_ret
      exact ⟨_, rfl, by have := HOwn.out; rwa [List.take_length] at this, HBel.out⟩
end Go.Proofs.YtgaaefcanfglhaaGreatDoor


namespace Go.Proofs.YtgaaefcanfglhaaGreatDoor
open Go.RowKit Go.Maps
set_option linter.unusedVariables false

theorem mapLaw : Keyed Tryz.prog 9 := string_keyed Tryz.underlying9
theorem zeroInt (w : World) : (zeroValue 3).run Tryz.prog w = .ok (.int .i64 0) w := by kernel_rfl
theorem keyLit (K : ByteArray) (h : K.size ≤ maxLen) : keyOf Tryz.prog 9 (.string K) = some (kLit K.data.toList) := WideMaps.keyOf_string_mk Tryz.underlying9 h
structure FillAt (B : Nat) (w : World) (kv mv : Value) (KS : List KL) : Prop where
  keys : OwnS (B + 1) w kv KS
  map : ∃ m n D, mv = .map (some m) ∧ B ≤ m ∧ n ≤ 100000 ∧ w.ownsMap Tryz.prog 9 (plainElem (H := Unit) Tryz.prog 3) m n D ∧ PlD KS D
theorem FillAt.kept {B : Nat} {w w' : World} {kv mv : Value} {KS : List KL} {b : Nat} (h : FillAt B w kv mv KS) (hg : w.grownBy w' (some b)) (hb : b < B) : FillAt B w' kv mv KS := by
  obtain ⟨m, n, D, e, hm, hn, ho, hp⟩ := h.map
  refine ⟨World.ownsRow.kept h.keys hg ?_, m, n, D, e, hm, hn, ho.kept hg (fun e => by have := Option.some.inj e; omega), hp⟩
  cases ek : kv.ownBlock with
  | none => exact .inl rfl
  | some g =>
    refine .inr fun e => ?_
    have := Option.some.inj e
    have := (World.ownsRow.lt h.keys g ek).1
    omega
theorem FillAt.below {B : Nat} {w w' : World} {kv mv : Value} {KS : List KL} (h : FillAt B w kv mv KS) (hb : Below w.heap.size w w') : FillAt B w' kv mv KS := by
  obtain ⟨m, n, D, e, hm, hn, ho, hp⟩ := h.map
  exact ⟨ownS_below h.keys hb, m, n, D, e, hm, hn, ho.kept (grown_below (r := none) hb) (by simp), hp⟩
theorem FillAt.drew {B : Nat} {w : World} {kv mv : Value} {KS : List KL} (h : FillAt B w kv mv KS) : FillAt B w.drew kv mv KS := h.below (Below.drew (Below.refl _ _))

structure FiAt (w : World) (b : Nat) (lv : Value) (KS : List KL) (j : Nat) (wr : World) : Prop where
  ex : ∃ kv D, BoxX wr b lv 0 1 kv (.map (some w.heap.size)) ∧ OwnS (w.heap.size + 1) wr kv (KS.take j) ∧ wr.ownsMap Tryz.prog 9 (plainElem (H := Unit) Tryz.prog 3) w.heap.size j D ∧ PlD (KS.take j) D
  grown : w.grownBy wr (some b)
  size : w.heap.size + 1 ≤ wr.heap.size

set_option maxRecDepth 100000 in
set_option maxHeartbeats 4000000 in
theorem fill_any (L : List ET) (hs : smallE L) (b : Nat) (lv : Value) (w : World) (hbx : BoxX w b lv 0 1 (.slice none 0 0) (.map none)) (h : IsE b w L lv) :
    Calls Tryz.prog 65 #[.pointer (some ⟨b, 0, none⟩)] w fun e w' => e = .returned (.tuple #[]) ∧ ∃ kv mv, BoxX w' b lv 0 1 kv mv ∧ FillAt w.heap.size w' kv mv (keysE L) ∧ w.grownBy w' (some b) := by
  obtain ⟨a, c, rfl, hm, hcell⟩ := h
  unfold maxLen at hm
  have hbl := hbx.lt
  have HC := Lib.hid hcell
  have HS := Lib.hid hs
  have hL := hs.1
  obtain ⟨c0, c1, c2, c4, c5⟩ := hbx.cells
  have z5 := hbx.free 5
  have hmm := @run_makeMap Tryz.prog
  have hst : FiAt w b (.slice a L.length c) (keysE L) 0 ((w.alloc (.map #[] 0)).setCell ⟨b, 5, none⟩ (.map (some w.heap.size))) := by
    have hA : Below w.heap.size w (w.alloc (.map #[] 0)) := (Below.refl _ _).alloc (Nat.le_refl _) _
    refine ⟨⟨.slice none 0 0, .map [], (hbx.below hA).set5, ownS_nil _ _, ?_, plD_nil⟩, (grown_below hA).trans (grown_set _), by simp [World.setCell]⟩
    exact ((World.ownsMap_made w Tryz.prog 9 (plainElem (H := Unit) Tryz.prog 3)).kept (grown_set (b := b) (i := 5) _) (fun e => by have := Option.some.inj e; omega))
  have HSt := Lib.hid hst
  clear hcell hs c1 c2 hbx hst
  go_enter Tryz.func65, Tryz.ntmps65
  go_upto_region 1 with (fail)
  obtain ⟨W, hW⟩ : ∃ W, W = (w.setCell ⟨b, 5, none⟩ (.map (some w.heap.size))).alloc (.map #[] 0) := ⟨_, rfl⟩
  rw [← hW]
  rw [← World.setCell_alloc_past (w := w) (.map #[] 0) b 5 (.map (some w.heap.size)) hbl] at hW
  have HW : Hid (FiAt w b (.slice a L.length c) (keysE L) 0 W) := Lib.hid (by rw [hW]; exact HSt.out)
  clear hW
  obtain ⟨kv0, D0, hb0, _, _, _⟩ := HW.out.ex
  have d0 := hb0.cells.1
  clear hb0 c0 c4 c5 z5
  go_wp2_with (fail)
  go_loopw [16] (fun i wr => ∃ j : Nat, j ≤ L.length ∧ i = .int .i64 j ∧ FiAt w b (.slice a L.length c) (keysE L) j wr) (fun i wr => L.length - (intOf i).toNat)
  case atStart => exact ⟨0, by omega, rfl, HW.out⟩
  case round =>
    clear d0
    obtain ⟨j, hj, rfl, hat⟩ := hrel
    obtain ⟨⟨kv, D, hbx, hown, hmap, hpl⟩, hgr, hsz⟩ := hat
    have hjk : j ≤ (keysE L).length := by rw [keysE_len]; exact hj
    have htl : ((keysE L).take j).length = j := by rw [List.length_take]; omega
    obtain ⟨ka, kc, hkv⟩ := ownS_slice hown
    rw [htl] at hkv
    subst hkv
    have HTl := Lib.hid htl
    have HGr := Lib.hid hgr
    have hbel := below_ofGrown hgr (by omega)
    have HBel := Lib.hid hbel
    have hrs := hgr.size
    by_cases hlt : j < L.length
    · have t1 : decide ((j : Int) < (L.length : Int)) = true := by simp; omega
      have t1' : decide (j < L.length) = true := by simpa using hlt
      obtain ⟨bb, off, u, rfl, hb0, c0, c1, ht⟩ := HC.out j hlt
      obtain ⟨ua, uc, hu, _⟩ := id ht
      obtain ⟨un, hun⟩ : ∃ n, n = L[j].2.length := ⟨_, rfl⟩
      rw [← hun] at hu
      subst hu
      obtain ⟨X, hX⟩ : ∃ X : ByteArray, ⟨L[j].1.toArray⟩ = X := ⟨_, rfl⟩
      have hXl : X.data.toList = L[j].1 := by rw [← hX]
      have d0 : (wr.cell? ⟨bb, off + j * 2, none⟩) = some (.string X) := by
        rw [hbel.cell (p := ⟨bb, _, none⟩) hb0, c0, ← hX]; rfl
      have d1 := (hbel.cell (p := ⟨bb, off + j * 2 + 1, none⟩) hb0).trans c1
      have hXs : X.size ≤ 100000 := by
        have := (HS.out.2 L[j] (List.getElem_mem _)).1
        rw [← bytes_len, hXl]; omega
      have hkey := fun W => treeKey_any X hXs ua un uc W
      obtain ⟨K, hK⟩ : ∃ K, K = keyB (keyD X.data.toList) := ⟨_, rfl⟩
      rw [← hK] at hkey
      have hKl : K.data.toList = kE L[j] := by rw [hK, keyB_list, hXl]; rfl
      have hKs : K.size ≤ 100000 := by
        have := keyB_size X.data.toList
        rw [← hK, bytes_len] at this
        omega
      have HKey := Lib.hid hkey
      have hnew : (keysE L).take (j + 1) = (keysE L).take j ++ [K.data.toList] := by
        rw [List.take_succ_eq_append_getElem (by rw [keysE_len]; exact hlt), keysE_at L j hlt, hKl]
      have HNew := Lib.hid hnew
      -- the box of the entry
      obtain ⟨W1, hW1⟩ : ∃ W1, W1 = wr.alloc (.cells #[.string X, .slice ua un uc] 27) := ⟨_, rfl⟩
      have hb1 : Below wr.heap.size wr W1 := by rw [hW1]; exact (Below.refl _ _).alloc (Nat.le_refl _) _
      have f0 : W1.cell? ⟨wr.heap.size, 0, none⟩ = some (.string X) := by rw [hW1]; simp
      have f1 : W1.cell? ⟨wr.heap.size, 1, none⟩ = some (.slice ua un uc) := by rw [hW1]; simp
      have HB1 := Lib.hid hb1
      have HBx := Lib.hid hbx
      have HOwn := Lib.hid hown
      have HMap := Lib.hid hmap
      have HPl := Lib.hid hpl
      clear hKl hK hX hXl c0 c1 ht hun hkey hnew hbx hown hmap hpl hgr hbel hb1 HBel
      go_upto_region 4 with (fail)
      rw [← hW1]
      clear hW1 d0 d1
      go_upto_region 5 with (go_at_call 9; refine (HKey.out _).mono ?_; rintro e w2 ⟨rfl, hb2⟩; have HB2 := Lib.hid (bthen HB1.out hb2); clear hb2)
      clear f0 f1
      have HBx2 := Lib.hid (HBx.out.below HB2.out)
      have HOwn2 := Lib.hid (ownS_below HOwn.out HB2.out)
      have HMap2 := Lib.hid (HMap.out.kept (grown_below (r := none) HB2.out) (by simp))
      have HGr2 := Lib.hid (HGr.out.trans (grown_below HB2.out))
      obtain ⟨g0, _, _, g4, g5⟩ := HBx2.out.cells
      have hw2 := HB2.out.size
      have hhas := (HPl.out.2 K.data.toList).1
      have hlit := keyLit K (by unfold maxLen; omega)
      have HLit := Lib.hid hlit
      obtain ⟨bh, hbh⟩ : ∃ bh, has D (kLit K.data.toList) = bh := ⟨_, rfl⟩
      rw [hbh] at hhas
      have HHas := Lib.hid hhas
      have hbh' : Maps.has D (kLit K.data.toList) = bh := hbh
      have HBh := Lib.hid hbh
      clear hhas hlit hbh
      go_upto_region 6 with (at_builtin; refine wpList_append_text rfl (.tmp 27) (.tmp 29) rfl (w.heap.size + 1) (.slice ka j kc) ((keysE L).take j) rfl K HOwn2.out rfl (by rw [HTl.out]; omega) (by omega) ?_; intro v5 w5 hown5 hb5; (obtain ⟨va, vc, hv5⟩ := ownS_slice hown5); (obtain ⟨vn, hvn⟩ : ∃ n, n = ((keysE L).take j ++ [K.data.toList]).length := ⟨_, rfl⟩); rw [← hvn] at hv5; subst hv5; have HO5 := Lib.hid hown5; have HB5 := Lib.hid hb5; have HBx5 := Lib.hid (HBx2.out.same (hb5.block _ (by omega))); have z4 := HBx5.out.free 4; have g4' := HBx5.out.cells.2.2.2.1; clear hown5 hb5 hvn)
      obtain ⟨w6, hw6⟩ : ∃ W, W = w5.setCell ⟨b, 4, none⟩ (.slice va vn vc) := ⟨_, rfl⟩
      rw [← hw6]
      have HBx6 : Hid (BoxX w6 b (.slice (some ⟨bb, off, none⟩) L.length c) 0 1 (.slice va vn vc) (.map (some w.heap.size))) := Lib.hid (by rw [hw6]; exact HBx5.out.set4)
      have hmb5 : w2.heap.size ≤ w5.heap.size := HB5.out.size
      have HMap6 : Hid (w6.ownsMap Tryz.prog 9 (plainElem (H := Unit) Tryz.prog 3) w.heap.size j D) := Lib.hid (by
        rw [hw6]
        have h5 : w5.ownsMap Tryz.prog 9 (plainElem (H := Unit) Tryz.prog 3) w.heap.size j D := by
          obtain ⟨es, ck, hb, r⟩ := HMap2.out
          exact ⟨es, ck, (HB5.out.block _ (by omega)).trans hb, r⟩
        exact h5.kept (grown_set (b := b) (i := 4) _) (fun e => by have := Option.some.inj e; omega))
      have HOwn6 : Hid (OwnS (w.heap.size + 1) w6 (.slice va vn vc) ((keysE L).take (j + 1))) := Lib.hid (by
        rw [HNew.out, hw6]
        exact World.ownsRow.kept HO5.out (grown_set (b := b) (i := 4) _) (by
          cases va with
          | none => exact .inl rfl
          | some ad =>
              refine .inr fun e => ?_
              have h1 := (World.ownsRow.lt HO5.out ad.block rfl).1
              have h2 : ad.block = b := Option.some.inj e
              omega))
      have HGr6 : Hid (w.grownBy w6 (some b)) := Lib.hid (by
        rw [hw6]
        refine World.grownBy.trans (b := w5) ?_ (grown_set _)
        exact ⟨HB5.out.os.trans HGr2.out.os, HB5.out.tape.trans HGr2.out.tape, HB5.out.output.trans HGr2.out.output, Nat.le_trans HGr2.out.size HB5.out.size, fun k hk hne => (HB5.out.block k (by omega)).trans (HGr2.out.block k hk hne)⟩)
      have hz6 : w.heap.size + 1 ≤ w6.heap.size := by rw [hw6]; simp [World.setCell]; omega
      clear hw6 g0 g4 g5 z4 g4'
      obtain ⟨_, _, _, x4, x5⟩ := HBx6.out.cells
      have hval : plainElem (H := Unit) Tryz.prog 3 (.int .i64 (j : Int)) = some (.lit (.int .i64 (j : Int)), []) := plainElem_int Tryz.underlying3 (WalkArith.wf_i64 ⟨by omega, by omega⟩)
      have HVal := Lib.hid hval
      clear hval
      by_cases hne : K.data.toList = []
      · obtain ⟨e1, e2⟩ := bytes_nil hne
        have e3 : (K.toList == []) = true := by rw [e1]; rfl
        have hbf : bh = false := by have := HHas.out; rw [hne] at this; simpa using this
        subst hbf
        have HP : Hid (PlD ((keysE L).take (j + 1)) D) := Lib.hid (by rw [HNew.out, hne]; exact plD_skip HPl.out (.inr rfl))
        clear hne
        go_wp2_with (at_lookup; refine wpList_lookup_own_ok_int _ rfl _ _ 81 rfl 9 3 .i64 mapLaw Tryz.underlying81 Tryz.underlying3 (zeroInt _) w.heap.size j D rfl HMap6.out _ _ rfl HLit.out ?_; intro cc hat hwc; have HAt := Lib.hid hat; clear hat hwc)
        go_roundw
        case rel => exact ⟨j + 1, by omega, by go_num, ⟨⟨_, _, HBx6.out, HOwn6.out, HMap6.out.mono (by omega), HP.out⟩, HGr6.out, hz6⟩⟩
        case measure => simp [intOf]; omega
      · obtain ⟨e1, e2⟩ := bytes_some hne
        have e3 : (K.toList == []) = false := by simpa using e1
        cases bh with
        | true =>
          have HP : Hid (PlD ((keysE L).take (j + 1)) D) := Lib.hid (by rw [HNew.out]; exact plD_skip HPl.out (.inl HHas.out.symm))
          clear hne
          go_wp2_with (at_lookup; refine wpList_lookup_own_ok_int _ rfl _ _ 81 rfl 9 3 .i64 mapLaw Tryz.underlying81 Tryz.underlying3 (zeroInt _) w.heap.size j D rfl HMap6.out _ _ rfl HLit.out ?_; intro cc hat hwc; have HAt := Lib.hid hat; clear hat hwc)
          go_roundw
          case rel => exact ⟨j + 1, by omega, by go_num, ⟨⟨_, _, HBx6.out, HOwn6.out, HMap6.out.mono (by omega), HP.out⟩, HGr6.out, hz6⟩⟩
          case measure => simp [intOf]; omega
        | false =>
          have HP : Hid (PlD ((keysE L).take (j + 1)) (D.put (kLit K.data.toList) (.lit (.int .i64 (j : Nat))))) := Lib.hid (by
            have := plD_put HPl.out hne HBh.out
            rwa [HTl.out, ← HNew.out] at this)
          clear hne
          go_wp2_with (first
            | (at_lookup; refine wpList_lookup_own_ok_int _ rfl _ _ 81 rfl 9 3 .i64 mapLaw Tryz.underlying81 Tryz.underlying3 (zeroInt _) w.heap.size j D rfl HMap6.out _ _ rfl HLit.out ?_; intro cc hat hwc; have HAt := Lib.hid hat; clear hat hwc)
            | (at_mapUpdate; refine wpList_mapUpdate_own _ rfl _ _ _ 81 rfl 9 3 mapLaw Tryz.underlying81 _ w.heap.size j D rfl HMap6.out (by unfold maxLen; omega) _ _ (kLit K.data.toList) rfl rfl HLit.out (.lit (.int .i64 (j : Nat))) [] HVal.out ?_; intro w7 hown7 hg7; have HM7 := Lib.hid hown7; have HG7 := Lib.hid hg7; clear hown7 hg7))
          go_roundw
          case rel =>
            refine ⟨j + 1, by omega, by go_num, ⟨⟨.slice va vn vc, _, HBx6.out.same (HG7.out.block _ (by omega) (fun e => by have := Option.some.inj e; omega)), World.ownsRow.kept HOwn6.out HG7.out ?_, HM7.out, HP.out⟩, ?_, Nat.le_trans hz6 HG7.out.size⟩⟩
            · cases va with
              | none => exact .inl rfl
              | some ad =>
                  refine .inr fun e => ?_
                  have h1 := (World.ownsRow.lt HOwn6.out ad.block rfl).1
                  have h2 : ad.block = w.heap.size := Option.some.inj e
                  omega
            · exact ⟨HG7.out.os.trans HGr6.out.os, HG7.out.tape.trans HGr6.out.tape, HG7.out.output.trans HGr6.out.output, Nat.le_trans HGr6.out.size HG7.out.size, fun k hk hne => (HG7.out.block k (by omega) (fun e => by have := Option.some.inj e; omega)).trans (HGr6.out.block k hk hne)⟩
          case measure => simp [intOf]; omega
    · obtain rfl : j = L.length := by omega
      have t1 : decide ((L.length : Int) < (L.length : Int)) = false := by simp
      have t1' : decide (L.length < L.length) = false := by simp
      have HF : Hid (∃ kv mv, BoxX wr b (.slice a L.length c) 0 1 kv mv ∧ FillAt w.heap.size wr kv mv (keysE L) ∧ w.grownBy wr (some b)) := Lib.hid ⟨_, _, hbx, ⟨by have := hown; rwa [List.take_of_length_le (by rw [keysE_len]; exact Nat.le_refl _)] at this, w.heap.size, _, D, rfl, Nat.le_refl _, by omega, hmap, by rwa [List.take_of_length_le (by rw [keysE_len]; exact Nat.le_refl _)] at hpl⟩, hgr⟩
      clear hbx hown hmap hpl hgr hbel
      go_wp2
      go_end0
      exact ⟨rfl, HF.out⟩
end Go.Proofs.YtgaaefcanfglhaaGreatDoor


namespace Go.Proofs.YtgaaefcanfglhaaGreatDoor
open Go.RowKit Go.Maps
set_option linter.unusedVariables false

structure Made (b : Nat) (w : World) (lv : Value) (KS : List KL) (kv mv : Value) : Prop where
  box : BoxX w b lv 1 0 kv mv
  fill : ∃ B, b < B ∧ B ≤ w.heap.size ∧ FillAt B w kv mv KS
def Idx (b : Nat) (w : World) (lv : Value) (KS : List KL) : Prop := BoxX w b lv 0 0 (.slice none 0 0) (.map none) ∨ ∃ kv mv, Made b w lv KS kv mv
theorem Made.below {b : Nat} {w w' : World} {lv kv mv : Value} {KS : List KL} (h : Made b w lv KS kv mv) (hb : Below w.heap.size w w') : Made b w' lv KS kv mv := by
  obtain ⟨B, h1, h2, h3⟩ := h.fill
  exact ⟨h.box.below hb, B, h1, Nat.le_trans h2 hb.size, h3.below hb⟩
theorem Idx.lt {b : Nat} {w : World} {lv : Value} {KS : List KL} (h : Idx b w lv KS) : b < w.heap.size := by
  rcases h with h | ⟨kv, mv, h⟩
  · exact h.lt
  · exact h.box.lt
theorem Made.isT {b : Nat} {w : World} {lv kv mv : Value} {KS : List KL} (h : Made b w lv KS kv mv) (hl : KS.length ≤ maxLen) : IsT w.heap.size w KS kv := by
  obtain ⟨B, _, _, h3⟩ := h.fill
  exact ownS_isT h3.keys hl

theorem doX_any (L : List ET) (hs : smallE L) (b : Nat) (lv : Value) (w : World) (hx : Idx b w lv (keysE L)) (h : IsE b w L lv) :
    Calls Tryz.prog 64 #[.pointer (some ⟨b, 1, none⟩), .func (.func 65) #[.pointer (some ⟨b, 0, none⟩)] #[]] w fun e w' => e = .returned (.tuple #[]) ∧ ∃ kv mv, Made b w' lv (keysE L) kv mv ∧ w.grownBy w' (some b) := by
  rcases hx with hbx | ⟨kv, mv, hm⟩
  · have hbl := hbx.lt
    refine (doX_first b lv (fun w' kv mv => FillAt w.heap.size w' kv mv (keysE L)) w hbx (fun w1 hb1 hg1 hz1 => ?_)).mono ?_
    · have := fill_any L hs b lv w1 hb1 (h.below (below_ofGrown hg1 (by omega)) (Nat.le_refl _))
      rw [hz1] at this
      exact this
    · rintro e w' ⟨rfl, w3, kv, mv, rfl, hb3, hf3, hg3⟩
      refine ⟨rfl, kv, mv, ⟨hb3.drew.set1.set2, w.heap.size, hbl, ?_, ?_⟩, ?_⟩
      · have := hg3.size
        simpa [World.setCell] using this
      · exact ((hf3.drew).kept (grown_set _) hbl).kept (grown_set _) hbl
      · exact ((grown_drew hg3).trans (grown_set _)).trans (grown_set _)
  · refine (doX_done ⟨b, 1, none⟩ _ w hm.box.cells.2.1).mono ?_
    rintro e w' ⟨rfl, rfl⟩
    exact ⟨rfl, kv, mv, hm, World.grownBy.refl _ _⟩

set_option maxRecDepth 100000 in
set_option maxHeartbeats 2000000 in
theorem all_any (L : List ET) (hs : smallE L) (b : Nat) (lv : Value) (w : World) (hx : Idx b w lv (keysE L)) (h : IsE b w L lv) :
    Calls Tryz.prog 38 #[.pointer (some ⟨b, 0, none⟩)] w fun e w' => ∃ kv mv, e = .returned kv ∧ Made b w' lv (keysE L) kv mv ∧ w.grownBy w' (some b) := by
  have HD := Lib.hid (doX_any L hs b lv w hx h)
  have hmf : ∀ (fn : Fn) (first cap : Array Value) (w : World), (Instr.makeFunc fn first cap).run Tryz.prog w = .ok (.func fn first cap) w := fun _ _ _ _ => rfl
  clear hx h
  go_enter Tryz.func38, Tryz.ntmps38
  go_wp2_with (go_at_call 64; refine (HD.out).mono ?_; rintro e w2 ⟨rfl, kv, mv, hm, hg⟩; have g4 := hm.box.cells.2.2.2.1; have HM := Lib.hid hm; have HG := Lib.hid hg; clear hm hg)
  go_ret
  exact ⟨kv, mv, rfl, HM.out, HG.out⟩

set_option maxRecDepth 100000 in
set_option maxHeartbeats 2000000 in
theorem place_gen (KS : List KL) (R : World → Prop) (b : Nat) (lv : Value) (K : ByteArray) (hK : K.size ≤ 100000) (w : World)
    (hd : Calls Tryz.prog 64 #[.pointer (some ⟨b, 1, none⟩), .func (.func 65) #[.pointer (some ⟨b, 0, none⟩)] #[]] w fun e w' => e = .returned (.tuple #[]) ∧ ∃ kv mv, Made b w' lv KS kv mv ∧ R w') :
    Calls Tryz.prog 37 #[.pointer (some ⟨b, 0, none⟩), .string K] w fun e w' => e = .returned (.int .i64 (findK KS K.data.toList)) ∧ ∃ kv mv, Made b w' lv KS kv mv ∧ R w' := by
  have HD := Lib.hid hd
  have hmf : ∀ (fn : Fn) (first cap : Array Value) (w : World), (Instr.makeFunc fn first cap).run Tryz.prog w = .ok (.func fn first cap) w := fun _ _ _ _ => rfl
  have HLit := Lib.hid (keyLit K (by unfold maxLen; omega))
  obtain ⟨k, hk⟩ : ∃ k, K.data.toList = k := ⟨_, rfl⟩
  rw [hk] at HLit
  obtain ⟨I, hI⟩ : ∃ I, findK KS K.data.toList = I := ⟨_, rfl⟩
  rw [hI]
  rw [hk] at hI
  have HI := Lib.hid hI
  clear hd hk hI
  go_enter Tryz.func37, Tryz.ntmps37
  go_upto_region 2 with (go_at_call 64; refine (HD.out).mono ?_; rintro e w2 ⟨rfl, kv, mv, hm, hg⟩; have HM := Lib.hid hm; have HG := Lib.hid hg; clear hm hg)
  obtain ⟨_, _, _, g4, g5⟩ := HM.out.box.cells
  obtain ⟨B, hB1, hB2, hfl⟩ := HM.out.fill
  obtain ⟨m, n, D, hmv, hmB, hn, hown, hpl⟩ := hfl.map
  subst hmv
  have hhas := (hpl.2 k).1
  have HAt := Lib.hid (hpl.2 k).2
  have HOwn := Lib.hid hown
  have HNo := Lib.hid hpl
  clear hfl hpl hown
  by_cases hc : (KS.contains k && !k.isEmpty) = true
  · rw [hc] at hhas
    obtain ⟨hc1, hc2⟩ := Bool.and_eq_true_iff.1 hc
    have hne : k ≠ [] := by rintro rfl; simp at hc2
    obtain ⟨i, hi, e, _⟩ := idxK_some (KS := KS) (k := k) (by simpa using hc1)
    have hfind : I = (i : Int) := by
      rw [← HI.out]; unfold findK; rw [if_neg hne, e]
    have HF := Lib.hid hfind
    have hat := HAt.out i e hne (.lit (.int .i64 0))
    have HA := Lib.hid hat
    clear hat hfind e hc hc1 hc2 hne
    go_wp2_with (at_lookup; refine wpList_lookup_own_ok_int _ rfl _ _ 81 rfl 9 3 .i64 mapLaw Tryz.underlying81 Tryz.underlying3 (zeroInt _) m n D rfl HOwn.out _ _ rfl HLit.out ?_; intro cc hat2 hwc; (obtain rfl : cc = (i : Int) := by { have := hat2.symm.trans HA.out; injection this with this; injection this }); clear hat2 hwc)
    go_ret
    exact ⟨by rw [HF.out]; rfl, _, _, HM.out, HG.out⟩
  · have hc' : (KS.contains k && !k.isEmpty) = false := by simpa using hc
    rw [hc'] at hhas
    have hfind : I = -1 := by
      rw [← HI.out]; unfold findK
      split
      · rfl
      · rename_i hne
        exact idxK_no (fun hm => by
          have : k.isEmpty = false := by cases k <;> simp_all
          simp [hm, this] at hc')
    have HF := Lib.hid hfind
    clear hfind hc hc'
    go_wp2_with (at_lookup; refine wpList_lookup_own_ok_int _ rfl _ _ 81 rfl 9 3 .i64 mapLaw Tryz.underlying81 Tryz.underlying3 (zeroInt _) m n D rfl HOwn.out _ _ rfl HLit.out ?_; intro cc hat2 hwc; clear hat2 hwc)
    go_ret
    exact ⟨by rw [HF.out]; rfl, _, _, HM.out, HG.out⟩

theorem place_any (L : List ET) (hs : smallE L) (b : Nat) (lv : Value) (K : ByteArray) (hK : K.size ≤ 100000) (w : World) (hx : Idx b w lv (keysE L)) (h : IsE b w L lv) :
    Calls Tryz.prog 37 #[.pointer (some ⟨b, 0, none⟩), .string K] w fun e w' => e = .returned (.int .i64 (findK (keysE L) K.data.toList)) ∧ ∃ kv mv, Made b w' lv (keysE L) kv mv ∧ w.grownBy w' (some b) :=
  place_gen (keysE L) (fun w' => w.grownBy w' (some b)) b lv K hK w (doX_any L hs b lv w hx h)
theorem place_made (KS : List KL) (b : Nat) (lv kv mv : Value) (K : ByteArray) (hK : K.size ≤ 100000) (w : World) (hm : Made b w lv KS kv mv) :
    Calls Tryz.prog 37 #[.pointer (some ⟨b, 0, none⟩), .string K] w fun e w' => e = .returned (.int .i64 (findK KS K.data.toList)) ∧ w = w' :=
  (place_gen KS (fun w' => w' = w) b lv K hK w ((doX_done ⟨b, 1, none⟩ _ w hm.box.cells.2.1).mono fun e w' h => by obtain ⟨rfl, rfl⟩ := h; exact ⟨rfl, kv, mv, hm, rfl⟩)).mono fun e w' h => by obtain ⟨rfl, _, _, _, rfl⟩ := h; exact ⟨rfl, rfl⟩

set_option maxRecDepth 100000 in
set_option maxHeartbeats 2000000 in
theorem aboveQ_any (X Y : ByteArray) (b o : Nat) (w : World) (hc : w.cell? ⟨b, o, none⟩ = some (.string Y)) :
    Calls Tryz.prog 69 #[.string X, .pointer (some ⟨b, o, none⟩)] w fun e w' => e = .returned (.bool (gtB X.data.toList Y.data.toList)) ∧ w = w' := by
  go_enter Tryz.func69, Tryz.ntmps69
  go_wp2
  go_ret
  exact ⟨by unfold gtB; rw [← ByteArray.toList_eq, ← ByteArray.toList_eq]; rfl, rfl⟩

def idxG (L : List KL) (y : KL) : Int := match L.findIdx? (fun x => gtB x y) with
  | some k => (k : Int)
  | none => -1
theorem idxG_at {L : List KL} {y : KL} (j : Nat) (hj : j < L.length) (h : ∀ k (hk : k < L.length), k < j → gtB L[k] y = false) (he : gtB L[j] y = true) : idxG L y = j := by
  have : L.findIdx? (fun x => gtB x y) = some j := by
    rw [List.findIdx?_eq_some_iff_getElem]
    exact ⟨hj, he, fun k hk => by simpa using h k (by omega) hk⟩
  unfold idxG; rw [this]
theorem idxG_no {L : List KL} {y : KL} (h : ∀ k (hk : k < L.length), gtB L[k] y = false) : idxG L y = -1 := by
  have : L.findIdx? (fun x => gtB x y) = none := by
    rw [List.findIdx?_eq_none_iff]
    intro x hx
    obtain ⟨k, hk, rfl⟩ := List.getElem_of_mem hx
    exact h k hk
  unfold idxG; rw [this]
theorem aboveK_idx (L : List KL) (y : KL) : (aboveK L y : Int) = if idxG L y < 0 then (L.length : Int) else idxG L y := by
  unfold aboveK idxG
  cases h : L.findIdx? (fun x => gtB x y) with
  | none => simp
  | some k => rw [if_neg (by simp)]; rfl
theorem aboveK_le (L : List KL) (y : KL) : aboveK L y ≤ L.length := by
  unfold aboveK
  cases h : L.findIdx? (fun x => gtB x y) with
  | none => simp
  | some k =>
    rw [List.findIdx?_eq_some_iff_getElem] at h
    obtain ⟨hk, _⟩ := h
    simp; omega

set_option maxRecDepth 100000 in
set_option maxHeartbeats 2000000 in
theorem indexK_any (L : List KL) (hs : L.length ≤ 1000000) (v : Value) (Y : ByteArray) (pb po : Nat) (w : World) (h : IsT w.heap.size w L v) (hc : w.cell? ⟨pb, po, none⟩ = some (.string Y)) :
    Calls Tryz.prog 68 #[v, .func (.func 69) #[] #[.pointer (some ⟨pb, po, none⟩)]] w fun e w' => e = .returned (.int .i64 (idxG L Y.data.toList)) ∧ w = w' := by
  obtain ⟨a, c, rfl, hm, hcell⟩ := h
  unfold maxLen at hm
  have HC := Lib.hid hcell
  have HY := Lib.hid hc
  obtain ⟨I, hI⟩ : ∃ I, idxG L Y.data.toList = I := ⟨_, rfl⟩
  rw [hI]
  have HI := Lib.hid hI
  clear hcell hc hI
  go_enter Tryz.func68, Tryz.ntmps68
  go_wp2
  go_loopw [8] (fun i wr => ∃ j : Nat, j ≤ L.length ∧ i = .int .i64 j ∧ Hid (∀ k (hk : k < L.length), k < j → gtB L[k] Y.data.toList = false) ∧ w = wr) (fun i wr => L.length - (intOf i).toNat)
  case atStart => exact ⟨0, by omega, rfl, Lib.hid (fun k _ h => absurd h (by omega)), rfl⟩
  case round =>
    obtain ⟨j, hj, rfl, HNo, rfl⟩ := hrel
    by_cases hlt : j < L.length
    · have t1 : decide ((j : Int) < (L.length : Int)) = true := by simp; omega
      have t1' : decide (j < L.length) = true := by simpa using hlt
      obtain ⟨b, off, rfl, hb0, c0⟩ := HC.out j hlt
      obtain ⟨X, hX⟩ : ∃ X : ByteArray, ⟨L[j].toArray⟩ = X := ⟨_, rfl⟩
      have hXl : X.data.toList = L[j] := by rw [← hX]
      have d0 : (w.cell? ⟨b, off + j, none⟩) = some (.string X) := by
        rw [c0, ← hX]; rfl
      have hab := aboveQ_any X Y pb po w HY.out
      rw [hXl] at hab
      obtain ⟨g, hg⟩ : ∃ g, gtB L[j] Y.data.toList = g := ⟨_, rfl⟩
      rw [hg] at hab
      have HAb := Lib.hid hab
      have HG := Lib.hid hg
      clear hX hXl c0 hab hg
      cases g with
      | true =>
        have HR := Lib.hid (HI.out.symm.trans (idxG_at j hlt HNo.out HG.out))
        go_wp2_with (go_at_call 69; refine (HAb.out).mono ?_; rintro e w2 ⟨rfl, rfl⟩)
        go_ret
        exact ⟨by rw [HR.out]; rfl, rfl⟩
      | false =>
        have HN : Hid (∀ k (hk : k < L.length), k < j + 1 → gtB L[k] Y.data.toList = false) := Lib.hid (fun k h1 h3 => by
            by_cases hk : k < j
            · exact HNo.out k h1 hk
            · obtain rfl : k = j := by omega
              exact HG.out)
        go_wp2_with (go_at_call 69; refine (HAb.out).mono ?_; rintro e w2 ⟨rfl, rfl⟩)
        go_roundw
        case rel => exact ⟨j + 1, by omega, by go_num, HN, by first | rfl | trivial⟩
        case measure => simp [intOf]; omega
    · obtain rfl : j = L.length := by omega
      have t1 : decide ((L.length : Int) < (L.length : Int)) = false := by simp
      have t1' : decide (L.length < L.length) = false := by simp
      have HR := Lib.hid (HI.out.symm.trans (idxG_no (fun k hk => HNo.out k hk hk)))
      go_wp2
      go_ret
      exact ⟨by rw [HR.out]; rfl, rfl⟩

set_option maxRecDepth 100000 in
set_option maxHeartbeats 2000000 in
theorem aboveX_any (L : List ET) (hs : smallE L) (b : Nat) (lv : Value) (K : ByteArray) (w : World) (hx : Idx b w lv (keysE L)) (h : IsE b w L lv) :
    Calls Tryz.prog 40 #[.pointer (some ⟨b, 0, none⟩), .string K] w fun e w' => e = .returned (.int .i64 (aboveK (keysE L) K.data.toList)) ∧ ∃ kv mv, Made b w' lv (keysE L) kv mv ∧ w.grownBy w' (some b) := by
  have hbl := hx.lt
  obtain ⟨la, lc, hlv⟩ := IsE.sl h
  have HMf : Hid (∀ (fn : Fn) (first cap : Array Value) (w : World), (Instr.makeFunc fn first cap).run Tryz.prog w = .ok (.func fn first cap) w) := Lib.hid (fun _ _ _ _ => rfl)
  have hmf := HMf.out
  obtain ⟨W, hW⟩ : ∃ W, W = w.alloc (.cells #[.string K] 9) := ⟨_, rfl⟩
  have hbW : Below w.heap.size w W := by rw [hW]; exact (Below.refl _ _).alloc (Nat.le_refl _) _
  have hk : W.cell? ⟨w.heap.size, 0, none⟩ = some (.string K) := by rw [hW]; simp
  have hzW : W.heap.size = w.heap.size + 1 := by rw [hW]; simp
  have hxW : Idx b W lv (keysE L) := by
    rcases hx with hx | ⟨kv, mv, hx⟩
    · exact .inl (hx.below hbW)
    · exact .inr ⟨kv, mv, hx.below hbW⟩
  have HD := Lib.hid (all_any L hs b lv W hxW (h.below (hbW.mono (by omega)) (Nat.le_refl _)))
  have HbW := Lib.hid hbW
  have hl := hs.1
  obtain ⟨I, hI⟩ : ∃ I, I = idxG (keysE L) K.data.toList := ⟨_, rfl⟩
  have hA := aboveK_idx (keysE L) K.data.toList
  rw [← hI] at hA
  obtain ⟨A, hA0⟩ : ∃ A : Int, A = (aboveK (keysE L) K.data.toList : Int) := ⟨_, rfl⟩
  rw [← hA0] at hA ⊢
  rw [keysE_len] at hA
  clear hA0
  have HI := Lib.hid hI
  have HW := Lib.hid hW
  have HK := Lib.hid hk
  have HZ := Lib.hid hzW
  clear hx hxW hbW hI hk hW hzW
  go_enter Tryz.func40, Tryz.ntmps40
  go_upto_region 1 with (fail)
  rw [← HW.out]
  clear HW
  go_upto_region 2 with (first
    | (go_at_call 38; refine (HD.out).mono ?_; rintro e w2 ⟨kv, mv, rfl, hm, hg⟩; have HM := Lib.hid hm; have HG := Lib.hid hg; have HT := Lib.hid (hm.isT (by rw [keysE_len]; unfold maxLen; omega)); (obtain ⟨ka, kc, hkv, _⟩ := HT.out); have HK2 := Lib.hid (hg.cell HK.out (fun e => by have := Option.some.inj e; simp at this; omega)); clear hm hg; subst hkv)
    | (go_at_call 68; refine (indexK_any (keysE L) (by rw [keysE_len]; omega) _ K w.heap.size 0 _ HT.out HK2.out).mono ?_; rw [← HI.out]; rintro e w3 ⟨rfl, rfl⟩))
  have HEnd : Hid (∃ kv mv, Made b w2 lv (keysE L) kv mv ∧ w.grownBy w2 (some b)) := Lib.hid ⟨_, _, HM.out, (grown_below HbW.out).trans HG.out⟩
  have g0 := HM.out.box.cells.1
  by_cases hneg : I < 0
  · rw [if_pos hneg] at hA
    have t1 : decide (I < 0) = true := by simpa using hneg
    subst hlv
    subst hA
    clear hneg
    go_wp2
    go_ret
    exact ⟨rfl, HEnd.out⟩
  · rw [if_neg hneg] at hA
    have t1 : decide (I < 0) = false := by simpa using hneg
    subst hA
    clear hneg
    go_wp2
    go_ret
    exact ⟨rfl, HEnd.out⟩
end Go.Proofs.YtgaaefcanfglhaaGreatDoor


namespace Go.Proofs.YtgaaefcanfglhaaGreatDoor
open Go.RowKit
set_option linter.unusedVariables false

set_option maxRecDepth 100000 in
set_option maxHeartbeats 2000000 in
theorem textsRef_q (L M : List (List UInt8)) (hs : L.length ≤ 1000000) (v u : Value) (w : World) (hL : IsT w.heap.size w L v) (hM : IsT w.heap.size w M u) :
    Calls Tryz.prog 14 #[v, u] w fun e w' => e = .returned (.bool (L == M)) ∧ ∃ m, w' = w.drewN m := by
  obtain ⟨a, c, rfl, hm, hcell⟩ := hL
  obtain ⟨b, d, rfl, hm2, hcell2⟩ := hM
  unfold maxLen at hm hm2
  have HC := Lib.hid hcell
  have HD := Lib.hid hcell2
  obtain ⟨R, hR⟩ : ∃ R, R = (L == M) := ⟨_, rfl⟩
  rw [← hR]
  have HR := Lib.hid hR
  clear hcell hcell2 hR
  by_cases hlen : L.length = M.length
  · have t0 : ((L.length : Int) != (M.length : Int)) = false := by simp [hlen]
    have t0' : ((M.length : Int) != (M.length : Int)) = false := by simp
    obtain ⟨n, hn⟩ : ∃ n, n = L.length := ⟨_, rfl⟩
    have hn2 : n = M.length := hn.trans hlen
    have HN := Lib.hid hn
    have HN2 := Lib.hid hn2
    have hn5 : n ≤ 1000000 := by omega
    rw [← hn, ← hn2]
    clear t0 t0' hlen hn hn2 hm hm2 hs
    go_enter Tryz.func14, Tryz.ntmps14
    go_wp2
    go_loopw [5] (fun i wr => ∃ j : Nat, j ≤ n ∧ i = .int .i64 j ∧ Hid (∀ k (h1 : k < L.length) (h2 : k < M.length), k < j → L[k] = M[k]) ∧ ∃ q, wr = w.drewN q) (fun i wr => n - (intOf i).toNat)
    case atStart => exact ⟨0, by omega, rfl, Lib.hid (fun k _ _ h => absurd h (by omega)), 0, rfl⟩
    case round =>
      obtain ⟨j, hj, rfl, HAll, q, rfl⟩ := hrel
      by_cases hlt : j < n
      · have t1 : decide ((j : Int) < (n : Int)) = true := by simp; omega
        have t1' : decide (j < n) = true := by simpa using hlt
        have q1 : (j : Int) < (n : Int) := by omega
        have hl1 : j < L.length := by rw [← HN.out]; exact hlt
        have hl2 : j < M.length := by rw [← HN2.out]; exact hlt
        obtain ⟨b1, f1, rfl, hb1, x0⟩ := HC.out j hl1
        obtain ⟨b2, f2, rfl, hb2, y0⟩ := HD.out j hl2
        obtain ⟨X, hX⟩ : ∃ X : ByteArray, ofL L[j] = X := ⟨_, rfl⟩
        obtain ⟨Y, hY⟩ : ∃ Y : ByteArray, ofL M[j] = Y := ⟨_, rfl⟩
        have gX : X.data.toList = L[j] := by rw [← hX, ofL_list]
        have gY : Y.data.toList = M[j] := by rw [← hY, ofL_list]
        have d0 : w.cell? ⟨b1, f1 + j, none⟩ = some (.string X) := by rw [x0, ← hX]; rfl
        have d1 : w.cell? ⟨b2, f2 + j, none⟩ = some (.string Y) := by rw [y0, ← hY]; rfl
        have GX := Lib.hid gX
        have GY := Lib.hid gY
        clear x0 y0 hX hY gX gY
        by_cases he : X = Y
        · subst he
          have HN1 : Hid (∀ k (h1 : k < L.length) (h2 : k < M.length), k < j + 1 → L[k] = M[k]) := Lib.hid (fun k h1 h2 h3 => by
            by_cases hk : k < j
            · exact HAll.out k h1 h2 hk
            · obtain rfl : k = j := by omega
              rw [← GX.out, ← GY.out])
          clear GX GY hl1 hl2
          go_wp2
          go_quiet (fail)
          go_wp2
          go_roundw
          case rel => exact ⟨j + 1, by omega, by go_num, HN1, _, rfl⟩
          case measure => simp [intOf]; omega
        · have t2 := str_ne he
          have HF : Hid (R = false) := Lib.hid (HR.out.trans (by
            have : L ≠ M := fun e => by
              subst e
              exact he (bytes_ext (by rw [GX.out, GY.out]))
            simpa using this))
          clear GX GY he hl1 hl2
          go_wp2
          go_quiet (fail)
          go_wp2
          go_ret
          exact ⟨by rw [HF.out]; rfl, _, World.drewN_drewN ..⟩
      · obtain rfl : j = n := by omega
        have t1 : decide ((j : Int) < (j : Int)) = false := by simp
        have t1' : decide (j < j) = false := by simp
        have HF : Hid (R = true) := Lib.hid (HR.out.trans (by
          have : L = M := List.ext_getElem (by rw [← HN.out, ← HN2.out]) (fun k h1 h2 => HAll.out k h1 h2 (by rw [HN.out]; exact h1))
          simp [this]))
        go_wp2
        go_ret
        exact ⟨by rw [HF.out]; rfl, _, rfl⟩
  · have t0 : ((L.length : Int) != (M.length : Int)) = true := by simp; omega
    have HF : Hid (R = false) := Lib.hid (HR.out.trans (by
      have : L ≠ M := fun e => hlen (by rw [e])
      simpa using this))
    clear hlen
    go_enter Tryz.func14, Tryz.ntmps14
    go_wp2
    go_ret
    exact ⟨by rw [HF.out]; rfl, 0, rfl⟩

set_option maxRecDepth 100000 in
set_option maxHeartbeats 2000000 in
theorem equalT_any (L M : List (List UInt8)) (hs : L.length ≤ 1000000) (v u : Value) (w : World) (hL : IsT w.heap.size w L v) (hM : IsT w.heap.size w M u) :
    Calls Tryz.prog 115 #[v, u] w fun e w' => e = .returned (.bool (L == M)) ∧ Below w.heap.size w w' := by
  obtain ⟨a, c, rfl, hm, hcell⟩ := hL
  obtain ⟨b, d, rfl, hm2, hcell2⟩ := hM
  unfold maxLen at hm hm2
  have HC := Lib.hid hcell
  have HD := Lib.hid hcell2
  obtain ⟨R, hR⟩ : ∃ R, R = (L == M) := ⟨_, rfl⟩
  rw [← hR]
  have HR := Lib.hid hR
  clear hcell hcell2 hR
  by_cases hlen : L.length = M.length
  · have t0 : ((L.length : Int) != (M.length : Int)) = false := by simp [hlen]
    have t0' : ((M.length : Int) != (M.length : Int)) = false := by simp
    obtain ⟨n, hn⟩ : ∃ n, n = L.length := ⟨_, rfl⟩
    have hn2 : n = M.length := hn.trans hlen
    have HN := Lib.hid hn
    have HN2 := Lib.hid hn2
    have hn5 : n ≤ 1000000 := by omega
    rw [← hn, ← hn2]
    clear t0 t0' hlen hn hn2 hm hm2 hs
    go_enter Tryz.func115, Tryz.ntmps115
    go_wp2
    go_loopw [13] (fun i wr => ∃ j : Nat, j ≤ n ∧ i = .int .i64 j ∧ Hid (∀ k (h1 : k < L.length) (h2 : k < M.length), k < j → L[k] = M[k]) ∧ Below w.heap.size w wr) (fun i wr => n - (intOf i).toNat)
    case atStart => exact ⟨0, by omega, rfl, Lib.hid (fun k _ _ h => absurd h (by omega)), Below.refl _ _⟩
    case round =>
      obtain ⟨j, hj, rfl, HAll, hbel⟩ := hrel
      have HBel := Lib.hid hbel
      by_cases hlt : j < n
      · have t1 : decide ((j : Int) < (n : Int)) = true := by simp; omega
        have t1' : decide (j < n) = true := by simpa using hlt
        have q1 : (j : Int) < (n : Int) := by omega
        have hl1 : j < L.length := by rw [← HN.out]; exact hlt
        have hl2 : j < M.length := by rw [← HN2.out]; exact hlt
        obtain ⟨b1, f1, rfl, hb1, x0⟩ := HC.out j hl1
        obtain ⟨b2, f2, rfl, hb2, y0⟩ := HD.out j hl2
        obtain ⟨X, hX⟩ : ∃ X : ByteArray, ofL L[j] = X := ⟨_, rfl⟩
        obtain ⟨Y, hY⟩ : ∃ Y : ByteArray, ofL M[j] = Y := ⟨_, rfl⟩
        have gX : X.data.toList = L[j] := by rw [← hX, ofL_list]
        have gY : Y.data.toList = M[j] := by rw [← hY, ofL_list]
        have d0 : wr.cell? ⟨b1, f1 + j, none⟩ = some (.string X) := by rw [hbel.cell (p := ⟨b1, _, none⟩) hb1, x0, ← hX]; rfl
        have d1 : wr.cell? ⟨b2, f2 + j, none⟩ = some (.string Y) := by rw [hbel.cell (p := ⟨b2, _, none⟩) hb2, y0, ← hY]; rfl
        have GX := Lib.hid gX
        have GY := Lib.hid gY
        clear x0 y0 hX hY gX gY hbel
        by_cases he : X = Y
        · subst he
          have HN1 : Hid (∀ k (h1 : k < L.length) (h2 : k < M.length), k < j + 1 → L[k] = M[k]) := Lib.hid (fun k h1 h2 h3 => by
            by_cases hk : k < j
            · exact HAll.out k h1 h2 hk
            · obtain rfl : k = j := by omega
              rw [← GX.out, ← GY.out])
          clear GX GY hl1 hl2
          go_wp2
          go_quiet (fail)
          go_wp2
          go_roundw
          case rel => exact ⟨j + 1, by omega, by go_num, HN1, below_drewN HBel.out _⟩
          case measure => simp [intOf]; omega
        · have t2 := str_ne he
          have HF : Hid (R = false) := Lib.hid (HR.out.trans (by
            have : L ≠ M := fun e => by
              subst e
              exact he (bytes_ext (by rw [GX.out, GY.out]))
            simpa using this))
          clear GX GY he hl1 hl2
          go_wp2
          go_quiet (fail)
          go_wp2
          go_ret
          exact ⟨by rw [HF.out]; rfl, below_drewN HBel.out _⟩
      · obtain rfl : j = n := by omega
        have t1 : decide ((j : Int) < (j : Int)) = false := by simp
        have t1' : decide (j < j) = false := by simp
        have HF : Hid (R = true) := Lib.hid (HR.out.trans (by
          have : L = M := List.ext_getElem (by rw [← HN.out, ← HN2.out]) (fun k h1 h2 => HAll.out k h1 h2 (by rw [HN.out]; exact h1))
          simp [this]))
        clear hbel
        go_wp2
        go_ret
        exact ⟨by rw [HF.out]; rfl, HBel.out⟩
  · have t0 : ((L.length : Int) != (M.length : Int)) = true := by simp; omega
    have HF : Hid (R = false) := Lib.hid (HR.out.trans (by
      have : L ≠ M := fun e => hlen (by rw [e])
      simpa using this))
    clear hlen
    go_enter Tryz.func115, Tryz.ntmps115
    go_wp2
    go_ret
    exact ⟨by rw [HF.out]; rfl, Below.refl _ _⟩
end Go.Proofs.YtgaaefcanfglhaaGreatDoor

