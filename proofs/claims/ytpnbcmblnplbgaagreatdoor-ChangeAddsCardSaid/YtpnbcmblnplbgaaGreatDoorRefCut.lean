/- The document's hex and cut: the walks. -/
import Derived.Test.YtpnbcmblnplbgaaGreatDoorRefText
namespace Go.Proofs.YtpnbcmblnplbgaaGreatDoor
open Go.RowKit
set_option linter.unusedVariables false

/-- What a digit says; below 0: it is none. -/
def hexI (c : UInt8) : Int := if hexB c then (hexN c : Int) else -1
theorem hexI_cases (c : UInt8) : (48 ≤ c.toNat ∧ c.toNat ≤ 57 → hexI c = (c.toNat : Int) - 48) ∧ (97 ≤ c.toNat ∧ c.toNat ≤ 102 → hexI c = (c.toNat : Int) - 97 + 10) ∧ (65 ≤ c.toNat ∧ c.toNat ≤ 70 → hexI c = (c.toNat : Int) - 65 + 10) ∧
    (¬ (48 ≤ c.toNat ∧ c.toNat ≤ 57) → ¬ (97 ≤ c.toNat ∧ c.toNat ≤ 102) → ¬ (65 ≤ c.toNat ∧ c.toNat ≤ 70) → hexI c = -1) := by
  have := all_bytes (fun c => decide ((48 ≤ c.toNat ∧ c.toNat ≤ 57 → hexI c = (c.toNat : Int) - 48) ∧ (97 ≤ c.toNat ∧ c.toNat ≤ 102 → hexI c = (c.toNat : Int) - 97 + 10) ∧ (65 ≤ c.toNat ∧ c.toNat ≤ 70 → hexI c = (c.toNat : Int) - 65 + 10) ∧
    (¬ (48 ≤ c.toNat ∧ c.toNat ≤ 57) → ¬ (97 ≤ c.toNat ∧ c.toNat ≤ 102) → ¬ (65 ≤ c.toNat ∧ c.toNat ≤ 70) → hexI c = -1))) (by decide +kernel) c
  exact of_decide_eq_true this

set_option maxHeartbeats 1000000 in
theorem hexRef_any (c : UInt8) (w : World) : Calls Tryz.prog 52 #[.int .u8 c.toNat] w fun e w' => e = .returned (.int .i64 (hexI c)) ∧ w = w' := by
  have hcl := c.toNat_lt
  obtain ⟨h1, h2, h3, h4⟩ := hexI_cases c
  obtain ⟨I, hI⟩ : ∃ I, I = hexI c := ⟨_, rfl⟩
  rw [← hI] at h1 h2 h3 h4 ⊢
  clear hI
  by_cases d1 : 48 ≤ c.toNat ∧ c.toNat ≤ 57
  · have e := h1 d1
    subst e
    have t1 : decide ((48 : Int) ≤ (c.toNat : Int)) = true := by simp; omega
    have t2 : decide ((c.toNat : Int) ≤ 57) = true := by simp; omega
    clear h1 h2 h3 h4
    go_enter Tryz.func52, Tryz.ntmps52
    go_wp2
    go_ret
    exact ⟨rfl, rfl⟩
  by_cases d2 : 97 ≤ c.toNat ∧ c.toNat ≤ 102
  · have e := h2 d2
    subst e
    have t1 : decide ((48 : Int) ≤ (c.toNat : Int)) = true := by simp; omega
    have t2 : decide ((c.toNat : Int) ≤ 57) = false := by simp; omega
    have t3 : decide ((97 : Int) ≤ (c.toNat : Int)) = true := by simp; omega
    have t4 : decide ((c.toNat : Int) ≤ 102) = true := by simp; omega
    clear h1 h2 h3 h4
    go_enter Tryz.func52, Tryz.ntmps52
    go_wp2
    go_ret
    exact ⟨rfl, rfl⟩
  by_cases d3 : 65 ≤ c.toNat ∧ c.toNat ≤ 70
  · have e := h3 d3
    subst e
    have t1 : decide ((48 : Int) ≤ (c.toNat : Int)) = true := by simp; omega
    have t2 : decide ((c.toNat : Int) ≤ 57) = false := by simp; omega
    have t3 : decide ((97 : Int) ≤ (c.toNat : Int)) = false := by simp; omega
    have t4 : decide ((65 : Int) ≤ (c.toNat : Int)) = true := by simp; omega
    have t5 : decide ((c.toNat : Int) ≤ 70) = true := by simp; omega
    clear h1 h2 h3 h4
    go_enter Tryz.func52, Tryz.ntmps52
    go_wp2
    go_ret
    exact ⟨rfl, rfl⟩
  have e := h4 d1 d2 d3
  subst e
  clear h1 h2 h3 h4
  obtain ⟨b1, hb1⟩ : ∃ b, decide ((48 : Int) ≤ (c.toNat : Int)) = b := ⟨_, rfl⟩
  obtain ⟨b2, hb2⟩ : ∃ b, decide ((c.toNat : Int) ≤ 57) = b := ⟨_, rfl⟩
  obtain ⟨b3, hb3⟩ : ∃ b, decide ((97 : Int) ≤ (c.toNat : Int)) = b := ⟨_, rfl⟩
  obtain ⟨b4, hb4⟩ : ∃ b, decide ((c.toNat : Int) ≤ 102) = b := ⟨_, rfl⟩
  obtain ⟨b5, hb5⟩ : ∃ b, decide ((65 : Int) ≤ (c.toNat : Int)) = b := ⟨_, rfl⟩
  obtain ⟨b6, hb6⟩ : ∃ b, decide ((c.toNat : Int) ≤ 70) = b := ⟨_, rfl⟩
  have k1 : ¬ (b1 = true ∧ b2 = true) := by rintro ⟨rfl, rfl⟩; simp at hb1 hb2; exact d1 ⟨by omega, by omega⟩
  have k2 : ¬ (b3 = true ∧ b4 = true) := by rintro ⟨rfl, rfl⟩; simp at hb3 hb4; exact d2 ⟨by omega, by omega⟩
  have k3 : ¬ (b5 = true ∧ b6 = true) := by rintro ⟨rfl, rfl⟩; simp at hb5 hb6; exact d3 ⟨by omega, by omega⟩
  have o1 : b1 = false ∨ (b1 = true ∧ b2 = false) := by cases b1 <;> cases b2 <;> simp_all
  have o2 : b3 = false ∨ (b3 = true ∧ b4 = false) := by cases b3 <;> cases b4 <;> simp_all
  have o3 : b5 = false ∨ (b5 = true ∧ b6 = false) := by cases b5 <;> cases b6 <;> simp_all
  clear d1 d2 d3 k1 k2 k3
  rcases o1 with rfl | ⟨rfl, rfl⟩ <;> rcases o2 with rfl | ⟨rfl, rfl⟩ <;> rcases o3 with rfl | ⟨rfl, rfl⟩ <;> (
    go_enter Tryz.func52, Tryz.ntmps52
    go_wp2
    go_ret
    exact ⟨rfl, rfl⟩)

/-- A text's parts, between commas that do not stand behind a mark. -/
def partsN : Nat → List UInt8 → List (List UInt8)
  | 0, l => [l]
  | n + 1, l => if (cutD l).2.2 = true then (cutD l).1 :: partsN n (cutD l).2.1 else [(cutD l).1]
theorem cutD_lt : ∀ l : List UInt8, (cutD l).2.2 = true → (cutD l).2.1.length < l.length := fun l h => by
  have hne : l ≠ [] := by rintro rfl; simp [cutD] at h
  exact upD_lt l hne
theorem partsN_fuel : ∀ (n m : Nat) (l : List UInt8), l.length < n → l.length < m → partsN n l = partsN m l
  | 0, m, l, h, _ => by omega
  | n + 1, 0, l, _, h => by omega
  | n + 1, m + 1, l, h1, h2 => by
    unfold partsN
    by_cases hc : (cutD l).2.2 = true
    · rw [if_pos hc, if_pos hc]
      have := cutD_lt l hc
      rw [partsN_fuel n m _ (by omega) (by omega)]
    · rw [if_neg hc, if_neg hc]
def partsD (l : List UInt8) : List (List UInt8) := partsN (l.length + 1) l
theorem partsD_more {l : List UInt8} (h : (cutD l).2.2 = true) : partsD l = (cutD l).1 :: partsD (cutD l).2.1 := by
  unfold partsD
  have hl := cutD_lt l h
  show (if (cutD l).2.2 = true then (cutD l).1 :: partsN l.length (cutD l).2.1 else _) = _
  rw [if_pos h, partsN_fuel l.length ((cutD l).2.1.length + 1) _ (by omega) (by omega)]
theorem partsD_end {l : List UInt8} (h : (cutD l).2.2 = false) : partsD l = [(cutD l).1] := by
  unfold partsD
  show (if (cutD l).2.2 = true then _ else [(cutD l).1]) = _
  rw [if_neg (by rw [h]; simp)]

theorem infoS : (Tryz.prog.info? 9).map (fun i => (i.zero, i.size, i.bytes)) = some (some (.string ⟨#[]⟩), 1, 16) := by kernel_rfl
/-- The value v is the list of these texts, in a row of the call's own. -/
def OwnS (B : Nat) (w : World) (v : Value) (L : List (List UInt8)) : Prop := w.ownsRow B 9 1 v L.length (L.map strV)
theorem ownS_nil (B : Nat) (w : World) : OwnS B w (.slice none 0 0) [] := World.ownsRow_nil _ _ _ _
theorem ownS_below {B : Nat} {w w' : World} {v : Value} {L : List (List UInt8)} (h : OwnS B w v L) (hb : Below w.heap.size w w') : OwnS B w' v L :=
  World.ownsRow.kept h (row := none) ⟨hb.os, hb.tape, hb.output, hb.size, fun k hk _ => hb.block k hk⟩ (by cases v.ownBlock <;> simp)
theorem ownS_slice {B : Nat} {w : World} {v : Value} {L : List (List UInt8)} (h : OwnS B w v L) : ∃ a c, v = .slice a L.length c := by
  rcases h.2 with ⟨rfl, hz⟩ | ⟨g, cap, cur, rfl, _⟩
  · exact ⟨_, _, by rw [hz]⟩
  · exact ⟨_, _, rfl⟩
theorem ownS_at {B : Nat} {w : World} {v : Value} {L : List (List UInt8)} (h : OwnS B w v L) (hl : L ≠ []) : ∃ g c, v = .slice (some ⟨g, 0, none⟩) L.length c ∧ B ≤ g ∧ g < w.heap.size ∧ ∀ j (hj : j < L.length), w.cell? ⟨g, j, none⟩ = some (strV L[j]) := by
  have hc := fun g (hg : v.ownBlock = some g) => World.ownsRow.cells h hg
  rcases h.2 with ⟨rfl, hz⟩ | ⟨g, cap, cur, rfl, hB, hg, _⟩
  · exact absurd (List.eq_nil_of_length_eq_zero hz) hl
  · refine ⟨g, cap, rfl, hB, (Array.getElem?_eq_some_iff.1 hg).1, fun j hj => ?_⟩
    have h1 := hc g rfl j (strV L[j]) (by simp [hj])
    have e1 : ((⟨g, 0, none⟩ : Addr).add j) = ⟨g, j, none⟩ := by simp [Addr.add]; omega
    rw [e1] at h1
    exact h1
/-- 'append(out, s)' of one text. -/
theorem wpList_append_text {ops : Array Oper} {rest : List Oper} {o : Oper} {a : Act} {w : World} {Q : Exit → Act → World → Prop} (hgd : o.guard = none) (sl x : Operand)
    (ho : o.op = .call { callee := .builtin .append, args := #[sl, x], argTypes := #[47, 47] })
    (base : Nat) (v : Value) (L : List (List UInt8)) (hs : a.eval sl = v) (X : ByteArray) (hown : OwnS base w v L) (hx : a.eval x = .slice (some ⟨w.heap.size, 0, none⟩) 1 1)
    (h63 : L.length + 1 ≤ 1000000) (hbase : base ≤ w.heap.size)
    (h : ∀ v' w', OwnS base w' v' (L ++ [X.data.toList]) → Below base w w' → wpList Tryz.prog ops Q rest (a.put o.dst v') w') : wpList Tryz.prog ops Q (o :: rest) a (w.alloc (.cells #[.string X] 9)) := by
  obtain ⟨i0, hi, hz0, hz1, hz2⟩ := info_parts infoS
  refine wpList_append_own_at _ hgd sl x 47 ho base 9 i0 (.string ⟨#[]⟩) 1 16 Tryz.underlying47 hi hz0 hz1 hz2 rfl (by decide) v L.length (L.map strV) hs (World.ownsRow.alloc hown _) ⟨w.heap.size, 0, none⟩ 1 1 [.string X] hx rfl (cell_one_new w (.string X) 9) (by intro u hu; simp at hu; rw [hu]; rfl) (by unfold maxLen; omega) (by omega) (by simp; omega) ?_
  intro v' w' hown' hgrow _ hat
  refine h v' w' ?_ ?_
  · unfold OwnS
    rw [List.length_append, List.map_append]
    have : [X.data.toList].map strV = [Value.string X] := by show [Value.string ⟨X.data.toList.toArray⟩] = _; rw [whole_ext]
    rw [this]
    exact hown'
  · exact ((Below.refl base w).alloc hbase _).grown hgrow (by simp; omega) (fun k e => (World.ownsRow.lt hown k e).1)

theorem mid_list (s : ByteArray) (f j : Nat) (h : f ≤ j) : (s.extract f j).data.toList = (s.data.toList.drop f).take (j - f) := by
  simp [ByteArray.data_extract, Array.toList_extract, List.extract]

/-- What the rounds hold: parts so far, the part's beginning f, the place j. -/
def CutAt (s : ByteArray) (L : List (List UInt8)) (f j : Nat) : Prop :=
  f ≤ j ∧ f ≤ s.size ∧ j ≤ s.size + 1 ∧ L.length ≤ f ∧ partsD s.data.toList = L ++ partsD (s.data.toList.drop f) ∧
  cutD (s.data.toList.drop f) = ((s.data.toList.drop f).take (j - f) ++ (cutD (s.data.toList.drop j)).1, (cutD (s.data.toList.drop j)).2.1, (cutD (s.data.toList.drop j)).2.2)

theorem cutAt_plain {s : ByteArray} {L : List (List UInt8)} {f j : Nat} (h : CutAt s L f j) (hj : j < s.size) (h1 : (s[j]).toNat ≠ 44) (h2 : (s[j]).toNat ≠ 92) : CutAt s L f (j + 1) := by
  obtain ⟨a, b, c, d, e, g⟩ := h
  refine ⟨by omega, b, by omega, d, e, ?_⟩
  rw [g, drop_at s j hj, cutD_any h1 h2]
  have ht : (s.data.toList.drop f).take (j + 1 - f) = (s.data.toList.drop f).take (j - f) ++ [s[j]] := by
    rw [show j + 1 - f = (j - f) + 1 from by omega]
    have hl : j - f < (s.data.toList.drop f).length := by simp; omega
    rw [List.take_succ_eq_append_getElem hl]
    congr 2
    rw [List.getElem_drop]
    have : f + (j - f) = j := by omega
    simp only [this]; rfl
  rw [ht, List.append_assoc]; rfl
theorem cutAt_mark {s : ByteArray} {L : List (List UInt8)} {f j : Nat} (h : CutAt s L f j) (hj : j < s.size) (h2 : (s[j]).toNat = 92) : CutAt s L f (j + 2) := by
  obtain ⟨a, b, c, d, e, g⟩ := h
  refine ⟨by omega, b, by omega, d, e, ?_⟩
  rw [g]
  have ht : (s.data.toList.drop f).take (j + 2 - f) = (s.data.toList.drop f).take (j - f) ++ (s.data.toList.drop j).take 2 := by
    rw [show j + 2 - f = (j - f) + 2 from by omega, List.take_add, List.drop_drop]
    congr 3
    omega
  rw [ht]
  rcases cutD_mark2 s j hj h2 with ⟨e1, e2⟩ | e1
  · rw [e1, e2]; simp [cutD]
  · rw [e1, List.append_assoc]
theorem cutAt_comma {s : ByteArray} {L : List (List UInt8)} {f j : Nat} (h : CutAt s L f j) (hj : j < s.size) (h1 : (s[j]).toNat = 44) : CutAt s (L ++ [(s.extract f j).data.toList]) (j + 1) (j + 1) := by
  obtain ⟨a, b, c, d, e, g⟩ := h
  rw [drop_at s j hj, cutD_comma h1, List.append_nil] at g
  refine ⟨by omega, by omega, by omega, by simp; omega, ?_, by simp⟩
  rw [e, partsD_more (by rw [g]), g, mid_list s f j a, List.append_assoc]; rfl
theorem cutAt_end {s : ByteArray} {L : List (List UInt8)} {f j : Nat} (h : CutAt s L f j) (hj : s.size ≤ j) : partsD s.data.toList = L ++ [(s.extract f s.size).data.toList] := by
  obtain ⟨a, b, c, d, e, g⟩ := h
  rw [List.drop_of_length_le (by simp; omega : s.data.toList.length ≤ j)] at g
  have g2 : cutD (s.data.toList.drop f) = (s.data.toList.drop f, [], false) := by
    rw [g]
    have : (s.data.toList.drop f).take (j - f) = s.data.toList.drop f := List.take_of_length_le (by simp; omega)
    rw [this]; simp [cutD]
  rw [e, partsD_end (by rw [g2]), g2, rest_list]

set_option maxRecDepth 100000 in
set_option maxHeartbeats 4000000 in
theorem cutRef_any (s : ByteArray) (hs : s.size ≤ 100000) (w : World) :
    Calls Tryz.prog 29 #[.string s] w fun e w' => ∃ v, e = .returned v ∧ OwnS w.heap.size w' v (partsD s.data.toList) ∧ Below w.heap.size w w' := by
  have hstart : CutAt s [] 0 0 := ⟨Nat.le_refl _, Nat.zero_le _, Nat.zero_le _, Nat.le_refl _, by simp, by simp⟩
  have HS := Lib.hid hstart
  clear hstart
  go_enter Tryz.func29, Tryz.ntmps29
  go_wp2
  go_loopw [3, 4, 5] (fun v f i wr => ∃ (L : List (List UInt8)) (q j : Nat), f = .int .i64 q ∧ i = .int .i64 j ∧ CutAt s L q j ∧ OwnS w.heap.size wr v L ∧ Below w.heap.size w wr) (fun _ _ i _ => s.size + 1 - (intOf i).toNat)
  case atStart => exact ⟨[], 0, 0, rfl, rfl, HS.out, ownS_nil _ _, Below.refl _ _⟩
  case round =>
    obtain ⟨L, q, j, rfl, rfl, hat, hown, hbel⟩ := hrel
    obtain ⟨a, cp, rfl⟩ := ownS_slice hown
    have HAt := Lib.hid hat
    have HOwn := Lib.hid hown
    have HBel := Lib.hid hbel
    have hbs := hbel.size
    obtain ⟨hqj, hqs, hjs, hLq, _, _⟩ := hat
    have p1 : (0 : Int) ≤ (q : Int) := by omega
    have p2 : (q : Int) ≤ (s.size : Int) := by omega
    by_cases hlt : j < s.size
    · have t1 : decide ((j : Int) < (s.size : Int)) = true := by simp; omega
      obtain ⟨c, hc⟩ : ∃ c : UInt8, c = s[j] := ⟨_, rfl⟩
      have hc' : s[j]'hlt = c := hc.symm
      have hcl := c.toNat_lt
      by_cases h92 : c.toNat = 92
      · have t2 : ((c.toNat : Int) == 92) = true := by simp [h92]
        have HN := Lib.hid (cutAt_mark HAt.out hlt (by rw [hc']; exact h92))
        clear hown hbel hc h92
        go_wp2
        go_roundw
        case rel => exact ⟨L, q, j + 2, rfl, by first | rfl | (congr 1), HN.out, HOwn.out, HBel.out⟩
        case measure => simp [intOf]; omega
      · have t2 : ((c.toNat : Int) == 92) = false := by simp; omega
        by_cases h44 : c.toNat = 44
        · have t3 : ((c.toNat : Int) == 44) = true := by simp [h44]
          have HN := Lib.hid (cutAt_comma HAt.out hlt (by rw [hc']; exact h44))
          have p3 : (q : Int) ≤ (j : Int) := by omega
          have p4 : (j : Int) ≤ (s.size : Int) := by omega
          obtain ⟨Z, hZ⟩ : ∃ Z, s.extract q j = Z := ⟨_, rfl⟩
          have HZ := Lib.hid hZ
          clear hown hbel hc h92 h44
          go_wp2_with (at_builtin; refine wpList_append_text rfl (.tmp 21) (.tmp 26) rfl w.heap.size (.slice a L.length cp) L rfl Z HOwn.out rfl (by omega) hbs ?_; intro v5 w5 hown5 hb5; have HO5 := Lib.hid hown5; have HB5 := Lib.hid hb5; clear hown5 hb5)
          go_roundw
          case rel => exact ⟨L ++ [Z.data.toList], j + 1, j + 1, by go_num, by go_num, by rw [← HZ.out]; exact HN.out, HO5.out, HBel.out.trans HB5.out⟩
          case measure => simp [intOf]; omega
        · have t3 : ((c.toNat : Int) == 44) = false := by simp; omega
          have HN := Lib.hid (cutAt_plain HAt.out hlt (by rw [hc']; exact h44) (by rw [hc']; exact h92))
          clear hown hbel hc h92 h44
          go_wp2
          go_roundw
          case rel => exact ⟨L, q, j + 1, rfl, by go_num, HN.out, HOwn.out, HBel.out⟩
          case measure => simp [intOf]; omega
    · have t1 : decide ((j : Int) < (s.size : Int)) = false := by simp; omega
      have hend := cutAt_end HAt.out (by omega)
      obtain ⟨Z, hZ⟩ : ∃ Z, s.extract q s.size = Z := ⟨_, rfl⟩
      rw [hZ] at hend
      have HEnd := Lib.hid hend
      clear hown hbel hend
      go_wp2_with (at_builtin; refine wpList_append_text rfl (.tmp 30) (.tmp 34) rfl w.heap.size (.slice a L.length cp) L rfl Z HOwn.out rfl (by omega) hbs ?_; intro v5 w5 hown5 hb5; have HO5 := Lib.hid hown5; have HB5 := Lib.hid hb5; clear hown5 hb5)
      go_ret
      refine ⟨_, rfl, ?_, HBel.out.trans HB5.out⟩
      rw [HEnd.out]
      exact HO5.out
end Go.Proofs.YtpnbcmblnplbgaaGreatDoor
