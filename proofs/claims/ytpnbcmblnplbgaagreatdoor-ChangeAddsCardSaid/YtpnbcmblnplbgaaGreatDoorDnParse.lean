/- Parts of a name in a row of the call's own; dn.Parse: the walk. -/
import Derived.Test.YtpnbcmblnplbgaaGreatDoorDnCut
namespace Go.Proofs.YtpnbcmblnplbgaaGreatDoor
open Go.RowKit
set_option linter.unusedVariables false

theorem infoR : (Tryz.prog.info? 50).map (fun i => (i.zero, i.size, i.bytes)) = some (some (.agg #[.string ⟨#[]⟩, .string ⟨#[]⟩]), 2, 32) := by kernel_rfl
def strV (l : List UInt8) : Value := .string ⟨l.toArray⟩
def cellsR : List R → List Value
  | [] => []
  | r :: l => strV r.1 :: strV r.2 :: cellsR l
theorem cellsR_append : ∀ a b : List R, cellsR (a ++ b) = cellsR a ++ cellsR b
  | [], _ => rfl
  | r :: a, b => by show _ :: _ :: cellsR (a ++ b) = _; rw [cellsR_append a b]; rfl
theorem cellsR_length : ∀ l : List R, (cellsR l).length = l.length * 2
  | [] => rfl
  | r :: l => by simp [cellsR, cellsR_length l]; omega
theorem cellsR_get : ∀ (l : List R) (j : Nat) (h : j < l.length), (cellsR l)[j * 2]? = some (strV l[j].1) ∧ (cellsR l)[j * 2 + 1]? = some (strV l[j].2)
  | r :: l, 0, _ => ⟨rfl, rfl⟩
  | r :: l, j + 1, h => by
    have := cellsR_get l j (by simpa using h)
    rw [show (j + 1) * 2 = j * 2 + 2 from by omega]
    exact this

/-- The value v is the list l, in a row of the call's own. -/
def OwnR (B : Nat) (w : World) (v : Value) (l : List R) : Prop := w.ownsRow B 50 2 v l.length (cellsR l)
theorem ownR_nil (B : Nat) (w : World) : OwnR B w (.slice none 0 0) [] := World.ownsRow_nil _ _ _ _
theorem ownR_below {B : Nat} {w w' : World} {v : Value} {l : List R} (h : OwnR B w v l) (hb : Below w.heap.size w w') : OwnR B w' v l :=
  World.ownsRow.kept h (row := none) ⟨hb.os, hb.tape, hb.output, hb.size, fun k hk _ => hb.block k hk⟩ (by cases v.ownBlock <;> simp)
theorem ownR_slice {B : Nat} {w : World} {v : Value} {l : List R} (h : OwnR B w v l) : ∃ a c, v = .slice a l.length c := by
  rcases h.2 with ⟨rfl, hz⟩ | ⟨g, cap, cur, rfl, _⟩
  · exact ⟨_, _, by rw [hz]⟩
  · exact ⟨_, _, rfl⟩
theorem ownR_at {B : Nat} {w : World} {v : Value} {l : List R} (h : OwnR B w v l) (hl : l ≠ []) : ∃ g c, v = .slice (some ⟨g, 0, none⟩) l.length c ∧ B ≤ g ∧ g < w.heap.size ∧ ∀ j (hj : j < l.length), w.cell? ⟨g, j * 2, none⟩ = some (strV l[j].1) ∧ w.cell? ⟨g, j * 2 + 1, none⟩ = some (strV l[j].2) := by
  have hc := fun g (hg : v.ownBlock = some g) => World.ownsRow.cells h hg
  rcases h.2 with ⟨rfl, hz⟩ | ⟨g, cap, cur, rfl, hB, hg, _⟩
  · exact absurd (List.eq_nil_of_length_eq_zero hz) hl
  · refine ⟨g, cap, rfl, hB, (Array.getElem?_eq_some_iff.1 hg).1, fun j hj => ?_⟩
    obtain ⟨g1, g2⟩ := cellsR_get l j hj
    have h1 := hc g rfl (j * 2) _ g1
    have h2 := hc g rfl (j * 2 + 1) _ g2
    have e1 : ((⟨g, 0, none⟩ : Addr).add (j * 2)) = ⟨g, j * 2, none⟩ := by simp [Addr.add]; omega
    have e2 : ((⟨g, 0, none⟩ : Addr).add (j * 2 + 1)) = ⟨g, j * 2 + 1, none⟩ := by simp [Addr.add]
    rw [e1] at h1
    rw [e2] at h2
    exact ⟨h1, h2⟩

theorem news2 (w : World) (x0 x1 : Value) : ∀ j u, [x0, x1][j]? = some u → (w.alloc (.cells #[x0, x1] 50)).cell? ((⟨w.heap.size, 0, none⟩ : Addr).add j) = some u := by
  intro j u hu
  have h : (w.alloc (.cells #[x0, x1] 50)).heap[w.heap.size]? = some (.cells #[x0, x1] 50 (0, 0)) := heap_alloc_new w _
  have hadd : (⟨w.heap.size, 0, none⟩ : Addr).add j = ⟨w.heap.size, j, none⟩ := by unfold Addr.add; split <;> simp_all
  rw [hadd]
  simp only [World.cell?, h]
  simpa using hu

/-- 'append(l, r)' of one part, that lies in a block of its own. -/
theorem wpList_append_rdn {ops : Array Oper} {rest : List Oper} {o : Oper} {a : Act} {w : World} {Q : Exit → Act → World → Prop} (hgd : o.guard = none) (sl x : Operand)
    (ho : o.op = .call { callee := .builtin .append, args := #[sl, x], argTypes := #[51, 51] })
    (base : Nat) (v : Value) (l : List R) (hs : a.eval sl = v) (X Y : ByteArray) (hown : OwnR base w v l) (hx : a.eval x = .slice (some ⟨w.heap.size, 0, none⟩) 1 1)
    (h63 : l.length + 1 ≤ 1000000) (hbase : base ≤ w.heap.size)
    (h : ∀ v' w', OwnR base w' v' (l ++ [(X.data.toList, Y.data.toList)]) → Below base w w' → wpList Tryz.prog ops Q rest (a.put o.dst v') w') : wpList Tryz.prog ops Q (o :: rest) a (w.alloc (.cells #[.string X, .string Y] 50)) := by
  obtain ⟨i0, hi, hz0, hz1, hz2⟩ := info_parts infoR
  refine wpList_append_own_at _ hgd sl x 51 ho base 50 i0 (.agg #[.string ⟨#[]⟩, .string ⟨#[]⟩]) 2 32 Tryz.underlying51 hi hz0 hz1 hz2 rfl (by decide) v l.length (cellsR l) hs (World.ownsRow.alloc hown _) ⟨w.heap.size, 0, none⟩ 1 1 [.string X, .string Y] hx rfl (news2 w _ _) (by intro u hu; simp at hu; rcases hu with rfl | rfl <;> rfl) (by unfold maxLen; omega) (by omega) (by simp; omega) ?_
  intro v' w' hown' hgrow _ hat
  refine h v' w' ?_ ?_
  · unfold OwnR
    rw [List.length_append, cellsR_append]
    exact hown'
  · exact ((Below.refl base w).alloc hbase _).grown hgrow (by simp; omega) (fun k e => (World.ownsRow.lt hown k e).1)

theorem cutD_le : ∀ l : List UInt8, (cutD l).1.length ≤ l.length ∧ (cutD l).2.1.length ≤ l.length := by
  have h : ∀ (n : Nat) (l : List UInt8), l.length ≤ n → (cutD l).1.length ≤ l.length ∧ (cutD l).2.1.length ≤ l.length := by
    intro n
    induction n with
    | zero => intro l hl; obtain rfl := List.eq_nil_of_length_eq_zero (by omega : l.length = 0); exact ⟨Nat.le_refl _, Nat.le_refl _⟩
    | succ n ih =>
      intro l hl
      cases l with
      | nil => exact ⟨Nat.le_refl _, Nat.le_refl _⟩
      | cons c r =>
        by_cases h1 : c.toNat = 44
        · rw [cutD_comma h1]; simp
        · by_cases h2 : c.toNat = 92
          · cases r with
            | nil => rw [cutD_mark0 h2]; simp
            | cons x r =>
              rw [cutD_mark h2]
              have := ih r (by simp at hl; omega)
              simp; omega
          · rw [cutD_any h1 h2]
            have := ih r (by simp at hl; omega)
            simp; omega
  intro l; exact h l.length l (Nat.le_refl _)

def lenOf : Value → Nat
  | .slice _ n _ => n
  | _ => 0

def ParseW (w : World) (o : Option (List R)) (e : Ending) (w' : World) : Prop :=
  Below w.heap.size w w' ∧ match o with
  | none => e = .returned (.tuple #[.slice none 0 0, .bool false])
  | some l => ∃ v, e = .returned (.tuple #[v, .bool true]) ∧ OwnR w.heap.size w' v l

/-- What is left to read. -/
def restD (L : List R) (m : Bool) (S : List UInt8) : Option (List R) := if m = true then (parN (8 - L.length) S).map (L ++ ·) else some L

def stepD (q : Option R) (L : List R) (m : Bool) (U : List UInt8) : Option (List R) := match q with
  | none => none
  | some r => if L.length = 8 then none else restD (L ++ [r]) m U
theorem rest_step (L : List R) (S : List UInt8) (hL8 : L.length ≤ 8) : restD L true S = stepD (rdnD (cutD S).1) L (cutD S).2.2 (cutD S).2.1 := by
  unfold restD
  rw [if_pos rfl]
  cases hk : 8 - L.length with
  | zero =>
    have h8 : L.length = 8 := by omega
    cases rdnD (cutD S).1 with
    | none => rfl
    | some r => exact (if_pos h8).symm
  | succ k =>
    have h8 : ¬ L.length = 8 := by omega
    unfold parN
    cases rdnD (cutD S).1 with
    | none => rfl
    | some r =>
      show _ = if L.length = 8 then none else restD (L ++ [r]) _ _
      rw [if_neg h8]
      unfold restD
      rw [List.length_append, show 8 - (L.length + [r].length) = k from by simp; omega]
      by_cases hc : (cutD S).2.2 = true
      · simp only [hc, if_true, Option.map_map]
        congr 1
        funext x
        simp
      · simp only [hc]
        rfl

set_option maxRecDepth 100000 in
set_option maxHeartbeats 4000000 in
theorem parse_any (s : ByteArray) (hs : s.size ≤ 140737488351232) (w : World) : Calls Tryz.prog 70 #[.string s] w (ParseW w (parseD s.data.toList)) := by
  obtain ⟨res, hres⟩ : ∃ res, res = parseD s.data.toList := ⟨_, rfl⟩
  rw [← hres]
  have hstart : ∃ m : Bool, (s.data.toList.isEmpty = !m) ∧ res = restD [] m s.data.toList := by
    by_cases hne : s.data.toList = []
    · exact ⟨false, by rw [hne]; rfl, by rw [hres, hne]; rfl⟩
    · refine ⟨true, by cases h : s.data.toList with | nil => exact absurd h hne | cons x r => rfl, ?_⟩
      rw [hres]
      unfold parseD restD
      rw [if_neg hne, if_pos rfl]
      simp
  obtain ⟨m0, hm0, hr0⟩ := hstart
  have e0 : s.toList.isEmpty = !m0 := by rw [ByteArray.toList_eq]; exact hm0
  have hnn : (s.toList = []) = (m0 = false) := by
    rw [← List.isEmpty_iff, e0]; cases m0 <;> simp
  have HR0 := Lib.hid hr0
  clear hres hr0 hm0
  have hfalse : m0 = false → s.toList = [] ∧ s.toList.isEmpty = true := fun h => ⟨by rw [hnn]; exact h, by rw [e0, h]; rfl⟩
  have htrue : m0 = true → ¬ s.toList = [] ∧ s.toList.isEmpty = false := fun h => ⟨by rw [hnn, h]; simp, by rw [e0, h]; rfl⟩
  clear hnn e0
  cases m0 with
  | false =>
    obtain ⟨e1, e2⟩ := hfalse rfl
    clear hfalse htrue
    go_enter Tryz.func70, Tryz.ntmps70
    go_wp2
    go_loopw [0, 4, 5] (fun sv lv mv wr => sv = .string s ∧ lv = .slice none 0 0 ∧ mv = .bool false ∧ wr = w) (fun _ lv _ _ => 9 - lenOf lv)
    case atStart => exact ⟨rfl, rfl, rfl, rfl⟩
    case round =>
      obtain ⟨rfl, rfl, rfl, rfl⟩ := hrel
      go_wp2
      go_ret2
      have hr := HR0.out
      rw [show restD [] false s.data.toList = some [] from rfl] at hr
      rw [hr]
      exact ⟨Below.refl _ _, _, rfl, ownR_nil _ _⟩
  | true =>
    obtain ⟨e1, e2⟩ := htrue rfl
    clear hfalse htrue
    go_enter Tryz.func70, Tryz.ntmps70
    go_wp2
    clear e1 e2
    go_loopw [0, 4, 5] (fun sv lv mv wr => ∃ (S : ByteArray) (L : List R) (m : Bool), sv = .string S ∧ mv = .bool m ∧ S.size ≤ s.size ∧ L.length ≤ 8 ∧ OwnR w.heap.size wr lv L ∧ Below w.heap.size w wr ∧ res = restD L m S.data.toList) (fun _ lv _ _ => 9 - lenOf lv)
    case atStart => exact ⟨s, [], true, rfl, rfl, Nat.le_refl _, by simp, ownR_nil _ _, Below.refl _ _, HR0.out⟩
    case round =>
      obtain ⟨S, L, m, rfl, rfl, hS, hL8, hown, hbel, hres⟩ := hrel
      obtain ⟨a, cp, hv⟩ := ownR_slice hown
      subst hv
      have HOwn := Lib.hid hown
      have HBel := Lib.hid hbel
      have hbs := hbel.size
      clear hown hbel
      cases m with
      | false =>
        have HRes := Lib.hid hres
        clear hres
        go_wp2
        go_ret2
        have hr := HRes.out
        rw [show restD L false S.data.toList = some L from rfl] at hr
        rw [hr]
        exact ⟨HBel.out, _, rfl, HOwn.out⟩
      | true =>
        have hcut := fun w => cut_below S w (by omega)
        have hcl := cutD_le S.data.toList
        rw [bytes_len] at hcl
        obtain ⟨A, hA⟩ : ∃ A : ByteArray, A = ⟨(cutD S.data.toList).1.toArray⟩ := ⟨_, rfl⟩
        have hAl : A.data.toList = (cutD S.data.toList).1 := by rw [hA]
        have hAs : A.size ≤ S.size := by rw [← bytes_len, hAl]; exact hcl.1
        obtain ⟨U, hU⟩ : ∃ U : ByteArray, U = upB S := ⟨_, rfl⟩
        have hUl : U.data.toList = (cutD S.data.toList).2.1 := by rw [hU]; rfl
        have hUs : U.size ≤ S.size := by rw [← bytes_len, hUl]; exact hcl.2
        obtain ⟨m', hm'⟩ : ∃ m', m' = (cutD S.data.toList).2.2 := ⟨_, rfl⟩
        simp only [← hA, ← hU, ← hm'] at hcut
        have hrd := fun w => rdn_any A w (by omega)
        rw [hAl] at hrd
        obtain ⟨q, hq⟩ : ∃ q, q = rdnD (cutD S.data.toList).1 := ⟨_, rfl⟩
        simp only [← hq] at hrd
        have HCut := Lib.hid hcut
        have hstep : res = stepD q L m' U.data.toList := by rw [hres, hq, hUl, hm']; exact rest_step L _ hL8
        have HRes := Lib.hid hstep
        clear hcut hcl hA hAl hU hUl hm' hq hres hstep
        cases q with
        | none =>
          unfold rdnV at hrd
          have HRd := Lib.hid hrd
          clear hrd
          go_wp2_with (first
            | (go_at_call 62; refine (HCut.out _).mono ?_; rintro e w2 ⟨rfl, hb2⟩; have HB2 := Lib.hid hb2; clear hb2)
            | (go_at_call 100; refine (HRd.out _).mono ?_; rintro e w3 ⟨rfl, hb3⟩; have HB3 := Lib.hid hb3; clear hb3))
          go_ret2
          rw [HRes.out]
          exact ⟨((bthen (HBel.out.trans (HB2.out.mono hbs)) HB3.out).alloc (by have := HB2.out.size; have := HB3.out.size; omega) _), rfl⟩
        | some r =>
          obtain ⟨X, hX⟩ : ∃ X : ByteArray, X = ⟨r.1.toArray⟩ := ⟨_, rfl⟩
          obtain ⟨Y, hY⟩ : ∃ Y : ByteArray, Y = ⟨r.2.toArray⟩ := ⟨_, rfl⟩
          have hXY : r = (X.data.toList, Y.data.toList) := by rw [hX, hY]
          simp only [rdnV, ← hX, ← hY] at hrd
          have HRd := Lib.hid hrd
          have HXY := Lib.hid hXY
          clear hrd hX hY hXY
          by_cases h8 : L.length = 8
          · have t8 : ((L.length : Int) == 8) = true := by simp [h8]
            have t9 : decide (L.length = 8) = true := by simp [h8]
            have hno : res = none := by rw [HRes.out]; exact if_pos h8
            have HNo := Lib.hid hno
            clear HRes hno h8
            go_wp2_with (first
              | (go_at_call 62; refine (HCut.out _).mono ?_; rintro e w2 ⟨rfl, hb2⟩; have HB2 := Lib.hid hb2; clear hb2)
              | (go_at_call 100; refine (HRd.out _).mono ?_; rintro e w3 ⟨rfl, hb3⟩; have HB3 := Lib.hid hb3; clear hb3))
            go_ret2
            rw [HNo.out]
            exact ⟨((bthen (HBel.out.trans (HB2.out.mono hbs)) HB3.out).alloc (by have := HB2.out.size; have := HB3.out.size; omega) _), rfl⟩
          · have t8 : ((L.length : Int) == 8) = false := by simp; omega
            have hyes : res = restD (L ++ [r]) m' U.data.toList := by rw [HRes.out]; exact if_neg h8
            have hL7 : L.length ≤ 7 := by omega
            have HYes := Lib.hid hyes
            clear HRes hyes h8
            go_wp2_with (first
              | (go_at_call 62; refine (HCut.out _).mono ?_; rintro e w2 ⟨rfl, hb2⟩; have HB2 := Lib.hid hb2; clear hb2)
              | (go_at_call 100; refine (HRd.out _).mono ?_; rintro e w3 ⟨rfl, hb3⟩; have HB3 := Lib.hid hb3; clear hb3)
              | (at_builtin; have hbb : Below w3.heap.size w3 (w3.alloc (.cells #[.string X, .string Y] 50)) := (Below.refl _ _).alloc (Nat.le_refl _) _; have HBB := Lib.hid hbb; have HO2 := Lib.hid (ownR_below (ownR_below (ownR_below HOwn.out HB2.out) HB3.out) hbb); clear hbb; refine wpList_append_rdn rfl (.tmp 30) (.tmp 32) rfl w.heap.size (.slice a L.length cp) L rfl X Y HO2.out (by rw [World.size_alloc]; rfl) (by omega) (by have := HB2.out.size; have := HB3.out.size; simp; omega) ?_; intro v5 w5 hown5 hb5; have HO5 := Lib.hid hown5; have HB5 := Lib.hid hb5; have HL5 := Lib.hid (ownR_slice hown5); clear hown5 hb5))
            obtain ⟨a5, c5, rfl⟩ := HL5.out
            go_roundw
            case rel => exact ⟨U, L ++ [r], m', rfl, rfl, by omega, by simp; omega, by rw [HXY.out]; exact HO5.out, (bthen (bthen (HBel.out.trans (HB2.out.mono hbs)) HB3.out) HBB.out).trans HB5.out, HYes.out⟩
            case measure => simp [lenOf]; omega
end Go.Proofs.YtpnbcmblnplbgaaGreatDoor
