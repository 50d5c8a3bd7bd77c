/- Several texts in one file: EvAwk, MaUp, MaAwake, MaCasesW, ScFst, ScFstW, ScNedA, MkA, MkP, MkG, TuA, MkS, EvMkP, FiMkL, FiMkH, FiMkN. -/
import Derived.Test.YtmilgbkkibahlaaGreatDoorEvdP2
import Derived.Test.YtmilgbkkibahlaaGreatDoorDnLow
import Derived.Test.YtmilgbkkibahlaaGreatDoorOfL
import Derived.Test.YtmilgbkkibahlaaGreatDoorMaPure
import Derived.Test.YtmilgbkkibahlaaGreatDoorEvdP1
import Derived.Deep.CutRange
import Derived.Deep.AppendSrc
import Derived.Deep.Onto
import Derived.Deep.RegionLaw
import Derived.Deep.AppendLies
import Derived.RegionTactic
namespace Go.Proofs.YtmilgbkkibahlaaGreatDoor
open Go.RowKit
set_option linter.unusedVariables false
set_option linter.unusedSimpArgs false

theorem isFl_leafE (ok : Nat → Prop) (w : World) (k : Int) (T X : ByteArray) (hk : (Lit.int .i64 k).wf = true) (hT : T.size ≤ 1000000) (hX : X.size ≤ 1000000) : IsFl ok w (.mk k T.data.toList X.data.toList [] []) (.agg #[.int .i64 k, .string T, .string X, .slice none 0 0, .slice none 0 0]) := by
  have hs : ∀ A : ByteArray, Value.string A = strV A.data.toList := fun A => congrArg Value.string (bytes_ext (ofL_list _).symm)
  rw [hs T, hs X]
  exact ⟨.slice none 0 0, none, 0, rfl, hk, by rw [bytes_len]; unfold maxLen; omega, by rw [bytes_len]; unfold maxLen; omega, ⟨none, 0, rfl, Nat.zero_le _, fun j h => absurd h (Nat.not_lt_zero _)⟩, Nat.zero_le _, trivial⟩
theorem per_small : smallA (perL [97, 110, 110]) := by
  refine ⟨by decide, fun a ha => ?_⟩
  simp only [perL, List.mem_cons, List.not_mem_nil, or_false] at ha
  rcases ha with rfl | rfl | rfl <;> exact ⟨by decide, by decide, fun s hs => by simp only [List.mem_singleton] at hs; subst hs; decide⟩
set_option maxRecDepth 100000 in
set_option maxHeartbeats 4000000 in
theorem awake7_any (w : World) (hw : LaidW w) (hx : LaidX w) : Calls Tryz.prog 6 #[] w fun e w' => e = .returned (.bool true) ∧ Below w.heap.size w w' := by
  have h1 := evalP_any (.mk 1 [] [] [] []) (.agg #[.int .i64 1, .string ⟨#[]⟩, .string ⟨#[]⟩, .slice none 0 0, .slice none 0 0]) [] ⟨#[]⟩ none 0 0 w (isFl_leafE _ _ 1 ⟨#[]⟩ ⟨#[]⟩ (by decide) (by decide) (by decide)) ⟨by simp, by simp⟩ hw hx (isA_nil _ _ _ _)
  rw [awE_1, show ((1 : Nat) : Int) = 1 from rfl] at h1
  have h2 := fun (W : World) (D : ByteArray) (g : Nat) (hW : LaidW W) (hX : LaidX W) (hA : IsA W.heap.size W (perL [97, 110, 110]) (.slice (some ⟨g, 0, none⟩) 3 3)) => evalP_any (.mk 4 [99, 110] [65, 78, 78] [] []) (.agg #[.int .i64 4, .string ⟨#[99, 110]⟩, .string ⟨#[65, 78, 78]⟩, .slice none 0 0, .slice none 0 0]) (perL [97, 110, 110]) D (some ⟨g, 0, none⟩) 3 3 W (isFl_leafE _ _ 4 ⟨#[99, 110]⟩ ⟨#[65, 78, 78]⟩ (by decide) (by decide) (by decide)) per_small hW hX hA
  rw [awE_2, show ((1 : Nat) : Int) = 1 from rfl] at h2
  have H1 := Lib.hid h1
  have H2 := Lib.hid h2
  have HW := Lib.hid hw
  have HX := Lib.hid hx
  have HPe := Lib.hid (fun W => person_any ⟨#[97, 110, 110]⟩ (by decide) W)
  have tok1 : True := trivial
  clear h1 h2 hw hx
  go_enter Tryz.func6, Tryz.ntmps6
  go_wp2_with (first
    | (have _t := tok1; go_at_call 11; ((with_reducible refine (H1.out).mono ?_); rintro e w2 ⟨rfl, hb2⟩); have HB2 := Lib.hid hb2; clear hb2 _t; clear tok1)
    | (go_at_call 15; ((with_reducible refine (HPe.out _).mono ?_); rintro e w3 ⟨D, g, rfl, hD, hp, hg, hb3⟩; have HB3 := Lib.hid (bthen HB2.out hb3); have HP := Lib.hid hp.isA; clear hb3 hp hg hD))
    | (go_at_call 11; ((with_reducible refine (H2.out _ _ _ (HW.out.below HB3.out) (HX.out.below HB3.out) HP.out).mono ?_); rintro e w4 ⟨rfl, hb4⟩); have HB4 := Lib.hid (bthen HB3.out hb4); clear hb4))
  go_ret
  exact ⟨rfl, HB4.out⟩
end Go.Proofs.YtmilgbkkibahlaaGreatDoor


namespace Go.Proofs.YtmilgbkkibahlaaGreatDoor
open Go.RowKit
set_option linter.unusedVariables false

def MapAt (f : UInt8 → UInt8) (w : World) (s : ByteArray) (j : Nat) (wr : World) : Prop :=
  Below w.heap.size w wr ∧ ∃ A : Array Value, wr.heap[w.heap.size]? = some (.cells A 5 (A.size, A.size + 1)) ∧ s.size ≤ A.size ∧ ∀ k (h : k < s.size), A[k]? = some (.int .u8 ((if k < j then f s[k] else s[k]).toNat : Int))

theorem MapAt.cell {f : UInt8 → UInt8} {w wr : World} {s : ByteArray} {j : Nat} (h : MapAt f w s j wr) (hj : j < s.size) : wr.cell? ⟨w.heap.size, j, none⟩ = some (.int .u8 (s[j].toNat : Int)) ∧ wr.frozen? ⟨w.heap.size, j, none⟩ = false := by
  obtain ⟨_, A, hA, hs, hc⟩ := h
  have := hc j hj
  rw [if_neg (by omega)] at this
  refine ⟨by simp only [World.cell?, hA]; simpa using this, by simp only [World.frozen?, hA]; simp; omega⟩
theorem MapAt.skip {f : UInt8 → UInt8} {w wr : World} {s : ByteArray} {j : Nat} (h : MapAt f w s j wr) (hj : j < s.size) (he : f s[j] = s[j]) : MapAt f w s (j + 1) wr := by
  obtain ⟨hb, A, hA, hs, hc⟩ := h
  refine ⟨hb, A, hA, hs, fun k hk => ?_⟩
  rw [hc k hk]
  by_cases h1 : k < j
  · rw [if_pos h1, if_pos (by omega)]
  · rw [if_neg h1]
    by_cases h2 : k = j
    · subst h2; rw [if_pos (by omega), he]
    · rw [if_neg (by omega)]
theorem MapAt.store {f : UInt8 → UInt8} {w wr : World} {s : ByteArray} {j : Nat} (h : MapAt f w s j wr) (hj : j < s.size) (n : Int) (hn : n = ((f s[j]).toNat : Int)) : MapAt f w s (j + 1) (wr.setCell ⟨w.heap.size, j, none⟩ (.int .u8 n)) := by
  subst hn
  obtain ⟨hb, A, hA, hs, hc⟩ := h
  refine ⟨hb.setCell (p := ⟨w.heap.size, j, none⟩) (Nat.le_refl _) _, A.setIfInBounds j (.int .u8 (f s[j]).toNat), ?_, by simpa using hs, fun k hk => ?_⟩
  · obtain ⟨hlt, hv⟩ := Array.getElem?_eq_some_iff.1 hA
    show (wr.heap.modify w.heap.size _)[w.heap.size]? = _
    rw [Array.getElem?_eq_getElem (by rw [Array.size_modify]; exact hlt), Array.getElem_modify_self, hv]
    simp
  · rw [Array.getElem?_setIfInBounds]
    by_cases h2 : j = k
    · subst h2; rw [if_pos rfl, if_pos (by omega), if_pos (by omega)]
    · rw [if_neg h2, hc k hk]
      by_cases h1 : k < j
      · rw [if_pos h1, if_pos (by omega)]
      · rw [if_neg h1, if_neg (by omega)]
theorem MapAt.conv {f : UInt8 → UInt8} {w wr : World} {s : ByteArray} {cap : Nat} (h : MapAt f w s s.size wr) :
    (convert 22 9 (.slice (some ⟨w.heap.size, 0, none⟩) s.size cap)).run Tryz.prog wr = .ok (.string ⟨(s.data.toList.map f).toArray⟩) wr := by
  obtain ⟨_, A, hA, hs, hc⟩ := h
  have hl : s.size = (s.data.toList.map f).length := by simp
  conv => lhs; rw [hl]
  refine run_convert_bytes_back wr 22 9 5 _ cap (s.data.toList.map f) Tryz.underlying22 Tryz.underlying5 Tryz.underlying9 fun j hj => ?_
  have hj' : j < s.size := by rw [hl]; exact hj
  have e : ((⟨w.heap.size, 0, none⟩ : Addr).add j) = ⟨w.heap.size, j, none⟩ := by simp [Addr.add]; omega
  have := hc j hj'
  rw [if_pos hj'] at this
  rw [e]
  simp only [World.cell?, hA]
  simp
  exact this


def upC (c : UInt8) : UInt8 := if 97 ≤ c.toNat ∧ c.toNat ≤ 122 then UInt8.ofNat (c.toNat - 32) else c
def upL (l : List UInt8) : List UInt8 := l.map upC
end Go.Proofs.YtmilgbkkibahlaaGreatDoor


namespace Go.Proofs.YtmilgbkkibahlaaGreatDoor
open Go.RowKit
set_option linter.unusedVariables false

end Go.Proofs.YtmilgbkkibahlaaGreatDoor


namespace Go.Proofs.YtmilgbkkibahlaaGreatDoor
open Go.RowKit
set_option linter.unusedVariables false

end Go.Proofs.YtmilgbkkibahlaaGreatDoor


namespace Go.Proofs.YtmilgbkkibahlaaGreatDoor
open Go.RowKit
set_option linter.unusedVariables false

def codeL : List Int := [17, 19, 21, 19, 20, 20]
def badL : List AT := [([110, 111, 110, 101], [[120]]), ([100, 101, 115, 99, 114, 105, 112, 116, 105, 111, 110], []), ([117, 105, 100, 110, 117, 109, 98, 101, 114], [[120]]), ([117, 105, 100, 110, 117, 109, 98, 101, 114], [[49], [50]]), ([109, 97, 105, 108], [[97], [65, 32]]), ([67, 78], [[122]])]
def othD : List UInt8 := [99, 110, 61, 111, 116, 104, 101, 114]
def pName (d : List UInt8) : List UInt8 := 112 :: d
def ouA : AT := ([111, 117], [[97]])
end Go.Proofs.YtmilgbkkibahlaaGreatDoor


namespace Go.Proofs.YtmilgbkkibahlaaGreatDoor
open Go.RowKit
set_option linter.unusedVariables false

theorem itoa_short : ∀ n : Fin 256, (Lib.itoa (n.1 : Int)).length ≤ 3 := by decide +kernel
def bA (k : Nat) : AT := badL.getD k ([], [])
def bT (k : Nat) : ByteArray := ofL (bA k).1
def cK (k : Nat) : Int := codeL.getD k 0
def bV (h : Nat) (k : Nat) : Value := [.slice (some ⟨h + 1, 0, none⟩) 1 1, .slice none 0 0, .slice (some ⟨h + 2, 0, none⟩) 1 1, .slice (some ⟨h + 3, 0, none⟩) 2 2, .slice (some ⟨h + 4, 0, none⟩) 2 2, .slice (some ⟨h + 5, 0, none⟩) 1 1].getD k .nilIface
structure FstAt (h : Nat) (W : World) (E : ByteArray) (u : Value) : Prop where
  box : BoxN W h E u
  b1 : W.heap[h + 1]? = some (.cells #[.string ⟨#[120]⟩] 9 (0, 0))
  b2 : W.heap[h + 2]? = some (.cells #[.string ⟨#[120]⟩] 9 (0, 0))
  b3 : W.heap[h + 3]? = some (.cells #[.string ⟨#[49]⟩, .string ⟨#[50]⟩] 9 (0, 0))
  b4 : W.heap[h + 4]? = some (.cells #[.string ⟨#[97]⟩, .string ⟨#[65, 32]⟩] 9 (0, 0))
  b5 : W.heap[h + 5]? = some (.cells #[.string ⟨#[122]⟩] 9 (0, 0))
  b6 : W.heap[h + 6]? = some (.cells #[.string ⟨#[110, 111, 110, 101]⟩, .slice (some ⟨h + 1, 0, none⟩) 1 1, .string ⟨#[100, 101, 115, 99, 114, 105, 112, 116, 105, 111, 110]⟩, .slice none 0 0, .string ⟨#[117, 105, 100, 110, 117, 109, 98, 101, 114]⟩, .slice (some ⟨h + 2, 0, none⟩) 1 1, .string ⟨#[117, 105, 100, 110, 117, 109, 98, 101, 114]⟩, .slice (some ⟨h + 3, 0, none⟩) 2 2, .string ⟨#[109, 97, 105, 108]⟩, .slice (some ⟨h + 4, 0, none⟩) 2 2, .string ⟨#[67, 78]⟩, .slice (some ⟨h + 5, 0, none⟩) 1 1] 42 (0, 0))
  b7 : W.heap[h + 7]? = some (.cells #[.int .i64 17, .int .i64 19, .int .i64 21, .int .i64 19, .int .i64 20, .int .i64 20] 3 (0, 0))
  size : W.heap.size = h + 8

def XAt (W7 : World) (E : ByteArray) (L : List AT) (wx : World) (b : Nat) (u : Value) : Prop := W7.heap.size ≤ b ∧ b < wx.heap.size ∧ BoxN wx b E u ∧ IsA wx.heap.size wx L u ∧ Below W7.heap.size W7 wx
theorem XAt.drew {W7 wx : World} {E : ByteArray} {L : List AT} {b : Nat} {u : Value} (h : XAt W7 E L wx b u) : XAt W7 E L wx.drew b u := ⟨h.1, h.2.1, h.2.2.1, h.2.2.2.1, h.2.2.2.2.drew⟩
theorem XAt.from {W7 wx : World} {E : ByteArray} {L : List AT} {b : Nat} {u : Value} (h : XAt W7.drew E L wx b u) : XAt W7 E L wx b u := ⟨h.1, h.2.1, h.2.2.1, h.2.2.2.1, (Below.refl W7.heap.size W7).drew.trans h.2.2.2.2⟩
def At9 (w9 w : World) : Prop := Below w9.heap.size w9 w
theorem At9.go {w9 w w' : World} (h : At9 w9 w) (hb : Below w.heap.size w w') : At9 w9 w' := bthen h hb
theorem At9.mono {w9 w : World} (h : At9 w9 w) {n : Nat} (hn : n ≤ w9.heap.size) : Below n w9 w := Below.mono h hn
theorem At9.size {w9 w : World} (h : At9 w9 w) : w9.heap.size ≤ w.heap.size := Below.size h
theorem At9.cell {w9 w : World} (h : At9 w9 w) {p : Addr} (hp : p.block < w9.heap.size) : w.cell? p = w9.cell? p := Below.cell h hp
abbrev C6 (N1 N2 N3 : ByteArray) (v1 v2 v3 : Value) : Obj := .cells #[.string N1, v1, .string N2, v2, .string N3, v3] 42
abbrev C8 (g q : Nat) : Array Value := #[.string ⟨#[99, 110]⟩, .slice (some ⟨g - 3, 0, none⟩) 1 1, .string ⟨#[111, 98, 106, 101, 99, 116, 99, 108, 97, 115, 115]⟩, .slice (some ⟨g - 2, 0, none⟩) 1 1, .string ⟨#[115, 110]⟩, .slice (some ⟨g - 1, 0, none⟩) 1 1, .string ⟨#[111, 117]⟩, .slice (some ⟨q, 0, none⟩) 1 1]
end Go.Proofs.YtmilgbkkibahlaaGreatDoor


namespace Go.Proofs.YtmilgbkkibahlaaGreatDoor
open Go.RowKit
set_option linter.unusedVariables false

def StrB (w : World) (b : Nat) : Prop := ∃ cs fr, w.heap[b]? = some (.cells cs 9 fr)
def SaysM (w : World) (P : List PT) (L : List AT) : Prop := P.length = L.length ∧ ∀ j (h : j < L.length) (h' : j < P.length), P[j].1 = L[j].1 ∧ IsTo (StrB w) w L[j].2 P[j].2
def OwnM (B : Nat) (w : World) (v : Value) (L : List AT) : Prop := ∃ P, RowP B w v P ∧ SaysM w P L

theorem strB_at {w : World} {b : Nat} {cs : Array Value} (h : w.heap[b]? = some (.cells cs 9 (0, 0))) : StrB w b := ⟨cs, _, h⟩
theorem StrB.lt {w : World} {b : Nat} (h : StrB w b) : b < w.heap.size := by
  obtain ⟨_, _, h⟩ := h
  exact (Array.getElem?_eq_some_iff.1 h).1
theorem saysM_to {w w' : World} {P : List PT} {L : List AT} (h : SaysM w P L) (hk : ∀ b, StrB w b → w'.heap[b]? = w.heap[b]?) : SaysM w' P L :=
  ⟨h.1, fun j h1 h2 => ⟨(h.2 j h1 h2).1, (h.2 j h1 h2).2.imp (fun b hb => by obtain ⟨cs, fr, e⟩ := hb; exact ⟨cs, fr, (hk b ⟨cs, fr, e⟩).trans e⟩) (fun b o hb => by simp only [World.cell?, hk b hb])⟩⟩
theorem saysM_below {w w' : World} {P : List PT} {L : List AT} (h : SaysM w P L) (hb : Below w.heap.size w w') : SaysM w' P L := saysM_to h fun b hs => hb.block b hs.lt
theorem ownM_below {B : Nat} {w w' : World} {v : Value} {L : List AT} (h : OwnM B w v L) (hb : Below w.heap.size w w') : OwnM B w' v L := by
  obtain ⟨P, h1, h2⟩ := h
  exact ⟨P, rowP_below h1 hb, saysM_below h2 hb⟩
theorem row_keep {B : Nat} {w w' : World} {v : Value} {P : List PT} (hr : RowP B w v P) (hg : w.grownBy w' v.ownBlock) {b : Nat} {cs : Array Value} {e : TypeId} {fr : Nat × Nat} (hb : w.heap[b]? = some (.cells cs e fr)) (hne : e ≠ 42) : w'.heap[b]? = w.heap[b]? := by
  refine hg.block b (Array.getElem?_eq_some_iff.1 hb).1 fun he => hne ?_
  rcases hr.2 with ⟨rfl, _⟩ | ⟨g, cap, cur, rfl, _, hc, _⟩
  · cases he
  · have : b = g := by simpa [Value.ownBlock] using he
    subst this
    rw [hb] at hc
    cases hc
    rfl
theorem saysM_grown {B : Nat} {w w' : World} {v : Value} {P P' : List PT} {L : List AT} (hr : RowP B w v P') (hg : w.grownBy w' v.ownBlock) (h : SaysM w P L) : SaysM w' P L :=
  saysM_to h fun b hs => by obtain ⟨cs, fr, e⟩ := hs; exact row_keep hr hg e (by decide)
theorem saysM_app {w : World} {P PM : List PT} {L M : List AT} (h : SaysM w P L) (hm : SaysM w PM M) : SaysM w (P ++ PM) (L ++ M) := by
  refine ⟨by simp [h.1, hm.1], fun j h1 h2 => ?_⟩
  by_cases hj : j < L.length
  · have hj' : j < P.length := by rw [h.1]; exact hj
    rw [List.getElem_append_left hj', List.getElem_append_left hj]
    exact h.2 j hj hj'
  · have e := h.1
    have hm1 : j - L.length < M.length := by simp at h1; omega
    have hm2 : j - L.length < PM.length := by rw [hm.1]; exact hm1
    have g1 : (P ++ PM)[j] = PM[j - L.length] := by
      rw [List.getElem_append_right (by omega)]
      simp only [e]
    have g2 : (L ++ M)[j] = M[j - L.length] := List.getElem_append_right (by omega)
    rw [g1, g2]
    exact hm.2 _ hm1 hm2
theorem one_isTo {ok : Nat → Prop} {w : World} {L : List (List UInt8)} {v : Value} (h : IsTo ok w L v) : v.oneCell' = true := by
  obtain ⟨_, _, rfl, _⟩ := h
  rfl

theorem exec_append {P : Program} {o : Oper} {a : Act} {w w' : World} {s x : Operand} {t : TypeId} {v u v' : Value} (ho : o.op = .call { callee := .builtin .append, args := #[s, x], argTypes := #[t, t] }) (hs : a.eval s = v) (hx : a.eval x = u)
    (hr : (Builtin.append_ #[t, t] o.type #[v, u]).run P w = .ok v' w') : (execOp a.eval o).run P w = .ok (.value v') w' := by
  unfold execOp
  simp only [ho, resolve, invoke, builtin, Sem.run_bind, Sem.run_pure, Result.andThen_ok, List.map_toArray, List.map_cons, List.map_nil, hs, hx, hr]

theorem wpOp_skip {P : Program} {ops : Array Oper} {Q : Exit → Act → World → Prop} {i : Nat} {o : Oper} {a : Act} {w w' : World} {K : Act → World → Prop} (ho : ops[i]? = some o) (hg : o.guard = none) (hr : (execOp a.eval o).run P w = .ok .skip w') (hk : K (a.put o.dst undef) w') : wpOp P ops Q i K a w := by
  unfold wpOp
  rw [ho]
  show if Region.wanted o (yielded ops a.tmps) = true then _ else _
  rw [if_pos (by unfold Region.wanted; rw [hg])]
  refine .inl ?_
  unfold Oper.wp
  rw [hr]
  exact hk

theorem saysM_one {w : World} {b : Nat} {X Y : ByteArray} (h : w.heap[b]? = some (.cells #[.string Y] 9 (0, 0))) : SaysM w [(X.data.toList, .slice (some ⟨b, 0, none⟩) 1 1)] [(X.data.toList, [Y.data.toList])] :=
  ⟨rfl, fun j hj hj' => by
    have : j = 0 := by simp at hj; omega
    subst this
    refine ⟨rfl, _, _, rfl, by unfold maxLen; simp, fun k hk => ?_⟩
    have : k = 0 := by simp at hk; omega
    subst this
    refine ⟨b, 0, rfl, strB_at h, ?_⟩
    rw [show ([(X.data.toList, [Y.data.toList])] : List AT)[0].2[0] = Y.data.toList from rfl, strV_whole]
    simp only [World.cell?, h]
    rfl⟩
theorem cells_one {w : World} {c : Nat} {X : ByteArray} {u : Value} (h : w.heap[c]? = some (.cells #[.string X, u] 42 (0, 0))) : ∀ j x, (cellsP [(X.data.toList, u)])[j]? = some x → w.cell? ((⟨c, 0, none⟩ : Addr).add j) = some x := by
  intro j x hx
  have hadd : (⟨c, 0, none⟩ : Addr).add j = ⟨c, j, none⟩ := by simp [Addr.add]; omega
  rw [hadd]
  simp only [World.cell?, h]
  have e : cellsP [(X.data.toList, u)] = [.string X, u] := by
    show [strV X.data.toList, u] = _
    rw [strV_whole]
  rw [e] at hx
  simpa using hx
def perRow (g : Nat) : List PT := [([99, 110], .slice (some ⟨g - 3, 0, none⟩) 1 1), ([111, 98, 106, 101, 99, 116, 99, 108, 97, 115, 115], .slice (some ⟨g - 2, 0, none⟩) 1 1), ([115, 110], .slice (some ⟨g - 1, 0, none⟩) 1 1)]
theorem isTo_one {w : World} {b : Nat} {X : ByteArray} (h : w.heap[b]? = some (.cells #[.string X] 9 (0, 0))) : IsTo (StrB w) w [X.data.toList] (.slice (some ⟨b, 0, none⟩) 1 1) :=
  (saysM_one (X := X) h).2 0 (by simp) (by simp) |>.2
theorem per_says {w : World} {g : Nat} {N : ByteArray} (h : PerAt w g N) : SaysM w (perRow g) (perL N.data.toList) :=
  ⟨rfl, fun j hj hj' => by
    match j, hj with
    | 0, _ => exact ⟨rfl, isTo_one h.b1⟩
    | 1, _ => exact ⟨rfl, isTo_one h.b2⟩
    | 2, _ => exact ⟨rfl, isTo_one h.b3⟩⟩
theorem list_cells {w : World} {b : Nat} {P : List PT} (h : w.heap[b]? = some (.cells (cellsP P).toArray 42 (0, 0))) : ∀ j u, (cellsP P)[j]? = some u → w.cell? ⟨b, j, none⟩ = some u := by
  intro j u hu
  simp only [World.cell?, h]
  simpa using hu
theorem ownM_isA {B : Nat} {w : World} {v : Value} {L : List AT} (h : OwnM B w v L) (hl : L.length ≤ maxLen) : IsA w.heap.size w L v := by
  obtain ⟨P, h1, h2⟩ := h
  by_cases hne : P = []
  · subst hne
    obtain ⟨a, c, hv⟩ := rowP_slice h1
    have : L = [] := List.eq_nil_of_length_eq_zero (by have := h2.1; simpa using this.symm)
    subst this
    exact ⟨a, c, hv, hl, fun j hj => absurd hj (by simp)⟩
  · obtain ⟨g, c, hv, _, hg, hc⟩ := rowP_at h1 hne
    refine ⟨_, c, by rw [hv, h2.1], hl, fun j hj => ?_⟩
    have hj' : j < P.length := by rw [h2.1]; exact hj
    obtain ⟨e1, e2⟩ := h2.2 j hj hj'
    refine ⟨g, 0, P[j].2, rfl, hg, ?_, ?_, e2.to (fun b hb => hb.lt)⟩
    · rw [Nat.zero_add, ← e1]; exact (hc j hj').1
    · rw [Nat.zero_add]; exact (hc j hj').2

structure MAt (n1 : Nat) (W0 : World) (D : ByteArray) (L : List AT) (wx : World) (b : Nat) (u : Value) : Prop where
  lo : n1 ≤ b
  box : BoxN wx b D u
  own : OwnM n1 wx u L
  below : Below n1 W0 wx
theorem mAt_store {n1 b : Nat} {W0 W : World} {D : ByteArray} {L : List AT} {s : Value} (hb : Below n1 W0 W) (hc : W.heap[b]? = some (.cells #[.string ⟨#[]⟩, .slice none 0 0] 26 (0, 0))) (hn : n1 ≤ b) (hown : OwnM n1 W s L) :
    MAt n1 W0 D L ((W.setCell ⟨b, 0, none⟩ (.string D)).setCell ⟨b, 1, none⟩ s) b s := by
  have hbl := (Array.getElem?_eq_some_iff.1 hc).1
  have hother : ∀ k, k ≠ b → ((W.setCell ⟨b, 0, none⟩ (.string D)).setCell ⟨b, 1, none⟩ s).heap[k]? = W.heap[k]? := fun k hk => by
    rw [block_ne _ ⟨b, 1, none⟩ _ hk, block_ne _ ⟨b, 0, none⟩ _ hk]
  obtain ⟨P, hr, hs⟩ := hown
  refine ⟨hn, ?_, ⟨P, ?_, ?_⟩, ?_⟩
  · unfold BoxN
    simp [World.setCell, Array.getElem?_modify, hc]
  · have hg : W.grownBy ((W.setCell ⟨b, 0, none⟩ (.string D)).setCell ⟨b, 1, none⟩ s) (some b) := ⟨rfl, rfl, rfl, by simp [World.setCell], fun k hk hne => hother k (fun e => hne (by rw [e]))⟩
    refine World.ownsRow.kept hr hg ?_
    right
    intro he
    rcases hr.2 with ⟨rfl, _⟩ | ⟨g, cap, cur, rfl, _, hgc, _⟩
    · cases he
    · have : g = b := by simpa [Value.ownBlock] using he
      subst this
      rw [hgc] at hc
      cases hc
  · refine saysM_to hs fun k hk => hother k fun e => ?_
    obtain ⟨cs, fr, hk⟩ := hk
    rw [e, hc] at hk
    cases hk
  · exact (hb.setCell hn _).setCell hn _

theorem entry_new {W : World} {b : Nat} (h : W.heap[b]? = some (.cells #[.string ⟨#[]⟩, .slice none 0 0] 26 (0, 0))) (x : Value) : W.cell? ⟨b, 0, none⟩ = some (.string ⟨#[]⟩) ∧ W.frozen? ⟨b, 0, none⟩ = false ∧ (W.setCell ⟨b, 0, none⟩ x).cell? ⟨b, 1, none⟩ = some (.slice none 0 0) ∧ (W.setCell ⟨b, 0, none⟩ x).frozen? ⟨b, 1, none⟩ = false := by
  refine ⟨?_, ?_, ?_, ?_⟩ <;> simp [World.cell?, World.frozen?, World.setCell, Array.getElem?_modify, h]

theorem boxN_set {W : World} {g i b : Nat} {x u : Value} {D : ByteArray} {cs : Array Value} {fr : Nat × Nat} (h : BoxN W b D u) (hg : W.heap[g]? = some (.cells cs 42 fr)) : BoxN (W.setCell ⟨g, i, none⟩ x) b D u := by
  refine (block_ne W ⟨g, i, none⟩ x fun e => ?_).trans h
  unfold BoxN at h
  rw [show b = g from e, hg] at h
  cases h
theorem ownM_form {B : Nat} {w : World} {v : Value} {L : List AT} (h : OwnM B w v L) (hL : 0 < L.length) : ∃ g cap, v = .slice (some ⟨g, 0, none⟩) L.length cap := by
  obtain ⟨P, hr, hs⟩ := h
  obtain ⟨g, c, hv, _⟩ := rowP_at hr (fun e => by have := hs.1; rw [e] at this; simp at this; omega)
  exact ⟨g, c, by rw [hv, hs.1]⟩

def NC6 : Array Value := #[.string ⟨#[109, 97, 105, 108]⟩, .string ⟨#[117, 105, 100]⟩, .string ⟨#[111, 117]⟩, .string ⟨#[109, 101, 109, 98, 101, 114]⟩, .string ⟨#[117, 105, 100, 110, 117, 109, 98, 101, 114]⟩, .string ⟨#[111]⟩]
def NC2 : Array Value := #[.string ⟨#[100, 101, 115, 99, 114, 105, 112, 116, 105, 111, 110]⟩, .string ⟨#[117, 115, 101, 114, 112, 97, 115, 115, 119, 111, 114, 100]⟩]
def nmB (l : Array Value) (q : Nat) : ByteArray := match l.getD q undef with
  | .string x => x
  | _ => ⟨#[]⟩
def FLess (n1 h0 b6 k : Nat) (D : ByteArray) (L1 L2 : List AT) (p q : Bool) (i : Nat) (v : Value) (w : World) : Prop := match i with
  | 0 => v = .pointer (some ⟨h0, 0, none⟩)
  | 1 => v = .string D
  | 2 => p = true ∨ ∃ b, v = .slice (some ⟨b, 0, none⟩) 0 0 ∧ n1 ≤ b ∧ w.heap[b]? = some (.cells #[] 42 (0, 0))
  | 3 => v = .slice (some ⟨b6, 0, none⟩) 3 3
  | 4 => v = .int .i64 (k : Int)
  | 5 => v = .slice (some ⟨b6, 0, none⟩) k 3
  | 6 => q = true ∨ OwnM n1 w v L1
  | 7 => v = .slice (some ⟨b6, 0, none⟩) 3 3
  | 8 => v = .int .i64 (k : Int)
  | 9 => v = .int .i64 ((k : Int) + 1)
  | 10 => v = .slice (some (if k = 2 then ⟨b6, 0, none⟩ else ⟨b6, (k + 1) * 2, none⟩)) (2 - k) (2 - k)
  | 11 => q = true ∧ OwnM n1 w v L2
  | 12 => q = true ∧ ∃ s, v = .agg #[.string D, s] ∧ OwnM n1 w s L2
  | 13 => ∃ b, v = .pointer (some ⟨b, 0, none⟩) ∧ n1 ≤ b ∧ w.heap[b]? = some (.cells #[.string ⟨#[]⟩, .slice none 0 0] 26 (0, 0))
  | _ => True
theorem FLess.go {n1 h0 b6 k : Nat} {D : ByteArray} {L1 L2 : List AT} {p q : Bool} {i : Nat} {v : Value} {w w' : World} (h : FLess n1 h0 b6 k D L1 L2 p q i v w) (hb : Below w.heap.size w w') : FLess n1 h0 b6 k D L1 L2 p q i v w' := by
  have hk : ∀ {b : Nat} {o : Obj}, w.heap[b]? = some o → w'.heap[b]? = some o := fun e => (hb.block _ (Array.getElem?_eq_some_iff.1 e).1).trans e
  match i, h with
  | 0, h => exact h
  | 1, h => exact h
  | 2, h => exact h.imp id fun ⟨b, e, hn, hc⟩ => ⟨b, e, hn, hk hc⟩
  | 3, h => exact h
  | 4, h => exact h
  | 5, h => exact h
  | 6, h => exact h.imp id fun x => ownM_below x hb
  | 7, h => exact h
  | 8, h => exact h
  | 9, h => exact h
  | 10, h => exact h
  | 11, h => exact ⟨h.1, ownM_below h.2 hb⟩
  | 12, h => obtain ⟨hq, s, e, x⟩ := h; exact ⟨hq, s, e, ownM_below x hb⟩
  | 13, h => obtain ⟨b, e, hn, hc⟩ := h; exact ⟨b, e, hn, hk hc⟩
  | _ + 14, h => exact trivial
theorem FLess.loud {n1 h0 b6 k : Nat} {D : ByteArray} {L1 L2 : List AT} {p q q' : Bool} {i : Nat} {v : Value} {w w' : World} (h : FLess n1 h0 b6 k D L1 L2 p q i v w) (hp : q = false) (hi : i ≠ 6 ∨ q' = true)
    (hk : ∀ (b : Nat) (cs : Array Value) (e : TypeId), w.heap[b]? = some (.cells cs e (0, 0)) → e ≠ 42 → w'.heap[b]? = w.heap[b]?) : FLess n1 h0 b6 k D L1 L2 true q' i v w' := by
  subst hp
  match i, h, hi with
  | 0, h, _ => exact h
  | 1, h, _ => exact h
  | 2, h, _ => exact .inl rfl
  | 3, h, _ => exact h
  | 4, h, _ => exact h
  | 5, h, _ => exact h
  | 6, h, hi => exact .inl (hi.resolve_left (fun x => x rfl))
  | 7, h, _ => exact h
  | 8, h, _ => exact h
  | 9, h, _ => exact h
  | 10, h, _ => exact h
  | 11, h, _ => cases h.1
  | 12, h, _ => cases h.1
  | 13, h, _ => obtain ⟨b, e, hn, hc⟩ := h; exact ⟨b, e, hn, (hk _ _ _ hc (by decide)).trans hc⟩
  | _ + 14, h, _ => exact trivial

def FMore (n1 h0 b6 wh q6 : Nat) (D : ByteArray) (NC : Array Value) (NA VT : ByteArray) (L1 L2 : List AT) (p q : Bool) (i : Nat) (v : Value) (w : World) : Prop := match i with
  | 0 => v = .pointer (some ⟨h0, 0, none⟩)
  | 1 => v = .string D
  | 2 => p = true ∨ ∃ b, v = .slice (some ⟨b, 0, none⟩) 0 0 ∧ n1 ≤ b ∧ w.heap[b]? = some (.cells #[] 42 (0, 0))
  | 3 => v = .slice (some ⟨b6, 0, none⟩) 3 3
  | 4 => q = true ∨ OwnM n1 w v L1
  | 5 => ∃ b, v = .slice (some ⟨b, 0, none⟩) NC.size NC.size ∧ w.heap[b]? = some (.cells NC 9 (0, 0))
  | 6 => v = .int .u8 (wh : Int)
  | 7 => v = .int .u8 (q6 : Int)
  | 8 => ∃ b, v = .pointer (some ⟨b, q6, none⟩) ∧ w.heap[b]? = some (.cells NC 9 (0, 0))
  | 9 => v = .string NA
  | 10 => ∃ b, v = .slice (some ⟨b, 0, none⟩) 1 1 ∧ w.heap[b]? = some (.cells #[.string VT] 9 (0, 0))
  | 11 => ∃ b, v = .agg #[.string NA, .slice (some ⟨b, 0, none⟩) 1 1] ∧ w.heap[b]? = some (.cells #[.string VT] 9 (0, 0))
  | 12 => q = true ∨ ∃ c b, v = .slice (some ⟨c, 0, none⟩) 1 1 ∧ w.heap[c]? = some (.cells #[.string NA, .slice (some ⟨b, 0, none⟩) 1 1] 42 (0, 0)) ∧ w.heap[b]? = some (.cells #[.string VT] 9 (0, 0))
  | 13 => q = true ∧ OwnM n1 w v L2
  | 14 => q = true ∧ ∃ s, v = .agg #[.string D, s] ∧ OwnM n1 w s L2
  | 15 => ∃ b, v = .pointer (some ⟨b, 0, none⟩) ∧ n1 ≤ b ∧ w.heap[b]? = some (.cells #[.string ⟨#[]⟩, .slice none 0 0] 26 (0, 0))
  | _ => True
theorem FMore.go {n1 h0 b6 wh q6 : Nat} {D : ByteArray} {NC : Array Value} {NA VT : ByteArray} {L1 L2 : List AT} {p q : Bool} {i : Nat} {v : Value} {w w' : World} (h : FMore n1 h0 b6 wh q6 D NC NA VT L1 L2 p q i v w) (hb : Below w.heap.size w w') : FMore n1 h0 b6 wh q6 D NC NA VT L1 L2 p q i v w' := by
  have hk : ∀ {b : Nat} {o : Obj}, w.heap[b]? = some o → w'.heap[b]? = some o := fun e => (hb.block _ (Array.getElem?_eq_some_iff.1 e).1).trans e
  match i, h with
  | 0, h => exact h
  | 1, h => exact h
  | 2, h => exact h.imp id fun ⟨b, e, hn, hc⟩ => ⟨b, e, hn, hk hc⟩
  | 3, h => exact h
  | 4, h => exact h.imp id fun x => ownM_below x hb
  | 5, h => obtain ⟨b, e, hc⟩ := h; exact ⟨b, e, hk hc⟩
  | 6, h => exact h
  | 7, h => exact h
  | 8, h => obtain ⟨b, e, hc⟩ := h; exact ⟨b, e, hk hc⟩
  | 9, h => exact h
  | 10, h => obtain ⟨b, e, hc⟩ := h; exact ⟨b, e, hk hc⟩
  | 11, h => obtain ⟨b, e, hc⟩ := h; exact ⟨b, e, hk hc⟩
  | 12, h => exact h.imp id fun ⟨c, b, e, h1, h2⟩ => ⟨c, b, e, hk h1, hk h2⟩
  | 13, h => exact ⟨h.1, ownM_below h.2 hb⟩
  | 14, h => obtain ⟨hq, s, e, x⟩ := h; exact ⟨hq, s, e, ownM_below x hb⟩
  | 15, h => obtain ⟨b, e, hn, hc⟩ := h; exact ⟨b, e, hn, hk hc⟩
  | _ + 16, h => exact trivial
end Go.Proofs.YtmilgbkkibahlaaGreatDoor


namespace Go.Proofs.YtmilgbkkibahlaaGreatDoor
open Go.RowKit
set_option linter.unusedVariables false

inductive Fk where
  | is (v : Value)
  | val (VB : Array Value) (g : Nat → Value)
  | att (M : List AT)
  | row (P : List PT) (L : List AT)
  | txt (L : List (List UInt8))
  | any
def FK (B : Nat) (T : List Fk) (q : Bool) (i : Nat) (v : Value) (w : World) : Prop := match T.getD i .any with
  | .is x => v = x
  | .val VB g => ∃ b, v = g b ∧ w.heap[b]? = some (.cells VB 9 (0, 0))
  | .att M => q = true ∨ ∃ c PM, v = .slice (some ⟨c, 0, none⟩) M.length M.length ∧ w.heap[c]? = some (.cells (cellsP PM).toArray 42 (0, 0)) ∧ SaysM w PM M
  | .row P L => q = true ∧ ∃ PM, RowP B w v (P ++ PM) ∧ SaysM w (P ++ PM) L
  | .txt L => IsTo (StrB w) w L v
  | .any => True
theorem FK.go {B : Nat} {T : List Fk} {q : Bool} {i : Nat} {v : Value} {w w' : World} (h : FK B T q i v w) (hb : Below w.heap.size w w') : FK B T q i v w' := by
  have hk : ∀ {b : Nat} {o : Obj}, w.heap[b]? = some o → w'.heap[b]? = some o := fun e => (hb.block _ (Array.getElem?_eq_some_iff.1 e).1).trans e
  unfold FK at h ⊢
  cases e : T.getD i .any with
  | is x => rw [e] at h; exact h
  | val VB g => rw [e] at h; obtain ⟨b, h1, h2⟩ := h; exact ⟨b, h1, hk h2⟩
  | att M => rw [e] at h; exact h.imp id fun ⟨c, PM, h1, h2, h3⟩ => ⟨c, PM, h1, hk h2, saysM_below h3 hb⟩
  | row P L => rw [e] at h; obtain ⟨hq, PM, h1, h2⟩ := h; exact ⟨hq, PM, rowP_below h1 hb, saysM_below h2 hb⟩
  | txt L => rw [e] at h; exact h.imp (fun b ⟨cs, fr, hc⟩ => ⟨cs, fr, hk hc⟩) (fun b o hs => hb.cell (p := ⟨b, o, none⟩) hs.lt)
  | any => exact trivial
theorem FK.loud {B : Nat} {T : List Fk} {i : Nat} {v : Value} {w w' : World} (h : FK B T false i v w) (hks : ∀ (b : Nat) (cs : Array Value) (fr : Nat × Nat), w.heap[b]? = some (.cells cs 9 fr) → w'.heap[b]? = w.heap[b]?) (hk : ∀ (b : Nat) (cs : Array Value) (e : TypeId), w.heap[b]? = some (.cells cs e (0, 0)) → e ≠ 42 → w'.heap[b]? = w.heap[b]?) : FK B T true i v w' := by
  unfold FK at h ⊢
  cases e : T.getD i .any with
  | is x => rw [e] at h; exact h
  | val VB g => rw [e] at h; obtain ⟨b, h1, h2⟩ := h; exact ⟨b, h1, (hk _ _ _ h2 (by decide)).trans h2⟩
  | att M => exact .inl rfl
  | row P L => rw [e] at h; cases h.1
  | txt L =>
    rw [e] at h
    have hs : ∀ b, StrB w b → w'.heap[b]? = w.heap[b]? := fun b ⟨cs, fr, hc⟩ => hks b cs fr hc
    exact h.imp (fun b hb => by obtain ⟨cs, fr, hc⟩ := hb; exact ⟨cs, fr, (hs b ⟨cs, fr, hc⟩).trans hc⟩) (fun b o hb => by simp only [World.cell?, hs b hb])
  | any => exact trivial

def kOf (ns : List UInt8) (i : Nat) : Nat := (ns.getD i 0).toNat
structure MkAt (B : Nat) (W : World) (ge : Nat) (D : ByteArray) (u : Value) (P : List PT) (L : List AT) (kb : Nat) (KC : Array Value) : Prop where
  box : BoxN W ge D u
  row : RowP B W u P
  says : SaysM W P L
  nums : W.heap[kb]? = some (.cells KC 3 (0, 0))
  lo : B ≤ ge
theorem MkAt.own {B ge kb : Nat} {D : ByteArray} {u : Value} {P : List PT} {L : List AT} {KC : Array Value} {W : World} (h : MkAt B W ge D u P L kb KC) : OwnM B W u L := ⟨P, h.row, h.says⟩
theorem MkAt.go {B ge kb : Nat} {D : ByteArray} {u : Value} {P : List PT} {L : List AT} {KC : Array Value} {W W' : World} (h : MkAt B W ge D u P L kb KC) (hb : Below W.heap.size W W') : MkAt B W' ge D u P L kb KC :=
  ⟨h.box.below hb (Array.getElem?_eq_some_iff.1 h.box).1, rowP_below h.row hb, saysM_below h.says hb, (hb.block _ (Array.getElem?_eq_some_iff.1 h.nums).1).trans h.nums, h.lo⟩
def MkJ (B ge kb : Nat) (D : ByteArray) (u : Value) (P : List PT) (L : List AT) (KC : Array Value) (q : Bool) (W : World) : Prop := BoxN W ge D u ∧ W.heap[kb]? = some (.cells KC 3 (0, 0)) ∧ (q = false → RowP B W u P ∧ SaysM W P L)
theorem MkJ.go {B ge kb : Nat} {D : ByteArray} {u : Value} {P : List PT} {L : List AT} {KC : Array Value} {q : Bool} {W W' : World} (h : MkJ B ge kb D u P L KC q W) (hb : Below W.heap.size W W') : MkJ B ge kb D u P L KC q W' :=
  ⟨h.1.below hb (Array.getElem?_eq_some_iff.1 h.1).1, (hb.block _ (Array.getElem?_eq_some_iff.1 h.2.1).1).trans h.2.1, fun e => ⟨rowP_below (h.2.2 e).1 hb, saysM_below (h.2.2 e).2 hb⟩⟩
theorem MkJ.loud {B ge kb : Nat} {D : ByteArray} {u : Value} {P : List PT} {L : List AT} {KC : Array Value} {q : Bool} {W W' : World} (h : MkJ B ge kb D u P L KC q W) (hk : ∀ (b : Nat) (cs : Array Value) (e : TypeId), W.heap[b]? = some (.cells cs e (0, 0)) → e ≠ 42 → W'.heap[b]? = W.heap[b]?) : MkJ B ge kb D u P L KC true W' :=
  ⟨(hk _ _ _ h.1 (by decide)).trans h.1, (hk _ _ _ h.2.1 (by decide)).trans h.2.1, fun e => by cases e⟩
theorem MkAt.j {B ge kb : Nat} {D : ByteArray} {u : Value} {P : List PT} {L : List AT} {KC : Array Value} {W : World} (h : MkAt B W ge D u P L kb KC) : MkJ B ge kb D u P L KC false W := ⟨h.box, h.nums, fun _ => ⟨h.row, h.says⟩⟩
theorem run_append_P {B : Nat} {w : World} {v : Value} {P : List PT} {L : List AT} (hr : RowP B w v P) (hsay : SaysM w P L) (hB : B ≤ w.heap.size) {PM : List PT} {M : List AT} (hs : SaysM w PM M) (ad : Addr) (c : Nat)
    (hc : ∀ j u, (cellsP PM)[j]? = some u → w.cell? (ad.add j) = some u) (hlen : L.length + M.length ≤ 1000) (ty : TypeId) :
    ∃ v' w', (Builtin.append_ #[24, 24] ty #[v, .slice (some ad) M.length c]).run Tryz.prog w = .ok v' w' ∧ RowP B w' v' (P ++ PM) ∧ SaysM w' (P ++ PM) (L ++ M) ∧ Below B w w' ∧
      (∀ (k : Nat) (cs : Array Value) (fr : Nat × Nat), w.heap[k]? = some (.cells cs 9 fr) → w'.heap[k]? = w.heap[k]?) ∧ (∀ (k : Nat) (cs : Array Value) (e : TypeId), w.heap[k]? = some (.cells cs e (0, 0)) → e ≠ 42 → w'.heap[k]? = w.heap[k]?) := by
  obtain ⟨i0, hi, hz0, hz1, hz2⟩ := info_parts infoA
  have e1 := hsay.1
  have e2 := hs.1
  have h1 : ∀ u ∈ cellsP PM, u.oneCell' = true := by
    intro u hu
    have : ∀ (l : List PT), (∀ j (h : j < l.length), l[j].2.oneCell' = true) → ∀ u ∈ cellsP l, u.oneCell' = true := by
      intro l
      induction l with
      | nil => intro _ u hu; simp [cellsP] at hu
      | cons r l ih =>
        intro h u hu
        simp only [cellsP, List.mem_cons] at hu
        rcases hu with rfl | rfl | hu
        · rfl
        · exact h 0 (by simp)
        · exact ih (fun j hj => h (j + 1) (by simpa using hj)) u hu
    exact this PM (fun j hj => one_isTo (hs.2 j (by omega) hj).2) u hu
  obtain ⟨v', w', hrun, hown', hgrow, _, hat⟩ := run_append_own_at (P := Tryz.prog) w B 24 ty 42 i0 (.agg #[.string ⟨#[]⟩, .slice none 0 0]) 2 40 Tryz.underlying24 hi hz0 hz1 hz2 rfl (by decide) v P.length (cellsP P) hr ad PM.length c (cellsP PM) (cellsP_length PM) hc h1 (by unfold maxLen; omega) (by omega) hB
  rw [e2] at hrun
  refine ⟨v', w', hrun, ?_, saysM_app (saysM_grown hr hgrow hsay) (saysM_grown hr hgrow hs), (Below.refl B w).grown hgrow hB (fun k e => (World.ownsRow.lt hr k e).1), fun k cs fr hk => row_keep hr hgrow hk (by decide), fun k cs e hk hne => row_keep hr hgrow hk hne⟩
  unfold RowP
  rw [List.length_append, cellsP_append]
  exact hown'

theorem rowP_setE {B b i : Nat} {w : World} {v x : Value} {P : List PT} {L : List AT} {cs : Array Value} {fr : Nat × Nat} (hr : RowP B w v P) (hs : SaysM w P L) (hb : w.heap[b]? = some (.cells cs 26 fr)) : RowP B (w.setCell ⟨b, i, none⟩ x) v P ∧ SaysM (w.setCell ⟨b, i, none⟩ x) P L := by
  have hgr : w.grownBy (w.setCell ⟨b, i, none⟩ x) (some b) := ⟨rfl, rfl, rfl, by simp [World.setCell], fun k hk hn => block_ne w ⟨b, i, none⟩ x (fun e => hn (by rw [e]))⟩
  refine ⟨World.ownsRow.kept hr hgr (.inr fun he => ?_), saysM_to hs fun k hk => block_ne w ⟨b, i, none⟩ x fun e => ?_⟩
  · rcases hr.2 with ⟨rfl, _⟩ | ⟨g, cap, cur, rfl, _, hgc, _⟩
    · cases he
    · have : g = b := by simpa [Value.ownBlock] using he
      subst this
      rw [hgc] at hb
      cases hb
  · obtain ⟨cs', fr', hk⟩ := hk
    rw [show k = b from e, hb] at hk
    cases hk
theorem mkAt_store {B ge kb : Nat} {D : ByteArray} {u s : Value} {P P2 : List PT} {L L2 : List AT} {KC : Array Value} {W : World} {q : Bool} (h : MkJ B ge kb D u P L KC q W) (hr : RowP B W s P2) (hs : SaysM W P2 L2) (hlo : B ≤ ge) : MkAt B (W.setCell ⟨ge, 1, none⟩ s) ge D s P2 L2 kb KC ∧ W.cell? ⟨ge, 1, none⟩ = some u ∧ W.frozen? ⟨ge, 1, none⟩ = false := by
  obtain ⟨hb, hk, _⟩ := h
  have hne : kb ≠ ge := fun e => by
    unfold BoxN at hb
    rw [e, hb] at hk
    cases hk
  refine ⟨⟨?_, (rowP_setE hr hs hb).1, (rowP_setE hr hs hb).2, (block_ne W ⟨ge, 1, none⟩ s hne).trans hk, hlo⟩, hb.cells.2, ?_⟩
  · unfold BoxN at hb ⊢
    simp [World.setCell, Array.getElem?_modify, hb]
  · unfold BoxN at hb
    simp [World.frozen?, hb]
theorem mkAt_name {B ge kb : Nat} {D D2 : ByteArray} {u : Value} {P : List PT} {L : List AT} {KC : Array Value} {W : World} (h : MkAt B W ge D u P L kb KC) : MkAt B (W.setCell ⟨ge, 0, none⟩ (.string D2)) ge D2 u P L kb KC ∧ W.cell? ⟨ge, 0, none⟩ = some (.string D) ∧ W.frozen? ⟨ge, 0, none⟩ = false := by
  obtain ⟨hb, hr, hs, hk, hlo⟩ := h
  have hne : kb ≠ ge := fun e => by
    unfold BoxN at hb
    rw [e, hb] at hk
    cases hk
  refine ⟨⟨?_, (rowP_setE hr hs hb).1, (rowP_setE hr hs hb).2, (block_ne W ⟨ge, 0, none⟩ _ hne).trans hk, hlo⟩, hb.cells.1, ?_⟩
  · unfold BoxN at hb ⊢
    simp [World.setCell, Array.getElem?_modify, hb]
  · unfold BoxN at hb
    simp [World.frozen?, hb]

theorem cellsP_set : ∀ (P : List PT) (j : Nat) (h : j < P.length) (u : Value), (cellsP P).set (j * 2 + 1) u = cellsP (P.set j (P[j].1, u))
  | r :: l, 0, _, u => rfl
  | r :: l, j + 1, h, u => by
    rw [show (j + 1) * 2 + 1 = (j * 2 + 1) + 2 from by omega]
    show strV r.1 :: r.2 :: (cellsP l).set (j * 2 + 1) u = strV r.1 :: r.2 :: cellsP (l.set j _)
    rw [cellsP_set l j (by simpa using h) u]
    rfl
theorem rowP_set {B g n cap : Nat} {w : World} {P : List PT} {L : List AT} {j : Nat} (hj : j < L.length) (hjP : j < P.length) {A' : List (List UInt8)} {u : Value} (hr : RowP B w (.slice (some ⟨g, 0, none⟩) n cap) P) (hs : SaysM w P L) (hu : IsTo (StrB w) w A' u) :
    RowP B (w.setCell ⟨g, j * 2 + 1, none⟩ u) (.slice (some ⟨g, 0, none⟩) n cap) (P.set j (P[j].1, u)) ∧ SaysM (w.setCell ⟨g, j * 2 + 1, none⟩ u) (P.set j (P[j].1, u)) (L.set j (L[j].1, A')) ∧ w.cell? ⟨g, j * 2 + 1, none⟩ = some P[j].2 ∧ w.frozen? ⟨g, j * 2 + 1, none⟩ = false ∧ (∃ cs, w.heap[g]? = some (.cells cs 42 (0, 0))) ∧ B ≤ g ∧ n = P.length := by
  have hPl := hs.1
  unfold RowP at hr
  have hg : ∃ cs, w.heap[g]? = some (.cells cs 42 (0, 0)) ∧ B ≤ g ∧ n = P.length := by
    rcases hr.2 with ⟨h', _⟩ | ⟨g', cap', cur, h', hb, hg, _⟩
    · simp at h'
    · simp only [Value.slice.injEq, Option.some.injEq, Addr.mk.injEq, and_true] at h'
      obtain ⟨rfl, rfl, _⟩ := h'
      exact ⟨cur, hg, hb, rfl⟩
  obtain ⟨cs, hg, hB, rfl⟩ := hg
  have hst := (World.ownsRow.stored hr (j * 2 + 1) u).1
  have hcl := World.ownsRow.cellAt hr (j * 2 + 1) (by omega)
  rw [cellsP_set P j hjP u] at hst
  have hot : ∀ k, StrB w k → (w.setCell ⟨g, j * 2 + 1, none⟩ u).heap[k]? = w.heap[k]? := fun k hk => block_ne w ⟨g, _, none⟩ u fun e => by
    obtain ⟨cs', fr', hk⟩ := hk
    rw [show k = g from e, hg] at hk
    cases hk
  refine ⟨?_, ?_, by rw [hcl]; exact (cellsP_get P j hjP).2, World.ownsRow.frozenAt hr _, ⟨cs, hg⟩, hB, rfl⟩
  · unfold RowP
    rw [List.length_set]
    exact hst
  · refine ⟨by simp [hPl], fun i hi hi' => ?_⟩
    have hi1 : i < L.length := by simpa using hi
    have hi2 : i < P.length := by simpa using hi'
    have base := hs.2 i hi1 hi2
    by_cases hij : j = i
    · subst hij
      rw [List.getElem_set_self, List.getElem_set_self]
      exact ⟨base.1, hu.imp (fun b hb => by obtain ⟨cs', fr', e⟩ := hb; exact ⟨cs', fr', (hot b ⟨cs', fr', e⟩).trans e⟩) (fun b o hb => by simp only [World.cell?, hot b hb])⟩
    · rw [List.getElem_set_ne hij, List.getElem_set_ne hij]
      exact ⟨base.1, base.2.imp (fun b hb => by obtain ⟨cs', fr', e⟩ := hb; exact ⟨cs', fr', (hot b ⟨cs', fr', e⟩).trans e⟩) (fun b o hb => by simp only [World.cell?, hot b hb])⟩
end Go.Proofs.YtmilgbkkibahlaaGreatDoor


namespace Go.Proofs.YtmilgbkkibahlaaGreatDoor
open Go.RowKit
set_option linter.unusedVariables false

def mkN (ns : List UInt8) : List UInt8 := 110 :: Lib.itoa ((kOf ns 0 % 6 : Nat) : Int)
def mkLa (ns : List UInt8) : List AT := if kOf ns 1 % 3 = 0 then [([99, 110], [mkN ns]), (objB, [[105, 110, 101, 116, 79, 114, 103, 80, 101, 114, 115, 111, 110]]), ([115, 110], [[115]]), ([109, 97, 105, 108], [[97, 64] ++ Lib.itoa (kOf ns 2 : Int)])] else perL (mkN ns)
def mkLb (ns : List UInt8) : List AT := if kOf ns 1 % 3 = 1 then mkLa ns ++ [([68, 101, 115, 99, 114, 105, 112, 116, 105, 111, 110], [[100, 32] ++ Lib.itoa ((kOf ns 2 % 9 : Nat) : Int), [101]])] else mkLa ns
def mkLc (ns : List UInt8) : List AT := if kOf ns 3 % 4 = 0 then (mkLb ns).set 1 (objB, ((mkLb ns).getD 1 ([], [])).2 ++ [[112, 111, 115, 105, 120]]) ++ [([117, 105, 100], [[117] ++ Lib.itoa ((kOf ns 4 % 9 : Nat) : Int)]), ([117, 105, 100, 78, 117, 109, 98, 101, 114], [Lib.itoa ((kOf ns 4 : Int) - 100)])] else mkLb ns
def mkLd (ns : List UInt8) : List AT := if kOf ns 3 % 4 = 1 then mkLc ns ++ [([117, 115, 101, 114, 80, 97, 115, 115, 119, 111, 114, 100], [[115, 101, 99, 114, 101, 116]])] else mkLc ns
def mkD (ns : List UInt8) : List UInt8 := if kOf ns 5 % 5 = 0 then [99, 110, 61] ++ mkN ns else if kOf ns 5 % 5 = 1 then [67, 78, 61] ++ mkN ns ++ [44, 111, 117, 61, 97, 44, 111, 61, 120] else perD (mkN ns)
end Go.Proofs.YtmilgbkkibahlaaGreatDoor


namespace Go.Proofs.YtmilgbkkibahlaaGreatDoor
open Go.RowKit
set_option linter.unusedVariables false

theorem run_grow_one {w : World} {vb c : Nat} {X : List UInt8} (h : IsTo (StrB w) w [X] (.slice (some ⟨vb, 0, none⟩) 1 1)) {Z : ByteArray} (hc : w.heap[c]? = some (.cells #[.string Z] 9 (0, 0))) (ty : TypeId) :
    ∃ v' w', (Builtin.append_ #[28, 28] ty #[.slice (some ⟨vb, 0, none⟩) 1 1, .slice (some ⟨c, 0, none⟩) 1 1]).run Tryz.prog w = .ok v' w' ∧ Below w.heap.size w w' ∧ IsTo (StrB w') w' ([X] ++ [Z.data.toList]) v' := by
  obtain ⟨i0, hi, hz0, hz1, hz2⟩ := info_parts infoS
  obtain ⟨a, cc, e, _, hh⟩ := h
  obtain ⟨b, off, e2, hb, hcell⟩ := hh 0 (by simp)
  subst e2
  simp only [Value.slice.injEq, Option.some.injEq, Addr.mk.injEq, and_true] at e
  obtain ⟨⟨rfl, rfl⟩, _, _⟩ := e
  have hcell : w.cell? ⟨vb, 0, none⟩ = some (strV X) := hcell
  have hsrc : Src Tryz.prog i0.size 28 (.slice (some ⟨c, 0, none⟩) 1 1) 1 [.string Z] w := by
    rw [hz1]
    refine Src.ofSlice w Tryz.underlying28 ⟨c, 0, none⟩ 1 1 [.string Z] (by simp) ?_ (by simp [Value.oneCell'])
    intro j u hu
    match j, hu with
    | 0, hu =>
      have : u = .string Z := by simpa using hu.symm
      subst this
      simp [World.cell?, Addr.add, hc]
  have hold : (Builtin.firstCells i0.size 1 (.slice (some ⟨vb, 0, none⟩) 1 1)).run Tryz.prog w.drew = .ok [strV X].toArray w.drew := by
    rw [hz1]
    refine run_firstCells_some w.drew 1 1 ⟨vb, 0, none⟩ 1 1 [strV X] (by simp) ?_
    intro j u hu
    match j, hu with
    | 0, hu =>
      have : u = strV X := by simpa using hu.symm
      subst this
      exact hcell
  have hrun := run_append_grow_src (P := Tryz.prog) w 28 28 ty 9 i0 (.string ⟨#[]⟩) Tryz.underlying28 hi hz0 (some ⟨vb, 0, none⟩) 1 1 [strV X] hold (.slice (some ⟨c, 0, none⟩) 1 1) 1 [.string Z] hsrc (by omega) (by omega) (by rw [hz2]; decide)
  refine ⟨_, _, hrun, (Below.refl _ _).drew.alloc (Nat.le_refl _) _, ?_⟩
  have hnew := heap_alloc_new w.drew (.cells (([strV X] ++ [Value.string Z]).toArray ++ Builtin.zeroCells (Value.string ⟨#[]⟩).cells (grownCap w (1 + 1) 1 9 - (1 + 1))) 9)
  have hds : w.drew.heap.size = w.heap.size := rfl
  rw [hds] at hnew
  refine ⟨_, _, rfl, by unfold maxLen; simp, fun j hj => ?_⟩
  match j, hj with
  | 0, _ =>
    refine ⟨w.heap.size, 0, rfl, strB_at hnew, ?_⟩
    simp only [World.cell?, hnew]
    rw [Array.getElem?_append_left (by simp)]
    rfl
  | 1, _ =>
    refine ⟨w.heap.size, 0, rfl, strB_at hnew, ?_⟩
    show _ = some (strV Z.data.toList)
    rw [strV_whole]
    simp only [World.cell?, hnew]
    rw [Array.getElem?_append_left (by simp)]
    rfl

theorem row_second {B g n cap : Nat} {w : World} {P : List PT} {L : List AT} {T : List UInt8} {V : Value} {A : List (List UInt8)} (hr : RowP B w (.slice (some ⟨g, 0, none⟩) n cap) P) (hs : SaysM w P L) (hP : ∃ t, P[1]? = some (t, V)) (hL : L[1]? = some (T, A)) :
    w.cell? ⟨g, 3, none⟩ = some V ∧ w.frozen? ⟨g, 3, none⟩ = false ∧ IsTo (StrB w) w A V := by
  obtain ⟨t, hP⟩ := hP
  obtain ⟨h1, e1⟩ := List.getElem?_eq_some_iff.1 hP
  obtain ⟨h2, e2⟩ := List.getElem?_eq_some_iff.1 hL
  obtain ⟨_, _, c3, f3, _⟩ := rowP_set (j := 1) (A' := []) (u := .slice none 0 0) h2 h1 hr hs ⟨_, _, rfl, by unfold maxLen; simp, fun j hj => absurd hj (by simp)⟩
  have := (hs.2 1 h2 h1).2
  rw [e1] at c3 this
  rw [e2] at this
  exact ⟨c3, f3, this⟩
theorem row_some {B : Nat} {w : World} {u : Value} {P : List PT} (hr : RowP B w u P) (h : 1 < P.length) : ∃ g n cap, u = .slice (some ⟨g, 0, none⟩) n cap ∧ 1 < n := by
  unfold RowP at hr
  rcases hr.2 with ⟨_, hz⟩ | ⟨g, cap, cur, rfl, _⟩
  · omega
  · exact ⟨g, _, cap, rfl, h⟩
theorem mkLb_one (ns : List UInt8) : ∃ x, (mkLb ns)[1]? = some (objB, [x]) := by
  unfold mkLb mkLa
  split <;> split <;> exact ⟨_, rfl⟩
theorem addr0 (c j : Nat) : (⟨c, 0, none⟩ : Addr).add j = ⟨c, j, none⟩ := by simp [Addr.add]; omega
theorem saysM_two {w : World} {b : Nat} {X Y Z : ByteArray} (h : w.heap[b]? = some (.cells #[.string Y, .string Z] 9 (0, 0))) : SaysM w [(X.data.toList, .slice (some ⟨b, 0, none⟩) 2 2)] [(X.data.toList, [Y.data.toList, Z.data.toList])] :=
  ⟨rfl, fun j hj hj' => by
    have : j = 0 := by simp at hj; omega
    subst this
    refine ⟨rfl, _, _, rfl, by unfold maxLen; simp, fun k hk => ?_⟩
    match k, hk with
    | 0, _ =>
      refine ⟨b, 0, rfl, strB_at h, ?_⟩
      show _ = some (strV Y.data.toList)
      rw [strV_whole]
      simp only [World.cell?, h]
      rfl
    | 1, _ =>
      refine ⟨b, 0, rfl, strB_at h, ?_⟩
      show _ = some (strV Z.data.toList)
      rw [strV_whole]
      simp only [World.cell?, h]
      rfl⟩
end Go.Proofs.YtmilgbkkibahlaaGreatDoor


namespace Go.Proofs.YtmilgbkkibahlaaGreatDoor
open Go.RowKit
set_option linter.unusedVariables false

def tinyT (k : Nat) (A : List (List UInt8)) : Prop := A.length ≤ k ∧ ∀ t ∈ A, t.length ≤ 1000
def tinyA (k : Nat) (L : List AT) : Prop := L.length ≤ k ∧ ∀ a ∈ L, a.1.length ≤ 1000 ∧ tinyT k a.2
theorem tinyT.mono {k m : Nat} {A : List (List UInt8)} (h : tinyT k A) (hk : k ≤ m) : tinyT m A := ⟨Nat.le_trans h.1 hk, h.2⟩
theorem tinyA.mono {k m : Nat} {L : List AT} (h : tinyA k L) (hk : k ≤ m) : tinyA m L := ⟨Nat.le_trans h.1 hk, fun a ha => ⟨(h.2 a ha).1, (h.2 a ha).2.mono hk⟩⟩
theorem tinyA.set {k j : Nat} {L : List AT} {x : AT} (h : tinyA k L) (h1 : x.1.length ≤ 1000) (h2 : tinyT k x.2) : tinyA k (L.set j x) :=
  ⟨by simpa using h.1, fun a ha => by
    rcases List.mem_or_eq_of_mem_set ha with h' | rfl
    · exact h.2 _ h'
    · exact ⟨h1, h2⟩⟩
theorem tinyA.app {k : Nat} {L M : List AT} (h : tinyA k L) (hm : tinyA k M) (hl : L.length + M.length ≤ k) : tinyA k (L ++ M) :=
  ⟨by rw [List.length_append]; exact hl, fun a ha => by
    rcases List.mem_append.1 ha with h' | h'
    · exact h.2 _ h'
    · exact hm.2 _ h'⟩
theorem tinyT.app {k : Nat} {L M : List (List UInt8)} (h : tinyT k L) (hm : tinyT k M) (hl : L.length + M.length ≤ k) : tinyT k (L ++ M) :=
  ⟨by rw [List.length_append]; exact hl, fun a ha => by
    rcases List.mem_append.1 ha with h' | h'
    · exact h.2 _ h'
    · exact hm.2 _ h'⟩
theorem tinyA.small {k : Nat} {L : List AT} (h : tinyA k L) (hk : k ≤ 1000) : smallA L :=
  ⟨Nat.le_trans h.1 hk, fun a ha => ⟨Nat.le_trans (h.2 a ha).1 (by omega), Nat.le_trans (h.2 a ha).2.1 hk, fun s hs => Nat.le_trans ((h.2 a ha).2.2 s hs) (by omega)⟩⟩
theorem tinyA.at {k j : Nat} {L : List AT} (h : tinyA k L) (hj : j < L.length) : L[j].1.length ≤ 1000 ∧ tinyT k L[j].2 := h.2 _ (List.getElem_mem hj)

end Go.Proofs.YtmilgbkkibahlaaGreatDoor


namespace Go.Proofs.YtmilgbkkibahlaaGreatDoor
open Go.RowKit
set_option linter.unusedVariables false

theorem len_one {x : List UInt8} (h : x.length ≤ 1000) : tinyT 1 [x] := ⟨by simp, fun t ht => by rw [List.mem_singleton.1 ht]; exact h⟩
theorem mkN_len (ns : List UInt8) : (mkN ns).length ≤ 4 := by
  unfold mkN
  have := itoa_short ⟨kOf ns 0 % 6, by omega⟩
  simp only [List.length_cons]
  exact Nat.succ_le_succ this
theorem itoa_kOf (ns : List UInt8) (i : Nat) : (Lib.itoa (kOf ns i : Int)).length ≤ 3 := itoa_short ⟨kOf ns i, by have : kOf ns i < 256 := (ns.getD i 0).toNat_lt; omega⟩
theorem itoa_mod (n : Nat) : (Lib.itoa ((n % 9 : Nat) : Int)).length ≤ 3 := itoa_short ⟨n % 9, by omega⟩
def nonA (L : List AT) : Prop := ∀ a ∈ L, a.2 ≠ []
theorem tiny_one {k : Nat} (hk : 1 ≤ k) {T : List UInt8} {A : List (List UInt8)} (hT : T.length ≤ 1000) (hA : tinyT k A) : tinyA k [(T, A)] := ⟨by simpa using hk, fun a ha => by rw [List.mem_singleton.1 ha]; exact ⟨hT, hA⟩⟩
theorem perL_tiny {n : List UInt8} (h : n.length ≤ 1000) : tinyA 3 (perL n) ∧ nonA (perL n) :=
  ⟨⟨by simp [perL], fun a ha => by
    simp only [perL, List.mem_cons, List.not_mem_nil, or_false] at ha
    rcases ha with rfl | rfl | rfl
    · exact ⟨by simp, (len_one h).mono (by omega)⟩
    · exact ⟨by decide, (len_one (by decide)).mono (by omega)⟩
    · exact ⟨by decide, (len_one (by decide)).mono (by omega)⟩⟩, fun a ha => by
    simp only [perL, List.mem_cons, List.not_mem_nil, or_false] at ha
    rcases ha with rfl | rfl | rfl <;> simp⟩
theorem nonA.app {L M : List AT} (h : nonA L) (hm : nonA M) : nonA (L ++ M) := fun a ha => (List.mem_append.1 ha).elim (h a) (hm a)
theorem mkLa_tiny (ns : List UInt8) : tinyA 4 (mkLa ns) ∧ nonA (mkLa ns) := by
  unfold mkLa
  have hn := mkN_len ns
  split
  · refine ⟨⟨by simp, fun a ha => ?_⟩, fun a ha => ?_⟩
    · simp only [List.mem_cons, List.not_mem_nil, or_false] at ha
      rcases ha with rfl | rfl | rfl | rfl
      · exact ⟨by simp, (len_one (by omega)).mono (by omega)⟩
      · exact ⟨by decide, (len_one (by decide)).mono (by omega)⟩
      · exact ⟨by simp, (len_one (by decide)).mono (by omega)⟩
      · exact ⟨by simp, (len_one (by have := itoa_kOf ns 2; simp only [List.length_append]; simp; omega)).mono (by omega)⟩
    · simp only [List.mem_cons, List.not_mem_nil, or_false] at ha
      rcases ha with rfl | rfl | rfl | rfl <;> simp
  · obtain ⟨h1, h2⟩ := perL_tiny (n := mkN ns) (by omega)
    exact ⟨h1.mono (by omega), h2⟩
theorem mkLb_tiny (ns : List UInt8) : tinyA 5 (mkLb ns) ∧ nonA (mkLb ns) := by
  unfold mkLb
  obtain ⟨h1, h2⟩ := mkLa_tiny ns
  split
  · refine ⟨(h1.mono (by omega)).app (tiny_one (by omega) (by decide) ⟨by simp, fun t ht => ?_⟩) (by have := h1.1; simp; omega), h2.app fun a ha => by rw [List.mem_singleton.1 ha]; simp⟩
    simp only [List.mem_cons, List.not_mem_nil, or_false] at ht
    rcases ht with rfl | rfl
    · have := itoa_mod (kOf ns 2)
      simp only [List.length_append]
      simp at this ⊢
      omega
    · decide
  · exact ⟨h1.mono (by omega), h2⟩
theorem mkLc_tiny (ns : List UInt8) : tinyA 7 (mkLc ns) ∧ nonA (mkLc ns) := by
  unfold mkLc
  obtain ⟨h1, h2⟩ := mkLb_tiny ns
  split
  · have ht : tinyA 7 ((mkLb ns).set 1 (objB, ((mkLb ns).getD 1 ([], [])).2 ++ [[112, 111, 115, 105, 120]])) := (h1.mono (by omega)).set (by simp [objB]) (by
      refine tinyT.app ?_ ((len_one (by decide)).mono (by omega)) ?_
      · obtain ⟨x, hx⟩ := mkLb_one ns
        rw [List.getD_eq_getElem?_getD, hx]
        exact ((h1.2 _ (List.mem_of_getElem? hx)).2).mono (by omega)
      · obtain ⟨x, hx⟩ := mkLb_one ns
        rw [List.getD_eq_getElem?_getD, hx]
        simp)
    have hn : nonA ((mkLb ns).set 1 (objB, ((mkLb ns).getD 1 ([], [])).2 ++ [[112, 111, 115, 105, 120]])) := fun a ha => by
      rcases List.mem_or_eq_of_mem_set ha with h' | rfl
      · exact h2 _ h'
      · simp
    have hl : ((mkLb ns).set 1 (objB, ((mkLb ns).getD 1 ([], [])).2 ++ [[112, 111, 115, 105, 120]])).length ≤ 5 := by rw [List.length_set]; exact h1.1
    generalize (mkLb ns).set 1 (objB, ((mkLb ns).getD 1 ([], [])).2 ++ [[112, 111, 115, 105, 120]]) = M at ht hn hl ⊢
    refine ⟨ht.app ⟨by simp, fun a ha => ?_⟩ (by simp; omega), hn.app fun a ha => ?_⟩
    · simp only [List.mem_cons, List.not_mem_nil, or_false] at ha
      rcases ha with rfl | rfl
      · exact ⟨by simp, (len_one (by have := itoa_mod (kOf ns 4); simp only [List.length_append]; simp at this ⊢; omega)).mono (by omega)⟩
      · refine ⟨by simp, (len_one ?_).mono (by omega)⟩
        have hk : kOf ns 4 < 256 := (ns.getD 4 0).toNat_lt
        have := itoa_len ((kOf ns 4 : Int) - 100) (by omega)
        omega
    · simp only [List.mem_cons, List.not_mem_nil, or_false] at ha
      rcases ha with rfl | rfl <;> simp
  · exact ⟨h1.mono (by omega), h2⟩
theorem mkLd_tiny (ns : List UInt8) : tinyA 8 (mkLd ns) ∧ nonA (mkLd ns) := by
  unfold mkLd
  obtain ⟨h1, h2⟩ := mkLc_tiny ns
  split
  · exact ⟨(h1.mono (by omega)).app (tiny_one (by omega) (by decide) ((len_one (by decide)).mono (by omega))) (by have := h1.1; simp; omega), h2.app fun a ha => by rw [List.mem_singleton.1 ha]; simp⟩
  · exact ⟨h1.mono (by omega), h2⟩
theorem mkLd_pos (ns : List UInt8) : 0 < (mkLd ns).length := by
  unfold mkLd mkLc mkLb mkLa
  split <;> split <;> split <;> split <;> simp [perL]
theorem mkD_len (ns : List UInt8) : (mkD ns).length ≤ 30 := by
  have := mkN_len ns
  unfold mkD perD
  split
  · simp only [List.length_append]; simp; omega
  · split
    · simp only [List.length_append]; simp; omega
    · simp only [List.length_append]; simp; omega
end Go.Proofs.YtmilgbkkibahlaaGreatDoor


namespace Go.Proofs.YtmilgbkkibahlaaGreatDoor
set_option linter.unusedVariables false
set_option linter.unusedSimpArgs false

def mkTypes : List (List UInt8) := [[99, 110], [111, 98, 106, 101, 99, 116, 99, 108, 97, 115, 115], [115, 110], [109, 97, 105, 108], [68, 101, 115, 99, 114, 105, 112, 116, 105, 111, 110], [117, 105, 100], [117, 105, 100, 78, 117, 109, 98, 101, 114], [117, 115, 101, 114, 80, 97, 115, 115, 119, 111, 114, 100]]
structure MkIs (ns : List UInt8) (L : List AT) : Prop where
  first : ∃ r, L = ([99, 110], [mkN ns]) :: r
  types : ∀ a ∈ L, a.1 ∈ mkTypes
theorem MkIs.app {ns : List UInt8} {L M : List AT} (h : MkIs ns L) (hM : ∀ a ∈ M, a.1 ∈ mkTypes) : MkIs ns (L ++ M) := by
  obtain ⟨⟨r, rfl⟩, h2⟩ := h
  refine ⟨⟨r ++ M, rfl⟩, fun a ha => ?_⟩
  rcases List.mem_append.1 ha with h | h
  · exact h2 a h
  · exact hM a h
theorem MkIs.set {ns : List UInt8} {L : List AT} (h : MkIs ns L) (v : List (List UInt8)) : MkIs ns (L.set 1 (objB, v)) := by
  obtain ⟨⟨r, rfl⟩, h2⟩ := h
  refine ⟨⟨r.set 0 (objB, v), rfl⟩, fun a ha => ?_⟩
  rcases List.mem_or_eq_of_mem_set ha with h | h
  · exact h2 a h
  · rw [h]; show objB ∈ mkTypes; decide
def hasTypes : List (List UInt8) := [[99, 110], [115, 110], [109, 97, 105, 108], [100, 101, 115, 99, 114, 105, 112, 116, 105, 111, 110], [117, 105, 100], [117, 105, 100, 110, 117, 109, 98, 101, 114], [111, 98, 106, 101, 99, 116, 99, 108, 97, 115, 115], [111]]
def nameF : Nat → List UInt8
  | 0 => [110, 111, 110, 101]
  | 1 => [110, 111, 116, 104, 105, 110, 103]
  | 2 => [117, 115, 101, 114, 112, 97, 115, 115, 119, 111, 114, 100]
  | 3 => [109, 101, 109, 98, 101, 114]
  | 4 => [117, 105, 100, 110, 117, 109, 98, 101, 114]
  | 5 => [117, 105, 100, 78, 117, 109, 98, 101, 114]
  | _ => [99, 110]
def undF (v : List UInt8) : Nat → FT
  | 0 => .mk 8 (nameF 0) [] [] []
  | 1 => .mk 4 (nameF 1) v [] []
  | 2 => .mk 6 (nameF 2) [120] [] []
  | 3 => .mk 7 (nameF 3) [111, 61, 120] [] []
  | 4 => .mk 5 (nameF 4) [] [[49], []] []
  | 5 => .mk 5 (nameF 3) [] [[], [120]] []
  | 6 => .mk 4 (nameF 4) (120 :: v) [] []
  | 7 => .mk 6 (nameF 5) [48, 120] [] []
  | 8 => .mk 4 (nameF 6) [] [] []
  | 9 => .mk 4 (nameF 6) [] [] []
  | 10 => .mk 0 [] [] [] []
  | _ => .mk 3 [] [] [] []
end Go.Proofs.YtmilgbkkibahlaaGreatDoor


namespace Go.Proofs.YtmilgbkkibahlaaGreatDoor
open Go.RowKit
set_option linter.unusedVariables false
set_option linter.unnecessarySimpa false
set_option linter.unusedSimpArgs false

def IsC (n0 : Nat) (w : World) (l : List UInt8) (a : Option Addr) (cap : Nat) : Prop :=
  l.length ≤ cap ∧ cap ≤ maxLen ∧ (l = [] ∨ ∃ b off, a = some ⟨b, off, none⟩ ∧ b < n0 ∧ ∀ j, (h : j < l.length) → w.cell? ⟨b, off + j, none⟩ = some (.int .u8 l[j].toNat))
def MakesF (S : ByteArray) (fu : Nat) : Prop := ∀ (l : List UInt8) (a : Option Addr) (cap : Nat) (w : World), l.length ≤ fu → IsC w.heap.size w l a cap →
  Calls Tryz.prog 8 #[.slice a l.length cap, .string S] w fun e w' => ∃ v, e = .returned v ∧ IsFl (fun b => w.heap.size ≤ b ∧ b < w'.heap.size) w' (makeFu S.data.toList fu l) v ∧ Below w.heap.size w w'
abbrev tyRow : Array Value := #[.string ⟨#[99, 110]⟩, .string ⟨#[115, 110]⟩, .string ⟨#[100, 101, 115, 99, 114, 105, 112, 116, 105, 111, 110]⟩, .string ⟨#[117, 105, 100, 78, 117, 109, 98, 101, 114]⟩, .string ⟨#[109, 97, 105, 108]⟩, .string ⟨#[111, 98, 106, 101, 99, 116, 67, 108, 97, 115, 115]⟩]
abbrev vlRow (S : ByteArray) : Array Value := #[.string ⟨#[110, 49]⟩, .string ⟨#[78, 50]⟩, .string S, .string ⟨#[53]⟩, .string ⟨#[100]⟩, .string ⟨#[112, 101, 114, 115, 111, 110]⟩]
theorem tyRow_at (n : Nat) : tyRow[n / 8 % 6]? = some (strV (mkTy n)) := by
  have h6 : n / 8 % 6 < 6 := Nat.mod_lt _ (by omega)
  unfold mkTy
  generalize n / 8 % 6 = k at h6 ⊢
  have : k = 0 ∨ k = 1 ∨ k = 2 ∨ k = 3 ∨ k = 4 ∨ k = 5 := by omega
  rcases this with rfl | rfl | rfl | rfl | rfl | rfl <;> rfl
theorem vlRow_at (S : ByteArray) (n : Nat) : (vlRow S)[n / 16 % 6]? = some (strV (mkVl S.data.toList n)) := by
  have h6 : n / 16 % 6 < 6 := Nat.mod_lt _ (by omega)
  unfold mkVl
  generalize n / 16 % 6 = k at h6 ⊢
  have : k = 0 ∨ k = 1 ∨ k = 2 ∨ k = 3 ∨ k = 4 ∨ k = 5 := by omega
  rcases this with rfl | rfl | rfl | rfl | rfl | rfl
  · rfl
  · rfl
  · show some (Value.string S) = some (strV S.data.toList); rw [strV_whole]
  · rfl
  · rfl
  · rfl
theorem mk_rows (w A1 A2 A3 A4 : World) (K : Int) (S : ByteArray) (n : Nat)
    (h1 : w.alloc (.cells #[.int .i64 0, .string ⟨#[]⟩, .string ⟨#[]⟩, .slice none 0 0, .slice none 0 0] 31) = A1)
    (h2 : A1.alloc (.cells #[.int .i64 K, .string ⟨#[]⟩, .string ⟨#[]⟩, .slice none 0 0, .slice none 0 0] 31) = A2)
    (h3 : A2.alloc (.cells #[.string ⟨#[99, 110]⟩, .string ⟨#[115, 110]⟩, .string ⟨#[100, 101, 115, 99, 114, 105, 112, 116, 105, 111, 110]⟩, .string ⟨#[117, 105, 100, 78, 117, 109, 98, 101, 114]⟩, .string ⟨#[109, 97, 105, 108]⟩, .string ⟨#[111, 98, 106, 101, 99, 116, 67, 108, 97, 115, 115]⟩] 9) = A3)
    (h4 : A3.alloc (.cells #[.string ⟨#[110, 49]⟩, .string ⟨#[78, 50]⟩, .string S, .string ⟨#[53]⟩, .string ⟨#[100]⟩, .string ⟨#[112, 101, 114, 115, 111, 110]⟩] 9) = A4) :
    FlAt A4 w.heap.size (.int .i64 0) (.string ⟨#[]⟩) (.string ⟨#[]⟩) (.slice none 0 0) (.slice none 0 0) ∧ FlAt A4 A1.heap.size (.int .i64 K) (.string ⟨#[]⟩) (.string ⟨#[]⟩) (.slice none 0 0) (.slice none 0 0) ∧
    A3.cell? ⟨A2.heap.size, n / 8 % 6, none⟩ = some (strV (mkTy n)) ∧ A4.cell? ⟨A3.heap.size, n / 16 % 6, none⟩ = some (strV (mkVl S.data.toList n)) ∧
    Below w.heap.size w A1 ∧ Below w.heap.size w A4 ∧ A1.heap.size = w.heap.size + 1 ∧ A4.heap.size = w.heap.size + 4 := by
  have z1 : A1.heap.size = w.heap.size + 1 := by rw [← h1]; simp
  have z2 : A2.heap.size = w.heap.size + 2 := by rw [← h2]; simp [z1]
  have z3 : A3.heap.size = w.heap.size + 3 := by rw [← h3]; simp [z2]
  have z4 : A4.heap.size = w.heap.size + 4 := by rw [← h4]; simp [z3]
  have b1 : Below w.heap.size w A1 := by rw [← h1]; exact box5 w _ _ _ _ _
  have b2 : Below A1.heap.size A1 A2 := by rw [← h2]; exact box5 A1 _ _ _ _ _
  have b3 : Below A2.heap.size A2 A3 := by rw [← h3]; exact (Below.refl _ _).alloc (Nat.le_refl _) _
  have b4 : Below A3.heap.size A3 A4 := by rw [← h4]; exact (Below.refl _ _).alloc (Nat.le_refl _) _
  have x1 : FlAt A1 w.heap.size (.int .i64 0) (.string ⟨#[]⟩) (.string ⟨#[]⟩) (.slice none 0 0) (.slice none 0 0) := by rw [← h1]; exact heap_alloc_new w _
  have x2 : FlAt A2 A1.heap.size (.int .i64 K) (.string ⟨#[]⟩) (.string ⟨#[]⟩) (.slice none 0 0) (.slice none 0 0) := by rw [← h2]; exact heap_alloc_new A1 _
  have x3 : A3.heap[A2.heap.size]? = some (.cells tyRow 9 (0, 0)) := by rw [← h3]; exact heap_alloc_new A2 _
  have x4 : A4.heap[A3.heap.size]? = some (.cells (vlRow S) 9 (0, 0)) := by rw [← h4]; exact heap_alloc_new A3 _
  refine ⟨fl_below (fl_below x1 b2 (by omega)) (bthen b3 b4) (by omega), fl_below x2 (bthen b3 b4) (by omega), ?_, ?_, b1, bthen b1 (bthen b2 (bthen b3 b4)), z1, z4⟩
  · unfold World.cell?; rw [x3]; exact tyRow_at n
  · unfold World.cell?; rw [x4]; exact vlRow_at S n
theorem isC_at {n0 : Nat} {w w' : World} {c : UInt8} {r : List UInt8} {a : Option Addr} {cap : Nat} (h : IsC n0 w (c :: r) a cap) (hb : Below n0 w w') : ∃ b off, a = some ⟨b, off, none⟩ ∧ w'.cell? ⟨b, off, none⟩ = some (.int .u8 c.toNat) ∧ b < n0 := by
  obtain ⟨_, _, h⟩ := h
  obtain ⟨b, off, e, hlt, hc⟩ := h.resolve_left (by simp)
  exact ⟨b, off, e, (hb.cell (p := ⟨b, off, none⟩) hlt).trans (by have := hc 0 (by simp); simpa using this), hlt⟩
theorem fl_set2 {W : World} {b : Nat} {y0 y1 y2 y3 y4 : Value} (h : FlAt W b y0 y1 y2 y3 y4) (x2 : Value) : FlAt (W.setCell ⟨b, 2, none⟩ x2) b y0 y1 x2 y3 y4 := by
  have h' : W.heap[b]? = some (.cells #[y0, y1, y2, y3, y4] 31 (0, 0)) := h
  show (W.setCell ⟨b, 2, none⟩ x2).heap[b]? = _
  simp [World.setCell, Array.getElem?_modify, h']
theorem fl_set3 {W : World} {b : Nat} {y0 y1 y2 y3 y4 : Value} (h : FlAt W b y0 y1 y2 y3 y4) (x3 : Value) : FlAt (W.setCell ⟨b, 3, none⟩ x3) b y0 y1 y2 x3 y4 := by
  have h' : W.heap[b]? = some (.cells #[y0, y1, y2, y3, y4] 31 (0, 0)) := h
  show (W.setCell ⟨b, 3, none⟩ x3).heap[b]? = _
  simp [World.setCell, Array.getElem?_modify, h']
theorem isTo_nil {ok : Nat → Prop} {w : World} : IsTo ok w [] (.slice none 0 0) := ⟨none, 0, rfl, Nat.zero_le _, fun j h => absurd h (Nat.not_lt_zero _)⟩
set_option maxRecDepth 100000 in
set_option maxHeartbeats 8000000 in
theorem mkLeaf4 (S : ByteArray) (hS : S.size ≤ 1000) (fu : Nat) (c : UInt8) (r : List UInt8) (n : Nat) (hn : c.toNat = n) (hk : c.toNat % 8 = 3) (a : Option Addr) (cap : Nat) (w : World) (hC : IsC w.heap.size w (c :: r) a cap) :
    Calls Tryz.prog 8 #[.slice a (c :: r).length cap, .string S] w fun e w' => ∃ v, e = .returned v ∧ IsFl (fun b => w.heap.size ≤ b ∧ b < w'.heap.size) w' (makeFu S.data.toList (fu + 1) (c :: r)) v ∧ Below w.heap.size w w' := by
  rw [show makeFu S.data.toList (fu + 1) (c :: r) = FT.mk 4 (mkTy n) (mkVl S.data.toList n) [] [] from by
    show (if c.toNat % 8 = 0 then _ else _) = _
    rw [hn] at hk ⊢
    rw [if_neg (by omega)]; rw [if_neg (by omega)]; rw [if_neg (by omega)]; rw [if_neg (by omega)]; rw [if_neg (by omega)]; rw [hk]; rfl]
  have hcl := c.toNat_lt
  have hcap := hC.2.1
  have hlen := hC.1
  obtain ⟨m, hm⟩ : ∃ m, m = (c :: r).length := ⟨_, rfl⟩
  have hm1 : 1 ≤ m := by rw [hm]; simp
  rw [← hm] at hlen ⊢
  rw [hn] at hk hcl
  unfold maxLen at hcap
  obtain ⟨TY, hTY, hTYl⟩ := strV_text (mkTy n)
  obtain ⟨VL, hVL, hVLl⟩ := strV_text (mkVl S.data.toList n)
  obtain ⟨A1, hA1⟩ : ∃ A, w.alloc (.cells #[.int .i64 0, .string ⟨#[]⟩, .string ⟨#[]⟩, .slice none 0 0, .slice none 0 0] 31) = A := ⟨_, rfl⟩
  obtain ⟨A2, hA2⟩ : ∃ A, A1.alloc (.cells #[.int .i64 4, .string ⟨#[]⟩, .string ⟨#[]⟩, .slice none 0 0, .slice none 0 0] 31) = A := ⟨_, rfl⟩
  obtain ⟨A3, hA3⟩ : ∃ A, A2.alloc (.cells #[.string ⟨#[99, 110]⟩, .string ⟨#[115, 110]⟩, .string ⟨#[100, 101, 115, 99, 114, 105, 112, 116, 105, 111, 110]⟩, .string ⟨#[117, 105, 100, 78, 117, 109, 98, 101, 114]⟩, .string ⟨#[109, 97, 105, 108]⟩, .string ⟨#[111, 98, 106, 101, 99, 116, 67, 108, 97, 115, 115]⟩] 9) = A := ⟨_, rfl⟩
  obtain ⟨A4, hA4⟩ : ∃ A, A3.alloc (.cells #[.string ⟨#[110, 49]⟩, .string ⟨#[78, 50]⟩, .string S, .string ⟨#[53]⟩, .string ⟨#[100]⟩, .string ⟨#[112, 101, 114, 115, 111, 110]⟩] 9) = A := ⟨_, rfl⟩
  obtain ⟨x4, x6, hty, hvl, hb1, hb4, z1, z4⟩ := mk_rows w A1 A2 A3 A4 4 S n hA1 hA2 hA3 hA4
  obtain ⟨b, off, rfl, hc0, _⟩ := isC_at hC hb1
  have HA2 := Lib.hid hA2
  clear hA2
  rw [hTY] at hty
  rw [hVL] at hvl
  rw [hn] at hc0
  obtain ⟨k6, hk6⟩ : ∃ k, k = n / 8 % 6 := ⟨_, rfl⟩
  obtain ⟨v6, hv6⟩ : ∃ k, k = n / 16 % 6 := ⟨_, rfl⟩
  rw [← hk6] at hty
  rw [← hv6] at hvl
  have e8 : (n : Int) % 8 = 3 := by omega
  have e8' : Int.tmod (n : Int) 8 = 3 := by rw [Int.tmod_eq_emod_of_nonneg (by omega)]; omega
  have e6 : (n : Int) / 8 % 6 = (k6 : Int) := by omega
  have e16 : (n : Int) / 16 % 6 = (v6 : Int) := by omega
  have hk65 : k6 < 6 := by omega
  have hv65 : v6 < 6 := by omega
  have tw : IntKind.i64.wrap (n : Int) = (n : Int) := IntWalk.i64_in _ (by omega)
  have hl0 : (((m : Nat) : Int) == 0) = false := by simp; omega
  obtain ⟨A6, hA6⟩ : ∃ A, (A4.setCell ⟨A1.heap.size, 1, none⟩ (.string TY)).setCell ⟨A1.heap.size, 2, none⟩ (.string VL) = A := ⟨_, rfl⟩
  have x61 := fl_set1 x6 (.string TY)
  have x62 : FlAt A6 A1.heap.size (.int .i64 4) (.string TY) (.string VL) (.slice none 0 0) (.slice none 0 0) := by rw [← hA6]; exact fl_set2 x61 (.string VL)
  have x42 : FlAt A6 w.heap.size (.int .i64 0) (.string ⟨#[]⟩) (.string ⟨#[]⟩) (.slice none 0 0) (.slice none 0 0) := by
    rw [← hA6]; exact (blockFl_ne _ ⟨A1.heap.size, 2, none⟩ _ (by show w.heap.size ≠ A1.heap.size; omega)).trans ((blockFl_ne _ ⟨A1.heap.size, 1, none⟩ _ (by show w.heap.size ≠ A1.heap.size; omega)).trans x4)
  have hb6 : Below w.heap.size w A6 := by rw [← hA6]; exact (hb4.setCell (p := ⟨A1.heap.size, 1, none⟩) (by show w.heap.size ≤ A1.heap.size; omega) _).setCell (p := ⟨A1.heap.size, 2, none⟩) (by show w.heap.size ≤ A1.heap.size; omega) _
  obtain ⟨g0, g1, g2, g3, g4⟩ := fl_cells x6
  obtain ⟨f0, f1, f2, f3, f4⟩ := fl_frozen x6
  have g2' := (fl_cells x61).2.2.1
  have f2' := (fl_frozen x61).2.2.1
  have HA6 := Lib.hid hA6
  have HX62 := Lib.hid x62
  have HX42 := Lib.hid x42
  have HB6 := Lib.hid hb6
  have HTYl := Lib.hid hTYl
  have HVLl := Lib.hid hVLl
  have hz16 : A1.heap.size ≠ w.heap.size := by omega
  clear hA6 x61 x62 x42 hb6 hTYl hVLl hTY hVL x4 x6 hb1 hb4 z1 z4 hC hm hk6 hv6 hn hk
  go_enter Tryz.func8, Tryz.ntmps8
  go_upto_region 5 with (fail)
  rw [HA2.out]
  go_upto_region 24 with (fail)
  rw [HA6.out]
  obtain ⟨c0, c1, c2, c3, c4⟩ := fl_cells HX62.out
  obtain ⟨d0, d1, d2, d3, d4⟩ := fl_cells HX42.out
  obtain ⟨q0, q1, q2, q3, q4⟩ := fl_frozen HX42.out
  obtain ⟨y0, y1, y2, y3, y4⟩ := fl_cells (fl_set HX42.out (.int .i64 4) (.string TY) (.string VL) (.slice none 0 0) (.slice none 0 0))
  unfold set5F at y0 y1 y2 y3 y4
  go_wp2
  have hbz := fl_setB HB6.out (Nat.le_refl w.heap.size) (.int .i64 4) (.string TY) (.string VL) (.slice none 0 0) (.slice none 0 0)
  refine bodyPost_ret (v := .agg #[.int .i64 4, .string TY, .string VL, .slice none 0 0, .slice none 0 0]) (by simp [results, Tryz.results8, go_sem, y0, y1, y2, y3, y4]) rfl ⟨_, rfl, ?_, hbz⟩
  have := mkFl (ok := fun b => w.heap.size ≤ b ∧ b < (set5F A6 w.heap.size (.int .i64 4) (.string TY) (.string VL) (.slice none 0 0) (.slice none 0 0)).heap.size) (w := set5F A6 w.heap.size (.int .i64 4) (.string TY) (.string VL) (.slice none 0 0) (.slice none 0 0)) (k := 4) (t := TY.data.toList) (x := VL.data.toList) (p := []) (u := .slice none 0 0) (by decide) (by rw [HTYl.out]; exact Nat.le_trans (mkTy_len n) (by unfold maxLen; omega)) (by rw [HVLl.out]; refine Nat.le_trans (mkVl_len _ n) ?_; rw [bytes_len]; unfold maxLen; omega) isTo_nil
  rw [strV_whole, strV_whole, HTYl.out, HVLl.out] at this
  exact this
set_option maxRecDepth 100000 in
set_option maxHeartbeats 8000000 in
theorem mkLeaf6 (S : ByteArray) (hS : S.size ≤ 1000) (fu : Nat) (c : UInt8) (r : List UInt8) (n : Nat) (hn : c.toNat = n) (hk : c.toNat % 8 = 5) (a : Option Addr) (cap : Nat) (w : World) (hC : IsC w.heap.size w (c :: r) a cap) :
    Calls Tryz.prog 8 #[.slice a (c :: r).length cap, .string S] w fun e w' => ∃ v, e = .returned v ∧ IsFl (fun b => w.heap.size ≤ b ∧ b < w'.heap.size) w' (makeFu S.data.toList (fu + 1) (c :: r)) v ∧ Below w.heap.size w w' := by
  rw [show makeFu S.data.toList (fu + 1) (c :: r) = FT.mk 6 (mkTy n) (mkVl S.data.toList n) [] [] from by
    show (if c.toNat % 8 = 0 then _ else _) = _
    rw [hn] at hk ⊢
    rw [if_neg (by omega)]; rw [if_neg (by omega)]; rw [if_neg (by omega)]; rw [if_neg (by omega)]; rw [if_neg (by omega)]; rw [hk]; rfl]
  have hcl := c.toNat_lt
  have hcap := hC.2.1
  have hlen := hC.1
  obtain ⟨m, hm⟩ : ∃ m, m = (c :: r).length := ⟨_, rfl⟩
  have hm1 : 1 ≤ m := by rw [hm]; simp
  rw [← hm] at hlen ⊢
  rw [hn] at hk hcl
  unfold maxLen at hcap
  obtain ⟨TY, hTY, hTYl⟩ := strV_text (mkTy n)
  obtain ⟨VL, hVL, hVLl⟩ := strV_text (mkVl S.data.toList n)
  obtain ⟨A1, hA1⟩ : ∃ A, w.alloc (.cells #[.int .i64 0, .string ⟨#[]⟩, .string ⟨#[]⟩, .slice none 0 0, .slice none 0 0] 31) = A := ⟨_, rfl⟩
  obtain ⟨A2, hA2⟩ : ∃ A, A1.alloc (.cells #[.int .i64 6, .string ⟨#[]⟩, .string ⟨#[]⟩, .slice none 0 0, .slice none 0 0] 31) = A := ⟨_, rfl⟩
  obtain ⟨A3, hA3⟩ : ∃ A, A2.alloc (.cells #[.string ⟨#[99, 110]⟩, .string ⟨#[115, 110]⟩, .string ⟨#[100, 101, 115, 99, 114, 105, 112, 116, 105, 111, 110]⟩, .string ⟨#[117, 105, 100, 78, 117, 109, 98, 101, 114]⟩, .string ⟨#[109, 97, 105, 108]⟩, .string ⟨#[111, 98, 106, 101, 99, 116, 67, 108, 97, 115, 115]⟩] 9) = A := ⟨_, rfl⟩
  obtain ⟨A4, hA4⟩ : ∃ A, A3.alloc (.cells #[.string ⟨#[110, 49]⟩, .string ⟨#[78, 50]⟩, .string S, .string ⟨#[53]⟩, .string ⟨#[100]⟩, .string ⟨#[112, 101, 114, 115, 111, 110]⟩] 9) = A := ⟨_, rfl⟩
  obtain ⟨x4, x6, hty, hvl, hb1, hb4, z1, z4⟩ := mk_rows w A1 A2 A3 A4 6 S n hA1 hA2 hA3 hA4
  obtain ⟨b, off, rfl, hc0, _⟩ := isC_at hC hb1
  have HA2 := Lib.hid hA2
  clear hA2
  rw [hTY] at hty
  rw [hVL] at hvl
  rw [hn] at hc0
  obtain ⟨k6, hk6⟩ : ∃ k, k = n / 8 % 6 := ⟨_, rfl⟩
  obtain ⟨v6, hv6⟩ : ∃ k, k = n / 16 % 6 := ⟨_, rfl⟩
  rw [← hk6] at hty
  rw [← hv6] at hvl
  have e8 : (n : Int) % 8 = 5 := by omega
  have e8' : Int.tmod (n : Int) 8 = 5 := by rw [Int.tmod_eq_emod_of_nonneg (by omega)]; omega
  have e6 : (n : Int) / 8 % 6 = (k6 : Int) := by omega
  have e16 : (n : Int) / 16 % 6 = (v6 : Int) := by omega
  have hk65 : k6 < 6 := by omega
  have hv65 : v6 < 6 := by omega
  have tw : IntKind.i64.wrap (n : Int) = (n : Int) := IntWalk.i64_in _ (by omega)
  have hl0 : (((m : Nat) : Int) == 0) = false := by simp; omega
  obtain ⟨A6, hA6⟩ : ∃ A, (A4.setCell ⟨A1.heap.size, 1, none⟩ (.string TY)).setCell ⟨A1.heap.size, 2, none⟩ (.string VL) = A := ⟨_, rfl⟩
  have x61 := fl_set1 x6 (.string TY)
  have x62 : FlAt A6 A1.heap.size (.int .i64 6) (.string TY) (.string VL) (.slice none 0 0) (.slice none 0 0) := by rw [← hA6]; exact fl_set2 x61 (.string VL)
  have x42 : FlAt A6 w.heap.size (.int .i64 0) (.string ⟨#[]⟩) (.string ⟨#[]⟩) (.slice none 0 0) (.slice none 0 0) := by
    rw [← hA6]; exact (blockFl_ne _ ⟨A1.heap.size, 2, none⟩ _ (by show w.heap.size ≠ A1.heap.size; omega)).trans ((blockFl_ne _ ⟨A1.heap.size, 1, none⟩ _ (by show w.heap.size ≠ A1.heap.size; omega)).trans x4)
  have hb6 : Below w.heap.size w A6 := by rw [← hA6]; exact (hb4.setCell (p := ⟨A1.heap.size, 1, none⟩) (by show w.heap.size ≤ A1.heap.size; omega) _).setCell (p := ⟨A1.heap.size, 2, none⟩) (by show w.heap.size ≤ A1.heap.size; omega) _
  obtain ⟨g0, g1, g2, g3, g4⟩ := fl_cells x6
  obtain ⟨f0, f1, f2, f3, f4⟩ := fl_frozen x6
  have g2' := (fl_cells x61).2.2.1
  have f2' := (fl_frozen x61).2.2.1
  have HA6 := Lib.hid hA6
  have HX62 := Lib.hid x62
  have HX42 := Lib.hid x42
  have HB6 := Lib.hid hb6
  have HTYl := Lib.hid hTYl
  have HVLl := Lib.hid hVLl
  have hz16 : A1.heap.size ≠ w.heap.size := by omega
  clear hA6 x61 x62 x42 hb6 hTYl hVLl hTY hVL x4 x6 hb1 hb4 z1 z4 hC hm hk6 hv6 hn hk
  go_enter Tryz.func8, Tryz.ntmps8
  go_upto_region 5 with (fail)
  rw [HA2.out]
  go_upto_region 24 with (fail)
  rw [HA6.out]
  obtain ⟨c0, c1, c2, c3, c4⟩ := fl_cells HX62.out
  obtain ⟨d0, d1, d2, d3, d4⟩ := fl_cells HX42.out
  obtain ⟨q0, q1, q2, q3, q4⟩ := fl_frozen HX42.out
  obtain ⟨y0, y1, y2, y3, y4⟩ := fl_cells (fl_set HX42.out (.int .i64 6) (.string TY) (.string VL) (.slice none 0 0) (.slice none 0 0))
  unfold set5F at y0 y1 y2 y3 y4
  go_wp2
  have hbz := fl_setB HB6.out (Nat.le_refl w.heap.size) (.int .i64 6) (.string TY) (.string VL) (.slice none 0 0) (.slice none 0 0)
  refine bodyPost_ret (v := .agg #[.int .i64 6, .string TY, .string VL, .slice none 0 0, .slice none 0 0]) (by simp [results, Tryz.results8, go_sem, y0, y1, y2, y3, y4]) rfl ⟨_, rfl, ?_, hbz⟩
  have := mkFl (ok := fun b => w.heap.size ≤ b ∧ b < (set5F A6 w.heap.size (.int .i64 6) (.string TY) (.string VL) (.slice none 0 0) (.slice none 0 0)).heap.size) (w := set5F A6 w.heap.size (.int .i64 6) (.string TY) (.string VL) (.slice none 0 0) (.slice none 0 0)) (k := 6) (t := TY.data.toList) (x := VL.data.toList) (p := []) (u := .slice none 0 0) (by decide) (by rw [HTYl.out]; exact Nat.le_trans (mkTy_len n) (by unfold maxLen; omega)) (by rw [HVLl.out]; refine Nat.le_trans (mkVl_len _ n) ?_; rw [bytes_len]; unfold maxLen; omega) isTo_nil
  rw [strV_whole, strV_whole, HTYl.out, HVLl.out] at this
  exact this
set_option maxRecDepth 100000 in
set_option maxHeartbeats 8000000 in
theorem mkLeaf7 (S : ByteArray) (hS : S.size ≤ 1000) (fu : Nat) (c : UInt8) (r : List UInt8) (n : Nat) (hn : c.toNat = n) (hk : c.toNat % 8 = 6) (a : Option Addr) (cap : Nat) (w : World) (hC : IsC w.heap.size w (c :: r) a cap) :
    Calls Tryz.prog 8 #[.slice a (c :: r).length cap, .string S] w fun e w' => ∃ v, e = .returned v ∧ IsFl (fun b => w.heap.size ≤ b ∧ b < w'.heap.size) w' (makeFu S.data.toList (fu + 1) (c :: r)) v ∧ Below w.heap.size w w' := by
  rw [show makeFu S.data.toList (fu + 1) (c :: r) = FT.mk 7 (mkTy n) (mkVl S.data.toList n) [] [] from by
    show (if c.toNat % 8 = 0 then _ else _) = _
    rw [hn] at hk ⊢
    rw [if_neg (by omega)]; rw [if_neg (by omega)]; rw [if_neg (by omega)]; rw [if_neg (by omega)]; rw [if_neg (by omega)]; rw [hk]; rfl]
  have hcl := c.toNat_lt
  have hcap := hC.2.1
  have hlen := hC.1
  obtain ⟨m, hm⟩ : ∃ m, m = (c :: r).length := ⟨_, rfl⟩
  have hm1 : 1 ≤ m := by rw [hm]; simp
  rw [← hm] at hlen ⊢
  rw [hn] at hk hcl
  unfold maxLen at hcap
  obtain ⟨TY, hTY, hTYl⟩ := strV_text (mkTy n)
  obtain ⟨VL, hVL, hVLl⟩ := strV_text (mkVl S.data.toList n)
  obtain ⟨A1, hA1⟩ : ∃ A, w.alloc (.cells #[.int .i64 0, .string ⟨#[]⟩, .string ⟨#[]⟩, .slice none 0 0, .slice none 0 0] 31) = A := ⟨_, rfl⟩
  obtain ⟨A2, hA2⟩ : ∃ A, A1.alloc (.cells #[.int .i64 7, .string ⟨#[]⟩, .string ⟨#[]⟩, .slice none 0 0, .slice none 0 0] 31) = A := ⟨_, rfl⟩
  obtain ⟨A3, hA3⟩ : ∃ A, A2.alloc (.cells #[.string ⟨#[99, 110]⟩, .string ⟨#[115, 110]⟩, .string ⟨#[100, 101, 115, 99, 114, 105, 112, 116, 105, 111, 110]⟩, .string ⟨#[117, 105, 100, 78, 117, 109, 98, 101, 114]⟩, .string ⟨#[109, 97, 105, 108]⟩, .string ⟨#[111, 98, 106, 101, 99, 116, 67, 108, 97, 115, 115]⟩] 9) = A := ⟨_, rfl⟩
  obtain ⟨A4, hA4⟩ : ∃ A, A3.alloc (.cells #[.string ⟨#[110, 49]⟩, .string ⟨#[78, 50]⟩, .string S, .string ⟨#[53]⟩, .string ⟨#[100]⟩, .string ⟨#[112, 101, 114, 115, 111, 110]⟩] 9) = A := ⟨_, rfl⟩
  obtain ⟨x4, x6, hty, hvl, hb1, hb4, z1, z4⟩ := mk_rows w A1 A2 A3 A4 7 S n hA1 hA2 hA3 hA4
  obtain ⟨b, off, rfl, hc0, _⟩ := isC_at hC hb1
  have HA2 := Lib.hid hA2
  clear hA2
  rw [hTY] at hty
  rw [hVL] at hvl
  rw [hn] at hc0
  obtain ⟨k6, hk6⟩ : ∃ k, k = n / 8 % 6 := ⟨_, rfl⟩
  obtain ⟨v6, hv6⟩ : ∃ k, k = n / 16 % 6 := ⟨_, rfl⟩
  rw [← hk6] at hty
  rw [← hv6] at hvl
  have e8 : (n : Int) % 8 = 6 := by omega
  have e8' : Int.tmod (n : Int) 8 = 6 := by rw [Int.tmod_eq_emod_of_nonneg (by omega)]; omega
  have e6 : (n : Int) / 8 % 6 = (k6 : Int) := by omega
  have e16 : (n : Int) / 16 % 6 = (v6 : Int) := by omega
  have hk65 : k6 < 6 := by omega
  have hv65 : v6 < 6 := by omega
  have tw : IntKind.i64.wrap (n : Int) = (n : Int) := IntWalk.i64_in _ (by omega)
  have hl0 : (((m : Nat) : Int) == 0) = false := by simp; omega
  obtain ⟨A6, hA6⟩ : ∃ A, (A4.setCell ⟨A1.heap.size, 1, none⟩ (.string TY)).setCell ⟨A1.heap.size, 2, none⟩ (.string VL) = A := ⟨_, rfl⟩
  have x61 := fl_set1 x6 (.string TY)
  have x62 : FlAt A6 A1.heap.size (.int .i64 7) (.string TY) (.string VL) (.slice none 0 0) (.slice none 0 0) := by rw [← hA6]; exact fl_set2 x61 (.string VL)
  have x42 : FlAt A6 w.heap.size (.int .i64 0) (.string ⟨#[]⟩) (.string ⟨#[]⟩) (.slice none 0 0) (.slice none 0 0) := by
    rw [← hA6]; exact (blockFl_ne _ ⟨A1.heap.size, 2, none⟩ _ (by show w.heap.size ≠ A1.heap.size; omega)).trans ((blockFl_ne _ ⟨A1.heap.size, 1, none⟩ _ (by show w.heap.size ≠ A1.heap.size; omega)).trans x4)
  have hb6 : Below w.heap.size w A6 := by rw [← hA6]; exact (hb4.setCell (p := ⟨A1.heap.size, 1, none⟩) (by show w.heap.size ≤ A1.heap.size; omega) _).setCell (p := ⟨A1.heap.size, 2, none⟩) (by show w.heap.size ≤ A1.heap.size; omega) _
  obtain ⟨g0, g1, g2, g3, g4⟩ := fl_cells x6
  obtain ⟨f0, f1, f2, f3, f4⟩ := fl_frozen x6
  have g2' := (fl_cells x61).2.2.1
  have f2' := (fl_frozen x61).2.2.1
  have HA6 := Lib.hid hA6
  have HX62 := Lib.hid x62
  have HX42 := Lib.hid x42
  have HB6 := Lib.hid hb6
  have HTYl := Lib.hid hTYl
  have HVLl := Lib.hid hVLl
  have hz16 : A1.heap.size ≠ w.heap.size := by omega
  clear hA6 x61 x62 x42 hb6 hTYl hVLl hTY hVL x4 x6 hb1 hb4 z1 z4 hC hm hk6 hv6 hn hk
  go_enter Tryz.func8, Tryz.ntmps8
  go_upto_region 5 with (fail)
  rw [HA2.out]
  go_upto_region 24 with (fail)
  rw [HA6.out]
  obtain ⟨c0, c1, c2, c3, c4⟩ := fl_cells HX62.out
  obtain ⟨d0, d1, d2, d3, d4⟩ := fl_cells HX42.out
  obtain ⟨q0, q1, q2, q3, q4⟩ := fl_frozen HX42.out
  obtain ⟨y0, y1, y2, y3, y4⟩ := fl_cells (fl_set HX42.out (.int .i64 7) (.string TY) (.string VL) (.slice none 0 0) (.slice none 0 0))
  unfold set5F at y0 y1 y2 y3 y4
  go_wp2
  have hbz := fl_setB HB6.out (Nat.le_refl w.heap.size) (.int .i64 7) (.string TY) (.string VL) (.slice none 0 0) (.slice none 0 0)
  refine bodyPost_ret (v := .agg #[.int .i64 7, .string TY, .string VL, .slice none 0 0, .slice none 0 0]) (by simp [results, Tryz.results8, go_sem, y0, y1, y2, y3, y4]) rfl ⟨_, rfl, ?_, hbz⟩
  have := mkFl (ok := fun b => w.heap.size ≤ b ∧ b < (set5F A6 w.heap.size (.int .i64 7) (.string TY) (.string VL) (.slice none 0 0) (.slice none 0 0)).heap.size) (w := set5F A6 w.heap.size (.int .i64 7) (.string TY) (.string VL) (.slice none 0 0) (.slice none 0 0)) (k := 7) (t := TY.data.toList) (x := VL.data.toList) (p := []) (u := .slice none 0 0) (by decide) (by rw [HTYl.out]; exact Nat.le_trans (mkTy_len n) (by unfold maxLen; omega)) (by rw [HVLl.out]; refine Nat.le_trans (mkVl_len _ n) ?_; rw [bytes_len]; unfold maxLen; omega) isTo_nil
  rw [strV_whole, strV_whole, HTYl.out, HVLl.out] at this
  exact this
set_option maxRecDepth 100000 in
set_option maxHeartbeats 8000000 in
theorem mkLeaf8 (S : ByteArray) (hS : S.size ≤ 1000) (fu : Nat) (c : UInt8) (r : List UInt8) (n : Nat) (hn : c.toNat = n) (hk : c.toNat % 8 = 7) (a : Option Addr) (cap : Nat) (w : World) (hC : IsC w.heap.size w (c :: r) a cap) :
    Calls Tryz.prog 8 #[.slice a (c :: r).length cap, .string S] w fun e w' => ∃ v, e = .returned v ∧ IsFl (fun b => w.heap.size ≤ b ∧ b < w'.heap.size) w' (makeFu S.data.toList (fu + 1) (c :: r)) v ∧ Below w.heap.size w w' := by
  rw [show makeFu S.data.toList (fu + 1) (c :: r) = FT.mk 8 (mkTy n) [] [] [] from by
    show (if c.toNat % 8 = 0 then _ else _) = _
    rw [hn] at hk ⊢
    rw [if_neg (by omega)]; rw [if_neg (by omega)]; rw [if_neg (by omega)]; rw [if_pos hk]]
  have hcl := c.toNat_lt
  have hcap := hC.2.1
  have hlen := hC.1
  obtain ⟨m, hm⟩ : ∃ m, m = (c :: r).length := ⟨_, rfl⟩
  have hm1 : 1 ≤ m := by rw [hm]; simp
  rw [← hm] at hlen ⊢
  rw [hn] at hk hcl
  unfold maxLen at hcap
  obtain ⟨TY, hTY, hTYl⟩ := strV_text (mkTy n)
  obtain ⟨VL, hVL, hVLl⟩ := strV_text (mkVl S.data.toList n)
  obtain ⟨A1, hA1⟩ : ∃ A, w.alloc (.cells #[.int .i64 0, .string ⟨#[]⟩, .string ⟨#[]⟩, .slice none 0 0, .slice none 0 0] 31) = A := ⟨_, rfl⟩
  obtain ⟨A2, hA2⟩ : ∃ A, A1.alloc (.cells #[.int .i64 8, .string ⟨#[]⟩, .string ⟨#[]⟩, .slice none 0 0, .slice none 0 0] 31) = A := ⟨_, rfl⟩
  obtain ⟨A3, hA3⟩ : ∃ A, A2.alloc (.cells #[.string ⟨#[99, 110]⟩, .string ⟨#[115, 110]⟩, .string ⟨#[100, 101, 115, 99, 114, 105, 112, 116, 105, 111, 110]⟩, .string ⟨#[117, 105, 100, 78, 117, 109, 98, 101, 114]⟩, .string ⟨#[109, 97, 105, 108]⟩, .string ⟨#[111, 98, 106, 101, 99, 116, 67, 108, 97, 115, 115]⟩] 9) = A := ⟨_, rfl⟩
  obtain ⟨A4, hA4⟩ : ∃ A, A3.alloc (.cells #[.string ⟨#[110, 49]⟩, .string ⟨#[78, 50]⟩, .string S, .string ⟨#[53]⟩, .string ⟨#[100]⟩, .string ⟨#[112, 101, 114, 115, 111, 110]⟩] 9) = A := ⟨_, rfl⟩
  obtain ⟨x4, x6, hty, hvl, hb1, hb4, z1, z4⟩ := mk_rows w A1 A2 A3 A4 8 S n hA1 hA2 hA3 hA4
  obtain ⟨b, off, rfl, hc0, _⟩ := isC_at hC hb1
  have HA2 := Lib.hid hA2
  clear hA2
  rw [hTY] at hty
  rw [hVL] at hvl
  rw [hn] at hc0
  obtain ⟨k6, hk6⟩ : ∃ k, k = n / 8 % 6 := ⟨_, rfl⟩
  obtain ⟨v6, hv6⟩ : ∃ k, k = n / 16 % 6 := ⟨_, rfl⟩
  rw [← hk6] at hty
  rw [← hv6] at hvl
  have e8 : (n : Int) % 8 = 7 := by omega
  have e8' : Int.tmod (n : Int) 8 = 7 := by rw [Int.tmod_eq_emod_of_nonneg (by omega)]; omega
  have e6 : (n : Int) / 8 % 6 = (k6 : Int) := by omega
  have e16 : (n : Int) / 16 % 6 = (v6 : Int) := by omega
  have hk65 : k6 < 6 := by omega
  have hv65 : v6 < 6 := by omega
  have tw : IntKind.i64.wrap (n : Int) = (n : Int) := IntWalk.i64_in _ (by omega)
  have hl0 : (((m : Nat) : Int) == 0) = false := by simp; omega
  obtain ⟨A6, hA6⟩ : ∃ A, A4.setCell ⟨A1.heap.size, 1, none⟩ (.string TY) = A := ⟨_, rfl⟩
  have x62 : FlAt A6 A1.heap.size (.int .i64 8) (.string TY) (.string ⟨#[]⟩) (.slice none 0 0) (.slice none 0 0) := by rw [← hA6]; exact fl_set1 x6 (.string TY)
  have x42 : FlAt A6 w.heap.size (.int .i64 0) (.string ⟨#[]⟩) (.string ⟨#[]⟩) (.slice none 0 0) (.slice none 0 0) := by
    rw [← hA6]; exact (blockFl_ne _ ⟨A1.heap.size, 1, none⟩ _ (by show w.heap.size ≠ A1.heap.size; omega)).trans x4
  have hb6 : Below w.heap.size w A6 := by rw [← hA6]; exact hb4.setCell (p := ⟨A1.heap.size, 1, none⟩) (by show w.heap.size ≤ A1.heap.size; omega) _
  obtain ⟨g0, g1, g2, g3, g4⟩ := fl_cells x6
  obtain ⟨f0, f1, f2, f3, f4⟩ := fl_frozen x6
  have HA6 := Lib.hid hA6
  have HX62 := Lib.hid x62
  have HX42 := Lib.hid x42
  have HB6 := Lib.hid hb6
  have HTYl := Lib.hid hTYl
  clear hA6 x62 x42 hb6 hTYl hVLl hTY hVL x4 x6 hb1 hb4 z1 z4 hC hm hk6 hv6 hn hk
  go_enter Tryz.func8, Tryz.ntmps8
  go_upto_region 5 with (fail)
  rw [HA2.out]
  go_upto_region 24 with (fail)
  rw [HA6.out]
  obtain ⟨c0, c1, c2, c3, c4⟩ := fl_cells HX62.out
  obtain ⟨d0, d1, d2, d3, d4⟩ := fl_cells HX42.out
  obtain ⟨q0, q1, q2, q3, q4⟩ := fl_frozen HX42.out
  obtain ⟨y0, y1, y2, y3, y4⟩ := fl_cells (fl_set HX42.out (.int .i64 8) (.string TY) (.string ⟨#[]⟩) (.slice none 0 0) (.slice none 0 0))
  unfold set5F at y0 y1 y2 y3 y4
  go_wp2
  have hbz := fl_setB HB6.out (Nat.le_refl w.heap.size) (.int .i64 8) (.string TY) (.string ⟨#[]⟩) (.slice none 0 0) (.slice none 0 0)
  refine bodyPost_ret (v := .agg #[.int .i64 8, .string TY, .string ⟨#[]⟩, .slice none 0 0, .slice none 0 0]) (by simp [results, Tryz.results8, go_sem, y0, y1, y2, y3, y4]) rfl ⟨_, rfl, ?_, hbz⟩
  have := mkFl (ok := fun b => w.heap.size ≤ b ∧ b < (set5F A6 w.heap.size (.int .i64 8) (.string TY) (.string ⟨#[]⟩) (.slice none 0 0) (.slice none 0 0)).heap.size) (w := set5F A6 w.heap.size (.int .i64 8) (.string TY) (.string ⟨#[]⟩) (.slice none 0 0) (.slice none 0 0)) (k := 8) (t := TY.data.toList) (x := []) (p := []) (u := .slice none 0 0) (by decide) (by rw [HTYl.out]; exact Nat.le_trans (mkTy_len n) (by unfold maxLen; omega)) (Nat.zero_le _) isTo_nil
  rw [strV_whole, HTYl.out] at this
  exact this
end Go.Proofs.YtmilgbkkibahlaaGreatDoor


namespace Go.Proofs.YtmilgbkkibahlaaGreatDoor
open Go.RowKit
set_option linter.unusedVariables false
set_option linter.unnecessarySimpa false
set_option linter.unusedSimpArgs false

theorem isC_all {n0 : Nat} {w : World} {c : UInt8} {r : List UInt8} {a : Option Addr} {cap : Nat} (h : IsC n0 w (c :: r) a cap) : ∃ b off, a = some ⟨b, off, none⟩ ∧ (∀ j, (h : j < (c :: r).length) → w.cell? ⟨b, off + j, none⟩ = some (.int .u8 (c :: r)[j].toNat)) ∧ b < n0 := by
  obtain ⟨_, _, h⟩ := h
  obtain ⟨b, off, e, hlt, hc⟩ := h.resolve_left (by simp)
  exact ⟨b, off, e, hc, hlt⟩
def MadeF (w : World) (B6 : Nat) (K : Int) (wr : World) (l : List FT) (v : Value) : Prop :=
  FlAt wr w.heap.size (.int .i64 0) (.string ⟨#[]⟩) (.string ⟨#[]⟩) (.slice none 0 0) (.slice none 0 0) ∧ FlAt wr B6 (.int .i64 K) (.string ⟨#[]⟩) (.string ⟨#[]⟩) (.slice none 0 0) v ∧
  (∃ xs, wr.ownsRow (w.heap.size + 4) 31 5 v l.length xs ∧ ElsF (NewB (w.heap.size + 4) wr v.ownBlock) wr l xs) ∧ Below w.heap.size w wr
theorem ownsRow_sliceF {w : World} {base e size n : Nat} {v : Value} {xs : List Value} (h : w.ownsRow base e size v n xs) : ∃ a k c, v = .slice a k c := by
  rcases h.2 with ⟨rfl, _⟩ | ⟨g, cap, cur, rfl, _⟩
  · exact ⟨_, _, _, rfl⟩
  · exact ⟨_, _, _, rfl⟩
theorem fl_set4 {W : World} {b : Nat} {y0 y1 y2 y3 y4 : Value} (h : FlAt W b y0 y1 y2 y3 y4) (x4 : Value) : FlAt (W.setCell ⟨b, 4, none⟩ x4) b y0 y1 y2 y3 x4 := by
  have h' : W.heap[b]? = some (.cells #[y0, y1, y2, y3, y4] 31 (0, 0)) := h
  show (W.setCell ⟨b, 4, none⟩ x4).heap[b]? = _
  simp [World.setCell, Array.getElem?_modify, h']
theorem mid_anyF {B : Nat} {wr w2 w3 : World} {v x0 x1 x2 x3 x4 : Value} {l : List FT} {xs : List Value} {f : FT}
    (hown : wr.ownsRow B 31 5 v l.length xs) (hels : ElsF (NewB B wr v.ownBlock) wr l xs) (hB : B ≤ wr.heap.size) (hb2 : Below wr.heap.size wr w2) (hnew : IsFl (fun b => wr.heap.size ≤ b ∧ b < w2.heap.size) w2 f (.agg #[x0, x1, x2, x3, x4])) (h3 : Below w2.heap.size w2 w3) :
    w3.ownsRow B 31 5 v l.length xs ∧ ElsF (NewB B w3 v.ownBlock) w3 (l ++ [f]) (xs ++ [x0, x1, x2, x3, x4]) := by
  have hs : wr.heap.size ≤ w2.heap.size := hb2.size
  have hltv := hown.lt
  have g1 : wr.grownBy w2 none := ⟨hb2.os, hb2.tape, hb2.output, hb2.size, fun k hk _ => hb2.block k hk⟩
  have g2 : w2.grownBy w3 none := ⟨h3.os, h3.tape, h3.output, h3.size, fun k hk _ => h3.block k hk⟩
  refine ⟨(hown.kept g1 (by cases v.ownBlock <;> simp)).kept g2 (by cases v.ownBlock <;> simp), ElsF.snoc (hnew.imp (fun b hb => ⟨Nat.le_trans hB hb.1, Nat.lt_of_lt_of_le hb.2 h3.size, fun e => ?_⟩) (fun b o hb => h3.cell (p := ⟨b, o, none⟩) hb.2)) (hels.imp (fun b hb => ⟨hb.1, Nat.lt_of_lt_of_le hb.2.1 (Nat.le_trans hs h3.size), hb.2.2⟩) (fun b o hb => (bthen hb2 h3).cell (p := ⟨b, o, none⟩) hb.2.1))⟩
  have := (hltv _ e.symm).2
  have := hb.1
  omega
theorem els_afterF {B : Nat} {w3 w4 : World} {v v' : Value} {us : List FT} {ys : List Value} (hels : ElsF (NewB B w3 v.ownBlock) w3 us ys) (hgrow : w3.grownBy w4 v.ownBlock) (hat : v'.ownBlock = v.ownBlock ∨ v'.ownBlock = some w3.heap.size) : ElsF (NewB B w4 v'.ownBlock) w4 us ys := by
  refine hels.imp (fun b hb => ⟨hb.1, Nat.lt_of_lt_of_le hb.2.1 hgrow.size, fun e => ?_⟩) (fun b o hb => World.cell?_of_block (w := w3) (w' := w4) (a := ⟨b, o, none⟩) (hgrow.block b hb.2.1 hb.2.2))
  rcases hat with h | h
  · exact hb.2.2 (e.trans h)
  · rw [h] at e
    have := Option.some.inj e
    have := hb.2.1
    omega
theorem nextKF {w wr w2 w3 w4 : World} {B6 : Nat} {K : Int} {v x0 x1 x2 x3 x4 : Value} {l : List FT} {xs : List Value} {f : FT} {g cap : Nat} (hB6 : B6 = w.heap.size + 1) (hsz : w.heap.size + 4 ≤ wr.heap.size)
    (hm : MadeF w B6 K wr l v) (hown : wr.ownsRow (w.heap.size + 4) 31 5 v l.length xs) (hels : ElsF (NewB (w.heap.size + 4) wr v.ownBlock) wr l xs) (hb2 : Below wr.heap.size wr w2) (hnew : IsFl (fun b => wr.heap.size ≤ b ∧ b < w2.heap.size) w2 f (.agg #[x0, x1, x2, x3, x4])) (h3 : Below w2.heap.size w2 w3)
    (hown' : w4.ownsRow (w.heap.size + 4) 31 5 (.slice (some ⟨g, 0, none⟩) (l.length + 1) cap) (l.length + 1) (xs ++ [x0, x1, x2, x3, x4])) (hgrow : w3.grownBy w4 v.ownBlock) (hat : v.ownBlock = some g ∨ g = w3.heap.size) :
    w4.cell? ⟨B6, 4, none⟩ = some v ∧ w4.frozen? ⟨B6, 4, none⟩ = false ∧
    MadeF w B6 K (w4.setCell ⟨B6, 4, none⟩ (.slice (some ⟨g, 0, none⟩) (l.length + 1) cap)) (l ++ [f]) (.slice (some ⟨g, 0, none⟩) (l.length + 1) cap) := by
  obtain ⟨hz, hb6, _, hbel⟩ := hm
  have hltv := hown.lt
  have hs := hb2.size
  have hs3 := h3.size
  have hs4 := hgrow.size
  have hkeep : ∀ k, k < wr.heap.size → some k ≠ v.ownBlock → w4.heap[k]? = wr.heap[k]? := fun k hk hne =>
    (hgrow.block k (by omega) hne).trans ((h3.block k (by omega)).trans (hb2.block k hk))
  have hne0 : some w.heap.size ≠ v.ownBlock := fun e => by have := (hltv _ e.symm).1; omega
  have hne1 : some B6 ≠ v.ownBlock := fun e => by have := (hltv _ e.symm).1; omega
  have hb4 : FlAt w4 B6 (.int .i64 K) (.string ⟨#[]⟩) (.string ⟨#[]⟩) (.slice none 0 0) v := (hkeep _ (by omega) hne1).trans hb6
  have hz4 : FlAt w4 w.heap.size (.int .i64 0) (.string ⟨#[]⟩) (.string ⟨#[]⟩) (.slice none 0 0) (.slice none 0 0) := (hkeep _ (by omega) hne0).trans hz
  have hmid := mid_anyF hown hels hsz hb2 hnew h3
  have e4 := els_afterF (v' := .slice (some ⟨g, 0, none⟩) (l.length + 1) cap) hmid.2 hgrow (by rcases hat with h | h; exact .inl h.symm; exact .inr (by rw [h]; rfl))
  have h4 : Below w.heap.size wr w4 := ⟨hgrow.os.trans (h3.os.trans hb2.os), hgrow.tape.trans (h3.tape.trans hb2.tape), hgrow.output.trans (h3.output.trans hb2.output), by omega, fun k hk => hkeep k (by omega) (fun e => by have := (hltv _ e.symm).1; omega)⟩
  refine ⟨(fl_cells hb4).2.2.2.2, (fl_frozen hb4).2.2.2.2, (blockFl_ne _ ⟨B6, 4, none⟩ _ (by show w.heap.size ≠ B6; omega)).trans hz4, fl_set4 hb4 _, ⟨xs ++ [x0, x1, x2, x3, x4], ?_, ?_⟩, (hbel.trans h4).setCell (p := ⟨B6, 4, none⟩) (by show w.heap.size ≤ B6; omega) _⟩
  · rw [List.length_append]
    exact hown'.kept (set1_grown w4 B6 4 _) (by right; intro e; have e1 : g = B6 := Option.some.inj (show some g = some B6 from e); have e2 : w.heap.size + 4 ≤ g := (hown'.lt g rfl).1; omega)
  · exact e4.imp (fun b hb => ⟨hb.1, by rw [World.size_setCell]; exact hb.2.1, hb.2.2⟩) (fun b o hb => World.cell?_of_block (a := ⟨b, o, none⟩) (heap_setCell_other _ _ _ _ (by have := hb.1; show b ≠ B6; omega)))
theorem news5 (w : World) (x0 x1 x2 x3 x4 : Value) : ∀ j u, [x0, x1, x2, x3, x4][j]? = some u → (w.alloc (.cells #[x0, x1, x2, x3, x4] 31)).cell? ((⟨w.heap.size, 0, none⟩ : Addr).add j) = some u := by
  intro j u hu
  have h := heap_alloc_new w (.cells #[x0, x1, x2, x3, x4] 31)
  have hadd : (⟨w.heap.size, 0, none⟩ : Addr).add j = ⟨w.heap.size, j, none⟩ := by unfold Addr.add; split <;> simp_all
  rw [hadd]
  simp only [World.cell?, h]
  simpa using hu
theorem made_doneF {w wr : World} {B6 : Nat} {K : Int} {l : List FT} {v : Value} (hm : MadeF w B6 K wr l v) (hsz : w.heap.size + 4 ≤ wr.heap.size) (hK : (Lit.int .i64 K).wf = true) (hl : l.length ≤ maxLen) :
    IsFl (fun b => w.heap.size ≤ b ∧ b < (set5F wr w.heap.size (.int .i64 K) (.string ⟨#[]⟩) (.string ⟨#[]⟩) (.slice none 0 0) v).heap.size) (set5F wr w.heap.size (.int .i64 K) (.string ⟨#[]⟩) (.string ⟨#[]⟩) (.slice none 0 0) v) (.mk K [] [] [] l) (.agg #[.int .i64 K, .string ⟨#[]⟩, .string ⟨#[]⟩, .slice none 0 0, v]) := by
  obtain ⟨_, _, ⟨xs, ho, he⟩, _⟩ := hm
  obtain ⟨a, cp, rfl, his⟩ := ownF_done ⟨xs, he, ho⟩
  exact mkHold hK hl (his.imp (fun b hb => ⟨by omega, by rw [set5F_size]; exact hb.2⟩) (fun b o hb => fl_setC (by omega)))

set_option maxRecDepth 100000 in
set_option maxHeartbeats 8000000 in
theorem mkHold1 (S : ByteArray) (hS : S.size ≤ 1000) (fu : Nat) (c : UInt8) (r : List UInt8) (n : Nat) (hn : c.toNat = n) (hk : c.toNat % 8 = 0) (a : Option Addr) (cap : Nat) (w : World) (ih : MakesF S fu) (hfu : r.length ≤ fu) (hC : IsC w.heap.size w (c :: r) a cap) :
    Calls Tryz.prog 8 #[.slice a (c :: r).length cap, .string S] w fun e w' => ∃ v, e = .returned v ∧ IsFl (fun b => w.heap.size ≤ b ∧ b < w'.heap.size) w' (makeFu S.data.toList (fu + 1) (c :: r)) v ∧ Below w.heap.size w w' := by
  rw [show makeFu S.data.toList (fu + 1) (c :: r) = FT.mk 1 [] [] [] (kidsM (makeFu S.data.toList fu) (c :: r) (c.toNat / 60) (min r.length (c.toNat / 24 % 4))) from by
    show (if c.toNat % 8 = 0 then _ else _) = _
    rw [if_pos hk]]
  have hcl := c.toNat_lt
  have hcap := hC.2.1
  have hlen := hC.1
  obtain ⟨m, hm⟩ : ∃ m, m = (c :: r).length := ⟨_, rfl⟩
  have hm1 : 1 ≤ m := by rw [hm]; simp
  rw [← hm] at hlen ⊢
  rw [hn] at hk hcl
  unfold maxLen at hcap
  obtain ⟨TY, hTY, hTYl⟩ := strV_text (mkTy n)
  obtain ⟨VL, hVL, hVLl⟩ := strV_text (mkVl S.data.toList n)
  obtain ⟨A1, hA1⟩ : ∃ A, w.alloc (.cells #[.int .i64 0, .string ⟨#[]⟩, .string ⟨#[]⟩, .slice none 0 0, .slice none 0 0] 31) = A := ⟨_, rfl⟩
  obtain ⟨A2, hA2⟩ : ∃ A, A1.alloc (.cells #[.int .i64 1, .string ⟨#[]⟩, .string ⟨#[]⟩, .slice none 0 0, .slice none 0 0] 31) = A := ⟨_, rfl⟩
  obtain ⟨A3, hA3⟩ : ∃ A, A2.alloc (.cells #[.string ⟨#[99, 110]⟩, .string ⟨#[115, 110]⟩, .string ⟨#[100, 101, 115, 99, 114, 105, 112, 116, 105, 111, 110]⟩, .string ⟨#[117, 105, 100, 78, 117, 109, 98, 101, 114]⟩, .string ⟨#[109, 97, 105, 108]⟩, .string ⟨#[111, 98, 106, 101, 99, 116, 67, 108, 97, 115, 115]⟩] 9) = A := ⟨_, rfl⟩
  obtain ⟨A4, hA4⟩ : ∃ A, A3.alloc (.cells #[.string ⟨#[110, 49]⟩, .string ⟨#[78, 50]⟩, .string S, .string ⟨#[53]⟩, .string ⟨#[100]⟩, .string ⟨#[112, 101, 114, 115, 111, 110]⟩] 9) = A := ⟨_, rfl⟩
  obtain ⟨x4, x6, hty, hvl, hb1, hb4, z1, z4⟩ := mk_rows w A1 A2 A3 A4 1 S n hA1 hA2 hA3 hA4
  obtain ⟨b, off, rfl, hcells, hbl⟩ := isC_all hC
  have hc0 : A1.cell? ⟨b, off, none⟩ = some (.int .u8 c.toNat) := (hb1.cell (p := ⟨b, off, none⟩) hbl).trans (by have := hcells 0 (by simp); simpa using this)
  have HA2 := Lib.hid hA2
  clear hA2
  rw [hTY] at hty
  rw [hVL] at hvl
  rw [hn] at hc0
  obtain ⟨k6, hk6⟩ : ∃ k, k = n / 8 % 6 := ⟨_, rfl⟩
  obtain ⟨v6, hv6⟩ : ∃ k, k = n / 16 % 6 := ⟨_, rfl⟩
  rw [← hk6] at hty
  rw [← hv6] at hvl
  have e8 : (n : Int) % 8 = 0 := by omega
  have e8' : Int.tmod (n : Int) 8 = 0 := by rw [Int.tmod_eq_emod_of_nonneg (by omega)]; omega
  have e6 : (n : Int) / 8 % 6 = (k6 : Int) := by omega
  have e16 : (n : Int) / 16 % 6 = (v6 : Int) := by omega
  have hk65 : k6 < 6 := by omega
  have hv65 : v6 < 6 := by omega
  have tw : IntKind.i64.wrap (n : Int) = (n : Int) := IntWalk.i64_in _ (by omega)
  have hl0 : (((m : Nat) : Int) == 0) = false := by simp; omega
  obtain ⟨ks, hks⟩ : ∃ ks : Nat → List FT, ks = kidsM (makeFu S.data.toList fu) (c :: r) (c.toNat / 60) := ⟨_, rfl⟩
  obtain ⟨rl, hrl⟩ : ∃ rl, rl = r.length := ⟨_, rfl⟩
  have hmr : m = rl + 1 := by rw [hm, hrl]; rfl
  subst hmr
  clear hl0
  have hl0 : ((rl : Int) + 1 == 0) = false := by simp; omega
  obtain ⟨i0, hi, hz0, hz1, hz2⟩ := info_parts infoF
  obtain ⟨k4, hk4⟩ : ∃ k, k = n / 24 % 4 := ⟨_, rfl⟩
  obtain ⟨q60, hq60⟩ : ∃ k, k = n / 60 := ⟨_, rfl⟩
  have e24 : (n : Int) / 24 % 4 = (k4 : Int) := by omega
  have e60 : (n : Int) / 60 = (q60 : Int) := by omega
  have hk44 : k4 < 4 := by omega
  have hq5 : q60 < 5 := by omega
  have hnd : r.length = rl := hrl.symm
  rw [← hks, hnd, hn, ← hk4]
  rw [hn, ← hq60] at hks
  have HKs := Lib.hid hks
  have HCells := Lib.hid hcells
  have HIh := Lib.hid ih
  have HRl := Lib.hid hrl
  have HBl := Lib.hid hbl
  have HTYl := Lib.hid hTYl
  have HFu := Lib.hid hfu
  have hm0 : MadeF w A1.heap.size 1 A4 (ks 0) (.slice none 0 0) := ⟨x4, x6, ⟨[], by rw [hks]; exact World.ownsRow_nil _ _ _ _, by rw [hks]; rfl⟩, hb4⟩
  have HM0 := Lib.hid hm0
  have HZ1 := Lib.hid z1
  have HZ4 := Lib.hid z4
  obtain ⟨g0, g1, g2, g3, g4⟩ := fl_cells x6
  clear hm0 hTYl hVLl hTY hVL x4 x6 hb1 hb4 z1 z4 hC hm hk6 hv6 hn hk hks hcells ih hrl hbl hfu hk4 hq60 hnd
  go_enter Tryz.func8, Tryz.ntmps8
  go_upto_region 5 with (fail)
  rw [HA2.out]
  go_wp2
  clear g0 g1 g2 g3 g4 e6 e16 e8 e8' hA1 hA3 hA4 hc0 hty hvl
  go_loopw [9] (fun i wr => ∃ (j : Nat) (v : Value), i = .int .i64 ((j : Int) + 1) ∧ j ≤ min rl k4 ∧ Hid (MadeF w A1.heap.size 1 wr (ks j) v) ∧ Hid (w.heap.size + 4 ≤ wr.heap.size)) (fun i _ => rl + 1 - (intOf i).toNat)
  case atStart => exact ⟨0, .slice none 0 0, rfl, Nat.zero_le _, HM0, Lib.hid (by rw [HZ4.out]; exact Nat.le_refl _)⟩
  case round =>
    obtain ⟨j, v, rfl, hjK, HM, HSz⟩ := hrel
    by_cases h1 : j < rl
    · have t1 : decide ((j : Int) < (rl : Int)) = true := by simp; omega
      have t1' : decide ((j : Int) + 1 < (rl : Int) + 1) = true := by simp; omega
      by_cases h2 : j + 1 ≤ k4
      · have t2 : decide ((j : Int) + 1 ≤ (k4 : Int)) = true := by simp; omega
        obtain ⟨hz, hb6, ⟨xs, hown, hels⟩, hbel⟩ := HM.out
        obtain ⟨ho, hhi⟩ : ∃ ho, ho = min (rl + 1) (j + 1 + q60 + 1) := ⟨_, rfl⟩
        have ew1 : IntKind.i64.wrap ((j : Int) + 1 + (q60 : Int)) = (j : Int) + 1 + (q60 : Int) := IntWalk.i64_in _ (by omega)
        have ew2 : IntKind.i64.wrap ((j : Int) + 1 + (q60 : Int) + 1) = (j : Int) + 1 + (q60 : Int) + 1 := IntWalk.i64_in _ (by omega)
        have em : min ((rl : Int) + 1) ((j : Int) + 1 + (q60 : Int) + 1) = (ho : Int) := by omega
        have ew0 : IntKind.i64.wrap (q60 : Int) = (q60 : Int) := IntWalk.i64_in _ (by omega)
        have em2 : max (ho : Int) 0 = (ho : Int) := by omega
        have ecj : ¬ cap = j + 1 := by omega
        have hhi1 : j + 1 ≤ ho := by omega
        have hhi2 : ho ≤ rl + 1 := by omega
        have hhi3 : ho ≤ cap := by omega
        have ei1 : (0 : Int) ≤ (j : Int) + 1 := by omega
        have ei2 : (j : Int) + 1 ≤ (ho : Int) := by omega
        have ei3 : (ho : Int) ≤ (cap : Int) := by omega
        have ei4 : ((j : Int) + 1).toNat = j + 1 := by omega
        obtain ⟨y0, y1, y2, hv⟩ := ownsRow_sliceF hown
        subst hv
        obtain ⟨L, hL⟩ : ∃ L, L = ((c :: r).drop (j + 1)).take (q60 + 1) := ⟨_, rfl⟩
        have hLl : L.length = ho - (j + 1) := by rw [hL]; simp; have := HRl.out; omega
        have hkl : (ks j).length = j := by rw [HKs.out]; exact kidsM_len _ _ _ j
        have hks1 : ks (j + 1) = ks j ++ [makeFu S.data.toList fu L] := by rw [HKs.out, hL]; rfl
        have hkb : ∀ w2, Below w.heap.size w w2 → Calls Tryz.prog 8 #[.slice (some ⟨b, off + (j + 1), none⟩) (ho - (j + 1)) (cap - (j + 1)), .string S] w2 fun e w' => ∃ v, e = .returned v ∧ IsFl (fun b => w2.heap.size ≤ b ∧ b < w'.heap.size) w' (makeFu S.data.toList fu L) v ∧ Below w2.heap.size w2 w' := by
          intro w2 hb2
          rw [← hLl]
          refine HIh.out L _ _ w2 (by have := HFu.out; have := HRl.out; omega) ⟨by omega, by unfold maxLen; omega, .inr ⟨b, off + (j + 1), rfl, Nat.lt_of_lt_of_le HBl.out hb2.size, fun i hi => ?_⟩⟩
          have hx2 : j + 1 + i < (c :: r).length := by have := HRl.out; simp; omega
          have he : L[i] = (c :: r)[j + 1 + i] := by simp only [hL, List.getElem_take, List.getElem_drop]
          have := (hb2.cell (p := ⟨b, off + (j + 1 + i), none⟩) HBl.out).trans (HCells.out (j + 1 + i) hx2)
          rw [he, Nat.add_assoc]; exact this
        have HKb := Lib.hid hkb
        have HBel := Lib.hid hbel
        have HOwn := Lib.hid hown
        have HEls := Lib.hid hels
        have HKs1 := Lib.hid hks1
        have HB6 := Lib.hid hb6
        obtain ⟨c0, c1, c2, c3, c4⟩ := fl_cells hb6
        obtain ⟨f0, f1, f2, f3, f4⟩ := fl_frozen hb6
        have hwlt : A1.heap.size < wr.heap.size := fl_lt hb6
        have hjK1 : j + 1 ≤ min rl k4 := by omega
        have HKl := Lib.hid hkl
        have hkj : (ks j).length ≤ 5 := by omega
        clear hhi hL hLl hkb hbel hz hb6 hown hels hkl hks1
        go_wp2_with fail
        go_region_law (first
          | (go_simp; go_at_call 8; refine (HKb.out wr.drew HBel.out.drew).mono ?_; rintro e w2 ⟨v2, rfl, hnew, hb2⟩; (obtain ⟨kk0, kT0, kX0, kpa, kpn, kpc, kka, kkn, kkc, hsh⟩ := hnew.shape); subst hsh; have hk2 := fl_below HB6.out ((Below.refl _ _).drew.trans hb2) hwlt; (obtain ⟨c0', c1', c2', c3', c4'⟩ := fl_cells hk2); (obtain ⟨f0', f1', f2', f3', f4'⟩ := fl_frozen hk2); have hw2 := fl_lt hk2; have hka := fl_below hk2 (box5 w2 (.int .i64 kk0) (.string kT0) (.string kX0) (.slice kpa kpn kpc) (.slice kka kkn kkc)) hw2; (obtain ⟨a0', a1', a2', a3', a4'⟩ := fl_cells hka); clear hka; have HB2 := Lib.hid ((Below.refl wr.heap.size wr).drew.trans hb2); have HNew := Lib.hid hnew; clear hb2 hnew hk2)
          | (refine step_append_lies _ (by rfl) _ _ _ (by rfl) (w.heap.size + 4) 31 i0 (.agg #[.int .i64 0, .string ⟨#[]⟩, .string ⟨#[]⟩, .slice none 0 0, .slice none 0 0]) 5 88 Tryz.underlying29 hi hz0 hz1 hz2 rfl (by omega) (.slice y0 y1 y2) (ks j).length xs (by rfl) (mid_anyF HOwn.out HEls.out HSz.out HB2.out HNew.out ((Below.refl _ _).alloc (Nat.le_refl _) _)).1 ⟨w2.heap.size, 0, none⟩ 1 1 [.int .i64 kk0, .string kT0, .string kX0, .slice kpa kpn kpc, .slice kka kkn kkc] (by rfl) (by rfl) (news5 _ _ _ _ _ _) (by intro u hu; simp at hu; rcases hu with rfl | rfl | rfl | rfl | rfl <;> rfl) (by omega) (by unfold maxLen; omega) (by omega) (by have := HB2.out.size; have := HSz.out; simp; omega) _ rfl ?_; intro gg gc w4 hown1 hgrow hat hlt; obtain ⟨hc4, hf4, hnx⟩ := nextKF HZ1.out HSz.out HM.out HOwn.out HEls.out HB2.out HNew.out ((Below.refl _ _).alloc (Nat.le_refl _) _) hown1 hgrow hat; have HNx := Lib.hid hnx; have HSz2 : Hid (w.heap.size + 4 ≤ w4.heap.size) := Lib.hid (by have := HSz.out; have := HB2.out.size; have := hgrow.size; simp at this; omega); clear hown1 hgrow hat hnx))
        all_goals
          go_wp2
          go_roundw
          case rel => exact ⟨j + 1, _, by go_num, by omega, by rw [HKs1.out]; exact HNx, Lib.hid (by rw [World.size_setCell]; exact HSz2.out)⟩
          case measure => simp [intOf]; omega
      · have t2 : decide ((j : Int) + 1 ≤ (k4 : Int)) = false := by simp; omega
        have hje : j = min rl k4 := by omega
        obtain ⟨hz, hb6, ⟨xs, hown, hels⟩, hbel⟩ := HM.out
        obtain ⟨y0, y1, y2, hv⟩ := ownsRow_sliceF hown
        subst hv
        obtain ⟨c0, c1, c2, c3, c4⟩ := fl_cells hb6
        obtain ⟨d0, d1, d2, d3, d4⟩ := fl_cells hz
        obtain ⟨q0, q1, q2, q3, q4⟩ := fl_frozen hz
        obtain ⟨r0, r1, r2, r3, r4⟩ := fl_cells (fl_set hz (.int .i64 1) (.string ⟨#[]⟩) (.string ⟨#[]⟩) (.slice none 0 0) (.slice y0 y1 y2))
        unfold set5F at r0 r1 r2 r3 r4
        have HBel := Lib.hid hbel
        have HJe := Lib.hid hje
        clear hz hb6 hown hels hbel hje
        go_wp2
        have hbz := fl_setB HBel.out (Nat.le_refl w.heap.size) (.int .i64 1) (.string ⟨#[]⟩) (.string ⟨#[]⟩) (.slice none 0 0) (.slice y0 y1 y2)
        refine bodyPost_ret (v := .agg #[.int .i64 1, .string ⟨#[]⟩, .string ⟨#[]⟩, .slice none 0 0, .slice y0 y1 y2]) (by simp [results, Tryz.results8, go_sem, r0, r1, r2, r3, r4]) rfl ⟨_, rfl, ?_, hbz⟩
        rw [← HJe.out]
        exact made_doneF HM.out HSz.out (by decide) (by rw [HKs.out, kidsM_len]; unfold maxLen; omega)
    · have t1 : decide ((j : Int) < (rl : Int)) = false := by simp; omega
      have t1' : decide ((j : Int) + 1 < (rl : Int) + 1) = false := by simp; omega
      have hje : j = min rl k4 := by omega
      obtain ⟨hz, hb6, ⟨xs, hown, hels⟩, hbel⟩ := HM.out
      obtain ⟨y0, y1, y2, hv⟩ := ownsRow_sliceF hown
      subst hv
      obtain ⟨c0, c1, c2, c3, c4⟩ := fl_cells hb6
      obtain ⟨d0, d1, d2, d3, d4⟩ := fl_cells hz
      obtain ⟨q0, q1, q2, q3, q4⟩ := fl_frozen hz
      obtain ⟨r0, r1, r2, r3, r4⟩ := fl_cells (fl_set hz (.int .i64 1) (.string ⟨#[]⟩) (.string ⟨#[]⟩) (.slice none 0 0) (.slice y0 y1 y2))
      unfold set5F at r0 r1 r2 r3 r4
      have HBel := Lib.hid hbel
      have HJe := Lib.hid hje
      clear hz hb6 hown hels hbel hje
      go_wp2
      have hbz := fl_setB HBel.out (Nat.le_refl w.heap.size) (.int .i64 1) (.string ⟨#[]⟩) (.string ⟨#[]⟩) (.slice none 0 0) (.slice y0 y1 y2)
      refine bodyPost_ret (v := .agg #[.int .i64 1, .string ⟨#[]⟩, .string ⟨#[]⟩, .slice none 0 0, .slice y0 y1 y2]) (by simp [results, Tryz.results8, go_sem, r0, r1, r2, r3, r4]) rfl ⟨_, rfl, ?_, hbz⟩
      rw [← HJe.out]
      exact made_doneF HM.out HSz.out (by decide) (by rw [HKs.out, kidsM_len]; unfold maxLen; omega)
set_option maxRecDepth 100000 in
set_option maxHeartbeats 8000000 in
theorem mkHold2 (S : ByteArray) (hS : S.size ≤ 1000) (fu : Nat) (c : UInt8) (r : List UInt8) (n : Nat) (hn : c.toNat = n) (hk : c.toNat % 8 = 1) (a : Option Addr) (cap : Nat) (w : World) (ih : MakesF S fu) (hfu : r.length ≤ fu) (hC : IsC w.heap.size w (c :: r) a cap) :
    Calls Tryz.prog 8 #[.slice a (c :: r).length cap, .string S] w fun e w' => ∃ v, e = .returned v ∧ IsFl (fun b => w.heap.size ≤ b ∧ b < w'.heap.size) w' (makeFu S.data.toList (fu + 1) (c :: r)) v ∧ Below w.heap.size w w' := by
  rw [show makeFu S.data.toList (fu + 1) (c :: r) = FT.mk 2 [] [] [] (kidsM (makeFu S.data.toList fu) (c :: r) (c.toNat / 60) (min r.length (c.toNat / 24 % 4))) from by
    show (if c.toNat % 8 = 0 then _ else _) = _
    rw [if_neg (by omega)]; rw [if_pos hk]]
  have hcl := c.toNat_lt
  have hcap := hC.2.1
  have hlen := hC.1
  obtain ⟨m, hm⟩ : ∃ m, m = (c :: r).length := ⟨_, rfl⟩
  have hm1 : 1 ≤ m := by rw [hm]; simp
  rw [← hm] at hlen ⊢
  rw [hn] at hk hcl
  unfold maxLen at hcap
  obtain ⟨TY, hTY, hTYl⟩ := strV_text (mkTy n)
  obtain ⟨VL, hVL, hVLl⟩ := strV_text (mkVl S.data.toList n)
  obtain ⟨A1, hA1⟩ : ∃ A, w.alloc (.cells #[.int .i64 0, .string ⟨#[]⟩, .string ⟨#[]⟩, .slice none 0 0, .slice none 0 0] 31) = A := ⟨_, rfl⟩
  obtain ⟨A2, hA2⟩ : ∃ A, A1.alloc (.cells #[.int .i64 2, .string ⟨#[]⟩, .string ⟨#[]⟩, .slice none 0 0, .slice none 0 0] 31) = A := ⟨_, rfl⟩
  obtain ⟨A3, hA3⟩ : ∃ A, A2.alloc (.cells #[.string ⟨#[99, 110]⟩, .string ⟨#[115, 110]⟩, .string ⟨#[100, 101, 115, 99, 114, 105, 112, 116, 105, 111, 110]⟩, .string ⟨#[117, 105, 100, 78, 117, 109, 98, 101, 114]⟩, .string ⟨#[109, 97, 105, 108]⟩, .string ⟨#[111, 98, 106, 101, 99, 116, 67, 108, 97, 115, 115]⟩] 9) = A := ⟨_, rfl⟩
  obtain ⟨A4, hA4⟩ : ∃ A, A3.alloc (.cells #[.string ⟨#[110, 49]⟩, .string ⟨#[78, 50]⟩, .string S, .string ⟨#[53]⟩, .string ⟨#[100]⟩, .string ⟨#[112, 101, 114, 115, 111, 110]⟩] 9) = A := ⟨_, rfl⟩
  obtain ⟨x4, x6, hty, hvl, hb1, hb4, z1, z4⟩ := mk_rows w A1 A2 A3 A4 2 S n hA1 hA2 hA3 hA4
  obtain ⟨b, off, rfl, hcells, hbl⟩ := isC_all hC
  have hc0 : A1.cell? ⟨b, off, none⟩ = some (.int .u8 c.toNat) := (hb1.cell (p := ⟨b, off, none⟩) hbl).trans (by have := hcells 0 (by simp); simpa using this)
  have HA2 := Lib.hid hA2
  clear hA2
  rw [hTY] at hty
  rw [hVL] at hvl
  rw [hn] at hc0
  obtain ⟨k6, hk6⟩ : ∃ k, k = n / 8 % 6 := ⟨_, rfl⟩
  obtain ⟨v6, hv6⟩ : ∃ k, k = n / 16 % 6 := ⟨_, rfl⟩
  rw [← hk6] at hty
  rw [← hv6] at hvl
  have e8 : (n : Int) % 8 = 1 := by omega
  have e8' : Int.tmod (n : Int) 8 = 1 := by rw [Int.tmod_eq_emod_of_nonneg (by omega)]; omega
  have e6 : (n : Int) / 8 % 6 = (k6 : Int) := by omega
  have e16 : (n : Int) / 16 % 6 = (v6 : Int) := by omega
  have hk65 : k6 < 6 := by omega
  have hv65 : v6 < 6 := by omega
  have tw : IntKind.i64.wrap (n : Int) = (n : Int) := IntWalk.i64_in _ (by omega)
  have hl0 : (((m : Nat) : Int) == 0) = false := by simp; omega
  obtain ⟨ks, hks⟩ : ∃ ks : Nat → List FT, ks = kidsM (makeFu S.data.toList fu) (c :: r) (c.toNat / 60) := ⟨_, rfl⟩
  obtain ⟨rl, hrl⟩ : ∃ rl, rl = r.length := ⟨_, rfl⟩
  have hmr : m = rl + 1 := by rw [hm, hrl]; rfl
  subst hmr
  clear hl0
  have hl0 : ((rl : Int) + 1 == 0) = false := by simp; omega
  obtain ⟨i0, hi, hz0, hz1, hz2⟩ := info_parts infoF
  obtain ⟨k4, hk4⟩ : ∃ k, k = n / 24 % 4 := ⟨_, rfl⟩
  obtain ⟨q60, hq60⟩ : ∃ k, k = n / 60 := ⟨_, rfl⟩
  have e24 : (n : Int) / 24 % 4 = (k4 : Int) := by omega
  have e60 : (n : Int) / 60 = (q60 : Int) := by omega
  have hk44 : k4 < 4 := by omega
  have hq5 : q60 < 5 := by omega
  have hnd : r.length = rl := hrl.symm
  rw [← hks, hnd, hn, ← hk4]
  rw [hn, ← hq60] at hks
  have HKs := Lib.hid hks
  have HCells := Lib.hid hcells
  have HIh := Lib.hid ih
  have HRl := Lib.hid hrl
  have HBl := Lib.hid hbl
  have HTYl := Lib.hid hTYl
  have HFu := Lib.hid hfu
  have hm0 : MadeF w A1.heap.size 2 A4 (ks 0) (.slice none 0 0) := ⟨x4, x6, ⟨[], by rw [hks]; exact World.ownsRow_nil _ _ _ _, by rw [hks]; rfl⟩, hb4⟩
  have HM0 := Lib.hid hm0
  have HZ1 := Lib.hid z1
  have HZ4 := Lib.hid z4
  obtain ⟨g0, g1, g2, g3, g4⟩ := fl_cells x6
  clear hm0 hTYl hVLl hTY hVL x4 x6 hb1 hb4 z1 z4 hC hm hk6 hv6 hn hk hks hcells ih hrl hbl hfu hk4 hq60 hnd
  go_enter Tryz.func8, Tryz.ntmps8
  go_upto_region 5 with (fail)
  rw [HA2.out]
  go_wp2
  clear g0 g1 g2 g3 g4 e6 e16 e8 e8' hA1 hA3 hA4 hc0 hty hvl
  go_loopw [9] (fun i wr => ∃ (j : Nat) (v : Value), i = .int .i64 ((j : Int) + 1) ∧ j ≤ min rl k4 ∧ Hid (MadeF w A1.heap.size 2 wr (ks j) v) ∧ Hid (w.heap.size + 4 ≤ wr.heap.size)) (fun i _ => rl + 1 - (intOf i).toNat)
  case atStart => exact ⟨0, .slice none 0 0, rfl, Nat.zero_le _, HM0, Lib.hid (by rw [HZ4.out]; exact Nat.le_refl _)⟩
  case round =>
    obtain ⟨j, v, rfl, hjK, HM, HSz⟩ := hrel
    by_cases h1 : j < rl
    · have t1 : decide ((j : Int) < (rl : Int)) = true := by simp; omega
      have t1' : decide ((j : Int) + 1 < (rl : Int) + 1) = true := by simp; omega
      by_cases h2 : j + 1 ≤ k4
      · have t2 : decide ((j : Int) + 1 ≤ (k4 : Int)) = true := by simp; omega
        obtain ⟨hz, hb6, ⟨xs, hown, hels⟩, hbel⟩ := HM.out
        obtain ⟨ho, hhi⟩ : ∃ ho, ho = min (rl + 1) (j + 1 + q60 + 1) := ⟨_, rfl⟩
        have ew1 : IntKind.i64.wrap ((j : Int) + 1 + (q60 : Int)) = (j : Int) + 1 + (q60 : Int) := IntWalk.i64_in _ (by omega)
        have ew2 : IntKind.i64.wrap ((j : Int) + 1 + (q60 : Int) + 1) = (j : Int) + 1 + (q60 : Int) + 1 := IntWalk.i64_in _ (by omega)
        have em : min ((rl : Int) + 1) ((j : Int) + 1 + (q60 : Int) + 1) = (ho : Int) := by omega
        have ew0 : IntKind.i64.wrap (q60 : Int) = (q60 : Int) := IntWalk.i64_in _ (by omega)
        have em2 : max (ho : Int) 0 = (ho : Int) := by omega
        have ecj : ¬ cap = j + 1 := by omega
        have hhi1 : j + 1 ≤ ho := by omega
        have hhi2 : ho ≤ rl + 1 := by omega
        have hhi3 : ho ≤ cap := by omega
        have ei1 : (0 : Int) ≤ (j : Int) + 1 := by omega
        have ei2 : (j : Int) + 1 ≤ (ho : Int) := by omega
        have ei3 : (ho : Int) ≤ (cap : Int) := by omega
        have ei4 : ((j : Int) + 1).toNat = j + 1 := by omega
        obtain ⟨y0, y1, y2, hv⟩ := ownsRow_sliceF hown
        subst hv
        obtain ⟨L, hL⟩ : ∃ L, L = ((c :: r).drop (j + 1)).take (q60 + 1) := ⟨_, rfl⟩
        have hLl : L.length = ho - (j + 1) := by rw [hL]; simp; have := HRl.out; omega
        have hkl : (ks j).length = j := by rw [HKs.out]; exact kidsM_len _ _ _ j
        have hks1 : ks (j + 1) = ks j ++ [makeFu S.data.toList fu L] := by rw [HKs.out, hL]; rfl
        have hkb : ∀ w2, Below w.heap.size w w2 → Calls Tryz.prog 8 #[.slice (some ⟨b, off + (j + 1), none⟩) (ho - (j + 1)) (cap - (j + 1)), .string S] w2 fun e w' => ∃ v, e = .returned v ∧ IsFl (fun b => w2.heap.size ≤ b ∧ b < w'.heap.size) w' (makeFu S.data.toList fu L) v ∧ Below w2.heap.size w2 w' := by
          intro w2 hb2
          rw [← hLl]
          refine HIh.out L _ _ w2 (by have := HFu.out; have := HRl.out; omega) ⟨by omega, by unfold maxLen; omega, .inr ⟨b, off + (j + 1), rfl, Nat.lt_of_lt_of_le HBl.out hb2.size, fun i hi => ?_⟩⟩
          have hx2 : j + 1 + i < (c :: r).length := by have := HRl.out; simp; omega
          have he : L[i] = (c :: r)[j + 1 + i] := by simp only [hL, List.getElem_take, List.getElem_drop]
          have := (hb2.cell (p := ⟨b, off + (j + 1 + i), none⟩) HBl.out).trans (HCells.out (j + 1 + i) hx2)
          rw [he, Nat.add_assoc]; exact this
        have HKb := Lib.hid hkb
        have HBel := Lib.hid hbel
        have HOwn := Lib.hid hown
        have HEls := Lib.hid hels
        have HKs1 := Lib.hid hks1
        have HB6 := Lib.hid hb6
        obtain ⟨c0, c1, c2, c3, c4⟩ := fl_cells hb6
        obtain ⟨f0, f1, f2, f3, f4⟩ := fl_frozen hb6
        have hwlt : A1.heap.size < wr.heap.size := fl_lt hb6
        have hjK1 : j + 1 ≤ min rl k4 := by omega
        have HKl := Lib.hid hkl
        have hkj : (ks j).length ≤ 5 := by omega
        clear hhi hL hLl hkb hbel hz hb6 hown hels hkl hks1
        go_wp2_with fail
        go_region_law (first
          | (go_simp; go_at_call 8; refine (HKb.out wr.drew HBel.out.drew).mono ?_; rintro e w2 ⟨v2, rfl, hnew, hb2⟩; (obtain ⟨kk0, kT0, kX0, kpa, kpn, kpc, kka, kkn, kkc, hsh⟩ := hnew.shape); subst hsh; have hk2 := fl_below HB6.out ((Below.refl _ _).drew.trans hb2) hwlt; (obtain ⟨c0', c1', c2', c3', c4'⟩ := fl_cells hk2); (obtain ⟨f0', f1', f2', f3', f4'⟩ := fl_frozen hk2); have hw2 := fl_lt hk2; have hka := fl_below hk2 (box5 w2 (.int .i64 kk0) (.string kT0) (.string kX0) (.slice kpa kpn kpc) (.slice kka kkn kkc)) hw2; (obtain ⟨a0', a1', a2', a3', a4'⟩ := fl_cells hka); clear hka; have HB2 := Lib.hid ((Below.refl wr.heap.size wr).drew.trans hb2); have HNew := Lib.hid hnew; clear hb2 hnew hk2)
          | (refine step_append_lies _ (by rfl) _ _ _ (by rfl) (w.heap.size + 4) 31 i0 (.agg #[.int .i64 0, .string ⟨#[]⟩, .string ⟨#[]⟩, .slice none 0 0, .slice none 0 0]) 5 88 Tryz.underlying29 hi hz0 hz1 hz2 rfl (by omega) (.slice y0 y1 y2) (ks j).length xs (by rfl) (mid_anyF HOwn.out HEls.out HSz.out HB2.out HNew.out ((Below.refl _ _).alloc (Nat.le_refl _) _)).1 ⟨w2.heap.size, 0, none⟩ 1 1 [.int .i64 kk0, .string kT0, .string kX0, .slice kpa kpn kpc, .slice kka kkn kkc] (by rfl) (by rfl) (news5 _ _ _ _ _ _) (by intro u hu; simp at hu; rcases hu with rfl | rfl | rfl | rfl | rfl <;> rfl) (by omega) (by unfold maxLen; omega) (by omega) (by have := HB2.out.size; have := HSz.out; simp; omega) _ rfl ?_; intro gg gc w4 hown1 hgrow hat hlt; obtain ⟨hc4, hf4, hnx⟩ := nextKF HZ1.out HSz.out HM.out HOwn.out HEls.out HB2.out HNew.out ((Below.refl _ _).alloc (Nat.le_refl _) _) hown1 hgrow hat; have HNx := Lib.hid hnx; have HSz2 : Hid (w.heap.size + 4 ≤ w4.heap.size) := Lib.hid (by have := HSz.out; have := HB2.out.size; have := hgrow.size; simp at this; omega); clear hown1 hgrow hat hnx))
        all_goals
          go_wp2
          go_roundw
          case rel => exact ⟨j + 1, _, by go_num, by omega, by rw [HKs1.out]; exact HNx, Lib.hid (by rw [World.size_setCell]; exact HSz2.out)⟩
          case measure => simp [intOf]; omega
      · have t2 : decide ((j : Int) + 1 ≤ (k4 : Int)) = false := by simp; omega
        have hje : j = min rl k4 := by omega
        obtain ⟨hz, hb6, ⟨xs, hown, hels⟩, hbel⟩ := HM.out
        obtain ⟨y0, y1, y2, hv⟩ := ownsRow_sliceF hown
        subst hv
        obtain ⟨c0, c1, c2, c3, c4⟩ := fl_cells hb6
        obtain ⟨d0, d1, d2, d3, d4⟩ := fl_cells hz
        obtain ⟨q0, q1, q2, q3, q4⟩ := fl_frozen hz
        obtain ⟨r0, r1, r2, r3, r4⟩ := fl_cells (fl_set hz (.int .i64 2) (.string ⟨#[]⟩) (.string ⟨#[]⟩) (.slice none 0 0) (.slice y0 y1 y2))
        unfold set5F at r0 r1 r2 r3 r4
        have HBel := Lib.hid hbel
        have HJe := Lib.hid hje
        clear hz hb6 hown hels hbel hje
        go_wp2
        have hbz := fl_setB HBel.out (Nat.le_refl w.heap.size) (.int .i64 2) (.string ⟨#[]⟩) (.string ⟨#[]⟩) (.slice none 0 0) (.slice y0 y1 y2)
        refine bodyPost_ret (v := .agg #[.int .i64 2, .string ⟨#[]⟩, .string ⟨#[]⟩, .slice none 0 0, .slice y0 y1 y2]) (by simp [results, Tryz.results8, go_sem, r0, r1, r2, r3, r4]) rfl ⟨_, rfl, ?_, hbz⟩
        rw [← HJe.out]
        exact made_doneF HM.out HSz.out (by decide) (by rw [HKs.out, kidsM_len]; unfold maxLen; omega)
    · have t1 : decide ((j : Int) < (rl : Int)) = false := by simp; omega
      have t1' : decide ((j : Int) + 1 < (rl : Int) + 1) = false := by simp; omega
      have hje : j = min rl k4 := by omega
      obtain ⟨hz, hb6, ⟨xs, hown, hels⟩, hbel⟩ := HM.out
      obtain ⟨y0, y1, y2, hv⟩ := ownsRow_sliceF hown
      subst hv
      obtain ⟨c0, c1, c2, c3, c4⟩ := fl_cells hb6
      obtain ⟨d0, d1, d2, d3, d4⟩ := fl_cells hz
      obtain ⟨q0, q1, q2, q3, q4⟩ := fl_frozen hz
      obtain ⟨r0, r1, r2, r3, r4⟩ := fl_cells (fl_set hz (.int .i64 2) (.string ⟨#[]⟩) (.string ⟨#[]⟩) (.slice none 0 0) (.slice y0 y1 y2))
      unfold set5F at r0 r1 r2 r3 r4
      have HBel := Lib.hid hbel
      have HJe := Lib.hid hje
      clear hz hb6 hown hels hbel hje
      go_wp2
      have hbz := fl_setB HBel.out (Nat.le_refl w.heap.size) (.int .i64 2) (.string ⟨#[]⟩) (.string ⟨#[]⟩) (.slice none 0 0) (.slice y0 y1 y2)
      refine bodyPost_ret (v := .agg #[.int .i64 2, .string ⟨#[]⟩, .string ⟨#[]⟩, .slice none 0 0, .slice y0 y1 y2]) (by simp [results, Tryz.results8, go_sem, r0, r1, r2, r3, r4]) rfl ⟨_, rfl, ?_, hbz⟩
      rw [← HJe.out]
      exact made_doneF HM.out HSz.out (by decide) (by rw [HKs.out, kidsM_len]; unfold maxLen; omega)
end Go.Proofs.YtmilgbkkibahlaaGreatDoor


namespace Go.Proofs.YtmilgbkkibahlaaGreatDoor
open Go.RowKit
set_option linter.unusedVariables false
set_option linter.unnecessarySimpa false
set_option linter.unusedSimpArgs false

set_option maxRecDepth 100000 in
set_option maxHeartbeats 8000000 in
theorem mkHold3 (S : ByteArray) (hS : S.size ≤ 1000) (fu : Nat) (c : UInt8) (r : List UInt8) (n : Nat) (hn : c.toNat = n) (hk : c.toNat % 8 = 2) (a : Option Addr) (cap : Nat) (w : World) (ih : MakesF S fu) (hfu : r.length ≤ fu) (hC : IsC w.heap.size w (c :: r) a cap) :
    Calls Tryz.prog 8 #[.slice a (c :: r).length cap, .string S] w fun e w' => ∃ v, e = .returned v ∧ IsFl (fun b => w.heap.size ≤ b ∧ b < w'.heap.size) w' (makeFu S.data.toList (fu + 1) (c :: r)) v ∧ Below w.heap.size w w' := by
  rw [show makeFu S.data.toList (fu + 1) (c :: r) = FT.mk 3 [] [] [] [makeFu S.data.toList fu r] from by
    show (if c.toNat % 8 = 0 then _ else _) = _
    rw [if_neg (by omega)]; rw [if_neg (by omega)]; rw [if_pos hk]]
  have hcl := c.toNat_lt
  have hcap := hC.2.1
  have hlen := hC.1
  obtain ⟨m, hm⟩ : ∃ m, m = (c :: r).length := ⟨_, rfl⟩
  have hm1 : 1 ≤ m := by rw [hm]; simp
  rw [← hm] at hlen ⊢
  rw [hn] at hk hcl
  unfold maxLen at hcap
  obtain ⟨TY, hTY, hTYl⟩ := strV_text (mkTy n)
  obtain ⟨VL, hVL, hVLl⟩ := strV_text (mkVl S.data.toList n)
  obtain ⟨A1, hA1⟩ : ∃ A, w.alloc (.cells #[.int .i64 0, .string ⟨#[]⟩, .string ⟨#[]⟩, .slice none 0 0, .slice none 0 0] 31) = A := ⟨_, rfl⟩
  obtain ⟨A2, hA2⟩ : ∃ A, A1.alloc (.cells #[.int .i64 3, .string ⟨#[]⟩, .string ⟨#[]⟩, .slice none 0 0, .slice none 0 0] 31) = A := ⟨_, rfl⟩
  obtain ⟨A3, hA3⟩ : ∃ A, A2.alloc (.cells #[.string ⟨#[99, 110]⟩, .string ⟨#[115, 110]⟩, .string ⟨#[100, 101, 115, 99, 114, 105, 112, 116, 105, 111, 110]⟩, .string ⟨#[117, 105, 100, 78, 117, 109, 98, 101, 114]⟩, .string ⟨#[109, 97, 105, 108]⟩, .string ⟨#[111, 98, 106, 101, 99, 116, 67, 108, 97, 115, 115]⟩] 9) = A := ⟨_, rfl⟩
  obtain ⟨A4, hA4⟩ : ∃ A, A3.alloc (.cells #[.string ⟨#[110, 49]⟩, .string ⟨#[78, 50]⟩, .string S, .string ⟨#[53]⟩, .string ⟨#[100]⟩, .string ⟨#[112, 101, 114, 115, 111, 110]⟩] 9) = A := ⟨_, rfl⟩
  obtain ⟨x4, x6, hty, hvl, hb1, hb4, z1, z4⟩ := mk_rows w A1 A2 A3 A4 3 S n hA1 hA2 hA3 hA4
  obtain ⟨b, off, rfl, hcells, hbl⟩ := isC_all hC
  have hc0 : A1.cell? ⟨b, off, none⟩ = some (.int .u8 c.toNat) := (hb1.cell (p := ⟨b, off, none⟩) hbl).trans (by have := hcells 0 (by simp); simpa using this)
  have HA2 := Lib.hid hA2
  clear hA2
  rw [hTY] at hty
  rw [hVL] at hvl
  rw [hn] at hc0
  obtain ⟨k6, hk6⟩ : ∃ k, k = n / 8 % 6 := ⟨_, rfl⟩
  obtain ⟨v6, hv6⟩ : ∃ k, k = n / 16 % 6 := ⟨_, rfl⟩
  rw [← hk6] at hty
  rw [← hv6] at hvl
  have e8 : (n : Int) % 8 = 2 := by omega
  have e8' : Int.tmod (n : Int) 8 = 2 := by rw [Int.tmod_eq_emod_of_nonneg (by omega)]; omega
  have e6 : (n : Int) / 8 % 6 = (k6 : Int) := by omega
  have e16 : (n : Int) / 16 % 6 = (v6 : Int) := by omega
  have hk65 : k6 < 6 := by omega
  have hv65 : v6 < 6 := by omega
  have tw : IntKind.i64.wrap (n : Int) = (n : Int) := IntWalk.i64_in _ (by omega)
  have hl0 : (((m : Nat) : Int) == 0) = false := by simp; omega
  obtain ⟨ks, hks⟩ : ∃ ks : Nat → List FT, ks = kidsM (makeFu S.data.toList fu) (c :: r) (c.toNat / 60) := ⟨_, rfl⟩
  obtain ⟨rl, hrl⟩ : ∃ rl, rl = r.length := ⟨_, rfl⟩
  have hmr : m = rl + 1 := by rw [hm, hrl]; rfl
  subst hmr
  clear hl0
  have hl0 : ((rl : Int) + 1 == 0) = false := by simp; omega
  obtain ⟨i0, hi, hz0, hz1, hz2⟩ := info_parts infoF
  obtain ⟨k4, hk4⟩ : ∃ k, k = n / 24 % 4 := ⟨_, rfl⟩
  obtain ⟨q60, hq60⟩ : ∃ k, k = n / 60 := ⟨_, rfl⟩
  have e24 : (n : Int) / 24 % 4 = (k4 : Int) := by omega
  have e60 : (n : Int) / 60 = (q60 : Int) := by omega
  have hk44 : k4 < 4 := by omega
  have hq5 : q60 < 5 := by omega
  have hnd : r.length = rl := hrl.symm
  rw [hn, ← hq60] at hks
  have HKs := Lib.hid hks
  have HCells := Lib.hid hcells
  have HIh := Lib.hid ih
  have HRl := Lib.hid hrl
  have HBl := Lib.hid hbl
  have HTYl := Lib.hid hTYl
  have HFu := Lib.hid hfu
  have hm0 : MadeF w A1.heap.size 3 A4 (ks 0) (.slice none 0 0) := ⟨x4, x6, ⟨[], by rw [hks]; exact World.ownsRow_nil _ _ _ _, by rw [hks]; rfl⟩, hb4⟩
  have HM0 := Lib.hid hm0
  have HZ1 := Lib.hid z1
  have HZ4 := Lib.hid z4
  obtain ⟨g0, g1, g2, g3, g4⟩ := fl_cells x6
  clear hm0 hTYl hVLl hTY hVL x4 x6 hb1 hb4 z1 z4 hC hm hk6 hv6 hn hk hks hcells ih hrl hbl hfu hk4 hq60 hnd
  go_enter Tryz.func8, Tryz.ntmps8
  go_upto_region 5 with (fail)
  rw [HA2.out]
  go_wp2
  clear g0 g1 g2 g3 g4 e6 e16 e8 e8' hA1 hA3 hA4 hc0 hty hvl
  go_loopw [9] (fun i wr => ∃ (j : Nat) (v : Value), i = .int .i64 ((j : Int) + 1) ∧ j ≤ min rl k4 ∧ Hid (MadeF w A1.heap.size 3 wr (ks j) v) ∧ Hid (w.heap.size + 4 ≤ wr.heap.size)) (fun i _ => rl + 1 - (intOf i).toNat)
  case atStart => exact ⟨0, .slice none 0 0, rfl, Nat.zero_le _, HM0, Lib.hid (by rw [HZ4.out]; exact Nat.le_refl _)⟩
  case round =>
    obtain ⟨j, v, rfl, hjK, HM, HSz⟩ := hrel
    by_cases h1 : j < rl
    · have t1 : decide ((j : Int) < (rl : Int)) = true := by simp; omega
      have t1' : decide ((j : Int) + 1 < (rl : Int) + 1) = true := by simp; omega
      by_cases h2 : j + 1 ≤ k4
      · have t2 : decide ((j : Int) + 1 ≤ (k4 : Int)) = true := by simp; omega
        obtain ⟨hz, hb6, ⟨xs, hown, hels⟩, hbel⟩ := HM.out
        obtain ⟨ho, hhi⟩ : ∃ ho, ho = min (rl + 1) (j + 1 + q60 + 1) := ⟨_, rfl⟩
        have ew1 : IntKind.i64.wrap ((j : Int) + 1 + (q60 : Int)) = (j : Int) + 1 + (q60 : Int) := IntWalk.i64_in _ (by omega)
        have ew2 : IntKind.i64.wrap ((j : Int) + 1 + (q60 : Int) + 1) = (j : Int) + 1 + (q60 : Int) + 1 := IntWalk.i64_in _ (by omega)
        have em : min ((rl : Int) + 1) ((j : Int) + 1 + (q60 : Int) + 1) = (ho : Int) := by omega
        have ew0 : IntKind.i64.wrap (q60 : Int) = (q60 : Int) := IntWalk.i64_in _ (by omega)
        have em2 : max (ho : Int) 0 = (ho : Int) := by omega
        have ecj : ¬ cap = j + 1 := by omega
        have hhi1 : j + 1 ≤ ho := by omega
        have hhi2 : ho ≤ rl + 1 := by omega
        have hhi3 : ho ≤ cap := by omega
        have ei1 : (0 : Int) ≤ (j : Int) + 1 := by omega
        have ei2 : (j : Int) + 1 ≤ (ho : Int) := by omega
        have ei3 : (ho : Int) ≤ (cap : Int) := by omega
        have ei4 : ((j : Int) + 1).toNat = j + 1 := by omega
        obtain ⟨y0, y1, y2, hv⟩ := ownsRow_sliceF hown
        subst hv
        obtain ⟨L, hL⟩ : ∃ L, L = ((c :: r).drop (j + 1)).take (q60 + 1) := ⟨_, rfl⟩
        have hLl : L.length = ho - (j + 1) := by rw [hL]; simp; have := HRl.out; omega
        have hkl : (ks j).length = j := by rw [HKs.out]; exact kidsM_len _ _ _ j
        have hks1 : ks (j + 1) = ks j ++ [makeFu S.data.toList fu L] := by rw [HKs.out, hL]; rfl
        have hkb : ∀ w2, Below w.heap.size w w2 → Calls Tryz.prog 8 #[.slice (some ⟨b, off + (j + 1), none⟩) (ho - (j + 1)) (cap - (j + 1)), .string S] w2 fun e w' => ∃ v, e = .returned v ∧ IsFl (fun b => w2.heap.size ≤ b ∧ b < w'.heap.size) w' (makeFu S.data.toList fu L) v ∧ Below w2.heap.size w2 w' := by
          intro w2 hb2
          rw [← hLl]
          refine HIh.out L _ _ w2 (by have := HFu.out; have := HRl.out; omega) ⟨by omega, by unfold maxLen; omega, .inr ⟨b, off + (j + 1), rfl, Nat.lt_of_lt_of_le HBl.out hb2.size, fun i hi => ?_⟩⟩
          have hx2 : j + 1 + i < (c :: r).length := by have := HRl.out; simp; omega
          have he : L[i] = (c :: r)[j + 1 + i] := by simp only [hL, List.getElem_take, List.getElem_drop]
          have := (hb2.cell (p := ⟨b, off + (j + 1 + i), none⟩) HBl.out).trans (HCells.out (j + 1 + i) hx2)
          rw [he, Nat.add_assoc]; exact this
        have HKb := Lib.hid hkb
        have HBel := Lib.hid hbel
        have HOwn := Lib.hid hown
        have HEls := Lib.hid hels
        have HKs1 := Lib.hid hks1
        have HB6 := Lib.hid hb6
        obtain ⟨c0, c1, c2, c3, c4⟩ := fl_cells hb6
        obtain ⟨f0, f1, f2, f3, f4⟩ := fl_frozen hb6
        have hwlt : A1.heap.size < wr.heap.size := fl_lt hb6
        have hjK1 : j + 1 ≤ min rl k4 := by omega
        have HKl := Lib.hid hkl
        have hkj : (ks j).length ≤ 5 := by omega
        clear hhi hL hLl hkb hbel hz hb6 hown hels hkl hks1
        go_wp2_with fail
        go_region_law (first
          | (go_simp; go_at_call 8; refine (HKb.out wr.drew HBel.out.drew).mono ?_; rintro e w2 ⟨v2, rfl, hnew, hb2⟩; (obtain ⟨kk0, kT0, kX0, kpa, kpn, kpc, kka, kkn, kkc, hsh⟩ := hnew.shape); subst hsh; have hk2 := fl_below HB6.out ((Below.refl _ _).drew.trans hb2) hwlt; (obtain ⟨c0', c1', c2', c3', c4'⟩ := fl_cells hk2); (obtain ⟨f0', f1', f2', f3', f4'⟩ := fl_frozen hk2); have hw2 := fl_lt hk2; have hka := fl_below hk2 (box5 w2 (.int .i64 kk0) (.string kT0) (.string kX0) (.slice kpa kpn kpc) (.slice kka kkn kkc)) hw2; (obtain ⟨a0', a1', a2', a3', a4'⟩ := fl_cells hka); clear hka; have HB2 := Lib.hid ((Below.refl wr.heap.size wr).drew.trans hb2); have HNew := Lib.hid hnew; clear hb2 hnew hk2)
          | (refine step_append_lies _ (by rfl) _ _ _ (by rfl) (w.heap.size + 4) 31 i0 (.agg #[.int .i64 0, .string ⟨#[]⟩, .string ⟨#[]⟩, .slice none 0 0, .slice none 0 0]) 5 88 Tryz.underlying29 hi hz0 hz1 hz2 rfl (by omega) (.slice y0 y1 y2) (ks j).length xs (by rfl) (mid_anyF HOwn.out HEls.out HSz.out HB2.out HNew.out ((Below.refl _ _).alloc (Nat.le_refl _) _)).1 ⟨w2.heap.size, 0, none⟩ 1 1 [.int .i64 kk0, .string kT0, .string kX0, .slice kpa kpn kpc, .slice kka kkn kkc] (by rfl) (by rfl) (news5 _ _ _ _ _ _) (by intro u hu; simp at hu; rcases hu with rfl | rfl | rfl | rfl | rfl <;> rfl) (by omega) (by unfold maxLen; omega) (by omega) (by have := HB2.out.size; have := HSz.out; simp; omega) _ rfl ?_; intro gg gc w4 hown1 hgrow hat hlt; obtain ⟨hc4, hf4, hnx⟩ := nextKF HZ1.out HSz.out HM.out HOwn.out HEls.out HB2.out HNew.out ((Below.refl _ _).alloc (Nat.le_refl _) _) hown1 hgrow hat; have HNx := Lib.hid hnx; have HSz2 : Hid (w.heap.size + 4 ≤ w4.heap.size) := Lib.hid (by have := HSz.out; have := HB2.out.size; have := hgrow.size; simp at this; omega); clear hown1 hgrow hat hnx))
        all_goals
          go_wp2
          go_roundw
          case rel => exact ⟨j + 1, _, by go_num, by omega, by rw [HKs1.out]; exact HNx, Lib.hid (by rw [World.size_setCell]; exact HSz2.out)⟩
          case measure => simp [intOf]; omega
      · have t2 : decide ((j : Int) + 1 ≤ (k4 : Int)) = false := by simp; omega
        obtain ⟨hz, hb6, ⟨xs, hown, hels⟩, hbel⟩ := HM.out
        obtain ⟨y0, y1, y2, hv⟩ := ownsRow_sliceF hown
        subst hv
        obtain ⟨c0, c1, c2, c3, c4⟩ := fl_cells hb6
        have hkb : ∀ w2, Below w.heap.size w w2 → Calls Tryz.prog 8 #[.slice (some ⟨b, off + 1, none⟩) rl (cap - 1), .string S] w2 fun e w' => ∃ v, e = .returned v ∧ IsFl (fun b => w2.heap.size ≤ b ∧ b < w'.heap.size) w' (makeFu S.data.toList fu r) v ∧ Below w2.heap.size w2 w' := by
          intro w2 hb2
          rw [HRl.out]
          refine HIh.out r _ _ w2 HFu.out ⟨by have := HRl.out; omega, by unfold maxLen; omega, .inr ⟨b, off + 1, rfl, Nat.lt_of_lt_of_le HBl.out hb2.size, fun i hi => ?_⟩⟩
          have hx2 : i + 1 < (c :: r).length := by simpa using hi
          have := (hb2.cell (p := ⟨b, off + (i + 1), none⟩) HBl.out).trans (HCells.out (i + 1) hx2)
          rw [show off + 1 + i = off + (i + 1) from by omega]; exact this
        have HKb := Lib.hid hkb
        have HBel := Lib.hid hbel
        have HB6 := Lib.hid hb6
        have HZz := Lib.hid hz
        have HSz2 := HSz
        clear hz hb6 hown hels hbel hkb
        have hc1 : ¬ cap = 1 := by omega
        go_upto_region 24 with (go_at_call 8; refine (HKb.out _ HBel.out).mono ?_; rintro e w5 ⟨v5, rfl, hnew, hb5⟩; (obtain ⟨kk0, kT0, kX0, kpa, kpn, kpc, kka, kkn, kkc, hsh⟩ := hnew.shape); subst hsh; (obtain ⟨W5, hW5⟩ : ∃ W, w5.alloc (.cells #[.int .i64 kk0, .string kT0, .string kX0, .slice kpa kpn kpc, .slice kka kkn kkc] 31) = W := ⟨_, rfl⟩); have hb55 : Below w5.heap.size w5 W5 := (by rw [← hW5]; exact box5 w5 _ _ _ _ _); have hz5 : FlAt W5 w5.heap.size (.int .i64 kk0) (.string kT0) (.string kX0) (.slice kpa kpn kpc) (.slice kka kkn kkc) := (by rw [← hW5]; exact heap_alloc_new w5 _); have hx6 := fl_below HB6.out (bthen hb5 hb55) (fl_lt HB6.out); have hx0 := fl_below HZz.out (bthen hb5 hb55) (fl_lt HZz.out); (obtain ⟨p0, p1, p2, p3, p4⟩ := fl_cells hx6); (obtain ⟨f0, f1, f2, f3, f4⟩ := fl_frozen hx6); have HNew := Lib.hid hnew; have HB5 := Lib.hid hb5; have HB55 := Lib.hid hb55; have HZ5 := Lib.hid hz5; have HX6 := Lib.hid hx6; have HX0 := Lib.hid hx0; clear hnew hb5 hb55 hz5 hx6 hx0)
        obtain ⟨W6, hW6⟩ : ∃ W, W5.setCell ⟨A1.heap.size, 4, none⟩ (.slice (some ⟨w5.heap.size, 0, none⟩) 1 1) = W := ⟨_, rfl⟩
        rw [hW6]
        have hlt5 : w5.heap.size < W5.heap.size := fl_lt HZ5.out
        have hs5 := HB5.out.size
        have hsz4 := HSz2.out
        have hzB := HZ1.out
        have x6 : FlAt W6 A1.heap.size (.int .i64 3) (.string ⟨#[]⟩) (.string ⟨#[]⟩) (.slice none 0 0) (.slice (some ⟨w5.heap.size, 0, none⟩) 1 1) := by rw [← hW6]; exact fl_set4 HX6.out _
        have x0 : FlAt W6 w.heap.size (.int .i64 0) (.string ⟨#[]⟩) (.string ⟨#[]⟩) (.slice none 0 0) (.slice none 0 0) := by rw [← hW6]; exact (blockFl_ne _ ⟨A1.heap.size, 4, none⟩ _ (by show w.heap.size ≠ A1.heap.size; omega)).trans HX0.out
        have hz6 : W6.heap.size = W5.heap.size := by rw [← hW6, World.size_setCell]
        have hne : ∀ b o, b ≠ A1.heap.size → W6.cell? ⟨b, o, none⟩ = W5.cell? ⟨b, o, none⟩ := fun b o h => by rw [← hW6]; exact World.cell?_of_block (a := ⟨b, o, none⟩) (heap_setCell_other _ _ _ _ h)
        have hb6 : Below w.heap.size w W6 := by rw [← hW6]; exact (HBel.out.trans ((bthen HB5.out HB55.out).mono HBel.out.size)).setCell (p := ⟨A1.heap.size, 4, none⟩) (by show w.heap.size ≤ A1.heap.size; omega) _
        have hres : IsFl (fun b => w.heap.size ≤ b ∧ b < (set5F W6 w.heap.size (.int .i64 3) (.string ⟨#[]⟩) (.string ⟨#[]⟩) (.slice none 0 0) (.slice (some ⟨w5.heap.size, 0, none⟩) 1 1)).heap.size) (set5F W6 w.heap.size (.int .i64 3) (.string ⟨#[]⟩) (.string ⟨#[]⟩) (.slice none 0 0) (.slice (some ⟨w5.heap.size, 0, none⟩) 1 1)) (.mk 3 [] [] [] [makeFu S.data.toList fu r]) (.agg #[.int .i64 3, .string ⟨#[]⟩, .string ⟨#[]⟩, .slice none 0 0, .slice (some ⟨w5.heap.size, 0, none⟩) 1 1]) := by
          refine mkHold (k := 3) (l := [makeFu S.data.toList fu r]) (a := some ⟨w5.heap.size, 0, none⟩) (c := 1) (by decide) (by show 1 ≤ maxLen; decide) ?_
          obtain ⟨g0, g1, g2, g3, g4⟩ := fl_cells HZ5.out
          have h1 : w5.heap.size ≠ w.heap.size := by omega
          have h2 : w5.heap.size ≠ A1.heap.size := by omega
          refine ⟨⟨w5.heap.size, 0, _, _, _, _, _, rfl, ⟨by omega, by rw [set5F_size, hz6]; exact hlt5⟩, (fl_setC h1).trans ((hne _ _ h2).trans g0), (fl_setC h1).trans ((hne _ _ h2).trans g1), (fl_setC h1).trans ((hne _ _ h2).trans g2), (fl_setC h1).trans ((hne _ _ h2).trans g3), (fl_setC h1).trans ((hne _ _ h2).trans g4), ?_⟩, trivial⟩
          exact HNew.out.imp (fun b h => ⟨by have := h.1; omega, by rw [set5F_size, hz6]; have := h.2; omega⟩) (fun b o h => (fl_setC (by have := h.1; omega)).trans ((hne _ _ (by have := h.1; omega)).trans (HB55.out.cell (p := ⟨b, o, none⟩) h.2)))
        have HRes := Lib.hid hres
        have HBb := Lib.hid hb6
        obtain ⟨u0, u1, u2, u3, u4⟩ := fl_cells x6
        obtain ⟨d0, d1, d2, d3, d4⟩ := fl_cells x0
        obtain ⟨q0, q1, q2, q3, q4⟩ := fl_frozen x0
        obtain ⟨r0, r1, r2, r3, r4⟩ := fl_cells (fl_set x0 (.int .i64 3) (.string ⟨#[]⟩) (.string ⟨#[]⟩) (.slice none 0 0) (.slice (some ⟨w5.heap.size, 0, none⟩) 1 1))
        unfold set5F at r0 r1 r2 r3 r4
        clear hzB hW6 x6 x0 hz6 hne hb6 hres p0 p1 p2 p3 p4 f0 f1 f2 f3 f4
        go_wp2
        have hbz := fl_setB HBb.out (Nat.le_refl w.heap.size) (.int .i64 3) (.string ⟨#[]⟩) (.string ⟨#[]⟩) (.slice none 0 0) (.slice (some ⟨w5.heap.size, 0, none⟩) 1 1)
        refine bodyPost_ret (v := .agg #[.int .i64 3, .string ⟨#[]⟩, .string ⟨#[]⟩, .slice none 0 0, .slice (some ⟨w5.heap.size, 0, none⟩) 1 1]) (by simp [results, Tryz.results8, go_sem, r0, r1, r2, r3, r4]) rfl ⟨_, rfl, ?_, hbz⟩
        exact HRes.out
    · have t1 : decide ((j : Int) < (rl : Int)) = false := by simp; omega
      have t1' : decide ((j : Int) + 1 < (rl : Int) + 1) = false := by simp; omega
      obtain ⟨hz, hb6, ⟨xs, hown, hels⟩, hbel⟩ := HM.out
      obtain ⟨y0, y1, y2, hv⟩ := ownsRow_sliceF hown
      subst hv
      obtain ⟨c0, c1, c2, c3, c4⟩ := fl_cells hb6
      have hkb : ∀ w2, Below w.heap.size w w2 → Calls Tryz.prog 8 #[.slice (some ⟨b, off + 1, none⟩) rl (cap - 1), .string S] w2 fun e w' => ∃ v, e = .returned v ∧ IsFl (fun b => w2.heap.size ≤ b ∧ b < w'.heap.size) w' (makeFu S.data.toList fu r) v ∧ Below w2.heap.size w2 w' := by
        intro w2 hb2
        rw [HRl.out]
        refine HIh.out r _ _ w2 HFu.out ⟨by have := HRl.out; omega, by unfold maxLen; omega, .inr ⟨b, off + 1, rfl, Nat.lt_of_lt_of_le HBl.out hb2.size, fun i hi => ?_⟩⟩
        have hx2 : i + 1 < (c :: r).length := by simpa using hi
        have := (hb2.cell (p := ⟨b, off + (i + 1), none⟩) HBl.out).trans (HCells.out (i + 1) hx2)
        rw [show off + 1 + i = off + (i + 1) from by omega]; exact this
      have HKb := Lib.hid hkb
      have HBel := Lib.hid hbel
      have HB6 := Lib.hid hb6
      have HZz := Lib.hid hz
      have HSz2 := HSz
      clear hz hb6 hown hels hbel hkb
      by_cases hc1 : cap = 1
      · have hr0 : rl = 0 := by omega
        subst hc1
        have hre : r = [] := List.eq_nil_of_length_eq_zero (by rw [← HRl.out]; exact hr0)
        have hkz : ∀ w2, Calls Tryz.prog 8 #[.slice (some ⟨b, off, none⟩) 0 0, .string S] w2 fun e w' => ∃ v, e = .returned v ∧ IsFl (fun b => w2.heap.size ≤ b ∧ b < w'.heap.size) w' (makeFu S.data.toList fu r) v ∧ Below w2.heap.size w2 w' := by
          intro w2
          rw [hre]
          exact HIh.out [] _ _ w2 (Nat.zero_le _) ⟨Nat.le_refl _, Nat.zero_le _, .inl rfl⟩
        have HKz := Lib.hid hkz
        subst hr0
        clear hkz hre
        go_upto_region 24 with (go_at_call 8; refine (HKz.out _).mono ?_; rintro e w5 ⟨v5, rfl, hnew, hb5⟩; (obtain ⟨kk0, kT0, kX0, kpa, kpn, kpc, kka, kkn, kkc, hsh⟩ := hnew.shape); subst hsh; (obtain ⟨W5, hW5⟩ : ∃ W, w5.alloc (.cells #[.int .i64 kk0, .string kT0, .string kX0, .slice kpa kpn kpc, .slice kka kkn kkc] 31) = W := ⟨_, rfl⟩); have hb55 : Below w5.heap.size w5 W5 := (by rw [← hW5]; exact box5 w5 _ _ _ _ _); have hz5 : FlAt W5 w5.heap.size (.int .i64 kk0) (.string kT0) (.string kX0) (.slice kpa kpn kpc) (.slice kka kkn kkc) := (by rw [← hW5]; exact heap_alloc_new w5 _); have hx6 := fl_below HB6.out (bthen hb5 hb55) (fl_lt HB6.out); have hx0 := fl_below HZz.out (bthen hb5 hb55) (fl_lt HZz.out); (obtain ⟨p0, p1, p2, p3, p4⟩ := fl_cells hx6); (obtain ⟨f0, f1, f2, f3, f4⟩ := fl_frozen hx6); have HNew := Lib.hid hnew; have HB5 := Lib.hid hb5; have HB55 := Lib.hid hb55; have HZ5 := Lib.hid hz5; have HX6 := Lib.hid hx6; have HX0 := Lib.hid hx0; clear hnew hb5 hb55 hz5 hx6 hx0)
        obtain ⟨W6, hW6⟩ : ∃ W, W5.setCell ⟨A1.heap.size, 4, none⟩ (.slice (some ⟨w5.heap.size, 0, none⟩) 1 1) = W := ⟨_, rfl⟩
        rw [hW6]
        have hlt5 : w5.heap.size < W5.heap.size := fl_lt HZ5.out
        have hs5 := HB5.out.size
        have hsz4 := HSz2.out
        have hzB := HZ1.out
        have x6 : FlAt W6 A1.heap.size (.int .i64 3) (.string ⟨#[]⟩) (.string ⟨#[]⟩) (.slice none 0 0) (.slice (some ⟨w5.heap.size, 0, none⟩) 1 1) := by rw [← hW6]; exact fl_set4 HX6.out _
        have x0 : FlAt W6 w.heap.size (.int .i64 0) (.string ⟨#[]⟩) (.string ⟨#[]⟩) (.slice none 0 0) (.slice none 0 0) := by rw [← hW6]; exact (blockFl_ne _ ⟨A1.heap.size, 4, none⟩ _ (by show w.heap.size ≠ A1.heap.size; omega)).trans HX0.out
        have hz6 : W6.heap.size = W5.heap.size := by rw [← hW6, World.size_setCell]
        have hne : ∀ b o, b ≠ A1.heap.size → W6.cell? ⟨b, o, none⟩ = W5.cell? ⟨b, o, none⟩ := fun b o h => by rw [← hW6]; exact World.cell?_of_block (a := ⟨b, o, none⟩) (heap_setCell_other _ _ _ _ h)
        have hb6 : Below w.heap.size w W6 := by rw [← hW6]; exact (HBel.out.trans ((bthen HB5.out HB55.out).mono HBel.out.size)).setCell (p := ⟨A1.heap.size, 4, none⟩) (by show w.heap.size ≤ A1.heap.size; omega) _
        have hres : IsFl (fun b => w.heap.size ≤ b ∧ b < (set5F W6 w.heap.size (.int .i64 3) (.string ⟨#[]⟩) (.string ⟨#[]⟩) (.slice none 0 0) (.slice (some ⟨w5.heap.size, 0, none⟩) 1 1)).heap.size) (set5F W6 w.heap.size (.int .i64 3) (.string ⟨#[]⟩) (.string ⟨#[]⟩) (.slice none 0 0) (.slice (some ⟨w5.heap.size, 0, none⟩) 1 1)) (.mk 3 [] [] [] [makeFu S.data.toList fu r]) (.agg #[.int .i64 3, .string ⟨#[]⟩, .string ⟨#[]⟩, .slice none 0 0, .slice (some ⟨w5.heap.size, 0, none⟩) 1 1]) := by
          refine mkHold (k := 3) (l := [makeFu S.data.toList fu r]) (a := some ⟨w5.heap.size, 0, none⟩) (c := 1) (by decide) (by show 1 ≤ maxLen; decide) ?_
          obtain ⟨g0, g1, g2, g3, g4⟩ := fl_cells HZ5.out
          have h1 : w5.heap.size ≠ w.heap.size := by omega
          have h2 : w5.heap.size ≠ A1.heap.size := by omega
          refine ⟨⟨w5.heap.size, 0, _, _, _, _, _, rfl, ⟨by omega, by rw [set5F_size, hz6]; exact hlt5⟩, (fl_setC h1).trans ((hne _ _ h2).trans g0), (fl_setC h1).trans ((hne _ _ h2).trans g1), (fl_setC h1).trans ((hne _ _ h2).trans g2), (fl_setC h1).trans ((hne _ _ h2).trans g3), (fl_setC h1).trans ((hne _ _ h2).trans g4), ?_⟩, trivial⟩
          exact HNew.out.imp (fun b h => ⟨by have := h.1; omega, by rw [set5F_size, hz6]; have := h.2; omega⟩) (fun b o h => (fl_setC (by have := h.1; omega)).trans ((hne _ _ (by have := h.1; omega)).trans (HB55.out.cell (p := ⟨b, o, none⟩) h.2)))
        have HRes := Lib.hid hres
        have HBb := Lib.hid hb6
        obtain ⟨u0, u1, u2, u3, u4⟩ := fl_cells x6
        obtain ⟨d0, d1, d2, d3, d4⟩ := fl_cells x0
        obtain ⟨q0, q1, q2, q3, q4⟩ := fl_frozen x0
        obtain ⟨r0, r1, r2, r3, r4⟩ := fl_cells (fl_set x0 (.int .i64 3) (.string ⟨#[]⟩) (.string ⟨#[]⟩) (.slice none 0 0) (.slice (some ⟨w5.heap.size, 0, none⟩) 1 1))
        unfold set5F at r0 r1 r2 r3 r4
        clear hzB hW6 x6 x0 hz6 hne hb6 hres p0 p1 p2 p3 p4 f0 f1 f2 f3 f4
        go_wp2
        have hbz := fl_setB HBb.out (Nat.le_refl w.heap.size) (.int .i64 3) (.string ⟨#[]⟩) (.string ⟨#[]⟩) (.slice none 0 0) (.slice (some ⟨w5.heap.size, 0, none⟩) 1 1)
        refine bodyPost_ret (v := .agg #[.int .i64 3, .string ⟨#[]⟩, .string ⟨#[]⟩, .slice none 0 0, .slice (some ⟨w5.heap.size, 0, none⟩) 1 1]) (by simp [results, Tryz.results8, go_sem, r0, r1, r2, r3, r4]) rfl ⟨_, rfl, ?_, hbz⟩
        exact HRes.out
      · go_upto_region 24 with (go_at_call 8; refine (HKb.out _ HBel.out).mono ?_; rintro e w5 ⟨v5, rfl, hnew, hb5⟩; (obtain ⟨kk0, kT0, kX0, kpa, kpn, kpc, kka, kkn, kkc, hsh⟩ := hnew.shape); subst hsh; (obtain ⟨W5, hW5⟩ : ∃ W, w5.alloc (.cells #[.int .i64 kk0, .string kT0, .string kX0, .slice kpa kpn kpc, .slice kka kkn kkc] 31) = W := ⟨_, rfl⟩); have hb55 : Below w5.heap.size w5 W5 := (by rw [← hW5]; exact box5 w5 _ _ _ _ _); have hz5 : FlAt W5 w5.heap.size (.int .i64 kk0) (.string kT0) (.string kX0) (.slice kpa kpn kpc) (.slice kka kkn kkc) := (by rw [← hW5]; exact heap_alloc_new w5 _); have hx6 := fl_below HB6.out (bthen hb5 hb55) (fl_lt HB6.out); have hx0 := fl_below HZz.out (bthen hb5 hb55) (fl_lt HZz.out); (obtain ⟨p0, p1, p2, p3, p4⟩ := fl_cells hx6); (obtain ⟨f0, f1, f2, f3, f4⟩ := fl_frozen hx6); have HNew := Lib.hid hnew; have HB5 := Lib.hid hb5; have HB55 := Lib.hid hb55; have HZ5 := Lib.hid hz5; have HX6 := Lib.hid hx6; have HX0 := Lib.hid hx0; clear hnew hb5 hb55 hz5 hx6 hx0)
        obtain ⟨W6, hW6⟩ : ∃ W, W5.setCell ⟨A1.heap.size, 4, none⟩ (.slice (some ⟨w5.heap.size, 0, none⟩) 1 1) = W := ⟨_, rfl⟩
        rw [hW6]
        have hlt5 : w5.heap.size < W5.heap.size := fl_lt HZ5.out
        have hs5 := HB5.out.size
        have hsz4 := HSz2.out
        have hzB := HZ1.out
        have x6 : FlAt W6 A1.heap.size (.int .i64 3) (.string ⟨#[]⟩) (.string ⟨#[]⟩) (.slice none 0 0) (.slice (some ⟨w5.heap.size, 0, none⟩) 1 1) := by rw [← hW6]; exact fl_set4 HX6.out _
        have x0 : FlAt W6 w.heap.size (.int .i64 0) (.string ⟨#[]⟩) (.string ⟨#[]⟩) (.slice none 0 0) (.slice none 0 0) := by rw [← hW6]; exact (blockFl_ne _ ⟨A1.heap.size, 4, none⟩ _ (by show w.heap.size ≠ A1.heap.size; omega)).trans HX0.out
        have hz6 : W6.heap.size = W5.heap.size := by rw [← hW6, World.size_setCell]
        have hne : ∀ b o, b ≠ A1.heap.size → W6.cell? ⟨b, o, none⟩ = W5.cell? ⟨b, o, none⟩ := fun b o h => by rw [← hW6]; exact World.cell?_of_block (a := ⟨b, o, none⟩) (heap_setCell_other _ _ _ _ h)
        have hb6 : Below w.heap.size w W6 := by rw [← hW6]; exact (HBel.out.trans ((bthen HB5.out HB55.out).mono HBel.out.size)).setCell (p := ⟨A1.heap.size, 4, none⟩) (by show w.heap.size ≤ A1.heap.size; omega) _
        have hres : IsFl (fun b => w.heap.size ≤ b ∧ b < (set5F W6 w.heap.size (.int .i64 3) (.string ⟨#[]⟩) (.string ⟨#[]⟩) (.slice none 0 0) (.slice (some ⟨w5.heap.size, 0, none⟩) 1 1)).heap.size) (set5F W6 w.heap.size (.int .i64 3) (.string ⟨#[]⟩) (.string ⟨#[]⟩) (.slice none 0 0) (.slice (some ⟨w5.heap.size, 0, none⟩) 1 1)) (.mk 3 [] [] [] [makeFu S.data.toList fu r]) (.agg #[.int .i64 3, .string ⟨#[]⟩, .string ⟨#[]⟩, .slice none 0 0, .slice (some ⟨w5.heap.size, 0, none⟩) 1 1]) := by
          refine mkHold (k := 3) (l := [makeFu S.data.toList fu r]) (a := some ⟨w5.heap.size, 0, none⟩) (c := 1) (by decide) (by show 1 ≤ maxLen; decide) ?_
          obtain ⟨g0, g1, g2, g3, g4⟩ := fl_cells HZ5.out
          have h1 : w5.heap.size ≠ w.heap.size := by omega
          have h2 : w5.heap.size ≠ A1.heap.size := by omega
          refine ⟨⟨w5.heap.size, 0, _, _, _, _, _, rfl, ⟨by omega, by rw [set5F_size, hz6]; exact hlt5⟩, (fl_setC h1).trans ((hne _ _ h2).trans g0), (fl_setC h1).trans ((hne _ _ h2).trans g1), (fl_setC h1).trans ((hne _ _ h2).trans g2), (fl_setC h1).trans ((hne _ _ h2).trans g3), (fl_setC h1).trans ((hne _ _ h2).trans g4), ?_⟩, trivial⟩
          exact HNew.out.imp (fun b h => ⟨by have := h.1; omega, by rw [set5F_size, hz6]; have := h.2; omega⟩) (fun b o h => (fl_setC (by have := h.1; omega)).trans ((hne _ _ (by have := h.1; omega)).trans (HB55.out.cell (p := ⟨b, o, none⟩) h.2)))
        have HRes := Lib.hid hres
        have HBb := Lib.hid hb6
        obtain ⟨u0, u1, u2, u3, u4⟩ := fl_cells x6
        obtain ⟨d0, d1, d2, d3, d4⟩ := fl_cells x0
        obtain ⟨q0, q1, q2, q3, q4⟩ := fl_frozen x0
        obtain ⟨r0, r1, r2, r3, r4⟩ := fl_cells (fl_set x0 (.int .i64 3) (.string ⟨#[]⟩) (.string ⟨#[]⟩) (.slice none 0 0) (.slice (some ⟨w5.heap.size, 0, none⟩) 1 1))
        unfold set5F at r0 r1 r2 r3 r4
        clear hzB hW6 x6 x0 hz6 hne hb6 hres p0 p1 p2 p3 p4 f0 f1 f2 f3 f4
        go_wp2
        have hbz := fl_setB HBb.out (Nat.le_refl w.heap.size) (.int .i64 3) (.string ⟨#[]⟩) (.string ⟨#[]⟩) (.slice none 0 0) (.slice (some ⟨w5.heap.size, 0, none⟩) 1 1)
        refine bodyPost_ret (v := .agg #[.int .i64 3, .string ⟨#[]⟩, .string ⟨#[]⟩, .slice none 0 0, .slice (some ⟨w5.heap.size, 0, none⟩) 1 1]) (by simp [results, Tryz.results8, go_sem, r0, r1, r2, r3, r4]) rfl ⟨_, rfl, ?_, hbz⟩
        exact HRes.out
end Go.Proofs.YtmilgbkkibahlaaGreatDoor

