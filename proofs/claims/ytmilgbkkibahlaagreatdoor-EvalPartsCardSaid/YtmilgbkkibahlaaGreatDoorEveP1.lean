/- Several texts in one file: EvDocP, EvNotP, EvPaP, EvSome, FiRead, EnOwn, FiMem, FiType, FiMay, EvMade, MaKeyP, FiMayW, FiText, FiOne, FiVal, FiIxA, FiLib, FiWrite, FiAsk, EvPrt, EnSame, FiSamR. -/
import Derived.Test.YtmilgbkkibahlaaGreatDoorEvPure
import Derived.Lib.IndexLaws
import Derived.Lib.IndexMore
import Derived.Test.YtmilgbkkibahlaaGreatDoorDnFoldP
import Derived.Test.YtmilgbkkibahlaaGreatDoorFiPure
import Derived.Test.YtmilgbkkibahlaaGreatDoorEnFind
import Derived.Deep.AppendLies
import Derived.Deep.RegionLaw
import Derived.Test.YtmilgbkkibahlaaGreatDoorDnType
import Derived.Deep.Cut
import Derived.Test.YtmilgbkkibahlaaGreatDoorDnLib
import Derived.Test.YtmilgbkkibahlaaGreatDoorMaPure
import Derived.Test.YtmilgbkkibahlaaGreatDoorDnText
import Derived.BigQuiet
import Derived.Deep.QuietTactic
import Derived.Test.YtmilgbkkibahlaaGreatDoorDnUp
import Derived.Test.YtmilgbkkibahlaaGreatDoorShelf
import Derived.Lib.IndexAny
import Derived.Lib.OthersKept
import Derived.Deep.LoopGhost
import Derived.Test.YtmilgbkkibahlaaGreatDoorDnTextW
import Derived.Test.YtmilgbkkibahlaaGreatDoorEvLess
import Derived.RegionTactic
import Derived.Test.YtmilgbkkibahlaaGreatDoorEnRead
import Derived.Deep.RegionHeld3
namespace Go.Proofs.YtmilgbkkibahlaaGreatDoor
set_option linter.unusedVariables false
set_option linter.unusedSimpArgs false

theorem cutO_hit {s x : List UInt8} {i : Nat} (h : ∀ j, j < i → (s.drop j).take x.length ≠ x) (hi : i + x.length ≤ s.length) (ho : (s.drop i).take x.length = x) : Lib.cut s x = (s.take i, s.drop (i + x.length), true) := by
  have hno : Lib.NoOcc s x i := fun j hj => by rw [Lib.occAt_iff_take s x j (by omega)]; simpa using h j hj
  have hx := Lib.index_hit hno (by omega) (by rw [Lib.occAt_iff_take s x i hi]; simpa using ho)
  unfold Lib.cut
  rw [hx]
  simp
theorem cutO_past {s x : List UInt8} {i : Nat} (hx : x ≠ []) (h : ∀ j, j < i → j + x.length ≤ s.length → (s.drop j).take x.length ≠ x) (hi : s.length < i + x.length) : (Lib.cut s x).2.2 = false := by
  have hno : Lib.NoOcc s x i := fun j hj => by
    by_cases hr : j + x.length ≤ s.length
    · rw [Lib.occAt_iff_take s x j hr]; simpa using h j hj hr
    · cases ho : Lib.occAt s x j with
      | false => rfl
      | true =>
        rcases Lib.occAt_room ho with h1 | h1
        · exact absurd h1 hr
        · exact absurd h1 hx
  have := Lib.index_past hx hno hi
  unfold Lib.cut
  rw [this]
  rfl
def endsO (n a b : List UInt8) : Bool := decide (a.length + b.length ≤ n.length) && (n.take a.length == a) && (n.drop (n.length - b.length) == b)
theorem prefix_iff (n a : List UInt8) : Lib.hasPrefix n a = true ↔ a.length ≤ n.length ∧ n.take a.length = a := by
  unfold Lib.hasPrefix
  rw [List.isPrefixOf_iff_prefix, List.prefix_iff_eq_take]
  constructor
  · intro h
    have := congrArg List.length h
    rw [List.length_take] at this
    exact ⟨by omega, h.symm⟩
  · rintro ⟨_, h⟩
    exact h.symm
theorem suffix_iff (n b : List UInt8) : Lib.hasSuffix n b = true ↔ b.length ≤ n.length ∧ n.drop (n.length - b.length) = b := by
  unfold Lib.hasSuffix
  rw [List.isSuffixOf_iff_suffix, List.suffix_iff_eq_drop]
  constructor
  · intro h
    have := congrArg List.length h
    rw [List.length_drop] at this
    exact ⟨by omega, h.symm⟩
  · rintro ⟨_, h⟩
    exact h.symm
theorem endsO_eq (n a b : List UInt8) : (Lib.hasPrefix n a && Lib.hasSuffix (Lib.trimPrefix n a) b) = endsO n a b := by
  rw [Bool.eq_iff_iff]
  unfold endsO
  simp only [Bool.and_eq_true, decide_eq_true_eq, beq_iff_eq]
  constructor
  · rintro ⟨h1, h2⟩
    obtain ⟨h3, h4⟩ := (prefix_iff n a).1 h1
    have ht : Lib.trimPrefix n a = n.drop a.length := by unfold Lib.trimPrefix; rw [if_pos h1]
    rw [ht] at h2
    obtain ⟨h5, h6⟩ := (suffix_iff _ b).1 h2
    rw [List.length_drop] at h5 h6
    rw [List.drop_drop, show a.length + (n.length - a.length - b.length) = n.length - b.length from by omega] at h6
    exact ⟨⟨by omega, h4⟩, h6⟩
  · rintro ⟨⟨h1, h2⟩, h3⟩
    have hp := (prefix_iff n a).2 ⟨by omega, h2⟩
    have ht : Lib.trimPrefix n a = n.drop a.length := by unfold Lib.trimPrefix; rw [if_pos hp]
    refine ⟨hp, ?_⟩
    rw [ht, suffix_iff, List.length_drop, List.drop_drop, show a.length + (n.length - a.length - b.length) = n.length - b.length from by omega]
    exact ⟨by omega, h3⟩
theorem endsO_rest {n a b : List UInt8} (h : endsO n a b = true) : Lib.trimSuffix (Lib.trimPrefix n a) b = (n.drop a.length).take (n.length - b.length - a.length) := by
  rw [← endsO_eq, Bool.and_eq_true] at h
  have ht : Lib.trimPrefix n a = n.drop a.length := by unfold Lib.trimPrefix; rw [if_pos h.1]
  unfold Lib.trimSuffix
  rw [if_pos h.2, ht, List.length_drop, show n.length - a.length - b.length = n.length - b.length - a.length from by omega]
theorem madeO_ends (n : List UInt8) (p : List (List UInt8)) : madeO n p = (endsO n (p.getD 0 []) (p.getD (p.length - 1) []) && midO ((n.drop (p.getD 0 []).length).take (n.length - (p.getD (p.length - 1) []).length - (p.getD 0 []).length)) ((p.drop 1).take (p.length - 2))) := by
  unfold madeO
  rw [endsO_eq]
  cases h : endsO n (p.getD 0 []) (p.getD (p.length - 1) []) with
  | false => rfl
  | true => rw [endsO_rest h]
end Go.Proofs.YtmilgbkkibahlaaGreatDoor


namespace Go.Proofs.YtmilgbkkibahlaaGreatDoor
set_option linter.unusedVariables false
set_option linter.unusedSimpArgs false

def notF (f : FT) : FT := .mk 3 [] [] [] [f]
def bothF (k : Int) (l : List FT) : FT := .mk k [] [] [] l
theorem evalD_may {L : List AT} {f : FT} (h : mayF 13 f = true) : evalD L f = evF L f := by
  unfold evalD
  rw [if_pos h]
end Go.Proofs.YtmilgbkkibahlaaGreatDoor


namespace Go.Proofs.YtmilgbkkibahlaaGreatDoor
set_option linter.unusedVariables false
set_option linter.unusedSimpArgs false

theorem foldl_on (S : List UInt8) : ∀ (l T : List UInt8) (g : Bool), T ≠ [] → l.foldl fstep (S ++ T, g) = (S ++ (l.foldl fstep (T, g)).1, (l.foldl fstep (T, g)).2)
  | [], T, g, _ => rfl
  | c :: l, T, g, hT => by
    simp only [List.foldl_cons]
    by_cases hc : c.toNat = 32
    · rw [fstep_blank _ _ hc, fstep_blank _ _ hc]
      have h1 : (S ++ T).isEmpty = false := by cases T with | nil => exact absurd rfl hT | cons x r => simp
      have h2 : T.isEmpty = false := by cases T with | nil => exact absurd rfl hT | cons x r => simp
      simp only [h1, h2]
      exact foldl_on S l T _ hT
    · rw [fstep_other _ _ hc, fstep_other _ _ hc]
      simp only [List.append_assoc]
      exact foldl_on S l (T ++ ((if g = true then [32] else []) ++ [lowC c])) false (by simp)
def tidyL (b : List UInt8) : Prop := frun b = (b, false) ∧ ∀ c, b.head? = some c → c.toNat ≠ 32
theorem tidy_on {b : List UInt8} (h : tidyL b) (S : List UInt8) : b.foldl fstep (S, false) = (S ++ b, false) := by
  cases b with
  | nil => simp
  | cons c r =>
    have hc := h.2 c rfl
    have h1 : r.foldl fstep ([lowC c], false) = (c :: r, false) := by
      have := h.1
      unfold frun at this
      rw [List.foldl_cons, fstep_other _ _ hc] at this
      simpa using this
    rw [List.foldl_cons, fstep_other _ _ hc]
    have h2 := foldl_on S r [lowC c] false (by simp)
    rw [h1] at h2
    simpa using h2
theorem tidy_app {a b : List UInt8} (ha : tidyL a) (hb : tidyL b) : tidyL (a ++ b) := by
  refine ⟨?_, fun c h => ?_⟩
  · unfold frun
    rw [List.foldl_append, show a.foldl fstep ([], false) = (a, false) from ha.1]
    exact tidy_on hb a
  · cases a with
    | nil => exact hb.2 c h
    | cons x r => exact ha.2 c h
theorem tidy_one {c : UInt8} (hc : c.toNat ≠ 32) (hl : lowC c = c) : tidyL [c] := by
  refine ⟨?_, fun d h => by simp at h; rw [← h]; exact hc⟩
  unfold frun
  rw [List.foldl_cons, fstep_other _ _ hc, hl]
  rfl
theorem tidy_fold (a : List UInt8) : tidyL (fold a) := by
  refine ⟨frun_again a, fun c h => ?_⟩
  intro hc
  rw [List.head?_eq_getElem?] at h
  have := (fold_spaced a 0 c h hc).1
  omega
theorem low_frun (l : List UInt8) : low (frun l).1 = (frun l).1 := by
  refine snoc_ind (P := fun l => low (frun l).1 = (frun l).1) rfl (fun l c ih => ?_) l
  rw [frun_snoc]
  by_cases hc : c.toNat = 32
  · rw [fstep_blank _ _ hc]; exact ih
  · rw [fstep_other _ _ hc, low_append, low_append, ih, low_one, lowC_low]
    congr 2
    cases (frun l).2 <;> rfl
def pieceL (h : UInt8) (a : List UInt8) (t : UInt8) : List UInt8 := h :: (fold a ++ [t])
theorem piece_len (h t : UInt8) (a : List UInt8) : (pieceL h a t).length = (fold a).length + 2 := by unfold pieceL; simp
theorem tidy_piece {h t : UInt8} (a : List UInt8) (h1 : h.toNat ≠ 32) (h2 : lowC h = h) (t1 : t.toNat ≠ 32) (t2 : lowC t = t) : tidyL (pieceL h a t) := by
  have := tidy_app (tidy_app (tidy_one h1 h2) (tidy_fold a)) (tidy_one t1 t2)
  simpa [pieceL] using this
theorem low_piece (h t : UInt8) (a : List UInt8) (h2 : lowC t = t) : low (pieceL h a t) = pieceL (lowC h) a t := by
  unfold pieceL
  show lowC h :: low (fold a ++ [t]) = _
  rw [low_append, show low (fold a) = fold a from low_frun a, low_one, h2]
theorem exists_min {P : Nat → Prop} : (∃ n, P n) → ∃ n, P n ∧ ∀ m, m < n → ¬ P m := by
  rintro ⟨n, hn⟩
  induction n using Nat.strongRecOn with
  | ind n ih =>
    by_cases h : ∃ m, m < n ∧ P m
    · obtain ⟨m, h1, h2⟩ := h
      exact ih m h1 h2
    · exact ⟨n, hn, fun m h1 h2 => h ⟨m, h1, h2⟩⟩
theorem cut_cases (s : List UInt8) {x : List UInt8} (hx : x ≠ []) : ((Lib.cut s x).2.2 = false ∧ ∀ i, i + x.length ≤ s.length → (s.drop i).take x.length ≠ x) ∨ ∃ i, i + x.length ≤ s.length ∧ (s.drop i).take x.length = x ∧ Lib.cut s x = (s.take i, s.drop (i + x.length), true) := by
  by_cases h : ∃ i, i + x.length ≤ s.length ∧ (s.drop i).take x.length = x
  · obtain ⟨i, ⟨h1, h2⟩, h3⟩ := exists_min h
    exact .inr ⟨i, h1, h2, cutO_hit (fun j hj he => h3 j hj ⟨by omega, he⟩) h1 h2⟩
  · have h' : ∀ i, i + x.length ≤ s.length → (s.drop i).take x.length ≠ x := fun i h1 h2 => h ⟨i, h1, h2⟩
    exact .inl ⟨cutO_past hx (i := s.length + 1) (fun j _ h1 => h' j h1) (by omega), h'⟩
theorem midO_go (x r : List UInt8) (l : List (List UInt8)) : midO (x ++ r) (x :: l) = midO r l := by
  have h := cutO_hit (s := x ++ r) (x := x) (i := 0) (fun j hj => absurd hj (by omega)) (by simp) (by simp)
  rw [midO, h]
  simp
theorem midO_in (a x r : List UInt8) (hx : x ≠ []) : midO (a ++ x ++ r) [x] = true := by
  rcases cut_cases (a ++ x ++ r) hx with ⟨_, h⟩ | ⟨i, _, _, h⟩
  · exact absurd (by simp) (h a.length (by simp <;> omega))
  · rw [midO, h]; rfl
theorem midO_no {y z : List UInt8} {c d : UInt8} {yr zr : List UInt8} (hy : y = c :: yr) (hz : z = d :: zr) (hcd : c ≠ d) : midO (y ++ z) [z, y] = false := by
  have hz0 : z ≠ [] := by rw [hz]; simp
  have hy0 : y ≠ [] := by rw [hy]; simp
  rcases cut_cases (y ++ z) hz0 with ⟨h, _⟩ | ⟨i, h1, h2, h⟩
  · rw [midO, h]; rfl
  · rw [midO, h]
    show (true && midO ((y ++ z).drop (i + z.length)) [y]) = false
    rcases cut_cases ((y ++ z).drop (i + z.length)) hy0 with ⟨k, _⟩ | ⟨j, k1, _, _⟩
    · rw [midO, k]; rfl
    · exfalso
      rw [List.length_drop, List.length_append] at k1
      rw [List.length_append] at h1
      have hi : i = 0 := by omega
      subst hi
      rw [List.drop_zero, hy, hz] at h2
      simp only [List.length_cons, List.cons_append, List.take_succ_cons, List.cons.injEq] at h2
      exact hcd h2.1
theorem endsO_mk (a m b : List UInt8) : endsO (a ++ m ++ b) a b = true := by
  unfold endsO
  simp only [Bool.and_eq_true, decide_eq_true_eq, beq_iff_eq]
  refine ⟨⟨by simp <;> omega, by simp⟩, ?_⟩
  rw [show (a ++ m ++ b).length - b.length = (a ++ m).length from by simp; omega]
  simp
theorem rest_mk (a m b : List UInt8) : ((a ++ m ++ b).drop a.length).take ((a ++ m ++ b).length - b.length - a.length) = m := by
  rw [List.append_assoc, List.drop_left, show (a ++ (m ++ b)).length - b.length - a.length = m.length from by simp; omega]
  simp
theorem endsO_of {n a b : List UInt8} (h : endsO n a b = true) : ∃ m, n = a ++ m ++ b := by
  unfold endsO at h
  simp only [Bool.and_eq_true, decide_eq_true_eq, beq_iff_eq] at h
  obtain ⟨⟨h1, h2⟩, h3⟩ := h
  refine ⟨(n.drop a.length).take (n.length - b.length - a.length), ?_⟩
  have e1 : n.take (n.length - b.length) = a ++ (n.drop a.length).take (n.length - b.length - a.length) := by
    rw [show n.length - b.length = a.length + (n.length - b.length - a.length) from by omega, List.take_add, h2]
    congr 2
    omega
  have e2 := List.take_append_drop (n.length - b.length) n
  rw [h3, e1] at e2
  exact e2.symm
theorem made_mk {a m b : List UInt8} {p : List (List UInt8)} (h0 : p.getD 0 [] = a) (h1 : p.getD (p.length - 1) [] = b) (n : List UInt8) (hn : n = a ++ m ++ b) : madeO n p = midO m ((p.drop 1).take (p.length - 2)) := by
  subst hn
  rw [madeO_ends, h0, h1, endsO_mk, rest_mk]
  rfl
theorem made_no {a b : List UInt8} {p : List (List UInt8)} (h0 : p.getD 0 [] = a) (h1 : p.getD (p.length - 1) [] = b) (n : List UInt8) (hn : ∀ m, n ≠ a ++ m ++ b) : madeO n p = false := by
  rw [madeO_ends, h0, h1]
  cases e : endsO n a b with
  | false => rfl
  | true => obtain ⟨m, hm⟩ := endsO_of e; exact absurd hm (hn m)
def othL : List UInt8 := [111, 116, 104, 101, 114]
theorem ev_parts (V p : List (List UInt8)) (hp : okParts p = true) : evalD [([99, 110], V)] (.mk 5 [67, 78] [] p []) = if V.any (partsE 1 p) = true then 1 else 0 := by
  have hm : mayF 13 (.mk 5 [67, 78] [] p []) = true := by
    show (if holdsC 5 then _ else okLeaf 5 [67, 78] [] p 0) = true
    have h1 : okType [67, 78] = true := by decide
    simp [holdsC, okLeaf, h1, hp]
  rw [evalD_may hm, evF]
  have hr : ruleD [67, 78] = 1 := by decide +kernel
  have hf : findA [([99, 110], V)] [67, 78] = V := by
    unfold findA
    have : (low [99, 110] == low [67, 78]) = true := by decide
    simp only [List.find?_cons, this]
  unfold leafE askE fitE
  simp only [hr, hf]
  rfl
theorem normD_tidy {v : List UInt8} (h : tidyL v) (h0 : v ≠ []) (hl : v.length ≤ 100) : normD 1 v = some v := by
  unfold normD
  have hf : fold v = v := by unfold fold; rw [h.1]
  rw [if_neg (by rintro (h | h); exact h0 h; omega), if_pos rfl, hf, if_neg h0]
theorem tidy_oth : tidyL othL := by
  refine ⟨by decide, fun c h => ?_⟩
  simp [othL] at h
  rw [← h]; decide
theorem okP {p : List (List UInt8)} (h1 : 2 ≤ p.length) (h2 : p.length ≤ 8) (h3 : ∀ x ∈ p, x.length ≤ 100) (h4 : midNe (p.drop 1) = true) (h5 : 2 < p.length ∨ p.getD 0 [] ≠ [] ∨ p.getD (p.length - 1) [] ≠ []) : okParts p = true := by
  unfold okParts
  simp only [Bool.and_eq_true, Bool.or_eq_true, decide_eq_true_eq, List.all_eq_true, Bool.not_eq_true', List.isEmpty_eq_false_iff]
  exact ⟨⟨⟨⟨h1, h2⟩, h3⟩, h4⟩, by rcases h5 with h | h | h; exact .inl (.inl h); exact .inl (.inr h); exact .inr h⟩
theorem parts_all (a b c x z : List UInt8) (ha : a.length ≤ 20) (hb : b.length ≤ 20) (hc : c.length ≤ 20) (hx : low x = pieceL 120 a 49) (hz : low z = pieceL 122 c 51) :
    let Y := pieceL 121 b 50
    let E := fun p => evalD [([99, 110], [othL, pieceL 120 a 49 ++ Y ++ pieceL 122 c 51])] (.mk 5 [67, 78] [] p [])
    E [x, []] = 1 ∧ E [[], z] = 1 ∧ E [[], Y, []] = 1 ∧ E [x, Y, z] = 1 ∧ E [[], x, Y, z, []] = 1 ∧ E [x, z, Y, []] = 0 ∧ E [[], Y, z ++ [33]] = 0 ∧ E [x ++ Y, Y ++ z] = 0 := by
  intro Y E
  have la := fold_len a
  have lb := fold_len b
  have lc := fold_len c
  obtain ⟨X, hX⟩ : ∃ X, X = pieceL 120 a 49 := ⟨_, rfl⟩
  obtain ⟨Z, hZ⟩ : ∃ Z, Z = pieceL 122 c 51 := ⟨_, rfl⟩
  have hY : Y = pieceL 121 b 50 := rfl
  have tX : tidyL X := by rw [hX]; exact tidy_piece a (by decide) (by decide) (by decide) (by decide)
  have tY : tidyL Y := by rw [hY]; exact tidy_piece b (by decide) (by decide) (by decide) (by decide)
  have tZ : tidyL Z := by rw [hZ]; exact tidy_piece c (by decide) (by decide) (by decide) (by decide)
  have lX : X.length ≤ 22 := by rw [hX, piece_len]; omega
  have lY : Y.length ≤ 22 := by rw [hY, piece_len]; omega
  have lZ : Z.length ≤ 22 := by rw [hZ, piece_len]; omega
  have lY0 : 0 < Y.length := by rw [hY, piece_len]; omega
  have lx : x.length = X.length := by rw [hX, ← hx, low_length]
  have lz : z.length = Z.length := by rw [hZ, ← hz, low_length]
  have nX : X ≠ [] := by rw [hX]; simp [pieceL]
  have nY : Y ≠ [] := by rw [hY]; simp [pieceL]
  have nZ : Z ≠ [] := by rw [hZ]; simp [pieceL]
  have nx : x ≠ [] := by intro e; rw [e] at lx; exact nX (List.eq_nil_of_length_eq_zero lx.symm)
  have nz : z ≠ [] := by intro e; rw [e] at lz; exact nZ (List.eq_nil_of_length_eq_zero lz.symm)
  have lowY : low Y = Y := by rw [hY]; exact low_piece 121 50 b (by decide)
  rw [← hX] at hx
  rw [← hZ] at hz
  obtain ⟨N, hN⟩ : ∃ N, N = X ++ Y ++ Z := ⟨_, rfl⟩
  have nN : normD 1 N = some N := by
    refine normD_tidy (by rw [hN]; exact tidy_app (tidy_app tX tY) tZ) (by rw [hN]; simp [nX]) (by rw [hN]; simp; omega)
  have nO : normD 1 othL = some othL := normD_tidy tidy_oth (by decide) (by decide)
  have hE : ∀ p, okParts p = true → E p = if madeO othL (p.map low) = true ∨ madeO N (p.map low) = true then 1 else 0 := fun p hp => by
    show evalD [([99, 110], [othL, pieceL 120 a 49 ++ Y ++ pieceL 122 c 51])] (.mk 5 [67, 78] [] p []) = _
    rw [← hX, ← hZ, ← hN, ev_parts _ _ hp]
    simp only [List.any_cons, List.any_nil, Bool.or_false, partsE, nN, nO, Bool.or_eq_true]
  have hone : ∀ p, okParts p = true → madeO N (p.map low) = true → E p = 1 := fun p hp h => by rw [hE p hp, if_pos (.inr h)]
  have hnone : ∀ p, okParts p = true → madeO othL (p.map low) = false → madeO N (p.map low) = false → E p = 0 := fun p hp h1 h2 => by rw [hE p hp, if_neg (by rw [h1, h2]; simp)]
  have l0 : low [] = [] := rfl
  refine ⟨?_, ?_, ?_, ?_, ?_, ?_, ?_, ?_⟩
  · refine hone _ (okP (show 2 ≤ 2 by omega) (show 2 ≤ 8 by omega) (by intro s hs; simp at hs; rcases hs with rfl | rfl; omega; simp) rfl (.inr (.inl nx))) ?_
    simp only [List.map_cons, List.map_nil, hx, l0]
    rw [made_mk (a := X) (m := Y ++ Z) (b := []) rfl rfl N (by rw [hN]; simp)]
    rfl
  · refine hone _ (okP (show 2 ≤ 2 by omega) (show 2 ≤ 8 by omega) (by intro s hs; simp at hs; rcases hs with rfl | rfl; simp; omega) rfl (.inr (.inr nz))) ?_
    simp only [List.map_cons, List.map_nil, hz, l0]
    rw [made_mk (a := []) (m := X ++ Y) (b := Z) rfl rfl N (by rw [hN]; simp)]
    rfl
  · refine hone _ (okP (show 2 ≤ 3 by omega) (show 3 ≤ 8 by omega) (by intro s hs; simp at hs; rcases hs with rfl | rfl | rfl; simp; omega; simp) (by simp [midNe, nY]) (.inl (show 2 < 3 by omega))) ?_
    simp only [List.map_cons, List.map_nil, lowY, l0]
    rw [made_mk (a := []) (m := N) (b := []) rfl rfl N (by simp)]
    show midO N [Y] = true
    rw [hN]
    exact midO_in X Y Z nY
  · refine hone _ (okP (show 2 ≤ 3 by omega) (show 3 ≤ 8 by omega) (by intro s hs; simp at hs; rcases hs with rfl | rfl | rfl; omega; omega; omega) (by simp [midNe, nY]) (.inl (show 2 < 3 by omega))) ?_
    simp only [List.map_cons, List.map_nil, lowY, hx, hz]
    rw [made_mk (a := X) (m := Y) (b := Z) rfl rfl N hN]
    show midO Y [Y] = true
    have := midO_go Y [] []
    rw [List.append_nil] at this
    rw [this]; rfl
  · refine hone _ (okP (show 2 ≤ 5 by omega) (show 5 ≤ 8 by omega) (by intro s hs; simp at hs; rcases hs with rfl | rfl | rfl | rfl | rfl; simp; omega; omega; omega; simp) (by simp [midNe, nx, nY, nz]) (.inl (show 2 < 5 by omega))) ?_
    simp only [List.map_cons, List.map_nil, lowY, hx, hz, l0]
    rw [made_mk (a := []) (m := N) (b := []) rfl rfl N (by simp)]
    show midO N [X, Y, Z] = true
    rw [hN, List.append_assoc, midO_go, midO_go]
    have := midO_go Z [] []
    rw [List.append_nil] at this
    rw [this]; rfl
  · refine hnone _ (okP (show 2 ≤ 4 by omega) (show 4 ≤ 8 by omega) (by intro s hs; simp at hs; rcases hs with rfl | rfl | rfl | rfl; omega; omega; omega; simp) (by simp [midNe, nY, nz]) (.inl (show 2 < 4 by omega))) ?_ ?_
    · simp only [List.map_cons, List.map_nil, lowY, hx, hz, l0]
      refine made_no (a := X) (b := []) rfl rfl othL (fun m hm => ?_)
      rw [hX] at hm
      simp [othL, pieceL] at hm
    · simp only [List.map_cons, List.map_nil, lowY, hx, hz, l0]
      rw [made_mk (a := X) (m := Y ++ Z) (b := []) rfl rfl N (by rw [hN]; simp)]
      show midO (Y ++ Z) [Z, Y] = false
      exact midO_no (c := 121) (d := 122) (yr := fold b ++ [50]) (zr := fold c ++ [51]) hY hZ (by decide)
  · refine hnone _ (okP (show 2 ≤ 3 by omega) (show 3 ≤ 8 by omega) (by intro s hs; simp at hs; rcases hs with rfl | rfl | rfl; simp; omega; simp; omega) (by simp [midNe, nY]) (.inl (show 2 < 3 by omega))) ?_ ?_
    · simp only [List.map_cons, List.map_nil, lowY, low_append, hz, l0]
      refine made_no (a := []) (b := Z ++ low [33]) rfl rfl othL (fun m hm => ?_)
      have h1 : (othL.getLast?) = some 33 := by rw [hm]; simp [show low [33] = [33] from by decide]
      simp [othL] at h1
    · simp only [List.map_cons, List.map_nil, lowY, low_append, hz, l0]
      refine made_no (a := []) (b := Z ++ low [33]) rfl rfl N (fun m hm => ?_)
      have h1 : N.getLast? = some 33 := by rw [hm]; simp [show low [33] = [33] from by decide]
      rw [hN, hZ, show X ++ Y ++ pieceL 122 c 51 = (X ++ Y ++ (122 :: fold c)) ++ [51] from by simp [pieceL]] at h1
      exact absurd h1 (by rw [List.getLast?_concat]; decide)
  · refine hnone _ (okP (show 2 ≤ 2 by omega) (show 2 ≤ 8 by omega) (by intro s hs; simp at hs; rcases hs with rfl | rfl; simp; omega; simp; omega) rfl (.inr (.inl (by show x ++ Y ≠ []; simp [nx])))) ?_ ?_
    · simp only [List.map_cons, List.map_nil, lowY, low_append, hx, hz]
      refine made_no (a := X ++ Y) (b := Y ++ Z) rfl rfl othL (fun m hm => ?_)
      rw [hX] at hm
      simp [othL, pieceL] at hm
    · simp only [List.map_cons, List.map_nil, lowY, low_append, hx, hz]
      refine made_no (a := X ++ Y) (b := Y ++ Z) rfl rfl N (fun m hm => ?_)
      have h1 := congrArg List.length hm
      rw [hN] at h1
      simp at h1
      omega
end Go.Proofs.YtmilgbkkibahlaaGreatDoor


namespace Go.Proofs.YtmilgbkkibahlaaGreatDoor
open Go.RowKit
set_option linter.unusedVariables false
set_option linter.unusedSimpArgs false

set_option maxRecDepth 100000 in
set_option maxHeartbeats 2000000 in
theorem indexQG_any (L : List (List UInt8)) (hs : L.length ≤ 1000000) (v : Value) (b1 : Nat) (q : List UInt8 → Bool) (w : World) (h : IsT w.heap.size w L v)
    (HQ : ∀ (X : ByteArray) (W : World), Below w.heap.size w W → X.data.toList ∈ L → Calls Tryz.prog 46 #[.string X, .pointer (some ⟨b1, 0, none⟩)] W fun e w' => e = .returned (.bool (q X.data.toList)) ∧ Below W.heap.size W w') :
    Calls Tryz.prog 78 #[v, .func (.func 46) #[] #[.pointer (some ⟨b1, 0, none⟩)]] w fun e w' => ∃ I : Int, e = .returned (.int .i64 I) ∧ decide (0 ≤ I) = L.any q ∧ Below w.heap.size w w' := by
  obtain ⟨a, c, rfl, hm, hcell⟩ := h
  unfold maxLen at hm
  have HC := Lib.hid hcell
  have HQh := Lib.hid HQ
  clear hcell HQ
  go_enter Tryz.func78, Tryz.ntmps78
  go_wp2
  go_loopw [8] (fun i wr => ∃ j : Nat, j ≤ L.length ∧ i = .int .i64 j ∧ Hid (∀ k (hk : k < L.length), k < j → q L[k] = false) ∧ Below w.heap.size w wr) (fun i wr => L.length - (intOf i).toNat)
  case atStart => exact ⟨0, by omega, rfl, Lib.hid (fun k _ h => absurd h (by omega)), Below.refl _ _⟩
  case round =>
    obtain ⟨j, hj, rfl, HNo, hbel⟩ := hrel
    have HBel := Lib.hid hbel
    have hbs := hbel.size
    by_cases hlt : j < L.length
    · have t1 : decide ((j : Int) < (L.length : Int)) = true := by simp; omega
      have t1' : decide (j < L.length) = true := by simpa using hlt
      obtain ⟨b, off, rfl, hb0, c0⟩ := HC.out j hlt
      obtain ⟨X, hX⟩ : ∃ X : ByteArray, ⟨L[j].toArray⟩ = X := ⟨_, rfl⟩
      have hXl : X.data.toList = L[j] := by rw [← hX]
      have d0 : (wr.cell? ⟨b, off + j, none⟩) = some (.string X) := by
        rw [hbel.cell (p := ⟨b, _, none⟩) hb0, c0, ← hX]; rfl
      have hab := HQh.out X wr hbel (by rw [hXl]; exact List.getElem_mem _)
      rw [hXl] at hab
      obtain ⟨g, hg⟩ : ∃ g, q L[j] = g := ⟨_, rfl⟩
      rw [hg] at hab
      have HAb := Lib.hid hab
      have HG := Lib.hid hg
      clear hX hXl c0 hab hbel hg
      cases g with
      | true =>
        have HR : Hid (L.any q = true) := Lib.hid (List.any_eq_true.2 ⟨L[j], List.getElem_mem _, HG.out⟩)
        go_wp2_with (go_at_call 46; refine (HAb.out).mono ?_; rintro e w2 ⟨rfl, hb2⟩; have HB2 := Lib.hid (HBel.out.trans (hb2.mono hbs)); clear hb2)
        go_ret
        exact ⟨_, rfl, by rw [HR.out]; simp, HB2.out⟩
      | false =>
        have HN : Hid (∀ k (hk : k < L.length), k < j + 1 → q L[k] = false) := Lib.hid (fun k h1 h3 => by
            by_cases hk : k < j
            · exact HNo.out k h1 hk
            · obtain rfl : k = j := by omega
              exact HG.out)
        go_wp2_with (go_at_call 46; refine (HAb.out).mono ?_; rintro e w2 ⟨rfl, hb2⟩; have HB2 := Lib.hid (HBel.out.trans (hb2.mono hbs)); clear hb2)
        go_roundw
        case rel => exact ⟨j + 1, by omega, by go_num, HN, HB2.out⟩
        case measure => simp [intOf]; omega
    · obtain rfl : j = L.length := by omega
      have t1 : decide ((L.length : Int) < (L.length : Int)) = false := by simp
      have t1' : decide (L.length < L.length) = false := by simp
      have HR : Hid (L.any q = false) := Lib.hid (List.any_eq_false.2 (fun x hx => by
        obtain ⟨k, hk, rfl⟩ := List.getElem_of_mem hx
        simpa using HNo.out k hk hk))
      clear hbel
      go_wp2
      go_ret
      exact ⟨_, rfl, by rw [HR.out]; rfl, HBel.out⟩
set_option maxRecDepth 100000 in
set_option maxHeartbeats 2000000 in
theorem containsQG_any (L : List (List UInt8)) (hs : L.length ≤ 1000000) (v : Value) (b1 : Nat) (q : List UInt8 → Bool) (w : World) (h : IsT w.heap.size w L v)
    (HQ : ∀ (X : ByteArray) (W : World), Below w.heap.size w W → X.data.toList ∈ L → Calls Tryz.prog 46 #[.string X, .pointer (some ⟨b1, 0, none⟩)] W fun e w' => e = .returned (.bool (q X.data.toList)) ∧ Below W.heap.size W w') :
    Calls Tryz.prog 59 #[v, .func (.func 46) #[] #[.pointer (some ⟨b1, 0, none⟩)]] w fun e w' => e = .returned (.bool (L.any q)) ∧ Below w.heap.size w w' := by
  have hc := indexQG_any L hs v b1 q w h HQ
  obtain ⟨R, hR⟩ : ∃ R, R = L.any q := ⟨_, rfl⟩
  rw [← hR] at hc ⊢
  obtain ⟨sa, sc, hv, _⟩ := id h
  obtain ⟨sn, hsn⟩ : ∃ n, n = L.length := ⟨_, rfl⟩
  rw [← hsn] at hv
  subst hv
  have HC := Lib.hid hc
  clear hc hR hsn h HQ
  go_enter Tryz.func59, Tryz.ntmps59
  go_wp2_with (go_at_call 78; refine (HC.out).mono ?_; rintro e w2 ⟨I, rfl, hI, hb2⟩; have HB2 := Lib.hid hb2; clear hb2)
  go_ret
  exact ⟨rfl, HB2.out⟩

set_option maxRecDepth 100000 in
set_option maxHeartbeats 2000000 in
theorem indexQL_any (L : List (List UInt8)) (hs : L.length ≤ 1000000) (v : Value) (b1 : Nat) (q : List UInt8 → Bool) (w : World) (h : IsT w.heap.size w L v)
    (HQ : ∀ (X : ByteArray) (W : World), Below w.heap.size w W → X.data.toList ∈ L → Calls Tryz.prog 48 #[.string X, .pointer (some ⟨b1, 0, none⟩)] W fun e w' => e = .returned (.bool (q X.data.toList)) ∧ Below W.heap.size W w') :
    Calls Tryz.prog 78 #[v, .func (.func 48) #[] #[.pointer (some ⟨b1, 0, none⟩)]] w fun e w' => ∃ I : Int, e = .returned (.int .i64 I) ∧ decide (0 ≤ I) = L.any q ∧ Below w.heap.size w w' := by
  obtain ⟨a, c, rfl, hm, hcell⟩ := h
  unfold maxLen at hm
  have HC := Lib.hid hcell
  have HQh := Lib.hid HQ
  clear hcell HQ
  go_enter Tryz.func78, Tryz.ntmps78
  go_wp2
  go_loopw [8] (fun i wr => ∃ j : Nat, j ≤ L.length ∧ i = .int .i64 j ∧ Hid (∀ k (hk : k < L.length), k < j → q L[k] = false) ∧ Below w.heap.size w wr) (fun i wr => L.length - (intOf i).toNat)
  case atStart => exact ⟨0, by omega, rfl, Lib.hid (fun k _ h => absurd h (by omega)), Below.refl _ _⟩
  case round =>
    obtain ⟨j, hj, rfl, HNo, hbel⟩ := hrel
    have HBel := Lib.hid hbel
    have hbs := hbel.size
    by_cases hlt : j < L.length
    · have t1 : decide ((j : Int) < (L.length : Int)) = true := by simp; omega
      have t1' : decide (j < L.length) = true := by simpa using hlt
      obtain ⟨b, off, rfl, hb0, c0⟩ := HC.out j hlt
      obtain ⟨X, hX⟩ : ∃ X : ByteArray, ⟨L[j].toArray⟩ = X := ⟨_, rfl⟩
      have hXl : X.data.toList = L[j] := by rw [← hX]
      have d0 : (wr.cell? ⟨b, off + j, none⟩) = some (.string X) := by
        rw [hbel.cell (p := ⟨b, _, none⟩) hb0, c0, ← hX]; rfl
      have hab := HQh.out X wr hbel (by rw [hXl]; exact List.getElem_mem _)
      rw [hXl] at hab
      obtain ⟨g, hg⟩ : ∃ g, q L[j] = g := ⟨_, rfl⟩
      rw [hg] at hab
      have HAb := Lib.hid hab
      have HG := Lib.hid hg
      clear hX hXl c0 hab hbel hg
      cases g with
      | true =>
        have HR : Hid (L.any q = true) := Lib.hid (List.any_eq_true.2 ⟨L[j], List.getElem_mem _, HG.out⟩)
        go_wp2_with (go_at_call 48; refine (HAb.out).mono ?_; rintro e w2 ⟨rfl, hb2⟩; have HB2 := Lib.hid (HBel.out.trans (hb2.mono hbs)); clear hb2)
        go_ret
        exact ⟨_, rfl, by rw [HR.out]; simp, HB2.out⟩
      | false =>
        have HN : Hid (∀ k (hk : k < L.length), k < j + 1 → q L[k] = false) := Lib.hid (fun k h1 h3 => by
            by_cases hk : k < j
            · exact HNo.out k h1 hk
            · obtain rfl : k = j := by omega
              exact HG.out)
        go_wp2_with (go_at_call 48; refine (HAb.out).mono ?_; rintro e w2 ⟨rfl, hb2⟩; have HB2 := Lib.hid (HBel.out.trans (hb2.mono hbs)); clear hb2)
        go_roundw
        case rel => exact ⟨j + 1, by omega, by go_num, HN, HB2.out⟩
        case measure => simp [intOf]; omega
    · obtain rfl : j = L.length := by omega
      have t1 : decide ((L.length : Int) < (L.length : Int)) = false := by simp
      have t1' : decide (L.length < L.length) = false := by simp
      have HR : Hid (L.any q = false) := Lib.hid (List.any_eq_false.2 (fun x hx => by
        obtain ⟨k, hk, rfl⟩ := List.getElem_of_mem hx
        simpa using HNo.out k hk hk))
      clear hbel
      go_wp2
      go_ret
      exact ⟨_, rfl, by rw [HR.out]; rfl, HBel.out⟩
set_option maxRecDepth 100000 in
set_option maxHeartbeats 2000000 in
theorem containsQL_any (L : List (List UInt8)) (hs : L.length ≤ 1000000) (v : Value) (b1 : Nat) (q : List UInt8 → Bool) (w : World) (h : IsT w.heap.size w L v)
    (HQ : ∀ (X : ByteArray) (W : World), Below w.heap.size w W → X.data.toList ∈ L → Calls Tryz.prog 48 #[.string X, .pointer (some ⟨b1, 0, none⟩)] W fun e w' => e = .returned (.bool (q X.data.toList)) ∧ Below W.heap.size W w') :
    Calls Tryz.prog 59 #[v, .func (.func 48) #[] #[.pointer (some ⟨b1, 0, none⟩)]] w fun e w' => e = .returned (.bool (L.any q)) ∧ Below w.heap.size w w' := by
  have hc := indexQL_any L hs v b1 q w h HQ
  obtain ⟨R, hR⟩ : ∃ R, R = L.any q := ⟨_, rfl⟩
  rw [← hR] at hc ⊢
  obtain ⟨sa, sc, hv, _⟩ := id h
  obtain ⟨sn, hsn⟩ : ∃ n, n = L.length := ⟨_, rfl⟩
  rw [← hsn] at hv
  subst hv
  have HC := Lib.hid hc
  clear hc hR hsn h HQ
  go_enter Tryz.func59, Tryz.ntmps59
  go_wp2_with (go_at_call 78; refine (HC.out).mono ?_; rintro e w2 ⟨I, rfl, hI, hb2⟩; have HB2 := Lib.hid hb2; clear hb2)
  go_ret
  exact ⟨rfl, HB2.out⟩

set_option maxRecDepth 100000 in
set_option maxHeartbeats 2000000 in
theorem indexQP_any (L : List (List UInt8)) (hs : L.length ≤ 1000000) (v : Value) (b1 b2 : Nat) (q : List UInt8 → Bool) (w : World) (h : IsT w.heap.size w L v)
    (HQ : ∀ (X : ByteArray) (W : World), Below w.heap.size w W → X.data.toList ∈ L → Calls Tryz.prog 64 #[.string X, .pointer (some ⟨b1, 0, none⟩), .pointer (some ⟨b2, 0, none⟩)] W fun e w' => e = .returned (.bool (q X.data.toList)) ∧ Below W.heap.size W w') :
    Calls Tryz.prog 78 #[v, .func (.func 64) #[] #[.pointer (some ⟨b1, 0, none⟩), .pointer (some ⟨b2, 0, none⟩)]] w fun e w' => ∃ I : Int, e = .returned (.int .i64 I) ∧ decide (0 ≤ I) = L.any q ∧ Below w.heap.size w w' := by
  obtain ⟨a, c, rfl, hm, hcell⟩ := h
  unfold maxLen at hm
  have HC := Lib.hid hcell
  have HQh := Lib.hid HQ
  clear hcell HQ
  go_enter Tryz.func78, Tryz.ntmps78
  go_wp2
  go_loopw [8] (fun i wr => ∃ j : Nat, j ≤ L.length ∧ i = .int .i64 j ∧ Hid (∀ k (hk : k < L.length), k < j → q L[k] = false) ∧ Below w.heap.size w wr) (fun i wr => L.length - (intOf i).toNat)
  case atStart => exact ⟨0, by omega, rfl, Lib.hid (fun k _ h => absurd h (by omega)), Below.refl _ _⟩
  case round =>
    obtain ⟨j, hj, rfl, HNo, hbel⟩ := hrel
    have HBel := Lib.hid hbel
    have hbs := hbel.size
    by_cases hlt : j < L.length
    · have t1 : decide ((j : Int) < (L.length : Int)) = true := by simp; omega
      have t1' : decide (j < L.length) = true := by simpa using hlt
      obtain ⟨b, off, rfl, hb0, c0⟩ := HC.out j hlt
      obtain ⟨X, hX⟩ : ∃ X : ByteArray, ⟨L[j].toArray⟩ = X := ⟨_, rfl⟩
      have hXl : X.data.toList = L[j] := by rw [← hX]
      have d0 : (wr.cell? ⟨b, off + j, none⟩) = some (.string X) := by
        rw [hbel.cell (p := ⟨b, _, none⟩) hb0, c0, ← hX]; rfl
      have hab := HQh.out X wr hbel (by rw [hXl]; exact List.getElem_mem _)
      rw [hXl] at hab
      obtain ⟨g, hg⟩ : ∃ g, q L[j] = g := ⟨_, rfl⟩
      rw [hg] at hab
      have HAb := Lib.hid hab
      have HG := Lib.hid hg
      clear hX hXl c0 hab hbel hg
      cases g with
      | true =>
        have HR : Hid (L.any q = true) := Lib.hid (List.any_eq_true.2 ⟨L[j], List.getElem_mem _, HG.out⟩)
        go_wp2_with (go_at_call 64; refine (HAb.out).mono ?_; rintro e w2 ⟨rfl, hb2⟩; have HB2 := Lib.hid (HBel.out.trans (hb2.mono hbs)); clear hb2)
        go_ret
        exact ⟨_, rfl, by rw [HR.out]; simp, HB2.out⟩
      | false =>
        have HN : Hid (∀ k (hk : k < L.length), k < j + 1 → q L[k] = false) := Lib.hid (fun k h1 h3 => by
            by_cases hk : k < j
            · exact HNo.out k h1 hk
            · obtain rfl : k = j := by omega
              exact HG.out)
        go_wp2_with (go_at_call 64; refine (HAb.out).mono ?_; rintro e w2 ⟨rfl, hb2⟩; have HB2 := Lib.hid (HBel.out.trans (hb2.mono hbs)); clear hb2)
        go_roundw
        case rel => exact ⟨j + 1, by omega, by go_num, HN, HB2.out⟩
        case measure => simp [intOf]; omega
    · obtain rfl : j = L.length := by omega
      have t1 : decide ((L.length : Int) < (L.length : Int)) = false := by simp
      have t1' : decide (L.length < L.length) = false := by simp
      have HR : Hid (L.any q = false) := Lib.hid (List.any_eq_false.2 (fun x hx => by
        obtain ⟨k, hk, rfl⟩ := List.getElem_of_mem hx
        simpa using HNo.out k hk hk))
      clear hbel
      go_wp2
      go_ret
      exact ⟨_, rfl, by rw [HR.out]; rfl, HBel.out⟩
set_option maxRecDepth 100000 in
set_option maxHeartbeats 2000000 in
theorem containsQP_any (L : List (List UInt8)) (hs : L.length ≤ 1000000) (v : Value) (b1 b2 : Nat) (q : List UInt8 → Bool) (w : World) (h : IsT w.heap.size w L v)
    (HQ : ∀ (X : ByteArray) (W : World), Below w.heap.size w W → X.data.toList ∈ L → Calls Tryz.prog 64 #[.string X, .pointer (some ⟨b1, 0, none⟩), .pointer (some ⟨b2, 0, none⟩)] W fun e w' => e = .returned (.bool (q X.data.toList)) ∧ Below W.heap.size W w') :
    Calls Tryz.prog 59 #[v, .func (.func 64) #[] #[.pointer (some ⟨b1, 0, none⟩), .pointer (some ⟨b2, 0, none⟩)]] w fun e w' => e = .returned (.bool (L.any q)) ∧ Below w.heap.size w w' := by
  have hc := indexQP_any L hs v b1 b2 q w h HQ
  obtain ⟨R, hR⟩ : ∃ R, R = L.any q := ⟨_, rfl⟩
  rw [← hR] at hc ⊢
  obtain ⟨sa, sc, hv, _⟩ := id h
  obtain ⟨sn, hsn⟩ : ∃ n, n = L.length := ⟨_, rfl⟩
  rw [← hsn] at hv
  subst hv
  have HC := Lib.hid hc
  clear hc hR hsn h HQ
  go_enter Tryz.func59, Tryz.ntmps59
  go_wp2_with (go_at_call 78; refine (HC.out).mono ?_; rintro e w2 ⟨I, rfl, hI, hb2⟩; have HB2 := Lib.hid hb2; clear hb2)
  go_ret
  exact ⟨rfl, HB2.out⟩

end Go.Proofs.YtmilgbkkibahlaaGreatDoor


namespace Go.Proofs.YtmilgbkkibahlaaGreatDoor
set_option linter.unusedVariables false
set_option linter.unusedSimpArgs false

def joinS : List (List UInt8) → List UInt8
  | [] => []
  | [x] => x
  | x :: y :: l => x ++ 42 :: joinS (y :: l)
end Go.Proofs.YtmilgbkkibahlaaGreatDoor


namespace Go.Proofs.YtmilgbkkibahlaaGreatDoor
open Go.RowKit
set_option linter.unusedVariables false

abbrev PT := List UInt8 × Value
def cellsP : List PT → List Value
  | [] => []
  | r :: l => strV r.1 :: r.2 :: cellsP l
def IsTo (ok : Nat → Prop) (w : World) (L : List (List UInt8)) (v : Value) : Prop := ∃ a c, v = .slice a L.length c ∧ L.length ≤ maxLen ∧
  ∀ j, (h : j < L.length) → ∃ b off, a = some ⟨b, off, none⟩ ∧ ok b ∧ w.cell? ⟨b, off + j, none⟩ = some (strV L[j])
theorem IsTo.imp {ok ok' : Nat → Prop} {w w' : World} {L : List (List UInt8)} {v : Value} (h : IsTo ok w L v) (hi : ∀ b, ok b → ok' b) (hc : ∀ b o, ok b → w'.cell? ⟨b, o, none⟩ = w.cell? ⟨b, o, none⟩) : IsTo ok' w' L v := by
  obtain ⟨a, c, hv, hm, h⟩ := h
  refine ⟨a, c, hv, hm, fun j hj => ?_⟩
  obtain ⟨b, off, ha, hb, h0⟩ := h j hj
  exact ⟨b, off, ha, hi b hb, (hc b _ hb).trans h0⟩
theorem IsTo.to {ok : Nat → Prop} {n : Nat} {w : World} {L : List (List UInt8)} {v : Value} (h : IsTo ok w L v) (hi : ∀ b, ok b → b < n) : IsT n w L v := by
  obtain ⟨a, c, hv, hm, h⟩ := h
  refine ⟨a, c, hv, hm, fun j hj => ?_⟩
  obtain ⟨b, off, ha, hb, h0⟩ := h j hj
  exact ⟨b, off, ha, hi b hb, h0⟩
def RowP (B : Nat) (w : World) (v : Value) (P : List PT) : Prop := w.ownsRow B 42 2 v P.length (cellsP P)
def Says (B : Nat) (w : World) (v : Value) (P : List PT) (L : List AT) : Prop := P.length = L.length ∧ ∀ j (h : j < L.length) (h' : j < P.length), P[j].1 = L[j].1 ∧ IsTo (fun b => B ≤ b ∧ b < w.heap.size ∧ some b ≠ v.ownBlock) w L[j].2 P[j].2
def OwnA (B : Nat) (w : World) (v : Value) (L : List AT) : Prop := ∃ P, RowP B w v P ∧ Says B w v P L

theorem strV_whole (X : ByteArray) : strV X.data.toList = .string X := by show Value.string ⟨X.data.toList.toArray⟩ = _; rw [whole_ext]
end Go.Proofs.YtmilgbkkibahlaaGreatDoor


namespace Go.Proofs.YtmilgbkkibahlaaGreatDoor
open Go.RowKit
set_option linter.unusedVariables false
set_option linter.unusedSimpArgs false

mutual
def IsFl (ok : Nat → Prop) (w : World) : FT → Value → Prop
  | .mk k t x p l, v => ∃ pv a cap, v = .agg #[.int .i64 k, strV t, strV x, pv, .slice a l.length cap] ∧ (Lit.int .i64 k).wf = true ∧ t.length ≤ maxLen ∧ x.length ≤ maxLen ∧ IsTo ok w p pv ∧ l.length ≤ maxLen ∧ IsFls ok w l a 0
def IsFls (ok : Nat → Prop) (w : World) : List FT → Option Addr → Nat → Prop
  | [], _, _ => True
  | f :: l, a, i => (∃ b off v0 v1 v2 v3 v4, a = some ⟨b, off, none⟩ ∧ ok b ∧ w.cell? ⟨b, off + i * 5, none⟩ = some v0 ∧ w.cell? ⟨b, off + i * 5 + 1, none⟩ = some v1 ∧ w.cell? ⟨b, off + i * 5 + 2, none⟩ = some v2 ∧ w.cell? ⟨b, off + i * 5 + 3, none⟩ = some v3 ∧ w.cell? ⟨b, off + i * 5 + 4, none⟩ = some v4 ∧ IsFl ok w f (.agg #[v0, v1, v2, v3, v4])) ∧ IsFls ok w l a (i + 1)
end
mutual
theorem IsFl.imp {ok ok' : Nat → Prop} {w w' : World} (hi : ∀ b, ok b → ok' b) (hc : ∀ b o, ok b → w'.cell? ⟨b, o, none⟩ = w.cell? ⟨b, o, none⟩) : ∀ (f : FT) (v : Value), IsFl ok w f v → IsFl ok' w' f v
  | .mk k t x p l, v, ⟨pv, a, cap, e, h1, h2, h3, h4, h5, h6⟩ => ⟨pv, a, cap, e, h1, h2, h3, h4.imp hi hc, h5, IsFls.imp hi hc l a 0 h6⟩
theorem IsFls.imp {ok ok' : Nat → Prop} {w w' : World} (hi : ∀ b, ok b → ok' b) (hc : ∀ b o, ok b → w'.cell? ⟨b, o, none⟩ = w.cell? ⟨b, o, none⟩) : ∀ (l : List FT) (a : Option Addr) (i : Nat), IsFls ok w l a i → IsFls ok' w' l a i
  | [], _, _, _ => trivial
  | f :: l, a, i, ⟨⟨b, off, v0, v1, v2, v3, v4, e, hb, h0, h1, h2, h3, h4, hf⟩, hl⟩ =>
    ⟨⟨b, off, v0, v1, v2, v3, v4, e, hi b hb, (hc b _ hb).trans h0, (hc b _ hb).trans h1, (hc b _ hb).trans h2, (hc b _ hb).trans h3, (hc b _ hb).trans h4, IsFl.imp hi hc f _ hf⟩, IsFls.imp hi hc l a (i + 1) hl⟩
end
theorem IsFls.get {ok : Nat → Prop} {w : World} : ∀ (l : List FT) (a : Option Addr) (i : Nat), IsFls ok w l a i → ∀ (k : Nat) (f : FT), l[k]? = some f →
    ∃ b off v0 v1 v2 v3 v4, a = some ⟨b, off, none⟩ ∧ ok b ∧ w.cell? ⟨b, off + (i + k) * 5, none⟩ = some v0 ∧ w.cell? ⟨b, off + (i + k) * 5 + 1, none⟩ = some v1 ∧ w.cell? ⟨b, off + (i + k) * 5 + 2, none⟩ = some v2 ∧ w.cell? ⟨b, off + (i + k) * 5 + 3, none⟩ = some v3 ∧ w.cell? ⟨b, off + (i + k) * 5 + 4, none⟩ = some v4 ∧ IsFl ok w f (.agg #[v0, v1, v2, v3, v4])
  | [], _, _, _, k, t, h => by simp at h
  | f :: l, a, i, ⟨h0, hl⟩, 0, f', h => by
    simp at h; subst h; exact h0
  | f :: l, a, i, ⟨h0, hl⟩, k + 1, f', h => by
    have := IsFls.get l a (i + 1) hl k f' (by simpa using h)
    rw [show i + 1 + k = i + (k + 1) from by omega] at this
    exact this
abbrev Lt (w : World) : Nat → Prop := fun b => b < w.heap.size
theorem IsFl.below {w w' : World} {f : FT} {v : Value} (h : IsFl (Lt w) w f v) (hb : Below w.heap.size w w') : IsFl (Lt w') w' f v :=
  h.imp (fun b h => Nat.lt_of_lt_of_le h hb.size) (fun b o h => hb.cell (p := ⟨b, o, none⟩) h)
theorem IsFls.below {w w' : World} {l : List FT} {a : Option Addr} {i : Nat} (h : IsFls (Lt w) w l a i) (hb : Below w.heap.size w w') : IsFls (Lt w') w' l a i :=
  h.imp (fun b h => Nat.lt_of_lt_of_le h hb.size) (fun b o h => hb.cell (p := ⟨b, o, none⟩) h)
theorem IsFl.shape {ok : Nat → Prop} {w : World} {f : FT} {v : Value} (h : IsFl ok w f v) : ∃ k T X pa pn pc ka kn kc, v = .agg #[.int .i64 k, .string T, .string X, .slice pa pn pc, .slice ka kn kc] := by
  cases f
  obtain ⟨pv, a, cap, e, _, _, _, ⟨pa, pc, rfl, _⟩, _⟩ := h
  exact ⟨_, _, _, _, _, _, _, _, _, e⟩
theorem IsFl.parts {ok : Nat → Prop} {w : World} {k : Int} {t x : List UInt8} {p : List (List UInt8)} {l : List FT} {v : Value} (h : IsFl ok w (.mk k t x p l) v) :
    ∃ pa pc ka kc, v = .agg #[.int .i64 k, strV t, strV x, .slice pa p.length pc, .slice ka l.length kc] ∧ (Lit.int .i64 k).wf = true ∧ t.length ≤ maxLen ∧ x.length ≤ maxLen ∧ IsTo ok w p (.slice pa p.length pc) ∧ l.length ≤ maxLen ∧ IsFls ok w l ka 0 := by
  obtain ⟨pv, a, cap, e, h1, h2, h3, h4, h5, h6⟩ := h
  obtain ⟨pa, pc, e4, _⟩ := id h4
  subst e4
  exact ⟨pa, pc, a, cap, e, h1, h2, h3, h4, h5, h6⟩

def ElsF (ok : Nat → Prop) (w : World) : List FT → List Value → Prop
  | [], xs => xs = []
  | f :: l, xs => ∃ x0 x1 x2 x3 x4 ys, xs = x0 :: x1 :: x2 :: x3 :: x4 :: ys ∧ IsFl ok w f (.agg #[x0, x1, x2, x3, x4]) ∧ ElsF ok w l ys
theorem ElsF.imp {ok ok' : Nat → Prop} {w w' : World} (hi : ∀ b, ok b → ok' b) (hc : ∀ b o, ok b → w'.cell? ⟨b, o, none⟩ = w.cell? ⟨b, o, none⟩) : ∀ {l : List FT} {xs : List Value}, ElsF ok w l xs → ElsF ok' w' l xs
  | [], xs, h => h
  | f :: l, xs, ⟨x0, x1, x2, x3, x4, ys, e, h1, h⟩ => ⟨x0, x1, x2, x3, x4, ys, e, h1.imp hi hc, ElsF.imp hi hc h⟩
theorem ElsF.one {ok : Nat → Prop} {w : World} : ∀ {l : List FT} {xs : List Value}, ElsF ok w l xs → ∀ u ∈ xs, u.oneCell' = true
  | [], xs, h, u, hu => by rw [show xs = [] from h] at hu; cases hu
  | f :: l, xs, ⟨x0, x1, x2, x3, x4, ys, e, h1, h⟩, u, hu => by
    subst e
    obtain ⟨k, T, X, pa, pn, pc, ka, kn, kc, e⟩ := h1.shape
    simp only [Value.agg.injEq, Array.mk.injEq, List.cons.injEq, and_true] at e
    obtain ⟨rfl, rfl, rfl, rfl, rfl⟩ := e
    simp only [List.mem_cons] at hu
    rcases hu with rfl | rfl | rfl | rfl | rfl | hu
    · rfl
    · rfl
    · rfl
    · rfl
    · rfl
    · exact ElsF.one h u hu
abbrev NewB (B : Nat) (w : World) (r : Option Nat) : Nat → Prop := fun b => B ≤ b ∧ b < w.heap.size ∧ some b ≠ r
def OwnF (B : Nat) (w : World) (v : Value) (l : List FT) : Prop := ∃ xs, ElsF (NewB B w v.ownBlock) w l xs ∧ w.ownsRow B 31 5 v l.length xs
end Go.Proofs.YtmilgbkkibahlaaGreatDoor


namespace Go.Proofs.YtmilgbkkibahlaaGreatDoor
open Go.RowKit
set_option linter.unusedVariables false
set_option linter.unusedSimpArgs false

set_option maxHeartbeats 1000000 in
theorem letterFl_any (c : UInt8) (w : World) : Calls Tryz.prog 51 #[.int .u8 c.toNat] w fun e w' => e = .returned (.bool (letC c)) ∧ w = w' := by
  have hml := c.toNat_lt
  rw [letC_two]
  obtain ⟨t1, h1⟩ : ∃ b, decide ((97 : Int) ≤ (c.toNat : Int)) = b := ⟨_, rfl⟩
  obtain ⟨t2, h2⟩ : ∃ b, decide ((c.toNat : Int) ≤ 122) = b := ⟨_, rfl⟩
  obtain ⟨t3, h3⟩ : ∃ b, decide ((65 : Int) ≤ (c.toNat : Int)) = b := ⟨_, rfl⟩
  obtain ⟨t4, h4⟩ : ∃ b, decide ((c.toNat : Int) ≤ 90) = b := ⟨_, rfl⟩
  have g1 : decide (97 ≤ c.toNat) = t1 := by rw [← h1]; simp; omega
  have g2 : decide (c.toNat ≤ 122) = t2 := by rw [← h2]; simp; omega
  have g3 : decide (65 ≤ c.toNat) = t3 := by rw [← h3]; simp; omega
  have g4 : decide (c.toNat ≤ 90) = t4 := by rw [← h4]; simp; omega
  rw [g1, g2, g3, g4]
  clear g1 g2 g3 g4
  cases t1 <;> cases t2 <;> cases t3 <;> cases t4 <;> (go_enter Tryz.func51, Tryz.ntmps51; go_wp2; go_ret; exact ⟨rfl, rfl⟩)

set_option maxHeartbeats 400000 in
theorem digitFl_any (c : UInt8) (w : World) : Calls Tryz.prog 52 #[.int .u8 c.toNat] w fun e w' => e = .returned (.bool (digC c)) ∧ w = w' := by
  have hml := c.toNat_lt
  unfold digC
  by_cases h1 : 48 ≤ c.toNat
  · have t1 : decide ((48 : Int) ≤ (c.toNat : Int)) = true := by simp; omega
    by_cases h2 : c.toNat ≤ 57
    · have t2 : decide ((c.toNat : Int) ≤ 57) = true := by simp; omega
      go_enter Tryz.func52, Tryz.ntmps52
      go_wp2
      go_ret
      exact ⟨by simp [h1, h2], rfl⟩
    · have t2 : decide ((c.toNat : Int) ≤ 57) = false := by simp; omega
      go_enter Tryz.func52, Tryz.ntmps52
      go_wp2
      go_ret
      exact ⟨by simp [h1, h2], rfl⟩
  · have t1 : decide ((48 : Int) ≤ (c.toNat : Int)) = false := by simp; omega
    go_enter Tryz.func52, Tryz.ntmps52
    go_wp2
    go_ret
    exact ⟨by simp [h1], rfl⟩

set_option maxRecDepth 100000 in
set_option maxHeartbeats 2000000 in
theorem mayTypeFl_any (s : ByteArray) (w : World) : Calls Tryz.prog 36 #[.string s] w fun e w' => e = .returned (.bool (okType s.data.toList)) ∧ w = w' := by
  by_cases hne : s.data.toList = []
  · obtain ⟨e1, e2⟩ := bytes_nil hne
    have hr : okType s.data.toList = false := by unfold okType; rw [hne]; rfl
    rw [hr]
    go_enter Tryz.func36, Tryz.ntmps36
    go_wp2
    go_ret
    exact ⟨rfl, rfl⟩
  · obtain ⟨e1, e2⟩ := bytes_some hne
    have hpos : 0 < s.size := by rw [← bytes_len]; exact List.length_pos_iff.2 hne
    by_cases h30 : s.size ≤ 30
    · have t0 : decide ((30 : Int) < (s.size : Int)) = false := by simp; omega
      have hjl0 : 0 < s.data.toList.length := by rw [bytes_len]; exact hpos
      obtain ⟨c0, hc0⟩ : ∃ c : UInt8, c = s[0] := ⟨_, rfl⟩
      have hc0' : s[0]'hpos = c0 := hc0.symm
      have hhead : s.data.toList.headD 0 = c0 := by
        have h1 : s.data.toList.head? = some s.data.toList[0] := by rw [List.head?_eq_getElem?]; exact List.getElem?_eq_getElem hjl0
        rw [List.headD_eq_head?_getD, h1]
        exact hc0.symm
      have hok : okType s.data.toList = (letC c0 && s.data.toList.all typC) := by
        unfold okType
        rw [hhead, bytes_len, decide_eq_true h30]
        have : s.data.toList.isEmpty = false := by cases h : s.data.toList with | nil => exact absurd h hne | cons x r => rfl
        rw [this]; rfl
      have hh := fun w => letterFl_any c0 w
      obtain ⟨b0, hb0⟩ : ∃ b, b = letC c0 := ⟨_, rfl⟩
      rw [← hb0] at hh hok
      have H0 := Lib.hid hh
      have hcl0 := c0.toNat_lt
      clear hh hb0 hhead hc0
      cases b0 with
      | false =>
        rw [hok]
        go_enter Tryz.func36, Tryz.ntmps36
        go_wp2_with (go_at_call 51; refine (H0.out _).mono ?_; rintro e w2 ⟨rfl, rfl⟩)
        go_ret
        exact ⟨rfl, rfl⟩
      | true =>
        rw [Bool.true_and] at hok
        go_enter Tryz.func36, Tryz.ntmps36
        go_wp2_with (go_at_call 51; refine (H0.out _).mono ?_; rintro e w2 ⟨rfl, rfl⟩)
        go_loop [20] (fun i => ∃ j : Nat, j ≤ s.size ∧ i = .int .i64 j ∧ (s.data.toList.take j).all typC = true) (fun i => s.size - (intOf i).toNat)
        case atStart => exact ⟨0, by omega, rfl, by simp⟩
        case round =>
          obtain ⟨j, hj, rfl, hall⟩ := hrel
          by_cases hlt : j < s.size
          · have t1 : decide ((j : Int) < (s.size : Int)) = true := by simp; omega
            have hjl : j < s.data.toList.length := by rw [bytes_len]; exact hlt
            have htk : s.data.toList.take (j + 1) = s.data.toList.take j ++ [s[j]] := by rw [List.take_succ_eq_append_getElem hjl]; rfl
            obtain ⟨c, hc⟩ : ∃ c : UInt8, c = s[j] := ⟨_, rfl⟩
            have hc' : s[j]'hlt = c := hc.symm
            rw [← hc] at htk
            have hcl := c.toNat_lt
            have hnew : (s.data.toList.take (j + 1)).all typC = ((s.data.toList.take j).all typC && typC c) := by rw [htk, List.all_append]; simp
            obtain ⟨b1, hb1⟩ : ∃ b, b = letC c := ⟨_, rfl⟩
            obtain ⟨b2, hb2⟩ : ∃ b, b = digC c := ⟨_, rfl⟩
            have hl := fun w => letterFl_any c w
            have hg := fun w => digitFl_any c w
            rw [← hb1] at hl
            rw [← hb2] at hg
            have HL := Lib.hid hl
            have HD := Lib.hid hg
            have ht : typC c = (b1 || b2 || decide (c.toNat = 45)) := by unfold typC; rw [← hb1, ← hb2]
            clear hl hg hb1 hb2
            by_cases h45 : c.toNat = 45
            · have t2 : ((c.toNat : Int) != 45) = false := by simp [h45]
              have t3 : ((c.toNat : Int) == 45) = true := by simp [h45]
              rw [decide_eq_true h45, Bool.or_true] at ht
              rw [ht, Bool.and_true, hall] at hnew
              have HN := Lib.hid hnew
              clear hnew hc htk hall h45
              cases b1 <;> cases b2 <;> (
                go_wp2_with (first | (go_at_call 51; refine (HL.out _).mono ?_; rintro e w2 ⟨rfl, rfl⟩) | (go_at_call 52; refine (HD.out _).mono ?_; rintro e w3 ⟨rfl, rfl⟩))
                go_round
                case rel => exact ⟨j + 1, by omega, by go_num, HN.out⟩
                case measure => simp [intOf]; omega)
            · have t2 : ((c.toNat : Int) != 45) = true := by simp; omega
              have t3 : ((c.toNat : Int) == 45) = false := by simp; omega
              rw [decide_eq_false h45, Bool.or_false] at ht
              rw [ht, hall] at hnew
              have hin : s.data.toList.all typC = true → typC c = true := fun h => by rw [List.all_eq_true] at h; exact h c (by rw [hc]; exact List.getElem_mem hjl)
              rw [ht] at hin
              have HN := Lib.hid hnew
              have HI := Lib.hid hin
              clear hnew hc htk hall hin
              cases b1 with
              | true =>
                go_wp2_with (first | (go_at_call 51; refine (HL.out _).mono ?_; rintro e w2 ⟨rfl, rfl⟩) | (go_at_call 52; refine (HD.out _).mono ?_; rintro e w3 ⟨rfl, rfl⟩))
                go_round
                case rel => exact ⟨j + 1, by omega, by go_num, HN.out⟩
                case measure => simp [intOf]; omega
              | false =>
                cases b2 with
                | true =>
                  go_wp2_with (first | (go_at_call 51; refine (HL.out _).mono ?_; rintro e w2 ⟨rfl, rfl⟩) | (go_at_call 52; refine (HD.out _).mono ?_; rintro e w3 ⟨rfl, rfl⟩))
                  go_round
                  case rel => exact ⟨j + 1, by omega, by go_num, HN.out⟩
                  case measure => simp [intOf]; omega
                | false =>
                  go_wp2_with (first | (go_at_call 51; refine (HL.out _).mono ?_; rintro e w2 ⟨rfl, rfl⟩) | (go_at_call 52; refine (HD.out _).mono ?_; rintro e w3 ⟨rfl, rfl⟩))
                  go_ret
                  refine ⟨?_, rfl⟩
                  rw [hok]
                  cases hx : s.data.toList.all typC with
                  | false => rfl
                  | true => have := HI.out hx; simp at this
          · obtain rfl : j = s.size := by omega
            have t1 : decide ((s.size : Int) < (s.size : Int)) = false := by simp
            rw [List.take_of_length_le (by simp)] at hall
            have HE := Lib.hid (hok.trans hall)
            clear hok hall
            go_wp2
            go_ret
            exact ⟨by rw [HE.out]; rfl, rfl⟩
    · have t0 : decide ((30 : Int) < (s.size : Int)) = true := by simp; omega
      have hr : okType s.data.toList = false := by unfold okType; rw [bytes_len, decide_eq_false h30]; simp
      rw [hr]
      go_enter Tryz.func36, Tryz.ntmps36
      go_wp2
      go_ret
      exact ⟨rfl, rfl⟩
end Go.Proofs.YtmilgbkkibahlaaGreatDoor


namespace Go.Proofs.YtmilgbkkibahlaaGreatDoor
open Go.RowKit
set_option linter.unusedVariables false
set_option linter.unusedSimpArgs false

set_option maxHeartbeats 400000 in
theorem holds_any (k : Int) (w : World) : Calls Tryz.prog 28 #[.int .i64 k] w fun e w' => e = .returned (.bool (holdsC k)) ∧ w = w' := by
  obtain ⟨t1, h1⟩ : ∃ b, (k == 1) = b := ⟨_, rfl⟩
  obtain ⟨t2, h2⟩ : ∃ b, (k == 2) = b := ⟨_, rfl⟩
  obtain ⟨t3, h3⟩ : ∃ b, (k == 3) = b := ⟨_, rfl⟩
  have hr : holdsC k = (t1 || t2 || t3) := by rw [← h1, ← h2, ← h3]; unfold holdsC; rfl
  rw [hr]
  clear hr
  cases t1 <;> cases t2 <;> cases t3 <;> (go_enter Tryz.func28, Tryz.ntmps28; go_wp2; go_ret; exact ⟨rfl, rfl⟩)

set_option maxHeartbeats 400000 in
theorem mayKids_any (k : Int) (n : Nat) (w : World) : Calls Tryz.prog 30 #[.int .i64 k, .int .i64 n] w fun e w' => e = .returned (.bool (kidsC k n)) ∧ w = w' := by
  by_cases hk : k = 3
  · subst hk
    obtain ⟨t, h⟩ : ∃ b, ((n : Int) == 1) = b := ⟨_, rfl⟩
    have hr : kidsC 3 n = t := by rw [← h]; unfold kidsC; rw [if_pos rfl, Bool.eq_iff_iff]; simp; omega
    rw [hr]
    clear hr
    cases t <;> (go_enter Tryz.func30, Tryz.ntmps30; go_wp2; go_ret; exact ⟨rfl, rfl⟩)
  · have t1 : (k == 3) = false := by simpa using hk
    obtain ⟨t, h⟩ : ∃ b, decide ((n : Int) ≤ 40) = b := ⟨_, rfl⟩
    have hr : kidsC k n = t := by rw [← h]; unfold kidsC; rw [if_neg hk, Bool.eq_iff_iff]; simp; omega
    rw [hr]
    clear hr hk
    cases t <;> (go_enter Tryz.func30, Tryz.ntmps30; go_wp2; go_ret; exact ⟨rfl, rfl⟩)

theorem midNe_iff : ∀ (q : List (List UInt8)), midNe q = true ↔ ∀ i (h : i < q.length), i + 1 < q.length → q[i] ≠ []
  | [] => by simp [midNe]
  | [x] => by simp [midNe]
  | x :: y :: l => by
    rw [show midNe (x :: y :: l) = (!x.isEmpty && midNe (y :: l)) from rfl, Bool.and_eq_true, midNe_iff (y :: l)]
    constructor
    · rintro ⟨h1, h2⟩ i hi hl
      cases i with
      | zero => intro e; have : x = [] := e; rw [this] at h1; simp at h1
      | succ i => exact h2 i (by simpa using hi) (by simpa using hl)
    · intro h
      refine ⟨?_, fun i hi hl => h (i + 1) (by simpa using hi) (by simpa using hl)⟩
      have := h 0 (by simp) (by simp)
      cases x with
      | nil => exact absurd rfl this
      | cons c r => rfl
theorem okParts_iff (p : List (List UInt8)) : okParts p = true ↔ (2 ≤ p.length ∧ p.length ≤ 8) ∧ (∀ i (h : i < p.length), p[i].length ≤ 100 ∧ (0 < i → i + 1 < p.length → p[i] ≠ [])) ∧ (2 < p.length ∨ p.getD 0 [] ≠ [] ∨ p.getD (p.length - 1) [] ≠ []) := by
  have e : ∀ x : List UInt8, (!x.isEmpty) = true ↔ x ≠ [] := fun x => by cases x <;> simp
  unfold okParts
  simp only [Bool.and_eq_true, Bool.or_eq_true, decide_eq_true_eq, List.all_eq_true, midNe_iff, e]
  constructor
  · rintro ⟨⟨⟨⟨h1, h2⟩, h3⟩, h4⟩, h5⟩
    refine ⟨⟨h1, h2⟩, fun i hi => ⟨by simpa using h3 _ (List.getElem_mem hi), fun h0 hl => ?_⟩, by rcases h5 with (h | h) | h; exact .inl h; exact .inr (.inl h); exact .inr (.inr h)⟩
    have := h4 (i - 1) (by simp; omega) (by simp; omega)
    rw [List.getElem_drop] at this
    simpa [show 1 + (i - 1) = i from by omega] using this
  · rintro ⟨⟨h1, h2⟩, h3, h5⟩
    refine ⟨⟨⟨⟨h1, h2⟩, fun x hx => ?_⟩, fun i hi hl => ?_⟩, by rcases h5 with h | h | h; exact .inl (.inl h); exact .inl (.inr h); exact .inr h⟩
    · obtain ⟨i, hi, rfl⟩ := List.getElem_of_mem hx
      exact (h3 i hi).1
    · rw [List.getElem_drop]
      refine (h3 (1 + i) (by simp at hi; omega)).2 (by omega) ?_
      simp at hl
      omega
theorem strV_text (t : List UInt8) : ∃ T : ByteArray, strV t = .string T ∧ T.data.toList = t := ⟨ofL t, rfl, ofL_list t⟩

set_option maxRecDepth 100000 in
set_option maxHeartbeats 4000000 in
theorem mayParts_any (p : List (List UInt8)) (v : Value) (w : World) (h : IsTo (Lt w) w p v) : Calls Tryz.prog 37 #[v] w fun e w' => e = .returned (.bool (okParts p)) ∧ w = w' := by
  obtain ⟨a, c, rfl, hm, hcell⟩ := h
  obtain ⟨n, hn⟩ : ∃ n, n = p.length := ⟨_, rfl⟩
  have HI : Hid (okParts p = true ↔ (2 ≤ n ∧ n ≤ 8) ∧ (∀ i (h : i < p.length), p[i].length ≤ 100 ∧ (0 < i → i + 1 < n → p[i] ≠ [])) ∧ (2 < n ∨ p.getD 0 [] ≠ [] ∨ p.getD (n - 1) [] ≠ [])) := Lib.hid (by rw [hn]; exact okParts_iff p)
  rw [← hn] at hm ⊢
  unfold maxLen at hm
  have HN := Lib.hid hn
  have HC := Lib.hid hcell
  clear hcell hn
  by_cases h2 : n < 2
  · have t1 : decide (n < 2) = true := by simpa using h2
    have t1' : decide ((n : Int) < 2) = true := by simp; omega
    have hr : okParts p = false := by rw [← Bool.not_eq_true, HI.out]; omega
    rw [hr]
    go_enter Tryz.func37, Tryz.ntmps37
    go_wp2
    go_ret
    exact ⟨rfl, rfl⟩
  · have t1 : decide ((n : Int) < 2) = false := by simp; omega
    by_cases h8 : 8 < n
    · have t2 : decide ((8 : Int) < (n : Int)) = true := by simp; omega
      have hr : okParts p = false := by rw [← Bool.not_eq_true, HI.out]; omega
      rw [hr]
      go_enter Tryz.func37, Tryz.ntmps37
      go_wp2
      go_ret
      exact ⟨rfl, rfl⟩
    · have t2 : decide ((8 : Int) < (n : Int)) = false := by simp; omega
      obtain ⟨b, off, rfl, hb, hc⟩ : ∃ b off, a = some ⟨b, off, none⟩ ∧ b < w.heap.size ∧ ∀ j, (h : j < p.length) → w.cell? ⟨b, off + j, none⟩ = some (strV p[j]) := by
        obtain ⟨b, off, e, hb, _⟩ := HC.out 0 (by rw [← HN.out]; omega)
        refine ⟨b, off, e, hb, fun j hj => ?_⟩
        obtain ⟨b', off', e', _, h'⟩ := HC.out j hj
        rw [e] at e'
        simp only [Option.some.injEq, Addr.mk.injEq, and_true] at e'
        obtain ⟨rfl, rfl⟩ := e'
        exact h'
      have HCe := Lib.hid hc
      clear HC hc
      go_enter Tryz.func37, Tryz.ntmps37
      go_wp2
      go_loop [19] (fun i => ∃ j : Nat, j ≤ n ∧ i = .int .i64 j ∧ Hid (∀ i (h : i < p.length), i < j → p[i].length ≤ 100 ∧ (0 < i → i + 1 < n → p[i] ≠ []))) (fun i => n - (intOf i).toNat)
      case atStart => exact ⟨0, by omega, rfl, Lib.hid (fun i _ h => absurd h (by omega))⟩
      case round =>
        obtain ⟨j, hj, rfl, HA⟩ := hrel
        by_cases hlt : j < n
        · have hjl : j < p.length := by rw [← HN.out]; exact hlt
          have ti0 : (0 : Int) ≤ (j : Int) := by omega
          have ti1 : (j : Int) < (n : Int) := by omega
          obtain ⟨T, hT, hTl⟩ := strV_text p[j]
          have hcj : w.cell? ⟨b, off + j, none⟩ = some (.string T) := by rw [← hT]; exact HCe.out j hjl
          have hTs : T.size = p[j].length := by rw [← bytes_len, hTl]
          by_cases hbig : 100 < T.size
          · have t3 : decide ((100 : Int) < (T.size : Int)) = true := by simp; omega
            have hr : okParts p = false := by rw [← Bool.not_eq_true, HI.out]; rintro ⟨_, h, _⟩; have := (h j (by rw [← HN.out]; exact hlt)).1; omega
            have HRr := Lib.hid hr
            clear hr
            clear hT hTl hTs
            go_wp2
            go_ret
            exact ⟨by rw [HRr.out]; rfl, rfl⟩
          · have t3 : decide ((100 : Int) < (T.size : Int)) = false := by simp; omega
            by_cases he : T.data.toList = []
            · obtain ⟨e1, e2⟩ := bytes_nil he
              by_cases hmid : 0 < j ∧ j + 1 < n
              · have t4 : decide ((0 : Int) < (j : Int)) = true := by simp; omega
                have t4' : decide (0 < j) = true := by simp; omega
                have t5 : decide ((j : Int) < (n : Int) - 1) = true := by simp; omega
                have hr : okParts p = false := by
                  rw [← Bool.not_eq_true, HI.out]
                  rintro ⟨_, h, _⟩
                  exact (h j (by rw [← HN.out]; exact hlt)).2 hmid.1 (by omega) (by rw [← hTl]; exact he)
                have HRr := Lib.hid hr
                clear hr
                clear hT hTl hTs he
                go_wp2
                go_ret
                exact ⟨by rw [HRr.out]; rfl, rfl⟩
              · have HA2 : Hid (∀ i (h : i < p.length), i < j + 1 → p[i].length ≤ 100 ∧ (0 < i → i + 1 < n → p[i] ≠ [])) := Lib.hid (fun i hi hij => by
                  by_cases e : i = j
                  · subst e
                    exact ⟨by omega, fun h0 h1 => absurd ⟨h0, h1⟩ hmid⟩
                  · exact HA.out i hi (by omega))
                clear hT hTl hTs he
                by_cases h0 : 0 < j
                · have t4 : decide ((0 : Int) < (j : Int)) = true := by simp; omega
                  have t4' : decide (0 < j) = true := by simp; omega
                  have t5 : decide ((j : Int) < (n : Int) - 1) = false := by simp; omega
                  go_wp2
                  go_round
                  case rel => exact ⟨j + 1, by omega, by go_num, HA2⟩
                  case measure => simp [intOf]; omega
                · have t4 : decide ((0 : Int) < (j : Int)) = false := by simp; omega
                  have t4' : decide (0 < j) = false := by simp; omega
                  go_wp2
                  go_round
                  case rel => exact ⟨j + 1, by omega, by go_num, HA2⟩
                  case measure => simp [intOf]; omega
            · obtain ⟨e1, e2⟩ := bytes_some he
              have HA2 : Hid (∀ i (h : i < p.length), i < j + 1 → p[i].length ≤ 100 ∧ (0 < i → i + 1 < n → p[i] ≠ [])) := Lib.hid (fun i hi hij => by
                by_cases e : i = j
                · subst e
                  exact ⟨by omega, fun _ _ e => he (by rw [hTl]; exact e)⟩
                · exact HA.out i hi (by omega))
              clear hT hTl hTs he
              go_wp2
              go_round
              case rel => exact ⟨j + 1, by omega, by go_num, HA2⟩
              case measure => simp [intOf]; omega
        · have hend : j = n := by omega
          have HAll : Hid (∀ i (h : i < p.length), p[i].length ≤ 100 ∧ (0 < i → i + 1 < n → p[i] ≠ [])) := Lib.hid (fun i hi => HA.out i hi (by rw [← HN.out] at hi; omega))
          obtain ⟨T0, hT0, hTl0⟩ := strV_text (p.getD 0 [])
          obtain ⟨T1, hT1, hTl1⟩ := strV_text (p.getD (n - 1) [])
          have hc0 : w.cell? ⟨b, off, none⟩ = some (.string T0) := by
            have := HCe.out 0 (by rw [← HN.out]; omega)
            rw [Nat.add_zero] at this
            rw [this, ← hT0, List.getD_eq_getElem?_getD, List.getElem?_eq_getElem (by rw [← HN.out]; omega)]
            rfl
          have hc1 : w.cell? ⟨b, off + (n - 1), none⟩ = some (.string T1) := by
            rw [HCe.out (n - 1) (by rw [← HN.out]; omega), ← hT1, List.getD_eq_getElem?_getD, List.getElem?_eq_getElem (by rw [← HN.out]; omega)]
            rfl
          have ti2 : (0 : Int) ≤ (n : Int) - 1 := by omega
          have ti3 : (n : Int) - 1 < (n : Int) := by omega
          have ti4 : (0 : Int) < (n : Int) := by omega
          have ti5 : ((n : Int) - 1).toNat = n - 1 := by omega
          have ti6 : ¬ n = 0 := by omega
          by_cases hn2 : 2 < n
          · have t6 : decide ((1 : Int) < (n : Int) - 1) = true := by simp; omega
            have hr : okParts p = true := HI.out.2 ⟨⟨by omega, by omega⟩, HAll.out, .inl hn2⟩
            have HRr := Lib.hid hr
            clear hr
            clear hend hT0 hTl0 hT1 hTl1
            go_wp2
            go_ret
            exact ⟨by rw [HRr.out]; rfl, rfl⟩
          · have t6 : decide ((1 : Int) < (n : Int) - 1) = false := by simp; omega
            by_cases g0 : T0.data.toList = []
            · obtain ⟨e1, e2⟩ := bytes_nil g0
              by_cases g1 : T1.data.toList = []
              · obtain ⟨e3, e4⟩ := bytes_nil g1
                have hr : okParts p = false := by
                  rw [← Bool.not_eq_true, HI.out]
                  rintro ⟨_, _, h | h | h⟩
                  · omega
                  · exact h (by rw [← hTl0]; exact g0)
                  · exact h (by rw [← hTl1]; exact g1)
                have HRr := Lib.hid hr
                clear hr
                clear hend hT0 hTl0 hT1 hTl1 g0 g1
                go_wp2
                go_ret
                exact ⟨by rw [HRr.out]; rfl, rfl⟩
              · obtain ⟨e3, e4⟩ := bytes_some g1
                have hr : okParts p = true := HI.out.2 ⟨⟨by omega, by omega⟩, HAll.out, .inr (.inr (by rw [← hTl1]; exact g1))⟩
                have HRr := Lib.hid hr
                clear hr
                clear hend hT0 hTl0 hT1 hTl1 g0 g1
                go_wp2
                go_ret
                exact ⟨by rw [HRr.out]; rfl, rfl⟩
            · obtain ⟨e1, e2⟩ := bytes_some g0
              have hr : okParts p = true := HI.out.2 ⟨⟨by omega, by omega⟩, HAll.out, .inr (.inl (by rw [← hTl0]; exact g0))⟩
              have HRr := Lib.hid hr
              clear hr
              clear hend hT0 hTl0 hT1 hTl1 g0
              go_wp2
              go_ret
              exact ⟨by rw [HRr.out]; rfl, rfl⟩

theorem box5 (w : World) (x0 x1 x2 x3 x4 : Value) : Below w.heap.size w (w.alloc (.cells #[x0, x1, x2, x3, x4] 31)) := (Below.refl _ _).alloc (Nat.le_refl _) _

set_option maxRecDepth 100000 in
set_option maxHeartbeats 4000000 in
theorem mayLeaf_any (k : Int) (t x : List UInt8) (p : List (List UInt8)) (l : List FT) (v : Value) (w : World) (h : IsFl (Lt w) w (.mk k t x p l) v) :
    Calls Tryz.prog 29 #[v] w fun e w' => e = .returned (.bool (okLeaf k t x p l.length)) ∧ Below w.heap.size w w' := by
  obtain ⟨pa, pc, ka, kc, rfl, hwf, ht, hx, hp, hl, _⟩ := h.parts
  obtain ⟨T, hT, hTl⟩ := strV_text t
  obtain ⟨X, hX, hXl⟩ := strV_text x
  rw [hT, hX]
  obtain ⟨n, hn⟩ : ∃ n, n = l.length := ⟨_, rfl⟩
  obtain ⟨m, hm⟩ : ∃ m, m = p.length := ⟨_, rfl⟩
  rw [← hn] at hl ⊢
  rw [← hm] at hp ⊢
  have hXs : X.size = x.length := by rw [← bytes_len, hXl]
  have hme : p.isEmpty = decide (m = 0) := by rw [hm]; cases p <;> simp
  have hxe : x.isEmpty = decide (X.data.toList = []) := by rw [hXl]; cases x <;> simp
  have hmm : m ≤ maxLen := by rw [hm]; exact hp.choose_spec.choose_spec.2.1
  have hb := box5 w (.int .i64 k) (.string T) (.string X) (.slice pa m pc) (.slice ka n kc)
  have hpt : ∀ W, Below w.heap.size w W → Calls Tryz.prog 37 #[.slice pa m pc] W fun e w' => e = .returned (.bool (okParts p)) ∧ W = w' := fun W hW => by
    have := hp.imp (ok' := Lt W) (w' := W) (fun b h => Nat.lt_of_lt_of_le h hW.size) (fun b o h => hW.cell (p := ⟨b, o, none⟩) h)
    exact mayParts_any p _ W this
  have hty := fun W => mayTypeFl_any T W
  rw [hTl] at hty
  unfold maxLen at hl hmm
  have HT := Lib.hid hty
  have HP := Lib.hid hpt
  have HB := Lib.hid hb
  have HL : Hid (okLeaf k t x p n = (okType t && decide (n = 0) && (if k = 4 ∨ k = 6 ∨ k = 7 then decide (X.size ≤ 100) && decide (m = 0) else if k = 5 then decide (X.data.toList = []) && okParts p else if k = 8 then decide (X.data.toList = []) && decide (m = 0) else false))) := Lib.hid (by unfold okLeaf; rw [hme, hxe, hXs])
  clear hty hpt hb hT hTl hX hXl hn hm hXs hme hxe hp h ht hx hwf
  rw [HL.out]
  cases hb0 : okType t with
  | false =>
    rw [hb0] at HT
    rw [Bool.false_and, Bool.false_and]
    go_enter Tryz.func29, Tryz.ntmps29
    go_wp2_with (go_at_call 36; refine (HT.out _).mono ?_; rintro e w2 ⟨rfl, rfl⟩)
    go_ret
    exact ⟨rfl, HB.out⟩
  | true =>
    rw [hb0] at HT
    by_cases hn0 : n = 0
    · have tn : decide ((0 : Int) < (n : Int)) = false := by simp; omega
      have tn' : decide (0 < n) = false := by simp; omega
      rw [decide_eq_true hn0]
      clear hn0 hb0
      by_cases h4 : k = 4 ∨ k = 6 ∨ k = 7
      · rw [if_pos h4]
        by_cases hv : X.size ≤ 100
        · have t3 : decide ((X.size : Int) ≤ 100) = true := by simp; omega
          rw [decide_eq_true hv]
          by_cases hm0 : m = 0
          · have t4 : ((m : Int) == 0) = true := by simp; omega
            rw [decide_eq_true hm0]
            clear hm0 hv
            rcases h4 with rfl | rfl | rfl
            all_goals
              go_enter Tryz.func29, Tryz.ntmps29
              go_wp2_with (go_at_call 36; refine (HT.out _).mono ?_; rintro e w2 ⟨rfl, rfl⟩)
              go_ret
              exact ⟨rfl, HB.out⟩
          · have t4 : ((m : Int) == 0) = false := by simp; omega
            rw [decide_eq_false hm0]
            clear hm0 hv
            rcases h4 with rfl | rfl | rfl
            all_goals
              go_enter Tryz.func29, Tryz.ntmps29
              go_wp2_with (go_at_call 36; refine (HT.out _).mono ?_; rintro e w2 ⟨rfl, rfl⟩)
              go_ret
              exact ⟨rfl, HB.out⟩
        · have t3 : decide ((X.size : Int) ≤ 100) = false := by simp; omega
          rw [decide_eq_false hv]
          clear hv
          rcases h4 with rfl | rfl | rfl
          all_goals
            go_enter Tryz.func29, Tryz.ntmps29
            go_wp2_with (go_at_call 36; refine (HT.out _).mono ?_; rintro e w2 ⟨rfl, rfl⟩)
            go_ret
            exact ⟨rfl, HB.out⟩
      · rw [if_neg h4]
        simp only [not_or] at h4
        have k4 : (k == 4) = false := by simpa using h4.1
        have k6 : (k == 6) = false := by simpa using h4.2.1
        have k7 : (k == 7) = false := by simpa using h4.2.2
        clear h4
        by_cases h5 : k = 5
        · subst h5
          rw [if_pos rfl]
          by_cases he : X.data.toList = []
          · obtain ⟨e1, e2⟩ := bytes_nil he
            rw [decide_eq_true he]
            obtain ⟨pb, hpb⟩ : ∃ b, b = okParts p := ⟨_, rfl⟩
            rw [← hpb] at HP ⊢
            clear he hpb
            go_enter Tryz.func29, Tryz.ntmps29
            go_wp2_with (first
              | (go_at_call 36; refine (HT.out _).mono ?_; rintro e w2 ⟨rfl, rfl⟩)
              | (go_at_call 37; refine (HP.out _ HB.out).mono ?_; rintro e w3 ⟨rfl, rfl⟩))
            go_ret
            exact ⟨rfl, HB.out⟩
          · obtain ⟨e1, e2⟩ := bytes_some he
            rw [decide_eq_false he]
            clear he
            go_enter Tryz.func29, Tryz.ntmps29
            go_wp2_with (go_at_call 36; refine (HT.out _).mono ?_; rintro e w2 ⟨rfl, rfl⟩)
            go_ret
            exact ⟨rfl, HB.out⟩
        · have k5 : (k == 5) = false := by simpa using h5
          rw [if_neg h5]
          clear h5
          by_cases h8 : k = 8
          · subst h8
            rw [if_pos rfl]
            by_cases he : X.data.toList = []
            · obtain ⟨e1, e2⟩ := bytes_nil he
              rw [decide_eq_true he]
              by_cases hm0 : m = 0
              · have t4 : ((m : Int) == 0) = true := by simp; omega
                rw [decide_eq_true hm0]
                clear hm0 he
                go_enter Tryz.func29, Tryz.ntmps29
                go_wp2_with (go_at_call 36; refine (HT.out _).mono ?_; rintro e w2 ⟨rfl, rfl⟩)
                go_ret
                exact ⟨rfl, HB.out⟩
              · have t4 : ((m : Int) == 0) = false := by simp; omega
                rw [decide_eq_false hm0]
                clear hm0 he
                go_enter Tryz.func29, Tryz.ntmps29
                go_wp2_with (go_at_call 36; refine (HT.out _).mono ?_; rintro e w2 ⟨rfl, rfl⟩)
                go_ret
                exact ⟨rfl, HB.out⟩
            · obtain ⟨e1, e2⟩ := bytes_some he
              rw [decide_eq_false he]
              clear he
              go_enter Tryz.func29, Tryz.ntmps29
              go_wp2_with (go_at_call 36; refine (HT.out _).mono ?_; rintro e w2 ⟨rfl, rfl⟩)
              go_ret
              exact ⟨rfl, HB.out⟩
          · have k8 : (k == 8) = false := by simpa using h8
            rw [if_neg h8]
            clear h8
            go_enter Tryz.func29, Tryz.ntmps29
            go_wp2_with (go_at_call 36; refine (HT.out _).mono ?_; rintro e w2 ⟨rfl, rfl⟩)
            go_ret
            exact ⟨rfl, HB.out⟩
    · have tn : decide ((0 : Int) < (n : Int)) = true := by simp; omega
      have tn' : decide (0 < n) = true := by simp; omega
      rw [decide_eq_false hn0, Bool.and_false, Bool.false_and]
      clear hn0 hb0
      go_enter Tryz.func29, Tryz.ntmps29
      go_wp2_with (go_at_call 36; refine (HT.out _).mono ?_; rintro e w2 ⟨rfl, rfl⟩)
      go_ret
      exact ⟨rfl, HB.out⟩
end Go.Proofs.YtmilgbkkibahlaaGreatDoor


namespace Go.Proofs.YtmilgbkkibahlaaGreatDoor
open Go.RowKit
set_option linter.unusedVariables false
set_option linter.unusedSimpArgs false

def LaidX (w : World) : Prop := ∃ m : Int, w.cell? ⟨3, 0, none⟩ = some (.int .i64 m)
theorem LaidX.below {w w' : World} (h : LaidX w) (hb : Below w.heap.size w w') : LaidX w' := by
  obtain ⟨m, h⟩ := h
  refine ⟨m, (hb.cell (p := ⟨3, 0, none⟩) ?_).trans h⟩
  show 3 < w.heap.size
  rcases Nat.lt_or_ge 3 w.heap.size with hn | hn
  · exact hn
  · have hx : w.heap[3]? = none := Array.getElem?_eq_none hn
    simp only [World.cell?, hx] at h
    cases h
theorem cut_behind (s x : List UInt8) : (Lib.cut s x).2.1.length ≤ s.length := by
  unfold Lib.cut
  split
  · simp
  · simp
theorem trimP_le (s x : List UInt8) : (Lib.trimPrefix s x).length ≤ s.length := by unfold Lib.trimPrefix; split <;> simp
theorem trimS_le (s x : List UInt8) : (Lib.trimSuffix s x).length ≤ s.length := by unfold Lib.trimSuffix; split <;> simp
set_option maxRecDepth 100000 in
set_option maxHeartbeats 4000000 in
theorem madeOf_any (N : ByteArray) (hN : N.size ≤ 1000000) (p : List (List UInt8)) (b off c n : Nat) (w : World) (hX : LaidX w) (hn : n = p.length) (hn2 : 2 ≤ n) (hn3 : n ≤ 1000000) (hc : n ≤ c)
    (hp : ∀ x ∈ p, x.length ≤ 1000000) (hcell : ∀ j (h : j < p.length), w.cell? ⟨b, off + j, none⟩ = some (strV p[j])) (hb : b < w.heap.size) :
    Calls Tryz.prog 65 #[.string N, .slice (some ⟨b, off, none⟩) n c] w fun e w' => e = .returned (.bool (madeO N.data.toList p)) ∧ Below w.heap.size w w' := by
  obtain ⟨R, hR⟩ : ∃ R, R = madeO N.data.toList p := ⟨_, rfl⟩
  rw [← hR]
  unfold madeO at hR
  rw [← hn] at hR
  obtain ⟨T0, hT0, hTl0⟩ := strV_text (p.getD 0 [])
  obtain ⟨T1, hT1, hTl1⟩ := strV_text (p.getD (n - 1) [])
  have hc0 : w.cell? ⟨b, off, none⟩ = some (.string T0) := by
    have := hcell 0 (by omega)
    rw [Nat.add_zero] at this
    rw [this, ← hT0, List.getD_eq_getElem?_getD, List.getElem?_eq_getElem (by omega)]
    rfl
  obtain ⟨n1, hn1⟩ : ∃ m, n = m + 1 := ⟨n - 1, by omega⟩
  have hc1 : w.cell? ⟨b, off + n1, none⟩ = some (.string T1) := by
    rw [hcell n1 (by omega), ← hT1, show n - 1 = n1 from by omega, List.getD_eq_getElem?_getD, List.getElem?_eq_getElem (by omega)]
    rfl
  rw [← hTl0, ← hTl1] at hR
  have hcp := fun W => Tryz.strings_CutPrefix N T0 W
  obtain ⟨R1, hR1⟩ : ∃ B : ByteArray, B = ⟨(Lib.trimPrefix N.data.toList T0.data.toList).toArray⟩ := ⟨_, rfl⟩
  have hR1l : R1.data.toList = Lib.trimPrefix N.data.toList T0.data.toList := by rw [hR1]
  have hR1s : R1.size ≤ 1000000 := by rw [← bytes_len, hR1l]; have := trimP_le N.data.toList T0.data.toList; rw [bytes_len] at this; omega
  obtain ⟨B1, hB1⟩ : ∃ x, x = Lib.hasPrefix N.data.toList T0.data.toList := ⟨_, rfl⟩
  rw [← hR1, ← hB1] at hcp
  rw [← hB1, ← hR1l] at hR
  have hcs := fun W => Tryz.strings_CutSuffix R1 T1 W (by omega)
  obtain ⟨R2, hR2⟩ : ∃ B : ByteArray, B = ⟨(Lib.trimSuffix R1.data.toList T1.data.toList).toArray⟩ := ⟨_, rfl⟩
  have hR2l : R2.data.toList = Lib.trimSuffix R1.data.toList T1.data.toList := by rw [hR2]
  have hR2s : R2.size ≤ 1000000 := by rw [← bytes_len, hR2l]; have := trimS_le R1.data.toList T1.data.toList; rw [bytes_len] at this; omega
  obtain ⟨B2, hB2⟩ : ∃ x, x = Lib.hasSuffix R1.data.toList T1.data.toList := ⟨_, rfl⟩
  rw [← hR2, ← hB2] at hcs
  rw [← hB2, ← hR2l] at hR
  obtain ⟨M, hM⟩ : ∃ M, M = (p.drop 1).take (n - 2) := ⟨_, rfl⟩
  rw [← hM] at hR
  have hMl : M.length = n - 2 := by rw [hM, List.length_take, List.length_drop, ← hn]; omega
  obtain ⟨m, hm⟩ : ∃ m, n1 = m + 1 := ⟨n1 - 1, by omega⟩
  subst hm
  subst hn1
  have hMm : M.length = m := by omega
  have hMc : ∀ j (h : j < M.length), w.cell? ⟨b, off + 1 + j, none⟩ = some (strV M[j]) ∧ M[j].length ≤ 1000000 := fun j h => by
    have h2 : j + 1 < p.length := by omega
    have he : M[j] = p[j + 1] := by simp only [hM, List.getElem_take, List.getElem_drop]; congr 1; omega
    rw [he]
    refine ⟨?_, hp _ (List.getElem_mem _)⟩
    have := hcell (j + 1) h2
    rw [show off + 1 + j = off + (j + 1) from by omega]
    exact this
  have HCp := Lib.hid hcp
  have HCs := Lib.hid hcs
  have HR := Lib.hid hR
  have HMc := Lib.hid hMc
  have HMm := Lib.hid hMm
  have HX := Lib.hid hX
  have HR2 := Lib.hid hR2s
  have e1 : IntKind.i64.wrap ((m : Int) + 1 + 1 - 1) = (m : Int) + 1 := by rw [IntWalk.i64_in _ (by omega)]; omega
  have i0 : (0 : Int) < (m : Int) + 1 + 1 := by omega
  have i1 : (m : Int) + 1 < (m : Int) + 1 + 1 := by omega
  have i2 : (0 : Int) ≤ (m : Int) + 1 := by omega
  have i3 : ((m : Int) + 1).toNat = m + 1 := by omega
  have i4 : (1 : Int) ≤ (m : Int) + 1 := by omega
  have i5 : (m : Int) + 1 ≤ (c : Int) := by omega
  have ec : ¬ c = 1 := by omega
  clear hcp hcs hR hMc hMm hX hR1 hR1l hR1s hR2 hR2l hR2s hM hMl hT0 hT1 hTl0 hTl1 hB1 hB2 hcell hp hn
  go_enter Tryz.func65, Tryz.ntmps65
  go_upto_region 4 with (first
    | (go_at_call 80; refine (HCp.out _).mono ?_; rintro e w2 ⟨rfl, hw⟩; replace hw := hw.symm; subst hw)
    | (go_at_call 81; refine (HCs.out _).mono ?_; rintro e w3 ⟨rfl, hw⟩; replace hw := hw.symm; subst hw))
  cases B1 with
  | false =>
    go_wp2
    go_ret
    exact ⟨by rw [HR.out]; rfl, Below.refl _ _⟩
  | true =>
    cases B2 with
    | false =>
      go_wp2
      go_ret
      exact ⟨by rw [HR.out]; rfl, Below.refl _ _⟩
    | true =>
      go_wp2
      go_loopw [6, 44] (fun r i wr => ∃ (j : Nat) (S : ByteArray), j ≤ m ∧ i = .int .i64 j ∧ r = .string S ∧ S.size ≤ 1000000 ∧ Hid (R = midO S.data.toList (M.drop j)) ∧ Below w.heap.size w wr) (fun _ i _ => m - (intOf i).toNat)
      case atStart => exact ⟨0, R2, by omega, rfl, rfl, HR2.out, Lib.hid (by rw [HR.out]; rfl), Below.refl _ _⟩
      case round =>
        obtain ⟨j, S, hj, rfl, rfl, hS, HSay, hbel⟩ := hrel
        rename World => wo
        have HBel := Lib.hid hbel
        have hbs : w.heap.size ≤ wo.heap.size := hbel.size
        by_cases hlt : j < m
        · have t1 : decide ((j : Int) < (m : Int)) = true := by simp; omega
          have t1' : decide (j < m) = true := by simpa using hlt
          have hjM : j < M.length := by rw [HMm.out]; exact hlt
          obtain ⟨hce, hxl⟩ := HMc.out j hjM
          obtain ⟨X, hX, hXl⟩ := strV_text M[j]
          have d0 : wo.cell? ⟨b, off + 1 + j, none⟩ = some (.string X) := by rw [hbel.cell (p := ⟨b, _, none⟩) hb, hce, hX]
          have hXs : X.size ≤ 1000000 := by rw [← bytes_len, hXl]; exact hxl
          obtain ⟨mm, hmm⟩ := HX.out.below hbel
          have hct := Tryz.strings_Cut S X mm wo (by omega) hmm
          have hdr : M.drop j = M[j] :: M.drop (j + 1) := List.drop_eq_getElem_cons hjM
          have hsay := HSay.out
          rw [hdr] at hsay
          have hst : R = ((Lib.cut S.data.toList X.data.toList).2.2 && midO (Lib.cut S.data.toList X.data.toList).2.1 (M.drop (j + 1))) := by rw [hsay, hXl]; rfl
          have hbl : (Lib.cut S.data.toList X.data.toList).2.1.length ≤ 1000000 := by have := cut_behind S.data.toList X.data.toList; rw [bytes_len] at this; omega
          obtain ⟨A, hA⟩ : ∃ A : ByteArray, A = ⟨(Lib.cut S.data.toList X.data.toList).1.toArray⟩ := ⟨_, rfl⟩
          obtain ⟨B, hB⟩ : ∃ A : ByteArray, A = ⟨(Lib.cut S.data.toList X.data.toList).2.1.toArray⟩ := ⟨_, rfl⟩
          have hBl : B.data.toList = (Lib.cut S.data.toList X.data.toList).2.1 := by rw [hB]
          have hBs : B.size ≤ 1000000 := by rw [← bytes_len, hBl]; exact hbl
          obtain ⟨f, hf⟩ : ∃ f, f = (Lib.cut S.data.toList X.data.toList).2.2 := ⟨_, rfl⟩
          rw [← hA, ← hB, ← hf] at hct
          rw [← hf, ← hBl] at hst
          have HCt := Lib.hid hct
          have HSt := Lib.hid hst
          clear hct hst hA hB hBl hf hbl hsay hdr hX hXl hce hxl hmm hbel
          cases f with
          | false =>
            go_wp2_with (go_at_call 82; refine (HCt.out).mono ?_; rintro e w4 ⟨rfl, q, hw⟩; have HB4 := Lib.hid (show Below w.heap.size w w4 from by rw [hw]; exact HBel.out.trans (Below.mono ⟨rfl, rfl, rfl, Nat.le_refl _, fun _ _ => rfl⟩ hbs)); clear hw)
            go_ret
            exact ⟨by rw [HSt.out]; rfl, HB4.out⟩
          | true =>
            go_wp2_with (go_at_call 82; refine (HCt.out).mono ?_; rintro e w4 ⟨rfl, q, hw⟩; have HB4 := Lib.hid (show Below w.heap.size w w4 from by rw [hw]; exact HBel.out.trans (Below.mono ⟨rfl, rfl, rfl, Nat.le_refl _, fun _ _ => rfl⟩ hbs)); clear hw)
            go_roundw
            case rel => exact ⟨j + 1, B, by omega, by go_num, rfl, hBs, Lib.hid (by rw [HSt.out]; rfl), HB4.out⟩
            case measure => simp [intOf]; omega
        · obtain rfl : j = m := by omega
          have t1 : decide ((j : Int) < (j : Int)) = false := by simp
          have t1' : decide (j < j) = false := by simp
          have HTrue : Hid (R = true) := Lib.hid (by rw [HSay.out, List.drop_of_length_le (by rw [HMm.out]; exact Nat.le_refl _)]; rfl)
          clear hbel
          go_wp2
          go_ret
          exact ⟨by rw [HTrue.out]; rfl, HBel.out⟩
end Go.Proofs.YtmilgbkkibahlaaGreatDoor


namespace Go.Proofs.YtmilgbkkibahlaaGreatDoor
set_option linter.unusedVariables false

theorem escC_zero {f l : Bool} {c : UInt8} (h : kindC c = 0) : (escC f l c).length = 3 := by unfold escC; rw [if_pos h]; rfl
theorem escC_need {f l : Bool} {c : UInt8} (h : kindC c ≠ 0) (hn : needC c f l = true) : (escC f l c).length = 2 := by unfold escC; rw [if_neg h, if_pos hn]; rfl
theorem escC_one {f l : Bool} {c : UInt8} (h : kindC c ≠ 0) (hn : ¬ needC c f l = true) : (escC f l c).length = 1 := by unfold escC; rw [if_neg h, if_neg hn]; rfl
theorem escC_le3 (f l : Bool) (c : UInt8) : (escC f l c).length ≤ 3 := by unfold escC; split <;> (try split) <;> simp
theorem escC_le2 {f l : Bool} {c : UInt8} (h : kindC c ≠ 0) : (escC f l c).length ≤ 2 := by unfold escC; rw [if_neg h]; split <;> simp
theorem escC_ge1 (f l : Bool) (c : UInt8) : 1 ≤ (escC f l c).length := by unfold escC; split <;> (try split) <;> simp

theorem valN_empty {n : Nat} {f : Bool} {s : List UInt8} (h : valN n f s = some []) : s = [] := by
  cases n with
  | zero => unfold valN at h; split at h; assumption; cases h
  | succ n =>
    unfold valN at h
    split at h
    · assumption
    · split at h
      · cases h
      · cases hv : valN n false (s.drop (oneD f s).2) with
        | none => rw [hv] at h; cases h
        | some v => rw [hv] at h; simp at h
theorem valN_of_nil {n : Nat} {f : Bool} {v : List UInt8} (h : valN n f [] = some v) : v = [] := by
  cases n with
  | zero => simp [valN] at h; exact h
  | succ n => simp [valN] at h; exact h

theorem val_len : ∀ (n : Nat) (f : Bool) (s v : List UInt8), valN n f s = some v → (escR f v).length ≤ s.length
  | 0, f, s, v, h => by
    unfold valN at h
    split at h
    · cases h; simp [escR]
    · cases h
  | n + 1, f, s, v, h => by
    unfold valN at h
    split at h
    · cases h; simp [escR]
    · rename_i hne
      split at h
      · cases h
      · rename_i hk
        cases hv : valN n false (s.drop (oneD f s).2) with
        | none => rw [hv] at h; cases h
        | some v' =>
          rw [hv] at h
          simp only [Option.map_some, Option.some.injEq] at h
          subst h
          have ih := val_len n false _ _ hv
          rw [List.length_drop] at ih
          have key : (escC f v'.isEmpty (oneD f s).1).length ≤ (oneD f s).2 ∧ (oneD f s).2 ≤ s.length := by
            cases s with
            | nil => exact absurd rfl hne
            | cons a r =>
              by_cases h92 : a.toNat = 92
              · have e1 : oneD f (a :: r) = behD r := by simp only [oneD]; rw [if_pos h92]
                rw [e1] at hk ⊢
                cases r with
                | nil => exact absurd rfl hk
                | cons x r' =>
                  by_cases h2 : 2 ≤ kindC x
                  · rw [behD_free h2]
                    exact ⟨escC_le2 (by show kindC x ≠ 0; omega), by simp⟩
                  · cases r' with
                    | nil => rw [behD_nil h2] at hk; exact absurd rfl hk
                    | cons y r'' =>
                      rw [behD_hex h2] at hk ⊢
                      split
                      · exact ⟨escC_le3 _ _ _, by simp⟩
                      · rename_i hh
                        rw [if_neg hh] at hk
                        exact absurd rfl hk
              · by_cases hb : kindC a = 0 ∨ needC a f r.isEmpty = true
                · have e1 : oneD f (a :: r) = (0, 0) := by simp only [oneD]; rw [if_neg h92, if_pos hb]
                  rw [e1] at hk
                  exact absurd rfl hk
                · have e1 : oneD f (a :: r) = (a, 1) := by simp only [oneD]; rw [if_neg h92, if_neg hb]
                  rw [e1] at hv ⊢
                  have he : v'.isEmpty = r.isEmpty := by
                    simp only [List.drop_succ_cons, List.drop_zero] at hv
                    cases r with
                    | nil => rw [valN_of_nil hv]
                    | cons x y =>
                      cases v' with
                      | nil => exact absurd (valN_empty hv) (by simp)
                      | cons p q => rfl
                  rw [he]
                  refine ⟨?_, by simp⟩
                  have := escC_one (f := f) (l := r.isEmpty) (c := a) (fun e => hb (.inl e)) (fun e => hb (.inr e))
                  show (escC f r.isEmpty a).length ≤ 1
                  omega
          simp only [escR, List.length_append]
          omega
theorem cut_len : ∀ (s : List UInt8), (cutD s).1.length + (if (cutD s).2.2 = true then 1 + (cutD s).2.1.length else 0) ≤ s.length := by
  intro s
  induction s using cutD.induct with
  | case1 => simp [cutD]
  | case2 c r h => rw [cutD_com h]; simp; omega
  | case3 c h1 h2 => 
    have e : c = 92 := UInt8.toNat_inj.1 h2
    subst e
    simp [cutD]
  | case4 c h1 h2 x r ih =>
    have e : c = 92 := UInt8.toNat_inj.1 h2
    subst e
    rw [cutD_two]
    simp only [List.length_cons]
    split at ih <;> rename_i hh <;> simp only [hh, if_true, Bool.false_eq_true, if_false] at ih ⊢ <;> omega
  | case5 c r h1 h2 ih =>
    rw [cutD_one ⟨h1, h2⟩]
    simp only [List.length_cons]
    split at ih <;> rename_i hh <;> simp only [hh, if_true, Bool.false_eq_true, if_false] at ih ⊢ <;> omega
theorem rdn_len {s : List UInt8} {r : R} (h : rdnD s = some r) : (textR r).length ≤ s.length := by
  unfold rdnD at h
  split at h
  · split at h
    · rename_i v hv
      split at h
      · rename_i h2
        cases h
        have h3 := val_len _ _ _ _ hv
        have h4 : (nameD s).length + (s.dropWhile (· ≠ 61)).length = s.length := by
          have := congrArg List.length (List.takeWhile_append_dropWhile (p := (· ≠ (61 : UInt8))) (l := s))
          rw [List.length_append] at this
          exact this
        have h5 : afterD s ≠ [] := by
          intro e
          rw [e] at hv
          exact h2.1 (valN_of_nil hv)
        have h6 : (afterD s).length + 1 = (s.dropWhile (· ≠ 61)).length := by
          unfold afterD at h5 ⊢
          rw [List.length_drop]
          cases hd : s.dropWhile (· ≠ 61) with
          | nil => rw [hd] at h5; exact absurd rfl h5
          | cons a b => simp
        unfold textR escV
        simp only [List.length_append, List.length_cons]
        omega
      · cases h
    · cases h
  · cases h
theorem par_len : ∀ (k : Nat) (s : List UInt8) (l : List R), parN k s = some l → (textD l).length ≤ s.length
  | 0, s, l, h => by cases h
  | k + 1, s, l, h => by
    unfold parN at h
    split at h
    · cases h
    · rename_i r hr
      have hl := rdn_len hr
      have hc := cut_len s
      split at h
      · rename_i hm
        rw [if_pos hm] at hc
        cases hp : parN k (cutD s).2.1 with
        | none => rw [hp] at h; cases h
        | some l' =>
          rw [hp] at h
          simp only [Option.map_some, Option.some.injEq] at h
          subst h
          have ih := par_len k _ _ hp
          have hne := (par_ok k _ _ hp).2.2
          cases l' with
          | nil => exact absurd rfl hne
          | cons x y =>
            rw [text_cons]
            simp only [List.length_append, List.length_cons]
            omega
      · cases h
        show (textR r).length ≤ _
        omega
theorem parse_len {s : List UInt8} {l : List R} (h : parseD s = some l) : (textD l).length ≤ s.length := by
  unfold parseD at h
  split at h
  · cases h; simp [textD]
  · exact par_len 8 s l h

-- a folded value's text is no longer than the value's
def baseC (c : UInt8) : Nat := if kindC c = 0 then 3 else if kindC c = 5 then 2 else 1
def sumB (l : List UInt8) : Nat := (l.map baseC).sum
theorem sumB_app (a b : List UInt8) : sumB (a ++ b) = sumB a + sumB b := by simp [sumB]
theorem sumB_one (c : UInt8) : sumB [c] = baseC c := by simp [sumB]
theorem sumB_cons (c : UInt8) (l : List UInt8) : sumB (c :: l) = baseC c + sumB l := by simp [sumB]
theorem baseC_low (c : UInt8) : baseC (lowC c) = baseC c := by
  have := all_bytes (fun c => baseC (lowC c) == baseC c) (by decide +kernel) c
  simpa using this
theorem kind_spec (c : UInt8) : (kindC c = 4 → c.toNat = 32) ∧ (kindC c = 3 → c.toNat = 35) := by
  have := all_bytes (fun c => (!(kindC c == 4) || decide (c.toNat = 32)) && (!(kindC c == 3) || decide (c.toNat = 35))) (by decide +kernel) c
  simp only [Bool.and_eq_true, Bool.or_eq_true, Bool.not_eq_true', beq_eq_false_iff_ne, decide_eq_true_eq] at this
  exact ⟨fun h => this.1.resolve_left (fun e => e h), fun h => this.2.resolve_left (fun e => e h)⟩
theorem kind_of (c : UInt8) : (c.toNat = 32 → kindC c = 4) ∧ (c.toNat = 35 → kindC c = 3) := by
  have := all_bytes (fun c => (!decide (c.toNat = 32) || kindC c == 4) && (!decide (c.toNat = 35) || kindC c == 3)) (by decide +kernel) c
  simp only [Bool.and_eq_true, Bool.or_eq_true, Bool.not_eq_true', decide_eq_false_iff_not, beq_iff_eq] at this
  exact ⟨fun h => this.1.resolve_left (fun e => e h), fun h => this.2.resolve_left (fun e => e h)⟩
theorem esc_up : ∀ (w : List UInt8) (f : Bool), (∀ y, w.getLast? = some y → y.toNat ≠ 32) → (f = true → ∀ y, w.head? = some y → y.toNat ≠ 32) →
    (escR f w).length ≤ sumB w + (if f = true ∧ (∃ y, w.head? = some y ∧ y.toNat = 35) then 1 else 0)
  | [], f, _, _ => by simp [escR, sumB]
  | c :: r, f, hl, hh => by
    have ih := esc_up r false (fun y hy => by
      cases r with
      | nil => simp at hy
      | cons a b => exact hl y (by rw [List.getLast?_cons_cons]; exact hy)) (fun h => by cases h)
    simp only [Bool.false_eq_true, false_and, if_false, Nat.add_zero] at ih
    have hc : (escC f r.isEmpty c).length ≤ baseC c + (if f = true ∧ c.toNat = 35 then 1 else 0) := by
      by_cases h0 : kindC c = 0
      · rw [escC_zero h0]; unfold baseC; rw [if_pos h0]; omega
      · by_cases hn : needC c f r.isEmpty = true
        · rw [escC_need h0 hn]
          unfold baseC
          rw [if_neg h0]
          unfold needC at hn
          simp only [Bool.or_eq_true, beq_iff_eq, Bool.and_eq_true] at hn
          rcases hn with (h5 | ⟨h3, hf⟩) | ⟨h4, hfl⟩
          · rw [if_pos h5]; omega
          · rw [if_pos (⟨hf, (kind_spec c).2 h3⟩ : f = true ∧ c.toNat = 35)]; split <;> omega
          · exfalso
            have h32 := (kind_spec c).1 h4
            rcases hfl with hf | hlast
            · exact hh hf c rfl h32
            · cases r with
              | nil => exact hl c rfl h32
              | cons a b => simp at hlast
        · rw [escC_one h0 hn]; unfold baseC; rw [if_neg h0]; split <;> omega
    simp only [escR, List.length_append, sumB_cons]
    have e : (f = true ∧ ∃ y, (c :: r).head? = some y ∧ y.toNat = 35) ↔ (f = true ∧ c.toNat = 35) := by simp
    simp only [e]
    omega
theorem esc_low : ∀ (v : List UInt8) (f : Bool), sumB v + (if f = true ∧ (∃ y, v.head? = some y ∧ (y.toNat = 35 ∨ y.toNat = 32)) then 1 else 0) ≤ (escR f v).length
  | [], f => by simp [escR, sumB]
  | c :: r, f => by
    have ih := esc_low r false
    simp only [Bool.false_eq_true, false_and, if_false, Nat.add_zero] at ih
    have hc : baseC c + (if f = true ∧ (c.toNat = 35 ∨ c.toNat = 32) then 1 else 0) ≤ (escC f r.isEmpty c).length := by
      by_cases hx : f = true ∧ (c.toNat = 35 ∨ c.toNat = 32)
      · rw [if_pos hx]
        have hk : (kindC c = 3 ∨ kindC c = 4) := by
          rcases hx.2 with h | h
          · exact .inl ((kind_of c).2 h)
          · exact .inr ((kind_of c).1 h)
        have hn : needC c f r.isEmpty = true := by
          unfold needC
          rw [hx.1]
          rcases hk with h | h <;> simp [h]
        have h0 : kindC c ≠ 0 := by omega
        rw [escC_need h0 hn]
        unfold baseC
        rw [if_neg h0, if_neg (by omega)]
        omega
      · rw [if_neg hx]
        unfold baseC
        by_cases h0 : kindC c = 0
        · rw [if_pos h0, escC_zero h0]; omega
        · rw [if_neg h0]
          by_cases h5 : kindC c = 5
          · rw [if_pos h5, escC_need h0 (by unfold needC; simp [h5])]; omega
          · rw [if_neg h5]; have := escC_ge1 f r.isEmpty c; omega
    simp only [escR, List.length_append, sumB_cons]
    have e : (f = true ∧ ∃ y, (c :: r).head? = some y ∧ (y.toNat = 35 ∨ y.toNat = 32)) ↔ (f = true ∧ (c.toNat = 35 ∨ c.toNat = 32)) := by simp
    simp only [e]
    omega
theorem frun_sum : ∀ l : List UInt8, sumB (frun l).1 + (if (frun l).2 = true then 1 else 0) ≤ sumB l := by
  refine snoc_ind (by simp [frun, sumB]) ?_
  intro l c ih
  rw [frun_snoc, sumB_app, sumB_one]
  by_cases h : c.toNat = 32
  · rw [fstep_blank _ _ h]
    have hb : baseC c = 1 := by unfold baseC; rw [(kind_of c).1 h]; rfl
    rw [hb]
    dsimp only
    split <;> split at ih <;> omega
  · rw [fstep_other _ _ h]
    simp only [sumB_app, sumB_one, baseC_low]
    have : sumB (if (frun l).2 = true then ([32] : List UInt8) else []) = if (frun l).2 = true then 1 else 0 := by
      split
      · rw [sumB_one]; decide
      · rfl
    rw [this]
    simp only [Bool.false_eq_true, if_false]
    omega
theorem frun_first : ∀ l : List UInt8, ∀ y, (frun l).1.head? = some y → y.toNat ≠ 32 := by
  refine snoc_ind (by simp [frun]) ?_
  intro l c ih y hy
  rw [frun_snoc] at hy
  by_cases h : c.toNat = 32
  · rw [fstep_blank _ _ h] at hy
    exact ih y hy
  · rw [fstep_other _ _ h] at hy
    cases ho : (frun l).1 with
    | nil =>
      have hg : (frun l).2 = false := by
        cases hw : (frun l).2 with
        | false => rfl
        | true => exact absurd ho (frun_gap l hw)
      rw [ho, hg] at hy
      simp at hy
      rw [← hy]
      exact fun e => h ((lowC_blank c).1 e)
    | cons a b =>
      rw [ho] at hy
      simp at hy
      exact ih y (by rw [ho]; simpa using hy)
theorem foldl_head : ∀ (r : List UInt8) (st : List UInt8 × Bool) (x : UInt8), st.1.head? = some x → (r.foldl fstep st).1.head? = some x
  | [], _, _, h => h
  | c :: r, st, x, h => by
    rw [List.foldl_cons]
    refine foldl_head r _ x ?_
    unfold fstep
    split
    · exact h
    · cases hs : st.1 with
      | nil => rw [hs] at h; cases h
      | cons a b => rw [hs] at h; simpa using h
theorem fold_head {c : UInt8} {r : List UInt8} (h : c.toNat ≠ 32) : (fold (c :: r)).head? = some (lowC c) := by
  unfold fold frun
  rw [List.foldl_cons]
  refine foldl_head r _ _ ?_
  rw [fstep_other _ _ h]; rfl
theorem esc_fold (v : List UInt8) : (escV (fold v)).length ≤ (escV v).length := by
  have h1 := esc_up (fold v) true (frun_spaced v).2 (fun _ => frun_first v)
  have h2 := esc_low v true
  have h3 := frun_sum v
  have h3' : sumB (fold v) ≤ sumB v := by unfold fold; split at h3 <;> omega
  unfold escV
  by_cases hx : ∃ y, (fold v).head? = some y ∧ y.toNat = 35
  · rw [if_pos ⟨rfl, hx⟩] at h1
    have hv : ∃ y, v.head? = some y ∧ (y.toNat = 35 ∨ y.toNat = 32) := by
      obtain ⟨y, hy, h35⟩ := hx
      cases v with
      | nil => simp [fold, frun] at hy
      | cons c r =>
        refine ⟨c, rfl, ?_⟩
        by_cases h32 : c.toNat = 32
        · exact .inr h32
        · rw [fold_head h32] at hy
          simp only [Option.some.injEq] at hy
          rw [← hy, lowC_toNat] at h35
          split at h35
          · omega
          · exact .inl h35
    rw [if_pos ⟨rfl, hv⟩] at h2
    omega
  · rw [if_neg (fun e => hx e.2)] at h1
    split at h2 <;> omega
theorem text_norm_len : ∀ l : List R, (textD (l.map normR)).length ≤ (textD l).length
  | [] => by simp [textD]
  | [r] => by
    show (textR (normR r)).length ≤ (textR r).length
    have := esc_fold r.2
    unfold textR normR
    simp only [List.length_append, List.length_cons, low_length]
    omega
  | r :: x :: l => by
    have ih := text_norm_len (x :: l)
    have := esc_fold r.2
    rw [List.map_cons, List.map_cons, text_cons, text_cons]
    rw [List.map_cons] at ih
    have e : (textR (normR r)).length ≤ (textR r).length := by
      unfold textR normR
      simp only [List.length_append, List.length_cons, low_length]
      omega
    simp only [List.length_append, List.length_cons]
    omega
theorem normR_norm (r : R) : normR (normR r) = normR r := by simp [normR, low_low, fold_fold]
theorem key_key {v k : List UInt8} (h : keyD v = some k) : keyD k = some k ∧ k.length ≤ v.length := by
  unfold keyD at h
  cases hp : parseD v with
  | none => rw [hp] at h; cases h
  | some l =>
    rw [hp] at h
    simp only at h
    split at h
    · rename_i hf
      cases h
      have hok := parse_ok hp
      have h1 := okL_norm hok hf
      have h2 : (l.map normR).all okF = true := by
        rw [List.all_map]
        have : (okF ∘ normR) = okF := by funext r; simp [okF, normR, fold_fold]
        rw [this]; exact hf
      have h3 := key_text h1 h2
      have h4 : (l.map normR).map normR = l.map normR := by
        rw [List.map_map]
        congr 1
        funext r
        exact normR_norm r
      rw [h4] at h3
      exact ⟨h3, Nat.le_trans (text_norm_len l) (parse_len hp)⟩
    · cases h
end Go.Proofs.YtmilgbkkibahlaaGreatDoor


namespace Go.Proofs.YtmilgbkkibahlaaGreatDoor
open Go.RowKit
set_option linter.unusedVariables false
set_option linter.unusedSimpArgs false

theorem all_take {P : FT → Bool} {l : List FT} {j : Nat} (hj : j < l.length) (h : (l.take j).all P = true) : (l.take (j + 1)).all P = P l[j] := by
  rw [List.take_succ_eq_append_getElem hj, List.all_append, h]
  simp
theorem all_at {P : FT → Bool} {l : List FT} {j : Nat} (hj : j < l.length) (h : P l[j] = false) : l.all P = false := by
  rw [← Bool.not_eq_true, List.all_eq_true]
  intro ha
  have := ha _ (List.getElem_mem hj)
  rw [h] at this
  cases this

set_option maxRecDepth 100000 in
set_option maxHeartbeats 8000000 in
theorem may_all : ∀ (d above : Nat) (f : FT) (v : Value) (w : World), above + d = 13 → IsFl (Lt w) w f v →
    Calls Tryz.prog 22 #[v, .int .i64 above] w fun e w' => e = .returned (.bool (mayF d f)) ∧ Below w.heap.size w w' := by
  intro d
  induction d with
  | zero =>
    intro above f v w hd h
    obtain ⟨k, T, X, pa, pn, pc, ka, kn, kc, rfl⟩ := h.shape
    have hb := box5 w (.int .i64 k) (.string T) (.string X) (.slice pa pn pc) (.slice ka kn kc)
    have t1 : decide ((12 : Int) < (above : Int)) = true := by simp; omega
    have HB := Lib.hid hb
    clear hd hb h
    go_enter Tryz.func22, Tryz.ntmps22
    go_wp2
    go_ret
    exact ⟨by cases f; rfl, HB.out⟩
  | succ d ih =>
    intro above f v w hd h
    obtain ⟨k, t, x, p, l⟩ := f
    have hleaf := fun W (hW : Below w.heap.size w W) => mayLeaf_any k t x p l v W (h.imp (fun b h => Nat.lt_of_lt_of_le h hW.size) (fun b o h => hW.cell (p := ⟨b, o, none⟩) h))
    obtain ⟨pa, pc, ka, kc, rfl, hwf, ht, hx, hp, hl, hkids⟩ := h.parts
    obtain ⟨T, hT, hTl⟩ := strV_text t
    obtain ⟨X, hX, hXl⟩ := strV_text x
    rw [hT, hX] at hleaf ⊢
    have hte : t.isEmpty = decide (T.data.toList = []) := by rw [hTl]; cases t <;> simp
    have hxe : x.isEmpty = decide (X.data.toList = []) := by rw [hXl]; cases x <;> simp
    have hpe : p.isEmpty = decide (p.length = 0) := by cases p <;> simp
    have hr0 : mayF (d + 1) (.mk k t x p l) = if holdsC k then decide (T.data.toList = []) && decide (X.data.toList = []) && decide (p.length = 0) && kidsC k l.length && l.all (mayF d) else okLeaf k t x p l.length := by
      rw [← hte, ← hxe, ← hpe]; rfl
    obtain ⟨n, hn⟩ : ∃ n, n = l.length := ⟨_, rfl⟩
    obtain ⟨m, hm⟩ : ∃ m, m = p.length := ⟨_, rfl⟩
    rw [← hn] at hl hleaf hr0 ⊢
    rw [← hm] at hleaf hr0 ⊢
    have hmm : m ≤ maxLen := by rw [hm]; exact hp.choose_spec.choose_spec.2.1
    unfold maxLen at hl hmm
    obtain ⟨W0, hW0⟩ : ∃ W, W = w.alloc (.cells #[.int .i64 k, .string T, .string X, .slice pa m pc, .slice ka n kc] 31) := ⟨_, rfl⟩
    have hb0 : Below w.heap.size w W0 := by rw [hW0]; exact box5 w _ _ _ _ _
    have hbx : W0.heap[w.heap.size]? = some (.cells #[.int .i64 k, .string T, .string X, .slice pa m pc, .slice ka n kc] 31 (0, 0)) := by rw [hW0]; exact heap_alloc_new w _
    have q0 : W0.cell? ⟨w.heap.size, 0, none⟩ = some (.int .i64 k) := by simp [World.cell?, hbx]
    have q1 : W0.cell? ⟨w.heap.size, 1, none⟩ = some (.string T) := by simp [World.cell?, hbx]
    have q2 : W0.cell? ⟨w.heap.size, 2, none⟩ = some (.string X) := by simp [World.cell?, hbx]
    have q3 : W0.cell? ⟨w.heap.size, 3, none⟩ = some (.slice pa m pc) := by simp [World.cell?, hbx]
    have q4 : W0.cell? ⟨w.heap.size, 4, none⟩ = some (.slice ka n kc) := by simp [World.cell?, hbx]
    have t1 : decide ((12 : Int) < (above : Int)) = false := by simp; omega
    have hab12 : (above : Int) ≤ 12 := by omega
    have HR := Lib.hid hr0
    have HN := Lib.hid hn
    have HW0 := Lib.hid hW0.symm
    have HB0 := Lib.hid hb0
    have HLeaf := Lib.hid (hleaf W0 hb0)
    have HKids := Lib.hid hkids
    have HH := fun w => holds_any k w
    have HMk := fun w => mayKids_any k n w
    have HI : Hid (∀ (f : FT) (v : Value) (w : World), above + 1 + d = 13 → IsFl (Lt w) w f v → Calls Tryz.prog 22 #[v, .int .i64 ((above : Int) + 1)] w fun e w' => e = .returned (.bool (mayF d f)) ∧ Below w.heap.size w w') := Lib.hid (fun f v w h1 h2 => by have := ih (above + 1) f v w h1 h2; rwa [show (((above + 1 : Nat)) : Int) = (above : Int) + 1 from by omega] at this)
    have HD := Lib.hid hd
    clear hleaf hkids hT hTl hX hXl hte hxe hpe hr0 hn hm hb0 hbx hW0 hwf ht hx hp h ih hd
    rw [HR.out]
    obtain ⟨hk, hhk⟩ : ∃ b, b = holdsC k := ⟨_, rfl⟩
    rw [← hhk] at HH ⊢
    have HH2 := Lib.hid HH
    clear HH hhk
    cases hk with
    | false =>
      obtain ⟨r, hr⟩ : ∃ r, r = okLeaf k t x p n := ⟨_, rfl⟩
      rw [← hr] at HLeaf
      show Calls _ _ _ _ fun e w' => e = .returned (.bool (if false = true then _ else okLeaf k t x p n)) ∧ _
      rw [if_neg (by decide), ← hr]
      clear hr
      go_enter Tryz.func22, Tryz.ntmps22
      go_upto_region 1 with (fail)
      rw [HW0.out]
      go_wp2_with (first
        | (go_at_call 28; refine (HH2.out _).mono ?_; rintro e w2 ⟨rfl, rfl⟩)
        | (go_at_call 29; refine (HLeaf.out).mono ?_; rintro e w3 ⟨rfl, hb3⟩; have HB3 := Lib.hid (bthen HB0.out hb3); clear hb3))
      go_ret
      exact ⟨rfl, HB3.out⟩
    | true =>
      rw [if_pos rfl]
      by_cases hT0 : T.data.toList = []
      · obtain ⟨e1, e2⟩ := bytes_nil hT0
        rw [decide_eq_true hT0, Bool.true_and]
        clear hT0
        by_cases hX0 : X.data.toList = []
        · obtain ⟨e3, e4⟩ := bytes_nil hX0
          rw [decide_eq_true hX0, Bool.true_and]
          clear hX0
          by_cases hm0 : m = 0
          · have t3 : decide ((0 : Int) < (m : Int)) = false := by simp; omega
            have t3' : decide (0 < m) = false := by simp; omega
            rw [decide_eq_true hm0, Bool.true_and]
            clear hm0
            obtain ⟨kb, hkb⟩ : ∃ b, b = kidsC k n := ⟨_, rfl⟩
            rw [← hkb] at HMk ⊢
            have HM2 := Lib.hid HMk
            clear HMk hkb
            cases kb with
            | false =>
              rw [Bool.false_and]
              go_enter Tryz.func22, Tryz.ntmps22
              go_upto_region 1 with (fail)
              rw [HW0.out]
              go_wp2_with (first
                | (go_at_call 28; refine (HH2.out _).mono ?_; rintro e w2 ⟨rfl, rfl⟩)
                | (go_at_call 30; refine (HM2.out _).mono ?_; rintro e w2 ⟨rfl, rfl⟩))
              go_ret
              exact ⟨rfl, HB0.out⟩
            | true =>
              rw [Bool.true_and]
              go_enter Tryz.func22, Tryz.ntmps22
              go_upto_region 1 with (fail)
              rw [HW0.out]
              go_wp2_with (first
                | (go_at_call 28; refine (HH2.out _).mono ?_; rintro e w2 ⟨rfl, rfl⟩)
                | (go_at_call 30; refine (HM2.out _).mono ?_; rintro e w2 ⟨rfl, rfl⟩))
              clear q0 q1 q2 q3 q4
              go_loopw [41] (fun i wr => ∃ j : Nat, j ≤ n ∧ i = .int .i64 j ∧ Hid ((l.take j).all (mayF d) = true) ∧ Below w.heap.size w wr) (fun i _ => n - (intOf i).toNat)
              case atStart => exact ⟨0, by omega, rfl, Lib.hid rfl, HB0.out⟩
              case round =>
                obtain ⟨j, hj, rfl, HAll, hbel⟩ := hrel
                rename World => wo
                have HBr := Lib.hid hbel
                by_cases hlt : j < n
                · have hjl : j < l.length := by rw [← HN.out]; exact hlt
                  obtain ⟨b, off, v0, v1, v2, v3, v4, rfl, hb, c0, c1, c2, c3, c4, hf⟩ := HKids.out.get l _ 0 j l[j] (List.getElem?_eq_getElem hjl)
                  rw [Nat.zero_add] at c0 c1 c2 c3 c4
                  have hcw : ∀ o, wo.cell? ⟨b, o, none⟩ = w.cell? ⟨b, o, none⟩ := fun o => hbel.cell (p := ⟨b, o, none⟩) hb
                  rw [← hcw] at c0 c1 c2 c3 c4
                  have hf2 : IsFl (Lt wo) wo l[j] (.agg #[v0, v1, v2, v3, v4]) := hf.imp (fun b h => Nat.lt_of_lt_of_le h hbel.size) (fun b o h => hbel.cell (p := ⟨b, o, none⟩) h)
                  obtain ⟨k', T', X', pa', pn', pc', ka', kn', kc', e⟩ := hf2.shape
                  simp only [Value.agg.injEq, Array.mk.injEq, List.cons.injEq, and_true] at e
                  obtain ⟨rfl, rfl, rfl, rfl, rfl⟩ := e
                  have hb5 := box5 wo (.int .i64 k') (.string T') (.string X') (.slice pa' pn' pc') (.slice ka' kn' kc')
                  have hca := HI.out l[j] _ _ (by have := HD.out; omega) (hf2.below hb5)
                  obtain ⟨r, hr⟩ : ∃ r, r = mayF d l[j] := ⟨_, rfl⟩
                  rw [← hr] at hca
                  have HCa := Lib.hid hca
                  have HBk := Lib.hid (bthen HBr.out hb5)
                  have ti0 : (0 : Int) ≤ (j : Int) := by omega
                  have ti1 : (j : Int) < (n : Int) := by omega
                  cases r with
                  | false =>
                    have hfin : l.all (mayF d) = false := all_at hjl hr.symm
                    have HFin := Lib.hid hfin
                    clear hca hf hf2 hb5 hcw hbel hr hfin hjl
                    go_wp2_with (go_at_call 22; refine (HCa.out).mono ?_; rintro e w3 ⟨rfl, hb3⟩; have HB3 := Lib.hid (bthen HBk.out hb3); clear hb3)
                    go_ret
                    exact ⟨by rw [HFin.out]; rfl, HB3.out⟩
                  | true =>
                    have HAll2 : Hid ((l.take (j + 1)).all (mayF d) = true) := Lib.hid (by rw [all_take hjl HAll.out]; exact hr.symm)
                    clear hca hf hf2 hb5 hcw hbel hr hjl
                    go_wp2_with (go_at_call 22; refine (HCa.out).mono ?_; rintro e w3 ⟨rfl, hb3⟩; have HB3 := Lib.hid (bthen HBk.out hb3); clear hb3)
                    go_roundw
                    case rel => exact ⟨j + 1, by omega, by go_num, HAll2, HB3.out⟩
                    case measure => simp [intOf]; omega
                · have hfin : l.all (mayF d) = true := by
                    have := HAll.out
                    rwa [List.take_of_length_le (by rw [← HN.out]; omega)] at this
                  have t9 : decide (j < n) = false := by simp; omega
                  have HFin := Lib.hid hfin
                  clear hbel hfin
                  go_wp2
                  go_ret
                  exact ⟨by rw [HFin.out]; rfl, HBr.out⟩
          · have t3 : decide ((0 : Int) < (m : Int)) = true := by simp; omega
            have t3' : decide (0 < m) = true := by simp; omega
            rw [decide_eq_false hm0]
            clear hm0
            go_enter Tryz.func22, Tryz.ntmps22
            go_upto_region 1 with (fail)
            rw [HW0.out]
            go_wp2_with (go_at_call 28; refine (HH2.out _).mono ?_; rintro e w2 ⟨rfl, rfl⟩)
            go_ret
            exact ⟨rfl, HB0.out⟩
        · obtain ⟨e3, e4⟩ := bytes_some hX0
          rw [decide_eq_false hX0]
          clear hX0
          go_enter Tryz.func22, Tryz.ntmps22
          go_upto_region 1 with (fail)
          rw [HW0.out]
          go_wp2_with (go_at_call 28; refine (HH2.out _).mono ?_; rintro e w2 ⟨rfl, rfl⟩)
          go_ret
          exact ⟨rfl, HB0.out⟩
      · obtain ⟨e1, e2⟩ := bytes_some hT0
        rw [decide_eq_false hT0]
        clear hT0
        go_enter Tryz.func22, Tryz.ntmps22
        go_upto_region 1 with (fail)
        rw [HW0.out]
        go_wp2_with (go_at_call 28; refine (HH2.out _).mono ?_; rintro e w2 ⟨rfl, rfl⟩)
        go_ret
        exact ⟨rfl, HB0.out⟩

set_option maxRecDepth 100000 in
set_option maxHeartbeats 2000000 in
theorem mayTop_any (f : FT) (v : Value) (w : World) (h : IsFl (Lt w) w f v) :
    Calls Tryz.prog 18 #[v] w fun e w' => e = .returned (.bool (mayF 13 f)) ∧ Below w.heap.size w w' := by
  have hm := fun W (hW : Below w.heap.size w W) => may_all 13 0 f v W rfl (h.imp (fun b h => Nat.lt_of_lt_of_le h hW.size) (fun b o h => hW.cell (p := ⟨b, o, none⟩) h))
  obtain ⟨k, T, X, pa, pn, pc, ka, kn, kc, rfl⟩ := h.shape
  have hb := box5 w (.int .i64 k) (.string T) (.string X) (.slice pa pn pc) (.slice ka kn kc)
  have HM := Lib.hid (hm _ hb)
  have HB := Lib.hid hb
  clear hm hb h
  go_enter Tryz.func18, Tryz.ntmps18
  go_wp2_with (go_at_call 22; refine (HM.out).mono ?_; rintro e w3 ⟨rfl, hb3⟩; have HB3 := Lib.hid (bthen HB.out hb3); clear hb3)
  go_ret
  exact ⟨rfl, HB3.out⟩
end Go.Proofs.YtmilgbkkibahlaaGreatDoor


namespace Go.Proofs.YtmilgbkkibahlaaGreatDoor
open Go.RowKit
set_option linter.unusedVariables false
set_option linter.unusedSimpArgs false

def markIx (c : UInt8) : Bool := decide (Lib.indexByte [42, 40, 41, 92] c < 0) == !(c == 42 || c == 40 || c == 41 || c == 92)
def WroteF (B b : Nat) (l : List UInt8) (v : ByteArray) (j : Nat) (w : World) : Prop := ∃ E, E ++ quo (v.data.toList.drop j) = quo v.data.toList ∧ Bld' B b (l ++ E) w

end Go.Proofs.YtmilgbkkibahlaaGreatDoor


namespace Go.Proofs.YtmilgbkkibahlaaGreatDoor
open Go.RowKit
set_option linter.unusedVariables false
set_option linter.unusedSimpArgs false

def oneQ : List UInt8 → UInt8 × Nat
  | [] => (0, 0)
  | c :: r => if plainC c then (c, 1) else if c = 92 then (match r with
    | x :: y :: _ => match escD x y with
      | some b => (b, 3)
      | none => (0, 0)
    | _ => (0, 0)) else (0, 0)
def ixD (c : UInt8) : Int := Lib.indexByte digs c
def ixOk (c : UInt8) : Bool := match dgI c with
  | some n => decide (ixD c = (n : Int)) && decide (n < 16)
  | none => decide (ixD c < 0)
end Go.Proofs.YtmilgbkkibahlaaGreatDoor


namespace Go.Proofs.YtmilgbkkibahlaaGreatDoor
open Go.RowKit
set_option linter.unusedVariables false
set_option linter.unusedSimpArgs false

def valV2 (o : Option (List UInt8)) : Value := match o with
  | some v => .tuple #[.string ⟨v.toArray⟩, .bool true]
  | none => .tuple #[.string ⟨#[]⟩, .bool false]
end Go.Proofs.YtmilgbkkibahlaaGreatDoor


namespace Go.Proofs.YtmilgbkkibahlaaGreatDoor
open Go.RowKit
set_option linter.unusedVariables false
set_option linter.unusedSimpArgs false

def contP (s : ByteArray) (i k : Nat) : Prop := i + k < s.size ∧ (s.get! (i + k)).toNat / 64 = 2
def IterAt (w : World) (s : ByteArray) (i : Nat) (wx : World) : Prop := wx.heap[w.heap.size]? = some (.stringIter s i) ∧ Below w.heap.size w wx
end Go.Proofs.YtmilgbkkibahlaaGreatDoor


namespace Go.Proofs.YtmilgbkkibahlaaGreatDoor
open Go.RowKit
set_option linter.unusedVariables false
set_option linter.unusedSimpArgs false

def cutBV (x : UInt8) (l : List UInt8) : Value := if l.contains x then .tuple #[strV (l.takeWhile (· ≠ x)), strV ((l.dropWhile (· ≠ x)).drop 1), .bool true] else .tuple #[strV l, strV [], .bool false]
def ascii (l : List UInt8) : Prop := ∀ c ∈ l, c.toNat < 256
end Go.Proofs.YtmilgbkkibahlaaGreatDoor


namespace Go.Proofs.YtmilgbkkibahlaaGreatDoor
open Go.RowKit
set_option linter.unusedVariables false
set_option linter.unusedSimpArgs false

def starR : Bool → List (List UInt8) → List UInt8
  | _, [] => []
  | f, x :: l => (if f then [] else [42]) ++ (quo x ++ starR false l)
theorem Fr.box5 {B b k : Nat} {w w' : World} {cs : Array Value} (h : Fr B b w w') (hk : w.heap[k]? = some (.cells cs 31 (0, 0))) (hb : k ≠ b) : w'.heap[k]? = some (.cells cs 31 (0, 0)) := by
  refine (h.2 k (Array.getElem?_eq_some_iff.1 hk).1 hb fun cs' fr e => ?_).trans hk
  rw [hk] at e
  cases e
theorem cells5 {w : World} {k : Nat} {x0 x1 x2 x3 x4 : Value} (h : w.heap[k]? = some (.cells #[x0, x1, x2, x3, x4] 31 (0, 0))) : w.cell? ⟨k, 0, none⟩ = some x0 ∧ w.cell? ⟨k, 1, none⟩ = some x1 ∧ w.cell? ⟨k, 2, none⟩ = some x2 ∧ w.cell? ⟨k, 3, none⟩ = some x3 ∧ w.cell? ⟨k, 4, none⟩ = some x4 := by
  refine ⟨?_, ?_, ?_, ?_, ?_⟩ <;> simp [World.cell?, h]

end Go.Proofs.YtmilgbkkibahlaaGreatDoor


namespace Go.Proofs.YtmilgbkkibahlaaGreatDoor
open Go.RowKit
set_option linter.unusedVariables false
set_option linter.unusedSimpArgs false

abbrev FlAt (W : World) (b : Nat) (x0 x1 x2 x3 x4 : Value) : Prop := W.heap[b]? = some (.cells #[x0, x1, x2, x3, x4] 31 (0, 0))
abbrev FzAt (W : World) (b : Nat) : Prop := FlAt W b (.int .i64 0) (.string ⟨#[]⟩) (.string ⟨#[]⟩) (.slice none 0 0) (.slice none 0 0)
def set5F (W : World) (b : Nat) (x0 x1 x2 x3 x4 : Value) : World := ((((W.setCell ⟨b, 0, none⟩ x0).setCell ⟨b, 1, none⟩ x1).setCell ⟨b, 2, none⟩ x2).setCell ⟨b, 3, none⟩ x3).setCell ⟨b, 4, none⟩ x4
theorem fl_lt {W : World} {b : Nat} {x0 x1 x2 x3 x4 : Value} (h : FlAt W b x0 x1 x2 x3 x4) : b < W.heap.size := (Array.getElem?_eq_some_iff.1 h).1
theorem fl_below {W W' : World} {b n : Nat} {x0 x1 x2 x3 x4 : Value} (h : FlAt W b x0 x1 x2 x3 x4) (hb : Below n W W') (hn : b < n) : FlAt W' b x0 x1 x2 x3 x4 := (hb.block b hn).trans h
theorem fl_cells {W : World} {b : Nat} {x0 x1 x2 x3 x4 : Value} (h : FlAt W b x0 x1 x2 x3 x4) : W.cell? ⟨b, 0, none⟩ = some x0 ∧ W.cell? ⟨b, 1, none⟩ = some x1 ∧ W.cell? ⟨b, 2, none⟩ = some x2 ∧ W.cell? ⟨b, 3, none⟩ = some x3 ∧ W.cell? ⟨b, 4, none⟩ = some x4 := cells5 h
theorem blockFl_ne (w : World) (a : Addr) (x : Value) {b : Nat} (h : b ≠ a.block) : (w.setCell a x).heap[b]? = w.heap[b]? := by
  unfold World.setCell
  simp [Array.getElem?_modify, Ne.symm h]
def AskV (B : Nat) (w : World) (o : Option (Int × List UInt8 × List (List UInt8))) (v : Value) : Prop := match o with
  | none => ∃ k : Int, v = .tuple #[.agg #[.int .i64 k, .string ⟨#[]⟩, .string ⟨#[]⟩, .slice none 0 0, .slice none 0 0], .bool false]
  | some (k, x, p) => ∃ u, v = .tuple #[.agg #[.int .i64 k, .string ⟨#[]⟩, strV x, u, .slice none 0 0], .bool true] ∧ OwnS B w u p
end Go.Proofs.YtmilgbkkibahlaaGreatDoor


namespace Go.Proofs.YtmilgbkkibahlaaGreatDoor
open Go.RowKit
set_option linter.unusedVariables false
set_option linter.unusedSimpArgs false

theorem step_append_textS {ops : Array Oper} {o : Oper} {a : Act} {w : World} {K : Act → World → Prop} {Q : Exit → Act → World → Prop} {E : Prop} (hgd : o.guard = none) (sl x : Operand)
    (ho : o.op = .call { callee := .builtin .append, args := #[sl, x], argTypes := #[28, 28] })
    (base : Nat) (v : Value) (L : List (List UInt8)) (hs : a.eval sl = v) (X : ByteArray) (hown : OwnS base w v L) (hx : a.eval x = .slice (some ⟨w.heap.size, 0, none⟩) 1 1)
    (h63 : L.length + 1 ≤ 1000000) (hbase : base ≤ w.heap.size)
    (h : ∀ v' w', OwnS base w' v' (L ++ [X.data.toList]) → Below base w w' → K (a.put o.dst v') w') :
    if Region.wanted o (yielded ops a.tmps) = true then Oper.wp Tryz.prog o a (w.alloc (.cells #[.string X] 9)) K Q else E := by
  obtain ⟨i0, hi, hz0, hz1, hz2⟩ := info_parts infoS
  refine step_append_lies _ hgd sl x 28 ho base 9 i0 (.string ⟨#[]⟩) 1 16 Tryz.underlying28 hi hz0 hz1 hz2 rfl (by decide) v L.length (L.map strV) hs (World.ownsRow.alloc hown _) ⟨w.heap.size, 0, none⟩ 1 1 [.string X] hx rfl (cell_one_new w (.string X) 9) (by intro u hu; simp at hu; rw [hu]; rfl) (by decide) (by unfold maxLen; omega) (by omega) (by simp; omega) _ rfl ?_
  intro g cap w' hown' hgrow hat hlt
  refine h _ w' ?_ ?_
  · unfold OwnS
    rw [List.length_append, List.map_append]
    have : [X.data.toList].map strV = [Value.string X] := by show [Value.string ⟨X.data.toList.toArray⟩] = _; rw [whole_ext]
    rw [this]
    exact hown'
  · exact ((Below.refl base w).alloc hbase _).grown hgrow (by simp; omega) (fun k e => (World.ownsRow.lt hown k e).1)
theorem normD_len {r : Nat} {v x : List UInt8} (h : normD r v = some x) : x.length ≤ 100 := by
  unfold normD at h
  split at h
  · cases h
  · rename_i h0
    have hv : v.length ≤ 100 := by omega
    split at h
    · split at h
      · cases h
      · rw [← Option.some.inj h]
        exact Nat.le_trans (fold_len v) hv
    · split at h
      · split at h
        · rw [← Option.some.inj h]; exact hv
        · cases h
      · split at h
        · split at h
          · rename_i k hk
            split at h
            · cases h
            · rw [← Option.some.inj h]
              exact Nat.le_trans (key_key hk).2 hv
          · cases h
        · split at h
          · rw [← Option.some.inj h]; exact hv
          · cases h
abbrev PvAt (W : World) (b : Nat) (v : Value) : Prop := W.heap[b]? = some (.cells #[v] 28 (0, 0))
theorem pv_lt {W : World} {b : Nat} {v : Value} (h : PvAt W b v) : b < W.heap.size := (Array.getElem?_eq_some_iff.1 h).1
theorem pv_below {W W' : World} {b m : Nat} {v : Value} (h : PvAt W b v) (hb : Below m W W') (hn : b < m) : PvAt W' b v := (hb.block b hn).trans h
theorem pv_cell {W : World} {b : Nat} {v : Value} (h : PvAt W b v) : W.cell? ⟨b, 0, none⟩ = some v ∧ W.frozen? ⟨b, 0, none⟩ = false := by
  have h' : W.heap[b]? = some (.cells #[v] 28 (0, 0)) := h
  refine ⟨?_, ?_⟩
  · simp [World.cell?, h']
  · simp [World.frozen?, h']
structure PrtAt (w wr : World) (x0 x1 x2 x3 x4 v : Value) (L : List (List UInt8)) : Prop where
  fl : FlAt wr w.heap.size x0 x1 x2 x3 x4
  pv : PvAt wr (w.heap.size + 1) v
  own : OwnS (w.heap.size + 2) wr v L
  bel : Below w.heap.size w wr
theorem PrtAt.lt {w wr : World} {x0 x1 x2 x3 x4 v : Value} {L : List (List UInt8)} (h : PrtAt w wr x0 x1 x2 x3 x4 v L) : w.heap.size + 2 ≤ wr.heap.size := by have := pv_lt h.pv; omega
theorem PrtAt.go {w wr wx : World} {x0 x1 x2 x3 x4 v : Value} {L : List (List UInt8)} (h : PrtAt w wr x0 x1 x2 x3 x4 v L) (hb : Below wr.heap.size wr wx) : PrtAt w wx x0 x1 x2 x3 x4 v L :=
  ⟨fl_below h.fl hb (fl_lt h.fl), pv_below h.pv hb (pv_lt h.pv), ownS_below h.own hb, bthen h.bel hb⟩
theorem prt_new (w : World) (x0 x1 x2 x3 x4 : Value) : PrtAt w ((w.alloc (.cells #[x0, x1, x2, x3, x4] 31)).alloc (.cells #[.slice none 0 0] 28)) x0 x1 x2 x3 x4 (.slice none 0 0) [] := by
  have h1 := box5 w x0 x1 x2 x3 x4
  have h2 : Below (w.alloc (.cells #[x0, x1, x2, x3, x4] 31)).heap.size (w.alloc (.cells #[x0, x1, x2, x3, x4] 31)) ((w.alloc (.cells #[x0, x1, x2, x3, x4] 31)).alloc (.cells #[.slice none 0 0] 28)) := (Below.refl _ _).alloc (Nat.le_refl _) _
  have hz : FlAt (w.alloc (.cells #[x0, x1, x2, x3, x4] 31)) w.heap.size x0 x1 x2 x3 x4 := heap_alloc_new w _
  have hs : (w.alloc (.cells #[x0, x1, x2, x3, x4] 31)).heap.size = w.heap.size + 1 := by simp only [World.alloc, Array.size_push]
  have hn := heap_alloc_new (w.alloc (.cells #[x0, x1, x2, x3, x4] 31)) (.cells #[.slice none 0 0] 28)
  rw [hs] at hn
  exact ⟨fl_below hz h2 (fl_lt hz), hn, ownS_nil _ _, bthen h1 h2⟩
theorem prt_next {w wr w4 w6 : World} {x0 x1 x2 x3 x4 v v6 : Value} {L L' : List (List UInt8)} (h : PrtAt w wr x0 x1 x2 x3 x4 v L) (h4 : Below wr.heap.size wr w4) (h6 : Below (w.heap.size + 2) w4 w6) (ho : OwnS (w.heap.size + 2) w6 v6 L') :
    PvAt w6 (w.heap.size + 1) v ∧ PrtAt w (w6.setCell ⟨w.heap.size + 1, 0, none⟩ v6) x0 x1 x2 x3 x4 v6 L' := by
  have hlt := h.lt
  have hg := h.go h4
  have hp6 := pv_below hg.pv h6 (Nat.lt_succ_self _)
  have hf6 := fl_below hg.fl h6 (by omega)
  refine ⟨hp6, (blockFl_ne _ ⟨w.heap.size + 1, 0, none⟩ _ (by show w.heap.size ≠ w.heap.size + 1; omega)).trans hf6, ?_, ?_, (hg.bel.trans (h6.mono (by omega))).setCell (p := ⟨w.heap.size + 1, 0, none⟩) (by show w.heap.size ≤ w.heap.size + 1; omega) _⟩
  · have h' : w6.heap[w.heap.size + 1]? = some (.cells #[v] 28 (0, 0)) := hp6
    show (w6.setCell ⟨w.heap.size + 1, 0, none⟩ v6).heap[w.heap.size + 1]? = _
    simp [World.setCell, Array.getElem?_modify, h']
  · refine World.ownsRow.kept ho (row := some (w.heap.size + 1)) ⟨rfl, rfl, rfl, by rw [World.size_setCell]; exact Nat.le_refl _, fun k hk hne => heap_setCell_other _ _ _ _ (fun e => hne (by rw [e]))⟩ ?_
    right
    intro e
    have := (World.ownsRow.lt ho _ e).1
    omega
set_option maxRecDepth 100000 in
set_option maxHeartbeats 4000000 in
theorem hasParts_any (k : Int) (T X : ByteArray) (p : List (List UInt8)) (pa ka : Option Addr) (n pc kn kc : Nat) (w : World) (hn : n = p.length) (hn3 : n ≤ 1000) (hpl : ∀ x ∈ p, x.length ≤ 1000000) (h : IsTo (Lt w) w p (.slice pa n pc)) :
    Calls Tryz.prog 49 #[.agg #[.int .i64 k, .string T, .string X, .slice pa n pc, .slice ka kn kc]] w fun e w' => ∃ v, e = .returned (.func (.func 64) #[] #[.pointer (some ⟨w.heap.size, 0, none⟩), .pointer (some ⟨w.heap.size + 1, 0, none⟩)]) ∧ PrtAt w w' (.int .i64 k) (.string T) (.string X) (.slice pa n pc) (.slice ka kn kc) v (p.map low) := by
  have hmf : ∀ (fn : Fn) (first cap : Array Value) (w : World), (Instr.makeFunc fn first cap).run Tryz.prog w = .ok (.func fn first cap) w := fun _ _ _ _ => rfl
  obtain ⟨W1, hW1⟩ : ∃ W, W = (w.alloc (.cells #[.int .i64 k, .string T, .string X, .slice pa n pc, .slice ka kn kc] 31)).alloc (.cells #[.slice none 0 0] 28) := ⟨_, rfl⟩
  have HP1 : Hid (PrtAt w W1 (.int .i64 k) (.string T) (.string X) (.slice pa n pc) (.slice ka kn kc) (.slice none 0 0) []) := Lib.hid (by rw [hW1]; exact prt_new w _ _ _ _ _)
  have HW1 := Lib.hid hW1.symm
  obtain ⟨a0, c0, e0, _, hcell⟩ := h
  have e1 : a0 = pa := by injection e0 with e1 _ _; exact e1.symm
  subst e1
  have HC := Lib.hid hcell
  have HN := Lib.hid hn
  have HPl := Lib.hid hpl
  obtain ⟨q0, q1, q2, q3, q4⟩ := fl_cells HP1.out.fl
  clear hW1 e0 hcell hn hpl
  go_enter Tryz.func49, Tryz.ntmps49
  go_upto_region 2 with (fail)
  rw [HW1.out]
  go_wp2
  clear q0 q1 q2 q3 q4
  go_loopw [9] (fun i wr => ∃ (j : Nat) (v : Value), j ≤ n ∧ i = .int .i64 j ∧ Hid (PrtAt w wr (.int .i64 k) (.string T) (.string X) (.slice a0 n pc) (.slice ka kn kc) v ((p.take j).map low))) (fun i _ => n - (intOf i).toNat)
  case atStart => exact ⟨0, .slice none 0 0, by omega, rfl, HP1⟩
  case round =>
    obtain ⟨j, v, hj, rfl, HP⟩ := hrel
    by_cases hlt : j < n
    · have t1 : decide ((j : Int) < (n : Int)) = true := by simp; omega
      have t1' : decide (j < n) = true := by simpa using hlt
      have hjp : j < p.length := by rw [← HN.out]; exact hlt
      obtain ⟨b, off, rfl, hbl, hc⟩ := HC.out j hjp
      obtain ⟨Y, hY, hYl⟩ := strV_text p[j]
      have d0 : wr.cell? ⟨b, off + j, none⟩ = some (.string Y) := by rw [HP.out.bel.cell (p := ⟨b, _, none⟩) hbl, hc, hY]
      have hYs : Y.size ≤ 281474976710656 := by rw [← bytes_len, hYl]; have := HPl.out _ (List.getElem_mem hjp); omega
      have hlo := fun W => lowEv_any Y W hYs
      have HLo := Lib.hid hlo
      have htk : ((p.take j).map low) ++ [(lowB Y).data.toList] = (p.take (j + 1)).map low := by
        rw [List.take_succ_eq_append_getElem hjp, List.map_append, lowB_list, hYl]
        rfl
      have HTk := Lib.hid htk
      obtain ⟨Z, hZ⟩ : ∃ Z, Z = lowB Y := ⟨_, rfl⟩
      rw [← hZ] at HLo HTk
      obtain ⟨va, vc, hv⟩ := ownS_slice HP.out.own
      have hll : ((p.take j).map low).length = j := by rw [List.length_map, List.length_take, ← HN.out]; omega
      rw [hll] at hv
      subst hv
      have HLl := Lib.hid hll
      obtain ⟨p0, p1⟩ := pv_cell HP.out.pv
      obtain ⟨pb, hpb⟩ : ∃ b, b = w.heap.size + 1 := ⟨_, rfl⟩
      have HPb := Lib.hid hpb
      rw [← hpb] at p0 p1
      have hlw := HP.out.lt
      rw [← hpb]
      clear hc hY hYl hlo htk hZ hpb hll
      go_upto_region 5 with (fail)
      have p0d : wr.drew.cell? ⟨pb, 0, none⟩ = some (.slice va j vc) := p0
      go_region_law (first
        | (go_simp; go_at_call 63; refine (HLo.out wr.drew).mono ?_; rintro e w4 ⟨rfl, hb4⟩; have hb4' : Below wr.heap.size wr w4 := ⟨hb4.1, hb4.2, hb4.3, hb4.4, hb4.5⟩; have hpl : pb < wr.heap.size := (by rw [HPb.out]; exact pv_lt HP.out.pv); have r0 : w4.cell? ⟨pb, 0, none⟩ = some (.slice va j vc) := (hb4'.cell (p := ⟨pb, 0, none⟩) hpl).trans p0; have r1 : (w4.alloc (.cells #[.string Z] 9)).cell? ⟨pb, 0, none⟩ = some (.slice va j vc) := (Below.cell (p := ⟨pb, 0, none⟩) ((Below.refl w4.heap.size w4).alloc (Nat.le_refl _) _) (Nat.lt_of_lt_of_le hpl hb4'.size)).trans r0; have HB4 := Lib.hid hb4'; clear hb4 hb4')
        | (refine step_append_textS rfl (.tmp 13) (.tmp 16) rfl (w.heap.size + 2) (.slice va j vc) ((p.take j).map low) rfl Z (ownS_below HP.out.own HB4.out) rfl (by rw [HLl.out]; omega) (by have := HB4.out.size; omega) ?_; intro v6 w6 hown6 hb6; have hx := prt_next HP.out HB4.out hb6 hown6; have hs6 := pv_cell hx.1; rw [← HPb.out] at hs6; (obtain ⟨s0, s1⟩ := hs6); (obtain ⟨ga, gc, hv6⟩ := ownS_slice hown6); (obtain ⟨m6, hm6⟩ : ∃ m, m = ((p.take j).map low ++ [Z.data.toList]).length := ⟨_, rfl⟩); rw [← hm6] at hv6; subst hv6; have HNx : Hid (PrtAt w (w6.setCell ⟨pb, 0, none⟩ (.slice ga m6 gc)) (.int .i64 k) (.string T) (.string X) (.slice (some ⟨b, off, none⟩) n pc) (.slice ka kn kc) (.slice ga m6 gc) ((p.take (j + 1)).map low)) := Lib.hid (by { rw [HPb.out, ← HTk.out]; exact hx.2 }); clear hown6 hb6 hx hm6))
      all_goals
        go_wp2
        go_roundw
        case rel => exact ⟨j + 1, _, by omega, by go_num, HNx⟩
        case measure => simp [intOf]; omega
    · obtain rfl : j = n := by omega
      have t1 : decide ((j : Int) < (j : Int)) = false := by simp
      have t1' : decide (j < j) = false := by simp
      have HE : Hid ((p.take j).map low = p.map low) := Lib.hid (by rw [List.take_of_length_le (by rw [← HN.out]; exact Nat.le_refl _)])
      go_wp2
      go_ret
      exact ⟨v, rfl, by rw [← HE.out]; exact HP.out⟩
set_option maxRecDepth 100000 in
set_option maxHeartbeats 4000000 in
theorem askParts_any (k : Int) (T X V : ByteArray) (p : List (List UInt8)) (b6 b7 : Nat) (x3 x4 v : Value) (q : List (List UInt8)) (w0 w1 w : World) (hw : LaidW w) (hX : LaidX w) (hP : PrtAt w0 w1 (.int .i64 k) (.string T) (.string X) x3 x4 v q) (hb : Below w1.heap.size w1 w) (hq : q = p.map low)
    (hq2 : 2 ≤ p.length) (hq3 : p.length ≤ 1000) (hpl : ∀ x ∈ p, x.length ≤ 1000000) (hV : V.size ≤ 1000000) (h6 : b6 = w0.heap.size) (h7 : b7 = w0.heap.size + 1) :
    Calls Tryz.prog 64 #[.string V, .pointer (some ⟨b6, 0, none⟩), .pointer (some ⟨b7, 0, none⟩)] w fun e w' => e = .returned (.bool (partsE (ruleD T.data.toList) p V.data.toList)) ∧ Below w.heap.size w w' := by
  have hP' := hP.go hb
  subst h6
  subst h7
  obtain ⟨c0, c1, c2, c3, c4⟩ := fl_cells hP'.fl
  obtain ⟨p0, _⟩ := pv_cell hP'.pv
  have hnm := norm_any T V w hw
  obtain ⟨R, hR⟩ : ∃ R, R = partsE (ruleD T.data.toList) p V.data.toList := ⟨_, rfl⟩
  rw [← hR]
  unfold partsE at hR
  have hql : q.length = p.length := by rw [hq, List.length_map]
  have hqp : ∀ x ∈ q, x.length ≤ 1000000 := by
    rw [hq]
    intro x hx
    obtain ⟨y, hy, rfl⟩ := List.mem_map.1 hx
    rw [low_length]
    exact hpl y hy
  have hne : q ≠ [] := fun e => by rw [e] at hql; simp at hql; omega
  obtain ⟨g, cp, hv, hg0, hg1, hcell⟩ := ownS_at hP'.own hne
  subst hv
  have hcp : q.length ≤ cp := by
    rcases hP'.own.2 with ⟨e, _⟩ | ⟨g', cap, cur, e, _, hc, _, hle, _⟩
    · cases e
    · cases e
      omega
  have hnl : ∀ x, normD (ruleD T.data.toList) V.data.toList = some x → x.length ≤ 1000000 := fun x hx => Nat.le_trans (normD_len hx) (by omega)
  obtain ⟨o, ho⟩ : ∃ o, o = normD (ruleD T.data.toList) V.data.toList := ⟨_, rfl⟩
  rw [← ho] at hR hnm hnl
  have HNm := Lib.hid hnm
  have HR := Lib.hid hR
  cases o with
  | none =>
    clear hnm hR hP hP' hb hcell ho
    go_enter Tryz.func64, Tryz.ntmps64
    go_wp2_with (go_at_call 40; refine (HNm.out).mono ?_; rintro e w2 ⟨rfl, hb2⟩; have HB := Lib.hid hb2; clear hb2; unfold saidP)
    go_ret
    exact ⟨by rw [HR.out]; rfl, HB.out⟩
  | some x =>
    obtain ⟨N, hN⟩ : ∃ N : ByteArray, N = ⟨x.toArray⟩ := ⟨_, rfl⟩
    have hNl : N.data.toList = x := by rw [hN]
    have hNs : N.size ≤ 1000000 := by rw [← bytes_len, hNl]; exact hnl x rfl
    have hmd := fun W (hW : Below w.heap.size w W) => madeOf_any N hNs q g 0 cp q.length W (hX.below hW) rfl (by omega) (by omega) hcp hqp (fun j h => by rw [Nat.zero_add]; exact (hW.cell (p := ⟨g, j, none⟩) hg1).trans (hcell j h)) (Nat.lt_of_lt_of_le hg1 hW.size)
    rw [hNl] at hmd
    have hR2 : R = madeO x q := by rw [hR, hq]
    rw [← hR2] at hmd
    have HMd := Lib.hid hmd
    have hsv : saidP (some x) = .tuple #[.string N, .bool true] := by rw [hN]; rfl
    rw [hsv] at HNm
    have p0' := fun W (hW : Below w.heap.size w W) => (hW.cell (p := ⟨w0.heap.size + 1, 0, none⟩) (pv_lt hP'.pv)).trans p0
    have HP0 := Lib.hid p0'
    obtain ⟨ql, hqq⟩ : ∃ n, n = q.length := ⟨_, rfl⟩
    rw [← hqq] at HMd HP0 p0
    clear hnm hR hP hP' hb hcell ho hmd hsv hN hNl hR2 p0' hqq
    go_enter Tryz.func64, Tryz.ntmps64
    go_wp2_with (first
      | (go_at_call 40; refine (HNm.out).mono ?_; rintro e w2 ⟨rfl, hb2⟩; have HB := Lib.hid hb2; have p2 := HP0.out _ hb2; clear hb2)
      | (go_at_call 65; refine (HMd.out _ HB.out).mono ?_; rintro e w3 ⟨rfl, hb3⟩; have HB3 := Lib.hid (bthen HB.out hb3); clear hb3))
    go_ret
    exact ⟨rfl, HB3.out⟩
end Go.Proofs.YtmilgbkkibahlaaGreatDoor


namespace Go.Proofs.YtmilgbkkibahlaaGreatDoor
open Go.RowKit
set_option linter.unusedVariables false

end Go.Proofs.YtmilgbkkibahlaaGreatDoor


namespace Go.Proofs.YtmilgbkkibahlaaGreatDoor
open Go.RowKit
set_option linter.unusedVariables false
set_option linter.unusedSimpArgs false

noncomputable def sameFT (f g : FT) : Bool := @decide (f = g) (Classical.propDecidable _)
mutual
def fewP : FT → Prop
  | .mk _ _ _ p l => p.length ≤ 1000000 ∧ fewPs l
def fewPs : List FT → Prop
  | [] => True
  | f :: l => fewP f ∧ fewPs l
end
def SamB (w0 : World) (W : World) : Prop := Below w0.heap.size w0 W
theorem SamB.cell {w0 W W' : World} (h : SamB w0 W) (hb : Below W.heap.size W W') {b o : Nat} {x : Value} (hl : b < w0.heap.size) (hc : w0.cell? ⟨b, o, none⟩ = some x) : W'.cell? ⟨b, o, none⟩ = some x :=
  ((bthen h hb).cell (p := ⟨b, o, none⟩) hl).trans hc
theorem SamB.size {w0 W : World} (h : SamB w0 W) : w0.heap.size ≤ W.heap.size := Below.size h
theorem SamB.go {w0 W W' : World} (h : SamB w0 W) (hb : Below W.heap.size W W') : SamB w0 W' := bthen h hb
end Go.Proofs.YtmilgbkkibahlaaGreatDoor

