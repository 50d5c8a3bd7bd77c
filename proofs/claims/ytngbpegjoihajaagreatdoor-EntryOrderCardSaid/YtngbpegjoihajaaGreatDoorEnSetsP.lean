/- EntrySets: the entry that some settings make; no walk. -/
import Derived.Test.YtngbpegjoihajaaGreatDoorEnSetW
namespace Go.Proofs.YtngbpegjoihajaaGreatDoor
open Go.RowKit
set_option linter.unusedVariables false

def namesL : List (List UInt8) := [[99, 110], [100, 101, 115, 99, 114, 105, 112, 116, 105, 111, 110], [109, 97, 105, 108], [109, 101, 109, 98, 101, 114], [111], [111, 98, 106, 101, 99, 116, 99, 108, 97, 115, 115], [111, 117], [115, 110], [117, 105, 100]]
def mkN : List (List UInt8) → List (List UInt8) → List AT
  | [], _ => []
  | _ :: _, [] => []
  | n :: ns, d :: ds => if d = [] then mkN ns ds else (n, [d]) :: mkN ns ds
/-- Names that stand in order, in small letters. -/
def okN2 : List (List UInt8) → Prop
  | [] => True
  | n :: ns => (∀ m ∈ ns, gtB m n = true ∧ gtB n m = false ∧ (low m == low n) = false ∧ (low n == low m) = false) ∧ okN2 ns
def okN2b : List (List UInt8) → Bool
  | [] => true
  | n :: ns => (ns.all fun m => gtB m n && !gtB n m && !(low m == low n) && !(low n == low m)) && okN2b ns
theorem okN2_of : ∀ {l : List (List UInt8)}, okN2b l = true → okN2 l
  | [], _ => trivial
  | n :: ns, h => by
    simp only [okN2b, Bool.and_eq_true] at h
    refine ⟨fun m hm => ?_, okN2_of h.2⟩
    have := List.all_eq_true.1 h.1 m hm
    simp only [Bool.and_eq_true, Bool.not_eq_true'] at this
    exact ⟨this.1.1.1, this.1.1.2, this.1.2, this.2⟩
theorem okNames : okN2 namesL := okN2_of (by decide +kernel)
theorem mkN_mem : ∀ {ns W : List (List UInt8)} {a : AT}, a ∈ mkN ns W → a.1 ∈ ns ∧ ∃ d ∈ W, a.2 = [d]
  | [], _, a, h => by simp [mkN] at h
  | _ :: _, [], a, h => by simp [mkN] at h
  | n :: ns, d :: ds, a, h => by
    unfold mkN at h
    split at h
    · obtain ⟨h1, x, hx, h2⟩ := mkN_mem h
      exact ⟨by simp [h1], x, by simp [hx], h2⟩
    · simp only [List.mem_cons] at h
      rcases h with rfl | h
      · exact ⟨by simp, d, by simp, rfl⟩
      · obtain ⟨h1, x, hx, h2⟩ := mkN_mem h
        exact ⟨by simp [h1], x, by simp [hx], h2⟩

theorem without_mk : ∀ (ns W : List (List UInt8)) (k : Nat) (hk : k < ns.length), okN2 ns → W.length = ns.length → withoutA (mkN ns W) ns[k] = mkN ns (W.set k [])
  | [], _, k, hk, _, _ => absurd hk (by simp)
  | n :: ns, [], k, hk, _, h => by simp at h
  | n :: ns, d :: ds, 0, hk, ho, h => by
    have hrest : withoutA (mkN ns ds) n = mkN ns ds := by
      unfold withoutA
      rw [List.filter_eq_self]
      intro a ha
      have := (ho.1 a.1 (mkN_mem ha).1).2.2.1
      simp [this]
    show withoutA (mkN (n :: ns) (d :: ds)) n = mkN (n :: ns) ([] :: ds)
    have e2 : mkN (n :: ns) ([] :: ds) = mkN ns ds := by rw [mkN, if_pos rfl]
    rw [e2, mkN]
    split
    · exact hrest
    · refine Eq.trans ?_ hrest
      unfold withoutA
      rw [List.filter_cons_of_neg (by simp)]
  | n :: ns, d :: ds, k + 1, hk, ho, h => by
    have hk' : k < ns.length := by simpa using hk
    have ih := without_mk ns ds k hk' ho.2 (by simpa using h)
    show withoutA (mkN (n :: ns) (d :: ds)) ns[k] = mkN (n :: ns) (d :: ds.set k [])
    have hne := (ho.1 ns[k] (List.getElem_mem _)).2.2.2
    rw [mkN, mkN]
    split
    · exact ih
    · rw [← ih]
      unfold withoutA
      rw [List.filter_cons_of_pos (by simp [hne])]
theorem insA_cons_neg {a x : AT} {L : List AT} (h : gtB a.1 x.1 = false) : insA (a :: L) x = a :: insA L x := by
  unfold insA
  rw [List.findIdx?_cons]
  simp only [h, Bool.false_eq_true, if_false]
  cases L.findIdx? (fun b => gtB b.1 x.1) with
  | none => rfl
  | some k => rfl
theorem insA_head {x : AT} {L : List AT} (h : ∀ a ∈ L, gtB a.1 x.1 = true) : insA L x = x :: L := by
  unfold insA
  cases L with
  | nil => rfl
  | cons a L =>
    rw [List.findIdx?_cons]
    simp only [h a (by simp), if_true]
    rfl
theorem insert_mk : ∀ (ns W : List (List UInt8)) (k : Nat) (hk : k < ns.length) (d : List UInt8), okN2 ns → W.length = ns.length → d ≠ [] → insA (mkN ns (W.set k [])) (ns[k], [d]) = mkN ns (W.set k d)
  | [], _, k, hk, _, _, _, _ => absurd hk (by simp)
  | n :: ns, [], k, hk, _, _, h, _ => by simp at h
  | n :: ns, x :: ds, 0, hk, d, ho, h, hd => by
    show insA (mkN (n :: ns) ([] :: ds)) (n, [d]) = mkN (n :: ns) (d :: ds)
    have e1 : mkN (n :: ns) ([] :: ds) = mkN ns ds := by rw [mkN, if_pos rfl]
    have e2 : mkN (n :: ns) (d :: ds) = (n, [d]) :: mkN ns ds := by rw [mkN, if_neg hd]
    rw [e1, e2]
    exact insA_head (fun a ha => (ho.1 a.1 (mkN_mem ha).1).1)
  | n :: ns, x :: ds, k + 1, hk, d, ho, h, hd => by
    have hk' : k < ns.length := by simpa using hk
    have ih := insert_mk ns ds k hk' d ho.2 (by simpa using h) hd
    show insA (mkN (n :: ns) (x :: ds.set k [])) (ns[k], [d]) = mkN (n :: ns) (x :: ds.set k d)
    have hne := (ho.1 ns[k] (List.getElem_mem _)).2.1
    by_cases hx : x = []
    · rw [mkN, if_pos hx, mkN, if_pos hx]; exact ih
    · rw [mkN, if_neg hx, mkN, if_neg hx, insA_cons_neg hne, ih]
theorem nameA_names : ∀ n ∈ namesL, nameA n = n := by decide +kernel

theorem setA_clear (W : List (List UInt8)) (k : Nat) (hk : k < namesL.length) (hW : W.length = namesL.length) : setA (mkN namesL W) namesL[k] [] = mkN namesL (W.set k []) := by
  unfold setA
  rw [if_pos rfl]
  exact without_mk namesL W k hk okNames hW
theorem setA_put (W : List (List UInt8)) (k : Nat) (hk : k < namesL.length) (hW : W.length = namesL.length) (d : List UInt8) (hd : d ≠ []) : setA (mkN namesL W) namesL[k] [d] = mkN namesL (W.set k d) := by
  unfold setA
  rw [if_neg (by simp), without_mk namesL W k hk okNames hW, nameA_names _ (List.getElem_mem hk)]
  exact insert_mk namesL W k hk d okNames hW hd
theorem find_mk : ∀ (ns W : List (List UInt8)) (k : Nat) (hk : k < ns.length) (hw : k < W.length), okN2 ns → findA (mkN ns W) ns[k] = if W[k] = [] then [] else [W[k]]
  | [], _, k, hk, _, _ => absurd hk (by simp)
  | n :: ns, [], k, _, hw, _ => absurd hw (by simp)
  | n :: ns, d :: ds, 0, hk, hw, ho => by
    have hno : findA (mkN ns ds) n = [] := findA_no (fun j hj => (ho.1 _ (mkN_mem (List.getElem_mem hj)).1).2.2.1)
    show findA (mkN (n :: ns) (d :: ds)) n = if d = [] then [] else [d]
    rw [mkN]
    split
    · exact hno
    · unfold findA
      rw [List.find?_cons_of_pos (by simp)]
  | n :: ns, d :: ds, k + 1, hk, hw, ho => by
    have hk' : k < ns.length := by simpa using hk
    have hw' : k < ds.length := by simpa using hw
    have ih := find_mk ns ds k hk' hw' ho.2
    have hne := (ho.1 ns[k] (List.getElem_mem _)).2.2.2
    show findA (mkN (n :: ns) (d :: ds)) ns[k] = if ds[k] = [] then [] else [ds[k]]
    rw [← ih, mkN]
    split
    · rfl
    · unfold findA
      rw [List.find?_cons_of_neg (by simp [hne])]
theorem mkN_split : ∀ (ns W : List (List UInt8)) (k : Nat), W.length = ns.length → mkN ns W = mkN (ns.take k) (W.take k) ++ mkN (ns.drop k) (W.drop k)
  | [], [], k, _ => by simp [mkN]
  | [], _ :: _, _, h => by simp at h
  | _ :: _, [], _, h => by simp at h
  | n :: ns, d :: ds, 0, _ => by simp [mkN]
  | n :: ns, d :: ds, k + 1, h => by
    have ih := mkN_split ns ds k (by simpa using h)
    show mkN (n :: ns) (d :: ds) = mkN (n :: ns.take k) (d :: ds.take k) ++ mkN (ns.drop k) (ds.drop k)
    by_cases hd : d = []
    · rw [mkN, if_pos hd, mkN, if_pos hd, ih]
    · rw [mkN, if_neg hd, mkN, if_neg hd, ih]; rfl
def cntN (W : List (List UInt8)) (k : Nat) : Nat := (mkN (namesL.take k) (W.take k)).length
theorem mkN_one {n d : List UInt8} {ns ds : List (List UInt8)} : mkN (n :: ns) (d :: ds) = (if d = [] then [] else [(n, [d])]) ++ mkN ns ds := by
  rw [mkN]; split <;> rfl
theorem mkN_snoc : ∀ (ns W : List (List UInt8)) (n d : List UInt8), W.length = ns.length → mkN (ns ++ [n]) (W ++ [d]) = mkN ns W ++ (if d = [] then [] else [(n, [d])])
  | [], [], n, d, _ => by show mkN [n] [d] = _; rw [mkN_one]; simp [mkN]
  | [], _ :: _, _, _, h => by simp at h
  | _ :: _, [], _, _, h => by simp at h
  | m :: ns, e :: W, n, d, h => by
    have ih := mkN_snoc ns W n d (by simpa using h)
    show mkN (m :: (ns ++ [n])) (e :: (W ++ [d])) = _
    rw [mkN_one, mkN_one, ih, List.append_assoc]
theorem cntN_succ (W : List (List UInt8)) (k : Nat) (hk : k < namesL.length) (hW : W.length = namesL.length) : cntN W (k + 1) = cntN W k + (if W[k]'(by omega) = [] then 0 else 1) := by
  unfold cntN
  rw [List.take_succ_eq_append_getElem hk, List.take_succ_eq_append_getElem (show k < W.length by omega), mkN_snoc _ _ _ _ (by simp; omega), List.length_append]
  congr 1
  split <;> rfl
theorem mk_at (W : List (List UInt8)) (k : Nat) (hk : k < namesL.length) (hW : W.length = namesL.length) (hd : W[k]'(by omega) ≠ []) : ∃ h : cntN W k < (mkN namesL W).length, (mkN namesL W)[cntN W k].1 = namesL[k] := by
  have e := mkN_split namesL W k hW
  have e2 : mkN (namesL.drop k) (W.drop k) = (namesL[k], [W[k]'(by omega)]) :: mkN (namesL.drop (k + 1)) (W.drop (k + 1)) := by
    rw [List.drop_eq_getElem_cons hk, List.drop_eq_getElem_cons (show k < W.length by omega), mkN, if_neg hd]
  rw [e2] at e
  have hl : cntN W k < (mkN namesL W).length := by rw [e]; unfold cntN; simp
  refine ⟨hl, ?_⟩
  have : (mkN namesL W)[cntN W k]? = some (namesL[k], [W[k]'(by omega)]) := by
    rw [e]; unfold cntN; simp
  rw [List.getElem?_eq_getElem hl] at this
  rw [Option.some.inj this]
theorem cntN_all (W : List (List UInt8)) (hW : W.length = namesL.length) : cntN W 9 = (mkN namesL W).length := by
  unfold cntN
  rw [List.take_of_length_le (by decide), List.take_of_length_le (by rw [hW]; decide)]
theorem mkN_len : ∀ (ns W : List (List UInt8)), (mkN ns W).length ≤ ns.length
  | [], _ => by simp [mkN]
  | _ :: _, [] => by simp [mkN]
  | n :: ns, d :: ds => by
    have := mkN_len ns ds
    rw [mkN]; split <;> simp <;> omega
theorem small_mk (W : List (List UInt8)) (h : ∀ d ∈ W, d.length ≤ 1000000) : smallA (mkN namesL W) := by
  refine ⟨Nat.le_trans (mkN_len _ _) (by decide), fun a ha => ?_⟩
  obtain ⟨h1, d, hd, h2⟩ := mkN_mem ha
  have h3 : ∀ n ∈ namesL, n.length ≤ 1000000 := by decide
  refine ⟨h3 _ h1, ?_⟩
  rw [h2]
  exact ⟨by simp, by intro s hs; simp only [List.mem_singleton] at hs; rw [hs]; exact h d hd⟩
end Go.Proofs.YtngbpegjoihajaaGreatDoor
