/- Several texts in one file: MkS, EnHasP, EnNEntP, EnMadP, EnSame, EnSameW, EnSameR, EnAwake, Arg, EnMdP, EnNEntR, EnNEntS, EnRSetP, MaRef. -/
import Derived.Test.YtjenbkdfbendlaaGreatDoorEnmP2
import Derived.Test.YtjenbkdfbendlaaGreatDoorEnmP1
import Derived.Test.YtjenbkdfbendlaaGreatDoorEnRead
import Derived.Test.YtjenbkdfbendlaaGreatDoorEnFind
import Derived.Test.YtjenbkdfbendlaaGreatDoorDnTextW
import Derived.OpenShut
import Derived.Carry
import Derived.ChangeSlices
import Derived.Deep.Strs
import Derived.Deep.SlicePairs
import Derived.Deep.AppendSrc
import Derived.ArgAppend
import Derived.Test.YtjenbkdfbendlaaGreatDoorScOwn
import Derived.Test.YtjenbkdfbendlaaGreatDoorMaFind
namespace Go.Proofs.YtjenbkdfbendlaaGreatDoor
open Go.RowKit
set_option linter.unusedVariables false

theorem len_one {x : List UInt8} (h : x.length ≤ 1000) : tinyT 1 [x] := ⟨by simp, fun t ht => by rw [List.mem_singleton.1 ht]; exact h⟩
theorem mkN_len (ns : List UInt8) : (mkN ns).length ≤ 4 := by
  unfold mkN
  have := itoa_short ⟨kOf ns 0 % 6, by omega⟩
  simp only [List.length_cons]
  exact Nat.succ_le_succ this
theorem itoa_kOf (ns : List UInt8) (i : Nat) : (Lib.itoa (kOf ns i : Int)).length ≤ 3 := itoa_short ⟨kOf ns i, by have : kOf ns i < 256 := (ns.getD i 0).toNat_lt; omega⟩
theorem itoa_mod (n : Nat) : (Lib.itoa ((n % 9 : Nat) : Int)).length ≤ 3 := itoa_short ⟨n % 9, by omega⟩
def nonA (L : List AT) : Prop := ∀ a ∈ L, a.2 ≠ []
theorem tiny_one {k : Nat} (hk : 1 ≤ k) {T : List UInt8} {A : List (List UInt8)} (hT : T.length ≤ 1000) (hA : tinyT k A) : tinyA k [(T, A)] := ⟨by simpa using hk, fun a ha => by rw [List.mem_singleton.1 ha]; exact ⟨hT, hA⟩⟩
theorem perL_tiny {n : List UInt8} (h : n.length ≤ 1000) : tinyA 3 (perL n) ∧ nonA (perL n) :=
  ⟨⟨by simp [perL], fun a ha => by
    simp only [perL, List.mem_cons, List.not_mem_nil, or_false] at ha
    rcases ha with rfl | rfl | rfl
    · exact ⟨by simp, (len_one h).mono (by omega)⟩
    · exact ⟨by decide, (len_one (by decide)).mono (by omega)⟩
    · exact ⟨by decide, (len_one (by decide)).mono (by omega)⟩⟩, fun a ha => by
    simp only [perL, List.mem_cons, List.not_mem_nil, or_false] at ha
    rcases ha with rfl | rfl | rfl <;> simp⟩
theorem nonA.app {L M : List AT} (h : nonA L) (hm : nonA M) : nonA (L ++ M) := fun a ha => (List.mem_append.1 ha).elim (h a) (hm a)
theorem mkLa_tiny (ns : List UInt8) : tinyA 4 (mkLa ns) ∧ nonA (mkLa ns) := by
  unfold mkLa
  have hn := mkN_len ns
  split
  · refine ⟨⟨by simp, fun a ha => ?_⟩, fun a ha => ?_⟩
    · simp only [List.mem_cons, List.not_mem_nil, or_false] at ha
      rcases ha with rfl | rfl | rfl | rfl
      · exact ⟨by simp, (len_one (by omega)).mono (by omega)⟩
      · exact ⟨by decide, (len_one (by decide)).mono (by omega)⟩
      · exact ⟨by simp, (len_one (by decide)).mono (by omega)⟩
      · exact ⟨by simp, (len_one (by have := itoa_kOf ns 2; simp only [List.length_append]; simp; omega)).mono (by omega)⟩
    · simp only [List.mem_cons, List.not_mem_nil, or_false] at ha
      rcases ha with rfl | rfl | rfl | rfl <;> simp
  · obtain ⟨h1, h2⟩ := perL_tiny (n := mkN ns) (by omega)
    exact ⟨h1.mono (by omega), h2⟩
theorem mkLb_tiny (ns : List UInt8) : tinyA 5 (mkLb ns) ∧ nonA (mkLb ns) := by
  unfold mkLb
  obtain ⟨h1, h2⟩ := mkLa_tiny ns
  split
  · refine ⟨(h1.mono (by omega)).app (tiny_one (by omega) (by decide) ⟨by simp, fun t ht => ?_⟩) (by have := h1.1; simp; omega), h2.app fun a ha => by rw [List.mem_singleton.1 ha]; simp⟩
    simp only [List.mem_cons, List.not_mem_nil, or_false] at ht
    rcases ht with rfl | rfl
    · have := itoa_mod (kOf ns 2)
      simp only [List.length_append]
      simp at this ⊢
      omega
    · decide
  · exact ⟨h1.mono (by omega), h2⟩
theorem mkLc_tiny (ns : List UInt8) : tinyA 7 (mkLc ns) ∧ nonA (mkLc ns) := by
  unfold mkLc
  obtain ⟨h1, h2⟩ := mkLb_tiny ns
  split
  · have ht : tinyA 7 ((mkLb ns).set 1 (objB, ((mkLb ns).getD 1 ([], [])).2 ++ [[112, 111, 115, 105, 120]])) := (h1.mono (by omega)).set (by simp [objB]) (by
      refine tinyT.app ?_ ((len_one (by decide)).mono (by omega)) ?_
      · obtain ⟨x, hx⟩ := mkLb_one ns
        rw [List.getD_eq_getElem?_getD, hx]
        exact ((h1.2 _ (List.mem_of_getElem? hx)).2).mono (by omega)
      · obtain ⟨x, hx⟩ := mkLb_one ns
        rw [List.getD_eq_getElem?_getD, hx]
        simp)
    have hn : nonA ((mkLb ns).set 1 (objB, ((mkLb ns).getD 1 ([], [])).2 ++ [[112, 111, 115, 105, 120]])) := fun a ha => by
      rcases List.mem_or_eq_of_mem_set ha with h' | rfl
      · exact h2 _ h'
      · simp
    have hl : ((mkLb ns).set 1 (objB, ((mkLb ns).getD 1 ([], [])).2 ++ [[112, 111, 115, 105, 120]])).length ≤ 5 := by rw [List.length_set]; exact h1.1
    generalize (mkLb ns).set 1 (objB, ((mkLb ns).getD 1 ([], [])).2 ++ [[112, 111, 115, 105, 120]]) = M at ht hn hl ⊢
    refine ⟨ht.app ⟨by simp, fun a ha => ?_⟩ (by simp; omega), hn.app fun a ha => ?_⟩
    · simp only [List.mem_cons, List.not_mem_nil, or_false] at ha
      rcases ha with rfl | rfl
      · exact ⟨by simp, (len_one (by have := itoa_mod (kOf ns 4); simp only [List.length_append]; simp at this ⊢; omega)).mono (by omega)⟩
      · refine ⟨by simp, (len_one ?_).mono (by omega)⟩
        have hk : kOf ns 4 < 256 := (ns.getD 4 0).toNat_lt
        have := itoa_len ((kOf ns 4 : Int) - 100) (by omega)
        omega
    · simp only [List.mem_cons, List.not_mem_nil, or_false] at ha
      rcases ha with rfl | rfl <;> simp
  · exact ⟨h1.mono (by omega), h2⟩
theorem mkLd_tiny (ns : List UInt8) : tinyA 8 (mkLd ns) ∧ nonA (mkLd ns) := by
  unfold mkLd
  obtain ⟨h1, h2⟩ := mkLc_tiny ns
  split
  · exact ⟨(h1.mono (by omega)).app (tiny_one (by omega) (by decide) ((len_one (by decide)).mono (by omega))) (by have := h1.1; simp; omega), h2.app fun a ha => by rw [List.mem_singleton.1 ha]; simp⟩
  · exact ⟨h1.mono (by omega), h2⟩
theorem mkD_len (ns : List UInt8) : (mkD ns).length ≤ 30 := by
  have := mkN_len ns
  unfold mkD perD
  split
  · simp only [List.length_append]; simp; omega
  · split
    · simp only [List.length_append]; simp; omega
    · simp only [List.length_append]; simp; omega
end Go.Proofs.YtjenbkdfbendlaaGreatDoor


namespace Go.Proofs.YtjenbkdfbendlaaGreatDoor
open Go.RowKit
set_option linter.unusedVariables false
set_option linter.unusedSimpArgs false

theorem sortA_mem {L : List AT} {a : AT} (h : a ∈ sortA L) : a ∈ L := srtG_mem _ h
theorem sortA_length (L : List AT) : (sortA L).length = L.length := srtG_length _ _ _
def okB (t : List UInt8) (A : List (List UInt8)) : Bool :=
  !A.isEmpty && A.all fun v => A.any (likeB t v) && (ruleD t != 1 || A.any (likeB t ([32] ++ upL v ++ [32]))) && (ruleD t != 4 || (A.any (likeB t (upL v)) == (upL v == v))) && !A.any (likeB t (v ++ [33, 33]))
theorem ok_cn : ∀ k : Fin 6, okB (nameA [99, 110]) [110 :: Lib.itoa ((k.val : Nat) : Int)] = true := by decide +kernel
theorem ok_obj : okB (nameA objB) [[112, 101, 114, 115, 111, 110]] = true ∧ okB (nameA objB) [[105, 110, 101, 116, 79, 114, 103, 80, 101, 114, 115, 111, 110]] = true ∧ okB (nameA objB) [[112, 101, 114, 115, 111, 110], [112, 111, 115, 105, 120]] = true ∧ okB (nameA objB) [[105, 110, 101, 116, 79, 114, 103, 80, 101, 114, 115, 111, 110], [112, 111, 115, 105, 120]] = true := by decide +kernel
theorem ok_sn : okB (nameA [115, 110]) [[115]] = true := by decide +kernel
theorem ok_mail : ∀ k : Fin 256, okB (nameA [109, 97, 105, 108]) [[97, 64] ++ Lib.itoa ((k.val : Nat) : Int)] = true := by decide +kernel
theorem ok_desc : ∀ k : Fin 9, okB (nameA [68, 101, 115, 99, 114, 105, 112, 116, 105, 111, 110]) [[100, 32] ++ Lib.itoa ((k.val : Nat) : Int), [101]] = true := by decide +kernel
theorem ok_uid : ∀ k : Fin 9, okB (nameA [117, 105, 100]) [[117] ++ Lib.itoa ((k.val : Nat) : Int)] = true := by decide +kernel
theorem ok_num : ∀ k : Fin 256, okB (nameA [117, 105, 100, 78, 117, 109, 98, 101, 114]) [Lib.itoa (((k.val : Nat) : Int) - 100)] = true := by decide +kernel
theorem ok_pw : okB (nameA [117, 115, 101, 114, 80, 97, 115, 115, 119, 111, 114, 100]) [[115, 101, 99, 114, 101, 116]] = true := by decide +kernel

def tysT : List (List (List UInt8)) :=
  let c : List UInt8 := [99, 110]; let o := objB; let s : List UInt8 := [115, 110]; let m : List UInt8 := [109, 97, 105, 108]; let d : List UInt8 := [68, 101, 115, 99, 114, 105, 112, 116, 105, 111, 110]
  let u : List UInt8 := [117, 105, 100]; let n : List UInt8 := [117, 105, 100, 78, 117, 109, 98, 101, 114]; let p : List UInt8 := [117, 115, 101, 114, 80, 97, 115, 115, 119, 111, 114, 100]
  [[c, o, s], [c, o, s, m], [c, o, s, d], [c, o, s, u, n], [c, o, s, m, u, n], [c, o, s, d, u, n], [c, o, s, p], [c, o, s, m, p], [c, o, s, d, p]]
theorem tys_ok : ∀ T ∈ tysT, (T.map (fun t => low (nameA t))).Nodup ∧ 3 ≤ T.length ∧ T.length ≤ 8 ∧ ∀ t ∈ T, low (nameA t) ≠ low [110, 111, 110, 101] ∧ (nameA t).length ≤ 100 := by decide +kernel

theorem mk_forms (ns : List UInt8) : (mkLd ns).map (fun a => a.1) ∈ tysT ∧ ∀ a ∈ mkLd ns, okB (nameA a.1) a.2 = true := by
  have hc := ok_cn ⟨kOf ns 0 % 6, by omega⟩
  have hm := ok_mail ⟨kOf ns 2, by have : kOf ns 2 < 256 := (ns.getD 2 0).toNat_lt; omega⟩
  have hd := ok_desc ⟨kOf ns 2 % 9, by omega⟩
  have hu := ok_uid ⟨kOf ns 4 % 9, by omega⟩
  have hn := ok_num ⟨kOf ns 4, by have : kOf ns 4 < 256 := (ns.getD 4 0).toNat_lt; omega⟩
  obtain ⟨o1, o2, o3, o4⟩ := ok_obj
  have hs := ok_sn
  have hp := ok_pw
  simp only at hc hm hd hu hn
  have hc : okB (nameA [99, 110]) [mkN ns] = true := hc
  unfold mkLd mkLc mkLb mkLa perL
  by_cases c1 : kOf ns 1 % 3 = 0
  · have c1' : ¬ kOf ns 1 % 3 = 1 := by omega
    by_cases c3 : kOf ns 3 % 4 = 0
    · have c3' : ¬ kOf ns 3 % 4 = 1 := by omega
      rw [if_neg c3', if_pos c3, if_neg c1', if_pos c1]
      refine ⟨by simp [tysT], fun a ha => ?_⟩
      simp only [List.set_cons_succ, List.set_cons_zero, List.getD_cons_succ, List.getD_cons_zero, List.cons_append, List.nil_append, List.mem_cons, List.not_mem_nil, or_false] at ha
      rcases ha with rfl | rfl | rfl | rfl | rfl | rfl
      · exact hc
      · exact o4
      · exact hs
      · exact hm
      · exact hu
      · exact hn
    · by_cases c3' : kOf ns 3 % 4 = 1
      · rw [if_pos c3', if_neg c3, if_neg c1', if_pos c1]
        refine ⟨by simp [tysT], fun a ha => ?_⟩
        simp only [List.cons_append, List.nil_append, List.mem_cons, List.not_mem_nil, or_false] at ha
        rcases ha with rfl | rfl | rfl | rfl | rfl
        · exact hc
        · exact o2
        · exact hs
        · exact hm
        · exact hp
      · rw [if_neg c3', if_neg c3, if_neg c1', if_pos c1]
        refine ⟨by simp [tysT], fun a ha => ?_⟩
        simp only [List.mem_cons, List.not_mem_nil, or_false] at ha
        rcases ha with rfl | rfl | rfl | rfl
        · exact hc
        · exact o2
        · exact hs
        · exact hm
  · by_cases c1' : kOf ns 1 % 3 = 1
    · by_cases c3 : kOf ns 3 % 4 = 0
      · have c3' : ¬ kOf ns 3 % 4 = 1 := by omega
        rw [if_neg c3', if_pos c3, if_pos c1', if_neg c1]
        refine ⟨by simp [tysT, objB], fun a ha => ?_⟩
        simp only [List.set_cons_succ, List.set_cons_zero, List.getD_cons_succ, List.getD_cons_zero, List.cons_append, List.nil_append, List.mem_cons, List.not_mem_nil, or_false] at ha
        rcases ha with rfl | rfl | rfl | rfl | rfl | rfl
        · exact hc
        · exact o3
        · exact hs
        · exact hd
        · exact hu
        · exact hn
      · by_cases c3' : kOf ns 3 % 4 = 1
        · rw [if_pos c3', if_neg c3, if_pos c1', if_neg c1]
          refine ⟨by simp [tysT, objB], fun a ha => ?_⟩
          simp only [List.cons_append, List.nil_append, List.mem_cons, List.not_mem_nil, or_false] at ha
          rcases ha with rfl | rfl | rfl | rfl | rfl
          · exact hc
          · exact o1
          · exact hs
          · exact hd
          · exact hp
        · rw [if_neg c3', if_neg c3, if_pos c1', if_neg c1]
          refine ⟨by simp [tysT, objB], fun a ha => ?_⟩
          simp only [List.cons_append, List.nil_append, List.mem_cons, List.not_mem_nil, or_false] at ha
          rcases ha with rfl | rfl | rfl | rfl
          · exact hc
          · exact o1
          · exact hs
          · exact hd
    · by_cases c3 : kOf ns 3 % 4 = 0
      · have c3' : ¬ kOf ns 3 % 4 = 1 := by omega
        rw [if_neg c3', if_pos c3, if_neg c1', if_neg c1]
        refine ⟨by simp [tysT, objB], fun a ha => ?_⟩
        simp only [List.set_cons_succ, List.set_cons_zero, List.getD_cons_succ, List.getD_cons_zero, List.cons_append, List.nil_append, List.mem_cons, List.not_mem_nil, or_false] at ha
        rcases ha with rfl | rfl | rfl | rfl | rfl
        · exact hc
        · exact o3
        · exact hs
        · exact hu
        · exact hn
      · by_cases c3' : kOf ns 3 % 4 = 1
        · rw [if_pos c3', if_neg c3, if_neg c1', if_neg c1]
          refine ⟨by simp [tysT, objB], fun a ha => ?_⟩
          simp only [List.cons_append, List.nil_append, List.mem_cons, List.not_mem_nil, or_false] at ha
          rcases ha with rfl | rfl | rfl | rfl
          · exact hc
          · exact o1
          · exact hs
          · exact hp
        · rw [if_neg c3', if_neg c3, if_neg c1', if_neg c1]
          refine ⟨by simp [tysT, objB], fun a ha => ?_⟩
          simp only [List.mem_cons, List.not_mem_nil, or_false] at ha
          rcases ha with rfl | rfl | rfl
          · exact hc
          · exact o1
          · exact hs

def mkE (ns : List UInt8) : List AT := sortA (normL (mkLd ns))
theorem mkE_mem {ns : List UInt8} {a : AT} (h : a ∈ mkE ns) : ∃ b ∈ mkLd ns, a = (nameA b.1, b.2) := by
  have h1 := sortA_mem h
  unfold normL at h1
  obtain ⟨b, hb, rfl⟩ := List.mem_map.1 h1
  exact ⟨b, hb, rfl⟩
theorem mkE_ty {ns : List UInt8} {b : AT} (h : b ∈ mkLd ns) : b.1 ∈ (mkLd ns).map (fun a => a.1) := List.mem_map.2 ⟨b, h, rfl⟩
theorem mkE_length (ns : List UInt8) : 3 ≤ (mkE ns).length ∧ (mkE ns).length ≤ 8 := by
  have h := tys_ok _ (mk_forms ns).1
  unfold mkE
  rw [sortA_length]
  unfold normL
  rw [List.length_map]
  have := h.2.1
  have := h.2.2.1
  rw [List.length_map] at *
  omega
theorem mkE_small (ns : List UInt8) : smallA (mkE ns) := by
  refine ⟨by have := (mkE_length ns).2; omega, fun a ha => ?_⟩
  obtain ⟨b, hb, rfl⟩ := mkE_mem ha
  have h1 := ((tys_ok _ (mk_forms ns).1).2.2.2 b.1 (mkE_ty hb)).2
  have h2 := (((mkLd_tiny ns).1.small (by omega)).2 b hb).2
  exact ⟨by show (nameA b.1).length ≤ 1000000; omega, h2⟩
end Go.Proofs.YtjenbkdfbendlaaGreatDoor


namespace Go.Proofs.YtjenbkdfbendlaaGreatDoor
set_option linter.unusedVariables false
set_option linter.unusedSimpArgs false

theorem ofL_bang (l : List UInt8) (i : Nat) : (ofL l)[i]! = l[i]! := by
  by_cases h : i < l.length
  · rw [getElem!_pos (ofL l) i (by simpa [ofL, ByteArray.size] using h), getElem!_pos l i h]
    rfl
  · rw [getElem!_neg (ofL l) i (by simpa [ofL, ByteArray.size] using h), getElem!_neg l i h]
theorem cmpL_cons (x y : UInt8) (a b : List UInt8) : cmpL (x :: a) (y :: b) = if (x != y) = true then (if x < y then -1 else 1) else cmpL a b := by
  unfold cmpL Extern.BytealgCompare.cmp
  simp only [ofL_bang, ofL_size, List.length_cons]
  rw [show min (a.length + 1) (b.length + 1) = min a.length b.length + 1 by omega, List.range_succ_eq_map, List.find?_cons]
  have e0 : (x :: a)[0]! = x := rfl
  have e1 : (y :: b)[0]! = y := rfl
  rw [e0, e1]
  by_cases h : (x != y) = true
  · rw [h, if_pos rfl]
    simp only [e0, e1]
  · have h' : (x != y) = false := by simpa using h
    rw [h', List.find?_map]
    simp only [Bool.false_eq_true, if_false]
    have e2 : ((fun i => (x :: a)[i]! != (y :: b)[i]!) ∘ Nat.succ) = fun i => a[i]! != b[i]! := by
      funext i
      simp
    rw [e2]
    cases hq : List.find? (fun i => a[i]! != b[i]!) (List.range (min a.length b.length)) with
    | none =>
      have e3 : (a.length + 1 < b.length + 1) = (a.length < b.length) := propext ⟨fun h => by omega, fun h => by omega⟩
      have e4 : (a.length + 1 > b.length + 1) = (a.length > b.length) := propext ⟨fun h => by omega, fun h => by omega⟩
      simp only [Option.map_none, e3, e4]
    | some i => simp
theorem cmpL_less : ∀ a b : List UInt8, decide (cmpL a b < 0) = Op.bytesLess a b
  | a, [] => by cases a <;> simp [cmpL, Extern.BytealgCompare.cmp, ofL_size, Op.bytesLess]
  | [], y :: b => by simp [cmpL, Extern.BytealgCompare.cmp, ofL_size, Op.bytesLess]
  | x :: a, y :: b => by
    have ih := cmpL_less a b
    rw [cmpL_cons]
    unfold Op.bytesLess
    by_cases h : x = y
    · subst h
      simp [ih]
    · have h1 : (x != y) = true := by simpa using h
      have h2 : (x == y) = false := by simpa using h
      rw [if_pos h1, h2]
      by_cases h3 : x < y <;> simp [h3]
theorem less_gtB : ∀ x y : List UInt8, Op.bytesLess y x = gtB x y
  | [], [] => rfl
  | [], _ :: _ => rfl
  | _ :: _, [] => rfl
  | a :: x, b :: y => by
    have ih := less_gtB x y
    unfold gtB at ih ⊢
    simp only [Op.bytesLess, List.cons_beq_cons]
    rw [ih]
    by_cases h : a = b
    · subst h; simp
    · have h1 : (a == b) = false := by simpa using h
      have h2 : (b == a) = false := by simpa using Ne.symm h
      rw [h1, h2]
      have h3 : a.toNat ≠ b.toNat := fun e => h (UInt8.toNat_inj.1 e)
      simp only [UInt8.lt_iff_toNat_lt]
      by_cases h4 : a.toNat < b.toNat
      · have h5 : ¬ b.toNat < a.toNat := by omega
        simp [h4, h5]
      · have h5 : b.toNat < a.toNat := by omega
        simp [h4, h5]
theorem cmp_gtB (x y : List UInt8) : cmpL y x < 0 ↔ gtB x y = true := by
  rw [← less_gtB, ← cmpL_less]; simp

def posB (S : List AT) (a : AT) : Nat → Nat
  | 0 => 0
  | k + 1 => match S[k]? with
    | some s => if gtB s.1 a.1 = true then posB S a k else k + 1
    | none => k + 1
def insB (S : List AT) (a : AT) : List AT := S.take (posB S a S.length) ++ a :: S.drop (posB S a S.length)
theorem posB_le (S : List AT) (a : AT) : ∀ k, posB S a k ≤ k
  | 0 => Nat.le_refl _
  | k + 1 => by
    unfold posB
    split
    · split
      · exact Nat.le_succ_of_le (posB_le S a k)
      · exact Nat.le_refl _
    · exact Nat.le_refl _
theorem posB_go {S : List AT} {a : AT} {k : Nat} (h : k < S.length) (hg : gtB S[k].1 a.1 = true) : posB S a (k + 1) = posB S a k := by
  rw [posB, List.getElem?_eq_getElem h]; simp only []; rw [if_pos hg]
theorem posB_stop {S : List AT} {a : AT} {k : Nat} (h : k < S.length) (hg : gtB S[k].1 a.1 = false) : posB S a (k + 1) = k + 1 := by
  rw [posB, List.getElem?_eq_getElem h]; simp only []; rw [if_neg (by simp [hg])]
theorem insB_length (S : List AT) (a : AT) : (insB S a).length = S.length + 1 := by
  unfold insB
  have := posB_le S a S.length
  simp; omega
theorem bub_pos (S : List AT) (a : AT) (r : List AT) : ∀ j, j ≤ S.length → bubG (fun a => a.1) j (S.take j ++ a :: (S.drop j ++ r)) = S.take (posB S a j) ++ a :: (S.drop (posB S a j) ++ r)
  | 0, _ => rfl
  | j + 1, h => by
    have hj : j < S.length := by omega
    have hl : j + 1 < (S.take (j + 1) ++ a :: (S.drop (j + 1) ++ r)).length := by simp; omega
    have hs : S.take (j + 1) = S.take j ++ [S[j]] := by rw [List.take_succ_eq_append_getElem hj]
    have hd : S.drop j = S[j] :: S.drop (j + 1) := List.drop_eq_getElem_cons hj
    have htl : (S.take j).length = j := by simp; omega
    have g1 : (S.take (j + 1) ++ a :: (S.drop (j + 1) ++ r))[j + 1]'hl = a := by
      rw [List.getElem_append_right (by simp; omega)]
      simp [show j + 1 - min (j + 1) S.length = 0 by omega]
    have g0 : (S.take (j + 1) ++ a :: (S.drop (j + 1) ++ r))[j]'(by omega) = S[j] := by
      rw [List.getElem_append_left (by simp; omega)]
      simp
    by_cases hg : gtB S[j].1 a.1 = true
    · rw [bubG_go hl (by rw [g1, g0]; exact (cmp_gtB _ _).2 hg), posB_go hj hg]
      have hsw : swapG (S.take (j + 1) ++ a :: (S.drop (j + 1) ++ r)) j = S.take j ++ a :: (S.drop j ++ r) := by
        rw [swapG_at hl, g1, g0, hs, hd]
        rw [List.append_assoc]
        simp only [List.cons_append, List.nil_append]
        rw [List.set_append_right _ _ (by omega), List.set_append_right _ _ (by omega)]
        rw [htl]
        simp
      rw [hsw]
      exact bub_pos S a r j (by omega)
    · have hg' : gtB S[j].1 a.1 = false := by simpa using hg
      rw [bubG_stop hl (by rw [g1, g0]; intro e; exact hg ((cmp_gtB _ _).1 e)), posB_stop hj hg']
theorem srt_fold (L : List AT) : ∀ k, k < L.length → srtG (fun a => a.1) k L = (L.take (k + 1)).foldl insB [] ++ L.drop (k + 1)
  | 0, h => by
    cases L with
    | nil => simp at h
    | cons a r => rfl
  | k + 1, h => by
    have ih := srt_fold L k (by omega)
    have hlen : ∀ (M : List AT) (S : List AT), (M.foldl insB S).length = S.length + M.length := by
      intro M
      induction M with
      | nil => intro S; rfl
      | cons a r ih => intro S; rw [List.foldl_cons, ih, insB_length, List.length_cons]; omega
    show bubG (fun a => a.1) (k + 1) (srtG (fun a => a.1) k L) = _
    rw [ih]
    obtain ⟨S, hS⟩ : ∃ S, S = (L.take (k + 1)).foldl insB [] := ⟨_, rfl⟩
    have hSl : S.length = k + 1 := by rw [hS, hlen]; simp; omega
    rw [← hS, List.drop_eq_getElem_cons h]
    have hb := bub_pos S L[k + 1] (L.drop (k + 1 + 1)) (k + 1) (by omega)
    rw [List.take_of_length_le (by omega), List.drop_of_length_le (by omega), List.nil_append] at hb
    rw [hb, List.take_succ_eq_append_getElem h, List.foldl_append, ← hS]
    show _ = insB S L[k + 1] ++ _
    unfold insB
    rw [hSl, List.append_assoc]; rfl
theorem sortA_fold (L : List AT) : sortA L = L.foldl insB [] := by
  unfold sortA
  cases hl : L with
  | nil => rfl
  | cons a r =>
    rw [srt_fold _ _ (by simp)]
    rw [List.take_of_length_le (by simp), List.drop_of_length_le (by simp), List.append_nil]
end Go.Proofs.YtjenbkdfbendlaaGreatDoor


namespace Go.Proofs.YtjenbkdfbendlaaGreatDoor
set_option linter.unusedVariables false
set_option linter.unusedSimpArgs false

def ordT (T : List (List UInt8)) : Bool := (List.range (T.length - 1)).all fun i => gtB (T.getD i []) (T.getD (i + 1) []) == false
theorem tys_ord : ∀ T ∈ tysT, ordT (srtG (fun t => t) ((T.map nameA).length - 1) (T.map nameA)) = true ∧ ∀ t ∈ T, nameA (nameA t) = nameA t := by decide +kernel
theorem sortA_types (L : List AT) : (sortA L).map (fun a => a.1) = srtG (fun t => t) ((L.map (fun a => a.1)).length - 1) (L.map (fun a => a.1)) := by
  unfold sortA
  rw [srtG_map (key' := fun t => t) (fun a : AT => a.1) (L.length - 1) L (fun _ _ => rfl), List.length_map]
theorem mkE_order (ns : List UInt8) : inOrder (mkE ns) := by
  have h := (tys_ord _ (mk_forms ns).1).1
  have hm : ((mkLd ns).map (fun a => a.1)).map nameA = (normL (mkLd ns)).map (fun a => a.1) := by unfold normL; simp
  rw [hm, ← sortA_types] at h
  intro i hi
  unfold ordT at h
  rw [List.all_eq_true] at h
  have h2 := h i (by rw [List.mem_range, List.length_map]; unfold mkE at hi; omega)
  have hi' : i + 1 < (sortA (normL (mkLd ns))).length := hi
  simp only [List.getD_eq_getElem?_getD, List.getElem?_map, List.getElem?_eq_getElem hi', List.getElem?_eq_getElem (show i < (sortA (normL (mkLd ns))).length by omega), Option.map_some, Option.getD_some] at h2
  intro hc
  have h3 := (cmp_gtB _ _).1 hc
  unfold mkE at h3
  have h4 := beq_iff_eq.1 h2
  exact Bool.noConfusion (h3.symm.trans h4)
theorem mkE_norm (ns : List UInt8) : normL (mkE ns) = mkE ns := by
  unfold normL
  conv => rhs; rw [← List.map_id (mkE ns)]
  apply List.map_congr_left
  intro a ha
  obtain ⟨b, hb, rfl⟩ := mkE_mem ha
  have := (tys_ord _ (mk_forms ns).1).2 b.1 (mkE_ty hb)
  show (nameA (nameA b.1), b.2) = (nameA b.1, b.2)
  rw [this]

def setN : List (List UInt8) := [[99, 110], [83, 78], [109, 97, 105, 108], [68, 101, 115, 99, 114, 105, 112, 116, 105, 111, 110], [117, 105, 100, 110, 117, 109, 98, 101, 114], [110, 111, 110, 101], [79]]
theorem setN_low : ∀ t ∈ setN, low (nameA t) = low t := by decide +kernel
theorem without_none (L : List AT) (t : List UInt8) : ∀ a ∈ withoutA L t, (low a.1 == low t) = false := fun a ha => by
  have := (List.mem_filter.1 ha).2
  simpa using this
theorem find_set {L : List AT} {t : List UInt8} {V : List (List UInt8)} (h : low (nameA t) = low t) : findA (setA L t V) t = V := by
  have hn := without_none L t
  have key : ∀ M : List AT, (∀ a ∈ M, (low a.1 == low t) = false) → M.find? (fun a => low a.1 == low t) = none := fun M hM => by
    rw [List.find?_eq_none]
    intro a ha
    rw [hM a ha]
    simp
  unfold setA
  by_cases hV : V = []
  · subst hV
    rw [if_pos rfl]
    unfold findA
    rw [key _ hn]
  · rw [if_neg hV]
    unfold insA
    have hk2 : ∀ r : List AT, ((nameA t, V) :: r).find? (fun a => low a.1 == low t) = some (nameA t, V) := fun r => by
      rw [List.find?_cons]
      simp [h]
    split
    · rename_i k hk
      unfold findA
      rw [List.find?_append, key _ (fun a ha => hn a (List.mem_of_mem_take ha)), hk2]
      rfl
    · unfold findA
      rw [List.find?_append, key _ hn, hk2]
      rfl
theorem name_twice : ∀ k : Fin 6, nameN (nameN ([99, 110, 61] ++ (110 :: Lib.itoa ((k.val : Nat) : Int)))) = nameN ([99, 110, 61] ++ (110 :: Lib.itoa ((k.val : Nat) : Int))) ∧ nameN (nameN ([67, 78, 61] ++ (110 :: Lib.itoa ((k.val : Nat) : Int)) ++ [44, 111, 117, 61, 97, 44, 111, 61, 120])) = nameN ([67, 78, 61] ++ (110 :: Lib.itoa ((k.val : Nat) : Int)) ++ [44, 111, 117, 61, 97, 44, 111, 61, 120]) ∧ nameN (nameN (perD (110 :: Lib.itoa ((k.val : Nat) : Int)))) = nameN (perD (110 :: Lib.itoa ((k.val : Nat) : Int))) := by decide +kernel
theorem mkD_twice (ns : List UInt8) : nameN (nameN (mkD ns)) = nameN (mkD ns) := by
  obtain ⟨h1, h2, h3⟩ := name_twice ⟨kOf ns 0 % 6, by omega⟩
  unfold mkD mkN
  split
  · exact h1
  · split
    · exact h2
    · exact h3
end Go.Proofs.YtjenbkdfbendlaaGreatDoor


namespace Go.Proofs.YtjenbkdfbendlaaGreatDoor
open Go.RowKit
set_option linter.unusedVariables false

set_option maxRecDepth 100000 in
set_option maxHeartbeats 2000000 in
theorem textsRef_q (L M : List (List UInt8)) (hs : L.length ≤ 1000000) (v u : Value) (w : World) (hL : IsT w.heap.size w L v) (hM : IsT w.heap.size w M u) :
    Calls Tryz.prog 11 #[v, u] w fun e w' => e = .returned (.bool (L == M)) ∧ ∃ m, w' = w.drewN m := by
  obtain ⟨a, c, rfl, hm, hcell⟩ := hL
  obtain ⟨b, d, rfl, hm2, hcell2⟩ := hM
  unfold maxLen at hm hm2
  have HC := Lib.hid hcell
  have HD := Lib.hid hcell2
  obtain ⟨R, hR⟩ : ∃ R, R = (L == M) := ⟨_, rfl⟩
  rw [← hR]
  have HR := Lib.hid hR
  clear hcell hcell2 hR
  by_cases hlen : L.length = M.length
  · have t0 : ((L.length : Int) != (M.length : Int)) = false := by simp [hlen]
    have t0' : ((M.length : Int) != (M.length : Int)) = false := by simp
    obtain ⟨n, hn⟩ : ∃ n, n = L.length := ⟨_, rfl⟩
    have hn2 : n = M.length := hn.trans hlen
    have HN := Lib.hid hn
    have HN2 := Lib.hid hn2
    have hn5 : n ≤ 1000000 := by omega
    rw [← hn, ← hn2]
    clear t0 t0' hlen hn hn2 hm hm2 hs
    go_enter Tryz.func11, Tryz.ntmps11
    go_wp2
    go_loopw [5] (fun i wr => ∃ j : Nat, j ≤ n ∧ i = .int .i64 j ∧ Hid (∀ k (h1 : k < L.length) (h2 : k < M.length), k < j → L[k] = M[k]) ∧ ∃ q, wr = w.drewN q) (fun i wr => n - (intOf i).toNat)
    case atStart => exact ⟨0, by omega, rfl, Lib.hid (fun k _ _ h => absurd h (by omega)), 0, rfl⟩
    case round =>
      obtain ⟨j, hj, rfl, HAll, q, rfl⟩ := hrel
      by_cases hlt : j < n
      · have t1 : decide ((j : Int) < (n : Int)) = true := by simp; omega
        have t1' : decide (j < n) = true := by simpa using hlt
        have q1 : (j : Int) < (n : Int) := by omega
        have hl1 : j < L.length := by rw [← HN.out]; exact hlt
        have hl2 : j < M.length := by rw [← HN2.out]; exact hlt
        obtain ⟨b1, f1, rfl, hb1, x0⟩ := HC.out j hl1
        obtain ⟨b2, f2, rfl, hb2, y0⟩ := HD.out j hl2
        obtain ⟨X, hX⟩ : ∃ X : ByteArray, ofL L[j] = X := ⟨_, rfl⟩
        obtain ⟨Y, hY⟩ : ∃ Y : ByteArray, ofL M[j] = Y := ⟨_, rfl⟩
        have gX : X.data.toList = L[j] := by rw [← hX, ofL_list]
        have gY : Y.data.toList = M[j] := by rw [← hY, ofL_list]
        have d0 : w.cell? ⟨b1, f1 + j, none⟩ = some (.string X) := by rw [x0, ← hX]; rfl
        have d1 : w.cell? ⟨b2, f2 + j, none⟩ = some (.string Y) := by rw [y0, ← hY]; rfl
        have GX := Lib.hid gX
        have GY := Lib.hid gY
        clear x0 y0 hX hY gX gY
        by_cases he : X = Y
        · subst he
          have HN1 : Hid (∀ k (h1 : k < L.length) (h2 : k < M.length), k < j + 1 → L[k] = M[k]) := Lib.hid (fun k h1 h2 h3 => by
            by_cases hk : k < j
            · exact HAll.out k h1 h2 hk
            · obtain rfl : k = j := by omega
              rw [← GX.out, ← GY.out])
          clear GX GY hl1 hl2
          go_wp2
          go_quiet (fail)
          go_wp2
          go_roundw
          case rel => exact ⟨j + 1, by omega, by go_num, HN1, _, rfl⟩
          case measure => simp [intOf]; omega
        · have t2 := str_ne he
          have HF : Hid (R = false) := Lib.hid (HR.out.trans (by
            have : L ≠ M := fun e => by
              subst e
              exact he (bytes_ext (by rw [GX.out, GY.out]))
            simpa using this))
          clear GX GY he hl1 hl2
          go_wp2
          go_quiet (fail)
          go_wp2
          go_ret
          exact ⟨by rw [HF.out]; rfl, _, World.drewN_drewN ..⟩
      · obtain rfl : j = n := by omega
        have t1 : decide ((j : Int) < (j : Int)) = false := by simp
        have t1' : decide (j < j) = false := by simp
        have HF : Hid (R = true) := Lib.hid (HR.out.trans (by
          have : L = M := List.ext_getElem (by rw [← HN.out, ← HN2.out]) (fun k h1 h2 => HAll.out k h1 h2 (by rw [HN.out]; exact h1))
          simp [this]))
        go_wp2
        go_ret
        exact ⟨by rw [HF.out]; rfl, _, rfl⟩
  · have t0 : ((L.length : Int) != (M.length : Int)) = true := by simp; omega
    have HF : Hid (R = false) := Lib.hid (HR.out.trans (by
      have : L ≠ M := fun e => hlen (by rw [e])
      simpa using this))
    clear hlen
    go_enter Tryz.func11, Tryz.ntmps11
    go_wp2
    go_ret
    exact ⟨by rw [HF.out]; rfl, 0, rfl⟩

set_option maxRecDepth 100000 in
set_option maxHeartbeats 2000000 in
theorem equalT_any (L M : List (List UInt8)) (hs : L.length ≤ 1000000) (v u : Value) (w : World) (hL : IsT w.heap.size w L v) (hM : IsT w.heap.size w M u) :
    Calls Tryz.prog 64 #[v, u] w fun e w' => e = .returned (.bool (L == M)) ∧ Below w.heap.size w w' := by
  obtain ⟨a, c, rfl, hm, hcell⟩ := hL
  obtain ⟨b, d, rfl, hm2, hcell2⟩ := hM
  unfold maxLen at hm hm2
  have HC := Lib.hid hcell
  have HD := Lib.hid hcell2
  obtain ⟨R, hR⟩ : ∃ R, R = (L == M) := ⟨_, rfl⟩
  rw [← hR]
  have HR := Lib.hid hR
  clear hcell hcell2 hR
  by_cases hlen : L.length = M.length
  · have t0 : ((L.length : Int) != (M.length : Int)) = false := by simp [hlen]
    have t0' : ((M.length : Int) != (M.length : Int)) = false := by simp
    obtain ⟨n, hn⟩ : ∃ n, n = L.length := ⟨_, rfl⟩
    have hn2 : n = M.length := hn.trans hlen
    have HN := Lib.hid hn
    have HN2 := Lib.hid hn2
    have hn5 : n ≤ 1000000 := by omega
    rw [← hn, ← hn2]
    clear t0 t0' hlen hn hn2 hm hm2 hs
    go_enter Tryz.func64, Tryz.ntmps64
    go_wp2
    go_loopw [13] (fun i wr => ∃ j : Nat, j ≤ n ∧ i = .int .i64 j ∧ Hid (∀ k (h1 : k < L.length) (h2 : k < M.length), k < j → L[k] = M[k]) ∧ Below w.heap.size w wr) (fun i wr => n - (intOf i).toNat)
    case atStart => exact ⟨0, by omega, rfl, Lib.hid (fun k _ _ h => absurd h (by omega)), Below.refl _ _⟩
    case round =>
      obtain ⟨j, hj, rfl, HAll, hbel⟩ := hrel
      have HBel := Lib.hid hbel
      by_cases hlt : j < n
      · have t1 : decide ((j : Int) < (n : Int)) = true := by simp; omega
        have t1' : decide (j < n) = true := by simpa using hlt
        have q1 : (j : Int) < (n : Int) := by omega
        have hl1 : j < L.length := by rw [← HN.out]; exact hlt
        have hl2 : j < M.length := by rw [← HN2.out]; exact hlt
        obtain ⟨b1, f1, rfl, hb1, x0⟩ := HC.out j hl1
        obtain ⟨b2, f2, rfl, hb2, y0⟩ := HD.out j hl2
        obtain ⟨X, hX⟩ : ∃ X : ByteArray, ofL L[j] = X := ⟨_, rfl⟩
        obtain ⟨Y, hY⟩ : ∃ Y : ByteArray, ofL M[j] = Y := ⟨_, rfl⟩
        have gX : X.data.toList = L[j] := by rw [← hX, ofL_list]
        have gY : Y.data.toList = M[j] := by rw [← hY, ofL_list]
        have d0 : wr.cell? ⟨b1, f1 + j, none⟩ = some (.string X) := by rw [hbel.cell (p := ⟨b1, _, none⟩) hb1, x0, ← hX]; rfl
        have d1 : wr.cell? ⟨b2, f2 + j, none⟩ = some (.string Y) := by rw [hbel.cell (p := ⟨b2, _, none⟩) hb2, y0, ← hY]; rfl
        have GX := Lib.hid gX
        have GY := Lib.hid gY
        clear x0 y0 hX hY gX gY hbel
        by_cases he : X = Y
        · subst he
          have HN1 : Hid (∀ k (h1 : k < L.length) (h2 : k < M.length), k < j + 1 → L[k] = M[k]) := Lib.hid (fun k h1 h2 h3 => by
            by_cases hk : k < j
            · exact HAll.out k h1 h2 hk
            · obtain rfl : k = j := by omega
              rw [← GX.out, ← GY.out])
          clear GX GY hl1 hl2
          go_wp2
          go_quiet (fail)
          go_wp2
          go_roundw
          case rel => exact ⟨j + 1, by omega, by go_num, HN1, below_drewN HBel.out _⟩
          case measure => simp [intOf]; omega
        · have t2 := str_ne he
          have HF : Hid (R = false) := Lib.hid (HR.out.trans (by
            have : L ≠ M := fun e => by
              subst e
              exact he (bytes_ext (by rw [GX.out, GY.out]))
            simpa using this))
          clear GX GY he hl1 hl2
          go_wp2
          go_quiet (fail)
          go_wp2
          go_ret
          exact ⟨by rw [HF.out]; rfl, below_drewN HBel.out _⟩
      · obtain rfl : j = n := by omega
        have t1 : decide ((j : Int) < (j : Int)) = false := by simp
        have t1' : decide (j < j) = false := by simp
        have HF : Hid (R = true) := Lib.hid (HR.out.trans (by
          have : L = M := List.ext_getElem (by rw [← HN.out, ← HN2.out]) (fun k h1 h2 => HAll.out k h1 h2 (by rw [HN.out]; exact h1))
          simp [this]))
        clear hbel
        go_wp2
        go_ret
        exact ⟨by rw [HF.out]; rfl, HBel.out⟩
  · have t0 : ((L.length : Int) != (M.length : Int)) = true := by simp; omega
    have HF : Hid (R = false) := Lib.hid (HR.out.trans (by
      have : L ≠ M := fun e => hlen (by rw [e])
      simpa using this))
    clear hlen
    go_enter Tryz.func64, Tryz.ntmps64
    go_wp2
    go_ret
    exact ⟨by rw [HF.out]; rfl, Below.refl _ _⟩
end Go.Proofs.YtjenbkdfbendlaaGreatDoor


namespace Go.Proofs.YtjenbkdfbendlaaGreatDoor
open Go.RowKit
set_option linter.unusedVariables false

theorem IsT.sl {n : Nat} {w : World} {L : List (List UInt8)} {v : Value} (h : IsT n w L v) : ∃ a k c, v = .slice a k c := by
  obtain ⟨a, c, hv, _⟩ := h; exact ⟨a, _, c, hv⟩
theorem IsA.sl {n : Nat} {w : World} {L : List AT} {v : Value} (h : IsA n w L v) : ∃ a k c, v = .slice a k c := by
  obtain ⟨a, c, hv, _⟩ := h; exact ⟨a, _, c, hv⟩
set_option maxRecDepth 100000 in
set_option maxHeartbeats 2000000 in
theorem sameAttr_any (X Y : ByteArray) (A B : List (List UInt8)) (u v : Value) (hs : A.length ≤ 1000000) (w : World) (hu : IsT w.heap.size w A u) (hv : IsT w.heap.size w B v) :
    Calls Tryz.prog 41 #[.agg #[.string X, u], .agg #[.string Y, v]] w fun e w' => e = .returned (.bool ((X.data.toList, A) == (Y.data.toList, B))) ∧ Below w.heap.size w w' := by
  obtain ⟨ua, un, uc, rfl⟩ := hu.sl
  obtain ⟨va, vn, vc, rfl⟩ := hv.sl
  have hb : Below w.heap.size w ((w.alloc (.cells #[.string X, .slice ua un uc] 40)).alloc (.cells #[.string Y, .slice va vn vc] 40)) := ((Below.refl _ _).alloc (Nat.le_refl _) _).alloc (by simp) _
  have HB := Lib.hid hb
  have HU := Lib.hid hu
  have HV := Lib.hid hv
  obtain ⟨R, hR⟩ : ∃ R, R = ((X.data.toList, A) == (Y.data.toList, B)) := ⟨_, rfl⟩
  rw [← hR]
  have HR := Lib.hid hR
  clear hb hu hv hR
  by_cases he : X = Y
  · subst he
    obtain ⟨g, hg⟩ : ∃ g, g = (A == B) := ⟨_, rfl⟩
    have HF : Hid (R = g) := Lib.hid (HR.out.trans (by rw [hg]; show (X.data.toList == X.data.toList && A == B) = _; simp))
    have HG := Lib.hid hg
    clear hg
    go_enter Tryz.func41, Tryz.ntmps41
    go_wp2_with (go_at_call 64; refine (equalT_any A B hs (.slice ua un uc) (.slice va vn vc) _ (HU.out.below HB.out HB.out.size) (HV.out.below HB.out HB.out.size)).mono ?_; rintro e w2 ⟨he, hb2⟩; rw [← HG.out] at he; subst he; have HB2 := Lib.hid (HB.out.trans (hb2.mono HB.out.size)); clear hb2)
    go_ret
    exact ⟨by rw [HF.out]; rfl, HB2.out⟩
  · have t1 := str_ne he
    have HF : Hid (R = false) := Lib.hid (HR.out.trans (by
      show (X.data.toList == Y.data.toList && A == B) = false
      have : (X.data.toList == Y.data.toList) = false := by
        have : X.data.toList ≠ Y.data.toList := fun e => he (bytes_ext e)
        simpa using this
      rw [this]; rfl))
    clear he
    go_enter Tryz.func41, Tryz.ntmps41
    go_wp2
    go_ret
    exact ⟨by rw [HF.out]; rfl, HB.out⟩

set_option maxRecDepth 100000 in
set_option maxHeartbeats 4000000 in
theorem equalA_any (L M : List AT) (hs : smallA L) (v u : Value) (w : World) (hL : IsA w.heap.size w L v) (hM : IsA w.heap.size w M u) :
    Calls Tryz.prog 40 #[v, u, .func (.func 41) #[] #[]] w fun e w' => e = .returned (.bool (L == M)) ∧ Below w.heap.size w w' := by
  obtain ⟨a, c, rfl, hm, hcell⟩ := hL
  obtain ⟨b, d, rfl, hm2, hcell2⟩ := hM
  unfold maxLen at hm hm2
  have HC := Lib.hid hcell
  have HD := Lib.hid hcell2
  obtain ⟨R, hR⟩ : ∃ R, R = (L == M) := ⟨_, rfl⟩
  rw [← hR]
  have HR := Lib.hid hR
  have HS := Lib.hid hs
  clear hcell hcell2 hR
  by_cases hlen : L.length = M.length
  · obtain ⟨n, hn⟩ : ∃ n, n = L.length := ⟨_, rfl⟩
    have hn2 : n = M.length := hn.trans hlen
    have HN := Lib.hid hn
    have HN2 := Lib.hid hn2
    have hn5 : n ≤ 1000000 := by have := hs.1; omega
    rw [← hn, ← hn2]
    clear hlen hn hn2 hm hm2 hs
    go_enter Tryz.func40, Tryz.ntmps40
    go_wp2
    go_loopw [17] (fun i wr => ∃ j : Nat, j ≤ n ∧ i = .int .i64 j ∧ Hid (∀ k (h1 : k < L.length) (h2 : k < M.length), k < j → L[k] = M[k]) ∧ Below w.heap.size w wr) (fun i wr => n - (intOf i).toNat)
    case atStart => exact ⟨0, by omega, rfl, Lib.hid (fun k _ _ h => absurd h (by omega)), Below.refl _ _⟩
    case round =>
      obtain ⟨j, hj, rfl, HAll, hbel⟩ := hrel
      have HBel := Lib.hid hbel
      have hbs := hbel.size
      by_cases hlt : j < n
      · have t1 : decide ((j : Int) < (n : Int)) = true := by simp; omega
        have t1' : decide (j < n) = true := by simpa using hlt
        have q1 : (j : Int) < (n : Int) := by omega
        have hl1 : j < L.length := by rw [← HN.out]; exact hlt
        have hl2 : j < M.length := by rw [← HN2.out]; exact hlt
        obtain ⟨b1, f1, x, rfl, hb1, x0, x1, hx⟩ := HC.out j hl1
        obtain ⟨b2, f2, y, rfl, hb2, y0, y1, hy⟩ := HD.out j hl2
        obtain ⟨xa, xn, xc, rfl⟩ := hx.sl
        obtain ⟨ya, yn, yc, rfl⟩ := hy.sl
        obtain ⟨X, hX⟩ : ∃ X : ByteArray, ofL L[j].1 = X := ⟨_, rfl⟩
        obtain ⟨Y, hY⟩ : ∃ Y : ByteArray, ofL M[j].1 = Y := ⟨_, rfl⟩
        have gX : X.data.toList = L[j].1 := by rw [← hX, ofL_list]
        have gY : Y.data.toList = M[j].1 := by rw [← hY, ofL_list]
        have d0 : wr.cell? ⟨b1, f1 + j * 2, none⟩ = some (.string X) := by rw [hbel.cell (p := ⟨b1, _, none⟩) hb1, x0, ← hX]; rfl
        have d1 := (hbel.cell (p := ⟨b1, f1 + j * 2 + 1, none⟩) hb1).trans x1
        have hal : Below wr.heap.size wr (wr.alloc (.cells #[.string X, .slice xa xn xc] 40)) := (Below.refl _ _).alloc (Nat.le_refl _) _
        have e0 : (wr.alloc (.cells #[.string X, .slice xa xn xc] 40)).cell? ⟨b2, f2 + j * 2, none⟩ = some (.string Y) := by rw [hal.cell (p := ⟨b2, _, none⟩) (Nat.lt_of_lt_of_le hb2 hbs), hbel.cell (p := ⟨b2, _, none⟩) hb2, y0, ← hY]; rfl
        have e1 : (wr.alloc (.cells #[.string X, .slice xa xn xc] 40)).cell? ⟨b2, f2 + j * 2 + 1, none⟩ = some (.slice ya yn yc) := by rw [hal.cell (p := ⟨b2, _, none⟩) (Nat.lt_of_lt_of_le hb2 hbs), hbel.cell (p := ⟨b2, _, none⟩) hb2, y1]
        have h0 : ((wr.alloc (.cells #[.string X, .slice xa xn xc] 40)).alloc (.cells #[.string Y, .slice ya yn yc] 40)).cell? ⟨wr.heap.size, 0, none⟩ = some (.string X) := by rw [World.cell?_alloc_lt _ _ _ (by simp)]; simp
        have h1 : ((wr.alloc (.cells #[.string X, .slice xa xn xc] 40)).alloc (.cells #[.string Y, .slice ya yn yc] 40)).cell? ⟨wr.heap.size, 1, none⟩ = some (.slice xa xn xc) := by rw [World.cell?_alloc_lt _ _ _ (by simp)]; simp
        have hb2' : Below wr.heap.size wr ((wr.alloc (.cells #[.string X, .slice xa xn xc] 40)).alloc (.cells #[.string Y, .slice ya yn yc] 40)) := hal.alloc (by simp) _
        have HBB := Lib.hid (HBel.out.trans (hb2'.mono hbs))
        have hsa := sameAttr_any X Y L[j].2 M[j].2 (.slice xa xn xc) (.slice ya yn yc) (by have := (HS.out.2 L[j] (List.getElem_mem _)).2.1; omega) _ (hx.below HBB.out HBB.out.size) (hy.below HBB.out HBB.out.size)
        rw [gX, gY] at hsa
        obtain ⟨g, hg⟩ : ∃ g, g = ((L[j].1, L[j].2) == (M[j].1, M[j].2)) := ⟨_, rfl⟩
        rw [← hg] at hsa
        have HSa := Lib.hid hsa
        have hgl : g = (L[j] == M[j]) := hg
        cases g with
        | true =>
          have heq : L[j] = M[j] := by simpa using hgl.symm
          have HN1 : Hid (∀ k (h1 : k < L.length) (h2 : k < M.length), k < j + 1 → L[k] = M[k]) := Lib.hid (fun k h1 h2 h3 => by
            by_cases hk : k < j
            · exact HAll.out k h1 h2 hk
            · obtain rfl : k = j := by omega
              exact heq)
          clear heq hgl hg hsa x0 x1 y0 y1 hX hY gX gY hbel hal hb2' hx hy hl1 hl2
          go_wp2_with (go_at_call 41; refine (HSa.out).mono ?_; rintro e w2 ⟨rfl, hb2⟩; have HB2 := Lib.hid (HBB.out.trans (hb2.mono HBB.out.size)); clear hb2)
          go_roundw
          case rel => exact ⟨j + 1, by omega, by go_num, HN1, HB2.out⟩
          case measure => simp [intOf]; omega
        | false =>
          have hne : L[j] ≠ M[j] := by simpa using hgl.symm
          have HF : Hid (R = false) := Lib.hid (HR.out.trans (by
            have : L ≠ M := fun e => by subst e; exact hne rfl
            simpa using this))
          clear hne hgl hg hsa x0 x1 y0 y1 hX hY gX gY hbel hal hb2' hx hy hl1 hl2
          go_wp2_with (go_at_call 41; refine (HSa.out).mono ?_; rintro e w2 ⟨rfl, hb2⟩; have HB2 := Lib.hid (HBB.out.trans (hb2.mono HBB.out.size)); clear hb2)
          go_ret
          exact ⟨by rw [HF.out]; rfl, HB2.out⟩
      · obtain rfl : j = n := by omega
        have t1 : decide ((j : Int) < (j : Int)) = false := by simp
        have t1' : decide (j < j) = false := by simp
        have HF : Hid (R = true) := Lib.hid (HR.out.trans (by
          have : L = M := List.ext_getElem (by rw [← HN.out, ← HN2.out]) (fun k h1 h2 => HAll.out k h1 h2 (by rw [HN.out]; exact h1))
          simp [this]))
        clear hbel
        go_wp2
        go_ret
        exact ⟨by rw [HF.out]; rfl, HBel.out⟩
  · have t0 : ((L.length : Int) != (M.length : Int)) = true := by simp; omega
    have HF : Hid (R = false) := Lib.hid (HR.out.trans (by
      have : L ≠ M := fun e => hlen (by rw [e])
      simpa using this))
    clear hlen
    go_enter Tryz.func40, Tryz.ntmps40
    go_wp2
    go_ret
    exact ⟨by rw [HF.out]; rfl, Below.refl _ _⟩
end Go.Proofs.YtjenbkdfbendlaaGreatDoor


namespace Go.Proofs.YtjenbkdfbendlaaGreatDoor
open Go.RowKit
set_option linter.unusedVariables false

theorem boxes2 (w : World) (d e : ByteArray) (x y : Value) : ((w.alloc (.cells #[.string d, x] 24)).alloc (.cells #[.string e, y] 24)).cell? ⟨w.heap.size, 0, none⟩ = some (.string d) ∧ ((w.alloc (.cells #[.string d, x] 24)).alloc (.cells #[.string e, y] 24)).cell? ⟨w.heap.size, 1, none⟩ = some x ∧
    ((w.alloc (.cells #[.string d, x] 24)).alloc (.cells #[.string e, y] 24)).cell? ⟨w.heap.size + 1, 0, none⟩ = some (.string e) ∧ ((w.alloc (.cells #[.string d, x] 24)).alloc (.cells #[.string e, y] 24)).cell? ⟨w.heap.size + 1, 1, none⟩ = some y := by
  refine ⟨?_, ?_, ?_, ?_⟩
  · rw [World.cell?_alloc_lt _ _ _ (by simp)]; simp
  · rw [World.cell?_alloc_lt _ _ _ (by simp)]; simp
  · simp
  · simp

set_option maxRecDepth 100000 in
set_option maxHeartbeats 2000000 in
theorem same_entry (d e : ByteArray) (L M : List AT) (hs : smallA L) (v u : Value) (w : World) (hL : IsA w.heap.size w L v) (hM : IsA w.heap.size w M u) :
    Calls Tryz.prog 17 #[.agg #[.string d, v], .agg #[.string e, u]] w fun r w' => r = .returned (.bool ((d.data.toList, L) == (e.data.toList, M))) ∧ Below w.heap.size w w' := by
  obtain ⟨ua, un, uc, rfl⟩ := hL.sl
  obtain ⟨va, vn, vc, rfl⟩ := hM.sl
  have hb : Below w.heap.size w ((w.alloc (.cells #[.string d, .slice ua un uc] 24)).alloc (.cells #[.string e, .slice va vn vc] 24)) := ((Below.refl _ _).alloc (Nat.le_refl _) _).alloc (by simp) _
  have HB := Lib.hid hb
  have HU := Lib.hid hL
  have HV := Lib.hid hM
  obtain ⟨R, hR⟩ : ∃ R, R = ((d.data.toList, L) == (e.data.toList, M)) := ⟨_, rfl⟩
  rw [← hR]
  have HR := Lib.hid hR
  obtain ⟨b0, b1, b2, b3⟩ := boxes2 w d e (.slice ua un uc) (.slice va vn vc)
  clear hb hL hM hR
  by_cases he : d = e
  · subst he
    obtain ⟨g, hg⟩ : ∃ g, g = (L == M) := ⟨_, rfl⟩
    have HF : Hid (R = g) := Lib.hid (HR.out.trans (by rw [hg]; show (d.data.toList == d.data.toList && L == M) = _; simp))
    have HG := Lib.hid hg
    clear hg
    go_enter Tryz.func17, Tryz.ntmps17
    go_wp2_with (go_at_call 40; refine (equalA_any L M hs (.slice ua un uc) (.slice va vn vc) _ (HU.out.below HB.out HB.out.size) (HV.out.below HB.out HB.out.size)).mono ?_; rintro e w2 ⟨he, hb2⟩; rw [← HG.out] at he; subst he; have HB2 := Lib.hid (HB.out.trans (hb2.mono HB.out.size)); clear hb2)
    go_ret
    exact ⟨by rw [HF.out]; rfl, HB2.out⟩
  · have t1 := str_ne he
    have HF : Hid (R = false) := Lib.hid (HR.out.trans (by
      show (d.data.toList == e.data.toList && L == M) = false
      have : (d.data.toList == e.data.toList) = false := by
        have : d.data.toList ≠ e.data.toList := fun x => he (bytes_ext x)
        simpa using this
      rw [this]; rfl))
    clear he
    go_enter Tryz.func17, Tryz.ntmps17
    go_wp2
    go_ret
    exact ⟨by rw [HF.out]; rfl, HB.out⟩

set_option maxRecDepth 100000 in
set_option maxHeartbeats 8000000 in
theorem sameRef_entry (d e : ByteArray) (L M : List AT) (hs : smallA L) (v u : Value) (w : World) (hL : IsA w.heap.size w L v) (hM : IsA w.heap.size w M u) :
    Calls Tryz.prog 8 #[.agg #[.string d, v], .agg #[.string e, u]] w fun r w' => r = .returned (.bool ((d.data.toList, L) == (e.data.toList, M))) ∧ Below w.heap.size w w' := by
  obtain ⟨ua, uc, hu, hum, _⟩ := id hL
  obtain ⟨va, vc, hv, hvm, _⟩ := id hM
  obtain ⟨un, hun⟩ : ∃ n, n = L.length := ⟨_, rfl⟩
  obtain ⟨vn, hvn⟩ : ∃ n, n = M.length := ⟨_, rfl⟩
  rw [← hun] at hu hum
  rw [← hvn] at hv hvm
  unfold maxLen at hum hvm
  subst hu hv
  have hb : Below w.heap.size w ((w.alloc (.cells #[.string d, .slice ua un uc] 24)).alloc (.cells #[.string e, .slice va vn vc] 24)) := ((Below.refl _ _).alloc (Nat.le_refl _) _).alloc (by simp) _
  have HB := Lib.hid hb
  have hLW := hL.below hb hb.size
  have hMW := hM.below hb hb.size
  obtain ⟨R, hR⟩ : ∃ R, R = ((d.data.toList, L) == (e.data.toList, M)) := ⟨_, rfl⟩
  rw [← hR]
  have HR := Lib.hid hR
  obtain ⟨b0, b1, b2, b3⟩ := boxes2 w d e (.slice ua un uc) (.slice va vn vc)
  have HS := Lib.hid hs
  have hn5 : un ≤ 1000000 := by have := hs.1; omega
  have HUn := Lib.hid hun
  have HVn := Lib.hid hvn
  have HL := Lib.hid hLW
  have HM := Lib.hid hMW
  clear hb hL hM hR hs hun hvn hLW hMW
  by_cases he : d ≠ e
  · have t1 := str_ne he
    have HF : Hid (R = false) := Lib.hid (HR.out.trans (by
      show (d.data.toList == e.data.toList && L == M) = false
      have : (d.data.toList == e.data.toList) = false := by
        have : d.data.toList ≠ e.data.toList := fun x => he (bytes_ext x)
        simpa using this
      rw [this]; rfl))
    clear he
    go_enter Tryz.func8, Tryz.ntmps8
    go_wp2
    go_ret
    exact ⟨by rw [HF.out]; rfl, HB.out⟩
  have he := Classical.not_not.1 he
  subst he
  by_cases hlen : un ≠ vn
  · have t0 : ((un : Int) != (vn : Int)) = true := by simp; omega
    have HF : Hid (R = false) := Lib.hid (HR.out.trans (by
      have : L ≠ M := fun x => hlen (by rw [HUn.out, HVn.out, x])
      have h2 : (L == M) = false := by simpa using this
      show (d.data.toList == d.data.toList && L == M) = false
      rw [h2]; simp))
    clear hlen
    go_enter Tryz.func8, Tryz.ntmps8
    go_wp2
    go_ret
    exact ⟨by rw [HF.out]; rfl, HB.out⟩
  have hlen := Classical.not_not.1 hlen
  subst hlen
  have HR2 : Hid (R = (L == M)) := Lib.hid (HR.out.trans (by show (d.data.toList == d.data.toList && L == M) = _; simp))
  clear HR
  go_enter Tryz.func8, Tryz.ntmps8
  go_wp2
  generalize ((w.alloc (.cells #[.string d, .slice ua un uc] 24)).alloc (.cells #[.string d, .slice va un vc] 24)) = W at b0 b1 b2 b3 HB HL HM ⊢
  go_loopw [5] (fun i wr => ∃ j : Nat, j ≤ un ∧ i = .int .i64 j ∧ Hid (∀ k (h1 : k < L.length) (h2 : k < M.length), k < j → L[k] = M[k]) ∧ ∃ q, wr = W.drewN q) (fun i wr => un - (intOf i).toNat)
  case atStart => exact ⟨0, by omega, rfl, Lib.hid (fun k _ _ h => absurd h (by omega)), 0, rfl⟩
  case round =>
    obtain ⟨j, hj, rfl, HAll, hq⟩ := hrel
    have HQ := Lib.hid hq
    have hcl : ∀ b o, wr.cell? ⟨b, o, none⟩ = W.cell? ⟨b, o, none⟩ := fun b o => by obtain ⟨q, rfl⟩ := hq; rfl
    have c0 := (hcl _ _).trans b0
    have c1 := (hcl _ _).trans b1
    have c2 := (hcl _ _).trans b2
    have c3 := (hcl _ _).trans b3
    have HLr : Hid (IsA wr.heap.size wr L (.slice ua un uc)) := Lib.hid (by obtain ⟨q, rfl⟩ := hq; exact HL.out)
    have HMr : Hid (IsA wr.heap.size wr M (.slice va un vc)) := Lib.hid (by obtain ⟨q, rfl⟩ := hq; exact HM.out)
    have HBr : Hid (Below w.heap.size w wr) := Lib.hid (by obtain ⟨q, rfl⟩ := hq; exact below_drewN HB.out _)
    clear hcl hq b0 b1 b2 b3
    by_cases hlt : j < un
    · have t1 : decide ((j : Int) < (un : Int)) = true := by simp; omega
      have t1' : decide (j < un) = true := by simpa using hlt
      have q1 : (j : Int) < (un : Int) := by omega
      have hl1 : j < L.length := by rw [← HUn.out]; exact hlt
      have hl2 : j < M.length := by rw [← HVn.out]; exact hlt
      obtain ⟨xa0, xc0, hxe, _, hxc⟩ := HLr.out
      obtain ⟨ya0, yc0, hye, _, hyc⟩ := HMr.out
      obtain ⟨g1, f1, x, hxa, hb1, x0, x1, hx⟩ := hxc j hl1
      obtain ⟨g2, f2, y, hya, hb2, y0, y1, hy⟩ := hyc j hl2
      simp only [Value.slice.injEq] at hxe hye
      obtain ⟨hxe1, hxe2, hxe3⟩ := hxe
      obtain ⟨hye1, hye2, hye3⟩ := hye
      clear hxe2 hye2 hxe3 hye3 hxc hyc
      subst hxe1 hye1
      subst hxa hya
      obtain ⟨xa, xn, xc, rfl⟩ := hx.sl
      obtain ⟨ya, yn, yc, rfl⟩ := hy.sl
      obtain ⟨X, hX⟩ : ∃ X : ByteArray, ofL L[j].1 = X := ⟨_, rfl⟩
      obtain ⟨Y, hY⟩ : ∃ Y : ByteArray, ofL M[j].1 = Y := ⟨_, rfl⟩
      have gX : X.data.toList = L[j].1 := by rw [← hX, ofL_list]
      have gY : Y.data.toList = M[j].1 := by rw [← hY, ofL_list]
      have d0 : wr.cell? ⟨g1, f1 + j * 2, none⟩ = some (.string X) := by rw [x0, ← hX]; rfl
      have e0 : wr.cell? ⟨g2, f2 + j * 2, none⟩ = some (.string Y) := by rw [y0, ← hY]; rfl
      by_cases he : X = Y
      · have hT := fun n => textsRef_q L[j].2 M[j].2 (by have := (HS.out.2 L[j] (List.getElem_mem _)).2.1; omega) (.slice xa xn xc) (.slice ya yn yc) (wr.drewN n) hx hy
        obtain ⟨g, hg⟩ : ∃ g, g = (L[j].2 == M[j].2) := ⟨_, rfl⟩
        rw [← hg] at hT
        have HT := Lib.hid hT
        have hgl : g = (L[j] == M[j]) := by
          rw [hg]
          show _ = (L[j].1 == M[j].1 && L[j].2 == M[j].2)
          rw [← gX, ← gY, he]; simp
        cases g with
        | true =>
          have heq : L[j] = M[j] := by simpa using hgl.symm
          have HN1 : Hid (∀ k (h1 : k < L.length) (h2 : k < M.length), k < j + 1 → L[k] = M[k]) := Lib.hid (fun k h1 h2 h3 => by
            by_cases hk : k < j
            · exact HAll.out k h1 h2 hk
            · obtain rfl : k = j := by omega
              exact heq)
          clear heq hgl hg hT x0 y0 hX hY gX gY hx hy hl1 hl2
          subst he
          go_wp2
          go_quiet ((go_at_call 11; refine Calls.quiet_of (HT.out _)))
          go_wp2
          go_roundw
          case rel => exact ⟨j + 1, by omega, by go_num, HN1, by obtain ⟨q, hq⟩ := HQ.out; exact ⟨_, by rw [hq]; exact World.drewN_drewN ..⟩⟩
          case measure => simp [intOf]; omega
        | false =>
          have hne : L[j] ≠ M[j] := by simpa using hgl.symm
          have HF : Hid (R = false) := Lib.hid (HR2.out.trans (by
            have : L ≠ M := fun e => by subst e; exact hne rfl
            simpa using this))
          clear hne hgl hg hT x0 y0 hX hY gX gY hx hy hl1 hl2
          subst he
          go_wp2
          go_quiet ((go_at_call 11; refine Calls.quiet_of (HT.out _)))
          go_wp2
          go_ret
          exact ⟨by rw [HF.out]; rfl, below_drewN HBr.out _⟩
      · have t2 := str_ne he
        have HF : Hid (R = false) := Lib.hid (HR2.out.trans (by
          have : L ≠ M := fun x => by subst x; exact he (bytes_ext (by rw [gX, gY]))
          simpa using this))
        clear x0 y0 hX hY gX gY hx hy hl1 hl2 he
        go_wp2
        go_quiet (fail)
        go_wp2
        go_ret
        exact ⟨by rw [HF.out]; rfl, below_drewN HBr.out _⟩
    · obtain rfl : j = un := by omega
      have t1 : decide ((j : Int) < (j : Int)) = false := by simp
      have t1' : decide (j < j) = false := by simp
      have HF : Hid (R = true) := Lib.hid (HR2.out.trans (by
        have : L = M := List.ext_getElem (by rw [← HUn.out, ← HVn.out]) (fun k h1 h2 => HAll.out k h1 h2 (by rw [HUn.out]; exact h1))
        simp [this]))
      go_wp2
      go_ret
      exact ⟨by rw [HF.out]; rfl, HBr.out⟩
end Go.Proofs.YtjenbkdfbendlaaGreatDoor


namespace Go.Proofs.YtjenbkdfbendlaaGreatDoor
open Go.RowKit
set_option linter.unusedVariables false

theorem isT_one (w : World) (X : ByteArray) (n0 : Nat) (h : w.heap.size < n0) : IsT n0 (w.alloc (.cells #[.string X] 9)) [X.data.toList] (.slice (some ⟨w.heap.size, 0, none⟩) 1 1) :=
  ⟨_, _, rfl, by unfold maxLen; simp, fun j hj => by
    have : j = 0 := by simp at hj; omega
    subst this
    refine ⟨w.heap.size, 0, rfl, h, ?_⟩
    rw [show [X.data.toList][0] = X.data.toList from rfl, strV_whole]
    simp⟩
theorem smallA_nil : smallA [] := ⟨by simp, by simp⟩
theorem setO : setA [] [79] [[120]] = [([111], [[120]])] := by decide
theorem hasO : hasA [([111], [[120]])] [111] [88] = true := by decide +kernel

set_option maxRecDepth 100000 in
set_option maxHeartbeats 4000000 in
theorem awake5_any (w : World) (hw : LaidW w) : Calls Tryz.prog 6 #[] w fun e w' => e = .returned (.bool true) ∧ Below w.heap.size w w' := by
  have HW := Lib.hid hw
  have hset := set_any ⟨#[111, 61, 120]⟩ ⟨#[79]⟩ [] [[120]] (by decide) (by decide) smallA_nil ⟨by decide, by decide⟩ (.slice none 0 0) (.slice (some ⟨w.heap.size, 0, none⟩) 1 1) (w.alloc (.cells #[.string ⟨#[120]⟩] 9)) (isA_nil _ _ _ _) (isT_one w ⟨#[120]⟩ _ (by simp))
  rw [show (⟨#[79]⟩ : ByteArray).data.toList = [79] from rfl, setO] at hset
  have HSet := Lib.hid hset
  have HB0 := Lib.hid (Below.alloc (Below.refl w.heap.size w) (Nat.le_refl _) (.cells #[.string ⟨#[120]⟩] 9))
  have hsm : smallA [([111], [[120]])] := ⟨by decide, fun a ha => by simp only [List.mem_singleton] at ha; subst ha; exact ⟨by decide, by decide, by decide⟩⟩
  have HSm := Lib.hid hsm
  clear hw hset hsm
  go_enter Tryz.func6, Tryz.ntmps6
  go_wp2_with (first
    | (go_at_call 16; refine (HSet.out).mono ?_; rintro e w2 ⟨v2, rfl, hown2, hb2⟩; have HB2 := Lib.hid (HB0.out.trans (hb2.mono HB0.out.size)); (obtain ⟨sa, sc, hv2, hml, hc2⟩ := ownA_isA hown2 (by unfold maxLen; decide)); (obtain ⟨b, off, u, hsa, hbl, hc0, hc1, hu⟩ := hc2 0 (by decide)); have HIA := Lib.hid (ownA_isA hown2 (by unfold maxLen; decide)); subst hsa; (simp only [List.length_singleton] at hv2); subst hv2; (have hc00 : w2.cell? ⟨b, off, none⟩ = some (.string ⟨#[111]⟩) := by { simpa [strV] using hc0 }); clear hc0 hc1; clear hown2 hb2 hml hc2)
    | (go_at_call 12; refine (vals_any ⟨#[]⟩ [] smallA_nil (.slice none 0 0) ⟨#[99, 110]⟩ _ (isA_nil _ _ _ _)).mono ?_; rintro e w3 ⟨u3, rfl, hown3, hb3⟩; rw [show findA [] (⟨#[99, 110]⟩ : ByteArray).data.toList = [] from rfl] at hown3; (obtain ⟨xa, xc, rfl⟩ := ownS_slice hown3); (have hz : w2.heap.size < w3.heap.size := by { have := hb3.size; simp only [World.size_alloc] at this; omega }); (have p0 : w3.cell? ⟨w2.heap.size, 0, none⟩ = some (.string ⟨#[111, 61, 120]⟩) := (hb3.cell (p := ⟨w2.heap.size, 0, none⟩) (by simp)).trans (by simp)); (have p1 : w3.cell? ⟨w2.heap.size, 1, none⟩ = some (.slice (some ⟨b, off, none⟩) 1 sc) := (hb3.cell (p := ⟨w2.heap.size, 1, none⟩) (by simp)).trans (by simp)); have HBA := Lib.hid (((Below.refl w2.heap.size w2).alloc (Nat.le_refl _) (.cells #[.string ⟨#[111, 61, 120]⟩, .slice (some ⟨b, off, none⟩) 1 sc] 24)).trans (hb3.mono (by simp))); clear hown3 hb3)
    | (go_at_call 14; refine (has_any ⟨#[111, 61, 120]⟩ ⟨#[111]⟩ ⟨#[88]⟩ [([111], [[120]])] HSm.out (.slice (some ⟨b, off, none⟩) 1 sc) _ (HW.out.below (bthen HB2.out HBA.out)) (HIA.out.below HBA.out HBA.out.size)).mono ?_; rintro e w4 ⟨he, hb4⟩; rw [show (⟨#[111]⟩ : ByteArray).data.toList = [111] from rfl, show (⟨#[88]⟩ : ByteArray).data.toList = [88] from rfl, hasO] at he; subst he; (have p1 := (hb4.cell (p := ⟨w2.heap.size, 1, none⟩) hz).trans p1); (have q0 : w4.cell? ⟨b, off, none⟩ = some (.string ⟨#[111]⟩) := (hb4.cell (p := ⟨b, off, none⟩) (show b < w3.heap.size by omega)).trans ((HBA.out.cell (p := ⟨b, off, none⟩) hbl).trans hc00)); have HB4 := Lib.hid (bthen (bthen HB2.out HBA.out) hb4); clear hb4))
  go_ret
  exact ⟨rfl, HB4.out⟩
end Go.Proofs.YtjenbkdfbendlaaGreatDoor


namespace Go.Proofs.YtjenbkdfbendlaaGreatDoor
open Go.RowKit
set_option linter.unusedVariables false

def IsB (n0 : Nat) (w : World) (l : List UInt8) (a : Option Addr) (cap : Nat) : Prop :=
  l.length ≤ maxLen ∧ (l = [] ∨ ∃ b off, a = some ⟨b, off, none⟩ ∧ b < n0 ∧ ∀ j, (h : j < l.length) → w.cell? ⟨b, off + j, none⟩ = some (.int .u8 l[j].toNat))
def IsS (n0 : Nat) (w : World) (L : List ByteArray) (a : Option Addr) (cap : Nat) : Prop :=
  L.length ≤ maxLen ∧ (∀ s ∈ L, s.size ≤ maxLen) ∧ (L = [] ∨ ∃ b off, a = some ⟨b, off, none⟩ ∧ b < n0 ∧ ∀ j, (h : j < L.length) → w.cell? ⟨b, off + j, none⟩ = some (.string L[j]))
theorem IsB.below {n0 : Nat} {w w' : World} {l : List UInt8} {a : Option Addr} {cap : Nat} (h : IsB n0 w l a cap) (hb : Below n0 w w') : IsB n0 w' l a cap :=
  ⟨h.1, h.2.imp id fun ⟨b, off, e, hlt, hc⟩ => ⟨b, off, e, hlt, fun j hj => (hb.cell (p := ⟨b, _, none⟩) hlt).trans (hc j hj)⟩⟩
theorem IsS.below {n0 : Nat} {w w' : World} {l : List ByteArray} {a : Option Addr} {cap : Nat} (h : IsS n0 w l a cap) (hb : Below n0 w w') : IsS n0 w' l a cap :=
  ⟨h.1, h.2.1, h.2.2.imp id fun ⟨b, off, e, hlt, hc⟩ => ⟨b, off, e, hlt, fun j hj => (hb.cell (p := ⟨b, _, none⟩) hlt).trans (hc j hj)⟩⟩

set_option maxRecDepth 100000 in
theorem open_bytes {H : Type} {enc : TypeId × Value → H} {W : World} {v : Value} {d : DataW H} {ps : List MemPlace} (hval : Value.okWide Tryz.prog W .any 0 36 v) (hd : DataW.Trod enc Tryz.prog W 0 (fun _ => true) true 36 v d ps) :
    ∃ (a : Option Addr) (cap : Nat) (l : List UInt8), v = .slice a l.length cap ∧ IsB W.heap.size W l a cap := by
  obtain ⟨a0, len, cap, rfl⟩ := Go.WideShapes.okWide_slice Tryz.underlying36 hval
  obtain ⟨fuel, hf⟩ := hd
  have hc : Tryz.prog.cellsOf 5 = 1 := by kernel_rfl
  rcases Go.ChangeShapes.open_ints Tryz.underlying36 Tryz.underlying5 hc hf with ⟨hcs, _⟩ | ⟨a, len', cap', zs, hcs, _, hle, hmax, hall, _, hcell, hwf⟩
  · simp [Value.cells] at hcs
    obtain ⟨rfl, rfl, rfl⟩ := hcs
    exact ⟨none, 0, [], rfl, Nat.zero_le _, .inl rfl⟩
  · simp [Value.cells] at hcs
    obtain ⟨rfl, rfl, rfl⟩ := hcs
    simp only [if_true] at hall
    have hlen : ((zs.take len).map fun z => UInt8.ofNat z.toNat).length = len := by simp; omega
    refine ⟨some a, cap, (zs.take len).map fun z => UInt8.ofNat z.toNat, by rw [hlen], by omega, ?_⟩
    by_cases h0 : len = 0
    · left; subst h0; simp
    · right
      obtain ⟨b, off, rfl, hat⟩ := ints_at hcell (by omega)
      refine ⟨b, off, rfl, World.block_lt_of_cell? W ⟨b, off + 0, none⟩ (hat 0 (by omega)), fun j hj => ?_⟩
      have hjz : j < zs.length := by omega
      have hw := hwf zs[j] (List.getElem_mem _)
      simp only [Lit.wf, Bool.and_eq_true, decide_eq_true_eq] at hw
      have h1 : (0 : Int) ≤ zs[j] := hw.1
      have h2 : zs[j] ≤ 255 := hw.2
      have hn : (UInt8.ofNat zs[j].toNat).toNat = zs[j].toNat := by simp; omega
      rw [hat j hjz]
      simp only [List.getElem_map, List.getElem_take, hn]
      simp [List.getD, List.getElem?_eq_getElem hjz]
      omega

set_option maxRecDepth 100000 in
theorem open_texts {H : Type} {enc : TypeId × Value → H} {W : World} {v : Value} {d : DataW H} {ps : List MemPlace} (hval : Value.okWide Tryz.prog W .any 0 25 v) (hd : DataW.Trod enc Tryz.prog W 0 (fun _ => true) true 25 v d ps) :
    ∃ (a : Option Addr) (cap : Nat) (L : List ByteArray), v = .slice a L.length cap ∧ IsS W.heap.size W L a cap := by
  obtain ⟨a0, len, cap, rfl⟩ := Go.WideShapes.okWide_slice Tryz.underlying25 hval
  obtain ⟨fuel, hf⟩ := hd
  have hc : Tryz.prog.cellsOf 9 = 1 := by kernel_rfl
  rcases Go.Deep.open_strs Tryz.underlying25 Tryz.underlying9 hc hf with ⟨hcs, _⟩ | ⟨a, len', cap', m, Sx, hcs, _, hle, hmax, hm, _, hcell⟩
  · simp [Value.cells] at hcs
    obtain ⟨rfl, rfl, rfl⟩ := hcs
    exact ⟨none, 0, [], rfl, Nat.zero_le _, by simp, .inl rfl⟩
  · simp [Value.cells] at hcs
    obtain ⟨rfl, rfl, rfl⟩ := hcs
    simp only [if_true] at hm
    have hlen : ((List.range len).map Sx).length = len := by simp
    refine ⟨some a, cap, (List.range len).map Sx, by rw [hlen], by omega, ?_, ?_⟩
    · intro s hs
      obtain ⟨i, hi, rfl⟩ := List.mem_map.1 hs
      exact (hcell i (by have := List.mem_range.1 hi; omega)).2
    by_cases h0 : len = 0
    · left; subst h0; simp
    · right
      obtain ⟨b, off, spot⟩ := a
      have h1 := (hcell 0 (by omega)).1
      have hspot : spot = none := by simpa [Addr.add] using World.cell?_spot h1
      subst hspot
      refine ⟨b, off, rfl, World.block_lt_of_cell? W _ h1, fun j hj => ?_⟩
      have h2 := (hcell j (by omega)).1
      rw [Go.WideShapes.add_plain] at h2
      rw [h2]
      simp
end Go.Proofs.YtjenbkdfbendlaaGreatDoor


namespace Go.Proofs.YtjenbkdfbendlaaGreatDoor
open Go.RowKit
set_option linter.unusedVariables false
set_option linter.unusedSimpArgs false

theorem isS_isT {n0 : Nat} {w : World} {L : List ByteArray} {a : Option Addr} {c : Nat} (h : IsS n0 w L a c) : IsT n0 w (L.map (fun s => s.data.toList)) (.slice a L.length c) := by
  obtain ⟨h1, h2, h3⟩ := h
  refine ⟨a, c, by rw [List.length_map], by rw [List.length_map]; exact h1, fun j hj => ?_⟩
  rw [List.length_map] at hj
  rcases h3 with rfl | ⟨b, off, rfl, hb, hc⟩
  · exact absurd hj (by simp)
  · refine ⟨b, off, rfl, hb, ?_⟩
    rw [hc j hj, List.getElem_map, strV_whole]
theorem without_mem {L : List AT} {t : List UInt8} {a : AT} (h : a ∈ withoutA L t) : a ∈ L := (List.mem_filter.1 h).1
theorem withoutA_le (L : List AT) (t : List UInt8) : (withoutA L t).length ≤ L.length := List.length_filter_le _ _
theorem insA_mem {M : List AT} {x a : AT} (h : a ∈ insA M x) : a = x ∨ a ∈ M := by
  unfold insA at h
  split at h
  · rcases List.mem_append.1 h with h | h
    · exact .inr (List.mem_of_mem_take h)
    · rcases List.mem_cons.1 h with h | h
      · exact .inl h
      · exact .inr (List.mem_of_mem_drop h)
  · rcases List.mem_append.1 h with h | h
    · exact .inr h
    · exact .inl (by simpa using h)
theorem smallA_setA {L : List AT} {t : List UInt8} {V : List (List UInt8)} (hL : smallA L) (hl : L.length ≤ 999) (ht : (nameA t).length ≤ 1000000) (hV : smallT V) : smallA (setA L t V) := by
  unfold setA
  split
  · exact ⟨Nat.le_trans (withoutA_le L t) hL.1, fun a ha => hL.2 a (without_mem ha)⟩
  · refine ⟨by rw [insA_len]; have := withoutA_le L t; omega, fun a ha => ?_⟩
    rcases insA_mem ha with rfl | ha
    · exact ⟨ht, hV⟩
    · exact hL.2 a (without_mem ha)
theorem name_short : ∀ k : Fin 6, (nameN ([99, 110, 61] ++ (110 :: Lib.itoa ((k.val : Nat) : Int)))).length ≤ 1000 ∧ (nameN ([67, 78, 61] ++ (110 :: Lib.itoa ((k.val : Nat) : Int)) ++ [44, 111, 117, 61, 97, 44, 111, 61, 120])).length ≤ 1000 ∧ (nameN (perD (110 :: Lib.itoa ((k.val : Nat) : Int)))).length ≤ 1000 := by decide +kernel
theorem mkD_short (ns : List UInt8) : (nameN (mkD ns)).length ≤ 1000 := by
  obtain ⟨h1, h2, h3⟩ := name_short ⟨kOf ns 0 % 6, by omega⟩
  unfold mkD mkN
  split
  · exact h1
  · split
    · exact h2
    · exact h3
theorem setN_small : ∀ t ∈ setN, (nameA t).length ≤ 1000000 ∧ t.length ≤ 100 := by decide +kernel
theorem setN_cell (w : World) (k : Nat) (hk : k < 7) : ∃ T : ByteArray, T.data.toList ∈ setN ∧ (w.alloc (.cells #[.string ⟨#[99, 110]⟩, .string ⟨#[83, 78]⟩, .string ⟨#[109, 97, 105, 108]⟩, .string ⟨#[68, 101, 115, 99, 114, 105, 112, 116, 105, 111, 110]⟩, .string ⟨#[117, 105, 100, 110, 117, 109, 98, 101, 114]⟩, .string ⟨#[110, 111, 110, 101]⟩, .string ⟨#[79]⟩] 9)).cell? ⟨w.heap.size, k, none⟩ = some (.string T) := by
  rcases (show k = 0 ∨ k = 1 ∨ k = 2 ∨ k = 3 ∨ k = 4 ∨ k = 5 ∨ k = 6 by omega) with rfl | rfl | rfl | rfl | rfl | rfl | rfl
  · exact ⟨⟨#[99, 110]⟩, by decide, by go_simp⟩
  · exact ⟨⟨#[83, 78]⟩, by decide, by go_simp⟩
  · exact ⟨⟨#[109, 97, 105, 108]⟩, by decide, by go_simp⟩
  · exact ⟨⟨#[68, 101, 115, 99, 114, 105, 112, 116, 105, 111, 110]⟩, by decide, by go_simp⟩
  · exact ⟨⟨#[117, 105, 100, 110, 117, 109, 98, 101, 114]⟩, by decide, by go_simp⟩
  · exact ⟨⟨#[110, 111, 110, 101]⟩, by decide, by go_simp⟩
  · exact ⟨⟨#[79]⟩, by decide, by go_simp⟩
theorem isB_to {w w' : World} {l : List UInt8} {a : Option Addr} {cap : Nat} (h : IsB w.heap.size w l a cap) (hb : Below w.heap.size w w') : IsB w'.heap.size w' l a cap := by
  obtain ⟨h1, h2⟩ := h
  refine ⟨h1, ?_⟩
  rcases h2 with rfl | ⟨b, off, rfl, hb2, hc⟩
  · exact .inl rfl
  · exact .inr ⟨b, off, rfl, Nat.lt_of_lt_of_le hb2 hb.size, fun j hj => (hb.cell (p := ⟨b, off + j, none⟩) hb2).trans (hc j hj)⟩
theorem norm_mkE (ns : List UInt8) (d : ByteArray) (hd : d.size ≤ 140737488351232) (v : Value) (w : World) (h : IsA w.heap.size w (mkE ns) v) :
    Calls Tryz.prog 9 #[.agg #[.string d, v]] w fun e w' => ∃ v', e = .returned (.agg #[strV (nameN d.data.toList), v']) ∧ OwnA w.heap.size w' v' (mkE ns) ∧ Below w.heap.size w w' := by
  have h1 := norm_entry d hd (mkE ns) (mkE_small ns) (by have := (mkE_length ns).2; omega) (by rw [mkE_norm]; exact mkE_order ns) v w h
  rw [mkE_norm] at h1
  exact h1
theorem beq_self_T (V : List (List UInt8)) : (V == V) = true := by simp
theorem below_of_drewN {w w' : World} {m : Nat} (h : w' = w.drewN m) : Below w.heap.size w w' := by rw [h]; exact below_drewN (Below.refl _ _) m
theorem beq_self_E (d : List UInt8) (L : List AT) : ((d, L) == (d, L)) = true := by simp
end Go.Proofs.YtjenbkdfbendlaaGreatDoor


namespace Go.Proofs.YtjenbkdfbendlaaGreatDoor
open Go.RowKit
set_option linter.unusedVariables false
set_option linter.unusedSimpArgs false

theorem run_copy_T {w : World} {ok : Nat → Prop} {g : Nat} {u : Value} {A : List (List UInt8)} (hg : w.heap[g]? = some (.cells #[] 9 (0, 0))) (hu : IsTo ok w A u) (hlen : A.length ≤ 100000) (ty : TypeId) :
    ∃ v' w', (Builtin.append_ #[25, 25] ty #[.slice (some ⟨g, 0, none⟩) 0 0, u]).run Tryz.prog w = .ok v' w' ∧ IsTo (StrB w') w' A v' ∧ Below w.heap.size w w' := by
  obtain ⟨i0, hi, hz0, hz1, hz2⟩ := info_parts infoS
  obtain ⟨a, c, rfl, hm, hc⟩ := hu
  cases a with
  | none =>
    have hA : A = [] := by
      cases A with
      | nil => rfl
      | cons x l => obtain ⟨b, off, e, _⟩ := hc 0 (by simp); cases e
    subst hA
    refine ⟨.slice (some ⟨g, 0, none⟩) 0 0, w, ?_, ⟨_, _, rfl, Nat.zero_le _, fun j h => absurd h (by simp)⟩, Below.refl _ _⟩
    exact run_append_room_src (P := Tryz.prog) w 25 25 ty 9 i0 Tryz.underlying25 hi g 0 0 0 (.slice none 0 c) 0 [] (Src.ofNil w Tryz.underlying25 c) (by simp) (fun j h => absurd h (by simp)) (fun j h => absurd h (by simp))
  | some ad =>
    have hcl : ∀ j x, (A.map strV)[j]? = some x → w.cell? (ad.add j) = some x := by
      intro j x hx
      have hj : j < A.length := by
        rcases Nat.lt_or_ge j A.length with h | h
        · exact h
        · rw [List.getElem?_eq_none (by simpa using h)] at hx; cases hx
      obtain ⟨b, off, e, _, h0⟩ := hc j hj
      simp only [Option.some.injEq] at e
      subst e
      have hadd : (⟨b, off, none⟩ : Addr).add j = ⟨b, off + j, none⟩ := by simp [Addr.add]
      rw [hadd, h0]
      simpa [hj] using hx
    by_cases hA : A = []
    · subst hA
      refine ⟨.slice (some ⟨g, 0, none⟩) 0 0, w, ?_, ⟨_, _, rfl, Nat.zero_le _, fun j h => absurd h (by simp)⟩, Below.refl _ _⟩
      exact run_append_room_src (P := Tryz.prog) w 25 25 ty 9 i0 Tryz.underlying25 hi g 0 0 0 (.slice (some ad) 0 c) 0 [] (by rw [hz1]; exact Src.ofSlice w Tryz.underlying25 ad 0 c [] (by simp) (fun j u h => absurd h (by simp)) (by simp)) (by simp) (fun j h => absurd h (by simp)) (fun j h => absurd h (by simp))
    · have hpos : 0 < A.length := by cases A with | nil => exact absurd rfl hA | cons x r => simp
      obtain ⟨v', w', hrun, hown, hgr⟩ := run_append_arg_grows (P := Tryz.prog) (w := w) 25 ty 9 i0 (.string ⟨#[]⟩) 1 16 Tryz.underlying25 hi hz0 hz1 hz2 rfl (by decide) ⟨g, 0, none⟩ 0 0 [] (by simp) (fun j u h => absurd h (by simp)) ad A.length c (A.map strV) (by simp) hcl (by omega) (by unfold maxLen; omega) (by simp; omega)
      have hown2 : OwnS w.heap.size w' v' A := by
        unfold OwnS
        rw [List.nil_append, Nat.zero_add] at hown
        exact hown
      exact ⟨v', w', hrun, ownS_strB hown2 (by unfold maxLen; omega), ⟨hgr.os, hgr.tape, hgr.output, hgr.size, fun k hk => hgr.block k hk (by simp)⟩⟩

theorem sortA_len2 (L : List AT) : (sortA L).length = L.length := srtG_length _ _ _
theorem insF_len : ∀ (M S : List AT), (M.foldl insB S).length = S.length + M.length
  | [], S => rfl
  | a :: r, S => by rw [List.foldl_cons, insF_len r, insB_length, List.length_cons]; omega
theorem run_copy_A {w : World} {B Bz g k n cap : Nat} {la : Option Addr} {P : List PT} {L : List AT} (hg : w.heap[g]? = some (.cells #[] 40 (0, 0))) (hBg : Bz ≤ g) (hBz : Bz ≤ w.heap.size) (hr : RowP B w (.slice la n cap) P) (hs : SaysM w P L) (hk0 : 0 < k) (hk : k ≤ L.length) (hL : L.length ≤ 1000) (ty : TypeId) :
    ∃ v' w', (Builtin.append_ #[22, 22] ty #[.slice (some ⟨g, 0, none⟩) 0 0, .slice la k cap]).run Tryz.prog w = .ok v' w' ∧ OwnM Bz w' v' (L.take k) ∧ Below w.heap.size w w' := by
  obtain ⟨i0, hi, hz0, hz1, hz2⟩ := info_parts infoA
  have hPl := hs.1
  have hne : P ≠ [] := by intro e; rw [e] at hPl; simp at hPl; omega
  obtain ⟨g2, c2, hv, _⟩ := rowP_at hr hne
  simp only [Value.slice.injEq] at hv
  obtain ⟨rfl, rfl, rfl⟩ := hv
  have hcells := World.ownsRow.cells hr (show (Value.slice (some ⟨g2, 0, none⟩) P.length cap).ownBlock = some g2 from rfl)
  have hsrc := row_part (w := w) (b := g2) (P := P) (fun j u h => by
    have h1 := hcells j u h
    have hadd : (⟨g2, 0, none⟩ : Addr).add j = ⟨g2, j, none⟩ := by simp [Addr.add]; omega
    rw [hadd] at h1
    exact h1) [] (P.take k) (P.drop k) (by simp)
  have hsay : SaysM w (P.take k) (L.take k) := saysM_part (A := []) (C := P.drop k) (L := []) (N := L.drop k) (by simpa using hs) rfl (by simp [hPl])
  have hkl : (P.take k).length = k := by simp; omega
  obtain ⟨v', w', hrun, hown, hgr⟩ := run_append_arg_grows (P := Tryz.prog) (w := w) 22 ty 40 i0 (.agg #[.string ⟨#[]⟩, .slice none 0 0]) 2 40 Tryz.underlying22 hi hz0 hz1 hz2 rfl (by decide) ⟨g, 0, none⟩ 0 0 [] (by simp) (fun j u h => absurd h (by simp)) ⟨g2, 0, none⟩ k cap (cellsP (P.take k)) (by rw [cellsP_length, hkl]) (fun j u h => by have := hsrc j u h; simpa using this) (by omega) (by unfold maxLen; omega) (by simp; omega)
  have hbl : Below w.heap.size w w' := ⟨hgr.os, hgr.tape, hgr.output, hgr.size, fun k hk => hgr.block k hk (by simp)⟩
  refine ⟨v', w', hrun, ownM_mono ⟨P.take k, ?_, saysM_below hsay hbl⟩ hBz, hbl⟩
  unfold RowP
  rw [hkl]
  rw [List.nil_append, Nat.zero_add] at hown
  exact hown
inductive Fn where
  | is (v : Value)
  | emp
  | txt (A : List (List UInt8))
  | agg (X : ByteArray) (A : List (List UInt8))
  | box
def FN (B : Nat) (T : List Fn) (i : Nat) (v : Value) (w : World) : Prop := match T.getD i .emp with
  | .is x => v = x
  | .emp => ∃ g, v = .slice (some ⟨g, 0, none⟩) 0 0 ∧ B ≤ g ∧ w.heap[g]? = some (.cells #[] 9 (0, 0))
  | .txt A => IsTo (StrB w) w A v
  | .agg X A => ∃ u, v = .agg #[.string X, u] ∧ IsTo (StrB w) w A u
  | .box => ∃ p, v = .pointer (some ⟨p, 0, none⟩) ∧ B ≤ p ∧ w.heap[p]? = some (.cells #[.string ⟨#[]⟩, .slice none 0 0] 40 (0, 0))
theorem isTo_strB_go {w w' : World} {A : List (List UInt8)} {v : Value} (h : IsTo (StrB w) w A v) (hb : Below w.heap.size w w') : IsTo (StrB w') w' A v :=
  h.imp (fun b ⟨cs, fr, hc⟩ => ⟨cs, fr, (hb.block _ (Array.getElem?_eq_some_iff.1 hc).1).trans hc⟩) (fun b o hs => hb.cell (p := ⟨b, o, none⟩) hs.lt)
theorem FN.go {B : Nat} {T : List Fn} {i : Nat} {v : Value} {w w' : World} (h : FN B T i v w) (hb : Below w.heap.size w w') : FN B T i v w' := by
  have hk : ∀ {b : Nat} {o : Obj}, w.heap[b]? = some o → w'.heap[b]? = some o := fun e => (hb.block _ (Array.getElem?_eq_some_iff.1 e).1).trans e
  unfold FN at h ⊢
  cases e : T.getD i .emp with
  | is x => rw [e] at h; exact h
  | emp => rw [e] at h; obtain ⟨g, h1, h2, h3⟩ := h; exact ⟨g, h1, h2, hk h3⟩
  | txt A => rw [e] at h; exact isTo_strB_go h hb
  | agg X A => rw [e] at h; obtain ⟨u, h1, h2⟩ := h; exact ⟨u, h1, isTo_strB_go h2 hb⟩
  | box => rw [e] at h; obtain ⟨p, h1, h2, h3⟩ := h; exact ⟨p, h1, h2, hk h3⟩

theorem boxN_store0 {W : World} {b : Nat} {x y : ByteArray} {u : Value} (h : BoxN W b x u) : BoxN (W.setCell ⟨b, 0, none⟩ (.string y)) b y u := by
  unfold BoxN at h ⊢
  simp [World.setCell, Array.getElem?_modify, h]
theorem boxN_store1 {W : World} {b : Nat} {x : ByteArray} {u v : Value} (h : BoxN W b x u) : BoxN (W.setCell ⟨b, 1, none⟩ v) b x v := by
  unfold BoxN at h ⊢
  simp [World.setCell, Array.getElem?_modify, h]
theorem BoxN.free {W : World} {b : Nat} {x : ByteArray} {u : Value} (h : BoxN W b x u) (i : Nat) : W.frozen? ⟨b, i, none⟩ = false := by
  unfold BoxN at h
  simp [World.frozen?, h]
theorem strB_attr {W : World} {p b : Nat} {cs : Array Value} {fr : Nat × Nat} (hp : W.heap[p]? = some (.cells cs 40 fr)) (h : StrB W b) : b ≠ p := by
  rintro rfl
  obtain ⟨cs', fr', hc⟩ := h
  rw [hc] at hp
  have := Option.some.inj hp
  simp at this
theorem set_blk {W : World} {p b i : Nat} {x : Value} (h : b ≠ p) : (W.setCell ⟨p, i, none⟩ x).heap[b]? = W.heap[b]? := by
  unfold World.setCell
  simp [Array.getElem?_modify, Ne.symm h]
theorem isTo_attr {W : World} {p i : Nat} {cs : Array Value} {fr : Nat × Nat} {A : List (List UInt8)} {v x : Value} (hp : W.heap[p]? = some (.cells cs 40 fr)) (h : IsTo (StrB W) W A v) : IsTo (StrB (W.setCell ⟨p, i, none⟩ x)) (W.setCell ⟨p, i, none⟩ x) A v :=
  h.imp (fun b hs => by obtain ⟨cs', fr', hc⟩ := id hs; exact ⟨cs', fr', (set_blk (strB_attr hp hs)).trans hc⟩) (fun b o hs => by simp only [World.cell?, set_blk (strB_attr hp hs)])
theorem ownM_entry {B : Nat} {W : World} {v x : Value} {L : List AT} {p i : Nat} {cs : Array Value} {fr : Nat × Nat} (h : OwnM B W v L) (hp : W.heap[p]? = some (.cells cs 24 fr)) (hB : p < B) : OwnM B (W.setCell ⟨p, i, none⟩ x) v L := by
  obtain ⟨P, hr, hs⟩ := h
  refine ⟨P, ⟨hr.1, hr.2.imp id fun ⟨g, cap, cur, e1, hb, hg, rest⟩ => ⟨g, cap, cur, e1, hb, (set_blk (by omega)).trans hg, rest⟩⟩, saysM_to hs fun b hb => set_blk ?_⟩
  rintro rfl
  obtain ⟨cs', fr', hc⟩ := hb
  rw [hc] at hp
  have := Option.some.inj hp
  simp at this
def BoxT (W : World) (p : Nat) (x : ByteArray) (u : Value) : Prop := W.heap[p]? = some (.cells #[.string x, u] 40 (0, 0))
theorem BoxT.cells {W : World} {p : Nat} {x : ByteArray} {u : Value} (h : BoxT W p x u) : W.cell? ⟨p, 0, none⟩ = some (.string x) ∧ W.cell? ⟨p, 1, none⟩ = some u ∧ W.frozen? ⟨p, 0, none⟩ = false ∧ W.frozen? ⟨p, 1, none⟩ = false := by
  unfold BoxT at h
  simp [World.cell?, World.frozen?, h]
theorem BoxT.set0 {W : World} {p : Nat} {x y : ByteArray} {u : Value} (h : BoxT W p x u) : BoxT (W.setCell ⟨p, 0, none⟩ (.string y)) p y u := by
  unfold BoxT at h ⊢
  simp [World.setCell, Array.getElem?_modify, h]
theorem BoxT.set1 {W : World} {p : Nat} {x : ByteArray} {u v : Value} (h : BoxT W p x u) : BoxT (W.setCell ⟨p, 1, none⟩ v) p x v := by
  unfold BoxT at h ⊢
  simp [World.setCell, Array.getElem?_modify, h]
structure NeAt (w : World) (TD d : ByteArray) (v l : Value) (A : List AT) (wr : World) : Prop where
  e1 : wr.cell? ⟨w.heap.size, 1, none⟩ = some v
  box : BoxE w.heap.size d wr
  out : BoxN wr (w.heap.size + 2) TD l
  own : OwnM (w.heap.size + 3) wr l A
  bel : Below w.heap.size w wr
  size : w.heap.size + 3 ≤ wr.heap.size
  res : BoxN wr (w.heap.size + 1) ⟨#[]⟩ (.slice none 0 0)
theorem NeAt.go {w wr W : World} {TD d : ByteArray} {v l : Value} {A : List AT} (h : NeAt w TD d v l A wr) (hb : Below wr.heap.size wr W) : NeAt w TD d v l A W where
  e1 := (hb.cell (p := ⟨w.heap.size, 1, none⟩) (show w.heap.size < wr.heap.size by have := h.size; omega)).trans h.e1
  box := h.box.go hb (by have := h.size; omega)
  out := h.out.below hb (by have := h.size; omega)
  own := ownM_below h.own hb
  bel := h.bel.trans (hb.mono (by have := h.size; omega))
  size := Nat.le_trans h.size hb.size
  res := h.res.below hb (by have := h.size; omega)
theorem NeAt.named {w W : World} {TD d : ByteArray} {v : Value} (h : NeAt w d d v (.slice none 0 0) [] W) : NeAt w TD d v (.slice none 0 0) [] (W.setCell ⟨w.heap.size + 2, 0, none⟩ (.string TD)) where
  e1 := by rw [World.cell?_setCell_other _ _ _ _ (by simp <;> omega)]; exact h.e1
  box := by
    obtain ⟨x0, x1, x2, x3, x4⟩ := h.box
    refine ⟨?_, ?_, ?_, ?_, ?_⟩
    · rw [World.cell?_setCell_other _ _ _ _ (by simp <;> omega)]; exact x0
    · rw [World.cell?_setCell_other _ _ _ _ (by simp <;> omega)]; exact x1
    · rw [World.cell?_setCell_other _ _ _ _ (by simp <;> omega)]; exact x2
    · rw [World.frozen?_setCell]; exact x3
    · rw [World.frozen?_setCell]; exact x4
  out := boxN_store0 h.out
  own := ⟨[], World.ownsRow_nil _ _ _ _, rfl, fun j h => absurd h (by simp)⟩
  bel := h.bel.setCell (p := ⟨w.heap.size + 2, 0, none⟩) (show w.heap.size ≤ w.heap.size + 2 by omega) _
  size := by have := h.size; simpa [World.setCell] using this
  res := (set_blk (by omega)).trans h.res
def NeI (w : World) (TD d : ByteArray) (v : Value) (L : List AT) (wr : World) (j : Nat) : Prop := ∃ l, NeAt w TD d v l ((normL (L.take j)).foldl insB []) wr
end Go.Proofs.YtjenbkdfbendlaaGreatDoor


namespace Go.Proofs.YtjenbkdfbendlaaGreatDoor
open Go.RowKit
set_option linter.unusedVariables false
set_option linter.unusedSimpArgs false

theorem run_append_noneA {B : Nat} {w : World} {v : Value} {L : List AT} (hown : OwnM B w v L) (c : Nat) (ty : TypeId) :
    (Builtin.append_ #[22, 22] ty #[v, .slice none 0 c]).run Tryz.prog w = .ok v w := by
  obtain ⟨i0, hi, hz0, hz1, hz2⟩ := info_parts infoA
  obtain ⟨P, hr, hs⟩ := hown
  rcases hr.2 with ⟨rfl, hz⟩ | ⟨g, cap, cur, rfl, _, hg, hnc, _⟩
  · simp [Builtin.append_, run_underlying Tryz.underlying22, sizeOf, typeInfo, hi, Builtin.lenOf, Builtin.firstCells]
  · exact run_append_room_src (P := Tryz.prog) w 22 22 ty 40 i0 Tryz.underlying22 hi g 0 P.length cap (.slice none 0 c) 0 [] (Src.ofNil w Tryz.underlying22 c) hnc (fun j h => absurd h (by simp)) (fun j h => absurd h (by simp))
theorem run_copy_K {w : World} {B Bz g k n cap : Nat} {la : Option Addr} {P : List PT} {L : List AT} (hg : w.heap[g]? = some (.cells #[] 40 (0, 0))) (hBg : Bz ≤ g) (hBz : Bz ≤ w.heap.size) (hr : RowP B w (.slice la n cap) P) (hs : SaysM w P L) (hk : k ≤ L.length) (hL : L.length ≤ 1000) (ty : TypeId) :
    ∃ v' w', (Builtin.append_ #[22, 22] ty #[.slice (some ⟨g, 0, none⟩) 0 0, .slice la k cap]).run Tryz.prog w = .ok v' w' ∧ OwnM Bz w' v' (L.take k) ∧ Below w.heap.size w w' := by
  by_cases hk0 : k = 0
  · subst hk0
    obtain ⟨i0, hi, hz0, hz1, hz2⟩ := info_parts infoA
    refine ⟨.slice (some ⟨g, 0, none⟩) 0 0, w, ?_, by rw [List.take_zero]; exact ownM_empty hg hBg, Below.refl _ _⟩
    cases la with
    | none => exact run_append_room_src (P := Tryz.prog) w 22 22 ty 40 i0 Tryz.underlying22 hi g 0 0 0 (.slice none 0 cap) 0 [] (Src.ofNil w Tryz.underlying22 cap) (by simp) (fun j h => absurd h (by simp)) (fun j h => absurd h (by simp))
    | some ad => exact run_append_room_src (P := Tryz.prog) w 22 22 ty 40 i0 Tryz.underlying22 hi g 0 0 0 (.slice (some ad) 0 cap) 0 [] (by rw [hz1]; exact Src.ofSlice w Tryz.underlying22 ad 0 cap [] (by simp) (fun j u h => absurd h (by simp)) (by simp)) (by simp) (fun j h => absurd h (by simp)) (fun j h => absurd h (by simp))
  · exact run_copy_A hg hBg hBz hr hs (by omega) hk hL ty
theorem rowP_shape {B n c : Nat} {w : World} {a : Option Addr} {P : List PT} (h : RowP B w (.slice a n c) P) : n = P.length ∧ ((a = none ∧ n = 0 ∧ c = 0) ∨ ((∃ g cs, a = some ⟨g, 0, none⟩ ∧ w.heap[g]? = some (.cells cs 40 (0, 0))) ∧ n ≤ c)) := by
  obtain ⟨a2, c2, hv⟩ := rowP_slice h
  simp only [Value.slice.injEq] at hv
  refine ⟨hv.2.1, ?_⟩
  rcases h.2 with ⟨h', _⟩ | ⟨g', cap', cur, h', hb, hg, hnc, _⟩
  · simp only [Value.slice.injEq] at h'
    exact .inl h'
  · simp only [Value.slice.injEq] at h'
    exact .inr ⟨⟨g', cur, h'.1, hg⟩, by rw [h'.2.2, hv.2.1]; exact hnc⟩
theorem run_rest_K {w : World} {B Bz k n cap : Nat} {la : Option Addr} {v : Value} {P : List PT} {L M : List AT} (hown : OwnM Bz w v M) (hBz : Bz ≤ w.heap.size) (hr : RowP B w (.slice la n cap) P) (hs : SaysM w P L) (hk : k ≤ n) (hL : M.length + (n - k) ≤ 1000) (ty : TypeId) :
    ∃ v' w', (Builtin.append_ #[22, 22] ty #[v, .slice (if cap = k then la else la.map (fun a => a.add (k * 2))) (n - k) (cap - k)]).run Tryz.prog w = .ok v' w' ∧ OwnM Bz w' v' (M ++ L.drop k) ∧ Below Bz w w' := by
  have hPl := hs.1
  obtain ⟨hn, ⟨rfl, h0, h1⟩ | ⟨⟨g, cs, rfl, hg⟩, hnc⟩⟩ := rowP_shape hr
  · have hL0 : L = [] := List.eq_nil_of_length_eq_zero (by omega)
    subst hL0
    subst h0
    refine ⟨v, w, ?_, by simpa using hown, Below.refl _ _⟩
    rw [show 0 - k = 0 from by omega, show (if cap = k then none else (none : Option Addr).map (fun a => a.add (k * 2))) = none from by split <;> rfl]
    exact run_append_noneA hown _ ty
  · have hcells := World.ownsRow.cells hr (show (Value.slice (some ⟨g, 0, none⟩) n cap).ownBlock = some g from rfl)
    have hcell : ∀ j u, (cellsP P)[j]? = some u → w.cell? ⟨g, j, none⟩ = some u := fun j u h => by
      have h1 := hcells j u h
      have hadd : (⟨g, 0, none⟩ : Addr).add j = ⟨g, j, none⟩ := by simp [Addr.add]; omega
      rw [hadd] at h1
      exact h1
    have htl : (P.take k).length = k := by rw [List.length_take]; omega
    have hsrc := row_part (w := w) (b := g) (P := P) hcell (P.take k) (P.drop k) [] (by simp)
    have hsay : SaysM w (P.drop k) (L.drop k) := saysM_part (A := P.take k) (C := []) (L := L.take k) (N := []) (by simpa using hs) (by simp [hPl]) (by simp [hPl])
    have hdl : (L.drop k).length = n - k := by rw [List.length_drop]; omega
    obtain ⟨v', w', hrun, ho, hb, _⟩ := run_append_M hown hBz hsay (if cap = k then ⟨g, 0, none⟩ else ⟨g, k * 2, none⟩) (cap - k) (fun j u h => by
      by_cases hkc : cap = k
      · have : P.drop k = [] := List.drop_eq_nil_of_le (by omega)
        rw [this] at h
        simp [cellsP] at h
      · rw [if_neg hkc]
        have := hsrc j u h
        rw [htl] at this
        simpa using this) (by rw [hdl]; omega) ty
    rw [hdl] at hrun
    refine ⟨v', w', ?_, ho, hb⟩
    rw [show (if cap = k then some (⟨g, 0, none⟩ : Addr) else (some (⟨g, 0, none⟩ : Addr)).map (fun a => a.add (k * 2))) = some (if cap = k then ⟨g, 0, none⟩ else ⟨g, k * 2, none⟩) from by split <;> simp [Addr.add] <;> intro h <;> omega]
    exact hrun
theorem three_appends {w wz : World} {TD d NM : ByteArray} {v : Value} {la xa : Option Addr} {sn lc p xc k : Nat} {SL : List AT} {A : List (List UInt8)} (h : NeAt w TD d v (.slice la sn lc) SL wz) (hb : BoxT wz p NM (.slice xa A.length xc)) (hto : IsTo (StrB wz) wz A (.slice xa A.length xc)) (hk : k ≤ sn) (hSL : SL.length ≤ 999) (ty : TypeId) :
    ∃ v15 w15 v16 w16 v17 w17,
      (Builtin.append_ #[22, 22] ty #[.slice (some ⟨wz.heap.size, 0, none⟩) 0 0, .slice la k lc]).run Tryz.prog (wz.alloc (.cells #[] 40)) = .ok v15 w15 ∧
      (Builtin.append_ #[22, 22] ty #[v15, .slice (some ⟨w15.heap.size, 0, none⟩) 1 1]).run Tryz.prog (w15.alloc (.cells #[.string NM, .slice xa A.length xc] 40)) = .ok v16 w16 ∧
      (Builtin.append_ #[22, 22] ty #[v16, .slice (if lc = k then la else la.map (fun a => a.add (k * 2))) (sn - k) (lc - k)]).run Tryz.prog w16 = .ok v17 w17 ∧
      w15.cell? ⟨p, 0, none⟩ = some (.string NM) ∧ w15.cell? ⟨p, 1, none⟩ = some (.slice xa A.length xc) ∧ w16.cell? ⟨w.heap.size + 2, 1, none⟩ = some (.slice la sn lc) ∧ w17.cell? ⟨w.heap.size + 2, 1, none⟩ = some (.slice la sn lc) ∧ w17.frozen? ⟨w.heap.size + 2, 1, none⟩ = false ∧
      NeAt w TD d v v17 (SL.take k ++ (NM.data.toList, A) :: SL.drop k) (w17.setCell ⟨w.heap.size + 2, 1, none⟩ v17) := by
  have hbA : Below wz.heap.size wz (wz.alloc (.cells #[] 40)) := (Below.refl _ _).alloc (Nat.le_refl _) _
  obtain ⟨P, hr, hs⟩ := (h.go hbA).own
  have hPl := hs.1
  obtain ⟨hn, _⟩ := rowP_shape hr
  obtain ⟨v15, w15, r15, ho15, hb15⟩ := run_copy_K (g := wz.heap.size) (Bz := wz.heap.size) (heap_alloc_new wz _) (Nat.le_refl _) (by simp) hr hs (show k ≤ SL.length by omega) (by omega) ty
  have hbz15 : Below wz.heap.size wz w15 := bthen hbA hb15
  have hb2 : Below w15.heap.size w15 (w15.alloc (.cells #[.string NM, .slice xa A.length xc] 40)) := (Below.refl _ _).alloc (Nat.le_refl _) _
  have hbz2 := bthen hbz15 hb2
  have hs2 : SaysM (w15.alloc (.cells #[.string NM, .slice xa A.length xc] 40)) [(NM.data.toList, .slice xa A.length xc)] [(NM.data.toList, A)] := ⟨rfl, fun j hj hj' => by
    have : j = 0 := by simp at hj; omega
    subst this
    exact ⟨rfl, isTo_strB_go hto hbz2⟩⟩
  have htk : (SL.take k).length = k := by rw [List.length_take]; omega
  obtain ⟨v16, w16, r16, ho16, hb16, _⟩ := run_append_M (ownM_below ho15 hb2) hbz2.size hs2 ⟨w15.heap.size, 0, none⟩ 1 (cells_one (heap_alloc_new w15 _)) (by rw [htk]; simp; omega) ty
  have hbz16 := hbz2.trans hb16
  have h16 := h.go hbz16
  obtain ⟨P2, hr2, hs2'⟩ := h16.own
  obtain ⟨v17, w17, r17, ho17, hb17⟩ := run_rest_K ho16 hbz16.size hr2 hs2' hk (by simp only [List.length_append, htk, List.length_cons, List.length_nil]; omega) ty
  have hbz17 := hbz16.trans hb17
  have h17 := h.go hbz17
  have hpz : p < wz.heap.size := (Array.getElem?_eq_some_iff.1 hb).1
  have hb15b : BoxT w15 p NM (.slice xa A.length xc) := (hbz15.block p hpz).trans hb
  have hsz := h.size
  refine ⟨v15, w15, v16, w16, v17, w17, r15, r16, r17, hb15b.cells.1, hb15b.cells.2.1, h16.out.cells.2, h17.out.cells.2, h17.out.free 1, ?_⟩
  exact {
    e1 := by rw [World.cell?_setCell_other _ _ _ _ (by simp <;> omega)]; exact h17.e1
    box := by
      obtain ⟨x0, x1, x2, x3, x4⟩ := h17.box
      refine ⟨?_, ?_, ?_, ?_, ?_⟩
      · rw [World.cell?_setCell_other _ _ _ _ (by simp <;> omega)]; exact x0
      · rw [World.cell?_setCell_other _ _ _ _ (by simp <;> omega)]; exact x1
      · rw [World.cell?_setCell_other _ _ _ _ (by simp <;> omega)]; exact x2
      · rw [World.frozen?_setCell]; exact x3
      · rw [World.frozen?_setCell]; exact x4
    out := boxN_store1 h17.out
    own := by
      have := ownM_entry (i := 1) (x := v17) (ownM_mono ho17 h.size) h17.out (show w.heap.size + 2 < w.heap.size + 3 by omega)
      simpa using this
    bel := h17.bel.setCell (p := ⟨w.heap.size + 2, 1, none⟩) (show w.heap.size ≤ w.heap.size + 2 by omega) _
    size := by have := h17.size; simpa [World.setCell] using this
    res := (set_blk (by omega)).trans h17.res }
end Go.Proofs.YtjenbkdfbendlaaGreatDoor


namespace Go.Proofs.YtjenbkdfbendlaaGreatDoor
open Go.RowKit
set_option linter.unusedVariables false
set_option linter.unusedSimpArgs false

def runS (t : List UInt8) (x : AT) : Bool → List AT → List AT
  | d, [] => if d then [] else [x]
  | d, a :: r => if (low a.1 == low t) = true then runS t x d r else if (!d && gtB a.1 x.1) = true then x :: a :: runS t x true r else a :: runS t x d r
theorem runS_done (t : List UInt8) (x : AT) : ∀ L : List AT, runS t x true L = withoutA L t
  | [] => rfl
  | a :: r => by
    rw [runS]
    unfold withoutA
    rw [List.filter_cons]
    have h := runS_done t x r
    unfold withoutA at h
    by_cases hq : (low a.1 == low t) = true
    · rw [if_pos hq, hq, h]; rfl
    · rw [if_neg hq]
      have hq' : (low a.1 == low t) = false := by simpa using hq
      rw [hq', h]; rfl
theorem insA_cons_pos {a x : AT} {M : List AT} (h : gtB a.1 x.1 = true) : insA (a :: M) x = x :: a :: M := by
  unfold insA
  rw [List.findIdx?_cons, h]
  rfl
theorem insA_cons_neg {a x : AT} {M : List AT} (h : gtB a.1 x.1 = false) : insA (a :: M) x = a :: insA M x := by
  unfold insA
  rw [List.findIdx?_cons, h]
  cases List.findIdx? (fun b => gtB b.1 x.1) M <;> rfl
theorem runS_open (t : List UInt8) (x : AT) : ∀ L : List AT, runS t x false L = insA (withoutA L t) x
  | [] => rfl
  | a :: r => by
    have h := runS_open t x r
    have h2 := runS_done t x r
    rw [runS]
    have hw : withoutA (a :: r) t = if (low a.1 == low t) = true then withoutA r t else a :: withoutA r t := by
      unfold withoutA
      rw [List.filter_cons]
      by_cases hq : (low a.1 == low t) = true
      · rw [if_pos hq, hq]; rfl
      · have hq' : (low a.1 == low t) = false := by simpa using hq
        rw [if_neg hq, hq']; rfl
    rw [hw]
    by_cases hq : (low a.1 == low t) = true
    · rw [if_pos hq, if_pos hq, h]
    · rw [if_neg hq, if_neg hq]
      by_cases hg : gtB a.1 x.1 = true
      · rw [if_pos (by simpa using hg), h2, insA_cons_pos hg]
      · have hg' : gtB a.1 x.1 = false := by simpa using hg
        rw [if_neg (by simp [hg']), h, insA_cons_neg hg']
theorem runS_set (t : List UInt8) (V : List (List UInt8)) (L : List AT) : runS t (nameA t, V) (decide (V.length = 0)) L = setA L t V := by
  unfold setA
  by_cases h : V = []
  · subst h; rw [if_pos rfl]; exact runS_done _ _ _
  · rw [if_neg h, decide_eq_false (by intro e; exact h (List.eq_nil_of_length_eq_zero e))]
    exact runS_open _ _ _
theorem runS_skip {t : List UInt8} {x a : AT} {d : Bool} {r : List AT} (h : (low a.1 == low t) = true) : runS t x d (a :: r) = runS t x d r := by rw [runS, if_pos h]
theorem runS_put {t : List UInt8} {x a : AT} {r : List AT} (h : (low a.1 == low t) = false) (h2 : gtB a.1 x.1 = true) : runS t x false (a :: r) = x :: a :: runS t x true r := by
  rw [runS, if_neg (by simp [h]), if_pos (by simp [h2])]
theorem runS_on {t : List UInt8} {x a : AT} {d : Bool} {r : List AT} (h : (low a.1 == low t) = false) (h2 : d = true ∨ gtB a.1 x.1 = false) : runS t x d (a :: r) = a :: runS t x d r := by
  rw [runS, if_neg (by simp [h]), if_neg (by rcases h2 with h2 | h2 <;> simp [h2])]
theorem runS_end {t : List UInt8} {x : AT} : runS t x true [] = [] := rfl

def OwnI (n0 B : Nat) (w : World) (v : Value) (L : List AT) : Prop := ∃ P, RowP B w v P ∧ SaysV n0 w P L
theorem ownI_below {n0 B : Nat} {w w' : World} {v : Value} {L : List AT} (h : OwnI n0 B w v L) (hb : Below w.heap.size w w') (hB : n0 ≤ w.heap.size) : OwnI n0 B w' v L := by
  obtain ⟨P, h1, h2⟩ := h
  exact ⟨P, rowP_below h1 hb, saysV_go h2 hb hB⟩
theorem ownI_slice {n0 B : Nat} {w : World} {v : Value} {L : List AT} (h : OwnI n0 B w v L) : ∃ a c, v = .slice a L.length c := by
  obtain ⟨P, h1, h2⟩ := h
  rw [← h2.1]
  exact rowP_slice h1
theorem ownI_sl {n0 B : Nat} {w : World} {v : Value} {L : List AT} (h : OwnI n0 B w v L) : ∃ a n c, v = .slice a n c := by
  obtain ⟨a, c, h⟩ := ownI_slice h
  exact ⟨a, _, c, h⟩
theorem ownI_nil (n0 B : Nat) (w : World) : OwnI n0 B w (.slice none 0 0) [] := ⟨[], World.ownsRow_nil _ _ _ _, rfl, fun j h => absurd h (by simp)⟩
theorem ownI_isA {n0 B : Nat} {w : World} {v : Value} {L : List AT} (h : OwnI n0 B w v L) (hl : L.length ≤ maxLen) (hB : n0 ≤ w.heap.size) : IsA w.heap.size w L v := by
  obtain ⟨P, h1, h2⟩ := h
  by_cases hne : P = []
  · subst hne
    obtain ⟨a, c, hv⟩ := rowP_slice h1
    have : L = [] := List.eq_nil_of_length_eq_zero (by have := h2.1; simpa using this.symm)
    subst this
    exact ⟨a, c, hv, hl, fun j hj => absurd hj (by simp)⟩
  · obtain ⟨g, c, hv, _, hg, hc⟩ := rowP_at h1 hne
    refine ⟨_, c, by rw [hv, h2.1], hl, fun j hj => ?_⟩
    have hj' : j < P.length := by rw [h2.1]; exact hj
    obtain ⟨e1, e2⟩ := h2.2 j hj hj'
    refine ⟨g, 0, P[j].2, rfl, hg, ?_, ?_, e2.below (Below.refl _ _) hB⟩
    · rw [Nat.zero_add, ← e1]; exact (hc j hj').1
    · rw [Nat.zero_add]; exact (hc j hj').2
theorem ownI_set {n0 B : Nat} {w : World} {v : Value} {L : List AT} (h : OwnI n0 B w v L) (a : Addr) (x : Value) (ha : a.block < B) (hn : n0 ≤ a.block) : OwnI n0 B (w.setCell a x) v L := by
  obtain ⟨P, hr, hs⟩ := h
  have hblk : ∀ k, k ≠ a.block → (w.setCell a x).heap[k]? = w.heap[k]? := fun k hk => by
    unfold World.setCell
    simp [Array.getElem?_modify, Ne.symm hk]
  exact ⟨P, ⟨hr.1, hr.2.imp id fun ⟨g, cap, cur, e1, hb, hg, rest⟩ => ⟨g, cap, cur, e1, hb, (hblk g (by omega)).trans hg, rest⟩⟩, saysV_go hs ((Below.refl n0 w).setCell (p := a) hn x) (Nat.le_refl _)⟩
theorem wpList_append_attrI {ops : Array Oper} {rest : List Oper} {o : Oper} {a : Act} {w : World} {Q : Exit → Act → World → Prop} (hgd : o.guard = none) (sl x : Operand)
    (ho : o.op = .call { callee := .builtin .append, args := #[sl, x], argTypes := #[22, 22] })
    (n0 base : Nat) (hn : n0 ≤ base) (v : Value) (L : List AT) (hs : a.eval sl = v) (X : ByteArray) (u : Value) (A : List (List UInt8)) (hown : OwnI n0 base w v L) (hu : IsT n0 w A u) (hx : a.eval x = .slice (some ⟨w.heap.size, 0, none⟩) 1 1)
    (h63 : L.length + 1 ≤ 1000000) (hbase : base ≤ w.heap.size)
    (h : ∀ v' w', OwnI n0 base w' v' (L ++ [(X.data.toList, A)]) → Below base w w' → (w.alloc (.cells #[.string X, u] 40)).grownBy w' v.ownBlock → wpList Tryz.prog ops Q rest (a.put o.dst v') w') : wpList Tryz.prog ops Q (o :: rest) a (w.alloc (.cells #[.string X, u] 40)) := by
  obtain ⟨i0, hi, hz0, hz1, hz2⟩ := info_parts infoA
  obtain ⟨P, hr, hsay⟩ := hown
  have hPL := hsay.1
  have hu1 : u.oneCell' = true := by obtain ⟨_, _, rfl, _⟩ := hu; rfl
  refine wpList_append_own_at _ hgd sl x 22 ho base 40 i0 (.agg #[.string ⟨#[]⟩, .slice none 0 0]) 2 40 Tryz.underlying22 hi hz0 hz1 hz2 rfl (by decide) v P.length (cellsP P) hs (World.ownsRow.alloc hr _) ⟨w.heap.size, 0, none⟩ 1 1 [.string X, u] hx rfl (newsA w _ _) (by intro u' hu'; simp at hu'; rcases hu' with rfl | rfl; rfl; exact hu1) (by unfold maxLen; omega) (by omega) (by simp; omega) ?_
  intro v' w' hown' hgrow _ hat
  have hbb : Below base w w' := ((Below.refl base w).alloc hbase _).grown hgrow (by simp; omega) (fun k e => (World.ownsRow.lt hr k e).1)
  refine h v' w' ⟨P ++ [(X.data.toList, u)], ?_, saysV_more hsay hu (hbb.mono hn)⟩ hbb hgrow
  unfold RowP
  rw [List.length_append, cellsP_append]
  show w'.ownsRow base 40 2 v' (P.length + 1) (cellsP P ++ [strV X.data.toList, u])
  rw [strV_whole]
  exact hown'

theorem ownI_lt {n0 B : Nat} {w : World} {v : Value} {L : List AT} (h : OwnI n0 B w v L) {g : Nat} (e : v.ownBlock = some g) : g < w.heap.size := by
  obtain ⟨P, hr, _⟩ := h
  exact (World.ownsRow.lt hr g e).2
theorem box_over {w4 w6 : World} {o : Obj} {row : Option Nat} (hg : (w4.alloc o).grownBy w6 row) {k : Nat} (i : Nat) (hk : k < w4.heap.size) (hr : some k ≠ row) : w6.cell? ⟨k, i, none⟩ = w4.cell? ⟨k, i, none⟩ := by
  have e0 := hg.block k (by simp only [World.size_alloc]; omega) hr
  have e1 := heap_alloc_old w4 o hk
  simp only [World.cell?, e0, e1]
structure OutI (n0 eb po : Nat) (d : ByteArray) (v l : Value) (A : List AT) (w wr : World) : Prop where
  e1 : wr.cell? ⟨eb, 1, none⟩ = some v
  o0 : wr.cell? ⟨po, 0, none⟩ = some (.string d)
  o1 : wr.cell? ⟨po, 1, none⟩ = some l
  z1 : wr.frozen? ⟨po, 1, none⟩ = false
  own : OwnI n0 (po + 1) wr l A
  bel : Below n0 w wr
  size : po + 1 ≤ wr.heap.size
  box : BoxE eb d wr
theorem OutI.go {n0 eb po : Nat} {d : ByteArray} {v l : Value} {A : List AT} {w wr W : World} (h : OutI n0 eb po d v l A w wr) (hb : Below wr.heap.size wr W) (he : eb + 1 < po) (hn : n0 ≤ po) : OutI n0 eb po d v l A w W where
  e1 := (hb.cell (p := ⟨eb, 1, none⟩) (show eb < wr.heap.size by have := h.size; omega)).trans h.e1
  o0 := (hb.cell (p := ⟨po, 0, none⟩) (show po < wr.heap.size by have := h.size; omega)).trans h.o0
  o1 := (hb.cell (p := ⟨po, 1, none⟩) (show po < wr.heap.size by have := h.size; omega)).trans h.o1
  z1 := (hb.frozen (p := ⟨po, 1, none⟩) (show po < wr.heap.size by have := h.size; omega)).trans h.z1
  own := ownI_below h.own hb (by have := h.size; omega)
  bel := h.bel.trans (hb.mono (by have := h.size; omega))
  size := Nat.le_trans h.size hb.size
  box := h.box.go hb (by have := h.size; omega)
theorem OutI.put {n0 eb po : Nat} {d : ByteArray} {v l l2 : Value} {A A2 : List AT} {w wr W : World} (h : OutI n0 eb po d v l A w wr) (ho : OwnI n0 (po + 1) W l2 A2) (hb : Below (po + 1) wr W) (he : eb + 1 < po) (hn : n0 ≤ po) : OutI n0 eb po d v l2 A2 w (W.setCell ⟨po, 1, none⟩ l2) := by
  have hz := h.size
  have h0 : W.cell? ⟨po, 1, none⟩ = some l := (hb.cell (p := ⟨po, 1, none⟩) (show po < po + 1 by omega)).trans h.o1
  exact {
    e1 := by rw [World.cell?_setCell_other _ _ _ _ (by simp <;> omega)]; exact (hb.cell (p := ⟨eb, 1, none⟩) (show eb < po + 1 by omega)).trans h.e1
    o0 := by rw [World.cell?_setCell_other _ _ _ _ (by simp)]; exact (hb.cell (p := ⟨po, 0, none⟩) (show po < po + 1 by omega)).trans h.o0
    o1 := World.cell?_setCell_same _ _ _ h0
    z1 := by rw [World.frozen?_setCell]; exact (hb.frozen (p := ⟨po, 1, none⟩) (show po < po + 1 by omega)).trans h.z1
    own := ownI_set ho ⟨po, 1, none⟩ l2 (show po < po + 1 by omega) hn
    bel := (h.bel.trans (hb.mono (by omega))).setCell (p := ⟨po, 1, none⟩) hn l2
    size := by have := hb.size; have : (W.setCell ⟨po, 1, none⟩ l2).heap.size = W.heap.size := by simp [World.setCell]
               omega
    box := by
      obtain ⟨x0, x1, x2, x3, x4⟩ := h.box.go hb (by omega)
      refine ⟨?_, ?_, ?_, ?_, ?_⟩
      · rw [World.cell?_setCell_other _ _ _ _ (by simp <;> omega)]; exact x0
      · rw [World.cell?_setCell_other _ _ _ _ (by simp <;> omega)]; exact x1
      · rw [World.cell?_setCell_other _ _ _ _ (by simp <;> omega)]; exact x2
      · rw [World.frozen?_setCell]; exact x3
      · rw [World.frozen?_setCell]; exact x4 }
def SetI (n0 eb po : Nat) (d : ByteArray) (v : Value) (t : List UInt8) (x : AT) (L R : List AT) (w wr : World) (j : Nat) (q : Bool) : Prop := ∃ A l, A ++ runS t x q (L.drop j) = R ∧ A.length ≤ 2 * j ∧ OutI n0 eb po d v l A w wr
end Go.Proofs.YtjenbkdfbendlaaGreatDoor


namespace Go.Proofs.YtjenbkdfbendlaaGreatDoor
open Go.RowKit
set_option linter.unusedVariables false

theorem kinds_mem {n : List UInt8} {k : List UInt8 × Nat} (h : findL n = some k) : k ∈ kindsL := List.mem_of_find?_eq_some h
theorem find_none_ne {n : List UInt8} (h : findL n = none) : ∀ k ∈ kindsL, n ≠ k.1 := by
  intro k hk e
  have := List.find?_eq_none.1 h k hk
  simp [e] at this
theorem ne_str {L : ByteArray} {l : List UInt8} (h : L.data.toList ≠ l) : (L.toList == l) = false := by
  rw [beq_eq_false_iff_ne, ByteArray.toList_eq]; exact h

set_option maxRecDepth 100000 in
set_option maxHeartbeats 4000000 in
theorem ruleRef_any (s : ByteArray) (hs : s.size ≤ 281474976710656) (w : World) : Calls Tryz.prog 44 #[.string s] w fun e w' => e = .returned (.int .i64 (ruleD s.data.toList)) ∧ Below w.heap.size w w' := by
  obtain ⟨L, hL⟩ : ∃ L, L = lowB s := ⟨_, rfl⟩
  have hLl : L.data.toList = low s.data.toList := by rw [hL, lowB_list]
  have hr : ruleD s.data.toList = ruleL L.data.toList := by unfold ruleD; rw [hLl]
  rw [hr]
  have hlo := fun w => lowerRef_any s w hs
  rw [← hL] at hlo
  clear hL hLl hr
  have HLo := Lib.hid hlo
  clear hlo
  cases hf : findL L.data.toList with
  | some k =>
    have hm := kinds_mem hf
    have he := (findL_len hf).1
    have hru : ruleL L.data.toList = k.2 := by unfold ruleL; rw [hf]
    rw [hru]
    clear hru hf
    have hLk : L = ⟨k.1.toArray⟩ := bytes_ext (by rw [← he])
    clear he
    subst hLk
    simp only [kindsL, List.mem_cons, List.not_mem_nil, or_false] at hm
    rcases hm with rfl | rfl | rfl | rfl | rfl | rfl | rfl | rfl | rfl | rfl | rfl
    all_goals
      go_enter Tryz.func44, Tryz.ntmps44
      go_wp2_with (go_at_call 20; refine (HLo.out _).mono ?_; rintro e w1 ⟨rfl, hb1⟩; have HB := Lib.hid hb1; clear hb1)
      go_ret
      exact ⟨rfl, HB.out⟩
  | none =>
    have hru : ruleL L.data.toList = 0 := by unfold ruleL; rw [hf]
    rw [hru]
    have hne := find_none_ne hf
    clear hru hf
    have q0 := ne_str (hne ([111, 98, 106, 101, 99, 116, 99, 108, 97, 115, 115], 1) (by simp [kindsL]))
    have q1 := ne_str (hne ([99, 110], 1) (by simp [kindsL]))
    have q2 := ne_str (hne ([115, 110], 1) (by simp [kindsL]))
    have q3 := ne_str (hne ([111], 1) (by simp [kindsL]))
    have q4 := ne_str (hne ([111, 117], 1) (by simp [kindsL]))
    have q5 := ne_str (hne ([117, 105, 100], 1) (by simp [kindsL]))
    have q6 := ne_str (hne ([109, 97, 105, 108], 1) (by simp [kindsL]))
    have q7 := ne_str (hne ([100, 101, 115, 99, 114, 105, 112, 116, 105, 111, 110], 1) (by simp [kindsL]))
    have q8 := ne_str (hne ([117, 105, 100, 110, 117, 109, 98, 101, 114], 2) (by simp [kindsL]))
    have q9 := ne_str (hne ([109, 101, 109, 98, 101, 114], 3) (by simp [kindsL]))
    have q10 := ne_str (hne ([117, 115, 101, 114, 112, 97, 115, 115, 119, 111, 114, 100], 4) (by simp [kindsL]))
    clear hne
    go_enter Tryz.func44, Tryz.ntmps44
    go_wp2_with (go_at_call 20; refine (HLo.out _).mono ?_; rintro e w1 ⟨rfl, hb1⟩; have HB := Lib.hid hb1; clear hb1)
    go_ret
    exact ⟨rfl, HB.out⟩

def BoxS (w : World) (b : Nat) (x : ByteArray) (ok : Bool) : Prop := w.heap[b]? = some (.cells #[.string x, .bool ok] 42 (0, 0))
theorem BoxS.below {w w' : World} {b n : Nat} {x : ByteArray} {ok : Bool} (h : BoxS w b x ok) (hb : Below n w w') (hn : b < n) : BoxS w' b x ok := (hb.block b hn).trans h
theorem BoxS.cells {w : World} {b : Nat} {x : ByteArray} {ok : Bool} (h : BoxS w b x ok) : w.cell? ⟨b, 0, none⟩ = some (.string x) ∧ w.cell? ⟨b, 1, none⟩ = some (.bool ok) ∧ w.frozen? ⟨b, 0, none⟩ = false ∧ w.frozen? ⟨b, 1, none⟩ = false := by
  unfold BoxS at h
  simp [World.cell?, World.frozen?, h]
theorem boxS_new (w : World) (x : ByteArray) (ok : Bool) : BoxS (w.alloc (.cells #[.string x, .bool ok] 42)) w.heap.size x ok := heap_alloc_new w _
theorem BoxS.store {w : World} {b : Nat} {x : ByteArray} {ok : Bool} (h : BoxS w b x ok) (x' : ByteArray) (ok' : Bool) : BoxS ((w.setCell ⟨b, 0, none⟩ (.string x')).setCell ⟨b, 1, none⟩ (.bool ok')) b x' ok' := by
  unfold BoxS at h ⊢
  simp [World.setCell, Array.getElem?_modify, h]

def saidR (o : Option (List UInt8)) : Value := match o with
  | some k => .agg #[.string ⟨k.toArray⟩, .bool true]
  | none => .agg #[.string ⟨#[]⟩, .bool false]

set_option maxRecDepth 100000 in
set_option maxHeartbeats 4000000 in
theorem canonRef_any (s : ByteArray) (hs : s.size ≤ 281474976710656) (w : World) : Calls Tryz.prog 19 #[.string s] w fun e w' => e = .returned (saidR (canonD s.data.toList)) ∧ Below w.heap.size w w' := by
  obtain ⟨L, hL⟩ : ∃ L, L = lowB s := ⟨_, rfl⟩
  have hLl : L.data.toList = low s.data.toList := by rw [hL, lowB_list]
  have hLs : L.size ≤ 281474976710656 := by rw [hL, lowB_size]; exact hs
  have hru := fun w => ruleRef_any L hLs w
  have hlo := fun w => lowerRef_any s w hs
  rw [← hL] at hlo
  have hr : ruleD L.data.toList = ruleD s.data.toList := by rw [hLl, ruleD_low]
  simp only [hr] at hru
  have HR := Lib.hid hru
  have HLo := Lib.hid hlo
  clear hlo hru hr
  have HBox := Lib.hid (boxS_new w ⟨#[]⟩ false)
  cases hc : canonD s.data.toList with
  | none =>
    have h0 := (canon_rule _).1 hc
    rw [h0] at HR
    clear h0 hc hL hLl
    go_enter Tryz.func19, Tryz.ntmps19
    go_wp2_with (first | (go_at_call 20; refine (HLo.out _).mono ?_; rintro e w1 ⟨rfl, hb1⟩; have HB := Lib.hid (((Below.refl _ _).alloc (Nat.le_refl _) _).trans (hb1.mono (by simp))); have HX := Lib.hid (HBox.out.below hb1 (by simp)); have hz1 : w.heap.size < w1.heap.size := (by have := hb1.size; simp at this; omega); clear hb1) | (go_at_call 44; refine (HR.out _).mono ?_; rintro e w2 ⟨rfl, hb2⟩; have HB := Lib.hid (bthen HB.out hb2); have HX := Lib.hid (HX.out.below hb2 hz1); obtain ⟨k0, k1, l0, l1⟩ := HX.out.cells; clear hb2))
    obtain ⟨q0, q1, _, _⟩ := (HX.out.store ⟨#[]⟩ false).cells
    refine bodyPost_ret (v := .agg #[.string ⟨#[]⟩, .bool false]) (by simp [results, Tryz.results19, go_sem, q0, q1]) rfl ⟨rfl, ?_⟩
    exact (HB.out.setCell (Nat.le_refl _) _).setCell (Nat.le_refl _) _
  | some k =>
    obtain ⟨e1, e2, _⟩ := canon_eq hc
    have hr1 : ((ruleD s.data.toList : Nat) : Int) ≠ 0 := by omega
    have t0 : (((ruleD s.data.toList : Nat) : Int) == 0) = false := by simpa using hr1
    have hv : saidR (some k) = .agg #[.string L, .bool true] := by rw [e1, ← hLl]; simp [saidR]
    have HV := Lib.hid hv
    generalize ruleD s.data.toList = r at *
    clear hc e1 e2 hr1 hv hL hLl
    go_enter Tryz.func19, Tryz.ntmps19
    go_wp2_with (first | (go_at_call 20; refine (HLo.out _).mono ?_; rintro e w1 ⟨rfl, hb1⟩; have HB := Lib.hid (((Below.refl _ _).alloc (Nat.le_refl _) _).trans (hb1.mono (by simp))); have HX := Lib.hid (HBox.out.below hb1 (by simp)); have hz1 : w.heap.size < w1.heap.size := (by have := hb1.size; simp at this; omega); clear hb1) | (go_at_call 44; refine (HR.out _).mono ?_; rintro e w2 ⟨rfl, hb2⟩; have HB := Lib.hid (bthen HB.out hb2); have HX := Lib.hid (HX.out.below hb2 hz1); obtain ⟨k0, k1, l0, l1⟩ := HX.out.cells; clear hb2))
    obtain ⟨q0, q1, _, _⟩ := (HX.out.store L true).cells
    refine bodyPost_ret (v := .agg #[.string L, .bool true]) (by simp [results, Tryz.results19, go_sem, q0, q1]) rfl ⟨by rw [HV.out], ?_⟩
    exact (HB.out.setCell (Nat.le_refl _) _).setCell (Nat.le_refl _) _
end Go.Proofs.YtjenbkdfbendlaaGreatDoor

