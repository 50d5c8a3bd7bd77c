/- Several texts in one file: TrKidP, ChAddP, ChLawP, ChAddL, ArgE. -/
import Derived.Test.YtpnbcmblnplbgaaGreatDoorChgP17
import Derived.Test.YtpnbcmblnplbgaaGreatDoorChgP13
import Derived.Test.YtpnbcmblnplbgaaGreatDoorChgP1
import Derived.OpenShut
import Derived.Carry
import Derived.ChangeSame
import Derived.ChangeSlices
import Derived.Deep.Strs
import Derived.Deep.SlicePairs
namespace Go.Proofs.YtpnbcmblnplbgaaGreatDoor
set_option linter.unusedVariables false
set_option linter.unusedSimpArgs false

def totK (X : List KL) : List KL → Nat
  | [] => 0
  | k :: l => (kidsP X k).length + totK X l
theorem totK_app (X A B : List KL) : totK X (A ++ B) = totK X A + totK X B := by
  induction A with
  | nil => simp [totK]
  | cons a A ih => simp only [List.cons_append, totK, ih]; omega
theorem kidsP_cons (x : KL) (X : List KL) (k : KL) (hx : x ≠ []) : (kidsP (x :: X) k).length = (if upD x = k then 1 else 0) + (kidsP X k).length := by
  have h1 : x.isEmpty = false := by cases x <;> simp_all
  unfold kidsP
  rw [List.filter_cons]
  by_cases e : upD x = k
  · simp [e, h1]; omega
  · simp [e, h1]
def hitK (u : KL) : List KL → Nat
  | [] => 0
  | k :: l => (if u = k then 1 else 0) + hitK u l
theorem hitK_no {u : KL} : ∀ {l : List KL}, u ∉ l → hitK u l = 0
  | [], _ => rfl
  | k :: l, h => by
    have h1 : u ≠ k := fun e => h (by rw [e]; exact List.mem_cons_self)
    unfold hitK
    rw [if_neg h1, hitK_no (fun hm => h (List.mem_cons_of_mem _ hm))]
theorem hitK_one {u : KL} : ∀ {l : List KL}, u ∈ l → l.Nodup → hitK u l = 1
  | k :: l, h, hn => by
    obtain ⟨h1, h2⟩ := List.nodup_cons.1 hn
    unfold hitK
    by_cases e : u = k
    · rw [if_pos e, hitK_no (by rw [e]; exact h1)]
    · rw [if_neg e, hitK_one ((List.mem_cons.1 h).resolve_left e) h2]
theorem totK_cons (x : KL) (X : List KL) (hx : x ≠ []) : ∀ l : List KL, totK (x :: X) l = hitK (upD x) l + totK X l
  | [] => rfl
  | k :: l => by
    unfold totK hitK
    rw [kidsP_cons x X k hx, totK_cons x X hx l]
    omega
theorem totK_all (Ks : List KL) (hn : Ks.Nodup) : ∀ X : List KL, (∀ x ∈ X, x ≠ [] ∧ upD x ∈ Ks) → totK X Ks = X.length
  | [], _ => by
    have : ∀ l : List KL, totK [] l = 0 := fun l => by
      induction l with
      | nil => rfl
      | cons k l ih => unfold totK; rw [ih]; rfl
    exact this Ks
  | x :: X, h => by
    obtain ⟨h1, h2⟩ := h x (by simp)
    rw [totK_cons x X h1, hitK_one h2 hn, totK_all Ks hn X (fun y hy => h y (by simp [hy])), List.length_cons]
    omega

theorem rise_nodup {KS : List KL} (h : Rise KS) : KS.Nodup := h.imp fun {a b} hab e => by rw [e, gleT_refl] at hab; cases hab
theorem ents_key {L : List ET} (h : Ents L) : [] ∉ keysE L := fun hm => by
  obtain ⟨e, he, hk⟩ := List.mem_map.1 hm
  obtain ⟨i, x, _, _, rfl⟩ := h e he
  exact ent_keyne i x hk
structure KidsD (L : List ET) : Prop where
  ents : Ents L
  len : L.length ≤ 40
  stands : standsK (keysE L) = true
theorem kids_dat (ns : List UInt8) : KidsD (mkT (ns.take 40)) := by
  have hg := mkT_good (ns.take 40)
  exact ⟨hg.1.ents, by have := hg.2; rw [List.length_take] at this; omega, hg.1.stands⟩
theorem KidsD.tot {L : List ET} (h : KidsD L) : totK (keysE L) ([] :: keysE L) = L.length := by
  have h0 := ents_key h.ents
  rw [totK_all _ (List.nodup_cons.2 ⟨h0, rise_nodup (stands_rise h.stands)⟩) _ (fun x hx => ⟨fun e => h0 (by rw [← e]; exact hx), by
    rcases stands_up h.stands x hx with e | e
    · rw [e]; exact List.mem_cons_self
    · exact List.mem_cons_of_mem _ e⟩), keysE_len]
theorem KidsD.most {L : List ET} (h : KidsD L) (j : Nat) : totK (keysE L) ([] :: (keysE L).take j) ≤ 40 := by
  have h1 := h.tot
  have h2 : [] :: keysE L = ([] :: (keysE L).take j) ++ (keysE L).drop j := by rw [List.cons_append, List.take_append_drop]
  rw [h2, totK_app] at h1
  have := h.len
  omega
theorem KidsD.all {L : List ET} (h : KidsD L) : totK (keysE L) ([] :: (keysE L).take L.length) = L.length := by
  rw [List.take_of_length_le (by rw [keysE_len]; exact Nat.le_refl _)]
  exact h.tot
theorem KidsD.may {L : List ET} (h : KidsD L) {j : Nat} (hj : j < (keysE L).length) : mayE (delE L (keysE L)[j]) = decide ((kidsP (keysE L) (keysE L)[j]).length = 0) ∧ fineE (delE L (keysE L)[j]) := by
  obtain ⟨k, hk⟩ : ∃ k, k = (keysE L)[j] := ⟨_, rfl⟩
  rw [← hk]
  have hin : k ∈ keysE L := by rw [hk]; exact List.getElem_mem _
  have h0 := ents_key h.ents
  have hkne : k ≠ [] := fun e => h0 (by rw [← e]; exact hin)
  have hr := stands_rise h.stands
  obtain ⟨A, B, hc⟩ := rise_cut L k hr
  have hd := hc.delE hkne
  have hmem : ∀ z, z ∈ A ++ B → z ∈ L := fun z hz => by
    rcases hc.all with e | ⟨y, _, e⟩
    · rw [e]; exact hz
    · rw [e]
      rcases List.mem_append.1 hz with h | h
      · exact List.mem_append.2 (.inl h)
      · exact List.mem_append.2 (.inr (List.mem_cons_of_mem _ h))
  have hback : ∀ x ∈ keysE L, x ≠ k → x ∈ keysE (A ++ B) := fun x hx hne => by
    rw [keysE_app]
    rcases hc.all with e | ⟨y, hy, e⟩
    · rw [e, keysE_app] at hx; exact hx
    · rw [e, keysE_app] at hx
      rcases List.mem_append.1 hx with h | h
      · exact List.mem_append.2 (.inl h)
      · rcases List.mem_cons.1 h with e2 | h
        · exact absurd (e2.trans hy) hne
        · exact List.mem_append.2 (.inr h)
  have he : Ents (A ++ B) := fun e he => h.ents e (hmem e he)
  have hl : (A ++ B).length ≤ 40 := by
    have := h.len
    rcases hc.all with e | ⟨y, _, e⟩ <;> rw [e] at this <;> simp at this ⊢ <;> omega
  rw [hd]
  refine ⟨?_, ents_fine he (by omega)⟩
  rw [ents_may he (by omega)]
  by_cases hz : (kidsP (keysE L) k).length = 0
  · rw [show decide ((kidsP (keysE L) k).length = 0) = true from by simpa using hz]
    refine stands_of (rise_del hc hr) fun x hx => ?_
    obtain ⟨e, hem, rfl⟩ := List.mem_map.1 hx
    have hxL : kE e ∈ keysE L := List.mem_map_of_mem (hmem e hem)
    rcases stands_up h.stands _ hxL with hu | hu
    · exact .inl hu
    · refine .inr (hback _ hu fun e2 => ?_)
      have : kE e ∈ kidsP (keysE L) k := by
        unfold kidsP
        rw [List.mem_filter]
        have : (kE e).isEmpty = false := by
          cases e3 : kE e with
          | nil => exact absurd (e3 ▸ hxL) h0
          | cons _ _ => rfl
        exact ⟨hxL, by simp [this, e2]⟩
      rw [List.length_eq_zero_iff.1 hz] at this
      cases this
  · rw [show decide ((kidsP (keysE L) k).length = 0) = false from by simpa using hz]
    obtain ⟨x, hx⟩ := List.exists_mem_of_length_pos (Nat.pos_of_ne_zero hz)
    unfold kidsP at hx
    rw [List.mem_filter] at hx
    obtain ⟨hx1, hx2⟩ := hx
    simp only [Bool.and_eq_true, beq_iff_eq] at hx2
    have hxk : x ≠ k := fun e => by
      have := upD_lt x (fun e2 => hkne (by rw [← e, e2]))
      rw [hx2.2, e] at this
      omega
    cases hs : standsK (keysE (A ++ B)) with
    | false => rfl
    | true =>
      rcases stands_up hs x (hback x hx1 hxk) with hu | hu
      · exact absurd (hx2.2.symm.trans hu) hkne
      · rw [hx2.2] at hu
        exact absurd hu hc.no
end Go.Proofs.YtpnbcmblnplbgaaGreatDoor


namespace Go.Proofs.YtpnbcmblnplbgaaGreatDoor
set_option linter.unusedVariables false
set_option linter.unusedSimpArgs false

structure AddsD (L : List ET) (e : ET) (A B : List ET) : Prop where
  tree : L = A ++ B
  put : putD L e = A ++ e :: B
  ents : Ents (A ++ e :: B)
  len : (A ++ e :: B).length ≤ 41
  stands : standsK (keysE (A ++ e :: B)) = true
  at_ : findK (keysE (A ++ e :: B)) (kE e) = A.length
  leaf : kidsP (keysE (A ++ e :: B)) (kE e) = []
  up : upD (kE e) ≠ [] → 0 ≤ findK (keysE (A ++ e :: B)) (upD (kE e)) ∧ kidsP (keysE (A ++ e :: B)) (upD (kE e)) ≠ []
  back : delD (A ++ e :: B) (kE e) = L
  again : addC (keysE (A ++ e :: B)) (kE e) = 68
theorem adds_dat {L : List ET} (hd : KidsD L) {i x : Nat} (hi : i < 256) (hx : x < 256) (h0 : addC (keysE L) (kE (entE i x)) = 0) : ∃ A B, AddsD L (entE i x) A B := by
  obtain ⟨e, he⟩ : ∃ e, e = entE i x := ⟨_, rfl⟩
  rw [← he] at h0 ⊢
  have hkne : kE e ≠ [] := by rw [he]; exact ent_keyne i x
  obtain ⟨hno, hup⟩ := addC_zero h0
  obtain ⟨A, B, hc⟩ := rise_cut L (kE e) (stands_rise hd.stands)
  have hL : L = A ++ B := by
    rcases hc.all with h | ⟨y, hy, h⟩
    · exact h
    · refine absurd ?_ hno
      rw [h, ← hy]
      exact List.mem_map_of_mem (by simp)
  have hput := hc.putD
  have hg := good_put (e := e) ⟨hd.stands, hd.ents⟩ ⟨i, x, hi, hx, he⟩ hup
  rw [hput] at hg
  have hsub : ∀ z ∈ keysE L, z ∈ keysE (A ++ e :: B) := fun z hz => by
    rw [hL, keysE_app, List.mem_append] at hz
    rw [keysE_app]
    rcases hz with h | h
    · exact List.mem_append.2 (.inl h)
    · exact List.mem_append.2 (.inr (List.mem_cons_of_mem _ h))
  have hin : kE e ∈ keysE (A ++ e :: B) := List.mem_map_of_mem (by simp)
  have hf : findK (keysE (A ++ e :: B)) (kE e) = A.length := by
    rcases hc.put.find hkne with ⟨h1, _⟩ | ⟨_, h2, _⟩
    · have := congrArg List.length h1; simp at this
    · exact h2
  have hidx : idxK (keysE (A ++ e :: B)) (kE e) = A.length := by
    rw [← hf]; unfold findK; rw [if_neg hkne]
  have hself : upD (kE e) ≠ kE e := fun h => by
    have := upD_lt (kE e) hkne
    rw [h] at this; omega
  have hleaf : kidsP (keysE (A ++ e :: B)) (kE e) = [] := by
    unfold kidsP
    rw [List.filter_eq_nil_iff]
    intro z hz hz2
    simp only [Bool.and_eq_true, beq_iff_eq] at hz2
    have old : z ∈ keysE L → False := fun h => by
      rcases stands_up hd.stands z h with h2 | h2
      · exact hkne (hz2.2.symm.trans h2)
      · rw [hz2.2] at h2; exact hno h2
    rw [keysE_app, List.mem_append] at hz
    rcases hz with h | h
    · exact old (by rw [hL, keysE_app]; exact List.mem_append.2 (.inl h))
    · rcases List.mem_cons.1 h with h | h
      · rw [h] at hz2; exact hself hz2.2
      · exact old (by rw [hL, keysE_app]; exact List.mem_append.2 (.inr h))
  refine ⟨A, B, hL, hput, hg.1.ents, by have := hg.2; have := hd.len; omega, hg.1.stands, hf, hleaf, fun hu => ⟨?_, fun h => ?_⟩, ?_, ?_⟩
  · have hum : upD (kE e) ∈ keysE (A ++ e :: B) := hsub _ (hup.resolve_left hu)
    obtain ⟨j, _, ej, _⟩ := idxK_some hum
    unfold findK
    rw [if_neg hu, ej]; omega
  · have : kE e ∈ kidsP (keysE (A ++ e :: B)) (upD (kE e)) := by
      unfold kidsP
      rw [List.mem_filter]
      have h2 : (kE e).isEmpty = false := by
        cases e3 : kE e with
        | nil => exact absurd e3 hkne
        | cons _ _ => rfl
      exact ⟨hin, by simp [h2]⟩
    rw [h] at this
    cases this
  · have hm : mayE (A ++ e :: B) = true := by
      rw [ents_may hg.1.ents (by have := hg.2; have := hd.len; omega)]; exact hg.1.stands
    rw [← del_eq hm, hc.put.delE hkne, hL]
  · unfold addC
    rw [hidx, if_pos (by omega)]
end Go.Proofs.YtpnbcmblnplbgaaGreatDoor


namespace Go.Proofs.YtpnbcmblnplbgaaGreatDoor
set_option linter.unusedVariables false
set_option linter.unusedSimpArgs false

theorem kE_again (i x : Nat) : (keyB (keyD (kE (entE i x)))).data.toList = kE (entE i x) := by
  have h := ent_key i x
  rw [h, keyB_list]
  rw [ent_eq] at h
  exact h
theorem ents_again {L : List ET} (h : Ents L) {k : KL} (hk : k ∈ keysE L) : (keyB (keyD k)).data.toList = k := by
  obtain ⟨e, he, rfl⟩ := List.mem_map.1 hk
  obtain ⟨i, x, _, _, rfl⟩ := h e he
  exact kE_again i x
theorem AddsD.gone {L : List ET} {e : ET} {A B : List ET} (h : AddsD L e A B) (hk : kE e ≠ []) : leafC (keysE (A ++ e :: B)) (kE e) = ((A.length : Int), 0) := by
  have h1 : lookC (keysE (A ++ e :: B)) (kE e) = ((A.length : Int), 0) := by
    unfold lookC
    rw [if_neg hk, h.at_, if_neg (by omega)]
  unfold leafC
  rw [h1, h.leaf, if_neg (fun h9 => h9.2 rfl)]
theorem AddsD.full {L : List ET} {e : ET} {A B : List ET} (h : AddsD L e A B) (hu : upD (kE e) ≠ []) : (leafC (keysE (A ++ e :: B)) (upD (kE e))).2 = 66 := by
  obtain ⟨h1, h2⟩ := h.up hu
  have h3 : (lookC (keysE (A ++ e :: B)) (upD (kE e))).2 = 0 := by
    unfold lookC
    rw [if_neg hu, if_neg (by omega)]
  unfold leafC
  rw [if_pos ⟨h3, h2⟩]
theorem AddsD.upAgain {L : List ET} {e : ET} {A B : List ET} (h : AddsD L e A B) (hu : upD (kE e) ≠ []) : (keyB (keyD (upD (kE e)))).data.toList = upD (kE e) := by
  obtain ⟨h1, _⟩ := h.up hu
  refine ents_again h.ents ?_
  apply Classical.byContradiction
  intro hn
  have : findK (keysE (A ++ e :: B)) (upD (kE e)) = -1 := by
    unfold findK
    rw [if_neg hu]
    exact idxK_no hn
  omega
theorem addC_ways (KS : List KL) (k : KL) : (0 ≤ idxK KS k ∧ addC KS k = 68) ∨ (¬ 0 ≤ idxK KS k ∧ upD k ≠ [] ∧ idxK KS (upD k) < 0 ∧ addC KS k = 32) ∨ (¬ 0 ≤ idxK KS k ∧ ¬ (upD k ≠ [] ∧ idxK KS (upD k) < 0) ∧ addC KS k = 0) := by
  unfold addC
  by_cases h1 : 0 ≤ idxK KS k
  · exact .inl ⟨h1, if_pos h1⟩
  · by_cases h2 : upD k ≠ [] ∧ idxK KS (upD k) < 0
    · exact .inr (.inl ⟨h1, h2.1, h2.2, by rw [if_neg h1, if_pos h2]⟩)
    · exact .inr (.inr ⟨h1, h2, by rw [if_neg h1, if_neg h2]⟩)
end Go.Proofs.YtpnbcmblnplbgaaGreatDoor


namespace Go.Proofs.YtpnbcmblnplbgaaGreatDoor
open Go.RowKit
set_option linter.unusedVariables false
set_option linter.unusedSimpArgs false

theorem ent_name_key (i x : Nat) : (entE i x).1 = kE (entE i x) := by rw [ent_key, ent_eq]
set_option maxRecDepth 100000 in
set_option maxHeartbeats 8000000 in
theorem changeAdds_any (ns : List UInt8) (b0 : Option Addr) (c0 : Nat) (i x : Nat) (hi : i < 256) (hx : x < 256) (w : World) (hw : LaidW w) (hlf : LaidF w) (h : IsB w.heap.size w ns b0 c0) :
    Calls Tryz.prog 3 #[.slice b0 ns.length c0, .int .u8 i, .int .u8 x] w fun e w' => e = .returned (.bool true) ∧ Below w.heap.size w w' := by
  have hd := kids_dat ns
  have HMk := Lib.hid (tree8_any ns b0 c0 w h)
  obtain ⟨nl, hnl⟩ : ∃ n, n = ns.length := ⟨_, rfl⟩
  rw [← hnl] at HMk ⊢
  obtain ⟨L, hL⟩ : ∃ L, L = mkT (ns.take 40) := ⟨_, rfl⟩
  rw [← hL] at HMk hd
  have lL := hd.len
  have fL := ents_fine hd.ents (by omega)
  obtain ⟨k, hk⟩ : ∃ k, k = kE (entE i x) := ⟨_, rfl⟩
  have hkne : k ≠ [] := by rw [hk]; exact ent_keyne i x
  have hnk : (entE i x).1 = k := by rw [hk]; exact ent_name_key i x
  have hEs := ent_small i x hi hx
  obtain ⟨KB, hKB⟩ : ∃ K, K = keyB (keyD (entE i x).1) := ⟨_, rfl⟩
  have hKl : KB.data.toList = k := by rw [hKB, hk, keyB_list]; rfl
  have hKs : KB.size ≤ 100000 := by
    have h1 : k.length ≤ 100000 := by rw [← hnk]; exact hEs.1
    rw [← bytes_len, hKl]; exact h1
  obtain ⟨U, hU⟩ : ∃ U, U = upB KB := ⟨_, rfl⟩
  have hUl : U.data.toList = upD k := by rw [hU, upK_list, hKl]
  have hUs : U.size ≤ 100000 := by
    have h1 := upD_lt k hkne
    rw [← bytes_len, hKl] at hKs
    rw [← bytes_len, hUl]; omega
  have HEn := Lib.hid (fun (W : World) => entry8_any i x hi hx W)
  have HKy := Lib.hid (fun (D : ByteArray) (hD : D.data.toList = (entE i x).1) (ua : Option Addr) (un uc : Nat) (W : World) => show Calls Tryz.prog 6 #[.agg #[.string D, .slice ua un uc]] W (fun e w' => e = .returned (.string KB) ∧ Below W.heap.size W w') from by
    have := keyR_any D (by rw [← bytes_len, hD]; exact hEs.1) ua un uc W
    rw [hD, ← hKB] at this
    exact this)
  have HUp := Lib.hid (fun (W : World) => show Calls Tryz.prog 8 #[.string KB] W (fun e w' => e = .returned (.string U) ∧ W = w') from by rw [hU]; exact upRef_any KB W (by omega))
  obtain ⟨I, hI⟩ : ∃ I, I = idxK (keysE L) k := ⟨_, rfl⟩
  have HF1 := Lib.hid (fun (v : Value) (W : World) (h : IsE W.heap.size W L v) => show Calls Tryz.prog 7 #[v, .string KB] W (fun e w' => e = .returned (.int .i64 I) ∧ Below W.heap.size W w') from by have := findR7_any L fL.1 v KB W h; rw [hKl, ← hI] at this; exact this)
  obtain ⟨J, hJ⟩ : ∃ J, J = idxK (keysE L) (upD k) := ⟨_, rfl⟩
  have HF2 := Lib.hid (fun (v : Value) (W : World) (h : IsE W.heap.size W L v) => show Calls Tryz.prog 7 #[v, .string U] W (fun e w' => e = .returned (.int .i64 J) ∧ Below W.heap.size W w') from by have := findR7_any L fL.1 v U W h; rw [hUl, ← hJ] at this; exact this)
  have HAw := Lib.hid (fun (W : World) (h : Below w.heap.size w W) => awake9_any W (hw.below h) (hlf.below h))
  have HAd := Lib.hid (fun (v : Value) (D : ByteArray) (hD : D.data.toList = (entE i x).1) (u : Value) (W : World) (hb : Below w.heap.size w W) (h : IsE W.heap.size W L v) (hu : IsA W.heap.size W (entE i x).2 u) => chAddEnt_any hd.ents (by omega) hi hx v D hD u W (hw.below hb) (hlf.below hb) h hu)
  rw [← hk] at HAd
  obtain ⟨ll, hll⟩ : ∃ n, n = L.length := ⟨_, rfl⟩
  have HSlL := Lib.hid (fun (W : World) (v : Value) (h : IsE W.heap.size W L v) => show ∃ a c, v = .slice a ll c from by rw [hll]; exact IsE.sl h)
  have hw8 : IntKind.i64.wrap (i : Int) = (i : Int) := IntWalk.i64_in _ (by omega)
  have HBe := Lib.hid h
  clear h
  rcases addC_ways (keysE L) k with ⟨hI0, hc⟩ | ⟨hI0, hu0, hJ0, hc⟩ | ⟨hI0, huJ, hc⟩
  · rw [← hI] at hI0
    have i1 : decide (I ≥ 0) = true := by simpa using hI0
    have i1' : decide ((0 : Int) ≤ I) = true := by simpa using hI0
    rw [hc] at HAd
    have HAd1 := Lib.hid (fun (v : Value) (D : ByteArray) (hD : D.data.toList = (entE i x).1) (u : Value) (W : World) (hb : Below w.heap.size w W) (h : IsE W.heap.size W L v) (hu : IsA W.heap.size W (entE i x).2 u) => show Calls Tryz.prog 9 #[v, .agg #[.string D, u]] W (fun e w' => e = .returned (.tuple #[deltaV ⟨#[]⟩ ⟨#[]⟩ (.slice none 0 0), .int .i64 68]) ∧ Below W.heap.size W w') from (HAd.out v D hD u W hb h hu).mono (fun e w' hh => by
      obtain ⟨d', v', e1, _, e3, e4⟩ := hh
      obtain ⟨rfl, rfl⟩ := e3 (by decide)
      exact ⟨e1, e4⟩))
    clear hI0 HAd hc hd hL lL fL hk hkne hnk hEs hKB hKl hKs hU hUl hUs hI hJ hll hw hlf hnl
    go_enter Tryz.func3, Tryz.ntmps3
    go_upto_region 3 with (first
      | (go_at_call 4; refine (HMk.out).mono ?_; rintro e w1 ⟨v1, rfl, hi1, hc1, hb1⟩; (obtain ⟨la, lc, hle⟩ := HSlL.out w1 v1 hi1); subst hle; have HT1 := Lib.hid hi1; have HC1 := Lib.hid hc1; have HB1 := Lib.hid hb1; clear hi1 hc1 hb1)
      | (go_at_call 5; refine (HEn.out _).mono ?_; rintro e w2 ⟨D, u, rfl, hD, hu, hb2⟩; (obtain ⟨ua, un, uc, hue⟩ := IsA.sl hu); subst hue; have HT2 := Lib.hid (HT1.out.below hb2 hb2.size); have HB2 := Lib.hid (bthen HB1.out hb2); have HD := Lib.hid hD; have HU2 := Lib.hid hu; clear hD hu hb2))
    obtain ⟨W3, hW3⟩ : ∃ W, W = w2.alloc (.cells #[.string D, .slice ua un uc] 27) := ⟨_, rfl⟩
    rw [← hW3]
    obtain ⟨p, hp⟩ : ∃ p, p = w2.heap.size := ⟨_, rfl⟩
    have hb3 : Below w2.heap.size w2 W3 := by rw [hW3]; exact (Below.refl _ _).alloc (Nat.le_refl _) _
    have H3 : Hid (TpAt w W3 p D (.slice ua un uc) (entE i x).2 L (.slice la ll lc)) := Lib.hid ⟨by rw [hp, hW3]; exact boxN_new w2 D _, HU2.out.below hb3 hb3.size, HT2.out.below hb3 hb3.size, bthen HB2.out hb3⟩
    rw [← hp]
    have b0 := H3.out.box.cells.1
    have b1 := H3.out.box.cells.2
    clear hW3 hb3 hp HMk HEn HB1 HB2 HT1 HT2 HU2
    go_upto_region 6 with (first
      | (go_at_call 6; refine (HKy.out D HD.out ua un uc _).mono ?_; rintro e w4 ⟨rfl, hb4⟩; have H4 := Lib.hid (H3.out.go hb4); have b0 := H4.out.box.cells.1; have b1 := H4.out.box.cells.2; clear hb4)
      | (go_at_call 7; refine (HF1.out _ _ H4.out.tree).mono ?_; rintro e w5 ⟨rfl, hb5⟩; have H5 := Lib.hid (H4.out.go hb5); have b0 := H5.out.box.cells.1; have b1 := H5.out.box.cells.2; clear hb5)
      | (go_at_call 8; refine (HUp.out _).mono ?_; rintro e xx ⟨rfl, rfl⟩)
      | (go_at_call 9; refine (HAd1.out _ D HD.out _ _ H5.out.bel H5.out.tree H5.out.ent).mono ?_; rintro e w6 ⟨rfl, hb6⟩; have H6 := Lib.hid (H5.out.go hb6); clear hb6))
    obtain ⟨W7, hW7⟩ : ∃ W, W = w6.alloc zX := ⟨_, rfl⟩
    rw [← hW7]
    obtain ⟨q, hq⟩ : ∃ q, q = w6.heap.size := ⟨_, rfl⟩
    have hx7 : DxAt W7 q ⟨#[]⟩ ⟨#[]⟩ (.slice none 0 0) := by rw [hW7, hq]; exact heap_alloc_new w6 _
    have hb7 : Below w6.heap.size w6 W7 := by rw [hW7]; exact (Below.refl _ _).alloc (Nat.le_refl _) _
    rw [← hq]
    have HX7 := Lib.hid hx7
    have HXl := Lib.hid (dx_lt hx7)
    have HB7 := Lib.hid (bthen H6.out.bel hb7)
    have HT7 := Lib.hid (H6.out.tree.below hb7 hb7.size)
    obtain ⟨c0', c1', c2', c3', c4'⟩ := dx_cells hx7
    clear hW7 hb7 hq hx7
    go_wp2_with (go_at_call 10; refine (HAw.out _ HB7.out).mono ?_; rintro e w8 ⟨rfl, hb8⟩; have HB8 := Lib.hid (bthen HB7.out hb8); clear hb8)
    go_ret
    exact ⟨rfl, HB8.out⟩
  · rw [← hI] at hI0
    rw [← hJ] at hJ0
    have i1 : decide (I ≥ 0) = false := by simpa using hI0
    have i1' : decide ((0 : Int) ≤ I) = false := by simpa using hI0
    have j1 : decide (J < (0 : Int)) = true := by simpa using hJ0
    rw [← hUl] at hu0
    obtain ⟨e1, e2⟩ := bytes_some hu0
    have e3 : (U.toList == []) = false := by simpa using e1
    have e4 : (U.toList != []) = true := by simpa using e1
    rw [hc] at HAd
    have HAd1 := Lib.hid (fun (v : Value) (D : ByteArray) (hD : D.data.toList = (entE i x).1) (u : Value) (W : World) (hb : Below w.heap.size w W) (h : IsE W.heap.size W L v) (hu : IsA W.heap.size W (entE i x).2 u) => show Calls Tryz.prog 9 #[v, .agg #[.string D, u]] W (fun e w' => e = .returned (.tuple #[deltaV ⟨#[]⟩ ⟨#[]⟩ (.slice none 0 0), .int .i64 32]) ∧ Below W.heap.size W w') from (HAd.out v D hD u W hb h hu).mono (fun e w' hh => by
      obtain ⟨d', v', e1, _, e3, e4⟩ := hh
      obtain ⟨rfl, rfl⟩ := e3 (by decide)
      exact ⟨e1, e4⟩))
    clear hI0 hJ0 hu0 HAd hc hd hL lL fL hk hkne hnk hEs hKB hKl hKs hU hUl hUs hI hJ hll hw hlf hnl
    go_enter Tryz.func3, Tryz.ntmps3
    go_upto_region 3 with (first
      | (go_at_call 4; refine (HMk.out).mono ?_; rintro e w1 ⟨v1, rfl, hi1, hc1, hb1⟩; (obtain ⟨la, lc, hle⟩ := HSlL.out w1 v1 hi1); subst hle; have HT1 := Lib.hid hi1; have HC1 := Lib.hid hc1; have HB1 := Lib.hid hb1; clear hi1 hc1 hb1)
      | (go_at_call 5; refine (HEn.out _).mono ?_; rintro e w2 ⟨D, u, rfl, hD, hu, hb2⟩; (obtain ⟨ua, un, uc, hue⟩ := IsA.sl hu); subst hue; have HT2 := Lib.hid (HT1.out.below hb2 hb2.size); have HB2 := Lib.hid (bthen HB1.out hb2); have HD := Lib.hid hD; have HU2 := Lib.hid hu; clear hD hu hb2))
    obtain ⟨W3, hW3⟩ : ∃ W, W = w2.alloc (.cells #[.string D, .slice ua un uc] 27) := ⟨_, rfl⟩
    rw [← hW3]
    obtain ⟨p, hp⟩ : ∃ p, p = w2.heap.size := ⟨_, rfl⟩
    have hb3 : Below w2.heap.size w2 W3 := by rw [hW3]; exact (Below.refl _ _).alloc (Nat.le_refl _) _
    have H3 : Hid (TpAt w W3 p D (.slice ua un uc) (entE i x).2 L (.slice la ll lc)) := Lib.hid ⟨by rw [hp, hW3]; exact boxN_new w2 D _, HU2.out.below hb3 hb3.size, HT2.out.below hb3 hb3.size, bthen HB2.out hb3⟩
    rw [← hp]
    have b0 := H3.out.box.cells.1
    have b1 := H3.out.box.cells.2
    clear hW3 hb3 hp HMk HEn HB1 HB2 HT1 HT2 HU2
    go_upto_region 6 with (first
      | (go_at_call 6; refine (HKy.out D HD.out ua un uc _).mono ?_; rintro e w4 ⟨rfl, hb4⟩; have H4 := Lib.hid (H3.out.go hb4); have b0 := H4.out.box.cells.1; have b1 := H4.out.box.cells.2; clear hb4)
      | (go_at_call 7; refine (HF1.out _ _ H4.out.tree).mono ?_; rintro e w5 ⟨rfl, hb5⟩; have H5 := Lib.hid (H4.out.go hb5); have b0 := H5.out.box.cells.1; have b1 := H5.out.box.cells.2; clear hb5)
      | (go_at_call 8; refine (HUp.out _).mono ?_; rintro e xx ⟨rfl, rfl⟩)
      | (go_at_call 9; refine (HAd1.out _ D HD.out _ _ H5.out.bel H5.out.tree H5.out.ent).mono ?_; rintro e w6 ⟨rfl, hb6⟩; have H6 := Lib.hid (H5.out.go hb6); clear hb6))
    obtain ⟨W7, hW7⟩ : ∃ W, W = w6.alloc zX := ⟨_, rfl⟩
    rw [← hW7]
    obtain ⟨q, hq⟩ : ∃ q, q = w6.heap.size := ⟨_, rfl⟩
    have hx7 : DxAt W7 q ⟨#[]⟩ ⟨#[]⟩ (.slice none 0 0) := by rw [hW7, hq]; exact heap_alloc_new w6 _
    have hb7 : Below w6.heap.size w6 W7 := by rw [hW7]; exact (Below.refl _ _).alloc (Nat.le_refl _) _
    rw [← hq]
    have HX7 := Lib.hid hx7
    have HXl := Lib.hid (dx_lt hx7)
    have HB7 := Lib.hid (bthen H6.out.bel hb7)
    have HT7 := Lib.hid (H6.out.tree.below hb7 hb7.size)
    obtain ⟨c0', c1', c2', c3', c4'⟩ := dx_cells hx7
    clear hW7 hb7 hq hx7
    go_wp2_with (first
      | (go_at_call 7; refine (HF2.out _ _ HT7.out).mono ?_; rintro e w8 ⟨rfl, hb8⟩; have HB8 := Lib.hid (bthen HB7.out hb8); have x8 := dx_cells (dx_below HX7.out hb8 HXl.out); (obtain ⟨d0, d1, d2, d3, d4⟩ := x8); clear hb8)
      | (go_at_call 10; refine (HAw.out _ HB8.out).mono ?_; rintro e w9 ⟨rfl, hb9⟩; have HB9 := Lib.hid (bthen HB8.out hb9); clear hb9))
    go_ret
    exact ⟨rfl, HB9.out⟩
  · obtain ⟨A, B, hadd⟩ := adds_dat hd hi hx (by rw [← hk]; exact hc)
    have hkn2 : kE (entE i x) ≠ [] := by rw [← hk]; exact hkne
    obtain ⟨M, hM⟩ : ∃ M, M = A ++ entE i x :: B := ⟨_, rfl⟩
    have eM : Ents M := by rw [hM]; exact hadd.ents
    have lM : M.length ≤ 41 := by rw [hM]; exact hadd.len
    have fM := ents_fine eM (by omega)
    obtain ⟨lm, hlm⟩ : ∃ n, n = M.length := ⟨_, rfl⟩
    have hlm1 : lm = ll + 1 := by
      have h1 := congrArg List.length hadd.tree
      have h2 := congrArg List.length hM
      simp at h1 h2
      omega
    have HSlM := Lib.hid (fun (W : World) (v : Value) (h : IsE W.heap.size W M v) => show ∃ a c, v = .slice a lm c from by rw [hlm]; exact IsE.sl h)
    have HAp := Lib.hid (fun (v : Value) (hcap : capV v) (d : ByteArray) (hd' : d.data.toList = (entE i x).1) (u : Value) (W : World) (h : IsE W.heap.size W L v) (hu : IsA W.heap.size W (entE i x).2 u) => show Calls Tryz.prog 11 #[v, deltaV ⟨#[]⟩ d u] W (fun e w' => ∃ v', e = .returned v' ∧ IsE w'.heap.size w' M v' ∧ capV v' ∧ Below W.heap.size W w') from by
      have := apply_put L fL.1 v hcap d (by rw [← bytes_len, hd']; exact hEs.1) (by
        have h9 : d.data.toList ≠ [] := by rw [hd', hnk]; exact hkne
        have := (bytes_some h9).1
        simpa using this) (entE i x).2 u W h hu
      rw [hd', show ((entE i x).1, (entE i x).2) = entE i x from rfl, hadd.put, ← hM] at this
      exact this)
    have HDl := Lib.hid (fun (v : Value) (D : ByteArray) (hD : D.data.toList = (entE i x).1) (W : World) (h : IsE W.heap.size W M v) => show Calls Tryz.prog 12 #[v, .string D] W (fun e w' => e = .returned (.tuple #[deltaV KB ⟨#[]⟩ (.slice none 0 0), .int .i64 0]) ∧ Below W.heap.size W w') from by
      have := chDel_any M fM.1 (by omega) v D (by rw [← bytes_len, hD]; exact hEs.1) W h
      rw [hD, ← hKB, hKl, hk, hM, hadd.gone hkn2] at this
      refine this.mono fun e w' hh => ?_
      obtain ⟨g, e1, e2, _, e4⟩ := hh
      obtain rfl := e2 rfl
      exact ⟨e1, e4⟩)
    have HDu := Lib.hid (fun (hu : upD k ≠ []) (v : Value) (W : World) (h : IsE W.heap.size W M v) => show Calls Tryz.prog 12 #[v, .string U] W (fun e w' => ∃ g, e = .returned (.tuple #[deltaV g ⟨#[]⟩ (.slice none 0 0), .int .i64 66]) ∧ Below W.heap.size W w') from by
      rw [hk] at hu
      have := chDel_any M fM.1 (by omega) v U hUs W h
      rw [hUl, hk, hadd.upAgain hu, hM, hadd.full hu] at this
      refine this.mono fun e w' hh => ?_
      obtain ⟨g, e1, _, _, e4⟩ := hh
      exact ⟨g, e1, e4⟩)
    have HAd2 := Lib.hid (fun (v : Value) (D : ByteArray) (hD : D.data.toList = (entE i x).1) (u : Value) (W : World) (hb : Below w.heap.size w W) (h : IsE W.heap.size W M v) (hu : IsA W.heap.size W (entE i x).2 u) => show Calls Tryz.prog 9 #[v, .agg #[.string D, u]] W (fun e w' => e = .returned (.tuple #[deltaV ⟨#[]⟩ ⟨#[]⟩ (.slice none 0 0), .int .i64 68]) ∧ Below W.heap.size W w') from by
      have := chAddEnt_any eM (by omega) hi hx v D hD u W (hw.below hb) (hlf.below hb) h hu
      rw [show addC (keysE M) (kE (entE i x)) = 68 from by rw [hM]; exact hadd.again] at this
      refine this.mono fun e w' hh => ?_
      obtain ⟨d', v', e1, _, e3, e4⟩ := hh
      obtain ⟨rfl, rfl⟩ := e3 (by decide)
      exact ⟨e1, e4⟩)
    have HAp2 := Lib.hid (fun (v : Value) (W : World) (h : IsE W.heap.size W M v) => show Calls Tryz.prog 11 #[v, deltaV KB ⟨#[]⟩ (.slice none 0 0)] W (fun e w' => ∃ v', e = .returned v' ∧ IsE w'.heap.size w' L v' ∧ Below W.heap.size W w') from by
      have := apply_del M fM.1 v KB (by
        have h9 : KB.data.toList ≠ [] := by rw [hKl]; exact hkne
        have := (bytes_some h9).1
        simpa using this) W h
      rw [hKl, hk, hM, hadd.back] at this
      refine this.mono fun e w' hh => ?_
      obtain ⟨v', e1, e2, _, e4⟩ := hh
      exact ⟨v', e1, e2, e4⟩)
    have HSm := Lib.hid (fun (v u : Value) (W : World) (hv : IsE W.heap.size W L v) (hu : IsE W.heap.size W L u) => show Calls Tryz.prog 13 #[v, u] W (fun e w' => e = .returned (.bool true) ∧ Below W.heap.size W w') from by have := sameR7_any L L fL.1 v u W hv hu; rw [show (L == L) = true from by simp] at this; exact this)
    rw [hc] at HAd
    have HAd1 := Lib.hid (fun (v : Value) (D : ByteArray) (hD : D.data.toList = (entE i x).1) (u : Value) (W : World) (hb : Below w.heap.size w W) (h : IsE W.heap.size W L v) (hu : IsA W.heap.size W (entE i x).2 u) => show Calls Tryz.prog 9 #[v, .agg #[.string D, u]] W (fun e w' => ∃ d a n c, e = .returned (.tuple #[deltaV ⟨#[]⟩ d (.slice a n c), .int .i64 0]) ∧ d.data.toList = (entE i x).1 ∧ IsA w'.heap.size w' (entE i x).2 (.slice a n c) ∧ Below W.heap.size W w') from (HAd.out v D hD u W hb h hu).mono (fun e w' hh => by
      obtain ⟨d', v', e1, e2, _, e4⟩ := hh
      obtain ⟨f1, f2⟩ := e2 rfl
      obtain ⟨a, n, c, rfl⟩ := f2.sl
      exact ⟨d', a, n, c, e1, f1, f2, e4⟩))
    rw [← hI] at hI0
    rw [← hJ] at huJ
    have i1 : decide (I ≥ 0) = false := by simpa using hI0
    have i1' : decide ((0 : Int) ≤ I) = false := by simpa using hI0
    have kk : (KB.toList == KB.toList) = true := by simp
    have s1 : IntKind.i64.wrap ((ll : Int) + 1) = (lm : Int) := by rw [hlm1]; exact IntWalk.i64_in _ (by omega)
    have s2 : ((lm : Int) == (lm : Int)) = true := by simp
    have s3 : decide ((lm : Int) = (lm : Int)) = true := by simp
    have s4 : (ll : Int) + 1 = (lm : Int) := by rw [hlm1]; omega
    have s5 : IntKind.i64.wrap (lm : Int) = (lm : Int) := by rw [hlm1]; exact IntWalk.i64_in _ (by omega)
    have tokA : Hid ((0 : Nat) = 0) := Lib.hid rfl
    have tokD : Hid ((0 : Nat) = 0) := Lib.hid rfl
    by_cases hu0 : upD k = []
    · obtain ⟨e1, e2⟩ := bytes_nil (show U.data.toList = [] from by rw [hUl]; exact hu0)
      have e3 : (U.toList == []) = true := by rw [e1]; rfl
      have e4 : (U.toList != []) = false := by rw [e1]; rfl
      clear hu0 huJ hI0 HAd hc hd hL lL fL hk hkne hnk hEs hKB hKl hKs hU hUl hUs hI hJ hll hw hlf hnl hadd hkn2 hM eM lM fM hlm hlm1 HF2 HDu
      go_enter Tryz.func3, Tryz.ntmps3
      go_upto_region 3 with (first
        | (go_at_call 4; refine (HMk.out).mono ?_; rintro e w1 ⟨v1, rfl, hi1, hc1, hb1⟩; (obtain ⟨la, lc, hle⟩ := HSlL.out w1 v1 hi1); subst hle; have HT1 := Lib.hid hi1; have HC1 := Lib.hid hc1; have HB1 := Lib.hid hb1; clear hi1 hc1 hb1)
        | (go_at_call 5; refine (HEn.out _).mono ?_; rintro e w2 ⟨D, u, rfl, hD, hu, hb2⟩; (obtain ⟨ua, un, uc, hue⟩ := IsA.sl hu); subst hue; have HT2 := Lib.hid (HT1.out.below hb2 hb2.size); have HB2 := Lib.hid (bthen HB1.out hb2); have HD := Lib.hid hD; have HU2 := Lib.hid hu; clear hD hu hb2))
      obtain ⟨W3, hW3⟩ : ∃ W, W = w2.alloc (.cells #[.string D, .slice ua un uc] 27) := ⟨_, rfl⟩
      rw [← hW3]
      obtain ⟨p, hp⟩ : ∃ p, p = w2.heap.size := ⟨_, rfl⟩
      have hb3 : Below w2.heap.size w2 W3 := by rw [hW3]; exact (Below.refl _ _).alloc (Nat.le_refl _) _
      have H3 : Hid (TpAt w W3 p D (.slice ua un uc) (entE i x).2 L (.slice la ll lc)) := Lib.hid ⟨by rw [hp, hW3]; exact boxN_new w2 D _, HU2.out.below hb3 hb3.size, HT2.out.below hb3 hb3.size, bthen HB2.out hb3⟩
      rw [← hp]
      have b0 := H3.out.box.cells.1
      have b1 := H3.out.box.cells.2
      clear hW3 hb3 hp HMk HEn HB1 HB2 HT1 HT2 HU2
      go_upto_region 6 with (first
        | (go_at_call 6; refine (HKy.out D HD.out ua un uc _).mono ?_; rintro e w4 ⟨rfl, hb4⟩; have H4 := Lib.hid (H3.out.go hb4); have b0 := H4.out.box.cells.1; have b1 := H4.out.box.cells.2; clear hb4)
        | (go_at_call 7; refine (HF1.out _ _ H4.out.tree).mono ?_; rintro e w5 ⟨rfl, hb5⟩; have H5 := Lib.hid (H4.out.go hb5); have b0 := H5.out.box.cells.1; have b1 := H5.out.box.cells.2; clear hb5)
        | (go_at_call 8; refine (HUp.out _).mono ?_; rintro e xx ⟨rfl, rfl⟩)
        | (go_at_call 9; refine (HAd1.out _ D HD.out _ _ H5.out.bel H5.out.tree H5.out.ent).mono ?_; rintro e w6 ⟨d6, va, vn, vc, rfl, hd6, hv6, hb6⟩; have H6 := Lib.hid (H5.out.go hb6); have HD6 := Lib.hid hd6; have HV6 := Lib.hid hv6; clear hb6 hd6 hv6))
      obtain ⟨W7, hW7⟩ : ∃ W, W = w6.alloc (.cells #[.int .i64 0, .int .i64 0, .string ⟨#[]⟩, .string d6, .slice va vn vc] 35) := ⟨_, rfl⟩
      rw [← hW7]
      obtain ⟨q, hq⟩ : ∃ q, q = w6.heap.size := ⟨_, rfl⟩
      have hx7 : DxAt W7 q ⟨#[]⟩ d6 (.slice va vn vc) := by rw [hW7, hq]; exact heap_alloc_new w6 _
      have hb7 : Below w6.heap.size w6 W7 := by rw [hW7]; exact (Below.refl _ _).alloc (Nat.le_refl _) _
      rw [← hq]
      have HX7 := Lib.hid hx7
      have HXl := Lib.hid (dx_lt hx7)
      have HB7 := Lib.hid (bthen H6.out.bel hb7)
      have HV7 := Lib.hid (HV6.out.below hb7 hb7.size)
      have H7 := Lib.hid (H6.out.go hb7)
      have HT7 := Lib.hid (H6.out.tree.below hb7 hb7.size)
      obtain ⟨c0', c1', c2', c3', c4'⟩ := dx_cells hx7
      clear hW7 hb7 hq hx7
      go_upto_region 10 with fail
      go_upto_region 11 with (first
        | (go_at_call 11; refine (HAp.out _ HC1.out d6 HD6.out _ _ HT7.out HV7.out).mono ?_; rintro e w8 ⟨v8, rfl, h8, hc8, hb8⟩; (obtain ⟨ma, mc, hve⟩ := HSlM.out w8 v8 h8); subst hve; have HM8 := Lib.hid h8; have H8 := Lib.hid (H7.out.go hb8); clear h8 hc8 hb8)
        | fail)
      have b0 := H8.out.box.cells.1
      have b1 := H8.out.box.cells.2
      go_upto_region 12 with (go_at_call 12; refine (HDl.out _ D HD.out _ HM8.out).mono ?_; rintro e w9 ⟨rfl, hb9⟩; have H9 := Lib.hid (H8.out.go hb9); have HM9 := Lib.hid (HM8.out.below hb9 hb9.size); clear hb9)
      obtain ⟨W10, hW10⟩ : ∃ W, W = w9.alloc (.cells #[.int .i64 0, .int .i64 0, .string KB, .string ⟨#[]⟩, .slice none 0 0] 35) := ⟨_, rfl⟩
      rw [← hW10]
      obtain ⟨g, hg⟩ : ∃ g, g = w9.heap.size := ⟨_, rfl⟩
      have hx10 : DxAt W10 g KB ⟨#[]⟩ (.slice none 0 0) := by rw [hW10, hg]; exact heap_alloc_new w9 _
      have hb10 : Below w9.heap.size w9 W10 := by rw [hW10]; exact (Below.refl _ _).alloc (Nat.le_refl _) _
      rw [← hg]
      have HX10 := Lib.hid hx10
      have HXl10 := Lib.hid (dx_lt hx10)
      have H10 := Lib.hid (H9.out.go hb10)
      have HM10 := Lib.hid (HM9.out.below hb10 hb10.size)
      have b0 := H10.out.box.cells.1
      have b1 := H10.out.box.cells.2
      clear hW10 hb10 hg hx10
      go_upto_region 13 with (go_at_call 9; refine (HAd2.out _ D HD.out _ _ H10.out.bel HM10.out H10.out.ent).mono ?_; rintro e w11 ⟨rfl, hb11⟩; have H11 := Lib.hid (H10.out.go hb11); have HM11 := Lib.hid (HM10.out.below hb11 hb11.size); have HX11 := Lib.hid (dx_below HX10.out hb11 HXl10.out); clear hb11)
      obtain ⟨W12, hW12⟩ : ∃ W, W = w11.alloc zX := ⟨_, rfl⟩
      rw [← hW12]
      have hb12 : Below w11.heap.size w11 W12 := by rw [hW12]; exact (Below.refl _ _).alloc (Nat.le_refl _) _
      have HX12 := Lib.hid (dx_below HX11.out hb12 (dx_lt HX11.out))
      have HXl12 := Lib.hid (dx_lt HX12.out)
      have HM12 := Lib.hid (HM11.out.below hb12 hb12.size)
      have HT12 := Lib.hid (H11.out.tree.below hb12 hb12.size)
      have HB12 := Lib.hid (bthen H11.out.bel hb12)
      obtain ⟨x0, x1, x2, x3, x4⟩ := dx_cells HX12.out
      clear hW12 hb12
      go_wp2_with (first
        | (go_at_call 11; refine (HAp2.out _ _ HM12.out).mono ?_; rintro e w15 ⟨v15, rfl, h15, hb15⟩; (obtain ⟨ra, rc, hve⟩ := HSlL.out w15 v15 h15); subst hve; have H15 := Lib.hid h15; have HT15 := Lib.hid (HT12.out.below hb15 hb15.size); have HB15 := Lib.hid (bthen HB12.out hb15); clear h15 hb15)
        | (go_at_call 13; refine (HSm.out _ _ _ H15.out HT15.out).mono ?_; rintro e w16 ⟨rfl, hb16⟩; have HB16 := Lib.hid (bthen HB15.out hb16); clear hb16)
        | (go_at_call 10; refine (HAw.out _ HB16.out).mono ?_; rintro e w17 ⟨rfl, hb17⟩; have HB17 := Lib.hid (bthen HB16.out hb17); clear hb17))
      go_ret
      exact ⟨rfl, HB17.out⟩
    · have hJ1 : ¬ J < 0 := fun h9 => huJ ⟨hu0, h9⟩
      have j1 : decide (J < (0 : Int)) = false := by simpa using hJ1
      have HDu1 := Lib.hid (HDu.out hu0)
      obtain ⟨e1, e2⟩ := bytes_some (show U.data.toList ≠ [] from by rw [hUl]; exact hu0)
      have e3 : (U.toList == []) = false := by simpa using e1
      have e4 : (U.toList != []) = true := by simpa using e1
      clear hu0 huJ hJ1 hI0 HAd hc hd hL lL fL hk hkne hnk hEs hKB hKl hKs hU hUl hUs hI hJ hll hw hlf hnl hadd hkn2 hM eM lM fM hlm hlm1 HDu
      go_enter Tryz.func3, Tryz.ntmps3
      go_upto_region 3 with (first
        | (go_at_call 4; refine (HMk.out).mono ?_; rintro e w1 ⟨v1, rfl, hi1, hc1, hb1⟩; (obtain ⟨la, lc, hle⟩ := HSlL.out w1 v1 hi1); subst hle; have HT1 := Lib.hid hi1; have HC1 := Lib.hid hc1; have HB1 := Lib.hid hb1; clear hi1 hc1 hb1)
        | (go_at_call 5; refine (HEn.out _).mono ?_; rintro e w2 ⟨D, u, rfl, hD, hu, hb2⟩; (obtain ⟨ua, un, uc, hue⟩ := IsA.sl hu); subst hue; have HT2 := Lib.hid (HT1.out.below hb2 hb2.size); have HB2 := Lib.hid (bthen HB1.out hb2); have HD := Lib.hid hD; have HU2 := Lib.hid hu; clear hD hu hb2))
      obtain ⟨W3, hW3⟩ : ∃ W, W = w2.alloc (.cells #[.string D, .slice ua un uc] 27) := ⟨_, rfl⟩
      rw [← hW3]
      obtain ⟨p, hp⟩ : ∃ p, p = w2.heap.size := ⟨_, rfl⟩
      have hb3 : Below w2.heap.size w2 W3 := by rw [hW3]; exact (Below.refl _ _).alloc (Nat.le_refl _) _
      have H3 : Hid (TpAt w W3 p D (.slice ua un uc) (entE i x).2 L (.slice la ll lc)) := Lib.hid ⟨by rw [hp, hW3]; exact boxN_new w2 D _, HU2.out.below hb3 hb3.size, HT2.out.below hb3 hb3.size, bthen HB2.out hb3⟩
      rw [← hp]
      have b0 := H3.out.box.cells.1
      have b1 := H3.out.box.cells.2
      clear hW3 hb3 hp HMk HEn HB1 HB2 HT1 HT2 HU2
      go_upto_region 6 with (first
        | (go_at_call 6; refine (HKy.out D HD.out ua un uc _).mono ?_; rintro e w4 ⟨rfl, hb4⟩; have H4 := Lib.hid (H3.out.go hb4); have b0 := H4.out.box.cells.1; have b1 := H4.out.box.cells.2; clear hb4)
        | (go_at_call 7; refine (HF1.out _ _ H4.out.tree).mono ?_; rintro e w5 ⟨rfl, hb5⟩; have H5 := Lib.hid (H4.out.go hb5); have b0 := H5.out.box.cells.1; have b1 := H5.out.box.cells.2; clear hb5)
        | (go_at_call 8; refine (HUp.out _).mono ?_; rintro e xx ⟨rfl, rfl⟩)
        | (go_at_call 9; refine (HAd1.out _ D HD.out _ _ H5.out.bel H5.out.tree H5.out.ent).mono ?_; rintro e w6 ⟨d6, va, vn, vc, rfl, hd6, hv6, hb6⟩; have H6 := Lib.hid (H5.out.go hb6); have HD6 := Lib.hid hd6; have HV6 := Lib.hid hv6; clear hb6 hd6 hv6))
      obtain ⟨W7, hW7⟩ : ∃ W, W = w6.alloc (.cells #[.int .i64 0, .int .i64 0, .string ⟨#[]⟩, .string d6, .slice va vn vc] 35) := ⟨_, rfl⟩
      rw [← hW7]
      obtain ⟨q, hq⟩ : ∃ q, q = w6.heap.size := ⟨_, rfl⟩
      have hx7 : DxAt W7 q ⟨#[]⟩ d6 (.slice va vn vc) := by rw [hW7, hq]; exact heap_alloc_new w6 _
      have hb7 : Below w6.heap.size w6 W7 := by rw [hW7]; exact (Below.refl _ _).alloc (Nat.le_refl _) _
      rw [← hq]
      have HX7 := Lib.hid hx7
      have HXl := Lib.hid (dx_lt hx7)
      have HB7 := Lib.hid (bthen H6.out.bel hb7)
      have HV7 := Lib.hid (HV6.out.below hb7 hb7.size)
      have H7 := Lib.hid (H6.out.go hb7)
      have HT7 := Lib.hid (H6.out.tree.below hb7 hb7.size)
      obtain ⟨c0', c1', c2', c3', c4'⟩ := dx_cells hx7
      clear hW7 hb7 hq hx7
      go_upto_region 10 with (go_at_call 7; refine (HF2.out _ _ HT7.out).mono ?_; rintro e w7 ⟨rfl, hb7'⟩; have H7' := Lib.hid (H7.out.go hb7'); have HT7' := Lib.hid (HT7.out.below hb7' hb7'.size); have HV7' := Lib.hid (HV7.out.below hb7' hb7'.size); (obtain ⟨k0, k1, k2, k3, k4⟩ := dx_cells (dx_below HX7.out hb7' HXl.out)); clear hb7')
      go_upto_region 11 with (first
        | (go_at_call 11; refine (HAp.out _ HC1.out d6 HD6.out _ _ HT7'.out HV7'.out).mono ?_; rintro e w8 ⟨v8, rfl, h8, hc8, hb8⟩; (obtain ⟨ma, mc, hve⟩ := HSlM.out w8 v8 h8); subst hve; have HM8 := Lib.hid h8; have H8 := Lib.hid (H7'.out.go hb8); clear h8 hc8 hb8)
        | fail)
      have b0 := H8.out.box.cells.1
      have b1 := H8.out.box.cells.2
      go_upto_region 12 with (go_at_call 12; refine (HDl.out _ D HD.out _ HM8.out).mono ?_; rintro e w9 ⟨rfl, hb9⟩; have H9 := Lib.hid (H8.out.go hb9); have HM9 := Lib.hid (HM8.out.below hb9 hb9.size); clear hb9)
      obtain ⟨W10, hW10⟩ : ∃ W, W = w9.alloc (.cells #[.int .i64 0, .int .i64 0, .string KB, .string ⟨#[]⟩, .slice none 0 0] 35) := ⟨_, rfl⟩
      rw [← hW10]
      obtain ⟨g, hg⟩ : ∃ g, g = w9.heap.size := ⟨_, rfl⟩
      have hx10 : DxAt W10 g KB ⟨#[]⟩ (.slice none 0 0) := by rw [hW10, hg]; exact heap_alloc_new w9 _
      have hb10 : Below w9.heap.size w9 W10 := by rw [hW10]; exact (Below.refl _ _).alloc (Nat.le_refl _) _
      rw [← hg]
      have HX10 := Lib.hid hx10
      have HXl10 := Lib.hid (dx_lt hx10)
      have H10 := Lib.hid (H9.out.go hb10)
      have HM10 := Lib.hid (HM9.out.below hb10 hb10.size)
      have b0 := H10.out.box.cells.1
      have b1 := H10.out.box.cells.2
      clear hW10 hb10 hg hx10
      go_upto_region 13 with (go_at_call 9; refine (HAd2.out _ D HD.out _ _ H10.out.bel HM10.out H10.out.ent).mono ?_; rintro e w11 ⟨rfl, hb11⟩; have H11 := Lib.hid (H10.out.go hb11); have HM11 := Lib.hid (HM10.out.below hb11 hb11.size); have HX11 := Lib.hid (dx_below HX10.out hb11 HXl10.out); clear hb11)
      obtain ⟨W12, hW12⟩ : ∃ W, W = w11.alloc zX := ⟨_, rfl⟩
      rw [← hW12]
      have hb12 : Below w11.heap.size w11 W12 := by rw [hW12]; exact (Below.refl _ _).alloc (Nat.le_refl _) _
      have HX12 := Lib.hid (dx_below HX11.out hb12 (dx_lt HX11.out))
      have HXl12 := Lib.hid (dx_lt HX12.out)
      have HM12 := Lib.hid (HM11.out.below hb12 hb12.size)
      have HT12 := Lib.hid (H11.out.tree.below hb12 hb12.size)
      have HB12 := Lib.hid (bthen H11.out.bel hb12)
      obtain ⟨x0, x1, x2, x3, x4⟩ := dx_cells HX12.out
      clear hW12 hb12
      go_wp2_with (first
        | (go_at_call 12; refine (HDu1.out _ _ HM12.out).mono ?_; rintro e w13 ⟨g13, rfl, hb13⟩; have hb14 := hb13.alloc hb13.size (.cells #[.int .i64 0, .int .i64 0, .string g13, .string ⟨#[]⟩, .slice none 0 0] 35); have HM13 := Lib.hid (HM12.out.below hb14 hb14.size); have HT13 := Lib.hid (HT12.out.below hb14 hb14.size); have HB13 := Lib.hid (bthen HB12.out hb14); (obtain ⟨y0, y1, y2, y3, y4⟩ := dx_cells (dx_below HX12.out hb14 HXl12.out)); clear hb13 hb14)
        | (go_at_call 11; refine (HAp2.out _ _ HM13.out).mono ?_; rintro e w15 ⟨v15, rfl, h15, hb15⟩; (obtain ⟨ra, rc, hve⟩ := HSlL.out w15 v15 h15); subst hve; have H15 := Lib.hid h15; have HT15 := Lib.hid (HT13.out.below hb15 hb15.size); have HB15 := Lib.hid (bthen HB13.out hb15); clear h15 hb15)
        | (go_at_call 13; refine (HSm.out _ _ _ H15.out HT15.out).mono ?_; rintro e w16 ⟨rfl, hb16⟩; have HB16 := Lib.hid (bthen HB15.out hb16); clear hb16)
        | (go_at_call 10; refine (HAw.out _ HB16.out).mono ?_; rintro e w17 ⟨rfl, hb17⟩; have HB17 := Lib.hid (bthen HB16.out hb17); clear hb17))
      go_ret
      exact ⟨rfl, HB17.out⟩
end Go.Proofs.YtpnbcmblnplbgaaGreatDoor


namespace Go.Proofs.YtpnbcmblnplbgaaGreatDoor
open Go.RowKit
set_option linter.unusedVariables false

end Go.Proofs.YtpnbcmblnplbgaaGreatDoor

