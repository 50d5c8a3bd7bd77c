/- Several texts in one file: TrMkP, TrMkW, TrAwkP, MkS, EnHasP, TrAwk. -/
import Derived.Test.YtpnbcmblnplbgaaGreatDoorChgP15
import Derived.Test.YtpnbcmblnplbgaaGreatDoorChgP8
import Derived.Test.YtpnbcmblnplbgaaGreatDoorChgP13
import Derived.Test.YtpnbcmblnplbgaaGreatDoorChgP14
import Derived.Test.YtpnbcmblnplbgaaGreatDoorChgP5
import Derived.Test.YtpnbcmblnplbgaaGreatDoorChgP10
import Derived.Test.YtpnbcmblnplbgaaGreatDoorChgP7
import Derived.Test.YtpnbcmblnplbgaaGreatDoorChgP3
namespace Go.Proofs.YtpnbcmblnplbgaaGreatDoor
set_option linter.unusedVariables false
set_option linter.unusedSimpArgs false

theorem toNat_inj8 : ∀ x y : List UInt8, x.map UInt8.toNat = y.map UInt8.toNat → x = y
  | [], [], _ => rfl
  | [], _ :: _, h => by cases h
  | _ :: _, [], h => by cases h
  | a :: x, b :: y, h => by
    simp only [List.map_cons, List.cons.injEq] at h
    rw [UInt8.toNat_inj.1 h.1, toNat_inj8 x y h.2]
theorem gt_total {x y : KL} (h1 : gtB x y = false) (h2 : x ≠ y) : gtB y x = true := by
  cases e : gtB y x with
  | true => rfl
  | false => exact absurd (toNat_inj8 x y (List.le_antisymm ((leT_iff x y).1 h1) ((leT_iff y x).1 e))) h2
theorem gt_ne {x y : KL} (h : gtB x y = true) : x ≠ y := fun e => by rw [e, gleT_refl] at h; cases h
theorem gt_not {x y : KL} (h : gtB x y = true) : gtB y x = false := by
  cases e : gtB y x with
  | false => rfl
  | true => exact absurd rfl (gt_ne (gtT_trans h e))
theorem gt_bl (x y : KL) : Op.bytesLess y x = gtB x y := less_gtB x y
abbrev Rise (KS : List KL) : Prop := KS.Pairwise (fun a b => gtB b a = true)
structure CutE (L A B : List ET) (k : KL) : Prop where
  below : ∀ a ∈ A, gtB k (kE a) = true
  above : ∀ b ∈ B, gtB (kE b) k = true
  all : L = A ++ B ∨ ∃ y, kE y = k ∧ L = A ++ y :: B
theorem rise_cut : ∀ (L : List ET) (k : KL), Rise (keysE L) → ∃ A B, CutE L A B k
  | [], k, _ => ⟨[], [], by simp, by simp, .inl rfl⟩
  | x :: l, k, h => by
    have hx : ∀ b ∈ l, gtB (kE b) (kE x) = true := fun b hb => (List.pairwise_cons.1 h).1 _ (List.mem_map_of_mem hb)
    have hl : Rise (keysE l) := (List.pairwise_cons.1 h).2
    by_cases h1 : gtB k (kE x) = true
    · obtain ⟨A, B, ha, hb, hc⟩ := rise_cut l k hl
      refine ⟨x :: A, B, fun a h => ?_, hb, ?_⟩
      · rcases List.mem_cons.1 h with rfl | h
        · exact h1
        · exact ha a h
      · rcases hc with rfl | ⟨y, hy, rfl⟩
        · exact .inl rfl
        · exact .inr ⟨y, hy, rfl⟩
    · by_cases h2 : kE x = k
      · exact ⟨[], l, by simp, fun b hb => by rw [← h2]; exact hx b hb, .inr ⟨x, h2, rfl⟩⟩
      · have h3 : gtB (kE x) k = true := gt_total (by simpa using h1) (Ne.symm h2)
        refine ⟨[], x :: l, by simp, fun b hb => ?_, .inl rfl⟩
        rcases List.mem_cons.1 hb with rfl | hb
        · exact h3
        · exact gtT_trans (hx b hb) h3
theorem keysE_app (A B : List ET) : keysE (A ++ B) = keysE A ++ keysE B := List.map_append
theorem CutE.notA {L A B : List ET} {k : KL} (h : CutE L A B k) : k ∉ keysE A := fun hm => by
  obtain ⟨a, ha, e⟩ := List.mem_map.1 hm
  exact gt_ne (h.below a ha) e.symm
theorem CutE.notB {L A B : List ET} {k : KL} (h : CutE L A B k) : k ∉ keysE B := fun hm => by
  obtain ⟨a, ha, e⟩ := List.mem_map.1 hm
  exact gt_ne (h.above a ha) e
theorem CutE.no {L A B : List ET} {k : KL} (h : CutE L A B k) : k ∉ keysE (A ++ B) := by
  rw [keysE_app, List.mem_append]
  exact fun hm => hm.elim h.notA h.notB
theorem idx_form {A B : List ET} {y : ET} {k : KL} (hA : k ∉ keysE A) (hy : kE y = k) : idxK (keysE (A ++ y :: B)) k = A.length :=
  idxK_at A.length (by rw [keysE_len]; simp) (fun i hi hlt e => hA (by
    rw [keysE_at _ i (by rw [keysE_len] at hi; exact hi), List.getElem_append_left hlt] at e
    rw [← e]
    exact List.mem_map_of_mem (List.getElem_mem _))) (by rw [keysE_at _ A.length (by simp)]; simp [hy])
theorem findIdx_form {α : Type} (p : α → Bool) (A R : List α) (ha : ∀ a ∈ A, p a = false) (hr : ∀ x ∈ R.head?, p x = true) : ((A ++ R).findIdx? p).getD (A ++ R).length = A.length := by
  induction A with
  | nil =>
    cases R with
    | nil => rfl
    | cons x R => simp [List.findIdx?_cons, hr x (by simp)]
  | cons a A ih =>
    have h1 := ih (fun x hx => ha x (by simp [hx]))
    rw [List.cons_append, List.findIdx?_cons, ha a (by simp)]
    cases e : (A ++ R).findIdx? p with
    | none => rw [e] at h1; simp at h1 ⊢; omega
    | some i => rw [e] at h1; simp at h1 ⊢; omega
theorem at_form {L A B R : List ET} {k : KL} (h : CutE L A B k) (hR : R = B ∨ ∃ y, kE y = k ∧ R = y :: B) : atK (keysE (A ++ R)) k = A.length := by
  unfold atK
  rw [keysE_app, findIdx_form]
  · exact keysE_len A
  · intro x hx
    obtain ⟨a, ha, rfl⟩ := List.mem_map.1 hx
    rw [gt_bl, h.below a ha]; rfl
  · intro x hx
    rcases hR with rfl | ⟨y, hy, rfl⟩
    · cases R with
      | nil => cases hx
      | cons b B =>
        simp [keysE] at hx
        subst hx
        rw [gt_bl, gt_not (h.above b (by simp))]; rfl
    · simp [keysE] at hx
      subst hx
      rw [gt_bl, hy, gleT_refl]; rfl
theorem above_form {L A B : List ET} {k : KL} (h : CutE L A B k) : aboveK (keysE (A ++ B)) k = A.length := by
  unfold aboveK
  rw [keysE_app, findIdx_form]
  · exact keysE_len A
  · intro x hx
    obtain ⟨a, ha, rfl⟩ := List.mem_map.1 hx
    exact gt_not (h.below a ha)
  · intro x hx
    cases B with
    | nil => cases hx
    | cons b B =>
      simp [keysE] at hx
      subst hx
      exact h.above b (by simp)
theorem CutE.find {L A B : List ET} {k : KL} (h : CutE L A B k) (hk : k ≠ []) : (L = A ++ B ∧ findK (keysE L) k = -1 ∧ idxK (keysE L) k = -1) ∨ ((∃ y, kE y = k ∧ L = A ++ y :: B) ∧ findK (keysE L) k = A.length ∧ idxK (keysE L) k = A.length) := by
  have hf : findK (keysE L) k = idxK (keysE L) k := by unfold findK; rw [if_neg hk]
  rcases h.all with e | ⟨y, hy, e⟩
  · have := idxK_no h.no
    rw [← e] at this
    exact .inl ⟨e, hf.trans this, this⟩
  · have := idx_form (B := B) h.notA hy
    rw [← e] at this
    exact .inr ⟨⟨y, hy, e⟩, hf.trans this, this⟩
theorem CutE.putE {L A B : List ET} {e : ET} (h : CutE L A B (kE e)) (hk : kE e ≠ []) : Go.Proofs.YtpnbcmblnplbgaaGreatDoor.putE L e = A ++ e :: B := by
  unfold Go.Proofs.YtpnbcmblnplbgaaGreatDoor.putE fromK toK
  rcases h.find hk with ⟨rfl, hf, _⟩ | ⟨⟨y, hy, rfl⟩, hf, _⟩
  · rw [hf, if_pos (by omega), if_pos (by omega), above_form h]
    simp
  · rw [hf, if_neg (by omega), if_neg (by omega)]
    simp [List.drop_append]
theorem CutE.putD {L A B : List ET} {e : ET} (h : CutE L A B (kE e)) : Go.Proofs.YtpnbcmblnplbgaaGreatDoor.putD L e = A ++ e :: B := by
  unfold Go.Proofs.YtpnbcmblnplbgaaGreatDoor.putD
  rcases h.all with rfl | ⟨y, hy, rfl⟩
  · rw [at_form h (.inl rfl)]
    have hn : (keysE (A ++ B))[A.length]? ≠ some (kE e) := fun hs => by
      exact h.no (List.mem_of_getElem? hs)
    rw [if_neg hn]
    simp
  · rw [at_form h (.inr ⟨y, hy, rfl⟩)]
    have hs : (keysE (A ++ y :: B))[A.length]? = some (kE e) := by
      rw [keysE_app, List.getElem?_append_right (by rw [keysE_len]; exact Nat.le_refl _), keysE_len]
      simp [keysE, hy]
    rw [if_pos hs]
    simp [List.drop_append]
theorem CutE.delE {L A B : List ET} {k : KL} (h : CutE L A B k) (hk : k ≠ []) : Go.Proofs.YtpnbcmblnplbgaaGreatDoor.delE L k = A ++ B := by
  unfold Go.Proofs.YtpnbcmblnplbgaaGreatDoor.delE
  rcases h.find hk with ⟨rfl, hf, _⟩ | ⟨⟨y, hy, rfl⟩, hf, _⟩
  · rw [hf, if_pos (by omega)]
  · rw [hf, if_neg (by omega)]
    simp [List.drop_append]
theorem CutE.put {L A B : List ET} {e : ET} (h : CutE L A B (kE e)) : CutE (A ++ e :: B) A B (kE e) := ⟨h.below, h.above, .inr ⟨e, rfl, rfl⟩⟩
theorem CutE.len {L A B : List ET} {k : KL} (h : CutE L A B k) (hk : k ≠ []) : L.length = A.length + B.length + (if findK (keysE L) k < 0 then 0 else 1) := by
  rcases h.find hk with ⟨e, hf, _⟩ | ⟨⟨y, hy, e⟩, hf, _⟩
  · rw [if_pos (by omega), e]; simp
  · rw [if_neg (by omega), e]; simp; omega
theorem rise_put {L A B : List ET} {e : ET} (h : CutE L A B (kE e)) (hL : Rise (keysE L)) : Rise (keysE (A ++ e :: B)) := by
  have hAB : Rise (keysE A) ∧ Rise (keysE B) := by
    rcases h.all with rfl | ⟨y, hy, rfl⟩
    · rw [keysE_app] at hL
      exact ⟨(List.pairwise_append.1 hL).1, (List.pairwise_append.1 hL).2.1⟩
    · rw [keysE_app] at hL
      exact ⟨(List.pairwise_append.1 hL).1, (List.pairwise_cons.1 (List.pairwise_append.1 hL).2.1).2⟩
  rw [keysE_app]
  refine List.pairwise_append.2 ⟨hAB.1, List.pairwise_cons.2 ⟨fun b hb => ?_, hAB.2⟩, fun a ha b hb => ?_⟩
  · obtain ⟨x, hx, rfl⟩ := List.mem_map.1 hb
    exact h.above x hx
  · obtain ⟨x, hx, rfl⟩ := List.mem_map.1 ha
    rcases List.mem_cons.1 hb with rfl | hb
    · exact h.below x hx
    · obtain ⟨z, hz, rfl⟩ := List.mem_map.1 hb
      exact gtT_trans (h.above z hz) (h.below x hx)
theorem rise_del {L A B : List ET} {k : KL} (h : CutE L A B k) (hL : Rise (keysE L)) : Rise (keysE (A ++ B)) := by
  rcases h.all with rfl | ⟨y, hy, rfl⟩
  · exact hL
  · rw [keysE_app] at hL ⊢
    have h2 := List.pairwise_append.1 hL
    exact List.pairwise_append.2 ⟨h2.1, (List.pairwise_cons.1 h2.2.1).2, fun a ha b hb => h2.2.2 a ha b (List.mem_cons_of_mem _ hb)⟩

theorem stands_rise {KS : List KL} (h : standsK KS = true) : Rise KS :=
  List.pairwise_iff_getElem.2 fun i j hi hj hij => by
    have := rise_lt (fun i hi => (stands_at h i hi).1) j i hij hj
    rwa [getD_in _ _ hi, getD_in _ _ hj] at this
theorem stands_up {KS : List KL} (h : standsK KS = true) : ∀ x ∈ KS, upD x = [] ∨ upD x ∈ KS := fun x hx => by
  obtain ⟨i, hi, rfl⟩ := List.getElem_of_mem hx
  have h2 := (stands_at h i hi).2
  unfold upK at h2
  rw [getD_in _ _ hi] at h2
  simp only [Bool.or_eq_true, List.isEmpty_iff, List.contains_iff_mem] at h2
  exact h2
theorem stands_of {KS : List KL} (h1 : Rise KS) (h2 : ∀ x ∈ KS, upD x = [] ∨ upD x ∈ KS) : standsK KS = true :=
  stands_yes fun i hi => by
    refine ⟨?_, ?_⟩
    · unfold riseK
      by_cases h0 : i = 0
      · subst h0; rfl
      · have := List.pairwise_iff_getElem.1 h1 (i - 1) i (by omega) hi (by omega)
        rw [getD_in _ _ hi, getD_in _ _ (show i - 1 < KS.length by omega), this]; simp
    · unfold upK
      rw [getD_in _ _ hi]
      rcases h2 _ (List.getElem_mem hi) with h | h
      · rw [h]; rfl
      · simp [h]

def stepT (L : List ET) (x : Nat) : List ET := if addC (keysE L) (nmE (x % 12)) = 0 then putD L (entE (x % 12) x) else L
def mkT (J : List UInt8) : List ET := J.foldl (fun L b => stepT L b.toNat) []
theorem mkT_snoc (J : List UInt8) (b : UInt8) : mkT (J ++ [b]) = stepT (mkT J) b.toNat := by simp [mkT]
structure GoodT (L : List ET) : Prop where
  stands : standsK (keysE L) = true
  ents : ∀ e ∈ L, ∃ i x, i < 256 ∧ x < 256 ∧ e = entE i x
theorem addC_zero {KS : List KL} {k : KL} (h : addC KS k = 0) : k ∉ KS ∧ (upD k = [] ∨ upD k ∈ KS) := by
  unfold addC at h
  by_cases h1 : 0 ≤ idxK KS k
  · rw [if_pos h1] at h; omega
  · rw [if_neg h1] at h
    refine ⟨fun hm => ?_, ?_⟩
    · obtain ⟨j, _, e, _⟩ := idxK_some hm
      omega
    · by_cases h2 : upD k = []
      · exact .inl h2
      · by_cases h3 : idxK KS (upD k) < 0
        · rw [if_pos ⟨h2, h3⟩] at h; omega
        · right
          by_cases h4 : upD k ∈ KS
          · exact h4
          · rw [idxK_no h4] at h3; omega
theorem good_put {L : List ET} (h : GoodT L) {e : ET} (he : ∃ i x, i < 256 ∧ x < 256 ∧ e = entE i x) (hu : upD (kE e) = [] ∨ upD (kE e) ∈ keysE L) : GoodT (putD L e) ∧ (putD L e).length ≤ L.length + 1 := by
  obtain ⟨A, B, hc⟩ := rise_cut L (kE e) (stands_rise h.stands)
  have hup := stands_up h.stands
  have hin : ∀ x ∈ keysE L, x ∈ keysE (A ++ e :: B) := fun x hx => by
    rw [keysE_app]
    rcases hc.all with rfl | ⟨y, hy, rfl⟩
    · rw [keysE_app, List.mem_append] at hx
      rcases hx with h | h
      · exact List.mem_append.2 (.inl h)
      · exact List.mem_append.2 (.inr (List.mem_cons_of_mem _ h))
    · rw [keysE_app, List.mem_append] at hx
      rcases hx with h | h
      · exact List.mem_append.2 (.inl h)
      · refine List.mem_append.2 (.inr ?_)
        rcases List.mem_cons.1 h with rfl | h
        · rw [hy]; exact List.mem_cons_self
        · exact List.mem_cons_of_mem _ h
  have hAB : ∀ z, z ∈ A ∨ z ∈ B → z ∈ L := fun z hz => by
    rcases hc.all with rfl | ⟨y, hy, rfl⟩
    · exact List.mem_append.2 hz
    · rcases hz with h | h
      · exact List.mem_append.2 (.inl h)
      · exact List.mem_append.2 (.inr (List.mem_cons_of_mem _ h))
  rw [hc.putD]
  refine ⟨⟨stands_of (rise_put hc (stands_rise h.stands)) fun x hx => ?_, fun z hz => ?_⟩, ?_⟩
  · obtain ⟨z, hz, rfl⟩ := List.mem_map.1 hx
    rw [List.mem_append, List.mem_cons] at hz
    have old : z ∈ A ∨ z ∈ B → upD (kE z) = [] ∨ upD (kE z) ∈ keysE (A ++ e :: B) := fun hz => by
      rcases hup (kE z) (List.mem_map_of_mem (hAB z hz)) with h | h
      · exact .inl h
      · exact .inr (hin _ h)
    rcases hz with h | rfl | h
    · exact old (.inl h)
    · rcases hu with h | h
      · exact .inl h
      · exact .inr (hin _ h)
    · exact old (.inr h)
  · rw [List.mem_append, List.mem_cons] at hz
    rcases hz with hz | rfl | hz
    · exact h.ents z (hAB z (.inl hz))
    · exact he
    · exact h.ents z (hAB z (.inr hz))
  · rcases hc.all with rfl | ⟨y, hy, rfl⟩ <;> simp <;> omega
theorem good_nil : GoodT [] := ⟨rfl, fun e he => by cases he⟩
theorem step_good {L : List ET} (h : GoodT L) {x : Nat} (hx : x < 256) : GoodT (stepT L x) ∧ (stepT L x).length ≤ L.length + 1 := by
  unfold stepT
  split
  · rename_i h0
    have hz := addC_zero h0
    have hk : kE (entE (x % 12) x) = nmE (x % 12) := by rw [ent_key, Nat.mod_mod]
    exact good_put h ⟨x % 12, x, by omega, hx, rfl⟩ (by rw [hk]; exact hz.2)
  · exact ⟨h, by omega⟩
theorem foldT_good : ∀ (J : List UInt8) (L : List ET), GoodT L → GoodT (J.foldl (fun L b => stepT L b.toNat) L) ∧ (J.foldl (fun L b => stepT L b.toNat) L).length ≤ L.length + J.length
  | [], L, h => ⟨h, by simp⟩
  | b :: J, L, h => by
    have h1 := step_good h (x := b.toNat) b.toNat_lt
    have h2 := foldT_good J _ h1.1
    refine ⟨h2.1, ?_⟩
    have := h1.2
    have := h2.2
    simp only [List.foldl_cons, List.length_cons]
    omega
theorem mkT_good (J : List UInt8) : GoodT (mkT J) ∧ (mkT J).length ≤ J.length := by
  have := foldT_good J [] good_nil
  simpa [mkT] using this
theorem ents_fine {L : List ET} (h : ∀ e ∈ L, ∃ i x, i < 256 ∧ x < 256 ∧ e = entE i x) (hl : L.length ≤ 1000) : fineE L :=
  ⟨⟨hl, fun e he => by obtain ⟨i, x, hi, hx, rfl⟩ := h e he; exact ⟨(ent_small i x hi hx).1, (ent_small i x hi hx).2.1.1⟩⟩, fun e he => by obtain ⟨i, x, hi, hx, rfl⟩ := h e he; exact (ent_small i x hi hx).2.1⟩
theorem ents_may {L : List ET} (h : ∀ e ∈ L, ∃ i x, i < 256 ∧ x < 256 ∧ e = entE i x) (hl : L.length ≤ 200) : mayE L = standsK (keysE L) :=
  may_stands hl fun i hi => by obtain ⟨j, x, hj, hx, e⟩ := h _ (List.getElem_mem hi); rw [e]; exact ent_ok j x hj hx
theorem GoodT.may {L : List ET} (h : GoodT L) (hl : L.length ≤ 200) : mayE L = true := by rw [ents_may h.ents hl]; exact h.stands
end Go.Proofs.YtpnbcmblnplbgaaGreatDoor


namespace Go.Proofs.YtpnbcmblnplbgaaGreatDoor
open Go.RowKit
set_option linter.unusedVariables false
set_option linter.unusedSimpArgs false

theorem ent_fix (i x : Nat) : nameN (entE i x).1 = (entE i x).1 ∧ sortA (normL (entE i x).2) = (entE i x).2 := by
  have h := ent_norm i x
  unfold isNE normE at h
  have h : (nameN (entE i x).1, sortA (normL (entE i x).2)) = entE i x := by simpa using h
  exact ⟨congrArg Prod.fst h, congrArg Prod.snd h⟩
theorem addEnt_any {L : List ET} (hg : GoodT L) (hl : L.length ≤ 100) {i x : Nat} (hi : i < 256) (hx : x < 256) (v : Value) (D : ByteArray) (hD : D.data.toList = (entE i x).1) (u : Value) (W : World) (h : IsE W.heap.size W L v) (hu : IsA W.heap.size W (entE i x).2 u) :
    Calls Tryz.prog 14 #[v, .agg #[.string D, u]] W fun e w' => ∃ d xa xn xc c, e = .returned (doneV d (.slice xa xn xc) c) ∧ c = addC (keysE L) (kE (entE i x)) ∧ (c = 0 → d.data.toList = (entE i x).1 ∧ ∃ B, OwnM B w' (.slice xa xn xc) (entE i x).2) ∧ Below W.heap.size W w' := by
  have h1 := ent_small i x hi hx
  have he : (D.data.toList, (entE i x).2) = entE i x := by rw [hD]
  have := add7_any L (ents_fine hg.ents (by omega)).1 (by omega) v D (by rw [← bytes_len, hD]; exact h1.1) (entE i x).2 h1.2.1.1 (by rw [hD]; exact ent_check i x hi hx) u W h hu
  rw [he, hD, (ent_fix i x).1, (ent_fix i x).2] at this
  exact this
theorem putEnt7_any {L : List ET} (hg : GoodT L) (hl : L.length ≤ 100) {i x : Nat} (hi : i < 256) (hx : x < 256) (v : Value) (hcap : capV v) (D : ByteArray) (hD : D.data.toList = (entE i x).1) (u : Value) (W : World) (h : IsE W.heap.size W L v) (hu : IsA W.heap.size W (entE i x).2 u) :
    Calls Tryz.prog 15 #[v, .agg #[.string D, u]] W fun e w' => ∃ v', e = .returned v' ∧ IsE w'.heap.size w' (putD L (entE i x)) v' ∧ capV v' ∧ Below W.heap.size W w' := by
  have h1 := ent_small i x hi hx
  have he : (D.data.toList, (entE i x).2) = entE i x := by rw [hD]
  have := putR7_any L (ents_fine hg.ents (by omega)).1 v hcap D (by rw [← bytes_len, hD]; exact h1.1) (entE i x).2 u W h hu
  rw [he] at this
  exact this
def FM (B : Nat) (T : List Fk) (L : List ET) (k x : Nat) (i : Nat) (v : Value) (w : World) : Prop := FK B T false i v w ∧
  (i = 11 → ∃ D u, v = .agg #[.string D, u] ∧ D.data.toList = (entE k x).1 ∧ IsA w.heap.size w (entE k x).2 u) ∧
  (i = 12 → ∃ d xa xn xc c, v = doneV d (.slice xa xn xc) c ∧ c = addC (keysE L) (kE (entE k x)) ∧ (c = 0 → d.data.toList = (entE k x).1 ∧ ∃ B', OwnM B' w (.slice xa xn xc) (entE k x).2)) ∧
  (i = 13 → ∃ p, v = .pointer (some ⟨p, 0, none⟩) ∧ B ≤ p ∧ DlAt w p ⟨#[]⟩ (.slice none 0 0) 0)
theorem FM.go {B : Nat} {T : List Fk} {L : List ET} {k x i : Nat} {v : Value} {w w' : World} (h : FM B T L k x i v w) (hb : Below w.heap.size w w') : FM B T L k x i v w' := by
  obtain ⟨h0, h1, h2, h3⟩ := h
  refine ⟨h0.go hb, fun e => ?_, fun e => ?_, fun e => ?_⟩
  · obtain ⟨D, u, a1, a2, a3⟩ := h1 e; exact ⟨D, u, a1, a2, a3.below hb hb.size⟩
  · obtain ⟨d, xa, xn, xc, c, a1, a2, a3⟩ := h2 e
    exact ⟨d, xa, xn, xc, c, a1, a2, fun hc => by obtain ⟨b1, B', b2⟩ := a3 hc; exact ⟨b1, B', ownM_below b2 hb⟩⟩
  · obtain ⟨p, a1, a2, a3⟩ := h3 e; exact ⟨p, a1, a2, dl_below a3 hb (dl_lt a3)⟩
theorem FM.lay {B : Nat} {T : List Fk} {L : List ET} {k x i : Nat} {v : Value} {w : World} (h : FK B T false i v w) (hi : i < 11) : FM B T L k x i v w :=
  ⟨h, fun e => by omega, fun e => by omega, fun e => by omega⟩

set_option maxRecDepth 100000 in
set_option maxHeartbeats 8000000 in
theorem tree8_any (ns : List UInt8) (b0 : Option Addr) (c0 : Nat) (w : World) (h : IsB w.heap.size w ns b0 c0) :
    Calls Tryz.prog 4 #[.slice b0 ns.length c0] w fun e w' => ∃ v, e = .returned v ∧ IsE w'.heap.size w' (mkT (ns.take 40)) v ∧ capV v ∧ Below w.heap.size w w' := by
  obtain ⟨n, hn⟩ : ∃ n, n = ns.length := ⟨_, rfl⟩
  have hmx := h.1
  rw [← hn] at hmx ⊢
  unfold maxLen at hmx
  have HN := Lib.hid hn
  have HI := Lib.hid h
  clear h hn
  go_enter Tryz.func4, Tryz.ntmps4
  go_wp2
  go_loopw [3, 4] (fun l i wr => ∃ j : Nat, j ≤ n ∧ j ≤ 40 ∧ i = .int .i64 j ∧ Hid (IsE wr.heap.size wr (mkT (ns.take j)) l ∧ capV l) ∧ Below w.heap.size w wr) (fun l i wr => 40 - (intOf i).toNat)
  case atStart => exact ⟨0, by omega, by omega, rfl, Lib.hid ⟨isE_nil _ _ 0 none, by exact ⟨rfl, rfl⟩⟩, Below.refl _ _⟩
  case round =>
    obtain ⟨j, hjn, hj40, rfl, HL, hbel⟩ := hrel
    rename World => wr
    have HBel := Lib.hid hbel
    by_cases hlt : j < n ∧ j < 40
    · obtain ⟨hj1, hj2⟩ := hlt
      have t1 : decide ((j : Int) < (n : Int)) = true := by simp; omega
      have t2 : decide ((j : Int) < (40 : Int)) = true := by simp; omega
      have u0 : (0 : Int) ≤ (j : Int) := by omega
      have u1 : (j : Int) < (n : Int) := by omega
      have hjl : j < ns.length := by rw [← HN.out]; exact hj1
      obtain ⟨x, hx⟩ : ∃ x, x = ns[j].toNat := ⟨_, rfl⟩
      have hx2 : x < 256 := by rw [hx]; exact UInt8.toNat_lt _
      obtain ⟨b, off, rfl, hb0, hcell⟩ : ∃ b off, b0 = some ⟨b, off, none⟩ ∧ b < w.heap.size ∧ w.cell? ⟨b, off + j, none⟩ = some (.int .u8 (x : Int)) := by
        rcases HI.out.2 with e | ⟨b, off, e, hb, hc⟩
        · rw [e] at hjl; simp at hjl
        · exact ⟨b, off, e, hb, by rw [hx]; exact hc j hjl⟩
      have d0 : wr.cell? ⟨b, off + j, none⟩ = some (.int .u8 (x : Int)) := (hbel.cell (p := ⟨b, off + j, none⟩) hb0).trans hcell
      have hbw : b < wr.heap.size := Nat.lt_of_lt_of_le hb0 hbel.size
      obtain ⟨k, hk⟩ : ∃ k, k = x % 12 := ⟨_, rfl⟩
      have hk2 : k < 12 := by omega
      have hm12 : (x : Int).tmod 12 = (k : Int) := by rw [Int.tmod_eq_emod_of_nonneg (by omega)]; omega
      have hw8 : IntKind.i64.wrap (x : Int) = (x : Int) := IntWalk.i64_in _ (by omega)
      obtain ⟨L, hL⟩ : ∃ L, L = mkT (ns.take j) := ⟨_, rfl⟩
      have hgd := mkT_good (ns.take j)
      have hst : mkT (ns.take (j + 1)) = stepT L x := by
        rw [hL, hx, List.take_succ_eq_append_getElem hjl, mkT_snoc]
      rw [← hL] at HL hgd
      have hl40 : L.length ≤ 100 := by have := hgd.2; rw [List.length_take] at this; omega
      have HSt := Lib.hid hst
      have HEn := Lib.hid (fun (W : World) => entry8_any k x (by omega) hx2 W)
      have HAd := Lib.hid (fun (D : ByteArray) (hD : D.data.toList = (entE k x).1) (u : Value) (W : World) (h : IsE W.heap.size W L u3) (hu : IsA W.heap.size W (entE k x).2 u) => addEnt_any hgd.1 hl40 (by omega) hx2 u3 D hD u W h hu)
      have HPu := Lib.hid (fun (D : ByteArray) (hD : D.data.toList = (entE k x).1) (u : Value) (W : World) (h : IsE W.heap.size W L u3) (hu : IsA W.heap.size W (entE k x).2 u) => putEnt7_any hgd.1 hl40 (by omega) hx2 u3 HL.out.2 D hD u W h hu)
      have HSm : Hid ((entE k x).2.length ≤ 20) := Lib.hid (ent_small k x (by omega) hx2).2.2
      have HK : Hid (kE (entE k x) = nmE (x % 12) ∧ k = x % 12) := Lib.hid ⟨by rw [ent_key, hk, Nat.mod_mod], hk⟩
      clear hL hst hgd hcell hx hjl hk
      go_upto_region 5 with fail
      refine region_factsB (by kernel_rfl) (FM wr.heap.size [.is (u3), .is (.slice (some ⟨b, off, none⟩) n c0), .is (.int .i64 (j : Int)), .is (.pointer (some ⟨b, off + j, none⟩)), .is (.int .u8 (x : Int)), .is (.int .i64 (x : Int)), .is (.int .i64 (k : Int)), .is (.slice (some ⟨b, off, none⟩) n c0), .is (.int .i64 (j : Int)), .is (.pointer (some ⟨b, off + j, none⟩)), .is (.int .u8 (x : Int))] L k x) (fun w w' => Below w.heap.size w w') (fun _ _ _ _ h hb => h.go hb) (fun _ _ _ h1 h2 => bthen h1 h2) (Below.refl _ _).drew (by kernel_rfl) rfl ?hs ?hl
      case hs =>
        intro listed a W hk i o ho hi hc
        have e0 := hk.read (t := 0) (by kernel_rfl) rfl
        have e3 := hk.read (t := 3) (by kernel_rfl) rfl
        have e4 := hk.read (t := 4) (by kernel_rfl) rfl
        have hgr : Below wr.heap.size wr W := hk.grown
        match i, hi with
        | 0, _ =>
          obtain rfl := Option.some.inj ho
          exact wpOp_val rfl rfl (v := u3) (w' := W) (by simp [go_sem, e3]) ⟨_, _, rfl, rfl, Below.refl _ _, FM.lay rfl (by decide)⟩
        | 1, _ =>
          obtain rfl := Option.some.inj ho
          exact wpOp_val rfl rfl (v := .slice (some ⟨b, off, none⟩) n c0) (w' := W) (by simp [go_sem, e0]) ⟨_, _, rfl, rfl, Below.refl _ _, FM.lay rfl (by decide)⟩
        | 2, _ =>
          obtain rfl := Option.some.inj ho
          exact wpOp_val rfl rfl (v := .int .i64 (j : Int)) (w' := W) (by simp [go_sem, e4]) ⟨_, _, rfl, rfl, Below.refl _ _, FM.lay rfl (by decide)⟩
        | 3, _ =>
          obtain rfl := Option.some.inj ho
          obtain ⟨v1, g1, f1⟩ := hk.got (j := 1) rfl rfl (hc ⟨1, .data⟩ (by simp) rfl)
          obtain rfl : v1 = _ := f1.1
          obtain ⟨v2, g2, f2⟩ := hk.got (j := 2) rfl rfl (hc ⟨2, .data⟩ (by simp) rfl)
          obtain rfl : v2 = _ := f2.1
          exact wpOp_val rfl rfl (v := .pointer (some ⟨b, off + j, none⟩)) (w' := W) (by simp [go_sem, g1, g2, u0, u1]) ⟨_, _, rfl, rfl, Below.refl _ _, FM.lay rfl (by decide)⟩
        | 4, _ =>
          obtain rfl := Option.some.inj ho
          obtain ⟨v3, g3, f3⟩ := hk.got (j := 3) rfl rfl (hc ⟨3, .data⟩ (by simp) rfl)
          obtain rfl : v3 = _ := f3.1
          have d := (hgr.cell (p := ⟨b, off + j, none⟩) hbw).trans d0
          exact wpOp_val rfl rfl (v := .int .u8 (x : Int)) (w' := W) (by simp [go_sem, g3, d]) ⟨_, _, rfl, rfl, Below.refl _ _, FM.lay rfl (by decide)⟩
        | 5, _ =>
          obtain rfl := Option.some.inj ho
          obtain ⟨v4, g4, f4⟩ := hk.got (j := 4) rfl rfl (hc ⟨4, .data⟩ (by simp) rfl)
          obtain rfl : v4 = _ := f4.1
          exact wpOp_val rfl rfl (v := .int .i64 (x : Int)) (w' := W) (by simp [go_sem, g4, hw8]) ⟨_, _, rfl, rfl, Below.refl _ _, FM.lay rfl (by decide)⟩
        | 6, _ =>
          obtain rfl := Option.some.inj ho
          obtain ⟨v5, g5, f5⟩ := hk.got (j := 5) rfl rfl (hc ⟨5, .data⟩ (by simp) rfl)
          obtain rfl : v5 = _ := f5.1
          exact wpOp_val rfl rfl (v := .int .i64 (k : Int)) (w' := W) (by simp [go_sem, g5, hm12]) ⟨_, _, rfl, rfl, Below.refl _ _, FM.lay rfl (by decide)⟩
        | 7, _ =>
          obtain rfl := Option.some.inj ho
          exact wpOp_val rfl rfl (v := .slice (some ⟨b, off, none⟩) n c0) (w' := W) (by simp [go_sem, e0]) ⟨_, _, rfl, rfl, Below.refl _ _, FM.lay rfl (by decide)⟩
        | 8, _ =>
          obtain rfl := Option.some.inj ho
          exact wpOp_val rfl rfl (v := .int .i64 (j : Int)) (w' := W) (by simp [go_sem, e4]) ⟨_, _, rfl, rfl, Below.refl _ _, FM.lay rfl (by decide)⟩
        | 9, _ =>
          obtain rfl := Option.some.inj ho
          obtain ⟨v7, g7, f7⟩ := hk.got (j := 7) rfl rfl (hc ⟨7, .data⟩ (by simp) rfl)
          obtain rfl : v7 = _ := f7.1
          obtain ⟨v8, g8, f8⟩ := hk.got (j := 8) rfl rfl (hc ⟨8, .data⟩ (by simp) rfl)
          obtain rfl : v8 = _ := f8.1
          exact wpOp_val rfl rfl (v := .pointer (some ⟨b, off + j, none⟩)) (w' := W) (by simp [go_sem, g7, g8, u0, u1]) ⟨_, _, rfl, rfl, Below.refl _ _, FM.lay rfl (by decide)⟩
        | 10, _ =>
          obtain rfl := Option.some.inj ho
          obtain ⟨v9, g9, f9⟩ := hk.got (j := 9) rfl rfl (hc ⟨9, .data⟩ (by simp) rfl)
          obtain rfl : v9 = _ := f9.1
          have d := (hgr.cell (p := ⟨b, off + j, none⟩) hbw).trans d0
          exact wpOp_val rfl rfl (v := .int .u8 (x : Int)) (w' := W) (by simp [go_sem, g9, d]) ⟨_, _, rfl, rfl, Below.refl _ _, FM.lay rfl (by decide)⟩
        | 11, _ =>
          obtain rfl := Option.some.inj ho
          obtain ⟨v6, g6, f6⟩ := hk.got (j := 6) rfl rfl (hc ⟨6, .data⟩ (by simp) rfl)
          obtain rfl : v6 = _ := f6.1
          obtain ⟨v10, g10, f10⟩ := hk.got (j := 10) rfl rfl (hc ⟨10, .data⟩ (by simp) rfl)
          obtain rfl : v10 = _ := f10.1
          refine wpOp_call rfl rfl (f := 5) (args := #[.int .i64 (k : Int), .int .u8 (x : Int)]) (by simp [go_sem, g6, g10]) ((HEn.out W).mono ?_)
          rintro e w2 ⟨D, u, rfl, hD, hu, hb2⟩
          exact ⟨_, rfl, _, _, rfl, rfl, hb2, ⟨trivial, fun _ => ⟨D, u, rfl, hD, hu⟩, fun h => absurd h (by decide), fun h => absurd h (by decide)⟩⟩
        | 12, _ =>
          obtain rfl := Option.some.inj ho
          obtain ⟨v0, g0, f0⟩ := hk.got (j := 0) rfl rfl (hc ⟨0, .data⟩ (by simp) rfl)
          have e00 : v0 = u3 := f0.1
          rw [e00] at g0
          obtain ⟨v11, g11, f11⟩ := hk.got (j := 11) rfl rfl (hc ⟨11, .data⟩ (by simp) rfl)
          obtain ⟨D, u, rfl, hD, hu⟩ := f11.2.1 rfl
          refine wpOp_call rfl rfl (f := 14) (args := #[u3, .agg #[.string D, u]]) (by simp [go_sem, g0, g11]) ((HAd.out D hD u W (HL.out.1.below hgr hgr.size) hu).mono ?_)
          rintro e w2 ⟨d, xa, xn, xc, c, rfl, hcc, h0, hb2⟩
          exact ⟨_, rfl, _, _, rfl, rfl, hb2, ⟨trivial, fun h => absurd h (by decide), fun _ => ⟨d, xa, xn, xc, c, rfl, hcc, h0⟩, fun h => absurd h (by decide)⟩⟩
        | 13, _ =>
          obtain rfl := Option.some.inj ho
          exact wpOp_val rfl rfl (v := .pointer (some ⟨W.heap.size, 0, none⟩)) (w' := W.alloc zD) (by simp [go_sem]) ⟨_, _, rfl, rfl, (Below.refl _ _).alloc (Nat.le_refl _) _, ⟨trivial, fun h => absurd h (by decide), fun h => absurd h (by decide), fun _ => ⟨W.heap.size, rfl, hgr.size, heap_alloc_new W _⟩⟩⟩
        | m + 14, h => exact absurd h (by simp)
      case hl =>
        intro listed a W hk hall
        obtain ⟨v12, g12, f12⟩ := hk.got (j := 12) rfl rfl (hall 12 (by simp))
        obtain ⟨v13, g13, f13⟩ := hk.got (j := 13) rfl rfl (hall 13 (by simp))
        obtain ⟨d, xa, xn, xc, c, rfl, hcc, hc0⟩ := f12.2.2.1 rfl
        obtain ⟨p, rfl, hpB, hpx⟩ := f13.2.2.2 rfl
        obtain ⟨c0, c1, c2, c3, c4, c5⟩ := dl_cells hpx
        obtain ⟨f0, f1, f2, f3, f4, f5⟩ := dl_frozen hpx
        have hgr : Below wr.heap.size wr W := hk.grown
        have hput := hk.puts
        have hnew := dl_set hpx d (.slice xa xn xc) c
        have hbl := dl_setB hgr hpB d (.slice xa xn xc) c
        have hown : c = 0 → d.data.toList = (entE k x).1 ∧ IsA (set6D W p d (.slice xa xn xc) c).heap.size (set6D W p d (.slice xa xn xc) c) (entE k x).2 (.slice xa xn xc) := fun e => by
          obtain ⟨h1, B, h2⟩ := hc0 e
          exact ⟨h1, ownM_isA (ownM_dl h2 hpx d (.slice xa xn xc) c) (by have := HSm.out; unfold maxLen; omega)⟩
        refine wpOp_skip rfl rfl (w' := set6D W p d (.slice xa xn xc) c) (by simp [go_sem, set6D, g12, g13, c0, c1, c2, c3, c4, c5, f0, f1, f2, f3, f4, f5]) ?_
        rw [hput]
        simp only [putT, g13]
        generalize a.tmps[16]?.getD undef = x16
        generalize a.tmps[17]?.getD undef = x17
        generalize a.tmps[18]?.getD undef = x18
        generalize a.tmps[19]?.getD undef = x19
        generalize a.tmps[20]?.getD undef = x20
        generalize a.tmps[21]?.getD undef = x21
        generalize a.tmps[22]?.getD undef = x22
        generalize a.tmps[23]?.getD undef = x23
        generalize a.tmps[24]?.getD undef = x24
        generalize a.tmps[25]?.getD undef = x25
        generalize a.tmps[26]?.getD undef = x26
        generalize a.tmps[27]?.getD undef = x27
        generalize a.tmps[28]?.getD undef = x28
        obtain ⟨W8, hW8⟩ : ∃ X, X = set6D W p d (.slice xa xn xc) c := ⟨_, rfl⟩
        rw [← hW8] at hnew hbl hown ⊢
        obtain ⟨z0, z1, z2, z3, z4, z5⟩ := dl_cells hnew
        have HOw := Lib.hid hown
        have HCc := Lib.hid hcc
        have HB8 := Lib.hid (bthen HBel.out hbl)
        have HL8 := Lib.hid (HL.out.1.below hbl hbl.size)
        clear hnew hbl hown hcc hc0 hput hk hall hpx hgr g12 g13 f12 f13 c0 c1 c2 c3 c4 c5 f0 f1 f2 f3 f4 f5 hW8 hbel d0
        by_cases hz : c = 0
        · have hst : stepT L x = putD L (entE k x) := by
            unfold stepT
            rw [← HK.out.1, ← HCc.out, if_pos hz, ← HK.out.2]
          have HS2 := Lib.hid (HSt.out.trans hst)
          have HOw2 := Lib.hid (HOw.out hz)
          have y5 : (c == 0) = true := by simpa using hz
          have y6 : decide (c = 0) = true := by simpa using hz
          clear hst
          go_simp
          go_wp2_with (go_at_call 15; refine (HPu.out d HOw2.out.1 _ _ HL8.out HOw2.out.2).mono ?_; rintro e w9 ⟨v9, rfl, hi9, hc9, hb9⟩; have HB9 := Lib.hid (bthen HB8.out hb9); have HL9 := Lib.hid (And.intro hi9 hc9); clear hi9 hc9 hb9)
          go_roundw
          case rel => exact ⟨j + 1, by omega, by omega, by go_num, Lib.hid (by rw [HS2.out]; exact HL9.out), HB9.out⟩
          case measure => simp [intOf]; omega
        · have hst : stepT L x = L := by
            unfold stepT
            rw [← HK.out.1, ← HCc.out, if_neg hz]
          have HS2 := Lib.hid (HSt.out.trans hst)
          have y5 : (c == 0) = false := by simpa using hz
          have y6 : decide (c = 0) = false := by simpa using hz
          clear hst
          go_simp
          go_wp2_with fail
          go_roundw
          case rel => exact ⟨j + 1, by omega, by omega, by go_num, Lib.hid (by rw [HS2.out]; exact ⟨HL8.out, HL.out.2⟩), HB8.out⟩
          case measure => simp [intOf]; omega
    · have HF : Hid (mkT (ns.take 40) = mkT (ns.take j)) := Lib.hid (by
        by_cases h40 : j = 40
        · rw [h40]
        · have : j = n := by omega
          rw [List.take_of_length_le (by rw [← HN.out]; omega), List.take_of_length_le (by rw [← HN.out]; omega)])
      by_cases h1 : j < n
      · obtain rfl : j = 40 := by omega
        have t1 : decide (((40 : Nat) : Int) < (n : Int)) = true := by simp; omega
        have t2 : decide ((40 : Int) < (n : Int)) = true := by simp; omega
        have t3 : decide ((40 : Int) < (40 : Int)) = false := by simp
        clear hbel
        go_wp2
        go_ret
        exact ⟨_, rfl, by first | exact HL.out.1 | (rw [HF.out]; exact HL.out.1), HL.out.2, HBel.out⟩
      · obtain rfl : j = n := by omega
        have t1 : decide ((j : Int) < (j : Int)) = false := by simp
        clear hbel
        go_wp2
        go_ret
        exact ⟨_, rfl, by first | exact HL.out.1 | (rw [HF.out]; exact HL.out.1), HL.out.2, HBel.out⟩
end Go.Proofs.YtpnbcmblnplbgaaGreatDoor


namespace Go.Proofs.YtpnbcmblnplbgaaGreatDoor
set_option linter.unusedVariables false

def ns8 : List UInt8 := [0, 2, 0, 3, 0, 0]
def cn8 : List UInt8 := [99, 110, 61, 110, 48]
end Go.Proofs.YtpnbcmblnplbgaaGreatDoor


namespace Go.Proofs.YtpnbcmblnplbgaaGreatDoor
open Go.RowKit
set_option linter.unusedVariables false

def nonA (L : List AT) : Prop := ∀ a ∈ L, a.2 ≠ []
theorem nonA.app {L M : List AT} (h : nonA L) (hm : nonA M) : nonA (L ++ M) := fun a ha => (List.mem_append.1 ha).elim (h a) (hm a)
end Go.Proofs.YtpnbcmblnplbgaaGreatDoor


namespace Go.Proofs.YtpnbcmblnplbgaaGreatDoor
open Go.RowKit
set_option linter.unusedVariables false
set_option linter.unusedSimpArgs false

def okB (t : List UInt8) (A : List (List UInt8)) : Bool :=
  !A.isEmpty && A.all fun v => A.any (likeB t v) && (ruleD t != 1 || A.any (likeB t ([32] ++ upL v ++ [32]))) && (ruleD t != 4 || (A.any (likeB t (upL v)) == (upL v == v))) && !A.any (likeB t (v ++ [33, 33]))
def tysT : List (List (List UInt8)) :=
  let c : List UInt8 := [99, 110]; let o := objB; let s : List UInt8 := [115, 110]; let m : List UInt8 := [109, 97, 105, 108]; let d : List UInt8 := [68, 101, 115, 99, 114, 105, 112, 116, 105, 111, 110]
  let u : List UInt8 := [117, 105, 100]; let n : List UInt8 := [117, 105, 100, 78, 117, 109, 98, 101, 114]; let p : List UInt8 := [117, 115, 101, 114, 80, 97, 115, 115, 119, 111, 114, 100]
  [[c, o, s], [c, o, s, m], [c, o, s, d], [c, o, s, u, n], [c, o, s, m, u, n], [c, o, s, d, u, n], [c, o, s, p], [c, o, s, m, p], [c, o, s, d, p]]
def mkE (ns : List UInt8) : List AT := sortA (normL (mkLd ns))
end Go.Proofs.YtpnbcmblnplbgaaGreatDoor


namespace Go.Proofs.YtpnbcmblnplbgaaGreatDoor
open Go.RowKit
set_option linter.unusedVariables false

end Go.Proofs.YtpnbcmblnplbgaaGreatDoor

