/- filter.holder: the walk. -/
import Derived.Test.YtdcfmgnpjmpboaaDoorFiNext
namespace Go.Proofs.YtdcfmgnpjmpboaaDoor
open Go.RowKit
set_option linter.unusedVariables false
set_option linter.unusedSimpArgs false

theorem ownF_grown {B g : Nat} {w w' : World} {v : Value} {l : List FT} (h : OwnF B w v l) (hg : w.grownBy w' (some g)) (hB : g < B) : OwnF B w' v l := by
  obtain ⟨xs, h1, h2⟩ := h
  refine ⟨xs, h1.imp (fun b hb => ⟨hb.1, Nat.lt_of_lt_of_le hb.2.1 hg.size, hb.2.2⟩) (fun b o hb => ?_), World.ownsRow.kept h2 hg ?_⟩
  · unfold World.cell?
    rw [hg.block b hb.2.1 (fun e => by have := Option.some.inj e; have := hb.1; omega)]
  · rcases h2.2 with ⟨rfl, _⟩ | ⟨c, cap, cur, rfl, hc, _⟩
    · exact .inl rfl
    · right
      intro e
      have : c = g := by simpa [Value.ownBlock] using e
      omega
theorem wpList_append_F {ops : Array Oper} {rest : List Oper} {o : Oper} {a : Act} {w : World} {Q : Exit → Act → World → Prop} (hgd : o.guard = none) (sl x : Operand)
    (ho : o.op = .call { callee := .builtin .append, args := #[sl, x], argTypes := #[23, 23] })
    (B c : Nat) (v : Value) (l : List FT) (hs : a.eval sl = v) (hown : OwnF B w v l) (hB : B ≤ w.heap.size) {f : FT} {x0 x1 x2 x3 x4 : Value} (hf : IsFl (NewB B w v.ownBlock) w f (.agg #[x0, x1, x2, x3, x4]))
    (hc : w.heap[c]? = some (.cells #[x0, x1, x2, x3, x4] 25 (0, 0))) (hx : a.eval x = .slice (some ⟨c, 0, none⟩) 1 1) (hlen : l.length ≤ 1000)
    (h : ∀ v' w', OwnF B w' v' (l ++ [f]) → Below B w w' → wpList Tryd.prog ops Q rest (a.put o.dst v') w') : wpList Tryd.prog ops Q (o :: rest) a w := by
  refine wpList_plain hgd fun K hK => ?_
  obtain ⟨v', w', hr, h2, h3, _⟩ := run_append_F hown hB hf hc hlen o.type
  unfold Oper.wp execOp
  simp only [ho, resolve, invoke, builtin, Sem.run_bind, Sem.run_pure, Result.andThen_ok, List.map_toArray, List.map_cons, List.map_nil, hs, hx, hr]
  exact hK _ _ (h v' w' h2 h3)
theorem kidsC_le {k : Int} {n : Nat} (h : kidsC k n = true) : n ≤ 40 := by
  unfold kidsC at h
  split at h
  · simp only [decide_eq_true_eq] at h; omega
  · simpa using h
/-- What is still to be read tells the same as all did. -/
def KidsInv (D : List UInt8 → Option (FT × List UInt8)) (k : Int) (s : List UInt8) (L : List FT) (q : List UInt8) : Prop :=
  ∃ fu, q.length < fu ∧ kidsD D k (s.length + 1) 0 s = (kidsD D k fu L.length q).map fun x => (L ++ x.1, x.2)
theorem kidsInv_start (D : List UInt8 → Option (FT × List UInt8)) (k : Int) (s : List UInt8) : KidsInv D k s [] s :=
  ⟨s.length + 1, Nat.lt_succ_self _, by
    show _ = (kidsD D k (s.length + 1) 0 s).map _
    cases kidsD D k (s.length + 1) 0 s <;> rfl⟩
theorem kidsInv_step {D : List UInt8 → Option (FT × List UInt8)} {k : Int} {s : List UInt8} {L : List FT} {q r : List UInt8} {f : FT} (h : KidsInv D k s L q) (h41 : ¬ q.head? = some 41) (hd : D q = some (f, r)) (hl : r.length < q.length) (hk : kidsC k (L.length + 1) = true) : KidsInv D k s (L ++ [f]) r := by
  obtain ⟨fu, hfu, e⟩ := h
  match fu, hfu with
  | fu + 1, hfu =>
    refine ⟨fu, by omega, e.trans ?_⟩
    show ((if q.head? = some 41 then some ([], q) else match D q with
      | none => none
      | some (f, r) => if kidsC k (L.length + 1) then (kidsD D k fu (L.length + 1) r).map fun x => (f :: x.1, x.2) else none)).map _ = _
    rw [if_neg h41, hd]
    show (if kidsC k (L.length + 1) then (kidsD D k fu (L.length + 1) r).map fun x => (f :: x.1, x.2) else none).map _ = _
    rw [if_pos hk, List.length_append]
    show _ = (kidsD D k fu (L.length + 1) r).map _
    cases kidsD D k fu (L.length + 1) r with
    | none => rfl
    | some x => simp
theorem kidsInv_none {D : List UInt8 → Option (FT × List UInt8)} {k : Int} {s : List UInt8} {L : List FT} {q : List UInt8} (h : KidsInv D k s L q) (h41 : ¬ q.head? = some 41) (hd : D q = none) : holdD D k s = none := by
  obtain ⟨fu, hfu, e⟩ := h
  match fu, hfu with
  | fu + 1, hfu =>
    have e1 : kidsD D k (fu + 1) L.length q = none := by
      show (if q.head? = some 41 then some ([], q) else match D q with
        | none => none
        | some (f, r) => if kidsC k (L.length + 1) then (kidsD D k fu (L.length + 1) r).map fun x => (f :: x.1, x.2) else none) = none
      rw [if_neg h41, hd]
    rw [e1] at e
    unfold holdD
    rw [e]
    rfl
theorem kidsInv_many {D : List UInt8 → Option (FT × List UInt8)} {k : Int} {s : List UInt8} {L : List FT} {q r : List UInt8} {f : FT} (h : KidsInv D k s L q) (h41 : ¬ q.head? = some 41) (hd : D q = some (f, r)) (hk : kidsC k (L.length + 1) = false) : holdD D k s = none := by
  obtain ⟨fu, hfu, e⟩ := h
  match fu, hfu with
  | fu + 1, hfu =>
    have e1 : kidsD D k (fu + 1) L.length q = none := by
      show (if q.head? = some 41 then some ([], q) else match D q with
        | none => none
        | some (f, r) => if kidsC k (L.length + 1) then (kidsD D k fu (L.length + 1) r).map fun x => (f :: x.1, x.2) else none) = none
      rw [if_neg h41, hd]
      show (if kidsC k (L.length + 1) then (kidsD D k fu (L.length + 1) r).map fun x => (f :: x.1, x.2) else none) = none
      rw [hk]
      rfl
    rw [e1] at e
    unfold holdD
    rw [e]
    rfl
theorem kidsInv_end {D : List UInt8 → Option (FT × List UInt8)} {k : Int} {s : List UInt8} {L : List FT} {q : List UInt8} (h : KidsInv D k s L q) (h41 : q.head? = some 41) : holdD D k s = if kidsC k L.length then some (.mk k [] [] [] L, q.drop 1) else none := by
  obtain ⟨fu, hfu, e⟩ := h
  match fu, hfu with
  | fu + 1, hfu =>
    have e1 : kidsD D k (fu + 1) L.length q = some ([], q) := by
      show (if q.head? = some 41 then some ([], q) else match D q with
        | none => none
        | some (f, r) => if kidsC k (L.length + 1) then (kidsD D k fu (L.length + 1) r).map fun x => (f :: x.1, x.2) else none) = _
      rw [if_pos h41]
    rw [e1] at e
    unfold holdD
    rw [e]
    simp
theorem pre41 (l : List UInt8) : Lib.hasPrefix l [41] = true ↔ l.head? = some 41 := by
  cases l with
  | nil => simp [Lib.hasPrefix]
  | cons c r =>
    show ((41 == c && List.isPrefixOf [] r) = true) ↔ some c = some 41
    rw [Bool.and_eq_true, beq_iff_eq]
    constructor
    · rintro ⟨rfl, _⟩; rfl
    · intro h; cases h; exact ⟨rfl, rfl⟩
theorem below_grown {n g : Nat} {w w' : World} (h : w.grownBy w' (some g)) (hn : n ≤ g) (hw : n ≤ w.heap.size) : Below n w w' :=
  { size := h.size, block := fun k hk => h.block k (Nat.lt_of_lt_of_le hk hw) (fun e => by have := Option.some.inj e; omega), os := h.os, tape := h.tape, output := h.output }
def rdLen (w : World) (g : Nat) : Nat := match w.cell? ⟨g, 0, none⟩ with
  | some (.string r) => r.size
  | _ => 0
theorem rdLen_at {w : World} {g : Nat} {r : ByteArray} {above n : Nat} (h : RdAt w g r above n) : rdLen w g = r.size := by
  unfold rdLen
  rw [(rd_cells h).1]
set_option maxRecDepth 100000 in
set_option maxHeartbeats 8000000 in
theorem holderFl_any {above : Nat} {D : List UInt8 → Option (FT × List UInt8)} (H : HeadIs (above + 1) D) (hD : ∀ q f r, D q = some (f, r) → r.length < q.length ∧ ∀ c ∈ r, c ∈ q) (k : Int) (hk : (Lit.int .i64 k).wf = true) (hab : above ≤ 100)
    (s : ByteArray) (hs : s.size ≤ 1000000) (ha : ascii s.data.toList) (w : World) :
    Calls Tryd.prog 32 #[.int .i64 k, .string s, .int .i64 above] w fun e w' => ∃ x r b, e = .returned (.tuple #[x, .string r, .bool b]) ∧ HdV w.heap.size w' (holdD D k s.data.toList) x r b ∧ Below w.heap.size w w' := by
  obtain ⟨W0, hW0⟩ : ∃ W, W = w.alloc zF := ⟨_, rfl⟩
  obtain ⟨W1, hW1⟩ : ∃ W, W = W0.alloc (.cells #[.string s, .int .i64 ((above : Int) + 1), .int .i64 0] 83) := ⟨_, rfl⟩
  have hb0 : Below w.heap.size w W0 := by rw [hW0]; exact box5 w _ _ _ _ _
  have hx0 : FzAt W0 w.heap.size := by rw [hW0]; exact heap_alloc_new w _
  have hsz0 : W0.heap.size = w.heap.size + 1 := by rw [hW0]; simp only [World.alloc, Array.size_push]
  have hb1 : Below W0.heap.size W0 W1 := by rw [hW1]; exact (Below.refl _ _).alloc (Nat.le_refl _) _
  have hr1 : RdAt W1 W0.heap.size s (above + 1) 0 := by
    show W1.heap[W0.heap.size]? = some (.cells #[.string s, .int .i64 ((above + 1 : Nat) : Int), .int .i64 ((0 : Nat) : Int)] 83 (0, 0))
    rw [hW1, show ((above + 1 : Nat) : Int) = (above : Int) + 1 from by omega]
    exact heap_alloc_new W0 _
  obtain ⟨g, hg⟩ : ∃ g, g = W0.heap.size := ⟨_, rfl⟩
  have HB1 := Lib.hid (bthen hb0 hb1)
  have HX1 := Lib.hid (fl_below hx0 hb1 (fl_lt hx0))
  have HR1 : Hid (RdAt W1 g s (above + 1) 0) := Lib.hid (by rw [hg]; exact hr1)
  have HG : Hid (g = w.heap.size + 1) := Lib.hid (by rw [hg]; exact hsz0)
  have HGi := Lib.hid hg.symm
  have HW0 := Lib.hid hW0.symm
  have HW1 := Lib.hid hW1.symm
  obtain ⟨l, hl⟩ : ∃ l, l = s.data.toList := ⟨_, rfl⟩
  have HInv0 : Hid (KidsInv D k l [] s.data.toList) := Lib.hid (by rw [← hl]; exact kidsInv_start D k l)
  have HAs := Lib.hid ha
  have HSs := Lib.hid hs
  have HK := Lib.hid hk
  have HDs := Lib.hid hD
  have HNx := Lib.hid (fun (n : Nat) (r : ByteArray) hr ha hn (w : World) h => nextFl_any H g n r hr ha hn w h)
  have ew : IntKind.i64.wrap ((above : Int) + 1) = (above : Int) + 1 := IntWalk.i64_in _ (by omega)
  rw [← hl]
  clear hW0 hW1 hb0 hx0 hsz0 hb1 hr1 hg ha hs hk hD H hl
  go_enter Tryd.func32, Tryd.ntmps32
  go_upto_region 1 with (fail)
  rw [HW0.out]
  go_wp2
  rw [HW1.out, HGi.out]
  go_loopw [10] (fun v wr => ∃ (L : List FT) (q : ByteArray), Hid (OwnF (g + 1) wr v L) ∧ Hid (RdAt wr g q (above + 1) L.length) ∧ Hid (FzAt wr w.heap.size) ∧ Hid (Below w.heap.size w wr) ∧ Hid (KidsInv D k l L q.data.toList) ∧ Hid (q.size ≤ 1000000 ∧ ascii q.data.toList ∧ L.length ≤ 40)) (fun _ wr => rdLen wr g)
  case atStart => exact ⟨[], s, Lib.hid (ownF_nil _ _), HR1, HX1, HB1, HInv0, Lib.hid ⟨HSs.out, HAs.out, Nat.zero_le _⟩⟩
  case round =>
    obtain ⟨L, q, HO, HR, HX, HB, HI, HQ⟩ := hrel
    rename World => wr
    have hrr := HR.out
    obtain ⟨r0, r1, r2⟩ := rd_cells hrr
    have hpx := fun W => Tryd.strings_HasPrefix q ⟨#[41]⟩ W
    by_cases h41 : q.data.toList.head? = some 41
    · rw [show Lib.hasPrefix q.data.toList (⟨#[41]⟩ : ByteArray).data.toList = true from (pre41 _).2 h41] at hpx
      have HP := Lib.hid hpx
      have HH := Lib.hid (kidsInv_end HI.out h41)
      have HCt := Lib.hid (countFl_any g L.length (above + 1) q wr HR.out)
      have HMk := Lib.hid (fun W => mayKids_any k L.length W)
      clear hpx
      cases hkc : kidsC k L.length with
      | false =>
        rw [hkc] at HMk HH
        clear hkc hrr
        have hfz := HX.out
        obtain ⟨c0, c1, c2, c3, c4⟩ := fl_cells hfz
        obtain ⟨f0, f1, f2, f3, f4⟩ := fl_frozen hfz
        obtain ⟨z0, z1, z2, z3, z4⟩ := fl_cells (fl_set hfz (.int .i64 0) (.string ⟨#[]⟩) (.string ⟨#[]⟩) (.slice none 0 0) (.slice none 0 0))
        unfold set5F at z0 z1 z2 z3 z4
        clear hfz
        go_wp2_with (first
          | (go_at_call 45; refine (HP.out _).mono ?_; rintro e w2 ⟨rfl, hw⟩; replace hw := hw.symm; subst hw)
          | (go_at_call 47; refine (HCt.out).mono ?_; rintro e w2 ⟨rfl, hw⟩; replace hw := hw.symm; subst hw)
          | (go_at_call 39; refine (HMk.out _).mono ?_; rintro e w2 ⟨rfl, rfl⟩))
        have hbz := fl_setB HB.out (Nat.le_refl w.heap.size) (.int .i64 0) (.string ⟨#[]⟩) (.string ⟨#[]⟩) (.slice none 0 0) (.slice none 0 0)
        refine bodyPost_ret (v := .tuple #[.agg #[.int .i64 0, .string ⟨#[]⟩, .string ⟨#[]⟩, .slice none 0 0, .slice none 0 0], .string ⟨#[]⟩, .bool false]) (by simp [results, Tryd.results32, go_sem, z0, z1, z2, z3, z4]) rfl ⟨_, _, _, rfl, ?_, hbz⟩
        rw [HH.out]
        exact ⟨rfl, rfl⟩
      | true =>
        rw [hkc] at HMk HH
        rw [if_pos rfl] at HH
        have hq1 : 1 ≤ q.size := by
          rw [← bytes_len]
          cases hqq : q.data.toList with
          | nil => rw [hqq] at h41; cases h41
          | cons c r => simp
        obtain ⟨va, vc, hv, hfls⟩ := ownF_done HO.out
        subst hv
        have HFs := Lib.hid hfls
        have HQ1 := Lib.hid hq1
        clear hkc hrr hfls
        go_upto_region 10 with (first
          | (go_at_call 45; refine (HP.out _).mono ?_; rintro e w2 ⟨rfl, hw⟩; replace hw := hw.symm; subst hw)
          | (go_at_call 47; refine (HCt.out).mono ?_; rintro e w2 ⟨rfl, hw⟩; replace hw := hw.symm; subst hw)
          | (go_at_call 39; refine (HMk.out _).mono ?_; rintro e w2 ⟨rfl, rfl⟩))
        have g0 : (0 : Int) ≤ (1 : Int) := by omega
        have g1 : (1 : Int) ≤ (q.size : Int) := by omega
        have g2 : 1 ≤ q.size := hq1
        have hfz := HX.out
        obtain ⟨c0, c1, c2, c3, c4⟩ := fl_cells hfz
        obtain ⟨f0, f1, f2, f3, f4⟩ := fl_frozen hfz
        have hgw : w.heap.size ≠ g := by have := HG.out; omega
        have hgw' : g ≠ w.heap.size := hgw.symm
        have r0s : (wr.setCell ⟨w.heap.size, 0, none⟩ (.int .i64 k)).cell? ⟨g, 0, none⟩ = some (.string q) := by
          rw [← r0]
          unfold World.cell?
          rw [blockFl_ne wr ⟨w.heap.size, 0, none⟩ _ hgw']
        go_region
        obtain ⟨z0, z1, z2, z3, z4⟩ := fl_cells (fl_set hfz (.int .i64 k) (.string ⟨#[]⟩) (.string ⟨#[]⟩) (.slice none 0 0) (.slice va L.length vc))
        unfold set5F at z0 z1 z2 z3 z4
        obtain ⟨W9, hW9⟩ : ∃ W, W = set5F wr w.heap.size (.int .i64 k) (.string ⟨#[]⟩) (.string ⟨#[]⟩) (.slice none 0 0) (.slice va L.length vc) := ⟨_, rfl⟩
        have h9b : Below w.heap.size w W9 := by rw [hW9]; exact fl_setB HB.out (Nat.le_refl w.heap.size) (.int .i64 k) (.string ⟨#[]⟩) (.string ⟨#[]⟩) (.slice none 0 0) (.slice va L.length vc)
        have h9s : W9.heap.size = wr.heap.size := by rw [hW9]; exact set5F_size _ _ _ _ _ _ _
        have h9c : ∀ b o, b ≠ w.heap.size → W9.cell? ⟨b, o, none⟩ = wr.cell? ⟨b, o, none⟩ := fun b o h => by rw [hW9]; exact fl_setC h
        have hbz : Below w.heap.size w W9.drew := ⟨h9b.1, h9b.2, h9b.3, h9b.4, h9b.5⟩
        have hfl : IsFl (fun b => w.heap.size ≤ b ∧ b < W9.drew.heap.size) W9.drew (.mk k [] [] [] L) (.agg #[.int .i64 k, .string ⟨#[]⟩, .string ⟨#[]⟩, .slice none 0 0, .slice va L.length vc]) := by
          have h1 : IsFls (fun b => w.heap.size ≤ b ∧ b < W9.drew.heap.size) W9.drew L va 0 := by
            refine IsFls.imp (fun b h => ?_) (fun b o h => ?_) L va 0 HFs.out
            · have := h.1
              have := HG.out
              exact ⟨by omega, Nat.lt_of_lt_of_eq h.2 h9s.symm⟩
            · have := h.1
              have := HG.out
              exact h9c b o (by omega)
          have h2 : IsTo (fun b => w.heap.size ≤ b ∧ b < W9.drew.heap.size) W9.drew [] (.slice none 0 0) := ⟨none, 0, rfl, Nat.zero_le _, fun j h => absurd h (Nat.not_lt_zero _)⟩
          have h3 : L.length ≤ maxLen := by have := HQ.out.2.2; unfold maxLen; omega
          exact ⟨.slice none 0 0, va, vc, rfl, HK.out, Nat.zero_le _, Nat.zero_le _, h2, h3, h1⟩
        unfold set5F at hW9
        rw [← hW9] at z0 z1 z2 z3 z4 ⊢
        clear hW9
        go_wp2
        refine bodyPost_ret (v := .tuple #[.agg #[.int .i64 k, .string ⟨#[]⟩, .string ⟨#[]⟩, .slice none 0 0, .slice va L.length vc], .string (q.extract 1 q.size), .bool true]) (by simp [results, Tryd.results32, go_sem, z0, z1, z2, z3, z4]) rfl ⟨_, _, _, rfl, ?_, hbz⟩
        rw [HH.out]
        exact ⟨hfl, ext_list q 1, rfl⟩
    · rw [show Lib.hasPrefix q.data.toList (⟨#[41]⟩ : ByteArray).data.toList = false from by
        cases h : Lib.hasPrefix q.data.toList (⟨#[41]⟩ : ByteArray).data.toList with
        | false => rfl
        | true => exact absurd ((pre41 _).1 h) h41] at hpx
      have HP := Lib.hid hpx
      have hnx := HNx.out L.length q HQ.out.1 HQ.out.2.1 (by have := HQ.out.2.2; omega) wr HR.out
      have hgw : w.heap.size ≠ g := by have := HG.out; omega
      have hgr : g < wr.heap.size := rd_lt hrr
      have HGr := Lib.hid hgr
      cases hd : D q.data.toList with
      | none =>
        have HH := Lib.hid (kidsInv_none HI.out h41 hd)
        rw [hd] at hnx
        have HN := Lib.hid hnx
        clear hpx hnx hrr hd h41 hgr
        go_upto_region 5 with (first
          | (go_at_call 45; refine (HP.out _).mono ?_; rintro e w2 ⟨rfl, hw⟩; replace hw := hw.symm; subst hw)
          | (go_at_call 46; refine (HN.out).mono ?_; rintro e w2 ⟨x, b, rfl, hg2, ⟨rfl, rfl⟩, _⟩; have HG2 := Lib.hid hg2; clear hg2))
        obtain ⟨W3, hW3⟩ : ∃ W, W = w2.alloc zF := ⟨_, rfl⟩
        have hfz : FzAt W3 w.heap.size := by
          have h2 : FzAt w2 w.heap.size := (HG2.out.block w.heap.size (by have := HGr.out; have := HG.out; omega) (fun e => hgw (Option.some.inj e))).trans HX.out
          rw [hW3]
          exact fl_below h2 (box5 w2 _ _ _ _ _) (fl_lt h2)
        have HB3 : Hid (Below w.heap.size w W3) := Lib.hid (by
          rw [hW3]
          exact bthen (HB.out.trans (below_grown HG2.out (by have := HG.out; omega) HB.out.size)) (box5 w2 _ _ _ _ _))
        rw [show (w2.alloc (.cells #[.int .i64 0, .string ⟨#[]⟩, .string ⟨#[]⟩, .slice none 0 0, .slice none 0 0] 25)) = W3 from hW3.symm]
        clear hW3 r0 r1 r2
        obtain ⟨c0, c1, c2, c3, c4⟩ := fl_cells hfz
        obtain ⟨f0, f1, f2, f3, f4⟩ := fl_frozen hfz
        obtain ⟨z0, z1, z2, z3, z4⟩ := fl_cells (fl_set hfz (.int .i64 0) (.string ⟨#[]⟩) (.string ⟨#[]⟩) (.slice none 0 0) (.slice none 0 0))
        unfold set5F at z0 z1 z2 z3 z4
        clear hfz
        go_wp2
        have hbz := fl_setB HB3.out (Nat.le_refl w.heap.size) (.int .i64 0) (.string ⟨#[]⟩) (.string ⟨#[]⟩) (.slice none 0 0) (.slice none 0 0)
        refine bodyPost_ret (v := .tuple #[.agg #[.int .i64 0, .string ⟨#[]⟩, .string ⟨#[]⟩, .slice none 0 0, .slice none 0 0], .string ⟨#[]⟩, .bool false]) (by simp [results, Tryd.results32, go_sem, z0, z1, z2, z3, z4]) rfl ⟨_, _, _, rfl, ?_, hbz⟩
        rw [HH.out]
        exact ⟨rfl, rfl⟩
      | some fq =>
        obtain ⟨f, q'⟩ := fq
        have hdq := HDs.out _ _ _ hd
        have HDq := Lib.hid hdq
        have HM := Lib.hid (fun hk => kidsInv_many HI.out h41 hd hk)
        have HS := Lib.hid (fun hk => kidsInv_step HI.out h41 hd hdq.1 hk)
        rw [hd] at hnx
        have HN := Lib.hid hnx
        clear hpx hnx hrr hd h41 hgr hdq
        go_upto_region 5 with (first
          | (go_at_call 45; refine (HP.out _).mono ?_; rintro e w2 ⟨rfl, hw⟩; replace hw := hw.symm; subst hw)
          | (go_at_call 46; refine (HN.out).mono ?_; rintro e w2 ⟨x, b, rfl, hg2, ⟨hfl, rfl⟩, hrd⟩; (obtain ⟨kk, T, X, pa, pn, pc, ka, kn, kc, e⟩ := hfl.shape); subst e; have HG2 := Lib.hid hg2; have HFl := Lib.hid hfl; have HRd := Lib.hid (hrd f q' rfl); clear hg2 hfl hrd))
        obtain ⟨qb, hqb, hrd2⟩ := HRd.out
        have HQb := Lib.hid hqb
        obtain ⟨W3, hW3⟩ : ∃ W, W = w2.alloc (.cells #[.int .i64 kk, .string T, .string X, .slice pa pn pc, .slice ka kn kc] 25) := ⟨_, rfl⟩
        have h23 : Below w2.heap.size w2 W3 := by rw [hW3]; exact box5 w2 _ _ _ _ _
        have hgw2 : g < w2.heap.size := Nat.lt_of_lt_of_le HGr.out HG2.out.size
        have hfz : FzAt W3 w.heap.size := by
          have h2 : FzAt w2 w.heap.size := (HG2.out.block w.heap.size (by have := HGr.out; have := HG.out; omega) (fun e => hgw (Option.some.inj e))).trans HX.out
          exact fl_below h2 h23 (fl_lt h2)
        have hkid : FlAt W3 w2.heap.size (.int .i64 kk) (.string T) (.string X) (.slice pa pn pc) (.slice ka kn kc) := by rw [hW3]; exact heap_alloc_new w2 _
        have HB3 : Hid (Below w.heap.size w W3) := Lib.hid (bthen (HB.out.trans (below_grown HG2.out (by have := HG.out; omega) HB.out.size)) h23)
        have hr3 : RdAt W3 g qb (above + 1) (L.length + 1) := rd_below hrd2 h23 hgw2
        have HCt := Lib.hid (countFl_any g (L.length + 1) (above + 1) qb W3 hr3)
        have HMk := Lib.hid (fun W => mayKids_any k (L.length + 1) W)
        have HO3 : Hid (OwnF (g + 1) W3 _ L) := Lib.hid (ownF_below (ownF_grown HO.out HG2.out (Nat.lt_succ_self g)) h23)
        have HR3 := Lib.hid hr3
        have HX3 := Lib.hid hfz
        have HKd := Lib.hid hkid
        have H23 := Lib.hid h23
        rw [← hW3]
        clear hW3 r0 r1 r2 h23 hgw2 hr3 hkid hqb hrd2
        cases hkc : kidsC k (L.length + 1) with
        | false =>
          have HH := Lib.hid (HM.out hkc)
          rw [hkc] at HMk
          clear hkc
          obtain ⟨c0, c1, c2, c3, c4⟩ := fl_cells hfz
          obtain ⟨f0, f1, f2, f3, f4⟩ := fl_frozen hfz
          obtain ⟨z0, z1, z2, z3, z4⟩ := fl_cells (fl_set hfz (.int .i64 0) (.string ⟨#[]⟩) (.string ⟨#[]⟩) (.slice none 0 0) (.slice none 0 0))
          unfold set5F at z0 z1 z2 z3 z4
          clear hfz
          go_wp2_with (first
            | (go_at_call 47; refine (HCt.out).mono ?_; rintro e w5 ⟨rfl, hw⟩; replace hw := hw.symm; subst hw)
            | (go_at_call 39; refine (HMk.out _).mono ?_; rintro e w5 ⟨rfl, rfl⟩))
          have hbz := fl_setB HB3.out (Nat.le_refl w.heap.size) (.int .i64 0) (.string ⟨#[]⟩) (.string ⟨#[]⟩) (.slice none 0 0) (.slice none 0 0)
          refine bodyPost_ret (v := .tuple #[.agg #[.int .i64 0, .string ⟨#[]⟩, .string ⟨#[]⟩, .slice none 0 0, .slice none 0 0], .string ⟨#[]⟩, .bool false]) (by simp [results, Tryd.results32, go_sem, z0, z1, z2, z3, z4]) rfl ⟨_, _, _, rfl, ?_, hbz⟩
          rw [HH.out]
          exact ⟨rfl, rfl⟩
        | true =>
          have HS2 := Lib.hid (HS.out hkc)
          have HLe := Lib.hid (kidsC_le hkc)
          rw [hkc] at HMk
          clear hkc hfz
          have hkd := HKd.out
          obtain ⟨d0, d1, d2, d3, d4⟩ := fl_cells hkd
          clear hkd
          obtain ⟨C, hC⟩ : ∃ C, C = Obj.cells #[.int .i64 kk, .string T, .string X, .slice pa pn pc, .slice ka kn kc] 25 := ⟨_, rfl⟩
          have h34 : Below W3.heap.size W3 (W3.alloc C) := by rw [hC]; exact box5 W3 _ _ _ _ _
          have hown4 := ownF_below HO3.out h34
          have hcc : (W3.alloc C).heap[W3.heap.size]? = some (.cells #[.int .i64 kk, .string T, .string X, .slice pa pn pc, .slice ka kn kc] 25 (0, 0)) := by rw [hC]; exact heap_alloc_new W3 _
          have hf4 : IsFl (NewB (g + 1) (W3.alloc C) (Value.ownBlock u10)) (W3.alloc C) f (.agg #[.int .i64 kk, .string T, .string X, .slice pa pn pc, .slice ka kn kc]) := by
            refine (HFl.out).imp (fun j h => ⟨?_, ?_, ?_⟩) (fun j o h => ?_)
            · exact (h34.cell (p := ⟨j, o, none⟩) (Nat.lt_of_lt_of_le h.2 H23.out.size)).trans (H23.out.cell (p := ⟨j, o, none⟩) h.2)
            · have := HGr.out; omega
            · have := h.2; have := H23.out.size; have := h34.size; omega
            · intro e
              obtain ⟨xs, _, ho⟩ := HO.out
              have := (World.ownsRow.lt ho j e.symm).2
              omega
          have hB4 : g + 1 ≤ (W3.alloc C).heap.size := by have := HGr.out; have := HG2.out.size; have := H23.out.size; have := h34.size; omega
          have HOwn4 := Lib.hid hown4
          have HCc := Lib.hid hcc
          have HF4 := Lib.hid hf4
          have HBg4 := Lib.hid hB4
          have H34 := Lib.hid h34
          have hl40 : L.length ≤ 1000 := by have := HLe.out; omega
          rw [hC] at HOwn4 HCc HF4 HBg4 H34
          clear hC h34 hown4 hcc hf4 hB4
          go_wp2_with (first
            | (go_at_call 47; refine (HCt.out).mono ?_; rintro e w5 ⟨rfl, hw⟩; replace hw := hw.symm; subst hw)
            | (go_at_call 39; refine (HMk.out _).mono ?_; rintro e w5 ⟨rfl, rfl⟩)
            | (at_builtin; refine wpList_append_F rfl (.tmp 39) (.tmp 41) rfl (g + 1) W3.heap.size u10 L rfl HOwn4.out HBg4.out HF4.out HCc.out rfl hl40 ?_; intro v5 w5 hown5 hb5; have HO5 := Lib.hid hown5; have HB5 := Lib.hid hb5; clear hown5 hb5))
          have HR5 : Hid (RdAt w5 g qb (above + 1) (L.length + 1)) := Lib.hid (rd_below (rd_below HR3.out H34.out (rd_lt HR3.out)) HB5.out (Nat.lt_succ_self g))
          have HX5 : Hid (FzAt w5 w.heap.size) := Lib.hid (fl_below (fl_below HX3.out H34.out (fl_lt HX3.out)) HB5.out (by have := HG.out; omega))
          have HB5' : Hid (Below w.heap.size w w5) := Lib.hid ((bthen HB3.out H34.out).trans (HB5.out.mono (by have := HG.out; omega)))
          have hqs : qb.size < q.size := by rw [← bytes_len, ← bytes_len, HQb.out]; exact HDq.out.1
          have HQ5 : Hid (qb.size ≤ 1000000 ∧ ascii qb.data.toList ∧ (L ++ [f]).length ≤ 40) := Lib.hid ⟨by have := HQ.out.1; omega, by rw [HQb.out]; exact fun c hc => HQ.out.2.1 c (HDq.out.2 c hc), by rw [List.length_append]; exact HLe.out⟩
          have HI5 : Hid (KidsInv D k l (L ++ [f]) qb.data.toList) := Lib.hid (by rw [HQb.out]; exact HS2.out)
          go_roundw
          case rel => exact ⟨L ++ [f], qb, HO5, Lib.hid (by rw [List.length_append]; exact HR5.out), HX5, HB5', HI5, HQ5⟩
          case measure =>
            rw [rdLen_at HR5.out, rdLen_at HR.out]
            exact hqs
end Go.Proofs.YtdcfmgnpjmpboaaDoor
