/- Several texts in one file: FiMkP, FiHold, FiHead. -/
import Derived.Test.YtdcfmgnpjmpboaaDoorFiRead
import Derived.Test.YtdcfmgnpjmpboaaDoorFiNext
/- brooklaw6.Make: the filter by numbers. No program. -/
namespace Go.Proofs.YtdcfmgnpjmpboaaDoor
set_option linter.unusedVariables false
set_option linter.unusedSimpArgs false

def mkTy (n : Nat) : List UInt8 := match n / 8 % 6 with
  | 0 => [99, 110]
  | 1 => [115, 110]
  | 2 => [100, 101, 115, 99, 114, 105, 112, 116, 105, 111, 110]
  | 3 => [117, 105, 100, 78, 117, 109, 98, 101, 114]
  | 4 => [109, 97, 105, 108]
  | _ => [111, 98, 106, 101, 99, 116, 67, 108, 97, 115, 115]
def mkVl (s : List UInt8) (n : Nat) : List UInt8 := match n / 16 % 6 with
  | 0 => [110, 49]
  | 1 => [78, 50]
  | 2 => s
  | 3 => [53]
  | 4 => [100]
  | _ => [112, 101, 114, 115, 111, 110]
def mkPa (s : List UInt8) (n : Nat) : List (List UInt8) := match n / 48 % 4 with
  | 0 => [[110], []]
  | 1 => [[], [49]]
  | 2 => [[], s ++ [101], []]
  | _ => [[68], [32], [53]]
def mkCn : FT := .mk 8 [99, 110] [] [] []
/-- The first kids: so many. -/
def kidsM (f : List UInt8 → FT) (l : List UInt8) (q : Nat) : Nat → List FT
  | 0 => []
  | j + 1 => kidsM f l q j ++ [f ((l.drop (j + 1)).take (q + 1))]
theorem kidsM_len (f : List UInt8 → FT) (l : List UInt8) (q : Nat) : ∀ j, (kidsM f l q j).length = j
  | 0 => rfl
  | j + 1 => by rw [kidsM, List.length_append, kidsM_len f l q j]; rfl
/-- A filter by numbers (no more than fu of them). -/
def makeFu (s : List UInt8) : Nat → List UInt8 → FT
  | 0, _ => mkCn
  | fu + 1, [] => mkCn
  | fu + 1, c :: r =>
    if c.toNat % 8 = 0 then .mk 1 [] [] [] (kidsM (makeFu s fu) (c :: r) (c.toNat / 60) (min r.length (c.toNat / 24 % 4)))
    else if c.toNat % 8 = 1 then .mk 2 [] [] [] (kidsM (makeFu s fu) (c :: r) (c.toNat / 60) (min r.length (c.toNat / 24 % 4)))
    else if c.toNat % 8 = 2 then .mk 3 [] [] [] [makeFu s fu r]
    else if c.toNat % 8 = 7 then .mk 8 (mkTy c.toNat) [] [] []
    else if c.toNat % 8 = 4 then .mk 5 (mkTy c.toNat) [] (mkPa s c.toNat) []
    else .mk (1 + c.toNat % 8 : Nat) (mkTy c.toNat) (mkVl s c.toNat) [] []
theorem mkTy_len (n : Nat) : (mkTy n).length ≤ 11 := by unfold mkTy; split <;> simp
theorem mkVl_len (s : List UInt8) (n : Nat) : (mkVl s n).length ≤ s.length + 6 := by unfold mkVl; split <;> simp
end Go.Proofs.YtdcfmgnpjmpboaaDoor

/- filter.holder: the walk. -/
namespace Go.Proofs.YtdcfmgnpjmpboaaDoor
open Go.RowKit
set_option linter.unusedVariables false
set_option linter.unusedSimpArgs false

theorem ownF_grown {B g : Nat} {w w' : World} {v : Value} {l : List FT} (h : OwnF B w v l) (hg : w.grownBy w' (some g)) (hB : g < B) : OwnF B w' v l := by
  obtain ⟨xs, h1, h2⟩ := h
  refine ⟨xs, h1.imp (fun b hb => ⟨hb.1, Nat.lt_of_lt_of_le hb.2.1 hg.size, hb.2.2⟩) (fun b o hb => ?_), World.ownsRow.kept h2 hg ?_⟩
  · unfold World.cell?
    rw [hg.block b hb.2.1 (fun e => by have := Option.some.inj e; have := hb.1; omega)]
  · rcases h2.2 with ⟨rfl, _⟩ | ⟨c, cap, cur, rfl, hc, _⟩
    · exact .inl rfl
    · right
      intro e
      have : c = g := by simpa [Value.ownBlock] using e
      omega
theorem wpList_append_F {ops : Array Oper} {rest : List Oper} {o : Oper} {a : Act} {w : World} {Q : Exit → Act → World → Prop} (hgd : o.guard = none) (sl x : Operand)
    (ho : o.op = .call { callee := .builtin .append, args := #[sl, x], argTypes := #[23, 23] })
    (B c : Nat) (v : Value) (l : List FT) (hs : a.eval sl = v) (hown : OwnF B w v l) (hB : B ≤ w.heap.size) {f : FT} {x0 x1 x2 x3 x4 : Value} (hf : IsFl (NewB B w v.ownBlock) w f (.agg #[x0, x1, x2, x3, x4]))
    (hc : w.heap[c]? = some (.cells #[x0, x1, x2, x3, x4] 25 (0, 0))) (hx : a.eval x = .slice (some ⟨c, 0, none⟩) 1 1) (hlen : l.length ≤ 1000)
    (h : ∀ v' w', OwnF B w' v' (l ++ [f]) → Below B w w' → wpList Tryd.prog ops Q rest (a.put o.dst v') w') : wpList Tryd.prog ops Q (o :: rest) a w := by
  refine wpList_plain hgd fun K hK => ?_
  obtain ⟨v', w', hr, h2, h3, _⟩ := run_append_F hown hB hf hc hlen o.type
  unfold Oper.wp execOp
  simp only [ho, resolve, invoke, builtin, Sem.run_bind, Sem.run_pure, Result.andThen_ok, List.map_toArray, List.map_cons, List.map_nil, hs, hx, hr]
  exact hK _ _ (h v' w' h2 h3)
theorem kidsC_le {k : Int} {n : Nat} (h : kidsC k n = true) : n ≤ 40 := by
  unfold kidsC at h
  split at h
  · simp only [decide_eq_true_eq] at h; omega
  · simpa using h
/-- What is still to be read tells the same as all did. -/
def KidsInv (D : List UInt8 → Option (FT × List UInt8)) (k : Int) (s : List UInt8) (L : List FT) (q : List UInt8) : Prop :=
  ∃ fu, q.length < fu ∧ kidsD D k (s.length + 1) 0 s = (kidsD D k fu L.length q).map fun x => (L ++ x.1, x.2)
theorem kidsInv_start (D : List UInt8 → Option (FT × List UInt8)) (k : Int) (s : List UInt8) : KidsInv D k s [] s :=
  ⟨s.length + 1, Nat.lt_succ_self _, by
    show _ = (kidsD D k (s.length + 1) 0 s).map _
    cases kidsD D k (s.length + 1) 0 s <;> rfl⟩
theorem kidsInv_step {D : List UInt8 → Option (FT × List UInt8)} {k : Int} {s : List UInt8} {L : List FT} {q r : List UInt8} {f : FT} (h : KidsInv D k s L q) (h41 : ¬ q.head? = some 41) (hd : D q = some (f, r)) (hl : r.length < q.length) (hk : kidsC k (L.length + 1) = true) : KidsInv D k s (L ++ [f]) r := by
  obtain ⟨fu, hfu, e⟩ := h
  match fu, hfu with
  | fu + 1, hfu =>
    refine ⟨fu, by omega, e.trans ?_⟩
    show ((if q.head? = some 41 then some ([], q) else match D q with
      | none => none
      | some (f, r) => if kidsC k (L.length + 1) then (kidsD D k fu (L.length + 1) r).map fun x => (f :: x.1, x.2) else none)).map _ = _
    rw [if_neg h41, hd]
    show (if kidsC k (L.length + 1) then (kidsD D k fu (L.length + 1) r).map fun x => (f :: x.1, x.2) else none).map _ = _
    rw [if_pos hk, List.length_append]
    show _ = (kidsD D k fu (L.length + 1) r).map _
    cases kidsD D k fu (L.length + 1) r with
    | none => rfl
    | some x => simp
theorem kidsInv_none {D : List UInt8 → Option (FT × List UInt8)} {k : Int} {s : List UInt8} {L : List FT} {q : List UInt8} (h : KidsInv D k s L q) (h41 : ¬ q.head? = some 41) (hd : D q = none) : holdD D k s = none := by
  obtain ⟨fu, hfu, e⟩ := h
  match fu, hfu with
  | fu + 1, hfu =>
    have e1 : kidsD D k (fu + 1) L.length q = none := by
      show (if q.head? = some 41 then some ([], q) else match D q with
        | none => none
        | some (f, r) => if kidsC k (L.length + 1) then (kidsD D k fu (L.length + 1) r).map fun x => (f :: x.1, x.2) else none) = none
      rw [if_neg h41, hd]
    rw [e1] at e
    unfold holdD
    rw [e]
    rfl
theorem kidsInv_many {D : List UInt8 → Option (FT × List UInt8)} {k : Int} {s : List UInt8} {L : List FT} {q r : List UInt8} {f : FT} (h : KidsInv D k s L q) (h41 : ¬ q.head? = some 41) (hd : D q = some (f, r)) (hk : kidsC k (L.length + 1) = false) : holdD D k s = none := by
  obtain ⟨fu, hfu, e⟩ := h
  match fu, hfu with
  | fu + 1, hfu =>
    have e1 : kidsD D k (fu + 1) L.length q = none := by
      show (if q.head? = some 41 then some ([], q) else match D q with
        | none => none
        | some (f, r) => if kidsC k (L.length + 1) then (kidsD D k fu (L.length + 1) r).map fun x => (f :: x.1, x.2) else none) = none
      rw [if_neg h41, hd]
      show (if kidsC k (L.length + 1) then (kidsD D k fu (L.length + 1) r).map fun x => (f :: x.1, x.2) else none) = none
      rw [hk]
      rfl
    rw [e1] at e
    unfold holdD
    rw [e]
    rfl
theorem kidsInv_end {D : List UInt8 → Option (FT × List UInt8)} {k : Int} {s : List UInt8} {L : List FT} {q : List UInt8} (h : KidsInv D k s L q) (h41 : q.head? = some 41) : holdD D k s = if kidsC k L.length then some (.mk k [] [] [] L, q.drop 1) else none := by
  obtain ⟨fu, hfu, e⟩ := h
  match fu, hfu with
  | fu + 1, hfu =>
    have e1 : kidsD D k (fu + 1) L.length q = some ([], q) := by
      show (if q.head? = some 41 then some ([], q) else match D q with
        | none => none
        | some (f, r) => if kidsC k (L.length + 1) then (kidsD D k fu (L.length + 1) r).map fun x => (f :: x.1, x.2) else none) = _
      rw [if_pos h41]
    rw [e1] at e
    unfold holdD
    rw [e]
    simp
theorem pre41 (l : List UInt8) : Lib.hasPrefix l [41] = true ↔ l.head? = some 41 := by
  cases l with
  | nil => simp [Lib.hasPrefix]
  | cons c r =>
    show ((41 == c && List.isPrefixOf [] r) = true) ↔ some c = some 41
    rw [Bool.and_eq_true, beq_iff_eq]
    constructor
    · rintro ⟨rfl, _⟩; rfl
    · intro h; cases h; exact ⟨rfl, rfl⟩
theorem below_grown {n g : Nat} {w w' : World} (h : w.grownBy w' (some g)) (hn : n ≤ g) (hw : n ≤ w.heap.size) : Below n w w' :=
  { size := h.size, block := fun k hk => h.block k (Nat.lt_of_lt_of_le hk hw) (fun e => by have := Option.some.inj e; omega), os := h.os, tape := h.tape, output := h.output }
def rdLen (w : World) (g : Nat) : Nat := match w.cell? ⟨g, 0, none⟩ with
  | some (.string r) => r.size
  | _ => 0
theorem rdLen_at {w : World} {g : Nat} {r : ByteArray} {above n : Nat} (h : RdAt w g r above n) : rdLen w g = r.size := by
  unfold rdLen
  rw [(rd_cells h).1]
set_option maxRecDepth 100000 in
set_option maxHeartbeats 8000000 in
theorem holderFl_any {above : Nat} {D : List UInt8 → Option (FT × List UInt8)} (H : HeadIs (above + 1) D) (hD : ∀ q f r, D q = some (f, r) → r.length < q.length ∧ ∀ c ∈ r, c ∈ q) (k : Int) (hk : (Lit.int .i64 k).wf = true) (hab : above ≤ 100)
    (s : ByteArray) (hs : s.size ≤ 1000000) (ha : ascii s.data.toList) (w : World) :
    Calls Tryd.prog 32 #[.int .i64 k, .string s, .int .i64 above] w fun e w' => ∃ x r b, e = .returned (.tuple #[x, .string r, .bool b]) ∧ HdV w.heap.size w' (holdD D k s.data.toList) x r b ∧ Below w.heap.size w w' := by
  obtain ⟨W0, hW0⟩ : ∃ W, W = w.alloc zF := ⟨_, rfl⟩
  obtain ⟨W1, hW1⟩ : ∃ W, W = W0.alloc (.cells #[.string s, .int .i64 ((above : Int) + 1), .int .i64 0] 83) := ⟨_, rfl⟩
  have hb0 : Below w.heap.size w W0 := by rw [hW0]; exact box5 w _ _ _ _ _
  have hx0 : FzAt W0 w.heap.size := by rw [hW0]; exact heap_alloc_new w _
  have hsz0 : W0.heap.size = w.heap.size + 1 := by rw [hW0]; simp only [World.alloc, Array.size_push]
  have hb1 : Below W0.heap.size W0 W1 := by rw [hW1]; exact (Below.refl _ _).alloc (Nat.le_refl _) _
  have hr1 : RdAt W1 W0.heap.size s (above + 1) 0 := by
    show W1.heap[W0.heap.size]? = some (.cells #[.string s, .int .i64 ((above + 1 : Nat) : Int), .int .i64 ((0 : Nat) : Int)] 83 (0, 0))
    rw [hW1, show ((above + 1 : Nat) : Int) = (above : Int) + 1 from by omega]
    exact heap_alloc_new W0 _
  obtain ⟨g, hg⟩ : ∃ g, g = W0.heap.size := ⟨_, rfl⟩
  have HB1 := Lib.hid (bthen hb0 hb1)
  have HX1 := Lib.hid (fl_below hx0 hb1 (fl_lt hx0))
  have HR1 : Hid (RdAt W1 g s (above + 1) 0) := Lib.hid (by rw [hg]; exact hr1)
  have HG : Hid (g = w.heap.size + 1) := Lib.hid (by rw [hg]; exact hsz0)
  have HGi := Lib.hid hg.symm
  have HW0 := Lib.hid hW0.symm
  have HW1 := Lib.hid hW1.symm
  obtain ⟨l, hl⟩ : ∃ l, l = s.data.toList := ⟨_, rfl⟩
  have HInv0 : Hid (KidsInv D k l [] s.data.toList) := Lib.hid (by rw [← hl]; exact kidsInv_start D k l)
  have HAs := Lib.hid ha
  have HSs := Lib.hid hs
  have HK := Lib.hid hk
  have HDs := Lib.hid hD
  have HNx := Lib.hid (fun (n : Nat) (r : ByteArray) hr ha hn (w : World) h => nextFl_any H g n r hr ha hn w h)
  have ew : IntKind.i64.wrap ((above : Int) + 1) = (above : Int) + 1 := IntWalk.i64_in _ (by omega)
  rw [← hl]
  clear hW0 hW1 hb0 hx0 hsz0 hb1 hr1 hg ha hs hk hD H hl
  go_enter Tryd.func32, Tryd.ntmps32
  go_upto_region 1 with (fail)
  rw [HW0.out]
  go_wp2
  rw [HW1.out, HGi.out]
  go_loopw [10] (fun v wr => ∃ (L : List FT) (q : ByteArray), Hid (OwnF (g + 1) wr v L) ∧ Hid (RdAt wr g q (above + 1) L.length) ∧ Hid (FzAt wr w.heap.size) ∧ Hid (Below w.heap.size w wr) ∧ Hid (KidsInv D k l L q.data.toList) ∧ Hid (q.size ≤ 1000000 ∧ ascii q.data.toList ∧ L.length ≤ 40)) (fun _ wr => rdLen wr g)
  case atStart => exact ⟨[], s, Lib.hid (ownF_nil _ _), HR1, HX1, HB1, HInv0, Lib.hid ⟨HSs.out, HAs.out, Nat.zero_le _⟩⟩
  case round =>
    obtain ⟨L, q, HO, HR, HX, HB, HI, HQ⟩ := hrel
    rename World => wr
    have hrr := HR.out
    obtain ⟨r0, r1, r2⟩ := rd_cells hrr
    have hpx := fun W => Tryd.strings_HasPrefix q ⟨#[41]⟩ W
    by_cases h41 : q.data.toList.head? = some 41
    · rw [show Lib.hasPrefix q.data.toList (⟨#[41]⟩ : ByteArray).data.toList = true from (pre41 _).2 h41] at hpx
      have HP := Lib.hid hpx
      have HH := Lib.hid (kidsInv_end HI.out h41)
      have HCt := Lib.hid (countFl_any g L.length (above + 1) q wr HR.out)
      have HMk := Lib.hid (fun W => mayKids_any k L.length W)
      clear hpx
      cases hkc : kidsC k L.length with
      | false =>
        rw [hkc] at HMk HH
        clear hkc hrr
        have hfz := HX.out
        obtain ⟨c0, c1, c2, c3, c4⟩ := fl_cells hfz
        obtain ⟨f0, f1, f2, f3, f4⟩ := fl_frozen hfz
        obtain ⟨z0, z1, z2, z3, z4⟩ := fl_cells (fl_set hfz (.int .i64 0) (.string ⟨#[]⟩) (.string ⟨#[]⟩) (.slice none 0 0) (.slice none 0 0))
        unfold set5F at z0 z1 z2 z3 z4
        clear hfz
        go_wp2_with (first
          | (go_at_call 45; refine (HP.out _).mono ?_; rintro e w2 ⟨rfl, hw⟩; replace hw := hw.symm; subst hw)
          | (go_at_call 47; refine (HCt.out).mono ?_; rintro e w2 ⟨rfl, hw⟩; replace hw := hw.symm; subst hw)
          | (go_at_call 39; refine (HMk.out _).mono ?_; rintro e w2 ⟨rfl, rfl⟩))
        have hbz := fl_setB HB.out (Nat.le_refl w.heap.size) (.int .i64 0) (.string ⟨#[]⟩) (.string ⟨#[]⟩) (.slice none 0 0) (.slice none 0 0)
        refine bodyPost_ret (v := .tuple #[.agg #[.int .i64 0, .string ⟨#[]⟩, .string ⟨#[]⟩, .slice none 0 0, .slice none 0 0], .string ⟨#[]⟩, .bool false]) (by simp [results, Tryd.results32, go_sem, z0, z1, z2, z3, z4]) rfl ⟨_, _, _, rfl, ?_, hbz⟩
        rw [HH.out]
        exact ⟨rfl, rfl⟩
      | true =>
        rw [hkc] at HMk HH
        rw [if_pos rfl] at HH
        have hq1 : 1 ≤ q.size := by
          rw [← bytes_len]
          cases hqq : q.data.toList with
          | nil => rw [hqq] at h41; cases h41
          | cons c r => simp
        obtain ⟨va, vc, hv, hfls⟩ := ownF_done HO.out
        subst hv
        have HFs := Lib.hid hfls
        have HQ1 := Lib.hid hq1
        clear hkc hrr hfls
        go_upto_region 10 with (first
          | (go_at_call 45; refine (HP.out _).mono ?_; rintro e w2 ⟨rfl, hw⟩; replace hw := hw.symm; subst hw)
          | (go_at_call 47; refine (HCt.out).mono ?_; rintro e w2 ⟨rfl, hw⟩; replace hw := hw.symm; subst hw)
          | (go_at_call 39; refine (HMk.out _).mono ?_; rintro e w2 ⟨rfl, rfl⟩))
        have g0 : (0 : Int) ≤ (1 : Int) := by omega
        have g1 : (1 : Int) ≤ (q.size : Int) := by omega
        have g2 : 1 ≤ q.size := hq1
        have hfz := HX.out
        obtain ⟨c0, c1, c2, c3, c4⟩ := fl_cells hfz
        obtain ⟨f0, f1, f2, f3, f4⟩ := fl_frozen hfz
        have hgw : w.heap.size ≠ g := by have := HG.out; omega
        have hgw' : g ≠ w.heap.size := hgw.symm
        have r0s : (wr.setCell ⟨w.heap.size, 0, none⟩ (.int .i64 k)).cell? ⟨g, 0, none⟩ = some (.string q) := by
          rw [← r0]
          unfold World.cell?
          rw [blockFl_ne wr ⟨w.heap.size, 0, none⟩ _ hgw']
        go_region
        obtain ⟨z0, z1, z2, z3, z4⟩ := fl_cells (fl_set hfz (.int .i64 k) (.string ⟨#[]⟩) (.string ⟨#[]⟩) (.slice none 0 0) (.slice va L.length vc))
        unfold set5F at z0 z1 z2 z3 z4
        obtain ⟨W9, hW9⟩ : ∃ W, W = set5F wr w.heap.size (.int .i64 k) (.string ⟨#[]⟩) (.string ⟨#[]⟩) (.slice none 0 0) (.slice va L.length vc) := ⟨_, rfl⟩
        have h9b : Below w.heap.size w W9 := by rw [hW9]; exact fl_setB HB.out (Nat.le_refl w.heap.size) (.int .i64 k) (.string ⟨#[]⟩) (.string ⟨#[]⟩) (.slice none 0 0) (.slice va L.length vc)
        have h9s : W9.heap.size = wr.heap.size := by rw [hW9]; exact set5F_size _ _ _ _ _ _ _
        have h9c : ∀ b o, b ≠ w.heap.size → W9.cell? ⟨b, o, none⟩ = wr.cell? ⟨b, o, none⟩ := fun b o h => by rw [hW9]; exact fl_setC h
        have hbz : Below w.heap.size w W9.drew := ⟨h9b.1, h9b.2, h9b.3, h9b.4, h9b.5⟩
        have hfl : IsFl (fun b => w.heap.size ≤ b ∧ b < W9.drew.heap.size) W9.drew (.mk k [] [] [] L) (.agg #[.int .i64 k, .string ⟨#[]⟩, .string ⟨#[]⟩, .slice none 0 0, .slice va L.length vc]) := by
          have h1 : IsFls (fun b => w.heap.size ≤ b ∧ b < W9.drew.heap.size) W9.drew L va 0 := by
            refine IsFls.imp (fun b h => ?_) (fun b o h => ?_) L va 0 HFs.out
            · have := h.1
              have := HG.out
              exact ⟨by omega, Nat.lt_of_lt_of_eq h.2 h9s.symm⟩
            · have := h.1
              have := HG.out
              exact h9c b o (by omega)
          have h2 : IsTo (fun b => w.heap.size ≤ b ∧ b < W9.drew.heap.size) W9.drew [] (.slice none 0 0) := ⟨none, 0, rfl, Nat.zero_le _, fun j h => absurd h (Nat.not_lt_zero _)⟩
          have h3 : L.length ≤ maxLen := by have := HQ.out.2.2; unfold maxLen; omega
          exact ⟨.slice none 0 0, va, vc, rfl, HK.out, Nat.zero_le _, Nat.zero_le _, h2, h3, h1⟩
        unfold set5F at hW9
        rw [← hW9] at z0 z1 z2 z3 z4 ⊢
        clear hW9
        go_wp2
        refine bodyPost_ret (v := .tuple #[.agg #[.int .i64 k, .string ⟨#[]⟩, .string ⟨#[]⟩, .slice none 0 0, .slice va L.length vc], .string (q.extract 1 q.size), .bool true]) (by simp [results, Tryd.results32, go_sem, z0, z1, z2, z3, z4]) rfl ⟨_, _, _, rfl, ?_, hbz⟩
        rw [HH.out]
        exact ⟨hfl, ext_list q 1, rfl⟩
    · rw [show Lib.hasPrefix q.data.toList (⟨#[41]⟩ : ByteArray).data.toList = false from by
        cases h : Lib.hasPrefix q.data.toList (⟨#[41]⟩ : ByteArray).data.toList with
        | false => rfl
        | true => exact absurd ((pre41 _).1 h) h41] at hpx
      have HP := Lib.hid hpx
      have hnx := HNx.out L.length q HQ.out.1 HQ.out.2.1 (by have := HQ.out.2.2; omega) wr HR.out
      have hgw : w.heap.size ≠ g := by have := HG.out; omega
      have hgr : g < wr.heap.size := rd_lt hrr
      have HGr := Lib.hid hgr
      cases hd : D q.data.toList with
      | none =>
        have HH := Lib.hid (kidsInv_none HI.out h41 hd)
        rw [hd] at hnx
        have HN := Lib.hid hnx
        clear hpx hnx hrr hd h41 hgr
        go_upto_region 5 with (first
          | (go_at_call 45; refine (HP.out _).mono ?_; rintro e w2 ⟨rfl, hw⟩; replace hw := hw.symm; subst hw)
          | (go_at_call 46; refine (HN.out).mono ?_; rintro e w2 ⟨x, b, rfl, hg2, ⟨rfl, rfl⟩, _⟩; have HG2 := Lib.hid hg2; clear hg2))
        obtain ⟨W3, hW3⟩ : ∃ W, W = w2.alloc zF := ⟨_, rfl⟩
        have hfz : FzAt W3 w.heap.size := by
          have h2 : FzAt w2 w.heap.size := (HG2.out.block w.heap.size (by have := HGr.out; have := HG.out; omega) (fun e => hgw (Option.some.inj e))).trans HX.out
          rw [hW3]
          exact fl_below h2 (box5 w2 _ _ _ _ _) (fl_lt h2)
        have HB3 : Hid (Below w.heap.size w W3) := Lib.hid (by
          rw [hW3]
          exact bthen (HB.out.trans (below_grown HG2.out (by have := HG.out; omega) HB.out.size)) (box5 w2 _ _ _ _ _))
        rw [show (w2.alloc (.cells #[.int .i64 0, .string ⟨#[]⟩, .string ⟨#[]⟩, .slice none 0 0, .slice none 0 0] 25)) = W3 from hW3.symm]
        clear hW3 r0 r1 r2
        obtain ⟨c0, c1, c2, c3, c4⟩ := fl_cells hfz
        obtain ⟨f0, f1, f2, f3, f4⟩ := fl_frozen hfz
        obtain ⟨z0, z1, z2, z3, z4⟩ := fl_cells (fl_set hfz (.int .i64 0) (.string ⟨#[]⟩) (.string ⟨#[]⟩) (.slice none 0 0) (.slice none 0 0))
        unfold set5F at z0 z1 z2 z3 z4
        clear hfz
        go_wp2
        have hbz := fl_setB HB3.out (Nat.le_refl w.heap.size) (.int .i64 0) (.string ⟨#[]⟩) (.string ⟨#[]⟩) (.slice none 0 0) (.slice none 0 0)
        refine bodyPost_ret (v := .tuple #[.agg #[.int .i64 0, .string ⟨#[]⟩, .string ⟨#[]⟩, .slice none 0 0, .slice none 0 0], .string ⟨#[]⟩, .bool false]) (by simp [results, Tryd.results32, go_sem, z0, z1, z2, z3, z4]) rfl ⟨_, _, _, rfl, ?_, hbz⟩
        rw [HH.out]
        exact ⟨rfl, rfl⟩
      | some fq =>
        obtain ⟨f, q'⟩ := fq
        have hdq := HDs.out _ _ _ hd
        have HDq := Lib.hid hdq
        have HM := Lib.hid (fun hk => kidsInv_many HI.out h41 hd hk)
        have HS := Lib.hid (fun hk => kidsInv_step HI.out h41 hd hdq.1 hk)
        rw [hd] at hnx
        have HN := Lib.hid hnx
        clear hpx hnx hrr hd h41 hgr hdq
        go_upto_region 5 with (first
          | (go_at_call 45; refine (HP.out _).mono ?_; rintro e w2 ⟨rfl, hw⟩; replace hw := hw.symm; subst hw)
          | (go_at_call 46; refine (HN.out).mono ?_; rintro e w2 ⟨x, b, rfl, hg2, ⟨hfl, rfl⟩, hrd⟩; (obtain ⟨kk, T, X, pa, pn, pc, ka, kn, kc, e⟩ := hfl.shape); subst e; have HG2 := Lib.hid hg2; have HFl := Lib.hid hfl; have HRd := Lib.hid (hrd f q' rfl); clear hg2 hfl hrd))
        obtain ⟨qb, hqb, hrd2⟩ := HRd.out
        have HQb := Lib.hid hqb
        obtain ⟨W3, hW3⟩ : ∃ W, W = w2.alloc (.cells #[.int .i64 kk, .string T, .string X, .slice pa pn pc, .slice ka kn kc] 25) := ⟨_, rfl⟩
        have h23 : Below w2.heap.size w2 W3 := by rw [hW3]; exact box5 w2 _ _ _ _ _
        have hgw2 : g < w2.heap.size := Nat.lt_of_lt_of_le HGr.out HG2.out.size
        have hfz : FzAt W3 w.heap.size := by
          have h2 : FzAt w2 w.heap.size := (HG2.out.block w.heap.size (by have := HGr.out; have := HG.out; omega) (fun e => hgw (Option.some.inj e))).trans HX.out
          exact fl_below h2 h23 (fl_lt h2)
        have hkid : FlAt W3 w2.heap.size (.int .i64 kk) (.string T) (.string X) (.slice pa pn pc) (.slice ka kn kc) := by rw [hW3]; exact heap_alloc_new w2 _
        have HB3 : Hid (Below w.heap.size w W3) := Lib.hid (bthen (HB.out.trans (below_grown HG2.out (by have := HG.out; omega) HB.out.size)) h23)
        have hr3 : RdAt W3 g qb (above + 1) (L.length + 1) := rd_below hrd2 h23 hgw2
        have HCt := Lib.hid (countFl_any g (L.length + 1) (above + 1) qb W3 hr3)
        have HMk := Lib.hid (fun W => mayKids_any k (L.length + 1) W)
        have HO3 : Hid (OwnF (g + 1) W3 _ L) := Lib.hid (ownF_below (ownF_grown HO.out HG2.out (Nat.lt_succ_self g)) h23)
        have HR3 := Lib.hid hr3
        have HX3 := Lib.hid hfz
        have HKd := Lib.hid hkid
        have H23 := Lib.hid h23
        rw [← hW3]
        clear hW3 r0 r1 r2 h23 hgw2 hr3 hkid hqb hrd2
        cases hkc : kidsC k (L.length + 1) with
        | false =>
          have HH := Lib.hid (HM.out hkc)
          rw [hkc] at HMk
          clear hkc
          obtain ⟨c0, c1, c2, c3, c4⟩ := fl_cells hfz
          obtain ⟨f0, f1, f2, f3, f4⟩ := fl_frozen hfz
          obtain ⟨z0, z1, z2, z3, z4⟩ := fl_cells (fl_set hfz (.int .i64 0) (.string ⟨#[]⟩) (.string ⟨#[]⟩) (.slice none 0 0) (.slice none 0 0))
          unfold set5F at z0 z1 z2 z3 z4
          clear hfz
          go_wp2_with (first
            | (go_at_call 47; refine (HCt.out).mono ?_; rintro e w5 ⟨rfl, hw⟩; replace hw := hw.symm; subst hw)
            | (go_at_call 39; refine (HMk.out _).mono ?_; rintro e w5 ⟨rfl, rfl⟩))
          have hbz := fl_setB HB3.out (Nat.le_refl w.heap.size) (.int .i64 0) (.string ⟨#[]⟩) (.string ⟨#[]⟩) (.slice none 0 0) (.slice none 0 0)
          refine bodyPost_ret (v := .tuple #[.agg #[.int .i64 0, .string ⟨#[]⟩, .string ⟨#[]⟩, .slice none 0 0, .slice none 0 0], .string ⟨#[]⟩, .bool false]) (by simp [results, Tryd.results32, go_sem, z0, z1, z2, z3, z4]) rfl ⟨_, _, _, rfl, ?_, hbz⟩
          rw [HH.out]
          exact ⟨rfl, rfl⟩
        | true =>
          have HS2 := Lib.hid (HS.out hkc)
          have HLe := Lib.hid (kidsC_le hkc)
          rw [hkc] at HMk
          clear hkc hfz
          have hkd := HKd.out
          obtain ⟨d0, d1, d2, d3, d4⟩ := fl_cells hkd
          clear hkd
          obtain ⟨C, hC⟩ : ∃ C, C = Obj.cells #[.int .i64 kk, .string T, .string X, .slice pa pn pc, .slice ka kn kc] 25 := ⟨_, rfl⟩
          have h34 : Below W3.heap.size W3 (W3.alloc C) := by rw [hC]; exact box5 W3 _ _ _ _ _
          have hown4 := ownF_below HO3.out h34
          have hcc : (W3.alloc C).heap[W3.heap.size]? = some (.cells #[.int .i64 kk, .string T, .string X, .slice pa pn pc, .slice ka kn kc] 25 (0, 0)) := by rw [hC]; exact heap_alloc_new W3 _
          have hf4 : IsFl (NewB (g + 1) (W3.alloc C) (Value.ownBlock u10)) (W3.alloc C) f (.agg #[.int .i64 kk, .string T, .string X, .slice pa pn pc, .slice ka kn kc]) := by
            refine (HFl.out).imp (fun j h => ⟨?_, ?_, ?_⟩) (fun j o h => ?_)
            · exact (h34.cell (p := ⟨j, o, none⟩) (Nat.lt_of_lt_of_le h.2 H23.out.size)).trans (H23.out.cell (p := ⟨j, o, none⟩) h.2)
            · have := HGr.out; omega
            · have := h.2; have := H23.out.size; have := h34.size; omega
            · intro e
              obtain ⟨xs, _, ho⟩ := HO.out
              have := (World.ownsRow.lt ho j e.symm).2
              omega
          have hB4 : g + 1 ≤ (W3.alloc C).heap.size := by have := HGr.out; have := HG2.out.size; have := H23.out.size; have := h34.size; omega
          have HOwn4 := Lib.hid hown4
          have HCc := Lib.hid hcc
          have HF4 := Lib.hid hf4
          have HBg4 := Lib.hid hB4
          have H34 := Lib.hid h34
          have hl40 : L.length ≤ 1000 := by have := HLe.out; omega
          rw [hC] at HOwn4 HCc HF4 HBg4 H34
          clear hC h34 hown4 hcc hf4 hB4
          go_wp2_with (first
            | (go_at_call 47; refine (HCt.out).mono ?_; rintro e w5 ⟨rfl, hw⟩; replace hw := hw.symm; subst hw)
            | (go_at_call 39; refine (HMk.out _).mono ?_; rintro e w5 ⟨rfl, rfl⟩)
            | (at_builtin; refine wpList_append_F rfl (.tmp 39) (.tmp 41) rfl (g + 1) W3.heap.size u10 L rfl HOwn4.out HBg4.out HF4.out HCc.out rfl hl40 ?_; intro v5 w5 hown5 hb5; have HO5 := Lib.hid hown5; have HB5 := Lib.hid hb5; clear hown5 hb5))
          have HR5 : Hid (RdAt w5 g qb (above + 1) (L.length + 1)) := Lib.hid (rd_below (rd_below HR3.out H34.out (rd_lt HR3.out)) HB5.out (Nat.lt_succ_self g))
          have HX5 : Hid (FzAt w5 w.heap.size) := Lib.hid (fl_below (fl_below HX3.out H34.out (fl_lt HX3.out)) HB5.out (by have := HG.out; omega))
          have HB5' : Hid (Below w.heap.size w w5) := Lib.hid ((bthen HB3.out H34.out).trans (HB5.out.mono (by have := HG.out; omega)))
          have hqs : qb.size < q.size := by rw [← bytes_len, ← bytes_len, HQb.out]; exact HDq.out.1
          have HQ5 : Hid (qb.size ≤ 1000000 ∧ ascii qb.data.toList ∧ (L ++ [f]).length ≤ 40) := Lib.hid ⟨by have := HQ.out.1; omega, by rw [HQb.out]; exact fun c hc => HQ.out.2.1 c (HDq.out.2 c hc), by rw [List.length_append]; exact HLe.out⟩
          have HI5 : Hid (KidsInv D k l (L ++ [f]) qb.data.toList) := Lib.hid (by rw [HQb.out]; exact HS2.out)
          go_roundw
          case rel => exact ⟨L ++ [f], qb, HO5, Lib.hid (by rw [List.length_append]; exact HR5.out), HX5, HB5', HI5, HQ5⟩
          case measure =>
            rw [rdLen_at HR5.out, rdLen_at HR.out]
            exact hqs
end Go.Proofs.YtdcfmgnpjmpboaaDoor

/- filter.head: the walk. -/
namespace Go.Proofs.YtdcfmgnpjmpboaaDoor
open Go.RowKit
set_option linter.unusedVariables false
set_option linter.unusedSimpArgs false

def sgH : Nat → UInt8
  | 0 => 38
  | 1 => 124
  | _ => 33
def kdH : Nat → Int
  | 0 => 1
  | 1 => 2
  | _ => 3
theorem sgH_kd : ∀ j, j < 3 → signF (kdH j) = [sgH j] := by decide
theorem kdH_wf : ∀ j, j < 3 → (Lit.int .i64 (kdH j)).wf = true := by decide
theorem preFl (x : UInt8) (l : List UInt8) : Lib.hasPrefix l [x] = true ↔ l.head? = some x := by
  cases l with
  | nil => simp [Lib.hasPrefix]
  | cons c r =>
    show ((x == c && List.isPrefixOf [] r) = true) ↔ some c = some x
    rw [Bool.and_eq_true, beq_iff_eq]
    constructor
    · rintro ⟨rfl, _⟩; rfl
    · intro h; cases h; exact ⟨rfl, rfl⟩
theorem preFl_not {x : UInt8} {l : List UInt8} (h : Lib.hasPrefix l [x] = false) : ¬ l.head? = some x := fun e => by rw [(preFl x l).2 e] at h; cases h
theorem headFl_step (d : Nat) (r : List UInt8) : headD (d + 1) (40 :: r) = if r.head? = some 38 then holdD (headD d) 1 (r.drop 1) else if r.head? = some 124 then holdD (headD d) 2 (r.drop 1) else if r.head? = some 33 then holdD (headD d) 3 (r.drop 1)
      else if r.contains 41 then (leafD (r.takeWhile (· ≠ 41))).map fun f => (f, (r.dropWhile (· ≠ 41)).drop 1) else none := rfl
theorem headFl_not {d : Nat} {s : List UInt8} (h : Lib.hasPrefix s [40] = false) : headD (d + 1) s = none := by
  have hn := preFl_not h
  match s, hn with
  | [], _ => rfl
  | c :: r, hn =>
    have hc : c ≠ 40 := fun e => hn (by rw [e]; rfl)
    unfold headD
    split
    · rename_i e
      cases e
      exact absurd rfl hc
    · rfl
theorem headFl_at {d j : Nat} {r : List UInt8} (hj : j < 3) (h : ∀ i, i < j → Lib.hasPrefix r [sgH i] = false) (hp : Lib.hasPrefix r [sgH j] = true) : headD (d + 1) (40 :: r) = holdD (headD d) (kdH j) (r.drop 1) := by
  have hp' := (preFl _ _).1 hp
  rw [headFl_step]
  match j, hj with
  | 0, _ => exact if_pos hp'
  | 1, _ =>
    rw [if_neg (show ¬ r.head? = some 38 from preFl_not (h 0 (by omega)))]
    exact if_pos hp'
  | 2, _ =>
    rw [if_neg (show ¬ r.head? = some 38 from preFl_not (h 0 (by omega))), if_neg (show ¬ r.head? = some 124 from preFl_not (h 1 (by omega)))]
    exact if_pos hp'
theorem headFl_leaf {d : Nat} {r : List UInt8} (h : ∀ i, i < 3 → Lib.hasPrefix r [sgH i] = false) : headD (d + 1) (40 :: r) = if r.contains 41 then (leafD (r.takeWhile (· ≠ 41))).map fun f => (f, (r.dropWhile (· ≠ 41)).drop 1) else none := by
  rw [headFl_step, if_neg (show ¬ r.head? = some 38 from preFl_not (h 0 (by omega))), if_neg (show ¬ r.head? = some 124 from preFl_not (h 1 (by omega))), if_neg (show ¬ r.head? = some 33 from preFl_not (h 2 (by omega)))]
theorem headFl_less {d : Nat} {q : List UInt8} {f : FT} {r : List UInt8} (h : headD d q = some (f, r)) : r.length < q.length ∧ ∀ c ∈ r, c ∈ q := by
  obtain ⟨_, e⟩ := head_sound d q f r h
  obtain ⟨t, ht⟩ := textF_cons f
  rw [e, ht]
  exact ⟨by simp; omega, fun c hc => by simp [hc]⟩

set_option maxRecDepth 100000 in
set_option maxHeartbeats 8000000 in
theorem headFl_all : ∀ (d above : Nat), above + d = 13 → HeadIs above (headD d)
  | 0, above, hd, s, w, hs, ha => by
    have h13 : above = 13 := by omega
    subst h13
    obtain ⟨W0, hW0⟩ : ∃ W, W = w.alloc zF := ⟨_, rfl⟩
    have hb0 : Below w.heap.size w W0 := by rw [hW0]; exact box5 w _ _ _ _ _
    have hx0 : FzAt W0 w.heap.size := by rw [hW0]; exact heap_alloc_new w _
    have HW0 := Lib.hid hW0.symm
    obtain ⟨c0, c1, c2, c3, c4⟩ := fl_cells hx0
    obtain ⟨f0, f1, f2, f3, f4⟩ := fl_frozen hx0
    obtain ⟨z0, z1, z2, z3, z4⟩ := fl_cells (fl_set hx0 (.int .i64 0) (.string ⟨#[]⟩) (.string ⟨#[]⟩) (.slice none 0 0) (.slice none 0 0))
    unfold set5F at z0 z1 z2 z3 z4
    have HF := Lib.hid (fl_setB hb0 (Nat.le_refl w.heap.size) (.int .i64 0) (.string ⟨#[]⟩) (.string ⟨#[]⟩) (.slice none 0 0) (.slice none 0 0))
    clear hW0 hb0 hx0 hs ha hd
    go_enter Tryd.func20, Tryd.ntmps20
    go_upto_region 1 with (fail)
    rw [HW0.out]
    go_wp2
    refine bodyPost_ret (v := .tuple #[.agg #[.int .i64 0, .string ⟨#[]⟩, .string ⟨#[]⟩, .slice none 0 0, .slice none 0 0], .string ⟨#[]⟩, .bool false]) (by simp [results, Tryd.results20, go_sem, z0, z1, z2, z3, z4]) rfl ⟨_, _, _, rfl, ⟨rfl, rfl⟩, HF.out⟩
  | d + 1, above, hd, s, w, hs, ha => by
    have H : HeadIs (above + 1) (headD d) := headFl_all d (above + 1) (by omega)
    have HHo := Lib.hid (fun (k : Int) hk (s : ByteArray) hs ha w => holderFl_any H (fun q f r h => headFl_less h) k hk (by omega : above ≤ 100) s hs ha w)
    obtain ⟨l, hl⟩ : ∃ l, l = s.data.toList := ⟨_, rfl⟩
    rw [← hl]
    obtain ⟨W0, hW0⟩ : ∃ W, W = w.alloc zF := ⟨_, rfl⟩
    have hb0 : Below w.heap.size w W0 := by rw [hW0]; exact box5 w _ _ _ _ _
    have hx0 : FzAt W0 w.heap.size := by rw [hW0]; exact heap_alloc_new w _
    have HB0 := Lib.hid hb0
    have HX0 := Lib.hid hx0
    have HW0 := Lib.hid hW0.symm
    have ta : decide ((12 : Int) < (above : Int)) = false := by simp; omega
    have ta2 : decide (12 < above) = false := by simp; omega
    have hcp := fun W => cutPre_any s ⟨#[40]⟩ (by decide) W
    cases h40 : Lib.hasPrefix l [40] with
    | false =>
      have HA := Lib.hid (headFl_not (d := d) h40)
      rw [← hl, show (⟨#[40]⟩ : ByteArray).data.toList = [40] from rfl, h40, if_neg (by decide)] at hcp
      have HC := Lib.hid hcp
      have hfx := hx0
      have hbx := hb0
      have HBx := Lib.hid hbx; (obtain ⟨c0, c1, c2, c3, c4⟩ := fl_cells hfx); (obtain ⟨f0, f1, f2, f3, f4⟩ := fl_frozen hfx); (obtain ⟨z0, z1, z2, z3, z4⟩ := fl_cells (fl_set hfx (.int .i64 0) (.string ⟨#[]⟩) (.string ⟨#[]⟩) (.slice none 0 0) (.slice none 0 0))); unfold set5F at z0 z1 z2 z3 z4; clear hfx hbx
      clear hb0 hx0 hW0 hs ha hd H hcp h40 hl
      go_enter Tryd.func20, Tryd.ntmps20
      go_upto_region 1 with (fail)
      rw [HW0.out]
      go_wp2_with (go_at_call 30; refine (HC.out _).mono ?_; rintro e w2 ⟨rfl, rfl⟩)
      have hbz := fl_setB HBx.out (Nat.le_refl w.heap.size) (.int .i64 0) (.string ⟨#[]⟩) (.string ⟨#[]⟩) (.slice none 0 0) (.slice none 0 0)
      refine bodyPost_ret (v := .tuple #[.agg #[.int .i64 0, .string ⟨#[]⟩, .string ⟨#[]⟩, .slice none 0 0, .slice none 0 0], .string ⟨#[]⟩, .bool false]) (by simp [results, Tryd.results20, go_sem, z0, z1, z2, z3, z4]) rfl ⟨_, _, _, rfl, ?_, hbz⟩
      rw [HA.out]
      exact ⟨rfl, rfl⟩
    | true =>
      obtain ⟨Y, hY⟩ : ∃ Y, Y = s.extract 1 s.size := ⟨_, rfl⟩
      obtain ⟨r, hr⟩ : ∃ r, r = l.drop 1 := ⟨_, rfl⟩
      have hYl : Y.data.toList = r := by rw [hY, ext_list, hr, hl]
      have hle : l = 40 :: r := by rw [hr]; exact pre_eqFl h40
      have hYs : Y.size ≤ 1000000 := by rw [← bytes_len, hYl, hr, List.length_drop, hl, bytes_len]; omega
      have hYa : ascii r := fun c hc => ha c (by rw [← hl, hr] at *; exact List.mem_of_mem_drop hc)
      rw [← hl, show (⟨#[40]⟩ : ByteArray).data.toList = [40] from rfl, h40, if_pos rfl, show (⟨#[40]⟩ : ByteArray).size = 1 from rfl, ← hY] at hcp
      have HC := Lib.hid hcp
      have HYl := Lib.hid hYl
      have HYs := Lib.hid hYs
      have HYa := Lib.hid hYa
      have HSg : Hid (∀ j, j < 3 → ∀ W, Calls Tryd.prog 31 #[.int .i64 (kdH j)] W fun e w' => e = .returned (.string (ofL [sgH j])) ∧ W = w') := Lib.hid (fun j hj W => by
        have := sign_any (kdH j) W
        rwa [sgH_kd j hj] at this)
      have HCq : Hid (∀ j W, Calls Tryd.prog 30 #[.string Y, .string (ofL [sgH j])] W fun e w' => e = .returned (if Lib.hasPrefix r [sgH j] then .tuple #[.string (Y.extract 1 Y.size), .bool true] else .tuple #[.string Y, .bool false]) ∧ W = w') := Lib.hid (fun j W => by
        have hz : (ofL [sgH j]).size = 1 := by rw [← bytes_len, ofL_list]; rfl
        have := cutPre_any Y (ofL [sgH j]) (by rw [hz]; omega) W
        rwa [ofL_list, hz, hYl] at this)
      obtain ⟨W6, hW6⟩ : ∃ W, W = W0.alloc (.cells #[.int .i64 1, .int .i64 2, .int .i64 3] 3) := ⟨_, rfl⟩
      have HW6 := Lib.hid hW6.symm
      have hb6 : Below W0.heap.size W0 W6 := by rw [hW6]; exact (Below.refl _ _).alloc (Nat.le_refl _) _
      have HK6 : Hid (∀ j, j < 3 → W6.cell? ⟨W0.heap.size, j, none⟩ = some (.int .i64 (kdH j))) := Lib.hid (fun j hj => by
        have hb : W6.heap[W0.heap.size]? = some (.cells #[.int .i64 1, .int .i64 2, .int .i64 3] 3 (0, 0)) := by rw [hW6]; exact heap_alloc_new _ _
        match j, hj with
        | 0, _ => simp [World.cell?, hb, kdH]
        | 1, _ => simp [World.cell?, hb, kdH]
        | 2, _ => simp [World.cell?, hb, kdH])
      have HX6 := Lib.hid (fl_below hx0 hb6 (fl_lt hx0))
      have HB6 := Lib.hid (bthen hb0 hb6)
      have HLt : Hid (w.heap.size < W6.heap.size) := Lib.hid (Nat.lt_of_lt_of_le (fl_lt hx0) hb6.size)
      rw [hle]
      clear hb0 hx0 hW0 hs ha hd H hcp h40 hl hY hr hYl hle hYs hYa hW6 hb6
      go_enter Tryd.func20, Tryd.ntmps20
      go_upto_region 1 with (fail)
      rw [HW0.out]
      go_upto_region 6 with (go_at_call 30; refine (HC.out _).mono ?_; rintro e w2 ⟨rfl, rfl⟩)
      go_wp2
      rw [HW6.out]
      go_loopw [25] (fun s25 wr => ∃ j : Nat, j ≤ 3 ∧ s25 = .int .i64 j ∧ Hid (W6 = wr) ∧ Hid (∀ i, i < j → Lib.hasPrefix r [sgH i] = false)) (fun s25 _ => 3 - (intOf s25).toNat)
      case atStart => exact ⟨0, by omega, rfl, (by first | exact Lib.hid rfl | exact Lib.hid trivial), Lib.hid (fun i hi => absurd hi (Nat.not_lt_zero _))⟩
      case round =>
        obtain ⟨j, hj, rfl, HWr, HNo⟩ := hrel
        rename World => wo
        obtain rfl := HWr.out
        by_cases hlt : j < 3
        · have hcj := HK6.out j hlt
          have HSj := Lib.hid (HSg.out j hlt)
          have hcq := HCq.out j
          have ti0 : (0 : Int) ≤ (j : Int) := by omega
          have ti1 : (j : Int) < 3 := by omega
          cases hpre : Lib.hasPrefix r [sgH j] with
          | false =>
            rw [hpre, if_neg (by decide)] at hcq
            have HCj := Lib.hid hcq
            have HNo2 : Hid (∀ i, i < j + 1 → Lib.hasPrefix r [sgH i] = false) := Lib.hid (fun i hi => by
              by_cases e : i = j
              · rw [e]; exact hpre
              · exact HNo.out i (by omega))
            clear hcq hpre
            go_wp2_with (first
              | (go_at_call 31; refine (HSj.out _).mono ?_; rintro e w2 ⟨rfl, rfl⟩)
              | (go_at_call 30; refine (HCj.out _).mono ?_; rintro e w2 ⟨rfl, rfl⟩))
            go_roundw
            case rel => exact ⟨j + 1, by omega, by go_num, (by first | exact Lib.hid rfl | exact Lib.hid trivial), HNo2⟩
            case measure => simp [intOf]; omega
          | true =>
            rw [hpre, if_pos rfl] at hcq
            have hA := headFl_at (d := d) hlt HNo.out hpre
            obtain ⟨Q, hQ⟩ : ∃ Q, Q = Y.extract 1 Y.size := ⟨_, rfl⟩
            have hQl : Q.data.toList = r.drop 1 := by rw [hQ, ext_list, HYl.out]
            rw [← hQ] at hcq
            have HCj := Lib.hid hcq
            have hrs : r.length ≤ 1000000 := by rw [← HYl.out, bytes_len]; exact HYs.out
            have hho := HHo.out (kdH j) (kdH_wf j hlt) Q (by rw [← bytes_len, hQl, List.length_drop]; omega) (by rw [hQl]; exact fun c hc => HYa.out c (List.mem_of_mem_drop hc)) W6
            rw [hQl] at hho
            obtain ⟨o, ho⟩ : ∃ o, o = holdD (headD d) (kdH j) (r.drop 1) := ⟨_, rfl⟩
            rw [← ho] at hho hA
            have HA := Lib.hid hA
            have HHj := Lib.hid hho
            clear hcq hpre hQ hQl hrs hho ho hA
            cases o with
            | none =>
              go_wp2_with (first
                | (go_at_call 31; refine (HSj.out _).mono ?_; rintro e w2 ⟨rfl, rfl⟩)
                | (go_at_call 30; refine (HCj.out _).mono ?_; rintro e w2 ⟨rfl, rfl⟩)
                | (go_at_call 32; refine (HHj.out).mono ?_; rintro e wz ⟨x, q, b, rfl, ⟨rfl, rfl⟩, hb3⟩; have hfx := fl_below HX6.out hb3 (fl_lt HX6.out); have hbx := bthen HB6.out hb3; have HBx := Lib.hid hbx; (obtain ⟨c0, c1, c2, c3, c4⟩ := fl_cells hfx); (obtain ⟨f0, f1, f2, f3, f4⟩ := fl_frozen hfx); (obtain ⟨z0, z1, z2, z3, z4⟩ := fl_cells (fl_set hfx (.int .i64 0) (.string ⟨#[]⟩) (.string ⟨#[]⟩) (.slice none 0 0) (.slice none 0 0))); unfold set5F at z0 z1 z2 z3 z4; clear hfx hbx))
              have hbz := fl_setB HBx.out (Nat.le_refl w.heap.size) (.int .i64 0) (.string ⟨#[]⟩) (.string ⟨#[]⟩) (.slice none 0 0) (.slice none 0 0)
              refine bodyPost_ret (v := .tuple #[.agg #[.int .i64 0, .string ⟨#[]⟩, .string ⟨#[]⟩, .slice none 0 0, .slice none 0 0], .string q, .bool false]) (by simp [results, Tryd.results20, go_sem, z0, z1, z2, z3, z4]) rfl ⟨_, _, _, rfl, ?_, hbz⟩
              rw [HA.out]
              exact ⟨rfl, rfl⟩
            | some fq =>
              obtain ⟨f, qq⟩ := fq
              go_wp2_with (first
                | (go_at_call 31; refine (HSj.out _).mono ?_; rintro e w2 ⟨rfl, rfl⟩)
                | (go_at_call 30; refine (HCj.out _).mono ?_; rintro e w2 ⟨rfl, rfl⟩)
                | (go_at_call 32; refine (HHj.out).mono ?_; rintro e wz ⟨x, q, b, rfl, ⟨hfl, hq, rfl⟩, hb3⟩; (obtain ⟨kk, T, X, pa, pn, pc, ka, kn, kc, e⟩ := hfl.shape); subst e; have HFl := Lib.hid hfl; have HQ := Lib.hid hq; have hfx := fl_below HX6.out hb3 (fl_lt HX6.out); have hbx := bthen HB6.out hb3; have HBx := Lib.hid hbx; (obtain ⟨c0, c1, c2, c3, c4⟩ := fl_cells hfx); (obtain ⟨f0, f1, f2, f3, f4⟩ := fl_frozen hfx); (obtain ⟨z0, z1, z2, z3, z4⟩ := fl_cells (fl_set hfx (.int .i64 kk) (.string T) (.string X) (.slice pa pn pc) (.slice ka kn kc))); unfold set5F at z0 z1 z2 z3 z4; clear hfx hbx; clear hfl hq hb3))
              have hbz := fl_setB HBx.out (Nat.le_refl w.heap.size) (.int .i64 kk) (.string T) (.string X) (.slice pa pn pc) (.slice ka kn kc)
              have hfn : IsFl (fun b => w.heap.size ≤ b ∧ b < (set5F wz w.heap.size (.int .i64 kk) (.string T) (.string X) (.slice pa pn pc) (.slice ka kn kc)).heap.size) (set5F wz w.heap.size (.int .i64 kk) (.string T) (.string X) (.slice pa pn pc) (.slice ka kn kc)) f (.agg #[.int .i64 kk, .string T, .string X, .slice pa pn pc, .slice ka kn kc]) := by
                refine (HFl.out).imp (fun b h => ⟨?_, ?_⟩) (fun b o h => ?_)
                · exact fl_setC (by have := h.1; have := HLt.out; omega)
                · have := h.1; have := HLt.out; omega
                · rw [set5F_size]; exact h.2
              refine bodyPost_ret (v := .tuple #[.agg #[.int .i64 kk, .string T, .string X, .slice pa pn pc, .slice ka kn kc], .string q, .bool true]) (by simp [results, Tryd.results20, go_sem, z0, z1, z2, z3, z4]) rfl ⟨_, _, _, rfl, ?_, hbz⟩
              rw [HA.out]
              exact ⟨hfn, HQ.out, rfl⟩
        · have h3 : j = 3 := by omega
          subst h3
          have hA := headFl_leaf (d := d) HNo.out
          have hcb := fun W => cutB_any 41 Y W (by have := HYs.out; omega)
          rw [HYl.out] at hcb
          cases h41 : r.contains 41 with
          | false =>
            rw [h41, if_neg (by decide)] at hA
            obtain ⟨A, hAv, _⟩ := strV_text r
            have hcv : cutBV 41 r = .tuple #[.string A, .string ⟨#[]⟩, .bool false] := by
              unfold cutBV
              rw [h41, if_neg (by decide), hAv]
              rfl
            rw [hcv] at hcb
            have HCb := Lib.hid hcb
            have HA := Lib.hid hA
            clear hcb hA h41 hAv hcv
            go_wp2_with (go_at_call 33; refine (HCb.out _).mono ?_; rintro e wz ⟨rfl, n9, hw9⟩; have hb3 : Below W6.heap.size W6 wz := by { rw [← hw9]; exact below_drewN2 (Below.refl _ _) n9 }; clear hw9; have hfx := fl_below HX6.out hb3 (fl_lt HX6.out); have hbx := bthen HB6.out hb3; have HBx := Lib.hid hbx; (obtain ⟨c0, c1, c2, c3, c4⟩ := fl_cells hfx); (obtain ⟨f0, f1, f2, f3, f4⟩ := fl_frozen hfx); (obtain ⟨z0, z1, z2, z3, z4⟩ := fl_cells (fl_set hfx (.int .i64 0) (.string ⟨#[]⟩) (.string ⟨#[]⟩) (.slice none 0 0) (.slice none 0 0))); unfold set5F at z0 z1 z2 z3 z4; clear hfx hbx; clear hb3)
            have hbz := fl_setB HBx.out (Nat.le_refl w.heap.size) (.int .i64 0) (.string ⟨#[]⟩) (.string ⟨#[]⟩) (.slice none 0 0) (.slice none 0 0)
            refine bodyPost_ret (v := .tuple #[.agg #[.int .i64 0, .string ⟨#[]⟩, .string ⟨#[]⟩, .slice none 0 0, .slice none 0 0], .string ⟨#[]⟩, .bool false]) (by simp [results, Tryd.results20, go_sem, z0, z1, z2, z3, z4]) rfl ⟨_, _, _, rfl, ?_, hbz⟩
            rw [HA.out]
            exact ⟨rfl, rfl⟩
          | true =>
            rw [h41, if_pos rfl] at hA
            obtain ⟨A, hAv, hAl⟩ := strV_text (r.takeWhile (· ≠ 41))
            obtain ⟨Bq, hBv, hBl⟩ := strV_text ((r.dropWhile (· ≠ 41)).drop 1)
            have hcv : cutBV 41 r = .tuple #[.string A, .string Bq, .bool true] := by
              unfold cutBV
              rw [h41, if_pos rfl, hAv, hBv]
            rw [hcv] at hcb
            have HCb := Lib.hid hcb
            have hrs : r.length ≤ 1000000 := by rw [← HYl.out, bytes_len]; exact HYs.out
            have hAs : A.size ≤ 1000000 := by
              rw [← bytes_len, hAl]
              exact Nat.le_trans (List.takeWhile_prefix _).length_le hrs
            have hlf := fun W => leaf_any A hAs (by rw [hAl]; exact fun c hc => HYa.out c ((List.takeWhile_prefix _).subset hc)) W
            rw [hAl] at hlf
            obtain ⟨o, ho⟩ : ∃ o, o = leafD (r.takeWhile (· ≠ 41)) := ⟨_, rfl⟩
            rw [← ho] at hlf hA
            have HLf := Lib.hid hlf
            have HA := Lib.hid hA
            have HBq := Lib.hid hBl
            clear hcb hA h41 hAv hcv hBv hrs hAs hlf ho hAl hBl
            cases o with
            | none =>
              go_upto_region 17 with (first
                | (go_at_call 33; refine (HCb.out _).mono ?_; rintro e wy ⟨rfl, n9, hw9⟩; have hb3 : Below W6.heap.size W6 wy := by { rw [← hw9]; exact below_drewN2 (Below.refl _ _) n9 }; clear hw9; have HB3 := Lib.hid hb3; clear hb3)
                | (go_at_call 34; refine (HLf.out _).mono ?_; rintro e wz ⟨x, b, rfl, ⟨rfl, rfl⟩, hb4⟩; have hfx := fl_below (fl_below HX6.out HB3.out (fl_lt HX6.out)) hb4 (Nat.lt_of_lt_of_le (fl_lt HX6.out) HB3.out.size); have hbx := bthen (bthen HB6.out HB3.out) hb4; have HBx := Lib.hid hbx; have HFx := Lib.hid hfx; (obtain ⟨c0, c1, c2, c3, c4⟩ := fl_cells hfx); (obtain ⟨f0, f1, f2, f3, f4⟩ := fl_frozen hfx); clear hfx hbx; clear hb4))
              obtain ⟨W9, hW9⟩ : ∃ W, W = set5F wz w.heap.size (.int .i64 0) (.string ⟨#[]⟩) (.string ⟨#[]⟩) (.slice none 0 0) (.slice none 0 0) := ⟨_, rfl⟩
              have h9b : Below w.heap.size w W9 := by rw [hW9]; exact fl_setB HBx.out (Nat.le_refl w.heap.size) (.int .i64 0) (.string ⟨#[]⟩) (.string ⟨#[]⟩) (.slice none 0 0) (.slice none 0 0)
              have h9s : W9.heap.size = wz.heap.size := by rw [hW9]; exact set5F_size _ _ _ _ _ _ _
              have h9c : ∀ b o, b ≠ w.heap.size → W9.cell? ⟨b, o, none⟩ = wz.cell? ⟨b, o, none⟩ := fun b o h => by rw [hW9]; exact fl_setC h
              have h9f : FlAt W9 w.heap.size (.int .i64 0) (.string ⟨#[]⟩) (.string ⟨#[]⟩) (.slice none 0 0) (.slice none 0 0) := by rw [hW9]; exact fl_set HFx.out (.int .i64 0) (.string ⟨#[]⟩) (.string ⟨#[]⟩) (.slice none 0 0) (.slice none 0 0)
              unfold set5F at hW9
              rw [← hW9]
              have H9b := Lib.hid h9b
              have H9s := Lib.hid h9s
              have H9c := Lib.hid h9c
              clear c0 c1 c2 c3 c4 f0 f1 f2 f3 f4 hW9 h9b h9s h9c
              obtain ⟨c0, c1, c2, c3, c4⟩ := fl_cells h9f
              obtain ⟨f0, f1, f2, f3, f4⟩ := fl_frozen h9f
              obtain ⟨z0, z1, z2, z3, z4⟩ := fl_cells (fl_set h9f (.int .i64 0) (.string ⟨#[]⟩) (.string ⟨#[]⟩) (.slice none 0 0) (.slice none 0 0))
              unfold set5F at z0 z1 z2 z3 z4
              clear h9f
              go_wp2
              have hbz := fl_setB H9b.out (Nat.le_refl w.heap.size) (.int .i64 0) (.string ⟨#[]⟩) (.string ⟨#[]⟩) (.slice none 0 0) (.slice none 0 0)
              refine bodyPost_ret (v := .tuple #[.agg #[.int .i64 0, .string ⟨#[]⟩, .string ⟨#[]⟩, .slice none 0 0, .slice none 0 0], .string Bq, .bool false]) (by simp [results, Tryd.results20, go_sem, z0, z1, z2, z3, z4]) rfl ⟨_, _, _, rfl, ?_, hbz⟩
              rw [HA.out]
              exact ⟨rfl, rfl⟩
            | some f =>
              go_upto_region 17 with (first
                | (go_at_call 33; refine (HCb.out _).mono ?_; rintro e wy ⟨rfl, n9, hw9⟩; have hb3 : Below W6.heap.size W6 wy := by { rw [← hw9]; exact below_drewN2 (Below.refl _ _) n9 }; clear hw9; have HB3 := Lib.hid hb3; have HLy := Lib.hid hb3.size; clear hb3)
                | (go_at_call 34; refine (HLf.out _).mono ?_; rintro e wz ⟨x, b, rfl, ⟨hfl, rfl⟩, hb4⟩; (obtain ⟨kk, T, X, pa, pn, pc, ka, kn, kc, e⟩ := hfl.shape); subst e; have HFl := Lib.hid (hfl.imp (ok' := fun b => W6.heap.size ≤ b ∧ b < wz.heap.size) (fun b h => ⟨Nat.le_trans HLy.out h.1, h.2⟩) (fun _ _ _ => rfl)); have hfx := fl_below (fl_below HX6.out HB3.out (fl_lt HX6.out)) hb4 (Nat.lt_of_lt_of_le (fl_lt HX6.out) HB3.out.size); have hbx := bthen (bthen HB6.out HB3.out) hb4; have HBx := Lib.hid hbx; have HFx := Lib.hid hfx; (obtain ⟨c0, c1, c2, c3, c4⟩ := fl_cells hfx); (obtain ⟨f0, f1, f2, f3, f4⟩ := fl_frozen hfx); clear hfx hbx; clear hb4 hfl))
              obtain ⟨W9, hW9⟩ : ∃ W, W = set5F wz w.heap.size (.int .i64 kk) (.string T) (.string X) (.slice pa pn pc) (.slice ka kn kc) := ⟨_, rfl⟩
              have h9b : Below w.heap.size w W9 := by rw [hW9]; exact fl_setB HBx.out (Nat.le_refl w.heap.size) (.int .i64 kk) (.string T) (.string X) (.slice pa pn pc) (.slice ka kn kc)
              have h9s : W9.heap.size = wz.heap.size := by rw [hW9]; exact set5F_size _ _ _ _ _ _ _
              have h9c : ∀ b o, b ≠ w.heap.size → W9.cell? ⟨b, o, none⟩ = wz.cell? ⟨b, o, none⟩ := fun b o h => by rw [hW9]; exact fl_setC h
              have h9f : FlAt W9 w.heap.size (.int .i64 kk) (.string T) (.string X) (.slice pa pn pc) (.slice ka kn kc) := by rw [hW9]; exact fl_set HFx.out (.int .i64 kk) (.string T) (.string X) (.slice pa pn pc) (.slice ka kn kc)
              unfold set5F at hW9
              rw [← hW9]
              have H9b := Lib.hid h9b
              have H9s := Lib.hid h9s
              have H9c := Lib.hid h9c
              clear c0 c1 c2 c3 c4 f0 f1 f2 f3 f4 hW9 h9b h9s h9c
              obtain ⟨c0, c1, c2, c3, c4⟩ := fl_cells h9f
              obtain ⟨f0, f1, f2, f3, f4⟩ := fl_frozen h9f
              obtain ⟨z0, z1, z2, z3, z4⟩ := fl_cells (fl_set h9f (.int .i64 kk) (.string T) (.string X) (.slice pa pn pc) (.slice ka kn kc))
              unfold set5F at z0 z1 z2 z3 z4
              clear h9f
              go_wp2
              have hbz := fl_setB H9b.out (Nat.le_refl w.heap.size) (.int .i64 kk) (.string T) (.string X) (.slice pa pn pc) (.slice ka kn kc)
              have hfn : IsFl (fun b => w.heap.size ≤ b ∧ b < (set5F W9 w.heap.size (.int .i64 kk) (.string T) (.string X) (.slice pa pn pc) (.slice ka kn kc)).heap.size) (set5F W9 w.heap.size (.int .i64 kk) (.string T) (.string X) (.slice pa pn pc) (.slice ka kn kc)) f (.agg #[.int .i64 kk, .string T, .string X, .slice pa pn pc, .slice ka kn kc]) := by
                refine (HFl.out).imp (fun b h => ⟨?_, ?_⟩) (fun b o h => ?_)
                · have hb : b ≠ w.heap.size := by have := h.1; have := HLt.out; omega
                  exact (fl_setC hb).trans (H9c.out b o hb)
                · have := h.1; have := HLt.out; omega
                · rw [set5F_size, H9s.out]; exact h.2
              refine bodyPost_ret (v := .tuple #[.agg #[.int .i64 kk, .string T, .string X, .slice pa pn pc, .slice ka kn kc], .string Bq, .bool true]) (by simp [results, Tryd.results20, go_sem, z0, z1, z2, z3, z4]) rfl ⟨_, _, _, rfl, ?_, hbz⟩
              rw [HA.out]
              exact ⟨hfn, HBq.out, rfl⟩
end Go.Proofs.YtdcfmgnpjmpboaaDoor
