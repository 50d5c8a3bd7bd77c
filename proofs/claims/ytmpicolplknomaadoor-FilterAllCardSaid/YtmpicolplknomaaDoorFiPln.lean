/- The document's plain: the walk. -/
import Derived.Test.YtmpicolplknomaaDoorFiOnP
import Derived.Test.YtmpicolplknomaaDoorFiMay
import Derived.Laws.OwnMore
import Derived.Deep.RegionLaw
import Derived.RegionTactic
namespace Go.Proofs.YtmpicolplknomaaDoor
open Go.RowKit
set_option linter.unusedVariables false
set_option linter.unusedSimpArgs false

/-- The parts so far, the last one being read; what is still to be read stands at i. -/
structure PlnAt (w wr : World) (s : ByteArray) (at' i : Nat) (v : Value) (L : List (List UInt8)) (cur : List UInt8) : Prop where
  own : OwnS w.heap.size wr v (L ++ [cur])
  bel : Below w.heap.size w wr
  lo : at' ≤ i
  hi : i ≤ s.size
  few : L.length + cur.length ≤ i - at'
  says : plainO [] (s.data.toList.drop at') = (L ++ (plainO cur (s.data.toList.drop i)).1, (plainO cur (s.data.toList.drop i)).2)
theorem ownS_last {B : Nat} {w : World} {g cp : Nat} {L : List (List UInt8)} {cur X : List UInt8} (h : OwnS B w (.slice (some ⟨g, 0, none⟩) (L.length + 1) cp) (L ++ [cur])) :
    OwnS B (w.setCell ⟨g, L.length, none⟩ (strV X)) (.slice (some ⟨g, 0, none⟩) (L.length + 1) cp) (L ++ [X]) ∧ w.grownBy (w.setCell ⟨g, L.length, none⟩ (strV X)) (some g) := by
  unfold OwnS at h ⊢
  rw [List.length_append, List.length_singleton] at h ⊢
  have := World.ownsRow.stored (h := h) L.length (strV X)
  refine ⟨?_, this.2⟩
  have h1 := this.1
  rw [List.map_append, List.map_singleton, List.set_append_right _ _ (by simp)] at h1
  rw [List.map_append]
  simpa using h1
theorem ownS_new (w : World) : OwnS w.heap.size (w.alloc (.cells #[.string ⟨#[]⟩] 9)) (.slice (some ⟨w.heap.size, 0, none⟩) 1 1) [[]] := by
  refine ⟨by simp, .inr ⟨w.heap.size, 1, #[.string ⟨#[]⟩], rfl, Nat.le_refl _, heap_alloc_new w _, by simp, by unfold maxLen; omega, by simp, rfl⟩⟩
theorem plnAt_last {w wr : World} {s : ByteArray} {at' i : Nat} {v : Value} {L : List (List UInt8)} {cur : List UInt8} (h : PlnAt w wr s at' i v L cur) : ∃ g cp, v = .slice (some ⟨g, 0, none⟩) (L.length + 1) cp ∧ w.heap.size ≤ g ∧ g < wr.heap.size ∧ wr.cell? ⟨g, L.length, none⟩ = some (strV cur) ∧ wr.frozen? ⟨g, L.length, none⟩ = false := by
  have hfz := h.own
  obtain ⟨g, c, e, hB, hg, hc⟩ := ownS_at h.own (by simp)
  rw [e] at hfz
  refine ⟨g, c, by rw [e, List.length_append]; rfl, hB, hg, ?_, World.ownsRow.frozenAt hfz _⟩
  have := hc L.length (by simp)
  rw [this]
  simp
theorem plnAt_next {w wr : World} {s : ByteArray} {at' i n : Nat} {g cp : Nat} {L : List (List UInt8)} {cur X : List UInt8} (h : PlnAt w wr s at' i (.slice (some ⟨g, 0, none⟩) (L.length + 1) cp) L cur) (W : World) (hW : Below wr.heap.size wr W) (hn : i + n ≤ s.size) (h1 : X.length ≤ cur.length + n)
    (hs : plainO cur (s.data.toList.drop i) = plainO X (s.data.toList.drop (i + n))) : PlnAt w (W.setCell ⟨g, L.length, none⟩ (strV X)) s at' (i + n) (.slice (some ⟨g, 0, none⟩) (L.length + 1) cp) L X := by
  have hB : w.heap.size ≤ g := by
    obtain ⟨g', c, e, hB, _⟩ := ownS_at h.own (by simp)
    have := (Value.slice.inj e).1
    simp only [Option.some.injEq, Addr.mk.injEq, and_true] at this
    omega
  have h2 := ownS_last (X := X) (ownS_below h.own hW)
  refine ⟨h2.1, (h.bel.trans (hW.mono h.bel.size)).grown h2.2 (Nat.le_trans h.bel.size hW.size) (fun k e => by have := Option.some.inj e; omega), by have := h.lo; omega, hn, by have := h.few; have := h.lo; omega, ?_⟩
  rw [h.says, hs]

theorem alloc_set_drew (w : World) (n i : Nat) (v : Value) (o : Obj) (h : n < w.heap.size) : (w.drew.alloc o).setCell ⟨n, i, none⟩ v = ((w.setCell ⟨n, i, none⟩ v).alloc o).drew :=
  congrArg World.drew (World.setCell_alloc_past o n i v h)
theorem conv_oneP (m : Int) (b : UInt8) (h : (b.toNat : Int) = m) (w : World) : (convert 44 9 (.slice (some ⟨w.heap.size, 0, none⟩) 1 1)).run Tryd.prog (w.alloc (.cells #[.int .u8 m] 5)) = .ok (.string (ofL [b])) (w.alloc (.cells #[.int .u8 m] 5)) := by
  subst h
  refine run_convert_bytes_back _ 44 9 5 _ 1 [b] Tryd.underlying44 Tryd.underlying5 Tryd.underlying9 fun j hj => ?_
  have : j = 0 := by simp at hj; omega
  subst this
  simp [Addr.add]
theorem plainO_short (cur : List UInt8) {l : List UInt8} (h : l.length ≤ 1) : plainO cur (92 :: l) = plainO (cur ++ [92]) l := by
  match l, h with
  | [], _ => exact plainO_mark cur
  | [x], _ => exact plainO_mark1 cur x
set_option maxRecDepth 100000 in
set_option maxHeartbeats 8000000 in
theorem plainRef_any (s : ByteArray) (hs : s.size ≤ 100000) (at' : Nat) (hat : at' ≤ s.size) (w : World) :
    Calls Tryd.prog 31 #[.string s, .int .i64 at'] w fun e w' => ∃ v n, e = .returned (.tuple #[v, .int .i64 (n : Nat)]) ∧ OwnS w.heap.size w' v (plainO [] (s.data.toList.drop at')).1 ∧ n ≤ s.size ∧ s.data.toList.drop n = (plainO [] (s.data.toList.drop at')).2 ∧ Below w.heap.size w w' := by
  obtain ⟨W1, hW1⟩ : ∃ W, w.alloc (.cells #[.string ⟨#[]⟩] 9) = W := ⟨_, rfl⟩
  have hb1 : Below w.heap.size w W1 := by rw [← hW1]; exact (Below.refl _ _).alloc (Nat.le_refl _) _
  have ho1 : OwnS w.heap.size W1 (.slice (some ⟨w.heap.size, 0, none⟩) 1 1) [[]] := by rw [← hW1]; exact ownS_new w
  have hst : PlnAt w W1 s at' at' (.slice (some ⟨w.heap.size, 0, none⟩) 1 1) [] [] := ⟨ho1, hb1, Nat.le_refl _, hat, by simp, by simp⟩
  have HSt := Lib.hid hst
  clear hb1 ho1 hst
  go_enter Tryd.func31, Tryd.ntmps31
  go_wp2
  clear hW1
  go_loopw [6, 7] (fun v i wr => ∃ (L : List (List UInt8)) (cur : List UInt8) (j : Nat), i = .int .i64 j ∧ Hid (PlnAt w wr s at' j v L cur)) (fun _ i _ => s.size - (intOf i).toNat)
  case atStart => exact ⟨[], [], at', rfl, HSt⟩
  case round =>
    obtain ⟨L, cur, j, rfl, HAt⟩ := hrel
    obtain ⟨g, cp, rfl, hgB, hgl, hcell, hfroz⟩ := plnAt_last HAt.out
    have hjs := HAt.out.hi
    have hlo := HAt.out.lo
    have hfew := HAt.out.few
    obtain ⟨kk, hkk⟩ : ∃ kk, kk = L.length := ⟨_, rfl⟩
    rw [← hkk] at hcell hfroz hfew ⊢
    by_cases hlt : j < s.size
    · have t1 : decide ((j : Int) < (s.size : Int)) = true := by simp; omega
      obtain ⟨c, hc⟩ : ∃ c : UInt8, c = s[j] := ⟨_, rfl⟩
      have hc' : s[j]'hlt = c := hc.symm
      have hcl := c.toNat_lt
      have hjl : j < s.data.toList.length := by rw [bytes_len]; exact hlt
      have hd : s.data.toList.drop j = c :: s.data.toList.drop (j + 1) := by rw [List.drop_eq_getElem_cons hjl]; rw [hc]; rfl
      by_cases h41 : c.toNat = 41 ∨ c.toNat = 40
      · have hsay := HAt.out.says
        have hco : c = 41 ∨ c = 40 := by
          rcases h41 with h | h
          · exact .inl (UInt8.toNat_inj.1 h)
          · exact .inr (UInt8.toNat_inj.1 h)
        rw [hd, plainO_end _ _ hco, ← hd] at hsay
        have HSay := Lib.hid hsay
        have HKk := Lib.hid hkk
        clear hsay hkk hd hco hc
        by_cases h0 : c.toNat = 41
        · have t2 : ((c.toNat : Int) == 41) = true := by simp [h0]
          clear h41 h0
          go_wp2
          go_ret2
          refine ⟨_, j, rfl, ?_, hjs, by rw [HSay.out], HAt.out.bel⟩
          rw [HSay.out, HKk.out]
          exact HAt.out.own
        · have t2 : ((c.toNat : Int) == 41) = false := by simp; omega
          have t3 : ((c.toNat : Int) == 40) = true := by simp; omega
          clear h41 h0
          go_wp2
          go_ret2
          refine ⟨_, j, rfl, ?_, hjs, by rw [HSay.out], HAt.out.bel⟩
          rw [HSay.out, HKk.out]
          exact HAt.out.own
      · have t2 : ((c.toNat : Int) == 41) = false := by simp; omega
        have t3 : ((c.toNat : Int) == 40) = false := by simp; omega
        by_cases h42 : c.toNat = 42
        · have t4 : ((c.toNat : Int) == 42) = true := by simp [h42]
          have hco : c = 42 := UInt8.toNat_inj.1 h42
          have hsay := HAt.out.says
          rw [hd, hco, plainO_star] at hsay
          have HSay := Lib.hid hsay
          have HKk := Lib.hid hkk
          have hown := HAt.out.own
          rw [← hkk] at hown
          have HOwn := Lib.hid hown
          have hLl : (L ++ [cur]).length = kk + 1 := by rw [List.length_append, ← hkk]; rfl
          have HLl := Lib.hid hLl
          have hbs := HAt.out.bel.size
          clear hsay hkk hd hco hc h41 h42 hown hLl
          go_wp2_with (at_builtin; refine wpList_append_text rfl (.tmp 51) (.tmp 52) rfl w.heap.size (.slice (some ⟨g, 0, none⟩) (kk + 1) cp) (L ++ [cur]) rfl ⟨#[]⟩ HOwn.out rfl (by rw [HLl.out]; omega) hbs ?_; intro v5 w5 hown5 hb5; have HO5 := Lib.hid hown5; have HB5 := Lib.hid hb5; clear hown5 hb5)
          go_roundw
          case rel =>
            refine ⟨L ++ [cur], [], j + 1, by go_num, Lib.hid ⟨HO5.out, HAt.out.bel.trans HB5.out, by omega, by omega, by rw [HLl.out]; simp only [List.length_nil]; omega, ?_⟩⟩
            rw [HSay.out]
            simp
          case measure => simp [intOf]; omega
        · have t4 : ((c.toNat : Int) == 42) = false := by simp; omega
          obtain ⟨A, hA⟩ : ∃ A, A = ofL cur := ⟨_, rfl⟩
          have hAs : A.size = cur.length := by rw [hA, ofL_size]
          have hcell2 : wr.cell? ⟨g, kk, none⟩ = some (.string A) := by rw [hcell, hA]; rfl
          have e0 : IntKind.i64.wrap ((kk : Int) + 1 - 1) = (kk : Int) := by rw [IntWalk.i64_in _ (by omega)]; omega
          have hone := one_byte s j hlt
          have hos := one_size s j hlt
          obtain ⟨O, hO⟩ : ∃ O, s.extract j (j + 1) = O := ⟨_, rfl⟩
          rw [hO] at hone hos
          rw [show s[j] = c from hc'] at hone
          have hOe : O = ofL [c] := bytes_ext (by rw [hone, ofL_list])
          have hAO : Value.string (A ++ O) = strV (cur ++ [c]) := by rw [hA, hOe, ofL_app]; rfl
          have q2 : A.size + O.size ≤ 9223372036854775807 := by omega
          have q0 : (j : Int) + 1 ≤ (s.size : Int) := by omega
          have b1 : (kk : Int) < (kk : Int) + 1 := by omega
          have hdr : Below wr.heap.size wr wr.drew := ⟨rfl, rfl, rfl, Nat.le_refl _, fun _ _ => rfl⟩
          by_cases h92 : c.toNat = 92
          · have t5 : ((c.toNat : Int) == 92) = true := by simp [h92]
            have hco : c = 92 := UInt8.toNat_inj.1 h92
            by_cases h2 : j + 2 < s.size
            · have t6 : decide ((j : Int) + 2 < (s.size : Int)) = true := by simp; omega
              have hlt1 : j + 1 < s.size := by omega
              have hl1 := drop_at s (j + 1) hlt1
              have hl2 := drop_at s (j + 2) h2
              obtain ⟨x, hx⟩ : ∃ x : UInt8, x = s[j + 1] := ⟨_, rfl⟩
              have hx' : s[j + 1]'hlt1 = x := hx.symm
              have hxl := x.toNat_lt
              obtain ⟨y, hy⟩ : ∃ y : UInt8, y = s[j + 2] := ⟨_, rfl⟩
              have hy' : s[j + 2]'h2 = y := hy.symm
              have hyl := y.toNat_lt
              rw [← hx] at hl1
              rw [← hy] at hl2
              rw [hl2] at hl1
              have g1 : (j : Int) + 1 < (s.size : Int) := by omega
              have g2 : (j : Int) + 2 < (s.size : Int) := by omega
              have hhx := fun w => hexRef_any x w
              have hhy := fun w => hexRef_any y w
              have hd1 := (hex_idx x).1
              have hd2 := (hex_idx y).1
              have hu1 : hexI x = if hexB x then (hexN x : Int) else -1 := rfl
              have hu2 : hexI y = if hexB y then (hexN y : Int) else -1 := rfl
              cases hbx : hexB x with
              | false =>
                rw [hbx] at hu1
                simp only [hu1] at hhx
                have HH1 := Lib.hid hhx
                have hstep : plainO cur (s.data.toList.drop j) = plainO (cur ++ [c]) (s.data.toList.drop (j + 1)) := by
                  rw [hd, hl1, hco]
                  exact plainO_no _ _ (by unfold escO; rw [hbx]; rfl)
                have HNx : Hid (PlnAt w ((wr.setCell ⟨g, kk, none⟩ (.string (A ++ O))).drew) s at' (j + 1) (.slice (some ⟨g, 0, none⟩) (kk + 1) cp) L (cur ++ [c])) := by
                  rw [hAO, hkk]
                  exact Lib.hid (plnAt_next HAt.out wr.drew hdr (by omega) (by simp) hstep)
                clear hkk hd hc h41 h42 hstep hone hOe hAO hcell hA hdr h92 hco hl1 hl2 hx hy hhx hhy hd1 hd2 hu1 hu2 hbx
                go_wp2_with (go_at_call 47; ((with_reducible refine (HH1.out _).mono ?_); rintro e w2 ⟨rfl, rfl⟩))
                go_region
                all_goals
                  go_wp2
                  go_roundw
                  case rel => exact ⟨L, cur ++ [c], j + 1, by go_num, HNx⟩
                  case measure => simp [intOf]; omega
              | true =>
                rw [hbx] at hu1
                simp only [hu1] at hhx
                obtain ⟨_, hm⟩ := hd1 hbx
                obtain ⟨m, hme⟩ : ∃ m, m = hexN x := ⟨_, rfl⟩
                simp only [← hme, if_true] at hhx
                rw [← hme] at hm
                have HH1 := Lib.hid hhx
                have m0 : decide ((0 : Int) ≤ (m : Int)) = true := by simp
                cases hby : hexB y with
                | false =>
                  rw [hby] at hu2
                  simp only [hu2] at hhy
                  have HH2 := Lib.hid hhy
                  have hstep : plainO cur (s.data.toList.drop j) = plainO (cur ++ [c]) (s.data.toList.drop (j + 1)) := by
                    rw [hd, hl1, hco]
                    exact plainO_no _ _ (by unfold escO; rw [hbx, hby]; rfl)
                  have HNx : Hid (PlnAt w ((wr.setCell ⟨g, kk, none⟩ (.string (A ++ O))).drew) s at' (j + 1) (.slice (some ⟨g, 0, none⟩) (kk + 1) cp) L (cur ++ [c])) := by
                    rw [hAO, hkk]
                    exact Lib.hid (plnAt_next HAt.out wr.drew hdr (by omega) (by simp) hstep)
                  clear hkk hd hc h41 h42 hstep hone hOe hAO hcell hA hdr h92 hco hl1 hl2 hx hy hhx hhy hd1 hd2 hu1 hu2 hbx hby hme
                  go_wp2_with (first
                      | (go_at_call 47; ((with_reducible refine (HH1.out _).mono ?_); rintro e w2 ⟨rfl, rfl⟩))
                      | (go_at_call 47; ((with_reducible refine (HH2.out _).mono ?_); rintro e w2 ⟨rfl, rfl⟩)))
                  go_region
                  all_goals
                    go_wp2
                    go_roundw
                    case rel => exact ⟨L, cur ++ [c], j + 1, by go_num, HNx⟩
                    case measure => simp [intOf]; omega
                | true =>
                  rw [hby] at hu2
                  simp only [hu2] at hhy
                  obtain ⟨_, hk⟩ := hd2 hby
                  obtain ⟨k, hke⟩ : ∃ k, k = hexN y := ⟨_, rfl⟩
                  simp only [← hke, if_true] at hhy
                  rw [← hke] at hk
                  have HH2 := Lib.hid hhy
                  have k0 : decide ((0 : Int) ≤ (k : Int)) = true := by simp
                  have hz : ((UInt8.ofNat (m * 16 + k)).toNat : Int) = (m : Int) * 16 + (k : Int) := by simp; omega
                  obtain ⟨z, hze⟩ : ∃ z, z = UInt8.ofNat (m * 16 + k) := ⟨_, rfl⟩
                  rw [← hze] at hz
                  have hstep : plainO cur (s.data.toList.drop j) = plainO (cur ++ [z]) (s.data.toList.drop (j + 3)) := by
                    rw [hd, hl1, hco]
                    exact plainO_esc _ _ (by unfold escO; rw [hbx, hby, ← hme, ← hke, ← hze]; rfl)
                  have e1 : IntKind.i64.wrap ((m : Int) * 16) = (m : Int) * 16 := IntWalk.i64_in _ (by omega)
                  have e2 : IntKind.i64.wrap ((m : Int) * 16 + (k : Int)) = (m : Int) * 16 + (k : Int) := IntWalk.i64_in _ (by omega)
                  have e3 : IntKind.u8.wrap ((m : Int) * 16 + (k : Int)) = (m : Int) * 16 + (k : Int) := IntWalk.u8_in _ (by omega)
                  have e4 : IntKind.i64.wrap ((j : Int) + 1) = (j : Int) + 1 := IntWalk.i64_in _ (by omega)
                  have e5 : IntKind.i64.wrap ((j : Int) + 2) = (j : Int) + 2 := IntWalk.i64_in _ (by omega)
                  have n1 : (0 : Int) ≤ (j : Int) + 1 := by omega
                  have n2 : (0 : Int) ≤ (j : Int) + 2 := by omega
                  have n3 : ((j : Int) + 1).toNat = j + 1 := by omega
                  have n4 : ((j : Int) + 2).toNat = j + 2 := by omega
                  obtain ⟨M, hM⟩ : ∃ M : Int, M = (m : Int) * 16 + (k : Int) := ⟨_, rfl⟩
                  obtain ⟨Q, hQ⟩ : ∃ Q, Q = ofL [z] := ⟨_, rfl⟩
                  have hQs : Q.size = 1 := by rw [hQ, ofL_size]; rfl
                  have hcv : (convert 44 9 (.slice (some ⟨wr.heap.size, 0, none⟩) 1 1)).run Tryd.prog (wr.alloc (.cells #[.int .u8 ((m : Int) * 16 + (k : Int))] 5)).drew = .ok (.string Q) (wr.alloc (.cells #[.int .u8 ((m : Int) * 16 + (k : Int))] 5)).drew := by
                    rw [hQ]
                    exact conv_oneP ((m : Int) * 16 + (k : Int)) z hz wr.drew
                  have hAQ : Value.string (A ++ Q) = strV (cur ++ [z]) := by rw [hA, hQ, ofL_app]; rfl
                  have q3 : A.size + Q.size ≤ 9223372036854775807 := by omega
                  have hbl : Below wr.heap.size wr (wr.drew.alloc (.cells #[.int .u8 ((m : Int) * 16 + (k : Int))] 5)) := hdr.alloc (Nat.le_refl _) _
                  have hc5 : (wr.alloc (.cells #[.int .u8 ((m : Int) * 16 + (k : Int))] 5)).drew.cell? ⟨g, kk, none⟩ = some (.string A) := (hbl.cell hgl).trans hcell2
                  have hf5 : (wr.alloc (.cells #[.int .u8 ((m : Int) * 16 + (k : Int))] 5)).drew.frozen? ⟨g, kk, none⟩ = false := (hbl.frozen hgl).trans hfroz
                  have hweq := alloc_set_drew wr g kk (.string (A ++ Q)) (.cells #[.int .u8 ((m : Int) * 16 + (k : Int))] 5) hgl
                  have HNx : Hid (PlnAt w ((wr.setCell ⟨g, kk, none⟩ (.string (A ++ Q))).alloc (.cells #[.int .u8 ((m : Int) * 16 + (k : Int))] 5)).drew s at' (j + 3) (.slice (some ⟨g, 0, none⟩) (kk + 1) cp) L (cur ++ [z])) := by
                    rw [← hweq, hAQ, hkk]
                    exact Lib.hid (plnAt_next HAt.out _ hbl (by omega) (by simp) hstep)
                  clear hkk hd hc h41 h42 hstep hone hOe hAO hcell hA hdr h92 hco hl1 hl2 hx hy hhx hhy hd1 hd2 hu1 hu2 hbx hby hme hke hze hz hAQ hbl hQ hM M hAs hQs hos hO q2 q0 hweq
                  go_wp2_with (first
                    | (go_at_call 47; ((with_reducible refine (HH1.out _).mono ?_); rintro e w2 ⟨rfl, rfl⟩))
                    | (go_at_call 47; ((with_reducible refine (HH2.out _).mono ?_); rintro e w2 ⟨rfl, rfl⟩)))
                  have q4 : (9223372036854775807 < A.size + Q.size) = False := by simp; omega
                  go_region_law (first
                    | (go_simp; go_at_call 47; ((with_reducible refine (HH1.out _).mono ?_); rintro e w2 ⟨rfl, rfl⟩))
                    | (go_simp; go_at_call 47; ((with_reducible refine (HH2.out _).mono ?_); rintro e w2 ⟨rfl, rfl⟩)))
                  all_goals
                    go_wp2
                    go_roundw
                    case rel => exact ⟨L, cur ++ [z], j + 3, by first | rfl | go_num, HNx⟩
                    case measure => simp [intOf]; omega
            · have t6 : decide ((j : Int) + 2 < (s.size : Int)) = false := by simp; omega
              have hstep : plainO cur (s.data.toList.drop j) = plainO (cur ++ [c]) (s.data.toList.drop (j + 1)) := by
                rw [hd, hco]
                exact plainO_short _ (by rw [List.length_drop, bytes_len]; omega)
              have HNx : Hid (PlnAt w ((wr.setCell ⟨g, kk, none⟩ (.string (A ++ O))).drew) s at' (j + 1) (.slice (some ⟨g, 0, none⟩) (kk + 1) cp) L (cur ++ [c])) := by
                rw [hAO, hkk]
                exact Lib.hid (plnAt_next HAt.out wr.drew hdr (by omega) (by simp) hstep)
              clear hkk hd hc h41 h42 hstep hone hOe hAO hcell hA hdr h92 hco
              go_wp2
              go_region
              all_goals
                go_wp2
                go_roundw
                case rel => exact ⟨L, cur ++ [c], j + 1, by go_num, HNx⟩
                case measure => simp [intOf]; omega
          · have t5 : ((c.toNat : Int) == 92) = false := by simp; omega
            have hstep : plainO cur (s.data.toList.drop j) = plainO (cur ++ [c]) (s.data.toList.drop (j + 1)) := by
              rw [hd]
              refine plainO_one cur _ ?_ ?_ ?_ ?_ <;> rintro rfl <;> revert h41 h42 h92 <;> simp
            have HNx : Hid (PlnAt w ((wr.setCell ⟨g, kk, none⟩ (.string (A ++ O))).drew) s at' (j + 1) (.slice (some ⟨g, 0, none⟩) (kk + 1) cp) L (cur ++ [c])) := by
              rw [hAO, hkk]
              exact Lib.hid (plnAt_next HAt.out wr.drew hdr (by omega) (by simp) hstep)
            clear hkk hd hc h41 h42 hstep hone hOe hAO hcell hA hdr h92
            go_wp2
            go_region
            all_goals
              go_wp2
              go_roundw
              case rel => exact ⟨L, cur ++ [c], j + 1, by go_num, HNx⟩
              case measure => simp [intOf]; omega
    · obtain rfl : j = s.size := by omega
      have t1 : decide ((s.size : Int) < (s.size : Int)) = false := by simp
      have hsay := HAt.out.says
      rw [List.drop_of_length_le (l := s.data.toList) (i := s.size) (by rw [bytes_len]; omega), plainO_nil] at hsay
      have HSay := Lib.hid hsay
      have HKk := Lib.hid hkk
      clear hsay hkk
      go_wp2
      go_ret2
      refine ⟨_, s.size, rfl, ?_, Nat.le_refl _, by rw [HSay.out]; exact List.drop_of_length_le (by rw [bytes_len]; omega), HAt.out.bel⟩
      rw [HSay.out, HKk.out]
      exact HAt.out.own
end Go.Proofs.YtmpicolplknomaaDoor
