/- Several texts in one file: MkW, TuA, MaNumP, MkS. -/
import Derived.Test.YtaapdipejpbdeaaGreatDoorMadeP3
import Derived.Deep.CutRange
import Derived.Deep.CutBlock
import Derived.Deep.Onto
import Derived.Test.YtaapdipejpbdeaaGreatDoorMaPure
import Derived.Test.YtaapdipejpbdeaaGreatDoorMadeP2
/- brooklaw4.Make: the walk. -/
namespace Go.Proofs.YtaapdipejpbdeaaGreatDoor
open Go.RowKit
set_option linter.unusedVariables false

/-- The numbers' block with j of them laid. -/
def kC (ns : List UInt8) (j : Nat) : Array Value := #[.int .i64 (if 0 < j then (kOf ns 0 : Int) else 0), .int .i64 (if 1 < j then (kOf ns 1 : Int) else 0), .int .i64 (if 2 < j then (kOf ns 2 : Int) else 0), .int .i64 (if 3 < j then (kOf ns 3 : Int) else 0), .int .i64 (if 4 < j then (kOf ns 4 : Int) else 0), .int .i64 (if 5 < j then (kOf ns 5 : Int) else 0), .int .i64 (if 6 < j then (kOf ns 6 : Int) else 0), .int .i64 (if 7 < j then (kOf ns 7 : Int) else 0)]
theorem kC_step (ns : List UInt8) : ∀ j, j < 8 → (kC ns j).setIfInBounds j (.int .i64 (kOf ns j : Int)) = kC ns (j + 1)
  | 0, _ => rfl
  | 1, _ => rfl
  | 2, _ => rfl
  | 3, _ => rfl
  | 4, _ => rfl
  | 5, _ => rfl
  | 6, _ => rfl
  | 7, _ => rfl
theorem kOf_no {ns : List UInt8} {i : Nat} (h : ns.length ≤ i) : kOf ns i = 0 := by
  unfold kOf
  rw [List.getD_eq_getElem?_getD, List.getElem?_eq_none h]
  rfl
theorem kC_end {ns : List UInt8} (h : ns.length ≤ 8) : kC ns ns.length = kC ns 8 := by
  have e : ∀ i, i < 8 → (if i < ns.length then (kOf ns i : Int) else 0) = (if i < 8 then (kOf ns i : Int) else 0) := fun i hi => by
    rw [if_pos hi]
    by_cases h2 : i < ns.length
    · rw [if_pos h2]
    · rw [if_neg h2, kOf_no (by omega)]; rfl
  unfold kC
  rw [e 0 (by omega), e 1 (by omega), e 2 (by omega), e 3 (by omega), e 4 (by omega), e 5 (by omega), e 6 (by omega), e 7 (by omega)]
theorem kC_at (ns : List UInt8) : ∀ i, i < 8 → (kC ns 8)[i]? = some (.int .i64 (kOf ns i : Int))
  | 0, _ => rfl
  | 1, _ => rfl
  | 2, _ => rfl
  | 3, _ => rfl
  | 4, _ => rfl
  | 5, _ => rfl
  | 6, _ => rfl
  | 7, _ => rfl
theorem mk8 (w : World) : (Instr.makeSlice 46 (.int .i64 8) (.int .i64 8)).run Tryz.prog w = .ok (.slice (some ⟨w.heap.size, 0, none⟩) 8 8) (w.alloc (.cells #[.int .i64 0, .int .i64 0, .int .i64 0, .int .i64 0, .int .i64 0, .int .i64 0, .int .i64 0, .int .i64 0] 3)) := by kernel_rfl
theorem kc_cell {ns : List UInt8} {W : World} {kb : Nat} (h : W.heap[kb]? = some (.cells (kC ns 8) 3 (0, 0))) (i : Nat) (hi : i < 8) : W.cell? ⟨kb, i, none⟩ = some (.int .i64 (kOf ns i : Int)) := by
  simp only [World.cell?, h]
  exact kC_at ns i hi

theorem kOf_lt (ns : List UInt8) (i : Nat) : kOf ns i < 256 := (ns.getD i 0).toNat_lt
theorem mkAt_set {B ge kb g n cap : Nat} {D : ByteArray} {P : List PT} {L : List AT} {KC : Array Value} {W : World} {j : Nat} {A' : List (List UInt8)} {x : Value} (hj : j < L.length) (hjP : j < P.length) (h : MkAt B W ge D (.slice (some ⟨g, 0, none⟩) n cap) P L kb KC) (hu : IsTo (StrB W) W A' x) :
    MkAt B (W.setCell ⟨g, j * 2 + 1, none⟩ x) ge D (.slice (some ⟨g, 0, none⟩) n cap) (P.set j (P[j].1, x)) (L.set j (L[j].1, A')) kb KC := by
  obtain ⟨h1, h2, _, _, ⟨cs, hc⟩, _, _⟩ := rowP_set hj hjP h.row h.says hu
  refine ⟨boxN_set h.box hc, h1, h2, (block_ne W ⟨g, _, none⟩ x fun e => ?_).trans h.nums, h.lo⟩
  have hk := h.nums
  rw [show kb = g from e, hc] at hk
  cases hk
theorem per_row {w : World} {g B : Nat} {N : ByteArray} (h : PerAt w g N) (hB : B ≤ g) : RowP B w (.slice (some ⟨g, 0, none⟩) 3 3) (perRow g) :=
  ⟨rfl, .inr ⟨g, 3, _, rfl, hB, h.b4, Nat.le_refl _, by unfold maxLen; decide, rfl, rfl⟩⟩

/-- The second attribute's values lie in a row of one, with no room behind. -/
def P1 (P : List PT) : Prop := ∃ t vb, P[1]? = some (t, .slice (some ⟨vb, 0, none⟩) 1 1)
theorem p1_app {P : List PT} (h : P1 P) (PM : List PT) : P1 (P ++ PM) := by
  obtain ⟨t, vb, e⟩ := h
  refine ⟨t, vb, ?_⟩
  have hl : 1 < P.length := (List.getElem?_eq_some_iff.1 e).1
  rw [List.getElem?_append_left hl, e]
set_option maxRecDepth 100000 in
set_option maxHeartbeats 8000000 in
theorem make_any (ns : List UInt8) (a0 : Option Addr) (cp : Nat) (w : World) (h : IsB w.heap.size w ns a0 cp) :
    Calls Tryz.prog 7 #[.slice a0 ns.length cp] w fun e w' => ∃ D u, e = .returned (.agg #[.string D, u]) ∧ D.data.toList = mkD ns ∧ OwnM w.heap.size w' u (mkLd ns) ∧ Below w.heap.size w w' := by
  obtain ⟨n, hn⟩ : ∃ n, n = ns.length := ⟨_, rfl⟩
  rw [← hn]
  have hm := h.1
  rw [← hn] at hm
  unfold maxLen at hm
  obtain ⟨W0, hW0⟩ : ∃ W0, W0 = w.alloc (.cells #[.string ⟨#[]⟩, .slice none 0 0] 25) := ⟨_, rfl⟩
  have hB0 : Below w.heap.size w W0 := by rw [hW0]; exact (Below.refl _ _).alloc (Nat.le_refl _) _
  have hbx : BoxN W0 w.heap.size ⟨#[]⟩ (.slice none 0 0) := by rw [hW0]; exact boxN_new _ _ _
  have hz0 : W0.heap.size = w.heap.size + 1 := by rw [hW0]; simp
  have HN := Lib.hid hn
  have HI := Lib.hid h
  have HB0 := Lib.hid hB0
  have HBx := Lib.hid hbx
  have HW0 := Lib.hid hW0.symm
  have HZ0 := Lib.hid hz0
  clear hn h hB0 hbx hW0 hz0
  have hmk := mk8
  go_enter Tryz.func7, Tryz.ntmps7
  go_upto_region 1 with (fail)
  rw [HW0.out]
  go_upto_region 2 with (fail)
  have hk0 : (W0.alloc (.cells (kC ns 0) 3)).heap[W0.heap.size]? = some (.cells (kC ns 0) 3 (0, 0)) := heap_alloc_new W0 _
  have hbA : Below W0.heap.size W0 (W0.alloc (.cells (kC ns 0) 3)) := (Below.refl _ _).alloc (Nat.le_refl _) _
  have hw : W0.alloc (.cells (kC ns 0) 3) = W0.alloc (.cells #[.int .i64 0, .int .i64 0, .int .i64 0, .int .i64 0, .int .i64 0, .int .i64 0, .int .i64 0, .int .i64 0] 3) := rfl
  rw [hw] at hk0 hbA
  generalize W0.alloc (.cells #[.int .i64 0, .int .i64 0, .int .i64 0, .int .i64 0, .int .i64 0, .int .i64 0, .int .i64 0, .int .i64 0] 3) = WA at hk0 hbA ⊢
  clear hw hmk
  obtain ⟨kb, hkb⟩ : ∃ k, k = W0.heap.size := ⟨_, rfl⟩
  rw [← hkb] at hk0 ⊢
  have HKb := Lib.hid hkb
  have hkbw : w.heap.size < kb := by have := HZ0.out; omega
  clear hkb
  go_wp2
  go_loopw [4] (fun i wr => ∃ j : Nat, j ≤ n ∧ j ≤ 8 ∧ i = .int .i64 j ∧ Hid (wr.heap[kb]? = some (.cells (kC ns j) 3 (0, 0))) ∧ Below W0.heap.size W0 wr) (fun i wr => n - (intOf i).toNat)
  case atStart => exact ⟨0, by omega, by omega, rfl, Lib.hid hk0, hbA⟩
  case round =>
    obtain ⟨j, hj, hj8, rfl, HKc, hbel⟩ := hrel
    rename World => wo
    have HBr := Lib.hid hbel
    obtain ⟨go, hgo⟩ : ∃ b : Bool, b = decide (j < 8 ∧ j < n) := ⟨_, rfl⟩
    go_upto_region 3 with (fail)
    go_cut [15] from 8 to 15 (fun s15 wx => s15 = .bool go ∧ wo = wx)
    case first =>
      by_cases h8 : j < 8
      · have t1 : decide ((j : Int) < 8) = true := by simp; omega
        by_cases hlt : j < n
        · have t2 : decide ((j : Int) < (n : Int)) = true := by simp; omega
          have e : go = true := by rw [hgo]; simp; omega
          clear hgo
          subst e
          go_wp2
          go_meet
          exact ⟨rfl, by first | rfl | trivial⟩
        · have t2 : decide ((j : Int) < (n : Int)) = false := by simp; omega
          have e : go = false := by rw [hgo]; simp; omega
          clear hgo
          subst e
          go_wp2
          go_meet
          exact ⟨rfl, by first | rfl | trivial⟩
      · have t1 : decide ((j : Int) < 8) = false := by simp; omega
        have e : go = false := by rw [hgo]; simp; omega
        clear hgo
        subst e
        go_wp2
        go_meet
        exact ⟨rfl, by first | rfl | trivial⟩
    case rest =>
      obtain ⟨rfl, rfl⟩ := hcut
      cases go with
      | true =>
        have hjj : j < 8 ∧ j < n := by simpa using hgo.symm
        have h8 := hjj.1
        have hlt := hjj.2
        have ti0 : (0 : Int) ≤ (j : Int) := by omega
        have ti1 : (j : Int) < (n : Int) := by omega
        have ti2 : (j : Int) < 8 := by omega
        have hjl : j < ns.length := by rw [← HN.out]; exact hlt
        obtain ⟨b, off, rfl, hb0, hc0⟩ : ∃ b off, a0 = some ⟨b, off, none⟩ ∧ b < w.heap.size ∧ ∀ j, (h : j < ns.length) → w.cell? ⟨b, off + j, none⟩ = some (.int .u8 ns[j].toNat) := HI.out.2.resolve_left (fun e => by rw [e] at hjl; simp at hjl)
        have hkj : kOf ns j = ns[j].toNat := by unfold kOf; rw [List.getD_eq_getElem?_getD, List.getElem?_eq_getElem hjl]; rfl
        have hk256 : kOf ns j < 256 := by rw [hkj]; exact ns[j].toNat_lt
        have d0 : wo.cell? ⟨b, off + j, none⟩ = some (.int .u8 (kOf ns j : Int)) := by
          rw [hbel.cell (p := ⟨b, off + j, none⟩) (Nat.lt_of_lt_of_le hb0 HB0.out.size), HB0.out.cell (p := ⟨b, off + j, none⟩) hb0, hc0 j hjl, hkj]
        have hwr : IntKind.i64.wrap (kOf ns j : Int) = (kOf ns j : Int) := by rw [IntKind.wrap_i64]; omega
        obtain ⟨y, hy⟩ : ∃ y, wo.cell? ⟨kb, j, none⟩ = some y := by
          have hs : j < (kC ns j).size := by show j < 8; exact h8
          exact ⟨_, by simp only [World.cell?, HKc.out]; exact Array.getElem?_eq_getElem hs⟩
        have hf : wo.frozen? ⟨kb, j, none⟩ = false := by simp [World.frozen?, HKc.out]
        have HK2 : Hid ((wo.setCell ⟨kb, j, none⟩ (.int .i64 (kOf ns j : Int))).heap[kb]? = some (.cells (kC ns (j + 1)) 3 (0, 0))) := Lib.hid (by
          rw [← kC_step ns j h8]
          simp [World.setCell, Array.getElem?_modify, HKc.out])
        clear hc0 hkj hk256 hbel HKc hgo
        go_wp2
        go_roundw
        case rel => exact ⟨j + 1, by omega, by omega, by go_num, HK2, HBr.out.setCell (p := ⟨kb, j, none⟩) (by rw [HKb.out]; exact Nat.le_refl _) _⟩
        case measure => simp [intOf]; omega
      | false =>
        have HK8 : Hid (wo.heap[kb]? = some (.cells (kC ns 8) 3 (0, 0))) := Lib.hid (by
          have hjj : ¬ (j < 8 ∧ j < n) := by simpa using hgo.symm
          by_cases h8 : j < 8
          · have e : j = ns.length := by rw [← HN.out]; omega
            rw [← kC_end (by omega), ← e]
            exact HKc.out
          · have e : j = 8 := by omega
            have := HKc.out
            rw [e] at this
            exact this)
        clear HKc hgo
        have d0 := kc_cell HK8.out 0 (by omega)
        obtain ⟨q0, hq0⟩ : ∃ q, q = kOf ns 0 % 6 := ⟨_, rfl⟩
        have hm6 : (kOf ns 0 : Int) % 6 = (q0 : Int) := by omega
        have hdg := fun W => digits_any (q0 : Int) (by omega) (by omega) W
        obtain ⟨X, hX⟩ : ∃ X, X = ofL (Lib.itoa (q0 : Int)) := ⟨_, rfl⟩
        have hXl : X.data.toList = Lib.itoa (q0 : Int) := by rw [hX, ofL_list]
        have hXs : X.size ≤ 3 := by rw [← bytes_len, hXl]; exact itoa_short ⟨q0, by omega⟩
        obtain ⟨NM, hNM⟩ : ∃ P, (⟨#[110]⟩ : ByteArray) ++ X = P := ⟨_, rfl⟩
        have hNl : NM.data.toList = mkN ns := by rw [← hNM, app_list, hXl, hq0]; rfl
        have hNs : NM.size ≤ 4 := by rw [← hNM, ← bytes_len, app_list, List.length_append, bytes_len, bytes_len]; have : (⟨#[110]⟩ : ByteArray).size = 1 := rfl; omega
        have q1 : 1 + X.size ≤ 9223372036854775807 := by omega
        rw [← hX] at hdg
        have HDg := Lib.hid hdg
        have HPe := Lib.hid (fun W => person_any NM (by omega) W)
        have HNl := Lib.hid hNl
        have HNs := Lib.hid hNs
        have HBo := Lib.hid hbel
        have hbo := HB0.out.size
        have HKs := Lib.hid (Array.getElem?_eq_some_iff.1 HK8.out).1
        have HSz := Lib.hid (HBo.out.size)
        clear hX hXl hXs hNl hNs hdg hq0 hbel hbo
        go_upto_region 8 with (first
          | (go_at_call 26; refine (HDg.out _).mono ?_; rintro e w2 ⟨rfl, hb2⟩; have HB2 := Lib.hid hb2; clear hb2)
          | (go_at_call 27; refine (HPe.out _).mono ?_; rintro e w3 ⟨D3, g, rfl, hD3, hp, hg, hb3⟩; have HP := Lib.hid hp; have HD := Lib.hid hD3; have HG := Lib.hid hg; have HB3 := Lib.hid (bthen HB2.out hb3); clear hD3 hg hp hb3))
        have hb7 : Below w3.heap.size w3 (w3.alloc (.cells #[.string D3, .slice (some ⟨g, 0, none⟩) 3 3] 25)) := (Below.refl _ _).alloc (Nat.le_refl _) _
        have hx7 := boxN_new w3 D3 (.slice (some ⟨g, 0, none⟩) 3 3)
        have hp7 := HP.out.below hb7 HP.out.lt
        have hk7 := ((bthen HB3.out hb7).block kb HKs.out).trans HK8.out
        have hB7 := bthen (bthen HBo.out HB3.out) hb7
        have hgB : W0.heap.size ≤ g := by have := HG.out; have := HSz.out; have := HB2.out.size; omega
        have hge : W0.heap.size ≤ w3.heap.size := (bthen HBo.out HB3.out).size
        generalize w3.alloc (.cells #[.string D3, .slice (some ⟨g, 0, none⟩) 3 3] 25) = W7 at hb7 hx7 hp7 hk7 hB7 ⊢
        obtain ⟨ge, hge2⟩ : ∃ x, x = w3.heap.size := ⟨_, rfl⟩
        rw [← hge2] at hx7 hge ⊢
        have HM : Hid (MkAt W0.heap.size W7 ge D3 (.slice (some ⟨g, 0, none⟩) 3 3) (perRow g) (perL (mkN ns)) kb (kC ns 8)) := Lib.hid ⟨hx7, per_row hp7 hgB, by rw [← HNl.out]; exact per_says hp7, hk7, hge⟩
        have HBw := Lib.hid hB7
        have HLo := Lib.hid hge
        have d1 := kc_cell HM.out.nums 1 (by omega)
        clear hb7 hx7 hp7 hk7 hB7 hgB hge hge2 d0 q1 hNM
        go_upto_if 38 with (fail)
        go_cut [38] from 34 to 55 (fun s38 wx => ∃ u P, MkAt W0.heap.size wx ge D3 u P (mkLa ns) kb (kC ns 8) ∧ P1 P ∧ Below W0.heap.size W0 wx)
        case first =>
          by_cases hc : kOf ns 1 % 3 = 0
          · have t1 : ((kOf ns 1 : Int) % 3 == 0) = true := by simp; omega
            have hk2 := kOf_lt ns 2
            obtain ⟨TD, hTD⟩ : ∃ X, X = ofL (Lib.itoa (kOf ns 2 : Int)) := ⟨_, rfl⟩
            have hdg := fun W => digits_any (kOf ns 2 : Int) (by omega) (by omega) W
            rw [← hTD] at hdg
            have HDg := Lib.hid hdg
            have hTs : TD.size ≤ 3 := by rw [hTD, ← bytes_len, ofL_list]; exact itoa_short ⟨kOf ns 2, hk2⟩
            obtain ⟨TA, hTA⟩ : ∃ P, (⟨#[97, 64]⟩ : ByteArray) ++ TD = P := ⟨_, rfl⟩
            have hTl : TA.data.toList = [97, 64] ++ Lib.itoa (kOf ns 2 : Int) := by rw [← hTA, app_list, hTD, ofL_list]
            have qTA : 2 + TD.size ≤ 9223372036854775807 := by omega
            obtain ⟨x0, x1⟩ := HM.out.box.cells
            obtain ⟨_, _, c3, f3, ⟨cs3, hc3⟩, hgB, h33⟩ := rowP_set (j := 1) (A' := []) (u := .slice none 0 0) (show 1 < (perL (mkN ns)).length from by simp [perL]) (show 1 < (perRow g).length from by simp [perRow]) HM.out.row HM.out.says ⟨_, _, rfl, by unfold maxLen; simp, fun j hj => absurd hj (by simp)⟩
            clear h33
            have hgl := (Array.getElem?_eq_some_iff.1 hc3).1
            have c4 : W7.cell? ⟨g, 3, none⟩ = some (.slice (some ⟨g - 2, 0, none⟩) 1 1) := c3
            have f4 : W7.frozen? ⟨g, 3, none⟩ = false := f3
            have hbA : Below W7.heap.size W7 (W7.alloc (.cells #[.string ⟨#[105, 110, 101, 116, 79, 114, 103, 80, 101, 114, 115, 111, 110]⟩] 9)) := (Below.refl _ _).alloc (Nat.le_refl _) _
            have hnA := heap_alloc_new W7 (.cells #[.string ⟨#[105, 110, 101, 116, 79, 114, 103, 80, 101, 114, 115, 111, 110]⟩] 9)
            have c5 : (W7.alloc (.cells #[.string ⟨#[105, 110, 101, 116, 79, 114, 103, 80, 101, 114, 115, 111, 110]⟩] 9)).cell? ⟨g, 3, none⟩ = some (.slice (some ⟨g - 2, 0, none⟩) 1 1) := (hbA.cell (p := ⟨g, 3, none⟩) hgl).trans c4
            have f5 : (W7.alloc (.cells #[.string ⟨#[105, 110, 101, 116, 79, 114, 103, 80, 101, 114, 115, 111, 110]⟩] 9)).frozen? ⟨g, 3, none⟩ = false := by
              have := heap_alloc_old W7 (.cells #[.string ⟨#[105, 110, 101, 116, 79, 114, 103, 80, 101, 114, 115, 111, 110]⟩] 9) hgl
              simp only [World.frozen?, this]
              simpa only [World.frozen?] using f4
            have hm9 : MkAt W0.heap.size ((W7.alloc (.cells #[.string ⟨#[105, 110, 101, 116, 79, 114, 103, 80, 101, 114, 115, 111, 110]⟩] 9)).setCell ⟨g, 3, none⟩ (.slice (some ⟨W7.heap.size, 0, none⟩) 1 1)) ge D3 (.slice (some ⟨g, 0, none⟩) 3 3) ((perRow g).set 1 ([111, 98, 106, 101, 99, 116, 99, 108, 97, 115, 115], .slice (some ⟨W7.heap.size, 0, none⟩) 1 1)) ((perL (mkN ns)).set 1 ([111, 98, 106, 101, 99, 116, 99, 108, 97, 115, 115], [(⟨#[105, 110, 101, 116, 79, 114, 103, 80, 101, 114, 115, 111, 110]⟩ : ByteArray).data.toList])) kb (kC ns 8) := mkAt_set (j := 1) (show 1 < (perL (mkN ns)).length from by simp [perL]) (show 1 < (perRow g).length from by simp [perRow]) (HM.out.go hbA) (isTo_one (X := ⟨#[105, 110, 101, 116, 79, 114, 103, 80, 101, 114, 115, 111, 110]⟩) hnA)
            have hb9 := (bthen HBw.out hbA).setCell (p := ⟨g, 3, none⟩) hgB (.slice (some ⟨W7.heap.size, 0, none⟩) 1 1)
            have hp9 : P1 ((perRow g).set 1 ([111, 98, 106, 101, 99, 116, 99, 108, 97, 115, 115], .slice (some ⟨W7.heap.size, 0, none⟩) 1 1)) := ⟨_, _, rfl⟩
            clear hTD hdg hTs c3 f3
            go_upto_region 10 with (fail)
            rw [← World.setCell_alloc_past _ _ _ _ hgl]
            obtain ⟨P, hP⟩ : ∃ P, P = (perRow g).set 1 ([111, 98, 106, 101, 99, 116, 99, 108, 97, 115, 115], .slice (some ⟨W7.heap.size, 0, none⟩) 1 1) := ⟨_, rfl⟩
            obtain ⟨L, hL⟩ : ∃ L, L = (perL (mkN ns)).set 1 ([111, 98, 106, 101, 99, 116, 99, 108, 97, 115, 115], [(⟨#[105, 110, 101, 116, 79, 114, 103, 80, 101, 114, 115, 111, 110]⟩ : ByteArray).data.toList]) := ⟨_, rfl⟩
            rw [← hP, ← hL] at hm9
            rw [← hP] at hp9
            generalize (W7.alloc (.cells #[.string ⟨#[105, 110, 101, 116, 79, 114, 103, 80, 101, 114, 115, 111, 110]⟩] 9)).setCell ⟨g, 3, none⟩ (.slice (some ⟨W7.heap.size, 0, none⟩) 1 1) = W9 at hm9 hb9 ⊢
            obtain ⟨u, hu⟩ : ∃ u, u = Value.slice (some ⟨g, 0, none⟩) 3 3 := ⟨_, rfl⟩
            rw [← hu] at hm9
            have HZ := Lib.hid hm9.j
            have HJ := Lib.hid hb9.size
            have HJ : Hid (W0.heap.size ≤ W9.heap.size) := Lib.hid hb9.size
            have HBw := Lib.hid hb9
            have HP1 := Lib.hid hp9
            have HLl : Hid (L.length ≤ 100) := Lib.hid (by rw [hL]; simp [perL])
            have HLa : Hid (mkLa ns = L ++ [([109, 97, 105, 108], [TA.data.toList])]) := Lib.hid (by unfold mkLa; rw [if_pos hc, hTl, hL]; rfl)
            clear hm9 hb9 hp9 hP hL hbA hnA c4 f4 c5 f5 hc3 hgB hTl hk2
            refine region_J (by kernel_rfl) W0.heap.size 9 10 (fun _ q => FK W0.heap.size [.is (.pointer (some ⟨ge, 1, none⟩)), .is (u), .is (.slice (some ⟨kb, 0, none⟩) 8 8), .is (.pointer (some ⟨kb, 2, none⟩)), .is (.int .i64 (kOf ns 2 : Int)), .is (.string TD), .is (.string TA), .val #[.string TA] (fun b => .slice (some ⟨b, 0, none⟩) 1 1), .val #[.string TA] (fun b => .agg #[.string ⟨#[109, 97, 105, 108]⟩, .slice (some ⟨b, 0, none⟩) 1 1]), .att [([109, 97, 105, 108], [TA.data.toList])], .row P (L ++ [([109, 97, 105, 108], [TA.data.toList])]), .is (.pointer (some ⟨ge, 1, none⟩))] q) (fun _ q => MkJ W0.heap.size ge kb D3 u P L (kC ns 8) q) (fun _ _ _ _ _ h hb => MkJ.go h hb) HZ.out (fun _ _ _ _ _ _ _ h hb => FK.go h hb) HJ.out (by kernel_rfl) (by kernel_rfl) (by decide) (by rfl) ?hs10 ?hx10 ?hy10 ?hl10
            case hs10 =>
              intro listed a W p q hsz hj hk i o ho hi hi1 hi2 hc
              have e3 := hk.read (t := 3) (by kernel_rfl) rfl
              have e6 := hk.read (t := 6) (by kernel_rfl) rfl
              have dk := fun x (hx : x < 8) => kc_cell (ns := ns) hj.2.1 x hx
              match i, hi, hi1, hi2 with
              | 0, _, _, _ =>
                obtain rfl := Option.some.inj ho
                exact wpOp_val rfl rfl (v := .pointer (some ⟨ge, 1, none⟩)) (w' := W) (by simp [go_sem, e6]) ⟨_, _, rfl, rfl, Below.refl _ _, rfl⟩
              | 1, _, _, _ =>
                obtain rfl := Option.some.inj ho
                obtain ⟨v0, g0, f0⟩ := hk.got (j := 0) rfl rfl (hc ⟨0, .data⟩ (by simp) rfl)
                obtain rfl : v0 = _ := f0
                have d0 := hj.1.cells.2
                exact wpOp_val rfl rfl (v := u) (w' := W) (by simp [go_sem, g0, d0]) ⟨_, _, rfl, rfl, Below.refl _ _, rfl⟩
              | 2, _, _, _ =>
                obtain rfl := Option.some.inj ho
                exact wpOp_val rfl rfl (v := .slice (some ⟨kb, 0, none⟩) 8 8) (w' := W) (by simp [go_sem, e3]) ⟨_, _, rfl, rfl, Below.refl _ _, rfl⟩
              | 3, _, _, _ =>
                obtain rfl := Option.some.inj ho
                obtain ⟨v2, g2, f2⟩ := hk.got (j := 2) rfl rfl (hc ⟨2, .data⟩ (by simp) rfl)
                obtain rfl : v2 = _ := f2
                exact wpOp_val rfl rfl (v := .pointer (some ⟨kb, 2, none⟩)) (w' := W) (by simp [go_sem, g2]) ⟨_, _, rfl, rfl, Below.refl _ _, rfl⟩
              | 4, _, _, _ =>
                obtain rfl := Option.some.inj ho
                obtain ⟨v3, g3, f3⟩ := hk.got (j := 3) rfl rfl (hc ⟨3, .data⟩ (by simp) rfl)
                obtain rfl : v3 = _ := f3
                have d2 := dk 2 (by omega)
                exact wpOp_val rfl rfl (v := .int .i64 (kOf ns 2 : Int)) (w' := W) (by simp [go_sem, g3, d2]) ⟨_, _, rfl, rfl, Below.refl _ _, rfl⟩
              | 5, _, _, _ =>
                obtain rfl := Option.some.inj ho
                obtain ⟨v4, g4, f4⟩ := hk.got (j := 4) rfl rfl (hc ⟨4, .data⟩ (by simp) rfl)
                obtain rfl : v4 = _ := f4
                refine wpOp_call rfl rfl (f := 26) (args := #[.int .i64 (kOf ns 2 : Int)]) (by simp [go_sem, g4]) ((HDg.out W).mono ?_)
                rintro e w2 ⟨rfl, hb2⟩
                exact ⟨_, rfl, _, _, rfl, rfl, hb2, rfl⟩
              | 6, _, _, _ =>
                obtain rfl := Option.some.inj ho
                obtain ⟨v5, g5, f5⟩ := hk.got (j := 5) rfl rfl (hc ⟨5, .data⟩ (by simp) rfl)
                obtain rfl : v5 = _ := f5
                exact wpOp_val rfl rfl (v := .string TA) (w' := W) (by simp [go_sem, g5, hTA, qTA]) ⟨_, _, rfl, rfl, Below.refl _ _, rfl⟩
              | 7, _, _, _ =>
                obtain rfl := Option.some.inj ho
                obtain ⟨v6, g6, f6⟩ := hk.got (j := 6) rfl rfl (hc ⟨6, .data⟩ (by simp) rfl)
                obtain rfl : v6 = _ := f6
                exact wpOp_val rfl rfl (v := .slice (some ⟨W.heap.size, 0, none⟩) 1 1) (w' := W.alloc (.cells #[.string TA] 9)) (by simp [go_sem, g6]) ⟨_, _, rfl, rfl, ((Below.refl _ _).alloc (Nat.le_refl _) _), ⟨_, rfl, heap_alloc_new W _⟩⟩
              | 8, _, _, _ =>
                obtain rfl := Option.some.inj ho
                obtain ⟨v7, g7, f7⟩ := hk.got (j := 7) rfl rfl (hc ⟨7, .data⟩ (by simp) rfl)
                obtain ⟨b, rfl, hb⟩ := f7
                exact wpOp_val rfl rfl (v := .agg #[.string ⟨#[109, 97, 105, 108]⟩, .slice (some ⟨b, 0, none⟩) 1 1]) (w' := W) (by simp [go_sem, g7]) ⟨_, _, rfl, rfl, Below.refl _ _, ⟨_, rfl, hb⟩⟩
              | 11, _, _, _ =>
                obtain rfl := Option.some.inj ho
                exact wpOp_val rfl rfl (v := .pointer (some ⟨ge, 1, none⟩)) (w' := W) (by simp [go_sem, e6]) ⟨_, _, rfl, rfl, Below.refl _ _, rfl⟩
              | 9, _, h, _ => exact absurd rfl h
              | 10, _, _, h => exact absurd rfl h
              | m + 12, hm, _, _ => exact absurd hm (by simp)
            case hx10 =>
              intro listed a W hsz hj hk o ho hc
              obtain rfl := Option.some.inj ho
              obtain ⟨v8, g8, f8⟩ := hk.got (j := 8) rfl rfl (hc ⟨8, .data⟩ (by simp) rfl)
              obtain ⟨b, rfl, hb⟩ := f8
              have hbl := (Array.getElem?_eq_some_iff.1 hb).1
              exact wpOp_val rfl rfl (v := .slice (some ⟨W.heap.size, 0, none⟩) 1 1) (w' := W.alloc (.cells #[.string ⟨#[109, 97, 105, 108]⟩, .slice (some ⟨b, 0, none⟩) 1 1] 31)) (by simp [go_sem, g8]) ⟨_, _, rfl, rfl, ((Below.refl _ _).alloc (Nat.le_refl _) _).mono hsz, .inr ⟨W.heap.size, [(_, .slice (some ⟨b, 0, none⟩) 1 1)], rfl, heap_alloc_new W _, saysM_one (X := ⟨#[109, 97, 105, 108]⟩) ((heap_alloc_old W _ hbl).trans hb)⟩, MkJ.go hj ((Below.refl _ _).alloc (Nat.le_refl _) _), fun j u hj2 h => FK.go h ((Below.refl _ _).alloc (Nat.le_refl _) _)⟩
            case hy10 =>
              intro listed a W hsz hj hk o ho hc
              obtain rfl := Option.some.inj ho
              obtain ⟨v1, g1, f1⟩ := hk.got (j := 1) rfl rfl (hc ⟨1, .data⟩ (by simp) rfl)
              obtain rfl : v1 = _ := f1
              obtain ⟨v9, g9, f9⟩ := hk.got (j := 9) rfl rfl (hc ⟨9, .data⟩ (by simp) rfl)
              obtain ⟨c, PM, rfl, hcc, hps⟩ := f9.resolve_left (by simp)
              obtain ⟨hr, hsay⟩ := hj.2.2 rfl
              obtain ⟨v', w', hrun, hr', hs', hbel, hk1, hk2⟩ := run_append_P hr hsay hsz hps ⟨c, 0, none⟩ 1 (fun j u hu => by rw [addr0]; exact list_cells hcc j u hu) (by have := HLl.out; simp; omega) 23
              exact wpOp_val rfl rfl (exec_append rfl (by simp [go_sem, g1]) (by simp [go_sem, g9]) hrun) ⟨_, _, rfl, rfl, hbel, ⟨rfl, PM, hr', hs'⟩, MkJ.loud hj hk2, fun j u hj2 h => FK.loud h hk1 hk2⟩
            case hl10 =>
              intro listed a W hsz hj hk hall
              obtain ⟨vr, gr, fr⟩ := hk.got (j := 10) rfl rfl (hall 10 (by simp))
              obtain ⟨vp, gp, fp⟩ := hk.got (j := 11) rfl rfl (hall 11 (by simp))
              obtain rfl : vp = _ := fp
              obtain ⟨_, PM, hr, hs⟩ := fr
              obtain ⟨sa, sc, hv⟩ := rowP_slice hr
              obtain ⟨ln, hln⟩ : ∃ k, k = (P ++ PM).length := ⟨_, rfl⟩
              rw [← hln] at hv
              subst hv
              have HLn := Lib.hid hln
              clear hln
              obtain ⟨hm, c1, c2⟩ := mkAt_store hj hr hs HLo.out
              have hput := hk.puts
              refine wpOp_skip rfl rfl (w' := W.setCell ⟨ge, 1, none⟩ (.slice sa ln sc)) (by simp [go_sem, gr, gp, c1, c2]) ?_
              rw [hput]
              simp only [putT]
              generalize a.tmps[44]?.getD undef = x44
              generalize a.tmps[45]?.getD undef = x45
              generalize a.tmps[46]?.getD undef = x46
              generalize a.tmps[47]?.getD undef = x47
              generalize a.tmps[48]?.getD undef = x48
              generalize a.tmps[49]?.getD undef = x49
              generalize a.tmps[50]?.getD undef = x50
              generalize a.tmps[51]?.getD undef = x51
              generalize a.tmps[52]?.getD undef = x52
              generalize a.tmps[53]?.getD undef = x53
              generalize a.tmps[54]?.getD undef = x54
              generalize a.tmps[55]?.getD undef = x55
              have HM := Lib.hid hm
              have HG := Lib.hid ((HBw.out.trans hk.grown).setCell (p := ⟨ge, 1, none⟩) HLo.out (.slice sa ln sc))
              clear hall hput gr gp hr hs c1 c2 hk hj hm
              go_simp
              go_wp2
              go_meet
              exact ⟨_, _, by rw [HLa.out]; exact HM.out, p1_app HP1.out PM, HG.out⟩
          · have t1 : ((kOf ns 1 : Int) % 3 == 0) = false := by simp; omega
            have HLa : Hid (mkLa ns = perL (mkN ns)) := Lib.hid (by unfold mkLa; rw [if_neg hc])
            have hp9 : P1 (perRow g) := ⟨_, _, rfl⟩
            clear hc
            go_wp2
            go_meet
            exact ⟨_, _, by rw [HLa.out]; exact HM.out, hp9, HBw.out⟩
        case rest =>
          obtain ⟨u, P, hM1, hP1, hB1⟩ := hcut
          rename World => w1
          clear HM HBw d1
          have d1 := kc_cell hM1.nums 1 (by omega)
          have d2 := kc_cell hM1.nums 2 (by omega)
          obtain ⟨L, hL⟩ : ∃ L, L = mkLa ns := ⟨_, rfl⟩
          rw [← hL] at hM1
          have HLl : Hid (L.length ≤ 100) := Lib.hid (by rw [hL]; unfold mkLa; split <;> simp [perL])
          have HLL := Lib.hid hL
          have HM := Lib.hid hM1
          have HP1 := Lib.hid hP1
          have HBw := Lib.hid hB1
          clear hL hM1 hP1 hB1
          go_upto_if 60 with (fail)
          go_cut [60] from 56 to 73 (fun s60 wx => ∃ u P, MkAt W0.heap.size wx ge D3 u P (mkLb ns) kb (kC ns 8) ∧ P1 P ∧ Below W0.heap.size W0 wx)
          case first =>
            by_cases hc : kOf ns 1 % 3 = 1
            · have t1 : ((kOf ns 1 : Int) % 3 == 1) = true := by simp; omega
              obtain ⟨q29, hq29⟩ : ∃ q, q = kOf ns 2 % 9 := ⟨_, rfl⟩
              have hm29 : (kOf ns 2 : Int).tmod 9 = (q29 : Int) := by rw [Int.tmod_eq_emod_of_nonneg (by omega)]; omega
              obtain ⟨TD, hTD⟩ : ∃ X, X = ofL (Lib.itoa (q29 : Int)) := ⟨_, rfl⟩
              have hdg := fun W => digits_any (q29 : Int) (by omega) (by omega) W
              rw [← hTD] at hdg
              have HDg := Lib.hid hdg
              have hTs : TD.size ≤ 3 := by rw [hTD, ← bytes_len, ofL_list]; exact itoa_short ⟨q29, by omega⟩
              obtain ⟨TA, hTA⟩ : ∃ P, (⟨#[100, 32]⟩ : ByteArray) ++ TD = P := ⟨_, rfl⟩
              have hTl : TA.data.toList = [100, 32] ++ Lib.itoa (q29 : Int) := by rw [← hTA, app_list, hTD, ofL_list]
              have qTA : 2 + TD.size ≤ 9223372036854775807 := by omega
              have HLb : Hid (mkLb ns = L ++ [([68, 101, 115, 99, 114, 105, 112, 116, 105, 111, 110], [TA.data.toList, [101]])]) := Lib.hid (by unfold mkLb; rw [if_pos hc, hTl, HLL.out, hq29])
              have HZ := Lib.hid HM.out.j
              have HJ : Hid (W0.heap.size ≤ w1.heap.size) := Lib.hid HBw.out.size
              clear hTD hdg hTs hTl hq29
              go_upto_region 12 with (fail)
              refine region_J (by kernel_rfl) W0.heap.size 10 11 (fun _ q => FK W0.heap.size [.is (.pointer (some ⟨ge, 1, none⟩)), .is (u), .is (.slice (some ⟨kb, 0, none⟩) 8 8), .is (.pointer (some ⟨kb, 2, none⟩)), .is (.int .i64 (kOf ns 2 : Int)), .is (.int .i64 (q29 : Int)), .is (.string TD), .is (.string TA), .val #[.string TA, .string ⟨#[101]⟩] (fun b => .slice (some ⟨b, 0, none⟩) 2 2), .val #[.string TA, .string ⟨#[101]⟩] (fun b => .agg #[.string ⟨#[68, 101, 115, 99, 114, 105, 112, 116, 105, 111, 110]⟩, .slice (some ⟨b, 0, none⟩) 2 2]), .att [([68, 101, 115, 99, 114, 105, 112, 116, 105, 111, 110], [TA.data.toList, [101]])], .row P (L ++ [([68, 101, 115, 99, 114, 105, 112, 116, 105, 111, 110], [TA.data.toList, [101]])]), .is (.pointer (some ⟨ge, 1, none⟩))] q) (fun _ q => MkJ W0.heap.size ge kb D3 u P L (kC ns 8) q) (fun _ _ _ _ _ h hb => MkJ.go h hb) HZ.out (fun _ _ _ _ _ _ _ h hb => FK.go h hb) HJ.out (by kernel_rfl) (by kernel_rfl) (by decide) (by rfl) ?hs12 ?hx12 ?hy12 ?hl12
              case hs12 =>
                intro listed a W p q hsz hj hk i o ho hi hi1 hi2 hc
                have e3 := hk.read (t := 3) (by kernel_rfl) rfl
                have e6 := hk.read (t := 6) (by kernel_rfl) rfl
                have dk := fun x (hx : x < 8) => kc_cell (ns := ns) hj.2.1 x hx
                match i, hi, hi1, hi2 with
                | 0, _, _, _ =>
                  obtain rfl := Option.some.inj ho
                  exact wpOp_val rfl rfl (v := .pointer (some ⟨ge, 1, none⟩)) (w' := W) (by simp [go_sem, e6]) ⟨_, _, rfl, rfl, Below.refl _ _, rfl⟩
                | 1, _, _, _ =>
                  obtain rfl := Option.some.inj ho
                  obtain ⟨v0, g0, f0⟩ := hk.got (j := 0) rfl rfl (hc ⟨0, .data⟩ (by simp) rfl)
                  obtain rfl : v0 = _ := f0
                  have d0 := hj.1.cells.2
                  exact wpOp_val rfl rfl (v := u) (w' := W) (by simp [go_sem, g0, d0]) ⟨_, _, rfl, rfl, Below.refl _ _, rfl⟩
                | 2, _, _, _ =>
                  obtain rfl := Option.some.inj ho
                  exact wpOp_val rfl rfl (v := .slice (some ⟨kb, 0, none⟩) 8 8) (w' := W) (by simp [go_sem, e3]) ⟨_, _, rfl, rfl, Below.refl _ _, rfl⟩
                | 3, _, _, _ =>
                  obtain rfl := Option.some.inj ho
                  obtain ⟨v2, g2, f2⟩ := hk.got (j := 2) rfl rfl (hc ⟨2, .data⟩ (by simp) rfl)
                  obtain rfl : v2 = _ := f2
                  exact wpOp_val rfl rfl (v := .pointer (some ⟨kb, 2, none⟩)) (w' := W) (by simp [go_sem, g2]) ⟨_, _, rfl, rfl, Below.refl _ _, rfl⟩
                | 4, _, _, _ =>
                  obtain rfl := Option.some.inj ho
                  obtain ⟨v3, g3, f3⟩ := hk.got (j := 3) rfl rfl (hc ⟨3, .data⟩ (by simp) rfl)
                  obtain rfl : v3 = _ := f3
                  have d2 := dk 2 (by omega)
                  exact wpOp_val rfl rfl (v := .int .i64 (kOf ns 2 : Int)) (w' := W) (by simp [go_sem, g3, d2]) ⟨_, _, rfl, rfl, Below.refl _ _, rfl⟩
                | 5, _, _, _ =>
                  obtain rfl := Option.some.inj ho
                  obtain ⟨v4, g4, f4⟩ := hk.got (j := 4) rfl rfl (hc ⟨4, .data⟩ (by simp) rfl)
                  obtain rfl : v4 = _ := f4
                  exact wpOp_val rfl rfl (v := .int .i64 (q29 : Int)) (w' := W) (by simp [go_sem, g4, hm29]) ⟨_, _, rfl, rfl, Below.refl _ _, rfl⟩
                | 6, _, _, _ =>
                  obtain rfl := Option.some.inj ho
                  obtain ⟨v5, g5, f5⟩ := hk.got (j := 5) rfl rfl (hc ⟨5, .data⟩ (by simp) rfl)
                  obtain rfl : v5 = _ := f5
                  refine wpOp_call rfl rfl (f := 26) (args := #[.int .i64 (q29 : Int)]) (by simp [go_sem, g5]) ((HDg.out W).mono ?_)
                  rintro e w2 ⟨rfl, hb2⟩
                  exact ⟨_, rfl, _, _, rfl, rfl, hb2, rfl⟩
                | 7, _, _, _ =>
                  obtain rfl := Option.some.inj ho
                  obtain ⟨v6, g6, f6⟩ := hk.got (j := 6) rfl rfl (hc ⟨6, .data⟩ (by simp) rfl)
                  obtain rfl : v6 = _ := f6
                  exact wpOp_val rfl rfl (v := .string TA) (w' := W) (by simp [go_sem, g6, hTA, qTA]) ⟨_, _, rfl, rfl, Below.refl _ _, rfl⟩
                | 8, _, _, _ =>
                  obtain rfl := Option.some.inj ho
                  obtain ⟨v7, g7, f7⟩ := hk.got (j := 7) rfl rfl (hc ⟨7, .data⟩ (by simp) rfl)
                  obtain rfl : v7 = _ := f7
                  exact wpOp_val rfl rfl (v := .slice (some ⟨W.heap.size, 0, none⟩) 2 2) (w' := W.alloc (.cells #[.string TA, .string ⟨#[101]⟩] 9)) (by simp [go_sem, g7]) ⟨_, _, rfl, rfl, ((Below.refl _ _).alloc (Nat.le_refl _) _), ⟨_, rfl, heap_alloc_new W _⟩⟩
                | 9, _, _, _ =>
                  obtain rfl := Option.some.inj ho
                  obtain ⟨v8, g8, f8⟩ := hk.got (j := 8) rfl rfl (hc ⟨8, .data⟩ (by simp) rfl)
                  obtain ⟨b, rfl, hb⟩ := f8
                  exact wpOp_val rfl rfl (v := .agg #[.string ⟨#[68, 101, 115, 99, 114, 105, 112, 116, 105, 111, 110]⟩, .slice (some ⟨b, 0, none⟩) 2 2]) (w' := W) (by simp [go_sem, g8]) ⟨_, _, rfl, rfl, Below.refl _ _, ⟨_, rfl, hb⟩⟩
                | 12, _, _, _ =>
                  obtain rfl := Option.some.inj ho
                  exact wpOp_val rfl rfl (v := .pointer (some ⟨ge, 1, none⟩)) (w' := W) (by simp [go_sem, e6]) ⟨_, _, rfl, rfl, Below.refl _ _, rfl⟩
                | 10, _, h, _ => exact absurd rfl h
                | 11, _, _, h => exact absurd rfl h
                | m + 13, hm, _, _ => exact absurd hm (by simp)
              case hx12 =>
                intro listed a W hsz hj hk o ho hc
                obtain rfl := Option.some.inj ho
                obtain ⟨v9, g9, f9⟩ := hk.got (j := 9) rfl rfl (hc ⟨9, .data⟩ (by simp) rfl)
                obtain ⟨b, rfl, hb⟩ := f9
                have hbl := (Array.getElem?_eq_some_iff.1 hb).1
                exact wpOp_val rfl rfl (v := .slice (some ⟨W.heap.size, 0, none⟩) 1 1) (w' := W.alloc (.cells #[.string ⟨#[68, 101, 115, 99, 114, 105, 112, 116, 105, 111, 110]⟩, .slice (some ⟨b, 0, none⟩) 2 2] 31)) (by simp [go_sem, g9]) ⟨_, _, rfl, rfl, ((Below.refl _ _).alloc (Nat.le_refl _) _).mono hsz, .inr ⟨W.heap.size, [(_, .slice (some ⟨b, 0, none⟩) 2 2)], rfl, heap_alloc_new W _, saysM_two (X := ⟨#[68, 101, 115, 99, 114, 105, 112, 116, 105, 111, 110]⟩) (Z := ⟨#[101]⟩) ((heap_alloc_old W _ hbl).trans hb)⟩, MkJ.go hj ((Below.refl _ _).alloc (Nat.le_refl _) _), fun j u hj2 h => FK.go h ((Below.refl _ _).alloc (Nat.le_refl _) _)⟩
              case hy12 =>
                intro listed a W hsz hj hk o ho hc
                obtain rfl := Option.some.inj ho
                obtain ⟨v1, g1, f1⟩ := hk.got (j := 1) rfl rfl (hc ⟨1, .data⟩ (by simp) rfl)
                obtain rfl : v1 = _ := f1
                obtain ⟨v10, g10, f10⟩ := hk.got (j := 10) rfl rfl (hc ⟨10, .data⟩ (by simp) rfl)
                obtain ⟨c, PM, rfl, hcc, hps⟩ := f10.resolve_left (by simp)
                obtain ⟨hr, hsay⟩ := hj.2.2 rfl
                obtain ⟨v', w', hrun, hr', hs', hbel, hk1, hk2⟩ := run_append_P hr hsay hsz hps ⟨c, 0, none⟩ 1 (fun j u hu => by rw [addr0]; exact list_cells hcc j u hu) (by have := HLl.out; simp; omega) 23
                exact wpOp_val rfl rfl (exec_append rfl (by simp [go_sem, g1]) (by simp [go_sem, g10]) hrun) ⟨_, _, rfl, rfl, hbel, ⟨rfl, PM, hr', hs'⟩, MkJ.loud hj hk2, fun j u hj2 h => FK.loud h hk1 hk2⟩
              case hl12 =>
                intro listed a W hsz hj hk hall
                obtain ⟨vr, gr, fr⟩ := hk.got (j := 11) rfl rfl (hall 11 (by simp))
                obtain ⟨vp, gp, fp⟩ := hk.got (j := 12) rfl rfl (hall 12 (by simp))
                obtain rfl : vp = _ := fp
                obtain ⟨_, PM, hr, hs⟩ := fr
                obtain ⟨sa, sc, hv⟩ := rowP_slice hr
                obtain ⟨ln, hln⟩ : ∃ k, k = (P ++ PM).length := ⟨_, rfl⟩
                rw [← hln] at hv
                subst hv
                have HLn := Lib.hid hln
                clear hln
                obtain ⟨hm, c1, c2⟩ := mkAt_store hj hr hs HLo.out
                have hput := hk.puts
                refine wpOp_skip rfl rfl (w' := W.setCell ⟨ge, 1, none⟩ (.slice sa ln sc)) (by simp [go_sem, gr, gp, c1, c2]) ?_
                rw [hput]
                simp only [putT]
                generalize a.tmps[61]?.getD undef = x61
                generalize a.tmps[62]?.getD undef = x62
                generalize a.tmps[63]?.getD undef = x63
                generalize a.tmps[64]?.getD undef = x64
                generalize a.tmps[65]?.getD undef = x65
                generalize a.tmps[66]?.getD undef = x66
                generalize a.tmps[67]?.getD undef = x67
                generalize a.tmps[68]?.getD undef = x68
                generalize a.tmps[69]?.getD undef = x69
                generalize a.tmps[70]?.getD undef = x70
                generalize a.tmps[71]?.getD undef = x71
                generalize a.tmps[72]?.getD undef = x72
                generalize a.tmps[73]?.getD undef = x73
                have HM := Lib.hid hm
                have HG := Lib.hid ((HBw.out.trans hk.grown).setCell (p := ⟨ge, 1, none⟩) HLo.out (.slice sa ln sc))
                clear hall hput gr gp hr hs c1 c2 hk hj hm
                go_simp
                go_wp2
                go_meet
                exact ⟨_, _, by rw [HLb.out]; exact HM.out, p1_app HP1.out PM, HG.out⟩
            · have t1 : ((kOf ns 1 : Int) % 3 == 1) = false := by simp; omega
              have HLb : Hid (mkLb ns = L) := Lib.hid (by unfold mkLb; rw [if_neg hc, HLL.out])
              clear hc
              go_wp2
              go_meet
              exact ⟨_, _, by rw [HLb.out]; exact HM.out, HP1.out, HBw.out⟩
          case rest =>
            obtain ⟨u, P, hM1, hP1, hB1⟩ := hcut
            rename World => w1
            clear HM HBw HP1 HLl HLL d1 d2
            have d3 := kc_cell hM1.nums 3 (by omega)
            obtain ⟨L, hL⟩ : ∃ L, L = mkLb ns := ⟨_, rfl⟩
            rw [← hL] at hM1
            have HLl : Hid (L.length ≤ 100) := Lib.hid (by rw [hL]; unfold mkLb mkLa; split <;> split <;> simp [perL])
            have HLL := Lib.hid hL
            have HM := Lib.hid hM1
            have HP1 := Lib.hid hP1
            have HBw := Lib.hid hB1
            clear hL hM1 hP1 hB1
            go_upto_if 78 with (fail)
            go_cut [78] from 74 to 109 (fun s78 wx => ∃ u P, MkAt W0.heap.size wx ge D3 u P (mkLc ns) kb (kC ns 8) ∧ Below W0.heap.size W0 wx)
            case first =>
              by_cases hc : kOf ns 3 % 4 = 0
              · have t1 : ((kOf ns 3 : Int) % 4 == 0) = true := by simp; omega
                obtain ⟨t, vb, hPs⟩ := HP1.out
                obtain ⟨X, hXs⟩ := mkLb_one ns
                rw [← HLL.out] at hXs
                obtain ⟨g, n2, sc, hu, tln0⟩ := row_some HM.out.row (List.getElem?_eq_some_iff.1 hPs).1
                subst hu
                have tln : (1 : Int) < (n2 : Int) := by omega
                have HPs : Hid (∃ t, P[1]? = some (t, .slice (some ⟨vb, 0, none⟩) 1 1)) := Lib.hid ⟨t, hPs⟩
                have HLs := Lib.hid hXs
                have HGg : Hid (W0.heap.size ≤ g) := Lib.hid (by
                  obtain ⟨h1, _⟩ := List.getElem?_eq_some_iff.1 hPs
                  obtain ⟨h2, _⟩ := List.getElem?_eq_some_iff.1 hXs
                  exact (rowP_set (j := 1) (A' := []) (u := .slice none 0 0) h2 h1 HM.out.row HM.out.says ⟨_, _, rfl, by unfold maxLen; simp, fun j hj => absurd hj (by simp)⟩).2.2.2.2.2.1)
                have HZ := Lib.hid HM.out.j
                have HJ : Hid (W0.heap.size ≤ w1.heap.size) := Lib.hid HBw.out.size
                have hk4 := kOf_lt ns 4
                obtain ⟨q49, hq49⟩ : ∃ q, q = kOf ns 4 % 9 := ⟨_, rfl⟩
                have hm49 : (kOf ns 4 : Int).tmod 9 = (q49 : Int) := by rw [Int.tmod_eq_emod_of_nonneg (by omega)]; omega
                have hq9 : q49 < 9 := by omega
                clear hPs hXs
                go_upto_region 14 with (fail)
                refine region_J (by kernel_rfl) W0.heap.size 7 8 (fun _ _ => FK W0.heap.size [.is (.pointer (some ⟨ge, 1, none⟩)), .is (.slice (some ⟨g, 0, none⟩) n2 sc), .is (.pointer (some ⟨ge, 1, none⟩)), .is (.slice (some ⟨g, 0, none⟩) n2 sc), .is (.pointer (some ⟨g, 2, none⟩)), .is (.pointer (some ⟨g, 3, none⟩)), .is (.slice (some ⟨vb, 0, none⟩) 1 1), .val #[.string ⟨#[112, 111, 115, 105, 120]⟩] (fun b => .slice (some ⟨b, 0, none⟩) 1 1), .txt ([X] ++ [(⟨#[112, 111, 115, 105, 120]⟩ : ByteArray).data.toList]), .is (.pointer (some ⟨g, 2, none⟩)), .is (.pointer (some ⟨g, 3, none⟩))] false) (fun _ _ => MkJ W0.heap.size ge kb D3 (.slice (some ⟨g, 0, none⟩) n2 sc) P L (kC ns 8) false) (fun _ _ _ _ _ h hb => MkJ.go h hb) HZ.out (fun _ _ _ _ _ _ _ h hb => FK.go h hb) HJ.out (by kernel_rfl) (by kernel_rfl) (by decide) (by rfl) ?hs14 ?hx14 ?hy14 ?hl14
                case hs14 =>
                  intro listed a W p q hsz hj hk i o ho hi hi1 hi2 hc
                  have e6 := hk.read (t := 6) (by kernel_rfl) rfl
                  match i, hi, hi1, hi2 with
                  | 0, _, _, _ =>
                    obtain rfl := Option.some.inj ho
                    exact wpOp_val rfl rfl (v := .pointer (some ⟨ge, 1, none⟩)) (w' := W) (by simp [go_sem, e6]) ⟨_, _, rfl, rfl, Below.refl _ _, rfl⟩
                  | 1, _, _, _ =>
                    obtain rfl := Option.some.inj ho
                    obtain ⟨v0, g0, f0⟩ := hk.got (j := 0) rfl rfl (hc ⟨0, .data⟩ (by simp) rfl)
                    obtain rfl : v0 = _ := f0
                    have d0 := hj.1.cells.2
                    exact wpOp_val rfl rfl (v := .slice (some ⟨g, 0, none⟩) n2 sc) (w' := W) (by simp [go_sem, g0, d0]) ⟨_, _, rfl, rfl, Below.refl _ _, rfl⟩
                  | 2, _, _, _ =>
                    obtain rfl := Option.some.inj ho
                    exact wpOp_val rfl rfl (v := .pointer (some ⟨ge, 1, none⟩)) (w' := W) (by simp [go_sem, e6]) ⟨_, _, rfl, rfl, Below.refl _ _, rfl⟩
                  | 3, _, _, _ =>
                    obtain rfl := Option.some.inj ho
                    obtain ⟨v2, g2, f2⟩ := hk.got (j := 2) rfl rfl (hc ⟨2, .data⟩ (by simp) rfl)
                    obtain rfl : v2 = _ := f2
                    have d0 := hj.1.cells.2
                    exact wpOp_val rfl rfl (v := .slice (some ⟨g, 0, none⟩) n2 sc) (w' := W) (by simp [go_sem, g2, d0]) ⟨_, _, rfl, rfl, Below.refl _ _, rfl⟩
                  | 4, _, _, _ =>
                    obtain rfl := Option.some.inj ho
                    obtain ⟨v3, g3, f3⟩ := hk.got (j := 3) rfl rfl (hc ⟨3, .data⟩ (by simp) rfl)
                    obtain rfl : v3 = _ := f3
                    exact wpOp_val rfl rfl (v := .pointer (some ⟨g, 2, none⟩)) (w' := W) (by simp [go_sem, g3, tln]) ⟨_, _, rfl, rfl, Below.refl _ _, rfl⟩
                  | 5, _, _, _ =>
                    obtain rfl := Option.some.inj ho
                    obtain ⟨v4, g4, f4⟩ := hk.got (j := 4) rfl rfl (hc ⟨4, .data⟩ (by simp) rfl)
                    obtain rfl : v4 = _ := f4
                    exact wpOp_val rfl rfl (v := .pointer (some ⟨g, 3, none⟩)) (w' := W) (by simp [go_sem, g4]) ⟨_, _, rfl, rfl, Below.refl _ _, rfl⟩
                  | 6, _, _, _ =>
                    obtain rfl := Option.some.inj ho
                    obtain ⟨v5, g5, f5⟩ := hk.got (j := 5) rfl rfl (hc ⟨5, .data⟩ (by simp) rfl)
                    obtain rfl : v5 = _ := f5
                    have c3 := (row_second (hj.2.2 rfl).1 (hj.2.2 rfl).2 HPs.out HLs.out).1
                    exact wpOp_val rfl rfl (v := .slice (some ⟨vb, 0, none⟩) 1 1) (w' := W) (by simp [go_sem, g5, c3]) ⟨_, _, rfl, rfl, Below.refl _ _, rfl⟩
                  | 9, _, _, _ =>
                    obtain rfl := Option.some.inj ho
                    obtain ⟨v1, g1, f1⟩ := hk.got (j := 1) rfl rfl (hc ⟨1, .data⟩ (by simp) rfl)
                    obtain rfl : v1 = _ := f1
                    exact wpOp_val rfl rfl (v := .pointer (some ⟨g, 2, none⟩)) (w' := W) (by simp [go_sem, g1, tln]) ⟨_, _, rfl, rfl, Below.refl _ _, rfl⟩
                  | 10, _, _, _ =>
                    obtain rfl := Option.some.inj ho
                    obtain ⟨v9, g9, f9⟩ := hk.got (j := 9) rfl rfl (hc ⟨9, .data⟩ (by simp) rfl)
                    obtain rfl : v9 = _ := f9
                    exact wpOp_val rfl rfl (v := .pointer (some ⟨g, 3, none⟩)) (w' := W) (by simp [go_sem, g9]) ⟨_, _, rfl, rfl, Below.refl _ _, rfl⟩
                  | 7, _, h, _ => exact absurd rfl h
                  | 8, _, _, h => exact absurd rfl h
                  | m + 11, hm, _, _ => exact absurd hm (by simp)
                case hx14 =>
                  intro listed a W hsz hj hk o ho hc
                  obtain rfl := Option.some.inj ho
                  exact wpOp_val rfl rfl (v := .slice (some ⟨W.heap.size, 0, none⟩) 1 1) (w' := W.alloc (.cells #[.string ⟨#[112, 111, 115, 105, 120]⟩] 9)) (by simp [go_sem]) ⟨_, _, rfl, rfl, ((Below.refl _ _).alloc (Nat.le_refl _) _).mono hsz, ⟨_, rfl, heap_alloc_new W _⟩, MkJ.go hj ((Below.refl _ _).alloc (Nat.le_refl _) _), fun j u hj2 h => FK.go h ((Below.refl _ _).alloc (Nat.le_refl _) _)⟩
                case hy14 =>
                  intro listed a W hsz hj hk o ho hc
                  obtain rfl := Option.some.inj ho
                  obtain ⟨v6, g6, f6⟩ := hk.got (j := 6) rfl rfl (hc ⟨6, .data⟩ (by simp) rfl)
                  obtain rfl : v6 = _ := f6
                  obtain ⟨v7, g7, f7⟩ := hk.got (j := 7) rfl rfl (hc ⟨7, .data⟩ (by simp) rfl)
                  obtain ⟨c, rfl, hcc⟩ := f7
                  have ht := (row_second (hj.2.2 rfl).1 (hj.2.2 rfl).2 HPs.out HLs.out).2.2
                  obtain ⟨v', w', hrun, hbel, hto⟩ := run_grow_one ht hcc 29
                  exact wpOp_val rfl rfl (exec_append rfl (by simp [go_sem, g6]) (by simp [go_sem, g7]) hrun) ⟨_, _, rfl, rfl, hbel.mono hsz, hto, MkJ.go hj hbel, fun j u hj2 h => FK.go h hbel⟩
                case hl14 =>
                  intro listed a W hsz hj hk hall
                  obtain ⟨vr, gr, fr⟩ := hk.got (j := 8) rfl rfl (hall 8 (by simp))
                  obtain ⟨vp, gp, fp⟩ := hk.got (j := 10) rfl rfl (hall 10 (by simp))
                  obtain rfl : vp = _ := fp
                  obtain ⟨c3, f3, _⟩ := row_second (hj.2.2 rfl).1 (hj.2.2 rfl).2 HPs.out HLs.out
                  have hm0 : ∃ P2, MkAt W0.heap.size (W.setCell ⟨g, 3, none⟩ vr) ge D3 (.slice (some ⟨g, 0, none⟩) n2 sc) P2 (L.set 1 (objB, [X] ++ [(⟨#[112, 111, 115, 105, 120]⟩ : ByteArray).data.toList])) kb (kC ns 8) := by
                    obtain ⟨t, hPt⟩ := HPs.out
                    obtain ⟨hP1, _⟩ := List.getElem?_eq_some_iff.1 hPt
                    obtain ⟨hL1, eL1⟩ := List.getElem?_eq_some_iff.1 HLs.out
                    have := mkAt_set (j := 1) hL1 hP1 (⟨hj.1, (hj.2.2 rfl).1, (hj.2.2 rfl).2, hj.2.1, HLo.out⟩ : MkAt W0.heap.size W ge D3 (.slice (some ⟨g, 0, none⟩) n2 sc) P L kb (kC ns 8)) fr
                    rw [eL1] at this
                    exact ⟨_, this⟩
                  obtain ⟨P2, hm0⟩ := hm0
                  obtain ⟨L2, hL2⟩ : ∃ L2, L2 = L.set 1 (objB, [X] ++ [(⟨#[112, 111, 115, 105, 120]⟩ : ByteArray).data.toList]) := ⟨_, rfl⟩
                  rw [← hL2] at hm0
                  have hvr : ∃ a9 c9, vr = .slice a9 2 c9 := by
                    obtain ⟨a9, c9, e9, _⟩ := (show IsTo (StrB W) W ([X] ++ [(⟨#[112, 111, 115, 105, 120]⟩ : ByteArray).data.toList]) vr from fr)
                    exact ⟨a9, c9, e9⟩
                  obtain ⟨a9, c9, rfl⟩ := hvr
                  have hB9 := (HBw.out.trans hk.grown).setCell (p := ⟨g, 3, none⟩) HGg.out (.slice a9 2 c9)
                  have hput := hk.puts
                  refine wpOp_skip rfl rfl (w' := W.setCell ⟨g, 3, none⟩ (.slice a9 2 c9)) (by simp [go_sem, gr, gp, c3, f3]) ?_
                  rw [hput]
                  simp only [putT]
                  generalize a.tmps[79]?.getD undef = x79
                  generalize a.tmps[80]?.getD undef = x80
                  generalize a.tmps[81]?.getD undef = x81
                  generalize a.tmps[82]?.getD undef = x82
                  generalize a.tmps[83]?.getD undef = x83
                  generalize a.tmps[84]?.getD undef = x84
                  generalize a.tmps[85]?.getD undef = x85
                  generalize a.tmps[86]?.getD undef = x86
                  generalize a.tmps[87]?.getD undef = x87
                  generalize a.tmps[88]?.getD undef = x88
                  generalize a.tmps[89]?.getD undef = x89
                  have HM2 := Lib.hid hm0
                  have HB9 := Lib.hid hB9
                  have HL2 := Lib.hid hL2
                  generalize W.setCell ⟨g, 3, none⟩ (.slice a9 2 c9) = w2 at HM2 HB9 ⊢
                  clear hall hput gr gp c3 f3 hk hj hm0 hB9 hL2 fr
                  go_simp
                  have HLc0 : Hid (mkLc ns = L2 ++ [([117, 105, 100], [[117] ++ Lib.itoa (q49 : Int)]), ([117, 105, 100, 78, 117, 109, 98, 101, 114], [Lib.itoa ((kOf ns 4 : Int) - 100)])]) := Lib.hid (by
                    have e1 : (mkLb ns).getD 1 ([], []) = (objB, [X]) := by rw [← HLL.out, List.getD_eq_getElem?_getD, HLs.out]; rfl
                    unfold mkLc
                    rw [if_pos hc, e1, HL2.out, ← HLL.out, hq49])
                  have HLl2 : Hid (L2.length ≤ 100) := Lib.hid (by rw [HL2.out, List.length_set]; exact HLl.out)
                  have d4 := kc_cell HM2.out.nums 4 (by omega)
                  clear HL2 HLs HPs HP1 HLL HLl HM HBw HZ HJ HGg
                  clear tln tln0
                  obtain ⟨u, P, L, HM, HLl, HLc0⟩ : ∃ u P L, Hid (MkAt W0.heap.size w2 ge D3 u P L kb (kC ns 8)) ∧ Hid (L.length ≤ 100) ∧ Hid (mkLc ns = L ++ [([117, 105, 100], [[117] ++ Lib.itoa (q49 : Int)]), ([117, 105, 100, 78, 117, 109, 98, 101, 114], [Lib.itoa ((kOf ns 4 : Int) - 100)])]) := ⟨_, _, _, HM2, HLl2, HLc0⟩
                  clear HM2 HLl2
                  have HBw := HB9
                  obtain ⟨TD, hTD⟩ : ∃ X, X = ofL (Lib.itoa (q49 : Int)) := ⟨_, rfl⟩
                  have hdg := fun W => digits_any (q49 : Int) (by omega) (by omega) W
                  rw [← hTD] at hdg
                  have HDg := Lib.hid hdg
                  have hTs : TD.size ≤ 3 := by rw [hTD, ← bytes_len, ofL_list]; exact itoa_short ⟨q49, by omega⟩
                  obtain ⟨TE, hTE⟩ : ∃ X, X = ofL (Lib.itoa ((kOf ns 4 : Int) - 100)) := ⟨_, rfl⟩
                  have hde := fun W => digits_any ((kOf ns 4 : Int) - 100) (by omega) (by omega) W
                  rw [← hTE] at hde
                  have HDe := Lib.hid hde
                  obtain ⟨TA, hTA⟩ : ∃ P, (⟨#[117]⟩ : ByteArray) ++ TD = P := ⟨_, rfl⟩
                  have hTl : TA.data.toList = [117] ++ Lib.itoa (q49 : Int) := by rw [← hTA, app_list, hTD, ofL_list]
                  have hTel : TE.data.toList = Lib.itoa ((kOf ns 4 : Int) - 100) := by rw [hTE, ofL_list]
                  have qTA : 1 + TD.size ≤ 9223372036854775807 := by omega
                  have HLc : Hid (mkLc ns = L ++ [([117, 105, 100], [TA.data.toList]), ([117, 105, 100, 78, 117, 109, 98, 101, 114], [TE.data.toList])]) := Lib.hid (by rw [HLc0.out, hTl, hTel])
                  have hw100 : IntKind.i64.wrap ((kOf ns 4 : Int) - 100) = (kOf ns 4 : Int) - 100 := by rw [IntKind.wrap_i64]; omega
                  have HZ := Lib.hid HM.out.j
                  have HJ : Hid (W0.heap.size ≤ w2.heap.size) := Lib.hid HBw.out.size
                  clear hTD hdg hTs hTE hde hTl hTel HLc0 hq49 hc t1
                  go_upto_region 15 with (fail)
                  refine region_J (by kernel_rfl) W0.heap.size 17 18 (fun _ q => FK W0.heap.size [.is (.pointer (some ⟨ge, 1, none⟩)), .is (u), .is (.slice (some ⟨kb, 0, none⟩) 8 8), .is (.pointer (some ⟨kb, 4, none⟩)), .is (.int .i64 (kOf ns 4 : Int)), .is (.int .i64 (q49 : Int)), .is (.string TD), .is (.string TA), .val #[.string TA] (fun b => .slice (some ⟨b, 0, none⟩) 1 1), .val #[.string TA] (fun b => .agg #[.string ⟨#[117, 105, 100]⟩, .slice (some ⟨b, 0, none⟩) 1 1]), .is (.slice (some ⟨kb, 0, none⟩) 8 8), .is (.pointer (some ⟨kb, 4, none⟩)), .is (.int .i64 (kOf ns 4 : Int)), .is (.int .i64 ((kOf ns 4 : Int) - 100)), .is (.string TE), .val #[.string TE] (fun b => .slice (some ⟨b, 0, none⟩) 1 1), .val #[.string TE] (fun b => .agg #[.string ⟨#[117, 105, 100, 78, 117, 109, 98, 101, 114]⟩, .slice (some ⟨b, 0, none⟩) 1 1]), .att [([117, 105, 100], [TA.data.toList]), ([117, 105, 100, 78, 117, 109, 98, 101, 114], [TE.data.toList])], .row P (L ++ [([117, 105, 100], [TA.data.toList]), ([117, 105, 100, 78, 117, 109, 98, 101, 114], [TE.data.toList])]), .is (.pointer (some ⟨ge, 1, none⟩))] q) (fun _ q => MkJ W0.heap.size ge kb D3 u P L (kC ns 8) q) (fun _ _ _ _ _ h hb => MkJ.go h hb) HZ.out (fun _ _ _ _ _ _ _ h hb => FK.go h hb) HJ.out (by kernel_rfl) (by kernel_rfl) (by decide) (by rfl) ?hs15 ?hx15 ?hy15 ?hl15
                  case hs15 =>
                    intro listed a W p q hsz hj hk i o ho hi hi1 hi2 hc
                    have e3 := hk.read (t := 3) (by kernel_rfl) rfl
                    have e6 := hk.read (t := 6) (by kernel_rfl) rfl
                    have dk := fun x (hx : x < 8) => kc_cell (ns := ns) hj.2.1 x hx
                    match i, hi, hi1, hi2 with
                    | 0, _, _, _ =>
                      obtain rfl := Option.some.inj ho
                      exact wpOp_val rfl rfl (v := .pointer (some ⟨ge, 1, none⟩)) (w' := W) (by simp [go_sem, e6]) ⟨_, _, rfl, rfl, Below.refl _ _, rfl⟩
                    | 1, _, _, _ =>
                      obtain rfl := Option.some.inj ho
                      obtain ⟨v0, g0, f0⟩ := hk.got (j := 0) rfl rfl (hc ⟨0, .data⟩ (by simp) rfl)
                      obtain rfl : v0 = _ := f0
                      have d0 := hj.1.cells.2
                      exact wpOp_val rfl rfl (v := u) (w' := W) (by simp [go_sem, g0, d0]) ⟨_, _, rfl, rfl, Below.refl _ _, rfl⟩
                    | 2, _, _, _ =>
                      obtain rfl := Option.some.inj ho
                      exact wpOp_val rfl rfl (v := .slice (some ⟨kb, 0, none⟩) 8 8) (w' := W) (by simp [go_sem, e3]) ⟨_, _, rfl, rfl, Below.refl _ _, rfl⟩
                    | 3, _, _, _ =>
                      obtain rfl := Option.some.inj ho
                      obtain ⟨v2, g2, f2⟩ := hk.got (j := 2) rfl rfl (hc ⟨2, .data⟩ (by simp) rfl)
                      obtain rfl : v2 = _ := f2
                      exact wpOp_val rfl rfl (v := .pointer (some ⟨kb, 4, none⟩)) (w' := W) (by simp [go_sem, g2]) ⟨_, _, rfl, rfl, Below.refl _ _, rfl⟩
                    | 4, _, _, _ =>
                      obtain rfl := Option.some.inj ho
                      obtain ⟨v3, g3, f3⟩ := hk.got (j := 3) rfl rfl (hc ⟨3, .data⟩ (by simp) rfl)
                      obtain rfl : v3 = _ := f3
                      have d2 := dk 4 (by omega)
                      exact wpOp_val rfl rfl (v := .int .i64 (kOf ns 4 : Int)) (w' := W) (by simp [go_sem, g3, d2]) ⟨_, _, rfl, rfl, Below.refl _ _, rfl⟩
                    | 5, _, _, _ =>
                      obtain rfl := Option.some.inj ho
                      obtain ⟨v4, g4, f4⟩ := hk.got (j := 4) rfl rfl (hc ⟨4, .data⟩ (by simp) rfl)
                      obtain rfl : v4 = _ := f4
                      exact wpOp_val rfl rfl (v := .int .i64 (q49 : Int)) (w' := W) (by simp [go_sem, g4, hm49]) ⟨_, _, rfl, rfl, Below.refl _ _, rfl⟩
                    | 6, _, _, _ =>
                      obtain rfl := Option.some.inj ho
                      obtain ⟨v5, g5, f5⟩ := hk.got (j := 5) rfl rfl (hc ⟨5, .data⟩ (by simp) rfl)
                      obtain rfl : v5 = _ := f5
                      refine wpOp_call rfl rfl (f := 26) (args := #[.int .i64 (q49 : Int)]) (by simp [go_sem, g5]) ((HDg.out W).mono ?_)
                      rintro e w2 ⟨rfl, hb2⟩
                      exact ⟨_, rfl, _, _, rfl, rfl, hb2, rfl⟩
                    | 7, _, _, _ =>
                      obtain rfl := Option.some.inj ho
                      obtain ⟨v6, g6, f6⟩ := hk.got (j := 6) rfl rfl (hc ⟨6, .data⟩ (by simp) rfl)
                      obtain rfl : v6 = _ := f6
                      exact wpOp_val rfl rfl (v := .string TA) (w' := W) (by simp [go_sem, g6, hTA, qTA]) ⟨_, _, rfl, rfl, Below.refl _ _, rfl⟩
                    | 8, _, _, _ =>
                      obtain rfl := Option.some.inj ho
                      obtain ⟨v7, g7, f7⟩ := hk.got (j := 7) rfl rfl (hc ⟨7, .data⟩ (by simp) rfl)
                      obtain rfl : v7 = _ := f7
                      exact wpOp_val rfl rfl (v := .slice (some ⟨W.heap.size, 0, none⟩) 1 1) (w' := W.alloc (.cells #[.string TA] 9)) (by simp [go_sem, g7]) ⟨_, _, rfl, rfl, ((Below.refl _ _).alloc (Nat.le_refl _) _), ⟨_, rfl, heap_alloc_new W _⟩⟩
                    | 9, _, _, _ =>
                      obtain rfl := Option.some.inj ho
                      obtain ⟨v8, g8, f8⟩ := hk.got (j := 8) rfl rfl (hc ⟨8, .data⟩ (by simp) rfl)
                      obtain ⟨b, rfl, hb⟩ := f8
                      exact wpOp_val rfl rfl (v := .agg #[.string ⟨#[117, 105, 100]⟩, .slice (some ⟨b, 0, none⟩) 1 1]) (w' := W) (by simp [go_sem, g8]) ⟨_, _, rfl, rfl, Below.refl _ _, ⟨_, rfl, hb⟩⟩
                    | 10, _, _, _ =>
                      obtain rfl := Option.some.inj ho
                      exact wpOp_val rfl rfl (v := .slice (some ⟨kb, 0, none⟩) 8 8) (w' := W) (by simp [go_sem, e3]) ⟨_, _, rfl, rfl, Below.refl _ _, rfl⟩
                    | 11, _, _, _ =>
                      obtain rfl := Option.some.inj ho
                      obtain ⟨v10, g10, f10⟩ := hk.got (j := 10) rfl rfl (hc ⟨10, .data⟩ (by simp) rfl)
                      obtain rfl : v10 = _ := f10
                      exact wpOp_val rfl rfl (v := .pointer (some ⟨kb, 4, none⟩)) (w' := W) (by simp [go_sem, g10]) ⟨_, _, rfl, rfl, Below.refl _ _, rfl⟩
                    | 12, _, _, _ =>
                      obtain rfl := Option.some.inj ho
                      obtain ⟨v11, g11, f11⟩ := hk.got (j := 11) rfl rfl (hc ⟨11, .data⟩ (by simp) rfl)
                      obtain rfl : v11 = _ := f11
                      have d2 := dk 4 (by omega)
                      exact wpOp_val rfl rfl (v := .int .i64 (kOf ns 4 : Int)) (w' := W) (by simp [go_sem, g11, d2]) ⟨_, _, rfl, rfl, Below.refl _ _, rfl⟩
                    | 13, _, _, _ =>
                      obtain rfl := Option.some.inj ho
                      obtain ⟨v12, g12, f12⟩ := hk.got (j := 12) rfl rfl (hc ⟨12, .data⟩ (by simp) rfl)
                      obtain rfl : v12 = _ := f12
                      exact wpOp_val rfl rfl (v := .int .i64 ((kOf ns 4 : Int) - 100)) (w' := W) (by simp [go_sem, g12, hw100]) ⟨_, _, rfl, rfl, Below.refl _ _, rfl⟩
                    | 14, _, _, _ =>
                      obtain rfl := Option.some.inj ho
                      obtain ⟨v13, g13, f13⟩ := hk.got (j := 13) rfl rfl (hc ⟨13, .data⟩ (by simp) rfl)
                      obtain rfl : v13 = _ := f13
                      refine wpOp_call rfl rfl (f := 26) (args := #[.int .i64 ((kOf ns 4 : Int) - 100)]) (by simp [go_sem, g13]) ((HDe.out W).mono ?_)
                      rintro e w2 ⟨rfl, hb2⟩
                      exact ⟨_, rfl, _, _, rfl, rfl, hb2, rfl⟩
                    | 15, _, _, _ =>
                      obtain rfl := Option.some.inj ho
                      obtain ⟨v14, g14, f14⟩ := hk.got (j := 14) rfl rfl (hc ⟨14, .data⟩ (by simp) rfl)
                      obtain rfl : v14 = _ := f14
                      exact wpOp_val rfl rfl (v := .slice (some ⟨W.heap.size, 0, none⟩) 1 1) (w' := W.alloc (.cells #[.string TE] 9)) (by simp [go_sem, g14]) ⟨_, _, rfl, rfl, ((Below.refl _ _).alloc (Nat.le_refl _) _), ⟨_, rfl, heap_alloc_new W _⟩⟩
                    | 16, _, _, _ =>
                      obtain rfl := Option.some.inj ho
                      obtain ⟨v15, g15, f15⟩ := hk.got (j := 15) rfl rfl (hc ⟨15, .data⟩ (by simp) rfl)
                      obtain ⟨b, rfl, hb⟩ := f15
                      exact wpOp_val rfl rfl (v := .agg #[.string ⟨#[117, 105, 100, 78, 117, 109, 98, 101, 114]⟩, .slice (some ⟨b, 0, none⟩) 1 1]) (w' := W) (by simp [go_sem, g15]) ⟨_, _, rfl, rfl, Below.refl _ _, ⟨_, rfl, hb⟩⟩
                    | 19, _, _, _ =>
                      obtain rfl := Option.some.inj ho
                      exact wpOp_val rfl rfl (v := .pointer (some ⟨ge, 1, none⟩)) (w' := W) (by simp [go_sem, e6]) ⟨_, _, rfl, rfl, Below.refl _ _, rfl⟩
                    | 17, _, h, _ => exact absurd rfl h
                    | 18, _, _, h => exact absurd rfl h
                    | m + 20, hm, _, _ => exact absurd hm (by simp)
                  case hx15 =>
                    intro listed a W hsz hj hk o ho hc
                    obtain rfl := Option.some.inj ho
                    obtain ⟨v9, g9, f9⟩ := hk.got (j := 9) rfl rfl (hc ⟨9, .data⟩ (by simp) rfl)
                    obtain ⟨b, rfl, hb⟩ := f9
                    obtain ⟨v16, g16, f16⟩ := hk.got (j := 16) rfl rfl (hc ⟨16, .data⟩ (by simp) rfl)
                    obtain ⟨b2, rfl, hb2⟩ := f16
                    have hbl := (Array.getElem?_eq_some_iff.1 hb).1
                    have hbl2 := (Array.getElem?_eq_some_iff.1 hb2).1
                    exact wpOp_val rfl rfl (v := .slice (some ⟨W.heap.size, 0, none⟩) 2 2) (w' := W.alloc (.cells #[.string ⟨#[117, 105, 100]⟩, .slice (some ⟨b, 0, none⟩) 1 1, .string ⟨#[117, 105, 100, 78, 117, 109, 98, 101, 114]⟩, .slice (some ⟨b2, 0, none⟩) 1 1] 31)) (by simp [go_sem, g9, g16]) ⟨_, _, rfl, rfl, ((Below.refl _ _).alloc (Nat.le_refl _) _).mono hsz, .inr ⟨W.heap.size, [(_, .slice (some ⟨b, 0, none⟩) 1 1), (_, .slice (some ⟨b2, 0, none⟩) 1 1)], rfl, heap_alloc_new W _, saysM_app (saysM_one (X := ⟨#[117, 105, 100]⟩) ((heap_alloc_old W _ hbl).trans hb)) (saysM_one (X := ⟨#[117, 105, 100, 78, 117, 109, 98, 101, 114]⟩) ((heap_alloc_old W _ hbl2).trans hb2))⟩, MkJ.go hj ((Below.refl _ _).alloc (Nat.le_refl _) _), fun j u hj2 h => FK.go h ((Below.refl _ _).alloc (Nat.le_refl _) _)⟩
                  case hy15 =>
                    intro listed a W hsz hj hk o ho hc
                    obtain rfl := Option.some.inj ho
                    obtain ⟨v1, g1, f1⟩ := hk.got (j := 1) rfl rfl (hc ⟨1, .data⟩ (by simp) rfl)
                    obtain rfl : v1 = _ := f1
                    obtain ⟨v17, g17, f17⟩ := hk.got (j := 17) rfl rfl (hc ⟨17, .data⟩ (by simp) rfl)
                    obtain ⟨c, PM, rfl, hcc, hps⟩ := f17.resolve_left (by simp)
                    obtain ⟨hr, hsay⟩ := hj.2.2 rfl
                    obtain ⟨v', w', hrun, hr', hs', hbel, hk1, hk2⟩ := run_append_P hr hsay hsz hps ⟨c, 0, none⟩ 2 (fun j u hu => by rw [addr0]; exact list_cells hcc j u hu) (by have := HLl.out; simp; omega) 23
                    exact wpOp_val rfl rfl (exec_append rfl (by simp [go_sem, g1]) (by simp [go_sem, g17]) hrun) ⟨_, _, rfl, rfl, hbel, ⟨rfl, PM, hr', hs'⟩, MkJ.loud hj hk2, fun j u hj2 h => FK.loud h hk1 hk2⟩
                  case hl15 =>
                    intro listed a W hsz hj hk hall
                    obtain ⟨vr, gr, fr⟩ := hk.got (j := 18) rfl rfl (hall 18 (by simp))
                    obtain ⟨vp, gp, fp⟩ := hk.got (j := 19) rfl rfl (hall 19 (by simp))
                    obtain rfl : vp = _ := fp
                    obtain ⟨_, PM, hr, hs⟩ := fr
                    obtain ⟨sa, sc, hv⟩ := rowP_slice hr
                    obtain ⟨ln, hln⟩ : ∃ k, k = (P ++ PM).length := ⟨_, rfl⟩
                    rw [← hln] at hv
                    subst hv
                    have HLn := Lib.hid hln
                    clear hln
                    obtain ⟨hm, c1, c2⟩ := mkAt_store hj hr hs HLo.out
                    have hput := hk.puts
                    refine wpOp_skip rfl rfl (w' := W.setCell ⟨ge, 1, none⟩ (.slice sa ln sc)) (by simp [go_sem, gr, gp, c1, c2]) ?_
                    rw [hput]
                    simp only [putT]
                    generalize a.tmps[90]?.getD undef = x90
                    generalize a.tmps[91]?.getD undef = x91
                    generalize a.tmps[92]?.getD undef = x92
                    generalize a.tmps[93]?.getD undef = x93
                    generalize a.tmps[94]?.getD undef = x94
                    generalize a.tmps[95]?.getD undef = x95
                    generalize a.tmps[96]?.getD undef = x96
                    generalize a.tmps[97]?.getD undef = x97
                    generalize a.tmps[98]?.getD undef = x98
                    generalize a.tmps[99]?.getD undef = x99
                    generalize a.tmps[100]?.getD undef = x100
                    generalize a.tmps[101]?.getD undef = x101
                    generalize a.tmps[102]?.getD undef = x102
                    generalize a.tmps[103]?.getD undef = x103
                    generalize a.tmps[104]?.getD undef = x104
                    generalize a.tmps[105]?.getD undef = x105
                    generalize a.tmps[106]?.getD undef = x106
                    generalize a.tmps[107]?.getD undef = x107
                    generalize a.tmps[108]?.getD undef = x108
                    generalize a.tmps[109]?.getD undef = x109
                    have HM := Lib.hid hm
                    have HG := Lib.hid ((HBw.out.trans hk.grown).setCell (p := ⟨ge, 1, none⟩) HLo.out (.slice sa ln sc))
                    clear hall hput gr gp hr hs c1 c2 hk hj hm
                    go_simp
                    go_wp2
                    go_meet
                    exact ⟨_, _, by rw [HLc.out]; exact HM.out, HG.out⟩
              · have t1 : ((kOf ns 3 : Int) % 4 == 0) = false := by simp; omega
                have HLb : Hid (mkLc ns = L) := Lib.hid (by unfold mkLc; rw [if_neg hc, HLL.out])
                clear hc
                go_wp2
                go_meet
                exact ⟨_, _, by rw [HLb.out]; exact HM.out, HBw.out⟩
            case rest =>
              obtain ⟨u, P, hM1, hB1⟩ := hcut
              rename World => w4
              clear HM HBw HP1 HLl HLL d3
              have d3 := kc_cell hM1.nums 3 (by omega)
              obtain ⟨L, hL⟩ : ∃ L, L = mkLc ns := ⟨_, rfl⟩
              rw [← hL] at hM1
              have HLl : Hid (L.length ≤ 100) := Lib.hid (by rw [hL]; unfold mkLc mkLb mkLa; split <;> split <;> split <;> simp [perL])
              have HLL := Lib.hid hL
              obtain ⟨ua, uc, hu⟩ := rowP_slice hM1.row
              obtain ⟨un, hun⟩ : ∃ k, k = P.length := ⟨_, rfl⟩
              rw [← hun] at hu
              subst hu
              have HM := Lib.hid hM1
              have HBw := Lib.hid hB1
              clear hL hM1 hB1 hun
              go_upto_if 114 with (fail)
              go_cut [114] from 110 to 121 (fun s114 wx => ∃ u P, MkAt W0.heap.size wx ge D3 u P (mkLd ns) kb (kC ns 8) ∧ Below W0.heap.size W0 wx)
              case first =>
                by_cases hc : kOf ns 3 % 4 = 1
                · have t1 : ((kOf ns 3 : Int) % 4 == 1) = true := by simp; omega
                  have HLd : Hid (mkLd ns = L ++ [([117, 115, 101, 114, 80, 97, 115, 115, 119, 111, 114, 100], [[115, 101, 99, 114, 101, 116]])]) := Lib.hid (by unfold mkLd; rw [if_pos hc, HLL.out])
                  obtain ⟨x0, x1⟩ := HM.out.box.cells
                  have hbl : Below w4.heap.size w4 ((w4.alloc (.cells #[.string ⟨#[115, 101, 99, 114, 101, 116]⟩] 9)).alloc (.cells #[.string ⟨#[117, 115, 101, 114, 80, 97, 115, 115, 119, 111, 114, 100]⟩, .slice (some ⟨w4.heap.size, 0, none⟩) 1 1] 31)) := ((Below.refl _ _).alloc (Nat.le_refl _) _).alloc (by simp) _
                  have hse : ((w4.alloc (.cells #[.string ⟨#[115, 101, 99, 114, 101, 116]⟩] 9)).alloc (.cells #[.string ⟨#[117, 115, 101, 114, 80, 97, 115, 115, 119, 111, 114, 100]⟩, .slice (some ⟨w4.heap.size, 0, none⟩) 1 1] 31)).heap[w4.heap.size]? = some (.cells #[.string ⟨#[115, 101, 99, 114, 101, 116]⟩] 9 (0, 0)) := (heap_alloc_old _ _ (by simp)).trans (heap_alloc_new w4 _)
                  have hat : ((w4.alloc (.cells #[.string ⟨#[115, 101, 99, 114, 101, 116]⟩] 9)).alloc (.cells #[.string ⟨#[117, 115, 101, 114, 80, 97, 115, 115, 119, 111, 114, 100]⟩, .slice (some ⟨w4.heap.size, 0, none⟩) 1 1] 31)).heap[w4.heap.size + 1]? = some (.cells #[.string ⟨#[117, 115, 101, 114, 80, 97, 115, 115, 119, 111, 114, 100]⟩, .slice (some ⟨w4.heap.size, 0, none⟩) 1 1] 31 (0, 0)) := by
                    have := heap_alloc_new (w4.alloc (.cells #[.string ⟨#[115, 101, 99, 114, 101, 116]⟩] 9)) (.cells #[.string ⟨#[117, 115, 101, 114, 80, 97, 115, 115, 119, 111, 114, 100]⟩, .slice (some ⟨w4.heap.size, 0, none⟩) 1 1] 31)
                    simpa using this
                  have hM2 := HM.out.go hbl
                  obtain ⟨v', w5, hrun, hr', hs', hbel, hk1, hk2⟩ := run_append_P hM2.row hM2.says (Nat.le_trans HBw.out.size hbl.size) (saysM_one (X := ⟨#[117, 115, 101, 114, 80, 97, 115, 115, 119, 111, 114, 100]⟩) hse) ⟨w4.heap.size + 1, 0, none⟩ 1 (cells_one hat) (by have := HLl.out; simp; omega) 23
                  obtain ⟨sa, sc, hv⟩ := rowP_slice hr'
                  obtain ⟨ln, hln⟩ : ∃ k, k = (P ++ [((⟨#[117, 115, 101, 114, 80, 97, 115, 115, 119, 111, 114, 100]⟩ : ByteArray).data.toList, Value.slice (some ⟨w4.heap.size, 0, none⟩) 1 1)]).length := ⟨_, rfl⟩
                  rw [← hln] at hv
                  subst hv
                  obtain ⟨hm, c1, c2⟩ := mkAt_store (MkJ.loud (MkJ.go HM.out.j hbl) hk2) hr' hs' HLo.out
                  have HM2 := Lib.hid hm
                  have HB2' := Lib.hid (((HBw.out.trans (hbl.mono HBw.out.size)).trans hbel).setCell (p := ⟨ge, 1, none⟩) HLo.out (.slice sa ln sc))
                  have HRun := Lib.hid hrun
                  clear hc hln hrun hr' hs' hbel hk1 hk2 hM2 hat hse hbl hm
                  go_wp2_with ((at_builtin; refine Lib.wpList_append_run _ rfl _ _ _ _ rfl _ _ rfl rfl _ _ (HRun.out) ?_))
                  go_meet
                  exact ⟨_, _, by rw [HLd.out]; exact HM2.out, HB2'.out⟩
                · have t1 : ((kOf ns 3 : Int) % 4 == 1) = false := by simp; omega
                  have HLd : Hid (mkLd ns = L) := Lib.hid (by unfold mkLd; rw [if_neg hc, HLL.out])
                  clear hc
                  go_wp2
                  go_meet
                  exact ⟨_, _, by rw [HLd.out]; exact HM.out, HBw.out⟩
              case rest =>
                obtain ⟨u, P, hM1, hB1⟩ := hcut
                rename World => w5
                clear HM HBw HLl HLL d3
                have d5 := kc_cell hM1.nums 5 (by omega)
                obtain ⟨L, hL⟩ : ∃ L, L = mkLd ns := ⟨_, rfl⟩
                rw [← hL] at hM1
                obtain ⟨ua, uc, hu⟩ := rowP_slice hM1.row
                obtain ⟨un, hun⟩ : ∃ k, k = P.length := ⟨_, rfl⟩
                rw [← hun] at hu
                subst hu
                have HLL := Lib.hid hL
                have HM := Lib.hid hM1
                have HBw := Lib.hid hB1
                obtain ⟨q5, hq5⟩ : ∃ q : Int, (kOf ns 5 : Int) % 5 = q := ⟨_, rfl⟩
                have HQ5 := Lib.hid hq5
                clear hL hM1 hB1 hun
                go_upto_block 2 with (fail)
                rw [hq5]
                clear hq5 d5
                go_cut [] from 126 to 136 (fun wx => ∃ D, D.data.toList = mkD ns ∧ MkAt W0.heap.size wx ge D (.slice ua un uc) P L kb (kC ns 8) ∧ Below W0.heap.size W0 wx)
                case first =>
                  have hN := HNs.out
                  by_cases h0 : kOf ns 5 % 5 = 0
                  · obtain rfl : q5 = 0 := by have := HQ5.out; omega
                    have q1 : 3 + NM.size ≤ 9223372036854775807 := by omega
                    have HD4 : Hid (((⟨#[99, 110, 61]⟩ : ByteArray) ++ NM).data.toList = mkD ns) := Lib.hid (by unfold mkD; rw [if_pos h0, app_list, HNl.out])
                    obtain ⟨hm, c1, c2⟩ := mkAt_name (D2 := (⟨#[99, 110, 61]⟩ : ByteArray) ++ NM) HM.out
                    have HM2 := Lib.hid hm
                    have HB2' := Lib.hid (HBw.out.setCell (p := ⟨ge, 0, none⟩) HLo.out (.string ((⟨#[99, 110, 61]⟩ : ByteArray) ++ NM)))
                    clear h0 hm hN HQ5
                    go_wp2
                    go_meet
                    exact ⟨_, HD4.out, HM2.out, HB2'.out⟩
                  · by_cases h1 : kOf ns 5 % 5 = 1
                    · obtain rfl : q5 = 1 := by have := HQ5.out; omega
                      have q1 : 3 + NM.size ≤ 9223372036854775807 := by omega
                      have q2 : 3 + NM.size + 9 ≤ 9223372036854775807 := by omega
                      have q3 : (9223372036854775807 < 3 + NM.size + 9) = False := by simp; omega
                      have HD4 : Hid (((⟨#[67, 78, 61]⟩ : ByteArray) ++ NM ++ (⟨#[44, 111, 117, 61, 97, 44, 111, 61, 120]⟩ : ByteArray)).data.toList = mkD ns) := Lib.hid (by unfold mkD; rw [if_neg h0, if_pos h1, app_list, app_list, HNl.out])
                      obtain ⟨hm, c1, c2⟩ := mkAt_name (D2 := (⟨#[67, 78, 61]⟩ : ByteArray) ++ NM ++ (⟨#[44, 111, 117, 61, 97, 44, 111, 61, 120]⟩ : ByteArray)) HM.out
                      have HM2 := Lib.hid hm
                      have HB2' := Lib.hid (HBw.out.setCell (p := ⟨ge, 0, none⟩) HLo.out (.string ((⟨#[67, 78, 61]⟩ : ByteArray) ++ NM ++ (⟨#[44, 111, 117, 61, 97, 44, 111, 61, 120]⟩ : ByteArray))))
                      clear h0 h1 hm hN HQ5
                      go_wp2
                      go_meet
                      exact ⟨_, HD4.out, HM2.out, HB2'.out⟩
                    · have t0 : (q5 == 0) = false := by simp; have := HQ5.out; omega
                      have t1 : (q5 == 1) = false := by simp; have := HQ5.out; omega
                      have HD4 : Hid (D3.data.toList = mkD ns) := Lib.hid (by unfold mkD; rw [if_neg h0, if_neg h1, HD.out, HNl.out])
                      clear h0 h1 hN HQ5
                      go_wp2
                      go_meet
                      exact ⟨_, HD4.out, HM.out, HBw.out⟩
                case rest =>
                  obtain ⟨D4, hD4, hM1, hB1⟩ := hcut
                  rename World => w6
                  obtain ⟨x0, x1⟩ := hM1.box.cells
                  have hc6 : w6.heap[w.heap.size]? = some (.cells #[.string ⟨#[]⟩, .slice none 0 0] 25 (0, 0)) := (hB1.block _ (by have := HZ0.out; omega)).trans HBx.out
                  obtain ⟨o0, o1, o2, o3⟩ := entry_new hc6 (.string D4)
                  have hbw : Below w.heap.size w w6 := HB0.out.trans (hB1.mono HB0.out.size)
                  have hmt := mAt_store (D := D4) hbw hc6 (Nat.le_refl _) (⟨P, World.ownsRow.mono hM1.row HB0.out.size, hM1.says⟩ : OwnM w.heap.size w6 (.slice ua un uc) L)
                  have HMt := Lib.hid hmt
                  have HD4 := Lib.hid hD4
                  obtain ⟨z0, z1⟩ := hmt.box.cells
                  clear hD4 hM1 hB1 hc6 hbw hmt HM HBw
                  go_wp2
                  refine bodyPost_ret (v := .agg #[.string D4, .slice ua un uc]) (by simp [results, Tryz.results7, go_sem, z0, z1]) rfl ⟨D4, _, rfl, HD4.out, ?_, HMt.out.below⟩
                  rw [← HLL.out]
                  exact HMt.out.own
end Go.Proofs.YtaapdipejpbdeaaGreatDoor

/- brooklaw4.turned: small rows of attributes; what its cases make of one. -/
namespace Go.Proofs.YtaapdipejpbdeaaGreatDoor
open Go.RowKit
set_option linter.unusedVariables false

def tinyT (k : Nat) (A : List (List UInt8)) : Prop := A.length ≤ k ∧ ∀ t ∈ A, t.length ≤ 1000
def tinyA (k : Nat) (L : List AT) : Prop := L.length ≤ k ∧ ∀ a ∈ L, a.1.length ≤ 1000 ∧ tinyT k a.2
theorem tinyT.mono {k m : Nat} {A : List (List UInt8)} (h : tinyT k A) (hk : k ≤ m) : tinyT m A := ⟨Nat.le_trans h.1 hk, h.2⟩
theorem tinyA.mono {k m : Nat} {L : List AT} (h : tinyA k L) (hk : k ≤ m) : tinyA m L := ⟨Nat.le_trans h.1 hk, fun a ha => ⟨(h.2 a ha).1, (h.2 a ha).2.mono hk⟩⟩
theorem tinyA.set {k j : Nat} {L : List AT} {x : AT} (h : tinyA k L) (h1 : x.1.length ≤ 1000) (h2 : tinyT k x.2) : tinyA k (L.set j x) :=
  ⟨by simpa using h.1, fun a ha => by
    rcases List.mem_or_eq_of_mem_set ha with h' | rfl
    · exact h.2 _ h'
    · exact ⟨h1, h2⟩⟩
theorem tinyA.erase {k j : Nat} {L : List AT} (h : tinyA k L) : tinyA k (L.eraseIdx j) :=
  ⟨Nat.le_trans (List.length_eraseIdx_le L j) h.1, fun a ha => h.2 _ (List.mem_of_mem_eraseIdx ha)⟩
theorem tinyA.app {k : Nat} {L M : List AT} (h : tinyA k L) (hm : tinyA k M) (hl : L.length + M.length ≤ k) : tinyA k (L ++ M) :=
  ⟨by rw [List.length_append]; exact hl, fun a ha => by
    rcases List.mem_append.1 ha with h' | h'
    · exact h.2 _ h'
    · exact hm.2 _ h'⟩
theorem tinyT.app {k : Nat} {L M : List (List UInt8)} (h : tinyT k L) (hm : tinyT k M) (hl : L.length + M.length ≤ k) : tinyT k (L ++ M) :=
  ⟨by rw [List.length_append]; exact hl, fun a ha => by
    rcases List.mem_append.1 ha with h' | h'
    · exact h.2 _ h'
    · exact hm.2 _ h'⟩
theorem tinyA.small {k : Nat} {L : List AT} (h : tinyA k L) (hk : k ≤ 1000) : smallA L :=
  ⟨Nat.le_trans h.1 hk, fun a ha => ⟨Nat.le_trans (h.2 a ha).1 (by omega), Nat.le_trans (h.2 a ha).2.1 hk, fun s hs => Nat.le_trans ((h.2 a ha).2.2 s hs) (by omega)⟩⟩
theorem tinyA.at {k j : Nat} {L : List AT} (h : tinyA k L) (hj : j < L.length) : L[j].1.length ≤ 1000 ∧ tinyT k L[j].2 := h.2 _ (List.getElem_mem hj)

theorem cellsP_setT : ∀ (P : List PT) (j : Nat) (h : j < P.length) (T : List UInt8), (cellsP P).set (j * 2) (strV T) = cellsP (P.set j (T, P[j].2))
  | r :: l, 0, _, T => rfl
  | r :: l, j + 1, h, T => by
    rw [show (j + 1) * 2 = j * 2 + 2 from by omega]
    show strV r.1 :: r.2 :: (cellsP l).set (j * 2) (strV T) = strV r.1 :: r.2 :: cellsP (l.set j _)
    rw [cellsP_setT l j (by simpa using h) T]
    rfl
/-- One attribute's type is set. -/
theorem rowP_setT {B g n cap : Nat} {w : World} {P : List PT} {L : List AT} {j : Nat} (hj : j < L.length) (hjP : j < P.length) (X : ByteArray) (hr : RowP B w (.slice (some ⟨g, 0, none⟩) n cap) P) (hs : SaysM w P L) :
    RowP B (w.setCell ⟨g, j * 2, none⟩ (.string X)) (.slice (some ⟨g, 0, none⟩) n cap) (P.set j (X.data.toList, P[j].2)) ∧ SaysM (w.setCell ⟨g, j * 2, none⟩ (.string X)) (P.set j (X.data.toList, P[j].2)) (L.set j (X.data.toList, L[j].2)) ∧ w.cell? ⟨g, j * 2, none⟩ = some (strV P[j].1) ∧ w.frozen? ⟨g, j * 2, none⟩ = false ∧ (∃ cs, w.heap[g]? = some (.cells cs 31 (0, 0))) := by
  have hPl := hs.1
  unfold RowP at hr
  have hg : ∃ cs, w.heap[g]? = some (.cells cs 31 (0, 0)) ∧ B ≤ g ∧ n = P.length := by
    rcases hr.2 with ⟨h', _⟩ | ⟨g', cap', cur, h', hb, hg, _⟩
    · simp at h'
    · simp only [Value.slice.injEq, Option.some.injEq, Addr.mk.injEq, and_true] at h'
      obtain ⟨rfl, rfl, _⟩ := h'
      exact ⟨cur, hg, hb, rfl⟩
  obtain ⟨cs, hg, hB, rfl⟩ := hg
  have hst := (World.ownsRow.stored hr (j * 2) (.string X)).1
  have hcl := World.ownsRow.cellAt hr (j * 2) (by omega)
  rw [show Value.string X = strV X.data.toList from (strV_whole X).symm, cellsP_setT P j hjP] at hst
  rw [show Value.string X = strV X.data.toList from (strV_whole X).symm]
  have hot : ∀ k, StrB w k → (w.setCell ⟨g, j * 2, none⟩ (strV X.data.toList)).heap[k]? = w.heap[k]? := fun k hk => block_ne w ⟨g, _, none⟩ _ fun e => by
    obtain ⟨cs', fr', hk⟩ := hk
    rw [show k = g from e, hg] at hk
    cases hk
  refine ⟨?_, ?_, by rw [hcl]; exact (cellsP_get P j hjP).1, World.ownsRow.frozenAt hr _, ⟨cs, hg⟩⟩
  · unfold RowP
    rw [List.length_set]
    exact hst
  · refine ⟨by simp [hPl], fun i hi hi' => ?_⟩
    have hi1 : i < L.length := by simpa using hi
    have hi2 : i < P.length := by simpa using hi'
    have base := hs.2 i hi1 hi2
    have im : IsTo (StrB w) w L[i].2 P[i].2 → IsTo (StrB (w.setCell ⟨g, j * 2, none⟩ (strV X.data.toList))) (w.setCell ⟨g, j * 2, none⟩ (strV X.data.toList)) L[i].2 P[i].2 := fun q => q.imp (fun b hb => by obtain ⟨cs', fr', e⟩ := hb; exact ⟨cs', fr', (hot b ⟨cs', fr', e⟩).trans e⟩) (fun b o hb => by simp only [World.cell?, hot b hb])
    by_cases hij : j = i
    · subst hij
      rw [List.getElem_set_self, List.getElem_set_self]
      exact ⟨rfl, im base.2⟩
    · rw [List.getElem_set_ne hij, List.getElem_set_ne hij]
      exact ⟨base.1, im base.2⟩

theorem cellsP_take : ∀ (P : List PT) (j : Nat), (cellsP P).take (j * 2) = cellsP (P.take j)
  | [], j => by simp [cellsP]
  | r :: l, 0 => rfl
  | r :: l, j + 1 => by
    rw [show (j + 1) * 2 = j * 2 + 2 from by omega]
    show strV r.1 :: r.2 :: (cellsP l).take (j * 2) = strV r.1 :: r.2 :: cellsP (l.take j)
    rw [cellsP_take l j]
theorem cellsP_drop : ∀ (P : List PT) (j : Nat), (cellsP P).drop (j * 2) = cellsP (P.drop j)
  | [], j => by simp [cellsP]
  | r :: l, 0 => rfl
  | r :: l, j + 1 => by
    rw [show (j + 1) * 2 = j * 2 + 2 from by omega]
    show (cellsP l).drop (j * 2) = cellsP (l.drop j)
    exact cellsP_drop l j
theorem cellsP_one {w : World} {P : List PT} {L : List AT} (hs : SaysM w P L) : ∀ u ∈ cellsP P, u.oneCell' = true := by
  have e := hs.1
  intro u hu
  have : ∀ (l : List PT), (∀ j (h : j < l.length), l[j].2.oneCell' = true) → ∀ u ∈ cellsP l, u.oneCell' = true := by
    intro l
    induction l with
    | nil => intro _ u hu; simp [cellsP] at hu
    | cons r l ih =>
      intro h u hu
      simp only [cellsP, List.mem_cons] at hu
      rcases hu with rfl | rfl | hu
      · rfl
      · exact h 0 (by simp)
      · exact ih (fun j hj => h (j + 1) (by simpa using hj)) u hu
  exact this P (fun j hj => one_isTo (hs.2 j (by omega) hj).2) u hu

/-- 'append(l[:j], l[j+1:]...)' in a row of the call's own. -/
theorem run_cutout {B g n cap j : Nat} {w : World} {P : List PT} {L : List AT} (hr : RowP B w (.slice (some ⟨g, 0, none⟩) n cap) P) (hs : SaysM w P L) (hj : j < n) (ty : TypeId) :
    ∃ w', (Builtin.append_ #[23, 23] ty #[.slice (some ⟨g, 0, none⟩) j cap, .slice (some (if j + 1 = cap then ⟨g, 0, none⟩ else ⟨g, (j + 1) * 2, none⟩)) (n - (j + 1)) (cap - (j + 1))]).run Tryz.prog w = .ok (.slice (some ⟨g, 0, none⟩) (n - 1) cap) w' ∧ RowP B w' (.slice (some ⟨g, 0, none⟩) (n - 1) cap) (P.eraseIdx j) ∧ SaysM w' (P.eraseIdx j) (L.eraseIdx j) ∧ Below B w w' ∧ (∀ k, k ≠ g → w'.heap[k]? = w.heap[k]?) := by
  obtain ⟨i0, hi, hz0, hz1, hz2⟩ := info_parts infoA
  have hPl := hs.1
  have hone := cellsP_one hs
  unfold RowP at hr
  obtain ⟨hl2, hr2⟩ := hr
  rcases hr2 with ⟨h', _⟩ | ⟨g', cap', cur, h', hB, hg, hnc, hcm, hcs, htk⟩
  · simp at h'
  simp only [Value.slice.injEq, Option.some.injEq, Addr.mk.injEq, and_true] at h'
  obtain ⟨rfl, rfl, rfl⟩ := h'
  have hlen : (cellsP P).length = P.length * 2 := cellsP_length P
  have hnl : ((cellsP P).drop ((j + 1) * 2)).length = (P.length - (j + 1)) * 2 := by rw [List.length_drop, hlen]; omega
  have hcell : ∀ i, i < P.length * 2 → cur[i]? = (cellsP P)[i]? := fun i hi => by
    rw [← htk, List.getElem?_take_of_lt hi]
    simp
  have hnews : ∀ i u, ((cellsP P).drop ((j + 1) * 2))[i]? = some u → w.cell? ((if j + 1 = cap then (⟨g, 0, none⟩ : Addr) else ⟨g, (j + 1) * 2, none⟩).add i) = some u := by
    intro i u hu
    have hlt : i < (P.length - (j + 1)) * 2 := by
      rcases Nat.lt_or_ge i ((P.length - (j + 1)) * 2) with h | h
      · exact h
      · rw [List.getElem?_eq_none (by omega)] at hu; cases hu
    rw [if_neg (by omega)]
    have hadd : (⟨g, (j + 1) * 2, none⟩ : Addr).add i = ⟨g, (j + 1) * 2 + i, none⟩ := by simp [Addr.add]
    rw [hadd, cell_of_row w g _ cur _ (0, 0) hg, hcell _ (by omega)]
    rw [List.getElem?_drop] at hu
    exact hu
  have hrun := run_append_room (P := Tryz.prog) w 23 ty 31 i0 Tryz.underlying23 hi g j cap cur hg (if j + 1 = cap then ⟨g, 0, none⟩ else ⟨g, (j + 1) * 2, none⟩) (P.length - (j + 1)) (cap - (j + 1)) ((cellsP P).drop ((j + 1) * 2)) (by rw [hz1]; exact hnl) hnews (fun u hu => hone u (List.mem_of_mem_drop hu)) (by omega) (by rw [hz1, hnl]; omega)
  rw [hz1, show j + (P.length - (j + 1)) = P.length - 1 from by omega] at hrun
  have hel : (P.eraseIdx j).length = P.length - 1 := by rw [List.length_eraseIdx, if_pos (by omega)]
  have hcur : (cur.toList.take (j * 2) ++ (cellsP P).drop ((j + 1) * 2) ++ cur.toList.drop (j * 2 + ((cellsP P).drop ((j + 1) * 2)).length)).toArray.size = cap * 2 := by
    simp only [List.size_toArray, List.length_append, List.length_take, List.length_drop, Array.length_toList, hcs, hlen]
    omega
  have hhd : cur.toList.take (j * 2) = (cellsP P).take (j * 2) := by
    rw [← htk, List.take_take, Nat.min_eq_left (by omega)]
  have hcells : (cellsP P).take (j * 2) ++ (cellsP P).drop ((j + 1) * 2) = cellsP (P.eraseIdx j) := by
    rw [cellsP_take, cellsP_drop, ← cellsP_append, List.eraseIdx_eq_take_drop_succ]
  have hot : ∀ k, k ≠ g → (w.setRow g (cur.toList.take (j * 2) ++ (cellsP P).drop ((j + 1) * 2) ++ cur.toList.drop (j * 2 + ((cellsP P).drop ((j + 1) * 2)).length)).toArray).heap[k]? = w.heap[k]? := fun k hk => setRow_other w g k _ hk
  refine ⟨_, hrun, ?_, ?_, below_setRow (Below.refl B w) hB _, hot⟩
  · unfold RowP
    refine ⟨by rw [cellsP_length], .inr ⟨g, cap, _, by rw [hel], hB, setRow_heap w g cur _ _ _ hg, by omega, hcm, hcur, ?_⟩⟩
    rw [hel]
    show List.take ((P.length - 1) * 2) (cur.toList.take (j * 2) ++ (cellsP P).drop ((j + 1) * 2) ++ cur.toList.drop (j * 2 + ((cellsP P).drop ((j + 1) * 2)).length)) = _
    rw [hhd, hcells]
    exact List.take_left' (by rw [cellsP_length, hel])
  · have hto := saysM_to hs (w' := w.setRow g (cur.toList.take (j * 2) ++ (cellsP P).drop ((j + 1) * 2) ++ cur.toList.drop (j * 2 + ((cellsP P).drop ((j + 1) * 2)).length)).toArray) (fun b hb => hot b (fun e => by
      obtain ⟨cs, fr, hb⟩ := hb
      rw [e, hg] at hb
      cases hb))
    have e1 := saysM_part (A := []) (B := P.take j) (C := P.drop j) (L := []) (M := L.take j) (N := L.drop j) (by rw [List.nil_append, List.nil_append, List.take_append_drop, List.take_append_drop]; exact hto) rfl (by simp; omega)
    have e2 := saysM_part (A := P.take (j + 1)) (B := P.drop (j + 1)) (C := []) (L := L.take (j + 1)) (M := L.drop (j + 1)) (N := []) (by rw [List.append_nil, List.append_nil, List.take_append_drop, List.take_append_drop]; exact hto) (by simp; omega) (by simp; omega)
    rw [List.eraseIdx_eq_take_drop_succ, List.eraseIdx_eq_take_drop_succ]
    exact saysM_app e1 e2

/-- A row of texts of the call's own lies in a block of texts. -/
theorem ownS_strB {B : Nat} {w : World} {v : Value} {L : List (List UInt8)} (h : OwnS B w v L) (hl : L.length ≤ maxLen) : IsTo (StrB w) w L v := by
  have hc := ownS_isTo h hl
  by_cases hL : L = []
  · subst hL
    obtain ⟨a, c, hv⟩ := ownS_slice h
    exact ⟨a, c, hv, hl, fun j hj => absurd hj (by simp)⟩
  · obtain ⟨g, c, hv, _, hg, hcell⟩ := ownS_at h hL
    subst hv
    refine ⟨_, c, rfl, hl, fun j hj => ⟨g, 0, rfl, ?_, by rw [Nat.zero_add]; exact hcell j hj⟩⟩
    rcases h.2 with ⟨h', _⟩ | ⟨g', cap', cur, h', _, hgc, _⟩
    · simp at h'
    · simp only [Value.slice.injEq, Option.some.injEq, Addr.mk.injEq, and_true] at h'
      obtain ⟨rfl, _, _⟩ := h'
      exact ⟨cur, _, hgc⟩
theorem ownM_mono {B B' : Nat} {w : World} {v : Value} {L : List AT} (h : OwnM B w v L) (hb : B' ≤ B) : OwnM B' w v L := by
  obtain ⟨P, h1, h2⟩ := h
  exact ⟨P, World.ownsRow.mono h1 hb, h2⟩
/-- An append, as one step of a region that draws its order, by its run. -/
theorem step_append_run {P : Program} {ops : Array Oper} {o : Oper} {a : Act} {w : World} {K : Act → World → Prop} {Q : Exit → Act → World → Prop} {E : Prop} (hg : o.guard = none) (s x : Operand) (t : TypeId)
    (hop : o.op = Op.call { callee := Callee.builtin Builtin.append, args := #[s, x], argTypes := #[t, t] }) {v u v' : Value} {w' : World} (hs : a.eval s = v) (hx : a.eval x = u) (hrun : (Builtin.append_ #[t, t] o.type #[v, u]).run P w = .ok v' w') (hK : K (a.put o.dst v') w') :
    if Region.wanted o (yielded ops a.tmps) = true then Oper.wp P o a w K Q else E := by
  have hw : Region.wanted o (yielded ops a.tmps) = true := by simp [Region.wanted, hg]
  rw [if_pos hw]
  unfold Oper.wp
  simp [execOp, hop, resolve, invoke, builtin, hs, hx, hrun, Result.andThen]
  exact hK
end Go.Proofs.YtaapdipejpbdeaaGreatDoor

/- Numbers by their texts: no program. -/
namespace Go.Proofs.YtaapdipejpbdeaaGreatDoor
set_option linter.unusedVariables false

theorem decFrom_snoc (b : UInt8) : ∀ (l : List UInt8) (acc : Nat), Lib.decFrom acc (l ++ [b]) = (Lib.decFrom acc l).bind fun n => (Lib.digitVal b).map fun d => n * 10 + d
  | [], acc => by
    simp only [List.nil_append, Lib.decFrom, Option.bind_some]
    cases Lib.digitVal b <;> rfl
  | c :: l, acc => by
    simp only [List.cons_append, Lib.decFrom]
    cases Lib.digitVal c with
    | none => rfl
    | some d => exact decFrom_snoc b l _
theorem digitVal_dig (k : Nat) (h : k < 10) : Lib.digitVal (UInt8.ofNat (48 + k)) = some k := by
  have : (UInt8.ofNat (48 + k)).toNat = 48 + k := by simp; omega
  unfold Lib.digitVal
  rw [this, if_pos (by omega)]
  simp
theorem decFrom_dec (u : Nat) : Lib.decFrom 0 (Lib.decDigits u) = some u := by
  induction u using Nat.strongRecOn with
  | _ u ih =>
    by_cases h : u < 10
    · rw [Lib.decDigits_one h]
      simp only [Lib.decFrom, digitVal_dig u h, Nat.zero_mul, Nat.zero_add]
    · rw [Lib.decDigits, dif_neg h, decFrom_snoc, ih (u / 10) (by omega)]
      simp only [Option.bind_some, digitVal_dig _ (Nat.mod_lt u (by decide : 0 < 10)), Option.map_some]
      congr 1
      omega
theorem dec_ne (u : Nat) : Lib.decDigits u ≠ [] := by
  intro e
  have := Lib.decDigits_length u
  have h2 := Lib.nDigits_pos u
  rw [e] at this
  simp at this
  omega
theorem decNat_dec (u : Nat) : Lib.decNat (Lib.decDigits u) = some u := by
  unfold Lib.decNat
  cases h : Lib.decDigits u with
  | nil => exact absurd h (dec_ne u)
  | cons c r =>
    rw [← h]
    have : (Lib.decDigits u).isEmpty = false := by rw [h]; rfl
    rw [this]
    exact decFrom_dec u
/-- All are digits; the first one is none of 0 where there is more than one, or more than 0. -/
theorem dec_digits (u : Nat) : ∀ c ∈ Lib.decDigits u, 48 ≤ c.toNat ∧ c.toNat ≤ 57 := by
  induction u using Nat.strongRecOn with
  | _ u ih =>
    intro c hc
    by_cases h : u < 10
    · rw [Lib.decDigits_one h] at hc
      simp at hc
      subst hc
      simp; omega
    · rw [Lib.decDigits, dif_neg h] at hc
      rcases List.mem_append.1 hc with hc | hc
      · exact ih (u / 10) (by omega) c hc
      · simp at hc
        subst hc
        simp; omega
theorem dec_head (u : Nat) (h0 : 1 ≤ u) : ∀ c r, Lib.decDigits u = c :: r → c.toNat ≠ 48 := by
  induction u using Nat.strongRecOn with
  | _ u ih =>
    intro c r hc
    by_cases h : u < 10
    · rw [Lib.decDigits_one h] at hc
      simp at hc
      rw [← hc.1]
      simp; omega
    · rw [Lib.decDigits, dif_neg h] at hc
      cases hd : Lib.decDigits (u / 10) with
      | nil => exact absurd hd (dec_ne _)
      | cons x y =>
        rw [hd] at hc
        simp at hc
        rw [← hc.1]
        exact ih (u / 10) (by omega) (by omega) x y hd
theorem nDigits_le : ∀ (k u : Nat), u < 10 ^ (k + 1) → Lib.nDigits u ≤ k + 1
  | 0, u, h => by rw [Lib.nDigits_small (by simpa using h)]; exact Nat.le_refl _
  | k + 1, u, h => by
    by_cases h1 : u < 10
    · rw [Lib.nDigits_small h1]; omega
    · rw [Lib.nDigits_big h1]
      have := nDigits_le k (u / 10) (by rw [Nat.pow_succ] at h; omega)
      omega
theorem itoa_ne (v : Int) : Lib.itoa v ≠ [] := by
  unfold Lib.itoa
  split
  · simp
  · exact dec_ne _
theorem itoa_chars (v : Int) : ∀ c ∈ Lib.itoa v, c = 45 ∨ (48 ≤ c.toNat ∧ c.toNat ≤ 57) := by
  intro c hc
  unfold Lib.itoa at hc
  split at hc
  · rcases List.mem_cons.1 hc with h | h
    · exact .inl h
    · exact .inr (dec_digits _ c h)
  · exact .inr (dec_digits _ c hc)
theorem trim_neg (l : List UInt8) : Lib.trimPrefix (45 :: l) [45] = l := by simp [Lib.trimPrefix, Lib.hasPrefix]
theorem trim_not {c : UInt8} {l : List UInt8} (h : c ≠ 45) : Lib.trimPrefix (c :: l) [45] = c :: l := by
  simp [Lib.trimPrefix, Lib.hasPrefix]
  intro e
  exact absurd e.symm h
theorem trim_itoa (v : Int) : Lib.trimPrefix (Lib.itoa v) [45] = Lib.decDigits v.natAbs := by
  unfold Lib.itoa
  split
  · exact trim_neg _
  · rename_i h
    have e : v.toNat = v.natAbs := by omega
    rw [e]
    cases hd : Lib.decDigits v.natAbs with
    | nil => exact absurd hd (dec_ne _)
    | cons c r =>
      refine trim_not ?_
      intro ec
      have := dec_digits v.natAbs c (by rw [hd]; simp)
      rw [ec] at this
      simp at this
theorem atoi_itoa (v : Int) : Lib.atoi (Lib.itoa v) = some v := by
  unfold Lib.itoa
  split
  · rename_i h
    simp only [Lib.atoi, beq_self_eq_true, if_true, decNat_dec, Option.map_some]
    congr 1; omega
  · rename_i h
    cases hd : Lib.decDigits v.toNat with
    | nil => exact absurd hd (dec_ne _)
    | cons c r =>
      have hc := dec_digits v.toNat c (by rw [hd]; simp)
      have h1 : (c == 45) = false := by rw [beq_eq_false_iff_ne]; intro e; rw [e] at hc; simp at hc
      have h2 : (c == 43) = false := by rw [beq_eq_false_iff_ne]; intro e; rw [e] at hc; simp at hc
      have hn := decNat_dec v.toNat
      rw [hd] at hn
      simp only [Lib.atoi, h1, h2, Bool.false_eq_true, if_false, hn, Option.map_some]
      congr 1; omega
theorem numD_itoa (v : Int) (h : v.natAbs < 1000000000000000) : numD (Lib.itoa v) = some v := by
  have h15 : (Lib.decDigits v.natAbs).length ≤ 15 := by rw [Lib.decDigits_length]; exact nDigits_le 14 _ (by simpa using h)
  have hl : (Lib.itoa v).length ≤ 18 := by
    unfold Lib.itoa
    split
    · simp; omega
    · rename_i h; rw [show v.toNat = v.natAbs by omega]; omega
  unfold numD
  rw [trim_itoa, if_pos h15, Lib.parseIntB_64, Lib.atoiAll_short _ hl, atoi_itoa]
  simp [okN, Lib.NumEnd.ofOption]
theorem numD_some {l : List UInt8} {v : Int} (h : numD l = some v) : l = Lib.itoa v ∧ v.natAbs < 1000000000000000 := by
  unfold numD at h
  split at h
  · rename_i h15
    cases hp : Lib.parseIntB 64 l with
    | ok u =>
      rw [hp] at h
      simp only [okN] at h
      split at h
      · rename_i he
        cases h
        refine ⟨he.symm, ?_⟩
        rw [← he, trim_itoa, Lib.decDigits_length] at h15
        have h1 := Lib.lt_pow_nDigits v.natAbs
        have h2 : 10 ^ Lib.nDigits v.natAbs ≤ 10 ^ 15 := Nat.pow_le_pow_right (by decide) h15
        have h3 : (10 : Nat) ^ 15 = 1000000000000000 := by decide
        omega
      · cases h
    | «syntax» => rw [hp] at h; cases h
    | range => rw [hp] at h; cases h
  · cases h
theorem itoa_inj {m n : Int} (hm : m.natAbs < 1000000000000000) (h : Lib.itoa m = Lib.itoa n) : m = n := by
  have h1 := numD_itoa m hm
  rw [h] at h1
  have h2 := (numD_some h1).2
  have h3 := atoi_itoa n
  rw [← h, atoi_itoa] at h3
  exact Option.some.inj h3
theorem itoa_len (v : Int) (h : v.natAbs < 1000000000000000) : (Lib.itoa v).length ≤ 16 := by
  have h15 : (Lib.decDigits v.natAbs).length ≤ 15 := by rw [Lib.decDigits_length]; exact nDigits_le 14 _ (by simpa using h)
  unfold Lib.itoa
  split
  · simp; omega
  · rename_i h; rw [show v.toNat = v.natAbs by omega]; omega

/-- What is written otherwise is no number. -/
theorem numD_char {l : List UInt8} {c : UInt8} (hc : c ∈ l) (h : c ≠ 45 ∧ ¬ (48 ≤ c.toNat ∧ c.toNat ≤ 57)) : numD l = none := by
  cases hn : numD l with
  | none => rfl
  | some v =>
    have := (numD_some hn).1
    subst this
    rcases itoa_chars v c hc with e | e
    · exact absurd e h.1
    · exact absurd e h.2
theorem numD_zero {l : List UInt8} (hl : l ≠ []) : numD (48 :: l) = none := by
  cases hn : numD (48 :: l) with
  | none => rfl
  | some v =>
    have h := (numD_some hn).1
    unfold Lib.itoa at h
    split at h
    · simp at h
    · by_cases h0 : v.toNat = 0
      · rw [h0, Lib.decDigits_one (by decide)] at h
        simp at h
        exact absurd h hl
      · exact absurd rfl (dec_head v.toNat (by omega) 48 l h.symm)
theorem numD_minus : numD [45, 48] = none ∧ numD [45] = none ∧ numD [] = none ∧ numD [49, 50, 51, 52, 53, 54, 55, 56, 57, 48, 49, 50, 51, 52, 53, 54] = none := by
  refine ⟨?_, ?_, ?_, by decide⟩
  · cases hn : numD [45, 48] with
    | none => rfl
    | some v =>
      have h := (numD_some hn).1
      unfold Lib.itoa at h
      split at h
      · simp at h
        exact absurd rfl (dec_head v.natAbs (by omega) 48 [] h.symm)
      · exact absurd rfl ((fun e => by have := dec_digits v.toNat 45 (by rw [← h]; simp); simp at this) : ¬ (45 = 45))
  · cases hn : numD [45] with
    | none => rfl
    | some v =>
      have h := (numD_some hn).1
      unfold Lib.itoa at h
      split at h
      · simp at h
        exact absurd h (dec_ne _)
      · have := dec_digits v.toNat 45 (by rw [← h]; simp); simp at this
  · cases hn : numD [] with
    | none => rfl
    | some v => exact absurd (numD_some hn).1.symm (itoa_ne v)
theorem normD_num {l : List UInt8} (h : numD l = none) : normD 2 l = none := by
  unfold normD
  split
  · rfl
  · rw [if_neg (by decide), if_pos rfl, h]; rfl
theorem normD_itoa (v : Int) (h : v.natAbs < 1000000000000000) : normD 2 (Lib.itoa v) = some (Lib.itoa v) := by
  have := itoa_len v h
  unfold normD
  rw [if_neg (by rintro (e | e); exact itoa_ne v e; omega), if_neg (by decide), if_pos rfl, numD_itoa v h]; rfl
end Go.Proofs.YtaapdipejpbdeaaGreatDoor

/- brooklaw4.Make: how small what it makes is; an entry of the call's own. -/
namespace Go.Proofs.YtaapdipejpbdeaaGreatDoor
open Go.RowKit
set_option linter.unusedVariables false

theorem len_one {x : List UInt8} (h : x.length ≤ 1000) : tinyT 1 [x] := ⟨by simp, fun t ht => by rw [List.mem_singleton.1 ht]; exact h⟩
theorem mkN_len (ns : List UInt8) : (mkN ns).length ≤ 4 := by
  unfold mkN
  have := itoa_short ⟨kOf ns 0 % 6, by omega⟩
  simp only [List.length_cons]
  exact Nat.succ_le_succ this
theorem itoa_kOf (ns : List UInt8) (i : Nat) : (Lib.itoa (kOf ns i : Int)).length ≤ 3 := itoa_short ⟨kOf ns i, by have : kOf ns i < 256 := (ns.getD i 0).toNat_lt; omega⟩
theorem itoa_mod (n : Nat) : (Lib.itoa ((n % 9 : Nat) : Int)).length ≤ 3 := itoa_short ⟨n % 9, by omega⟩
def nonA (L : List AT) : Prop := ∀ a ∈ L, a.2 ≠ []
theorem tiny_one {k : Nat} (hk : 1 ≤ k) {T : List UInt8} {A : List (List UInt8)} (hT : T.length ≤ 1000) (hA : tinyT k A) : tinyA k [(T, A)] := ⟨by simpa using hk, fun a ha => by rw [List.mem_singleton.1 ha]; exact ⟨hT, hA⟩⟩
theorem perL_tiny {n : List UInt8} (h : n.length ≤ 1000) : tinyA 3 (perL n) ∧ nonA (perL n) :=
  ⟨⟨by simp [perL], fun a ha => by
    simp only [perL, List.mem_cons, List.not_mem_nil, or_false] at ha
    rcases ha with rfl | rfl | rfl
    · exact ⟨by simp, (len_one h).mono (by omega)⟩
    · exact ⟨by decide, (len_one (by decide)).mono (by omega)⟩
    · exact ⟨by decide, (len_one (by decide)).mono (by omega)⟩⟩, fun a ha => by
    simp only [perL, List.mem_cons, List.not_mem_nil, or_false] at ha
    rcases ha with rfl | rfl | rfl <;> simp⟩
theorem nonA.app {L M : List AT} (h : nonA L) (hm : nonA M) : nonA (L ++ M) := fun a ha => (List.mem_append.1 ha).elim (h a) (hm a)
theorem mkLa_tiny (ns : List UInt8) : tinyA 4 (mkLa ns) ∧ nonA (mkLa ns) := by
  unfold mkLa
  have hn := mkN_len ns
  split
  · refine ⟨⟨by simp, fun a ha => ?_⟩, fun a ha => ?_⟩
    · simp only [List.mem_cons, List.not_mem_nil, or_false] at ha
      rcases ha with rfl | rfl | rfl | rfl
      · exact ⟨by simp, (len_one (by omega)).mono (by omega)⟩
      · exact ⟨by decide, (len_one (by decide)).mono (by omega)⟩
      · exact ⟨by simp, (len_one (by decide)).mono (by omega)⟩
      · exact ⟨by simp, (len_one (by have := itoa_kOf ns 2; simp only [List.length_append]; simp; omega)).mono (by omega)⟩
    · simp only [List.mem_cons, List.not_mem_nil, or_false] at ha
      rcases ha with rfl | rfl | rfl | rfl <;> simp
  · obtain ⟨h1, h2⟩ := perL_tiny (n := mkN ns) (by omega)
    exact ⟨h1.mono (by omega), h2⟩
theorem mkLb_tiny (ns : List UInt8) : tinyA 5 (mkLb ns) ∧ nonA (mkLb ns) := by
  unfold mkLb
  obtain ⟨h1, h2⟩ := mkLa_tiny ns
  split
  · refine ⟨(h1.mono (by omega)).app (tiny_one (by omega) (by decide) ⟨by simp, fun t ht => ?_⟩) (by have := h1.1; simp; omega), h2.app fun a ha => by rw [List.mem_singleton.1 ha]; simp⟩
    simp only [List.mem_cons, List.not_mem_nil, or_false] at ht
    rcases ht with rfl | rfl
    · have := itoa_mod (kOf ns 2)
      simp only [List.length_append]
      simp at this ⊢
      omega
    · decide
  · exact ⟨h1.mono (by omega), h2⟩
theorem mkLc_tiny (ns : List UInt8) : tinyA 7 (mkLc ns) ∧ nonA (mkLc ns) := by
  unfold mkLc
  obtain ⟨h1, h2⟩ := mkLb_tiny ns
  split
  · have ht : tinyA 7 ((mkLb ns).set 1 (objB, ((mkLb ns).getD 1 ([], [])).2 ++ [[112, 111, 115, 105, 120]])) := (h1.mono (by omega)).set (by simp [objB]) (by
      refine tinyT.app ?_ ((len_one (by decide)).mono (by omega)) ?_
      · obtain ⟨x, hx⟩ := mkLb_one ns
        rw [List.getD_eq_getElem?_getD, hx]
        exact ((h1.2 _ (List.mem_of_getElem? hx)).2).mono (by omega)
      · obtain ⟨x, hx⟩ := mkLb_one ns
        rw [List.getD_eq_getElem?_getD, hx]
        simp)
    have hn : nonA ((mkLb ns).set 1 (objB, ((mkLb ns).getD 1 ([], [])).2 ++ [[112, 111, 115, 105, 120]])) := fun a ha => by
      rcases List.mem_or_eq_of_mem_set ha with h' | rfl
      · exact h2 _ h'
      · simp
    have hl : ((mkLb ns).set 1 (objB, ((mkLb ns).getD 1 ([], [])).2 ++ [[112, 111, 115, 105, 120]])).length ≤ 5 := by rw [List.length_set]; exact h1.1
    generalize (mkLb ns).set 1 (objB, ((mkLb ns).getD 1 ([], [])).2 ++ [[112, 111, 115, 105, 120]]) = M at ht hn hl ⊢
    refine ⟨ht.app ⟨by simp, fun a ha => ?_⟩ (by simp; omega), hn.app fun a ha => ?_⟩
    · simp only [List.mem_cons, List.not_mem_nil, or_false] at ha
      rcases ha with rfl | rfl
      · exact ⟨by simp, (len_one (by have := itoa_mod (kOf ns 4); simp only [List.length_append]; simp at this ⊢; omega)).mono (by omega)⟩
      · refine ⟨by simp, (len_one ?_).mono (by omega)⟩
        have hk : kOf ns 4 < 256 := (ns.getD 4 0).toNat_lt
        have := itoa_len ((kOf ns 4 : Int) - 100) (by omega)
        omega
    · simp only [List.mem_cons, List.not_mem_nil, or_false] at ha
      rcases ha with rfl | rfl <;> simp
  · exact ⟨h1.mono (by omega), h2⟩
theorem mkLd_tiny (ns : List UInt8) : tinyA 8 (mkLd ns) ∧ nonA (mkLd ns) := by
  unfold mkLd
  obtain ⟨h1, h2⟩ := mkLc_tiny ns
  split
  · exact ⟨(h1.mono (by omega)).app (tiny_one (by omega) (by decide) ((len_one (by decide)).mono (by omega))) (by have := h1.1; simp; omega), h2.app fun a ha => by rw [List.mem_singleton.1 ha]; simp⟩
  · exact ⟨h1.mono (by omega), h2⟩
theorem mkLd_pos (ns : List UInt8) : 0 < (mkLd ns).length := by
  unfold mkLd mkLc mkLb mkLa
  split <;> split <;> split <;> split <;> simp [perL]
theorem mkD_len (ns : List UInt8) : (mkD ns).length ≤ 30 := by
  have := mkN_len ns
  unfold mkD perD
  split
  · simp only [List.length_append]; simp; omega
  · split
    · simp only [List.length_append]; simp; omega
    · simp only [List.length_append]; simp; omega
end Go.Proofs.YtaapdipejpbdeaaGreatDoor
